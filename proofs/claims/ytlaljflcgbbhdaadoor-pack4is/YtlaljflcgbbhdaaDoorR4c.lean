/- The document's own FourBytes and Bytes4, by contracts. -/
import Derived.Test.YtlaljflcgbbhdaaDoorR4b
namespace Go.Proofs.YtlaljflcgbbhdaaDoor
open Go.RowKit

theorem al_below (w : World) (o : Obj) : Below w.heap.size w (w.alloc o) := (Below.refl _ _).alloc (Nat.le_refl _) _
theorem row_four (w : World) (x0 x1 x2 x3 : Int) (h0 : 0 ≤ x0 ∧ x0 ≤ 255) (h1 : 0 ≤ x1 ∧ x1 ≤ 255) (h2 : 0 ≤ x2 ∧ x2 ≤ 255) (h3 : 0 ≤ x3 ∧ x3 ≤ 255) : Row8 (w.alloc (.cells #[.int .u8 x0, .int .u8 x1, .int .u8 x2, .int .u8 x3] 5)) (some ⟨w.heap.size, 0, none⟩) 4 4 [x0, x1, x2, x3] := by
  refine ⟨rfl, by simp [maxLen], ?_, (fun h => by cases h), fun _ => ⟨w.heap.size, 0, rfl, fun i hi => ?_⟩⟩
  · intro k
    match k with
    | 0 => simpa using h0
    | 1 => simpa using h1
    | 2 => simpa using h2
    | 3 => simpa using h3
    | k + 4 => simp
  · rcases (by omega : i = 0 ∨ i = 1 ∨ i = 2 ∨ i = 3) with rfl | rfl | rfl | rfl <;> simp
/-- the bytes of a number of 32 bits. -/
def b4 (f : Int) : List Int := [f / 16777216, f / 65536 % 256, f / 256 % 256, f % 256]
theorem rfour_row (f : Int) (w : World) (h : IsF f) : Calls Tryd.prog 28 #[.int .i64 f] w fun e w' => ∃ B, e = .returned (.slice (some ⟨B, 0, none⟩) 4 4) ∧ Row8 w' (some ⟨B, 0, none⟩) 4 4 (b4 f) ∧ Below w.heap.size w w' := by
  obtain ⟨h0, h1⟩ := h
  have HR := hide (row_four w (f / 16777216) (f / 65536 % 256) (f / 256 % 256) (f % 256) (by omega) (by omega) (by omega) (by omega))
  have HB := hide ((Below.refl w.heap.size w).alloc (Nat.le_refl _) (.cells #[.int .u8 (f / 16777216), .int .u8 (f / 65536 % 256), .int .u8 (f / 256 % 256), .int .u8 (f % 256)] 5))
  go_enter Tryd.func28, Tryd.ntmps28
  go_wp2
  go_ret
  exact ⟨_, rfl, HR.out, HB.out⟩
theorem hd_wb (s d t k i n c : Int) (hk : 0 ≤ k ∧ k ≤ 255) : (wb [17664, n, i, 16384, t * 256 + k, c] 6 ++ b4 s) ++ b4 d = P4.hd s d t k i n c := by
  have e1 : (t * 256 + k) / 256 = t := by omega
  have e2 : (t * 256 + k) % 256 = k := by omega
  simp [wb, b4, P4.hd, e1, e2]
theorem six0_new (w : World) (x0 x1 x2 x3 x4 x5 : Int) : Six0 w.heap.size [x0, x1, x2, x3, x4, x5] (w.alloc (.cells #[.int .i64 x0, .int .i64 x1, .int .i64 x2, .int .i64 x3, .int .i64 x4, .int .i64 x5] 3)) := by
  intro k hk
  rcases (by omega : k = 0 ∨ k = 1 ∨ k = 2 ∨ k = 3 ∨ k = 4 ∨ k = 5) with rfl | rfl | rfl | rfl | rfl | rfl <;> simp

set_option maxHeartbeats 4000000 in
theorem bytes4_any (s d t k i : Int) (a : Option Addr) (len cap : Nat) (c : Int) (w : World) (h : Okp s d t k i) (hl : len ≤ 320) (hc : 0 ≤ c ∧ c ≤ 65535) :
    Calls Tryd.prog 18 #[pk s d t k i a len cap, .int .i64 c] w fun e w' => ∃ v, e = .returned v ∧ Own w.heap.size w' v (P4.hd s d t k i (20 + len) c) ∧ Below w.heap.size w w' := by
  obtain ⟨hs, hd, ht, hk, hi⟩ := h
  have HS := hide (fun W => rfour_row s W hs)
  have HD := hide (fun W => rfour_row d W hd)
  have HW := hide (fun B W h => words_any B [17664, 20 + (len : Int), i, 16384, t * 256 + k, c] W h (by
    intro j hj
    obtain ⟨ht0, ht1⟩ := ht
    obtain ⟨hk0, hk1⟩ := hk
    obtain ⟨hi0, hi1⟩ := hi
    rcases (by omega : j = 0 ∨ j = 1 ∨ j = 2 ∨ j = 3 ∨ j = 4 ∨ j = 5) with rfl | rfl | rfl | rfl | rfl | rfl <;> simp only [List.getD_cons_zero, List.getD_cons_succ] <;> omega))
  have HH := hide (hd_wb s d t k i (20 + (len : Int)) c hk)
  have HL1 := hide (show (wb [17664, 20 + (len : Int), i, 16384, t * 256 + k, c] 6).length + 4 ≤ 1000000000 by rw [wb_len]; omega)
  have HL2 := hide (show (wb [17664, 20 + (len : Int), i, 16384, t * 256 + k, c] 6 ++ b4 s).length + 4 ≤ 1000000000 by rw [List.length_append, wb_len]; simp [b4])
  have HB0 := hide (bx_below w s d t k i a len cap)
  have HP := hide (pk_new w s d t k i a len cap)
  unfold bx at HB0
  have hbs := al_below (w.alloc (.cells #[.int .i64 s, .int .i64 d, .int .i64 t, .int .i64 k, .int .i64 i, .slice a len cap] 24)) (.cells #[.int .i64 17664, .int .i64 (20 + (len : Int)), .int .i64 i, .int .i64 16384, .int .i64 (t * 256 + k), .int .i64 c] 3)
  have HX := hide (six0_new (w.alloc (.cells #[.int .i64 s, .int .i64 d, .int .i64 t, .int .i64 k, .int .i64 i, .slice a len cap] 24)) 17664 (20 + (len : Int)) i 16384 (t * 256 + k) c)
  rw [World.size_alloc] at HX
  replace HB0 := hide (bt HB0.out hbs)
  replace HP := hide (HP.out.kept hbs)
  generalize wb [17664, 20 + (len : Int), i, 16384, t * 256 + k, c] 6 = Z at HW HH HL1 HL2
  obtain ⟨ht0, ht1⟩ := ht
  obtain ⟨hk0, hk1⟩ := hk
  obtain ⟨hi0, hi1⟩ := hi
  have HPL := hide HP.out.lt
  clear hbs hs hd
  unfold pk
  go_enter Tryd.func18, Tryd.ntmps18
  go_upto_region 3 with (go_at_call 27; refine (HW.out _ _ HX.out).mono ?_; rintro e w1 ⟨v1, rfl, o1, hb1⟩; replace HP := hide (HP.out.kept hb1); replace o1 := hide (o1.mono (show w.heap.size + 1 ≤ _ from HPL.out)); replace HB0 := hide (bt HB0.out hb1); clear hb1)
  obtain ⟨p0, p1, -, -, -, -⟩ := HP.out.all
  go_upto_region 4 with (first
    | (go_at_call 28; refine (HS.out _).mono ?_; rintro e w2 ⟨B2, rfl, hr2, hb2⟩; replace HP := hide (HP.out.kept hb2); replace o1 := hide (o1.out.kept hb2); replace HB0 := hide (bt HB0.out hb2); replace hr2 := hide hr2; clear hb2 p0 p1)
    | (at_builtin; refine wpList_app rfl (.tmp 22) (.tmp 25) rfl (w.heap.size + 1) _ Z rfl o1.out _ 4 4 _ rfl hr2.out HL1.out HP.out.lt ?_; intro v3 w3 o3 g3; replace o3 := hide o3; replace HP := hide (show PkIn w.heap.size s d t k i a len cap w3 from (g3.block _ HP.out.lt (fun e => by have := (o1.out.2.lt _ e.symm).1; omega)).trans HP.out); replace HB0 := hide (HB0.out.grown g3 HB0.out.size (fun g h => Nat.le_of_succ_le (o1.out.2.lt g h).1))))
  clear hr2
  obtain ⟨-, p1, -, -, -, -⟩ := HP.out.all
  go_wp2_with (first
    | (go_at_call 28; refine (HD.out _).mono ?_; rintro e w4 ⟨B4, rfl, hr4, hb4⟩; replace HP := hide (HP.out.kept hb4); replace o3 := hide (o3.out.kept hb4); replace HB0 := hide (bt HB0.out hb4); replace hr4 := hide hr4; clear hb4 p1)
    | (at_builtin; refine wpList_app rfl (.tmp 27) (.tmp 30) rfl (w.heap.size + 1) _ (Z ++ b4 s) rfl o3.out _ 4 4 _ rfl hr4.out HL2.out HP.out.lt ?_; intro v5 w5 o5 g5; replace o5 := hide o5; replace HB0 := hide (HB0.out.grown g5 HB0.out.size (fun g h => Nat.le_of_succ_le (o3.out.2.lt g h).1))))
  go_ret
  rw [HH.out] at o5
  exact ⟨_, rfl, o5.out.mono (Nat.le_succ _), HB0.out⟩
end Go.Proofs.YtlaljflcgbbhdaaDoor
