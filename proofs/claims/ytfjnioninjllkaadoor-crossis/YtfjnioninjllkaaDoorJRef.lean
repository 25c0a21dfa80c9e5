/- The document's own words, OverOf, Over4 and Over6, and the program's Over6, by contracts. The document's own OverOf, Over4 and Over6, and the program's Over6, by contracts. The document's own Over6. -/
import Derived.Test.YtfjnioninjllkaaDoorSgRef
namespace Go.Proofs.YtfjnioninjllkaaDoor
open Go.RowKit
attribute [local go_sem ↓] Go.wp_at_zero Go.wp_at_succ

set_option maxHeartbeats 4000000 in
set_option maxRecDepth 100000 in
theorem words_any (W0 : World) (v : Value) (zs : List Int) (B n : Nat) (l : List Int) (w : World) (hg : Gr W0 w v zs) (hl : Ints B l w) (hn : l.length = n) (hm : n ≤ 100) (hz : zs.length ≤ 1000000) (hw : ∀ k, k < n → 0 ≤ l.getD k 0 ∧ l.getD k 0 ≤ 65535) :
    Calls Tryd.prog 67 #[v, .slice (some ⟨B, 0, none⟩) n n] w fun e w' => ∃ v', e = .returned v' ∧ Gr W0 w' v' (zs ++ wsn 2 l n) := by
  have HG := hide hg
  have HL := hide hl
  have HN := hide hn
  have HW := hide hw
  have HZ := hide hz
  clear hg hl hn hw hz
  go_enter Tryd.func67, Tryd.ntmps67
  go_wp2
  go_loopw [0, 5] (fun v i wr => ∃ k : Nat, k ≤ n ∧ i = .int .i64 k ∧ Hid (Gr W0 wr v (zs ++ wsn 2 l k)) ∧ Hid (Ints B l wr)) (fun _ i _ => n - (intOf i).toNat)
  case atStart => exact ⟨0, by omega, rfl, by simpa [wsn] using HG, HL⟩
  case round =>
    obtain ⟨k, hk, rfl, HO, HI⟩ := hrel
    clear HG HL
    by_cases hlt : k < n
    · have hcx := HI.out.cell k (by rw [HN.out]; exact hlt)
      have hx := HW.out k hlt
      have HS := hide (show zs ++ wsn 2 l (k + 1) = (zs ++ wsn 2 l k) ++ [l.getD k 0 / 256, l.getD k 0 % 256] by rw [List.append_assoc, ← nb2 _ hx.1 hx.2]; rfl)
      have HLN := hide (show (zs ++ wsn 2 l k).length + 2 ≤ 1000000000 by rw [List.length_append, wsn_len]; have := HZ.out; omega)
      generalize l.getD k 0 = x at hcx hx HS
      obtain ⟨hx0, hx1⟩ := hx
      have hsz := HO.out.2.size
      have i0 : (0 : Int) ≤ (k : Int) := by omega
      have i1 : (k : Int) < (n : Int) := by omega
      have q1 : IntKind.i64.wrap (x.tdiv 256) = x / 256 := by rw [Int.tdiv_eq_ediv_of_nonneg hx0, IntKind.wrap_i64]; omega
      have q2 : IntKind.u8.wrap (x / 256) = x / 256 := by rw [IntKind.wrap_u8]; omega
      have q3 : x.tmod 256 = x % 256 := Int.tmod_eq_emod_of_nonneg hx0
      have q4 : IntKind.u8.wrap (x % 256) = x % 256 := by rw [IntKind.wrap_u8]; omega
      have hb1 : Below wr.heap.size wr (wr.alloc (.cells #[.int .u8 (x / 256), .int .u8 (x % 256)] 5)).drew := ((Below.refl _ _).alloc (Nat.le_refl _) _).drew
      have HO2 := hide (HO.out.below hb1)
      have HI2 := hide (HI.out.kept hb1)
      have HC := hide (show Row8 (wr.alloc (.cells #[.int .u8 (x / 256), .int .u8 (x % 256)] 5)).drew (some ⟨wr.heap.size, 0, none⟩) 2 2 [x / 256, x % 256] from row_pair wr (x / 256) (x % 256) (by omega) (by omega))
      generalize zs ++ wsn 2 l k = Z at HO HO2 HS HLN
      obtain ⟨N, hN⟩ : ∃ N, N = (Z ++ [x / 256, x % 256]).length := ⟨_, rfl⟩
      have HN1 := hide hN.symm
      have hne : wr.heap.size ≠ B := World.new_ne wr _ hcx
      clear hb1 hN HW
      go_wp2
      go_region_held3 (fun w' => w'.cell? ⟨B, k, none⟩ = some (.int .i64 x))
        (first
          | go_keep
          | (go_split_ands; exact g5.cell (by simp [*]) (HI2.out.ne HO2.out.1)))
        (first | (refine step_app rfl (.tmp 12) (.tmp 25) rfl W0.heap.size _ Z (by rfl) HO2.out.1 _ ⟨_, rfl⟩ 2 2 [x / 256, x % 256] N HN1.out (by rfl) HC.out HLN.out HO2.out.2.size ?_; intro a5 c5 w5 o5 g5))
      have HG5 := hide (show Gr W0 w5 (.slice a5 N c5) (Z ++ [x / 256, x % 256]) from ⟨o5, HO2.out.2.grown g5 HO2.out.2.size (fun k e => (HO2.out.1.2.lt k e).1)⟩)
      have HI5 := hide (HI2.out.grown HO2.out.1 g5)
      clear o5 g5
      go_wp2_with fail
      go_roundw
      case rel => exact ⟨k + 1, by omega, by go_num, HS.out ▸ HG5.out, HI5⟩
      case measure => simp [intOf]; omega
    · obtain rfl : k = n := by omega
      go_wp2
      go_ret
      exact ⟨_, rfl, HO.out⟩
end Go.Proofs.YtfjnioninjllkaaDoor

namespace Go.Proofs.YtfjnioninjllkaaDoor
open Go.RowKit
attribute [local go_sem ↓] Go.wp_at_zero Go.wp_at_succ

theorem row_none (w : World) : Row8 w none 0 0 [] := ⟨rfl, by simp [maxLen], SM.oct_nil, fun _ => ⟨rfl, rfl⟩, fun h => by omega⟩
theorem up_bd {m n : Int} (h : up m n = true) : 0 ≤ n ∧ n ≤ m := up_true h
theorem up_no {m n : Int} (h : up m n = false) : n < 0 ∨ m < n := by
  have := of_decide_eq_false h
  omega
set_option maxHeartbeats 2000000 in
theorem roverof_ok (a1 : Option Addr) (l1 c1 : Nat) (xs : List Int) (a2 : Option Addr) (l2 c2 : Nat) (ys : List Int) (k n : Int) (w : World) (r1 : Row8 w a1 l1 c1 xs) (r2 : Row8 w a2 l2 c2 ys) (hz : (xs ++ ys).length ≤ 40) (hk : up 255 k = true) (hn : up 320 n = true) :
    Calls Tryd.prog 63 #[.slice a1 l1 c1, .slice a2 l2 c2, .int .i64 k, .int .i64 n] w fun e w' => e = .returned (.tuple #[.int .i64 (ovs (xs ++ ys) k n), .int .i64 0]) ∧ Below w.heap.size w w' := by
  obtain ⟨hk0, hk1⟩ := up_bd hk
  obtain ⟨hn0, hn1⟩ := up_bd hn
  have R1 := hide r1
  have R2 := hide r2
  have HL1 := hide (show ([] : List Int).length + l1 ≤ 1000000000 by have := r1.1; rw [List.length_append] at hz; simp; omega)
  have HL2 := hide (show xs.length + l2 ≤ 1000000000 by have := r2.1; rw [List.length_append] at hz; omega)
  obtain ⟨R, hR⟩ : ∃ R, R = ovs (xs ++ ys) k n := ⟨_, rfl⟩
  rw [← hR]
  have HO := hide (show R = SM.fold (SM.tot ((xs ++ ys) ++ wsn 2 [k, n] 2) ((xs ++ ys).length + 4)) from hR)
  have HL0 := hide (show ((xs ++ ys) ++ wsn 2 [k, n] 2).length = (xs ++ ys).length + 4 by rw [List.length_append, wsn_len])
  obtain ⟨N, hN⟩ : ∃ N, N = (xs ++ ys).length + 4 := ⟨_, rfl⟩
  have HL := hide (show ((xs ++ ys) ++ wsn 2 [k, n] 2).length = N by rw [hN]; exact HL0.out)
  have HN2 := hide (show N ≤ 2000 by omega)
  rw [← hN] at HO
  have HZ := hide hz
  have HG := hide (Gr.nil w)
  have HW := hide (fun W B v hg hi => words_any w v (xs ++ ys) B 2 [k, n] W hg hi rfl (by omega) (by have := HZ.out; omega) (fun j hj => by
    rcases (by omega : j = 0 ∨ j = 1) with rfl | rfl
    · show 0 ≤ k ∧ k ≤ 65535; omega
    · show 0 ≤ n ∧ n ≤ 65535; omega))
  clear r1 r2 hz hN HL0 hR
  go_enter Tryd.func63, Tryd.ntmps63
  go_upto_region 5 with (go_at_call 41; refine (risbyte_any _ _).mono ?_; rintro e w' ⟨rfl, hw⟩; rw [hw]; clear hw w')
  go_upto_region 6 with (at_builtin; refine gr_app rfl (.tmp 24) (.tmp 25) rfl rfl HG.out rfl R1.out HL1.out ?_; intro v1 w1 hg1; rw [List.nil_append] at hg1; replace hg1 := hide hg1)
  go_upto_region 7 with (at_builtin; refine gr_app rfl (.tmp 27) (.tmp 28) rfl rfl hg1.out rfl (R2.out.below hg1.out.2) HL2.out ?_; intro v2 w2 hg2; replace hg2 := hide hg2)
  generalize xs ++ ys = Z at HW HO HL hg2
  go_wp2_with (first
    | (go_at_call 67; refine (HW.out _ _ _ (hg2.out.below (al_below _ _)) (ints2 w2 k n)).mono ?_; rintro e w3 ⟨v3, rfl, hg3⟩; obtain ⟨a3, c3, hv3, hr3, -⟩ := hg3.1.row8; rw [HL.out] at hv3 hr3; subst hv3; replace hg3 := hide hg3; replace hr3 := hide hr3)
    | (go_at_call 69; refine (rsumof_any _ _ _ _ _ hr3.out HN2.out).mono ?_; rintro e w4 ⟨rfl, rfl⟩))
  go_ret2
  exact ⟨by rw [HO.out]; rfl, hg3.out.2⟩
set_option maxHeartbeats 2000000 in
theorem roverof_bad (a1 : Option Addr) (l1 c1 : Nat) (a2 : Option Addr) (l2 c2 : Nat) (k n : Int) (w : World) (h : up 255 k = false ∨ up 320 n = false) :
    Calls Tryd.prog 63 #[.slice a1 l1 c1, .slice a2 l2 c2, .int .i64 k, .int .i64 n] w fun e w' => e = .returned (.tuple #[.int .i64 0, .int .i64 1]) ∧ w' = w := by
  generalize hk : up 255 k = uk at h
  cases uk
  · clear h
    go_enter Tryd.func63, Tryd.ntmps63
    go_wp2_with (go_at_call 41; refine (risbyte_any _ _).mono ?_; rintro e w' ⟨rfl, rfl⟩)
    go_ret2
    exact ⟨rfl, rfl⟩
  · have hn := up_no (show up 320 n = false by simpa using h)
    clear h
    by_cases h0 : n < 0
    · clear hn
      go_enter Tryd.func63, Tryd.ntmps63
      go_wp2_with (go_at_call 41; refine (risbyte_any _ _).mono ?_; rintro e w' ⟨rfl, rfl⟩)
      go_ret2
      exact ⟨rfl, rfl⟩
    · have hn1 : 320 < n := by omega
      clear hn
      go_enter Tryd.func63, Tryd.ntmps63
      go_wp2_with (go_at_call 41; refine (risbyte_any _ _).mono ?_; rintro e w' ⟨rfl, rfl⟩)
      go_ret2
      exact ⟨rfl, rfl⟩
theorem b4_nb (x : Int) (h0 : 0 ≤ x) (h1 : x ≤ 4294967295) : b4 x = nb 4 x := by
  show _ = [x / 256 ^ 3 % 256, x / 256 ^ 2 % 256, x / 256 ^ 1 % 256, x / 256 ^ 0 % 256]
  unfold b4
  rw [show x / 256 ^ 3 % 256 = x / 16777216 by omega, show x / 256 ^ 2 % 256 = x / 65536 % 256 by omega, show x / 256 ^ 1 % 256 = x / 256 % 256 by omega, show x / 256 ^ 0 % 256 = x % 256 by omega]
set_option maxHeartbeats 2000000 in
theorem rover4_ok (s d k n : Int) (w : World) (hs : up 4294967295 s = true) (hd : up 4294967295 d = true) (hk : up 255 k = true) (hn : up 320 n = true) :
    Calls Tryd.prog 44 #[.int .i64 s, .int .i64 d, .int .i64 k, .int .i64 n] w fun e w' => e = .returned (.tuple #[.int .i64 (ovs (wsn 4 [s, d] 2) k n), .int .i64 0]) ∧ Below w.heap.size w w' := by
  have HS := hide (fun W => rfour_row s W (up_true hs))
  have HD := hide (fun W => rfour_row d W (up_true hd))
  have e : b4 s ++ b4 d = wsn 4 [s, d] 2 := by rw [b4_nb s (up_true hs).1 (up_true hs).2, b4_nb d (up_true hd).1 (up_true hd).2]; rfl
  rw [← e]
  have HO := hide (fun W a1 a2 r1 r2 => roverof_ok a1 4 4 (b4 s) a2 4 4 (b4 d) k n W r1 r2 (by simp [b4]) hk hn)
  clear hk hn e
  generalize b4 s = S at HS HO ⊢
  generalize b4 d = D at HD HO ⊢
  go_enter Tryd.func44, Tryd.ntmps44
  go_upto_region 5 with (go_at_call 17; refine (isfour_any _ _).mono ?_; rintro e w' ⟨rfl, hw⟩; rw [hw]; clear hw w')
  go_wp2_with (first
    | (go_at_call 66; with_reducible refine (HS.out _).mono ?_; rintro e w1 ⟨B1, rfl, hr1, hb1⟩; replace hr1 := hide hr1; replace hb1 := hide hb1)
    | (go_at_call 66; with_reducible refine (HD.out _).mono ?_; rintro e w2 ⟨B2, rfl, hr2, hb2⟩; replace hr2 := hide hr2; replace hr1 := hide (hr1.out.below hb2); replace hb1 := hide (bt hb1.out hb2); clear hb2)
    | (go_at_call 63; refine (HO.out _ _ _ hr1.out hr2.out).mono ?_; rintro e w3 ⟨rfl, hb3⟩; replace hb1 := hide (bt hb1.out hb3); clear hb3))
  go_ret2
  exact ⟨rfl, hb1.out⟩
set_option maxHeartbeats 2000000 in
theorem rover4_bad (s d k n : Int) (w : World) (h : ¬ (up 4294967295 s = true ∧ up 4294967295 d = true ∧ up 255 k = true ∧ up 320 n = true)) :
    Calls Tryd.prog 44 #[.int .i64 s, .int .i64 d, .int .i64 k, .int .i64 n] w fun e w' => e = .returned (.tuple #[.int .i64 0, .int .i64 1]) ∧ Below w.heap.size w w' := by
  generalize hs : up 4294967295 s = us at h
  generalize hd : up 4294967295 d = ud at h
  cases us
  · clear h
    go_enter Tryd.func44, Tryd.ntmps44
    go_wp2_with (go_at_call 17; refine (isfour_any _ _).mono ?_; rintro e w' ⟨rfl, rfl⟩)
    go_ret2
    exact ⟨rfl, Below.refl _ _⟩
  · cases ud
    · clear h
      go_enter Tryd.func44, Tryd.ntmps44
      go_wp2_with (go_at_call 17; refine (isfour_any _ _).mono ?_; rintro e w' ⟨rfl, rfl⟩)
      go_ret2
      exact ⟨rfl, Below.refl _ _⟩
    · have hb : up 255 k = false ∨ up 320 n = false := by
        cases hk : up 255 k
        · exact .inl rfl
        · cases hn : up 320 n
          · exact .inr rfl
          · exact absurd ⟨rfl, rfl, hk, hn⟩ h
      have HS := hide (fun W => rfour_row s W (up_true hs))
      have HD := hide (fun W => rfour_row d W (up_true hd))
      have HO := hide (fun W a1 a2 => roverof_bad a1 4 4 a2 4 4 k n W hb)
      clear h hb
      go_enter Tryd.func44, Tryd.ntmps44
      go_upto_region 5 with (go_at_call 17; refine (isfour_any _ _).mono ?_; rintro e w' ⟨rfl, hw⟩; rw [hw]; clear hw w')
      go_wp2_with (first
        | (go_at_call 66; with_reducible refine (HS.out _).mono ?_; rintro e w1 ⟨B1, rfl, -, hb1⟩; replace hb1 := hide hb1)
        | (go_at_call 66; with_reducible refine (HD.out _).mono ?_; rintro e w2 ⟨B2, rfl, -, hb2⟩; replace hb1 := hide (bt hb1.out hb2); clear hb2)
        | (go_at_call 63; refine (HO.out _ _ _).mono ?_; rintro e w3 ⟨rfl, rfl⟩))
      go_ret2
      exact ⟨rfl, hb1.out⟩
end Go.Proofs.YtfjnioninjllkaaDoor

namespace Go.Proofs.YtfjnioninjllkaaDoor
open Go.RowKit
attribute [local go_sem ↓] Go.wp_at_zero Go.wp_at_succ hload_shut
set_option maxRecDepth 100000 in
set_option maxHeartbeats 4000000 in
theorem rover6_any (s d : List Int) (k n : Int) (w : World) (hs : Ok6 s) (hd : Ok6 d) (R E : Int) (hO : ∀ W a1 c1 a2 c2, Row8 W a1 16 c1 (by16 s 8) → Row8 W a2 16 c2 (by16 d 8) → Calls Tryd.prog 63 #[.slice a1 16 c1, .slice a2 16 c2, .int .i64 k, .int .i64 n] W fun e w' => e = .returned (.tuple #[.int .i64 R, .int .i64 E]) ∧ Below W.heap.size W w') :
    Calls Tryd.prog 42 #[.agg (sixC s), .agg (sixC d), .int .i64 k, .int .i64 n] w fun e w' => e = .returned (.tuple #[.int .i64 R, .int .i64 E]) ∧ Below w.heap.size w w' := by
  have HF1 := hide (fun w => fault_ok s w hs)
  have HF2 := hide (fun w => fault_ok d w hd)
  have HS := hide (fun w => rbytes_ok s w hs)
  have HD := hide (fun w => rbytes_ok d w hd)
  have HO := hide hO
  clear hs hd hO
  generalize by16 s 8 = S at HS HO
  generalize by16 d 8 = D at HD HO
  have b1 := al_below w (.cells (sixC s) 23)
  have b2 := al_below (w.alloc (.cells (sixC s) 23)) (.cells (sixC d) 23)
  have HB := hide (bt b1 b2)
  have P1 := hide ((six_al s w).kept b2)
  have P2 := hide (six_al2 d w (.cells (sixC s) 23))
  clear b1 b2
  go_enter Tryd.func42, Tryd.ntmps42
  go_upto_region 1 with fail
  generalize (w.alloc (.cells (sixC s) 23)).alloc (.cells (sixC d) 23) = W at HB P1 P2 ⊢
  have l1 := P1.out.hl
  go_upto_region 3 with (first
    | (go_at_call 25; (with_reducible refine (HF1.out _).mono ?_); rintro e w1 ⟨rfl, hb1⟩; replace HB := hide (bt HB.out hb1); replace P1 := hide (P1.out.kept hb1); replace P2 := hide (P2.out.kept hb1); clear hb1 l1; have l1 := P2.out.hl)
    | (go_at_call 25; (with_reducible refine (HF2.out _).mono ?_); rintro e w2 ⟨rfl, hb2⟩; replace HB := hide (bt HB.out hb2); replace P1 := hide (P1.out.kept hb2); replace P2 := hide (P2.out.kept hb2); clear hb2 l1))
  replace HB := hide (bt HB.out (Below.refl w2.heap.size w2).drew)
  replace P1 := hide (P1.out.kept (Below.refl w2.heap.size w2).drew)
  replace P2 := hide (P2.out.kept (Below.refl w2.heap.size w2).drew)
  go_region_held3 (fun w' => (hload (.pointer (some ⟨w.heap.size, 0, none⟩))).run Tryd.prog w' = .ok (.agg (sixC s)) w' ∧ (hload (.pointer (some ⟨w.heap.size + 1, 0, none⟩))).run Tryd.prog w' = .ok (.agg (sixC d)) w')
    (first
      | exact ⟨P1.out.hl, P2.out.hl⟩
      | go_keep)
    (first
      | (go_at_call 64; (with_reducible refine (HS.out _).mono ?_); rintro e w3 ⟨a3, c3, rfl, hr3, hb3⟩; replace HB := hide (bt HB.out hb3); replace P1 := hide (P1.out.kept hb3); replace P2 := hide (P2.out.kept hb3); replace hr3 := hide hr3; clear hb3)
      | (go_at_call 64; (with_reducible refine (HD.out _).mono ?_); rintro e w4 ⟨a4, c4, rfl, hr4, hb4⟩; replace HB := hide (bt HB.out hb4); replace P1 := hide (P1.out.kept hb4); replace P2 := hide (P2.out.kept hb4); replace hr3 := hide (hr3.out.below hb4); replace hr4 := hide hr4; clear hb4)
      | (go_at_call 63; refine (HO.out _ _ _ _ _ hr3.out hr4.out).mono ?_; rintro e w5 ⟨rfl, hb5⟩; replace HB := hide (bt HB.out hb5); replace P1 := hide (P1.out.kept hb5); replace P2 := hide (P2.out.kept hb5); clear hb5))
  go_wp2
  go_ret2
  exact ⟨rfl, HB.out⟩
set_option maxRecDepth 100000 in
set_option maxHeartbeats 4000000 in
theorem rover6_bad (s d : List Int) (k n : Int) (w : World) (h : ¬ (Ok6 s ∧ Ok6 d)) :
    Calls Tryd.prog 42 #[.agg (sixC s), .agg (sixC d), .int .i64 k, .int .i64 n] w fun e w' => e = .returned (.tuple #[.int .i64 0, .int .i64 1]) ∧ Below w.heap.size w w' := by
  have b1 := al_below w (.cells (sixC s) 23)
  have b2 := al_below (w.alloc (.cells (sixC s) 23)) (.cells (sixC d) 23)
  have HB := hide (bt b1 b2)
  have P1 := hide ((six_al s w).kept b2)
  have P2 := hide (six_al2 d w (.cells (sixC s) 23))
  clear b1 b2
  by_cases hs : Ok6 s
  · have hd : ¬ Ok6 d := fun hd => h ⟨hs, hd⟩
    have HF1 := hide (fun w => fault_ok s w hs)
    have HF2 := hide (fun w => fault_bad d w hd)
    clear hs hd h
    go_enter Tryd.func42, Tryd.ntmps42
    go_upto_region 1 with fail
    generalize (w.alloc (.cells (sixC s) 23)).alloc (.cells (sixC d) 23) = W at HB P1 P2 ⊢
    have l1 := P1.out.hl
    go_wp2_with (first
      | (go_at_call 25; (with_reducible refine (HF1.out _).mono ?_); rintro e w1 ⟨rfl, hb1⟩; replace HB := hide (bt HB.out hb1); replace P2 := hide (P2.out.kept hb1); clear hb1 l1; have l1 := P2.out.hl)
      | (go_at_call 25; (with_reducible refine (HF2.out _).mono ?_); rintro e w2 ⟨rfl, hb2⟩; replace HB := hide (bt HB.out hb2); clear hb2 l1))
    go_ret2
    exact ⟨rfl, HB.out⟩
  · have HF1 := hide (fun w => fault_bad s w hs)
    clear hs h
    go_enter Tryd.func42, Tryd.ntmps42
    go_upto_region 1 with fail
    generalize (w.alloc (.cells (sixC s) 23)).alloc (.cells (sixC d) 23) = W at HB P1 P2 ⊢
    have l1 := P1.out.hl
    go_wp2_with (go_at_call 25; (with_reducible refine (HF1.out _).mono ?_); rintro e w1 ⟨rfl, hb1⟩; replace HB := hide (bt HB.out hb1); clear hb1 l1)
    go_ret2
    exact ⟨rfl, HB.out⟩
end Go.Proofs.YtfjnioninjllkaaDoor
