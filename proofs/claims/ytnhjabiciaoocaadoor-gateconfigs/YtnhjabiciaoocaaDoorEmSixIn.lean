/- In by contracts: the first bits of two addresses, held side by side; two addresses held side by side. -/
import Derived.Test.YtnhjabiciaoocaaDoorEmSixBytes
import Derived.Test.YtnhjabiciaoocaaDoorProg
import Derived.Deep.RegionWith
namespace Go.Proofs.YtnhjabiciaoocaaDoor.Em
open Go.RowKit Go.Shelf
set_option maxHeartbeats 4000000 in
set_option maxRecDepth 100000 in
theorem eq_agg (x0 x1 x2 x3 x4 x5 x6 x7 y0 y1 y2 y3 y4 y5 y6 y7 : Int) (w : World) : (Op.equalIn 10000 23 (.agg #[.int .i64 x0, .int .i64 x1, .int .i64 x2, .int .i64 x3, .int .i64 x4, .int .i64 x5, .int .i64 x6, .int .i64 x7]) (.agg #[.int .i64 y0, .int .i64 y1, .int .i64 y2, .int .i64 y3, .int .i64 y4, .int .i64 y5, .int .i64 y6, .int .i64 y7])).run Tryd.prog w = .ok (x0 == y0 && x1 == y1 && x2 == y2 && x3 == y3 && x4 == y4 && x5 == y5 && x6 == y6 && x7 == y7) w := by
  have u3 := Tryd.underlying3
  have a3 := Tryd.isAgg3
  have z3 := Tryd.sizeOf3
  rw [show (10000 : Nat) = 9999 + 1 from rfl, Op.equalIn]
  simp only [Sem.run_bind, run_underlying Tryd.underlying23, Result.andThen_ok]
  simp only [Std.Legacy.Range.forIn_eq_forIn_range', Std.Legacy.Range.size, Nat.sub_zero, Nat.add_sub_cancel, Nat.div_one, List.range'_succ, List.range'_zero, List.forIn_cons, List.forIn_nil]
  go_simp
  by_cases h0 : x0 = y0
  case neg => simp [h0]
  by_cases h1 : x1 = y1
  case neg => simp [h0, h1]
  by_cases h2 : x2 = y2
  case neg => simp [h0, h1, h2]
  by_cases h3 : x3 = y3
  case neg => simp [h0, h1, h2, h3]
  by_cases h4 : x4 = y4
  case neg => simp [h0, h1, h2, h3, h4]
  by_cases h5 : x5 = y5
  case neg => simp [h0, h1, h2, h3, h4, h5]
  by_cases h6 : x6 = y6
  case neg => simp [h0, h1, h2, h3, h4, h5, h6]
  by_cases h7 : x7 = y7
  case neg => simp [h0, h1, h2, h3, h4, h5, h6, h7]
  simp [h0, h1, h2, h3, h4, h5, h6, h7]
/-- are two addresses one? -/
def eqz (a b : List Int) : Bool := el a 0 == el b 0 && el a 1 == el b 1 && el a 2 == el b 2 && el a 3 == el b 3 && el a 4 == el b 4 && el a 5 == el b 5 && el a 6 == el b 6 && el a 7 == el b 7
theorem eqz_iff (a b : List Int) : eqz a b = true ↔ ∀ j, j < 8 → el a j = el b j := by
  unfold eqz
  simp only [Bool.and_eq_true, beq_iff_eq]
  refine ⟨fun ⟨⟨⟨⟨⟨⟨⟨h0, h1⟩, h2⟩, h3⟩, h4⟩, h5⟩, h6⟩, h7⟩ j hj => ?_, fun h => ⟨⟨⟨⟨⟨⟨⟨h 0 (by omega), h 1 (by omega)⟩, h 2 (by omega)⟩, h 3 (by omega)⟩, h 4 (by omega)⟩, h 5 (by omega)⟩, h 6 (by omega)⟩, h 7 (by omega)⟩⟩
  rcases (by omega : j = 0 ∨ j = 1 ∨ j = 2 ∨ j = 3 ∨ j = 4 ∨ j = 5 ∨ j = 6 ∨ j = 7) with rfl | rfl | rfl | rfl | rfl | rfl | rfl | rfl <;> assumption
theorem eq_six (a b : List Int) (w : World) : (Op.equalIn 10000 23 (.agg #[.int .i64 (el a 0), .int .i64 (el a 1), .int .i64 (el a 2), .int .i64 (el a 3), .int .i64 (el a 4), .int .i64 (el a 5), .int .i64 (el a 6), .int .i64 (el a 7)]) (.agg #[.int .i64 (el b 0), .int .i64 (el b 1), .int .i64 (el b 2), .int .i64 (el b 3), .int .i64 (el b 4), .int .i64 (el b 5), .int .i64 (el b 6), .int .i64 (el b 7)])).run Tryd.prog w = .ok (eqz a b) w := eq_agg _ _ _ _ _ _ _ _ _ _ _ _ _ _ _ _ w
theorem clamp16 (a : Int) : (if 16 < if a < 0 then 0 else a then 16 else if a < 0 then 0 else a) = min (max a 0) 16 := by
  split <;> split at * <;> omega
/-- how far a number is shifted. -/
def shf (n : Int) (k : Nat) : Nat := (16 - min (max (n - 16 * (k : Int)) 0) 16).toNat
def fel (z : List Int) (n : Int) (k : Nat) : Int := el z k / (2 : Int) ^ shf n k
/-- the address while it is shifted, number by number. -/
def fz (z : List Int) (n : Int) (k : Nat) : List Int := (List.range 8).map fun j => if j < k then fel z n j else el z j
theorem el_fz (z : List Int) (n : Int) (k j : Nat) (hj : j < 8) : el (fz z n k) j = if j < k then fel z n j else el z j := by
  simp [el, fz, List.getD, hj]
set_option maxHeartbeats 2000000 in
theorem first_any (z : List Int) (n : Int) (w : World) (h0 : 0 ≤ n) (h1 : n ≤ 128) (hz : Ok6 z) : Calls Tryd.prog 34 #[six z, .int .i64 n] w fun e w' => e = .returned (six (fz z n 8)) ∧ Below w.heap.size w w' := by
  unfold six
  go_enter Tryd.func34, Tryd.ntmps34
  go_wp2
  go_loopw [7] (fun t wr => ∃ k : Nat, k ≤ 8 ∧ t = .int .i64 k ∧ Hid (SixIn w.heap.size (fz z n k) wr) ∧ Hid (SixIn (w.heap.size + 1) [] wr) ∧ Below w.heap.size w wr) (fun t _ => 8 - (intOf t).toNat)
  case atStart =>
    refine ⟨0, by omega, rfl, ?_, ?_, ?_⟩
    · have e : SixIn w.heap.size (fz z n 0) ((w.alloc (.cells (sixC z) 23)).alloc (.cells #[.int .i64 0, .int .i64 0, .int .i64 0, .int .i64 0, .int .i64 0, .int .i64 0, .int .i64 0, .int .i64 0] 23)) := by
        have h8 : SixIn w.heap.size z (w.alloc (.cells (sixC z) 23)) := by
          unfold SixIn
          show (w.heap.push _)[w.heap.size]? = _
          rw [Array.getElem?_push_size]
        have h9 := h8.kept ((Below.refl _ _).alloc (Nat.le_refl _) (.cells #[.int .i64 0, .int .i64 0, .int .i64 0, .int .i64 0, .int .i64 0, .int .i64 0, .int .i64 0, .int .i64 0] 23))
        have e2 : sixC (fz z n 0) = sixC z := by
          unfold sixC
          simp [el_fz]
        unfold SixIn at h9 ⊢
        rw [e2]; exact h9
      exact e
    · have := noughts_in (w.alloc (.cells (sixC z) 23))
      unfold noughts at this
      simp only [World.size_alloc] at this
      exact this
    · exact ((Below.refl _ _).alloc (Nat.le_refl _) _).alloc (by simp) _
  case round =>
    obtain ⟨k, hk, rfl, HS, HT, hB⟩ := hrel
    by_cases hlt : k < 8
    · have hc := (HS.out.facts k hlt).1
      rw [el_fz z n k k hlt, if_neg (by omega)] at hc
      have hf := (HS.out.facts k hlt).2.1
      have hx := hz k hlt
      have HS2 := hide (HS.out.set k hlt (fel z n k) (fz z n (k + 1)) (fun j hj => by
        rw [el_fz z n (k + 1) j hj, el_fz z n k j hj]
        by_cases e : j = k
        · subst e; rw [if_pos (by omega), if_pos rfl]
        · rw [if_neg e]
          by_cases h : j < k
          · rw [if_pos h, if_pos (by omega)]
          · rw [if_neg h, if_neg (by omega)]))
      have HT2 := hide (HT.out.other ⟨w.heap.size, k, none⟩ (by simp) (.int .i64 (fel z n k)))
      have hB2 := hB.setCell (p := ⟨w.heap.size, k, none⟩) (Nat.le_refl _) (.int .i64 (fel z n k))
      unfold fel shf at HS2 HT2 hB2
      rw [← clamp16] at HS2 HT2 hB2
      generalize el z k = x at hc hx HS2 HT2 hB2
      go_wp2
      go_roundw
      case rel => exact ⟨k + 1, by omega, by go_num, HS2, HT2, hB2⟩
      case measure => simp [intOf]; omega
    · obtain rfl : k = 8 := by omega
      obtain ⟨⟨q0, -, -⟩, ⟨q1, -, -⟩, ⟨q2, -, -⟩, ⟨q3, -, -⟩, ⟨q4, -, -⟩, ⟨q5, -, -⟩, ⟨q6, -, -⟩, ⟨q7, -, -⟩⟩ := HS.out.all
      obtain ⟨⟨c0, f0, -⟩, ⟨c1, f1, -⟩, ⟨c2, f2, -⟩, ⟨c3, f3, -⟩, ⟨c4, f4, -⟩, ⟨c5, f5, -⟩, ⟨c6, f6, -⟩, ⟨c7, f7, -⟩⟩ := HT.out.all
      clear HS HT
      go_wp2
      refine bodyPost_ret (v := .agg #[.int .i64 (el (fz z n 8) 0), .int .i64 (el (fz z n 8) 1), .int .i64 (el (fz z n 8) 2), .int .i64 (el (fz z n 8) 3), .int .i64 (el (fz z n 8) 4), .int .i64 (el (fz z n 8) 5), .int .i64 (el (fz z n 8) 6), .int .i64 (el (fz z n 8) 7)]) (by simp [results, Tryd.results34, go_sem, c0, c1, c2, c3, c4, c5, c6, c7]) rfl ⟨rfl, ?_⟩
      exact (((((((hB.setCell (Nat.le_succ _) _).setCell (Nat.le_succ _) _).setCell (Nat.le_succ _) _).setCell (Nat.le_succ _) _).setCell (Nat.le_succ _) _).setCell (Nat.le_succ _) _).setCell (Nat.le_succ _) _).setCell (Nat.le_succ _) _
def inF (a p : List Int) (n : Int) : Bool := (List.range 8).all fun j => fel a n j == fel p n j
theorem eq_inF (a p : List Int) (n : Int) : eqz (fz a n 8) (fz p n 8) = inF a p n := by
  rw [Bool.eq_iff_iff, eqz_iff]
  unfold inF
  rw [List.all_eq_true]
  constructor
  · intro h j hj
    have := h j (List.mem_range.1 hj)
    rw [el_fz a n 8 j (List.mem_range.1 hj), el_fz p n 8 j (List.mem_range.1 hj), if_pos (List.mem_range.1 hj), if_pos (List.mem_range.1 hj)] at this
    simpa using this
  · intro h j hj
    have := h j (List.mem_range.2 hj)
    rw [el_fz a n 8 j hj, el_fz p n 8 j hj, if_pos hj, if_pos hj]
    simpa using this
set_option maxHeartbeats 8000000 in
set_option maxRecDepth 100000 in
theorem in_ok (a p : List Int) (n : Int) (w : World) (ha : Ok6 a) (hp : Ok6 p) (h0 : 0 ≤ n) (h1 : n ≤ 128) : Calls Tryd.prog 22 #[six a, six p, .int .i64 n] w fun e w' => e = .returned (.tuple #[.bool (inF a p n), .nilIface]) ∧ Below w.heap.size w w' := by
  have hC := fun w => check_ok a w ha
  have hD := fun w => check_ok p w hp
  have hX := fun w => first_any a n w h0 h1 ha
  have hY := fun w => first_any p n w h0 h1 hp
  have hS : SixIn (w.heap.size + 1) p ((((w.alloc (.cells #[.int .i64 (el a 0), .int .i64 (el a 1), .int .i64 (el a 2), .int .i64 (el a 3), .int .i64 (el a 4), .int .i64 (el a 5), .int .i64 (el a 6), .int .i64 (el a 7)] 23)).alloc (.cells #[.int .i64 (el p 0), .int .i64 (el p 1), .int .i64 (el p 2), .int .i64 (el p 3), .int .i64 (el p 4), .int .i64 (el p 5), .int .i64 (el p 6), .int .i64 (el p 7)] 23)).alloc (.cells #[.int .i64 (el a 0), .int .i64 (el a 1), .int .i64 (el a 2), .int .i64 (el a 3), .int .i64 (el a 4), .int .i64 (el a 5), .int .i64 (el a 6), .int .i64 (el a 7)] 23)).alloc (.cells #[.int .i64 (el p 0), .int .i64 (el p 1), .int .i64 (el p 2), .int .i64 (el p 3), .int .i64 (el p 4), .int .i64 (el p 5), .int .i64 (el p 6), .int .i64 (el p 7)] 23)) :=
    ((by have := six_new p (w.alloc (.cells #[.int .i64 (el a 0), .int .i64 (el a 1), .int .i64 (el a 2), .int .i64 (el a 3), .int .i64 (el a 4), .int .i64 (el a 5), .int .i64 (el a 6), .int .i64 (el a 7)] 23)); simp only [World.size_alloc] at this; exact this : SixIn (w.heap.size + 1) p ((w.alloc (.cells #[.int .i64 (el a 0), .int .i64 (el a 1), .int .i64 (el a 2), .int .i64 (el a 3), .int .i64 (el a 4), .int .i64 (el a 5), .int .i64 (el a 6), .int .i64 (el a 7)] 23)).alloc (.cells #[.int .i64 (el p 0), .int .i64 (el p 1), .int .i64 (el p 2), .int .i64 (el p 3), .int .i64 (el p 4), .int .i64 (el p 5), .int .i64 (el p 6), .int .i64 (el p 7)] 23))).kept ((Below.refl _ _).alloc (Nat.le_refl _) _)).kept ((Below.refl _ _).alloc (Nat.le_refl _) _)
  have hB : Below w.heap.size w ((((w.alloc (.cells #[.int .i64 (el a 0), .int .i64 (el a 1), .int .i64 (el a 2), .int .i64 (el a 3), .int .i64 (el a 4), .int .i64 (el a 5), .int .i64 (el a 6), .int .i64 (el a 7)] 23)).alloc (.cells #[.int .i64 (el p 0), .int .i64 (el p 1), .int .i64 (el p 2), .int .i64 (el p 3), .int .i64 (el p 4), .int .i64 (el p 5), .int .i64 (el p 6), .int .i64 (el p 7)] 23)).alloc (.cells #[.int .i64 (el a 0), .int .i64 (el a 1), .int .i64 (el a 2), .int .i64 (el a 3), .int .i64 (el a 4), .int .i64 (el a 5), .int .i64 (el a 6), .int .i64 (el a 7)] 23)).alloc (.cells #[.int .i64 (el p 0), .int .i64 (el p 1), .int .i64 (el p 2), .int .i64 (el p 3), .int .i64 (el p 4), .int .i64 (el p 5), .int .i64 (el p 6), .int .i64 (el p 7)] 23)) := ((((Below.refl _ _).alloc (Nat.le_refl _) _).alloc (by simp) _).alloc (by simp; omega) _).alloc (by simp; omega) _
  have hE := eq_six (fz a n 8) (fz p n 8)
  have hI : eqz (fz a n 8) (fz p n 8) = inF a p n := eq_inF a p n
  rw [hI] at hE
  clear hI
  generalize inF a p n = r at hE ⊢
  unfold six sixC at hC hD
  unfold six at hX hY ⊢
  go_enter Tryd.func22, Tryd.ntmps22
  go_wp2_with (first
    | (go_at_call_of 17 (Value.agg #[.int .i64 (el a 0), .int .i64 (el a 1), .int .i64 (el a 2), .int .i64 (el a 3), .int .i64 (el a 4), .int .i64 (el a 5), .int .i64 (el a 6), .int .i64 (el a 7)]); refine (hC _).mono ?_; rintro e w1 ⟨rfl, rfl⟩)
    | (go_at_call_of 17 (Value.agg #[.int .i64 (el p 0), .int .i64 (el p 1), .int .i64 (el p 2), .int .i64 (el p 3), .int .i64 (el p 4), .int .i64 (el p 5), .int .i64 (el p 6), .int .i64 (el p 7)]); refine (hD _).mono ?_; rintro e w1 ⟨rfl, rfl⟩))
  go_region_with (first
    | (go_at_call_of 34 (Value.agg #[.int .i64 (el a 0), .int .i64 (el a 1), .int .i64 (el a 2), .int .i64 (el a 3), .int .i64 (el a 4), .int .i64 (el a 5), .int .i64 (el a 6), .int .i64 (el a 7)]); refine (hX _).mono ?_; rintro e w5 ⟨rfl, hb5⟩; have hb6 := Below.trans ((Below.refl _ _).drew) hb5; obtain ⟨⟨q0, -, -⟩, ⟨q1, -, -⟩, ⟨q2, -, -⟩, ⟨q3, -, -⟩, ⟨q4, -, -⟩, ⟨q5, -, -⟩, ⟨q6, -, -⟩, ⟨q7, -, -⟩⟩ := (hS.kept hb6).all)
    | (go_at_call_of 34 (Value.agg #[.int .i64 (el p 0), .int .i64 (el p 1), .int .i64 (el p 2), .int .i64 (el p 3), .int .i64 (el p 4), .int .i64 (el p 5), .int .i64 (el p 6), .int .i64 (el p 7)]); refine (hY _).mono ?_; rintro e w7 ⟨rfl, hb7⟩))
  all_goals
    go_wp2_with fail
    go_ret2
    exact ⟨rfl, bt hB (bt hb6 hb7)⟩
end Go.Proofs.YtnhjabiciaoocaaDoor.Em
