/- first and In by contracts: the first bits of two addresses, held side by side. -/
import Derived.Test.YtdbhhlggddbehaaGreatDoorAddrRead
namespace Go.Proofs.YtdbhhlggddbehaaGreatDoor
open Go.RowKit Go.Shelf

/-- how far a number is shifted. -/
def shf (n : Int) (k : Nat) : Nat := (16 - min (max (n - 16 * (k : Int)) 0) 16).toNat
def fel (z : List Int) (n : Int) (k : Nat) : Int := el z k / (2 : Int) ^ shf n k
/-- the address while it is shifted, number by number. -/
def fz (z : List Int) (n : Int) (k : Nat) : List Int := (List.range 8).map fun j => if j < k then fel z n j else el z j
theorem el_fz (z : List Int) (n : Int) (k j : Nat) (hj : j < 8) : el (fz z n k) j = if j < k then fel z n j else el z j := by
  simp [el, fz, List.getD, hj]

theorem SixIn.set {B : Nat} {z : List Int} {w : World} (h : SixIn B z w) (k : Nat) (hk : k < 8) (v : Int) (z' : List Int) (hz : ∀ j, j < 8 → el z' j = if j = k then v else el z j) : SixIn B z' (w.setCell ⟨B, k, none⟩ (.int .i64 v)) := by
  have e := setCell_eq_setRow w B k (sixC z) 23 (0, 0) (.int .i64 v) h
  have e2 := setRow_heap w B (sixC z) ((sixC z).setIfInBounds k (.int .i64 v)) 23 (0, 0) h
  unfold SixIn
  rw [e, e2]
  congr 2
  have h0 := hz 0 (by omega); have h1 := hz 1 (by omega); have h2 := hz 2 (by omega); have h3 := hz 3 (by omega); have h4 := hz 4 (by omega); have h5 := hz 5 (by omega); have h6 := hz 6 (by omega); have h7 := hz 7 (by omega)
  unfold sixC
  rcases (by omega : k = 0 ∨ k = 1 ∨ k = 2 ∨ k = 3 ∨ k = 4 ∨ k = 5 ∨ k = 6 ∨ k = 7) with rfl | rfl | rfl | rfl | rfl | rfl | rfl | rfl <;> simp [h0, h1, h2, h3, h4, h5, h6, h7]
theorem SixIn.other {B : Nat} {z : List Int} {w : World} (h : SixIn B z w) (p : Addr) (hp : B ≠ p.block) (v : Value) : SixIn B z (w.setCell p v) := (Below.heap_setCell w p v B hp).trans h

set_option maxHeartbeats 2000000 in
theorem first_any (z : List Int) (n : Int) (w : World) (h0 : 0 ≤ n) (h1 : n ≤ 128) (hz : Ok6 z) : Calls Tryz.prog 25 #[six z, .int .i64 n] w fun e w' => e = .returned (six (fz z n 8)) ∧ Below w.heap.size w w' := by
  unfold six
  go_enter Tryz.func25, Tryz.ntmps25
  go_wp2
  go_loopw [7] (fun t wr => ∃ k : Nat, k ≤ 8 ∧ t = .int .i64 k ∧ Hid (SixIn w.heap.size (fz z n k) wr) ∧ Hid (SixIn (w.heap.size + 1) [] wr) ∧ Below w.heap.size w wr) (fun t _ => 8 - (intOf t).toNat)
  case atStart =>
    refine ⟨0, by omega, rfl, ?_, ?_, ?_⟩
    · have e : SixIn w.heap.size (fz z n 0) ((w.alloc (.cells (sixC z) 23)).alloc (.cells #[.int .i64 0, .int .i64 0, .int .i64 0, .int .i64 0, .int .i64 0, .int .i64 0, .int .i64 0, .int .i64 0] 23)) := by
        have h8 : SixIn w.heap.size z (w.alloc (.cells (sixC z) 23)) := by
          unfold SixIn
          show (w.heap.push _)[w.heap.size]? = _
          rw [Array.getElem?_push_size]
        have h9 := h8.kept ((Below.refl _ _).alloc (Nat.le_refl _) (.cells #[.int .i64 0, .int .i64 0, .int .i64 0, .int .i64 0, .int .i64 0, .int .i64 0, .int .i64 0, .int .i64 0] 23))
        have e2 : sixC (fz z n 0) = sixC z := by
          unfold sixC
          simp [el_fz]
        unfold SixIn at h9 ⊢
        rw [e2]; exact h9
      exact e
    · have := noughts_in (w.alloc (.cells (sixC z) 23))
      unfold noughts at this
      simp only [World.size_alloc] at this
      exact this
    · exact ((Below.refl _ _).alloc (Nat.le_refl _) _).alloc (by simp) _
  case round =>
    obtain ⟨k, hk, rfl, HS, HT, hB⟩ := hrel
    by_cases hlt : k < 8
    · have hc := (HS.out.facts k hlt).1
      rw [el_fz z n k k hlt, if_neg (by omega)] at hc
      have hf := (HS.out.facts k hlt).2.1
      have hx := hz k hlt
      have HS2 := hide (HS.out.set k hlt (fel z n k) (fz z n (k + 1)) (fun j hj => by
        rw [el_fz z n (k + 1) j hj, el_fz z n k j hj]
        by_cases e : j = k
        · subst e; rw [if_pos (by omega), if_pos rfl]
        · rw [if_neg e]
          by_cases h : j < k
          · rw [if_pos h, if_pos (by omega)]
          · rw [if_neg h, if_neg (by omega)]))
      have HT2 := hide (HT.out.other ⟨w.heap.size, k, none⟩ (by simp) (.int .i64 (fel z n k)))
      have hB2 := hB.setCell (p := ⟨w.heap.size, k, none⟩) (Nat.le_refl _) (.int .i64 (fel z n k))
      unfold fel shf at HS2 HT2 hB2
      generalize el z k = x at hc hx HS2 HT2 hB2
      go_wp2
      go_roundw
      case rel => exact ⟨k + 1, by omega, by go_num, HS2, HT2, hB2⟩
      case measure => simp [intOf]; omega
    · obtain rfl : k = 8 := by omega
      obtain ⟨⟨q0, -, -⟩, ⟨q1, -, -⟩, ⟨q2, -, -⟩, ⟨q3, -, -⟩, ⟨q4, -, -⟩, ⟨q5, -, -⟩, ⟨q6, -, -⟩, ⟨q7, -, -⟩⟩ := HS.out.all
      obtain ⟨⟨c0, f0, -⟩, ⟨c1, f1, -⟩, ⟨c2, f2, -⟩, ⟨c3, f3, -⟩, ⟨c4, f4, -⟩, ⟨c5, f5, -⟩, ⟨c6, f6, -⟩, ⟨c7, f7, -⟩⟩ := HT.out.all
      clear HS HT
      go_wp2
      refine bodyPost_ret (v := .agg #[.int .i64 (el (fz z n 8) 0), .int .i64 (el (fz z n 8) 1), .int .i64 (el (fz z n 8) 2), .int .i64 (el (fz z n 8) 3), .int .i64 (el (fz z n 8) 4), .int .i64 (el (fz z n 8) 5), .int .i64 (el (fz z n 8) 6), .int .i64 (el (fz z n 8) 7)]) (by simp [results, Tryz.results25, go_sem, c0, c1, c2, c3, c4, c5, c6, c7]) rfl ⟨rfl, ?_⟩
      exact (((((((hB.setCell (Nat.le_succ _) _).setCell (Nat.le_succ _) _).setCell (Nat.le_succ _) _).setCell (Nat.le_succ _) _).setCell (Nat.le_succ _) _).setCell (Nat.le_succ _) _).setCell (Nat.le_succ _) _).setCell (Nat.le_succ _) _

def inF (a p : List Int) (n : Int) : Bool := (List.range 8).all fun j => fel a n j == fel p n j

theorem in_bad1 (a p : List Int) (n : Int) (w : World) (ha : ¬ Ok6 a) : Calls Tryz.prog 11 #[six a, six p, .int .i64 n] w fun e w' => e = .returned (.tuple #[.bool false, .iface 24 (.int .i64 1)]) ∧ Below w.heap.size w w' := by
  have hC := fun w => check_bad a w ha
  unfold six sixC at hC
  unfold six
  go_enter Tryz.func11, Tryz.ntmps11
  go_wp2_with (go_at_call 8; refine (hC _).mono ?_; rintro e w1 ⟨rfl, rfl⟩)
  go_ret2
  exact ⟨rfl, (((Below.refl _ _).alloc (Nat.le_refl _) _).alloc (by simp) _).alloc (by simp; omega) _⟩
theorem in_bad2 (a p : List Int) (n : Int) (w : World) (ha : Ok6 a) (hp : ¬ Ok6 p) : Calls Tryz.prog 11 #[six a, six p, .int .i64 n] w fun e w' => e = .returned (.tuple #[.bool false, .iface 24 (.int .i64 1)]) ∧ Below w.heap.size w w' := by
  have hC := fun w => check_ok a w ha
  have hD := fun w => check_bad p w hp
  unfold six sixC at hC hD
  unfold six
  go_enter Tryz.func11, Tryz.ntmps11
  go_wp2_with (first
    | (go_at_call_of 8 (Value.agg #[.int .i64 (el a 0), .int .i64 (el a 1), .int .i64 (el a 2), .int .i64 (el a 3), .int .i64 (el a 4), .int .i64 (el a 5), .int .i64 (el a 6), .int .i64 (el a 7)]); refine (hC _).mono ?_; rintro e w1 ⟨rfl, rfl⟩)
    | (go_at_call_of 8 (Value.agg #[.int .i64 (el p 0), .int .i64 (el p 1), .int .i64 (el p 2), .int .i64 (el p 3), .int .i64 (el p 4), .int .i64 (el p 5), .int .i64 (el p 6), .int .i64 (el p 7)]); refine (hD _).mono ?_; rintro e w1 ⟨rfl, rfl⟩))
  go_ret2
  exact ⟨rfl, ((((Below.refl _ _).alloc (Nat.le_refl _) _).alloc (by simp) _).alloc (by simp; omega) _).alloc (by simp; omega) _⟩
theorem in_bad3 (a p : List Int) (n : Int) (w : World) (ha : Ok6 a) (hp : Ok6 p) (hn : n < 0 ∨ 128 < n) : Calls Tryz.prog 11 #[six a, six p, .int .i64 n] w fun e w' => e = .returned (.tuple #[.bool false, .iface 24 (.int .i64 1)]) ∧ Below w.heap.size w w' := by
  have hC := fun w => check_ok a w ha
  have hD := fun w => check_ok p w hp
  unfold six sixC at hC hD
  unfold six
  rcases hn with hn | hn
  all_goals
    go_enter Tryz.func11, Tryz.ntmps11
    go_wp2_with (first
      | (go_at_call_of 8 (Value.agg #[.int .i64 (el a 0), .int .i64 (el a 1), .int .i64 (el a 2), .int .i64 (el a 3), .int .i64 (el a 4), .int .i64 (el a 5), .int .i64 (el a 6), .int .i64 (el a 7)]); refine (hC _).mono ?_; rintro e w1 ⟨rfl, rfl⟩)
      | (go_at_call_of 8 (Value.agg #[.int .i64 (el p 0), .int .i64 (el p 1), .int .i64 (el p 2), .int .i64 (el p 3), .int .i64 (el p 4), .int .i64 (el p 5), .int .i64 (el p 6), .int .i64 (el p 7)]); refine (hD _).mono ?_; rintro e w1 ⟨rfl, rfl⟩))
    go_ret2
    exact ⟨rfl, ((((Below.refl _ _).alloc (Nat.le_refl _) _).alloc (by simp) _).alloc (by simp; omega) _).alloc (by simp; omega) _⟩
end Go.Proofs.YtdbhhlggddbehaaGreatDoor
