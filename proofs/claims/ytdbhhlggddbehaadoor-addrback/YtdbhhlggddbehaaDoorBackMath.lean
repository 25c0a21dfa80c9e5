/- The walk of the statement AddrBack: whatever the addresses, the number and the text, the Go text returns true and writes nothing that was there. -/
import Derived.Test.YtdbhhlggddbehaaDoorAddrIn2
import Derived.Test.YtdbhhlggddbehaaDoorFour2
namespace Go.Proofs.YtdbhhlggddbehaaDoor
open Go.RowKit Go.Shelf

theorem fact_tx : AM.tx [8193, 3512, 0, 0, 1, 0, 0, 1] = [50, 48, 48, 49, 58, 100, 98, 56, 58, 58, 49, 58, 48, 58, 48, 58, 49] := by
  have h1 : AM.zlong [8193, 3512, 0, 0, 1, 0, 0, 1] = 2 := by decide
  have h2 : AM.zfrom [8193, 3512, 0, 0, 1, 0, 0, 1] = 2 := by decide
  unfold AM.tx
  rw [h1, h2, if_neg (by omega)]
  have e0 : AM.hexL 8193 = [50, 48, 48, 49] := by
    rw [AM.hexL_ge (by omega), AM.hexL_ge (by omega), AM.hexL_ge (by omega), AM.hexL_lt (by omega)]; decide
  have e1 : AM.hexL 3512 = [100, 98, 56] := by
    rw [AM.hexL_ge (by omega), AM.hexL_ge (by omega), AM.hexL_lt (by omega)]; decide
  have e2 : AM.hexL 0 = [48] := by rw [AM.hexL_lt (by omega)]; decide
  have e3 : AM.hexL 1 = [49] := by rw [AM.hexL_lt (by omega)]; decide
  have w1 : AM.hw [8193, 3512, 0, 0, 1, 0, 0, 1] 0 2 = [AM.hexL 8193, AM.hexL 3512] := rfl
  have w2 : AM.hw [8193, 3512, 0, 0, 1, 0, 0, 1] (2 + 2) (8 - (2 + 2)) = [AM.hexL 1, AM.hexL 0, AM.hexL 0, AM.hexL 1] := rfl
  rw [w1, w2, e0, e1, e2, e3]
  rfl
theorem fact_print (w : World) (h : Tab4 w) : Calls Tryd.prog 4 #[.agg #[.int .i64 8193, .int .i64 3512, .int .i64 0, .int .i64 0, .int .i64 1, .int .i64 0, .int .i64 0, .int .i64 1]] w fun e w' => e = .returned (.tuple #[.string ⟨#[50, 48, 48, 49, 58, 100, 98, 56, 58, 58, 49, 58, 48, 58, 48, 58, 49]⟩, .nilIface]) ∧ Below w.heap.size w w' := by
  have hk : Ok6 [8193, 3512, 0, 0, 1, 0, 0, 1] := by
    intro k hk
    rcases (by omega : k = 0 ∨ k = 1 ∨ k = 2 ∨ k = 3 ∨ k = 4 ∨ k = 5 ∨ k = 6 ∨ k = 7) with rfl | rfl | rfl | rfl | rfl | rfl | rfl | rfl <;> (unfold Word el; decide)
  have := print_ok _ w hk h
  rw [fact_tx] at this
  exact this

theorem inF0 (a b : List Int) (ha : Ok6 a) (hb : Ok6 b) : inF a b 0 = true := by
  unfold inF
  rw [List.all_eq_true]
  intro j hj
  have hj' := List.mem_range.1 hj
  have h1 := ha j hj'
  have h2 := hb j hj'
  have e : shf 0 j = 16 := by unfold shf; omega
  unfold fel
  rw [e]
  obtain ⟨_, _⟩ := h1
  obtain ⟨_, _⟩ := h2
  simp only [beq_iff_eq]
  omega
theorem inF128 (a b : List Int) : inF a b 128 = eqz a b := by
  rw [Bool.eq_iff_iff, eqz_iff]
  unfold inF
  rw [List.all_eq_true]
  have e : ∀ j, j < 8 → shf 128 j = 0 := fun j hj => by unfold shf; omega
  constructor
  · intro h j hj
    have := h j (List.mem_range.2 hj)
    unfold fel at this
    rw [e j hj] at this
    simpa using this
  · intro h j hj
    have := h j (List.mem_range.1 hj)
    unfold fel
    rw [e j (List.mem_range.1 hj)]
    simpa using this

/-- what lasts while the statement runs. -/
def Inv (w : World) (a b : List Int) (W : World) : Prop := SixIn w.heap.size a W ∧ SixIn (w.heap.size + 1) b W ∧ LaidA W ∧ Pow10 W ∧ Below w.heap.size w W
theorem Inv.kept {w : World} {a b : List Int} {W W' : World} (h : Inv w a b W) (hb : Below W.heap.size W W') : Inv w a b W' :=
  ⟨h.1.kept hb, h.2.1.kept hb, h.2.2.1.below hb, h.2.2.2.1.below hb, bt h.2.2.2.2 hb⟩
theorem Inv.ca {w : World} {a b : List Int} {W : World} (h : Inv w a b W) (j : Nat) (hj : j < 8) : W.cell? ⟨w.heap.size, j, none⟩ = some (.int .i64 (el a j)) := (h.1.facts j hj).1
theorem Inv.cb {w : World} {a b : List Int} {W : World} (h : Inv w a b W) (j : Nat) (hj : j < 8) : W.cell? ⟨w.heap.size + 1, j, none⟩ = some (.int .i64 (el b j)) := (h.2.1.facts j hj).1
theorem Inv.start (w : World) (a b : List Int) (hA : LaidA w) (hP : Pow10 w) : Inv w a b ((w.alloc (.cells #[.int .i64 (el a 0), .int .i64 (el a 1), .int .i64 (el a 2), .int .i64 (el a 3), .int .i64 (el a 4), .int .i64 (el a 5), .int .i64 (el a 6), .int .i64 (el a 7)] 23)).alloc (.cells #[.int .i64 (el b 0), .int .i64 (el b 1), .int .i64 (el b 2), .int .i64 (el b 3), .int .i64 (el b 4), .int .i64 (el b 5), .int .i64 (el b 6), .int .i64 (el b 7)] 23)) := by
  have h1 : Below w.heap.size w (w.alloc (.cells #[.int .i64 (el a 0), .int .i64 (el a 1), .int .i64 (el a 2), .int .i64 (el a 3), .int .i64 (el a 4), .int .i64 (el a 5), .int .i64 (el a 6), .int .i64 (el a 7)] 23)) := (Below.refl _ _).alloc (Nat.le_refl _) _
  have h2 : Below (w.alloc (.cells #[.int .i64 (el a 0), .int .i64 (el a 1), .int .i64 (el a 2), .int .i64 (el a 3), .int .i64 (el a 4), .int .i64 (el a 5), .int .i64 (el a 6), .int .i64 (el a 7)] 23)).heap.size (w.alloc (.cells #[.int .i64 (el a 0), .int .i64 (el a 1), .int .i64 (el a 2), .int .i64 (el a 3), .int .i64 (el a 4), .int .i64 (el a 5), .int .i64 (el a 6), .int .i64 (el a 7)] 23)) ((w.alloc (.cells #[.int .i64 (el a 0), .int .i64 (el a 1), .int .i64 (el a 2), .int .i64 (el a 3), .int .i64 (el a 4), .int .i64 (el a 5), .int .i64 (el a 6), .int .i64 (el a 7)] 23)).alloc (.cells #[.int .i64 (el b 0), .int .i64 (el b 1), .int .i64 (el b 2), .int .i64 (el b 3), .int .i64 (el b 4), .int .i64 (el b 5), .int .i64 (el b 6), .int .i64 (el b 7)] 23)) := (Below.refl _ _).alloc (Nat.le_refl _) _
  refine ⟨(six_new a w).kept h2, ?_, hA.below (bt h1 h2), hP.below (bt h1 h2), bt h1 h2⟩
  have := six_new b (w.alloc (.cells #[.int .i64 (el a 0), .int .i64 (el a 1), .int .i64 (el a 2), .int .i64 (el a 3), .int .i64 (el a 4), .int .i64 (el a 5), .int .i64 (el a 6), .int .i64 (el a 7)] 23))
  simp only [World.size_alloc] at this
  exact this

/-- eight stores into a block that holds an address. -/
def put8 (w : World) (B : Nat) (a : List Int) : World := ((((((((w.setCell ⟨B, 0, none⟩ (.int .i64 (el a 0))).setCell ⟨B, 1, none⟩ (.int .i64 (el a 1))).setCell ⟨B, 2, none⟩ (.int .i64 (el a 2))).setCell ⟨B, 3, none⟩ (.int .i64 (el a 3))).setCell ⟨B, 4, none⟩ (.int .i64 (el a 4))).setCell ⟨B, 5, none⟩ (.int .i64 (el a 5))).setCell ⟨B, 6, none⟩ (.int .i64 (el a 6))).setCell ⟨B, 7, none⟩ (.int .i64 (el a 7)))
def mixz (a x : List Int) (k : Nat) : List Int := (List.range 8).map fun j => if j < k then el a j else el x j
theorem el_mixz (a x : List Int) (k j : Nat) (hj : j < 8) : el (mixz a x k) j = if j < k then el a j else el x j := by
  simp [el, mixz, List.getD, hj]
theorem SixIn.mix {B : Nat} {a x : List Int} {w : World} {k : Nat} (h : SixIn B (mixz a x k) w) (hk : k < 8) : SixIn B (mixz a x (k + 1)) (w.setCell ⟨B, k, none⟩ (.int .i64 (el a k))) := by
  refine h.set k hk (el a k) _ fun j hj => ?_
  rw [el_mixz a x (k + 1) j hj, el_mixz a x k j hj]
  by_cases e : j = k
  · subst e; rw [if_pos (by omega), if_pos rfl]
  · rw [if_neg e]
    by_cases h : j < k
    · rw [if_pos h, if_pos (by omega)]
    · rw [if_neg h, if_neg (by omega)]
theorem SixIn.put8 {B : Nat} {x : List Int} {w : World} (h : SixIn B x w) (a : List Int) : SixIn B a (put8 w B a) := by
  have e0 : sixC (mixz a x 0) = sixC x := by unfold sixC; simp [el_mixz]
  have e8 : sixC (mixz a x 8) = sixC a := by unfold sixC; simp [el_mixz]
  have h0 : SixIn B (mixz a x 0) w := by unfold SixIn at h ⊢; rw [e0]; exact h
  have := (((((((h0.mix (by omega)).mix (by omega)).mix (by omega)).mix (by omega)).mix (by omega)).mix (by omega)).mix (by omega)).mix (by omega)
  unfold SixIn at this ⊢
  rw [← e8]; exact this
theorem SixIn.put8_other {B B' : Nat} {z : List Int} {w : World} (h : SixIn B z w) (a : List Int) (hne : B ≠ B') : SixIn B z (Go.Proofs.YtdbhhlggddbehaaDoor.put8 w B' a) :=
  (((((((h.other _ hne _).other _ hne _).other _ hne _).other _ hne _).other _ hne _).other _ hne _).other _ hne _).other _ hne _
theorem below_put8 {B : Nat} {w0 w : World} (h : Below w0.heap.size w0 w) (hB : w0.heap.size ≤ B) (a : List Int) : Below w0.heap.size w0 (put8 w B a) :=
  (((((((h.setCell hB _).setCell hB _).setCell hB _).setCell hB _).setCell hB _).setCell hB _).setCell hB _).setCell hB _
theorem Inv.put8 {w : World} {a b : List Int} {W : World} (h : Inv w a b W) (hA : LaidA w) (hP : Pow10 w) (B : Nat) (hB : w.heap.size + 1 < B) (x : List Int) : Inv w a b (Go.Proofs.YtdbhhlggddbehaaDoor.put8 W B x) := by
  have hb := below_put8 h.2.2.2.2 (show w.heap.size ≤ B by omega) x
  exact ⟨h.1.put8_other x (by omega), h.2.1.put8_other x (by omega), hA.below hb, hP.below hb, hb⟩
end Go.Proofs.YtdbhhlggddbehaaDoor
