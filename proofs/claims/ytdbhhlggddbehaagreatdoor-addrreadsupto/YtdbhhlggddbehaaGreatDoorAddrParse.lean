/- Parse by a contract: the address whose text it is, or ErrSyntax. -/
import Derived.Test.YtdbhhlggddbehaaGreatDoorAddrRead2
namespace Go.Proofs.YtdbhhlggddbehaaGreatDoor
open Go.RowKit Go.Shelf

def SixAll0 (B : Nat) (w : World) : Prop :=
  (w.cell? ⟨B, 0, none⟩ = some (.int .i64 0) ∧ w.frozen? ⟨B, 0, none⟩ = false ∧ w.setCell ⟨B, 0, none⟩ (.int .i64 0) = w) ∧
  (w.cell? ⟨B, 1, none⟩ = some (.int .i64 0) ∧ w.frozen? ⟨B, 1, none⟩ = false ∧ w.setCell ⟨B, 1, none⟩ (.int .i64 0) = w) ∧
  (w.cell? ⟨B, 2, none⟩ = some (.int .i64 0) ∧ w.frozen? ⟨B, 2, none⟩ = false ∧ w.setCell ⟨B, 2, none⟩ (.int .i64 0) = w) ∧
  (w.cell? ⟨B, 3, none⟩ = some (.int .i64 0) ∧ w.frozen? ⟨B, 3, none⟩ = false ∧ w.setCell ⟨B, 3, none⟩ (.int .i64 0) = w) ∧
  (w.cell? ⟨B, 4, none⟩ = some (.int .i64 0) ∧ w.frozen? ⟨B, 4, none⟩ = false ∧ w.setCell ⟨B, 4, none⟩ (.int .i64 0) = w) ∧
  (w.cell? ⟨B, 5, none⟩ = some (.int .i64 0) ∧ w.frozen? ⟨B, 5, none⟩ = false ∧ w.setCell ⟨B, 5, none⟩ (.int .i64 0) = w) ∧
  (w.cell? ⟨B, 6, none⟩ = some (.int .i64 0) ∧ w.frozen? ⟨B, 6, none⟩ = false ∧ w.setCell ⟨B, 6, none⟩ (.int .i64 0) = w) ∧
  (w.cell? ⟨B, 7, none⟩ = some (.int .i64 0) ∧ w.frozen? ⟨B, 7, none⟩ = false ∧ w.setCell ⟨B, 7, none⟩ (.int .i64 0) = w)
theorem SixIn.all0 {B : Nat} {w : World} (h : SixIn B [] w) : SixAll0 B w := h.all

theorem str_ne {a b : ByteArray} (h : a ≠ b) : (a.toList == b.toList) = false := by
  rw [beq_eq_false_iff_ne]
  intro e
  rw [ByteArray.toList_eq, ByteArray.toList_eq] at e
  exact h (WideShapes.bytes_inj e)
theorem six_new (z : List Int) (w : World) : SixIn w.heap.size z (w.alloc (.cells #[.int .i64 (el z 0), .int .i64 (el z 1), .int .i64 (el z 2), .int .i64 (el z 3), .int .i64 (el z 4), .int .i64 (el z 5), .int .i64 (el z 6), .int .i64 (el z 7)] 23)) := by
  unfold SixIn
  show (w.heap.push _)[w.heap.size]? = _
  rw [Array.getElem?_push_size]
  rfl
theorem read_no (s : ByteArray) (w : World) (hA : LaidA w) (hn : AM.readF s.data.toList = none) : Calls Tryz.prog 27 #[.string s] w fun e w' => e = .returned (.tuple #[six [], .bool false]) ∧ Below w.heap.size w w' := by
  by_cases h : s.size ≤ 39
  · exact read_none s w h hA hn
  · exact read_long s w (by omega)
theorem read_yes (s : ByteArray) (w : World) (hA : LaidA w) (z : List Int) (hn : AM.readF s.data.toList = some z) : Calls Tryz.prog 27 #[.string s] w fun e w' => e = .returned (.tuple #[six z, .bool true]) ∧ Below w.heap.size w w' := by
  by_cases h : s.size ≤ 39
  · exact read_some s w h hA z hn
  · unfold AM.readF at hn
    rw [if_pos (by rw [← Lib.size_eq]; omega)] at hn
    cases hn

set_option maxHeartbeats 8000000 in
set_option maxRecDepth 100000 in
/-- no text of any. -/
theorem parse_no1 (s : ByteArray) (w : World) (hA : LaidA w) (hn : AM.readF s.data.toList = none) : Calls Tryz.prog 14 #[.string s] w fun e w' => e = .returned (.tuple #[six [], .iface 24 (.int .i64 5)]) ∧ Below w.heap.size w w' := by
  have hR := read_no s (noughts w) (hA.below (noughts_below w)) hn
  have hS := noughts_in w
  have hB := noughts_below w
  rw [six_nil] at hR ⊢
  unfold noughts at hR hS hB
  go_enter Tryz.func14, Tryz.ntmps14
  go_wp2_with (go_at_call 27; refine hR.mono ?_; rintro e w1 ⟨rfl, hB1⟩; obtain ⟨⟨c0, f0, s0⟩, ⟨c1, f1, s1⟩, ⟨c2, f2, s2⟩, ⟨c3, f3, s3⟩, ⟨c4, f4, s4⟩, ⟨c5, f5, s5⟩, ⟨c6, f6, s6⟩, ⟨c7, f7, s7⟩⟩ := (hS.kept (bt hB1 ((Below.refl _ w1).alloc (Nat.le_refl _) (.cells #[.int .i64 0, .int .i64 0, .int .i64 0, .int .i64 0, .int .i64 0, .int .i64 0, .int .i64 0, .int .i64 0] 23)))).all0)
  exact bodyPost_ret (v := .tuple #[.agg #[.int .i64 0, .int .i64 0, .int .i64 0, .int .i64 0, .int .i64 0, .int .i64 0, .int .i64 0, .int .i64 0], .iface 24 (.int .i64 5)]) (by simp [results, Tryz.results14, go_sem, c0, c1, c2, c3, c4, c5, c6, c7]) rfl ⟨rfl, bt hB (bt hB1 ((Below.refl _ w1).alloc (Nat.le_refl _) _))⟩

set_option maxHeartbeats 8000000 in
set_option maxRecDepth 100000 in
/-- one that is not its address's text. -/
theorem parse_no2 (s : ByteArray) (w : World) (hA : LaidA w) (z : List Int) (hn : AM.readF s.data.toList = some z) (ht : AM.tx z ≠ s.data.toList) : Calls Tryz.prog 14 #[.string s] w fun e w' => e = .returned (.tuple #[six [], .iface 24 (.int .i64 5)]) ∧ Below w.heap.size w w' := by
  have hR := read_yes s (noughts w) (hA.below (noughts_below w)) z hn
  have hA0 := hA.below (noughts_below w)
  have hP := fun w h => print_ok z w (AM.read_ok hn).1 h
  have hS := noughts_in w
  have hB := noughts_below w
  have hne : (⟨(AM.tx z).toArray⟩ : ByteArray) ≠ s := fun e => ht (by rw [← e])
  have hbe := str_ne hne
  clear ht
  unfold strv at hP
  generalize (⟨(AM.tx z).toArray⟩ : ByteArray) = tz at hP hne hbe
  rw [six_nil]
  unfold six at hR hP
  unfold noughts at hR hS hB hA0
  go_enter Tryz.func14, Tryz.ntmps14
  go_wp2_with (first
    | (go_at_call 27; refine hR.mono ?_; rintro e w1 ⟨rfl, hB1⟩; have hA1 := (hA0.below hB1).below ((Below.refl _ w1).alloc (Nat.le_refl _) (.cells #[.int .i64 (el z 0), .int .i64 (el z 1), .int .i64 (el z 2), .int .i64 (el z 3), .int .i64 (el z 4), .int .i64 (el z 5), .int .i64 (el z 6), .int .i64 (el z 7)] 23)); have hS2 := hS.kept (bt hB1 ((Below.refl _ w1).alloc (Nat.le_refl _) (.cells #[.int .i64 (el z 0), .int .i64 (el z 1), .int .i64 (el z 2), .int .i64 (el z 3), .int .i64 (el z 4), .int .i64 (el z 5), .int .i64 (el z 6), .int .i64 (el z 7)] 23))))
    | (go_at_call 9; refine (hP _ hA1.1).mono ?_; rintro e w3 ⟨rfl, hB3⟩; obtain ⟨⟨c0, f0, s0⟩, ⟨c1, f1, s1⟩, ⟨c2, f2, s2⟩, ⟨c3, f3, s3⟩, ⟨c4, f4, s4⟩, ⟨c5, f5, s5⟩, ⟨c6, f6, s6⟩, ⟨c7, f7, s7⟩⟩ := (hS2.kept hB3).all0))
  exact bodyPost_ret (v := .tuple #[.agg #[.int .i64 0, .int .i64 0, .int .i64 0, .int .i64 0, .int .i64 0, .int .i64 0, .int .i64 0, .int .i64 0], .iface 24 (.int .i64 5)]) (by simp [results, Tryz.results14, go_sem, c0, c1, c2, c3, c4, c5, c6, c7]) rfl ⟨rfl, bt hB (bt (bt hB1 ((Below.refl _ w1).alloc (Nat.le_refl _) _)) hB3)⟩
theorem parse_no (s : ByteArray) (w : World) (hA : LaidA w) (hn : AM.parseF s.data.toList = none) : Calls Tryz.prog 14 #[.string s] w fun e w' => e = .returned (.tuple #[six [], .iface 24 (.int .i64 5)]) ∧ Below w.heap.size w w' := by
  unfold AM.parseF at hn
  cases hr : AM.readF s.data.toList with
  | none => exact parse_no1 s w hA hr
  | some z =>
    rw [hr] at hn
    refine parse_no2 s w hA z hr fun e => ?_
    simp [e] at hn

set_option maxHeartbeats 8000000 in
set_option maxRecDepth 100000 in
/-- its address's text. -/
theorem parse_yes (s : ByteArray) (w : World) (hA : LaidA w) (z : List Int) (hn : AM.parseF s.data.toList = some z) : Calls Tryz.prog 14 #[.string s] w fun e w' => e = .returned (.tuple #[six z, .nilIface]) ∧ Below w.heap.size w w' := by
  obtain ⟨hz, hl, ht⟩ := AM.parse_is hn
  have hr : AM.readF s.data.toList = some z := by rw [← ht]; exact AM.read_tx hz hl
  have hR := read_yes s (noughts w) (hA.below (noughts_below w)) z hr
  have hA0 := hA.below (noughts_below w)
  have hP := fun w h => print_ok z w hz h
  have hS := noughts_in w
  have hB := noughts_below w
  have hsz : (⟨(AM.tx z).toArray⟩ : ByteArray) = s := by rw [ht]
  unfold strv at hP
  rw [hsz] at hP
  clear hr ht hsz hn
  unfold six at hR hP ⊢
  unfold noughts at hR hS hB hA0
  go_enter Tryz.func14, Tryz.ntmps14
  go_wp2_with (first
    | (go_at_call 27; refine hR.mono ?_; rintro e w1 ⟨rfl, hB1⟩; have hA1 := (hA0.below hB1).below ((Below.refl _ w1).alloc (Nat.le_refl _) (.cells #[.int .i64 (el z 0), .int .i64 (el z 1), .int .i64 (el z 2), .int .i64 (el z 3), .int .i64 (el z 4), .int .i64 (el z 5), .int .i64 (el z 6), .int .i64 (el z 7)] 23)); have hS2 := hS.kept (bt hB1 ((Below.refl _ w1).alloc (Nat.le_refl _) (.cells #[.int .i64 (el z 0), .int .i64 (el z 1), .int .i64 (el z 2), .int .i64 (el z 3), .int .i64 (el z 4), .int .i64 (el z 5), .int .i64 (el z 6), .int .i64 (el z 7)] 23))); have hT2 : SixIn w1.heap.size z (w1.alloc (.cells #[.int .i64 (el z 0), .int .i64 (el z 1), .int .i64 (el z 2), .int .i64 (el z 3), .int .i64 (el z 4), .int .i64 (el z 5), .int .i64 (el z 6), .int .i64 (el z 7)] 23)) := six_new z w1)
    | (go_at_call 9; refine (hP _ hA1.1).mono ?_; rintro e w3 ⟨rfl, hB3⟩; obtain ⟨⟨c0, f0, s0⟩, ⟨c1, f1, s1⟩, ⟨c2, f2, s2⟩, ⟨c3, f3, s3⟩, ⟨c4, f4, s4⟩, ⟨c5, f5, s5⟩, ⟨c6, f6, s6⟩, ⟨c7, f7, s7⟩⟩ := (hS2.kept hB3).all0; obtain ⟨⟨q0, -, -⟩, ⟨q1, -, -⟩, ⟨q2, -, -⟩, ⟨q3, -, -⟩, ⟨q4, -, -⟩, ⟨q5, -, -⟩, ⟨q6, -, -⟩, ⟨q7, -, -⟩⟩ := (hT2.kept hB3).all))
  exact bodyPost_ret (v := .tuple #[.agg #[.int .i64 (el z 0), .int .i64 (el z 1), .int .i64 (el z 2), .int .i64 (el z 3), .int .i64 (el z 4), .int .i64 (el z 5), .int .i64 (el z 6), .int .i64 (el z 7)], .nilIface]) (by simp [results, Tryz.results14, go_sem, c0, c1, c2, c3, c4, c5, c6, c7]) rfl ⟨rfl, (((((((((bt hB (bt (bt hB1 ((Below.refl _ w1).alloc (Nat.le_refl _) _)) hB3)).setCell (Nat.le_refl _) _).setCell (Nat.le_refl _) _).setCell (Nat.le_refl _) _).setCell (Nat.le_refl _) _).setCell (Nat.le_refl _) _).setCell (Nat.le_refl _) _).setCell (Nat.le_refl _) _).setCell (Nat.le_refl _) _)⟩
end Go.Proofs.YtdbhhlggddbehaaGreatDoor
