/- read by a contract: what a text may be the address of. -/
import Derived.Test.YtdbhhlggddbehaaGreatDoorAddrNums
import Derived.Laws.CopyOwn
namespace Go.Proofs.YtdbhhlggddbehaaGreatDoor
open Go.RowKit Go.Shelf

/-- a block that holds an address, and nothing else. -/
def SixIn (B : Nat) (z : List Int) (w : World) : Prop := w.heap[B]? = some (.cells (sixC z) 23 (0, 0))
theorem SixIn.lt {B : Nat} {z : List Int} {w : World} (h : SixIn B z w) : B < w.heap.size := (Array.getElem?_eq_some_iff.1 h).1
theorem SixIn.kept {B : Nat} {z : List Int} {w w' : World} (h : SixIn B z w) (hb : Below w.heap.size w w') : SixIn B z w' := (hb.block B h.lt).trans h
theorem SixIn.facts {B : Nat} {z : List Int} {w : World} (h : SixIn B z w) (j : Nat) (hj : j < 8) : w.cell? ⟨B, j, none⟩ = some (.int .i64 (el z j)) ∧ w.frozen? ⟨B, j, none⟩ = false ∧ w.setCell ⟨B, j, none⟩ (.int .i64 (el z j)) = w := by
  unfold SixIn at h
  have hc : (sixC z)[j]? = some (.int .i64 (el z j)) := by
    rcases (by omega : j = 0 ∨ j = 1 ∨ j = 2 ∨ j = 3 ∨ j = 4 ∨ j = 5 ∨ j = 6 ∨ j = 7) with rfl | rfl | rfl | rfl | rfl | rfl | rfl | rfl <;> rfl
  refine ⟨by simp [World.cell?, h, hc], by simp [World.frozen?, h], ?_⟩
  rw [setCell_eq_setRow w B j (sixC z) 23 (0, 0) _ h]
  have : (sixC z).setIfInBounds j (.int .i64 (el z j)) = sixC z := by
    rcases (by omega : j = 0 ∨ j = 1 ∨ j = 2 ∨ j = 3 ∨ j = 4 ∨ j = 5 ∨ j = 6 ∨ j = 7) with rfl | rfl | rfl | rfl | rfl | rfl | rfl | rfl <;> rfl
  rw [this]
  exact setRow_self w B (sixC z) _ _ h
/-- a new address of noughts. -/
def noughts (w : World) : World := w.alloc (.cells #[.int .i64 0, .int .i64 0, .int .i64 0, .int .i64 0, .int .i64 0, .int .i64 0, .int .i64 0, .int .i64 0] 23)
theorem noughts_in (w : World) : SixIn w.heap.size [] (noughts w) := by
  unfold SixIn noughts
  show (w.heap.push _)[w.heap.size]? = _
  rw [Array.getElem?_push_size]
  rfl
theorem noughts_below (w : World) : Below w.heap.size w (noughts w) := (Below.refl _ _).alloc (Nat.le_refl _) _
theorem six_nil : six [] = .agg #[.int .i64 0, .int .i64 0, .int .i64 0, .int .i64 0, .int .i64 0, .int .i64 0, .int .i64 0, .int .i64 0] := rfl

theorem read_long (s : ByteArray) (w : World) (h : 39 < s.size) : Calls Tryz.prog 27 #[.string s] w fun e w' => e = .returned (.tuple #[six [], .bool false]) ∧ Below w.heap.size w w' := by
  rw [six_nil]
  go_enter Tryz.func27, Tryz.ntmps27
  go_wp2
  exact bodyPost_ret (v := .tuple #[.agg #[.int .i64 0, .int .i64 0, .int .i64 0, .int .i64 0, .int .i64 0, .int .i64 0, .int .i64 0, .int .i64 0], .bool false]) (by simp [results, Tryz.results27, go_sem]) rfl ⟨rfl, (Below.refl _ _).alloc (Nat.le_refl _) _⟩

/-- what the library keeps for the readings and writings. -/
def LaidA (w : World) : Prop := Tab4 w ∧ Errs w ∧ MaxL w
theorem LaidA.below {w w' : World} (h : LaidA w) (hb : Below w.heap.size w w') : LaidA w' := ⟨h.1.below hb, h.2.1.below hb, h.2.2.below hb⟩

theorem take_le (s : ByteArray) : (⟨(Lib.cut s.data.toList [58, 58]).1.toArray⟩ : ByteArray).size ≤ s.size ∧ (⟨(Lib.cut s.data.toList [58, 58]).2.1.toArray⟩ : ByteArray).size ≤ s.size := by
  have h : (Lib.cut s.data.toList [58, 58]).1.length ≤ s.data.toList.length ∧ (Lib.cut s.data.toList [58, 58]).2.1.length ≤ s.data.toList.length := by
    generalize s.data.toList = l
    unfold Lib.cut
    split
    · exact ⟨by rw [List.length_take]; omega, by rw [List.length_drop]; omega⟩
    · exact ⟨Nat.le_refl _, by simp⟩
  rw [Lib.size_eq s, Lib.size_eq, Lib.size_eq]
  exact h

/-- the cut, in a world with a new address. -/
theorem read_cut (s : ByteArray) (w : World) (h : s.size ≤ 39) (hA : LaidA w) : Calls Tryz.prog 36 #[.string s, .string ⟨#[58, 58]⟩] (noughts w) fun e w' =>
    e = .returned (.tuple #[.string ⟨(Lib.cut s.data.toList [58, 58]).1.toArray⟩, .string ⟨(Lib.cut s.data.toList [58, 58]).2.1.toArray⟩, .bool (Lib.cut s.data.toList [58, 58]).2.2]) ∧ Below w.heap.size w w' ∧ SixIn w.heap.size [] w' ∧ LaidA w' := by
  have hA0 := hA.below (noughts_below w)
  obtain ⟨m, hm⟩ := hA0.2.2
  refine (Tryz.strings_Cut s ⟨#[58, 58]⟩ m (noughts w) (by omega) hm).mono fun e w' ⟨he, n, hn⟩ => ?_
  have hb : Below (noughts w).heap.size (noughts w) w' := by rw [hn]; exact below_drewN (Below.refl _ _) n
  exact ⟨he, bt (noughts_below w) hb, (noughts_in w).kept hb, hA0.below hb⟩
/-- what a block that holds an address gives a walk. -/
def SixAll (B : Nat) (z : List Int) (w : World) : Prop :=
  (w.cell? ⟨B, 0, none⟩ = some (.int .i64 (el z 0)) ∧ w.frozen? ⟨B, 0, none⟩ = false ∧ w.setCell ⟨B, 0, none⟩ (.int .i64 (el z 0)) = w) ∧
  (w.cell? ⟨B, 1, none⟩ = some (.int .i64 (el z 1)) ∧ w.frozen? ⟨B, 1, none⟩ = false ∧ w.setCell ⟨B, 1, none⟩ (.int .i64 (el z 1)) = w) ∧
  (w.cell? ⟨B, 2, none⟩ = some (.int .i64 (el z 2)) ∧ w.frozen? ⟨B, 2, none⟩ = false ∧ w.setCell ⟨B, 2, none⟩ (.int .i64 (el z 2)) = w) ∧
  (w.cell? ⟨B, 3, none⟩ = some (.int .i64 (el z 3)) ∧ w.frozen? ⟨B, 3, none⟩ = false ∧ w.setCell ⟨B, 3, none⟩ (.int .i64 (el z 3)) = w) ∧
  (w.cell? ⟨B, 4, none⟩ = some (.int .i64 (el z 4)) ∧ w.frozen? ⟨B, 4, none⟩ = false ∧ w.setCell ⟨B, 4, none⟩ (.int .i64 (el z 4)) = w) ∧
  (w.cell? ⟨B, 5, none⟩ = some (.int .i64 (el z 5)) ∧ w.frozen? ⟨B, 5, none⟩ = false ∧ w.setCell ⟨B, 5, none⟩ (.int .i64 (el z 5)) = w) ∧
  (w.cell? ⟨B, 6, none⟩ = some (.int .i64 (el z 6)) ∧ w.frozen? ⟨B, 6, none⟩ = false ∧ w.setCell ⟨B, 6, none⟩ (.int .i64 (el z 6)) = w) ∧
  (w.cell? ⟨B, 7, none⟩ = some (.int .i64 (el z 7)) ∧ w.frozen? ⟨B, 7, none⟩ = false ∧ w.setCell ⟨B, 7, none⟩ (.int .i64 (el z 7)) = w)
theorem SixIn.all {B : Nat} {z : List Int} {w : World} (h : SixIn B z w) : SixAll B z w :=
  ⟨h.facts 0 (by omega), h.facts 1 (by omega), h.facts 2 (by omega), h.facts 3 (by omega), h.facts 4 (by omega), h.facts 5 (by omega), h.facts 6 (by omega), h.facts 7 (by omega)⟩

set_option maxHeartbeats 8000000 in
set_option maxRecDepth 100000 in
theorem read_none (s : ByteArray) (w : World) (h : s.size ≤ 39) (hA : LaidA w) (hn : AM.readF s.data.toList = none) : Calls Tryz.prog 27 #[.string s] w fun e w' => e = .returned (.tuple #[six [], .bool false]) ∧ Below w.heap.size w w' := by
  have hcut := read_cut s w h hA
  obtain ⟨hz1, hz2⟩ := take_le s
  have hR : AM.nums 58 AM.hxw (Lib.cut s.data.toList [58, 58]).1 = none ∨ AM.nums 58 AM.hxw (Lib.cut s.data.toList [58, 58]).2.1 = none ∨ ∃ fr bk, AM.nums 58 AM.hxw (Lib.cut s.data.toList [58, 58]).1 = some fr ∧ AM.nums 58 AM.hxw (Lib.cut s.data.toList [58, 58]).2.1 = some bk ∧ (8 < fr.length + bk.length ∨ ((Lib.cut s.data.toList [58, 58]).2.2 = false ∧ fr.length + bk.length < 8)) := by
    unfold AM.readF at hn
    rw [if_neg (by rw [← Lib.size_eq]; omega)] at hn
    cases h1 : AM.nums 58 AM.hxw (Lib.cut s.data.toList [58, 58]).1 with
    | none => exact .inl rfl
    | some fr =>
      cases h2 : AM.nums 58 AM.hxw (Lib.cut s.data.toList [58, 58]).2.1 with
      | none => exact .inr (.inl rfl)
      | some bk =>
        simp only [h1, h2] at hn
        refine .inr (.inr ⟨fr, bk, rfl, rfl, ?_⟩)
        by_cases hc : 8 < fr.length + bk.length ∨ ((Lib.cut s.data.toList [58, 58]).2.2 = false ∧ fr.length + bk.length < 8)
        · exact hc
        · rw [if_neg hc] at hn; cases hn
  have d1 : (⟨(Lib.cut s.data.toList [58, 58]).1.toArray⟩ : ByteArray).data.toList = (Lib.cut s.data.toList [58, 58]).1 := by simp
  have d2 : (⟨(Lib.cut s.data.toList [58, 58]).2.1.toArray⟩ : ByteArray).data.toList = (Lib.cut s.data.toList [58, 58]).2.1 := by simp
  rw [← d1, ← d2] at hR
  clear d1 d2 hn
  generalize (⟨(Lib.cut s.data.toList [58, 58]).1.toArray⟩ : ByteArray) = tb at hcut hz1 hR
  generalize (⟨(Lib.cut s.data.toList [58, 58]).2.1.toArray⟩ : ByteArray) = ta at hcut hz2 hR
  generalize (Lib.cut s.data.toList [58, 58]).2.2 = sh at hcut hR
  unfold noughts at hcut
  have hsix : six [] = .agg #[.int .i64 (el [] 0), .int .i64 (el [] 1), .int .i64 (el [] 2), .int .i64 (el [] 3), .int .i64 (el [] 4), .int .i64 (el [] 5), .int .i64 (el [] 6), .int .i64 (el [] 7)] := rfl
  rw [hsix]
  clear hsix
  cases h1 : AM.nums 58 AM.hxw tb.data.toList with
  | none =>
    have H1 := hide h1
    clear h1 hR
    go_enter Tryz.func27, Tryz.ntmps27
    go_wp2_with (first
      | (go_at_call 36; refine hcut.mono ?_; rintro e w1 ⟨rfl, hB1, hS1, hA1⟩)
      | (go_at_call_of 33 (Value.string tb); refine (numbers_no 58 16 16 _ reads16 tb _ (by omega) hA1.2.2 hA1.2.1 H1.out).mono ?_; rintro e w2 ⟨rfl, hB2⟩; have hA2 := hA1.below hB2)
      | (go_at_call_of 33 (Value.string ta); refine (numbers_all 58 16 16 _ reads16 ta _ (by omega) hA2.2.2 hA2.2.1).mono ?_; rintro e w3 ⟨⟨l2, v2, hl2, rfl, ao2, rfl, hc2⟩ | ⟨hl2, rfl⟩, hB3⟩ <;> obtain ⟨⟨c0, f0, s0⟩, ⟨c1, f1, s1⟩, ⟨c2, f2, s2⟩, ⟨c3, f3, s3⟩, ⟨c4, f4, s4⟩, ⟨c5, f5, s5⟩, ⟨c6, f6, s6⟩, ⟨c7, f7, s7⟩⟩ := (hS1.kept (bt hB2 hB3)).all))
    all_goals exact bodyPost_ret (v := .tuple #[.agg #[.int .i64 (el [] 0), .int .i64 (el [] 1), .int .i64 (el [] 2), .int .i64 (el [] 3), .int .i64 (el [] 4), .int .i64 (el [] 5), .int .i64 (el [] 6), .int .i64 (el [] 7)], .bool false]) (by simp [results, Tryz.results27, go_sem, c0, c1, c2, c3, c4, c5, c6, c7]) rfl ⟨rfl, bt hB1 (bt hB2 hB3)⟩
  | some fr =>
    have hlf := AM.nums_len h1
    rw [← Lib.size_eq] at hlf
    have H1 := hide h1
    rw [h1] at hR
    clear h1
    cases h2 : AM.nums 58 AM.hxw ta.data.toList with
    | none =>
      have H2 := hide h2
      clear h2 hR
      go_enter Tryz.func27, Tryz.ntmps27
      go_wp2_with (first
        | (go_at_call 36; refine hcut.mono ?_; rintro e w1 ⟨rfl, hB1, hS1, hA1⟩)
        | (go_at_call_of 33 (Value.string tb); refine (numbers_ok 58 16 16 _ reads16 tb _ (by omega) hA1.2.2 hA1.2.1 fr H1.out).mono ?_; rintro e w2 ⟨⟨ao1, rfl, hI1⟩, hB2⟩; have hA2 := hA1.below hB2)
        | (go_at_call_of 33 (Value.string ta); refine (numbers_no 58 16 16 _ reads16 ta _ (by omega) hA2.2.2 hA2.2.1 H2.out).mono ?_; rintro e w3 ⟨rfl, hB3⟩; obtain ⟨⟨c0, f0, s0⟩, ⟨c1, f1, s1⟩, ⟨c2, f2, s2⟩, ⟨c3, f3, s3⟩, ⟨c4, f4, s4⟩, ⟨c5, f5, s5⟩, ⟨c6, f6, s6⟩, ⟨c7, f7, s7⟩⟩ := (hS1.kept (bt hB2 hB3)).all))
      all_goals exact bodyPost_ret (v := .tuple #[.agg #[.int .i64 (el [] 0), .int .i64 (el [] 1), .int .i64 (el [] 2), .int .i64 (el [] 3), .int .i64 (el [] 4), .int .i64 (el [] 5), .int .i64 (el [] 6), .int .i64 (el [] 7)], .bool false]) (by simp [results, Tryz.results27, go_sem, c0, c1, c2, c3, c4, c5, c6, c7]) rfl ⟨rfl, bt hB1 (bt hB2 hB3)⟩
    | some bk =>
      have hlb := AM.nums_len h2
      rw [← Lib.size_eq] at hlb
      have H2 := hide h2
      rw [h2] at hR
      clear h2
      have hR2 : 8 < fr.length + bk.length ∨ (sh = false ∧ fr.length + bk.length < 8) := by
        rcases hR with hR | hR | ⟨fr', bk', hf, hb, hc⟩
        · cases hR
        · cases hR
        · cases hf; cases hb; exact hc
      clear hR
      rcases hR2 with hc | ⟨rfl, hc⟩
      all_goals
        go_enter Tryz.func27, Tryz.ntmps27
        go_wp2_with (first
          | (go_at_call 36; refine hcut.mono ?_; rintro e w1 ⟨rfl, hB1, hS1, hA1⟩)
          | (go_at_call_of 33 (Value.string tb); refine (numbers_ok 58 16 16 _ reads16 tb _ (by omega) hA1.2.2 hA1.2.1 fr H1.out).mono ?_; rintro e w2 ⟨⟨ao1, rfl, hI1⟩, hB2⟩; have hA2 := hA1.below hB2)
          | (go_at_call_of 33 (Value.string ta); refine (numbers_ok 58 16 16 _ reads16 ta _ (by omega) hA2.2.2 hA2.2.1 bk H2.out).mono ?_; rintro e w3 ⟨⟨ao2, rfl, hI2⟩, hB3⟩; obtain ⟨⟨c0, f0, s0⟩, ⟨c1, f1, s1⟩, ⟨c2, f2, s2⟩, ⟨c3, f3, s3⟩, ⟨c4, f4, s4⟩, ⟨c5, f5, s5⟩, ⟨c6, f6, s6⟩, ⟨c7, f7, s7⟩⟩ := (hS1.kept (bt hB2 hB3)).all))
        all_goals exact bodyPost_ret (v := .tuple #[.agg #[.int .i64 (el [] 0), .int .i64 (el [] 1), .int .i64 (el [] 2), .int .i64 (el [] 3), .int .i64 (el [] 4), .int .i64 (el [] 5), .int .i64 (el [] 6), .int .i64 (el [] 7)], .bool false]) (by simp [results, Tryz.results27, go_sem, c0, c1, c2, c3, c4, c5, c6, c7]) rfl ⟨rfl, bt hB1 (bt hB2 hB3)⟩
end Go.Proofs.YtdbhhlggddbehaaGreatDoor
