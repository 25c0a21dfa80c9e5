/- What is asked of the program's ports, whatever they are made of; what both sides tell, the same letters in both. -/
import Derived.Test.YtchjhmokmpjbdaaDoorPoTell
import Derived.Test.YtchjhmokmpjbdaaDoorPoStep
namespace Go.Proofs.YtchjhmokmpjbdaaDoor
open Go.RowKit

/-- behind a call of the program's ports (PP: a pointer, how many there are, to whom each belongs, which are taken, and in which blocks they lie). -/
def PQ (PP : Value → Nat → (Nat → List Int) → (Nat → Bool) → (Nat → Prop) → World → Prop) (v : Value) (n : Nat) (ws : Nat → List Int) (ts : Nat → Bool) (O : Nat → Prop) (w w' : World) : Prop := ∃ O', PP v n ws ts O' w' ∧ Fr O w w' ∧ ∀ g, O' g → O g ∨ w.heap.size ≤ g
/-- ints in a slice. -/
def IntRow (base : Nat) (w : World) (v : Value) (l : List Nat) : Prop := ∃ a cap, v = .slice a l.length cap ∧ (0 < l.length → ∃ g off, a = some ⟨g, off, none⟩ ∧ (base ≤ g ∧ g < w.heap.size) ∧ ∀ i, i < l.length → w.cell? ⟨g, off + i, none⟩ = some (.int .i64 ((l.getD i 0 : Nat) : Int)))
def ITake (PP : Value → Nat → (Nat → List Int) → (Nat → Bool) → (Nat → Prop) → World → Prop) : Prop := ∀ v m ws ts O z w, m ≤ 16 → PP v (8 * m) ws ts O w →
  (¬ Ok6 z → Calls Tryd.prog 9 #[v, .agg (sixC z)] w fun e w' => e = .returned (.tuple #[.int .i64 0, err 1]) ∧ PQ PP v (8 * m) ws ts O w w') ∧
  (Ok6 z → tk ws ts z (8 * m) = none → Calls Tryd.prog 9 #[v, .agg (sixC z)] w fun e w' => e = .returned (.tuple #[.int .i64 0, err 3]) ∧ PQ PP v (8 * m) ws ts O w w') ∧
  (∀ i, Ok6 z → tk ws ts z (8 * m) = some i → i < 8 * m → Calls Tryd.prog 9 #[v, .agg (sixC z)] w fun e w' => e = .returned (.tuple #[.int .i64 (1024 + (i : Int)), .nilIface]) ∧ PQ PP v (8 * m) (upd ws i z) (upd ts i true) O w w')
def IGive (PP : Value → Nat → (Nat → List Int) → (Nat → Bool) → (Nat → Prop) → World → Prop) : Prop := ∀ v m ws ts O w, m ≤ 16 → PP v (8 * m) ws ts O w →
  (∀ p, hs ts (8 * m) p = false → Calls Tryd.prog 11 #[v, .int .i64 p] w fun e w' => e = .returned (err 4) ∧ PQ PP v (8 * m) ws ts O w w') ∧
  (∀ i : Nat, i < 8 * m → ts i = true → Calls Tryd.prog 11 #[v, .int .i64 (1024 + (i : Int))] w fun e w' => e = .returned .nilIface ∧ PQ PP v (8 * m) ws (upd ts i false) O w w')
def IOwner (PP : Value → Nat → (Nat → List Int) → (Nat → Bool) → (Nat → Prop) → World → Prop) : Prop := ∀ v m ws ts O w, m ≤ 16 → PP v (8 * m) ws ts O w →
  (∀ p, hs ts (8 * m) p = false → Calls Tryd.prog 15 #[v, .int .i64 p] w fun e w' => e = .returned (.tuple #[.agg (sixC []), err 4]) ∧ PQ PP v (8 * m) ws ts O w w') ∧
  (∀ i : Nat, i < 8 * m → ts i = true → Calls Tryd.prog 15 #[v, .int .i64 (1024 + (i : Int))] w fun e w' => e = .returned (.tuple #[.agg (sixC (ws i)), .nilIface]) ∧ PQ PP v (8 * m) ws ts O w w')
def IBlocks (PP : Value → Nat → (Nat → List Int) → (Nat → Bool) → (Nat → Prop) → World → Prop) : Prop := ∀ v m ws ts O z w, m ≤ 16 → PP v (8 * m) ws ts O w →
  (¬ Ok6 z → Calls Tryd.prog 18 #[v, .agg (sixC z)] w fun e w' => e = .returned (.tuple #[.slice none 0 0, err 1]) ∧ PQ PP v (8 * m) ws ts O w w') ∧
  (Ok6 z → Calls Tryd.prog 18 #[v, .agg (sixC z)] w fun e w' => ∃ b, e = .returned (.tuple #[b, .nilIface]) ∧ IntRow 0 w' b (bl ws ts z m) ∧ PQ PP v (8 * m) ws ts O w w')
def IFree (PP : Value → Nat → (Nat → List Int) → (Nat → Bool) → (Nat → Prop) → World → Prop) : Prop := ∀ v m ws ts O w, m ≤ 16 → PP v (8 * m) ws ts O w →
  Calls Tryd.prog 12 #[v] w fun e w' => e = .returned (.int .i64 (cf ts (8 * m))) ∧ PQ PP v (8 * m) ws ts O w w'
def INew (PP : Value → Nat → (Nat → List Int) → (Nat → Bool) → (Nat → Prop) → World → Prop) : Prop :=
  (∀ (b : Int) w, (b < 1 ∨ 16 < b) → Calls Tryd.prog 5 #[.int .i64 b] w fun e w' => (∃ v, e = .returned (.tuple #[v, err 1])) ∧ Below w.heap.size w w') ∧
  (∀ (m : Nat) w, 1 ≤ m → m ≤ 16 → Calls Tryd.prog 5 #[.int .i64 m] w fun e w' => ∃ v O, e = .returned (.tuple #[v, .nilIface]) ∧ PP v (8 * m) (fun _ => []) (fun _ => false) O w' ∧ (∀ g, O g → w.heap.size ≤ g) ∧ Below w.heap.size w w')
def IKept (PP : Value → Nat → (Nat → List Int) → (Nat → Bool) → (Nat → Prop) → World → Prop) : Prop := ∀ v n ws ts O w, PP v n ws ts O w → (∀ g, O g → g < w.heap.size) ∧ ∀ w', w.heap.size ≤ w'.heap.size → (∀ g, O g → w'.heap[g]? = w.heap[g]?) → PP v n ws ts O w'
/-- all of it. -/
def PI (PP : Value → Nat → (Nat → List Int) → (Nat → Bool) → (Nat → Prop) → World → Prop) : Prop := IKept PP ∧ INew PP ∧ ITake PP ∧ IGive PP ∧ IOwner PP ∧ IBlocks PP ∧ IFree PP

theorem tellT {PP : Value → Nat → (Nat → List Int) → (Nat → Bool) → (Nat → Prop) → World → Prop} (I : PI PP) (m : Nat) (hm : m ≤ 16) (z : List Int) (ws : Nat → List Int) (ts : Nat → Bool) : ∃ (x e : Int) (ws' : Nat → List Int) (ts' : Nat → Bool),
    (∀ B BW BT W, RP B BW BT (8 * m) ws ts W → Calls Tryd.prog 8 #[.pointer (some ⟨B, 0, none⟩), .agg (sixC z)] W fun r W' => r = .returned (.tuple #[.int .i64 x, .int .i64 e]) ∧ RP B BW BT (8 * m) ws' ts' W' ∧ Fr (fun g => g = BW ∨ g = BT) W W') ∧
    (∀ v O W, PP v (8 * m) ws ts O W → Calls Tryd.prog 9 #[v, .agg (sixC z)] W fun r W' => r = .returned (.tuple #[.int .i64 x, ev e]) ∧ PQ PP v (8 * m) ws' ts' O W W') := by
  by_cases hz : Ok6 z
  · have hR := fun B BW BT W h => rtake_any B BW BT (8 * m) m ws ts z W h (by omega) rfl hz _ rfl
    have hI := fun v O W h => I.2.2.1 v m ws ts O z W hm h
    cases ht : tk ws ts z (8 * m) with
    | none =>
      rw [ht] at hR
      refine ⟨0, 3, ws, ts, fun B BW BT W h => (hR B BW BT W h).mono ?_, fun v O W h => (hI v O W h).2.1 hz ht⟩
      rintro r W' (⟨_, h1, h2, h3⟩ | ⟨i, h1, _⟩)
      · exact ⟨h1, h2, Fr.of h3⟩
      · cases h1
    | some i =>
      rw [ht] at hR
      have hi : i < 8 * m := by
        unfold tk at ht
        rcases Option.or_eq_some_iff.1 ht with h | ⟨_, h⟩
        · exact List.mem_range.1 (List.mem_of_find?_eq_some h)
        · exact List.mem_range.1 (List.mem_of_find?_eq_some h)
      refine ⟨1024 + (i : Int), 0, upd ws i z, upd ts i true, fun B BW BT W h => (hR B BW BT W h).mono ?_, fun v O W h => (hI v O W h).2.2 i hz ht hi⟩
      rintro r W' (⟨h1, _⟩ | ⟨j, h1, _, h3, h4, h5⟩)
      · cases h1
      · obtain rfl : i = j := Option.some.inj h1
        exact ⟨h3, h4, h5⟩
  · refine ⟨0, 1, ws, ts, fun B BW BT W h => (rtake_bad B z W hz).mono ?_, fun v O W h => (I.2.2.1 v m ws ts O z W hm h).1 hz⟩
    rintro r W' ⟨h1, h2⟩
    exact ⟨h1, h.kept h2, Fr.of h2⟩
theorem hs_cases {ts : Nat → Bool} {n : Nat} {p : Int} (h : hs ts n p = true) : ∃ i : Nat, i < n ∧ p = 1024 + (i : Int) ∧ ts i = true := by
  rcases port_cases n p with h1 | h1 | ⟨i, hi, rfl⟩
  · rw [hs_lo h1] at h; cases h
  · rw [hs_hi h1] at h; cases h
  · rw [hs_in i hi] at h
    exact ⟨i, hi, rfl, h⟩
theorem tellG {PP : Value → Nat → (Nat → List Int) → (Nat → Bool) → (Nat → Prop) → World → Prop} (I : PI PP) (m : Nat) (hm : m ≤ 16) (p : Int) (ws : Nat → List Int) (ts : Nat → Bool) : ∃ (e : Int) (ts' : Nat → Bool),
    (∀ B BW BT W, RP B BW BT (8 * m) ws ts W → Calls Tryd.prog 10 #[.pointer (some ⟨B, 0, none⟩), .int .i64 p] W fun r W' => r = .returned (.int .i64 e) ∧ RP B BW BT (8 * m) ws ts' W' ∧ Fr (fun g => g = BW ∨ g = BT) W W') ∧
    (∀ v O W, PP v (8 * m) ws ts O W → Calls Tryd.prog 11 #[v, .int .i64 p] W fun r W' => r = .returned (ev e) ∧ PQ PP v (8 * m) ws ts' O W W') := by
  cases hp : hs ts (8 * m) p
  · refine ⟨4, ts, fun B BW BT W h => (rgive_no B BW BT (8 * m) ws ts p W h (by omega) hp).mono ?_, fun v O W h => (I.2.2.2.1 v m ws ts O W hm h).1 p hp⟩
    rintro r W' ⟨h1, rfl⟩
    exact ⟨h1, h, Fr.refl _ _⟩
  · obtain ⟨i, hi, rfl, ht⟩ := hs_cases hp
    refine ⟨0, upd ts i false, fun B BW BT W h => (rgive_yes B BW BT (8 * m) ws ts i W h (by omega) hi ht).mono ?_, fun v O W h => (I.2.2.2.1 v m ws ts O W hm h).2 i hi ht⟩
    rintro r W' ⟨h1, h2, h3⟩
    exact ⟨h1, h2, h3.mono (fun g e => .inr e)⟩
end Go.Proofs.YtchjhmokmpjbdaaDoor
