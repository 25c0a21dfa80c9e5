/- What the calls of the statement AddrReads answer, the program's beside the document's own, whatever the inputs. -/
import Derived.Test.YtdbhhlggddbehaaGreatDoorSixOf
import Derived.Test.YtdbhhlggddbehaaGreatDoorRefFour2
import Derived.Test.YtdbhhlggddbehaaGreatDoorRefBytes
import Derived.Test.YtdbhhlggddbehaaGreatDoorRef6c
import Derived.Test.YtdbhhlggddbehaaGreatDoorRefText
import Derived.Test.YtdbhhlggddbehaaGreatDoorAddrParse
import Derived.Test.YtdbhhlggddbehaaGreatDoorAddrIn2
import Derived.Test.YtdbhhlggddbehaaGreatDoorAddrEq
import Derived.Test.YtdbhhlggddbehaaGreatDoorFour2
import Derived.Test.YtdbhhlggddbehaaGreatDoorTold
import Derived.Laws.IdiomStrings
import Derived.Laws.BytesArg
namespace Go.Proofs.YtdbhhlggddbehaaGreatDoor
open Go.RowKit Go.Shelf

def b8 (l : List UInt8) : List Value := l.map fun b => Value.int .u8 (b.toNat : Int)
theorem conv_own {base : Nat} {W : World} {v : Value} {l : List UInt8} (h : OwnG 5 base W v (b8 l)) : (convert 27 9 v).run Tryz.prog W = .ok (.string ⟨l.toArray⟩) W := by
  obtain ⟨ao, cap, rfl, hc⟩ := h.parts
  have hl : (b8 l).length = l.length := by simp [b8]
  rw [hl]
  cases ao with
  | none =>
    have : l = [] := by
      apply Classical.byContradiction
      intro hne
      obtain ⟨g, h1, _⟩ := hc (by simpa [b8] using hne)
      cases h1
    subst this
    exact run_convert_bytes_string W 27 9 5 none 0 cap Tryz.underlying27 Tryz.underlying5 Tryz.underlying9
  | some a =>
    refine run_convert_bytes_back W 27 9 5 a cap l Tryz.underlying27 Tryz.underlying5 Tryz.underlying9 ?_
    intro j hj
    obtain ⟨g, h1, _, _, h2⟩ := hc (by intro e; have := congrArg List.length e; rw [hl, List.length_nil] at this; omega)
    cases h1
    rw [Lib.add_plain, Nat.zero_add]
    exact h2 j _ (by simp [b8, List.getElem?_eq_getElem hj])
theorem by16_u8 (z : List Int) (hz : Ok6 z) : u8s (by16 z 8) = b8 ((by16 z 8).map fun x => UInt8.ofNat x.toNat) := by
  unfold u8s b8
  rw [List.map_map]
  apply List.map_congr_left
  intro x hx
  have hb : 0 ≤ x ∧ x < 256 := by
    obtain ⟨j, hj, hx⟩ := List.mem_flatMap.1 hx
    have := hz j (List.mem_range.1 hj)
    unfold Word at this
    simp at hx
    rcases hx with rfl | rfl <;> omega
  simp only [Function.comp_apply]
  congr 1
  rw [UInt8.toNat_ofNat']
  omega

theorem OwnG.low {e : TypeId} {b b' : Nat} {w : World} {v : Value} {xs : List Value} (h : OwnG e b w v xs) (hb : b' ≤ b) : OwnG e b' w v xs := by
  refine ⟨h.1, ?_⟩
  rcases h.2 with h2 | ⟨g, cap, cur, rfl, hg, rest⟩
  · exact .inl h2
  · exact .inr ⟨g, cap, cur, rfl, Nat.le_trans hb hg, rest⟩
def Tells (ev : Value) (e : Int) : Prop := ∀ W, Laid0 W → Calls Tryz.prog 7 #[ev, .int .i64 e] W fun r W' => r = .returned (.bool true) ∧ Below W.heap.size W W'
theorem tells_nil : Tells .nilIface 0 := fun W _ => (error_nil W).mono fun e W' ⟨h1, h2⟩ => ⟨h1, by rw [h2]; exact Below.refl _ _⟩
theorem tells_err (e : Int) : Tells (.iface 24 (.int .i64 e)) e := fun W h => error_err e W h

/-- of one address. -/
theorem tellA (a : List Int) : ∃ (e : Int) (ev : Value) (u : ByteArray) (l : List UInt8), (e = 0 → Ok6 a) ∧ (e ≠ 0 → ¬ Ok6 a ∧ e = 1 ∧ u = ⟨#[]⟩ ∧ l = []) ∧ Tells ev e ∧
    (∀ W, Calls Tryz.prog 4 #[six a] W fun r W' => r = .returned (.int .i64 e) ∧ Below W.heap.size W W') ∧
    (e = 0 → ∀ W, Calls Tryz.prog 5 #[six a] W fun r W' => r = .returned (.string u) ∧ Below W.heap.size W W') ∧
    (e = 0 → ∀ W, Calls Tryz.prog 6 #[six a] W fun r W' => ∃ v, r = .returned v ∧ OwnG 5 W.heap.size W' v (b8 l) ∧ Below W.heap.size W W') ∧
    (∀ W, Calls Tryz.prog 8 #[six a] W fun r W' => r = .returned ev ∧ Below W.heap.size W W') ∧
    (∀ W, Tab4 W → Calls Tryz.prog 9 #[six a] W fun r W' => r = .returned (.tuple #[.string u, ev]) ∧ Below W.heap.size W W') ∧
    (∀ W, Calls Tryz.prog 10 #[six a] W fun r W' => ∃ v, r = .returned (.tuple #[v, ev]) ∧ OwnG 5 W.heap.size W' v (b8 l) ∧ Below W.heap.size W W') := by
  by_cases h : Ok6 a
  · refine ⟨0, .nilIface, ⟨(AM.tx a).toArray⟩, (by16 a 8).map fun x => UInt8.ofNat x.toNat, fun _ => h, fun h => absurd rfl h, tells_nil, fun W => fault_ok a W h, fun _ W => sixtext_any a W h, fun _ W => ?_, fun W => ?_, fun W h4 => print_ok a W h h4, fun W => ?_⟩
    · refine (bytesof_any a W h).mono fun r W' ⟨v, h1, h2, h3⟩ => ⟨v, h1, ?_, h3⟩
      rw [← by16_u8 a h]
      exact h2.low (by omega)
    · refine (check_ok a W h).mono fun r W' ⟨h1, h2⟩ => ⟨h1, ?_⟩
      rw [h2]; exact (Below.refl _ _).alloc (Nat.le_refl _) _
    · refine (bytes_ok a W h).mono fun r W' ⟨v, h1, h2, h3⟩ => ⟨v, h1, ?_, h3⟩
      rw [← by16_u8 a h]; exact h2
  · refine ⟨1, .iface 24 (.int .i64 1), ⟨#[]⟩, [], fun h => absurd h (by decide), fun _ => ⟨h, rfl, rfl, rfl⟩, tells_err 1, fun W => fault_bad a W h, fun h => absurd h (by decide), fun h => absurd h (by decide), fun W => ?_, fun W h4 => print_bad a W h, fun W => ?_⟩
    · refine (check_bad a W h).mono fun r W' ⟨h1, h2⟩ => ⟨h1, ?_⟩
      rw [h2]; exact (Below.refl _ _).alloc (Nat.le_refl _) _
    · exact (bytes_bad a W h).mono fun r W' ⟨h1, h2⟩ => ⟨_, h1, OwnG.nil _ _ _, h2⟩
/-- of two, and how many bits. -/
theorem tellIn (a p : List Int) (k ea ep : Int) (ha : ea = 0 → Ok6 a) (ha' : ea ≠ 0 → ¬ Ok6 a ∧ ea = 1) (hp : ep = 0 → Ok6 p) (hp' : ep ≠ 0 → ¬ Ok6 p ∧ ep = 1) :
    ∃ (ev : Value) (b : Bool), Tells ev (if ea = 0 then (if ep = 0 then (if k < 0 ∨ 128 < k then 1 else 0) else ep) else ea) ∧
    (∀ W, Calls Tryz.prog 11 #[six a, six p, .int .i64 k] W fun r W' => r = .returned (.tuple #[.bool b, ev]) ∧ Below W.heap.size W W') ∧
    ((if ea = 0 then (if ep = 0 then (if k < 0 ∨ 128 < k then 1 else 0) else ep) else ea) = 0 → ∀ W, Calls Tryz.prog 12 #[six a, six p, .int .i64 k] W fun r W' => r = .returned (.bool b) ∧ Below W.heap.size W W') ∧
    ((if ea = 0 then (if ep = 0 then (if k < 0 ∨ 128 < k then 1 else 0) else ep) else ea) ≠ 0 → b = false) := by
  by_cases h1 : ea = 0
  · by_cases h2 : ep = 0
    · by_cases h3 : k < 0 ∨ 128 < k
      · simp only [if_pos h1, if_pos h2, if_pos h3]
        exact ⟨_, false, tells_err 1, fun W => in_bad3 a p k W (ha h1) (hp h2) h3, fun h => absurd h (by decide), fun _ => rfl⟩
      · simp only [if_pos h1, if_pos h2, if_neg h3]
        exact ⟨_, _, tells_nil, fun W => in_ok a p k W (ha h1) (hp h2) (by omega) (by omega), fun _ W => starts_any a p k W (ha h1) (hp h2) (by omega) (by omega), fun h => absurd rfl h⟩
    · obtain ⟨n, e⟩ := hp' h2
      simp only [if_pos h1, if_neg h2]
      subst e
      exact ⟨_, false, tells_err 1, fun W => in_bad2 a p k W (ha h1) n, fun h => absurd h (by decide), fun _ => rfl⟩
  · obtain ⟨n, e⟩ := ha' h1
    simp only [if_neg h1]
    subst e
    exact ⟨_, false, tells_err 1, fun W => in_bad1 a p k W n, fun h => absurd h (by decide), fun _ => rfl⟩
/-- of a text that may be a six's. -/
theorem tellS (s : ByteArray) (hs : s.size ≤ 1048576) : ∃ (z : List Int) (e : Int) (ev : Value), Tells ev e ∧
    (∀ W, Calls Tryz.prog 13 #[.string s] W fun r W' => r = .returned (.tuple #[six z, .int .i64 e]) ∧ Below W.heap.size W W') ∧
    (∀ W, LaidA W → Calls Tryz.prog 14 #[.string s] W fun r W' => r = .returned (.tuple #[six z, ev]) ∧ Below W.heap.size W W') := by
  cases hp : AM.parseF s.data.toList with
  | none =>
    refine ⟨[], 5, _, tells_err 5, fun W => ?_, fun W h => parse_no s W h hp⟩
    refine (sixof_any s W hs).mono fun r W' ⟨h, hb⟩ => ⟨?_, hb⟩
    rcases h with ⟨z, h1, _⟩ | ⟨_, h⟩
    · rw [hp] at h1; cases h1
    · exact h
  | some z =>
    refine ⟨z, 0, _, tells_nil, fun W => ?_, fun W h => parse_yes s W h z hp⟩
    refine (sixof_any s W hs).mono fun r W' ⟨h, hb⟩ => ⟨?_, hb⟩
    rcases h with ⟨z', h1, h⟩ | ⟨h1, _⟩
    · rw [hp] at h1; cases h1; exact h
    · rw [hp] at h1; cases h1
/-- of a number that may be a four. -/
theorem tellN (n : Int) : ∃ (b : Bool) (e : Int) (u : ByteArray) (ev : Value), Tells ev e ∧ (b = false → e = 1 ∧ u = ⟨#[]⟩) ∧ (b = true → e = 0) ∧
    (∀ W, Calls Tryz.prog 15 #[.int .i64 n] W fun r W' => r = .returned (.bool b) ∧ Below W.heap.size W W') ∧
    (b = true → ∀ W, Calls Tryz.prog 16 #[.int .i64 n] W fun r W' => r = .returned (.string u) ∧ Below W.heap.size W W') ∧
    (∀ W, Pow10 W → Calls Tryz.prog 17 #[.int .i64 n] W fun r W' => r = .returned (.tuple #[.string u, ev]) ∧ Below W.heap.size W W') := by
  by_cases h : n < 0 ∨ 4294967295 < n
  · refine ⟨false, 1, ⟨#[]⟩, _, tells_err 1, fun _ => ⟨rfl, rfl⟩, fun h => (by cases h), fun W => ?_, fun h => (by cases h), fun W _ => ?_⟩
    · exact (isfour_no n W h).mono fun r W' ⟨h1, h2⟩ => ⟨h1, by rw [h2]; exact Below.refl _ _⟩
    · exact (print4_bad n W h).mono fun r W' ⟨h1, h2⟩ => ⟨h1, by rw [h2]; exact Below.refl _ _⟩
  · obtain ⟨m, rfl⟩ : ∃ m : Nat, n = m := ⟨n.toNat, by omega⟩
    have hm : m ≤ 4294967295 := by omega
    refine ⟨true, 0, ⟨(AM.t4 m).toArray⟩, _, tells_nil, fun h => (by cases h), fun _ => rfl, fun W => ?_, fun _ W => ?_, fun W h => print4_ok m W hm h⟩
    · exact (isfour_yes m W (by omega)).mono fun r W' ⟨h1, h2⟩ => ⟨h1, by rw [h2]; exact Below.refl _ _⟩
    · exact (fourtext_any m W hm).mono fun r W' ⟨h1, h2⟩ => ⟨h1, by rw [h2]; exact Below.refl _ _⟩
/-- of a text that may be a four's. -/
theorem tellT (s : ByteArray) (hs : s.size ≤ 1048576) : ∃ (v e : Int) (ev : Value), Tells ev e ∧
    (∀ W, Calls Tryz.prog 18 #[.string s] W fun r W' => r = .returned (.tuple #[.int .i64 v, .int .i64 e]) ∧ Below W.heap.size W W') ∧
    (∀ W, LaidA W → Pow10 W → Calls Tryz.prog 19 #[.string s] W fun r W' => r = .returned (.tuple #[.int .i64 v, ev]) ∧ Below W.heap.size W W') := by
  cases hp : AM.parse4F s.data.toList with
  | none =>
    refine ⟨0, 5, _, tells_err 5, fun W => ?_, fun W h h2 => parse4_no s W h.2.2 h.2.1 h2 hp⟩
    refine (fourof_any s W hs).mono fun r W' ⟨h, hb⟩ => ⟨?_, hb⟩
    rcases h with ⟨z, h1, _⟩ | ⟨_, h⟩
    · rw [hp] at h1; cases h1
    · exact h
  | some n =>
    refine ⟨n, 0, _, tells_nil, fun W => ?_, fun W h h2 => parse4_yes s W h.2.2 h.2.1 h2 n hp⟩
    refine (fourof_any s W hs).mono fun r W' ⟨h, hb⟩ => ⟨?_, hb⟩
    rcases h with ⟨z', h1, h⟩ | ⟨h1, _⟩
    · rw [hp] at h1; cases h1; exact h
    · rw [hp] at h1; cases h1
end Go.Proofs.YtdbhhlggddbehaaGreatDoor
