/- What holds of ports that are taken and given back: each is taken once, all of one block belong to one, as many as are taken are not free; Pick by a contract. -/
import Derived.Test.YtchjhmokmpjbdaaDoorPoIf2
namespace Go.Proofs.YtchjhmokmpjbdaaDoor
open Go.RowKit

theorem eqz_refl (a : List Int) : eqz a a = true := (eqz_iff a a).2 (fun _ _ => rfl)
theorem eqz_symm {a b : List Int} (h : eqz a b = true) : eqz b a = true := (eqz_iff b a).2 (fun j hj => ((eqz_iff a b).1 h j hj).symm)
theorem eqz_trans {a b c : List Int} (h1 : eqz a b = true) (h2 : eqz b c = true) : eqz a c = true := (eqz_iff a c).2 (fun j hj => ((eqz_iff a b).1 h1 j hj).trans ((eqz_iff b c).1 h2 j hj))
theorem cf_lo (ts : Nat → Bool) (i : Nat) (x : Bool) (n : Nat) (h : n ≤ i) : cf (upd ts i x) n = cf ts n := by
  induction n with
  | zero => rfl
  | succ n ih =>
    have hu : upd ts i x n = ts n := if_neg (by omega)
    simp only [cf]
    rw [ih (by omega), hu]
theorem cf_set (ts : Nat → Bool) (i : Nat) (h : ts i = false) (n : Nat) (hi : i < n) : cf (upd ts i true) n + 1 = cf ts n := by
  induction n with
  | zero => omega
  | succ n ih =>
    simp only [cf]
    by_cases e : n = i
    · subst e
      have hu : upd ts n true n = true := if_pos rfl
      rw [cf_lo ts n true n (Nat.le_refl _), hu, h]
      simp
    · have hu : upd ts i true n = ts n := if_neg e
      have := ih (by omega)
      rw [hu]
      omega
theorem cf_unset (ts : Nat → Bool) (i : Nat) (h : ts i = true) (n : Nat) (hi : i < n) : cf (upd ts i false) n = cf ts n + 1 := by
  induction n with
  | zero => omega
  | succ n ih =>
    simp only [cf]
    by_cases e : n = i
    · subst e
      have hu : upd ts n false n = false := if_pos rfl
      rw [cf_lo ts n false n (Nat.le_refl _), hu, h]
      simp
    · have hu : upd ts i false n = ts n := if_neg e
      have := ih (by omega)
      rw [hu]
      omega
theorem fo_in {ts : Nat → Bool} {k q : Nat} (h : fo ts k = some q) : ts q = true ∧ 8 * k ≤ q ∧ q < 8 * k + 8 := by
  unfold fo at h
  have h1 := List.find?_some h
  have h2 := List.mem_of_find?_eq_some h
  rw [List.mem_range'_1] at h2
  exact ⟨h1, h2.1, h2.2⟩
theorem fo_no {ts : Nat → Bool} {k : Nat} (h : fo ts k = none) (j : Nat) (h1 : 8 * k ≤ j) (h2 : j < 8 * k + 8) : ts j = false := by
  unfold fo at h
  rw [List.find?_eq_none] at h
  have := h j (List.mem_range'_1.2 ⟨h1, h2⟩)
  simpa using this
/-- which port is taken next. -/
theorem tk_some {ws : Nat → List Int} {ts : Nat → Bool} {z : List Int} {n i : Nat} (h : tk ws ts z n = some i) : i < n ∧ ts i = false ∧ ((∃ q, fo ts (i / 8) = some q ∧ eqz (ws q) z = true) ∨ fo ts (i / 8) = none) := by
  unfold tk at h
  rcases Option.or_eq_some_iff.1 h with h | ⟨_, h⟩
  · have h1 := List.find?_some h
    have h2 := List.mem_range.1 (List.mem_of_find?_eq_some h)
    unfold f0 om at h1
    simp only [Bool.and_eq_true, Bool.not_eq_true'] at h1
    refine ⟨h2, h1.1, .inl ?_⟩
    cases hq : fo ts (i / 8) with
    | none => rw [hq] at h1; exact absurd h1.2 (by simp [ome])
    | some q => rw [hq] at h1; exact ⟨q, rfl, h1.2⟩
  · have h1 := List.find?_some h
    have h2 := List.mem_range.1 (List.mem_of_find?_eq_some h)
    unfold f1 at h1
    simp only [Bool.and_eq_true, Bool.not_eq_true', Option.isNone_iff_eq_none] at h1
    exact ⟨h2, h1.1, .inr h1.2⟩
/-- what holds of ports and of those who have them. -/
def Inv (n : Nat) (ws : Nat → List Int) (ts : Nat → Bool) (ps : List Nat) (zs : List (List Int)) : Prop :=
  ps.length = zs.length ∧ (∀ k, k < ps.length → ps.getD k 0 < n ∧ ts (ps.getD k 0) = true ∧ ws (ps.getD k 0) = zs.getD k []) ∧ (∀ j k, j < k → k < ps.length → ps.getD j 0 ≠ ps.getD k 0) ∧ cf ts n + ps.length = n ∧
  (∀ i j, i < n → j < n → ts i = true → ts j = true → i / 8 = j / 8 → eqz (ws i) (ws j) = true)
theorem cf_none (n : Nat) : cf (fun _ => false) n = n := by
  induction n with
  | zero => rfl
  | succ n ih => simp only [cf]; rw [ih]; rfl
theorem Inv.start (n : Nat) : Inv n (fun _ => []) (fun _ => false) [] [] := ⟨rfl, fun k h => absurd h (by simp), fun j k _ h => absurd h (by simp), by rw [cf_none]; simp, fun i j _ _ h => by cases h⟩
theorem getD_snoc {α : Type} (l : List α) (x d : α) (k : Nat) : (l ++ [x]).getD k d = if k < l.length then l.getD k d else if k = l.length then x else d := by
  by_cases h : k < l.length
  · rw [if_pos h, List.getD_eq_getElem?_getD, List.getElem?_append_left h, ← List.getD_eq_getElem?_getD]
  · rw [if_neg h, List.getD_eq_getElem?_getD, List.getElem?_append_right (by omega)]
    by_cases e : k = l.length
    · rw [if_pos e, e, Nat.sub_self]; rfl
    · rw [if_neg e, List.getElem?_eq_none (by simp; omega)]; rfl
theorem Inv.take {n : Nat} {ws : Nat → List Int} {ts : Nat → Bool} {ps : List Nat} {zs : List (List Int)} (h : Inv n ws ts ps zs) {z : List Int} {i m : Nat} (hm : n = 8 * m) (ht : tk ws ts z n = some i) : Inv n (upd ws i z) (upd ts i true) (ps ++ [i]) (zs ++ [z]) := by
  obtain ⟨h1, h2, h3, h4, h5⟩ := h
  obtain ⟨hi, hf, hown⟩ := tk_some ht
  have hne : ∀ k, k < ps.length → ps.getD k 0 ≠ i := fun k hk e => by have := (h2 k hk).2.1; rw [e, hf] at this; cases this
  have uT : ∀ j, upd ts i true j = if j = i then true else ts j := fun _ => rfl
  have uW : ∀ j, upd ws i z j = if j = i then z else ws j := fun _ => rfl
  have hz : ∀ j, j < n → ts j = true → j / 8 = i / 8 → eqz (ws j) z = true := fun j hj htj hb => by
    rcases hown with ⟨q, hq, he⟩ | hn
    · obtain ⟨q1, q2, q3⟩ := fo_in hq
      exact eqz_trans (h5 j q hj (by omega) htj q1 (by omega)) he
    · have := fo_no hn j (by omega) (by omega)
      rw [htj] at this
      cases this
  refine ⟨by rw [List.length_append, List.length_append, h1]; rfl, fun k hk => ?_, fun j k hjk hk => ?_, ?_, fun a b ha hb hta htb hab => ?_⟩
  · rw [List.length_append] at hk
    rw [getD_snoc, getD_snoc, ← h1]
    by_cases e : k < ps.length
    · rw [if_pos e, if_pos e, uT, uW, if_neg (hne k e), if_neg (hne k e)]
      exact h2 k e
    · have ek : k = ps.length := by simp at hk; omega
      rw [if_neg e, if_neg e, if_pos ek, if_pos ek, uT, uW, if_pos rfl, if_pos rfl]
      exact ⟨hi, rfl, rfl⟩
  · rw [List.length_append] at hk
    rw [getD_snoc, getD_snoc]
    by_cases e : k < ps.length
    · rw [if_pos e, if_pos (by omega)]
      exact h3 j k hjk e
    · have ek : k = ps.length := by simp at hk; omega
      rw [if_neg e, if_pos ek, if_pos (by omega)]
      exact hne j (by omega)
  · have := cf_set ts i hf n hi
    rw [List.length_append]
    simp only [List.length_singleton]
    omega
  · rw [uT] at hta htb
    rw [uW, uW]
    by_cases e1 : a = i
    · by_cases e2 : b = i
      · rw [if_pos e1, if_pos e2]; exact eqz_refl z
      · rw [if_neg e2] at htb
        rw [if_pos e1, if_neg e2]
        exact eqz_symm (hz b hb htb (by rw [← hab, e1]))
    · rw [if_neg e1] at hta
      by_cases e2 : b = i
      · rw [if_neg e1, if_pos e2]
        exact hz a ha hta (by rw [hab, e2])
      · rw [if_neg e2] at htb
        rw [if_neg e1, if_neg e2]
        exact h5 a b ha hb hta htb hab
/-- a list without its k-th. -/
def cut {α : Type} (l : List α) (k : Nat) : List α := l.take k ++ l.drop (k + 1)
theorem cut_len {α : Type} (l : List α) (k : Nat) (h : k < l.length) : (cut l k).length + 1 = l.length := by unfold cut; rw [List.length_append, List.length_take, List.length_drop]; omega
theorem cut_at {α : Type} (l : List α) (k j : Nat) (d : α) (h : k < l.length) : (cut l k).getD j d = l.getD (if j < k then j else j + 1) d := by
  unfold cut
  simp only [List.getD_eq_getElem?_getD]
  by_cases e : j < k
  · rw [if_pos e, List.getElem?_append_left (by rw [List.length_take]; omega), List.getElem?_take_of_lt e]
  · rw [if_neg e, List.getElem?_append_right (by rw [List.length_take]; omega), List.length_take, List.getElem?_drop, show k + 1 + (j - min k l.length) = j + 1 by omega]
theorem Inv.give {n : Nat} {ws : Nat → List Int} {ts : Nat → Bool} {ps : List Nat} {zs : List (List Int)} (h : Inv n ws ts ps zs) {k : Nat} (hk : k < ps.length) : Inv n ws (upd ts (ps.getD k 0) false) (cut ps k) (cut zs k) := by
  obtain ⟨h1, h2, h3, h4, h5⟩ := h
  obtain ⟨hi, ht, _⟩ := h2 k hk
  have hl := cut_len ps k hk
  have hl2 := cut_len zs k (by omega)
  have hd : ∀ j, j < ps.length → j ≠ k → ps.getD j 0 ≠ ps.getD k 0 := fun j hj hjk => by
    rcases (by omega : j < k ∨ k < j) with e | e
    · exact h3 j k e hk
    · exact fun q => h3 k j e hj q.symm
  have uT : ∀ j, upd ts (ps.getD k 0) false j = if j = ps.getD k 0 then false else ts j := fun _ => rfl
  refine ⟨by omega, fun j hj => ?_, fun i j hij hj => ?_, ?_, fun a b ha hb hta htb hab => ?_⟩
  · rw [cut_at ps k j 0 hk, cut_at zs k j [] (by omega)]
    have hj' : (if j < k then j else j + 1) < ps.length ∧ (if j < k then j else j + 1) ≠ k := by split <;> omega
    obtain ⟨g1, g2, g3⟩ := h2 _ hj'.1
    rw [uT, if_neg (hd _ hj'.1 hj'.2)]
    exact ⟨g1, g2, g3⟩
  · rw [cut_at ps k i 0 hk, cut_at ps k j 0 hk]
    exact h3 _ _ (by split <;> split <;> omega) (by split <;> omega)
  · rw [cf_unset ts _ ht n hi]
    omega
  · rw [uT] at hta htb
    by_cases e1 : a = ps.getD k 0
    · rw [if_pos e1] at hta; cases hta
    · by_cases e2 : b = ps.getD k 0
      · rw [if_pos e2] at htb; cases htb
      · rw [if_neg e1] at hta
        rw [if_neg e2] at htb
        exact h5 a b ha hb hta htb hab
end Go.Proofs.YtchjhmokmpjbdaaDoor
