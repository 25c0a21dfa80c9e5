/- What holds of a table still holds when a bind is made, used, or gone. What BindApart asks of a table that holds what holds of tables: each bind is found by its flow and by its port; what goes is found no more, and was not used in time. Calls of the program's table that only read; what is kept while BindApart plays. -/
import Derived.Test.YtkhahbghmdccaaaGreatDoorF18
import Derived.Test.YtkhahbghmdccaaaGreatDoorF23
import Derived.Deep.MidRow
import Derived.Laws.ResultCell
import Derived.Deep.CutBlock
import Derived.Deep.QuietTactic
import Derived.OwnWalk
import Derived.Deep.RegionHeld3
import Derived.Deep.DrawnRows
import Derived.Laws.StructEq
import Derived.Laws.AppendOwnNone
import Derived.Maps.AppendAt
import Derived.Test.YtkhahbghmdccaaaGreatDoorProg
import Derived.WalkKit
import Derived.LaidEql
import Derived.Stop.Asserts
import Derived.RowKitTokens
import Derived.BigQuiet
import Derived.Below
import Derived.Laws.MakeOwn
import Derived.Deep.RegionLaw
namespace Go.Proofs.YtkhahbghmdccaaaGreatDoor
open Go.RowKit
theorem BI.start (m : Nat) : BI m (fun _ => []) (fun _ => false) [] := ⟨fun b h => absurd h (by simp), List.Pairwise.nil, List.Pairwise.nil, fun i _ h => by cases h⟩
theorem take_succ (bs : List (List Int)) (k : Nat) (hk : k < bs.length) : bs.take (k + 1) = bs.take k ++ [bs.getD k []] := by
  rw [List.take_add_one, List.getElem?_eq_getElem hk, List.getD_eq_getElem?_getD, List.getElem?_eq_getElem hk]
  rfl
theorem st_form (x : List Int) (bs : List (List Int)) (k : Nat) (hk : k ≤ bs.length) :
    (st x bs k = (bs.take k, false) ∧ ∀ j, j < k → ¬ el x 19 < el (bs.getD j []) 19) ∨
    ∃ p, p < k ∧ st x bs k = (bs.take p ++ [x] ++ (bs.take k).drop p, true) ∧ el x 19 < el (bs.getD p []) 19 ∧ ∀ j, j < p → ¬ el x 19 < el (bs.getD j []) 19 := by
  induction k with
  | zero => exact .inl ⟨rfl, fun j h => absurd h (by omega)⟩
  | succ k ih =>
    have hE : st x bs (k + 1) = if (!(st x bs k).2 && decide (el x 19 < el (bs.getD k []) 19)) = true then ((st x bs k).1 ++ [x] ++ [bs.getD k []], true) else ((st x bs k).1 ++ [bs.getD k []], (st x bs k).2) := rfl
    rcases ih (by omega) with ⟨h1, h2⟩ | ⟨p, hp, h1, h2, h3⟩
    · rw [h1] at hE
      by_cases hx : el x 19 < el (bs.getD k []) 19
      · refine .inr ⟨k, by omega, ?_, hx, h2⟩
        rw [hE, if_pos (by rw [decide_eq_true hx]; rfl), take_succ bs k (by omega)]
        rw [List.drop_append_of_le_length (by rw [List.length_take]; omega), List.drop_of_length_le (by rw [List.length_take]; omega)]
        rfl
      · refine .inl ⟨?_, fun j hj => if e : j = k then by rw [e]; exact hx else h2 j (by omega)⟩
        rw [hE, if_neg (by rw [decide_eq_false hx]; simp), take_succ bs k (by omega)]
    · rw [h1] at hE
      refine .inr ⟨p, by omega, ?_, h2, h3⟩
      rw [hE, if_neg (by simp), take_succ bs k (by omega), List.drop_append_of_le_length (by rw [List.length_take]; omega)]
      simp
theorem ins_form (x : List Int) (bs : List (List Int)) : ∃ p, p ≤ bs.length ∧ ins x bs = bs.take p ++ ([x] ++ bs.drop p) ∧ (∀ j, j < p → ¬ el x 19 < el (bs.getD j []) 19) ∧ (p < bs.length → el x 19 < el (bs.getD p []) 19) := by
  unfold ins
  rcases st_form x bs bs.length (Nat.le_refl _) with ⟨h1, h2⟩ | ⟨p, hp, h1, h2, h3⟩
  · refine ⟨bs.length, Nat.le_refl _, ?_, h2, fun h => absurd h (by omega)⟩
    rw [h1]
    simp
  · refine ⟨p, by omega, ?_, h3, fun _ => h2⟩
    rw [h1]
    simp
theorem near_inj {bs : List (List Int)} (h : bs.Pairwise (fun a b => el a 19 < el b 19)) {a b : List Int} (ha : a ∈ bs) (hb : b ∈ bs) (e : el a 19 = el b 19) : a = b := by
  obtain ⟨i, hi, rfl⟩ := List.getElem_of_mem ha
  obtain ⟨j, hj, rfl⟩ := List.getElem_of_mem hb
  have hp := List.pairwise_iff_getElem.1 h
  rcases (by omega : i = j ∨ i < j ∨ j < i) with rfl | hij | hij
  · rfl
  · exact absurd (hp i j hi hj hij) (by omega)
  · exact absurd (hp j i hj hi hij) (by omega)
theorem tk_free {ws : Nat → List Int} {ts : Nat → Bool} {z : List Int} {n i : Nat} (h : tk ws ts z n = some i) : ts i = false := by
  unfold tk at h
  rcases Option.or_eq_some_iff.1 h with h | ⟨_, h⟩
  · have h1 := List.find?_some h
    unfold f0 at h1
    simp only [Bool.and_eq_true, Bool.not_eq_true'] at h1
    exact h1.1
  · have h1 := List.find?_some h
    unfold f1 at h1
    simp only [Bool.and_eq_true, Bool.not_eq_true'] at h1
    exact h1.1
theorem fnd_no {bs : List (List Int)} {f : List Int} (h : fnd bs f = none) {b : List Int} (hb : b ∈ bs) : eqf b f = false := by
  obtain ⟨i, hi, rfl⟩ := List.getElem_of_mem hb
  unfold fnd at h
  rw [List.find?_eq_none] at h
  have := h i (List.mem_range.2 hi)
  rw [List.getD_eq_getElem?_getD, List.getElem?_eq_getElem hi] at this
  simpa using this
theorem eqf_false (a b : List Int) : eqf a b = false ↔ flC a ≠ flC b := by
  rw [← Bool.not_eq_true, eqf_iff]
theorem BI.made {m : Nat} {ws : Nat → List Int} {ts : Nat → Bool} {bs : List (List Int)} (h : BI m ws ts bs) {f : List Int} {back far now : Int} (h1 : okf f = true) (h2 : (fr back && wd far && tc now) = true) (h3 : fnd bs f = none) {i : Nat} (h4 : tk ws ts (cli f) (8 * m) = some i) : BI m (upd ws i (cli f)) (upd ts i true) (ins (mkb f (1024 + (i : Int)) back far now) bs) := by
  obtain ⟨x, hx⟩ : ∃ x, mkb f (1024 + (i : Int)) back far now = x := ⟨_, rfl⟩
  have x19 : el x 19 = 1024 + (i : Int) := by rw [← hx]; rfl
  have xfl : flC x = flC f := by rw [← hx]; rfl
  have hti := tk_free h4
  have hin := tk_lt h4
  simp only [Bool.and_eq_true] at h2
  have gx : Gb m (upd ws i (cli f)) (upd ts i true) x := by
    rw [← hx]
    exact ⟨h1, ⟨i, hin, rfl, if_pos rfl, by rw [show upd ws i (cli f) i = cli f from if_pos rfl]; rfl⟩, h2.2, h2.1.1, h2.1.2⟩
  rw [hx]
  obtain ⟨b1, b2, b3, b4⟩ := h
  obtain ⟨p, hp, e, hlo, hhi⟩ := ins_form x bs
  have hne : ∀ b ∈ bs, el b 19 ≠ el x 19 := fun b hb e => by
    obtain ⟨_, ⟨j, _, ej, tj, _⟩, _⟩ := b1 b hb
    have : i = j := by omega
    rw [this, tj] at hti
    cases hti
  have gold : ∀ b ∈ bs, Gb m (upd ws i (cli f)) (upd ts i true) b := fun b hb => by
    obtain ⟨g1, ⟨j, hj, ej, tj, cj⟩, g3⟩ := b1 b hb
    have hij : j ≠ i := fun e => by rw [e, hti] at tj; cases tj
    exact ⟨g1, ⟨j, hj, ej, by unfold upd; rw [if_neg hij]; exact tj, by unfold upd; rw [if_neg hij]; exact cj⟩, g3⟩
  have hsplit : bs.take p ++ bs.drop p = bs := List.take_append_drop p bs
  have mtake : ∀ b, b ∈ bs.take p → b ∈ bs := fun b hb => List.mem_of_mem_take hb
  have mdrop : ∀ b, b ∈ bs.drop p → b ∈ bs := fun b hb => List.mem_of_mem_drop hb
  have lo : ∀ b ∈ bs.take p, el b 19 < el x 19 := fun b hb => by
    obtain ⟨j, hj, rfl⟩ := List.getElem_of_mem hb
    rw [List.length_take] at hj
    have h5 := hlo j (by omega)
    rw [List.getD_eq_getElem?_getD, List.getElem?_eq_getElem (by omega)] at h5
    have h6 := hne _ (mtake _ hb)
    rw [List.getElem_take] at h6 ⊢
    simp only [Option.getD_some] at h5
    omega
  have hi : ∀ b ∈ bs.drop p, el x 19 < el b 19 := fun b hb => by
    have hlt : p < bs.length := by
      rcases Nat.lt_or_ge p bs.length with h | h
      · exact h
      · rw [List.drop_of_length_le h] at hb; exact absurd hb (by simp)
    have h5 := hhi hlt
    obtain ⟨j, hj, rfl⟩ := List.getElem_of_mem hb
    rw [List.length_drop] at hj
    rw [List.getElem_drop]
    rw [List.getD_eq_getElem?_getD, List.getElem?_eq_getElem hlt] at h5
    simp only [Option.getD_some] at h5
    by_cases e0 : j = 0
    · subst e0; exact h5
    · have := List.pairwise_iff_getElem.1 b2 p (p + j) hlt (by omega) (by omega)
      omega
  rw [e]
  refine ⟨fun b hb => ?_, ?_, ?_, fun j hj ht => ?_⟩
  · rw [List.mem_append, List.mem_append, List.mem_singleton] at hb
    rcases hb with hb | rfl | hb
    · exact gold b (mtake b hb)
    · exact gx
    · exact gold b (mdrop b hb)
  · rw [← hsplit, List.pairwise_append] at b2
    rw [List.pairwise_append]
    refine ⟨b2.1, ?_, fun a ha b hb => ?_⟩
    · rw [List.singleton_append, List.pairwise_cons]
      exact ⟨hi, b2.2.1⟩
    · rw [List.mem_append, List.mem_singleton] at hb
      rcases hb with rfl | hb
      · exact lo a ha
      · exact b2.2.2 a ha b hb
  · have nf : ∀ b ∈ bs, flC b ≠ flC x := fun b hb => by rw [xfl]; exact (eqf_false b f).1 (fnd_no h3 hb)
    rw [← hsplit, List.pairwise_append] at b3
    rw [List.pairwise_append]
    refine ⟨b3.1, ?_, fun a ha b hb => ?_⟩
    · rw [List.singleton_append, List.pairwise_cons]
      exact ⟨fun b hb => (eqf_false x b).2 (fun e => nf b (mdrop b hb) e.symm), b3.2.1⟩
    · rw [List.mem_append, List.mem_singleton] at hb
      rcases hb with rfl | hb
      · exact (eqf_false a b).2 (nf a (mtake a ha))
      · exact b3.2.2 a ha b hb
  · unfold upd at ht
    by_cases ej : j = i
    · exact ⟨x, by simp, by rw [ej]; exact x19⟩
    · rw [if_neg ej] at ht
      obtain ⟨b, hb, eb⟩ := b4 j hj ht
      refine ⟨b, ?_, eb⟩
      rw [← hsplit, List.mem_append] at hb
      rw [List.mem_append, List.mem_append]
      rcases hb with hb | hb
      · exact .inl hb
      · exact .inr (.inr hb)
theorem set_map {α β : Type} (l : List α) (k : Nat) (x : α) (g : α → β) (hk : k < l.length) (he : g x = g l[k]) : (l.set k x).map g = l.map g := by
  apply List.ext_getElem
  · simp
  · intro i h1 h2
    simp only [List.getElem_map, List.getElem_set]
    split
    · rename_i e; subst e; exact he
    · rfl
theorem BI.use {m : Nat} {ws : Nat → List Int} {ts : Nat → Bool} {bs : List (List Int)} (h : BI m ws ts bs) {p now e : Int} {bs' : List (List Int)} (hk : Us bs p now e bs') : BI m ws ts bs' ∧ bs'.length = bs.length := by
  rcases hk with ⟨_, _, rfl⟩ | ⟨_, _, _, _, rfl⟩ | ⟨_, _, _, _, _, rfl⟩ | ⟨k, k1, k2, _, _, rfl⟩
  · exact ⟨h, rfl⟩
  · exact ⟨h, rfl⟩
  · exact ⟨h, rfl⟩
  · have hk := (prt_lt k1).1
    have hgd : bs.getD k [] = bs[k] := by rw [List.getD_eq_getElem?_getD, List.getElem?_eq_getElem hk]; rfl
    obtain ⟨b1, b2, b3, b4⟩ := h
    have en : (bs.set k (usd (bs.getD k []) now)).map (fun b => el b 19) = bs.map (fun b => el b 19) := set_map bs k _ _ hk (by rw [hgd]; rfl)
    have ef : (bs.set k (usd (bs.getD k []) now)).map flC = bs.map flC := set_map bs k _ _ hk (by rw [hgd]; rfl)
    refine ⟨⟨fun b hb => ?_, ?_, ?_, fun j hj ht => ?_⟩, by rw [List.length_set]⟩
    · rcases List.mem_or_eq_of_mem_set hb with hb | rfl
      · exact b1 b hb
      · obtain ⟨g1, g2, g3, g4⟩ := b1 _ (mem_getD hk)
        exact ⟨g1, g2, k2, g4⟩
    · have := (List.pairwise_map (f := fun b => el b 19) (R := (· < ·))).2 b2
      rw [← en] at this
      exact (List.pairwise_map (f := fun b => el b 19) (R := (· < ·))).1 this
    · have := (List.pairwise_map (f := flC) (R := (· ≠ ·))).2 (b3.imp (fun {a b} h => (eqf_false a b).1 h))
      rw [← ef] at this
      exact ((List.pairwise_map (f := flC) (R := (· ≠ ·))).1 this).imp (fun {a b} h => (eqf_false a b).2 h)
    · obtain ⟨b, hb, eb⟩ := b4 j hj ht
      have : el b 19 ∈ bs.map (fun b => el b 19) := List.mem_map.2 ⟨b, hb, rfl⟩
      rw [← en] at this
      obtain ⟨b', hb', e'⟩ := List.mem_map.1 this
      exact ⟨b', hb', e'.trans eb⟩
theorem es_form (now : Int) (bs : List (List Int)) (ts : Nat → Bool) (k : Nat) (hk : k ≤ bs.length) : (es now bs ts k).1 = (bs.take k).filter (xp now) ∧ (es now bs ts k).2.1 = (bs.take k).filter (fun b => !xp now b) ∧ ∀ j, (es now bs ts k).2.2 j = true ↔ ts j = true ∧ ∀ b ∈ bs.take k, xp now b = true → (el b 19 - 1024).toNat ≠ j := by
  induction k with
  | zero => exact ⟨rfl, rfl, fun j => ⟨fun h => ⟨h, fun b hb => absurd hb (by simp)⟩, fun h => h.1⟩⟩
  | succ k ih =>
    obtain ⟨h1, h2, h3⟩ := ih (by omega)
    simp only [es]
    rw [take_succ bs k (by omega), List.filter_append, List.filter_append]
    generalize bs.getD k [] = b
    cases hx : xp now b
    · rw [if_neg (by simp)]
      refine ⟨by simp [h1, hx], by simp [h2, hx], fun j => ?_⟩
      rw [h3 j]
      refine ⟨fun ⟨a1, a2⟩ => ⟨a1, fun c hc hcx => ?_⟩, fun ⟨a1, a2⟩ => ⟨a1, fun c hc => a2 c (List.mem_append.2 (.inl hc))⟩⟩
      rcases List.mem_append.1 hc with hc | hc
      · exact a2 c hc hcx
      · rw [List.mem_singleton] at hc; rw [hc, hx] at hcx; cases hcx
    · rw [if_pos rfl]
      refine ⟨by simp [h1, hx], by simp [h2, hx], fun j => ?_⟩
      show (if j = (el b 19 - 1024).toNat then false else (es now bs ts k).2.2 j) = true ↔ _
      by_cases e : j = (el b 19 - 1024).toNat
      · rw [if_pos e]
        refine ⟨(fun h => by cases h), fun ⟨_, a2⟩ => absurd e.symm (a2 b (by simp) hx)⟩
      · rw [if_neg e, h3 j]
        refine ⟨fun ⟨a1, a2⟩ => ⟨a1, fun c hc hcx => ?_⟩, fun ⟨a1, a2⟩ => ⟨a1, fun c hc => a2 c (List.mem_append.2 (.inl hc))⟩⟩
        rcases List.mem_append.1 hc with hc | hc
        · exact a2 c hc hcx
        · rw [List.mem_singleton] at hc; rw [hc]; exact fun e' => e e'.symm
theorem BI.expire {m : Nat} {ws : Nat → List Int} {ts : Nat → Bool} {bs : List (List Int)} (h : BI m ws ts bs) (now : Int) : BI m ws (es now bs ts bs.length).2.2 (es now bs ts bs.length).2.1 ∧ (es now bs ts bs.length).2.1.length ≤ bs.length ∧ (es now bs ts bs.length).1.length ≤ bs.length := by
  obtain ⟨e1, e2, e3⟩ := es_form now bs ts bs.length (Nat.le_refl _)
  rw [List.take_length] at e1 e2
  have hl := es_len now bs ts bs.length
  refine ⟨?_, by omega, by omega⟩
  obtain ⟨b1, b2, b3, b4⟩ := h
  generalize hts : (es now bs ts bs.length).2.2 = ts' at e3
  rw [e2]
  have hnear : ∀ b ∈ bs, ∃ i : Nat, i < 8 * m ∧ el b 19 = 1024 + (i : Int) := fun b hb => by obtain ⟨_, ⟨i, hi, ei, _⟩, _⟩ := b1 b hb; exact ⟨i, hi, ei⟩
  refine ⟨fun b hb => ?_, b2.filter _, b3.filter _, fun j hj ht => ?_⟩
  · rw [List.mem_filter] at hb
    obtain ⟨g1, ⟨i, hi, ei, ti, ci⟩, g3⟩ := b1 b hb.1
    refine ⟨g1, ⟨i, hi, ei, (e3 i).2 ⟨ti, fun c hc hcx e' => ?_⟩, ci⟩, g3⟩
    rw [List.take_length] at hc
    obtain ⟨i2, _, ei2⟩ := hnear c hc
    have : c = b := near_inj b2 hc hb.1 (by omega)
    rw [this] at hcx
    rw [hcx] at hb
    simp at hb
  · obtain ⟨a1, a2⟩ := (e3 j).1 ht
    obtain ⟨b, hb, eb⟩ := b4 j hj a1
    refine ⟨b, ?_, eb⟩
    rw [List.mem_filter]
    refine ⟨hb, ?_⟩
    cases hx : xp now b
    · rfl
    · exact absurd (show (el b 19 - 1024).toNat = j by omega) (a2 b (by rw [List.take_length]; exact hb) hx)
end Go.Proofs.YtkhahbghmdccaaaGreatDoor

namespace Go.Proofs.YtkhahbghmdccaaaGreatDoor
open Go.RowKit
theorem getD_at {bs : List (List Int)} {k : Nat} (hk : k < bs.length) : bs.getD k [] = bs[k] := by rw [List.getD_eq_getElem?_getD, List.getElem?_eq_getElem hk]; rfl
theorem BI.fnd_at {m : Nat} {ws : Nat → List Int} {ts : Nat → Bool} {bs : List (List Int)} (h : BI m ws ts bs) {k : Nat} (hk : k < bs.length) : fnd bs (bs.getD k []) = some k := by
  unfold fnd
  refine find_some hk ((eqf_iff _ _).2 rfl) fun j hj => ?_
  rw [getD_at (by omega), getD_at hk]
  exact List.pairwise_iff_getElem.1 h.2.2.1 j k (by omega) hk hj
theorem BI.fd {m : Nat} {ws : Nat → List Int} {ts : Nat → Bool} {bs : List (List Int)} (h : BI m ws ts bs) {k : Nat} (hk : k < bs.length) : Fd bs (bs.getD k []) (bs.getD k []) 0 := .inr (.inr ⟨(h.1 _ (mem_getD hk)).1, k, h.fnd_at hk, rfl, rfl⟩)
theorem BI.gone {m : Nat} {ws : Nat → List Int} {ts : Nat → Bool} {bs : List (List Int)} (h : BI m ws ts bs) (now : Int) {b : List Int} (hb : b ∈ (es now bs ts bs.length).1) : Fd (es now bs ts bs.length).2.1 b [] 4 ∧ 30 ≤ now - el b 22 ∧ tc (el b 22) = true := by
  obtain ⟨e1, e2, _⟩ := es_form now bs ts bs.length (Nat.le_refl _)
  rw [List.take_length] at e1 e2
  rw [e1, List.mem_filter] at hb
  rw [e2]
  have hg := h.1 b hb.1
  refine ⟨.inr (.inl ⟨hg.1, ?_, rfl, rfl⟩), ?_, hg.2.2.1⟩
  · unfold fnd
    rw [List.find?_eq_none]
    intro i hi
    have hi' := List.mem_range.1 hi
    rw [getD_at hi']
    have hm := List.getElem_mem hi'
    rw [List.mem_filter] at hm
    intro e
    have e' := (eqf_iff _ _).1 e
    have hin : (bs.filter (fun b => !xp now b))[i] = b := by
      obtain ⟨p, hp, ep⟩ := List.getElem_of_mem hm.1
      obtain ⟨q, hq, eq⟩ := List.getElem_of_mem hb.1
      have hpw := List.pairwise_iff_getElem.1 h.2.2.1
      rcases (by omega : p = q ∨ p < q ∨ q < p) with rfl | hpq | hpq
      · rw [← ep, ← eq]
      · have := (eqf_false _ _).1 (hpw p q hp hq hpq)
        rw [ep, eq] at this
        exact absurd e' this
      · have := (eqf_false _ _).1 (hpw q p hq hp hpq)
        rw [ep, eq] at this
        exact absurd e'.symm this
    have h1 := hm.2
    rw [hin, hb.2] at h1
    cases h1
  · have := hb.2
    unfold xp at this
    simp only [Bool.or_eq_true, Bool.and_eq_true, decide_eq_true_eq] at this
    rcases this with ⟨_, h⟩ | ⟨_, h⟩
    · omega
    · exact h
end Go.Proofs.YtkhahbghmdccaaaGreatDoor

namespace Go.Proofs.YtkhahbghmdccaaaGreatDoor
open Go.RowKit
theorem TQ.of {TP : Value → Nat → (Nat → List Int) → (Nat → Bool) → List (List Int) → (Nat → Prop) → World → Prop} (I : JKept TP) {v : Value} {m : Nat} {ws : Nat → List Int} {ts : Nat → Bool} {bs : List (List Int)} {O : Nat → Prop} {w w' : World} (h : TP v m ws ts bs O w) (hb : Below w.heap.size w w') : TQ TP v m ws ts bs O w w' := by
  have k := I v m ws ts bs O w h
  exact ⟨O, k.2 w' hb.size (fun g hg => hb.block g (k.1 g hg)), Fr.of hb, fun _ e => .inl e⟩
def RNear (TP : Value → Nat → (Nat → List Int) → (Nat → Bool) → List (List Int) → (Nat → Prop) → World → Prop) : Prop := ∀ v m ws ts bs O w kind p x e, m ≤ 16 → bs.length ≤ 128 → BI m ws ts bs → TP v m ws ts bs O w → Nr bs kind p x e →
  Calls Tryz.prog 76 #[v, .int .i64 kind, .int .i64 p] w fun r w' => r = .returned (.tuple #[.agg (bdC x), ev e]) ∧ Below w.heap.size w w'
def RFind (TP : Value → Nat → (Nat → List Int) → (Nat → Bool) → List (List Int) → (Nat → Prop) → World → Prop) : Prop := ∀ v m ws ts bs O w f x e, m ≤ 16 → bs.length ≤ 128 → BI m ws ts bs → TP v m ws ts bs O w → Fd bs f x e →
  Calls Tryz.prog 122 #[v, .agg (flC f)] w fun r w' => r = .returned (.tuple #[.agg (bdC x), ev e]) ∧ Below w.heap.size w w'
def RAll (TP : Value → Nat → (Nat → List Int) → (Nat → Bool) → List (List Int) → (Nat → Prop) → World → Prop) : Prop := ∀ v m ws ts bs O w, m ≤ 16 → bs.length ≤ 128 → BI m ws ts bs → TP v m ws ts bs O w →
  Calls Tryz.prog 61 #[v] w fun r w' => ∃ b, r = .returned b ∧ BdRow 0 w' b bs ∧ Below w.heap.size w w'
def JR (TP : Value → Nat → (Nat → List Int) → (Nat → Bool) → List (List Int) → (Nat → Prop) → World → Prop) : Prop := RNear TP ∧ RFind TP ∧ RAll TP
theorem RNear.j {TP : Value → Nat → (Nat → List Int) → (Nat → Bool) → List (List Int) → (Nat → Prop) → World → Prop} (I : JKept TP) (h : RNear TP) : JNear TP := fun v m ws ts bs O w kind p x e h1 h2 h3 h4 h5 => (h v m ws ts bs O w kind p x e h1 h2 h3 h4 h5).mono fun _ _ ⟨e1, e2⟩ => ⟨e1, TQ.of I h4 e2⟩
theorem RFind.j {TP : Value → Nat → (Nat → List Int) → (Nat → Bool) → List (List Int) → (Nat → Prop) → World → Prop} (I : JKept TP) (h : RFind TP) : JFind TP := fun v m ws ts bs O w f x e h1 h2 h3 h4 h5 => (h v m ws ts bs O w f x e h1 h2 h3 h4 h5).mono fun _ _ ⟨e1, e2⟩ => ⟨e1, TQ.of I h4 e2⟩
theorem RAll.j {TP : Value → Nat → (Nat → List Int) → (Nat → Bool) → List (List Int) → (Nat → Prop) → World → Prop} (I : JKept TP) (h : RAll TP) : JAll TP := fun v m ws ts bs O w h1 h2 h3 h4 => (h v m ws ts bs O w h1 h2 h3 h4).mono fun _ _ ⟨b, e1, e2, e3⟩ => ⟨b, e1, e2, TQ.of I h4 e3⟩
def bstore (x y : Value) : Sem Unit := Instr.storeAt 75 x y
theorem bstore_shut (x y : Value) : Instr.storeAt 75 x y = bstore x y := rfl
theorem BdIn.held {B : Nat} {b0 : List Int} {w : World} (p : BdIn B b0 w) (b : List Int) : ∃ w', (bstore (.pointer (some ⟨B, 0, none⟩)) (.agg (bdC b))).run Tryz.prog w = .ok () w' ∧ BdIn B b w' ∧ Only B w w' := by
  refine ⟨w.setCells B 0 (bdC b).toList, ?_, ?_, setCells_only B _ _ w⟩
  · exact run_storeAt_mid w B 0 75 (bdC b) (fun j hj => by
      have hj2 : j < 23 := hj
      rw [Nat.zero_add, p.cell j hj2]
      refine ⟨rfl, by unfold BdIn at p; simp [World.frozen?, p]⟩) (by kernel_rfl) (by unfold bdC; simp [Value.oneCell'])
  · obtain ⟨cs', e1, e2, e3⟩ := setCells_row B 75 (bdC b).toList 0 w _ p
    have hs0 : (bdC b0).size = 23 := rfl
    have hs1 : (bdC b).size = 23 := rfl
    have hl : (bdC b).toList.length = 23 := rfl
    have he : cs' = bdC b := by
     apply Array.ext_getElem?
     intro i
     by_cases hi : i < 23
     · rw [e3 i (by rw [hs0]; exact hi), if_pos (by rw [hl]; omega), Nat.sub_zero]
       simp
     · rw [Array.getElem?_eq_none (by rw [e2, hs0]; omega), Array.getElem?_eq_none (by rw [hs1]; omega)]
    unfold BdIn
    rw [e1, he]
theorem row_fl {w : World} {g o : Nat} {b : List Int} (h : w.rangeAt g o (bdC b).toList) : (fload (.pointer (some ⟨g, o, none⟩))).run Tryz.prog w = .ok (.agg (flC b)) w :=
  run_loadAt_mid w g o 73 (flC b).toList _ (fun j v hv => by
    have hj : j < 19 := (List.getElem?_eq_some_iff.1 hv).1
    have h1 : (flC b)[j]? = some v := by simpa using hv
    rw [flC_at b j hj] at h1
    refine h j v ?_
    have h2 := bdC_at b j (by omega)
    rw [h1] at h2
    simpa using h2) Tryz.underlying73 rfl (by kernel_rfl)
theorem row_cell {w : World} {g o : Nat} {b : List Int} (h : w.rangeAt g o (bdC b).toList) (j : Nat) (hj : j < 23) : w.cell? ⟨g, o + j, none⟩ = some (.int .i64 (el b j)) := h j _ (by have := bdC_at b j hj; simpa using this)
end Go.Proofs.YtkhahbghmdccaaaGreatDoor
