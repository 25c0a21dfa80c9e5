/- What BindApart asks of a table that holds what holds of tables: each bind is found by its flow and by its port; what goes is found no more, and was not used in time. -/
import Derived.Test.YtjkkonpangcnjaaDoorBdK
namespace Go.Proofs.YtjkkonpangcnjaaDoor
open Go.RowKit

theorem getD_at {bs : List (List Int)} {k : Nat} (hk : k < bs.length) : bs.getD k [] = bs[k] := by rw [List.getD_eq_getElem?_getD, List.getElem?_eq_getElem hk]; rfl
theorem BI.rise {m : Nat} {ws : Nat → List Int} {ts : Nat → Bool} {bs : List (List Int)} (h : BI m ws ts bs) {j k : Nat} (hj : j < k) (hk : k < bs.length) : el (bs.getD j []) 19 < el (bs.getD k []) 19 := by
  rw [getD_at (by omega), getD_at hk]
  exact List.pairwise_iff_getElem.1 h.2.1 j k (by omega) hk hj
theorem BI.fnd_at {m : Nat} {ws : Nat → List Int} {ts : Nat → Bool} {bs : List (List Int)} (h : BI m ws ts bs) {k : Nat} (hk : k < bs.length) : fnd bs (bs.getD k []) = some k := by
  unfold fnd
  refine find_some hk ((eqf_iff _ _).2 rfl) fun j hj => ?_
  rw [getD_at (by omega), getD_at hk]
  exact List.pairwise_iff_getElem.1 h.2.2.1 j k (by omega) hk hj
theorem BI.prt_at {m : Nat} {ws : Nat → List Int} {ts : Nat → Bool} {bs : List (List Int)} (h : BI m ws ts bs) {k : Nat} (hk : k < bs.length) : prt bs (el (bs.getD k []) 19) = some k := by
  unfold prt
  refine find_some hk (by simp) fun j hj => ?_
  have := h.rise hj hk
  simp only [beq_eq_false_iff_ne]
  omega
theorem BI.fd {m : Nat} {ws : Nat → List Int} {ts : Nat → Bool} {bs : List (List Int)} (h : BI m ws ts bs) {k : Nat} (hk : k < bs.length) : Fd bs (bs.getD k []) (bs.getD k []) 0 := .inr (.inr ⟨(h.1 _ (mem_getD hk)).1, k, h.fnd_at hk, rfl, rfl⟩)
theorem BI.nr {m : Nat} {ws : Nat → List Int} {ts : Nat → Bool} {bs : List (List Int)} (h : BI m ws ts bs) {k : Nat} (hk : k < bs.length) : Nr bs (el (bs.getD k []) 0) (el (bs.getD k []) 19) (bs.getD k []) 0 := .inr (.inr ⟨k, h.prt_at hk, by simp, rfl, rfl⟩)
/-- a flow's question depends on its nineteen numbers alone. -/
theorem eqf_congr {a a' : List Int} (h : flC a = flC a') (b : List Int) : eqf b a = eqf b a' := by
  cases h1 : eqf b a'
  · exact (eqf_false b a).2 (fun e => (eqf_false b a').1 h1 (e.trans h))
  · exact (eqf_iff b a).2 (((eqf_iff b a').1 h1).trans h.symm)
theorem BI.gone {m : Nat} {ws : Nat → List Int} {ts : Nat → Bool} {bs : List (List Int)} (h : BI m ws ts bs) (now : Int) {b : List Int} (hb : b ∈ (es now bs ts bs.length).1) : Fd (es now bs ts bs.length).2.1 b [] 4 ∧ 30 ≤ now - el b 22 ∧ tc (el b 22) = true := by
  obtain ⟨e1, e2, _⟩ := es_form now bs ts bs.length (Nat.le_refl _)
  rw [List.take_length] at e1 e2
  rw [e1, List.mem_filter] at hb
  rw [e2]
  have hg := h.1 b hb.1
  refine ⟨.inr (.inl ⟨hg.1, ?_, rfl, rfl⟩), ?_, hg.2.2.1⟩
  · unfold fnd
    rw [List.find?_eq_none]
    intro i hi
    have hi' := List.mem_range.1 hi
    rw [getD_at hi']
    have hm := List.getElem_mem hi'
    rw [List.mem_filter] at hm
    intro e
    have e' := (eqf_iff _ _).1 e
    have hin : (bs.filter (fun b => !xp now b))[i] = b := by
      obtain ⟨p, hp, ep⟩ := List.getElem_of_mem hm.1
      obtain ⟨q, hq, eq⟩ := List.getElem_of_mem hb.1
      have hpw := List.pairwise_iff_getElem.1 h.2.2.1
      rcases (by omega : p = q ∨ p < q ∨ q < p) with rfl | hpq | hpq
      · rw [← ep, ← eq]
      · have := (eqf_false _ _).1 (hpw p q hp hq hpq)
        rw [ep, eq] at this
        exact absurd e' this
      · have := (eqf_false _ _).1 (hpw q p hq hp hpq)
        rw [ep, eq] at this
        exact absurd e'.symm this
    have h1 := hm.2
    rw [hin, hb.2] at h1
    cases h1
  · have := hb.2
    unfold xp at this
    simp only [Bool.or_eq_true, Bool.and_eq_true, decide_eq_true_eq] at this
    rcases this with ⟨_, h⟩ | ⟨_, h⟩
    · omega
    · exact h
theorem BI.stays {m : Nat} {ws : Nat → List Int} {ts : Nat → Bool} {bs : List (List Int)} (h : BI m ws ts bs) (now : Int) {b : List Int} (hb : b ∈ (es now bs ts bs.length).2.1) : now - el b 22 < 100 ∧ tc (el b 22) = true := by
  obtain ⟨_, e2, _⟩ := es_form now bs ts bs.length (Nat.le_refl _)
  rw [List.take_length] at e2
  rw [e2, List.mem_filter] at hb
  have hg := h.1 b hb.1
  refine ⟨?_, hg.2.2.1⟩
  have h2 : xp now b = false := by simpa using hb.2
  unfold xp at h2
  rcases okf_kind hg.1 with e | e
  · rw [e] at h2
    simp at h2
    omega
  · rw [e] at h2
    simp at h2
    omega
/-- the one known fact: a flow of noughts, made and gone. -/
def f17 : List Int := [17, 0, 0, 0, 0, 0, 0, 0, 0, 0, 0, 0, 0, 0, 0, 0, 0, 0, 0]
theorem mk17 : Mk 1 (fun _ => []) (fun _ => false) [] f17 5 6 0 (mkb f17 1024 5 6 0) 0 (upd (fun _ => []) 0 (cli f17)) (upd (fun _ => false) 0 true) [mkb f17 1024 5 6 0] :=
  .inr (.inr (.inr (.inr ⟨by decide +kernel, by decide +kernel, by decide +kernel, 0, by decide +kernel, rfl, rfl, rfl, rfl, by decide +kernel⟩)))
theorem es17 : (es 30 [mkb f17 1024 5 6 0] (upd (fun _ => false) 0 true) 1).1 = [mkb f17 1024 5 6 0] ∧ (es 30 [mkb f17 1024 5 6 0] (upd (fun _ => false) 0 true) 1).2.1 = [] := ⟨by decide +kernel, by decide +kernel⟩
end Go.Proofs.YtjkkonpangcnjaaDoor
