/- Who is picked: the best of all, whatever their order, and with one of them gone. -/
import Derived.Test.YtdnfpekcipigbaaPkS
namespace Go.Proofs.Ytdnfpekcipigbaa
open Go.RowKit

/-- servers that may be: at most eight, each one right, no two of one number. -/
def OKs (bs : List (List Int)) : Prop := bs.length ≤ 8 ∧ (∀ b ∈ bs, okb b = true) ∧ bs.Pairwise (fun a b => el a 0 ≠ el b 0)
theorem getD_at {bs : List (List Int)} {i : Nat} (h : i < bs.length) : bs.getD i [] = bs[i] := by simp [List.getD_eq_getElem?_getD, h]
theorem oks_of {bs : List (List Int)} (h : (bf bs).2 = 0) : OKs bs := by
  obtain ⟨h8, hx⟩ := bf_ok h
  refine ⟨h8, fun b hb => ?_, List.pairwise_iff_getElem.2 fun i j hi hj hij => ?_⟩
  · obtain ⟨i, hi, rfl⟩ := List.mem_iff_getElem.1 hb
    have := (hx i hi).1
    rwa [getD_at hi] at this
  · have := (hx j hj).2
    unfold sid at this
    rw [List.any_eq_false] at this
    have h1 := this i (List.mem_range.2 hij)
    rw [getD_at hi, getD_at hj] at h1
    simpa using h1
theorem oks_bf {bs : List (List Int)} (h : OKs bs) : (bf bs).2 = 0 := by
  rw [bf_none (by have := h.1; omega) fun j hj => ?_]
  have h1 : okb (bs.getD j []) = true := by rw [getD_at hj]; exact h.2.1 _ (List.getElem_mem hj)
  have h2 : sid bs j = false := by
    unfold sid
    rw [List.any_eq_false]
    intro i hi
    have hij := List.mem_range.1 hi
    have := List.pairwise_iff_getElem.1 h.2.2 i j (by omega) hj hij
    rw [getD_at (by omega), getD_at hj]
    simpa using this
  unfold flt
  rw [h1, h2]
  rfl
theorem oks_rev {bs : List (List Int)} (h : OKs bs) : OKs bs.reverse := by
  refine ⟨by rw [List.length_reverse]; exact h.1, fun b hb => h.2.1 b (List.mem_reverse.1 hb), ?_⟩
  rw [List.pairwise_reverse]
  exact h.2.2.imp fun hab => fun e => hab e.symm
theorem oks_sub {bs cs : List (List Int)} (h : OKs bs) (hs : cs.Sublist bs) : OKs cs := ⟨Nat.le_trans hs.length_le h.1, fun b hb => h.2.1 b (hs.mem hb), h.2.2.sublist hs⟩
theorem oks_inj {bs : List (List Int)} (h : OKs bs) {a b : List Int} (ha : a ∈ bs) (hb : b ∈ bs) (e : el a 0 = el b 0) : a = b := by
  obtain ⟨i, hi, rfl⟩ := List.mem_iff_getElem.1 ha
  obtain ⟨j, hj, rfl⟩ := List.mem_iff_getElem.1 hb
  rcases Nat.lt_trichotomy i j with hij | rfl | hij
  · exact absurd e (List.pairwise_iff_getElem.1 h.2.2 i j hi hj hij)
  · rfl
  · exact absurd e.symm (List.pairwise_iff_getElem.1 h.2.2 j i hj hi hij)
/-- one is no worse than the other. -/
def Dm (seed : Int) (f : List Int) (b c : List Int) : Prop := pv seed f c < pv seed f b ∨ (pv seed f c = pv seed f b ∧ el b 0 ≤ el c 0)
theorem Dm.refl (seed : Int) (f b : List Int) : Dm seed f b b := .inr ⟨rfl, Int.le_refl _⟩
theorem Dm.trans {seed : Int} {f a b c : List Int} (h1 : Dm seed f a b) (h2 : Dm seed f b c) : Dm seed f a c := by
  unfold Dm at *; omega
theorem Dm.anti {seed : Int} {f a b : List Int} (h1 : Dm seed f a b) (h2 : Dm seed f b a) : el a 0 = el b 0 := by
  unfold Dm at *; omega
/-- the best of all. -/
def Best (seed : Int) (f : List Int) (bs : List (List Int)) (x : List Int) : Prop := x ∈ bs ∧ cand x = true ∧ ∀ c ∈ bs, cand c = true → Dm seed f x c
def PInv (seed : Int) (f : List Int) (bs : List (List Int)) (k : Nat) (o : Option Nat × Int) : Prop :=
  (o.1 = none ∧ ∀ j, j < k → cand (bs.getD j []) = false) ∨
  (∃ i, o.1 = some i ∧ i < k ∧ cand (bs.getD i []) = true ∧ o.2 = pv seed f (bs.getD i []) ∧ ∀ j, j < k → cand (bs.getD j []) = true → Dm seed f (bs.getD i []) (bs.getD j []))
theorem pst_inv (seed : Int) (f : List Int) (bs : List (List Int)) : ∀ k, PInv seed f bs k (pst seed f bs k)
  | 0 => .inl ⟨rfl, fun j hj => absurd hj (by omega)⟩
  | k + 1 => by
    have ih := pst_inv seed f bs k
    have hs : pst seed f bs (k + 1) = if cand (bs.getD k []) = true then (if btr bs (pst seed f bs k).1 (pst seed f bs k).2 (pv seed f (bs.getD k [])) k = true then (some k, pv seed f (bs.getD k [])) else pst seed f bs k) else pst seed f bs k := rfl
    rw [hs]
    generalize pst seed f bs k = o at ih ⊢
    cases hc : cand (bs.getD k [])
    · rw [if_neg (by simp)]
      rcases ih with ⟨h1, h2⟩ | ⟨i, h1, h2, h3, h4, h5⟩
      · exact .inl ⟨h1, fun j hj => by rcases (by omega : j < k ∨ j = k) with h | rfl; exact h2 j h; exact hc⟩
      · exact .inr ⟨i, h1, by omega, h3, h4, fun j hj hcj => by rcases (by omega : j < k ∨ j = k) with h | rfl; exact h5 j h hcj; rw [hc] at hcj; cases hcj⟩
    · rw [if_pos rfl]
      rcases ih with ⟨h1, h2⟩ | ⟨i, h1, h2, h3, h4, h5⟩
      · rw [h1, if_pos (show btr bs none o.2 (pv seed f (bs.getD k [])) k = true from rfl)]
        exact .inr ⟨k, rfl, by omega, hc, rfl, fun j hj hcj => by rcases (by omega : j < k ∨ j = k) with h | rfl; rw [h2 j h] at hcj; cases hcj; exact Dm.refl ..⟩
      · rw [h1, h4]
        cases hb : btr bs (some i) (pv seed f (bs.getD i [])) (pv seed f (bs.getD k [])) k
        · rw [if_neg (by simp)]
          refine .inr ⟨i, h1, by omega, h3, h4, fun j hj hcj => ?_⟩
          rcases (by omega : j < k ∨ j = k) with h | rfl
          · exact h5 j h hcj
          · simp only [btr, Bool.or_eq_false_iff, decide_eq_false_iff_not, Bool.and_eq_false_iff, beq_eq_false_iff_ne] at hb
            unfold Dm
            omega
        · rw [if_pos rfl]
          have hd : Dm seed f (bs.getD k []) (bs.getD i []) := by
            simp only [btr, Bool.or_eq_true, decide_eq_true_eq, Bool.and_eq_true, beq_iff_eq] at hb
            unfold Dm
            omega
          refine .inr ⟨k, rfl, by omega, hc, rfl, fun j hj hcj => ?_⟩
          rcases (by omega : j < k ∨ j = k) with h | rfl
          · exact hd.trans (h5 j h hcj)
          · exact Dm.refl ..
theorem pst_none {seed : Int} {f : List Int} {bs : List (List Int)} (h : (pst seed f bs bs.length).1 = none) : ∀ c ∈ bs, cand c = false := by
  rcases pst_inv seed f bs bs.length with ⟨_, h2⟩ | ⟨i, h1, _⟩
  · intro c hc
    obtain ⟨i, hi, rfl⟩ := List.mem_iff_getElem.1 hc
    have := h2 i hi
    rwa [getD_at hi] at this
  · rw [h] at h1; cases h1
theorem pst_some {seed : Int} {f : List Int} {bs : List (List Int)} {i : Nat} (h : (pst seed f bs bs.length).1 = some i) : Best seed f bs (bs.getD i []) := by
  rcases pst_inv seed f bs bs.length with ⟨h1, _⟩ | ⟨i', h1, h2, h3, _, h5⟩
  · rw [h] at h1; cases h1
  · rw [h] at h1
    obtain rfl := Option.some.inj h1
    refine ⟨by rw [getD_at h2]; exact List.getElem_mem h2, h3, fun c hc hcc => ?_⟩
    obtain ⟨j, hj, rfl⟩ := List.mem_iff_getElem.1 hc
    have := h5 j hj (by rw [getD_at hj]; exact hcc)
    rwa [getD_at hj] at this
theorem pick_best {seed : Int} {f : List Int} {bs : List (List Int)} (h : (pko seed f bs).2 = 0) : OKs bs ∧ sok seed f 0 = true ∧ Best seed f bs (pko seed f bs).1 := by
  unfold pko at h ⊢
  by_cases h1 : (bf bs).2 = 0
  · rw [if_pos h1] at h ⊢
    cases h2 : sok seed f 0
    · rw [h2] at h; simp at h
    · rw [h2, if_pos rfl] at h
      rw [if_pos rfl]
      refine ⟨oks_of h1, rfl, ?_⟩
      cases h3 : (pst seed f bs bs.length).1 with
      | none => rw [h3] at h; cases h
      | some i => exact pst_some h3
  · rw [if_neg h1] at h
    exact absurd h h1
theorem best_pick {seed : Int} {f : List Int} {bs : List (List Int)} {x : List Int} (h1 : OKs bs) (h2 : sok seed f 0 = true) (h3 : Best seed f bs x) : pko seed f bs = (x, 0) := by
  unfold pko
  rw [if_pos (oks_bf h1), if_pos h2]
  cases h : (pst seed f bs bs.length).1 with
  | none => have := pst_none h x h3.1; rw [h3.2.1] at this; cases this
  | some i =>
    have hb := pst_some h
    have : bs.getD i [] = x := oks_inj h1 hb.1 h3.1 (Dm.anti (hb.2.2 x h3.1 h3.2.1) (h3.2.2 _ hb.1 hb.2.1))
    show (bs.getD i [], (0 : Int)) = _
    rw [this]
/-- who is picked is up, and weighs. -/
theorem pick_up {seed : Int} {f : List Int} {bs : List (List Int)} (h : (pko seed f bs).2 = 0) : (el (pko seed f bs).1 4 == 1) = true ∧ (el (pko seed f bs).1 5 == 1) = false ∧ ¬ el (pko seed f bs).1 3 < 1 := by
  obtain ⟨h1, _, h3⟩ := pick_best h
  have hk := h1.2.1 _ h3.1
  have hc := h3.2.1
  unfold okb at hk
  unfold cand at hc
  simp only [Bool.and_eq_true, decide_eq_true_eq, Bool.not_eq_true'] at hk hc
  refine ⟨hc.1.1, hc.1.2, ?_⟩
  have := hc.2
  simp only [beq_eq_false_iff_ne] at this
  have := hk.2.1
  omega
/-- in another order it is the same. -/
theorem pick_rev {seed : Int} {f : List Int} {bs : List (List Int)} (h : (pko seed f bs).2 = 0) : pko seed f bs.reverse = ((pko seed f bs).1, 0) := by
  obtain ⟨h1, h2, h3⟩ := pick_best h
  exact best_pick (oks_rev h1) h2 ⟨List.mem_reverse.2 h3.1, h3.2.1, fun c hc => h3.2.2 c (List.mem_reverse.1 hc)⟩
/-- the servers without one. -/
def wo (bs : List (List Int)) (k : Nat) : List (List Int) := bs.take k ++ bs.drop (k + 1)
theorem wo_sub (bs : List (List Int)) (k : Nat) : (wo bs k).Sublist bs := by
  unfold wo
  rw [← List.eraseIdx_eq_take_drop_succ]
  exact List.eraseIdx_sublist bs k
theorem wo_mem {bs : List (List Int)} {k : Nat} {x : List Int} (hx : x ∈ bs) (hk : k < bs.length) (hne : bs[k] ≠ x) : x ∈ wo bs k := by
  obtain ⟨i, hi, rfl⟩ := List.mem_iff_getElem.1 hx
  unfold wo
  rw [List.mem_append]
  rcases Nat.lt_trichotomy i k with h | rfl | h
  · exact .inl (List.mem_take_iff_getElem.2 ⟨i, by omega, rfl⟩)
  · exact absurd rfl hne
  · refine .inr (List.mem_iff_getElem.2 ⟨i - (k + 1), by rw [List.length_drop]; omega, ?_⟩)
    rw [List.getElem_drop]
    congr 1
    omega
/-- another one goes: it is the same. -/
theorem pick_wo {seed : Int} {f : List Int} {bs : List (List Int)} {k : Nat} (h : (pko seed f bs).2 = 0) (hk : k < bs.length) (hne : el (bs.getD k []) 0 ≠ el (pko seed f bs).1 0) : pko seed f (wo bs k) = ((pko seed f bs).1, 0) := by
  obtain ⟨h1, h2, h3⟩ := pick_best h
  rw [getD_at hk] at hne
  exact best_pick (oks_sub h1 (wo_sub bs k)) h2 ⟨wo_mem h3.1 hk (fun e => hne (congrArg (el · 0) e)), h3.2.1, fun c hc => h3.2.2 c ((wo_sub bs k).mem hc)⟩
/-- that one goes: it is another. -/
theorem pick_gone {seed : Int} {f : List Int} {bs : List (List Int)} {k : Nat} (h : (pko seed f bs).2 = 0) (hk : k < bs.length) (he : el (bs.getD k []) 0 = el (pko seed f bs).1 0) (hz : (pko seed f (wo bs k)).2 = 0) : el (pko seed f (wo bs k)).1 0 ≠ el (pko seed f bs).1 0 := by
  obtain ⟨h1, h2, h3⟩ := pick_best h
  obtain ⟨_, _, g3⟩ := pick_best hz
  intro e
  rw [← he] at e
  obtain ⟨i, hi, e2⟩ := List.mem_iff_getElem.1 g3.1
  generalize (pko seed f (wo bs k)).1 = y at e e2
  subst e2
  rw [getD_at hk] at e
  have hp := List.pairwise_iff_getElem.1 h1.2.2
  unfold wo at e hi
  rw [List.length_append, List.length_take, List.length_drop] at hi
  by_cases hik : i < k
  · rw [List.getElem_append_left (by rw [List.length_take]; omega), List.getElem_take] at e
    exact hp i k (by omega) hk hik e
  · rw [List.getElem_append_right (by rw [List.length_take]; omega), List.getElem_drop] at e
    exact hp k _ hk _ (by rw [List.length_take]; omega) e.symm
/-- a server that is up, and one that is not. -/
def fact1 : List (List Int) := [[1, 0, 0, 1, 0, 0], [2, 0, 0, 1, 1, 0]]
theorem pick_fact : pko 1 [6] fact1 = ([2, 0, 0, 1, 1, 0], 0) := by
  refine best_pick ⟨by decide, by decide, by decide⟩ (by decide) ⟨by decide, by decide, fun c hc hcc => ?_⟩
  simp only [fact1, List.mem_cons, List.not_mem_nil, or_false] at hc
  rcases hc with rfl | rfl
  · simp [cand, el] at hcc
  · exact Dm.refl ..
end Go.Proofs.Ytdnfpekcipigbaa
