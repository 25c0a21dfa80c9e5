/- Who talks stays; what is refused changes nothing: of numbers and bytes alone. -/
import Derived.Test.YtkhahbghmdccaaaGreatDoorK35
import Derived.Test.YtkhahbghmdccaaaGreatDoorK36
import Derived.Below
import Derived.OpenShut
import Derived.Test.YtkhahbghmdccaaaGreatDoorProg
import Derived.WalkKit
import Derived.LaidEql
import Derived.BigQuiet
import Derived.Laws.AppendOwnNone
import Derived.Laws.MakeOwn
import Derived.Deep.RegionLaw
import Derived.Lib.Bytes
import Derived.Deep.MidRow
import Derived.Laws.ResultCell
import Derived.Deep.CutBlock
import Derived.Deep.QuietTactic
import Derived.OwnWalk
import Derived.Deep.RegionHeld3
import Derived.Deep.DrawnRows
import Derived.Laws.StructEq
import Derived.Maps.AppendAt
import Derived.Maps.RangeWalk
import Derived.Stop.Asserts
import Derived.RowKitTokens
import Derived.Test.YtkhahbghmdccaaaGreatDoorShelf
import Derived.Shelf.Abstract
import Derived.Lib.SliceRun
import Derived.Lib.AppendZerosOnto
import Derived.Lib.AppendZeros
import Derived.Laws.CopyOwn
import Derived.RangeFuncNested
import Derived.RangeFuncBound
import Derived.RangeFuncCalls
import Derived.RangeFuncLeaves
import Derived.RangeFuncFrom
import Derived.Shelf.RegionOpen
import Derived.OwnWalkIn
import Derived.TacticsInMore
import Derived.LoopNIn
import Derived.LoopIn
import Derived.Deep.RegionWith
import Derived.ArgAppend
import Derived.Lib.SlBytesConst
import Derived.Lib.AppendStr
import Derived.Deep.Slices
import Derived.ChangeArms
import Derived.WideShapes
namespace Go.Proofs.YtkhahbghmdccaaaGreatDoor
open Go.RowKit
set_option linter.unusedVariables false
/-- a bind of that flow, from that port to that server. -/
def STY (f : List Int) (n x y : Int) (g : GS) : Prop := ∃ b ∈ g.bs, flC b = flC f ∧ el b 19 = n ∧ el b 20 = x ∧ el b 21 = y
/-- and it was used just now. -/
def STN (f : List Int) (n x y : Int) (g : GS) : Prop := ∃ b ∈ g.bs, (flC b = flC f ∧ el b 19 = n ∧ el b 20 = x ∧ el b 21 = y) ∧ el b 22 = g.now
theorem STN.sty {f : List Int} {n x y : Int} {g : GS} (h : STN f n x y g) : STY f n x y g := by
  obtain ⟨b, h1, h2, _⟩ := h
  exact ⟨b, h1, h2⟩
theorem set_usd {bs : List (List Int)} {k : Nat} {now : Int} (hk : k < bs.length) {b : List Int} (hb : b ∈ bs) : b ∈ bs.set k (usd (bs.getD k []) now) ∨ (b = bs.getD k [] ∧ usd b now ∈ bs.set k (usd (bs.getD k []) now)) := by
  obtain ⟨j, hj, rfl⟩ := List.getElem_of_mem hb
  by_cases e : k = j
  · subst e
    right
    rw [getD_at hk]
    exact ⟨rfl, List.mem_set hk _⟩
  · left
    exact List.mem_iff_getElem.2 ⟨j, by rw [List.length_set]; exact hj, by rw [List.getElem_set, if_neg e]⟩
theorem STN.set {f : List Int} {n x y : Int} {g : GS} (h : STN f n x y g) {k : Nat} (hk : k < g.bs.length) : STN f n x y (g.tab g.ws g.ts (g.bs.set k (usd (g.bs.getD k []) g.now))) := by
  obtain ⟨b, h1, h2, h3⟩ := h
  rcases set_usd (now := g.now) hk h1 with q | ⟨_, q⟩
  · exact ⟨b, q, h2, h3⟩
  · exact ⟨_, q, h2, rfl⟩
theorem STY.set {f : List Int} {n x y : Int} {g : GS} (h : STY f n x y g) {k : Nat} (hk : k < g.bs.length) : STY f n x y (g.tab g.ws g.ts (g.bs.set k (usd (g.bs.getD k []) g.now))) := by
  obtain ⟨b, h1, h2⟩ := h
  rcases set_usd (now := g.now) hk h1 with q | ⟨_, q⟩
  · exact ⟨b, q, h2⟩
  · exact ⟨_, q, h2⟩
theorem bdo_stn {f : List Int} {n x y : Int} {g : GS} (h : STN f n x y g) (f' : List Int) (flags : Int) (wr : Int × Int × Int) : STN f n x y (bdo g f' flags wr).2.2 := by
  cases hn : fnd g.bs f' with
  | some k =>
    rw [bdo_some hn]
    exact h.set (fndY hn).1
  | none =>
    rw [bdo_none hn]
    split
    · exact h
    · split
      · exact h
      · split
        · exact h
        · obtain ⟨b, h1, h2⟩ := h
          exact ⟨b, ins_sub h1, h2⟩
theorem guo_bs (g : GS) (b z D : List Int) : (guo g b z D).2.2.2.bs = g.bs ∧ (guo g b z D).2.2.2.now = g.now := ⟨(guo_c g b z D).2.2, (guo_c g b z D).2.1⟩
theorem gdo_bs (g : GS) (b z D : List Int) : (gdo g b z D).2.2.2.bs = g.bs ∧ (gdo g b z D).2.2.2.now = g.now := by
  unfold gdo
  split <;> exact ⟨rfl, rfl⟩
theorem g6s_stn {f : List Int} {n x y : Int} {g : GS} (h : STN f n x y g) (f' : List Int) (hop : Int) (z D : List Int) : STN f n x y (g6s g f' hop z D).2.2 := by
  unfold g6s
  split
  · exact h
  · split
    · exact h
    · have hb0 := bdo_stn h f' (el z 5) (whr g f' (ldo g.c f').2)
      split
      · exact hb0
      · rw [g6b_st]
        unfold STN
        rw [(guo_bs _ _ _ _).1, (guo_bs _ _ _ _).2]
        exact hb0
theorem g6_form (g : GS) (zs : List Int) : (∃ r, r ≠ 0 ∧ g6 g zs = (r, [], g)) ∨ (V6.Good zs ∧ (o6s zs).1 = 0 ∧ g6 g zs = g6s g (f6 zs) (zs.getD 7 0) (o6s zs).2.1 (o6s zs).2.2) := by
  by_cases hG : V6.Good zs
  · by_cases hE : (o6s zs).1 = 0
    · refine .inr ⟨hG, hE, ?_⟩
      unfold g6 g6s
      rw [if_neg (fun h => h hG), if_neg (fun h => h hE)]
    · exact .inl ⟨_, hE, by unfold g6; rw [if_neg (fun h => h hG), if_pos hE]⟩
  · exact .inl ⟨5, by decide, by unfold g6; exact if_pos hG⟩
theorem g6_stn {f : List Int} {n x y : Int} {g : GS} (h : STN f n x y g) (zs : List Int) : STN f n x y (g6 g zs).2.2 := by
  rcases g6_form g zs with ⟨r, _, e⟩ | ⟨_, _, e⟩
  · rw [e]; exact h
  · rw [e]; exact g6s_stn h _ _ _ _
theorem g4_stn {f : List Int} {n x y : Int} {g : GS} (h : STN f n x y g) (zs : List Int) : STN f n x y (g4 g zs).2.2 := by
  unfold g4
  split
  · exact h
  · split
    · exact h
    · unfold g4s
      split
      · exact h
      · rename_i k hk
        split
        · rw [g4b_st]
          unfold STN
          rw [(gdo_bs _ _ _ _).1, (gdo_bs _ _ _ _).2]
          exact h.set (prt_lt (nrk_some hk).2).1
        · exact h
theorem gtk_sty {f : List Int} {n x y : Int} {g : GS} (h : STN f n x y g) (t : Int) (h0 : 0 ≤ t) (h30 : t < 30) : STY f n x y (gtk g t).2 := by
  unfold gtk
  split
  · obtain ⟨b, q1, q2, q3⟩ := h
    obtain ⟨_, e2, _⟩ := es_form (g.now + t) g.bs g.ts g.bs.length (Nat.le_refl _)
    rw [List.take_length] at e2
    refine ⟨b, ?_, q2⟩
    show b ∈ (es (g.now + t) g.bs g.ts g.bs.length).2.1
    rw [e2, List.mem_filter]
    refine ⟨q1, ?_⟩
    have : xp (g.now + t) b = false := by
      unfold xp
      rw [q3, decide_eq_false (by omega), decide_eq_false (by omega), Bool.and_false, Bool.and_false]
      rfl
    rw [this]
    rfl
  · exact h.sty
theorem gmk_stn {f : List Int} {n x y : Int} {g : GS} (h : STN f n x y g) (id : Int) (m : List Int → List Int) : STN f n x y (gmk g id m).2 := by
  unfold gmk
  split <;> exact h
/-- flows are apart. -/
theorem flow_inj {bs : List (List Int)} (h : bs.Pairwise (fun a b => eqf a b = false)) {x y : List Int} (hx : x ∈ bs) (hy : y ∈ bs) (e : flC x = flC y) : x = y := by
  obtain ⟨i, hi, rfl⟩ := List.getElem_of_mem hx
  obtain ⟨j, hj, rfl⟩ := List.getElem_of_mem hy
  have hp := List.pairwise_iff_getElem.1 h
  rcases (by omega : i = j ∨ i < j ∨ j < i) with rfl | hl | hl
  · rfl
  · have := hp i j hi hj hl
    rw [(eqf_iff _ _).2 e] at this
    cases this
  · have := hp j i hj hi hl
    rw [(eqf_iff _ _).2 e.symm] at this
    cases this
/-- a segment that makes a bind goes on again and again. -/
theorem stay_ok {c : List Int} {inj : Bool} {g : GS} (hs : SBI c inj g) (hi : IG g) {f : List Int} {n x y : Int} (h : STY f n x y g) {hop : Int} {z D : List Int} (hz : Okg z D.length) (hl : (ldo c f).1 = 0) (ht : ¬ (tell c inj f = true ∧ el z 5 / 2 % 2 = 1 ∧ 0 < D.length)) (hk : el f 0 = el z 0) (hsy : el f 0 = 6 → el z 5 / 2 % 2 = 1) :
    (g6s g f hop z D).1 = 0 := by
  obtain ⟨b, h1, h2, _⟩ := h
  cases hn : fnd g.bs f with
  | none =>
    exfalso
    have := fndN hn (fE b) (List.mem_map.2 ⟨b, h1, rfl⟩)
    exact this (by show Value.agg (flC b) = _; rw [h2])
  | some k =>
    obtain ⟨k1, k2, k3⟩ := fndY hn
    have hb0 := bdo_some (flags := el z 5) (wr := whr g f (ldo g.c f).2) hn
    unfold g6s
    rw [hs.1, hs.2.1, if_neg (fun e => e hl), if_neg ht]
    rw [hs.1] at hb0
    rw [hb0]
    dsimp only
    rw [if_neg (by simp)]
    unfold g6b
    have hg : (guo (g.tab g.ws g.ts (g.bs.set k (usd (g.bs.getD k []) g.now))) (g.bs.getD k []) z D).1 = 0 := by
      unfold guo
      split
      · rename_i htl
        have htl' : tell c inj f = true := by
          have e1 : (g.tab g.ws g.ts (g.bs.set k (usd (g.bs.getD k []) g.now))).c = c := hs.1
          have e2 : (g.tab g.ws g.ts (g.bs.set k (usd (g.bs.getD k []) g.now))).inj = inj := hs.2.1
          rw [e1, e2] at htl
          rw [← htl]
          have e := (eqf_iff _ _).2 k3
          unfold eqf at e
          simp only [Bool.and_eq_true, beq_iff_eq] at e
          unfold tell
          rw [← e.1.1.1.1]
          have : dst (g.bs.getD k []) = dst f := by
            have q := (eqz_iff _ _).1 e.1.2
            unfold dst at q ⊢
            rw [show el (g.bs.getD k []) 10 = el f 10 from q 0 (by omega), show el (g.bs.getD k []) 11 = el f 11 from q 1 (by omega), show el (g.bs.getD k []) 12 = el f 12 from q 2 (by omega), show el (g.bs.getD k []) 13 = el f 13 from q 3 (by omega), show el (g.bs.getD k []) 14 = el f 14 from q 4 (by omega), show el (g.bs.getD k []) 15 = el f 15 from q 5 (by omega), show el (g.bs.getD k []) 16 = el f 16 from q 6 (by omega), show el (g.bs.getD k []) 17 = el f 17 from q 7 (by omega)]
          rw [this]
        have h6 : el f 0 = 6 := by
          unfold tell at htl'
          simp only [Bool.and_eq_true, beq_iff_eq] at htl'
          exact htl'.1.2
        have hsy' := hsy h6
        have hD : ¬ 0 < D.length := fun hD => ht ⟨htl', hsy', hD⟩
        have hc : cf z D.length = 0 := cf_okg hz (hk ▸ h6)
        dsimp only
        unfold upo
        rw [if_neg (by rw [hc]; decide), if_pos hsy']
        unfold bgo
        rw [if_neg hD]
      · rfl
    rw [if_neg (fun e => e hg)]
/-- what a first segment that went on was. -/
theorem first_ok {c : List Int} {inj : Bool} {bk : List (List Int)} {m : Nat} {f : List Int} {hop : Int} {z D : List Int} (h : (g6s (gz0 c inj bk m) f hop z D).1 = 0) : (ldo c f).1 = 0 ∧ ¬ (tell c inj f = true ∧ el z 5 / 2 % 2 = 1 ∧ 0 < D.length) ∧ (el f 0 = 6 → el z 5 / 2 % 2 = 1) := by
  unfold g6s at h
  rw [show (gz0 c inj bk m).c = c from rfl, show (gz0 c inj bk m).inj = inj from rfl] at h
  by_cases hl : (ldo c f).1 = 0
  · rw [if_neg (fun e => e hl)] at h
    by_cases ht : tell c inj f = true ∧ el z 5 / 2 % 2 = 1 ∧ 0 < D.length
    · rw [if_pos ht] at h
      cases h
    · rw [if_neg ht] at h
      refine ⟨hl, ht, fun h6 => ?_⟩
      have hb0 := bdo_none (flags := el z 5) (wr := whr (gz0 c inj bk m) f (ldo c f).2) (show fnd (gz0 c inj bk m).bs f = none from rfl)
      by_cases hq : el z 5 / 2 % 2 = 1 ∧ el z 5 / 16 % 2 = 0
      · exact hq.1
      · rw [if_pos ⟨h6, hq⟩] at hb0
        rw [hb0, if_pos (show (9 : Int) ≠ 0 by decide)] at h
        cases h
  · rw [if_pos hl] at h
    cases h
/-- behind a segment that went on its bind was used just now. -/
theorem g6s_used {g : GS} {f : List Int} {hop : Int} {z D : List Int} (h : (g6s g f hop z D).1 = 0) : ∃ b ∈ (g6s g f hop z D).2.2.bs, flC b = flC f ∧ el b 22 = (g6s g f hop z D).2.2.now := by
  unfold g6s at h ⊢
  split at h
  · cases h
  · rename_i h1
    rw [if_neg h1]
    split at h
    · cases h
    · rename_i h2
      rw [if_neg h2]
      split at h
      · rename_i h3
        exact absurd h h3
      · rename_i h3
        rw [if_neg h3, g6b_st, (guo_bs _ _ _ _).1, (guo_bs _ _ _ _).2]
        have h3' := Classical.not_not.1 h3
        rw [(bdo_ss g f (el z 5) (whr g f (ldo g.c f).2)).2.2.2.2.1]
        cases hn : fnd g.bs f with
        | some k =>
          rw [bdo_some hn]
          obtain ⟨k1, k2, k3⟩ := fndY hn
          exact ⟨usd (g.bs.getD k []) g.now, List.mem_set k1 _, k3, rfl⟩
        | none =>
          rw [bdo_none hn] at h3' ⊢
          split at h3'
          · cases h3'
          · rename_i q1
            rw [if_neg q1]
            split at h3'
            · rename_i q2
              exact absurd h3' q2
            · rename_i q2
              rw [if_neg q2]
              split at h3'
              · cases h3'
              · exact ⟨_, ins_new _ _, rfl, rfl⟩
/-- and who was there stays. -/
theorem g6s_sty {f : List Int} {n x y : Int} {g : GS} (h : STY f n x y g) (f' : List Int) (hop : Int) (z D : List Int) : STY f n x y (g6s g f' hop z D).2.2 := by
  have hb0 : STY f n x y (bdo g f' (el z 5) (whr g f' (ldo g.c f').2)).2.2 := by
    cases hn : fnd g.bs f' with
    | some k =>
      rw [bdo_some hn]
      exact h.set (fndY hn).1
    | none =>
      rw [bdo_none hn]
      split
      · exact h
      · split
        · exact h
        · split
          · exact h
          · obtain ⟨b, h1, h2⟩ := h
            exact ⟨b, ins_sub h1, h2⟩
  unfold g6s
  split
  · exact h
  · split
    · exact h
    · split
      · exact hb0
      · rw [g6b_st]
        unfold STY
        rw [(guo_bs _ _ _ _).1]
        exact hb0
theorem stay_stn {g : GS} (hi : IG g) {f : List Int} {n x y : Int} (h : STY f n x y g) {b : List Int} (hb : b ∈ g.bs) (e1 : flC b = flC f) (e2 : el b 22 = g.now) : STN f n x y g ∧ el b 19 = n ∧ el b 20 = x ∧ el b 21 = y := by
  obtain ⟨b', q1, q2, q3⟩ := h
  have := flow_inj hi.1.2.2.1.2.2.1 q1 hb (q2.trans e1.symm)
  subst this
  exact ⟨⟨b', q1, ⟨q2, q3⟩, e2⟩, q3⟩
end Go.Proofs.YtkhahbghmdccaaaGreatDoor
