/- What is refused changes nothing: of numbers and bytes alone. -/
import Derived.Test.YtkhahbghmdccaaaGreatDoorR31
import Derived.Test.YtkhahbghmdccaaaGreatDoorR36
import Derived.Below
import Derived.OpenShut
import Derived.Test.YtkhahbghmdccaaaGreatDoorProg
import Derived.WalkKit
import Derived.LaidEql
import Derived.BigQuiet
import Derived.Laws.AppendOwnNone
import Derived.Laws.MakeOwn
import Derived.Deep.RegionLaw
import Derived.Lib.Bytes
import Derived.Deep.MidRow
import Derived.Laws.ResultCell
import Derived.Deep.CutBlock
import Derived.Deep.QuietTactic
import Derived.OwnWalk
import Derived.Deep.RegionHeld3
import Derived.Deep.DrawnRows
import Derived.Laws.StructEq
import Derived.Maps.AppendAt
import Derived.Maps.RangeWalk
import Derived.Stop.Asserts
import Derived.RowKitTokens
import Derived.Test.YtkhahbghmdccaaaGreatDoorShelf
import Derived.Shelf.Abstract
import Derived.Lib.SliceRun
import Derived.Lib.AppendZerosOnto
import Derived.Lib.AppendZeros
import Derived.Laws.CopyOwn
import Derived.RangeFuncNested
import Derived.RangeFuncBound
import Derived.RangeFuncCalls
import Derived.RangeFuncLeaves
import Derived.RangeFuncFrom
import Derived.Shelf.RegionOpen
import Derived.OwnWalkIn
import Derived.TacticsInMore
import Derived.LoopNIn
import Derived.LoopIn
import Derived.Deep.RegionWith
import Derived.ArgAppend
import Derived.Lib.SlBytesConst
import Derived.Lib.AppendStr
import Derived.Deep.Slices
import Derived.ChangeArms
import Derived.WideShapes
namespace Go.Proofs.YtkhahbghmdccaaaGreatDoor
open Go.RowKit
set_option linter.unusedVariables false
/-- each bind that tells has a stream that has begun, and each stream is of such a bind. -/
def TSB (c : List Int) (inj : Bool) (g : GS) : Prop := SBI c inj g ∧ ∀ b ∈ g.bs, tell c inj b = true → ∃ hd s h, sfd g.ss (el b 19) = some (hd, s, true, h)
theorem sfd_not (p q : Int) (st : List Int × Int × Bool × Bool) (hne : q ≠ p) : ∀ (ss : List (Int × List Int × Int × Bool × Bool)), sfd (sup p st ss) q = sfd ss q
  | [] => rfl
  | x :: r => by
    have ih := sfd_not p q st hne r
    by_cases e : x.1 = p
    · have : sup p st (x :: r) = (x.1, st) :: sup p st r := by
        unfold sup
        rw [List.map_cons, if_pos e]
      rw [this]
      unfold sfd at ih ⊢
      rw [List.find?_cons_of_neg (by simp [e, Ne.symm hne]), List.find?_cons_of_neg (by simp [e, Ne.symm hne])]
      exact ih
    · have : sup p st (x :: r) = x :: sup p st r := by
        unfold sup
        rw [List.map_cons, if_neg e]
      rw [this]
      unfold sfd at ih ⊢
      by_cases eq : x.1 = q
      · rw [List.find?_cons_of_pos (by simpa using eq), List.find?_cons_of_pos (by simpa using eq)]
      · rw [List.find?_cons_of_neg (by simpa using eq), List.find?_cons_of_neg (by simpa using eq)]
        exact ih
theorem sfd_stf (g : GS) (b : List Int) {q : Int} (hne : q ≠ el b 19) : sfd (stf g b).1 q = sfd g.ss q := by
  unfold stf
  split
  · rfl
  · unfold sfd
    rw [List.find?_cons_of_neg (by simpa using Ne.symm hne)]
theorem sfd_sdl (p q : Int) (hne : q ≠ p) : ∀ (ss : List (Int × List Int × Int × Bool × Bool)), sfd (sdl p ss) q = sfd ss q
  | [] => rfl
  | x :: r => by
    have ih := sfd_sdl p q hne r
    unfold sdl at ih ⊢
    by_cases e : x.1 = p
    · rw [List.filter_cons_of_neg (by simpa using e)]
      rw [ih]
      unfold sfd
      rw [List.find?_cons_of_neg (by simp [e, Ne.symm hne])]
    · rw [List.filter_cons_of_pos (by simpa using e)]
      unfold sfd at ih ⊢
      by_cases eq : x.1 = q
      · rw [List.find?_cons_of_pos (by simpa using eq), List.find?_cons_of_pos (by simpa using eq)]
      · rw [List.find?_cons_of_neg (by simpa using eq), List.find?_cons_of_neg (by simpa using eq)]
        exact ih
theorem sfd_sgo (q : Int) : ∀ (gone : List (List Int)) (ss : List (Int × List Int × Int × Bool × Bool)), (∀ x ∈ gone, el x 19 = q → False) → sfd (sgo gone ss) q = sfd ss q
  | [], ss, _ => rfl
  | x :: r, ss, h => by
    have ih := sfd_sgo q r (sdl (el x 19) ss) (fun y hy => h y (List.mem_cons_of_mem _ hy))
    have e : sgo (x :: r) ss = sgo r (sdl (el x 19) ss) := rfl
    rw [e, ih]
    exact sfd_sdl _ _ (fun e => h x (List.mem_cons_self ..) e.symm) ss
/-- what upo leaves of a stream that has begun. -/
theorem upo_begun (hd : List Int) (s : Int) (h : Bool) (z D : List Int) : (upo hd s true h z D).2.2.2.2.1 = true := by
  unfold upo
  split
  · rfl
  · split
    · unfold bgo
      split <;> rfl
    · split
      · rfl
      · split
        · unfold fio
          split <;> rfl
        · rfl
theorem dno_begun (s : Int) (h : Bool) (z D : List Int) : (dno s true h z D).2.2.2.2.1 = true := by
  unfold dno
  split
  · rfl
  · split
    · rfl
    · split
      · rfl
      · split <;> rfl
theorem begun_form {x : Int × Bool × Bool} (h : x.2.1 = true) : ∃ s h', x = (s, true, h') := by
  obtain ⟨s, b, hh⟩ := x
  cases h
  exact ⟨_, _, rfl⟩
theorem flow_eq {b f : List Int} (h : flC b = flC f) : el b 0 = el f 0 ∧ dst b = dst f := by
  have e := (eqf_iff _ _).2 h
  unfold eqf at e
  simp only [Bool.and_eq_true, beq_iff_eq] at e
  refine ⟨e.1.1.1.1, ?_⟩
  have q := (eqz_iff _ _).1 e.1.2
  unfold dst at q ⊢
  rw [show el b 10 = el f 10 from q 0 (by omega), show el b 11 = el f 11 from q 1 (by omega), show el b 12 = el f 12 from q 2 (by omega), show el b 13 = el f 13 from q 3 (by omega), show el b 14 = el f 14 from q 4 (by omega), show el b 15 = el f 15 from q 5 (by omega), show el b 16 = el f 16 from q 6 (by omega), show el b 17 = el f 17 from q 7 (by omega)]
theorem tell_flow {c : List Int} {inj : Bool} {b f : List Int} (h : flC b = flC f) : tell c inj b = tell c inj f := by
  obtain ⟨h1, h2⟩ := flow_eq h
  unfold tell
  rw [h1, h2]
/-- a bind that tells: what goes up of it, and the streams behind it. -/
theorem guo_tell {c : List Int} {inj : Bool} {g : GS} (h : SBI c inj g) {b z D : List Int} (ht : tell c inj b = true) : guo g b z D = ((upo (stf g b).2.1 (stf g b).2.2.1 (stf g b).2.2.2.1 (stf g b).2.2.2.2 z D).1, (upo (stf g b).2.1 (stf g b).2.2.1 (stf g b).2.2.2.1 (stf g b).2.2.2.2 z D).2.1, (upo (stf g b).2.1 (stf g b).2.2.1 (stf g b).2.2.2.1 (stf g b).2.2.2.2 z D).2.2.1, g.str (sup (el b 19) ((stf g b).2.1, (upo (stf g b).2.1 (stf g b).2.2.1 (stf g b).2.2.2.1 (stf g b).2.2.2.2 z D).2.2.2) (stf g b).1)) := by
  unfold guo
  exact if_pos (by rw [h.1, h.2.1]; exact ht)
theorem guo_quiet {c : List Int} {inj : Bool} {g : GS} (h : SBI c inj g) {b z D : List Int} (ht : tell c inj b = false) : guo g b z D = (0, z, D, g) := by
  unfold guo
  exact if_neg (by rw [h.1, h.2.1, ht]; decide)
theorem str_sfd (g : GS) (b : List Int) (st : List Int × Int × Bool × Bool) (q : Int) : sfd (g.str (sup (el b 19) st (stf g b).1)).ss q = if q = el b 19 then some st else sfd g.ss q := by
  show sfd (sup (el b 19) st (stf g b).1) q = _
  by_cases e : q = el b 19
  · rw [if_pos e, e]
    exact sfd_sup _ _ (stf_in g b)
  · rw [if_neg e, sfd_not _ _ _ e, sfd_stf _ _ e]
/-- behind a segment of a bind: all but its own stream is as it was; its own has begun if it had, or if this is what a talk begins with. -/
theorem guo_tsb {c : List Int} {inj : Bool} {g : GS} (h : SBI c inj g) {b z D : List Int} (ht : tell c inj b = true) (hb : (∃ hd s h, sfd g.ss (el b 19) = some (hd, s, true, h)) ∨ (cf z D.length = 0 ∧ el z 5 / 2 % 2 = 1 ∧ D.length = 0)) (q : Int) :
    (q = el b 19 → ∃ hd s h, sfd (guo g b z D).2.2.2.ss q = some (hd, s, true, h)) ∧ (q ≠ el b 19 → sfd (guo g b z D).2.2.2.ss q = sfd g.ss q) := by
  rw [guo_tell h ht]
  dsimp only
  rw [str_sfd]
  refine ⟨fun e => ?_, fun e => if_neg e⟩
  rw [if_pos e]
  rcases hb with ⟨hd, s, hh, hs⟩ | ⟨h1, h2, h3⟩
  · have hst : stf g b = (g.ss, hd, s, true, hh) := by
      unfold stf
      rw [hs]
    rw [hst]
    dsimp only
    obtain ⟨s2, h2, e2⟩ := begun_form (upo_begun hd s hh z D)
    rw [e2]
    exact ⟨_, _, _, rfl⟩
  · have hu : (upo (stf g b).2.1 (stf g b).2.2.1 (stf g b).2.2.2.1 (stf g b).2.2.2.2 z D).2.2.2.2.1 = true := by
      unfold upo
      rw [if_neg (by rw [h1]; decide), if_pos h2]
      unfold bgo
      rw [if_neg (by omega)]
    obtain ⟨s2, h2, e2⟩ := begun_form hu
    rw [e2]
    exact ⟨_, _, _, rfl⟩
theorem TSB.set {c : List Int} {inj : Bool} {g : GS} (h : TSB c inj g) {k : Nat} (hk : k < g.bs.length) : TSB c inj (g.tab g.ws g.ts (g.bs.set k (usd (g.bs.getD k []) g.now))) := by
  refine ⟨h.1.set hk, fun b hb ht => ?_⟩
  rcases List.mem_or_eq_of_mem_set hb with q | q
  · exact h.2 b q ht
  · subst q
    exact h.2 (g.bs.getD k []) (mem_getD hk) ht
/-- a client's packet. -/
theorem g6s_tsb {c : List Int} {inj : Bool} {g : GS} (h : TSB c inj g) (hi : IG g) {f : List Int} {hop : Int} {z D : List Int} (hz : Okg z D.length) (hk : el f 0 = el z 0) :
    TSB c inj (g6s g f hop z D).2.2 ∧ ((g6s g f hop z D).1 ≠ 0 → (g6s g f hop z D).1 ≠ 3 → (g6s g f hop z D).2.2.bs = g.bs) := by
  unfold g6s
  by_cases h1 : (ldo g.c f).1 ≠ 0
  · rw [if_pos h1]
    exact ⟨h, fun _ _ => rfl⟩
  rw [if_neg h1]
  by_cases h2 : tell g.c g.inj f = true ∧ el z 5 / 2 % 2 = 1 ∧ 0 < D.length
  · rw [if_pos h2]
    exact ⟨h, fun _ _ => rfl⟩
  rw [if_neg h2]
  rw [h.1.1, h.1.2.1] at h2
  have hbi := hi.1.2.2.1
  cases hn : fnd g.bs f with
  | some k =>
    obtain ⟨k1, k2, k3⟩ := fndY hn
    rw [bdo_some hn]
    dsimp only
    rw [if_neg (by simp)]
    have h' : TSB c inj (g.tab g.ws g.ts (g.bs.set k (usd (g.bs.getD k []) g.now))) := h.set k1
    have hbs : ∀ b ∈ (g.tab g.ws g.ts (g.bs.set k (usd (g.bs.getD k []) g.now))).bs, tell c inj b = true → ∃ hd s h, sfd g.ss (el b 19) = some (hd, s, true, h) := h'.2
    refine ⟨?_, fun e0 e3 => ?_⟩
    · rw [g6b_st]
      refine ⟨guo_sbi h'.1 _ _ _ (List.mem_set k1 _) (.inr rfl), fun b hb ht => ?_⟩
      rw [(guo_bs _ _ _ _).1] at hb
      cases htl : tell c inj (g.bs.getD k [])
      · rw [guo_quiet h'.1 htl]
        exact h'.2 b hb ht
      · have hg := guo_tsb (z := z) (D := D) h'.1 htl (.inl (h.2 _ k2 htl)) (el b 19)
        by_cases e : el b 19 = el (g.bs.getD k []) 19
        · exact hg.1 e
        · rw [hg.2 e]
          exact h'.2 b hb ht
    · exfalso
      unfold g6b at e0 e3
      cases htl : tell c inj (g.bs.getD k [])
      · rw [guo_quiet h'.1 htl] at e0
        exact e0 (by rw [if_neg (by simp)])
      · obtain ⟨hd, s, hh, hs⟩ := h.2 _ k2 htl
        have hst : stf (g.tab g.ws g.ts (g.bs.set k (usd (g.bs.getD k []) g.now))) (g.bs.getD k []) = (g.ss, hd, s, true, hh) := by
          unfold stf
          rw [show (g.tab g.ws g.ts (g.bs.set k (usd (g.bs.getD k []) g.now))).ss = g.ss from rfl, hs]
        have htf : tell c inj f = true := by rw [← tell_flow k3]; exact htl
        have h6 : el z 0 = 6 := by
          unfold tell at htf
          simp only [Bool.and_eq_true, beq_iff_eq] at htf
          rw [← hk]
          exact htf.1.2
        have hc := cf_okg hz h6
        have hu : (upo hd s true hh z D).1 = 0 ∨ (upo hd s true hh z D).1 = 3 := by
          unfold upo
          rw [if_neg (by rw [hc]; decide)]
          by_cases hsy : el z 5 / 2 % 2 = 1
          · rw [if_pos hsy]
            unfold bgo
            rw [if_neg (fun q => h2 ⟨htf, hsy, q⟩)]
            exact .inl rfl
          · rw [if_neg hsy, if_neg (by decide)]
            split
            · unfold fio
              split
              · exact .inr rfl
              · exact .inl rfl
            · exact .inl rfl
        rw [guo_tell h'.1 htl, hst] at e0 e3
        dsimp only at e0 e3
        rcases hu with hu | hu
        · rw [if_neg (fun q => q hu)] at e0
          exact e0 rfl
        · rw [if_pos (by rw [hu]; decide)] at e3
          exact e3 hu
  | none =>
    rw [bdo_none hn]
    by_cases h3 : el f 0 = 6 ∧ ¬ (el z 5 / 2 % 2 = 1 ∧ el z 5 / 16 % 2 = 0)
    · rw [if_pos h3]
      exact ⟨h, fun _ _ => rfl⟩
    rw [if_neg h3]
    by_cases h4 : (whr g f (ldo g.c f).2).2.2 ≠ 0
    · rw [if_pos h4, if_pos h4]
      exact ⟨h, fun _ _ => rfl⟩
    rw [if_neg h4]
    split
    · rw [if_pos (show (3 : Int) ≠ 0 by decide)]
      exact ⟨h, fun _ _ => rfl⟩
    · rename_i i ht
      rw [if_neg (by simp)]
      have hsb := bdo_sbi h.1 f (el z 5) (whr g f (ldo g.c f).2)
      have hbd : bdo g f (el z 5) (whr g f (ldo g.c f).2) = (0, mkb f (1024 + (i : Int)) (whr g f (ldo g.c f).2).1 (whr g f (ldo g.c f).2).2.1 g.now, g.tab (upd g.ws i (cli f)) (upd g.ts i true) (ins (mkb f (1024 + (i : Int)) (whr g f (ldo g.c f).2).1 (whr g f (ldo g.c f).2).2.1 g.now) g.bs)) := by
        rw [bdo_none hn, if_neg h3, if_neg h4, ht]
      rw [hbd] at hsb
      dsimp only at hsb ⊢
      generalize hX : mkb f (1024 + (i : Int)) (whr g f (ldo g.c f).2).1 (whr g f (ldo g.c f).2).2.1 g.now = X at hsb ⊢
      have hXf : flC X = flC f := by rw [← hX]; rfl
      have hXp : el X 19 = 1024 + (i : Int) := by rw [← hX]; rfl
      have hold : ∀ b ∈ g.bs, el b 19 ≠ el X 19 := fun b hb e => by
        obtain ⟨j, q1, q2, q3⟩ := (hbi.1 b hb).2.1
        have hf := tk_free ht
        have hij : i = j := by rw [hXp] at e; omega
        rw [hij] at hf
        exact absurd (q3.1.symm.trans hf) (by decide)
      cases htl : tell c inj X
      · refine ⟨?_, fun e0 _ => ?_⟩
        · rw [g6b_st, guo_quiet hsb htl]
          refine ⟨hsb, fun b hb ht' => ?_⟩
          rcases (ins_mem hb) with rfl | hb
          · rw [htl] at ht'
            cases ht'
          · exact h.2 b hb ht'
        · exfalso
          unfold g6b at e0
          rw [guo_quiet hsb htl] at e0
          exact e0 (by rw [if_neg (by simp)])
      · have htf : tell c inj f = true := by rw [← tell_flow hXf]; exact htl
        have h6 : el f 0 = 6 := by
          unfold tell at htf
          simp only [Bool.and_eq_true, beq_iff_eq] at htf
          exact htf.1.2
        have hsy : el z 5 / 2 % 2 = 1 := by
          apply Classical.byContradiction
          intro hq
          exact h3 ⟨h6, fun q => hq q.1⟩
        have hD : D.length = 0 := by
          apply Classical.byContradiction
          intro hq
          exact h2 ⟨htf, hsy, by omega⟩
        have hc : cf z D.length = 0 := cf_okg hz (hk ▸ h6)
        have hg := fun q => guo_tsb (z := z) (D := D) hsb htl (.inr ⟨hc, hsy, hD⟩) q
        refine ⟨?_, fun e0 _ => ?_⟩
        · rw [g6b_st]
          refine ⟨guo_sbi (now := 0) hsb _ _ _ (ins_new X g.bs) (.inl rfl), fun b hb ht' => ?_⟩
          rw [(guo_bs _ _ _ _).1] at hb
          rcases (ins_mem hb) with rfl | hb
          · exact (hg _).1 rfl
          · rw [(hg (el b 19)).2 (hold b hb)]
            exact h.2 b hb ht'
        · exfalso
          have hu : (upo (stf (g.tab (upd g.ws i (cli f)) (upd g.ts i true) (ins X g.bs)) X).2.1 (stf (g.tab (upd g.ws i (cli f)) (upd g.ts i true) (ins X g.bs)) X).2.2.1 (stf (g.tab (upd g.ws i (cli f)) (upd g.ts i true) (ins X g.bs)) X).2.2.2.1 (stf (g.tab (upd g.ws i (cli f)) (upd g.ts i true) (ins X g.bs)) X).2.2.2.2 z D).1 = 0 := by
            unfold upo
            rw [if_neg (by rw [hc]; decide), if_pos hsy]
            unfold bgo
            rw [if_neg (by omega)]
          unfold g6b at e0
          rw [guo_tell hsb htl] at e0
          dsimp only at e0
          rw [if_neg (fun q => q hu)] at e0
          exact e0 rfl
theorem g6_tsb {c : List Int} {inj : Bool} {g : GS} (h : TSB c inj g) (hi : IG g) {zs : List Int} (ho : SM.Oct zs) : TSB c inj (g6 g zs).2.2 ∧ ((g6 g zs).1 ≠ 0 → (g6 g zs).1 ≠ 3 → (g6 g zs).2.2.bs = g.bs) := by
  rcases g6_form g zs with ⟨r, _, e⟩ | ⟨hG, hE, e⟩
  · rw [e]; exact ⟨h, fun _ _ => rfl⟩
  · rw [e]
    have hE' := hE
    unfold o6s at hE'
    have hz := (oso_ok hE').1
    exact g6s_tsb h hi hz rfl
theorem g4_tsb {c : List Int} {inj : Bool} {g : GS} (h : TSB c inj g) (hi : IG g) (zs : List Int) : TSB c inj (g4 g zs).2.2 ∧ ((g4 g zs).1 ≠ 0 → (g4 g zs).2.2.bs = g.bs) := by
  unfold g4
  split
  · exact ⟨h, fun _ => rfl⟩
  · split
    · exact ⟨h, fun _ => rfl⟩
    · rename_i hne hE
      unfold g4s
      split
      · exact ⟨h, fun _ => rfl⟩
      · rename_i k hk
        split
        · have hk1 := prt_lt (nrk_some hk).2
          have h' : TSB c inj (g.tab g.ws g.ts (g.bs.set k (usd (g.bs.getD k []) g.now))) := h.set hk1.1
          have hE' := Classical.not_not.1 hE
          have hkind : el (g.bs.getD k []) 0 = zs.getD 9 0 := by
            unfold nrk at hk
            split at hk
            · cases hk
            · split at hk
              · rename_i q
                injection hk with hk
                subst hk
                exact q
              · cases hk
          unfold o4s at hE'
          have hoz := oso_ok hE'
          have hgd : (gdo (g.tab g.ws g.ts (g.bs.set k (usd (g.bs.getD k []) g.now))) (g.bs.getD k []) (o4s zs).2.1 (o4s zs).2.2).1 = 0 := by
            unfold gdo
            rw [show (g.tab g.ws g.ts (g.bs.set k (usd (g.bs.getD k []) g.now))).ss = g.ss from rfl]
            split
            · rename_i st hst
              obtain ⟨b3, q1, q2, q3, _⟩ := h.1.2.2 _ (sfd_some hst)
              have := port_inj hi.1.2.2.1.2.1 q1 (mem_getD hk1.1) q2
              subst this
              obtain ⟨hd, s, hh, hs⟩ := h.2 _ q1 q3
              rw [hst] at hs
              injection hs with hs
              have h6 : el (o4s zs).2.1 0 = 6 := by
                unfold tell at q3
                simp only [Bool.and_eq_true, beq_iff_eq] at q3
                exact (hoz.2.1.trans hkind.symm).trans q3.1.2
              have hc := cf_okg (z := (o4s zs).2.1) (n := (o4s zs).2.2.length) hoz.1 h6
              rw [hs]
              dsimp only
              unfold dno
              rw [if_neg (by rw [hc]; decide), if_neg (by decide)]
              split
              · rfl
              · split <;> rfl
            · rfl
          refine ⟨?_, fun e0 => ?_⟩
          · rw [g4b_st]
            refine ⟨gdo_sbi h'.1 _ _ _, fun b hb ht => ?_⟩
            rw [(gdo_bs _ _ _ _).1] at hb
            obtain ⟨hd, s, hh, hs⟩ := h'.2 b hb ht
            unfold gdo
            split
            · rename_i st hst
              show ∃ hd s h, sfd (sup (el (g.bs.getD k []) 19) _ (g.tab g.ws g.ts (g.bs.set k (usd (g.bs.getD k []) g.now))).ss) (el b 19) = _
              by_cases e : el b 19 = el (g.bs.getD k []) 19
              · rw [e, sfd_sup _ _ (sfd_some hst)]
                rw [e] at hs
                rw [hst] at hs
                injection hs with hs
                rw [hs]
                dsimp only
                obtain ⟨s2, h2, e2⟩ := begun_form (dno_begun s hh (o4s zs).2.1 (o4s zs).2.2)
                rw [e2]
                exact ⟨_, _, _, rfl⟩
              · rw [sfd_not _ _ _ e]
                exact ⟨hd, s, hh, hs⟩
            · exact ⟨hd, s, hh, hs⟩
          · exfalso
            unfold g4b at e0
            rw [if_neg (fun q => q hgd)] at e0
            exact e0 rfl
        · exact ⟨h, fun _ => rfl⟩
theorem gtk_tsb {c : List Int} {inj : Bool} {g : GS} (h : TSB c inj g) (hi : IG g) (n : Int) : TSB c inj (gtk g n).2 := by
  refine ⟨gtk_sbi h.1 n, ?_⟩
  unfold gtk
  split
  · intro b hb ht
    have hb' : b ∈ (es (g.now + n) g.bs g.ts g.bs.length).2.1 := hb
    obtain ⟨e1, e2, _⟩ := es_form (g.now + n) g.bs g.ts g.bs.length (Nat.le_refl _)
    rw [List.take_length] at e1 e2
    rw [e2, List.mem_filter] at hb'
    obtain ⟨hd, s, hh, hs⟩ := h.2 b hb'.1 ht
    have hx : xp (g.now + n) b = false := by simpa using hb'.2
    refine ⟨hd, s, hh, ?_⟩
    show sfd (sgo (es (g.now + n) g.bs g.ts g.bs.length).1 g.ss) (el b 19) = _
    rw [e1]
    refine (sfd_sgo _ _ _ (fun x hxm e => ?_)).trans hs
    · obtain ⟨m1, m2⟩ := List.mem_filter.1 hxm
      have := port_inj hi.1.2.2.1.2.1 m1 hb'.1 e
      subst this
      rw [hx] at m2
      cases m2
  · exact h.2
theorem gmk_tsb {c : List Int} {inj : Bool} {g : GS} (h : TSB c inj g) (id : Int) (f : List Int → List Int) : TSB c inj (gmk g id f).2 := by
  unfold gmk
  split <;> exact h
theorem gz0_tsb (c : List Int) (inj : Bool) (bk : List (List Int)) (m : Nat) : TSB c inj (gz0 c inj bk m) := ⟨gz0_sbi c inj bk m, fun b hb => absurd hb (by simp [gz0, GS.bs])⟩
/-- what comes from a server that is not the bind's is to nobody. -/
theorem other_none {g : GS} (hi : IG g) {b : List Int} (hb : b ∈ g.bs) {x y : Int} (hx : up 4294967295 x = true) (hy : 0 ≤ y ∧ y ≤ 65535) (hne : ¬ (el b 20 = x ∧ el b 21 = y)) (hn : up 4294967295 (el g.c 18) = true) :
    ∃ zs, zs = p4o x (el g.c 18) 9 [el b 0, y, el b 19, 0, 0, 0, 0] [] ∧ Okg [el b 0, y, el b 19, 0, 0, 0, 0] ([] : List Int).length ∧ (g4 g zs).1 = 4 ∧ (g4 g zs).2.2 = g := by
  have hgb := hi.1.2.2.1.1 _ hb
  have hm16 := hi.1.1
  have hb19 : 0 ≤ el b 19 ∧ el b 19 ≤ 65535 := by
    obtain ⟨i, q1, q2, _⟩ := hgb.2.1
    omega
  have hk : el b 0 = 6 ∨ el b 0 = 17 := by
    have h := hgb.1
    unfold okf at h
    simp only [Bool.and_eq_true, Bool.or_eq_true, beq_iff_eq] at h
    exact h.1.1.1.1
  have hz : Okg [el b 0, y, el b 19, 0, 0, 0, 0] ([] : List Int).length := by
    refine ⟨hy, hb19, by simp, ?_⟩
    rcases hk with h | h
    · exact .inl ⟨h, ⟨(by decide : (0 : Int) ≤ 0), (by decide : (0 : Int) ≤ 4294967295)⟩, ⟨(by decide : (0 : Int) ≤ 0), (by decide : (0 : Int) ≤ 4294967295)⟩, ⟨(by decide : (0 : Int) ≤ 0), (by decide : (0 : Int) ≤ 31)⟩, ⟨(by decide : (0 : Int) ≤ 0), (by decide : (0 : Int) ≤ 65535)⟩⟩
    · exact .inr ⟨h, rfl, rfl, rfl, rfl⟩
  have hg := g4_p4o g hx hn (by decide : up 255 9 = true) hz
  rw [if_neg (by decide)] at hg
  refine ⟨_, rfl, hz, ?_⟩
  have hs : g4s g x (el g.c 18) 9 (el b 0) (z7 [el b 0, y, el b 19, 0, 0, 0, 0]) [] = (4, [], g) := by
    unfold g4s
    split
    · rfl
    · rename_i k hk
      have hk1 := prt_lt (nrk_some hk).2
      have he : g.bs.getD k [] = b := port_inj hi.1.2.2.1.2.1 (mem_getD hk1.1) hb hk1.2
      rw [he]
      exact if_neg (fun q => hne ⟨q.2.1.symm, q.2.2.symm⟩)
  have hg' : g4 g (p4o x (el g.c 18) 9 [el b 0, y, el b 19, 0, 0, 0, 0] []) = (4, [], g) := hg.trans hs
  rw [hg']
  exact ⟨rfl, rfl⟩
end Go.Proofs.YtkhahbghmdccaaaGreatDoor
