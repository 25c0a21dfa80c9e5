/- Who asks is answered: of numbers and bytes alone. GateBack: what it is told of what went on, and of the answer. -/
import Derived.Test.YtkhahbghmdccaaaGreatB46
import Derived.Test.YtkhahbghmdccaaaGreatB49
import Derived.Below
import Derived.OpenShut
import Derived.Test.YtkhahbghmdccaaaGreatProg
import Derived.WalkKit
import Derived.LaidEql
import Derived.BigQuiet
import Derived.Laws.AppendOwnNone
import Derived.Laws.MakeOwn
import Derived.Deep.RegionLaw
import Derived.Lib.Bytes
import Derived.Deep.MidRow
import Derived.Laws.ResultCell
import Derived.Deep.CutBlock
import Derived.Deep.QuietTactic
import Derived.OwnWalk
import Derived.Deep.RegionHeld3
import Derived.Deep.DrawnRows
import Derived.Laws.StructEq
import Derived.Maps.AppendAt
import Derived.Maps.RangeWalk
import Derived.Stop.Asserts
import Derived.RowKitTokens
import Derived.Test.YtkhahbghmdccaaaGreatShelf
import Derived.Shelf.Abstract
import Derived.Lib.SliceRun
import Derived.Lib.AppendZerosOnto
import Derived.Lib.AppendZeros
import Derived.Laws.CopyOwn
import Derived.RangeFuncNested
import Derived.RangeFuncBound
import Derived.RangeFuncCalls
import Derived.RangeFuncLeaves
import Derived.RangeFuncFrom
import Derived.Shelf.RegionOpen
import Derived.OwnWalkIn
import Derived.TacticsInMore
import Derived.LoopNIn
import Derived.LoopIn
import Derived.Deep.RegionWith
import Derived.ArgAppend
import Derived.Lib.SlBytesConst
import Derived.Lib.AppendStr
import Derived.Deep.Slices
import Derived.ChangeArms
import Derived.WideShapes
import Derived.Test.YtkhahbghmdccaaaGreatB06
import Derived.Test.YtkhahbghmdccaaaGreatB47
import Derived.Deep.Fields
import Derived.ChangeSlices
namespace Go.Proofs.YtkhahbghmdccaaaGreat
open Go.RowKit
set_option linter.unusedVariables false
theorem port_inj {bs : List (List Int)} (h : bs.Pairwise (fun a b => el a 19 < el b 19)) {x y : List Int} (hx : x ∈ bs) (hy : y ∈ bs) (e : el x 19 = el y 19) : x = y := by
  obtain ⟨i, hi, rfl⟩ := List.getElem_of_mem hx
  obtain ⟨j, hj, rfl⟩ := List.getElem_of_mem hy
  have hp := List.pairwise_iff_getElem.1 h
  rcases (by omega : i = j ∨ i < j ∨ j < i) with rfl | hl | hl
  · rfl
  · have := hp i j hi hj hl
    omega
  · have := hp j i hj hi hl
    omega
theorem sfd_sup (p : Int) (st : List Int × Int × Bool × Bool) : ∀ {ss : List (Int × List Int × Int × Bool × Bool)} {st0 : List Int × Int × Bool × Bool}, (p, st0) ∈ ss → sfd (sup p st ss) p = some st
  | [], _, h => absurd h (by simp)
  | x :: r, st0, h => by
    by_cases e : x.1 = p
    · have : sup p st (x :: r) = (x.1, st) :: sup p st r := by
        unfold sup
        rw [List.map_cons, if_pos e]
      rw [this]
      unfold sfd
      rw [List.find?_cons_of_pos (by simpa using e)]
      rfl
    · have : sup p st (x :: r) = x :: sup p st r := by
        unfold sup
        rw [List.map_cons, if_neg e]
      rw [this]
      have hr : (p, st0) ∈ r := by
        rcases List.mem_cons.1 h with h | h
        · exact absurd (by rw [← h]) e
        · exact h
      have ih := sfd_sup p st hr
      unfold sfd at ih ⊢
      rw [List.find?_cons_of_neg (by simpa using e)]
      exact ih
theorem stf_in (g : GS) (b : List Int) : (el b 19, (stf g b).2) ∈ (stf g b).1 := by
  unfold stf
  split
  · rename_i st hs
    exact sfd_some hs
  · exact List.mem_cons_self ..
def UP (c : List Int) (inj : Bool) (b z D zu Du : List Int) (ss : List (Int × List Int × Int × Bool × Bool)) : Prop :=
  (tell c inj b = false ∧ zu = z ∧ Du = D ∧ sfd ss (el b 19) = none) ∨
  (tell c inj b = true ∧ ∃ hd s' h', hd.length = 52 ∧ SM.Oct hd ∧ sfd ss (el b 19) = some (hd, s', true, h') ∧ (0 ≤ s' ∧ s' < 4294967296) ∧
    ((el z 5 / 2 % 2 = 1 ∧ D = [] ∧ zu = zq z (md (el z 3 - 52)) ∧ Du = [] ∧ s' = md (el z 3 + 1)) ∨
     (¬ el z 5 / 2 % 2 = 1 ∧ el z 3 = s' ∧ zu = zq z (md (el z 3 - 52)) ∧ Du = hd ++ D ∧ 52 + D.length ≤ 300) ∨
     (¬ el z 5 / 2 % 2 = 1 ∧ zu = z ∧ Du = D)))
theorem guo_core {c : List Int} {inj : Bool} {g : GS} (h : SBI c inj g) (hi : IG g) {b z D b2 : List Int} {now : Int} (hb2 : b2 ∈ g.bs) (e : b2 = b ∨ b2 = usd b now) (h0 : (guo g b z D).1 = 0) :
    UP c inj b z D (guo g b z D).2.1 (guo g b z D).2.2.1 (guo g b z D).2.2.2.ss := by
  have hb3 : el b2 19 = el b 19 ∧ tell c inj b2 = tell c inj b ∧ hb b2 = hb b ∧ okf b2 = okf b := by
    rcases e with rfl | rfl
    · exact ⟨rfl, rfl, rfl, rfl⟩
    · exact ⟨rfl, rfl, rfl, rfl⟩
  have hbi := hi.1.2.2.1
  cases ht : tell c inj b
  · left
    have hg : guo g b z D = (0, z, D, g) := by
      unfold guo
      rw [h.1, h.2.1]
      exact if_neg (by rw [ht]; decide)
    rw [hg]
    refine ⟨ht, rfl, rfl, ?_⟩
    cases hs : sfd g.ss (el b 19) with
    | none => rfl
    | some st =>
      obtain ⟨b3, q1, q2, q3, _⟩ := h.2.2 _ (sfd_some hs)
      have := port_inj hbi.2.1 q1 hb2 (q2.trans hb3.1.symm)
      rw [this, hb3.2.1, ht] at q3
      cases q3
  · right
    refine ⟨ht, ?_⟩
    have hhd : (stf g b).2.1.length = 52 ∧ SM.Oct (stf g b).2.1 := by
      unfold stf
      split
      · rename_i st hs
        obtain ⟨b3, q1, q2, q3, q4⟩ := h.2.2 _ (sfd_some hs)
        have q5 : st.1 = hb b3 := q4
        rw [q5]
        exact ⟨hb_len _, hb_oct (hbi.1 _ q1).1⟩
      · exact ⟨hb_len _, hb_oct (by rw [← hb3.2.2.2]; exact (hbi.1 _ hb2).1)⟩
    have hsi := guo_si hi.2.1 b z D
    have hin := stf_in g b
    have hg : guo g b z D = ((upo (stf g b).2.1 (stf g b).2.2.1 (stf g b).2.2.2.1 (stf g b).2.2.2.2 z D).1, (upo (stf g b).2.1 (stf g b).2.2.1 (stf g b).2.2.2.1 (stf g b).2.2.2.2 z D).2.1, (upo (stf g b).2.1 (stf g b).2.2.1 (stf g b).2.2.2.1 (stf g b).2.2.2.2 z D).2.2.1, g.str (sup (el b 19) ((stf g b).2.1, (upo (stf g b).2.1 (stf g b).2.2.1 (stf g b).2.2.2.1 (stf g b).2.2.2.2 z D).2.2.2) (stf g b).1)) := by
      unfold guo
      exact if_pos (by rw [h.1, h.2.1]; exact ht)
    rw [hg] at h0 hsi ⊢
    generalize (stf g b).1 = ss1 at h0 hsi hin ⊢
    generalize (stf g b).2 = st at h0 hsi hin hhd ⊢
    obtain ⟨hd, s, bb, hh⟩ := st
    dsimp only at h0 hsi hin hhd ⊢
    have hf := sfd_sup (el b 19) (hd, (upo hd s bb hh z D).2.2.2) hin
    have hss : (g.str (sup (el b 19) (hd, (upo hd s bb hh z D).2.2.2) ss1)).ss = sup (el b 19) (hd, (upo hd s bb hh z D).2.2.2) ss1 := rfl
    rw [hss]
    have hv := hsi _ (sfd_some hf)
    unfold upo at h0 hf hv ⊢
    split at h0
    · rename_i hc; exact absurd h0 hc
    · rename_i hc
      rw [if_neg hc] at hf hv ⊢
      split at h0
      · rename_i hsy
        rw [if_pos hsy] at hf hv ⊢
        unfold bgo at h0 hf hv ⊢
        split at h0
        · cases h0
        · rename_i hl
          rw [if_neg hl] at hf hv ⊢
          refine ⟨hd, _, _, hhd.1, hhd.2, hf, hv.2, .inl ⟨hsy, List.length_eq_zero_iff.1 (by omega), ?_, rfl, rfl⟩⟩
          rw [hhd.1]
          rfl
      · rename_i hsy
        rw [if_neg hsy] at hf hv ⊢
        split at h0
        · cases h0
        · rename_i hb
          rw [if_neg hb] at hf hv ⊢
          have hbt : bb = true := by cases bb; exact absurd rfl hb; rfl
          subst hbt
          split at h0
          · rename_i hq
            rw [if_pos hq] at hf hv ⊢
            unfold fio at h0 hf hv ⊢
            split at h0
            · cases h0
            · rename_i hl
              rw [if_neg hl] at hf hv ⊢
              refine ⟨hd, _, _, hhd.1, hhd.2, hf, hv.2, .inr (.inl ⟨hsy, hq.1, ?_, rfl, by have := hhd.1; omega⟩)⟩
              rw [hhd.1]
              rfl
          · rename_i hq
            rw [if_neg hq] at hf hv ⊢
            exact ⟨hd, _, _, hhd.1, hhd.2, hf, hv.2, .inr (.inr ⟨hsy, rfl, rfl⟩)⟩
def DN (ss : List (Int × List Int × Int × Bool × Bool)) (p : Int) (z : List Int) : List Int := match sfd ss p with
  | none => z
  | some st => if el z 5 / 16 % 2 = 0 then z else if ah (el z 4) st.2.1 = true then za z st.2.1 else z
theorem cf_okg {z : List Int} {n : Nat} (h : Okg z n) (h6 : el z 0 = 6) : cf z n = 0 := by
  unfold cf
  rw [(sf_iff z n).2 h, if_neg (fun q => q.2 h6)]
theorem gdo_core {g : GS} {b z D : List Int} (hz : Okg z D.length) (h : sfd g.ss (el b 19) = none ∨ (el z 0 = 6 ∧ ∃ hd s' h', sfd g.ss (el b 19) = some (hd, s', true, h'))) : (gdo g b z D).1 = 0 ∧ (gdo g b z D).2.1 = DN g.ss (el b 19) z ∧ (gdo g b z D).2.2.1 = D := by
  rcases h with h | ⟨h6, hd, s', h', h⟩
  · unfold gdo DN
    rw [h]
    exact ⟨rfl, rfl, rfl⟩
  · unfold gdo DN
    rw [h]
    dsimp only
    unfold dno
    rw [if_neg (fun q => q (cf_okg hz h6)), if_neg (by simp)]
    split
    · exact ⟨rfl, rfl, rfl⟩
    · split
      · exact ⟨rfl, rfl, rfl⟩
      · exact ⟨rfl, rfl, rfl⟩
theorem answer_core {c : List Int} {inj : Bool} {g : GS} (h : SBI c inj g) (hi : IG g) {b z D : List Int} (hb : b ∈ g.bs) {ttl : Int} (ht : up 255 ttl = true) (h2 : 2 ≤ ttl) (hz : Okg z D.length) (z0 : el z 0 = el b 0) (z1 : el z 1 = el b 21) (z2 : el z 2 = el b 19)
    (hs : sfd g.ss (el b 19) = none ∨ (el z 0 = 6 ∧ ∃ hd s' h', sfd g.ss (el b 19) = some (hd, s', true, h'))) :
    (g4 g (p4o (el b 20) (el c 18) ttl z D)).1 = 0 ∧ (g4 g (p4o (el b 20) (el c 18) ttl z D)).2.1 = p6o (dst b) (cli b) (ttl - 1) (zft (DN g.ss (el b 19) (z7 z)) (el b 18) (el b 9)) D := by
  obtain ⟨k, hk, rfl⟩ := List.getElem_of_mem hb
  have hG := hi.1.2.2.1.1 _ hb
  have hfr : up 4294967295 (el g.bs[k] 20) = true := by
    have h : fr (el g.bs[k] 20) = true := hG.2.2.2.1
    unfold fr at h
    rw [Bool.and_eq_true, decide_eq_true_eq, decide_eq_true_eq] at h
    exact decide_eq_true h
  have hnear : up 4294967295 (el c 18) = true := by
    have := hi.2.2.2.2.2.1
    rw [h.1] at this
    exact this
  rw [g4_p4o g hfr hnear ht hz, if_neg (by omega)]
  have hnk : nrk g.bs (el z 0) (el (z7 z) 2) = some k := by
    unfold nrk
    have : prt g.bs (el (z7 z) 2) = some k := by
      have := prt_self hi.1.2.2.1.2.1 hk
      rw [getD_at hk] at this
      rw [show el (z7 z) 2 = el g.bs[k] 19 from z2]
      exact this
    rw [this]
    dsimp only
    rw [getD_at hk, if_pos z0.symm]
  unfold g4s
  rw [hnk]
  dsimp only
  rw [getD_at hk, if_pos ⟨by rw [h.1], rfl, z1⟩]
  have hz7 : Okg (z7 z) D.length := hz
  obtain ⟨q1, q2, q3⟩ := gdo_core (g := g.tab g.ws g.ts (g.bs.set k (usd g.bs[k] g.now))) (b := g.bs[k]) hz7 hs
  unfold g4b
  rw [if_neg (fun q => q q1), q2, q3]
  exact ⟨rfl, rfl⟩
theorem ask_core {c : List Int} {inj : Bool} {g : GS} (h : SBI c inj g) (hi : IG g) {s d z D : List Int} {hop : Int} (hs : Ok6 s) (hd : Ok6 d) (ht : up 255 hop = true) (hz : Okg z D.length) (ho : SM.Oct D) (h0 : (g6 g (p6o s d hop z D)).1 = 0) :
    ∃ b ∈ (g6 g (p6o s d hop z D)).2.2.bs, ∃ zu Du, 2 ≤ hop ∧ flC b = flC (fl5 (el z 0) s (el z 1) d (el z 2)) ∧ (g6 g (p6o s d hop z D)).2.1 = p4o (el c 18) (el b 20) (hop - 1) (zft zu (el b 19) (el b 21)) Du ∧ UP c inj b (z7 z) D zu Du (g6 g (p6o s d hop z D)).2.2.ss ∧ IG (g6 g (p6o s d hop z D)).2.2 ∧ SBI c inj (g6 g (p6o s d hop z D)).2.2 := by
  have hig := (g6_ig hi (p6o_oct hs hd ht hz ho)).1
  have hsb := g6_sbi h (p6o s d hop z D)
  rw [g6_p6o g hs hd ht hz] at h0 hig hsb ⊢
  by_cases h2 : hop < 2
  · rw [if_pos h2] at h0
    cases h0
  rw [if_neg h2] at h0 hig hsb ⊢
  have hf : okf (fl5 (el z 0) s (el z 1) d (el z 2)) = true := fl5_ok hz hs hd
  have hfd : Ok6 (dst (fl5 (el z 0) s (el z 1) d (el z 2))) := fl5_dst hd
  generalize fl5 (el z 0) s (el z 1) d (el z 2) = f at h0 hig hsb hf hfd ⊢
  unfold g6s at h0 hig hsb ⊢
  split at h0
  · cases h0
  rename_i h3
  rw [if_neg h3] at hig hsb ⊢
  split at h0
  · cases h0
  rename_i h4
  rw [if_neg h4] at hig hsb ⊢
  split at h0
  · rename_i h5; exact absurd h0 h5
  rename_i h5
  rw [if_neg h5] at hig hsb ⊢
  have hb0 := bdo_sbi h f (el (z7 z) 5) (whr g f (ldo g.c f).2)
  have hbs := bdo_sm g f (el (z7 z) 5) (whr g f (ldo g.c f).2)
  have hbt := bdo_ti (flags := el (z7 z) 5) hi.1 hf (fun h0 => whr_ok hi.2.2 hf hfd (Classical.not_not.1 h3) h0)
  have hbss := (bdo_ss g f (el (z7 z) 5) (whr g f (ldo g.c f).2)).1
  have hbi : IG (bdo g f (el (z7 z) 5) (whr g f (ldo g.c f).2)).2.2 := ⟨hbt, by have := hi.2.1; unfold SI at this ⊢; rw [hbss]; exact this, hbs.ci hi.2.2⟩
  obtain ⟨b2, q1, q2, q3⟩ := bdo_in (Classical.not_not.1 h5)
  generalize bdo g f (el (z7 z) 5) (whr g f (ldo g.c f).2) = R at h0 hig hsb hb0 hbs hbt hbi q1 q2 q3 ⊢
  obtain ⟨r1, b, g2⟩ := R
  dsimp only at h0 hig hsb hb0 hbs hbt hbi q1 q2 q3 ⊢
  unfold g6b at h0 hig hsb ⊢
  split at h0
  · rename_i h6; exact absurd h0 h6
  rename_i h6
  rw [if_neg h6] at hig hsb ⊢
  have hU := guo_core hb0 hbi (b := b) (z := z7 z) (D := D) q1 q2 (Classical.not_not.1 h6)
  have hbs2 := (guo_c g2 b (z7 z) D).2.2
  have hc2 : g2.c = c := hb0.1
  refine ⟨b2, ?_, (guo g2 b (z7 z) D).2.1, (guo g2 b (z7 z) D).2.2.1, by omega, ?_, ?_, ?_, hig, hsb⟩
  · show b2 ∈ (guo g2 b (z7 z) D).2.2.2.bs
    rw [hbs2]
    exact q1
  · rcases q2 with rfl | rfl
    · exact q3
    · exact q3
  · show p4o (el g2.c 18) _ _ _ _ = _
    rw [hc2]
    rcases q2 with rfl | rfl
    · rfl
    · rfl
  · rcases q2 with rfl | rfl
    · exact hU
    · exact hU
end Go.Proofs.YtkhahbghmdccaaaGreat

namespace Go.Proofs.YtkhahbghmdccaaaGreat
open Go.RowKit
set_option linter.unusedVariables false
theorem upx_ok {c : List Int} {inj : Bool} {b z D zu Du : List Int} {ss : List (Int × List Int × Int × Bool × Bool)} (h : UP c inj b z D zu Du ss) (hz : Okg z D.length) (ho : SM.Oct D) (h0 : el b 0 = el z 0) : Okg zu Du.length ∧ SM.Oct Du ∧ el zu 0 = el z 0 ∧ el zu 5 = el z 5 := by
  rcases h with ⟨_, rfl, rfl, _⟩ | ⟨ht, hd, s', h', q1, q2, _, _, h⟩
  · exact ⟨hz, ho, rfl, rfl⟩
  · have h6 : el z 0 = 6 := by
      unfold tell at ht
      simp only [Bool.and_eq_true, beq_iff_eq] at ht
      rw [← h0]
      exact ht.1.2
    have hz6 : (0 ≤ el z 3 ∧ el z 3 ≤ 4294967295) ∧ (0 ≤ el z 4 ∧ el z 4 ≤ 4294967295) ∧ (0 ≤ el z 5 ∧ el z 5 ≤ 31) ∧ (0 ≤ el z 6 ∧ el z 6 ≤ 65535) := by
      rcases hz.2.2.2 with h | h
      · exact h.2
      · have := h.1
        omega
    have hm := md_in (el z 3 - 52)
    have hq : ∀ n, n ≤ 300 → Okg (zq z (md (el z 3 - 52))) n := fun n hn => ⟨hz.1, hz.2.1, hn, .inl ⟨h6, ⟨hm.1, by show md (el z 3 - 52) ≤ _; omega⟩, hz6.2.1, hz6.2.2.1, hz6.2.2.2⟩⟩
    rcases h with ⟨_, rfl, rfl, rfl, _⟩ | ⟨_, _, rfl, rfl, h300⟩ | ⟨_, rfl, rfl⟩
    · exact ⟨hq _ (by decide), ho, rfl, rfl⟩
    · exact ⟨hq _ (by rw [List.length_append]; omega), SM.oct_append _ _ q2 ho, rfl, rfl⟩
    · exact ⟨hz, ho, rfl, rfl⟩
theorem up_far {c : List Int} {inj : Bool} {b z D zu Du : List Int} {ss : List (Int × List Int × Int × Bool × Bool)} (h : UP c inj b z D zu Du ss) (hz : Okg z D.length) (h6 : el z 0 = 6) (x y : Int) {syn A want : Int} (hsyn : syn = if el z 5 / 2 % 2 = 1 then 1 else 0) (hA : A = md (el zu 3 + ((Du.length : Int) + syn))) (hw : want = md (el z 3 + ((D.length : Int) + syn))) :
    (0 ≤ el (DN ss (el b 19) [6, x, y, 0, A, 16, 0]) 4 ∧ el (DN ss (el b 19) [6, x, y, 0, A, 16, 0]) 4 < 4294967296) ∧ (md (el (DN ss (el b 19) [6, x, y, 0, A, 16, 0]) 4 - want) = 0 ∨ (tell c inj b = true ∧ el z 5 / 2 % 2 = 0 ∧ md (el (DN ss (el b 19) [6, x, y, 0, A, 16, 0]) 4 - want) < 2147483648)) := by
  have hz3 : 0 ≤ el z 3 ∧ el z 3 ≤ 4294967295 := by
    rcases hz.2.2.2 with h | h
    · exact h.2.1
    · have := h.1
      omega
  have h300 := hz.2.2.1
  have hAi := md_in (el zu 3 + ((Du.length : Int) + syn))
  rw [← hA] at hAi
  rcases h with ⟨_, rfl, rfl, hs⟩ | ⟨ht, hd, s', h', q1, q2, hs, hsr, h⟩
  · have e : DN ss (el b 19) [6, x, y, 0, A, 16, 0] = [6, x, y, 0, A, 16, 0] := by unfold DN; rw [hs]
    rw [e]
    refine ⟨hAi, .inl ?_⟩
    show md (A - want) = 0
    rw [hA, hw]
    unfold md
    omega
  · have e : el (DN ss (el b 19) [6, x, y, 0, A, 16, 0]) 4 = if ah A s' = true then s' else A := by
      unfold DN
      rw [hs]
      dsimp only
      rw [if_neg (show ¬ el [6, x, y, 0, A, 16, 0] 5 / 16 % 2 = 0 from (by decide : ¬ (16 : Int) / 16 % 2 = 0))]
      show el (if ah A s' = true then _ else _) 4 = _
      split <;> rfl
    rw [e]
    have hah : ah A s' = decide (1 ≤ md (s' - A) ∧ md (s' - A) < 2147483648) := rfl
    rw [hah]
    rcases h with ⟨hsy, rfl, rfl, rfl, hs'⟩ | ⟨hsy, h3, rfl, rfl, hl⟩ | ⟨hsy, rfl, rfl⟩
    · rw [if_pos hsy] at hsyn
      have hA' : A = md (md (el z 3 - 52) + ((0 : Int) + syn)) := hA
      have hw' : want = md (el z 3 + ((0 : Int) + syn)) := hw
      subst hsyn
      unfold md at hA' hw' hs' ⊢
      rw [if_pos (decide_eq_true (by omega))]
      omega
    · rw [if_neg hsy] at hsyn
      have hA' : A = md (md (el z 3 - 52) + (((hd.length + D.length : Nat) : Int) + syn)) := by rw [hA, List.length_append]; rfl
      rw [q1] at hA'
      subst hsyn
      unfold md at hA' hw ⊢
      rw [if_neg (by rw [decide_eq_true_eq]; omega)]
      omega
    · rw [if_neg hsy] at hsyn
      subst hsyn
      unfold md at hA hw ⊢
      split
      · rename_i h
        rw [decide_eq_true_eq] at h
        refine ⟨by omega, .inr ⟨ht, by omega, by omega⟩⟩
      · omega
theorem dn_okg {ss : List (Int × List Int × Int × Bool × Bool)} {p : Int} {z : List Int} {n : Nat} (hz : Okg z n) (hs : sfd ss p = none ∨ (el z 0 = 6 ∧ ∃ hd s' h', sfd ss p = some (hd, s', true, h') ∧ 0 ≤ s' ∧ s' < 4294967296)) : Okg (DN ss p z) n ∧ el (DN ss p z) 0 = el z 0 := by
  unfold DN
  rcases hs with hs | ⟨h6, hd, s', h', hs, r1, r2⟩
  · rw [hs]
    exact ⟨hz, rfl⟩
  · rw [hs]
    dsimp only
    split
    · exact ⟨hz, rfl⟩
    · split
      · rcases hz.2.2.2 with h | h
        · exact ⟨⟨hz.1, hz.2.1, hz.2.2.1, .inl ⟨h6, h.2.1, ⟨r1, by show s' ≤ _; omega⟩, h.2.2.2⟩⟩, rfl⟩
        · have := h.1
          omega
      · exact ⟨hz, rfl⟩
theorem wd_in {n : Int} (h : wd n = true) : 0 ≤ n ∧ n ≤ 65535 := by
  unfold wd at h
  rw [Bool.and_eq_true, decide_eq_true_eq, decide_eq_true_eq] at h
  exact h
theorem okf_ports {f : List Int} (h : okf f = true) : (0 ≤ el f 9 ∧ el f 9 ≤ 65535) ∧ (0 ≤ el f 18 ∧ el f 18 ≤ 65535) := by
  unfold okf at h
  simp only [Bool.and_eq_true] at h
  exact ⟨wd_in h.1.2, wd_in h.2⟩
theorem eqz_of {a b : List Int} (h : ∀ j, j < 8 → el a j = el b j) : eqz a b = true := (eqz_iff a b).2 h
def BKD (c : List Int) (inj : Bool) (s d z D : List Int) (hop : Int) (data Y4 : List Int) (g1 : GS) : Prop := ∃ (x A fl want t k2 : Int) (N N2 N6 : Nat) (E4 E2 E6 zb Du Y7 Y8 d8 s8 z8 : List Int),
  (el zb 0 = el z 0 ∧ el zb 5 = el z 5 ∧ 0 ≤ el zb 3 ∧ el zb 3 ≤ 4294967295 ∧ Du.length ≤ 300) ∧
  ((el z 0 = 6 ∧ fl = 16 ∧ A = md (el zb 3 + ((Du.length : Int) + if el z 5 / 2 % 2 = 1 then 1 else 0)) ∧ want = md (el z 3 + ((D.length : Int) + if el z 5 / 2 % 2 = 1 then 1 else 0))) ∨ (el z 0 = 17 ∧ fl = 0 ∧ A = 0 ∧ want = 0)) ∧
  ((0 ≤ t ∧ t < 4294967296) ∧ (0 ≤ want ∧ want < 4294967296) ∧ (md (t - want) = 0 ∨ (inj = true ∧ eqz d (vip c) = true ∧ el z 5 / 2 % 2 = 0 ∧ md (t - want) < 2147483648))) ∧
  (eqz d8 d = true ∧ eqz s8 s = true ∧ el z8 1 = el z 2 ∧ el z8 2 = el z 1 ∧ el z8 4 = t ∧ 0 < Y7.length) ∧
  (∀ W b l q, Row8 W b l q Y4 → l ≤ q → q ≤ maxLen → Calls Tryz.prog 17 #[.slice b l q] W fun e w' => ∃ a1 c1, e = .returned (.tuple #[.agg #[.int .i64 (el c 18), .int .i64 x, .int .i64 (hop - 1), .int .i64 (el zb 0), .int .i64 0, .slice a1 N c1], .nilIface]) ∧ (Row8 w' a1 N c1 E4 ∧ N ≤ c1 ∧ c1 ≤ maxLen) ∧ Below W.heap.size W w') ∧
  (∀ W a1 c1, Row8 W a1 N c1 E4 → N ≤ c1 → c1 ≤ maxLen → Calls Tryz.prog 18 #[.agg #[.int .i64 (el c 18), .int .i64 x, .int .i64 (hop - 1), .int .i64 (el zb 0), .int .i64 0, .slice a1 N c1]] W fun e w' => ∃ a2 l2 c2, e = .returned (.tuple #[.agg (sgC zb a2 l2 c2), .int .i64 0]) ∧ Row8 w' a2 l2 c2 Du ∧ Below W.heap.size W w') ∧
  (∀ W a cp, Row8 W a data.length cp data → Calls Tryz.prog 21 #[.agg (sgC [el zb 0, el zb 2, el zb 1, 0, A, fl, 0] a data.length cp), .int .i64 x, .int .i64 (el c 18), .int .i64 64] W fun e w' => ∃ a1 c1, e = .returned (V4.pk x (el c 18) 64 k2 0 a1 N2 c1) ∧ Row8 w' a1 N2 c1 E2 ∧ Below W.heap.size W w') ∧
  (∀ W a1 c1, Row8 W a1 N2 c1 E2 → Calls Tryz.prog 20 #[V4.pk x (el c 18) 64 k2 0 a1 N2 c1] W fun e w' => ∃ v, e = .returned v ∧ Own W.heap.size w' v Y7 ∧ Below W.heap.size W w') ∧
  (∀ w G O W b l k, GH w G g1 O W → Row8 W b l k Y7 → l ≤ k → k ≤ maxLen → Calls Tryz.prog 19 #[.pointer (some ⟨G, 0, none⟩), .slice b l k] W fun e w' => (∃ a2 l2 c2, e = .returned (.tuple #[.slice a2 l2 c2, .nilIface]) ∧ Row8 w' a2 l2 c2 Y8 ∧ l2 ≤ c2 ∧ c2 ≤ maxLen) ∧ ∃ g2, GN w G g2 O W w') ∧
  (∀ W b l q, Row8 W b l q Y8 → l ≤ q → q ≤ maxLen → Calls Tryz.prog 22 #[.slice b l q] W fun e w' => ∃ a1 c1, e = .returned (.tuple #[.agg (V6.pkC d8 s8 63 (el z8 0) a1 N6 c1), .nilIface]) ∧ (Row8 w' a1 N6 c1 E6 ∧ N6 ≤ c1 ∧ c1 ≤ maxLen) ∧ Below W.heap.size W w') ∧
  (∀ W a1 c1, Row8 W a1 N6 c1 E6 → N6 ≤ c1 → c1 ≤ maxLen → Calls Tryz.prog 23 #[.agg (V6.pkC d8 s8 63 (el z8 0) a1 N6 c1)] W fun e w' => ∃ a2 l2 c2, e = .returned (.tuple #[.agg (sgC z8 a2 l2 c2), .int .i64 0]) ∧ Row8 w' a2 l2 c2 data ∧ Below W.heap.size W w')
theorem dec4_p4o {s d t : Int} {z D : List Int} (hs : up 4294967295 s = true) (hd : up 4294967295 d = true) (ht : up 255 t = true) (hz : Okg z D.length) : ∃ (N : Nat) (E : List Int),
    (∀ W b l q, Row8 W b l q (p4o s d t z D) → l ≤ q → q ≤ maxLen → Calls Tryz.prog 17 #[.slice b l q] W fun e w' => ∃ a1 c1, e = .returned (.tuple #[.agg #[.int .i64 s, .int .i64 d, .int .i64 t, .int .i64 (el z 0), .int .i64 0, .slice a1 N c1], .nilIface]) ∧ (Row8 w' a1 N c1 E ∧ N ≤ c1 ∧ c1 ≤ maxLen) ∧ Below W.heap.size W w') ∧
    (∀ W a1 c1, Row8 W a1 N c1 E → N ≤ c1 → c1 ≤ maxLen → Calls Tryz.prog 18 #[.agg #[.int .i64 s, .int .i64 d, .int .i64 t, .int .i64 (el z 0), .int .i64 0, .slice a1 N c1]] W fun e w' => ∃ a2 l2 c2, e = .returned (.tuple #[.agg (sgC z a2 l2 c2), .int .i64 0]) ∧ Row8 w' a2 l2 c2 D ∧ Below W.heap.size W w') := by
  have hok := okp4z hs hd ht hz
  obtain ⟨N, hN0⟩ : ∃ N, hn (el z 0) + D.length = N := ⟨_, rfl⟩
  have hni : ((hn (el z 0) : Nat) + (D.length : Int)) = (N : Int) := by omega
  have hel : (eb z (o4 s d (el z 0) N) D).length = N := by rw [eb_len]; exact hN0
  refine ⟨N, eb z (o4 s d (el z 0) N) D, fun W b l q r e1 e2 => ?_, fun W a1 c1 r e1 e2 => seg4_eb z D s d t 0 N a1 c1 W hz hok hN0.symm r e1 e2⟩
  unfold p4o at r
  rw [hni] at r
  refine (V4.decode_bysb b l q s d t (el z 0) 0 _ W r e1 e2 hok (eb_le hz _)).mono ?_
  rintro e w' ⟨a', l', c', e3, e4, e5⟩
  have hl' : N = l' := hel.symm.trans e4.1.1
  subst hl'
  exact ⟨a', c', e3, e4, e5⟩
theorem dec6_p6o {s d : List Int} {t : Int} {z D : List Int} (hs : Ok6 s) (hd : Ok6 d) (ht : up 255 t = true) (hz : Okg z D.length) : ∃ (N : Nat) (E : List Int),
    (∀ W b l q, Row8 W b l q (p6o s d t z D) → l ≤ q → q ≤ maxLen → Calls Tryz.prog 22 #[.slice b l q] W fun e w' => ∃ a1 c1, e = .returned (.tuple #[.agg (V6.pkC s d t (el z 0) a1 N c1), .nilIface]) ∧ (Row8 w' a1 N c1 E ∧ N ≤ c1 ∧ c1 ≤ maxLen) ∧ Below W.heap.size W w') ∧
    (∀ W a1 c1, Row8 W a1 N c1 E → N ≤ c1 → c1 ≤ maxLen → Calls Tryz.prog 23 #[.agg (V6.pkC s d t (el z 0) a1 N c1)] W fun e w' => ∃ a2 l2 c2, e = .returned (.tuple #[.agg (sgC z a2 l2 c2), .int .i64 0]) ∧ Row8 w' a2 l2 c2 D ∧ Below W.heap.size W w') := by
  have hok := okp6 hs hd ht hz
  obtain ⟨N, hN0⟩ : ∃ N, hn (el z 0) + D.length = N := ⟨_, rfl⟩
  have hni : ((hn (el z 0) : Nat) + (D.length : Int)) = (N : Int) := by omega
  have hel : (eb z (o6 s d (el z 0) N) D).length = N := by rw [eb_len]; exact hN0
  refine ⟨N, eb z (o6 s d (el z 0) N) D, fun W b l q r e1 e2 => ?_, fun W a1 c1 r e1 e2 => seg6_eb z D s d t N a1 c1 W hz hok hN0.symm r e1 e2⟩
  unfold p6o at r
  rw [hni] at r
  refine (V6.decode_bysb b l q s d t (el z 0) _ W r e1 e2 hok (eb_le hz _)).mono ?_
  rintro e w' ⟨a', l', c', e3, e4, e5⟩
  have hl' : N = l' := hel.symm.trans e4.1.1
  subst hl'
  exact ⟨a', c', e3, e4, e5⟩
theorem back_bundle {c : List Int} {inj : Bool} {g : GS} (h : SBI c inj g) (hi : IG g) {s d z D : List Int} {hop : Int} (hs : Ok6 s) (hd : Ok6 d) (ht : up 255 hop = true) (hz : Okg z D.length) (ho : SM.Oct D) (h0 : (g6 g (p6o s d hop z D)).1 = 0) {data : List Int} (hdo : SM.Oct data) (hdl : data.length ≤ 300) :
    BKD c inj s d z D hop data (g6 g (p6o s d hop z D)).2.1 (g6 g (p6o s d hop z D)).2.2 := by
  obtain ⟨b, hb, zu, Du, h2, hfl, hY, hU, hig, hsb⟩ := ask_core h hi hs hd ht hz ho h0
  have hgb := hig.1.2.2.1.1 _ hb
  have hm16 := hig.1.1
  have hef := (eqf_iff _ _).2 hfl
  unfold eqf at hef
  simp only [Bool.and_eq_true, beq_iff_eq] at hef
  obtain ⟨⟨⟨⟨b0, bc⟩, b9⟩, bd⟩, b18⟩ := hef
  replace b0 : el b 0 = el z 0 := b0
  replace b9 : el b 9 = el z 1 := b9
  replace b18 : el b 18 = el z 2 := b18
  have bc' : eqz (cli b) s = true := eqz_of fun j hj => ((eqz_iff _ _).1 bc j hj).trans (by
    rcases (by omega : j = 0 ∨ j = 1 ∨ j = 2 ∨ j = 3 ∨ j = 4 ∨ j = 5 ∨ j = 6 ∨ j = 7) with rfl | rfl | rfl | rfl | rfl | rfl | rfl | rfl <;> rfl)
  have bd' : eqz (dst b) d = true := eqz_of fun j hj => ((eqz_iff _ _).1 bd j hj).trans (by
    rcases (by omega : j = 0 ∨ j = 1 ∨ j = 2 ∨ j = 3 ∨ j = 4 ∨ j = 5 ∨ j = 6 ∨ j = 7) with rfl | rfl | rfl | rfl | rfl | rfl | rfl | rfl <;> rfl)
  generalize (g6 g (p6o s d hop z D)).2.2 = g1 at hb hU hig hsb hgb hm16 ⊢
  rw [hY]
  have hz7 : Okg (z7 z) D.length := hz
  obtain ⟨u1, u2, u3, u4⟩ := upx_ok hU hz7 ho b0
  have hb21 : 0 ≤ el b 21 ∧ el b 21 ≤ 65535 := by
    have h : wd (el b 21) = true := hgb.2.2.2.2
    unfold wd at h
    rw [Bool.and_eq_true, decide_eq_true_eq, decide_eq_true_eq] at h
    exact h
  have hux : up 4294967295 (el b 20) = true := by
    have h : fr (el b 20) = true := hgb.2.2.2.1
    unfold fr at h
    rw [Bool.and_eq_true, decide_eq_true_eq, decide_eq_true_eq] at h
    exact decide_eq_true h
  have hb19 : 0 ≤ el b 19 ∧ el b 19 ≤ 65535 := by
    obtain ⟨i, q1, q2, _⟩ := hgb.2.1
    omega
  have hnear : up 4294967295 (el c 18) = true := by
    have := hig.2.2.2.2.2.1
    rw [hsb.1] at this
    exact this
  have htt := up_true ht
  have ht1 : up 255 (hop - 1) = true := decide_eq_true (by omega)
  have hzb : Okg (zft zu (el b 19) (el b 21)) Du.length := zft_ok u1 hb19 hb21
  obtain ⟨N, E4, hD4, hS4⟩ := dec4_p4o (t := hop - 1) hnear hux ht1 hzb
  have hok1 : Ok6 (dst b) := okf_dst hgb.1
  have hok2 : Ok6 (cli b) := okf_cli hgb.1
  have h6t : tell c inj b = true → el z 0 = 6 := fun ht => by
    unfold tell at ht
    simp only [Bool.and_eq_true, beq_iff_eq] at ht
    rw [← b0]
    exact ht.1.2
  have hstr : sfd g1.ss (el b 19) = none ∨ (el z 0 = 6 ∧ ∃ hd s' h', sfd g1.ss (el b 19) = some (hd, s', true, h') ∧ 0 ≤ s' ∧ s' < 4294967296) := by
    rcases hU with ⟨_, _, _, q⟩ | ⟨q1, hd, s', h', _, _, q2, q3, _⟩
    · exact .inl q
    · exact .inr ⟨h6t q1, hd, s', h', q2, q3⟩
  have hzu3 : 0 ≤ el zu 3 ∧ el zu 3 ≤ 4294967295 := by
    rcases u1.2.2.2 with h | h
    · exact h.2.1
    · have := h.2.1
      omega
  obtain ⟨A, fl, want, hAF⟩ : ∃ A fl want : Int, (el z 0 = 6 ∧ fl = 16 ∧ A = md (el zu 3 + ((Du.length : Int) + if el z 5 / 2 % 2 = 1 then 1 else 0)) ∧ want = md (el z 3 + ((D.length : Int) + if el z 5 / 2 % 2 = 1 then 1 else 0))) ∨ (el z 0 = 17 ∧ fl = 0 ∧ A = 0 ∧ want = 0) := by
    rcases hz.2.2.2 with h | h
    · exact ⟨_, 16, _, .inl ⟨h.1, rfl, rfl, rfl⟩⟩
    · exact ⟨0, 0, 0, .inr ⟨h.1, rfl, rfl, rfl⟩⟩
  have hzA : Okg [el zu 0, el b 21, el b 19, 0, A, fl, 0] data.length := by
    refine ⟨hb21, hb19, hdl, ?_⟩
    rcases hAF with ⟨q1, rfl, rfl, rfl⟩ | ⟨q1, rfl, rfl, rfl⟩
    · have := md_in (el zu 3 + ((Du.length : Int) + if el z 5 / 2 % 2 = 1 then 1 else 0))
      exact .inl ⟨u3.trans q1, ⟨(by decide : (0 : Int) ≤ 0), (by decide : (0 : Int) ≤ 4294967295)⟩, ⟨this.1, by show md _ ≤ _; omega⟩, ⟨(by decide : (0 : Int) ≤ 16), (by decide : (16 : Int) ≤ 31)⟩, ⟨(by decide : (0 : Int) ≤ 0), (by decide : (0 : Int) ≤ 65535)⟩⟩
    · exact .inr ⟨u3.trans q1, rfl, rfl, rfl, rfl⟩
  have hf64 : up 255 64 = true := by decide
  obtain ⟨k2, N2, E2, hP, hE⟩ := pk4_bundle (D := data) hux hnear hf64 hzA
  obtain ⟨r1, r2⟩ := answer_core hsb hig hb hf64 (by decide : (2 : Int) ≤ 64) hzA (u3.trans b0.symm) rfl rfl (hstr.imp id fun ⟨q1, hd, s', h', q2, _⟩ => ⟨u3.trans q1, hd, s', h', q2⟩)
  have hI4 := in4_gh hig (p4o (el b 20) (el c 18) 64 [el zu 0, el b 21, el b 19, 0, A, fl, 0] data)
  rw [r1, r2] at hI4
  obtain ⟨v1, v2⟩ := dn_okg (ss := g1.ss) (p := el b 19) hzA (hstr.imp id fun ⟨q1, q⟩ => ⟨u3.trans q1, q⟩)
  have hf := (okf_ports hgb.1)
  have hz8 : Okg (zft (DN g1.ss (el b 19) [el zu 0, el b 21, el b 19, 0, A, fl, 0]) (el b 18) (el b 9)) data.length := zft_ok v1 hf.2 hf.1
  have hf63 : up 255 (64 - 1) = true := by decide
  obtain ⟨N6, E6, hD6, hS6⟩ := dec6_p6o (t := 64 - 1) hok1 hok2 hf63 hz8
  refine ⟨el b 20, A, fl, want, el (DN g1.ss (el b 19) [el zu 0, el b 21, el b 19, 0, A, fl, 0]) 4, k2, N, N2, N6, E4, E2, E6, zft zu (el b 19) (el b 21), Du, p4o (el b 20) (el c 18) 64 [el zu 0, el b 21, el b 19, 0, A, fl, 0] data, p6o (dst b) (cli b) (64 - 1) (zft (DN g1.ss (el b 19) [el zu 0, el b 21, el b 19, 0, A, fl, 0]) (el b 18) (el b 9)) data, dst b, cli b, zft (DN g1.ss (el b 19) [el zu 0, el b 21, el b 19, 0, A, fl, 0]) (el b 18) (el b 9), ⟨u3, u4, hzu3.1, hzu3.2, u1.2.2.1⟩, hAF, ?_, ⟨bd', bc', b18, b9, rfl, p4o_len⟩, hD4, hS4, hP, hE, fun w G O W b' l k hG r e1 e2 => ?_, hD6, hS6⟩
  · rcases hAF with ⟨q1, rfl, rfl, rfl⟩ | ⟨q1, rfl, rfl, rfl⟩
    · obtain ⟨f1, f2⟩ := up_far hU hz7 q1 (el b 21) (el b 19) rfl rfl rfl
      rw [show el zu 0 = 6 from u3.trans q1]
      refine ⟨f1, ?_, ?_⟩
      · have := md_in (el z 3 + ((D.length : Int) + if el z 5 / 2 % 2 = 1 then 1 else 0))
        exact this
      · rcases f2 with f2 | ⟨f2, f3, f4⟩
        · exact .inl f2
        · refine .inr ⟨?_, ?_, f3, f4⟩
          · unfold tell at f2
            simp only [Bool.and_eq_true] at f2
            exact f2.1.1
          · unfold tell at f2
            simp only [Bool.and_eq_true] at f2
            have e1 := (eqz_iff _ _).1 f2.2
            have e2 := (eqz_iff _ _).1 bd'
            exact eqz_of fun j hj => (e2 j hj).symm.trans (e1 j hj)
    · have hn0 : sfd g1.ss (el b 19) = none := by
        rcases hstr with q | q
        · exact q
        · have := q.1
          omega
      have e : DN g1.ss (el b 19) [el zu 0, el b 21, el b 19, 0, 0, 0, 0] = [el zu 0, el b 21, el b 19, 0, 0, 0, 0] := by unfold DN; rw [hn0]
      rw [e]
      exact ⟨⟨(by decide : (0 : Int) ≤ 0), (by decide : (0 : Int) < 4294967296)⟩, ⟨(by decide : (0 : Int) ≤ 0), (by decide : (0 : Int) < 4294967296)⟩, .inl rfl⟩
  · refine (hI4 w G O W b' l k hG r e1 e2).mono ?_
    rintro e w' ⟨q1, q2⟩
    exact ⟨q1, _, q2⟩
end Go.Proofs.YtkhahbghmdccaaaGreat
