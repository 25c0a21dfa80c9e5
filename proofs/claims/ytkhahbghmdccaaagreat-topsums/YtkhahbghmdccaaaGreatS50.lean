/- Who asks is answered: of numbers and bytes alone. GateBack: what it is told of what went on, and of the answer. GateBack, walked. What is said at a gate (gangplanktop.Said): as cells, in blocks, in rows. -/
import Derived.Test.YtkhahbghmdccaaaGreatS48
import Derived.Test.YtkhahbghmdccaaaGreatS49
import Derived.Below
import Derived.OpenShut
import Derived.Test.YtkhahbghmdccaaaGreatProg
import Derived.WalkKit
import Derived.LaidEql
import Derived.BigQuiet
import Derived.Laws.AppendOwnNone
import Derived.Laws.MakeOwn
import Derived.Deep.RegionLaw
import Derived.Lib.Bytes
import Derived.Deep.MidRow
import Derived.Laws.ResultCell
import Derived.Deep.CutBlock
import Derived.Deep.QuietTactic
import Derived.OwnWalk
import Derived.Deep.RegionHeld3
import Derived.Deep.DrawnRows
import Derived.Laws.StructEq
import Derived.Maps.AppendAt
import Derived.Maps.RangeWalk
import Derived.Stop.Asserts
import Derived.RowKitTokens
import Derived.Test.YtkhahbghmdccaaaGreatShelf
import Derived.Shelf.Abstract
import Derived.Lib.SliceRun
import Derived.Lib.AppendZerosOnto
import Derived.Lib.AppendZeros
import Derived.Laws.CopyOwn
import Derived.RangeFuncNested
import Derived.RangeFuncBound
import Derived.RangeFuncCalls
import Derived.RangeFuncLeaves
import Derived.RangeFuncFrom
import Derived.Shelf.RegionOpen
import Derived.OwnWalkIn
import Derived.TacticsInMore
import Derived.LoopNIn
import Derived.LoopIn
import Derived.Deep.RegionWith
import Derived.ArgAppend
import Derived.Lib.SlBytesConst
import Derived.Lib.AppendStr
import Derived.Deep.Slices
import Derived.ChangeArms
import Derived.WideShapes
import Derived.Deep.Fields
import Derived.ChangeSlices
import Derived.RowKit
import Derived.Test.YtkhahbghmdccaaaGreatS22
import Derived.Test.YtkhahbghmdccaaaGreatS35
namespace Go.Proofs.YtkhahbghmdccaaaGreat
open Go.RowKit
set_option linter.unusedVariables false
theorem port_inj {bs : List (List Int)} (h : bs.Pairwise (fun a b => el a 19 < el b 19)) {x y : List Int} (hx : x ∈ bs) (hy : y ∈ bs) (e : el x 19 = el y 19) : x = y := by
  obtain ⟨i, hi, rfl⟩ := List.getElem_of_mem hx
  obtain ⟨j, hj, rfl⟩ := List.getElem_of_mem hy
  have hp := List.pairwise_iff_getElem.1 h
  rcases (by omega : i = j ∨ i < j ∨ j < i) with rfl | hl | hl
  · rfl
  · have := hp i j hi hj hl
    omega
  · have := hp j i hj hi hl
    omega
theorem sfd_sup (p : Int) (st : List Int × Int × Bool × Bool) : ∀ {ss : List (Int × List Int × Int × Bool × Bool)} {st0 : List Int × Int × Bool × Bool}, (p, st0) ∈ ss → sfd (sup p st ss) p = some st
  | [], _, h => absurd h (by simp)
  | x :: r, st0, h => by
    by_cases e : x.1 = p
    · have : sup p st (x :: r) = (x.1, st) :: sup p st r := by
        unfold sup
        rw [List.map_cons, if_pos e]
      rw [this]
      unfold sfd
      rw [List.find?_cons_of_pos (by simpa using e)]
      rfl
    · have : sup p st (x :: r) = x :: sup p st r := by
        unfold sup
        rw [List.map_cons, if_neg e]
      rw [this]
      have hr : (p, st0) ∈ r := by
        rcases List.mem_cons.1 h with h | h
        · exact absurd (by rw [← h]) e
        · exact h
      have ih := sfd_sup p st hr
      unfold sfd at ih ⊢
      rw [List.find?_cons_of_neg (by simpa using e)]
      exact ih
theorem stf_in (g : GS) (b : List Int) : (el b 19, (stf g b).2) ∈ (stf g b).1 := by
  unfold stf
  split
  · rename_i st hs
    exact sfd_some hs
  · exact List.mem_cons_self ..
def UP (c : List Int) (inj : Bool) (b z D zu Du : List Int) (ss : List (Int × List Int × Int × Bool × Bool)) : Prop :=
  (tell c inj b = false ∧ zu = z ∧ Du = D ∧ sfd ss (el b 19) = none) ∨
  (tell c inj b = true ∧ ∃ hd s' h', hd.length = 52 ∧ SM.Oct hd ∧ sfd ss (el b 19) = some (hd, s', true, h') ∧ (0 ≤ s' ∧ s' < 4294967296) ∧
    ((el z 5 / 2 % 2 = 1 ∧ D = [] ∧ zu = zq z (md (el z 3 - 52)) ∧ Du = [] ∧ s' = md (el z 3 + 1)) ∨
     (¬ el z 5 / 2 % 2 = 1 ∧ el z 3 = s' ∧ zu = zq z (md (el z 3 - 52)) ∧ Du = hd ++ D ∧ 52 + D.length ≤ 300) ∨
     (¬ el z 5 / 2 % 2 = 1 ∧ zu = z ∧ Du = D)))
theorem guo_core {c : List Int} {inj : Bool} {g : GS} (h : SBI c inj g) (hi : IG g) {b z D b2 : List Int} {now : Int} (hb2 : b2 ∈ g.bs) (e : b2 = b ∨ b2 = usd b now) (h0 : (guo g b z D).1 = 0) :
    UP c inj b z D (guo g b z D).2.1 (guo g b z D).2.2.1 (guo g b z D).2.2.2.ss := by
  have hb3 : el b2 19 = el b 19 ∧ tell c inj b2 = tell c inj b ∧ hb b2 = hb b ∧ okf b2 = okf b := by
    rcases e with rfl | rfl
    · exact ⟨rfl, rfl, rfl, rfl⟩
    · exact ⟨rfl, rfl, rfl, rfl⟩
  have hbi := hi.1.2.2.1
  cases ht : tell c inj b
  · left
    have hg : guo g b z D = (0, z, D, g) := by
      unfold guo
      rw [h.1, h.2.1]
      exact if_neg (by rw [ht]; decide)
    rw [hg]
    refine ⟨ht, rfl, rfl, ?_⟩
    cases hs : sfd g.ss (el b 19) with
    | none => rfl
    | some st =>
      obtain ⟨b3, q1, q2, q3, _⟩ := h.2.2 _ (sfd_some hs)
      have := port_inj hbi.2.1 q1 hb2 (q2.trans hb3.1.symm)
      rw [this, hb3.2.1, ht] at q3
      cases q3
  · right
    refine ⟨ht, ?_⟩
    have hhd : (stf g b).2.1.length = 52 ∧ SM.Oct (stf g b).2.1 := by
      unfold stf
      split
      · rename_i st hs
        obtain ⟨b3, q1, q2, q3, q4⟩ := h.2.2 _ (sfd_some hs)
        have q5 : st.1 = hb b3 := q4
        rw [q5]
        exact ⟨hb_len _, hb_oct (hbi.1 _ q1).1⟩
      · exact ⟨hb_len _, hb_oct (by rw [← hb3.2.2.2]; exact (hbi.1 _ hb2).1)⟩
    have hsi := guo_si hi.2.1 b z D
    have hin := stf_in g b
    have hg : guo g b z D = ((upo (stf g b).2.1 (stf g b).2.2.1 (stf g b).2.2.2.1 (stf g b).2.2.2.2 z D).1, (upo (stf g b).2.1 (stf g b).2.2.1 (stf g b).2.2.2.1 (stf g b).2.2.2.2 z D).2.1, (upo (stf g b).2.1 (stf g b).2.2.1 (stf g b).2.2.2.1 (stf g b).2.2.2.2 z D).2.2.1, g.str (sup (el b 19) ((stf g b).2.1, (upo (stf g b).2.1 (stf g b).2.2.1 (stf g b).2.2.2.1 (stf g b).2.2.2.2 z D).2.2.2) (stf g b).1)) := by
      unfold guo
      exact if_pos (by rw [h.1, h.2.1]; exact ht)
    rw [hg] at h0 hsi ⊢
    generalize (stf g b).1 = ss1 at h0 hsi hin ⊢
    generalize (stf g b).2 = st at h0 hsi hin hhd ⊢
    obtain ⟨hd, s, bb, hh⟩ := st
    dsimp only at h0 hsi hin hhd ⊢
    have hf := sfd_sup (el b 19) (hd, (upo hd s bb hh z D).2.2.2) hin
    have hss : (g.str (sup (el b 19) (hd, (upo hd s bb hh z D).2.2.2) ss1)).ss = sup (el b 19) (hd, (upo hd s bb hh z D).2.2.2) ss1 := rfl
    rw [hss]
    have hv := hsi _ (sfd_some hf)
    unfold upo at h0 hf hv ⊢
    split at h0
    · rename_i hc; exact absurd h0 hc
    · rename_i hc
      rw [if_neg hc] at hf hv ⊢
      split at h0
      · rename_i hsy
        rw [if_pos hsy] at hf hv ⊢
        unfold bgo at h0 hf hv ⊢
        split at h0
        · cases h0
        · rename_i hl
          rw [if_neg hl] at hf hv ⊢
          refine ⟨hd, _, _, hhd.1, hhd.2, hf, hv.2, .inl ⟨hsy, List.length_eq_zero_iff.1 (by omega), ?_, rfl, rfl⟩⟩
          rw [hhd.1]
          rfl
      · rename_i hsy
        rw [if_neg hsy] at hf hv ⊢
        split at h0
        · cases h0
        · rename_i hb
          rw [if_neg hb] at hf hv ⊢
          have hbt : bb = true := by cases bb; exact absurd rfl hb; rfl
          subst hbt
          split at h0
          · rename_i hq
            rw [if_pos hq] at hf hv ⊢
            unfold fio at h0 hf hv ⊢
            split at h0
            · cases h0
            · rename_i hl
              rw [if_neg hl] at hf hv ⊢
              refine ⟨hd, _, _, hhd.1, hhd.2, hf, hv.2, .inr (.inl ⟨hsy, hq.1, ?_, rfl, by have := hhd.1; omega⟩)⟩
              rw [hhd.1]
              rfl
          · rename_i hq
            rw [if_neg hq] at hf hv ⊢
            exact ⟨hd, _, _, hhd.1, hhd.2, hf, hv.2, .inr (.inr ⟨hsy, rfl, rfl⟩)⟩
def DN (ss : List (Int × List Int × Int × Bool × Bool)) (p : Int) (z : List Int) : List Int := match sfd ss p with
  | none => z
  | some st => if el z 5 / 16 % 2 = 0 then z else if ah (el z 4) st.2.1 = true then za z st.2.1 else z
theorem cf_okg {z : List Int} {n : Nat} (h : Okg z n) (h6 : el z 0 = 6) : cf z n = 0 := by
  unfold cf
  rw [(sf_iff z n).2 h, if_neg (fun q => q.2 h6)]
theorem gdo_core {g : GS} {b z D : List Int} (hz : Okg z D.length) (h : sfd g.ss (el b 19) = none ∨ (el z 0 = 6 ∧ ∃ hd s' h', sfd g.ss (el b 19) = some (hd, s', true, h'))) : (gdo g b z D).1 = 0 ∧ (gdo g b z D).2.1 = DN g.ss (el b 19) z ∧ (gdo g b z D).2.2.1 = D := by
  rcases h with h | ⟨h6, hd, s', h', h⟩
  · unfold gdo DN
    rw [h]
    exact ⟨rfl, rfl, rfl⟩
  · unfold gdo DN
    rw [h]
    dsimp only
    unfold dno
    rw [if_neg (fun q => q (cf_okg hz h6)), if_neg (by simp)]
    split
    · exact ⟨rfl, rfl, rfl⟩
    · split
      · exact ⟨rfl, rfl, rfl⟩
      · exact ⟨rfl, rfl, rfl⟩
theorem answer_core {c : List Int} {inj : Bool} {g : GS} (h : SBI c inj g) (hi : IG g) {b z D : List Int} (hb : b ∈ g.bs) {ttl : Int} (ht : up 255 ttl = true) (h2 : 2 ≤ ttl) (hz : Okg z D.length) (z0 : el z 0 = el b 0) (z1 : el z 1 = el b 21) (z2 : el z 2 = el b 19)
    (hs : sfd g.ss (el b 19) = none ∨ (el z 0 = 6 ∧ ∃ hd s' h', sfd g.ss (el b 19) = some (hd, s', true, h'))) :
    (g4 g (p4o (el b 20) (el c 18) ttl z D)).1 = 0 ∧ (g4 g (p4o (el b 20) (el c 18) ttl z D)).2.1 = p6o (dst b) (cli b) (ttl - 1) (zft (DN g.ss (el b 19) (z7 z)) (el b 18) (el b 9)) D := by
  obtain ⟨k, hk, rfl⟩ := List.getElem_of_mem hb
  have hG := hi.1.2.2.1.1 _ hb
  have hfr : up 4294967295 (el g.bs[k] 20) = true := by
    have h : fr (el g.bs[k] 20) = true := hG.2.2.2.1
    unfold fr at h
    rw [Bool.and_eq_true, decide_eq_true_eq, decide_eq_true_eq] at h
    exact decide_eq_true h
  have hnear : up 4294967295 (el c 18) = true := by
    have := hi.2.2.2.2.2.1
    rw [h.1] at this
    exact this
  rw [g4_p4o g hfr hnear ht hz, if_neg (by omega)]
  have hnk : nrk g.bs (el z 0) (el (z7 z) 2) = some k := by
    unfold nrk
    have : prt g.bs (el (z7 z) 2) = some k := by
      have := prt_self hi.1.2.2.1.2.1 hk
      rw [getD_at hk] at this
      rw [show el (z7 z) 2 = el g.bs[k] 19 from z2]
      exact this
    rw [this]
    dsimp only
    rw [getD_at hk, if_pos z0.symm]
  unfold g4s
  rw [hnk]
  dsimp only
  rw [getD_at hk, if_pos ⟨by rw [h.1], rfl, z1⟩]
  have hz7 : Okg (z7 z) D.length := hz
  obtain ⟨q1, q2, q3⟩ := gdo_core (g := g.tab g.ws g.ts (g.bs.set k (usd g.bs[k] g.now))) (b := g.bs[k]) hz7 hs
  unfold g4b
  rw [if_neg (fun q => q q1), q2, q3]
  exact ⟨rfl, rfl⟩
theorem ask_core {c : List Int} {inj : Bool} {g : GS} (h : SBI c inj g) (hi : IG g) {s d z D : List Int} {hop : Int} (hs : Ok6 s) (hd : Ok6 d) (ht : up 255 hop = true) (hz : Okg z D.length) (ho : SM.Oct D) (h0 : (g6 g (p6o s d hop z D)).1 = 0) :
    ∃ b ∈ (g6 g (p6o s d hop z D)).2.2.bs, ∃ zu Du, 2 ≤ hop ∧ flC b = flC (fl5 (el z 0) s (el z 1) d (el z 2)) ∧ (g6 g (p6o s d hop z D)).2.1 = p4o (el c 18) (el b 20) (hop - 1) (zft zu (el b 19) (el b 21)) Du ∧ UP c inj b (z7 z) D zu Du (g6 g (p6o s d hop z D)).2.2.ss ∧ IG (g6 g (p6o s d hop z D)).2.2 ∧ SBI c inj (g6 g (p6o s d hop z D)).2.2 := by
  have hig := (g6_ig hi (p6o_oct hs hd ht hz ho)).1
  have hsb := g6_sbi h (p6o s d hop z D)
  rw [g6_p6o g hs hd ht hz] at h0 hig hsb ⊢
  by_cases h2 : hop < 2
  · rw [if_pos h2] at h0
    cases h0
  rw [if_neg h2] at h0 hig hsb ⊢
  have hf : okf (fl5 (el z 0) s (el z 1) d (el z 2)) = true := fl5_ok hz hs hd
  have hfd : Ok6 (dst (fl5 (el z 0) s (el z 1) d (el z 2))) := fl5_dst hd
  generalize fl5 (el z 0) s (el z 1) d (el z 2) = f at h0 hig hsb hf hfd ⊢
  unfold g6s at h0 hig hsb ⊢
  split at h0
  · cases h0
  rename_i h3
  rw [if_neg h3] at hig hsb ⊢
  split at h0
  · cases h0
  rename_i h4
  rw [if_neg h4] at hig hsb ⊢
  split at h0
  · rename_i h5; exact absurd h0 h5
  rename_i h5
  rw [if_neg h5] at hig hsb ⊢
  have hb0 := bdo_sbi h f (el (z7 z) 5) (whr g f (ldo g.c f).2)
  have hbs := bdo_sm g f (el (z7 z) 5) (whr g f (ldo g.c f).2)
  have hbt := bdo_ti (flags := el (z7 z) 5) hi.1 hf (fun h0 => whr_ok hi.2.2 hf hfd (Classical.not_not.1 h3) h0)
  have hbss := (bdo_ss g f (el (z7 z) 5) (whr g f (ldo g.c f).2)).1
  have hbi : IG (bdo g f (el (z7 z) 5) (whr g f (ldo g.c f).2)).2.2 := ⟨hbt, by have := hi.2.1; unfold SI at this ⊢; rw [hbss]; exact this, hbs.ci hi.2.2⟩
  obtain ⟨b2, q1, q2, q3⟩ := bdo_in (Classical.not_not.1 h5)
  generalize bdo g f (el (z7 z) 5) (whr g f (ldo g.c f).2) = R at h0 hig hsb hb0 hbs hbt hbi q1 q2 q3 ⊢
  obtain ⟨r1, b, g2⟩ := R
  dsimp only at h0 hig hsb hb0 hbs hbt hbi q1 q2 q3 ⊢
  unfold g6b at h0 hig hsb ⊢
  split at h0
  · rename_i h6; exact absurd h0 h6
  rename_i h6
  rw [if_neg h6] at hig hsb ⊢
  have hU := guo_core hb0 hbi (b := b) (z := z7 z) (D := D) q1 q2 (Classical.not_not.1 h6)
  have hbs2 := (guo_c g2 b (z7 z) D).2.2
  have hc2 : g2.c = c := hb0.1
  refine ⟨b2, ?_, (guo g2 b (z7 z) D).2.1, (guo g2 b (z7 z) D).2.2.1, by omega, ?_, ?_, ?_, hig, hsb⟩
  · show b2 ∈ (guo g2 b (z7 z) D).2.2.2.bs
    rw [hbs2]
    exact q1
  · rcases q2 with rfl | rfl
    · exact q3
    · exact q3
  · show p4o (el g2.c 18) _ _ _ _ = _
    rw [hc2]
    rcases q2 with rfl | rfl
    · rfl
    · rfl
  · rcases q2 with rfl | rfl
    · exact hU
    · exact hU
end Go.Proofs.YtkhahbghmdccaaaGreat

namespace Go.Proofs.YtkhahbghmdccaaaGreat
open Go.RowKit
set_option linter.unusedVariables false
theorem upx_ok {c : List Int} {inj : Bool} {b z D zu Du : List Int} {ss : List (Int × List Int × Int × Bool × Bool)} (h : UP c inj b z D zu Du ss) (hz : Okg z D.length) (ho : SM.Oct D) (h0 : el b 0 = el z 0) : Okg zu Du.length ∧ SM.Oct Du ∧ el zu 0 = el z 0 ∧ el zu 5 = el z 5 := by
  rcases h with ⟨_, rfl, rfl, _⟩ | ⟨ht, hd, s', h', q1, q2, _, _, h⟩
  · exact ⟨hz, ho, rfl, rfl⟩
  · have h6 : el z 0 = 6 := by
      unfold tell at ht
      simp only [Bool.and_eq_true, beq_iff_eq] at ht
      rw [← h0]
      exact ht.1.2
    have hz6 : (0 ≤ el z 3 ∧ el z 3 ≤ 4294967295) ∧ (0 ≤ el z 4 ∧ el z 4 ≤ 4294967295) ∧ (0 ≤ el z 5 ∧ el z 5 ≤ 31) ∧ (0 ≤ el z 6 ∧ el z 6 ≤ 65535) := by
      rcases hz.2.2.2 with h | h
      · exact h.2
      · have := h.1
        omega
    have hm := md_in (el z 3 - 52)
    have hq : ∀ n, n ≤ 300 → Okg (zq z (md (el z 3 - 52))) n := fun n hn => ⟨hz.1, hz.2.1, hn, .inl ⟨h6, ⟨hm.1, by show md (el z 3 - 52) ≤ _; omega⟩, hz6.2.1, hz6.2.2.1, hz6.2.2.2⟩⟩
    rcases h with ⟨_, rfl, rfl, rfl, _⟩ | ⟨_, _, rfl, rfl, h300⟩ | ⟨_, rfl, rfl⟩
    · exact ⟨hq _ (by decide), ho, rfl, rfl⟩
    · exact ⟨hq _ (by rw [List.length_append]; omega), SM.oct_append _ _ q2 ho, rfl, rfl⟩
    · exact ⟨hz, ho, rfl, rfl⟩
theorem dn_okg {ss : List (Int × List Int × Int × Bool × Bool)} {p : Int} {z : List Int} {n : Nat} (hz : Okg z n) (hs : sfd ss p = none ∨ (el z 0 = 6 ∧ ∃ hd s' h', sfd ss p = some (hd, s', true, h') ∧ 0 ≤ s' ∧ s' < 4294967296)) : Okg (DN ss p z) n ∧ el (DN ss p z) 0 = el z 0 := by
  unfold DN
  rcases hs with hs | ⟨h6, hd, s', h', hs, r1, r2⟩
  · rw [hs]
    exact ⟨hz, rfl⟩
  · rw [hs]
    dsimp only
    split
    · exact ⟨hz, rfl⟩
    · split
      · rcases hz.2.2.2 with h | h
        · exact ⟨⟨hz.1, hz.2.1, hz.2.2.1, .inl ⟨h6, h.2.1, ⟨r1, by show s' ≤ _; omega⟩, h.2.2.2⟩⟩, rfl⟩
        · have := h.1
          omega
      · exact ⟨hz, rfl⟩
theorem wd_in {n : Int} (h : wd n = true) : 0 ≤ n ∧ n ≤ 65535 := by
  unfold wd at h
  rw [Bool.and_eq_true, decide_eq_true_eq, decide_eq_true_eq] at h
  exact h
theorem okf_ports {f : List Int} (h : okf f = true) : (0 ≤ el f 9 ∧ el f 9 ≤ 65535) ∧ (0 ≤ el f 18 ∧ el f 18 ≤ 65535) := by
  unfold okf at h
  simp only [Bool.and_eq_true] at h
  exact ⟨wd_in h.1.2, wd_in h.2⟩
theorem eqz_of {a b : List Int} (h : ∀ j, j < 8 → el a j = el b j) : eqz a b = true := (eqz_iff a b).2 h
end Go.Proofs.YtkhahbghmdccaaaGreat

namespace Go.Proofs.YtkhahbghmdccaaaGreat
open Go.RowKit
set_option linter.unusedVariables false
def GB (wB : World) (c : List Int) (inj : Bool) (G : Nat) (g : GS) (O : Nat → Prop) (W : World) : Prop := IG g ∧ SBI c inj g ∧ GH wB G g O W
theorem GB.kept {wB : World} {c : List Int} {inj : Bool} {G : Nat} {g : GS} {O : Nat → Prop} {W W' : World} (h : GB wB c inj G g O W) (hb : Below W.heap.size W W') : GB wB c inj G g O W' := ⟨h.1, h.2.1, h.2.2.kept hb⟩
attribute [local go_sem ↓] stl_shut gload_shut hload_shut cload_shut sbu_shut
end Go.Proofs.YtkhahbghmdccaaaGreat

namespace Go.Proofs.YtkhahbghmdccaaaGreat
open Go.ChangeShapes Go.WideShapes Go.Deep Go.RowKit
set_option linter.unusedVariables false
def sdC (z : List Int) (a : Option Addr) (len cap : Nat) (s d : List Int) (hop tk : Int) : Array Value := #[.int .i64 (el z 0), .int .i64 (el z 1), .int .i64 (el z 2), .int .i64 (el z 3), .int .i64 (el z 4), .int .i64 (el z 5), .int .i64 (el z 6), .slice a len cap, .int .i64 (el s 0), .int .i64 (el s 1), .int .i64 (el s 2), .int .i64 (el s 3), .int .i64 (el s 4), .int .i64 (el s 5), .int .i64 (el s 6), .int .i64 (el s 7), .int .i64 (el d 0), .int .i64 (el d 1), .int .i64 (el d 2), .int .i64 (el d 3), .int .i64 (el d 4), .int .i64 (el d 5), .int .i64 (el d 6), .int .i64 (el d 7), .int .i64 hop, .int .i64 tk]
def SdIn (B : Nat) (z : List Int) (a : Option Addr) (len cap : Nat) (s d : List Int) (hop tk : Int) (w : World) : Prop := w.heap[B]? = some (.cells (sdC z a len cap s d hop tk) 77 (0, 0))
theorem SdIn.lt {B : Nat} {z : List Int} {a : Option Addr} {len cap : Nat} {s d : List Int} {hop tk : Int} {w : World} (p : SdIn B z a len cap s d hop tk w) : B < w.heap.size := (Array.getElem?_eq_some_iff.1 p).1
theorem SdIn.kept {B : Nat} {z : List Int} {a : Option Addr} {len cap : Nat} {s d : List Int} {hop tk : Int} {w : World} {w' : World} (p : SdIn B z a len cap s d hop tk w) (hb : Below w.heap.size w w') : SdIn B z a len cap s d hop tk w' := (hb.block B p.lt).trans p
theorem SdIn.cellAt {B : Nat} {z : List Int} {a : Option Addr} {len cap : Nat} {s d : List Int} {hop tk : Int} {w : World} (p : SdIn B z a len cap s d hop tk w) (j : Nat) : w.cell? ⟨B, j, none⟩ = (sdC z a len cap s d hop tk)[j]? := cell_of_row w B j _ _ _ p
theorem SdIn.gl {B : Nat} {z : List Int} {a : Option Addr} {len cap : Nat} {s d : List Int} {hop tk : Int} {w : World} (p : SdIn B z a len cap s d hop tk w) : (gload (.pointer (some ⟨B, 0, none⟩))).run Tryz.prog w = .ok (.agg (sgC z a len cap)) w :=
  run_loadAt_mid w B 0 30 _ _ (fun j v hv => by
    have hj : j < 8 := (List.getElem?_eq_some_iff.1 hv).1
    rw [p.cellAt]
    rcases (by omega : j = 0 ∨ j = 1 ∨ j = 2 ∨ j = 3 ∨ j = 4 ∨ j = 5 ∨ j = 6 ∨ j = 7) with rfl | rfl | rfl | rfl | rfl | rfl | rfl | rfl <;> exact hv) Tryz.underlying30 rfl (by kernel_rfl)
theorem SdIn.hs {B : Nat} {z : List Int} {a : Option Addr} {len cap : Nat} {s d : List Int} {hop tk : Int} {w : World} (p : SdIn B z a len cap s d hop tk w) : (hload (.pointer (some ⟨B, 8, none⟩))).run Tryz.prog w = .ok (.agg (sixC s)) w :=
  run_loadAt_mid w B 8 23 _ _ (fun j v hv => by
    have hj : j < 8 := (List.getElem?_eq_some_iff.1 hv).1
    rw [p.cellAt]
    rcases (by omega : j = 0 ∨ j = 1 ∨ j = 2 ∨ j = 3 ∨ j = 4 ∨ j = 5 ∨ j = 6 ∨ j = 7) with rfl | rfl | rfl | rfl | rfl | rfl | rfl | rfl <;> exact hv) Tryz.underlying23 rfl (by kernel_rfl)
theorem SdIn.hd {B : Nat} {z : List Int} {a : Option Addr} {len cap : Nat} {s d : List Int} {hop tk : Int} {w : World} (p : SdIn B z a len cap s d hop tk w) : (hload (.pointer (some ⟨B, 16, none⟩))).run Tryz.prog w = .ok (.agg (sixC d)) w :=
  run_loadAt_mid w B 16 23 _ _ (fun j v hv => by
    have hj : j < 8 := (List.getElem?_eq_some_iff.1 hv).1
    rw [p.cellAt]
    rcases (by omega : j = 0 ∨ j = 1 ∨ j = 2 ∨ j = 3 ∨ j = 4 ∨ j = 5 ∨ j = 6 ∨ j = 7) with rfl | rfl | rfl | rfl | rfl | rfl | rfl | rfl <;> exact hv) Tryz.underlying23 rfl (by kernel_rfl)
theorem SdIn.hop {B : Nat} {z : List Int} {a : Option Addr} {len cap : Nat} {s d : List Int} {hop tk : Int} {w : World} (p : SdIn B z a len cap s d hop tk w) : w.cell? ⟨B, 24, none⟩ = some (.int .i64 hop) := p.cellAt 24
theorem SdIn.tk {B : Nat} {z : List Int} {a : Option Addr} {len cap : Nat} {s d : List Int} {hop tk : Int} {w : World} (p : SdIn B z a len cap s d hop tk w) : w.cell? ⟨B, 25, none⟩ = some (.int .i64 tk) := p.cellAt 25
def zero26 : Array Value := #[.int .i64 0, .int .i64 0, .int .i64 0, .int .i64 0, .int .i64 0, .int .i64 0, .int .i64 0, .slice none 0 0, .int .i64 0, .int .i64 0, .int .i64 0, .int .i64 0, .int .i64 0, .int .i64 0, .int .i64 0, .int .i64 0, .int .i64 0, .int .i64 0, .int .i64 0, .int .i64 0, .int .i64 0, .int .i64 0, .int .i64 0, .int .i64 0, .int .i64 0, .int .i64 0]
theorem said_new (w : World) : SdIn w.heap.size [] none 0 0 [] [] 0 0 (w.alloc (.cells zero26 77)) := heap_alloc_new w _
theorem SdIn.stored {B : Nat} {z0 : List Int} {a0 : Option Addr} {len0 cap0 : Nat} {s0 d0 : List Int} {hop0 tk0 : Int} {w : World} (p : SdIn B z0 a0 len0 cap0 s0 d0 hop0 tk0 w) (z : List Int) (a : Option Addr) (len cap : Nat) (s d : List Int) (hop tk : Int) : SdIn B z a len cap s d hop tk (w.setRow B (sdC z a len cap s d hop tk)) := setRow_heap w B _ _ _ (0, 0) p
theorem at_storesd {ops : Array Oper} {rest : List Oper} {o : Oper} {f : Act} {w : World} {Q : Exit → Act → World → Prop} (hgd : o.guard = none) (x y : Operand) (ho : o.op = .store 77 x y)
    {B : Nat} {z0 : List Int} {a0 : Option Addr} {len0 cap0 : Nat} {s0 d0 : List Int} {hop0 tk0 : Int} (hx : f.eval x = .pointer (some ⟨B, 0, none⟩)) (p : SdIn B z0 a0 len0 cap0 s0 d0 hop0 tk0 w) (z : List Int) (a : Option Addr) (len cap : Nat) (s d : List Int) (hop tk : Int) (hy : f.eval y = .agg (sdC z a len cap s d hop tk))
    (hK : ∀ w', SdIn B z a len cap s d hop tk w' → Only B w w' → wpList Tryz.prog ops Q rest (f.put o.dst undef) w') : wpList Tryz.prog ops Q (o :: rest) f w :=
  wpList_store_row hgd 77 x y ho B _ hx hy 77 _ p (by kernel_rfl) rfl (by unfold sdC; simp [Value.oneCell']) (hK _ (p.stored z a len cap s d hop tk) (only_setRow _ _ _))
theorem at_loadsd {ops : Array Oper} {rest : List Oper} {o : Oper} {f : Act} {w : World} {Q : Exit → Act → World → Prop} (hgd : o.guard = none) (y : Operand) (ho : o.op = .load 77 y)
    {g off : Nat} {z : List Int} {a : Option Addr} {len cap : Nat} {s d : List Int} {hop tk : Int} (hy : f.eval y = .pointer (some ⟨g, off, none⟩)) (p : w.rangeAt g off (sdC z a len cap s d hop tk).toList)
    (hK : wpList Tryz.prog ops Q rest (f.put o.dst (.agg (sdC z a len cap s d hop tk))) w) : wpList Tryz.prog ops Q (o :: rest) f w :=
  wpList_load_mid hgd 77 y ho g off hy (sdC z a len cap s d hop tk).toList _ p Tryz.underlying77 rfl (by kernel_rfl) hK
theorem Tryz.saidF : (Tryz.prog.underlying 77).map (fun d => match d with | .struct fs => fs.toList.map (fun f => (f.offset, f.type)) | _ => []) = some [(0, 30), (8, 23), (16, 23), (24, 3), (25, 3)] := by kernel_rfl
set_option maxRecDepth 100000 in
theorem said_of {H : Type} {enc : TypeId × Value → H} {W : World} {base : Nat} {held : Bool} {n : Nat} {cs : List Value} {y : DataW H × List MemPlace} (h : DataW.trod enc Tryz.prog W base (fun _ => true) held n 77 cs = some y) :
    ∃ z a len cap D s d hop tk, cs = (sdC z a len cap s d hop tk).toList ∧ Row8 W a len cap D ∧ I64 tk := by
  have hu := Tryz.underlying77
  obtain ⟨xs, m, _, _, hl, hx, hall⟩ := DataW.trod_struct hu h
  have hF := Tryz.saidF
  rw [hu] at hF
  replace hF := Option.some.inj hF
  have c1 : Tryz.prog.cellsOf 3 = 1 := by kernel_rfl
  have c8 : Tryz.prog.cellsOf 30 = 8 := by kernel_rfl
  have c6 : Tryz.prog.cellsOf 23 = 8 := by kernel_rfl
  have c26 : Tryz.prog.cellsOf 77 = 26 := by kernel_rfl
  rw [c26] at hl
  obtain ⟨y2, g2⟩ := sg_field (k := 0) hF hx hall _ _ rfl
  obtain ⟨y3, g3⟩ := sg_field (k := 1) hF hx hall _ _ rfl
  obtain ⟨y4, g4⟩ := sg_field (k := 2) hF hx hall _ _ rfl
  obtain ⟨y5, g5⟩ := sg_field (k := 3) hF hx hall _ _ rfl
  obtain ⟨y6, g6⟩ := sg_field (k := 4) hF hx hall _ _ rfl
  rw [c1] at g5 g6
  rw [c8] at g2
  rw [c6] at g3 g4
  obtain ⟨x5, e5, _, _⟩ := DataW.trod_int Tryz.underlying3 g5
  obtain ⟨x6, e6, _, w6⟩ := DataW.trod_int Tryz.underlying3 g6
  obtain ⟨z, a, len, cap, D, e2, hD⟩ := seg_of g2
  have hs := nums_six g3
  have hd := nums_six g4
  obtain ⟨s0, es0, _⟩ := hs.2 0 (by omega)
  rw [part_at (by omega)] at es0
  obtain ⟨s1, es1, _⟩ := hs.2 1 (by omega)
  rw [part_at (by omega)] at es1
  obtain ⟨s2, es2, _⟩ := hs.2 2 (by omega)
  rw [part_at (by omega)] at es2
  obtain ⟨s3, es3, _⟩ := hs.2 3 (by omega)
  rw [part_at (by omega)] at es3
  obtain ⟨s4, es4, _⟩ := hs.2 4 (by omega)
  rw [part_at (by omega)] at es4
  obtain ⟨s5, es5, _⟩ := hs.2 5 (by omega)
  rw [part_at (by omega)] at es5
  obtain ⟨s6, es6, _⟩ := hs.2 6 (by omega)
  rw [part_at (by omega)] at es6
  obtain ⟨s7, es7, _⟩ := hs.2 7 (by omega)
  rw [part_at (by omega)] at es7
  obtain ⟨d0, ed0, _⟩ := hd.2 0 (by omega)
  rw [part_at (by omega)] at ed0
  obtain ⟨d1, ed1, _⟩ := hd.2 1 (by omega)
  rw [part_at (by omega)] at ed1
  obtain ⟨d2, ed2, _⟩ := hd.2 2 (by omega)
  rw [part_at (by omega)] at ed2
  obtain ⟨d3, ed3, _⟩ := hd.2 3 (by omega)
  rw [part_at (by omega)] at ed3
  obtain ⟨d4, ed4, _⟩ := hd.2 4 (by omega)
  rw [part_at (by omega)] at ed4
  obtain ⟨d5, ed5, _⟩ := hd.2 5 (by omega)
  rw [part_at (by omega)] at ed5
  obtain ⟨d6, ed6, _⟩ := hd.2 6 (by omega)
  rw [part_at (by omega)] at ed6
  obtain ⟨d7, ed7, _⟩ := hd.2 7 (by omega)
  rw [part_at (by omega)] at ed7
  refine ⟨z, a, len, cap, D, [s0, s1, s2, s3, s4, s5, s6, s7], [d0, d1, d2, d3, d4, d5, d6, d7], x5, x6, List.ext_getElem? fun i => ?_, hD, i64_of w6⟩
  by_cases hi : i < 26
  · rcases (by omega : i = 0 ∨ i = 1 ∨ i = 2 ∨ i = 3 ∨ i = 4 ∨ i = 5 ∨ i = 6 ∨ i = 7 ∨ i = 8 ∨ i = 9 ∨ i = 10 ∨ i = 11 ∨ i = 12 ∨ i = 13 ∨ i = 14 ∨ i = 15 ∨ i = 16 ∨ i = 17 ∨ i = 18 ∨ i = 19 ∨ i = 20 ∨ i = 21 ∨ i = 22 ∨ i = 23 ∨ i = 24 ∨ i = 25) with rfl | rfl | rfl | rfl | rfl | rfl | rfl | rfl | rfl | rfl | rfl | rfl | rfl | rfl | rfl | rfl | rfl | rfl | rfl | rfl | rfl | rfl | rfl | rfl | rfl | rfl
    · have := congrArg (fun l => l[0]?) e2; rw [part_at (by omega)] at this; exact this
    · have := congrArg (fun l => l[1]?) e2; rw [part_at (by omega)] at this; exact this
    · have := congrArg (fun l => l[2]?) e2; rw [part_at (by omega)] at this; exact this
    · have := congrArg (fun l => l[3]?) e2; rw [part_at (by omega)] at this; exact this
    · have := congrArg (fun l => l[4]?) e2; rw [part_at (by omega)] at this; exact this
    · have := congrArg (fun l => l[5]?) e2; rw [part_at (by omega)] at this; exact this
    · have := congrArg (fun l => l[6]?) e2; rw [part_at (by omega)] at this; exact this
    · have := congrArg (fun l => l[7]?) e2; rw [part_at (by omega)] at this; exact this
    · exact es0
    · exact es1
    · exact es2
    · exact es3
    · exact es4
    · exact es5
    · exact es6
    · exact es7
    · exact ed0
    · exact ed1
    · exact ed2
    · exact ed3
    · exact ed4
    · exact ed5
    · exact ed6
    · exact ed7
    · exact sg_one e5
    · exact sg_one e6
  · rw [List.getElem?_eq_none (by omega), List.getElem?_eq_none (by show 26 ≤ i; omega)]
def Sds (a : Option Addr) (n : Nat) (w : World) : Prop := 0 < n → ∃ g off, a = some ⟨g, off, none⟩ ∧ ∀ k, k < n → ∃ z x l c D s d hop tk, w.rangeAt g (off + k * 26) (sdC z x l c s d hop tk).toList ∧ Row8 w x l c D ∧ I64 tk
theorem Sds.below {a : Option Addr} {n : Nat} {w w' : World} (h : Sds a n w) (hb : Below w.heap.size w w') : Sds a n w' := by
  intro hp
  obtain ⟨g, off, e, hx⟩ := h hp
  refine ⟨g, off, e, fun k hk => ?_⟩
  obtain ⟨z, x, l, c, D, s, d, hop, tk, h1, h2, h3⟩ := hx k hk
  exact ⟨z, x, l, c, D, s, d, hop, tk, rng_below h1 hb, h2.below hb, h3⟩
set_option maxRecDepth 100000 in
theorem saids_open {H : Type} {enc : TypeId × Value → H} {W : World} {base : Nat} {held : Bool} {b0 : Nat} {v : Value} {x : DataW H} {p : List MemPlace} (h : Value.okWide Tryz.prog W .any b0 75 v) (ht : DataW.Trod enc Tryz.prog W base (fun _ => true) held 75 v x p) :
    ∃ a len cap, v = .slice a len cap ∧ len ≤ maxLen ∧ Sds a len W := by
  obtain ⟨a, len, cap, rfl⟩ := okWide_slice Tryz.underlying75 h
  obtain ⟨fuel, hf⟩ := ht
  rcases open_slice Tryz.underlying75 hf with ⟨hcs, _⟩ | ⟨a', len', cap', m, n, D, Pl, hcs, hb, hl, hm, hmm, _, hx⟩
  · simp [Value.cells] at hcs
    obtain ⟨rfl, rfl, rfl⟩ := hcs
    exact ⟨none, 0, 0, rfl, Nat.zero_le _, fun h => absurd h (by simp)⟩
  · simp [Value.cells] at hcs
    obtain ⟨rfl, rfl, rfl⟩ := hcs
    have c26 : Tryz.prog.cellsOf 77 = 26 := by kernel_rfl
    rw [c26] at hx
    have hlm : len ≤ m := by rw [hmm]; split <;> omega
    refine ⟨some a', len, cap, rfl, by omega, fun hp => ?_⟩
    obtain ⟨b, off, spot⟩ := a'
    have hspot : spot = none := by
      obtain ⟨cs', h1, h2⟩ := hx 0 (by omega)
      obtain ⟨z, x, l, c, D, s, d, hop, tk, rfl, _⟩ := said_of h2
      obtain ⟨_, _, hcell⟩ := World.cells?_some h1
      have := hcell 0 (by omega)
      rw [add_add] at this
      have g0 : W.cell? ((⟨b, off, spot⟩ : Addr).add (0 * 26 + 0)) = some (.int .i64 (el z 0)) := by
        rw [this]
        rfl
      simpa [Addr.add] using World.cell?_spot g0
    subst hspot
    refine ⟨b, off, rfl, fun k hk => ?_⟩
    obtain ⟨cs', h1, h2⟩ := hx k (by omega)
    obtain ⟨z, x, l, c, D, s, d, hop, tk, rfl, hD, hi⟩ := said_of h2
    refine ⟨z, x, l, c, D, s, d, hop, tk, fun j v hv => ?_, hD, hi⟩
    obtain ⟨_, _, hcell⟩ := World.cells?_some h1
    have hj : j < 26 := (List.getElem?_eq_some_iff.1 hv).1
    have := hcell j hj
    rw [add_add, add_pl, hv] at this
    rw [show off + k * 26 + j = off + (k * 26 + j) by omega]
    exact this
end Go.Proofs.YtkhahbghmdccaaaGreat
