/- Package gate: a server's packet that is one, by a contract. Package gate: a server's packet, whatever it is, by a contract. Package gate: Now, Binds, and the closure by which a server is looked for, by contracts. Package gate: the server of a number, by contracts. Package gate: the server of a number, where it lies. Package gate: a server's mark set, in memory. Package gate: Probe and Drain, by contracts. -/
import Derived.Test.YtkhahbghmdccaaaGreatDoorR30
import Derived.Below
import Derived.OpenShut
import Derived.Test.YtkhahbghmdccaaaGreatDoorProg
import Derived.WalkKit
import Derived.LaidEql
import Derived.BigQuiet
import Derived.Laws.AppendOwnNone
import Derived.Laws.MakeOwn
import Derived.Deep.RegionLaw
import Derived.Lib.Bytes
import Derived.Deep.MidRow
import Derived.Laws.ResultCell
import Derived.Deep.CutBlock
import Derived.Deep.QuietTactic
import Derived.OwnWalk
import Derived.Deep.RegionHeld3
import Derived.Deep.DrawnRows
import Derived.Laws.StructEq
import Derived.Maps.AppendAt
import Derived.Maps.RangeWalk
import Derived.Stop.Asserts
import Derived.RowKitTokens
import Derived.Test.YtkhahbghmdccaaaGreatDoorShelf
import Derived.Shelf.Abstract
import Derived.Lib.SliceRun
import Derived.Lib.AppendZerosOnto
import Derived.Lib.AppendZeros
import Derived.Laws.CopyOwn
import Derived.RangeFuncNested
import Derived.RangeFuncBound
import Derived.RangeFuncCalls
import Derived.RangeFuncLeaves
import Derived.RangeFuncFrom
import Derived.Shelf.RegionOpen
import Derived.OwnWalkIn
import Derived.TacticsInMore
import Derived.LoopNIn
import Derived.LoopIn
import Derived.Deep.RegionWith
import Derived.ArgAppend
import Derived.Lib.SlBytesConst
import Derived.Lib.AppendStr
import Derived.Test.YtkhahbghmdccaaaGreatDoorR21
import Derived.Test.YtkhahbghmdccaaaGreatDoorR28
namespace Go.Proofs.YtkhahbghmdccaaaGreatDoor
open Go.RowKit
theorem bys_pos (s d : List Int) (t k : Int) (l : List Int) : 0 < (V6.bys s d t k l).length := by
  unfold V6.bys
  rw [List.length_append]
  exact Nat.lt_of_lt_of_le (by decide : 0 < 40) (Nat.le_add_right _ _)
def IK4 (w : World) (P Q : Nat) (s d t k i : Int) (a1 : Option Addr) (l1 c1 : Nat) (z : List Int) (a2 : Option Addr) (l2 c2 : Nat) (D : List Int) (W : World) : Prop := V4.PkIn P s d t k i a1 l1 c1 W ∧ SgIn Q z a2 l2 c2 W ∧ Row8 W a2 l2 c2 D ∧ w.heap.size ≤ P ∧ w.heap.size ≤ Q ∧ Below w.heap.size w W
theorem IK4.kept {w : World} {P Q : Nat} {s d t k i : Int} {a1 : Option Addr} {l1 c1 : Nat} {z : List Int} {a2 : Option Addr} {l2 c2 : Nat} {D : List Int} {W W' : World} (h : IK4 w P Q s d t k i a1 l1 c1 z a2 l2 c2 D W) (hb : Below W.heap.size W W') : IK4 w P Q s d t k i a1 l1 c1 z a2 l2 c2 D W' := ⟨h.1.kept hb, h.2.1.kept hb, h.2.2.1.below hb, h.2.2.2.1, h.2.2.2.2.1, bt h.2.2.2.2.2 hb⟩
theorem IK4.only {w : World} {P Q : Nat} {s d t k i : Int} {a1 : Option Addr} {l1 c1 : Nat} {z : List Int} {a2 : Option Addr} {l2 c2 : Nat} {D : List Int} {W W' : World} (h : IK4 w P Q s d t k i a1 l1 c1 z a2 l2 c2 D W) {B : Nat} {x : List Int} (p : BdIn B x W) (on : Only B W W') (hP : P < B) (hQ : Q < B) : IK4 w P Q s d t k i a1 l1 c1 z a2 l2 c2 D W' :=
  ⟨(on.2.2.2.2 _ (by omega)).trans h.1, (on.2.2.2.2 _ (by omega)).trans h.2.1, h.2.2.1.pastn p.no8 on, h.2.2.2.1, h.2.2.2.2.1, on.below h.2.2.2.2.2 (by have := h.2.2.2.1; omega)⟩
theorem BdIn.hc {B : Nat} {x : List Int} {w : World} (p : BdIn B x w) : (hload (.pointer (some ⟨B, 1, none⟩))).run Tryz.prog w = .ok (.agg (sixC (cli x))) w :=
  run_loadAt_mid w B 1 23 _ _ (fun j v hv => by
    have hj : j < 8 := (List.getElem?_eq_some_iff.1 hv).1
    rw [p.cell (1 + j) (by omega)]
    rcases (by omega : j = 0 ∨ j = 1 ∨ j = 2 ∨ j = 3 ∨ j = 4 ∨ j = 5 ∨ j = 6 ∨ j = 7) with rfl | rfl | rfl | rfl | rfl | rfl | rfl | rfl <;> exact hv) Tryz.underlying23 rfl (by kernel_rfl)
theorem BdIn.hd {B : Nat} {x : List Int} {w : World} (p : BdIn B x w) : (hload (.pointer (some ⟨B, 10, none⟩))).run Tryz.prog w = .ok (.agg (sixC (dst x))) w :=
  run_loadAt_mid w B 10 23 _ _ (fun j v hv => by
    have hj : j < 8 := (List.getElem?_eq_some_iff.1 hv).1
    rw [p.cell (10 + j) (by omega)]
    rcases (by omega : j = 0 ∨ j = 1 ∨ j = 2 ∨ j = 3 ∨ j = 4 ∨ j = 5 ∨ j = 6 ∨ j = 7) with rfl | rfl | rfl | rfl | rfl | rfl | rfl | rfl <;> exact hv) Tryz.underlying23 rfl (by kernel_rfl)
attribute [local go_sem ↓] gload_shut bload_shut bstore_shut hload_shut
set_option maxRecDepth 100000 in
set_option maxHeartbeats 2000000 in
theorem in4_go (G : Nat) (a : Option Addr) (cap : Nat) (tv : Value) (S : Nat) (Ot : Nat → Prop) (β : Int → Nat) (g : GS) (b : Option Addr) (len bcap : Nat) (s d ttl k i : Int) (z D : List Int) (w : World) (h : GC G a cap tv S Ot β g w) (hi : TI g) (hs : SI g) (hz : Okg z D.length) (hh : 2 ≤ ttl ∧ ttl ≤ 255)
    (hO : Calls Tryz.prog 75 #[.slice b len bcap] w fun e w' => ∃ a1 l1 c1 a2 l2 c2, e = .returned (.tuple #[V4.pk s d ttl k i a1 l1 c1, .agg (sgC z a2 l2 c2), .nilIface]) ∧ Row8 w' a2 l2 c2 D ∧ Below w.heap.size w w') (R : Int × List Int × GS) (hR : R = g4s g s d ttl k z D) :
    Calls Tryz.prog 24 #[.pointer (some ⟨G, 0, none⟩), .slice b len bcap] w fun e w' => ∃ a2 l2 c2, e = .returned (.tuple #[.slice a2 l2 c2, ev R.1]) ∧ (Row8 w' a2 l2 c2 R.2.1 ∧ l2 ≤ c2 ∧ c2 ≤ maxLen) ∧ GQ w G a cap tv S Ot β g R.2.2 w' := by
  obtain ⟨x, e0, hNr, hne⟩ : ∃ x e0, Nr g.bs k (el z 2) x e0 ∧ ((e0 = 4 ∧ R = (4, [], g)) ∨ (e0 = 0 ∧ ∃ j, j < g.bs.length ∧ x = g.bs.getD j [] ∧ prt g.bs (el z 2) = some j ∧ R = if d = el g.c 18 ∧ s = el x 20 ∧ el z 1 = el x 21 then g4b (g.tab g.ws g.ts (g.bs.set j (usd x g.now))) x ttl z D else (4, [], g))) := by
    unfold g4s at hR
    cases hn : nrk g.bs k (el z 2) with
    | none => rw [hn] at hR; exact ⟨[], 4, nrk_none hn, .inl ⟨rfl, hR⟩⟩
    | some j => rw [hn] at hR; exact ⟨_, 0, (nrk_some hn).1, .inr ⟨rfl, j, (prt_lt (nrk_some hn).2).1, rfl, (nrk_some hn).2, hR⟩⟩
  have HO := hide hO
  have H0 := hide h
  have HNe := hide hne
  have HZ := hide (fun W => R4.start W)
  have HZb := hide (fun W => bd_zero W)
  unfold V4.zero4 zero7 at HZ
  unfold zero23 at HZb
  have HNr := hide (fun W (hW : Below w.heap.size w W) => tb_jr.1 tv g.m g.ws g.ts g.bs Ot W k (el z 2) x e0 hi.1 hi.2.1 hi.2.2.1 (h.kept hW).2.2.1 hNr)
  have Hi := hide hi
  have Hs := hide hs
  have Hz := hide hz
  have Hh := hide hh
  clear hO hR hne hNr h hi hs hz hh
  go_enter Tryz.func24, Tryz.ntmps24
  go_upto_region 4 with (first
    | (go_at_call 75; refine HO.out.mono ?_; rintro e w1 ⟨a1, l1, c1, a2, l2, c2, rfl, r1, hb1⟩; have HR := hide (HZ.out w1); have HB := hide hb1; have R1 := hide r1; clear hb1 r1)
    | (refine V4.at_store rfl (.tmp 6) (.tmp 14) rfl rfl HR.out.1 s d ttl k i a1 l1 c1 rfl ?_; intro w2 p2 on2; have HS := hide (on2.sg HR.out.2.1 (by omega)); have HB2 := hide (on2.below HR.out.2.2 (Nat.le_refl _)); have P2 := hide p2; clear p2 on2)
    | (refine at_store rfl (.tmp 7) (.tmp 15) rfl rfl HS.out z a2 l2 c2 rfl ?_; intro w3 p3 on3; have HB3 := hide (on3.below HB2.out (Nat.le_succ _)); have P3 := hide (show V4.PkIn _ _ _ _ _ _ _ _ _ w3 from (on3.2.2.2.2 _ (by omega)).trans P2.out); have S3 := hide p3; clear p3 on3 P2 HS HB2))
  clear HO HZ HR
  have HI := hide (show IK4 w w1.heap.size (w1.heap.size + 1) s d ttl k i a1 l1 c1 z a2 l2 c2 D w3 from ⟨P3.out, S3.out, R1.out.below HB3.out, HB.out.size, Nat.le_succ_of_le HB.out.size, bt HB.out HB3.out⟩)
  clear HB HB3 R1 P3 S3
  generalize w1.heap.size = P at HI ⊢
  have HR := hide (show ∀ W', IK4 w P (P + 1) s d ttl k i a1 l1 c1 z a2 l2 c2 D W' → W'.cell? ⟨G, 23, none⟩ = some tv ∧ W'.cell? ⟨P, 3, none⟩ = some (.int .i64 k) ∧ W'.cell? ⟨P + 1, 2, none⟩ = some (.int .i64 (el z 2)) from fun W' h => ⟨(H0.out.kept h.2.2.2.2.2).1.table, h.1.all.2.2.2.1, h.2.1.c2⟩)
  have HD := hide (show P + 1 < w3.heap.size from HI.out.2.1.lt)
  have HK1 := hide (HI.out.kept (show Below w3.heap.size w3 w3.drew from (Below.refl _ _).drew))
  have HKb := hide (HI.out.kept (show Below w3.heap.size w3 (w3.alloc (.cells zero23 75)).drew from (al_below w3 _).drew))
  have HIb := hide (show BdIn w3.heap.size [] (w3.alloc (.cells zero23 75)).drew from bd_zero w3)
  unfold zero23 at HKb HIb
  obtain ⟨q1, q2, q3⟩ := HR.out _ HK1.out
  go_cut [8, 9] from 8 to 31 (fun u v wx => u = ev e0 ∧ (∃ Db, v = .pointer (some ⟨Db, 0, none⟩) ∧ Hid (BdIn Db x wx ∧ P + 1 < Db)) ∧ Hid (IK4 w P (P + 1) s d ttl k i a1 l1 c1 z a2 l2 c2 D wx))
  case first =>
    go_region_held3 (fun W' => W'.cell? ⟨G, 23, none⟩ = some tv ∧ W'.cell? ⟨P, 3, none⟩ = some (.int .i64 k) ∧ W'.cell? ⟨P + 1, 2, none⟩ = some (.int .i64 (el z 2)))
      (first
        | exact HR.out _ HK1.out
        | exact HR.out _ HKb.out
        | exact HR.out _ HK4.out
        | exact HR.out _ HK5.out
        | exact HR.out _ HK6.out
        | go_keep)
      (first
        | (go_at_call 76; refine (HNr.out _ HK1.out.2.2.2.2.2).mono ?_; rintro e w4 ⟨rfl, hb4⟩; have HK4 := hide (HK1.out.kept hb4); have HK5 := hide (HK4.out.kept (al_below w4 (.cells zero23 75))); obtain ⟨w6, k6, p6, on6⟩ := (HZb.out w4).held x; have hD4 := hide (show P + 1 < w4.heap.size from HK4.out.2.1.lt); unfold zero23 at HK5; have HK6 := hide (HK5.out.only (HZb.out w4) on6 (by have := hD4.out; omega) hD4.out); have HF := hide (And.intro p6 hD4.out); clear hb4 q1 q2 q3 p6 on6; obtain ⟨q1, q2, q3⟩ := HR.out _ HK4.out)
        | (go_at_call 76; refine (HNr.out _ HKb.out.2.2.2.2.2).mono ?_; rintro e w4 ⟨rfl, hb4⟩; have HK4 := hide (HKb.out.kept hb4); have HK5 := HK4; obtain ⟨w6, k6, p6, on6⟩ := (HIb.out.kept hb4).held x; have HK6 := hide (HK4.out.only (HIb.out.kept hb4) on6 (by have := HD.out; omega) HD.out); have HF := hide (And.intro p6 HD.out); clear hb4 q1 q2 q3 p6 on6; obtain ⟨q1, q2, q3⟩ := HR.out _ HK4.out))
    all_goals
      go_wp2_with fail
      go_meet
      exact ⟨rfl, ⟨_, rfl, HF⟩, HK6⟩
  case rest =>
    obtain ⟨rfl, ⟨Db, rfl, HF⟩, HQ⟩ := hcut
    clear HK1 HKb HIb q1 q2 q3 HI HD HNr HR HZb
    have HN := hide (H0.out.kept HQ.out.2.2.2.2.2)
    have q1 := HQ.out.1.all.2.1
    have q2 := HN.out.1.near
    have q3 := HQ.out.1.all.1
    have q4 := HF.out.1.cell 20 (by omega)
    have q5 := HQ.out.2.1.c1
    have q6 := HF.out.1.cell 21 (by omega)
    have HQn := hide (fun n => HQ.out.kept (W' := World.drewN wc n) ⟨rfl, rfl, rfl, Nat.le_refl _, fun _ _ => rfl⟩)
    have HFn := hide (fun n => (show BdIn Db x (World.drewN wc n) ∧ P + 1 < Db from ⟨HF.out.1.kept ⟨rfl, rfl, rfl, Nat.le_refl _, fun _ _ => rfl⟩, HF.out.2⟩))
    clear HQ HF HN
    rcases HNe.out with ⟨rfl, hRR⟩ | ⟨rfl, j, hj, hx, hpj, hRR⟩
    case inl =>
      have HRR := hide hRR
      clear HNe hRR Hi Hs Hz Hh
      rw [ev_err (by decide)]
      unfold err
      go_upto_region 5 with fail
      go_quiet (fail)
      clear q1 q2 q3 q4 q5 q6
      generalize hW : World.drewN _ _ = W1
      have HQ : Hid (IK4 w P (P + 1) s d ttl k i a1 l1 c1 z a2 l2 c2 D W1) := by rw [← hW]; exact HQn.out _
      clear hW HQn HFn
      go_wp2
      go_ret2
      rw [HRR.out]
      exact ⟨none, 0, 0, rfl, ⟨gt_no _, Nat.le_refl _, by unfold maxLen; omega⟩, H0.out.still HQ.out.2.2.2.2.2⟩
    case inr =>
      have HRR := hide hRR
      have HJ := hide (And.intro hj (And.intro hx hpj))
      clear HNe hRR hj hx hpj
      rw [ev_nil]
      by_cases hm : d = el g.c 18 ∧ s = el x 20 ∧ el z 1 = el x 21
      case neg =>
        have HR4 := hide (show R = (4, [], g) by rw [HRR.out, if_neg hm])
        have hcase : ¬ d = el g.c 18 ∨ (d = el g.c 18 ∧ ¬ s = el x 20) ∨ (d = el g.c 18 ∧ s = el x 20 ∧ ¬ el z 1 = el x 21) := by omega
        clear HRR Hi Hs Hz Hh HJ hm
        rcases hcase with hm1 | ⟨hm1, hm2⟩ | ⟨hm1, hm2, hm3⟩
        all_goals
          go_upto_region 5 with fail
          go_quiet (fail)
          clear q1 q2 q3 q4 q5 q6
          generalize hW : World.drewN _ _ = W1
          have HQ : Hid (IK4 w P (P + 1) s d ttl k i a1 l1 c1 z a2 l2 c2 D W1) := by rw [← hW]; exact HQn.out _
          clear hW HQn HFn
          go_wp2
          go_ret2
          rw [HR4.out]
          exact ⟨none, 0, 0, rfl, ⟨gt_no _, Nat.le_refl _, by unfold maxLen; omega⟩, H0.out.still HQ.out.2.2.2.2.2⟩
      case pos =>
        have HR4 := hide (show R = g4b (g.tab g.ws g.ts (g.bs.set j (usd x g.now))) x ttl z D by rw [HRR.out, if_pos hm])
        obtain ⟨hm1, hm2, hm3⟩ := hm
        clear HRR
        go_upto_region 5 with fail
        go_quiet (fail)
        clear q1 q2 q3 q4 q5 q6 hm1 hm2 hm3
        generalize hW : World.drewN _ _ = W1
        have HQ : Hid (IK4 w P (P + 1) s d ttl k i a1 l1 c1 z a2 l2 c2 D W1) := by rw [← hW]; exact HQn.out _
        have HF : Hid (BdIn Db x W1 ∧ P + 1 < Db) := by rw [← hW]; exact HFn.out _
        clear hW HQn HFn
        go_upto_region 7 with fail
        have HQ1 := hide (HQ.out.kept (show Below W1.heap.size W1 W1.drew from (Below.refl _ _).drew))
        have HF1 := hide (show BdIn Db x W1.drew from HF.out.1)
        have HD := hide (show P + 1 < Db ∧ Db < W1.heap.size from ⟨HF.out.2, HF.out.1.lt⟩)
        have HG1 := hide (H0.out.kept HQ1.out.2.2.2.2.2)
        have HUs := hide (show Calls Tryz.prog 77 #[tv, .int .i64 (el x 19), .int .i64 g.now] W1.drew fun e w' => e = .returned .nilIface ∧ TQ TB tv g.m g.ws g.ts (g.bs.set j (usd x g.now)) Ot W1.drew w' from by
          obtain ⟨t1, t2, t3, t4, t5⟩ := Hi.out
          obtain ⟨hj, hx, hpj⟩ := HJ.out
          have hmem : g.bs.getD j [] ∈ g.bs := by
            rw [List.getD_eq_getElem?_getD, List.getElem?_eq_getElem hj]
            exact List.getElem_mem hj
          have := tb_ji.2.2.2.2.1 tv g.m g.ws g.ts g.bs Ot W1.drew (el (g.bs.getD j []) 19) g.now 0 _ t1 t2 t3 HG1.out.2.2.1 (.inr (.inr (.inr ⟨j, prt_self t3.2.1 hj, t4, by have := t5 _ hmem; omega, rfl, rfl⟩)))
          rw [ev_nil, ← hx] at this
          exact this)
        have q1 := HG1.out.1.table
        have q2 := HF1.out.cell 19 (by omega)
        have q3 := HG1.out.1.now
        clear HF HQ
        go_region_held3 (fun W' => W'.cell? ⟨G, 23, none⟩ = some tv ∧ W'.cell? ⟨Db, 19, none⟩ = some (.int .i64 (el x 19)) ∧ W'.cell? ⟨G, 25, none⟩ = some (.int .i64 g.now))
          (first
            | exact ⟨HG1.out.1.table, HF1.out.cell 19 (by omega), HG1.out.1.now⟩
            | exact S5.out
            | go_keep)
          (first
            | (go_at_call 77; refine HUs.out.mono ?_; rintro e w5 ⟨rfl, tq⟩; obtain ⟨Ot', g5, k5, s5⟩ := HG1.out.tab tq; have HG5 := hide g5; have HK5 := hide k5; have HS5 := hide s5; have HF5 := hide (show BdIn Db x w5 from (k5.1.2.2.2.2 Db HF1.out.lt (fun ho => by have := H0.out.lt ho; have := HQ1.out.2.2.2.1; have := HD.out; omega)).trans HF1.out); have S5 := hide (show w5.cell? ⟨G, 23, none⟩ = some tv ∧ w5.cell? ⟨Db, 19, none⟩ = some (.int .i64 (el x 19)) ∧ w5.cell? ⟨G, 25, none⟩ = some (.int .i64 g.now) from ⟨g5.1.table, HF5.out.cell 19 (by omega), g5.1.now⟩); clear q1 q2 q3 g5 k5 s5 tq; obtain ⟨q1, q2, q3⟩ := S5.out))
        all_goals
          clear q1 q2 q3
          have hlow : ∀ k, GO G a Ot (SO S β g.ss) k → k < w.heap.size := fun k hk => H0.out.lt hk
          have hN : ∀ k, GO G a Ot' (SO S β g.ss) k → GO G a Ot (SO S β g.ss) k ∨ W1.drew.heap.size ≤ k := by
            rintro k (h1 | h1 | h1 | h1)
            · exact .inl (.inl h1)
            · exact .inl (.inr (.inl h1))
            · exact (HS5.out k h1).imp (fun h => .inr (.inr (.inl h))) id
            · exact .inl (.inr (.inr (.inr h1)))
          have hne : ∀ k, w.heap.size ≤ k → k < W1.drew.heap.size → ¬ GO G a Ot' (SO S β g.ss) k := fun k h1 h2 h3 => by
            rcases hN k h3 with h4 | h4
            · have := hlow k h4; omega
            · omega
          have hne0 : ∀ k, w.heap.size ≤ k → ¬ GO G a Ot (SO S β g.ss) k := fun k h1 h2 => by have := hlow k h2; omega
          obtain ⟨i1, i2, i3, i4, i5, i6⟩ := HQ1.out
          have hwd : w.heap.size ≤ Db := by have := HD.out; omega
          have HN8 := hide (show ¬ GO G a Ot' (SO S β g.ss) P ∧ ¬ GO G a Ot' (SO S β g.ss) (P + 1) ∧ ¬ GO G a Ot' (SO S β g.ss) Db from ⟨hne P i4 i1.lt, hne _ i5 i2.lt, hne Db hwd HF1.out.lt⟩)
          have HI8 := hide (show V4.PkIn P s d ttl k i a1 l1 c1 w5 ∧ SgIn (P + 1) z a2 l2 c2 w5 ∧ Row8 w5 a2 l2 c2 D from ⟨(HK5.out.1.2.2.2.2 P i1.lt (hne0 P i4)).trans i1, (HK5.out.1.2.2.2.2 (P + 1) i2.lt (hne0 _ i5)).trans i2, HK5.out.2 _ _ _ _ i3⟩)
          have HK8 := hide (show Kpt (GO G a Ot (SO S β g.ss)) w w5 from (Kpt.of i6).trans HK5.out (fun _ hk => .inl hk))
          have HO8 := hide (show ∀ k, GO G a Ot' (SO S β g.ss) k → GO G a Ot (SO S β g.ss) k ∨ w.heap.size ≤ k from fun k hk => (hN k hk).imp id (fun h => Nat.le_trans i6.size h))
          have HP8 := hide (show P + 1 < w5.heap.size ∧ P ≠ P + 1 ∧ Db < w5.heap.size ∧ P + 1 < Db ∧ w.heap.size ≤ P from ⟨HI8.out.2.1.lt, by omega, HF5.out.lt, HD.out.1, i4⟩)
          have HGb := hide (show okf x = true ∧ Ok6 (dst x) ∧ Ok6 (cli x) ∧ (0 ≤ el x 18 ∧ el x 18 ≤ 65535) ∧ (0 ≤ el x 9 ∧ el x 9 ≤ 65535) from by
            obtain ⟨hj, hx, _⟩ := HJ.out
            have hmem : x ∈ g.bs := by
              rw [hx, List.getD_eq_getElem?_getD, List.getElem?_eq_getElem hj]
              exact List.getElem_mem hj
            have hf := (Hi.out.2.2.1.1 _ hmem).1
            have hf' := hf
            unfold okf at hf'
            simp only [Bool.and_eq_true] at hf'
            exact ⟨hf, (s6_iff _).1 hf'.1.1.2, (s6_iff _).1 hf'.1.1.1.2, (wd_iff _).1 hf'.2, (wd_iff _).1 hf'.1.2⟩)
          generalize hg' : g.tab g.ws g.ts (g.bs.set j (usd x g.now)) = g' at HG5 HR4
          have HSs := hide (show g'.ss = g.ss from by rw [← hg']; rfl)
          have HSi := hide (show SI g' from by have := Hs.out; unfold SI at this ⊢; rw [HSs.out]; exact this)
          clear hg' hN hne hne0 hlow i1 i2 i3 i4 i5 i6 hwd HQ1 HF1 HG1 HUs S5 HK5 HS5 HD Hi HJ
          rw [← HSs.out] at HN8
          replace HO8 := hide (show ∀ k, GO G a Ot' (SO S β g'.ss) k → GO G a Ot (SO S β g.ss) k ∨ w.heap.size ≤ k from by rw [HSs.out]; exact HO8.out)
          have HUp := hide (fun W (hW : GC G a cap tv S Ot' β g' W) (r : Row8 W a2 l2 c2 D) => gdown_any G a cap tv S Ot' β g' x z a2 l2 c2 D W hW HSi.out r)
          have HUo := hide (fun h0 => gdo_ok (g := g') (b := x) HSi.out Hz.out h0)
          unfold g4b at HR4
          generalize gdo g' x z D = U at HUp HUo HR4
          have x11 := HF5.out.bl
          go_upto_region 11 with (first
            | (refine at_load rfl (.tmp 7) rfl rfl HI8.out.2.1 ?_)
            | (go_at_call 78; refine (HUp.out _ HG5.out HI8.out.2.2).mono ?_; rintro e w9 ⟨a3, l3, c3, rfl, r9, q9⟩; obtain ⟨Ot2, β2, g9, k9, s9⟩ := q9; have HG9 := hide g9; have HS9 := hide s9; have R9 := hide r9; have HK9 := hide (HK8.out.trans k9 HO8.out); have P9 := hide (show V4.PkIn _ _ _ _ _ _ _ _ _ w9 from (k9.1.2.2.2.2 P HI8.out.1.lt HN8.out.1).trans HI8.out.1); have S9 := hide (show SgIn _ _ _ _ _ w9 from (k9.1.2.2.2.2 (P + 1) HI8.out.2.1.lt HN8.out.2.1).trans HI8.out.2.1); have D9 := hide (show BdIn _ _ w9 from (k9.1.2.2.2.2 Db HF5.out.lt HN8.out.2.2).trans HF5.out); clear g9 k9 s9 r9 x11)
            | (refine at_store rfl (.tmp 7) (.tmp 78) rfl rfl S9.out U.2.1 a3 l3 c3 rfl ?_; intro w10 p10 on10; have HN10 := hide (show ¬ GO G a Ot2 (SO S β2 U.2.2.2.ss) (P + 1) from fun hk => by rcases HS9.out _ hk with h1 | h1; exact HN8.out.2.1 h1; have := HP8.out.1; omega); have HG10 := hide (HG9.out.other on10 HN10.out (fun j x => S9.out.no8 j x)); have HK10 := hide (HK9.out.own on10 (by have := HP8.out.2.2.2.2; omega) (fun j x => S9.out.no8 j x)); have R10 := hide (R9.out.past S9.out on10); have P10 := hide (show V4.PkIn _ _ _ _ _ _ _ _ _ w10 from (on10.2.2.2.2 P HP8.out.2.1).trans P9.out); have D10 := hide (show BdIn _ _ w10 from (on10.2.2.2.2 Db (by have := HP8.out; omega)).trans D9.out); have S10 := hide p10; clear p10 on10))
          have HO10 := hide (show ∀ k, GO G a Ot2 (SO S β2 U.2.2.2.ss) k → GO G a Ot (SO S β g.ss) k ∨ w.heap.size ≤ k from fun k hk => by
            rcases HS9.out k hk with h1 | h1
            · exact HO8.out k h1
            · have := HP8.out
              exact .inr (by omega))
          clear HG9 HK9 R9 P9 S9 D9 HI8 HG5 HF5 HK8 HUp
          by_cases hU : U.1 = 0
          case neg =>
            have HR5 := hide (show R = (U.1, [], U.2.2.2) by rw [HR4.out, if_pos hU])
            have HEv := hide (ev_err hU)
            rw [ev_err hU]
            unfold err
            clear HR4 hU HUo HGb Hs Hz Hh
            go_wp2
            go_ret2
            rw [HR5.out]
            exact ⟨none, 0, 0, by rw [HEv.out]; rfl, ⟨gt_no _, Nat.le_refl _, by unfold maxLen; omega⟩, Ot2, β2, HG10.out, HK10.out, HO10.out⟩
          case pos =>
            have HR5 := hide (show R = (0, p6o (dst x) (cli x) (ttl - 1) (zft U.2.1 (el x 18) (el x 9)) U.2.2.1, U.2.2.2) by rw [HR4.out, if_neg (fun h => h hU)])
            have HUk := hide (HUo.out hU)
            rw [hU, ev_nil]
            clear HR4 hU HUo
            have x1 := S10.out.c1
            have x2 := S10.out.c2
            have y1 := S10.out.frz 1
            have y2 := S10.out.frz 2
            have d18 := D10.out.cell 18 (by omega)
            have d9 := D10.out.cell 9 (by omega)
            obtain ⟨p11, on11⟩ := S10.out.set12 (el x 18) (el x 9)
            have HN10 := hide (show ¬ GO G a Ot2 (SO S β2 U.2.2.2.ss) (P + 1) from fun hk => by rcases HS9.out _ hk with h1 | h1; exact HN8.out.2.1 h1; have := HP8.out.1; omega)
            have HG11 := hide (HG10.out.other on11 HN10.out (fun j x => S10.out.no8 j x))
            have HK11 := hide (HK10.out.own on11 (by have := HP8.out.2.2.2.2; omega) (fun j x => S10.out.no8 j x))
            have R11 := hide (R10.out.past S10.out on11)
            have P11 := hide (show V4.PkIn P s d ttl k i a1 l1 c1 _ from (on11.2.2.2.2 P HP8.out.2.1).trans P10.out)
            have D11 := hide (show BdIn Db x _ from (on11.2.2.2.2 Db (by have := HP8.out; omega)).trans D10.out)
            have S11 := hide p11
            clear p11 on11 HG10 HK10 R10 P10 D10 S10
            go_upto_region 13 with fail
            go_region
            clear x1 x2 y1 y2 d18 d9
            generalize (World.setCell _ _ _).setCell _ _ = w11 at HG11 HK11 R11 P11 D11 S11 ⊢
            go_upto_region 14 with fail
            have hb12 : Below w11.heap.size w11 w11.drew := (Below.refl _ _).drew
            replace HG11 := hide (HG11.out.kept hb12)
            replace HK11 := hide (HK11.out.trans (Kpt.of (O := fun _ => False) hb12) (fun _ h => h.elim))
            replace R11 := hide (R11.out.below hb12)
            replace P11 := hide (P11.out.kept hb12)
            replace D11 := hide (D11.out.kept hb12)
            replace S11 := hide (S11.out.kept hb12)
            clear hb12
            generalize w11.drew = w12 at HG11 HK11 R11 P11 D11 S11 ⊢
            have hl3 := R11.out.1
            subst hl3
            have hh := Hh.out
            have HZZ := hide (show Okg (zft U.2.1 (el x 18) (el x 9)) U.2.2.1.length from zft_ok HUk.out.1 HGb.out.2.2.2.1 HGb.out.2.2.2.2)
            have HCl := hide (fun W (r : Row8 W a3 U.2.2.1.length c3 U.2.2.1) => close6_ok (dst x) (cli x) (ttl - 1) (zft U.2.1 (el x 18) (el x 9)) a3 U.2.2.1.length c3 U.2.2.1 W HGb.out.2.1 HGb.out.2.2.1 (decide_eq_true ⟨by omega, by omega⟩) HZZ.out r)
            have HP6 := hide (show p6o (dst x) (cli x) (ttl - 1) (zft U.2.1 (el x 18) (el x 9)) U.2.2.1 = V6.bys (dst x) (cli x) (ttl - 1) (el (zft U.2.1 (el x 18) (el x 9)) 0) (eb (zft U.2.1 (el x 18) (el x 9)) (o6 (dst x) (cli x) (el (zft U.2.1 (el x 18) (el x 9)) 0) ((hn (el (zft U.2.1 (el x 18) (el x 9)) 0) : Nat) + (U.2.2.1.length : Int))) U.2.2.1) from rfl)
            rw [← HP6.out] at HCl
            have HPl := hide (show 0 < (p6o (dst x) (cli x) (ttl - 1) (zft U.2.1 (el x 18) (el x 9)) U.2.2.1).length from bys_pos _ _ _ _ _)
            generalize p6o (dst x) (cli x) (ttl - 1) (zft U.2.1 (el x 18) (el x 9)) U.2.2.1 = Y at HCl HPl HR5
            generalize zft U.2.1 (el x 18) (el x 9) = zz at HCl S11
            have hwr : IntKind.i64.wrap (ttl - 1) = ttl - 1 := by rw [IntKind.wrap_i64]; omega
            clear HP6 HZZ HGb Hs Hz HUk Hh HN10 HN8 HP8 HS9 HO8 HSs HSi
            have q1 := D11.out.hd
            have q2 := D11.out.hc
            have q3 := P11.out.all.2.2.1
            have q5 := S11.out.gl
            go_wp2_with (go_at_call 79; refine (HCl.out _ R11.out).mono ?_; rintro e w13 ⟨v13, rfl, o13, hb13⟩; obtain ⟨g13, c13, rfl, k1, k2, -, -, r13⟩ := o13.form HPl.out; have HB14 := hide hb13; have HF := hide (And.intro r13 (And.intro k1 k2)); clear hb13 o13 r13 k1 k2 q1 q2 q3 q5)
            go_ret2
            rw [HR5.out]
            exact ⟨_, _, _, rfl, HF.out, Ot2, β2, HG11.out.kept HB14.out, HK11.out.trans (Kpt.of (O := fun _ => False) HB14.out) (fun _ h => h.elim), HO10.out⟩
end Go.Proofs.YtkhahbghmdccaaaGreatDoor

namespace Go.Proofs.YtkhahbghmdccaaaGreatDoor
open Go.RowKit
theorem in4_any (G : Nat) (a : Option Addr) (cap : Nat) (tv : Value) (S : Nat) (Ot : Nat → Prop) (β : Int → Nat) (g : GS) (b : Option Addr) (len bcap : Nat) (zs : List Int) (w : World) (h : GC G a cap tv S Ot β g w) (hi : TI g) (hs : SI g) (hr : Row8 w b len bcap zs) (hcl : len ≤ bcap) (hcm : bcap ≤ maxLen) :
    Calls Tryz.prog 24 #[.pointer (some ⟨G, 0, none⟩), .slice b len bcap] w fun e w' => ∃ a2 l2 c2, e = .returned (.tuple #[.slice a2 l2 c2, ev (g4 g zs).1]) ∧ (Row8 w' a2 l2 c2 (g4 g zs).2.1 ∧ l2 ≤ c2 ∧ c2 ≤ maxLen) ∧ GQ w G a cap tv S Ot β g (g4 g zs).2.2 w' := by
  by_cases hG : P4.Good zs
  · by_cases hE : (o4s zs).1 = 0
    · have ho := hr.2.2.1
      have hk := oso_ok hE
      refine in4_go G a cap tv S Ot β g b len bcap (P4.src zs) (P4.dst zs) (zs.getD 8 0) (zs.getD 9 0) (P4.wd zs 4) (o4s zs).2.1 (o4s zs).2.2 w h hi hs hk.1 ⟨hk.2.2.2, (ho 8).2⟩ ?_ (g4 g zs) ?_
      · have h1 := open4_good b len bcap zs w hr hcl hcm hG
        rw [hE, ev_nil] at h1
        exact h1
      · unfold g4
        rw [if_neg (fun h => h hG), if_neg (fun h => h hE)]
    · have e : g4 g zs = ((o4s zs).1, [], g) := by unfold g4; rw [if_neg (fun h => h hG), if_pos hE]
      rw [e]
      refine (in4_stop G b len bcap (o4s zs).1 w ?_).mono fun r w' ⟨e1, e2⟩ => ⟨none, 0, 0, by rw [e1, ev_err hE], ⟨gt_no _, Nat.le_refl _, by unfold maxLen; omega⟩, h.still e2⟩
      have h1 := open4_good b len bcap zs w hr hcl hcm hG
      rw [ev_err hE] at h1
      exact h1.mono fun r w' ⟨a1, l1, c1, a2, l2, c2, e1, _, e3⟩ => ⟨⟨_, _, _, _, _, _, _, _, _, _, _, _, e1⟩, e3⟩
  · have e : g4 g zs = (e4 zs, [], g) := by unfold g4; exact if_pos hG
    rw [e]
    refine (in4_stop G b len bcap (e4 zs) w ?_).mono fun r w' ⟨e1, e2⟩ => ⟨none, 0, 0, by rw [e1, ev_err (e4_pos zs)], ⟨gt_no _, Nat.le_refl _, by unfold maxLen; omega⟩, h.still e2⟩
    exact (open4_bad b len bcap zs w hr hcl hcm hG).mono fun r w' ⟨e1, e3⟩ => ⟨⟨_, _, _, _, _, _, _, _, _, _, _, _, e1⟩, e3⟩
end Go.Proofs.YtkhahbghmdccaaaGreatDoor

namespace Go.Proofs.YtkhahbghmdccaaaGreatDoor
open Go.RowKit
theorem binds_any (G : Nat) (a : Option Addr) (cap : Nat) (tv : Value) (S : Nat) (Ot : Nat → Prop) (β : Int → Nat) (g : GS) (w : World) (h : GC G a cap tv S Ot β g w) (hi : TI g) : Calls Tryz.prog 18 #[.pointer (some ⟨G, 0, none⟩)] w fun e w' => ∃ v, e = .returned v ∧ BdRow 0 w' v g.bs ∧ Below w.heap.size w w' := by
  have y := h.1.table
  have HA := hide (tb_jr.2.2 tv g.m g.ws g.ts g.bs Ot w hi.1 hi.2.1 hi.2.2.1 h.2.2.1)
  clear h hi
  go_enter Tryz.func18, Tryz.ntmps18
  go_wp2_with (go_at_call 61; refine HA.out.mono ?_; rintro e w1 ⟨v1, rfl, hr1, hb1⟩; have HB := hide hb1; have HR := hide hr1; clear hb1 hr1)
  go_ret
  exact ⟨_, rfl, HR.out, HB.out⟩
theorem sv1_any (B : Nat) (id : Int) (x : List Int) (w : World) (h : w.cell? ⟨B, 0, none⟩ = some (.int .i64 id)) :
    Calls Tryz.prog 157 #[.agg (bkC x), .pointer (some ⟨B, 0, none⟩)] w fun e w' => e = .returned (.bool (decide (el x 0 = id))) ∧ Below w.heap.size w w' := by
  have hB : B < w.heap.size := World.block_lt_of_cell? w _ h
  have y := h
  clear h
  unfold bkC
  by_cases e : el x 0 = id
  all_goals
    go_enter Tryz.func157, Tryz.ntmps157
    go_wp2
    go_ret
    exact ⟨by simp [e], al_below w _⟩
end Go.Proofs.YtkhahbghmdccaaaGreatDoor

namespace Go.Proofs.YtkhahbghmdccaaaGreatDoor
open Go.RowKit
def svk (bk : List (List Int)) (id : Int) : Option Nat := (List.range bk.length).find? fun i => decide (el (bk.getD i []) 0 = id)
theorem svk_yes {bk : List (List Int)} {id : Int} {k : Nat} (hk : k < bk.length) (h : ∀ j, j < k → decide (el (bk.getD j []) 0 = id) = false) (h1 : decide (el (bk.getD k []) 0 = id) = true) : svk bk id = some k := by
  unfold svk
  rw [List.find?_range_eq_some]
  exact ⟨h1, List.mem_range.2 hk, fun j hj => by rw [h j hj]; rfl⟩
theorem svk_no {bk : List (List Int)} {id : Int} (h : ∀ j, j < bk.length → decide (el (bk.getD j []) 0 = id) = false) : svk bk id = none := by
  unfold svk
  exact List.find?_eq_none.2 fun j hj => by rw [h j (List.mem_range.1 hj)]; decide
attribute [local go_sem ↓] kload_shut
set_option maxRecDepth 100000 in
set_option maxHeartbeats 2000000 in
theorem idx_any (a : Option Addr) (cap : Nat) (bk : List (List Int)) (B : Nat) (id : Int) (w : World) (hb : Bks a bk w) (hl : bk.length ≤ 1000) (hB : w.cell? ⟨B, 0, none⟩ = some (.int .i64 id)) :
    Calls Tryz.prog 156 #[.slice a bk.length cap, .func (.func 157) #[] #[.pointer (some ⟨B, 0, none⟩)]] w fun e w' => e = .returned (.int .i64 (fi (svk bk id))) ∧ Below w.heap.size w w' := by
  have eg : ∀ args w, (callFunc 157 args).run Tryz.prog w = .ok (.enter 157 args) w := enters_of Tryz.func157 (by kernel_rfl) rfl
  have HS := hide (fun x W (hW : Below w.heap.size w W) => sv1_any B id x W (by rw [hW.cell (World.block_lt_of_cell? w _ hB)]; exact hB))
  have HBk := hide hb
  have hlI : (bk.length : Int) ≤ 1000 := by omega
  clear hb hB
  go_enter Tryz.func156, Tryz.ntmps156
  go_wp2
  go_loopw [8] (fun i wr => ∃ k : Nat, k ≤ bk.length ∧ i = .int .i64 k ∧ Hid (∀ j, j < k → decide (el (bk.getD j []) 0 = id) = false) ∧ Hid (Below w.heap.size w wr)) (fun i _ => bk.length - (intOf i).toNat)
  case atStart => exact ⟨0, by omega, rfl, fun j h => absurd h (by omega), hide (Below.refl _ _)⟩
  case round =>
    obtain ⟨k, hk, rfl, HI, HW⟩ := hrel
    by_cases hlt : k < bk.length
    · obtain ⟨g, off, rfl, hgl, hrow⟩ := HBk.out (by omega)
      have gk := rng_kl (show wr.rangeAt g (off + k * 6) (bkC (bk.getD k [])).toList from fun j u hu => by rw [HW.out.cell (p := ⟨g, off + k * 6 + j, none⟩) hgl]; exact hrow k hlt j u hu)
      have j1 : (k : Int) < (bk.length : Int) := by omega
      have HSk := hide (fun W (hW : Below w.heap.size w W) => HS.out (bk.getD k []) W hW)
      have HY := hide (fun h1 => svk_yes hlt HI.out h1)
      have HIk := hide (fun h1 => show ∀ j, j < k + 1 → decide (el (bk.getD j []) 0 = id) = false from fun j hj => if e : j = k then by rw [e]; exact h1 else HI.out j (by omega))
      generalize bk.getD k [] = x at gk HSk HY HIk
      clear hgl hrow
      cases he : decide (el x 0 = id)
      · rw [he] at HSk HIk
        have HE := hide (HIk.out rfl)
        clear he HIk HY
        go_wp2_with (go_at_fn 157; refine (HSk.out _ HW.out).mono ?_; rintro e w3 ⟨rfl, hb3⟩; replace HW := hide (bt HW.out hb3); clear hb3 gk)
        go_roundw
        case rel => exact ⟨k + 1, by omega, by go_num, HE, HW⟩
        case measure => simp [intOf]; omega
      · rw [he] at HSk HY
        have HE := hide (HY.out rfl)
        clear he HIk HY
        go_wp2_with (go_at_fn 157; refine (HSk.out _ HW.out).mono ?_; rintro e w3 ⟨rfl, hb3⟩; replace HW := hide (bt HW.out hb3); clear hb3 gk)
        go_ret
        exact ⟨by rw [HE.out]; rfl, HW.out⟩
    · have hkn : bk.length = k := by omega
      have HE := hide (svk_no (bk := bk) (id := id) (by rw [hkn]; exact HI.out))
      go_wp2
      go_ret
      exact ⟨by rw [HE.out]; rfl, HW.out⟩
end Go.Proofs.YtkhahbghmdccaaaGreatDoor

namespace Go.Proofs.YtkhahbghmdccaaaGreatDoor
open Go.RowKit
theorem svk_lt {bk : List (List Int)} {id : Int} {k : Nat} (h : svk bk id = some k) : k < bk.length := List.mem_range.1 (List.mem_of_find?_eq_some h)
set_option maxRecDepth 100000 in
set_option maxHeartbeats 2000000 in
theorem server_no (G : Nat) (a : Option Addr) (cap : Nat) (tv : Value) (S : Nat) (Ot : Nat → Prop) (β : Int → Nat) (g : GS) (id : Int) (w : World) (h : GC G a cap tv S Ot β g w) (hl : g.bk.length ≤ 1000) (hs : svk g.bk id = none) :
    Calls Tryz.prog 112 #[.pointer (some ⟨G, 0, none⟩), .int .i64 id] w fun e w' => e = .returned (.pointer none) ∧ Below w.heap.size w w' := by
  have hb := al_below w (.cells #[.int .i64 id] 3)
  have hk := h.kept hb
  have y := hk.1.backs
  have HI := hide (idx_any a cap g.bk w.heap.size id _ hk.2.1.1.bks hl (cell_of_row _ _ 0 _ _ _ (heap_alloc_new w (.cells #[.int .i64 id] 3))))
  rw [hs] at HI
  have HB := hide hb
  clear h hl hs hb hk
  go_enter Tryz.func112, Tryz.ntmps112
  go_wp2_with (go_at_call 156; refine HI.out.mono ?_; rintro e w1 ⟨rfl, hb1⟩; have HB1 := hide (bt HB.out hb1); clear hb1)
  go_ret
  exact ⟨rfl, HB1.out⟩
set_option maxRecDepth 100000 in
set_option maxHeartbeats 2000000 in
theorem server_yes (G : Nat) (K : Nat) (cap : Nat) (tv : Value) (S : Nat) (Ot : Nat → Prop) (β : Int → Nat) (g : GS) (id : Int) (i : Nat) (w : World) (h : GC G (some ⟨K, 0, none⟩) cap tv S Ot β g w) (hl : g.bk.length ≤ 1000) (hs : svk g.bk id = some i) :
    Calls Tryz.prog 112 #[.pointer (some ⟨G, 0, none⟩), .int .i64 id] w fun e w' => e = .returned (.pointer (some ⟨K, i * 6, none⟩)) ∧ Below w.heap.size w w' := by
  have hb := al_below w (.cells #[.int .i64 id] 3)
  have hk := h.kept hb
  have y := hk.1.backs
  have HI := hide (idx_any _ cap g.bk w.heap.size id _ hk.2.1.1.bks hl (cell_of_row _ _ 0 _ _ _ (heap_alloc_new w (.cells #[.int .i64 id] 3))))
  have hlt := svk_lt hs
  have j1 : (i : Int) < (g.bk.length : Int) := by omega
  have j2 : (g.bk.length : Int) ≤ 1000 := by omega
  have HY := hide (fun W (hW : Below w.heap.size w W) => (h.kept hW).1.backs)
  rw [hs] at HI
  unfold fi at HI
  have HB := hide hb
  clear h hs hb hk
  go_enter Tryz.func112, Tryz.ntmps112
  go_wp2_with (go_at_call 156; refine HI.out.mono ?_; rintro e w1 ⟨rfl, hb1⟩; have HB1 := hide (bt HB.out hb1); have y1 := HY.out _ HB1.out; clear hb1 y)
  go_ret
  exact ⟨by simp, HB1.out⟩
end Go.Proofs.YtkhahbghmdccaaaGreatDoor

namespace Go.Proofs.YtkhahbghmdccaaaGreatDoor
open Go.RowKit
theorem Row8.setc {w : World} {a : Option Addr} {len cap : Nat} {zs : List Int} (r : Row8 w a len cap zs) {K j : Nat} {cs : Array Value} {t : TypeId} (v : Value) (hp : w.heap[K]? = some (.cells cs t (0, 0))) (hb : ∀ x, cs[j]? ≠ some (.int .u8 x)) : Row8 (w.setCell ⟨K, j, none⟩ v) a len cap zs := by
  refine ⟨r.1, r.2.1, r.2.2.1, r.2.2.2.1, fun h0 => ?_⟩
  obtain ⟨b, off, e, hc⟩ := r.2.2.2.2 h0
  refine ⟨b, off, e, fun i hi => ?_⟩
  have h := hc i hi
  rw [setCell_eq_setRow w K j _ _ (0, 0) _ hp]
  by_cases hbK : b = K
  · subst hbK
    rw [cell_of_row w b _ _ _ _ hp] at h
    have hne : j ≠ off + i := fun e => hb _ (by rw [e]; exact h)
    rw [cell_of_row _ b _ _ _ _ (setRow_heap w b _ _ _ (0, 0) hp), Array.getElem?_setIfInBounds_ne hne]
    exact h
  · rw [← h]
    exact World.cell?_of_block ((only_setRow w K _).2.2.2.2 b hbK)
theorem GC.mark {G K : Nat} {cap : Nat} {tv : Value} {S : Nat} {Ot : Nat → Prop} {β : Int → Nat} {g : GS} {w : World} (h : GC G (some ⟨K, 0, none⟩) cap tv S Ot β g w) {i j : Nat} (hi : i < g.bk.length) (hj : j < 6) (b : Bool) (x : List Int) (h4 : 4 ≤ j) (hx : ∀ m, (bkC x)[m]? = if m = j then some (.bool b) else (bkC (g.bk.getD i []))[m]?) :
    GC G (some ⟨K, 0, none⟩) cap tv S Ot β (g.srv (g.bk.set i x)) (w.setCell ⟨K, i * 6 + j, none⟩ (.bool b)) ∧ Kpt (GO G (some ⟨K, 0, none⟩) Ot (SO S β g.ss)) w (w.setCell ⟨K, i * 6 + j, none⟩ (.bool b)) := by
  obtain ⟨d1, d2, d3⟩ := h.2.2.2.2
  obtain ⟨K', cs, t, e, hp, hrow⟩ := h.2.1.1 (by omega)
  obtain rfl : K = K' := by injection e with e; injection e
  have hcell : cs[i * 6 + j]? = (bkC (g.bk.getD i []))[j]? := by rw [Nat.mul_comm]; exact hrow i hi j hj
  have hb : ∀ y, cs[i * 6 + j]? ≠ some (.int .u8 y) := fun y hy => by
    rw [hcell] at hy
    rcases (by omega : j = 4 ∨ j = 5) with rfl | rfl <;> cases hy
  have hin : i * 6 + j < cs.size := by
    rcases Nat.lt_or_ge (i * 6 + j) cs.size with h1 | h1
    · exact h1
    · rw [Array.getElem?_eq_none h1] at hcell
      rcases (by omega : j = 4 ∨ j = 5) with rfl | rfl <;> cases hcell
  have hr : ∀ a n c zs, Row8 w a n c zs → Row8 (w.setCell ⟨K, i * 6 + j, none⟩ (.bool b)) a n c zs := fun _ _ _ _ r => r.setc _ hp hb
  have ew := setCell_eq_setRow w K (i * 6 + j) cs t (0, 0) (.bool b) hp
  rw [ew] at hr ⊢
  have hp' := setRow_heap w K cs (cs.setIfInBounds (i * 6 + j) (.bool b)) t (0, 0) hp
  have on := only_setRow w K (cs.setIfInBounds (i * 6 + j) (.bool b))
  generalize w.setRow K _ = w' at hr hp' on ⊢
  have hK : KOa (some ⟨K, 0, none⟩) K := ⟨0, rfl⟩
  have hs : ∀ k, k ≠ K → w'.heap[k]? = w.heap[k]? := on.2.2.2.2
  refine ⟨⟨?_, ⟨fun _ => ⟨K, _, t, rfl, hp', fun k hk m hm => ?_⟩, fun k hk => by rw [on.2.2.2.1]; exact h.2.1.2.1 k hk, ?_⟩, (tb_kept _ _ _ _ _ _ _ h.2.2.1).2 w' (by rw [on.2.2.2.1]; exact Nat.le_refl _) (fun k hk => hs k (fun e => (d2 K hK).1 (e ▸ hk))), h.2.2.2.1.same (fun k hk => hs k (fun e => (d2 K hK).2 (e ▸ hk))) hr, h.2.2.2.2⟩, ⟨on.1, on.2.1, on.2.2.1, by rw [on.2.2.2.1]; exact Nat.le_refl _, fun k _ hn => hs k (fun e => hn (.inr (.inl (by rw [e]; exact hK))))⟩, hr⟩
  · have := h.1.same (hs G (fun e => d1.1 (by rw [e]; exact hK)))
    have el : (g.srv (g.bk.set i x)).bk.length = g.bk.length := List.length_set ..
    rw [el]
    exact this
  · have el : (g.srv (g.bk.set i x)).bk = g.bk.set i x := rfl
    rw [el] at hk ⊢
    rw [List.length_set] at hk
    rw [Array.getElem?_setIfInBounds]
    by_cases hki : k = i
    · subst hki
      have eg : (g.bk.set k x).getD k [] = x := by simp [List.getD_eq_getElem?_getD, hi]
      rw [eg, hx m]
      by_cases hmj : m = j
      · subst hmj
        rw [if_pos (by omega), if_pos rfl, if_pos (by omega)]
      · rw [if_neg (by omega), if_neg hmj]
        exact hrow k hi m hm
    · have eg : (g.bk.set i x).getD k [] = g.bk.getD k [] := by simp [List.getD_eq_getElem?_getD, List.getElem?_set_ne (fun e => hki e.symm)]
      rw [eg, if_neg (by omega)]
      exact hrow k hk m hm
  · have el : (g.srv (g.bk.set i x)).bk.length = g.bk.length := List.length_set ..
    rw [el]
    exact h.2.1.2.2
end Go.Proofs.YtkhahbghmdccaaaGreatDoor

namespace Go.Proofs.YtkhahbghmdccaaaGreatDoor
open Go.RowKit
def bup (x : List Int) (u : Bool) : List Int := [el x 0, el x 1, el x 2, el x 3, if u = true then 1 else 0, el x 5]
def bdr (x : List Int) (u : Bool) : List Int := [el x 0, el x 1, el x 2, el x 3, el x 4, if u = true then 1 else 0]
def gmk (g : GS) (id : Int) (f : List Int → List Int) : Int × GS := match svk g.bk id with
  | none => (4, g)
  | some i => (0, g.srv (g.bk.set i (f (g.bk.getD i []))))
theorem bup_at (x : List Int) (u : Bool) (m : Nat) : (bkC (bup x u))[m]? = if m = 4 then some (.bool u) else (bkC x)[m]? := by
  by_cases hm : m < 6
  · rcases (by omega : m = 0 ∨ m = 1 ∨ m = 2 ∨ m = 3 ∨ m = 4 ∨ m = 5) with rfl | rfl | rfl | rfl | rfl | rfl <;> cases u <;> rfl
  · rw [if_neg (by omega), Array.getElem?_eq_none (by show 6 ≤ m; omega), Array.getElem?_eq_none (by show 6 ≤ m; omega)]
theorem bdr_at (x : List Int) (u : Bool) (m : Nat) : (bkC (bdr x u))[m]? = if m = 5 then some (.bool u) else (bkC x)[m]? := by
  by_cases hm : m < 6
  · rcases (by omega : m = 0 ∨ m = 1 ∨ m = 2 ∨ m = 3 ∨ m = 4 ∨ m = 5) with rfl | rfl | rfl | rfl | rfl | rfl <;> cases u <;> rfl
  · rw [if_neg (by omega), Array.getElem?_eq_none (by show 6 ≤ m; omega), Array.getElem?_eq_none (by show 6 ≤ m; omega)]
theorem GC.mcell {G K : Nat} {cap : Nat} {tv : Value} {S : Nat} {Ot : Nat → Prop} {β : Int → Nat} {g : GS} {w : World} (h : GC G (some ⟨K, 0, none⟩) cap tv S Ot β g w) {i : Nat} (hi : i < g.bk.length) (j : Nat) (hj : j < 6) : w.cell? ⟨K, i * 6 + j, none⟩ = (bkC (g.bk.getD i []))[j]? ∧ w.frozen? ⟨K, i * 6 + j, none⟩ = false := by
  obtain ⟨K', cs, t, e, hp, hrow⟩ := h.2.1.1 (by omega)
  obtain rfl : K = K' := by injection e with e; injection e
  refine ⟨?_, ?_⟩
  · rw [cell_of_row w K _ _ _ _ hp, Nat.mul_comm]
    exact hrow i hi j hj
  · simp [World.frozen?, hp]
set_option maxRecDepth 100000 in
set_option maxHeartbeats 2000000 in
theorem probe_any (G : Nat) (a : Option Addr) (cap : Nat) (tv : Value) (S : Nat) (Ot : Nat → Prop) (β : Int → Nat) (g : GS) (id : Int) (u : Bool) (w : World) (h : GC G a cap tv S Ot β g w) (hl : g.bk.length ≤ 1000) :
    Calls Tryz.prog 58 #[.pointer (some ⟨G, 0, none⟩), .int .i64 id, .bool u] w fun e w' => e = .returned (ev (gmk g id (fun x => bup x u)).1) ∧ GQ w G a cap tv S Ot β g (gmk g id (fun x => bup x u)).2 w' := by
  cases hs : svk g.bk id with
  | none =>
    rw [show gmk g id (fun x => bup x u) = (4, g) by unfold gmk; rw [hs]]
    have H0 := hide h
    have HS := hide (server_no G a cap tv S Ot β g id w h hl hs)
    rw [show ev ((4 : Int), g).1 = err 4 from ev_err (show (4 : Int) ≠ 0 by decide)]
    unfold err
    clear h hl hs
    go_enter Tryz.func58, Tryz.ntmps58
    go_wp2_with (go_at_call 112; refine HS.out.mono ?_; rintro e w1 ⟨rfl, hb1⟩; have HB := hide hb1; clear hb1)
    go_ret
    exact ⟨rfl, H0.out.still HB.out⟩
  | some i =>
    rw [show gmk g id (fun x => bup x u) = (0, g.srv (g.bk.set i (bup (g.bk.getD i []) u))) by unfold gmk; rw [hs]]
    have hi := svk_lt hs
    obtain ⟨K, cs, t, rfl, _⟩ := h.2.1.1 (by omega)
    have H0 := hide h
    have HS := hide (server_yes G K cap tv S Ot β g id i w h hl hs)
    have HM := hide (fun W (hW : Below w.heap.size w W) => (h.kept hW).mark hi (by omega : 4 < 6) u (bup (g.bk.getD i []) u) (by omega) (bup_at (g.bk.getD i []) u))
    have HC := hide (fun W (hW : Below w.heap.size w W) => (h.kept hW).mcell hi 4 (by omega))
    rw [ev_nil]
    clear h hl hs hi
    go_enter Tryz.func58, Tryz.ntmps58
    go_wp2_with (go_at_call 112; refine HS.out.mono ?_; rintro e w1 ⟨rfl, hb1⟩; have HB := hide hb1; obtain ⟨q1, q2⟩ := HC.out _ hb1; replace q1 := q1.trans (show _ = some (Value.bool _) from rfl); clear hb1)
    go_ret
    obtain ⟨m1, m2⟩ := HM.out _ HB.out
    exact ⟨rfl, Ot, β, m1, (Kpt.of HB.out).trans m2 (fun _ hk => .inl hk), fun k hk => .inl hk⟩
set_option maxRecDepth 100000 in
set_option maxHeartbeats 2000000 in
theorem drain_any (G : Nat) (a : Option Addr) (cap : Nat) (tv : Value) (S : Nat) (Ot : Nat → Prop) (β : Int → Nat) (g : GS) (id : Int) (u : Bool) (w : World) (h : GC G a cap tv S Ot β g w) (hl : g.bk.length ≤ 1000) :
    Calls Tryz.prog 59 #[.pointer (some ⟨G, 0, none⟩), .int .i64 id, .bool u] w fun e w' => e = .returned (ev (gmk g id (fun x => bdr x u)).1) ∧ GQ w G a cap tv S Ot β g (gmk g id (fun x => bdr x u)).2 w' := by
  cases hs : svk g.bk id with
  | none =>
    rw [show gmk g id (fun x => bdr x u) = (4, g) by unfold gmk; rw [hs]]
    have H0 := hide h
    have HS := hide (server_no G a cap tv S Ot β g id w h hl hs)
    rw [show ev ((4 : Int), g).1 = err 4 from ev_err (show (4 : Int) ≠ 0 by decide)]
    unfold err
    clear h hl hs
    go_enter Tryz.func59, Tryz.ntmps59
    go_wp2_with (go_at_call 112; refine HS.out.mono ?_; rintro e w1 ⟨rfl, hb1⟩; have HB := hide hb1; clear hb1)
    go_ret
    exact ⟨rfl, H0.out.still HB.out⟩
  | some i =>
    rw [show gmk g id (fun x => bdr x u) = (0, g.srv (g.bk.set i (bdr (g.bk.getD i []) u))) by unfold gmk; rw [hs]]
    have hi := svk_lt hs
    obtain ⟨K, cs, t, rfl, _⟩ := h.2.1.1 (by omega)
    have H0 := hide h
    have HS := hide (server_yes G K cap tv S Ot β g id i w h hl hs)
    have HM := hide (fun W (hW : Below w.heap.size w W) => (h.kept hW).mark hi (by omega : 5 < 6) u (bdr (g.bk.getD i []) u) (by omega) (bdr_at (g.bk.getD i []) u))
    have HC := hide (fun W (hW : Below w.heap.size w W) => (h.kept hW).mcell hi 5 (by omega))
    rw [ev_nil]
    clear h hl hs hi
    go_enter Tryz.func59, Tryz.ntmps59
    go_wp2_with (go_at_call 112; refine HS.out.mono ?_; rintro e w1 ⟨rfl, hb1⟩; have HB := hide hb1; obtain ⟨q1, q2⟩ := HC.out _ hb1; replace q1 := q1.trans (show _ = some (Value.bool _) from rfl); clear hb1)
    go_ret
    obtain ⟨m1, m2⟩ := HM.out _ HB.out
    exact ⟨rfl, Ot, β, m1, (Kpt.of HB.out).trans m2 (fun _ hk => .inl hk), fun k hk => .inl hk⟩
end Go.Proofs.YtkhahbghmdccaaaGreatDoor
