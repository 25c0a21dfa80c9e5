/- Package gate: a server's packet, by a contract. Package gate: a server's packet that is one, by a contract. Package gate: a server's packet, whatever it is, by a contract. -/
import Derived.Test.YtkhahbghmdccaaaGreatDoorF40
import Derived.Below
import Derived.OpenShut
import Derived.Test.YtkhahbghmdccaaaGreatDoorProg
import Derived.WalkKit
import Derived.LaidEql
import Derived.BigQuiet
import Derived.Laws.AppendOwnNone
import Derived.Laws.MakeOwn
import Derived.Deep.RegionLaw
import Derived.Lib.Bytes
import Derived.Deep.MidRow
import Derived.Laws.ResultCell
import Derived.Deep.CutBlock
import Derived.Deep.QuietTactic
import Derived.OwnWalk
import Derived.Deep.RegionHeld3
import Derived.Deep.DrawnRows
import Derived.Laws.StructEq
import Derived.Maps.AppendAt
import Derived.Maps.RangeWalk
import Derived.Stop.Asserts
import Derived.RowKitTokens
import Derived.Test.YtkhahbghmdccaaaGreatDoorShelf
import Derived.Shelf.Abstract
import Derived.Lib.SliceRun
import Derived.Lib.AppendZerosOnto
import Derived.Lib.AppendZeros
import Derived.Laws.CopyOwn
import Derived.RangeFuncNested
import Derived.RangeFuncBound
import Derived.RangeFuncCalls
import Derived.RangeFuncLeaves
import Derived.RangeFuncFrom
import Derived.Shelf.RegionOpen
import Derived.OwnWalkIn
import Derived.TacticsInMore
import Derived.LoopNIn
import Derived.LoopIn
import Derived.Deep.RegionWith
import Derived.ArgAppend
import Derived.Lib.SlBytesConst
import Derived.Lib.AppendStr
import Derived.Test.YtkhahbghmdccaaaGreatDoorF41
namespace Go.Proofs.YtkhahbghmdccaaaGreatDoor
open Go.RowKit
def nrk (bs : List (List Int)) (kind p : Int) : Option Nat := match prt bs p with
  | none => none
  | some k => if el (bs.getD k []) 0 = kind then some k else none
def g4b (g : GS) (b : List Int) (ttl : Int) (z D : List Int) : Int × List Int × GS :=
  if (gdo g b z D).1 ≠ 0 then ((gdo g b z D).1, [], (gdo g b z D).2.2.2)
  else (0, p6o (dst b) (cli b) (ttl - 1) (zft (gdo g b z D).2.1 (el b 18) (el b 9)) (gdo g b z D).2.2.1, (gdo g b z D).2.2.2)
def g4s (g : GS) (s d ttl kind : Int) (z D : List Int) : Int × List Int × GS := match nrk g.bs kind (el z 2) with
  | none => (4, [], g)
  | some k => if d = el g.c 18 ∧ s = el (g.bs.getD k []) 20 ∧ el z 1 = el (g.bs.getD k []) 21 then g4b (g.tab g.ws g.ts (g.bs.set k (usd (g.bs.getD k []) g.now))) (g.bs.getD k []) ttl z D else (4, [], g)
def g4 (g : GS) (zs : List Int) : Int × List Int × GS :=
  if ¬ ((20 ≤ zs.length ∧ zs.length ≤ 340 ∧ P4.wd zs 0 = 69 * 256 ∧ P4.wd zs 2 = zs.length ∧ P4.wd zs 6 = 64 * 256) ∧ P4.wd zs 10 = P4.ckz zs) then (e4 zs, [], g)
  else if (o4s zs).1 ≠ 0 then ((o4s zs).1, [], g)
  else g4s g (P4.src zs) (P4.dst zs) (zs.getD 8 0) (zs.getD 9 0) (o4s zs).2.1 (o4s zs).2.2
theorem nrk_none {bs : List (List Int)} {kind p : Int} (h : nrk bs kind p = none) : Nr bs kind p [] 4 := by
  unfold nrk at h
  unfold Nr
  cases hp : prt bs p with
  | none => exact .inl ⟨rfl, rfl, rfl⟩
  | some k =>
    rw [hp] at h
    dsimp only at h
    by_cases hk : el (bs.getD k []) 0 = kind
    · rw [if_pos hk] at h; cases h
    · exact .inr (.inl ⟨k, rfl, beq_eq_false_iff_ne.2 hk, rfl, rfl⟩)
theorem nrk_some {bs : List (List Int)} {kind p : Int} {k : Nat} (h : nrk bs kind p = some k) : Nr bs kind p (bs.getD k []) 0 ∧ prt bs p = some k := by
  unfold nrk at h
  unfold Nr
  cases hp : prt bs p with
  | none => rw [hp] at h; cases h
  | some j =>
    rw [hp] at h
    dsimp only at h
    by_cases hk : el (bs.getD j []) 0 = kind
    · rw [if_pos hk] at h
      obtain rfl := Option.some.inj h
      exact ⟨.inr (.inr ⟨j, rfl, beq_iff_eq.2 hk, rfl, rfl⟩), rfl⟩
    · rw [if_neg hk] at h; cases h
theorem gdown_any (G : Nat) (a : Option Addr) (cap : Nat) (tv : Value) (S : Nat) (Ot : Nat → Prop) (β : Int → Nat) (g : GS) (b z : List Int) (a1 : Option Addr) (l1 c1 : Nat) (D : List Int) (w : World) (h : GC G a cap tv S Ot β g w) (hs : SI g) (hr : Row8 w a1 l1 c1 D) :
    Calls Tryz.prog 78 #[.pointer (some ⟨G, 0, none⟩), .agg (bdC b), .agg (sgC z a1 l1 c1)] w fun e w' => ∃ a2 l2 c2, e = .returned (.tuple #[.agg (sgC (gdo g b z D).2.1 a2 l2 c2), ev (gdo g b z D).1]) ∧ Row8 w' a2 l2 c2 (gdo g b z D).2.2.1 ∧ GQ w G a cap tv S Ot β g (gdo g b z D).2.2.2 w' := by
  cases ht : sfd g.ss (el b 19) with
  | none => exact gdown_no G a cap tv S Ot β g b z a1 l1 c1 D w h hr ht
  | some st => exact gdown_yes G a cap tv S Ot β g b z a1 l1 c1 D st w h hs hr ht
set_option maxRecDepth 100000 in
set_option maxHeartbeats 4000000 in
theorem in4_stop (G : Nat) (b : Option Addr) (len bcap : Nat) (E : Int) (w : World)
    (hO : Calls Tryz.prog 75 #[.slice b len bcap] w fun e w' => (∃ s d t k i a1 l1 c1 z a2 l2 c2, e = .returned (.tuple #[V4.pk s d t k i a1 l1 c1, .agg (sgC z a2 l2 c2), err E])) ∧ Below w.heap.size w w') :
    Calls Tryz.prog 24 #[.pointer (some ⟨G, 0, none⟩), .slice b len bcap] w fun e w' => e = .returned (.tuple #[.slice none 0 0, err E]) ∧ Below w.heap.size w w' := by
  have HO := hide hO
  have HZ := hide (fun W => R4.start W)
  unfold V4.zero4 zero7 at HZ
  unfold err at HO ⊢
  clear hO
  go_enter Tryz.func24, Tryz.ntmps24
  go_wp2_with (first
    | (go_at_call 75; refine HO.out.mono ?_; rintro e w1 ⟨⟨s, d, h, k, i, a1, l1, c1, z, a2, l2, c2, rfl⟩, hb1⟩; have HR := hide (HZ.out w1); have HB := hide hb1; clear hb1)
    | (refine V4.at_store rfl (.tmp 6) (.tmp 14) rfl rfl HR.out.1 s d h k i a1 l1 c1 rfl ?_; intro w2 p2 on2; have HS := hide (on2.sg HR.out.2.1 (by omega)); have HB2 := hide (on2.below (bt HB.out HR.out.2.2) HB.out.size); clear p2 on2)
    | (refine at_store rfl (.tmp 7) (.tmp 15) rfl rfl HS.out z a2 l2 c2 rfl ?_; intro w3 p3 on3; have HB3 := hide (on3.below HB2.out (Nat.le_succ_of_le HB.out.size)); clear p3 on3))
  go_ret2
  exact ⟨rfl, HB3.out⟩
end Go.Proofs.YtkhahbghmdccaaaGreatDoor

namespace Go.Proofs.YtkhahbghmdccaaaGreatDoor
open Go.RowKit
theorem bys_pos (s d : List Int) (t k : Int) (l : List Int) : 0 < (V6.bys s d t k l).length := by
  unfold V6.bys
  rw [List.length_append]
  exact Nat.lt_of_lt_of_le (by decide : 0 < 40) (Nat.le_add_right _ _)
def IK4 (w : World) (P Q : Nat) (s d t k i : Int) (a1 : Option Addr) (l1 c1 : Nat) (z : List Int) (a2 : Option Addr) (l2 c2 : Nat) (D : List Int) (W : World) : Prop := V4.PkIn P s d t k i a1 l1 c1 W ∧ SgIn Q z a2 l2 c2 W ∧ Row8 W a2 l2 c2 D ∧ w.heap.size ≤ P ∧ w.heap.size ≤ Q ∧ Below w.heap.size w W
theorem IK4.kept {w : World} {P Q : Nat} {s d t k i : Int} {a1 : Option Addr} {l1 c1 : Nat} {z : List Int} {a2 : Option Addr} {l2 c2 : Nat} {D : List Int} {W W' : World} (h : IK4 w P Q s d t k i a1 l1 c1 z a2 l2 c2 D W) (hb : Below W.heap.size W W') : IK4 w P Q s d t k i a1 l1 c1 z a2 l2 c2 D W' := ⟨h.1.kept hb, h.2.1.kept hb, h.2.2.1.below hb, h.2.2.2.1, h.2.2.2.2.1, bt h.2.2.2.2.2 hb⟩
theorem IK4.only {w : World} {P Q : Nat} {s d t k i : Int} {a1 : Option Addr} {l1 c1 : Nat} {z : List Int} {a2 : Option Addr} {l2 c2 : Nat} {D : List Int} {W W' : World} (h : IK4 w P Q s d t k i a1 l1 c1 z a2 l2 c2 D W) {B : Nat} {x : List Int} (p : BdIn B x W) (on : Only B W W') (hP : P < B) (hQ : Q < B) : IK4 w P Q s d t k i a1 l1 c1 z a2 l2 c2 D W' :=
  ⟨(on.2.2.2.2 _ (by omega)).trans h.1, (on.2.2.2.2 _ (by omega)).trans h.2.1, h.2.2.1.pastn p.no8 on, h.2.2.2.1, h.2.2.2.2.1, on.below h.2.2.2.2.2 (by have := h.2.2.2.1; omega)⟩
theorem BdIn.hc {B : Nat} {x : List Int} {w : World} (p : BdIn B x w) : (hload (.pointer (some ⟨B, 1, none⟩))).run Tryz.prog w = .ok (.agg (sixC (cli x))) w :=
  run_loadAt_mid w B 1 23 _ _ (fun j v hv => by
    have hj : j < 8 := (List.getElem?_eq_some_iff.1 hv).1
    rw [p.cell (1 + j) (by omega)]
    rcases (by omega : j = 0 ∨ j = 1 ∨ j = 2 ∨ j = 3 ∨ j = 4 ∨ j = 5 ∨ j = 6 ∨ j = 7) with rfl | rfl | rfl | rfl | rfl | rfl | rfl | rfl <;> exact hv) Tryz.underlying23 rfl (by kernel_rfl)
theorem BdIn.hd {B : Nat} {x : List Int} {w : World} (p : BdIn B x w) : (hload (.pointer (some ⟨B, 10, none⟩))).run Tryz.prog w = .ok (.agg (sixC (dst x))) w :=
  run_loadAt_mid w B 10 23 _ _ (fun j v hv => by
    have hj : j < 8 := (List.getElem?_eq_some_iff.1 hv).1
    rw [p.cell (10 + j) (by omega)]
    rcases (by omega : j = 0 ∨ j = 1 ∨ j = 2 ∨ j = 3 ∨ j = 4 ∨ j = 5 ∨ j = 6 ∨ j = 7) with rfl | rfl | rfl | rfl | rfl | rfl | rfl | rfl <;> exact hv) Tryz.underlying23 rfl (by kernel_rfl)
attribute [local go_sem ↓] gload_shut bload_shut bstore_shut hload_shut
set_option maxRecDepth 100000 in
set_option maxHeartbeats 2000000 in
theorem in4_go (G : Nat) (a : Option Addr) (cap : Nat) (tv : Value) (S : Nat) (Ot : Nat → Prop) (β : Int → Nat) (g : GS) (b : Option Addr) (len bcap : Nat) (s d ttl k i : Int) (z D : List Int) (w : World) (h : GC G a cap tv S Ot β g w) (hi : TI g) (hs : SI g) (hz : Okg z D.length) (hh : 2 ≤ ttl ∧ ttl ≤ 255)
    (hO : Calls Tryz.prog 75 #[.slice b len bcap] w fun e w' => ∃ a1 l1 c1 a2 l2 c2, e = .returned (.tuple #[V4.pk s d ttl k i a1 l1 c1, .agg (sgC z a2 l2 c2), .nilIface]) ∧ Row8 w' a2 l2 c2 D ∧ Below w.heap.size w w') (R : Int × List Int × GS) (hR : R = g4s g s d ttl k z D) :
    Calls Tryz.prog 24 #[.pointer (some ⟨G, 0, none⟩), .slice b len bcap] w fun e w' => ∃ a2 l2 c2, e = .returned (.tuple #[.slice a2 l2 c2, ev R.1]) ∧ (Row8 w' a2 l2 c2 R.2.1 ∧ l2 ≤ c2 ∧ c2 ≤ maxLen) ∧ GQ w G a cap tv S Ot β g R.2.2 w' := by
  obtain ⟨x, e0, hNr, hne⟩ : ∃ x e0, Nr g.bs k (el z 2) x e0 ∧ ((e0 = 4 ∧ R = (4, [], g)) ∨ (e0 = 0 ∧ ∃ j, j < g.bs.length ∧ x = g.bs.getD j [] ∧ prt g.bs (el z 2) = some j ∧ R = if d = el g.c 18 ∧ s = el x 20 ∧ el z 1 = el x 21 then g4b (g.tab g.ws g.ts (g.bs.set j (usd x g.now))) x ttl z D else (4, [], g))) := by
    unfold g4s at hR
    cases hn : nrk g.bs k (el z 2) with
    | none => rw [hn] at hR; exact ⟨[], 4, nrk_none hn, .inl ⟨rfl, hR⟩⟩
    | some j => rw [hn] at hR; exact ⟨_, 0, (nrk_some hn).1, .inr ⟨rfl, j, (prt_lt (nrk_some hn).2).1, rfl, (nrk_some hn).2, hR⟩⟩
  have HO := hide hO
  have H0 := hide h
  have HNe := hide hne
  have HZ := hide (fun W => R4.start W)
  have HZb := hide (fun W => bd_zero W)
  unfold V4.zero4 zero7 at HZ
  unfold zero23 at HZb
  have HNr := hide (fun W (hW : Below w.heap.size w W) => tb_jr.1 tv g.m g.ws g.ts g.bs Ot W k (el z 2) x e0 hi.1 hi.2.1 hi.2.2.1 (h.kept hW).2.2.1 hNr)
  have Hi := hide hi
  have Hs := hide hs
  have Hz := hide hz
  have Hh := hide hh
  clear hO hR hne hNr h hi hs hz hh
  go_enter Tryz.func24, Tryz.ntmps24
  go_upto_region 4 with (first
    | (go_at_call 75; refine HO.out.mono ?_; rintro e w1 ⟨a1, l1, c1, a2, l2, c2, rfl, r1, hb1⟩; have HR := hide (HZ.out w1); have HB := hide hb1; have R1 := hide r1; clear hb1 r1)
    | (refine V4.at_store rfl (.tmp 6) (.tmp 14) rfl rfl HR.out.1 s d ttl k i a1 l1 c1 rfl ?_; intro w2 p2 on2; have HS := hide (on2.sg HR.out.2.1 (by omega)); have HB2 := hide (on2.below HR.out.2.2 (Nat.le_refl _)); have P2 := hide p2; clear p2 on2)
    | (refine at_store rfl (.tmp 7) (.tmp 15) rfl rfl HS.out z a2 l2 c2 rfl ?_; intro w3 p3 on3; have HB3 := hide (on3.below HB2.out (Nat.le_succ _)); have P3 := hide (show V4.PkIn _ _ _ _ _ _ _ _ _ w3 from (on3.2.2.2.2 _ (by omega)).trans P2.out); have S3 := hide p3; clear p3 on3 P2 HS HB2))
  clear HO HZ HR
  have HI := hide (show IK4 w w1.heap.size (w1.heap.size + 1) s d ttl k i a1 l1 c1 z a2 l2 c2 D w3 from ⟨P3.out, S3.out, R1.out.below HB3.out, HB.out.size, Nat.le_succ_of_le HB.out.size, bt HB.out HB3.out⟩)
  clear HB HB3 R1 P3 S3
  generalize w1.heap.size = P at HI ⊢
  have HR := hide (show ∀ W', IK4 w P (P + 1) s d ttl k i a1 l1 c1 z a2 l2 c2 D W' → W'.cell? ⟨G, 23, none⟩ = some tv ∧ W'.cell? ⟨P, 3, none⟩ = some (.int .i64 k) ∧ W'.cell? ⟨P + 1, 2, none⟩ = some (.int .i64 (el z 2)) from fun W' h => ⟨(H0.out.kept h.2.2.2.2.2).1.table, h.1.all.2.2.2.1, h.2.1.c2⟩)
  have HD := hide (show P + 1 < w3.heap.size from HI.out.2.1.lt)
  have HK1 := hide (HI.out.kept (show Below w3.heap.size w3 w3.drew from (Below.refl _ _).drew))
  have HKb := hide (HI.out.kept (show Below w3.heap.size w3 (w3.alloc (.cells zero23 75)).drew from (al_below w3 _).drew))
  have HIb := hide (show BdIn w3.heap.size [] (w3.alloc (.cells zero23 75)).drew from bd_zero w3)
  unfold zero23 at HKb HIb
  obtain ⟨q1, q2, q3⟩ := HR.out _ HK1.out
  go_cut [8, 9] from 8 to 31 (fun u v wx => u = ev e0 ∧ (∃ Db, v = .pointer (some ⟨Db, 0, none⟩) ∧ Hid (BdIn Db x wx ∧ P + 1 < Db)) ∧ Hid (IK4 w P (P + 1) s d ttl k i a1 l1 c1 z a2 l2 c2 D wx))
  case first =>
    go_region_held3 (fun W' => W'.cell? ⟨G, 23, none⟩ = some tv ∧ W'.cell? ⟨P, 3, none⟩ = some (.int .i64 k) ∧ W'.cell? ⟨P + 1, 2, none⟩ = some (.int .i64 (el z 2)))
      (first
        | exact HR.out _ HK1.out
        | exact HR.out _ HKb.out
        | exact HR.out _ HK4.out
        | exact HR.out _ HK5.out
        | exact HR.out _ HK6.out
        | go_keep)
      (first
        | (go_at_call 76; refine (HNr.out _ HK1.out.2.2.2.2.2).mono ?_; rintro e w4 ⟨rfl, hb4⟩; have HK4 := hide (HK1.out.kept hb4); have HK5 := hide (HK4.out.kept (al_below w4 (.cells zero23 75))); obtain ⟨w6, k6, p6, on6⟩ := (HZb.out w4).held x; have hD4 := hide (show P + 1 < w4.heap.size from HK4.out.2.1.lt); unfold zero23 at HK5; have HK6 := hide (HK5.out.only (HZb.out w4) on6 (by have := hD4.out; omega) hD4.out); have HF := hide (And.intro p6 hD4.out); clear hb4 q1 q2 q3 p6 on6; obtain ⟨q1, q2, q3⟩ := HR.out _ HK4.out)
        | (go_at_call 76; refine (HNr.out _ HKb.out.2.2.2.2.2).mono ?_; rintro e w4 ⟨rfl, hb4⟩; have HK4 := hide (HKb.out.kept hb4); have HK5 := HK4; obtain ⟨w6, k6, p6, on6⟩ := (HIb.out.kept hb4).held x; have HK6 := hide (HK4.out.only (HIb.out.kept hb4) on6 (by have := HD.out; omega) HD.out); have HF := hide (And.intro p6 HD.out); clear hb4 q1 q2 q3 p6 on6; obtain ⟨q1, q2, q3⟩ := HR.out _ HK4.out))
    all_goals
      go_wp2_with fail
      go_meet
      exact ⟨rfl, ⟨_, rfl, HF⟩, HK6⟩
  case rest =>
    obtain ⟨rfl, ⟨Db, rfl, HF⟩, HQ⟩ := hcut
    clear HK1 HKb HIb q1 q2 q3 HI HD HNr HR HZb
    have HN := hide (H0.out.kept HQ.out.2.2.2.2.2)
    have q1 := HQ.out.1.all.2.1
    have q2 := HN.out.1.near
    have q3 := HQ.out.1.all.1
    have q4 := HF.out.1.cell 20 (by omega)
    have q5 := HQ.out.2.1.c1
    have q6 := HF.out.1.cell 21 (by omega)
    have HQn := hide (fun n => HQ.out.kept (W' := World.drewN wc n) ⟨rfl, rfl, rfl, Nat.le_refl _, fun _ _ => rfl⟩)
    have HFn := hide (fun n => (show BdIn Db x (World.drewN wc n) ∧ P + 1 < Db from ⟨HF.out.1.kept ⟨rfl, rfl, rfl, Nat.le_refl _, fun _ _ => rfl⟩, HF.out.2⟩))
    clear HQ HF HN
    rcases HNe.out with ⟨rfl, hRR⟩ | ⟨rfl, j, hj, hx, hpj, hRR⟩
    case inl =>
      have HRR := hide hRR
      clear HNe hRR Hi Hs Hz Hh
      rw [ev_err (by decide)]
      unfold err
      go_upto_region 5 with fail
      go_quiet (fail)
      clear q1 q2 q3 q4 q5 q6
      generalize hW : World.drewN _ _ = W1
      have HQ : Hid (IK4 w P (P + 1) s d ttl k i a1 l1 c1 z a2 l2 c2 D W1) := by rw [← hW]; exact HQn.out _
      clear hW HQn HFn
      go_wp2
      go_ret2
      rw [HRR.out]
      exact ⟨none, 0, 0, rfl, ⟨gt_no _, Nat.le_refl _, by unfold maxLen; omega⟩, H0.out.still HQ.out.2.2.2.2.2⟩
    case inr =>
      have HRR := hide hRR
      have HJ := hide (And.intro hj (And.intro hx hpj))
      clear HNe hRR hj hx hpj
      rw [ev_nil]
      by_cases hm : d = el g.c 18 ∧ s = el x 20 ∧ el z 1 = el x 21
      case neg =>
        have HR4 := hide (show R = (4, [], g) by rw [HRR.out, if_neg hm])
        have hcase : ¬ d = el g.c 18 ∨ (d = el g.c 18 ∧ ¬ s = el x 20) ∨ (d = el g.c 18 ∧ s = el x 20 ∧ ¬ el z 1 = el x 21) := by omega
        clear HRR Hi Hs Hz Hh HJ hm
        rcases hcase with hm1 | ⟨hm1, hm2⟩ | ⟨hm1, hm2, hm3⟩
        all_goals
          go_upto_region 5 with fail
          go_quiet (fail)
          clear q1 q2 q3 q4 q5 q6
          generalize hW : World.drewN _ _ = W1
          have HQ : Hid (IK4 w P (P + 1) s d ttl k i a1 l1 c1 z a2 l2 c2 D W1) := by rw [← hW]; exact HQn.out _
          clear hW HQn HFn
          go_wp2
          go_ret2
          rw [HR4.out]
          exact ⟨none, 0, 0, rfl, ⟨gt_no _, Nat.le_refl _, by unfold maxLen; omega⟩, H0.out.still HQ.out.2.2.2.2.2⟩
      case pos =>
        have HR4 := hide (show R = g4b (g.tab g.ws g.ts (g.bs.set j (usd x g.now))) x ttl z D by rw [HRR.out, if_pos hm])
        obtain ⟨hm1, hm2, hm3⟩ := hm
        clear HRR
        go_upto_region 5 with fail
        go_quiet (fail)
        clear q1 q2 q3 q4 q5 q6 hm1 hm2 hm3
        generalize hW : World.drewN _ _ = W1
        have HQ : Hid (IK4 w P (P + 1) s d ttl k i a1 l1 c1 z a2 l2 c2 D W1) := by rw [← hW]; exact HQn.out _
        have HF : Hid (BdIn Db x W1 ∧ P + 1 < Db) := by rw [← hW]; exact HFn.out _
        clear hW HQn HFn
        go_upto_region 7 with fail
        have HQ1 := hide (HQ.out.kept (show Below W1.heap.size W1 W1.drew from (Below.refl _ _).drew))
        have HF1 := hide (show BdIn Db x W1.drew from HF.out.1)
        have HD := hide (show P + 1 < Db ∧ Db < W1.heap.size from ⟨HF.out.2, HF.out.1.lt⟩)
        have HG1 := hide (H0.out.kept HQ1.out.2.2.2.2.2)
        have HUs := hide (show Calls Tryz.prog 77 #[tv, .int .i64 (el x 19), .int .i64 g.now] W1.drew fun e w' => e = .returned .nilIface ∧ TQ TB tv g.m g.ws g.ts (g.bs.set j (usd x g.now)) Ot W1.drew w' from by
          obtain ⟨t1, t2, t3, t4, t5⟩ := Hi.out
          obtain ⟨hj, hx, hpj⟩ := HJ.out
          have hmem : g.bs.getD j [] ∈ g.bs := by
            rw [List.getD_eq_getElem?_getD, List.getElem?_eq_getElem hj]
            exact List.getElem_mem hj
          have := tb_ji.2.2.2.2.1 tv g.m g.ws g.ts g.bs Ot W1.drew (el (g.bs.getD j []) 19) g.now 0 _ t1 t2 t3 HG1.out.2.2.1 (.inr (.inr (.inr ⟨j, prt_self t3.2.1 hj, t4, by have := t5 _ hmem; omega, rfl, rfl⟩)))
          rw [ev_nil, ← hx] at this
          exact this)
        have q1 := HG1.out.1.table
        have q2 := HF1.out.cell 19 (by omega)
        have q3 := HG1.out.1.now
        clear HF HQ
        go_region_held3 (fun W' => W'.cell? ⟨G, 23, none⟩ = some tv ∧ W'.cell? ⟨Db, 19, none⟩ = some (.int .i64 (el x 19)) ∧ W'.cell? ⟨G, 25, none⟩ = some (.int .i64 g.now))
          (first
            | exact ⟨HG1.out.1.table, HF1.out.cell 19 (by omega), HG1.out.1.now⟩
            | exact S5.out
            | go_keep)
          (first
            | (go_at_call 77; refine HUs.out.mono ?_; rintro e w5 ⟨rfl, tq⟩; obtain ⟨Ot', g5, k5, s5⟩ := HG1.out.tab tq; have HG5 := hide g5; have HK5 := hide k5; have HS5 := hide s5; have HF5 := hide (show BdIn Db x w5 from (k5.1.2.2.2.2 Db HF1.out.lt (fun ho => by have := H0.out.lt ho; have := HQ1.out.2.2.2.1; have := HD.out; omega)).trans HF1.out); have S5 := hide (show w5.cell? ⟨G, 23, none⟩ = some tv ∧ w5.cell? ⟨Db, 19, none⟩ = some (.int .i64 (el x 19)) ∧ w5.cell? ⟨G, 25, none⟩ = some (.int .i64 g.now) from ⟨g5.1.table, HF5.out.cell 19 (by omega), g5.1.now⟩); clear q1 q2 q3 g5 k5 s5 tq; obtain ⟨q1, q2, q3⟩ := S5.out))
        all_goals
          clear q1 q2 q3
          have hlow : ∀ k, GO G a Ot (SO S β g.ss) k → k < w.heap.size := fun k hk => H0.out.lt hk
          have hN : ∀ k, GO G a Ot' (SO S β g.ss) k → GO G a Ot (SO S β g.ss) k ∨ W1.drew.heap.size ≤ k := by
            rintro k (h1 | h1 | h1 | h1)
            · exact .inl (.inl h1)
            · exact .inl (.inr (.inl h1))
            · exact (HS5.out k h1).imp (fun h => .inr (.inr (.inl h))) id
            · exact .inl (.inr (.inr (.inr h1)))
          have hne : ∀ k, w.heap.size ≤ k → k < W1.drew.heap.size → ¬ GO G a Ot' (SO S β g.ss) k := fun k h1 h2 h3 => by
            rcases hN k h3 with h4 | h4
            · have := hlow k h4; omega
            · omega
          have hne0 : ∀ k, w.heap.size ≤ k → ¬ GO G a Ot (SO S β g.ss) k := fun k h1 h2 => by have := hlow k h2; omega
          obtain ⟨i1, i2, i3, i4, i5, i6⟩ := HQ1.out
          have hwd : w.heap.size ≤ Db := by have := HD.out; omega
          have HN8 := hide (show ¬ GO G a Ot' (SO S β g.ss) P ∧ ¬ GO G a Ot' (SO S β g.ss) (P + 1) ∧ ¬ GO G a Ot' (SO S β g.ss) Db from ⟨hne P i4 i1.lt, hne _ i5 i2.lt, hne Db hwd HF1.out.lt⟩)
          have HI8 := hide (show V4.PkIn P s d ttl k i a1 l1 c1 w5 ∧ SgIn (P + 1) z a2 l2 c2 w5 ∧ Row8 w5 a2 l2 c2 D from ⟨(HK5.out.1.2.2.2.2 P i1.lt (hne0 P i4)).trans i1, (HK5.out.1.2.2.2.2 (P + 1) i2.lt (hne0 _ i5)).trans i2, HK5.out.2 _ _ _ _ i3⟩)
          have HK8 := hide (show Kpt (GO G a Ot (SO S β g.ss)) w w5 from (Kpt.of i6).trans HK5.out (fun _ hk => .inl hk))
          have HO8 := hide (show ∀ k, GO G a Ot' (SO S β g.ss) k → GO G a Ot (SO S β g.ss) k ∨ w.heap.size ≤ k from fun k hk => (hN k hk).imp id (fun h => Nat.le_trans i6.size h))
          have HP8 := hide (show P + 1 < w5.heap.size ∧ P ≠ P + 1 ∧ Db < w5.heap.size ∧ P + 1 < Db ∧ w.heap.size ≤ P from ⟨HI8.out.2.1.lt, by omega, HF5.out.lt, HD.out.1, i4⟩)
          have HGb := hide (show okf x = true ∧ Ok6 (dst x) ∧ Ok6 (cli x) ∧ (0 ≤ el x 18 ∧ el x 18 ≤ 65535) ∧ (0 ≤ el x 9 ∧ el x 9 ≤ 65535) from by
            obtain ⟨hj, hx, _⟩ := HJ.out
            have hmem : x ∈ g.bs := by
              rw [hx, List.getD_eq_getElem?_getD, List.getElem?_eq_getElem hj]
              exact List.getElem_mem hj
            have hf := (Hi.out.2.2.1.1 _ hmem).1
            have hf' := hf
            unfold okf at hf'
            simp only [Bool.and_eq_true] at hf'
            exact ⟨hf, (s6_iff _).1 hf'.1.1.2, (s6_iff _).1 hf'.1.1.1.2, (wd_iff _).1 hf'.2, (wd_iff _).1 hf'.1.2⟩)
          generalize hg' : g.tab g.ws g.ts (g.bs.set j (usd x g.now)) = g' at HG5 HR4
          have HSs := hide (show g'.ss = g.ss from by rw [← hg']; rfl)
          have HSi := hide (show SI g' from by have := Hs.out; unfold SI at this ⊢; rw [HSs.out]; exact this)
          clear hg' hN hne hne0 hlow i1 i2 i3 i4 i5 i6 hwd HQ1 HF1 HG1 HUs S5 HK5 HS5 HD Hi HJ
          rw [← HSs.out] at HN8
          replace HO8 := hide (show ∀ k, GO G a Ot' (SO S β g'.ss) k → GO G a Ot (SO S β g.ss) k ∨ w.heap.size ≤ k from by rw [HSs.out]; exact HO8.out)
          have HUp := hide (fun W (hW : GC G a cap tv S Ot' β g' W) (r : Row8 W a2 l2 c2 D) => gdown_any G a cap tv S Ot' β g' x z a2 l2 c2 D W hW HSi.out r)
          have HUo := hide (fun h0 => gdo_ok (g := g') (b := x) HSi.out Hz.out h0)
          unfold g4b at HR4
          generalize gdo g' x z D = U at HUp HUo HR4
          have x11 := HF5.out.bl
          go_upto_region 11 with (first
            | (refine at_load rfl (.tmp 7) rfl rfl HI8.out.2.1 ?_)
            | (go_at_call 78; refine (HUp.out _ HG5.out HI8.out.2.2).mono ?_; rintro e w9 ⟨a3, l3, c3, rfl, r9, q9⟩; obtain ⟨Ot2, β2, g9, k9, s9⟩ := q9; have HG9 := hide g9; have HS9 := hide s9; have R9 := hide r9; have HK9 := hide (HK8.out.trans k9 HO8.out); have P9 := hide (show V4.PkIn _ _ _ _ _ _ _ _ _ w9 from (k9.1.2.2.2.2 P HI8.out.1.lt HN8.out.1).trans HI8.out.1); have S9 := hide (show SgIn _ _ _ _ _ w9 from (k9.1.2.2.2.2 (P + 1) HI8.out.2.1.lt HN8.out.2.1).trans HI8.out.2.1); have D9 := hide (show BdIn _ _ w9 from (k9.1.2.2.2.2 Db HF5.out.lt HN8.out.2.2).trans HF5.out); clear g9 k9 s9 r9 x11)
            | (refine at_store rfl (.tmp 7) (.tmp 78) rfl rfl S9.out U.2.1 a3 l3 c3 rfl ?_; intro w10 p10 on10; have HN10 := hide (show ¬ GO G a Ot2 (SO S β2 U.2.2.2.ss) (P + 1) from fun hk => by rcases HS9.out _ hk with h1 | h1; exact HN8.out.2.1 h1; have := HP8.out.1; omega); have HG10 := hide (HG9.out.other on10 HN10.out (fun j x => S9.out.no8 j x)); have HK10 := hide (HK9.out.own on10 (by have := HP8.out.2.2.2.2; omega) (fun j x => S9.out.no8 j x)); have R10 := hide (R9.out.past S9.out on10); have P10 := hide (show V4.PkIn _ _ _ _ _ _ _ _ _ w10 from (on10.2.2.2.2 P HP8.out.2.1).trans P9.out); have D10 := hide (show BdIn _ _ w10 from (on10.2.2.2.2 Db (by have := HP8.out; omega)).trans D9.out); have S10 := hide p10; clear p10 on10))
          have HO10 := hide (show ∀ k, GO G a Ot2 (SO S β2 U.2.2.2.ss) k → GO G a Ot (SO S β g.ss) k ∨ w.heap.size ≤ k from fun k hk => by
            rcases HS9.out k hk with h1 | h1
            · exact HO8.out k h1
            · have := HP8.out
              exact .inr (by omega))
          clear HG9 HK9 R9 P9 S9 D9 HI8 HG5 HF5 HK8 HUp
          by_cases hU : U.1 = 0
          case neg =>
            have HR5 := hide (show R = (U.1, [], U.2.2.2) by rw [HR4.out, if_pos hU])
            have HEv := hide (ev_err hU)
            rw [ev_err hU]
            unfold err
            clear HR4 hU HUo HGb Hs Hz Hh
            go_wp2
            go_ret2
            rw [HR5.out]
            exact ⟨none, 0, 0, by rw [HEv.out]; rfl, ⟨gt_no _, Nat.le_refl _, by unfold maxLen; omega⟩, Ot2, β2, HG10.out, HK10.out, HO10.out⟩
          case pos =>
            have HR5 := hide (show R = (0, p6o (dst x) (cli x) (ttl - 1) (zft U.2.1 (el x 18) (el x 9)) U.2.2.1, U.2.2.2) by rw [HR4.out, if_neg (fun h => h hU)])
            have HUk := hide (HUo.out hU)
            rw [hU, ev_nil]
            clear HR4 hU HUo
            have x1 := S10.out.c1
            have x2 := S10.out.c2
            have y1 := S10.out.frz 1
            have y2 := S10.out.frz 2
            have d18 := D10.out.cell 18 (by omega)
            have d9 := D10.out.cell 9 (by omega)
            obtain ⟨p11, on11⟩ := S10.out.set12 (el x 18) (el x 9)
            have HN10 := hide (show ¬ GO G a Ot2 (SO S β2 U.2.2.2.ss) (P + 1) from fun hk => by rcases HS9.out _ hk with h1 | h1; exact HN8.out.2.1 h1; have := HP8.out.1; omega)
            have HG11 := hide (HG10.out.other on11 HN10.out (fun j x => S10.out.no8 j x))
            have HK11 := hide (HK10.out.own on11 (by have := HP8.out.2.2.2.2; omega) (fun j x => S10.out.no8 j x))
            have R11 := hide (R10.out.past S10.out on11)
            have P11 := hide (show V4.PkIn P s d ttl k i a1 l1 c1 _ from (on11.2.2.2.2 P HP8.out.2.1).trans P10.out)
            have D11 := hide (show BdIn Db x _ from (on11.2.2.2.2 Db (by have := HP8.out; omega)).trans D10.out)
            have S11 := hide p11
            clear p11 on11 HG10 HK10 R10 P10 D10 S10
            go_upto_region 13 with fail
            go_region
            clear x1 x2 y1 y2 d18 d9
            generalize (World.setCell _ _ _).setCell _ _ = w11 at HG11 HK11 R11 P11 D11 S11 ⊢
            go_upto_region 14 with fail
            have hb12 : Below w11.heap.size w11 w11.drew := (Below.refl _ _).drew
            replace HG11 := hide (HG11.out.kept hb12)
            replace HK11 := hide (HK11.out.trans (Kpt.of (O := fun _ => False) hb12) (fun _ h => h.elim))
            replace R11 := hide (R11.out.below hb12)
            replace P11 := hide (P11.out.kept hb12)
            replace D11 := hide (D11.out.kept hb12)
            replace S11 := hide (S11.out.kept hb12)
            clear hb12
            generalize w11.drew = w12 at HG11 HK11 R11 P11 D11 S11 ⊢
            have hl3 := R11.out.1
            subst hl3
            have hh := Hh.out
            have HZZ := hide (show Okg (zft U.2.1 (el x 18) (el x 9)) U.2.2.1.length from zft_ok HUk.out.1 HGb.out.2.2.2.1 HGb.out.2.2.2.2)
            have HCl := hide (fun W (r : Row8 W a3 U.2.2.1.length c3 U.2.2.1) => close6_ok (dst x) (cli x) (ttl - 1) (zft U.2.1 (el x 18) (el x 9)) a3 U.2.2.1.length c3 U.2.2.1 W HGb.out.2.1 HGb.out.2.2.1 (decide_eq_true ⟨by omega, by omega⟩) HZZ.out r)
            have HP6 := hide (show p6o (dst x) (cli x) (ttl - 1) (zft U.2.1 (el x 18) (el x 9)) U.2.2.1 = V6.bys (dst x) (cli x) (ttl - 1) (el (zft U.2.1 (el x 18) (el x 9)) 0) (eb (zft U.2.1 (el x 18) (el x 9)) (o6 (dst x) (cli x) (el (zft U.2.1 (el x 18) (el x 9)) 0) ((hn (el (zft U.2.1 (el x 18) (el x 9)) 0) : Nat) + (U.2.2.1.length : Int))) U.2.2.1) from rfl)
            rw [← HP6.out] at HCl
            have HPl := hide (show 0 < (p6o (dst x) (cli x) (ttl - 1) (zft U.2.1 (el x 18) (el x 9)) U.2.2.1).length from bys_pos _ _ _ _ _)
            generalize p6o (dst x) (cli x) (ttl - 1) (zft U.2.1 (el x 18) (el x 9)) U.2.2.1 = Y at HCl HPl HR5
            generalize zft U.2.1 (el x 18) (el x 9) = zz at HCl S11
            have hwr : IntKind.i64.wrap (ttl - 1) = ttl - 1 := by rw [IntKind.wrap_i64]; omega
            clear HP6 HZZ HGb Hs Hz HUk Hh HN10 HN8 HP8 HS9 HO8 HSs HSi
            have q1 := D11.out.hd
            have q2 := D11.out.hc
            have q3 := P11.out.all.2.2.1
            have q5 := S11.out.gl
            go_wp2_with (go_at_call 79; refine (HCl.out _ R11.out).mono ?_; rintro e w13 ⟨v13, rfl, o13, hb13⟩; obtain ⟨g13, c13, rfl, k1, k2, -, -, r13⟩ := o13.form HPl.out; have HB14 := hide hb13; have HF := hide (And.intro r13 (And.intro k1 k2)); clear hb13 o13 r13 k1 k2 q1 q2 q3 q5)
            go_ret2
            rw [HR5.out]
            exact ⟨_, _, _, rfl, HF.out, Ot2, β2, HG11.out.kept HB14.out, HK11.out.trans (Kpt.of (O := fun _ => False) HB14.out) (fun _ h => h.elim), HO10.out⟩
end Go.Proofs.YtkhahbghmdccaaaGreatDoor

namespace Go.Proofs.YtkhahbghmdccaaaGreatDoor
open Go.RowKit
theorem in4_any (G : Nat) (a : Option Addr) (cap : Nat) (tv : Value) (S : Nat) (Ot : Nat → Prop) (β : Int → Nat) (g : GS) (b : Option Addr) (len bcap : Nat) (zs : List Int) (w : World) (h : GC G a cap tv S Ot β g w) (hi : TI g) (hs : SI g) (hr : Row8 w b len bcap zs) (hcl : len ≤ bcap) (hcm : bcap ≤ maxLen) :
    Calls Tryz.prog 24 #[.pointer (some ⟨G, 0, none⟩), .slice b len bcap] w fun e w' => ∃ a2 l2 c2, e = .returned (.tuple #[.slice a2 l2 c2, ev (g4 g zs).1]) ∧ (Row8 w' a2 l2 c2 (g4 g zs).2.1 ∧ l2 ≤ c2 ∧ c2 ≤ maxLen) ∧ GQ w G a cap tv S Ot β g (g4 g zs).2.2 w' := by
  by_cases hG : P4.Good zs
  · by_cases hE : (o4s zs).1 = 0
    · have ho := hr.2.2.1
      have hk := oso_ok hE
      refine in4_go G a cap tv S Ot β g b len bcap (P4.src zs) (P4.dst zs) (zs.getD 8 0) (zs.getD 9 0) (P4.wd zs 4) (o4s zs).2.1 (o4s zs).2.2 w h hi hs hk.1 ⟨hk.2.2.2, (ho 8).2⟩ ?_ (g4 g zs) ?_
      · have h1 := open4_good b len bcap zs w hr hcl hcm hG
        rw [hE, ev_nil] at h1
        exact h1
      · unfold g4
        rw [if_neg (fun h => h hG), if_neg (fun h => h hE)]
    · have e : g4 g zs = ((o4s zs).1, [], g) := by unfold g4; rw [if_neg (fun h => h hG), if_pos hE]
      rw [e]
      refine (in4_stop G b len bcap (o4s zs).1 w ?_).mono fun r w' ⟨e1, e2⟩ => ⟨none, 0, 0, by rw [e1, ev_err hE], ⟨gt_no _, Nat.le_refl _, by unfold maxLen; omega⟩, h.still e2⟩
      have h1 := open4_good b len bcap zs w hr hcl hcm hG
      rw [ev_err hE] at h1
      exact h1.mono fun r w' ⟨a1, l1, c1, a2, l2, c2, e1, _, e3⟩ => ⟨⟨_, _, _, _, _, _, _, _, _, _, _, _, e1⟩, e3⟩
  · have e : g4 g zs = (e4 zs, [], g) := by unfold g4; exact if_pos hG
    rw [e]
    refine (in4_stop G b len bcap (e4 zs) w ?_).mono fun r w' ⟨e1, e2⟩ => ⟨none, 0, 0, by rw [e1, ev_err (e4_pos zs)], ⟨gt_no _, Nat.le_refl _, by unfold maxLen; omega⟩, h.still e2⟩
    exact (open4_bad b len bcap zs w hr hcl hcm hG).mono fun r w' ⟨e1, e3⟩ => ⟨⟨_, _, _, _, _, _, _, _, _, _, _, _, e1⟩, e3⟩
end Go.Proofs.YtkhahbghmdccaaaGreatDoor
