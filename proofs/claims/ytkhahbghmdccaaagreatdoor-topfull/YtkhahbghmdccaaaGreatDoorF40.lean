/- Package gate: what goes up, and down, by contracts. Package gate: what goes down, by a contract. A gate and a client's packet, as numbers and bytes: what goes on, and what comes of the gate. -/
import Derived.Test.YtkhahbghmdccaaaGreatDoorF39
import Derived.Below
import Derived.OpenShut
import Derived.Test.YtkhahbghmdccaaaGreatDoorProg
import Derived.WalkKit
import Derived.LaidEql
import Derived.BigQuiet
import Derived.Laws.AppendOwnNone
import Derived.Laws.MakeOwn
import Derived.Deep.RegionLaw
import Derived.Lib.Bytes
import Derived.Deep.MidRow
import Derived.Laws.ResultCell
import Derived.Deep.CutBlock
import Derived.Deep.QuietTactic
import Derived.OwnWalk
import Derived.Deep.RegionHeld3
import Derived.Deep.DrawnRows
import Derived.Laws.StructEq
import Derived.Maps.AppendAt
import Derived.Maps.RangeWalk
import Derived.Stop.Asserts
import Derived.RowKitTokens
import Derived.Test.YtkhahbghmdccaaaGreatDoorShelf
import Derived.Shelf.Abstract
import Derived.Lib.SliceRun
import Derived.Lib.AppendZerosOnto
import Derived.Lib.AppendZeros
import Derived.Laws.CopyOwn
import Derived.RangeFuncNested
import Derived.RangeFuncBound
import Derived.RangeFuncCalls
import Derived.RangeFuncLeaves
import Derived.RangeFuncFrom
import Derived.Shelf.RegionOpen
import Derived.OwnWalkIn
import Derived.TacticsInMore
import Derived.LoopNIn
import Derived.LoopIn
import Derived.Deep.RegionWith
import Derived.ArgAppend
import Derived.Lib.SlBytesConst
import Derived.Lib.AppendStr
import Derived.Test.YtkhahbghmdccaaaGreatDoorF35
namespace Go.Proofs.YtkhahbghmdccaaaGreatDoor
open Go.RowKit
def sfd (ss : List (Int × List Int × Int × Bool × Bool)) (p : Int) : Option (List Int × Int × Bool × Bool) := (ss.find? (fun x => x.1 == p)).map (·.2)
theorem sfd_some {ss : List (Int × List Int × Int × Bool × Bool)} {p : Int} {st : List Int × Int × Bool × Bool} (h : sfd ss p = some st) : (p, st) ∈ ss := by
  unfold sfd at h
  obtain ⟨x, hx, e⟩ := Option.map_eq_some_iff.1 h
  have h1 := List.mem_of_find?_eq_some hx
  have h2 : x.1 = p := by simpa using List.find?_some hx
  rw [← h2, ← e]
  exact h1
theorem sfd_none {ss : List (Int × List Int × Int × Bool × Bool)} {p : Int} (h : sfd ss p = none) : ∀ x ∈ ss, x.1 ≠ p := by
  unfold sfd at h
  rw [Option.map_eq_none_iff, List.find?_eq_none] at h
  intro x hx e
  exact h x hx (by simpa using e)
def stf (g : GS) (b : List Int) : List (Int × List Int × Int × Bool × Bool) × List Int × Int × Bool × Bool := match sfd g.ss (el b 19) with
  | some st => (g.ss, st)
  | none => ((el b 19, hb b, 0, false, false) :: g.ss, hb b, 0, false, false)
theorem streamof_any (G : Nat) (a : Option Addr) (cap : Nat) (tv : Value) (S : Nat) (Ot : Nat → Prop) (β : Int → Nat) (g : GS) (b : List Int) (w : World) (h : GC G a cap tv S Ot β g w) (hf : okf b = true) :
    Calls Tryz.prog 124 #[.pointer (some ⟨G, 0, none⟩), .agg (bdC b)] w fun e w' => ∃ β', e = .returned (.tuple #[.pointer (some ⟨β' (el b 19), 0, none⟩), .nilIface]) ∧ GC G a cap tv S Ot β' (g.str (stf g b).1) w' ∧ Kpt (GO G a Ot (SO S β g.ss)) w w' ∧ (∀ k, SO S β' (stf g b).1 k → SO S β g.ss k ∨ w.heap.size ≤ k) ∧ (el b 19, (stf g b).2) ∈ (stf g b).1 := by
  cases hs : sfd g.ss (el b 19) with
  | some st =>
    have e : stf g b = (g.ss, st) := by unfold stf; rw [hs]
    rw [e]
    have hm := sfd_some hs
    exact (streamof_has G a cap tv S Ot β g b _ w h hm rfl).mono fun r w' ⟨e1, e2⟩ => ⟨β, e1, h.kept e2, Kpt.of e2, fun _ hk => .inl hk, hm⟩
  | none =>
    have e : stf g b = ((el b 19, hb b, 0, false, false) :: g.ss, hb b, 0, false, false) := by unfold stf; rw [hs]
    rw [e]
    refine (streamof_new G a cap tv S Ot β g b w h (sfd_none hs) hf).mono ?_
    rintro r w' ⟨B, e1, e2, e3, e4⟩
    refine ⟨βp β (el b 19) B, ?_, e3, e4, ?_, List.mem_cons_self ..⟩
    · rw [e1, show βp β (el b 19) B (el b 19) = B from if_pos rfl]
    · rintro k (h1 | ⟨x, hx, h1⟩)
      · exact .inl (.inl h1)
      · rcases List.mem_cons.1 hx with rfl | hx
        · rw [h1, show βp β (el b 19) B (el b 19) = B from if_pos rfl]
          exact .inr e2
        · exact .inl (.inr ⟨x, hx, by rw [h1]; exact if_neg (sfd_none hs x hx)⟩)
def guo (g : GS) (b z D : List Int) : Int × List Int × List Int × GS :=
  if tell g.c g.inj b = true then ((upo (stf g b).2.1 (stf g b).2.2.1 (stf g b).2.2.2.1 (stf g b).2.2.2.2 z D).1, (upo (stf g b).2.1 (stf g b).2.2.1 (stf g b).2.2.2.1 (stf g b).2.2.2.2 z D).2.1, (upo (stf g b).2.1 (stf g b).2.2.1 (stf g b).2.2.2.1 (stf g b).2.2.2.2 z D).2.2.1, g.str (sup (el b 19) ((stf g b).2.1, (upo (stf g b).2.1 (stf g b).2.2.1 (stf g b).2.2.2.1 (stf g b).2.2.2.2 z D).2.2.2) (stf g b).1))
  else (0, z, D, g)
def gdo (g : GS) (b z D : List Int) : Int × List Int × List Int × GS := match sfd g.ss (el b 19) with
  | some st => ((dno st.2.1 st.2.2.1 st.2.2.2 z D).1, (dno st.2.1 st.2.2.1 st.2.2.2 z D).2.1, (dno st.2.1 st.2.2.1 st.2.2.2 z D).2.2.1, g.str (sup (el b 19) (st.1, (dno st.2.1 st.2.2.1 st.2.2.2 z D).2.2.2) g.ss))
  | none => (0, z, D, g)
def SI (g : GS) : Prop := (∀ x ∈ g.ss, (x.2.2.2.2 = true → x.2.2.2.1 = true) ∧ 0 ≤ x.2.2.1 ∧ x.2.2.1 < 4294967296)
theorem stf_si {g : GS} (h : SI g) (b : List Int) : ((stf g b).2.2.2.2 = true → (stf g b).2.2.2.1 = true) ∧ 0 ≤ (stf g b).2.2.1 ∧ (stf g b).2.2.1 < 4294967296 := by
  unfold stf
  split
  · rename_i st hs
    exact h _ (sfd_some hs)
  · exact ⟨(fun h => by cases h), (by show (0 : Int) ≤ 0; decide), (by show (0 : Int) < 4294967296; decide)⟩
def UK (w : World) (b z : List Int) (a1 : Option Addr) (l1 c1 : Nat) (D : List Int) (W : World) : Prop := BdIn w.heap.size b W ∧ SgIn (w.heap.size + 1) z a1 l1 c1 W ∧ SgIn (w.heap.size + 2) [] none 0 0 W ∧ Row8 W a1 l1 c1 D ∧ w.heap.size + 2 < W.heap.size
theorem UK.kpt {w : World} {b z : List Int} {a1 : Option Addr} {l1 c1 : Nat} {D : List Int} {W W' : World} (h : UK w b z a1 l1 c1 D W) {O : Nat → Prop} (k : Kpt O W W') (hO : ∀ g, O g → g < w.heap.size) : UK w b z a1 l1 c1 D W' := by
  have hk : ∀ g, w.heap.size ≤ g → g < W.heap.size → W'.heap[g]? = W.heap[g]? := fun g h1 h2 => k.1.2.2.2.2 g h2 (fun ho => by have := hO g ho; omega)
  have hs := h.2.2.2.2
  exact ⟨(hk _ (Nat.le_refl _) (by omega)).trans h.1, (hk _ (by omega) (by omega)).trans h.2.1, (hk _ (by omega) (by omega)).trans h.2.2.1, k.2 _ _ _ _ h.2.2.2.1, Nat.lt_of_lt_of_le hs k.size⟩
theorem UK.kept {w : World} {b z : List Int} {a1 : Option Addr} {l1 c1 : Nat} {D : List Int} {W W' : World} (h : UK w b z a1 l1 c1 D W) (hb : Below W.heap.size W W') : UK w b z a1 l1 c1 D W' := h.kpt (Kpt.of (O := fun _ => False) hb) (fun _ h => h.elim)
theorem UK.start (w : World) (b z : List Int) (a1 : Option Addr) (l1 c1 : Nat) (D : List Int) (hr : Row8 w a1 l1 c1 D) : UK w b z a1 l1 c1 D (((w.alloc (.cells (bdC b) 75)).alloc (.cells (sgC z a1 l1 c1) 39)).alloc (.cells zero7 39)) ∧ Below w.heap.size w (((w.alloc (.cells (bdC b) 75)).alloc (.cells (sgC z a1 l1 c1) 39)).alloc (.cells zero7 39)) := by
  have b1 := al_below w (.cells (bdC b) 75)
  have b2 := al_below (w.alloc (.cells (bdC b) 75)) (.cells (sgC z a1 l1 c1) 39)
  have b3 := al_below ((w.alloc (.cells (bdC b) 75)).alloc (.cells (sgC z a1 l1 c1) 39)) (.cells zero7 39)
  have p2 := sg_new (w.alloc (.cells (bdC b) 75)) z a1 l1 c1
  have p3 := zero_new ((w.alloc (.cells (bdC b) 75)).alloc (.cells (sgC z a1 l1 c1) 39))
  rw [World.size_alloc] at p2
  rw [World.size_alloc, World.size_alloc] at p3
  have hb := bt (bt b1 b2) b3
  exact ⟨⟨((bd_new b w).kept b2).kept b3, p2.kept b3, p3, hr.below hb, by simp⟩, hb⟩
attribute [local go_sem ↓] fload_shut bload_shut slk_shut gload_shut
set_option maxRecDepth 100000 in
set_option maxHeartbeats 4000000 in
theorem gup_no (G : Nat) (a : Option Addr) (cap : Nat) (tv : Value) (S : Nat) (Ot : Nat → Prop) (β : Int → Nat) (g : GS) (b z : List Int) (a1 : Option Addr) (l1 c1 : Nat) (D : List Int) (w : World) (h : GC G a cap tv S Ot β g w) (hr : Row8 w a1 l1 c1 D) (ht : tell g.c g.inj b = false) :
    Calls Tryz.prog 67 #[.pointer (some ⟨G, 0, none⟩), .agg (bdC b), .agg (sgC z a1 l1 c1)] w fun e w' => ∃ a2 l2 c2, e = .returned (.tuple #[.agg (sgC (guo g b z D).2.1 a2 l2 c2), ev (guo g b z D).1]) ∧ Row8 w' a2 l2 c2 (guo g b z D).2.2.1 ∧ GQ w G a cap tv S Ot β g (guo g b z D).2.2.2 w' := by
  rw [show guo g b z D = (0, z, D, g) from if_neg (by rw [ht]; decide)]
  obtain ⟨hk, hb⟩ := UK.start w b z a1 l1 c1 D hr
  have HK := hide hk
  have HB := hide hb
  unfold zero7 at HK HB
  have H0 := hide h
  have HT := hide (fun W (hW : Below w.heap.size w W) => tells_any G g.c g.inj a g.bk.length cap tv S g.now b W (h.1.kept hW))
  rw [ht] at HT
  clear h hr ht hk hb
  go_enter Tryz.func67, Tryz.ntmps67
  go_upto_region 1 with fail
  generalize ((World.alloc _ _).alloc _).alloc _ = W at HK HB ⊢
  have l := HK.out.1.ff
  go_upto_region 2 with (go_at_call 65; refine (HT.out _ HB.out).mono ?_; rintro e w1 ⟨rfl, hb1⟩; replace HK := hide (HK.out.kept hb1); replace HB := hide (bt HB.out hb1); clear hb1 l)
  go_wp2_with (first
    | (refine at_load rfl (.tmp 5) rfl rfl HK.out.2.1 ?_)
    | (refine at_store rfl (.tmp 6) (.tmp 15) rfl rfl HK.out.2.2.1 z a1 l1 c1 rfl ?_; intro w5 p5 on5; have HB5 := hide (on5.below HB.out (by omega)); have r5 := hide (HK.out.2.2.2.1.past HK.out.2.2.1 on5); replace p5 := hide p5; clear on5))
  try simp only [Exit.inBlock, Exit.then]
  refine bodyPost_ret (results_sg rfl _ _ (w.heap.size + 2) z a1 l1 c1 rfl p5.out) rfl ?_
  exact ⟨a1, l1, c1, rfl, r5.out, H0.out.still HB5.out⟩
set_option maxRecDepth 100000 in
set_option maxHeartbeats 4000000 in
theorem gup_yes (G : Nat) (a : Option Addr) (cap : Nat) (tv : Value) (S : Nat) (Ot : Nat → Prop) (β : Int → Nat) (g : GS) (b z : List Int) (a1 : Option Addr) (l1 c1 : Nat) (D : List Int) (w : World) (h : GC G a cap tv S Ot β g w) (hs : SI g) (hf : okf b = true) (hr : Row8 w a1 l1 c1 D) (ht : tell g.c g.inj b = true) :
    Calls Tryz.prog 67 #[.pointer (some ⟨G, 0, none⟩), .agg (bdC b), .agg (sgC z a1 l1 c1)] w fun e w' => ∃ a2 l2 c2, e = .returned (.tuple #[.agg (sgC (guo g b z D).2.1 a2 l2 c2), ev (guo g b z D).1]) ∧ Row8 w' a2 l2 c2 (guo g b z D).2.2.1 ∧ GQ w G a cap tv S Ot β g (guo g b z D).2.2.2 w' := by
  unfold guo
  rw [if_pos ht]
  obtain ⟨hk, hb⟩ := UK.start w b z a1 l1 c1 D hr
  have HK := hide hk
  have HB := hide hb
  unfold zero7 at HK HB
  have H0 := hide h
  have HT := hide (fun W (hW : Below w.heap.size w W) => tells_any G g.c g.inj a g.bk.length cap tv S g.now b W (h.1.kept hW))
  rw [ht] at HT
  have HS := hide (fun W (hW : GC G a cap tv S Ot β g W) => streamof_any G a cap tv S Ot β g b W hW hf)
  have hsi := (stf_si hs b).1
  obtain ⟨ss1, st1, hst⟩ : ∃ ss1 st1, stf g b = (ss1, st1) := ⟨_, _, rfl⟩
  rw [hst] at HS hsi ⊢
  have HU := hide (fun W B (p : ST 267 B st1.1 st1.2.1 st1.2.2.1 st1.2.2.2 W) (r : Row8 W a1 l1 c1 D) => up_any B st1.1 st1.2.1 st1.2.2.1 st1.2.2.2 z a1 l1 c1 D W p hsi r)
  dsimp only at HS ⊢
  generalize upo st1.1 st1.2.1 st1.2.2.1 st1.2.2.2 z D = O at HU ⊢
  clear h hr ht hk hb hs hf hsi hst
  go_enter Tryz.func67, Tryz.ntmps67
  go_upto_region 1 with fail
  generalize ((World.alloc _ _).alloc _).alloc _ = W at HK HB ⊢
  have l := HK.out.1.ff
  go_upto_region 3 with (go_at_call 65; refine (HT.out _ HB.out).mono ?_; rintro e w1 ⟨rfl, hb1⟩; replace HK := hide (HK.out.kept hb1); replace HB := hide (bt HB.out hb1); clear hb1 l)
  have l := HK.out.1.bl
  go_upto_region 6 with (go_at_call 124; refine (HS.out _ (H0.out.kept HB.out)).mono ?_; rintro e w2 ⟨β', rfl, g2, k2, s2, m2⟩; have HK2 := hide (HK.out.kpt k2 (fun k hk => H0.out.lt hk)); have HG2 := hide g2; have HKp := hide ((Kpt.of (O := GO G a Ot (SO S β g.ss)) HB.out).trans k2 (fun k hk => .inl hk)); have HSo := hide (show ∀ k, SO S β' ss1 k → SO S β g.ss k ∨ w.heap.size + 2 < k from fun k hk => (s2 k hk).imp id (fun h => by have := HK.out.2.2.2.2; omega)); have HM := hide m2; clear g2 k2 s2 m2 l HK)
  clear HB HS HT
  have HST := hide (HG2.out.2.2.2.1.2.1 _ HM.out)
  go_wp2_with (first
    | (refine at_load rfl (.tmp 5) rfl rfl HK2.out.2.1 ?_)
    | (go_at_call 125; refine (HU.out _ _ HST.out HK2.out.2.2.2.1).mono ?_; rintro e w3 ⟨a3, l3, c3, rfl, r3, st3, u3⟩; obtain ⟨g3, k3⟩ := HG2.out.turn HM.out u3 st3; have HK3 := hide (show SgIn (w.heap.size + 2) [] none 0 0 w3 from (u3.2.2.2.2 _ (by have := HK2.out.2.2.2.2; omega) (fun e => by rcases HSo.out (w.heap.size + 2) (.inr ⟨_, HM.out, e⟩) with h1 | h1; exact absurd (H0.out.2.2.2.1.lt h1) (by omega); omega)).trans HK2.out.2.2.1); have HG3 := hide g3; replace HKp := hide (HKp.out.trans k3 (fun k hk => by rcases hk with h1 | h1 | h1 | h1; exact .inl (.inl h1); exact .inl (.inr (.inl h1)); exact .inl (.inr (.inr (.inl h1))); rcases HSo.out k h1 with h2 | h2; exact .inl (.inr (.inr (.inr h2))); exact .inr (by omega))); have r3 := hide r3; clear g3 k3 st3 u3 HK2 HG2 HST)
    | (refine at_store rfl (.tmp 6) (.tmp 29) rfl rfl HK3.out O.2.1 a3 l3 c3 rfl ?_; intro w5 p5 on5; have r5 := hide (r3.out.past HK3.out on5); have HN := hide (show ¬ GO G a Ot (SO S β' (g.str (sup (el b 19) (st1.1, O.2.2.2) ss1)).ss) (w.heap.size + 2) by rintro (h1 | h1 | h1 | h1); exact absurd H0.out.1.lt (by omega); exact absurd (H0.out.2.1.2.1 _ h1) (by omega); exact absurd (H0.out.ot h1) (by omega); rcases HSo.out _ ((sup_so _ _ _ _ _ _).1 h1) with h2 | h2; exact absurd (H0.out.2.2.2.1.lt h2) (by omega); omega); have HG5 := hide (HG3.out.other on5 HN.out (fun j x => HK3.out.no8 j x)); have HK5 := hide (HKp.out.own on5 (by omega) (fun j x => HK3.out.no8 j x)); replace p5 := hide p5; clear on5))
  try simp only [Exit.inBlock, Exit.then]
  refine bodyPost_ret (results_sg rfl _ _ (w.heap.size + 2) O.2.1 a3 l3 c3 rfl p5.out) rfl ?_
  refine ⟨a3, l3, c3, rfl, r5.out, Ot, β', HG5.out, HK5.out, ?_⟩
  rintro k (h1 | h1 | h1 | h1)
  · exact .inl (.inl h1)
  · exact .inl (.inr (.inl h1))
  · exact .inl (.inr (.inr (.inl h1)))
  · rcases HSo.out k ((sup_so _ _ _ _ _ _).1 h1) with h2 | h2
    · exact .inl (.inr (.inr (.inr h2)))
    · exact .inr (by omega)
end Go.Proofs.YtkhahbghmdccaaaGreatDoor

namespace Go.Proofs.YtkhahbghmdccaaaGreatDoor
open Go.RowKit
attribute [local go_sem ↓] slk_shut gload_shut
set_option maxRecDepth 100000 in
set_option maxHeartbeats 4000000 in
theorem gdown_no (G : Nat) (a : Option Addr) (cap : Nat) (tv : Value) (S : Nat) (Ot : Nat → Prop) (β : Int → Nat) (g : GS) (b z : List Int) (a1 : Option Addr) (l1 c1 : Nat) (D : List Int) (w : World) (h : GC G a cap tv S Ot β g w) (hr : Row8 w a1 l1 c1 D) (ht : sfd g.ss (el b 19) = none) :
    Calls Tryz.prog 78 #[.pointer (some ⟨G, 0, none⟩), .agg (bdC b), .agg (sgC z a1 l1 c1)] w fun e w' => ∃ a2 l2 c2, e = .returned (.tuple #[.agg (sgC (gdo g b z D).2.1 a2 l2 c2), ev (gdo g b z D).1]) ∧ Row8 w' a2 l2 c2 (gdo g b z D).2.2.1 ∧ GQ w G a cap tv S Ot β g (gdo g b z D).2.2.2 w' := by
  rw [show gdo g b z D = (0, z, D, g) by unfold gdo; rw [ht]]
  obtain ⟨hk, hb⟩ := UK.start w b z a1 l1 c1 D hr
  have HK := hide hk
  have HB := hide hb
  unfold zero7 at HK HB
  have H0 := hide h
  have HN := hide (sfd_none ht)
  clear h hr ht hk hb
  go_enter Tryz.func78, Tryz.ntmps78
  go_upto_region 1 with fail
  generalize ((World.alloc _ _).alloc _).alloc _ = W at HK HB ⊢
  have q1 := (H0.out.kept HB.out).1.streams
  have q2 := HK.out.1.cell 19 (by omega)
  have q3 := fun k => SS.no (w := W.drewN k) ((H0.out.kept (drn HB.out k)).2.2.2.1) HN.out
  have HKn := hide (fun n => HK.out.kept (W' := World.drewN W n) ⟨rfl, rfl, rfl, Nat.le_refl _, fun _ _ => rfl⟩)
  have HBn := hide (fun n => drn HB.out n)
  clear HK HB
  go_quiet (fail)
  clear q1 q2 q3
  generalize hW : World.drewN _ _ = W1
  have HK : Hid (UK w b z a1 l1 c1 D W1) := by rw [← hW]; exact HKn.out _
  have HB : Hid (Below w.heap.size w W1) := by rw [← hW]; exact HBn.out _
  clear hW HKn HBn
  go_wp2_with (first
    | (refine at_load rfl (.tmp 5) rfl rfl HK.out.2.1 ?_)
    | (refine at_store rfl (.tmp 6) (.tmp 22) rfl rfl HK.out.2.2.1 z a1 l1 c1 rfl ?_; intro w5 p5 on5; have HB5 := hide (on5.below HB.out (by omega)); have r5 := hide (HK.out.2.2.2.1.past HK.out.2.2.1 on5); replace p5 := hide p5; clear on5))
  try simp only [Exit.inBlock, Exit.then]
  refine bodyPost_ret (results_sg rfl _ _ (w.heap.size + 2) z a1 l1 c1 rfl p5.out) rfl ?_
  exact ⟨a1, l1, c1, rfl, r5.out, H0.out.still HB5.out⟩
set_option maxRecDepth 100000 in
set_option maxHeartbeats 4000000 in
theorem gdown_yes (G : Nat) (a : Option Addr) (cap : Nat) (tv : Value) (S : Nat) (Ot : Nat → Prop) (β : Int → Nat) (g : GS) (b z : List Int) (a1 : Option Addr) (l1 c1 : Nat) (D : List Int) (st : List Int × Int × Bool × Bool) (w : World) (h : GC G a cap tv S Ot β g w) (hs : SI g) (hr : Row8 w a1 l1 c1 D) (ht : sfd g.ss (el b 19) = some st) :
    Calls Tryz.prog 78 #[.pointer (some ⟨G, 0, none⟩), .agg (bdC b), .agg (sgC z a1 l1 c1)] w fun e w' => ∃ a2 l2 c2, e = .returned (.tuple #[.agg (sgC (gdo g b z D).2.1 a2 l2 c2), ev (gdo g b z D).1]) ∧ Row8 w' a2 l2 c2 (gdo g b z D).2.2.1 ∧ GQ w G a cap tv S Ot β g (gdo g b z D).2.2.2 w' := by
  rw [show gdo g b z D = ((dno st.2.1 st.2.2.1 st.2.2.2 z D).1, (dno st.2.1 st.2.2.1 st.2.2.2 z D).2.1, (dno st.2.1 st.2.2.1 st.2.2.2 z D).2.2.1, g.str (sup (el b 19) (st.1, (dno st.2.1 st.2.2.1 st.2.2.2 z D).2.2.2) g.ss)) by unfold gdo; rw [ht]]
  obtain ⟨hk, hb⟩ := UK.start w b z a1 l1 c1 D hr
  have HK := hide hk
  have HB := hide hb
  unfold zero7 at HK HB
  have H0 := hide h
  have HM := hide (sfd_some ht)
  have hsi := (hs _ (sfd_some ht)).2
  have HU := hide (fun W B (p : ST 267 B st.1 st.2.1 st.2.2.1 st.2.2.2 W) (r : Row8 W a1 l1 c1 D) => down_any B st.1 st.2.1 st.2.2.1 st.2.2.2 z a1 l1 c1 D W p hsi r)
  generalize dno st.2.1 st.2.2.1 st.2.2.2 z D = O at HU ⊢
  clear h hr ht hk hb hs hsi
  go_enter Tryz.func78, Tryz.ntmps78
  go_upto_region 1 with fail
  generalize ((World.alloc _ _).alloc _).alloc _ = W at HK HB ⊢
  have q1 := (H0.out.kept HB.out).1.streams
  have q2 := HK.out.1.cell 19 (by omega)
  have q3 := fun k => SS.yes (w := W.drewN k) ((H0.out.kept (drn HB.out k)).2.2.2.1) HM.out
  have HKn := hide (fun n => HK.out.kept (W' := World.drewN W n) ⟨rfl, rfl, rfl, Nat.le_refl _, fun _ _ => rfl⟩)
  have HBn := hide (fun n => drn HB.out n)
  clear HK HB
  go_quiet (fail)
  clear q1 q2 q3
  generalize hW : World.drewN _ _ = W1
  have HK : Hid (UK w b z a1 l1 c1 D W1) := by rw [← hW]; exact HKn.out _
  have HB : Hid (Below w.heap.size w W1) := by rw [← hW]; exact HBn.out _
  clear hW HKn HBn
  have HG := hide (H0.out.kept HB.out)
  have HST := hide (HG.out.2.2.2.1.2.1 _ HM.out)
  go_wp2_with (first
    | (refine at_load rfl (.tmp 5) rfl rfl HK.out.2.1 ?_)
    | (go_at_call 135; refine (HU.out _ _ HST.out HK.out.2.2.2.1).mono ?_; rintro e w3 ⟨a3, l3, c3, rfl, r3, st3, u3⟩; obtain ⟨g3, k3⟩ := HG.out.turn HM.out u3 st3; have HK3 := hide (show SgIn (w.heap.size + 2) [] none 0 0 w3 from (u3.2.2.2.2 _ (by have := HK.out.2.2.2.2; omega) (fun e => by have := H0.out.2.2.2.1.lt (.inr ⟨_, HM.out, e⟩); omega)).trans HK.out.2.2.1); have HG3 := hide g3; have HKp := hide ((Kpt.of (O := GO G a Ot (SO S β g.ss)) HB.out).trans k3 (fun k hk => .inl hk)); have r3 := hide r3; clear g3 k3 st3 u3 HK HG HST)
    | (refine at_store rfl (.tmp 6) (.tmp 26) rfl rfl HK3.out O.2.1 a3 l3 c3 rfl ?_; intro w5 p5 on5; have r5 := hide (r3.out.past HK3.out on5); have HN := hide (show ¬ GO G a Ot (SO S β (g.str (sup (el b 19) (st.1, O.2.2.2) g.ss)).ss) (w.heap.size + 2) by rintro (h1 | h1 | h1 | h1); exact absurd H0.out.1.lt (by omega); exact absurd (H0.out.2.1.2.1 _ h1) (by omega); exact absurd (H0.out.ot h1) (by omega); exact absurd (H0.out.2.2.2.1.lt ((sup_so _ _ _ _ _ _).1 h1)) (by omega)); have HG5 := hide (HG3.out.other on5 HN.out (fun j x => HK3.out.no8 j x)); have HK5 := hide (HKp.out.own on5 (by omega) (fun j x => HK3.out.no8 j x)); replace p5 := hide p5; clear on5))
  try simp only [Exit.inBlock, Exit.then]
  refine bodyPost_ret (results_sg rfl _ _ (w.heap.size + 2) O.2.1 a3 l3 c3 rfl p5.out) rfl ?_
  refine ⟨a3, l3, c3, rfl, r5.out, Ot, β, HG5.out, HK5.out, ?_⟩
  rintro k (h1 | h1 | h1 | h1)
  · exact .inl (.inl h1)
  · exact .inl (.inr (.inl h1))
  · exact .inl (.inr (.inr (.inl h1)))
  · exact .inl (.inr (.inr (.inr ((sup_so _ _ _ _ _ _).1 h1))))
end Go.Proofs.YtkhahbghmdccaaaGreatDoor

namespace Go.Proofs.YtkhahbghmdccaaaGreatDoor
open Go.RowKit
def fl5 (k : Int) (s : List Int) (p : Int) (d : List Int) (q : Int) : List Int := [k, el s 0, el s 1, el s 2, el s 3, el s 4, el s 5, el s 6, el s 7, p, el d 0, el d 1, el d 2, el d 3, el d 4, el d 5, el d 6, el d 7, q]
def zft (z : List Int) (f t : Int) : List Int := [el z 0, f, t, el z 3, el z 4, el z 5, el z 6]
def whr (g : GS) (f : List Int) (l : Bool × Int) : Int × Int × Int := if l.1 = true then (el (pko (el g.c 19) f g.bk).1 1, el (pko (el g.c 19) f g.bk).1 2, (pko (el g.c 19) f g.bk).2) else (l.2, el f 18, 0)
def f6 (zs : List Int) : List Int := fl5 (el (o6s zs).2.1 0) (adr zs 8) (el (o6s zs).2.1 1) (adr zs 24) (el (o6s zs).2.1 2)
def g6b (g : GS) (b : List Int) (hop : Int) (z D : List Int) : Int × List Int × GS :=
  if (guo g b z D).1 ≠ 0 then ((guo g b z D).1, [], (guo g b z D).2.2.2)
  else (0, p4o (el g.c 18) (el b 20) (hop - 1) (zft (guo g b z D).2.1 (el b 19) (el b 21)) (guo g b z D).2.2.1, (guo g b z D).2.2.2)
def g6 (g : GS) (zs : List Int) : Int × List Int × GS :=
  if ¬ (40 ≤ zs.length ∧ zs.length ≤ 360 ∧ P4.wd zs 0 = 24576 ∧ P4.wd zs 2 = 0 ∧ P4.wd zs 4 = (zs.length : Int) - 40) then (5, [], g)
  else if (o6s zs).1 ≠ 0 then ((o6s zs).1, [], g)
  else if (ldo g.c (f6 zs)).1 ≠ 0 then (4, [], g)
  else if tell g.c g.inj (f6 zs) = true ∧ el (o6s zs).2.1 5 / 2 % 2 = 1 ∧ 0 < (o6s zs).2.2.length then (2, [], g)
  else if (bdo g (f6 zs) (el (o6s zs).2.1 5) (whr g (f6 zs) (ldo g.c (f6 zs)).2)).1 ≠ 0 then ((bdo g (f6 zs) (el (o6s zs).2.1 5) (whr g (f6 zs) (ldo g.c (f6 zs)).2)).1, [], (bdo g (f6 zs) (el (o6s zs).2.1 5) (whr g (f6 zs) (ldo g.c (f6 zs)).2)).2.2)
  else g6b (bdo g (f6 zs) (el (o6s zs).2.1 5) (whr g (f6 zs) (ldo g.c (f6 zs)).2)).2.2 (bdo g (f6 zs) (el (o6s zs).2.1 5) (whr g (f6 zs) (ldo g.c (f6 zs)).2)).2.1 (zs.getD 7 0) (o6s zs).2.1 (o6s zs).2.2
def CI (g : GS) : Prop := Ok6 (vip g.c) ∧ Ok6 (pfx g.c) ∧ Em.LongP (el g.c 17) ∧ up 4294967295 (el g.c 18) = true ∧ (bf g.bk).2 = 0
theorem oso_ok {k over steps : Int} {zs : List Int} (h : (oso k over steps zs).1 = 0) : Okg (oso k over steps zs).2.1 (oso k over steps zs).2.2.length ∧ el (oso k over steps zs).2.1 0 = k ∧ eb (oso k over steps zs).2.1 over (oso k over steps zs).2.2 = zs ∧ 2 ≤ steps := by
  unfold oso at h ⊢
  split at h
  · cases h
  · split at h
    · rename_i h1 h2
      exact absurd h h2
    · split at h
      · cases h
      · rename_i h1 h2 h3
        rw [if_neg h1, if_neg h2, if_neg h3]
        obtain ⟨q1, q2, q3⟩ := sdo_ok h
        exact ⟨q1, q2, q3, by omega⟩
theorem zft_ok {z : List Int} {n : Nat} (h : Okg z n) {f t : Int} (hf : 0 ≤ f ∧ f ≤ 65535) (ht : 0 ≤ t ∧ t ≤ 65535) : Okg (zft z f t) n := ⟨hf, ht, h.2.2.1, h.2.2.2⟩
theorem zq_ok {z : List Int} {n : Nat} (h : Okg z n) (h6 : el z 0 = 6) {q : Int} (hq : 0 ≤ q ∧ q < 4294967296) {m : Nat} (hm : m ≤ 300) : Okg (zq z q) m := by
  obtain ⟨h1, h2, _, h4 | h4⟩ := h
  · exact ⟨h1, h2, hm, .inl ⟨h6, ⟨hq.1, by show q ≤ 4294967295; omega⟩, h4.2.2⟩⟩
  · omega
theorem za_ok {z : List Int} {n : Nat} (h : Okg z n) (h6 : el z 0 = 6) {q : Int} (hq : 0 ≤ q ∧ q < 4294967296) : Okg (za z q) n := by
  obtain ⟨h1, h2, h3, h4 | h4⟩ := h
  · exact ⟨h1, h2, h3, .inl ⟨h6, h4.2.1, ⟨hq.1, by show q ≤ 4294967295; omega⟩, h4.2.2.2⟩⟩
  · omega
theorem upo_ok {hd : List Int} {s : Int} {b hh : Bool} {z D : List Int} (h : Okg z D.length) (h0 : (upo hd s b hh z D).1 = 0) : Okg (upo hd s b hh z D).2.1 (upo hd s b hh z D).2.2.1.length ∧ el (upo hd s b hh z D).2.1 0 = el z 0 := by
  unfold upo at h0 ⊢
  by_cases hc : cf z D.length ≠ 0
  · rw [if_pos hc] at h0
    exact absurd h0 hc
  · rw [if_neg hc] at h0 ⊢
    have h6 := (cf_ok (Classical.not_not.1 hc)).1
    by_cases h2 : el z 5 / 2 % 2 = 1
    · rw [if_pos h2] at h0 ⊢
      unfold bgo at h0 ⊢
      by_cases h3 : 0 < D.length
      · rw [if_pos h3] at h0
        cases h0
      · rw [if_neg h3]
        exact ⟨zq_ok h h6 (md_in _) (Nat.zero_le _), rfl⟩
    · rw [if_neg h2] at h0 ⊢
      by_cases h3 : b = false
      · rw [if_pos h3] at h0
        cases h0
      · rw [if_neg h3] at h0 ⊢
        by_cases h4 : el z 3 = s ∧ hh = false
        · rw [if_pos h4] at h0 ⊢
          unfold fio at h0 ⊢
          by_cases h5 : 300 < hd.length + D.length
          · rw [if_pos h5] at h0
            cases h0
          · rw [if_neg h5]
            exact ⟨zq_ok h h6 (md_in _) (by rw [List.length_append]; omega), rfl⟩
        · rw [if_neg h4]
          exact ⟨h, rfl⟩
theorem dno_ok {s : Int} {b hh : Bool} {z D : List Int} (h : Okg z D.length) (hs : 0 ≤ s ∧ s < 4294967296) (h0 : (dno s b hh z D).1 = 0) : Okg (dno s b hh z D).2.1 (dno s b hh z D).2.2.1.length ∧ el (dno s b hh z D).2.1 0 = el z 0 := by
  unfold dno at h0 ⊢
  by_cases hc : cf z D.length ≠ 0
  · rw [if_pos hc] at h0
    exact absurd h0 hc
  · rw [if_neg hc] at h0 ⊢
    have h6 := (cf_ok (Classical.not_not.1 hc)).1
    by_cases h3 : b = false
    · rw [if_pos h3] at h0
      cases h0
    · rw [if_neg h3] at h0 ⊢
      by_cases h4 : el z 5 / 16 % 2 = 0
      · rw [if_pos h4]
        exact ⟨h, rfl⟩
      · rw [if_neg h4]
        by_cases h5 : ah (el z 4) s = true
        · rw [if_pos h5]
          exact ⟨za_ok h h6 hs, rfl⟩
        · rw [if_neg h5]
          exact ⟨h, rfl⟩
theorem guo_ok {g : GS} {b z D : List Int} (h : Okg z D.length) (h0 : (guo g b z D).1 = 0) : Okg (guo g b z D).2.1 (guo g b z D).2.2.1.length ∧ el (guo g b z D).2.1 0 = el z 0 := by
  unfold guo at h0 ⊢
  split at h0
  · rename_i ht
    rw [if_pos ht]
    exact upo_ok h h0
  · rename_i ht
    rw [if_neg ht]
    exact ⟨h, rfl⟩
theorem gdo_ok {g : GS} {b z D : List Int} (hs : SI g) (h : Okg z D.length) (h0 : (gdo g b z D).1 = 0) : Okg (gdo g b z D).2.1 (gdo g b z D).2.2.1.length ∧ el (gdo g b z D).2.1 0 = el z 0 := by
  unfold gdo at h0 ⊢
  split at h0
  · rename_i st hst
    exact dno_ok h (hs _ (sfd_some hst)).2 h0
  · exact ⟨h, rfl⟩
theorem guo_c (g : GS) (b z D : List Int) : (guo g b z D).2.2.2.c = g.c ∧ (guo g b z D).2.2.2.now = g.now ∧ (guo g b z D).2.2.2.bs = g.bs := by
  unfold guo
  split <;> exact ⟨rfl, rfl, rfl⟩
theorem fl5_ok {z : List Int} {n : Nat} {s d : List Int} (h : Okg z n) (hs : Ok6 s) (hd : Ok6 d) : okf (fl5 (el z 0) s (el z 1) d (el z 2)) = true := by
  have h1 : s6 (cli (fl5 (el z 0) s (el z 1) d (el z 2))) = true := (s6_iff _).2 fun k hk => by
    rcases (by omega : k = 0 ∨ k = 1 ∨ k = 2 ∨ k = 3 ∨ k = 4 ∨ k = 5 ∨ k = 6 ∨ k = 7) with rfl | rfl | rfl | rfl | rfl | rfl | rfl | rfl <;> exact hs _ (by omega)
  have h2 : s6 (dst (fl5 (el z 0) s (el z 1) d (el z 2))) = true := (s6_iff _).2 fun k hk => by
    rcases (by omega : k = 0 ∨ k = 1 ∨ k = 2 ∨ k = 3 ∨ k = 4 ∨ k = 5 ∨ k = 6 ∨ k = 7) with rfl | rfl | rfl | rfl | rfl | rfl | rfl | rfl <;> exact hd _ (by omega)
  have h3 : wd (el z 1) = true := (wd_iff _).2 h.1
  have h4 : wd (el z 2) = true := (wd_iff _).2 h.2.1
  have h5 : ((el z 0 == 6) || (el z 0 == 17)) = true := by
    obtain ⟨_, _, _, h | h⟩ := h
    · rw [h.1]; rfl
    · rw [h.1]; rfl
  unfold okf
  rw [h1, h2]
  show (((el z 0 == 6) || (el z 0 == 17)) && true && true && wd (el z 1) && wd (el z 2)) = true
  rw [h3, h4, h5]
  rfl
theorem fl5_dst {k : Int} {s : List Int} {p : Int} {d : List Int} {q : Int} (hd : Ok6 d) : Ok6 (dst (fl5 k s p d q)) := fun k hk => by
  rcases (by omega : k = 0 ∨ k = 1 ∨ k = 2 ∨ k = 3 ∨ k = 4 ∨ k = 5 ∨ k = 6 ∨ k = 7) with rfl | rfl | rfl | rfl | rfl | rfl | rfl | rfl <;> exact hd _ (by omega)
theorem pko_in {seed : Int} {f : List Int} {bk : List (List Int)} (h : (pko seed f bk).2 = 0) : ∃ i, i < bk.length ∧ (pko seed f bk).1 = bk.getD i [] ∧ (bf bk).2 = 0 := by
  unfold pko at h ⊢
  by_cases h1 : (bf bk).2 = 0
  · rw [if_pos h1] at h ⊢
    by_cases h2 : sok seed f 0 = true
    · rw [if_pos h2] at h ⊢
      unfold pkr at h ⊢
      cases hp : (pst seed f bk bk.length).1 with
      | none => rw [hp] at h; cases h
      | some i => exact ⟨i, pst_lt seed f bk _ i hp, rfl, h1⟩
    · rw [if_neg h2] at h
      cases h
  · rw [if_neg h1] at h
    exact absurd h h1
theorem gat_in (z : List Int) (h : Ok6 z) (q : Nat) (hq : q ≤ 12) : 0 ≤ Em.gat z q ∧ Em.gat z q ≤ 4294967295 := by
  have hp : ∀ k, k < 4 → Em.pos q k < 16 := fun k hk => Em.pos_lt hq hk
  have h0 := Em.byt_in z h _ (hp 0 (by omega))
  have h1 := Em.byt_in z h _ (hp 1 (by omega))
  have h2 := Em.byt_in z h _ (hp 2 (by omega))
  have h3 := Em.byt_in z h _ (hp 3 (by omega))
  unfold Em.gat
  omega
theorem whr_ok {g : GS} (hc : CI g) {f : List Int} (hf : okf f = true) (hd : Ok6 (dst f)) (hl : (ldo g.c f).1 = 0) (h : (whr g f (ldo g.c f).2).2.2 = 0) : fr (whr g f (ldo g.c f).2).1 = true ∧ wd (whr g f (ldo g.c f).2).2.1 = true := by
  unfold whr at h ⊢
  by_cases hv : (ldo g.c f).2.1 = true
  · rw [if_pos hv] at h ⊢
    obtain ⟨i, hi, e, hb⟩ := pko_in h
    have hok := (bf_ok hb).2 i hi
    dsimp only
    rw [e]
    have := hok.1
    unfold okb at this
    simp only [Bool.and_eq_true] at this
    exact ⟨this.1.2, this.1.1.2⟩
  · rw [if_neg hv]
    refine ⟨?_, ?_⟩
    · unfold ldo at hl hv ⊢
      split at hl
      · rename_i h1
        rw [if_pos h1] at hv
        exact absurd rfl hv
      · rename_i h1
        rw [if_neg h1]
        split at hl
        · rename_i h2
          rw [if_pos h2]
          show fr (oto (dst f) (el g.c 17)).1 = true
          unfold oto
          have hq : (el g.c 17 / 8).toNat ≤ 12 := by have := hc.2.2.1; unfold Em.LongP at this; omega
          have hg := gat_in (dst f) hd _ hq
          split
          · rfl
          · unfold fr
            rw [Bool.and_eq_true, decide_eq_true_eq, decide_eq_true_eq]
            exact hg
        · cases hl
    · unfold okf at hf
      simp only [Bool.and_eq_true] at hf
      exact hf.2
theorem bdo_gb {g : GS} {f : List Int} {flags : Int} {wr : Int × Int × Int} (hi : TI g) (hf : okf f = true) (hw : wr.2.2 = 0 → fr wr.1 = true ∧ wd wr.2.1 = true) (h : (bdo g f flags wr).1 = 0) : okf (bdo g f flags wr).2.1 = true ∧ (0 ≤ el (bdo g f flags wr).2.1 19 ∧ el (bdo g f flags wr).2.1 19 ≤ 65535) ∧ fr (el (bdo g f flags wr).2.1 20) = true ∧ wd (el (bdo g f flags wr).2.1 21) = true ∧ flC (bdo g f flags wr).2.1 = flC f := by
  cases hn : fnd g.bs f with
  | some k =>
    rw [bdo_some hn]
    obtain ⟨_, h1, h2⟩ := fndY hn
    obtain ⟨q1, ⟨i, q2, q3, _⟩, _, q5, q6⟩ := hi.2.2.1.1 _ h1
    have := hi.1
    refine ⟨q1, ⟨?_, ?_⟩, q5, q6, h2⟩
    · show 0 ≤ el (g.bs.getD k []) 19
      omega
    · show el (g.bs.getD k []) 19 ≤ 65535
      omega
  | none =>
    rw [bdo_none hn] at h ⊢
    split at h
    · cases h
    · rename_i h1
      rw [if_neg h1]
      split at h
      · rename_i h2
        exact absurd h h2
      · rename_i h2
        rw [if_neg h2]
        have hw' := hw (Classical.not_not.1 h2)
        split at h
        · cases h
        · rename_i i ht
          have hi8 : i < 8 * g.m := by
            unfold tk at ht
            rcases Option.or_eq_some_iff.1 ht with h3 | ⟨_, h3⟩ <;> exact List.mem_range.1 (List.mem_of_find?_eq_some h3)
          have := hi.1
          refine ⟨hf, ⟨?_, ?_⟩, hw'.1, hw'.2, rfl⟩
          · show 0 ≤ 1024 + (i : Int)
            omega
          · show 1024 + (i : Int) ≤ 65535
            omega
theorem bdo_ss (g : GS) (f : List Int) (flags : Int) (wr : Int × Int × Int) : (bdo g f flags wr).2.2.ss = g.ss ∧ (bdo g f flags wr).2.2.c = g.c ∧ (bdo g f flags wr).2.2.inj = g.inj ∧ (bdo g f flags wr).2.2.bk = g.bk ∧ (bdo g f flags wr).2.2.now = g.now ∧ (bdo g f flags wr).2.2.m = g.m := by
  unfold bdo
  split
  · exact ⟨rfl, rfl, rfl, rfl, rfl, rfl⟩
  · split
    · exact ⟨rfl, rfl, rfl, rfl, rfl, rfl⟩
    · split
      · exact ⟨rfl, rfl, rfl, rfl, rfl, rfl⟩
      · split <;> exact ⟨rfl, rfl, rfl, rfl, rfl, rfl⟩
end Go.Proofs.YtkhahbghmdccaaaGreatDoor
