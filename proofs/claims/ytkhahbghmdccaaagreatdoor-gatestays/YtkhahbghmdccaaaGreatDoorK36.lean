/- A step played on a gate. A step played on a gate: what is sent by it. A step played on a gate: what holds of it goes on to hold. A row of steps of gangplanklaw3, opened. GateApart: what is asked of a gate's binds. Streams belong to binds. Who asks is answered: of numbers and bytes alone. GateBack: what it is told of what went on, and of the answer. -/
import Derived.Test.YtkhahbghmdccaaaGreatDoorK34
import Derived.Test.YtkhahbghmdccaaaGreatDoorK35
import Derived.Below
import Derived.OpenShut
import Derived.Test.YtkhahbghmdccaaaGreatDoorProg
import Derived.WalkKit
import Derived.LaidEql
import Derived.BigQuiet
import Derived.Laws.AppendOwnNone
import Derived.Laws.MakeOwn
import Derived.Deep.RegionLaw
import Derived.Lib.Bytes
import Derived.Deep.MidRow
import Derived.Laws.ResultCell
import Derived.Deep.CutBlock
import Derived.Deep.QuietTactic
import Derived.OwnWalk
import Derived.Deep.RegionHeld3
import Derived.Deep.DrawnRows
import Derived.Laws.StructEq
import Derived.Maps.AppendAt
import Derived.Maps.RangeWalk
import Derived.Stop.Asserts
import Derived.RowKitTokens
import Derived.Test.YtkhahbghmdccaaaGreatDoorShelf
import Derived.Shelf.Abstract
import Derived.Lib.SliceRun
import Derived.Lib.AppendZerosOnto
import Derived.Lib.AppendZeros
import Derived.Laws.CopyOwn
import Derived.RangeFuncNested
import Derived.RangeFuncBound
import Derived.RangeFuncCalls
import Derived.RangeFuncLeaves
import Derived.RangeFuncFrom
import Derived.Shelf.RegionOpen
import Derived.OwnWalkIn
import Derived.TacticsInMore
import Derived.LoopNIn
import Derived.LoopIn
import Derived.Deep.RegionWith
import Derived.ArgAppend
import Derived.Lib.SlBytesConst
import Derived.Lib.AppendStr
import Derived.Deep.Slices
import Derived.ChangeArms
import Derived.WideShapes
import Derived.Test.YtkhahbghmdccaaaGreatDoorK33
import Derived.Deep.Fields
import Derived.ChangeSlices
import Derived.Test.YtkhahbghmdccaaaGreatDoorK31
namespace Go.Proofs.YtkhahbghmdccaaaGreatDoor
open Go.RowKit
set_option linter.unusedVariables false
def stl (x : Value) : Sem Value := Instr.loadAt 41 x
theorem stl_shut (x : Value) : Instr.loadAt 41 x = stl x := rfl
theorem StIn3.sl {B : Nat} {wh : Int} {ba : Option Addr} {bl bc : Nat} {z : List Int} {a : Option Addr} {len cap : Nat} {s d : List Int} {hop n : Int} {is : Bool} {w : World} (p : StIn3 B wh ba bl bc z a len cap s d hop n is w) : (stl (.pointer (some ⟨B, 0, none⟩))).run Tryz.prog w = .ok (.agg (stC3 wh ba bl bc z a len cap s d hop n is)) w :=
  run_loadAt_mid w B 0 41 (stC3 wh ba bl bc z a len cap s d hop n is).toList _ (fun j v hv => by
    rw [Nat.zero_add, p.cellAt]
    simpa using hv) Tryz.underlying41 rfl (by kernel_rfl)
theorem GN.pre {w : World} {G : Nat} {g' : GS} {O : Nat → Prop} {W W1 W' : World} (h : GN w G g' O W1 W') (hb : Below W.heap.size W W1) : GN w G g' O W W' := by
  obtain ⟨O', h1, h2, h3⟩ := h
  have hs := hb.size
  exact ⟨O', h1, fun k hk => (h2 k hk).elim .inl (fun h => .inr (by omega)), Kpt.trans (Kpt.of hb) h3 (fun k hk => .inl hk)⟩
attribute [local go_sem ↓] stl_shut cload_shut
set_option maxRecDepth 100000 in
set_option maxHeartbeats 4000000 in
theorem play_a (G : Nat) (wh : Int) (ba : Option Addr) (bl bc : Nat) (z : List Int) (a : Option Addr) (len cap : Nat) (s d : List Int) (hop n : Int) (is : Bool) (c : List Int) (inj : Bool) (ka : Option Addr) (kn kc : Nat) (w : World) (R : World → Prop)
    (h : (wh = 0 ∧ ∀ W, Below w.heap.size w W → Calls Tryz.prog 21 #[.pointer (some ⟨G, 0, none⟩), .slice ba bl bc] W fun e w' => (∃ a2 l2 c2 v, e = .returned (.tuple #[.slice a2 l2 c2, v])) ∧ R w') ∨
      (wh = 1 ∧ ∀ W, Below w.heap.size w W → Calls Tryz.prog 24 #[.pointer (some ⟨G, 0, none⟩), .slice ba bl bc] W fun e w' => (∃ a2 l2 c2 v, e = .returned (.tuple #[.slice a2 l2 c2, v])) ∧ R w') ∨
      (wh = 2 ∧ ∀ W, Below w.heap.size w W → Calls Tryz.prog 33 #[.pointer (some ⟨G, 0, none⟩), .int .i64 n] W fun e w' => (∃ v, e = .returned v) ∧ R w') ∨
      (wh = 3 ∧ ∀ W, Below w.heap.size w W → Calls Tryz.prog 58 #[.pointer (some ⟨G, 0, none⟩), .int .i64 n, .bool is] W fun e w' => (∃ v, e = .returned v) ∧ R w') ∨
      (wh = 4 ∧ ∀ W, Below w.heap.size w W → Calls Tryz.prog 59 #[.pointer (some ⟨G, 0, none⟩), .int .i64 n, .bool is] W fun e w' => (∃ v, e = .returned v) ∧ R w')) :
    Calls Tryz.prog 15 #[.pointer (some ⟨G, 0, none⟩), .agg (stC3 wh ba bl bc z a len cap s d hop n is), .agg (cfC c inj ka kn kc)] w fun e w' => (∃ v, e = .returned v) ∧ R w' := by
  have HK := hide (Ks3.start w wh ba bl bc z a len cap s d hop n is c inj ka kn kc)
  rcases h with ⟨rfl, h⟩ | ⟨rfl, h⟩ | ⟨rfl, h⟩ | ⟨rfl, h⟩ | ⟨rfl, h⟩
  · have HC := hide h
    clear h
    go_enter Tryz.func15, Tryz.ntmps15
    go_upto_region 1 with fail
    generalize (World.alloc _ _).alloc _ = W0 at HK ⊢
    have q0 := HK.out.1.what
    have q1 := HK.out.1.bytes
    go_wp2_with (go_at_call 21; refine (HC.out _ HK.out.2.2).mono ?_; rintro e w1 ⟨⟨a2, l2, c2, v, rfl⟩, r1⟩; have HR := hide r1; clear r1)
    refine bodyPost_ret (results_tmp2 rfl _ _ _) rfl ?_
    exact ⟨⟨_, rfl⟩, HR.out⟩
  · have HC := hide h
    clear h
    go_enter Tryz.func15, Tryz.ntmps15
    go_upto_region 1 with fail
    generalize (World.alloc _ _).alloc _ = W0 at HK ⊢
    have q0 := HK.out.1.what
    have q1 := HK.out.1.bytes
    go_wp2_with (go_at_call 24; refine (HC.out _ HK.out.2.2).mono ?_; rintro e w1 ⟨⟨a2, l2, c2, v, rfl⟩, r1⟩; have HR := hide r1; clear r1)
    refine bodyPost_ret (results_tmp2 rfl _ _ _) rfl ?_
    exact ⟨⟨_, rfl⟩, HR.out⟩
  · have HC := hide h
    clear h
    go_enter Tryz.func15, Tryz.ntmps15
    go_upto_region 1 with fail
    generalize (World.alloc _ _).alloc _ = W0 at HK ⊢
    have q0 := HK.out.1.what
    have q1 := HK.out.1.num
    go_wp2_with (go_at_call 33; refine (HC.out _ HK.out.2.2).mono ?_; rintro e w1 ⟨⟨v, rfl⟩, r1⟩; have HR := hide r1; clear r1)
    refine bodyPost_ret (results_tmp2 rfl _ _ _) rfl ?_
    exact ⟨⟨_, rfl⟩, HR.out⟩
  · have HC := hide h
    clear h
    go_enter Tryz.func15, Tryz.ntmps15
    go_upto_region 1 with fail
    generalize (World.alloc _ _).alloc _ = W0 at HK ⊢
    have q0 := HK.out.1.what
    have q1 := HK.out.1.num
    have q2 := HK.out.1.is
    go_wp2_with (go_at_call 58; refine (HC.out _ HK.out.2.2).mono ?_; rintro e w1 ⟨⟨v, rfl⟩, r1⟩; have HR := hide r1; clear r1)
    refine bodyPost_ret (results_tmp2 rfl _ _ _) rfl ?_
    exact ⟨⟨_, rfl⟩, HR.out⟩
  · have HC := hide h
    clear h
    go_enter Tryz.func15, Tryz.ntmps15
    go_upto_region 1 with fail
    generalize (World.alloc _ _).alloc _ = W0 at HK ⊢
    have q0 := HK.out.1.what
    have q1 := HK.out.1.num
    have q2 := HK.out.1.is
    go_wp2_with (go_at_call 59; refine (HC.out _ HK.out.2.2).mono ?_; rintro e w1 ⟨⟨v, rfl⟩, r1⟩; have HR := hide r1; clear r1)
    refine bodyPost_ret (results_tmp2 rfl _ _ _) rfl ?_
    exact ⟨⟨_, rfl⟩, HR.out⟩
end Go.Proofs.YtkhahbghmdccaaaGreatDoor

namespace Go.Proofs.YtkhahbghmdccaaaGreatDoor
open Go.RowKit
set_option linter.unusedVariables false
attribute [local go_sem ↓] stl_shut cload_shut
set_option maxRecDepth 100000 in
set_option maxHeartbeats 4000000 in
theorem play_b (G : Nat) (wh : Int) (ba : Option Addr) (bl bc : Nat) (z : List Int) (a : Option Addr) (len cap : Nat) (s d : List Int) (hop n : Int) (is : Bool) (c : List Int) (inj : Bool) (ka : Option Addr) (kn kc : Nat) (w : World) (R : World → Prop) (zs : List Int) (h0 : (wh == 0) = false) (h1 : (wh == 1) = false) (h2 : (wh == 2) = false) (h3 : (wh == 3) = false) (h4 : (wh == 4) = false) (h5 : (wh == 5) = false)
    (hS : ∀ W, Below w.heap.size w W → Calls Tryz.prog 14 #[.agg (stC3 wh ba bl bc z a len cap s d hop n is), .agg (cfC c inj ka kn kc), .slice none 0 0] W fun e w' => ∃ b l k, e = .returned (.slice b l k) ∧ (Row8 w' b l k zs ∧ l ≤ k ∧ k ≤ maxLen) ∧ Below W.heap.size W w')
    (hC : ∀ W b l k, Below w.heap.size w W → Row8 W b l k zs → l ≤ k → k ≤ maxLen → Calls Tryz.prog 21 #[.pointer (some ⟨G, 0, none⟩), .slice b l k] W fun e w' => (∃ a2 l2 c2 v, e = .returned (.tuple #[.slice a2 l2 c2, v])) ∧ R w') :
    Calls Tryz.prog 15 #[.pointer (some ⟨G, 0, none⟩), .agg (stC3 wh ba bl bc z a len cap s d hop n is), .agg (cfC c inj ka kn kc)] w fun e w' => (∃ v, e = .returned v) ∧ R w' := by
  have HK := hide (Ks3.start w wh ba bl bc z a len cap s d hop n is c inj ka kn kc)
  have HS := hide hS
  have HC := hide hC
  clear hS hC
  go_enter Tryz.func15, Tryz.ntmps15
  go_upto_region 1 with fail
  generalize (World.alloc _ _).alloc _ = W0 at HK ⊢
  have q0 := HK.out.1.what
  go_upto_region 14 with fail
  clear q0
  have q1 := HK.out.1.sl
  have q2 := HK.out.2.1.cl
  go_wp2_with (first
    | (go_at_call 14; refine (HS.out _ HK.out.2.2).mono ?_; rintro e w1 ⟨b1, l1, k1, rfl, r1, hb1⟩; have HR1 := hide r1; replace HK := hide (HK.out.kept hb1); clear r1 hb1 q1 q2)
    | (go_at_call 21; refine (HC.out _ _ _ _ HK.out.2.2 HR1.out.1 HR1.out.2.1 HR1.out.2.2).mono ?_; rintro e w2 ⟨⟨a2, l2, c2, v, rfl⟩, r2⟩; have HR := hide r2; clear r2))
  refine bodyPost_ret (results_tmp2 rfl _ _ _) rfl ?_
  exact ⟨⟨_, rfl⟩, HR.out⟩
set_option maxRecDepth 100000 in
set_option maxHeartbeats 4000000 in
theorem play_c (G : Nat) (ba : Option Addr) (bl bc : Nat) (z : List Int) (a : Option Addr) (len cap : Nat) (s d : List Int) (hop n : Int) (is : Bool) (c : List Int) (inj : Bool) (ka : Option Addr) (kn kc : Nat) (w : World) (R : World → Prop) (zs : List Int) (bs : List (List Int))
    (hB : ∀ W, Below w.heap.size w W → Calls Tryz.prog 18 #[.pointer (some ⟨G, 0, none⟩)] W fun e w' => ∃ v, e = .returned v ∧ BdRow 0 w' v bs ∧ Below W.heap.size W w')
    (hS : ∀ W v, Below w.heap.size w W → BdRow 0 W v bs → Calls Tryz.prog 14 #[.agg (stC3 5 ba bl bc z a len cap s d hop n is), .agg (cfC c inj ka kn kc), v] W fun e w' => ∃ b l k, e = .returned (.slice b l k) ∧ (Row8 w' b l k zs ∧ l ≤ k ∧ k ≤ maxLen) ∧ Below W.heap.size W w')
    (hC : ∀ W b l k, Below w.heap.size w W → Row8 W b l k zs → l ≤ k → k ≤ maxLen → Calls Tryz.prog 24 #[.pointer (some ⟨G, 0, none⟩), .slice b l k] W fun e w' => (∃ a2 l2 c2 v, e = .returned (.tuple #[.slice a2 l2 c2, v])) ∧ R w' ∧ ∀ B, w.heap.size ≤ B → B < W.heap.size → w'.heap[B]? = W.heap[B]?) :
    Calls Tryz.prog 15 #[.pointer (some ⟨G, 0, none⟩), .agg (stC3 5 ba bl bc z a len cap s d hop n is), .agg (cfC c inj ka kn kc)] w fun e w' => (∃ v, e = .returned v) ∧ R w' := by
  have HK := hide (Ks3.start w 5 ba bl bc z a len cap s d hop n is c inj ka kn kc)
  have HBd := hide hB
  have HS := hide hS
  have HC := hide hC
  clear hB hS hC
  go_enter Tryz.func15, Tryz.ntmps15
  go_upto_region 1 with fail
  generalize (World.alloc _ _).alloc _ = W0 at HK ⊢
  have q0 := HK.out.1.what
  go_upto_region 13 with fail
  clear q0
  replace HK := hide (HK.out.kept (show Below W0.heap.size W0 W0.drew from (Below.refl _ _).drew))
  have HQ := hide (fun W (h : StIn3 w.heap.size 5 ba bl bc z a len cap s d hop n is W ∧ CfIn (w.heap.size + 1) c inj ka kn kc W) => (show (stl (.pointer (some ⟨w.heap.size, 0, none⟩))).run Tryz.prog W = .ok (.agg (stC3 5 ba bl bc z a len cap s d hop n is)) W ∧ (cload (.pointer (some ⟨w.heap.size + 1, 0, none⟩))).run Tryz.prog W = .ok (.agg (cfC c inj ka kn kc)) W from ⟨h.1.sl, h.2.cl⟩))
  obtain ⟨q1, q2⟩ := HQ.out _ ⟨HK.out.1, HK.out.2.1⟩
  go_region_held3 (fun W => (stl (.pointer (some ⟨w.heap.size, 0, none⟩))).run Tryz.prog W = .ok (.agg (stC3 5 ba bl bc z a len cap s d hop n is)) W ∧ (cload (.pointer (some ⟨w.heap.size + 1, 0, none⟩))).run Tryz.prog W = .ok (.agg (cfC c inj ka kn kc)) W)
    (first
      | exact HQ.out _ ⟨HK.out.1, HK.out.2.1⟩
      | exact HQ.out _ HK3.out
      | go_keep)
    (first
      | (go_at_call 18; refine (HBd.out _ HK.out.2.2).mono ?_; rintro e w1 ⟨v1, rfl, r1, hb1⟩; have HR1 := hide r1; replace HK := hide (HK.out.kept hb1); clear r1 hb1 q1 q2; obtain ⟨q1, q2⟩ := HQ.out _ ⟨HK.out.1, HK.out.2.1⟩)
      | (go_at_call 14; refine (HS.out _ _ HK.out.2.2 HR1.out).mono ?_; rintro e w2 ⟨b2, l2, k2, rfl, r2, hb2⟩; have HR2 := hide r2; replace HK := hide (HK.out.kept hb2); clear r2 hb2 q1 q2; obtain ⟨q1, q2⟩ := HQ.out _ ⟨HK.out.1, HK.out.2.1⟩)
      | (go_at_call 24; refine (HC.out _ _ _ _ HK.out.2.2 HR2.out.1 HR2.out.2.1 HR2.out.2.2).mono ?_; rintro e w3 ⟨⟨a3, l3, c3, v3, rfl⟩, r3, f3⟩; have HK3 := hide (show StIn3 w.heap.size 5 ba bl bc z a len cap s d hop n is w3 ∧ CfIn (w.heap.size + 1) c inj ka kn kc w3 from ⟨(f3 _ (Nat.le_refl _) HK.out.1.lt).trans HK.out.1, (f3 _ (Nat.le_succ _) HK.out.2.1.lt).trans HK.out.2.1⟩); have HR := hide r3; clear r3 f3 q1 q2; obtain ⟨q1, q2⟩ := HQ.out _ HK3.out))
  all_goals
    go_wp2_with fail
    refine bodyPost_ret (results_tmp2 rfl _ _ _) rfl ?_
    exact ⟨⟨_, rfl⟩, HR.out⟩
end Go.Proofs.YtkhahbghmdccaaaGreatDoor

namespace Go.Proofs.YtkhahbghmdccaaaGreatDoor
open Go.RowKit
set_option linter.unusedVariables false
theorem IG.len {g : GS} (h : IG g) : g.bk.length ≤ 8 := (oks_of h.2.2.2.2.2.2).1
end Go.Proofs.YtkhahbghmdccaaaGreatDoor

namespace Go.Proofs.YtkhahbghmdccaaaGreatDoor
open Go.ChangeShapes Go.WideShapes Go.Deep Go.RowKit
set_option maxRecDepth 100000 in
theorem step_of2 {H : Type} {enc : TypeId × Value → H} {W : World} {base : Nat} {held : Bool} {n : Nat} {cs : List Value} {y : DataW H × List MemPlace} (h : DataW.trod enc Tryz.prog W base (fun _ => true) held n 41 cs = some y) :
    ∃ wh ba bl bc bs z a len cap D s d hop m is, cs = (stC3 wh ba bl bc z a len cap s d hop m is).toList ∧ IsRow .u8 W ba bl bc bs ∧ Row8 W a len cap D ∧ I64 m := by
  have hu := Tryz.underlying41
  obtain ⟨xs, m, _, _, hl, hx, hall⟩ := DataW.trod_struct hu h
  have hF := Tryz.step3F
  rw [hu] at hF
  replace hF := Option.some.inj hF
  have c1 : Tryz.prog.cellsOf 3 = 1 := by kernel_rfl
  have cb : Tryz.prog.cellsOf 37 = 1 := by kernel_rfl
  have c8 : Tryz.prog.cellsOf 39 = 8 := by kernel_rfl
  have c6 : Tryz.prog.cellsOf 23 = 8 := by kernel_rfl
  have cl : Tryz.prog.cellsOf 4 = 1 := by kernel_rfl
  have c29 : Tryz.prog.cellsOf 41 = 29 := by kernel_rfl
  rw [c29] at hl
  obtain ⟨y0, g0⟩ := sg_field (k := 0) hF hx hall _ _ rfl
  obtain ⟨y1, g1⟩ := sg_field (k := 1) hF hx hall _ _ rfl
  obtain ⟨y2, g2⟩ := sg_field (k := 2) hF hx hall _ _ rfl
  obtain ⟨y3, g3⟩ := sg_field (k := 3) hF hx hall _ _ rfl
  obtain ⟨y4, g4⟩ := sg_field (k := 4) hF hx hall _ _ rfl
  obtain ⟨y5, g5⟩ := sg_field (k := 5) hF hx hall _ _ rfl
  obtain ⟨y6, g6⟩ := sg_field (k := 6) hF hx hall _ _ rfl
  obtain ⟨y7, g7⟩ := sg_field (k := 7) hF hx hall _ _ rfl
  rw [c1] at g0 g5 g6
  rw [cb] at g1
  rw [c8] at g2
  rw [c6] at g3 g4
  rw [cl] at g7
  obtain ⟨x0, e0, _, _⟩ := DataW.trod_int Tryz.underlying3 g0
  obtain ⟨x5, e5, _, _⟩ := DataW.trod_int Tryz.underlying3 g5
  obtain ⟨x6, e6, _, w6⟩ := DataW.trod_int Tryz.underlying3 g6
  obtain ⟨x7, e7, _⟩ := DataW.trod_bool Tryz.underlying4 g7
  obtain ⟨v1, e1⟩ := sg_cut (cs := cs) (o := 1) (by omega)
  rw [e1] at g1
  obtain ⟨ba, bl, bc, bs, rfl, hrow⟩ := field_bytes Tryz.underlying37 Tryz.underlying5 (by kernel_rfl) (fun _ => rfl) g1
  obtain ⟨z, a, len, cap, D, e2, hD⟩ := seg_of g2
  have hs := nums_six g3
  have hd := nums_six g4
  obtain ⟨s0, es0, _⟩ := hs.2 0 (by omega)
  rw [part_at (by omega)] at es0
  obtain ⟨s1, es1, _⟩ := hs.2 1 (by omega)
  rw [part_at (by omega)] at es1
  obtain ⟨s2, es2, _⟩ := hs.2 2 (by omega)
  rw [part_at (by omega)] at es2
  obtain ⟨s3, es3, _⟩ := hs.2 3 (by omega)
  rw [part_at (by omega)] at es3
  obtain ⟨s4, es4, _⟩ := hs.2 4 (by omega)
  rw [part_at (by omega)] at es4
  obtain ⟨s5, es5, _⟩ := hs.2 5 (by omega)
  rw [part_at (by omega)] at es5
  obtain ⟨s6, es6, _⟩ := hs.2 6 (by omega)
  rw [part_at (by omega)] at es6
  obtain ⟨s7, es7, _⟩ := hs.2 7 (by omega)
  rw [part_at (by omega)] at es7
  obtain ⟨d0, ed0, _⟩ := hd.2 0 (by omega)
  rw [part_at (by omega)] at ed0
  obtain ⟨d1, ed1, _⟩ := hd.2 1 (by omega)
  rw [part_at (by omega)] at ed1
  obtain ⟨d2, ed2, _⟩ := hd.2 2 (by omega)
  rw [part_at (by omega)] at ed2
  obtain ⟨d3, ed3, _⟩ := hd.2 3 (by omega)
  rw [part_at (by omega)] at ed3
  obtain ⟨d4, ed4, _⟩ := hd.2 4 (by omega)
  rw [part_at (by omega)] at ed4
  obtain ⟨d5, ed5, _⟩ := hd.2 5 (by omega)
  rw [part_at (by omega)] at ed5
  obtain ⟨d6, ed6, _⟩ := hd.2 6 (by omega)
  rw [part_at (by omega)] at ed6
  obtain ⟨d7, ed7, _⟩ := hd.2 7 (by omega)
  rw [part_at (by omega)] at ed7
  refine ⟨x0, ba, bl, bc, bs, z, a, len, cap, D, [s0, s1, s2, s3, s4, s5, s6, s7], [d0, d1, d2, d3, d4, d5, d6, d7], x5, x6, x7, List.ext_getElem? fun i => ?_, hrow, hD, i64_of w6⟩
  by_cases hi : i < 29
  · rcases (by omega : i = 0 ∨ i = 1 ∨ i = 2 ∨ i = 3 ∨ i = 4 ∨ i = 5 ∨ i = 6 ∨ i = 7 ∨ i = 8 ∨ i = 9 ∨ i = 10 ∨ i = 11 ∨ i = 12 ∨ i = 13 ∨ i = 14 ∨ i = 15 ∨ i = 16 ∨ i = 17 ∨ i = 18 ∨ i = 19 ∨ i = 20 ∨ i = 21 ∨ i = 22 ∨ i = 23 ∨ i = 24 ∨ i = 25 ∨ i = 26 ∨ i = 27 ∨ i = 28) with rfl | rfl | rfl | rfl | rfl | rfl | rfl | rfl | rfl | rfl | rfl | rfl | rfl | rfl | rfl | rfl | rfl | rfl | rfl | rfl | rfl | rfl | rfl | rfl | rfl | rfl | rfl | rfl | rfl
    · exact sg_one e0
    · exact sg_one e1
    · have := congrArg (fun l => l[0]?) e2; rw [part_at (by omega)] at this; exact this
    · have := congrArg (fun l => l[1]?) e2; rw [part_at (by omega)] at this; exact this
    · have := congrArg (fun l => l[2]?) e2; rw [part_at (by omega)] at this; exact this
    · have := congrArg (fun l => l[3]?) e2; rw [part_at (by omega)] at this; exact this
    · have := congrArg (fun l => l[4]?) e2; rw [part_at (by omega)] at this; exact this
    · have := congrArg (fun l => l[5]?) e2; rw [part_at (by omega)] at this; exact this
    · have := congrArg (fun l => l[6]?) e2; rw [part_at (by omega)] at this; exact this
    · have := congrArg (fun l => l[7]?) e2; rw [part_at (by omega)] at this; exact this
    · exact es0
    · exact es1
    · exact es2
    · exact es3
    · exact es4
    · exact es5
    · exact es6
    · exact es7
    · exact ed0
    · exact ed1
    · exact ed2
    · exact ed3
    · exact ed4
    · exact ed5
    · exact ed6
    · exact ed7
    · exact sg_one e5
    · exact sg_one e6
    · exact sg_one e7
  · rw [List.getElem?_eq_none (by omega), List.getElem?_eq_none (by show 29 ≤ i; omega)]
def Sts (a : Option Addr) (n : Nat) (w : World) : Prop := 0 < n → ∃ g off, a = some ⟨g, off, none⟩ ∧ ∀ k, k < n → ∃ wh ba bl bc bs z x l c zs s d hop m is, w.rangeAt g (off + k * 29) (stC3 wh ba bl bc z x l c s d hop m is).toList ∧ (Row8 w ba bl bc bs ∧ bl ≤ bc ∧ bc ≤ maxLen) ∧ Row8 w x l c zs ∧ I64 m
theorem Sts.below {a : Option Addr} {n : Nat} {w w' : World} (h : Sts a n w) (hb : Below w.heap.size w w') : Sts a n w' := by
  intro hp
  obtain ⟨g, off, e, hx⟩ := h hp
  refine ⟨g, off, e, fun k hk => ?_⟩
  obtain ⟨wh, ba, bl, bc, bs, z, x, l, c, zs, s, d, hop, m, is, h1, h2, h3, h4⟩ := hx k hk
  exact ⟨wh, ba, bl, bc, bs, z, x, l, c, zs, s, d, hop, m, is, rng_below h1 hb, ⟨h2.1.below hb, h2.2⟩, h3.below hb, h4⟩
set_option maxRecDepth 100000 in
theorem steps_open {H : Type} {enc : TypeId × Value → H} {W : World} {base : Nat} {held : Bool} {b0 : Nat} {v : Value} {x : DataW H} {p : List MemPlace} (h : Value.okWide Tryz.prog W .any b0 27 v) (ht : DataW.Trod enc Tryz.prog W base (fun _ => true) held 27 v x p) :
    ∃ a len cap, v = .slice a len cap ∧ len ≤ maxLen ∧ Sts a len W := by
  obtain ⟨a, len, cap, rfl⟩ := okWide_slice Tryz.underlying27 h
  obtain ⟨fuel, hf⟩ := ht
  rcases open_slice Tryz.underlying27 hf with ⟨hcs, _⟩ | ⟨a', len', cap', m, n, D, Pl, hcs, hb, hl, hm, hmm, _, hx⟩
  · simp [Value.cells] at hcs
    obtain ⟨rfl, rfl, rfl⟩ := hcs
    exact ⟨none, 0, 0, rfl, Nat.zero_le _, fun h => absurd h (by simp)⟩
  · simp [Value.cells] at hcs
    obtain ⟨rfl, rfl, rfl⟩ := hcs
    have c29 : Tryz.prog.cellsOf 41 = 29 := by kernel_rfl
    rw [c29] at hx
    have hlm : len ≤ m := by rw [hmm]; split <;> omega
    refine ⟨some a', len, cap, rfl, by omega, fun hp => ?_⟩
    obtain ⟨b, off, spot⟩ := a'
    have hspot : spot = none := by
      obtain ⟨cs', h1, h2⟩ := hx 0 (by omega)
      obtain ⟨wh, ba, bl, bc, bs, z, x, l, c, zs, s, d, hop, m', is, rfl, _⟩ := step_of2 h2
      obtain ⟨_, _, hcell⟩ := World.cells?_some h1
      have := hcell 0 (by omega)
      rw [add_add] at this
      have g0 : W.cell? ((⟨b, off, spot⟩ : Addr).add (0 * 29 + 0)) = some (.int .i64 wh) := by
        rw [this]
        rfl
      simpa [Addr.add] using World.cell?_spot g0
    subst hspot
    refine ⟨b, off, rfl, fun k hk => ?_⟩
    obtain ⟨cs', h1, h2⟩ := hx k (by omega)
    obtain ⟨wh, ba, bl, bc, bs, z, x, l, c, zs, s, d, hop, m', is, rfl, hrow, hD, hi⟩ := step_of2 h2
    refine ⟨wh, ba, bl, bc, bs.take bl, z, x, l, c, zs, s, d, hop, m', is, fun j v hv => ?_, ⟨hrow.row8, ?_⟩, hD, hi⟩
    rotate_left
    · rcases hrow with ⟨_, rfl, rfl, rfl⟩ | ⟨_, _, q1, q2, _⟩
      · exact ⟨Nat.le_refl _, Nat.zero_le _⟩
      · exact ⟨q1, q2⟩
    obtain ⟨_, _, hcell⟩ := World.cells?_some h1
    have hj : j < 29 := (List.getElem?_eq_some_iff.1 hv).1
    have := hcell j hj
    rw [add_add, add_pl, hv] at this
    rw [show off + k * 29 + j = off + (k * 29 + j) by omega]
    exact this
end Go.Proofs.YtkhahbghmdccaaaGreatDoor

namespace Go.Proofs.YtkhahbghmdccaaaGreatDoor
open Go.RowKit
set_option linter.unusedVariables false
theorem row_step {w : World} {g o : Nat} {wh : Int} {ba : Option Addr} {bl bc : Nat} {z : List Int} {a : Option Addr} {len cap : Nat} {s d : List Int} {hop n : Int} {is : Bool} (h : w.rangeAt g o (stC3 wh ba bl bc z a len cap s d hop n is).toList) : (stl (.pointer (some ⟨g, o, none⟩))).run Tryz.prog w = .ok (.agg (stC3 wh ba bl bc z a len cap s d hop n is)) w :=
  run_loadAt_mid w g o 41 _ _ (fun j v hv => h j v hv) Tryz.underlying41 rfl (by kernel_rfl)
end Go.Proofs.YtkhahbghmdccaaaGreatDoor

namespace Go.Proofs.YtkhahbghmdccaaaGreatDoor
open Go.RowKit
set_option linter.unusedVariables false
theorem ins_sub {x b : List Int} {bs : List (List Int)} (h : b ∈ bs) : b ∈ ins x bs := by
  obtain ⟨p, _, e, _⟩ := ins_form x bs
  rw [e]
  rw [← List.take_append_drop p bs] at h
  rcases List.mem_append.1 h with h | h
  · exact List.mem_append.2 (.inl h)
  · exact List.mem_append.2 (.inr (List.mem_append.2 (.inr h)))
theorem ins_new (x : List Int) (bs : List (List Int)) : x ∈ ins x bs := by
  obtain ⟨p, _, e, _⟩ := ins_form x bs
  rw [e]
  exact List.mem_append.2 (.inr (List.mem_append.2 (.inl (List.mem_singleton.2 rfl))))
theorem tell_usd (c : List Int) (inj : Bool) (b : List Int) (now : Int) : tell c inj (usd b now) = tell c inj b := rfl
theorem hb_usd (b : List Int) (now : Int) : hb (usd b now) = hb b := rfl
def SBI (c : List Int) (inj : Bool) (g : GS) : Prop := g.c = c ∧ g.inj = inj ∧ ∀ x ∈ g.ss, ∃ b ∈ g.bs, el b 19 = x.1 ∧ tell c inj b = true ∧ x.2.1 = hb b
theorem SBI.set {c : List Int} {inj : Bool} {g : GS} (h : SBI c inj g) {k : Nat} (hk : k < g.bs.length) : SBI c inj (g.tab g.ws g.ts (g.bs.set k (usd (g.bs.getD k []) g.now))) := ⟨h.1, h.2.1, fun x hx => by
  obtain ⟨b, hb0, e1, e2, e3⟩ := h.2.2 x hx
  obtain ⟨j, hj, rfl⟩ := List.getElem_of_mem hb0
  by_cases e : k = j
  · subst e
    refine ⟨usd (g.bs.getD k []) g.now, List.mem_set hk _, ?_, ?_, ?_⟩
    · rw [getD_at hk]; exact e1
    · rw [tell_usd, getD_at hk]; exact e2
    · rw [hb_usd, getD_at hk]; exact e3
  · exact ⟨g.bs[j], List.mem_iff_getElem.2 ⟨j, by show j < (g.bs.set k _).length; rw [List.length_set]; exact hj, by show (g.bs.set k _)[j]'_ = _; rw [List.getElem_set, if_neg e]⟩, e1, e2, e3⟩⟩
theorem bdo_in {g : GS} {f : List Int} {flags : Int} {wr : Int × Int × Int} (h : (bdo g f flags wr).1 = 0) : ∃ b2 ∈ (bdo g f flags wr).2.2.bs, (b2 = (bdo g f flags wr).2.1 ∨ b2 = usd (bdo g f flags wr).2.1 g.now) ∧ flC (bdo g f flags wr).2.1 = flC f := by
  cases hn : fnd g.bs f with
  | some k =>
    rw [bdo_some hn]
    obtain ⟨hk, _, hf⟩ := fndY hn
    exact ⟨usd (g.bs.getD k []) g.now, List.mem_set hk _, .inr rfl, hf⟩
  | none =>
    rw [bdo_none hn] at h ⊢
    split at h
    · cases h
    · rename_i h1
      rw [if_neg h1]
      split at h
      · rename_i h2; exact absurd h h2
      · rename_i h2
        rw [if_neg h2]
        split at h
        · cases h
        · rename_i i ht
          exact ⟨_, ins_new _ _, .inl rfl, rfl⟩
theorem bdo_sbi {c : List Int} {inj : Bool} {g : GS} (h : SBI c inj g) (f : List Int) (flags : Int) (wr : Int × Int × Int) : SBI c inj (bdo g f flags wr).2.2 := by
  cases hn : fnd g.bs f with
  | some k =>
    rw [bdo_some hn]
    exact h.set (fndY hn).1
  | none =>
    rw [bdo_none hn]
    split
    · exact h
    · split
      · exact h
      · split
        · exact h
        · refine ⟨h.1, h.2.1, fun x hx => ?_⟩
          obtain ⟨b, hb0, e⟩ := h.2.2 x hx
          exact ⟨b, ins_sub hb0, e⟩
theorem guo_sbi {c : List Int} {inj : Bool} {g : GS} (h : SBI c inj g) (b z D : List Int) {b2 : List Int} {now : Int} (hb2 : b2 ∈ g.bs) (e : b2 = b ∨ b2 = usd b now) : SBI c inj (guo g b z D).2.2.2 := by
  unfold guo
  split
  · rename_i ht
    rw [h.1, h.2.1] at ht
    refine ⟨h.1, h.2.1, fun y hy => ?_⟩
    have hb3 : el b2 19 = el b 19 ∧ tell c inj b2 = true ∧ hb b2 = hb b := by
      rcases e with rfl | rfl
      · exact ⟨rfl, ht, rfl⟩
      · exact ⟨rfl, ht, rfl⟩
    obtain ⟨x, hx, e1, ⟨e2, e3⟩ | ⟨e2, e3⟩⟩ := sup_mem hy
    · have e4 : y.2.1 = (stf g b).2.1 := by rw [e3]
      unfold stf at e4
      split at e4
      · rename_i st hs
        obtain ⟨b3, q1, q2, q3, q4⟩ := h.2.2 _ (sfd_some hs)
        exact ⟨b3, q1, q2.trans (e1.trans e2).symm, q3, e4.trans q4⟩
      · exact ⟨b2, hb2, hb3.1.trans (e1.trans e2).symm, hb3.2.1, e4.trans hb3.2.2.symm⟩
    · rw [e3]
      unfold stf at hx
      split at hx
      · exact h.2.2 x hx
      · rcases List.mem_cons.1 hx with rfl | hx
        · exact absurd rfl e2
        · exact h.2.2 x hx
  · exact h
theorem gdo_sbi {c : List Int} {inj : Bool} {g : GS} (h : SBI c inj g) (b z D : List Int) : SBI c inj (gdo g b z D).2.2.2 := by
  unfold gdo
  split
  · rename_i st hst
    refine ⟨h.1, h.2.1, fun y hy => ?_⟩
    obtain ⟨x, hx, e1, ⟨e2, e3⟩ | ⟨e2, e3⟩⟩ := sup_mem hy
    · obtain ⟨b3, q1, q2, q3, q4⟩ := h.2.2 _ (sfd_some hst)
      exact ⟨b3, q1, q2.trans (e1.trans e2).symm, q3, by rw [e3]; exact q4⟩
    · rw [e3]
      exact h.2.2 x hx
  · exact h
theorem g6s_sbi {c : List Int} {inj : Bool} {g : GS} (h : SBI c inj g) (f : List Int) (hop : Int) (z D : List Int) : SBI c inj (g6s g f hop z D).2.2 := by
  unfold g6s
  split
  · exact h
  · split
    · exact h
    · have hb0 := bdo_sbi h f (el z 5) (whr g f (ldo g.c f).2)
      split
      · exact hb0
      · rename_i h3
        rw [g6b_st]
        obtain ⟨b2, q1, q2, _⟩ := bdo_in (Classical.not_not.1 h3)
        exact guo_sbi hb0 _ _ _ q1 q2
theorem g6_sbi {c : List Int} {inj : Bool} {g : GS} (h : SBI c inj g) (zs : List Int) : SBI c inj (g6 g zs).2.2 := by
  by_cases hG : V6.Good zs
  · by_cases hE : (o6s zs).1 = 0
    · have e : g6 g zs = g6s g (f6 zs) (zs.getD 7 0) (o6s zs).2.1 (o6s zs).2.2 := by
        unfold g6 g6s
        rw [if_neg (fun h => h hG), if_neg (fun h => h hE)]
      rw [e]
      exact g6s_sbi h _ _ _ _
    · have e : g6 g zs = ((o6s zs).1, [], g) := by unfold g6; rw [if_neg (fun h => h hG), if_pos hE]
      rw [e]
      exact h
  · have e : g6 g zs = (5, [], g) := by unfold g6; exact if_pos hG
    rw [e]
    exact h
theorem g4_sbi {c : List Int} {inj : Bool} {g : GS} (h : SBI c inj g) (zs : List Int) : SBI c inj (g4 g zs).2.2 := by
  unfold g4
  split
  · exact h
  · split
    · exact h
    · unfold g4s
      split
      · exact h
      · rename_i k hk
        split
        · rw [g4b_st]
          exact gdo_sbi (h.set (prt_lt (nrk_some hk).2).1) _ _ _
        · exact h
theorem gtk_sbi {c : List Int} {inj : Bool} {g : GS} (h : SBI c inj g) (n : Int) : SBI c inj (gtk g n).2 := by
  unfold gtk
  split
  · refine ⟨h.1, h.2.1, fun x hx => ?_⟩
    obtain ⟨h1, h2⟩ := sgo_mem.1 (show x ∈ sgo (es (g.now + n) g.bs g.ts g.bs.length).1 g.ss from hx)
    obtain ⟨b, q1, q2, q3⟩ := h.2.2 x h1
    obtain ⟨e1, e2, _⟩ := es_form (g.now + n) g.bs g.ts g.bs.length (Nat.le_refl _)
    rw [List.take_length] at e1 e2
    refine ⟨b, ?_, q2, q3⟩
    show b ∈ (es (g.now + n) g.bs g.ts g.bs.length).2.1
    rw [e2, List.mem_filter]
    refine ⟨q1, ?_⟩
    cases hx : xp (g.now + n) b
    · rfl
    · exact absurd q2.symm (h2 b (by rw [e1]; exact List.mem_filter.2 ⟨q1, hx⟩))
  · exact h
theorem gmk_sbi {c : List Int} {inj : Bool} {g : GS} (h : SBI c inj g) (id : Int) (f : List Int → List Int) : SBI c inj (gmk g id f).2 := by
  unfold gmk
  split <;> exact h
theorem gz0_sbi (c : List Int) (inj : Bool) (bk : List (List Int)) (m : Nat) : SBI c inj (gz0 c inj bk m) := ⟨rfl, rfl, fun x hx => absurd hx (by simp [gz0, GS.ss])⟩
end Go.Proofs.YtkhahbghmdccaaaGreatDoor

namespace Go.Proofs.YtkhahbghmdccaaaGreatDoor
open Go.RowKit
set_option linter.unusedVariables false
theorem port_inj {bs : List (List Int)} (h : bs.Pairwise (fun a b => el a 19 < el b 19)) {x y : List Int} (hx : x ∈ bs) (hy : y ∈ bs) (e : el x 19 = el y 19) : x = y := by
  obtain ⟨i, hi, rfl⟩ := List.getElem_of_mem hx
  obtain ⟨j, hj, rfl⟩ := List.getElem_of_mem hy
  have hp := List.pairwise_iff_getElem.1 h
  rcases (by omega : i = j ∨ i < j ∨ j < i) with rfl | hl | hl
  · rfl
  · have := hp i j hi hj hl
    omega
  · have := hp j i hj hi hl
    omega
theorem sfd_sup (p : Int) (st : List Int × Int × Bool × Bool) : ∀ {ss : List (Int × List Int × Int × Bool × Bool)} {st0 : List Int × Int × Bool × Bool}, (p, st0) ∈ ss → sfd (sup p st ss) p = some st
  | [], _, h => absurd h (by simp)
  | x :: r, st0, h => by
    by_cases e : x.1 = p
    · have : sup p st (x :: r) = (x.1, st) :: sup p st r := by
        unfold sup
        rw [List.map_cons, if_pos e]
      rw [this]
      unfold sfd
      rw [List.find?_cons_of_pos (by simpa using e)]
      rfl
    · have : sup p st (x :: r) = x :: sup p st r := by
        unfold sup
        rw [List.map_cons, if_neg e]
      rw [this]
      have hr : (p, st0) ∈ r := by
        rcases List.mem_cons.1 h with h | h
        · exact absurd (by rw [← h]) e
        · exact h
      have ih := sfd_sup p st hr
      unfold sfd at ih ⊢
      rw [List.find?_cons_of_neg (by simpa using e)]
      exact ih
theorem stf_in (g : GS) (b : List Int) : (el b 19, (stf g b).2) ∈ (stf g b).1 := by
  unfold stf
  split
  · rename_i st hs
    exact sfd_some hs
  · exact List.mem_cons_self ..
def UP (c : List Int) (inj : Bool) (b z D zu Du : List Int) (ss : List (Int × List Int × Int × Bool × Bool)) : Prop :=
  (tell c inj b = false ∧ zu = z ∧ Du = D ∧ sfd ss (el b 19) = none) ∨
  (tell c inj b = true ∧ ∃ hd s' h', hd.length = 52 ∧ SM.Oct hd ∧ sfd ss (el b 19) = some (hd, s', true, h') ∧ (0 ≤ s' ∧ s' < 4294967296) ∧
    ((el z 5 / 2 % 2 = 1 ∧ D = [] ∧ zu = zq z (md (el z 3 - 52)) ∧ Du = [] ∧ s' = md (el z 3 + 1)) ∨
     (¬ el z 5 / 2 % 2 = 1 ∧ el z 3 = s' ∧ zu = zq z (md (el z 3 - 52)) ∧ Du = hd ++ D ∧ 52 + D.length ≤ 300) ∨
     (¬ el z 5 / 2 % 2 = 1 ∧ zu = z ∧ Du = D)))
theorem guo_core {c : List Int} {inj : Bool} {g : GS} (h : SBI c inj g) (hi : IG g) {b z D b2 : List Int} {now : Int} (hb2 : b2 ∈ g.bs) (e : b2 = b ∨ b2 = usd b now) (h0 : (guo g b z D).1 = 0) :
    UP c inj b z D (guo g b z D).2.1 (guo g b z D).2.2.1 (guo g b z D).2.2.2.ss := by
  have hb3 : el b2 19 = el b 19 ∧ tell c inj b2 = tell c inj b ∧ hb b2 = hb b ∧ okf b2 = okf b := by
    rcases e with rfl | rfl
    · exact ⟨rfl, rfl, rfl, rfl⟩
    · exact ⟨rfl, rfl, rfl, rfl⟩
  have hbi := hi.1.2.2.1
  cases ht : tell c inj b
  · left
    have hg : guo g b z D = (0, z, D, g) := by
      unfold guo
      rw [h.1, h.2.1]
      exact if_neg (by rw [ht]; decide)
    rw [hg]
    refine ⟨ht, rfl, rfl, ?_⟩
    cases hs : sfd g.ss (el b 19) with
    | none => rfl
    | some st =>
      obtain ⟨b3, q1, q2, q3, _⟩ := h.2.2 _ (sfd_some hs)
      have := port_inj hbi.2.1 q1 hb2 (q2.trans hb3.1.symm)
      rw [this, hb3.2.1, ht] at q3
      cases q3
  · right
    refine ⟨ht, ?_⟩
    have hhd : (stf g b).2.1.length = 52 ∧ SM.Oct (stf g b).2.1 := by
      unfold stf
      split
      · rename_i st hs
        obtain ⟨b3, q1, q2, q3, q4⟩ := h.2.2 _ (sfd_some hs)
        have q5 : st.1 = hb b3 := q4
        rw [q5]
        exact ⟨hb_len _, hb_oct (hbi.1 _ q1).1⟩
      · exact ⟨hb_len _, hb_oct (by rw [← hb3.2.2.2]; exact (hbi.1 _ hb2).1)⟩
    have hsi := guo_si hi.2.1 b z D
    have hin := stf_in g b
    have hg : guo g b z D = ((upo (stf g b).2.1 (stf g b).2.2.1 (stf g b).2.2.2.1 (stf g b).2.2.2.2 z D).1, (upo (stf g b).2.1 (stf g b).2.2.1 (stf g b).2.2.2.1 (stf g b).2.2.2.2 z D).2.1, (upo (stf g b).2.1 (stf g b).2.2.1 (stf g b).2.2.2.1 (stf g b).2.2.2.2 z D).2.2.1, g.str (sup (el b 19) ((stf g b).2.1, (upo (stf g b).2.1 (stf g b).2.2.1 (stf g b).2.2.2.1 (stf g b).2.2.2.2 z D).2.2.2) (stf g b).1)) := by
      unfold guo
      exact if_pos (by rw [h.1, h.2.1]; exact ht)
    rw [hg] at h0 hsi ⊢
    generalize (stf g b).1 = ss1 at h0 hsi hin ⊢
    generalize (stf g b).2 = st at h0 hsi hin hhd ⊢
    obtain ⟨hd, s, bb, hh⟩ := st
    dsimp only at h0 hsi hin hhd ⊢
    have hf := sfd_sup (el b 19) (hd, (upo hd s bb hh z D).2.2.2) hin
    have hss : (g.str (sup (el b 19) (hd, (upo hd s bb hh z D).2.2.2) ss1)).ss = sup (el b 19) (hd, (upo hd s bb hh z D).2.2.2) ss1 := rfl
    rw [hss]
    have hv := hsi _ (sfd_some hf)
    unfold upo at h0 hf hv ⊢
    split at h0
    · rename_i hc; exact absurd h0 hc
    · rename_i hc
      rw [if_neg hc] at hf hv ⊢
      split at h0
      · rename_i hsy
        rw [if_pos hsy] at hf hv ⊢
        unfold bgo at h0 hf hv ⊢
        split at h0
        · cases h0
        · rename_i hl
          rw [if_neg hl] at hf hv ⊢
          refine ⟨hd, _, _, hhd.1, hhd.2, hf, hv.2, .inl ⟨hsy, List.length_eq_zero_iff.1 (by omega), ?_, rfl, rfl⟩⟩
          rw [hhd.1]
          rfl
      · rename_i hsy
        rw [if_neg hsy] at hf hv ⊢
        split at h0
        · cases h0
        · rename_i hb
          rw [if_neg hb] at hf hv ⊢
          have hbt : bb = true := by cases bb; exact absurd rfl hb; rfl
          subst hbt
          split at h0
          · rename_i hq
            rw [if_pos hq] at hf hv ⊢
            unfold fio at h0 hf hv ⊢
            split at h0
            · cases h0
            · rename_i hl
              rw [if_neg hl] at hf hv ⊢
              refine ⟨hd, _, _, hhd.1, hhd.2, hf, hv.2, .inr (.inl ⟨hsy, hq.1, ?_, rfl, by have := hhd.1; omega⟩)⟩
              rw [hhd.1]
              rfl
          · rename_i hq
            rw [if_neg hq] at hf hv ⊢
            exact ⟨hd, _, _, hhd.1, hhd.2, hf, hv.2, .inr (.inr ⟨hsy, rfl, rfl⟩)⟩
theorem cf_okg {z : List Int} {n : Nat} (h : Okg z n) (h6 : el z 0 = 6) : cf z n = 0 := by
  unfold cf
  rw [(sf_iff z n).2 h, if_neg (fun q => q.2 h6)]
theorem ask_core {c : List Int} {inj : Bool} {g : GS} (h : SBI c inj g) (hi : IG g) {s d z D : List Int} {hop : Int} (hs : Ok6 s) (hd : Ok6 d) (ht : up 255 hop = true) (hz : Okg z D.length) (ho : SM.Oct D) (h0 : (g6 g (p6o s d hop z D)).1 = 0) :
    ∃ b ∈ (g6 g (p6o s d hop z D)).2.2.bs, ∃ zu Du, 2 ≤ hop ∧ flC b = flC (fl5 (el z 0) s (el z 1) d (el z 2)) ∧ (g6 g (p6o s d hop z D)).2.1 = p4o (el c 18) (el b 20) (hop - 1) (zft zu (el b 19) (el b 21)) Du ∧ UP c inj b (z7 z) D zu Du (g6 g (p6o s d hop z D)).2.2.ss ∧ IG (g6 g (p6o s d hop z D)).2.2 ∧ SBI c inj (g6 g (p6o s d hop z D)).2.2 := by
  have hig := (g6_ig hi (p6o_oct hs hd ht hz ho)).1
  have hsb := g6_sbi h (p6o s d hop z D)
  rw [g6_p6o g hs hd ht hz] at h0 hig hsb ⊢
  by_cases h2 : hop < 2
  · rw [if_pos h2] at h0
    cases h0
  rw [if_neg h2] at h0 hig hsb ⊢
  have hf : okf (fl5 (el z 0) s (el z 1) d (el z 2)) = true := fl5_ok hz hs hd
  have hfd : Ok6 (dst (fl5 (el z 0) s (el z 1) d (el z 2))) := fl5_dst hd
  generalize fl5 (el z 0) s (el z 1) d (el z 2) = f at h0 hig hsb hf hfd ⊢
  unfold g6s at h0 hig hsb ⊢
  split at h0
  · cases h0
  rename_i h3
  rw [if_neg h3] at hig hsb ⊢
  split at h0
  · cases h0
  rename_i h4
  rw [if_neg h4] at hig hsb ⊢
  split at h0
  · rename_i h5; exact absurd h0 h5
  rename_i h5
  rw [if_neg h5] at hig hsb ⊢
  have hb0 := bdo_sbi h f (el (z7 z) 5) (whr g f (ldo g.c f).2)
  have hbs := bdo_sm g f (el (z7 z) 5) (whr g f (ldo g.c f).2)
  have hbt := bdo_ti (flags := el (z7 z) 5) hi.1 hf (fun h0 => whr_ok hi.2.2 hf hfd (Classical.not_not.1 h3) h0)
  have hbss := (bdo_ss g f (el (z7 z) 5) (whr g f (ldo g.c f).2)).1
  have hbi : IG (bdo g f (el (z7 z) 5) (whr g f (ldo g.c f).2)).2.2 := ⟨hbt, by have := hi.2.1; unfold SI at this ⊢; rw [hbss]; exact this, hbs.ci hi.2.2⟩
  obtain ⟨b2, q1, q2, q3⟩ := bdo_in (Classical.not_not.1 h5)
  generalize bdo g f (el (z7 z) 5) (whr g f (ldo g.c f).2) = R at h0 hig hsb hb0 hbs hbt hbi q1 q2 q3 ⊢
  obtain ⟨r1, b, g2⟩ := R
  dsimp only at h0 hig hsb hb0 hbs hbt hbi q1 q2 q3 ⊢
  unfold g6b at h0 hig hsb ⊢
  split at h0
  · rename_i h6; exact absurd h0 h6
  rename_i h6
  rw [if_neg h6] at hig hsb ⊢
  have hU := guo_core hb0 hbi (b := b) (z := z7 z) (D := D) q1 q2 (Classical.not_not.1 h6)
  have hbs2 := (guo_c g2 b (z7 z) D).2.2
  have hc2 : g2.c = c := hb0.1
  refine ⟨b2, ?_, (guo g2 b (z7 z) D).2.1, (guo g2 b (z7 z) D).2.2.1, by omega, ?_, ?_, ?_, hig, hsb⟩
  · show b2 ∈ (guo g2 b (z7 z) D).2.2.2.bs
    rw [hbs2]
    exact q1
  · rcases q2 with rfl | rfl
    · exact q3
    · exact q3
  · show p4o (el g2.c 18) _ _ _ _ = _
    rw [hc2]
    rcases q2 with rfl | rfl
    · rfl
    · rfl
  · rcases q2 with rfl | rfl
    · exact hU
    · exact hU
end Go.Proofs.YtkhahbghmdccaaaGreatDoor

namespace Go.Proofs.YtkhahbghmdccaaaGreatDoor
open Go.RowKit
set_option linter.unusedVariables false
theorem upx_ok {c : List Int} {inj : Bool} {b z D zu Du : List Int} {ss : List (Int × List Int × Int × Bool × Bool)} (h : UP c inj b z D zu Du ss) (hz : Okg z D.length) (ho : SM.Oct D) (h0 : el b 0 = el z 0) : Okg zu Du.length ∧ SM.Oct Du ∧ el zu 0 = el z 0 ∧ el zu 5 = el z 5 := by
  rcases h with ⟨_, rfl, rfl, _⟩ | ⟨ht, hd, s', h', q1, q2, _, _, h⟩
  · exact ⟨hz, ho, rfl, rfl⟩
  · have h6 : el z 0 = 6 := by
      unfold tell at ht
      simp only [Bool.and_eq_true, beq_iff_eq] at ht
      rw [← h0]
      exact ht.1.2
    have hz6 : (0 ≤ el z 3 ∧ el z 3 ≤ 4294967295) ∧ (0 ≤ el z 4 ∧ el z 4 ≤ 4294967295) ∧ (0 ≤ el z 5 ∧ el z 5 ≤ 31) ∧ (0 ≤ el z 6 ∧ el z 6 ≤ 65535) := by
      rcases hz.2.2.2 with h | h
      · exact h.2
      · have := h.1
        omega
    have hm := md_in (el z 3 - 52)
    have hq : ∀ n, n ≤ 300 → Okg (zq z (md (el z 3 - 52))) n := fun n hn => ⟨hz.1, hz.2.1, hn, .inl ⟨h6, ⟨hm.1, by show md (el z 3 - 52) ≤ _; omega⟩, hz6.2.1, hz6.2.2.1, hz6.2.2.2⟩⟩
    rcases h with ⟨_, rfl, rfl, rfl, _⟩ | ⟨_, _, rfl, rfl, h300⟩ | ⟨_, rfl, rfl⟩
    · exact ⟨hq _ (by decide), ho, rfl, rfl⟩
    · exact ⟨hq _ (by rw [List.length_append]; omega), SM.oct_append _ _ q2 ho, rfl, rfl⟩
    · exact ⟨hz, ho, rfl, rfl⟩
theorem wd_in {n : Int} (h : wd n = true) : 0 ≤ n ∧ n ≤ 65535 := by
  unfold wd at h
  rw [Bool.and_eq_true, decide_eq_true_eq, decide_eq_true_eq] at h
  exact h
theorem dec4_p4o {s d t : Int} {z D : List Int} (hs : up 4294967295 s = true) (hd : up 4294967295 d = true) (ht : up 255 t = true) (hz : Okg z D.length) : ∃ (N : Nat) (E : List Int),
    (∀ W b l q, Row8 W b l q (p4o s d t z D) → l ≤ q → q ≤ maxLen → Calls Tryz.prog 22 #[.slice b l q] W fun e w' => ∃ a1 c1, e = .returned (.tuple #[.agg #[.int .i64 s, .int .i64 d, .int .i64 t, .int .i64 (el z 0), .int .i64 0, .slice a1 N c1], .nilIface]) ∧ (Row8 w' a1 N c1 E ∧ N ≤ c1 ∧ c1 ≤ maxLen) ∧ Below W.heap.size W w') ∧
    (∀ W a1 c1, Row8 W a1 N c1 E → N ≤ c1 → c1 ≤ maxLen → Calls Tryz.prog 23 #[.agg #[.int .i64 s, .int .i64 d, .int .i64 t, .int .i64 (el z 0), .int .i64 0, .slice a1 N c1]] W fun e w' => ∃ a2 l2 c2, e = .returned (.tuple #[.agg (sgC z a2 l2 c2), .int .i64 0]) ∧ Row8 w' a2 l2 c2 D ∧ Below W.heap.size W w') := by
  have hok := okp4z hs hd ht hz
  obtain ⟨N, hN0⟩ : ∃ N, hn (el z 0) + D.length = N := ⟨_, rfl⟩
  have hni : ((hn (el z 0) : Nat) + (D.length : Int)) = (N : Int) := by omega
  have hel : (eb z (o4 s d (el z 0) N) D).length = N := by rw [eb_len]; exact hN0
  refine ⟨N, eb z (o4 s d (el z 0) N) D, fun W b l q r e1 e2 => ?_, fun W a1 c1 r e1 e2 => seg4_eb z D s d t 0 N a1 c1 W hz hok hN0.symm r e1 e2⟩
  unfold p4o at r
  rw [hni] at r
  refine (V4.decode_bysb b l q s d t (el z 0) 0 _ W r e1 e2 hok (eb_le hz _)).mono ?_
  rintro e w' ⟨a', l', c', e3, e4, e5⟩
  have hl' : N = l' := hel.symm.trans e4.1.1
  subst hl'
  exact ⟨a', c', e3, e4, e5⟩
end Go.Proofs.YtkhahbghmdccaaaGreatDoor
