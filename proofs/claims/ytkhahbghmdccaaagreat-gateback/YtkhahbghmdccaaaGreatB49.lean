/- A step played on a gate. A step played on a gate: what is sent by it. A step played on a gate: what holds of it goes on to hold. A row of steps of gangplanklaw3, opened. GateApart: what is asked of a gate's binds. Streams belong to binds. -/
import Derived.Test.YtkhahbghmdccaaaGreatB47
import Derived.Test.YtkhahbghmdccaaaGreatB48
import Derived.Below
import Derived.OpenShut
import Derived.Test.YtkhahbghmdccaaaGreatProg
import Derived.WalkKit
import Derived.LaidEql
import Derived.BigQuiet
import Derived.Laws.AppendOwnNone
import Derived.Laws.MakeOwn
import Derived.Deep.RegionLaw
import Derived.Lib.Bytes
import Derived.Deep.MidRow
import Derived.Laws.ResultCell
import Derived.Deep.CutBlock
import Derived.Deep.QuietTactic
import Derived.OwnWalk
import Derived.Deep.RegionHeld3
import Derived.Deep.DrawnRows
import Derived.Laws.StructEq
import Derived.Maps.AppendAt
import Derived.Maps.RangeWalk
import Derived.Stop.Asserts
import Derived.RowKitTokens
import Derived.Test.YtkhahbghmdccaaaGreatShelf
import Derived.Shelf.Abstract
import Derived.Lib.SliceRun
import Derived.Lib.AppendZerosOnto
import Derived.Lib.AppendZeros
import Derived.Laws.CopyOwn
import Derived.RangeFuncNested
import Derived.RangeFuncBound
import Derived.RangeFuncCalls
import Derived.RangeFuncLeaves
import Derived.RangeFuncFrom
import Derived.Shelf.RegionOpen
import Derived.OwnWalkIn
import Derived.TacticsInMore
import Derived.LoopNIn
import Derived.LoopIn
import Derived.Deep.RegionWith
import Derived.ArgAppend
import Derived.Lib.SlBytesConst
import Derived.Lib.AppendStr
import Derived.Deep.Slices
import Derived.ChangeArms
import Derived.WideShapes
import Derived.Deep.Fields
import Derived.ChangeSlices
import Derived.Test.YtkhahbghmdccaaaGreatB43
import Derived.Test.YtkhahbghmdccaaaGreatB45
namespace Go.Proofs.YtkhahbghmdccaaaGreat
open Go.RowKit
set_option linter.unusedVariables false
def stl (x : Value) : Sem Value := Instr.loadAt 32 x
theorem stl_shut (x : Value) : Instr.loadAt 32 x = stl x := rfl
theorem StIn3.sl {B : Nat} {wh : Int} {ba : Option Addr} {bl bc : Nat} {z : List Int} {a : Option Addr} {len cap : Nat} {s d : List Int} {hop n : Int} {is : Bool} {w : World} (p : StIn3 B wh ba bl bc z a len cap s d hop n is w) : (stl (.pointer (some ⟨B, 0, none⟩))).run Tryz.prog w = .ok (.agg (stC3 wh ba bl bc z a len cap s d hop n is)) w :=
  run_loadAt_mid w B 0 32 (stC3 wh ba bl bc z a len cap s d hop n is).toList _ (fun j v hv => by
    rw [Nat.zero_add, p.cellAt]
    simpa using hv) Tryz.underlying32 rfl (by kernel_rfl)
theorem GN.pre {w : World} {G : Nat} {g' : GS} {O : Nat → Prop} {W W1 W' : World} (h : GN w G g' O W1 W') (hb : Below W.heap.size W W1) : GN w G g' O W W' := by
  obtain ⟨O', h1, h2, h3⟩ := h
  have hs := hb.size
  exact ⟨O', h1, fun k hk => (h2 k hk).elim .inl (fun h => .inr (by omega)), Kpt.trans (Kpt.of hb) h3 (fun k hk => .inl hk)⟩
attribute [local go_sem ↓] stl_shut cload_shut
set_option maxRecDepth 100000 in
set_option maxHeartbeats 4000000 in
theorem play_a (G : Nat) (wh : Int) (ba : Option Addr) (bl bc : Nat) (z : List Int) (a : Option Addr) (len cap : Nat) (s d : List Int) (hop n : Int) (is : Bool) (c : List Int) (inj : Bool) (ka : Option Addr) (kn kc : Nat) (w : World) (R : World → Prop)
    (h : (wh = 0 ∧ ∀ W, Below w.heap.size w W → Calls Tryz.prog 16 #[.pointer (some ⟨G, 0, none⟩), .slice ba bl bc] W fun e w' => (∃ a2 l2 c2 v, e = .returned (.tuple #[.slice a2 l2 c2, v])) ∧ R w') ∨
      (wh = 1 ∧ ∀ W, Below w.heap.size w W → Calls Tryz.prog 19 #[.pointer (some ⟨G, 0, none⟩), .slice ba bl bc] W fun e w' => (∃ a2 l2 c2 v, e = .returned (.tuple #[.slice a2 l2 c2, v])) ∧ R w') ∨
      (wh = 2 ∧ ∀ W, Below w.heap.size w W → Calls Tryz.prog 36 #[.pointer (some ⟨G, 0, none⟩), .int .i64 n] W fun e w' => (∃ v, e = .returned v) ∧ R w') ∨
      (wh = 3 ∧ ∀ W, Below w.heap.size w W → Calls Tryz.prog 42 #[.pointer (some ⟨G, 0, none⟩), .int .i64 n, .bool is] W fun e w' => (∃ v, e = .returned v) ∧ R w') ∨
      (wh = 4 ∧ ∀ W, Below w.heap.size w W → Calls Tryz.prog 50 #[.pointer (some ⟨G, 0, none⟩), .int .i64 n, .bool is] W fun e w' => (∃ v, e = .returned v) ∧ R w')) :
    Calls Tryz.prog 14 #[.pointer (some ⟨G, 0, none⟩), .agg (stC3 wh ba bl bc z a len cap s d hop n is), .agg (cfC c inj ka kn kc)] w fun e w' => (∃ v, e = .returned v) ∧ R w' := by
  have HK := hide (Ks3.start w wh ba bl bc z a len cap s d hop n is c inj ka kn kc)
  rcases h with ⟨rfl, h⟩ | ⟨rfl, h⟩ | ⟨rfl, h⟩ | ⟨rfl, h⟩ | ⟨rfl, h⟩
  · have HC := hide h
    clear h
    go_enter Tryz.func14, Tryz.ntmps14
    go_upto_region 1 with fail
    generalize (World.alloc _ _).alloc _ = W0 at HK ⊢
    have q0 := HK.out.1.what
    have q1 := HK.out.1.bytes
    go_wp2_with (go_at_call 16; refine (HC.out _ HK.out.2.2).mono ?_; rintro e w1 ⟨⟨a2, l2, c2, v, rfl⟩, r1⟩; have HR := hide r1; clear r1)
    refine bodyPost_ret (results_tmp2 rfl _ _ _) rfl ?_
    exact ⟨⟨_, rfl⟩, HR.out⟩
  · have HC := hide h
    clear h
    go_enter Tryz.func14, Tryz.ntmps14
    go_upto_region 1 with fail
    generalize (World.alloc _ _).alloc _ = W0 at HK ⊢
    have q0 := HK.out.1.what
    have q1 := HK.out.1.bytes
    go_wp2_with (go_at_call 19; refine (HC.out _ HK.out.2.2).mono ?_; rintro e w1 ⟨⟨a2, l2, c2, v, rfl⟩, r1⟩; have HR := hide r1; clear r1)
    refine bodyPost_ret (results_tmp2 rfl _ _ _) rfl ?_
    exact ⟨⟨_, rfl⟩, HR.out⟩
  · have HC := hide h
    clear h
    go_enter Tryz.func14, Tryz.ntmps14
    go_upto_region 1 with fail
    generalize (World.alloc _ _).alloc _ = W0 at HK ⊢
    have q0 := HK.out.1.what
    have q1 := HK.out.1.num
    go_wp2_with (go_at_call 36; refine (HC.out _ HK.out.2.2).mono ?_; rintro e w1 ⟨⟨v, rfl⟩, r1⟩; have HR := hide r1; clear r1)
    refine bodyPost_ret (results_tmp2 rfl _ _ _) rfl ?_
    exact ⟨⟨_, rfl⟩, HR.out⟩
  · have HC := hide h
    clear h
    go_enter Tryz.func14, Tryz.ntmps14
    go_upto_region 1 with fail
    generalize (World.alloc _ _).alloc _ = W0 at HK ⊢
    have q0 := HK.out.1.what
    have q1 := HK.out.1.num
    have q2 := HK.out.1.is
    go_wp2_with (go_at_call 42; refine (HC.out _ HK.out.2.2).mono ?_; rintro e w1 ⟨⟨v, rfl⟩, r1⟩; have HR := hide r1; clear r1)
    refine bodyPost_ret (results_tmp2 rfl _ _ _) rfl ?_
    exact ⟨⟨_, rfl⟩, HR.out⟩
  · have HC := hide h
    clear h
    go_enter Tryz.func14, Tryz.ntmps14
    go_upto_region 1 with fail
    generalize (World.alloc _ _).alloc _ = W0 at HK ⊢
    have q0 := HK.out.1.what
    have q1 := HK.out.1.num
    have q2 := HK.out.1.is
    go_wp2_with (go_at_call 50; refine (HC.out _ HK.out.2.2).mono ?_; rintro e w1 ⟨⟨v, rfl⟩, r1⟩; have HR := hide r1; clear r1)
    refine bodyPost_ret (results_tmp2 rfl _ _ _) rfl ?_
    exact ⟨⟨_, rfl⟩, HR.out⟩
end Go.Proofs.YtkhahbghmdccaaaGreat

namespace Go.Proofs.YtkhahbghmdccaaaGreat
open Go.RowKit
set_option linter.unusedVariables false
attribute [local go_sem ↓] stl_shut cload_shut
set_option maxRecDepth 100000 in
set_option maxHeartbeats 4000000 in
theorem play_b (G : Nat) (wh : Int) (ba : Option Addr) (bl bc : Nat) (z : List Int) (a : Option Addr) (len cap : Nat) (s d : List Int) (hop n : Int) (is : Bool) (c : List Int) (inj : Bool) (ka : Option Addr) (kn kc : Nat) (w : World) (R : World → Prop) (zs : List Int) (h0 : (wh == 0) = false) (h1 : (wh == 1) = false) (h2 : (wh == 2) = false) (h3 : (wh == 3) = false) (h4 : (wh == 4) = false) (h5 : (wh == 5) = false)
    (hS : ∀ W, Below w.heap.size w W → Calls Tryz.prog 15 #[.agg (stC3 wh ba bl bc z a len cap s d hop n is), .agg (cfC c inj ka kn kc), .slice none 0 0] W fun e w' => ∃ b l k, e = .returned (.slice b l k) ∧ (Row8 w' b l k zs ∧ l ≤ k ∧ k ≤ maxLen) ∧ Below W.heap.size W w')
    (hC : ∀ W b l k, Below w.heap.size w W → Row8 W b l k zs → l ≤ k → k ≤ maxLen → Calls Tryz.prog 16 #[.pointer (some ⟨G, 0, none⟩), .slice b l k] W fun e w' => (∃ a2 l2 c2 v, e = .returned (.tuple #[.slice a2 l2 c2, v])) ∧ R w') :
    Calls Tryz.prog 14 #[.pointer (some ⟨G, 0, none⟩), .agg (stC3 wh ba bl bc z a len cap s d hop n is), .agg (cfC c inj ka kn kc)] w fun e w' => (∃ v, e = .returned v) ∧ R w' := by
  have HK := hide (Ks3.start w wh ba bl bc z a len cap s d hop n is c inj ka kn kc)
  have HS := hide hS
  have HC := hide hC
  clear hS hC
  go_enter Tryz.func14, Tryz.ntmps14
  go_upto_region 1 with fail
  generalize (World.alloc _ _).alloc _ = W0 at HK ⊢
  have q0 := HK.out.1.what
  go_upto_region 14 with fail
  clear q0
  have q1 := HK.out.1.sl
  have q2 := HK.out.2.1.cl
  go_wp2_with (first
    | (go_at_call 15; refine (HS.out _ HK.out.2.2).mono ?_; rintro e w1 ⟨b1, l1, k1, rfl, r1, hb1⟩; have HR1 := hide r1; replace HK := hide (HK.out.kept hb1); clear r1 hb1 q1 q2)
    | (go_at_call 16; refine (HC.out _ _ _ _ HK.out.2.2 HR1.out.1 HR1.out.2.1 HR1.out.2.2).mono ?_; rintro e w2 ⟨⟨a2, l2, c2, v, rfl⟩, r2⟩; have HR := hide r2; clear r2))
  refine bodyPost_ret (results_tmp2 rfl _ _ _) rfl ?_
  exact ⟨⟨_, rfl⟩, HR.out⟩
set_option maxRecDepth 100000 in
set_option maxHeartbeats 4000000 in
theorem play_c (G : Nat) (ba : Option Addr) (bl bc : Nat) (z : List Int) (a : Option Addr) (len cap : Nat) (s d : List Int) (hop n : Int) (is : Bool) (c : List Int) (inj : Bool) (ka : Option Addr) (kn kc : Nat) (w : World) (R : World → Prop) (zs : List Int) (bs : List (List Int))
    (hB : ∀ W, Below w.heap.size w W → Calls Tryz.prog 24 #[.pointer (some ⟨G, 0, none⟩)] W fun e w' => ∃ v, e = .returned v ∧ BdRow 0 w' v bs ∧ Below W.heap.size W w')
    (hS : ∀ W v, Below w.heap.size w W → BdRow 0 W v bs → Calls Tryz.prog 15 #[.agg (stC3 5 ba bl bc z a len cap s d hop n is), .agg (cfC c inj ka kn kc), v] W fun e w' => ∃ b l k, e = .returned (.slice b l k) ∧ (Row8 w' b l k zs ∧ l ≤ k ∧ k ≤ maxLen) ∧ Below W.heap.size W w')
    (hC : ∀ W b l k, Below w.heap.size w W → Row8 W b l k zs → l ≤ k → k ≤ maxLen → Calls Tryz.prog 19 #[.pointer (some ⟨G, 0, none⟩), .slice b l k] W fun e w' => (∃ a2 l2 c2 v, e = .returned (.tuple #[.slice a2 l2 c2, v])) ∧ R w' ∧ ∀ B, w.heap.size ≤ B → B < W.heap.size → w'.heap[B]? = W.heap[B]?) :
    Calls Tryz.prog 14 #[.pointer (some ⟨G, 0, none⟩), .agg (stC3 5 ba bl bc z a len cap s d hop n is), .agg (cfC c inj ka kn kc)] w fun e w' => (∃ v, e = .returned v) ∧ R w' := by
  have HK := hide (Ks3.start w 5 ba bl bc z a len cap s d hop n is c inj ka kn kc)
  have HBd := hide hB
  have HS := hide hS
  have HC := hide hC
  clear hB hS hC
  go_enter Tryz.func14, Tryz.ntmps14
  go_upto_region 1 with fail
  generalize (World.alloc _ _).alloc _ = W0 at HK ⊢
  have q0 := HK.out.1.what
  go_upto_region 13 with fail
  clear q0
  replace HK := hide (HK.out.kept (show Below W0.heap.size W0 W0.drew from (Below.refl _ _).drew))
  have HQ := hide (fun W (h : StIn3 w.heap.size 5 ba bl bc z a len cap s d hop n is W ∧ CfIn (w.heap.size + 1) c inj ka kn kc W) => (show (stl (.pointer (some ⟨w.heap.size, 0, none⟩))).run Tryz.prog W = .ok (.agg (stC3 5 ba bl bc z a len cap s d hop n is)) W ∧ (cload (.pointer (some ⟨w.heap.size + 1, 0, none⟩))).run Tryz.prog W = .ok (.agg (cfC c inj ka kn kc)) W from ⟨h.1.sl, h.2.cl⟩))
  obtain ⟨q1, q2⟩ := HQ.out _ ⟨HK.out.1, HK.out.2.1⟩
  go_region_held3 (fun W => (stl (.pointer (some ⟨w.heap.size, 0, none⟩))).run Tryz.prog W = .ok (.agg (stC3 5 ba bl bc z a len cap s d hop n is)) W ∧ (cload (.pointer (some ⟨w.heap.size + 1, 0, none⟩))).run Tryz.prog W = .ok (.agg (cfC c inj ka kn kc)) W)
    (first
      | exact HQ.out _ ⟨HK.out.1, HK.out.2.1⟩
      | exact HQ.out _ HK3.out
      | go_keep)
    (first
      | (go_at_call 24; refine (HBd.out _ HK.out.2.2).mono ?_; rintro e w1 ⟨v1, rfl, r1, hb1⟩; have HR1 := hide r1; replace HK := hide (HK.out.kept hb1); clear r1 hb1 q1 q2; obtain ⟨q1, q2⟩ := HQ.out _ ⟨HK.out.1, HK.out.2.1⟩)
      | (go_at_call 15; refine (HS.out _ _ HK.out.2.2 HR1.out).mono ?_; rintro e w2 ⟨b2, l2, k2, rfl, r2, hb2⟩; have HR2 := hide r2; replace HK := hide (HK.out.kept hb2); clear r2 hb2 q1 q2; obtain ⟨q1, q2⟩ := HQ.out _ ⟨HK.out.1, HK.out.2.1⟩)
      | (go_at_call 19; refine (HC.out _ _ _ _ HK.out.2.2 HR2.out.1 HR2.out.2.1 HR2.out.2.2).mono ?_; rintro e w3 ⟨⟨a3, l3, c3, v3, rfl⟩, r3, f3⟩; have HK3 := hide (show StIn3 w.heap.size 5 ba bl bc z a len cap s d hop n is w3 ∧ CfIn (w.heap.size + 1) c inj ka kn kc w3 from ⟨(f3 _ (Nat.le_refl _) HK.out.1.lt).trans HK.out.1, (f3 _ (Nat.le_succ _) HK.out.2.1.lt).trans HK.out.2.1⟩); have HR := hide r3; clear r3 f3 q1 q2; obtain ⟨q1, q2⟩ := HQ.out _ HK3.out))
  all_goals
    go_wp2_with fail
    refine bodyPost_ret (results_tmp2 rfl _ _ _) rfl ?_
    exact ⟨⟨_, rfl⟩, HR.out⟩
end Go.Proofs.YtkhahbghmdccaaaGreat

namespace Go.Proofs.YtkhahbghmdccaaaGreat
open Go.RowKit
set_option linter.unusedVariables false
theorem IG.len {g : GS} (h : IG g) : g.bk.length ≤ 8 := (oks_of h.2.2.2.2.2.2).1
theorem play_inv {Inv : GS → Prop} (h6 : ∀ g zs, IG g → SM.Oct zs → Inv g → Inv (g6 g zs).2.2) (h4 : ∀ g zs, IG g → SM.Oct zs → Inv g → Inv (g4 g zs).2.2) (ht : ∀ g n, IG g → Inv g → Inv (gtk g n).2) (hp : ∀ g id u, IG g → Inv g → Inv (gmk g id (fun x => bup x u)).2) (hd : ∀ g id u, IG g → Inv g → Inv (gmk g id (fun x => bdr x u)).2)
    (wh : Int) (ba : Option Addr) (bl bc : Nat) (B z : List Int) (a : Option Addr) (len cap : Nat) (D s d : List Int) (hop n : Int) (is : Bool) (c : List Int) (inj : Bool) (ka : Option Addr) (kn kc : Nat) (hn : I64 n) (hc : up 4294967295 (el c 18) = true) {w : World} {G : Nat} {g : GS} {O : Nat → Prop} {W : World} (hg : IG g) (hi : Inv g) (h : GH w G g O W) (rb : Row8 W ba bl bc B) (e1 : bl ≤ bc) (e2 : bc ≤ maxLen) (hr : Row8 W a len cap D) :
    Calls Tryz.prog 14 #[.pointer (some ⟨G, 0, none⟩), .agg (stC3 wh ba bl bc z a len cap s d hop n is), .agg (cfC c inj ka kn kc)] W fun e w' => (∃ v, e = .returned v) ∧ ∃ g', IG g' ∧ Inv g' ∧ GN w G g' O W w' := by
  by_cases w0 : wh = 0
  · exact play_a G wh ba bl bc z a len cap s d hop n is c inj ka kn kc W _ (.inl ⟨w0, fun W1 hb => (in6_gh hg B w G O W1 ba bl bc (h.kept hb) (rb.below hb) e1 e2).mono fun e w' ⟨⟨a2, l2, c2, q1, _⟩, q2⟩ => ⟨⟨a2, l2, c2, _, q1⟩, _, (g6_ig hg rb.2.2.1).1, h6 g B hg rb.2.2.1 hi, q2.pre hb⟩⟩)
  by_cases w1 : wh = 1
  · exact play_a G wh ba bl bc z a len cap s d hop n is c inj ka kn kc W _ (.inr (.inl ⟨w1, fun W1 hb => (in4_gh hg B w G O W1 ba bl bc (h.kept hb) (rb.below hb) e1 e2).mono fun e w' ⟨⟨a2, l2, c2, q1, _⟩, q2⟩ => ⟨⟨a2, l2, c2, _, q1⟩, _, (g4_ig hg B).1, h4 g B hg rb.2.2.1 hi, q2.pre hb⟩⟩))
  by_cases w2 : wh = 2
  · exact play_a G wh ba bl bc z a len cap s d hop n is c inj ka kn kc W _ (.inr (.inr (.inl ⟨w2, fun W1 hb => (tick_gh hg n w G O W1 (h.kept hb)).mono fun e w' ⟨q1, q2⟩ => ⟨⟨_, q1⟩, _, gtk_ig hg n, ht g n hg hi, q2.pre hb⟩⟩)))
  by_cases w3 : wh = 3
  · exact play_a G wh ba bl bc z a len cap s d hop n is c inj ka kn kc W _ (.inr (.inr (.inr (.inl ⟨w3, fun W1 hb => (probe_gh (by have := hg.len; omega) n is w G O W1 (h.kept hb)).mono fun e w' ⟨q1, q2⟩ => ⟨⟨_, q1⟩, _, gmk_ig hg n (f := fun x => bup x is) (fun _ => rfl) (fun _ => rfl), hp g n is hg hi, q2.pre hb⟩⟩))))
  by_cases w4 : wh = 4
  · exact play_a G wh ba bl bc z a len cap s d hop n is c inj ka kn kc W _ (.inr (.inr (.inr (.inr ⟨w4, fun W1 hb => (drain_gh (by have := hg.len; omega) n is w G O W1 (h.kept hb)).mono fun e w' ⟨q1, q2⟩ => ⟨⟨_, q1⟩, _, gmk_ig hg n (f := fun x => bdr x is) (fun _ => rfl) (fun _ => rfl), hd g n is hg hi, q2.pre hb⟩⟩))))
  by_cases w5 : wh = 5
  · subst w5
    obtain ⟨zs, hS⟩ := lsent5 ba bl bc z a len cap s d hop n is c inj ka kn kc g.bs D hr.1 hn hg.1.2.1 hc (fun b hb => (hg.1.2.2.1.1 b hb).2.2.2.1)
    refine play_c G ba bl bc z a len cap s d hop n is c inj ka kn kc W _ zs g.bs (fun W1 hb => ?_) (fun W1 v hb hv => hS W1 v hv (hr.below hb)) (fun W1 b l k hb r q1 q2 => ?_)
    · obtain ⟨x1, x2, x3, x4, x5, x6, rfl, hh⟩ := h.kept hb
      exact binds_any G x1 x2 x3 x4 x5 x6 g W1 hh.1 hg.1
    · refine (in4_gh hg zs w G O W1 b l k (h.kept hb) r q1 q2).mono ?_
      rintro e w' ⟨⟨a2, l2, c2, p1, _⟩, p2⟩
      refine ⟨⟨a2, l2, c2, _, p1⟩, ⟨_, (g4_ig hg zs).1, h4 g zs hg r.2.2.1 hi, p2.pre hb⟩, fun B' hB hB2 => ?_⟩
      obtain ⟨_, _, _, p3⟩ := p2
      exact p3.1.2.2.2.2 B' hB2 (fun ho => by have := h.lt ho; omega)
  · have f := fun (j : Int) (hj : ¬ wh = j) => show (wh == j) = false by simpa using hj
    obtain ⟨zs, hS⟩ : ∃ zs : List Int, ∀ W1, Below W.heap.size W W1 → Calls Tryz.prog 15 #[.agg (stC3 wh ba bl bc z a len cap s d hop n is), .agg (cfC c inj ka kn kc), .slice none 0 0] W1 fun e w' => ∃ b l k, e = .returned (.slice b l k) ∧ (Row8 w' b l k zs ∧ l ≤ k ∧ k ≤ maxLen) ∧ Below W1.heap.size W1 w' := by
      rcases lsent_any wh ba bl bc z a len cap s d hop n is c inj ka kn kc (.slice none 0 0) D W (f 5 w5) hr with h | ⟨hs, hd, ht, hz, h⟩
      · exact ⟨[], fun W hW => (h W hW).mono fun e w' ⟨e1, e2⟩ => ⟨none, 0, 0, e1, ⟨gt_no _, Nat.le_refl _, Nat.zero_le _⟩, e2⟩⟩
      · refine ⟨p6o s d hop z D, fun W hW => (h W hW).mono fun e w' ⟨v, e1, o, e2⟩ => ?_⟩
        obtain ⟨g, k, rfl, k1, k2, _, _, r⟩ := o.form p6o_len
        exact ⟨_, _, k, e1, ⟨r, k1, k2⟩, e2⟩
    refine play_b G wh ba bl bc z a len cap s d hop n is c inj ka kn kc W _ zs (f 0 w0) (f 1 w1) (f 2 w2) (f 3 w3) (f 4 w4) (f 5 w5) hS (fun W1 b l k hb r q1 q2 => ?_)
    refine (in6_gh hg zs w G O W1 b l k (h.kept hb) r q1 q2).mono ?_
    rintro e w' ⟨⟨a2, l2, c2, p1, _⟩, p2⟩
    exact ⟨⟨a2, l2, c2, _, p1⟩, _, (g6_ig hg r.2.2.1).1, h6 g zs hg r.2.2.1 hi, p2.pre hb⟩
end Go.Proofs.YtkhahbghmdccaaaGreat

namespace Go.Proofs.YtkhahbghmdccaaaGreat
open Go.ChangeShapes Go.WideShapes Go.Deep Go.RowKit
set_option maxRecDepth 100000 in
theorem step_of2 {H : Type} {enc : TypeId × Value → H} {W : World} {base : Nat} {held : Bool} {n : Nat} {cs : List Value} {y : DataW H × List MemPlace} (h : DataW.trod enc Tryz.prog W base (fun _ => true) held n 32 cs = some y) :
    ∃ wh ba bl bc bs z a len cap D s d hop m is, cs = (stC3 wh ba bl bc z a len cap s d hop m is).toList ∧ IsRow .u8 W ba bl bc bs ∧ Row8 W a len cap D ∧ I64 m := by
  have hu := Tryz.underlying32
  obtain ⟨xs, m, _, _, hl, hx, hall⟩ := DataW.trod_struct hu h
  have hF := Tryz.step3F
  rw [hu] at hF
  replace hF := Option.some.inj hF
  have c1 : Tryz.prog.cellsOf 3 = 1 := by kernel_rfl
  have cb : Tryz.prog.cellsOf 28 = 1 := by kernel_rfl
  have c8 : Tryz.prog.cellsOf 30 = 8 := by kernel_rfl
  have c6 : Tryz.prog.cellsOf 23 = 8 := by kernel_rfl
  have cl : Tryz.prog.cellsOf 4 = 1 := by kernel_rfl
  have c29 : Tryz.prog.cellsOf 32 = 29 := by kernel_rfl
  rw [c29] at hl
  obtain ⟨y0, g0⟩ := sg_field (k := 0) hF hx hall _ _ rfl
  obtain ⟨y1, g1⟩ := sg_field (k := 1) hF hx hall _ _ rfl
  obtain ⟨y2, g2⟩ := sg_field (k := 2) hF hx hall _ _ rfl
  obtain ⟨y3, g3⟩ := sg_field (k := 3) hF hx hall _ _ rfl
  obtain ⟨y4, g4⟩ := sg_field (k := 4) hF hx hall _ _ rfl
  obtain ⟨y5, g5⟩ := sg_field (k := 5) hF hx hall _ _ rfl
  obtain ⟨y6, g6⟩ := sg_field (k := 6) hF hx hall _ _ rfl
  obtain ⟨y7, g7⟩ := sg_field (k := 7) hF hx hall _ _ rfl
  rw [c1] at g0 g5 g6
  rw [cb] at g1
  rw [c8] at g2
  rw [c6] at g3 g4
  rw [cl] at g7
  obtain ⟨x0, e0, _, _⟩ := DataW.trod_int Tryz.underlying3 g0
  obtain ⟨x5, e5, _, _⟩ := DataW.trod_int Tryz.underlying3 g5
  obtain ⟨x6, e6, _, w6⟩ := DataW.trod_int Tryz.underlying3 g6
  obtain ⟨x7, e7, _⟩ := DataW.trod_bool Tryz.underlying4 g7
  obtain ⟨v1, e1⟩ := sg_cut (cs := cs) (o := 1) (by omega)
  rw [e1] at g1
  obtain ⟨ba, bl, bc, bs, rfl, hrow⟩ := field_bytes Tryz.underlying28 Tryz.underlying5 (by kernel_rfl) (fun _ => rfl) g1
  obtain ⟨z, a, len, cap, D, e2, hD⟩ := seg_of g2
  have hs := nums_six g3
  have hd := nums_six g4
  obtain ⟨s0, es0, _⟩ := hs.2 0 (by omega)
  rw [part_at (by omega)] at es0
  obtain ⟨s1, es1, _⟩ := hs.2 1 (by omega)
  rw [part_at (by omega)] at es1
  obtain ⟨s2, es2, _⟩ := hs.2 2 (by omega)
  rw [part_at (by omega)] at es2
  obtain ⟨s3, es3, _⟩ := hs.2 3 (by omega)
  rw [part_at (by omega)] at es3
  obtain ⟨s4, es4, _⟩ := hs.2 4 (by omega)
  rw [part_at (by omega)] at es4
  obtain ⟨s5, es5, _⟩ := hs.2 5 (by omega)
  rw [part_at (by omega)] at es5
  obtain ⟨s6, es6, _⟩ := hs.2 6 (by omega)
  rw [part_at (by omega)] at es6
  obtain ⟨s7, es7, _⟩ := hs.2 7 (by omega)
  rw [part_at (by omega)] at es7
  obtain ⟨d0, ed0, _⟩ := hd.2 0 (by omega)
  rw [part_at (by omega)] at ed0
  obtain ⟨d1, ed1, _⟩ := hd.2 1 (by omega)
  rw [part_at (by omega)] at ed1
  obtain ⟨d2, ed2, _⟩ := hd.2 2 (by omega)
  rw [part_at (by omega)] at ed2
  obtain ⟨d3, ed3, _⟩ := hd.2 3 (by omega)
  rw [part_at (by omega)] at ed3
  obtain ⟨d4, ed4, _⟩ := hd.2 4 (by omega)
  rw [part_at (by omega)] at ed4
  obtain ⟨d5, ed5, _⟩ := hd.2 5 (by omega)
  rw [part_at (by omega)] at ed5
  obtain ⟨d6, ed6, _⟩ := hd.2 6 (by omega)
  rw [part_at (by omega)] at ed6
  obtain ⟨d7, ed7, _⟩ := hd.2 7 (by omega)
  rw [part_at (by omega)] at ed7
  refine ⟨x0, ba, bl, bc, bs, z, a, len, cap, D, [s0, s1, s2, s3, s4, s5, s6, s7], [d0, d1, d2, d3, d4, d5, d6, d7], x5, x6, x7, List.ext_getElem? fun i => ?_, hrow, hD, i64_of w6⟩
  by_cases hi : i < 29
  · rcases (by omega : i = 0 ∨ i = 1 ∨ i = 2 ∨ i = 3 ∨ i = 4 ∨ i = 5 ∨ i = 6 ∨ i = 7 ∨ i = 8 ∨ i = 9 ∨ i = 10 ∨ i = 11 ∨ i = 12 ∨ i = 13 ∨ i = 14 ∨ i = 15 ∨ i = 16 ∨ i = 17 ∨ i = 18 ∨ i = 19 ∨ i = 20 ∨ i = 21 ∨ i = 22 ∨ i = 23 ∨ i = 24 ∨ i = 25 ∨ i = 26 ∨ i = 27 ∨ i = 28) with rfl | rfl | rfl | rfl | rfl | rfl | rfl | rfl | rfl | rfl | rfl | rfl | rfl | rfl | rfl | rfl | rfl | rfl | rfl | rfl | rfl | rfl | rfl | rfl | rfl | rfl | rfl | rfl | rfl
    · exact sg_one e0
    · exact sg_one e1
    · have := congrArg (fun l => l[0]?) e2; rw [part_at (by omega)] at this; exact this
    · have := congrArg (fun l => l[1]?) e2; rw [part_at (by omega)] at this; exact this
    · have := congrArg (fun l => l[2]?) e2; rw [part_at (by omega)] at this; exact this
    · have := congrArg (fun l => l[3]?) e2; rw [part_at (by omega)] at this; exact this
    · have := congrArg (fun l => l[4]?) e2; rw [part_at (by omega)] at this; exact this
    · have := congrArg (fun l => l[5]?) e2; rw [part_at (by omega)] at this; exact this
    · have := congrArg (fun l => l[6]?) e2; rw [part_at (by omega)] at this; exact this
    · have := congrArg (fun l => l[7]?) e2; rw [part_at (by omega)] at this; exact this
    · exact es0
    · exact es1
    · exact es2
    · exact es3
    · exact es4
    · exact es5
    · exact es6
    · exact es7
    · exact ed0
    · exact ed1
    · exact ed2
    · exact ed3
    · exact ed4
    · exact ed5
    · exact ed6
    · exact ed7
    · exact sg_one e5
    · exact sg_one e6
    · exact sg_one e7
  · rw [List.getElem?_eq_none (by omega), List.getElem?_eq_none (by show 29 ≤ i; omega)]
def Sts (a : Option Addr) (n : Nat) (w : World) : Prop := 0 < n → ∃ g off, a = some ⟨g, off, none⟩ ∧ ∀ k, k < n → ∃ wh ba bl bc bs z x l c zs s d hop m is, w.rangeAt g (off + k * 29) (stC3 wh ba bl bc z x l c s d hop m is).toList ∧ (Row8 w ba bl bc bs ∧ bl ≤ bc ∧ bc ≤ maxLen) ∧ Row8 w x l c zs ∧ I64 m
theorem Sts.below {a : Option Addr} {n : Nat} {w w' : World} (h : Sts a n w) (hb : Below w.heap.size w w') : Sts a n w' := by
  intro hp
  obtain ⟨g, off, e, hx⟩ := h hp
  refine ⟨g, off, e, fun k hk => ?_⟩
  obtain ⟨wh, ba, bl, bc, bs, z, x, l, c, zs, s, d, hop, m, is, h1, h2, h3, h4⟩ := hx k hk
  exact ⟨wh, ba, bl, bc, bs, z, x, l, c, zs, s, d, hop, m, is, rng_below h1 hb, ⟨h2.1.below hb, h2.2⟩, h3.below hb, h4⟩
set_option maxRecDepth 100000 in
theorem steps_open {H : Type} {enc : TypeId × Value → H} {W : World} {base : Nat} {held : Bool} {b0 : Nat} {v : Value} {x : DataW H} {p : List MemPlace} (h : Value.okWide Tryz.prog W .any b0 27 v) (ht : DataW.Trod enc Tryz.prog W base (fun _ => true) held 27 v x p) :
    ∃ a len cap, v = .slice a len cap ∧ len ≤ maxLen ∧ Sts a len W := by
  obtain ⟨a, len, cap, rfl⟩ := okWide_slice Tryz.underlying27 h
  obtain ⟨fuel, hf⟩ := ht
  rcases open_slice Tryz.underlying27 hf with ⟨hcs, _⟩ | ⟨a', len', cap', m, n, D, Pl, hcs, hb, hl, hm, hmm, _, hx⟩
  · simp [Value.cells] at hcs
    obtain ⟨rfl, rfl, rfl⟩ := hcs
    exact ⟨none, 0, 0, rfl, Nat.zero_le _, fun h => absurd h (by simp)⟩
  · simp [Value.cells] at hcs
    obtain ⟨rfl, rfl, rfl⟩ := hcs
    have c29 : Tryz.prog.cellsOf 32 = 29 := by kernel_rfl
    rw [c29] at hx
    have hlm : len ≤ m := by rw [hmm]; split <;> omega
    refine ⟨some a', len, cap, rfl, by omega, fun hp => ?_⟩
    obtain ⟨b, off, spot⟩ := a'
    have hspot : spot = none := by
      obtain ⟨cs', h1, h2⟩ := hx 0 (by omega)
      obtain ⟨wh, ba, bl, bc, bs, z, x, l, c, zs, s, d, hop, m', is, rfl, _⟩ := step_of2 h2
      obtain ⟨_, _, hcell⟩ := World.cells?_some h1
      have := hcell 0 (by omega)
      rw [add_add] at this
      have g0 : W.cell? ((⟨b, off, spot⟩ : Addr).add (0 * 29 + 0)) = some (.int .i64 wh) := by
        rw [this]
        rfl
      simpa [Addr.add] using World.cell?_spot g0
    subst hspot
    refine ⟨b, off, rfl, fun k hk => ?_⟩
    obtain ⟨cs', h1, h2⟩ := hx k (by omega)
    obtain ⟨wh, ba, bl, bc, bs, z, x, l, c, zs, s, d, hop, m', is, rfl, hrow, hD, hi⟩ := step_of2 h2
    refine ⟨wh, ba, bl, bc, bs.take bl, z, x, l, c, zs, s, d, hop, m', is, fun j v hv => ?_, ⟨hrow.row8, ?_⟩, hD, hi⟩
    rotate_left
    · rcases hrow with ⟨_, rfl, rfl, rfl⟩ | ⟨_, _, q1, q2, _⟩
      · exact ⟨Nat.le_refl _, Nat.zero_le _⟩
      · exact ⟨q1, q2⟩
    obtain ⟨_, _, hcell⟩ := World.cells?_some h1
    have hj : j < 29 := (List.getElem?_eq_some_iff.1 hv).1
    have := hcell j hj
    rw [add_add, add_pl, hv] at this
    rw [show off + k * 29 + j = off + (k * 29 + j) by omega]
    exact this
end Go.Proofs.YtkhahbghmdccaaaGreat

namespace Go.Proofs.YtkhahbghmdccaaaGreat
open Go.RowKit
set_option linter.unusedVariables false
theorem okf_dst {f : List Int} (h : okf f = true) : Ok6 (dst f) := by
  unfold okf at h
  simp only [Bool.and_eq_true] at h
  exact (s6_iff _).1 h.1.1.2
theorem GH.ag {w : World} {G : Nat} {g : GS} {O : Nat → Prop} {W : World} (h : GH w G g O W) : ∃ ow, Ag g.ws ow g.ts g.m := by
  obtain ⟨a, cap, tv, S, Ot, β, rfl, h, _⟩ := h
  obtain ⟨T, P, BB, F, N, ow, _, _, q, _⟩ := h.2.2.1
  exact ⟨ow, q⟩
theorem row_step {w : World} {g o : Nat} {wh : Int} {ba : Option Addr} {bl bc : Nat} {z : List Int} {a : Option Addr} {len cap : Nat} {s d : List Int} {hop n : Int} {is : Bool} (h : w.rangeAt g o (stC3 wh ba bl bc z a len cap s d hop n is).toList) : (stl (.pointer (some ⟨g, o, none⟩))).run Tryz.prog w = .ok (.agg (stC3 wh ba bl bc z a len cap s d hop n is)) w :=
  run_loadAt_mid w g o 32 _ _ (fun j v hv => h j v hv) Tryz.underlying32 rfl (by kernel_rfl)
end Go.Proofs.YtkhahbghmdccaaaGreat

namespace Go.Proofs.YtkhahbghmdccaaaGreat
open Go.RowKit
set_option linter.unusedVariables false
theorem ins_sub {x b : List Int} {bs : List (List Int)} (h : b ∈ bs) : b ∈ ins x bs := by
  obtain ⟨p, _, e, _⟩ := ins_form x bs
  rw [e]
  rw [← List.take_append_drop p bs] at h
  rcases List.mem_append.1 h with h | h
  · exact List.mem_append.2 (.inl h)
  · exact List.mem_append.2 (.inr (List.mem_append.2 (.inr h)))
theorem ins_new (x : List Int) (bs : List (List Int)) : x ∈ ins x bs := by
  obtain ⟨p, _, e, _⟩ := ins_form x bs
  rw [e]
  exact List.mem_append.2 (.inr (List.mem_append.2 (.inl (List.mem_singleton.2 rfl))))
theorem tell_usd (c : List Int) (inj : Bool) (b : List Int) (now : Int) : tell c inj (usd b now) = tell c inj b := rfl
theorem hb_usd (b : List Int) (now : Int) : hb (usd b now) = hb b := rfl
def SBI (c : List Int) (inj : Bool) (g : GS) : Prop := g.c = c ∧ g.inj = inj ∧ ∀ x ∈ g.ss, ∃ b ∈ g.bs, el b 19 = x.1 ∧ tell c inj b = true ∧ x.2.1 = hb b
theorem SBI.set {c : List Int} {inj : Bool} {g : GS} (h : SBI c inj g) {k : Nat} (hk : k < g.bs.length) : SBI c inj (g.tab g.ws g.ts (g.bs.set k (usd (g.bs.getD k []) g.now))) := ⟨h.1, h.2.1, fun x hx => by
  obtain ⟨b, hb0, e1, e2, e3⟩ := h.2.2 x hx
  obtain ⟨j, hj, rfl⟩ := List.getElem_of_mem hb0
  by_cases e : k = j
  · subst e
    refine ⟨usd (g.bs.getD k []) g.now, List.mem_set hk _, ?_, ?_, ?_⟩
    · rw [getD_at hk]; exact e1
    · rw [tell_usd, getD_at hk]; exact e2
    · rw [hb_usd, getD_at hk]; exact e3
  · exact ⟨g.bs[j], List.mem_iff_getElem.2 ⟨j, by show j < (g.bs.set k _).length; rw [List.length_set]; exact hj, by show (g.bs.set k _)[j]'_ = _; rw [List.getElem_set, if_neg e]⟩, e1, e2, e3⟩⟩
theorem bdo_in {g : GS} {f : List Int} {flags : Int} {wr : Int × Int × Int} (h : (bdo g f flags wr).1 = 0) : ∃ b2 ∈ (bdo g f flags wr).2.2.bs, (b2 = (bdo g f flags wr).2.1 ∨ b2 = usd (bdo g f flags wr).2.1 g.now) ∧ flC (bdo g f flags wr).2.1 = flC f := by
  cases hn : fnd g.bs f with
  | some k =>
    rw [bdo_some hn]
    obtain ⟨hk, _, hf⟩ := fndY hn
    exact ⟨usd (g.bs.getD k []) g.now, List.mem_set hk _, .inr rfl, hf⟩
  | none =>
    rw [bdo_none hn] at h ⊢
    split at h
    · cases h
    · rename_i h1
      rw [if_neg h1]
      split at h
      · rename_i h2; exact absurd h h2
      · rename_i h2
        rw [if_neg h2]
        split at h
        · cases h
        · rename_i i ht
          exact ⟨_, ins_new _ _, .inl rfl, rfl⟩
theorem bdo_sbi {c : List Int} {inj : Bool} {g : GS} (h : SBI c inj g) (f : List Int) (flags : Int) (wr : Int × Int × Int) : SBI c inj (bdo g f flags wr).2.2 := by
  cases hn : fnd g.bs f with
  | some k =>
    rw [bdo_some hn]
    exact h.set (fndY hn).1
  | none =>
    rw [bdo_none hn]
    split
    · exact h
    · split
      · exact h
      · split
        · exact h
        · refine ⟨h.1, h.2.1, fun x hx => ?_⟩
          obtain ⟨b, hb0, e⟩ := h.2.2 x hx
          exact ⟨b, ins_sub hb0, e⟩
theorem guo_sbi {c : List Int} {inj : Bool} {g : GS} (h : SBI c inj g) (b z D : List Int) {b2 : List Int} {now : Int} (hb2 : b2 ∈ g.bs) (e : b2 = b ∨ b2 = usd b now) : SBI c inj (guo g b z D).2.2.2 := by
  unfold guo
  split
  · rename_i ht
    rw [h.1, h.2.1] at ht
    refine ⟨h.1, h.2.1, fun y hy => ?_⟩
    have hb3 : el b2 19 = el b 19 ∧ tell c inj b2 = true ∧ hb b2 = hb b := by
      rcases e with rfl | rfl
      · exact ⟨rfl, ht, rfl⟩
      · exact ⟨rfl, ht, rfl⟩
    obtain ⟨x, hx, e1, ⟨e2, e3⟩ | ⟨e2, e3⟩⟩ := sup_mem hy
    · have e4 : y.2.1 = (stf g b).2.1 := by rw [e3]
      unfold stf at e4
      split at e4
      · rename_i st hs
        obtain ⟨b3, q1, q2, q3, q4⟩ := h.2.2 _ (sfd_some hs)
        exact ⟨b3, q1, q2.trans (e1.trans e2).symm, q3, e4.trans q4⟩
      · exact ⟨b2, hb2, hb3.1.trans (e1.trans e2).symm, hb3.2.1, e4.trans hb3.2.2.symm⟩
    · rw [e3]
      unfold stf at hx
      split at hx
      · exact h.2.2 x hx
      · rcases List.mem_cons.1 hx with rfl | hx
        · exact absurd rfl e2
        · exact h.2.2 x hx
  · exact h
theorem gdo_sbi {c : List Int} {inj : Bool} {g : GS} (h : SBI c inj g) (b z D : List Int) : SBI c inj (gdo g b z D).2.2.2 := by
  unfold gdo
  split
  · rename_i st hst
    refine ⟨h.1, h.2.1, fun y hy => ?_⟩
    obtain ⟨x, hx, e1, ⟨e2, e3⟩ | ⟨e2, e3⟩⟩ := sup_mem hy
    · obtain ⟨b3, q1, q2, q3, q4⟩ := h.2.2 _ (sfd_some hst)
      exact ⟨b3, q1, q2.trans (e1.trans e2).symm, q3, by rw [e3]; exact q4⟩
    · rw [e3]
      exact h.2.2 x hx
  · exact h
theorem g6s_sbi {c : List Int} {inj : Bool} {g : GS} (h : SBI c inj g) (f : List Int) (hop : Int) (z D : List Int) : SBI c inj (g6s g f hop z D).2.2 := by
  unfold g6s
  split
  · exact h
  · split
    · exact h
    · have hb0 := bdo_sbi h f (el z 5) (whr g f (ldo g.c f).2)
      split
      · exact hb0
      · rename_i h3
        rw [g6b_st]
        obtain ⟨b2, q1, q2, _⟩ := bdo_in (Classical.not_not.1 h3)
        exact guo_sbi hb0 _ _ _ q1 q2
theorem g6_sbi {c : List Int} {inj : Bool} {g : GS} (h : SBI c inj g) (zs : List Int) : SBI c inj (g6 g zs).2.2 := by
  by_cases hG : V6.Good zs
  · by_cases hE : (o6s zs).1 = 0
    · have e : g6 g zs = g6s g (f6 zs) (zs.getD 7 0) (o6s zs).2.1 (o6s zs).2.2 := by
        unfold g6 g6s
        rw [if_neg (fun h => h hG), if_neg (fun h => h hE)]
      rw [e]
      exact g6s_sbi h _ _ _ _
    · have e : g6 g zs = ((o6s zs).1, [], g) := by unfold g6; rw [if_neg (fun h => h hG), if_pos hE]
      rw [e]
      exact h
  · have e : g6 g zs = (5, [], g) := by unfold g6; exact if_pos hG
    rw [e]
    exact h
theorem g4_sbi {c : List Int} {inj : Bool} {g : GS} (h : SBI c inj g) (zs : List Int) : SBI c inj (g4 g zs).2.2 := by
  unfold g4
  split
  · exact h
  · split
    · exact h
    · unfold g4s
      split
      · exact h
      · rename_i k hk
        split
        · rw [g4b_st]
          exact gdo_sbi (h.set (prt_lt (nrk_some hk).2).1) _ _ _
        · exact h
theorem gtk_sbi {c : List Int} {inj : Bool} {g : GS} (h : SBI c inj g) (n : Int) : SBI c inj (gtk g n).2 := by
  unfold gtk
  split
  · refine ⟨h.1, h.2.1, fun x hx => ?_⟩
    obtain ⟨h1, h2⟩ := sgo_mem.1 (show x ∈ sgo (es (g.now + n) g.bs g.ts g.bs.length).1 g.ss from hx)
    obtain ⟨b, q1, q2, q3⟩ := h.2.2 x h1
    obtain ⟨e1, e2, _⟩ := es_form (g.now + n) g.bs g.ts g.bs.length (Nat.le_refl _)
    rw [List.take_length] at e1 e2
    refine ⟨b, ?_, q2, q3⟩
    show b ∈ (es (g.now + n) g.bs g.ts g.bs.length).2.1
    rw [e2, List.mem_filter]
    refine ⟨q1, ?_⟩
    cases hx : xp (g.now + n) b
    · rfl
    · exact absurd q2.symm (h2 b (by rw [e1]; exact List.mem_filter.2 ⟨q1, hx⟩))
  · exact h
theorem gmk_sbi {c : List Int} {inj : Bool} {g : GS} (h : SBI c inj g) (id : Int) (f : List Int → List Int) : SBI c inj (gmk g id f).2 := by
  unfold gmk
  split <;> exact h
theorem gz0_sbi (c : List Int) (inj : Bool) (bk : List (List Int)) (m : Nat) : SBI c inj (gz0 c inj bk m) := ⟨rfl, rfl, fun x hx => absurd hx (by simp [gz0, GS.ss])⟩
end Go.Proofs.YtkhahbghmdccaaaGreat
