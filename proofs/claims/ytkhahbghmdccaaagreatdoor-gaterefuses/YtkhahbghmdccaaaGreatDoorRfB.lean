/- GateRefuses: binds in a row of their own; what an error tells; what is kept. -/
import Derived.Test.YtkhahbghmdccaaaGreatDoorR15
import Derived.Test.YtkhahbghmdccaaaGreatDoorR35
import Derived.Test.YtkhahbghmdccaaaGreatDoorR36
import Derived.Test.YtkhahbghmdccaaaGreatDoorRfA
import Derived.Below
import Derived.OpenShut
import Derived.Test.YtkhahbghmdccaaaGreatDoorProg
import Derived.WalkKit
import Derived.LaidEql
import Derived.BigQuiet
import Derived.Laws.AppendOwnNone
import Derived.Laws.MakeOwn
import Derived.Deep.RegionLaw
import Derived.Lib.Bytes
import Derived.Deep.MidRow
import Derived.Laws.ResultCell
import Derived.Deep.CutBlock
import Derived.Deep.QuietTactic
import Derived.OwnWalk
import Derived.Deep.RegionHeld3
import Derived.Deep.DrawnRows
import Derived.Laws.StructEq
import Derived.Maps.AppendAt
import Derived.Maps.RangeWalk
import Derived.Stop.Asserts
import Derived.RowKitTokens
import Derived.Test.YtkhahbghmdccaaaGreatDoorShelf
import Derived.Shelf.Abstract
import Derived.Lib.SliceRun
import Derived.Lib.AppendZerosOnto
import Derived.Lib.AppendZeros
import Derived.Laws.CopyOwn
import Derived.RangeFuncNested
import Derived.RangeFuncBound
import Derived.RangeFuncCalls
import Derived.RangeFuncLeaves
import Derived.RangeFuncFrom
import Derived.Shelf.RegionOpen
import Derived.OwnWalkIn
import Derived.TacticsInMore
import Derived.LoopNIn
import Derived.LoopIn
import Derived.Deep.RegionWith
import Derived.ArgAppend
import Derived.Lib.SlBytesConst
import Derived.Lib.AppendStr
import Derived.Deep.Slices
import Derived.ChangeArms
import Derived.WideShapes
import Derived.Deep.Fields
import Derived.ChangeSlices
namespace Go.Proofs.YtkhahbghmdccaaaGreatDoor
open Go.RowKit
set_option linter.unusedVariables false
set_option maxRecDepth 100000 in
theorem all_new (v : Value) (m : Nat) (ws : Nat → List Int) (ts : Nat → Bool) (bs : List (List Int)) (O : Nat → Prop) (w : World) (hl : bs.length ≤ 128) (hb : BI m ws ts bs) (ht : TB v m ws ts bs O w) :
    Calls Tryz.prog 61 #[v] w fun r w' => ∃ b, r = .returned b ∧ BdRow w.heap.size w' b bs ∧ Below w.heap.size w w' := by
  obtain ⟨T, P, BB, F, N, ow, rfl, h, ha, rfl⟩ := ht
  have HT := hide (those_any T P F N bs 115 #[] (fun _ => true) w h.1 h.2.2.1 hl (enters_of Tryz.func115 (by kernel_rfl) rfl) (fun b _ W _ => yes_any b W))
  have HS := hide hb.2.1
  clear h ha hb hl
  go_enter Tryz.func61, Tryz.ntmps61
  go_wp2_with (go_at_call 114; refine HT.out.mono ?_; rintro e w' ⟨v, l, rfl, h1, h2, h3, h4⟩; have HE := hide (show BdRow w.heap.size w' v bs ∧ Below w.heap.size w w' by
    rw [show bs.filter (fun _ => true) = bs from List.filter_eq_self.2 (fun _ _ => rfl)] at h1
    have := sorted_one bs l h1 h2 HS.out
    subst this
    obtain ⟨a, cap, e1, e2⟩ := h3
    refine ⟨⟨a, cap, e1, fun hp => ?_⟩, h4⟩
    obtain ⟨g, off, q1, q2, q3⟩ := e2 hp
    exact ⟨g, off, q1, ⟨by omega, q2.2⟩, q3⟩); clear h1 h2 h3 h4)
  go_ret
  exact ⟨v, rfl, HE.out⟩
theorem binds_new {w : World} {G : Nat} {g : GS} {O : Nat → Prop} {W : World} (hi : IG g) (h : GH w G g O W) : Calls Tryz.prog 18 #[.pointer (some ⟨G, 0, none⟩)] W fun e w' => ∃ v, e = .returned v ∧ BdRow W.heap.size w' v g.bs ∧ Below W.heap.size W w' := by
  obtain ⟨a, cap, tv, S, Ot, β, rfl, h⟩ := h
  have y := h.1.1.table
  have HA := hide (all_new tv g.m g.ws g.ts g.bs Ot W hi.1.2.1 hi.1.2.2.1 h.1.2.2.1)
  clear h hi
  go_enter Tryz.func18, Tryz.ntmps18
  go_wp2_with (go_at_call 61; refine HA.out.mono ?_; rintro e w1 ⟨v1, rfl, hr1, hb1⟩; have HB := hide hb1; have HR := hide hr1; clear hb1 hr1)
  go_ret
  exact ⟨_, rfl, HR.out, HB.out⟩
/-- is it that error? -/
theorem error_any (r k : Int) (w : World) (hg : Laid0 w) : Calls Tryz.prog 16 #[ev r, .int .i64 k] w fun e w' => e = .returned (.bool (r == k)) ∧ Below w.heap.size w w' := by
  by_cases hr : r = 0
  · subst hr
    rw [ev_nil]
    go_enter Tryz.func16, Tryz.ntmps16
    go_wp2_with (go_at_call 60; refine (told_nil _).mono ?_; rintro e w' ⟨rfl, rfl⟩)
    go_ret
    exact ⟨rfl, Below.refl _ _⟩
  · have hev : ev r = .iface 28 (.int .i64 r) := by unfold ev; rw [if_neg hr]; rfl
    rw [hev]
    clear hev
    go_enter Tryz.func16, Tryz.ntmps16
    go_wp2_with (go_at_call 60; refine (told_err r _ hg).mono ?_; rintro e w' ⟨rfl, hb⟩)
    go_ret
    exact ⟨rfl, hb⟩
/-- a gate on which this and that was played. -/
def GR (wB : World) (c : List Int) (inj : Bool) (G : Nat) (g : GS) (O : Nat → Prop) (W : World) : Prop := IG g ∧ TSB c inj g ∧ GH wB G g O W
theorem GR.kept {wB : World} {c : List Int} {inj : Bool} {G : Nat} {g : GS} {O : Nat → Prop} {W W' : World} (h : GR wB c inj G g O W) (hb : Below W.heap.size W W') : GR wB c inj G g O W' := ⟨h.1, h.2.1, h.2.2.kept hb⟩
theorem play_gr {wB : World} {c : List Int} {inj : Bool} {G : Nat} {g : GS} {O : Nat → Prop} {W : World} (hc : up 4294967295 (el c 18) = true) (h : GR wB c inj G g O W)
    (wh : Int) (ba : Option Addr) (bl bc : Nat) (B z : List Int) (a : Option Addr) (len cap : Nat) (D s d : List Int) (hop n : Int) (is : Bool) (ka : Option Addr) (kn kc : Nat) (hn : I64 n) (rb : Row8 W ba bl bc B) (e1 : bl ≤ bc) (e2 : bc ≤ maxLen) (hr : Row8 W a len cap D) :
    Calls Tryz.prog 15 #[.pointer (some ⟨G, 0, none⟩), .agg (stC3 wh ba bl bc z a len cap s d hop n is), .agg (cfC c inj ka kn kc)] W fun e w' => (∃ v, e = .returned v) ∧ ∃ g' O', GR wB c inj G g' O' w' := by
  obtain ⟨h1, h2, h3⟩ := h
  refine (play_inv (Inv := TSB c inj) (fun g zs hg ho h => (g6_tsb h hg ho).1) (fun g zs hg ho h => (g4_tsb h hg zs).1) (fun g n hg h => gtk_tsb h hg n) (fun g id u hg h => gmk_tsb h id _) (fun g id u hg h => gmk_tsb h id _) wh ba bl bc B z a len cap D s d hop n is c inj ka kn kc hn hc h1 h2 h3 rb e1 e2 hr).mono ?_
  rintro e w' ⟨q1, g', q2, q3, O', q4, _⟩
  exact ⟨q1, g', O', q2, q3, q4⟩
/-- a call that goes on, with a row of binds beside the gate. -/
theorem GN.row {w : World} {G : Nat} {g g' : GS} {O : Nat → Prop} {W W' : World} (h : GN w G g' O W W') {base : Nat} {v : Value} {bs : List (List Int)} (r : BdRow base W v bs) (hO : ∀ k, O k → k < base) : BdRow base W' v bs := by
  obtain ⟨O', h1, h2, h3⟩ := h
  exact r.fr h3.1 (fun k hk _ ho => by have := hO k ho; omega)
theorem in6_gr {wB : World} {c : List Int} {inj : Bool} {G : Nat} {g : GS} {O : Nat → Prop} {W : World} (h : GR wB c inj G g O W) {base : Nat} {v : Value} (hr : BdRow base W v g.bs) (hO : ∀ k, O k → k < base) {b : Option Addr} {l k : Nat} {zs : List Int} (r : Row8 W b l k zs) (e1 : l ≤ k) (e2 : k ≤ maxLen) :
    Calls Tryz.prog 21 #[.pointer (some ⟨G, 0, none⟩), .slice b l k] W fun e w' => ∃ a2 l2 c2 j, e = .returned (.tuple #[.slice a2 l2 c2, ev j]) ∧ ∃ g' O', (j ≠ 0 → j ≠ 3 → g'.bs = g.bs) ∧ GR wB c inj G g' O' w' ∧ BdRow base w' v g.bs := by
  refine (in6_gh h.1 zs wB G O W b l k h.2.2 r e1 e2).mono ?_
  rintro e w' ⟨⟨a2, l2, c2, q1, _⟩, q2⟩
  have ht := g6_tsb h.2.1 h.1 r.2.2.1
  have hrow := q2.row (g := g) hr hO
  obtain ⟨O', q3, _⟩ := q2
  exact ⟨a2, l2, c2, _, q1, _, O', ht.2, ⟨(g6_ig h.1 r.2.2.1).1, ht.1, q3⟩, hrow⟩
theorem in4_gr {wB : World} {c : List Int} {inj : Bool} {G : Nat} {g : GS} {O : Nat → Prop} {W : World} (h : GR wB c inj G g O W) {base : Nat} {v : Value} (hr : BdRow base W v g.bs) (hO : ∀ k, O k → k < base) {b : Option Addr} {l k : Nat} {zs : List Int} (r : Row8 W b l k zs) (e1 : l ≤ k) (e2 : k ≤ maxLen) :
    Calls Tryz.prog 24 #[.pointer (some ⟨G, 0, none⟩), .slice b l k] W fun e w' => ∃ a2 l2 c2 j, e = .returned (.tuple #[.slice a2 l2 c2, ev j]) ∧ ∃ g' O', (j ≠ 0 → j ≠ 3 → g'.bs = g.bs) ∧ GR wB c inj G g' O' w' ∧ BdRow base w' v g.bs := by
  refine (in4_gh h.1 zs wB G O W b l k h.2.2 r e1 e2).mono ?_
  rintro e w' ⟨⟨a2, l2, c2, q1, _⟩, q2⟩
  have ht := g4_tsb h.2.1 h.1 zs
  have hrow := q2.row (g := g) hr hO
  obtain ⟨O', q3, _⟩ := q2
  exact ⟨a2, l2, c2, _, q1, _, O', fun h0 _ => ht.2 h0, ⟨(g4_ig h.1 zs).1, ht.1, q3⟩, hrow⟩
theorem in4_none {wB : World} {c : List Int} {inj : Bool} {G : Nat} {g : GS} {O : Nat → Prop} {W : World} (h : GR wB c inj G g O W) {base : Nat} {v : Value} (hr : BdRow base W v g.bs) (hO : ∀ k, O k → k < base) {b : Option Addr} {l k : Nat} {zs : List Int} (r : Row8 W b l k zs) (e1 : l ≤ k) (e2 : k ≤ maxLen) (h4 : (g4 g zs).1 = 4) (hg : (g4 g zs).2.2 = g) :
    Calls Tryz.prog 24 #[.pointer (some ⟨G, 0, none⟩), .slice b l k] W fun e w' => ∃ a2 l2 c2, e = .returned (.tuple #[.slice a2 l2 c2, ev 4]) ∧ ∃ O', GR wB c inj G g O' w' ∧ BdRow base w' v g.bs := by
  have hI := in4_gh h.1 zs wB G O W b l k h.2.2 r e1 e2
  rw [h4, hg] at hI
  refine hI.mono ?_
  rintro e w' ⟨⟨a2, l2, c2, q1, _⟩, q2⟩
  have hrow := q2.row (g := g) hr hO
  obtain ⟨O', q3, _⟩ := q2
  exact ⟨a2, l2, c2, q1, O', ⟨h.1, h.2.1, q3⟩, hrow⟩
end Go.Proofs.YtkhahbghmdccaaaGreatDoor
