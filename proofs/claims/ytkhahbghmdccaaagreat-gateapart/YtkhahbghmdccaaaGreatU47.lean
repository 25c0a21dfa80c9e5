/- Package gangplanklaw3: a step, and what is sent by one, by contracts. What is sent by a step, whatever it is; the flow of a new bind. An argument that is a step of gangplanklaw3, opened. The document's own answers of packets that were written so. Who is picked: the best of all, whatever their order, and with one of them gone. Two gates side by side. The statements' own Pick of a number below another, by a contract. TopMoves, whatever comes. -/
import Derived.Test.YtkhahbghmdccaaaGreatU19
import Derived.Test.YtkhahbghmdccaaaGreatU31
import Derived.Test.YtkhahbghmdccaaaGreatU45
import Derived.Below
import Derived.OpenShut
import Derived.Test.YtkhahbghmdccaaaGreatProg
import Derived.WalkKit
import Derived.LaidEql
import Derived.BigQuiet
import Derived.Laws.AppendOwnNone
import Derived.Laws.MakeOwn
import Derived.Deep.RegionLaw
import Derived.Lib.Bytes
import Derived.Deep.MidRow
import Derived.Laws.ResultCell
import Derived.Deep.CutBlock
import Derived.Deep.QuietTactic
import Derived.OwnWalk
import Derived.Deep.RegionHeld3
import Derived.Deep.DrawnRows
import Derived.Laws.StructEq
import Derived.Maps.AppendAt
import Derived.Maps.RangeWalk
import Derived.Stop.Asserts
import Derived.RowKitTokens
import Derived.Test.YtkhahbghmdccaaaGreatShelf
import Derived.Shelf.Abstract
import Derived.Lib.SliceRun
import Derived.Lib.AppendZerosOnto
import Derived.Lib.AppendZeros
import Derived.Laws.CopyOwn
import Derived.RangeFuncNested
import Derived.RangeFuncBound
import Derived.RangeFuncCalls
import Derived.RangeFuncLeaves
import Derived.RangeFuncFrom
import Derived.Shelf.RegionOpen
import Derived.OwnWalkIn
import Derived.TacticsInMore
import Derived.LoopNIn
import Derived.LoopIn
import Derived.Deep.RegionWith
import Derived.ArgAppend
import Derived.Lib.SlBytesConst
import Derived.Lib.AppendStr
import Derived.Test.YtkhahbghmdccaaaGreatU46
import Derived.Deep.Slices
import Derived.ChangeArms
import Derived.WideShapes
import Derived.Deep.Fields
import Derived.ChangeSlices
import Derived.Test.YtkhahbghmdccaaaGreatU34
import Derived.Test.YtkhahbghmdccaaaGreatU38
import Derived.Test.YtkhahbghmdccaaaGreatU44
namespace Go.Proofs.YtkhahbghmdccaaaGreat
open Go.RowKit
/-- a step's cells. -/
def stC3 (wh : Int) (ba : Option Addr) (bl bc : Nat) (z : List Int) (a : Option Addr) (len cap : Nat) (s d : List Int) (hop n : Int) (is : Bool) : Array Value := #[.int .i64 wh, .slice ba bl bc, .int .i64 (el z 0), .int .i64 (el z 1), .int .i64 (el z 2), .int .i64 (el z 3), .int .i64 (el z 4), .int .i64 (el z 5), .int .i64 (el z 6), .slice a len cap, .int .i64 (el s 0), .int .i64 (el s 1), .int .i64 (el s 2), .int .i64 (el s 3), .int .i64 (el s 4), .int .i64 (el s 5), .int .i64 (el s 6), .int .i64 (el s 7), .int .i64 (el d 0), .int .i64 (el d 1), .int .i64 (el d 2), .int .i64 (el d 3), .int .i64 (el d 4), .int .i64 (el d 5), .int .i64 (el d 6), .int .i64 (el d 7), .int .i64 hop, .int .i64 n, .bool is]
def StIn3 (B : Nat) (wh : Int) (ba : Option Addr) (bl bc : Nat) (z : List Int) (a : Option Addr) (len cap : Nat) (s d : List Int) (hop n : Int) (is : Bool) (w : World) : Prop := w.heap[B]? = some (.cells (stC3 wh ba bl bc z a len cap s d hop n is) 32 (0, 0))
theorem StIn3.lt {B : Nat} {wh : Int} {ba : Option Addr} {bl bc : Nat} {z : List Int} {a : Option Addr} {len cap : Nat} {s d : List Int} {hop n : Int} {is : Bool} {w : World} (p : StIn3 B wh ba bl bc z a len cap s d hop n is w) : B < w.heap.size := (Array.getElem?_eq_some_iff.1 p).1
theorem StIn3.kept {B : Nat} {wh : Int} {ba : Option Addr} {bl bc : Nat} {z : List Int} {a : Option Addr} {len cap : Nat} {s d : List Int} {hop n : Int} {is : Bool} {w w' : World} (p : StIn3 B wh ba bl bc z a len cap s d hop n is w) (hb : Below w.heap.size w w') : StIn3 B wh ba bl bc z a len cap s d hop n is w' := (hb.block B p.lt).trans p
theorem st3_new (w : World) (wh : Int) (ba : Option Addr) (bl bc : Nat) (z : List Int) (a : Option Addr) (len cap : Nat) (s d : List Int) (hop n : Int) (is : Bool) : StIn3 w.heap.size wh ba bl bc z a len cap s d hop n is (w.alloc (.cells (stC3 wh ba bl bc z a len cap s d hop n is) 32)) := heap_alloc_new w _
theorem StIn3.cellAt {B : Nat} {wh : Int} {ba : Option Addr} {bl bc : Nat} {z : List Int} {a : Option Addr} {len cap : Nat} {s d : List Int} {hop n : Int} {is : Bool} {w : World} (p : StIn3 B wh ba bl bc z a len cap s d hop n is w) (j : Nat) : w.cell? ⟨B, j, none⟩ = (stC3 wh ba bl bc z a len cap s d hop n is)[j]? := cell_of_row w B j _ _ _ p
theorem StIn3.what {B : Nat} {wh : Int} {ba : Option Addr} {bl bc : Nat} {z : List Int} {a : Option Addr} {len cap : Nat} {s d : List Int} {hop n : Int} {is : Bool} {w : World} (p : StIn3 B wh ba bl bc z a len cap s d hop n is w) : w.cell? ⟨B, 0, none⟩ = some (.int .i64 wh) := p.cellAt 0
theorem StIn3.bytes {B : Nat} {wh : Int} {ba : Option Addr} {bl bc : Nat} {z : List Int} {a : Option Addr} {len cap : Nat} {s d : List Int} {hop n : Int} {is : Bool} {w : World} (p : StIn3 B wh ba bl bc z a len cap s d hop n is w) : w.cell? ⟨B, 1, none⟩ = some (.slice ba bl bc) := p.cellAt 1
theorem StIn3.hop {B : Nat} {wh : Int} {ba : Option Addr} {bl bc : Nat} {z : List Int} {a : Option Addr} {len cap : Nat} {s d : List Int} {hop n : Int} {is : Bool} {w : World} (p : StIn3 B wh ba bl bc z a len cap s d hop n is w) : w.cell? ⟨B, 26, none⟩ = some (.int .i64 hop) := p.cellAt 26
theorem StIn3.num {B : Nat} {wh : Int} {ba : Option Addr} {bl bc : Nat} {z : List Int} {a : Option Addr} {len cap : Nat} {s d : List Int} {hop n : Int} {is : Bool} {w : World} (p : StIn3 B wh ba bl bc z a len cap s d hop n is w) : w.cell? ⟨B, 27, none⟩ = some (.int .i64 n) := p.cellAt 27
theorem StIn3.is {B : Nat} {wh : Int} {ba : Option Addr} {bl bc : Nat} {z : List Int} {a : Option Addr} {len cap : Nat} {s d : List Int} {hop n : Int} {is : Bool} {w : World} (p : StIn3 B wh ba bl bc z a len cap s d hop n is w) : w.cell? ⟨B, 28, none⟩ = some (.bool is) := p.cellAt 28
theorem StIn3.seg {B : Nat} {wh : Int} {ba : Option Addr} {bl bc : Nat} {z : List Int} {a : Option Addr} {len cap : Nat} {s d : List Int} {hop n : Int} {is : Bool} {w : World} (p : StIn3 B wh ba bl bc z a len cap s d hop n is w) : ∀ (j : Nat) v, (sgC z a len cap).toList[j]? = some v → w.cell? ⟨B, 2 + j, none⟩ = some v := fun j v hv => by
  have hj : j < 8 := (List.getElem?_eq_some_iff.1 hv).1
  rw [p.cellAt]
  rcases (by omega : j = 0 ∨ j = 1 ∨ j = 2 ∨ j = 3 ∨ j = 4 ∨ j = 5 ∨ j = 6 ∨ j = 7) with rfl | rfl | rfl | rfl | rfl | rfl | rfl | rfl <;> exact hv
theorem StIn3.src {B : Nat} {wh : Int} {ba : Option Addr} {bl bc : Nat} {z : List Int} {a : Option Addr} {len cap : Nat} {s d : List Int} {hop n : Int} {is : Bool} {w : World} (p : StIn3 B wh ba bl bc z a len cap s d hop n is w) : ∀ (j : Nat) v, (sixC s).toList[j]? = some v → w.cell? ⟨B, 10 + j, none⟩ = some v := fun j v hv => by
  have hj : j < 8 := (List.getElem?_eq_some_iff.1 hv).1
  rw [p.cellAt]
  rcases (by omega : j = 0 ∨ j = 1 ∨ j = 2 ∨ j = 3 ∨ j = 4 ∨ j = 5 ∨ j = 6 ∨ j = 7) with rfl | rfl | rfl | rfl | rfl | rfl | rfl | rfl <;> exact hv
theorem StIn3.dst {B : Nat} {wh : Int} {ba : Option Addr} {bl bc : Nat} {z : List Int} {a : Option Addr} {len cap : Nat} {s d : List Int} {hop n : Int} {is : Bool} {w : World} (p : StIn3 B wh ba bl bc z a len cap s d hop n is w) : ∀ (j : Nat) v, (sixC d).toList[j]? = some v → w.cell? ⟨B, 18 + j, none⟩ = some v := fun j v hv => by
  have hj : j < 8 := (List.getElem?_eq_some_iff.1 hv).1
  rw [p.cellAt]
  rcases (by omega : j = 0 ∨ j = 1 ∨ j = 2 ∨ j = 3 ∨ j = 4 ∨ j = 5 ∨ j = 6 ∨ j = 7) with rfl | rfl | rfl | rfl | rfl | rfl | rfl | rfl <;> exact hv
/-- its segment, its addresses, loaded: held shut for a walk. -/
theorem StIn3.gl {B : Nat} {wh : Int} {ba : Option Addr} {bl bc : Nat} {z : List Int} {a : Option Addr} {len cap : Nat} {s d : List Int} {hop n : Int} {is : Bool} {w : World} (p : StIn3 B wh ba bl bc z a len cap s d hop n is w) : (gload (.pointer (some ⟨B, 2, none⟩))).run Tryz.prog w = .ok (.agg (sgC z a len cap)) w := run_loadAt_mid w B 2 30 _ _ p.seg Tryz.underlying30 rfl (by kernel_rfl)
theorem StIn3.hs {B : Nat} {wh : Int} {ba : Option Addr} {bl bc : Nat} {z : List Int} {a : Option Addr} {len cap : Nat} {s d : List Int} {hop n : Int} {is : Bool} {w : World} (p : StIn3 B wh ba bl bc z a len cap s d hop n is w) : (hload (.pointer (some ⟨B, 10, none⟩))).run Tryz.prog w = .ok (.agg (sixC s)) w := run_loadAt_mid w B 10 23 _ _ p.src Tryz.underlying23 rfl (by kernel_rfl)
theorem StIn3.hd {B : Nat} {wh : Int} {ba : Option Addr} {bl bc : Nat} {z : List Int} {a : Option Addr} {len cap : Nat} {s d : List Int} {hop n : Int} {is : Bool} {w : World} (p : StIn3 B wh ba bl bc z a len cap s d hop n is w) : (hload (.pointer (some ⟨B, 18, none⟩))).run Tryz.prog w = .ok (.agg (sixC d)) w := run_loadAt_mid w B 18 23 _ _ p.dst Tryz.underlying23 rfl (by kernel_rfl)
/-- what is kept while a step's packet is made: the step, the config, the segment. -/
def Ks3 (w : World) (wh : Int) (ba : Option Addr) (bl bc : Nat) (z : List Int) (a : Option Addr) (len cap : Nat) (s d : List Int) (hop n : Int) (is : Bool) (c : List Int) (inj : Bool) (ka : Option Addr) (kn kc : Nat) (W : World) : Prop := StIn3 w.heap.size wh ba bl bc z a len cap s d hop n is W ∧ CfIn (w.heap.size + 1) c inj ka kn kc W ∧ Below w.heap.size w W
theorem Ks3.kept {w : World} {wh : Int} {ba : Option Addr} {bl bc : Nat} {z : List Int} {a : Option Addr} {len cap : Nat} {s d : List Int} {hop n : Int} {is : Bool} {c : List Int} {inj : Bool} {ka : Option Addr} {kn kc : Nat} {W W' : World} (h : Ks3 w wh ba bl bc z a len cap s d hop n is c inj ka kn kc W) (hb : Below W.heap.size W W') : Ks3 w wh ba bl bc z a len cap s d hop n is c inj ka kn kc W' := ⟨h.1.kept hb, h.2.1.kept hb, bt h.2.2 hb⟩
theorem Ks3.start (w : World) (wh : Int) (ba : Option Addr) (bl bc : Nat) (z : List Int) (a : Option Addr) (len cap : Nat) (s d : List Int) (hop n : Int) (is : Bool) (c : List Int) (inj : Bool) (ka : Option Addr) (kn kc : Nat) : Ks3 w wh ba bl bc z a len cap s d hop n is c inj ka kn kc ((w.alloc (.cells (stC3 wh ba bl bc z a len cap s d hop n is) 32)).alloc (.cells (cfC c inj ka kn kc) 26)) := by
  have b1 := al_below w (.cells (stC3 wh ba bl bc z a len cap s d hop n is) 32)
  have b2 := al_below (w.alloc (.cells (stC3 wh ba bl bc z a len cap s d hop n is) 32)) (.cells (cfC c inj ka kn kc) 26)
  have p2 := cf_new (w.alloc (.cells (stC3 wh ba bl bc z a len cap s d hop n is) 32)) c inj ka kn kc
  rw [World.size_alloc] at p2
  exact ⟨(st3_new w wh ba bl bc z a len cap s d hop n is).kept b2, p2, bt b1 b2⟩
attribute [local go_sem ↓] gload_shut hload_shut
set_option maxRecDepth 100000 in
set_option maxHeartbeats 4000000 in
theorem lsent_no (wh : Int) (ba : Option Addr) (bl bc : Nat) (z : List Int) (a : Option Addr) (len cap : Nat) (s d : List Int) (hop n : Int) (is : Bool) (c : List Int) (inj : Bool) (ka : Option Addr) (kn kc : Nat) (bv : Value) (w : World) (h5 : (wh == 5) = false) (hm : len ≤ maxLen) (hc : ¬ (sf z len = 0 ∧ Ok6 s ∧ Ok6 d ∧ 0 ≤ hop ∧ hop ≤ 255)) :
    Calls Tryz.prog 15 #[.agg (stC3 wh ba bl bc z a len cap s d hop n is), .agg (cfC c inj ka kn kc), bv] w fun e w' => e = .returned (.slice none 0 0) ∧ Below w.heap.size w w' := by
  have HF := hide (fun W => rfault_any z a len cap W hm)
  have HK := hide (Ks3.start w wh ba bl bc z a len cap s d hop n is c inj ka kn kc)
  have HZ7 := hide (fun W => zero_new W)
  unfold zero7 at HZ7
  have hcase : (sf z len != 0) = true ∨ ((sf z len != 0) = false ∧ ¬ Ok6 s) ∨ ((sf z len != 0) = false ∧ Ok6 s ∧ ¬ Ok6 d) ∨ ((sf z len != 0) = false ∧ Ok6 s ∧ Ok6 d ∧ hop < 0) ∨ ((sf z len != 0) = false ∧ Ok6 s ∧ Ok6 d ∧ ¬ hop < 0 ∧ 255 < hop) := by
    by_cases c1 : sf z len = 0
    · refine .inr ?_
      have c1' : (sf z len != 0) = false := by simp [c1]
      by_cases c2 : Ok6 s
      · by_cases c3 : Ok6 d
        · by_cases c4 : hop < 0
          · exact .inr (.inr (.inl ⟨c1', c2, c3, c4⟩))
          · refine .inr (.inr (.inr ⟨c1', c2, c3, c4, ?_⟩))
            have : ¬ (0 ≤ hop ∧ hop ≤ 255) := fun h => hc ⟨c1, c2, c3, h⟩
            omega
        · exact .inr (.inl ⟨c1', c2, c3⟩)
      · exact .inl ⟨c1', c2⟩
    · exact .inl (by simpa using c1)
  have HS := hide (fun W => six_any s W)
  have HD := hide (fun W => six_any d W)
  have h1 : Ok6 s → fe (s6 s) = 0 := fun h => by rw [(s6_iff s).2 h]; rfl
  have h2 : Ok6 d → fe (s6 d) = 0 := fun h => by rw [(s6_iff d).2 h]; rfl
  have h3 : ¬ Ok6 s → fe (s6 s) = 1 := fun h => by cases e : s6 s; rfl; exact absurd ((s6_iff s).1 e) h
  have h4 : ¬ Ok6 d → fe (s6 d) = 1 := fun h => by cases e : s6 d; rfl; exact absurd ((s6_iff d).1 e) h
  generalize sf z len = R at HF hcase
  clear hc hm
  rcases hcase with c1 | ⟨c1, c2⟩ | ⟨c1, c2, c3⟩ | ⟨c1, c2, c3, c4⟩ | ⟨c1, c2, c3, c4, c5⟩
  case' inr.inl => rw [h3 c2] at HS; clear c2
  case' inr.inr.inl => rw [h1 c2] at HS; rw [h4 c3] at HD; clear c2 c3
  case' inr.inr.inr.inl => rw [h1 c2] at HS; rw [h2 c3] at HD; clear c2 c3
  case' inr.inr.inr.inr => rw [h1 c2] at HS; rw [h2 c3] at HD; clear c2 c3
  all_goals
    clear h1 h2 h3 h4
    go_enter Tryz.func15, Tryz.ntmps15
    go_upto_region 1 with fail
    generalize (World.alloc _ _).alloc _ = W0 at HK ⊢
    have q0 := HK.out.1.what
    have q2 := HK.out.1.gl
    have HZs := hide (HZ7.out W0)
    go_upto_region 17 with (refine at_store rfl (.tmp 7) (.tmp 10) rfl rfl HZs.out z a len cap rfl ?_; intro w3 p3 on3; have HS3 := hide p3; replace HK := hide (HK.out.kept (new_below _ on3)); clear p3 on3 q0 q2; have q0 := HK.out.1.what)
    clear q0 HZs
    have q3 := HS3.out.gl
    have q4 := HK.out.1.hop
    go_wp2_with (first
      | (go_at_call 51; (with_reducible refine (HF.out _).mono ?_); rintro e w4 ⟨rfl, hb4⟩; replace HK := hide (HK.out.kept hb4); clear hb4 q3 q4; have q3 := HK.out.1.hs; have q4 := HK.out.1.hop)
      | (go_at_call 52; (with_reducible refine (HS.out _).mono ?_); rintro e w5 ⟨rfl, hb5⟩; replace HK := hide (HK.out.kept hb5); clear hb5 q3 q4; have q3 := HK.out.1.hd; have q4 := HK.out.1.hop)
      | (go_at_call 52; (with_reducible refine (HD.out _).mono ?_); rintro e w6 ⟨rfl, hb6⟩; replace HK := hide (HK.out.kept hb6); clear hb6 q3 q4; have q4 := HK.out.1.hop))
    go_ret
    exact ⟨rfl, HK.out.2.2⟩
end Go.Proofs.YtkhahbghmdccaaaGreat

namespace Go.Proofs.YtkhahbghmdccaaaGreat
open Go.RowKit
attribute [local go_sem ↓] gload_shut hload_shut
set_option maxRecDepth 100000 in
set_option maxHeartbeats 4000000 in
theorem lsent_ok (wh : Int) (ba : Option Addr) (bl bc : Nat) (z : List Int) (a : Option Addr) (cap : Nat) (s d : List Int) (hop n : Int) (is : Bool) (c : List Int) (inj : Bool) (ka : Option Addr) (kn kc : Nat) (bv : Value) (D : List Int) (w : World) (h5 : (wh == 5) = false) (hz : Okg z D.length) (hs : Ok6 s) (hd : Ok6 d) (ht : up 255 hop = true) (hr : Row8 w a D.length cap D) :
    Calls Tryz.prog 15 #[.agg (stC3 wh ba bl bc z a D.length cap s d hop n is), .agg (cfC c inj ka kn kc), bv] w fun e w' => ∃ v, e = .returned v ∧ Own w.heap.size w' v (p6o s d hop z D) ∧ Below w.heap.size w w' := by
  have HF := hide (fun W => rfault_any z a D.length cap W (by have := hz.2.2.1; unfold maxLen; omega))
  rw [(sf_iff _ _).2 hz] at HF
  have HK := hide (Ks3.start w wh ba bl bc z a D.length cap s d hop n is c inj ka kn kc)
  have HR := hide (hr.below HK.out.2.2)
  have HZ7 := hide (fun W => zero_new W)
  unfold zero7 at HZ7
  have HS := hide (fun W => six_any s W)
  have HD := hide (fun W => six_any d W)
  rw [(s6_iff s).2 hs] at HS
  rw [(s6_iff d).2 hd] at HD
  obtain ⟨k, N, E, hPk, hEn⟩ := pk6_bundle hs hd ht hz
  have HPk := hide hPk
  have HEn := hide hEn
  have h4 := up_true ht
  have h4a : ¬ hop < 0 := by omega
  have h4b : ¬ 255 < hop := by omega
  generalize p6o s d hop z D = Y at HEn ⊢
  clear hPk hEn hz hs hd ht hr h4
  unfold fe at HS HD
  go_enter Tryz.func15, Tryz.ntmps15
  go_upto_region 1 with fail
  generalize (World.alloc _ _).alloc _ = W0 at HK HR ⊢
  have q0 := HK.out.1.what
  have q2 := HK.out.1.gl
  have HZs := hide (HZ7.out W0)
  go_upto_region 17 with (refine at_store rfl (.tmp 7) (.tmp 10) rfl rfl HZs.out z a D.length cap rfl ?_; intro w3 p3 on3; have HS3 := hide p3; replace HK := hide (HK.out.kept (new_below _ on3)); replace HR := hide (HR.out.below (new_below _ on3)); clear p3 on3 q0 q2; have q0 := HK.out.1.what)
  clear q0 HZs
  have q3 := HS3.out.gl
  have q4 := HK.out.1.hop
  go_upto_region 19 with (first
    | (go_at_call 51; (with_reducible refine (HF.out _).mono ?_); rintro e w4 ⟨rfl, hb4⟩; replace HK := hide (HK.out.kept hb4); replace HS3 := hide (HS3.out.kept hb4); replace HR := hide (HR.out.below hb4); clear hb4 q3 q4; have q3 := HK.out.1.hs; have q4 := HK.out.1.hop)
    | (go_at_call 52; (with_reducible refine (HS.out _).mono ?_); rintro e w5 ⟨rfl, hb5⟩; replace HK := hide (HK.out.kept hb5); replace HS3 := hide (HS3.out.kept hb5); replace HR := hide (HR.out.below hb5); clear hb5 q3 q4; have q3 := HK.out.1.hd; have q4 := HK.out.1.hop)
    | (go_at_call 52; (with_reducible refine (HD.out _).mono ?_); rintro e w6 ⟨rfl, hb6⟩; replace HK := hide (HK.out.kept hb6); replace HS3 := hide (HS3.out.kept hb6); replace HR := hide (HR.out.below hb6); clear hb6 q3 q4; have q4 := HK.out.1.hop))
  clear q4
  have q3 := HS3.out.gl
  have q4 := HK.out.1.hop
  have q5 := HK.out.1.hs
  have q6 := HK.out.1.hd
  go_wp2_with (first
    | (go_at_call 28; refine (HPk.out _ _ _ HR.out).mono ?_; rintro e w7 ⟨a7, c7, rfl, r7, hb7⟩; have HB := hide (bt HK.out.2.2 hb7); have HR7 := hide r7; clear hb7 r7 q3 q4 q5 q6)
    | (go_at_call 46; refine (HEn.out _ _ _ HR7.out).mono ?_; rintro e w8 ⟨v8, rfl, o8, hb8⟩; have HO := hide (o8.mono HB.out.size); replace HB := hide (bt HB.out hb8); clear hb8 o8))
  go_ret
  exact ⟨_, rfl, HO.out, HB.out⟩
/-- what is sent: a packet's bytes, or none. -/
theorem lsent_any (wh : Int) (ba : Option Addr) (bl bc : Nat) (z : List Int) (a : Option Addr) (len cap : Nat) (s d : List Int) (hop n : Int) (is : Bool) (c : List Int) (inj : Bool) (ka : Option Addr) (kn kc : Nat) (bv : Value) (D : List Int) (w : World) (h5 : (wh == 5) = false) (hr : Row8 w a len cap D) :
    (∀ W, Below w.heap.size w W → Calls Tryz.prog 15 #[.agg (stC3 wh ba bl bc z a len cap s d hop n is), .agg (cfC c inj ka kn kc), bv] W fun e w' => e = .returned (.slice none 0 0) ∧ Below W.heap.size W w') ∨
    (Ok6 s ∧ Ok6 d ∧ up 255 hop = true ∧ Okg z D.length ∧ ∀ W, Below w.heap.size w W → Calls Tryz.prog 15 #[.agg (stC3 wh ba bl bc z a len cap s d hop n is), .agg (cfC c inj ka kn kc), bv] W fun e w' => ∃ v, e = .returned v ∧ Own W.heap.size w' v (p6o s d hop z D) ∧ Below W.heap.size W w') := by
  obtain rfl : D.length = len := hr.1
  by_cases hc : sf z D.length = 0 ∧ Ok6 s ∧ Ok6 d ∧ 0 ≤ hop ∧ hop ≤ 255
  · have hz := (sf_iff _ _).1 hc.1
    have ht : up 255 hop = true := decide_eq_true hc.2.2.2
    exact .inr ⟨hc.2.1, hc.2.2.1, ht, hz, fun W hW => lsent_ok wh ba bl bc z a cap s d hop n is c inj ka kn kc bv D W h5 hz hc.2.1 hc.2.2.1 ht (hr.below hW)⟩
  · exact .inl fun W hW => lsent_no wh ba bl bc z a D.length cap s d hop n is c inj ka kn kc bv W h5 hr.2.1 hc
theorem cko_vip {c : List Int} {bk : List (List Int)} (h : cko c bk 0 = 0) : Em.inF (vip c) (pfx c) (el c 17) = false := by
  unfold cko at h
  split at h
  · cases h
  split at h
  · cases h
  split at h
  · rename_i h1; exact absurd rfl h1
  split at h
  · cases h
  split at h
  · cases h
  split at h
  · rename_i h3; exact absurd h h3
  split at h
  · cases h
  · rename_i h4
    cases e : Em.inF (vip c) (pfx c) (el c 17)
    · rfl
    · exact absurd e h4
end Go.Proofs.YtkhahbghmdccaaaGreat

namespace Go.Proofs.YtkhahbghmdccaaaGreat
open Go.ChangeShapes Go.WideShapes Go.Deep Go.RowKit
theorem Tryz.step3F : (Tryz.prog.underlying 32).map (fun d => match d with | .struct fs => fs.toList.map (fun f => (f.offset, f.type)) | _ => []) = some [(0, 3), (1, 28), (2, 30), (10, 23), (18, 23), (26, 3), (27, 3), (28, 4)] := by kernel_rfl
theorem part_at {cs : List Value} {o n j : Nat} (h : j < n) : ((cs.drop o).take n)[j]? = cs[o + j]? := by
  rw [List.getElem?_take_of_lt h, List.getElem?_drop]
end Go.Proofs.YtkhahbghmdccaaaGreat

namespace Go.Proofs.YtkhahbghmdccaaaGreat
open Go.RowKit
/-- OutOf of an address that may be. -/
theorem rout_oto (z : List Int) (n : Int) (w : World) (h : Ok6 z) (hn0 : Em.LongP n) : Calls Tryz.prog 26 #[.agg (sixC z), .int .i64 n] w fun e w' => e = .returned (.tuple #[.int .i64 (oto z n).1, .int .i64 (oto z n).2]) ∧ Below w.heap.size w w' := by
  obtain ⟨q, rfl, hq, _, h12⟩ := Em.long_q hn0
  refine (Em.rout_any z q w h hn0).mono ?_
  rintro e w' ⟨rfl, hb⟩
  refine ⟨?_, hb⟩
  unfold oto
  rw [show ((8 * (q : Int)) / 8).toNat = q by omega]
  split <;> rfl
end Go.Proofs.YtkhahbghmdccaaaGreat

namespace Go.Proofs.YtkhahbghmdccaaaGreat
open Go.RowKit
/-- servers that may be: at most eight, each one right, no two of one number. -/
def OKs (bs : List (List Int)) : Prop := bs.length ≤ 8 ∧ (∀ b ∈ bs, okb b = true) ∧ bs.Pairwise (fun a b => el a 0 ≠ el b 0)
theorem oks_of {bs : List (List Int)} (h : (bf bs).2 = 0) : OKs bs := by
  obtain ⟨h8, hx⟩ := bf_ok h
  refine ⟨h8, fun b hb => ?_, List.pairwise_iff_getElem.2 fun i j hi hj hij => ?_⟩
  · obtain ⟨i, hi, rfl⟩ := List.mem_iff_getElem.1 hb
    have := (hx i hi).1
    rwa [getD_at hi] at this
  · have := (hx j hj).2
    unfold sid at this
    rw [List.any_eq_false] at this
    have h1 := this i (List.mem_range.2 hij)
    rw [getD_at hi, getD_at hj] at h1
    simpa using h1
theorem oks_bf {bs : List (List Int)} (h : OKs bs) : (bf bs).2 = 0 := by
  rw [bf_none (by have := h.1; omega) fun j hj => ?_]
  have h1 : okb (bs.getD j []) = true := by rw [getD_at hj]; exact h.2.1 _ (List.getElem_mem hj)
  have h2 : sid bs j = false := by
    unfold sid
    rw [List.any_eq_false]
    intro i hi
    have hij := List.mem_range.1 hi
    have := List.pairwise_iff_getElem.1 h.2.2 i j (by omega) hj hij
    rw [getD_at (by omega), getD_at hj]
    simpa using this
  unfold flt
  rw [h1, h2]
  rfl
/-- one is no worse than the other. -/
def Dm (seed : Int) (f : List Int) (b c : List Int) : Prop := pv seed f c < pv seed f b ∨ (pv seed f c = pv seed f b ∧ el b 0 ≤ el c 0)
theorem Dm.refl (seed : Int) (f b : List Int) : Dm seed f b b := .inr ⟨rfl, Int.le_refl _⟩
theorem Dm.trans {seed : Int} {f a b c : List Int} (h1 : Dm seed f a b) (h2 : Dm seed f b c) : Dm seed f a c := by
  unfold Dm at *; omega
/-- the best of all. -/
def Best (seed : Int) (f : List Int) (bs : List (List Int)) (x : List Int) : Prop := x ∈ bs ∧ cand x = true ∧ ∀ c ∈ bs, cand c = true → Dm seed f x c
def PInv (seed : Int) (f : List Int) (bs : List (List Int)) (k : Nat) (o : Option Nat × Int) : Prop :=
  (o.1 = none ∧ ∀ j, j < k → cand (bs.getD j []) = false) ∨
  (∃ i, o.1 = some i ∧ i < k ∧ cand (bs.getD i []) = true ∧ o.2 = pv seed f (bs.getD i []) ∧ ∀ j, j < k → cand (bs.getD j []) = true → Dm seed f (bs.getD i []) (bs.getD j []))
theorem pst_inv (seed : Int) (f : List Int) (bs : List (List Int)) : ∀ k, PInv seed f bs k (pst seed f bs k)
  | 0 => .inl ⟨rfl, fun j hj => absurd hj (by omega)⟩
  | k + 1 => by
    have ih := pst_inv seed f bs k
    have hs : pst seed f bs (k + 1) = if cand (bs.getD k []) = true then (if btr bs (pst seed f bs k).1 (pst seed f bs k).2 (pv seed f (bs.getD k [])) k = true then (some k, pv seed f (bs.getD k [])) else pst seed f bs k) else pst seed f bs k := rfl
    rw [hs]
    generalize pst seed f bs k = o at ih ⊢
    cases hc : cand (bs.getD k [])
    · rw [if_neg (by simp)]
      rcases ih with ⟨h1, h2⟩ | ⟨i, h1, h2, h3, h4, h5⟩
      · exact .inl ⟨h1, fun j hj => by rcases (by omega : j < k ∨ j = k) with h | rfl; exact h2 j h; exact hc⟩
      · exact .inr ⟨i, h1, by omega, h3, h4, fun j hj hcj => by rcases (by omega : j < k ∨ j = k) with h | rfl; exact h5 j h hcj; rw [hc] at hcj; cases hcj⟩
    · rw [if_pos rfl]
      rcases ih with ⟨h1, h2⟩ | ⟨i, h1, h2, h3, h4, h5⟩
      · rw [h1, if_pos (show btr bs none o.2 (pv seed f (bs.getD k [])) k = true from rfl)]
        exact .inr ⟨k, rfl, by omega, hc, rfl, fun j hj hcj => by rcases (by omega : j < k ∨ j = k) with h | rfl; rw [h2 j h] at hcj; cases hcj; exact Dm.refl ..⟩
      · rw [h1, h4]
        cases hb : btr bs (some i) (pv seed f (bs.getD i [])) (pv seed f (bs.getD k [])) k
        · rw [if_neg (by simp)]
          refine .inr ⟨i, h1, by omega, h3, h4, fun j hj hcj => ?_⟩
          rcases (by omega : j < k ∨ j = k) with h | rfl
          · exact h5 j h hcj
          · simp only [btr, Bool.or_eq_false_iff, decide_eq_false_iff_not, Bool.and_eq_false_iff, beq_eq_false_iff_ne] at hb
            unfold Dm
            omega
        · rw [if_pos rfl]
          have hd : Dm seed f (bs.getD k []) (bs.getD i []) := by
            simp only [btr, Bool.or_eq_true, decide_eq_true_eq, Bool.and_eq_true, beq_iff_eq] at hb
            unfold Dm
            omega
          refine .inr ⟨k, rfl, by omega, hc, rfl, fun j hj hcj => ?_⟩
          rcases (by omega : j < k ∨ j = k) with h | rfl
          · exact hd.trans (h5 j h hcj)
          · exact Dm.refl ..
theorem pst_some {seed : Int} {f : List Int} {bs : List (List Int)} {i : Nat} (h : (pst seed f bs bs.length).1 = some i) : Best seed f bs (bs.getD i []) := by
  rcases pst_inv seed f bs bs.length with ⟨h1, _⟩ | ⟨i', h1, h2, h3, _, h5⟩
  · rw [h] at h1; cases h1
  · rw [h] at h1
    obtain rfl := Option.some.inj h1
    refine ⟨by rw [getD_at h2]; exact List.getElem_mem h2, h3, fun c hc hcc => ?_⟩
    obtain ⟨j, hj, rfl⟩ := List.mem_iff_getElem.1 hc
    have := h5 j hj (by rw [getD_at hj]; exact hcc)
    rwa [getD_at hj] at this
theorem pick_best {seed : Int} {f : List Int} {bs : List (List Int)} (h : (pko seed f bs).2 = 0) : OKs bs ∧ sok seed f 0 = true ∧ Best seed f bs (pko seed f bs).1 := by
  unfold pko at h ⊢
  by_cases h1 : (bf bs).2 = 0
  · rw [if_pos h1] at h ⊢
    cases h2 : sok seed f 0
    · rw [h2] at h; simp at h
    · rw [h2, if_pos rfl] at h
      rw [if_pos rfl]
      refine ⟨oks_of h1, rfl, ?_⟩
      cases h3 : (pst seed f bs bs.length).1 with
      | none => rw [h3] at h; cases h
      | some i => exact pst_some h3
  · rw [if_neg h1] at h
    exact absurd h h1
end Go.Proofs.YtkhahbghmdccaaaGreat

namespace Go.Proofs.YtkhahbghmdccaaaGreat
open Go.RowKit
/-- a gate, with the blocks that it owns as one predicate. -/
def GH (w : World) (G : Nat) (g : GS) (O : Nat → Prop) (W : World) : Prop := ∃ a cap tv S Ot β, O = GO G a Ot (SO S β g.ss) ∧ OG w G a cap tv S Ot β g W
theorem GH.kept {w : World} {G : Nat} {g : GS} {O : Nat → Prop} {W W' : World} (h : GH w G g O W) (hb : Below W.heap.size W W') : GH w G g O W' := by
  obtain ⟨a, cap, tv, S, Ot, β, e, h⟩ := h
  exact ⟨a, cap, tv, S, Ot, β, e, h.kept hb⟩
theorem GH.lt {w : World} {G : Nat} {g : GS} {O : Nat → Prop} {W : World} (h : GH w G g O W) {k : Nat} (hk : O k) : k < W.heap.size := by
  obtain ⟨a, cap, tv, S, Ot, β, rfl, h⟩ := h
  exact h.1.lt hk
theorem GH.below {w : World} {G : Nat} {g : GS} {O : Nat → Prop} {W : World} (h : GH w G g O W) : Below w.heap.size w W := by
  obtain ⟨a, cap, tv, S, Ot, β, rfl, h⟩ := h
  exact h.2.2
/-- a gate goes on: what it owned, or is new. -/
def GN (w : World) (G : Nat) (g' : GS) (O : Nat → Prop) (W W' : World) : Prop := ∃ O', GH w G g' O' W' ∧ (∀ k, O' k → O k ∨ W.heap.size ≤ k) ∧ Kpt O W W'
/-- what a call on a gate does, told of it. -/
theorem GH.call {w : World} {G : Nat} {g g' : GS} {O : Nat → Prop} {W : World} (h : GH w G g O W) {F : Nat} {xs : Array Value} {R : Ending → World → Prop}
    (hc : ∀ a cap tv S Ot β, GC G a cap tv S Ot β g W → Calls Tryz.prog F xs W fun e w' => R e w' ∧ GQ W G a cap tv S Ot β g g' w') :
    Calls Tryz.prog F xs W fun e w' => R e w' ∧ GN w G g' O W w' := by
  obtain ⟨a, cap, tv, S, Ot, β, rfl, h⟩ := h
  refine (hc a cap tv S Ot β h.1).mono ?_
  rintro e w' ⟨hR, Ot', β', q1, q2, q3⟩
  have hs := h.2.2.size
  exact ⟨hR, _, ⟨a, cap, tv, S, Ot', β', rfl, q1, fun k hk => (q3 k hk).elim (h.2.1 k) (fun h => by omega), q2.below h.2.2 h.2.1 hs⟩, q3, q2⟩
/-- a new gate. -/
theorem NG.gh {w W w' : World} {c : List Int} {inj : Bool} {bk : List (List Int)} {m : Nat} {e : Ending} (h : NG W c inj bk m e w') (hb : Below w.heap.size w W) : ∃ G O, e = .returned (.tuple #[.pointer (some ⟨G, 0, none⟩), .nilIface]) ∧ GH w G (gz0 c inj bk m) O w' ∧ (∀ k, O k → W.heap.size ≤ k) ∧ Below W.heap.size W w' := by
  obtain ⟨G, a, cap, tv, S, Ot, e1, e2, e3, e4⟩ := h
  exact ⟨G, _, e1, ⟨a, cap, tv, S, Ot, _, rfl, e2, fun k hk => Nat.le_trans hb.size (e3 k hk), bt hb e4⟩, e3, e4⟩
end Go.Proofs.YtkhahbghmdccaaaGreat

namespace Go.Proofs.YtkhahbghmdccaaaGreat
open Go.RowKit
theorem pick_any (c : Int) (n : Nat) (hc : I64 c) (hn : 0 < n) (hm : n ≤ 1000) : ∃ k : Nat, k < n ∧ ∀ w : World, Calls Tryz.prog 41 #[.int .i64 c, .int .i64 n] w fun e w' => e = .returned (.int .i64 k) ∧ w' = w := by
  obtain ⟨h1, h2⟩ := hc
  have hn' : (n : Int) ≤ 1000 := by omega
  have hn0 : (0 : Int) < (n : Int) := by omega
  have hnz : ¬ (n : Int) = 0 := by omega
  by_cases h : c < 0
  · have hd := Int.emod_nonneg (-(c + 1)) hnz
    have hl := Int.emod_lt_of_pos (-(c + 1)) hn0
    obtain ⟨k, hk⟩ : ∃ k : Nat, (-(c + 1)) % (n : Int) = k := ⟨((-(c + 1)) % (n : Int)).toNat, by omega⟩
    refine ⟨k, by omega, fun w => ?_⟩
    have q : (-(c + 1)).tmod (n : Int) = (k : Int) := by rw [Int.tmod_eq_emod_of_nonneg (by omega)]; exact hk
    have q1 : IntKind.i64.wrap (c + 1) = c + 1 := by rw [IntKind.wrap_i64]; omega
    have q2 : IntKind.i64.wrap (-(c + 1)) = -(c + 1) := by rw [IntKind.wrap_i64]; omega
    clear hd hl
    have HK := hide hk
    clear hk
    go_enter Tryz.func41, Tryz.ntmps41
    go_wp2
    go_ret
    exact ⟨by first | rfl | (rw [← HK.out]; rfl) | (rw [← HK.out]; simp) | (simp [q]), rfl⟩
  · have h0 : 0 ≤ c := by omega
    have hd := Int.emod_nonneg c hnz
    have hl := Int.emod_lt_of_pos c hn0
    obtain ⟨k, hk⟩ : ∃ k : Nat, c % (n : Int) = k := ⟨(c % (n : Int)).toNat, by omega⟩
    refine ⟨k, by omega, fun w => ?_⟩
    have q : c.tmod (n : Int) = (k : Int) := by rw [Int.tmod_eq_emod_of_nonneg h0]; exact hk
    clear hd hl
    have HK := hide hk
    clear hk
    go_enter Tryz.func41, Tryz.ntmps41
    go_wp2
    go_ret
    exact ⟨by first | rfl | (rw [← HK.out]; rfl) | (rw [← HK.out]; simp) | (simp [q]), rfl⟩
end Go.Proofs.YtkhahbghmdccaaaGreat

namespace Go.Proofs.YtkhahbghmdccaaaGreat
open Go.RowKit
set_option linter.unusedVariables false
theorem in6_gh {g : GS} (hg : IG g) (zs : List Int) : ∀ w G O W b l k, GH w G g O W → Row8 W b l k zs → l ≤ k → k ≤ maxLen → Calls Tryz.prog 16 #[.pointer (some ⟨G, 0, none⟩), .slice b l k] W fun e w' => (∃ a2 l2 c2, e = .returned (.tuple #[.slice a2 l2 c2, ev (g6 g zs).1]) ∧ Row8 w' a2 l2 c2 (g6 g zs).2.1 ∧ l2 ≤ c2 ∧ c2 ≤ maxLen) ∧ GN w G (g6 g zs).2.2 O W w' :=
  fun w G O W b l k h r e1 e2 => h.call (R := fun e w' => ∃ a2 l2 c2, e = .returned (.tuple #[.slice a2 l2 c2, ev (g6 g zs).1]) ∧ Row8 w' a2 l2 c2 (g6 g zs).2.1 ∧ l2 ≤ c2 ∧ c2 ≤ maxLen) fun a cap tv S Ot β hG => (in6_any G a cap tv S Ot β g b l k zs W hG hg.1 hg.2.1 hg.2.2 r e1 e2).mono fun e w' ⟨a2, l2, c2, e3, e4, e5⟩ => ⟨⟨a2, l2, c2, e3, e4⟩, e5⟩
end Go.Proofs.YtkhahbghmdccaaaGreat
