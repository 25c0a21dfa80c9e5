/- Package gangplanklaw3: a step, and what is sent by one, by contracts. What is sent by a step, whatever it is; the flow of a new bind. -/
import Derived.Test.YtkhahbghmdccaaaGreatK21
import Derived.Test.YtkhahbghmdccaaaGreatK33
import Derived.Test.YtkhahbghmdccaaaGreatK47
import Derived.Below
import Derived.OpenShut
import Derived.Test.YtkhahbghmdccaaaGreatProg
import Derived.WalkKit
import Derived.LaidEql
import Derived.BigQuiet
import Derived.Laws.AppendOwnNone
import Derived.Laws.MakeOwn
import Derived.Deep.RegionLaw
import Derived.Lib.Bytes
import Derived.Deep.MidRow
import Derived.Laws.ResultCell
import Derived.Deep.CutBlock
import Derived.Deep.QuietTactic
import Derived.OwnWalk
import Derived.Deep.RegionHeld3
import Derived.Deep.DrawnRows
import Derived.Laws.StructEq
import Derived.Maps.AppendAt
import Derived.Maps.RangeWalk
import Derived.Stop.Asserts
import Derived.RowKitTokens
import Derived.Test.YtkhahbghmdccaaaGreatShelf
import Derived.Shelf.Abstract
import Derived.Lib.SliceRun
import Derived.Lib.AppendZerosOnto
import Derived.Lib.AppendZeros
import Derived.Laws.CopyOwn
import Derived.RangeFuncNested
import Derived.RangeFuncBound
import Derived.RangeFuncCalls
import Derived.RangeFuncLeaves
import Derived.RangeFuncFrom
import Derived.Shelf.RegionOpen
import Derived.OwnWalkIn
import Derived.TacticsInMore
import Derived.LoopNIn
import Derived.LoopIn
import Derived.Deep.RegionWith
import Derived.ArgAppend
import Derived.Lib.SlBytesConst
import Derived.Lib.AppendStr
import Derived.Test.YtkhahbghmdccaaaGreatK48
namespace Go.Proofs.YtkhahbghmdccaaaGreat
open Go.RowKit
/-- a step's cells. -/
def stC3 (wh : Int) (ba : Option Addr) (bl bc : Nat) (z : List Int) (a : Option Addr) (len cap : Nat) (s d : List Int) (hop n : Int) (is : Bool) : Array Value := #[.int .i64 wh, .slice ba bl bc, .int .i64 (el z 0), .int .i64 (el z 1), .int .i64 (el z 2), .int .i64 (el z 3), .int .i64 (el z 4), .int .i64 (el z 5), .int .i64 (el z 6), .slice a len cap, .int .i64 (el s 0), .int .i64 (el s 1), .int .i64 (el s 2), .int .i64 (el s 3), .int .i64 (el s 4), .int .i64 (el s 5), .int .i64 (el s 6), .int .i64 (el s 7), .int .i64 (el d 0), .int .i64 (el d 1), .int .i64 (el d 2), .int .i64 (el d 3), .int .i64 (el d 4), .int .i64 (el d 5), .int .i64 (el d 6), .int .i64 (el d 7), .int .i64 hop, .int .i64 n, .bool is]
def StIn3 (B : Nat) (wh : Int) (ba : Option Addr) (bl bc : Nat) (z : List Int) (a : Option Addr) (len cap : Nat) (s d : List Int) (hop n : Int) (is : Bool) (w : World) : Prop := w.heap[B]? = some (.cells (stC3 wh ba bl bc z a len cap s d hop n is) 32 (0, 0))
theorem StIn3.lt {B : Nat} {wh : Int} {ba : Option Addr} {bl bc : Nat} {z : List Int} {a : Option Addr} {len cap : Nat} {s d : List Int} {hop n : Int} {is : Bool} {w : World} (p : StIn3 B wh ba bl bc z a len cap s d hop n is w) : B < w.heap.size := (Array.getElem?_eq_some_iff.1 p).1
theorem StIn3.kept {B : Nat} {wh : Int} {ba : Option Addr} {bl bc : Nat} {z : List Int} {a : Option Addr} {len cap : Nat} {s d : List Int} {hop n : Int} {is : Bool} {w w' : World} (p : StIn3 B wh ba bl bc z a len cap s d hop n is w) (hb : Below w.heap.size w w') : StIn3 B wh ba bl bc z a len cap s d hop n is w' := (hb.block B p.lt).trans p
theorem st3_new (w : World) (wh : Int) (ba : Option Addr) (bl bc : Nat) (z : List Int) (a : Option Addr) (len cap : Nat) (s d : List Int) (hop n : Int) (is : Bool) : StIn3 w.heap.size wh ba bl bc z a len cap s d hop n is (w.alloc (.cells (stC3 wh ba bl bc z a len cap s d hop n is) 32)) := heap_alloc_new w _
theorem StIn3.cellAt {B : Nat} {wh : Int} {ba : Option Addr} {bl bc : Nat} {z : List Int} {a : Option Addr} {len cap : Nat} {s d : List Int} {hop n : Int} {is : Bool} {w : World} (p : StIn3 B wh ba bl bc z a len cap s d hop n is w) (j : Nat) : w.cell? ⟨B, j, none⟩ = (stC3 wh ba bl bc z a len cap s d hop n is)[j]? := cell_of_row w B j _ _ _ p
theorem StIn3.what {B : Nat} {wh : Int} {ba : Option Addr} {bl bc : Nat} {z : List Int} {a : Option Addr} {len cap : Nat} {s d : List Int} {hop n : Int} {is : Bool} {w : World} (p : StIn3 B wh ba bl bc z a len cap s d hop n is w) : w.cell? ⟨B, 0, none⟩ = some (.int .i64 wh) := p.cellAt 0
theorem StIn3.bytes {B : Nat} {wh : Int} {ba : Option Addr} {bl bc : Nat} {z : List Int} {a : Option Addr} {len cap : Nat} {s d : List Int} {hop n : Int} {is : Bool} {w : World} (p : StIn3 B wh ba bl bc z a len cap s d hop n is w) : w.cell? ⟨B, 1, none⟩ = some (.slice ba bl bc) := p.cellAt 1
theorem StIn3.hop {B : Nat} {wh : Int} {ba : Option Addr} {bl bc : Nat} {z : List Int} {a : Option Addr} {len cap : Nat} {s d : List Int} {hop n : Int} {is : Bool} {w : World} (p : StIn3 B wh ba bl bc z a len cap s d hop n is w) : w.cell? ⟨B, 26, none⟩ = some (.int .i64 hop) := p.cellAt 26
theorem StIn3.is {B : Nat} {wh : Int} {ba : Option Addr} {bl bc : Nat} {z : List Int} {a : Option Addr} {len cap : Nat} {s d : List Int} {hop n : Int} {is : Bool} {w : World} (p : StIn3 B wh ba bl bc z a len cap s d hop n is w) : w.cell? ⟨B, 28, none⟩ = some (.bool is) := p.cellAt 28
theorem StIn3.seg {B : Nat} {wh : Int} {ba : Option Addr} {bl bc : Nat} {z : List Int} {a : Option Addr} {len cap : Nat} {s d : List Int} {hop n : Int} {is : Bool} {w : World} (p : StIn3 B wh ba bl bc z a len cap s d hop n is w) : ∀ (j : Nat) v, (sgC z a len cap).toList[j]? = some v → w.cell? ⟨B, 2 + j, none⟩ = some v := fun j v hv => by
  have hj : j < 8 := (List.getElem?_eq_some_iff.1 hv).1
  rw [p.cellAt]
  rcases (by omega : j = 0 ∨ j = 1 ∨ j = 2 ∨ j = 3 ∨ j = 4 ∨ j = 5 ∨ j = 6 ∨ j = 7) with rfl | rfl | rfl | rfl | rfl | rfl | rfl | rfl <;> exact hv
theorem StIn3.src {B : Nat} {wh : Int} {ba : Option Addr} {bl bc : Nat} {z : List Int} {a : Option Addr} {len cap : Nat} {s d : List Int} {hop n : Int} {is : Bool} {w : World} (p : StIn3 B wh ba bl bc z a len cap s d hop n is w) : ∀ (j : Nat) v, (sixC s).toList[j]? = some v → w.cell? ⟨B, 10 + j, none⟩ = some v := fun j v hv => by
  have hj : j < 8 := (List.getElem?_eq_some_iff.1 hv).1
  rw [p.cellAt]
  rcases (by omega : j = 0 ∨ j = 1 ∨ j = 2 ∨ j = 3 ∨ j = 4 ∨ j = 5 ∨ j = 6 ∨ j = 7) with rfl | rfl | rfl | rfl | rfl | rfl | rfl | rfl <;> exact hv
theorem StIn3.dst {B : Nat} {wh : Int} {ba : Option Addr} {bl bc : Nat} {z : List Int} {a : Option Addr} {len cap : Nat} {s d : List Int} {hop n : Int} {is : Bool} {w : World} (p : StIn3 B wh ba bl bc z a len cap s d hop n is w) : ∀ (j : Nat) v, (sixC d).toList[j]? = some v → w.cell? ⟨B, 18 + j, none⟩ = some v := fun j v hv => by
  have hj : j < 8 := (List.getElem?_eq_some_iff.1 hv).1
  rw [p.cellAt]
  rcases (by omega : j = 0 ∨ j = 1 ∨ j = 2 ∨ j = 3 ∨ j = 4 ∨ j = 5 ∨ j = 6 ∨ j = 7) with rfl | rfl | rfl | rfl | rfl | rfl | rfl | rfl <;> exact hv
/-- its segment, its addresses, loaded: held shut for a walk. -/
theorem StIn3.gl {B : Nat} {wh : Int} {ba : Option Addr} {bl bc : Nat} {z : List Int} {a : Option Addr} {len cap : Nat} {s d : List Int} {hop n : Int} {is : Bool} {w : World} (p : StIn3 B wh ba bl bc z a len cap s d hop n is w) : (gload (.pointer (some ⟨B, 2, none⟩))).run Tryz.prog w = .ok (.agg (sgC z a len cap)) w := run_loadAt_mid w B 2 30 _ _ p.seg Tryz.underlying30 rfl (by kernel_rfl)
theorem StIn3.hs {B : Nat} {wh : Int} {ba : Option Addr} {bl bc : Nat} {z : List Int} {a : Option Addr} {len cap : Nat} {s d : List Int} {hop n : Int} {is : Bool} {w : World} (p : StIn3 B wh ba bl bc z a len cap s d hop n is w) : (hload (.pointer (some ⟨B, 10, none⟩))).run Tryz.prog w = .ok (.agg (sixC s)) w := run_loadAt_mid w B 10 23 _ _ p.src Tryz.underlying23 rfl (by kernel_rfl)
theorem StIn3.hd {B : Nat} {wh : Int} {ba : Option Addr} {bl bc : Nat} {z : List Int} {a : Option Addr} {len cap : Nat} {s d : List Int} {hop n : Int} {is : Bool} {w : World} (p : StIn3 B wh ba bl bc z a len cap s d hop n is w) : (hload (.pointer (some ⟨B, 18, none⟩))).run Tryz.prog w = .ok (.agg (sixC d)) w := run_loadAt_mid w B 18 23 _ _ p.dst Tryz.underlying23 rfl (by kernel_rfl)
/-- a step, built: held shut for a walk. -/
def sbu (ps : Array (Nat × Value)) : Sem Value := Instr.build 32 ps
theorem sbu_shut (ps : Array (Nat × Value)) : Instr.build 32 ps = sbu ps := rfl
theorem sbu_run (z : List Int) (a : Option Addr) (len cap : Nat) (s d : List Int) (hop : Int) (w : World) : (sbu #[(0, .int .i64 9), (2, .agg (sgC z a len cap)), (3, .agg (sixC s)), (4, .agg (sixC d)), (5, .int .i64 hop)]).run Tryz.prog w = .ok (.agg (stC3 9 none 0 0 z a len cap s d hop 0 false)) w := by kernel_rfl
/-- what is kept while a step's packet is made: the step, the config, the segment. -/
def Ks3 (w : World) (wh : Int) (ba : Option Addr) (bl bc : Nat) (z : List Int) (a : Option Addr) (len cap : Nat) (s d : List Int) (hop n : Int) (is : Bool) (c : List Int) (inj : Bool) (ka : Option Addr) (kn kc : Nat) (W : World) : Prop := StIn3 w.heap.size wh ba bl bc z a len cap s d hop n is W ∧ CfIn (w.heap.size + 1) c inj ka kn kc W ∧ Below w.heap.size w W
theorem Ks3.kept {w : World} {wh : Int} {ba : Option Addr} {bl bc : Nat} {z : List Int} {a : Option Addr} {len cap : Nat} {s d : List Int} {hop n : Int} {is : Bool} {c : List Int} {inj : Bool} {ka : Option Addr} {kn kc : Nat} {W W' : World} (h : Ks3 w wh ba bl bc z a len cap s d hop n is c inj ka kn kc W) (hb : Below W.heap.size W W') : Ks3 w wh ba bl bc z a len cap s d hop n is c inj ka kn kc W' := ⟨h.1.kept hb, h.2.1.kept hb, bt h.2.2 hb⟩
theorem Ks3.start (w : World) (wh : Int) (ba : Option Addr) (bl bc : Nat) (z : List Int) (a : Option Addr) (len cap : Nat) (s d : List Int) (hop n : Int) (is : Bool) (c : List Int) (inj : Bool) (ka : Option Addr) (kn kc : Nat) : Ks3 w wh ba bl bc z a len cap s d hop n is c inj ka kn kc ((w.alloc (.cells (stC3 wh ba bl bc z a len cap s d hop n is) 32)).alloc (.cells (cfC c inj ka kn kc) 26)) := by
  have b1 := al_below w (.cells (stC3 wh ba bl bc z a len cap s d hop n is) 32)
  have b2 := al_below (w.alloc (.cells (stC3 wh ba bl bc z a len cap s d hop n is) 32)) (.cells (cfC c inj ka kn kc) 26)
  have p2 := cf_new (w.alloc (.cells (stC3 wh ba bl bc z a len cap s d hop n is) 32)) c inj ka kn kc
  rw [World.size_alloc] at p2
  exact ⟨(st3_new w wh ba bl bc z a len cap s d hop n is).kept b2, p2, bt b1 b2⟩
attribute [local go_sem ↓] gload_shut hload_shut
set_option maxRecDepth 100000 in
set_option maxHeartbeats 4000000 in
theorem lsent_no (wh : Int) (ba : Option Addr) (bl bc : Nat) (z : List Int) (a : Option Addr) (len cap : Nat) (s d : List Int) (hop n : Int) (is : Bool) (c : List Int) (inj : Bool) (ka : Option Addr) (kn kc : Nat) (bv : Value) (w : World) (h5 : (wh == 5) = false) (hm : len ≤ maxLen) (hc : ¬ (sf z len = 0 ∧ Ok6 s ∧ Ok6 d ∧ 0 ≤ hop ∧ hop ≤ 255)) :
    Calls Tryz.prog 15 #[.agg (stC3 wh ba bl bc z a len cap s d hop n is), .agg (cfC c inj ka kn kc), bv] w fun e w' => e = .returned (.slice none 0 0) ∧ Below w.heap.size w w' := by
  have HF := hide (fun W => rfault_any z a len cap W hm)
  have HK := hide (Ks3.start w wh ba bl bc z a len cap s d hop n is c inj ka kn kc)
  have HZ7 := hide (fun W => zero_new W)
  unfold zero7 at HZ7
  have hcase : (sf z len != 0) = true ∨ ((sf z len != 0) = false ∧ ¬ Ok6 s) ∨ ((sf z len != 0) = false ∧ Ok6 s ∧ ¬ Ok6 d) ∨ ((sf z len != 0) = false ∧ Ok6 s ∧ Ok6 d ∧ hop < 0) ∨ ((sf z len != 0) = false ∧ Ok6 s ∧ Ok6 d ∧ ¬ hop < 0 ∧ 255 < hop) := by
    by_cases c1 : sf z len = 0
    · refine .inr ?_
      have c1' : (sf z len != 0) = false := by simp [c1]
      by_cases c2 : Ok6 s
      · by_cases c3 : Ok6 d
        · by_cases c4 : hop < 0
          · exact .inr (.inr (.inl ⟨c1', c2, c3, c4⟩))
          · refine .inr (.inr (.inr ⟨c1', c2, c3, c4, ?_⟩))
            have : ¬ (0 ≤ hop ∧ hop ≤ 255) := fun h => hc ⟨c1, c2, c3, h⟩
            omega
        · exact .inr (.inl ⟨c1', c2, c3⟩)
      · exact .inl ⟨c1', c2⟩
    · exact .inl (by simpa using c1)
  have HS := hide (fun W => six_any s W)
  have HD := hide (fun W => six_any d W)
  have h1 : Ok6 s → fe (s6 s) = 0 := fun h => by rw [(s6_iff s).2 h]; rfl
  have h2 : Ok6 d → fe (s6 d) = 0 := fun h => by rw [(s6_iff d).2 h]; rfl
  have h3 : ¬ Ok6 s → fe (s6 s) = 1 := fun h => by cases e : s6 s; rfl; exact absurd ((s6_iff s).1 e) h
  have h4 : ¬ Ok6 d → fe (s6 d) = 1 := fun h => by cases e : s6 d; rfl; exact absurd ((s6_iff d).1 e) h
  generalize sf z len = R at HF hcase
  clear hc hm
  rcases hcase with c1 | ⟨c1, c2⟩ | ⟨c1, c2, c3⟩ | ⟨c1, c2, c3, c4⟩ | ⟨c1, c2, c3, c4, c5⟩
  case' inr.inl => rw [h3 c2] at HS; clear c2
  case' inr.inr.inl => rw [h1 c2] at HS; rw [h4 c3] at HD; clear c2 c3
  case' inr.inr.inr.inl => rw [h1 c2] at HS; rw [h2 c3] at HD; clear c2 c3
  case' inr.inr.inr.inr => rw [h1 c2] at HS; rw [h2 c3] at HD; clear c2 c3
  all_goals
    clear h1 h2 h3 h4
    go_enter Tryz.func15, Tryz.ntmps15
    go_upto_region 1 with fail
    generalize (World.alloc _ _).alloc _ = W0 at HK ⊢
    have q0 := HK.out.1.what
    have q2 := HK.out.1.gl
    have HZs := hide (HZ7.out W0)
    go_upto_region 17 with (refine at_store rfl (.tmp 7) (.tmp 10) rfl rfl HZs.out z a len cap rfl ?_; intro w3 p3 on3; have HS3 := hide p3; replace HK := hide (HK.out.kept (new_below _ on3)); clear p3 on3 q0 q2; have q0 := HK.out.1.what)
    clear q0 HZs
    have q3 := HS3.out.gl
    have q4 := HK.out.1.hop
    go_wp2_with (first
      | (go_at_call 51; (with_reducible refine (HF.out _).mono ?_); rintro e w4 ⟨rfl, hb4⟩; replace HK := hide (HK.out.kept hb4); clear hb4 q3 q4; have q3 := HK.out.1.hs; have q4 := HK.out.1.hop)
      | (go_at_call 52; (with_reducible refine (HS.out _).mono ?_); rintro e w5 ⟨rfl, hb5⟩; replace HK := hide (HK.out.kept hb5); clear hb5 q3 q4; have q3 := HK.out.1.hd; have q4 := HK.out.1.hop)
      | (go_at_call 52; (with_reducible refine (HD.out _).mono ?_); rintro e w6 ⟨rfl, hb6⟩; replace HK := hide (HK.out.kept hb6); clear hb6 q3 q4; have q4 := HK.out.1.hop))
    go_ret
    exact ⟨rfl, HK.out.2.2⟩
end Go.Proofs.YtkhahbghmdccaaaGreat

namespace Go.Proofs.YtkhahbghmdccaaaGreat
open Go.RowKit
attribute [local go_sem ↓] gload_shut hload_shut
set_option maxRecDepth 100000 in
set_option maxHeartbeats 4000000 in
theorem lsent_ok (wh : Int) (ba : Option Addr) (bl bc : Nat) (z : List Int) (a : Option Addr) (cap : Nat) (s d : List Int) (hop n : Int) (is : Bool) (c : List Int) (inj : Bool) (ka : Option Addr) (kn kc : Nat) (bv : Value) (D : List Int) (w : World) (h5 : (wh == 5) = false) (hz : Okg z D.length) (hs : Ok6 s) (hd : Ok6 d) (ht : up 255 hop = true) (hr : Row8 w a D.length cap D) :
    Calls Tryz.prog 15 #[.agg (stC3 wh ba bl bc z a D.length cap s d hop n is), .agg (cfC c inj ka kn kc), bv] w fun e w' => ∃ v, e = .returned v ∧ Own w.heap.size w' v (p6o s d hop z D) ∧ Below w.heap.size w w' := by
  have HF := hide (fun W => rfault_any z a D.length cap W (by have := hz.2.2.1; unfold maxLen; omega))
  rw [(sf_iff _ _).2 hz] at HF
  have HK := hide (Ks3.start w wh ba bl bc z a D.length cap s d hop n is c inj ka kn kc)
  have HR := hide (hr.below HK.out.2.2)
  have HZ7 := hide (fun W => zero_new W)
  unfold zero7 at HZ7
  have HS := hide (fun W => six_any s W)
  have HD := hide (fun W => six_any d W)
  rw [(s6_iff s).2 hs] at HS
  rw [(s6_iff d).2 hd] at HD
  obtain ⟨k, N, E, hPk, hEn⟩ := pk6_bundle hs hd ht hz
  have HPk := hide hPk
  have HEn := hide hEn
  have h4 := up_true ht
  have h4a : ¬ hop < 0 := by omega
  have h4b : ¬ 255 < hop := by omega
  generalize p6o s d hop z D = Y at HEn ⊢
  clear hPk hEn hz hs hd ht hr h4
  unfold fe at HS HD
  go_enter Tryz.func15, Tryz.ntmps15
  go_upto_region 1 with fail
  generalize (World.alloc _ _).alloc _ = W0 at HK HR ⊢
  have q0 := HK.out.1.what
  have q2 := HK.out.1.gl
  have HZs := hide (HZ7.out W0)
  go_upto_region 17 with (refine at_store rfl (.tmp 7) (.tmp 10) rfl rfl HZs.out z a D.length cap rfl ?_; intro w3 p3 on3; have HS3 := hide p3; replace HK := hide (HK.out.kept (new_below _ on3)); replace HR := hide (HR.out.below (new_below _ on3)); clear p3 on3 q0 q2; have q0 := HK.out.1.what)
  clear q0 HZs
  have q3 := HS3.out.gl
  have q4 := HK.out.1.hop
  go_upto_region 19 with (first
    | (go_at_call 51; (with_reducible refine (HF.out _).mono ?_); rintro e w4 ⟨rfl, hb4⟩; replace HK := hide (HK.out.kept hb4); replace HS3 := hide (HS3.out.kept hb4); replace HR := hide (HR.out.below hb4); clear hb4 q3 q4; have q3 := HK.out.1.hs; have q4 := HK.out.1.hop)
    | (go_at_call 52; (with_reducible refine (HS.out _).mono ?_); rintro e w5 ⟨rfl, hb5⟩; replace HK := hide (HK.out.kept hb5); replace HS3 := hide (HS3.out.kept hb5); replace HR := hide (HR.out.below hb5); clear hb5 q3 q4; have q3 := HK.out.1.hd; have q4 := HK.out.1.hop)
    | (go_at_call 52; (with_reducible refine (HD.out _).mono ?_); rintro e w6 ⟨rfl, hb6⟩; replace HK := hide (HK.out.kept hb6); replace HS3 := hide (HS3.out.kept hb6); replace HR := hide (HR.out.below hb6); clear hb6 q3 q4; have q4 := HK.out.1.hop))
  clear q4
  have q3 := HS3.out.gl
  have q4 := HK.out.1.hop
  have q5 := HK.out.1.hs
  have q6 := HK.out.1.hd
  go_wp2_with (first
    | (go_at_call 28; refine (HPk.out _ _ _ HR.out).mono ?_; rintro e w7 ⟨a7, c7, rfl, r7, hb7⟩; have HB := hide (bt HK.out.2.2 hb7); have HR7 := hide r7; clear hb7 r7 q3 q4 q5 q6)
    | (go_at_call 46; refine (HEn.out _ _ _ HR7.out).mono ?_; rintro e w8 ⟨v8, rfl, o8, hb8⟩; have HO := hide (o8.mono HB.out.size); replace HB := hide (bt HB.out hb8); clear hb8 o8))
  go_ret
  exact ⟨_, rfl, HO.out, HB.out⟩
/-- what is sent: a packet's bytes, or none. -/
theorem lsent_any (wh : Int) (ba : Option Addr) (bl bc : Nat) (z : List Int) (a : Option Addr) (len cap : Nat) (s d : List Int) (hop n : Int) (is : Bool) (c : List Int) (inj : Bool) (ka : Option Addr) (kn kc : Nat) (bv : Value) (D : List Int) (w : World) (h5 : (wh == 5) = false) (hr : Row8 w a len cap D) :
    (∀ W, Below w.heap.size w W → Calls Tryz.prog 15 #[.agg (stC3 wh ba bl bc z a len cap s d hop n is), .agg (cfC c inj ka kn kc), bv] W fun e w' => e = .returned (.slice none 0 0) ∧ Below W.heap.size W w') ∨
    (Ok6 s ∧ Ok6 d ∧ up 255 hop = true ∧ Okg z D.length ∧ ∀ W, Below w.heap.size w W → Calls Tryz.prog 15 #[.agg (stC3 wh ba bl bc z a len cap s d hop n is), .agg (cfC c inj ka kn kc), bv] W fun e w' => ∃ v, e = .returned v ∧ Own W.heap.size w' v (p6o s d hop z D) ∧ Below W.heap.size W w') := by
  obtain rfl : D.length = len := hr.1
  by_cases hc : sf z D.length = 0 ∧ Ok6 s ∧ Ok6 d ∧ 0 ≤ hop ∧ hop ≤ 255
  · have hz := (sf_iff _ _).1 hc.1
    have ht : up 255 hop = true := decide_eq_true hc.2.2.2
    exact .inr ⟨hc.2.1, hc.2.2.1, ht, hz, fun W hW => lsent_ok wh ba bl bc z a cap s d hop n is c inj ka kn kc bv D W h5 hz hc.2.1 hc.2.2.1 ht (hr.below hW)⟩
  · exact .inl fun W hW => lsent_no wh ba bl bc z a D.length cap s d hop n is c inj ka kn kc bv W h5 hr.2.1 hc
theorem mkb_el (f : List Int) (p x y t : Int) (j : Nat) (hj : j < 19) : el (mkb f p x y t) j = el f j := by
  rcases (by omega : j = 0 ∨ j = 1 ∨ j = 2 ∨ j = 3 ∨ j = 4 ∨ j = 5 ∨ j = 6 ∨ j = 7 ∨ j = 8 ∨ j = 9 ∨ j = 10 ∨ j = 11 ∨ j = 12 ∨ j = 13 ∨ j = 14 ∨ j = 15 ∨ j = 16 ∨ j = 17 ∨ j = 18) with rfl | rfl | rfl | rfl | rfl | rfl | rfl | rfl | rfl | rfl | rfl | rfl | rfl | rfl | rfl | rfl | rfl | rfl | rfl <;> rfl
/-- who is picked hangs on the flow's numbers alone. -/
theorem pko_mkb (seed : Int) (f : List Int) (p x y t : Int) (bk : List (List Int)) : pko seed (mkb f p x y t) bk = pko seed f bk := by
  have hk : ∀ id, sok seed (mkb f p x y t) id = sok seed f id := fun _ => rfl
  have hn : nl (mkb f p x y t) 19 = nl f 19 := by
    unfold nl
    exact List.map_congr_left fun j hj => mkb_el f p x y t j (List.mem_range.1 hj)
  have hs : ∀ id, sv seed (mkb f p x y t) id = sv seed f id := fun id => by
    unfold sv sc nums
    rw [hn, hk]
  have hp : ∀ k, pst seed (mkb f p x y t) bk k = pst seed f bk k := fun k => by
    induction k with
    | zero => rfl
    | succ k ih =>
      unfold pst
      rw [ih]
      unfold pv
      rw [hs]
  unfold pko
  rw [hp, hk]
/-- of a gate at which nothing has gone on: a flow to the VIP. -/
theorem first_g6s {c : List Int} {inj : Bool} {bk : List (List Int)} {m : Nat} (hv : Em.inF (vip c) (pfx c) (el c 17) = false) {f : List Int} (hd : ∀ j, j < 8 → el (dst f) j = el (vip c) j) (hop : Int) (z D : List Int) :
    ((g6s (gz0 c inj bk m) f hop z D).1 ≠ 0 ∧ (g6s (gz0 c inj bk m) f hop z D).2.2.bs = []) ∨ ∃ p, (g6s (gz0 c inj bk m) f hop z D).2.2.bs = [mkb f p (el (pko (el c 19) f bk).1 1) (el (pko (el c 19) f bk).1 2) 0] ∧ (pko (el c 19) f bk).2 = 0 := by
  have hq : eqz (dst f) (vip c) = true := (eqz_iff _ _).2 hd
  have hdv : dst f = vip c := by
    unfold dst vip at hd ⊢
    have h := fun j hj => hd j hj
    rw [show el f 10 = el c 0 from h 0 (by omega), show el f 11 = el c 1 from h 1 (by omega), show el f 12 = el c 2 from h 2 (by omega), show el f 13 = el c 3 from h 3 (by omega), show el f 14 = el c 4 from h 4 (by omega), show el f 15 = el c 5 from h 5 (by omega), show el f 16 = el c 6 from h 6 (by omega), show el f 17 = el c 7 from h 7 (by omega)]
  by_cases h8 : el f 18 = el c 8
  · have hl : ldo c f = (0, true, 0) := if_pos ⟨hq, h8⟩
    have hw : whr (gz0 c inj bk m) f (true, 0) = (el (pko (el c 19) f bk).1 1, el (pko (el c 19) f bk).1 2, (pko (el c 19) f bk).2) := if_pos rfl
    have hB : ((bdo (gz0 c inj bk m) f (el z 5) (whr (gz0 c inj bk m) f (true, 0))).1 ≠ 0 ∧ (bdo (gz0 c inj bk m) f (el z 5) (whr (gz0 c inj bk m) f (true, 0))).2.2.bs = []) ∨ (∃ p, (bdo (gz0 c inj bk m) f (el z 5) (whr (gz0 c inj bk m) f (true, 0))).1 = 0 ∧ (bdo (gz0 c inj bk m) f (el z 5) (whr (gz0 c inj bk m) f (true, 0))).2.2.bs = [mkb f p (el (pko (el c 19) f bk).1 1) (el (pko (el c 19) f bk).1 2) 0] ∧ (pko (el c 19) f bk).2 = 0) := by
      rw [hw, bdo_none (show fnd (gz0 c inj bk m).bs f = none from rfl)]
      split
      · exact .inl ⟨(by decide : (9 : Int) ≠ 0), rfl⟩
      · split
        · rename_i h2
          exact .inl ⟨h2, rfl⟩
        · rename_i h2
          split
          · exact .inl ⟨(by decide : (3 : Int) ≠ 0), rfl⟩
          · rename_i i _
            exact .inr ⟨1024 + (i : Int), rfl, rfl, Classical.not_not.1 h2⟩
    unfold g6s
    rw [show (gz0 c inj bk m).c = c from rfl, hl]
    dsimp only
    rw [if_neg (by simp)]
    generalize bdo (gz0 c inj bk m) f (el z 5) (whr (gz0 c inj bk m) f (true, 0)) = B at hB ⊢
    split
    · exact .inl ⟨(by decide : (2 : Int) ≠ 0), rfl⟩
    · rcases hB with ⟨e1, e2⟩ | ⟨p, e1, e2, e3⟩
      · rw [if_pos e1]
        exact .inl ⟨e1, e2⟩
      · rw [if_neg (fun h => h e1)]
        refine .inr ⟨p, ?_, e3⟩
        rw [g6b_st, (guo_c _ _ _ _).2.2]
        exact e2
  · have hl : ldo c f = (4, false, 0) := by
      unfold ldo
      rw [if_neg (fun h => h8 h.2), if_neg (fun h => by rw [hdv, hv] at h; exact absurd h.1 (by decide))]
    unfold g6s
    rw [show (gz0 c inj bk m).c = c from rfl, hl]
    exact .inl ⟨(by decide : (4 : Int) ≠ 0), rfl⟩
theorem cko_vip {c : List Int} {bk : List (List Int)} (h : cko c bk 0 = 0) : Em.inF (vip c) (pfx c) (el c 17) = false := by
  unfold cko at h
  split at h
  · cases h
  split at h
  · cases h
  split at h
  · rename_i h1; exact absurd rfl h1
  split at h
  · cases h
  split at h
  · cases h
  split at h
  · rename_i h3; exact absurd h h3
  split at h
  · cases h
  · rename_i h4
    cases e : Em.inF (vip c) (pfx c) (el c 17)
    · rfl
    · exact absurd e h4
theorem g6_nil (g : GS) : g6 g [] = (5, [], g) := by
  unfold g6
  exact if_pos (by simp)
end Go.Proofs.YtkhahbghmdccaaaGreat
