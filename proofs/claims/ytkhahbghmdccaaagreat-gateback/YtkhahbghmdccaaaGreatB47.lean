/- Package gangplanklaw3: a step, and what is sent by one, by contracts. What is sent by a step, whatever it is; the flow of a new bind. GateFirst, walked. An argument that is a step of gangplanklaw3, opened. The document's own answers of packets that were written so. Who is picked: the best of all, whatever their order, and with one of them gone. -/
import Derived.Test.YtkhahbghmdccaaaGreatB19
import Derived.Test.YtkhahbghmdccaaaGreatB31
import Derived.Test.YtkhahbghmdccaaaGreatB45
import Derived.Below
import Derived.OpenShut
import Derived.Test.YtkhahbghmdccaaaGreatProg
import Derived.WalkKit
import Derived.LaidEql
import Derived.BigQuiet
import Derived.Laws.AppendOwnNone
import Derived.Laws.MakeOwn
import Derived.Deep.RegionLaw
import Derived.Lib.Bytes
import Derived.Deep.MidRow
import Derived.Laws.ResultCell
import Derived.Deep.CutBlock
import Derived.Deep.QuietTactic
import Derived.OwnWalk
import Derived.Deep.RegionHeld3
import Derived.Deep.DrawnRows
import Derived.Laws.StructEq
import Derived.Maps.AppendAt
import Derived.Maps.RangeWalk
import Derived.Stop.Asserts
import Derived.RowKitTokens
import Derived.Test.YtkhahbghmdccaaaGreatShelf
import Derived.Shelf.Abstract
import Derived.Lib.SliceRun
import Derived.Lib.AppendZerosOnto
import Derived.Lib.AppendZeros
import Derived.Laws.CopyOwn
import Derived.RangeFuncNested
import Derived.RangeFuncBound
import Derived.RangeFuncCalls
import Derived.RangeFuncLeaves
import Derived.RangeFuncFrom
import Derived.Shelf.RegionOpen
import Derived.OwnWalkIn
import Derived.TacticsInMore
import Derived.LoopNIn
import Derived.LoopIn
import Derived.Deep.RegionWith
import Derived.ArgAppend
import Derived.Lib.SlBytesConst
import Derived.Lib.AppendStr
import Derived.Test.YtkhahbghmdccaaaGreatB46
import Derived.Test.YtkhahbghmdccaaaGreatB35
import Derived.Deep.Slices
import Derived.ChangeArms
import Derived.WideShapes
import Derived.Deep.Fields
import Derived.ChangeSlices
import Derived.Test.YtkhahbghmdccaaaGreatB32
import Derived.Test.YtkhahbghmdccaaaGreatB33
import Derived.Test.YtkhahbghmdccaaaGreatB21
namespace Go.Proofs.YtkhahbghmdccaaaGreat
open Go.RowKit
def stC3 (wh : Int) (ba : Option Addr) (bl bc : Nat) (z : List Int) (a : Option Addr) (len cap : Nat) (s d : List Int) (hop n : Int) (is : Bool) : Array Value := #[.int .i64 wh, .slice ba bl bc, .int .i64 (el z 0), .int .i64 (el z 1), .int .i64 (el z 2), .int .i64 (el z 3), .int .i64 (el z 4), .int .i64 (el z 5), .int .i64 (el z 6), .slice a len cap, .int .i64 (el s 0), .int .i64 (el s 1), .int .i64 (el s 2), .int .i64 (el s 3), .int .i64 (el s 4), .int .i64 (el s 5), .int .i64 (el s 6), .int .i64 (el s 7), .int .i64 (el d 0), .int .i64 (el d 1), .int .i64 (el d 2), .int .i64 (el d 3), .int .i64 (el d 4), .int .i64 (el d 5), .int .i64 (el d 6), .int .i64 (el d 7), .int .i64 hop, .int .i64 n, .bool is]
def StIn3 (B : Nat) (wh : Int) (ba : Option Addr) (bl bc : Nat) (z : List Int) (a : Option Addr) (len cap : Nat) (s d : List Int) (hop n : Int) (is : Bool) (w : World) : Prop := w.heap[B]? = some (.cells (stC3 wh ba bl bc z a len cap s d hop n is) 32 (0, 0))
theorem StIn3.lt {B : Nat} {wh : Int} {ba : Option Addr} {bl bc : Nat} {z : List Int} {a : Option Addr} {len cap : Nat} {s d : List Int} {hop n : Int} {is : Bool} {w : World} (p : StIn3 B wh ba bl bc z a len cap s d hop n is w) : B < w.heap.size := (Array.getElem?_eq_some_iff.1 p).1
theorem StIn3.kept {B : Nat} {wh : Int} {ba : Option Addr} {bl bc : Nat} {z : List Int} {a : Option Addr} {len cap : Nat} {s d : List Int} {hop n : Int} {is : Bool} {w w' : World} (p : StIn3 B wh ba bl bc z a len cap s d hop n is w) (hb : Below w.heap.size w w') : StIn3 B wh ba bl bc z a len cap s d hop n is w' := (hb.block B p.lt).trans p
theorem st3_new (w : World) (wh : Int) (ba : Option Addr) (bl bc : Nat) (z : List Int) (a : Option Addr) (len cap : Nat) (s d : List Int) (hop n : Int) (is : Bool) : StIn3 w.heap.size wh ba bl bc z a len cap s d hop n is (w.alloc (.cells (stC3 wh ba bl bc z a len cap s d hop n is) 32)) := heap_alloc_new w _
theorem StIn3.cellAt {B : Nat} {wh : Int} {ba : Option Addr} {bl bc : Nat} {z : List Int} {a : Option Addr} {len cap : Nat} {s d : List Int} {hop n : Int} {is : Bool} {w : World} (p : StIn3 B wh ba bl bc z a len cap s d hop n is w) (j : Nat) : w.cell? ⟨B, j, none⟩ = (stC3 wh ba bl bc z a len cap s d hop n is)[j]? := cell_of_row w B j _ _ _ p
theorem StIn3.what {B : Nat} {wh : Int} {ba : Option Addr} {bl bc : Nat} {z : List Int} {a : Option Addr} {len cap : Nat} {s d : List Int} {hop n : Int} {is : Bool} {w : World} (p : StIn3 B wh ba bl bc z a len cap s d hop n is w) : w.cell? ⟨B, 0, none⟩ = some (.int .i64 wh) := p.cellAt 0
theorem StIn3.bytes {B : Nat} {wh : Int} {ba : Option Addr} {bl bc : Nat} {z : List Int} {a : Option Addr} {len cap : Nat} {s d : List Int} {hop n : Int} {is : Bool} {w : World} (p : StIn3 B wh ba bl bc z a len cap s d hop n is w) : w.cell? ⟨B, 1, none⟩ = some (.slice ba bl bc) := p.cellAt 1
theorem StIn3.hop {B : Nat} {wh : Int} {ba : Option Addr} {bl bc : Nat} {z : List Int} {a : Option Addr} {len cap : Nat} {s d : List Int} {hop n : Int} {is : Bool} {w : World} (p : StIn3 B wh ba bl bc z a len cap s d hop n is w) : w.cell? ⟨B, 26, none⟩ = some (.int .i64 hop) := p.cellAt 26
theorem StIn3.num {B : Nat} {wh : Int} {ba : Option Addr} {bl bc : Nat} {z : List Int} {a : Option Addr} {len cap : Nat} {s d : List Int} {hop n : Int} {is : Bool} {w : World} (p : StIn3 B wh ba bl bc z a len cap s d hop n is w) : w.cell? ⟨B, 27, none⟩ = some (.int .i64 n) := p.cellAt 27
theorem StIn3.is {B : Nat} {wh : Int} {ba : Option Addr} {bl bc : Nat} {z : List Int} {a : Option Addr} {len cap : Nat} {s d : List Int} {hop n : Int} {is : Bool} {w : World} (p : StIn3 B wh ba bl bc z a len cap s d hop n is w) : w.cell? ⟨B, 28, none⟩ = some (.bool is) := p.cellAt 28
theorem StIn3.seg {B : Nat} {wh : Int} {ba : Option Addr} {bl bc : Nat} {z : List Int} {a : Option Addr} {len cap : Nat} {s d : List Int} {hop n : Int} {is : Bool} {w : World} (p : StIn3 B wh ba bl bc z a len cap s d hop n is w) : ∀ (j : Nat) v, (sgC z a len cap).toList[j]? = some v → w.cell? ⟨B, 2 + j, none⟩ = some v := fun j v hv => by
  have hj : j < 8 := (List.getElem?_eq_some_iff.1 hv).1
  rw [p.cellAt]
  rcases (by omega : j = 0 ∨ j = 1 ∨ j = 2 ∨ j = 3 ∨ j = 4 ∨ j = 5 ∨ j = 6 ∨ j = 7) with rfl | rfl | rfl | rfl | rfl | rfl | rfl | rfl <;> exact hv
theorem StIn3.src {B : Nat} {wh : Int} {ba : Option Addr} {bl bc : Nat} {z : List Int} {a : Option Addr} {len cap : Nat} {s d : List Int} {hop n : Int} {is : Bool} {w : World} (p : StIn3 B wh ba bl bc z a len cap s d hop n is w) : ∀ (j : Nat) v, (sixC s).toList[j]? = some v → w.cell? ⟨B, 10 + j, none⟩ = some v := fun j v hv => by
  have hj : j < 8 := (List.getElem?_eq_some_iff.1 hv).1
  rw [p.cellAt]
  rcases (by omega : j = 0 ∨ j = 1 ∨ j = 2 ∨ j = 3 ∨ j = 4 ∨ j = 5 ∨ j = 6 ∨ j = 7) with rfl | rfl | rfl | rfl | rfl | rfl | rfl | rfl <;> exact hv
theorem StIn3.dst {B : Nat} {wh : Int} {ba : Option Addr} {bl bc : Nat} {z : List Int} {a : Option Addr} {len cap : Nat} {s d : List Int} {hop n : Int} {is : Bool} {w : World} (p : StIn3 B wh ba bl bc z a len cap s d hop n is w) : ∀ (j : Nat) v, (sixC d).toList[j]? = some v → w.cell? ⟨B, 18 + j, none⟩ = some v := fun j v hv => by
  have hj : j < 8 := (List.getElem?_eq_some_iff.1 hv).1
  rw [p.cellAt]
  rcases (by omega : j = 0 ∨ j = 1 ∨ j = 2 ∨ j = 3 ∨ j = 4 ∨ j = 5 ∨ j = 6 ∨ j = 7) with rfl | rfl | rfl | rfl | rfl | rfl | rfl | rfl <;> exact hv
theorem StIn3.gl {B : Nat} {wh : Int} {ba : Option Addr} {bl bc : Nat} {z : List Int} {a : Option Addr} {len cap : Nat} {s d : List Int} {hop n : Int} {is : Bool} {w : World} (p : StIn3 B wh ba bl bc z a len cap s d hop n is w) : (gload (.pointer (some ⟨B, 2, none⟩))).run Tryz.prog w = .ok (.agg (sgC z a len cap)) w := run_loadAt_mid w B 2 30 _ _ p.seg Tryz.underlying30 rfl (by kernel_rfl)
theorem StIn3.hs {B : Nat} {wh : Int} {ba : Option Addr} {bl bc : Nat} {z : List Int} {a : Option Addr} {len cap : Nat} {s d : List Int} {hop n : Int} {is : Bool} {w : World} (p : StIn3 B wh ba bl bc z a len cap s d hop n is w) : (hload (.pointer (some ⟨B, 10, none⟩))).run Tryz.prog w = .ok (.agg (sixC s)) w := run_loadAt_mid w B 10 23 _ _ p.src Tryz.underlying23 rfl (by kernel_rfl)
theorem StIn3.hd {B : Nat} {wh : Int} {ba : Option Addr} {bl bc : Nat} {z : List Int} {a : Option Addr} {len cap : Nat} {s d : List Int} {hop n : Int} {is : Bool} {w : World} (p : StIn3 B wh ba bl bc z a len cap s d hop n is w) : (hload (.pointer (some ⟨B, 18, none⟩))).run Tryz.prog w = .ok (.agg (sixC d)) w := run_loadAt_mid w B 18 23 _ _ p.dst Tryz.underlying23 rfl (by kernel_rfl)
def sbu (ps : Array (Nat × Value)) : Sem Value := Instr.build 32 ps
theorem sbu_shut (ps : Array (Nat × Value)) : Instr.build 32 ps = sbu ps := rfl
theorem sbu_run (z : List Int) (a : Option Addr) (len cap : Nat) (s d : List Int) (hop : Int) (w : World) : (sbu #[(0, .int .i64 9), (2, .agg (sgC z a len cap)), (3, .agg (sixC s)), (4, .agg (sixC d)), (5, .int .i64 hop)]).run Tryz.prog w = .ok (.agg (stC3 9 none 0 0 z a len cap s d hop 0 false)) w := by kernel_rfl
def Ks3 (w : World) (wh : Int) (ba : Option Addr) (bl bc : Nat) (z : List Int) (a : Option Addr) (len cap : Nat) (s d : List Int) (hop n : Int) (is : Bool) (c : List Int) (inj : Bool) (ka : Option Addr) (kn kc : Nat) (W : World) : Prop := StIn3 w.heap.size wh ba bl bc z a len cap s d hop n is W ∧ CfIn (w.heap.size + 1) c inj ka kn kc W ∧ Below w.heap.size w W
theorem Ks3.kept {w : World} {wh : Int} {ba : Option Addr} {bl bc : Nat} {z : List Int} {a : Option Addr} {len cap : Nat} {s d : List Int} {hop n : Int} {is : Bool} {c : List Int} {inj : Bool} {ka : Option Addr} {kn kc : Nat} {W W' : World} (h : Ks3 w wh ba bl bc z a len cap s d hop n is c inj ka kn kc W) (hb : Below W.heap.size W W') : Ks3 w wh ba bl bc z a len cap s d hop n is c inj ka kn kc W' := ⟨h.1.kept hb, h.2.1.kept hb, bt h.2.2 hb⟩
theorem Ks3.start (w : World) (wh : Int) (ba : Option Addr) (bl bc : Nat) (z : List Int) (a : Option Addr) (len cap : Nat) (s d : List Int) (hop n : Int) (is : Bool) (c : List Int) (inj : Bool) (ka : Option Addr) (kn kc : Nat) : Ks3 w wh ba bl bc z a len cap s d hop n is c inj ka kn kc ((w.alloc (.cells (stC3 wh ba bl bc z a len cap s d hop n is) 32)).alloc (.cells (cfC c inj ka kn kc) 26)) := by
  have b1 := al_below w (.cells (stC3 wh ba bl bc z a len cap s d hop n is) 32)
  have b2 := al_below (w.alloc (.cells (stC3 wh ba bl bc z a len cap s d hop n is) 32)) (.cells (cfC c inj ka kn kc) 26)
  have p2 := cf_new (w.alloc (.cells (stC3 wh ba bl bc z a len cap s d hop n is) 32)) c inj ka kn kc
  rw [World.size_alloc] at p2
  exact ⟨(st3_new w wh ba bl bc z a len cap s d hop n is).kept b2, p2, bt b1 b2⟩
attribute [local go_sem ↓] gload_shut hload_shut
set_option maxRecDepth 100000 in
set_option maxHeartbeats 4000000 in
theorem lsent_no (wh : Int) (ba : Option Addr) (bl bc : Nat) (z : List Int) (a : Option Addr) (len cap : Nat) (s d : List Int) (hop n : Int) (is : Bool) (c : List Int) (inj : Bool) (ka : Option Addr) (kn kc : Nat) (bv : Value) (w : World) (h5 : (wh == 5) = false) (hm : len ≤ maxLen) (hc : ¬ (sf z len = 0 ∧ Ok6 s ∧ Ok6 d ∧ 0 ≤ hop ∧ hop ≤ 255)) :
    Calls Tryz.prog 15 #[.agg (stC3 wh ba bl bc z a len cap s d hop n is), .agg (cfC c inj ka kn kc), bv] w fun e w' => e = .returned (.slice none 0 0) ∧ Below w.heap.size w w' := by
  have HF := hide (fun W => rfault_any z a len cap W hm)
  have HK := hide (Ks3.start w wh ba bl bc z a len cap s d hop n is c inj ka kn kc)
  have HZ7 := hide (fun W => zero_new W)
  unfold zero7 at HZ7
  have hcase : (sf z len != 0) = true ∨ ((sf z len != 0) = false ∧ ¬ Ok6 s) ∨ ((sf z len != 0) = false ∧ Ok6 s ∧ ¬ Ok6 d) ∨ ((sf z len != 0) = false ∧ Ok6 s ∧ Ok6 d ∧ hop < 0) ∨ ((sf z len != 0) = false ∧ Ok6 s ∧ Ok6 d ∧ ¬ hop < 0 ∧ 255 < hop) := by
    by_cases c1 : sf z len = 0
    · refine .inr ?_
      have c1' : (sf z len != 0) = false := by simp [c1]
      by_cases c2 : Ok6 s
      · by_cases c3 : Ok6 d
        · by_cases c4 : hop < 0
          · exact .inr (.inr (.inl ⟨c1', c2, c3, c4⟩))
          · refine .inr (.inr (.inr ⟨c1', c2, c3, c4, ?_⟩))
            have : ¬ (0 ≤ hop ∧ hop ≤ 255) := fun h => hc ⟨c1, c2, c3, h⟩
            omega
        · exact .inr (.inl ⟨c1', c2, c3⟩)
      · exact .inl ⟨c1', c2⟩
    · exact .inl (by simpa using c1)
  have HS := hide (fun W => six_any s W)
  have HD := hide (fun W => six_any d W)
  have h1 : Ok6 s → fe (s6 s) = 0 := fun h => by rw [(s6_iff s).2 h]; rfl
  have h2 : Ok6 d → fe (s6 d) = 0 := fun h => by rw [(s6_iff d).2 h]; rfl
  have h3 : ¬ Ok6 s → fe (s6 s) = 1 := fun h => by cases e : s6 s; rfl; exact absurd ((s6_iff s).1 e) h
  have h4 : ¬ Ok6 d → fe (s6 d) = 1 := fun h => by cases e : s6 d; rfl; exact absurd ((s6_iff d).1 e) h
  generalize sf z len = R at HF hcase
  clear hc hm
  rcases hcase with c1 | ⟨c1, c2⟩ | ⟨c1, c2, c3⟩ | ⟨c1, c2, c3, c4⟩ | ⟨c1, c2, c3, c4, c5⟩
  case' inr.inl => rw [h3 c2] at HS; clear c2
  case' inr.inr.inl => rw [h1 c2] at HS; rw [h4 c3] at HD; clear c2 c3
  case' inr.inr.inr.inl => rw [h1 c2] at HS; rw [h2 c3] at HD; clear c2 c3
  case' inr.inr.inr.inr => rw [h1 c2] at HS; rw [h2 c3] at HD; clear c2 c3
  all_goals
    clear h1 h2 h3 h4
    go_enter Tryz.func15, Tryz.ntmps15
    go_upto_region 1 with fail
    generalize (World.alloc _ _).alloc _ = W0 at HK ⊢
    have q0 := HK.out.1.what
    have q2 := HK.out.1.gl
    have HZs := hide (HZ7.out W0)
    go_upto_region 17 with (refine at_store rfl (.tmp 7) (.tmp 10) rfl rfl HZs.out z a len cap rfl ?_; intro w3 p3 on3; have HS3 := hide p3; replace HK := hide (HK.out.kept (new_below _ on3)); clear p3 on3 q0 q2; have q0 := HK.out.1.what)
    clear q0 HZs
    have q3 := HS3.out.gl
    have q4 := HK.out.1.hop
    go_wp2_with (first
      | (go_at_call 51; (with_reducible refine (HF.out _).mono ?_); rintro e w4 ⟨rfl, hb4⟩; replace HK := hide (HK.out.kept hb4); clear hb4 q3 q4; have q3 := HK.out.1.hs; have q4 := HK.out.1.hop)
      | (go_at_call 52; (with_reducible refine (HS.out _).mono ?_); rintro e w5 ⟨rfl, hb5⟩; replace HK := hide (HK.out.kept hb5); clear hb5 q3 q4; have q3 := HK.out.1.hd; have q4 := HK.out.1.hop)
      | (go_at_call 52; (with_reducible refine (HD.out _).mono ?_); rintro e w6 ⟨rfl, hb6⟩; replace HK := hide (HK.out.kept hb6); clear hb6 q3 q4; have q4 := HK.out.1.hop))
    go_ret
    exact ⟨rfl, HK.out.2.2⟩
end Go.Proofs.YtkhahbghmdccaaaGreat

namespace Go.Proofs.YtkhahbghmdccaaaGreat
open Go.RowKit
attribute [local go_sem ↓] gload_shut hload_shut
set_option maxRecDepth 100000 in
set_option maxHeartbeats 4000000 in
theorem lsent_ok (wh : Int) (ba : Option Addr) (bl bc : Nat) (z : List Int) (a : Option Addr) (cap : Nat) (s d : List Int) (hop n : Int) (is : Bool) (c : List Int) (inj : Bool) (ka : Option Addr) (kn kc : Nat) (bv : Value) (D : List Int) (w : World) (h5 : (wh == 5) = false) (hz : Okg z D.length) (hs : Ok6 s) (hd : Ok6 d) (ht : up 255 hop = true) (hr : Row8 w a D.length cap D) :
    Calls Tryz.prog 15 #[.agg (stC3 wh ba bl bc z a D.length cap s d hop n is), .agg (cfC c inj ka kn kc), bv] w fun e w' => ∃ v, e = .returned v ∧ Own w.heap.size w' v (p6o s d hop z D) ∧ Below w.heap.size w w' := by
  have HF := hide (fun W => rfault_any z a D.length cap W (by have := hz.2.2.1; unfold maxLen; omega))
  rw [(sf_iff _ _).2 hz] at HF
  have HK := hide (Ks3.start w wh ba bl bc z a D.length cap s d hop n is c inj ka kn kc)
  have HR := hide (hr.below HK.out.2.2)
  have HZ7 := hide (fun W => zero_new W)
  unfold zero7 at HZ7
  have HS := hide (fun W => six_any s W)
  have HD := hide (fun W => six_any d W)
  rw [(s6_iff s).2 hs] at HS
  rw [(s6_iff d).2 hd] at HD
  obtain ⟨k, N, E, hPk, hEn⟩ := pk6_bundle hs hd ht hz
  have HPk := hide hPk
  have HEn := hide hEn
  have h4 := up_true ht
  have h4a : ¬ hop < 0 := by omega
  have h4b : ¬ 255 < hop := by omega
  generalize p6o s d hop z D = Y at HEn ⊢
  clear hPk hEn hz hs hd ht hr h4
  unfold fe at HS HD
  go_enter Tryz.func15, Tryz.ntmps15
  go_upto_region 1 with fail
  generalize (World.alloc _ _).alloc _ = W0 at HK HR ⊢
  have q0 := HK.out.1.what
  have q2 := HK.out.1.gl
  have HZs := hide (HZ7.out W0)
  go_upto_region 17 with (refine at_store rfl (.tmp 7) (.tmp 10) rfl rfl HZs.out z a D.length cap rfl ?_; intro w3 p3 on3; have HS3 := hide p3; replace HK := hide (HK.out.kept (new_below _ on3)); replace HR := hide (HR.out.below (new_below _ on3)); clear p3 on3 q0 q2; have q0 := HK.out.1.what)
  clear q0 HZs
  have q3 := HS3.out.gl
  have q4 := HK.out.1.hop
  go_upto_region 19 with (first
    | (go_at_call 51; (with_reducible refine (HF.out _).mono ?_); rintro e w4 ⟨rfl, hb4⟩; replace HK := hide (HK.out.kept hb4); replace HS3 := hide (HS3.out.kept hb4); replace HR := hide (HR.out.below hb4); clear hb4 q3 q4; have q3 := HK.out.1.hs; have q4 := HK.out.1.hop)
    | (go_at_call 52; (with_reducible refine (HS.out _).mono ?_); rintro e w5 ⟨rfl, hb5⟩; replace HK := hide (HK.out.kept hb5); replace HS3 := hide (HS3.out.kept hb5); replace HR := hide (HR.out.below hb5); clear hb5 q3 q4; have q3 := HK.out.1.hd; have q4 := HK.out.1.hop)
    | (go_at_call 52; (with_reducible refine (HD.out _).mono ?_); rintro e w6 ⟨rfl, hb6⟩; replace HK := hide (HK.out.kept hb6); replace HS3 := hide (HS3.out.kept hb6); replace HR := hide (HR.out.below hb6); clear hb6 q3 q4; have q4 := HK.out.1.hop))
  clear q4
  have q3 := HS3.out.gl
  have q4 := HK.out.1.hop
  have q5 := HK.out.1.hs
  have q6 := HK.out.1.hd
  go_wp2_with (first
    | (go_at_call 28; refine (HPk.out _ _ _ HR.out).mono ?_; rintro e w7 ⟨a7, c7, rfl, r7, hb7⟩; have HB := hide (bt HK.out.2.2 hb7); have HR7 := hide r7; clear hb7 r7 q3 q4 q5 q6)
    | (go_at_call 46; refine (HEn.out _ _ _ HR7.out).mono ?_; rintro e w8 ⟨v8, rfl, o8, hb8⟩; have HO := hide (o8.mono HB.out.size); replace HB := hide (bt HB.out hb8); clear hb8 o8))
  go_ret
  exact ⟨_, rfl, HO.out, HB.out⟩
theorem lsent_any (wh : Int) (ba : Option Addr) (bl bc : Nat) (z : List Int) (a : Option Addr) (len cap : Nat) (s d : List Int) (hop n : Int) (is : Bool) (c : List Int) (inj : Bool) (ka : Option Addr) (kn kc : Nat) (bv : Value) (D : List Int) (w : World) (h5 : (wh == 5) = false) (hr : Row8 w a len cap D) :
    (∀ W, Below w.heap.size w W → Calls Tryz.prog 15 #[.agg (stC3 wh ba bl bc z a len cap s d hop n is), .agg (cfC c inj ka kn kc), bv] W fun e w' => e = .returned (.slice none 0 0) ∧ Below W.heap.size W w') ∨
    (Ok6 s ∧ Ok6 d ∧ up 255 hop = true ∧ Okg z D.length ∧ ∀ W, Below w.heap.size w W → Calls Tryz.prog 15 #[.agg (stC3 wh ba bl bc z a len cap s d hop n is), .agg (cfC c inj ka kn kc), bv] W fun e w' => ∃ v, e = .returned v ∧ Own W.heap.size w' v (p6o s d hop z D) ∧ Below W.heap.size W w') := by
  obtain rfl : D.length = len := hr.1
  by_cases hc : sf z D.length = 0 ∧ Ok6 s ∧ Ok6 d ∧ 0 ≤ hop ∧ hop ≤ 255
  · have hz := (sf_iff _ _).1 hc.1
    have ht : up 255 hop = true := decide_eq_true hc.2.2.2
    exact .inr ⟨hc.2.1, hc.2.2.1, ht, hz, fun W hW => lsent_ok wh ba bl bc z a cap s d hop n is c inj ka kn kc bv D W h5 hz hc.2.1 hc.2.2.1 ht (hr.below hW)⟩
  · exact .inl fun W hW => lsent_no wh ba bl bc z a D.length cap s d hop n is c inj ka kn kc bv W h5 hr.2.1 hc
theorem g6_nil (g : GS) : g6 g [] = (5, [], g) := by
  unfold g6
  exact if_pos (by simp)
end Go.Proofs.YtkhahbghmdccaaaGreat

namespace Go.Proofs.YtkhahbghmdccaaaGreat
open Go.RowKit
attribute [local go_sem ↓] fload_shut
def Kfs (w : World) (c : List Int) (inj : Bool) (ka : Option Addr) (bk : List (List Int)) (kc : Nat) (wh : Int) (ba : Option Addr) (bl bc : Nat) (z : List Int) (a : Option Addr) (len cap : Nat) (s d : List Int) (hop n : Int) (is : Bool) (W : World) : Prop := CfIn w.heap.size c inj ka bk.length kc W ∧ StIn3 (w.heap.size + 1) wh ba bl bc z a len cap s d hop n is W ∧ Below w.heap.size w W
theorem Kfs.kept {w : World} {c : List Int} {inj : Bool} {ka : Option Addr} {bk : List (List Int)} {kc : Nat} {wh : Int} {ba : Option Addr} {bl bc : Nat} {z : List Int} {a : Option Addr} {len cap : Nat} {s d : List Int} {hop n : Int} {is : Bool} {W W' : World} (h : Kfs w c inj ka bk kc wh ba bl bc z a len cap s d hop n is W) (hb : Below W.heap.size W W') : Kfs w c inj ka bk kc wh ba bl bc z a len cap s d hop n is W' := ⟨h.1.kept hb, h.2.1.kept hb, bt h.2.2 hb⟩
theorem Kfs.start (w : World) (c : List Int) (inj : Bool) (ka : Option Addr) (bk : List (List Int)) (kc : Nat) (wh : Int) (ba : Option Addr) (bl bc : Nat) (z : List Int) (a : Option Addr) (len cap : Nat) (s d : List Int) (hop n : Int) (is : Bool) : Kfs w c inj ka bk kc wh ba bl bc z a len cap s d hop n is ((w.alloc (.cells (cfC c inj ka bk.length kc) 26)).alloc (.cells (stC3 wh ba bl bc z a len cap s d hop n is) 32)) := by
  have b1 := al_below w (.cells (cfC c inj ka bk.length kc) 26)
  have b2 := al_below (w.alloc (.cells (cfC c inj ka bk.length kc) 26)) (.cells (stC3 wh ba bl bc z a len cap s d hop n is) 32)
  have p2 := st3_new (w.alloc (.cells (cfC c inj ka bk.length kc) 26)) wh ba bl bc z a len cap s d hop n is
  rw [World.size_alloc] at p2
  exact ⟨(cf_new w c inj ka bk.length kc).kept b2, p2, bt b1 b2⟩
theorem lsent_row (z : List Int) (a : Option Addr) (len cap : Nat) (s d : List Int) (hop : Int) (c : List Int) (inj : Bool) (ka : Option Addr) (kn kc : Nat) (D : List Int) (w : World) (hr : Row8 w a len cap D) : ∃ zs : List Int, (zs = [] ∨ (Ok6 s ∧ Ok6 d ∧ up 255 hop = true ∧ Okg z D.length ∧ zs = p6o s d hop z D)) ∧
    ∀ W, Below w.heap.size w W → Calls Tryz.prog 15 #[.agg (stC3 9 none 0 0 z a len cap s d hop 0 false), .agg (cfC c inj ka kn kc), .slice none 0 0] W fun e w' => ∃ b l k, e = .returned (.slice b l k) ∧ (Row8 w' b l k zs ∧ l ≤ k ∧ k ≤ maxLen) ∧ Below W.heap.size W w' := by
  rcases lsent_any 9 none 0 0 z a len cap s d hop 0 false c inj ka kn kc (.slice none 0 0) D w (by decide) hr with h | ⟨hs, hd, ht, hz, h⟩
  · exact ⟨[], .inl rfl, fun W hW => (h W hW).mono fun e w' ⟨e1, e2⟩ => ⟨none, 0, 0, e1, ⟨gt_no _, Nat.le_refl _, Nat.zero_le _⟩, e2⟩⟩
  · refine ⟨_, .inr ⟨hs, hd, ht, hz, rfl⟩, fun W hW => (h W hW).mono fun e w' ⟨v, e1, o, e2⟩ => ?_⟩
    obtain ⟨g, k, rfl, k1, k2, _, _, r⟩ := o.form p6o_len
    exact ⟨_, _, k, e1, ⟨r, k1, k2⟩, e2⟩
attribute [local go_sem ↓] gload_shut hload_shut cload_shut sbu_shut bload_shut
end Go.Proofs.YtkhahbghmdccaaaGreat

namespace Go.Proofs.YtkhahbghmdccaaaGreat
open Go.ChangeShapes Go.WideShapes Go.Deep Go.RowKit
theorem Tryz.step3F : (Tryz.prog.underlying 32).map (fun d => match d with | .struct fs => fs.toList.map (fun f => (f.offset, f.type)) | _ => []) = some [(0, 3), (1, 28), (2, 30), (10, 23), (18, 23), (26, 3), (27, 3), (28, 4)] := by kernel_rfl
theorem part_at {cs : List Value} {o n j : Nat} (h : j < n) : ((cs.drop o).take n)[j]? = cs[o + j]? := by
  rw [List.getElem?_take_of_lt h, List.getElem?_drop]
set_option maxRecDepth 100000 in
theorem step_of {H : Type} {enc : TypeId × Value → H} {W : World} {base : Nat} {held : Bool} {n : Nat} {cs : List Value} {y : DataW H × List MemPlace} (h : DataW.trod enc Tryz.prog W base (fun _ => true) held n 32 cs = some y) :
    ∃ wh ba bl bc bs z a len cap D s d hop m is, cs = (stC3 wh ba bl bc z a len cap s d hop m is).toList ∧ IsRow .u8 W ba bl bc bs ∧ Row8 W a len cap D := by
  have hu := Tryz.underlying32
  obtain ⟨xs, m, _, _, hl, hx, hall⟩ := DataW.trod_struct hu h
  have hF := Tryz.step3F
  rw [hu] at hF
  replace hF := Option.some.inj hF
  have c1 : Tryz.prog.cellsOf 3 = 1 := by kernel_rfl
  have cb : Tryz.prog.cellsOf 28 = 1 := by kernel_rfl
  have c8 : Tryz.prog.cellsOf 30 = 8 := by kernel_rfl
  have c6 : Tryz.prog.cellsOf 23 = 8 := by kernel_rfl
  have cl : Tryz.prog.cellsOf 4 = 1 := by kernel_rfl
  have c29 : Tryz.prog.cellsOf 32 = 29 := by kernel_rfl
  rw [c29] at hl
  obtain ⟨y0, g0⟩ := sg_field (k := 0) hF hx hall _ _ rfl
  obtain ⟨y1, g1⟩ := sg_field (k := 1) hF hx hall _ _ rfl
  obtain ⟨y2, g2⟩ := sg_field (k := 2) hF hx hall _ _ rfl
  obtain ⟨y3, g3⟩ := sg_field (k := 3) hF hx hall _ _ rfl
  obtain ⟨y4, g4⟩ := sg_field (k := 4) hF hx hall _ _ rfl
  obtain ⟨y5, g5⟩ := sg_field (k := 5) hF hx hall _ _ rfl
  obtain ⟨y6, g6⟩ := sg_field (k := 6) hF hx hall _ _ rfl
  obtain ⟨y7, g7⟩ := sg_field (k := 7) hF hx hall _ _ rfl
  rw [c1] at g0 g5 g6
  rw [cb] at g1
  rw [c8] at g2
  rw [c6] at g3 g4
  rw [cl] at g7
  obtain ⟨x0, e0, _, _⟩ := DataW.trod_int Tryz.underlying3 g0
  obtain ⟨x5, e5, _, _⟩ := DataW.trod_int Tryz.underlying3 g5
  obtain ⟨x6, e6, _, _⟩ := DataW.trod_int Tryz.underlying3 g6
  obtain ⟨x7, e7, _⟩ := DataW.trod_bool Tryz.underlying4 g7
  obtain ⟨v1, e1⟩ := sg_cut (cs := cs) (o := 1) (by omega)
  rw [e1] at g1
  obtain ⟨ba, bl, bc, bs, rfl, hrow⟩ := field_bytes Tryz.underlying28 Tryz.underlying5 (by kernel_rfl) (fun _ => rfl) g1
  obtain ⟨z, a, len, cap, D, e2, hD⟩ := seg_of g2
  have hs := nums_six g3
  have hd := nums_six g4
  obtain ⟨s0, es0, _⟩ := hs.2 0 (by omega)
  rw [part_at (by omega)] at es0
  obtain ⟨s1, es1, _⟩ := hs.2 1 (by omega)
  rw [part_at (by omega)] at es1
  obtain ⟨s2, es2, _⟩ := hs.2 2 (by omega)
  rw [part_at (by omega)] at es2
  obtain ⟨s3, es3, _⟩ := hs.2 3 (by omega)
  rw [part_at (by omega)] at es3
  obtain ⟨s4, es4, _⟩ := hs.2 4 (by omega)
  rw [part_at (by omega)] at es4
  obtain ⟨s5, es5, _⟩ := hs.2 5 (by omega)
  rw [part_at (by omega)] at es5
  obtain ⟨s6, es6, _⟩ := hs.2 6 (by omega)
  rw [part_at (by omega)] at es6
  obtain ⟨s7, es7, _⟩ := hs.2 7 (by omega)
  rw [part_at (by omega)] at es7
  obtain ⟨d0, ed0, _⟩ := hd.2 0 (by omega)
  rw [part_at (by omega)] at ed0
  obtain ⟨d1, ed1, _⟩ := hd.2 1 (by omega)
  rw [part_at (by omega)] at ed1
  obtain ⟨d2, ed2, _⟩ := hd.2 2 (by omega)
  rw [part_at (by omega)] at ed2
  obtain ⟨d3, ed3, _⟩ := hd.2 3 (by omega)
  rw [part_at (by omega)] at ed3
  obtain ⟨d4, ed4, _⟩ := hd.2 4 (by omega)
  rw [part_at (by omega)] at ed4
  obtain ⟨d5, ed5, _⟩ := hd.2 5 (by omega)
  rw [part_at (by omega)] at ed5
  obtain ⟨d6, ed6, _⟩ := hd.2 6 (by omega)
  rw [part_at (by omega)] at ed6
  obtain ⟨d7, ed7, _⟩ := hd.2 7 (by omega)
  rw [part_at (by omega)] at ed7
  refine ⟨x0, ba, bl, bc, bs, z, a, len, cap, D, [s0, s1, s2, s3, s4, s5, s6, s7], [d0, d1, d2, d3, d4, d5, d6, d7], x5, x6, x7, List.ext_getElem? fun i => ?_, hrow, hD⟩
  by_cases hi : i < 29
  · rcases (by omega : i = 0 ∨ i = 1 ∨ i = 2 ∨ i = 3 ∨ i = 4 ∨ i = 5 ∨ i = 6 ∨ i = 7 ∨ i = 8 ∨ i = 9 ∨ i = 10 ∨ i = 11 ∨ i = 12 ∨ i = 13 ∨ i = 14 ∨ i = 15 ∨ i = 16 ∨ i = 17 ∨ i = 18 ∨ i = 19 ∨ i = 20 ∨ i = 21 ∨ i = 22 ∨ i = 23 ∨ i = 24 ∨ i = 25 ∨ i = 26 ∨ i = 27 ∨ i = 28) with rfl | rfl | rfl | rfl | rfl | rfl | rfl | rfl | rfl | rfl | rfl | rfl | rfl | rfl | rfl | rfl | rfl | rfl | rfl | rfl | rfl | rfl | rfl | rfl | rfl | rfl | rfl | rfl | rfl
    · exact sg_one e0
    · exact sg_one e1
    · have := congrArg (fun l => l[0]?) e2; rw [part_at (by omega)] at this; exact this
    · have := congrArg (fun l => l[1]?) e2; rw [part_at (by omega)] at this; exact this
    · have := congrArg (fun l => l[2]?) e2; rw [part_at (by omega)] at this; exact this
    · have := congrArg (fun l => l[3]?) e2; rw [part_at (by omega)] at this; exact this
    · have := congrArg (fun l => l[4]?) e2; rw [part_at (by omega)] at this; exact this
    · have := congrArg (fun l => l[5]?) e2; rw [part_at (by omega)] at this; exact this
    · have := congrArg (fun l => l[6]?) e2; rw [part_at (by omega)] at this; exact this
    · have := congrArg (fun l => l[7]?) e2; rw [part_at (by omega)] at this; exact this
    · exact es0
    · exact es1
    · exact es2
    · exact es3
    · exact es4
    · exact es5
    · exact es6
    · exact es7
    · exact ed0
    · exact ed1
    · exact ed2
    · exact ed3
    · exact ed4
    · exact ed5
    · exact ed6
    · exact ed7
    · exact sg_one e5
    · exact sg_one e6
    · exact sg_one e7
  · rw [List.getElem?_eq_none (by omega), List.getElem?_eq_none (by show 29 ≤ i; omega)]
set_option maxRecDepth 100000 in
theorem step_open {H : Type} {enc : TypeId × Value → H} {W : World} {base b0 : Nat} {held : Bool} {v : Value} {x : DataW H} {p : List MemPlace} (h : Value.okWide Tryz.prog W .any b0 32 v) (ht : DataW.Trod enc Tryz.prog W base (fun _ => true) held 32 v x p) :
    ∃ wh ba bl bc bs z a len cap D s d hop m is, v = .agg (stC3 wh ba bl bc z a len cap s d hop m is) ∧ IsRow .u8 W ba bl bc bs ∧ Row8 W a len cap D := by
  have hu := Tryz.underlying32
  unfold Value.okWide at h
  rw [hu] at h
  obtain ⟨cs, rfl, _⟩ := h
  obtain ⟨fuel, hf⟩ := ht
  obtain ⟨wh, ba, bl, bc, bs, z, a, len, cap, D, s, d, hop, m, is, e, h1, h2⟩ := step_of hf
  refine ⟨wh, ba, bl, bc, bs, z, a, len, cap, D, s, d, hop, m, is, ?_, h1, h2⟩
  have e' : cs.toList = (stC3 wh ba bl bc z a len cap s d hop m is).toList := e
  rw [Array.toList_inj.1 e']
end Go.Proofs.YtkhahbghmdccaaaGreat

namespace Go.Proofs.YtkhahbghmdccaaaGreat
open Go.RowKit
theorem rseg_eb (z D : List Int) (over : Int) (n : Nat) (a : Option Addr) (cap : Nat) (w : World) (hz : Okg z D.length) (ho : up 65535 over = true) (hn0 : n = hn (el z 0) + D.length) (hr : Row8 w a n cap (eb z over D)) (hcl : n ≤ cap) (hcm : cap ≤ maxLen) :
    Calls Tryz.prog 64 #[.int .i64 (el z 0), .slice a n cap, .int .i64 over] w fun r W' => ∃ a1 l1 c1, r = .returned (.tuple #[.agg (sgC z a1 l1 c1), .int .i64 0]) ∧ Row8 W' a1 l1 c1 D ∧ Below w.heap.size w W' := by
  have hl := hr.1
  have hoct := hr.2.2.1
  have h300 := hz.2.2.1
  have hp := hn_pos (el z 0)
  have h20 := hn_le (el z 0)
  obtain ⟨g, off, rfl, _⟩ := hr.2.2.2.2 (by omega)
  have hrd := fun j hj => rd_eb z over D hz j hj
  have hd := drop_eb z over D hz
  have he := eb_congr _ _ hrd over D
  have hsf : ∀ m, sf (rdz (el z 0) (eb z over D)) m = sf z m := sf_congr _ _ hrd
  have hsg := fun a l c => sgC_congr _ _ hrd a l c
  have hk := (kn_iff _).1 (okg_kn' hz)
  generalize hzs : eb z over D = zs at hr hl hoct hrd hd he hsf hsg
  rcases hk with h6 | h17
  · rw [h6] at hrd hd he hsf hsg ⊢
    have hH : hn (6 : Int) = 20 := rfl
    rw [hH] at hd
    have hn6 : n = 20 + D.length := by rw [hn0, h6, hH]
    have hok : Okg (rdz 6 zs) D.length := (sf_iff _ _).1 ((hsf _).trans ((sf_iff _ _).2 hz))
    have h13 := (okg_tcp zs hoct D.length h300).1 hok
    have hee : eb (rdz 6 zs) over (zs.drop 20) = zs := by rw [hd]; exact he
    have hlike := (tcp_like zs over hoct (by omega) (by omega) h13).1 (by rw [hee]; exact ⟨rfl, rfl⟩)
    have hsame := (tcp_same zs over hoct (by omega) (by omega) ho hlike).1 hee
    refine (rseg_tcp_ok over g off n cap zs w hr ho (by omega) (by omega) hcl hcm hlike true ⟨fun _ => rfl, fun _ => hsame⟩).mono ?_
    rintro e w' ⟨⟨h1, _⟩ | ⟨_, a', c', h1, h3⟩, h2⟩
    · cases h1
    · rw [hd] at h3
      exact ⟨a', _, c', by rw [h1, hsg], h3, h2⟩
  · rw [h17] at hrd hd he hsf hsg ⊢
    have hH : hn (17 : Int) = 8 := rfl
    rw [hH] at hd
    have hn17 : n = 8 + D.length := by rw [hn0, h17, hH]
    have hee : eb (rdz 17 zs) over (zs.drop 8) = zs := by rw [hd]; exact he
    have hlike := (udp_like zs over hoct (by omega) (by omega)).1 (by rw [hee]; exact ⟨rfl, rfl⟩)
    have hsame := (udp_same zs over hoct (by omega) (by omega) ho hlike).1 hee
    rw [hl] at hlike
    refine (rseg_udp_ok over g off n cap zs w hr ho (by omega) (by omega) hcl hcm hlike true ⟨fun _ => rfl, fun _ => hsame⟩).mono ?_
    rintro e w' ⟨⟨h1, _⟩ | ⟨_, a', c', h1, h3⟩, h2⟩
    · cases h1
    · rw [hd] at h3
      exact ⟨a', _, c', by rw [h1, hsg], h3, h2⟩
theorem seg4_eb (z D : List Int) (s d t i : Int) (n : Nat) (a : Option Addr) (cap : Nat) (w : World) (hz : Okg z D.length) (ho : V4.Okp s d t (el z 0) i) (hn0 : n = hn (el z 0) + D.length) (hr : Row8 w a n cap (eb z (o4 s d (el z 0) n) D)) (hcl : n ≤ cap) (hcm : cap ≤ maxLen) :
    Calls Tryz.prog 18 #[V4.pk s d t (el z 0) i a n cap] w fun r W' => ∃ a1 l1 c1, r = .returned (.tuple #[.agg (sgC z a1 l1 c1), .int .i64 0]) ∧ Row8 W' a1 l1 c1 D ∧ Below w.heap.size w W' :=
  seg4_any s d t (el z 0) i a n cap w (okg_kn' hz) ho (by have := hn_le (el z 0); have := hz.2.2.1; omega) z D 0 (fun W hW => rseg_eb z D _ n a cap W hz (o4_in _ _ _ _) hn0 (hr.below hW) hcl hcm)
theorem seg6_eb (z D : List Int) (s d : List Int) (t : Int) (n : Nat) (a : Option Addr) (cap : Nat) (w : World) (hz : Okg z D.length) (ho : V6.Okp s d t (el z 0)) (hn0 : n = hn (el z 0) + D.length) (hr : Row8 w a n cap (eb z (o6 s d (el z 0) n) D)) (hcl : n ≤ cap) (hcm : cap ≤ maxLen) :
    Calls Tryz.prog 23 #[V6.pk s d t (el z 0) a n cap] w fun r W' => ∃ a1 l1 c1, r = .returned (.tuple #[.agg (sgC z a1 l1 c1), .int .i64 0]) ∧ Row8 W' a1 l1 c1 D ∧ Below w.heap.size w W' :=
  seg6_any s d t (el z 0) a n cap w (okg_kn' hz) ho (by have := hn_le (el z 0); have := hz.2.2.1; omega) z D 0 (fun W hW => rseg_eb z D _ n a cap W hz (o6_in _ _ _ _ ho.1 ho.2.1) hn0 (hr.below hW) hcl hcm)
end Go.Proofs.YtkhahbghmdccaaaGreat

namespace Go.Proofs.YtkhahbghmdccaaaGreat
open Go.RowKit
def OKs (bs : List (List Int)) : Prop := bs.length ≤ 8 ∧ (∀ b ∈ bs, okb b = true) ∧ bs.Pairwise (fun a b => el a 0 ≠ el b 0)
theorem oks_of {bs : List (List Int)} (h : (bf bs).2 = 0) : OKs bs := by
  obtain ⟨h8, hx⟩ := bf_ok h
  refine ⟨h8, fun b hb => ?_, List.pairwise_iff_getElem.2 fun i j hi hj hij => ?_⟩
  · obtain ⟨i, hi, rfl⟩ := List.mem_iff_getElem.1 hb
    have := (hx i hi).1
    rwa [getD_at hi] at this
  · have := (hx j hj).2
    unfold sid at this
    rw [List.any_eq_false] at this
    have h1 := this i (List.mem_range.2 hij)
    rw [getD_at hi, getD_at hj] at h1
    simpa using h1
theorem oks_bf {bs : List (List Int)} (h : OKs bs) : (bf bs).2 = 0 := by
  rw [bf_none (by have := h.1; omega) fun j hj => ?_]
  have h1 : okb (bs.getD j []) = true := by rw [getD_at hj]; exact h.2.1 _ (List.getElem_mem hj)
  have h2 : sid bs j = false := by
    unfold sid
    rw [List.any_eq_false]
    intro i hi
    have hij := List.mem_range.1 hi
    have := List.pairwise_iff_getElem.1 h.2.2 i j (by omega) hj hij
    rw [getD_at (by omega), getD_at hj]
    simpa using this
  unfold flt
  rw [h1, h2]
  rfl
end Go.Proofs.YtkhahbghmdccaaaGreat
