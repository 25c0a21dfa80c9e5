/- Package gangplanktop: one, by a contract. Who is picked: the best of all, whatever their order, and with one of them gone. Two gates side by side. TopMoves, whatever comes. What holds of a gate behind Tick, Probe and Drain; calls on a gate. A step played on a gate. A step played on a gate: what holds of it goes on to hold. GateRefuses: binds in a row of their own; what an error tells; what is kept. -/
import Derived.Test.YtkhahbghmdccaaaGreatDoorF08
import Derived.Test.YtkhahbghmdccaaaGreatDoorF42
import Derived.Test.YtkhahbghmdccaaaGreatDoorF44
import Derived.Test.YtkhahbghmdccaaaGreatDoorF45
import Derived.Below
import Derived.OpenShut
import Derived.Test.YtkhahbghmdccaaaGreatDoorProg
import Derived.WalkKit
import Derived.LaidEql
import Derived.BigQuiet
import Derived.Laws.AppendOwnNone
import Derived.Laws.MakeOwn
import Derived.Deep.RegionLaw
import Derived.Lib.Bytes
import Derived.Deep.MidRow
import Derived.Laws.ResultCell
import Derived.Deep.CutBlock
import Derived.Deep.QuietTactic
import Derived.OwnWalk
import Derived.Deep.RegionHeld3
import Derived.Deep.DrawnRows
import Derived.Laws.StructEq
import Derived.Maps.AppendAt
import Derived.Maps.RangeWalk
import Derived.Stop.Asserts
import Derived.RowKitTokens
import Derived.Test.YtkhahbghmdccaaaGreatDoorShelf
import Derived.Shelf.Abstract
import Derived.Lib.SliceRun
import Derived.Lib.AppendZerosOnto
import Derived.Lib.AppendZeros
import Derived.Laws.CopyOwn
import Derived.RangeFuncNested
import Derived.RangeFuncBound
import Derived.RangeFuncCalls
import Derived.RangeFuncLeaves
import Derived.RangeFuncFrom
import Derived.Shelf.RegionOpen
import Derived.OwnWalkIn
import Derived.TacticsInMore
import Derived.LoopNIn
import Derived.LoopIn
import Derived.Deep.RegionWith
import Derived.ArgAppend
import Derived.Lib.SlBytesConst
import Derived.Lib.AppendStr
import Derived.Test.YtkhahbghmdccaaaGreatDoorF24
import Derived.Deep.Slices
import Derived.ChangeArms
import Derived.WideShapes
import Derived.Test.YtkhahbghmdccaaaGreatDoorF22
import Derived.Deep.Fields
import Derived.ChangeSlices
namespace Go.Proofs.YtkhahbghmdccaaaGreatDoor
open Go.RowKit
theorem row_hi (w : World) : Row8 (w.alloc (.cells #[.int .u8 104, .int .u8 105] 5 (2, 3))) (some ⟨w.heap.size, 0, none⟩) 2 2 [104, 105] := by
  refine ⟨rfl, by simp [maxLen], oct_hi, fun h => (by cases h), fun _ => ⟨_, 0, rfl, fun i hi => ?_⟩⟩
  rcases (by omega : i = 0 ∨ i = 1) with rfl | rfl
  · exact cell_of_row _ _ 0 _ _ _ (heap_alloc_new w _)
  · exact cell_of_row _ _ 1 _ _ _ (heap_alloc_new w _)
theorem p4o_len {s d t : Int} {z D : List Int} : 0 < (p4o s d t z D).length := by
  unfold p4o V4.bys
  rw [List.length_append, show ∀ s d t k i n c, (P4.hd s d t k i n c).length = 20 from fun _ _ _ _ _ _ _ => rfl]
  omega
theorem p6o_len {s d : List Int} {t : Int} {z D : List Int} : 0 < (p6o s d t z D).length := bys_pos _ _ _ _ _
def OG (w : World) (G : Nat) (a : Option Addr) (cap : Nat) (tv : Value) (S : Nat) (Ot : Nat → Prop) (β : Int → Nat) (g : GS) (W : World) : Prop := GC G a cap tv S Ot β g W ∧ (∀ k, GO G a Ot (SO S β g.ss) k → w.heap.size ≤ k) ∧ Below w.heap.size w W
theorem OG.kept {w : World} {G : Nat} {a : Option Addr} {cap : Nat} {tv : Value} {S : Nat} {Ot : Nat → Prop} {β : Int → Nat} {g : GS} {W W' : World} (h : OG w G a cap tv S Ot β g W) (hb : Below W.heap.size W W') : OG w G a cap tv S Ot β g W' := ⟨h.1.kept hb, h.2.1, bt h.2.2 hb⟩
theorem OG.step {w : World} {G : Nat} {a : Option Addr} {cap : Nat} {tv : Value} {S : Nat} {Ot : Nat → Prop} {β : Int → Nat} {g g' : GS} {W W' : World} (h : OG w G a cap tv S Ot β g W) (q : GQ W G a cap tv S Ot β g g' W') : ∃ Ot' β', OG w G a cap tv S Ot' β' g' W' := by
  obtain ⟨Ot', β', q1, q2, q3⟩ := q
  have hs := h.2.2.size
  exact ⟨Ot', β', q1, fun k hk => (q3 k hk).elim (h.2.1 k) (fun h => by omega), q2.below h.2.2 h.2.1 hs⟩
attribute [local go_sem ↓] hload_shut
set_option maxRecDepth 100000 in
set_option maxHeartbeats 4000000 in
theorem one_any (w : World) : Calls Tryz.prog 30 #[] w fun e w' => e = .returned (.bool true) ∧ Below w.heap.size w w' := by
  have HPl := hide (fun W => tplain_any W)
  have HN := hide (fun W B (hb : Bks (some ⟨B, 0, none⟩) bk0 W) => (show Calls Tryz.prog 8 #[.agg (cfC c0 true (some ⟨B, 0, none⟩) 1 1)] W fun e w' => NG W c0 true bk0 2 e w' from gnew_gc c0 true (some ⟨B, 0, none⟩) 1 bk0 2 W hb (by decide) (by decide) (fun h => by cases h) pf_c0 cko_c0 rfl (by decide) (by decide)))
  have HS := hide (fun W b (r : Row8 W (some ⟨b, 0, none⟩) 2 2 [104, 105]) => (show Calls Tryz.prog 32 #[.agg #[.int .i64 17, .int .i64 7, .int .i64 80, .int .i64 0, .int .i64 0, .int .i64 0, .int .i64 0, .slice (some ⟨b, 0, none⟩) 2 2], .agg #[.int .i64 3, .int .i64 0, .int .i64 0, .int .i64 0, .int .i64 0, .int .i64 0, .int .i64 0, .int .i64 0], .agg #[.int .i64 1, .int .i64 0, .int .i64 0, .int .i64 0, .int .i64 0, .int .i64 0, .int .i64 0, .int .i64 0], .int .i64 9] W fun e w' => ∃ v, e = .returned v ∧ Own W.heap.size w' v (p6o [3] [1] 9 zq6 [104, 105]) ∧ Below W.heap.size W w' from sent_ok zq6 _ 2 2 [104, 105] [3] [1] 9 W (ok_one 3 ⟨by decide, by decide⟩) (ok_one 1 ⟨by decide, by decide⟩) (by decide) okg_q6 r))
  have HI := hide (fun G a cap tv S Ot β W b l c (h : GC G a cap tv S Ot β (gz0 c0 true bk0 2) W) (r : Row8 W b l c (p6o [3] [1] 9 zq6 [104, 105])) (h1 : l ≤ c) (h2 : c ≤ maxLen) => (show Calls Tryz.prog 21 #[.pointer (some ⟨G, 0, none⟩), .slice b l c] W fun e w' => ∃ a2 l2 c2, e = .returned (.tuple #[.slice a2 l2 c2, .nilIface]) ∧ (Row8 w' a2 l2 c2 (p4o 9 5 8 [17, 1024, 8080, 0, 0, 0, 0] [104, 105]) ∧ l2 ≤ c2 ∧ c2 ≤ maxLen) ∧ GQ W G a cap tv S Ot β (gz0 c0 true bk0 2) G1 w' from by have := in6_any G a cap tv S Ot β _ b l c _ W h ig_c0.1 ig_c0.2.1 ig_c0.2.2 r h1 h2; rw [one_g6] at this; exact this))
  have HO := hide (fun W b l c (r : Row8 W b l c (p4o 9 5 8 [17, 1024, 8080, 0, 0, 0, 0] [104, 105])) (h1 : l ≤ c) (h2 : c ≤ maxLen) => (show Calls Tryz.prog 85 #[.slice b l c] W fun e w' => ∃ a1 l1 c1 a2 l2 c2, e = .returned (.tuple #[V4.pk 9 5 8 17 0 a1 l1 c1, .agg (sgC [17, 1024, 8080, 0, 0, 0, 0] a2 l2 c2), .bool true]) ∧ Row8 w' a2 l2 c2 [104, 105] ∧ Below W.heap.size W w' from opened_ok b l c 9 5 8 [17, 1024, 8080, 0, 0, 0, 0] [104, 105] W r h1 h2 (by decide) (by decide) (by decide) ⟨⟨by decide, by decide⟩, ⟨by decide, by decide⟩, by decide, .inr ⟨rfl, rfl, rfl, rfl, rfl⟩⟩))
  have HK := hide (fun W => (show Calls Tryz.prog 86 #[.agg #[.int .i64 17, .int .i64 8080, .int .i64 1024, .int .i64 0, .int .i64 0, .int .i64 0, .int .i64 0, .slice none 0 0], .int .i64 5, .int .i64 9, .int .i64 9] W fun e w' => ∃ v, e = .returned v ∧ Own W.heap.size w' v (p4o 5 9 9 zq4 []) ∧ Below W.heap.size W w' from bk_ok zq4 none 0 0 [] 5 9 9 W (by decide) (by decide) (by decide) okg_q4 (gt_no W)))
  have HI4 := hide (fun G a cap tv S Ot β W b l c (h : GC G a cap tv S Ot β G1 W) (r : Row8 W b l c (p4o 5 9 9 zq4 [])) (h1 : l ≤ c) (h2 : c ≤ maxLen) => (show Calls Tryz.prog 24 #[.pointer (some ⟨G, 0, none⟩), .slice b l c] W fun e w' => ∃ a2 l2 c2, e = .returned (.tuple #[.slice a2 l2 c2, .nilIface]) ∧ (Row8 w' a2 l2 c2 (p6o [1, 0, 0, 0, 0, 0, 0, 0] [3, 0, 0, 0, 0, 0, 0, 0] 8 [17, 80, 7, 0, 0, 0, 0] []) ∧ l2 ≤ c2 ∧ c2 ≤ maxLen) ∧ GQ W G a cap tv S Ot β G1 G1 w' from by have := in4_any G a cap tv S Ot β _ b l c _ W h ig_G1.1 ig_G1.2.1 r h1 h2; rw [one_g4] at this; exact this))
  have HO6 := hide (fun W b l c (r : Row8 W b l c (p6o [1, 0, 0, 0, 0, 0, 0, 0] [3, 0, 0, 0, 0, 0, 0, 0] 8 [17, 80, 7, 0, 0, 0, 0] [])) (h1 : l ≤ c) (h2 : c ≤ maxLen) => (show Calls Tryz.prog 87 #[.slice b l c] W fun e w' => ∃ a1 l1 c1 a2 l2 c2, e = .returned (.tuple #[.agg (V6.pkC [1, 0, 0, 0, 0, 0, 0, 0] [3, 0, 0, 0, 0, 0, 0, 0] 8 17 a1 l1 c1), .agg (sgC [17, 80, 7, 0, 0, 0, 0] a2 l2 c2), .bool true]) ∧ Row8 w' a2 l2 c2 [] ∧ Below W.heap.size W w' from opened6_ok b l c [1, 0, 0, 0, 0, 0, 0, 0] [3, 0, 0, 0, 0, 0, 0, 0] 8 [17, 80, 7, 0, 0, 0, 0] [] W r h1 h2 (fun j hj => by rcases (by omega : j = 0 ∨ j = 1 ∨ j = 2 ∨ j = 3 ∨ j = 4 ∨ j = 5 ∨ j = 6 ∨ j = 7) with rfl | rfl | rfl | rfl | rfl | rfl | rfl | rfl <;> exact ⟨by decide, by decide⟩) (fun j hj => by rcases (by omega : j = 0 ∨ j = 1 ∨ j = 2 ∨ j = 3 ∨ j = 4 ∨ j = 5 ∨ j = 6 ∨ j = 7) with rfl | rfl | rfl | rfl | rfl | rfl | rfl | rfl <;> exact ⟨by decide, by decide⟩) (by decide) ⟨⟨by decide, by decide⟩, ⟨by decide, by decide⟩, by decide, .inr ⟨rfl, rfl, rfl, rfl, rfl⟩⟩))
  have HL6 := hide (@p6o_len [3] [1] 9 zq6 [104, 105])
  have HL7 := hide (@p4o_len 5 9 9 zq4 [])
  have HZ4 := hide (fun W => R4.start W)
  have HZ6 := hide (fun W => V6.zero_new W)
  unfold V4.zero4 zero7 at HZ4
  unfold V6.zero6 at HZ6
  unfold V4.pk at HO
  generalize p6o [3] [1] 9 zq6 [104, 105] = Y6 at HS HI HL6
  generalize p4o 9 5 8 [17, 1024, 8080, 0, 0, 0, 0] [104, 105] = Y4 at HI HO
  generalize p4o 5 9 9 zq4 [] = Y7 at HK HI4 HL7
  generalize p6o [1, 0, 0, 0, 0, 0, 0, 0] [3, 0, 0, 0, 0, 0, 0, 0] 8 [17, 80, 7, 0, 0, 0, 0] [] = Y8 at HI4 HO6
  go_enter Tryz.func30, Tryz.ntmps30
  go_upto_region 4 with (first
    | (go_at_call 31; refine (HPl.out _).mono ?_; rintro e w1 ⟨B, rfl, b1, hb1⟩; have HBk := hide b1; have HB := hide hb1; clear b1 hb1)
    | (go_at_call 8; refine (HN.out _ B HBk.out).mono ?_; rintro e w2 ⟨G, a2, c2, tv, S, Ot, rfl, g2, o2, hb2⟩; have HG := hide (show OG w G a2 c2 tv S Ot (fun _ => 0) (gz0 c0 true bk0 2) w2 from ⟨g2, fun k hk => Nat.le_trans HB.out.size (o2 k hk), bt HB.out hb2⟩); clear g2 o2 hb2))
  clear HBk HB HN HPl
  have hcv := Lib.run_convert_bytes_const (P := Tryz.prog) w2 37 5 #[.int .u8 104, .int .u8 105] 2 2 Tryz.underlying37 Tryz.underlying5
  have HR := hide (row_hi w2)
  replace HG := hide (HG.out.kept (al_below w2 (.cells #[.int .u8 104, .int .u8 105] 5 (2, 3))))
  go_upto_region 7 with (first
    | (go_at_call 32; refine (HS.out _ _ HR.out).mono ?_; rintro e w4 ⟨v4, rfl, o4, hb4⟩; obtain ⟨g4, c4, rfl, k1, k2, -, -, r4⟩ := o4.form HL6.out; have HR4 := hide (And.intro r4 (And.intro k1 k2)); replace HG := hide (HG.out.kept hb4); clear o4 hb4 k1 k2 r4)
    | (go_at_call 21; refine (HI.out _ _ _ _ _ _ _ _ _ _ _ HG.out.1 HR4.out.1 HR4.out.2.1 HR4.out.2.2).mono ?_; rintro e w5 ⟨a5, l5, c5, rfl, r5, q5⟩; obtain ⟨Ot5, β5, g5⟩ := HG.out.step q5; have HG5 := hide g5; have HR5 := hide r5; clear r5 q5 g5))
  clear hcv HR HG HR4 HS HI
  go_upto_region 8 with (first
    | (go_at_call 85; refine (HO.out _ _ _ _ HR5.out.1 HR5.out.2.1 HR5.out.2.2).mono ?_; rintro e w6 ⟨a6, l6, c6, a7, l7, c7, rfl, r6, hb6⟩; have HZ := hide (HZ4.out w6); replace HG5 := hide (HG5.out.kept hb6); have HLw := hide (show w.heap.size ≤ w6.heap.size from HG5.out.2.2.size); have HLt := hide (show ∀ k, GO G a2 Ot5 (SO S β5 G1.ss) k → k < w6.heap.size from fun k hk => HG5.out.1.lt hk); clear r6 hb6)
    | (refine V4.at_store rfl (.tmp 4) (.tmp 31) rfl rfl HZ.out.1 9 5 8 17 0 a6 l6 c6 rfl ?_; intro w7 p7 on7; have HS7 := hide (on7.sg HZ.out.2.1 (by omega)); have HP7 := hide p7; have HB7 := hide (on7.below HZ.out.2.2 (Nat.le_refl _)); clear p7 on7)
    | (refine at_store rfl (.tmp 5) (.tmp 32) rfl rfl HS7.out [17, 1024, 8080, 0, 0, 0, 0] a7 l7 c7 rfl ?_; intro w8 p8 on8; have HP8 := hide (show V4.PkIn w6.heap.size 9 5 8 17 0 a6 l6 c6 w8 from (on8.2.2.2.2 _ (by omega)).trans HP7.out); have HS8 := hide p8; have HB8 := hide (on8.below HB7.out (Nat.le_succ _)); clear p8 on8))
  have q1 : w8.cell? ⟨w6.heap.size, 1, none⟩ = some (.int .i64 5) := HP8.out.all.2.1
  have q2 : w8.cell? ⟨w6.heap.size + 1, 1, none⟩ = some (.int .i64 1024) := HS8.out.c1
  have q3 : w8.cell? ⟨w6.heap.size + 1, 2, none⟩ = some (.int .i64 8080) := HS8.out.c2
  replace HG5 := hide (HG5.out.kept HB8.out)
  go_upto_region 10 with fail
  clear q1 q2 q3 HP8 HB8 HP7 HS7 HB7 HZ HO HR5
  go_upto_region 13 with (first
    | (go_at_call 86; refine (HK.out _).mono ?_; rintro e wa ⟨va, rfl, oa, hba⟩; obtain ⟨ga, ca, rfl, k1, k2, -, -, ra⟩ := oa.form HL7.out; have HRa := hide (And.intro ra (And.intro k1 k2)); replace HG5 := hide (HG5.out.kept hba); replace HS8 := hide (HS8.out.kept hba); clear oa hba k1 k2 ra)
    | (go_at_call 24; refine (HI4.out _ _ _ _ _ _ _ _ _ _ _ HG5.out.1 HRa.out.1 HRa.out.2.1 HRa.out.2.2).mono ?_; rintro e wb ⟨ab, lb, cb, rfl, rb, qb⟩; obtain ⟨Otb, βb, gb⟩ := HG5.out.step qb; have HGb := hide gb; have HRb := hide rb; have HSb := hide (show SgIn (w6.heap.size + 1) [17, 1024, 8080, 0, 0, 0, 0] a7 l7 c7 wb from by obtain ⟨_, _, _, kb, _⟩ := qb; exact (kb.1.2.2.2.2 _ HS8.out.lt (fun ho => by have := HLt.out _ ho; omega)).trans HS8.out); clear rb qb gb))
  clear HS8 HRa HG5 HK HI4 HLt
  go_upto_region 14 with (first
    | (go_at_call 87; refine (HO6.out _ _ _ _ HRb.out.1 HRb.out.2.1 HRb.out.2.2).mono ?_; rintro e wc ⟨ac, lc, cc, ad, ld, cd, rfl, rc, hbc⟩; have HZc := hide (HZ6.out wc); replace HGb := hide (HGb.out.kept hbc); replace HSb := hide (HSb.out.kept hbc); clear rc hbc)
    | (refine V6.at_store rfl (.tmp 7) (.tmp 63) rfl rfl HZc.out [1, 0, 0, 0, 0, 0, 0, 0] [3, 0, 0, 0, 0, 0, 0, 0] 8 17 ac lc cc rfl ?_; intro wd pd ond; have HSd := hide (HSb.out.kept (new_below _ ond)); have HPd := hide pd; have HBd := hide (bt HGb.out.2.2 (new_below _ ond)); have HLd := hide (show w6.heap.size + 1 < wc.heap.size from HSb.out.lt); clear pd ond)
    | (refine at_store rfl (.tmp 5) (.tmp 64) rfl rfl HSd.out [17, 80, 7, 0, 0, 0, 0] ad ld cd rfl ?_; intro we pe one; have HPe := hide (show V6.PkIn wc.heap.size [1, 0, 0, 0, 0, 0, 0, 0] [3, 0, 0, 0, 0, 0, 0, 0] 8 17 ac lc cc we from (one.2.2.2.2 _ (by have := HLd.out; omega)).trans HPd.out); have HSe := hide pe; have HBe := hide (one.below HBd.out (by have := HLw.out; omega)); clear pe one))
  have q1 : (hload (.pointer (some ⟨wc.heap.size, 0, none⟩))).run Tryz.prog we = .ok (.agg #[.int .i64 1, .int .i64 0, .int .i64 0, .int .i64 0, .int .i64 0, .int .i64 0, .int .i64 0, .int .i64 0]) we := HPe.out.hsrc
  have q2 : (hload (.pointer (some ⟨wc.heap.size, 8, none⟩))).run Tryz.prog we = .ok (.agg #[.int .i64 3, .int .i64 0, .int .i64 0, .int .i64 0, .int .i64 0, .int .i64 0, .int .i64 0, .int .i64 0]) we := HPe.out.hdst
  have q3 : we.cell? ⟨w6.heap.size + 1, 2, none⟩ = some (.int .i64 7) := HSe.out.c2
  have e1 : (Op.equalIn 10000 23 (.agg #[.int .i64 1, .int .i64 0, .int .i64 0, .int .i64 0, .int .i64 0, .int .i64 0, .int .i64 0, .int .i64 0]) (.agg #[.int .i64 1, .int .i64 0, .int .i64 0, .int .i64 0, .int .i64 0, .int .i64 0, .int .i64 0, .int .i64 0])).run Tryz.prog we = .ok true we := seq_run [1] [1] we
  have e3 : (Op.equalIn 10000 23 (.agg #[.int .i64 3, .int .i64 0, .int .i64 0, .int .i64 0, .int .i64 0, .int .i64 0, .int .i64 0, .int .i64 0]) (.agg #[.int .i64 3, .int .i64 0, .int .i64 0, .int .i64 0, .int .i64 0, .int .i64 0, .int .i64 0, .int .i64 0])).run Tryz.prog we = .ok true we := seq_run [3] [3] we
  go_wp2
  go_ret
  exact ⟨rfl, HBe.out⟩
end Go.Proofs.YtkhahbghmdccaaaGreatDoor

namespace Go.Proofs.YtkhahbghmdccaaaGreatDoor
open Go.RowKit
def OKs (bs : List (List Int)) : Prop := bs.length ≤ 8 ∧ (∀ b ∈ bs, okb b = true) ∧ bs.Pairwise (fun a b => el a 0 ≠ el b 0)
theorem oks_of {bs : List (List Int)} (h : (bf bs).2 = 0) : OKs bs := by
  obtain ⟨h8, hx⟩ := bf_ok h
  refine ⟨h8, fun b hb => ?_, List.pairwise_iff_getElem.2 fun i j hi hj hij => ?_⟩
  · obtain ⟨i, hi, rfl⟩ := List.mem_iff_getElem.1 hb
    have := (hx i hi).1
    rwa [getD_at hi] at this
  · have := (hx j hj).2
    unfold sid at this
    rw [List.any_eq_false] at this
    have h1 := this i (List.mem_range.2 hij)
    rw [getD_at hi, getD_at hj] at h1
    simpa using h1
end Go.Proofs.YtkhahbghmdccaaaGreatDoor

namespace Go.Proofs.YtkhahbghmdccaaaGreatDoor
open Go.RowKit
def GH (w : World) (G : Nat) (g : GS) (O : Nat → Prop) (W : World) : Prop := ∃ a cap tv S Ot β, O = GO G a Ot (SO S β g.ss) ∧ OG w G a cap tv S Ot β g W
theorem GH.kept {w : World} {G : Nat} {g : GS} {O : Nat → Prop} {W W' : World} (h : GH w G g O W) (hb : Below W.heap.size W W') : GH w G g O W' := by
  obtain ⟨a, cap, tv, S, Ot, β, e, h⟩ := h
  exact ⟨a, cap, tv, S, Ot, β, e, h.kept hb⟩
theorem GH.below {w : World} {G : Nat} {g : GS} {O : Nat → Prop} {W : World} (h : GH w G g O W) : Below w.heap.size w W := by
  obtain ⟨a, cap, tv, S, Ot, β, rfl, h⟩ := h
  exact h.2.2
def GN (w : World) (G : Nat) (g' : GS) (O : Nat → Prop) (W W' : World) : Prop := ∃ O', GH w G g' O' W' ∧ (∀ k, O' k → O k ∨ W.heap.size ≤ k) ∧ Kpt O W W'
theorem GH.call {w : World} {G : Nat} {g g' : GS} {O : Nat → Prop} {W : World} (h : GH w G g O W) {F : Nat} {xs : Array Value} {R : Ending → World → Prop}
    (hc : ∀ a cap tv S Ot β, GC G a cap tv S Ot β g W → Calls Tryz.prog F xs W fun e w' => R e w' ∧ GQ W G a cap tv S Ot β g g' w') :
    Calls Tryz.prog F xs W fun e w' => R e w' ∧ GN w G g' O W w' := by
  obtain ⟨a, cap, tv, S, Ot, β, rfl, h⟩ := h
  refine (hc a cap tv S Ot β h.1).mono ?_
  rintro e w' ⟨hR, Ot', β', q1, q2, q3⟩
  have hs := h.2.2.size
  exact ⟨hR, _, ⟨a, cap, tv, S, Ot', β', rfl, q1, fun k hk => (q3 k hk).elim (h.2.1 k) (fun h => by omega), q2.below h.2.2 h.2.1 hs⟩, q3, q2⟩
theorem NG.gh {w W w' : World} {c : List Int} {inj : Bool} {bk : List (List Int)} {m : Nat} {e : Ending} (h : NG W c inj bk m e w') (hb : Below w.heap.size w W) : ∃ G O, e = .returned (.tuple #[.pointer (some ⟨G, 0, none⟩), .nilIface]) ∧ GH w G (gz0 c inj bk m) O w' ∧ (∀ k, O k → W.heap.size ≤ k) ∧ Below W.heap.size W w' := by
  obtain ⟨G, a, cap, tv, S, Ot, e1, e2, e3, e4⟩ := h
  exact ⟨G, _, e1, ⟨a, cap, tv, S, Ot, _, rfl, e2, fun k hk => Nat.le_trans hb.size (e3 k hk), bt hb e4⟩, e3, e4⟩
end Go.Proofs.YtkhahbghmdccaaaGreatDoor

namespace Go.Proofs.YtkhahbghmdccaaaGreatDoor
open Go.RowKit
set_option linter.unusedVariables false
theorem in6_gh {g : GS} (hg : IG g) (zs : List Int) : ∀ w G O W b l k, GH w G g O W → Row8 W b l k zs → l ≤ k → k ≤ maxLen → Calls Tryz.prog 21 #[.pointer (some ⟨G, 0, none⟩), .slice b l k] W fun e w' => (∃ a2 l2 c2, e = .returned (.tuple #[.slice a2 l2 c2, ev (g6 g zs).1]) ∧ Row8 w' a2 l2 c2 (g6 g zs).2.1 ∧ l2 ≤ c2 ∧ c2 ≤ maxLen) ∧ GN w G (g6 g zs).2.2 O W w' :=
  fun w G O W b l k h r e1 e2 => h.call (R := fun e w' => ∃ a2 l2 c2, e = .returned (.tuple #[.slice a2 l2 c2, ev (g6 g zs).1]) ∧ Row8 w' a2 l2 c2 (g6 g zs).2.1 ∧ l2 ≤ c2 ∧ c2 ≤ maxLen) fun a cap tv S Ot β hG => (in6_any G a cap tv S Ot β g b l k zs W hG hg.1 hg.2.1 hg.2.2 r e1 e2).mono fun e w' ⟨a2, l2, c2, e3, e4, e5⟩ => ⟨⟨a2, l2, c2, e3, e4⟩, e5⟩
end Go.Proofs.YtkhahbghmdccaaaGreatDoor

namespace Go.Proofs.YtkhahbghmdccaaaGreatDoor
open Go.RowKit
set_option linter.unusedVariables false
theorem sgo_sub (gone : List (List Int)) : ∀ {ss : List (Int × List Int × Int × Bool × Bool)} {x : Int × List Int × Int × Bool × Bool}, x ∈ sgo gone ss → x ∈ ss := by
  unfold sgo
  induction gone with
  | nil => exact fun h => h
  | cons b r ih => exact fun h => (sdl_mem.1 (ih h)).1
theorem gtk_ig {g : GS} (h : IG g) (n : Int) : IG (gtk g n).2 := by
  unfold gtk
  split
  · rename_i hn
    obtain ⟨⟨t1, t2, t3, t4, t5⟩, hs, hc⟩ := h
    have he := t3.expire (g.now + n)
    refine ⟨⟨t1, Nat.le_trans he.2.1 t2, he.1, ?_, fun b hb => ?_⟩, fun x hx => hs x (sgo_sub _ hx), hc⟩
    · have ht := t4
      unfold tc at ht ⊢
      simp only [Bool.and_eq_true, decide_eq_true_eq] at ht ⊢
      show 0 ≤ g.now + n ∧ g.now + n ≤ _
      omega
    · have hb' : b ∈ (es (g.now + n) g.bs g.ts g.bs.length).2.1 := hb
      rw [(es_form (g.now + n) g.bs g.ts g.bs.length (Nat.le_refl _)).2.1, List.take_length] at hb'
      have := t5 b (List.mem_filter.1 hb').1
      show el b 22 ≤ g.now + n
      omega
  · exact h
theorem tick_gh {g : GS} (hg : IG g) (n : Int) : ∀ w G O W, GH w G g O W → Calls Tryz.prog 33 #[.pointer (some ⟨G, 0, none⟩), .int .i64 n] W fun e w' => e = .returned (ev (gtk g n).1) ∧ GN w G (gtk g n).2 O W w' :=
  fun w G O W h => h.call (R := fun e _ => e = .returned (ev (gtk g n).1)) fun a cap tv S Ot β hG => gtick_any G a cap tv S Ot β g n W hG hg.1
end Go.Proofs.YtkhahbghmdccaaaGreatDoor

namespace Go.Proofs.YtkhahbghmdccaaaGreatDoor
open Go.RowKit
set_option linter.unusedVariables false
def stl (x : Value) : Sem Value := Instr.loadAt 41 x
theorem stl_shut (x : Value) : Instr.loadAt 41 x = stl x := rfl
theorem GN.pre {w : World} {G : Nat} {g' : GS} {O : Nat → Prop} {W W1 W' : World} (h : GN w G g' O W1 W') (hb : Below W.heap.size W W1) : GN w G g' O W W' := by
  obtain ⟨O', h1, h2, h3⟩ := h
  have hs := hb.size
  exact ⟨O', h1, fun k hk => (h2 k hk).elim .inl (fun h => .inr (by omega)), Kpt.trans (Kpt.of hb) h3 (fun k hk => .inl hk)⟩
attribute [local go_sem ↓] stl_shut cload_shut
end Go.Proofs.YtkhahbghmdccaaaGreatDoor

namespace Go.Proofs.YtkhahbghmdccaaaGreatDoor
open Go.RowKit
set_option linter.unusedVariables false
theorem IG.len {g : GS} (h : IG g) : g.bk.length ≤ 8 := (oks_of h.2.2.2.2.2.2).1
end Go.Proofs.YtkhahbghmdccaaaGreatDoor

namespace Go.Proofs.YtkhahbghmdccaaaGreatDoor
open Go.RowKit
set_option linter.unusedVariables false
set_option maxRecDepth 100000 in
theorem all_new (v : Value) (m : Nat) (ws : Nat → List Int) (ts : Nat → Bool) (bs : List (List Int)) (O : Nat → Prop) (w : World) (hl : bs.length ≤ 128) (hb : BI m ws ts bs) (ht : TB v m ws ts bs O w) :
    Calls Tryz.prog 61 #[v] w fun r w' => ∃ b, r = .returned b ∧ BdRow w.heap.size w' b bs ∧ Below w.heap.size w w' := by
  obtain ⟨T, P, BB, F, N, ow, rfl, h, ha, rfl⟩ := ht
  have HT := hide (those_any T P F N bs 115 #[] (fun _ => true) w h.1 h.2.2.1 hl (enters_of Tryz.func115 (by kernel_rfl) rfl) (fun b _ W _ => yes_any b W))
  have HS := hide hb.2.1
  clear h ha hb hl
  go_enter Tryz.func61, Tryz.ntmps61
  go_wp2_with (go_at_call 114; refine HT.out.mono ?_; rintro e w' ⟨v, l, rfl, h1, h2, h3, h4⟩; have HE := hide (show BdRow w.heap.size w' v bs ∧ Below w.heap.size w w' by
    rw [show bs.filter (fun _ => true) = bs from List.filter_eq_self.2 (fun _ _ => rfl)] at h1
    have := sorted_one bs l h1 h2 HS.out
    subst this
    obtain ⟨a, cap, e1, e2⟩ := h3
    refine ⟨⟨a, cap, e1, fun hp => ?_⟩, h4⟩
    obtain ⟨g, off, q1, q2, q3⟩ := e2 hp
    exact ⟨g, off, q1, ⟨by omega, q2.2⟩, q3⟩); clear h1 h2 h3 h4)
  go_ret
  exact ⟨v, rfl, HE.out⟩
theorem binds_new {w : World} {G : Nat} {g : GS} {O : Nat → Prop} {W : World} (hi : IG g) (h : GH w G g O W) : Calls Tryz.prog 18 #[.pointer (some ⟨G, 0, none⟩)] W fun e w' => ∃ v, e = .returned v ∧ BdRow W.heap.size w' v g.bs ∧ Below W.heap.size W w' := by
  obtain ⟨a, cap, tv, S, Ot, β, rfl, h⟩ := h
  have y := h.1.1.table
  have HA := hide (all_new tv g.m g.ws g.ts g.bs Ot W hi.1.2.1 hi.1.2.2.1 h.1.2.2.1)
  clear h hi
  go_enter Tryz.func18, Tryz.ntmps18
  go_wp2_with (go_at_call 61; refine HA.out.mono ?_; rintro e w1 ⟨v1, rfl, hr1, hb1⟩; have HB := hide hb1; have HR := hide hr1; clear hb1 hr1)
  go_ret
  exact ⟨_, rfl, HR.out, HB.out⟩
theorem error_any (r k : Int) (w : World) (hg : Laid0 w) : Calls Tryz.prog 16 #[ev r, .int .i64 k] w fun e w' => e = .returned (.bool (r == k)) ∧ Below w.heap.size w w' := by
  by_cases hr : r = 0
  · subst hr
    rw [ev_nil]
    go_enter Tryz.func16, Tryz.ntmps16
    go_wp2_with (go_at_call 60; refine (told_nil _).mono ?_; rintro e w' ⟨rfl, rfl⟩)
    go_ret
    exact ⟨rfl, Below.refl _ _⟩
  · have hev : ev r = .iface 28 (.int .i64 r) := by unfold ev; rw [if_neg hr]; rfl
    rw [hev]
    clear hev
    go_enter Tryz.func16, Tryz.ntmps16
    go_wp2_with (go_at_call 60; refine (told_err r _ hg).mono ?_; rintro e w' ⟨rfl, hb⟩)
    go_ret
    exact ⟨rfl, hb⟩
end Go.Proofs.YtkhahbghmdccaaaGreatDoor
