/- Package gangplanktop: plain, by a contract. Package gangplanktop: the one known fact: a packet goes on, and back. Package gangplanktop: one, by a contract. An argument that is a config, opened. Package gangplanklaw3: a step, and what is sent by one, by contracts. What is sent by a step, whatever it is; the flow of a new bind. An argument that is a step of gangplanklaw3, opened. -/
import Derived.Test.YtkhahbghmdccaaaGreatS45
import Derived.Below
import Derived.OpenShut
import Derived.Test.YtkhahbghmdccaaaGreatProg
import Derived.WalkKit
import Derived.LaidEql
import Derived.BigQuiet
import Derived.Laws.AppendOwnNone
import Derived.Laws.MakeOwn
import Derived.Deep.RegionLaw
import Derived.Lib.Bytes
import Derived.Deep.MidRow
import Derived.Laws.ResultCell
import Derived.Deep.CutBlock
import Derived.Deep.QuietTactic
import Derived.OwnWalk
import Derived.Deep.RegionHeld3
import Derived.Deep.DrawnRows
import Derived.Laws.StructEq
import Derived.Maps.AppendAt
import Derived.Maps.RangeWalk
import Derived.Stop.Asserts
import Derived.RowKitTokens
import Derived.Test.YtkhahbghmdccaaaGreatShelf
import Derived.Shelf.Abstract
import Derived.Lib.SliceRun
import Derived.Lib.AppendZerosOnto
import Derived.Lib.AppendZeros
import Derived.Laws.CopyOwn
import Derived.RangeFuncNested
import Derived.RangeFuncBound
import Derived.RangeFuncCalls
import Derived.RangeFuncLeaves
import Derived.RangeFuncFrom
import Derived.Shelf.RegionOpen
import Derived.OwnWalkIn
import Derived.TacticsInMore
import Derived.LoopNIn
import Derived.LoopIn
import Derived.Deep.RegionWith
import Derived.ArgAppend
import Derived.Lib.SlBytesConst
import Derived.Lib.AppendStr
import Derived.Test.YtkhahbghmdccaaaGreatS46
import Derived.Test.YtkhahbghmdccaaaGreatS08
import Derived.Test.YtkhahbghmdccaaaGreatS43
import Derived.Test.YtkhahbghmdccaaaGreatS47
import Derived.Test.YtkhahbghmdccaaaGreatS35
import Derived.Deep.Slices
import Derived.ChangeArms
import Derived.WideShapes
import Derived.Test.YtkhahbghmdccaaaGreatS39
import Derived.Test.YtkhahbghmdccaaaGreatS41
import Derived.Deep.Fields
import Derived.ChangeSlices
namespace Go.Proofs.YtkhahbghmdccaaaGreat
open Go.RowKit
def c0 : List Int := [1, 0, 0, 0, 0, 0, 0, 0, 80, 2, 0, 0, 0, 0, 0, 0, 0, 32, 9, 0, 2]
def bk0 : List (List Int) := [[1, 5, 8080, 1, 1, 0]]
def cbu (ps : Array (Nat × Value)) : Sem Value := Instr.build 26 ps
theorem cbu_shut (ps : Array (Nat × Value)) : Instr.build 26 ps = cbu ps := rfl
theorem cbu_run (a : Option Addr) (n c : Nat) (w : World) : (cbu #[(0, .agg #[.int .i64 1, .int .i64 0, .int .i64 0, .int .i64 0, .int .i64 0, .int .i64 0, .int .i64 0, .int .i64 0]), (1, .int .i64 80), (2, .agg #[.int .i64 2, .int .i64 0, .int .i64 0, .int .i64 0, .int .i64 0, .int .i64 0, .int .i64 0, .int .i64 0]), (3, .int .i64 32), (4, .int .i64 9), (6, .int .i64 2), (7, .bool true), (8, .slice a n c)]).run Tryz.prog w = .ok (.agg (cfC c0 true a n c)) w := by kernel_rfl
def zero23c : Array Value := #[.int .i64 0, .int .i64 0, .int .i64 0, .int .i64 0, .int .i64 0, .int .i64 0, .int .i64 0, .int .i64 0, .int .i64 0, .int .i64 0, .int .i64 0, .int .i64 0, .int .i64 0, .int .i64 0, .int .i64 0, .int .i64 0, .int .i64 0, .int .i64 0, .int .i64 0, .int .i64 0, .int .i64 0, .bool false, .slice none 0 0]
theorem cf_zero (w : World) : CfIn w.heap.size [] false none 0 0 (w.alloc (.cells zero23c 26)) := heap_alloc_new w _
theorem CfIn.stored {B : Nat} {c0 : List Int} {inj0 : Bool} {a0 : Option Addr} {n0 cap0 : Nat} {w : World} (p : CfIn B c0 inj0 a0 n0 cap0 w) (c : List Int) (inj : Bool) (a : Option Addr) (n cap : Nat) : CfIn B c inj a n cap (w.setRow B (cfC c inj a n cap)) := setRow_heap w B _ _ _ (0, 0) p
theorem at_storec {ops : Array Oper} {rest : List Oper} {o : Oper} {f : Act} {w : World} {Q : Exit → Act → World → Prop} (hgd : o.guard = none) (x y : Operand) (ho : o.op = .store 26 x y)
    {B : Nat} {c0 : List Int} {inj0 : Bool} {a0 : Option Addr} {n0 cap0 : Nat} (hx : f.eval x = .pointer (some ⟨B, 0, none⟩)) (p : CfIn B c0 inj0 a0 n0 cap0 w)
    (c : List Int) (inj : Bool) (a : Option Addr) (n cap : Nat) (hy : f.eval y = .agg (cfC c inj a n cap))
    (hK : ∀ w', CfIn B c inj a n cap w' → Only B w w' → wpList Tryz.prog ops Q rest (f.put o.dst undef) w') : wpList Tryz.prog ops Q (o :: rest) f w :=
  wpList_store_row hgd 26 x y ho B _ hx hy 26 _ p (by kernel_rfl) rfl (by unfold cfC; simp [Value.oneCell']) (hK _ (p.stored c inj a n cap) (only_setRow _ _ _))
theorem cf_result {fn : Func} {p : Tmp} (h : fn.results = #[.cell p 26]) (tmps : Array Value) (w : World) (B : Nat) (c : List Int) (inj : Bool) (a : Option Addr) (n cap : Nat)
    (ht : tmps.getD p undef = .pointer (some ⟨B, 0, none⟩)) (hg : CfIn B c inj a n cap w) : (results fn tmps).run Tryz.prog w = .ok (.agg (cfC c inj a n cap)) w :=
  results_cell_row h tmps w B 26 _ (0, 0) _ ht hg Tryz.underlying26 rfl (by kernel_rfl)
theorem bks0 (w : World) (B : Nat) (hB : w.heap[B]? = some (.cells #[.int .i64 1, .int .i64 5, .int .i64 8080, .int .i64 1, .bool true, .bool false] 66 (0, 0))) : Bks (some ⟨B, 0, none⟩) bk0 w := fun _ => ⟨B, 0, rfl, (Array.getElem?_eq_some_iff.1 hB).1, fun k hk j v hv => by
  have hk0 : k = 0 := by have : bk0.length = 1 := rfl; omega
  subst hk0
  have hj : j < 6 := (List.getElem?_eq_some_iff.1 hv).1
  rw [cell_of_row w B _ _ _ _ hB]
  rcases (by omega : j = 0 ∨ j = 1 ∨ j = 2 ∨ j = 3 ∨ j = 4 ∨ j = 5) with rfl | rfl | rfl | rfl | rfl | rfl <;> exact hv⟩
attribute [local go_sem ↓] cbu_shut
set_option maxRecDepth 100000 in
set_option maxHeartbeats 4000000 in
theorem tplain_any (w : World) : Calls Tryz.prog 37 #[] w fun e w' => ∃ B, e = .returned (.agg (cfC c0 true (some ⟨B, 0, none⟩) 1 1)) ∧ Bks (some ⟨B, 0, none⟩) bk0 w' ∧ Below w.heap.size w w' := by
  have HP := hide (cf_zero w)
  have HB := hide (al_below w (.cells zero23c 26))
  unfold zero23c at HP HB
  have hbu := fun a n c W => cbu_run a n c W
  go_enter Tryz.func37, Tryz.ntmps37
  go_upto_region 1 with fail
  have HL := hide (show w.heap.size < (w.alloc (.cells #[.int .i64 0, .int .i64 0, .int .i64 0, .int .i64 0, .int .i64 0, .int .i64 0, .int .i64 0, .int .i64 0, .int .i64 0, .int .i64 0, .int .i64 0, .int .i64 0, .int .i64 0, .int .i64 0, .int .i64 0, .int .i64 0, .int .i64 0, .int .i64 0, .int .i64 0, .int .i64 0, .int .i64 0, .bool false, .slice none 0 0] 26)).heap.size from HP.out.lt)
  generalize World.alloc _ _ = W0 at HP HB HL ⊢
  have HB2 := hide (al_below W0 (.cells #[.int .i64 1, .int .i64 5, .int .i64 8080, .int .i64 1, .bool true, .bool false] 66))
  have HK := hide (heap_alloc_new W0 (.cells #[.int .i64 1, .int .i64 5, .int .i64 8080, .int .i64 1, .bool true, .bool false] 66))
  go_wp2_with (refine at_storec rfl (.tmp 0) (.tmp 5) rfl rfl (HP.out.kept HB2.out) c0 true (some ⟨W0.heap.size, 0, none⟩) 1 1 rfl ?_; intro w3 p3 on3; have HP3 := hide p3; have HK3 := hide (bks0 w3 W0.heap.size ((on3.2.2.2.2 _ (by have := HL.out; omega)).trans HK.out)); have HB3 := hide (on3.below (bt HB.out HB2.out) (Nat.le_refl _)); clear p3 on3)
  try simp only [Exit.inBlock, Exit.then]
  refine bodyPost_ret (cf_result rfl _ _ w.heap.size c0 true (some ⟨W0.heap.size, 0, none⟩) 1 1 rfl HP3.out) rfl ?_
  exact ⟨_, rfl, HK3.out, HB3.out⟩
theorem ok_c0 : Ok6 (pfx c0) := by intro j hj; rcases (by omega : j = 0 ∨ j = 1 ∨ j = 2 ∨ j = 3 ∨ j = 4 ∨ j = 5 ∨ j = 6 ∨ j = 7) with rfl | rfl | rfl | rfl | rfl | rfl | rfl | rfl <;> exact ⟨by decide, by decide⟩
end Go.Proofs.YtkhahbghmdccaaaGreat

namespace Go.Proofs.YtkhahbghmdccaaaGreat
open Go.RowKit
def fq : List Int := fl5 17 [3] 7 [1] 80
def bqo : List Int := mkb fq 1024 5 8080 0
def zq6 : List Int := [17, 7, 80, 0, 0, 0, 0]
def zq4 : List Int := [17, 8080, 1024, 0, 0, 0, 0]
def G1 : GS := (gz0 c0 true bk0 2).tab (upd (fun _ => []) 0 (cli fq)) (upd (fun _ => false) 0 true) [bqo]
theorem ok_one (x : Int) (h : 0 ≤ x ∧ x ≤ 65535) : Ok6 [x] := by
  intro j hj
  rcases (by omega : j = 0 ∨ j = 1 ∨ j = 2 ∨ j = 3 ∨ j = 4 ∨ j = 5 ∨ j = 6 ∨ j = 7) with rfl | rfl | rfl | rfl | rfl | rfl | rfl | rfl
  · exact h
  all_goals exact ⟨(by decide : (0 : Int) ≤ 0), (by decide : (0 : Int) ≤ 65535)⟩
theorem okg_q6 : Okg zq6 2 := ⟨⟨by decide, by decide⟩, ⟨by decide, by decide⟩, by decide, .inr ⟨rfl, rfl, rfl, rfl, rfl⟩⟩
theorem okg_q4 : Okg zq4 0 := ⟨⟨by decide, by decide⟩, ⟨by decide, by decide⟩, by decide, .inr ⟨rfl, rfl, rfl, rfl, rfl⟩⟩
theorem pf_c0 : Em.PF (pfx c0) (el c0 17) 0 := .inr (.inr (.inr ⟨ok_c0, .inl rfl, by decide +kernel, rfl⟩))
theorem cko_c0 : cko c0 bk0 0 = 0 := by decide +kernel
theorem ig_c0 : IG (gz0 c0 true bk0 2) := gz0_ig (by omega) pf_c0 cko_c0
theorem one_g6s : g6s (gz0 c0 true bk0 2) fq 9 zq6 [104, 105] = (0, p4o 9 5 8 [17, 1024, 8080, 0, 0, 0, 0] [104, 105], G1) := by kernel_rfl
theorem one_g6 : g6 (gz0 c0 true bk0 2) (p6o [3] [1] 9 zq6 [104, 105]) = (0, p4o 9 5 8 [17, 1024, 8080, 0, 0, 0, 0] [104, 105], G1) := by
  rw [g6_p6o _ (ok_one 3 ⟨by decide, by decide⟩) (ok_one 1 ⟨by decide, by decide⟩) (by decide) okg_q6, if_neg (by decide)]
  exact one_g6s
theorem oct_hi : SM.Oct [104, 105] := by
  intro j
  match j with
  | 0 => exact ⟨by decide, by decide⟩
  | 1 => exact ⟨by decide, by decide⟩
  | j + 2 => exact ⟨by simp, by simp⟩
theorem p6o_oct {s d : List Int} {t : Int} {z D : List Int} (hs : Ok6 s) (hd : Ok6 d) (ht : up 255 t = true) (hz : Okg z D.length) (ho : SM.Oct D) : SM.Oct (p6o s d t z D) := V6.bys_oct _ _ _ _ _ (okp6 hs hd ht hz) (eb_le hz _) (eb_oct _ _ _ ho (o6_in _ _ _ _ hs hd))
theorem ig_G1 : IG G1 := by
  have h := (g6_ig ig_c0 (p6o_oct (s := [3]) (d := [1]) (t := 9) (z := zq6) (D := [104, 105]) (ok_one 3 ⟨by decide, by decide⟩) (ok_one 1 ⟨by decide, by decide⟩) (by decide) okg_q6 oct_hi)).1
  rw [one_g6] at h
  exact h
theorem one_g4s : g4s G1 5 9 9 17 zq4 [] = (0, p6o [1, 0, 0, 0, 0, 0, 0, 0] [3, 0, 0, 0, 0, 0, 0, 0] 8 [17, 80, 7, 0, 0, 0, 0] [], G1) := by kernel_rfl
theorem one_g4 : g4 G1 (p4o 5 9 9 zq4 []) = (0, p6o [1, 0, 0, 0, 0, 0, 0, 0] [3, 0, 0, 0, 0, 0, 0, 0] 8 [17, 80, 7, 0, 0, 0, 0] [], G1) := by
  rw [g4_p4o _ (by decide) (by decide) (by decide) okg_q4, if_neg (by decide)]
  exact one_g4s
end Go.Proofs.YtkhahbghmdccaaaGreat

namespace Go.Proofs.YtkhahbghmdccaaaGreat
open Go.RowKit
theorem row_hi (w : World) : Row8 (w.alloc (.cells #[.int .u8 104, .int .u8 105] 5 (2, 3))) (some ⟨w.heap.size, 0, none⟩) 2 2 [104, 105] := by
  refine ⟨rfl, by simp [maxLen], oct_hi, fun h => (by cases h), fun _ => ⟨_, 0, rfl, fun i hi => ?_⟩⟩
  rcases (by omega : i = 0 ∨ i = 1) with rfl | rfl
  · exact cell_of_row _ _ 0 _ _ _ (heap_alloc_new w _)
  · exact cell_of_row _ _ 1 _ _ _ (heap_alloc_new w _)
theorem p4o_len {s d t : Int} {z D : List Int} : 0 < (p4o s d t z D).length := by
  unfold p4o V4.bys
  rw [List.length_append, show ∀ s d t k i n c, (P4.hd s d t k i n c).length = 20 from fun _ _ _ _ _ _ _ => rfl]
  omega
theorem p6o_len {s d : List Int} {t : Int} {z D : List Int} : 0 < (p6o s d t z D).length := bys_pos _ _ _ _ _
def OG (w : World) (G : Nat) (a : Option Addr) (cap : Nat) (tv : Value) (S : Nat) (Ot : Nat → Prop) (β : Int → Nat) (g : GS) (W : World) : Prop := GC G a cap tv S Ot β g W ∧ (∀ k, GO G a Ot (SO S β g.ss) k → w.heap.size ≤ k) ∧ Below w.heap.size w W
theorem OG.kept {w : World} {G : Nat} {a : Option Addr} {cap : Nat} {tv : Value} {S : Nat} {Ot : Nat → Prop} {β : Int → Nat} {g : GS} {W W' : World} (h : OG w G a cap tv S Ot β g W) (hb : Below W.heap.size W W') : OG w G a cap tv S Ot β g W' := ⟨h.1.kept hb, h.2.1, bt h.2.2 hb⟩
theorem OG.step {w : World} {G : Nat} {a : Option Addr} {cap : Nat} {tv : Value} {S : Nat} {Ot : Nat → Prop} {β : Int → Nat} {g g' : GS} {W W' : World} (h : OG w G a cap tv S Ot β g W) (q : GQ W G a cap tv S Ot β g g' W') : ∃ Ot' β', OG w G a cap tv S Ot' β' g' W' := by
  obtain ⟨Ot', β', q1, q2, q3⟩ := q
  have hs := h.2.2.size
  exact ⟨Ot', β', q1, fun k hk => (q3 k hk).elim (h.2.1 k) (fun h => by omega), q2.below h.2.2 h.2.1 hs⟩
attribute [local go_sem ↓] hload_shut
set_option maxRecDepth 100000 in
set_option maxHeartbeats 4000000 in
theorem one_any (w : World) : Calls Tryz.prog 31 #[] w fun e w' => e = .returned (.bool true) ∧ Below w.heap.size w w' := by
  have HPl := hide (fun W => tplain_any W)
  have HN := hide (fun W B (hb : Bks (some ⟨B, 0, none⟩) bk0 W) => (show Calls Tryz.prog 13 #[.agg (cfC c0 true (some ⟨B, 0, none⟩) 1 1)] W fun e w' => NG W c0 true bk0 2 e w' from gnew_gc c0 true (some ⟨B, 0, none⟩) 1 bk0 2 W hb (by decide) (by decide) (fun h => by cases h) pf_c0 cko_c0 rfl (by decide) (by decide)))
  have HS := hide (fun W b (r : Row8 W (some ⟨b, 0, none⟩) 2 2 [104, 105]) => (show Calls Tryz.prog 32 #[.agg #[.int .i64 17, .int .i64 7, .int .i64 80, .int .i64 0, .int .i64 0, .int .i64 0, .int .i64 0, .slice (some ⟨b, 0, none⟩) 2 2], .agg #[.int .i64 3, .int .i64 0, .int .i64 0, .int .i64 0, .int .i64 0, .int .i64 0, .int .i64 0, .int .i64 0], .agg #[.int .i64 1, .int .i64 0, .int .i64 0, .int .i64 0, .int .i64 0, .int .i64 0, .int .i64 0, .int .i64 0], .int .i64 9] W fun e w' => ∃ v, e = .returned v ∧ Own W.heap.size w' v (p6o [3] [1] 9 zq6 [104, 105]) ∧ Below W.heap.size W w' from sent_ok zq6 _ 2 2 [104, 105] [3] [1] 9 W (ok_one 3 ⟨by decide, by decide⟩) (ok_one 1 ⟨by decide, by decide⟩) (by decide) okg_q6 r))
  have HI := hide (fun G a cap tv S Ot β W b l c (h : GC G a cap tv S Ot β (gz0 c0 true bk0 2) W) (r : Row8 W b l c (p6o [3] [1] 9 zq6 [104, 105])) (h1 : l ≤ c) (h2 : c ≤ maxLen) => (show Calls Tryz.prog 16 #[.pointer (some ⟨G, 0, none⟩), .slice b l c] W fun e w' => ∃ a2 l2 c2, e = .returned (.tuple #[.slice a2 l2 c2, .nilIface]) ∧ (Row8 w' a2 l2 c2 (p4o 9 5 8 [17, 1024, 8080, 0, 0, 0, 0] [104, 105]) ∧ l2 ≤ c2 ∧ c2 ≤ maxLen) ∧ GQ W G a cap tv S Ot β (gz0 c0 true bk0 2) G1 w' from by have := in6_any G a cap tv S Ot β _ b l c _ W h ig_c0.1 ig_c0.2.1 ig_c0.2.2 r h1 h2; rw [one_g6] at this; exact this))
  have HO := hide (fun W b l c (r : Row8 W b l c (p4o 9 5 8 [17, 1024, 8080, 0, 0, 0, 0] [104, 105])) (h1 : l ≤ c) (h2 : c ≤ maxLen) => (show Calls Tryz.prog 33 #[.slice b l c] W fun e w' => ∃ a1 l1 c1 a2 l2 c2, e = .returned (.tuple #[V4.pk 9 5 8 17 0 a1 l1 c1, .agg (sgC [17, 1024, 8080, 0, 0, 0, 0] a2 l2 c2), .bool true]) ∧ Row8 w' a2 l2 c2 [104, 105] ∧ Below W.heap.size W w' from opened_ok b l c 9 5 8 [17, 1024, 8080, 0, 0, 0, 0] [104, 105] W r h1 h2 (by decide) (by decide) (by decide) ⟨⟨by decide, by decide⟩, ⟨by decide, by decide⟩, by decide, .inr ⟨rfl, rfl, rfl, rfl, rfl⟩⟩))
  have HK := hide (fun W => (show Calls Tryz.prog 34 #[.agg #[.int .i64 17, .int .i64 8080, .int .i64 1024, .int .i64 0, .int .i64 0, .int .i64 0, .int .i64 0, .slice none 0 0], .int .i64 5, .int .i64 9, .int .i64 9] W fun e w' => ∃ v, e = .returned v ∧ Own W.heap.size w' v (p4o 5 9 9 zq4 []) ∧ Below W.heap.size W w' from bk_ok zq4 none 0 0 [] 5 9 9 W (by decide) (by decide) (by decide) okg_q4 (gt_no W)))
  have HI4 := hide (fun G a cap tv S Ot β W b l c (h : GC G a cap tv S Ot β G1 W) (r : Row8 W b l c (p4o 5 9 9 zq4 [])) (h1 : l ≤ c) (h2 : c ≤ maxLen) => (show Calls Tryz.prog 19 #[.pointer (some ⟨G, 0, none⟩), .slice b l c] W fun e w' => ∃ a2 l2 c2, e = .returned (.tuple #[.slice a2 l2 c2, .nilIface]) ∧ (Row8 w' a2 l2 c2 (p6o [1, 0, 0, 0, 0, 0, 0, 0] [3, 0, 0, 0, 0, 0, 0, 0] 8 [17, 80, 7, 0, 0, 0, 0] []) ∧ l2 ≤ c2 ∧ c2 ≤ maxLen) ∧ GQ W G a cap tv S Ot β G1 G1 w' from by have := in4_any G a cap tv S Ot β _ b l c _ W h ig_G1.1 ig_G1.2.1 r h1 h2; rw [one_g4] at this; exact this))
  have HO6 := hide (fun W b l c (r : Row8 W b l c (p6o [1, 0, 0, 0, 0, 0, 0, 0] [3, 0, 0, 0, 0, 0, 0, 0] 8 [17, 80, 7, 0, 0, 0, 0] [])) (h1 : l ≤ c) (h2 : c ≤ maxLen) => (show Calls Tryz.prog 35 #[.slice b l c] W fun e w' => ∃ a1 l1 c1 a2 l2 c2, e = .returned (.tuple #[.agg (V6.pkC [1, 0, 0, 0, 0, 0, 0, 0] [3, 0, 0, 0, 0, 0, 0, 0] 8 17 a1 l1 c1), .agg (sgC [17, 80, 7, 0, 0, 0, 0] a2 l2 c2), .bool true]) ∧ Row8 w' a2 l2 c2 [] ∧ Below W.heap.size W w' from opened6_ok b l c [1, 0, 0, 0, 0, 0, 0, 0] [3, 0, 0, 0, 0, 0, 0, 0] 8 [17, 80, 7, 0, 0, 0, 0] [] W r h1 h2 (fun j hj => by rcases (by omega : j = 0 ∨ j = 1 ∨ j = 2 ∨ j = 3 ∨ j = 4 ∨ j = 5 ∨ j = 6 ∨ j = 7) with rfl | rfl | rfl | rfl | rfl | rfl | rfl | rfl <;> exact ⟨by decide, by decide⟩) (fun j hj => by rcases (by omega : j = 0 ∨ j = 1 ∨ j = 2 ∨ j = 3 ∨ j = 4 ∨ j = 5 ∨ j = 6 ∨ j = 7) with rfl | rfl | rfl | rfl | rfl | rfl | rfl | rfl <;> exact ⟨by decide, by decide⟩) (by decide) ⟨⟨by decide, by decide⟩, ⟨by decide, by decide⟩, by decide, .inr ⟨rfl, rfl, rfl, rfl, rfl⟩⟩))
  have HL6 := hide (@p6o_len [3] [1] 9 zq6 [104, 105])
  have HL7 := hide (@p4o_len 5 9 9 zq4 [])
  have HZ4 := hide (fun W => R4.start W)
  have HZ6 := hide (fun W => V6.zero_new W)
  unfold V4.zero4 zero7 at HZ4
  unfold V6.zero6 at HZ6
  unfold V4.pk at HO
  generalize p6o [3] [1] 9 zq6 [104, 105] = Y6 at HS HI HL6
  generalize p4o 9 5 8 [17, 1024, 8080, 0, 0, 0, 0] [104, 105] = Y4 at HI HO
  generalize p4o 5 9 9 zq4 [] = Y7 at HK HI4 HL7
  generalize p6o [1, 0, 0, 0, 0, 0, 0, 0] [3, 0, 0, 0, 0, 0, 0, 0] 8 [17, 80, 7, 0, 0, 0, 0] [] = Y8 at HI4 HO6
  go_enter Tryz.func31, Tryz.ntmps31
  go_upto_region 4 with (first
    | (go_at_call 37; refine (HPl.out _).mono ?_; rintro e w1 ⟨B, rfl, b1, hb1⟩; have HBk := hide b1; have HB := hide hb1; clear b1 hb1)
    | (go_at_call 13; refine (HN.out _ B HBk.out).mono ?_; rintro e w2 ⟨G, a2, c2, tv, S, Ot, rfl, g2, o2, hb2⟩; have HG := hide (show OG w G a2 c2 tv S Ot (fun _ => 0) (gz0 c0 true bk0 2) w2 from ⟨g2, fun k hk => Nat.le_trans HB.out.size (o2 k hk), bt HB.out hb2⟩); clear g2 o2 hb2))
  clear HBk HB HN HPl
  have hcv := Lib.run_convert_bytes_const (P := Tryz.prog) w2 28 5 #[.int .u8 104, .int .u8 105] 2 2 Tryz.underlying28 Tryz.underlying5
  have HR := hide (row_hi w2)
  replace HG := hide (HG.out.kept (al_below w2 (.cells #[.int .u8 104, .int .u8 105] 5 (2, 3))))
  go_upto_region 7 with (first
    | (go_at_call 32; refine (HS.out _ _ HR.out).mono ?_; rintro e w4 ⟨v4, rfl, o4, hb4⟩; obtain ⟨g4, c4, rfl, k1, k2, -, -, r4⟩ := o4.form HL6.out; have HR4 := hide (And.intro r4 (And.intro k1 k2)); replace HG := hide (HG.out.kept hb4); clear o4 hb4 k1 k2 r4)
    | (go_at_call 16; refine (HI.out _ _ _ _ _ _ _ _ _ _ _ HG.out.1 HR4.out.1 HR4.out.2.1 HR4.out.2.2).mono ?_; rintro e w5 ⟨a5, l5, c5, rfl, r5, q5⟩; obtain ⟨Ot5, β5, g5⟩ := HG.out.step q5; have HG5 := hide g5; have HR5 := hide r5; clear r5 q5 g5))
  clear hcv HR HG HR4 HS HI
  go_upto_region 8 with (first
    | (go_at_call 33; refine (HO.out _ _ _ _ HR5.out.1 HR5.out.2.1 HR5.out.2.2).mono ?_; rintro e w6 ⟨a6, l6, c6, a7, l7, c7, rfl, r6, hb6⟩; have HZ := hide (HZ4.out w6); replace HG5 := hide (HG5.out.kept hb6); have HLw := hide (show w.heap.size ≤ w6.heap.size from HG5.out.2.2.size); have HLt := hide (show ∀ k, GO G a2 Ot5 (SO S β5 G1.ss) k → k < w6.heap.size from fun k hk => HG5.out.1.lt hk); clear r6 hb6)
    | (refine V4.at_store rfl (.tmp 4) (.tmp 31) rfl rfl HZ.out.1 9 5 8 17 0 a6 l6 c6 rfl ?_; intro w7 p7 on7; have HS7 := hide (on7.sg HZ.out.2.1 (by omega)); have HP7 := hide p7; have HB7 := hide (on7.below HZ.out.2.2 (Nat.le_refl _)); clear p7 on7)
    | (refine at_store rfl (.tmp 5) (.tmp 32) rfl rfl HS7.out [17, 1024, 8080, 0, 0, 0, 0] a7 l7 c7 rfl ?_; intro w8 p8 on8; have HP8 := hide (show V4.PkIn w6.heap.size 9 5 8 17 0 a6 l6 c6 w8 from (on8.2.2.2.2 _ (by omega)).trans HP7.out); have HS8 := hide p8; have HB8 := hide (on8.below HB7.out (Nat.le_succ _)); clear p8 on8))
  have q1 : w8.cell? ⟨w6.heap.size, 1, none⟩ = some (.int .i64 5) := HP8.out.all.2.1
  have q2 : w8.cell? ⟨w6.heap.size + 1, 1, none⟩ = some (.int .i64 1024) := HS8.out.c1
  have q3 : w8.cell? ⟨w6.heap.size + 1, 2, none⟩ = some (.int .i64 8080) := HS8.out.c2
  replace HG5 := hide (HG5.out.kept HB8.out)
  go_upto_region 10 with fail
  clear q1 q2 q3 HP8 HB8 HP7 HS7 HB7 HZ HO HR5
  go_upto_region 13 with (first
    | (go_at_call 34; refine (HK.out _).mono ?_; rintro e wa ⟨va, rfl, oa, hba⟩; obtain ⟨ga, ca, rfl, k1, k2, -, -, ra⟩ := oa.form HL7.out; have HRa := hide (And.intro ra (And.intro k1 k2)); replace HG5 := hide (HG5.out.kept hba); replace HS8 := hide (HS8.out.kept hba); clear oa hba k1 k2 ra)
    | (go_at_call 19; refine (HI4.out _ _ _ _ _ _ _ _ _ _ _ HG5.out.1 HRa.out.1 HRa.out.2.1 HRa.out.2.2).mono ?_; rintro e wb ⟨ab, lb, cb, rfl, rb, qb⟩; obtain ⟨Otb, βb, gb⟩ := HG5.out.step qb; have HGb := hide gb; have HRb := hide rb; have HSb := hide (show SgIn (w6.heap.size + 1) [17, 1024, 8080, 0, 0, 0, 0] a7 l7 c7 wb from by obtain ⟨_, _, _, kb, _⟩ := qb; exact (kb.1.2.2.2.2 _ HS8.out.lt (fun ho => by have := HLt.out _ ho; omega)).trans HS8.out); clear rb qb gb))
  clear HS8 HRa HG5 HK HI4 HLt
  go_upto_region 14 with (first
    | (go_at_call 35; refine (HO6.out _ _ _ _ HRb.out.1 HRb.out.2.1 HRb.out.2.2).mono ?_; rintro e wc ⟨ac, lc, cc, ad, ld, cd, rfl, rc, hbc⟩; have HZc := hide (HZ6.out wc); replace HGb := hide (HGb.out.kept hbc); replace HSb := hide (HSb.out.kept hbc); clear rc hbc)
    | (refine V6.at_store rfl (.tmp 7) (.tmp 63) rfl rfl HZc.out [1, 0, 0, 0, 0, 0, 0, 0] [3, 0, 0, 0, 0, 0, 0, 0] 8 17 ac lc cc rfl ?_; intro wd pd ond; have HSd := hide (HSb.out.kept (new_below _ ond)); have HPd := hide pd; have HBd := hide (bt HGb.out.2.2 (new_below _ ond)); have HLd := hide (show w6.heap.size + 1 < wc.heap.size from HSb.out.lt); clear pd ond)
    | (refine at_store rfl (.tmp 5) (.tmp 64) rfl rfl HSd.out [17, 80, 7, 0, 0, 0, 0] ad ld cd rfl ?_; intro we pe one; have HPe := hide (show V6.PkIn wc.heap.size [1, 0, 0, 0, 0, 0, 0, 0] [3, 0, 0, 0, 0, 0, 0, 0] 8 17 ac lc cc we from (one.2.2.2.2 _ (by have := HLd.out; omega)).trans HPd.out); have HSe := hide pe; have HBe := hide (one.below HBd.out (by have := HLw.out; omega)); clear pe one))
  have q1 : (hload (.pointer (some ⟨wc.heap.size, 0, none⟩))).run Tryz.prog we = .ok (.agg #[.int .i64 1, .int .i64 0, .int .i64 0, .int .i64 0, .int .i64 0, .int .i64 0, .int .i64 0, .int .i64 0]) we := HPe.out.hsrc
  have q2 : (hload (.pointer (some ⟨wc.heap.size, 8, none⟩))).run Tryz.prog we = .ok (.agg #[.int .i64 3, .int .i64 0, .int .i64 0, .int .i64 0, .int .i64 0, .int .i64 0, .int .i64 0, .int .i64 0]) we := HPe.out.hdst
  have q3 : we.cell? ⟨w6.heap.size + 1, 2, none⟩ = some (.int .i64 7) := HSe.out.c2
  have e1 : (Op.equalIn 10000 23 (.agg #[.int .i64 1, .int .i64 0, .int .i64 0, .int .i64 0, .int .i64 0, .int .i64 0, .int .i64 0, .int .i64 0]) (.agg #[.int .i64 1, .int .i64 0, .int .i64 0, .int .i64 0, .int .i64 0, .int .i64 0, .int .i64 0, .int .i64 0])).run Tryz.prog we = .ok true we := seq_run [1] [1] we
  have e3 : (Op.equalIn 10000 23 (.agg #[.int .i64 3, .int .i64 0, .int .i64 0, .int .i64 0, .int .i64 0, .int .i64 0, .int .i64 0, .int .i64 0]) (.agg #[.int .i64 3, .int .i64 0, .int .i64 0, .int .i64 0, .int .i64 0, .int .i64 0, .int .i64 0, .int .i64 0])).run Tryz.prog we = .ok true we := seq_run [3] [3] we
  go_wp2
  go_ret
  exact ⟨rfl, HBe.out⟩
end Go.Proofs.YtkhahbghmdccaaaGreat

namespace Go.Proofs.YtkhahbghmdccaaaGreat
open Go.ChangeShapes Go.WideShapes Go.Deep Go.RowKit
theorem Tryz.cfgF : (Tryz.prog.underlying 26).map (fun d => match d with | .struct fs => fs.toList.map (fun f => (f.offset, f.type)) | _ => []) = some [(0, 23), (8, 3), (9, 23), (17, 3), (18, 3), (19, 3), (20, 3), (21, 4), (22, 24)] := by kernel_rfl
set_option maxRecDepth 100000 in
theorem cfg_open {H : Type} {enc : TypeId × Value → H} {W : World} {base : Nat} {spare : Nat → Bool} {held : Bool} {b0 : Nat} {v : Value} {x : DataW H} {p : List MemPlace} (h : Value.okWide Tryz.prog W .any b0 26 v) (ht : DataW.Trod enc Tryz.prog W base spare held 26 v x p) :
    ∃ c inj a bs cap, v = .agg (cfC c inj a (List.length bs) cap) ∧ bs.length ≤ cap ∧ cap ≤ maxLen ∧ Bks a bs W ∧ (a = none → bs = [] ∧ cap = 0) := by
  have hu := Tryz.underlying26
  unfold Value.okWide at h
  rw [hu] at h
  obtain ⟨cs, rfl, hsz, ts, hts, _, hc⟩ := h
  have h8 : Tryz.prog.cellsOf 26 = 23 := by kernel_rfl
  have ht8 : Tryz.prog.cellTypes Tryz.prog.depth 26 = some (List.replicate 21 3 ++ [4, 24]) := by kernel_rfl
  rw [h8] at hsz
  obtain rfl := Option.some.inj (hts.symm.trans ht8)
  have hi : ∀ i, ∃ n : Int, i < 21 → cs[i]? = some (.int .i64 n) := by
    intro i
    by_cases hi : i < 21
    · have hcs : cs[i]? = some (cs[i]'(by omega)) := Array.getElem?_eq_getElem (by omega)
      obtain ⟨u, hu, hok⟩ := hc i _ hcs
      have hu3 : u = 3 := by
        have h1 : (List.replicate 21 (3 : TypeId) ++ [4, 24])[i % 23]? = some u := hu
        rw [Nat.mod_eq_of_lt (show i < 23 by omega), List.getElem?_append_left (by rw [List.length_replicate]; exact hi), List.getElem?_replicate, if_pos hi] at h1
        exact (Option.some.inj h1).symm
      subst hu3
      have hw : Value.okWide Tryz.prog W .any b0 3 (cs[i]'(by omega)) := by
        unfold Value.okWide
        rw [Tryz.underlying3]
        exact hok
      obtain ⟨n, hn⟩ := WideShapes.okWide_int Tryz.underlying3 hw
      exact ⟨n, fun _ => by rw [hcs, hn]⟩
    · exact ⟨0, fun h => absurd h hi⟩
  obtain ⟨F, hF⟩ := Classical.axiomOfChoice hi
  obtain ⟨fuel, hf⟩ := ht
  obtain ⟨xs, m, _, _, hl, hx, hall⟩ := DataW.trod_struct hu hf
  have hFl := Tryz.cfgF
  rw [hu] at hFl
  replace hFl := Option.some.inj hFl
  obtain ⟨y7, g7⟩ := pk_field (k := 7) hFl hx hall _ _ rfl
  obtain ⟨y8, g8⟩ := pk_field (k := 8) hFl hx hall _ _ rfl
  have cb : Tryz.prog.cellsOf 4 = 1 := by kernel_rfl
  have ck : Tryz.prog.cellsOf 24 = 1 := by kernel_rfl
  rw [cb] at g7
  rw [ck] at g8
  obtain ⟨x7, e7, _⟩ := DataW.trod_bool Tryz.underlying4 g7
  have q7 := pk_one e7
  have hcs22 : cs[22]? = some (cs[22]'(by omega)) := Array.getElem?_eq_getElem (by omega)
  obtain ⟨u, hu22, hok⟩ := hc 22 _ hcs22
  obtain rfl : u = 24 := by
    have h1 : (List.replicate 21 (3 : TypeId) ++ [4, 24])[22 % 23]? = some u := hu22
    exact (Option.some.inj h1).symm
  have hw : Value.okWide Tryz.prog W .any b0 24 (cs[22]'(by omega)) := by
    unfold Value.okWide
    rw [Tryz.underlying24]
    exact hok
  obtain ⟨a0, l0, k0, hsl⟩ := okWide_slice Tryz.underlying24 hw
  have hcl : (Value.agg cs).cells.toList = cs.toList := rfl
  rw [hcl] at g8 q7
  have hl22 : (cs.toList.drop 22).take 1 = (cs[22]'(by omega)).cells.toList := by
    rw [hsl]
    have h1 : cs.toList[22]? = some (.slice a0 l0 k0) := by rw [Array.getElem?_toList, hcs22, hsl]
    have hlt : 22 < cs.toList.length := (List.getElem?_eq_some_iff.1 h1).1
    rw [List.drop_eq_getElem_cons hlt, (List.getElem?_eq_some_iff.1 h1).2]
    rfl
  rw [hl22] at g8
  have hT := g8
  obtain ⟨y8a, y8b⟩ := y8
  obtain ⟨a, bs, cap, ev, hle, hmx, hbk⟩ := backs_open2 hw ⟨_, g8⟩
  have hnone : a = none → bs = [] ∧ cap = 0 := by
    intro ha
    subst ha
    rw [ev] at hT
    rcases open_slice Tryz.underlying24 hT with ⟨hcs', _⟩ | ⟨a', len', cap', m, n, D, Pl, hcs', _⟩
    · simp [Value.cells] at hcs'
      exact ⟨hcs'.1, hcs'.2⟩
    · simp [Value.cells] at hcs'
  refine ⟨(List.range 21).map F, x7, a, bs, cap, ?_, hle, hmx, hbk, hnone⟩
  congr 1
  have hq7 : cs[21]? = some (.bool x7) := by rw [← Array.getElem?_toList]; exact q7
  have hq8 : cs[22]? = some (.slice a bs.length cap) := by rw [hcs22, ev]
  apply Array.ext_getElem?
  intro i
  by_cases h : i < 23
  · have hd : i = 0 ∨ i = 1 ∨ i = 2 ∨ i = 3 ∨ i = 4 ∨ i = 5 ∨ i = 6 ∨ i = 7 ∨ i = 8 ∨ i = 9 ∨ i = 10 ∨ i = 11 ∨ i = 12 ∨ i = 13 ∨ i = 14 ∨ i = 15 ∨ i = 16 ∨ i = 17 ∨ i = 18 ∨ i = 19 ∨ i = 20 ∨ i = 21 ∨ i = 22 := by omega
    clear hall hx hl hf hc
    rcases hd with rfl | rfl | rfl | rfl | rfl | rfl | rfl | rfl | rfl | rfl | rfl | rfl | rfl | rfl | rfl | rfl | rfl | rfl | rfl | rfl | rfl | rfl | rfl
    all_goals first
      | exact hq7
      | exact hq8
      | exact hF _ (by decide)
  · rw [Array.getElem?_eq_none (by omega), Array.getElem?_eq_none (by show 23 ≤ i; omega)]
end Go.Proofs.YtkhahbghmdccaaaGreat

namespace Go.Proofs.YtkhahbghmdccaaaGreat
open Go.RowKit
def sbu (ps : Array (Nat × Value)) : Sem Value := Instr.build 32 ps
theorem sbu_shut (ps : Array (Nat × Value)) : Instr.build 32 ps = sbu ps := rfl
attribute [local go_sem ↓] gload_shut hload_shut
end Go.Proofs.YtkhahbghmdccaaaGreat

namespace Go.Proofs.YtkhahbghmdccaaaGreat
open Go.RowKit
attribute [local go_sem ↓] gload_shut hload_shut
theorem g6_nil (g : GS) : g6 g [] = (5, [], g) := by
  unfold g6
  exact if_pos (by simp)
end Go.Proofs.YtkhahbghmdccaaaGreat

namespace Go.Proofs.YtkhahbghmdccaaaGreat
open Go.ChangeShapes Go.WideShapes Go.Deep Go.RowKit
theorem part_at {cs : List Value} {o n j : Nat} (h : j < n) : ((cs.drop o).take n)[j]? = cs[o + j]? := by
  rw [List.getElem?_take_of_lt h, List.getElem?_drop]
end Go.Proofs.YtkhahbghmdccaaaGreat
