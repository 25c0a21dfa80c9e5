/- Package seg: overOf, Over4 and Over6, by contracts. seg.Over6, by contracts. A segment as a value and in its block; loads and stores of all of it and of its numbers. Package seg: Check, by a contract. Package seg: unchecked and checkOf, by contracts. -/
import Derived.Test.YtkhahbghmdccaaaGreatB02
import Derived.Below
import Derived.OpenShut
import Derived.Test.YtkhahbghmdccaaaGreatProg
import Derived.WalkKit
import Derived.LaidEql
import Derived.BigQuiet
import Derived.Laws.AppendOwnNone
import Derived.Laws.MakeOwn
import Derived.Deep.RegionLaw
import Derived.Lib.Bytes
import Derived.Deep.MidRow
import Derived.Laws.ResultCell
import Derived.Deep.CutBlock
import Derived.Deep.QuietTactic
import Derived.OwnWalk
import Derived.Deep.RegionHeld3
import Derived.Deep.DrawnRows
namespace Go.Proofs.YtkhahbghmdccaaaGreat
open Go.RowKit
theorem upto1 (m x : Int) (B : Nat) (w : World) (h : Ints B [x] w) : Calls Tryz.prog 133 #[.int .i64 m, .slice (some ⟨B, 0, none⟩) 1 1] w fun e w' => e = .returned (.bool (up m x)) ∧ w' = w := by
  have h := upto_any m B 1 [x] w rfl (by omega) h
  rw [show ups m [x] = up m x by simp [ups]] at h
  exact h
theorem ints_al (w : World) (o : Obj) (l : List Int) : Ints (w.heap.size + 1) l ((w.alloc o).alloc (.cells (l.map (Value.int .i64)).toArray 3)) := by
  have := ints_new (w.alloc o) l
  rw [World.size_alloc] at this
  exact this
theorem write22 (W0 : World) (v : Value) (zs : List Int) (x y : Int) (B : Nat) (w : World) (hg : Gr W0 w v zs) (hl : Ints B [x, y] w) (hz : zs.length ≤ 1000000) :
    Calls Tryz.prog 129 #[v, .int .i64 2, .slice (some ⟨B, 0, none⟩) 2 2] w fun e w' => ∃ v', e = .returned v' ∧ Gr W0 w' v' (zs ++ wsn 2 [x, y] 2) :=
  write_any W0 v zs 2 B 2 [x, y] w hg hl rfl (by omega) (by omega) hz
theorem write24 (W0 : World) (v : Value) (zs : List Int) (x y : Int) (B : Nat) (w : World) (hg : Gr W0 w v zs) (hl : Ints B [x, y] w) (hz : zs.length ≤ 1000000) :
    Calls Tryz.prog 129 #[v, .int .i64 4, .slice (some ⟨B, 0, none⟩) 2 2] w fun e w' => ∃ v', e = .returned v' ∧ Gr W0 w' v' (zs ++ wsn 4 [x, y] 2) :=
  write_any W0 v zs 4 B 2 [x, y] w hg hl rfl (by omega) (by omega) hz
theorem ints2 (w : World) (x y : Int) : Ints w.heap.size [x, y] (w.alloc (.cells #[.int .i64 x, .int .i64 y] 3)) := ints_new w [x, y]
def err (n : Int) : Value := .iface 47 (.int .i64 n)
def ovs (zs : List Int) (k n : Int) : Int := SM.fold (SM.tot (zs ++ wsn 2 [k, n] 2) (zs.length + 4))
set_option maxHeartbeats 2000000 in
theorem overof_ok (W0 w : World) (v : Value) (zs : List Int) (k n : Int) (hg : Gr W0 w v zs) (hz : zs.length ≤ 40) (hk : up 255 k = true) (hn : up 320 n = true) :
    Calls Tryz.prog 128 #[v, .int .i64 k, .int .i64 n] w fun e w' => e = .returned (.tuple #[.int .i64 (ovs zs k n), .nilIface]) ∧ Below W0.heap.size W0 w' := by
  have hb1 := al_below w (.cells #[.int .i64 k] 3)
  have hb2 := bt hb1 (al_below _ (.cells #[.int .i64 n] 3))
  have HG := hide (hg.below hb2)
  have HO := hide (show ovs zs k n = SM.fold (SM.tot (zs ++ wsn 2 [k, n] 2) (zs.length + 4)) from rfl)
  have HL0 := hide (show (zs ++ wsn 2 [k, n] 2).length = zs.length + 4 by rw [List.length_append, wsn_len])
  obtain ⟨N, hN⟩ : ∃ N, N = zs.length + 4 := ⟨_, rfl⟩
  have HL := hide (show (zs ++ wsn 2 [k, n] 2).length = N by rw [hN]; exact HL0.out)
  have HN2 := hide (show N ≤ 2000 by omega)
  rw [← hN] at HO
  have HZ := hide hz
  have I1 := hide (show Ints w.heap.size [k] (w.alloc (.cells #[.int .i64 k] 3)) from ints_new w [k])
  have I2 := hide (show Ints (w.heap.size + 1) [n] ((w.alloc (.cells #[.int .i64 k] 3)).alloc (.cells #[.int .i64 n] 3)) from ints_al w _ [n])
  clear hb1 hb2 hg hz hN HL0
  go_enter Tryz.func128, Tryz.ntmps128
  go_upto_region 3 with (first | (go_at_call 133; with_reducible refine (upto1 _ _ _ _ I1.out).mono ?_; rintro e w' ⟨rfl, rfl⟩) | (go_at_call 133; with_reducible refine (upto1 _ _ _ _ I2.out).mono ?_; rintro e w' ⟨rfl, rfl⟩))
  generalize (w.alloc (.cells #[.int .i64 k] 3)).alloc (.cells #[.int .i64 n] 3) = W at HG ⊢
  go_wp2_with (first
    | (go_at_call 129; refine (write22 W0 v zs k n W.heap.size _ (HG.out.below (al_below _ _)) (ints2 W k n) (by have := HZ.out; omega)).mono ?_; rintro e w1 ⟨v1, rfl, hg1⟩; obtain ⟨a1, c1, hv1, hr1, -⟩ := hg1.1.row8; rw [HL.out] at hv1 hr1; subst hv1; replace hg1 := hide hg1; replace hr1 := hide hr1)
    | (go_at_call 165; with_reducible refine (of_ok _ _ _ _ _ hr1.out HN2.out).mono ?_; rintro e w2 ⟨rfl, rfl⟩))
  go_ret2
  exact ⟨by rw [HO.out]; rfl, hg1.out.2⟩
def c4v (x : Int) : Value := if up 4294967295 x = true then .nilIface else err 1
theorem c4_any (x : Int) (w : World) : Calls Tryz.prog 94 #[.int .i64 x] w fun e w' => e = .returned (c4v x) ∧ w' = w := by
  by_cases h0 : x < 0
  · rw [show c4v x = err 1 from if_neg (fun h => by have := (up_true h).1; omega)]
    unfold err
    go_enter Tryz.func94, Tryz.ntmps94
    go_wp2
    go_ret
    exact ⟨rfl, rfl⟩
  · by_cases h1 : 4294967295 < x
    · rw [show c4v x = err 1 from if_neg (fun h => by have := (up_true h).2; omega)]
      unfold err
      go_enter Tryz.func94, Tryz.ntmps94
      go_wp2
      go_ret
      exact ⟨rfl, rfl⟩
    · rw [show c4v x = .nilIface from if_pos (decide_eq_true ⟨by omega, by omega⟩)]
      go_enter Tryz.func94, Tryz.ntmps94
      go_wp2
      go_ret
      exact ⟨rfl, rfl⟩
theorem c4v_ok {x : Int} (h : up 4294967295 x = true) : c4v x = .nilIface := if_pos h
theorem c4v_bad {x : Int} (h : up 4294967295 x = false) : c4v x = .iface 47 (.int .i64 1) := if_neg (by rw [h]; decide)
set_option maxHeartbeats 2000000 in
theorem over4_ok (s d k n : Int) (w : World) (hs : up 4294967295 s = true) (hd : up 4294967295 d = true) (hk : up 255 k = true) (hn : up 320 n = true) :
    Calls Tryz.prog 82 #[.int .i64 s, .int .i64 d, .int .i64 k, .int .i64 n] w fun e w' => e = .returned (.tuple #[.int .i64 (ovs (wsn 4 [s, d] 2) k n), .nilIface]) ∧ Below w.heap.size w w' := by
  have es := c4v_ok hs
  have ed := c4v_ok hd
  have HL := hide (show (wsn 4 [s, d] 2).length ≤ 40 by rw [wsn_len]; omega)
  have HW := hide (fun W B h hi => write24 w (.slice none 0 0) [] s d B W h hi (by simp))
  have HO := hide (fun W v h hz => overof_ok w W v (wsn 4 [s, d] 2) k n h hz hk hn)
  simp only [List.nil_append] at HW
  have HG := hide ((Gr.nil w).below (al_below w (.cells #[.int .i64 s, .int .i64 d] 3)))
  clear hs hd hk hn
  generalize wsn 4 [s, d] 2 = Z at HL HW HO ⊢
  go_enter Tryz.func82, Tryz.ntmps82
  go_wp2_with (first
    | (go_at_call 94; refine (c4_any _ _).mono ?_; rintro e w' ⟨rfl, rfl⟩)
    | (go_at_call 129; refine (HW.out _ _ HG.out (ints2 _ s d)).mono ?_; rintro e w1 ⟨v1, rfl, hg1⟩; replace hg1 := hide hg1)
    | (go_at_call 128; refine (HO.out _ _ hg1.out HL.out).mono ?_; rintro e w2 ⟨rfl, hb2⟩; replace hb2 := hide hb2))
  go_ret2
  exact ⟨rfl, hb2.out⟩
end Go.Proofs.YtkhahbghmdccaaaGreat

namespace Go.Proofs.YtkhahbghmdccaaaGreat
open Go.RowKit
attribute [local go_sem ↓] Go.wp_at_zero Go.wp_at_succ
theorem at_load6 {ops : Array Oper} {rest : List Oper} {o : Oper} {f : Act} {w : World} {Q : Exit → Act → World → Prop} (hgd : o.guard = none) (x : Operand) (ho : o.op = .load 23 x)
    {B : Nat} {z : List Int} (hx : f.eval x = .pointer (some ⟨B, 0, none⟩)) (p : SixIn B z w)
    (hK : wpList Tryz.prog ops Q rest (f.put o.dst (.agg (sixC z))) w) : wpList Tryz.prog ops Q (o :: rest) f w :=
  wpList_load_row hgd 23 x ho B hx 23 _ (0, 0) _ p Tryz.underlying23 rfl (by kernel_rfl) hK
theorem step_app {w : World} {ops : Array Oper} {o : Oper} {a : Act} {K : Act → World → Prop} {Q : Exit → Act → World → Prop} {E : Prop} (hgd : o.guard = none) (s x : Operand)
    (ho : o.op = .call { callee := .builtin .append, args := #[s, x], argTypes := #[28, 28] })
    (base : Nat) (v : Value) (zs : List Int) (hs : a.eval s = v) (hown : Own base w v zs) (ao : Option Addr) (hao : ∃ ad, ao = some ad) (len cap : Nat) (ys : List Int) (n : Nat) (hn : (zs ++ ys).length = n)
    (hx : a.eval x = .slice ao len cap) (hrow : Row8 w ao len cap ys) (hlen : zs.length + len ≤ 1000000000) (hbase : base ≤ w.heap.size)
    (h : ∀ a' c' w', Own base w' (.slice a' n c') (zs ++ ys) → w.grownBy w' v.ownBlock → K (a.put o.dst (.slice a' n c')) w') : if Region.wanted o (yielded ops a.tmps) = true then Oper.wp Tryz.prog o a w K Q else E := by
  have hw : Region.wanted o (yielded ops a.tmps) = true := by simp [Region.wanted, hgd]
  rw [if_pos hw]
  obtain ⟨ad, rfl⟩ := hao
  obtain ⟨i0, hi, hz0, hz1, hz2⟩ := info_parts Tryz.infoByte
  obtain ⟨r1, r2, r3, r4, r5⟩ := hrow
  refine wp_append_own w s x 28 ho base 5 i0 (.int .u8 0) 1 1 Tryz.underlying28 hi hz0 hz1 hz2 rfl (by decide) v zs.length _ hs hown.2 ad len cap (ys.map (Value.int .u8)) hx (by simp [r1]) ?_ (ints_oneCell .u8 ys) (by unfold maxLen; omega) (by omega) hbase ?_
  · intro j u hu
    have hj : j < ys.length := by
      have := (List.getElem?_eq_some_iff.1 hu).1
      simpa using this
    obtain ⟨b, off, h6, h7⟩ := r5 (by omega)
    have hc := h7 j (by omega)
    obtain rfl : ad = ⟨b, off, none⟩ := by simpa using h6
    have e : (⟨b, off, none⟩ : Addr).add j = ⟨b, off + j, none⟩ := by unfold Addr.add; split <;> simp_all
    rw [e, hc]
    rw [List.getElem?_map] at hu
    simp [hj] at hu ⊢
    exact hu
  · intro v' w' h1 h2 _
    have ho : Own base w' v' (zs ++ ys) := by
      refine ⟨SM.oct_append _ _ hown.1 r3, ?_⟩
      rw [List.map_append, List.length_append, r1]
      exact h1
    obtain ⟨a', c', e, _, _⟩ := ho.row8
    rw [hn] at e
    rw [e] at ho ⊢
    exact h a' c' w' ho h2
def hload (x : Value) : Sem Value := Instr.loadAt 23 x
theorem hload_shut (x : Value) : Instr.loadAt 23 x = hload x := rfl
theorem nb2 (x : Int) (h0 : 0 ≤ x) (h1 : x ≤ 65535) : nb 2 x = [x / 256, x % 256] := by
  show [x / 256 ^ 1 % 256, x / 256 ^ 0 % 256] = _
  rw [show x / 256 ^ 1 % 256 = x / 256 by omega, show x / 256 ^ 0 % 256 = x % 256 by omega]
theorem six_al (z : List Int) (w : World) : SixIn w.heap.size z (w.alloc (.cells (sixC z) 23)) := six_new z w
theorem six_al2 (z : List Int) (w : World) (o : Obj) : SixIn (w.heap.size + 1) z ((w.alloc o).alloc (.cells (sixC z) 23)) := by
  have := six_al z (w.alloc o)
  rw [World.size_alloc] at this
  exact this
theorem abytes_own (z : List Int) (w : World) (hz : Ok6 z) : Calls Tryz.prog 90 #[.agg (sixC z)] w fun e w' => ∃ a c, e = .returned (.tuple #[.slice a 16 c, .nilIface]) ∧ Gr w w' (.slice a 16 c) (by16 z 8) := by
  refine (bytes_ok z w hz).mono ?_
  rintro e w' ⟨v, rfl, ho, hb⟩
  have ho' : Own w.heap.size w' v (by16 z 8) := ⟨oct_by16 z hz 8 (by omega), by
    unfold OwnG u8s at ho
    rw [List.length_map] at ho
    exact ho⟩
  obtain ⟨a, c, hv, hr, _⟩ := ho'.row8
  rw [by16_len] at hv
  subst hv
  exact ⟨a, c, rfl, ho', hb⟩
set_option maxRecDepth 100000 in
set_option maxHeartbeats 2000000 in
theorem over6_any (s d : List Int) (k n : Int) (w : World) (hs : Ok6 s) (hd : Ok6 d) (R : Int) (E : Value) (hO : ∀ W0 W v, Gr W0 W v (by16 s 8 ++ by16 d 8) → Calls Tryz.prog 128 #[v, .int .i64 k, .int .i64 n] W fun e w' => e = .returned (.tuple #[.int .i64 R, E]) ∧ Below W0.heap.size W0 w') :
    Calls Tryz.prog 81 #[.agg (sixC s), .agg (sixC d), .int .i64 k, .int .i64 n] w fun e w' => e = .returned (.tuple #[.int .i64 R, E]) ∧ Below w.heap.size w w' := by
  have HS := hide (fun w => abytes_own s w hs)
  have HD := hide (fun w => abytes_own d w hd)
  have HO := hide hO
  have HLs := hide (by16_len s 8)
  clear hs hd hO
  generalize by16 s 8 = S at HS HO HLs
  generalize by16 d 8 = D at HD HO
  have b1 := al_below w (.cells (sixC s) 23)
  have b2 := al_below (w.alloc (.cells (sixC s) 23)) (.cells (sixC d) 23)
  have HB := hide (bt b1 b2)
  have P1 := hide ((six_al s w).kept b2)
  have P2 := hide (six_al2 d w (.cells (sixC s) 23))
  clear b1 b2
  go_enter Tryz.func81, Tryz.ntmps81
  go_upto_region 1 with fail
  generalize (w.alloc (.cells (sixC s) 23)).alloc (.cells (sixC d) 23) = W at HB P1 P2 ⊢
  go_upto_region 4 with (first
    | (refine at_load6 rfl (.tmp 4) rfl rfl P1.out ?_)
    | (go_at_call 90; (with_reducible refine (HS.out _).mono ?_); rintro e w1 ⟨a1, c1, rfl, hg1⟩; replace hg1 := hide hg1))
  replace P2 := hide (P2.out.kept hg1.out.2)
  go_upto_region 7 with (first
    | (refine at_load6 rfl (.tmp 5) rfl rfl P2.out ?_)
    | (go_at_call 90; (with_reducible refine (HD.out _).mono ?_); rintro e w2 ⟨a2, c2, rfl, hg2⟩; replace hg1 := hide (hg1.out.below hg2.2); replace hg2 := hide hg2))
  go_wp2_with (first
    | (at_builtin; refine gr_app rfl (.tmp 29) (.tmp 30) rfl rfl hg1.out rfl hg2.out.1.toRow (by rw [HLs.out]; omega) ?_; intro v3 w3 hg3; replace hg3 := hide hg3)
    | (go_at_call 128; refine (HO.out _ _ _ hg3.out).mono ?_; rintro e w4 ⟨rfl, hb4⟩; replace HB := hide (HB.out.trans (hb4.mono HB.out.size)); clear hb4))
  go_ret2
  exact ⟨rfl, HB.out⟩
theorem SixIn.hl {B : Nat} {z : List Int} {w : World} (p : SixIn B z w) : (hload (.pointer (some ⟨B, 0, none⟩))).run Tryz.prog w = .ok (.agg (sixC z)) w :=
  run_loadAt_mid w B 0 23 (sixC z).toList _ (fun j v hv => by
    rw [Nat.zero_add]
    have hj : j < 8 := (List.getElem?_eq_some_iff.1 hv).1
    rw [(p.facts j hj).1]
    rcases (by omega : j = 0 ∨ j = 1 ∨ j = 2 ∨ j = 3 ∨ j = 4 ∨ j = 5 ∨ j = 6 ∨ j = 7) with rfl | rfl | rfl | rfl | rfl | rfl | rfl | rfl <;> exact hv) Tryz.underlying23 rfl (by kernel_rfl)
end Go.Proofs.YtkhahbghmdccaaaGreat

namespace Go.Proofs.YtkhahbghmdccaaaGreat
open Go.RowKit
def sgC (z : List Int) (a : Option Addr) (len cap : Nat) : Array Value := #[.int .i64 (el z 0), .int .i64 (el z 1), .int .i64 (el z 2), .int .i64 (el z 3), .int .i64 (el z 4), .int .i64 (el z 5), .int .i64 (el z 6), .slice a len cap]
def SgIn (B : Nat) (z : List Int) (a : Option Addr) (len cap : Nat) (w : World) : Prop := w.heap[B]? = some (.cells (sgC z a len cap) 30 (0, 0))
theorem SgIn.lt {B : Nat} {z : List Int} {a : Option Addr} {len cap : Nat} {w : World} (p : SgIn B z a len cap w) : B < w.heap.size := (Array.getElem?_eq_some_iff.1 p).1
theorem SgIn.kept {B : Nat} {z : List Int} {a : Option Addr} {len cap : Nat} {w w' : World} (p : SgIn B z a len cap w) (hb : Below w.heap.size w w') : SgIn B z a len cap w' := (hb.block B p.lt).trans p
theorem SgIn.grown {B : Nat} {z : List Int} {a : Option Addr} {len cap : Nat} {w w' : World} (p : SgIn B z a len cap w) {r : Option Nat} (hg : w.grownBy w' r) (hr : some B ≠ r) : SgIn B z a len cap w' := (hg.block _ p.lt hr).trans p
theorem sg_new (w : World) (z : List Int) (a : Option Addr) (len cap : Nat) : SgIn w.heap.size z a len cap (w.alloc (.cells (sgC z a len cap) 30)) := heap_alloc_new w _
theorem SgIn.cellAt {B : Nat} {z : List Int} {a : Option Addr} {len cap : Nat} {w : World} (p : SgIn B z a len cap w) (j : Nat) : w.cell? ⟨B, j, none⟩ = (sgC z a len cap)[j]? := cell_of_row w B j _ _ _ p
theorem SgIn.c0 {B : Nat} {z : List Int} {a : Option Addr} {len cap : Nat} {w : World} (p : SgIn B z a len cap w) : w.cell? ⟨B, 0, none⟩ = some (.int .i64 (el z 0)) := p.cellAt 0
theorem SgIn.c1 {B : Nat} {z : List Int} {a : Option Addr} {len cap : Nat} {w : World} (p : SgIn B z a len cap w) : w.cell? ⟨B, 1, none⟩ = some (.int .i64 (el z 1)) := p.cellAt 1
theorem SgIn.c2 {B : Nat} {z : List Int} {a : Option Addr} {len cap : Nat} {w : World} (p : SgIn B z a len cap w) : w.cell? ⟨B, 2, none⟩ = some (.int .i64 (el z 2)) := p.cellAt 2
theorem SgIn.c3 {B : Nat} {z : List Int} {a : Option Addr} {len cap : Nat} {w : World} (p : SgIn B z a len cap w) : w.cell? ⟨B, 3, none⟩ = some (.int .i64 (el z 3)) := p.cellAt 3
theorem SgIn.c4 {B : Nat} {z : List Int} {a : Option Addr} {len cap : Nat} {w : World} (p : SgIn B z a len cap w) : w.cell? ⟨B, 4, none⟩ = some (.int .i64 (el z 4)) := p.cellAt 4
theorem SgIn.c5 {B : Nat} {z : List Int} {a : Option Addr} {len cap : Nat} {w : World} (p : SgIn B z a len cap w) : w.cell? ⟨B, 5, none⟩ = some (.int .i64 (el z 5)) := p.cellAt 5
theorem SgIn.c6 {B : Nat} {z : List Int} {a : Option Addr} {len cap : Nat} {w : World} (p : SgIn B z a len cap w) : w.cell? ⟨B, 6, none⟩ = some (.int .i64 (el z 6)) := p.cellAt 6
theorem SgIn.c7 {B : Nat} {z : List Int} {a : Option Addr} {len cap : Nat} {w : World} (p : SgIn B z a len cap w) : w.cell? ⟨B, 7, none⟩ = some (.slice a len cap) := p.cellAt 7
theorem Only.sg {B B' : Nat} {w w' : World} (h : Only B w w') {z : List Int} {a : Option Addr} {len cap : Nat} (p : SgIn B' z a len cap w) (hne : B' ≠ B) : SgIn B' z a len cap w' := (h.2.2.2.2 B' hne).trans p
theorem at_load {ops : Array Oper} {rest : List Oper} {o : Oper} {f : Act} {w : World} {Q : Exit → Act → World → Prop} (hgd : o.guard = none) (x : Operand) (ho : o.op = .load 30 x)
    {B : Nat} {z : List Int} {a : Option Addr} {len cap : Nat} (hx : f.eval x = .pointer (some ⟨B, 0, none⟩)) (p : SgIn B z a len cap w)
    (hK : wpList Tryz.prog ops Q rest (f.put o.dst (.agg (sgC z a len cap))) w) : wpList Tryz.prog ops Q (o :: rest) f w :=
  wpList_load_row hgd 30 x ho B hx 30 _ (0, 0) _ p Tryz.underlying30 rfl (by kernel_rfl) hK
theorem SgIn.stored {B : Nat} {z0 : List Int} {a0 : Option Addr} {len0 cap0 : Nat} {w : World} (p : SgIn B z0 a0 len0 cap0 w) (z : List Int) (a : Option Addr) (len cap : Nat) : SgIn B z a len cap (w.setRow B (sgC z a len cap)) := setRow_heap w B _ _ _ (0, 0) p
theorem at_store {ops : Array Oper} {rest : List Oper} {o : Oper} {f : Act} {w : World} {Q : Exit → Act → World → Prop} (hgd : o.guard = none) (x y : Operand) (ho : o.op = .store 30 x y)
    {B : Nat} {z0 : List Int} {a0 : Option Addr} {len0 cap0 : Nat} (hx : f.eval x = .pointer (some ⟨B, 0, none⟩)) (p : SgIn B z0 a0 len0 cap0 w)
    (z : List Int) (a : Option Addr) (len cap : Nat) (hy : f.eval y = .agg (sgC z a len cap))
    (hK : ∀ w', SgIn B z a len cap w' → Only B w w' → wpList Tryz.prog ops Q rest (f.put o.dst undef) w') : wpList Tryz.prog ops Q (o :: rest) f w :=
  wpList_store_row hgd 30 x y ho B _ hx hy 30 _ p (by kernel_rfl) rfl (by unfold sgC; simp [Value.oneCell']) (hK _ (p.stored z a len cap) (only_setRow _ _ _))
theorem results_sg {fn : Func} {p u : Tmp} (h : fn.results = #[.cell p 30, .tmp u]) (tmps : Array Value) (w : World) (B : Nat) (z : List Int) (a : Option Addr) (len cap : Nat)
    (ht : tmps.getD p undef = .pointer (some ⟨B, 0, none⟩)) (hg : SgIn B z a len cap w) :
    (results fn tmps).run Tryz.prog w = .ok (.tuple #[.agg (sgC z a len cap), tmps.getD u undef]) w := by
  rw [results_cell_tmp h, ht]
  have hl := run_loadVar_row (P := Tryz.prog) w B 30 30 _ (0, 0) _ hg Tryz.underlying30 rfl (by kernel_rfl)
  simp [asAddr, hl]
theorem sg_result {fn : Func} {p : Tmp} (h : fn.results = #[.cell p 30]) (tmps : Array Value) (w : World) (B : Nat) (z : List Int) (a : Option Addr) (len cap : Nat)
    (ht : tmps.getD p undef = .pointer (some ⟨B, 0, none⟩)) (hg : SgIn B z a len cap w) : (results fn tmps).run Tryz.prog w = .ok (.agg (sgC z a len cap)) w :=
  results_cell_row h tmps w B 30 _ (0, 0) _ ht hg Tryz.underlying30 rfl (by kernel_rfl)
def gload (x : Value) : Sem Value := Instr.loadAt 30 x
theorem gload_shut (x : Value) : Instr.loadAt 30 x = gload x := rfl
theorem SgIn.gl {B : Nat} {z : List Int} {a : Option Addr} {len cap : Nat} {w : World} (p : SgIn B z a len cap w) : (gload (.pointer (some ⟨B, 0, none⟩))).run Tryz.prog w = .ok (.agg (sgC z a len cap)) w :=
  run_loadAt_mid w B 0 30 (sgC z a len cap).toList _ (fun j v hv => by
    rw [Nat.zero_add, p.cellAt]
    simpa using hv) Tryz.underlying30 rfl (by kernel_rfl)
def gstore (x y : Value) : Sem Unit := Instr.storeAt 30 x y
theorem gstore_shut (x y : Value) : Instr.storeAt 30 x y = gstore x y := rfl
theorem SgIn.held {B : Nat} {z0 : List Int} {a0 : Option Addr} {len0 cap0 : Nat} {w : World} (p : SgIn B z0 a0 len0 cap0 w) (z : List Int) (a : Option Addr) (len cap : Nat) :
    ∃ w', (gstore (.pointer (some ⟨B, 0, none⟩)) (.agg (sgC z a len cap))).run Tryz.prog w = .ok () w' ∧ SgIn B z a len cap w' ∧ Only B w w' := by
  refine ⟨w.setRow B (sgC z a len cap), ?_, p.stored z a len cap, only_setRow _ _ _⟩
  unfold gstore
  simp only [Instr.storeAt, Instr.sureAddr, Sem.run_bind, Sem.run_pure, Result.andThen_ok]
  exact run_storeVar_row w B 30 30 _ (sgC z a len cap) p (by kernel_rfl) rfl (by unfold sgC; simp [Value.oneCell'])
theorem upto1b (m x : Int) (W : World) : Calls Tryz.prog 133 #[.int .i64 m, .slice (some ⟨W.heap.size, 0, none⟩) 1 1] (W.alloc (.cells #[.int .i64 x] 3)) fun e w' => e = .returned (.bool (up m x)) ∧ Below W.heap.size W w' :=
  (upto1 m x W.heap.size _ (ints_new W [x])).mono fun e w' ⟨h1, h2⟩ => ⟨h1, by rw [h2]; exact al_below _ _⟩
theorem upto2b (m x y : Int) (W : World) : Calls Tryz.prog 133 #[.int .i64 m, .slice (some ⟨W.heap.size, 0, none⟩) 2 2] (W.alloc (.cells #[.int .i64 x, .int .i64 y] 3)) fun e w' => e = .returned (.bool (ups m [x, y])) ∧ Below W.heap.size W w' :=
  (upto_any m W.heap.size 2 [x, y] _ rfl (by omega) (ints_new W [x, y])).mono fun e w' ⟨h1, h2⟩ => ⟨h1, by rw [h2]; exact al_below _ _⟩
theorem upto4b (m x y u v : Int) (W : World) : Calls Tryz.prog 133 #[.int .i64 m, .slice (some ⟨W.heap.size, 0, none⟩) 4 4] (W.alloc (.cells #[.int .i64 x, .int .i64 y, .int .i64 u, .int .i64 v] 3)) fun e w' => e = .returned (.bool (ups m [x, y, u, v])) ∧ Below W.heap.size W w' :=
  (upto_any m W.heap.size 4 [x, y, u, v] _ rfl (by omega) (ints_new W [x, y, u, v])).mono fun e w' ⟨h1, h2⟩ => ⟨h1, by rw [h2]; exact al_below _ _⟩
def os (z : List Int) : Bool := ups 4294967295 [el z 3, el z 4] && up 31 (el z 5) && up 65535 (el z 6)
set_option maxRecDepth 100000 in
set_option maxHeartbeats 2000000 in
theorem stream_any (z : List Int) (a : Option Addr) (len cap : Nat) (w : World) :
    Calls Tryz.prog 173 #[.agg (sgC z a len cap)] w fun e w' => e = .returned (.bool (os z)) ∧ Below w.heap.size w w' := by
  have HB := hide (al_below w (.cells (sgC z a len cap) 30))
  have HP := hide (sg_new w z a len cap)
  have HO := hide (show os z = (ups 4294967295 [el z 3, el z 4] && up 31 (el z 5) && up 65535 (el z 6)) from rfl)
  generalize os z = O at HO ⊢
  generalize h1 : ups 4294967295 [el z 3, el z 4] = u1 at HO
  generalize h2 : up 31 (el z 5) = u2 at HO
  generalize h3 : up 65535 (el z 6) = u3 at HO
  go_enter Tryz.func173, Tryz.ntmps173
  go_upto_region 1 with fail
  generalize w.alloc (.cells (sgC z a len cap) 30) = W at HB HP ⊢
  have l3 := HP.out.c3
  have l4 := HP.out.c4
  have l5 := HP.out.c5
  have l6 := HP.out.c6
  cases u1
  case' true => cases u2
  all_goals
    go_wp2_with (first
      | (go_at_call 133; (with_reducible refine (upto2b _ _ _ _).mono ?_); rintro e w1 ⟨rfl, hb1⟩; replace HB := hide (bt HB.out hb1); replace HP := hide (HP.out.kept hb1); clear hb1 l3 l4 l5 l6; have l5 := HP.out.c5; have l6 := HP.out.c6)
      | (go_at_call 133; (with_reducible refine (upto1b _ _ _).mono ?_); rintro e w2 ⟨rfl, hb2⟩; replace HB := hide (bt HB.out hb2); replace HP := hide (HP.out.kept hb2); clear hb2 l5 l6; have l5 := HP.out.c5; have l6 := HP.out.c6))
    go_ret
    exact ⟨by rw [HO.out]; rfl, HB.out⟩
end Go.Proofs.YtkhahbghmdccaaaGreat

namespace Go.Proofs.YtkhahbghmdccaaaGreat
open Go.RowKit
def sf (z : List Int) (len : Nat) : Int :=
  if (kn (el z 0) && ups 65535 [el z 1, el z 2]) = false then 1
  else if el z 0 = 6 then (if os z = false then 1 else if 300 < len then 3 else 0)
  else (if ups 0 [el z 3, el z 4, el z 5, el z 6] = false then 2 else if 300 < len then 3 else 0)
def ev (n : Int) : Value := if n = 0 then .nilIface else err n
attribute [local go_sem ↓] gload_shut
set_option maxRecDepth 100000 in
set_option maxHeartbeats 4000000 in
theorem chk_any (z : List Int) (a : Option Addr) (len cap : Nat) (w : World) (hm : len ≤ maxLen) :
    Calls Tryz.prog 132 #[.agg (sgC z a len cap)] w fun e w' => e = .returned (ev (sf z len)) ∧ Below w.heap.size w w' := by
  unfold maxLen at hm
  have HB := hide (al_below w (.cells (sgC z a len cap) 30))
  have HP := hide (sg_new w z a len cap)
  obtain ⟨E, hE⟩ : ∃ E, E = ev (sf z len) := ⟨_, rfl⟩
  rw [← hE]
  unfold sf at hE
  generalize hk : kn (el z 0) = uk at hE
  generalize hu : ups 65535 [el z 1, el z 2] = u1 at hE
  cases uk
  · have HE := hide (show E = err 1 from hE)
    clear hE
    unfold err at HE
    go_enter Tryz.func132, Tryz.ntmps132
    go_upto_region 1 with fail
    generalize w.alloc (.cells (sgC z a len cap) 30) = W at HB HP ⊢
    have l0 := HP.out.c0
    go_wp2_with (go_at_call 137; refine (known_any _ _).mono ?_; rintro e w' ⟨rfl, rfl⟩)
    go_ret
    exact ⟨by rw [HE.out]; rfl, HB.out⟩
  · cases u1
    · have HE := hide (show E = err 1 from hE)
      clear hE
      unfold err at HE
      go_enter Tryz.func132, Tryz.ntmps132
      go_upto_region 1 with fail
      generalize w.alloc (.cells (sgC z a len cap) 30) = W at HB HP ⊢
      have l0 := HP.out.c0
      have l1 := HP.out.c1
      have l2 := HP.out.c2
      go_wp2_with (first
        | (go_at_call 137; refine (known_any _ _).mono ?_; rintro e w' ⟨rfl, rfl⟩)
        | (go_at_call 133; (with_reducible refine (upto2b _ _ _ _).mono ?_); rintro e w1 ⟨rfl, hb1⟩; replace HB := hide (bt HB.out hb1); clear hb1 l0 l1 l2))
      go_ret
      exact ⟨by rw [HE.out]; rfl, HB.out⟩
    · rw [if_neg (by decide)] at hE
      generalize ho : os z = uo at hE
      generalize hn : ups 0 [el z 3, el z 4, el z 5, el z 6] = un at hE
      have HS := hide (fun W => stream_any z a len cap W)
      rw [ho] at HS
      replace hn := hide hn
      go_enter Tryz.func132, Tryz.ntmps132
      go_upto_region 1 with fail
      generalize w.alloc (.cells (sgC z a len cap) 30) = W at HB HP ⊢
      have l0 := HP.out.c0
      have l1 := HP.out.c1
      have l2 := HP.out.c2
      go_upto_region 3 with (first
        | (go_at_call 137; refine (known_any _ _).mono ?_; rintro e w' ⟨rfl, rfl⟩)
        | (go_at_call 133; (with_reducible refine (upto2b _ _ _ _).mono ?_); rintro e w1 ⟨rfl, hb1⟩; replace HB := hide (bt HB.out hb1); replace HP := hide (HP.out.kept hb1); clear hb1 l0 l1 l2))
      clear hu
      have l0 := HP.out.c0
      have l9 := HP.out.gl
      by_cases h6 : el z 0 = 6
      · rw [if_pos h6] at hE
        have e6 : (el z 0 == 6) = true := by simpa using h6
        have e17 : (el z 0 == 17) = false := by rw [h6]; rfl
        clear h6 hk
        cases uo
        · have HE := hide (show E = err 1 from hE)
          clear hE
          unfold err at HE
          go_wp2_with (go_at_call 173; refine (HS.out _).mono ?_; rintro e w2 ⟨rfl, hb2⟩; replace HB := hide (bt HB.out hb2); clear hb2 l0 l9)
          go_ret
          exact ⟨by rw [HE.out]; rfl, HB.out⟩
        · rw [if_neg (by decide)] at hE
          by_cases hl : 300 < len
          · have HE := hide (show E = err 3 by rw [hE, if_pos hl]; rfl)
            clear hE
            unfold err at HE
            go_wp2_with (go_at_call 173; refine (HS.out _).mono ?_; rintro e w2 ⟨rfl, hb2⟩; replace HB := hide (bt HB.out hb2); replace HP := hide (HP.out.kept hb2); clear hb2 l0 l9; have l0 := HP.out.c0; have l7 := HP.out.c7)
            go_ret
            exact ⟨by rw [HE.out]; rfl, HB.out⟩
          · have HE := hide (show E = .nilIface by rw [hE, if_neg hl]; rfl)
            clear hE
            go_wp2_with (go_at_call 173; refine (HS.out _).mono ?_; rintro e w2 ⟨rfl, hb2⟩; replace HB := hide (bt HB.out hb2); replace HP := hide (HP.out.kept hb2); clear hb2 l0 l9; have l0 := HP.out.c0; have l7 := HP.out.c7)
            go_ret
            exact ⟨by rw [HE.out]; rfl, HB.out⟩
      · rw [if_neg h6] at hE
        have e6 : (el z 0 == 6) = false := by simpa using h6
        have e17 : (el z 0 == 17) = true := by unfold kn at hk; rw [e6] at hk; simpa using hk
        have l3 := HP.out.c3
        have l4 := HP.out.c4
        have l5 := HP.out.c5
        have l6 := HP.out.c6
        replace hn := hn.out
        clear h6 hk l9 ho HS
        cases un
        · have HE := hide (show E = err 2 from hE)
          clear hE
          unfold err at HE
          go_wp2_with (go_at_call 133; (with_reducible refine (upto4b _ _ _ _ _ _).mono ?_); rintro e w1 ⟨rfl, hb1⟩; replace HB := hide (bt HB.out hb1); clear hb1 l0 l3 l4 l5 l6)
          go_ret
          exact ⟨by rw [HE.out]; rfl, HB.out⟩
        · rw [if_neg (by decide)] at hE
          by_cases hl : 300 < len
          · have HE := hide (show E = err 3 by rw [hE, if_pos hl]; rfl)
            clear hE
            unfold err at HE
            go_wp2_with (go_at_call 133; (with_reducible refine (upto4b _ _ _ _ _ _).mono ?_); rintro e w1 ⟨rfl, hb1⟩; replace HB := hide (bt HB.out hb1); replace HP := hide (HP.out.kept hb1); clear hb1 l0 l3 l4 l5 l6; have l7 := HP.out.c7)
            go_ret
            exact ⟨by rw [HE.out]; rfl, HB.out⟩
          · have HE := hide (show E = .nilIface by rw [hE, if_neg hl]; rfl)
            clear hE
            go_wp2_with (go_at_call 133; (with_reducible refine (upto4b _ _ _ _ _ _).mono ?_); rintro e w1 ⟨rfl, hb1⟩; replace HB := hide (bt HB.out hb1); replace HP := hide (HP.out.kept hb1); clear hb1 l0 l3 l4 l5 l6; have l7 := HP.out.c7)
            go_ret
            exact ⟨by rw [HE.out]; rfl, HB.out⟩
end Go.Proofs.YtkhahbghmdccaaaGreat

namespace Go.Proofs.YtkhahbghmdccaaaGreat
open Go.RowKit
attribute [local go_sem ↓] Go.wp_at_zero Go.wp_at_succ
theorem write12 (W0 : World) (v : Value) (zs : List Int) (x y : Int) (B : Nat) (w : World) (hg : Gr W0 w v zs) (hl : Ints B [x, y] w) (hz : zs.length ≤ 1000000) :
    Calls Tryz.prog 129 #[v, .int .i64 1, .slice (some ⟨B, 0, none⟩) 2 2] w fun e w' => ∃ v', e = .returned v' ∧ Gr W0 w' v' (zs ++ wsn 1 [x, y] 2) :=
  write_any W0 v zs 1 B 2 [x, y] w hg hl rfl (by omega) (by omega) hz
theorem write23 (W0 : World) (v : Value) (zs : List Int) (x y u : Int) (B : Nat) (w : World) (hg : Gr W0 w v zs) (hl : Ints B [x, y, u] w) (hz : zs.length ≤ 1000000) :
    Calls Tryz.prog 129 #[v, .int .i64 2, .slice (some ⟨B, 0, none⟩) 3 3] w fun e w' => ∃ v', e = .returned v' ∧ Gr W0 w' v' (zs ++ wsn 2 [x, y, u] 3) :=
  write_any W0 v zs 2 B 3 [x, y, u] w hg hl rfl (by omega) (by omega) hz
theorem ints3 (w : World) (x y u : Int) : Ints w.heap.size [x, y, u] (w.alloc (.cells #[.int .i64 x, .int .i64 y, .int .i64 u] 3)) := ints_new w [x, y, u]
def ub (z : List Int) (data : List Int) : List Int :=
  if el z 0 = 6 then (((wsn 2 [el z 1, el z 2] 2 ++ wsn 4 [el z 3, el z 4] 2) ++ wsn 1 [80, el z 5] 2) ++ wsn 2 [el z 6, 0, 0] 3) ++ data
  else (wsn 2 [el z 1, el z 2] 2 ++ wsn 2 [8 + (data.length : Int), 0] 2) ++ data
set_option maxRecDepth 100000 in
set_option maxHeartbeats 4000000 in
theorem unc_tcp (z : List Int) (a : Option Addr) (len cap : Nat) (data : List Int) (w : World) (h6 : el z 0 = 6) (hl : len ≤ 300) (hr : Row8 w a len cap data) :
    Calls Tryz.prog 134 #[.agg (sgC z a len cap)] w fun e w' => ∃ v, e = .returned v ∧ Own w.heap.size w' v (ub z data) ∧ Below w.heap.size w w' := by
  have HB := hide (al_below w (.cells (sgC z a len cap) 30))
  have HP := hide (sg_new w z a len cap)
  have HU := hide (show ub z data = (((wsn 2 [el z 1, el z 2] 2 ++ wsn 4 [el z 3, el z 4] 2) ++ wsn 1 [80, el z 5] 2) ++ wsn 2 [el z 6, 0, 0] 3) ++ data from if_pos h6)
  have W1 := hide (fun W0 W B v zs hg hi hz => write22 W0 v zs (el z 1) (el z 2) B W hg hi hz)
  have W2 := hide (fun W0 W B v zs hg hi hz => write24 W0 v zs (el z 3) (el z 4) B W hg hi hz)
  have W3 := hide (fun W0 W B v zs hg hi hz => write12 W0 v zs 80 (el z 5) B W hg hi hz)
  have W4 := hide (fun W0 W B v zs hg hi hz => write23 W0 v zs (el z 6) 0 0 B W hg hi hz)
  have L1 := hide (wsn_len 2 [el z 1, el z 2] 2)
  have L2 := hide (wsn_len 4 [el z 3, el z 4] 2)
  have L3 := hide (wsn_len 1 [80, el z 5] 2)
  have L4 := hide (wsn_len 2 [el z 6, 0, 0] 3)
  generalize ub z data = U at HU ⊢
  generalize wsn 2 [el z 1, el z 2] 2 = Z1 at HU W1 L1
  generalize wsn 4 [el z 3, el z 4] 2 = Z2 at HU W2 L2
  generalize wsn 1 [80, el z 5] 2 = Z3 at HU W3 L3
  generalize wsn 2 [el z 6, 0, 0] 3 = Z4 at HU W4 L4
  have e6 : (el z 0 == 6) = true := by simpa using h6
  have HR := hide hr
  have HM := hide (show (((Z1 ++ Z2) ++ Z3) ++ Z4).length + len ≤ 1000000000 by
    have := L1.out; have := L2.out; have := L3.out; have := L4.out
    simp only [List.length_append]; omega)
  have M1 := hide (show Z1.length ≤ 1000000 by have := L1.out; omega)
  have M2 := hide (show (Z1 ++ Z2).length ≤ 1000000 by have := L1.out; have := L2.out; rw [List.length_append]; omega)
  have M3 := hide (show ((Z1 ++ Z2) ++ Z3).length ≤ 1000000 by have := L1.out; have := L2.out; have := L3.out; simp only [List.length_append]; omega)
  clear h6 hr L1 L2 L3 L4
  go_enter Tryz.func134, Tryz.ntmps134
  go_upto_region 1 with fail
  generalize w.alloc (.cells (sgC z a len cap) 30) = W at HB HP ⊢
  have l1 := HP.out.c1
  have l2 := HP.out.c2
  go_upto_region 2 with (go_at_call 129; refine (W1.out W _ _ _ [] ((Gr.nil W).below (al_below _ _)) (ints2 W _ _) (by simp)).mono ?_; rintro e w1 ⟨v1, rfl, hg1⟩; rw [List.nil_append] at hg1; replace hg1 := hide hg1; clear l1 l2)
  have HP1 := hide (HP.out.kept hg1.out.2)
  have l0 := HP1.out.c0
  have l3 := HP1.out.c3
  have l4 := HP1.out.c4
  go_upto_region 4 with (go_at_call 129; refine (W2.out W _ _ _ _ (hg1.out.below (al_below _ _)) (ints2 w1 _ _) M1.out).mono ?_; rintro e w2 ⟨v2, rfl, hg2⟩; replace hg2 := hide hg2; clear l0 l3 l4)
  have HP2 := hide (HP.out.kept hg2.out.2)
  have l5 := HP2.out.c5
  go_upto_region 5 with (go_at_call 129; refine (W3.out W _ _ _ _ (hg2.out.below (al_below _ _)) (ints2 w2 _ _) M2.out).mono ?_; rintro e w3 ⟨v3, rfl, hg3⟩; replace hg3 := hide hg3; clear l5)
  have HP3 := hide (HP.out.kept hg3.out.2)
  have l6 := HP3.out.c6
  go_upto_region 7 with (go_at_call 129; refine (W4.out W _ _ _ _ (hg3.out.below (al_below _ _)) (ints3 w3 _ _ _) M3.out).mono ?_; rintro e w4 ⟨v4, rfl, hg4⟩; replace hg4 := hide hg4; clear l6)
  have HP4 := hide (HP.out.kept hg4.out.2)
  have l7 := HP4.out.c7
  go_wp2_with (at_builtin; refine gr_app rfl (.tmp 40) (.tmp 42) rfl rfl hg4.out rfl ((HR.out.below HB.out).below hg4.out.2) HM.out ?_; intro v5 w5 hg5; replace hg5 := hide hg5; clear l7)
  go_ret
  exact ⟨v5, rfl, HU.out ▸ hg5.out.1.mono HB.out.size, HB.out.trans (hg5.out.2.mono HB.out.size)⟩
set_option maxRecDepth 100000 in
set_option maxHeartbeats 4000000 in
theorem unc_udp (z : List Int) (a : Option Addr) (len cap : Nat) (data : List Int) (w : World) (h6 : ¬ el z 0 = 6) (hl : len ≤ 300) (hr : Row8 w a len cap data) :
    Calls Tryz.prog 134 #[.agg (sgC z a len cap)] w fun e w' => ∃ v, e = .returned v ∧ Own w.heap.size w' v (ub z data) ∧ Below w.heap.size w w' := by
  have HB := hide (al_below w (.cells (sgC z a len cap) 30))
  have HP := hide (sg_new w z a len cap)
  have HU := hide (show ub z data = (wsn 2 [el z 1, el z 2] 2 ++ wsn 2 [8 + (len : Int), 0] 2) ++ data by rw [← hr.1]; exact if_neg h6)
  have W1 := hide (fun W0 W B v zs hg hi hz => write22 W0 v zs (el z 1) (el z 2) B W hg hi hz)
  have W2 := hide (fun W0 W B v zs hg hi hz => write22 W0 v zs (8 + (len : Int)) 0 B W hg hi hz)
  have L1 := hide (wsn_len 2 [el z 1, el z 2] 2)
  have L2 := hide (wsn_len 2 [8 + (len : Int), 0] 2)
  generalize ub z data = U at HU ⊢
  generalize wsn 2 [el z 1, el z 2] 2 = Z1 at HU W1 L1
  generalize wsn 2 [8 + (len : Int), 0] 2 = Z2 at HU W2 L2
  have e6 : (el z 0 == 6) = false := by simpa using h6
  have HH := hide (fun W => head_any (el z 0) W)
  rw [show hn (el z 0) = 8 by unfold hn; rw [if_neg h6]] at HH
  have HR := hide hr
  have HM := hide (show (Z1 ++ Z2).length + len ≤ 1000000000 by
    have := L1.out; have := L2.out
    simp only [List.length_append]; omega)
  have M1 := hide (show Z1.length ≤ 1000000 by have := L1.out; omega)
  have hq : IntKind.i64.wrap (8 + (len : Int)) = 8 + (len : Int) := by rw [IntKind.wrap_i64]; omega
  clear h6 hr L1 L2
  go_enter Tryz.func134, Tryz.ntmps134
  go_upto_region 1 with fail
  generalize w.alloc (.cells (sgC z a len cap) 30) = W at HB HP ⊢
  have l1 := HP.out.c1
  have l2 := HP.out.c2
  go_upto_region 2 with (go_at_call 129; refine (W1.out W _ _ _ [] ((Gr.nil W).below (al_below _ _)) (ints2 W _ _) (by simp)).mono ?_; rintro e w1 ⟨v1, rfl, hg1⟩; rw [List.nil_append] at hg1; replace hg1 := hide hg1; clear l1 l2)
  have HP1 := hide (HP.out.kept hg1.out.2)
  have l0 := HP1.out.c0
  have l7 := HP1.out.c7
  go_upto_region 6 with fail
  have hd : Below w1.heap.size w1 w1.drew := (Below.refl w1.heap.size w1).drew
  have hdal : Below w1.heap.size w1 (w1.drew.alloc (.cells #[.int .i64 (8 + (len : Int)), .int .i64 0] 3)) := bt hd (al_below w1.drew _)
  have HI := hide (show Ints w1.heap.size [8 + (len : Int), 0] (w1.drew.alloc (.cells #[.int .i64 (8 + (len : Int)), .int .i64 0] 3)) from ints2 w1.drew _ _)
  have HG1 := hide (hg1.out.below hdal)
  have HK := hide (fun w' (h : SgIn w.heap.size z a len cap w') => show w'.cell? ⟨w.heap.size, 0, none⟩ = some (.int .i64 (el z 0)) ∧ w'.cell? ⟨w.heap.size, 7, none⟩ = some (.slice a len cap) from ⟨h.c0, h.c7⟩)
  have HPd := hide (HP1.out.kept hd)
  clear hd hdal
  go_region_held3 (fun w' => w'.cell? ⟨w.heap.size, 0, none⟩ = some (.int .i64 (el z 0)) ∧ w'.cell? ⟨w.heap.size, 7, none⟩ = some (.slice a len cap))
    (first
      | go_keep
      | exact HK.out _ HPd.out
      | exact HK.out _ HP2.out)
    (first
      | (go_at_call 138; refine (HH.out _).mono ?_; rintro e w' ⟨rfl, rfl⟩)
      | (go_at_call 129; refine (W2.out W _ _ _ _ HG1.out HI.out M1.out).mono ?_; rintro e w2 ⟨v2, rfl, hg2⟩; have HP2 := hide (HP.out.kept hg2.2); replace hg2 := hide hg2))
  clear l0 l7
  have l7 := HP2.out.c7
  go_wp2_with (at_builtin; refine gr_app rfl (.tmp 40) (.tmp 42) rfl rfl hg2.out rfl ((HR.out.below HB.out).below hg2.out.2) HM.out ?_; intro v5 w5 hg5; replace hg5 := hide hg5; clear l7)
  go_ret
  exact ⟨v5, rfl, HU.out ▸ hg5.out.1.mono HB.out.size, HB.out.trans (hg5.out.2.mono HB.out.size)⟩
end Go.Proofs.YtkhahbghmdccaaaGreat
