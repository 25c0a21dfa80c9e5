/- GateFirst, walked. An argument that is a step of gangplanklaw3, opened. The document's own answers of packets that were written so. Who is picked: the best of all, whatever their order, and with one of them gone. Two gates side by side. The statements' own Pick of a number below another, by a contract. TopMoves, whatever comes. What holds of a gate behind Tick, Probe and Drain; calls on a gate. What is sent by a step that answers a bind. What is sent by a step that answers a bind, walked. What is sent by a step that answers a bind, whatever it is. -/
import Derived.Test.YtkhahbghmdccaaaGreatDoorK34
import Derived.Below
import Derived.OpenShut
import Derived.Test.YtkhahbghmdccaaaGreatDoorProg
import Derived.WalkKit
import Derived.LaidEql
import Derived.BigQuiet
import Derived.Laws.AppendOwnNone
import Derived.Laws.MakeOwn
import Derived.Deep.RegionLaw
import Derived.Lib.Bytes
import Derived.Deep.MidRow
import Derived.Laws.ResultCell
import Derived.Deep.CutBlock
import Derived.Deep.QuietTactic
import Derived.OwnWalk
import Derived.Deep.RegionHeld3
import Derived.Deep.DrawnRows
import Derived.Laws.StructEq
import Derived.Maps.AppendAt
import Derived.Maps.RangeWalk
import Derived.Stop.Asserts
import Derived.RowKitTokens
import Derived.Test.YtkhahbghmdccaaaGreatDoorShelf
import Derived.Shelf.Abstract
import Derived.Lib.SliceRun
import Derived.Lib.AppendZerosOnto
import Derived.Lib.AppendZeros
import Derived.Laws.CopyOwn
import Derived.RangeFuncNested
import Derived.RangeFuncBound
import Derived.RangeFuncCalls
import Derived.RangeFuncLeaves
import Derived.RangeFuncFrom
import Derived.Shelf.RegionOpen
import Derived.OwnWalkIn
import Derived.TacticsInMore
import Derived.LoopNIn
import Derived.LoopIn
import Derived.Deep.RegionWith
import Derived.ArgAppend
import Derived.Lib.SlBytesConst
import Derived.Lib.AppendStr
import Derived.Test.YtkhahbghmdccaaaGreatDoorK15
import Derived.Test.YtkhahbghmdccaaaGreatDoorK26
import Derived.Deep.Slices
import Derived.ChangeArms
import Derived.WideShapes
import Derived.Deep.Fields
import Derived.ChangeSlices
import Derived.Test.YtkhahbghmdccaaaGreatDoorK23
import Derived.Test.YtkhahbghmdccaaaGreatDoorK24
import Derived.Test.YtkhahbghmdccaaaGreatDoorK33
import Derived.Test.YtkhahbghmdccaaaGreatDoorK16
import Derived.Test.YtkhahbghmdccaaaGreatDoorK31
namespace Go.Proofs.YtkhahbghmdccaaaGreatDoor
open Go.RowKit
attribute [local go_sem ↓] fload_shut
def Kfs (w : World) (c : List Int) (inj : Bool) (ka : Option Addr) (bk : List (List Int)) (kc : Nat) (wh : Int) (ba : Option Addr) (bl bc : Nat) (z : List Int) (a : Option Addr) (len cap : Nat) (s d : List Int) (hop n : Int) (is : Bool) (W : World) : Prop := CfIn w.heap.size c inj ka bk.length kc W ∧ StIn3 (w.heap.size + 1) wh ba bl bc z a len cap s d hop n is W ∧ Below w.heap.size w W
theorem Kfs.kept {w : World} {c : List Int} {inj : Bool} {ka : Option Addr} {bk : List (List Int)} {kc : Nat} {wh : Int} {ba : Option Addr} {bl bc : Nat} {z : List Int} {a : Option Addr} {len cap : Nat} {s d : List Int} {hop n : Int} {is : Bool} {W W' : World} (h : Kfs w c inj ka bk kc wh ba bl bc z a len cap s d hop n is W) (hb : Below W.heap.size W W') : Kfs w c inj ka bk kc wh ba bl bc z a len cap s d hop n is W' := ⟨h.1.kept hb, h.2.1.kept hb, bt h.2.2 hb⟩
theorem Kfs.start (w : World) (c : List Int) (inj : Bool) (ka : Option Addr) (bk : List (List Int)) (kc : Nat) (wh : Int) (ba : Option Addr) (bl bc : Nat) (z : List Int) (a : Option Addr) (len cap : Nat) (s d : List Int) (hop n : Int) (is : Bool) : Kfs w c inj ka bk kc wh ba bl bc z a len cap s d hop n is ((w.alloc (.cells (cfC c inj ka bk.length kc) 26)).alloc (.cells (stC3 wh ba bl bc z a len cap s d hop n is) 41)) := by
  have b1 := al_below w (.cells (cfC c inj ka bk.length kc) 26)
  have b2 := al_below (w.alloc (.cells (cfC c inj ka bk.length kc) 26)) (.cells (stC3 wh ba bl bc z a len cap s d hop n is) 41)
  have p2 := st3_new (w.alloc (.cells (cfC c inj ka bk.length kc) 26)) wh ba bl bc z a len cap s d hop n is
  rw [World.size_alloc] at p2
  exact ⟨(cf_new w c inj ka bk.length kc).kept b2, p2, bt b1 b2⟩
theorem lsent_row (z : List Int) (a : Option Addr) (len cap : Nat) (s d : List Int) (hop : Int) (c : List Int) (inj : Bool) (ka : Option Addr) (kn kc : Nat) (D : List Int) (w : World) (hr : Row8 w a len cap D) : ∃ zs : List Int, (zs = [] ∨ (Ok6 s ∧ Ok6 d ∧ up 255 hop = true ∧ Okg z D.length ∧ zs = p6o s d hop z D)) ∧
    ∀ W, Below w.heap.size w W → Calls Tryz.prog 14 #[.agg (stC3 9 none 0 0 z a len cap s d hop 0 false), .agg (cfC c inj ka kn kc), .slice none 0 0] W fun e w' => ∃ b l k, e = .returned (.slice b l k) ∧ (Row8 w' b l k zs ∧ l ≤ k ∧ k ≤ maxLen) ∧ Below W.heap.size W w' := by
  rcases lsent_any 9 none 0 0 z a len cap s d hop 0 false c inj ka kn kc (.slice none 0 0) D w (by decide) hr with h | ⟨hs, hd, ht, hz, h⟩
  · exact ⟨[], .inl rfl, fun W hW => (h W hW).mono fun e w' ⟨e1, e2⟩ => ⟨none, 0, 0, e1, ⟨gt_no _, Nat.le_refl _, Nat.zero_le _⟩, e2⟩⟩
  · refine ⟨_, .inr ⟨hs, hd, ht, hz, rfl⟩, fun W hW => (h W hW).mono fun e w' ⟨v, e1, o, e2⟩ => ?_⟩
    obtain ⟨g, k, rfl, k1, k2, _, _, r⟩ := o.form p6o_len
    exact ⟨_, _, k, e1, ⟨r, k1, k2⟩, e2⟩
attribute [local go_sem ↓] gload_shut hload_shut cload_shut sbu_shut bload_shut
end Go.Proofs.YtkhahbghmdccaaaGreatDoor

namespace Go.Proofs.YtkhahbghmdccaaaGreatDoor
open Go.ChangeShapes Go.WideShapes Go.Deep Go.RowKit
theorem Tryz.step3F : (Tryz.prog.underlying 41).map (fun d => match d with | .struct fs => fs.toList.map (fun f => (f.offset, f.type)) | _ => []) = some [(0, 3), (1, 37), (2, 39), (10, 23), (18, 23), (26, 3), (27, 3), (28, 4)] := by kernel_rfl
theorem part_at {cs : List Value} {o n j : Nat} (h : j < n) : ((cs.drop o).take n)[j]? = cs[o + j]? := by
  rw [List.getElem?_take_of_lt h, List.getElem?_drop]
set_option maxRecDepth 100000 in
theorem step_of {H : Type} {enc : TypeId × Value → H} {W : World} {base : Nat} {held : Bool} {n : Nat} {cs : List Value} {y : DataW H × List MemPlace} (h : DataW.trod enc Tryz.prog W base (fun _ => true) held n 41 cs = some y) :
    ∃ wh ba bl bc bs z a len cap D s d hop m is, cs = (stC3 wh ba bl bc z a len cap s d hop m is).toList ∧ IsRow .u8 W ba bl bc bs ∧ Row8 W a len cap D := by
  have hu := Tryz.underlying41
  obtain ⟨xs, m, _, _, hl, hx, hall⟩ := DataW.trod_struct hu h
  have hF := Tryz.step3F
  rw [hu] at hF
  replace hF := Option.some.inj hF
  have c1 : Tryz.prog.cellsOf 3 = 1 := by kernel_rfl
  have cb : Tryz.prog.cellsOf 37 = 1 := by kernel_rfl
  have c8 : Tryz.prog.cellsOf 39 = 8 := by kernel_rfl
  have c6 : Tryz.prog.cellsOf 23 = 8 := by kernel_rfl
  have cl : Tryz.prog.cellsOf 4 = 1 := by kernel_rfl
  have c29 : Tryz.prog.cellsOf 41 = 29 := by kernel_rfl
  rw [c29] at hl
  obtain ⟨y0, g0⟩ := sg_field (k := 0) hF hx hall _ _ rfl
  obtain ⟨y1, g1⟩ := sg_field (k := 1) hF hx hall _ _ rfl
  obtain ⟨y2, g2⟩ := sg_field (k := 2) hF hx hall _ _ rfl
  obtain ⟨y3, g3⟩ := sg_field (k := 3) hF hx hall _ _ rfl
  obtain ⟨y4, g4⟩ := sg_field (k := 4) hF hx hall _ _ rfl
  obtain ⟨y5, g5⟩ := sg_field (k := 5) hF hx hall _ _ rfl
  obtain ⟨y6, g6⟩ := sg_field (k := 6) hF hx hall _ _ rfl
  obtain ⟨y7, g7⟩ := sg_field (k := 7) hF hx hall _ _ rfl
  rw [c1] at g0 g5 g6
  rw [cb] at g1
  rw [c8] at g2
  rw [c6] at g3 g4
  rw [cl] at g7
  obtain ⟨x0, e0, _, _⟩ := DataW.trod_int Tryz.underlying3 g0
  obtain ⟨x5, e5, _, _⟩ := DataW.trod_int Tryz.underlying3 g5
  obtain ⟨x6, e6, _, _⟩ := DataW.trod_int Tryz.underlying3 g6
  obtain ⟨x7, e7, _⟩ := DataW.trod_bool Tryz.underlying4 g7
  obtain ⟨v1, e1⟩ := sg_cut (cs := cs) (o := 1) (by omega)
  rw [e1] at g1
  obtain ⟨ba, bl, bc, bs, rfl, hrow⟩ := field_bytes Tryz.underlying37 Tryz.underlying5 (by kernel_rfl) (fun _ => rfl) g1
  obtain ⟨z, a, len, cap, D, e2, hD⟩ := seg_of g2
  have hs := nums_six g3
  have hd := nums_six g4
  obtain ⟨s0, es0, _⟩ := hs.2 0 (by omega)
  rw [part_at (by omega)] at es0
  obtain ⟨s1, es1, _⟩ := hs.2 1 (by omega)
  rw [part_at (by omega)] at es1
  obtain ⟨s2, es2, _⟩ := hs.2 2 (by omega)
  rw [part_at (by omega)] at es2
  obtain ⟨s3, es3, _⟩ := hs.2 3 (by omega)
  rw [part_at (by omega)] at es3
  obtain ⟨s4, es4, _⟩ := hs.2 4 (by omega)
  rw [part_at (by omega)] at es4
  obtain ⟨s5, es5, _⟩ := hs.2 5 (by omega)
  rw [part_at (by omega)] at es5
  obtain ⟨s6, es6, _⟩ := hs.2 6 (by omega)
  rw [part_at (by omega)] at es6
  obtain ⟨s7, es7, _⟩ := hs.2 7 (by omega)
  rw [part_at (by omega)] at es7
  obtain ⟨d0, ed0, _⟩ := hd.2 0 (by omega)
  rw [part_at (by omega)] at ed0
  obtain ⟨d1, ed1, _⟩ := hd.2 1 (by omega)
  rw [part_at (by omega)] at ed1
  obtain ⟨d2, ed2, _⟩ := hd.2 2 (by omega)
  rw [part_at (by omega)] at ed2
  obtain ⟨d3, ed3, _⟩ := hd.2 3 (by omega)
  rw [part_at (by omega)] at ed3
  obtain ⟨d4, ed4, _⟩ := hd.2 4 (by omega)
  rw [part_at (by omega)] at ed4
  obtain ⟨d5, ed5, _⟩ := hd.2 5 (by omega)
  rw [part_at (by omega)] at ed5
  obtain ⟨d6, ed6, _⟩ := hd.2 6 (by omega)
  rw [part_at (by omega)] at ed6
  obtain ⟨d7, ed7, _⟩ := hd.2 7 (by omega)
  rw [part_at (by omega)] at ed7
  refine ⟨x0, ba, bl, bc, bs, z, a, len, cap, D, [s0, s1, s2, s3, s4, s5, s6, s7], [d0, d1, d2, d3, d4, d5, d6, d7], x5, x6, x7, List.ext_getElem? fun i => ?_, hrow, hD⟩
  by_cases hi : i < 29
  · rcases (by omega : i = 0 ∨ i = 1 ∨ i = 2 ∨ i = 3 ∨ i = 4 ∨ i = 5 ∨ i = 6 ∨ i = 7 ∨ i = 8 ∨ i = 9 ∨ i = 10 ∨ i = 11 ∨ i = 12 ∨ i = 13 ∨ i = 14 ∨ i = 15 ∨ i = 16 ∨ i = 17 ∨ i = 18 ∨ i = 19 ∨ i = 20 ∨ i = 21 ∨ i = 22 ∨ i = 23 ∨ i = 24 ∨ i = 25 ∨ i = 26 ∨ i = 27 ∨ i = 28) with rfl | rfl | rfl | rfl | rfl | rfl | rfl | rfl | rfl | rfl | rfl | rfl | rfl | rfl | rfl | rfl | rfl | rfl | rfl | rfl | rfl | rfl | rfl | rfl | rfl | rfl | rfl | rfl | rfl
    · exact sg_one e0
    · exact sg_one e1
    · have := congrArg (fun l => l[0]?) e2; rw [part_at (by omega)] at this; exact this
    · have := congrArg (fun l => l[1]?) e2; rw [part_at (by omega)] at this; exact this
    · have := congrArg (fun l => l[2]?) e2; rw [part_at (by omega)] at this; exact this
    · have := congrArg (fun l => l[3]?) e2; rw [part_at (by omega)] at this; exact this
    · have := congrArg (fun l => l[4]?) e2; rw [part_at (by omega)] at this; exact this
    · have := congrArg (fun l => l[5]?) e2; rw [part_at (by omega)] at this; exact this
    · have := congrArg (fun l => l[6]?) e2; rw [part_at (by omega)] at this; exact this
    · have := congrArg (fun l => l[7]?) e2; rw [part_at (by omega)] at this; exact this
    · exact es0
    · exact es1
    · exact es2
    · exact es3
    · exact es4
    · exact es5
    · exact es6
    · exact es7
    · exact ed0
    · exact ed1
    · exact ed2
    · exact ed3
    · exact ed4
    · exact ed5
    · exact ed6
    · exact ed7
    · exact sg_one e5
    · exact sg_one e6
    · exact sg_one e7
  · rw [List.getElem?_eq_none (by omega), List.getElem?_eq_none (by show 29 ≤ i; omega)]
set_option maxRecDepth 100000 in
theorem step_open {H : Type} {enc : TypeId × Value → H} {W : World} {base b0 : Nat} {held : Bool} {v : Value} {x : DataW H} {p : List MemPlace} (h : Value.okWide Tryz.prog W .any b0 41 v) (ht : DataW.Trod enc Tryz.prog W base (fun _ => true) held 41 v x p) :
    ∃ wh ba bl bc bs z a len cap D s d hop m is, v = .agg (stC3 wh ba bl bc z a len cap s d hop m is) ∧ IsRow .u8 W ba bl bc bs ∧ Row8 W a len cap D := by
  have hu := Tryz.underlying41
  unfold Value.okWide at h
  rw [hu] at h
  obtain ⟨cs, rfl, _⟩ := h
  obtain ⟨fuel, hf⟩ := ht
  obtain ⟨wh, ba, bl, bc, bs, z, a, len, cap, D, s, d, hop, m, is, e, h1, h2⟩ := step_of hf
  refine ⟨wh, ba, bl, bc, bs, z, a, len, cap, D, s, d, hop, m, is, ?_, h1, h2⟩
  have e' : cs.toList = (stC3 wh ba bl bc z a len cap s d hop m is).toList := e
  rw [Array.toList_inj.1 e']
end Go.Proofs.YtkhahbghmdccaaaGreatDoor

namespace Go.Proofs.YtkhahbghmdccaaaGreatDoor
open Go.RowKit
theorem rseg_eb (z D : List Int) (over : Int) (n : Nat) (a : Option Addr) (cap : Nat) (w : World) (hz : Okg z D.length) (ho : up 65535 over = true) (hn0 : n = hn (el z 0) + D.length) (hr : Row8 w a n cap (eb z over D)) (hcl : n ≤ cap) (hcm : cap ≤ maxLen) :
    Calls Tryz.prog 74 #[.int .i64 (el z 0), .slice a n cap, .int .i64 over] w fun r W' => ∃ a1 l1 c1, r = .returned (.tuple #[.agg (sgC z a1 l1 c1), .int .i64 0]) ∧ Row8 W' a1 l1 c1 D ∧ Below w.heap.size w W' := by
  have hl := hr.1
  have hoct := hr.2.2.1
  have h300 := hz.2.2.1
  have hp := hn_pos (el z 0)
  have h20 := hn_le (el z 0)
  obtain ⟨g, off, rfl, _⟩ := hr.2.2.2.2 (by omega)
  have hrd := fun j hj => rd_eb z over D hz j hj
  have hd := drop_eb z over D hz
  have he := eb_congr _ _ hrd over D
  have hsf : ∀ m, sf (rdz (el z 0) (eb z over D)) m = sf z m := sf_congr _ _ hrd
  have hsg := fun a l c => sgC_congr _ _ hrd a l c
  have hk := (kn_iff _).1 (okg_kn' hz)
  generalize hzs : eb z over D = zs at hr hl hoct hrd hd he hsf hsg
  rcases hk with h6 | h17
  · rw [h6] at hrd hd he hsf hsg ⊢
    have hH : hn (6 : Int) = 20 := rfl
    rw [hH] at hd
    have hn6 : n = 20 + D.length := by rw [hn0, h6, hH]
    have hok : Okg (rdz 6 zs) D.length := (sf_iff _ _).1 ((hsf _).trans ((sf_iff _ _).2 hz))
    have h13 := (okg_tcp zs hoct D.length h300).1 hok
    have hee : eb (rdz 6 zs) over (zs.drop 20) = zs := by rw [hd]; exact he
    have hlike := (tcp_like zs over hoct (by omega) (by omega) h13).1 (by rw [hee]; exact ⟨rfl, rfl⟩)
    have hsame := (tcp_same zs over hoct (by omega) (by omega) ho hlike).1 hee
    refine (rseg_tcp_ok over g off n cap zs w hr ho (by omega) (by omega) hcl hcm hlike true ⟨fun _ => rfl, fun _ => hsame⟩).mono ?_
    rintro e w' ⟨⟨h1, _⟩ | ⟨_, a', c', h1, h3⟩, h2⟩
    · cases h1
    · rw [hd] at h3
      exact ⟨a', _, c', by rw [h1, hsg], h3, h2⟩
  · rw [h17] at hrd hd he hsf hsg ⊢
    have hH : hn (17 : Int) = 8 := rfl
    rw [hH] at hd
    have hn17 : n = 8 + D.length := by rw [hn0, h17, hH]
    have hee : eb (rdz 17 zs) over (zs.drop 8) = zs := by rw [hd]; exact he
    have hlike := (udp_like zs over hoct (by omega) (by omega)).1 (by rw [hee]; exact ⟨rfl, rfl⟩)
    have hsame := (udp_same zs over hoct (by omega) (by omega) ho hlike).1 hee
    rw [hl] at hlike
    refine (rseg_udp_ok over g off n cap zs w hr ho (by omega) (by omega) hcl hcm hlike true ⟨fun _ => rfl, fun _ => hsame⟩).mono ?_
    rintro e w' ⟨⟨h1, _⟩ | ⟨_, a', c', h1, h3⟩, h2⟩
    · cases h1
    · rw [hd] at h3
      exact ⟨a', _, c', by rw [h1, hsg], h3, h2⟩
theorem seg4_eb (z D : List Int) (s d t i : Int) (n : Nat) (a : Option Addr) (cap : Nat) (w : World) (hz : Okg z D.length) (ho : V4.Okp s d t (el z 0) i) (hn0 : n = hn (el z 0) + D.length) (hr : Row8 w a n cap (eb z (o4 s d (el z 0) n) D)) (hcl : n ≤ cap) (hcm : cap ≤ maxLen) :
    Calls Tryz.prog 23 #[V4.pk s d t (el z 0) i a n cap] w fun r W' => ∃ a1 l1 c1, r = .returned (.tuple #[.agg (sgC z a1 l1 c1), .int .i64 0]) ∧ Row8 W' a1 l1 c1 D ∧ Below w.heap.size w W' :=
  seg4_any s d t (el z 0) i a n cap w (okg_kn' hz) ho (by have := hn_le (el z 0); have := hz.2.2.1; omega) z D 0 (fun W hW => rseg_eb z D _ n a cap W hz (o4_in _ _ _ _) hn0 (hr.below hW) hcl hcm)
end Go.Proofs.YtkhahbghmdccaaaGreatDoor

namespace Go.Proofs.YtkhahbghmdccaaaGreatDoor
open Go.RowKit
def OKs (bs : List (List Int)) : Prop := bs.length ≤ 8 ∧ (∀ b ∈ bs, okb b = true) ∧ bs.Pairwise (fun a b => el a 0 ≠ el b 0)
theorem oks_of {bs : List (List Int)} (h : (bf bs).2 = 0) : OKs bs := by
  obtain ⟨h8, hx⟩ := bf_ok h
  refine ⟨h8, fun b hb => ?_, List.pairwise_iff_getElem.2 fun i j hi hj hij => ?_⟩
  · obtain ⟨i, hi, rfl⟩ := List.mem_iff_getElem.1 hb
    have := (hx i hi).1
    rwa [getD_at hi] at this
  · have := (hx j hj).2
    unfold sid at this
    rw [List.any_eq_false] at this
    have h1 := this i (List.mem_range.2 hij)
    rw [getD_at hi, getD_at hj] at h1
    simpa using h1
theorem oks_bf {bs : List (List Int)} (h : OKs bs) : (bf bs).2 = 0 := by
  rw [bf_none (by have := h.1; omega) fun j hj => ?_]
  have h1 : okb (bs.getD j []) = true := by rw [getD_at hj]; exact h.2.1 _ (List.getElem_mem hj)
  have h2 : sid bs j = false := by
    unfold sid
    rw [List.any_eq_false]
    intro i hi
    have hij := List.mem_range.1 hi
    have := List.pairwise_iff_getElem.1 h.2.2 i j (by omega) hj hij
    rw [getD_at (by omega), getD_at hj]
    simpa using this
  unfold flt
  rw [h1, h2]
  rfl
end Go.Proofs.YtkhahbghmdccaaaGreatDoor

namespace Go.Proofs.YtkhahbghmdccaaaGreatDoor
open Go.RowKit
theorem GC.apart {G : Nat} {a : Option Addr} {cap : Nat} {tv : Value} {S : Nat} {Ot : Nat → Prop} {β : Int → Nat} {g : GS} {w w' : World} (h : GC G a cap tv S Ot β g w) (hs : w.heap.size ≤ w'.heap.size) (hk : ∀ k, GO G a Ot (SO S β g.ss) k → w'.heap[k]? = w.heap[k]?) (hr : ∀ a n c zs, Row8 w a n c zs → Row8 w' a n c zs) : GC G a cap tv S Ot β g w' :=
  ⟨h.1.same (hk G (.inl rfl)), ⟨h.2.1.1.same (fun k q => hk k (.inr (.inl q))), fun k q => Nat.lt_of_lt_of_le (h.2.1.2.1 k q) hs, h.2.1.2.2⟩, (tb_kept _ _ _ _ _ _ _ h.2.2.1).2 w' hs (fun k q => hk k (.inr (.inr (.inl q)))), h.2.2.2.1.same (fun k q => hk k (.inr (.inr (.inr q)))) hr, h.2.2.2.2⟩
def GH (w : World) (G : Nat) (g : GS) (O : Nat → Prop) (W : World) : Prop := ∃ a cap tv S Ot β, O = GO G a Ot (SO S β g.ss) ∧ OG w G a cap tv S Ot β g W
theorem GH.kept {w : World} {G : Nat} {g : GS} {O : Nat → Prop} {W W' : World} (h : GH w G g O W) (hb : Below W.heap.size W W') : GH w G g O W' := by
  obtain ⟨a, cap, tv, S, Ot, β, e, h⟩ := h
  exact ⟨a, cap, tv, S, Ot, β, e, h.kept hb⟩
theorem GH.lt {w : World} {G : Nat} {g : GS} {O : Nat → Prop} {W : World} (h : GH w G g O W) {k : Nat} (hk : O k) : k < W.heap.size := by
  obtain ⟨a, cap, tv, S, Ot, β, rfl, h⟩ := h
  exact h.1.lt hk
theorem GH.below {w : World} {G : Nat} {g : GS} {O : Nat → Prop} {W : World} (h : GH w G g O W) : Below w.heap.size w W := by
  obtain ⟨a, cap, tv, S, Ot, β, rfl, h⟩ := h
  exact h.2.2
def GN (w : World) (G : Nat) (g' : GS) (O : Nat → Prop) (W W' : World) : Prop := ∃ O', GH w G g' O' W' ∧ (∀ k, O' k → O k ∨ W.heap.size ≤ k) ∧ Kpt O W W'
theorem GH.call {w : World} {G : Nat} {g g' : GS} {O : Nat → Prop} {W : World} (h : GH w G g O W) {F : Nat} {xs : Array Value} {R : Ending → World → Prop}
    (hc : ∀ a cap tv S Ot β, GC G a cap tv S Ot β g W → Calls Tryz.prog F xs W fun e w' => R e w' ∧ GQ W G a cap tv S Ot β g g' w') :
    Calls Tryz.prog F xs W fun e w' => R e w' ∧ GN w G g' O W w' := by
  obtain ⟨a, cap, tv, S, Ot, β, rfl, h⟩ := h
  refine (hc a cap tv S Ot β h.1).mono ?_
  rintro e w' ⟨hR, Ot', β', q1, q2, q3⟩
  have hs := h.2.2.size
  exact ⟨hR, _, ⟨a, cap, tv, S, Ot', β', rfl, q1, fun k hk => (q3 k hk).elim (h.2.1 k) (fun h => by omega), q2.below h.2.2 h.2.1 hs⟩, q3, q2⟩
theorem GH.apart {w : World} {G : Nat} {g : GS} {O : Nat → Prop} {P : Nat → Prop} {W W' : World} (h : GH w G g O W) (q : Kpt P W W') (hb : Below w.heap.size w W') (hd : ∀ k, O k → ¬ P k) : GH w G g O W' := by
  obtain ⟨a, cap, tv, S, Ot, β, rfl, h⟩ := h
  exact ⟨a, cap, tv, S, Ot, β, rfl, h.1.apart q.size (fun k hk => q.1.2.2.2.2 k (h.1.lt hk) (hd k hk)) q.2, h.2.1, hb⟩
theorem NG.gh {w W w' : World} {c : List Int} {inj : Bool} {bk : List (List Int)} {m : Nat} {e : Ending} (h : NG W c inj bk m e w') (hb : Below w.heap.size w W) : ∃ G O, e = .returned (.tuple #[.pointer (some ⟨G, 0, none⟩), .nilIface]) ∧ GH w G (gz0 c inj bk m) O w' ∧ (∀ k, O k → W.heap.size ≤ k) ∧ Below W.heap.size W w' := by
  obtain ⟨G, a, cap, tv, S, Ot, e1, e2, e3, e4⟩ := h
  exact ⟨G, _, e1, ⟨a, cap, tv, S, Ot, _, rfl, e2, fun k hk => Nat.le_trans hb.size (e3 k hk), bt hb e4⟩, e3, e4⟩
end Go.Proofs.YtkhahbghmdccaaaGreatDoor

namespace Go.Proofs.YtkhahbghmdccaaaGreatDoor
open Go.RowKit
theorem pick_any (c : Int) (n : Nat) (hc : I64 c) (hn : 0 < n) (hm : n ≤ 1000) : ∃ k : Nat, k < n ∧ ∀ w : World, Calls Tryz.prog 27 #[.int .i64 c, .int .i64 n] w fun e w' => e = .returned (.int .i64 k) ∧ w' = w := by
  obtain ⟨h1, h2⟩ := hc
  have hn' : (n : Int) ≤ 1000 := by omega
  have hn0 : (0 : Int) < (n : Int) := by omega
  have hnz : ¬ (n : Int) = 0 := by omega
  by_cases h : c < 0
  · have hd := Int.emod_nonneg (-(c + 1)) hnz
    have hl := Int.emod_lt_of_pos (-(c + 1)) hn0
    obtain ⟨k, hk⟩ : ∃ k : Nat, (-(c + 1)) % (n : Int) = k := ⟨((-(c + 1)) % (n : Int)).toNat, by omega⟩
    refine ⟨k, by omega, fun w => ?_⟩
    have q : (-(c + 1)).tmod (n : Int) = (k : Int) := by rw [Int.tmod_eq_emod_of_nonneg (by omega)]; exact hk
    have q1 : IntKind.i64.wrap (c + 1) = c + 1 := by rw [IntKind.wrap_i64]; omega
    have q2 : IntKind.i64.wrap (-(c + 1)) = -(c + 1) := by rw [IntKind.wrap_i64]; omega
    clear hd hl
    have HK := hide hk
    clear hk
    go_enter Tryz.func27, Tryz.ntmps27
    go_wp2
    go_ret
    exact ⟨by first | rfl | (rw [← HK.out]; rfl) | (rw [← HK.out]; simp) | (simp [q]), rfl⟩
  · have h0 : 0 ≤ c := by omega
    have hd := Int.emod_nonneg c hnz
    have hl := Int.emod_lt_of_pos c hn0
    obtain ⟨k, hk⟩ : ∃ k : Nat, c % (n : Int) = k := ⟨(c % (n : Int)).toNat, by omega⟩
    refine ⟨k, by omega, fun w => ?_⟩
    have q : c.tmod (n : Int) = (k : Int) := by rw [Int.tmod_eq_emod_of_nonneg h0]; exact hk
    clear hd hl
    have HK := hide hk
    clear hk
    go_enter Tryz.func27, Tryz.ntmps27
    go_wp2
    go_ret
    exact ⟨by first | rfl | (rw [← HK.out]; rfl) | (rw [← HK.out]; simp) | (simp [q]), rfl⟩
end Go.Proofs.YtkhahbghmdccaaaGreatDoor

namespace Go.Proofs.YtkhahbghmdccaaaGreatDoor
open Go.RowKit
set_option linter.unusedVariables false
theorem in6_gh {g : GS} (hg : IG g) (zs : List Int) : ∀ w G O W b l k, GH w G g O W → Row8 W b l k zs → l ≤ k → k ≤ maxLen → Calls Tryz.prog 21 #[.pointer (some ⟨G, 0, none⟩), .slice b l k] W fun e w' => (∃ a2 l2 c2, e = .returned (.tuple #[.slice a2 l2 c2, ev (g6 g zs).1]) ∧ Row8 w' a2 l2 c2 (g6 g zs).2.1 ∧ l2 ≤ c2 ∧ c2 ≤ maxLen) ∧ GN w G (g6 g zs).2.2 O W w' :=
  fun w G O W b l k h r e1 e2 => h.call (R := fun e w' => ∃ a2 l2 c2, e = .returned (.tuple #[.slice a2 l2 c2, ev (g6 g zs).1]) ∧ Row8 w' a2 l2 c2 (g6 g zs).2.1 ∧ l2 ≤ c2 ∧ c2 ≤ maxLen) fun a cap tv S Ot β hG => (in6_any G a cap tv S Ot β g b l k zs W hG hg.1 hg.2.1 hg.2.2 r e1 e2).mono fun e w' ⟨a2, l2, c2, e3, e4, e5⟩ => ⟨⟨a2, l2, c2, e3, e4⟩, e5⟩
end Go.Proofs.YtkhahbghmdccaaaGreatDoor

namespace Go.Proofs.YtkhahbghmdccaaaGreatDoor
open Go.RowKit
set_option linter.unusedVariables false
theorem sgo_sub (gone : List (List Int)) : ∀ {ss : List (Int × List Int × Int × Bool × Bool)} {x : Int × List Int × Int × Bool × Bool}, x ∈ sgo gone ss → x ∈ ss := by
  unfold sgo
  induction gone with
  | nil => exact fun h => h
  | cons b r ih => exact fun h => (sdl_mem.1 (ih h)).1
theorem gtk_ig {g : GS} (h : IG g) (n : Int) : IG (gtk g n).2 := by
  unfold gtk
  split
  · rename_i hn
    obtain ⟨⟨t1, t2, t3, t4, t5⟩, hs, hc⟩ := h
    have he := t3.expire (g.now + n)
    refine ⟨⟨t1, Nat.le_trans he.2.1 t2, he.1, ?_, fun b hb => ?_⟩, fun x hx => hs x (sgo_sub _ hx), hc⟩
    · have ht := t4
      unfold tc at ht ⊢
      simp only [Bool.and_eq_true, decide_eq_true_eq] at ht ⊢
      show 0 ≤ g.now + n ∧ g.now + n ≤ _
      omega
    · have hb' : b ∈ (es (g.now + n) g.bs g.ts g.bs.length).2.1 := hb
      rw [(es_form (g.now + n) g.bs g.ts g.bs.length (Nat.le_refl _)).2.1, List.take_length] at hb'
      have := t5 b (List.mem_filter.1 hb').1
      show el b 22 ≤ g.now + n
      omega
  · exact h
theorem oks_set {bk : List (List Int)} (h : OKs bk) {i : Nat} (hi : i < bk.length) {y : List Int} (h1 : okb y = okb (bk.getD i [])) (h2 : el y 0 = el (bk.getD i []) 0) : OKs (bk.set i y) := by
  obtain ⟨k1, k2, k3⟩ := h
  refine ⟨by rw [List.length_set]; exact k1, fun b hb => ?_, ?_⟩
  · rcases List.mem_or_eq_of_mem_set hb with hb | rfl
    · exact k2 b hb
    · rw [h1, getD_at hi]
      exact k2 _ (List.getElem_mem hi)
  · have h4 : (bk.map (fun b => el b 0)).Pairwise (fun a b => a ≠ b) := List.pairwise_map.2 k3
    have h5 : (bk.set i y).map (fun b => el b 0) = bk.map (fun b => el b 0) := by
      apply List.ext_getElem?
      intro j
      rw [List.getElem?_map, List.getElem?_map, List.getElem?_set]
      by_cases h : i = j
      · subst h
        rw [if_pos rfl, if_pos hi, List.getElem?_eq_getElem hi]
        show some (el y 0) = some (el bk[i] 0)
        rw [h2, getD_at hi]
      · rw [if_neg h]
    rw [← h5] at h4
    exact List.pairwise_map.1 h4
theorem gmk_ig {g : GS} (h : IG g) (id : Int) {f : List Int → List Int} (h1 : ∀ x, okb (f x) = okb x) (h2 : ∀ x, el (f x) 0 = el x 0) : IG (gmk g id f).2 := by
  unfold gmk
  split
  · exact h
  · rename_i i hi
    exact ⟨h.1, h.2.1, h.2.2.1, h.2.2.2.1, h.2.2.2.2.1, h.2.2.2.2.2.1, oks_bf (oks_set (oks_of h.2.2.2.2.2.2) (svk_lt hi) (h1 _) (h2 _))⟩
theorem in4_gh {g : GS} (hg : IG g) (zs : List Int) : ∀ w G O W b l k, GH w G g O W → Row8 W b l k zs → l ≤ k → k ≤ maxLen → Calls Tryz.prog 24 #[.pointer (some ⟨G, 0, none⟩), .slice b l k] W fun e w' => (∃ a2 l2 c2, e = .returned (.tuple #[.slice a2 l2 c2, ev (g4 g zs).1]) ∧ Row8 w' a2 l2 c2 (g4 g zs).2.1 ∧ l2 ≤ c2 ∧ c2 ≤ maxLen) ∧ GN w G (g4 g zs).2.2 O W w' :=
  fun w G O W b l k h r e1 e2 => h.call (R := fun e w' => ∃ a2 l2 c2, e = .returned (.tuple #[.slice a2 l2 c2, ev (g4 g zs).1]) ∧ Row8 w' a2 l2 c2 (g4 g zs).2.1 ∧ l2 ≤ c2 ∧ c2 ≤ maxLen) fun a cap tv S Ot β hG => (in4_any G a cap tv S Ot β g b l k zs W hG hg.1 hg.2.1 r e1 e2).mono fun e w' ⟨a2, l2, c2, e3, e4, e5⟩ => ⟨⟨a2, l2, c2, e3, e4⟩, e5⟩
theorem tick_gh {g : GS} (hg : IG g) (n : Int) : ∀ w G O W, GH w G g O W → Calls Tryz.prog 33 #[.pointer (some ⟨G, 0, none⟩), .int .i64 n] W fun e w' => e = .returned (ev (gtk g n).1) ∧ GN w G (gtk g n).2 O W w' :=
  fun w G O W h => h.call (R := fun e _ => e = .returned (ev (gtk g n).1)) fun a cap tv S Ot β hG => gtick_any G a cap tv S Ot β g n W hG hg.1
theorem probe_gh {g : GS} (hl : g.bk.length ≤ 1000) (id : Int) (u : Bool) : ∀ w G O W, GH w G g O W → Calls Tryz.prog 58 #[.pointer (some ⟨G, 0, none⟩), .int .i64 id, .bool u] W fun e w' => e = .returned (ev (gmk g id (fun x => bup x u)).1) ∧ GN w G (gmk g id (fun x => bup x u)).2 O W w' :=
  fun w G O W h => h.call (R := fun e _ => e = .returned (ev (gmk g id (fun x => bup x u)).1)) fun a cap tv S Ot β hG => probe_any G a cap tv S Ot β g id u W hG hl
theorem drain_gh {g : GS} (hl : g.bk.length ≤ 1000) (id : Int) (u : Bool) : ∀ w G O W, GH w G g O W → Calls Tryz.prog 59 #[.pointer (some ⟨G, 0, none⟩), .int .i64 id, .bool u] W fun e w' => e = .returned (ev (gmk g id (fun x => bdr x u)).1) ∧ GN w G (gmk g id (fun x => bdr x u)).2 O W w' :=
  fun w G O W h => h.call (R := fun e _ => e = .returned (ev (gmk g id (fun x => bdr x u)).1)) fun a cap tv S Ot β hG => drain_any G a cap tv S Ot β g id u W hG hl
end Go.Proofs.YtkhahbghmdccaaaGreatDoor

namespace Go.Proofs.YtkhahbghmdccaaaGreatDoor
open Go.RowKit
set_option linter.unusedVariables false
theorem SgIn.put {B : Nat} {z : List Int} {a : Option Addr} {len cap : Nat} {w : World} (p : SgIn B z a len cap w) (j : Nat) (hj : j < 7) (v : Int) : SgIn B ((z7 z).set j v) a len cap (w.setCell ⟨B, j, none⟩ (.int .i64 v)) ∧ Only B w (w.setCell ⟨B, j, none⟩ (.int .i64 v)) := by
  rw [setCell_eq_setRow w B j _ _ (0, 0) _ p]
  have h := setRow_heap w B _ ((sgC z a len cap).setIfInBounds j (.int .i64 v)) _ (0, 0) p
  refine ⟨?_, only_setRow _ _ _⟩
  rcases (by omega : j = 0 ∨ j = 1 ∨ j = 2 ∨ j = 3 ∨ j = 4 ∨ j = 5 ∨ j = 6) with rfl | rfl | rfl | rfl | rfl | rfl | rfl <;> exact h
def ans (z b : List Int) : List Int := if el b 0 = 17 then [17, el b 21, el b 19, 0, 0, 0, 0] else [el b 0, el b 21, el b 19, el z 3, el z 4, el z 5, el z 6]
attribute [local go_sem ↓] gload_shut hload_shut bload_shut
set_option maxRecDepth 100000 in
set_option maxHeartbeats 4000000 in
theorem ls5_no (ba : Option Addr) (bl bc : Nat) (z : List Int) (a : Option Addr) (len cap : Nat) (s d : List Int) (hop n : Int) (is : Bool) (c : List Int) (inj : Bool) (ka : Option Addr) (kn kc : Nat) (ga : Option Addr) (gn gc : Nat) (w : World) (h : gn = 0 ∨ (0 < gn ∧ hop < 0) ∨ (0 < gn ∧ ¬ hop < 0 ∧ 255 < hop)) :
    Calls Tryz.prog 14 #[.agg (stC3 5 ba bl bc z a len cap s d hop n is), .agg (cfC c inj ka kn kc), .slice ga gn gc] w fun e w' => e = .returned (.slice none 0 0) ∧ Below w.heap.size w w' := by
  have HK := hide (Ks3.start w 5 ba bl bc z a len cap s d hop n is c inj ka kn kc)
  have HZ7 := hide (fun W => zero_new W)
  unfold zero7 at HZ7
  have HH := hide h
  clear h
  go_enter Tryz.func14, Tryz.ntmps14
  go_upto_region 1 with fail
  generalize (World.alloc _ _).alloc _ = W0 at HK ⊢
  have q0 := HK.out.1.what
  have q2 := HK.out.1.gl
  have HZs := hide (HZ7.out W0)
  go_upto_region 3 with (refine at_store rfl (.tmp 7) (.tmp 10) rfl rfl HZs.out z a len cap rfl ?_; intro w3 p3 on3; replace HK := hide (HK.out.kept (new_below _ on3)); clear p3 on3 q0 q2; have q0 := HK.out.1.what)
  clear q0 HZs
  have q1 := HK.out.1.hop
  rcases HH.out with rfl | ⟨h0, h1⟩ | ⟨h0, h1, h2⟩
  · clear HH
    go_wp2
    go_ret
    exact ⟨rfl, HK.out.2.2⟩
  · have hn : ¬ (gn : Int) = 0 := by omega
    clear HH
    go_wp2
    go_ret
    exact ⟨rfl, HK.out.2.2⟩
  · have hn : ¬ (gn : Int) = 0 := by omega
    clear HH
    go_wp2
    go_ret
    exact ⟨rfl, HK.out.2.2⟩
end Go.Proofs.YtkhahbghmdccaaaGreatDoor

namespace Go.Proofs.YtkhahbghmdccaaaGreatDoor
open Go.RowKit
set_option linter.unusedVariables false
theorem Ks3.only {w : World} {wh : Int} {ba : Option Addr} {bl bc : Nat} {z : List Int} {a : Option Addr} {len cap : Nat} {s d : List Int} {hop n : Int} {is : Bool} {c : List Int} {inj : Bool} {ka : Option Addr} {kn kc : Nat} {W W' : World} {B : Nat} (h : Ks3 w wh ba bl bc z a len cap s d hop n is c inj ka kn kc W) (on : Only B W W') (hB : w.heap.size + 1 < B) : Ks3 w wh ba bl bc z a len cap s d hop n is c inj ka kn kc W' := ⟨(on.2.2.2.2 _ (by omega)).trans h.1, (on.2.2.2.2 _ (by omega)).trans h.2.1, on.below h.2.2 (by omega)⟩
attribute [local go_sem ↓] gload_shut hload_shut bload_shut
set_option maxRecDepth 100000 in
set_option maxHeartbeats 8000000 in
theorem ls5_yes (ba : Option Addr) (bl bc : Nat) (z : List Int) (a : Option Addr) (cap : Nat) (s d : List Int) (hop n : Int) (is : Bool) (c : List Int) (inj : Bool) (ka : Option Addr) (kn kc : Nat) (ga go : Nat) (gn gc : Nat) (D b Y : List Int) (i : Nat) (w : World) (hn : 0 < gn) (hm : gn ≤ 128) (hi : i < gn) (h0 : ¬ hop < 0) (h1 : ¬ 255 < hop) (hr : Row8 w a D.length cap D)
    (hP : ∀ W, Calls Tryz.prog 27 #[.int .i64 n, .int .i64 gn] W fun e w' => e = .returned (.int .i64 i) ∧ w' = W)
    (hb : w.rangeAt ga (go + i * 23) (bdC b).toList)
    (hY : (sf (ans z b) D.length ≠ 0 ∧ Y = []) ∨ (sf (ans z b) D.length = 0 ∧ 0 < Y.length ∧ ∃ (k : Int) (N : Nat) (E : List Int), (∀ W a c', Row8 W a D.length c' D → Calls Tryz.prog 29 #[.agg (sgC (ans z b) a D.length c'), .int .i64 (el b 20), .int .i64 (el c 18), .int .i64 hop] W fun e w' => ∃ a1 c1, e = .returned ((.agg #[.int .i64 (el b 20), .int .i64 (el c 18), .int .i64 hop, .int .i64 k, .int .i64 0, .slice a1 N c1])) ∧ Row8 w' a1 N c1 E ∧ Below W.heap.size W w') ∧ (∀ W a1 c1, Row8 W a1 N c1 E → Calls Tryz.prog 28 #[.agg #[.int .i64 (el b 20), .int .i64 (el c 18), .int .i64 hop, .int .i64 k, .int .i64 0, .slice a1 N c1]] W fun e w' => ∃ v, e = .returned v ∧ Own W.heap.size w' v Y ∧ Below W.heap.size W w'))) :
    Calls Tryz.prog 14 #[.agg (stC3 5 ba bl bc z a D.length cap s d hop n is), .agg (cfC c inj ka kn kc), .slice (some ⟨ga, go, none⟩) gn gc] w fun e w' => ∃ b l k, e = .returned (.slice b l k) ∧ (Row8 w' b l k Y ∧ l ≤ k ∧ k ≤ maxLen) ∧ Below w.heap.size w w' := by
  have HK := hide (Ks3.start w 5 ba bl bc z a D.length cap s d hop n is c inj ka kn kc)
  have HZ7 := hide (fun W => zero_new W)
  have HZb := hide (fun W => bd_zero W)
  have HF := hide (fun z' W => rfault_any z' a D.length cap W hr.2.1)
  have HR := hide hr
  have HP := hide hP
  have HBr := hide hb
  have HY := hide hY
  have j1 : (i : Int) < (gn : Int) := by omega
  have j2 : (gn : Int) ≤ 128 := by omega
  have j3 : ¬ (gn : Int) = 0 := by omega
  unfold zero7 at HZ7
  unfold zero23 at HZb
  clear hr hP hb hY hn hm hi
  go_enter Tryz.func14, Tryz.ntmps14
  go_upto_region 1 with fail
  generalize (World.alloc _ _).alloc _ = W0 at HK ⊢
  have q0 := HK.out.1.what
  have q2 := HK.out.1.gl
  have HZs := hide (HZ7.out W0)
  go_upto_region 3 with (refine at_store rfl (.tmp 7) (.tmp 10) rfl rfl HZs.out z a D.length cap rfl ?_; intro w3 p3 on3; have HS := hide p3; have HL := hide (show w.heap.size + 1 < W0.heap.size from HK.out.2.1.lt); replace HK := hide (HK.out.kept (new_below _ on3)); clear p3 on3 q0 q2; have q0 := HK.out.1.what)
  clear q0 HZs
  generalize W0.heap.size = B at HS HL ⊢
  have q1 := HK.out.1.hop
  go_upto_region 5 with fail
  clear q1
  have q1 := HK.out.1.num
  have q2 := row_bl (show w3.rangeAt ga (go + i * 23) (bdC b).toList from fun j v hv => by have hc := HBr.out j v hv; rw [HK.out.2.2.cell (p := ⟨ga, go + i * 23 + j, none⟩) (cell_lt hc)]; exact hc)
  go_upto_region 6 with (first
    | (go_at_call 27; refine (HP.out _).mono ?_; rintro e w4 ⟨rfl, rfl⟩; have HZ := hide (HZb.out w4))
    | (refine at_storeb rfl (.tmp 8) (.tmp 34) rfl rfl HZ.out b rfl ?_; intro w5 p5 on5; have HB := hide p5; have HLb := hide (show B < w4.heap.size from HS.out.lt); replace HK := hide (HK.out.kept (new_below _ on5)); replace HS := hide (HS.out.kept (new_below _ on5)); clear p5 on5))
  clear HZ q1 q2
  generalize w4.heap.size = Bb at HB HLb ⊢
  have c0 := HS.out.c0
  have f0 := HS.out.frz 0
  have d0 := HB.out.cell 0 (by omega)
  obtain ⟨p, on⟩ := HS.out.put 0 (by omega) (el b 0)
  have HS1 := hide (show SgIn B [el b 0, el z 1, el z 2, el z 3, el z 4, el z 5, el z 6] a D.length cap _ from p)
  have HK1 := hide (HK.out.only on HL.out)
  have HB1 := hide (show BdIn Bb b _ from (on.2.2.2.2 _ (by have := HLb.out; omega)).trans HB.out)
  clear p on
  go_upto_region 7 with fail
  clear c0 f0 d0 HS HK HB
  generalize World.setCell _ _ _ = W10 at HS1 HK1 HB1 ⊢
  have HS := HS1
  have HK := HK1
  have HB := HB1
  clear HS1 HK1 HB1
  have c1 := HS.out.c1
  have f1 := HS.out.frz 1
  have d1 := HB.out.cell 21 (by omega)
  obtain ⟨p, on⟩ := HS.out.put 1 (by omega) (el b 21)
  have HS1 := hide (show SgIn B [el b 0, el b 21, el z 2, el z 3, el z 4, el z 5, el z 6] a D.length cap _ from p)
  have HK1 := hide (HK.out.only on HL.out)
  have HB1 := hide (show BdIn Bb b _ from (on.2.2.2.2 _ (by have := HLb.out; omega)).trans HB.out)
  clear p on
  go_upto_region 8 with fail
  clear c1 f1 d1 HS HK HB
  generalize World.setCell _ _ _ = W11 at HS1 HK1 HB1 ⊢
  have HS := HS1
  have HK := HK1
  have HB := HB1
  clear HS1 HK1 HB1
  have c2 := HS.out.c2
  have f2 := HS.out.frz 2
  have d2 := HB.out.cell 19 (by omega)
  obtain ⟨p, on⟩ := HS.out.put 2 (by omega) (el b 19)
  have HS1 := hide (show SgIn B [el b 0, el b 21, el b 19, el z 3, el z 4, el z 5, el z 6] a D.length cap _ from p)
  have HK1 := hide (HK.out.only on HL.out)
  have HB1 := hide (show BdIn Bb b _ from (on.2.2.2.2 _ (by have := HLb.out; omega)).trans HB.out)
  clear p on
  go_upto_region 9 with fail
  clear c2 f2 d2 HS HK HB
  generalize World.setCell _ _ _ = W12 at HS1 HK1 HB1 ⊢
  have HS := HS1
  have HK := HK1
  have HB := HB1
  clear HS1 HK1 HB1
  have q3 := HB.out.cell 0 (by omega)
  by_cases h17 : el b 0 = 17
  case pos =>
    rw [h17] at q3 HS
    go_upto_region 10 with fail
    clear q3
    have c3 := HS.out.c3
    have f3 := HS.out.frz 3
    obtain ⟨p, on⟩ := HS.out.put 3 (by omega) (0)
    have HS1 := hide (show SgIn B [17, el b 21, el b 19, 0, el z 4, el z 5, el z 6] a D.length cap _ from p)
    have HK1 := hide (HK.out.only on HL.out)
    have HB1 := hide (show BdIn Bb b _ from (on.2.2.2.2 _ (by have := HLb.out; omega)).trans HB.out)
    clear p on
    go_upto_region 11 with fail
    clear c3 f3 HS HK HB
    generalize World.setCell _ _ _ = W13 at HS1 HK1 HB1 ⊢
    have HS := HS1
    have HK := HK1
    have HB := HB1
    clear HS1 HK1 HB1
    have c4 := HS.out.c4
    have f4 := HS.out.frz 4
    obtain ⟨p, on⟩ := HS.out.put 4 (by omega) (0)
    have HS1 := hide (show SgIn B [17, el b 21, el b 19, 0, 0, el z 5, el z 6] a D.length cap _ from p)
    have HK1 := hide (HK.out.only on HL.out)
    have HB1 := hide (show BdIn Bb b _ from (on.2.2.2.2 _ (by have := HLb.out; omega)).trans HB.out)
    clear p on
    go_upto_region 12 with fail
    clear c4 f4 HS HK HB
    generalize World.setCell _ _ _ = W14 at HS1 HK1 HB1 ⊢
    have HS := HS1
    have HK := HK1
    have HB := HB1
    clear HS1 HK1 HB1
    have c5 := HS.out.c5
    have f5 := HS.out.frz 5
    obtain ⟨p, on⟩ := HS.out.put 5 (by omega) (0)
    have HS1 := hide (show SgIn B [17, el b 21, el b 19, 0, 0, 0, el z 6] a D.length cap _ from p)
    have HK1 := hide (HK.out.only on HL.out)
    have HB1 := hide (show BdIn Bb b _ from (on.2.2.2.2 _ (by have := HLb.out; omega)).trans HB.out)
    clear p on
    go_upto_region 13 with fail
    clear c5 f5 HS HK HB
    generalize World.setCell _ _ _ = W15 at HS1 HK1 HB1 ⊢
    have HS := HS1
    have HK := HK1
    have HB := HB1
    clear HS1 HK1 HB1
    have c6 := HS.out.c6
    have f6 := HS.out.frz 6
    obtain ⟨p, on⟩ := HS.out.put 6 (by omega) (0)
    have HS1 := hide (show SgIn B [17, el b 21, el b 19, 0, 0, 0, 0] a D.length cap _ from p)
    have HK1 := hide (HK.out.only on HL.out)
    have HB1 := hide (show BdIn Bb b _ from (on.2.2.2.2 _ (by have := HLb.out; omega)).trans HB.out)
    clear p on
    go_upto_region 14 with fail
    clear c6 f6 HS HK HB
    generalize World.setCell _ _ _ = W16 at HS1 HK1 HB1 ⊢
    have HS := HS1
    have HK := HK1
    have HB := HB1
    clear HS1 HK1 HB1
    have HA := hide (show SgIn B (ans z b) a D.length cap _ by unfold ans; rw [if_pos h17]; exact HS.out)
    clear HS
    have q3 := HA.out.gl
    rcases HY.out with ⟨hs, rfl⟩ | ⟨hs, hpos, k', N, E, hPk, hEn⟩
    · have HFz := hide (fun W => HF.out (ans z b) W)
      generalize sf (ans z b) D.length = e0 at HFz hs
      clear HY
      go_wp2_with (go_at_call 57; refine (HFz.out _).mono ?_; rintro e w8 ⟨rfl, hb8⟩; replace HK := hide (HK.out.kept hb8); clear hb8)
      go_ret
      exact ⟨none, 0, 0, rfl, ⟨gt_no _, Nat.le_refl _, Nat.zero_le _⟩, HK.out.2.2⟩
    · have HFz := hide (fun W => HF.out (ans z b) W)
      rw [hs] at HFz
      have HPk := hide hPk
      have HEn := hide hEn
      have HPs := hide hpos
      clear HY hs hPk hEn hpos
      go_upto_region 16 with (go_at_call 57; refine (HFz.out _).mono ?_; rintro e w8 ⟨rfl, hb8⟩; replace HK := hide (HK.out.kept hb8); replace HA := hide (HA.out.kept hb8); replace HB := hide (HB.out.kept hb8); clear hb8 q3)
      have q3 := HA.out.gl
      have q4 := HB.out.cell 20 (by omega)
      have q5 := HK.out.2.1.c18
      have q6 := HK.out.1.hop
      go_wp2_with (first
        | (go_at_call 29; refine (HPk.out _ _ _ (HR.out.below HK.out.2.2)).mono ?_; rintro e w9 ⟨a9, c9, rfl, r9, hb9⟩; have HR9 := hide r9; replace HK := hide (HK.out.kept hb9); clear hb9 r9 q3 q4 q5 q6)
        | (go_at_call 28; refine (HEn.out _ _ _ HR9.out).mono ?_; rintro e wa ⟨va, rfl, oa, hba⟩; obtain ⟨ga', ka', rfl, e1, e2, -, -, ra⟩ := oa.form HPs.out; have HRa := hide (And.intro ra (And.intro e1 e2)); replace HK := hide (HK.out.kept hba); clear oa hba e1 e2 ra))
      go_ret
      exact ⟨_, _, _, rfl, HRa.out, HK.out.2.2⟩
  case neg =>
    go_upto_region 14 with fail
    clear q3
    have HA := hide (show SgIn B (ans z b) a D.length cap _ by unfold ans; rw [if_neg h17]; exact HS.out)
    clear HS
    have q3 := HA.out.gl
    rcases HY.out with ⟨hs, rfl⟩ | ⟨hs, hpos, k', N, E, hPk, hEn⟩
    · have HFz := hide (fun W => HF.out (ans z b) W)
      generalize sf (ans z b) D.length = e0 at HFz hs
      clear HY
      go_wp2_with (go_at_call 57; refine (HFz.out _).mono ?_; rintro e w8 ⟨rfl, hb8⟩; replace HK := hide (HK.out.kept hb8); clear hb8)
      go_ret
      exact ⟨none, 0, 0, rfl, ⟨gt_no _, Nat.le_refl _, Nat.zero_le _⟩, HK.out.2.2⟩
    · have HFz := hide (fun W => HF.out (ans z b) W)
      rw [hs] at HFz
      have HPk := hide hPk
      have HEn := hide hEn
      have HPs := hide hpos
      clear HY hs hPk hEn hpos
      go_upto_region 16 with (go_at_call 57; refine (HFz.out _).mono ?_; rintro e w8 ⟨rfl, hb8⟩; replace HK := hide (HK.out.kept hb8); replace HA := hide (HA.out.kept hb8); replace HB := hide (HB.out.kept hb8); clear hb8 q3)
      have q3 := HA.out.gl
      have q4 := HB.out.cell 20 (by omega)
      have q5 := HK.out.2.1.c18
      have q6 := HK.out.1.hop
      go_wp2_with (first
        | (go_at_call 29; refine (HPk.out _ _ _ (HR.out.below HK.out.2.2)).mono ?_; rintro e w9 ⟨a9, c9, rfl, r9, hb9⟩; have HR9 := hide r9; replace HK := hide (HK.out.kept hb9); clear hb9 r9 q3 q4 q5 q6)
        | (go_at_call 28; refine (HEn.out _ _ _ HR9.out).mono ?_; rintro e wa ⟨va, rfl, oa, hba⟩; obtain ⟨ga', ka', rfl, e1, e2, -, -, ra⟩ := oa.form HPs.out; have HRa := hide (And.intro ra (And.intro e1 e2)); replace HK := hide (HK.out.kept hba); clear oa hba e1 e2 ra))
      go_ret
      exact ⟨_, _, _, rfl, HRa.out, HK.out.2.2⟩
end Go.Proofs.YtkhahbghmdccaaaGreatDoor

namespace Go.Proofs.YtkhahbghmdccaaaGreatDoor
open Go.RowKit
set_option linter.unusedVariables false
theorem lsent5 (ba : Option Addr) (bl bc : Nat) (z : List Int) (a : Option Addr) (len cap : Nat) (s d : List Int) (hop n : Int) (is : Bool) (c : List Int) (inj : Bool) (ka : Option Addr) (kn kc : Nat) (bs : List (List Int)) (D : List Int) (hl : D.length = len) (hn : I64 n) (h128 : bs.length ≤ 128) (hc : up 4294967295 (el c 18) = true) (hb : ∀ b ∈ bs, fr (el b 20) = true) :
    ∃ zs : List Int, ∀ W v, BdRow 0 W v bs → Row8 W a len cap D → Calls Tryz.prog 14 #[.agg (stC3 5 ba bl bc z a len cap s d hop n is), .agg (cfC c inj ka kn kc), v] W fun e w' => ∃ b l k, e = .returned (.slice b l k) ∧ (Row8 w' b l k zs ∧ l ≤ k ∧ k ≤ maxLen) ∧ Below W.heap.size W w' := by
  subst hl
  by_cases hno : bs.length = 0 ∨ (0 < bs.length ∧ hop < 0) ∨ (0 < bs.length ∧ ¬ hop < 0 ∧ 255 < hop)
  · refine ⟨[], fun W v hv hr => ?_⟩
    obtain ⟨ga, gc, rfl, -⟩ := hv
    exact (ls5_no ba bl bc z a D.length cap s d hop n is c inj ka kn kc ga bs.length gc W hno).mono fun e w' ⟨e1, e2⟩ => ⟨none, 0, 0, e1, ⟨gt_no _, Nat.le_refl _, Nat.zero_le _⟩, e2⟩
  · have hpos : 0 < bs.length := Nat.pos_of_ne_zero fun e => hno (.inl e)
    have h0 : ¬ hop < 0 := fun e => hno (.inr (.inl ⟨hpos, e⟩))
    have h1 : ¬ 255 < hop := fun e => hno (.inr (.inr ⟨hpos, h0, e⟩))
    obtain ⟨i, hi, hP⟩ := pick_any n bs.length hn hpos (by omega)
    obtain ⟨b, hbe⟩ : ∃ b, b = bs.getD i [] := ⟨_, rfl⟩
    have hbm : b ∈ bs := by rw [hbe]; exact mem_getD hi
    have hu : up 4294967295 (el b 20) = true := by
      have h := hb b hbm
      unfold fr at h
      rw [Bool.and_eq_true, decide_eq_true_eq, decide_eq_true_eq] at h
      exact decide_eq_true h
    have ht : up 255 hop = true := decide_eq_true (by omega)
    by_cases hs : sf (ans z b) D.length = 0
    · obtain ⟨k, N, E, hPk, hEn⟩ := pk4_bundle hu hc ht ((sf_iff _ _).1 hs)
      refine ⟨p4o (el b 20) (el c 18) hop (ans z b) D, fun W v hv hr => ?_⟩
      obtain ⟨ga, gc, rfl, hx⟩ := hv
      obtain ⟨g, off, rfl, -, hx⟩ := hx hpos
      exact ls5_yes ba bl bc z a cap s d hop n is c inj ka kn kc g off bs.length gc D b _ i W hpos h128 hi h0 h1 hr hP (by rw [hbe]; exact hx i hi) (.inr ⟨hs, p4o_len, k, N, E, hPk, hEn⟩)
    · refine ⟨[], fun W v hv hr => ?_⟩
      obtain ⟨ga, gc, rfl, hx⟩ := hv
      obtain ⟨g, off, rfl, -, hx⟩ := hx hpos
      exact ls5_yes ba bl bc z a cap s d hop n is c inj ka kn kc g off bs.length gc D b [] i W hpos h128 hi h0 h1 hr hP (by rw [hbe]; exact hx i hi) (.inl ⟨hs, rfl⟩)
end Go.Proofs.YtkhahbghmdccaaaGreatDoor
