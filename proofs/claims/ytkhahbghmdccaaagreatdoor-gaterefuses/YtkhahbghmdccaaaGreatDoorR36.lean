/- A row of steps of gangplanklaw3, opened. GateApart: what is asked of a gate's binds. Streams belong to binds. Who asks is answered: of numbers and bytes alone. TopStream: of numbers and bytes alone; parts of slices; what is kept. Who talks stays; what is refused changes nothing: of numbers and bytes alone. -/
import Derived.Test.YtkhahbghmdccaaaGreatDoorR26
import Derived.Test.YtkhahbghmdccaaaGreatDoorR34
import Derived.Test.YtkhahbghmdccaaaGreatDoorR35
import Derived.Below
import Derived.OpenShut
import Derived.Test.YtkhahbghmdccaaaGreatDoorProg
import Derived.WalkKit
import Derived.LaidEql
import Derived.BigQuiet
import Derived.Laws.AppendOwnNone
import Derived.Laws.MakeOwn
import Derived.Deep.RegionLaw
import Derived.Lib.Bytes
import Derived.Deep.MidRow
import Derived.Laws.ResultCell
import Derived.Deep.CutBlock
import Derived.Deep.QuietTactic
import Derived.OwnWalk
import Derived.Deep.RegionHeld3
import Derived.Deep.DrawnRows
import Derived.Laws.StructEq
import Derived.Maps.AppendAt
import Derived.Maps.RangeWalk
import Derived.Stop.Asserts
import Derived.RowKitTokens
import Derived.Test.YtkhahbghmdccaaaGreatDoorShelf
import Derived.Shelf.Abstract
import Derived.Lib.SliceRun
import Derived.Lib.AppendZerosOnto
import Derived.Lib.AppendZeros
import Derived.Laws.CopyOwn
import Derived.RangeFuncNested
import Derived.RangeFuncBound
import Derived.RangeFuncCalls
import Derived.RangeFuncLeaves
import Derived.RangeFuncFrom
import Derived.Shelf.RegionOpen
import Derived.OwnWalkIn
import Derived.TacticsInMore
import Derived.LoopNIn
import Derived.LoopIn
import Derived.Deep.RegionWith
import Derived.ArgAppend
import Derived.Lib.SlBytesConst
import Derived.Lib.AppendStr
import Derived.Deep.Slices
import Derived.ChangeArms
import Derived.WideShapes
import Derived.Deep.Fields
import Derived.ChangeSlices
import Derived.Test.YtkhahbghmdccaaaGreatDoorR33
import Derived.RowKit
namespace Go.Proofs.YtkhahbghmdccaaaGreatDoor
open Go.ChangeShapes Go.WideShapes Go.Deep Go.RowKit
set_option maxRecDepth 100000 in
theorem step_of2 {H : Type} {enc : TypeId × Value → H} {W : World} {base : Nat} {held : Bool} {n : Nat} {cs : List Value} {y : DataW H × List MemPlace} (h : DataW.trod enc Tryz.prog W base (fun _ => true) held n 41 cs = some y) :
    ∃ wh ba bl bc bs z a len cap D s d hop m is, cs = (stC3 wh ba bl bc z a len cap s d hop m is).toList ∧ IsRow .u8 W ba bl bc bs ∧ Row8 W a len cap D ∧ I64 m := by
  have hu := Tryz.underlying41
  obtain ⟨xs, m, _, _, hl, hx, hall⟩ := DataW.trod_struct hu h
  have hF := Tryz.step3F
  rw [hu] at hF
  replace hF := Option.some.inj hF
  have c1 : Tryz.prog.cellsOf 3 = 1 := by kernel_rfl
  have cb : Tryz.prog.cellsOf 37 = 1 := by kernel_rfl
  have c8 : Tryz.prog.cellsOf 39 = 8 := by kernel_rfl
  have c6 : Tryz.prog.cellsOf 23 = 8 := by kernel_rfl
  have cl : Tryz.prog.cellsOf 4 = 1 := by kernel_rfl
  have c29 : Tryz.prog.cellsOf 41 = 29 := by kernel_rfl
  rw [c29] at hl
  obtain ⟨y0, g0⟩ := sg_field (k := 0) hF hx hall _ _ rfl
  obtain ⟨y1, g1⟩ := sg_field (k := 1) hF hx hall _ _ rfl
  obtain ⟨y2, g2⟩ := sg_field (k := 2) hF hx hall _ _ rfl
  obtain ⟨y3, g3⟩ := sg_field (k := 3) hF hx hall _ _ rfl
  obtain ⟨y4, g4⟩ := sg_field (k := 4) hF hx hall _ _ rfl
  obtain ⟨y5, g5⟩ := sg_field (k := 5) hF hx hall _ _ rfl
  obtain ⟨y6, g6⟩ := sg_field (k := 6) hF hx hall _ _ rfl
  obtain ⟨y7, g7⟩ := sg_field (k := 7) hF hx hall _ _ rfl
  rw [c1] at g0 g5 g6
  rw [cb] at g1
  rw [c8] at g2
  rw [c6] at g3 g4
  rw [cl] at g7
  obtain ⟨x0, e0, _, _⟩ := DataW.trod_int Tryz.underlying3 g0
  obtain ⟨x5, e5, _, _⟩ := DataW.trod_int Tryz.underlying3 g5
  obtain ⟨x6, e6, _, w6⟩ := DataW.trod_int Tryz.underlying3 g6
  obtain ⟨x7, e7, _⟩ := DataW.trod_bool Tryz.underlying4 g7
  obtain ⟨v1, e1⟩ := sg_cut (cs := cs) (o := 1) (by omega)
  rw [e1] at g1
  obtain ⟨ba, bl, bc, bs, rfl, hrow⟩ := field_bytes Tryz.underlying37 Tryz.underlying5 (by kernel_rfl) (fun _ => rfl) g1
  obtain ⟨z, a, len, cap, D, e2, hD⟩ := seg_of g2
  have hs := nums_six g3
  have hd := nums_six g4
  obtain ⟨s0, es0, _⟩ := hs.2 0 (by omega)
  rw [part_at (by omega)] at es0
  obtain ⟨s1, es1, _⟩ := hs.2 1 (by omega)
  rw [part_at (by omega)] at es1
  obtain ⟨s2, es2, _⟩ := hs.2 2 (by omega)
  rw [part_at (by omega)] at es2
  obtain ⟨s3, es3, _⟩ := hs.2 3 (by omega)
  rw [part_at (by omega)] at es3
  obtain ⟨s4, es4, _⟩ := hs.2 4 (by omega)
  rw [part_at (by omega)] at es4
  obtain ⟨s5, es5, _⟩ := hs.2 5 (by omega)
  rw [part_at (by omega)] at es5
  obtain ⟨s6, es6, _⟩ := hs.2 6 (by omega)
  rw [part_at (by omega)] at es6
  obtain ⟨s7, es7, _⟩ := hs.2 7 (by omega)
  rw [part_at (by omega)] at es7
  obtain ⟨d0, ed0, _⟩ := hd.2 0 (by omega)
  rw [part_at (by omega)] at ed0
  obtain ⟨d1, ed1, _⟩ := hd.2 1 (by omega)
  rw [part_at (by omega)] at ed1
  obtain ⟨d2, ed2, _⟩ := hd.2 2 (by omega)
  rw [part_at (by omega)] at ed2
  obtain ⟨d3, ed3, _⟩ := hd.2 3 (by omega)
  rw [part_at (by omega)] at ed3
  obtain ⟨d4, ed4, _⟩ := hd.2 4 (by omega)
  rw [part_at (by omega)] at ed4
  obtain ⟨d5, ed5, _⟩ := hd.2 5 (by omega)
  rw [part_at (by omega)] at ed5
  obtain ⟨d6, ed6, _⟩ := hd.2 6 (by omega)
  rw [part_at (by omega)] at ed6
  obtain ⟨d7, ed7, _⟩ := hd.2 7 (by omega)
  rw [part_at (by omega)] at ed7
  refine ⟨x0, ba, bl, bc, bs, z, a, len, cap, D, [s0, s1, s2, s3, s4, s5, s6, s7], [d0, d1, d2, d3, d4, d5, d6, d7], x5, x6, x7, List.ext_getElem? fun i => ?_, hrow, hD, i64_of w6⟩
  by_cases hi : i < 29
  · rcases (by omega : i = 0 ∨ i = 1 ∨ i = 2 ∨ i = 3 ∨ i = 4 ∨ i = 5 ∨ i = 6 ∨ i = 7 ∨ i = 8 ∨ i = 9 ∨ i = 10 ∨ i = 11 ∨ i = 12 ∨ i = 13 ∨ i = 14 ∨ i = 15 ∨ i = 16 ∨ i = 17 ∨ i = 18 ∨ i = 19 ∨ i = 20 ∨ i = 21 ∨ i = 22 ∨ i = 23 ∨ i = 24 ∨ i = 25 ∨ i = 26 ∨ i = 27 ∨ i = 28) with rfl | rfl | rfl | rfl | rfl | rfl | rfl | rfl | rfl | rfl | rfl | rfl | rfl | rfl | rfl | rfl | rfl | rfl | rfl | rfl | rfl | rfl | rfl | rfl | rfl | rfl | rfl | rfl | rfl
    · exact sg_one e0
    · exact sg_one e1
    · have := congrArg (fun l => l[0]?) e2; rw [part_at (by omega)] at this; exact this
    · have := congrArg (fun l => l[1]?) e2; rw [part_at (by omega)] at this; exact this
    · have := congrArg (fun l => l[2]?) e2; rw [part_at (by omega)] at this; exact this
    · have := congrArg (fun l => l[3]?) e2; rw [part_at (by omega)] at this; exact this
    · have := congrArg (fun l => l[4]?) e2; rw [part_at (by omega)] at this; exact this
    · have := congrArg (fun l => l[5]?) e2; rw [part_at (by omega)] at this; exact this
    · have := congrArg (fun l => l[6]?) e2; rw [part_at (by omega)] at this; exact this
    · have := congrArg (fun l => l[7]?) e2; rw [part_at (by omega)] at this; exact this
    · exact es0
    · exact es1
    · exact es2
    · exact es3
    · exact es4
    · exact es5
    · exact es6
    · exact es7
    · exact ed0
    · exact ed1
    · exact ed2
    · exact ed3
    · exact ed4
    · exact ed5
    · exact ed6
    · exact ed7
    · exact sg_one e5
    · exact sg_one e6
    · exact sg_one e7
  · rw [List.getElem?_eq_none (by omega), List.getElem?_eq_none (by show 29 ≤ i; omega)]
def Sts (a : Option Addr) (n : Nat) (w : World) : Prop := 0 < n → ∃ g off, a = some ⟨g, off, none⟩ ∧ ∀ k, k < n → ∃ wh ba bl bc bs z x l c zs s d hop m is, w.rangeAt g (off + k * 29) (stC3 wh ba bl bc z x l c s d hop m is).toList ∧ (Row8 w ba bl bc bs ∧ bl ≤ bc ∧ bc ≤ maxLen) ∧ Row8 w x l c zs ∧ I64 m
theorem Sts.below {a : Option Addr} {n : Nat} {w w' : World} (h : Sts a n w) (hb : Below w.heap.size w w') : Sts a n w' := by
  intro hp
  obtain ⟨g, off, e, hx⟩ := h hp
  refine ⟨g, off, e, fun k hk => ?_⟩
  obtain ⟨wh, ba, bl, bc, bs, z, x, l, c, zs, s, d, hop, m, is, h1, h2, h3, h4⟩ := hx k hk
  exact ⟨wh, ba, bl, bc, bs, z, x, l, c, zs, s, d, hop, m, is, rng_below h1 hb, ⟨h2.1.below hb, h2.2⟩, h3.below hb, h4⟩
set_option maxRecDepth 100000 in
theorem steps_open {H : Type} {enc : TypeId × Value → H} {W : World} {base : Nat} {held : Bool} {b0 : Nat} {v : Value} {x : DataW H} {p : List MemPlace} (h : Value.okWide Tryz.prog W .any b0 27 v) (ht : DataW.Trod enc Tryz.prog W base (fun _ => true) held 27 v x p) :
    ∃ a len cap, v = .slice a len cap ∧ len ≤ maxLen ∧ Sts a len W := by
  obtain ⟨a, len, cap, rfl⟩ := okWide_slice Tryz.underlying27 h
  obtain ⟨fuel, hf⟩ := ht
  rcases open_slice Tryz.underlying27 hf with ⟨hcs, _⟩ | ⟨a', len', cap', m, n, D, Pl, hcs, hb, hl, hm, hmm, _, hx⟩
  · simp [Value.cells] at hcs
    obtain ⟨rfl, rfl, rfl⟩ := hcs
    exact ⟨none, 0, 0, rfl, Nat.zero_le _, fun h => absurd h (by simp)⟩
  · simp [Value.cells] at hcs
    obtain ⟨rfl, rfl, rfl⟩ := hcs
    have c29 : Tryz.prog.cellsOf 41 = 29 := by kernel_rfl
    rw [c29] at hx
    have hlm : len ≤ m := by rw [hmm]; split <;> omega
    refine ⟨some a', len, cap, rfl, by omega, fun hp => ?_⟩
    obtain ⟨b, off, spot⟩ := a'
    have hspot : spot = none := by
      obtain ⟨cs', h1, h2⟩ := hx 0 (by omega)
      obtain ⟨wh, ba, bl, bc, bs, z, x, l, c, zs, s, d, hop, m', is, rfl, _⟩ := step_of2 h2
      obtain ⟨_, _, hcell⟩ := World.cells?_some h1
      have := hcell 0 (by omega)
      rw [add_add] at this
      have g0 : W.cell? ((⟨b, off, spot⟩ : Addr).add (0 * 29 + 0)) = some (.int .i64 wh) := by
        rw [this]
        rfl
      simpa [Addr.add] using World.cell?_spot g0
    subst hspot
    refine ⟨b, off, rfl, fun k hk => ?_⟩
    obtain ⟨cs', h1, h2⟩ := hx k (by omega)
    obtain ⟨wh, ba, bl, bc, bs, z, x, l, c, zs, s, d, hop, m', is, rfl, hrow, hD, hi⟩ := step_of2 h2
    refine ⟨wh, ba, bl, bc, bs.take bl, z, x, l, c, zs, s, d, hop, m', is, fun j v hv => ?_, ⟨hrow.row8, ?_⟩, hD, hi⟩
    rotate_left
    · rcases hrow with ⟨_, rfl, rfl, rfl⟩ | ⟨_, _, q1, q2, _⟩
      · exact ⟨Nat.le_refl _, Nat.zero_le _⟩
      · exact ⟨q1, q2⟩
    obtain ⟨_, _, hcell⟩ := World.cells?_some h1
    have hj : j < 29 := (List.getElem?_eq_some_iff.1 hv).1
    have := hcell j hj
    rw [add_add, add_pl, hv] at this
    rw [show off + k * 29 + j = off + (k * 29 + j) by omega]
    exact this
end Go.Proofs.YtkhahbghmdccaaaGreatDoor

namespace Go.Proofs.YtkhahbghmdccaaaGreatDoor
open Go.RowKit
set_option linter.unusedVariables false
theorem row_step {w : World} {g o : Nat} {wh : Int} {ba : Option Addr} {bl bc : Nat} {z : List Int} {a : Option Addr} {len cap : Nat} {s d : List Int} {hop n : Int} {is : Bool} (h : w.rangeAt g o (stC3 wh ba bl bc z a len cap s d hop n is).toList) : (stl (.pointer (some ⟨g, o, none⟩))).run Tryz.prog w = .ok (.agg (stC3 wh ba bl bc z a len cap s d hop n is)) w :=
  run_loadAt_mid w g o 41 _ _ (fun j v hv => h j v hv) Tryz.underlying41 rfl (by kernel_rfl)
end Go.Proofs.YtkhahbghmdccaaaGreatDoor

namespace Go.Proofs.YtkhahbghmdccaaaGreatDoor
open Go.RowKit
set_option linter.unusedVariables false
theorem ins_sub {x b : List Int} {bs : List (List Int)} (h : b ∈ bs) : b ∈ ins x bs := by
  obtain ⟨p, _, e, _⟩ := ins_form x bs
  rw [e]
  rw [← List.take_append_drop p bs] at h
  rcases List.mem_append.1 h with h | h
  · exact List.mem_append.2 (.inl h)
  · exact List.mem_append.2 (.inr (List.mem_append.2 (.inr h)))
theorem ins_new (x : List Int) (bs : List (List Int)) : x ∈ ins x bs := by
  obtain ⟨p, _, e, _⟩ := ins_form x bs
  rw [e]
  exact List.mem_append.2 (.inr (List.mem_append.2 (.inl (List.mem_singleton.2 rfl))))
theorem tell_usd (c : List Int) (inj : Bool) (b : List Int) (now : Int) : tell c inj (usd b now) = tell c inj b := rfl
theorem hb_usd (b : List Int) (now : Int) : hb (usd b now) = hb b := rfl
def SBI (c : List Int) (inj : Bool) (g : GS) : Prop := g.c = c ∧ g.inj = inj ∧ ∀ x ∈ g.ss, ∃ b ∈ g.bs, el b 19 = x.1 ∧ tell c inj b = true ∧ x.2.1 = hb b
theorem SBI.set {c : List Int} {inj : Bool} {g : GS} (h : SBI c inj g) {k : Nat} (hk : k < g.bs.length) : SBI c inj (g.tab g.ws g.ts (g.bs.set k (usd (g.bs.getD k []) g.now))) := ⟨h.1, h.2.1, fun x hx => by
  obtain ⟨b, hb0, e1, e2, e3⟩ := h.2.2 x hx
  obtain ⟨j, hj, rfl⟩ := List.getElem_of_mem hb0
  by_cases e : k = j
  · subst e
    refine ⟨usd (g.bs.getD k []) g.now, List.mem_set hk _, ?_, ?_, ?_⟩
    · rw [getD_at hk]; exact e1
    · rw [tell_usd, getD_at hk]; exact e2
    · rw [hb_usd, getD_at hk]; exact e3
  · exact ⟨g.bs[j], List.mem_iff_getElem.2 ⟨j, by show j < (g.bs.set k _).length; rw [List.length_set]; exact hj, by show (g.bs.set k _)[j]'_ = _; rw [List.getElem_set, if_neg e]⟩, e1, e2, e3⟩⟩
theorem bdo_sbi {c : List Int} {inj : Bool} {g : GS} (h : SBI c inj g) (f : List Int) (flags : Int) (wr : Int × Int × Int) : SBI c inj (bdo g f flags wr).2.2 := by
  cases hn : fnd g.bs f with
  | some k =>
    rw [bdo_some hn]
    exact h.set (fndY hn).1
  | none =>
    rw [bdo_none hn]
    split
    · exact h
    · split
      · exact h
      · split
        · exact h
        · refine ⟨h.1, h.2.1, fun x hx => ?_⟩
          obtain ⟨b, hb0, e⟩ := h.2.2 x hx
          exact ⟨b, ins_sub hb0, e⟩
theorem guo_sbi {c : List Int} {inj : Bool} {g : GS} (h : SBI c inj g) (b z D : List Int) {b2 : List Int} {now : Int} (hb2 : b2 ∈ g.bs) (e : b2 = b ∨ b2 = usd b now) : SBI c inj (guo g b z D).2.2.2 := by
  unfold guo
  split
  · rename_i ht
    rw [h.1, h.2.1] at ht
    refine ⟨h.1, h.2.1, fun y hy => ?_⟩
    have hb3 : el b2 19 = el b 19 ∧ tell c inj b2 = true ∧ hb b2 = hb b := by
      rcases e with rfl | rfl
      · exact ⟨rfl, ht, rfl⟩
      · exact ⟨rfl, ht, rfl⟩
    obtain ⟨x, hx, e1, ⟨e2, e3⟩ | ⟨e2, e3⟩⟩ := sup_mem hy
    · have e4 : y.2.1 = (stf g b).2.1 := by rw [e3]
      unfold stf at e4
      split at e4
      · rename_i st hs
        obtain ⟨b3, q1, q2, q3, q4⟩ := h.2.2 _ (sfd_some hs)
        exact ⟨b3, q1, q2.trans (e1.trans e2).symm, q3, e4.trans q4⟩
      · exact ⟨b2, hb2, hb3.1.trans (e1.trans e2).symm, hb3.2.1, e4.trans hb3.2.2.symm⟩
    · rw [e3]
      unfold stf at hx
      split at hx
      · exact h.2.2 x hx
      · rcases List.mem_cons.1 hx with rfl | hx
        · exact absurd rfl e2
        · exact h.2.2 x hx
  · exact h
theorem gdo_sbi {c : List Int} {inj : Bool} {g : GS} (h : SBI c inj g) (b z D : List Int) : SBI c inj (gdo g b z D).2.2.2 := by
  unfold gdo
  split
  · rename_i st hst
    refine ⟨h.1, h.2.1, fun y hy => ?_⟩
    obtain ⟨x, hx, e1, ⟨e2, e3⟩ | ⟨e2, e3⟩⟩ := sup_mem hy
    · obtain ⟨b3, q1, q2, q3, q4⟩ := h.2.2 _ (sfd_some hst)
      exact ⟨b3, q1, q2.trans (e1.trans e2).symm, q3, by rw [e3]; exact q4⟩
    · rw [e3]
      exact h.2.2 x hx
  · exact h
theorem gtk_sbi {c : List Int} {inj : Bool} {g : GS} (h : SBI c inj g) (n : Int) : SBI c inj (gtk g n).2 := by
  unfold gtk
  split
  · refine ⟨h.1, h.2.1, fun x hx => ?_⟩
    obtain ⟨h1, h2⟩ := sgo_mem.1 (show x ∈ sgo (es (g.now + n) g.bs g.ts g.bs.length).1 g.ss from hx)
    obtain ⟨b, q1, q2, q3⟩ := h.2.2 x h1
    obtain ⟨e1, e2, _⟩ := es_form (g.now + n) g.bs g.ts g.bs.length (Nat.le_refl _)
    rw [List.take_length] at e1 e2
    refine ⟨b, ?_, q2, q3⟩
    show b ∈ (es (g.now + n) g.bs g.ts g.bs.length).2.1
    rw [e2, List.mem_filter]
    refine ⟨q1, ?_⟩
    cases hx : xp (g.now + n) b
    · rfl
    · exact absurd q2.symm (h2 b (by rw [e1]; exact List.mem_filter.2 ⟨q1, hx⟩))
  · exact h
theorem gz0_sbi (c : List Int) (inj : Bool) (bk : List (List Int)) (m : Nat) : SBI c inj (gz0 c inj bk m) := ⟨rfl, rfl, fun x hx => absurd hx (by simp [gz0, GS.ss])⟩
end Go.Proofs.YtkhahbghmdccaaaGreatDoor

namespace Go.Proofs.YtkhahbghmdccaaaGreatDoor
open Go.RowKit
set_option linter.unusedVariables false
theorem port_inj {bs : List (List Int)} (h : bs.Pairwise (fun a b => el a 19 < el b 19)) {x y : List Int} (hx : x ∈ bs) (hy : y ∈ bs) (e : el x 19 = el y 19) : x = y := by
  obtain ⟨i, hi, rfl⟩ := List.getElem_of_mem hx
  obtain ⟨j, hj, rfl⟩ := List.getElem_of_mem hy
  have hp := List.pairwise_iff_getElem.1 h
  rcases (by omega : i = j ∨ i < j ∨ j < i) with rfl | hl | hl
  · rfl
  · have := hp i j hi hj hl
    omega
  · have := hp j i hj hi hl
    omega
theorem sfd_sup (p : Int) (st : List Int × Int × Bool × Bool) : ∀ {ss : List (Int × List Int × Int × Bool × Bool)} {st0 : List Int × Int × Bool × Bool}, (p, st0) ∈ ss → sfd (sup p st ss) p = some st
  | [], _, h => absurd h (by simp)
  | x :: r, st0, h => by
    by_cases e : x.1 = p
    · have : sup p st (x :: r) = (x.1, st) :: sup p st r := by
        unfold sup
        rw [List.map_cons, if_pos e]
      rw [this]
      unfold sfd
      rw [List.find?_cons_of_pos (by simpa using e)]
      rfl
    · have : sup p st (x :: r) = x :: sup p st r := by
        unfold sup
        rw [List.map_cons, if_neg e]
      rw [this]
      have hr : (p, st0) ∈ r := by
        rcases List.mem_cons.1 h with h | h
        · exact absurd (by rw [← h]) e
        · exact h
      have ih := sfd_sup p st hr
      unfold sfd at ih ⊢
      rw [List.find?_cons_of_neg (by simpa using e)]
      exact ih
theorem stf_in (g : GS) (b : List Int) : (el b 19, (stf g b).2) ∈ (stf g b).1 := by
  unfold stf
  split
  · rename_i st hs
    exact sfd_some hs
  · exact List.mem_cons_self ..
theorem cf_okg {z : List Int} {n : Nat} (h : Okg z n) (h6 : el z 0 = 6) : cf z n = 0 := by
  unfold cf
  rw [(sf_iff z n).2 h, if_neg (fun q => q.2 h6)]
end Go.Proofs.YtkhahbghmdccaaaGreatDoor

namespace Go.Proofs.YtkhahbghmdccaaaGreatDoor
open Go.RowKit
set_option linter.unusedVariables false
theorem GN.beside {w : World} {G : Nat} {g' : GS} {O : Nat → Prop} {W W' : World} (h : GN w G g' O W W') {B : Nat} (hB : B < W.heap.size) (hn : ¬ O B) : W'.heap[B]? = W.heap[B]? ∧ ∃ O', GH w G g' O' W' ∧ ¬ O' B := by
  obtain ⟨O', h1, h2, h3⟩ := h
  exact ⟨h3.1.2.2.2.2 B hB hn, O', h1, fun ho => (h2 B ho).elim hn (fun q => by omega)⟩
end Go.Proofs.YtkhahbghmdccaaaGreatDoor

namespace Go.Proofs.YtkhahbghmdccaaaGreatDoor
open Go.RowKit
set_option linter.unusedVariables false
theorem guo_bs (g : GS) (b z D : List Int) : (guo g b z D).2.2.2.bs = g.bs ∧ (guo g b z D).2.2.2.now = g.now := ⟨(guo_c g b z D).2.2, (guo_c g b z D).2.1⟩
theorem gdo_bs (g : GS) (b z D : List Int) : (gdo g b z D).2.2.2.bs = g.bs ∧ (gdo g b z D).2.2.2.now = g.now := by
  unfold gdo
  split <;> exact ⟨rfl, rfl⟩
theorem g6_form (g : GS) (zs : List Int) : (∃ r, r ≠ 0 ∧ g6 g zs = (r, [], g)) ∨ (V6.Good zs ∧ (o6s zs).1 = 0 ∧ g6 g zs = g6s g (f6 zs) (zs.getD 7 0) (o6s zs).2.1 (o6s zs).2.2) := by
  by_cases hG : V6.Good zs
  · by_cases hE : (o6s zs).1 = 0
    · refine .inr ⟨hG, hE, ?_⟩
      unfold g6 g6s
      rw [if_neg (fun h => h hG), if_neg (fun h => h hE)]
    · exact .inl ⟨_, hE, by unfold g6; rw [if_neg (fun h => h hG), if_pos hE]⟩
  · exact .inl ⟨5, by decide, by unfold g6; exact if_pos hG⟩
end Go.Proofs.YtkhahbghmdccaaaGreatDoor
