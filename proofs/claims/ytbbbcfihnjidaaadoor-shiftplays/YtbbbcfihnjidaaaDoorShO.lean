/- Rows of segments: as they come in, opened; one of them, loaded. -/
import Derived.Test.YtbbbcfihnjidaaaDoorShF
import Derived.Test.YtbbbcfihnjidaaaDoorAggs
import Derived.Deep.Slices
namespace Go.Proofs.YtbbbcfihnjidaaaDoor
open Go.ChangeShapes Go.WideShapes Go.Deep Go.RowKit

/-- so many segments, one behind the other. -/
def Sgs (a : Option Addr) (n : Nat) (w : World) : Prop := 0 < n → ∃ g off, a = some ⟨g, off, none⟩ ∧ ∀ k, k < n → ∃ z x l c zs, w.rangeAt g (off + k * 8) (sgC z x l c).toList ∧ Row8 w x l c zs
theorem rng_below {w w' : World} {g o : Nat} {vs : List Value} (h : w.rangeAt g o vs) (hb : Below w.heap.size w w') : w'.rangeAt g o vs := fun j v hv => by
  have hc := h j v hv
  rw [hb.cell (p := ⟨g, o + j, none⟩) (cell_lt hc)]
  exact hc
theorem rng_sg {w : World} {g o : Nat} {z : List Int} {x : Option Addr} {l c : Nat} (h : w.rangeAt g o (sgC z x l c).toList) (j : Nat) (v : Value) (hv : (sgC z x l c)[j]? = some v) : w.cell? ⟨g, o + j, none⟩ = some v := h j v (by simpa using hv)
theorem Sgs.below {a : Option Addr} {n : Nat} {w w' : World} (h : Sgs a n w) (hb : Below w.heap.size w w') : Sgs a n w' := by
  intro hp
  obtain ⟨g, off, e, hx⟩ := h hp
  refine ⟨g, off, e, fun k hk => ?_⟩
  obtain ⟨z, x, l, c, zs, h1, h2⟩ := hx k hk
  exact ⟨z, x, l, c, zs, rng_below h1 hb, h2.below hb⟩
/-- one of them, loaded at a plain region's list. -/
theorem at_loadr {ops : Array Oper} {rest : List Oper} {o : Oper} {f : Act} {w : World} {Q : Exit → Act → World → Prop} (hgd : o.guard = none) (y : Operand) (ho : o.op = .load 36 y)
    {g off : Nat} {z : List Int} {x : Option Addr} {l c : Nat} (hy : f.eval y = .pointer (some ⟨g, off, none⟩)) (p : w.rangeAt g off (sgC z x l c).toList)
    (hK : wpList Tryd.prog ops Q rest (f.put o.dst (.agg (sgC z x l c))) w) : wpList Tryd.prog ops Q (o :: rest) f w :=
  wpList_load_mid hgd 36 y ho g off hy (sgC z x l c).toList _ p Tryd.underlying36 rfl (by kernel_rfl) hK
theorem Tryd.segF : (Tryd.prog.underlying 36).map (fun d => match d with | .struct fs => fs.toList.map (fun f => (f.offset, f.type)) | _ => []) = some [(0, 3), (1, 3), (2, 3), (3, 3), (4, 3), (5, 3), (6, 3), (7, 22)] := by kernel_rfl
theorem sg_some {α : Type} {x : Option α} {l : List α} {i : Nat} (h : x = l[i]?) (hi : i < l.length) : ∃ y, x = some y := ⟨l[i], h.trans (List.getElem?_eq_getElem hi)⟩
/-- a field's own cells. -/
theorem sg_field {H : Type} {enc : TypeId × Value → H} {W : World} {base : Nat} {spare : Nat → Bool} {held : Bool} {fs : Array Field} {n k : Nat} {cs : List Value} {xs : List (DataW H × List MemPlace)} {L : List (Nat × TypeId)} (hL : fs.toList.map (fun f => (f.offset, f.type)) = L) (hx : xs.length = fs.size)
    (hall : ∀ (i : Nat) (f : Field), fs[i]? = some f → DataW.trod enc Tryd.prog W base spare held n f.type ((cs.drop f.offset).take (Tryd.prog.cellsOf f.type)) = xs[i]?) (o : Nat) (t : TypeId) (hk : L[k]? = some (o, t)) :
    ∃ y, DataW.trod enc Tryd.prog W base spare held n t ((cs.drop o).take (Tryd.prog.cellsOf t)) = some y := by
  rw [← hL, List.getElem?_map] at hk
  obtain ⟨f, hf, e⟩ := Option.map_eq_some_iff.1 hk
  have hf' : fs[k]? = some f := by simpa using hf
  have hlt : k < fs.size := (Array.getElem?_eq_some_iff.1 hf').1
  obtain ⟨y, hy⟩ := sg_some (hall k f hf') (by omega)
  injection e with e1 e2
  subst e1; subst e2
  exact ⟨y, hy⟩
theorem sg_one {cs : List Value} {o : Nat} {v : Value} (h : (cs.drop o).take 1 = [v]) : cs[o]? = some v := by
  have h1 : ((cs.drop o).take 1)[0]? = some v := by rw [h]; rfl
  rw [List.getElem?_take_of_lt (by omega), List.getElem?_drop, Nat.add_zero] at h1
  exact h1
theorem sg_cut {cs : List Value} {o : Nat} (h : o < cs.length) : ∃ v, (cs.drop o).take 1 = [v] := by
  refine ⟨cs[o], ?_⟩
  rw [List.drop_eq_getElem_cons h]
  rfl
theorem seg_of {H : Type} {enc : TypeId × Value → H} {W : World} {base : Nat} {held : Bool} {n : Nat} {cs : List Value} {y : DataW H × List MemPlace} (h : DataW.trod enc Tryd.prog W base (fun _ => true) held n 36 cs = some y) : ∃ z x l c zs, cs = (sgC z x l c).toList ∧ Row8 W x l c zs := by
  have hu := Tryd.underlying36
  obtain ⟨xs, m, _, _, hl, hx, hall⟩ := DataW.trod_struct hu h
  have hF := Tryd.segF
  rw [hu] at hF
  replace hF := Option.some.inj hF
  have c1 : Tryd.prog.cellsOf 3 = 1 := by kernel_rfl
  have cb : Tryd.prog.cellsOf 22 = 1 := by kernel_rfl
  have c8 : Tryd.prog.cellsOf 36 = 8 := by kernel_rfl
  rw [c8] at hl
  obtain ⟨y0, g0⟩ := sg_field (k := 0) hF hx hall _ _ rfl
  obtain ⟨y1, g1⟩ := sg_field (k := 1) hF hx hall _ _ rfl
  obtain ⟨y2, g2⟩ := sg_field (k := 2) hF hx hall _ _ rfl
  obtain ⟨y3, g3⟩ := sg_field (k := 3) hF hx hall _ _ rfl
  obtain ⟨y4, g4⟩ := sg_field (k := 4) hF hx hall _ _ rfl
  obtain ⟨y5, g5⟩ := sg_field (k := 5) hF hx hall _ _ rfl
  obtain ⟨y6, g6⟩ := sg_field (k := 6) hF hx hall _ _ rfl
  obtain ⟨y7, g7⟩ := sg_field (k := 7) hF hx hall _ _ rfl
  rw [c1] at g0 g1 g2 g3 g4 g5 g6
  rw [cb] at g7
  obtain ⟨x0, e0, _, _⟩ := DataW.trod_int Tryd.underlying3 g0
  obtain ⟨x1, e1, _, _⟩ := DataW.trod_int Tryd.underlying3 g1
  obtain ⟨x2, e2, _, _⟩ := DataW.trod_int Tryd.underlying3 g2
  obtain ⟨x3, e3, _, _⟩ := DataW.trod_int Tryd.underlying3 g3
  obtain ⟨x4, e4, _, _⟩ := DataW.trod_int Tryd.underlying3 g4
  obtain ⟨x5, e5, _, _⟩ := DataW.trod_int Tryd.underlying3 g5
  obtain ⟨x6, e6, _, _⟩ := DataW.trod_int Tryd.underlying3 g6
  obtain ⟨v7, e7⟩ := sg_cut (cs := cs) (o := 7) (by omega)
  rw [e7] at g7
  obtain ⟨a, len, cap, zs, rfl, hrow⟩ := field_bytes Tryd.underlying22 Tryd.underlying5 (by kernel_rfl) (fun _ => rfl) g7
  refine ⟨[x0, x1, x2, x3, x4, x5, x6], a, len, cap, zs.take len, List.ext_getElem? fun i => ?_, hrow.row8⟩
  by_cases hi : i < 8
  · rcases (by omega : i = 0 ∨ i = 1 ∨ i = 2 ∨ i = 3 ∨ i = 4 ∨ i = 5 ∨ i = 6 ∨ i = 7) with rfl | rfl | rfl | rfl | rfl | rfl | rfl | rfl
    · exact sg_one e0
    · exact sg_one e1
    · exact sg_one e2
    · exact sg_one e3
    · exact sg_one e4
    · exact sg_one e5
    · exact sg_one e6
    · exact sg_one e7
  · rw [List.getElem?_eq_none (by omega), List.getElem?_eq_none (by show 8 ≤ i; omega)]
set_option maxRecDepth 100000 in
/-- a row of segments, opened. -/
theorem sgs_open {H : Type} {enc : TypeId × Value → H} {W : World} {base : Nat} {held : Bool} {b0 : Nat} {v : Value} {x : DataW H} {p : List MemPlace} (h : Value.okWide Tryd.prog W .any b0 23 v) (ht : DataW.Trod enc Tryd.prog W base (fun _ => true) held 23 v x p) :
    ∃ a len cap, v = .slice a len cap ∧ len ≤ maxLen ∧ Sgs a len W := by
  obtain ⟨a, len, cap, rfl⟩ := okWide_slice Tryd.underlying23 h
  obtain ⟨fuel, hf⟩ := ht
  rcases open_slice Tryd.underlying23 hf with ⟨hcs, _⟩ | ⟨a', len', cap', m, n, D, Pl, hcs, hb, hl, hm, hmm, _, hx⟩
  · simp [Value.cells] at hcs
    obtain ⟨rfl, rfl, rfl⟩ := hcs
    exact ⟨none, 0, 0, rfl, Nat.zero_le _, fun h => absurd h (by simp)⟩
  · simp [Value.cells] at hcs
    obtain ⟨rfl, rfl, rfl⟩ := hcs
    have c8 : Tryd.prog.cellsOf 36 = 8 := by kernel_rfl
    rw [c8] at hx
    have hlm : len ≤ m := by rw [hmm]; split <;> omega
    refine ⟨some a', len, cap, rfl, by omega, fun hp => ?_⟩
    obtain ⟨b, off, spot⟩ := a'
    have hspot : spot = none := by
      obtain ⟨cs', h1, h2⟩ := hx 0 (by omega)
      obtain ⟨z, x, l, c, zs, rfl, _⟩ := seg_of h2
      obtain ⟨_, _, hcell⟩ := World.cells?_some h1
      have := hcell 0 (by omega)
      rw [add_add] at this
      have g0 : W.cell? ((⟨b, off, spot⟩ : Addr).add (0 * 8 + 0)) = some (.int .i64 (el z 0)) := by
        rw [this]
        rfl
      simpa [Addr.add] using World.cell?_spot g0
    subst hspot
    refine ⟨b, off, rfl, fun k hk => ?_⟩
    obtain ⟨cs', h1, h2⟩ := hx k (by omega)
    obtain ⟨z, x, l, c, zs, rfl, hrow⟩ := seg_of h2
    refine ⟨z, x, l, c, zs, fun j v hv => ?_, hrow⟩
    obtain ⟨_, _, hcell⟩ := World.cells?_some h1
    have hj : j < 8 := (List.getElem?_eq_some_iff.1 hv).1
    have := hcell j hj
    rw [add_add, add_pl, hv] at this
    rw [show off + k * 8 + j = off + (k * 8 + j) by omega]
    exact this
end Go.Proofs.YtbbbcfihnjidaaaDoor
