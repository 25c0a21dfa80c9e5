/- A slice of integers that came in. An argument that is an address. Arguments that are a flow, or a row of servers, opened. -/
import Derived.Test.YtkhahbghmdccaaaGreatP18
import Derived.Test.YtkhahbghmdccaaaGreatProg
import Derived.Below
import Derived.OpenShut
import Derived.RowKit
import Derived.WalkKit
import Derived.LaidEql
import Derived.BigQuiet
import Derived.Laws.AppendOwnNone
import Derived.Laws.MakeOwn
import Derived.Deep.RegionLaw
import Derived.Test.YtkhahbghmdccaaaGreatP24
import Derived.WideShapes
import Derived.Test.YtkhahbghmdccaaaGreatP35
import Derived.Lib.Bytes
import Derived.Deep.MidRow
import Derived.Laws.ResultCell
import Derived.Deep.CutBlock
import Derived.Deep.QuietTactic
import Derived.OwnWalk
import Derived.Deep.RegionHeld3
import Derived.Deep.DrawnRows
import Derived.Maps.AppendAt
import Derived.Laws.StructEq
import Derived.Deep.Slices
import Derived.ChangeArms
namespace Go.Proofs.YtkhahbghmdccaaaGreat
open Go.RowKit
/-- what a walk is told of a slice of integers: it is nil, or it leads to a row of cells that hold the numbers zs, spare ones too. -/
def IsRow (k : IntKind) (w : World) (a : Option Addr) (len cap : Nat) (zs : List Int) : Prop :=
  (a = none ∧ len = 0 ∧ cap = 0 ∧ zs = []) ∨
  ∃ x, a = some x ∧ len ≤ cap ∧ cap ≤ maxLen ∧ zs.length = cap ∧ (∀ i, i < zs.length → w.cell? (x.add i) = some (.int k (zs.getD i 0))) ∧ ∀ n ∈ zs, (Lit.int k n).wf = true
theorem IsRow.len_le {k : IntKind} {w : World} {a : Option Addr} {len cap : Nat} {zs : List Int} (h : IsRow k w a len cap zs) : len ≤ cap ∧ zs.length = cap := by
  rcases h with ⟨_, rfl, rfl, rfl⟩ | ⟨_, _, h1, _, h2, _, _⟩
  · simp
  · exact ⟨h1, h2⟩
theorem IsRow.oct {w : World} {a : Option Addr} {len cap : Nat} {zs : List Int} (h : IsRow .u8 w a len cap zs) : SM.Oct zs := by
  rcases h with ⟨_, _, _, rfl⟩ | ⟨_, _, _, _, _, _, h⟩
  · intro k; simp
  · intro k
    have := Go.range_u8 h k
    rw [List.getD_eq_getElem?_getD]
    exact this
theorem IsRow.opened {k : IntKind} {w : World} {a : Option Addr} {len cap : Nat} {zs : List Int} (h : IsRow k w a len cap zs) (hp : 0 < len) :
    ∃ b off, a = some ⟨b, off, none⟩ ∧ len ≤ cap ∧ cap ≤ maxLen ∧ zs.length = cap ∧ ∀ i, i < cap → w.cell? ⟨b, off + i, none⟩ = some (.int k (zs.getD i 0)) := by
  rcases h with ⟨_, rfl, _, _⟩ | ⟨x, rfl, h1, h2, h3, hc, _⟩
  · exact absurd hp (by omega)
  · obtain ⟨b, off, spot⟩ := x
    have hc0 := hc 0 (by omega)
    have hspot : spot = none := by simpa [Addr.add] using World.cell?_spot hc0
    subst hspot
    exact ⟨b, off, rfl, h1, h2, h3, fun i hi => by by_cases h0 : i = 0 <;> simpa [Addr.add, h0] using hc i (by omega)⟩
/-- a row that came in is there still where nothing old has turned. -/
theorem IsRow.below {k : IntKind} {w w' : World} {a : Option Addr} {len cap : Nat} {zs : List Int} (h : IsRow k w a len cap zs) (hb : Below w.heap.size w w') : IsRow k w' a len cap zs := by
  rcases h with h | ⟨x, h0, h1, h2, h3, hc, h4⟩
  · exact .inl h
  · refine .inr ⟨x, h0, h1, h2, h3, fun i hi => ?_, h4⟩
    have hci := hc i hi
    have hlt : (x.add i).block < w.heap.size := by
      rcases Nat.lt_or_ge (x.add i).block w.heap.size with h | h
      · exact h
      · simp [World.cell?, Array.getElem?_eq_none h] at hci
    rw [hb.cell hlt]; exact hci
theorem IsRow.row8 {w : World} {a : Option Addr} {len cap : Nat} {zs : List Int} (h : IsRow .u8 w a len cap zs) : Row8 w a len cap (zs.take len) := by
  have hl := h.len_le
  have ho := h.oct
  refine ⟨by simp; omega, ?_, SM.oct_take _ ho _, ?_, fun hp => ?_⟩
  · rcases h with ⟨_, rfl, _, _⟩ | ⟨_, _, h1, h2, _⟩
    · exact Nat.zero_le _
    · omega
  · rintro rfl
    rcases h with ⟨_, h1, h2, _⟩ | ⟨_, h1, _⟩
    · exact ⟨h1, h2⟩
    · cases h1
  · obtain ⟨b, off, h0, h1, h2, h3, h4⟩ := h.opened hp
    refine ⟨b, off, h0, fun i hi => ?_⟩
    rw [h4 i (by omega)]
    simp [hi]
end Go.Proofs.YtkhahbghmdccaaaGreat

namespace Go.Proofs.YtkhahbghmdccaaaGreat
open Go.RowKit
set_option maxRecDepth 100000 in
/-- an argument that is an address. -/
theorem six_open {W : World} {base : Nat} {v : Value} (h : Value.okWide Tryz.prog W .any base 23 v) : ∃ z : List Int, z.length = 8 ∧ v = six z := by
  have hu := Tryz.underlying23
  unfold Value.okWide at h
  rw [hu] at h
  obtain ⟨cs, rfl, hsz, ts, hts, _, hc⟩ := h
  have h8 : Tryz.prog.cellsOf 23 = 8 := by kernel_rfl
  have ht8 : Tryz.prog.cellTypes Tryz.prog.depth 23 = some (List.replicate 8 3) := by kernel_rfl
  rw [h8] at hsz
  obtain rfl := Option.some.inj (hts.symm.trans ht8)
  have hi : ∀ i, i < 8 → ∃ n : Int, cs[i]? = some (.int .i64 n) := by
    intro i hi
    have hcs : cs[i]? = some (cs[i]'(by omega)) := Array.getElem?_eq_getElem (by omega)
    obtain ⟨u, hu, hok⟩ := hc i _ hcs
    have hu3 : u = 3 := by
      rw [List.length_replicate, Nat.mod_eq_of_lt hi, List.getElem?_replicate, if_pos hi] at hu
      exact (Option.some.inj hu).symm
    subst hu3
    have hw : Value.okWide Tryz.prog W .any base 3 (cs[i]'(by omega)) := by
      unfold Value.okWide
      rw [Tryz.underlying3]
      exact hok
    obtain ⟨n, hn⟩ := WideShapes.okWide_int Tryz.underlying3 hw
    exact ⟨n, by rw [hcs, hn]⟩
  obtain ⟨a0, e0⟩ := hi 0 (by omega); obtain ⟨a1, e1⟩ := hi 1 (by omega); obtain ⟨a2, e2⟩ := hi 2 (by omega); obtain ⟨a3, e3⟩ := hi 3 (by omega)
  obtain ⟨a4, e4⟩ := hi 4 (by omega); obtain ⟨a5, e5⟩ := hi 5 (by omega); obtain ⟨a6, e6⟩ := hi 6 (by omega); obtain ⟨a7, e7⟩ := hi 7 (by omega)
  refine ⟨[a0, a1, a2, a3, a4, a5, a6, a7], rfl, ?_⟩
  show Value.agg cs = Value.agg #[.int .i64 a0, .int .i64 a1, .int .i64 a2, .int .i64 a3, .int .i64 a4, .int .i64 a5, .int .i64 a6, .int .i64 a7]
  congr 1
  apply Array.ext_getElem?
  intro i
  by_cases h : i < 8
  · rcases (by omega : i = 0 ∨ i = 1 ∨ i = 2 ∨ i = 3 ∨ i = 4 ∨ i = 5 ∨ i = 6 ∨ i = 7) with rfl | rfl | rfl | rfl | rfl | rfl | rfl | rfl
    · rw [e0]; rfl
    · rw [e1]; rfl
    · rw [e2]; rfl
    · rw [e3]; rfl
    · rw [e4]; rfl
    · rw [e5]; rfl
    · rw [e6]; rfl
    · rw [e7]; rfl
  · rw [Array.getElem?_eq_none (by omega), Array.getElem?_eq_none (by simp; omega)]
end Go.Proofs.YtkhahbghmdccaaaGreat

namespace Go.Proofs.YtkhahbghmdccaaaGreat
open Go.ChangeShapes Go.WideShapes Go.Deep Go.RowKit
theorem pk_some {α : Type} {x : Option α} {l : List α} {i : Nat} (h : x = l[i]?) (hi : i < l.length) : ∃ y, x = some y := ⟨l[i], h.trans (List.getElem?_eq_getElem hi)⟩
theorem Tryz.backF : (Tryz.prog.underlying 66).map (fun d => match d with | .struct fs => fs.toList.map (fun f => (f.offset, f.type)) | _ => []) = some [(0, 3), (1, 3), (2, 3), (3, 3), (4, 4), (5, 4)] := by kernel_rfl
/-- a field's own cells. -/
theorem pk_field {H : Type} {enc : TypeId × Value → H} {W : World} {base : Nat} {spare : Nat → Bool} {held : Bool} {fs : Array Field} {n k : Nat} {cs : List Value} {xs : List (DataW H × List MemPlace)} {L : List (Nat × TypeId)} (hL : fs.toList.map (fun f => (f.offset, f.type)) = L) (hx : xs.length = fs.size)
    (hall : ∀ (i : Nat) (f : Field), fs[i]? = some f → DataW.trod enc Tryz.prog W base spare held n f.type ((cs.drop f.offset).take (Tryz.prog.cellsOf f.type)) = xs[i]?) (o : Nat) (t : TypeId) (hk : L[k]? = some (o, t)) :
    ∃ y, DataW.trod enc Tryz.prog W base spare held n t ((cs.drop o).take (Tryz.prog.cellsOf t)) = some y := by
  rw [← hL, List.getElem?_map] at hk
  obtain ⟨f, hf, e⟩ := Option.map_eq_some_iff.1 hk
  have hf' : fs[k]? = some f := by simpa using hf
  have hlt : k < fs.size := (Array.getElem?_eq_some_iff.1 hf').1
  obtain ⟨y, hy⟩ := pk_some (hall k f hf') (by omega)
  injection e with e1 e2
  subst e1; subst e2
  exact ⟨y, hy⟩
theorem pk_one {cs : List Value} {o : Nat} {v : Value} (h : (cs.drop o).take 1 = [v]) : cs[o]? = some v := by
  have h1 : ((cs.drop o).take 1)[0]? = some v := by rw [h]; rfl
  rw [List.getElem?_take_of_lt (by omega), List.getElem?_drop, Nat.add_zero] at h1
  exact h1
theorem back_of {H : Type} {enc : TypeId × Value → H} {W : World} {base : Nat} {spare : Nat → Bool} {held : Bool} {n : Nat} {cs : List Value} {y : DataW H × List MemPlace} (h : DataW.trod enc Tryz.prog W base spare held n 66 cs = some y) : ∃ b : List Int, cs = (bkC b).toList := by
  have hu := Tryz.underlying66
  obtain ⟨xs, m, _, _, hl, hx, hall⟩ := DataW.trod_struct hu h
  have hF := Tryz.backF
  rw [hu] at hF
  replace hF := Option.some.inj hF
  have c1 : Tryz.prog.cellsOf 3 = 1 := by kernel_rfl
  have cb : Tryz.prog.cellsOf 4 = 1 := by kernel_rfl
  have c6 : Tryz.prog.cellsOf 66 = 6 := by kernel_rfl
  rw [c6] at hl
  obtain ⟨y0, g0⟩ := pk_field (k := 0) hF hx hall _ _ rfl
  obtain ⟨y1, g1⟩ := pk_field (k := 1) hF hx hall _ _ rfl
  obtain ⟨y2, g2⟩ := pk_field (k := 2) hF hx hall _ _ rfl
  obtain ⟨y3, g3⟩ := pk_field (k := 3) hF hx hall _ _ rfl
  obtain ⟨y4, g4⟩ := pk_field (k := 4) hF hx hall _ _ rfl
  obtain ⟨y5, g5⟩ := pk_field (k := 5) hF hx hall _ _ rfl
  rw [c1] at g0 g1 g2 g3
  rw [cb] at g4 g5
  obtain ⟨x0, e0, _, _⟩ := DataW.trod_int Tryz.underlying3 g0
  obtain ⟨x1, e1, _, _⟩ := DataW.trod_int Tryz.underlying3 g1
  obtain ⟨x2, e2, _, _⟩ := DataW.trod_int Tryz.underlying3 g2
  obtain ⟨x3, e3, _, _⟩ := DataW.trod_int Tryz.underlying3 g3
  obtain ⟨x4, e4, _⟩ := DataW.trod_bool Tryz.underlying4 g4
  obtain ⟨x5, e5, _⟩ := DataW.trod_bool Tryz.underlying4 g5
  refine ⟨[x0, x1, x2, x3, if x4 = true then 1 else 0, if x5 = true then 1 else 0], List.ext_getElem? fun i => ?_⟩
  by_cases hi : i < 6
  · rcases (by omega : i = 0 ∨ i = 1 ∨ i = 2 ∨ i = 3 ∨ i = 4 ∨ i = 5) with rfl | rfl | rfl | rfl | rfl | rfl
    · exact pk_one e0
    · exact pk_one e1
    · exact pk_one e2
    · exact pk_one e3
    · rw [pk_one e4]; cases x4 <;> rfl
    · rw [pk_one e5]; cases x5 <;> rfl
  · rw [List.getElem?_eq_none (by omega), List.getElem?_eq_none (by show 6 ≤ i; omega)]
set_option maxRecDepth 100000 in
/-- a row of servers, opened. -/
theorem backs_open2 {H : Type} {enc : TypeId × Value → H} {W : World} {base : Nat} {spare : Nat → Bool} {held : Bool} {b0 : Nat} {v : Value} {x : DataW H} {p : List MemPlace} (h : Value.okWide Tryz.prog W .any b0 24 v) (ht : DataW.Trod enc Tryz.prog W base spare held 24 v x p) :
    ∃ a bs cap, v = .slice a (List.length bs) cap ∧ bs.length ≤ cap ∧ cap ≤ maxLen ∧ Bks a bs W := by
  obtain ⟨a, len, cap, rfl⟩ := okWide_slice Tryz.underlying24 h
  obtain ⟨fuel, hf⟩ := ht
  rcases open_slice Tryz.underlying24 hf with ⟨hcs, _⟩ | ⟨a', len', cap', m, n, D, Pl, hcs, hb, hl, hm, hmm, _, hx⟩
  · simp [Value.cells] at hcs
    obtain ⟨rfl, rfl, rfl⟩ := hcs
    exact ⟨none, [], 0, rfl, Nat.zero_le _, Nat.zero_le _, fun h => absurd h (by simp)⟩
  · simp [Value.cells] at hcs
    obtain ⟨rfl, rfl, rfl⟩ := hcs
    have c6 : Tryz.prog.cellsOf 66 = 6 := by kernel_rfl
    rw [c6] at hx
    have hlm : len ≤ m := by rw [hmm]; split <;> omega
    have hc : ∀ i, ∃ s : List Int, i < len → W.cells? base (a'.add (i * 6)) 6 = some (bkC s).toList := fun i => by
      by_cases hi : i < len
      · obtain ⟨cs', h1, h2⟩ := hx i (by omega)
        obtain ⟨s, rfl⟩ := back_of h2
        exact ⟨s, fun _ => h1⟩
      · exact ⟨[], fun h => absurd h hi⟩
    obtain ⟨sts, hs⟩ := Classical.axiomOfChoice hc
    have hlen : ((List.range len).map sts).length = len := by simp
    refine ⟨some a', (List.range len).map sts, cap, by rw [hlen], by rw [hlen]; exact hl, hm, fun hp => ?_⟩
    rw [hlen] at hp
    obtain ⟨b, off, spot⟩ := a'
    have g0 : W.cell? ((⟨b, off, spot⟩ : Addr).add (0 * 6 + 0)) = some (.int .i64 (el (sts 0) 0)) := by
      obtain ⟨_, _, hcell⟩ := World.cells?_some (hs 0 hp)
      have := hcell 0 (by omega)
      rw [add_add] at this
      rw [this]
      rfl
    have hspot : spot = none := by simpa [Addr.add] using World.cell?_spot g0
    subst hspot
    refine ⟨b, off, rfl, World.block_lt_of_cell? W _ (by simpa [Addr.add] using g0), fun i hi j v hv => ?_⟩
    rw [hlen] at hi
    have hg : ((List.range len).map sts).getD i [] = sts i := by simp [List.getD_eq_getElem?_getD, hi]
    rw [hg] at hv
    obtain ⟨_, _, hcell⟩ := World.cells?_some (hs i hi)
    have hj : j < 6 := (List.getElem?_eq_some_iff.1 hv).1
    have := hcell j hj
    rw [add_add, add_pl, hv] at this
    rw [show off + i * 6 + j = off + (i * 6 + j) by omega]
    exact this
end Go.Proofs.YtkhahbghmdccaaaGreat
