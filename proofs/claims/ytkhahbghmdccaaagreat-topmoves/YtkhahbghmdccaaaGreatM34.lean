/- The document's own words and Encoded6, by contracts. The document's own words and FourBytes of a packet's head, by contracts. The document's own FourBytes and Bytes4, by contracts. An argument that is an address. Arguments that are a flow, or a row of servers, opened. -/
import Derived.Test.YtkhahbghmdccaaaGreatProg
import Derived.WalkKit
import Derived.LaidEql
import Derived.BigQuiet
import Derived.Below
import Derived.Laws.AppendOwnNone
import Derived.Laws.MakeOwn
import Derived.Deep.RegionLaw
import Derived.Test.YtkhahbghmdccaaaGreatM11
import Derived.Test.YtkhahbghmdccaaaGreatM22
import Derived.WideShapes
import Derived.Test.YtkhahbghmdccaaaGreatM18
import Derived.Test.YtkhahbghmdccaaaGreatM33
import Derived.OpenShut
import Derived.Lib.Bytes
import Derived.Deep.MidRow
import Derived.Laws.ResultCell
import Derived.Deep.CutBlock
import Derived.Deep.QuietTactic
import Derived.OwnWalk
import Derived.Deep.RegionHeld3
import Derived.Deep.DrawnRows
import Derived.Maps.AppendAt
import Derived.Laws.StructEq
import Derived.Deep.Slices
import Derived.ChangeArms
namespace Go.Proofs.YtkhahbghmdccaaaGreat.V6
open Go.RowKit
attribute [local go_sem ↓] Go.wp_at_zero Go.wp_at_succ
/-- words as bytes. -/
def wb (l : List Int) : Nat → List Int
  | 0 => []
  | k + 1 => wb l k ++ [l.getD k 0 / 256, l.getD k 0 % 256]
end Go.Proofs.YtkhahbghmdccaaaGreat.V6

namespace Go.Proofs.YtkhahbghmdccaaaGreat.V4
open Go.RowKit
attribute [local go_sem ↓] Go.wp_at_zero Go.wp_at_succ
/-- words as bytes. -/
def wb (l : List Int) : Nat → List Int
  | 0 => []
  | k + 1 => wb l k ++ [l.getD k 0 / 256, l.getD k 0 % 256]
end Go.Proofs.YtkhahbghmdccaaaGreat.V4

namespace Go.Proofs.YtkhahbghmdccaaaGreat.V4
open Go.RowKit
theorem al_below (w : World) (o : Obj) : Below w.heap.size w (w.alloc o) := (Below.refl _ _).alloc (Nat.le_refl _) _
end Go.Proofs.YtkhahbghmdccaaaGreat.V4

namespace Go.Proofs.YtkhahbghmdccaaaGreat
open Go.RowKit
set_option maxRecDepth 100000 in
/-- an argument that is an address. -/
theorem six_open {W : World} {base : Nat} {v : Value} (h : Value.okWide Tryz.prog W .any base 23 v) : ∃ z : List Int, z.length = 8 ∧ v = six z := by
  have hu := Tryz.underlying23
  unfold Value.okWide at h
  rw [hu] at h
  obtain ⟨cs, rfl, hsz, ts, hts, _, hc⟩ := h
  have h8 : Tryz.prog.cellsOf 23 = 8 := by kernel_rfl
  have ht8 : Tryz.prog.cellTypes Tryz.prog.depth 23 = some (List.replicate 8 3) := by kernel_rfl
  rw [h8] at hsz
  obtain rfl := Option.some.inj (hts.symm.trans ht8)
  have hi : ∀ i, i < 8 → ∃ n : Int, cs[i]? = some (.int .i64 n) := by
    intro i hi
    have hcs : cs[i]? = some (cs[i]'(by omega)) := Array.getElem?_eq_getElem (by omega)
    obtain ⟨u, hu, hok⟩ := hc i _ hcs
    have hu3 : u = 3 := by
      rw [List.length_replicate, Nat.mod_eq_of_lt hi, List.getElem?_replicate, if_pos hi] at hu
      exact (Option.some.inj hu).symm
    subst hu3
    have hw : Value.okWide Tryz.prog W .any base 3 (cs[i]'(by omega)) := by
      unfold Value.okWide
      rw [Tryz.underlying3]
      exact hok
    obtain ⟨n, hn⟩ := WideShapes.okWide_int Tryz.underlying3 hw
    exact ⟨n, by rw [hcs, hn]⟩
  obtain ⟨a0, e0⟩ := hi 0 (by omega); obtain ⟨a1, e1⟩ := hi 1 (by omega); obtain ⟨a2, e2⟩ := hi 2 (by omega); obtain ⟨a3, e3⟩ := hi 3 (by omega)
  obtain ⟨a4, e4⟩ := hi 4 (by omega); obtain ⟨a5, e5⟩ := hi 5 (by omega); obtain ⟨a6, e6⟩ := hi 6 (by omega); obtain ⟨a7, e7⟩ := hi 7 (by omega)
  refine ⟨[a0, a1, a2, a3, a4, a5, a6, a7], rfl, ?_⟩
  show Value.agg cs = Value.agg #[.int .i64 a0, .int .i64 a1, .int .i64 a2, .int .i64 a3, .int .i64 a4, .int .i64 a5, .int .i64 a6, .int .i64 a7]
  congr 1
  apply Array.ext_getElem?
  intro i
  by_cases h : i < 8
  · rcases (by omega : i = 0 ∨ i = 1 ∨ i = 2 ∨ i = 3 ∨ i = 4 ∨ i = 5 ∨ i = 6 ∨ i = 7) with rfl | rfl | rfl | rfl | rfl | rfl | rfl | rfl
    · rw [e0]; rfl
    · rw [e1]; rfl
    · rw [e2]; rfl
    · rw [e3]; rfl
    · rw [e4]; rfl
    · rw [e5]; rfl
    · rw [e6]; rfl
    · rw [e7]; rfl
  · rw [Array.getElem?_eq_none (by omega), Array.getElem?_eq_none (by simp; omega)]
end Go.Proofs.YtkhahbghmdccaaaGreat

namespace Go.Proofs.YtkhahbghmdccaaaGreat
open Go.ChangeShapes Go.WideShapes Go.Deep Go.RowKit
theorem pk_some {α : Type} {x : Option α} {l : List α} {i : Nat} (h : x = l[i]?) (hi : i < l.length) : ∃ y, x = some y := ⟨l[i], h.trans (List.getElem?_eq_getElem hi)⟩
theorem Tryz.backF : (Tryz.prog.underlying 66).map (fun d => match d with | .struct fs => fs.toList.map (fun f => (f.offset, f.type)) | _ => []) = some [(0, 3), (1, 3), (2, 3), (3, 3), (4, 4), (5, 4)] := by kernel_rfl
/-- a field's own cells. -/
theorem pk_field {H : Type} {enc : TypeId × Value → H} {W : World} {base : Nat} {spare : Nat → Bool} {held : Bool} {fs : Array Field} {n k : Nat} {cs : List Value} {xs : List (DataW H × List MemPlace)} {L : List (Nat × TypeId)} (hL : fs.toList.map (fun f => (f.offset, f.type)) = L) (hx : xs.length = fs.size)
    (hall : ∀ (i : Nat) (f : Field), fs[i]? = some f → DataW.trod enc Tryz.prog W base spare held n f.type ((cs.drop f.offset).take (Tryz.prog.cellsOf f.type)) = xs[i]?) (o : Nat) (t : TypeId) (hk : L[k]? = some (o, t)) :
    ∃ y, DataW.trod enc Tryz.prog W base spare held n t ((cs.drop o).take (Tryz.prog.cellsOf t)) = some y := by
  rw [← hL, List.getElem?_map] at hk
  obtain ⟨f, hf, e⟩ := Option.map_eq_some_iff.1 hk
  have hf' : fs[k]? = some f := by simpa using hf
  have hlt : k < fs.size := (Array.getElem?_eq_some_iff.1 hf').1
  obtain ⟨y, hy⟩ := pk_some (hall k f hf') (by omega)
  injection e with e1 e2
  subst e1; subst e2
  exact ⟨y, hy⟩
theorem pk_one {cs : List Value} {o : Nat} {v : Value} (h : (cs.drop o).take 1 = [v]) : cs[o]? = some v := by
  have h1 : ((cs.drop o).take 1)[0]? = some v := by rw [h]; rfl
  rw [List.getElem?_take_of_lt (by omega), List.getElem?_drop, Nat.add_zero] at h1
  exact h1
theorem back_of {H : Type} {enc : TypeId × Value → H} {W : World} {base : Nat} {spare : Nat → Bool} {held : Bool} {n : Nat} {cs : List Value} {y : DataW H × List MemPlace} (h : DataW.trod enc Tryz.prog W base spare held n 66 cs = some y) : ∃ b : List Int, cs = (bkC b).toList := by
  have hu := Tryz.underlying66
  obtain ⟨xs, m, _, _, hl, hx, hall⟩ := DataW.trod_struct hu h
  have hF := Tryz.backF
  rw [hu] at hF
  replace hF := Option.some.inj hF
  have c1 : Tryz.prog.cellsOf 3 = 1 := by kernel_rfl
  have cb : Tryz.prog.cellsOf 4 = 1 := by kernel_rfl
  have c6 : Tryz.prog.cellsOf 66 = 6 := by kernel_rfl
  rw [c6] at hl
  obtain ⟨y0, g0⟩ := pk_field (k := 0) hF hx hall _ _ rfl
  obtain ⟨y1, g1⟩ := pk_field (k := 1) hF hx hall _ _ rfl
  obtain ⟨y2, g2⟩ := pk_field (k := 2) hF hx hall _ _ rfl
  obtain ⟨y3, g3⟩ := pk_field (k := 3) hF hx hall _ _ rfl
  obtain ⟨y4, g4⟩ := pk_field (k := 4) hF hx hall _ _ rfl
  obtain ⟨y5, g5⟩ := pk_field (k := 5) hF hx hall _ _ rfl
  rw [c1] at g0 g1 g2 g3
  rw [cb] at g4 g5
  obtain ⟨x0, e0, _, _⟩ := DataW.trod_int Tryz.underlying3 g0
  obtain ⟨x1, e1, _, _⟩ := DataW.trod_int Tryz.underlying3 g1
  obtain ⟨x2, e2, _, _⟩ := DataW.trod_int Tryz.underlying3 g2
  obtain ⟨x3, e3, _, _⟩ := DataW.trod_int Tryz.underlying3 g3
  obtain ⟨x4, e4, _⟩ := DataW.trod_bool Tryz.underlying4 g4
  obtain ⟨x5, e5, _⟩ := DataW.trod_bool Tryz.underlying4 g5
  refine ⟨[x0, x1, x2, x3, if x4 = true then 1 else 0, if x5 = true then 1 else 0], List.ext_getElem? fun i => ?_⟩
  by_cases hi : i < 6
  · rcases (by omega : i = 0 ∨ i = 1 ∨ i = 2 ∨ i = 3 ∨ i = 4 ∨ i = 5) with rfl | rfl | rfl | rfl | rfl | rfl
    · exact pk_one e0
    · exact pk_one e1
    · exact pk_one e2
    · exact pk_one e3
    · rw [pk_one e4]; cases x4 <;> rfl
    · rw [pk_one e5]; cases x5 <;> rfl
  · rw [List.getElem?_eq_none (by omega), List.getElem?_eq_none (by show 6 ≤ i; omega)]
set_option maxRecDepth 100000 in
/-- a row of servers, opened. -/
theorem backs_open2 {H : Type} {enc : TypeId × Value → H} {W : World} {base : Nat} {spare : Nat → Bool} {held : Bool} {b0 : Nat} {v : Value} {x : DataW H} {p : List MemPlace} (h : Value.okWide Tryz.prog W .any b0 24 v) (ht : DataW.Trod enc Tryz.prog W base spare held 24 v x p) :
    ∃ a bs cap, v = .slice a (List.length bs) cap ∧ bs.length ≤ cap ∧ cap ≤ maxLen ∧ Bks a bs W := by
  obtain ⟨a, len, cap, rfl⟩ := okWide_slice Tryz.underlying24 h
  obtain ⟨fuel, hf⟩ := ht
  rcases open_slice Tryz.underlying24 hf with ⟨hcs, _⟩ | ⟨a', len', cap', m, n, D, Pl, hcs, hb, hl, hm, hmm, _, hx⟩
  · simp [Value.cells] at hcs
    obtain ⟨rfl, rfl, rfl⟩ := hcs
    exact ⟨none, [], 0, rfl, Nat.zero_le _, Nat.zero_le _, fun h => absurd h (by simp)⟩
  · simp [Value.cells] at hcs
    obtain ⟨rfl, rfl, rfl⟩ := hcs
    have c6 : Tryz.prog.cellsOf 66 = 6 := by kernel_rfl
    rw [c6] at hx
    have hlm : len ≤ m := by rw [hmm]; split <;> omega
    have hc : ∀ i, ∃ s : List Int, i < len → W.cells? base (a'.add (i * 6)) 6 = some (bkC s).toList := fun i => by
      by_cases hi : i < len
      · obtain ⟨cs', h1, h2⟩ := hx i (by omega)
        obtain ⟨s, rfl⟩ := back_of h2
        exact ⟨s, fun _ => h1⟩
      · exact ⟨[], fun h => absurd h hi⟩
    obtain ⟨sts, hs⟩ := Classical.axiomOfChoice hc
    have hlen : ((List.range len).map sts).length = len := by simp
    refine ⟨some a', (List.range len).map sts, cap, by rw [hlen], by rw [hlen]; exact hl, hm, fun hp => ?_⟩
    rw [hlen] at hp
    obtain ⟨b, off, spot⟩ := a'
    have g0 : W.cell? ((⟨b, off, spot⟩ : Addr).add (0 * 6 + 0)) = some (.int .i64 (el (sts 0) 0)) := by
      obtain ⟨_, _, hcell⟩ := World.cells?_some (hs 0 hp)
      have := hcell 0 (by omega)
      rw [add_add] at this
      rw [this]
      rfl
    have hspot : spot = none := by simpa [Addr.add] using World.cell?_spot g0
    subst hspot
    refine ⟨b, off, rfl, World.block_lt_of_cell? W _ (by simpa [Addr.add] using g0), fun i hi j v hv => ?_⟩
    rw [hlen] at hi
    have hg : ((List.range len).map sts).getD i [] = sts i := by simp [List.getD_eq_getElem?_getD, hi]
    rw [hg] at hv
    obtain ⟨_, _, hcell⟩ := World.cells?_some (hs i hi)
    have hj : j < 6 := (List.getElem?_eq_some_iff.1 hv).1
    have := hcell j hj
    rw [add_add, add_pl, hv] at this
    rw [show off + i * 6 + j = off + (i * 6 + j) by omega]
    exact this
end Go.Proofs.YtkhahbghmdccaaaGreat
