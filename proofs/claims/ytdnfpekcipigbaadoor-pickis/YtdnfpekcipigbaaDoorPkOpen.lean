/- Arguments that are a flow, or a row of servers, opened. -/
import Derived.Test.YtdnfpekcipigbaaDoorPkA
import Derived.Test.YtdnfpekcipigbaaDoorFlOpen
import Derived.Deep.Slices
import Derived.OpenShut
import Derived.ChangeArms
import Derived.WideShapes
namespace Go.Proofs.YtdnfpekcipigbaaDoor
open Go.ChangeShapes Go.WideShapes Go.Deep Go.RowKit

theorem pk_some {α : Type} {x : Option α} {l : List α} {i : Nat} (h : x = l[i]?) (hi : i < l.length) : ∃ y, x = some y := ⟨l[i], h.trans (List.getElem?_eq_getElem hi)⟩
theorem Tryd.backF : (Tryd.prog.underlying 38).map (fun d => match d with | .struct fs => fs.toList.map (fun f => (f.offset, f.type)) | _ => []) = some [(0, 3), (1, 3), (2, 3), (3, 3), (4, 4), (5, 4)] := by kernel_rfl
/-- a field's own cells. -/
theorem pk_field {H : Type} {enc : TypeId × Value → H} {W : World} {base : Nat} {spare : Nat → Bool} {held : Bool} {fs : Array Field} {n k : Nat} {cs : List Value} {xs : List (DataW H × List MemPlace)} {L : List (Nat × TypeId)} (hL : fs.toList.map (fun f => (f.offset, f.type)) = L) (hx : xs.length = fs.size)
    (hall : ∀ (i : Nat) (f : Field), fs[i]? = some f → DataW.trod enc Tryd.prog W base spare held n f.type ((cs.drop f.offset).take (Tryd.prog.cellsOf f.type)) = xs[i]?) (o : Nat) (t : TypeId) (hk : L[k]? = some (o, t)) :
    ∃ y, DataW.trod enc Tryd.prog W base spare held n t ((cs.drop o).take (Tryd.prog.cellsOf t)) = some y := by
  rw [← hL, List.getElem?_map] at hk
  obtain ⟨f, hf, e⟩ := Option.map_eq_some_iff.1 hk
  have hf' : fs[k]? = some f := by simpa using hf
  have hlt : k < fs.size := (Array.getElem?_eq_some_iff.1 hf').1
  obtain ⟨y, hy⟩ := pk_some (hall k f hf') (by omega)
  injection e with e1 e2
  subst e1; subst e2
  exact ⟨y, hy⟩
theorem pk_one {cs : List Value} {o : Nat} {v : Value} (h : (cs.drop o).take 1 = [v]) : cs[o]? = some v := by
  have h1 : ((cs.drop o).take 1)[0]? = some v := by rw [h]; rfl
  rw [List.getElem?_take_of_lt (by omega), List.getElem?_drop, Nat.add_zero] at h1
  exact h1
theorem back_of {H : Type} {enc : TypeId × Value → H} {W : World} {base : Nat} {spare : Nat → Bool} {held : Bool} {n : Nat} {cs : List Value} {y : DataW H × List MemPlace} (h : DataW.trod enc Tryd.prog W base spare held n 38 cs = some y) : ∃ b : List Int, cs = (bkC b).toList := by
  have hu := Tryd.underlying38
  obtain ⟨xs, m, _, _, hl, hx, hall⟩ := DataW.trod_struct hu h
  have hF := Tryd.backF
  rw [hu] at hF
  replace hF := Option.some.inj hF
  have c1 : Tryd.prog.cellsOf 3 = 1 := by kernel_rfl
  have cb : Tryd.prog.cellsOf 4 = 1 := by kernel_rfl
  have c6 : Tryd.prog.cellsOf 38 = 6 := by kernel_rfl
  rw [c6] at hl
  obtain ⟨y0, g0⟩ := pk_field (k := 0) hF hx hall _ _ rfl
  obtain ⟨y1, g1⟩ := pk_field (k := 1) hF hx hall _ _ rfl
  obtain ⟨y2, g2⟩ := pk_field (k := 2) hF hx hall _ _ rfl
  obtain ⟨y3, g3⟩ := pk_field (k := 3) hF hx hall _ _ rfl
  obtain ⟨y4, g4⟩ := pk_field (k := 4) hF hx hall _ _ rfl
  obtain ⟨y5, g5⟩ := pk_field (k := 5) hF hx hall _ _ rfl
  rw [c1] at g0 g1 g2 g3
  rw [cb] at g4 g5
  obtain ⟨x0, e0, _, _⟩ := DataW.trod_int Tryd.underlying3 g0
  obtain ⟨x1, e1, _, _⟩ := DataW.trod_int Tryd.underlying3 g1
  obtain ⟨x2, e2, _, _⟩ := DataW.trod_int Tryd.underlying3 g2
  obtain ⟨x3, e3, _, _⟩ := DataW.trod_int Tryd.underlying3 g3
  obtain ⟨x4, e4, _⟩ := DataW.trod_bool Tryd.underlying4 g4
  obtain ⟨x5, e5, _⟩ := DataW.trod_bool Tryd.underlying4 g5
  refine ⟨[x0, x1, x2, x3, if x4 = true then 1 else 0, if x5 = true then 1 else 0], List.ext_getElem? fun i => ?_⟩
  by_cases hi : i < 6
  · rcases (by omega : i = 0 ∨ i = 1 ∨ i = 2 ∨ i = 3 ∨ i = 4 ∨ i = 5) with rfl | rfl | rfl | rfl | rfl | rfl
    · exact pk_one e0
    · exact pk_one e1
    · exact pk_one e2
    · exact pk_one e3
    · rw [pk_one e4]; cases x4 <;> rfl
    · rw [pk_one e5]; cases x5 <;> rfl
  · rw [List.getElem?_eq_none (by omega), List.getElem?_eq_none (by show 6 ≤ i; omega)]
set_option maxRecDepth 100000 in
/-- a row of servers, opened. -/
theorem backs_open2 {H : Type} {enc : TypeId × Value → H} {W : World} {base : Nat} {spare : Nat → Bool} {held : Bool} {b0 : Nat} {v : Value} {x : DataW H} {p : List MemPlace} (h : Value.okWide Tryd.prog W .any b0 26 v) (ht : DataW.Trod enc Tryd.prog W base spare held 26 v x p) :
    ∃ a bs cap, v = .slice a (List.length bs) cap ∧ bs.length ≤ cap ∧ cap ≤ maxLen ∧ Bks a bs W := by
  obtain ⟨a, len, cap, rfl⟩ := okWide_slice Tryd.underlying26 h
  obtain ⟨fuel, hf⟩ := ht
  rcases open_slice Tryd.underlying26 hf with ⟨hcs, _⟩ | ⟨a', len', cap', m, n, D, Pl, hcs, hb, hl, hm, hmm, _, hx⟩
  · simp [Value.cells] at hcs
    obtain ⟨rfl, rfl, rfl⟩ := hcs
    exact ⟨none, [], 0, rfl, Nat.zero_le _, Nat.zero_le _, fun h => absurd h (by simp)⟩
  · simp [Value.cells] at hcs
    obtain ⟨rfl, rfl, rfl⟩ := hcs
    have c6 : Tryd.prog.cellsOf 38 = 6 := by kernel_rfl
    rw [c6] at hx
    have hlm : len ≤ m := by rw [hmm]; split <;> omega
    have hc : ∀ i, ∃ s : List Int, i < len → W.cells? base (a'.add (i * 6)) 6 = some (bkC s).toList := fun i => by
      by_cases hi : i < len
      · obtain ⟨cs', h1, h2⟩ := hx i (by omega)
        obtain ⟨s, rfl⟩ := back_of h2
        exact ⟨s, fun _ => h1⟩
      · exact ⟨[], fun h => absurd h hi⟩
    obtain ⟨sts, hs⟩ := Classical.axiomOfChoice hc
    have hlen : ((List.range len).map sts).length = len := by simp
    refine ⟨some a', (List.range len).map sts, cap, by rw [hlen], by rw [hlen]; exact hl, hm, fun hp => ?_⟩
    rw [hlen] at hp
    obtain ⟨b, off, spot⟩ := a'
    have g0 : W.cell? ((⟨b, off, spot⟩ : Addr).add (0 * 6 + 0)) = some (.int .i64 (el (sts 0) 0)) := by
      obtain ⟨_, _, hcell⟩ := World.cells?_some (hs 0 hp)
      have := hcell 0 (by omega)
      rw [add_add] at this
      rw [this]
      rfl
    have hspot : spot = none := by simpa [Addr.add] using World.cell?_spot g0
    subst hspot
    refine ⟨b, off, rfl, World.block_lt_of_cell? W _ (by simpa [Addr.add] using g0), fun i hi j v hv => ?_⟩
    rw [hlen] at hi
    have hg : ((List.range len).map sts).getD i [] = sts i := by simp [List.getD_eq_getElem?_getD, hi]
    rw [hg] at hv
    obtain ⟨_, _, hcell⟩ := World.cells?_some (hs i hi)
    have hj : j < 6 := (List.getElem?_eq_some_iff.1 hv).1
    have := hcell j hj
    rw [add_add, add_pl, hv] at this
    rw [show off + i * 6 + j = off + (i * 6 + j) by omega]
    exact this
theorem backs_open {H : Type} {enc : TypeId × Value → H} {W : World} {base : Nat} {spare : Nat → Bool} {held : Bool} {b0 : Nat} {v : Value} {x : DataW H} {p : List MemPlace} (h : Value.okWide Tryd.prog W .any b0 26 v) (ht : DataW.Trod enc Tryd.prog W base spare held 26 v x p) :
    ∃ a bs cap, v = .slice a (List.length bs) cap ∧ bs.length ≤ maxLen ∧ Bks a bs W := by
  obtain ⟨a, bs, cap, e, h1, h2, h3⟩ := backs_open2 h ht
  exact ⟨a, bs, cap, e, Nat.le_trans h1 h2, h3⟩
end Go.Proofs.YtdnfpekcipigbaaDoor
