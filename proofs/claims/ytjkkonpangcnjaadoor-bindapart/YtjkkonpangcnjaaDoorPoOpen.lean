/- An argument that is a script, opened: its steps, each of 31 numbers. -/
import Derived.Test.YtjkkonpangcnjaaDoorPoStep
import Derived.Deep.Slices
import Derived.OpenShut
import Derived.ChangeArms
import Derived.WideShapes
namespace Go.Proofs.YtjkkonpangcnjaaDoor
open Go.ChangeShapes Go.WideShapes Go.Deep Go.RowKit

/-- each of so many cells is a number. -/
def I64 (x : Int) : Prop := -9223372036854775808 ≤ x ∧ x ≤ 9223372036854775807
theorem i64_of {x : Int} (h : (Lit.int .i64 x).wf = true) : I64 x := by
  have h' : (decide (IntKind.i64.min ≤ x) && decide (x ≤ IntKind.i64.max)) = true := h
  rw [Bool.and_eq_true, decide_eq_true_eq, decide_eq_true_eq] at h'
  exact h'
def Nums (cs : List Value) (n : Nat) : Prop := cs.length = n ∧ ∀ j, j < n → ∃ x : Int, cs[j]? = some (.int .i64 x) ∧ I64 x
theorem Nums.part {cs : List Value} {o n m : Nat} (h : Nums ((cs.drop o).take n) n) (_hm : cs.length = m) (_hom : o + n ≤ m) (j : Nat) (h1 : o ≤ j) (h2 : j < o + n) : ∃ x : Int, cs[j]? = some (.int .i64 x) ∧ I64 x := by
  obtain ⟨x, hx, hi⟩ := h.2 (j - o) (by omega)
  refine ⟨x, ?_, hi⟩
  rw [List.getElem?_take_of_lt (by omega), List.getElem?_drop, show o + (j - o) = j by omega] at hx
  exact hx
theorem nums_int {H : Type} {enc : TypeId × Value → H} {W : World} {base : Nat} {spare : Nat → Bool} {held : Bool} {n : Nat} {cs : List Value} {y : DataW H × List MemPlace} (h : DataW.trod enc Tryd.prog W base spare held n 3 cs = some y) : Nums cs 1 := by
  obtain ⟨a, rfl, _, hw⟩ := DataW.trod_int Tryd.underlying3 h
  refine ⟨rfl, fun j hj => ⟨a, ?_, i64_of hw⟩⟩
  obtain rfl : j = 0 := by omega
  rfl
theorem some_of_len {α : Type} {x : Option α} {l : List α} {i : Nat} (h : x = l[i]?) (hi : i < l.length) : ∃ y, x = some y := ⟨l[i], h.trans (List.getElem?_eq_getElem hi)⟩
theorem nums_six {H : Type} {enc : TypeId × Value → H} {W : World} {base : Nat} {spare : Nat → Bool} {held : Bool} {n : Nat} {cs : List Value} {y : DataW H × List MemPlace} (h : DataW.trod enc Tryd.prog W base spare held n 33 cs = some y) : Nums cs 8 := by
  obtain ⟨xs, m, _, _, hl, hx, hall⟩ := DataW.trod_array Tryd.underlying33 h
  have h8 : Tryd.prog.cellsOf 33 = 8 := by kernel_rfl
  have h1 : Tryd.prog.cellsOf 3 = 1 := by kernel_rfl
  rw [h8] at hl
  refine ⟨hl, fun j hj => ?_⟩
  have hj' := hall j hj
  rw [h1, Nat.mul_one] at hj'
  obtain ⟨y, hy⟩ := some_of_len hj' (by omega)
  exact (nums_int hy).part hl (by omega) j (Nat.le_refl _) (by omega)
theorem Tryd.flowF : (Tryd.prog.underlying 35).map (fun d => match d with | .struct fs => fs.toList.map (fun f => (f.offset, f.type)) | _ => []) = some [(0, 3), (1, 33), (9, 3), (10, 33), (18, 3)] := by kernel_rfl
theorem Tryd.stepF : (Tryd.prog.underlying 37).map (fun d => match d with | .struct fs => fs.toList.map (fun f => (f.offset, f.type)) | _ => []) = some [(0, 3), (1, 33), (9, 35), (28, 3), (29, 3), (30, 3)] := by kernel_rfl
/-- a field's own cells. -/
theorem field_at {H : Type} {enc : TypeId × Value → H} {W : World} {base : Nat} {spare : Nat → Bool} {held : Bool} {fs : Array Field} {n k : Nat} {cs : List Value} {xs : List (DataW H × List MemPlace)} {L : List (Nat × TypeId)} (hL : fs.toList.map (fun f => (f.offset, f.type)) = L) (hx : xs.length = fs.size)
    (hall : ∀ (i : Nat) (f : Field), fs[i]? = some f → DataW.trod enc Tryd.prog W base spare held n f.type ((cs.drop f.offset).take (Tryd.prog.cellsOf f.type)) = xs[i]?) (o : Nat) (t : TypeId) (hk : L[k]? = some (o, t)) :
    ∃ y, DataW.trod enc Tryd.prog W base spare held n t ((cs.drop o).take (Tryd.prog.cellsOf t)) = some y := by
  rw [← hL, List.getElem?_map] at hk
  obtain ⟨f, hf, e⟩ := Option.map_eq_some_iff.1 hk
  have hf' : fs[k]? = some f := by simpa using hf
  have hlt : k < fs.size := (Array.getElem?_eq_some_iff.1 hf').1
  obtain ⟨y, hy⟩ := some_of_len (hall k f hf') (by omega)
  injection e with e1 e2
  subst e1; subst e2
  exact ⟨y, hy⟩
theorem nums_flow {H : Type} {enc : TypeId × Value → H} {W : World} {base : Nat} {spare : Nat → Bool} {held : Bool} {n : Nat} {cs : List Value} {y : DataW H × List MemPlace} (h : DataW.trod enc Tryd.prog W base spare held n 35 cs = some y) : Nums cs 19 := by
  have hu := Tryd.underlying35
  obtain ⟨xs, m, _, _, hl, hx, hall⟩ := DataW.trod_struct hu h
  have hF := Tryd.flowF
  rw [hu] at hF
  replace hF := Option.some.inj hF
  have c1 : Tryd.prog.cellsOf 3 = 1 := by kernel_rfl
  have c8 : Tryd.prog.cellsOf 33 = 8 := by kernel_rfl
  have c19 : Tryd.prog.cellsOf 35 = 19 := by kernel_rfl
  rw [c19] at hl
  obtain ⟨y0, g0⟩ := field_at (k := 0) hF hx hall _ _ rfl
  obtain ⟨y1, g1⟩ := field_at (k := 1) hF hx hall _ _ rfl
  obtain ⟨y2, g2⟩ := field_at (k := 2) hF hx hall _ _ rfl
  obtain ⟨y3, g3⟩ := field_at (k := 3) hF hx hall _ _ rfl
  obtain ⟨y4, g4⟩ := field_at (k := 4) hF hx hall _ _ rfl
  rw [c1] at g0 g2 g4
  rw [c8] at g1 g3
  refine ⟨hl, fun j hj => ?_⟩
  rcases (by omega : j < 1 ∨ (1 ≤ j ∧ j < 9) ∨ (9 ≤ j ∧ j < 10) ∨ (10 ≤ j ∧ j < 18) ∨ (18 ≤ j ∧ j < 19)) with h | h | h | h | h
  · exact (nums_int g0).part hl (by omega) j (by omega) (by omega)
  · exact (nums_six g1).part hl (by omega) j (by omega) (by omega)
  · exact (nums_int g2).part hl (by omega) j (by omega) (by omega)
  · exact (nums_six g3).part hl (by omega) j (by omega) (by omega)
  · exact (nums_int g4).part hl (by omega) j (by omega) (by omega)
theorem nums_step {H : Type} {enc : TypeId × Value → H} {W : World} {base : Nat} {spare : Nat → Bool} {held : Bool} {n : Nat} {cs : List Value} {y : DataW H × List MemPlace} (h : DataW.trod enc Tryd.prog W base spare held n 37 cs = some y) : Nums cs 31 := by
  have hu := Tryd.underlying37
  obtain ⟨xs, m, _, _, hl, hx, hall⟩ := DataW.trod_struct hu h
  have hF := Tryd.stepF
  rw [hu] at hF
  replace hF := Option.some.inj hF
  have c1 : Tryd.prog.cellsOf 3 = 1 := by kernel_rfl
  have c8 : Tryd.prog.cellsOf 33 = 8 := by kernel_rfl
  have c19 : Tryd.prog.cellsOf 35 = 19 := by kernel_rfl
  have c31 : Tryd.prog.cellsOf 37 = 31 := by kernel_rfl
  rw [c31] at hl
  obtain ⟨y0, g0⟩ := field_at (k := 0) hF hx hall _ _ rfl
  obtain ⟨y1, g1⟩ := field_at (k := 1) hF hx hall _ _ rfl
  obtain ⟨y2, g2⟩ := field_at (k := 2) hF hx hall _ _ rfl
  obtain ⟨y3, g3⟩ := field_at (k := 3) hF hx hall _ _ rfl
  obtain ⟨y4, g4⟩ := field_at (k := 4) hF hx hall _ _ rfl
  obtain ⟨y5, g5⟩ := field_at (k := 5) hF hx hall _ _ rfl
  rw [c1] at g0 g3 g4 g5
  rw [c8] at g1
  rw [c19] at g2
  refine ⟨hl, fun j hj => ?_⟩
  rcases (by omega : j < 1 ∨ (1 ≤ j ∧ j < 9) ∨ (9 ≤ j ∧ j < 28) ∨ (28 ≤ j ∧ j < 29) ∨ (29 ≤ j ∧ j < 30) ∨ (30 ≤ j ∧ j < 31)) with h | h | h | h | h | h
  · exact (nums_int g0).part hl (by omega) j (by omega) (by omega)
  · exact (nums_six g1).part hl (by omega) j (by omega) (by omega)
  · exact (nums_flow g2).part hl (by omega) j (by omega) (by omega)
  · exact (nums_int g3).part hl (by omega) j (by omega) (by omega)
  · exact (nums_int g4).part hl (by omega) j (by omega) (by omega)
  · exact (nums_int g5).part hl (by omega) j (by omega) (by omega)
/-- so many numbers are a step. -/
theorem Nums.step {cs : List Value} (h : Nums cs 31) : ∃ s : List Int, cs = (stC s).toList ∧ ∀ j, j < 31 → I64 (el s j) := by
  have hc : ∀ j, ∃ x : Int, j < 31 → cs[j]? = some (.int .i64 x) ∧ I64 x := fun j => by
    by_cases hj : j < 31
    · obtain ⟨x, hx⟩ := h.2 j hj
      exact ⟨x, fun _ => hx⟩
    · exact ⟨0, fun h => absurd h hj⟩
  obtain ⟨f, hf⟩ := Classical.axiomOfChoice hc
  have hel : ∀ j, j < 31 → el ((List.range 31).map f) j = f j := fun j hj => by
    unfold el
    simp [List.getD_eq_getElem?_getD, hj]
  refine ⟨(List.range 31).map f, List.ext_getElem? fun j => ?_, fun j hj => by rw [hel j hj]; exact (hf j hj).2⟩
  by_cases hj : j < 31
  · have e : (stC ((List.range 31).map f)).toList[j]? = some (.int .i64 (el ((List.range 31).map f) j)) := by
      have := stC_at ((List.range 31).map f) j hj
      simpa using this
    rw [(hf j hj).1, e, hel j hj]
  · rw [List.getElem?_eq_none (by rw [h.1]; omega), List.getElem?_eq_none (by show 31 ≤ j; omega)]
set_option maxRecDepth 100000 in
/-- a script, opened. -/
theorem steps_open {H : Type} {enc : TypeId × Value → H} {W : World} {base : Nat} {spare : Nat → Bool} {held : Bool} {b0 : Nat} {v : Value} {x : DataW H} {p : List MemPlace} (h : Value.okWide Tryd.prog W .any b0 22 v) (ht : DataW.Trod enc Tryd.prog W base spare held 22 v x p) :
    ∃ a len cap sts, v = .slice a len cap ∧ len ≤ maxLen ∧ Steps a len sts W ∧ ∀ i, i < len → ∀ j, j < 31 → I64 (el (sts i) j) := by
  obtain ⟨a, len, cap, rfl⟩ := okWide_slice Tryd.underlying22 h
  obtain ⟨fuel, hf⟩ := ht
  rcases open_slice Tryd.underlying22 hf with ⟨hcs, _⟩ | ⟨a', len', cap', m, n, D, Pl, hcs, hb, hl, hm, hmm, _, hx⟩
  · simp [Value.cells] at hcs
    obtain ⟨rfl, rfl, rfl⟩ := hcs
    exact ⟨none, 0, 0, fun _ => [], rfl, Nat.zero_le _, fun h => absurd h (by omega), fun i h => absurd h (by omega)⟩
  · simp [Value.cells] at hcs
    obtain ⟨rfl, rfl, rfl⟩ := hcs
    have c31 : Tryd.prog.cellsOf 37 = 31 := by kernel_rfl
    rw [c31] at hx
    have hlm : len ≤ m := by rw [hmm]; split <;> omega
    have hc : ∀ i, ∃ s : List Int, i < len → W.cells? base (a'.add (i * 31)) 31 = some (stC s).toList ∧ ∀ j, j < 31 → I64 (el s j) := fun i => by
      by_cases hi : i < len
      · obtain ⟨cs', h1, h2⟩ := hx i (by omega)
        obtain ⟨s, rfl, hi64⟩ := (nums_step h2).step
        exact ⟨s, fun _ => ⟨h1, hi64⟩⟩
      · exact ⟨[], fun h => absurd h hi⟩
    obtain ⟨sts, hs⟩ := Classical.axiomOfChoice hc
    refine ⟨some a', len, cap, sts, rfl, Nat.le_trans hl hm, fun hp => ?_, fun i hi => (hs i hi).2⟩
    obtain ⟨b, off, spot⟩ := a'
    have g0 : W.cell? ((⟨b, off, spot⟩ : Addr).add (0 * 31 + 0)) = some (.int .i64 (el (sts 0) 0)) := by
      obtain ⟨_, _, hcell⟩ := World.cells?_some (hs 0 hp).1
      have := hcell 0 (by omega)
      rw [add_add] at this
      rw [this]
      rfl
    have hspot : spot = none := by simpa [Addr.add] using World.cell?_spot g0
    subst hspot
    refine ⟨b, off, rfl, World.block_lt_of_cell? W _ (by simpa [Addr.add] using g0), fun i hi j v hv => ?_⟩
    obtain ⟨_, _, hcell⟩ := World.cells?_some (hs i hi).1
    have hj : j < 31 := (List.getElem?_eq_some_iff.1 hv).1
    have := hcell j hj
    rw [add_add, add_pl, hv] at this
    rw [show off + i * 31 + j = off + (i * 31 + j) by omega]
    exact this
end Go.Proofs.YtjkkonpangcnjaaDoor
