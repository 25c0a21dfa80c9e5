/- An argument that is a flow, opened. -/
import Derived.Test.YtdeofopandobhaaDoorPkF
import Derived.Deep.Slices
import Derived.OpenShut
import Derived.ChangeArms
import Derived.WideShapes
namespace Go.Proofs.YtdeofopandobhaaDoor
open Go.ChangeShapes Go.WideShapes Go.Deep Go.RowKit

set_option maxRecDepth 100000 in
/-- an argument that is a flow. -/
theorem flow_open {W : World} {base : Nat} {v : Value} (h : Value.okWide Tryd.prog W .any base 25 v) : ∃ f : List Int, v = .agg (flC f) := by
  have hu := Tryd.underlying25
  unfold Value.okWide at h
  rw [hu] at h
  obtain ⟨cs, rfl, hsz, ts, hts, _, hc⟩ := h
  have h8 : Tryd.prog.cellsOf 25 = 19 := by kernel_rfl
  have ht8 : Tryd.prog.cellTypes Tryd.prog.depth 25 = some (List.replicate 19 3) := by kernel_rfl
  rw [h8] at hsz
  obtain rfl := Option.some.inj (hts.symm.trans ht8)
  have hi : ∀ i, ∃ n : Int, i < 19 → cs[i]? = some (.int .i64 n) := by
    intro i
    by_cases hi : i < 19
    · have hcs : cs[i]? = some (cs[i]'(by omega)) := Array.getElem?_eq_getElem (by omega)
      obtain ⟨u, hu, hok⟩ := hc i _ hcs
      have hu3 : u = 3 := by
        rw [List.length_replicate, Nat.mod_eq_of_lt hi, List.getElem?_replicate, if_pos hi] at hu
        exact (Option.some.inj hu).symm
      subst hu3
      have hw : Value.okWide Tryd.prog W .any base 3 (cs[i]'(by omega)) := by
        unfold Value.okWide
        rw [Tryd.underlying3]
        exact hok
      obtain ⟨n, hn⟩ := WideShapes.okWide_int Tryd.underlying3 hw
      exact ⟨n, fun _ => by rw [hcs, hn]⟩
    · exact ⟨0, fun h => absurd h hi⟩
  obtain ⟨F, hF⟩ := Classical.axiomOfChoice hi
  refine ⟨(List.range 19).map F, ?_⟩
  congr 1
  apply Array.ext_getElem?
  intro i
  by_cases h : i < 19
  · rw [hF i h, flC_at _ i h]
    unfold el
    simp [List.getD_eq_getElem?_getD, h]
  · rw [Array.getElem?_eq_none (by omega), Array.getElem?_eq_none (by show 19 ≤ i; omega)]
end Go.Proofs.YtdeofopandobhaaDoor
