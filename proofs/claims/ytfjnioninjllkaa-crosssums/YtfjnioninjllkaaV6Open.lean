/- An argument that is a packet of sixes, opened. -/
import Derived.Test.YtfjnioninjllkaaV6Pk
import Derived.Test.YtfjnioninjllkaaAggs
namespace Go.Proofs.Ytfjnioninjllkaa.V6
open Go.ChangeShapes Go.WideShapes Go.Deep Go.RowKit

theorem Try.body4 : (Try.prog.underlying 26).map (fun d => match d with | .struct fs => (fs[4]?).map (fun f => (f.offset, f.type, Try.prog.cellsOf f.type)) | _ => none) = some (some (18, 24, 1)) := by kernel_rfl

set_option maxRecDepth 100000 in
theorem pk_open {H : Type} {enc : TypeId × Value → H} {W : World} {base b0 : Nat} {held : Bool} {v : Value} {x : DataW H} {p : List MemPlace} (h : Value.okWide Try.prog W .any b0 26 v) (ht : DataW.Trod enc Try.prog W base (fun _ => true) held 26 v x p) :
    ∃ s d hp k a len cap zs, v = pk s d hp k a len cap ∧ IsRow .u8 W a len cap zs := by
  have hu := Try.underlying26
  have hu' := hu
  unfold Value.okWide at h
  rw [hu] at h
  obtain ⟨cs, rfl, hsz, ts, hts, _, hc⟩ := h
  have h19 : Try.prog.cellsOf 26 = 19 := by kernel_rfl
  have ht19 : Try.prog.cellTypes Try.prog.depth 26 = some (List.replicate 18 3 ++ [24]) := by kernel_rfl
  rw [h19] at hsz
  obtain rfl := Option.some.inj (hts.symm.trans ht19)
  have hi : ∀ i, i < 18 → ∃ n : Int, cs[i]? = some (.int .i64 n) := by
    intro i hi
    have hcs : cs[i]? = some (cs[i]'(by omega)) := Array.getElem?_eq_getElem (by omega)
    obtain ⟨u, hu, hok⟩ := hc i _ hcs
    have hu3 : u = 3 := by
      have hL : (List.replicate 18 (3 : TypeId) ++ [(24 : TypeId)]).length = 19 := rfl
      rw [hL, Nat.mod_eq_of_lt (by omega), List.getElem?_append_left (by simpa using hi), List.getElem?_replicate, if_pos hi] at hu
      exact (Option.some.inj hu).symm
    subst hu3
    have hw : Value.okWide Try.prog W .any b0 3 (cs[i]'(by omega)) := by
      unfold Value.okWide
      rw [Try.underlying3]
      exact hok
    obtain ⟨n, hn⟩ := WideShapes.okWide_int Try.underlying3 hw
    exact ⟨n, by rw [hcs, hn]⟩
  obtain ⟨fuel, hf⟩ := ht
  obtain ⟨xs, n, _, _, _, hlen, hall⟩ := DataW.trod_struct hu' hf
  have hb4 := Try.body4
  rw [hu'] at hb4
  simp only [Option.map_some] at hb4
  obtain ⟨f4, hf4, hb5⟩ := Option.map_eq_some_iff.1 (Option.some.inj hb4)
  have o1 : f4.offset = 18 := congrArg (·.1) hb5
  have o2 : f4.type = 24 := congrArg (·.2.1) hb5
  have o3 : Try.prog.cellsOf f4.type = 1 := congrArg (·.2.2) hb5
  have hx := hall 4 f4 hf4
  have hcs18 : cs[18]? = some (cs[18]'(by omega)) := Array.getElem?_eq_getElem (by omega)
  have hit : (cs.toList.drop 18).take 1 = [cs[18]'(by omega)] := by
    rw [List.drop_eq_getElem_cons (by simp; omega)]
    simp
  rw [o1, o3] at hx
  have hcells : (Value.agg cs).cells.toList = cs.toList := rfl
  rw [hcells, hit, o2] at hx
  have hlt : 4 < xs.length := by
    rw [hlen]
    exact (Array.getElem?_eq_some_iff.1 hf4).1
  rw [List.getElem?_eq_getElem hlt] at hx
  obtain ⟨a, len, cap, zs, h18, hrow⟩ := field_bytes Try.underlying24 Try.underlying5 (by kernel_rfl) (fun _ => rfl) hx
  obtain ⟨a0, e0⟩ := hi 0 (by omega); obtain ⟨a1, e1⟩ := hi 1 (by omega); obtain ⟨a2, e2⟩ := hi 2 (by omega); obtain ⟨a3, e3⟩ := hi 3 (by omega)
  obtain ⟨a4, e4⟩ := hi 4 (by omega); obtain ⟨a5, e5⟩ := hi 5 (by omega); obtain ⟨a6, e6⟩ := hi 6 (by omega); obtain ⟨a7, e7⟩ := hi 7 (by omega)
  obtain ⟨a8, e8⟩ := hi 8 (by omega); obtain ⟨a9, e9⟩ := hi 9 (by omega); obtain ⟨a10, e10⟩ := hi 10 (by omega); obtain ⟨a11, e11⟩ := hi 11 (by omega)
  obtain ⟨a12, e12⟩ := hi 12 (by omega); obtain ⟨a13, e13⟩ := hi 13 (by omega); obtain ⟨a14, e14⟩ := hi 14 (by omega); obtain ⟨a15, e15⟩ := hi 15 (by omega)
  obtain ⟨a16, e16⟩ := hi 16 (by omega); obtain ⟨a17, e17⟩ := hi 17 (by omega)
  have e18 : cs[18]? = some (.slice a len cap) := by rw [hcs18, h18]
  refine ⟨[a0, a1, a2, a3, a4, a5, a6, a7], [a8, a9, a10, a11, a12, a13, a14, a15], a16, a17, a, len, cap, zs, ?_, hrow⟩
  unfold pk
  congr 1
  apply Array.ext_getElem?
  intro i
  by_cases h : i < 19
  · rcases (by omega : i = 0 ∨ i = 1 ∨ i = 2 ∨ i = 3 ∨ i = 4 ∨ i = 5 ∨ i = 6 ∨ i = 7 ∨ i = 8 ∨ i = 9 ∨ i = 10 ∨ i = 11 ∨ i = 12 ∨ i = 13 ∨ i = 14 ∨ i = 15 ∨ i = 16 ∨ i = 17 ∨ i = 18) with rfl | rfl | rfl | rfl | rfl | rfl | rfl | rfl | rfl | rfl | rfl | rfl | rfl | rfl | rfl | rfl | rfl | rfl | rfl
    · rw [e0]; rfl
    · rw [e1]; rfl
    · rw [e2]; rfl
    · rw [e3]; rfl
    · rw [e4]; rfl
    · rw [e5]; rfl
    · rw [e6]; rfl
    · rw [e7]; rfl
    · rw [e8]; rfl
    · rw [e9]; rfl
    · rw [e10]; rfl
    · rw [e11]; rfl
    · rw [e12]; rfl
    · rw [e13]; rfl
    · rw [e14]; rfl
    · rw [e15]; rfl
    · rw [e16]; rfl
    · rw [e17]; rfl
    · rw [e18]; rfl
  · rw [Array.getElem?_eq_none (by omega), Array.getElem?_eq_none (by rw [pkC_size]; omega)]
end Go.Proofs.Ytfjnioninjllkaa.V6
