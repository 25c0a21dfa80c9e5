/- A struct by value, of whatever number of fields of one cell each, opened: its cells, each with a reading of its own; a field of ints; a field of bytes. An argument that is a packet of sixes, opened. An argument that is a packet of fours, opened. An argument that is an address. -/
import Derived.Test.YtfjnioninjllkaaDoorJMath
import Derived.Deep.Fields
import Derived.WideShapes
import Derived.ChangeSlices
import Derived.ChangeArms
import Derived.Test.YtfjnioninjllkaaDoorJV6
import Derived.Test.YtfjnioninjllkaaDoorJV4
import Derived.Test.YtfjnioninjllkaaDoorS6Six
namespace Go.Proofs.YtfjnioninjllkaaDoor
open Go.ChangeShapes Go.WideShapes Go.Deep Go.RowKit

theorem open_aggs {H : Type} {enc : TypeId × Value → H} {P : Program} {w : World} {base : Nat} {spare : Nat → Bool} {held : Bool} {r : Reach} {b0 : Nat} {t : TypeId} {fs : Array Field} {v : Value} {d : DataW H} {p : List MemPlace} (hs : P.underlying t = some (.struct fs)) (hone : oneCellFields P fs = true) (hC : P.cellsOf t = fs.size)
    (hv : Value.okWide P w r b0 t v) (h : DataW.Trod enc P w base spare held t v d p) :
    ∃ cs : Array Value, v = .agg cs ∧ cs.size = fs.size ∧ ∀ (i : Nat) (f : Field) (c : Value), fs[i]? = some f → cs[i]? = some c → ∃ n y, DataW.trod enc P w base spare held n f.type [c] = some y := by
  obtain ⟨cs, rfl, hsz⟩ := okWide_struct hs hv
  obtain ⟨fuel, hf⟩ := h
  obtain ⟨xs, n, _, _, _, hlen, hall⟩ := DataW.trod_struct hs hf
  refine ⟨cs, rfl, hsz.trans hC, fun i f c hi hc => ?_⟩
  obtain ⟨o, k⟩ := hone_of hone i f hi
  have hx := hall i f hi
  have hit : (cs.toList.drop i).take 1 = [c] := by
    have hlt : i < cs.size := (Array.getElem?_eq_some_iff.1 hc).1
    have e : cs.toList[i]? = some c := by simpa using hc
    rw [List.drop_eq_getElem_cons (by simpa using hlt)]
    rw [List.getElem?_eq_getElem (by simpa using hlt)] at e
    simp at e ⊢
    exact e
  rw [o, k] at hx
  have hcells : (Value.agg cs).cells.toList = cs.toList := rfl
  rw [hcells, hit, List.getElem?_eq_getElem (by rw [hlen]; exact (Array.getElem?_eq_some_iff.1 hi).1)] at hx
  exact ⟨n, _, hx⟩
/-- a field of an integer type. -/
theorem field_int {H : Type} {enc : TypeId × Value → H} {P : Program} {w : World} {base : Nat} {spare : Nat → Bool} {held : Bool} {t : TypeId} {k : IntKind} {n : Nat} {c : Value} {y : DataW H × List MemPlace} (ht : P.underlying t = some (.int k)) (h : DataW.trod enc P w base spare held n t [c] = some y) : ∃ a, c = .int k a ∧ (Lit.int k a).wf = true := by
  obtain ⟨a, e, _, wa⟩ := DataW.trod_int ht h
  simp at e
  exact ⟨a, e, wa⟩
/-- a field of bytes, read with its spare places. -/
theorem field_bytes {H : Type} {enc : TypeId × Value → H} {P : Program} {w : World} {base : Nat} {spare : Nat → Bool} {held : Bool} {t e : TypeId} {n : Nat} {c : Value} {y : DataW H × List MemPlace} (ht : P.underlying t = some (.slice e)) (he : P.underlying e = some (.int .u8)) (hc : P.cellsOf e = 1) (hsp : ∀ b, spare b = true)
    (h : DataW.trod enc P w base spare held n t [c] = some y) : ∃ a len cap zs, c = .slice a len cap ∧ IsRow .u8 w a len cap zs := by
  rcases open_ints ht he hc h with ⟨hcs, _⟩ | ⟨x, l, cp, zs, hcs, _, hl, hm, hz, _, hcell, hwz⟩
  · simp at hcs
    subst hcs
    exact ⟨none, 0, 0, [], rfl, .inl ⟨rfl, rfl, rfl, rfl⟩⟩
  · simp at hcs
    subst hcs
    rw [hsp, if_pos rfl] at hz
    exact ⟨some x, l, cp, zs, rfl, .inr ⟨x, rfl, hl, hm, hz, hcell, hwz⟩⟩
theorem array_six {α : Type} {cs : Array α} (h : cs.size = 6) : ∃ c0 c1 c2 c3 c4 c5, cs = #[c0, c1, c2, c3, c4, c5] := by
  obtain ⟨l⟩ := cs
  match l, h with
  | [c0, c1, c2, c3, c4, c5], _ => exact ⟨c0, c1, c2, c3, c4, c5, rfl⟩
theorem array_eight {α : Type} {cs : Array α} (h : cs.size = 8) : ∃ c0 c1 c2 c3 c4 c5 c6 c7, cs = #[c0, c1, c2, c3, c4, c5, c6, c7] := by
  obtain ⟨l⟩ := cs
  match l, h with
  | [c0, c1, c2, c3, c4, c5, c6, c7], _ => exact ⟨c0, c1, c2, c3, c4, c5, c6, c7, rfl⟩
end Go.Proofs.YtfjnioninjllkaaDoor

namespace Go.Proofs.YtfjnioninjllkaaDoor.V6
open Go.ChangeShapes Go.WideShapes Go.Deep Go.RowKit

theorem Tryd.body4 : (Tryd.prog.underlying 26).map (fun d => match d with | .struct fs => (fs[4]?).map (fun f => (f.offset, f.type, Tryd.prog.cellsOf f.type)) | _ => none) = some (some (18, 24, 1)) := by kernel_rfl

set_option maxRecDepth 100000 in
theorem pk_open {H : Type} {enc : TypeId × Value → H} {W : World} {base b0 : Nat} {held : Bool} {v : Value} {x : DataW H} {p : List MemPlace} (h : Value.okWide Tryd.prog W .any b0 26 v) (ht : DataW.Trod enc Tryd.prog W base (fun _ => true) held 26 v x p) :
    ∃ s d hp k a len cap zs, v = pk s d hp k a len cap ∧ IsRow .u8 W a len cap zs := by
  have hu := Tryd.underlying26
  have hu' := hu
  unfold Value.okWide at h
  rw [hu] at h
  obtain ⟨cs, rfl, hsz, ts, hts, _, hc⟩ := h
  have h19 : Tryd.prog.cellsOf 26 = 19 := by kernel_rfl
  have ht19 : Tryd.prog.cellTypes Tryd.prog.depth 26 = some (List.replicate 18 3 ++ [24]) := by kernel_rfl
  rw [h19] at hsz
  obtain rfl := Option.some.inj (hts.symm.trans ht19)
  have hi : ∀ i, i < 18 → ∃ n : Int, cs[i]? = some (.int .i64 n) := by
    intro i hi
    have hcs : cs[i]? = some (cs[i]'(by omega)) := Array.getElem?_eq_getElem (by omega)
    obtain ⟨u, hu, hok⟩ := hc i _ hcs
    have hu3 : u = 3 := by
      have hL : (List.replicate 18 (3 : TypeId) ++ [(24 : TypeId)]).length = 19 := rfl
      rw [hL, Nat.mod_eq_of_lt (by omega), List.getElem?_append_left (by simpa using hi), List.getElem?_replicate, if_pos hi] at hu
      exact (Option.some.inj hu).symm
    subst hu3
    have hw : Value.okWide Tryd.prog W .any b0 3 (cs[i]'(by omega)) := by
      unfold Value.okWide
      rw [Tryd.underlying3]
      exact hok
    obtain ⟨n, hn⟩ := WideShapes.okWide_int Tryd.underlying3 hw
    exact ⟨n, by rw [hcs, hn]⟩
  obtain ⟨fuel, hf⟩ := ht
  obtain ⟨xs, n, _, _, _, hlen, hall⟩ := DataW.trod_struct hu' hf
  have hb4 := Tryd.body4
  rw [hu'] at hb4
  simp only [Option.map_some] at hb4
  obtain ⟨f4, hf4, hb5⟩ := Option.map_eq_some_iff.1 (Option.some.inj hb4)
  have o1 : f4.offset = 18 := congrArg (·.1) hb5
  have o2 : f4.type = 24 := congrArg (·.2.1) hb5
  have o3 : Tryd.prog.cellsOf f4.type = 1 := congrArg (·.2.2) hb5
  have hx := hall 4 f4 hf4
  have hcs18 : cs[18]? = some (cs[18]'(by omega)) := Array.getElem?_eq_getElem (by omega)
  have hit : (cs.toList.drop 18).take 1 = [cs[18]'(by omega)] := by
    rw [List.drop_eq_getElem_cons (by simp; omega)]
    simp
  rw [o1, o3] at hx
  have hcells : (Value.agg cs).cells.toList = cs.toList := rfl
  rw [hcells, hit, o2] at hx
  have hlt : 4 < xs.length := by
    rw [hlen]
    exact (Array.getElem?_eq_some_iff.1 hf4).1
  rw [List.getElem?_eq_getElem hlt] at hx
  obtain ⟨a, len, cap, zs, h18, hrow⟩ := field_bytes Tryd.underlying24 Tryd.underlying5 (by kernel_rfl) (fun _ => rfl) hx
  obtain ⟨a0, e0⟩ := hi 0 (by omega); obtain ⟨a1, e1⟩ := hi 1 (by omega); obtain ⟨a2, e2⟩ := hi 2 (by omega); obtain ⟨a3, e3⟩ := hi 3 (by omega)
  obtain ⟨a4, e4⟩ := hi 4 (by omega); obtain ⟨a5, e5⟩ := hi 5 (by omega); obtain ⟨a6, e6⟩ := hi 6 (by omega); obtain ⟨a7, e7⟩ := hi 7 (by omega)
  obtain ⟨a8, e8⟩ := hi 8 (by omega); obtain ⟨a9, e9⟩ := hi 9 (by omega); obtain ⟨a10, e10⟩ := hi 10 (by omega); obtain ⟨a11, e11⟩ := hi 11 (by omega)
  obtain ⟨a12, e12⟩ := hi 12 (by omega); obtain ⟨a13, e13⟩ := hi 13 (by omega); obtain ⟨a14, e14⟩ := hi 14 (by omega); obtain ⟨a15, e15⟩ := hi 15 (by omega)
  obtain ⟨a16, e16⟩ := hi 16 (by omega); obtain ⟨a17, e17⟩ := hi 17 (by omega)
  have e18 : cs[18]? = some (.slice a len cap) := by rw [hcs18, h18]
  refine ⟨[a0, a1, a2, a3, a4, a5, a6, a7], [a8, a9, a10, a11, a12, a13, a14, a15], a16, a17, a, len, cap, zs, ?_, hrow⟩
  unfold pk
  congr 1
  apply Array.ext_getElem?
  intro i
  by_cases h : i < 19
  · rcases (by omega : i = 0 ∨ i = 1 ∨ i = 2 ∨ i = 3 ∨ i = 4 ∨ i = 5 ∨ i = 6 ∨ i = 7 ∨ i = 8 ∨ i = 9 ∨ i = 10 ∨ i = 11 ∨ i = 12 ∨ i = 13 ∨ i = 14 ∨ i = 15 ∨ i = 16 ∨ i = 17 ∨ i = 18) with rfl | rfl | rfl | rfl | rfl | rfl | rfl | rfl | rfl | rfl | rfl | rfl | rfl | rfl | rfl | rfl | rfl | rfl | rfl
    · rw [e0]; rfl
    · rw [e1]; rfl
    · rw [e2]; rfl
    · rw [e3]; rfl
    · rw [e4]; rfl
    · rw [e5]; rfl
    · rw [e6]; rfl
    · rw [e7]; rfl
    · rw [e8]; rfl
    · rw [e9]; rfl
    · rw [e10]; rfl
    · rw [e11]; rfl
    · rw [e12]; rfl
    · rw [e13]; rfl
    · rw [e14]; rfl
    · rw [e15]; rfl
    · rw [e16]; rfl
    · rw [e17]; rfl
    · rw [e18]; rfl
  · rw [Array.getElem?_eq_none (by omega), Array.getElem?_eq_none (by rw [pkC_size]; omega)]
end Go.Proofs.YtfjnioninjllkaaDoor.V6

namespace Go.Proofs.YtfjnioninjllkaaDoor.V4
open Go.ChangeShapes Go.WideShapes Go.Deep Go.RowKit

set_option maxRecDepth 100000 in
theorem pk_open {H : Type} {enc : TypeId × Value → H} {W : World} {base b0 : Nat} {held : Bool} {v : Value} {x : DataW H} {p : List MemPlace} (h : Value.okWide Tryd.prog W .any b0 28 v) (ht : DataW.Trod enc Tryd.prog W base (fun _ => true) held 28 v x p) :
    ∃ s d t k i a len cap zs, v = pk s d t k i a len cap ∧ IsRow .u8 W a len cap zs := by
  obtain ⟨cs, rfl, hcs, hall⟩ := open_aggs Tryd.underlying28 (by kernel_rfl) (by kernel_rfl) h ht
  obtain ⟨x0, x1, x2, x3, x4, x5, rfl⟩ := array_six hcs
  obtain ⟨n0, y0, e0⟩ := hall 0 _ x0 rfl rfl
  obtain ⟨n1, y1, e1⟩ := hall 1 _ x1 rfl rfl
  obtain ⟨n2, y2, e2⟩ := hall 2 _ x2 rfl rfl
  obtain ⟨n3, y3, e3⟩ := hall 3 _ x3 rfl rfl
  obtain ⟨n4, y4, e4⟩ := hall 4 _ x4 rfl rfl
  obtain ⟨n5, y5, e5⟩ := hall 5 _ x5 rfl rfl
  obtain ⟨s, rfl, -⟩ := field_int Tryd.underlying3 e0
  obtain ⟨d, rfl, -⟩ := field_int Tryd.underlying3 e1
  obtain ⟨t, rfl, -⟩ := field_int Tryd.underlying3 e2
  obtain ⟨k, rfl, -⟩ := field_int Tryd.underlying3 e3
  obtain ⟨i, rfl, -⟩ := field_int Tryd.underlying3 e4
  obtain ⟨a, len, cap, zs, rfl, hrow⟩ := field_bytes Tryd.underlying24 Tryd.underlying5 (by kernel_rfl) (fun _ => rfl) e5
  exact ⟨s, d, t, k, i, a, len, cap, zs, rfl, hrow⟩
end Go.Proofs.YtfjnioninjllkaaDoor.V4

namespace Go.Proofs.YtfjnioninjllkaaDoor
open Go.RowKit

set_option maxRecDepth 100000 in
/-- an argument that is an address. -/
theorem six_open {W : World} {base : Nat} {v : Value} (h : Value.okWide Tryd.prog W .any base 23 v) : ∃ z : List Int, z.length = 8 ∧ v = six z := by
  have hu := Tryd.underlying23
  unfold Value.okWide at h
  rw [hu] at h
  obtain ⟨cs, rfl, hsz, ts, hts, _, hc⟩ := h
  have h8 : Tryd.prog.cellsOf 23 = 8 := by kernel_rfl
  have ht8 : Tryd.prog.cellTypes Tryd.prog.depth 23 = some (List.replicate 8 3) := by kernel_rfl
  rw [h8] at hsz
  obtain rfl := Option.some.inj (hts.symm.trans ht8)
  have hi : ∀ i, i < 8 → ∃ n : Int, cs[i]? = some (.int .i64 n) := by
    intro i hi
    have hcs : cs[i]? = some (cs[i]'(by omega)) := Array.getElem?_eq_getElem (by omega)
    obtain ⟨u, hu, hok⟩ := hc i _ hcs
    have hu3 : u = 3 := by
      rw [List.length_replicate, Nat.mod_eq_of_lt hi, List.getElem?_replicate, if_pos hi] at hu
      exact (Option.some.inj hu).symm
    subst hu3
    have hw : Value.okWide Tryd.prog W .any base 3 (cs[i]'(by omega)) := by
      unfold Value.okWide
      rw [Tryd.underlying3]
      exact hok
    obtain ⟨n, hn⟩ := WideShapes.okWide_int Tryd.underlying3 hw
    exact ⟨n, by rw [hcs, hn]⟩
  obtain ⟨a0, e0⟩ := hi 0 (by omega); obtain ⟨a1, e1⟩ := hi 1 (by omega); obtain ⟨a2, e2⟩ := hi 2 (by omega); obtain ⟨a3, e3⟩ := hi 3 (by omega)
  obtain ⟨a4, e4⟩ := hi 4 (by omega); obtain ⟨a5, e5⟩ := hi 5 (by omega); obtain ⟨a6, e6⟩ := hi 6 (by omega); obtain ⟨a7, e7⟩ := hi 7 (by omega)
  refine ⟨[a0, a1, a2, a3, a4, a5, a6, a7], rfl, ?_⟩
  show Value.agg cs = Value.agg #[.int .i64 a0, .int .i64 a1, .int .i64 a2, .int .i64 a3, .int .i64 a4, .int .i64 a5, .int .i64 a6, .int .i64 a7]
  congr 1
  apply Array.ext_getElem?
  intro i
  by_cases h : i < 8
  · rcases (by omega : i = 0 ∨ i = 1 ∨ i = 2 ∨ i = 3 ∨ i = 4 ∨ i = 5 ∨ i = 6 ∨ i = 7) with rfl | rfl | rfl | rfl | rfl | rfl | rfl | rfl
    · rw [e0]; rfl
    · rw [e1]; rfl
    · rw [e2]; rfl
    · rw [e3]; rfl
    · rw [e4]; rfl
    · rw [e5]; rfl
    · rw [e6]; rfl
    · rw [e7]; rfl
  · rw [Array.getElem?_eq_none (by omega), Array.getElem?_eq_none (by simp; omega)]
end Go.Proofs.YtfjnioninjllkaaDoor
