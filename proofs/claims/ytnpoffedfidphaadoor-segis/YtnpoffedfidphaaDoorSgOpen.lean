/- An argument that is a segment, opened. -/
import Derived.Test.YtnpoffedfidphaaDoorSgSeg
import Derived.Test.YtnpoffedfidphaaDoorAggs
namespace Go.Proofs.YtnpoffedfidphaaDoor
open Go.ChangeShapes Go.WideShapes Go.Deep Go.RowKit

set_option maxRecDepth 100000 in
theorem sg_open {H : Type} {enc : TypeId × Value → H} {W : World} {base b0 : Nat} {held : Bool} {v : Value} {x : DataW H} {p : List MemPlace} (h : Value.okWide Tryd.prog W .any b0 24 v) (ht : DataW.Trod enc Tryd.prog W base (fun _ => true) held 24 v x p) :
    ∃ z a len cap zs, v = .agg (sgC z a len cap) ∧ IsRow .u8 W a len cap zs := by
  obtain ⟨cs, rfl, hcs, hall⟩ := open_aggs Tryd.underlying24 (by kernel_rfl) (by kernel_rfl) h ht
  obtain ⟨x0, x1, x2, x3, x4, x5, x6, x7, rfl⟩ := array_eight hcs
  obtain ⟨n0, y0, e0⟩ := hall 0 _ x0 rfl rfl
  obtain ⟨n1, y1, e1⟩ := hall 1 _ x1 rfl rfl
  obtain ⟨n2, y2, e2⟩ := hall 2 _ x2 rfl rfl
  obtain ⟨n3, y3, e3⟩ := hall 3 _ x3 rfl rfl
  obtain ⟨n4, y4, e4⟩ := hall 4 _ x4 rfl rfl
  obtain ⟨n5, y5, e5⟩ := hall 5 _ x5 rfl rfl
  obtain ⟨n6, y6, e6⟩ := hall 6 _ x6 rfl rfl
  obtain ⟨n7, y7, e7⟩ := hall 7 _ x7 rfl rfl
  obtain ⟨i0, rfl, -⟩ := field_int Tryd.underlying3 e0
  obtain ⟨i1, rfl, -⟩ := field_int Tryd.underlying3 e1
  obtain ⟨i2, rfl, -⟩ := field_int Tryd.underlying3 e2
  obtain ⟨i3, rfl, -⟩ := field_int Tryd.underlying3 e3
  obtain ⟨i4, rfl, -⟩ := field_int Tryd.underlying3 e4
  obtain ⟨i5, rfl, -⟩ := field_int Tryd.underlying3 e5
  obtain ⟨i6, rfl, -⟩ := field_int Tryd.underlying3 e6
  obtain ⟨a, len, cap, zs, rfl, hrow⟩ := field_bytes Tryd.underlying22 Tryd.underlying5 (by kernel_rfl) (fun _ => rfl) e7
  exact ⟨[i0, i1, i2, i3, i4, i5, i6], a, len, cap, zs, rfl, hrow⟩
end Go.Proofs.YtnpoffedfidphaaDoor
