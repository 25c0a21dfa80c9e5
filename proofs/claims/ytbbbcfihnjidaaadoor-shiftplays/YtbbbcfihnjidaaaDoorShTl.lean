/- What the question on an error answers; segments compared. -/
import Derived.Test.YtbbbcfihnjidaaaDoorShOk
import Derived.Test.YtbbbcfihnjidaaaDoorTold
namespace Go.Proofs.YtbbbcfihnjidaaaDoor
open Go.RowKit
/-- what the statement's question answers of an error and the number told. -/
def Tells (ev : Value) (e : Int) : Prop := ∀ W, Laid0 W → Calls Tryd.prog 5 #[ev, .int .i64 e] W fun r W' => r = .returned (.bool true) ∧ Below W.heap.size W W'
theorem tells_nil : Tells .nilIface 0 := fun W _ => (error_nil W).mono fun e W' ⟨h1, h2⟩ => ⟨h1, by rw [h2]; exact Below.refl _ _⟩
theorem tells_err (e : Int) : Tells (err e) e := fun W h => error_err e W h
theorem tells_ev (e : Int) : Tells (ev e) e := by
  unfold ev
  split
  · rename_i h; rw [h]; exact tells_nil
  · exact tells_err e
set_option maxRecDepth 100000 in
set_option maxHeartbeats 2000000 in
theorem segs_same (z : List Int) (a1 a2 : Option Addr) (l1 l2 c1 c2 : Nat) (data : List Int) (w : World) (r1 : Row8 w a1 l1 c1 data) (r2 : Row8 w a2 l2 c2 data) :
    Calls Tryd.prog 10 #[.agg (sgC z a1 l1 c1), .agg (sgC z a2 l2 c2)] w fun e w' => e = .returned (.bool true) ∧ Below w.heap.size w w' := by
  have b1 := al_below w (.cells (sgC z a1 l1 c1) 36)
  have b2 := al_below (w.alloc (.cells (sgC z a1 l1 c1) 36)) (.cells (sgC z a2 l2 c2) 36)
  have HB := hide (bt b1 b2)
  have P1 := hide ((sg_new w z a1 l1 c1).kept b2)
  have P2 := hide (sg_new (w.alloc (.cells (sgC z a1 l1 c1) 36)) z a2 l2 c2)
  rw [World.size_alloc] at P2
  have v1 := conv8 (r1.below HB.out)
  have v2 := conv8 (r2.below HB.out)
  have q := str8_eq r1.2.2.1 r2.2.2.1 true (by simp)
  have q0 : (el z 0 == el z 0) = true := by simp
  have q1 : (el z 1 == el z 1) = true := by simp
  have q2 : (el z 2 == el z 2) = true := by simp
  have q3 : (el z 3 == el z 3) = true := by simp
  have q4 : (el z 4 == el z 4) = true := by simp
  have q5 : (el z 5 == el z 5) = true := by simp
  have q6 : (el z 6 == el z 6) = true := by simp
  clear r1 r2 b1 b2
  go_enter Tryd.func10, Tryd.ntmps10
  go_upto_region 1 with fail
  generalize (w.alloc (.cells (sgC z a1 l1 c1) 36)).alloc (.cells (sgC z a2 l2 c2) 36) = W at HB P1 P2 v1 v2 ⊢
  have x0 := P1.out.c0; have x1 := P1.out.c1; have x2 := P1.out.c2; have x3 := P1.out.c3; have x4 := P1.out.c4; have x5 := P1.out.c5; have x6 := P1.out.c6; have x7 := P1.out.c7
  have y0 := P2.out.c0; have y1 := P2.out.c1; have y2 := P2.out.c2; have y3 := P2.out.c3; have y4 := P2.out.c4; have y5 := P2.out.c5; have y6 := P2.out.c6; have y7 := P2.out.c7
  go_wp2
  go_ret
  exact ⟨rfl, HB.out⟩
end Go.Proofs.YtbbbcfihnjidaaaDoor
