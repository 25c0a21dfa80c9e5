/- When two servers are one. -/
import Derived.Test.YtdnfpekcipigbaaDoorPkA
namespace Go.Proofs.YtdnfpekcipigbaaDoor
open Go.RowKit

theorem kpart0 (b : List Int) (w : World) : (part 3 (bkC b) 0).run Tryd.prog w = .ok (.int .i64 (el b 0)) w := by kernel_rfl
theorem kpart1 (b : List Int) (w : World) : (part 3 (bkC b) 1).run Tryd.prog w = .ok (.int .i64 (el b 1)) w := by kernel_rfl
theorem kpart2 (b : List Int) (w : World) : (part 3 (bkC b) 2).run Tryd.prog w = .ok (.int .i64 (el b 2)) w := by kernel_rfl
theorem kpart3 (b : List Int) (w : World) : (part 3 (bkC b) 3).run Tryd.prog w = .ok (.int .i64 (el b 3)) w := by kernel_rfl
theorem kpart4 (b : List Int) (w : World) : (part 4 (bkC b) 4).run Tryd.prog w = .ok (.bool (el b 4 == 1)) w := by kernel_rfl
theorem kpart5 (b : List Int) (w : World) : (part 4 (bkC b) 5).run Tryd.prog w = .ok (.bool (el b 5 == 1)) w := by kernel_rfl
theorem keq_int (n : Nat) (x y : Int) (w : World) : (Op.equalIn (n + 1) 3 (.int .i64 x) (.int .i64 y)).run Tryd.prog w = .ok (x == y) w := run_equalIn_int w n 3 .i64 .i64 x y Tryd.underlying3
theorem keq_bool (n : Nat) (x y : Bool) (w : World) : (Op.equalIn (n + 1) 4 (.bool x) (.bool y)).run Tryd.prog w = .ok (x == y) w := by
  rw [Op.equalIn]
  simp only [Sem.run_bind, run_underlying Tryd.underlying4, Result.andThen_ok]
  rfl
theorem Tryd.backL : (Tryd.prog.fieldsOf 38).toList.map (fun f => (f.name == "_", f.type, f.offset)) = [(false, 3, 0), (false, 3, 1), (false, 3, 2), (false, 3, 3), (false, 4, 4), (false, 4, 5)] := by kernel_rfl
/-- the fields one by one. -/
def eqKL (d : Nat) (xs ys : Array Value) : List (Bool × TypeId × Nat) → Sem Bool
  | [] => pure true
  | (u, t, o) :: r => if u = true then eqKL d xs ys r else do
      let a ← part t xs o
      let b ← part t ys o
      let e ← Op.equalIn d t a b
      if (!e) = true then pure false else eqKL d xs ys r
theorem eqKL_of (d : Nat) (xs ys : Array Value) (fs : List Field) : Op.eqFields d xs ys fs = eqKL d xs ys (fs.map (fun f => (f.name == "_", f.type, f.offset))) := by
  induction fs with
  | nil => rfl
  | cons f r ih =>
    unfold Op.eqFields
    simp only [List.map_cons, eqKL]
    by_cases h : f.name = "_"
    · rw [if_neg (by simpa using h), if_pos (by simpa using h), ih]
    · rw [if_pos (by simpa using h), if_neg (by simpa using h)]
      simp only [ih]
/-- are two servers one? -/
def eqk (a b : List Int) : Bool := el a 0 == el b 0 && el a 1 == el b 1 && el a 2 == el b 2 && el a 3 == el b 3 && (el a 4 == 1) == (el b 4 == 1) && (el a 5 == 1) == (el b 5 == 1)
theorem eq_backs (a b : List Int) (w : World) : (Op.equalIn 10000 38 (.agg (bkC a)) (.agg (bkC b))).run Tryd.prog w = .ok (eqk a b) w := by
  rw [show 10000 = 9999 + 1 from rfl, run_equalIn_struct w 9999 _ _ _ (by kernel_rfl) (by kernel_rfl), eqKL_of, Tryd.backL]
  unfold eqk
  have e3 : ∀ x y, (Op.equalIn 9999 3 (.int .i64 x) (.int .i64 y)).run Tryd.prog w = .ok (x == y) w := fun x y => keq_int 9998 x y w
  have e4 : ∀ x y, (Op.equalIn 9999 4 (.bool x) (.bool y)).run Tryd.prog w = .ok (x == y) w := fun x y => keq_bool 9998 x y w
  simp only [eqKL, Sem.run_bind, kpart0, kpart1, kpart2, kpart3, kpart4, kpart5, e3, e4, Result.andThen_ok, Bool.false_eq_true, if_false, Sem.run_ite, Sem.run_pure]
  cases el a 0 == el b 0 <;> cases el a 1 == el b 1 <;> cases el a 2 == el b 2 <;> cases el a 3 == el b 3 <;> cases (el a 4 == 1) == (el b 4 == 1) <;> cases (el a 5 == 1) == (el b 5 == 1) <;> rfl
theorem eqk_refl (a : List Int) : eqk a a = true := by unfold eqk; simp
/-- the question, held shut for a walk. -/
def keq (x y : Value) : Sem Bool := Op.equalIn 10000 38 x y
theorem keq_shut (x y : Value) : Op.equalIn 10000 38 x y = keq x y := rfl
theorem keq_run (a b : List Int) (w : World) : (keq (.agg (bkC a)) (.agg (bkC b))).run Tryd.prog w = .ok (eqk a b) w := eq_backs a b w
end Go.Proofs.YtdnfpekcipigbaaDoor
