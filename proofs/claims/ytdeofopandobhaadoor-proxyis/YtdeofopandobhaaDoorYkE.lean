/- When two flows are one. -/
import Derived.Test.YtdeofopandobhaaDoorPkF
import Derived.Laws.StructEq
namespace Go.Proofs.YtdeofopandobhaaDoor
open Go.RowKit
/-- are two addresses one? -/
def eqz (a b : List Int) : Bool := el a 0 == el b 0 && el a 1 == el b 1 && el a 2 == el b 2 && el a 3 == el b 3 && el a 4 == el b 4 && el a 5 == el b 5 && el a 6 == el b 6 && el a 7 == el b 7
theorem eqz_iff (a b : List Int) : eqz a b = true ↔ ∀ j, j < 8 → el a j = el b j := by
  unfold eqz
  simp only [Bool.and_eq_true, beq_iff_eq]
  refine ⟨fun ⟨⟨⟨⟨⟨⟨⟨h0, h1⟩, h2⟩, h3⟩, h4⟩, h5⟩, h6⟩, h7⟩ j hj => ?_, fun h => ⟨⟨⟨⟨⟨⟨⟨h 0 (by omega), h 1 (by omega)⟩, h 2 (by omega)⟩, h 3 (by omega)⟩, h 4 (by omega)⟩, h 5 (by omega)⟩, h 6 (by omega)⟩, h 7 (by omega)⟩⟩
  rcases (by omega : j = 0 ∨ j = 1 ∨ j = 2 ∨ j = 3 ∨ j = 4 ∨ j = 5 ∨ j = 6 ∨ j = 7) with rfl | rfl | rfl | rfl | rfl | rfl | rfl | rfl <;> assumption
/-- are two flows one? are two binds? -/
def eqf (a b : List Int) : Bool := el a 0 == el b 0 && eqz (cli a) (cli b) && el a 9 == el b 9 && eqz (dst a) (dst b) && el a 18 == el b 18
theorem eqf_iff (a b : List Int) : eqf a b = true ↔ flC a = flC b := by
  unfold eqf
  simp only [Bool.and_eq_true, beq_iff_eq, eqz_iff]
  constructor
  · rintro ⟨⟨⟨⟨h0, h1⟩, h2⟩, h3⟩, h4⟩
    have k : ∀ j, j < 8 → el a (1 + j) = el b (1 + j) := fun j hj => by
      have := h1 j hj
      rcases (by omega : j = 0 ∨ j = 1 ∨ j = 2 ∨ j = 3 ∨ j = 4 ∨ j = 5 ∨ j = 6 ∨ j = 7) with rfl | rfl | rfl | rfl | rfl | rfl | rfl | rfl <;> exact this
    have k2 : ∀ j, j < 8 → el a (10 + j) = el b (10 + j) := fun j hj => by
      have := h3 j hj
      rcases (by omega : j = 0 ∨ j = 1 ∨ j = 2 ∨ j = 3 ∨ j = 4 ∨ j = 5 ∨ j = 6 ∨ j = 7) with rfl | rfl | rfl | rfl | rfl | rfl | rfl | rfl <;> exact this
    unfold flC
    rw [h0, k 0 (by omega), k 1 (by omega), k 2 (by omega), k 3 (by omega), k 4 (by omega), k 5 (by omega), k 6 (by omega), k 7 (by omega), h2, k2 0 (by omega), k2 1 (by omega), k2 2 (by omega), k2 3 (by omega), k2 4 (by omega), k2 5 (by omega), k2 6 (by omega), k2 7 (by omega), h4]
  · intro h
    have e : ∀ j, j < 19 → el a j = el b j := fun j hj => by
      have h1 := flC_at a j hj
      rw [h, flC_at b j hj] at h1
      injection h1 with h1
      injection h1 with _ h1
      exact h1.symm
    refine ⟨⟨⟨⟨e 0 (by omega), fun j hj => ?_⟩, e 9 (by omega)⟩, fun j hj => ?_⟩, e 18 (by omega)⟩
    · rw [cli_el a j hj, cli_el b j hj]; exact e _ (by omega)
    · rw [dst_el a j hj, dst_el b j hj]; exact e _ (by omega)
set_option maxHeartbeats 4000000 in
set_option maxRecDepth 100000 in
theorem eq_aggn (n : Nat) (a b : List Int) (w : World) : (Op.equalIn (n + 2) 23 (.agg (sixC a)) (.agg (sixC b))).run Tryd.prog w = .ok (eqz a b) w := by
  unfold sixC eqz
  have u3 := Tryd.underlying3
  have a3 := Tryd.isAgg3
  have z3 := Tryd.sizeOf3
  rw [show n + 2 = (n + 1) + 1 from rfl, Op.equalIn]
  simp only [Sem.run_bind, run_underlying Tryd.underlying23, Result.andThen_ok]
  simp only [Std.Legacy.Range.forIn_eq_forIn_range', Std.Legacy.Range.size, Nat.sub_zero, Nat.add_sub_cancel, Nat.div_one, List.range'_succ, List.range'_zero, List.forIn_cons, List.forIn_nil]
  go_simp
  by_cases h0 : el a 0 = el b 0
  case neg => simp [h0]
  by_cases h1 : el a 1 = el b 1
  case neg => simp [h0, h1]
  by_cases h2 : el a 2 = el b 2
  case neg => simp [h0, h1, h2]
  by_cases h3 : el a 3 = el b 3
  case neg => simp [h0, h1, h2, h3]
  by_cases h4 : el a 4 = el b 4
  case neg => simp [h0, h1, h2, h3, h4]
  by_cases h5 : el a 5 = el b 5
  case neg => simp [h0, h1, h2, h3, h4, h5]
  by_cases h6 : el a 6 = el b 6
  case neg => simp [h0, h1, h2, h3, h4, h5, h6]
  by_cases h7 : el a 7 = el b 7
  case neg => simp [h0, h1, h2, h3, h4, h5, h6, h7]
  simp [h0, h1, h2, h3, h4, h5, h6, h7]
theorem fpart0 (f : List Int) (w : World) : (part 3 (flC f) 0).run Tryd.prog w = .ok (.int .i64 (el f 0)) w := by kernel_rfl
theorem fpart1 (f : List Int) (w : World) : (part 23 (flC f) 1).run Tryd.prog w = .ok (.agg (sixC (cli f))) w := by kernel_rfl
theorem fpart9 (f : List Int) (w : World) : (part 3 (flC f) 9).run Tryd.prog w = .ok (.int .i64 (el f 9)) w := by kernel_rfl
theorem fpart10 (f : List Int) (w : World) : (part 23 (flC f) 10).run Tryd.prog w = .ok (.agg (sixC (dst f))) w := by kernel_rfl
theorem fpart18 (f : List Int) (w : World) : (part 3 (flC f) 18).run Tryd.prog w = .ok (.int .i64 (el f 18)) w := by kernel_rfl
theorem eq_ints (n : Nat) (x y : Int) (w : World) : (Op.equalIn (n + 1) 3 (.int .i64 x) (.int .i64 y)).run Tryd.prog w = .ok (x == y) w := run_equalIn_int w n 3 .i64 .i64 x y Tryd.underlying3
theorem Tryd.flowL : (Tryd.prog.fieldsOf 25).toList.map (fun f => (f.name == "_", f.type, f.offset)) = [(false, 3, 0), (false, 23, 1), (false, 3, 9), (false, 23, 10), (false, 3, 18)] := by kernel_rfl
/-- the fields one by one. -/
def eqL (d : Nat) (xs ys : Array Value) : List (Bool × TypeId × Nat) → Sem Bool
  | [] => pure true
  | (u, t, o) :: r => if u = true then eqL d xs ys r else do
      let a ← part t xs o
      let b ← part t ys o
      let e ← Op.equalIn d t a b
      if (!e) = true then pure false else eqL d xs ys r
theorem eqL_of (d : Nat) (xs ys : Array Value) (fs : List Field) : Op.eqFields d xs ys fs = eqL d xs ys (fs.map (fun f => (f.name == "_", f.type, f.offset))) := by
  induction fs with
  | nil => rfl
  | cons f r ih =>
    unfold Op.eqFields
    simp only [List.map_cons, eqL]
    by_cases h : f.name = "_"
    · rw [if_neg (by simpa using h), if_pos (by simpa using h), ih]
    · rw [if_pos (by simpa using h), if_neg (by simpa using h)]
      simp only [ih]
theorem eq_flowsn (n : Nat) (a b : List Int) (w : World) : (Op.equalIn (n + 3) 25 (.agg (flC a)) (.agg (flC b))).run Tryd.prog w = .ok (eqf a b) w := by
  rw [show n + 3 = (n + 2) + 1 from rfl, run_equalIn_struct w (n + 2) _ _ _ (by kernel_rfl) (by kernel_rfl), eqL_of, Tryd.flowL]
  unfold eqf
  simp only [eqL, Sem.run_bind, fpart0, fpart1, fpart9, fpart10, fpart18, eq_aggn, eq_ints, Result.andThen_ok, Bool.false_eq_true, if_false, Sem.run_ite, Sem.run_pure]
  cases el a 0 == el b 0 <;> cases eqz (cli a) (cli b) <;> cases el a 9 == el b 9 <;> cases eqz (dst a) (dst b) <;> cases el a 18 == el b 18 <;> rfl
theorem eq_flows (a b : List Int) (w : World) : (Op.equalIn 10000 25 (.agg (flC a)) (.agg (flC b))).run Tryd.prog w = .ok (eqf a b) w := eq_flowsn 9997 a b w
/-- the question whether two are one, held shut for a walk. -/
def feq (x y : Value) : Sem Bool := Op.equalIn 10000 25 x y
theorem feq_shut (x y : Value) : Op.equalIn 10000 25 x y = feq x y := rfl
theorem feq_run (a b : List Int) (w : World) : (feq (.agg (flC a)) (.agg (flC b))).run Tryd.prog w = .ok (eqf a b) w := eq_flows a b w
end Go.Proofs.YtdeofopandobhaaDoor
