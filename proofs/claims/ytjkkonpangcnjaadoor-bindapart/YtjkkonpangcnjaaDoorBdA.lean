/- Flows and binds as values: 19 numbers, and 23; when two are one. -/
import Derived.Test.YtjkkonpangcnjaaDoorPoTake2
import Derived.Laws.StructEq
namespace Go.Proofs.YtjkkonpangcnjaaDoor
open Go.RowKit

/-- a flow's cells: a kind, a client, its port, an address, its door. -/
def flC (f : List Int) : Array Value := #[.int .i64 (el f 0), .int .i64 (el f 1), .int .i64 (el f 2), .int .i64 (el f 3), .int .i64 (el f 4), .int .i64 (el f 5), .int .i64 (el f 6), .int .i64 (el f 7), .int .i64 (el f 8), .int .i64 (el f 9), .int .i64 (el f 10), .int .i64 (el f 11), .int .i64 (el f 12), .int .i64 (el f 13), .int .i64 (el f 14), .int .i64 (el f 15), .int .i64 (el f 16), .int .i64 (el f 17), .int .i64 (el f 18)]
/-- a bind's cells: a flow, the port, where it is led, when it was used last. -/
def bdC (b : List Int) : Array Value := #[.int .i64 (el b 0), .int .i64 (el b 1), .int .i64 (el b 2), .int .i64 (el b 3), .int .i64 (el b 4), .int .i64 (el b 5), .int .i64 (el b 6), .int .i64 (el b 7), .int .i64 (el b 8), .int .i64 (el b 9), .int .i64 (el b 10), .int .i64 (el b 11), .int .i64 (el b 12), .int .i64 (el b 13), .int .i64 (el b 14), .int .i64 (el b 15), .int .i64 (el b 16), .int .i64 (el b 17), .int .i64 (el b 18), .int .i64 (el b 19), .int .i64 (el b 20), .int .i64 (el b 21), .int .i64 (el b 22)]
set_option maxRecDepth 10000 in
theorem flC_at (f : List Int) (j : Nat) (hj : j < 19) : (flC f)[j]? = some (.int .i64 (el f j)) := by
  rcases (by omega : j = 0 ∨ j = 1 ∨ j = 2 ∨ j = 3 ∨ j = 4 ∨ j = 5 ∨ j = 6 ∨ j = 7 ∨ j = 8 ∨ j = 9 ∨ j = 10 ∨ j = 11 ∨ j = 12 ∨ j = 13 ∨ j = 14 ∨ j = 15 ∨ j = 16 ∨ j = 17 ∨ j = 18) with rfl | rfl | rfl | rfl | rfl | rfl | rfl | rfl | rfl | rfl | rfl | rfl | rfl | rfl | rfl | rfl | rfl | rfl | rfl <;> rfl
set_option maxRecDepth 10000 in
theorem bdC_at (b : List Int) (j : Nat) (hj : j < 23) : (bdC b)[j]? = some (.int .i64 (el b j)) := by
  rcases (by omega : j = 0 ∨ j = 1 ∨ j = 2 ∨ j = 3 ∨ j = 4 ∨ j = 5 ∨ j = 6 ∨ j = 7 ∨ j = 8 ∨ j = 9 ∨ j = 10 ∨ j = 11 ∨ j = 12 ∨ j = 13 ∨ j = 14 ∨ j = 15 ∨ j = 16 ∨ j = 17 ∨ j = 18 ∨ j = 19 ∨ j = 20 ∨ j = 21 ∨ j = 22) with rfl | rfl | rfl | rfl | rfl | rfl | rfl | rfl | rfl | rfl | rfl | rfl | rfl | rfl | rfl | rfl | rfl | rfl | rfl | rfl | rfl | rfl | rfl <;> rfl
/-- a flow's client, and its address. -/
def cli (f : List Int) : List Int := [el f 1, el f 2, el f 3, el f 4, el f 5, el f 6, el f 7, el f 8]
def dst (f : List Int) : List Int := [el f 10, el f 11, el f 12, el f 13, el f 14, el f 15, el f 16, el f 17]
theorem cli_el (f : List Int) (j : Nat) (hj : j < 8) : el (cli f) j = el f (1 + j) := by
  rcases (by omega : j = 0 ∨ j = 1 ∨ j = 2 ∨ j = 3 ∨ j = 4 ∨ j = 5 ∨ j = 6 ∨ j = 7) with rfl | rfl | rfl | rfl | rfl | rfl | rfl | rfl <;> rfl
theorem dst_el (f : List Int) (j : Nat) (hj : j < 8) : el (dst f) j = el f (10 + j) := by
  rcases (by omega : j = 0 ∨ j = 1 ∨ j = 2 ∨ j = 3 ∨ j = 4 ∨ j = 5 ∨ j = 6 ∨ j = 7) with rfl | rfl | rfl | rfl | rfl | rfl | rfl | rfl <;> rfl
/-- a new bind. -/
def mkb (f : List Int) (near back far now : Int) : List Int := [el f 0, el f 1, el f 2, el f 3, el f 4, el f 5, el f 6, el f 7, el f 8, el f 9, el f 10, el f 11, el f 12, el f 13, el f 14, el f 15, el f 16, el f 17, el f 18, near, back, far, now]
theorem flC_mkb (f : List Int) (near back far now : Int) : flC (mkb f near back far now) = flC f := rfl
/-- are two flows one? are two binds? -/
def eqf (a b : List Int) : Bool := el a 0 == el b 0 && eqz (cli a) (cli b) && el a 9 == el b 9 && eqz (dst a) (dst b) && el a 18 == el b 18
def eqb (a b : List Int) : Bool := eqf a b && el a 19 == el b 19 && el a 20 == el b 20 && el a 21 == el b 21 && el a 22 == el b 22
theorem eqf_iff (a b : List Int) : eqf a b = true ↔ flC a = flC b := by
  unfold eqf
  simp only [Bool.and_eq_true, beq_iff_eq, eqz_iff]
  constructor
  · rintro ⟨⟨⟨⟨h0, h1⟩, h2⟩, h3⟩, h4⟩
    have k : ∀ j, j < 8 → el a (1 + j) = el b (1 + j) := fun j hj => by
      have := h1 j hj
      rcases (by omega : j = 0 ∨ j = 1 ∨ j = 2 ∨ j = 3 ∨ j = 4 ∨ j = 5 ∨ j = 6 ∨ j = 7) with rfl | rfl | rfl | rfl | rfl | rfl | rfl | rfl <;> exact this
    have k2 : ∀ j, j < 8 → el a (10 + j) = el b (10 + j) := fun j hj => by
      have := h3 j hj
      rcases (by omega : j = 0 ∨ j = 1 ∨ j = 2 ∨ j = 3 ∨ j = 4 ∨ j = 5 ∨ j = 6 ∨ j = 7) with rfl | rfl | rfl | rfl | rfl | rfl | rfl | rfl <;> exact this
    unfold flC
    rw [h0, k 0 (by omega), k 1 (by omega), k 2 (by omega), k 3 (by omega), k 4 (by omega), k 5 (by omega), k 6 (by omega), k 7 (by omega), h2, k2 0 (by omega), k2 1 (by omega), k2 2 (by omega), k2 3 (by omega), k2 4 (by omega), k2 5 (by omega), k2 6 (by omega), k2 7 (by omega), h4]
  · intro h
    have e : ∀ j, j < 19 → el a j = el b j := fun j hj => by
      have h1 := flC_at a j hj
      rw [h, flC_at b j hj] at h1
      injection h1 with h1
      injection h1 with _ h1
      exact h1.symm
    refine ⟨⟨⟨⟨e 0 (by omega), fun j hj => ?_⟩, e 9 (by omega)⟩, fun j hj => ?_⟩, e 18 (by omega)⟩
    · rw [cli_el a j hj, cli_el b j hj]; exact e _ (by omega)
    · rw [dst_el a j hj, dst_el b j hj]; exact e _ (by omega)
set_option maxHeartbeats 4000000 in
set_option maxRecDepth 100000 in
theorem eq_aggn (n : Nat) (a b : List Int) (w : World) : (Op.equalIn (n + 2) 33 (.agg (sixC a)) (.agg (sixC b))).run Tryd.prog w = .ok (eqz a b) w := by
  unfold sixC eqz
  have u3 := Tryd.underlying3
  have a3 := Tryd.isAgg3
  have z3 := Tryd.sizeOf3
  rw [show n + 2 = (n + 1) + 1 from rfl, Op.equalIn]
  simp only [Sem.run_bind, run_underlying Tryd.underlying33, Result.andThen_ok]
  simp only [Std.Legacy.Range.forIn_eq_forIn_range', Std.Legacy.Range.size, Nat.sub_zero, Nat.add_sub_cancel, Nat.div_one, List.range'_succ, List.range'_zero, List.forIn_cons, List.forIn_nil]
  go_simp
  by_cases h0 : el a 0 = el b 0
  case neg => simp [h0]
  by_cases h1 : el a 1 = el b 1
  case neg => simp [h0, h1]
  by_cases h2 : el a 2 = el b 2
  case neg => simp [h0, h1, h2]
  by_cases h3 : el a 3 = el b 3
  case neg => simp [h0, h1, h2, h3]
  by_cases h4 : el a 4 = el b 4
  case neg => simp [h0, h1, h2, h3, h4]
  by_cases h5 : el a 5 = el b 5
  case neg => simp [h0, h1, h2, h3, h4, h5]
  by_cases h6 : el a 6 = el b 6
  case neg => simp [h0, h1, h2, h3, h4, h5, h6]
  by_cases h7 : el a 7 = el b 7
  case neg => simp [h0, h1, h2, h3, h4, h5, h6, h7]
  simp [h0, h1, h2, h3, h4, h5, h6, h7]
theorem fpart0 (f : List Int) (w : World) : (part 3 (flC f) 0).run Tryd.prog w = .ok (.int .i64 (el f 0)) w := by kernel_rfl
theorem fpart1 (f : List Int) (w : World) : (part 33 (flC f) 1).run Tryd.prog w = .ok (.agg (sixC (cli f))) w := by kernel_rfl
theorem fpart9 (f : List Int) (w : World) : (part 3 (flC f) 9).run Tryd.prog w = .ok (.int .i64 (el f 9)) w := by kernel_rfl
theorem fpart10 (f : List Int) (w : World) : (part 33 (flC f) 10).run Tryd.prog w = .ok (.agg (sixC (dst f))) w := by kernel_rfl
theorem fpart18 (f : List Int) (w : World) : (part 3 (flC f) 18).run Tryd.prog w = .ok (.int .i64 (el f 18)) w := by kernel_rfl
theorem bpart0 (b : List Int) (w : World) : (part 35 (bdC b) 0).run Tryd.prog w = .ok (.agg (flC b)) w := by kernel_rfl
theorem bpart19 (b : List Int) (w : World) : (part 3 (bdC b) 19).run Tryd.prog w = .ok (.int .i64 (el b 19)) w := by kernel_rfl
theorem bpart20 (b : List Int) (w : World) : (part 3 (bdC b) 20).run Tryd.prog w = .ok (.int .i64 (el b 20)) w := by kernel_rfl
theorem bpart21 (b : List Int) (w : World) : (part 3 (bdC b) 21).run Tryd.prog w = .ok (.int .i64 (el b 21)) w := by kernel_rfl
theorem bpart22 (b : List Int) (w : World) : (part 3 (bdC b) 22).run Tryd.prog w = .ok (.int .i64 (el b 22)) w := by kernel_rfl
theorem eq_ints (n : Nat) (x y : Int) (w : World) : (Op.equalIn (n + 1) 3 (.int .i64 x) (.int .i64 y)).run Tryd.prog w = .ok (x == y) w := run_equalIn_int w n 3 .i64 .i64 x y Tryd.underlying3
theorem Tryd.flowL : (Tryd.prog.fieldsOf 35).toList.map (fun f => (f.name == "_", f.type, f.offset)) = [(false, 3, 0), (false, 33, 1), (false, 3, 9), (false, 33, 10), (false, 3, 18)] := by kernel_rfl
theorem Tryd.bindL : (Tryd.prog.fieldsOf 41).toList.map (fun f => (f.name == "_", f.type, f.offset)) = [(false, 35, 0), (false, 3, 19), (false, 3, 20), (false, 3, 21), (false, 3, 22)] := by kernel_rfl
/-- the fields one by one. -/
def eqL (d : Nat) (xs ys : Array Value) : List (Bool × TypeId × Nat) → Sem Bool
  | [] => pure true
  | (u, t, o) :: r => if u = true then eqL d xs ys r else do
      let a ← part t xs o
      let b ← part t ys o
      let e ← Op.equalIn d t a b
      if (!e) = true then pure false else eqL d xs ys r
theorem eqL_of (d : Nat) (xs ys : Array Value) (fs : List Field) : Op.eqFields d xs ys fs = eqL d xs ys (fs.map (fun f => (f.name == "_", f.type, f.offset))) := by
  induction fs with
  | nil => rfl
  | cons f r ih =>
    unfold Op.eqFields
    simp only [List.map_cons, eqL]
    by_cases h : f.name = "_"
    · rw [if_neg (by simpa using h), if_pos (by simpa using h), ih]
    · rw [if_pos (by simpa using h), if_neg (by simpa using h)]
      simp only [ih]
theorem eq_flowsn (n : Nat) (a b : List Int) (w : World) : (Op.equalIn (n + 3) 35 (.agg (flC a)) (.agg (flC b))).run Tryd.prog w = .ok (eqf a b) w := by
  rw [show n + 3 = (n + 2) + 1 from rfl, run_equalIn_struct w (n + 2) _ _ _ (by kernel_rfl) (by kernel_rfl), eqL_of, Tryd.flowL]
  unfold eqf
  simp only [eqL, Sem.run_bind, fpart0, fpart1, fpart9, fpart10, fpart18, eq_aggn, eq_ints, Result.andThen_ok, Bool.false_eq_true, if_false, Sem.run_ite, Sem.run_pure]
  cases el a 0 == el b 0 <;> cases eqz (cli a) (cli b) <;> cases el a 9 == el b 9 <;> cases eqz (dst a) (dst b) <;> cases el a 18 == el b 18 <;> rfl
theorem eq_bindsn (n : Nat) (a b : List Int) (w : World) : (Op.equalIn (n + 4) 41 (.agg (bdC a)) (.agg (bdC b))).run Tryd.prog w = .ok (eqb a b) w := by
  rw [show n + 4 = (n + 3) + 1 from rfl, run_equalIn_struct w (n + 3) _ _ _ (by kernel_rfl) (by kernel_rfl), eqL_of, Tryd.bindL]
  unfold eqb
  have e3 : ∀ x y, (Op.equalIn (n + 3) 3 (.int .i64 x) (.int .i64 y)).run Tryd.prog w = .ok (x == y) w := fun x y => eq_ints (n + 2) x y w
  simp only [eqL, Sem.run_bind, bpart0, bpart19, bpart20, bpart21, bpart22, eq_flowsn, e3, Result.andThen_ok, Bool.false_eq_true, if_false, Sem.run_ite, Sem.run_pure]
  cases eqf a b <;> cases el a 19 == el b 19 <;> cases el a 20 == el b 20 <;> cases el a 21 == el b 21 <;> cases el a 22 == el b 22 <;> rfl
theorem eq_flows (a b : List Int) (w : World) : (Op.equalIn 10000 35 (.agg (flC a)) (.agg (flC b))).run Tryd.prog w = .ok (eqf a b) w := eq_flowsn 9997 a b w
theorem eq_binds (a b : List Int) (w : World) : (Op.equalIn 10000 41 (.agg (bdC a)) (.agg (bdC b))).run Tryd.prog w = .ok (eqb a b) w := eq_bindsn 9996 a b w
/-- the question whether two are one, held shut for a walk. -/
def feq (x y : Value) : Sem Bool := Op.equalIn 10000 35 x y
theorem feq_shut (x y : Value) : Op.equalIn 10000 35 x y = feq x y := rfl
theorem feq_run (a b : List Int) (w : World) : (feq (.agg (flC a)) (.agg (flC b))).run Tryd.prog w = .ok (eqf a b) w := eq_flows a b w
def beq (x y : Value) : Sem Bool := Op.equalIn 10000 41 x y
theorem beq_shut (x y : Value) : Op.equalIn 10000 41 x y = beq x y := rfl
theorem beq_run (a b : List Int) (w : World) : (beq (.agg (bdC a)) (.agg (bdC b))).run Tryd.prog w = .ok (eqb a b) w := eq_binds a b w
theorem eqb_refl (a : List Int) : eqb a a = true := by
  unfold eqb
  rw [(eqf_iff a a).2 rfl]
  simp
end Go.Proofs.YtjkkonpangcnjaaDoor
