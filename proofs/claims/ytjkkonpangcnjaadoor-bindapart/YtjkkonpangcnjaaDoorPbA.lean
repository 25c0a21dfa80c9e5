/- The program's block of ports: who has it, and which of its ports are taken; isNobodys and isOf by contracts. -/
import Derived.Test.YtjkkonpangcnjaaDoorPoTake2
namespace Go.Proofs.YtjkkonpangcnjaaDoor
open Go.RowKit

/-- a block's cells. -/
def pbC (z : List Int) (t : Nat → Bool) : Array Value := #[.int .i64 (el z 0), .int .i64 (el z 1), .int .i64 (el z 2), .int .i64 (el z 3), .int .i64 (el z 4), .int .i64 (el z 5), .int .i64 (el z 6), .int .i64 (el z 7), .bool (t 0), .bool (t 1), .bool (t 2), .bool (t 3), .bool (t 4), .bool (t 5), .bool (t 6), .bool (t 7)]
/-- which of its ports are taken. -/
def tbC (t : Nat → Bool) : Array Value := #[.bool (t 0), .bool (t 1), .bool (t 2), .bool (t 3), .bool (t 4), .bool (t 5), .bool (t 6), .bool (t 7)]
theorem pbC_six (z : List Int) (t : Nat → Bool) (j : Nat) (hj : j < 8) : (pbC z t)[j]? = some (.int .i64 (el z j)) := by
  rcases (by omega : j = 0 ∨ j = 1 ∨ j = 2 ∨ j = 3 ∨ j = 4 ∨ j = 5 ∨ j = 6 ∨ j = 7) with rfl | rfl | rfl | rfl | rfl | rfl | rfl | rfl <;> rfl
theorem pbC_boo (z : List Int) (t : Nat → Bool) (j : Nat) (hj : j < 8) : (pbC z t)[8 + j]? = some (.bool (t j)) := by
  rcases (by omega : j = 0 ∨ j = 1 ∨ j = 2 ∨ j = 3 ∨ j = 4 ∨ j = 5 ∨ j = 6 ∨ j = 7) with rfl | rfl | rfl | rfl | rfl | rfl | rfl | rfl <;> rfl
theorem tbC_at (t : Nat → Bool) (j : Nat) (hj : j < 8) : (tbC t)[j]? = some (.bool (t j)) := by
  rcases (by omega : j = 0 ∨ j = 1 ∨ j = 2 ∨ j = 3 ∨ j = 4 ∨ j = 5 ∨ j = 6 ∨ j = 7) with rfl | rfl | rfl | rfl | rfl | rfl | rfl | rfl <;> rfl
def PbIn (B : Nat) (z : List Int) (t : Nat → Bool) (w : World) : Prop := w.heap[B]? = some (.cells (pbC z t) 103 (0, 0))
theorem PbIn.lt {B : Nat} {z : List Int} {t : Nat → Bool} {w : World} (p : PbIn B z t w) : B < w.heap.size := (Array.getElem?_eq_some_iff.1 p).1
theorem PbIn.kept {B : Nat} {z : List Int} {t : Nat → Bool} {w w' : World} (p : PbIn B z t w) (hb : Below w.heap.size w w') : PbIn B z t w' := (hb.block B p.lt).trans p
theorem pb_new (z : List Int) (t : Nat → Bool) (w : World) : PbIn w.heap.size z t (w.alloc (.cells (pbC z t) 103)) := heap_alloc_new w _
theorem PbIn.six {B : Nat} {z : List Int} {t : Nat → Bool} {w : World} (p : PbIn B z t w) : w.rangeAt B 0 (sixC z).toList := by
  intro j v hv
  have hj : j < 8 := (List.getElem?_eq_some_iff.1 hv).1
  rw [Nat.zero_add, cell_of_row w B j _ _ _ p, pbC_six z t j hj, ← sixC_at z j hj]
  simpa using hv
theorem PbIn.boo {B : Nat} {z : List Int} {t : Nat → Bool} {w : World} (p : PbIn B z t w) : w.rangeAt B 8 (tbC t).toList := by
  intro j v hv
  have hj : j < 8 := (List.getElem?_eq_some_iff.1 hv).1
  rw [cell_of_row w B (8 + j) _ _ _ p, pbC_boo z t j hj, ← tbC_at t j hj]
  simpa using hv
theorem PbIn.bit {B : Nat} {z : List Int} {t : Nat → Bool} {w : World} (p : PbIn B z t w) (j : Nat) (hj : j < 8) : w.cell? ⟨B, 8 + j, none⟩ = some (.bool (t j)) := (cell_of_row w B (8 + j) _ _ _ p).trans (pbC_boo z t j hj)
theorem at_pb {ops : Array Oper} {rest : List Oper} {o : Oper} {f : Act} {w : World} {Q : Exit → Act → World → Prop} (hgd : o.guard = none) (x : Operand) (ho : o.op = .load 103 x)
    {B : Nat} {z : List Int} {t : Nat → Bool} (hx : f.eval x = .pointer (some ⟨B, 0, none⟩)) (p : PbIn B z t w)
    (hK : wpList Tryd.prog ops Q rest (f.put o.dst (.agg (pbC z t))) w) : wpList Tryd.prog ops Q (o :: rest) f w :=
  wpList_load_row hgd 103 x ho B hx 103 _ (0, 0) _ p Tryd.underlying103 rfl (by kernel_rfl) hK
/-- a block's load, held shut for a walk. -/
def pload (x : Value) : Sem Value := Instr.loadAt 103 x
theorem pload_shut (x : Value) : Instr.loadAt 103 x = pload x := rfl
theorem PbIn.all {B : Nat} {z : List Int} {t : Nat → Bool} {w : World} (p : PbIn B z t w) : w.rangeAt B 0 (pbC z t).toList := by
  intro j v hv
  rw [Nat.zero_add, cell_of_row w B j _ _ _ p]
  simpa using hv
theorem PbIn.pl {B : Nat} {z : List Int} {t : Nat → Bool} {w : World} (p : PbIn B z t w) : (pload (.pointer (some ⟨B, 0, none⟩))).run Tryd.prog w = .ok (.agg (pbC z t)) w :=
  run_loadAt_mid w B 0 103 (pbC z t).toList _ p.all Tryd.underlying103 rfl (by kernel_rfl)
theorem at_pbT {ops : Array Oper} {rest : List Oper} {o : Oper} {f : Act} {w : World} {Q : Exit → Act → World → Prop} (hgd : o.guard = none) (x : Operand) (ho : o.op = .load 101 x)
    {B : Nat} {z : List Int} {t : Nat → Bool} (hx : f.eval x = .pointer (some ⟨B, 8, none⟩)) (p : PbIn B z t w)
    (hK : wpList Tryd.prog ops Q rest (f.put o.dst (.agg (tbC t))) w) : wpList Tryd.prog ops Q (o :: rest) f w :=
  wpList_load_mid hgd 101 x ho B 8 hx (tbC t).toList _ p.boo Tryd.underlying101 rfl (by kernel_rfl) hK
theorem at_pbW {ops : Array Oper} {rest : List Oper} {o : Oper} {f : Act} {w : World} {Q : Exit → Act → World → Prop} (hgd : o.guard = none) (x : Operand) (ho : o.op = .load 33 x)
    {B : Nat} {z : List Int} {t : Nat → Bool} (hx : f.eval x = .pointer (some ⟨B, 0, none⟩)) (p : PbIn B z t w)
    (hK : wpList Tryd.prog ops Q rest (f.put o.dst (.agg (sixC z))) w) : wpList Tryd.prog ops Q (o :: rest) f w :=
  wpList_load_mid hgd 33 x ho B 0 hx (sixC z).toList _ p.six Tryd.underlying33 rfl (by kernel_rfl) hK
/-- is none of its ports taken? -/
def nob (t : Nat → Bool) : Bool := !t 0 && !t 1 && !t 2 && !t 3 && !t 4 && !t 5 && !t 6 && !t 7
theorem nob_iff (t : Nat → Bool) : nob t = true ↔ ∀ j, j < 8 → t j = false := by
  unfold nob
  simp only [Bool.and_eq_true, Bool.not_eq_true']
  refine ⟨fun ⟨⟨⟨⟨⟨⟨⟨h0, h1⟩, h2⟩, h3⟩, h4⟩, h5⟩, h6⟩, h7⟩ j hj => ?_, fun h => ⟨⟨⟨⟨⟨⟨⟨h 0 (by omega), h 1 (by omega)⟩, h 2 (by omega)⟩, h 3 (by omega)⟩, h 4 (by omega)⟩, h 5 (by omega)⟩, h 6 (by omega)⟩, h 7 (by omega)⟩⟩
  rcases (by omega : j = 0 ∨ j = 1 ∨ j = 2 ∨ j = 3 ∨ j = 4 ∨ j = 5 ∨ j = 6 ∨ j = 7) with rfl | rfl | rfl | rfl | rfl | rfl | rfl | rfl <;> assumption
set_option maxHeartbeats 4000000 in
set_option maxRecDepth 100000 in
theorem eq_boo (x0 x1 x2 x3 x4 x5 x6 x7 : Bool) (w : World) : (Op.equalIn 10000 101 (.agg #[.bool x0, .bool x1, .bool x2, .bool x3, .bool x4, .bool x5, .bool x6, .bool x7]) (.agg #[.bool false, .bool false, .bool false, .bool false, .bool false, .bool false, .bool false, .bool false])).run Tryd.prog w = .ok (!x0 && !x1 && !x2 && !x3 && !x4 && !x5 && !x6 && !x7) w := by
  have u3 := Tryd.underlying4
  have a3 := Tryd.isAgg4
  have z3 := Tryd.sizeOf4
  rw [show (10000 : Nat) = 9999 + 1 from rfl, Op.equalIn]
  simp only [Sem.run_bind, run_underlying Tryd.underlying101, Result.andThen_ok]
  simp only [Std.Legacy.Range.forIn_eq_forIn_range', Std.Legacy.Range.size, Nat.sub_zero, Nat.add_sub_cancel, Nat.div_one, List.range'_succ, List.range'_zero, List.forIn_cons, List.forIn_nil]
  go_simp
  cases x0
  case true => simp
  cases x1
  case true => simp
  cases x2
  case true => simp
  cases x3
  case true => simp
  cases x4
  case true => simp
  cases x5
  case true => simp
  cases x6
  case true => simp
  cases x7
  case true => simp
  simp
theorem eq_tb (t : Nat → Bool) (w : World) : (Op.equalIn 10000 101 (.agg (tbC t)) (.agg #[.bool false, .bool false, .bool false, .bool false, .bool false, .bool false, .bool false, .bool false])).run Tryd.prog w = .ok (nob t) w := eq_boo _ _ _ _ _ _ _ _ w
set_option maxRecDepth 100000 in
set_option maxHeartbeats 1000000 in
theorem nob_any (z : List Int) (t : Nat → Bool) (w : World) : Calls Tryd.prog 55 #[.agg (pbC z t)] w fun e w' => e = .returned (.bool (nob t)) ∧ Below w.heap.size w w' := by
  have HB := hide (al_below w (.cells (pbC z t) 103))
  have HP := hide (pb_new z t w)
  have q := eq_tb t
  go_enter Tryd.func55, Tryd.ntmps55
  go_upto_region 1 with fail
  generalize w.alloc _ = W at HB HP ⊢
  go_wp2_with (refine at_pbT rfl (.tmp 3) rfl rfl HP.out ?_)
  go_ret
  exact ⟨rfl, HB.out⟩
attribute [local go_sem ↓] pload_shut
set_option maxRecDepth 100000 in
set_option maxHeartbeats 1000000 in
theorem isof_any (z : List Int) (t : Nat → Bool) (a : List Int) (w : World) : Calls Tryd.prog 53 #[.agg (pbC z t), .agg (sixC a)] w fun e w' => e = .returned (.bool (eqz z a && !nob t)) ∧ Below w.heap.size w w' := by
  have b1 := al_below w (.cells (pbC z t) 103)
  have b2 := al_below (w.alloc (.cells (pbC z t) 103)) (.cells (sixC a) 33)
  have HB := hide (bt b1 b2)
  have HP := hide ((pb_new z t w).kept b2)
  have HA := hide (show SixIn (w.heap.size + 1) a ((w.alloc (.cells (pbC z t) 103)).alloc (.cells (sixC a) 33)) by have := six_new a (w.alloc (.cells (pbC z t) 103)); rw [World.size_alloc] at this; exact this)
  have HN := hide (nob_any z t)
  have q : ∀ w, (Op.equalIn 10000 33 (.agg (sixC z)) (.agg (sixC a))).run Tryd.prog w = .ok (eqz z a) w := eq_six z a
  generalize eqz z a = b at q ⊢
  clear b1 b2
  go_enter Tryd.func53, Tryd.ntmps53
  go_upto_region 1 with fail
  generalize (w.alloc _).alloc _ = W at HB HP HA ⊢
  cases b
  · go_wp2_with (first
      | (refine at_pbW rfl (.tmp 5) rfl rfl HP.out ?_)
      | (refine at_load6 rfl (.tmp 3) rfl rfl HA.out ?_))
    go_ret
    exact ⟨rfl, HB.out⟩
  · have g1 := HP.out.pl
    go_wp2_with (first
      | (refine at_pbW rfl (.tmp 5) rfl rfl HP.out ?_)
      | (refine at_load6 rfl (.tmp 3) rfl rfl HA.out ?_)
      | (go_at_call 55; refine (HN.out _).mono ?_; rintro e w1 ⟨rfl, hb1⟩; replace HB := hide (bt HB.out hb1); clear hb1))
    go_ret
    exact ⟨rfl, HB.out⟩
end Go.Proofs.YtjkkonpangcnjaaDoor
