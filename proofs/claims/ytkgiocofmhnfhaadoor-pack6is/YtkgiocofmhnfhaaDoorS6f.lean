/- Two addresses held side by side; the statements' own question whether two packets are the same. -/
import Derived.Test.YtkgiocofmhnfhaaDoorS6e
namespace Go.Proofs.YtkgiocofmhnfhaaDoor
open Go.RowKit

set_option maxHeartbeats 4000000 in
set_option maxRecDepth 100000 in
theorem eq_agg (x0 x1 x2 x3 x4 x5 x6 x7 y0 y1 y2 y3 y4 y5 y6 y7 : Int) (w : World) : (Op.equalIn 10000 23 (.agg #[.int .i64 x0, .int .i64 x1, .int .i64 x2, .int .i64 x3, .int .i64 x4, .int .i64 x5, .int .i64 x6, .int .i64 x7]) (.agg #[.int .i64 y0, .int .i64 y1, .int .i64 y2, .int .i64 y3, .int .i64 y4, .int .i64 y5, .int .i64 y6, .int .i64 y7])).run Tryd.prog w = .ok (x0 == y0 && x1 == y1 && x2 == y2 && x3 == y3 && x4 == y4 && x5 == y5 && x6 == y6 && x7 == y7) w := by
  have u3 := Tryd.underlying3
  have a3 := Tryd.isAgg3
  have z3 := Tryd.sizeOf3
  rw [show (10000 : Nat) = 9999 + 1 from rfl, Op.equalIn]
  simp only [Sem.run_bind, run_underlying Tryd.underlying23, Result.andThen_ok]
  simp only [Std.Legacy.Range.forIn_eq_forIn_range', Std.Legacy.Range.size, Nat.sub_zero, Nat.add_sub_cancel, Nat.div_one, List.range'_succ, List.range'_zero, List.forIn_cons, List.forIn_nil]
  go_simp
  by_cases h0 : x0 = y0
  case neg => simp [h0]
  by_cases h1 : x1 = y1
  case neg => simp [h0, h1]
  by_cases h2 : x2 = y2
  case neg => simp [h0, h1, h2]
  by_cases h3 : x3 = y3
  case neg => simp [h0, h1, h2, h3]
  by_cases h4 : x4 = y4
  case neg => simp [h0, h1, h2, h3, h4]
  by_cases h5 : x5 = y5
  case neg => simp [h0, h1, h2, h3, h4, h5]
  by_cases h6 : x6 = y6
  case neg => simp [h0, h1, h2, h3, h4, h5, h6]
  by_cases h7 : x7 = y7
  case neg => simp [h0, h1, h2, h3, h4, h5, h6, h7]
  simp [h0, h1, h2, h3, h4, h5, h6, h7]
/-- are two addresses one? -/
def eqz (a b : List Int) : Bool := el a 0 == el b 0 && el a 1 == el b 1 && el a 2 == el b 2 && el a 3 == el b 3 && el a 4 == el b 4 && el a 5 == el b 5 && el a 6 == el b 6 && el a 7 == el b 7
theorem eqz_iff (a b : List Int) : eqz a b = true ↔ ∀ j, j < 8 → el a j = el b j := by
  unfold eqz
  simp only [Bool.and_eq_true, beq_iff_eq]
  refine ⟨fun ⟨⟨⟨⟨⟨⟨⟨h0, h1⟩, h2⟩, h3⟩, h4⟩, h5⟩, h6⟩, h7⟩ j hj => ?_, fun h => ⟨⟨⟨⟨⟨⟨⟨h 0 (by omega), h 1 (by omega)⟩, h 2 (by omega)⟩, h 3 (by omega)⟩, h 4 (by omega)⟩, h 5 (by omega)⟩, h 6 (by omega)⟩, h 7 (by omega)⟩⟩
  rcases (by omega : j = 0 ∨ j = 1 ∨ j = 2 ∨ j = 3 ∨ j = 4 ∨ j = 5 ∨ j = 6 ∨ j = 7) with rfl | rfl | rfl | rfl | rfl | rfl | rfl | rfl <;> assumption
theorem eq_six (a b : List Int) (w : World) : (Op.equalIn 10000 23 (.agg #[.int .i64 (el a 0), .int .i64 (el a 1), .int .i64 (el a 2), .int .i64 (el a 3), .int .i64 (el a 4), .int .i64 (el a 5), .int .i64 (el a 6), .int .i64 (el a 7)]) (.agg #[.int .i64 (el b 0), .int .i64 (el b 1), .int .i64 (el b 2), .int .i64 (el b 3), .int .i64 (el b 4), .int .i64 (el b 5), .int .i64 (el b 6), .int .i64 (el b 7)])).run Tryd.prog w = .ok (eqz a b) w := eq_agg _ _ _ _ _ _ _ _ _ _ _ _ _ _ _ _ w
theorem eq_same (z : List Int) (w : World) : (Op.equalIn 10000 23 (.agg (sixC z)) (.agg (sixC z))).run Tryd.prog w = .ok true w := by
  have := eq_six z z w
  rw [(eqz_iff z z).2 (fun _ _ => rfl)] at this
  exact this
/-- an address's load, held shut for a walk. -/
def hload (x : Value) : Sem Value := Instr.loadAt 23 x
theorem hload_shut (x : Value) : Instr.loadAt 23 x = hload x := rfl
theorem PkIn.hsrc {B : Nat} {s d : List Int} {h k : Int} {a : Option Addr} {len cap : Nat} {w : World} (p : PkIn B s d h k a len cap w) : (hload (.pointer (some ⟨B, 0, none⟩))).run Tryd.prog w = .ok (.agg (sixC s)) w :=
  run_loadAt_mid w B 0 23 (sixC s).toList _ (fun j v hv => by
    rw [Nat.zero_add, p.cellAt]
    have hj : j < 8 := (List.getElem?_eq_some_iff.1 hv).1
    rcases (by omega : j = 0 ∨ j = 1 ∨ j = 2 ∨ j = 3 ∨ j = 4 ∨ j = 5 ∨ j = 6 ∨ j = 7) with rfl | rfl | rfl | rfl | rfl | rfl | rfl | rfl <;> exact hv) Tryd.underlying23 rfl (by kernel_rfl)
theorem PkIn.hdst {B : Nat} {s d : List Int} {h k : Int} {a : Option Addr} {len cap : Nat} {w : World} (p : PkIn B s d h k a len cap w) : (hload (.pointer (some ⟨B, 8, none⟩))).run Tryd.prog w = .ok (.agg (sixC d)) w :=
  run_loadAt_mid w B 8 23 (sixC d).toList _ (fun j v hv => by
    rw [p.cellAt]
    have hj : j < 8 := (List.getElem?_eq_some_iff.1 hv).1
    rcases (by omega : j = 0 ∨ j = 1 ∨ j = 2 ∨ j = 3 ∨ j = 4 ∨ j = 5 ∨ j = 6 ∨ j = 7) with rfl | rfl | rfl | rfl | rfl | rfl | rfl | rfl <;> exact hv) Tryd.underlying23 rfl (by kernel_rfl)
attribute [local go_sem ↓] hload_shut

set_option maxRecDepth 100000 in
set_option maxHeartbeats 2000000 in
theorem pack6s_same (s d : List Int) (h k : Int) (a1 a2 : Option Addr) (l1 l2 c1 c2 : Nat) (body : List Int) (w : World) (r1 : Row8 w a1 l1 c1 body) (r2 : Row8 w a2 l2 c2 body) :
    Calls Tryd.prog 12 #[pk s d h k a1 l1 c1, pk s d h k a2 l2 c2] w fun e w' => e = .returned (.bool true) ∧ Below w.heap.size w w' := by
  have b1 := al_below w (.cells (pkC s d h k a1 l1 c1) 26)
  have b2 := al_below (w.alloc (.cells (pkC s d h k a1 l1 c1) 26)) (.cells (pkC s d h k a2 l2 c2) 26)
  have HB := hide (bt b1 b2)
  have P1 := hide ((pk_new w s d h k a1 l1 c1).kept b2)
  have P2 := hide (pk_new (w.alloc (.cells (pkC s d h k a1 l1 c1) 26)) s d h k a2 l2 c2)
  rw [World.size_alloc] at P2
  have v1 := conv8 (r1.below HB.out)
  have v2 := conv8 (r2.below HB.out)
  have q := str8_eq r1.2.2.1 r2.2.2.1 true (by simp)
  have qs := eq_same s
  have qd := eq_same d
  have qh : (h == h) = true := by simp
  have qk : (k == k) = true := by simp
  clear r1 r2 b1 b2
  unfold pk
  go_enter Tryd.func12, Tryd.ntmps12
  go_upto_region 1 with fail
  generalize (w.alloc (.cells (pkC s d h k a1 l1 c1) 26)).alloc (.cells (pkC s d h k a2 l2 c2) 26) = W at HB P1 P2 v1 v2 ⊢
  have x1 := P1.out.hsrc
  have x2 := P2.out.hsrc
  have y1 := P1.out.hdst
  have y2 := P2.out.hdst
  have z1 := P1.out.hop
  have z2 := P2.out.hop
  have t1 := P1.out.kind
  have t2 := P2.out.kind
  have u1 := P1.out.body
  have u2 := P2.out.body
  go_wp2
  go_ret
  exact ⟨rfl, HB.out⟩
end Go.Proofs.YtkgiocofmhnfhaaDoor
