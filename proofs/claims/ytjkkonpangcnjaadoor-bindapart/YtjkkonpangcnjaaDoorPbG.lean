/- The program's Blocks of somebody, and New, by contracts. -/
import Derived.Test.YtjkkonpangcnjaaDoorPbF
namespace Go.Proofs.YtjkkonpangcnjaaDoor
open Go.RowKit

/-- the numbers below n that are picked. -/
def bq (f : Nat → Bool) : Nat → List Nat
  | 0 => []
  | k + 1 => bq f k ++ (if f k = true then [k] else [])
theorem bq_len (f : Nat → Bool) (k : Nat) : (bq f k).length ≤ k := by
  induction k with
  | zero => exact Nat.le_refl _
  | succ k ih => simp only [bq]; rw [List.length_append]; split <;> simp <;> omega
theorem Kp.grown {w : World} {B BB m : Nat} {ow : Nat → List Int} {ts : Nat → Bool} {z : List Int} {W W' : World} (h : Kp w B BB m ow ts z W) (hB : B < w.heap.size) (hBB : BB < w.heap.size) {r : Option Nat} (hg : W.grownBy W' r) (hr : ∀ k, r = some k → w.heap.size + 1 ≤ k) : Kp w B BB m ow ts z W' := by
  have hne : ∀ g, g ≤ w.heap.size → some g ≠ r := fun g hgl e => by have := hr g e.symm; omega
  have hs := h.2.2.size
  have hz := h.2.1.lt
  exact ⟨⟨(hg.block _ (by omega) (hne B (by omega))).trans h.1.1, h.1.2.same (hg.block _ (by omega) (hne BB (by omega)))⟩, (hg.block _ hz (hne _ (Nat.le_refl _))).trans h.2.1, h.2.2.grown hg hs (fun k e => by have := hr k e; omega)⟩
attribute [local go_sem ↓] pload_shut
theorem Tryd.infoBlk : (Tryd.prog.info? 103).map (fun i => (i.zero, i.size, i.bytes)) = some (some (.agg (pbC [] (fun _ => false))), 16, 72) := by kernel_rfl
theorem madeP (b : Nat) (_hb : b ≤ 16) : ∃ cs : Array Value, (∀ w : World, (mkSl 87 (.int .i64 (b : Int)) (.int .i64 (b : Int))).run Tryd.prog w = .ok (.slice (some ⟨w.heap.size, 0, none⟩) b b) (w.alloc (.cells cs 103))) ∧
    cs.size = 16 * b ∧ ∀ k, k < b → ∀ j, j < 8 → cs[16 * k + j]? = some (.int .i64 (el [] j)) ∧ cs[16 * k + 8 + j]? = some (.bool false) := by
  obtain ⟨i0, hi, hz0, hz1, hz2⟩ := info_parts Tryd.infoBlk
  refine ⟨madeCells (pbC [] (fun _ => false)) (16 * b), fun w => ?_, size_madeCells _ _, fun k hk j hj => ⟨?_, ?_⟩⟩
  · have h := run_make (P := Tryd.prog) w 87 103 i0 _ Tryd.underlying87 hi hz0 .i64 .i64 (b : Int) (b : Int) (by omega) (by omega) (by rw [hz2]; omega) (by omega)
    rw [hz1, show ((b : Int)).toNat = b by omega, show b * 16 = 16 * b by omega] at h
    exact h
  · rw [made_at _ _ _ (by omega)]
    have e8 : (16 * k + j) % (pbC [] (fun _ => false)).size = j := (by show (16 * k + j) % 16 = j; omega)
    rw [e8]
    rcases (by omega : j = 0 ∨ j = 1 ∨ j = 2 ∨ j = 3 ∨ j = 4 ∨ j = 5 ∨ j = 6 ∨ j = 7) with rfl | rfl | rfl | rfl | rfl | rfl | rfl | rfl <;> rfl
  · rw [made_at _ _ _ (by omega)]
    have e8 : (16 * k + 8 + j) % (pbC [] (fun _ => false)).size = 8 + j := (by show (16 * k + 8 + j) % 16 = 8 + j; omega)
    rw [e8]
    rcases (by omega : j = 0 ∨ j = 1 ∨ j = 2 ∨ j = 3 ∨ j = 4 ∨ j = 5 ∨ j = 6 ∨ j = 7) with rfl | rfl | rfl | rfl | rfl | rfl | rfl | rfl <;> rfl
theorem two_new (w : World) (a b : Obj) : ((w.alloc a).alloc b).heap[w.heap.size]? = some a ∧ ((w.alloc a).alloc b).heap[w.heap.size + 1]? = some b ∧ Below w.heap.size w ((w.alloc a).alloc b) := by
  have s1 : (w.alloc a).heap.size = w.heap.size + 1 := World.size_alloc _ _
  have b1 := al_below w a
  have b2 := al_below (w.alloc a) b
  have n1 : (w.alloc a).heap[w.heap.size]? = some a := heap_alloc_new w a
  have n2 := heap_alloc_new (w.alloc a) b
  rw [s1] at n2
  exact ⟨by rw [b2.block _ (by omega)]; exact n1, n2, bt b1 b2⟩
set_option maxRecDepth 100000 in
set_option maxHeartbeats 1000000 in
theorem pnew_bad (b : Int) (w : World) (hb : b < 1 ∨ 16 < b) :
    Calls Tryd.prog 23 #[.int .i64 b] w fun e w' => e = .returned (.tuple #[.pointer none, err 1]) ∧ w' = w := by
  rcases hb with h1 | h1
  · go_enter Tryd.func23, Tryd.ntmps23
    go_wp2
    go_ret2
    exact ⟨rfl, rfl⟩
  · have h2 : ¬ b < 1 := by omega
    go_enter Tryd.func23, Tryd.ntmps23
    go_wp2
    go_ret2
    exact ⟨rfl, rfl⟩
attribute [local go_sem ↓] mkSl_shut
set_option maxRecDepth 100000 in
set_option maxHeartbeats 1000000 in
theorem pnew_any (b : Nat) (w : World) (h1 : 1 ≤ b) (hb : b ≤ 16) :
    Calls Tryd.prog 23 #[.int .i64 b] w fun e w' => ∃ B BB, e = .returned (.tuple #[.pointer (some ⟨B, 0, none⟩), .nilIface]) ∧ BP B BB b (fun _ => []) (fun _ => false) w' ∧ w.heap.size ≤ B ∧ w.heap.size ≤ BB ∧ Below w.heap.size w w' := by
  obtain ⟨cs, mk, sc, hc⟩ := madeP b hb
  have HS := hide sc
  have HC := hide hc
  have q1 : ¬ (b : Int) < 1 := by omega
  have q2 : ¬ 16 < (b : Int) := by omega
  clear sc hc
  go_enter Tryd.func23, Tryd.ntmps23
  go_wp2
  go_ret2
  obtain ⟨t1, t2, t3⟩ := two_new w (.cells cs 103) (.cells #[.slice (some ⟨w.heap.size, 0, none⟩) b b] 89)
  exact ⟨w.heap.size + 1, rfl, w.heap.size, ⟨t2, cs, t1, HS.out, HC.out⟩, by omega, by omega, t3⟩
end Go.Proofs.YtjkkonpangcnjaaDoor
