/- The document's own NewPorts, by a contract. -/
import Derived.Test.YtjkkonpangcnjaaDoorPoTake2
namespace Go.Proofs.YtjkkonpangcnjaaDoor
open Go.RowKit

theorem Tryd.infoSix : (Tryd.prog.info? 33).map (fun i => (i.zero, i.size, i.bytes)) = some (some (.agg #[.int .i64 0, .int .i64 0, .int .i64 0, .int .i64 0, .int .i64 0, .int .i64 0, .int .i64 0, .int .i64 0]), 8, 64) := by kernel_rfl
theorem Tryd.infoBool : (Tryd.prog.info? 4).map (fun i => (i.zero, i.size, i.bytes)) = some (some (.bool false), 1, 1) := by kernel_rfl
def mkSl (t : TypeId) (l c : Value) : Sem Value := Instr.makeSlice t l c
theorem mkSl_shut (t : TypeId) (l c : Value) : Instr.makeSlice t l c = mkSl t l c := rfl
theorem made_at (z : Array Value) (n j : Nat) (hj : j < n) : (madeCells z n)[j]? = some (z[j % z.size]!) := by
  unfold madeCells
  simp [hj]
theorem made6 (b : Nat) (_hb : b ≤ 16) : ∃ cs : Array Value, (∀ w : World, (mkSl 92 (.int .i64 ((b : Int) * 8)) (.int .i64 ((b : Int) * 8))).run Tryd.prog w = .ok (.slice (some ⟨w.heap.size, 0, none⟩) (8 * b) (8 * b)) (w.alloc (.cells cs 33))) ∧
    cs.size = 8 * (8 * b) ∧ ∀ i, i < 8 * b → ∀ j, j < 8 → cs[8 * i + j]? = some (.int .i64 0) := by
  obtain ⟨i0, hi, hz0, hz1, hz2⟩ := info_parts Tryd.infoSix
  refine ⟨madeCells #[.int .i64 0, .int .i64 0, .int .i64 0, .int .i64 0, .int .i64 0, .int .i64 0, .int .i64 0, .int .i64 0] (8 * (8 * b)), fun w => ?_, size_madeCells _ _, fun i hi j hj => ?_⟩
  · have h := run_make (P := Tryd.prog) w 92 33 i0 _ Tryd.underlying92 hi hz0 .i64 .i64 ((b : Int) * 8) ((b : Int) * 8) (by omega) (by omega) (by rw [hz2]; omega) (by omega)
    rw [hz1, show ((b : Int) * 8).toNat = 8 * b by omega, show 8 * b * 8 = 8 * (8 * b) by omega] at h
    exact h
  · rw [made_at _ _ _ (by omega)]
    have e8 : (8 * i + j) % (#[Value.int .i64 0, .int .i64 0, .int .i64 0, .int .i64 0, .int .i64 0, .int .i64 0, .int .i64 0, .int .i64 0] : Array Value).size = j := (by show (8 * i + j) % 8 = j; omega)
    rw [e8]
    rcases (by omega : j = 0 ∨ j = 1 ∨ j = 2 ∨ j = 3 ∨ j = 4 ∨ j = 5 ∨ j = 6 ∨ j = 7) with rfl | rfl | rfl | rfl | rfl | rfl | rfl | rfl <;> rfl
theorem madeB (b : Nat) (_hb : b ≤ 16) : ∃ cs : Array Value, (∀ w : World, (mkSl 93 (.int .i64 ((b : Int) * 8)) (.int .i64 ((b : Int) * 8))).run Tryd.prog w = .ok (.slice (some ⟨w.heap.size, 0, none⟩) (8 * b) (8 * b)) (w.alloc (.cells cs 4))) ∧
    cs.size = 8 * b ∧ ∀ i, i < 8 * b → cs[i]? = some (.bool false) := by
  obtain ⟨i0, hi, hz0, hz1, hz2⟩ := info_parts Tryd.infoBool
  refine ⟨madeCells #[.bool false] (8 * b), fun w => ?_, size_madeCells _ _, fun i hi => ?_⟩
  · have h := run_make (P := Tryd.prog) w 93 4 i0 _ Tryd.underlying93 hi hz0 .i64 .i64 ((b : Int) * 8) ((b : Int) * 8) (by omega) (by omega) (by rw [hz2]; omega) (by omega)
    rw [hz1, show ((b : Int) * 8).toNat = 8 * b by omega, Nat.mul_one] at h
    exact h
  · rw [made_at _ _ _ hi, show i % (#[Value.bool false] : Array Value).size = 0 from Nat.mod_one i]
    rfl
theorem rp_new (w : World) (B BW BT b : Nat) (c6 cb : Array Value) (hB : w.heap[B]? = some (.cells #[.slice (some ⟨BW, 0, none⟩) (8 * b) (8 * b), .slice (some ⟨BT, 0, none⟩) (8 * b) (8 * b)] 95 (0, 0)))
    (hW : w.heap[BW]? = some (.cells c6 33 (0, 0))) (hT : w.heap[BT]? = some (.cells cb 4 (0, 0))) (s6 : c6.size = 8 * (8 * b)) (sb : cb.size = 8 * b) (h6 : ∀ i, i < 8 * b → ∀ j, j < 8 → c6[8 * i + j]? = some (.int .i64 0)) (hb : ∀ i, i < 8 * b → cb[i]? = some (.bool false)) :
    RP B BW BT (8 * b) (fun _ => []) (fun _ => false) w := ⟨hB, ⟨c6, hW, s6, h6⟩, ⟨cb, hT, sb, hb⟩⟩
theorem three_new (w : World) (a b c : Obj) : (((w.alloc a).alloc b).alloc c).heap[w.heap.size]? = some a ∧ (((w.alloc a).alloc b).alloc c).heap[w.heap.size + 1]? = some b ∧ (((w.alloc a).alloc b).alloc c).heap[w.heap.size + 1 + 1]? = some c ∧ Below w.heap.size w (((w.alloc a).alloc b).alloc c) := by
  have s1 : (w.alloc a).heap.size = w.heap.size + 1 := World.size_alloc _ _
  have s2 : ((w.alloc a).alloc b).heap.size = w.heap.size + 1 + 1 := by rw [World.size_alloc, s1]
  have b1 := al_below w a
  have b2 := al_below (w.alloc a) b
  have b3 := al_below ((w.alloc a).alloc b) c
  have n1 : (w.alloc a).heap[w.heap.size]? = some a := heap_alloc_new w a
  have n2 := heap_alloc_new (w.alloc a) b
  have n3 := heap_alloc_new ((w.alloc a).alloc b) c
  rw [s1] at n2
  rw [s2] at n3
  refine ⟨?_, ?_, n3, bt (bt b1 b2) b3⟩
  · rw [b3.block _ (by omega), b2.block _ (by omega)]; exact n1
  · rw [b3.block _ (by omega)]; exact n2
attribute [local go_sem ↓] mkSl_shut
set_option maxRecDepth 100000 in
set_option maxHeartbeats 2000000 in
theorem rnew_any (b : Nat) (w : World) (hb : b ≤ 16) :
    Calls Tryd.prog 25 #[.int .i64 b] w fun e w' => ∃ B BW BT, e = .returned (.pointer (some ⟨B, 0, none⟩)) ∧ RP B BW BT (8 * b) (fun _ => []) (fun _ => false) w' ∧ w.heap.size ≤ B ∧ w.heap.size ≤ BW ∧ w.heap.size ≤ BT ∧ Below w.heap.size w w' := by
  obtain ⟨c6, m6, s6, h6⟩ := made6 b hb
  obtain ⟨cb, mb, sb, hb'⟩ := madeB b hb
  have HS6 := hide s6
  have HSB := hide sb
  have HH6 := hide h6
  have HHB := hide hb'
  have q : IntKind.i64.wrap ((b : Int) * 8) = (b : Int) * 8 := by rw [IntKind.wrap_i64]; omega
  clear s6 sb h6 hb'
  go_enter Tryd.func25, Tryd.ntmps25
  go_upto_region 1 with fail
  go_region
  all_goals
    go_wp2_with fail
    go_ret
  · obtain ⟨t1, t2, t3, t4⟩ := three_new w (.cells c6 33) (.cells cb 4) (.cells #[.slice (some ⟨w.heap.size, 0, none⟩) (8 * b) (8 * b), .slice (some ⟨w.heap.size + 1, 0, none⟩) (8 * b) (8 * b)] 95)
    exact ⟨_, _, _, rfl, rp_new _ _ _ _ b c6 cb t3 t1 t2 HS6.out HSB.out HH6.out HHB.out, by omega, by omega, by omega, t4.drew⟩
  · obtain ⟨t1, t2, t3, t4⟩ := three_new w (.cells cb 4) (.cells c6 33) (.cells #[.slice (some ⟨w.heap.size + 1, 0, none⟩) (8 * b) (8 * b), .slice (some ⟨w.heap.size, 0, none⟩) (8 * b) (8 * b)] 95)
    exact ⟨_, _, _, rfl, rp_new _ _ _ _ b c6 cb t3 t2 t1 HS6.out HSB.out HH6.out HHB.out, by omega, by omega, by omega, t4.drew⟩
end Go.Proofs.YtjkkonpangcnjaaDoor
