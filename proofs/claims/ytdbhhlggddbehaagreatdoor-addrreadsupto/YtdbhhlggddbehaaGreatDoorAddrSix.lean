/- An address of eight numbers as a value of the program's, and Check, zeros and first by contracts. -/
import Derived.Test.YtdbhhlggddbehaaGreatDoorProg
import Derived.Test.YtdbhhlggddbehaaGreatDoorAddrText
import Derived.WalkKit
import Derived.LaidEql
import Derived.BigQuiet
import Derived.Below
namespace Go.Proofs.YtdbhhlggddbehaaGreatDoor
open Go.RowKit

theorem hide {p : Prop} (h : p) : Hid p := h
theorem unhide {p : Prop} (h : Hid p) : p := h.out
theorem bt {a b c : World} (h1 : Below a.heap.size a b) (h2 : Below b.heap.size b c) : Below a.heap.size a c := h1.trans (h2.mono h1.size)

/-- an address as a value. -/
def six (z : List Int) : Value := .agg #[.int .i64 (el z 0), .int .i64 (el z 1), .int .i64 (el z 2), .int .i64 (el z 3), .int .i64 (el z 4), .int .i64 (el z 5), .int .i64 (el z 6), .int .i64 (el z 7)]
/-- and as cells. -/
def sixC (z : List Int) : Array Value := #[.int .i64 (el z 0), .int .i64 (el z 1), .int .i64 (el z 2), .int .i64 (el z 3), .int .i64 (el z 4), .int .i64 (el z 5), .int .i64 (el z 6), .int .i64 (el z 7)]

theorem six_index (z : List Int) (k : Nat) (hk : k < 8) (w : World) : (Instr.index 23 (six z) (.int .i64 k)).run Tryz.prog w = .ok (.int .i64 (el z k)) w := by
  rcases (by omega : k = 0 ∨ k = 1 ∨ k = 2 ∨ k = 3 ∨ k = 4 ∨ k = 5 ∨ k = 6 ∨ k = 7) with rfl | rfl | rfl | rfl | rfl | rfl | rfl | rfl <;> kernel_rfl

def Word (n : Int) : Prop := 0 ≤ n ∧ n ≤ 65535
/-- all eight are numbers of 16 bits. -/
def Ok6 (z : List Int) : Prop := ∀ k, k < 8 → Word (el z k)

set_option maxHeartbeats 1000000 in
theorem check_any (z : List Int) (w : World) : Calls Tryz.prog 8 #[six z] w fun e w' => ((Ok6 z ∧ e = .returned .nilIface) ∨ (¬ Ok6 z ∧ e = .returned (.iface 24 (.int .i64 1)))) ∧ w' = w.alloc (.cells (sixC z) 23) := by
  unfold six
  go_enter Tryz.func8, Tryz.ntmps8
  go_wp2
  go_loop [6] (fun t => ∃ k : Nat, k ≤ 8 ∧ (∀ j, j < k → Word (el z j)) ∧ t = .int .i64 k) (fun t => 8 - (intOf t).toNat)
  case atStart => exact ⟨0, by omega, fun i hi => absurd hi (by omega), rfl⟩
  case round =>
    obtain ⟨k, hk, hin, rfl⟩ := hrel
    have HI := hide hin
    clear hin
    by_cases hlt : k < 8
    · have hi := fun w => six_index z k hlt w
      unfold six at hi
      generalize hzk : el z k = x at hi
      have HZ := hide hzk
      clear hzk
      by_cases hz0 : x < 0
      · go_wp2
        go_ret
        exact ⟨.inr ⟨fun h => absurd (h k hlt).1 (by rw [HZ.out]; omega), rfl⟩, rfl⟩
      · by_cases hz1 : 65535 < x
        · go_wp2
          go_ret
          exact ⟨.inr ⟨fun h => absurd (h k hlt).2 (by rw [HZ.out]; omega), rfl⟩, rfl⟩
        · go_wp2
          go_round
          case rel => exact ⟨k + 1, by omega, fun i hi => if h : i = k then by subst h; rw [HZ.out]; exact ⟨by omega, by omega⟩ else HI.out i (by omega), by go_num⟩
          case measure => simp [intOf]; omega
    · go_wp2
      go_ret
      obtain rfl : k = 8 := by omega
      exact ⟨.inl ⟨HI.out, rfl⟩, rfl⟩
theorem check_ok (z : List Int) (w : World) (h : Ok6 z) : Calls Tryz.prog 8 #[six z] w fun e w' => e = .returned .nilIface ∧ w' = w.alloc (.cells (sixC z) 23) :=
  (check_any z w).mono fun e w' hh => by
    rcases hh with ⟨⟨_, he⟩ | ⟨hn, _⟩, hw⟩
    · exact ⟨he, hw⟩
    · exact absurd h hn
theorem check_bad (z : List Int) (w : World) (h : ¬ Ok6 z) : Calls Tryz.prog 8 #[six z] w fun e w' => e = .returned (.iface 24 (.int .i64 1)) ∧ w' = w.alloc (.cells (sixC z) 23) :=
  (check_any z w).mono fun e w' hh => by
    rcases hh with ⟨⟨hn, _⟩ | ⟨_, he⟩, hw⟩
    · exact absurd hn h
    · exact ⟨he, hw⟩

theorem zst_int (l : List Bool) (k : Nat) (b : Bool) (h : l.getD k false = b) : AM.zrun l (k + 1) = AM.zst (AM.zrun l k) k b := by
  rw [AM.zrun, h]

set_option maxHeartbeats 1000000 in
theorem zeros_any (z : List Int) (w : World) : Calls Tryz.prog 23 #[six z] w fun e w' => e = .returned (.tuple #[.int .i64 (AM.zfrom z), .int .i64 (AM.zlong z)]) ∧ w' = w.alloc (.cells (sixC z) 23) := by
  unfold six
  go_enter Tryz.func23, Tryz.ntmps23
  go_wp2
  go_loop [2, 3, 4, 8] (fun f c r t => ∃ k : Nat, k ≤ 8 ∧ f = .int .i64 ((AM.zrun (AM.fl z) k).2.1 : Nat) ∧ c = .int .i64 ((AM.zrun (AM.fl z) k).2.2 : Nat) ∧ r = .int .i64 ((AM.zrun (AM.fl z) k).1 : Nat) ∧ t = .int .i64 k) (fun _ _ _ t => 8 - (intOf t).toNat)
  case atStart => exact ⟨0, by omega, rfl, rfl, rfl, rfl⟩
  case round =>
    obtain ⟨k, hk, rfl, rfl, rfl, rfl⟩ := hrel
    by_cases hlt : k < 8
    · have hi := fun w => six_index z k hlt w
      unfold six at hi
      have hb := AM.zrun_le (AM.fl z) k
      by_cases hx : el z k = 0
      · have HS := hide (zst_int (AM.fl z) k true (by rw [AM.fl_at z k hlt, hx]; rfl))
        generalize AM.zrun (AM.fl z) k = st at HS hb ⊢
        obtain ⟨r, f, c⟩ := st
        simp only at hb
        rw [hx] at hi
        clear hx
        by_cases hc : c < r + 1
        · have HS2 := hide (show AM.zrun (AM.fl z) (k + 1) = (r + 1, k - r, r + 1) by rw [HS.out]; simp [AM.zst, hc])
          clear HS
          go_wp2
          go_round
          case rel => exact ⟨k + 1, by omega, by rw [HS2.out]; exact congrArg _ (by simp; omega), by rw [HS2.out]; go_num, by rw [HS2.out]; go_num, by go_num⟩
          case measure => simp [intOf]; omega
        · have HS2 := hide (show AM.zrun (AM.fl z) (k + 1) = (r + 1, f, c) by rw [HS.out]; simp [AM.zst, hc])
          clear HS
          go_wp2
          go_round
          case rel => exact ⟨k + 1, by omega, by rw [HS2.out], by rw [HS2.out], by rw [HS2.out]; go_num, by go_num⟩
          case measure => simp [intOf]; omega
      · have hx2 : (el z k == 0) = false := by simpa using hx
        have HS := hide (zst_int (AM.fl z) k false (by rw [AM.fl_at z k hlt, hx2]))
        generalize AM.zrun (AM.fl z) k = st at HS hb ⊢
        obtain ⟨r, f, c⟩ := st
        simp only at hb
        generalize el z k = x at hi hx hx2
        have HS2 := hide (show AM.zrun (AM.fl z) (k + 1) = (0, f, c) by rw [HS.out]; simp [AM.zst])
        clear HS
        go_wp2
        go_round
        case rel => exact ⟨k + 1, by omega, by rw [HS2.out], by rw [HS2.out], by rw [HS2.out]; rfl, by go_num⟩
        case measure => simp [intOf]; omega
    · obtain rfl : k = 8 := by omega
      go_wp2
      go_ret2
      exact ⟨rfl, rfl⟩
end Go.Proofs.YtdbhhlggddbehaaGreatDoor
