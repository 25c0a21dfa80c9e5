/- The document's own SixFault, hex and Starts, as the statements call them, by contracts. -/
import Derived.Test.YtdbhhlggddbehaaGreatDoorAddrIn2
import Derived.Deep.QuietTactic
namespace Go.Proofs.YtdbhhlggddbehaaGreatDoor
open Go.RowKit Go.Shelf

theorem word_yes (n : Int) (w : World) (h : Word n) : Calls Tryz.prog 20 #[.int .i64 n] w fun e w' => e = .returned (.bool true) ∧ w' = w := by
  obtain ⟨h1, h2⟩ := h
  go_enter Tryz.func20, Tryz.ntmps20
  go_wp2
  go_ret
  exact ⟨rfl, rfl⟩
theorem word_no (n : Int) (w : World) (h : ¬ Word n) : Calls Tryz.prog 20 #[.int .i64 n] w fun e w' => e = .returned (.bool false) ∧ w' = w := by
  by_cases h1 : 0 ≤ n
  · have h2 : ¬ n ≤ 65535 := fun h2 => h ⟨h1, h2⟩
    clear h
    go_enter Tryz.func20, Tryz.ntmps20
    go_wp2
    go_ret
    exact ⟨rfl, rfl⟩
  · clear h
    go_enter Tryz.func20, Tryz.ntmps20
    go_wp2
    go_ret
    exact ⟨rfl, rfl⟩

set_option maxHeartbeats 1000000 in
theorem fault_any (z : List Int) (w : World) : Calls Tryz.prog 4 #[six z] w fun e w' => ((Ok6 z ∧ e = .returned (.int .i64 0)) ∨ (¬ Ok6 z ∧ e = .returned (.int .i64 1))) ∧ Below w.heap.size w w' := by
  have hS := six_new z w
  have hB : Below w.heap.size w (w.alloc (.cells #[.int .i64 (el z 0), .int .i64 (el z 1), .int .i64 (el z 2), .int .i64 (el z 3), .int .i64 (el z 4), .int .i64 (el z 5), .int .i64 (el z 6), .int .i64 (el z 7)] 23)) := (Below.refl _ _).alloc (Nat.le_refl _) _
  unfold six
  go_enter Tryz.func4, Tryz.ntmps4
  go_wp2
  generalize w.alloc (.cells #[.int .i64 (el z 0), .int .i64 (el z 1), .int .i64 (el z 2), .int .i64 (el z 3), .int .i64 (el z 4), .int .i64 (el z 5), .int .i64 (el z 6), .int .i64 (el z 7)] 23) = W at hS hB ⊢
  go_loop [3] (fun t => ∃ k : Nat, k ≤ 8 ∧ (∀ j, j < k → Word (el z j)) ∧ t = .int .i64 k) (fun t => 8 - (intOf t).toNat)
  case atStart => exact ⟨0, by omega, fun i hi => absurd hi (by omega), rfl⟩
  case round =>
    obtain ⟨k, hk, hin, rfl⟩ := hrel
    have HI := hide hin
    clear hin
    by_cases hlt : k < 8
    · have hc := (hS.facts k hlt).1
      by_cases hx : Word (el z k)
      · have HX := hide hx
        generalize el z k = x at hc hx
        go_wp2_with (go_at_call 20; refine (word_yes _ _ hx).mono ?_; rintro e w' ⟨rfl, rfl⟩)
        go_round
        case rel => exact ⟨k + 1, by omega, fun i hi => if h : i = k then by subst h; exact HX.out else HI.out i (by omega), by go_num⟩
        case measure => simp [intOf]; omega
      · have HX := hide hx
        generalize el z k = x at hc hx
        go_wp2_with (go_at_call 20; refine (word_no _ _ hx).mono ?_; rintro e w' ⟨rfl, rfl⟩)
        go_ret
        exact ⟨.inr ⟨fun h => HX.out (h k hlt), rfl⟩, hB⟩
    · go_wp2
      go_ret
      obtain rfl : k = 8 := by omega
      exact ⟨.inl ⟨HI.out, rfl⟩, hB⟩
theorem fault_ok (z : List Int) (w : World) (h : Ok6 z) : Calls Tryz.prog 4 #[six z] w fun e w' => e = .returned (.int .i64 0) ∧ Below w.heap.size w w' :=
  (fault_any z w).mono fun e w' ⟨hh, hb⟩ => by
    rcases hh with ⟨_, he⟩ | ⟨hn, _⟩
    · exact ⟨he, hb⟩
    · exact absurd h hn
theorem fault_bad (z : List Int) (w : World) (h : ¬ Ok6 z) : Calls Tryz.prog 4 #[six z] w fun e w' => e = .returned (.int .i64 1) ∧ Below w.heap.size w w' :=
  (fault_any z w).mono fun e w' ⟨hh, hb⟩ => by
    rcases hh with ⟨hn, _⟩ | ⟨_, he⟩
    · exact absurd hn h
    · exact ⟨he, hb⟩

/-- a digit cut out of the row of digits. -/
theorem cut_digit (k : Nat) (h : k < 16) (w : World) : (Instr.slice 9 (.string ⟨#[48, 49, 50, 51, 52, 53, 54, 55, 56, 57, 97, 98, 99, 100, 101, 102]⟩) (some (.int .i64 k)) (some (.int .i64 ((k : Int) + 1))) none).run Tryz.prog w = .ok (.string ⟨#[AM.hexd k]⟩) w := by
  rcases (by omega : k = 0 ∨ k = 1 ∨ k = 2 ∨ k = 3 ∨ k = 4 ∨ k = 5 ∨ k = 6 ∨ k = 7 ∨ k = 8 ∨ k = 9 ∨ k = 10 ∨ k = 11 ∨ k = 12 ∨ k = 13 ∨ k = 14 ∨ k = 15) with rfl | rfl | rfl | rfl | rfl | rfl | rfl | rfl | rfl | rfl | rfl | rfl | rfl | rfl | rfl | rfl <;> kernel_rfl

set_option maxHeartbeats 2000000 in
theorem rhex_any (n : Nat) (w : World) (hn : n ≤ 65535) : Calls Tryz.prog 21 #[.int .i64 (n : Nat)] w fun e w' => e = .returned (strv (AM.hexL n)) ∧ w' = w := by
  go_enter Tryz.func21, Tryz.ntmps21
  go_wp2
  go_loop [0, 3] (fun a s => ∃ (m : Nat) (L : ByteArray), a = .int .i64 m ∧ s = .string L ∧ m ≤ 65535 ∧ L.size + m ≤ 65535 ∧ Hid ((⟨(AM.hexL n).toArray⟩ : ByteArray) = ⟨(AM.hexL m).toArray⟩ ++ L)) (fun a _ => (intOf a).toNat)
  case atStart => exact ⟨n, ⟨#[]⟩, rfl, rfl, hn, by simpa [ByteArray.size] using hn, hide (by apply ByteArray.ext; simp)⟩
  case round =>
    obtain ⟨m, L, rfl, rfl, hm, hL, HX⟩ := hrel
    by_cases hlt : 15 < m
    · have hc := cut_digit (m % 16) (by omega)
      have HX2 := hide (show (⟨(AM.hexL n).toArray⟩ : ByteArray) = ⟨(AM.hexL (m / 16)).toArray⟩ ++ (⟨#[AM.hexd (m % 16)]⟩ ++ L) by
        rw [HX.out, AM.hexL_ge (by omega)]
        have := bytes_app (AM.hexL (m / 16)) [AM.hexd (m % 16)]
        rw [← this, ByteArray.append_assoc])
      have hr : (m : Int) % 16 = ((m % 16 : Nat) : Int) := by omega
      generalize m % 16 = d at hc HX2 hr
      have hs2 : (⟨#[AM.hexd d]⟩ : ByteArray).size = 1 := rfl
      have hs3 : ((⟨#[AM.hexd d]⟩ : ByteArray) ++ L).size = 1 + L.size := by rw [ByteArray.size_append]; rfl
      generalize (⟨#[AM.hexd d]⟩ : ByteArray) = D at hc HX2 hs2 hs3
      clear HX
      go_wp2
      go_round
      case rel => exact ⟨m / 16, D ++ L, by go_num, rfl, by omega, by rw [hs3]; omega, HX2⟩
      case measure => simp [intOf]; omega
    · have hc := cut_digit m (by omega)
      have HX2 := hide (show (⟨(AM.hexL n).toArray⟩ : ByteArray) = ⟨#[AM.hexd m]⟩ ++ L by
        rw [HX.out, AM.hexL_lt (by omega)])
      have hs2 : (⟨#[AM.hexd m]⟩ : ByteArray).size = 1 := rfl
      generalize (⟨#[AM.hexd m]⟩ : ByteArray) = D at hc HX2 hs2
      clear HX
      go_wp2
      go_ret
      exact ⟨congrArg (fun s => Ending.returned (.string s)) HX2.out.symm, rfl⟩
end Go.Proofs.YtdbhhlggddbehaaGreatDoor
