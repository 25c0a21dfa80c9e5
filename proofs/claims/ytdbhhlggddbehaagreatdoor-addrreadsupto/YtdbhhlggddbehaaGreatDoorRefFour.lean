/- The document's own Dec, IsFour and FourText by contracts. -/
import Derived.Test.YtdbhhlggddbehaaGreatDoorFour2
import Derived.Test.YtdbhhlggddbehaaGreatDoorRefText
namespace Go.Proofs.YtdbhhlggddbehaaGreatDoor
open Go.RowKit Go.Shelf

theorem cut_dec (k : Nat) (h : k < 10) (w : World) : (Instr.slice 9 (.string ⟨#[48, 49, 50, 51, 52, 53, 54, 55, 56, 57]⟩) (some (.int .i64 k)) (some (.int .i64 ((k : Int) + 1))) none).run Tryz.prog w = .ok (.string ⟨#[UInt8.ofNat (48 + k)]⟩) w := by
  rcases (by omega : k = 0 ∨ k = 1 ∨ k = 2 ∨ k = 3 ∨ k = 4 ∨ k = 5 ∨ k = 6 ∨ k = 7 ∨ k = 8 ∨ k = 9) with rfl | rfl | rfl | rfl | rfl | rfl | rfl | rfl | rfl | rfl <;> kernel_rfl

set_option maxHeartbeats 2000000 in
theorem rdec_any (n : Nat) (w : World) (hn : n ≤ 65535) : Calls Tryz.prog 28 #[.int .i64 (n : Nat)] w fun e w' => e = .returned (strv (Lib.decDigits n)) ∧ w' = w := by
  go_enter Tryz.func28, Tryz.ntmps28
  go_wp2
  go_loop [0, 3] (fun a s => ∃ (m : Nat) (L : ByteArray), a = .int .i64 m ∧ s = .string L ∧ m ≤ 65535 ∧ L.size + m ≤ 65535 ∧ Hid ((⟨(Lib.decDigits n).toArray⟩ : ByteArray) = ⟨(Lib.decDigits m).toArray⟩ ++ L)) (fun a _ => (intOf a).toNat)
  case atStart => exact ⟨n, ⟨#[]⟩, rfl, rfl, hn, by simpa [ByteArray.size] using hn, hide (by apply ByteArray.ext; simp)⟩
  case round =>
    obtain ⟨m, L, rfl, rfl, hm, hL, HX⟩ := hrel
    by_cases hlt : 9 < m
    · have hc := cut_dec (m % 10) (by omega)
      have HX2 := hide (show (⟨(Lib.decDigits n).toArray⟩ : ByteArray) = ⟨(Lib.decDigits (m / 10)).toArray⟩ ++ (⟨#[UInt8.ofNat (48 + m % 10)]⟩ ++ L) by
        rw [HX.out, AM.dec_ge (by omega)]
        have := bytes_app (Lib.decDigits (m / 10)) [UInt8.ofNat (48 + m % 10)]
        rw [← this, ByteArray.append_assoc])
      have hr : (m : Int) % 10 = ((m % 10 : Nat) : Int) := by omega
      generalize m % 10 = d at hc HX2 hr
      have hs2 : (⟨#[UInt8.ofNat (48 + d)]⟩ : ByteArray).size = 1 := rfl
      have hs3 : ((⟨#[UInt8.ofNat (48 + d)]⟩ : ByteArray) ++ L).size = 1 + L.size := by rw [ByteArray.size_append]; rfl
      generalize (⟨#[UInt8.ofNat (48 + d)]⟩ : ByteArray) = D at hc HX2 hs2 hs3
      clear HX
      go_wp2
      go_round
      case rel => exact ⟨m / 10, D ++ L, by go_num, rfl, by omega, by rw [hs3]; omega, HX2⟩
      case measure => simp [intOf]; omega
    · have hc := cut_dec m (by omega)
      have HX2 := hide (show (⟨(Lib.decDigits n).toArray⟩ : ByteArray) = ⟨#[UInt8.ofNat (48 + m)]⟩ ++ L by
        rw [HX.out, AM.dec_lt (by omega)])
      have hs2 : (⟨#[UInt8.ofNat (48 + m)]⟩ : ByteArray).size = 1 := rfl
      generalize (⟨#[UInt8.ofNat (48 + m)]⟩ : ByteArray) = D at hc HX2 hs2
      clear HX
      go_wp2
      go_ret
      exact ⟨congrArg (fun s => Ending.returned (.string s)) HX2.out.symm, rfl⟩

theorem isfour_yes (n : Int) (w : World) (h : 0 ≤ n ∧ n ≤ 4294967295) : Calls Tryz.prog 15 #[.int .i64 n] w fun e w' => e = .returned (.bool true) ∧ w' = w := by
  obtain ⟨h1, h2⟩ := h
  go_enter Tryz.func15, Tryz.ntmps15
  go_wp2
  go_ret
  exact ⟨rfl, rfl⟩
theorem isfour_no (n : Int) (w : World) (h : n < 0 ∨ 4294967295 < n) : Calls Tryz.prog 15 #[.int .i64 n] w fun e w' => e = .returned (.bool false) ∧ w' = w := by
  by_cases h0 : n < 0
  · clear h
    go_enter Tryz.func15, Tryz.ntmps15
    go_wp2
    go_ret
    exact ⟨rfl, rfl⟩
  · have h1 : 4294967295 < n := by omega
    have h2 : 0 ≤ n := by omega
    clear h h0
    go_enter Tryz.func15, Tryz.ntmps15
    go_wp2
    go_ret
    refine ⟨?_, rfl⟩
    first
    | rfl
    | (show Ending.returned (.bool (decide (n ≤ 4294967295))) = _; rw [decide_eq_false (by omega)])

set_option maxHeartbeats 2000000 in
set_option maxRecDepth 100000 in
theorem fourtext_any (n : Nat) (w : World) (hn : n ≤ 4294967295) : Calls Tryz.prog 16 #[.int .i64 (n : Nat)] w fun e w' => e = .returned (strv (AM.t4 n)) ∧ w' = w := by
  have hd : ∀ m : Nat, m ≤ 255 → ∃ D : ByteArray, D = ⟨(Lib.decDigits m).toArray⟩ ∧ D.size ≤ 3 ∧ ∀ W, Calls Tryz.prog 28 #[.int .i64 (m : Nat)] W fun e w' => e = .returned (.string D) ∧ w' = W := fun m hm => ⟨_, rfl, by rw [Lib.size_eq]; have := AM.dec_len3 hm; simpa using this, fun W => rdec_any m W (by omega)⟩
  obtain ⟨D0, e0, s0, h0⟩ := hd (n / 16777216) (by omega)
  obtain ⟨D1, e1, s1, h1⟩ := hd (n / 65536 % 256) (by omega)
  obtain ⟨D2, e2, s2, h2⟩ := hd (n / 256 % 256) (by omega)
  obtain ⟨D3, e3, s3, h3⟩ := hd (n % 256) (by omega)
  have HT := hide (show (⟨(AM.t4 n).toArray⟩ : ByteArray) = D0 ++ ⟨#[46]⟩ ++ D1 ++ ⟨#[46]⟩ ++ D2 ++ ⟨#[46]⟩ ++ D3 by
    rw [e0, e1, e2, e3]
    have : (⟨#[46]⟩ : ByteArray) = ⟨([46] : List UInt8).toArray⟩ := rfl
    rw [this, bytes_app, bytes_app, bytes_app, bytes_app, bytes_app, bytes_app]
    unfold AM.t4 AM.by4
    simp [AM.jn])
  have z1 : (D0 ++ ⟨#[46]⟩).size = D0.size + 1 := by rw [ByteArray.size_append]; rfl
  have z2 : (D0 ++ ⟨#[46]⟩ ++ D1).size = D0.size + 1 + D1.size := by rw [ByteArray.size_append, z1]
  have z3 : (D0 ++ ⟨#[46]⟩ ++ D1 ++ ⟨#[46]⟩).size = D0.size + 1 + D1.size + 1 := by rw [ByteArray.size_append, z2]; rfl
  have z4 : (D0 ++ ⟨#[46]⟩ ++ D1 ++ ⟨#[46]⟩ ++ D2).size = D0.size + 1 + D1.size + 1 + D2.size := by rw [ByteArray.size_append, z3]
  have z5 : (D0 ++ ⟨#[46]⟩ ++ D1 ++ ⟨#[46]⟩ ++ D2 ++ ⟨#[46]⟩).size = D0.size + 1 + D1.size + 1 + D2.size + 1 := by rw [ByteArray.size_append, z4]; rfl
  have q0 : (n : Int) / 16777216 = ((n / 16777216 : Nat) : Int) := by omega
  have q1 : (n : Int) / 65536 % 256 = ((n / 65536 % 256 : Nat) : Int) := by omega
  have q2 : (n : Int) / 256 % 256 = ((n / 256 % 256 : Nat) : Int) := by omega
  have q3 : (n : Int) % 256 = ((n % 256 : Nat) : Int) := by omega
  clear hd e0 e1 e2 e3
  generalize n / 16777216 = m0 at h0 q0
  generalize n / 65536 % 256 = m1 at h1 q1
  generalize n / 256 % 256 = m2 at h2 q2
  generalize n % 256 = m3 at h3 q3
  go_enter Tryz.func16, Tryz.ntmps16
  go_wp2_with (first
    | (go_at_call_of 28 (Value.int IntKind.i64 (m0 : Int)); refine (h0 _).mono ?_; rintro e w' ⟨rfl, rfl⟩)
    | (go_at_call_of 28 (Value.int IntKind.i64 (m1 : Int)); refine (h1 _).mono ?_; rintro e w' ⟨rfl, rfl⟩)
    | (go_at_call_of 28 (Value.int IntKind.i64 (m2 : Int)); refine (h2 _).mono ?_; rintro e w' ⟨rfl, rfl⟩)
    | (go_at_call_of 28 (Value.int IntKind.i64 (m3 : Int)); refine (h3 _).mono ?_; rintro e w' ⟨rfl, rfl⟩))
  go_ret
  exact ⟨congrArg (fun s => Ending.returned (.string s)) HT.out.symm, rfl⟩
end Go.Proofs.YtdbhhlggddbehaaGreatDoor
