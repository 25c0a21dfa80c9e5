/- The document's own arithmetic (Word, Fold, SumOf) and its own faults of a packet (IsFour, isByte, Fault4), by contracts. -/
import Derived.Test.YtlaljflcgbbhdaaDoorIp4j
namespace Go.Proofs.YtlaljflcgbbhdaaDoor
open Go.RowKit

theorem word_yes (n : Int) (w : World) (h : Word n) : Calls Tryd.prog 14 #[.int .i64 n] w fun e w' => e = .returned (.bool true) ∧ w' = w := by
  obtain ⟨h1, h2⟩ := h
  go_enter Tryd.func14, Tryd.ntmps14
  go_wp2
  go_ret
  exact ⟨rfl, rfl⟩
theorem word_no (n : Int) (w : World) (h : ¬ Word n) : Calls Tryd.prog 14 #[.int .i64 n] w fun e w' => e = .returned (.bool false) ∧ w' = w := by
  by_cases h1 : 0 ≤ n
  · have h2 : ¬ n ≤ 65535 := fun h2 => h ⟨h1, h2⟩
    clear h
    go_enter Tryd.func14, Tryd.ntmps14
    go_wp2
    go_ret
    exact ⟨rfl, rfl⟩
  · clear h
    go_enter Tryd.func14, Tryd.ntmps14
    go_wp2
    go_ret
    exact ⟨rfl, rfl⟩
theorem rfold_any (n : Int) (w : World) (h0 : 0 ≤ n) (h1 : n ≤ 1000000000000) : Calls Tryd.prog 29 #[.int .i64 n] w fun e w' => e = .returned (.int .i64 (SM.fold n)) ∧ w' = w := by
  by_cases h : n = 0
  · subst h
    go_enter Tryd.func29, Tryd.ntmps29
    go_wp2
    go_ret
    exact ⟨rfl, rfl⟩
  · have hb : (n == 0) = false := by simpa using h
    have hf : Hid (SM.fold n = (n - 1) % 65535 + 1) := by unfold SM.fold; rw [if_neg h]; exact rfl
    go_enter Tryd.func29, Tryd.ntmps29
    go_wp2
    go_ret
    exact ⟨ret_int hf.out.symm, rfl⟩
set_option maxHeartbeats 400000 in
theorem rsumof_any (a : Option Addr) (len cap : Nat) (zs : List Int) (w : World) (w0 : Row8 w a len cap zs) (h : len ≤ 2000) :
    Calls Tryd.prog 19 #[.slice a len cap] w fun e w' => e = .returned (.int .i64 (SM.fold (SM.tot zs len))) ∧ w' = w := by
  obtain ⟨hz, hm, hoct, _, hcs⟩ := w0
  by_cases hp : 0 < len
  · obtain ⟨b, off, rfl, hcell⟩ := hcs hp
    clear hcs
    go_enter Tryd.func19, Tryd.ntmps19
    go_wp2
    go_loop [3, 4] (fun t i => ∃ k : Nat, k ≤ len + 1 ∧ (k ≤ len ∨ len % 2 = 1) ∧ k % 2 = 0 ∧ t = .int .i64 (SM.tot zs (if k ≤ len then k else len)) ∧ i = .int .i64 k) (fun _ i => len + 1 - (intOf i).toNat)
    case atStart => exact ⟨0, by omega, by omega, rfl, by simp [SM.tot], rfl⟩
    case round =>
      obtain ⟨k, hk, hko, hpar, rfl, rfl⟩ := hrel
      by_cases hlt : k < len
      · have hb := SM.tot_bd zs hoct k
        have hck := hcell k (by omega)
        have hok := hoct k
        have HE := hide (SM.tot_even zs k hpar)
        rw [if_pos (by omega : k ≤ len)]
        by_cases hnx : k + 1 < len
        · have hck1 := hcell (k + 1) (by omega)
          have hok1 := hoct (k + 1)
          have HO := hide (SM.tot_odd zs (k + 1) (by omega))
          clear hcell hoct
          generalize zs.getD k 0 = z at hck hok HE
          generalize zs.getD (k + 1) 0 = z1 at hck1 hok1 HO
          generalize SM.tot zs k = t at hb HE ⊢
          go_wp2
          go_round
          case rel => exact ⟨k + 2, by omega, by omega, by omega, by rw [if_pos (by omega : k + 2 ≤ len), HO.out, HE.out]; exact congrArg _ (by omega), by go_num⟩
          case measure => simp [intOf]; omega
        · obtain rfl : len = k + 1 := by omega
          clear hcell hoct
          generalize zs.getD k 0 = z at hck hok HE
          generalize SM.tot zs k = t at hb HE ⊢
          go_wp2
          go_round
          case rel => exact ⟨k + 2, by omega, by omega, by omega, by rw [if_neg (by omega : ¬ k + 2 ≤ k + 1), HE.out]; exact congrArg _ (by omega), by go_num⟩
          case measure => simp [intOf]; omega
      · have hb := SM.tot_bd zs hoct len
        have e : (if k ≤ len then k else len) = len := by split <;> omega
        rw [e]
        clear e
        go_wp2_with (go_at_call 29; refine (rfold_any _ _ (by omega) (by omega)).mono ?_; rintro e w' ⟨rfl, rfl⟩)
        go_ret
        exact ⟨rfl, rfl⟩
  · obtain rfl : len = 0 := by omega
    go_enter Tryd.func19, Tryd.ntmps19
    go_wp2
    refine wp_loop_rounds 1 ?_
    rw [rounds_succ]
    go_wp2_with (go_at_call 29; refine (rfold_any _ _ (by omega) (by omega)).mono ?_; rintro e w' ⟨rfl, rfl⟩)
    go_ret
    exact ⟨rfl, rfl⟩
theorem isfour_yes (n : Int) (w : World) (h : 0 ≤ n ∧ n ≤ 4294967295) : Calls Tryd.prog 12 #[.int .i64 n] w fun e w' => e = .returned (.bool true) ∧ w' = w := by
  obtain ⟨h1, h2⟩ := h
  go_enter Tryd.func12, Tryd.ntmps12
  go_wp2
  go_ret
  exact ⟨rfl, rfl⟩
theorem isfour_no (n : Int) (w : World) (h : n < 0 ∨ 4294967295 < n) : Calls Tryd.prog 12 #[.int .i64 n] w fun e w' => e = .returned (.bool false) ∧ w' = w := by
  by_cases h0 : n < 0
  · clear h
    go_enter Tryd.func12, Tryd.ntmps12
    go_wp2
    go_ret
    exact ⟨rfl, rfl⟩
  · have h1 : 4294967295 < n := by omega
    have h2 : 0 ≤ n := by omega
    clear h h0
    go_enter Tryd.func12, Tryd.ntmps12
    go_wp2
    go_ret
    refine ⟨?_, rfl⟩
    first
    | rfl
    | (show Ending.returned (.bool (decide (n ≤ 4294967295))) = _; rw [decide_eq_false (by omega)])
theorem isbyte_yes (n : Int) (w : World) (h : 0 ≤ n ∧ n ≤ 255) : Calls Tryd.prog 13 #[.int .i64 n] w fun e w' => e = .returned (.bool true) ∧ w' = w := by
  obtain ⟨h1, h2⟩ := h
  go_enter Tryd.func13, Tryd.ntmps13
  go_wp2
  go_ret
  exact ⟨rfl, rfl⟩
theorem isbyte_no (n : Int) (w : World) (h : ¬ (0 ≤ n ∧ n ≤ 255)) : Calls Tryd.prog 13 #[.int .i64 n] w fun e w' => e = .returned (.bool false) ∧ w' = w := by
  by_cases h1 : 0 ≤ n
  · have h2 : ¬ n ≤ 255 := fun h2 => h ⟨h1, h2⟩
    clear h
    go_enter Tryd.func13, Tryd.ntmps13
    go_wp2
    go_ret
    exact ⟨rfl, rfl⟩
  · clear h
    go_enter Tryd.func13, Tryd.ntmps13
    go_wp2
    go_ret
    exact ⟨rfl, rfl⟩
theorem up_true {m n : Int} (h : up m n = true) : 0 ≤ n ∧ n ≤ m := of_decide_eq_true h
theorem isbyte_any (n : Int) (w : World) : Calls Tryd.prog 13 #[.int .i64 n] w fun e w' => e = .returned (.bool (up 255 n)) ∧ w' = w := by
  by_cases h : 0 ≤ n ∧ n ≤ 255
  · rw [show up 255 n = true from decide_eq_true h]; exact isbyte_yes n w h
  · rw [show up 255 n = false from decide_eq_false h]; exact isbyte_no n w h
theorem isfour_any (n : Int) (w : World) : Calls Tryd.prog 12 #[.int .i64 n] w fun e w' => e = .returned (.bool (up 4294967295 n)) ∧ w' = w := by
  by_cases h : 0 ≤ n ∧ n ≤ 4294967295
  · rw [show up 4294967295 n = true from decide_eq_true h]; exact isfour_yes n w h
  · rw [show up 4294967295 n = false from decide_eq_false h]; exact isfour_no n w (by omega)
theorem word_any (n : Int) (w : World) : Calls Tryd.prog 14 #[.int .i64 n] w fun e w' => e = .returned (.bool (up 65535 n)) ∧ w' = w := by
  by_cases h : 0 ≤ n ∧ n ≤ 65535
  · rw [show up 65535 n = true from decide_eq_true h]; exact word_yes n w h
  · rw [show up 65535 n = false from decide_eq_false h]; exact word_no n w h

set_option maxHeartbeats 1000000 in
theorem rfault_ok (s d t k i : Int) (a : Option Addr) (len cap : Nat) (w : World) (h : Okp s d t k i) (hl : len ≤ 320) :
    Calls Tryd.prog 4 #[pk s d t k i a len cap] w fun e w' => e = .returned (.int .i64 0) ∧ Below w.heap.size w w' := by
  obtain ⟨hs, hd, ht, hk, hi⟩ := h
  replace hs : up 4294967295 s = true := decide_eq_true hs
  replace hd : up 4294967295 d = true := decide_eq_true hd
  replace ht : up 255 t = true := decide_eq_true ht
  replace hk : up 255 k = true := decide_eq_true hk
  replace hi : up 65535 i = true := decide_eq_true hi
  have HB := hide (bx_below w s d t k i a len cap)
  unfold bx at HB
  unfold pk
  go_enter Tryd.func4, Tryd.ntmps4
  go_wp2_with (first
    | (go_at_call 12; refine (isfour_any _ _).mono ?_; rintro e w' ⟨rfl, rfl⟩)
    | (go_at_call 13; refine (isbyte_any _ _).mono ?_; rintro e w' ⟨rfl, rfl⟩)
    | (go_at_call 14; refine (word_any _ _).mono ?_; rintro e w' ⟨rfl, rfl⟩))
  go_ret
  exact ⟨rfl, HB.out⟩
set_option maxHeartbeats 1000000 in
theorem rfault_full (s d t k i : Int) (a : Option Addr) (len cap : Nat) (w : World) (h : Okp s d t k i) (hl : 320 < len) (hm : len ≤ maxLen) :
    Calls Tryd.prog 4 #[pk s d t k i a len cap] w fun e w' => e = .returned (.int .i64 3) ∧ Below w.heap.size w w' := by
  obtain ⟨hs, hd, ht, hk, hi⟩ := h
  replace hs : up 4294967295 s = true := decide_eq_true hs
  replace hd : up 4294967295 d = true := decide_eq_true hd
  replace ht : up 255 t = true := decide_eq_true ht
  replace hk : up 255 k = true := decide_eq_true hk
  replace hi : up 65535 i = true := decide_eq_true hi
  unfold maxLen at hm
  have HB := hide (bx_below w s d t k i a len cap)
  unfold bx at HB
  unfold pk
  go_enter Tryd.func4, Tryd.ntmps4
  go_wp2_with (first
    | (go_at_call 12; refine (isfour_any _ _).mono ?_; rintro e w' ⟨rfl, rfl⟩)
    | (go_at_call 13; refine (isbyte_any _ _).mono ?_; rintro e w' ⟨rfl, rfl⟩)
    | (go_at_call 14; refine (word_any _ _).mono ?_; rintro e w' ⟨rfl, rfl⟩))
  go_ret
  exact ⟨rfl, HB.out⟩
set_option maxHeartbeats 1000000 in
theorem rfault_bad (s d t k i : Int) (a : Option Addr) (len cap : Nat) (w : World) (h : ¬ Okp s d t k i) :
    Calls Tryd.prog 4 #[pk s d t k i a len cap] w fun e w' => e = .returned (.int .i64 1) ∧ Below w.heap.size w w' := by
  have HB := hide (bx_below w s d t k i a len cap)
  unfold bx at HB
  unfold pk
  have hu : ¬ (up 4294967295 s = true ∧ up 4294967295 d = true ∧ up 255 t = true ∧ up 255 k = true ∧ up 65535 i = true) := fun ⟨h1, h2, h3, h4, h5⟩ => h ⟨up_true h1, up_true h2, up_true h3, up_true h4, up_true h5⟩
  clear h
  generalize hs : up 4294967295 s = us at hu
  generalize hd : up 4294967295 d = ud at hu
  generalize ht : up 255 t = ut at hu
  generalize hk : up 255 k = uk at hu
  generalize hi : up 65535 i = ui at hu
  cases us
  · clear hu
    go_enter Tryd.func4, Tryd.ntmps4
    go_wp2_with (first
      | (go_at_call 12; refine (isfour_any _ _).mono ?_; rintro e w' ⟨rfl, rfl⟩)
      | (go_at_call 13; refine (isbyte_any _ _).mono ?_; rintro e w' ⟨rfl, rfl⟩)
      | (go_at_call 14; refine (word_any _ _).mono ?_; rintro e w' ⟨rfl, rfl⟩))
    go_ret
    exact ⟨rfl, HB.out⟩
  · cases ud
    · clear hu
      go_enter Tryd.func4, Tryd.ntmps4
      go_wp2_with (first
        | (go_at_call 12; refine (isfour_any _ _).mono ?_; rintro e w' ⟨rfl, rfl⟩)
        | (go_at_call 13; refine (isbyte_any _ _).mono ?_; rintro e w' ⟨rfl, rfl⟩)
        | (go_at_call 14; refine (word_any _ _).mono ?_; rintro e w' ⟨rfl, rfl⟩))
      go_ret
      exact ⟨rfl, HB.out⟩
    · cases ut
      · clear hu
        go_enter Tryd.func4, Tryd.ntmps4
        go_wp2_with (first
          | (go_at_call 12; refine (isfour_any _ _).mono ?_; rintro e w' ⟨rfl, rfl⟩)
          | (go_at_call 13; refine (isbyte_any _ _).mono ?_; rintro e w' ⟨rfl, rfl⟩)
          | (go_at_call 14; refine (word_any _ _).mono ?_; rintro e w' ⟨rfl, rfl⟩))
        go_ret
        exact ⟨rfl, HB.out⟩
      · cases uk
        · clear hu
          go_enter Tryd.func4, Tryd.ntmps4
          go_wp2_with (first
            | (go_at_call 12; refine (isfour_any _ _).mono ?_; rintro e w' ⟨rfl, rfl⟩)
            | (go_at_call 13; refine (isbyte_any _ _).mono ?_; rintro e w' ⟨rfl, rfl⟩)
            | (go_at_call 14; refine (word_any _ _).mono ?_; rintro e w' ⟨rfl, rfl⟩))
          go_ret
          exact ⟨rfl, HB.out⟩
        · cases ui
          · clear hu
            go_enter Tryd.func4, Tryd.ntmps4
            go_wp2_with (first
              | (go_at_call 12; refine (isfour_any _ _).mono ?_; rintro e w' ⟨rfl, rfl⟩)
              | (go_at_call 13; refine (isbyte_any _ _).mono ?_; rintro e w' ⟨rfl, rfl⟩)
              | (go_at_call 14; refine (word_any _ _).mono ?_; rintro e w' ⟨rfl, rfl⟩))
            go_ret
            exact ⟨rfl, HB.out⟩
          · exact absurd ⟨rfl, rfl, rfl, rfl, rfl⟩ hu
end Go.Proofs.YtlaljflcgbbhdaaDoor
