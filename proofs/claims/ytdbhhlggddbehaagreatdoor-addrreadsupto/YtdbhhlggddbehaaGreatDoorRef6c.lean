/- The document's own Starts and digit by contracts. -/
import Derived.Test.YtdbhhlggddbehaaGreatDoorRef6
namespace Go.Proofs.YtdbhhlggddbehaaGreatDoor
open Go.RowKit Go.Shelf

set_option maxHeartbeats 4000000 in
set_option maxRecDepth 100000 in
theorem starts_any (a p : List Int) (n : Int) (w : World) (ha : Ok6 a) (hp : Ok6 p) (h0 : 0 ≤ n) (h1 : n ≤ 128) : Calls Tryz.prog 12 #[six a, six p, .int .i64 n] w fun e w' => e = .returned (.bool (inF a p n)) ∧ Below w.heap.size w w' := by
  have hSa := (six_new a w).kept ((Below.refl _ _).alloc (Nat.le_refl _) (.cells #[.int .i64 (el p 0), .int .i64 (el p 1), .int .i64 (el p 2), .int .i64 (el p 3), .int .i64 (el p 4), .int .i64 (el p 5), .int .i64 (el p 6), .int .i64 (el p 7)] 23))
  have hSp := six_new p (w.alloc (.cells #[.int .i64 (el a 0), .int .i64 (el a 1), .int .i64 (el a 2), .int .i64 (el a 3), .int .i64 (el a 4), .int .i64 (el a 5), .int .i64 (el a 6), .int .i64 (el a 7)] 23))
  simp only [World.size_alloc] at hSp
  have hB : Below w.heap.size w ((w.alloc (.cells #[.int .i64 (el a 0), .int .i64 (el a 1), .int .i64 (el a 2), .int .i64 (el a 3), .int .i64 (el a 4), .int .i64 (el a 5), .int .i64 (el a 6), .int .i64 (el a 7)] 23)).alloc (.cells #[.int .i64 (el p 0), .int .i64 (el p 1), .int .i64 (el p 2), .int .i64 (el p 3), .int .i64 (el p 4), .int .i64 (el p 5), .int .i64 (el p 6), .int .i64 (el p 7)] 23)) := ((Below.refl _ _).alloc (Nat.le_refl _) _).alloc (by simp) _
  obtain ⟨r, hr⟩ : ∃ r, r = inF a p n := ⟨_, rfl⟩
  have HR := hide hr
  rw [← hr]
  clear hr
  unfold six
  go_enter Tryz.func12, Tryz.ntmps12
  go_wp2
  generalize (w.alloc (.cells #[.int .i64 (el a 0), .int .i64 (el a 1), .int .i64 (el a 2), .int .i64 (el a 3), .int .i64 (el a 4), .int .i64 (el a 5), .int .i64 (el a 6), .int .i64 (el a 7)] 23)).alloc (.cells #[.int .i64 (el p 0), .int .i64 (el p 1), .int .i64 (el p 2), .int .i64 (el p 3), .int .i64 (el p 4), .int .i64 (el p 5), .int .i64 (el p 6), .int .i64 (el p 7)] 23) = W at hSa hSp hB ⊢
  go_loopw [7] (fun t wr => ∃ k q : Nat, k ≤ 8 ∧ t = .int .i64 k ∧ Hid (∀ j, j < k → fel a n j = fel p n j) ∧ wr = W.drewN q) (fun t _ => 8 - (intOf t).toNat)
  case atStart => exact ⟨0, 0, by omega, rfl, fun j hj => absurd hj (by omega), by rw [World.drewN_zero]⟩
  case round =>
    obtain ⟨k, q, hk, rfl, HI, rfl⟩ := hrel
    by_cases hlt : k < 8
    · have ca := (hSa.facts k hlt).1
      have cp := (hSp.facts k hlt).1
      have hxa := ha k hlt
      have hxp := hp k hlt
      have HE := hide (show ∀ m : Nat, shf n k = m → (fel a n k = el a k / (2 : Int) ^ m ∧ fel p n k = el p k / (2 : Int) ^ m) from fun m hm => by unfold fel; rw [hm]; exact ⟨rfl, rfl⟩)
      have HNO := hide (show fel a n k ≠ fel p n k → r = false from fun hne => by
        rw [HR.out]
        unfold inF
        rw [List.all_eq_false]
        exact ⟨k, List.mem_range.2 hlt, by simpa using hne⟩)
      have HYES := hide (show fel a n k = fel p n k → ∀ j, j < k + 1 → fel a n j = fel p n j from fun he j hj => if h : j = k then by subst h; exact he else HI.out j (by omega))
      generalize el a k = x at ca hxa HE
      generalize el p k = y at cp hxp HE
      obtain ⟨hx0, hx1⟩ := hxa
      obtain ⟨hy0, hy1⟩ := hxp
      by_cases hd0 : n - 16 * (k : Int) < 0
      · obtain ⟨e1, e2⟩ := HE.out 16 (by unfold shf; omega)
        have e3 : x / 2 ^ 16 = 0 := by omega
        have e4 : y / 2 ^ 16 = 0 := by omega
        have HEQ := hide (HYES.out (by rw [e1, e2, e3, e4]))
        clear e1 e2 e3 e4 HE HNO HYES hSa hSp HI
        go_wp2
        go_quiet (fail)
        go_wp2_with fail
        go_roundw
        case rel => exact ⟨k + 1, q + nq, by omega, by go_num, HEQ, rfl⟩
        case measure => simp [intOf]; omega
      · by_cases hd1 : 16 < n - 16 * (k : Int)
        · obtain ⟨e1, e2⟩ := HE.out (0) (by unfold shf; omega)
          by_cases he : x = y
          · have hb : (x == y) = true := by simpa using he
            have HEQ := hide (HYES.out (by rw [e1, e2]; simpa using he))
            clear e1 e2 HE HNO HYES hSa hSp HI he
            go_wp2
            go_quiet (fail)
            go_wp2_with fail
            go_roundw
            case rel => exact ⟨k + 1, q + nq, by omega, by go_num, HEQ, rfl⟩
            case measure => simp [intOf]; omega
          · have hb : (x == y) = false := by simpa using he
            have HRF := hide (HNO.out (by rw [e1, e2]; simpa using he))
            clear e1 e2 HE HNO HYES hSa hSp HI he
            go_wp2
            go_quiet (fail)
            go_wp2_with fail
            go_ret
            exact ⟨congrArg (fun b => Ending.returned (.bool b)) HRF.out.symm, by first | exact below_drewN hB (q + nq) | exact below_drewN (below_drewN hB q) nq⟩
        · obtain ⟨e1, e2⟩ := HE.out ((16 - (n - 16 * (k : Int))).toNat) (by unfold shf; omega)
          by_cases he : x / 2 ^ (16 - (n - 16 * (k : Int))).toNat = y / 2 ^ (16 - (n - 16 * (k : Int))).toNat
          · have hb : (x / 2 ^ (16 - (n - 16 * (k : Int))).toNat == y / 2 ^ (16 - (n - 16 * (k : Int))).toNat) = true := by simpa using he
            have HEQ := hide (HYES.out (by rw [e1, e2]; simpa using he))
            clear e1 e2 HE HNO HYES hSa hSp HI he
            go_wp2
            go_quiet (fail)
            go_wp2_with fail
            go_roundw
            case rel => exact ⟨k + 1, q + nq, by omega, by go_num, HEQ, rfl⟩
            case measure => simp [intOf]; omega
          · have hb : (x / 2 ^ (16 - (n - 16 * (k : Int))).toNat == y / 2 ^ (16 - (n - 16 * (k : Int))).toNat) = false := by simpa using he
            have HRF := hide (HNO.out (by rw [e1, e2]; simpa using he))
            clear e1 e2 HE HNO HYES hSa hSp HI he
            go_wp2
            go_quiet (fail)
            go_wp2_with fail
            go_ret
            exact ⟨congrArg (fun b => Ending.returned (.bool b)) HRF.out.symm, by first | exact below_drewN hB (q + nq) | exact below_drewN (below_drewN hB q) nq⟩
    · obtain rfl : k = 8 := by omega
      have HT := hide (show r = true by
        rw [HR.out]
        unfold inF
        rw [List.all_eq_true]
        intro j hj
        simpa using HI.out j (List.mem_range.1 hj))
      go_wp2
      go_ret
      exact ⟨congrArg (fun b => Ending.returned (.bool b)) HT.out.symm, below_drewN hB q⟩

set_option maxHeartbeats 4000000 in
set_option maxRecDepth 100000 in
theorem rdigit_any (c : UInt8) (w : World) : Calls Tryz.prog 26 #[.int .u8 (c.toNat : Int)] w fun e w' => e = .returned (.int .i64 (match AM.hv c with | some d => (d : Int) | none => -1)) ∧ w' = w := by
  obtain ⟨r, hr⟩ : ∃ r : Int, r = match AM.hv c with | some d => (d : Int) | none => -1 := ⟨_, rfl⟩
  have HR := hide hr
  rw [← hr]
  clear hr
  have hc256 : c.toNat < 256 := c.toNat_lt
  have hdig : ∀ k : Nat, k < 16 → ∀ W, (Instr.index 9 (.string ⟨#[48, 49, 50, 51, 52, 53, 54, 55, 56, 57, 97, 98, 99, 100, 101, 102]⟩) (.int .i64 k)).run Tryz.prog W = .ok (.int .u8 ((AM.hexd k).toNat : Int)) W := by
    intro k hk W
    rcases (by omega : k = 0 ∨ k = 1 ∨ k = 2 ∨ k = 3 ∨ k = 4 ∨ k = 5 ∨ k = 6 ∨ k = 7 ∨ k = 8 ∨ k = 9 ∨ k = 10 ∨ k = 11 ∨ k = 12 ∨ k = 13 ∨ k = 14 ∨ k = 15) with rfl | rfl | rfl | rfl | rfl | rfl | rfl | rfl | rfl | rfl | rfl | rfl | rfl | rfl | rfl | rfl <;> kernel_rfl
  go_enter Tryz.func26, Tryz.ntmps26
  go_wp2
  go_loop [3] (fun t => ∃ k : Nat, k ≤ 16 ∧ t = .int .i64 k ∧ Hid (∀ j, j < k → AM.hexd j ≠ c)) (fun t => 16 - (intOf t).toNat)
  case atStart => exact ⟨0, by omega, rfl, fun j hj => absurd hj (by omega)⟩
  case round =>
    obtain ⟨k, hk, rfl, HI⟩ := hrel
    by_cases hlt : k < 16
    · have hd := hdig k hlt
      by_cases he : AM.hexd k = c
      · have HF := hide (show r = (k : Int) by rw [HR.out, ← he, AM.hv_hexd k hlt])
        rw [he] at hd
        clear hdig he HI
        go_wp2
        go_ret
        exact ⟨congrArg (fun b => Ending.returned (.int .i64 b)) HF.out.symm, rfl⟩
      · have hb : (((AM.hexd k).toNat : Int) == (c.toNat : Int)) = false := by
          rw [beq_eq_false_iff_ne]
          intro e
          exact he (UInt8.toNat_inj.1 (by omega))
        have HI2 := hide (show ∀ j, j < k + 1 → AM.hexd j ≠ c from fun j hj => if h : j = k then by subst h; exact he else HI.out j (by omega))
        generalize ((AM.hexd k).toNat : Int) = x at hd hb
        clear hdig he HI
        go_wp2
        go_round
        case rel => exact ⟨k + 1, by omega, by go_num, HI2⟩
        case measure => simp [intOf]; omega
    · obtain rfl : k = 16 := by omega
      have HF := hide (show r = -1 by
        rw [HR.out]
        cases hv : AM.hv c with
        | none => rfl
        | some d =>
          exfalso
          have hd := AM.hv_lt hv
          refine HI.out d hd ?_
          apply UInt8.toNat_inj.1
          rw [AM.hexd_toNat d hd]
          unfold AM.hv at hv
          split at hv
          · cases hv; split <;> omega
          · split at hv
            · cases hv; split <;> omega
            · cases hv)
      clear hdig
      go_wp2
      go_ret
      exact ⟨congrArg (fun b => Ending.returned (.int .i64 b)) HF.out.symm, rfl⟩
end Go.Proofs.YtdbhhlggddbehaaGreatDoor
