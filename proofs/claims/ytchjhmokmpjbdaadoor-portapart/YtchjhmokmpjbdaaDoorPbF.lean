/- The program's Take and Free of ports, by contracts. -/
import Derived.Test.YtchjhmokmpjbdaaDoorPbE
namespace Go.Proofs.YtchjhmokmpjbdaaDoor
open Go.RowKit

theorem pcheck_ok (z : List Int) (W : World) (hz : Ok6 z) : Calls Tryd.prog 23 #[.agg (sixC z)] W fun e w' => e = .returned .nilIface ∧ Below W.heap.size W w' :=
  (check_ok z W hz).mono fun e w' ⟨h1, h2⟩ => ⟨h1, by rw [h2]; exact al_below _ _⟩
theorem pcheck_bad (z : List Int) (W : World) (hz : ¬ Ok6 z) : Calls Tryd.prog 23 #[.agg (sixC z)] W fun e w' => e = .returned (.iface 29 (.int .i64 1)) ∧ Below W.heap.size W w' :=
  (check_bad z W hz).mono fun e w' ⟨h1, h2⟩ => ⟨h1, by rw [h2]; exact al_below _ _⟩
set_option maxRecDepth 100000 in
set_option maxHeartbeats 1000000 in
theorem ptake_bad (v : Value) (z : List Int) (w : World) (hz : ¬ Ok6 z) :
    Calls Tryd.prog 9 #[v, .agg (sixC z)] w fun e w' => e = .returned (.tuple #[.int .i64 0, err 1]) ∧ Below w.heap.size w w' := by
  have HB := hide (al_below w (.cells (sixC z) 33))
  have HZ := hide (show SixIn w.heap.size z (w.alloc (.cells (sixC z) 33)) from six_new z w)
  have HC := hide (fun W => pcheck_bad z W hz)
  clear hz
  go_enter Tryd.func9, Tryd.ntmps9
  go_upto_region 1 with fail
  generalize w.alloc _ = W at HB HZ ⊢
  go_wp2_with (first
    | (refine at_load6 rfl (.tmp 3) rfl rfl HZ.out ?_)
    | (go_at_call 23; refine (HC.out _).mono ?_; rintro e w1 ⟨rfl, hb1⟩; replace HB := hide (bt HB.out hb1); clear hb1))
  go_ret2
  exact ⟨rfl, HB.out⟩
set_option maxRecDepth 100000 in
set_option maxHeartbeats 1000000 in
theorem ptake_full (B BB m : Nat) (ow : Nat → List Int) (ts : Nat → Bool) (z : List Int) (w : World) (h : BP B BB m ow ts w) (hm : m ≤ 16) (hz : Ok6 z) (hR : rm ow ts z m = none) :
    Calls Tryd.prog 9 #[.pointer (some ⟨B, 0, none⟩), .agg (sixC z)] w fun e w' => e = .returned (.tuple #[.int .i64 0, err 3]) ∧ Below w.heap.size w w' := by
  have HK := hide (show Kp w B BB m ow ts z (w.alloc (.cells (sixC z) 33)) from ⟨h.kept (al_below _ _), six_new z w, al_below _ _⟩)
  have HC := hide (fun W => pcheck_ok z W hz)
  have HR := hide (fun W hW => room_any B BB m ow ts z W hW hm none hR)
  clear h hR hz
  go_enter Tryd.func9, Tryd.ntmps9
  go_upto_region 1 with fail
  generalize w.alloc _ = W at HK ⊢
  go_wp2_with (first
    | (refine at_load6 rfl (.tmp 3) rfl rfl HK.out.2.1 ?_)
    | (go_at_call 23; refine (HC.out _).mono ?_; rintro e w1 ⟨rfl, hb1⟩; replace HK := hide (HK.out.kept hb1); clear hb1)
    | (go_at_call 24; refine (HR.out _ HK.out.1).mono ?_; rintro e w2 ⟨rfl, hb2⟩; replace HK := hide (HK.out.kept hb2); clear hb2; rw [show fi none = (-1 : Int) from rfl]))
  go_ret2
  exact ⟨rfl, HK.out.2.2⟩
attribute [local go_sem ↓] qstore_shut
set_option maxRecDepth 100000 in
set_option maxHeartbeats 1000000 in
theorem ptake_ok (B BB m : Nat) (ow : Nat → List Int) (ts : Nat → Bool) (z : List Int) (k j : Nat) (w : World) (h : BP B BB m ow ts w) (hm : m ≤ 16) (hz : Ok6 z) (hR : rm ow ts z m = some k) (hk : k < m) (hF : fx (sb ts k) = some j) (hj : j < 8) :
    Calls Tryd.prog 9 #[.pointer (some ⟨B, 0, none⟩), .agg (sixC z)] w fun e w' => e = .returned (.tuple #[.int .i64 (1024 + ((8 * k + j : Nat) : Int)), .nilIface]) ∧ BP B BB m (upd ow k z) (upd ts (8 * k + j) true) w' ∧ Fr (fun g => g = BB) w w' := by
  have HK := hide (show Kp w B BB m ow ts z (w.alloc (.cells (sixC z) 33)) from ⟨h.kept (al_below _ _), six_new z w, al_below _ _⟩)
  have HC := hide (fun W => pcheck_ok z W hz)
  have HR := hide (fun W hW => room_any B BB m ow ts z W hW hm (some k) hR)
  have HI := hide (fun W (hW : BP B BB m ow ts W) => show Calls Tryd.prog 25 #[.slice (some ⟨BB, 16 * k + 8, none⟩) 8 8, .bool false] W fun e w' => e = .returned (.int .i64 j) ∧ w' = W by
    have := index_any BB (16 * k + 8) (sb ts k) W (fun j hj => (hW.2.bit k hk j hj).1)
    rw [hF] at this
    exact this)
  have e16 : k * 16 = 16 * k := by omega
  have j1 : (k : Int) < (m : Int) := by omega
  have j2 : (m : Int) ≤ 16 := by omega
  have j3 : (j : Int) < 8 := by omega
  have j4 : ¬ (k : Int) < 0 := by omega
  clear h hR hz hF
  go_enter Tryd.func9, Tryd.ntmps9
  go_upto_region 1 with fail
  generalize w.alloc _ = W at HK ⊢
  go_upto_region 7 with (first
    | (refine at_load6 rfl (.tmp 3) rfl rfl HK.out.2.1 ?_)
    | (go_at_call 23; refine (HC.out _).mono ?_; rintro e w1 ⟨rfl, hb1⟩; replace HK := hide (HK.out.kept hb1); clear hb1)
    | (go_at_call 24; refine (HR.out _ HK.out.1).mono ?_; rintro e w2 ⟨rfl, hb2⟩; replace HK := hide (HK.out.kept hb2); clear hb2; rw [show fi (some k) = (k : Int) from rfl]))
  have l1 := HK.out.1.row
  go_upto_region 9 with (go_at_call 25; refine (HI.out _ HK.out.1).mono ?_; rintro e w3 ⟨rfl, rfl⟩)
  obtain ⟨w5, hst, p5, on5⟩ := HK.out.1.2.held k hk z
  have HP := hide (HK.out.1.only on5 p5)
  have HF := hide ((Fr.of (O := fun g => g = BB) HK.out.2.2).trans (on5.fr rfl))
  clear p5 on5
  go_upto_region 10 with (refine at_load6 rfl (.tmp 3) rfl rfl HK.out.2.1 ?_)
  obtain ⟨c1, c2⟩ := HP.out.2.bit k hk j hj
  have HS := hide (HP.out.setT k j hk hj true)
  replace HF := hide (HF.out.trans (setCell_fr w5 BB (16 * k + 8 + j) (.bool true)))
  go_wp2
  go_ret2
  rw [show (1024 : Int) + ((8 * k + j : Nat) : Int) = 1024 + (k : Int) * 8 + (j : Int) by omega]
  exact ⟨rfl, HS.out, HF.out⟩
theorem tb_index (t : Nat → Bool) (k : Nat) (hk : k < 8) (w : World) : (Instr.index 69 (.agg (tbC t)) (.int .i64 k)).run Tryd.prog w = .ok (.bool (t k)) w := by
  rcases (by omega : k = 0 ∨ k = 1 ∨ k = 2 ∨ k = 3 ∨ k = 4 ∨ k = 5 ∨ k = 6 ∨ k = 7) with rfl | rfl | rfl | rfl | rfl | rfl | rfl | rfl <;> kernel_rfl
set_option maxRecDepth 100000 in
set_option maxHeartbeats 2000000 in
theorem pfree_any (B BB m : Nat) (ow : Nat → List Int) (ts : Nat → Bool) (w : World) (h : BP B BB m ow ts w) (hm : m ≤ 16) :
    Calls Tryd.prog 12 #[.pointer (some ⟨B, 0, none⟩)] w fun e w' => e = .returned (.int .i64 (cf ts (8 * m))) ∧ Below w.heap.size w w' := by
  have l1 := h.row
  have HK := hide (show BP B BB m ow ts w ∧ Below w.heap.size w w from ⟨h, Below.refl _ _⟩)
  have hm' : (m : Int) ≤ 16 := by omega
  clear h
  go_enter Tryd.func12, Tryd.ntmps12
  go_wp2
  go_loopw [3, 13] (fun v i wr => ∃ k : Nat, k ≤ m ∧ i = .int .i64 k ∧ v = .int .i64 (cf ts (8 * k)) ∧ Hid (BP B BB m ow ts wr ∧ Below w.heap.size w wr)) (fun _ i _ => m - (intOf i).toNat)
  case atStart => exact ⟨0, by omega, rfl, rfl, HK⟩
  case round =>
    clear HK l1
    obtain ⟨k, hk, rfl, rfl, HV⟩ := hrel
    by_cases hlt : k < m
    · have j1 : (k : Int) < (m : Int) := by omega
      go_upto_region 5 with (first
        | (refine at_brow rfl (.tmp 15) rfl k _ rfl (by omega) hlt HV.out.1.2 ?_; have HZ := hide (pb_zero wr))
        | (refine at_storepb rfl (.tmp 5) (.tmp 16) rfl rfl HZ.out (ow k) (sb ts k) rfl ?_; intro w2 p2 on2; have hb2 := new_below _ on2; replace HV := hide (show BP B BB m ow ts w2 ∧ Below w.heap.size w w2 from ⟨HV.out.1.kept hb2, bt HV.out.2 hb2⟩); replace p2 := hide p2; clear on2 hb2 HZ))
      generalize wr.heap.size = B2 at p2 ⊢
      go_wp2_with (refine at_pbT rfl (.tmp 17) rfl rfl p2.out ?_)
      go_loop [3, 19] (fun v i => ∃ j : Nat, j ≤ 8 ∧ i = .int .i64 j ∧ v = .int .i64 (cf ts (8 * k + j))) (fun _ i => 8 - (intOf i).toNat)
      case atStart => exact ⟨0, by omega, rfl, rfl⟩
      case round =>
        obtain ⟨j, hj, rfl, rfl⟩ := hrel
        by_cases hl8 : j < 8
        · have c1 := fun W => tb_index (sb ts k) j hl8 W
          have j2 : (j : Int) < 8 := by omega
          have hc := Nat.le_trans (cf_le ts (8 * k + j)) (show 8 * k + j ≤ 200 by omega)
          have HS := hide (show cf ts (8 * k + (j + 1)) = cf ts (8 * k + j) + (if sb ts k j = true then 0 else 1) from rfl)
          generalize cf ts (8 * k + j) = c at hc HS ⊢
          cases ht : sb ts k j
          · rw [ht] at HS
            replace c1 : ∀ W, (Instr.index 69 (.agg (tbC (sb ts k))) (.int .i64 j)).run Tryd.prog W = .ok (.bool false) W := by intro W; rw [c1 W, ht]
            clear ht
            go_wp2
            go_round
            case rel => exact ⟨j + 1, by omega, by go_num, by rw [HS.out]; go_num⟩
            case measure => simp [intOf]; omega
          · rw [ht] at HS
            replace c1 : ∀ W, (Instr.index 69 (.agg (tbC (sb ts k))) (.int .i64 j)).run Tryd.prog W = .ok (.bool true) W := by intro W; rw [c1 W, ht]
            clear ht
            go_wp2
            go_round
            case rel => exact ⟨j + 1, by omega, by go_num, by rw [HS.out]; rfl⟩
            case measure => simp [intOf]; omega
        · obtain rfl : j = 8 := by omega
          go_wp2
          go_roundw
          case rel => exact ⟨k + 1, by omega, by go_num, by rw [show 8 * (k + 1) = 8 * k + 8 by omega], HV⟩
          case measure => simp [intOf]; omega
    · obtain rfl : m = k := by omega
      go_wp2
      go_ret
      exact ⟨rfl, HV.out.2⟩
end Go.Proofs.YtchjhmokmpjbdaaDoor
