/- The document's own Decoded4, by contracts. -/
import Derived.Test.YtlaljflcgbbhdaaDoorR4d
namespace Go.Proofs.YtlaljflcgbbhdaaDoor
open Go.RowKit
attribute [local go_sem ↓] Go.wp_at_zero Go.wp_at_succ

theorem word_b (g off len cap : Nat) (zs : List Int) (w : World) (x : Int) (hr : Row8 w (some ⟨g, off, none⟩) len cap zs) (h0 : 0 ≤ x) (h1 : x + 1 < len) :
    Calls Tryd.prog 22 #[.slice (some ⟨g, off, none⟩) len cap, .int .i64 x] w fun e w' => e = .returned (.int .i64 (P4.wd zs x.toNat)) ∧ Below w.heap.size w w' :=
  (word_at g off len cap zs w x hr h0 h1).mono fun e w' ⟨h1, n, h2⟩ => ⟨h1, by rw [h2]; exact (Below.refl _ _).trans ⟨rfl, rfl, rfl, Nat.le_refl _, fun _ _ => rfl⟩⟩
theorem wd_bd (zs : List Int) (ho : SM.Oct zs) (j : Nat) : 0 ≤ P4.wd zs j ∧ P4.wd zs j ≤ 65535 := by
  have := ho j
  have := ho (j + 1)
  unfold P4.wd
  omega

set_option maxHeartbeats 2000000 in
theorem rdecode_len (a : Option Addr) (len cap : Nat) (w : World) (h : len < 20 ∨ 340 < len) (hm : len ≤ maxLen) :
    Calls Tryd.prog 9 #[.slice a len cap] w fun e w' => e = .returned (.tuple #[pk0, .int .i64 5]) ∧ Below w.heap.size w w' := by
  unfold maxLen at hm
  have HB := hide (bx_below w 0 0 0 0 0 none 0 0)
  have HP := hide (pk_new w 0 0 0 0 0 none 0 0)
  unfold bx at HB
  rcases h with h | h
  · go_enter Tryd.func9, Tryd.ntmps9
    go_wp2
    try simp only [Exit.inBlock, Exit.then]
    refine bodyPost_ret (results_cr rfl _ _ w.heap.size 0 0 0 0 0 none 0 0 rfl HP.out) rfl ?_
    exact ⟨rfl, HB.out⟩
  · have h' : ¬ len < 20 := by omega
    go_enter Tryd.func9, Tryd.ntmps9
    go_wp2
    try simp only [Exit.inBlock, Exit.then]
    refine bodyPost_ret (results_cr rfl _ _ w.heap.size 0 0 0 0 0 none 0 0 rfl HP.out) rfl ?_
    exact ⟨rfl, HB.out⟩
set_option maxHeartbeats 4000000 in
theorem rdecode_syn (g off len cap : Nat) (zs : List Int) (w : World) (hr : Row8 w (some ⟨g, off, none⟩) len cap zs) (h20 : 20 ≤ len) (h340 : len ≤ 340) (h : ¬ P4.Syn zs) :
    Calls Tryd.prog 9 #[.slice (some ⟨g, off, none⟩) len cap] w fun e w' => e = .returned (.tuple #[pk0, .int .i64 5]) ∧ Below w.heap.size w w' := by
  have HB := hide (bx_below w 0 0 0 0 0 none 0 0)
  have HP := hide (pk_new w 0 0 0 0 0 none 0 0)
  unfold bx at HB
  have HRow := hide (hr.below HB.out)
  have HW := hide (fun W x h h0 h1 => word_b g off len cap zs W x h h0 h1)
  have hlen := hr.1
  have hno : ¬ (P4.wd zs 0 = 17664 ∧ P4.wd zs 2 = len ∧ P4.wd zs 6 = 16384) := fun ⟨h1, h2, h3⟩ => h ⟨by omega, by omega, h1, by rw [hlen]; exact h2, h3⟩
  clear h hr
  have d1 : decide ((len : Int) < 20) = false := decide_eq_false (by omega)
  have d2 : decide ((340 : Int) < (len : Int)) = false := decide_eq_false (by omega)
  by_cases e0 : P4.wd zs 0 = 17664
  · by_cases e2 : P4.wd zs 2 = len
    · have e6 : ¬ P4.wd zs 6 = 16384 := fun e6 => hno ⟨e0, e2, e6⟩
      have f0 : (P4.wd zs 0 != 17664) = false := by simpa using e0
      have f2 : (P4.wd zs 2 != (len : Int)) = false := by simpa using e2
      have f6 : (P4.wd zs 6 != 16384) = true := by simpa using e6
      clear hno e0 e2 e6
      go_enter Tryd.func9, Tryd.ntmps9
      go_upto_region 2 with (go_at_call 22; refine (HW.out _ _ HRow.out (by omega) (by omega)).mono ?_; rintro e w1 ⟨rfl, hb1⟩; replace HB := hide (bt HB.out hb1); replace HP := hide (HP.out.kept hb1); replace HRow := hide (HRow.out.below hb1); clear hb1)
      obtain ⟨c0, c1, c2, c3, c4, c5⟩ := HP.out.all
      obtain ⟨k0, k1, k2, k3, k4, k5⟩ := HP.out.frz
      go_wp2
      try simp only [Exit.inBlock, Exit.then]
      refine bodyPost_ret (results_cr rfl _ _ w.heap.size 0 0 0 0 0 none 0 0 rfl (put6_pk HP.out 0 0 0 0 0 none 0 0)) rfl ?_
      exact ⟨rfl, put6_below HB.out (Nat.le_refl _) 0 0 0 0 0 none 0 0⟩
    · have f0 : (P4.wd zs 0 != 17664) = false := by simpa using e0
      have f2 : (P4.wd zs 2 != (len : Int)) = true := by simpa using e2
      clear hno e0 e2
      go_enter Tryd.func9, Tryd.ntmps9
      go_upto_region 2 with (go_at_call 22; refine (HW.out _ _ HRow.out (by omega) (by omega)).mono ?_; rintro e w1 ⟨rfl, hb1⟩; replace HB := hide (bt HB.out hb1); replace HP := hide (HP.out.kept hb1); replace HRow := hide (HRow.out.below hb1); clear hb1)
      obtain ⟨c0, c1, c2, c3, c4, c5⟩ := HP.out.all
      obtain ⟨k0, k1, k2, k3, k4, k5⟩ := HP.out.frz
      go_wp2
      try simp only [Exit.inBlock, Exit.then]
      refine bodyPost_ret (results_cr rfl _ _ w.heap.size 0 0 0 0 0 none 0 0 rfl (put6_pk HP.out 0 0 0 0 0 none 0 0)) rfl ?_
      exact ⟨rfl, put6_below HB.out (Nat.le_refl _) 0 0 0 0 0 none 0 0⟩
  · have f0 : (P4.wd zs 0 != 17664) = true := by simpa using e0
    clear hno e0
    go_enter Tryd.func9, Tryd.ntmps9
    go_upto_region 2 with (go_at_call 22; refine (HW.out _ _ HRow.out (by omega) (by omega)).mono ?_; rintro e w1 ⟨rfl, hb1⟩; replace HB := hide (bt HB.out hb1); replace HP := hide (HP.out.kept hb1); replace HRow := hide (HRow.out.below hb1); clear hb1)
    obtain ⟨c0, c1, c2, c3, c4, c5⟩ := HP.out.all
    obtain ⟨k0, k1, k2, k3, k4, k5⟩ := HP.out.frz
    go_wp2
    try simp only [Exit.inBlock, Exit.then]
    refine bodyPost_ret (results_cr rfl _ _ w.heap.size 0 0 0 0 0 none 0 0 rfl (put6_pk HP.out 0 0 0 0 0 none 0 0)) rfl ?_
    exact ⟨rfl, put6_below HB.out (Nat.le_refl _) 0 0 0 0 0 none 0 0⟩
end Go.Proofs.YtlaljflcgbbhdaaDoor
