/- The document's own word and Decoded6, by contracts. -/
import Derived.Test.YtkgiocofmhnfhaaDoorR6b
namespace Go.Proofs.YtkgiocofmhnfhaaDoor
open Go.RowKit
attribute [local go_sem ↓] Go.wp_at_zero Go.wp_at_succ

/-- the document's own word at a place. -/
theorem word_at (g off len cap : Nat) (zs : List Int) (w : World) (x : Int) (hr : Row8 w (some ⟨g, off, none⟩) len cap zs) (h0 : 0 ≤ x) (h1 : x + 1 < len) :
    Calls Tryd.prog 22 #[.slice (some ⟨g, off, none⟩) len cap, .int .i64 x] w fun e w' => e = .returned (.int .i64 (P4.wd zs x.toNat)) ∧ ∃ n, w' = w.drewN n := by
  obtain ⟨j, rfl⟩ := Int.eq_ofNat_of_zero_le h0
  obtain ⟨hz, hm, hoct, _, hcs⟩ := hr
  obtain ⟨b, o, e, hcell⟩ := hcs (by omega)
  cases e
  have c0 := hcell j (by omega)
  have c1 := hcell (j + 1) (by omega)
  have b0 := hoct j
  have b1 := hoct (j + 1)
  have HW := hide (show P4.wd zs (Int.toNat (j : Int)) = 256 * zs.getD j 0 + zs.getD (j + 1) 0 from rfl)
  clear hcell hcs hoct
  generalize zs.getD j 0 = y0 at c0 b0 HW
  generalize zs.getD (j + 1) 0 = y1 at c1 b1 HW
  unfold maxLen at hm
  have i0 : (0 : Int) ≤ (j : Int) := by omega
  have i1 : (j : Int) < (len : Int) := by omega
  have i2 : (j : Int) + 1 < (len : Int) := by omega
  have q0 : IntKind.i64.wrap ((j : Int) + 1) = (j : Int) + 1 := by rw [IntKind.wrap_i64]; omega
  have q1 : IntKind.i64.wrap y0 = y0 := by rw [IntKind.wrap_i64]; omega
  have q2 : IntKind.i64.wrap y1 = y1 := by rw [IntKind.wrap_i64]; omega
  have q3 : IntKind.i64.wrap (256 * y0) = 256 * y0 := by rw [IntKind.wrap_i64]; omega
  have q4 : IntKind.i64.wrap (256 * y0 + y1) = 256 * y0 + y1 := by rw [IntKind.wrap_i64]; omega
  clear h0 h1
  go_enter Tryd.func22, Tryd.ntmps22
  go_upto_region 1 with fail
  go_quiet (fail)
  go_wp2
  go_ret
  exact ⟨by rw [HW.out]; rfl, _, rfl⟩
theorem word_b (g off len cap : Nat) (zs : List Int) (w : World) (x : Int) (hr : Row8 w (some ⟨g, off, none⟩) len cap zs) (h0 : 0 ≤ x) (h1 : x + 1 < len) :
    Calls Tryd.prog 22 #[.slice (some ⟨g, off, none⟩) len cap, .int .i64 x] w fun e w' => e = .returned (.int .i64 (P4.wd zs x.toNat)) ∧ Below w.heap.size w w' :=
  (word_at g off len cap zs w x hr h0 h1).mono fun e w' ⟨h1, n, h2⟩ => ⟨h1, by rw [h2]; exact (Below.refl _ _).trans ⟨rfl, rfl, rfl, Nat.le_refl _, fun _ _ => rfl⟩⟩
theorem wd_bd (zs : List Int) (ho : SM.Oct zs) (j : Nat) : 0 ≤ P4.wd zs j ∧ P4.wd zs j ≤ 65535 := by
  have := ho j
  have := ho (j + 1)
  unfold P4.wd
  omega

set_option maxRecDepth 100000 in
set_option maxHeartbeats 4000000 in
theorem rdecode_len (a : Option Addr) (len cap : Nat) (w : World) (h : len < 40 ∨ 360 < len) (hm : len ≤ maxLen) :
    Calls Tryd.prog 10 #[.slice a len cap] w fun e w' => e = .returned (.tuple #[pk0, .int .i64 5]) ∧ Below w.heap.size w w' := by
  unfold maxLen at hm
  have HB := hide (al_below w (.cells zero6 26))
  have HP := hide (zero_new w)
  unfold zero6 at HB HP
  rcases h with h | h
  · go_enter Tryd.func10, Tryd.ntmps10
    go_upto_region 1 with fail
    generalize w.alloc _ = W at HB HP ⊢
    go_wp2_with (first | (refine at_store rfl (.tmp 2) (.tmp 30) rfl rfl HP.out [] [] 0 0 none 0 0 rfl ?_; intro w5 p5 on5; replace HB := hide (on5.below HB.out (Nat.le_refl _)); replace p5 := hide p5; clear on5))
    try simp only [Exit.inBlock, Exit.then]
    refine bodyPost_ret (results_pk rfl _ _ w.heap.size [] [] 0 0 none 0 0 rfl p5.out) rfl ?_
    exact ⟨rfl, HB.out⟩
  · have h' : ¬ len < 40 := by omega
    go_enter Tryd.func10, Tryd.ntmps10
    go_upto_region 1 with fail
    generalize w.alloc _ = W at HB HP ⊢
    go_wp2_with (first | (refine at_store rfl (.tmp 2) (.tmp 30) rfl rfl HP.out [] [] 0 0 none 0 0 rfl ?_; intro w5 p5 on5; replace HB := hide (on5.below HB.out (Nat.le_refl _)); replace p5 := hide p5; clear on5))
    try simp only [Exit.inBlock, Exit.then]
    refine bodyPost_ret (results_pk rfl _ _ w.heap.size [] [] 0 0 none 0 0 rfl p5.out) rfl ?_
    exact ⟨rfl, HB.out⟩
set_option maxRecDepth 100000 in
set_option maxHeartbeats 4000000 in
theorem rdecode_bad (g off len cap : Nat) (zs : List Int) (w : World) (hr : Row8 w (some ⟨g, off, none⟩) len cap zs) (h40 : 40 ≤ len) (h360 : len ≤ 360) (h : ¬ Good zs) :
    Calls Tryd.prog 10 #[.slice (some ⟨g, off, none⟩) len cap] w fun e w' => e = .returned (.tuple #[pk0, .int .i64 5]) ∧ Below w.heap.size w w' := by
  have HB := hide (al_below w (.cells zero6 26))
  have HP := hide (zero_new w)
  have HRow := hide (hr.below HB.out)
  unfold zero6 at HB HP HRow
  have HW := hide (fun W x h h0 h1 => word_b g off len cap zs W x h h0 h1)
  have hlen := hr.1
  have hno : ¬ (P4.wd zs 0 = 24576 ∧ P4.wd zs 2 = 0 ∧ P4.wd zs 4 = (len : Int) - 40) := fun ⟨h1, h2, h3⟩ => h ⟨by omega, by omega, h1, h2, by rw [hlen]; exact h3⟩
  clear h hr
  have d1 : decide ((len : Int) < 40) = false := decide_eq_false (by omega)
  have d2 : decide ((360 : Int) < (len : Int)) = false := decide_eq_false (by omega)
  have q4 : IntKind.i64.wrap ((len : Int) - 40) = (len : Int) - 40 := by rw [IntKind.wrap_i64]; omega
  by_cases e0 : P4.wd zs 0 = 24576
  · have f0 : (P4.wd zs 0 != 24576) = false := by simpa using e0
    by_cases e2 : P4.wd zs 2 = 0
    · have f2 : (P4.wd zs 2 != 0) = false := by simpa using e2
      have e4 : ¬ P4.wd zs 4 = (len : Int) - 40 := fun e4 => hno ⟨e0, e2, e4⟩
      have f4 : (P4.wd zs 4 != (len : Int) - 40) = true := by simpa using e4
      clear hno e0 e2 e4
      go_enter Tryd.func10, Tryd.ntmps10
      go_upto_region 1 with fail
      generalize w.alloc _ = W at HB HP HRow ⊢
      go_upto_region 2 with (go_at_call 22; refine (HW.out _ _ HRow.out (by omega) (by omega)).mono ?_; rintro e w1 ⟨rfl, hb1⟩; replace HB := hide (bt HB.out hb1); replace HP := hide (HP.out.kept hb1); replace HRow := hide (HRow.out.below hb1); clear hb1)
      go_wp2_with (first | (refine at_store rfl (.tmp 2) (.tmp 30) rfl rfl HP.out [] [] 0 0 none 0 0 rfl ?_; intro w5 p5 on5; replace HB := hide (on5.below HB.out (Nat.le_refl _)); replace p5 := hide p5; clear on5))
      try simp only [Exit.inBlock, Exit.then]
      refine bodyPost_ret (results_pk rfl _ _ w.heap.size [] [] 0 0 none 0 0 rfl p5.out) rfl ?_
      exact ⟨rfl, HB.out⟩
    · have f2 : (P4.wd zs 2 != 0) = true := by simpa using e2
      clear hno e0 e2
      go_enter Tryd.func10, Tryd.ntmps10
      go_upto_region 1 with fail
      generalize w.alloc _ = W at HB HP HRow ⊢
      go_upto_region 2 with (go_at_call 22; refine (HW.out _ _ HRow.out (by omega) (by omega)).mono ?_; rintro e w1 ⟨rfl, hb1⟩; replace HB := hide (bt HB.out hb1); replace HP := hide (HP.out.kept hb1); replace HRow := hide (HRow.out.below hb1); clear hb1)
      go_wp2_with (first | (refine at_store rfl (.tmp 2) (.tmp 30) rfl rfl HP.out [] [] 0 0 none 0 0 rfl ?_; intro w5 p5 on5; replace HB := hide (on5.below HB.out (Nat.le_refl _)); replace p5 := hide p5; clear on5))
      try simp only [Exit.inBlock, Exit.then]
      refine bodyPost_ret (results_pk rfl _ _ w.heap.size [] [] 0 0 none 0 0 rfl p5.out) rfl ?_
      exact ⟨rfl, HB.out⟩
  · have f0 : (P4.wd zs 0 != 24576) = true := by simpa using e0
    clear hno e0
    go_enter Tryd.func10, Tryd.ntmps10
    go_upto_region 1 with fail
    generalize w.alloc _ = W at HB HP HRow ⊢
    go_upto_region 2 with (go_at_call 22; refine (HW.out _ _ HRow.out (by omega) (by omega)).mono ?_; rintro e w1 ⟨rfl, hb1⟩; replace HB := hide (bt HB.out hb1); replace HP := hide (HP.out.kept hb1); replace HRow := hide (HRow.out.below hb1); clear hb1)
    go_wp2_with (first | (refine at_store rfl (.tmp 2) (.tmp 30) rfl rfl HP.out [] [] 0 0 none 0 0 rfl ?_; intro w5 p5 on5; replace HB := hide (on5.below HB.out (Nat.le_refl _)); replace p5 := hide p5; clear on5))
    try simp only [Exit.inBlock, Exit.then]
    refine bodyPost_ret (results_pk rfl _ _ w.heap.size [] [] 0 0 none 0 0 rfl p5.out) rfl ?_
    exact ⟨rfl, HB.out⟩
attribute [local go_sem ↓] hstore_shut
set_option maxRecDepth 100000 in
set_option maxHeartbeats 4000000 in
theorem rdecode_good (g off len cap : Nat) (zs : List Int) (w : World) (hr : Row8 w (some ⟨g, off, none⟩) len cap zs) (hcl : len ≤ cap) (hcm : cap ≤ maxLen) (h : Good zs) :
    Calls Tryd.prog 10 #[.slice (some ⟨g, off, none⟩) len cap] w fun e w' => ∃ a' c', e = .returned (.tuple #[pk (adr zs 8) (adr zs 24) (zs.getD 7 0) (zs.getD 6 0) a' (len - 40) c', .int .i64 0]) ∧ Row8 w' a' (len - 40) c' (zs.drop 40) ∧ Below w.heap.size w w' := by
  have hlen := hr.1
  obtain ⟨h40, h360, e0, e2, e4⟩ := h
  rw [hlen] at h40 h360 e4
  unfold maxLen at hcm
  have d1 : decide ((len : Int) < 40) = false := decide_eq_false (by omega)
  have d2 : decide ((360 : Int) < (len : Int)) = false := decide_eq_false (by omega)
  have q4 : IntKind.i64.wrap ((len : Int) - 40) = (len : Int) - 40 := by rw [IntKind.wrap_i64]; omega
  have f0 : (P4.wd zs 0 != 24576) = false := by simpa using e0
  have f2 : (P4.wd zs 2 != 0) = false := by simpa using e2
  have f4 : (P4.wd zs 4 != (len : Int) - 40) = false := by simpa using e4
  clear e0 e2 e4
  have hcl' : (len : Int) ≤ (cap : Int) := by omega
  have h40' : (40 : Int) ≤ (len : Int) := by omega
  have h6' : (6 : Int) < (len : Int) := by omega
  have h7' : (7 : Int) < (len : Int) := by omega
  have h24' : (24 : Int) ≤ (cap : Int) := by omega
  have h40c : (40 : Int) ≤ (cap : Int) := by omega
  have hn8 : cap ≠ 8 := by omega
  have hn24 : cap ≠ 24 := by omega
  have HB := hide (al_below w (.cells zero6 26))
  have HP := hide (zero_new w)
  have HRow := hide (hr.below HB.out)
  unfold zero6 at HB HP HRow
  have HW := hide (fun W x h h0 h1 => word_b g off len cap zs W x h h0 h1)
  have hge : g ≠ w.heap.size := fun e => by
    have := World.block_lt_of_cell? w _ (hr.at_ 0 (by omega))
    rw [e] at this
    exact absurd this (Nat.lt_irrefl _)
  have HK := hide (fun W (h : Row8 W (some ⟨g, off, none⟩) len cap zs) => show W.cell? ⟨g, off + 6, none⟩ = some (.int .u8 (zs.getD 6 0)) ∧ W.cell? ⟨g, off + 7, none⟩ = some (.int .u8 (zs.getD 7 0)) from ⟨h.at_ 6 (by omega), h.at_ 7 (by omega)⟩)
  have hw6 := hr.2.2.1 6
  have hw7 := hr.2.2.1 7
  have hpart := fun W (h : Row8 W (some ⟨g, off, none⟩) len cap zs) => (h.part 40 len h40 (Nat.le_refl _) (if cap = 40 then some ⟨g, off, none⟩ else some ⟨g, off + 40, none⟩) (cap - 40) (fun b o hlt e => by cases e; rw [if_neg (by omega)]) (fun e => by split at e <;> cases e)).congr (show (zs.drop 40).take (len - 40) = zs.drop 40 from List.take_of_length_le (by rw [List.length_drop, hr.1]; exact Nat.le_refl _))
  obtain ⟨ao, hao⟩ : ∃ ao, (if cap = 40 then some (⟨g, off, none⟩ : Addr) else some ⟨g, off + 40, none⟩) = ao := ⟨_, rfl⟩
  rw [hao] at hpart
  have HPart := hide hpart
  clear hpart hr
  have HS := hide (fun W c (h : Row8 W (some ⟨g, off, none⟩) len cap zs) => rsixat_at g off len cap zs W 8 c h (by omega))
  have HD := hide (fun W c (h : Row8 W (some ⟨g, off, none⟩) len cap zs) => rsixat_at g off len cap zs W 24 c h (by omega))
  unfold sixC at HS HD
  generalize adr zs 8 = S at HS ⊢
  generalize adr zs 24 = D at HD ⊢
  generalize zs.getD 6 0 = z6 at hw6 HK ⊢
  generalize zs.getD 7 0 = z7 at hw7 HK ⊢
  have hz6 : IntKind.i64.wrap z6 = z6 := by rw [IntKind.wrap_i64]; omega
  have hz7 : IntKind.i64.wrap z7 = z7 := by rw [IntKind.wrap_i64]; omega
  go_enter Tryd.func10, Tryd.ntmps10
  go_upto_region 1 with fail
  generalize w.alloc _ = W at HB HP HRow ⊢
  go_upto_region 3 with (go_at_call 22; refine (HW.out _ _ HRow.out (by omega) (by omega)).mono ?_; rintro e w1 ⟨rfl, hb1⟩; replace HB := hide (bt HB.out hb1); replace HP := hide (HP.out.kept hb1); replace HRow := hide (HRow.out.below hb1); clear hb1)
  clear f0 f2 f4 q4 d1 d2 HW
  have hd : Below w1.heap.size w1 w1.drew := (Below.refl _ _).drew
  replace HB := hide (bt HB.out hd)
  replace HP := hide (HP.out.kept hd)
  replace HRow := hide (HRow.out.below hd)
  clear hd
  go_region_held3 (fun w' => w'.cell? ⟨g, off + 6, none⟩ = some (.int .u8 z6) ∧ w'.cell? ⟨g, off + 7, none⟩ = some (.int .u8 z7))
    (first
      | exact HK.out _ HRow.out
      | exact HK.out _ HR6.out
      | go_keep)
    (first
      | (go_at_call 23; with_reducible refine (HS.out _ _ HRow.out).mono ?_; rintro e w2 ⟨rfl, hb2⟩; replace HP := hide (HP.out.kept hb2); replace HB := hide (bt HB.out hb2); replace HRow := hide (HRow.out.below hb2); clear hb2)
      | (go_at_call 23; with_reducible refine (HD.out _ _ HRow.out).mono ?_; rintro e w3 ⟨rfl, hb3⟩; replace HP := hide (HP.out.kept hb3); replace HB := hide (bt HB.out hb3); replace HRow := hide (HRow.out.below hb3); clear hb3; obtain ⟨w6, hst, p6, on6⟩ := HP.out.held S D z7 z6 ao (len - 40) (cap - 40); unfold pkC at hst; replace p6 := hide p6; have HR6 := hide (on6.row HRow.out hge); replace on6 := hide on6))
  have HB1 := hide (on6.out.below HB.out (Nat.le_refl _))
  go_wp2
  try simp only [Exit.inBlock, Exit.then]
  refine bodyPost_ret (results_pk rfl _ _ w.heap.size S D z7 z6 ao (len - 40) (cap - 40) rfl p6.out) rfl ?_
  exact ⟨ao, _, rfl, HPart.out _ HR6.out, HB1.out⟩
end Go.Proofs.YtkgiocofmhnfhaaDoor
