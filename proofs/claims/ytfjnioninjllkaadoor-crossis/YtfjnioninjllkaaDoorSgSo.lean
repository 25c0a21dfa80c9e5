/- The document's own word and SegOf, by contracts. -/
import Derived.Test.YtfjnioninjllkaaDoorSgRb
namespace Go.Proofs.YtfjnioninjllkaaDoor
open Go.RowKit
attribute [local go_sem ↓] Go.wp_at_zero Go.wp_at_succ
theorem alloc_drewN (w : World) (n : Nat) (o : Obj) : (w.drewN n).alloc o = (w.alloc o).drewN n := rfl
theorem setCell_drewN (w : World) (n : Nat) (a : Addr) (v : Value) : (w.drewN n).setCell a v = (w.setCell a v).drewN n := rfl
attribute [local go_sem] alloc_drewN setCell_drewN

/-- the document's own word at a place. -/
theorem word_at (g off len cap : Nat) (zs : List Int) (w : World) (x : Int) (hr : Row8 w (some ⟨g, off, none⟩) len cap zs) (h0 : 0 ≤ x) (h1 : x + 1 < len) :
    Calls Tryd.prog 65 #[.slice (some ⟨g, off, none⟩) len cap, .int .i64 x] w fun e w' => e = .returned (.int .i64 (P4.wd zs x.toNat)) ∧ ∃ n, w' = w.drewN n := by
  obtain ⟨j, rfl⟩ := Int.eq_ofNat_of_zero_le h0
  obtain ⟨hz, hm, hoct, _, hcs⟩ := hr
  obtain ⟨b, o, e, hcell⟩ := hcs (by omega)
  cases e
  have c0 := hcell j (by omega)
  have c1 := hcell (j + 1) (by omega)
  have b0 := hoct j
  have b1 := hoct (j + 1)
  have HW := hide (show P4.wd zs (Int.toNat (j : Int)) = 256 * zs.getD j 0 + zs.getD (j + 1) 0 from rfl)
  clear hcell hcs hoct
  generalize zs.getD j 0 = y0 at c0 b0 HW
  generalize zs.getD (j + 1) 0 = y1 at c1 b1 HW
  unfold maxLen at hm
  have i0 : (0 : Int) ≤ (j : Int) := by omega
  have i1 : (j : Int) < (len : Int) := by omega
  have i2 : (j : Int) + 1 < (len : Int) := by omega
  have q0 : IntKind.i64.wrap ((j : Int) + 1) = (j : Int) + 1 := by rw [IntKind.wrap_i64]; omega
  have q1 : IntKind.i64.wrap y0 = y0 := by rw [IntKind.wrap_i64]; omega
  have q2 : IntKind.i64.wrap y1 = y1 := by rw [IntKind.wrap_i64]; omega
  have q3 : IntKind.i64.wrap (256 * y0) = 256 * y0 := by rw [IntKind.wrap_i64]; omega
  have q4 : IntKind.i64.wrap (256 * y0 + y1) = 256 * y0 + y1 := by rw [IntKind.wrap_i64]; omega
  clear h0 h1
  go_enter Tryd.func65, Tryd.ntmps65
  go_upto_region 1 with fail
  go_quiet (fail)
  go_wp2
  go_ret
  exact ⟨by rw [HW.out]; rfl, _, rfl⟩
theorem word_b (g off len cap : Nat) (zs : List Int) (w : World) (x : Int) (hr : Row8 w (some ⟨g, off, none⟩) len cap zs) (h0 : 0 ≤ x) (h1 : x + 1 < len) :
    Calls Tryd.prog 65 #[.slice (some ⟨g, off, none⟩) len cap, .int .i64 x] w fun e w' => e = .returned (.int .i64 (P4.wd zs x.toNat)) ∧ Below w.heap.size w w' :=
  (word_at g off len cap zs w x hr h0 h1).mono fun e w' ⟨h1, n, h2⟩ => ⟨h1, by rw [h2]; exact (Below.refl _ _).trans ⟨rfl, rfl, rfl, Nat.le_refl _, fun _ _ => rfl⟩⟩
theorem wd_bd (zs : List Int) (ho : SM.Oct zs) (j : Nat) : 0 ≤ P4.wd zs j ∧ P4.wd zs j ≤ 65535 := by
  have := ho j
  have := ho (j + 1)
  unfold P4.wd
  omega
theorem wd_num (zs : List Int) (j : Nat) : P4.wd zs j = num (zs.drop j) 2 := by rw [num_2]; unfold P4.wd; omega
theorem rdz_wd_udp (zs : List Int) : rdz 17 zs = [17, P4.wd zs 0, P4.wd zs 2, 0, 0, 0, 0] := by
  rw [wd_num, wd_num]; rfl
theorem rdz_wd_tcp (zs : List Int) : rdz 6 zs = [6, P4.wd zs 0, P4.wd zs 2, 65536 * P4.wd zs 4 + P4.wd zs 6, 65536 * P4.wd zs 8 + P4.wd zs 10, zs.getD 13 0, P4.wd zs 14] := by
  have e4 : 65536 * P4.wd zs 4 + P4.wd zs 6 = num (zs.drop 4) 4 := by rw [num_4]; unfold P4.wd; simp only [Nat.reduceAdd]; omega
  have e8 : 65536 * P4.wd zs 8 + P4.wd zs 10 = num (zs.drop 8) 4 := by rw [num_4]; unfold P4.wd; simp only [Nat.reduceAdd]; omega
  have e13 : zs.getD 13 0 = num (zs.drop 13) 1 := (num_1 zs 13).symm
  rw [e4, e8, e13, wd_num, wd_num, wd_num]; rfl
/-- what SegOf has made: the segment in its block, and the block of the answer. -/
def Rq (w : World) (B : Nat) (z : List Int) (a : Option Addr) (n c : Nat) (W : World) : Prop := SgIn B z a n c W ∧ SgIn w.heap.size [] none 0 0 W ∧ w.heap.size ≠ B ∧ w.heap.size ≤ B ∧ Below w.heap.size w W
theorem Rq.kept {w : World} {B : Nat} {z : List Int} {a : Option Addr} {n c : Nat} {W W' : World} (h : Rq w B z a n c W) (hb : Below W.heap.size W W') : Rq w B z a n c W' := ⟨h.1.kept hb, h.2.1.kept hb, h.2.2.1, h.2.2.2.1, bt h.2.2.2.2 hb⟩
theorem Rq.set {w : World} {B : Nat} {z : List Int} {a : Option Addr} {n c : Nat} {W : World} (h : Rq w B z a n c W) (j : Nat) (x : Int) (z' : List Int) (hz : (sgC z a n c).setIfInBounds j (.int .i64 x) = sgC z' a n c) : Rq w B z' a n c (W.setCell ⟨B, j, none⟩ (.int .i64 x)) := by
  have ho := only_setCell W B j _ _ (.int .i64 x) h.1
  have := setCell_heap_same W B j _ _ (.int .i64 x) h.1
  rw [hz] at this
  exact ⟨this, ho.sg h.2.1 h.2.2.1, h.2.2.1, h.2.2.2.1, ho.below h.2.2.2.2 h.2.2.2.1⟩
set_option maxRecDepth 100000 in
set_option maxHeartbeats 4000000 in
theorem rseg_range (k over : Int) (a : Option Addr) (len cap : Nat) (w : World) (h : kn k = false ∨ up 65535 over = false) :
    Calls Tryd.prog 43 #[.int .i64 k, .slice a len cap, .int .i64 over] w fun e w' => e = .returned (.tuple #[sg0, .int .i64 1]) ∧ Below w.heap.size w w' := by
  have HB := hide (al_below w (.cells zero7 49))
  have HP := hide (zero_new w)
  unfold zero7 at HB HP
  generalize ho : up 65535 over = uo at h
  by_cases h6 : k = 6
  case' pos =>
    have k6 : (k != 6) = false := by rw [h6]; rfl
    have n17 : (k != 17) = true := by rw [h6]; rfl
    have hu : uo = false := by rcases h with h | h; (rw [h6] at h; cases h); exact h
    subst hu
  case' neg =>
    have k6 : (k != 6) = true := by simpa using h6
    by_cases h17 : k = 17
    case' pos =>
      have n17 : (k != 17) = false := by rw [h17]; rfl
      have hu : uo = false := by rcases h with h | h; (rw [h17] at h; cases h); exact h
      subst hu
    case' neg => have n17 : (k != 17) = true := by simpa using h17
  all_goals
    clear h
    go_enter Tryd.func43, Tryd.ntmps43
    go_upto_region 1 with fail
    generalize w.alloc _ = W at HB HP ⊢
    go_wp2_with (first
      | (go_at_call 54; refine (word_any _ _).mono ?_; rintro e w' ⟨rfl, rfl⟩)
      | (refine at_store rfl (.tmp 6) (.tmp 24) rfl rfl HP.out [] none 0 0 rfl ?_; intro w5 p5 on5; replace HB := hide (on5.below HB.out (Nat.le_refl _)); replace p5 := hide p5; clear on5))
    try simp only [Exit.inBlock, Exit.then]
    refine bodyPost_ret (results_sg rfl _ _ w.heap.size [] none 0 0 rfl p5.out) rfl ?_
    exact ⟨rfl, HB.out⟩
set_option maxRecDepth 100000 in
set_option maxHeartbeats 4000000 in
theorem rseg_len (k over : Int) (a : Option Addr) (len cap : Nat) (w : World) (hk : kn k = true) (ho : up 65535 over = true) (h : len < hn k ∨ hn k + 300 < len) (_hm : len ≤ maxLen) :
    Calls Tryd.prog 43 #[.int .i64 k, .slice a len cap, .int .i64 over] w fun e w' => e = .returned (.tuple #[sg0, .int .i64 5]) ∧ Below w.heap.size w w' := by
  unfold maxLen at _hm
  have HB := hide (al_below w (.cells zero7 49))
  have HP := hide (zero_new w)
  unfold zero7 at HB HP
  rcases (kn_iff k).1 hk with rfl | rfl
  · have h' : len < 20 ∨ 320 < len := h
    clear h hk
    rcases h' with h | h
    case' inr => have h' : ¬ len < 20 := by omega
    all_goals
      go_enter Tryd.func43, Tryd.ntmps43
      go_upto_region 1 with fail
      generalize w.alloc _ = W at HB HP ⊢
      go_wp2_with (first
        | (go_at_call 54; refine (word_any _ _).mono ?_; rintro e w' ⟨rfl, rfl⟩)
        | (refine at_store rfl (.tmp 6) (.tmp 38) rfl rfl HP.out [] none 0 0 rfl ?_; intro w5 p5 on5; replace HB := hide (on5.below HB.out (Nat.le_refl _)); replace p5 := hide p5; clear on5))
      try simp only [Exit.inBlock, Exit.then]
      refine bodyPost_ret (results_sg rfl _ _ w.heap.size [] none 0 0 rfl p5.out) rfl ?_
      exact ⟨rfl, HB.out⟩
  · have h' : len < 8 ∨ 308 < len := h
    clear h hk
    rcases h' with h | h
    case' inr => have h' : ¬ len < 8 := by omega
    all_goals
      go_enter Tryd.func43, Tryd.ntmps43
      go_upto_region 1 with fail
      generalize w.alloc _ = W at HB HP ⊢
      go_wp2_with (first
        | (go_at_call 54; refine (word_any _ _).mono ?_; rintro e w' ⟨rfl, rfl⟩)
        | (refine at_store rfl (.tmp 6) (.tmp 38) rfl rfl HP.out [] none 0 0 rfl ?_; intro w5 p5 on5; replace HB := hide (on5.below HB.out (Nat.le_refl _)); replace p5 := hide p5; clear on5))
      try simp only [Exit.inBlock, Exit.then]
      refine bodyPost_ret (results_sg rfl _ _ w.heap.size [] none 0 0 rfl p5.out) rfl ?_
      exact ⟨rfl, HB.out⟩
end Go.Proofs.YtfjnioninjllkaaDoor
