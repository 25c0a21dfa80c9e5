/- The document's own Crossed4, by contracts. -/
import Derived.Test.YtfjnioninjllkaaDoorXSegs
import Derived.Test.YtfjnioninjllkaaDoorXTo4
import Derived.Test.YtfjnioninjllkaaDoorJFault
namespace Go.Proofs.YtfjnioninjllkaaDoor
open Go.RowKit

set_option maxRecDepth 100000 in
set_option maxHeartbeats 2000000 in
theorem crossed4_chk (s d : List Int) (h k : Int) (a : Option Addr) (len cap : Nat) (src dst : Int) (w : World) (j : Int) (hj : (j != 0) = true) (hC : ∀ W, Calls Tryd.prog 16 #[V6.pk s d h k a len cap] W fun e w' => e = .returned (.int .i64 j) ∧ Below W.heap.size W w') :
    Calls Tryd.prog 5 #[V6.pk s d h k a len cap, .int .i64 src, .int .i64 dst] w fun e w' => e = .returned (.tuple #[V4.pk0, .int .i64 j]) ∧ Below w.heap.size w w' := by
  have HV := hide (T4.start w s d h k a len cap)
  unfold V4.zero4 at HV
  replace hC := hide hC
  unfold V6.pk at hC ⊢
  go_enter Tryd.func5, Tryd.ntmps5
  go_upto_region 1 with fail
  generalize (World.alloc _ _).alloc _ = W0 at HV ⊢
  go_upto_region 2 with (first
    | (refine V6.at_load rfl (.tmp 3) rfl rfl HV.out.1 ?_)
    | (go_at_call 16; refine (hC.out _).mono ?_; rintro e w1 ⟨rfl, hb1⟩; replace HV := hide (HV.out.kept hb1); clear hb1))
  go_wp2_with (refine V4.at_store rfl (.tmp 6) (.tmp 16) rfl rfl HV.out.2.1 0 0 0 0 0 none 0 0 rfl ?_; intro w5 p5 on5; have HB := hide (HV.out.put on5); replace p5 := hide p5; clear on5 HV)
  try simp only [Exit.inBlock, Exit.then]
  refine bodyPost_ret (V4.results_cr rfl _ _ (w.heap.size + 1) 0 0 0 0 0 none 0 0 rfl p5.out) rfl ?_
  exact ⟨rfl, HB.out⟩
set_option maxRecDepth 100000 in
set_option maxHeartbeats 2000000 in
theorem crossed4_four (s d : List Int) (h k : Int) (a : Option Addr) (len cap : Nat) (src dst : Int) (w : World) (ho : V6.Okp s d h k) (hl : len ≤ 320) (hf : ¬ (up 4294967295 src = true ∧ up 4294967295 dst = true)) :
    Calls Tryd.prog 5 #[V6.pk s d h k a len cap, .int .i64 src, .int .i64 dst] w fun e w' => e = .returned (.tuple #[V4.pk0, .int .i64 1]) ∧ Below w.heap.size w w' := by
  have HV := hide (T4.start w s d h k a len cap)
  unfold V4.zero4 at HV
  have hC := hide (fun W => V6.rfault_ok s d h k a len cap W ho hl)
  unfold V6.pk at hC ⊢
  clear ho
  cases e1 : up 4294967295 src
  case' false => clear hf
  case' true =>
    have e2 : up 4294967295 dst = false := by
      cases e2 : up 4294967295 dst
      · rfl
      · exact absurd ⟨e1, e2⟩ hf
    clear hf
  all_goals
    go_enter Tryd.func5, Tryd.ntmps5
    go_upto_region 1 with fail
    generalize (World.alloc _ _).alloc _ = W0 at HV ⊢
    go_upto_region 2 with (first
      | (refine V6.at_load rfl (.tmp 3) rfl rfl HV.out.1 ?_)
      | (go_at_call 16; refine (hC.out _).mono ?_; rintro e w1 ⟨rfl, hb1⟩; replace HV := hide (HV.out.kept hb1); clear hb1))
    go_upto_region 6 with (go_at_call 17; refine (isfour_any _ _).mono ?_; rintro e w' ⟨rfl, rfl⟩)
    go_wp2_with (refine V4.at_store rfl (.tmp 6) (.tmp 28) rfl rfl HV.out.2.1 0 0 0 0 0 none 0 0 rfl ?_; intro w5 p5 on5; have HB := hide (HV.out.put on5); replace p5 := hide p5; clear on5 HV)
    try simp only [Exit.inBlock, Exit.then]
    refine bodyPost_ret (V4.results_cr rfl _ _ (w.heap.size + 1) 0 0 0 0 0 none 0 0 rfl p5.out) rfl ?_
    exact ⟨rfl, HB.out⟩
set_option maxRecDepth 100000 in
set_option maxHeartbeats 2000000 in
theorem crossed4_seg (s d : List Int) (h k : Int) (a : Option Addr) (len cap : Nat) (src dst : Int) (w : World) (ho : V6.Okp s d h k) (hl : len ≤ 320) (h1 : up 4294967295 src = true) (h2 : up 4294967295 dst = true) (z D : List Int) (E : Int) (hE : (E == 0) = false)
    (hS : ∀ W, Below w.heap.size w W → Calls Tryd.prog 18 #[V6.pk s d h k a len cap] W fun r W' => ∃ a1 l1 c1, r = .returned (.tuple #[.agg (sgC z a1 l1 c1), .int .i64 E]) ∧ Row8 W' a1 l1 c1 D ∧ Below W.heap.size W W') :
    Calls Tryd.prog 5 #[V6.pk s d h k a len cap, .int .i64 src, .int .i64 dst] w fun e w' => e = .returned (.tuple #[V4.pk0, .int .i64 E]) ∧ Below w.heap.size w w' := by
  have HV := hide (T4.start w s d h k a len cap)
  unfold V4.zero4 at HV
  have hC := hide (fun W => V6.rfault_ok s d h k a len cap W ho hl)
  have HZ := hide zero_new
  unfold zero7 at HZ
  replace hS := hide hS
  have hE' : (E != 0) = true := by simpa using hE
  unfold V6.pk at hC hS ⊢
  clear ho
  go_enter Tryd.func5, Tryd.ntmps5
  go_upto_region 1 with fail
  generalize (World.alloc _ _).alloc _ = W0 at HV ⊢
  go_upto_region 2 with (first
    | (refine V6.at_load rfl (.tmp 3) rfl rfl HV.out.1 ?_)
    | (go_at_call 16; refine (hC.out _).mono ?_; rintro e w1 ⟨rfl, hb1⟩; replace HV := hide (HV.out.kept hb1); clear hb1))
  go_upto_region 6 with (go_at_call 17; refine (isfour_any _ _).mono ?_; rintro e w' ⟨rfl, rfl⟩)
  go_upto_region 9 with (first
    | (refine V6.at_load rfl (.tmp 3) rfl rfl HV.out.1 ?_)
    | (go_at_call 18; refine (hS.out _ HV.out.2.2).mono ?_; rintro e w2 ⟨a2, n2, c2, rfl, hr2, hb2⟩; replace HV := hide (HV.out.kept hb2); replace hr2 := hide hr2; clear hb2)
    | (refine at_store rfl (.tmp 11) (.tmp 32) rfl rfl (HZ.out w2) z a2 n2 c2 rfl ?_; intro w3 p3 on3; have hb3 := hide (new_below _ on3); replace HV := hide (HV.out.kept hb3.out); replace hr2 := hide (hr2.out.below hb3.out); replace p3 := hide p3; clear on3 hb3))
  generalize w2.heap.size = B3 at p3 ⊢
  go_wp2_with (refine V4.at_store rfl (.tmp 6) (.tmp 43) rfl rfl HV.out.2.1 0 0 0 0 0 none 0 0 rfl ?_; intro w5 p5 on5; have HB := hide (HV.out.put on5); replace p5 := hide p5; clear on5 HV)
  try simp only [Exit.inBlock, Exit.then]
  refine bodyPost_ret (V4.results_cr rfl _ _ (w.heap.size + 1) 0 0 0 0 0 none 0 0 rfl p5.out) rfl ?_
  exact ⟨rfl, HB.out⟩
set_option maxRecDepth 100000 in
set_option maxHeartbeats 2000000 in
theorem crossed4_dead (s d : List Int) (h k : Int) (a : Option Addr) (len cap : Nat) (src dst : Int) (w : World) (ho : V6.Okp s d h k) (hl : len ≤ 320) (h1 : up 4294967295 src = true) (h2 : up 4294967295 dst = true) (z D : List Int) (hd : h < 2)
    (hS : ∀ W, Below w.heap.size w W → Calls Tryd.prog 18 #[V6.pk s d h k a len cap] W fun r W' => ∃ a1 l1 c1, r = .returned (.tuple #[.agg (sgC z a1 l1 c1), .int .i64 0]) ∧ Row8 W' a1 l1 c1 D ∧ Below W.heap.size W W') :
    Calls Tryd.prog 5 #[V6.pk s d h k a len cap, .int .i64 src, .int .i64 dst] w fun e w' => e = .returned (.tuple #[V4.pk0, .int .i64 7]) ∧ Below w.heap.size w w' := by
  have HV := hide (T4.start w s d h k a len cap)
  unfold V4.zero4 at HV
  have hC := hide (fun W => V6.rfault_ok s d h k a len cap W ho hl)
  have HZ := hide zero_new
  unfold zero7 at HZ
  replace hS := hide hS
  unfold V6.pk at hC hS ⊢
  clear ho
  go_enter Tryd.func5, Tryd.ntmps5
  go_upto_region 1 with fail
  generalize (World.alloc _ _).alloc _ = W0 at HV ⊢
  go_upto_region 2 with (first
    | (refine V6.at_load rfl (.tmp 3) rfl rfl HV.out.1 ?_)
    | (go_at_call 16; refine (hC.out _).mono ?_; rintro e w1 ⟨rfl, hb1⟩; replace HV := hide (HV.out.kept hb1); clear hb1))
  go_upto_region 6 with (go_at_call 17; refine (isfour_any _ _).mono ?_; rintro e w' ⟨rfl, rfl⟩)
  go_upto_region 9 with (first
    | (refine V6.at_load rfl (.tmp 3) rfl rfl HV.out.1 ?_)
    | (go_at_call 18; refine (hS.out _ HV.out.2.2).mono ?_; rintro e w2 ⟨a2, n2, c2, rfl, hr2, hb2⟩; replace HV := hide (HV.out.kept hb2); replace hr2 := hide hr2; clear hb2)
    | (refine at_store rfl (.tmp 11) (.tmp 32) rfl rfl (HZ.out w2) z a2 n2 c2 rfl ?_; intro w3 p3 on3; have hb3 := hide (new_below _ on3); replace HV := hide (HV.out.kept hb3.out); replace hr2 := hide (hr2.out.below hb3.out); replace p3 := hide p3; clear on3 hb3))
  generalize w2.heap.size = B3 at p3 ⊢
  have l3 := HV.out.1.hop
  go_wp2_with (refine V4.at_store rfl (.tmp 6) (.tmp 43) rfl rfl HV.out.2.1 0 0 0 0 0 none 0 0 rfl ?_; intro w5 p5 on5; have HB := hide (HV.out.put on5); replace p5 := hide p5; clear on5 HV)
  try simp only [Exit.inBlock, Exit.then]
  refine bodyPost_ret (V4.results_cr rfl _ _ (w.heap.size + 1) 0 0 0 0 0 none 0 0 rfl p5.out) rfl ?_
  exact ⟨rfl, HB.out⟩
set_option maxRecDepth 100000 in
set_option maxHeartbeats 2000000 in
theorem crossed4_ok (s d : List Int) (h k : Int) (a : Option Addr) (len cap : Nat) (src dst : Int) (w : World) (ho : V6.Okp s d h k) (hl : len ≤ 320) (h1 : up 4294967295 src = true) (h2 : up 4294967295 dst = true) (z D : List Int) (hd : 2 ≤ h) (hz : Okg z D.length) (hk : el z 0 = k) (hn' : hn k + D.length = len)
    (hS : ∀ W, Below w.heap.size w W → Calls Tryd.prog 18 #[V6.pk s d h k a len cap] W fun r W' => ∃ a1 l1 c1, r = .returned (.tuple #[.agg (sgC z a1 l1 c1), .int .i64 0]) ∧ Row8 W' a1 l1 c1 D ∧ Below W.heap.size W W') :
    Calls Tryd.prog 5 #[V6.pk s d h k a len cap, .int .i64 src, .int .i64 dst] w fun e w' => ∃ a1 c1, e = .returned (.tuple #[V4.pk src dst (h - 1) k 0 a1 len c1, .int .i64 0]) ∧ Row8 w' a1 len c1 (eb z (o4 src dst k len) D) ∧ Below w.heap.size w w' := by
  have HV := hide (T4.start w s d h k a len cap)
  unfold V4.zero4 at HV
  have hC := hide (fun W => V6.rfault_ok s d h k a len cap W ho hl)
  have HZ := hide zero_new
  unfold zero7 at HZ
  replace hS := hide hS
  have hh2 : h ≤ 255 := ho.2.2.1.2
  have HP := hide (fun W a2 n2 c2 (r2 : Row8 W a2 n2 c2 D) => packed4_any z a2 n2 c2 D src dst (h - 1) W (by rw [← r2.1]; exact hz) r2 h1 h2 len (by rw [hk, ← r2.1]; exact hn') hl)
  rw [hk] at HP
  generalize eb z (o4 src dst k len) D = E at HP ⊢
  unfold V6.pk at hC hS ⊢
  unfold V4.pk at HP
  clear ho hz hk hn'
  go_enter Tryd.func5, Tryd.ntmps5
  go_upto_region 1 with fail
  generalize (World.alloc _ _).alloc _ = W0 at HV ⊢
  go_upto_region 2 with (first
    | (refine V6.at_load rfl (.tmp 3) rfl rfl HV.out.1 ?_)
    | (go_at_call 16; refine (hC.out _).mono ?_; rintro e w1 ⟨rfl, hb1⟩; replace HV := hide (HV.out.kept hb1); clear hb1))
  go_upto_region 6 with (go_at_call 17; refine (isfour_any _ _).mono ?_; rintro e w' ⟨rfl, rfl⟩)
  go_upto_region 9 with (first
    | (refine V6.at_load rfl (.tmp 3) rfl rfl HV.out.1 ?_)
    | (go_at_call 18; refine (hS.out _ HV.out.2.2).mono ?_; rintro e w2 ⟨a2, n2, c2, rfl, hr2, hb2⟩; replace HV := hide (HV.out.kept hb2); replace hr2 := hide hr2; clear hb2)
    | (refine at_store rfl (.tmp 11) (.tmp 32) rfl rfl (HZ.out w2) z a2 n2 c2 rfl ?_; intro w3 p3 on3; have hb3 := hide (new_below _ on3); replace HV := hide (HV.out.kept hb3.out); replace hr2 := hide (hr2.out.below hb3.out); replace p3 := hide p3; clear on3 hb3))
  generalize w2.heap.size = B3 at p3 ⊢
  have l3 := HV.out.1.hop
  go_wp2_with (first
    | (refine at_load rfl (.tmp 11) rfl rfl p3.out ?_)
    | (go_at_call 19; refine (HP.out _ _ _ _ hr2.out).mono ?_; rintro e w4 ⟨a4, c4, rfl, hr4, hb4⟩; replace HV := hide (HV.out.kept hb4); replace hr4 := hide hr4; clear hb4 l3)
    | (refine V4.at_store rfl (.tmp 6) (.tmp 51) rfl rfl HV.out.2.1 src dst (h - 1) k 0 a4 len c4 rfl ?_; intro w5 p5 on5; have HB := hide (HV.out.put on5); replace p5 := hide p5; replace hr4 := hide (Row8.past on5 HV.out.2.1.no8 hr4.out); clear on5 HV))
  try simp only [Exit.inBlock, Exit.then]
  refine bodyPost_ret (V4.results_cr rfl _ _ (w.heap.size + 1) src dst (h - 1) k 0 a4 len c4 rfl p5.out) rfl ?_
  exact ⟨a4, c4, rfl, hr4.out, HB.out⟩
end Go.Proofs.YtfjnioninjllkaaDoor
