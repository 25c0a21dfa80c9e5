/- The document's own Crossed6, by contracts. -/
import Derived.Test.YtfjnioninjllkaaDoorXSegs
import Derived.Test.YtfjnioninjllkaaDoorJPacked
import Derived.Test.YtfjnioninjllkaaDoorJTo6
import Derived.Test.YtfjnioninjllkaaDoorJFault
namespace Go.Proofs.YtfjnioninjllkaaDoor
open Go.RowKit

set_option maxRecDepth 100000 in
set_option maxHeartbeats 2000000 in
theorem crossed6_chk (s d t k i : Int) (a : Option Addr) (len cap : Nat) (x y : List Int) (w : World) (j : Int) (hj : (j != 0) = true) (hC : ∀ W, Calls Tryd.prog 24 #[V4.pk s d t k i a len cap] W fun e w' => e = .returned (.int .i64 j) ∧ Below W.heap.size W w') :
    Calls Tryd.prog 9 #[V4.pk s d t k i a len cap, .agg (sixC x), .agg (sixC y)] w fun e w' => e = .returned (.tuple #[V6.pk0, .int .i64 j]) ∧ Below w.heap.size w w' := by
  have HV := hide (T6.start w s d t k i a len cap x y)
  unfold V6.zero6 box4 at HV
  replace hC := hide hC
  unfold V4.pk at hC ⊢
  go_enter Tryd.func9, Tryd.ntmps9
  go_upto_region 1 with fail
  generalize (World.alloc (World.alloc (World.alloc _ _) _) _).alloc _ = W0 at HV ⊢
  go_upto_region 2 with (first
    | (refine V4.at_load rfl (.tmp 3) rfl rfl HV.out.1 ?_)
    | (go_at_call 24; refine (hC.out _).mono ?_; rintro e w1 ⟨rfl, hb1⟩; replace HV := hide (HV.out.kept hb1); clear hb1))
  go_wp2_with (refine V6.at_store rfl (.tmp 6) (.tmp 14) rfl rfl HV.out.2.2.2.1 [] [] 0 0 none 0 0 rfl ?_; intro w5 p5 on5; have HB := hide (HV.out.put on5); replace p5 := hide p5; clear on5 HV)
  try simp only [Exit.inBlock, Exit.then]
  refine bodyPost_ret (V6.results_pk rfl _ _ (w.heap.size + 1 + 1 + 1) [] [] 0 0 none 0 0 rfl p5.out) rfl ?_
  exact ⟨rfl, HB.out⟩
attribute [local go_sem ↓] hload_shut
set_option maxRecDepth 100000 in
set_option maxHeartbeats 2000000 in
theorem crossed6_six (s d t k i : Int) (a : Option Addr) (len cap : Nat) (x y : List Int) (w : World) (ho : V4.Okp s d t k i) (hl : len ≤ 320) (hf : ¬ (Ok6 x ∧ Ok6 y)) :
    Calls Tryd.prog 9 #[V4.pk s d t k i a len cap, .agg (sixC x), .agg (sixC y)] w fun e w' => e = .returned (.tuple #[V6.pk0, .int .i64 1]) ∧ Below w.heap.size w w' := by
  have HV := hide (T6.start w s d t k i a len cap x y)
  unfold V6.zero6 box4 at HV
  have hC := hide (fun W => V4.rfault_ok s d t k i a len cap W ho hl)
  unfold V4.pk at hC ⊢
  clear ho
  by_cases h1 : Ok6 x
  case' pos =>
    have HX := hide (fun W => fault_ok x W h1)
    have HY := hide (fun W => fault_bad y W (fun h2 => hf ⟨h1, h2⟩))
    clear h1 hf
  case' neg =>
    have HX := hide (fun W => fault_bad x W h1)
    have HY := HX
    clear h1 hf
  all_goals
    go_enter Tryd.func9, Tryd.ntmps9
    go_upto_region 1 with fail
    generalize (World.alloc (World.alloc (World.alloc _ _) _) _).alloc _ = W0 at HV ⊢
    go_upto_region 2 with (first
      | (refine V4.at_load rfl (.tmp 3) rfl rfl HV.out.1 ?_)
      | (go_at_call 24; refine (hC.out _).mono ?_; rintro e w1 ⟨rfl, hb1⟩; replace HV := hide (HV.out.kept hb1); clear hb1))
    have lx := HV.out.2.1.hl
    have ly := HV.out.2.2.1.hl
    go_wp2_with (first
      | (go_at_call 25; (with_reducible refine (HX.out _).mono ?_); rintro e w6 ⟨rfl, hb6⟩; replace HV := hide (HV.out.kept hb6); clear hb6 lx ly; have ly := HV.out.2.2.1.hl)
      | (go_at_call 25; (with_reducible refine (HY.out _).mono ?_); rintro e w7 ⟨rfl, hb7⟩; replace HV := hide (HV.out.kept hb7); clear hb7 ly)
      | (refine V6.at_store rfl (.tmp 6) (.tmp 24) rfl rfl HV.out.2.2.2.1 [] [] 0 0 none 0 0 rfl ?_; intro w5 p5 on5; have HB := hide (HV.out.put on5); replace p5 := hide p5; clear on5 HV))
    try simp only [Exit.inBlock, Exit.then]
    refine bodyPost_ret (V6.results_pk rfl _ _ (w.heap.size + 1 + 1 + 1) [] [] 0 0 none 0 0 rfl p5.out) rfl ?_
    exact ⟨rfl, HB.out⟩
set_option maxRecDepth 100000 in
set_option maxHeartbeats 2000000 in
theorem crossed6_seg (s d t k i : Int) (a : Option Addr) (len cap : Nat) (x y : List Int) (w : World) (ho : V4.Okp s d t k i) (hl : len ≤ 320) (h1 : Ok6 x) (h2 : Ok6 y) (z D : List Int) (E : Int) (hE : (E == 0) = false)
    (hS : ∀ W, Below w.heap.size w W → Calls Tryd.prog 26 #[V4.pk s d t k i a len cap] W fun r W' => ∃ a1 l1 c1, r = .returned (.tuple #[.agg (sgC z a1 l1 c1), .int .i64 E]) ∧ Row8 W' a1 l1 c1 D ∧ Below W.heap.size W W') :
    Calls Tryd.prog 9 #[V4.pk s d t k i a len cap, .agg (sixC x), .agg (sixC y)] w fun e w' => e = .returned (.tuple #[V6.pk0, .int .i64 E]) ∧ Below w.heap.size w w' := by
  have HV := hide (T6.start w s d t k i a len cap x y)
  unfold V6.zero6 box4 at HV
  have hC := hide (fun W => V4.rfault_ok s d t k i a len cap W ho hl)
  have HX := hide (fun W => fault_ok x W h1)
  have HY := hide (fun W => fault_ok y W h2)
  have HZ := hide zero_new
  unfold zero7 at HZ
  replace hS := hide hS
  have hE' : (E != 0) = true := by simpa using hE
  unfold V4.pk at hC hS ⊢
  clear ho h1 h2
  go_enter Tryd.func9, Tryd.ntmps9
  go_upto_region 1 with fail
  generalize (World.alloc (World.alloc (World.alloc _ _) _) _).alloc _ = W0 at HV ⊢
  go_upto_region 2 with (first
    | (refine V4.at_load rfl (.tmp 3) rfl rfl HV.out.1 ?_)
    | (go_at_call 24; refine (hC.out _).mono ?_; rintro e w1 ⟨rfl, hb1⟩; replace HV := hide (HV.out.kept hb1); clear hb1))
  have lx := HV.out.2.1.hl
  have ly := HV.out.2.2.1.hl
  go_upto_region 6 with (first
    | (go_at_call 25; (with_reducible refine (HX.out _).mono ?_); rintro e w6 ⟨rfl, hb6⟩; replace HV := hide (HV.out.kept hb6); clear hb6 lx ly; have ly := HV.out.2.2.1.hl)
    | (go_at_call 25; (with_reducible refine (HY.out _).mono ?_); rintro e w7 ⟨rfl, hb7⟩; replace HV := hide (HV.out.kept hb7); clear hb7 ly))
  go_upto_region 7 with (first
    | (refine V4.at_load rfl (.tmp 3) rfl rfl HV.out.1 ?_)
    | (go_at_call 26; refine (hS.out _ HV.out.2.2.2.2).mono ?_; rintro e w2 ⟨a2, n2, c2, rfl, hr2, hb2⟩; replace HV := hide (HV.out.kept hb2); replace hr2 := hide hr2; clear hb2)
    | (refine at_store rfl (.tmp 9) (.tmp 28) rfl rfl (HZ.out w2) z a2 n2 c2 rfl ?_; intro w3 p3 on3; have hb3 := hide (new_below _ on3); replace HV := hide (HV.out.kept hb3.out); replace hr2 := hide (hr2.out.below hb3.out); replace p3 := hide p3; clear on3 hb3))
  generalize w2.heap.size = B3 at p3 ⊢
  go_wp2_with (refine V6.at_store rfl (.tmp 6) (.tmp 39) rfl rfl HV.out.2.2.2.1 [] [] 0 0 none 0 0 rfl ?_; intro w5 p5 on5; have HB := hide (HV.out.put on5); replace p5 := hide p5; clear on5 HV)
  try simp only [Exit.inBlock, Exit.then]
  refine bodyPost_ret (V6.results_pk rfl _ _ (w.heap.size + 1 + 1 + 1) [] [] 0 0 none 0 0 rfl p5.out) rfl ?_
  exact ⟨rfl, HB.out⟩
set_option maxRecDepth 100000 in
set_option maxHeartbeats 2000000 in
theorem crossed6_dead (s d t k i : Int) (a : Option Addr) (len cap : Nat) (x y : List Int) (w : World) (ho : V4.Okp s d t k i) (hl : len ≤ 320) (h1 : Ok6 x) (h2 : Ok6 y) (z D : List Int) (hd : t < 2)
    (hS : ∀ W, Below w.heap.size w W → Calls Tryd.prog 26 #[V4.pk s d t k i a len cap] W fun r W' => ∃ a1 l1 c1, r = .returned (.tuple #[.agg (sgC z a1 l1 c1), .int .i64 0]) ∧ Row8 W' a1 l1 c1 D ∧ Below W.heap.size W W') :
    Calls Tryd.prog 9 #[V4.pk s d t k i a len cap, .agg (sixC x), .agg (sixC y)] w fun e w' => e = .returned (.tuple #[V6.pk0, .int .i64 7]) ∧ Below w.heap.size w w' := by
  have HV := hide (T6.start w s d t k i a len cap x y)
  unfold V6.zero6 box4 at HV
  have hC := hide (fun W => V4.rfault_ok s d t k i a len cap W ho hl)
  have HX := hide (fun W => fault_ok x W h1)
  have HY := hide (fun W => fault_ok y W h2)
  have HZ := hide zero_new
  unfold zero7 at HZ
  replace hS := hide hS
  unfold V4.pk at hC hS ⊢
  clear ho h1 h2
  go_enter Tryd.func9, Tryd.ntmps9
  go_upto_region 1 with fail
  generalize (World.alloc (World.alloc (World.alloc _ _) _) _).alloc _ = W0 at HV ⊢
  go_upto_region 2 with (first
    | (refine V4.at_load rfl (.tmp 3) rfl rfl HV.out.1 ?_)
    | (go_at_call 24; refine (hC.out _).mono ?_; rintro e w1 ⟨rfl, hb1⟩; replace HV := hide (HV.out.kept hb1); clear hb1))
  have lx := HV.out.2.1.hl
  have ly := HV.out.2.2.1.hl
  go_upto_region 6 with (first
    | (go_at_call 25; (with_reducible refine (HX.out _).mono ?_); rintro e w6 ⟨rfl, hb6⟩; replace HV := hide (HV.out.kept hb6); clear hb6 lx ly; have ly := HV.out.2.2.1.hl)
    | (go_at_call 25; (with_reducible refine (HY.out _).mono ?_); rintro e w7 ⟨rfl, hb7⟩; replace HV := hide (HV.out.kept hb7); clear hb7 ly))
  go_upto_region 7 with (first
    | (refine V4.at_load rfl (.tmp 3) rfl rfl HV.out.1 ?_)
    | (go_at_call 26; refine (hS.out _ HV.out.2.2.2.2).mono ?_; rintro e w2 ⟨a2, n2, c2, rfl, hr2, hb2⟩; replace HV := hide (HV.out.kept hb2); replace hr2 := hide hr2; clear hb2)
    | (refine at_store rfl (.tmp 9) (.tmp 28) rfl rfl (HZ.out w2) z a2 n2 c2 rfl ?_; intro w3 p3 on3; have hb3 := hide (new_below _ on3); replace HV := hide (HV.out.kept hb3.out); replace hr2 := hide (hr2.out.below hb3.out); replace p3 := hide p3; clear on3 hb3))
  generalize w2.heap.size = B3 at p3 ⊢
  obtain ⟨l0, l1, l2, l3, l4, l5⟩ := HV.out.1.all
  go_wp2_with (refine V6.at_store rfl (.tmp 6) (.tmp 39) rfl rfl HV.out.2.2.2.1 [] [] 0 0 none 0 0 rfl ?_; intro w5 p5 on5; have HB := hide (HV.out.put on5); replace p5 := hide p5; clear on5 HV)
  try simp only [Exit.inBlock, Exit.then]
  refine bodyPost_ret (V6.results_pk rfl _ _ (w.heap.size + 1 + 1 + 1) [] [] 0 0 none 0 0 rfl p5.out) rfl ?_
  exact ⟨rfl, HB.out⟩
set_option maxRecDepth 100000 in
set_option maxHeartbeats 2000000 in
theorem crossed6_ok (s d t k i : Int) (a : Option Addr) (len cap : Nat) (x y : List Int) (w : World) (ho : V4.Okp s d t k i) (hl : len ≤ 320) (h1 : Ok6 x) (h2 : Ok6 y) (z D : List Int) (hd : 2 ≤ t) (hz : Okg z D.length) (hk : el z 0 = k) (hn' : hn k + D.length = len)
    (hS : ∀ W, Below w.heap.size w W → Calls Tryd.prog 26 #[V4.pk s d t k i a len cap] W fun r W' => ∃ a1 l1 c1, r = .returned (.tuple #[.agg (sgC z a1 l1 c1), .int .i64 0]) ∧ Row8 W' a1 l1 c1 D ∧ Below W.heap.size W W') :
    Calls Tryd.prog 9 #[V4.pk s d t k i a len cap, .agg (sixC x), .agg (sixC y)] w fun e w' => ∃ a1 c1, e = .returned (.tuple #[V6.pk x y (t - 1) k a1 len c1, .int .i64 0]) ∧ Row8 w' a1 len c1 (eb z (o6 x y k len) D) ∧ Below w.heap.size w w' := by
  have HV := hide (T6.start w s d t k i a len cap x y)
  unfold V6.zero6 box4 at HV
  have hC := hide (fun W => V4.rfault_ok s d t k i a len cap W ho hl)
  have HX := hide (fun W => fault_ok x W h1)
  have HY := hide (fun W => fault_ok y W h2)
  have HZ := hide zero_new
  unfold zero7 at HZ
  replace hS := hide hS
  have hh2 : t ≤ 255 := ho.2.2.1.2
  have HP := hide (fun W a2 n2 c2 (r2 : Row8 W a2 n2 c2 D) => packed6_any z a2 n2 c2 D x y (t - 1) W (by rw [← r2.1]; exact hz) r2 h1 h2 len (by rw [hk, ← r2.1]; exact hn') hl)
  rw [hk] at HP
  generalize eb z (o6 x y k len) D = E at HP ⊢
  unfold V4.pk at hC hS ⊢
  unfold V6.pk at HP
  clear ho h1 h2 hz hk hn'
  go_enter Tryd.func9, Tryd.ntmps9
  go_upto_region 1 with fail
  generalize (World.alloc (World.alloc (World.alloc _ _) _) _).alloc _ = W0 at HV ⊢
  go_upto_region 2 with (first
    | (refine V4.at_load rfl (.tmp 3) rfl rfl HV.out.1 ?_)
    | (go_at_call 24; refine (hC.out _).mono ?_; rintro e w1 ⟨rfl, hb1⟩; replace HV := hide (HV.out.kept hb1); clear hb1))
  have lx := HV.out.2.1.hl
  have ly := HV.out.2.2.1.hl
  go_upto_region 6 with (first
    | (go_at_call 25; (with_reducible refine (HX.out _).mono ?_); rintro e w6 ⟨rfl, hb6⟩; replace HV := hide (HV.out.kept hb6); clear hb6 lx ly; have ly := HV.out.2.2.1.hl)
    | (go_at_call 25; (with_reducible refine (HY.out _).mono ?_); rintro e w7 ⟨rfl, hb7⟩; replace HV := hide (HV.out.kept hb7); clear hb7 ly))
  go_upto_region 7 with (first
    | (refine V4.at_load rfl (.tmp 3) rfl rfl HV.out.1 ?_)
    | (go_at_call 26; refine (hS.out _ HV.out.2.2.2.2).mono ?_; rintro e w2 ⟨a2, n2, c2, rfl, hr2, hb2⟩; replace HV := hide (HV.out.kept hb2); replace hr2 := hide hr2; clear hb2)
    | (refine at_store rfl (.tmp 9) (.tmp 28) rfl rfl (HZ.out w2) z a2 n2 c2 rfl ?_; intro w3 p3 on3; have hb3 := hide (new_below _ on3); replace HV := hide (HV.out.kept hb3.out); replace hr2 := hide (hr2.out.below hb3.out); replace p3 := hide p3; clear on3 hb3))
  generalize w2.heap.size = B3 at p3 ⊢
  obtain ⟨l0, l1, l2, l3, l4, l5⟩ := HV.out.1.all
  go_wp2_with (first
    | (refine at_load rfl (.tmp 9) rfl rfl p3.out ?_)
    | (refine at_load6 rfl (.tmp 4) rfl rfl HV.out.2.1 ?_)
    | (refine at_load6 rfl (.tmp 5) rfl rfl HV.out.2.2.1 ?_)
    | (go_at_call 27; refine (HP.out _ _ _ _ hr2.out).mono ?_; rintro e w4 ⟨a4, c4, rfl, hr4, hb4⟩; replace HV := hide (HV.out.kept hb4); replace hr4 := hide hr4; clear hb4 l0 l1 l2 l3 l4 l5)
    | (refine V6.at_store rfl (.tmp 6) (.tmp 47) rfl rfl HV.out.2.2.2.1 x y (t - 1) k a4 len c4 rfl ?_; intro w5 p5 on5; have HB := hide (HV.out.put on5); replace p5 := hide p5; replace hr4 := hide (Row8.past on5 HV.out.2.2.2.1.no8 hr4.out); clear on5 HV))
  try simp only [Exit.inBlock, Exit.then]
  refine bodyPost_ret (V6.results_pk rfl _ _ (w.heap.size + 1 + 1 + 1) x y (t - 1) k a4 len c4 rfl p5.out) rfl ?_
  exact ⟨a4, c4, rfl, hr4.out, HB.out⟩
end Go.Proofs.YtfjnioninjllkaaDoor
