/- What Decode answers, in two ways; what stands over a packet's segment; cross.under by contracts. -/
import Derived.Test.YtfjnioninjllkaaDoorJSgm
namespace Go.Proofs.YtfjnioninjllkaaDoor
open Go.RowKit

/-- bytes are a segment that may be, or Decode tells of an error. -/
theorem dec_dich (k over : Int) (a : Option Addr) (len cap : Nat) (zs : List Int) (w : World) (hr : Row8 w a len cap zs) (hcl : len ≤ cap) (hcm : cap ≤ maxLen) (hk : kn k = true) (ho : up 65535 over = true) :
    (∃ z D, Okg z D.length ∧ el z 0 = k ∧ eb z over D = zs) ∨
    (∃ e, ∀ W, Below w.heap.size w W → Calls Tryd.prog 52 #[.int .i64 k, .slice a len cap, .int .i64 over] W fun r W' => r = .returned (.tuple #[sg0, err e]) ∧ Below W.heap.size W W') := by
  have hl := hr.1
  by_cases hlen : len < hn k ∨ hn k + 300 < len
  · exact .inr ⟨5, fun W _ => dec_len k over a len cap W hk ho hlen hr.2.1⟩
  · have hp : 8 ≤ hn k := by unfold hn; split <;> omega
    obtain ⟨g, off, rfl, _⟩ := hr.2.2.2.2 (by omega)
    have b1 : hn k ≤ len := by omega
    have b2 : len ≤ hn k + 300 := by omega
    by_cases hs : sf (rdz k zs) (len - hn k) = 0
    · classical
      have hD := fun W hb => dec_raw k over g off len cap zs W (hr.below hb) hk ho b1 b2 hcl hcm hs (decide _) (decide _) decide_eq_true_iff.symm decide_eq_true_iff.symm
      by_cases hq : eb (rdz k zs) over (zs.drop (hn k)) = zs
      · refine .inl ⟨rdz k zs, zs.drop (hn k), ?_, ?_, hq⟩
        · rw [List.length_drop, hl]; exact (sf_iff _ _).1 hs
        · unfold rdz; split <;> rfl
      · by_cases hp : (eb (rdz k zs) over (zs.drop (hn k))).take (cn k) = zs.take (cn k) ∧ (eb (rdz k zs) over (zs.drop (hn k))).drop (cn k + 2) = zs.drop (cn k + 2)
        · refine .inr ⟨6, fun W hb => (hD W hb).mono ?_⟩
          rintro e w' ⟨⟨h1, _⟩ | ⟨_, _, h1⟩ | ⟨_, h1, _⟩, h2⟩
          · exact absurd hp (of_decide_eq_false h1)
          · exact ⟨h1, h2⟩
          · exact absurd (of_decide_eq_true h1) hq
        · refine .inr ⟨5, fun W hb => (hD W hb).mono ?_⟩
          rintro e w' ⟨⟨_, h1⟩ | ⟨h1, _⟩ | ⟨h1, _⟩, h2⟩
          · exact ⟨h1, h2⟩
          · exact absurd (of_decide_eq_true h1) hp
          · exact absurd (of_decide_eq_true h1) hp
    · exact .inr ⟨5, fun W hb => dec_encbad k over g off len cap zs W (hr.below hb) hk ho b1 b2 hcl hcm hs⟩
/-- what stands over a segment of sixes, and of fours. -/
def o6 (s d : List Int) (k n : Int) : Int := ovs (by16 s 8 ++ by16 d 8) k n
def o4 (s d : Int) (k n : Int) : Int := ovs (wsn 4 [s, d] 2) k n
theorem ovs_in (zs : List Int) (k n : Int) (h : SM.Oct zs) : up 65535 (ovs zs k n) = true := by
  have hb := SM.tot_bd (zs ++ wsn 2 [k, n] 2) (SM.oct_append _ _ h (wsn_oct _ _ _)) (zs.length + 4)
  exact decide_eq_true (SM.fold_bd _ hb.1)
theorem o6_in (s d : List Int) (k n : Int) (hs : Ok6 s) (hd : Ok6 d) : up 65535 (o6 s d k n) = true := ovs_in _ _ _ (SM.oct_append _ _ (oct_by16 s hs 8 (by omega)) (oct_by16 d hd 8 (by omega)))
theorem o4_in (s d : Int) (k n : Int) : up 65535 (o4 s d k n) = true := ovs_in _ _ _ (wsn_oct _ _ _)
theorem over6_ok (s d : List Int) (k n : Int) (w : World) (hs : Ok6 s) (hd : Ok6 d) (hk : up 255 k = true) (hn : up 320 n = true) :
    Calls Tryd.prog 12 #[.agg (sixC s), .agg (sixC d), .int .i64 k, .int .i64 n] w fun e w' => e = .returned (.tuple #[.int .i64 (o6 s d k n), .nilIface]) ∧ Below w.heap.size w w' :=
  over6_any s d k n w hs hd _ _ (fun W0 W v hg => overof_ok W0 W v _ k n hg (by rw [List.length_append, by16_len, by16_len]; omega) hk hn)
theorem over4_o (s d k n : Int) (w : World) (hs : up 4294967295 s = true) (hd : up 4294967295 d = true) (hk : up 255 k = true) (hn : up 320 n = true) :
    Calls Tryd.prog 21 #[.int .i64 s, .int .i64 d, .int .i64 k, .int .i64 n] w fun e w' => e = .returned (.tuple #[.int .i64 (o4 s d k n), .nilIface]) ∧ Below w.heap.size w w' := over4_ok s d k n w hs hd hk hn
/-- cross.under of what is neither TCP nor UDP. -/
theorem und_shape (k p q : Int) (a : Option Addr) (len cap : Nat) (w : World) (h : kn k = false) :
    Calls Tryd.prog 22 #[.int .i64 k, .slice a len cap, .int .i64 p, .int .i64 q] w fun e w' => e = .returned (.tuple #[.slice none 0 0, err 2]) ∧ Below w.heap.size w w' := by
  have h1 : (k != 6) = true := by unfold kn at h; simp at h; simpa using h.1
  have h2 : (k != 17) = true := by unfold kn at h; simp at h; simpa using h.2
  clear h
  go_enter Tryd.func22, Tryd.ntmps22
  go_wp2
  go_ret2
  exact ⟨rfl, Below.refl _ _⟩
theorem new_below {w w' : World} (o : Obj) (h : Only w.heap.size (w.alloc o) w') : Below w.heap.size w w' := h.below (al_below w o) (Nat.le_refl _)
set_option maxRecDepth 100000 in
set_option maxHeartbeats 2000000 in
/-- .. of what Decode does not take. -/
theorem und_bad (k p q : Int) (a : Option Addr) (len cap : Nat) (w : World) (h : kn k = true) (e : Int) (hD : Calls Tryd.prog 52 #[.int .i64 k, .slice a len cap, .int .i64 p] w fun r W' => (∃ z a1 l1 c1, r = .returned (.tuple #[.agg (sgC z a1 l1 c1), err e])) ∧ Below w.heap.size w W') :
    Calls Tryd.prog 22 #[.int .i64 k, .slice a len cap, .int .i64 p, .int .i64 q] w fun e' w' => e' = .returned (.tuple #[.slice none 0 0, err e]) ∧ Below w.heap.size w w' := by
  have hk := (kn_iff k).1 h
  clear h
  have HZ := hide zero_new
  unfold zero7 at HZ
  replace hD := hide hD
  unfold err at hD ⊢
  rcases hk with rfl | rfl
  all_goals
    go_enter Tryd.func22, Tryd.ntmps22
    go_upto_region 4 with (first
      | (go_at_call 52; refine hD.out.mono ?_; rintro r w1 ⟨⟨z, a1, l1, c1, rfl⟩, hb1⟩; replace hb1 := hide hb1)
      | (refine at_store rfl (.tmp 10) (.tmp 24) rfl rfl (HZ.out w1) z a1 l1 c1 rfl ?_; intro w2 p2 on2; have hb2 := hide (bt hb1.out (new_below _ on2)); clear on2 p2))
    go_wp2
    go_ret2
    exact ⟨rfl, hb2.out⟩
set_option maxRecDepth 100000 in
set_option maxHeartbeats 2000000 in
/-- .. of a segment. -/
theorem und_ok (k p q : Int) (a : Option Addr) (len cap : Nat) (z D : List Int) (w : World) (h : Okg z D.length) (hq : up 65535 q = true) (hk0 : el z 0 = k) (n : Nat) (hn' : hn k + D.length = n) (hD : Calls Tryd.prog 52 #[.int .i64 k, .slice a len cap, .int .i64 p] w fun r W' => ∃ a1 l1 c1, r = .returned (.tuple #[.agg (sgC z a1 l1 c1), .nilIface]) ∧ Row8 W' a1 l1 c1 D ∧ Below w.heap.size w W') :
    Calls Tryd.prog 22 #[.int .i64 k, .slice a len cap, .int .i64 p, .int .i64 q] w fun e' w' => ∃ g c, e' = .returned (.tuple #[.slice (some ⟨g, 0, none⟩) n c, .nilIface]) ∧ n ≤ c ∧ c ≤ maxLen ∧ Row8 w' (some ⟨g, 0, none⟩) n c (eb z q D) ∧ Below w.heap.size w w' := by
  have hk := (kn_iff _).1 (okg_kn h)
  rw [hk0] at hk
  have HZ := hide zero_new
  unfold zero7 at HZ
  replace hD := hide hD
  have HE := hide (fun W a1 l1 c1 (hr : Row8 W a1 l1 c1 D) => enc_form z a1 l1 c1 q D W (by rw [← hr.1]; exact h) hq hr)
  have HN := hide (show ∀ l1, D.length = l1 → hn (el z 0) + l1 = n from fun l1 h => by rw [hk0, ← h]; exact hn')
  clear h hq hn' hk0
  generalize eb z q D = Z at HE ⊢
  rcases hk with rfl | rfl
  all_goals
    go_enter Tryd.func22, Tryd.ntmps22
    go_upto_region 4 with (first
      | (go_at_call 52; refine hD.out.mono ?_; rintro r w1 ⟨a1, l1, c1, rfl, hr1, hb1⟩; replace hb1 := hide hb1; replace hr1 := hide hr1)
      | (refine at_store rfl (.tmp 10) (.tmp 24) rfl rfl (HZ.out w1) z a1 l1 c1 rfl ?_; intro w2 p2 on2; have hb2 := hide (new_below _ on2); replace hr1 := hide (hr1.out.below hb2.out); replace hb2 := hide (bt hb1.out hb2.out); replace p2 := hide p2; clear on2 hb1))
    generalize w1.heap.size = B1 at p2 ⊢
    go_wp2_with (first
      | (refine at_load rfl (.tmp 10) rfl rfl p2.out ?_)
      | (go_at_call 13; refine (HE.out _ _ _ _ hr1.out).mono ?_; rintro r w3 ⟨g3, c3, rfl, hc3, hm3, -, hr3, hb3⟩; rw [HN.out _ hr1.out.1] at hc3 hr3 ⊢; replace hb3 := hide (bt hb2.out hb3); replace hr3 := hide hr3; replace hc3 := hide hc3; replace hm3 := hide hm3))
    go_ret2
    exact ⟨g3, c3, rfl, hc3.out, hm3.out, hr3.out, hb3.out⟩
end Go.Proofs.YtfjnioninjllkaaDoor
