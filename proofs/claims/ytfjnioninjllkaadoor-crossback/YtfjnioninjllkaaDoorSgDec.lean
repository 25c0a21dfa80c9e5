/- Package seg: Decode, by contracts. -/
import Derived.Test.YtfjnioninjllkaaDoorSgAlike
namespace Go.Proofs.YtfjnioninjllkaaDoor
open Go.RowKit

/-- no segment. -/
def sg0 : Value := .agg (sgC [] none 0 0)
set_option maxRecDepth 100000 in
set_option maxHeartbeats 4000000 in
theorem dec_range (k over : Int) (a : Option Addr) (len cap : Nat) (w : World) (h : kn k = false ∨ up 65535 over = false) :
    Calls Tryd.prog 52 #[.int .i64 k, .slice a len cap, .int .i64 over] w fun e w' => e = .returned (.tuple #[sg0, err 1]) ∧ Below w.heap.size w w' := by
  have HB := hide (al_below w (.cells zero7 49))
  have HP := hide (zero_new w)
  unfold zero7 at HB HP
  generalize hk : kn k = uk at h
  cases uk
  · clear h
    go_enter Tryd.func52, Tryd.ntmps52
    go_upto_region 1 with fail
    generalize w.alloc _ = W at HB HP ⊢
    go_wp2_with (first
      | (go_at_call 57; refine (known_any _ _).mono ?_; rintro e w' ⟨rfl, rfl⟩)
      | (refine at_store rfl (.tmp 6) (.tmp 20) rfl rfl HP.out [] none 0 0 rfl ?_; intro w5 p5 on5; replace HB := hide (on5.below HB.out (Nat.le_refl _)); replace p5 := hide p5; clear on5))
    try simp only [Exit.inBlock, Exit.then]
    refine bodyPost_ret (results_sg rfl _ _ w.heap.size [] none 0 0 rfl p5.out) rfl ?_
    exact ⟨rfl, HB.out⟩
  · have ho : up 65535 over = false := by simpa using h
    clear h
    go_enter Tryd.func52, Tryd.ntmps52
    go_upto_region 1 with fail
    generalize w.alloc _ = W at HB HP ⊢
    go_wp2_with (first
      | (go_at_call 57; refine (known_any _ _).mono ?_; rintro e w' ⟨rfl, rfl⟩)
      | (go_at_call 32; (with_reducible refine (upto1b _ _ _).mono ?_); rintro e w2 ⟨rfl, hb2⟩; replace HB := hide (bt HB.out hb2); replace HP := hide (HP.out.kept hb2); clear hb2)
      | (refine at_store rfl (.tmp 6) (.tmp 20) rfl rfl HP.out [] none 0 0 rfl ?_; intro w5 p5 on5; replace HB := hide (on5.below HB.out (Nat.le_refl _)); replace p5 := hide p5; clear on5))
    try simp only [Exit.inBlock, Exit.then]
    refine bodyPost_ret (results_sg rfl _ _ w.heap.size [] none 0 0 rfl p5.out) rfl ?_
    exact ⟨rfl, HB.out⟩
set_option maxRecDepth 100000 in
set_option maxHeartbeats 4000000 in
theorem dec_len (k over : Int) (a : Option Addr) (len cap : Nat) (w : World) (hk : kn k = true) (ho : up 65535 over = true) (h : len < hn k ∨ hn k + 300 < len) (_hm : len ≤ maxLen) :
    Calls Tryd.prog 52 #[.int .i64 k, .slice a len cap, .int .i64 over] w fun e w' => e = .returned (.tuple #[sg0, err 5]) ∧ Below w.heap.size w w' := by
  unfold maxLen at _hm
  have HB := hide (al_below w (.cells zero7 49))
  have HP := hide (zero_new w)
  unfold zero7 at HB HP
  have HH := hide (fun W => head_any k W)
  have hh := hn_le k
  generalize hn k = H at HH hh h
  have hh' : (H : Int) ≤ 20 := by omega
  rcases h with h | h
  case' inl => have d1 : (len : Int) < (H : Int) := by omega
  case' inr =>
    have d1 : ¬ (len : Int) < (H : Int) := by omega
    have d2 : (H : Int) + 300 < (len : Int) := by omega
  all_goals
    clear h
    go_enter Tryd.func52, Tryd.ntmps52
    go_upto_region 1 with fail
    generalize w.alloc _ = W at HB HP ⊢
    go_upto_region 3 with (first
      | (go_at_call 57; refine (known_any _ _).mono ?_; rintro e w' ⟨rfl, rfl⟩)
      | (go_at_call 32; (with_reducible refine (upto1b _ _ _).mono ?_); rintro e w2 ⟨rfl, hb2⟩; replace HB := hide (bt HB.out hb2); replace HP := hide (HP.out.kept hb2); clear hb2))
    go_wp2_with (first
      | (go_at_call 59; refine (HH.out _).mono ?_; rintro e w' ⟨rfl, rfl⟩)
      | (refine at_store rfl (.tmp 6) (.tmp 35) rfl rfl HP.out [] none 0 0 rfl ?_; intro w5 p5 on5; replace HB := hide (on5.below HB.out (Nat.le_refl _)); replace p5 := hide p5; clear on5))
    try simp only [Exit.inBlock, Exit.then]
    refine bodyPost_ret (results_sg rfl _ _ w.heap.size [] none 0 0 rfl p5.out) rfl ?_
    exact ⟨rfl, HB.out⟩
set_option maxRecDepth 100000 in
set_option maxHeartbeats 8000000 in
theorem dec_encbad (k over : Int) (g off len cap : Nat) (zs : List Int) (w : World) (hr : Row8 w (some ⟨g, off, none⟩) len cap zs) (hk : kn k = true) (ho : up 65535 over = true) (h1 : hn k ≤ len) (h2 : len ≤ hn k + 300) (hcl : len ≤ cap) (hcm : cap ≤ maxLen) (hs : sf (rdz k zs) (len - hn k) ≠ 0) :
    Calls Tryd.prog 52 #[.int .i64 k, .slice (some ⟨g, off, none⟩) len cap, .int .i64 over] w fun e w' => e = .returned (.tuple #[sg0, err 5]) ∧ Below w.heap.size w w' := by
  have HB := hide (al_below w (.cells zero7 49))
  have HP := hide (zero_new w)
  have HZ := hide zero_new
  unfold zero7 at HB HP HZ
  have HH := hide (fun W => head_any k W)
  have hh := hn_le k
  have HRow := hide hr
  have HRead := hide (fun W (h : Row8 W (some ⟨g, off, none⟩) len cap zs) => read_any k g off len cap zs W h h1 (by omega) hcl hcm)
  have HE := hide (fun a' c' W => enc_err (rdz k zs) a' (len - hn k) c' over W (by unfold maxLen at *; omega) _ rfl hs)
  unfold err at HE
  generalize sf (rdz k zs) (len - hn k) = E at HE hs
  generalize hn k = H at HH hh h1 h2 HRead HE
  generalize rdz k zs = Z at HRead HE
  have hcm' := hcm
  unfold maxLen at hcm'
  have hh' : (H : Int) ≤ 20 := by omega
  have d1 : ¬ (len : Int) < (H : Int) := by omega
  have d2 : ¬ (H : Int) + 300 < (len : Int) := by omega
  clear hr hs
  go_enter Tryd.func52, Tryd.ntmps52
  go_upto_region 1 with fail
  generalize w.alloc _ = W0 at HB HP ⊢
  go_upto_region 3 with (first
    | (go_at_call 57; refine (known_any _ _).mono ?_; rintro e w' ⟨rfl, rfl⟩)
    | (go_at_call 32; (with_reducible refine (upto1b _ _ _).mono ?_); rintro e w2 ⟨rfl, hb2⟩; replace HB := hide (bt HB.out hb2); replace HP := hide (HP.out.kept hb2); clear hb2))
  go_upto_region 5 with (go_at_call 59; refine (HH.out _).mono ?_; rintro e w' ⟨rfl, rfl⟩)
  go_upto_region 6 with (first
    | (go_at_call 70; refine (HRead.out _ (HRow.out.below HB.out)).mono ?_; rintro e w1 ⟨a1, c1, rfl, hown1, hb1⟩; replace HB := hide (bt HB.out hb1); replace HP := hide (HP.out.kept hb1); clear hb1 hown1)
    | (refine at_store rfl (.tmp 8) (.tmp 39) rfl rfl (HZ.out w1) Z a1 (len - H) c1 rfl ?_; intro w2 p2 on2; replace p2 := hide p2; replace on2 := hide on2))
  have hB2 : Below w1.heap.size w1 w2 := on2.out.below (al_below w1 _) (Nat.le_refl _)
  replace HB := hide (bt HB.out hB2)
  replace HP := hide (HP.out.kept hB2)
  clear hB2 on2 HZ HRead
  generalize w1.heap.size = B1 at p2 ⊢
  go_upto_region 7 with (first
    | (refine at_load rfl (.tmp 8) rfl rfl p2.out ?_)
    | (go_at_call 13; refine (HE.out a1 c1 _).mono ?_; rintro e w3 ⟨rfl, hb3⟩; replace HB := hide (bt HB.out hb3); replace HP := hide (HP.out.kept hb3); clear hb3))
  go_wp2_with (first | (refine at_store rfl (.tmp 6) (.tmp 55) rfl rfl HP.out [] none 0 0 rfl ?_; intro w5 p5 on5; replace HB := hide (on5.below HB.out (Nat.le_refl _)); replace p5 := hide p5; clear on5))
  try simp only [Exit.inBlock, Exit.then]
  refine bodyPost_ret (results_sg rfl _ _ w.heap.size [] none 0 0 rfl p5.out) rfl ?_
  exact ⟨rfl, HB.out⟩
set_option maxRecDepth 100000 in
set_option maxHeartbeats 8000000 in
theorem dec_raw (k over : Int) (g off len cap : Nat) (zs : List Int) (w : World) (hr : Row8 w (some ⟨g, off, none⟩) len cap zs) (hk : kn k = true) (ho : up 65535 over = true) (h1 : hn k ≤ len) (h2 : len ≤ hn k + 300) (hcl : len ≤ cap) (hcm : cap ≤ maxLen) (hs : sf (rdz k zs) (len - hn k) = 0)
    (r1 r2 : Bool) (hr1 : ((eb (rdz k zs) over (zs.drop (hn k))).take (cn k) = zs.take (cn k) ∧ (eb (rdz k zs) over (zs.drop (hn k))).drop (cn k + 2) = zs.drop (cn k + 2)) ↔ r1 = true) (hr2 : eb (rdz k zs) over (zs.drop (hn k)) = zs ↔ r2 = true) :
    Calls Tryd.prog 52 #[.int .i64 k, .slice (some ⟨g, off, none⟩) len cap, .int .i64 over] w fun e w' => ((r1 = false ∧ e = .returned (.tuple #[sg0, err 5])) ∨ (r1 = true ∧ r2 = false ∧ e = .returned (.tuple #[sg0, err 6])) ∨
      (r1 = true ∧ r2 = true ∧ ∃ a' c', e = .returned (.tuple #[.agg (sgC (rdz k zs) a' (len - hn k) c'), .nilIface]) ∧ Row8 w' a' (len - hn k) c' (zs.drop (hn k)))) ∧ Below w.heap.size w w' := by
  have hlen := hr.1
  have HB := hide (al_below w (.cells zero7 49))
  have HP := hide (zero_new w)
  have HZ := hide zero_new
  unfold zero7 at HB HP HZ
  have HH := hide (fun W => head_any k W)
  have hh := hn_le k
  have hp : 8 ≤ hn k := by unfold hn; split <;> omega
  have HRow := hide hr
  have HRead := hide (fun W (h : Row8 W (some ⟨g, off, none⟩) len cap zs) => read_any k g off len cap zs W h h1 (by omega) hcl hcm)
  have HE := hide (fun a' c' W (h : Row8 W a' (len - hn k) c' (zs.drop (hn k))) => enc_ok (rdz k zs) a' (len - hn k) c' over (zs.drop (hn k)) W hs ho h)
  have hk0 : el (rdz k zs) 0 = k := by unfold rdz; split <;> rfl
  have HEL := hide (show (eb (rdz k zs) over (zs.drop (hn k))).length = len by rw [eb_len, hk0, List.length_drop, hlen]; omega)
  have HAl := hide (fun gx cx W rx rz hc hm => alike_any k gx 0 len cx g off len cap (eb (rdz k zs) over (zs.drop (hn k))) zs W rx rz h1 h1 hc hcl hm hcm r1 hr1)
  have HSame := hide hr2
  clear hr hr1 hr2 hs hk0
  generalize eb (rdz k zs) over (zs.drop (hn k)) = EB at HE HEL HAl HSame
  generalize zs.drop (hn k) = D at HRead HE ⊢
  generalize hn k = H at HH hh h1 h2 HRead HE hp ⊢
  generalize rdz k zs = Z at HRead HE ⊢
  have hcm' := hcm
  unfold maxLen at hcm'
  have hh' : (H : Int) ≤ 20 := by omega
  have d1 : ¬ (len : Int) < (H : Int) := by omega
  have d2 : ¬ (H : Int) + 300 < (len : Int) := by omega
  go_enter Tryd.func52, Tryd.ntmps52
  go_upto_region 1 with fail
  generalize w.alloc _ = W0 at HB HP ⊢
  go_upto_region 3 with (first
    | (go_at_call 57; refine (known_any _ _).mono ?_; rintro e w' ⟨rfl, rfl⟩)
    | (go_at_call 32; (with_reducible refine (upto1b _ _ _).mono ?_); rintro e w2 ⟨rfl, hb2⟩; replace HB := hide (bt HB.out hb2); replace HP := hide (HP.out.kept hb2); clear hb2))
  go_upto_region 5 with (go_at_call 59; refine (HH.out _).mono ?_; rintro e w' ⟨rfl, rfl⟩)
  have hlW := hide HP.out.lt
  go_upto_region 6 with (first
    | (go_at_call 70; refine (HRead.out _ (HRow.out.below HB.out)).mono ?_; rintro e w1 ⟨a1, c1, rfl, hown1, hb1⟩; replace HB := hide (bt HB.out hb1); replace HP := hide (HP.out.kept hb1); replace hown1 := hide hown1; clear hb1)
    | (refine at_store rfl (.tmp 8) (.tmp 39) rfl rfl (HZ.out w1) Z a1 (len - H) c1 rfl ?_; intro w2 p2 on2; replace p2 := hide p2; replace on2 := hide on2))
  have hB2 : Below w1.heap.size w1 w2 := on2.out.below (al_below w1 _) (Nat.le_refl _)
  replace HB := hide (bt HB.out hB2)
  replace HP := hide (HP.out.kept hB2)
  replace hown1 := hide (hown1.out.kept hB2)
  clear hB2 on2 HZ HRead
  generalize w1.heap.size = B1 at p2 ⊢
  go_upto_region 7 with (first
    | (refine at_load rfl (.tmp 8) rfl rfl p2.out ?_)
    | (go_at_call 13; refine (HE.out a1 c1 _ hown1.out.toRow).mono ?_; rintro e w3 ⟨v, rfl, ho3, hb3⟩; obtain ⟨gE, cE, hv, hE1, hE2, -, -, hrowE⟩ := ho3.form (by rw [HEL.out]; omega); rw [HEL.out] at hE1 hrowE hv; subst hv; replace HB := hide (bt HB.out hb3); replace HP := hide (HP.out.kept hb3); replace p2 := hide (p2.out.kept hb3); replace hown1 := hide (hown1.out.kept hb3); replace hrowE := hide hrowE; clear hb3 ho3))
  cases r1
  · go_wp2_with (first
      | (go_at_call 71; refine (HAl.out _ _ _ hrowE.out (HRow.out.below HB.out) hE1 hE2).mono ?_; rintro e w4 ⟨rfl, hb4⟩; replace HB := hide (bt HB.out hb4); replace HP := hide (HP.out.kept hb4); clear hb4)
      | (refine at_store rfl (.tmp 6) (.tmp 55) rfl rfl HP.out [] none 0 0 rfl ?_; intro w5 p5 on5; replace HB := hide (on5.below HB.out (Nat.le_refl _)); replace p5 := hide p5; clear on5))
    try simp only [Exit.inBlock, Exit.then]
    refine bodyPost_ret (results_sg rfl _ _ w.heap.size [] none 0 0 rfl p5.out) rfl ?_
    exact ⟨rfl, HB.out⟩
  · go_upto_region 9 with (go_at_call 71; refine (HAl.out _ _ _ hrowE.out (HRow.out.below HB.out) hE1 hE2).mono ?_; rintro e w4 ⟨rfl, hb4⟩; replace HB := hide (bt HB.out hb4); replace HP := hide (HP.out.kept hb4); replace p2 := hide (p2.out.kept hb4); replace hown1 := hide (hown1.out.kept hb4); replace hrowE := hide (hrowE.out.below hb4); clear hb4)
    have HEq := hide (equal_any _ _ _ _ _ _ _ _ _ hrowE.out (HRow.out.below HB.out) r2 HSame.out)
    cases r2
    · go_wp2_with (first
        | (go_at_call 40; refine HEq.out.mono ?_; rintro e w6 ⟨rfl, rfl⟩)
        | (refine at_store rfl (.tmp 6) (.tmp 61) rfl rfl HP.out [] none 0 0 rfl ?_; intro w5 p5 on5; replace HB := hide (on5.below HB.out (Nat.le_refl _)); replace p5 := hide p5; clear on5))
      try simp only [Exit.inBlock, Exit.then]
      refine bodyPost_ret (results_sg rfl _ _ w.heap.size [] none 0 0 rfl p5.out) rfl ?_
      exact ⟨rfl, HB.out⟩
    · go_wp2_with (first
        | (go_at_call 40; refine HEq.out.mono ?_; rintro e w6 ⟨rfl, rfl⟩)
        | (refine at_load rfl (.tmp 8) rfl rfl p2.out ?_)
        | (refine at_store rfl (.tmp 6) (.tmp 63) rfl rfl HP.out Z a1 (len - H) c1 rfl ?_; intro w5 p5 on5; replace HB := hide (on5.below HB.out (Nat.le_refl _)); replace hown1 := hide (hown1.out.only on5 (HP.out.ne hown1.out)); replace p5 := hide p5; clear on5))
      try simp only [Exit.inBlock, Exit.then]
      refine bodyPost_ret (results_sg rfl _ _ w.heap.size Z a1 (len - H) c1 rfl p5.out) rfl ?_
      exact ⟨⟨a1, c1, rfl, hown1.out.toRow⟩, HB.out⟩
end Go.Proofs.YtfjnioninjllkaaDoor
