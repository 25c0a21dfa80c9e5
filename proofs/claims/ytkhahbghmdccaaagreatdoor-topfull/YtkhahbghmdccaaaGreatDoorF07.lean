/- Package seg: Decode, by contracts. Segments in numbers: their bytes, what is read from them, what they add up to. Segments in numbers, second part: bytes read as a segment and written again. Encode and Decode of segments that may be. What Decode answers, in two ways; what stands over a packet's segment; cross.under by contracts. -/
import Derived.Test.YtkhahbghmdccaaaGreatDoorF06
import Derived.Below
import Derived.OpenShut
import Derived.Test.YtkhahbghmdccaaaGreatDoorProg
import Derived.WalkKit
import Derived.LaidEql
import Derived.BigQuiet
import Derived.Laws.AppendOwnNone
import Derived.Laws.MakeOwn
import Derived.Deep.RegionLaw
import Derived.Lib.Bytes
import Derived.Deep.MidRow
import Derived.Laws.ResultCell
import Derived.Deep.CutBlock
import Derived.Deep.QuietTactic
import Derived.OwnWalk
import Derived.Deep.RegionHeld3
import Derived.Deep.DrawnRows
import Derived.Test.YtkhahbghmdccaaaGreatDoorF05
namespace Go.Proofs.YtkhahbghmdccaaaGreatDoor
open Go.RowKit
def sg0 : Value := .agg (sgC [] none 0 0)
set_option maxRecDepth 100000 in
set_option maxHeartbeats 4000000 in
theorem dec_len (k over : Int) (a : Option Addr) (len cap : Nat) (w : World) (hk : kn k = true) (ho : up 65535 over = true) (h : len < hn k ∨ hn k + 300 < len) (_hm : len ≤ maxLen) :
    Calls Tryz.prog 137 #[.int .i64 k, .slice a len cap, .int .i64 over] w fun e w' => e = .returned (.tuple #[sg0, err 5]) ∧ Below w.heap.size w w' := by
  unfold maxLen at _hm
  have HB := hide (al_below w (.cells zero7 39))
  have HP := hide (zero_new w)
  unfold zero7 at HB HP
  have HH := hide (fun W => head_any k W)
  have hh := hn_le k
  generalize hn k = H at HH hh h
  have hh' : (H : Int) ≤ 20 := by omega
  rcases h with h | h
  case' inl => have d1 : (len : Int) < (H : Int) := by omega
  case' inr =>
    have d1 : ¬ (len : Int) < (H : Int) := by omega
    have d2 : (H : Int) + 300 < (len : Int) := by omega
  all_goals
    clear h
    go_enter Tryz.func137, Tryz.ntmps137
    go_upto_region 1 with fail
    generalize w.alloc _ = W at HB HP ⊢
    go_upto_region 3 with (first
      | (go_at_call 186; refine (known_any _ _).mono ?_; rintro e w' ⟨rfl, rfl⟩)
      | (go_at_call 141; (with_reducible refine (upto1b _ _ _).mono ?_); rintro e w2 ⟨rfl, hb2⟩; replace HB := hide (bt HB.out hb2); replace HP := hide (HP.out.kept hb2); clear hb2))
    go_wp2_with (first
      | (go_at_call 179; refine (HH.out _).mono ?_; rintro e w' ⟨rfl, rfl⟩)
      | (refine at_store rfl (.tmp 6) (.tmp 35) rfl rfl HP.out [] none 0 0 rfl ?_; intro w5 p5 on5; replace HB := hide (on5.below HB.out (Nat.le_refl _)); replace p5 := hide p5; clear on5))
    try simp only [Exit.inBlock, Exit.then]
    refine bodyPost_ret (results_sg rfl _ _ w.heap.size [] none 0 0 rfl p5.out) rfl ?_
    exact ⟨rfl, HB.out⟩
set_option maxRecDepth 100000 in
set_option maxHeartbeats 8000000 in
theorem dec_encbad (k over : Int) (g off len cap : Nat) (zs : List Int) (w : World) (hr : Row8 w (some ⟨g, off, none⟩) len cap zs) (hk : kn k = true) (ho : up 65535 over = true) (h1 : hn k ≤ len) (h2 : len ≤ hn k + 300) (hcl : len ≤ cap) (hcm : cap ≤ maxLen) (hs : sf (rdz k zs) (len - hn k) ≠ 0) :
    Calls Tryz.prog 137 #[.int .i64 k, .slice (some ⟨g, off, none⟩) len cap, .int .i64 over] w fun e w' => e = .returned (.tuple #[sg0, err 5]) ∧ Below w.heap.size w w' := by
  have HB := hide (al_below w (.cells zero7 39))
  have HP := hide (zero_new w)
  have HZ := hide zero_new
  unfold zero7 at HB HP HZ
  have HH := hide (fun W => head_any k W)
  have hh := hn_le k
  have HRow := hide hr
  have HRead := hide (fun W (h : Row8 W (some ⟨g, off, none⟩) len cap zs) => read_any k g off len cap zs W h h1 (by omega) hcl hcm)
  have HE := hide (fun a' c' W => enc_err (rdz k zs) a' (len - hn k) c' over W (by unfold maxLen at *; omega) _ rfl hs)
  unfold err at HE
  generalize sf (rdz k zs) (len - hn k) = E at HE hs
  generalize hn k = H at HH hh h1 h2 HRead HE
  generalize rdz k zs = Z at HRead HE
  have hcm' := hcm
  unfold maxLen at hcm'
  have hh' : (H : Int) ≤ 20 := by omega
  have d1 : ¬ (len : Int) < (H : Int) := by omega
  have d2 : ¬ (H : Int) + 300 < (len : Int) := by omega
  clear hr hs
  go_enter Tryz.func137, Tryz.ntmps137
  go_upto_region 1 with fail
  generalize w.alloc _ = W0 at HB HP ⊢
  go_upto_region 3 with (first
    | (go_at_call 186; refine (known_any _ _).mono ?_; rintro e w' ⟨rfl, rfl⟩)
    | (go_at_call 141; (with_reducible refine (upto1b _ _ _).mono ?_); rintro e w2 ⟨rfl, hb2⟩; replace HB := hide (bt HB.out hb2); replace HP := hide (HP.out.kept hb2); clear hb2))
  go_upto_region 5 with (go_at_call 179; refine (HH.out _).mono ?_; rintro e w' ⟨rfl, rfl⟩)
  go_upto_region 6 with (first
    | (go_at_call 187; refine (HRead.out _ (HRow.out.below HB.out)).mono ?_; rintro e w1 ⟨a1, c1, rfl, hown1, hb1⟩; replace HB := hide (bt HB.out hb1); replace HP := hide (HP.out.kept hb1); clear hb1 hown1)
    | (refine at_store rfl (.tmp 8) (.tmp 39) rfl rfl (HZ.out w1) Z a1 (len - H) c1 rfl ?_; intro w2 p2 on2; replace p2 := hide p2; replace on2 := hide on2))
  have hB2 : Below w1.heap.size w1 w2 := on2.out.below (al_below w1 _) (Nat.le_refl _)
  replace HB := hide (bt HB.out hB2)
  replace HP := hide (HP.out.kept hB2)
  clear hB2 on2 HZ HRead
  generalize w1.heap.size = B1 at p2 ⊢
  go_upto_region 7 with (first
    | (refine at_load rfl (.tmp 8) rfl rfl p2.out ?_)
    | (go_at_call 89; refine (HE.out a1 c1 _).mono ?_; rintro e w3 ⟨rfl, hb3⟩; replace HB := hide (bt HB.out hb3); replace HP := hide (HP.out.kept hb3); clear hb3))
  go_wp2_with (first | (refine at_store rfl (.tmp 6) (.tmp 55) rfl rfl HP.out [] none 0 0 rfl ?_; intro w5 p5 on5; replace HB := hide (on5.below HB.out (Nat.le_refl _)); replace p5 := hide p5; clear on5))
  try simp only [Exit.inBlock, Exit.then]
  refine bodyPost_ret (results_sg rfl _ _ w.heap.size [] none 0 0 rfl p5.out) rfl ?_
  exact ⟨rfl, HB.out⟩
set_option maxRecDepth 100000 in
set_option maxHeartbeats 8000000 in
theorem dec_raw (k over : Int) (g off len cap : Nat) (zs : List Int) (w : World) (hr : Row8 w (some ⟨g, off, none⟩) len cap zs) (hk : kn k = true) (ho : up 65535 over = true) (h1 : hn k ≤ len) (h2 : len ≤ hn k + 300) (hcl : len ≤ cap) (hcm : cap ≤ maxLen) (hs : sf (rdz k zs) (len - hn k) = 0)
    (r1 r2 : Bool) (hr1 : ((eb (rdz k zs) over (zs.drop (hn k))).take (cn k) = zs.take (cn k) ∧ (eb (rdz k zs) over (zs.drop (hn k))).drop (cn k + 2) = zs.drop (cn k + 2)) ↔ r1 = true) (hr2 : eb (rdz k zs) over (zs.drop (hn k)) = zs ↔ r2 = true) :
    Calls Tryz.prog 137 #[.int .i64 k, .slice (some ⟨g, off, none⟩) len cap, .int .i64 over] w fun e w' => ((r1 = false ∧ e = .returned (.tuple #[sg0, err 5])) ∨ (r1 = true ∧ r2 = false ∧ e = .returned (.tuple #[sg0, err 6])) ∨
      (r1 = true ∧ r2 = true ∧ ∃ a' c', e = .returned (.tuple #[.agg (sgC (rdz k zs) a' (len - hn k) c'), .nilIface]) ∧ Row8 w' a' (len - hn k) c' (zs.drop (hn k)))) ∧ Below w.heap.size w w' := by
  have hlen := hr.1
  have HB := hide (al_below w (.cells zero7 39))
  have HP := hide (zero_new w)
  have HZ := hide zero_new
  unfold zero7 at HB HP HZ
  have HH := hide (fun W => head_any k W)
  have hh := hn_le k
  have hp : 8 ≤ hn k := by unfold hn; split <;> omega
  have HRow := hide hr
  have HRead := hide (fun W (h : Row8 W (some ⟨g, off, none⟩) len cap zs) => read_any k g off len cap zs W h h1 (by omega) hcl hcm)
  have HE := hide (fun a' c' W (h : Row8 W a' (len - hn k) c' (zs.drop (hn k))) => enc_ok (rdz k zs) a' (len - hn k) c' over (zs.drop (hn k)) W hs ho h)
  have hk0 : el (rdz k zs) 0 = k := by unfold rdz; split <;> rfl
  have HEL := hide (show (eb (rdz k zs) over (zs.drop (hn k))).length = len by rw [eb_len, hk0, List.length_drop, hlen]; omega)
  have HAl := hide (fun gx cx W rx rz hc hm => alike_any k gx 0 len cx g off len cap (eb (rdz k zs) over (zs.drop (hn k))) zs W rx rz h1 h1 hc hcl hm hcm r1 hr1)
  have HSame := hide hr2
  clear hr hr1 hr2 hs hk0
  generalize eb (rdz k zs) over (zs.drop (hn k)) = EB at HE HEL HAl HSame
  generalize zs.drop (hn k) = D at HRead HE ⊢
  generalize hn k = H at HH hh h1 h2 HRead HE hp ⊢
  generalize rdz k zs = Z at HRead HE ⊢
  have hcm' := hcm
  unfold maxLen at hcm'
  have hh' : (H : Int) ≤ 20 := by omega
  have d1 : ¬ (len : Int) < (H : Int) := by omega
  have d2 : ¬ (H : Int) + 300 < (len : Int) := by omega
  go_enter Tryz.func137, Tryz.ntmps137
  go_upto_region 1 with fail
  generalize w.alloc _ = W0 at HB HP ⊢
  go_upto_region 3 with (first
    | (go_at_call 186; refine (known_any _ _).mono ?_; rintro e w' ⟨rfl, rfl⟩)
    | (go_at_call 141; (with_reducible refine (upto1b _ _ _).mono ?_); rintro e w2 ⟨rfl, hb2⟩; replace HB := hide (bt HB.out hb2); replace HP := hide (HP.out.kept hb2); clear hb2))
  go_upto_region 5 with (go_at_call 179; refine (HH.out _).mono ?_; rintro e w' ⟨rfl, rfl⟩)
  have hlW := hide HP.out.lt
  go_upto_region 6 with (first
    | (go_at_call 187; refine (HRead.out _ (HRow.out.below HB.out)).mono ?_; rintro e w1 ⟨a1, c1, rfl, hown1, hb1⟩; replace HB := hide (bt HB.out hb1); replace HP := hide (HP.out.kept hb1); replace hown1 := hide hown1; clear hb1)
    | (refine at_store rfl (.tmp 8) (.tmp 39) rfl rfl (HZ.out w1) Z a1 (len - H) c1 rfl ?_; intro w2 p2 on2; replace p2 := hide p2; replace on2 := hide on2))
  have hB2 : Below w1.heap.size w1 w2 := on2.out.below (al_below w1 _) (Nat.le_refl _)
  replace HB := hide (bt HB.out hB2)
  replace HP := hide (HP.out.kept hB2)
  replace hown1 := hide (hown1.out.kept hB2)
  clear hB2 on2 HZ HRead
  generalize w1.heap.size = B1 at p2 ⊢
  go_upto_region 7 with (first
    | (refine at_load rfl (.tmp 8) rfl rfl p2.out ?_)
    | (go_at_call 89; refine (HE.out a1 c1 _ hown1.out.toRow).mono ?_; rintro e w3 ⟨v, rfl, ho3, hb3⟩; obtain ⟨gE, cE, hv, hE1, hE2, -, -, hrowE⟩ := ho3.form (by rw [HEL.out]; omega); rw [HEL.out] at hE1 hrowE hv; subst hv; replace HB := hide (bt HB.out hb3); replace HP := hide (HP.out.kept hb3); replace p2 := hide (p2.out.kept hb3); replace hown1 := hide (hown1.out.kept hb3); replace hrowE := hide hrowE; clear hb3 ho3))
  cases r1
  · go_wp2_with (first
      | (go_at_call 188; refine (HAl.out _ _ _ hrowE.out (HRow.out.below HB.out) hE1 hE2).mono ?_; rintro e w4 ⟨rfl, hb4⟩; replace HB := hide (bt HB.out hb4); replace HP := hide (HP.out.kept hb4); clear hb4)
      | (refine at_store rfl (.tmp 6) (.tmp 55) rfl rfl HP.out [] none 0 0 rfl ?_; intro w5 p5 on5; replace HB := hide (on5.below HB.out (Nat.le_refl _)); replace p5 := hide p5; clear on5))
    try simp only [Exit.inBlock, Exit.then]
    refine bodyPost_ret (results_sg rfl _ _ w.heap.size [] none 0 0 rfl p5.out) rfl ?_
    exact ⟨rfl, HB.out⟩
  · go_upto_region 9 with (go_at_call 188; refine (HAl.out _ _ _ hrowE.out (HRow.out.below HB.out) hE1 hE2).mono ?_; rintro e w4 ⟨rfl, hb4⟩; replace HB := hide (bt HB.out hb4); replace HP := hide (HP.out.kept hb4); replace p2 := hide (p2.out.kept hb4); replace hown1 := hide (hown1.out.kept hb4); replace hrowE := hide (hrowE.out.below hb4); clear hb4)
    have HEq := hide (equal_any _ _ _ _ _ _ _ _ _ hrowE.out (HRow.out.below HB.out) r2 HSame.out)
    cases r2
    · go_wp2_with (first
        | (go_at_call 72; refine HEq.out.mono ?_; rintro e w6 ⟨rfl, rfl⟩)
        | (refine at_store rfl (.tmp 6) (.tmp 61) rfl rfl HP.out [] none 0 0 rfl ?_; intro w5 p5 on5; replace HB := hide (on5.below HB.out (Nat.le_refl _)); replace p5 := hide p5; clear on5))
      try simp only [Exit.inBlock, Exit.then]
      refine bodyPost_ret (results_sg rfl _ _ w.heap.size [] none 0 0 rfl p5.out) rfl ?_
      exact ⟨rfl, HB.out⟩
    · go_wp2_with (first
        | (go_at_call 72; refine HEq.out.mono ?_; rintro e w6 ⟨rfl, rfl⟩)
        | (refine at_load rfl (.tmp 8) rfl rfl p2.out ?_)
        | (refine at_store rfl (.tmp 6) (.tmp 63) rfl rfl HP.out Z a1 (len - H) c1 rfl ?_; intro w5 p5 on5; replace HB := hide (on5.below HB.out (Nat.le_refl _)); replace hown1 := hide (hown1.out.only on5 (HP.out.ne hown1.out)); replace p5 := hide p5; clear on5))
      try simp only [Exit.inBlock, Exit.then]
      refine bodyPost_ret (results_sg rfl _ _ w.heap.size Z a1 (len - H) c1 rfl p5.out) rfl ?_
      exact ⟨⟨a1, c1, rfl, hown1.out.toRow⟩, HB.out⟩
end Go.Proofs.YtkhahbghmdccaaaGreatDoor

namespace Go.Proofs.YtkhahbghmdccaaaGreatDoor
open Go.RowKit
theorem up_iff (m n : Int) : up m n = true ↔ 0 ≤ n ∧ n ≤ m := by unfold up; simp
theorem ups2 (m x y : Int) : ups m [x, y] = true ↔ (0 ≤ x ∧ x ≤ m) ∧ (0 ≤ y ∧ y ≤ m) := by simp [ups, up_iff]
theorem ups4 (m x y u v : Int) : ups m [x, y, u, v] = true ↔ (0 ≤ x ∧ x ≤ m) ∧ (0 ≤ y ∧ y ≤ m) ∧ (0 ≤ u ∧ u ≤ m) ∧ (0 ≤ v ∧ v ≤ m) := by simp [ups, up_iff]
theorem os_iff (z : List Int) : os z = true ↔ ((0 ≤ el z 3 ∧ el z 3 ≤ 4294967295) ∧ (0 ≤ el z 4 ∧ el z 4 ≤ 4294967295)) ∧ (0 ≤ el z 5 ∧ el z 5 ≤ 31) ∧ (0 ≤ el z 6 ∧ el z 6 ≤ 65535) := by
  unfold os
  simp only [Bool.and_eq_true, ups2, up_iff, and_assoc]
theorem kn_iff (k : Int) : kn k = true ↔ k = 6 ∨ k = 17 := by simp [kn]
def Okg (z : List Int) (len : Nat) : Prop := (0 ≤ el z 1 ∧ el z 1 ≤ 65535) ∧ (0 ≤ el z 2 ∧ el z 2 ≤ 65535) ∧ len ≤ 300 ∧
  ((el z 0 = 6 ∧ (0 ≤ el z 3 ∧ el z 3 ≤ 4294967295) ∧ (0 ≤ el z 4 ∧ el z 4 ≤ 4294967295) ∧ (0 ≤ el z 5 ∧ el z 5 ≤ 31) ∧ (0 ≤ el z 6 ∧ el z 6 ≤ 65535)) ∨
   (el z 0 = 17 ∧ el z 3 = 0 ∧ el z 4 = 0 ∧ el z 5 = 0 ∧ el z 6 = 0))
theorem sf_iff (z : List Int) (len : Nat) : sf z len = 0 ↔ Okg z len := by
  unfold sf Okg
  by_cases h1 : kn (el z 0) = true ∧ ups 65535 [el z 1, el z 2] = true
  · rw [if_neg (by simp [h1])]
    have hk := (kn_iff _).1 h1.1
    have hu := (ups2 _ _ _).1 h1.2
    by_cases h6 : el z 0 = 6
    · rw [if_pos h6]
      have ho := os_iff z
      cases hos : os z
      · rw [hos] at ho
        simp only [if_true]
        refine ⟨fun h => by omega, fun ⟨_, _, _, h⟩ => ?_⟩
        rcases h with ⟨_, a, b, c, d⟩ | ⟨e, _⟩
        · exact absurd (ho.2 ⟨⟨a, b⟩, c, d⟩) (by decide)
        · omega
      · have ho' := ho.1 hos
        simp only [Bool.true_eq_false, if_false]
        split <;> omega
    · rw [if_neg h6]
      have hn := ups4 0 (el z 3) (el z 4) (el z 5) (el z 6)
      cases hun : ups 0 [el z 3, el z 4, el z 5, el z 6]
      · rw [hun] at hn
        simp only [if_true]
        refine ⟨fun h => by omega, fun ⟨_, _, _, h⟩ => ?_⟩
        rcases h with ⟨e, _⟩ | ⟨_, a, b, c, d⟩
        · exact absurd e h6
        · exact absurd (hn.2 (by omega)) (by decide)
      · have hn' := hn.1 hun
        simp only [Bool.true_eq_false, if_false]
        split <;> omega
  · rw [if_pos (by
      cases h2 : kn (el z 0)
      · rfl
      · cases h3 : ups 65535 [el z 1, el z 2]
        · rfl
        · exact absurd ⟨h2, h3⟩ h1)]
    refine ⟨fun h => by omega, fun ⟨a, b, _, h⟩ => absurd ⟨(kn_iff _).2 (by omega), (ups2 _ _ _).2 ⟨a, b⟩⟩ h1⟩
def hdT (f t q c g v C : Int) : List Int := [f / 256, f % 256, t / 256, t % 256, q / 16777216, q / 65536 % 256, q / 256 % 256, q % 256, c / 16777216, c / 65536 % 256, c / 256 % 256, c % 256, 80, g, v / 256, v % 256, C / 256, C % 256, 0, 0]
def hdU (f t n C : Int) : List Int := [f / 256, f % 256, t / 256, t % 256, n / 256, n % 256, C / 256, C % 256]
theorem nb4 (x : Int) (h0 : 0 ≤ x) (h1 : x ≤ 4294967295) : nb 4 x = [x / 16777216, x / 65536 % 256, x / 256 % 256, x % 256] := by
  show [x / 256 ^ 3 % 256, x / 256 ^ 2 % 256, x / 256 ^ 1 % 256, x / 256 ^ 0 % 256] = _
  rw [show x / 256 ^ 3 % 256 = x / 16777216 by omega, show x / 256 ^ 2 % 256 = x / 65536 % 256 by omega, show x / 256 ^ 1 % 256 = x / 256 % 256 by omega, show x / 256 ^ 0 % 256 = x % 256 by omega]
theorem nb1 (x : Int) (h0 : 0 ≤ x) (h1 : x ≤ 255) : nb 1 x = [x] := by
  show [x / 256 ^ 0 % 256] = _
  rw [show x / 256 ^ 0 % 256 = x by omega]
theorem ub_tcp (z data : List Int) (h : Okg z data.length) (h6 : el z 0 = 6) : ub z data = hdT (el z 1) (el z 2) (el z 3) (el z 4) (el z 5) (el z 6) 0 ++ data := by
  obtain ⟨hf, ht, _, h⟩ := h
  obtain ⟨_, hq, hc, hg, hv⟩ : el z 0 = 6 ∧ (0 ≤ el z 3 ∧ el z 3 ≤ 4294967295) ∧ (0 ≤ el z 4 ∧ el z 4 ≤ 4294967295) ∧ (0 ≤ el z 5 ∧ el z 5 ≤ 31) ∧ (0 ≤ el z 6 ∧ el z 6 ≤ 65535) := by
    rcases h with h | h
    · exact h
    · omega
  unfold ub
  rw [if_pos h6]
  show (((([] ++ nb 2 (el z 1)) ++ nb 2 (el z 2)) ++ (([] ++ nb 4 (el z 3)) ++ nb 4 (el z 4))) ++ (([] ++ nb 1 80) ++ nb 1 (el z 5)) ++ ((([] ++ nb 2 (el z 6)) ++ nb 2 0) ++ nb 2 0)) ++ data = _
  rw [nb2 _ hf.1 hf.2, nb2 _ ht.1 ht.2, nb4 _ hq.1 hq.2, nb4 _ hc.1 hc.2, nb1 80 (by omega) (by omega), nb1 _ hg.1 (by omega), nb2 _ hv.1 hv.2, nb2 0 (by omega) (by omega)]
  rfl
theorem ub_udp (z data : List Int) (h : Okg z data.length) (h6 : ¬ el z 0 = 6) : ub z data = hdU (el z 1) (el z 2) (8 + data.length) 0 ++ data := by
  obtain ⟨hf, ht, hl, _⟩ := h
  unfold ub
  rw [if_neg h6]
  show ((([] ++ nb 2 (el z 1)) ++ nb 2 (el z 2)) ++ (([] ++ nb 2 (8 + (data.length : Int))) ++ nb 2 0)) ++ data = _
  rw [nb2 _ hf.1 hf.2, nb2 _ ht.1 ht.2, nb2 (8 + (data.length : Int)) (by omega) (by omega), nb2 0 (by omega) (by omega)]
  rfl
theorem eb_tcp (z : List Int) (over : Int) (data : List Int) (h : Okg z data.length) (h6 : el z 0 = 6) : eb z over data = hdT (el z 1) (el z 2) (el z 3) (el z 4) (el z 5) (el z 6) (sck z over data) ++ data := by
  unfold eb
  generalize sck z over data = C
  rw [ub_tcp z data h h6, show cn (el z 0) = 16 by unfold cn; rw [if_pos h6]]
  rfl
theorem eb_udp (z : List Int) (over : Int) (data : List Int) (h : Okg z data.length) (h6 : ¬ el z 0 = 6) : eb z over data = hdU (el z 1) (el z 2) (8 + data.length) (sck z over data) ++ data := by
  unfold eb
  generalize sck z over data = C
  rw [ub_udp z data h h6, show cn (el z 0) = 6 by unfold cn; rw [if_neg h6]]
  rfl
end Go.Proofs.YtkhahbghmdccaaaGreatDoor

namespace Go.Proofs.YtkhahbghmdccaaaGreatDoor
open Go.RowKit
theorem num_1 (zs : List Int) (j : Nat) : num (zs.drop j) 1 = zs.getD j 0 := by
  simp only [num, P4.getD_drop, Nat.add_zero]; omega
theorem num_2 (zs : List Int) (j : Nat) : num (zs.drop j) 2 = zs.getD j 0 * 256 + zs.getD (j + 1) 0 := by
  simp only [num, P4.getD_drop, Nat.add_zero]; omega
theorem num_4 (zs : List Int) (j : Nat) : num (zs.drop j) 4 = ((zs.getD j 0 * 256 + zs.getD (j + 1) 0) * 256 + zs.getD (j + 2) 0) * 256 + zs.getD (j + 3) 0 := by
  simp only [num, P4.getD_drop, Nat.add_zero]; omega
theorem num_20 (zs : List Int) : num zs 2 = zs.getD 0 0 * 256 + zs.getD 1 0 := num_2 zs 0
theorem rdz_tcp (zs : List Int) : el (rdz 6 zs) 0 = 6 ∧ el (rdz 6 zs) 1 = zs.getD 0 0 * 256 + zs.getD 1 0 ∧ el (rdz 6 zs) 2 = zs.getD 2 0 * 256 + zs.getD 3 0 ∧ el (rdz 6 zs) 3 = ((zs.getD 4 0 * 256 + zs.getD 5 0) * 256 + zs.getD 6 0) * 256 + zs.getD 7 0 ∧ el (rdz 6 zs) 4 = ((zs.getD 8 0 * 256 + zs.getD 9 0) * 256 + zs.getD 10 0) * 256 + zs.getD 11 0 ∧ el (rdz 6 zs) 5 = zs.getD 13 0 ∧ el (rdz 6 zs) 6 = zs.getD 14 0 * 256 + zs.getD 15 0 :=
  ⟨rfl, num_20 zs, num_2 zs 2, num_4 zs 4, num_4 zs 8, num_1 zs 13, num_2 zs 14⟩
theorem rdz_udp (zs : List Int) : el (rdz 17 zs) 0 = 17 ∧ el (rdz 17 zs) 1 = zs.getD 0 0 * 256 + zs.getD 1 0 ∧ el (rdz 17 zs) 2 = zs.getD 2 0 * 256 + zs.getD 3 0 ∧ el (rdz 17 zs) 3 = 0 ∧ el (rdz 17 zs) 4 = 0 ∧ el (rdz 17 zs) 5 = 0 ∧ el (rdz 17 zs) 6 = 0 :=
  ⟨rfl, num_20 zs, num_2 zs 2, rfl, rfl, rfl, rfl⟩
theorem getD_app (xs ys : List Int) (j : Nat) (h : j < xs.length) : (xs ++ ys).getD j 0 = xs.getD j 0 := by
  rw [List.getD_eq_getElem?_getD, List.getD_eq_getElem?_getD, List.getElem?_append_left h]
theorem drop_app (xs ys : List Int) (n : Nat) (h : xs.length = n) : (xs ++ ys).drop n = ys := by
  subst h
  simp
theorem rd_eb (z : List Int) (over : Int) (data : List Int) (h : Okg z data.length) (j : Nat) (hj : j < 7) : el (rdz (el z 0) (eb z over data)) j = el z j := by
  have hh := h
  obtain ⟨hf, ht, _, hc⟩ := h
  rcases hc with ⟨h6, hq, hc, hg, hv⟩ | ⟨h17, hq, hc, hg, hv⟩
  · rw [eb_tcp z over data hh h6, h6]
    obtain ⟨e0, e1, e2, e3, e4, e5, e6⟩ := rdz_tcp (hdT (el z 1) (el z 2) (el z 3) (el z 4) (el z 5) (el z 6) (sck z over data) ++ data)
    generalize sck z over data = C at *
    have g : ∀ i, i < 20 → (hdT (el z 1) (el z 2) (el z 3) (el z 4) (el z 5) (el z 6) C ++ data).getD i 0 = (hdT (el z 1) (el z 2) (el z 3) (el z 4) (el z 5) (el z 6) C).getD i 0 := fun i hi => getD_app _ _ i hi
    rw [g 0 (by omega), g 1 (by omega)] at e1
    rw [g 2 (by omega), g 3 (by omega)] at e2
    rw [g 4 (by omega), g 5 (by omega), g 6 (by omega), g 7 (by omega)] at e3
    rw [g 8 (by omega), g 9 (by omega), g 10 (by omega), g 11 (by omega)] at e4
    rw [g 13 (by omega)] at e5
    rw [g 14 (by omega), g 15 (by omega)] at e6
    simp only [hdT, List.getD_cons_zero, List.getD_cons_succ] at e1 e2 e3 e4 e5 e6
    rcases (by omega : j = 0 ∨ j = 1 ∨ j = 2 ∨ j = 3 ∨ j = 4 ∨ j = 5 ∨ j = 6) with rfl | rfl | rfl | rfl | rfl | rfl | rfl
    · rw [e0, h6]
    · rw [show rdz 6 _ = rdz 6 _ from rfl]; unfold hdT; rw [e1]; omega
    · unfold hdT; rw [e2]; omega
    · unfold hdT; rw [e3]; omega
    · unfold hdT; rw [e4]; omega
    · unfold hdT; rw [e5]
    · unfold hdT; rw [e6]; omega
  · have h6 : ¬ el z 0 = 6 := by omega
    rw [eb_udp z over data hh h6, h17]
    obtain ⟨e0, e1, e2, e3, e4, e5, e6⟩ := rdz_udp (hdU (el z 1) (el z 2) (8 + data.length) (sck z over data) ++ data)
    generalize sck z over data = C at *
    have g : ∀ i, i < 8 → (hdU (el z 1) (el z 2) (8 + data.length) C ++ data).getD i 0 = (hdU (el z 1) (el z 2) (8 + data.length) C).getD i 0 := fun i hi => getD_app _ _ i hi
    rw [g 0 (by omega), g 1 (by omega)] at e1
    rw [g 2 (by omega), g 3 (by omega)] at e2
    simp only [hdU, List.getD_cons_zero, List.getD_cons_succ] at e1 e2
    rcases (by omega : j = 0 ∨ j = 1 ∨ j = 2 ∨ j = 3 ∨ j = 4 ∨ j = 5 ∨ j = 6) with rfl | rfl | rfl | rfl | rfl | rfl | rfl
    · rw [e0, h17]
    · unfold hdU; rw [e1]; omega
    · unfold hdU; rw [e2]; omega
    · rw [e3, hq]
    · rw [e4, hc]
    · rw [e5, hg]
    · rw [e6, hv]
theorem drop_eb (z : List Int) (over : Int) (data : List Int) (h : Okg z data.length) : (eb z over data).drop (hn (el z 0)) = data := by
  by_cases h6 : el z 0 = 6
  · rw [eb_tcp z over data h h6, show hn (el z 0) = 20 by unfold hn; rw [if_pos h6]]
    exact drop_app _ _ 20 rfl
  · rw [eb_udp z over data h h6, show hn (el z 0) = 8 by unfold hn; rw [if_neg h6]]
    exact drop_app _ _ 8 rfl
theorem sgC_congr (z z' : List Int) (h : ∀ j, j < 7 → el z j = el z' j) (a : Option Addr) (len cap : Nat) : sgC z a len cap = sgC z' a len cap := by
  unfold sgC
  rw [h 0 (by omega), h 1 (by omega), h 2 (by omega), h 3 (by omega), h 4 (by omega), h 5 (by omega), h 6 (by omega)]
theorem eb_congr (z z' : List Int) (h : ∀ j, j < 7 → el z j = el z' j) (over : Int) (data : List Int) : eb z over data = eb z' over data := by
  unfold eb sck ub
  rw [h 0 (by omega), h 1 (by omega), h 2 (by omega), h 3 (by omega), h 4 (by omega), h 5 (by omega), h 6 (by omega)]
theorem sf_congr (z z' : List Int) (h : ∀ j, j < 7 → el z j = el z' j) (n : Nat) : sf z n = sf z' n := by
  unfold sf os
  rw [h 0 (by omega), h 1 (by omega), h 2 (by omega), h 3 (by omega), h 4 (by omega), h 5 (by omega), h 6 (by omega)]
end Go.Proofs.YtkhahbghmdccaaaGreatDoor

namespace Go.Proofs.YtkhahbghmdccaaaGreatDoor
open Go.RowKit
theorem okg_kn {z : List Int} {len : Nat} (h : Okg z len) : kn (el z 0) = true := (kn_iff _).2 (by obtain ⟨_, _, _, h | h⟩ := h <;> omega)
theorem enc_form (z : List Int) (a : Option Addr) (len cap : Nat) (over : Int) (data : List Int) (w : World) (h : Okg z len) (ho : up 65535 over = true) (hr : Row8 w a len cap data) :
    Calls Tryz.prog 89 #[.agg (sgC z a len cap), .int .i64 over] w fun e w' => ∃ g c, e = .returned (.tuple #[.slice (some ⟨g, 0, none⟩) (hn (el z 0) + len) c, .nilIface]) ∧ hn (el z 0) + len ≤ c ∧ c ≤ maxLen ∧ w.heap.size ≤ g ∧ Row8 w' (some ⟨g, 0, none⟩) (hn (el z 0) + len) c (eb z over data) ∧ Below w.heap.size w w' := by
  refine (enc_ok z a len cap over data w ((sf_iff _ _).2 h) ho hr).mono ?_
  rintro e w' ⟨v, rfl, hown, hb⟩
  have hlen : (eb z over data).length = hn (el z 0) + len := by rw [eb_len, hr.1]
  have hp : 0 < hn (el z 0) := by unfold hn; split <;> omega
  obtain ⟨g, c, rfl, h1, h2, h3, _, h4⟩ := hown.form (by omega)
  rw [hlen] at h1 h4 ⊢
  exact ⟨g, c, rfl, h1, h2, h3, h4, hb⟩
theorem eb_oct (z : List Int) (over : Int) (data : List Int) (hd : SM.Oct data) (ho : up 65535 over = true) : SM.Oct (eb z over data) := by
  have hc := sck_in z over data hd ho
  exact SM.oct_set _ (SM.oct_set _ (ub_oct z data hd) _ _ (by omega) (by omega)) _ _ (by omega) (by omega)
theorem dec_own (z : List Int) (g off n cap : Nat) (over : Int) (data : List Int) (w : World) (h : Okg z data.length) (ho : up 65535 over = true) (hr : Row8 w (some ⟨g, off, none⟩) n cap (eb z over data)) (hcl : n ≤ cap) (hcm : cap ≤ maxLen) :
    Calls Tryz.prog 137 #[.int .i64 (el z 0), .slice (some ⟨g, off, none⟩) n cap, .int .i64 over] w fun e w' => ∃ a' l' c', e = .returned (.tuple #[.agg (sgC z a' l' c'), .nilIface]) ∧ Row8 w' a' l' c' data ∧ Below w.heap.size w w' := by
  have hlen := hr.1
  rw [eb_len] at hlen
  have hz := fun j hj => rd_eb z over data h j hj
  have hd := drop_eb z over data h
  have e2 : n - hn (el z 0) = data.length := by omega
  have hl := h.2.2.1
  have he := eb_congr _ _ hz over data
  have hraw := dec_raw (el z 0) over g off n cap (eb z over data) w hr (okg_kn h) ho (by omega) (by omega) hcl hcm (by rw [e2, sf_congr _ _ hz]; exact (sf_iff _ _).2 h) true true (by rw [hd, he]; simp) (by rw [hd, he]; simp)
  refine hraw.mono ?_
  rintro e w' ⟨hh, hb⟩
  rcases hh with ⟨h1, _⟩ | ⟨_, h1, _⟩ | ⟨_, _, a', c', h1, h2⟩
  · cases h1
  · cases h1
  · rw [sgC_congr _ _ hz] at h1
    rw [hd] at h2
    exact ⟨a', _, c', h1, h2, hb⟩
end Go.Proofs.YtkhahbghmdccaaaGreatDoor

namespace Go.Proofs.YtkhahbghmdccaaaGreatDoor
open Go.RowKit
def o6 (s d : List Int) (k n : Int) : Int := ovs (by16 s 8 ++ by16 d 8) k n
def o4 (s d : Int) (k n : Int) : Int := ovs (wsn 4 [s, d] 2) k n
theorem ovs_in (zs : List Int) (k n : Int) (h : SM.Oct zs) : up 65535 (ovs zs k n) = true := by
  have hb := SM.tot_bd (zs ++ wsn 2 [k, n] 2) (SM.oct_append _ _ h (wsn_oct _ _ _)) (zs.length + 4)
  exact decide_eq_true (SM.fold_bd _ hb.1)
theorem o6_in (s d : List Int) (k n : Int) (hs : Ok6 s) (hd : Ok6 d) : up 65535 (o6 s d k n) = true := ovs_in _ _ _ (SM.oct_append _ _ (oct_by16 s hs 8 (by omega)) (oct_by16 d hd 8 (by omega)))
theorem o4_in (s d : Int) (k n : Int) : up 65535 (o4 s d k n) = true := ovs_in _ _ _ (wsn_oct _ _ _)
theorem over6_ok (s d : List Int) (k n : Int) (w : World) (hs : Ok6 s) (hd : Ok6 d) (hk : up 255 k = true) (hn : up 320 n = true) :
    Calls Tryz.prog 88 #[.agg (sixC s), .agg (sixC d), .int .i64 k, .int .i64 n] w fun e w' => e = .returned (.tuple #[.int .i64 (o6 s d k n), .nilIface]) ∧ Below w.heap.size w w' :=
  over6_any s d k n w hs hd _ _ (fun W0 W v hg => overof_ok W0 W v _ k n hg (by rw [List.length_append, by16_len, by16_len]; omega) hk hn)
theorem over4_o (s d k n : Int) (w : World) (hs : up 4294967295 s = true) (hd : up 4294967295 d = true) (hk : up 255 k = true) (hn : up 320 n = true) :
    Calls Tryz.prog 127 #[.int .i64 s, .int .i64 d, .int .i64 k, .int .i64 n] w fun e w' => e = .returned (.tuple #[.int .i64 (o4 s d k n), .nilIface]) ∧ Below w.heap.size w w' := over4_ok s d k n w hs hd hk hn
theorem new_below {w w' : World} (o : Obj) (h : Only w.heap.size (w.alloc o) w') : Below w.heap.size w w' := h.below (al_below w o) (Nat.le_refl _)
end Go.Proofs.YtkhahbghmdccaaaGreatDoor
