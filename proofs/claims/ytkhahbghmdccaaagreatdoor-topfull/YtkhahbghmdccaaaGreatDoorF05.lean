/- Package seg: checkOf and Encode, by contracts. -/
import Derived.Test.YtkhahbghmdccaaaGreatDoorF04
import Derived.Below
import Derived.OpenShut
import Derived.Test.YtkhahbghmdccaaaGreatDoorProg
import Derived.WalkKit
import Derived.LaidEql
import Derived.BigQuiet
import Derived.Laws.AppendOwnNone
import Derived.Laws.MakeOwn
import Derived.Deep.RegionLaw
import Derived.Lib.Bytes
import Derived.Deep.MidRow
import Derived.Laws.ResultCell
import Derived.Deep.CutBlock
import Derived.Deep.QuietTactic
import Derived.OwnWalk
import Derived.Deep.RegionHeld3
import Derived.Deep.DrawnRows
namespace Go.Proofs.YtkhahbghmdccaaaGreatDoor
open Go.RowKit
attribute [local go_sem ↓] Go.wp_at_zero Go.wp_at_succ
theorem Own.set {base : Nat} {w : World} {g n c : Nat} {zs : List Int} (h : Own base w (.slice (some ⟨g, 0, none⟩) n c) zs) (j : Nat) (v : Int) (hv : 0 ≤ v ∧ v ≤ 255) : Own base (w.setCell ⟨g, j, none⟩ (.int .u8 v)) (.slice (some ⟨g, 0, none⟩) n c) (zs.set j v) := by
  refine ⟨SM.oct_set _ h.1 j v hv.1 hv.2, by simp, ?_⟩
  rcases h.2.2 with ⟨e, _⟩ | ⟨g', cap, cur, e, hb, hg, h1, h2, h3, h4⟩
  · cases e
  · injection e with e1 e2 e3
    cases e1
    subst e3
    refine .inr ⟨g, c, cur.setIfInBounds j (.int .u8 v), by rw [e2, List.length_set], hb, ?_, by rw [List.length_set]; exact h1, h2, by simpa using h3, ?_⟩
    · rw [setCell_eq_setRow w g j _ 5 (0, 0) (.int .u8 v) hg, setRow_heap w g _ _ 5 (0, 0) hg]
    · rw [List.length_set, Array.toList_setIfInBounds, List.map_set, ← h4, List.take_set]
theorem Own.cell {base : Nat} {w : World} {g n c : Nat} {zs : List Int} (h : Own base w (.slice (some ⟨g, 0, none⟩) n c) zs) (j : Nat) (hj : j < n) : w.cell? ⟨g, j, none⟩ = some (.int .u8 (zs.getD j 0)) ∧ w.frozen? ⟨g, j, none⟩ = false := by
  constructor
  · obtain ⟨_, _, _, _, h5⟩ := h.toRow
    obtain ⟨b, o, e, hc⟩ := h5 (by omega)
    cases e
    have := hc j hj
    rwa [Nat.zero_add] at this
  · rcases h.2.2 with ⟨e, _⟩ | ⟨g', cap, cur, e, hb, hg, h1, h2, h3, h4⟩
    · cases e
    · injection e with e1 e2 e3
      cases e1
      simp [World.frozen?, hg]
def ckg (k over T : Int) : Int := if k = 17 ∧ SM.fold (over + T) = 65535 then 65535 else 65535 - SM.fold (over + T)
theorem ckg_in (k over T : Int) (h0 : 0 ≤ over) (h1 : 0 ≤ T) : 0 ≤ ckg k over T ∧ ckg k over T ≤ 65535 := by
  have := SM.fold_bd (over + T) (by omega)
  unfold ckg
  split <;> omega
set_option maxHeartbeats 2000000 in
theorem checkof_any (k over : Int) (a : Option Addr) (n cap : Nat) (zs : List Int) (w : World) (hr : Row8 w a n cap zs) (hn : n ≤ 2000) (ho : up 65535 over = true) :
    Calls Tryz.prog 143 #[.int .i64 k, .slice a n cap, .int .i64 over] w fun e w' => e = .returned (.tuple #[.int .i64 (ckg k over (SM.fold (SM.tot zs n))), .nilIface]) ∧ Below w.heap.size w w' := by
  obtain ⟨ho0, ho1⟩ := up_true ho
  have hT := SM.fold_bd (SM.tot zs n) (SM.tot_bd zs hr.2.2.1 n).1
  have HOf := hide (fun W (h : Row8 W a n cap zs) => of_ok a n cap zs W h hn)
  have HR := hide hr
  clear hr ho
  generalize SM.fold (SM.tot zs n) = T at hT HOf ⊢
  have HAdd := hide (fun W => add_ok over T W ⟨⟨ho0, ho1⟩, hT⟩)
  have hS := SM.fold_bd (over + T) (by omega)
  obtain ⟨C, hC⟩ : ∃ C, C = ckg k over T := ⟨_, rfl⟩
  rw [← hC]
  unfold ckg at hC
  generalize SM.fold (over + T) = S at hS HAdd hC
  have HNot := hide (fun W => not_ok S W hS)
  by_cases hk : k = 17
  · have ek : (k == 17) = true := by simpa using hk
    by_cases hs : S = 65535
    · have es : (S == 65535) = true := by simpa using hs
      have HC := hide (show C = 65535 by rw [hC, if_pos ⟨hk, hs⟩])
      clear hC hk hs
      go_enter Tryz.func143, Tryz.ntmps143
      go_wp2_with (first
        | (go_at_call 182; refine (HOf.out _ HR.out).mono ?_; rintro e w1 ⟨rfl, rfl⟩)
        | (go_at_call 190; refine (HAdd.out _).mono ?_; rintro e w2 ⟨rfl, hb2⟩; replace hb2 := hide hb2))
      go_ret2
      exact ⟨by rw [HC.out]; rfl, hb2.out⟩
    · have es : (S == 65535) = false := by simpa using hs
      have HC := hide (show C = 65535 - S by rw [hC, if_neg (fun h => hs h.2)])
      clear hC hk hs
      go_enter Tryz.func143, Tryz.ntmps143
      go_wp2_with (first
        | (go_at_call 182; refine (HOf.out _ HR.out).mono ?_; rintro e w1 ⟨rfl, rfl⟩)
        | (go_at_call 190; refine (HAdd.out _).mono ?_; rintro e w2 ⟨rfl, hb2⟩; replace hb2 := hide hb2)
        | (go_at_call 183; refine (HNot.out _).mono ?_; rintro e w3 ⟨rfl, hb3⟩; replace hb2 := hide (bt hb2.out hb3); clear hb3))
      go_ret2
      exact ⟨by rw [HC.out]; rfl, hb2.out⟩
  · have ek : (k == 17) = false := by simpa using hk
    have HC := hide (show C = 65535 - S by rw [hC, if_neg (fun h => hk h.1)])
    clear hC hk
    go_enter Tryz.func143, Tryz.ntmps143
    go_wp2_with (first
      | (go_at_call 182; refine (HOf.out _ HR.out).mono ?_; rintro e w1 ⟨rfl, rfl⟩)
      | (go_at_call 190; refine (HAdd.out _).mono ?_; rintro e w2 ⟨rfl, hb2⟩; replace hb2 := hide hb2)
      | (go_at_call 183; refine (HNot.out _).mono ?_; rintro e w3 ⟨rfl, hb3⟩; replace hb2 := hide (bt hb2.out hb3); clear hb3))
    go_ret2
    exact ⟨by rw [HC.out]; rfl, hb2.out⟩
def sck (z : List Int) (over : Int) (data : List Int) : Int := ckg (el z 0) over (SM.fold (SM.tot (ub z data) (ub z data).length))
theorem wsn_oct (n : Nat) (l : List Int) (k : Nat) : SM.Oct (wsn n l k) := by
  induction k with
  | zero => exact SM.oct_nil
  | succ k ih => exact SM.oct_append _ _ ih (nb_oct n _)
theorem ub_oct (z data : List Int) (h : SM.Oct data) : SM.Oct (ub z data) := by
  unfold ub
  split
  · exact SM.oct_append _ _ (SM.oct_append _ _ (SM.oct_append _ _ (SM.oct_append _ _ (wsn_oct _ _ _) (wsn_oct _ _ _)) (wsn_oct _ _ _)) (wsn_oct _ _ _)) h
  · exact SM.oct_append _ _ (SM.oct_append _ _ (wsn_oct _ _ _) (wsn_oct _ _ _)) h
theorem sck_in (z : List Int) (over : Int) (data : List Int) (h : SM.Oct data) (ho : up 65535 over = true) : 0 ≤ sck z over data ∧ sck z over data ≤ 65535 :=
  ckg_in _ _ _ (up_true ho).1 (SM.fold_bd _ (SM.tot_bd _ (ub_oct z data h) _).1).1
theorem ub_len (z data : List Int) : (ub z data).length = hn (el z 0) + data.length := by
  unfold ub hn
  split <;> simp only [List.length_append, wsn_len]
theorem unc_any (z : List Int) (a : Option Addr) (len cap : Nat) (data : List Int) (w : World) (hl : len ≤ 300) (hr : Row8 w a len cap data) :
    Calls Tryz.prog 142 #[.agg (sgC z a len cap)] w fun e w' => ∃ v, e = .returned v ∧ Own w.heap.size w' v (ub z data) ∧ Below w.heap.size w w' := by
  by_cases h6 : el z 0 = 6
  · exact unc_tcp z a len cap data w h6 hl hr
  · exact unc_udp z a len cap data w h6 hl hr
def eb (z : List Int) (over : Int) (data : List Int) : List Int := ((ub z data).set (cn (el z 0)) (sck z over data / 256)).set (cn (el z 0) + 1) (sck z over data % 256)
theorem eb_len (z : List Int) (over : Int) (data : List Int) : (eb z over data).length = hn (el z 0) + data.length := by
  unfold eb
  rw [List.length_set, List.length_set, ub_len]
theorem cn_lt (k : Int) : cn k + 1 < hn k := by
  unfold cn hn
  split <;> omega
theorem hn_le (k : Int) : hn k ≤ 20 := by
  unfold hn
  split <;> omega
theorem sf_len (z : List Int) (len : Nat) (h : sf z len = 0) : len ≤ 300 := by
  unfold sf at h
  rcases Nat.lt_or_ge 300 len with h3 | h3
  · exfalso
    rw [if_pos h3] at h
    split at h
    · cases h
    · split at h <;> split at h <;> cases h
  · exact h3
set_option maxRecDepth 100000 in
set_option maxHeartbeats 4000000 in
theorem enc_err (z : List Int) (a : Option Addr) (len cap : Nat) (over : Int) (w : World) (hm : len ≤ maxLen) (n : Int) (hz : sf z len = n) (hn0 : n ≠ 0) :
    Calls Tryz.prog 89 #[.agg (sgC z a len cap), .int .i64 over] w fun e w' => e = .returned (.tuple #[.slice none 0 0, err n]) ∧ Below w.heap.size w w' := by
  have HB := hide (al_below w (.cells (sgC z a len cap) 39))
  have HP := hide (sg_new w z a len cap)
  have HC := hide (fun W => chk_any z a len cap W hm)
  rw [hz, show ev n = err n from if_neg hn0] at HC
  unfold err at HC ⊢
  clear hz hn0
  go_enter Tryz.func89, Tryz.ntmps89
  go_upto_region 1 with fail
  generalize w.alloc (.cells (sgC z a len cap) 39) = W at HB HP ⊢
  go_wp2_with (first
    | (refine at_load rfl (.tmp 2) rfl rfl HP.out ?_)
    | (go_at_call 140; refine (HC.out _).mono ?_; rintro e w1 ⟨rfl, hb1⟩; replace HB := hide (bt HB.out hb1); clear hb1))
  go_ret2
  exact ⟨rfl, HB.out⟩
set_option maxRecDepth 100000 in
set_option maxHeartbeats 4000000 in
theorem enc_ok (z : List Int) (a : Option Addr) (len cap : Nat) (over : Int) (data : List Int) (w : World) (hz : sf z len = 0) (ho : up 65535 over = true) (hr : Row8 w a len cap data) :
    Calls Tryz.prog 89 #[.agg (sgC z a len cap), .int .i64 over] w fun e w' => ∃ v, e = .returned (.tuple #[v, .nilIface]) ∧ Own w.heap.size w' v (eb z over data) ∧ Below w.heap.size w w' := by
  have HB := hide (al_below w (.cells (sgC z a len cap) 39))
  have HP := hide (sg_new w z a len cap)
  have HC := hide (fun W => chk_any z a len cap W hr.2.1)
  rw [hz, show ev 0 = .nilIface from rfl] at HC
  have hlen := sf_len z len hz
  have HR := hide hr
  have HU := hide (fun W h => unc_any z a len cap data W hlen h)
  have HE := hide (show eb z over data = ((ub z data).set (cn (el z 0)) (sck z over data / 256)).set (cn (el z 0) + 1) (sck z over data % 256) from rfl)
  have hub := ub_len z data
  have hc1 := cn_lt (el z 0)
  have hh := hn_le (el z 0)
  have HCA := hide (fun W => checkat_any (el z 0) W)
  obtain ⟨N, hN⟩ : ∃ N, N = (ub z data).length := ⟨_, rfl⟩
  have hN2 : N ≤ 2000 := by rw [hN, hub, hr.1]; omega
  have hat : cn (el z 0) + 1 < N := by rw [hN, hub]; omega
  have HCO := hide (fun W a c (h : Row8 W a N c (ub z data)) => checkof_any (el z 0) over a N c (ub z data) W h hN2 ho)
  have hck : sck z over data = ckg (el z 0) over (SM.fold (SM.tot (ub z data) N)) := by rw [hN]; rfl
  rw [← hck] at HCO
  have hci := sck_in z over data hr.2.2.1 ho
  have HL := hide hN.symm
  have q1 : IntKind.u8.wrap (sck z over data / 256) = sck z over data / 256 := by rw [IntKind.wrap_u8]; omega
  have q2 : IntKind.u8.wrap (sck z over data) = sck z over data % 256 := by rw [IntKind.wrap_u8]
  have HW1 := hide (show 0 ≤ sck z over data / 256 ∧ sck z over data / 256 ≤ 255 by omega)
  have HW2 := hide (show 0 ≤ sck z over data % 256 ∧ sck z over data % 256 ≤ 255 by omega)
  generalize eb z over data = EB at HE ⊢
  generalize sck z over data = C at HE HCO hci q1 q2 HW1 HW2
  generalize ub z data = U at HU HE HCO HL
  generalize cn (el z 0) = at_ at hat HCA HE
  obtain ⟨hci0, hci1⟩ := hci
  clear hck hN hub hc1 hh hr hz
  go_enter Tryz.func89, Tryz.ntmps89
  go_upto_region 1 with fail
  generalize w.alloc (.cells (sgC z a len cap) 39) = W at HB HP ⊢
  go_upto_region 4 with (first
    | (refine at_load rfl (.tmp 2) rfl rfl HP.out ?_)
    | (go_at_call 140; refine (HC.out _).mono ?_; rintro e w1 ⟨rfl, hb1⟩; replace HB := hide (bt HB.out hb1); replace HP := hide (HP.out.kept hb1); clear hb1))
  go_upto_region 6 with (go_at_call 141; (with_reducible refine (upto1b _ _ _).mono ?_); rintro e w2 ⟨rfl, hb2⟩; replace HB := hide (bt HB.out hb2); replace HP := hide (HP.out.kept hb2); clear hb2)
  go_upto_region 7 with (first
    | (refine at_load rfl (.tmp 2) rfl rfl HP.out ?_)
    | (go_at_call 142; refine (HU.out _ (HR.out.below HB.out)).mono ?_; rintro e w3 ⟨v3, rfl, o3, hb3⟩; replace o3 := o3.mono HB.out.size; replace HB := hide (bt HB.out hb3); replace HP := hide (HP.out.kept hb3); clear hb3))
  obtain ⟨g3, c3, hv3, hc3, hcm3, hbg3, -, hr3⟩ := o3.form (by rw [HL.out]; omega)
  rw [HL.out] at hv3 hc3 hr3
  subst hv3
  replace o3 := hide o3
  have l0 := HP.out.c0
  replace hr3 := hide hr3
  go_upto_region 10 with (go_at_call 143; refine (HCO.out _ _ _ hr3.out).mono ?_; rintro e w4 ⟨rfl, hb4⟩; replace HB := hide (bt HB.out hb4); replace HP := hide (HP.out.kept hb4); replace o3 := hide (o3.out.kept hb4); clear hb4 l0)
  have l0 := HP.out.c0
  go_upto_region 11 with (go_at_call 144; refine (HCA.out _).mono ?_; rintro e w5 ⟨rfl, rfl⟩)
  clear l0 HCA HCO HU HC
  obtain ⟨x1, f1⟩ := o3.out.cell at_ (by omega)
  obtain ⟨x2, f2⟩ := o3.out.cell (at_ + 1) hat
  have HO5 := hide ((o3.out.set at_ (C / 256) HW1.out).set (at_ + 1) (C % 256) HW2.out)
  have HB5 := hide (show Below w.heap.size w ((w5.setCell ⟨g3, at_, none⟩ (.int .u8 (C / 256))).setCell ⟨g3, at_ + 1, none⟩ (.int .u8 (C % 256))) from (HB.out.setCell hbg3 _).setCell hbg3 _)
  generalize U.getD at_ 0 = y1 at x1
  generalize U.getD (at_ + 1) 0 = y2 at x2
  have i1 : (at_ : Int) < (N : Int) := by omega
  have i2 : (at_ : Int) + 1 < (N : Int) := by omega
  clear HP HB o3 hr3
  go_wp2
  go_ret2
  exact ⟨_, rfl, HE.out ▸ HO5.out, HB5.out⟩
end Go.Proofs.YtkhahbghmdccaaaGreatDoor
