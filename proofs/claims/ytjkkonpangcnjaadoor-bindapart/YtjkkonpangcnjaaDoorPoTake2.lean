/- The document's own Take of a port, by contracts. -/
import Derived.Test.YtjkkonpangcnjaaDoorPoTake
namespace Go.Proofs.YtjkkonpangcnjaaDoor
open Go.RowKit

set_option maxRecDepth 100000 in
set_option maxHeartbeats 1000000 in
theorem rtake_bad (B : Nat) (z : List Int) (w : World) (hz : ¬ Ok6 z) :
    Calls Tryd.prog 31 #[.pointer (some ⟨B, 0, none⟩), .agg (sixC z)] w fun e w' => e = .returned (.tuple #[.int .i64 0, .int .i64 1]) ∧ Below w.heap.size w w' := by
  have HB := hide (al_below w (.cells (sixC z) 33))
  have HZ := hide (show SixIn w.heap.size z (w.alloc (.cells (sixC z) 33)) from six_new z w)
  have HF := hide (fun W => fault_bad z W hz)
  clear hz
  go_enter Tryd.func31, Tryd.ntmps31
  go_upto_region 1 with fail
  generalize w.alloc _ = W at HB HZ ⊢
  go_wp2_with (first
    | (refine at_load6 rfl (.tmp 3) rfl rfl HZ.out ?_)
    | (go_at_call 27; refine (HF.out _).mono ?_; rintro e w1 ⟨rfl, hb1⟩; replace HB := hide (bt HB.out hb1); clear hb1))
  go_ret2
  exact ⟨rfl, HB.out⟩
theorem RP.setW {B BW BT n : Nat} {ws : Nat → List Int} {ts : Nat → Bool} {w w' : World} (h : RP B BW BT n ws ts w) {ws' : Nat → List Int} (on : Only BW w w') (hw : SixRow BW n ws' w') : RP B BW BT n ws' ts w' := by
  have hn := h.ne
  exact ⟨(on.2.2.2.2 B hn.1).trans h.1, hw, h.2.2.same (on.2.2.2.2 BT (fun e => hn.2.2 e.symm))⟩
theorem Only.fr {B : Nat} {w w' : World} (h : Only B w w') {O : Nat → Prop} (hO : O B) : Fr O w w' := ⟨h.1, h.2.1, h.2.2.1, by rw [h.2.2.2.1]; exact Nat.le_refl _, fun g _ hg => h.2.2.2.2 g (fun e => hg (e ▸ hO))⟩
theorem Only.six {B B' : Nat} {w w' : World} (h : Only B w w') {z : List Int} (p : SixIn B' z w) (hne : B' ≠ B) : SixIn B' z w' := (h.2.2.2.2 B' hne).trans p
theorem div8 {i n m : Nat} (hm : n = 8 * m) (hi : i < n) : 8 * (i / 8) + 8 ≤ n := by omega
attribute [local go_sem ↓] hload_shut qstore_shut
set_option maxRecDepth 100000 in
set_option maxHeartbeats 8000000 in
theorem rtake_any (B BW BT n m : Nat) (ws : Nat → List Int) (ts : Nat → Bool) (z : List Int) (w : World) (h : RP B BW BT n ws ts w) (hn : n ≤ 128) (hm : n = 8 * m) (hz : Ok6 z) (R : Option Nat) (hR : tk ws ts z n = R) :
    Calls Tryd.prog 31 #[.pointer (some ⟨B, 0, none⟩), .agg (sixC z)] w fun e w' =>
      (R = none ∧ e = .returned (.tuple #[.int .i64 0, .int .i64 3]) ∧ RP B BW BT n ws ts w' ∧ Below w.heap.size w w') ∨
      (∃ i : Nat, R = some i ∧ i < n ∧ e = .returned (.tuple #[.int .i64 (1024 + (i : Int)), .int .i64 0]) ∧ RP B BW BT n (upd ws i z) (upd ts i true) w' ∧ Fr (fun g => g = BW ∨ g = BT) w w') := by
  have HK := hide (show Kb w B BW BT n ws ts z (w.alloc (.cells (sixC z) 33)) from ⟨h.kept (al_below _ _), six_new z w, al_below _ _, h.lt, h.2.1.lt, h.2.2.lt⟩)
  have HF := hide (fun W => fault_ok z W hz)
  have HOw := hide (fun k W (hp : RP B BW BT n ws ts W) (hk : 8 * k + 8 ≤ n) R hR => rowner_any B BW BT n ws ts k W hp hn hk R hR)
  have HZ := hide zero_new
  unfold zero6 at HZ
  have hn' : (n : Int) ≤ 128 := by omega
  have HR := hide hR
  have HM := hide hm
  clear h hz hR hm
  go_enter Tryd.func31, Tryd.ntmps31
  go_upto_region 1 with fail
  generalize w.alloc _ = W at HK ⊢
  go_upto_region 2 with (first
    | (refine at_load6 rfl (.tmp 3) rfl rfl HK.out.2.1 ?_)
    | (go_at_call 27; refine (HF.out _).mono ?_; rintro e w1 ⟨rfl, hb1⟩; replace HK := hide (HK.out.kept hb1); clear hb1))
  go_wp2
  generalize w1 = wa at HK ⊢
  go_loopw [7] (fun t wr => ∃ u : Int, (u = 0 ∨ u = 1 ∨ u = 2) ∧ t = .int .i64 u ∧ Hid (1 ≤ u → ∀ j, j < n → f0 ws ts z j = false) ∧ Hid (2 ≤ u → ∀ j, j < n → f1 ts j = false) ∧ Hid (Kb w B BW BT n ws ts z wr)) (fun t _ => 2 - (intOf t).toNat)
  case atStart => exact ⟨0, .inl rfl, rfl, fun h => absurd h (by omega), fun h => absurd h (by omega), HK⟩
  case round =>
    clear HK
    obtain ⟨u, hu, rfl, HU0, HU1, HK⟩ := hrel
    rcases hu with rfl | rfl | rfl
    · go_wp2
      go_loopw [8] (fun t wr => ∃ i : Nat, i ≤ n ∧ t = .int .i64 i ∧ Hid (∀ j, j < i → f0 ws ts z j = false) ∧ Hid (Kb w B BW BT n ws ts z wr)) (fun t _ => n - (intOf t).toNat)
      case atStart => exact ⟨0, by omega, rfl, fun j h => absurd h (by omega), HK⟩
      case round =>
        clear HK
        obtain ⟨i, hi, rfl, HI, HK⟩ := hrel
        have l1 := HK.out.1.taken
        by_cases hlt : i < n
        · have j1 : (i : Int) < (n : Int) := by omega
          obtain ⟨Q, hQ⟩ : ∃ Q, fo ts (i / 8) = Q := ⟨_, rfl⟩
          have HO2 := hide (show ∀ W, RP B BW BT n ws ts W → Calls Tryd.prog 41 #[.pointer (some ⟨B, 0, none⟩), .int .i64 ((i : Int) / 8)] W fun e w' => e = .returned (.tuple #[.agg (sixC (ozo ws Q)), .bool Q.isSome]) ∧ Below W.heap.size W w' from fun W hp => by have h8 := HOw.out (i / 8) W hp (div8 HM.out hlt) Q hQ; rwa [show ((i / 8 : Nat) : Int) = (i : Int) / 8 by omega] at h8)
          have hom : om ws ts z (i / 8) = ome ws z Q := by unfold om; rw [hQ]
          have HQ := hide hQ
          clear hQ
          have HF0 := hide (show f0 ws ts z i = (!ts i && ome ws z Q) by unfold f0; rw [hom])
          clear hom
          go_upto_region 11 with (first
            | (go_at_call 41; refine (HO2.out _ HK.out.1).mono ?_; rintro e w1 ⟨rfl, hb1⟩; replace HK := hide (HK.out.kept hb1); clear hb1)
            | (refine at_store6 rfl (.tmp 9) (.tmp 34) rfl rfl (HZ.out w1) (ozo ws Q) rfl ?_; intro w2 p2 on2; have hb2 := new_below _ on2; replace HK := hide (HK.out.kept hb2); replace p2 := hide p2; clear hb2 on2))
          generalize w1.heap.size = B2 at p2 ⊢
          clear l1
          have l1 := HK.out.1.taken
          obtain ⟨c1, c2⟩ := HK.out.1.2.2.cell i hlt
          have g1 := p2.out.hl
          have g2 := HK.out.2.1.hl
          have q0 := eq_six (ozo ws Q) z
          cases ht : ts i
          · rw [ht] at c1 HF0
            cases Q with
            | none =>
              have HN := hide (show f0 ws ts z i = false by rw [HF0.out]; rfl)
              clear ht
              go_wp2
              go_roundw
              case rel => exact ⟨i + 1, by omega, by go_num, fun j hj => if e : j = i then by rw [e]; exact HN.out else HI.out j (by omega), HK⟩
              case measure => simp [intOf]; omega
            | some q =>
              replace q0 : ∀ w, (Op.equalIn 10000 33 (.agg (sixC (ws q))) (.agg (sixC z))).run Tryd.prog w = .ok (eqz (ws q) z) w := q0
              replace HF0 : Hid (f0 ws ts z i = (!false && eqz (ws q) z)) := HF0
              replace g1 : (hload (.pointer (some ⟨B2, 0, none⟩))).run Tryd.prog w2 = .ok (.agg (sixC (ws q))) w2 := g1
              cases hq : eqz (ws q) z
              · rw [hq] at q0 HF0
                have HN := hide (show f0 ws ts z i = false by rw [HF0.out]; rfl)
                clear hq ht
                go_wp2
                go_roundw
                case rel => exact ⟨i + 1, by omega, by go_num, fun j hj => if e : j = i then by rw [e]; exact HN.out else HI.out j (by omega), HK⟩
                case measure => simp [intOf]; omega
              · rw [hq] at q0 HF0
                have HN := hide (show f0 ws ts z i = true by rw [HF0.out]; rfl)
                clear hq ht
                go_upto_region 13 with fail
                have RPd := hide (HK.out.1.setT i true)
                have hne := HK.out.2.2.2.2.2
                have SIX := hide (HK.out.2.1.other ⟨BT, i, none⟩ (by show w.heap.size ≠ BT; omega) (.bool true))
                have FR := hide (((Fr.of (O := fun g => g = BW ∨ g = BT) HK.out.2.2.1).trans ((setCell_fr w2 BT i (.bool true)).mono (fun g h => .inr h))))
                clear l1 c1 c2 g1 g2 q0 hne
                generalize w2.setCell ⟨BT, i, none⟩ (.bool true) = w3 at RPd SIX FR ⊢
                replace RPd := hide (RPd.out.kept (Below.refl _ _).drew)
                replace SIX := hide (SIX.out.kept (Below.refl _ _).drew)
                replace FR := hide (FR.out.trans (Fr.of (Below.refl _ _).drew))
                obtain ⟨w5, hst, p5, on5⟩ := RPd.out.2.1.held i hlt z
                rw [Nat.mul_comm 8 i] at hst
                have l0 := RPd.out.who
                have g3 := SIX.out.hl
                replace p5 := hide (RPd.out.setW on5 p5)
                replace FR := hide (FR.out.trans (on5.fr (.inl rfl)))
                clear on5
                go_region
                all_goals
                  go_wp2_with fail
                  go_ret2
                  exact .inr ⟨i, by rw [← HR.out]; unfold tk; rw [find_some hlt HN.out HI.out]; rfl, hlt, rfl, p5.out, FR.out⟩
          · rw [ht] at c1 HF0
            have HN := hide (show f0 ws ts z i = false by rw [HF0.out]; rfl)
            clear ht
            go_wp2
            go_roundw
            case rel => exact ⟨i + 1, by omega, by go_num, fun j hj => if e : j = i then by rw [e]; exact HN.out else HI.out j (by omega), HK⟩
            case measure => simp [intOf]; omega
        · obtain rfl : n = i := by omega
          go_wp2
          go_roundw
          case rel => exact ⟨1, .inr (.inl rfl), rfl, fun _ => HI.out, fun h => absurd h (by omega), HK⟩
          case measure => simp [intOf]
    · go_wp2
      go_loopw [8] (fun t wr => ∃ i : Nat, i ≤ n ∧ t = .int .i64 i ∧ Hid (∀ j, j < i → f1 ts j = false) ∧ Hid (Kb w B BW BT n ws ts z wr)) (fun t _ => n - (intOf t).toNat)
      case atStart => exact ⟨0, by omega, rfl, fun j h => absurd h (by omega), HK⟩
      case round =>
        clear HK
        obtain ⟨i, hi, rfl, HI, HK⟩ := hrel
        have l1 := HK.out.1.taken
        by_cases hlt : i < n
        · have j1 : (i : Int) < (n : Int) := by omega
          obtain ⟨Q, hQ⟩ : ∃ Q, fo ts (i / 8) = Q := ⟨_, rfl⟩
          have HO2 := hide (show ∀ W, RP B BW BT n ws ts W → Calls Tryd.prog 41 #[.pointer (some ⟨B, 0, none⟩), .int .i64 ((i : Int) / 8)] W fun e w' => e = .returned (.tuple #[.agg (sixC (ozo ws Q)), .bool Q.isSome]) ∧ Below W.heap.size W w' from fun W hp => by have h8 := HOw.out (i / 8) W hp (div8 HM.out hlt) Q hQ; rwa [show ((i / 8 : Nat) : Int) = (i : Int) / 8 by omega] at h8)
          have HF0 := hide (show f1 ts i = (!ts i && Q.isNone) by unfold f1; rw [hQ])
          clear hQ
          go_upto_region 11 with (first
            | (go_at_call 41; refine (HO2.out _ HK.out.1).mono ?_; rintro e w1 ⟨rfl, hb1⟩; replace HK := hide (HK.out.kept hb1); clear hb1)
            | (refine at_store6 rfl (.tmp 9) (.tmp 34) rfl rfl (HZ.out w1) (ozo ws Q) rfl ?_; intro w2 p2 on2; have hb2 := new_below _ on2; replace HK := hide (HK.out.kept hb2); replace p2 := hide p2; clear hb2 on2))
          generalize w1.heap.size = B2 at p2 ⊢
          clear l1
          have l1 := HK.out.1.taken
          obtain ⟨c1, c2⟩ := HK.out.1.2.2.cell i hlt
          have g1 := p2.out.hl
          have g2 := HK.out.2.1.hl
          cases ht : ts i
          · rw [ht] at c1 HF0
            cases Q with
            | some q =>
              have HN := hide (show f1 ts i = false by rw [HF0.out]; rfl)
              clear ht
              go_wp2
              go_roundw
              case rel => exact ⟨i + 1, by omega, by go_num, fun j hj => if e : j = i then by rw [e]; exact HN.out else HI.out j (by omega), HK⟩
              case measure => simp [intOf]; omega
            | none =>
              have HN := hide (show f1 ts i = true by rw [HF0.out]; rfl)
              clear ht
              go_upto_region 13 with fail
              have RPd := hide (HK.out.1.setT i true)
              have hne := HK.out.2.2.2.2.2
              have SIX := hide (HK.out.2.1.other ⟨BT, i, none⟩ (by show w.heap.size ≠ BT; omega) (.bool true))
              have FR := hide (((Fr.of (O := fun g => g = BW ∨ g = BT) HK.out.2.2.1).trans ((setCell_fr w2 BT i (.bool true)).mono (fun g h => .inr h))))
              clear l1 c1 c2 g1 g2 hne
              generalize w2.setCell ⟨BT, i, none⟩ (.bool true) = w3 at RPd SIX FR ⊢
              replace RPd := hide (RPd.out.kept (Below.refl _ _).drew)
              replace SIX := hide (SIX.out.kept (Below.refl _ _).drew)
              replace FR := hide (FR.out.trans (Fr.of (Below.refl _ _).drew))
              obtain ⟨w5, hst, p5, on5⟩ := RPd.out.2.1.held i hlt z
              rw [Nat.mul_comm 8 i] at hst
              have l0 := RPd.out.who
              have g3 := SIX.out.hl
              replace p5 := hide (RPd.out.setW on5 p5)
              replace FR := hide (FR.out.trans (on5.fr (.inl rfl)))
              clear on5
              go_region
              all_goals
                go_wp2_with fail
                go_ret2
                exact .inr ⟨i, by rw [← HR.out]; unfold tk; rw [find_none (HU0.out (by omega)), find_some hlt HN.out HI.out]; rfl, hlt, rfl, p5.out, FR.out⟩
          · rw [ht] at c1 HF0
            have HN := hide (show f1 ts i = false by rw [HF0.out]; rfl)
            clear ht
            go_wp2
            go_roundw
            case rel => exact ⟨i + 1, by omega, by go_num, fun j hj => if e : j = i then by rw [e]; exact HN.out else HI.out j (by omega), HK⟩
            case measure => simp [intOf]; omega
        · obtain rfl : n = i := by omega
          go_wp2
          go_roundw
          case rel => exact ⟨2, .inr (.inr rfl), rfl, fun _ => HU0.out (by omega), fun _ => HI.out, HK⟩
          case measure => simp [intOf]
    · go_wp2
      go_ret2
      exact .inl ⟨by rw [← HR.out]; unfold tk; rw [find_none (HU0.out (by omega)), find_none (HU1.out (by omega))]; rfl, rfl, HK.out.1, HK.out.2.2.1⟩
end Go.Proofs.YtjkkonpangcnjaaDoor
