/- The statement's function PortPlays returns true, whatever the script, if the program's ports keep what is asked of them. -/
import Derived.Test.YtchjhmokmpjbdaaDoorPoV
namespace Go.Proofs.YtchjhmokmpjbdaaDoor
open Go.RowKit

attribute [local go_sem ↓] hload_shut qstore_shut
set_option maxRecDepth 100000 in
set_option maxHeartbeats 16000000 in
theorem plays_walk (PP : Value → Nat → (Nat → List Int) → (Nat → Bool) → (Nat → Prop) → World → Prop) (I : PI PP) (blocks : Int) (a : Option Addr) (len cap : Nat) (sts : Nat → List Int) (w : World) (hg : Laid0 w) (hl : len ≤ maxLen) (hst : Steps a len sts w) :
    Calls Tryd.prog 3 #[.int .i64 blocks, .slice a len cap] w fun e w' => e = .returned (.bool true) ∧ Below w.heap.size w w' := by
  have HG := hide hg
  have HI := hide I
  have HST := hide hst
  have hl' : (len : Int) ≤ 9223372036854775807 := by unfold maxLen at hl; omega
  clear hg hst hl
  by_cases hb : blocks < 1 ∨ 16 < blocks
  · have HN := hide (I.2.1.1 blocks w hb)
    have HT := hide (tells_err 1)
    unfold err at HN HT
    clear I
    go_enter Tryd.func3, Tryd.ntmps3
    go_upto_region 2 with (go_at_call 5; refine HN.out.mono ?_; rintro e w1 ⟨⟨v, rfl⟩, hb1⟩; replace hb1 := hide hb1)
    rcases hb with hb | hb
    all_goals
      go_wp2_with (go_at_call 6; refine (HT.out _ (HG.out.below hb1.out)).mono ?_; rintro e w2 ⟨rfl, hb2⟩; replace hb1 := hide (bt hb1.out hb2); clear hb2)
      go_ret
      exact ⟨rfl, hb1.out⟩
  · obtain ⟨m, rfl⟩ : ∃ m : Nat, blocks = m := ⟨blocks.toNat, by omega⟩
    have hm1 : 1 ≤ m := by omega
    have hm2 : m ≤ 16 := by omega
    have k1 : ¬ (m : Int) < 1 := by omega
    have k2 : ¬ (16 : Int) < (m : Int) := by omega
    clear hb
    have HN := hide (I.2.1.2 m w hm1 hm2)
    have HM := hide (fun W => rnew_any m W hm2)
    have hm16 : (m : Int) ≤ 16 := by omega
    clear I
    go_enter Tryd.func3, Tryd.ntmps3
    go_upto_region 2 with (go_at_call 5; refine HN.out.mono ?_; rintro e w1 ⟨pv, O, rfl, pp, hO, hb1⟩; replace hb1 := hide hb1; replace pp := hide pp; replace hO := hide hO)
    go_upto_region 7 with (go_at_call 7; refine (HM.out _).mono ?_; rintro e w2 ⟨B, BW, BT, rfl, rp, g1, g2, g3, hb2⟩; replace hb2 := hide hb2; replace rp := hide rp; have hg3 := hide (And.intro g1 (And.intro g2 g3)); clear g1 g2 g3)
    have HV := hide (show VP PP w B BW BT (8 * m) (fun _ => []) (fun _ => false) pv (fun _ => []) (fun _ => false) O w2 from by
      have k := HI.out.1 pv (8 * m) _ _ O w1 pp.out
      have hs := hb1.out.size
      have h3 := hg3.out
      refine ⟨rp.out, k.2 w2 hb2.out.size (fun g hg => hb2.out.block g (k.1 g hg)), fun g hg => ?_, ⟨by omega, by omega, by omega⟩, bt hb1.out hb2.out⟩
      have := k.1 g hg
      exact ⟨hO.out g hg, by omega, by omega, by omega⟩)
    clear pp hO hb1 rp hg3 hb2 HN HM
    go_wp2
    go_loopw [8] (fun i wr => ∃ (k : Nat) (ws : Nat → List Int) (ts : Nat → Bool) (O : Nat → Prop), k ≤ len ∧ k ≤ 80 ∧ i = .int .i64 k ∧ Hid (VP PP w B BW BT (8 * m) ws ts pv ws ts O wr)) (fun i _ => 80 - (intOf i).toNat)
    case atStart => exact ⟨0, _, _, O, by omega, by omega, rfl, HV⟩
    case round =>
      clear HV
      obtain ⟨k, ws, ts, O, hk1, hk2, rfl, HV⟩ := hrel
      by_cases hlt : k < len ∧ k < 80
      · obtain ⟨hlt1, hlt2⟩ := hlt
        obtain ⟨b, off, rfl, hblt, hrg⟩ := HST.out (by omega)
        have HRG := hide (fun W (hb : Below w.heap.size w W) => (show W.rangeAt b (off + k * 31) (stC (sts k)).toList from fun j v hv => by rw [hb.cell (p := ⟨b, off + k * 31 + j, none⟩) hblt]; exact hrg k hlt1 j v hv))
        clear hblt hrg
        have j1 : (k : Int) < (len : Int) := by omega
        have j2 : (k : Int) < 80 := by omega
        have HZ := hide step_new
        unfold zero31 at HZ
        generalize sts k = s at HRG
        go_upto_region 13 with (first
          | (refine at_step rfl (.tmp 53) rfl rfl (HRG.out _ HV.out.2.2.2.2) ?_)
          | (refine at_stores rfl (.tmp 9) (.tmp 54) rfl rfl (HZ.out wr) s rfl ?_; intro w3 p3 on3; have hb3 := new_below _ on3; have HS := hide (show VS PP w B BW BT (8 * m) ws ts pv ws ts O wr.heap.size s w3 from ⟨HV.out.below HI.out.1 hb3, p3, HV.out.fresh HI.out.1⟩); clear hb3 on3 p3))
        generalize wr.heap.size = B9 at HS ⊢
        clear HV HZ HRG
        have lw := HS.out.2.1.what
        go_upto_block 2 with fail
        clear lw
        go_cut [10, 11, 12, 13, 14, 15, 16] from 41 to 161 (fun u v _ _ _ _ _ wx => u = .bool true ∧ v = .bool true ∧ ∃ ws' ts' O', Hid (VS PP w B BW BT (8 * m) ws' ts' pv ws' ts' O' B9 s wx))
        case first =>
          by_cases hw : el s 0 = 0 ∨ el s 0 = 1
          · obtain ⟨x, e, ws', ts', hR, hP⟩ := tellT HI.out m hm2 (wh s) ws ts
            have HT := hide (tells_ev e)
            generalize ev e = EV at hP HT
            replace hR := hide (hR B BW BT)
            replace hP := hide (hP pv O)
            have qx : (x == x) = true := by simp
            rcases hw with hw | hw
            case' inl =>
              have q0 : (el s 0 == 0) = true := by rw [hw]; rfl
              clear hw
            case' inr =>
              have q0 : (el s 0 == 0) = false := by rw [hw]; rfl
              have q1 : (el s 0 == 1) = true := by rw [hw]; rfl
              clear hw
            all_goals
              go_upto_region 19 with (first
                | (refine at_who rfl (.tmp 72) rfl rfl HS.out.2.1 ?_)
                | (go_at_call 8; refine (hR.out _ HS.out.1.1).mono ?_; rintro r w4 ⟨rfl, rp4, fr4⟩; replace HS := hide (HS.out.ref HI.out.1 rp4 fr4); clear rp4 fr4))
              go_upto_region 20 with (first
                | (refine at_who rfl (.tmp 79) rfl rfl HS.out.2.1 ?_)
                | (go_at_call 9; refine (hP.out _ HS.out.1.2.1).mono ?_; rintro r w5 ⟨rfl, pq5⟩; obtain ⟨O5, HS5, -, -⟩ := HS.out.prog HI.out.1 pq5; replace HS5 := hide HS5; clear pq5 HS))
              go_wp2_with (go_at_call 6; refine (HT.out _ (HG.out.below HS5.out.1.2.2.2.2)).mono ?_; rintro r w6 ⟨rfl, hb6⟩; replace HS5 := hide (HS5.out.below HI.out.1 hb6); clear hb6)
              go_meet
              exact ⟨rfl, rfl, ws', ts', O5, HS5⟩
          · obtain ⟨e, ts', hR, hP⟩ := tellG HI.out m hm2 (el s 28) ws ts
            have HT := hide (tells_ev e)
            generalize ev e = EV at hP HT
            replace hR := hide (hR B BW BT)
            replace hP := hide (hP pv O)
            have q0 : (el s 0 == 0) = false := by simp; omega
            have q1 : (el s 0 == 1) = false := by simp; omega
            have ln := HS.out.2.1.n
            clear hw
            go_upto_region 15 with (go_at_call 10; refine (hR.out _ HS.out.1.1).mono ?_; rintro r w4 ⟨rfl, rp4, fr4⟩; replace HS := hide (HS.out.ref HI.out.1 rp4 fr4); clear rp4 fr4 ln; have ln := HS.out.2.1.n)
            go_wp2_with (first
              | (go_at_call 11; refine (hP.out _ HS.out.1.2.1).mono ?_; rintro r w5 ⟨rfl, pq5⟩; obtain ⟨O5, HS5, -, -⟩ := HS.out.prog HI.out.1 pq5; replace HS5 := hide HS5; clear pq5 HS ln)
              | (go_at_call 6; refine (HT.out _ (HG.out.below HS5.out.1.2.2.2.2)).mono ?_; rintro r w6 ⟨rfl, hb6⟩; replace HS5 := hide (HS5.out.below HI.out.1 hb6); clear hb6))
            go_meet
            exact ⟨rfl, rfl, ws, ts', O5, HS5⟩
        case rest =>
          clear HS
          obtain ⟨rfl, rfl, ws, ts, O, HS⟩ := hcut
          have HFp := hide (fun O W h => HI.out.2.2.2.2.2.2 pv m ws ts O W hm2 h)
          have HFm := hide (fun W h => rfree_any B BW BT (8 * m) ws ts W h (by omega))
          generalize ((cf ts (8 * m) : Nat) : Int) = cc at HFp HFm
          have qf : (cc != cc) = false := by simp
          obtain ⟨E, Z, hcase, hOw⟩ := tellO HI.out m hm2 (el s 28) ws ts
          have HCase := hide hcase
          replace hOw := hide (hOw pv)
          have HHas := fun W h => rhas_any B BW BT (8 * m) ws ts (el s 28) W h (by omega)
          obtain ⟨hv, hHV⟩ : ∃ b, hs ts (8 * m) (el s 28) = b := ⟨_, rfl⟩
          rw [hHV] at HHas
          replace HHas := hide HHas
          have HHV := hide hHV
          clear hcase hHV
          go_upto_region 25 with (first
            | (go_at_call 12; refine (HFp.out _ _ HS.out.1.2.1).mono ?_; rintro r w7 ⟨rfl, pq7⟩; obtain ⟨O7, HS7, -, -⟩ := HS.out.prog HI.out.1 pq7; replace HS7 := hide HS7; clear pq7 HS)
            | (go_at_call 13; refine (HFm.out _ HS7.out.1.1).mono ?_; rintro r w8 ⟨rfl, rfl⟩))
          go_upto_region 26 with fail
          have HZ7 := hide (HS7.out.withZ HI.out.1)
          unfold zero6 at HZ7
          clear HS7
          generalize World.alloc _ _ = w9 at HZ7 ⊢
          generalize Array.size (World.heap _) = D at HZ7 ⊢
          have ln := HZ7.out.1.2.1.n
          go_upto_if 107 with (go_at_call 14; refine (HHas.out _ HZ7.out.1.1.1).mono ?_; rintro r w8 ⟨rfl, rfl⟩)
          clear ln
          go_cut [17] from 41 to 161 (fun u wx => u = .int .i64 E ∧ ∃ O', Hid (VZ PP w B BW BT (8 * m) ws ts pv ws ts O' B9 s D Z wx))
          case first =>
            rcases HCase.out with ⟨hh, hE, hZ⟩ | ⟨i, hi, hp, ht, hE, hZ⟩
            · have HE := hide hE
              have HZe := hide hZ
              obtain rfl : hv = false := HHV.out.symm.trans hh
              clear HCase hE hZ hh HHV HHas
              go_wp2
              go_meet
              exact ⟨by rw [HE.out], O7, by rw [HZe.out]; exact HZ7⟩
            · have hh : hs ts (8 * m) (el s 28) = true := by rw [hp, hs_in i hi]; exact ht
              have HE := hide hE
              have HZe := hide hZ
              have HH := hide hp
              obtain rfl : hv = true := HHV.out.symm.trans hh
              clear HCase hE hZ ht hh HHV HHas
              go_upto_region 29 with fail
              replace HZ7 := hide (HZ7.out.below HI.out.1 (Below.refl _ _).drew)
              have l0 := HZ7.out.1.1.1.who
              have ln := HZ7.out.1.2.1.n
              rw [HH.out] at ln
              have lg := HZ7.out.1.1.1.2.1.hl i hi
              obtain ⟨w10, hst, p10, on10⟩ := HZ7.out.2.1.heldq (ws i)
              have HZ10 := hide (HZ7.out.setZ HI.out.1 on10 (ws i) p10)
              have j1 : (i : Int) < ((8 * m : Nat) : Int) := by omega
              have j4 : IntKind.i64.wrap ((1024 : Int) + (i : Int) - 1024) = (i : Int) := by rw [IntKind.wrap_i64]; omega
              clear on10 p10 HZ7 hp hi
              go_region
              all_goals
                go_wp2_with fail
                go_meet
                exact ⟨by rw [HE.out], O7, by rw [HZe.out]; exact HZ10⟩
          case rest =>
            clear HZ7 HCase HHas HFp HFm HHV
            obtain ⟨rfl, O, HZ⟩ := hcut
            have HT := hide (tells_ev E)
            obtain ⟨E2, L, hcase, hL, hF2, hB2⟩ := tellB HI.out m hm2 (wh s) ws ts
            have HCase := hide hcase
            have HT2 := hide (tells_ev E2)
            replace hF2 := hide hF2
            replace hB2 := hide (hB2 pv)
            have HIN := hide (fun W v1 v2 b1 b2 h1 h2 => ints_same v1 v2 b1 b2 L W h1 h2 hL)
            clear hcase hL
            generalize ev E = EV at hOw HT
            generalize ev E2 = EV2 at hB2 HT2
            have HZn := hide zero_new
            unfold zero6 at HZn
            have ln := HZ.out.1.2.1.n
            go_upto_region 31 with (first
              | (go_at_call 15; refine (hOw.out _ _ HZ.out.1.1.2.1).mono ?_; rintro r w11 ⟨rfl, pq11⟩; obtain ⟨O11, HZ11, -, -⟩ := HZ.out.prog HI.out.1 pq11; replace HZ11 := hide HZ11; clear pq11 HZ ln)
              | (refine at_store6 rfl (.tmp 20) (.tmp 122) rfl rfl (HZn.out w11) Z rfl ?_; intro w12 p12 on12; have hb12 := new_below _ on12; replace HZ11 := hide (HZ11.out.below HI.out.1 hb12); replace p12 := hide p12; clear hb12 on12))
            generalize w11.heap.size = D2 at p12 ⊢
            go_upto_region 32 with (go_at_call 6; refine (HT.out _ (HG.out.below HZ11.out.1.1.2.2.2.2)).mono ?_; rintro r w13 ⟨rfl, hb13⟩; replace HZ11 := hide (HZ11.out.below HI.out.1 hb13); replace p12 := hide (p12.out.kept hb13); clear hb13)
            have e1 := p12.out.hl
            have e2 := HZ11.out.2.1.hl
            have e3 := eq_same Z
            go_upto_region 34 with fail
            clear e1 e2 e3 p12 hOw HT HZn
            have HS := hide HZ11.out.1
            clear HZ11
            go_upto_region 36 with (first
              | (refine at_who rfl (.tmp 134) rfl rfl HS.out.2.1 ?_)
              | (go_at_call 16; refine (hF2.out _).mono ?_; rintro r w14 ⟨rfl, hb14⟩; replace HS := hide (HS.out.below HI.out.1 hb14); clear hb14))
            go_upto_if 138 with fail
            go_cut [22] from 41 to 161 (fun u wx => ∃ O' base, Hid (VS PP w B BW BT (8 * m) ws ts pv ws ts O' B9 s wx) ∧ Hid (IntRow base wx u L) ∧ Hid (∀ g, O' g → g < base))
            case first =>
              rcases HCase.out with ⟨rfl, hR2⟩ | ⟨hE2, hL0⟩
              · replace hR2 := hide (hR2 B BW BT)
                clear HCase
                go_wp2_with (first
                  | (refine at_who rfl (.tmp 140) rfl rfl HS.out.2.1 ?_)
                  | (go_at_call 17; refine (hR2.out _ HS.out.1.1).mono ?_; rintro r w15 ⟨v15, rfl, ir15, hb15⟩; have HO15 := hide (fun g hg => Nat.lt_succ_of_lt ((HI.out.1 _ _ _ _ _ _ HS.out.1.2.1).1 g hg)); replace HS := hide (HS.out.below HI.out.1 hb15); replace ir15 := hide ir15; clear hb15))
                go_meet
                exact ⟨_, _, HS, ir15, HO15⟩
              · have HL0 := hide hL0
                clear HCase hL0
                go_wp2
                go_meet
                exact ⟨_, _, HS, by rw [HL0.out]; exact introw_nil _ _, (HI.out.1 _ _ _ _ _ _ HS.out.1.2.1).1⟩
            case rest =>
              clear HS HCase
              obtain ⟨O, base, HS, IR, HO⟩ := hcut
              go_upto_region 39 with (first
                | (refine at_who rfl (.tmp 145) rfl rfl HS.out.2.1 ?_)
                | (go_at_call 18; refine (hB2.out _ _ HS.out.1.2.1).mono ?_; rintro r w16 ⟨v16, rfl, ir16, pq16⟩; obtain ⟨O16, HS16, fr16, -⟩ := HS.out.prog HI.out.1 pq16; replace IR := hide (IR.out.fr fr16 HO.out); replace HS16 := hide HS16; replace ir16 := hide ir16; clear pq16 fr16 HS HO))
              go_upto_region 40 with (go_at_call 6; refine (HT2.out _ (HG.out.below HS16.out.1.2.2.2.2)).mono ?_; rintro r w17 ⟨rfl, hb17⟩; replace HS16 := hide (HS16.out.below HI.out.1 hb17); replace IR := hide (IR.out.same hb17); replace ir16 := hide (ir16.out.same hb17); clear hb17)
              go_wp2_with (go_at_call 19; refine (HIN.out _ _ _ _ _ ir16.out IR.out).mono ?_; rintro r w18 ⟨rfl, hb18⟩; replace HS16 := hide (HS16.out.below HI.out.1 hb18); clear hb18 IR ir16)
              go_roundw
              case rel => exact ⟨k + 1, ws, ts, O16, by omega, by omega, by go_num, HS16.out.1⟩
              case measure => simp [intOf]; omega
      · by_cases hk : k < len
        · obtain rfl : k = 80 := by omega
          have j1 : (80 : Int) < (len : Int) := by omega
          clear hlt
          go_wp2
          go_ret
          exact ⟨rfl, HV.out.2.2.2.2⟩
        · have j1 : ¬ (k : Int) < (len : Int) := by omega
          clear hlt
          go_wp2
          go_ret
          exact ⟨rfl, HV.out.2.2.2.2⟩
end Go.Proofs.YtchjhmokmpjbdaaDoor
