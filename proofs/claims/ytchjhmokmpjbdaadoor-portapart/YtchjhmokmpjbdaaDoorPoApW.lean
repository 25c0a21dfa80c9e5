/- The statement's function PortApart returns true, whatever the script, if the program's ports keep what is asked of them. -/
import Derived.Test.YtchjhmokmpjbdaaDoorPoApX
namespace Go.Proofs.YtchjhmokmpjbdaaDoor
open Go.RowKit

attribute [local go_sem ↓] hload_shut slq_shut
set_option maxRecDepth 100000 in
set_option maxHeartbeats 16000000 in
theorem apart_walk (PP : Value → Nat → (Nat → List Int) → (Nat → Bool) → (Nat → Prop) → World → Prop) (I : PI PP) (blocks : Int) (a : Option Addr) (len cap : Nat) (sts : Nat → List Int) (w : World) (hg : Laid0 w) (hl : len ≤ maxLen) (hst : Steps a len sts w) (hx : ∀ i, i < len → ∀ j, j < 31 → I64 (el (sts i) j)) :
    Calls Tryd.prog 4 #[.int .i64 blocks, .slice a len cap] w fun e w' => e = .returned (.bool true) ∧ Below w.heap.size w w' := by
  have HG := hide hg
  have HI := hide I
  have HST := hide hst
  have HX := hide hx
  have HT3 := hide (tells_err 3)
  have hl' : (len : Int) ≤ 9223372036854775807 := by unfold maxLen at hl; omega
  have H0 := hide (fa0 I w)
  have H1 := hide (fa1 I)
  have H2 := hide (fa2 I)
  generalize (8 * 1 : Nat) = n8 at H0 H1 H2
  generalize upd (fun _ => []) 0 [1] = ws1 at H1 H2
  generalize upd (fun _ => false) 0 true = ts1 at H1 H2
  unfold err at HT3 H2
  clear hg hst hl hx I
  go_enter Tryd.func4, Tryd.ntmps4
  go_upto_region 4 with (go_at_call 5; refine H0.out.mono ?_; rintro e w1 ⟨zp, O1, rfl, p1, h1, b1⟩; replace p1 := hide p1; replace h1 := hide h1; replace b1 := hide b1)
  go_upto_region 5 with (go_at_call 9; refine (H1.out _ _ _ p1.out).mono ?_; rintro e w2 ⟨rfl, q2⟩; obtain ⟨O2, p2, h2, b2⟩ := q2.out h1.out b1.out; replace p2 := hide p2; replace h2 := hide h2; replace b2 := hide b2; clear q2 p1 h1 b1)
  go_upto_region 6 with (go_at_call 9; refine (H2.out _ _ _ p2.out).mono ?_; rintro e w3 ⟨rfl, q3⟩; obtain ⟨O3, p3, h3, b3⟩ := q3.out h2.out b2.out; replace b3 := hide b3; clear q3 p2 h2 b2 p3 h3)
  go_upto_region 9 with (go_at_call 6; refine (HT3.out _ (HG.out.below b3.out)).mono ?_; rintro r w4 ⟨rfl, hb4⟩; replace b3 := hide (bt b3.out hb4); clear hb4)
  clear H0 H1 H2 HT3
  by_cases hb : blocks < 1 ∨ 16 < blocks
  · have HN := hide (fun W => HI.out.2.1.1 blocks W hb)
    unfold err at HN
    go_upto_region 10 with (go_at_call 5; refine (HN.out _).mono ?_; rintro e w5 ⟨⟨v, rfl⟩, hb5⟩; replace b3 := hide (bt b3.out hb5); clear hb5)
    rcases hb with hb | hb
    all_goals
      go_wp2
      go_ret
      exact ⟨rfl, b3.out⟩
  · obtain ⟨m, rfl⟩ : ∃ m : Nat, blocks = m := ⟨blocks.toNat, by omega⟩
    have hm1 : 1 ≤ m := by omega
    have hm2 : m ≤ 16 := by omega
    have hm16 : (m : Int) ≤ 16 := by omega
    clear hb
    have HN := hide (fun W => HI.out.2.1.2 m W hm1 hm2)
    go_upto_region 10 with (go_at_call 5; refine (HN.out _).mono ?_; rintro e w5 ⟨pv, O, rfl, p5, h5, b5⟩; have HV := hide (show VA PP w pv (8 * m) (fun _ => []) (fun _ => false) O (.slice none 0 0) [] (.slice none 0 0) [] w5 from ⟨p5, OwI.nil _ _, OwZ.nil _ _, fun g hg => Nat.le_trans b3.out.size (h5 g hg), fun g e => by simp [Value.ownBlock] at e, fun g e => by simp [Value.ownBlock] at e, bt b3.out b5⟩); clear p5 h5 b5 b3)
    have HIN := hide (Inv.start (8 * m))
    go_wp2
    go_loopw [13, 14, 15] (fun va vb i wr => ∃ (k : Nat) (ws : Nat → List Int) (ts : Nat → Bool) (O : Nat → Prop) (ps : List Nat) (zs : List (List Int)), k ≤ len ∧ k ≤ 80 ∧ ps.length ≤ k ∧ i = .int .i64 k ∧ Hid (Inv (8 * m) ws ts ps zs) ∧ Hid (VA PP w pv (8 * m) ws ts O va ps vb zs wr)) (fun _ _ i _ => 80 - (intOf i).toNat)
    case atStart => exact ⟨0, _, _, O, [], [], by omega, by omega, by simp, rfl, HIN, HV⟩
    case round =>
      clear HV HIN HN
      obtain ⟨k, ws, ts, O, ps, zs, hk1, hk2, hpk, rfl, HIN, HV⟩ := hrel
      by_cases hlt : k < len ∧ k < 80
      · obtain ⟨hlt1, hlt2⟩ := hlt
        obtain ⟨b, off, rfl, hblt, hrg⟩ := HST.out (by omega)
        have HRG := hide (fun W (hb : Below w.heap.size w W) => (show W.rangeAt b (off + k * 31) (stC (sts k)).toList from fun j v hv => by rw [hb.cell (p := ⟨b, off + k * 31 + j, none⟩) hblt]; exact hrg k hlt1 j v hv))
        have HX28 := hide (HX.out k hlt1 28 (by omega))
        clear hblt hrg
        have j1 : (k : Int) < (len : Int) := by omega
        have j2 : (k : Int) < 80 := by omega
        have HZ := hide step_new
        unfold zero31 at HZ
        generalize sts k = s at HRG HX28
        go_upto_region 18 with (first
          | (refine at_step rfl (.tmp 81) rfl rfl (HRG.out _ HV.out.2.2.2.2.2.2) ?_)
          | (refine at_stores rfl (.tmp 16) (.tmp 82) rfl rfl (HZ.out wr) s rfl ?_; intro w6 p6 on6; have HS := hide (HV.out.withS HI.out.1 (new_below _ on6) p6); clear on6 p6))
        generalize wr.heap.size = D at HS ⊢
        clear HV HZ HRG
        have lw := HS.out.2.1.what
        go_upto_if 85 with fail
        clear lw
        go_cut [13, 14, 17, 18, 19, 20, 21] from 69 to 230 (fun va vb _ _ _ _ _ wx => ∃ ws' ts' O' ps' zs', ps'.length ≤ k + 1 ∧ Hid (Inv (8 * m) ws' ts' ps' zs') ∧ Hid (VA PP w pv (8 * m) ws' ts' O' va ps' vb zs' wx))
        case first =>
          by_cases hw : el s 0 < 2
          · have HTk := hide (fun W (h : PP pv (8 * m) ws ts O W) => HI.out.2.2.1 pv m ws ts O (wh s) W hm2 h)
            unfold err at HTk
            by_cases hz : Ok6 (wh s)
            · cases ht : tk ws ts (wh s) (8 * m) with
              | none =>
                go_wp2_with (first
                  | (refine at_who rfl (.tmp 88) rfl rfl HS.out.2.1 ?_)
                  | (go_at_call 9; refine ((HTk.out _ HS.out.1.1).2.1 hz ht).mono ?_; rintro r w7 ⟨rfl, q7⟩; obtain ⟨O7, HS7⟩ := HS.out.prog q7; replace HS7 := hide HS7; clear q7 HS))
                go_meet
                exact ⟨ws, ts, O7, ps, zs, by omega, HIN, HS7.out.1⟩
              | some i =>
                have hi : i < 8 * m := (tk_some ht).1
                have HIN2 := hide (HIN.out.take rfl ht)
                go_upto_region 21 with (first
                  | (refine at_who rfl (.tmp 88) rfl rfl HS.out.2.1 ?_)
                  | (go_at_call 9; refine ((HTk.out _ HS.out.1.1).2.2 i hz ht hi).mono ?_; rintro r w7 ⟨rfl, q7⟩; obtain ⟨O7, HS7⟩ := HS.out.prog q7; replace HS7 := hide HS7; clear q7 HS))
                have hb8 := al_below w7 (.cells #[.int .i64 (1024 + (i : Int))] 3)
                have HS8 := hide (HS7.out.below HI.out.1 hb8)
                have HC8 := hide (show ∀ ad, (some (⟨w7.heap.size, 0, none⟩ : Addr)) = some ad → ∀ (j : Nat) u, [Value.int .i64 (1024 + (i : Int))][j]? = some u → (w7.alloc (.cells #[.int .i64 (1024 + (i : Int))] 3)).cell? (ad.add j) = some u from fun ad e j u hu => by cases e; rw [add_pl, Nat.zero_add]; match j with | 0 => simp at hu; subst hu; simp | j + 1 => simp at hu)
                have HL8 := hide (show ps.length + 1 ≤ 4000000 by omega)
                clear hb8 HS7
                go_upto_region 22 with (at_builtin; refine apI rfl (.tmp 95) (.tmp 97) rfl w.heap.size _ _ _ rfl HS8.out.1.2.1 (some ⟨w7.heap.size, 0, none⟩) 1 1 [.int .i64 (1024 + (i : Int))] rfl rfl (fun e => by cases e) HC8.out (fun u hu => by simp at hu; subst hu; rfl) HL8.out HS8.out.1.2.2.2.2.2.2.size ?_; intro v9 w9 o9 g9 n9; have HS9 := hide (HS8.out.appA HI.out.1 (ps' := ps ++ [i]) (show OwI w.heap.size w9 v9 (ps ++ [i]) from by unfold OwI; rw [pv1_app, List.length_append]; exact o9) g9 n9); clear o9 g9 n9 HS8 HC8)
                have hb10 := al_below w9 (.cells (sixC (wh s)) 33)
                have HS10 := hide (HS9.out.below HI.out.1 hb10)
                have HC10 := hide (six_list (wh s) w9)
                have HZL := hide HIN.out.1
                have HL10 := hide (show zs.length + 1 ≤ 4000000 by have := HZL.out; omega)
                unfold sixC at HS10 HC10
                clear hb10
                go_wp2_with (first
                  | (refine at_whox rfl (.tmp 100) rfl rfl HS9.out.2.1 ?_)
                  | (at_builtin; refine ap6 rfl (.tmp 99) (.tmp 102) rfl w.heap.size _ _ _ rfl HS10.out.1.2.2.1 (some ⟨w9.heap.size, 0, none⟩) 1 1 _ rfl rfl (fun e => by cases e) HC10.out (fun u hu => by simp at hu; rcases hu with rfl | rfl | rfl | rfl | rfl | rfl | rfl | rfl <;> rfl) HL10.out HS10.out.1.2.2.2.2.2.2.size ?_; intro v11 w11 o11 g11 n11; have HS11 := hide (HS10.out.appB HI.out.1 (zs' := zs ++ [wh s]) (show OwZ w.heap.size w11 v11 (zs ++ [wh s]) from by unfold OwZ; rw [zv1_app, List.length_append]; exact o11) g11 n11); clear o11 g11 n11 HS10 HC10 HS9))
                go_meet
                exact ⟨_, _, O7, _, _, by rw [List.length_append]; simp; omega, HIN2, HS11.out.1⟩
            · go_wp2_with (first
                | (refine at_who rfl (.tmp 88) rfl rfl HS.out.2.1 ?_)
                | (go_at_call 9; refine ((HTk.out _ HS.out.1.1).1 hz).mono ?_; rintro r w7 ⟨rfl, q7⟩; obtain ⟨O7, HS7⟩ := HS.out.prog q7; replace HS7 := hide HS7; clear q7 HS))
              go_meet
              exact ⟨ws, ts, O7, ps, zs, by omega, HIN, HS7.out.1⟩
          · obtain ⟨ao, ca, rfl, hao⟩ := HS.out.1.2.1.shape
            obtain ⟨bo, cb, rfl, hbo⟩ := HS.out.1.2.2.1.shape
            have HLZ := hide HIN.out.1
            have hpl : (ps.length : Int) ≤ 128 := by omega
            by_cases hp0 : ps.length = 0
            · have hp1 : ¬ (0 : Int) < (ps.length : Int) := by omega
              clear hp0
              go_wp2
              go_meet
              exact ⟨_, _, O, _, _, by omega, HIN, HS.out.1⟩
            · have hp1 : (0 : Int) < (ps.length : Int) := by omega
              obtain ⟨g, rfl⟩ := hao (by omega)
              obtain ⟨g2, rfl⟩ := hbo (by have := HLZ.out; omega)
              obtain ⟨q, hq, hP⟩ := pick_any (el s 28) ps.length HX28.out (by omega) (by omega)
              have HP := hide hP
              have l28 := HS.out.2.1.n
              clear hP hao hbo
              obtain ⟨hpn, htp, -⟩ := HIN.out.2.1 q hq
              have HIN2 := hide (HIN.out.give hq)
              obtain ⟨pq, hpq⟩ : ∃ x, ps.getD q 0 = x := ⟨_, rfl⟩
              have c1 := HS.out.1.2.1.at q hq
              rw [hpq] at hpn htp HIN2 c1
              have HGv := hide (fun W (h : PP pv (8 * m) ws ts O W) => (HI.out.2.2.2.1 pv m ws ts O W hm2 h).2 pq hpn htp)
              clear hpn htp hpq
              have j5 : (q : Int) < (ps.length : Int) := by omega
              go_upto_region 29 with (first
                | (go_at_call 20; refine (HP.out _).mono ?_; rintro e w' ⟨rfl, rfl⟩)
                | (go_at_call 11; refine (HGv.out _ HS.out.1.1).mono ?_; rintro r w7 ⟨rfl, q7⟩; obtain ⟨O7, HS7⟩ := HS.out.prog q7; replace HS7 := hide HS7.1; clear q7 HS c1 l28))
              obtain ⟨hca1, hca2⟩ := HS7.out.2.1.cap (by omega)
              obtain ⟨hcb1, hcb2⟩ := HS7.out.2.2.1.cap (by have := HLZ.out; omega)
              obtain ⟨adI, tI, eI⟩ := tailI g ps.length ca q (by omega) hca1
              obtain ⟨adZ, tZ, eZ⟩ := tailZ g2 zs.length cb q (by have := HLZ.out; omega) hcb1
              have hI := headI g ps.length ca q (by omega)
              have hZ := headZ g2 zs.length cb q (by have := HLZ.out; omega)
              have HEI := hide eI
              have HEZ := hide eZ
              clear hca1 hca2 hcb1 hcb2 eI eZ
              have HC1 := hide (show ∀ j, j < q → w7.cell? ((⟨g, 0, none⟩ : Addr).add j) = some (.int .i64 (1024 + (((ps.take q).getD j 0 : Nat) : Int))) from fun j hj => by rw [add_pl, Nat.zero_add, HS7.out.2.1.at j (by omega)]; simp [List.getD_eq_getElem?_getD, List.getElem?_take_of_lt hj])
              have HL1 := hide (show (ps.take q).length = q by rw [List.length_take]; omega)
              have HL2 := hide (show ([] : List Nat).length + q ≤ 4000000 by simp; omega)
              have HB7 := hide (Below.refl w7.heap.size w7)
              go_upto_region 30 with (at_builtin; (with_reducible refine ap_I rfl (.tmp 119) (.tmp 122) rfl w7.heap.size (.slice none 0 0) [] rfl (OwI.nil _ _) ⟨g, 0, none⟩ q ca (ps.take q) rfl HL1.out HC1.out HL2.out (Nat.le_refl _) ?_); intro v8 w8 o8 g8; replace HB7 := hide (HB7.out.grown g8 (Nat.le_refl _) (fun k e => by simp [Value.ownBlock] at e)); replace o8 := hide (show OwI w7.heap.size w8 v8 (ps.take q) from o8); clear g8 HC1 HL2)
              have HV8 := hide (HS7.out.below HI.out.1 HB7.out)
              have HC3 := hide (show ∀ j, j < ps.length - (q + 1) → w8.cell? (adI.add j) = some (.int .i64 (1024 + (((ps.drop (q + 1)).getD j 0 : Nat) : Int))) from fun j hj => by rw [HEI.out (by omega), add_pl, Nat.mul_one, HV8.out.2.1.at (q + 1 + j) (by omega)]; simp [List.getD_eq_getElem?_getD])
              have HL3 := hide (show (ps.drop (q + 1)).length = ps.length - (q + 1) by rw [List.length_drop])
              have HL4 := hide (show (ps.take q).length + (ps.length - (q + 1)) ≤ 4000000 by rw [HL1.out]; omega)
              go_upto_region 31 with (at_builtin; (with_reducible refine ap_I rfl (.tmp 124) (.tmp 128) rfl w7.heap.size v8 (ps.take q) rfl o8.out adI (ps.length - (q + 1)) (ca - (q + 1)) (ps.drop (q + 1)) rfl HL3.out HC3.out HL4.out HB7.out.size ?_); intro v9 w9 o9 g9; replace HB7 := hide (HB7.out.grown g9 HB7.out.size (fun k e => (owns_lt o8.out k e).2)); replace o9 := hide (show OwI w7.heap.size w9 v9 (cut ps q) from o9); clear g9 HC3 HL3 HL4 HL1 o8 HV8)
              have HV9 := hide (HS7.out.below HI.out.1 HB7.out)
              have HC5 := hide (show ∀ j, j < q → ∀ i, i < 8 → w9.cell? ((⟨g2, 0, none⟩ : Addr).add (8 * j + i)) = some (.int .i64 (el ((zs.take q).getD j []) i)) from fun j hj i hi => by rw [add_pl, Nat.zero_add, HV9.out.2.2.1.cells j i (by have := HLZ.out; omega) hi]; simp [List.getD_eq_getElem?_getD, List.getElem?_take_of_lt hj])
              have HL5 := hide (show (zs.take q).length = q by have := HLZ.out; rw [List.length_take]; omega)
              have HL6 := hide (show ([] : List (List Int)).length + q ≤ 4000000 by simp; omega)
              go_upto_region 32 with (at_builtin; (with_reducible refine ap_Z rfl (.tmp 130) (.tmp 133) rfl w7.heap.size (.slice none 0 0) [] rfl (OwZ.nil _ _) ⟨g2, 0, none⟩ q cb (zs.take q) rfl HL5.out HC5.out HL6.out HB7.out.size ?_); intro v10 w10 o10 g10; replace HB7 := hide (HB7.out.grown g10 HB7.out.size (fun k e => by simp [Value.ownBlock] at e)); replace o9 := hide (show OwI w7.heap.size w10 v9 (cut ps q) from owns_same o9.out (fun g e => g10.block g (owns_lt o9.out g e).1 (by simp [Value.ownBlock]))); replace o10 := hide (show OwZ w7.heap.size w10 v10 (zs.take q) from o10); clear g10 HC5 HL6 HV9)
              have HV10 := hide (HS7.out.below HI.out.1 HB7.out)
              have HC7 := hide (show ∀ j, j < zs.length - (q + 1) → ∀ i, i < 8 → w10.cell? (adZ.add (8 * j + i)) = some (.int .i64 (el ((zs.drop (q + 1)).getD j []) i)) from fun j hj i hi => by rw [HEZ.out (by omega), add_pl, show (q + 1) * 8 + (8 * j + i) = 8 * (q + 1 + j) + i by omega, HV10.out.2.2.1.cells (q + 1 + j) i (by omega) hi]; simp [List.getD_eq_getElem?_getD])
              have HL7 := hide (show (zs.drop (q + 1)).length = zs.length - (q + 1) by rw [List.length_drop])
              have HL8 := hide (show (zs.take q).length + (zs.length - (q + 1)) ≤ 4000000 by rw [HL5.out]; have := HLZ.out; omega)
              have j10 : (q : Int) + 1 ≤ (zs.length : Int) := by have := HLZ.out; omega
              go_upto_region 33 with (at_builtin; (with_reducible refine ap_Z rfl (.tmp 135) (.tmp 139) rfl w7.heap.size v10 (zs.take q) rfl o10.out adZ (zs.length - (q + 1)) (cb - (q + 1)) (zs.drop (q + 1)) rfl HL7.out HC7.out HL8.out HB7.out.size ?_); intro v11 w11 o11 g11; replace HB7 := hide (HB7.out.grown g11 HB7.out.size (fun k e => (owns_lt o10.out k e).2)); replace o9 := hide (show OwI w7.heap.size w11 v9 (cut ps q) from owns_same o9.out (fun g e => g11.block g (owns_lt o9.out g e).1 (fun e' => owns_ne o9.out o10.out g e e'.symm))); replace o11 := hide (show OwZ w7.heap.size w11 v11 (cut zs q) from o11); clear g11 HC7 HL7 HL8 HL5 o10 HV10)
              have HV11 := hide (HS7.out.fresh HI.out.1 HB7.out o9.out o11.out)
              have HLC := hide (cut_len ps q hq)
              clear o9 o11 HB7 HS7 tI tZ hI hZ
              go_wp2
              go_meet
              exact ⟨_, _, O7, _, _, by have := HLC.out; omega, HIN2, HV11⟩
        case rest =>
          clear HS HIN HX28
          obtain ⟨ws, ts, O, ps, zs, hps, HIN, HV⟩ := hcut
          obtain ⟨ao, ca, rfl, hao⟩ := HV.out.2.1.shape
          obtain ⟨bo, cb, rfl, hbo⟩ := HV.out.2.2.1.shape
          have HLZ := hide HIN.out.1
          have hcf := HIN.out.2.2.2.1
          have HFr := hide (fun W (h : PP pv (8 * m) ws ts O W) => HI.out.2.2.2.2.2.2 pv m ws ts O W hm2 h)
          generalize cf ts (8 * m) = cc at HFr hcf
          have qf : ((cc : Int) != (m : Int) * 8 - (ps.length : Int)) = false := by simp; omega
          have hpl : (ps.length : Int) ≤ 128 := by omega
          have hcc : (cc : Int) ≤ 128 := by omega
          clear hcf
          go_upto_region 37 with (go_at_call 12; refine (HFr.out _ HV.out.1).mono ?_; rintro r w12 ⟨rfl, q12⟩; obtain ⟨O12, HV12, -, -⟩ := HV.out.prog q12; replace HV12 := hide HV12; clear q12 HV)
          clear HFr qf hcc
          go_wp2
          go_loopw [22] (fun t wr => ∃ (q : Nat) (O : Nat → Prop), q ≤ ps.length ∧ t = .int .i64 q ∧ Hid (VA PP w pv (8 * m) ws ts O (.slice ao ps.length ca) ps (.slice bo zs.length cb) zs wr)) (fun t _ => ps.length - (intOf t).toNat)
          case atStart => exact ⟨0, O12, by omega, rfl, HV12⟩
          case round =>
            clear HV12
            obtain ⟨q, O, hq, rfl, HV⟩ := hrel
            by_cases hql : q < ps.length
            · obtain ⟨g, rfl⟩ := hao (by omega)
              obtain ⟨g2, rfl⟩ := hbo (by have := HLZ.out; omega)
              obtain ⟨hpn, htp, hwp⟩ := HIN.out.2.1 q hql
              have HAt := hide (fun r (hr : r < ps.length) => HIN.out.2.1 r hr)
              obtain ⟨pq, hpq⟩ : ∃ x, ps.getD q 0 = x := ⟨_, rfl⟩
              obtain ⟨zq, hzq⟩ : ∃ x, zs.getD q [] = x := ⟨_, rfl⟩
              rw [hpq] at hpn htp hwp
              rw [hzq] at hwp
              have HOw := hide (fun W (h : PP pv (8 * m) ws ts O W) => (HI.out.2.2.2.2.1 pv m ws ts O W hm2 h).2 pq hpn htp)
              rw [hwp] at HOw
              have HPQ := hide hpq
              have HZQ := hide hzq
              have HWP := hide hwp
              have HHT := hide htp
              have c1 := HV.out.2.1.at q hql
              rw [hpq] at c1
              have j1 : (q : Int) < (ps.length : Int) := by omega
              have j2 : (q : Int) < (zs.length : Int) := by have := HLZ.out; omega
              have HZn := hide zero_new
              unfold zero6 at HZn
              have hp8 : (pq : Int) < (m : Int) * 8 := by omega
              clear hpq hzq hwp htp hpn
              go_upto_region 41 with (first
                | (go_at_call 15; refine (HOw.out _ HV.out.1).mono ?_; rintro r w13 ⟨rfl, q13⟩; obtain ⟨O13, HV13, -, -⟩ := HV.out.prog q13; replace HV13 := hide HV13; clear q13 HV c1)
                | (refine at_store6 rfl (.tmp 23) (.tmp 164) rfl rfl (HZn.out w13) zq rfl ?_; intro w14 p14 on14; have HV14 := hide (HV13.out.below HI.out.1 (new_below _ on14)); replace p14 := hide p14; clear on14 HV13))
              generalize w13.heap.size = D2 at p14 ⊢
              have e1 := p14.out.hl
              have e2 := HV14.out.2.2.1.at q (by have := HLZ.out; omega)
              rw [HZQ.out] at e2
              have c1 := HV14.out.2.1.at q hql
              rw [HPQ.out] at c1
              have q0 := eq_same zq
              have n1 : decide ((1024 : Int) + (pq : Int) < 1024) = false := decide_eq_false (by omega)
              have n2 : decide ((1024 : Int) + (m : Int) * 8 ≤ 1024 + (pq : Int)) = false := decide_eq_false (by omega)
              have n3 : IntKind.i64.wrap ((m : Int) * 8) = (m : Int) * 8 := by rw [IntKind.wrap_i64]; omega
              have n4 : IntKind.i64.wrap (1024 + (m : Int) * 8) = 1024 + (m : Int) * 8 := by rw [IntKind.wrap_i64]; omega
              replace HV14 := hide (HV14.out.below HI.out.1 (Below.refl _ _).drew)
              replace p14 := hide (p14.out.kept (Below.refl _ _).drew)
              have HLd := hide (show w14.drew.cell? ⟨g, q, none⟩ = some (.int .i64 (1024 + (pq : Int))) ∧ (hload (.pointer (some ⟨D2, 0, none⟩))).run Tryd.prog w14.drew = .ok (.agg (sixC zq)) w14.drew ∧ (hload (.pointer (some ⟨g2, q * 8, none⟩))).run Tryd.prog w14.drew = .ok (.agg (sixC zq)) w14.drew from ⟨by have := HV14.out.2.1.at q hql; rw [HPQ.out] at this; exact this, p14.out.hl, by have := HV14.out.2.2.1.at q (by have := HLZ.out; omega); rw [HZQ.out] at this; exact this⟩)
              clear e1 e2 c1
              obtain ⟨c1, e1, e2⟩ := HLd.out
              go_region_held3 (fun w' => w'.cell? ⟨g, q, none⟩ = some (.int .i64 (1024 + (pq : Int))) ∧ (hload (.pointer (some ⟨D2, 0, none⟩))).run Tryd.prog w' = .ok (.agg (sixC zq)) w' ∧ (hload (.pointer (some ⟨g2, q * 8, none⟩))).run Tryd.prog w' = .ok (.agg (sixC zq)) w')
                (first
                  | go_keep
                  | exact HLd.out)
                (fail)
              clear e1 e2 c1 q0 n1 n2 n3 n4 p14 HOw HZn HLd
              generalize w14.drew = w15 at HV14 ⊢
              go_wp2
              go_loopw [25] (fun t wr => ∃ r : Nat, r ≤ q ∧ t = .int .i64 r ∧ Hid (VA PP w pv (8 * m) ws ts O13 (.slice (some ⟨g, 0, none⟩) ps.length ca) ps (.slice (some ⟨g2, 0, none⟩) zs.length cb) zs wr)) (fun t _ => q - (intOf t).toNat)
              case atStart => exact ⟨0, by omega, rfl, HV14⟩
              case round =>
                clear HV14
                obtain ⟨r, hr, rfl, HV⟩ := hrel
                by_cases hrq : r < q
                · obtain ⟨hpr1, hpr2, hpr3⟩ := HAt.out r (by omega)
                  have hnq := HIN.out.2.2.1 r q hrq hql
                  rw [HPQ.out] at hnq
                  obtain ⟨pr, hpr⟩ : ∃ x, ps.getD r 0 = x := ⟨_, rfl⟩
                  obtain ⟨zr, hzr⟩ : ∃ x, zs.getD r [] = x := ⟨_, rfl⟩
                  rw [hpr] at hpr1 hpr2 hpr3 hnq
                  rw [hzr] at hpr3
                  have HPR := hide hpr
                  have HZR := hide hzr
                  have n1 : ((1024 : Int) + (pr : Int) == 1024 + (pq : Int)) = false := by simp; omega
                  have d1 : ((1024 : Int) + (pr : Int)).tdiv 8 = (1024 + (pr : Int)) / 8 := Int.tdiv_eq_ediv_of_nonneg (by omega)
                  have d2 : ((1024 : Int) + (pq : Int)).tdiv 8 = (1024 + (pq : Int)) / 8 := Int.tdiv_eq_ediv_of_nonneg (by omega)
                  have d3 : IntKind.i64.wrap ((1024 + (pr : Int)) / 8) = (1024 + (pr : Int)) / 8 := by rw [IntKind.wrap_i64]; omega
                  have d4 : IntKind.i64.wrap ((1024 + (pq : Int)) / 8) = (1024 + (pq : Int)) / 8 := by rw [IntKind.wrap_i64]; omega
                  have i1 : (r : Int) < (ps.length : Int) := by omega
                  have i2 : (r : Int) < (zs.length : Int) := by have := HLZ.out; omega
                  have HEZ := hide (show pr / 8 = pq / 8 → eqz zr zq = true from fun hb => by have := HIN.out.2.2.2.2 pr pq hpr1 (by omega) hpr2 HHT.out hb; rw [hpr3, HWP.out] at this; exact this)
                  clear hpr hzr hpr1 hpr2 hpr3 hnq
                  by_cases hb : pr / 8 = pq / 8
                  · have rb : ((1024 + (pr : Int)) / 8 == (1024 + (pq : Int)) / 8) = true := by simp; omega
                    have qq := eq_one (HEZ.out hb)
                    clear hb
                    go_upto_region 46 with fail
                    replace HV := hide (HV.out.below HI.out.1 (Below.refl _ _).drew)
                    have HLd := hide (show wr.drew.cell? ⟨g, r, none⟩ = some (.int .i64 (1024 + (pr : Int))) ∧ wr.drew.cell? ⟨g, q, none⟩ = some (.int .i64 (1024 + (pq : Int))) ∧ (hload (.pointer (some ⟨g2, r * 8, none⟩))).run Tryd.prog wr.drew = .ok (.agg (sixC zr)) wr.drew ∧ (hload (.pointer (some ⟨g2, q * 8, none⟩))).run Tryd.prog wr.drew = .ok (.agg (sixC zq)) wr.drew from ⟨by have := HV.out.2.1.at r (by omega); rw [HPR.out] at this; exact this, by have := HV.out.2.1.at q hql; rw [HPQ.out] at this; exact this, by have := HV.out.2.2.1.at r (by have := HLZ.out; omega); rw [HZR.out] at this; exact this, by have := HV.out.2.2.1.at q (by have := HLZ.out; omega); rw [HZQ.out] at this; exact this⟩)
                    obtain ⟨c1, c2, e1, e2⟩ := HLd.out
                    go_region_held3 (fun w' => w'.cell? ⟨g, r, none⟩ = some (.int .i64 (1024 + (pr : Int))) ∧ w'.cell? ⟨g, q, none⟩ = some (.int .i64 (1024 + (pq : Int))) ∧ (hload (.pointer (some ⟨g2, r * 8, none⟩))).run Tryd.prog w' = .ok (.agg (sixC zr)) w' ∧ (hload (.pointer (some ⟨g2, q * 8, none⟩))).run Tryd.prog w' = .ok (.agg (sixC zq)) w')
                      (first
                        | go_keep
                        | exact HLd.out)
                      (fail)
                    clear c1 c2 e1 e2 HLd
                    generalize wr.drew = w16 at HV ⊢
                    go_wp2_with fail
                    go_roundw
                    case rel => exact ⟨r + 1, by omega, by go_num, HV⟩
                    case measure => simp [intOf]; omega
                  · have rb : ((1024 + (pr : Int)) / 8 == (1024 + (pq : Int)) / 8) = false := by simp; omega
                    clear hb
                    have c1 := HV.out.2.1.at r (by omega)
                    rw [HPR.out] at c1
                    have c2 := HV.out.2.1.at q hql
                    rw [HPQ.out] at c2
                    go_upto_region 46 with fail
                    go_quiet (fail)
                    replace HV := hide (HV.out.below HI.out.1 (show Below wr.heap.size wr (wr.drewN nq) from ⟨rfl, rfl, rfl, Nat.le_refl _, fun _ _ => rfl⟩))
                    clear c1 c2
                    generalize wr.drewN nq = w16 at HV ⊢
                    go_wp2_with fail
                    go_roundw
                    case rel => exact ⟨r + 1, by omega, by go_num, HV⟩
                    case measure => simp [intOf]; omega
                · obtain rfl : q = r := by omega
                  go_wp2
                  go_roundw
                  case rel => exact ⟨q + 1, O13, by omega, by go_num, HV⟩
                  case measure => simp [intOf]; omega
            · obtain rfl : ps.length = q := by omega
              go_wp2
              go_roundw
              case rel => exact ⟨k + 1, ws, ts, O, ps, zs, by omega, by omega, hps, by go_num, HIN, HV⟩
              case measure => simp [intOf]; omega
      · by_cases hk : k < len
        · obtain rfl : k = 80 := by omega
          have j1 : (80 : Int) < (len : Int) := by omega
          clear hlt
          go_wp2
          go_ret
          exact ⟨rfl, HV.out.2.2.2.2.2.2⟩
        · have j1 : ¬ (k : Int) < (len : Int) := by omega
          clear hlt
          go_wp2
          go_ret
          exact ⟨rfl, HV.out.2.2.2.2.2.2⟩
end Go.Proofs.YtchjhmokmpjbdaaDoor
