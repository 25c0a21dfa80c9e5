/- The statement's function BindPlays returns true, whatever the script, if the program's table keeps what is asked of it. -/
import Derived.Test.YtjkkonpangcnjaaDoorBdV
namespace Go.Proofs.YtjkkonpangcnjaaDoor
open Go.RowKit

attribute [local go_sem ↓] fload_shut bload_shut beq_shut
set_option maxRecDepth 100000 in
set_option maxHeartbeats 16000000 in
theorem bplays_walk (TP : Value → Nat → (Nat → List Int) → (Nat → Bool) → List (List Int) → (Nat → Prop) → World → Prop) (I : JI TP) (blocks : Int) (a : Option Addr) (len cap : Nat) (sts : Nat → List Int) (w : World) (hg : Laid0 w) (hl : len ≤ maxLen) (hst : Steps a len sts w) :
    Calls Tryd.prog 3 #[.int .i64 blocks, .slice a len cap] w fun e w' => e = .returned (.bool true) ∧ Below w.heap.size w w' := by
  have HG := hide hg
  have HI := hide I
  have HST := hide hst
  have hl' : (len : Int) ≤ 9223372036854775807 := by unfold maxLen at hl; omega
  clear hg hst hl
  by_cases hb : blocks < 1 ∨ 16 < blocks
  · have HN := hide (I.2.2.1.1 blocks w hb)
    have HT := hide (tells_err 1)
    unfold err at HN HT
    clear I
    go_enter Tryd.func3, Tryd.ntmps3
    go_upto_region 2 with (go_at_call 5; refine HN.out.mono ?_; rintro e w1 ⟨⟨v, rfl⟩, hb1⟩; replace hb1 := hide hb1)
    rcases hb with hb | hb
    all_goals
      go_wp2_with (go_at_call 6; refine (HT.out _ (HG.out.below hb1.out)).mono ?_; rintro e w2 ⟨rfl, hb2⟩; replace hb1 := hide (bt hb1.out hb2); clear hb2)
      go_ret
      exact ⟨rfl, hb1.out⟩
  · obtain ⟨m, rfl⟩ : ∃ m : Nat, blocks = m := ⟨blocks.toNat, by omega⟩
    have hm1 : 1 ≤ m := by omega
    have hm2 : m ≤ 16 := by omega
    have k1 : ¬ (m : Int) < 1 := by omega
    have k2 : ¬ (16 : Int) < (m : Int) := by omega
    clear hb
    have HN := hide (I.2.2.1.2 m w hm1 hm2)
    have HM := hide (fun W => rtable_new m W hm2)
    have hm16 : (m : Int) ≤ 16 := by omega
    clear I
    go_enter Tryd.func3, Tryd.ntmps3
    go_upto_region 2 with (go_at_call 5; refine HN.out.mono ?_; rintro e w1 ⟨tv, O, rfl, pp, hO, hb1⟩; replace hb1 := hide hb1; replace pp := hide pp; replace hO := hide hO)
    go_upto_region 7 with (go_at_call 7; refine (HM.out _).mono ?_; rintro e w2 ⟨B, P, BW, BT, rfl, rp, hg3, hb2⟩; replace hb2 := hide hb2; replace rp := hide rp; replace hg3 := hide hg3)
    have HV := hide (show VX TP w tv B m (fun _ => []) (fun _ => false) [] O (fun _ => []) (fun _ => false) [] (fun g => g = B ∨ g = P ∨ g = BW ∨ g = BT ∨ (Value.slice none 0 0).ownBlock = some g) [] w2 from by
      have k := HI.out.1 tv m _ _ _ O w1 pp.out
      have hs := hb1.out.size
      have h3 := hg3.out
      refine ⟨k.2 w2 hb2.out.size (fun g hg => hb2.out.block g (k.1 g hg)), ⟨P, BW, BT, _, rp.out, rfl⟩, fun g hg => ⟨hO.out g hg, fun e => ?_⟩, fun g e => ?_, bt hb1.out hb2.out, fun p hp => absurd hp (by simp)⟩
      · have := k.1 g hg
        rcases e with e | e | e | e | e
        · omega
        · omega
        · omega
        · omega
        · simp [Value.ownBlock] at e
      · rcases e with e | e | e | e | e
        · omega
        · omega
        · omega
        · omega
        · simp [Value.ownBlock] at e)
    clear pp hO hb1 rp hg3 hb2 HN HM
    generalize (fun g => g = B ∨ g = P ∨ g = BW ∨ g = BT ∨ (Value.slice none 0 0).ownBlock = some g) = Od at HV
    have HBI := hide (BI.start m)
    go_wp2
    go_loopw [8] (fun i wr => ∃ (k : Nat) (ws : Nat → List Int) (ts : Nat → Bool) (bs : List (List Int)) (O Od : Nat → Prop), k ≤ len ∧ k ≤ 60 ∧ bs.length ≤ k ∧ i = .int .i64 k ∧ Hid (BI m ws ts bs) ∧ Hid (VX TP w tv B m ws ts bs O ws ts bs Od [] wr)) (fun i _ => 60 - (intOf i).toNat)
    case atStart => exact ⟨0, _, _, _, O, Od, by omega, by omega, by simp, rfl, HBI, HV⟩
    case round =>
      clear HV HBI
      obtain ⟨k, ws, ts, bs, O, Od, hk1, hk2, hbl, rfl, HBI, HV⟩ := hrel
      by_cases hlt : k < len ∧ k < 60
      · obtain ⟨hlt1, hlt2⟩ := hlt
        obtain ⟨b, off, rfl, hblt, hrg⟩ := HST.out (by omega)
        have HRG := hide (fun W (hb : Below w.heap.size w W) => (show W.rangeAt b (off + k * 31) (stC (sts k)).toList from fun j v hv => by rw [hb.cell (p := ⟨b, off + k * 31 + j, none⟩) hblt]; exact hrg k hlt1 j v hv))
        clear hblt hrg
        have j1 : (k : Int) < (len : Int) := by omega
        have j2 : (k : Int) < 60 := by omega
        have HZ := hide step_new
        unfold zero31 at HZ
        generalize sts k = s at HRG
        have HFF := hide (fun W => rff_any (sf s) W)
        have HCK := hide (fun W => HI.out.2.1 (sf s) W)
        have HTE := hide (tells_ev (fe (okf (sf s))))
        obtain ⟨e0, he0⟩ : ∃ e, fe (okf (sf s)) = e := ⟨_, rfl⟩
        rw [he0] at HFF HCK HTE
        generalize ev e0 = EV0 at HCK HTE
        have HE0 := hide he0
        clear he0
        go_upto_region 13 with (first
          | (refine at_step rfl (.tmp 62) rfl rfl (HRG.out _ HV.out.2.2.2.2.1) ?_)
          | (refine at_stores rfl (.tmp 9) (.tmp 63) rfl rfl (HZ.out wr) s rfl ?_; intro w3 p3 on3; replace HV := hide (HV.out.add HI.out.1 (new_below _ on3) p3); clear on3 p3))
        generalize wr.heap.size = D at HV ⊢
        clear HZ HRG
        have g1 := (show StIn D s w3 from (HV.out.2.2.2.2.2 _ (List.mem_cons_self ..)).1).fl
        go_upto_region 14 with (go_at_call 8; (with_reducible refine (HFF.out _).mono ?_); rintro r w4 ⟨rfl, hb4⟩; replace HV := hide (HV.out.below HI.out.1 hb4); clear hb4 g1)
        have g1 := (show StIn D s w4 from (HV.out.2.2.2.2.2 _ (List.mem_cons_self ..)).1).fl
        go_upto_region 15 with (first
          | (go_at_call 9; (with_reducible refine (HCK.out _).mono ?_); rintro r w5 ⟨rfl, hb5⟩; replace HV := hide (HV.out.below HI.out.1 hb5); clear hb5 g1)
          | (go_at_call 6; refine (HTE.out _ (HG.out.below HV.out.2.2.2.2.1)).mono ?_; rintro r w6 ⟨rfl, hb6⟩; replace HV := hide (HV.out.below HI.out.1 hb6); clear hb6))
        have lw := (show StIn D s w6 from (HV.out.2.2.2.2.2 _ (List.mem_cons_self ..)).1).what
        clear HFF HCK HTE
        go_upto_block 2 with fail
        clear lw
        go_cut [10, 11, 14, 15, 16, 17, 18, 19, 20, 21, 22, 23, 24, 25, 26, 27, 28] from 50 to 245 (fun u v _ _ _ _ _ _ _ _ _ _ _ _ _ _ _ wx => u = .bool true ∧ v = .bool true ∧ ∃ ws' ts' bs' O' Od', bs'.length ≤ k + 1 ∧ Hid (BI m ws' ts' bs') ∧ Hid (VX TP w tv B m ws' ts' bs' O' ws' ts' bs' Od' [(D, .cells (stC s) 37 (0, 0))] wx))
        case first =>
          by_cases hA : el s 0 = 0 ∨ el s 0 = 1 ∨ el s 0 = 2
          · as_aux_lemma =>
              obtain ⟨x, e, ws', ts', bs', hMk⟩ := mk_total m ws ts bs (sf s) (el s 28) (el s 29) (el s 30)
              have HDm := hide (fun O W (h : DT B m ws ts bs O W) => dmake h hm2 (show bs.length ≤ 128 by omega) hMk)
              have HPm := hide (fun O W h => HI.out.2.2.2.1 tv m ws ts bs O W (sf s) _ _ _ x e ws' ts' bs' hm2 (by omega) HBI.out h hMk)
              have HT := hide (tells_ev e)
              have HB2 := hide (HBI.out.make hMk)
              generalize ev e = EV at HPm HT
              have qx := beq_run x x
              rw [eqb_refl] at qx
              have HZb := hide bd_zero
              unfold zero23 at HZb
              clear hMk
              go_upto_if 118 with fail
              go_cut [118] from 120 to 121 (fun u wx => u = .bool true ∧ w6 = wx)
              case first =>
                rcases hA with hA | hA | hA
                · have q0 : (el s 0 == 0) = true := by rw [hA]; rfl
                  clear hA
                  go_wp2
                  go_meet
                  exact ⟨by rw [q0], rfl⟩
                · have q0 : (el s 0 == 0) = false := by rw [hA]; rfl
                  have q1 : (el s 0 == 1) = true := by rw [hA]; rfl
                  clear hA
                  go_wp2
                  go_meet
                  exact ⟨rfl, rfl⟩
                · have q0 : (el s 0 == 0) = false := by rw [hA]; rfl
                  have q1 : (el s 0 == 1) = false := by rw [hA]; rfl
                  have q2 : (el s 0 == 2) = true := by rw [hA]; rfl
                  clear hA
                  go_wp2
                  go_meet
                  exact ⟨rfl, rfl⟩
              case rest =>
                obtain ⟨rfl, rfl⟩ := hcut
                clear hA
                have hS : StIn D s w6 := (HV.out.2.2.2.2.2 (D, .cells (stC s) 37 (0, 0)) (List.mem_cons_self ..)).1
                have g1 := hS.fl
                have l28 := hS.cellAt 28 (by omega)
                have l29 := hS.cellAt 29 (by omega)
                have l30 := hS.cellAt 30 (by omega)
                clear hS
                go_upto_region 29 with (first
                  | (go_at_call 10; refine (HDm.out _ _ HV.out.2.1).mono ?_; rintro r w7 ⟨rfl, Od7, p7, f7, o7⟩; replace HV := hide (HV.out.doc HI.out.1 p7 f7 o7); clear p7 f7 o7 g1 l28 l29 l30)
                  | (refine at_storeb rfl (.tmp 14) (.tmp 133) rfl rfl (HZb.out w7) x rfl ?_; intro w8 p8 on8; replace HV := hide (HV.out.add HI.out.1 (new_below _ on8) p8); clear on8 p8))
                generalize w7.heap.size = E1 at HV ⊢
                have hS : StIn D s w8 := (HV.out.2.2.2.2.2 (D, .cells (stC s) 37 (0, 0)) (List.mem_cons_of_mem _ (List.mem_cons_self ..))).1
                have g1 := hS.fl
                have l28 := hS.cellAt 28 (by omega)
                have l29 := hS.cellAt 29 (by omega)
                have l30 := hS.cellAt 30 (by omega)
                clear hS
                go_upto_region 30 with (first
                  | (go_at_call 11; refine (HPm.out _ _ HV.out.1).mono ?_; rintro r w9 ⟨rfl, q9⟩; obtain ⟨O9, HV9, -⟩ := HV.out.prog q9; replace HV9 := hide HV9; clear q9 HV g1 l28 l29 l30)
                  | (refine at_storeb rfl (.tmp 16) (.tmp 146) rfl rfl (HZb.out w9) x rfl ?_; intro w10 p10 on10; replace HV9 := hide (HV9.out.add HI.out.1 (new_below _ on10) p10); clear on10 p10))
                generalize w9.heap.size = E2 at HV9 ⊢
                go_upto_region 31 with (go_at_call 6; refine (HT.out _ (HG.out.below HV9.out.2.2.2.2.1)).mono ?_; rintro r w11 ⟨rfl, hb11⟩; replace HV9 := hide (HV9.out.below HI.out.1 hb11); clear hb11)
                have e2 := (show BdIn E2 x w11 from (HV9.out.2.2.2.2.2 (E2, .cells (bdC x) 41 (0, 0)) (List.mem_cons_self ..)).1).bl
                have e1 := (show BdIn E1 x w11 from (HV9.out.2.2.2.2.2 (E1, .cells (bdC x) 41 (0, 0)) (List.mem_cons_of_mem _ (List.mem_cons_self ..))).1).bl
                go_wp2
                go_meet
                exact ⟨rfl, rfl, ws', ts', bs', O9, Od7, by have := HB2.out.2; omega, hide HB2.out.1, hide HV9.out.drop.drop⟩
          · have q0 : (el s 0 == 0) = false := by simp; omega
            have q1 : (el s 0 == 1) = false := by simp; omega
            have q2 : (el s 0 == 2) = false := by simp; omega
            clear hA
            by_cases hB : el s 0 = 3
            · as_aux_lemma =>
                have q3 : (el s 0 == 3) = true := by rw [hB]; rfl
                clear hB
                obtain ⟨e, bs', hUs⟩ := us_total bs (el s 28) (el s 30)
                have HDm := hide (fun O W (h : DT B m ws ts bs O W) => duse h (show bs.length ≤ 128 by omega) hUs)
                have HPm := hide (fun O W h => HI.out.2.2.2.2.1 tv m ws ts bs O W _ _ e bs' hm2 (by omega) HBI.out h hUs)
                have HT := hide (tells_ev e)
                have HB2 := hide (HBI.out.use hUs)
                generalize ev e = EV at HPm HT
                clear hUs
                have hS : StIn D s w6 := (HV.out.2.2.2.2.2 (D, .cells (stC s) 37 (0, 0)) (List.mem_cons_self ..)).1
                have l28 := hS.cellAt 28 (by omega)
                have l30 := hS.cellAt 30 (by omega)
                clear hS
                go_upto_region 34 with (go_at_call 12; refine (HDm.out _ _ HV.out.2.1).mono ?_; rintro r w7 ⟨rfl, Od7, p7, f7, o7⟩; replace HV := hide (HV.out.doc HI.out.1 p7 f7 o7); clear p7 f7 o7 l28 l30)
                have hS : StIn D s w7 := (HV.out.2.2.2.2.2 (D, .cells (stC s) 37 (0, 0)) (List.mem_cons_self ..)).1
                have l28 := hS.cellAt 28 (by omega)
                have l30 := hS.cellAt 30 (by omega)
                clear hS
                go_wp2_with (first
                  | (go_at_call 13; refine (HPm.out _ _ HV.out.1).mono ?_; rintro r w9 ⟨rfl, q9⟩; obtain ⟨O9, HV9, -⟩ := HV.out.prog q9; replace HV9 := hide HV9; clear q9 HV l28 l30)
                  | (go_at_call 6; refine (HT.out _ (HG.out.below HV9.out.2.2.2.2.1)).mono ?_; rintro r w11 ⟨rfl, hb11⟩; replace HV9 := hide (HV9.out.below HI.out.1 hb11); clear hb11))
                go_meet
                exact ⟨rfl, rfl, ws, ts, bs', O9, Od7, by have := HB2.out.2; omega, hide HB2.out.1, HV9⟩
            · have q3 : (el s 0 == 3) = false := by simpa using hB
              clear hB
              by_cases hC : el s 0 = 4
              · as_aux_lemma =>
                  have q4 : (el s 0 == 4) = true := by rw [hC]; rfl
                  clear hC
                  have HTk := hide (fun W => tick_any (el s 30) W)
                  have HPm := hide (fun O W h => HI.out.2.2.2.2.2.2.2.1 tv m ws ts bs O W (el s 30) hm2 (by omega) HBI.out h)
                  cases ht : tc (el s 30)
                  · rw [ht] at HTk
                    have HT := hide (tells_err 1)
                    have HPe := hide (fun O W h => (HPm.out O W h).1 ht)
                    unfold err at HT HPe
                    clear HPm ht
                    have hS : StIn D s w6 := (HV.out.2.2.2.2.2 (D, .cells (stC s) 37 (0, 0)) (List.mem_cons_self ..)).1
                    have l30 := hS.cellAt 30 (by omega)
                    clear hS
                    go_upto_region 43 with (first
                      | (go_at_call 14; (with_reducible refine (HTk.out _).mono ?_); rintro r w7 ⟨rfl, rfl⟩)
                      | (go_at_call 16; refine (HPe.out _ _ HV.out.1).mono ?_; rintro r w9 ⟨vb, rfl, br9, q9⟩; obtain ⟨O9, HV9, -⟩ := HV.out.prog q9; replace HV9 := hide HV9; replace br9 := hide br9; clear q9 HV l30))
                    go_wp2_with (first
                      | (go_at_call 6; refine (HT.out _ (HG.out.below HV9.out.2.2.2.2.1)).mono ?_; rintro r w11 ⟨rfl, hb11⟩; replace HV9 := hide (HV9.out.below HI.out.1 hb11); replace br9 := hide (br9.out.same hb11); clear hb11)
                      | (go_at_call 17; refine (binds_same _ _ 0 0 [] _ br9.out (bdrow_nil _ _) (by simp)).mono ?_; rintro r w12 ⟨rfl, hb12⟩; replace HV9 := hide (HV9.out.below HI.out.1 hb12); clear hb12))
                    go_meet
                    exact ⟨rfl, rfl, ws, ts, bs, O9, Od, by omega, HBI, HV9⟩
                  · rw [ht] at HTk
                    have HT := hide tells_nil
                    have HPe := hide (fun O W h => (HPm.out O W h).2 ht)
                    have HDm := hide (fun O W (h : DT B m ws ts bs O W) => dexpire h hm2 (show bs.length ≤ 128 by omega) HBI.out ht)
                    have HB2 := hide (HBI.out.expire (el s 30))
                    obtain ⟨⟨go, re, ts'⟩, hes⟩ : ∃ x, es (el s 30) bs ts bs.length = x := ⟨_, rfl⟩
                    rw [hes] at HPe HDm HB2
                    replace HB2 : Hid (BI m ws ts' re ∧ re.length ≤ bs.length ∧ go.length ≤ bs.length) := HB2
                    have HGL := hide (show go.length ≤ 1000 by have := HB2.out.2.2; omega)
                    clear HPm ht hes
                    have hS : StIn D s w6 := (HV.out.2.2.2.2.2 (D, .cells (stC s) 37 (0, 0)) (List.mem_cons_self ..)).1
                    have l30 := hS.cellAt 30 (by omega)
                    clear hS
                    go_upto_region 42 with (first
                      | (go_at_call 14; (with_reducible refine (HTk.out _).mono ?_); rintro r w' ⟨rfl, rfl⟩)
                      | (go_at_call 15; refine (HDm.out _ _ HV.out.2.1).mono ?_; rintro r w7 ⟨vg, Od7, rfl, ow7, p7, f7, o7, -⟩; have HOl := hide (show ∀ g, O g → g < w'.heap.size from (HI.out.1 tv m _ _ _ O w' HV.out.1).1); have rg := hide (show BdRow w'.heap.size w7 vg go from OwB.bdrow ow7); replace HV := hide (HV.out.doc HI.out.1 p7 f7 o7); clear ow7 p7 f7 o7 l30))
                    have hS : StIn D s w7 := (HV.out.2.2.2.2.2 (D, .cells (stC s) 37 (0, 0)) (List.mem_cons_self ..)).1
                    have l30 := hS.cellAt 30 (by omega)
                    clear hS
                    go_upto_region 43 with (go_at_call 16; refine (HPe.out _ _ HV.out.1).mono ?_; rintro r w9 ⟨vb, rfl, br9, q9⟩; obtain ⟨O9, HV9, f9⟩ := HV.out.prog q9; replace HV9 := hide HV9; replace br9 := hide (show BdRow 0 w9 vb go from br9); replace rg := hide (rg.out.fr f9 (fun g h1 _ h3 => absurd (HOl.out g h3) (by omega))); clear q9 f9 HV l30 HOl)
                    go_wp2_with (first
                      | (go_at_call 6; refine (HT.out _ (HG.out.below HV9.out.2.2.2.2.1)).mono ?_; rintro r w11 ⟨rfl, hb11⟩; replace HV9 := hide (HV9.out.below HI.out.1 hb11); replace br9 := hide (br9.out.same hb11); replace rg := hide (rg.out.same hb11); clear hb11)
                      | (go_at_call 17; refine (binds_same _ _ _ _ go _ br9.out rg.out HGL.out).mono ?_; rintro r w12 ⟨rfl, hb12⟩; replace HV9 := hide (HV9.out.below HI.out.1 hb12); clear hb12))
                    go_meet
                    exact ⟨rfl, rfl, ws, ts', re, O9, Od7, by have := HB2.out.2.1; omega, hide HB2.out.1, HV9⟩
              · have q4 : (el s 0 == 4) = false := by simpa using hC
                clear hC
                as_aux_lemma =>
                  obtain ⟨x, e, hNr⟩ := nr_total bs (el s 9) (el s 28)
                  have HPm := hide (fun O W h => HI.out.2.2.2.2.2.1 tv m ws ts bs O W _ _ x e hm2 (by omega) HBI.out h hNr)
                  have HT := hide (tells_ev e)
                  generalize ev e = EV at HPm HT
                  have HNr := hide hNr
                  clear hNr
                  have qx := beq_run x x
                  rw [eqb_refl] at qx
                  have HZb := hide bd_zero
                  unfold zero23 at HZb
                  have HEw := hide (show w.heap.size ≤ w6.heap.size from HV.out.2.2.2.2.1.size)
                  have HVE := hide (HV.out.add HI.out.1 (al_below w6 _) (HZb.out w6))
                  have HDE := hide (show D < w6.heap.size from obj_lt (HV.out.2.2.2.2.2 _ (List.mem_cons_self ..)).1)
                  clear HV
                  go_upto_region 18 with fail
                  generalize World.alloc _ _ = w7 at HVE ⊢
                  generalize w6.heap.size = E1 at HVE HEw HDE ⊢
                  have hS : StIn D s w7 := (HVE.out.2.2.2.2.2 (D, .cells (stC s) 37 (0, 0)) (List.mem_cons_of_mem _ (List.mem_cons_self ..))).1
                  have l28 := hS.cellAt 28 (by omega)
                  clear hS
                  have HPo := fun P BW BT v W (h : RT B P BW BT (8 * m) ws ts v bs W) => rport_any B P BW BT (8 * m) ws ts v bs (el s 28) W h (by omega)
                  obtain ⟨kk, hkk⟩ : ∃ z, ix (prt bs (el s 28)) = z := ⟨_, rfl⟩
                  rw [hkk] at HPo
                  have HKK := hide hkk
                  replace HPo := hide HPo
                  clear hkk
                  go_upto_region 19 with (go_at_call 18; obtain ⟨P, BW, BT, v, hRT, hOd⟩ := HVE.out.2.1; refine (HPo.out _ _ _ _ _ hRT).mono ?_; rintro r w' ⟨rfl, rfl⟩; clear hRT hOd)
                  clear l28 HPo
                  obtain ⟨bb, hbb⟩ : ∃ b, nb bs (el s 9) (el s 28) = b := ⟨_, rfl⟩
                  have HBB := hide hbb
                  clear hbb
                  go_cut [94] from 78 to 93 (fun u wx => u = .bool bb ∧ Hid (VX TP w tv B m ws ts bs O ws ts bs Od [(E1, .cells (bdC []) 41 (0, 0)), (D, .cells (stC s) 37 (0, 0))] wx))
                  case first =>
                    cases hp : prt bs (el s 28) with
                    | none =>
                      have HB0 := hide (show bb = false by rw [← HBB.out]; unfold nb; rw [hp])
                      obtain rfl : kk = -1 := by rw [← HKK.out, hp]; rfl
                      clear hp
                      go_quiet (fail)
                      replace HVE := hide (HVE.out.below HI.out.1 (show Below w'.heap.size w' (w'.drewN nq) from ⟨rfl, rfl, rfl, Nat.le_refl _, fun _ _ => rfl⟩))
                      generalize w'.drewN nq = w8 at HVE ⊢
                      go_wp2_with fail
                      go_meet
                      exact ⟨by rw [HB0.out], HVE⟩
                    | some j =>
                      have HB0 := hide (show bb = (el (bs.getD j []) 0 == el s 9) by rw [← HBB.out]; unfold nb; rw [hp])
                      obtain rfl : kk = (j : Int) := by rw [← HKK.out, hp]; rfl
                      have hj := (prt_lt hp).1
                      obtain ⟨P, BW, BT, v, hRT, hOd⟩ := HVE.out.2.1
                      obtain ⟨ao, cap2, rfl, -, -, hg2⟩ := hRT.2.2.shape
                      obtain ⟨g2, rfl⟩ := hg2 (by omega)
                      have l1 := hRT.all
                      have c0 := hRT.2.2.cell j 0 hj (by omega)
                      rw [Nat.add_zero] at c0
                      have l9 := (show StIn D s w' from (HVE.out.2.2.2.2.2 (D, .cells (stC s) 37 (0, 0)) (List.mem_cons_of_mem _ (List.mem_cons_self ..))).1).cellAt 9 (by omega)
                      have i0 : (0 : Int) ≤ (j : Int) := by omega
                      have i1 : (j : Int) < (bs.length : Int) := by omega
                      have hd : decide ((0 : Int) ≤ (j : Int)) = true := decide_eq_true i0
                      obtain ⟨y, hy⟩ : ∃ y, el (bs.getD j []) 0 = y := ⟨_, rfl⟩
                      rw [hy] at c0 HB0
                      clear hp hg2 hRT hOd hy
                      go_quiet (fail)
                      replace HVE := hide (HVE.out.below HI.out.1 (show Below w'.heap.size w' (w'.drewN nq) from ⟨rfl, rfl, rfl, Nat.le_refl _, fun _ _ => rfl⟩))
                      clear l1 c0 l9
                      generalize w'.drewN nq = w8 at HVE ⊢
                      go_wp2_with fail
                      go_meet
                      exact ⟨by rw [HB0.out], HVE⟩
                  case rest =>
                    clear HVE
                    obtain ⟨rfl, HVE⟩ := hcut
                    go_upto_if 94 with fail
                    go_cut [24] from 95 to 101 (fun u wx => u = .int .i64 e ∧ Hid (VX TP w tv B m ws ts bs O ws ts bs Od [(E1, .cells (bdC x) 41 (0, 0)), (D, .cells (stC s) 37 (0, 0))] wx))
                    case first =>
                      rcases HNr.out with ⟨h1, hx, he⟩ | ⟨j, h1, h2, hx, he⟩ | ⟨j, h1, h2, hx, he⟩
                      · have HXE := hide (And.intro hx he)
                        obtain rfl : bb = false := by rw [← HBB.out]; unfold nb; rw [h1]
                        clear h1 hx he HNr
                        go_wp2
                        go_meet
                        exact ⟨by rw [HXE.out.2], by rw [HXE.out.1]; exact HVE⟩
                      · have HXE := hide (And.intro hx he)
                        obtain rfl : bb = false := by rw [← HBB.out]; unfold nb; rw [h1]; exact h2
                        clear h1 h2 hx he HNr
                        go_wp2
                        go_meet
                        exact ⟨by rw [HXE.out.2], by rw [HXE.out.1]; exact HVE⟩
                      · have HXE := hide (And.intro hx he)
                        obtain rfl : bb = true := by rw [← HBB.out]; unfold nb; rw [h1]; exact h2
                        have hj := (prt_lt h1).1
                        obtain rfl : kk = (j : Int) := by rw [← HKK.out, h1]; rfl
                        obtain ⟨P, BW, BT, v, hRT, hOd⟩ := HVE.out.2.1
                        obtain ⟨ao, cap2, rfl, -, -, hg2⟩ := hRT.2.2.shape
                        obtain ⟨g2, rfl⟩ := hg2 (by omega)
                        have l1 := hRT.all
                        have gk := hRT.2.2.bl j hj
                        rw [← hx] at gk
                        have i1 : (j : Int) < (bs.length : Int) := by omega
                        have HE1 := hide (show BdIn E1 [] wc from (HVE.out.2.2.2.2.2 (E1, .cells (bdC []) 41 (0, 0)) (List.mem_cons_self ..)).1)
                        clear h1 h2 hx he HNr hg2 hRT hOd
                        go_wp2_with (refine at_storeb rfl (.tmp 25) (.tmp 101) rfl rfl HE1.out x rfl ?_; intro w9 p9 on9; have HV9 := hide (HVE.out.put HI.out.1 HEw.out (fun p hp => by rw [List.mem_singleton] at hp; rw [hp]; have := HDE.out; show D ≠ E1; omega) on9 p9); clear on9 p9)
                        go_meet
                        exact ⟨by rw [HXE.out.2], HV9⟩
                    case rest =>
                      clear HVE
                      obtain ⟨rfl, HVE⟩ := hcut
                      clear HNr HBB HKK
                      have hS : StIn D s wc := (HVE.out.2.2.2.2.2 (D, .cells (stC s) 37 (0, 0)) (List.mem_cons_of_mem _ (List.mem_cons_self ..))).1
                      have l9 := hS.cellAt 9 (by omega)
                      have l28 := hS.cellAt 28 (by omega)
                      clear hS
                      go_upto_region 23 with (first
                        | (go_at_call 19; refine (HPm.out _ _ HVE.out.1).mono ?_; rintro r w9 ⟨rfl, q9⟩; obtain ⟨O9, HV9, -⟩ := HVE.out.prog q9; replace HV9 := hide HV9; clear q9 HVE l9 l28)
                        | (refine at_storeb rfl (.tmp 27) (.tmp 110) rfl rfl (HZb.out w9) x rfl ?_; intro w10 p10 on10; replace HV9 := hide (HV9.out.add HI.out.1 (new_below _ on10) p10); clear on10 p10))
                      generalize w9.heap.size = E2 at HV9 ⊢
                      go_upto_region 24 with (go_at_call 6; refine (HT.out _ (HG.out.below HV9.out.2.2.2.2.1)).mono ?_; rintro r w11 ⟨rfl, hb11⟩; replace HV9 := hide (HV9.out.below HI.out.1 hb11); clear hb11)
                      have e2 := (show BdIn E2 x w11 from (HV9.out.2.2.2.2.2 (E2, .cells (bdC x) 41 (0, 0)) (List.mem_cons_self ..)).1).bl
                      have e1 := (show BdIn E1 x w11 from (HV9.out.2.2.2.2.2 (E1, .cells (bdC x) 41 (0, 0)) (List.mem_cons_of_mem _ (List.mem_cons_self ..))).1).bl
                      go_wp2
                      go_meet
                      exact ⟨rfl, rfl, ws, ts, bs, O9, Od, by omega, HBI, hide HV9.out.drop.drop⟩
        case rest =>
          as_aux_lemma =>
            clear HV HBI
            obtain ⟨rfl, rfl, ws, ts, bs, O, Od, hbl, HBI, HV⟩ := hcut
            obtain ⟨x, e, hFd⟩ := fd_total bs (sf s)
            have HPm := hide (fun O W h => HI.out.2.2.2.2.2.2.1 tv m ws ts bs O W _ x e hm2 (show bs.length ≤ 128 by omega) HBI.out h hFd)
            have HAl := hide (fun O W h => HI.out.2.2.2.2.2.2.2.2 tv m ws ts bs O W hm2 (show bs.length ≤ 128 by omega) HBI.out h)
            have HT := hide (tells_ev e)
            generalize ev e = EV at HPm HT
            have HFd := hide hFd
            clear hFd
            have qx := beq_run x x
            rw [eqb_refl] at qx
            have HZb := hide bd_zero
            unfold zero23 at HZb
            go_upto_region 47 with fail
            have HEw := hide (show w.heap.size ≤ wc.heap.size from HV.out.2.2.2.2.1.size)
            have HDE := hide (show D < wc.heap.size from obj_lt (HV.out.2.2.2.2.2 _ (List.mem_cons_self ..)).1)
            have HVE := hide (HV.out.add HI.out.1 (al_below wc _) (HZb.out wc))
            clear HV
            go_upto_region 48 with fail
            generalize World.alloc _ _ = w7 at HVE ⊢
            generalize wc.heap.size = E1 at HVE HEw HDE ⊢
            go_upto_if 204 with fail
            go_cut [12, 30] from 205 to 217 (fun u _ wx => u = .int .i64 e ∧ Hid (VX TP w tv B m ws ts bs O ws ts bs Od [(E1, .cells (bdC x) 41 (0, 0)), (D, .cells (stC s) 37 (0, 0))] wx))
            case first =>
              rcases HFd.out with ⟨h1, hx, he⟩ | ⟨h1, h2, hx, he⟩ | ⟨h1, j, h2, hx, he⟩
              · have HXE := hide (And.intro hx he)
                obtain rfl : e0 = 1 := by rw [← HE0.out, h1]; rfl
                clear h1 hx he HFd
                go_wp2
                go_meet
                exact ⟨by rw [HXE.out.2], by rw [HXE.out.1]; exact HVE⟩
              · have HXE := hide (And.intro hx he)
                obtain rfl : e0 = 0 := by rw [← HE0.out, h1]; rfl
                have HFi := fun P BW BT v W (h : RT B P BW BT (8 * m) ws ts v bs W) => rfind_any B P BW BT (8 * m) ws ts v bs (sf s) W h (by omega)
                rw [h2, show ix none = (-1 : Int) from rfl] at HFi
                replace HFi := hide HFi
                clear h1 h2 hx he HFd
                have g1 := (show StIn D s w7 from (HVE.out.2.2.2.2.2 (D, .cells (stC s) 37 (0, 0)) (List.mem_cons_of_mem _ (List.mem_cons_self ..))).1).fl
                go_wp2_with (go_at_call 20; obtain ⟨P, BW, BT, v, hRT, hOd⟩ := HVE.out.2.1; refine (HFi.out _ _ _ _ _ hRT).mono ?_; rintro r w8 ⟨rfl, hb8⟩; replace HVE := hide (HVE.out.below HI.out.1 hb8); clear hRT hOd hb8 g1)
                go_meet
                exact ⟨by rw [HXE.out.2], by rw [HXE.out.1]; exact HVE⟩
              · have HXE := hide (And.intro hx he)
                obtain rfl : e0 = 0 := by rw [← HE0.out, h1]; rfl
                have HFi := fun P BW BT v W (h : RT B P BW BT (8 * m) ws ts v bs W) => rfind_any B P BW BT (8 * m) ws ts v bs (sf s) W h (by omega)
                rw [h2, show ix (some j) = (j : Int) from rfl] at HFi
                replace HFi := hide HFi
                have hj : j < bs.length := by unfold fnd at h2; exact List.mem_range.1 (List.mem_of_find?_eq_some h2)
                have HX := hide hx
                clear h1 h2 hx he HFd
                have g1 := (show StIn D s w7 from (HVE.out.2.2.2.2.2 (D, .cells (stC s) 37 (0, 0)) (List.mem_cons_of_mem _ (List.mem_cons_self ..))).1).fl
                have i0 : ¬ (j : Int) < 0 := by omega
                have i1 : (j : Int) < (bs.length : Int) := by omega
                go_upto_region 52 with (go_at_call 20; obtain ⟨P, BW, BT, v, hRT, hOd⟩ := HVE.out.2.1; refine (HFi.out _ _ _ _ _ hRT).mono ?_; rintro r w8 ⟨rfl, hb8⟩; replace HVE := hide (HVE.out.below HI.out.1 hb8); clear hRT hOd hb8 g1)
                obtain ⟨P2, BW2, BT2, v2, hRT, hOd⟩ := HVE.out.2.1
                obtain ⟨ao, cap2, rfl, -, -, hg2⟩ := hRT.2.2.shape
                obtain ⟨g2, rfl⟩ := hg2 (by omega)
                have l1 := hRT.all
                have gk := hRT.2.2.bl j hj
                rw [← HX.out] at gk
                have HE1 := hide (show BdIn E1 [] w8 from (HVE.out.2.2.2.2.2 (E1, .cells (bdC []) 41 (0, 0)) (List.mem_cons_self ..)).1)
                clear hg2 hRT hOd
                go_wp2_with (refine at_storeb rfl (.tmp 29) (.tmp 217) rfl rfl HE1.out x rfl ?_; intro w9 p9 on9; have HV9 := hide (HVE.out.put HI.out.1 HEw.out (fun p hp => by rw [List.mem_singleton] at hp; rw [hp]; have := HDE.out; show D ≠ E1; omega) on9 p9); clear on9 p9)
                go_meet
                exact ⟨by rw [HXE.out.2], HV9⟩
            case rest =>
              clear HVE HFd
              obtain ⟨rfl, HVE⟩ := hcut
              have g1 := (show StIn D s wc from (HVE.out.2.2.2.2.2 (D, .cells (stC s) 37 (0, 0)) (List.mem_cons_of_mem _ (List.mem_cons_self ..))).1).fl
              go_upto_region 54 with (first
                | (go_at_call 21; refine (HPm.out _ _ HVE.out.1).mono ?_; rintro r w9 ⟨rfl, q9⟩; obtain ⟨O9, HV9, -⟩ := HVE.out.prog q9; replace HV9 := hide HV9; clear q9 HVE g1)
                | (refine at_storeb rfl (.tmp 31) (.tmp 223) rfl rfl (HZb.out w9) x rfl ?_; intro w10 p10 on10; replace HV9 := hide (HV9.out.add HI.out.1 (new_below _ on10) p10); clear on10 p10))
              generalize w9.heap.size = E2 at HV9 ⊢
              go_upto_region 55 with (go_at_call 6; refine (HT.out _ (HG.out.below HV9.out.2.2.2.2.1)).mono ?_; rintro r w11 ⟨rfl, hb11⟩; replace HV9 := hide (HV9.out.below HI.out.1 hb11); clear hb11)
              clear HPm HT HZb
              replace HV9 := hide (HV9.out.below HI.out.1 (Below.refl _ _).drew)
              obtain ⟨P2, BW2, BT2, v2, hRT, hOd⟩ := HV9.out.2.1
              have HRT := hide hRT
              have HOd := hide hOd
              have l1 := hRT.all
              clear hRT hOd
              have HBS := hide (fun W v1 (h1 : BdRow 0 W v1 bs) (h2 : OwB 0 W v2 bs) => binds_same v1 v2 0 0 bs W h1 h2.bdrow (by omega))
              go_region_held3 (fun w' => w'.cell? ⟨B, 1, none⟩ = some v2)
                (first
                  | go_keep
                  | exact HRT.out.all
                  | exact HRT15.out.all
                  | exact HRT16.out.all)
                (first
                  | (go_at_call 22; refine (HAl.out _ _ HV9.out.1).mono ?_; rintro r w15 ⟨vb, rfl, br, q15⟩; obtain ⟨O15, HV15, f15⟩ := HV9.out.prog q15; have HRT15 := hide (HRT.out.other HOd.out f15 (fun g e => (HV9.out.2.2.1 g e).2)); replace HV15 := hide HV15; replace br := hide br; clear q15 f15 HV9 l1; have l1 := HRT15.out.all)
                  | (go_at_call 17; refine (HBS.out _ _ br.out HRT15.out.2.2).mono ?_; rintro r w16 ⟨rfl, hb16⟩; have HRT16 := hide (HRT15.out.kept hb16); replace HV15 := hide (HV15.out.below HI.out.1 hb16); clear hb16 br l1; have l1 := HRT16.out.all))
              clear l1 HBS HRT HRT15 HRT16 HOd
              have e2 := (show BdIn E2 x w16 from (HV15.out.2.2.2.2.2 (E2, .cells (bdC x) 41 (0, 0)) (List.mem_cons_self ..)).1).bl
              have e1 := (show BdIn E1 x w16 from (HV15.out.2.2.2.2.2 (E1, .cells (bdC x) 41 (0, 0)) (List.mem_cons_of_mem _ (List.mem_cons_self ..))).1).bl
              go_wp2_with fail
              go_roundw
              case rel => exact ⟨k + 1, ws, ts, bs, O15, Od, by omega, by omega, hbl, by go_num, HBI, hide HV15.out.drop.drop.drop⟩
              case measure => simp [intOf]; omega
      · by_cases hk : k < len
        · obtain rfl : k = 60 := by omega
          have j1 : (60 : Int) < (len : Int) := by omega
          clear hlt
          go_wp2
          go_ret
          exact ⟨rfl, HV.out.2.2.2.2.1⟩
        · have j1 : ¬ (k : Int) < (len : Int) := by omega
          clear hlt
          go_wp2
          go_ret
          exact ⟨rfl, HV.out.2.2.2.2.1⟩
end Go.Proofs.YtjkkonpangcnjaaDoor
