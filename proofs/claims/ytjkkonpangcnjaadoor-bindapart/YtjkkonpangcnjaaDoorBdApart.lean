/- The statement's function BindApart returns true, whatever the script, if the program's table keeps what is asked of it. -/
import Derived.Test.YtjkkonpangcnjaaDoorBdR
import Derived.BigQuiet
namespace Go.Proofs.YtjkkonpangcnjaaDoor
open Go.RowKit

attribute [local go_sem ↓] fload_shut bload_shut beq_shut bstore_shut
set_option maxRecDepth 100000 in
set_option maxHeartbeats 16000000 in
theorem bapart_walk (TP : Value → Nat → (Nat → List Int) → (Nat → Bool) → List (List Int) → (Nat → Prop) → World → Prop) (I : JI TP) (R : JR TP) (blocks : Int) (a : Option Addr) (len cap : Nat) (sts : Nat → List Int) (now : Int) (w : World) (hg : Laid0 w) (hl : len ≤ maxLen) (hst : Steps a len sts w) :
    Calls Tryd.prog 4 #[.int .i64 blocks, .slice a len cap, .int .i64 now] w fun e w' => e = .returned (.bool true) ∧ Below w.heap.size w w' := by
  have HG := hide hg
  have HI := hide I
  have HR := hide R
  have HST := hide hst
  have hl' : (len : Int) ≤ 9223372036854775807 := by unfold maxLen at hl; omega
  have H0 := hide (I.2.2.1.2 1 w (by omega) (by omega))
  rw [show ((1 : Nat) : Int) = 1 from rfl] at H0
  have H1 := hide (fb1 I)
  have H2 := hide (fb2 I)
  have H3 := hide (fb3 R)
  have HZb := hide bd_zero
  unfold zero23 at HZb
  obtain ⟨x, hx⟩ : ∃ x, mkb f17 1024 5 6 0 = x := ⟨_, rfl⟩
  have HX := hide (show el x 19 = 1024 by rw [← hx]; rfl)
  rw [hx] at H1 H2
  generalize upd (fun _ => []) 0 (cli f17) = ws1 at H1 H2
  generalize upd (fun _ => false) 0 true = ts1 at H1 H2
  clear hg hst hl I R hx
  go_enter Tryd.func4, Tryd.ntmps4
  go_upto_region 4 with (go_at_call 5; refine H0.out.mono ?_; rintro e w1 ⟨zv, O1, rfl, p1, h1, b1⟩; have HV := hide (show VY TP w zv 1 (fun _ => []) (fun _ => false) [] O1 [] w1 from ⟨p1, h1, b1, fun p hp => absurd hp (by simp)⟩); clear p1 h1 b1)
  go_upto_region 5 with (first
    | (go_at_call 11; refine (H1.out _ _ _ HV.out.1).mono ?_; rintro e w2 ⟨rfl, q2⟩; obtain ⟨O2, HV2, -⟩ := HV.out.prog q2; replace HV2 := hide HV2; clear q2 HV)
    | (refine at_storeb rfl (.tmp 9) (.tmp 39) rfl rfl (HZb.out w2) x rfl ?_; intro w3 p3 on3; replace HV2 := hide (HV2.out.add HI.out.1 (new_below _ on3) p3); clear on3 p3))
  generalize w2.heap.size = E0 at HV2 ⊢
  go_upto_region 6 with (go_at_call 16; refine (H2.out _ _ _ HV2.out.1).mono ?_; rintro e w4 ⟨ga, gc, ts4, rfl, q4, bi4⟩; obtain ⟨O4, HV4, -⟩ := HV2.out.prog q4; replace HV4 := hide HV4; replace bi4 := hide bi4; clear q4 HV2)
  have c19 := (show BdIn E0 x w4 from (HV4.out.2.2.2 (E0, .cells (bdC x) 41 (0, 0)) (List.mem_cons_self ..)).1).cell 19 (by omega)
  rw [HX.out] at c19
  go_upto_region 8 with (go_at_call 22; refine (H3.out _ _ _ _ _ bi4.out HV4.out.1).mono ?_; rintro e w5 ⟨aa, ac, rfl, hb5⟩; have b5 := hide (bt HV4.out.2.2.1 hb5); clear hb5 c19 HV4 bi4)
  clear H0 H1 H2 H3 HX
  by_cases hb : blocks < 1 ∨ 16 < blocks
  · have HN := hide (fun W => HI.out.2.2.1.1 blocks W hb)
    unfold err at HN
    go_upto_region 9 with (go_at_call 5; refine (HN.out _).mono ?_; rintro e w6 ⟨⟨v, rfl⟩, hb6⟩; replace b5 := hide (bt b5.out hb6); clear hb6)
    rcases hb with hb | hb
    all_goals
      go_wp2
      go_ret
      exact ⟨rfl, b5.out⟩
  · obtain ⟨m, rfl⟩ : ∃ m : Nat, blocks = m := ⟨blocks.toNat, by omega⟩
    have hm1 : 1 ≤ m := by omega
    have hm2 : m ≤ 16 := by omega
    have hm16 : (m : Int) ≤ 16 := by omega
    clear hb
    have HN := hide (fun W => HI.out.2.2.1.2 m W hm1 hm2)
    go_upto_region 9 with (go_at_call 5; refine (HN.out _).mono ?_; rintro e w6 ⟨tv, O, rfl, p6, h6, b6⟩; have HV := hide (show VY TP w tv m (fun _ => []) (fun _ => false) [] O [] w6 from ⟨p6, fun g hg => Nat.le_trans b5.out.size (h6 g hg), bt b5.out b6, fun p hp => absurd hp (by simp)⟩); clear p6 h6 b6 b5)
    have HBI := hide (BI.start m)
    go_wp2
    go_loopw [14] (fun i wr => ∃ (k : Nat) (ws : Nat → List Int) (ts : Nat → Bool) (bs : List (List Int)) (O : Nat → Prop), k ≤ len ∧ k ≤ 60 ∧ bs.length ≤ k ∧ i = .int .i64 k ∧ Hid (BI m ws ts bs) ∧ Hid (VY TP w tv m ws ts bs O [] wr)) (fun i _ => 60 - (intOf i).toNat)
    case atStart => exact ⟨0, _, _, _, O, by omega, by omega, by simp, rfl, HBI, HV⟩
    case round =>
      clear HV HBI HN
      obtain ⟨k, ws, ts, bs, O, hk1, hk2, hbl, rfl, HBI, HV⟩ := hrel
      by_cases hlt : k < len ∧ k < 60
      · obtain ⟨hlt1, hlt2⟩ := hlt
        obtain ⟨b, off, rfl, hblt, hrg⟩ := HST.out (by omega)
        have HRG := hide (fun W (hb : Below w.heap.size w W) => (show W.rangeAt b (off + k * 31) (stC (sts k)).toList from fun j v hv => by rw [hb.cell (p := ⟨b, off + k * 31 + j, none⟩) hblt]; exact hrg k hlt1 j v hv))
        clear hblt hrg
        have j1 : (k : Int) < (len : Int) := by omega
        have j2 : (k : Int) < 60 := by omega
        have HZ := hide step_new
        unfold zero31 at HZ
        generalize sts k = s at HRG
        go_upto_region 15 with (first
          | (refine at_step rfl (.tmp 93) rfl rfl (HRG.out _ HV.out.2.2.1) ?_)
          | (refine at_stores rfl (.tmp 15) (.tmp 94) rfl rfl (HZ.out wr) s rfl ?_; intro w3 p3 on3; replace HV := hide (HV.out.add HI.out.1 (new_below _ on3) p3); clear on3 p3))
        generalize wr.heap.size = D at HV ⊢
        clear HZ HRG
        have lw := (show StIn D s w3 from (HV.out.2.2.2 _ (List.mem_cons_self ..)).1).what
        go_upto_block 2 with fail
        clear lw
        go_cut [] from 81 to 198 (fun wx => ∃ ws' ts' bs' O', bs'.length ≤ k + 1 ∧ Hid (BI m ws' ts' bs') ∧ Hid (VY TP w tv m ws' ts' bs' O' [] wx))
        case first =>
          as_aux_lemma =>
            by_cases hA : el s 0 = 0 ∨ el s 0 = 1 ∨ el s 0 = 2
            · obtain ⟨x, e, ws', ts', bs', hMk⟩ := mk_total m ws ts bs (sf s) (el s 28) (el s 29) (el s 30)
              have HPm := hide (fun O W h => HI.out.2.2.2.1 tv m ws ts bs O W (sf s) _ _ _ x e ws' ts' bs' hm2 (by omega) HBI.out h hMk)
              have HB2 := hide (HBI.out.make hMk)
              generalize ev e = EV at HPm
              clear hMk
              go_upto_if 97 with fail
              go_cut [97] from 99 to 100 (fun u wx => u = .bool true ∧ w3 = wx)
              case first =>
                rcases hA with hA | hA | hA
                · have q0 : (el s 0 == 0) = true := by rw [hA]; rfl
                  clear hA
                  go_wp2
                  go_meet
                  exact ⟨by rw [q0], rfl⟩
                · have q0 : (el s 0 == 0) = false := by rw [hA]; rfl
                  have q1 : (el s 0 == 1) = true := by rw [hA]; rfl
                  clear hA
                  go_wp2
                  go_meet
                  exact ⟨rfl, rfl⟩
                · have q0 : (el s 0 == 0) = false := by rw [hA]; rfl
                  have q1 : (el s 0 == 1) = false := by rw [hA]; rfl
                  have q2 : (el s 0 == 2) = true := by rw [hA]; rfl
                  clear hA
                  go_wp2
                  go_meet
                  exact ⟨rfl, rfl⟩
              case rest =>
                obtain ⟨rfl, rfl⟩ := hcut
                clear hA
                have hS : StIn D s w3 := (HV.out.2.2.2 (D, .cells (stC s) 37 (0, 0)) (List.mem_cons_self ..)).1
                have g1 := hS.fl
                have l28 := hS.cellAt 28 (by omega)
                have l29 := hS.cellAt 29 (by omega)
                have l30 := hS.cellAt 30 (by omega)
                clear hS
                go_wp2_with (go_at_call 11; refine (HPm.out _ _ HV.out.1).mono ?_; rintro r w9 ⟨rfl, q9⟩; obtain ⟨O9, HV9, -⟩ := HV.out.prog q9; replace HV9 := hide HV9; clear q9 HV g1 l28 l29 l30)
                go_meet
                exact ⟨ws', ts', bs', O9, by have := HB2.out.2; omega, hide HB2.out.1, hide HV9.out.drop⟩
            · have q0 : (el s 0 == 0) = false := by simp; omega
              have q1 : (el s 0 == 1) = false := by simp; omega
              have q2 : (el s 0 == 2) = false := by simp; omega
              clear hA
              by_cases hB : el s 0 = 3
              · have q3 : (el s 0 == 3) = true := by rw [hB]; rfl
                clear hB
                obtain ⟨e, bs', hUs⟩ := us_total bs (el s 28) (el s 30)
                have HPm := hide (fun O W h => HI.out.2.2.2.2.1 tv m ws ts bs O W _ _ e bs' hm2 (by omega) HBI.out h hUs)
                have HB2 := hide (HBI.out.use hUs)
                generalize ev e = EV at HPm
                clear hUs
                have hS : StIn D s w3 := (HV.out.2.2.2 (D, .cells (stC s) 37 (0, 0)) (List.mem_cons_self ..)).1
                have l28 := hS.cellAt 28 (by omega)
                have l30 := hS.cellAt 30 (by omega)
                clear hS
                go_wp2_with (go_at_call 13; refine (HPm.out _ _ HV.out.1).mono ?_; rintro r w9 ⟨rfl, q9⟩; obtain ⟨O9, HV9, -⟩ := HV.out.prog q9; replace HV9 := hide HV9; clear q9 HV l28 l30)
                go_meet
                exact ⟨ws, ts, bs', O9, by have := HB2.out.2; omega, hide HB2.out.1, hide HV9.out.drop⟩
              · have q3 : (el s 0 == 3) = false := by simpa using hB
                clear hB
                by_cases hC : el s 0 = 4
                · have q4 : (el s 0 == 4) = true := by rw [hC]; rfl
                  clear hC
                  have HPm := hide (fun O W h => HI.out.2.2.2.2.2.2.2.1 tv m ws ts bs O W (el s 30) hm2 (by omega) HBI.out h)
                  have HB2 := hide (HBI.out.expire (el s 30))
                  cases ht : tc (el s 30)
                  · have HPe := hide (fun O W h => (HPm.out O W h).1 ht)
                    clear HPm ht
                    have hS : StIn D s w3 := (HV.out.2.2.2 (D, .cells (stC s) 37 (0, 0)) (List.mem_cons_self ..)).1
                    have l30 := hS.cellAt 30 (by omega)
                    clear hS
                    go_wp2_with (go_at_call 16; refine (HPe.out _ _ HV.out.1).mono ?_; rintro r w9 ⟨vb, rfl, -, q9⟩; obtain ⟨O9, HV9, -⟩ := HV.out.prog q9; replace HV9 := hide HV9; clear q9 HV l30)
                    go_meet
                    exact ⟨ws, ts, bs, O9, by omega, HBI, hide HV9.out.drop⟩
                  · have HPe := hide (fun O W h => (HPm.out O W h).2 ht)
                    clear HPm ht
                    have hS : StIn D s w3 := (HV.out.2.2.2 (D, .cells (stC s) 37 (0, 0)) (List.mem_cons_self ..)).1
                    have l30 := hS.cellAt 30 (by omega)
                    clear hS
                    go_wp2_with (go_at_call 16; refine (HPe.out _ _ HV.out.1).mono ?_; rintro r w9 ⟨vb, rfl, -, q9⟩; obtain ⟨O9, HV9, -⟩ := HV.out.prog q9; replace HV9 := hide HV9; clear q9 HV l30)
                    go_meet
                    exact ⟨ws, _, _, O9, by have := HB2.out.2.1; omega, hide HB2.out.1, hide HV9.out.drop⟩
                · have q4 : (el s 0 == 4) = false := by simpa using hC
                  clear hC
                  go_wp2
                  go_meet
                  exact ⟨ws, ts, bs, O, by omega, HBI, hide HV.out.drop⟩
        case rest =>
          as_aux_lemma =>
            clear HV HBI
            obtain ⟨ws, ts, bs, O, hbl, HBI, HV⟩ := hcut
            have HAl := hide (fun O W h => HR.out.2.2 tv m ws ts bs O W hm2 (show bs.length ≤ 128 by omega) HBI.out h)
            have hbi : (bs.length : Int) ≤ 61 := by omega
            go_upto_region 25 with (go_at_call 22; refine (HAl.out _ _ HV.out.1).mono ?_; rintro r w5 ⟨vb, rfl, br, hb5⟩; replace HV := hide (HV.out.below HI.out.1 hb5); obtain ⟨ra, rc, rfl, hr⟩ := br; replace hr := hide hr; clear hb5)
            go_wp2
            go_loopw [17] (fun t wr => ∃ q : Nat, q ≤ bs.length ∧ t = .int .i64 q ∧ Hid (VY TP w tv m ws ts bs O [] wr) ∧ Hid (Below w5.heap.size w5 wr)) (fun t _ => bs.length - (intOf t).toNat)
            case atStart => exact ⟨0, by omega, rfl, HV, Below.refl _ _⟩
            case round =>
              clear HV
              obtain ⟨q, hq, rfl, HV, HB⟩ := hrel
              by_cases hql : q < bs.length
              · have i1 : (q : Int) < (bs.length : Int) := by omega
                obtain ⟨g, off, rfl, ⟨-, hgl⟩, hrow⟩ := hr.out (by omega)
                have HRow := hide (show ∀ W, Below w5.heap.size w5 W → ∀ k, k < bs.length → W.rangeAt g (off + k * 23) (bdC (bs.getD k [])).toList from fun W hW k hk j u hu => by rw [hW.cell (p := ⟨g, off + k * 23 + j, none⟩) hgl]; exact hrow k hk j u hu)
                obtain ⟨bq, hbq⟩ : ∃ b, bs.getD q [] = b := ⟨_, rfl⟩
                have HFd := HBI.out.fd hql
                have HNr := HBI.out.nr hql
                rw [hbq] at HFd HNr
                have HPf := hide (fun W h => HR.out.2.1 tv m ws ts bs O W _ bq 0 hm2 (show bs.length ≤ 128 by omega) HBI.out h HFd)
                have HPn := hide (fun W h => HR.out.1 tv m ws ts bs O W _ _ bq 0 hm2 (show bs.length ≤ 128 by omega) HBI.out h HNr)
                rw [show ev 0 = .nilIface from rfl] at HPf HPn
                have HBQ := hide hbq
                have HGl := hide hgl
                clear hbq hrow hgl HFd HNr
                have g1 := row_fl (by have := HRow.out wr HB.out q hql; rw [HBQ.out] at this; exact this : wr.rangeAt g (off + q * 23) (bdC bq).toList)
                have HZb := hide bd_zero
                unfold zero23 at HZb
                go_upto_region 29 with (first
                  | (go_at_call 21; refine (HPf.out _ HV.out.1).mono ?_; rintro r w7 ⟨rfl, hb7⟩; replace HV := hide (HV.out.below HI.out.1 hb7); replace HB := hide (HB.out.trans (hb7.mono HB.out.size)); clear hb7 g1)
                  | (refine at_storeb rfl (.tmp 18) (.tmp 141) rfl rfl (HZb.out w7) bq rfl ?_; intro w8 p8 on8; replace HB := hide (HB.out.trans ((new_below _ on8).mono HB.out.size)); replace HV := hide (HV.out.add HI.out.1 (new_below _ on8) p8); clear on8 p8))
                generalize w7.heap.size = E1 at HV ⊢
                have hE1 : E1 < w8.heap.size := obj_lt (HV.out.2.2.2 _ (List.mem_cons_self ..)).1
                have HEw := hide (show w.heap.size ≤ w8.heap.size ∧ w5.heap.size ≤ w8.heap.size ∧ E1 < w8.heap.size from ⟨HV.out.2.2.1.size, HB.out.size, hE1⟩)
                have HVa := hide ((HV.out.add HI.out.1 (al_below w8 _) (HZb.out w8)).below HI.out.1 (show Below _ _ _ from (Below.refl _ _).drew))
                have HBa := hide ((HB.out.trans ((al_below w8 (.cells zero23 41)).mono HB.out.size)).drew)
                unfold zero23 at HBa
                have HBl := hide (show Below w5.heap.size w5 w8.drew from HB.out.drew)
                have HVl := hide (HV.out.below HI.out.1 (show Below w8.heap.size w8 w8.drew from (Below.refl _ _).drew))
                have HCs := hide (show ∀ W, Below w5.heap.size w5 W → W.cell? ⟨g, off + q * 23, none⟩ = some (.int .i64 (el bq 0)) ∧ W.cell? ⟨g, off + q * 23 + 19, none⟩ = some (.int .i64 (el bq 19)) from fun W hW => by
                  have h9 := HRow.out W hW q hql
                  rw [HBQ.out] at h9
                  exact ⟨row_cell h9 0 (by omega), row_cell h9 19 (by omega)⟩)
                obtain ⟨c0, c19⟩ := HCs.out _ HBl.out
                obtain ⟨y0, hy0⟩ : ∃ y, el bq 0 = y := ⟨_, rfl⟩
                obtain ⟨y19, hy19⟩ : ∃ y, el bq 19 = y := ⟨_, rfl⟩
                rw [hy0] at HPn HCs c0
                rw [hy19] at HPn HCs c19
                have HY := hide hy19
                clear hy0 hy19 hE1 HV
                have hne8 : w8.heap.size ≠ g := by have := HGl.out; have := HEw.out.2.1; omega
                go_cut [20, 21] from 143 to 158 (fun u v wx => ∃ E2, u = .pointer (some ⟨E2, 0, none⟩) ∧ v = .nilIface ∧ Hid (VY TP w tv m ws ts bs O [(E2, .cells (bdC bq) 41 (0, 0)), (E1, .cells (bdC bq) 41 (0, 0))] wx) ∧ Hid (Below w5.heap.size w5 wx))
                case first =>
                  go_region_held3 (fun w' => w'.cell? ⟨g, off + q * 23, none⟩ = some (.int .i64 y0) ∧ w'.cell? ⟨g, off + q * 23 + 19, none⟩ = some (.int .i64 y19))
                    (first
                      | exact HCs.out _ HBl.out
                      | exact HCs.out _ HBa.out
                      | exact HCs.out _ HB9.out
                      | exact HCs.out _ HB9a.out
                      | exact HCs.out _ HB10.out
                      | go_keep)
                    (first
                      | (go_at_call 19; refine (HPn.out _ HVa.out.1).mono ?_; rintro r w9 ⟨rfl, hb9⟩; have HV9 := hide (HVa.out.below HI.out.1 hb9); have HB9 := hide (HBa.out.trans (hb9.mono HBa.out.size)); obtain ⟨w10, hst, p10, on10⟩ := (show BdIn w8.heap.size [] w9 from (HV9.out.2.2.2 _ (List.mem_cons_self ..)).1).held bq; have HB10 := hide (on10.below HB9.out HEw.out.2.1); have HV10 := hide (HV9.out.put HI.out.1 HEw.out.1 (fun p hp => by rw [List.mem_singleton] at hp; rw [hp]; have := HEw.out.2.2; show E1 ≠ w8.heap.size; omega) on10 p10); clear hb9 p10 on10)
                      | (go_at_call 19; refine (HPn.out _ HVl.out.1).mono ?_; rintro r w9 ⟨rfl, hb9⟩; have HV9 := hide (HVl.out.below HI.out.1 hb9); have HB9 := hide (HBl.out.trans (hb9.mono HBl.out.size)); have HB9a := hide (HB9.out.trans ((al_below w9 (.cells zero23 41)).mono HB9.out.size)); unfold zero23 at HB9a; obtain ⟨w10, hst, p10, on10⟩ := (HZb.out w9).held bq; have HB10 := hide (HB9.out.trans ((new_below _ on10).mono HB9.out.size)); have HV10 := hide (HV9.out.add HI.out.1 (new_below _ on10) p10); clear hb9 p10 on10))
                  all_goals
                    go_wp2_with fail
                    go_meet
                    exact ⟨_, rfl, rfl, HV10, HB10⟩
                case rest =>
                  clear HVa HBa HBl HCs c0 c19 HVl HEw
                  obtain ⟨E2, rfl, rfl, HV, HBn⟩ := hcut
                  go_upto_region 30 with fail
                  have qx := beq_run bq bq
                  rw [eqb_refl] at qx
                  have HVd := hide (HV.out.below HI.out.1 (show Below wc.heap.size wc wc.drew from (Below.refl _ _).drew))
                  have HBd := hide (show Below w5.heap.size w5 wc.drew from HBn.out.drew)
                  have HQ := hide (show wc.drew.rangeAt g (off + q * 23) (bdC bq).toList by have := HRow.out _ HBd.out q hql; rw [HBQ.out] at this; exact this)
                  by_cases hq0 : 0 < q
                  · have HLt := HBI.out.rise (show q - 1 < q by omega) hql
                    rw [HBQ.out, HY.out] at HLt
                    have HQ1 := hide (HRow.out _ HBd.out (q - 1) (by omega))
                    obtain ⟨y1, hy1⟩ : ∃ y, el (bs.getD (q - 1) []) 19 = y := ⟨_, rfl⟩
                    rw [hy1] at HLt
                    have d0 : decide ((0 : Int) < (q : Int)) = true := decide_eq_true (by omega)
                    have d1 : decide (y19 ≤ y1) = false := decide_eq_false (by omega)
                    obtain ⟨p1, hp1⟩ : ∃ p, q - 1 = p := ⟨_, rfl⟩
                    rw [hp1] at HQ1 hy1
                    have dw : IntKind.i64.wrap ((q : Int) - 1) = (p1 : Int) := by rw [IntKind.wrap_i64]; omega
                    have i2 : (p1 : Int) < (bs.length : Int) := by omega
                    have HLd := hide (show (bload (.pointer (some ⟨E1, 0, none⟩))).run Tryd.prog wc.drew = .ok (.agg (bdC bq)) wc.drew ∧ (bload (.pointer (some ⟨E2, 0, none⟩))).run Tryd.prog wc.drew = .ok (.agg (bdC bq)) wc.drew ∧ (bload (.pointer (some ⟨g, off + q * 23, none⟩))).run Tryd.prog wc.drew = .ok (.agg (bdC bq)) wc.drew ∧ wc.drew.cell? ⟨g, off + q * 23 + 19, none⟩ = some (.int .i64 y19) ∧ wc.drew.cell? ⟨g, off + p1 * 23 + 19, none⟩ = some (.int .i64 y1) from
                      ⟨(show BdIn E1 bq wc.drew from (HVd.out.2.2.2 (E1, .cells (bdC bq) 41 (0, 0)) (List.mem_cons_of_mem _ (List.mem_cons_self ..))).1).bl, (show BdIn E2 bq wc.drew from (HVd.out.2.2.2 (E2, .cells (bdC bq) 41 (0, 0)) (List.mem_cons_self ..)).1).bl, row_bl HQ.out, by have := row_cell HQ.out 19 (by omega); rw [HY.out] at this; exact this, by have := row_cell HQ1.out 19 (by omega); rw [hy1] at this; exact this⟩)
                    obtain ⟨e1, e2, e3, c19, c19'⟩ := HLd.out
                    clear hp1 hy1 HLt
                    go_region_held3 (fun w' => (bload (.pointer (some ⟨E1, 0, none⟩))).run Tryd.prog w' = .ok (.agg (bdC bq)) w' ∧ (bload (.pointer (some ⟨E2, 0, none⟩))).run Tryd.prog w' = .ok (.agg (bdC bq)) w' ∧ (bload (.pointer (some ⟨g, off + q * 23, none⟩))).run Tryd.prog w' = .ok (.agg (bdC bq)) w' ∧ w'.cell? ⟨g, off + q * 23 + 19, none⟩ = some (.int .i64 y19) ∧ w'.cell? ⟨g, off + p1 * 23 + 19, none⟩ = some (.int .i64 y1))
                      (first
                        | go_keep
                        | exact HLd.out)
                      (fail)
                    clear e1 e2 e3 c19 c19' HLd HQ HQ1 d0 d1 dw
                    generalize wc.drew = w16 at HVd HBd ⊢
                    go_wp2_with fail
                    go_roundw
                    case rel => exact ⟨q + 1, by omega, by go_num, hide HVd.out.drop.drop, HBd⟩
                    case measure => simp [intOf]; omega
                  · obtain rfl : q = 0 := by omega
                    have HQ0 := hide (show wc.drew.rangeAt g off (bdC bq).toList by have := HQ.out; rw [Nat.zero_mul, Nat.add_zero] at this; exact this)
                    have HB1 : BdIn E1 bq wc := (HV.out.2.2.2 (E1, .cells (bdC bq) 41 (0, 0)) (List.mem_cons_of_mem _ (List.mem_cons_self ..))).1
                    have HB2 : BdIn E2 bq wc := (HV.out.2.2.2 (E2, .cells (bdC bq) 41 (0, 0)) (List.mem_cons_self ..)).1
                    have e1 : ∀ n, (bload (.pointer (some ⟨E1, 0, none⟩))).run Tryd.prog (wc.drewN n) = .ok (.agg (bdC bq)) (wc.drewN n) := fun n => (show BdIn E1 bq (wc.drewN n) from HB1).bl
                    have e2 : ∀ n, (bload (.pointer (some ⟨E2, 0, none⟩))).run Tryd.prog (wc.drewN n) = .ok (.agg (bdC bq)) (wc.drewN n) := fun n => (show BdIn E2 bq (wc.drewN n) from HB2).bl
                    have e3 : ∀ n, (bload (.pointer (some ⟨g, off, none⟩))).run Tryd.prog (wc.drewN n) = .ok (.agg (bdC bq)) (wc.drewN n) := fun n => row_bl (w := wc.drewN n) (fun j u hu => HQ0.out j u hu)
                    clear HB1 HB2
                    go_quiet (fail)
                    have hbn : Below wc.heap.size wc (wc.drewN nq) := ⟨rfl, rfl, rfl, Nat.le_refl _, fun _ _ => rfl⟩
                    replace HVd := hide (HV.out.below HI.out.1 hbn)
                    replace HBd := hide (HBn.out.trans (hbn.mono HBn.out.size))
                    clear e1 e2 e3 HQ HQ0 hbn
                    generalize wc.drewN nq = w16 at HVd HBd ⊢
                    go_wp2_with fail
                    go_roundw
                    case rel => exact ⟨1, by omega, rfl, hide HVd.out.drop.drop, HBd⟩
                    case measure => simp [intOf]; omega
              · obtain rfl : bs.length = q := by omega
                go_wp2
                go_roundw
                case rel => exact ⟨k + 1, ws, ts, bs, O, by omega, by omega, hbl, by go_num, HBI, HV⟩
                case measure => simp [intOf]; omega
      · have hend : ¬ (k : Int) < (len : Int) ∨ (k = 60 ∧ (60 : Int) < (len : Int)) := by omega
        clear hlt
        as_aux_lemma =>
          rcases hend with hend | ⟨rfl, hend⟩
          all_goals
           have HT4 := hide (tells_err 4)
           unfold err at HT4
           have HAl := hide (fun W h => HR.out.2.2 tv m ws ts bs O W hm2 (show bs.length ≤ 128 by omega) HBI.out h)
           have hbi : (bs.length : Int) ≤ 60 := by omega
           go_upto_region 33 with (first
             | (go_at_call 22; refine (HAl.out _ HV.out.1).mono ?_; rintro r w5 ⟨vb, rfl, br, hb5⟩; replace HV := hide (HV.out.below HI.out.1 hb5); obtain ⟨wa, wc2, rfl, -⟩ := br; clear hb5))
           have HPm := hide (fun W h => HI.out.2.2.2.2.2.2.2.1 tv m ws ts bs O W now hm2 (show bs.length ≤ 128 by omega) HBI.out h)
           cases ht : tc now
           · have HPe := hide (fun W h => (HPm.out W h).1 ht)
             have hr : now < 0 ∨ 1099511627776 < now := by
               by_cases h1 : 0 ≤ now
               · by_cases h2 : now ≤ 1099511627776
                 · unfold tc at ht; rw [decide_eq_true h1, decide_eq_true h2] at ht; cases ht
                 · right; omega
               · left; omega
             unfold err at HPe
             clear HPm ht
             go_upto_region 35 with (go_at_call 16; refine (HPe.out _ HV.out.1).mono ?_; rintro r w9 ⟨vb, rfl, -, q9⟩; obtain ⟨O9, HV9, -⟩ := HV.out.prog q9; replace HV9 := hide HV9; clear q9 HV)
             rcases hr with hr | hr
             all_goals
               go_wp2
               go_ret
               exact ⟨rfl, HV9.out.2.2.1⟩
           · have HPe := hide (fun W h => (HPm.out W h).2 ht)
             have HB2 := hide (HBI.out.expire now)
             have HGo := hide (fun b hb => HBI.out.gone now (b := b) hb)
             have HSt := hide (fun b hb => HBI.out.stays now (b := b) hb)
             have hel := es_len now bs ts bs.length
             obtain ⟨⟨go, re, ts'⟩, hes⟩ : ∃ x, es now bs ts bs.length = x := ⟨_, rfl⟩
             rw [hes] at HPe HB2 HGo HSt hel
             replace HB2 : Hid (BI m ws ts' re ∧ re.length ≤ bs.length ∧ go.length ≤ bs.length) := HB2
             replace hel : go.length + re.length = bs.length := hel
             have qn : ((go.length : Int) + (re.length : Int) != (bs.length : Int)) = false := by simp; omega
             have hgl : (go.length : Int) ≤ 60 := by have := HB2.out.2.2; omega
             have hrl : (re.length : Int) ≤ 60 := by have := HB2.out.2.1; omega
             have hnow : 0 ≤ now ∧ now ≤ 1099511627776 := by unfold tc at ht; rw [Bool.and_eq_true, decide_eq_true_eq, decide_eq_true_eq] at ht; exact ht
             obtain ⟨hn1, hn2⟩ := hnow
             have HAl2 := hide (fun O W h => HR.out.2.2 tv m ws ts' re O W hm2 (show re.length ≤ 128 by have := HB2.out.2.1; omega) HB2.out.1 h)
             clear HPm ht hes hel HAl
             go_upto_region 36 with (go_at_call 16; refine (HPe.out _ HV.out.1).mono ?_; rintro r w9 ⟨vb, rfl, br9, q9⟩; obtain ⟨O9, HV9, -⟩ := HV.out.prog q9; replace HV9 := hide HV9; replace br9 := hide (show BdRow 0 w9 vb go from br9); clear q9 HV)
             go_upto_region 37 with (go_at_call 22; refine (HAl2.out _ _ HV9.out.1).mono ?_; rintro r w10 ⟨vr, rfl, br10, hb10⟩; replace HV9 := hide (HV9.out.below HI.out.1 hb10); replace br9 := hide (br9.out.same hb10); replace br10 := hide br10; clear hb10)
             obtain ⟨ga2, gc2, rfl, hgr⟩ := br9.out
             obtain ⟨ra2, rc2, rfl, hrr⟩ := br10.out
             have HGr := hide hgr
             have HRr := hide hrr
             have qs : IntKind.i64.wrap ((go.length : Int) + (re.length : Int)) = (go.length : Int) + (re.length : Int) := by rw [IntKind.wrap_i64]; omega
             clear hgr hrr br9 br10 HPe HAl2
             go_wp2
             go_loopw [24] (fun t wr => ∃ q : Nat, q ≤ go.length ∧ t = .int .i64 q ∧ Hid (VY TP w tv m ws ts' re O9 [] wr) ∧ Hid (Below w10.heap.size w10 wr)) (fun t _ => go.length - (intOf t).toNat)
             case atStart => exact ⟨0, by omega, rfl, HV9, Below.refl _ _⟩
             case round =>
               clear HV9
               obtain ⟨q, hq, rfl, HV, HB⟩ := hrel
               by_cases hql : q < go.length
               · obtain ⟨g, off, rfl, ⟨-, hgl2⟩, hrow⟩ := HGr.out (by omega)
                 have i1 : (q : Int) < (go.length : Int) := by omega
                 obtain ⟨hFd, h30, htq⟩ := HGo.out _ (mem_getD hql)
                 replace hFd : Fd re (go.getD q []) [] 4 := hFd
                 have HRow := hide (show ∀ W, Below w10.heap.size w10 W → W.rangeAt g (off + q * 23) (bdC (go.getD q [])).toList from fun W hW j u hu => by rw [hW.cell (p := ⟨g, off + q * 23 + j, none⟩) hgl2]; exact hrow q hql j u hu)
                 have HPf := hide (fun W h => HR.out.2.1 tv m ws ts' re O9 W _ [] 4 hm2 (show re.length ≤ 128 by have := HB2.out.2.1; omega) HB2.out.1 h hFd)
                 rw [show ev 4 = .iface 29 (.int .i64 4) from rfl] at HPf
                 obtain ⟨bq, hbq⟩ : ∃ b, go.getD q [] = b := ⟨_, rfl⟩
                 rw [hbq] at HRow HPf h30 htq
                 obtain ⟨y, hy0⟩ : ∃ y, el bq 22 = y := ⟨_, rfl⟩
                 rw [hy0] at h30 htq
                 have HY := hide hy0
                 have hy : 0 ≤ y ∧ y ≤ 1099511627776 := by unfold tc at htq; rw [Bool.and_eq_true, decide_eq_true_eq, decide_eq_true_eq] at htq; exact htq
                 obtain ⟨hy1, hy2⟩ := hy
                 have q1 : IntKind.i64.wrap (now - y) = now - y := by rw [IntKind.wrap_i64]; omega
                 have q2 : ¬ now - y < 30 := by omega
                 clear hrow htq h30 hFd hbq hy0
                 have g1 := row_fl (HRow.out wr HB.out)
                 go_upto_region 43 with (first
                   | (go_at_call 21; refine (HPf.out _ HV.out.1).mono ?_; rintro r w12 ⟨rfl, hb12⟩; replace HV := hide (HV.out.below HI.out.1 hb12); replace HB := hide (HB.out.trans (hb12.mono HB.out.size)); clear hb12 g1)
                   | (refine at_storeb rfl (.tmp 25) (.tmp 239) rfl rfl (HZb.out w12) [] rfl ?_; intro w13 p13 on13; have hb13 := new_below _ on13; replace HV := hide (HV.out.below HI.out.1 hb13); replace HB := hide (HB.out.trans (hb13.mono HB.out.size)); clear on13 p13 hb13))
                 go_upto_region 44 with (go_at_call 6; refine (HT4.out _ (HG.out.below HV.out.2.2.1)).mono ?_; rintro r w14 ⟨rfl, hb14⟩; replace HV := hide (HV.out.below HI.out.1 hb14); replace HB := hide (HB.out.trans (hb14.mono HB.out.size)); clear hb14)
                 have c22 := row_cell (HRow.out _ HB.out) 22 (by omega)
                 rw [HY.out] at c22
                 go_wp2
                 go_roundw
                 case rel => exact ⟨q + 1, by omega, by go_num, HV, HB⟩
                 case measure => simp [intOf]; omega
               · obtain rfl : go.length = q := by omega
                 go_wp2
                 go_loopw [28] (fun t wr => ∃ q : Nat, q ≤ re.length ∧ t = .int .i64 q ∧ Hid (VY TP w tv m ws ts' re O9 [] wr) ∧ Hid (Below w10.heap.size w10 wr)) (fun t _ => re.length - (intOf t).toNat)
                 case atStart => exact ⟨0, by omega, rfl, HV, HB⟩
                 case round =>
                   clear HV HB
                   obtain ⟨q, hq, rfl, HV, HB⟩ := hrel
                   by_cases hql : q < re.length
                   · obtain ⟨g, off, rfl, ⟨-, hgl2⟩, hrow⟩ := HRr.out (by omega)
                     have i1 : (q : Int) < (re.length : Int) := by omega
                     obtain ⟨h100, htq⟩ := HSt.out _ (mem_getD hql)
                     have c22 : wr.cell? ⟨g, off + q * 23 + 22, none⟩ = some (.int .i64 (el (re.getD q []) 22)) := by rw [HB.out.cell (p := ⟨g, off + q * 23 + 22, none⟩) hgl2]; exact row_cell (hrow q hql) 22 (by omega)
                     generalize el (re.getD q []) 22 = y at c22 h100 htq
                     have hy : 0 ≤ y ∧ y ≤ 1099511627776 := by unfold tc at htq; rw [Bool.and_eq_true, decide_eq_true_eq, decide_eq_true_eq] at htq; exact htq
                     obtain ⟨hy1, hy2⟩ := hy
                     have q1 : IntKind.i64.wrap (now - y) = now - y := by rw [IntKind.wrap_i64]; omega
                     have q2 : ¬ 100 ≤ now - y := by omega
                     clear hrow htq h100
                     go_wp2
                     go_roundw
                     case rel => exact ⟨q + 1, by omega, by go_num, HV, HB⟩
                     case measure => simp [intOf]; omega
                   · obtain rfl : re.length = q := by omega
                     go_wp2
                     go_ret
                     exact ⟨rfl, HV.out.2.2.1⟩
end Go.Proofs.YtjkkonpangcnjaaDoor
