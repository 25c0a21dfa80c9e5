/- The statement's function PickMoves returns true, whatever the servers, if package pick keeps what is asked of it. -/
import Derived.Test.YtdnfpekcipigbaaPkM
import Derived.Test.YtdnfpekcipigbaaPkN
import Derived.Test.YtdnfpekcipigbaaPkG
import Derived.Test.YtdnfpekcipigbaaPkQ
namespace Go.Proofs.Ytdnfpekcipigbaa
open Go.RowKit

/-- what is kept. -/
def KM (w : World) (f : List Int) (a : Option Addr) (bs : List (List Int)) (W : World) : Prop := FlIn w.heap.size f W ∧ Bks a bs W ∧ Below w.heap.size w W
theorem KM.kept {w : World} {f : List Int} {a : Option Addr} {bs : List (List Int)} {W W' : World} (h : KM w f a bs W) (hb : Below W.heap.size W W') : KM w f a bs W' := ⟨h.1.kept hb, h.2.1.below hb, bt h.2.2 hb⟩
theorem drop_rev {bs : List (List Int)} {m : Nat} (h : m < bs.length) : (bs.drop (m + 1)).reverse ++ [bs.getD m []] = (bs.drop m).reverse := by
  rw [List.drop_eq_getElem_cons h, List.reverse_cons, getD_at h]
theorem Bks.take {g off : Nat} {bs : List (List Int)} {w : World} (h : Bks (some ⟨g, off, none⟩) bs w) (q : Nat) (hq : q < bs.length) : ∀ j, j < q → w.rangeAt g (off + j * 6) (bkC ((bs.take q).getD j [])).toList := fun j hj => by
  obtain ⟨g', off', e, _, hx⟩ := h (by omega)
  injection e with e
  injection e with e1 e2
  subst e1; subst e2
  rw [show (bs.take q).getD j [] = bs.getD j [] by simp [List.getD_eq_getElem?_getD, List.getElem?_take_of_lt hj]]
  exact hx j (by omega)
theorem Bks.drop {g off : Nat} {bs : List (List Int)} {w : World} (h : Bks (some ⟨g, off, none⟩) bs w) (q o2 : Nat) (hq : q < bs.length) (ho : q + 1 < bs.length → o2 = off + (q + 1) * 6) : ∀ j, j < bs.length - (q + 1) → w.rangeAt g (o2 + j * 6) (bkC ((bs.drop (q + 1)).getD j [])).toList := fun j hj => by
  obtain ⟨g', off', e, _, hx⟩ := h (by omega)
  injection e with e
  injection e with e1 e2
  subst e1; subst e2
  rw [ho (by omega), show (bs.drop (q + 1)).getD j [] = bs.getD (q + 1 + j) [] by simp [List.getD_eq_getElem?_getD], show off + (q + 1) * 6 + j * 6 = off + (q + 1 + j) * 6 by omega]
  exact hx _ (by omega)
attribute [local go_sem ↓] fload_shut kload_shut keq_shut slq_shut ksl_shut kbl_shut fbl_shut
set_option maxRecDepth 100000 in
set_option maxHeartbeats 8000000 in
theorem pickmoves_walk (hP : JKp) (seed : Int) (f : List Int) (a : Option Addr) (cap : Nat) (bs : List (List Int)) (k : Int) (w : World) (hl : bs.length ≤ cap) (hm : cap ≤ maxLen) (h : Bks a bs w) :
    Calls Try.prog 3 #[.int .i64 seed, .agg (flC f), .slice a bs.length cap, .int .i64 k] w fun e w' => e = .returned (.bool true) ∧ Below w.heap.size w w' := by
  have HK := hide (show KM w f a bs (w.alloc (.cells (flC f) 25)) from ⟨fl_new f w, h.below (al_below _ _), al_below _ _⟩)
  have hlm : bs.length ≤ maxLen := Nat.le_trans hl hm
  have P0 := hide (show ∀ W : World, Calls Try.prog 4 #[.int .i64 1, .agg (flC [6]), .slice (some ⟨W.heap.size, 0, none⟩) 2 2] (W.alloc (.cells (bkC [1, 0, 0, 1, 0, 0] ++ bkC [2, 0, 0, 1, 1, 0]) 28)) fun e w' => e = .returned (.tuple #[.agg (bkC [2, 0, 0, 1, 1, 0]), .nilIface]) ∧ Below W.heap.size W w' from fun W => (hP 1 [6] _ 2 fact1 _ (bks2 _ _ W) (by unfold fact1 maxLen; simp) (by unfold fact1; simp)).mono fun e w' ⟨he, hb⟩ => by
    rw [pick_fact] at he
    exact ⟨he, bt (al_below _ _) hb⟩)
  have P1 := hide (fun W hW => hP seed f a cap bs W hW hlm hl)
  obtain ⟨x, hx⟩ : ∃ x, (pko seed f bs).1 = x := ⟨_, rfl⟩
  obtain ⟨e, he⟩ : ∃ e, (pko seed f bs).2 = e := ⟨_, rfl⟩
  have kb1 := kbl1
  have kb2 := kbl2
  have fb := fbl1
  have ks2 := ksl2 [1, 0, 0, 1, 0, 0] [2, 0, 0, 1, 1, 0]
  have HX := hide hx
  have HE := hide he
  rw [hx, he] at P1
  have HZ := hide bk_zero
  unfold zero4b at HZ
  have HL := hide hlm
  have HM := hide hm
  have HP := hide hP
  clear hx he hP hlm hm h
  go_enter Try.func3, Try.ntmps3
  go_upto_region 1 with fail
  generalize w.alloc _ = W at HK ⊢
  go_upto_region 2 with (first
    | (go_at_call 4; refine (P0.out _).mono ?_; rintro r w1 ⟨rfl, hb1⟩; replace HK := hide (HK.out.kept hb1); clear hb1)
    | (refine at_storek rfl (.tmp 9) (.tmp 25) rfl rfl (HZ.out w1) [2, 0, 0, 1, 1, 0] rfl ?_; intro w2 p2 on2; have hb2 := new_below _ on2; replace HK := hide (HK.out.kept hb2); replace p2 := hide p2; clear on2 hb2))
  clear P0 kb1 kb2 fb ks2
  have c0 : w2.cell? ⟨w1.heap.size, 0, none⟩ = some (.int .i64 2) := rng_id p2.out.rng
  generalize w1.heap.size = D0 at c0 ⊢
  go_upto_region 4 with fail
  clear c0 p2
  have g1 := HK.out.1.fl
  by_cases he : e = 0
  case neg =>
    have hev : ev e = err e := by unfold ev; rw [if_neg he]
    rw [hev] at P1
    unfold err at P1
    go_upto_region 5 with (first
      | (go_at_call 4; refine (P1.out _ HK.out.2.1).mono ?_; rintro r w3 ⟨rfl, hb3⟩; replace HK := hide (HK.out.kept hb3); clear hb3 g1)
      | (refine at_storek rfl (.tmp 11) (.tmp 39) rfl rfl (HZ.out w3) x rfl ?_; intro w4 p4 on4; have hb4 := new_below _ on4; replace HK := hide (HK.out.kept hb4); clear on4 hb4 p4))
    go_wp2
    go_ret
    exact ⟨rfl, HK.out.2.2⟩
  case pos =>
    subst he
    rw [show ev 0 = .nilIface from rfl] at P1
    go_upto_region 5 with (first
      | (go_at_call 4; refine (P1.out _ HK.out.2.1).mono ?_; rintro r w3 ⟨rfl, hb3⟩; replace HK := hide (HK.out.kept hb3); clear hb3 g1)
      | (refine at_storek rfl (.tmp 11) (.tmp 39) rfl rfl (HZ.out w3) x rfl ?_; intro w4 p4 on4; have hb4 := new_below _ on4; replace HK := hide (HK.out.kept hb4); replace p4 := hide p4; clear on4 hb4))
    generalize w3.heap.size = D1 at p4 ⊢
    clear P1
    have hl8 : bs.length ≤ 8 := (pick_best HE.out).1.1
    have j8 : (bs.length : Int) ≤ 8 := by omega
    by_cases hk0 : k < 0
    · go_wp2
      go_ret
      exact ⟨rfl, HK.out.2.2⟩
    by_cases hk1 : (bs.length : Int) ≤ k
    · go_wp2
      go_ret
      exact ⟨rfl, HK.out.2.2⟩
    obtain ⟨q, rfl⟩ : ∃ q : Nat, k = (q : Int) := ⟨k.toNat, by omega⟩
    have hq : q < bs.length := by omega
    obtain ⟨u4, u5, u3⟩ := pick_up HE.out
    rw [HX.out] at u4 u5 u3
    have c4 : w4.cell? ⟨D1, 4, none⟩ = some (.bool true) := by rw [← u4]; exact rng_up p4.out.rng
    have c5 : w4.cell? ⟨D1, 5, none⟩ = some (.bool false) := by rw [← u5]; exact rng_dr p4.out.rng
    have c3 : w4.cell? ⟨D1, 3, none⟩ = some (.int .i64 (el x 3)) := rng_int p4.out.rng 3 (by omega)
    generalize el x 3 = x3 at c3 u3
    clear u4 u5
    go_upto_region 9 with fail
    clear c4 c5 c3 u3
    obtain ⟨g, off, rfl, hgl, hrow⟩ := HK.out.2.1 (by omega)
    clear hgl hrow
    obtain ⟨o2, tK, eK⟩ := tailK g off bs.length cap q (by omega) hl
    have hK := headK g off bs.length cap q (by omega)
    have HO := hide eK
    clear eK
    have HB := hide (Below.refl w4.heap.size w4)
    have HC1 := hide (HK.out.2.1.take q hq)
    have HL1 := hide (show (bs.take q).length = q by rw [List.length_take]; omega)
    have HL2 := hide (show ([] : List (List Int)).length + q ≤ 1000000 by simp; omega)
    go_upto_region 11 with (at_builtin; (with_reducible refine ap_K rfl (.tmp 65) (.tmp 68) rfl w4.heap.size (.slice none 0 0) [] rfl (OwK.nil _ _) g off q cap (bs.take q) rfl HL1.out HC1.out HL2.out (Nat.le_refl _) ?_); intro v5 w5 o5 g5; replace HB := hide (HB.out.grown g5 (Nat.le_refl _) (fun k e => by simp [Value.ownBlock] at e)); replace o5 := hide (show OwK w4.heap.size w5 v5 (bs.take q) from o5); clear g5 HC1 HL2)
    have HC3 := hide ((HK.out.2.1.below HB.out).drop q o2 hq HO.out)
    have HL3 := hide (show (bs.drop (q + 1)).length = bs.length - (q + 1) by rw [List.length_drop])
    have HL4 := hide (show (bs.take q).length + (bs.length - (q + 1)) ≤ 1000000 by rw [HL1.out]; omega)
    go_upto_region 12 with (at_builtin; (with_reducible refine ap_K rfl (.tmp 70) (.tmp 74) rfl w4.heap.size v5 (bs.take q) rfl o5.out g o2 (bs.length - (q + 1)) (cap - (q + 1)) (bs.drop (q + 1)) rfl HL3.out HC3.out HL4.out HB.out.size ?_); intro v6 w6 o6 g6; replace HB := hide (HB.out.grown g6 HB.out.size (fun k e => (owns_lt o5.out k e).2)); replace o6 := hide (show OwK w4.heap.size w6 v6 (wo bs q) from o6); clear g6 HC3 HL3 HL4 HL1 o5)
    clear tK hK HO
    replace HK := hide (HK.out.kept HB.out)
    replace p4 := hide (p4.out.kept HB.out)
    obtain ⟨a6, c6, rfl, l6, b6⟩ := o6.out.bks
    replace l6 := hide l6
    have B6 := hide b6
    clear b6 o6 HB
    go_wp2
    go_loopw [14, 15] (fun vb i wr => ∃ m : Nat, m ≤ bs.length ∧ i = .int .i64 ((m : Int) - 1) ∧ Hid (OwK w6.heap.size wr vb (bs.drop m).reverse) ∧ Hid (Below w6.heap.size w6 wr)) (fun _ i _ => (intOf i + 1).toNat)
    case atStart => exact ⟨bs.length, Nat.le_refl _, by go_num, hide (by rw [List.drop_length]; exact OwK.nil _ _), hide (Below.refl _ _)⟩
    case round =>
      obtain ⟨m, hml, rfl, HOw, HB⟩ := hrel
      cases m with
      | succ m =>
        obtain ⟨g', off', eg, hgl, hrow⟩ := (HK.out.2.1.below HB.out) (by omega)
        injection eg with eg
        injection eg with e1 e2
        subst e1; subst e2
        have gk := rng_kl (hrow m (by omega))
        have HDr := hide (drop_rev (show m < bs.length by omega))
        obtain ⟨bm, hbm⟩ : ∃ b, bs.getD m [] = b := ⟨_, rfl⟩
        rw [hbm] at gk HDr
        clear hbm hrow hgl
        rw [show (((m + 1 : Nat) : Int) - 1) = (m : Int) by omega]
        have j1 : (m : Int) < (bs.length : Int) := by omega
        have sk := ksl1 bm
        have HO2 := hide (show OwK w6.heap.size (wr.alloc (.cells (bkC bm) 28)) u14 (bs.drop (m + 1)).reverse from owns_same HOw.out (fun g e => (al_below wr _).block g (owns_lt HOw.out g e).1))
        have HN := hide (show ∀ j, j < 1 → (wr.alloc (.cells (bkC bm) 28)).rangeAt wr.heap.size (0 + j * 6) (bkC ([bm].getD j [])).toList from fun j hj => by obtain rfl : j = 0 := (by omega); exact (bk_new bm wr).rng)
        have HLn := hide (show (bs.drop (m + 1)).reverse.length + 1 ≤ 1000000 by rw [List.length_reverse, List.length_drop]; omega)
        replace HB := hide (bt HB.out (al_below wr (.cells (bkC bm) 28)))
        have HS := hide HB.out.size
        go_wp2_with (at_builtin; (with_reducible refine ap_K rfl (.tmp 83) (.tmp 88) rfl w6.heap.size u14 (bs.drop (m + 1)).reverse rfl HO2.out wr.heap.size 0 1 1 [bm] rfl rfl HN.out HLn.out HS.out ?_); intro v7 w7 o7 g7; replace HB := hide (HB.out.grown g7 HS.out (fun k e => (owns_lt HO2.out k e).2)); replace o7 := hide (show OwK w6.heap.size w7 v7 (bs.drop m).reverse by rw [← HDr.out]; exact o7); clear g7 HO2 HN HLn HS gk sk)
        go_roundw
        case rel => exact ⟨m, by omega, by go_num, o7, HB⟩
        case measure => simp [intOf]
      | zero =>
        rw [show (((0 : Nat) : Int) - 1) = -1 by omega]
        replace HK := hide (HK.out.kept HB.out)
        replace p4 := hide (p4.out.kept HB.out)
        replace B6 := hide (B6.out.below HB.out)
        obtain ⟨a7, c7, rfl, l7, b7⟩ := HOw.out.bks
        rw [List.drop_zero] at b7
        have P3 := hide (fun W hW => HP.out seed f a7 c7 bs.reverse W hW (by rw [List.length_reverse]; exact HL.out) (by rw [List.drop_zero] at l7; exact l7))
        clear l7
        rw [pick_rev HE.out, HX.out, show ev ((x, (0 : Int)) : List Int × Int).2 = .nilIface from rfl] at P3
        rw [show ((bs.drop 0).reverse).length = bs.reverse.length by rw [List.drop_zero]]
        have B7 := hide b7
        clear b7 HOw HB
        generalize bs.reverse = rs at P3 B7 ⊢
        have g1 := HK.out.1.fl
        go_upto_region 17 with (first
          | (go_at_call 4; refine (P3.out _ B7.out).mono ?_; rintro r w8 ⟨rfl, hb8⟩; replace HK := hide (HK.out.kept hb8); replace p4 := hide (p4.out.kept hb8); replace B6 := hide (B6.out.below hb8); clear hb8 g1 B7)
          | (refine at_storek rfl (.tmp 16) (.tmp 95) rfl rfl (HZ.out w8) x rfl ?_; intro w9 p9 on9; have hb9 := new_below _ on9; replace HK := hide (HK.out.kept hb9); replace p4 := hide (p4.out.kept hb9); replace B6 := hide (B6.out.below hb9); replace p9 := hide p9; clear on9 hb9))
        generalize w8.heap.size = D2 at p9 ⊢
        clear P3
        have k1 := p9.out.kl
        have k2 := p4.out.kl
        have qk := keq_run x x
        rw [eqk_refl] at qk
        go_upto_region 19 with fail
        clear k1 k2 qk p9
        have P4 := hide (fun W hW => HP.out seed f a6 c6 (wo bs q) W hW (Nat.le_trans (wo_sub bs q).length_le HL.out) l6.out)
        have HGo := hide (fun h => pick_gone (k := q) HE.out hq h)
        have HWo := hide (fun h => pick_wo (k := q) HE.out hq h)
        rw [HX.out] at HGo HWo
        obtain ⟨lq, hlq⟩ : ∃ b, el (bs.getD q []) 0 = b := ⟨_, rfl⟩
        have HLq := hide hlq
        rw [hlq] at HGo HWo
        clear hlq
        obtain ⟨y, hy⟩ : ∃ y, (pko seed f (wo bs q)).1 = y := ⟨_, rfl⟩
        obtain ⟨e2, he2⟩ : ∃ e, (pko seed f (wo bs q)).2 = e := ⟨_, rfl⟩
        have hcs : (lq = el x 0 ∧ e2 ≠ 0) ∨ (lq = el x 0 ∧ e2 = 0 ∧ el y 0 ≠ el x 0) ∨ (lq ≠ el x 0 ∧ y = x ∧ e2 = 0) := by
          by_cases h1 : lq = el x 0
          · by_cases h2 : e2 = 0
            · exact .inr (.inl ⟨h1, h2, by rw [← hy]; exact HGo.out h1 (he2.trans h2)⟩)
            · exact .inl ⟨h1, h2⟩
          · have := HWo.out h1
            exact .inr (.inr ⟨h1, by rw [← hy, this], by rw [← he2, this]⟩)
        rw [hy, he2] at P4
        clear hy he2 HGo HWo HE HX HP
        generalize (wo bs q) = ws at P4 B6 ⊢
        have g1 := HK.out.1.fl
        obtain ⟨ve, hve⟩ : ∃ v, ev e2 = v := ⟨_, rfl⟩
        rw [hve] at P4
        go_upto_region 20 with (first
          | (go_at_call 4; refine (P4.out _ B6.out).mono ?_; rintro r w10 ⟨rfl, hb10⟩; replace HK := hide (HK.out.kept hb10); replace p4 := hide (p4.out.kept hb10); clear hb10 g1 B6)
          | (refine at_storek rfl (.tmp 18) (.tmp 109) rfl rfl (HZ.out w10) y rfl ?_; intro w11 p11 on11; have hb11 := new_below _ on11; replace HK := hide (HK.out.kept hb11); replace p4 := hide (p4.out.kept hb11); replace p11 := hide p11; clear on11 hb11))
        generalize w10.heap.size = D3 at p11 ⊢
        clear P4
        obtain ⟨g', off', eg, hgl, hrow⟩ := HK.out.2.1 (by omega)
        injection eg with eg
        injection eg with e1 e2
        subst e1; subst e2
        have cq : ∀ n, (w11.drewN n).cell? ⟨g, off + q * 6, none⟩ = some (.int .i64 lq) := fun n => by rw [← HLq.out]; exact rng_id (hrow q hq)
        have cx : ∀ n, (w11.drewN n).cell? ⟨D1, 0, none⟩ = some (.int .i64 (el x 0)) := fun n => rng_id p4.out.rng
        clear hgl hrow HLq
        have HKn := hide (show ∀ n, KM w f (some ⟨g, off, none⟩) bs (w11.drewN n) ∧ BkIn D1 x (w11.drewN n) ∧ BkIn D3 y (w11.drewN n) from fun n => ⟨HK.out.kept ⟨rfl, rfl, rfl, Nat.le_refl _, fun _ _ => rfl⟩, p4.out, p11.out⟩)
        clear HK p4 p11
        rcases hcs with ⟨rfl, h2⟩ | ⟨rfl, rfl, h3⟩ | ⟨h1, rfl, rfl⟩
        · obtain rfl : ve = .iface 41 (.int .i64 e2) := by rw [← hve]; unfold ev err; rw [if_neg h2]
          clear hve h2
          have d0 : (el x 0 == el x 0) = true := by simp
          generalize el x 0 = x0 at cq cx d0
          go_quiet (fail)
          have HKe := hide (HKn.out nq)
          generalize w11.drewN nq = w12 at HKe ⊢
          clear cq cx
          go_wp2
          go_ret
          exact ⟨rfl, HKe.out.1.2.2⟩
        · obtain rfl : ve = .nilIface := hve.symm
          clear hve
          have d0 : (el x 0 == el x 0) = true := by simp
          have HC := hide (show ∀ n, (w11.drewN n).cell? ⟨D1, 0, none⟩ = some (.int .i64 (el x 0)) ∧ (w11.drewN n).cell? ⟨D3, 0, none⟩ = some (.int .i64 (el y 0)) from fun n => ⟨rng_id (HKn.out n).2.1.rng, rng_id (HKn.out n).2.2.rng⟩)
          have d1 : (el y 0 != el x 0) = true := by simpa using h3
          generalize el x 0 = x0 at cq cx d0 d1 HC
          generalize el y 0 = y0 at d1 HC
          clear h3
          go_quiet (fail)
          have HKe := hide (HKn.out nq)
          obtain ⟨c1, c2⟩ := HC.out nq
          clear HC cq cx
          generalize w11.drewN nq = w12 at HKe c1 c2 ⊢
          go_wp2
          go_ret
          exact ⟨rfl, HKe.out.1.2.2⟩
        · obtain rfl : ve = .nilIface := hve.symm
          clear hve
          have d0 : (lq == el y 0) = false := by simpa using h1
          generalize el y 0 = x0 at cq cx d0
          clear h1
          go_quiet (fail)
          have HKe := hide (HKn.out nq)
          clear cq cx
          generalize w11.drewN nq = w12 at HKe ⊢
          have k1 := HKe.out.2.1.kl
          have k2 := HKe.out.2.2.kl
          have qk := keq_run y y
          rw [eqk_refl] at qk
          go_wp2
          go_ret
          exact ⟨rfl, HKe.out.1.2.2⟩
end Go.Proofs.Ytdnfpekcipigbaa
