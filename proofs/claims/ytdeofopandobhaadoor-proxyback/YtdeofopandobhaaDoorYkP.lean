/- The document's own FlowOf, of bytes enough. -/
import Derived.Test.YtdeofopandobhaaDoorYkO
namespace Go.Proofs.YtdeofopandobhaaDoor
open Go.RowKit
theorem Only.rowg {B : Nat} {w w' : World} (h : Only B w w') {g off len cap : Nat} {zs : List Int} (hr : Row8 w (some ⟨g, off, none⟩) len cap zs) (hg : g ≠ B) : Row8 w' (some ⟨g, off, none⟩) len cap zs := by
  refine ⟨hr.1, hr.2.1, hr.2.2.1, hr.2.2.2.1, fun hp => ?_⟩
  obtain ⟨b, o, e, hc⟩ := hr.2.2.2.2 hp
  cases e
  exact ⟨g, off, rfl, fun i hi => (World.cell?_of_block (a := ⟨g, off + i, none⟩) (h.2.2.2.2 g hg)).trans (hc i hi)⟩
theorem KO.only {w : World} {g off len cap : Nat} {zs : List Int} {W W' : World} (h : KO w (some ⟨g, off, none⟩) len cap zs W) {E : Nat} (ho : Only E W W') (hE : w.heap.size < E) (hg : g < w.heap.size) : KO w (some ⟨g, off, none⟩) len cap zs W' :=
  ⟨(ho.2.2.2.2 w.heap.size (by omega)).trans h.1, ho.rowg h.2.1 (by omega), ho.below h.2.2 (by omega)⟩
theorem FlIn.frozen {B : Nat} {f : List Int} {w : World} (h : FlIn B f w) (j : Nat) : w.frozen? ⟨B, j, none⟩ = false := by
  unfold FlIn at h
  simp [World.frozen?, h]
theorem FlIn.set {B : Nat} {f f' : List Int} {w : World} (h : FlIn B f w) (j : Nat) (v : Int) (he : ∀ i, i < 19 → el f' i = if i = j then v else el f i) : FlIn B f' (w.setCell ⟨B, j, none⟩ (.int .i64 v)) ∧ Only B w (w.setCell ⟨B, j, none⟩ (.int .i64 v)) := by
  have h' : w.heap[B]? = some (.cells (flC f) 25 (0, 0)) := h
  have e : (flC f).setIfInBounds j (.int .i64 v) = flC f' := by
    apply Array.ext_getElem?
    intro i
    rw [Array.getElem?_setIfInBounds]
    by_cases hi : i < 19
    · rw [flC_at f' i hi, he i hi]
      by_cases hij : j = i
      · subst hij
        rw [if_pos rfl, if_pos rfl, if_pos (show j < (flC f).size from hi)]
      · rw [if_neg hij, if_neg (fun e => hij e.symm), flC_at f i hi]
    · rw [Array.getElem?_eq_none (xs := flC f') (by show 19 ≤ i; omega)]
      by_cases hij : j = i
      · subst hij
        rw [if_pos rfl, if_neg (show ¬ j < (flC f).size from hi)]
      · rw [if_neg hij, Array.getElem?_eq_none (by show 19 ≤ i; omega)]
  rw [setCell_eq_setRow w B j _ 25 (0, 0) (.int .i64 v) h', e]
  exact ⟨h.stored f', only_setRow _ _ _⟩
theorem FlIn.congr {B : Nat} {f f' : List Int} {w : World} (h : FlIn B f w) (he : ∀ j, j < 19 → el f j = el f' j) : FlIn B f' w := by
  unfold FlIn at h ⊢
  rw [flC_congr he] at h
  exact h
def f1 (s d : List Int) (p : Int) : List Int := [6, el s 0, el s 1, el s 2, el s 3, el s 4, el s 5, el s 6, el s 7, p, el d 0, el d 1, el d 2, el d 3, el d 4, el d 5, el d 6, el d 7, 0]
def f2 (k : Int) (s d : List Int) (p q : Int) : List Int := [k, el s 0, el s 1, el s 2, el s 3, el s 4, el s 5, el s 6, el s 7, p, el d 0, el d 1, el d 2, el d 3, el d 4, el d 5, el d 6, el d 7, q]
theorem c19 (P : Nat → Prop) (h : P 0 ∧ P 1 ∧ P 2 ∧ P 3 ∧ P 4 ∧ P 5 ∧ P 6 ∧ P 7 ∧ P 8 ∧ P 9 ∧ P 10 ∧ P 11 ∧ P 12 ∧ P 13 ∧ P 14 ∧ P 15 ∧ P 16 ∧ P 17 ∧ P 18) : ∀ i, i < 19 → P i := by
  intro i hi
  obtain ⟨h0, h1, h2, h3, h4, h5, h6, h7, h8, h9, h10, h11, h12, h13, h14, h15, h16, h17, h18⟩ := h
  rcases (by omega : i = 0 ∨ i = 1 ∨ i = 2 ∨ i = 3 ∨ i = 4 ∨ i = 5 ∨ i = 6 ∨ i = 7 ∨ i = 8 ∨ i = 9 ∨ i = 10 ∨ i = 11 ∨ i = 12 ∨ i = 13 ∨ i = 14 ∨ i = 15 ∨ i = 16 ∨ i = 17 ∨ i = 18) with rfl | rfl | rfl | rfl | rfl | rfl | rfl | rfl | rfl | rfl | rfl | rfl | rfl | rfl | rfl | rfl | rfl | rfl | rfl <;> assumption
theorem f1_set (s d : List Int) (p : Int) : ∀ i, i < 19 → el (f1 s d p) i = if i = 9 then p else el (f0 s d) i := c19 _ ⟨rfl, rfl, rfl, rfl, rfl, rfl, rfl, rfl, rfl, rfl, rfl, rfl, rfl, rfl, rfl, rfl, rfl, rfl, rfl⟩
theorem f2_set (s d : List Int) (p q : Int) : ∀ i, i < 19 → el (f2 6 s d p q) i = if i = 18 then q else el (f1 s d p) i := c19 _ ⟨rfl, rfl, rfl, rfl, rfl, rfl, rfl, rfl, rfl, rfl, rfl, rfl, rfl, rfl, rfl, rfl, rfl, rfl, rfl⟩
theorem f3_set (s d : List Int) (p q k : Int) : ∀ i, i < 19 → el (f2 k s d p q) i = if i = 0 then k else el (f2 6 s d p q) i := c19 _ ⟨rfl, rfl, rfl, rfl, rfl, rfl, rfl, rfl, rfl, rfl, rfl, rfl, rfl, rfl, rfl, rfl, rfl, rfl, rfl⟩
theorem f2_fo (zs : List Int) : ∀ i, i < 19 → el (f2 (if zs.getD 13 0 = 34 then 17 else 6) (adr zs 16) (adr zs 32) (P4.wd zs 48) (P4.wd zs 50)) i = el (fo zs) i := c19 _ ⟨rfl, rfl, rfl, rfl, rfl, rfl, rfl, rfl, rfl, rfl, rfl, rfl, rfl, rfl, rfl, rfl, rfl, rfl, rfl⟩
attribute [local go_sem ↓] slq_shut fbl_shut fload_shut fstore_shut
set_option maxRecDepth 100000 in
set_option maxHeartbeats 4000000 in
theorem flowof_raw (g off len cap : Nat) (zs : List Int) (w : World) (hr : Row8 w (some ⟨g, off, none⟩) len cap zs) (h : 52 ≤ len) (hcl : len ≤ cap) (_hcm : cap ≤ maxLen) :
    Calls Tryd.prog 9 #[.slice (some ⟨g, off, none⟩) len cap] w fun e w' => e = .returned (.tuple #[.agg (flC (ydo zs).1), .int .i64 (ydo zs).2.2]) ∧ Below w.heap.size w w' := by
  have HK := hide (ko_new hr)
  unfold zero19 at HK
  have s16 := sl16 g off len cap (by omega)
  have s32 := sl32 g off len cap (by omega)
  have s52 := sl52 g off len cap (by omega)
  have HS := hide (fun W c (hW : Row8 W (some ⟨g, off, none⟩) len cap zs) => rsixat_at g off len cap zs W 16 c hW (by omega))
  have HD := hide (fun W c (hW : Row8 W (some ⟨g, off, none⟩) len cap zs) => rsixat_at g off len cap zs W 32 c hW (by omega))
  have HZ := hide fl_zero
  have HZ0 := HZ
  unfold zero19 at HZ
  have fb := fbl2 (adr zs 16) (adr zs 32)
  have j1 : ¬ (len : Int) < 52 := by omega
  have HFo := hide (f2_fo zs)
  generalize adr zs 16 = S at HS fb HFo
  generalize adr zs 32 = D at HD fb HFo
  have hgl : g < w.heap.size := World.block_lt_of_cell? w ⟨g, off + 0, none⟩ (by obtain ⟨b, o, e, hc⟩ := hr.2.2.2.2 (by omega); cases e; exact hc 0 (by omega))
  clear hr
  go_enter Tryd.func9, Tryd.ntmps9
  go_upto_region 1 with fail
  generalize w.alloc _ = W at HK ⊢
  go_upto_region 3 with fail
  clear j1
  go_cut [4] from 9 to 15 (fun u wx => ∃ E, u = .pointer (some ⟨E, 0, none⟩) ∧ w.heap.size < E ∧ Hid (FlIn E (f0 S D) wx) ∧ Hid (KO w (some ⟨g, off, none⟩) len cap zs wx))
  case first =>
    replace HK := hide (HK.out.kept (Below.refl _ _).drew)
    have HR := hide HK.out.2.1
    have HKb := hide (fun o => show KO w (some ⟨g, off, none⟩) len cap zs (W.alloc o).drew from HK.out.kept (al_below W.drew o))
    have HRb := hide (fun o => (HKb.out o).2.1)
    have HZb := hide (show FlIn W.heap.size [] (W.alloc (.cells zero19 25)).drew from HZ0.out W)
    unfold zero19 at HZb
    have HE0 := hide (show w.heap.size < W.heap.size from HK.out.1.lt)
    go_region_with (first
      | (go_at_call 19; (with_reducible refine (HS.out _ _ HR.out).mono ?_); rintro r w2 ⟨rfl, hb2⟩; replace HK := hide (HK.out.kept hb2); replace HR := hide HK.out.2.1; clear hb2; have HRa := hide (fun o => (HK.out.kept (al_below w2 o)).2.1))
      | (go_at_call 19; (with_reducible refine (HD.out _ _ HR.out).mono ?_); rintro r w3 ⟨rfl, hb3⟩; replace HK := hide (HK.out.kept hb3); first | (obtain ⟨w4, hst, p4, on4⟩ := (P0.out.kept hb3).held (f0 S D); have HE := HE0; replace p4 := hide p4; replace on4 := hide on4; have HK4 := hide (HK.out.only on4.out HE.out hgl)) | (obtain ⟨w4, hst, p4, on4⟩ := (HZ.out w3).held (f0 S D); have HE := hide (show w.heap.size < w3.heap.size from HK.out.1.lt); replace p4 := hide p4; replace on4 := hide on4; have HK4 := hide ((HK.out.kept (al_below w3 _)).only on4.out HE.out hgl)))
      | (go_at_call 19; (with_reducible refine (HD.out _ _ (HRa.out _)).mono ?_); rintro r w3 ⟨rfl, hb3⟩; have HE := hide (show w.heap.size < w2.heap.size from HK.out.1.lt); replace HK := hide ((HK.out.kept (al_below w2 _)).kept hb3); obtain ⟨w4, hst, p4, on4⟩ := ((HZ.out w2).kept hb3).held (f0 S D); replace p4 := hide p4; replace on4 := hide on4; have HK4 := hide (HK.out.only on4.out HE.out hgl))
      | (go_at_call 19; (with_reducible refine (HS.out _ _ (HRb.out _)).mono ?_); rintro r w2 ⟨rfl, hb2⟩; have P0 := hide (HZb.out.kept hb2); replace HK := hide ((HKb.out _).kept hb2); replace HR := hide HK.out.2.1; clear hb2))
    all_goals
      go_wp2
      go_meet
      exact ⟨_, rfl, HE.out, p4, HK4⟩
  case rest =>
    clear HK HZ HZ0 HS HD fb s16 s32
    obtain ⟨E, rfl, hE, HF, HK⟩ := hcut
    have HOct := hide HK.out.2.1.2.2.1
    have HAt := hide (fun (W : World) (hW : KO w (some ⟨g, off, none⟩) len cap zs W) (j : Nat) (hj : j < 52) => show W.cell? ⟨g, off + j, none⟩ = some (.int .u8 (zs.getD j 0)) by obtain ⟨b, o, e, hc⟩ := hW.2.1.2.2.2.2 (by omega); cases e; exact hc j (by omega))
    replace HK := hide (HK.out.kept (Below.refl _ _).drew)
    replace HF := hide (show FlIn E (f0 S D) wc.drew from HF.out)
    have c1 := HAt.out _ HK.out 48 (by omega)
    have c2 := HAt.out _ HK.out 49 (by omega)
    have x1 := HOct.out 48
    have x2 := HOct.out 49
    have HW1 := hide (show P4.wd zs 48 = 256 * zs.getD 48 0 + zs.getD 49 0 from rfl)
    generalize zs.getD 48 0 = z1 at c1 x1 HW1
    generalize zs.getD 49 0 = z2 at c2 x2 HW1
    have c3 := HF.out.cell 9 (by omega)
    have c4 := HF.out.frozen 9
    have g1 : IntKind.i64.wrap z1 = z1 := by rw [IntKind.wrap_i64]; omega
    have g2 : IntKind.i64.wrap z2 = z2 := by rw [IntKind.wrap_i64]; omega
    have g3 : IntKind.i64.wrap (256 * z1) = 256 * z1 := by rw [IntKind.wrap_i64]; omega
    have g4 : IntKind.i64.wrap (256 * z1 + z2) = 256 * z1 + z2 := by rw [IntKind.wrap_i64]; omega
    have i1 : (48 : Int) < (len : Int) := by omega
    have i2 : (49 : Int) < (len : Int) := by omega
    have i3 : (50 : Int) < (len : Int) := by omega
    have i4 : (51 : Int) < (len : Int) := by omega
    have i5 : (13 : Int) < (len : Int) := by omega
    have HS1 := hide (HF.out.set 9 (256 * z1 + z2) (f1_set S D (256 * z1 + z2)))
    have HK1 := hide (show KO w (some ⟨g, off, none⟩) len cap zs (wc.setCell ⟨E, 9, none⟩ (.int .i64 (256 * z1 + z2))).drew from HK.out.only HS1.out.2 hE hgl)
    replace HS1 := hide (show FlIn E (f1 S D (256 * z1 + z2)) (wc.setCell ⟨E, 9, none⟩ (.int .i64 (256 * z1 + z2))).drew from HS1.out.1)
    clear x1 x2 HF HK
    go_upto_region 4 with fail
    go_region
    clear c1 c2 c3 c4 g1 g2 g3 g4
    generalize (wc.setCell _ _).drew = wd at HK1 HS1 ⊢
    rw [← HW1.out] at HS1
    generalize P4.wd zs 48 = P at HFo HS1
    clear HW1
    replace HK1 := hide (HK1.out.kept (Below.refl _ _).drew)
    replace HS1 := hide (show FlIn E (f1 S D P) wd.drew from HS1.out)
    have c1 := HAt.out _ HK1.out 50 (by omega)
    have c2 := HAt.out _ HK1.out 51 (by omega)
    have x1 := HOct.out 50
    have x2 := HOct.out 51
    have HW1 := hide (show P4.wd zs 50 = 256 * zs.getD 50 0 + zs.getD 51 0 from rfl)
    generalize zs.getD 50 0 = z3 at c1 x1 HW1
    generalize zs.getD 51 0 = z4 at c2 x2 HW1
    have c3 := HS1.out.cell 18 (by omega)
    have c4 := HS1.out.frozen 18
    have g1 : IntKind.i64.wrap z3 = z3 := by rw [IntKind.wrap_i64]; omega
    have g2 : IntKind.i64.wrap z4 = z4 := by rw [IntKind.wrap_i64]; omega
    have g3 : IntKind.i64.wrap (256 * z3) = 256 * z3 := by rw [IntKind.wrap_i64]; omega
    have g4 : IntKind.i64.wrap (256 * z3 + z4) = 256 * z3 + z4 := by rw [IntKind.wrap_i64]; omega
    have HS2 := hide (HS1.out.set 18 (256 * z3 + z4) (f2_set S D P (256 * z3 + z4)))
    have HK2 := hide (show KO w (some ⟨g, off, none⟩) len cap zs (wd.setCell ⟨E, 18, none⟩ (.int .i64 (256 * z3 + z4))).drew from HK1.out.only HS2.out.2 hE hgl)
    replace HS2 := hide (show FlIn E (f2 6 S D P (256 * z3 + z4)) (wd.setCell ⟨E, 18, none⟩ (.int .i64 (256 * z3 + z4))).drew from HS2.out.1)
    clear x1 x2 HS1 HK1
    go_upto_region 5 with fail
    go_region
    clear c1 c2 c3 c4 g1 g2 g3 g4
    generalize (wd.setCell _ _).drew = we at HK2 HS2 ⊢
    rw [← HW1.out] at HS2
    generalize P4.wd zs 50 = R at HFo HS2
    clear HW1
    have c1 := HAt.out _ HK2.out 13 (by omega)
    have HOf := hide (fo_ok HOct.out)
    have HOh := hide (hb_oct HOf.out)
    have HHd := hide (fun W => head_any (fo zs) W HOf.out)
    have hbb := str8_eq HOh.out (SM.oct_take zs HOct.out 52) (decide (hb (fo zs) = zs.take 52)) (by simp)
    have HYd := hide (show ydo zs = if decide (hb (fo zs) = zs.take 52) = true then (fo zs, 52, 0) else ([], 0, 5) by unfold ydo; rw [HK2.out.2.1.1]; simp [h])
    have HHl := hide (hb_len (fo zs))
    have h34 : (zs.getD 13 0 == 34) = true ∧ zs.getD 13 0 = 34 ∨ (zs.getD 13 0 == 34) = false ∧ ¬ zs.getD 13 0 = 34 := by
      by_cases e : zs.getD 13 0 = 34
      · exact .inl ⟨by simpa using e, e⟩
      · exact .inr ⟨by simpa using e, e⟩
    obtain ⟨z13, hz⟩ : ∃ z, zs.getD 13 0 = z := ⟨_, rfl⟩
    rw [hz] at c1 h34 HFo
    clear hz
    go_upto_if 41 with fail
    go_cut [] from 42 to 42 (fun wx => Hid (FlIn E (fo zs) wx) ∧ Hid (KO w (some ⟨g, off, none⟩) len cap zs wx))
    case first =>
      rcases h34 with ⟨d1, h34⟩ | ⟨d1, h34⟩
      · have HS3 := hide (HS2.out.set 0 17 (f3_set S D P R 17))
        have HK3 := hide (HK2.out.only HS3.out.2 hE hgl)
        have HF3 := hide (HS3.out.1.congr (by have := HFo.out; rw [if_pos h34] at this; exact this))
        have c3 := HS2.out.cell 0 (by omega)
        have c4 := HS2.out.frozen 0
        go_wp2
        go_meet
        exact ⟨HF3, HK3⟩
      · have HF3 := hide (HS2.out.congr (by have := HFo.out; rw [if_neg h34] at this; exact this))
        go_wp2
        go_meet
        exact ⟨HF3, HK2⟩
    case rest =>
      clear HK2 HS2 HFo c1 h34
      obtain ⟨HF, HK⟩ := hcut
      generalize decide (hb (fo zs) = zs.take 52) = bb at hbb HYd
      go_upto_region 8 with fail
      go_cut [49] from 43 to 48 (fun u wx => u = .bool (!bb) ∧ Hid (FlIn E (fo zs) wx) ∧ Hid (KO w (some ⟨g, off, none⟩) len cap zs wx))
      case first =>
        replace HK := hide (HK.out.kept (Below.refl _ _).drew)
        replace HF := hide (show FlIn E (fo zs) wc.drew from HF.out)
        have g1 := HF.out.fl
        have HCv := hide (fun W (hW : KO w (some ⟨g, off, none⟩) len cap zs W) => conv8 (row_take hW.2.1 52 cap h))
        have cv := HCv.out _ HK.out
        generalize hb (fo zs) = X at HHd hbb HHl
        generalize zs.take 52 = Y at hbb cv HCv
        go_region_with (go_at_call 6; refine (HHd.out _).mono ?_; rintro r w9 ⟨v9, rfl, o9, hb9⟩; obtain ⟨a9, c9, rfl, r9, -⟩ := o9.row8; rw [HHl.out] at r9 ⊢; have v1 := conv8 r9; replace HK := hide (HK.out.kept hb9); replace HF := hide (HF.out.kept hb9); clear cv; have cv := HCv.out _ HK.out)
        all_goals
          go_wp2
          go_meet
          exact ⟨rfl, HF, HK⟩
      case rest =>
        clear HK HF HHd hbb
        obtain ⟨rfl, HF, HK⟩ := hcut
        have g1 := HF.out.fl
        have fb := fbl0
        cases bb
        · have HR := hide (show ydo zs = ([], 0, 5) from HYd.out)
          go_wp2_with (refine at_storef rfl (.tmp 2) (.tmp 50) rfl rfl HK.out.1 [] rfl ?_; intro w5 p5 on5; have HB5 := hide (on5.below HK.out.2.2 (Nat.le_refl _)); replace p5 := hide p5; clear on5)
          try simp only [Exit.inBlock, Exit.then]
          refine bodyPost_ret (results_fl rfl _ _ w.heap.size [] rfl p5.out) rfl ?_
          exact ⟨by rw [HR.out]; rfl, HB5.out⟩
        · have HR := hide (show ydo zs = (fo zs, 52, 0) from HYd.out)
          go_wp2_with (refine at_storef rfl (.tmp 2) (.tmp 51) rfl rfl HK.out.1 (fo zs) rfl ?_; intro w5 p5 on5; have HB5 := hide (on5.below HK.out.2.2 (Nat.le_refl _)); replace p5 := hide p5; clear on5)
          try simp only [Exit.inBlock, Exit.then]
          refine bodyPost_ret (results_fl rfl _ _ w.heap.size (fo zs) rfl p5.out) rfl ?_
          exact ⟨by rw [HR.out]; rfl, HB5.out⟩
theorem flowof_any (a : Option Addr) (len cap : Nat) (zs : List Int) (w : World) (hr : Row8 w a len cap zs) (hcl : len ≤ cap) (hcm : cap ≤ maxLen) :
    Calls Tryd.prog 9 #[.slice a len cap] w fun e w' => e = .returned (.tuple #[.agg (flC (ydo zs).1), .int .i64 (ydo zs).2.2]) ∧ Below w.heap.size w w' := by
  by_cases h : 52 ≤ len
  · obtain ⟨g, off, rfl, _⟩ := hr.2.2.2.2 (by omega)
    exact flowof_raw g off len cap zs w hr h hcl hcm
  · have e : ydo zs = ([], 0, 5) := by unfold ydo; rw [if_neg]; rw [hr.1]; exact fun h' => h h'.1
    rw [e]
    exact flowof_len a len cap zs w hr (by omega)
end Go.Proofs.YtdeofopandobhaaDoor
