/- The document's own Make of a bind that is made, by a contract. -/
import Derived.Test.YtjkkonpangcnjaaDoorBdE
namespace Go.Proofs.YtjkkonpangcnjaaDoor
open Go.RowKit

attribute [local go_sem ↓] fload_shut bload_shut hload_shut bsl_shut bld_shut
set_option maxRecDepth 100000 in
set_option maxHeartbeats 8000000 in
theorem rmake_ok (B P BW BT m : Nat) (ws : Nat → List Int) (ts : Nat → Bool) (v : Value) (bs : List (List Int)) (f : List Int) (back far now : Int) (w : World) (h : RT B P BW BT (8 * m) ws ts v bs w) (hm : m ≤ 16) (hl : bs.length ≤ 1000) (hf : okf f = true) (hr : (fr back && wd far && tc now) = true) (hi : fnd bs f = none) (i : Nat) (ht : tk ws ts (cli f) (8 * m) = some i) :
    Calls Tryd.prog 10 #[.pointer (some ⟨B, 0, none⟩), .agg (flC f), .int .i64 back, .int .i64 far, .int .i64 now] w fun e w' => ∃ v', e = .returned (.tuple #[.agg (bdC (mkb f (1024 + (i : Int)) back far now)), .int .i64 0]) ∧ RT B P BW BT (8 * m) (upd ws i (cli f)) (upd ts i true) v' (ins (mkb f (1024 + (i : Int)) back far now) bs) w' ∧ Fr (fun g => g = B ∨ g = BW ∨ g = BT) w w' ∧ ∀ g, v'.ownBlock = some g → w.heap.size ≤ g := by
  have HK := hide (km_new f h)
  have HF := hide (fun W => rff_any f W)
  rw [hf, show fe true = 0 from rfl] at HF
  rw [Bool.and_eq_true, Bool.and_eq_true] at hr
  have H1 := hide (fun W => four_any back W)
  have H2 := hide (fun W => word_any far W)
  have H3 := hide (fun W => tick_any now W)
  rw [hr.1.1] at H1
  rw [hr.1.2] at H2
  rw [hr.2] at H3
  have HN := hide (fun W (hW : RT B P BW BT (8 * m) ws ts v bs W) => rfind_any B P BW BT (8 * m) ws ts v bs f W hW hl)
  rw [hi, show ix none = (-1 : Int) from rfl] at HN
  have HT := hide (fun W hW => rtake_some P BW BT m ws ts (cli f) i W hW hm (okf_cli hf) ht)
  have hi8 := tk_lt ht
  have j0 : (i : Int) ≤ 128 := by omega
  have bx := fun W => bld_run f (1024 + (i : Int)) back far now W
  obtain ⟨x, hx⟩ : ∃ x, mkb f (1024 + (i : Int)) back far now = x := ⟨_, rfl⟩
  have HX19 := hide (show el x 19 = 1024 + (i : Int) by rw [← hx]; rfl)
  rw [hx] at bx ⊢
  have HX := hide hx
  have sx := bsl_run x
  obtain ⟨ao, cap, rfl, -, -, hg⟩ := h.2.2.shape
  have HG := hide hg
  have hl' : (bs.length : Int) ≤ 1000 := by omega
  unfold zero23 at HK
  clear h hf hr hi ht hi8 hx hg
  go_enter Tryd.func10, Tryd.ntmps10
  go_upto_region 1 with fail
  generalize (w.alloc _).alloc _ = W at HK ⊢
  have g1 := HK.out.2.1.fl
  go_upto_region 11 with (first
    | (go_at_call 8; (with_reducible refine (HF.out _).mono ?_); rintro e w1 ⟨rfl, hb1⟩; replace HK := hide (HK.out.kept hb1); clear hb1 g1; have g1 := HK.out.2.1.fl)
    | (go_at_call 30; (with_reducible refine (H1.out _).mono ?_); rintro e w' ⟨rfl, rfl⟩)
    | (go_at_call 26; (with_reducible refine (H2.out _).mono ?_); rintro e w' ⟨rfl, rfl⟩)
    | (go_at_call 14; (with_reducible refine (H3.out _).mono ?_); rintro e w' ⟨rfl, rfl⟩)
    | (go_at_call 20; refine (HN.out _ HK.out.1).mono ?_; rintro e w2 ⟨rfl, hb2⟩; replace HK := hide (HK.out.kept hb2); clear hb2))
  clear g1
  replace HK := hide (HK.out.kept (Below.refl _ _).drew)
  have l0 := HK.out.1.ports
  have gc := HK.out.2.1.hc
  go_region_held3 (fun w' => w'.cell? ⟨B, 0, none⟩ = some (.pointer (some ⟨P, 0, none⟩)) ∧ (hload (.pointer (some ⟨w.heap.size, 1, none⟩))).run Tryd.prog w' = .ok (.agg (sixC (cli f))) w')
    (first
      | go_keep
      | exact ⟨HK.out.1.ports, HK.out.2.1.hc⟩)
    (first | (go_at_call 31; refine (HT.out _ HK.out.1.2.1).mono ?_; rintro e w6 ⟨rfl, hp6, hf6⟩; replace HK := hide (HK.out.took hp6 hf6); clear hp6 hf6 l0 gc; have l0 := HK.out.1.ports; have gc := HK.out.2.1.hc))
  clear l0 gc HF H1 H2 H3 HN HT
  have g1 := HK.out.2.1.fl
  have HZ := hide (bd_zero w6)
  unfold zero23 at HZ
  go_upto_region 15 with (refine at_storeb rfl (.tmp 17) (.tmp 68) rfl rfl HZ.out x rfl ?_; intro w7 p7 on7; have hb7 := new_below _ on7; have HW7 := hide (show w.heap.size + 1 < w6.heap.size ∧ w6.heap.size < w7.heap.size from ⟨HK.out.2.2.1.lt, p7.lt⟩); replace HK := hide (HK.out.kept hb7); replace p7 := hide p7; clear on7 hb7 HZ g1)
  generalize w6.heap.size = D at p7 HW7 ⊢
  clear bx
  go_wp2
  go_loopw [18, 19, 20] (fun vo d t wr => ∃ k : Nat, k ≤ bs.length ∧ t = .int .i64 k ∧ d = .bool (st x bs k).2 ∧ Hid (OwB w7.heap.size wr vo (st x bs k).1) ∧ Hid (Below w7.heap.size w7 wr)) (fun _ _ t _ => bs.length - (intOf t).toNat)
  case atStart => exact ⟨0, by omega, rfl, rfl, OwB.nil _ _, Below.refl _ _⟩
  case round =>
    obtain ⟨k, hk, rfl, rfl, HO, HB⟩ := hrel
    have HKr := hide (HK.out.kept HB.out)
    have l1 := HKr.out.1.all
    have HSL := hide (st_len x bs k)
    by_cases hlt : k < bs.length
    · obtain ⟨g, rfl⟩ := HG.out (by omega)
      have j1 : (k : Int) < (bs.length : Int) := by omega
      have c19 := HKr.out.1.2.2.cell k 19 hlt (by omega)
      have HST := hide (show st x bs (k + 1) = if (!(st x bs k).2 && decide (el x 19 < el (bs.getD k []) 19)) = true then ((st x bs k).1 ++ [x] ++ [bs.getD k []], true) else ((st x bs k).1 ++ [bs.getD k []], (st x bs k).2) from rfl)
      rw [HX19.out] at HST
      obtain ⟨bk, hbk⟩ : ∃ b, bs.getD k [] = b := ⟨_, rfl⟩
      rw [hbk] at c19 HST
      have HBK := hide hbk
      obtain ⟨y, hy⟩ : ∃ y, el bk 19 = y := ⟨_, rfl⟩
      rw [hy] at c19 HST
      have sk := bsl_run bk
      generalize st x bs k = s at HO HST HSL ⊢
      obtain ⟨l, d⟩ := s
      replace HO : Hid (OwB w7.heap.size wr _ l) := HO
      replace HSL : Hid (l.length ≤ k + 1 ∧ (d = false → l.length = k)) := HSL
      replace HST : Hid (st x bs (k + 1) = if (!d && decide (1024 + (i : Int) < y)) = true then (l ++ [x] ++ [bk], true) else (l ++ [bk], d)) := HST
      clear hbk hy
      obtain ⟨oa, oc, rfl, -, -, -⟩ := HO.out.shape
      by_cases hp : d = false ∧ 1024 + (i : Int) < y
      · obtain ⟨rfl, hy⟩ := hp
        replace HST : Hid (st x bs (k + 1) = (l ++ [x] ++ [bk], true)) := by rw [HST.out, if_pos (by rw [decide_eq_true hy]; rfl)]; exact hide rfl
        have hb3 := al_below wr (.cells (bdC x) 41)
        have HO3 := hide (show OwB w7.heap.size (wr.alloc (.cells (bdC x) 41)) _ l from owns_same HO.out (fun g e => hb3.block g (owns_lt HO.out g e).1))
        have HN3 := hide (one_new x wr)
        have HL3 := hide (show l.length + 1 ≤ 1000000 by have := HSL.out.1; omega)
        have HS3 := hide (show w7.heap.size ≤ (wr.alloc (.cells (bdC x) 41)).heap.size from Nat.le_trans HB.out.size hb3.size)
        have HB3 := hide (show Below w7.heap.size w7 (wr.alloc (.cells (bdC x) 41)) from HB.out.trans (hb3.mono HB.out.size))
        have HD3 := hide (p7.out.kept HB.out)
        have gx := HD3.out.bl
        clear hb3
        go_upto_region 23 with (at_builtin; (with_reducible refine ap_B rfl (.tmp 92) (.tmp 94) rfl w7.heap.size (.slice oa l.length oc) l rfl HO3.out ⟨wr.heap.size, 0, none⟩ 1 1 [x] rfl rfl HN3.out HL3.out HS3.out ?_); intro v5 w5 o5 g5 n5; replace HB3 := hide (HB3.out.grown g5 HS3.out (fun k e => (owns_lt HO3.out k e).2)); replace o5 := hide o5; clear g5 n5 HO3 HN3 HL3 HS3)
        clear l1 c19 gx
        have HKc := hide (HK.out.kept HB3.out)
        have l2 := HKc.out.1.all
        have gk : (bload (.pointer (some ⟨g, k * 23, none⟩))).run Tryd.prog w5 = .ok (.agg (bdC bk)) w5 := by have := HKc.out.1.2.2.bl k hlt; rw [HBK.out] at this; exact this
        have hb3 := al_below w5 (.cells (bdC bk) 41)
        have HO3 := hide (show OwB w7.heap.size (w5.alloc (.cells (bdC bk) 41)) v5 (l ++ [x]) from owns_same o5.out (fun g e => hb3.block g (owns_lt o5.out g e).1))
        have HN3 := hide (one_new bk w5)
        have HL3 := hide (show (l ++ [x]).length + 1 ≤ 1000000 by have := HSL.out.1; rw [List.length_append, List.length_singleton]; omega)
        have HS3 := hide (show w7.heap.size ≤ (w5.alloc (.cells (bdC bk) 41)).heap.size from Nat.le_trans HB3.out.size hb3.size)
        have HB4 := hide (show Below w7.heap.size w7 (w5.alloc (.cells (bdC bk) 41)) from HB3.out.trans (hb3.mono HB3.out.size))
        clear hb3 HKc
        go_wp2_with (at_builtin; (with_reducible refine ap_B rfl (.tmp 96) (.tmp 104) rfl w7.heap.size v5 (l ++ [x]) rfl HO3.out ⟨w5.heap.size, 0, none⟩ 1 1 [bk] rfl rfl HN3.out HL3.out HS3.out ?_); intro v8 w8 o8 g8 n8; replace HB4 := hide (HB4.out.grown g8 HS3.out (fun k e => (owns_lt HO3.out k e).2)); replace o8 := hide o8; clear g8 n8 HO3 HN3 HL3 HS3)
        go_roundw
        case rel => exact ⟨k + 1, by omega, by go_num, by rw [HST.out], by rw [HST.out]; exact o8, HB4⟩
        case measure => simp [intOf]; omega
      · replace HST : Hid (st x bs (k + 1) = (l ++ [bk], d)) := by
          rw [HST.out, if_neg (fun e => hp (by rw [Bool.and_eq_true, decide_eq_true_eq] at e; exact ⟨by simpa using e.1, e.2⟩))]
          exact hide rfl
        cases d
        · have hy : ¬ 1024 + (i : Int) < y := fun e => hp ⟨rfl, e⟩
          clear hp
          go_upto_region 23 with fail
          clear l1 c19
          have HKc := hide (HK.out.kept HB.out)
          have l2 := HKc.out.1.all
          have gk : (bload (.pointer (some ⟨g, k * 23, none⟩))).run Tryd.prog wr = .ok (.agg (bdC bk)) wr := by have := HKc.out.1.2.2.bl k hlt; rw [HBK.out] at this; exact this
          have hb3 := al_below wr (.cells (bdC bk) 41)
          have HO3 := hide (show OwB w7.heap.size (wr.alloc (.cells (bdC bk) 41)) (.slice oa l.length oc) l from owns_same HO.out (fun g e => hb3.block g (owns_lt HO.out g e).1))
          have HN3 := hide (one_new bk wr)
          have HL3 := hide (show l.length + 1 ≤ 1000000 by have := HSL.out.1; omega)
          have HS3 := hide (show w7.heap.size ≤ (wr.alloc (.cells (bdC bk) 41)).heap.size from Nat.le_trans HB.out.size hb3.size)
          have HB4 := hide (show Below w7.heap.size w7 (wr.alloc (.cells (bdC bk) 41)) from HB.out.trans (hb3.mono HB.out.size))
          clear hb3 HKc
          go_wp2_with (at_builtin; (with_reducible refine ap_B rfl (.tmp 96) (.tmp 104) rfl w7.heap.size (.slice oa l.length oc) l rfl HO3.out ⟨wr.heap.size, 0, none⟩ 1 1 [bk] rfl rfl HN3.out HL3.out HS3.out ?_); intro v8 w8 o8 g8 n8; replace HB4 := hide (HB4.out.grown g8 HS3.out (fun k e => (owns_lt HO3.out k e).2)); replace o8 := hide o8; clear g8 n8 HO3 HN3 HL3 HS3)
          go_roundw
          case rel => exact ⟨k + 1, by omega, by go_num, by rw [HST.out], by rw [HST.out]; exact o8, HB4⟩
          case measure => simp [intOf]; omega
        · clear hp
          go_upto_region 23 with fail
          clear l1 c19
          have HKc := hide (HK.out.kept HB.out)
          have l2 := HKc.out.1.all
          have gk : (bload (.pointer (some ⟨g, k * 23, none⟩))).run Tryd.prog wr = .ok (.agg (bdC bk)) wr := by have := HKc.out.1.2.2.bl k hlt; rw [HBK.out] at this; exact this
          have hb3 := al_below wr (.cells (bdC bk) 41)
          have HO3 := hide (show OwB w7.heap.size (wr.alloc (.cells (bdC bk) 41)) (.slice oa l.length oc) l from owns_same HO.out (fun g e => hb3.block g (owns_lt HO.out g e).1))
          have HN3 := hide (one_new bk wr)
          have HL3 := hide (show l.length + 1 ≤ 1000000 by have := HSL.out.1; omega)
          have HS3 := hide (show w7.heap.size ≤ (wr.alloc (.cells (bdC bk) 41)).heap.size from Nat.le_trans HB.out.size hb3.size)
          have HB4 := hide (show Below w7.heap.size w7 (wr.alloc (.cells (bdC bk) 41)) from HB.out.trans (hb3.mono HB.out.size))
          clear hb3 HKc
          go_wp2_with (at_builtin; (with_reducible refine ap_B rfl (.tmp 96) (.tmp 104) rfl w7.heap.size (.slice oa l.length oc) l rfl HO3.out ⟨wr.heap.size, 0, none⟩ 1 1 [bk] rfl rfl HN3.out HL3.out HS3.out ?_); intro v8 w8 o8 g8 n8; replace HB4 := hide (HB4.out.grown g8 HS3.out (fun k e => (owns_lt HO3.out k e).2)); replace o8 := hide o8; clear g8 n8 HO3 HN3 HL3 HS3)
          go_roundw
          case rel => exact ⟨k + 1, by omega, by go_num, by rw [HST.out], by rw [HST.out]; exact o8, HB4⟩
          case measure => simp [intOf]; omega
    · obtain rfl : bs.length = k := by omega
      have HIN := hide (show ins x bs = if (st x bs bs.length).2 = true then (st x bs bs.length).1 else (st x bs bs.length).1 ++ [x] from rfl)
      generalize st x bs bs.length = s at HO HIN HSL ⊢
      obtain ⟨l, d⟩ := s
      replace HO : Hid (OwB w7.heap.size wr _ l) := HO
      replace HSL : Hid (l.length ≤ bs.length + 1 ∧ (d = false → l.length = bs.length)) := HSL
      replace HIN : Hid (ins x bs = if d = true then l else l ++ [x]) := HIN
      obtain ⟨oa, oc, rfl, -, -, -⟩ := HO.out.shape
      have HD3 := hide (p7.out.kept HB.out)
      have hDB : D ≠ B := by have := HW7.out.1; have := HK.out.2.2.2.2.1; omega
      cases d
      · have gx := HD3.out.bl
        have hb3 := al_below wr (.cells (bdC x) 41)
        have HO3 := hide (show OwB w7.heap.size (wr.alloc (.cells (bdC x) 41)) (.slice oa l.length oc) l from owns_same HO.out (fun g e => hb3.block g (owns_lt HO.out g e).1))
        have HN3 := hide (one_new x wr)
        have HL3 := hide (show l.length + 1 ≤ 1000000 by have := HSL.out.1; omega)
        have HS3 := hide (show w7.heap.size ≤ (wr.alloc (.cells (bdC x) 41)).heap.size from Nat.le_trans HB.out.size hb3.size)
        have HB3 := hide (show Below w7.heap.size w7 (wr.alloc (.cells (bdC x) 41)) from HB.out.trans (hb3.mono HB.out.size))
        clear hb3
        go_upto_region 26 with (at_builtin; (with_reducible refine ap_B rfl (.tmp 108) (.tmp 110) rfl w7.heap.size (.slice oa l.length oc) l rfl HO3.out ⟨wr.heap.size, 0, none⟩ 1 1 [x] rfl rfl HN3.out HL3.out HS3.out ?_); intro v5 w5 o5 g5 n5; replace HB3 := hide (HB3.out.grown g5 HS3.out (fun k e => (owns_lt HO3.out k e).2)); replace o5 := hide (show OwB w7.heap.size w5 v5 (ins x bs) from by rw [HIN.out]; exact o5); clear g5 n5 HO3 HN3 HL3 HS3; obtain ⟨a5, c5, rfl, -, -, -⟩ := o5.out.shape)
        clear gx l1 HD3
        have HKf := hide (HK.out.kept HB3.out)
        have HDf := hide (p7.out.kept HB3.out)
        have l1 := HKf.out.1.all
        have f1 : w5.frozen? ⟨B, 1, none⟩ = false := by simp [World.frozen?, HKf.out.1.1]
        have HKg := hide (HKf.out.setAll o5.out (by have := HW7.out; omega))
        have HDg := hide (show BdIn D x (w5.setCell ⟨B, 1, none⟩ (.slice a5 (ins x bs).length c5)) from (Below.heap_setCell w5 ⟨B, 1, none⟩ (.slice a5 (ins x bs).length c5) D hDB).trans HDf.out)
        have HV := hide (show ∀ g, (.slice a5 (ins x bs).length c5 : Value).ownBlock = some g → w.heap.size ≤ g from fun g e => by have := (owns_lt o5.out g e).2; have := HW7.out; omega)
        go_upto_region 27 with fail
        clear l1 f1 HKf HDf
        generalize w5.setCell _ _ = w9 at HKg HDg ⊢
        have gx := HDg.out.bl
        go_wp2_with (refine at_storeb rfl (.tmp 10) (.tmp 116) rfl rfl HKg.out.2.2.1 x rfl ?_; intro w10 p10 on10; have HK10 := hide (HKg.out.answer on10); replace p10 := hide p10; clear on10)
        try simp only [Exit.inBlock, Exit.then]
        refine bodyPost_ret (results_bd rfl _ _ (w.heap.size + 1) x rfl p10.out) rfl ?_
        exact ⟨rfl, _, HK10.out.1, HK10.out.2, HV.out⟩
      · go_upto_region 26 with fail
        clear l1 HD3
        have HB3 := HB
        have o5 := hide (show OwB w7.heap.size wr (.slice oa l.length oc) (ins x bs) from by rw [HIN.out]; exact HO.out)
        have HKf := hide (HK.out.kept HB3.out)
        have HDf := hide (p7.out.kept HB3.out)
        have l1 := HKf.out.1.all
        have f1 : wr.frozen? ⟨B, 1, none⟩ = false := by simp [World.frozen?, HKf.out.1.1]
        have HKg := hide (HKf.out.setAll o5.out (by have := HW7.out; omega))
        have HDg := hide (show BdIn D x (wr.setCell ⟨B, 1, none⟩ (.slice oa l.length oc)) from (Below.heap_setCell wr ⟨B, 1, none⟩ (.slice oa l.length oc) D hDB).trans HDf.out)
        have HV := hide (show ∀ g, ((.slice oa l.length oc) : Value).ownBlock = some g → w.heap.size ≤ g from fun g e => by have := (owns_lt o5.out g e).2; have := HW7.out; omega)
        go_upto_region 27 with fail
        clear l1 f1 HKf HDf
        generalize wr.setCell _ _ = w9 at HKg HDg ⊢
        have gx := HDg.out.bl
        go_wp2_with (refine at_storeb rfl (.tmp 10) (.tmp 116) rfl rfl HKg.out.2.2.1 x rfl ?_; intro w10 p10 on10; have HK10 := hide (HKg.out.answer on10); replace p10 := hide p10; clear on10)
        try simp only [Exit.inBlock, Exit.then]
        refine bodyPost_ret (results_bd rfl _ _ (w.heap.size + 1) x rfl p10.out) rfl ?_
        exact ⟨rfl, _, HK10.out.1, HK10.out.2, HV.out⟩
end Go.Proofs.YtjkkonpangcnjaaDoor
