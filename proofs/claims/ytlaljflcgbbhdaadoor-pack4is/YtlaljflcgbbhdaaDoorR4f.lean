/- The document's own Decoded4 of bytes that have a packet's form, by a contract. -/
import Derived.Test.YtlaljflcgbbhdaaDoorR4e
namespace Go.Proofs.YtlaljflcgbbhdaaDoor
open Go.RowKit
attribute [local go_sem ↓] Go.wp_at_zero Go.wp_at_succ
theorem alloc_drewN (w : World) (n : Nat) (o : Obj) : (w.drewN n).alloc o = (w.alloc o).drewN n := rfl
theorem setCell_drewN (w : World) (n : Nat) (a : Addr) (v : Value) : (w.drewN n).setCell a v = (w.setCell a v).drewN n := rfl
attribute [local go_sem] alloc_drewN setCell_drewN

theorem Row8.heap {w w' : World} {a : Option Addr} {len cap : Nat} {zs : List Int} (h : Row8 w a len cap zs) (he : ∀ b o, a = some ⟨b, o, none⟩ → w'.heap[b]? = w.heap[b]?) : Row8 w' a len cap zs := by
  obtain ⟨h1, h2, h3, h4, h5⟩ := h
  refine ⟨h1, h2, h3, h4, fun hp => ?_⟩
  obtain ⟨b, off, h6, h7⟩ := h5 hp
  refine ⟨b, off, h6, fun i hi => ?_⟩
  have := h7 i hi
  unfold World.cell? at this ⊢
  rw [he b off h6]
  exact this
set_option maxRecDepth 100000 in
set_option maxHeartbeats 8000000 in
theorem rdecode_form (g off len cap : Nat) (zs : List Int) (w : World) (hr : Row8 w (some ⟨g, off, none⟩) len cap zs) (hcl : len ≤ cap) (hcm : cap ≤ maxLen) (h : P4.Syn zs) (r : Bool) (hrr : P4.wd zs 10 = P4.ckz zs ↔ r = true) :
    Calls Tryd.prog 9 #[.slice (some ⟨g, off, none⟩) len cap] w fun e w' => ((r = false ∧ e = .returned (.tuple #[pk0, .int .i64 6])) ∨
      (r = true ∧ ∃ a' c', e = .returned (.tuple #[pk (P4.src zs) (P4.dst zs) (zs.getD 8 0) (zs.getD 9 0) (P4.wd zs 4) a' (len - 20) c', .int .i64 0]) ∧ Row8 w' a' (len - 20) c' (zs.drop 20))) ∧ Below w.heap.size w w' := by
  have hlen := hr.1
  have hoct := hr.2.2.1
  obtain ⟨l0, l1, e0, e2, e6⟩ := h
  have HB := hide (bx_below w 0 0 0 0 0 none 0 0)
  have HP := hide (pk_new w 0 0 0 0 0 none 0 0)
  unfold bx at HB
  have HRow := hide (hr.below HB.out)
  have HW := hide (fun W x h h0 h1 => word_b g off len cap zs W x h h0 h1)
  have d1 : decide ((len : Int) < 20) = false := decide_eq_false (by omega)
  have d2 : decide ((340 : Int) < (len : Int)) = false := decide_eq_false (by omega)
  have f0 : (P4.wd zs 0 != 17664) = false := by simpa using e0
  have f2 : (P4.wd zs 2 != (len : Int)) = false := by rw [e2, hlen]; simp
  have f6 : (P4.wd zs 6 != 16384) = false := by simpa using e6
  have h20 : 20 ≤ len := by omega
  have h340 : len ≤ 340 := by omega
  have HLT := hide (World.block_lt_of_cell? w ⟨g, off + 8, none⟩ (by
    obtain ⟨_, _, _, _, h5⟩ := hr
    obtain ⟨b, o, e, hc⟩ := h5 (by omega)
    cases e
    exact hc 8 (by omega)))
  have HC8 := hide (fun W (h : Row8 W (some ⟨g, off, none⟩) len cap zs) => show W.cell? ⟨g, off + 8, none⟩ = some (.int .u8 (zs.getD 8 0)) ∧ W.cell? ⟨g, off + 9, none⟩ = some (.int .u8 (zs.getD 9 0)) by
    obtain ⟨_, _, _, _, h5⟩ := h
    obtain ⟨b, o, e, hc⟩ := h5 (by omega)
    cases e
    exact ⟨hc 8 (by omega), hc 9 (by omega)⟩)
  have HOk := hide (okp_read zs hoct l1)
  have HRR := hide hrr
  have b8 := hoct 8
  have b9 := hoct 9
  have w12 := wd_bd zs hoct 12
  have w14 := wd_bd zs hoct 14
  have w16 := wd_bd zs hoct 16
  have w18 := wd_bd zs hoct 18
  have w4 := wd_bd zs hoct 4
  have HS := hide (show P4.src zs = 65536 * P4.wd zs 12 + P4.wd zs 14 from rfl)
  have HD := hide (show P4.dst zs = 65536 * P4.wd zs 16 + P4.wd zs 18 from rfl)
  clear e0 e2 e6 hr hrr
  go_enter Tryd.func9, Tryd.ntmps9
  go_upto_region 3 with (go_at_call 22; refine (HW.out _ _ HRow.out (by omega) (by omega)).mono ?_; rintro e w1 ⟨rfl, hb1⟩; replace HB := hide (bt HB.out hb1); replace HP := hide (HP.out.kept hb1); replace HRow := hide (HRow.out.below hb1); clear hb1)
  clear f0 f2 f6 d1 d2
  generalize hz8 : zs.getD 8 0 = z8 at HC8 HOk b8 ⊢
  generalize hz9 : zs.getD 9 0 = z9 at HC8 HOk b9 ⊢
  have Z8 := hide hz8
  have Z9 := hide hz9
  clear hz8 hz9
  have q8 : IntKind.i64.wrap z8 = z8 := by rw [IntKind.wrap_i64]; omega
  have q9 : IntKind.i64.wrap z9 = z9 := by rw [IntKind.wrap_i64]; omega
  have q12 : IntKind.i64.wrap (65536 * P4.wd zs 12) = 65536 * P4.wd zs 12 := by rw [IntKind.wrap_i64]; omega
  have q16 : IntKind.i64.wrap (65536 * P4.wd zs 16) = 65536 * P4.wd zs 16 := by rw [IntKind.wrap_i64]; omega
  have qs : IntKind.i64.wrap (65536 * P4.wd zs 12 + P4.wd zs 14) = P4.src zs := by rw [IntKind.wrap_i64, HS.out]; omega
  have qd : IntKind.i64.wrap (65536 * P4.wd zs 16 + P4.wd zs 18) = P4.dst zs := by rw [IntKind.wrap_i64, HD.out]; omega
  have i8 : (8 : Int) < (len : Int) := by omega
  have i9 : (9 : Int) < (len : Int) := by omega
  obtain ⟨x8, x9⟩ := HC8.out _ HRow.out
  have hne : w1.heap.size ≠ g := World.new_ne w1 _ x8
  have HA := hide (fun m x h0 h1 => word_at g off len cap zs (w1.drewN m) x (HRow.out.drewN m) h0 h1)
  have HA' := hide (fun x h0 h1 => word_at g off len cap zs w1.drew x (HRow.out.drewN 1) h0 h1)
  have HZ := hide (fun m x h0 h1 => word_at g off len cap zs ((w1.alloc (.cells #[.int .i64 0, .int .i64 0, .int .i64 0, .int .i64 0, .int .i64 0, .slice none 0 0] 24)).drewN m) x ((HRow.out.below (al_below _ _)).drewN m) h0 h1)
  have HZ' := hide (fun x h0 h1 => word_at g off len cap zs (w1.alloc (.cells #[.int .i64 0, .int .i64 0, .int .i64 0, .int .i64 0, .int .i64 0, .slice none 0 0] 24)).drew x ((HRow.out.below (al_below _ _)).drewN 1) h0 h1)
  go_cut [4] from 31 to 53 (fun v4 W => v4 = .pointer (some ⟨w1.heap.size, 0, none⟩) ∧ ∃ N, W = (w1.alloc (.cells #[.int .i64 (P4.src zs), .int .i64 (P4.dst zs), .int .i64 z8, .int .i64 z9, .int .i64 (P4.wd zs 4), .slice none 0 0] 24)).drewN N)
  case first =>
    go_region_held3 (fun w' => w'.cell? ⟨g, off + 8, none⟩ = some (.int .u8 z8) ∧ w'.cell? ⟨g, off + 9, none⟩ = some (.int .u8 z9))
      (go_keep)
      (first
        | (go_at_call 22; with_reducible refine (HA.out _ _ (by omega) (by omega)).mono ?_; rintro e w2 ⟨rfl, n2, rfl⟩)
        | (go_at_call 22; with_reducible refine (HA'.out _ (by omega) (by omega)).mono ?_; rintro e w2 ⟨rfl, n2, rfl⟩)
        | (go_at_call 22; with_reducible refine (HZ.out _ _ (by omega) (by omega)).mono ?_; rintro e w2 ⟨rfl, n2, rfl⟩)
        | (go_at_call 22; with_reducible refine (HZ'.out _ (by omega) (by omega)).mono ?_; rintro e w2 ⟨rfl, n2, rfl⟩))
    all_goals
      go_wp2_with fail
      go_meet
      exact ⟨rfl, _, rfl⟩
  case rest =>
    obtain ⟨rfl, N, rfl⟩ := hcut
    clear HA HA' HZ HZ' q12 q16 qs qd q8 q9 x8 x9 hne w12 w14 w16 w18 w4
    have hpart := HRow.out.part 20 len h20 (Nat.le_refl _) (if cap = 20 then some ⟨g, off, none⟩ else some ⟨g, off + 20, none⟩) (cap - 20) (fun b o hlt e => by cases e; rw [if_neg (by omega)]) (fun e => by split at e <;> cases e)
    replace hpart := hpart.congr (show (zs.drop 20).take (len - 20) = zs.drop 20 from List.take_of_length_le (by rw [List.length_drop, hlen]; exact Nat.le_refl _))
    obtain ⟨ao, hao⟩ : ∃ ao, (if cap = 20 then some (⟨g, off, none⟩ : Addr) else some ⟨g, off + 20, none⟩) = ao := ⟨_, rfl⟩
    have HAO := hide (show ∀ b o, ao = some ⟨b, o, none⟩ → b = g from fun b o e => by rw [← hao] at e; split at e <;> (cases e; rfl))
    rw [hao] at hpart
    have hcm' := hcm
    unfold maxLen at hcm'
    have i20 : (20 : Int) ≤ (len : Int) := by omega
    have ilc : (len : Int) ≤ (cap : Int) := by omega
    have HPart := hide hpart
    clear hpart
    go_upto_region 5 with fail
    have hb4 : Below w1.heap.size w1 ((w1.alloc (.cells #[.int .i64 (P4.src zs), .int .i64 (P4.dst zs), .int .i64 z8, .int .i64 z9, .int .i64 (P4.wd zs 4), .slice ao (len - 20) (cap - 20)] 24)).drewN N) := (al_below _ _).trans ⟨rfl, rfl, rfl, Nat.le_refl _, fun _ _ => rfl⟩
    have HN := hide (show PkIn w1.heap.size (P4.src zs) (P4.dst zs) z8 z9 (P4.wd zs 4) ao (len - 20) (cap - 20) ((w1.alloc (.cells #[.int .i64 (P4.src zs), .int .i64 (P4.dst zs), .int .i64 z8, .int .i64 z9, .int .i64 (P4.wd zs 4), .slice ao (len - 20) (cap - 20)] 24)).drewN N) from pk_new w1 _ _ _ _ _ _ _ _)
    have HNE := hide (Nat.ne_of_lt HP.out.lt)
    replace HB := hide (bt HB.out hb4)
    replace HP := hide (HP.out.kept hb4)
    replace HRow := hide (HRow.out.below hb4)
    replace HPart := hide (HPart.out.below hb4)
    have HC := hide (show P4.ckz zs = P4.ck (P4.src zs) (P4.dst zs) z8 z9 (P4.wd zs 4) (20 + ((len - 20 : Nat) : Int)) by unfold P4.ckz; rw [Z8.out, Z9.out, hlen]; congr 1; omega)
    clear hb4 hao
    generalize w1.heap.size = B1 at HN HNE ⊢
    generalize (w1.alloc (.cells #[.int .i64 (P4.src zs), .int .i64 (P4.dst zs), .int .i64 z8, .int .i64 z9, .int .i64 (P4.wd zs 4), .slice ao (len - 20) (cap - 20)] 24)).drewN N = W4 at HB HP HRow HPart HN ⊢
    clear HS HD
    rw [HC.out] at HRR
    have HB1 := hide (fun W => bytes4_form (P4.src zs) (P4.dst zs) z8 z9 (P4.wd zs 4) ao (len - 20) (cap - 20) 0 W HOk.out (by omega) (by omega))
    have HSum := hide (fun g c' W (h : Row8 W (some ⟨g, 0, none⟩) 20 c' (P4.hd (P4.src zs) (P4.dst zs) z8 z9 (P4.wd zs 4) (20 + ((len - 20 : Nat) : Int)) 0)) => rsumof_any _ 20 c' _ W h (by omega))
    have hck := P4.ck_in _ _ _ _ _ _ (okp_okh HOk.out (show len - 20 ≤ 320 by omega))
    have hq : 65535 - SM.fold (SM.tot (P4.hd (P4.src zs) (P4.dst zs) z8 z9 (P4.wd zs 4) (20 + ((len - 20 : Nat) : Int)) 0) 20) = P4.ck (P4.src zs) (P4.dst zs) z8 z9 (P4.wd zs 4) (20 + ((len - 20 : Nat) : Int)) := rfl
    generalize P4.ck (P4.src zs) (P4.dst zs) z8 z9 (P4.wd zs 4) (20 + ((len - 20 : Nat) : Int)) = c at HRR hck hq HC
    generalize SM.fold (SM.tot (P4.hd (P4.src zs) (P4.dst zs) z8 z9 (P4.wd zs 4) (20 + ((len - 20 : Nat) : Int)) 0) 20) = x at HSum hq
    have hq2 : IntKind.i64.wrap (65535 - x) = c := by rw [IntKind.wrap_i64]; omega
    clear hq hck HC HOk
    unfold pk at HB1
    generalize hs : P4.src zs = s at HB1 HSum HN ⊢
    generalize hd : P4.dst zs = d at HB1 HSum HN ⊢
    generalize hi : P4.wd zs 4 = i at HB1 HSum HN ⊢
    have ES := hide hs
    have ED := hide hd
    have EI := hide hi
    clear hs hd hi
    have HA' := hide (fun x h0 h1 => word_b g off len cap zs W4.drew x (HRow.out.drewN 1) h0 h1)
    replace HN := hide (show PkIn B1 s d z8 z9 i ao (len - 20) (cap - 20) W4.drew from HN.out)
    replace HP := hide (show PkIn w.heap.size 0 0 0 0 0 none 0 0 W4.drew from HP.out)
    replace HB := hide (show Below w.heap.size w W4.drew from HB.out.drew)
    replace HPart := hide (HPart.out.drewN 1)
    replace HPart := hide (show Row8 W4.drew ao (len - 20) (cap - 20) (zs.drop 20) from HPart.out)
    have hr2 : (P4.wd zs 10 != c) = !r := by
      cases r
      · have : ¬ P4.wd zs 10 = c := fun e => by have := HRR.out.1 e; cases this
        simpa using this
      · simpa using HRR.out.2 rfl
    go_cut [63] from 57 to 63 (fun v63 W => v63 = .bool (!r) ∧ Hid (PkIn B1 s d z8 z9 i ao (len - 20) (cap - 20) W ∧ PkIn w.heap.size 0 0 0 0 0 none 0 0 W ∧ Row8 W ao (len - 20) (cap - 20) (zs.drop 20) ∧ Below w.heap.size w W))
    case first =>
      go_region_held3 (fun w' => w'.cell? ⟨B1, 0, none⟩ = some (.int .i64 s) ∧ w'.cell? ⟨B1, 1, none⟩ = some (.int .i64 d) ∧ w'.cell? ⟨B1, 2, none⟩ = some (.int .i64 z8) ∧ w'.cell? ⟨B1, 3, none⟩ = some (.int .i64 z9) ∧ w'.cell? ⟨B1, 4, none⟩ = some (.int .i64 i) ∧ w'.cell? ⟨B1, 5, none⟩ = some (.slice ao (len - 20) (cap - 20)))
        (first
          | exact HN.out.all
          | go_keep)
        (first
          | (go_at_call 22; with_reducible refine (HA'.out _ (by omega) (by omega)).mono ?_; rintro e w5 ⟨rfl, hb5⟩; replace HN := hide (HN.out.kept hb5); replace HP := hide (HP.out.kept hb5); replace HB := hide (bt HB.out hb5); replace HPart := hide (HPart.out.below hb5); clear hb5)
          | (go_at_call 18; with_reducible refine (HB1.out _).mono ?_; rintro e w6 ⟨g6, c6, rfl, hr6, -, hb6⟩; replace HN := hide (HN.out.kept hb6); replace HP := hide (HP.out.kept hb6); replace HB := hide (bt HB.out hb6); replace HPart := hide (HPart.out.below hb6); replace hr6 := hide hr6; clear hb6)
          | (go_at_call 19; with_reducible refine (HSum.out _ _ _ hr6.out).mono ?_; rintro e w7 ⟨rfl, rfl⟩))
      go_wp2_with fail
      go_meet
      exact ⟨rfl, HN.out, HP.out, HPart.out, HB.out⟩
    case rest =>
      obtain ⟨rfl, HX⟩ := hcut
      obtain ⟨hN, hP, hPart, hB⟩ := HX.out
      obtain ⟨c0, c1, c2, c3, c4, c5⟩ := hP.all
      obtain ⟨k0, k1, k2, k3, k4, k5⟩ := hP.frz
      obtain ⟨n0, n1, n2, n3, n4, n5⟩ := hN.all
      replace hN := hide hN
      replace hP := hide hP
      replace hPart := hide hPart
      replace hB := hide hB
      clear HX HRR hr2
      cases r
      · go_wp2
        try simp only [Exit.inBlock, Exit.then]
        refine bodyPost_ret (results_cr rfl _ _ w.heap.size 0 0 0 0 0 none 0 0 rfl (put6_pk hP.out 0 0 0 0 0 none 0 0)) rfl ?_
        have hfin := put6_below hB.out (Nat.le_refl _) 0 0 0 0 0 none 0 0
        first
        | exact ⟨rfl, hfin⟩
        | exact ⟨.inl ⟨rfl, rfl⟩, hfin⟩
      · go_wp2
        try simp only [Exit.inBlock, Exit.then]
        refine bodyPost_ret (results_cr rfl _ _ w.heap.size s d z8 z9 i ao (len - 20) (cap - 20) rfl (put6_pk hP.out s d z8 z9 i ao (len - 20) (cap - 20))) rfl ?_
        have hfin := put6_below hB.out (Nat.le_refl _) s d z8 z9 i ao (len - 20) (cap - 20)
        have hrow : Row8 (put6 wc w.heap.size s d z8 z9 i ao (len - 20) (cap - 20)) ao (len - 20) (cap - 20) (zs.drop 20) := hPart.out.heap (fun b o e => by have := HAO.out b o e; have := HLT.out; exact put6_heap wc w.heap.size b (by omega) s d z8 z9 i ao (len - 20) (cap - 20))
        have z8' : zs[8]?.getD 0 = z8 := by rw [← List.getD_eq_getElem?_getD]; exact Z8.out
        have z9' : zs[9]?.getD 0 = z9 := by rw [← List.getD_eq_getElem?_getD]; exact Z9.out
        refine ⟨⟨ao, cap - 20, ?_, hrow⟩, hfin⟩
        rw [ES.out, ED.out, EI.out, z8', z9']
        rfl
end Go.Proofs.YtlaljflcgbbhdaaDoor
