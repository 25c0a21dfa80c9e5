/- The statement's function CrossBack returns true, whatever the packet and the addresses. -/
import Derived.Test.YtfjnioninjllkaaDoorXBackM
import Derived.Test.YtfjnioninjllkaaDoorJV4h
import Derived.Test.YtfjnioninjllkaaDoorJV4
import Derived.Test.YtfjnioninjllkaaDoorJV6
import Derived.Test.YtfjnioninjllkaaDoorJTold
import Derived.BigQuiet
namespace Go.Proofs.YtfjnioninjllkaaDoor
open Go.RowKit

theorem Row8.atv {w : World} {b off len cap : Nat} {zs : List Int} (r : Row8 w (some ⟨b, off, none⟩) len cap zs) (i : Nat) (hi : i < len) (v : Int) (hv : zs.getD i 0 = v) : w.cell? ⟨b, off + i, none⟩ = some (.int .u8 v) := by
  obtain ⟨b', off', e, hc⟩ := r.2.2.2.2 (by omega)
  injection e with e; injection e with e1 e2
  rw [e1, e2, hc i hi, hv]
theorem drewN_below (w : World) (n : Nat) : Below w.heap.size w (w.drewN n) := ⟨rfl, rfl, rfl, Nat.le_refl _, fun _ _ => rfl⟩
/-- the packet that is handed in, and what crossed, in their blocks. -/
def VB (w : World) (s d : List Int) (h k : Int) (a : Option Addr) (len cap : Nat) (B : Nat) (src dst : Int) (g c : Nat) (W : World) : Prop := V6.PkIn w.heap.size s d h k a len cap W ∧ V4.PkIn B src dst (h - 1) k 0 (some ⟨g, 0, none⟩) len c W ∧ Below w.heap.size w W
theorem VB.kept {w : World} {s d : List Int} {h k : Int} {a : Option Addr} {len cap B : Nat} {src dst : Int} {g c : Nat} {W W' : World} (v : VB w s d h k a len cap B src dst g c W) (hb : Below W.heap.size W W') : VB w s d h k a len cap B src dst g c W' := ⟨v.1.kept hb, v.2.1.kept hb, bt v.2.2 hb⟩
attribute [local go_sem ↓] hload_shut
set_option maxRecDepth 100000 in
set_option maxHeartbeats 16000000 in
theorem back_walk (s d : List Int) (h k : Int) (a : Option Addr) (len cap : Nat) (zs : List Int) (src dst : Int) (w : World) (hg : Laid0 w) (hr : Row8 w a len cap zs) (hcl : len ≤ cap) (hcm : cap ≤ maxLen) :
    Calls Tryd.prog 4 #[V6.pk s d h k a len cap, .int .i64 src, .int .i64 dst] w fun e w' => e = .returned (.bool true) ∧ Below w.heap.size w w' := by
  have hdich := to4_dich s d h k a len cap zs src dst w hr hcl hcm
  have HB := hide (al_below w (.cells (V6.pkC s d h k a len cap) 26))
  have HP := hide (V6.pk_new w s d h k a len cap)
  have HZ := hide V4.zero_new
  have HZ6 := hide V6.zero_new
  have HF1 := hide fact1
  have HF2 := hide fact2
  have HF3 := hide fact3
  have HG := hide hg
  have HDI := hide hdich
  have HR := hide hr
  have HCL := hide hcl
  have HCM := hide hcm
  unfold V4.zero4 at HZ
  unfold V6.zero6 at HZ6
  generalize o6 [1] [2] 17 8 = OF at HF1 HF2 HF3
  generalize eb [17, 1, 2] OF [] = EF at HF2 HF3
  clear hdich hr hcl hcm hg
  unfold V6.pk at HDI
  unfold V6.pk
  go_enter Tryd.func4, Tryd.ntmps4
  go_upto_region 1 with fail
  generalize w.alloc _ = W0 at HB HP ⊢
  go_upto_region 3 with (first
    | (go_at_call 12; refine (HF1.out _).mono ?_; rintro e w1 ⟨rfl, hb1⟩; replace HB := hide (bt HB.out hb1); replace HP := hide (HP.out.kept hb1); clear hb1)
    | (go_at_call 13; refine (HF2.out _).mono ?_; rintro e w2 ⟨g2, c2, rfl, hc2, hm2, hr2, hb2⟩; replace HB := hide (bt HB.out hb2); replace HP := hide (HP.out.kept hb2); replace hc2 := hide hc2; replace hm2 := hide hm2; replace hr2 := hide hr2; clear hb2))
  go_upto_region 4 with (first
    | (go_at_call 6; refine (HF3.out _ _ _ hc2.out hm2.out hr2.out).mono ?_; rintro e w3 ⟨a3, c3, rfl, hb3⟩; replace HB := hide (bt HB.out hb3); replace HP := hide (HP.out.kept hb3); clear hb3)
    | (refine V4.at_store rfl (.tmp 11) (.tmp 42) rfl rfl (HZ.out w3) 5 6 8 17 0 a3 8 c3 rfl ?_; intro w4 p4 on4; have hb4 := new_below _ on4; replace HB := hide (bt HB.out hb4); replace HP := hide (HP.out.kept hb4); replace p4 := hide p4; clear hb4 on4))
  obtain ⟨l0, l1, l2, l3, l4, l5⟩ := p4.out.all
  go_upto_region 6 with fail
  clear l0 l1 l2 l3 l4 l5 p4 hc2 hm2 hr2 HF1 HF2 HF3
  rcases HDI.out with ⟨j, HT⟩ | ⟨z, D, ho, hl, f1, f2, h2, B, HT⟩
  · replace HT := hide HT
    unfold V4.pk0 V4.pk err at HT
    clear HDI
    go_wp2_with (first
      | (refine V6.at_load rfl (.tmp 3) rfl rfl HP.out ?_)
      | (go_at_call 6; refine (HT.out _ HB.out).mono ?_; rintro e w5 ⟨rfl, hb5⟩; replace HB := hide (bt HB.out hb5); clear hb5)
      | (refine V4.at_store rfl (.tmp 13) (.tmp 80) rfl rfl (HZ.out w5) 0 0 0 0 0 none 0 0 rfl ?_; intro w6 p6 on6; replace HB := hide (bt HB.out (new_below _ on6)); clear on6 p6))
    go_ret
    exact ⟨rfl, HB.out⟩
  · clear HDI
    have hpos := hn_pos k
    have hsz := B.size
    have hlen : (eb z (o4 src dst k len) D).length ≤ 320 := by rw [eb_len, B.kind]; omega
    obtain ⟨b, off, rfl, _⟩ := HR.out.2.2.2.2 (by omega)
    have hk := (kn_iff _).1 (okg_kn B.okg)
    rw [B.kind] at hk
    have HEN := hide (fun W a' c' r => V4.encode_form src dst (h - 1) k 0 a' len c' (eb z (o4 src dst k len) D) W (okp4 ho f1 f2 h2) hl r)
    have HDE := hide (fun W a' n' c' r hcl hcm => V4.decode_bys a' n' c' src dst (h - 1) k 0 (eb z (o4 src dst k len) D) W r hcl hcm (okp4 ho f1 f2 h2) hlen)
    have HSM := hide (fun W a1 a2 l1 l2 c1 c2 r1 r2 => V4.pack4s_same src dst (h - 1) k 0 a1 a2 l1 l2 c1 c2 (eb z (o4 src dst k len) D) W r1 r2)
    have HBK := hide (fun (hh : 3 ≤ h) W a' c' r hcl hcm => back_ok s d h k src dst len zs z D ho hl f1 f2 hh B a' c' W r hcl hcm)
    have HDD := hide (fun (hd : h < 3) W a' c' r hcl hcm => back_dead s d h k src dst len zs z D ho hl f1 f2 h2 hd B a' c' W r hcl hcm)
    have HSAME := hide (show ∀ j, j ≠ cn k → j ≠ cn k + 1 → zs.getD j 0 = (eb z (o4 src dst k len) D).getD j 0 from fun j h1 h2 => by have := eb_same z (o6 s d k len) (o4 src dst k len) D j (by rw [B.kind]; exact h1) (by rw [B.kind]; exact h2); rw [B.bytes] at this; exact this)
    have HT7 := hide (fun W (hl : Laid0 W) => error_err 7 W hl)
    have hh2 : h ≤ 255 := ho.2.2.1.2
    replace HT := hide HT
    generalize eb z (o4 src dst k len) D = Z4 at HT HEN HDE HSM HBK HDD HSAME hlen
    unfold V4.pk at HT HEN HDE HSM HBK HDD
    unfold V6.pk at HBK
    unfold V6.pk0 V6.pk err at HDD
    clear B ho f1 f2 hpos hsz hlen
    go_upto_region 7 with (first
      | (refine V6.at_load rfl (.tmp 3) rfl rfl HP.out ?_)
      | (go_at_call 6; refine (HT.out _ HB.out).mono ?_; rintro e w5 ⟨g, c, rfl, hc1, hc2, hr5, hb5⟩; replace HB := hide (bt HB.out hb5); replace HP := hide (HP.out.kept hb5); replace hr5 := hide hr5; replace hc1 := hide hc1; replace hc2 := hide hc2; clear hb5)
      | (refine V4.at_store rfl (.tmp 13) (.tmp 80) rfl rfl (HZ.out w5) src dst (h - 1) k 0 (some ⟨g, 0, none⟩) len c rfl ?_; intro w6 p6 on6; have hb6 := new_below _ on6; replace HB := hide (bt HB.out hb6); replace HP := hide (HP.out.kept hb6); replace hr5 := hide (hr5.out.below hb6); replace p6 := hide p6; clear on6 hb6))
    generalize w5.heap.size = B6 at p6 ⊢
    have HV := hide (show VB w s d h k (some ⟨b, off, none⟩) len cap B6 src dst g c w6 from ⟨HP.out, p6.out, HB.out⟩)
    clear HP p6 HB HT
    have n1 := HV.out.1.hop
    have n2 := HV.out.1.kind
    have n3 := HV.out.1.body
    obtain ⟨-, -, l2, l3, -, l5⟩ := HV.out.2.1.all
    have q1 : ((len : Int) != (len : Int)) = false := by simp
    have q2 : (h - 1 != h - 1) = false := by simp
    have q3 : (k != k) = false := by simp
    go_upto_region 12 with fail
    clear n1 n2 n3 l2 l3 l5 q1 q2 q3
    rcases hk with rfl | rfl
    case' inl =>
      replace HSAME := hide (show ∀ j, j ≠ 16 → j ≠ 17 → zs.getD j 0 = Z4.getD j 0 from HSAME.out)
    case' inr =>
      replace HSAME := hide (show ∀ j, j ≠ 6 → j ≠ 7 → zs.getD j 0 = Z4.getD j 0 from HSAME.out)
    case inl =>
      have l4 := HV.out.1.kind
      go_wp2
      clear l4
      go_loopw [16] (fun i wr => ∃ m : Nat, m ≤ len ∧ i = .int .i64 m ∧ Hid (VB w s d h 6 (some ⟨b, off, none⟩) len cap B6 src dst g c wr) ∧ Hid (Row8 wr (some ⟨g, 0, none⟩) len c Z4)) (fun i _ => len - (intOf i).toNat)
      case atStart => exact ⟨0, by omega, rfl, HV, hr5⟩
      case round =>
        clear HV hr5
        obtain ⟨m, hm, rfl, HV, hr5⟩ := hrel
        have l5 := HV.out.1.body
        obtain ⟨-, -, -, -, -, l6⟩ := HV.out.2.1.all
        by_cases hlt : m < len
        · have j1 : (m : Int) < (len : Int) := by omega
          have j0 : (0 : Int) ≤ (m : Int) := by omega
          by_cases e1 : m = 16
          · subst e1
            go_upto_region 17 with fail
            go_quiet (fail)
            have hbq := drewN_below wr nq
            replace HV := hide (HV.out.kept hbq)
            replace hr5 := hide (hr5.out.below hbq)
            clear hbq l5 l6
            generalize wr.drewN nq = wq at HV hr5 ⊢
            go_wp2_with fail
            go_roundw
            case rel => exact ⟨17, by omega, by go_num, HV, hr5⟩
            case measure => simp [intOf]; omega
          · by_cases e2 : m = 17
            · subst e2
              go_upto_region 17 with fail
              go_quiet (fail)
              have hbq := drewN_below wr nq
              replace HV := hide (HV.out.kept hbq)
              replace hr5 := hide (hr5.out.below hbq)
              clear hbq l5 l6
              generalize wr.drewN nq = wq at HV hr5 ⊢
              go_wp2_with fail
              go_roundw
              case rel => exact ⟨18, by omega, by go_num, HV, hr5⟩
              case measure => simp [intOf]; omega
            · have t1 : (((m : Nat) : Int) != 16) = true := by simp; omega
              have t2 : (((m : Nat) : Int) != 17) = true := by simp; omega
              have HEQ := HSAME.out m e1 e2
              obtain ⟨v, hv⟩ : ∃ v, zs.getD m 0 = v := ⟨_, rfl⟩
              have y0 := (HR.out.below HV.out.2.2).atv m hlt v hv
              have y1 := hr5.out.atv m hlt v (HEQ.symm.trans hv)
              rw [Nat.zero_add] at y1
              have t3 : (v != v) = false := by simp
              clear HEQ hv
              go_upto_region 17 with fail
              go_quiet (fail)
              have hbq := drewN_below wr nq
              replace HV := hide (HV.out.kept hbq)
              replace hr5 := hide (hr5.out.below hbq)
              clear hbq l5 l6 y0 y1 t1 t2 t3
              generalize wr.drewN nq = wq at HV hr5 ⊢
              go_wp2_with fail
              go_roundw
              case rel => exact ⟨m + 1, by omega, by go_num, HV, hr5⟩
              case measure => simp [intOf]; omega
        · obtain rfl : len = m := by omega
          clear hlt hm HSAME
          go_upto_region 20 with (first
            | (refine V4.at_load rfl (.tmp 13) rfl rfl HV.out.2.1 ?_)
            | (go_at_call 14; refine (HEN.out _ _ _ hr5.out).mono ?_; rintro e w7 ⟨g7, c7, rfl, hc7, hm7, -, hr7, hb7⟩; replace HV := hide (HV.out.kept hb7); replace hr5 := hide (hr5.out.below hb7); replace hc7 := hide hc7; replace hm7 := hide hm7; replace hr7 := hide hr7; clear hb7 l5 l6))
          go_upto_region 21 with (first
            | (go_at_call 15; refine (HDE.out _ _ _ _ hr7.out hc7.out hm7.out).mono ?_; rintro e w8 ⟨a8, n8, c8, rfl, hr8, hb8⟩; replace HV := hide (HV.out.kept hb8); replace hr5 := hide (hr5.out.below hb8); replace hr8 := hide hr8; clear hb8 hr7 hc7 hm7)
            | (refine V4.at_store rfl (.tmp 19) (.tmp 146) rfl rfl (HZ.out w8) src dst (h - 1) 6 0 a8 n8 c8 rfl ?_; intro w9 p9 on9; have hb9 := new_below _ on9; replace HV := hide (HV.out.kept hb9); replace hr5 := hide (hr5.out.below hb9); replace hr8 := hide (hr8.out.below hb9); replace p9 := hide p9; clear hb9 on9))
          generalize w8.heap.size = B9 at p9 ⊢
          go_upto_region 22 with (first
            | (refine V4.at_load rfl (.tmp 19) rfl rfl p9.out ?_)
            | (refine V4.at_load rfl (.tmp 13) rfl rfl HV.out.2.1 ?_)
            | (go_at_call 8; refine (HSM.out _ _ _ _ _ _ _ hr8.out hr5.out).mono ?_; rintro e w10 ⟨rfl, hb10⟩; replace HV := hide (HV.out.kept hb10); replace hr5 := hide (hr5.out.below hb10); clear hb10 hr8 p9))
          go_upto_region 24 with fail
          by_cases hh : h < 3
          · have HDD' := hide (HDD.out hh)
            clear HDD HBK
            go_upto_region 25 with (first
              | (refine V4.at_load rfl (.tmp 13) rfl rfl HV.out.2.1 ?_)
              | (refine V6.at_src rfl (.tmp 163) rfl rfl HV.out.1 ?_)
              | (refine V6.at_dst rfl (.tmp 165) rfl rfl HV.out.1 ?_)
              | (go_at_call 10; refine (HDD'.out _ _ _ hr5.out hc1.out hc2.out).mono ?_; rintro e w11 ⟨rfl, hb11⟩; replace HV := hide (HV.out.kept hb11); clear hb11)
              | (refine V6.at_store rfl (.tmp 22) (.tmp 168) rfl rfl (HZ6.out w11) [] [] 0 0 none 0 0 rfl ?_; intro w12 p12 on12; have hb12 := new_below _ on12; replace HV := hide (HV.out.kept hb12); clear hb12 on12 p12))
            have l3 := HV.out.1.hop
            go_wp2_with (go_at_call 7; refine (HT7.out _ (HG.out.below HV.out.2.2)).mono ?_; rintro e w13 ⟨rfl, hb13⟩; replace HV := hide (HV.out.kept hb13); clear hb13)
            go_ret
            exact ⟨rfl, HV.out.2.2⟩
          · have HBK' := hide (HBK.out (by omega))
            clear HDD HBK
            go_upto_region 25 with (first
              | (refine V4.at_load rfl (.tmp 13) rfl rfl HV.out.2.1 ?_)
              | (refine V6.at_src rfl (.tmp 163) rfl rfl HV.out.1 ?_)
              | (refine V6.at_dst rfl (.tmp 165) rfl rfl HV.out.1 ?_)
              | (go_at_call 10; refine (HBK'.out _ _ _ hr5.out hc1.out hc2.out).mono ?_; rintro e w11 ⟨a11, c11, rfl, hr11, hb11⟩; replace HV := hide (HV.out.kept hb11); replace hr11 := hide hr11; clear hb11)
              | (refine V6.at_store rfl (.tmp 22) (.tmp 168) rfl rfl (HZ6.out w11) s d (h - 2) 6 a11 len c11 rfl ?_; intro w12 p12 on12; have hb12 := new_below _ on12; replace HV := hide (HV.out.kept hb12); replace hr11 := hide (hr11.out.below hb12); replace p12 := hide p12; clear hb12 on12))
            generalize w11.heap.size = B12 at p12 ⊢
            have x1 := p12.out.hsrc
            have x2 := HV.out.1.hsrc
            have y1 := p12.out.hdst
            have y2 := HV.out.1.hdst
            have z1 := p12.out.hop
            have z2 := HV.out.1.hop
            have u1 := p12.out.kind
            have u2 := HV.out.1.kind
            have k1 := p12.out.body
            have k2 := HV.out.1.body
            have v1 := conv8 hr11.out
            have v2 := conv8 (HR.out.below HV.out.2.2)
            have q := str8_eq HR.out.2.2.1 HR.out.2.2.1 true (by simp)
            have qs := V6.eq_same s
            have qd := V6.eq_same d
            have qh : (h - 2 == h - 2) = true := by simp
            go_wp2
            go_ret
            exact ⟨rfl, HV.out.2.2⟩
    case inr =>
      have l4 := HV.out.1.kind
      go_wp2
      clear l4
      go_loopw [16] (fun i wr => ∃ m : Nat, m ≤ len ∧ i = .int .i64 m ∧ Hid (VB w s d h 17 (some ⟨b, off, none⟩) len cap B6 src dst g c wr) ∧ Hid (Row8 wr (some ⟨g, 0, none⟩) len c Z4)) (fun i _ => len - (intOf i).toNat)
      case atStart => exact ⟨0, by omega, rfl, HV, hr5⟩
      case round =>
        clear HV hr5
        obtain ⟨m, hm, rfl, HV, hr5⟩ := hrel
        have l5 := HV.out.1.body
        obtain ⟨-, -, -, -, -, l6⟩ := HV.out.2.1.all
        by_cases hlt : m < len
        · have j1 : (m : Int) < (len : Int) := by omega
          have j0 : (0 : Int) ≤ (m : Int) := by omega
          by_cases e1 : m = 6
          · subst e1
            go_upto_region 17 with fail
            go_quiet (fail)
            have hbq := drewN_below wr nq
            replace HV := hide (HV.out.kept hbq)
            replace hr5 := hide (hr5.out.below hbq)
            clear hbq l5 l6
            generalize wr.drewN nq = wq at HV hr5 ⊢
            go_wp2_with fail
            go_roundw
            case rel => exact ⟨7, by omega, by go_num, HV, hr5⟩
            case measure => simp [intOf]; omega
          · by_cases e2 : m = 7
            · subst e2
              go_upto_region 17 with fail
              go_quiet (fail)
              have hbq := drewN_below wr nq
              replace HV := hide (HV.out.kept hbq)
              replace hr5 := hide (hr5.out.below hbq)
              clear hbq l5 l6
              generalize wr.drewN nq = wq at HV hr5 ⊢
              go_wp2_with fail
              go_roundw
              case rel => exact ⟨8, by omega, by go_num, HV, hr5⟩
              case measure => simp [intOf]; omega
            · have t1 : (((m : Nat) : Int) != 6) = true := by simp; omega
              have t2 : (((m : Nat) : Int) != 7) = true := by simp; omega
              have HEQ := HSAME.out m e1 e2
              obtain ⟨v, hv⟩ : ∃ v, zs.getD m 0 = v := ⟨_, rfl⟩
              have y0 := (HR.out.below HV.out.2.2).atv m hlt v hv
              have y1 := hr5.out.atv m hlt v (HEQ.symm.trans hv)
              rw [Nat.zero_add] at y1
              have t3 : (v != v) = false := by simp
              clear HEQ hv
              go_upto_region 17 with fail
              go_quiet (fail)
              have hbq := drewN_below wr nq
              replace HV := hide (HV.out.kept hbq)
              replace hr5 := hide (hr5.out.below hbq)
              clear hbq l5 l6 y0 y1 t1 t2 t3
              generalize wr.drewN nq = wq at HV hr5 ⊢
              go_wp2_with fail
              go_roundw
              case rel => exact ⟨m + 1, by omega, by go_num, HV, hr5⟩
              case measure => simp [intOf]; omega
        · obtain rfl : len = m := by omega
          clear hlt hm HSAME
          go_upto_region 20 with (first
            | (refine V4.at_load rfl (.tmp 13) rfl rfl HV.out.2.1 ?_)
            | (go_at_call 14; refine (HEN.out _ _ _ hr5.out).mono ?_; rintro e w7 ⟨g7, c7, rfl, hc7, hm7, -, hr7, hb7⟩; replace HV := hide (HV.out.kept hb7); replace hr5 := hide (hr5.out.below hb7); replace hc7 := hide hc7; replace hm7 := hide hm7; replace hr7 := hide hr7; clear hb7 l5 l6))
          go_upto_region 21 with (first
            | (go_at_call 15; refine (HDE.out _ _ _ _ hr7.out hc7.out hm7.out).mono ?_; rintro e w8 ⟨a8, n8, c8, rfl, hr8, hb8⟩; replace HV := hide (HV.out.kept hb8); replace hr5 := hide (hr5.out.below hb8); replace hr8 := hide hr8; clear hb8 hr7 hc7 hm7)
            | (refine V4.at_store rfl (.tmp 19) (.tmp 146) rfl rfl (HZ.out w8) src dst (h - 1) 17 0 a8 n8 c8 rfl ?_; intro w9 p9 on9; have hb9 := new_below _ on9; replace HV := hide (HV.out.kept hb9); replace hr5 := hide (hr5.out.below hb9); replace hr8 := hide (hr8.out.below hb9); replace p9 := hide p9; clear hb9 on9))
          generalize w8.heap.size = B9 at p9 ⊢
          go_upto_region 22 with (first
            | (refine V4.at_load rfl (.tmp 19) rfl rfl p9.out ?_)
            | (refine V4.at_load rfl (.tmp 13) rfl rfl HV.out.2.1 ?_)
            | (go_at_call 8; refine (HSM.out _ _ _ _ _ _ _ hr8.out hr5.out).mono ?_; rintro e w10 ⟨rfl, hb10⟩; replace HV := hide (HV.out.kept hb10); replace hr5 := hide (hr5.out.below hb10); clear hb10 hr8 p9))
          go_upto_region 24 with fail
          by_cases hh : h < 3
          · have HDD' := hide (HDD.out hh)
            clear HDD HBK
            go_upto_region 25 with (first
              | (refine V4.at_load rfl (.tmp 13) rfl rfl HV.out.2.1 ?_)
              | (refine V6.at_src rfl (.tmp 163) rfl rfl HV.out.1 ?_)
              | (refine V6.at_dst rfl (.tmp 165) rfl rfl HV.out.1 ?_)
              | (go_at_call 10; refine (HDD'.out _ _ _ hr5.out hc1.out hc2.out).mono ?_; rintro e w11 ⟨rfl, hb11⟩; replace HV := hide (HV.out.kept hb11); clear hb11)
              | (refine V6.at_store rfl (.tmp 22) (.tmp 168) rfl rfl (HZ6.out w11) [] [] 0 0 none 0 0 rfl ?_; intro w12 p12 on12; have hb12 := new_below _ on12; replace HV := hide (HV.out.kept hb12); clear hb12 on12 p12))
            have l3 := HV.out.1.hop
            go_wp2_with (go_at_call 7; refine (HT7.out _ (HG.out.below HV.out.2.2)).mono ?_; rintro e w13 ⟨rfl, hb13⟩; replace HV := hide (HV.out.kept hb13); clear hb13)
            go_ret
            exact ⟨rfl, HV.out.2.2⟩
          · have HBK' := hide (HBK.out (by omega))
            clear HDD HBK
            go_upto_region 25 with (first
              | (refine V4.at_load rfl (.tmp 13) rfl rfl HV.out.2.1 ?_)
              | (refine V6.at_src rfl (.tmp 163) rfl rfl HV.out.1 ?_)
              | (refine V6.at_dst rfl (.tmp 165) rfl rfl HV.out.1 ?_)
              | (go_at_call 10; refine (HBK'.out _ _ _ hr5.out hc1.out hc2.out).mono ?_; rintro e w11 ⟨a11, c11, rfl, hr11, hb11⟩; replace HV := hide (HV.out.kept hb11); replace hr11 := hide hr11; clear hb11)
              | (refine V6.at_store rfl (.tmp 22) (.tmp 168) rfl rfl (HZ6.out w11) s d (h - 2) 17 a11 len c11 rfl ?_; intro w12 p12 on12; have hb12 := new_below _ on12; replace HV := hide (HV.out.kept hb12); replace hr11 := hide (hr11.out.below hb12); replace p12 := hide p12; clear hb12 on12))
            generalize w11.heap.size = B12 at p12 ⊢
            have x1 := p12.out.hsrc
            have x2 := HV.out.1.hsrc
            have y1 := p12.out.hdst
            have y2 := HV.out.1.hdst
            have z1 := p12.out.hop
            have z2 := HV.out.1.hop
            have u1 := p12.out.kind
            have u2 := HV.out.1.kind
            have k1 := p12.out.body
            have k2 := HV.out.1.body
            have v1 := conv8 hr11.out
            have v2 := conv8 (HR.out.below HV.out.2.2)
            have q := str8_eq HR.out.2.2.1 HR.out.2.2.1 true (by simp)
            have qs := V6.eq_same s
            have qd := V6.eq_same d
            have qh : (h - 2 == h - 2) = true := by simp
            go_wp2
            go_ret
            exact ⟨rfl, HV.out.2.2⟩
end Go.Proofs.YtfjnioninjllkaaDoor
