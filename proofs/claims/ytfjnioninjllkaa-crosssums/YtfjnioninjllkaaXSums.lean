/- The statement's function CrossSums returns true, whatever the packet and the addresses. -/
import Derived.Test.YtfjnioninjllkaaXSumsM
import Derived.BigQuiet
namespace Go.Proofs.Ytfjnioninjllkaa
open Go.RowKit

theorem swap_any (x y z : Int) (hx : 0 ≤ x ∧ x ≤ 65535) (hy : 0 ≤ y ∧ y ≤ 65535) (hz : 0 ≤ z ∧ z ≤ 65535) (w : World) :
    Calls Try.prog 4 #[.int .i64 x, .int .i64 y, .int .i64 z] w fun e w' => ∃ v, e = .returned (.tuple #[.int .i64 v, .nilIface]) ∧ (0 ≤ v ∧ v ≤ 65535) ∧ (v - (x + y - z)) % 65535 = 0 ∧ Below w.heap.size w w' :=
  (swap_ok x y z w ⟨hx, hy, hz⟩).mono fun _ _ ⟨h1, h2⟩ => ⟨sw x y z, h1, (sw_spec x y z hx hy hz).1, (sw_spec x y z hx hy hz).2, h2⟩
theorem swap_fact (w : World) : Calls Try.prog 4 #[.int .i64 65535, .int .i64 0, .int .i64 1] w fun e w' => e = .returned (.tuple #[.int .i64 65534, .nilIface]) ∧ Below w.heap.size w w' :=
  swap_ok 65535 0 1 w ⟨by unfold Word; omega, by unfold Word; omega, by unfold Word; omega⟩
theorem V6.PkIn.srcAt {B : Nat} {s d : List Int} {h k : Int} {a : Option Addr} {len cap : Nat} {w : World} (p : V6.PkIn B s d h k a len cap w) (m : Nat) (hm : m < 8) : w.cell? ⟨B, m, none⟩ = some (.int .i64 (el s m)) := by
  rw [p.cellAt]
  rcases (by omega : m = 0 ∨ m = 1 ∨ m = 2 ∨ m = 3 ∨ m = 4 ∨ m = 5 ∨ m = 6 ∨ m = 7) with rfl | rfl | rfl | rfl | rfl | rfl | rfl | rfl <;> rfl
theorem V6.PkIn.dstAt {B : Nat} {s d : List Int} {h k : Int} {a : Option Addr} {len cap : Nat} {w : World} (p : V6.PkIn B s d h k a len cap w) (m : Nat) (hm : m < 8) : w.cell? ⟨B, 8 + m, none⟩ = some (.int .i64 (el d m)) := by
  rw [p.cellAt]
  rcases (by omega : m = 0 ∨ m = 1 ∨ m = 2 ∨ m = 3 ∨ m = 4 ∨ m = 5 ∨ m = 6 ∨ m = 7) with rfl | rfl | rfl | rfl | rfl | rfl | rfl | rfl <;> rfl
theorem nw_hi (src dst : Int) (m : Nat) (h : 4 ≤ m) : nw src dst m = 0 := by unfold nw; rw [List.getD_eq_getElem?_getD, List.getElem?_eq_none (by simpa using h)]; rfl
theorem nw_in (src dst : Int) (h1 : 0 ≤ src ∧ src ≤ 4294967295) (h2 : 0 ≤ dst ∧ dst ≤ 4294967295) (m : Nat) : 0 ≤ nw src dst m ∧ nw src dst m ≤ 65535 := by
  by_cases h : 4 ≤ m
  · rw [nw_hi src dst m h]; omega
  · rcases (by omega : m = 0 ∨ m = 1 ∨ m = 2 ∨ m = 3) with rfl | rfl | rfl | rfl <;> simp only [nw, List.getD_cons_zero, List.getD_cons_succ] <;> omega
theorem Row8.atv {w : World} {b off len cap : Nat} {zs : List Int} (r : Row8 w (some ⟨b, off, none⟩) len cap zs) (i : Nat) (hi : i < len) (v : Int) (hv : zs.getD i 0 = v) : w.cell? ⟨b, off + i, none⟩ = some (.int .u8 v) := by
  obtain ⟨b', off', e, hc⟩ := r.2.2.2.2 (by omega)
  injection e with e; injection e with e1 e2
  rw [e1, e2, hc i hi, hv]
theorem drewN_below (w : World) (n : Nat) : Below w.heap.size w (w.drewN n) := ⟨rfl, rfl, rfl, Nat.le_refl _, fun _ _ => rfl⟩
/-- what holds at the loop. -/
def Ps (w : World) (s d : List Int) (h k : Int) (a : Option Addr) (len cap : Nat) (BN : Nat) (src dst : Int) (W : World) : Prop := V6.PkIn w.heap.size s d h k a len cap W ∧ Ints BN [src / 65536, src % 65536, dst / 65536, dst % 65536] W ∧ Below w.heap.size w W
theorem Ps.kept {w : World} {s d : List Int} {h k : Int} {a : Option Addr} {len cap BN : Nat} {src dst : Int} {W W' : World} (p : Ps w s d h k a len cap BN src dst W) (hb : Below W.heap.size W W') : Ps w s d h k a len cap BN src dst W' := ⟨p.1.kept hb, p.2.1.kept hb, bt p.2.2 hb⟩
/-- a packet's two bytes of the check. -/
theorem Body.at {k p : Int} {len : Nat} {zs z D : List Int} (B : Body k p len zs z D) : zs.getD (cn k) 0 = sck z p D / 256 ∧ zs.getD (cn k + 1) 0 = sck z p D % 256 := by
  have := eb_at z p D
  rw [B.bytes, B.kind] at this
  exact this

set_option maxRecDepth 100000 in
set_option maxHeartbeats 8000000 in
theorem sums_walk (s d : List Int) (h k : Int) (a : Option Addr) (len cap : Nat) (zs : List Int) (src dst : Int) (w : World) (hr : Row8 w a len cap zs) (hcl : len ≤ cap) (hcm : cap ≤ maxLen) :
    Calls Try.prog 3 #[V6.pk s d h k a len cap, .int .i64 src, .int .i64 dst] w fun e w' => e = .returned (.bool true) ∧ Below w.heap.size w w' := by
  have hdich := to4_dich s d h k a len cap zs src dst w hr hcl hcm
  have HB := hide (al_below w (.cells (V6.pkC s d h k a len cap) 26))
  have HP := hide (V6.pk_new w s d h k a len cap)
  have HZ := hide V4.zero_new
  have HF := hide swap_fact
  unfold V4.zero4 at HZ
  rcases hdich with ⟨j, HT⟩ | ⟨z, D, ho, hl, f1, f2, h2, B, HT⟩
  · replace HT := hide HT
    clear hr hcl hcm
    unfold V6.pk V4.pk0 err at HT
    unfold V6.pk
    go_enter Try.func3, Try.ntmps3
    go_upto_region 1 with fail
    generalize w.alloc _ = W0 at HB HP ⊢
    go_upto_region 4 with (go_at_call 4; refine (HF.out _).mono ?_; rintro e w1 ⟨rfl, hb1⟩; replace HB := hide (bt HB.out hb1); replace HP := hide (HP.out.kept hb1); clear hb1)
    go_wp2_with (first
      | (refine V6.at_load rfl (.tmp 3) rfl rfl HP.out ?_)
      | (go_at_call 5; refine (HT.out _ HB.out).mono ?_; rintro e w2 ⟨rfl, hb2⟩; replace HB := hide (bt HB.out hb2); clear hb2)
      | (refine V4.at_store rfl (.tmp 9) (.tmp 33) rfl rfl (HZ.out w2) 0 0 0 0 0 none 0 0 rfl ?_; intro w3 p3 on3; replace HB := hide (bt HB.out (new_below _ on3)); clear on3 p3))
    go_ret
    exact ⟨rfl, HB.out⟩
  · have hpos := hn_pos k
    have hsz := B.size
    have hcnk := cn_lt k
    obtain ⟨b, off, rfl, hcs⟩ := hr.2.2.2.2 (by omega)
    have HR := hide hr
    have hat := B.at
    have hat4 := (B.other (q := o4 src dst k len)).at
    have HO4 := hide (eb_oct z (o4 src dst k len) D B.oct (o4_in src dst k len))
    have i6 := sck_in z (o6 s d k len) D B.oct (o6_in s d k len ho.1 ho.2.1)
    have i4 := sck_in z (o4 src dst k len) D B.oct (o4_in src dst k len)
    have HM := hide (fun c hc he => sums_meet s d src dst k len z D c ho.1 ho.2.1 f1 f2 ho.2.2.2 hl B.oct hc he)
    have g1 := up_true f1
    have g2 := up_true f2
    have HNW := hide (nw_in src dst g1 g2)
    have HO6 := hide (show Ok6 s ∧ Ok6 d from ⟨ho.1, ho.2.1⟩)
    have hk := (kn_iff _).1 (okg_kn B.okg)
    rw [B.kind] at hk
    generalize sck z (o6 s d k len) D = C6 at hat i6 HM
    generalize sck z (o4 src dst k len) D = C4 at hat4 i4 HM
    generalize eb z (o4 src dst k len) D = Z4 at HT hat4 HO4
    have HI6 := hide i6
    have HC6 := hide (show 256 * (C6 / 256) + C6 % 256 = C6 by omega)
    have HC4 := hide (show 256 * (C4 / 256) + C4 % 256 = C4 by omega)
    have x60 : 0 ≤ C6 / 256 ∧ C6 / 256 ≤ 255 := by omega
    have x61 : 0 ≤ C6 % 256 ∧ C6 % 256 ≤ 255 := by omega
    have x40 : 0 ≤ C4 / 256 ∧ C4 / 256 ≤ 255 := by omega
    have x41 : 0 ≤ C4 % 256 ∧ C4 % 256 ≤ 255 := by omega
    generalize C6 / 256 = p0 at hat HC6 x60
    generalize C6 % 256 = p1 at hat HC6 x61
    generalize C4 / 256 = q0 at hat4 HC4 x40
    generalize C4 % 256 = q1 at hat4 HC4 x41
    have HCS := hide hcs
    replace HT := hide HT
    have hlen : len ≤ 320 := hl
    clear hcs hr hcl hcm ho f1 f2 B i6 i4 hl h2
    unfold V6.pk V4.pk at HT
    unfold V6.pk
    rcases hk with rfl | rfl
    case' inl =>
      have hlb : 18 ≤ len := by have : hn 6 = 20 := rfl; omega
      replace hat : zs.getD 16 0 = p0 ∧ zs.getD 17 0 = p1 := hat
      replace hat4 : Z4.getD 16 0 = q0 ∧ Z4.getD 17 0 = q1 := hat4
    case' inr =>
      have hlb : 8 ≤ len := by have : hn 17 = 8 := rfl; omega
      replace hat : zs.getD 6 0 = p0 ∧ zs.getD 7 0 = p1 := hat
      replace hat4 : Z4.getD 6 0 = q0 ∧ Z4.getD 7 0 = q1 := hat4
    all_goals
      clear hpos hsz hcnk
      go_enter Try.func3, Try.ntmps3
      go_upto_region 1 with fail
      generalize w.alloc _ = W0 at HB HP ⊢
      go_upto_region 4 with (go_at_call 4; refine (HF.out _).mono ?_; rintro e w1 ⟨rfl, hb1⟩; replace HB := hide (bt HB.out hb1); replace HP := hide (HP.out.kept hb1); clear hb1)
      go_upto_region 5 with (first
        | (refine V6.at_load rfl (.tmp 3) rfl rfl HP.out ?_)
        | (go_at_call 5; refine (HT.out _ HB.out).mono ?_; rintro e w2 ⟨g, c, rfl, hc1, hc2, hr2, hb2⟩; replace HB := hide (bt HB.out hb2); replace HP := hide (HP.out.kept hb2); replace hr2 := hide hr2; clear hb2)
        | (refine V4.at_store rfl (.tmp 9) (.tmp 33) rfl rfl (HZ.out w2) src dst (h - 1) _ 0 (some ⟨g, 0, none⟩) len c rfl ?_; intro w3 p3 on3; have hb3 := hide (new_below _ on3); replace HB := hide (bt HB.out hb3.out); replace HP := hide (HP.out.kept hb3.out); replace hr2 := hide (hr2.out.below hb3.out); replace p3 := hide p3; clear on3 hb3))
      generalize w2.heap.size = B4 at p3 ⊢
      have l4 := HP.out.kind
      go_upto_region 10 with fail
      clear l4
      have l5 := HP.out.body
      first
        | (have y0 := (HR.out.below HB.out).atv 16 (by omega) p0 hat.1; have y1 := (HR.out.below HB.out).atv 17 (by omega) p1 hat.2; have j0 : (16 : Int) < (len : Int) := (by omega); have j1 : (17 : Int) < (len : Int) := (by omega))
        | (have y0 := (HR.out.below HB.out).atv 6 (by omega) p0 hat.1; have y1 := (HR.out.below HB.out).atv 7 (by omega) p1 hat.2; have j0 : (6 : Int) < (len : Int) := (by omega); have j1 : (7 : Int) < (len : Int) := (by omega))
      have r0 : IntKind.i64.wrap p0 = p0 := by rw [IntKind.wrap_i64]; omega
      have r1 : IntKind.i64.wrap p1 = p1 := by rw [IntKind.wrap_i64]; omega
      have r2 : IntKind.i64.wrap (256 * p0) = 256 * p0 := by rw [IntKind.wrap_i64]; omega
      have r3 : IntKind.i64.wrap (256 * p0 + p1) = 256 * p0 + p1 := by rw [IntKind.wrap_i64]; omega
      go_quiet (fail)
      have hbq := drewN_below w3 nq
      replace HB := hide (bt HB.out hbq)
      replace HP := hide (HP.out.kept hbq)
      replace p3 := hide (p3.out.kept hbq)
      replace hr2 := hide (hr2.out.below hbq)
      rw [HC6.out]
      clear hbq l5 y0 y1 r0 r1 r2 r3 hat x60 x61 HC6
      generalize w3.drewN nq = w4 at HB HP p3 hr2 ⊢
      go_upto_region 11 with fail
      obtain ⟨-, -, -, -, -, l5⟩ := p3.out.all
      first
        | (have y0 := hr2.out.atv 16 (by omega) q0 hat4.1; have y1 := hr2.out.atv 17 (by omega) q1 hat4.2)
        | (have y0 := hr2.out.atv 6 (by omega) q0 hat4.1; have y1 := hr2.out.atv 7 (by omega) q1 hat4.2)
      rw [Nat.zero_add] at y0 y1
      have r0 : IntKind.i64.wrap q0 = q0 := by rw [IntKind.wrap_i64]; omega
      have r1 : IntKind.i64.wrap q1 = q1 := by rw [IntKind.wrap_i64]; omega
      have r2 : IntKind.i64.wrap (256 * q0) = 256 * q0 := by rw [IntKind.wrap_i64]; omega
      have r3 : IntKind.i64.wrap (256 * q0 + q1) = 256 * q0 + q1 := by rw [IntKind.wrap_i64]; omega
      go_quiet (fail)
      have hbq := drewN_below w4 nq
      replace HB := hide (bt HB.out hbq)
      replace HP := hide (HP.out.kept hbq)
      rw [HC4.out]
      clear hbq l5 y0 y1 r0 r1 r2 r3 hat4 x40 x41 HC4 p3 hr2 HR HT hc1 hc2 HO4 j0 j1 hlb hlen HCS
      generalize w4.drewN nq = w5 at HB HP ⊢
      have HV := hide (show Ps w s d h _ (some ⟨b, off, none⟩) len cap w5.heap.size src dst (w5.alloc (.cells #[.int .i64 (src / 65536), .int .i64 (src % 65536), .int .i64 (dst / 65536), .int .i64 (dst % 65536)] 3)) from ⟨HP.out.kept (al_below _ _), ints_new w5 [src / 65536, src % 65536, dst / 65536, dst % 65536], bt HB.out (al_below _ _)⟩)
      clear HB HP HF HZ
      go_wp2
      generalize w5.alloc _ = w6 at HV ⊢
      generalize w5.heap.size = BN at HV ⊢
      go_loopw [10, 12, 15] (fun e ch i wr => ∃ (m : Nat) (cv : Int), m ≤ 8 ∧ e = .nilIface ∧ ch = .int .i64 cv ∧ i = .int .i64 m ∧ (0 ≤ cv ∧ cv ≤ 65535) ∧ Hid ((cv - (C6 + (sm s m + sm d m) - sn src dst m)) % 65535 = 0) ∧ Hid (Ps w s d h _ (some ⟨b, off, none⟩) len cap BN src dst wr)) (fun _ _ i _ => 8 - (intOf i).toNat)
      case atStart => exact ⟨0, C6, by omega, rfl, rfl, rfl, HI6.out, (show (C6 - (C6 + (0 + 0) - 0)) % 65535 = 0 by omega), HV⟩
      case round =>
        obtain ⟨m, cv, hm, rfl, rfl, rfl, hcv, HE, HV⟩ := hrel
        by_cases hlt : m < 8
        · have hcs := HV.out.1.srcAt m hlt
          have hcd := HV.out.1.dstAt m hlt
          have hx := HO6.out.1 m hlt
          have hy := HO6.out.2 m hlt
          have HSM := hide (show sm s (m + 1) = sm s m + el s m from rfl)
          have HDM := hide (show sm d (m + 1) = sm d m + el d m from rfl)
          have HNM := hide (show sn src dst (m + 1) = sn src dst m + nw src dst m from rfl)
          have hnn := HNW.out m
          unfold Word at hx hy
          have hcn : 4 ≤ m ∨ (m < 4 ∧ wr.cell? ⟨BN, m, none⟩ = some (.int .i64 (nw src dst m))) := by
            by_cases h4 : m < 4
            · exact .inr ⟨h4, HV.out.2.1.cell m h4⟩
            · exact .inl (by omega)
          have hz0 := fun (h4 : 4 ≤ m) => nw_hi src dst m h4
          generalize el s m = x at hcs hx HSM
          obtain ⟨y, HY0⟩ : ∃ y, el d m = y := ⟨_, rfl⟩
          rw [HY0] at hcd hy HDM
          have HY := hide HY0
          clear HY0
          generalize nw src dst m = nn at HNM hnn hcn hz0
          rcases hcn with h4 | ⟨h4, hcn⟩
          case' inl =>
            obtain rfl := hz0 h4
            clear hz0
          case' inr =>
            clear hz0
          all_goals
            go_upto_region 23 with (go_at_call 4; refine (swap_any cv x _ hcv hx hnn _).mono ?_; rintro e w7 ⟨v7, rfl, hv7, he7, hb7⟩; replace HV := hide (HV.out.kept hb7); replace he7 := hide he7; clear hb7 hcs hcd)
            have hcd := HV.out.1.dstAt m hlt
            rw [show el d m = y from HY.out] at hcd
            go_wp2_with (go_at_call 4; refine (swap_any v7 y 0 hv7 hy (by omega) _).mono ?_; rintro e w8 ⟨v8, rfl, hv8, he8, hb8⟩; replace HV := hide (HV.out.kept hb8); replace he8 := hide he8; clear hb8 hcd)
            go_roundw
            case rel => exact ⟨m + 1, v8, by omega, rfl, rfl, by go_num, hv8, (by have h1 := HE.out; have h2 := he7.out; have h3 := he8.out; show (v8 - (C6 + (sm s (m + 1) + sm d (m + 1)) - sn src dst (m + 1))) % 65535 = 0; rw [HSM.out, HDM.out, HNM.out]; omega), HV⟩
            case measure => simp [intOf]; omega
        · obtain rfl : m = 8 := by omega
          have hmeet := HM.out cv hcv HE.out
          clear HM HE HO6 HNW
          by_cases hq : cv = C4
          · go_wp2
            go_ret
            exact ⟨rfl, HV.out.2.2⟩
          · have hm2 := hmeet.resolve_left hq
            clear hmeet
            obtain ⟨h1, h2⟩ := hm2
            rcases h1 with rfl | rfl <;> rcases h2 with rfl | rfl
            all_goals
              go_wp2
              go_ret
              exact ⟨rfl, HV.out.2.2⟩
end Go.Proofs.Ytfjnioninjllkaa
