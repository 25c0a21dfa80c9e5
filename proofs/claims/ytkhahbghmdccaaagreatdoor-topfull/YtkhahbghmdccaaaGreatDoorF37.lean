/- Package gate: open4, by a contract. Package gate: close4 and Close6, by contracts. -/
import Derived.Test.YtkhahbghmdccaaaGreatDoorF11
import Derived.Test.YtkhahbghmdccaaaGreatDoorF34
import Derived.Test.YtkhahbghmdccaaaGreatDoorF36
import Derived.Below
import Derived.OpenShut
import Derived.Test.YtkhahbghmdccaaaGreatDoorProg
import Derived.WalkKit
import Derived.LaidEql
import Derived.BigQuiet
import Derived.Laws.AppendOwnNone
import Derived.Laws.MakeOwn
import Derived.Deep.RegionLaw
import Derived.Lib.Bytes
import Derived.Deep.MidRow
import Derived.Laws.ResultCell
import Derived.Deep.CutBlock
import Derived.Deep.QuietTactic
import Derived.OwnWalk
import Derived.Deep.RegionHeld3
import Derived.Deep.DrawnRows
import Derived.Test.YtkhahbghmdccaaaGreatDoorF07
import Derived.Test.YtkhahbghmdccaaaGreatDoorF08
import Derived.Test.YtkhahbghmdccaaaGreatDoorF10
import Derived.Test.YtkhahbghmdccaaaGreatDoorF33
import Derived.Test.YtkhahbghmdccaaaGreatDoorF35
namespace Go.Proofs.YtkhahbghmdccaaaGreatDoor
open Go.RowKit
def R4 (w W : World) : Prop := V4.PkIn w.heap.size 0 0 0 0 0 none 0 0 W ∧ SgIn (w.heap.size + 1) [] none 0 0 W ∧ Below w.heap.size w W
theorem R4.start (w : World) : R4 w ((w.alloc (.cells V4.zero4 65)).alloc (.cells zero7 39)) := by
  have b1 := al_below w (.cells V4.zero4 65)
  have b2 := al_below (w.alloc (.cells V4.zero4 65)) (.cells zero7 39)
  have p2 := zero_new (w.alloc (.cells V4.zero4 65))
  rw [World.size_alloc] at p2
  exact ⟨(V4.zero_new w).kept b2, p2, bt b1 b2⟩
theorem R4.kept {w W W' : World} (h : R4 w W) (hb : Below W.heap.size W W') : R4 w W' := ⟨h.1.kept hb, h.2.1.kept hb, bt h.2.2 hb⟩
def e4 (zs : List Int) : Int := if 20 ≤ zs.length ∧ zs.length ≤ 340 ∧ P4.wd zs 0 = 69 * 256 ∧ P4.wd zs 2 = zs.length ∧ P4.wd zs 6 = 64 * 256 then 6 else 5
theorem e4_pos (zs : List Int) : e4 zs ≠ 0 := by unfold e4; split <;> decide
def o4s (zs : List Int) : Int × List Int × List Int := oso (zs.getD 9 0) (o4 (P4.src zs) (P4.dst zs) (zs.getD 9 0) ((zs.drop 20).length : Nat)) (zs.getD 8 0) (zs.drop 20)
set_option maxRecDepth 100000 in
set_option maxHeartbeats 4000000 in
theorem open4_bad (a : Option Addr) (len cap : Nat) (zs : List Int) (w : World) (hr : Row8 w a len cap zs) (hcl : len ≤ cap) (hcm : cap ≤ maxLen) (hG : ¬ P4.Good zs) :
    Calls Tryz.prog 75 #[.slice a len cap] w fun e w' => e = .returned (.tuple #[V4.pk 0 0 0 0 0 none 0 0, .agg (sgC [] none 0 0), err (e4 zs)]) ∧ Below w.heap.size w w' := by
  have HV := hide (R4.start w)
  unfold V4.zero4 zero7 at HV
  have HD := hide (show ∀ W, Below w.heap.size w W → Calls Tryz.prog 22 #[.slice a len cap] W fun e w' => e = .returned (.tuple #[V4.pk 0 0 0 0 0 none 0 0, err (e4 zs)]) ∧ Below W.heap.size W w' from fun W hb => (V4.decode_any a len cap zs W (hr.below hb) hcl hcm).mono fun e w' ⟨h, hb'⟩ => by
    rcases h with ⟨h1, h⟩ | ⟨h1, _, h⟩ | ⟨h, _⟩
    · rw [show e4 zs = 5 from if_neg h1]; exact ⟨h, hb'⟩
    · rw [show e4 zs = 6 from if_pos h1]; exact ⟨h, hb'⟩
    · exact absurd h hG)
  generalize e4 zs = E at HD ⊢
  unfold err at HD ⊢
  have HZ := hide (fun W => V4.zero_new W)
  unfold V4.zero4 at HZ
  clear hr hG hcl hcm
  go_enter Tryz.func75, Tryz.ntmps75
  go_upto_region 1 with fail
  generalize (World.alloc _ _).alloc _ = W0 at HV ⊢
  go_upto_region 3 with (first
    | (go_at_call 22; refine (HD.out _ HV.out.2.2).mono ?_; rintro e w1 ⟨rfl, hb1⟩; replace HV := hide (HV.out.kept hb1); have HZ1 := hide (HZ.out w1); clear hb1)
    | (refine V4.at_store rfl (.tmp 5) (.tmp 12) rfl rfl HZ1.out 0 0 0 0 0 none 0 0 rfl ?_; intro w2 p2 on2; replace HV := hide (HV.out.kept (new_below _ on2)); clear on2 p2))
  go_wp2_with (first
    | (refine V4.at_store rfl (.tmp 2) (.tmp 16) rfl rfl HV.out.1 0 0 0 0 0 none 0 0 rfl ?_; intro w5 p5 on5; have HS := hide (on5.sg HV.out.2.1 (by omega)); have HB := hide (on5.below HV.out.2.2 (Nat.le_refl _)); replace p5 := hide p5; clear on5 HV)
    | (refine at_store rfl (.tmp 3) (.tmp 17) rfl rfl HS.out [] none 0 0 rfl ?_; intro w6 p6 on6; replace HB := hide (on6.below HB.out (Nat.le_succ _)); replace p5 := hide (show V4.PkIn _ _ _ _ _ _ _ _ _ w6 from (on6.2.2.2.2 _ (by omega)).trans p5.out); replace p6 := hide p6; clear on6))
  try simp only [Exit.inBlock, Exit.then]
  refine bodyPost_ret (results_p4 rfl _ _ w.heap.size (w.heap.size + 1) 0 0 0 0 0 none 0 0 [] none 0 0 rfl rfl p5.out p6.out) rfl ?_
  exact ⟨rfl, HB.out⟩
attribute [local go_sem ↓] pload4_shut gload_shut pstore4_shut gstore_shut
set_option maxRecDepth 100000 in
set_option maxHeartbeats 4000000 in
theorem open4_good (a : Option Addr) (len cap : Nat) (zs : List Int) (w : World) (hr : Row8 w a len cap zs) (hcl : len ≤ cap) (hcm : cap ≤ maxLen) (hG : P4.Good zs) :
    Calls Tryz.prog 75 #[.slice a len cap] w fun e w' => ∃ a1 l1 c1 a2 l2 c2, e = .returned (.tuple #[V4.pk (P4.src zs) (P4.dst zs) (zs.getD 8 0) (zs.getD 9 0) (P4.wd zs 4) a1 l1 c1, .agg (sgC (o4s zs).2.1 a2 l2 c2), ev (o4s zs).1]) ∧ Row8 w' a2 l2 c2 (o4s zs).2.2 ∧ Below w.heap.size w w' := by
  have HV := hide (R4.start w)
  unfold V4.zero4 zero7 at HV
  have hl := hr.1
  obtain ⟨n, rfl⟩ : ∃ n, len = n + 20 := ⟨len - 20, by have := hG.1.1; omega⟩
  have hnn : n ≤ 320 := by have := hG.1.2.1; omega
  have hbl : (zs.drop 20).length = n := by rw [List.length_drop]; omega
  have HD := hide (show ∀ W, Below w.heap.size w W → Calls Tryz.prog 22 #[.slice a (n + 20) cap] W fun e w' => ∃ a' c', e = .returned (.tuple #[V4.pk (P4.src zs) (P4.dst zs) (zs.getD 8 0) (zs.getD 9 0) (P4.wd zs 4) a' n c', .nilIface]) ∧ Row8 w' a' n c' (zs.drop 20) ∧ n ≤ c' ∧ c' ≤ maxLen ∧ Below W.heap.size W w' from fun W hb => (V4.decode_any a (n + 20) cap zs W (hr.below hb) hcl hcm).mono fun e w' ⟨h, hb'⟩ => by
    rcases h with ⟨h, _⟩ | ⟨_, h, _⟩ | ⟨_, a', c', e1, e2, e3, e4⟩
    · exact absurd hG.1 h
    · exact absurd hG h
    · rw [Nat.add_sub_cancel] at e1 e2 e3
      exact ⟨a', c', e1, e2, e3, e4, hb'⟩)
  have ho := hr.2.2.1
  have hok := V4.okp_read zs ho (by omega)
  have hk := up255 ho 9
  unfold o4s
  rw [hbl]
  have HOv := hide (fun W => over4_o (P4.src zs) (P4.dst zs) (zs.getD 9 0) n W (decide_eq_true hok.1) (decide_eq_true hok.2.1) hk (decide_eq_true ⟨by omega, by omega⟩))
  have hov := o4_in (P4.src zs) (P4.dst zs) (zs.getD 9 0) n
  clear hr hG hcl hcm hok hk ho
  generalize o4 (P4.src zs) (P4.dst zs) (zs.getD 9 0) n = ov at HOv hov ⊢
  generalize P4.src zs = s at HD HOv ⊢
  generalize P4.dst zs = d at HD HOv ⊢
  generalize zs.getD 8 0 = h at HD ⊢
  generalize zs.getD 9 0 = k at HD HOv ⊢
  generalize P4.wd zs 4 = i at HD ⊢
  have HOs := hide (fun W a' c' (r : Row8 W a' n c' (zs.drop 20)) (h1 : n ≤ c') (h2 : c' ≤ maxLen) => openseg_any k ov h a' n c' (zs.drop 20) W r h1 h2 hov)
  generalize oso k ov h (zs.drop 20) = O at HOs ⊢
  have HZ := hide (fun W => V4.zero_new W)
  have HZ7 := hide (fun W => zero_new W)
  unfold V4.zero4 at HZ
  unfold zero7 at HZ7
  clear hov
  go_enter Tryz.func75, Tryz.ntmps75
  go_upto_region 1 with fail
  generalize (World.alloc _ _).alloc _ = W0 at HV ⊢
  go_upto_region 4 with (first
    | (go_at_call 22; refine (HD.out _ HV.out.2.2).mono ?_; rintro e w1 ⟨a1, c1, rfl, r1, k1, k2, hb1⟩; replace HV := hide (HV.out.kept hb1); have HZ1 := hide (HZ.out w1); replace r1 := hide r1; clear hb1)
    | (refine V4.at_store rfl (.tmp 5) (.tmp 12) rfl rfl HZ1.out s d h k i a1 n c1 rfl ?_; intro w2 p2 on2; replace HV := hide (HV.out.kept (new_below _ on2)); replace r1 := hide (r1.out.below (new_below _ on2)); replace p2 := hide p2; clear on2))
  clear HZ1
  generalize w1.heap.size = B1 at p2 ⊢
  obtain ⟨l0, l1, l2, l3, -, l5⟩ := p2.out.all
  go_upto_region 7 with (first
    | (go_at_call 127; refine (HOv.out _).mono ?_; rintro e w3 ⟨rfl, hb3⟩; replace HV := hide (HV.out.kept hb3); replace r1 := hide (r1.out.below hb3); replace p2 := hide (p2.out.kept hb3); clear hb3 l0 l1 l2 l3 l5))
  obtain ⟨l0, l1, l2, l3, -, l5⟩ := p2.out.all
  go_upto_region 8 with (first
    | (go_at_call 117; refine (HOs.out _ a1 c1 r1.out k1 k2).mono ?_; rintro e w4 ⟨a4, l4, c4, rfl, r4, hb4⟩; replace HV := hide (HV.out.kept hb4); replace p2 := hide (p2.out.kept hb4); have HZ4 := hide (HZ7.out w4); replace r4 := hide r4; clear hb4 l0 l1 l2 l3 l5 r1)
    | (refine at_store rfl (.tmp 8) (.tmp 46) rfl rfl HZ4.out O.2.1 a4 l4 c4 rfl ?_; intro w5 p5 on5; replace HV := hide (HV.out.kept (new_below _ on5)); replace r4 := hide (r4.out.below (new_below _ on5)); replace p2 := hide (p2.out.kept (new_below _ on5)); replace p5 := hide p5; clear on5))
  clear HZ4
  generalize w4.heap.size = C1 at p5 ⊢
  have q1 := pl4 (w := w5.drew) p2.out
  have q2 := SgIn.gl (w := w5.drew) p5.out
  obtain ⟨wa, ha, pa, ona⟩ := held4 (w := w5.drew) HV.out.1 s d h k i a1 n c1
  have nC : C1 ≠ w.heap.size := by
    rintro rfl
    have h1 : w5.heap[w.heap.size]? = _ := p5.out
    rw [show w5.heap[w.heap.size]? = _ from HV.out.1] at h1
    injection h1 with h1
    injection h1 with _ h2
    exact absurd h2 (by decide)
  have pC := ona.sg (w := w5.drew) p5.out nC
  have q2a := pC.gl
  obtain ⟨wb, hb, pb, onb⟩ := (ona.sg (w := w5.drew) HV.out.2.1 (by omega)).held O.2.1 a4 l4 c4
  have HP := hide (show V4.PkIn w.heap.size s d h k i a1 n c1 wb from (onb.2.2.2.2 _ (by omega)).trans pa)
  have HS := hide pb
  have HB := hide (onb.below (ona.below (HV.out.2.2.drew) (Nat.le_refl _)) (Nat.le_succ _))
  have HR := hide (((r4.out.below (w' := w5.drew) ⟨rfl, rfl, rfl, Nat.le_refl _, fun _ _ => rfl⟩).pastn (no4 (w := w5.drew) HV.out.1) ona).past (ona.sg (w := w5.drew) HV.out.2.1 (by omega)) onb)
  clear pa ona pb onb pC nC HV p2 p5
  go_region
  all_goals
    go_wp2
    try simp only [Exit.inBlock, Exit.then]
    refine bodyPost_ret (results_p4 rfl _ _ w.heap.size (w.heap.size + 1) s d h k i a1 n c1 O.2.1 a4 l4 c4 rfl rfl HP.out HS.out) rfl ?_
    exact ⟨a1, n, c1, a4, l4, c4, rfl, HR.out, HB.out⟩
end Go.Proofs.YtkhahbghmdccaaaGreatDoor

namespace Go.Proofs.YtkhahbghmdccaaaGreatDoor
open Go.RowKit
theorem okg_len {z : List Int} {n : Nat} (h : Okg z n) : up 320 ((hn (el z 0) : Nat) + (n : Int)) = true := by
  have h1 := hn_le (el z 0)
  have h2 := h.2.2.1
  exact decide_eq_true ⟨by omega, by omega⟩
theorem okg_kind {z : List Int} {n : Nat} (h : Okg z n) : up 255 (el z 0) = true := by
  obtain ⟨_, _, _, h | h⟩ := h
  · exact decide_eq_true ⟨by omega, by omega⟩
  · exact decide_eq_true ⟨by omega, by omega⟩
def q4b (ps : Array (Nat × Value)) : Sem Value := Instr.build 65 ps
theorem q4b_shut (ps : Array (Nat × Value)) : Instr.build 65 ps = q4b ps := rfl
theorem q4b_run (s d t k : Int) (a : Option Addr) (n c : Nat) (w : World) : (q4b #[(0, .int .i64 s), (1, .int .i64 d), (2, .int .i64 t), (3, .int .i64 k), (5, .slice a n c)]).run Tryz.prog w = .ok (V4.pk s d t k 0 a n c) w := by kernel_rfl
def q6b (ps : Array (Nat × Value)) : Sem Value := Instr.build 101 ps
theorem q6b_shut (ps : Array (Nat × Value)) : Instr.build 101 ps = q6b ps := rfl
theorem q6b_run (s d : List Int) (t k : Int) (a : Option Addr) (n c : Nat) (w : World) : (q6b #[(0, .agg (sixC s)), (1, .agg (sixC d)), (2, .int .i64 t), (3, .int .i64 k), (4, .slice a n c)]).run Tryz.prog w = .ok (.agg (V6.pkC s d t k a n c)) w := by kernel_rfl
attribute [local go_sem ↓] q4b_shut q6b_shut
set_option maxRecDepth 100000 in
set_option maxHeartbeats 4000000 in
theorem close4_ok (s d t : Int) (z : List Int) (a : Option Addr) (len cap : Nat) (D : List Int) (w : World) (hs : up 4294967295 s = true) (hd : up 4294967295 d = true) (ht : up 255 t = true) (hz : Okg z len) (hr : Row8 w a len cap D) :
    Calls Tryz.prog 68 #[.int .i64 s, .int .i64 d, .int .i64 t, .agg (sgC z a len cap)] w fun e w' => ∃ v, e = .returned (.tuple #[v, .nilIface]) ∧ Own w.heap.size w' v (V4.bys s d t (el z 0) 0 (eb z (o4 s d (el z 0) ((hn (el z 0) : Nat) + (len : Int))) D)) ∧ Below w.heap.size w w' := by
  have hk := okg_kind hz
  have hL := okg_len hz
  have HSz := hide (fun W => size_ok z a len cap W hz)
  have HOv := hide (fun W => over4_o s d (el z 0) ((hn (el z 0) : Nat) + (len : Int)) W hs hd hk hL)
  have ho := o4_in s d (el z 0) ((hn (el z 0) : Nat) + (len : Int))
  generalize o4 s d (el z 0) ((hn (el z 0) : Nat) + (len : Int)) = ov at HOv ho ⊢
  have HEn := hide (fun W (r : Row8 W a len cap D) => enc_form z a len cap ov D W hz ho r)
  have h20 := hn_le (el z 0)
  have h300 := hz.2.2.1
  have hok : V4.Okp s d t (el z 0) 0 := ⟨up_true hs, up_true hd, up_true ht, up_true hk, by unfold Word; omega⟩
  have HIp := hide (fun W g l c (hl : l = hn (el z 0) + len) (r : Row8 W (some ⟨g, 0, none⟩) l c (eb z ov D)) => V4.encode_ok s d t (el z 0) 0 (some ⟨g, 0, none⟩) l c (eb z ov D) W hok (by omega) r)
  have hbr := fun a n c W => q4b_run s d t (el z 0) a n c W
  unfold V4.pk at HIp hbr
  generalize eb z ov D = E at HEn HIp ⊢
  have HS := hide (sg_new w z a len cap)
  have HB := hide (al_below w (.cells (sgC z a len cap) 39))
  have HR := hide (hr.below HB.out)
  generalize hek : el z 0 = k at HSz HOv HEn HIp HB HS HR h20 hbr ⊢
  have HEK := hide hek
  clear hek
  generalize hH : hn k = H at HSz HOv HEn HIp h20 ⊢
  clear hz hr hok hs hd ht hk hL ho hH
  go_enter Tryz.func68, Tryz.ntmps68
  go_upto_region 1 with fail
  generalize World.alloc _ _ = W0 at HS HB HR ⊢
  go_upto_region 4 with (first
    | (refine at_load rfl (.tmp 7) rfl rfl HS.out ?_)
    | (go_at_call 126; refine (HSz.out _).mono ?_; rintro e w1 ⟨rfl, hb1⟩; replace HS := hide (HS.out.kept hb1); replace HB := hide (bt HB.out hb1); replace HR := hide (HR.out.below hb1); clear hb1))
  have l0 := HS.out.c0
  rw [HEK.out] at l0
  go_upto_region 7 with (go_at_call 127; refine (HOv.out _).mono ?_; rintro e w2 ⟨rfl, hb2⟩; replace HS := hide (HS.out.kept hb2); replace HB := hide (bt HB.out hb2); replace HR := hide (HR.out.below hb2); clear hb2)
  clear l0
  go_upto_region 10 with (first
    | (refine at_load rfl (.tmp 7) rfl rfl HS.out ?_)
    | (go_at_call 89; refine (HEn.out _ HR.out).mono ?_; rintro e w3 ⟨g3, c3, rfl, k1, k2, -, r3, hb3⟩; replace HS := hide (HS.out.kept hb3); replace HB := hide (bt HB.out hb3); have HR5 := hide r3; clear hb3 r3 HR))
  have l0 := HS.out.c0
  rw [HEK.out] at l0
  have HI := hide (HIp.out _ g3 (H + len) c3 rfl HR5.out)
  go_wp2_with (first
    | (go_at_call 70; refine HI.out.mono ?_; rintro e w5 ⟨v5, rfl, o5, hb5⟩; have HO := hide (o5.mono HB.out.size); replace HB := hide (bt HB.out hb5); clear o5 hb5 l0))
  go_ret2
  exact ⟨_, rfl, HO.out, HB.out⟩
set_option maxRecDepth 100000 in
set_option maxHeartbeats 4000000 in
theorem close6_ok (s d : List Int) (t : Int) (z : List Int) (a : Option Addr) (len cap : Nat) (D : List Int) (w : World) (hs : Ok6 s) (hd : Ok6 d) (ht : up 255 t = true) (hz : Okg z len) (hr : Row8 w a len cap D) :
    Calls Tryz.prog 79 #[.agg (sixC s), .agg (sixC d), .int .i64 t, .agg (sgC z a len cap)] w fun e w' => ∃ v, e = .returned (.tuple #[v, .nilIface]) ∧ Own w.heap.size w' v (V6.bys s d t (el z 0) (eb z (o6 s d (el z 0) ((hn (el z 0) : Nat) + (len : Int))) D)) ∧ Below w.heap.size w w' := by
  have hk := okg_kind hz
  have hL := okg_len hz
  have HSz := hide (fun W => size_ok z a len cap W hz)
  have HOv := hide (fun W => over6_ok s d (el z 0) ((hn (el z 0) : Nat) + (len : Int)) W hs hd hk hL)
  have ho := o6_in s d (el z 0) ((hn (el z 0) : Nat) + (len : Int)) hs hd
  generalize o6 s d (el z 0) ((hn (el z 0) : Nat) + (len : Int)) = ov at HOv ho ⊢
  have HEn := hide (fun W (r : Row8 W a len cap D) => enc_form z a len cap ov D W hz ho r)
  have h20 := hn_le (el z 0)
  have h300 := hz.2.2.1
  have hok : V6.Okp s d t (el z 0) := ⟨hs, hd, up_true ht, up_true hk⟩
  have HIp := hide (fun W g l c (hl : l = hn (el z 0) + len) (r : Row8 W (some ⟨g, 0, none⟩) l c (eb z ov D)) => V6.encode_ok s d t (el z 0) (some ⟨g, 0, none⟩) l c (eb z ov D) W hok (by omega) r)
  have hbr := fun a n c W => q6b_run s d t (el z 0) a n c W
  unfold V6.pk at HIp
  generalize eb z ov D = E at HEn HIp ⊢
  have b1 := al_below w (.cells (sixC s) 23)
  have b2 := al_below (w.alloc (.cells (sixC s) 23)) (.cells (sixC d) 23)
  have b3 := al_below ((w.alloc (.cells (sixC s) 23)).alloc (.cells (sixC d) 23)) (.cells (sgC z a len cap) 39)
  have p1 := six_al s w
  have p2 := six_al d (w.alloc (.cells (sixC s) 23))
  have p3 := sg_new ((w.alloc (.cells (sixC s) 23)).alloc (.cells (sixC d) 23)) z a len cap
  rw [World.size_alloc] at p2
  rw [World.size_alloc, World.size_alloc] at p3
  have HP := hide ((p1.kept b2).kept b3)
  have HD := hide (p2.kept b3)
  have HS := hide p3
  have HB := hide (bt (bt b1 b2) b3)
  have HR := hide (hr.below HB.out)
  clear b1 b2 b3 p1 p2 p3
  generalize hek : el z 0 = k at HSz HOv HEn HIp HP HD HB HS HR h20 hbr ⊢
  have HEK := hide hek
  clear hek
  generalize hH : hn k = H at HSz HOv HEn HIp h20 ⊢
  clear hz hr hok hs hd ht hk hL ho hH
  go_enter Tryz.func79, Tryz.ntmps79
  go_upto_region 1 with fail
  generalize ((World.alloc _ _).alloc _).alloc _ = W0 at HP HD HS HB HR ⊢
  go_upto_region 4 with (first
    | (refine at_load rfl (.tmp 7) rfl rfl HS.out ?_)
    | (go_at_call 126; refine (HSz.out _).mono ?_; rintro e w1 ⟨rfl, hb1⟩; replace HP := hide (HP.out.kept hb1); replace HD := hide (HD.out.kept hb1); replace HS := hide (HS.out.kept hb1); replace HB := hide (bt HB.out hb1); replace HR := hide (HR.out.below hb1); clear hb1))
  have l0 := HS.out.c0
  rw [HEK.out] at l0
  go_upto_region 7 with (first
    | (refine at_load6 rfl (.tmp 4) rfl rfl HP.out ?_)
    | (refine at_load6 rfl (.tmp 5) rfl rfl HD.out ?_)
    | (go_at_call 88; refine (HOv.out _).mono ?_; rintro e w2 ⟨rfl, hb2⟩; replace HP := hide (HP.out.kept hb2); replace HD := hide (HD.out.kept hb2); replace HS := hide (HS.out.kept hb2); replace HB := hide (bt HB.out hb2); replace HR := hide (HR.out.below hb2); clear hb2))
  clear l0
  go_upto_region 10 with (first
    | (refine at_load rfl (.tmp 7) rfl rfl HS.out ?_)
    | (go_at_call 89; refine (HEn.out _ HR.out).mono ?_; rintro e w3 ⟨g3, c3, rfl, k1, k2, -, r3, hb3⟩; replace HP := hide (HP.out.kept hb3); replace HD := hide (HD.out.kept hb3); replace HS := hide (HS.out.kept hb3); replace HB := hide (bt HB.out hb3); have HR5 := hide r3; clear hb3 r3 HR))
  have l0 := HS.out.c0
  rw [HEK.out] at l0
  have HI := hide (HIp.out _ g3 (H + len) c3 rfl HR5.out)
  go_wp2_with (first
    | (refine at_load6 rfl (.tmp 4) rfl rfl HP.out ?_)
    | (refine at_load6 rfl (.tmp 5) rfl rfl HD.out ?_)
    | (go_at_call 90; refine HI.out.mono ?_; rintro e w5 ⟨v5, rfl, o5, hb5⟩; have HO := hide (o5.mono HB.out.size); replace HB := hide (bt HB.out hb5); clear o5 hb5 l0))
  go_ret2
  exact ⟨_, rfl, HO.out, HB.out⟩
end Go.Proofs.YtkhahbghmdccaaaGreatDoor
