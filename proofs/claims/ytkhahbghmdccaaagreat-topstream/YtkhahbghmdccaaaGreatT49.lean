/- TopSums: opened, with what a segment's data has room for; a part of it. -/
import Derived.Test.YtkhahbghmdccaaaGreatT47
import Derived.Test.YtkhahbghmdccaaaGreatT48
import Derived.Below
import Derived.OpenShut
import Derived.Test.YtkhahbghmdccaaaGreatProg
import Derived.WalkKit
import Derived.LaidEql
import Derived.BigQuiet
import Derived.Laws.AppendOwnNone
import Derived.Laws.MakeOwn
import Derived.Deep.RegionLaw
import Derived.Lib.Bytes
import Derived.Deep.MidRow
import Derived.Laws.ResultCell
import Derived.Deep.CutBlock
import Derived.Deep.QuietTactic
import Derived.OwnWalk
import Derived.Deep.RegionHeld3
import Derived.Deep.DrawnRows
import Derived.Laws.StructEq
import Derived.Maps.AppendAt
import Derived.Maps.RangeWalk
import Derived.Stop.Asserts
import Derived.RowKitTokens
import Derived.Test.YtkhahbghmdccaaaGreatShelf
import Derived.Shelf.Abstract
import Derived.Lib.SliceRun
import Derived.Lib.AppendZerosOnto
import Derived.Lib.AppendZeros
import Derived.Laws.CopyOwn
import Derived.RangeFuncNested
import Derived.RangeFuncBound
import Derived.RangeFuncCalls
import Derived.RangeFuncLeaves
import Derived.RangeFuncFrom
import Derived.Shelf.RegionOpen
import Derived.OwnWalkIn
import Derived.TacticsInMore
import Derived.LoopNIn
import Derived.LoopIn
import Derived.Deep.RegionWith
import Derived.ArgAppend
import Derived.Lib.SlBytesConst
import Derived.Lib.AppendStr
import Derived.Deep.Slices
import Derived.ChangeArms
import Derived.WideShapes
import Derived.Deep.Fields
import Derived.ChangeSlices
namespace Go.Proofs.YtkhahbghmdccaaaGreat
open Go.RowKit
set_option linter.unusedVariables false
theorem Own.rooms {base : Nat} {w : World} {a : Option Addr} {n c : Nat} {zs : List Int} (h : Own base w (.slice a n c) zs) : n ≤ c ∧ c ≤ maxLen := by
  rcases h.2.2 with ⟨e, _⟩ | ⟨g, cap, cur, e, _, _, h1, h2, _⟩
  · injection e with _ e2 e3
    subst e2 e3
    exact ⟨Nat.le_refl _, Nat.zero_le _⟩
  · injection e with _ e2 e3
    subst e2 e3
    exact ⟨h1, h2⟩
attribute [local go_sem ↓] gload_shut
set_option maxRecDepth 100000 in
set_option maxHeartbeats 4000000 in
theorem dec_c (k over : Int) (g off len cap : Nat) (zs : List Int) (w : World) (hr : Row8 w (some ⟨g, off, none⟩) len cap zs) (hk : kn k = true) (ho : up 65535 over = true) (h1 : hn k ≤ len) (h2 : len ≤ hn k + 300) (hcl : len ≤ cap) (hcm : cap ≤ maxLen) (hs : sf (rdz k zs) (len - hn k) = 0)
    (r1 r2 : Bool) (ht1 : r1 = true) (ht2 : r2 = true) (hr1 : ((eb (rdz k zs) over (zs.drop (hn k))).take (cn k) = zs.take (cn k) ∧ (eb (rdz k zs) over (zs.drop (hn k))).drop (cn k + 2) = zs.drop (cn k + 2)) ↔ r1 = true) (hr2 : eb (rdz k zs) over (zs.drop (hn k)) = zs ↔ r2 = true) :
    Calls Tryz.prog 86 #[.int .i64 k, .slice (some ⟨g, off, none⟩) len cap, .int .i64 over] w fun e w' => (∃ a' c', e = .returned (.tuple #[.agg (sgC (rdz k zs) a' (len - hn k) c'), .nilIface]) ∧ Row8 w' a' (len - hn k) c' (zs.drop (hn k)) ∧ len - hn k ≤ c' ∧ c' ≤ maxLen) ∧ Below w.heap.size w w' := by
  have hlen := hr.1
  have HB := hide (al_below w (.cells zero7 30))
  have HP := hide (zero_new w)
  have HZ := hide zero_new
  unfold zero7 at HB HP HZ
  have HH := hide (fun W => head_any k W)
  have hh := hn_le k
  have hp : 8 ≤ hn k := by unfold hn; split <;> omega
  have HRow := hide hr
  have HRead := hide (fun W (h : Row8 W (some ⟨g, off, none⟩) len cap zs) => read_any k g off len cap zs W h h1 (by omega) hcl hcm)
  have HE := hide (fun a' c' W (h : Row8 W a' (len - hn k) c' (zs.drop (hn k))) => enc_ok (rdz k zs) a' (len - hn k) c' over (zs.drop (hn k)) W hs ho h)
  have hk0 : el (rdz k zs) 0 = k := by unfold rdz; split <;> rfl
  have HEL := hide (show (eb (rdz k zs) over (zs.drop (hn k))).length = len by rw [eb_len, hk0, List.length_drop, hlen]; omega)
  have HAl := hide (fun gx cx W rx rz hc hm => alike_any k gx 0 len cx g off len cap (eb (rdz k zs) over (zs.drop (hn k))) zs W rx rz h1 h1 hc hcl hm hcm r1 hr1)
  have HSame := hide hr2
  clear hr hr1 hr2 hs hk0
  generalize eb (rdz k zs) over (zs.drop (hn k)) = EB at HE HEL HAl HSame
  generalize zs.drop (hn k) = D at HRead HE ⊢
  generalize hn k = H at HH hh h1 h2 HRead HE hp ⊢
  generalize rdz k zs = Z at HRead HE ⊢
  have hcm' := hcm
  unfold maxLen at hcm'
  have hh' : (H : Int) ≤ 20 := by omega
  have d1 : ¬ (len : Int) < (H : Int) := by omega
  have d2 : ¬ (H : Int) + 300 < (len : Int) := by omega
  go_enter Tryz.func86, Tryz.ntmps86
  go_upto_region 1 with fail
  generalize w.alloc _ = W0 at HB HP ⊢
  go_upto_region 3 with (first
    | (go_at_call 137; refine (known_any _ _).mono ?_; rintro e w' ⟨rfl, rfl⟩)
    | (go_at_call 133; (with_reducible refine (upto1b _ _ _).mono ?_); rintro e w2 ⟨rfl, hb2⟩; replace HB := hide (bt HB.out hb2); replace HP := hide (HP.out.kept hb2); clear hb2))
  go_upto_region 5 with (go_at_call 138; refine (HH.out _).mono ?_; rintro e w' ⟨rfl, rfl⟩)
  have hlW := hide HP.out.lt
  go_upto_region 6 with (first
    | (go_at_call 139; refine (HRead.out _ (HRow.out.below HB.out)).mono ?_; rintro e w1 ⟨a1, c1, rfl, hown1, hb1⟩; replace HB := hide (bt HB.out hb1); replace HP := hide (HP.out.kept hb1); replace hown1 := hide hown1; clear hb1)
    | (refine at_store rfl (.tmp 8) (.tmp 39) rfl rfl (HZ.out w1) Z a1 (len - H) c1 rfl ?_; intro w2 p2 on2; replace p2 := hide p2; replace on2 := hide on2))
  have hB2 : Below w1.heap.size w1 w2 := on2.out.below (al_below w1 _) (Nat.le_refl _)
  replace HB := hide (bt HB.out hB2)
  replace HP := hide (HP.out.kept hB2)
  replace hown1 := hide (hown1.out.kept hB2)
  clear hB2 on2 HZ HRead
  generalize w1.heap.size = B1 at p2 ⊢
  go_upto_region 7 with (first
    | (refine at_load rfl (.tmp 8) rfl rfl p2.out ?_)
    | (go_at_call 85; refine (HE.out a1 c1 _ hown1.out.toRow).mono ?_; rintro e w3 ⟨v, rfl, ho3, hb3⟩; obtain ⟨gE, cE, hv, hE1, hE2, -, -, hrowE⟩ := ho3.form (by rw [HEL.out]; omega); rw [HEL.out] at hE1 hrowE hv; subst hv; replace HB := hide (bt HB.out hb3); replace HP := hide (HP.out.kept hb3); replace p2 := hide (p2.out.kept hb3); replace hown1 := hide (hown1.out.kept hb3); replace hrowE := hide hrowE; clear hb3 ho3))
  subst ht1
  subst ht2
  go_upto_region 9 with (go_at_call 140; refine (HAl.out _ _ _ hrowE.out (HRow.out.below HB.out) hE1 hE2).mono ?_; rintro e w4 ⟨rfl, hb4⟩; replace HB := hide (bt HB.out hb4); replace HP := hide (HP.out.kept hb4); replace p2 := hide (p2.out.kept hb4); replace hown1 := hide (hown1.out.kept hb4); replace hrowE := hide (hrowE.out.below hb4); clear hb4)
  have HEq := hide (equal_any _ _ _ _ _ _ _ _ _ hrowE.out (HRow.out.below HB.out) true ⟨fun _ => rfl, fun _ => HSame.out.2 trivial⟩)
  go_wp2_with (first
    | (go_at_call 62; refine HEq.out.mono ?_; rintro e w6 ⟨rfl, rfl⟩)
    | (refine at_load rfl (.tmp 8) rfl rfl p2.out ?_)
    | (refine at_store rfl (.tmp 6) (.tmp 63) rfl rfl HP.out Z a1 (len - H) c1 rfl ?_; intro w5 p5 on5; replace HB := hide (on5.below HB.out (Nat.le_refl _)); replace hown1 := hide (hown1.out.only on5 (HP.out.ne hown1.out)); replace p5 := hide p5; clear on5))
  try simp only [Exit.inBlock, Exit.then]
  refine bodyPost_ret (results_sg rfl _ _ w.heap.size Z a1 (len - H) c1 rfl p5.out) rfl ?_
  exact ⟨⟨a1, c1, rfl, hown1.out.toRow, hown1.out.rooms⟩, HB.out⟩
theorem dec_anyc (z : List Int) (over : Int) (D : List Int) (W : World) (n : Nat) (a : Option Addr) (c : Nat) (h : Okg z D.length) (ho : up 65535 over = true) (hn0 : n = hn (el z 0) + D.length) (hr : Row8 W a n c (eb z over D)) (h1 : n ≤ c) (h2 : c ≤ maxLen) :
    Calls Tryz.prog 86 #[.int .i64 (el z 0), .slice a n c, .int .i64 over] W fun e w' => ∃ a' l' c', e = .returned (.tuple #[.agg (sgC z a' l' c'), .nilIface]) ∧ Row8 w' a' l' c' D ∧ (l' ≤ c' ∧ c' ≤ maxLen) ∧ Below W.heap.size W w' := by
  obtain ⟨g, off, rfl, _⟩ := hr.2.2.2.2 (by have := hn_pos (el z 0); omega)
  have hz := fun j hj => rd_eb z over D h j hj
  have hd := drop_eb z over D h
  have e2 : n - hn (el z 0) = D.length := by omega
  have hl := h.2.2.1
  have he := eb_congr _ _ hz over D
  refine (dec_c (el z 0) over g off n c (eb z over D) W hr (okg_kn' h) ho (by omega) (by omega) h1 h2 (by rw [e2, sf_congr _ _ hz]; exact (sf_iff _ _).2 h) true true rfl rfl (by rw [hd, he]; simp) (by rw [hd, he]; simp)).mono ?_
  rintro e w' ⟨⟨a', c', q1, q2, q3⟩, hb⟩
  rw [sgC_congr _ _ hz] at q1
  rw [hd] at q2
  exact ⟨a', _, c', q1, q2, q3, hb⟩
attribute [local go_sem ↓] gload_shut gstore_shut V6.hstore_shut pload6_shut pload4_shut pstore4_shut
set_option maxRecDepth 100000 in
set_option maxHeartbeats 4000000 in
theorem opened_c (a : Option Addr) (len cap : Nat) (s d t : Int) (z D : List Int) (w : World) (hr : Row8 w a len cap (p4o s d t z D)) (hcl : len ≤ cap) (hcm : cap ≤ maxLen) (hs : up 4294967295 s = true) (hd : up 4294967295 d = true) (ht : up 255 t = true) (hz : Okg z D.length) :
    Calls Tryz.prog 33 #[.slice a len cap] w fun e w' => ∃ a1 l1 c1 a2 l2 c2, e = .returned (.tuple #[V4.pk s d t (el z 0) 0 a1 l1 c1, .agg (sgC z a2 l2 c2), .bool true]) ∧ (Row8 w' a2 l2 c2 D ∧ l2 ≤ c2 ∧ c2 ≤ maxLen) ∧ Below w.heap.size w w' := by
  have HV := hide (R4.start w)
  unfold V4.zero4 zero7 at HV
  have h20 := hn_le (el z 0)
  have h300 := hz.2.2.1
  obtain ⟨n, hn0⟩ : ∃ n, n = hn (el z 0) + D.length := ⟨_, rfl⟩
  have hni : ((hn (el z 0) : Nat) + (D.length : Int)) = (n : Int) := by omega
  unfold p4o at hr
  rw [hni] at hr
  have hov := o4_in s d (el z 0) n
  have HD := hide (show ∀ W, Below w.heap.size w W → Calls Tryz.prog 17 #[.slice a len cap] W fun e w' => ∃ a' c', e = .returned (.tuple #[V4.pk s d t (el z 0) 0 a' n c', .nilIface]) ∧ Row8 w' a' n c' (eb z (o4 s d (el z 0) n) D) ∧ n ≤ c' ∧ c' ≤ maxLen ∧ Below W.heap.size W w' from fun W hb => (V4.decode_bysb a len cap s d t (el z 0) 0 _ W (hr.below hb) hcl hcm (okp4z hs hd ht hz) (eb_le hz _)).mono fun e w' ⟨a', l', c', e1, ⟨e2, e3, e4⟩, e5⟩ => by
    have hl := e2.1
    rw [eb_len, ← hn0] at hl
    subst hl
    exact ⟨a', c', e1, e2, e3, e4, e5⟩)
  have HOv := hide (fun W => over4_o s d (el z 0) n W hs hd (okg_kind hz) (decide_eq_true ⟨by omega, by omega⟩))
  have HOs := hide (fun W a' c' (r : Row8 W a' n c' (eb z (o4 s d (el z 0) n) D)) (h1 : n ≤ c') (h2 : c' ≤ maxLen) => dec_anyc z (o4 s d (el z 0) n) D W n a' c' hz hov hn0 r h1 h2)
  clear hr hcl hcm hs hd ht hz hov hn0 hni h20 h300
  generalize o4 s d (el z 0) n = ov at HD HOv HOs
  generalize eb z ov D = E at HD HOs
  generalize el z 0 = k at HD HOv HOs ⊢
  have HZ := hide (fun W => V4.zero_new W)
  have HZ7 := hide (fun W => zero_new W)
  unfold V4.zero4 at HZ
  unfold zero7 at HZ7
  go_enter Tryz.func33, Tryz.ntmps33
  go_upto_region 1 with fail
  generalize (World.alloc _ _).alloc _ = W0 at HV ⊢
  go_upto_region 4 with (first
    | (go_at_call 17; refine (HD.out _ HV.out.2.2).mono ?_; rintro e w1 ⟨a1, c1, rfl, r1, k1, k2, hb1⟩; replace HV := hide (HV.out.kept hb1); have HZ1 := hide (HZ.out w1); replace r1 := hide r1; clear hb1)
    | (refine V4.at_store rfl (.tmp 5) (.tmp 12) rfl rfl HZ1.out s d t k 0 a1 n c1 rfl ?_; intro w2 p2 on2; replace HV := hide (HV.out.kept (new_below _ on2)); replace r1 := hide (r1.out.below (new_below _ on2)); replace p2 := hide p2; clear on2))
  clear HZ1
  generalize w1.heap.size = B1 at p2 ⊢
  obtain ⟨l0, l1, l2, l3, -, l5⟩ := p2.out.all
  go_upto_region 7 with (first
    | (go_at_call 82; refine (HOv.out _).mono ?_; rintro e w3 ⟨rfl, hb3⟩; replace HV := hide (HV.out.kept hb3); replace r1 := hide (r1.out.below hb3); replace p2 := hide (p2.out.kept hb3); clear hb3 l0 l1 l2 l3 l5))
  obtain ⟨l0, l1, l2, l3, -, l5⟩ := p2.out.all
  go_upto_region 8 with (first
    | (go_at_call 86; refine (HOs.out _ a1 c1 r1.out k1 k2).mono ?_; rintro e w4 ⟨a4, l4, c4, rfl, r4, hc4, hb4⟩; have HC4 := hide hc4; clear hc4; replace HV := hide (HV.out.kept hb4); replace p2 := hide (p2.out.kept hb4); have HZ4 := hide (HZ7.out w4); replace r4 := hide r4; clear hb4 l0 l1 l2 l3 l5 r1)
    | (refine at_store rfl (.tmp 8) (.tmp 42) rfl rfl HZ4.out z a4 l4 c4 rfl ?_; intro w5 p5 on5; replace HV := hide (HV.out.kept (new_below _ on5)); replace r4 := hide (r4.out.below (new_below _ on5)); replace p2 := hide (p2.out.kept (new_below _ on5)); replace p5 := hide p5; clear on5))
  clear HZ4
  generalize w4.heap.size = C1 at p5 ⊢
  have q1 := pl4 (w := w5.drew) p2.out
  have q2 := SgIn.gl (w := w5.drew) p5.out
  obtain ⟨wa, ha, pa, ona⟩ := held4 (w := w5.drew) HV.out.1 s d t k 0 a1 n c1
  have nC : C1 ≠ w.heap.size := by
    rintro rfl
    have h1 : w5.heap[w.heap.size]? = _ := p5.out
    rw [show w5.heap[w.heap.size]? = _ from HV.out.1] at h1
    injection h1 with h1
    injection h1 with _ h2
    exact absurd h2 (by decide)
  have pC := ona.sg (w := w5.drew) p5.out nC
  have q2a := pC.gl
  obtain ⟨wb, hb, pb, onb⟩ := (ona.sg (w := w5.drew) HV.out.2.1 (by omega)).held z a4 l4 c4
  have HP := hide (show V4.PkIn w.heap.size s d t k 0 a1 n c1 wb from (onb.2.2.2.2 _ (by omega)).trans pa)
  have HS := hide pb
  have HB := hide (onb.below (ona.below (HV.out.2.2.drew) (Nat.le_refl _)) (Nat.le_succ _))
  have HR := hide (((r4.out.below (w' := w5.drew) ⟨rfl, rfl, rfl, Nat.le_refl _, fun _ _ => rfl⟩).pastn (no4 (w := w5.drew) HV.out.1) ona).past (ona.sg (w := w5.drew) HV.out.2.1 (by omega)) onb)
  clear pa ona pb onb pC nC HV p2 p5
  go_region
  all_goals
    go_wp2
    try simp only [Exit.inBlock, Exit.then]
    refine bodyPost_ret (results_p4 rfl _ _ w.heap.size (w.heap.size + 1) s d t k 0 a1 n c1 z a4 l4 c4 rfl rfl HP.out HS.out) rfl ?_
    exact ⟨a1, n, c1, a4, l4, c4, rfl, ⟨HR.out, HC4.out⟩, HB.out⟩
def slr (t : TypeId) (x : Value) (lo hi mx : Option Value) : Sem Value := Instr.sliceAt t x lo hi mx
theorem slr_shut (t : TypeId) (x : Value) (lo hi mx : Option Value) : Instr.sliceAt t x lo hi mx = slr t x lo hi mx := rfl
end Go.Proofs.YtkhahbghmdccaaaGreat
