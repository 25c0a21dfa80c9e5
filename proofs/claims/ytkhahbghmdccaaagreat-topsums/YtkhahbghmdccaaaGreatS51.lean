/- TopSums: opened, with what a segment's data has room for; a part of it. TopSums: what it is told of what went on, and of the answer. -/
import Derived.Test.YtkhahbghmdccaaaGreatS47
import Derived.Test.YtkhahbghmdccaaaGreatS49
import Derived.Below
import Derived.OpenShut
import Derived.Test.YtkhahbghmdccaaaGreatProg
import Derived.WalkKit
import Derived.LaidEql
import Derived.BigQuiet
import Derived.Laws.AppendOwnNone
import Derived.Laws.MakeOwn
import Derived.Deep.RegionLaw
import Derived.Lib.Bytes
import Derived.Deep.MidRow
import Derived.Laws.ResultCell
import Derived.Deep.CutBlock
import Derived.Deep.QuietTactic
import Derived.OwnWalk
import Derived.Deep.RegionHeld3
import Derived.Deep.DrawnRows
import Derived.Laws.StructEq
import Derived.Maps.AppendAt
import Derived.Maps.RangeWalk
import Derived.Stop.Asserts
import Derived.RowKitTokens
import Derived.Test.YtkhahbghmdccaaaGreatShelf
import Derived.Shelf.Abstract
import Derived.Lib.SliceRun
import Derived.Lib.AppendZerosOnto
import Derived.Lib.AppendZeros
import Derived.Laws.CopyOwn
import Derived.RangeFuncNested
import Derived.RangeFuncBound
import Derived.RangeFuncCalls
import Derived.RangeFuncLeaves
import Derived.RangeFuncFrom
import Derived.Shelf.RegionOpen
import Derived.OwnWalkIn
import Derived.TacticsInMore
import Derived.LoopNIn
import Derived.LoopIn
import Derived.Deep.RegionWith
import Derived.ArgAppend
import Derived.Lib.SlBytesConst
import Derived.Lib.AppendStr
import Derived.Deep.Slices
import Derived.ChangeArms
import Derived.WideShapes
import Derived.Deep.Fields
import Derived.ChangeSlices
import Derived.Test.YtkhahbghmdccaaaGreatS50
namespace Go.Proofs.YtkhahbghmdccaaaGreat
open Go.RowKit
set_option linter.unusedVariables false
theorem Own.rooms {base : Nat} {w : World} {a : Option Addr} {n c : Nat} {zs : List Int} (h : Own base w (.slice a n c) zs) : n ≤ c ∧ c ≤ maxLen := by
  rcases h.2.2 with ⟨e, _⟩ | ⟨g, cap, cur, e, _, _, h1, h2, _⟩
  · injection e with _ e2 e3
    subst e2 e3
    exact ⟨Nat.le_refl _, Nat.zero_le _⟩
  · injection e with _ e2 e3
    subst e2 e3
    exact ⟨h1, h2⟩
attribute [local go_sem ↓] gload_shut
set_option maxRecDepth 100000 in
set_option maxHeartbeats 4000000 in
theorem dec_c (k over : Int) (g off len cap : Nat) (zs : List Int) (w : World) (hr : Row8 w (some ⟨g, off, none⟩) len cap zs) (hk : kn k = true) (ho : up 65535 over = true) (h1 : hn k ≤ len) (h2 : len ≤ hn k + 300) (hcl : len ≤ cap) (hcm : cap ≤ maxLen) (hs : sf (rdz k zs) (len - hn k) = 0)
    (r1 r2 : Bool) (ht1 : r1 = true) (ht2 : r2 = true) (hr1 : ((eb (rdz k zs) over (zs.drop (hn k))).take (cn k) = zs.take (cn k) ∧ (eb (rdz k zs) over (zs.drop (hn k))).drop (cn k + 2) = zs.drop (cn k + 2)) ↔ r1 = true) (hr2 : eb (rdz k zs) over (zs.drop (hn k)) = zs ↔ r2 = true) :
    Calls Tryz.prog 86 #[.int .i64 k, .slice (some ⟨g, off, none⟩) len cap, .int .i64 over] w fun e w' => (∃ a' c', e = .returned (.tuple #[.agg (sgC (rdz k zs) a' (len - hn k) c'), .nilIface]) ∧ Row8 w' a' (len - hn k) c' (zs.drop (hn k)) ∧ len - hn k ≤ c' ∧ c' ≤ maxLen) ∧ Below w.heap.size w w' := by
  have hlen := hr.1
  have HB := hide (al_below w (.cells zero7 30))
  have HP := hide (zero_new w)
  have HZ := hide zero_new
  unfold zero7 at HB HP HZ
  have HH := hide (fun W => head_any k W)
  have hh := hn_le k
  have hp : 8 ≤ hn k := by unfold hn; split <;> omega
  have HRow := hide hr
  have HRead := hide (fun W (h : Row8 W (some ⟨g, off, none⟩) len cap zs) => read_any k g off len cap zs W h h1 (by omega) hcl hcm)
  have HE := hide (fun a' c' W (h : Row8 W a' (len - hn k) c' (zs.drop (hn k))) => enc_ok (rdz k zs) a' (len - hn k) c' over (zs.drop (hn k)) W hs ho h)
  have hk0 : el (rdz k zs) 0 = k := by unfold rdz; split <;> rfl
  have HEL := hide (show (eb (rdz k zs) over (zs.drop (hn k))).length = len by rw [eb_len, hk0, List.length_drop, hlen]; omega)
  have HAl := hide (fun gx cx W rx rz hc hm => alike_any k gx 0 len cx g off len cap (eb (rdz k zs) over (zs.drop (hn k))) zs W rx rz h1 h1 hc hcl hm hcm r1 hr1)
  have HSame := hide hr2
  clear hr hr1 hr2 hs hk0
  generalize eb (rdz k zs) over (zs.drop (hn k)) = EB at HE HEL HAl HSame
  generalize zs.drop (hn k) = D at HRead HE ⊢
  generalize hn k = H at HH hh h1 h2 HRead HE hp ⊢
  generalize rdz k zs = Z at HRead HE ⊢
  have hcm' := hcm
  unfold maxLen at hcm'
  have hh' : (H : Int) ≤ 20 := by omega
  have d1 : ¬ (len : Int) < (H : Int) := by omega
  have d2 : ¬ (H : Int) + 300 < (len : Int) := by omega
  go_enter Tryz.func86, Tryz.ntmps86
  go_upto_region 1 with fail
  generalize w.alloc _ = W0 at HB HP ⊢
  go_upto_region 3 with (first
    | (go_at_call 137; refine (known_any _ _).mono ?_; rintro e w' ⟨rfl, rfl⟩)
    | (go_at_call 133; (with_reducible refine (upto1b _ _ _).mono ?_); rintro e w2 ⟨rfl, hb2⟩; replace HB := hide (bt HB.out hb2); replace HP := hide (HP.out.kept hb2); clear hb2))
  go_upto_region 5 with (go_at_call 138; refine (HH.out _).mono ?_; rintro e w' ⟨rfl, rfl⟩)
  have hlW := hide HP.out.lt
  go_upto_region 6 with (first
    | (go_at_call 139; refine (HRead.out _ (HRow.out.below HB.out)).mono ?_; rintro e w1 ⟨a1, c1, rfl, hown1, hb1⟩; replace HB := hide (bt HB.out hb1); replace HP := hide (HP.out.kept hb1); replace hown1 := hide hown1; clear hb1)
    | (refine at_store rfl (.tmp 8) (.tmp 39) rfl rfl (HZ.out w1) Z a1 (len - H) c1 rfl ?_; intro w2 p2 on2; replace p2 := hide p2; replace on2 := hide on2))
  have hB2 : Below w1.heap.size w1 w2 := on2.out.below (al_below w1 _) (Nat.le_refl _)
  replace HB := hide (bt HB.out hB2)
  replace HP := hide (HP.out.kept hB2)
  replace hown1 := hide (hown1.out.kept hB2)
  clear hB2 on2 HZ HRead
  generalize w1.heap.size = B1 at p2 ⊢
  go_upto_region 7 with (first
    | (refine at_load rfl (.tmp 8) rfl rfl p2.out ?_)
    | (go_at_call 85; refine (HE.out a1 c1 _ hown1.out.toRow).mono ?_; rintro e w3 ⟨v, rfl, ho3, hb3⟩; obtain ⟨gE, cE, hv, hE1, hE2, -, -, hrowE⟩ := ho3.form (by rw [HEL.out]; omega); rw [HEL.out] at hE1 hrowE hv; subst hv; replace HB := hide (bt HB.out hb3); replace HP := hide (HP.out.kept hb3); replace p2 := hide (p2.out.kept hb3); replace hown1 := hide (hown1.out.kept hb3); replace hrowE := hide hrowE; clear hb3 ho3))
  subst ht1
  subst ht2
  go_upto_region 9 with (go_at_call 140; refine (HAl.out _ _ _ hrowE.out (HRow.out.below HB.out) hE1 hE2).mono ?_; rintro e w4 ⟨rfl, hb4⟩; replace HB := hide (bt HB.out hb4); replace HP := hide (HP.out.kept hb4); replace p2 := hide (p2.out.kept hb4); replace hown1 := hide (hown1.out.kept hb4); replace hrowE := hide (hrowE.out.below hb4); clear hb4)
  have HEq := hide (equal_any _ _ _ _ _ _ _ _ _ hrowE.out (HRow.out.below HB.out) true ⟨fun _ => rfl, fun _ => HSame.out.2 trivial⟩)
  go_wp2_with (first
    | (go_at_call 62; refine HEq.out.mono ?_; rintro e w6 ⟨rfl, rfl⟩)
    | (refine at_load rfl (.tmp 8) rfl rfl p2.out ?_)
    | (refine at_store rfl (.tmp 6) (.tmp 63) rfl rfl HP.out Z a1 (len - H) c1 rfl ?_; intro w5 p5 on5; replace HB := hide (on5.below HB.out (Nat.le_refl _)); replace hown1 := hide (hown1.out.only on5 (HP.out.ne hown1.out)); replace p5 := hide p5; clear on5))
  try simp only [Exit.inBlock, Exit.then]
  refine bodyPost_ret (results_sg rfl _ _ w.heap.size Z a1 (len - H) c1 rfl p5.out) rfl ?_
  exact ⟨⟨a1, c1, rfl, hown1.out.toRow, hown1.out.rooms⟩, HB.out⟩
theorem dec_anyc (z : List Int) (over : Int) (D : List Int) (W : World) (n : Nat) (a : Option Addr) (c : Nat) (h : Okg z D.length) (ho : up 65535 over = true) (hn0 : n = hn (el z 0) + D.length) (hr : Row8 W a n c (eb z over D)) (h1 : n ≤ c) (h2 : c ≤ maxLen) :
    Calls Tryz.prog 86 #[.int .i64 (el z 0), .slice a n c, .int .i64 over] W fun e w' => ∃ a' l' c', e = .returned (.tuple #[.agg (sgC z a' l' c'), .nilIface]) ∧ Row8 w' a' l' c' D ∧ (l' ≤ c' ∧ c' ≤ maxLen) ∧ Below W.heap.size W w' := by
  obtain ⟨g, off, rfl, _⟩ := hr.2.2.2.2 (by have := hn_pos (el z 0); omega)
  have hz := fun j hj => rd_eb z over D h j hj
  have hd := drop_eb z over D h
  have e2 : n - hn (el z 0) = D.length := by omega
  have hl := h.2.2.1
  have he := eb_congr _ _ hz over D
  refine (dec_c (el z 0) over g off n c (eb z over D) W hr (okg_kn' h) ho (by omega) (by omega) h1 h2 (by rw [e2, sf_congr _ _ hz]; exact (sf_iff _ _).2 h) true true rfl rfl (by rw [hd, he]; simp) (by rw [hd, he]; simp)).mono ?_
  rintro e w' ⟨⟨a', c', q1, q2, q3⟩, hb⟩
  rw [sgC_congr _ _ hz] at q1
  rw [hd] at q2
  exact ⟨a', _, c', q1, q2, q3, hb⟩
attribute [local go_sem ↓] gload_shut gstore_shut V6.hstore_shut pload6_shut pload4_shut pstore4_shut
set_option maxRecDepth 100000 in
set_option maxHeartbeats 4000000 in
theorem opened_c (a : Option Addr) (len cap : Nat) (s d t : Int) (z D : List Int) (w : World) (hr : Row8 w a len cap (p4o s d t z D)) (hcl : len ≤ cap) (hcm : cap ≤ maxLen) (hs : up 4294967295 s = true) (hd : up 4294967295 d = true) (ht : up 255 t = true) (hz : Okg z D.length) :
    Calls Tryz.prog 33 #[.slice a len cap] w fun e w' => ∃ a1 l1 c1 a2 l2 c2, e = .returned (.tuple #[V4.pk s d t (el z 0) 0 a1 l1 c1, .agg (sgC z a2 l2 c2), .bool true]) ∧ (Row8 w' a2 l2 c2 D ∧ l2 ≤ c2 ∧ c2 ≤ maxLen) ∧ Below w.heap.size w w' := by
  have HV := hide (R4.start w)
  unfold V4.zero4 zero7 at HV
  have h20 := hn_le (el z 0)
  have h300 := hz.2.2.1
  obtain ⟨n, hn0⟩ : ∃ n, n = hn (el z 0) + D.length := ⟨_, rfl⟩
  have hni : ((hn (el z 0) : Nat) + (D.length : Int)) = (n : Int) := by omega
  unfold p4o at hr
  rw [hni] at hr
  have hov := o4_in s d (el z 0) n
  have HD := hide (show ∀ W, Below w.heap.size w W → Calls Tryz.prog 17 #[.slice a len cap] W fun e w' => ∃ a' c', e = .returned (.tuple #[V4.pk s d t (el z 0) 0 a' n c', .nilIface]) ∧ Row8 w' a' n c' (eb z (o4 s d (el z 0) n) D) ∧ n ≤ c' ∧ c' ≤ maxLen ∧ Below W.heap.size W w' from fun W hb => (V4.decode_bysb a len cap s d t (el z 0) 0 _ W (hr.below hb) hcl hcm (okp4z hs hd ht hz) (eb_le hz _)).mono fun e w' ⟨a', l', c', e1, ⟨e2, e3, e4⟩, e5⟩ => by
    have hl := e2.1
    rw [eb_len, ← hn0] at hl
    subst hl
    exact ⟨a', c', e1, e2, e3, e4, e5⟩)
  have HOv := hide (fun W => over4_o s d (el z 0) n W hs hd (okg_kind hz) (decide_eq_true ⟨by omega, by omega⟩))
  have HOs := hide (fun W a' c' (r : Row8 W a' n c' (eb z (o4 s d (el z 0) n) D)) (h1 : n ≤ c') (h2 : c' ≤ maxLen) => dec_anyc z (o4 s d (el z 0) n) D W n a' c' hz hov hn0 r h1 h2)
  clear hr hcl hcm hs hd ht hz hov hn0 hni h20 h300
  generalize o4 s d (el z 0) n = ov at HD HOv HOs
  generalize eb z ov D = E at HD HOs
  generalize el z 0 = k at HD HOv HOs ⊢
  have HZ := hide (fun W => V4.zero_new W)
  have HZ7 := hide (fun W => zero_new W)
  unfold V4.zero4 at HZ
  unfold zero7 at HZ7
  go_enter Tryz.func33, Tryz.ntmps33
  go_upto_region 1 with fail
  generalize (World.alloc _ _).alloc _ = W0 at HV ⊢
  go_upto_region 4 with (first
    | (go_at_call 17; refine (HD.out _ HV.out.2.2).mono ?_; rintro e w1 ⟨a1, c1, rfl, r1, k1, k2, hb1⟩; replace HV := hide (HV.out.kept hb1); have HZ1 := hide (HZ.out w1); replace r1 := hide r1; clear hb1)
    | (refine V4.at_store rfl (.tmp 5) (.tmp 12) rfl rfl HZ1.out s d t k 0 a1 n c1 rfl ?_; intro w2 p2 on2; replace HV := hide (HV.out.kept (new_below _ on2)); replace r1 := hide (r1.out.below (new_below _ on2)); replace p2 := hide p2; clear on2))
  clear HZ1
  generalize w1.heap.size = B1 at p2 ⊢
  obtain ⟨l0, l1, l2, l3, -, l5⟩ := p2.out.all
  go_upto_region 7 with (first
    | (go_at_call 82; refine (HOv.out _).mono ?_; rintro e w3 ⟨rfl, hb3⟩; replace HV := hide (HV.out.kept hb3); replace r1 := hide (r1.out.below hb3); replace p2 := hide (p2.out.kept hb3); clear hb3 l0 l1 l2 l3 l5))
  obtain ⟨l0, l1, l2, l3, -, l5⟩ := p2.out.all
  go_upto_region 8 with (first
    | (go_at_call 86; refine (HOs.out _ a1 c1 r1.out k1 k2).mono ?_; rintro e w4 ⟨a4, l4, c4, rfl, r4, hc4, hb4⟩; have HC4 := hide hc4; clear hc4; replace HV := hide (HV.out.kept hb4); replace p2 := hide (p2.out.kept hb4); have HZ4 := hide (HZ7.out w4); replace r4 := hide r4; clear hb4 l0 l1 l2 l3 l5 r1)
    | (refine at_store rfl (.tmp 8) (.tmp 42) rfl rfl HZ4.out z a4 l4 c4 rfl ?_; intro w5 p5 on5; replace HV := hide (HV.out.kept (new_below _ on5)); replace r4 := hide (r4.out.below (new_below _ on5)); replace p2 := hide (p2.out.kept (new_below _ on5)); replace p5 := hide p5; clear on5))
  clear HZ4
  generalize w4.heap.size = C1 at p5 ⊢
  have q1 := pl4 (w := w5.drew) p2.out
  have q2 := SgIn.gl (w := w5.drew) p5.out
  obtain ⟨wa, ha, pa, ona⟩ := held4 (w := w5.drew) HV.out.1 s d t k 0 a1 n c1
  have nC : C1 ≠ w.heap.size := by
    rintro rfl
    have h1 : w5.heap[w.heap.size]? = _ := p5.out
    rw [show w5.heap[w.heap.size]? = _ from HV.out.1] at h1
    injection h1 with h1
    injection h1 with _ h2
    exact absurd h2 (by decide)
  have pC := ona.sg (w := w5.drew) p5.out nC
  have q2a := pC.gl
  obtain ⟨wb, hb, pb, onb⟩ := (ona.sg (w := w5.drew) HV.out.2.1 (by omega)).held z a4 l4 c4
  have HP := hide (show V4.PkIn w.heap.size s d t k 0 a1 n c1 wb from (onb.2.2.2.2 _ (by omega)).trans pa)
  have HS := hide pb
  have HB := hide (onb.below (ona.below (HV.out.2.2.drew) (Nat.le_refl _)) (Nat.le_succ _))
  have HR := hide (((r4.out.below (w' := w5.drew) ⟨rfl, rfl, rfl, Nat.le_refl _, fun _ _ => rfl⟩).pastn (no4 (w := w5.drew) HV.out.1) ona).past (ona.sg (w := w5.drew) HV.out.2.1 (by omega)) onb)
  clear pa ona pb onb pC nC HV p2 p5
  go_region
  all_goals
    go_wp2
    try simp only [Exit.inBlock, Exit.then]
    refine bodyPost_ret (results_p4 rfl _ _ w.heap.size (w.heap.size + 1) s d t k 0 a1 n c1 z a4 l4 c4 rfl rfl HP.out HS.out) rfl ?_
    exact ⟨a1, n, c1, a4, l4, c4, rfl, ⟨HR.out, HC4.out⟩, HB.out⟩
def slr (t : TypeId) (x : Value) (lo hi mx : Option Value) : Sem Value := Instr.sliceAt t x lo hi mx
theorem slr_shut (t : TypeId) (x : Value) (lo hi mx : Option Value) : Instr.sliceAt t x lo hi mx = slr t x lo hi mx := rfl
theorem tail_run (a : Option Addr) (len cap : Nat) (hlc : len ≤ cap) (hcm : cap ≤ maxLen) (hna : a = none → cap = 0) (lo : Nat) (hp : lo ≤ len) :
    ∃ (a' : Option Addr), (∀ w, (slr 28 (.slice a len cap) (some (.int .i64 (lo : Int))) none none).run Tryz.prog w = .ok (.slice a' (len - lo) (cap - lo)) w) ∧ (∀ b off, lo < len → a = some ⟨b, off, none⟩ → a' = some ⟨b, off + lo, none⟩) ∧ (a' = none → len = lo ∧ cap - lo = 0) := by
  unfold maxLen at hcm
  have u := Tryz.underlying28
  have z := Tryz.sizeOf5
  cases a with
  | none =>
    obtain rfl : cap = 0 := hna rfl
    obtain rfl : len = 0 := by omega
    obtain rfl : lo = 0 := by omega
    refine ⟨none, fun w => ?_, fun b off h => by omega, fun _ => ⟨rfl, rfl⟩⟩
    unfold slr
    go_simp
  | some ad =>
    have j1 : (len : Int) ≤ (cap : Int) := by omega
    have j2 : (lo : Int) ≤ (len : Int) := by omega
    by_cases h : cap = lo
    · subst h
      obtain rfl : len = cap := by omega
      refine ⟨some ad, fun w => ?_, fun b off h => by omega, fun e => by cases e⟩
      unfold slr
      go_simp
    · refine ⟨some (ad.add lo), fun w => ?_, fun b off hn e => by cases e; rw [add_pl], fun e => by cases e⟩
      unfold slr
      go_simp
      try (rw [if_pos (by omega)])
      try (rw [if_pos (by omega)])
end Go.Proofs.YtkhahbghmdccaaaGreat

namespace Go.Proofs.YtkhahbghmdccaaaGreat
open Go.RowKit
set_option linter.unusedVariables false
def TSD (c : List Int) (inj : Bool) (s d z D : List Int) (hop : Int) (data Y4 : List Int) (g1 : GS) : Prop := ∃ (x : Int) (h : Nat) (zb Du Y7 Y8 d8 s8 z8 : List Int),
  (el zb 0 = el z 0 ∧ Du.length = h + D.length ∧ (h = 0 ∨ h = 52) ∧ Du.drop h = D ∧ Du.length ≤ 300) ∧
  (eqz d8 d = true ∧ eqz s8 s = true ∧ 0 < Y7.length) ∧
  (∀ W b l q, Row8 W b l q Y4 → l ≤ q → q ≤ maxLen → Calls Tryz.prog 33 #[.slice b l q] W fun e w' => ∃ a1 l1 c1 a2 l2 c2, e = .returned (.tuple #[.agg #[.int .i64 (el c 18), .int .i64 x, .int .i64 (hop - 1), .int .i64 (el zb 0), .int .i64 0, .slice a1 l1 c1], .agg (sgC zb a2 l2 c2), .bool true]) ∧ (Row8 w' a2 l2 c2 Du ∧ l2 ≤ c2 ∧ c2 ≤ maxLen) ∧ Below W.heap.size W w') ∧
  (∀ W a cp, Row8 W a data.length cp data → Calls Tryz.prog 34 #[.agg (sgC [el zb 0, el zb 2, el zb 1, 0, 0, 0, 0] a data.length cp), .int .i64 x, .int .i64 (el c 18), .int .i64 9] W fun e w' => ∃ v, e = .returned v ∧ Own W.heap.size w' v Y7 ∧ Below W.heap.size W w') ∧
  (∀ w G O W b l k, GH w G g1 O W → Row8 W b l k Y7 → l ≤ k → k ≤ maxLen → Calls Tryz.prog 19 #[.pointer (some ⟨G, 0, none⟩), .slice b l k] W fun e w' => (∃ a2 l2 c2, e = .returned (.tuple #[.slice a2 l2 c2, .nilIface]) ∧ Row8 w' a2 l2 c2 Y8 ∧ l2 ≤ c2 ∧ c2 ≤ maxLen) ∧ ∃ g2, IG g2 ∧ SBI c inj g2 ∧ GN w G g2 O W w') ∧
  (∀ W b l q, Row8 W b l q Y8 → l ≤ q → q ≤ maxLen → Calls Tryz.prog 35 #[.slice b l q] W fun e w' => ∃ a1 l1 c1 a2 l2 c2, e = .returned (.tuple #[.agg (V6.pkC d8 s8 8 (el z8 0) a1 l1 c1), .agg (sgC z8 a2 l2 c2), .bool true]) ∧ Row8 w' a2 l2 c2 data ∧ Below W.heap.size W w')
theorem up_len {c : List Int} {inj : Bool} {b z D zu Du : List Int} {ss : List (Int × List Int × Int × Bool × Bool)} (h : UP c inj b z D zu Du ss) : ∃ h : Nat, Du.length = h + D.length ∧ (h = 0 ∨ h = 52) ∧ Du.drop h = D := by
  rcases h with ⟨_, _, rfl, _⟩ | ⟨_, hd, s', h', q1, _, _, _, ⟨_, rfl, _, rfl, _⟩ | ⟨_, _, _, rfl, _⟩ | ⟨_, _, rfl⟩⟩
  · exact ⟨0, by omega, .inl rfl, rfl⟩
  · exact ⟨0, by omega, .inl rfl, rfl⟩
  · refine ⟨52, by rw [List.length_append, q1], .inr rfl, ?_⟩
    rw [← q1]
    exact List.drop_left
  · exact ⟨0, by omega, .inl rfl, rfl⟩
theorem sums_bundle {c : List Int} {inj : Bool} {g : GS} (h : SBI c inj g) (hi : IG g) {s d z D : List Int} {hop : Int} (hs : Ok6 s) (hd : Ok6 d) (ht : up 255 hop = true) (hz : Okg z D.length) (ho : SM.Oct D) (h0 : (g6 g (p6o s d hop z D)).1 = 0) {data : List Int} (hdo : SM.Oct data) (hdl : data.length ≤ 200) :
    TSD c inj s d z D hop data (g6 g (p6o s d hop z D)).2.1 (g6 g (p6o s d hop z D)).2.2 := by
  obtain ⟨b, hb, zu, Du, h2, hfl, hY, hU, hig, hsb⟩ := ask_core h hi hs hd ht hz ho h0
  have hgb := hig.1.2.2.1.1 _ hb
  have hm16 := hig.1.1
  have hef := (eqf_iff _ _).2 hfl
  unfold eqf at hef
  simp only [Bool.and_eq_true, beq_iff_eq] at hef
  obtain ⟨⟨⟨⟨b0, bc⟩, b9⟩, bd⟩, b18⟩ := hef
  replace b0 : el b 0 = el z 0 := b0
  replace b9 : el b 9 = el z 1 := b9
  replace b18 : el b 18 = el z 2 := b18
  have bc' : eqz (cli b) s = true := eqz_of fun j hj => ((eqz_iff _ _).1 bc j hj).trans (by
    rcases (by omega : j = 0 ∨ j = 1 ∨ j = 2 ∨ j = 3 ∨ j = 4 ∨ j = 5 ∨ j = 6 ∨ j = 7) with rfl | rfl | rfl | rfl | rfl | rfl | rfl | rfl <;> rfl)
  have bd' : eqz (dst b) d = true := eqz_of fun j hj => ((eqz_iff _ _).1 bd j hj).trans (by
    rcases (by omega : j = 0 ∨ j = 1 ∨ j = 2 ∨ j = 3 ∨ j = 4 ∨ j = 5 ∨ j = 6 ∨ j = 7) with rfl | rfl | rfl | rfl | rfl | rfl | rfl | rfl <;> rfl)
  generalize (g6 g (p6o s d hop z D)).2.2 = g1 at hb hU hig hsb hgb hm16 ⊢
  rw [hY]
  have hz7 : Okg (z7 z) D.length := hz
  obtain ⟨u1, u2, u3, u4⟩ := upx_ok hU hz7 ho b0
  have hb21 : 0 ≤ el b 21 ∧ el b 21 ≤ 65535 := by
    have h : wd (el b 21) = true := hgb.2.2.2.2
    unfold wd at h
    rw [Bool.and_eq_true, decide_eq_true_eq, decide_eq_true_eq] at h
    exact h
  have hux : up 4294967295 (el b 20) = true := by
    have h : fr (el b 20) = true := hgb.2.2.2.1
    unfold fr at h
    rw [Bool.and_eq_true, decide_eq_true_eq, decide_eq_true_eq] at h
    exact decide_eq_true h
  have hb19 : 0 ≤ el b 19 ∧ el b 19 ≤ 65535 := by
    obtain ⟨i, q1, q2, _⟩ := hgb.2.1
    omega
  have hnear : up 4294967295 (el c 18) = true := by
    have := hig.2.2.2.2.2.1
    rw [hsb.1] at this
    exact this
  have htt := up_true ht
  have ht1 : up 255 (hop - 1) = true := decide_eq_true (by omega)
  have hzb : Okg (zft zu (el b 19) (el b 21)) Du.length := zft_ok u1 hb19 hb21
  have hok1 : Ok6 (dst b) := okf_dst hgb.1
  have hok2 : Ok6 (cli b) := okf_cli hgb.1
  have h6t : tell c inj b = true → el z 0 = 6 := fun ht => by
    unfold tell at ht
    simp only [Bool.and_eq_true, beq_iff_eq] at ht
    rw [← b0]
    exact ht.1.2
  have hstr : sfd g1.ss (el b 19) = none ∨ (el z 0 = 6 ∧ ∃ hd s' h', sfd g1.ss (el b 19) = some (hd, s', true, h') ∧ 0 ≤ s' ∧ s' < 4294967296) := by
    rcases hU with ⟨_, _, _, q⟩ | ⟨q1, hd, s', h', _, _, q2, q3, _⟩
    · exact .inl q
    · exact .inr ⟨h6t q1, hd, s', h', q2, q3⟩
  have hzu3 : 0 ≤ el zu 3 ∧ el zu 3 ≤ 4294967295 := by
    rcases u1.2.2.2 with h | h
    · exact h.2.1
    · have := h.2.1
      omega
  obtain ⟨h, l1, l2, l3⟩ := up_len hU
  have hzA : Okg [el zu 0, el b 21, el b 19, 0, 0, 0, 0] data.length := by
    refine ⟨hb21, hb19, by omega, ?_⟩
    rcases hz.2.2.2 with q | q
    · exact .inl ⟨u3.trans q.1, ⟨(by decide : (0 : Int) ≤ 0), (by decide : (0 : Int) ≤ 4294967295)⟩, ⟨(by decide : (0 : Int) ≤ 0), (by decide : (0 : Int) ≤ 4294967295)⟩, ⟨(by decide : (0 : Int) ≤ 0), (by decide : (0 : Int) ≤ 31)⟩, ⟨(by decide : (0 : Int) ≤ 0), (by decide : (0 : Int) ≤ 65535)⟩⟩
    · exact .inr ⟨u3.trans q.1, rfl, rfl, rfl, rfl⟩
  have hf9 : up 255 9 = true := by decide
  obtain ⟨r1, r2⟩ := answer_core hsb hig hb hf9 (by decide : (2 : Int) ≤ 9) hzA (u3.trans b0.symm) rfl rfl (hstr.imp id fun ⟨q1, hd, s', h', q2, _⟩ => ⟨u3.trans q1, hd, s', h', q2⟩)
  have hI4 := in4_gh hig (p4o (el b 20) (el c 18) 9 [el zu 0, el b 21, el b 19, 0, 0, 0, 0] data)
  have hg2 := (g4_ig hig (p4o (el b 20) (el c 18) 9 [el zu 0, el b 21, el b 19, 0, 0, 0, 0] data)).1
  have hs2 := g4_sbi hsb (p4o (el b 20) (el c 18) 9 [el zu 0, el b 21, el b 19, 0, 0, 0, 0] data)
  rw [r1, r2] at hI4
  obtain ⟨v1, v2⟩ := dn_okg (ss := g1.ss) (p := el b 19) hzA (hstr.imp id fun ⟨q1, q⟩ => ⟨u3.trans q1, q⟩)
  have hf := (okf_ports hgb.1)
  have hz8 : Okg (zft (DN g1.ss (el b 19) [el zu 0, el b 21, el b 19, 0, 0, 0, 0]) (el b 18) (el b 9)) data.length := zft_ok v1 hf.2 hf.1
  have hf8 : up 255 (9 - 1) = true := by decide
  refine ⟨el b 20, h, zft zu (el b 19) (el b 21), Du, p4o (el b 20) (el c 18) 9 [el zu 0, el b 21, el b 19, 0, 0, 0, 0] data, p6o (dst b) (cli b) (9 - 1) (zft (DN g1.ss (el b 19) [el zu 0, el b 21, el b 19, 0, 0, 0, 0]) (el b 18) (el b 9)) data, dst b, cli b, zft (DN g1.ss (el b 19) [el zu 0, el b 21, el b 19, 0, 0, 0, 0]) (el b 18) (el b 9), ⟨u3, l1, l2, l3, u1.2.2.1⟩, ⟨bd', bc', p4o_len⟩, fun W b' l q r e1 e2 => ?_, fun W a cp r => ?_, fun w G O W b' l k hG r e1 e2 => ?_, fun W b' l q r e1 e2 => ?_⟩
  · exact opened_c b' l q (el c 18) (el b 20) (hop - 1) _ Du W r e1 e2 hnear hux ht1 hzb
  · exact bk_ok [el zu 0, el b 21, el b 19, 0, 0, 0, 0] a data.length cp data (el b 20) (el c 18) 9 W hux hnear hf9 hzA r
  · refine (hI4 w G O W b' l k hG r e1 e2).mono ?_
    rintro e w' ⟨q1, q2⟩
    exact ⟨q1, _, hg2, hs2, q2⟩
  · exact opened6_ok b' l q (dst b) (cli b) (9 - 1) _ data W r e1 e2 hok1 hok2 hf8 hz8
end Go.Proofs.YtkhahbghmdccaaaGreat
