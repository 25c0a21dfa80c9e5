/- Package pick's Pick by a contract. Package pick's Pick by a contract, where nothing is wrong. -/
import Derived.Test.YtkhahbghmdccaaaGreatDoorF13
import Derived.Test.YtkhahbghmdccaaaGreatDoorF16
import Derived.Below
import Derived.OpenShut
import Derived.Test.YtkhahbghmdccaaaGreatDoorProg
import Derived.WalkKit
import Derived.LaidEql
import Derived.BigQuiet
import Derived.Laws.AppendOwnNone
import Derived.Laws.MakeOwn
import Derived.Deep.RegionLaw
import Derived.Lib.Bytes
import Derived.Deep.MidRow
import Derived.Laws.ResultCell
import Derived.Deep.CutBlock
import Derived.Deep.QuietTactic
import Derived.OwnWalk
import Derived.Deep.RegionHeld3
import Derived.Deep.DrawnRows
import Derived.Maps.AppendAt
import Derived.Laws.StructEq
namespace Go.Proofs.YtkhahbghmdccaaaGreatDoor
open Go.RowKit
def KQ (w : World) (f : List Int) (W : World) : Prop := FlIn w.heap.size f W ∧ BkIn (w.heap.size + 1) [] W ∧ Below w.heap.size w W
theorem KQ.kept {w : World} {f : List Int} {W W' : World} (h : KQ w f W) (hb : Below W.heap.size W W') : KQ w f W' := ⟨h.1.kept hb, h.2.1.kept hb, bt h.2.2 hb⟩
theorem KQ.only {w : World} {f : List Int} {W W' : World} {D : Nat} (h : KQ w f W) (hb : Only D W W') (hD : w.heap.size + 1 < D) : KQ w f W' :=
  ⟨(hb.2.2.2.2 _ (by omega)).trans h.1, (hb.2.2.2.2 _ (by omega)).trans h.2.1, hb.below h.2.2 (by omega)⟩
theorem kq_new (w : World) (f : List Int) : KQ w f ((w.alloc (.cells (flC f) 73)).alloc (.cells zero4b 95)) := by
  have b1 := al_below w (.cells (flC f) 73)
  have b2 := al_below (w.alloc (.cells (flC f) 73)) (.cells zero4b 95)
  have hz := bk_zero (w.alloc (.cells (flC f) 73))
  rw [World.size_alloc] at hz
  exact ⟨(fl_new f w).kept b2, hz, bt b1 b2⟩
def tp (o : Option Nat) (m : Int) : Int := match o with | none => -1 | some _ => m
def bo (o : Option Nat) (bs : List (List Int)) : List Int := match o with | none => [] | some i => bs.getD i []
theorem kst_skip {seed : Int} {f : List Int} {bs : List (List Int)} {k : Nat} (h : cand (bs.getD k []) = false) : pst seed f bs (k + 1) = pst seed f bs k := by
  simp only [pst]
  rw [if_neg (by rw [h]; simp)]
theorem kst_take {seed : Int} {f : List Int} {bs : List (List Int)} {k : Nat} (h : cand (bs.getD k []) = true) {o : Option Nat} {m : Int} (hp : pst seed f bs k = (o, m)) : pst seed f bs (k + 1) = if btr bs o m (pv seed f (bs.getD k [])) k = true then (some k, pv seed f (bs.getD k [])) else (o, m) := by
  simp only [pst]
  rw [if_pos h, hp]
attribute [local go_sem ↓] fload_shut kload_shut
set_option maxRecDepth 100000 in
set_option maxHeartbeats 2000000 in
theorem kpick_bad (seed : Int) (f : List Int) (a : Option Addr) (cap : Nat) (bs : List (List Int)) (w : World) (h : Bks a bs w) (hl : bs.length ≤ maxLen) (hcp : bs.length ≤ cap) (e : Int) (he : pko seed f bs = ([], e)) (hc : (bf bs).2 ≠ 0 ∨ ((bf bs).2 = 0 ∧ sok seed f 0 = false)) :
    Calls Tryz.prog 119 #[.int .i64 seed, .agg (flC f), .slice a bs.length cap] w fun r w' => r = .returned (.tuple #[.agg (bkC []), ev e]) ∧ Below w.heap.size w w' := by
  have HK := hide (kq_new w f)
  have HF := hide (fun W (hW : Below w.heap.size w W) => kcheck a cap bs W (h.below hW) hl hcp)
  have HS := hide (fun W => kscore seed f 0 W)
  have HE := hide he
  unfold zero4b at HK
  unfold pko at HE
  clear h hl hcp he
  generalize (bf bs).1 = p at HF
  generalize (bf bs).2 = e0 at HF hc HE
  generalize sok seed f 0 = so at HS hc HE
  generalize sv seed f 0 = s0 at HS
  rcases hc with hc | ⟨rfl, rfl⟩
  · have HE2 := hide (show e0 = e by have := HE.out; rw [if_neg hc] at this; injection this)
    rw [show ev e0 = .iface 28 (.int .i64 e0) by unfold ev; rw [if_neg hc]; rfl] at HF
    have HV := hide (show ev e = .iface 28 (.int .i64 e0) by rw [← HE2.out]; unfold ev; rw [if_neg hc]; rfl)
    rw [HV.out]
    clear hc HE HE2 HV
    go_enter Tryz.func119, Tryz.ntmps119
    go_upto_region 1 with fail
    generalize (w.alloc _).alloc _ = W at HK ⊢
    go_wp2_with (first
      | (go_at_call 98; refine (HF.out _ HK.out.2.2).mono ?_; rintro r w1 ⟨rfl, hb1⟩; replace HK := hide (HK.out.kept hb1); clear hb1)
      | (refine at_storek rfl (.tmp 6) (.tmp 25) rfl rfl HK.out.2.1 [] rfl ?_; intro w5 p5 on5; have HB5 := hide (on5.below HK.out.2.2 (Nat.le_succ _)); replace p5 := hide p5; clear on5))
    try simp only [Exit.inBlock, Exit.then]
    refine bodyPost_ret (results_bk rfl _ _ (w.heap.size + 1) [] rfl p5.out) rfl ?_
    exact ⟨rfl, HB5.out⟩
  · obtain rfl : (1 : Int) = e := by have := HE.out; rw [if_pos rfl, if_neg (by decide)] at this; injection this
    rw [show ev (fe false) = err 1 from rfl] at HS
    rw [show ev 0 = .nilIface from rfl] at HF
    rw [show ev 1 = err 1 from rfl]
    unfold err at HS ⊢
    clear HE
    go_enter Tryz.func119, Tryz.ntmps119
    go_upto_region 1 with fail
    generalize (w.alloc _).alloc _ = W at HK ⊢
    go_upto_region 4 with (go_at_call 98; refine (HF.out _ HK.out.2.2).mono ?_; rintro r w1 ⟨rfl, hb1⟩; replace HK := hide (HK.out.kept hb1); clear hb1)
    have gf := HK.out.1.fl
    go_wp2_with (first
      | (go_at_call 166; refine (HS.out _).mono ?_; rintro r w2 ⟨rfl, hb2⟩; replace HK := hide (HK.out.kept hb2); clear hb2)
      | (refine at_storek rfl (.tmp 6) (.tmp 35) rfl rfl HK.out.2.1 [] rfl ?_; intro w5 p5 on5; have HB5 := hide (on5.below HK.out.2.2 (Nat.le_succ _)); replace p5 := hide p5; clear on5))
    try simp only [Exit.inBlock, Exit.then]
    refine bodyPost_ret (results_bk rfl _ _ (w.heap.size + 1) [] rfl p5.out) rfl ?_
    exact ⟨rfl, HB5.out⟩
end Go.Proofs.YtkhahbghmdccaaaGreatDoor

namespace Go.Proofs.YtkhahbghmdccaaaGreatDoor
open Go.RowKit
def KB (w : World) (f : List Int) (D : Nat) (o : Option Nat) (bs : List (List Int)) (W : World) : Prop := KQ w f W ∧ BkIn D (bo o bs) W
theorem KB.kept {w : World} {f : List Int} {D : Nat} {o : Option Nat} {bs : List (List Int)} {W W' : World} (h : KB w f D o bs W) (hb : Below W.heap.size W W') : KB w f D o bs W' := ⟨h.1.kept hb, h.2.kept hb⟩
attribute [local go_sem ↓] fload_shut kload_shut
set_option maxRecDepth 100000 in
set_option maxHeartbeats 8000000 in
theorem kpick_ok (seed : Int) (f : List Int) (a : Option Addr) (cap : Nat) (bs : List (List Int)) (w : World) (h : Bks a bs w) (hl : bs.length ≤ maxLen) (hcp : bs.length ≤ cap) (hb : (bf bs).2 = 0) (hs : sok seed f 0 = true) :
    Calls Tryz.prog 119 #[.int .i64 seed, .agg (flC f), .slice a bs.length cap] w fun r w' => r = .returned (.tuple #[.agg (bkC (pkr (pst seed f bs bs.length).1 bs).1), ev (pkr (pst seed f bs bs.length).1 bs).2]) ∧ Below w.heap.size w w' := by
  have hok := bf_ok hb
  have n9 := hok.1
  have HOk := hide hok.2
  have j9 : (bs.length : Int) ≤ 8 := by omega
  have HK := hide (kq_new w f)
  have HH := hide h
  have HF := hide (fun W (hW : Below w.heap.size w W) => kcheck a cap bs W (h.below hW) hl hcp)
  rw [hb, show ev 0 = .nilIface from rfl] at HF
  have HS := hide (fun W => kscore seed f 0 W)
  have HSk := hide (sok_iff.1 hs)
  rw [hs, show ev (fe true) = .nilIface from rfl] at HS
  obtain ⟨g1, g2, -, g4⟩ := sok_iff.1 hs
  have hs2 : 0 ≤ seed ∧ seed < 2147483648 := ⟨g1, by omega⟩
  have HM := hide (fun W => mixflow_any seed f W hs2 g4)
  have hin := mxs_in hs2 (nl f 19) (fun x hx => (nums_in hs x (by unfold nums; exact List.mem_append_left _ hx)).1)
  have HSc := hide (show ∀ id, 0 ≤ id ∧ id ≤ 65535 → sv seed f id = (mx (mxs seed (nl f 19)) id).tdiv 256 from fun id hd => by
    have ho : sok seed f id = true := sok_iff.2 ⟨g1, g2, (wd_iff id).2 hd, g4⟩
    unfold sv
    rw [if_pos ho]
    unfold sc nums
    rw [mxs_snoc])
  have HQ := hide (fun id W (hd : 0 ≤ id ∧ id ≤ 65535) => score_any (mxs seed (nl f 19)) id W hin hd)
  unfold zero4b at HK
  have HZ := hide bk_zero
  unfold zero4b at HZ
  clear h hl hcp hb hs hok g1 g2 g4 hs2 hin
  generalize (bf bs).1 = p at HF
  generalize sv seed f 0 = s0 at HS
  generalize mxs seed (nl f 19) = mm at HM HSc HQ
  obtain ⟨R, hR⟩ : ∃ R, pkr (pst seed f bs bs.length).1 bs = R := ⟨_, rfl⟩
  rw [hR]
  have HR := hide hR
  clear hR
  go_enter Tryz.func119, Tryz.ntmps119
  go_upto_region 1 with fail
  generalize (w.alloc _).alloc _ = W at HK ⊢
  go_upto_region 4 with (go_at_call 98; refine (HF.out _ HK.out.2.2).mono ?_; rintro r w1 ⟨rfl, hb1⟩; replace HK := hide (HK.out.kept hb1); clear hb1)
  have gf := HK.out.1.fl
  go_upto_region 7 with (go_at_call 166; refine (HS.out _).mono ?_; rintro r w2 ⟨rfl, hb2⟩; replace HK := hide (HK.out.kept hb2); clear hb2 gf)
  have gf := HK.out.1.fl
  go_upto_region 8 with (go_at_call 167; (with_reducible refine (HM.out _).mono ?_); rintro r w3 ⟨rfl, hb3⟩; replace HK := hide (HK.out.kept hb3); clear hb3 gf)
  clear HF HS HM
  have HD := hide (show w.heap.size + 1 < w3.heap.size from HK.out.2.1.lt)
  have HB := hide (show KB w f w3.heap.size none bs (w3.alloc (.cells #[.int .i64 0, .int .i64 0, .int .i64 0, .int .i64 0, .bool false, .bool false] 95)) from ⟨HK.out.kept (al_below _ _), HZ.out w3⟩)
  clear HK
  go_upto_region 9 with fail
  generalize w3.alloc _ = W4 at HB ⊢
  generalize w3.heap.size = D at HB HD ⊢
  go_wp2
  go_loopw [14, 42] (fun u t wr => ∃ (k : Nat) (o : Option Nat) (m : Int), k ≤ bs.length ∧ t = .int .i64 k ∧ u = .int .i64 (tp o m) ∧ Hid (0 ≤ m) ∧ Hid (pst seed f bs k = (o, m)) ∧ Hid (KB w f D o bs wr)) (fun _ t _ => bs.length - (intOf t).toNat)
  case atStart => exact ⟨0, none, 0, by omega, rfl, rfl, hide (by omega), rfl, HB⟩
  case round =>
    clear HB
    obtain ⟨k, o, m, hk, rfl, rfl, Hm, HP, HB⟩ := hrel
    by_cases hlt : k < bs.length
    · obtain ⟨g, off, rfl, hgl, hrow⟩ := HH.out (by omega)
      have j1 : (k : Int) < (bs.length : Int) := by omega
      have gk := rng_kl (show wr.rangeAt g (off + k * 6) (bkC (bs.getD k [])).toList from fun j u hu => by rw [HB.out.1.2.2.cell (p := ⟨g, off + k * 6 + j, none⟩) hgl]; exact hrow k hlt j u hu)
      have HSt := hide (show pst seed f bs (k + 1) = if cand (bs.getD k []) = true then (if btr bs o m (pv seed f (bs.getD k [])) k = true then (some k, pv seed f (bs.getD k [])) else (o, m)) else (o, m) by
        cases hcd : cand (bs.getD k [])
        · rw [kst_skip hcd, HP.out]; rfl
        · rw [kst_take hcd HP.out]; rfl)
      have hob := (HOk.out k hlt).1
      have HWt := hide (show (0 ≤ el (bs.getD k []) 0 ∧ el (bs.getD k []) 0 ≤ 65535) ∧ 0 ≤ el (bs.getD k []) 3 ∧ el (bs.getD k []) 3 ≤ 10 by
        unfold okb at hob
        simp only [Bool.and_eq_true, decide_eq_true_eq] at hob
        exact ⟨(wd_iff _).1 hob.1.1.1, hob.2⟩)
      have HPv := hide (show pv seed f (bs.getD k []) = sv seed f (el (bs.getD k []) 0) * el (bs.getD k []) 3 from rfl)
      rw [HSc.out _ HWt.out.1] at HPv
      have HQ1 := hide (fun W => HQ.out _ W HWt.out.1)
      have hsn : 0 ≤ (mx mm (el (bs.getD k []) 0)).tdiv 256 ∧ (mx mm (el (bs.getD k []) 0)).tdiv 256 < 8388608 := by
        rw [← HSc.out _ HWt.out.1]; exact sv_in _ _ _
      clear hob hrow hgl
      have HBo := hide (show bo (some k) bs = bs.getD k [] from rfl)
      have HBt := hide (show ∀ i n, btr bs (some i) m n k = (decide (m < n) || ((n == m) && decide (el (bs.getD k []) 0 < el (bo (some i) bs) 0))) from fun _ _ => rfl)
      obtain ⟨b, hbk⟩ : ∃ b, bs.getD k [] = b := ⟨_, rfl⟩
      rw [hbk] at gk HSt HWt HPv HQ1 hsn HBo HBt
      clear hbk
      have HT := hide (fun W => tn_any b W)
      go_upto_region 13 with (refine at_storek rfl (.tmp 16) (.tmp 45) rfl rfl (HZ.out wr) b rfl ?_; intro w1 p1 on1; replace HB := hide (HB.out.kept (new_below _ on1)); have HE := hide p1; clear on1 p1)
      clear gk
      generalize wr.heap.size = E at HE ⊢
      have gk := HE.out.kl
      generalize cand b = cd at HT HSt
      cases cd
      · replace HSt : Hid (pst seed f bs (k + 1) = (o, m)) := HSt
        go_wp2_with (go_at_call 168; (with_reducible refine (HT.out _).mono ?_); rintro r w2 ⟨rfl, hb2⟩; replace HB := hide (HB.out.kept hb2); clear hb2 gk)
        go_roundw
        case rel => exact ⟨k + 1, o, m, by omega, by go_num, rfl, Hm, HSt, HB⟩
        case measure => simp [intOf]; omega
      · replace HSt : Hid (pst seed f bs (k + 1) = if btr bs o m (pv seed f b) k = true then (some k, pv seed f b) else (o, m)) := HSt
        go_upto_region 14 with (go_at_call 168; (with_reducible refine (HT.out _).mono ?_); rintro r w2 ⟨rfl, hb2⟩; replace HB := hide (HB.out.kept hb2); replace HE := hide (HE.out.kept hb2); clear hb2 gk)
        clear HT
        have HBd := hide (show KB w f D o bs w2.drew from HB.out.kept ((Below.refl _ _).drew))
        have HEd := hide (show BkIn E b w2.drew from HE.out)
        have HC0 := hide (show w2.drew.cell? ⟨E, 3, none⟩ = some (.int .i64 (el b 3)) ∧ w2.drew.cell? ⟨E, 0, none⟩ = some (.int .i64 (el b 0)) from ⟨by have := rng_int HEd.out.rng 3 (by omega); rwa [Nat.zero_add] at this, rng_id HEd.out.rng⟩)
        clear HB HE
        obtain ⟨s, hsx⟩ : ∃ s, (mx mm (el b 0)).tdiv 256 = s := ⟨_, rfl⟩
        rw [hsx] at HPv HQ1 hsn
        clear hsx
        obtain ⟨x3, hx3⟩ : ∃ x, el b 3 = x := ⟨_, rfl⟩
        rw [hx3] at HC0 HPv HWt
        have HX3 := hide hx3
        clear hx3
        obtain ⟨x0, hx0⟩ : ∃ x, el b 0 = x := ⟨_, rfl⟩
        rw [hx0] at HC0 HQ1 HBt
        have HX0 := hide hx0
        clear hx0
        have q0 : x3 * s = s * x3 := Int.mul_comm _ _
        have q1 : IntKind.i64.wrap (s * x3) = s * x3 ∧ 0 ≤ s * x3 := by
          obtain ⟨-, a1, a2⟩ := HWt.out
          obtain ⟨b1, b2⟩ := hsn
          have p1 : 0 ≤ s * x3 := Int.mul_nonneg b1 a1
          have p2 : s * x3 ≤ s * 10 := Int.mul_le_mul_of_nonneg_left a2 b1
          exact ⟨by rw [IntKind.wrap_i64]; omega, p1⟩
        obtain ⟨n, hn⟩ : ∃ n, s * x3 = n := ⟨_, rfl⟩
        rw [hn] at q0 q1 HPv
        have q2 : IntKind.i64.wrap (x3 * s) = n := by rw [q0]; exact q1.1
        have Hn := hide q1.2
        rw [HPv.out] at HSt
        clear hn q0 q1 HPv hsn HWt
        obtain ⟨c3, c0⟩ := HC0.out
        go_region_held3 (fun W' => W'.cell? ⟨E, 3, none⟩ = some (.int .i64 x3) ∧ W'.cell? ⟨E, 0, none⟩ = some (.int .i64 x0))
          (first
            | exact HC0.out
            | exact HC1.out
            | go_keep)
          (first | (go_at_call 169; (with_reducible refine (HQ1.out _).mono ?_); rintro r w4 ⟨rfl, hb4⟩; have HC1 := hide (And.intro ((hb4.cell (p := ⟨E, 3, none⟩) HEd.out.lt).trans HC0.out.1) ((hb4.cell (p := ⟨E, 0, none⟩) HEd.out.lt).trans HC0.out.2)); have HB := hide (HBd.out.kept hb4); have HE := hide (HEd.out.kept hb4); clear hb4 c3 c0; obtain ⟨c3, c0⟩ := HC1.out))
        clear HC0 HC1 HBd HEd HQ1 c3 q2 HQ HSc
        cases o with
        | none =>
          rw [show tp none m = -1 from rfl]
          replace HSt : Hid (pst seed f bs (k + 1) = (some k, n)) := HSt
          have d1 : (-1 : Int) < n := by have := Hn.out; omega
          have gk := HE.out.kl
          go_wp2_with (refine at_storek rfl (.tmp 13) (.tmp 71) rfl rfl HB.out.2 b rfl ?_; intro w5 p5 on5; have HB5 := hide (show KB w f D (some k) bs w5 from ⟨HB.out.1.only on5 HD.out, by rw [HBo.out]; exact p5⟩); clear on5 p5)
          go_roundw
          case rel => exact ⟨k + 1, some k, n, by omega, by go_num, rfl, Hn, HSt, HB5⟩
          case measure => simp [intOf]; omega
        | some i =>
          rw [show tp (some i) m = m from rfl]
          rw [HBt.out i n] at HSt
          have cD := rng_id HB.out.2.rng
          obtain ⟨y0, hy0⟩ : ∃ y, el (bo (some i) bs) 0 = y := ⟨_, rfl⟩
          rw [hy0] at HSt cD
          clear hy0 HBt
          by_cases h1 : m < n
          · replace HSt : Hid (pst seed f bs (k + 1) = (some k, n)) := by rw [HSt.out, decide_eq_true h1]; exact hide rfl
            have gk := HE.out.kl
            go_wp2_with (refine at_storek rfl (.tmp 13) (.tmp 71) rfl rfl HB.out.2 b rfl ?_; intro w5 p5 on5; have HB5 := hide (show KB w f D (some k) bs w5 from ⟨HB.out.1.only on5 HD.out, by rw [HBo.out]; exact p5⟩); clear on5 p5)
            go_roundw
            case rel => exact ⟨k + 1, some k, n, by omega, by go_num, rfl, Hn, HSt, HB5⟩
            case measure => simp [intOf]; omega
          · rw [decide_eq_false h1] at HSt
            cases h2 : n == m
            · replace HSt : Hid (pst seed f bs (k + 1) = (some i, m)) := by rw [HSt.out, h2]; exact hide rfl
              go_wp2
              go_roundw
              case rel => exact ⟨k + 1, some i, m, by omega, by go_num, rfl, Hm, HSt, HB⟩
              case measure => simp [intOf]; omega
            · rw [h2] at HSt
              by_cases h3 : x0 < y0
              · replace HSt : Hid (pst seed f bs (k + 1) = (some k, n)) := by rw [HSt.out, decide_eq_true h3]; exact hide rfl
                have gk := HE.out.kl
                go_wp2_with (refine at_storek rfl (.tmp 13) (.tmp 71) rfl rfl HB.out.2 b rfl ?_; intro w5 p5 on5; have HB5 := hide (show KB w f D (some k) bs w5 from ⟨HB.out.1.only on5 HD.out, by rw [HBo.out]; exact p5⟩); clear on5 p5)
                go_roundw
                case rel => exact ⟨k + 1, some k, n, by omega, by go_num, rfl, Hn, HSt, HB5⟩
                case measure => simp [intOf]; omega
              · replace HSt : Hid (pst seed f bs (k + 1) = (some i, m)) := by rw [HSt.out, decide_eq_false h3]; exact hide rfl
                go_wp2
                go_roundw
                case rel => exact ⟨k + 1, some i, m, by omega, by go_num, rfl, Hm, HSt, HB⟩
                case measure => simp [intOf]; omega
    · obtain rfl : bs.length = k := by omega
      cases o with
      | none =>
        rw [show tp none m = -1 from rfl]
        have HE := hide (show R = ([], 4) by rw [← HR.out, HP.out]; rfl)
        go_wp2_with (refine at_storek rfl (.tmp 6) (.tmp 76) rfl rfl HB.out.1.2.1 [] rfl ?_; intro w5 p5 on5; have HB5 := hide (on5.below HB.out.1.2.2 (Nat.le_succ _)); replace p5 := hide p5; clear on5)
        try simp only [Exit.inBlock, Exit.then]
        refine bodyPost_ret (results_bk rfl _ _ (w.heap.size + 1) [] rfl p5.out) rfl ?_
        exact ⟨by rw [HE.out]; rfl, HB5.out⟩
      | some i =>
        rw [show tp (some i) m = m from rfl]
        have HE := hide (show R = (bo (some i) bs, 0) by rw [← HR.out, HP.out]; rfl)
        have gk := HB.out.2.kl
        obtain ⟨bi, hbi⟩ : ∃ b, bo (some i) bs = b := ⟨_, rfl⟩
        rw [hbi] at gk HE
        clear hbi
        have j2 : ¬ m < 0 := by have := Hm.out; omega
        go_wp2_with (refine at_storek rfl (.tmp 6) (.tmp 78) rfl rfl HB.out.1.2.1 bi rfl ?_; intro w5 p5 on5; have HB5 := hide (on5.below HB.out.1.2.2 (Nat.le_succ _)); replace p5 := hide p5; clear on5)
        try simp only [Exit.inBlock, Exit.then]
        refine bodyPost_ret (results_bk rfl _ _ (w.heap.size + 1) bi rfl p5.out) rfl ?_
        exact ⟨by rw [HE.out]; rfl, HB5.out⟩
theorem kpick : JKp := by
  intro seed f a cap bs w h hl hcp
  by_cases hb : (bf bs).2 = 0
  · cases hs : sok seed f 0
    · have he : pko seed f bs = ([], 1) := by unfold pko; rw [if_pos hb, hs]; rfl
      rw [he]
      exact kpick_bad seed f a cap bs w h hl hcp 1 he (.inr ⟨hb, hs⟩)
    · have he : pko seed f bs = pkr (pst seed f bs bs.length).1 bs := by unfold pko; rw [if_pos hb, hs]; rfl
      rw [he]
      exact kpick_ok seed f a cap bs w h hl hcp hb hs
  · have he : pko seed f bs = ([], (bf bs).2) := by unfold pko; rw [if_neg hb]
    rw [he]
    exact kpick_bad seed f a cap bs w h hl hcp _ he (.inl hb)
end Go.Proofs.YtkhahbghmdccaaaGreatDoor
