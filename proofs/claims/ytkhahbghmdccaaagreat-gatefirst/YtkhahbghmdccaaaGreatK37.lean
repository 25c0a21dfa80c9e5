/- The document's own PickOf. -/
import Derived.Test.YtkhahbghmdccaaaGreatK15
import Derived.Test.YtkhahbghmdccaaaGreatK24
import Derived.Test.YtkhahbghmdccaaaGreatK31
import Derived.Test.YtkhahbghmdccaaaGreatK36
import Derived.Below
import Derived.OpenShut
import Derived.Test.YtkhahbghmdccaaaGreatProg
import Derived.WalkKit
import Derived.LaidEql
import Derived.BigQuiet
import Derived.Laws.AppendOwnNone
import Derived.Laws.MakeOwn
import Derived.Deep.RegionLaw
import Derived.Lib.Bytes
import Derived.Deep.MidRow
import Derived.Laws.ResultCell
import Derived.Deep.CutBlock
import Derived.Deep.QuietTactic
import Derived.OwnWalk
import Derived.Deep.RegionHeld3
import Derived.Deep.DrawnRows
import Derived.Maps.AppendAt
import Derived.Laws.StructEq
namespace Go.Proofs.YtkhahbghmdccaaaGreat
open Go.RowKit
/-- what is kept: the flow and the answer in their blocks, the servers. -/
def KP (w : World) (f : List Int) (a : Option Addr) (bs : List (List Int)) (W : World) : Prop := FlIn w.heap.size f W ∧ BkIn (w.heap.size + 1) [] W ∧ Bks a bs W ∧ Below w.heap.size w W
theorem KP.kept {w : World} {f : List Int} {a : Option Addr} {bs : List (List Int)} {W W' : World} (h : KP w f a bs W) (hb : Below W.heap.size W W') : KP w f a bs W' := ⟨h.1.kept hb, h.2.1.kept hb, h.2.2.1.below hb, bt h.2.2.2 hb⟩
theorem kp_new {w : World} (f : List Int) {a : Option Addr} {bs : List (List Int)} (h : Bks a bs w) : KP w f a bs ((w.alloc (.cells (flC f) 61)).alloc (.cells zero4b 66)) := by
  have b1 := al_below w (.cells (flC f) 61)
  have b2 := al_below (w.alloc (.cells (flC f) 61)) (.cells zero4b 66)
  have hz := bk_zero (w.alloc (.cells (flC f) 61))
  rw [World.size_alloc] at hz
  exact ⟨(fl_new f w).kept b2, hz, (h.below b1).below b2, bt b1 b2⟩
def ixo (o : Option Nat) : Int := match o with | some i => i | none => -1
attribute [local go_sem ↓] fload_shut kload_shut
set_option maxRecDepth 100000 in
set_option maxHeartbeats 2000000 in
theorem rpick_bad (seed : Int) (f : List Int) (a : Option Addr) (cap : Nat) (bs : List (List Int)) (w : World) (h : Bks a bs w) (hl : bs.length ≤ maxLen) (e : Int) (he : pko seed f bs = ([], e)) (hc : (bf bs).2 ≠ 0 ∨ ((bf bs).2 = 0 ∧ sok seed f 0 = false)) :
    Calls Tryz.prog 84 #[.int .i64 seed, .agg (flC f), .slice a bs.length cap] w fun r w' => r = .returned (.tuple #[.agg (bkC []), .int .i64 e]) ∧ Below w.heap.size w w' := by
  have HK := hide (kp_new f h)
  have HF := hide (fun W hW => rbf_any a cap bs W hW hl)
  have HS := hide (fun W => rscore_any seed f 0 W)
  have HE := hide he
  unfold zero4b at HK
  unfold pko at HE
  clear h hl he
  generalize (bf bs).1 = p at HF
  generalize (bf bs).2 = e0 at HF hc HE
  generalize sok seed f 0 = so at HS hc HE
  generalize sv seed f 0 = s0 at HS
  go_enter Tryz.func84, Tryz.ntmps84
  go_upto_region 1 with fail
  generalize (w.alloc _).alloc _ = W at HK ⊢
  rcases hc with hc | ⟨rfl, rfl⟩
  · have hq : (e0 != 0) = true := by simpa using hc
    have HE2 := hide (show e0 = e by have := HE.out; rw [if_neg hc] at this; injection this)
    clear hc HE
    go_wp2_with (first
      | (go_at_call 130; refine (HF.out _ HK.out.2.2.1).mono ?_; rintro r w1 ⟨rfl, hb1⟩; replace HK := hide (HK.out.kept hb1); clear hb1)
      | (refine at_storek rfl (.tmp 6) (.tmp 22) rfl rfl HK.out.2.1 [] rfl ?_; intro w5 p5 on5; have HB5 := hide (on5.below HK.out.2.2.2 (Nat.le_succ _)); replace p5 := hide p5; clear on5))
    try simp only [Exit.inBlock, Exit.then]
    refine bodyPost_ret (results_bk rfl _ _ (w.heap.size + 1) [] rfl p5.out) rfl ?_
    exact ⟨by rw [← HE2.out]; rfl, HB5.out⟩
  · have HE2 := hide (show e = 1 by have := HE.out; simp at this; exact this.symm)
    rw [show fe false = 1 from rfl] at HS
    clear HE
    go_wp2_with (first
      | (go_at_call 130; refine (HF.out _ HK.out.2.2.1).mono ?_; rintro r w1 ⟨rfl, hb1⟩; replace HK := hide (HK.out.kept hb1); clear hb1; have g1 := HK.out.1.fl)
      | (go_at_call 131; refine (HS.out _).mono ?_; rintro r w2 ⟨rfl, hb2⟩; replace HK := hide (HK.out.kept hb2); clear hb2 g1)
      | (refine at_storek rfl (.tmp 6) (.tmp 32) rfl rfl HK.out.2.1 [] rfl ?_; intro w5 p5 on5; have HB5 := hide (on5.below HK.out.2.2.2 (Nat.le_succ _)); replace p5 := hide p5; clear on5))
    try simp only [Exit.inBlock, Exit.then]
    refine bodyPost_ret (results_bk rfl _ _ (w.heap.size + 1) [] rfl p5.out) rfl ?_
    exact ⟨by rw [HE2.out]; rfl, HB5.out⟩
theorem pst_skip {seed : Int} {f : List Int} {bs : List (List Int)} {k : Nat} (h : cand (bs.getD k []) = false) : pst seed f bs (k + 1) = pst seed f bs k := by
  simp only [pst]
  rw [if_neg (by rw [h]; simp)]
theorem pst_take {seed : Int} {f : List Int} {bs : List (List Int)} {k : Nat} (h : cand (bs.getD k []) = true) {o : Option Nat} {m : Int} (hp : pst seed f bs k = (o, m)) : pst seed f bs (k + 1) = if btr bs o m (pv seed f (bs.getD k [])) k = true then (some k, pv seed f (bs.getD k [])) else (o, m) := by
  simp only [pst]
  rw [if_pos h, hp]
set_option maxRecDepth 100000 in
set_option maxHeartbeats 8000000 in
theorem rpick_ok (seed : Int) (f : List Int) (a : Option Addr) (cap : Nat) (bs : List (List Int)) (w : World) (h : Bks a bs w) (hl : bs.length ≤ maxLen) (hb : (bf bs).2 = 0) (hs : sok seed f 0 = true) :
    Calls Tryz.prog 84 #[.int .i64 seed, .agg (flC f), .slice a bs.length cap] w fun r w' => r = .returned (.tuple #[.agg (bkC (pkr (pst seed f bs bs.length).1 bs).1), .int .i64 (pkr (pst seed f bs bs.length).1 bs).2]) ∧ Below w.heap.size w w' := by
  have hok := bf_ok hb
  have n9 := hok.1
  have HOk := hide hok.2
  have j9 : (bs.length : Int) ≤ 8 := by omega
  have HK := hide (kp_new f h)
  have HF := hide (fun W hW => rbf_any a cap bs W hW hl)
  rw [hb] at HF
  have HS := hide (fun id W => rscore_any seed f id W)
  have HS0 := hide (fun W => rscore_any seed f 0 W)
  rw [hs, show fe true = 0 from rfl] at HS0
  unfold zero4b at HK
  clear h hl hb hs hok
  generalize (bf bs).1 = p at HF
  generalize sv seed f 0 = s0 at HS0
  have HR := hide (show pkr (pst seed f bs bs.length).1 bs = pkr (pst seed f bs bs.length).1 bs from rfl)
  obtain ⟨R, hR⟩ : ∃ R, pkr (pst seed f bs bs.length).1 bs = R := ⟨_, rfl⟩
  rw [hR]
  replace HR := hide hR
  clear hR
  go_enter Tryz.func84, Tryz.ntmps84
  go_upto_region 1 with fail
  generalize (w.alloc _).alloc _ = W at HK ⊢
  go_upto_region 7 with (first
    | (go_at_call 130; refine (HF.out _ HK.out.2.2.1).mono ?_; rintro r w1 ⟨rfl, hb1⟩; replace HK := hide (HK.out.kept hb1); clear hb1; have g1 := HK.out.1.fl)
    | (go_at_call 131; refine (HS0.out _).mono ?_; rintro r w2 ⟨rfl, hb2⟩; replace HK := hide (HK.out.kept hb2); clear hb2 g1))
  clear HF HS0
  go_wp2
  go_loopw [10, 11, 12] (fun u v t wr => ∃ (k : Nat) (o : Option Nat) (m : Int), k ≤ bs.length ∧ t = .int .i64 k ∧ u = .int .i64 (ixo o) ∧ v = .int .i64 m ∧ Hid (pst seed f bs k = (o, m)) ∧ Hid (KP w f a bs wr)) (fun _ _ t _ => bs.length - (intOf t).toNat)
  case atStart => exact ⟨0, none, 0, by omega, rfl, rfl, rfl, rfl, HK⟩
  case round =>
    clear HK
    obtain ⟨k, o, m, hk, rfl, rfl, rfl, HP, HK⟩ := hrel
    by_cases hlt : k < bs.length
    · obtain ⟨g, off, rfl, hgl, hrow⟩ := HK.out.2.2.1 (by omega)
      have HRw := hide (show ∀ W, Below wr.heap.size wr W → ∀ k, k < bs.length → W.rangeAt g (off + k * 6) (bkC (bs.getD k [])).toList from fun W hW k hk j u hu => by rw [hW.cell (p := ⟨g, off + k * 6 + j, none⟩) hgl]; exact hrow k hk j u hu)
      have j1 : (k : Int) < (bs.length : Int) := by omega
      have c4 := rng_up (hrow k hlt)
      have c5 := rng_dr (hrow k hlt)
      have c3 := rng_int (hrow k hlt) 3 (by omega)
      have HCd := hide (show cand (bs.getD k []) = ((el (bs.getD k []) 4 == 1) && !(el (bs.getD k []) 5 == 1) && !(el (bs.getD k []) 3 == 0)) from rfl)
      have HPv := hide (show pv seed f (bs.getD k []) = sv seed f (el (bs.getD k []) 0) * el (bs.getD k []) 3 from rfl)
      have HWt := hide (show 0 ≤ el (bs.getD k []) 3 ∧ el (bs.getD k []) 3 ≤ 10 by
        have := (HOk.out k hlt).1
        unfold okb at this
        simp only [Bool.and_eq_true, decide_eq_true_eq] at this
        exact this.2)
      have HSk := hide (show pst seed f bs (k + 1) = if cand (bs.getD k []) = true then (if btr bs o m (pv seed f (bs.getD k [])) k = true then (some k, pv seed f (bs.getD k [])) else (o, m)) else (o, m) by
        cases hcd : cand (bs.getD k [])
        · rw [pst_skip hcd, HP.out]; rfl
        · rw [pst_take hcd HP.out]; rfl)
      clear hrow
      generalize (el (bs.getD k []) 4 == 1) = up at c4 HCd
      generalize (el (bs.getD k []) 5 == 1) = dr at c5 HCd
      obtain ⟨x3, hx3⟩ : ∃ x, el (bs.getD k []) 3 = x := ⟨_, rfl⟩
      rw [hx3] at c3 HCd HPv HWt
      have HX3 := hide hx3
      clear hx3
      generalize cand (bs.getD k []) = cd at HCd HSk
      have hc : (cd = false ∧ (up = false ∨ (up = true ∧ dr = true) ∨ (up = true ∧ dr = false ∧ (x3 == 0) = true))) ∨ (cd = true ∧ up = true ∧ dr = false ∧ (x3 == 0) = false) := by
        rw [HCd.out]
        cases up <;> cases dr <;> cases x3 == 0 <;> simp
      clear HCd
      rcases hc with ⟨rfl, hc⟩ | ⟨rfl, rfl, rfl, hz⟩
      · replace HSk : Hid (pst seed f bs (k + 1) = (o, m)) := HSk
        rcases hc with rfl | ⟨rfl, rfl⟩ | ⟨rfl, rfl, hz⟩
        all_goals
          go_wp2
          go_roundw
          case rel => exact ⟨k + 1, o, m, by omega, by go_num, rfl, rfl, HSk, HK⟩
          case measure => simp [intOf]; omega
      · go_upto_region 13 with fail
        clear c3 c4 c5
        obtain ⟨x0, hx0⟩ : ∃ x, el (bs.getD k []) 0 = x := ⟨_, rfl⟩
        have HX0 := hide hx0
        rw [hx0] at HPv
        have HSx := hide (fun W => HS.out x0 W)
        have HKd := hide (HK.out.kept (show Below wr.heap.size wr wr.drew from (Below.refl _ _).drew))
        have HS13 := hide (show (fload (.pointer (some ⟨w.heap.size, 0, none⟩))).run Tryz.prog wr.drew = .ok (.agg (flC f)) wr.drew ∧ wr.drew.cell? ⟨g, off + k * 6, none⟩ = some (.int .i64 x0) from ⟨HKd.out.1.fl, by rw [rng_id (HRw.out _ (show Below wr.heap.size wr wr.drew from (Below.refl _ _).drew) k hlt), hx0]⟩)
        obtain ⟨g1, c0⟩ := HS13.out
        clear hx0
        have hsv := sv_in seed f x0
        generalize sv seed f x0 = s at HSx HPv hsv
        generalize fe (sok seed f x0) = fx at HSx
        go_region_held3 (fun W' => (fload (.pointer (some ⟨w.heap.size, 0, none⟩))).run Tryz.prog W' = .ok (.agg (flC f)) W' ∧ W'.cell? ⟨g, off + k * 6, none⟩ = some (.int .i64 x0))
          (first
            | exact HS13.out
            | exact HS14.out
            | go_keep)
          (first | (go_at_call 131; refine (HSx.out _).mono ?_; rintro r w4 ⟨rfl, hb4⟩; have HK4 := hide (HKd.out.kept hb4); have HB4 := hide (bt (show Below wr.heap.size wr wr.drew from (Below.refl _ _).drew) hb4); have HS14 := hide (show (fload (.pointer (some ⟨w.heap.size, 0, none⟩))).run Tryz.prog w4 = .ok (.agg (flC f)) w4 ∧ w4.cell? ⟨g, off + k * 6, none⟩ = some (.int .i64 x0) from ⟨HK4.out.1.fl, by rw [rng_id (HRw.out _ HB4.out k hlt), HX0.out]⟩); clear hb4 g1 c0; obtain ⟨g1, c0⟩ := HS14.out))
        clear g1 c0 HS13 HS14 HKd HSx HK
        have c3 : w4.cell? ⟨g, off + k * 6 + 3, none⟩ = some (.int .i64 x3) := by rw [rng_int (HRw.out _ HB4.out k hlt) 3 (by omega), HX3.out]
        obtain ⟨n, hn⟩ : ∃ n, s * x3 = n := ⟨_, rfl⟩
        have q1 : IntKind.i64.wrap (s * x3) = n := by
          obtain ⟨a1, a2⟩ := HWt.out
          obtain ⟨b1, b2⟩ := hsv
          have p1 : 0 ≤ s * x3 := Int.mul_nonneg b1 a1
          have p2 : s * x3 ≤ s * 10 := Int.mul_le_mul_of_nonneg_left a2 b1
          rw [IntKind.wrap_i64]; omega
        rw [HPv.out, hn] at HSk
        clear hn
        clear HPv hsv HWt
        replace HSk : Hid (pst seed f bs (k + 1) = if btr bs o m n k = true then (some k, n) else (o, m)) := HSk
        have HC0 := hide (show ∀ q, (w4.drewN q).cell? ⟨g, off + k * 6, none⟩ = some (.int .i64 x0) from fun q => by rw [← HX0.out]; exact rng_id (HRw.out w4 HB4.out k hlt))
        have HKn := hide (show ∀ q, KP w f (some ⟨g, off, none⟩) bs (w4.drewN q) from fun q => HK4.out.kept ⟨rfl, rfl, rfl, Nat.le_refl _, fun _ _ => rfl⟩)
        cases o with
        | none =>
          have hx : ixo none < 0 := by decide
          generalize ixo none = x at hx ⊢
          replace HSk : Hid (pst seed f bs (k + 1) = (some k, n)) := HSk
          go_upto_region 15 with fail
          have d0 : decide (x < 0) = true := decide_eq_true hx
          clear c3 q1 hx
          go_quiet (fail)
          have HKe := hide (HKn.out nq)
          generalize w4.drewN nq = w9 at HKe ⊢
          go_wp2_with fail
          go_roundw
          case rel => exact ⟨k + 1, some k, n, by omega, by go_num, rfl, rfl, HSk, HKe⟩
          case measure => simp [intOf]; omega
        | some i =>
          have hik := pst_lt seed f bs k i (by rw [HP.out])
          have HBt := hide (show btr bs (some i) m n k = (decide (m < n) || ((n == m) && decide (el (bs.getD k []) 0 < el (bs.getD i []) 0))) from rfl)
          rw [HX0.out] at HBt
          obtain ⟨y0, hy0⟩ : ∃ y, el (bs.getD i []) 0 = y := ⟨_, rfl⟩
          rw [hy0] at HBt
          have HCi := hide (show ∀ q, (w4.drewN q).cell? ⟨g, off + i * 6, none⟩ = some (.int .i64 y0) from fun q => by rw [← hy0]; exact rng_id (HRw.out w4 HB4.out i (by omega)))
          have d0 : decide ((i : Int) < 0) = false := decide_eq_false (by omega)
          have j5 : (i : Int) < (bs.length : Int) := by omega
          rw [show ixo (some i) = (i : Int) from rfl]
          clear hy0 hik
          go_upto_region 15 with fail
          clear c3 q1
          have c0 := HC0.out
          have ci := HCi.out
          by_cases h1 : m < n
          · have d1 : decide (m < n) = true := decide_eq_true h1
            replace HSk : Hid (pst seed f bs (k + 1) = (some k, n)) := by rw [HSk.out, HBt.out, d1]; exact hide rfl
            clear h1
            go_quiet (fail)
            have HKe := hide (HKn.out nq)
            generalize w4.drewN nq = w9 at HKe ⊢
            go_wp2_with fail
            go_roundw
            case rel => exact ⟨k + 1, some k, n, by omega, by go_num, rfl, rfl, HSk, HKe⟩
            case measure => simp [intOf]; omega
          · have d1 : decide (m < n) = false := decide_eq_false h1
            cases h2 : n == m
            · replace HSk : Hid (pst seed f bs (k + 1) = (some i, m)) := by rw [HSk.out, HBt.out, d1, h2]; exact hide rfl
              clear h1
              go_quiet (fail)
              have HKe := hide (HKn.out nq)
              generalize w4.drewN nq = w9 at HKe ⊢
              go_wp2_with fail
              go_roundw
              case rel => exact ⟨k + 1, some i, m, by omega, by go_num, rfl, rfl, HSk, HKe⟩
              case measure => simp [intOf]; omega
            · by_cases h3 : x0 < y0
              · have d3 : decide (x0 < y0) = true := decide_eq_true h3
                replace HSk : Hid (pst seed f bs (k + 1) = (some k, n)) := by rw [HSk.out, HBt.out, d1, h2, d3]; exact hide rfl
                clear h1 h3
                go_quiet (fail)
                have HKe := hide (HKn.out nq)
                generalize w4.drewN nq = w9 at HKe ⊢
                go_wp2_with fail
                go_roundw
                case rel => exact ⟨k + 1, some k, n, by omega, by go_num, rfl, rfl, HSk, HKe⟩
                case measure => simp [intOf]; omega
              · have d3 : decide (x0 < y0) = false := decide_eq_false h3
                replace HSk : Hid (pst seed f bs (k + 1) = (some i, m)) := by rw [HSk.out, HBt.out, d1, h2, d3]; exact hide rfl
                clear h1 h3
                go_quiet (fail)
                have HKe := hide (HKn.out nq)
                generalize w4.drewN nq = w9 at HKe ⊢
                go_wp2_with fail
                go_roundw
                case rel => exact ⟨k + 1, some i, m, by omega, by go_num, rfl, rfl, HSk, HKe⟩
                case measure => simp [intOf]; omega
    · obtain rfl : bs.length = k := by omega
      cases o with
      | none =>
        have hx : ixo none < 0 := by decide
        generalize ixo none = x at hx ⊢
        have HE := hide (show R = ([], 4) by rw [← HR.out, HP.out]; rfl)
        go_wp2_with (refine at_storek rfl (.tmp 6) (.tmp 108) rfl rfl HK.out.2.1 [] rfl ?_; intro w5 p5 on5; have HB5 := hide (on5.below HK.out.2.2.2 (Nat.le_succ _)); replace p5 := hide p5; clear on5)
        try simp only [Exit.inBlock, Exit.then]
        refine bodyPost_ret (results_bk rfl _ _ (w.heap.size + 1) [] rfl p5.out) rfl ?_
        exact ⟨by rw [HE.out]; rfl, HB5.out⟩
      | some i =>
        have hil := pst_lt seed f bs bs.length i (by rw [HP.out])
        have HE := hide (show R = (bs.getD i [], 0) by rw [← HR.out, HP.out]; rfl)
        obtain ⟨g, off, rfl, hgl, hrow⟩ := HK.out.2.2.1 (by omega)
        have gk := rng_kl (hrow i hil)
        obtain ⟨bi, hbi⟩ : ∃ b, bs.getD i [] = b := ⟨_, rfl⟩
        rw [hbi] at gk HE
        clear hbi
        have j2 : ¬ (i : Int) < 0 := by omega
        have j3 : (i : Int) < (bs.length : Int) := by omega
        clear hrow hgl
        rw [show ixo (some i) = (i : Int) from rfl]
        go_wp2_with (refine at_storek rfl (.tmp 6) (.tmp 112) rfl rfl HK.out.2.1 bi rfl ?_; intro w5 p5 on5; have HB5 := hide (on5.below HK.out.2.2.2 (Nat.le_succ _)); replace p5 := hide p5; clear on5)
        try simp only [Exit.inBlock, Exit.then]
        refine bodyPost_ret (results_bk rfl _ _ (w.heap.size + 1) bi rfl p5.out) rfl ?_
        exact ⟨by rw [HE.out]; rfl, HB5.out⟩
theorem rpick_any (seed : Int) (f : List Int) (a : Option Addr) (cap : Nat) (bs : List (List Int)) (w : World) (h : Bks a bs w) (hl : bs.length ≤ maxLen) :
    Calls Tryz.prog 84 #[.int .i64 seed, .agg (flC f), .slice a bs.length cap] w fun r w' => r = .returned (.tuple #[.agg (bkC (pko seed f bs).1), .int .i64 (pko seed f bs).2]) ∧ Below w.heap.size w w' := by
  by_cases hb : (bf bs).2 = 0
  · cases hs : sok seed f 0
    · have he : pko seed f bs = ([], 1) := by unfold pko; rw [if_pos hb, hs]; rfl
      rw [he]
      exact rpick_bad seed f a cap bs w h hl 1 he (.inr ⟨hb, hs⟩)
    · have he : pko seed f bs = pkr (pst seed f bs bs.length).1 bs := by unfold pko; rw [if_pos hb, hs]; rfl
      rw [he]
      exact rpick_ok seed f a cap bs w h hl hb hs
  · have he : pko seed f bs = ([], (bf bs).2) := by unfold pko; rw [if_neg hb]
    rw [he]
    exact rpick_bad seed f a cap bs w h hl _ he (.inl hb)
end Go.Proofs.YtkhahbghmdccaaaGreat
