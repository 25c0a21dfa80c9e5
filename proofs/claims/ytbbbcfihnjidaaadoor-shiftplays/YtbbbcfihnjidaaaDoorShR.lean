/- The document's own stream: what goes up, by contracts, one for each way out. -/
import Derived.Test.YtbbbcfihnjidaaaDoorShF
import Derived.Test.YtbbbcfihnjidaaaDoorShRf
namespace Go.Proofs.YtbbbcfihnjidaaaDoor
open Go.RowKit

theorem less_any (x y : Int) (w : World) (x0 : 0 ≤ x) (x1 : x < 4294967296) (y0 : 0 ≤ y) (y1 : y < 4294967296) : Calls Tryd.prog 16 #[.int .i64 x, .int .i64 y] w fun e w' => e = .returned (.int .i64 (md (x - y))) ∧ w' = w := by
  have hm := hide (show (x - y + 4294967296) % 4294967296 = md (x - y) by unfold md; omega)
  go_enter Tryd.func16, Tryd.ntmps16
  go_wp2
  go_ret
  exact ⟨by rw [hm.out]; rfl, rfl⟩
set_option maxRecDepth 100000 in
set_option maxHeartbeats 4000000 in
theorem rup_bad (B : Nat) (hd : List Int) (s : Int) (b h : Bool) (z : List Int) (a : Option Addr) (len cap : Nat) (w : World) (hS : ST 34 B hd s b h w) (hm : len ≤ maxLen) (hF : sf z len ≠ 0) :
    Calls Tryd.prog 8 #[.pointer (some ⟨B, 0, none⟩), .agg (sgC z a len cap)] w (UQ 34 (Value.int .i64) B hd (sf z len, [], [], s, b, h) w) := by
  have HV := hide (T2.start w z a len cap)
  unfold zero7 at HV
  have HC := hide (fun W => rfault_any z a len cap W hm)
  have HST := hide (fun W (hb : Below w.heap.size w W) => hS.kept hb)
  clear hS
  generalize sf z len = E at hF HC ⊢
  have e0 : (E != 0) = true := by simpa using hF
  clear hF
  go_enter Tryd.func8, Tryd.ntmps8
  go_upto_region 1 with fail
  generalize (World.alloc _ _).alloc _ = W0 at HV ⊢
  go_wp2_with (first
    | (refine at_load rfl (.tmp 3) rfl rfl HV.out.1 ?_)
    | (go_at_call 15; refine (HC.out _).mono ?_; rintro e w1 ⟨rfl, hb1⟩; replace HV := hide (HV.out.kept hb1); clear hb1)
    | (refine at_store rfl (.tmp 4) (.tmp 14) rfl rfl HV.out.2.1 [] none 0 0 rfl ?_; intro w5 p5 on5; have HB := hide (HV.out.put on5); replace p5 := hide p5; clear on5 HV))
  try simp only [Exit.inBlock, Exit.then]
  refine bodyPost_ret (results_sg rfl _ _ (w.heap.size + 1) [] none 0 0 rfl p5.out) rfl ?_
  exact ⟨none, 0, 0, rfl, row_no _, HST.out _ HB.out, Bu.of HB.out⟩
set_option maxRecDepth 100000 in
set_option maxHeartbeats 4000000 in
theorem rup_shape (B : Nat) (hd : List Int) (s : Int) (b h : Bool) (z : List Int) (a : Option Addr) (len cap : Nat) (w : World) (hS : ST 34 B hd s b h w) (hm : len ≤ maxLen) (hF : sf z len = 0) (h6 : el z 0 ≠ 6) :
    Calls Tryd.prog 8 #[.pointer (some ⟨B, 0, none⟩), .agg (sgC z a len cap)] w (UQ 34 (Value.int .i64) B hd (2, [], [], s, b, h) w) := by
  have HV := hide (T2.start w z a len cap)
  unfold zero7 at HV
  have HC := hide (fun W => rfault_any z a len cap W hm)
  rw [hF] at HC
  have HST := hide (fun W (hb : Below w.heap.size w W) => hS.kept hb)
  have e6 : (el z 0 != 6) = true := by simpa using h6
  clear hS hF h6
  go_enter Tryd.func8, Tryd.ntmps8
  go_upto_region 1 with fail
  generalize (World.alloc _ _).alloc _ = W0 at HV ⊢
  go_upto_region 4 with (first
    | (refine at_load rfl (.tmp 3) rfl rfl HV.out.1 ?_)
    | (go_at_call 15; refine (HC.out _).mono ?_; rintro e w1 ⟨rfl, hb1⟩; replace HV := hide (HV.out.kept hb1); clear hb1))
  have l0 := HV.out.1.c0
  go_wp2_with (refine at_store rfl (.tmp 4) (.tmp 19) rfl rfl HV.out.2.1 [] none 0 0 rfl ?_; intro w5 p5 on5; have HB := hide (HV.out.put on5); replace p5 := hide p5; clear on5 HV)
  try simp only [Exit.inBlock, Exit.then]
  refine bodyPost_ret (results_sg rfl _ _ (w.heap.size + 1) [] none 0 0 rfl p5.out) rfl ?_
  exact ⟨none, 0, 0, rfl, row_no _, HST.out _ HB.out, Bu.of HB.out⟩
theorem cf_sf {z : List Int} {len : Nat} (h : cf z len = 0) : sf z len = 0 := by
  unfold cf at h
  split at h
  · cases h
  · exact h
set_option maxRecDepth 100000 in
set_option maxHeartbeats 8000000 in
theorem rup_syn (B : Nat) (hd : List Int) (s : Int) (b h : Bool) (z : List Int) (a : Option Addr) (len cap : Nat) (zs : List Int) (w : World) (hS : ST 34 B hd s b h w) (hr : Row8 w a len cap zs) (hF : cf z len = 0) (hsyn : el z 5 / 2 % 2 = 1) :
    Calls Tryd.prog 8 #[.pointer (some ⟨B, 0, none⟩), .agg (sgC z a len cap)] w (UQ 34 (Value.int .i64) B hd (bgo hd s b h z zs) w) := by
  have HV := hide (T2.start w z a len cap)
  unfold zero7 at HV
  have HC := hide (fun W => rfault_any z a len cap W hr.2.1)
  rw [cf_sf hF] at HC
  obtain ⟨h6, hl, hq, -, hfl⟩ := cf_ok hF
  have e6 : (el z 0 != 6) = false := by rw [h6]; rfl
  have HST := hide (fun W (hb : Below w.heap.size w W) => hS.kept hb)
  have HRw := hide (fun W (hb : Below w.heap.size w W) => hr.below hb)
  have hlt := hide hS.lt
  obtain ⟨x, n, c, p, hrd, hn⟩ := hS
  have hln := hr.1
  have hdn := hrd.1
  have HS := hide (fun W (hb : Below w.heap.size w W) => p.kept hb)
  have HD := hide (fun W (hb : Below w.heap.size w W) => hrd.below hb)
  have es : (el z 5 / 2 % 2 == 1) = true := by rw [hsyn]; rfl
  clear p hr hrd h6 hF hsyn
  go_enter Tryd.func8, Tryd.ntmps8
  go_upto_region 1 with fail
  generalize (World.alloc _ _).alloc _ = W0 at HV ⊢
  go_upto_region 4 with (first
    | (refine at_load rfl (.tmp 3) rfl rfl HV.out.1 ?_)
    | (go_at_call 15; refine (HC.out _).mono ?_; rintro e w1 ⟨rfl, hb1⟩; replace HV := hide (HV.out.kept hb1); clear hb1))
  have P := hide (HS.out _ HV.out.2.2)
  have l0 := HV.out.1.c0
  have l5 := HV.out.1.c5
  have l7 := HV.out.1.c7
  have k0 := P.out.c0
  by_cases hlp : 0 < len
  · have HO := hide (show bgo hd s b h z zs = (2, [], [], s, b, h) from if_pos (by omega))
    clear P hln hdn
    go_wp2_with (refine at_store rfl (.tmp 4) (.tmp 36) rfl rfl HV.out.2.1 [] none 0 0 rfl ?_; intro w5 p5 on5; have HB := hide (HV.out.put on5); replace p5 := hide p5; clear on5 HV)
    try simp only [Exit.inBlock, Exit.then]
    refine bodyPost_ret (results_sg rfl _ _ (w.heap.size + 1) [] none 0 0 rfl p5.out) rfl ?_
    rw [HO.out]
    exact ⟨none, 0, 0, rfl, row_no _, HST.out _ HB.out, Bu.of HB.out⟩
  · obtain rfl : len = 0 := by omega
    obtain rfl : zs = [] := List.eq_nil_of_length_eq_zero hln
    have HO := hide (show bgo hd s b h z [] = (0, zq z (md (el z 3 - n)), [], md (el z 3 + 1), true, hh b h s (md (el z 3 + 1))) by rw [show bgo hd s b h z [] = _ from if_neg (by simp), hdn])
    have HM := hide (show (el z 3 + 1) % 4294967296 = md (el z 3 + 1) from rfl)
    generalize md (el z 3 + 1) = t at HM HO
    have HW := hide (fun W => less_any (el z 3) n W hq.1 (by omega) (by omega) (by omega))
    generalize md (el z 3 - n) = M at HW HO
    have l3 := HV.out.1.c3
    have R := hide (HRw.out _ HV.out.2.2)
    have D := hide (HD.out _ HV.out.2.2)
    have V := hide (HV.out.three (B := B))
    clear hln hdn HV HS HD HST HRw
    go_upto_region 11 with fail
    rw [HM.out]
    clear HM l0 l5 l7 k0 l3
    have k1 := P.out.c1
    have k2 := P.out.c2
    have k3 := P.out.c3
    have f3 := P.out.frz 3
    cases b
    case' false =>
      rw [show hh false h s t = false from rfl] at HO
      go_upto_region 13 with fail
      have s3 := P.out.set3 false
      replace V := hide (V.out.turn P.out s3.2.bu)
      replace R := hide (R.out.bu P.out s3.2.bu)
      replace D := hide (D.out.bu P.out s3.2.bu)
      replace P := hide s3.1
      clear s3
      generalize World.setCell _ _ _ = W1 at V R D P ⊢
    case' true =>
      by_cases hst : s = t
      case' pos =>
        rw [show hh true h s t = h by rw [hst]; simp [hh]] at HO
        have q1 : (s != t) = false := by rw [hst]; simp
        clear hst
        go_upto_region 13 with fail
        clear q1
      case' neg =>
        rw [show hh true h s t = false by simp [hh, hst]] at HO
        have q1 : (s != t) = true := by simpa using hst
        clear hst
        go_upto_region 13 with fail
        have s3 := P.out.set3 false
        replace V := hide (V.out.turn P.out s3.2.bu)
        replace R := hide (R.out.bu P.out s3.2.bu)
        replace D := hide (D.out.bu P.out s3.2.bu)
        replace P := hide s3.1
        clear q1 s3
        generalize World.setCell _ _ _ = W1 at V R D P ⊢
    all_goals
      clear k1 k2 k3 f3
      have k2 := P.out.c2
      have f2 := P.out.frz 2
      have s2 := P.out.set2 true
      have V2 := hide (V.out.turn P.out s2.2.bu)
      have R2 := hide (R.out.bu P.out s2.2.bu)
      have D2 := hide (D.out.bu P.out s2.2.bu)
      have P2 := hide s2.1
      have k1' := P2.out.c1
      have f1 := P2.out.frz 1
      have s1 := P2.out.set1 t
      replace V2 := hide (V2.out.turn P2.out s1.2.bu)
      replace R2 := hide (R2.out.bu P2.out s1.2.bu)
      replace D2 := hide (D2.out.bu P2.out s1.2.bu)
      replace P2 := hide s1.1
      clear s2 s1 V R D P
      go_upto_region 15 with fail
      clear k2 f2 k1' f1
      generalize World.setCell _ _ _ = W2 at V2 R2 D2 P2 ⊢
      have l3 := V2.out.1.c3
      have f3 := V2.out.1.frz 3
      have s3 := V2.out.1.set3 M
      have V3 := hide (show T3 B w (zq z M) a 0 cap _ from ⟨s3.1, s3.2.sg V2.out.2.1 (by omega), s3.2.bun V2.out.2.2 (Nat.le_refl _)⟩)
      have R3 := hide (R2.out.past V2.out.1 s3.2)
      have D3 := hide (D2.out.past V2.out.1 s3.2)
      have P3 := hide (show StB _ _ _ _ _ _ _ _ _ from (s3.2.2.2.2.2 B (by have := hlt.out; omega)).trans P2.out)
      clear s3
      go_upto_region 16 with (go_at_call 16; refine (HW.out _).mono ?_; rintro e w' ⟨rfl, hw'⟩; rw [hw']; clear hw' w')
      clear l3 f3 V2 R2 D2 P2
      generalize World.setCell _ _ _ = W3 at V3 R3 D3 P3 ⊢
      go_wp2_with (first
        | (refine at_load rfl (.tmp 3) rfl rfl V3.out.1 ?_)
        | (refine at_store rfl (.tmp 4) (.tmp 74) rfl rfl V3.out.2.1 (zq z M) a 0 cap rfl ?_; intro w5 p5 on5; have HU := hide (V3.out.put on5); replace R3 := hide (R3.out.past V3.out.2.1 on5); replace D3 := hide (D3.out.past V3.out.2.1 on5); replace P3 := hide (show StB _ _ _ _ _ _ _ _ w5 from (on5.2.2.2.2 B (by have := hlt.out; omega)).trans P3.out); replace p5 := hide p5; clear on5 V3))
      try simp only [Exit.inBlock, Exit.then]
      refine bodyPost_ret (results_sg rfl _ _ (w.heap.size + 1) (zq z M) a 0 cap rfl p5.out) rfl ?_
      rw [HO.out]
      exact ⟨a, 0, cap, rfl, R3.out, ⟨x, n, c, P3.out, D3.out, hn⟩, HU.out⟩
end Go.Proofs.YtbbbcfihnjidaaaDoor
