/- The document's own stream: the rest of what goes up, and what goes down, by contracts. -/
import Derived.Test.YtbbbcfihnjidaaaDoorShR
namespace Go.Proofs.YtbbbcfihnjidaaaDoor
open Go.RowKit

set_option maxRecDepth 100000 in
set_option maxHeartbeats 8000000 in
theorem rup_more (B : Nat) (hd : List Int) (s : Int) (b h : Bool) (z : List Int) (a : Option Addr) (len cap : Nat) (zs : List Int) (w : World) (hS : ST 34 B hd s b h w) (hr : Row8 w a len cap zs) (hF : cf z len = 0) (hsyn : ¬ el z 5 / 2 % 2 = 1) (O : Int × List Int × List Int × Int × Bool × Bool) (hO : O = if b = false then (9, [], [], s, b, h) else if el z 3 = s ∧ h = false then fio hd s b h z zs else (0, z, zs, s, b, h)) :
    Calls Tryd.prog 8 #[.pointer (some ⟨B, 0, none⟩), .agg (sgC z a len cap)] w (UQ 34 (Value.int .i64) B hd O w) := by
  have HV := hide (T2.start w z a len cap)
  unfold zero7 at HV
  have HC := hide (fun W => rfault_any z a len cap W hr.2.1)
  rw [cf_sf hF] at HC
  obtain ⟨h6, hl, hq, -, hfl⟩ := cf_ok hF
  have e6 : (el z 0 != 6) = false := by rw [h6]; rfl
  have HST := hide (fun W (hb : Below w.heap.size w W) => hS.kept hb)
  have HRw := hide (fun W (hb : Below w.heap.size w W) => hr.below hb)
  obtain ⟨x, n, c, p, hrd, hn⟩ := hS
  have hln := hide hr.1
  have hdn := hide hrd.1
  have HS := hide (fun W (hb : Below w.heap.size w W) => p.kept hb)
  have HD := hide (fun W (hb : Below w.heap.size w W) => hrd.below hb)
  have es : (el z 5 / 2 % 2 == 1) = false := by simpa using hsyn
  have HW := hide (fun W => less_any (el z 3) n W hq.1 (by omega) (by omega) (by omega))
  have HOF := hide (show 300 < n + len → fio hd s b h z zs = (3, [], [], s, b, h) from fun hx => if_pos (by rw [hln.out, hdn.out]; exact hx))
  have HOK := hide (show ¬ 300 < n + len → fio hd s b h z zs = (0, zq z (md (el z 3 - n)), hd ++ zs, s, b, h) from fun hx => by rw [show fio hd s b h z zs = _ from if_neg (by rw [hln.out, hdn.out]; exact hx), hdn.out])
  generalize md (el z 3 - n) = M at HW HOK
  clear p hr hrd h6 hF hsyn
  go_enter Tryd.func8, Tryd.ntmps8
  go_upto_region 1 with fail
  generalize (World.alloc _ _).alloc _ = W0 at HV ⊢
  go_upto_region 4 with (first
    | (refine at_load rfl (.tmp 3) rfl rfl HV.out.1 ?_)
    | (go_at_call 15; refine (HC.out _).mono ?_; rintro e w1 ⟨rfl, hb1⟩; replace HV := hide (HV.out.kept hb1); clear hb1))
  have P := hide (HS.out _ HV.out.2.2)
  have l0 := HV.out.1.c0
  have l5 := HV.out.1.c5
  have l7 := HV.out.1.c7
  have k0 := P.out.c0
  go_upto_region 17 with fail
  clear l0 l5 k0
  have k2 := P.out.c2
  cases b
  · rw [if_pos rfl] at hO
    have HO := hide hO
    clear hO P l7
    go_wp2_with (refine at_store rfl (.tmp 4) (.tmp 80) rfl rfl HV.out.2.1 [] none 0 0 rfl ?_; intro w5 p5 on5; have HB := hide (HV.out.put on5); replace p5 := hide p5; clear on5 HV)
    try simp only [Exit.inBlock, Exit.then]
    refine bodyPost_ret (results_sg rfl _ _ (w.heap.size + 1) [] none 0 0 rfl p5.out) rfl ?_
    rw [HO.out]
    exact ⟨none, 0, 0, rfl, row_no _, HST.out _ HB.out, Bu.of HB.out⟩
  · rw [if_neg (by decide)] at hO
    go_upto_region 19 with fail
    have l3 := HV.out.1.c3
    have k1 := P.out.c1
    have k3 := P.out.c3
    have HVn := hide (fun n => HV.out.kept (W' := World.drewN _ n) ⟨rfl, rfl, rfl, Nat.le_refl _, fun _ _ => rfl⟩)
    clear k2 P l7
    by_cases hqs : el z 3 = s
    case' pos =>
      have e1 : (el z 3 != s) = false := by rw [hqs]; simp
      cases h
    case' pos.false =>
      rw [if_pos ⟨hqs, rfl⟩] at hO
      have HO := hide hO
      clear hO hqs HV
      go_quiet (fail)
      generalize hW : World.drewN _ _ = W1
      have HV : Hid (T2 w z a len cap W1) := by rw [← hW]; exact HVn.out _
      clear hW HVn k1 k3 l3 e1
      have l7 := HV.out.1.c7
      by_cases hfull : 300 < n + len
      · have HO2 := hide (HOF.out hfull)
        have j1 : (300 : Int) < (n : Int) + (len : Int) := by omega
        clear HOF HOK hfull
        go_wp2_with (refine at_store rfl (.tmp 4) (.tmp 101) rfl rfl HV.out.2.1 [] none 0 0 rfl ?_; intro w5 p5 on5; have HB := hide (HV.out.put on5); replace p5 := hide p5; clear on5 HV)
        try simp only [Exit.inBlock, Exit.then]
        refine bodyPost_ret (results_sg rfl _ _ (w.heap.size + 1) [] none 0 0 rfl p5.out) rfl ?_
        rw [HO.out, HO2.out]
        exact ⟨none, 0, 0, rfl, row_no _, HST.out _ HB.out, Bu.of HB.out⟩
      · have HO2 := hide (HOK.out hfull)
        have j1 : ¬ (300 : Int) < (n : Int) + (len : Int) := by omega
        have k0 := (HS.out _ HV.out.2.2).c0
        have D := hide (HD.out _ HV.out.2.2)
        have G0 := hide (Gr.nil W1)
        clear HOF HOK hfull
        go_upto_region 25 with (at_builtin; refine gr_app rfl (.tmp 102) (.tmp 106) rfl rfl G0.out rfl D.out (by simp only [List.length_nil]; omega) ?_; intro v9 w9 g9; replace g9 := hide g9)
        have HV1 := HV
        replace HV := hide (HV.out.kept g9.out.2)
        clear l7 k0 D G0 j1
        have l7 := HV.out.1.c7
        have R := hide (HRw.out _ HV.out.2.2)
        go_upto_region 26 with (at_builtin; refine gr_app rfl (.tmp 108) (.tmp 110) rfl rfl g9.out rfl R.out (by rw [List.nil_append, hdn.out]; omega) ?_; intro v10 w10 g10; replace g10 := hide g10)
        replace HV := hide (HV1.out.kept g10.out.2)
        rw [List.nil_append] at g10
        obtain ⟨y, cy, hv, hry, -⟩ := g10.out.1.row8
        rw [List.length_append, hdn.out, hln.out] at hv hry
        subst hv
        clear l7 R g9 g10 HV1
        have l7 := HV.out.1.c7
        have f7 := HV.out.1.frz 7
        have s7 := HV.out.1.set7 y (n + len) cy
        have RY := hide (hry.past HV.out.1 s7.2)
        replace HV := hide (HV.out.turn s7.1 s7.2)
        clear s7 hry
        go_upto_region 27 with fail
        clear l7 f7
        generalize World.setCell _ _ _ = W2 at HV RY ⊢
        have l3 := HV.out.1.c3
        have f3 := HV.out.1.frz 3
        have s3 := HV.out.1.set3 M
        have RZ := hide (RY.out.past HV.out.1 s3.2)
        have HV3 := hide (HV.out.turn s3.1 s3.2)
        clear s3
        go_upto_region 28 with (go_at_call 16; refine (HW.out _).mono ?_; rintro e w' ⟨rfl, hw'⟩; rw [hw']; clear hw' w')
        clear l3 f3 HV RY
        generalize World.setCell _ _ _ = W3 at HV3 RZ ⊢
        go_wp2_with (first
          | (refine at_load rfl (.tmp 3) rfl rfl HV3.out.1 ?_)
          | (refine at_store rfl (.tmp 4) (.tmp 119) rfl rfl HV3.out.2.1 (zq z M) y (n + len) cy rfl ?_; intro w5 p5 on5; have HB := hide (HV3.out.put on5); replace RZ := hide (RZ.out.past HV3.out.2.1 on5); replace p5 := hide p5; clear on5 HV3))
        try simp only [Exit.inBlock, Exit.then]
        refine bodyPost_ret (results_sg rfl _ _ (w.heap.size + 1) (zq z M) y (n + len) cy rfl p5.out) rfl ?_
        rw [HO.out, HO2.out]
        exact ⟨y, n + len, cy, rfl, RZ.out, HST.out _ HB.out, Bu.of HB.out⟩
    case' neg =>
      have e1 : (el z 3 != s) = true := by simpa using hqs
    all_goals
      rw [if_neg (fun hx => by first | exact hqs hx.1 | cases hx.2)] at hO
      have HO := hide hO
      clear hO hqs HOF HOK HV
      go_quiet (fail)
      generalize hW : World.drewN _ _ = W1
      have HV : Hid (T2 w z a len cap W1) := by rw [← hW]; exact HVn.out _
      clear hW HVn k1 k3 l3 e1
      have R := hide (HRw.out _ HV.out.2.2)
      go_wp2_with (first
        | (refine at_load rfl (.tmp 3) rfl rfl HV.out.1 ?_)
        | (refine at_store rfl (.tmp 4) (.tmp 94) rfl rfl HV.out.2.1 z a len cap rfl ?_; intro w5 p5 on5; have HB := hide (HV.out.put on5); replace R := hide (R.out.past HV.out.2.1 on5); replace p5 := hide p5; clear on5 HV))
      try simp only [Exit.inBlock, Exit.then]
      refine bodyPost_ret (results_sg rfl _ _ (w.heap.size + 1) z a len cap rfl p5.out) rfl ?_
      rw [HO.out]
      exact ⟨a, len, cap, rfl, R.out, HST.out _ HB.out, Bu.of HB.out⟩
theorem rup_any (B : Nat) (hd : List Int) (s : Int) (b h : Bool) (z : List Int) (a : Option Addr) (len cap : Nat) (zs : List Int) (w : World) (hS : ST 34 B hd s b h w) (hr : Row8 w a len cap zs) :
    Calls Tryd.prog 8 #[.pointer (some ⟨B, 0, none⟩), .agg (sgC z a len cap)] w (UQ 34 (Value.int .i64) B hd (upo hd s b h z zs) w) := by
  have hl := hr.1
  by_cases hF : cf z len = 0
  · have e : upo hd s b h z zs = if el z 5 / 2 % 2 = 1 then bgo hd s b h z zs else if b = false then (9, [], [], s, b, h) else if el z 3 = s ∧ h = false then fio hd s b h z zs else (0, z, zs, s, b, h) := by unfold upo; rw [hl, if_neg (by rw [hF]; decide)]
    by_cases hsyn : el z 5 / 2 % 2 = 1
    · rw [e, if_pos hsyn]
      exact rup_syn B hd s b h z a len cap zs w hS hr hF hsyn
    · rw [if_neg hsyn] at e
      exact rup_more B hd s b h z a len cap zs w hS hr hF hsyn _ e
  · rw [show upo hd s b h z zs = (cf z len, [], [], s, b, h) by unfold upo; rw [hl, if_pos hF]]
    by_cases hs : sf z len = 0
    · have h6 : el z 0 ≠ 6 := fun h6 => hF (by unfold cf; rw [if_neg (fun hx => hx.2 h6)]; exact hs)
      rw [show cf z len = 2 from if_pos ⟨hs, h6⟩]
      exact rup_shape B hd s b h z a len cap w hS hr.2.1 hs h6
    · rw [show cf z len = sf z len from if_neg (fun hx => hs hx.1)]
      exact rup_bad B hd s b h z a len cap w hS hr.2.1 hs
end Go.Proofs.YtbbbcfihnjidaaaDoor
