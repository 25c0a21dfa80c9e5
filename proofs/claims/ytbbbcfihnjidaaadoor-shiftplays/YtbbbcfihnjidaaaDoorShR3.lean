/- The document's own stream: what goes down, by contracts; Begun. -/
import Derived.Test.YtbbbcfihnjidaaaDoorShR2
namespace Go.Proofs.YtbbbcfihnjidaaaDoor
open Go.RowKit

theorem begun_any (B : Nat) (hd : List Int) (s : Int) (b h : Bool) (w : World) (hS : ST 46 B hd s b h w) : Calls Tryd.prog 11 #[.pointer (some ⟨B, 0, none⟩)] w fun e w' => e = .returned (.bool b) ∧ w' = w := by
  obtain ⟨a, n, c, p, -, -⟩ := hS
  have l := p.c2
  clear p
  go_enter Tryd.func11, Tryd.ntmps11
  go_wp2
  go_ret
  exact ⟨rfl, rfl⟩
set_option maxRecDepth 100000 in
set_option maxHeartbeats 4000000 in
theorem rdown_bad (B : Nat) (hd : List Int) (s : Int) (b h : Bool) (z : List Int) (a : Option Addr) (len cap : Nat) (w : World) (hS : ST 34 B hd s b h w) (hm : len ≤ maxLen) (hF : sf z len ≠ 0) :
    Calls Tryd.prog 6 #[.pointer (some ⟨B, 0, none⟩), .agg (sgC z a len cap)] w (UQ 34 (Value.int .i64) B hd (sf z len, [], [], s, b, h) w) := by
  have HV := hide (T2.start w z a len cap)
  unfold zero7 at HV
  have HC := hide (fun W => rfault_any z a len cap W hm)
  have HST := hide (fun W (hb : Below w.heap.size w W) => hS.kept hb)
  clear hS
  generalize sf z len = E at hF HC ⊢
  have e0 : (E != 0) = true := by simpa using hF
  clear hF
  go_enter Tryd.func6, Tryd.ntmps6
  go_upto_region 1 with fail
  generalize (World.alloc _ _).alloc _ = W0 at HV ⊢
  go_wp2_with (first
    | (refine at_load rfl (.tmp 3) rfl rfl HV.out.1 ?_)
    | (go_at_call 15; refine (HC.out _).mono ?_; rintro e w1 ⟨rfl, hb1⟩; replace HV := hide (HV.out.kept hb1); clear hb1)
    | (refine at_store rfl (.tmp 4) (.tmp 12) rfl rfl HV.out.2.1 [] none 0 0 rfl ?_; intro w5 p5 on5; have HB := hide (HV.out.put on5); replace p5 := hide p5; clear on5 HV))
  try simp only [Exit.inBlock, Exit.then]
  refine bodyPost_ret (results_sg rfl _ _ (w.heap.size + 1) [] none 0 0 rfl p5.out) rfl ?_
  exact ⟨none, 0, 0, rfl, row_no _, HST.out _ HB.out, Bu.of HB.out⟩
set_option maxRecDepth 100000 in
set_option maxHeartbeats 4000000 in
theorem rdown_shape (B : Nat) (hd : List Int) (s : Int) (b h : Bool) (z : List Int) (a : Option Addr) (len cap : Nat) (w : World) (hS : ST 34 B hd s b h w) (hm : len ≤ maxLen) (hF : sf z len = 0) (h6 : el z 0 ≠ 6) :
    Calls Tryd.prog 6 #[.pointer (some ⟨B, 0, none⟩), .agg (sgC z a len cap)] w (UQ 34 (Value.int .i64) B hd (2, [], [], s, b, h) w) := by
  have HV := hide (T2.start w z a len cap)
  unfold zero7 at HV
  have HC := hide (fun W => rfault_any z a len cap W hm)
  rw [hF] at HC
  have HST := hide (fun W (hb : Below w.heap.size w W) => hS.kept hb)
  have e6 : (el z 0 != 6) = true := by simpa using h6
  clear hS hF h6
  go_enter Tryd.func6, Tryd.ntmps6
  go_upto_region 1 with fail
  generalize (World.alloc _ _).alloc _ = W0 at HV ⊢
  go_upto_region 4 with (first
    | (refine at_load rfl (.tmp 3) rfl rfl HV.out.1 ?_)
    | (go_at_call 15; refine (HC.out _).mono ?_; rintro e w1 ⟨rfl, hb1⟩; replace HV := hide (HV.out.kept hb1); clear hb1))
  have l0 := HV.out.1.c0
  go_wp2_with (refine at_store rfl (.tmp 4) (.tmp 17) rfl rfl HV.out.2.1 [] none 0 0 rfl ?_; intro w5 p5 on5; have HB := hide (HV.out.put on5); replace p5 := hide p5; clear on5 HV)
  try simp only [Exit.inBlock, Exit.then]
  refine bodyPost_ret (results_sg rfl _ _ (w.heap.size + 1) [] none 0 0 rfl p5.out) rfl ?_
  exact ⟨none, 0, 0, rfl, row_no _, HST.out _ HB.out, Bu.of HB.out⟩
set_option maxRecDepth 100000 in
set_option maxHeartbeats 8000000 in
theorem rdown_ok (B : Nat) (hd : List Int) (s : Int) (b h : Bool) (z : List Int) (a : Option Addr) (len cap : Nat) (zs : List Int) (w : World) (hS : ST 34 B hd s b h w) (hs : 0 ≤ s ∧ s < 4294967296) (hr : Row8 w a len cap zs) (hF : cf z len = 0) (O : Int × List Int × List Int × Int × Bool × Bool) (hO : O = if b = false then (9, [], [], s, b, h) else if el z 5 / 16 % 2 = 0 then (0, z, zs, s, b, h) else if ah (el z 4) s = true then (0, za z s, zs, s, b, h) else (0, z, zs, s, b, true)) :
    Calls Tryd.prog 6 #[.pointer (some ⟨B, 0, none⟩), .agg (sgC z a len cap)] w (UQ 34 (Value.int .i64) B hd O w) := by
  have HV := hide (T2.start w z a len cap)
  unfold zero7 at HV
  have HC := hide (fun W => rfault_any z a len cap W hr.2.1)
  rw [cf_sf hF] at HC
  obtain ⟨h6, hl, -, hk, hfl⟩ := cf_ok hF
  have e6 : (el z 0 != 6) = false := by rw [h6]; rfl
  have HA := hide (fun W => less_any s (el z 4) W hs.1 hs.2 hk.1 (by omega))
  have HST := hide (fun W (hb : Below w.heap.size w W) => hS.kept hb)
  have HRw := hide (fun W (hb : Below w.heap.size w W) => hr.below hb)
  have hlt := hide hS.lt
  have hmod : el z 5 / 16 % 2 = 0 ∨ el z 5 / 16 % 2 = 1 := by omega
  have HAH := hide (show ah (el z 4) s = true ↔ (1 ≤ md (s - el z 4) ∧ md (s - el z 4) < 2147483648) from decide_eq_true_iff)
  have hmd := md_in (s - el z 4)
  generalize md (s - el z 4) = m at HA HAH hmd
  generalize ah (el z 4) s = A at hO HAH
  clear hS hr hF hk hl hs h6
  go_enter Tryd.func6, Tryd.ntmps6
  go_upto_region 1 with fail
  generalize (World.alloc _ _).alloc _ = W0 at HV ⊢
  go_upto_region 4 with (first
    | (refine at_load rfl (.tmp 3) rfl rfl HV.out.1 ?_)
    | (go_at_call 15; refine (HC.out _).mono ?_; rintro e w1 ⟨rfl, hb1⟩; replace HV := hide (HV.out.kept hb1); clear hb1))
  have S := hide (HST.out _ HV.out.2.2)
  obtain ⟨x, n, c, p, -, -⟩ := S.out
  have k2 := p.c2
  have k1 := p.c1
  have l0 := HV.out.1.c0
  have l5 := HV.out.1.c5
  clear p S
  cases b
  · rw [if_pos rfl] at hO
    have HO := hide hO
    clear hO HA hmod HAH hmd
    go_wp2_with (refine at_store rfl (.tmp 4) (.tmp 23) rfl rfl HV.out.2.1 [] none 0 0 rfl ?_; intro w5 p5 on5; have HB := hide (HV.out.put on5); replace p5 := hide p5; clear on5 HV)
    try simp only [Exit.inBlock, Exit.then]
    refine bodyPost_ret (results_sg rfl _ _ (w.heap.size + 1) [] none 0 0 rfl p5.out) rfl ?_
    rw [HO.out]
    exact ⟨none, 0, 0, rfl, row_no _, HST.out _ HB.out, Bu.of HB.out⟩
  · rw [if_neg (by decide)] at hO
    rcases hmod with h16 | h16
    · rw [if_pos h16] at hO
      have HO := hide hO
      have e16 : (el z 5 / 16 % 2 == 0) = true := by rw [h16]; rfl
      have R := hide (HRw.out _ HV.out.2.2)
      clear hO h16 HA HAH hmd
      go_wp2_with (first
        | (refine at_load rfl (.tmp 3) rfl rfl HV.out.1 ?_)
        | (refine at_store rfl (.tmp 4) (.tmp 29) rfl rfl HV.out.2.1 z a len cap rfl ?_; intro w5 p5 on5; have HB := hide (HV.out.put on5); replace R := hide (R.out.past HV.out.2.1 on5); replace p5 := hide p5; clear on5 HV))
      try simp only [Exit.inBlock, Exit.then]
      refine bodyPost_ret (results_sg rfl _ _ (w.heap.size + 1) z a len cap rfl p5.out) rfl ?_
      rw [HO.out]
      exact ⟨a, len, cap, rfl, R.out, HST.out _ HB.out, Bu.of HB.out⟩
    · rw [if_neg (by omega)] at hO
      have e16 : (el z 5 / 16 % 2 == 0) = false := by rw [h16]; rfl
      clear h16
      go_upto_region 10 with fail
      clear l5 l0 k2 e16
      have l4 := HV.out.1.c4
      have HVn := hide (fun n => HV.out.kept (W' := World.drewN _ n) ⟨rfl, rfl, rfl, Nat.le_refl _, fun _ _ => rfl⟩)
      clear HV
      go_quiet (first | (go_at_call 16; refine Calls.quiet_of_same (HA.out _)))
      generalize hW : World.drewN _ _ = W1
      have HV : Hid (T2 w z a len cap W1) := by rw [← hW]; exact HVn.out _
      clear hW HVn k1 l4 HA
      have R := hide (HRw.out _ HV.out.2.2)
      have S := hide (HST.out _ HV.out.2.2)
      obtain ⟨x, n, c, p, hrd, hn⟩ := S.out
      have P := hide p
      have D := hide hrd
      clear p hrd S
      cases A
      · rw [if_neg (by decide)] at hO
        have HO := hide hO
        have k3 := P.out.c3
        have f3 := P.out.frz 3
        have s3 := P.out.set3 true
        have V := hide ((HV.out.three (B := B)).turn P.out s3.2.bu)
        replace R := hide (R.out.bu P.out s3.2.bu)
        replace D := hide (D.out.bu P.out s3.2.bu)
        replace P := hide s3.1
        have hna : ¬ (1 ≤ m ∧ m < 2147483648) := fun hx => by have := HAH.out.2 hx; cases this
        clear s3 hO HV HAH
        rcases (by omega : m < 1 ∨ 2147483648 ≤ m) with hm1 | hm1
        case' inl =>
          have j1 : ¬ 1 ≤ m := by omega
        case' inr =>
          have j1 : 1 ≤ m := by omega
          have j2 : ¬ m ≤ 2147483647 := by omega
        all_goals
          clear hna hm1
          go_upto_region 14 with fail
          clear k3 f3
          generalize World.setCell _ _ _ = W2 at V R D P ⊢
          go_wp2_with (first
            | (refine at_load rfl (.tmp 3) rfl rfl V.out.1 ?_)
            | (refine at_store rfl (.tmp 4) (.tmp 51) rfl rfl V.out.2.1 z a len cap rfl ?_; intro w5 p5 on5; have HU := hide (V.out.put on5); replace R := hide (R.out.past V.out.2.1 on5); have st2 := hide ((show ST 34 B hd s true true _ from ⟨x, n, c, P.out, D.out, hn⟩).only V.out.2.1 on5 (by have := hlt.out; omega)); replace p5 := hide p5; clear on5 V))
          try simp only [Exit.inBlock, Exit.then]
          refine bodyPost_ret (results_sg rfl _ _ (w.heap.size + 1) z a len cap rfl p5.out) rfl ?_
          rw [HO.out]
          exact ⟨a, len, cap, rfl, R.out, st2.out, HU.out⟩
      · rw [if_pos rfl] at hO
        have HO := hide hO
        obtain ⟨j1, j2'⟩ := HAH.out.1 rfl
        have j2 : m ≤ 2147483647 := by omega
        have k1 := P.out.c1
        have l4 := HV.out.1.c4
        have f4 := HV.out.1.frz 4
        have s4 := HV.out.1.set4 s
        replace R := hide (R.out.past HV.out.1 s4.2)
        replace HV := hide (HV.out.turn s4.1 s4.2)
        clear s4 hO P D HAH j2'
        go_upto_region 14 with fail
        clear k1 l4 f4
        generalize World.setCell _ _ _ = W2 at HV R ⊢
        go_wp2_with (first
          | (refine at_load rfl (.tmp 3) rfl rfl HV.out.1 ?_)
          | (refine at_store rfl (.tmp 4) (.tmp 51) rfl rfl HV.out.2.1 (za z s) a len cap rfl ?_; intro w5 p5 on5; have HB := hide (HV.out.put on5); replace R := hide (R.out.past HV.out.2.1 on5); replace p5 := hide p5; clear on5 HV))
        try simp only [Exit.inBlock, Exit.then]
        refine bodyPost_ret (results_sg rfl _ _ (w.heap.size + 1) (za z s) a len cap rfl p5.out) rfl ?_
        rw [HO.out]
        exact ⟨a, len, cap, rfl, R.out, HST.out _ HB.out, Bu.of HB.out⟩
theorem rdown_any (B : Nat) (hd : List Int) (s : Int) (b h : Bool) (z : List Int) (a : Option Addr) (len cap : Nat) (zs : List Int) (w : World) (hS : ST 34 B hd s b h w) (hs : 0 ≤ s ∧ s < 4294967296) (hr : Row8 w a len cap zs) :
    Calls Tryd.prog 6 #[.pointer (some ⟨B, 0, none⟩), .agg (sgC z a len cap)] w (UQ 34 (Value.int .i64) B hd (dno s b h z zs) w) := by
  have hl := hr.1
  by_cases hF : cf z len = 0
  · exact rdown_ok B hd s b h z a len cap zs w hS hs hr hF _ (by unfold dno; rw [hl, if_neg (by rw [hF]; decide)])
  · rw [show dno s b h z zs = (cf z len, [], [], s, b, h) by unfold dno; rw [hl, if_pos hF]]
    by_cases hsf : sf z len = 0
    · have h6 : el z 0 ≠ 6 := fun h6 => hF (by unfold cf; rw [if_neg (fun hx => hx.2 h6)]; exact hsf)
      rw [show cf z len = 2 from if_pos ⟨hsf, h6⟩]
      exact rdown_shape B hd s b h z a len cap w hS hr.2.1 hsf h6
    · rw [show cf z len = sf z len from if_neg (fun hx => hsf hx.1)]
      exact rdown_bad B hd s b h z a len cap w hS hr.2.1 hsf
end Go.Proofs.YtbbbcfihnjidaaaDoor
