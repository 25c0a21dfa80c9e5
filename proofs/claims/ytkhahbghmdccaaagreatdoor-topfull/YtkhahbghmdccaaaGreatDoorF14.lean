/- Package shift: what goes down, by a contract. -/
import Derived.Test.YtkhahbghmdccaaaGreatDoorF13
import Derived.Below
import Derived.OpenShut
import Derived.Test.YtkhahbghmdccaaaGreatDoorProg
import Derived.WalkKit
import Derived.LaidEql
import Derived.BigQuiet
import Derived.Laws.AppendOwnNone
import Derived.Laws.MakeOwn
import Derived.Deep.RegionLaw
import Derived.Lib.Bytes
import Derived.Deep.MidRow
import Derived.Laws.ResultCell
import Derived.Deep.CutBlock
import Derived.Deep.QuietTactic
import Derived.OwnWalk
import Derived.Deep.RegionHeld3
import Derived.Deep.DrawnRows
import Derived.Lib.SliceRun
import Derived.Lib.AppendZerosOnto
import Derived.Lib.AppendZeros
namespace Go.Proofs.YtkhahbghmdccaaaGreatDoor
open Go.RowKit
theorem T2.all {w : World} {z : List Int} {a : Option Addr} {len cap : Nat} {W W' : World} (t : T2 w z a len cap W) {z' : List Int} {a' : Option Addr} {len' cap' : Nat} (p : SgIn w.heap.size z' a' len' cap' W') (on : Only w.heap.size W W') : T2 w z' a' len' cap' W' := t.turn p on
attribute [local go_sem ↓] gload_shut
set_option maxRecDepth 100000 in
set_option maxHeartbeats 4000000 in
theorem down_bad (B : Nat) (hd : List Int) (s : Int) (b h : Bool) (z : List Int) (a : Option Addr) (len cap : Nat) (zs : List Int) (w : World) (hS : ST 267 B hd s b h w) (hr : Row8 w a len cap zs) (hF : cf z len ≠ 0) :
    Calls Tryz.prog 135 #[.pointer (some ⟨B, 0, none⟩), .agg (sgC z a len cap)] w (UQ 267 ev B hd (cf z len, [], [], s, b, h) w) := by
  have HV := hide (T2.start w z a len cap)
  unfold zero7 at HV
  have HC := hide (fun W => scheck_any z a len cap W hr.2.1)
  have HST := hide (fun W (hb : Below w.heap.size w W) => hS.kept hb)
  clear hS hr
  generalize cf z len = F at hF HC ⊢
  have HE := hide (show ev F = err F from if_neg hF)
  rw [HE.out] at HC
  unfold err at HC HE
  clear hF
  go_enter Tryz.func135, Tryz.ntmps135
  go_upto_region 1 with fail
  generalize (World.alloc _ _).alloc _ = W0 at HV ⊢
  go_wp2_with (first
    | (refine at_load rfl (.tmp 3) rfl rfl HV.out.1 ?_)
    | (go_at_call 175; refine (HC.out _).mono ?_; rintro e w1 ⟨rfl, hb1⟩; replace HV := hide (HV.out.kept hb1); clear hb1)
    | (refine at_store rfl (.tmp 4) (.tmp 11) rfl rfl HV.out.2.1 [] none 0 0 rfl ?_; intro w5 p5 on5; have HB := hide (HV.out.put on5); replace p5 := hide p5; clear on5 HV))
  try simp only [Exit.inBlock, Exit.then]
  refine bodyPost_ret (results_sg rfl _ _ (w.heap.size + 1) [] none 0 0 rfl p5.out) rfl ?_
  exact ⟨none, 0, 0, by rw [HE.out]; rfl, row_no _, HST.out _ HB.out, Bu.of HB.out⟩
set_option maxRecDepth 100000 in
set_option maxHeartbeats 4000000 in
theorem down_ok (B : Nat) (hd : List Int) (s : Int) (b h : Bool) (z : List Int) (a : Option Addr) (len cap : Nat) (zs : List Int) (w : World) (hS : ST 267 B hd s b h w) (hs : 0 ≤ s ∧ s < 4294967296) (hr : Row8 w a len cap zs) (hF : cf z len = 0) (O : Int × List Int × List Int × Int × Bool × Bool) (hO : O = if b = false then (9, [], [], s, b, h) else if el z 5 / 16 % 2 = 0 then (0, z, zs, s, b, h) else if ah (el z 4) s = true then (0, za z s, zs, s, b, h) else (0, z, zs, s, b, true)) :
    Calls Tryz.prog 135 #[.pointer (some ⟨B, 0, none⟩), .agg (sgC z a len cap)] w (UQ 267 ev B hd O w) := by
  have HV := hide (T2.start w z a len cap)
  unfold zero7 at HV
  have HC := hide (fun W => scheck_any z a len cap W hr.2.1)
  rw [hF, show ev 0 = .nilIface from rfl] at HC
  obtain ⟨-, hl, -, hk, hfl⟩ := cf_ok hF
  have HOw := hide (fun W (h2 : Row8 W a len cap zs) => own_any z a len cap zs W h2 (by omega))
  have HA := hide (fun W => ahead_any (el z 4) s W hk.1 (by omega) hs.1 hs.2)
  have HST := hide (fun W (hb : Below w.heap.size w W) => hS.kept hb)
  have HR := hide (fun W (hb : Below w.heap.size w W) => hr.below hb)
  have hlt := hide hS.lt
  have ha := and16 (el z 5) hfl.1 hfl.2
  have hmod : el z 5 / 16 % 2 = 0 ∨ el z 5 / 16 % 2 = 1 := by omega
  clear hS hr hF hk hfl hl hs
  go_enter Tryz.func135, Tryz.ntmps135
  go_upto_region 1 with fail
  generalize (World.alloc _ _).alloc _ = W0 at HV ⊢
  go_upto_region 4 with (first
    | (refine at_load rfl (.tmp 3) rfl rfl HV.out.1 ?_)
    | (go_at_call 175; refine (HC.out _).mono ?_; rintro e w1 ⟨rfl, hb1⟩; replace HV := hide (HV.out.kept hb1); clear hb1))
  have S := hide (HST.out _ HV.out.2.2)
  obtain ⟨x, n, c, p, -, -⟩ := S.out
  have k2 := p.c2
  clear p
  cases b
  · rw [if_pos rfl] at hO
    have HO := hide hO
    clear hO HOw HA hmod ha
    go_wp2_with (refine at_store rfl (.tmp 4) (.tmp 18) rfl rfl HV.out.2.1 [] none 0 0 rfl ?_; intro w5 p5 on5; have HB := hide (HV.out.put on5); replace p5 := hide p5; clear on5 HV)
    try simp only [Exit.inBlock, Exit.then]
    refine bodyPost_ret (results_sg rfl _ _ (w.heap.size + 1) [] none 0 0 rfl p5.out) rfl ?_
    rw [HO.out]
    exact ⟨none, 0, 0, rfl, row_no _, HST.out _ HB.out, Bu.of HB.out⟩
  · rw [if_neg (by decide)] at hO
    have R := hide (HR.out _ HV.out.2.2)
    clear S
    go_upto_region 7 with (first
      | (refine at_load rfl (.tmp 3) rfl rfl HV.out.1 ?_)
      | (go_at_call 178; refine (HOw.out _ R.out).mono ?_; rintro e w2 ⟨a2, c2, rfl, r2, hb2⟩; replace HV := hide (HV.out.kept hb2); replace r2 := hide r2; clear hb2 R k2)
      | (refine at_store rfl (.tmp 3) (.tmp 21) rfl rfl HV.out.1 z a2 len c2 rfl ?_; intro w3 p3 on3; replace r2 := hide (r2.out.past HV.out.1 on3); replace HV := hide (HV.out.all p3 on3); clear on3 p3))
    clear HC HOw
    have l5 := HV.out.1.c5
    rcases hmod with h16 | h16
    · rw [if_neg (by omega)] at ha
      rw [if_pos h16] at hO
      have HO := hide hO
      clear hO h16 HA
      go_wp2_with (first
        | (refine at_load rfl (.tmp 3) rfl rfl HV.out.1 ?_)
        | (refine at_store rfl (.tmp 4) (.tmp 26) rfl rfl HV.out.2.1 z a2 len c2 rfl ?_; intro w5 p5 on5; have HB := hide (HV.out.put on5); replace r2 := hide (r2.out.past HV.out.2.1 on5); replace p5 := hide p5; clear on5 HV))
      try simp only [Exit.inBlock, Exit.then]
      refine bodyPost_ret (results_sg rfl _ _ (w.heap.size + 1) z a2 len c2 rfl p5.out) rfl ?_
      rw [HO.out]
      exact ⟨a2, len, c2, rfl, r2.out, HST.out _ HB.out, Bu.of HB.out⟩
    · rw [if_pos h16] at ha
      rw [if_neg (by omega)] at hO
      clear h16
      go_upto_region 9 with fail
      clear l5 ha
      have S := hide (HST.out _ HV.out.2.2)
      obtain ⟨x, n, c, p, -, -⟩ := S.out
      have k1 := p.c1
      have l4 := HV.out.1.c4
      have HVn := hide (fun n => HV.out.kept (W' := World.drewN _ n) ⟨rfl, rfl, rfl, Nat.le_refl _, fun _ _ => rfl⟩)
      have R2n := hide (fun n => r2.out.below (w' := World.drewN _ n) ⟨rfl, rfl, rfl, Nat.le_refl _, fun _ _ => rfl⟩)
      generalize ah (el z 4) s = A at hO HA
      clear p S HV r2
      go_quiet (first | (go_at_call 185; refine Calls.quiet_of_same (HA.out _)))
      generalize hW : World.drewN _ _ = W1
      have HV : Hid (T2 w z a2 len c2 W1) := by rw [← hW]; exact HVn.out _
      have r2 : Hid (Row8 W1 a2 len c2 zs) := by rw [← hW]; exact R2n.out _
      clear hW HVn R2n k1 l4 HA
      have S := hide (HST.out _ HV.out.2.2)
      obtain ⟨x, n, c, p, hrd, hn⟩ := S.out
      have P := hide p
      have D := hide hrd
      clear p hrd S
      cases A
      · rw [if_neg (by decide)] at hO
        have HO := hide hO
        have k3 := P.out.c3
        have f3 := P.out.frz 3
        have s3 := P.out.set3 true
        have V := hide ((HV.out.three (B := B)).turn P.out s3.2.bu)
        replace r2 := hide (r2.out.bu P.out s3.2.bu)
        replace D := hide (D.out.bu P.out s3.2.bu)
        replace P := hide s3.1
        clear s3 hO HV
        go_upto_region 13 with fail
        clear k3 f3
        generalize World.setCell _ _ _ = W2 at V r2 D P ⊢
        go_wp2_with (first
          | (refine at_load rfl (.tmp 3) rfl rfl V.out.1 ?_)
          | (refine at_store rfl (.tmp 4) (.tmp 43) rfl rfl V.out.2.1 z a2 len c2 rfl ?_; intro w5 p5 on5; have HU := hide (V.out.put on5); replace r2 := hide (r2.out.past V.out.2.1 on5); have st2 := hide ((show ST 267 B hd s true true _ from ⟨x, n, c, P.out, D.out, hn⟩).only V.out.2.1 on5 (by have := hlt.out; omega)); replace p5 := hide p5; clear on5 V))
        try simp only [Exit.inBlock, Exit.then]
        refine bodyPost_ret (results_sg rfl _ _ (w.heap.size + 1) z a2 len c2 rfl p5.out) rfl ?_
        rw [HO.out]
        exact ⟨a2, len, c2, rfl, r2.out, st2.out, HU.out⟩
      · rw [if_pos rfl] at hO
        have HO := hide hO
        have k1 := P.out.c1
        have l4 := HV.out.1.c4
        have f4 := HV.out.1.frz 4
        have s4 := HV.out.1.set4 s
        replace r2 := hide (r2.out.past HV.out.1 s4.2)
        replace HV := hide (HV.out.turn s4.1 s4.2)
        clear s4 hO P D
        go_upto_region 11 with fail
        clear k1 l4 f4
        generalize World.setCell _ _ _ = W2 at HV r2 ⊢
        go_wp2_with (first
          | (refine at_load rfl (.tmp 3) rfl rfl HV.out.1 ?_)
          | (refine at_store rfl (.tmp 4) (.tmp 39) rfl rfl HV.out.2.1 (za z s) a2 len c2 rfl ?_; intro w5 p5 on5; have HB := hide (HV.out.put on5); replace r2 := hide (r2.out.past HV.out.2.1 on5); replace p5 := hide p5; clear on5 HV))
        try simp only [Exit.inBlock, Exit.then]
        refine bodyPost_ret (results_sg rfl _ _ (w.heap.size + 1) (za z s) a2 len c2 rfl p5.out) rfl ?_
        rw [HO.out]
        exact ⟨a2, len, c2, rfl, r2.out, HST.out _ HB.out, Bu.of HB.out⟩
theorem down_any (B : Nat) (hd : List Int) (s : Int) (b h : Bool) (z : List Int) (a : Option Addr) (len cap : Nat) (zs : List Int) (w : World) (hS : ST 267 B hd s b h w) (hs : 0 ≤ s ∧ s < 4294967296) (hr : Row8 w a len cap zs) :
    Calls Tryz.prog 135 #[.pointer (some ⟨B, 0, none⟩), .agg (sgC z a len cap)] w (UQ 267 ev B hd (dno s b h z zs) w) := by
  have hl := hr.1
  by_cases hF : cf z len = 0
  · exact down_ok B hd s b h z a len cap zs w hS hs hr hF _ (by unfold dno; rw [hl, if_neg (by rw [hF]; decide)])
  · have := down_bad B hd s b h z a len cap zs w hS hr hF
    rw [show dno s b h z zs = (cf z len, [], [], s, b, h) by unfold dno; rw [hl, if_pos hF]]
    exact this
end Go.Proofs.YtkhahbghmdccaaaGreatDoor
