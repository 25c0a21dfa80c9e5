/- Package shift: New, Begun, Heard, begin and first, by contracts. Package shift: first, and what goes up, by contracts. Package shift: what goes up and what goes down, by contracts. -/
import Derived.Test.YtkhahbghmdccaaaGreatDoorF06
import Derived.Test.YtkhahbghmdccaaaGreatDoorF12
import Derived.Below
import Derived.OpenShut
import Derived.Test.YtkhahbghmdccaaaGreatDoorProg
import Derived.WalkKit
import Derived.LaidEql
import Derived.BigQuiet
import Derived.Laws.AppendOwnNone
import Derived.Laws.MakeOwn
import Derived.Deep.RegionLaw
import Derived.Lib.Bytes
import Derived.Deep.MidRow
import Derived.Laws.ResultCell
import Derived.Deep.CutBlock
import Derived.Deep.QuietTactic
import Derived.OwnWalk
import Derived.Deep.RegionHeld3
import Derived.Deep.DrawnRows
import Derived.Lib.SliceRun
import Derived.Lib.AppendZerosOnto
import Derived.Lib.AppendZeros
import Derived.Test.YtkhahbghmdccaaaGreatDoorF07
namespace Go.Proofs.YtkhahbghmdccaaaGreatDoor
open Go.RowKit
def T3 (B : Nat) (w : World) (z : List Int) (a : Option Addr) (len cap : Nat) (W : World) : Prop := SgIn w.heap.size z a len cap W ∧ SgIn (w.heap.size + 1) [] none 0 0 W ∧ Bu B w W
theorem T2.three {B : Nat} {w : World} {z : List Int} {a : Option Addr} {len cap : Nat} {W : World} (t : T2 w z a len cap W) : T3 B w z a len cap W := ⟨t.1, t.2.1, Bu.of t.2.2⟩
theorem T3.kept {B : Nat} {w : World} {z : List Int} {a : Option Addr} {len cap : Nat} {W W' : World} (t : T3 B w z a len cap W) (hb : Below W.heap.size W W') : T3 B w z a len cap W' := ⟨t.1.kept hb, t.2.1.kept hb, t.2.2.trans (Bu.of hb)⟩
theorem T3.turn {B : Nat} {w : World} {z : List Int} {a : Option Addr} {len cap : Nat} {W W' : World} (t : T3 B w z a len cap W) {T : TypeId} {x : Option Addr} {n c : Nat} {s : Int} {b h : Bool} (p : StB T B x n c s b h W) (u : Bu B W W') : T3 B w z a len cap W' := ⟨t.1.bu p u, t.2.1.bu p u, t.2.2.trans u⟩
theorem T3.put {B : Nat} {w : World} {z : List Int} {a : Option Addr} {len cap : Nat} {W W' : World} (t : T3 B w z a len cap W) (on : Only (w.heap.size + 1) W W') : Bu B w W' := on.bun t.2.2 (Nat.le_succ _)
def UQ (T : TypeId) (f : Int → Value) (B : Nat) (hd : List Int) (o : Int × List Int × List Int × Int × Bool × Bool) (w : World) (e : Ending) (w' : World) : Prop :=
  ∃ a l c, e = .returned (.tuple #[.agg (sgC o.2.1 a l c), f o.1]) ∧ Row8 w' a l c o.2.2.1 ∧ ST T B hd o.2.2.2.1 o.2.2.2.2.1 o.2.2.2.2.2 w' ∧ Bu B w w'
def hh (b h : Bool) (s t : Int) : Bool := b && decide (s = t) && h
def bgo (hd : List Int) (s : Int) (b h : Bool) (z zs : List Int) : Int × List Int × List Int × Int × Bool × Bool :=
  if 0 < zs.length then (2, [], [], s, b, h) else (0, zq z (md (el z 3 - hd.length)), [], md (el z 3 + 1), true, hh b h s (md (el z 3 + 1)))
def fio (hd : List Int) (s : Int) (b h : Bool) (z zs : List Int) : Int × List Int × List Int × Int × Bool × Bool :=
  if 300 < hd.length + zs.length then (3, [], [], s, b, h) else (0, zq z (md (el z 3 - hd.length)), hd ++ zs, s, b, h)
set_option maxRecDepth 100000 in
set_option maxHeartbeats 2000000 in
theorem new_ok (a : Option Addr) (len cap : Nat) (zs : List Int) (w : World) (h : len ≤ 100) (hr : Row8 w a len cap zs) : Calls Tryz.prog 174 #[.slice a len cap] w fun e w' => ∃ B, e = .returned (.tuple #[.pointer (some ⟨B, 0, none⟩), .nilIface]) ∧ ST 267 B zs 0 false false w' ∧ w.heap.size ≤ B ∧ Below w.heap.size w w' := by
  have HC := hide (clone_any a len cap zs w hr (by omega))
  have HL := hide hr.1
  clear hr
  go_enter Tryz.func174, Tryz.ntmps174
  go_wp2_with (go_at_call 206; refine HC.out.mono ?_; rintro e w1 ⟨v1, rfl, g1⟩; obtain ⟨a1, c1, rfl, hr1, -⟩ := g1.1.row8; rw [HL.out] at hr1 ⊢; have HR := hide hr1; have HB := hide g1.2; clear hr1 g1)
  go_ret2
  refine ⟨w1.heap.size, rfl, ⟨a1, len, c1, heap_alloc_new w1 _, HR.out.below (al_below _ _), h⟩, HB.out.size, bt HB.out (al_below _ _)⟩
set_option maxRecDepth 100000 in
set_option maxHeartbeats 4000000 in
theorem begin_any (B : Nat) (hd : List Int) (s : Int) (b h : Bool) (z : List Int) (a : Option Addr) (len cap : Nat) (zs : List Int) (w : World) (hS : ST 267 B hd s b h w) (hhb : h = true → b = true) (hr : Row8 w a len cap zs) (hm : len ≤ 300) (h0 : 0 ≤ el z 3) (h1 : el z 3 < 4294967296) :
    Calls Tryz.prog 176 #[.pointer (some ⟨B, 0, none⟩), .agg (sgC z a len cap)] w (UQ 267 ev B hd (bgo hd s b h z zs) w) := by
  have HV := hide (T2.start w z a len cap)
  unfold zero7 at HV
  obtain ⟨x, n, c, p, hrd, hn⟩ := hS
  have hln := hr.1
  have hdn := hrd.1
  by_cases hl : 0 < len
  · have HO := hide (show bgo hd s b h z zs = (2, [], [], s, b, h) from if_pos (by omega))
    generalize bgo hd s b h z zs = O at HO ⊢
    have HS := hide (fun W (hb : Below w.heap.size w W) => show ST 267 B hd s b h W from ⟨x, n, c, p.kept hb, hrd.below hb, hn⟩)
    clear p hrd hr hln hdn hhb
    go_enter Tryz.func176, Tryz.ntmps176
    go_upto_region 1 with fail
    generalize (World.alloc _ _).alloc _ = W0 at HV ⊢
    have l7 := HV.out.1.c7
    go_wp2_with (refine at_store rfl (.tmp 4) (.tmp 11) rfl rfl HV.out.2.1 [] none 0 0 rfl ?_; intro w5 p5 on5; have HB := hide (HV.out.put on5); replace p5 := hide p5; clear on5 HV)
    try simp only [Exit.inBlock, Exit.then]
    refine bodyPost_ret (results_sg rfl _ _ (w.heap.size + 1) [] none 0 0 rfl p5.out) rfl ?_
    rw [HO.out]
    exact ⟨none, 0, 0, rfl, row_no _, HS.out _ HB.out, Bu.of HB.out⟩
  · obtain rfl : len = 0 := by omega
    obtain rfl : zs = [] := List.eq_nil_of_length_eq_zero hln
    have HO := hide (show bgo hd s b h z [] = (0, zq z (md (el z 3 - n)), [], md (el z 3 + 1), true, hh b h s (md (el z 3 + 1))) by rw [show bgo hd s b h z [] = _ from if_neg (by simp), hdn])
    generalize bgo hd s b h z [] = O at HO ⊢
    have HW := hide (fun W => wrap_any (el z 3 + 1) W (by omega) (by omega))
    have hmd := md_in (el z 3 + 1)
    generalize md (el z 3 + 1) = t at HW HO hmd
    have HS := hide (fun W (hb : Below w.heap.size w W) => p.kept hb)
    have HR := hide (fun W (hb : Below w.heap.size w W) => hr.below hb)
    have HD := hide (fun W (hb : Below w.heap.size w W) => hrd.below hb)
    have HX := hide (fun W (hb : Row8 W a 0 cap []) => own_any z a 0 cap [] W hb (by omega))
    have HQ := hide (fun W s b h a cap (h1 : StB 267 B x n c s b h W) (h2 : Row8 W a 0 cap []) => sooner_any B x n c s b h z a 0 cap [] W h1 hn h2 (by omega) (by omega))
    generalize md (el z 3 - n) = M at HO HQ
    have hlt := hide p.lt
    clear p hr hrd hln hdn
    go_enter Tryz.func176, Tryz.ntmps176
    go_upto_region 1 with fail
    generalize (World.alloc _ _).alloc _ = W0 at HV ⊢
    have l7 := HV.out.1.c7
    have l3 := HV.out.1.c3
    go_upto_region 4 with (go_at_call 207; refine (HW.out _).mono ?_; rintro e w' ⟨rfl, rfl⟩)
    clear l7 l3 HW
    have P := hide (HS.out _ HV.out.2.2)
    have R := hide (HR.out _ HV.out.2.2)
    have D := hide (HD.out _ HV.out.2.2)
    have V := hide (HV.out.three (B := B))
    clear HV HS HR HD
    have k1 := P.out.c1
    have k2 := P.out.c2
    cases b
    case' false =>
      have hh0 : h = false := by cases h with | false => rfl | true => exact absurd (hhb rfl) (by decide)
      subst hh0
      rw [show hh false false s t = false from rfl] at HO
      go_upto_region 6 with fail
    case' true =>
      by_cases hst : s = t
      case' pos =>
        rw [show hh true h s t = h by rw [hst]; simp [hh]] at HO
        have q1 : (s != t) = false := by rw [hst]; simp
        clear hst
        go_upto_region 6 with fail
        clear q1
      case' neg =>
        rw [show hh true h s t = false by simp [hh, hst]] at HO
        have q1 : (s != t) = true := by simpa using hst
        clear hst
        have k3 := P.out.c3
        have f3 := P.out.frz 3
        go_upto_region 6 with fail
        have s3 := P.out.set3 false
        replace V := hide (V.out.turn P.out s3.2.bu)
        replace R := hide (R.out.bu P.out s3.2.bu)
        replace D := hide (D.out.bu P.out s3.2.bu)
        replace P := hide s3.1
        clear q1 k3 f3 s3
        generalize World.setCell _ _ _ = W1 at V R D P ⊢
    all_goals
      clear k1 k2 hhb
      have k1 := P.out.c1
      have k2 := P.out.c2
      have f2 := P.out.frz 2
      have s2 := P.out.set2 true
      have V2 := hide (V.out.turn P.out s2.2.bu)
      have R2 := hide (R.out.bu P.out s2.2.bu)
      have D2 := hide (D.out.bu P.out s2.2.bu)
      have P2 := hide s2.1
      have k1' := P2.out.c1
      have f1 := P2.out.frz 1
      have s1 := P2.out.set1 t
      replace V2 := hide (V2.out.turn P2.out s1.2.bu)
      replace R2 := hide (R2.out.bu P2.out s1.2.bu)
      replace D2 := hide (D2.out.bu P2.out s1.2.bu)
      replace P2 := hide s1.1
      clear s2 s1 V R D P
      go_upto_region 7 with fail
      clear k1 k2 f2 k1' f1
      generalize World.setCell _ _ _ = W2 at V2 R2 D2 P2 ⊢
      go_wp2_with (first
        | (refine at_load rfl (.tmp 3) rfl rfl V2.out.1 ?_)
        | (go_at_call 178; refine (HX.out _ R2.out).mono ?_; rintro e w3 ⟨a3, c3, rfl, r3, hb3⟩; replace V2 := hide (V2.out.kept hb3); replace D2 := hide (D2.out.below hb3); replace P2 := hide (P2.out.kept hb3); replace r3 := hide r3; clear hb3 R2)
        | (go_at_call 208; refine (HQ.out _ _ _ _ _ _ P2.out r3.out).mono ?_; rintro e w4 ⟨rfl, r4, hb4⟩; replace V2 := hide (V2.out.kept hb4); replace D2 := hide (D2.out.below hb4); replace P2 := hide (P2.out.kept hb4); replace r4 := hide r4; clear hb4 r3)
        | (refine at_store rfl (.tmp 4) (.tmp 42) rfl rfl V2.out.2.1 (zq z M) a3 0 c3 rfl ?_; intro w5 p5 on5; have HU := hide (V2.out.put on5); replace r4 := hide (r4.out.past V2.out.2.1 on5); replace D2 := hide (D2.out.past V2.out.2.1 on5); replace P2 := hide (show StB _ _ _ _ _ _ _ _ w5 from (on5.2.2.2.2 B (by have := hlt.out; omega)).trans P2.out); replace p5 := hide p5; clear on5 V2))
      try simp only [Exit.inBlock, Exit.then]
      refine bodyPost_ret (results_sg rfl _ _ (w.heap.size + 1) (zq z M) a3 0 c3 rfl p5.out) rfl ?_
      rw [HO.out]
      exact ⟨a3, 0, c3, rfl, r4.out, ⟨x, n, c, P2.out, D2.out, hn⟩, HU.out⟩
end Go.Proofs.YtkhahbghmdccaaaGreatDoor

namespace Go.Proofs.YtkhahbghmdccaaaGreatDoor
open Go.RowKit
theorem two_new (w : World) (v1 v2 : Value) : Two w.heap.size v1 v2 (w.alloc (.cells #[v1, v2] 37)).drew := heap_alloc_new w _
set_option maxRecDepth 100000 in
set_option maxHeartbeats 4000000 in
theorem first_any (B : Nat) (hd : List Int) (s : Int) (b h : Bool) (z : List Int) (a : Option Addr) (len cap : Nat) (zs : List Int) (w : World) (hS : ST 267 B hd s b h w) (hr : Row8 w a len cap zs) (hm : len ≤ 300) (h0 : 0 ≤ el z 3) (h1 : el z 3 < 4294967296) :
    Calls Tryz.prog 177 #[.pointer (some ⟨B, 0, none⟩), .agg (sgC z a len cap)] w (UQ 267 ev B hd (fio hd s b h z zs) w) := by
  have HV := hide (T2.start w z a len cap)
  unfold zero7 at HV
  have HST := hide (fun W (hb : Below w.heap.size w W) => hS.kept hb)
  obtain ⟨x, n, c, p, hrd, hn⟩ := hS
  have hln := hr.1
  have hdn := hrd.1
  have HS := hide (fun W (hb : Below w.heap.size w W) => p.kept hb)
  have HR := hide (fun W (hb : Below w.heap.size w W) => hr.below hb)
  have HD := hide (fun W (hb : Below w.heap.size w W) => hrd.below hb)
  have j0 : IntKind.i64.wrap ((n : Int) + (len : Int)) = (n : Int) + len := by rw [IntKind.wrap_i64]; omega
  by_cases hl : 300 < n + len
  · have HO := hide (show fio hd s b h z zs = (3, [], [], s, b, h) from if_pos (by omega))
    generalize fio hd s b h z zs = O at HO ⊢
    have j1 : (300 : Int) < (n : Int) + len := by omega
    clear p hrd hr hln hdn hl
    go_enter Tryz.func177, Tryz.ntmps177
    go_upto_region 1 with fail
    generalize (World.alloc _ _).alloc _ = W0 at HV ⊢
    have l7 := HV.out.1.c7
    have k0 := (HS.out _ HV.out.2.2).c0
    replace HV := hide (HV.out.kept (Below.refl _ _).drew)
    go_quiet (fail)
    go_wp2_with (refine at_store rfl (.tmp 4) (.tmp 16) rfl rfl HV.out.2.1 [] none 0 0 rfl ?_; intro w5 p5 on5; have HB := hide (HV.out.put on5); replace p5 := hide p5; clear on5 HV)
    try simp only [Exit.inBlock, Exit.then]
    refine bodyPost_ret (results_sg rfl _ _ (w.heap.size + 1) [] none 0 0 rfl p5.out) rfl ?_
    rw [HO.out]
    exact ⟨none, 0, 0, rfl, row_no _, HST.out _ HB.out, Bu.of HB.out⟩
  · have HO := hide (show fio hd s b h z zs = (0, zq z (md (el z 3 - n)), hd ++ zs, s, b, h) by rw [show fio hd s b h z zs = _ from if_neg (by omega), hdn])
    generalize fio hd s b h z zs = O at HO ⊢
    have HX := hide (fun W V (h1 : Two V (.slice x n c) (.slice a len cap) W) (h2 : Row8 W x n c hd) (h3 : Row8 W a len cap zs) => concat_any V x a n len c cap hd zs W h1 h2 h3 (by omega) (by omega))
    have HQ := hide (fun W s b h a len cap zs (h1 : StB 267 B x n c s b h W) (h2 : Row8 W a len cap zs) => sooner_any B x n c s b h z a len cap zs W h1 hn h2 (by omega) (by omega))
    have HL := hide (show (hd ++ zs).length = n + len by rw [List.length_append]; omega)
    generalize md (el z 3 - n) = M at HO HQ
    have j1 : ¬ (300 : Int) < (n : Int) + len := by omega
    clear p hrd hr hln hdn hl
    go_enter Tryz.func177, Tryz.ntmps177
    go_upto_region 1 with fail
    generalize (World.alloc _ _).alloc _ = W0 at HV ⊢
    have l7 := HV.out.1.c7
    have k0 := (HS.out _ HV.out.2.2).c0
    have HVn := hide (fun n => HV.out.kept (W' := W0.drewN n) ⟨rfl, rfl, rfl, Nat.le_refl _, fun _ _ => rfl⟩)
    clear HV
    go_quiet (fail)
    generalize hW : World.drewN _ _ = W1
    have HV : Hid (T2 w z a len cap W1) := by rw [← hW]; exact HVn.out _
    clear hW HVn l7 k0 j0 j1
    go_upto_region 3 with fail
    have l7 := HV.out.1.c7
    have k0 := (HS.out _ HV.out.2.2).c0
    have b2 := (al_below W1 (.cells #[.slice x n c, .slice a len cap] 37)).drew
    replace HV := hide (HV.out.kept b2)
    clear b2
    have HY := hide (HX.out _ _ (two_new W1 (.slice x n c) (.slice a len cap)) (HD.out _ HV.out.2.2) (HR.out _ HV.out.2.2))
    clear HX
    go_region_with (go_at_call 209; refine HY.out.mono ?_; rintro e w3 ⟨v3, rfl, g3⟩; obtain ⟨a3, c3, rfl, hr3, -⟩ := g3.1.row8; rw [HL.out] at hr3 ⊢; replace HV := hide (HV.out.kept g3.2); clear l7; have l7 := HV.out.1.c7; have f7 := HV.out.1.frz 7; have s7 := HV.out.1.set7 a3 (n + len) c3; have hr4 := hide (hr3.past HV.out.1 s7.2); replace HV := hide (HV.out.turn s7.1 s7.2); clear g3 hr3 s7 HY)
    all_goals
      clear l7 f7 k0
      generalize World.setCell _ _ _ = W4 at HV hr4 ⊢
      have P := hide (HS.out _ HV.out.2.2)
      go_wp2_with (first
        | (refine at_load rfl (.tmp 3) rfl rfl HV.out.1 ?_)
        | (go_at_call 208; refine (HQ.out _ _ _ _ _ _ _ _ P.out hr4.out).mono ?_; rintro e w5 ⟨rfl, r5, hb5⟩; replace HV := hide (HV.out.kept hb5); replace r5 := hide r5; clear hb5 hr4 P)
        | (refine at_store rfl (.tmp 4) (.tmp 29) rfl rfl HV.out.2.1 (zq z M) a3 (n + len) c3 rfl ?_; intro w6 p6 on6; have HB := hide (HV.out.put on6); replace r5 := hide (r5.out.past HV.out.2.1 on6); replace p6 := hide p6; clear on6 HV))
      try simp only [Exit.inBlock, Exit.then]
      refine bodyPost_ret (results_sg rfl _ _ (w.heap.size + 1) (zq z M) a3 (n + len) c3 rfl p6.out) rfl ?_
      rw [HO.out]
      exact ⟨a3, n + len, c3, rfl, r5.out, HST.out _ HB.out, Bu.of HB.out⟩
end Go.Proofs.YtkhahbghmdccaaaGreatDoor

namespace Go.Proofs.YtkhahbghmdccaaaGreatDoor
open Go.RowKit
theorem and2_all : ∀ f : Fin 32, bits .and .i64 ((f.val : Nat) : Int) 2 = (if f.val / 2 % 2 = 1 then 2 else 0) ∧ bits .and .i64 ((f.val : Nat) : Int) 16 = (if f.val / 16 % 2 = 1 then 16 else 0) := by decide +kernel
theorem and2 (n : Int) (h0 : 0 ≤ n) (h1 : n ≤ 31) : bits .and .i64 n 2 = if n / 2 % 2 = 1 then 2 else 0 := by
  obtain ⟨k, rfl⟩ := Int.eq_ofNat_of_zero_le h0
  have := (and2_all ⟨k, by omega⟩).1
  simp only at this
  rw [this]
  by_cases h : k / 2 % 2 = 1
  · rw [if_pos h, if_pos (by omega)]
  · rw [if_neg h, if_neg (by omega)]
theorem and16 (n : Int) (h0 : 0 ≤ n) (h1 : n ≤ 31) : bits .and .i64 n 16 = if n / 16 % 2 = 1 then 16 else 0 := by
  obtain ⟨k, rfl⟩ := Int.eq_ofNat_of_zero_le h0
  have := (and2_all ⟨k, by omega⟩).2
  simp only at this
  rw [this]
  by_cases h : k / 16 % 2 = 1
  · rw [if_pos h, if_pos (by omega)]
  · rw [if_neg h, if_neg (by omega)]
theorem cf_ok {z : List Int} {len : Nat} (h : cf z len = 0) : el z 0 = 6 ∧ len ≤ 300 ∧ (0 ≤ el z 3 ∧ el z 3 ≤ 4294967295) ∧ (0 ≤ el z 4 ∧ el z 4 ≤ 4294967295) ∧ (0 ≤ el z 5 ∧ el z 5 ≤ 31) := by
  unfold cf at h
  split at h
  · cases h
  · rename_i h6
    have hk := (sf_iff z len).1 h
    have : el z 0 = 6 := Classical.byContradiction fun hn => h6 ⟨h, hn⟩
    obtain ⟨_, _, h3, h4 | h4⟩ := hk
    · exact ⟨this, h3, h4.2.1, h4.2.2.1, h4.2.2.2.1⟩
    · omega
def upo (hd : List Int) (s : Int) (b h : Bool) (z zs : List Int) : Int × List Int × List Int × Int × Bool × Bool :=
  if cf z zs.length ≠ 0 then (cf z zs.length, [], [], s, b, h)
  else if el z 5 / 2 % 2 = 1 then bgo hd s b h z zs
  else if b = false then (9, [], [], s, b, h)
  else if el z 3 = s ∧ h = false then fio hd s b h z zs
  else (0, z, zs, s, b, h)
def dno (s : Int) (b h : Bool) (z zs : List Int) : Int × List Int × List Int × Int × Bool × Bool :=
  if cf z zs.length ≠ 0 then (cf z zs.length, [], [], s, b, h)
  else if b = false then (9, [], [], s, b, h)
  else if el z 5 / 16 % 2 = 0 then (0, z, zs, s, b, h)
  else if ah (el z 4) s = true then (0, za z s, zs, s, b, h)
  else (0, z, zs, s, b, true)
theorem ST.only {T : TypeId} {B : Nat} {hd : List Int} {s : Int} {b h : Bool} {w w' : World} (p : ST T B hd s b h w) {D : Nat} {z : List Int} {x : Option Addr} {l k : Nat} (q : SgIn D z x l k w) (on : Only D w w') (hne : B ≠ D) : ST T B hd s b h w' := by
  obtain ⟨a, n, c, p1, p2, p3⟩ := p
  exact ⟨a, n, c, (on.2.2.2.2 B hne).trans p1, p2.past q on, p3⟩
theorem T3.st {B : Nat} {w : World} {z : List Int} {a : Option Addr} {len cap : Nat} {W W' : World} (t : T3 B w z a len cap W) {T : TypeId} {hd : List Int} {s : Int} {b h : Bool} (p : ST T B hd s b h W) (u : Bu B W W') : T3 B w z a len cap W' := by
  obtain ⟨_, _, _, p1, _⟩ := p
  exact t.turn p1 u
attribute [local go_sem ↓] gload_shut
set_option maxRecDepth 100000 in
set_option maxHeartbeats 4000000 in
theorem up_bad (B : Nat) (hd : List Int) (s : Int) (b h : Bool) (z : List Int) (a : Option Addr) (len cap : Nat) (zs : List Int) (w : World) (hS : ST 267 B hd s b h w) (hr : Row8 w a len cap zs) (hF : cf z len ≠ 0) :
    Calls Tryz.prog 125 #[.pointer (some ⟨B, 0, none⟩), .agg (sgC z a len cap)] w (UQ 267 ev B hd (cf z len, [], [], s, b, h) w) := by
  have HV := hide (T2.start w z a len cap)
  unfold zero7 at HV
  have HC := hide (fun W => scheck_any z a len cap W hr.2.1)
  have HST := hide (fun W (hb : Below w.heap.size w W) => hS.kept hb)
  clear hS hr
  generalize cf z len = F at hF HC ⊢
  have HE := hide (show ev F = err F from if_neg hF)
  rw [HE.out] at HC
  unfold err at HC HE
  clear hF
  go_enter Tryz.func125, Tryz.ntmps125
  go_upto_region 1 with fail
  generalize (World.alloc _ _).alloc _ = W0 at HV ⊢
  go_wp2_with (first
    | (refine at_load rfl (.tmp 3) rfl rfl HV.out.1 ?_)
    | (go_at_call 175; refine (HC.out _).mono ?_; rintro e w1 ⟨rfl, hb1⟩; replace HV := hide (HV.out.kept hb1); clear hb1)
    | (refine at_store rfl (.tmp 4) (.tmp 11) rfl rfl HV.out.2.1 [] none 0 0 rfl ?_; intro w5 p5 on5; have HB := hide (HV.out.put on5); replace p5 := hide p5; clear on5 HV))
  try simp only [Exit.inBlock, Exit.then]
  refine bodyPost_ret (results_sg rfl _ _ (w.heap.size + 1) [] none 0 0 rfl p5.out) rfl ?_
  exact ⟨none, 0, 0, by rw [HE.out]; rfl, row_no _, HST.out _ HB.out, Bu.of HB.out⟩
set_option maxRecDepth 100000 in
set_option maxHeartbeats 4000000 in
theorem up_ok (B : Nat) (hd : List Int) (s : Int) (b h : Bool) (z : List Int) (a : Option Addr) (len cap : Nat) (zs : List Int) (w : World) (hS : ST 267 B hd s b h w) (hhb : h = true → b = true) (hr : Row8 w a len cap zs) (hF : cf z len = 0) (O : Int × List Int × List Int × Int × Bool × Bool) (hO : O = if el z 5 / 2 % 2 = 1 then bgo hd s b h z zs else if b = false then (9, [], [], s, b, h) else if el z 3 = s ∧ h = false then fio hd s b h z zs else (0, z, zs, s, b, h)) :
    Calls Tryz.prog 125 #[.pointer (some ⟨B, 0, none⟩), .agg (sgC z a len cap)] w (UQ 267 ev B hd O w) := by
  have HV := hide (T2.start w z a len cap)
  unfold zero7 at HV
  have HC := hide (fun W => scheck_any z a len cap W hr.2.1)
  rw [hF, show ev 0 = .nilIface from rfl] at HC
  obtain ⟨-, hl, hq, -, hfl⟩ := cf_ok hF
  have HBg := hide (fun W (h1 : ST 267 B hd s b h W) (h2 : Row8 W a len cap zs) => begin_any B hd s b h z a len cap zs W h1 hhb h2 hl hq.1 (by omega))
  have HFi := hide (fun W (h1 : ST 267 B hd s b h W) (h2 : Row8 W a len cap zs) => first_any B hd s b h z a len cap zs W h1 h2 hl hq.1 (by omega))
  have HOw := hide (fun W (h2 : Row8 W a len cap zs) => own_any z a len cap zs W h2 (by omega))
  have HST := hide (fun W (hb : Below w.heap.size w W) => hS.kept hb)
  have HR := hide (fun W (hb : Below w.heap.size w W) => hr.below hb)
  have hlt := hide hS.lt
  have ha := and2 (el z 5) hfl.1 hfl.2
  clear hS hr hF hq hfl hl hhb
  go_enter Tryz.func125, Tryz.ntmps125
  go_upto_region 1 with fail
  generalize (World.alloc _ _).alloc _ = W0 at HV ⊢
  go_upto_region 4 with (first
    | (refine at_load rfl (.tmp 3) rfl rfl HV.out.1 ?_)
    | (go_at_call 175; refine (HC.out _).mono ?_; rintro e w1 ⟨rfl, hb1⟩; replace HV := hide (HV.out.kept hb1); clear hb1))
  have l5 := HV.out.1.c5
  by_cases hsyn : el z 5 / 2 % 2 = 1
  · rw [if_pos hsyn] at ha hO
    have HO := hide hO
    clear hO hsyn HFi HOw
    generalize bgo hd s b h z zs = O' at HBg HO
    have V := hide (HV.out.three (B := B))
    have S := hide (HST.out _ HV.out.2.2)
    have R := hide (HR.out _ HV.out.2.2)
    clear HV HST HR
    go_wp2_with (first
      | (refine at_load rfl (.tmp 3) rfl rfl V.out.1 ?_)
      | (go_at_call 176; refine (HBg.out _ S.out R.out).mono ?_; rintro e w2 ⟨a2, l2, c2, rfl, r2, st2, u2⟩; replace V := hide (V.out.st S.out u2); replace st2 := hide st2; replace r2 := hide r2; clear u2 S R l5)
      | (refine at_store rfl (.tmp 4) (.tmp 20) rfl rfl V.out.2.1 O'.2.1 a2 l2 c2 rfl ?_; intro w5 p5 on5; have HU := hide (V.out.put on5); replace r2 := hide (r2.out.past V.out.2.1 on5); replace st2 := hide (st2.out.only V.out.2.1 on5 (by have := hlt.out; omega)); replace p5 := hide p5; clear on5 V))
    try simp only [Exit.inBlock, Exit.then]
    refine bodyPost_ret (results_sg rfl _ _ (w.heap.size + 1) O'.2.1 a2 l2 c2 rfl p5.out) rfl ?_
    rw [HO.out]
    exact ⟨a2, l2, c2, rfl, r2.out, st2.out, HU.out⟩
  · rw [if_neg hsyn] at ha hO
    clear HBg hsyn
    have S := hide (HST.out _ HV.out.2.2)
    obtain ⟨x, n, c, p, -, -⟩ := S.out
    have k2 := p.c2
    have k1 := p.c1
    have k3 := p.c3
    clear p
    cases b
    · rw [if_pos rfl] at hO
      have HO := hide hO
      clear hO HFi HOw k1 k3
      go_wp2_with (refine at_store rfl (.tmp 4) (.tmp 27) rfl rfl HV.out.2.1 [] none 0 0 rfl ?_; intro w5 p5 on5; have HB := hide (HV.out.put on5); replace p5 := hide p5; clear on5 HV)
      try simp only [Exit.inBlock, Exit.then]
      refine bodyPost_ret (results_sg rfl _ _ (w.heap.size + 1) [] none 0 0 rfl p5.out) rfl ?_
      rw [HO.out]
      exact ⟨none, 0, 0, rfl, row_no _, HST.out _ HB.out, Bu.of HB.out⟩
    · rw [if_neg (by decide)] at hO
      have l3 := HV.out.1.c3
      go_upto_region 8 with fail
      have HVn := hide (fun n => HV.out.kept (W' := World.drewN _ n) ⟨rfl, rfl, rfl, Nat.le_refl _, fun _ _ => rfl⟩)
      clear l5 k2 S
      by_cases hqs : el z 3 = s
      case' pos =>
        have e1 : (el z 3 == s) = true := by simpa using hqs
        cases h
      case' pos.false =>
        rw [if_pos ⟨hqs, rfl⟩] at hO
        have HO := hide hO
        clear hO hqs HOw
        generalize fio hd s true false z zs = O' at HFi HO
        clear HV
        go_quiet (fail)
        generalize hW : World.drewN _ _ = W1
        have HV : Hid (T2 w z a len cap W1) := by rw [← hW]; exact HVn.out _
        clear hW HVn k1 k3 l3 e1
        have V := hide (HV.out.three (B := B))
        have S := hide (HST.out _ HV.out.2.2)
        have R := hide (HR.out _ HV.out.2.2)
        clear HV HST HR
        go_wp2_with (first
          | (refine at_load rfl (.tmp 3) rfl rfl V.out.1 ?_)
          | (go_at_call 177; refine (HFi.out _ S.out R.out).mono ?_; rintro e w2 ⟨a2, l2, c2, rfl, r2, st2, u2⟩; replace V := hide (V.out.st S.out u2); replace st2 := hide st2; replace r2 := hide r2; clear u2 S R)
          | (refine at_store rfl (.tmp 4) (.tmp 46) rfl rfl V.out.2.1 O'.2.1 a2 l2 c2 rfl ?_; intro w5 p5 on5; have HU := hide (V.out.put on5); replace r2 := hide (r2.out.past V.out.2.1 on5); replace st2 := hide (st2.out.only V.out.2.1 on5 (by have := hlt.out; omega)); replace p5 := hide p5; clear on5 V))
        try simp only [Exit.inBlock, Exit.then]
        refine bodyPost_ret (results_sg rfl _ _ (w.heap.size + 1) O'.2.1 a2 l2 c2 rfl p5.out) rfl ?_
        rw [HO.out]
        exact ⟨a2, l2, c2, rfl, r2.out, st2.out, HU.out⟩
      case' neg =>
        have e1 : (el z 3 == s) = false := by simpa using hqs
      all_goals
        rw [if_neg (fun hx => by first | exact hqs hx.1 | cases hx.2)] at hO
        have HO := hide hO
        clear hO hqs HFi
        clear HV
        go_quiet (fail)
        generalize hW : World.drewN _ _ = W1
        have HV : Hid (T2 w z a len cap W1) := by rw [← hW]; exact HVn.out _
        clear hW HVn k1 k3 l3 e1
        have R := hide (HR.out _ HV.out.2.2)
        go_wp2_with (first
          | (refine at_load rfl (.tmp 3) rfl rfl HV.out.1 ?_)
          | (go_at_call 178; refine (HOw.out _ R.out).mono ?_; rintro e w2 ⟨a2, c2, rfl, r2, hb2⟩; replace HV := hide (HV.out.kept hb2); replace r2 := hide r2; clear hb2 R)
          | (refine at_store rfl (.tmp 4) (.tmp 49) rfl rfl HV.out.2.1 z a2 len c2 rfl ?_; intro w5 p5 on5; have HB := hide (HV.out.put on5); replace r2 := hide (r2.out.past HV.out.2.1 on5); replace p5 := hide p5; clear on5 HV))
        try simp only [Exit.inBlock, Exit.then]
        refine bodyPost_ret (results_sg rfl _ _ (w.heap.size + 1) z a2 len c2 rfl p5.out) rfl ?_
        rw [HO.out]
        exact ⟨a2, len, c2, rfl, r2.out, HST.out _ HB.out, Bu.of HB.out⟩
theorem up_any (B : Nat) (hd : List Int) (s : Int) (b h : Bool) (z : List Int) (a : Option Addr) (len cap : Nat) (zs : List Int) (w : World) (hS : ST 267 B hd s b h w) (hhb : h = true → b = true) (hr : Row8 w a len cap zs) :
    Calls Tryz.prog 125 #[.pointer (some ⟨B, 0, none⟩), .agg (sgC z a len cap)] w (UQ 267 ev B hd (upo hd s b h z zs) w) := by
  have hl := hr.1
  by_cases hF : cf z len = 0
  · exact up_ok B hd s b h z a len cap zs w hS hhb hr hF _ (by unfold upo; rw [hl, if_neg (by rw [hF]; decide)])
  · have := up_bad B hd s b h z a len cap zs w hS hr hF
    rw [show upo hd s b h z zs = (cf z len, [], [], s, b, h) by unfold upo; rw [hl, if_pos hF]]
    exact this
end Go.Proofs.YtkhahbghmdccaaaGreatDoor
