/- Package shift: New, Begun, Heard, begin and first, by contracts. -/
import Derived.Test.YtbbbcfihnjidaaaDoorShB
namespace Go.Proofs.YtbbbcfihnjidaaaDoor
open Go.RowKit

/-- a segment in its block, and the one that is handed out; a stream may have turned. -/
def T3 (B : Nat) (w : World) (z : List Int) (a : Option Addr) (len cap : Nat) (W : World) : Prop := SgIn w.heap.size z a len cap W ∧ SgIn (w.heap.size + 1) [] none 0 0 W ∧ Bu B w W
theorem T2.three {B : Nat} {w : World} {z : List Int} {a : Option Addr} {len cap : Nat} {W : World} (t : T2 w z a len cap W) : T3 B w z a len cap W := ⟨t.1, t.2.1, Bu.of t.2.2⟩
theorem T3.kept {B : Nat} {w : World} {z : List Int} {a : Option Addr} {len cap : Nat} {W W' : World} (t : T3 B w z a len cap W) (hb : Below W.heap.size W W') : T3 B w z a len cap W' := ⟨t.1.kept hb, t.2.1.kept hb, t.2.2.trans (Bu.of hb)⟩
theorem T3.turn {B : Nat} {w : World} {z : List Int} {a : Option Addr} {len cap : Nat} {W W' : World} (t : T3 B w z a len cap W) {T : TypeId} {x : Option Addr} {n c : Nat} {s : Int} {b h : Bool} (p : StB T B x n c s b h W) (u : Bu B W W') : T3 B w z a len cap W' := ⟨t.1.bu p u, t.2.1.bu p u, t.2.2.trans u⟩
theorem T3.put {B : Nat} {w : World} {z : List Int} {a : Option Addr} {len cap : Nat} {W W' : World} (t : T3 B w z a len cap W) (on : Only (w.heap.size + 1) W W') : Bu B w W' := on.bun t.2.2 (Nat.le_succ _)
/-- what comes of a segment: what is wrong, its numbers, its data; the stream behind it. -/
def UQ (T : TypeId) (f : Int → Value) (B : Nat) (hd : List Int) (o : Int × List Int × List Int × Int × Bool × Bool) (w : World) (e : Ending) (w' : World) : Prop :=
  ∃ a l c, e = .returned (.tuple #[.agg (sgC o.2.1 a l c), f o.1]) ∧ Row8 w' a l c o.2.2.1 ∧ ST T B hd o.2.2.2.1 o.2.2.2.2.1 o.2.2.2.2.2 w' ∧ Bu B w w'
/-- whether it was heard, behind another beginning. -/
def hh (b h : Bool) (s t : Int) : Bool := b && decide (s = t) && h
def bgo (hd : List Int) (s : Int) (b h : Bool) (z zs : List Int) : Int × List Int × List Int × Int × Bool × Bool :=
  if 0 < zs.length then (2, [], [], s, b, h) else (0, zq z (md (el z 3 - hd.length)), [], md (el z 3 + 1), true, hh b h s (md (el z 3 + 1)))
def fio (hd : List Int) (s : Int) (b h : Bool) (z zs : List Int) : Int × List Int × List Int × Int × Bool × Bool :=
  if 300 < hd.length + zs.length then (3, [], [], s, b, h) else (0, zq z (md (el z 3 - hd.length)), hd ++ zs, s, b, h)
theorem heard_any (B : Nat) (hd : List Int) (s : Int) (b h : Bool) (w : World) (hS : ST 46 B hd s b h w) : Calls Tryd.prog 12 #[.pointer (some ⟨B, 0, none⟩)] w fun e w' => e = .returned (.bool h) ∧ w' = w := by
  obtain ⟨a, n, c, p, -, -⟩ := hS
  have l := p.c3
  clear p
  go_enter Tryd.func12, Tryd.ntmps12
  go_wp2
  go_ret
  exact ⟨rfl, rfl⟩
set_option maxRecDepth 100000 in
set_option maxHeartbeats 2000000 in
theorem new_bad (a : Option Addr) (len cap : Nat) (w : World) (h : 100 < len) (hm : len ≤ maxLen) : Calls Tryd.prog 4 #[.slice a len cap] w fun e w' => e = .returned (.tuple #[.pointer none, err 3]) ∧ w' = w := by
  unfold maxLen at hm
  unfold err
  go_enter Tryd.func4, Tryd.ntmps4
  go_wp2
  go_ret2
  exact ⟨rfl, rfl⟩
set_option maxRecDepth 100000 in
set_option maxHeartbeats 2000000 in
theorem new_ok (a : Option Addr) (len cap : Nat) (zs : List Int) (w : World) (h : len ≤ 100) (hr : Row8 w a len cap zs) : Calls Tryd.prog 4 #[.slice a len cap] w fun e w' => ∃ B, e = .returned (.tuple #[.pointer (some ⟨B, 0, none⟩), .nilIface]) ∧ ST 46 B zs 0 false false w' ∧ w.heap.size ≤ B ∧ Below w.heap.size w w' := by
  have HC := hide (clone_any a len cap zs w hr (by omega))
  have HL := hide hr.1
  clear hr
  go_enter Tryd.func4, Tryd.ntmps4
  go_wp2_with (go_at_call 13; refine HC.out.mono ?_; rintro e w1 ⟨v1, rfl, g1⟩; obtain ⟨a1, c1, rfl, hr1, -⟩ := g1.1.row8; rw [HL.out] at hr1 ⊢; have HR := hide hr1; have HB := hide g1.2; clear hr1 g1)
  go_ret2
  refine ⟨w1.heap.size, rfl, ⟨a1, len, c1, heap_alloc_new w1 _, HR.out.below (al_below _ _), h⟩, HB.out.size, bt HB.out (al_below _ _)⟩
set_option maxRecDepth 100000 in
set_option maxHeartbeats 4000000 in
theorem begin_any (B : Nat) (hd : List Int) (s : Int) (b h : Bool) (z : List Int) (a : Option Addr) (len cap : Nat) (zs : List Int) (w : World) (hS : ST 46 B hd s b h w) (hhb : h = true → b = true) (hr : Row8 w a len cap zs) (hm : len ≤ 300) (h0 : 0 ≤ el z 3) (h1 : el z 3 < 4294967296) :
    Calls Tryd.prog 20 #[.pointer (some ⟨B, 0, none⟩), .agg (sgC z a len cap)] w (UQ 46 ev B hd (bgo hd s b h z zs) w) := by
  have HV := hide (T2.start w z a len cap)
  unfold zero7 at HV
  obtain ⟨x, n, c, p, hrd, hn⟩ := hS
  have hln := hr.1
  have hdn := hrd.1
  by_cases hl : 0 < len
  · have HO := hide (show bgo hd s b h z zs = (2, [], [], s, b, h) from if_pos (by omega))
    generalize bgo hd s b h z zs = O at HO ⊢
    have HS := hide (fun W (hb : Below w.heap.size w W) => show ST 46 B hd s b h W from ⟨x, n, c, p.kept hb, hrd.below hb, hn⟩)
    clear p hrd hr hln hdn hhb
    go_enter Tryd.func20, Tryd.ntmps20
    go_upto_region 1 with fail
    generalize (World.alloc _ _).alloc _ = W0 at HV ⊢
    have l7 := HV.out.1.c7
    go_wp2_with (refine at_store rfl (.tmp 4) (.tmp 11) rfl rfl HV.out.2.1 [] none 0 0 rfl ?_; intro w5 p5 on5; have HB := hide (HV.out.put on5); replace p5 := hide p5; clear on5 HV)
    try simp only [Exit.inBlock, Exit.then]
    refine bodyPost_ret (results_sg rfl _ _ (w.heap.size + 1) [] none 0 0 rfl p5.out) rfl ?_
    rw [HO.out]
    exact ⟨none, 0, 0, rfl, row_no _, HS.out _ HB.out, Bu.of HB.out⟩
  · obtain rfl : len = 0 := by omega
    obtain rfl : zs = [] := List.eq_nil_of_length_eq_zero hln
    have HO := hide (show bgo hd s b h z [] = (0, zq z (md (el z 3 - n)), [], md (el z 3 + 1), true, hh b h s (md (el z 3 + 1))) by rw [show bgo hd s b h z [] = _ from if_neg (by simp), hdn])
    generalize bgo hd s b h z [] = O at HO ⊢
    have HW := hide (fun W => wrap_any (el z 3 + 1) W (by omega) (by omega))
    have hmd := md_in (el z 3 + 1)
    generalize md (el z 3 + 1) = t at HW HO hmd
    have HS := hide (fun W (hb : Below w.heap.size w W) => p.kept hb)
    have HR := hide (fun W (hb : Below w.heap.size w W) => hr.below hb)
    have HD := hide (fun W (hb : Below w.heap.size w W) => hrd.below hb)
    have HX := hide (fun W (hb : Row8 W a 0 cap []) => own_any z a 0 cap [] W hb (by omega))
    have HQ := hide (fun W s b h a cap (h1 : StB 46 B x n c s b h W) (h2 : Row8 W a 0 cap []) => sooner_any B x n c s b h z a 0 cap [] W h1 hn h2 (by omega) (by omega))
    generalize md (el z 3 - n) = M at HO HQ
    have hlt := hide p.lt
    clear p hr hrd hln hdn
    go_enter Tryd.func20, Tryd.ntmps20
    go_upto_region 1 with fail
    generalize (World.alloc _ _).alloc _ = W0 at HV ⊢
    have l7 := HV.out.1.c7
    have l3 := HV.out.1.c3
    go_upto_region 4 with (go_at_call 25; refine (HW.out _).mono ?_; rintro e w' ⟨rfl, rfl⟩)
    clear l7 l3 HW
    have P := hide (HS.out _ HV.out.2.2)
    have R := hide (HR.out _ HV.out.2.2)
    have D := hide (HD.out _ HV.out.2.2)
    have V := hide (HV.out.three (B := B))
    clear HV HS HR HD
    have k1 := P.out.c1
    have k2 := P.out.c2
    cases b
    case' false =>
      have hh0 : h = false := by cases h with | false => rfl | true => exact absurd (hhb rfl) (by decide)
      subst hh0
      rw [show hh false false s t = false from rfl] at HO
      go_upto_region 6 with fail
    case' true =>
      by_cases hst : s = t
      case' pos =>
        rw [show hh true h s t = h by rw [hst]; simp [hh]] at HO
        have q1 : (s != t) = false := by rw [hst]; simp
        clear hst
        go_upto_region 6 with fail
        clear q1
      case' neg =>
        rw [show hh true h s t = false by simp [hh, hst]] at HO
        have q1 : (s != t) = true := by simpa using hst
        clear hst
        have k3 := P.out.c3
        have f3 := P.out.frz 3
        go_upto_region 6 with fail
        have s3 := P.out.set3 false
        replace V := hide (V.out.turn P.out s3.2.bu)
        replace R := hide (R.out.bu P.out s3.2.bu)
        replace D := hide (D.out.bu P.out s3.2.bu)
        replace P := hide s3.1
        clear q1 k3 f3 s3
        generalize World.setCell _ _ _ = W1 at V R D P ⊢
    all_goals
      clear k1 k2 hhb
      have k1 := P.out.c1
      have k2 := P.out.c2
      have f2 := P.out.frz 2
      have s2 := P.out.set2 true
      have V2 := hide (V.out.turn P.out s2.2.bu)
      have R2 := hide (R.out.bu P.out s2.2.bu)
      have D2 := hide (D.out.bu P.out s2.2.bu)
      have P2 := hide s2.1
      have k1' := P2.out.c1
      have f1 := P2.out.frz 1
      have s1 := P2.out.set1 t
      replace V2 := hide (V2.out.turn P2.out s1.2.bu)
      replace R2 := hide (R2.out.bu P2.out s1.2.bu)
      replace D2 := hide (D2.out.bu P2.out s1.2.bu)
      replace P2 := hide s1.1
      clear s2 s1 V R D P
      go_upto_region 7 with fail
      clear k1 k2 f2 k1' f1
      generalize World.setCell _ _ _ = W2 at V2 R2 D2 P2 ⊢
      go_wp2_with (first
        | (refine at_load rfl (.tmp 3) rfl rfl V2.out.1 ?_)
        | (go_at_call 18; refine (HX.out _ R2.out).mono ?_; rintro e w3 ⟨a3, c3, rfl, r3, hb3⟩; replace V2 := hide (V2.out.kept hb3); replace D2 := hide (D2.out.below hb3); replace P2 := hide (P2.out.kept hb3); replace r3 := hide r3; clear hb3 R2)
        | (go_at_call 26; refine (HQ.out _ _ _ _ _ _ P2.out r3.out).mono ?_; rintro e w4 ⟨rfl, r4, hb4⟩; replace V2 := hide (V2.out.kept hb4); replace D2 := hide (D2.out.below hb4); replace P2 := hide (P2.out.kept hb4); replace r4 := hide r4; clear hb4 r3)
        | (refine at_store rfl (.tmp 4) (.tmp 42) rfl rfl V2.out.2.1 (zq z M) a3 0 c3 rfl ?_; intro w5 p5 on5; have HU := hide (V2.out.put on5); replace r4 := hide (r4.out.past V2.out.2.1 on5); replace D2 := hide (D2.out.past V2.out.2.1 on5); replace P2 := hide (show StB _ _ _ _ _ _ _ _ w5 from (on5.2.2.2.2 B (by have := hlt.out; omega)).trans P2.out); replace p5 := hide p5; clear on5 V2))
      try simp only [Exit.inBlock, Exit.then]
      refine bodyPost_ret (results_sg rfl _ _ (w.heap.size + 1) (zq z M) a3 0 c3 rfl p5.out) rfl ?_
      rw [HO.out]
      exact ⟨a3, 0, c3, rfl, r4.out, ⟨x, n, c, P2.out, D2.out, hn⟩, HU.out⟩
end Go.Proofs.YtbbbcfihnjidaaaDoor
