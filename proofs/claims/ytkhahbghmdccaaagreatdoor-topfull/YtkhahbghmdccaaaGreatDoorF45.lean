/- Package gangplanktop: sent, by contracts. Package gangplanktop: back, opened and opened6 of packets that were written so, by contracts. Package gangplanktop: plain, by a contract. Package gangplanktop: the one known fact: a packet goes on, and back. -/
import Derived.Test.YtkhahbghmdccaaaGreatDoorF44
import Derived.Below
import Derived.OpenShut
import Derived.Test.YtkhahbghmdccaaaGreatDoorProg
import Derived.WalkKit
import Derived.LaidEql
import Derived.BigQuiet
import Derived.Laws.AppendOwnNone
import Derived.Laws.MakeOwn
import Derived.Deep.RegionLaw
import Derived.Lib.Bytes
import Derived.Deep.MidRow
import Derived.Laws.ResultCell
import Derived.Deep.CutBlock
import Derived.Deep.QuietTactic
import Derived.OwnWalk
import Derived.Deep.RegionHeld3
import Derived.Deep.DrawnRows
import Derived.Laws.StructEq
import Derived.Maps.AppendAt
import Derived.Maps.RangeWalk
import Derived.Stop.Asserts
import Derived.RowKitTokens
import Derived.Test.YtkhahbghmdccaaaGreatDoorShelf
import Derived.Shelf.Abstract
import Derived.Lib.SliceRun
import Derived.Lib.AppendZerosOnto
import Derived.Lib.AppendZeros
import Derived.Laws.CopyOwn
import Derived.RangeFuncNested
import Derived.RangeFuncBound
import Derived.RangeFuncCalls
import Derived.RangeFuncLeaves
import Derived.RangeFuncFrom
import Derived.Shelf.RegionOpen
import Derived.OwnWalkIn
import Derived.TacticsInMore
import Derived.LoopNIn
import Derived.LoopIn
import Derived.Deep.RegionWith
import Derived.ArgAppend
import Derived.Lib.SlBytesConst
import Derived.Lib.AppendStr
import Derived.Test.YtkhahbghmdccaaaGreatDoorF43
namespace Go.Proofs.YtkhahbghmdccaaaGreatDoor
open Go.RowKit
theorem V6.decode_bysb (a : Option Addr) (len cap : Nat) (s d : List Int) (h k : Int) (body : List Int) (w : World) (hr : Row8 w a len cap (V6.bys s d h k body)) (hcl : len ≤ cap) (hcm : cap ≤ maxLen) (ho : V6.Okp s d h k) (hl : body.length ≤ 320) :
    Calls Tryz.prog 116 #[.slice a len cap] w fun e w' => ∃ a' l' c', e = .returned (.tuple #[.agg (V6.pkC s d h k a' l' c'), .nilIface]) ∧ (Row8 w' a' l' c' body ∧ l' ≤ c' ∧ c' ≤ maxLen) ∧ Below w.heap.size w w' := by
  refine (V6.decode_any a len cap _ w hr hcl hcm).mono ?_
  rintro e w' ⟨hh, hb⟩
  rcases hh with ⟨h1, _⟩ | ⟨_, a', c', rfl, h2⟩
  · exact absurd (V6.bys_good s d h k body hl) h1
  · obtain ⟨e1, e2⟩ := V6.adr_bys s d h k body ho
    rw [V6.bys_drop] at h2
    refine ⟨a', _, c', ?_, h2, hb⟩
    unfold V6.pk
    rw [V6.pkC_congr e1 e2]
    rfl
theorem V4.decode_bysb (a : Option Addr) (len cap : Nat) (s d t k i : Int) (body : List Int) (w : World) (hr : Row8 w a len cap (V4.bys s d t k i body)) (hcl : len ≤ cap) (hcm : cap ≤ maxLen) (h : V4.Okp s d t k i) (hl : body.length ≤ 320) :
    Calls Tryz.prog 22 #[.slice a len cap] w fun e w' => ∃ a' l' c', e = .returned (.tuple #[V4.pk s d t k i a' l' c', .nilIface]) ∧ (Row8 w' a' l' c' body ∧ l' ≤ c' ∧ c' ≤ maxLen) ∧ Below w.heap.size w w' := by
  refine (V4.decode_any a len cap _ w hr hcl hcm).mono ?_
  rintro e w' ⟨hh, hb⟩
  have hg := V4.bys_good s d t k i body h hl
  rcases hh with ⟨h1, _⟩ | ⟨_, h1, _⟩ | ⟨_, a', c', rfl, h2⟩
  · exact absurd hg.1 h1
  · exact absurd hg h1
  · obtain ⟨_, q2, q3, q4, q5, q6, _, q8⟩ := P4.read_hd s d t k i (20 + body.length) (P4.ck s d t k i (20 + body.length)) body (V4.okp_okh h hl) rfl hl
    have e : V4.bys s d t k i body = P4.hd s d t k i (20 + body.length) (P4.ck s d t k i (20 + body.length)) ++ body := rfl
    rw [← e] at q2 q3 q4 q5 q6 q8
    rw [q8] at h2
    exact ⟨a', _, c', by rw [q2, q3, q4, q5, q6], h2, hb⟩
def Kst (w : World) (z : List Int) (a : Option Addr) (len cap : Nat) (s d : List Int) (W : World) : Prop := SgIn w.heap.size z a len cap W ∧ SixIn (w.heap.size + 1) s W ∧ SixIn (w.heap.size + 1 + 1) d W ∧ Below w.heap.size w W
theorem Kst.kept {w : World} {z : List Int} {a : Option Addr} {len cap : Nat} {s d : List Int} {W W' : World} (h : Kst w z a len cap s d W) (hb : Below W.heap.size W W') : Kst w z a len cap s d W' := ⟨h.1.kept hb, h.2.1.kept hb, h.2.2.1.kept hb, bt h.2.2.2 hb⟩
theorem Kst.start (w : World) (z : List Int) (a : Option Addr) (len cap : Nat) (s d : List Int) : Kst w z a len cap s d (((w.alloc (.cells (sgC z a len cap) 39)).alloc (.cells (sixC s) 23)).alloc (.cells (sixC d) 23)) := by
  have b1 := al_below w (.cells (sgC z a len cap) 39)
  have b2 := al_below (w.alloc (.cells (sgC z a len cap) 39)) (.cells (sixC s) 23)
  have b3 := al_below ((w.alloc (.cells (sgC z a len cap) 39)).alloc (.cells (sixC s) 23)) (.cells (sixC d) 23)
  have p1 := sg_new w z a len cap
  have p2 := six_al s (w.alloc (.cells (sgC z a len cap) 39))
  have p3 := six_al d ((w.alloc (.cells (sgC z a len cap) 39)).alloc (.cells (sixC s) 23))
  rw [World.size_alloc] at p2
  rw [World.size_alloc, World.size_alloc] at p3
  exact ⟨(p1.kept b2).kept b3, p2.kept b3, p3, bt (bt b1 b2) b3⟩
theorem kind_n (k : Int) : (k == 6) = true ∧ hn k = 20 ∨ (k == 6) = false ∧ hn k = 8 := by
  unfold hn
  by_cases h : k = 6
  · exact .inl ⟨by simp [h], if_pos h⟩
  · exact .inr ⟨by simp [h], if_neg h⟩
attribute [local go_sem ↓] q6b_shut q4b_shut
set_option maxRecDepth 100000 in
set_option maxHeartbeats 4000000 in
theorem sent_ok (z : List Int) (a : Option Addr) (len cap : Nat) (D s d : List Int) (t : Int) (w : World) (hs : Ok6 s) (hd : Ok6 d) (ht : up 255 t = true) (hz : Okg z len) (hr : Row8 w a len cap D) :
    Calls Tryz.prog 32 #[.agg (sgC z a len cap), .agg (sixC s), .agg (sixC d), .int .i64 t] w fun e w' => ∃ v, e = .returned v ∧ Own w.heap.size w' v (p6o s d t z D) ∧ Below w.heap.size w w' := by
  have hlen := hr.1
  have hk := okg_kind hz
  have hL := okg_len hz
  have hp6 : p6o s d t z D = V6.bys s d t (el z 0) (eb z (o6 s d (el z 0) ((hn (el z 0) : Nat) + (len : Int))) D) := by unfold p6o; rw [hlen]
  rw [hp6]
  have HOv := hide (fun W => over6_ok s d (el z 0) ((hn (el z 0) : Nat) + (len : Int)) W hs hd hk hL)
  have ho := o6_in s d (el z 0) ((hn (el z 0) : Nat) + (len : Int)) hs hd
  generalize o6 s d (el z 0) ((hn (el z 0) : Nat) + (len : Int)) = ov at HOv ho ⊢
  have HEn := hide (fun W (r : Row8 W a len cap D) => enc_form z a len cap ov D W hz ho r)
  have h20 := hn_le (el z 0)
  have h300 := hz.2.2.1
  have hok : V6.Okp s d t (el z 0) := ⟨hs, hd, up_true ht, up_true hk⟩
  have HIp := hide (fun W g l c (hl : l = hn (el z 0) + len) (r : Row8 W (some ⟨g, 0, none⟩) l c (eb z ov D)) => V6.encode_ok s d t (el z 0) (some ⟨g, 0, none⟩) l c (eb z ov D) W hok (by omega) r)
  have hbr := fun a n c W => q6b_run s d t (el z 0) a n c W
  unfold V6.pk at HIp
  generalize eb z ov D = E at HEn HIp ⊢
  have HK := hide (Kst.start w z a len cap s d)
  have HR := hide (hr.below HK.out.2.2.2)
  have hKN := kind_n (el z 0)
  generalize hek : el z 0 = k at HOv HEn HIp hbr hKN h20 ⊢
  have HEK := hide hek
  have w1 : IntKind.i64.wrap (20 + (len : Int)) = 20 + (len : Int) := by rw [IntKind.wrap_i64]; omega
  have w2 : IntKind.i64.wrap (8 + (len : Int)) = 8 + (len : Int) := by rw [IntKind.wrap_i64]; omega
  clear hz hr hok hs hd ht hk hL ho hp6 hlen hek h300
  rcases hKN with ⟨hk6, hH⟩ | ⟨hk6, hH⟩
  case' inl => rw [hH, show ((20 : Nat) : Int) = 20 from rfl] at HOv
  case' inr => rw [hH, show ((8 : Nat) : Int) = 8 from rfl] at HOv
  all_goals
    generalize hn k = H at HEn HIp h20 hH
    clear hH
    go_enter Tryz.func32, Tryz.ntmps32
    go_upto_region 1 with fail
    generalize ((World.alloc _ _).alloc _).alloc _ = W0 at HK HR ⊢
    have l0 := HK.out.1.c0
    rw [HEK.out] at l0
    have l7 := HK.out.1.c7
    go_upto_region 7 with (first
      | (refine at_load6 rfl (.tmp 5) rfl rfl HK.out.2.1 ?_)
      | (refine at_load6 rfl (.tmp 6) rfl rfl HK.out.2.2.1 ?_)
      | (go_at_call 88; refine (HOv.out _).mono ?_; rintro e w2 ⟨rfl, hb2⟩; replace HK := hide (HK.out.kept hb2); replace HR := hide (HR.out.below hb2); clear hb2))
    clear l0 l7
    go_upto_region 10 with (first
      | (refine at_load rfl (.tmp 4) rfl rfl HK.out.1 ?_)
      | (go_at_call 89; refine (HEn.out _ HR.out).mono ?_; rintro e w3 ⟨g3, c3, rfl, k1, k2, -, r3, hb3⟩; replace HK := hide (HK.out.kept hb3); have HR5 := hide r3; clear hb3 r3 HR))
    have l0 := HK.out.1.c0
    rw [HEK.out] at l0
    have HI := hide (HIp.out _ g3 (H + len) c3 rfl HR5.out)
    go_wp2_with (first
      | (refine at_load6 rfl (.tmp 5) rfl rfl HK.out.2.1 ?_)
      | (refine at_load6 rfl (.tmp 6) rfl rfl HK.out.2.2.1 ?_)
      | (go_at_call 90; refine HI.out.mono ?_; rintro e w5 ⟨v5, rfl, o5, hb5⟩; have HO := hide (o5.mono HK.out.2.2.2.size); have HB := hide (bt HK.out.2.2.2 hb5); clear o5 hb5 l0))
    go_ret
    exact ⟨_, rfl, HO.out, HB.out⟩
theorem kind_w (k : Int) : ∃ n : Int, ((k == 6) = true ∧ n = 20 ∨ (k == 6) = false ∧ n = 8) ∧ n = (hn k : Nat) := by
  rcases kind_n k with ⟨h1, h2⟩ | ⟨h1, h2⟩
  · exact ⟨20, .inl ⟨h1, rfl⟩, by rw [h2]; rfl⟩
  · exact ⟨8, .inr ⟨h1, rfl⟩, by rw [h2]; rfl⟩
theorem wrap_small {n : Int} {len : Nat} (h0 : 0 ≤ n ∧ n ≤ 20) (h : len ≤ 320) : IntKind.i64.wrap (n + (len : Int)) = n + (len : Int) := by rw [IntKind.wrap_i64]; omega
end Go.Proofs.YtkhahbghmdccaaaGreatDoor

namespace Go.Proofs.YtkhahbghmdccaaaGreatDoor
open Go.RowKit
attribute [local go_sem ↓] q4b_shut
set_option maxRecDepth 100000 in
set_option maxHeartbeats 4000000 in
theorem bk_ok (z : List Int) (a : Option Addr) (len cap : Nat) (D : List Int) (s d t : Int) (w : World) (hs : up 4294967295 s = true) (hd : up 4294967295 d = true) (ht : up 255 t = true) (hz : Okg z len) (hr : Row8 w a len cap D) :
    Calls Tryz.prog 86 #[.agg (sgC z a len cap), .int .i64 s, .int .i64 d, .int .i64 t] w fun e w' => ∃ v, e = .returned v ∧ Own w.heap.size w' v (p4o s d t z D) ∧ Below w.heap.size w w' := by
  have hlen := hr.1
  have hk := okg_kind hz
  have hL := okg_len hz
  have hp4 : p4o s d t z D = V4.bys s d t (el z 0) 0 (eb z (o4 s d (el z 0) ((hn (el z 0) : Nat) + (len : Int))) D) := by unfold p4o; rw [hlen]
  rw [hp4]
  have h300 := hz.2.2.1
  have h20 := hn_le (el z 0)
  obtain ⟨n, hn6, hnn⟩ := kind_w (el z 0)
  have hw := wrap_small (n := n) (len := len) (by omega) (by omega)
  have HOv := hide (fun W => over4_o s d (el z 0) ((hn (el z 0) : Nat) + (len : Int)) W hs hd hk hL)
  have ho := o4_in s d (el z 0) ((hn (el z 0) : Nat) + (len : Int))
  rw [← hnn] at HOv ho ⊢
  generalize o4 s d (el z 0) (n + (len : Int)) = ov at HOv ho ⊢
  have HEn := hide (fun W (r : Row8 W a len cap D) => enc_form z a len cap ov D W hz ho r)
  have hok : V4.Okp s d t (el z 0) 0 := ⟨up_true hs, up_true hd, up_true ht, up_true hk, by unfold Word; omega⟩
  have HIp := hide (fun W g l c (hl : l = hn (el z 0) + len) (r : Row8 W (some ⟨g, 0, none⟩) l c (eb z ov D)) => V4.encode_ok s d t (el z 0) 0 (some ⟨g, 0, none⟩) l c (eb z ov D) W hok (by omega) r)
  have hbr := fun a n c W => q4b_run s d t (el z 0) a n c W
  unfold V4.pk at HIp hbr
  generalize eb z ov D = E at HEn HIp ⊢
  have HS := hide (sg_new w z a len cap)
  have HB := hide (al_below w (.cells (sgC z a len cap) 39))
  have HR := hide (hr.below HB.out)
  generalize hek : el z 0 = k at HOv HEn HIp hbr hn6 h20 ⊢
  have HEK := hide hek
  generalize hn k = H at HEn HIp h20
  clear hz hr hok hs hd ht hk hL ho hnn hek h300 hp4 hlen
  rcases hn6 with ⟨hk6, rfl⟩ | ⟨hk6, rfl⟩
  all_goals
    go_enter Tryz.func86, Tryz.ntmps86
    go_upto_region 1 with fail
    generalize World.alloc _ _ = W0 at HS HB HR ⊢
    have l0 := HS.out.c0
    rw [HEK.out] at l0
    have l7 := HS.out.c7
    go_upto_region 10 with (first
      | (go_at_call 127; refine (HOv.out _).mono ?_; rintro e w2 ⟨rfl, hb2⟩; replace HS := hide (HS.out.kept hb2); replace HB := hide (bt HB.out hb2); replace HR := hide (HR.out.below hb2); clear hb2 l0 l7)
      | (refine at_load rfl (.tmp 4) rfl rfl HS.out ?_)
      | (go_at_call 89; refine (HEn.out _ HR.out).mono ?_; rintro e w3 ⟨g3, c3, rfl, k1, k2, -, r3, hb3⟩; replace HS := hide (HS.out.kept hb3); replace HB := hide (bt HB.out hb3); have HR5 := hide r3; clear hb3 r3 HR k1 k2))
    have l0 := HS.out.c0
    rw [HEK.out] at l0
    have HI := hide (HIp.out _ g3 (H + len) c3 rfl HR5.out)
    go_wp2_with (go_at_call 70; refine HI.out.mono ?_; rintro e w5 ⟨v5, rfl, o5, hb5⟩; have HO := hide (o5.mono HB.out.size); replace HB := hide (bt HB.out hb5); clear o5 hb5 l0)
    go_ret
    exact ⟨_, rfl, HO.out, HB.out⟩
theorem dec_any (z : List Int) (over : Int) (D : List Int) (W : World) (n : Nat) (a : Option Addr) (c : Nat) (h : Okg z D.length) (ho : up 65535 over = true) (hn0 : n = hn (el z 0) + D.length) (hr : Row8 W a n c (eb z over D)) (h1 : n ≤ c) (h2 : c ≤ maxLen) :
    Calls Tryz.prog 137 #[.int .i64 (el z 0), .slice a n c, .int .i64 over] W fun e w' => ∃ a' l' c', e = .returned (.tuple #[.agg (sgC z a' l' c'), .nilIface]) ∧ Row8 w' a' l' c' D ∧ Below W.heap.size W w' := by
  obtain ⟨g, off, rfl, _⟩ := hr.2.2.2.2 (by have := hn_pos (el z 0); omega)
  exact dec_own z g off n c over D W h ho hr h1 h2
attribute [local go_sem ↓] gload_shut gstore_shut V6.hstore_shut pload6_shut pload4_shut pstore4_shut
set_option maxRecDepth 100000 in
set_option maxHeartbeats 4000000 in
theorem opened_ok (a : Option Addr) (len cap : Nat) (s d t : Int) (z D : List Int) (w : World) (hr : Row8 w a len cap (p4o s d t z D)) (hcl : len ≤ cap) (hcm : cap ≤ maxLen) (hs : up 4294967295 s = true) (hd : up 4294967295 d = true) (ht : up 255 t = true) (hz : Okg z D.length) :
    Calls Tryz.prog 85 #[.slice a len cap] w fun e w' => ∃ a1 l1 c1 a2 l2 c2, e = .returned (.tuple #[V4.pk s d t (el z 0) 0 a1 l1 c1, .agg (sgC z a2 l2 c2), .bool true]) ∧ Row8 w' a2 l2 c2 D ∧ Below w.heap.size w w' := by
  have HV := hide (R4.start w)
  unfold V4.zero4 zero7 at HV
  have h20 := hn_le (el z 0)
  have h300 := hz.2.2.1
  obtain ⟨n, hn0⟩ : ∃ n, n = hn (el z 0) + D.length := ⟨_, rfl⟩
  have hni : ((hn (el z 0) : Nat) + (D.length : Int)) = (n : Int) := by omega
  unfold p4o at hr
  rw [hni] at hr
  have hov := o4_in s d (el z 0) n
  have HD := hide (show ∀ W, Below w.heap.size w W → Calls Tryz.prog 22 #[.slice a len cap] W fun e w' => ∃ a' c', e = .returned (.tuple #[V4.pk s d t (el z 0) 0 a' n c', .nilIface]) ∧ Row8 w' a' n c' (eb z (o4 s d (el z 0) n) D) ∧ n ≤ c' ∧ c' ≤ maxLen ∧ Below W.heap.size W w' from fun W hb => (V4.decode_bysb a len cap s d t (el z 0) 0 _ W (hr.below hb) hcl hcm (okp4z hs hd ht hz) (eb_le hz _)).mono fun e w' ⟨a', l', c', e1, ⟨e2, e3, e4⟩, e5⟩ => by
    have hl := e2.1
    rw [eb_len, ← hn0] at hl
    subst hl
    exact ⟨a', c', e1, e2, e3, e4, e5⟩)
  have HOv := hide (fun W => over4_o s d (el z 0) n W hs hd (okg_kind hz) (decide_eq_true ⟨by omega, by omega⟩))
  have HOs := hide (fun W a' c' (r : Row8 W a' n c' (eb z (o4 s d (el z 0) n) D)) (h1 : n ≤ c') (h2 : c' ≤ maxLen) => dec_any z (o4 s d (el z 0) n) D W n a' c' hz hov hn0 r h1 h2)
  clear hr hcl hcm hs hd ht hz hov hn0 hni h20 h300
  generalize o4 s d (el z 0) n = ov at HD HOv HOs
  generalize eb z ov D = E at HD HOs
  generalize el z 0 = k at HD HOv HOs ⊢
  have HZ := hide (fun W => V4.zero_new W)
  have HZ7 := hide (fun W => zero_new W)
  unfold V4.zero4 at HZ
  unfold zero7 at HZ7
  go_enter Tryz.func85, Tryz.ntmps85
  go_upto_region 1 with fail
  generalize (World.alloc _ _).alloc _ = W0 at HV ⊢
  go_upto_region 4 with (first
    | (go_at_call 22; refine (HD.out _ HV.out.2.2).mono ?_; rintro e w1 ⟨a1, c1, rfl, r1, k1, k2, hb1⟩; replace HV := hide (HV.out.kept hb1); have HZ1 := hide (HZ.out w1); replace r1 := hide r1; clear hb1)
    | (refine V4.at_store rfl (.tmp 5) (.tmp 12) rfl rfl HZ1.out s d t k 0 a1 n c1 rfl ?_; intro w2 p2 on2; replace HV := hide (HV.out.kept (new_below _ on2)); replace r1 := hide (r1.out.below (new_below _ on2)); replace p2 := hide p2; clear on2))
  clear HZ1
  generalize w1.heap.size = B1 at p2 ⊢
  obtain ⟨l0, l1, l2, l3, -, l5⟩ := p2.out.all
  go_upto_region 7 with (first
    | (go_at_call 127; refine (HOv.out _).mono ?_; rintro e w3 ⟨rfl, hb3⟩; replace HV := hide (HV.out.kept hb3); replace r1 := hide (r1.out.below hb3); replace p2 := hide (p2.out.kept hb3); clear hb3 l0 l1 l2 l3 l5))
  obtain ⟨l0, l1, l2, l3, -, l5⟩ := p2.out.all
  go_upto_region 8 with (first
    | (go_at_call 137; refine (HOs.out _ a1 c1 r1.out k1 k2).mono ?_; rintro e w4 ⟨a4, l4, c4, rfl, r4, hb4⟩; replace HV := hide (HV.out.kept hb4); replace p2 := hide (p2.out.kept hb4); have HZ4 := hide (HZ7.out w4); replace r4 := hide r4; clear hb4 l0 l1 l2 l3 l5 r1)
    | (refine at_store rfl (.tmp 8) (.tmp 42) rfl rfl HZ4.out z a4 l4 c4 rfl ?_; intro w5 p5 on5; replace HV := hide (HV.out.kept (new_below _ on5)); replace r4 := hide (r4.out.below (new_below _ on5)); replace p2 := hide (p2.out.kept (new_below _ on5)); replace p5 := hide p5; clear on5))
  clear HZ4
  generalize w4.heap.size = C1 at p5 ⊢
  have q1 := pl4 (w := w5.drew) p2.out
  have q2 := SgIn.gl (w := w5.drew) p5.out
  obtain ⟨wa, ha, pa, ona⟩ := held4 (w := w5.drew) HV.out.1 s d t k 0 a1 n c1
  have nC : C1 ≠ w.heap.size := by
    rintro rfl
    have h1 : w5.heap[w.heap.size]? = _ := p5.out
    rw [show w5.heap[w.heap.size]? = _ from HV.out.1] at h1
    injection h1 with h1
    injection h1 with _ h2
    exact absurd h2 (by decide)
  have pC := ona.sg (w := w5.drew) p5.out nC
  have q2a := pC.gl
  obtain ⟨wb, hb, pb, onb⟩ := (ona.sg (w := w5.drew) HV.out.2.1 (by omega)).held z a4 l4 c4
  have HP := hide (show V4.PkIn w.heap.size s d t k 0 a1 n c1 wb from (onb.2.2.2.2 _ (by omega)).trans pa)
  have HS := hide pb
  have HB := hide (onb.below (ona.below (HV.out.2.2.drew) (Nat.le_refl _)) (Nat.le_succ _))
  have HR := hide (((r4.out.below (w' := w5.drew) ⟨rfl, rfl, rfl, Nat.le_refl _, fun _ _ => rfl⟩).pastn (no4 (w := w5.drew) HV.out.1) ona).past (ona.sg (w := w5.drew) HV.out.2.1 (by omega)) onb)
  clear pa ona pb onb pC nC HV p2 p5
  go_region
  all_goals
    go_wp2
    try simp only [Exit.inBlock, Exit.then]
    refine bodyPost_ret (results_p4 rfl _ _ w.heap.size (w.heap.size + 1) s d t k 0 a1 n c1 z a4 l4 c4 rfl rfl HP.out HS.out) rfl ?_
    exact ⟨a1, n, c1, a4, l4, c4, rfl, HR.out, HB.out⟩
set_option maxRecDepth 100000 in
set_option maxHeartbeats 4000000 in
theorem opened6_ok (a : Option Addr) (len cap : Nat) (s d : List Int) (t : Int) (z D : List Int) (w : World) (hr : Row8 w a len cap (p6o s d t z D)) (hcl : len ≤ cap) (hcm : cap ≤ maxLen) (hs : Ok6 s) (hd : Ok6 d) (ht : up 255 t = true) (hz : Okg z D.length) :
    Calls Tryz.prog 87 #[.slice a len cap] w fun e w' => ∃ a1 l1 c1 a2 l2 c2, e = .returned (.tuple #[.agg (V6.pkC s d t (el z 0) a1 l1 c1), .agg (sgC z a2 l2 c2), .bool true]) ∧ Row8 w' a2 l2 c2 D ∧ Below w.heap.size w w' := by
  have HV := hide (R6.start w)
  unfold V6.zero6 zero7 at HV
  have h20 := hn_le (el z 0)
  have h300 := hz.2.2.1
  obtain ⟨n, hn0⟩ : ∃ n, n = hn (el z 0) + D.length := ⟨_, rfl⟩
  have hni : ((hn (el z 0) : Nat) + (D.length : Int)) = (n : Int) := by omega
  unfold p6o at hr
  rw [hni] at hr
  have hov := o6_in s d (el z 0) n hs hd
  have HD := hide (show ∀ W, Below w.heap.size w W → Calls Tryz.prog 116 #[.slice a len cap] W fun e w' => ∃ a' c', e = .returned (.tuple #[.agg (V6.pkC s d t (el z 0) a' n c'), .nilIface]) ∧ Row8 w' a' n c' (eb z (o6 s d (el z 0) n) D) ∧ n ≤ c' ∧ c' ≤ maxLen ∧ Below W.heap.size W w' from fun W hb => (V6.decode_bysb a len cap s d t (el z 0) _ W (hr.below hb) hcl hcm (okp6 hs hd ht hz) (eb_le hz _)).mono fun e w' ⟨a', l', c', e1, ⟨e2, e3, e4⟩, e5⟩ => by
    have hl := e2.1
    rw [eb_len, ← hn0] at hl
    subst hl
    exact ⟨a', c', e1, e2, e3, e4, e5⟩)
  have HOv := hide (fun W => over6_ok s d (el z 0) n W hs hd (okg_kind hz) (decide_eq_true ⟨by omega, by omega⟩))
  have HOs := hide (fun W a' c' (r : Row8 W a' n c' (eb z (o6 s d (el z 0) n) D)) (h1 : n ≤ c') (h2 : c' ≤ maxLen) => dec_any z (o6 s d (el z 0) n) D W n a' c' hz hov hn0 r h1 h2)
  clear hr hcl hcm hs hd ht hz hov hn0 hni h20 h300
  generalize o6 s d (el z 0) n = ov at HD HOv HOs
  generalize eb z ov D = E at HD HOs
  generalize el z 0 = k at HD HOv HOs ⊢
  have HZ := hide (fun W => V6.zero_new W)
  have HZ7 := hide (fun W => zero_new W)
  unfold V6.zero6 at HZ
  unfold zero7 at HZ7
  go_enter Tryz.func87, Tryz.ntmps87
  go_upto_region 1 with fail
  generalize (World.alloc _ _).alloc _ = W0 at HV ⊢
  go_upto_region 4 with (first
    | (go_at_call 116; refine (HD.out _ HV.out.2.2).mono ?_; rintro e w1 ⟨a1, c1, rfl, r1, k1, k2, hb1⟩; replace HV := hide (HV.out.kept hb1); have HZ1 := hide (HZ.out w1); replace r1 := hide r1; clear hb1)
    | (refine V6.at_store rfl (.tmp 5) (.tmp 12) rfl rfl HZ1.out s d t k a1 n c1 rfl ?_; intro w2 p2 on2; replace HV := hide (HV.out.kept (new_below _ on2)); replace r1 := hide (r1.out.below (new_below _ on2)); replace p2 := hide p2; clear on2))
  clear HZ1
  generalize w1.heap.size = B1 at p2 ⊢
  have l17 := p2.out.kind
  have l18 := p2.out.body
  go_upto_region 7 with (first
    | (refine V6.at_src rfl (.tmp 19) rfl rfl p2.out ?_)
    | (refine V6.at_dst rfl (.tmp 21) rfl rfl p2.out ?_)
    | (go_at_call 88; refine (HOv.out _).mono ?_; rintro e w3 ⟨rfl, hb3⟩; replace HV := hide (HV.out.kept hb3); replace r1 := hide (r1.out.below hb3); replace p2 := hide (p2.out.kept hb3); clear hb3 l17 l18))
  have l17 := p2.out.kind
  have l18 := p2.out.body
  go_upto_region 8 with (first
    | (go_at_call 137; refine (HOs.out _ a1 c1 r1.out k1 k2).mono ?_; rintro e w4 ⟨a4, l4, c4, rfl, r4, hb4⟩; replace HV := hide (HV.out.kept hb4); replace p2 := hide (p2.out.kept hb4); have HZ4 := hide (HZ7.out w4); replace r4 := hide r4; clear hb4 l17 l18 r1)
    | (refine at_store rfl (.tmp 8) (.tmp 42) rfl rfl HZ4.out z a4 l4 c4 rfl ?_; intro w5 p5 on5; replace HV := hide (HV.out.kept (new_below _ on5)); replace r4 := hide (r4.out.below (new_below _ on5)); replace p2 := hide (p2.out.kept (new_below _ on5)); replace p5 := hide p5; clear on5))
  clear HZ4
  generalize w4.heap.size = C1 at p5 ⊢
  have q1 := pl6 (w := w5.drew) p2.out
  have q2 := SgIn.gl (w := w5.drew) p5.out
  obtain ⟨wa, ha, pa, ona⟩ := V6.PkIn.held (w := w5.drew) HV.out.1 s d t k a1 n c1
  have nC : C1 ≠ w.heap.size := by
    rintro rfl
    have h1 : w5.heap[w.heap.size]? = _ := p5.out
    rw [show w5.heap[w.heap.size]? = _ from HV.out.1] at h1
    injection h1 with h1
    injection h1 with _ h2
    exact absurd h2 (by decide)
  have pC := ona.sg (w := w5.drew) p5.out nC
  have q2a := pC.gl
  obtain ⟨wb, hb, pb, onb⟩ := (ona.sg (w := w5.drew) HV.out.2.1 (by omega)).held z a4 l4 c4
  have HP := hide (show V6.PkIn w.heap.size s d t k a1 n c1 wb from (onb.2.2.2.2 _ (by omega)).trans pa)
  have HS := hide pb
  have HB := hide (onb.below (ona.below (HV.out.2.2.drew) (Nat.le_refl _)) (Nat.le_succ _))
  have HR := hide (((r4.out.below (w' := w5.drew) ⟨rfl, rfl, rfl, Nat.le_refl _, fun _ _ => rfl⟩).pastn (no6 (w := w5.drew) HV.out.1) ona).past (ona.sg (w := w5.drew) HV.out.2.1 (by omega)) onb)
  clear pa ona pb onb pC nC HV p2 p5
  go_region
  all_goals
    go_wp2
    try simp only [Exit.inBlock, Exit.then]
    refine bodyPost_ret (results_p6 rfl _ _ w.heap.size (w.heap.size + 1) s d t k a1 n c1 z a4 l4 c4 rfl rfl HP.out HS.out) rfl ?_
    exact ⟨a1, n, c1, a4, l4, c4, rfl, HR.out, HB.out⟩
end Go.Proofs.YtkhahbghmdccaaaGreatDoor

namespace Go.Proofs.YtkhahbghmdccaaaGreatDoor
open Go.RowKit
def c0 : List Int := [1, 0, 0, 0, 0, 0, 0, 0, 80, 2, 0, 0, 0, 0, 0, 0, 0, 32, 9, 0, 2]
def bk0 : List (List Int) := [[1, 5, 8080, 1, 1, 0]]
def cbu (ps : Array (Nat × Value)) : Sem Value := Instr.build 26 ps
theorem cbu_shut (ps : Array (Nat × Value)) : Instr.build 26 ps = cbu ps := rfl
theorem cbu_run (a : Option Addr) (n c : Nat) (w : World) : (cbu #[(0, .agg #[.int .i64 1, .int .i64 0, .int .i64 0, .int .i64 0, .int .i64 0, .int .i64 0, .int .i64 0, .int .i64 0]), (1, .int .i64 80), (2, .agg #[.int .i64 2, .int .i64 0, .int .i64 0, .int .i64 0, .int .i64 0, .int .i64 0, .int .i64 0, .int .i64 0]), (3, .int .i64 32), (4, .int .i64 9), (6, .int .i64 2), (7, .bool true), (8, .slice a n c)]).run Tryz.prog w = .ok (.agg (cfC c0 true a n c)) w := by kernel_rfl
def zero23c : Array Value := #[.int .i64 0, .int .i64 0, .int .i64 0, .int .i64 0, .int .i64 0, .int .i64 0, .int .i64 0, .int .i64 0, .int .i64 0, .int .i64 0, .int .i64 0, .int .i64 0, .int .i64 0, .int .i64 0, .int .i64 0, .int .i64 0, .int .i64 0, .int .i64 0, .int .i64 0, .int .i64 0, .int .i64 0, .bool false, .slice none 0 0]
theorem cf_zero (w : World) : CfIn w.heap.size [] false none 0 0 (w.alloc (.cells zero23c 26)) := heap_alloc_new w _
theorem CfIn.stored {B : Nat} {c0 : List Int} {inj0 : Bool} {a0 : Option Addr} {n0 cap0 : Nat} {w : World} (p : CfIn B c0 inj0 a0 n0 cap0 w) (c : List Int) (inj : Bool) (a : Option Addr) (n cap : Nat) : CfIn B c inj a n cap (w.setRow B (cfC c inj a n cap)) := setRow_heap w B _ _ _ (0, 0) p
theorem at_storec {ops : Array Oper} {rest : List Oper} {o : Oper} {f : Act} {w : World} {Q : Exit → Act → World → Prop} (hgd : o.guard = none) (x y : Operand) (ho : o.op = .store 26 x y)
    {B : Nat} {c0 : List Int} {inj0 : Bool} {a0 : Option Addr} {n0 cap0 : Nat} (hx : f.eval x = .pointer (some ⟨B, 0, none⟩)) (p : CfIn B c0 inj0 a0 n0 cap0 w)
    (c : List Int) (inj : Bool) (a : Option Addr) (n cap : Nat) (hy : f.eval y = .agg (cfC c inj a n cap))
    (hK : ∀ w', CfIn B c inj a n cap w' → Only B w w' → wpList Tryz.prog ops Q rest (f.put o.dst undef) w') : wpList Tryz.prog ops Q (o :: rest) f w :=
  wpList_store_row hgd 26 x y ho B _ hx hy 26 _ p (by kernel_rfl) rfl (by unfold cfC; simp [Value.oneCell']) (hK _ (p.stored c inj a n cap) (only_setRow _ _ _))
theorem cf_result {fn : Func} {p : Tmp} (h : fn.results = #[.cell p 26]) (tmps : Array Value) (w : World) (B : Nat) (c : List Int) (inj : Bool) (a : Option Addr) (n cap : Nat)
    (ht : tmps.getD p undef = .pointer (some ⟨B, 0, none⟩)) (hg : CfIn B c inj a n cap w) : (results fn tmps).run Tryz.prog w = .ok (.agg (cfC c inj a n cap)) w :=
  results_cell_row h tmps w B 26 _ (0, 0) _ ht hg Tryz.underlying26 rfl (by kernel_rfl)
theorem bks0 (w : World) (B : Nat) (hB : w.heap[B]? = some (.cells #[.int .i64 1, .int .i64 5, .int .i64 8080, .int .i64 1, .bool true, .bool false] 95 (0, 0))) : Bks (some ⟨B, 0, none⟩) bk0 w := fun _ => ⟨B, 0, rfl, (Array.getElem?_eq_some_iff.1 hB).1, fun k hk j v hv => by
  have hk0 : k = 0 := by have : bk0.length = 1 := rfl; omega
  subst hk0
  have hj : j < 6 := (List.getElem?_eq_some_iff.1 hv).1
  rw [cell_of_row w B _ _ _ _ hB]
  rcases (by omega : j = 0 ∨ j = 1 ∨ j = 2 ∨ j = 3 ∨ j = 4 ∨ j = 5) with rfl | rfl | rfl | rfl | rfl | rfl <;> exact hv⟩
attribute [local go_sem ↓] cbu_shut
set_option maxRecDepth 100000 in
set_option maxHeartbeats 4000000 in
theorem tplain_any (w : World) : Calls Tryz.prog 31 #[] w fun e w' => ∃ B, e = .returned (.agg (cfC c0 true (some ⟨B, 0, none⟩) 1 1)) ∧ Bks (some ⟨B, 0, none⟩) bk0 w' ∧ Below w.heap.size w w' := by
  have HP := hide (cf_zero w)
  have HB := hide (al_below w (.cells zero23c 26))
  unfold zero23c at HP HB
  have hbu := fun a n c W => cbu_run a n c W
  go_enter Tryz.func31, Tryz.ntmps31
  go_upto_region 1 with fail
  have HL := hide (show w.heap.size < (w.alloc (.cells #[.int .i64 0, .int .i64 0, .int .i64 0, .int .i64 0, .int .i64 0, .int .i64 0, .int .i64 0, .int .i64 0, .int .i64 0, .int .i64 0, .int .i64 0, .int .i64 0, .int .i64 0, .int .i64 0, .int .i64 0, .int .i64 0, .int .i64 0, .int .i64 0, .int .i64 0, .int .i64 0, .int .i64 0, .bool false, .slice none 0 0] 26)).heap.size from HP.out.lt)
  generalize World.alloc _ _ = W0 at HP HB HL ⊢
  have HB2 := hide (al_below W0 (.cells #[.int .i64 1, .int .i64 5, .int .i64 8080, .int .i64 1, .bool true, .bool false] 95))
  have HK := hide (heap_alloc_new W0 (.cells #[.int .i64 1, .int .i64 5, .int .i64 8080, .int .i64 1, .bool true, .bool false] 95))
  go_wp2_with (refine at_storec rfl (.tmp 0) (.tmp 5) rfl rfl (HP.out.kept HB2.out) c0 true (some ⟨W0.heap.size, 0, none⟩) 1 1 rfl ?_; intro w3 p3 on3; have HP3 := hide p3; have HK3 := hide (bks0 w3 W0.heap.size ((on3.2.2.2.2 _ (by have := HL.out; omega)).trans HK.out)); have HB3 := hide (on3.below (bt HB.out HB2.out) (Nat.le_refl _)); clear p3 on3)
  try simp only [Exit.inBlock, Exit.then]
  refine bodyPost_ret (cf_result rfl _ _ w.heap.size c0 true (some ⟨W0.heap.size, 0, none⟩) 1 1 rfl HP3.out) rfl ?_
  exact ⟨_, rfl, HK3.out, HB3.out⟩
theorem ok_c0 : Ok6 (pfx c0) := by intro j hj; rcases (by omega : j = 0 ∨ j = 1 ∨ j = 2 ∨ j = 3 ∨ j = 4 ∨ j = 5 ∨ j = 6 ∨ j = 7) with rfl | rfl | rfl | rfl | rfl | rfl | rfl | rfl <;> exact ⟨by decide, by decide⟩
end Go.Proofs.YtkhahbghmdccaaaGreatDoor

namespace Go.Proofs.YtkhahbghmdccaaaGreatDoor
open Go.RowKit
def fq : List Int := fl5 17 [3] 7 [1] 80
def bqo : List Int := mkb fq 1024 5 8080 0
def zq6 : List Int := [17, 7, 80, 0, 0, 0, 0]
def zq4 : List Int := [17, 8080, 1024, 0, 0, 0, 0]
def G1 : GS := (gz0 c0 true bk0 2).tab (upd (fun _ => []) 0 (cli fq)) (upd (fun _ => false) 0 true) [bqo]
theorem ok_one (x : Int) (h : 0 ≤ x ∧ x ≤ 65535) : Ok6 [x] := by
  intro j hj
  rcases (by omega : j = 0 ∨ j = 1 ∨ j = 2 ∨ j = 3 ∨ j = 4 ∨ j = 5 ∨ j = 6 ∨ j = 7) with rfl | rfl | rfl | rfl | rfl | rfl | rfl | rfl
  · exact h
  all_goals exact ⟨(by decide : (0 : Int) ≤ 0), (by decide : (0 : Int) ≤ 65535)⟩
theorem okg_q6 : Okg zq6 2 := ⟨⟨by decide, by decide⟩, ⟨by decide, by decide⟩, by decide, .inr ⟨rfl, rfl, rfl, rfl, rfl⟩⟩
theorem okg_q4 : Okg zq4 0 := ⟨⟨by decide, by decide⟩, ⟨by decide, by decide⟩, by decide, .inr ⟨rfl, rfl, rfl, rfl, rfl⟩⟩
theorem pf_c0 : Em.PF (pfx c0) (el c0 17) 0 := .inr (.inr (.inr ⟨ok_c0, .inl rfl, by decide +kernel, rfl⟩))
theorem cko_c0 : cko c0 bk0 0 = 0 := by decide +kernel
theorem ig_c0 : IG (gz0 c0 true bk0 2) := gz0_ig (by omega) pf_c0 cko_c0
theorem one_g6s : g6s (gz0 c0 true bk0 2) fq 9 zq6 [104, 105] = (0, p4o 9 5 8 [17, 1024, 8080, 0, 0, 0, 0] [104, 105], G1) := by kernel_rfl
theorem one_g6 : g6 (gz0 c0 true bk0 2) (p6o [3] [1] 9 zq6 [104, 105]) = (0, p4o 9 5 8 [17, 1024, 8080, 0, 0, 0, 0] [104, 105], G1) := by
  rw [g6_p6o _ (ok_one 3 ⟨by decide, by decide⟩) (ok_one 1 ⟨by decide, by decide⟩) (by decide) okg_q6, if_neg (by decide)]
  exact one_g6s
theorem oct_hi : SM.Oct [104, 105] := by
  intro j
  match j with
  | 0 => exact ⟨by decide, by decide⟩
  | 1 => exact ⟨by decide, by decide⟩
  | j + 2 => exact ⟨by simp, by simp⟩
theorem p6o_oct {s d : List Int} {t : Int} {z D : List Int} (hs : Ok6 s) (hd : Ok6 d) (ht : up 255 t = true) (hz : Okg z D.length) (ho : SM.Oct D) : SM.Oct (p6o s d t z D) := V6.bys_oct _ _ _ _ _ (okp6 hs hd ht hz) (eb_le hz _) (eb_oct _ _ _ ho (o6_in _ _ _ _ hs hd))
theorem ig_G1 : IG G1 := by
  have h := (g6_ig ig_c0 (p6o_oct (s := [3]) (d := [1]) (t := 9) (z := zq6) (D := [104, 105]) (ok_one 3 ⟨by decide, by decide⟩) (ok_one 1 ⟨by decide, by decide⟩) (by decide) okg_q6 oct_hi)).1
  rw [one_g6] at h
  exact h
theorem one_g4s : g4s G1 5 9 9 17 zq4 [] = (0, p6o [1, 0, 0, 0, 0, 0, 0, 0] [3, 0, 0, 0, 0, 0, 0, 0] 8 [17, 80, 7, 0, 0, 0, 0] [], G1) := by kernel_rfl
theorem one_g4 : g4 G1 (p4o 5 9 9 zq4 []) = (0, p6o [1, 0, 0, 0, 0, 0, 0, 0] [3, 0, 0, 0, 0, 0, 0, 0] 8 [17, 80, 7, 0, 0, 0, 0] [], G1) := by
  rw [g4_p4o _ (by decide) (by decide) (by decide) okg_q4, if_neg (by decide)]
  exact one_g4s
end Go.Proofs.YtkhahbghmdccaaaGreatDoor
