/- Package gangplanktop: sent, by contracts. Package gangplanktop: back, opened and opened6 of packets that were written so, by contracts. -/
import Derived.Test.YtkhahbghmdccaaaGreatS46
import Derived.Below
import Derived.OpenShut
import Derived.Test.YtkhahbghmdccaaaGreatProg
import Derived.WalkKit
import Derived.LaidEql
import Derived.BigQuiet
import Derived.Laws.AppendOwnNone
import Derived.Laws.MakeOwn
import Derived.Deep.RegionLaw
import Derived.Lib.Bytes
import Derived.Deep.MidRow
import Derived.Laws.ResultCell
import Derived.Deep.CutBlock
import Derived.Deep.QuietTactic
import Derived.OwnWalk
import Derived.Deep.RegionHeld3
import Derived.Deep.DrawnRows
import Derived.Laws.StructEq
import Derived.Maps.AppendAt
import Derived.Maps.RangeWalk
import Derived.Stop.Asserts
import Derived.RowKitTokens
import Derived.Test.YtkhahbghmdccaaaGreatShelf
import Derived.Shelf.Abstract
import Derived.Lib.SliceRun
import Derived.Lib.AppendZerosOnto
import Derived.Lib.AppendZeros
import Derived.Laws.CopyOwn
import Derived.RangeFuncNested
import Derived.RangeFuncBound
import Derived.RangeFuncCalls
import Derived.RangeFuncLeaves
import Derived.RangeFuncFrom
import Derived.Shelf.RegionOpen
import Derived.OwnWalkIn
import Derived.TacticsInMore
import Derived.LoopNIn
import Derived.LoopIn
import Derived.Deep.RegionWith
import Derived.ArgAppend
import Derived.Lib.SlBytesConst
import Derived.Lib.AppendStr
namespace Go.Proofs.YtkhahbghmdccaaaGreat
open Go.RowKit
theorem V6.decode_bysb (a : Option Addr) (len cap : Nat) (s d : List Int) (h k : Int) (body : List Int) (w : World) (hr : Row8 w a len cap (V6.bys s d h k body)) (hcl : len ≤ cap) (hcm : cap ≤ maxLen) (ho : V6.Okp s d h k) (hl : body.length ≤ 320) :
    Calls Tryz.prog 22 #[.slice a len cap] w fun e w' => ∃ a' l' c', e = .returned (.tuple #[.agg (V6.pkC s d h k a' l' c'), .nilIface]) ∧ (Row8 w' a' l' c' body ∧ l' ≤ c' ∧ c' ≤ maxLen) ∧ Below w.heap.size w w' := by
  refine (V6.decode_any a len cap _ w hr hcl hcm).mono ?_
  rintro e w' ⟨hh, hb⟩
  rcases hh with ⟨h1, _⟩ | ⟨_, a', c', rfl, h2⟩
  · exact absurd (V6.bys_good s d h k body hl) h1
  · obtain ⟨e1, e2⟩ := V6.adr_bys s d h k body ho
    rw [V6.bys_drop] at h2
    refine ⟨a', _, c', ?_, h2, hb⟩
    unfold V6.pk
    rw [V6.pkC_congr e1 e2]
    rfl
theorem V4.decode_bysb (a : Option Addr) (len cap : Nat) (s d t k i : Int) (body : List Int) (w : World) (hr : Row8 w a len cap (V4.bys s d t k i body)) (hcl : len ≤ cap) (hcm : cap ≤ maxLen) (h : V4.Okp s d t k i) (hl : body.length ≤ 320) :
    Calls Tryz.prog 17 #[.slice a len cap] w fun e w' => ∃ a' l' c', e = .returned (.tuple #[V4.pk s d t k i a' l' c', .nilIface]) ∧ (Row8 w' a' l' c' body ∧ l' ≤ c' ∧ c' ≤ maxLen) ∧ Below w.heap.size w w' := by
  refine (V4.decode_any a len cap _ w hr hcl hcm).mono ?_
  rintro e w' ⟨hh, hb⟩
  have hg := V4.bys_good s d t k i body h hl
  rcases hh with ⟨h1, _⟩ | ⟨_, h1, _⟩ | ⟨_, a', c', rfl, h2⟩
  · exact absurd hg.1 h1
  · exact absurd hg h1
  · obtain ⟨_, q2, q3, q4, q5, q6, _, q8⟩ := P4.read_hd s d t k i (20 + body.length) (P4.ck s d t k i (20 + body.length)) body (V4.okp_okh h hl) rfl hl
    have e : V4.bys s d t k i body = P4.hd s d t k i (20 + body.length) (P4.ck s d t k i (20 + body.length)) ++ body := rfl
    rw [← e] at q2 q3 q4 q5 q6 q8
    rw [q8] at h2
    exact ⟨a', _, c', by rw [q2, q3, q4, q5, q6], h2, hb⟩
def Kst (w : World) (z : List Int) (a : Option Addr) (len cap : Nat) (s d : List Int) (W : World) : Prop := SgIn w.heap.size z a len cap W ∧ SixIn (w.heap.size + 1) s W ∧ SixIn (w.heap.size + 1 + 1) d W ∧ Below w.heap.size w W
theorem Kst.kept {w : World} {z : List Int} {a : Option Addr} {len cap : Nat} {s d : List Int} {W W' : World} (h : Kst w z a len cap s d W) (hb : Below W.heap.size W W') : Kst w z a len cap s d W' := ⟨h.1.kept hb, h.2.1.kept hb, h.2.2.1.kept hb, bt h.2.2.2 hb⟩
theorem Kst.start (w : World) (z : List Int) (a : Option Addr) (len cap : Nat) (s d : List Int) : Kst w z a len cap s d (((w.alloc (.cells (sgC z a len cap) 30)).alloc (.cells (sixC s) 23)).alloc (.cells (sixC d) 23)) := by
  have b1 := al_below w (.cells (sgC z a len cap) 30)
  have b2 := al_below (w.alloc (.cells (sgC z a len cap) 30)) (.cells (sixC s) 23)
  have b3 := al_below ((w.alloc (.cells (sgC z a len cap) 30)).alloc (.cells (sixC s) 23)) (.cells (sixC d) 23)
  have p1 := sg_new w z a len cap
  have p2 := six_al s (w.alloc (.cells (sgC z a len cap) 30))
  have p3 := six_al d ((w.alloc (.cells (sgC z a len cap) 30)).alloc (.cells (sixC s) 23))
  rw [World.size_alloc] at p2
  rw [World.size_alloc, World.size_alloc] at p3
  exact ⟨(p1.kept b2).kept b3, p2.kept b3, p3, bt (bt b1 b2) b3⟩
theorem kind_n (k : Int) : (k == 6) = true ∧ hn k = 20 ∨ (k == 6) = false ∧ hn k = 8 := by
  unfold hn
  by_cases h : k = 6
  · exact .inl ⟨by simp [h], if_pos h⟩
  · exact .inr ⟨by simp [h], if_neg h⟩
attribute [local go_sem ↓] q6b_shut q4b_shut
set_option maxRecDepth 100000 in
set_option maxHeartbeats 4000000 in
theorem sent_ok (z : List Int) (a : Option Addr) (len cap : Nat) (D s d : List Int) (t : Int) (w : World) (hs : Ok6 s) (hd : Ok6 d) (ht : up 255 t = true) (hz : Okg z len) (hr : Row8 w a len cap D) :
    Calls Tryz.prog 32 #[.agg (sgC z a len cap), .agg (sixC s), .agg (sixC d), .int .i64 t] w fun e w' => ∃ v, e = .returned v ∧ Own w.heap.size w' v (p6o s d t z D) ∧ Below w.heap.size w w' := by
  have hlen := hr.1
  have hk := okg_kind hz
  have hL := okg_len hz
  have hp6 : p6o s d t z D = V6.bys s d t (el z 0) (eb z (o6 s d (el z 0) ((hn (el z 0) : Nat) + (len : Int))) D) := by unfold p6o; rw [hlen]
  rw [hp6]
  have HOv := hide (fun W => over6_ok s d (el z 0) ((hn (el z 0) : Nat) + (len : Int)) W hs hd hk hL)
  have ho := o6_in s d (el z 0) ((hn (el z 0) : Nat) + (len : Int)) hs hd
  generalize o6 s d (el z 0) ((hn (el z 0) : Nat) + (len : Int)) = ov at HOv ho ⊢
  have HEn := hide (fun W (r : Row8 W a len cap D) => enc_form z a len cap ov D W hz ho r)
  have h20 := hn_le (el z 0)
  have h300 := hz.2.2.1
  have hok : V6.Okp s d t (el z 0) := ⟨hs, hd, up_true ht, up_true hk⟩
  have HIp := hide (fun W g l c (hl : l = hn (el z 0) + len) (r : Row8 W (some ⟨g, 0, none⟩) l c (eb z ov D)) => V6.encode_ok s d t (el z 0) (some ⟨g, 0, none⟩) l c (eb z ov D) W hok (by omega) r)
  have hbr := fun a n c W => q6b_run s d t (el z 0) a n c W
  unfold V6.pk at HIp
  generalize eb z ov D = E at HEn HIp ⊢
  have HK := hide (Kst.start w z a len cap s d)
  have HR := hide (hr.below HK.out.2.2.2)
  have hKN := kind_n (el z 0)
  generalize hek : el z 0 = k at HOv HEn HIp hbr hKN h20 ⊢
  have HEK := hide hek
  have w1 : IntKind.i64.wrap (20 + (len : Int)) = 20 + (len : Int) := by rw [IntKind.wrap_i64]; omega
  have w2 : IntKind.i64.wrap (8 + (len : Int)) = 8 + (len : Int) := by rw [IntKind.wrap_i64]; omega
  clear hz hr hok hs hd ht hk hL ho hp6 hlen hek h300
  rcases hKN with ⟨hk6, hH⟩ | ⟨hk6, hH⟩
  case' inl => rw [hH, show ((20 : Nat) : Int) = 20 from rfl] at HOv
  case' inr => rw [hH, show ((8 : Nat) : Int) = 8 from rfl] at HOv
  all_goals
    generalize hn k = H at HEn HIp h20 hH
    clear hH
    go_enter Tryz.func32, Tryz.ntmps32
    go_upto_region 1 with fail
    generalize ((World.alloc _ _).alloc _).alloc _ = W0 at HK HR ⊢
    have l0 := HK.out.1.c0
    rw [HEK.out] at l0
    have l7 := HK.out.1.c7
    go_upto_region 7 with (first
      | (refine at_load6 rfl (.tmp 5) rfl rfl HK.out.2.1 ?_)
      | (refine at_load6 rfl (.tmp 6) rfl rfl HK.out.2.2.1 ?_)
      | (go_at_call 81; refine (HOv.out _).mono ?_; rintro e w2 ⟨rfl, hb2⟩; replace HK := hide (HK.out.kept hb2); replace HR := hide (HR.out.below hb2); clear hb2))
    clear l0 l7
    go_upto_region 10 with (first
      | (refine at_load rfl (.tmp 4) rfl rfl HK.out.1 ?_)
      | (go_at_call 85; refine (HEn.out _ HR.out).mono ?_; rintro e w3 ⟨g3, c3, rfl, k1, k2, -, r3, hb3⟩; replace HK := hide (HK.out.kept hb3); have HR5 := hide r3; clear hb3 r3 HR))
    have l0 := HK.out.1.c0
    rw [HEK.out] at l0
    have HI := hide (HIp.out _ g3 (H + len) c3 rfl HR5.out)
    go_wp2_with (first
      | (refine at_load6 rfl (.tmp 5) rfl rfl HK.out.2.1 ?_)
      | (refine at_load6 rfl (.tmp 6) rfl rfl HK.out.2.2.1 ?_)
      | (go_at_call 76; refine HI.out.mono ?_; rintro e w5 ⟨v5, rfl, o5, hb5⟩; have HO := hide (o5.mono HK.out.2.2.2.size); have HB := hide (bt HK.out.2.2.2 hb5); clear o5 hb5 l0))
    go_ret
    exact ⟨_, rfl, HO.out, HB.out⟩
theorem kind_w (k : Int) : ∃ n : Int, ((k == 6) = true ∧ n = 20 ∨ (k == 6) = false ∧ n = 8) ∧ n = (hn k : Nat) := by
  rcases kind_n k with ⟨h1, h2⟩ | ⟨h1, h2⟩
  · exact ⟨20, .inl ⟨h1, rfl⟩, by rw [h2]; rfl⟩
  · exact ⟨8, .inr ⟨h1, rfl⟩, by rw [h2]; rfl⟩
theorem wrap_small {n : Int} {len : Nat} (h0 : 0 ≤ n ∧ n ≤ 20) (h : len ≤ 320) : IntKind.i64.wrap (n + (len : Int)) = n + (len : Int) := by rw [IntKind.wrap_i64]; omega
set_option maxRecDepth 100000 in
set_option maxHeartbeats 4000000 in
theorem sent_no1 (z : List Int) (a : Option Addr) (len cap : Nat) (s d : List Int) (t : Int) (w : World)
    (hO : ∀ W, Calls Tryz.prog 81 #[.agg (sixC s), .agg (sixC d), .int .i64 (el z 0), .int .i64 (IntKind.i64.wrap ((hn (el z 0) : Nat) + (len : Int)))] W fun e w' => e = .returned (.tuple #[.int .i64 0, err 1]) ∧ Below W.heap.size W w') :
    Calls Tryz.prog 32 #[.agg (sgC z a len cap), .agg (sixC s), .agg (sixC d), .int .i64 t] w fun e w' => e = .returned (.slice none 0 0) ∧ Below w.heap.size w w' := by
  obtain ⟨n, hn6, hnn⟩ := kind_w (el z 0)
  rw [← hnn] at hO
  have HOv := hide hO
  have HK := hide (Kst.start w z a len cap s d)
  generalize hek : el z 0 = k at HOv hn6
  have HEK := hide hek
  generalize hw : IntKind.i64.wrap (n + (len : Int)) = m at HOv
  clear hO hnn hek
  unfold err at HOv
  rcases hn6 with ⟨hk6, rfl⟩ | ⟨hk6, rfl⟩
  all_goals
    go_enter Tryz.func32, Tryz.ntmps32
    go_upto_region 1 with fail
    generalize ((World.alloc _ _).alloc _).alloc _ = W0 at HK ⊢
    have l0 := HK.out.1.c0
    rw [HEK.out] at l0
    have l7 := HK.out.1.c7
    go_wp2_with (first
      | (refine at_load6 rfl (.tmp 5) rfl rfl HK.out.2.1 ?_)
      | (refine at_load6 rfl (.tmp 6) rfl rfl HK.out.2.2.1 ?_)
      | (go_at_call 81; refine (HOv.out _).mono ?_; rintro e w2 ⟨rfl, hb2⟩; replace HK := hide (HK.out.kept hb2); clear hb2 l0 l7))
    go_ret
    exact ⟨rfl, HK.out.2.2.2⟩
set_option maxRecDepth 100000 in
set_option maxHeartbeats 4000000 in
theorem sent_no2 (z : List Int) (a : Option Addr) (len cap : Nat) (s d : List Int) (t : Int) (w : World) (hm : len ≤ 320) (ov j : Int)
    (hO : ∀ W, Calls Tryz.prog 81 #[.agg (sixC s), .agg (sixC d), .int .i64 (el z 0), .int .i64 ((hn (el z 0) : Nat) + (len : Int))] W fun e w' => e = .returned (.tuple #[.int .i64 ov, .nilIface]) ∧ Below W.heap.size W w')
    (hE : ∀ W, Calls Tryz.prog 85 #[.agg (sgC z a len cap), .int .i64 ov] W fun e w' => e = .returned (.tuple #[.slice none 0 0, err j]) ∧ Below W.heap.size W w') :
    Calls Tryz.prog 32 #[.agg (sgC z a len cap), .agg (sixC s), .agg (sixC d), .int .i64 t] w fun e w' => e = .returned (.slice none 0 0) ∧ Below w.heap.size w w' := by
  obtain ⟨n, hn6, hnn⟩ := kind_w (el z 0)
  have hw := wrap_small (n := n) (len := len) (by omega) hm
  rw [← hnn] at hO
  have HOv := hide hO
  have HEn := hide hE
  have HK := hide (Kst.start w z a len cap s d)
  generalize hek : el z 0 = k at HOv hn6
  have HEK := hide hek
  clear hO hE hnn hek hm
  unfold err at HEn
  rcases hn6 with ⟨hk6, rfl⟩ | ⟨hk6, rfl⟩
  all_goals
    go_enter Tryz.func32, Tryz.ntmps32
    go_upto_region 1 with fail
    generalize ((World.alloc _ _).alloc _).alloc _ = W0 at HK ⊢
    have l0 := HK.out.1.c0
    rw [HEK.out] at l0
    have l7 := HK.out.1.c7
    go_wp2_with (first
      | (refine at_load6 rfl (.tmp 5) rfl rfl HK.out.2.1 ?_)
      | (refine at_load6 rfl (.tmp 6) rfl rfl HK.out.2.2.1 ?_)
      | (go_at_call 81; refine (HOv.out _).mono ?_; rintro e w2 ⟨rfl, hb2⟩; replace HK := hide (HK.out.kept hb2); clear hb2 l0 l7)
      | (refine at_load rfl (.tmp 4) rfl rfl HK.out.1 ?_)
      | (go_at_call 85; refine (HEn.out _).mono ?_; rintro e w3 ⟨rfl, hb3⟩; replace HK := hide (HK.out.kept hb3); clear hb3))
    go_ret
    exact ⟨rfl, HK.out.2.2.2⟩
set_option maxRecDepth 100000 in
set_option maxHeartbeats 4000000 in
theorem sent_no3 (z : List Int) (a : Option Addr) (len cap : Nat) (D s d : List Int) (t : Int) (w : World) (hs : Ok6 s) (hd : Ok6 d) (hz : Okg z len) (hr : Row8 w a len cap D) (ht : ¬ up 255 t = true) :
    Calls Tryz.prog 32 #[.agg (sgC z a len cap), .agg (sixC s), .agg (sixC d), .int .i64 t] w fun e w' => e = .returned (.slice none 0 0) ∧ Below w.heap.size w w' := by
  have hk := okg_kind hz
  have hL := okg_len hz
  have h300 := hz.2.2.1
  obtain ⟨n, hn6, hnn⟩ := kind_w (el z 0)
  have hw := wrap_small (n := n) (len := len) (by omega) (by omega)
  have HOv := hide (fun W => over6_ok s d (el z 0) ((hn (el z 0) : Nat) + (len : Int)) W hs hd hk hL)
  have ho := o6_in s d (el z 0) ((hn (el z 0) : Nat) + (len : Int)) hs hd
  rw [← hnn] at HOv ho
  generalize o6 s d (el z 0) (n + (len : Int)) = ov at HOv ho
  have HEn := hide (fun W (r : Row8 W a len cap D) => enc_form z a len cap ov D W hz ho r)
  have HIp := hide (fun W a n c => V6.encode_bad s d t (el z 0) a n c W (fun h => ht (decide_eq_true h.2.2.1)))
  have hbr := fun a n c W => q6b_run s d t (el z 0) a n c W
  unfold V6.pk at HIp
  have HK := hide (Kst.start w z a len cap s d)
  have HR := hide (hr.below HK.out.2.2.2)
  generalize hek : el z 0 = k at HOv HEn HIp hbr hn6
  have HEK := hide hek
  generalize hn k = H at HEn
  clear hz hr hs hd ht hk hL ho hnn hek h300
  rcases hn6 with ⟨hk6, rfl⟩ | ⟨hk6, rfl⟩
  all_goals
    go_enter Tryz.func32, Tryz.ntmps32
    go_upto_region 1 with fail
    generalize ((World.alloc _ _).alloc _).alloc _ = W0 at HK HR ⊢
    have l0 := HK.out.1.c0
    rw [HEK.out] at l0
    have l7 := HK.out.1.c7
    go_upto_region 10 with (first
      | (refine at_load6 rfl (.tmp 5) rfl rfl HK.out.2.1 ?_)
      | (refine at_load6 rfl (.tmp 6) rfl rfl HK.out.2.2.1 ?_)
      | (go_at_call 81; refine (HOv.out _).mono ?_; rintro e w2 ⟨rfl, hb2⟩; replace HK := hide (HK.out.kept hb2); replace HR := hide (HR.out.below hb2); clear hb2 l0 l7)
      | (refine at_load rfl (.tmp 4) rfl rfl HK.out.1 ?_)
      | (go_at_call 85; refine (HEn.out _ HR.out).mono ?_; rintro e w3 ⟨g3, c3, rfl, k1, k2, -, r3, hb3⟩; replace HK := hide (HK.out.kept hb3); clear hb3 r3 HR k1 k2))
    have l0 := HK.out.1.c0
    rw [HEK.out] at l0
    go_wp2_with (first
      | (refine at_load6 rfl (.tmp 5) rfl rfl HK.out.2.1 ?_)
      | (refine at_load6 rfl (.tmp 6) rfl rfl HK.out.2.2.1 ?_)
      | (go_at_call 76; refine (HIp.out _ _ _ _).mono ?_; rintro e w5 ⟨rfl, hb5⟩; replace HK := hide (HK.out.kept hb5); clear hb5 l0))
    go_ret
    exact ⟨rfl, HK.out.2.2.2⟩
theorem sent_any (z : List Int) (a : Option Addr) (len cap : Nat) (D s d : List Int) (t : Int) (w : World) (hr : Row8 w a len cap D) :
    (∀ W, Below w.heap.size w W → Calls Tryz.prog 32 #[.agg (sgC z a len cap), .agg (sixC s), .agg (sixC d), .int .i64 t] W fun e w' => e = .returned (.slice none 0 0) ∧ Below W.heap.size W w') ∨
    (Ok6 s ∧ Ok6 d ∧ up 255 t = true ∧ Okg z D.length ∧ ∀ W, Below w.heap.size w W → Calls Tryz.prog 32 #[.agg (sgC z a len cap), .agg (sixC s), .agg (sixC d), .int .i64 t] W fun e w' => ∃ v, e = .returned v ∧ Own W.heap.size w' v (p6o s d t z D) ∧ Below W.heap.size W w') := by
  have hl := hr.1
  have hm := hr.2.1
  by_cases hsd : Ok6 s ∧ Ok6 d
  case neg => exact .inl fun W _ => sent_no1 z a len cap s d t W (fun W => over6_bad s d _ _ W hsd)
  obtain ⟨hs, hd⟩ := hsd
  by_cases hz : Okg z len
  case neg =>
    refine .inl fun W _ => ?_
    have h20 := hn_le (el z 0)
    by_cases hk : len ≤ 320 ∧ up 255 (el z 0) = true ∧ up 320 ((hn (el z 0) : Nat) + (len : Int)) = true
    · exact sent_no2 z a len cap s d t W hk.1 _ (sf z len) (fun W => over6_ok s d _ _ W hs hd hk.2.1 hk.2.2) (fun W => enc_err z a len cap _ W hm _ rfl (fun h => hz ((sf_iff _ _).1 h)))
    · refine sent_no1 z a len cap s d t W (fun W => over6_any s d _ _ W hs hd _ _ (fun W0 W v hg => overof_bad W0 W v _ _ _ hg ?_))
      by_cases h1 : up 255 (el z 0) = true
      · refine .inr ?_
        by_cases h3 : len ≤ 320
        · rw [wrap_small (by omega) h3]
          cases h2 : up 320 ((hn (el z 0) : Nat) + (len : Int))
          · rfl
          · exact absurd ⟨h3, h1, h2⟩ hk
        · refine decide_eq_false fun h => ?_
          have hm' : len ≤ 9223372036854775807 := hm
          rw [IntKind.wrap_i64] at h
          omega
      · exact .inl (by cases h2 : up 255 (el z 0); rfl; exact absurd h2 h1)
  by_cases ht : up 255 t = true
  · exact .inr ⟨hs, hd, ht, by rw [← hl] at hz; exact hz, fun W hW => sent_ok z a len cap D s d t W hs hd ht hz (hr.below hW)⟩
  · exact .inl fun W hW => sent_no3 z a len cap D s d t W hs hd hz (hr.below hW) ht
end Go.Proofs.YtkhahbghmdccaaaGreat

namespace Go.Proofs.YtkhahbghmdccaaaGreat
open Go.RowKit
attribute [local go_sem ↓] q4b_shut
set_option maxRecDepth 100000 in
set_option maxHeartbeats 4000000 in
theorem bk_ok (z : List Int) (a : Option Addr) (len cap : Nat) (D : List Int) (s d t : Int) (w : World) (hs : up 4294967295 s = true) (hd : up 4294967295 d = true) (ht : up 255 t = true) (hz : Okg z len) (hr : Row8 w a len cap D) :
    Calls Tryz.prog 34 #[.agg (sgC z a len cap), .int .i64 s, .int .i64 d, .int .i64 t] w fun e w' => ∃ v, e = .returned v ∧ Own w.heap.size w' v (p4o s d t z D) ∧ Below w.heap.size w w' := by
  have hlen := hr.1
  have hk := okg_kind hz
  have hL := okg_len hz
  have hp4 : p4o s d t z D = V4.bys s d t (el z 0) 0 (eb z (o4 s d (el z 0) ((hn (el z 0) : Nat) + (len : Int))) D) := by unfold p4o; rw [hlen]
  rw [hp4]
  have h300 := hz.2.2.1
  have h20 := hn_le (el z 0)
  obtain ⟨n, hn6, hnn⟩ := kind_w (el z 0)
  have hw := wrap_small (n := n) (len := len) (by omega) (by omega)
  have HOv := hide (fun W => over4_o s d (el z 0) ((hn (el z 0) : Nat) + (len : Int)) W hs hd hk hL)
  have ho := o4_in s d (el z 0) ((hn (el z 0) : Nat) + (len : Int))
  rw [← hnn] at HOv ho ⊢
  generalize o4 s d (el z 0) (n + (len : Int)) = ov at HOv ho ⊢
  have HEn := hide (fun W (r : Row8 W a len cap D) => enc_form z a len cap ov D W hz ho r)
  have hok : V4.Okp s d t (el z 0) 0 := ⟨up_true hs, up_true hd, up_true ht, up_true hk, by unfold Word; omega⟩
  have HIp := hide (fun W g l c (hl : l = hn (el z 0) + len) (r : Row8 W (some ⟨g, 0, none⟩) l c (eb z ov D)) => V4.encode_ok s d t (el z 0) 0 (some ⟨g, 0, none⟩) l c (eb z ov D) W hok (by omega) r)
  have hbr := fun a n c W => q4b_run s d t (el z 0) a n c W
  unfold V4.pk at HIp hbr
  generalize eb z ov D = E at HEn HIp ⊢
  have HS := hide (sg_new w z a len cap)
  have HB := hide (al_below w (.cells (sgC z a len cap) 30))
  have HR := hide (hr.below HB.out)
  generalize hek : el z 0 = k at HOv HEn HIp hbr hn6 h20 ⊢
  have HEK := hide hek
  generalize hn k = H at HEn HIp h20
  clear hz hr hok hs hd ht hk hL ho hnn hek h300 hp4 hlen
  rcases hn6 with ⟨hk6, rfl⟩ | ⟨hk6, rfl⟩
  all_goals
    go_enter Tryz.func34, Tryz.ntmps34
    go_upto_region 1 with fail
    generalize World.alloc _ _ = W0 at HS HB HR ⊢
    have l0 := HS.out.c0
    rw [HEK.out] at l0
    have l7 := HS.out.c7
    go_upto_region 10 with (first
      | (go_at_call 82; refine (HOv.out _).mono ?_; rintro e w2 ⟨rfl, hb2⟩; replace HS := hide (HS.out.kept hb2); replace HB := hide (bt HB.out hb2); replace HR := hide (HR.out.below hb2); clear hb2 l0 l7)
      | (refine at_load rfl (.tmp 4) rfl rfl HS.out ?_)
      | (go_at_call 85; refine (HEn.out _ HR.out).mono ?_; rintro e w3 ⟨g3, c3, rfl, k1, k2, -, r3, hb3⟩; replace HS := hide (HS.out.kept hb3); replace HB := hide (bt HB.out hb3); have HR5 := hide r3; clear hb3 r3 HR k1 k2))
    have l0 := HS.out.c0
    rw [HEK.out] at l0
    have HI := hide (HIp.out _ g3 (H + len) c3 rfl HR5.out)
    go_wp2_with (go_at_call 60; refine HI.out.mono ?_; rintro e w5 ⟨v5, rfl, o5, hb5⟩; have HO := hide (o5.mono HB.out.size); replace HB := hide (bt HB.out hb5); clear o5 hb5 l0)
    go_ret
    exact ⟨_, rfl, HO.out, HB.out⟩
theorem dec_any (z : List Int) (over : Int) (D : List Int) (W : World) (n : Nat) (a : Option Addr) (c : Nat) (h : Okg z D.length) (ho : up 65535 over = true) (hn0 : n = hn (el z 0) + D.length) (hr : Row8 W a n c (eb z over D)) (h1 : n ≤ c) (h2 : c ≤ maxLen) :
    Calls Tryz.prog 86 #[.int .i64 (el z 0), .slice a n c, .int .i64 over] W fun e w' => ∃ a' l' c', e = .returned (.tuple #[.agg (sgC z a' l' c'), .nilIface]) ∧ Row8 w' a' l' c' D ∧ Below W.heap.size W w' := by
  obtain ⟨g, off, rfl, _⟩ := hr.2.2.2.2 (by have := hn_pos (el z 0); omega)
  exact dec_own z g off n c over D W h ho hr h1 h2
attribute [local go_sem ↓] gload_shut gstore_shut V6.hstore_shut pload6_shut pload4_shut pstore4_shut
set_option maxRecDepth 100000 in
set_option maxHeartbeats 4000000 in
theorem opened_ok (a : Option Addr) (len cap : Nat) (s d t : Int) (z D : List Int) (w : World) (hr : Row8 w a len cap (p4o s d t z D)) (hcl : len ≤ cap) (hcm : cap ≤ maxLen) (hs : up 4294967295 s = true) (hd : up 4294967295 d = true) (ht : up 255 t = true) (hz : Okg z D.length) :
    Calls Tryz.prog 33 #[.slice a len cap] w fun e w' => ∃ a1 l1 c1 a2 l2 c2, e = .returned (.tuple #[V4.pk s d t (el z 0) 0 a1 l1 c1, .agg (sgC z a2 l2 c2), .bool true]) ∧ Row8 w' a2 l2 c2 D ∧ Below w.heap.size w w' := by
  have HV := hide (R4.start w)
  unfold V4.zero4 zero7 at HV
  have h20 := hn_le (el z 0)
  have h300 := hz.2.2.1
  obtain ⟨n, hn0⟩ : ∃ n, n = hn (el z 0) + D.length := ⟨_, rfl⟩
  have hni : ((hn (el z 0) : Nat) + (D.length : Int)) = (n : Int) := by omega
  unfold p4o at hr
  rw [hni] at hr
  have hov := o4_in s d (el z 0) n
  have HD := hide (show ∀ W, Below w.heap.size w W → Calls Tryz.prog 17 #[.slice a len cap] W fun e w' => ∃ a' c', e = .returned (.tuple #[V4.pk s d t (el z 0) 0 a' n c', .nilIface]) ∧ Row8 w' a' n c' (eb z (o4 s d (el z 0) n) D) ∧ n ≤ c' ∧ c' ≤ maxLen ∧ Below W.heap.size W w' from fun W hb => (V4.decode_bysb a len cap s d t (el z 0) 0 _ W (hr.below hb) hcl hcm (okp4z hs hd ht hz) (eb_le hz _)).mono fun e w' ⟨a', l', c', e1, ⟨e2, e3, e4⟩, e5⟩ => by
    have hl := e2.1
    rw [eb_len, ← hn0] at hl
    subst hl
    exact ⟨a', c', e1, e2, e3, e4, e5⟩)
  have HOv := hide (fun W => over4_o s d (el z 0) n W hs hd (okg_kind hz) (decide_eq_true ⟨by omega, by omega⟩))
  have HOs := hide (fun W a' c' (r : Row8 W a' n c' (eb z (o4 s d (el z 0) n) D)) (h1 : n ≤ c') (h2 : c' ≤ maxLen) => dec_any z (o4 s d (el z 0) n) D W n a' c' hz hov hn0 r h1 h2)
  clear hr hcl hcm hs hd ht hz hov hn0 hni h20 h300
  generalize o4 s d (el z 0) n = ov at HD HOv HOs
  generalize eb z ov D = E at HD HOs
  generalize el z 0 = k at HD HOv HOs ⊢
  have HZ := hide (fun W => V4.zero_new W)
  have HZ7 := hide (fun W => zero_new W)
  unfold V4.zero4 at HZ
  unfold zero7 at HZ7
  go_enter Tryz.func33, Tryz.ntmps33
  go_upto_region 1 with fail
  generalize (World.alloc _ _).alloc _ = W0 at HV ⊢
  go_upto_region 4 with (first
    | (go_at_call 17; refine (HD.out _ HV.out.2.2).mono ?_; rintro e w1 ⟨a1, c1, rfl, r1, k1, k2, hb1⟩; replace HV := hide (HV.out.kept hb1); have HZ1 := hide (HZ.out w1); replace r1 := hide r1; clear hb1)
    | (refine V4.at_store rfl (.tmp 5) (.tmp 12) rfl rfl HZ1.out s d t k 0 a1 n c1 rfl ?_; intro w2 p2 on2; replace HV := hide (HV.out.kept (new_below _ on2)); replace r1 := hide (r1.out.below (new_below _ on2)); replace p2 := hide p2; clear on2))
  clear HZ1
  generalize w1.heap.size = B1 at p2 ⊢
  obtain ⟨l0, l1, l2, l3, -, l5⟩ := p2.out.all
  go_upto_region 7 with (first
    | (go_at_call 82; refine (HOv.out _).mono ?_; rintro e w3 ⟨rfl, hb3⟩; replace HV := hide (HV.out.kept hb3); replace r1 := hide (r1.out.below hb3); replace p2 := hide (p2.out.kept hb3); clear hb3 l0 l1 l2 l3 l5))
  obtain ⟨l0, l1, l2, l3, -, l5⟩ := p2.out.all
  go_upto_region 8 with (first
    | (go_at_call 86; refine (HOs.out _ a1 c1 r1.out k1 k2).mono ?_; rintro e w4 ⟨a4, l4, c4, rfl, r4, hb4⟩; replace HV := hide (HV.out.kept hb4); replace p2 := hide (p2.out.kept hb4); have HZ4 := hide (HZ7.out w4); replace r4 := hide r4; clear hb4 l0 l1 l2 l3 l5 r1)
    | (refine at_store rfl (.tmp 8) (.tmp 42) rfl rfl HZ4.out z a4 l4 c4 rfl ?_; intro w5 p5 on5; replace HV := hide (HV.out.kept (new_below _ on5)); replace r4 := hide (r4.out.below (new_below _ on5)); replace p2 := hide (p2.out.kept (new_below _ on5)); replace p5 := hide p5; clear on5))
  clear HZ4
  generalize w4.heap.size = C1 at p5 ⊢
  have q1 := pl4 (w := w5.drew) p2.out
  have q2 := SgIn.gl (w := w5.drew) p5.out
  obtain ⟨wa, ha, pa, ona⟩ := held4 (w := w5.drew) HV.out.1 s d t k 0 a1 n c1
  have nC : C1 ≠ w.heap.size := by
    rintro rfl
    have h1 : w5.heap[w.heap.size]? = _ := p5.out
    rw [show w5.heap[w.heap.size]? = _ from HV.out.1] at h1
    injection h1 with h1
    injection h1 with _ h2
    exact absurd h2 (by decide)
  have pC := ona.sg (w := w5.drew) p5.out nC
  have q2a := pC.gl
  obtain ⟨wb, hb, pb, onb⟩ := (ona.sg (w := w5.drew) HV.out.2.1 (by omega)).held z a4 l4 c4
  have HP := hide (show V4.PkIn w.heap.size s d t k 0 a1 n c1 wb from (onb.2.2.2.2 _ (by omega)).trans pa)
  have HS := hide pb
  have HB := hide (onb.below (ona.below (HV.out.2.2.drew) (Nat.le_refl _)) (Nat.le_succ _))
  have HR := hide (((r4.out.below (w' := w5.drew) ⟨rfl, rfl, rfl, Nat.le_refl _, fun _ _ => rfl⟩).pastn (no4 (w := w5.drew) HV.out.1) ona).past (ona.sg (w := w5.drew) HV.out.2.1 (by omega)) onb)
  clear pa ona pb onb pC nC HV p2 p5
  go_region
  all_goals
    go_wp2
    try simp only [Exit.inBlock, Exit.then]
    refine bodyPost_ret (results_p4 rfl _ _ w.heap.size (w.heap.size + 1) s d t k 0 a1 n c1 z a4 l4 c4 rfl rfl HP.out HS.out) rfl ?_
    exact ⟨a1, n, c1, a4, l4, c4, rfl, HR.out, HB.out⟩
set_option maxRecDepth 100000 in
set_option maxHeartbeats 4000000 in
theorem opened6_ok (a : Option Addr) (len cap : Nat) (s d : List Int) (t : Int) (z D : List Int) (w : World) (hr : Row8 w a len cap (p6o s d t z D)) (hcl : len ≤ cap) (hcm : cap ≤ maxLen) (hs : Ok6 s) (hd : Ok6 d) (ht : up 255 t = true) (hz : Okg z D.length) :
    Calls Tryz.prog 35 #[.slice a len cap] w fun e w' => ∃ a1 l1 c1 a2 l2 c2, e = .returned (.tuple #[.agg (V6.pkC s d t (el z 0) a1 l1 c1), .agg (sgC z a2 l2 c2), .bool true]) ∧ Row8 w' a2 l2 c2 D ∧ Below w.heap.size w w' := by
  have HV := hide (R6.start w)
  unfold V6.zero6 zero7 at HV
  have h20 := hn_le (el z 0)
  have h300 := hz.2.2.1
  obtain ⟨n, hn0⟩ : ∃ n, n = hn (el z 0) + D.length := ⟨_, rfl⟩
  have hni : ((hn (el z 0) : Nat) + (D.length : Int)) = (n : Int) := by omega
  unfold p6o at hr
  rw [hni] at hr
  have hov := o6_in s d (el z 0) n hs hd
  have HD := hide (show ∀ W, Below w.heap.size w W → Calls Tryz.prog 22 #[.slice a len cap] W fun e w' => ∃ a' c', e = .returned (.tuple #[.agg (V6.pkC s d t (el z 0) a' n c'), .nilIface]) ∧ Row8 w' a' n c' (eb z (o6 s d (el z 0) n) D) ∧ n ≤ c' ∧ c' ≤ maxLen ∧ Below W.heap.size W w' from fun W hb => (V6.decode_bysb a len cap s d t (el z 0) _ W (hr.below hb) hcl hcm (okp6 hs hd ht hz) (eb_le hz _)).mono fun e w' ⟨a', l', c', e1, ⟨e2, e3, e4⟩, e5⟩ => by
    have hl := e2.1
    rw [eb_len, ← hn0] at hl
    subst hl
    exact ⟨a', c', e1, e2, e3, e4, e5⟩)
  have HOv := hide (fun W => over6_ok s d (el z 0) n W hs hd (okg_kind hz) (decide_eq_true ⟨by omega, by omega⟩))
  have HOs := hide (fun W a' c' (r : Row8 W a' n c' (eb z (o6 s d (el z 0) n) D)) (h1 : n ≤ c') (h2 : c' ≤ maxLen) => dec_any z (o6 s d (el z 0) n) D W n a' c' hz hov hn0 r h1 h2)
  clear hr hcl hcm hs hd ht hz hov hn0 hni h20 h300
  generalize o6 s d (el z 0) n = ov at HD HOv HOs
  generalize eb z ov D = E at HD HOs
  generalize el z 0 = k at HD HOv HOs ⊢
  have HZ := hide (fun W => V6.zero_new W)
  have HZ7 := hide (fun W => zero_new W)
  unfold V6.zero6 at HZ
  unfold zero7 at HZ7
  go_enter Tryz.func35, Tryz.ntmps35
  go_upto_region 1 with fail
  generalize (World.alloc _ _).alloc _ = W0 at HV ⊢
  go_upto_region 4 with (first
    | (go_at_call 22; refine (HD.out _ HV.out.2.2).mono ?_; rintro e w1 ⟨a1, c1, rfl, r1, k1, k2, hb1⟩; replace HV := hide (HV.out.kept hb1); have HZ1 := hide (HZ.out w1); replace r1 := hide r1; clear hb1)
    | (refine V6.at_store rfl (.tmp 5) (.tmp 12) rfl rfl HZ1.out s d t k a1 n c1 rfl ?_; intro w2 p2 on2; replace HV := hide (HV.out.kept (new_below _ on2)); replace r1 := hide (r1.out.below (new_below _ on2)); replace p2 := hide p2; clear on2))
  clear HZ1
  generalize w1.heap.size = B1 at p2 ⊢
  have l17 := p2.out.kind
  have l18 := p2.out.body
  go_upto_region 7 with (first
    | (refine V6.at_src rfl (.tmp 19) rfl rfl p2.out ?_)
    | (refine V6.at_dst rfl (.tmp 21) rfl rfl p2.out ?_)
    | (go_at_call 81; refine (HOv.out _).mono ?_; rintro e w3 ⟨rfl, hb3⟩; replace HV := hide (HV.out.kept hb3); replace r1 := hide (r1.out.below hb3); replace p2 := hide (p2.out.kept hb3); clear hb3 l17 l18))
  have l17 := p2.out.kind
  have l18 := p2.out.body
  go_upto_region 8 with (first
    | (go_at_call 86; refine (HOs.out _ a1 c1 r1.out k1 k2).mono ?_; rintro e w4 ⟨a4, l4, c4, rfl, r4, hb4⟩; replace HV := hide (HV.out.kept hb4); replace p2 := hide (p2.out.kept hb4); have HZ4 := hide (HZ7.out w4); replace r4 := hide r4; clear hb4 l17 l18 r1)
    | (refine at_store rfl (.tmp 8) (.tmp 42) rfl rfl HZ4.out z a4 l4 c4 rfl ?_; intro w5 p5 on5; replace HV := hide (HV.out.kept (new_below _ on5)); replace r4 := hide (r4.out.below (new_below _ on5)); replace p2 := hide (p2.out.kept (new_below _ on5)); replace p5 := hide p5; clear on5))
  clear HZ4
  generalize w4.heap.size = C1 at p5 ⊢
  have q1 := pl6 (w := w5.drew) p2.out
  have q2 := SgIn.gl (w := w5.drew) p5.out
  obtain ⟨wa, ha, pa, ona⟩ := V6.PkIn.held (w := w5.drew) HV.out.1 s d t k a1 n c1
  have nC : C1 ≠ w.heap.size := by
    rintro rfl
    have h1 : w5.heap[w.heap.size]? = _ := p5.out
    rw [show w5.heap[w.heap.size]? = _ from HV.out.1] at h1
    injection h1 with h1
    injection h1 with _ h2
    exact absurd h2 (by decide)
  have pC := ona.sg (w := w5.drew) p5.out nC
  have q2a := pC.gl
  obtain ⟨wb, hb, pb, onb⟩ := (ona.sg (w := w5.drew) HV.out.2.1 (by omega)).held z a4 l4 c4
  have HP := hide (show V6.PkIn w.heap.size s d t k a1 n c1 wb from (onb.2.2.2.2 _ (by omega)).trans pa)
  have HS := hide pb
  have HB := hide (onb.below (ona.below (HV.out.2.2.drew) (Nat.le_refl _)) (Nat.le_succ _))
  have HR := hide (((r4.out.below (w' := w5.drew) ⟨rfl, rfl, rfl, Nat.le_refl _, fun _ _ => rfl⟩).pastn (no6 (w := w5.drew) HV.out.1) ona).past (ona.sg (w := w5.drew) HV.out.2.1 (by omega)) onb)
  clear pa ona pb onb pC nC HV p2 p5
  go_region
  all_goals
    go_wp2
    try simp only [Exit.inBlock, Exit.then]
    refine bodyPost_ret (results_p6 rfl _ _ w.heap.size (w.heap.size + 1) s d t k a1 n c1 z a4 l4 c4 rfl rfl HP.out HS.out) rfl ?_
    exact ⟨a1, n, c1, a4, l4, c4, rfl, HR.out, HB.out⟩
end Go.Proofs.YtkhahbghmdccaaaGreat
