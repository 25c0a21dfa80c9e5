/- The document's own answers of packets that were written so. A segment to a four in the prefix: what a new gate makes of it, and of the answer. What a new gate makes of a segment that is not to the VIP; the document's own packet, with room. GateCrosses, walked. -/
import Derived.Test.YtkhahbghmdccaaaGreatQ34
import Derived.Test.YtkhahbghmdccaaaGreatQ35
import Derived.Test.YtkhahbghmdccaaaGreatQ37
import Derived.Test.YtkhahbghmdccaaaGreatQ47
import Derived.Below
import Derived.OpenShut
import Derived.Test.YtkhahbghmdccaaaGreatProg
import Derived.WalkKit
import Derived.LaidEql
import Derived.BigQuiet
import Derived.Laws.AppendOwnNone
import Derived.Laws.MakeOwn
import Derived.Deep.RegionLaw
import Derived.Lib.Bytes
import Derived.Deep.MidRow
import Derived.Laws.ResultCell
import Derived.Deep.CutBlock
import Derived.Deep.QuietTactic
import Derived.OwnWalk
import Derived.Deep.RegionHeld3
import Derived.Deep.DrawnRows
import Derived.Laws.StructEq
import Derived.Maps.AppendAt
import Derived.Maps.RangeWalk
import Derived.Stop.Asserts
import Derived.RowKitTokens
import Derived.Test.YtkhahbghmdccaaaGreatShelf
import Derived.Shelf.Abstract
import Derived.Lib.SliceRun
import Derived.Lib.AppendZerosOnto
import Derived.Lib.AppendZeros
import Derived.Laws.CopyOwn
import Derived.RangeFuncNested
import Derived.RangeFuncBound
import Derived.RangeFuncCalls
import Derived.RangeFuncLeaves
import Derived.RangeFuncFrom
import Derived.Shelf.RegionOpen
import Derived.OwnWalkIn
import Derived.TacticsInMore
import Derived.LoopNIn
import Derived.LoopIn
import Derived.Deep.RegionWith
import Derived.ArgAppend
import Derived.Lib.SlBytesConst
import Derived.Lib.AppendStr
import Derived.Test.YtkhahbghmdccaaaGreatQ46
import Derived.Test.YtkhahbghmdccaaaGreatQ44
import Derived.Test.YtkhahbghmdccaaaGreatQ49
namespace Go.Proofs.YtkhahbghmdccaaaGreat
open Go.RowKit
/-- SegOf of a segment's own bytes. -/
theorem rseg_eb (z D : List Int) (over : Int) (n : Nat) (a : Option Addr) (cap : Nat) (w : World) (hz : Okg z D.length) (ho : up 65535 over = true) (hn0 : n = hn (el z 0) + D.length) (hr : Row8 w a n cap (eb z over D)) (hcl : n ≤ cap) (hcm : cap ≤ maxLen) :
    Calls Tryz.prog 64 #[.int .i64 (el z 0), .slice a n cap, .int .i64 over] w fun r W' => ∃ a1 l1 c1, r = .returned (.tuple #[.agg (sgC z a1 l1 c1), .int .i64 0]) ∧ Row8 W' a1 l1 c1 D ∧ Below w.heap.size w W' := by
  have hl := hr.1
  have hoct := hr.2.2.1
  have h300 := hz.2.2.1
  have hp := hn_pos (el z 0)
  have h20 := hn_le (el z 0)
  obtain ⟨g, off, rfl, _⟩ := hr.2.2.2.2 (by omega)
  have hrd := fun j hj => rd_eb z over D hz j hj
  have hd := drop_eb z over D hz
  have he := eb_congr _ _ hrd over D
  have hsf : ∀ m, sf (rdz (el z 0) (eb z over D)) m = sf z m := sf_congr _ _ hrd
  have hsg := fun a l c => sgC_congr _ _ hrd a l c
  have hk := (kn_iff _).1 (okg_kn' hz)
  generalize hzs : eb z over D = zs at hr hl hoct hrd hd he hsf hsg
  rcases hk with h6 | h17
  · rw [h6] at hrd hd he hsf hsg ⊢
    have hH : hn (6 : Int) = 20 := rfl
    rw [hH] at hd
    have hn6 : n = 20 + D.length := by rw [hn0, h6, hH]
    have hok : Okg (rdz 6 zs) D.length := (sf_iff _ _).1 ((hsf _).trans ((sf_iff _ _).2 hz))
    have h13 := (okg_tcp zs hoct D.length h300).1 hok
    have hee : eb (rdz 6 zs) over (zs.drop 20) = zs := by rw [hd]; exact he
    have hlike := (tcp_like zs over hoct (by omega) (by omega) h13).1 (by rw [hee]; exact ⟨rfl, rfl⟩)
    have hsame := (tcp_same zs over hoct (by omega) (by omega) ho hlike).1 hee
    refine (rseg_tcp_ok over g off n cap zs w hr ho (by omega) (by omega) hcl hcm hlike true ⟨fun _ => rfl, fun _ => hsame⟩).mono ?_
    rintro e w' ⟨⟨h1, _⟩ | ⟨_, a', c', h1, h3⟩, h2⟩
    · cases h1
    · rw [hd] at h3
      exact ⟨a', _, c', by rw [h1, hsg], h3, h2⟩
  · rw [h17] at hrd hd he hsf hsg ⊢
    have hH : hn (17 : Int) = 8 := rfl
    rw [hH] at hd
    have hn17 : n = 8 + D.length := by rw [hn0, h17, hH]
    have hee : eb (rdz 17 zs) over (zs.drop 8) = zs := by rw [hd]; exact he
    have hlike := (udp_like zs over hoct (by omega) (by omega)).1 (by rw [hee]; exact ⟨rfl, rfl⟩)
    have hsame := (udp_same zs over hoct (by omega) (by omega) ho hlike).1 hee
    rw [hl] at hlike
    refine (rseg_udp_ok over g off n cap zs w hr ho (by omega) (by omega) hcl hcm hlike true ⟨fun _ => rfl, fun _ => hsame⟩).mono ?_
    rintro e w' ⟨⟨h1, _⟩ | ⟨_, a', c', h1, h3⟩, h2⟩
    · cases h1
    · rw [hd] at h3
      exact ⟨a', _, c', by rw [h1, hsg], h3, h2⟩
/-- Seg4 of a packet of fours with a segment in it. -/
theorem seg4_eb (z D : List Int) (s d t i : Int) (n : Nat) (a : Option Addr) (cap : Nat) (w : World) (hz : Okg z D.length) (ho : V4.Okp s d t (el z 0) i) (hn0 : n = hn (el z 0) + D.length) (hr : Row8 w a n cap (eb z (o4 s d (el z 0) n) D)) (hcl : n ≤ cap) (hcm : cap ≤ maxLen) :
    Calls Tryz.prog 18 #[V4.pk s d t (el z 0) i a n cap] w fun r W' => ∃ a1 l1 c1, r = .returned (.tuple #[.agg (sgC z a1 l1 c1), .int .i64 0]) ∧ Row8 W' a1 l1 c1 D ∧ Below w.heap.size w W' :=
  seg4_any s d t (el z 0) i a n cap w (okg_kn' hz) ho (by have := hn_le (el z 0); have := hz.2.2.1; omega) z D 0 (fun W hW => rseg_eb z D _ n a cap W hz (o4_in _ _ _ _) hn0 (hr.below hW) hcl hcm)
/-- OutOf of an address that may be. -/
theorem rout_oto (z : List Int) (n : Int) (w : World) (h : Ok6 z) (hn0 : Em.LongP n) : Calls Tryz.prog 26 #[.agg (sixC z), .int .i64 n] w fun e w' => e = .returned (.tuple #[.int .i64 (oto z n).1, .int .i64 (oto z n).2]) ∧ Below w.heap.size w w' := by
  obtain ⟨q, rfl, hq, _, h12⟩ := Em.long_q hn0
  refine (Em.rout_any z q w h hn0).mono ?_
  rintro e w' ⟨rfl, hb⟩
  refine ⟨?_, hb⟩
  unfold oto
  rw [show ((8 * (q : Int)) / 8).toNat = q by omega]
  split <;> rfl
end Go.Proofs.YtkhahbghmdccaaaGreat

namespace Go.Proofs.YtkhahbghmdccaaaGreat
open Go.RowKit
open Em in
theorem tk_new (z : List Int) (n : Nat) (h : 0 < n) : tk (fun _ => []) (fun _ => false) z n = some 0 := by
  have h0 : (List.range n).find? (f0 (fun _ => []) (fun _ => false) z) = none := List.find?_eq_none.2 fun i _ => by simp [f0, om, pofo, show ∀ l : List Nat, l.find? (fun _ => false) = none from fun l => List.find?_eq_none.2 (fun _ _ => by simp), ome]
  have h1 : (List.range n).find? (f1 (fun _ => false)) = some 0 := by
    obtain ⟨k, rfl⟩ : ∃ k, n = k + 1 := ⟨n - 1, by omega⟩
    rw [List.range_succ_eq_map, List.find?_cons_of_pos (by simp [f1, pofo, show ∀ l : List Nat, l.find? (fun _ => false) = none from fun l => List.find?_eq_none.2 (fun _ _ => by simp)])]
  unfold tk
  rw [h0, h1]
  rfl
/-- the gate behind it. -/
def GPl (c : List Int) (inj : Bool) (bk : List (List Int)) (m : Nat) (f : List Int) (x : Int) : GS := (gz0 c inj bk m).tab (upd (fun _ => []) 0 (cli f)) (upd (fun _ => false) 0 true) [mkb f 1024 x (el f 18) 0]
end Go.Proofs.YtkhahbghmdccaaaGreat

namespace Go.Proofs.YtkhahbghmdccaaaGreat
open Go.RowKit
attribute [local go_sem ↓] gload_shut hload_shut V6.hstore_shut Go.wp_at_zero Go.wp_at_succ
set_option maxRecDepth 100000 in
set_option maxHeartbeats 8000000 in
theorem packed6_own (z : List Int) (a : Option Addr) (len cap : Nat) (data : List Int) (x y : List Int) (hop : Int) (w : World) (h : Okg z len) (hr : Row8 w a len cap data) (h1 : Ok6 x) (h2 : Ok6 y) (N : Nat) (hN : hn (el z 0) + len = N) (hN2 : N ≤ 320) :
    Calls Tryz.prog 28 #[.agg (sgC z a len cap), .agg (sixC x), .agg (sixC y), .int .i64 hop] w fun e w' => ∃ a1 c1, e = .returned (V6.pk x y hop (el z 0) a1 N c1) ∧ (Row8 w' a1 N c1 (eb z (o6 x y (el z 0) N) data) ∧ N ≤ c1 ∧ c1 ≤ maxLen) ∧ Below w.heap.size w w' := by
  have HV := hide (K6.start w z a len cap x y)
  have hk : up 255 (el z 0) = true := by rcases (kn_iff _).1 (okg_kn h) with e | e <;> rw [e] <;> rfl
  have HZ := hide (fun W (hb : Below w.heap.size w W) => size_any z a len cap data W h (hr.below hb) N hN)
  have HO := hide (fun W => rover6_ok x y (el z 0) N W h1 h2 hk (decide_eq_true (by omega)))
  have hi := o6_in x y (el z 0) N h1 h2
  have hlen := hr.1
  generalize o6 x y (el z 0) N = O at HO hi ⊢
  have HC := hide (fun W (hb : Below w.heap.size w W) => rcheck_any z a len cap O data W h hi (hr.below hb))
  have HY := hide (fun W (hb : Below w.heap.size w W) => rbytes_any z a len cap (sck z O data) data W h (sck_in z O data hr.2.2.1 hi) (hr.below hb))
  rw [sbx_eb z O data (by rw [hlen]; exact h)] at HY
  have HL := hide (show (eb z O data).length = N by rw [eb_len, hlen]; exact hN)
  have HPs := hide (show 0 < (eb z O data).length by rw [eb_len]; have := hn_pos (el z 0); omega)
  generalize eb z O data = E at HY HL HPs ⊢
  generalize sck z O data = C at HC HY
  unfold V6.zero6 at HV
  unfold sixC at HO
  clear h hr h1 h2 hN hk hi hlen
  go_enter Tryz.func28, Tryz.ntmps28
  go_upto_region 1 with fail
  generalize (World.alloc (World.alloc (World.alloc _ _) _) _).alloc _ = W0 at HV ⊢
  replace HV := hide (HV.out.kept (Below.refl _ _).drew)
  obtain ⟨l0, lg, lx, ly⟩ := ld_of HV.out.1 HV.out.2.1 HV.out.2.2.1
  go_region_held3 (fun w' => w'.cell? ⟨w.heap.size, 0, none⟩ = some (.int .i64 (el z 0)) ∧ (gload (.pointer (some ⟨w.heap.size, 0, none⟩))).run Tryz.prog w' = .ok (.agg (sgC z a len cap)) w' ∧
      (hload (.pointer (some ⟨w.heap.size + 1, 0, none⟩))).run Tryz.prog w' = .ok (.agg #[.int .i64 (el x 0), .int .i64 (el x 1), .int .i64 (el x 2), .int .i64 (el x 3), .int .i64 (el x 4), .int .i64 (el x 5), .int .i64 (el x 6), .int .i64 (el x 7)]) w' ∧
      (hload (.pointer (some ⟨w.heap.size + 1 + 1, 0, none⟩))).run Tryz.prog w' = .ok (.agg #[.int .i64 (el y 0), .int .i64 (el y 1), .int .i64 (el y 2), .int .i64 (el y 3), .int .i64 (el y 4), .int .i64 (el y 5), .int .i64 (el y 6), .int .i64 (el y 7)]) w')
    (first
      | go_keep
      | exact ld_of HV.out.1 HV.out.2.1 HV.out.2.2.1)
    (first
      | (go_at_call 72; refine (HZ.out _ HV.out.2.2.2.2).mono ?_; rintro e w1 ⟨rfl, hb1⟩; replace HV := hide (HV.out.kept hb1); clear hb1 l0 lg lx ly; obtain ⟨l0, lg, lx, ly⟩ := ld_of HV.out.1 HV.out.2.1 HV.out.2.2.1)
      | (go_at_call 77; refine (HO.out _).mono ?_; rintro e w2 ⟨rfl, hb2⟩; replace HV := hide (HV.out.kept hb2); clear hb2 l0 lg lx ly; obtain ⟨l0, lg, lx, ly⟩ := ld_of HV.out.1 HV.out.2.1 HV.out.2.2.1))
  clear l0 lg lx ly
  go_upto_region 2 with fail
  replace HV := hide (HV.out.kept (Below.refl _ _).drew)
  obtain ⟨l0, lg, lx, ly⟩ := ld_of HV.out.1 HV.out.2.1 HV.out.2.2.1
  go_region_held3 (fun w' => w'.cell? ⟨w.heap.size, 0, none⟩ = some (.int .i64 (el z 0)) ∧ (gload (.pointer (some ⟨w.heap.size, 0, none⟩))).run Tryz.prog w' = .ok (.agg (sgC z a len cap)) w' ∧
      (hload (.pointer (some ⟨w.heap.size + 1, 0, none⟩))).run Tryz.prog w' = .ok (.agg #[.int .i64 (el x 0), .int .i64 (el x 1), .int .i64 (el x 2), .int .i64 (el x 3), .int .i64 (el x 4), .int .i64 (el x 5), .int .i64 (el x 6), .int .i64 (el x 7)]) w' ∧
      (hload (.pointer (some ⟨w.heap.size + 1 + 1, 0, none⟩))).run Tryz.prog w' = .ok (.agg #[.int .i64 (el y 0), .int .i64 (el y 1), .int .i64 (el y 2), .int .i64 (el y 3), .int .i64 (el y 4), .int .i64 (el y 5), .int .i64 (el y 6), .int .i64 (el y 7)]) w')
    (first
      | go_keep
      | exact ld_of HV.out.1 HV.out.2.1 HV.out.2.2.1
      | exact HS5.out)
    (first
      | (go_at_call 74; refine (HC.out _ HV.out.2.2.2.2).mono ?_; rintro e w3 ⟨rfl, hb3⟩; replace HV := hide (HV.out.kept hb3); clear hb3 l0 lg lx ly; obtain ⟨l0, lg, lx, ly⟩ := ld_of HV.out.1 HV.out.2.1 HV.out.2.2.1)
      | (go_at_call 73; refine (HY.out _ HV.out.2.2.2.2).mono ?_; rintro e w4 ⟨v4, rfl, own4, hb4⟩; obtain ⟨a4, c4, hv4, e1, e2, -, -, hr4⟩ := own4.form HPs.out; rw [HL.out] at hv4 hr4 e1; subst hv4; have HCp := hide (And.intro e1 e2); clear e1 e2; replace HV := hide (HV.out.kept hb4); obtain ⟨w5, hst, p5, on5⟩ := HV.out.2.2.2.1.held x y hop (el z 0) (some ⟨a4, 0, none⟩) N c4; unfold V6.pkC at hst; replace hr4 := hide (Row8.pastx on5 HV.out.2.2.2.1.no8 hr4); replace p5 := hide p5; have HS5 := hide (ld_of (on5.sg HV.out.1 (by omega)) (on5.six HV.out.2.1 (by omega)) (on5.six HV.out.2.2.1 (by omega))); have HB := hide (on5.below HV.out.2.2.2.2 (by omega)); clear on5 hb4 own4 l0 lg lx ly; obtain ⟨l0, lg, lx, ly⟩ := ld_of HV.out.1 HV.out.2.1 HV.out.2.2.1))
  go_wp2_with fail
  try simp only [Exit.inBlock, Exit.then]
  refine bodyPost_ret (V6.pk_result rfl _ _ (w.heap.size + 1 + 1 + 1) x y hop (el z 0) (some ⟨a4, 0, none⟩) N c4 rfl p5.out) rfl ?_
  exact ⟨_, c4, rfl, ⟨hr4.out, HCp.out⟩, HB.out⟩
/-- of a gate at which nothing has gone on: a flow that is not to the VIP. -/
theorem cross_g6s {c : List Int} {inj : Bool} {bk : List (List Int)} {m : Nat} {f : List Int} (hm : 1 ≤ m) (hv : eqz (dst f) (vip c) = false) (hop : Int) (z D : List Int) :
    (g6s (gz0 c inj bk m) f hop z D).1 ≠ 0 ∨ ((oto (dst f) (el c 17)).2 = 0 ∧ g6s (gz0 c inj bk m) f hop z D = (0, p4o (el c 18) (oto (dst f) (el c 17)).1 (hop - 1) (zft z 1024 (el f 18)) D, GPl c inj bk m f (oto (dst f) (el c 17)).1)) := by
  have ht : ∀ b, dst b = dst f → tell c inj b = false := fun b e => by
    unfold tell
    rw [e, hv, Bool.and_false]
  by_cases hi : Em.inF (dst f) (pfx c) (el c 17) = true ∧ (oto (dst f) (el c 17)).2 = 0
  · have hl : ldo c f = (0, false, (oto (dst f) (el c 17)).1) := by
      unfold ldo
      rw [if_neg (fun h => by rw [hv] at h; cases h.1), if_pos hi]
    generalize (oto (dst f) (el c 17)).1 = x at hl ⊢
    by_cases h9 : el f 0 = 6 ∧ ¬ (el z 5 / 2 % 2 = 1 ∧ el z 5 / 16 % 2 = 0)
    · left
      have hb : bdo (gz0 c inj bk m) f (el z 5) (whr (gz0 c inj bk m) f (false, x)) = (9, [], gz0 c inj bk m) := by
        rw [bdo_none (show fnd (gz0 c inj bk m).bs f = none from rfl), if_pos h9]
      unfold g6s
      rw [show (gz0 c inj bk m).c = c from rfl, hl]
      dsimp only
      rw [if_neg (by simp), show tell c (gz0 c inj bk m).inj f = false from ht f rfl, if_neg (by simp), hb]
      dsimp only
      rw [if_pos (by decide)]
      exact (by decide : (9 : Int) ≠ 0)
    · refine .inr ⟨hi.2, ?_⟩
      have hb : bdo (gz0 c inj bk m) f (el z 5) (whr (gz0 c inj bk m) f (false, x)) = (0, mkb f 1024 x (el f 18) 0, GPl c inj bk m f x) := by
        rw [show whr (gz0 c inj bk m) f (false, x) = (x, el f 18, 0) from if_neg (by simp), bdo_none (show fnd (gz0 c inj bk m).bs f = none from rfl), if_neg h9, if_neg (by simp)]
        rw [show tk (gz0 c inj bk m).ws (gz0 c inj bk m).ts (cli f) (8 * (gz0 c inj bk m).m) = some 0 from tk_new _ _ (by show 0 < 8 * m; omega)]
        rfl
      unfold g6s
      rw [show (gz0 c inj bk m).c = c from rfl, hl]
      dsimp only
      rw [if_neg (by simp), show tell c (gz0 c inj bk m).inj f = false from ht f rfl, if_neg (by simp), hb]
      dsimp only
      rw [if_neg (by simp)]
      unfold g6b
      have hg : guo (GPl c inj bk m f x) (mkb f 1024 x (el f 18) 0) z D = (0, z, D, GPl c inj bk m f x) := by
        unfold guo
        rw [if_neg]
        rw [show (GPl c inj bk m f x).c = c from rfl, show (GPl c inj bk m f x).inj = inj from rfl, ht (mkb f 1024 x (el f 18) 0) rfl]
        simp
      rw [hg]
      dsimp only
      rw [if_neg (by simp)]
      rfl
  · left
    have hl : ldo c f = (4, false, 0) := by
      unfold ldo
      rw [if_neg (fun h => by rw [hv] at h; cases h.1), if_neg hi]
    unfold g6s
    rw [show (gz0 c inj bk m).c = c from rfl, hl]
    exact (by decide : (4 : Int) ≠ 0)
theorem SgIn.set1 {B : Nat} {z : List Int} {a : Option Addr} {len cap : Nat} {w : World} (p : SgIn B z a len cap w) (q : Int) : SgIn B [el z 0, q, el z 2, el z 3, el z 4, el z 5, el z 6] a len cap (w.setCell ⟨B, 1, none⟩ (.int .i64 q)) ∧ Only B w (w.setCell ⟨B, 1, none⟩ (.int .i64 q)) := by
  rw [setCell_eq_setRow w B 1 _ _ (0, 0) _ p]
  exact ⟨setRow_heap w B _ _ _ (0, 0) p, only_setRow _ _ _⟩
end Go.Proofs.YtkhahbghmdccaaaGreat

namespace Go.Proofs.YtkhahbghmdccaaaGreat
open Go.RowKit
attribute [local go_sem ↓] gload_shut hload_shut cload_shut sbu_shut pstore_shut
set_option maxRecDepth 100000 in
set_option maxHeartbeats 4000000 in
/-- there is no gate. -/
theorem gcx_a (c : List Int) (inj : Bool) (ka : Option Addr) (kc : Nat) (bk : List (List Int)) (wh : Int) (ba : Option Addr) (bl bc : Nat) (z : List Int) (a : Option Addr) (len cap : Nat) (s d : List Int) (hop n : Int) (is : Bool) (w : World) (j : Int)
    (hN : ∀ W, Below w.heap.size w W → Calls Tryz.prog 13 #[.agg (cfC c inj ka bk.length kc)] W fun e w' => e = .returned (.tuple #[.pointer none, .iface 47 (.int .i64 j)]) ∧ Below W.heap.size W w') :
    Calls Tryz.prog 5 #[.agg (cfC c inj ka bk.length kc), .agg (stC3 wh ba bl bc z a len cap s d hop n is)] w fun e w' => e = .returned (.bool true) ∧ Below w.heap.size w w' := by
  have HF := hide fact_any
  have HK := hide (Kfs.start w c inj ka bk kc wh ba bl bc z a len cap s d hop n is)
  have HN := hide hN
  clear hN
  go_enter Tryz.func5, Tryz.ntmps5
  go_upto_region 1 with fail
  generalize (World.alloc _ _).alloc _ = W0 at HK ⊢
  go_upto_region 4 with (go_at_call 12; refine (HF.out _).mono ?_; rintro e w1 ⟨rfl, hb1⟩; replace HK := hide (HK.out.kept hb1); clear hb1)
  have q1 := HK.out.1.cl
  go_wp2_with (go_at_call 13; refine (HN.out _ HK.out.2.2).mono ?_; rintro e w2 ⟨rfl, hb2⟩; replace HK := hide (HK.out.kept hb2); clear hb2 q1)
  go_ret
  exact ⟨rfl, HK.out.2.2⟩
set_option maxRecDepth 100000 in
set_option maxHeartbeats 4000000 in
/-- nothing goes on, or it goes to the VIP. -/
theorem gcx_b (c : List Int) (inj : Bool) (ka : Option Addr) (kc : Nat) (bk : List (List Int)) (wh : Int) (ba : Option Addr) (bl bc : Nat) (z : List Int) (a : Option Addr) (len cap : Nat) (s d : List Int) (hop n : Int) (is : Bool) (w : World) (g0 g1 : GS) (m : Nat) (zs : List Int) (r : Int) (hg0 : g0 = gz0 c inj bk m)
    (hr0 : r ≠ 0 ∨ (r = 0 ∧ eqz d (vip c) = true))
    (hN : ∀ W, Below w.heap.size w W → Calls Tryz.prog 13 #[.agg (cfC c inj ka bk.length kc)] W fun e w' => NG W c inj bk m e w')
    (hS : ∀ W, Below w.heap.size w W → Calls Tryz.prog 15 #[.agg (stC3 9 none 0 0 z a len cap s d hop 0 false), .agg (cfC c inj ka bk.length kc), .slice none 0 0] W fun e w' => ∃ b l k, e = .returned (.slice b l k) ∧ (Row8 w' b l k zs ∧ l ≤ k ∧ k ≤ maxLen) ∧ Below W.heap.size W w')
    (hI6 : ∀ G a cap tv S Ot β W b l k, GC G a cap tv S Ot β g0 W → Row8 W b l k zs → l ≤ k → k ≤ maxLen → Calls Tryz.prog 16 #[.pointer (some ⟨G, 0, none⟩), .slice b l k] W fun e w' => ∃ a2 l2 c2, e = .returned (.tuple #[.slice a2 l2 c2, ev r]) ∧ GQ W G a cap tv S Ot β g0 g1 w') :
    Calls Tryz.prog 5 #[.agg (cfC c inj ka bk.length kc), .agg (stC3 wh ba bl bc z a len cap s d hop n is)] w fun e w' => e = .returned (.bool true) ∧ Below w.heap.size w w' := by
  have HF := hide fact_any
  have HK := hide (Kfs.start w c inj ka bk kc wh ba bl bc z a len cap s d hop n is)
  have HN := hide hN
  have HS := hide hS
  have HI := hide hI6
  have HR := hide hr0
  have hsb := fun W => sbu_run z a len cap s d hop W
  subst hg0
  clear hN hS hI6 hr0
  go_enter Tryz.func5, Tryz.ntmps5
  go_upto_region 1 with fail
  generalize (World.alloc _ _).alloc _ = W0 at HK ⊢
  go_upto_region 4 with (go_at_call 12; refine (HF.out _).mono ?_; rintro e w1 ⟨rfl, hb1⟩; replace HK := hide (HK.out.kept hb1); clear hb1)
  have q1 := HK.out.1.cl
  go_upto_region 7 with (go_at_call 13; refine (HN.out _ HK.out.2.2).mono ?_; rintro e w2 ⟨G, a2, c2, tv, S, Ot, rfl, g2, o2, hb2⟩; have HG := hide (show OG w1 G a2 c2 tv S Ot (fun _ => 0) (gz0 c inj bk m) w2 from ⟨g2, o2, hb2⟩); have HK1 := HK; replace HK := hide (HK.out.kept hb2); clear hb2 q1 g2 o2)
  have q1 := HK.out.1.cl
  have q2 := HK.out.2.1.gl
  have q3 := HK.out.2.1.hs
  have q4 := HK.out.2.1.hd
  have q5 := HK.out.2.1.hop
  go_upto_region 8 with (first
    | (go_at_call 15; refine (HS.out _ HK.out.2.2).mono ?_; rintro e w3 ⟨b3, l3, k3, rfl, r3, hb3⟩; have HR3 := hide r3; replace HG := hide (HG.out.kept hb3); clear hb3 r3 q1 q2 q3 q4 q5)
    | (go_at_call 16; refine (HI.out _ _ _ _ _ _ _ _ _ _ _ HG.out.1 HR3.out.1 HR3.out.2.1 HR3.out.2.2).mono ?_; rintro e w4 ⟨a4, l4, c4, rfl, q4⟩; obtain ⟨Ot4, β4, g4⟩ := HG.out.step q4; have HG4 := hide g4; clear q4 g4))
  clear HG HR3 HS HI HK
  have HK := hide (HK1.out.kept HG4.out.2.2)
  clear HK1
  rcases HR.out with hE | ⟨rfl, hE⟩
  · rw [ev_err hE]
    unfold err
    clear HR hE
    go_wp2
    go_ret
    exact ⟨rfl, HK.out.2.2⟩
  · rw [ev_nil]
    have e1 := seq_run d (vip c) w4
    rw [hE] at e1
    have q1 := HK.out.2.1.hd
    have q2 := HK.out.1.hv
    clear HR hE
    go_wp2
    go_ret
    exact ⟨rfl, HK.out.2.2⟩
end Go.Proofs.YtkhahbghmdccaaaGreat
