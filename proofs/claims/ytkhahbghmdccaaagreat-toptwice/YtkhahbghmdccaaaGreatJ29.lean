/- cross.To4 by contracts: one for each way out. cross.To6 by contracts: one for each way out. cross.To6 of a packet that goes on. cross.To4 of whatever packet: it tells of an error, or what crosses is this. What To4 gives, and what comes back from it; the one packet that is known. -/
import Derived.Test.YtkhahbghmdccaaaGreatJ05
import Derived.Test.YtkhahbghmdccaaaGreatJ07
import Derived.Test.YtkhahbghmdccaaaGreatJ08
import Derived.Test.YtkhahbghmdccaaaGreatJ15
import Derived.Below
import Derived.OpenShut
import Derived.Test.YtkhahbghmdccaaaGreatProg
import Derived.WalkKit
import Derived.LaidEql
import Derived.BigQuiet
import Derived.Laws.AppendOwnNone
import Derived.Laws.MakeOwn
import Derived.Deep.RegionLaw
import Derived.Lib.Bytes
import Derived.Deep.MidRow
import Derived.Laws.ResultCell
import Derived.Deep.CutBlock
import Derived.Deep.QuietTactic
import Derived.OwnWalk
import Derived.Deep.RegionHeld3
import Derived.Deep.DrawnRows
import Derived.Test.YtkhahbghmdccaaaGreatJ06
import Derived.Test.YtkhahbghmdccaaaGreatJ20
import Derived.Test.YtkhahbghmdccaaaGreatJ10
namespace Go.Proofs.YtkhahbghmdccaaaGreat
open Go.RowKit
/-- the packet that is handed in, and the one that is handed out, in their blocks. -/
def T4 (w : World) (s d : List Int) (h k : Int) (a : Option Addr) (len cap : Nat) (W : World) : Prop := V6.PkIn w.heap.size s d h k a len cap W ∧ V4.PkIn (w.heap.size + 1) 0 0 0 0 0 none 0 0 W ∧ Below w.heap.size w W
theorem T4.kept {w : World} {s d : List Int} {h k : Int} {a : Option Addr} {len cap : Nat} {W W' : World} (t : T4 w s d h k a len cap W) (hb : Below W.heap.size W W') : T4 w s d h k a len cap W' := ⟨t.1.kept hb, t.2.1.kept hb, bt t.2.2 hb⟩
theorem T4.start (w : World) (s d : List Int) (h k : Int) (a : Option Addr) (len cap : Nat) : T4 w s d h k a len cap ((w.alloc (.cells (V6.pkC s d h k a len cap) 53)).alloc (.cells V4.zero4 44)) := by
  have b1 := al_below w (.cells (V6.pkC s d h k a len cap) 53)
  have b2 := al_below (w.alloc (.cells (V6.pkC s d h k a len cap) 53)) (.cells V4.zero4 44)
  have p2 := V4.zero_new (w.alloc (.cells (V6.pkC s d h k a len cap) 53))
  rw [World.size_alloc] at p2
  exact ⟨(V6.pk_new w s d h k a len cap).kept b2, p2, bt b1 b2⟩
theorem T4.put {w : World} {s d : List Int} {h k : Int} {a : Option Addr} {len cap : Nat} {W W' : World} (t : T4 w s d h k a len cap W) (on : Only (w.heap.size + 1) W W') : Below w.heap.size w W' := on.below t.2.2 (Nat.le_succ _)
set_option maxRecDepth 100000 in
set_option maxHeartbeats 2000000 in
theorem to4_four (s d : List Int) (h k : Int) (a : Option Addr) (len cap : Nat) (src dst : Int) (w : World) (ho : V6.Okp s d h k) (hl : len ≤ 320) (hf : ¬ (up 4294967295 src = true ∧ up 4294967295 dst = true)) :
    Calls Tryz.prog 27 #[V6.pk s d h k a len cap, .int .i64 src, .int .i64 dst] w fun e w' => e = .returned (.tuple #[V4.pk0, err 1]) ∧ Below w.heap.size w w' := by
  have HV := hide (T4.start w s d h k a len cap)
  have hC := hide (fun W => V6.chk_ok s d h k a len cap W ho hl)
  have hS := hide (fun W => over6_ok s d k len W ho.1 ho.2.1 (decide_eq_true ho.2.2.2) (decide_eq_true (by omega)))
  have hF := hide (fun W => over4_bad src dst k len W (fun h => hf ⟨h.1, h.2.1⟩))
  unfold V4.zero4 at HV
  unfold V6.pk at hC ⊢
  unfold err at hF ⊢
  generalize o6 s d k len = O6 at hS
  clear ho hf
  go_enter Tryz.func27, Tryz.ntmps27
  go_upto_region 1 with fail
  generalize (World.alloc _ _).alloc _ = W0 at HV ⊢
  go_upto_region 2 with (first
    | (refine V6.at_load rfl (.tmp 3) rfl rfl HV.out.1 ?_)
    | (go_at_call 80; refine (hC.out _).mono ?_; rintro e w1 ⟨rfl, hb1⟩; replace HV := hide (HV.out.kept hb1); clear hb1))
  have l4 := HV.out.1.kind
  have l5 := HV.out.1.body
  go_upto_region 6 with (first
    | (refine V6.at_src rfl (.tmp 24) rfl rfl HV.out.1 ?_)
    | (refine V6.at_dst rfl (.tmp 26) rfl rfl HV.out.1 ?_)
    | (go_at_call 81; refine (hS.out _).mono ?_; rintro e w2 ⟨rfl, hb2⟩; replace HV := hide (HV.out.kept hb2); clear hb2 l4 l5))
  have l4 := HV.out.1.kind
  go_upto_region 9 with (go_at_call 82; refine (hF.out _).mono ?_; rintro e w3 ⟨rfl, hb3⟩; replace HV := hide (HV.out.kept hb3); clear hb3 l4)
  go_wp2_with (refine V4.at_store rfl (.tmp 6) (.tmp 49) rfl rfl HV.out.2.1 0 0 0 0 0 none 0 0 rfl ?_; intro w5 p5 on5; have HB := hide (HV.out.put on5); replace p5 := hide p5; clear on5 HV)
  try simp only [Exit.inBlock, Exit.then]
  refine bodyPost_ret (V4.results_cr rfl _ _ (w.heap.size + 1) 0 0 0 0 0 none 0 0 rfl p5.out) rfl ?_
  exact ⟨rfl, HB.out⟩
theorem Row8.only {B : Nat} {w w' : World} (h : Only B w w') {g n c : Nat} {zs : List Int} (hg : g ≠ B) (r : Row8 w (some ⟨g, 0, none⟩) n c zs) : Row8 w' (some ⟨g, 0, none⟩) n c zs := by
  refine ⟨r.1, r.2.1, r.2.2.1, r.2.2.2.1, fun hp => ?_⟩
  obtain ⟨b, off, e, hc⟩ := r.2.2.2.2 hp
  refine ⟨b, off, e, fun i hi => ?_⟩
  injection e with e; injection e with e1 e2
  have := hc i hi
  rw [← this]
  unfold World.cell?
  rw [h.2.2.2.2 b (by rw [← e1]; exact hg)]
theorem Row8.ne4 {B : Nat} {w : World} {g n c : Nat} {zs : List Int} {s d t k i : Int} {a : Option Addr} {len cap : Nat} (r : Row8 w (some ⟨g, 0, none⟩) n c zs) (hp : 0 < n) (p : V4.PkIn B s d t k i a len cap w) : g ≠ B := by
  rintro rfl
  obtain ⟨b, off, e, hc⟩ := r.2.2.2.2 hp
  injection e with e; injection e with e1 e2
  subst e1; subst e2
  have h1 := hc 0 hp
  have h2 := p.all.1
  rw [Nat.zero_add] at h1
  rw [h1] at h2
  cases h2
set_option maxRecDepth 100000 in
set_option maxHeartbeats 2000000 in
theorem to4_ok (s d : List Int) (h k : Int) (a : Option Addr) (len cap : Nat) (src dst : Int) (w : World) (ho : V6.Okp s d h k) (hl : len ≤ 320) (h1 : up 4294967295 src = true) (h2 : up 4294967295 dst = true) (hd : 2 ≤ h) (Z : List Int) (n : Nat) (hn0 : 0 < n)
    (hU : ∀ W, Below w.heap.size w W → Calls Tryz.prog 83 #[.int .i64 k, .slice a len cap, .int .i64 (o6 s d k len), .int .i64 (o4 src dst k len)] W fun e w' => ∃ g c, e = .returned (.tuple #[.slice (some ⟨g, 0, none⟩) n c, .nilIface]) ∧ n ≤ c ∧ c ≤ maxLen ∧ Row8 w' (some ⟨g, 0, none⟩) n c Z ∧ Below W.heap.size W w') :
    Calls Tryz.prog 27 #[V6.pk s d h k a len cap, .int .i64 src, .int .i64 dst] w fun e w' => ∃ g c, e = .returned (.tuple #[V4.pk src dst (h - 1) k 0 (some ⟨g, 0, none⟩) n c, .nilIface]) ∧ n ≤ c ∧ c ≤ maxLen ∧ Row8 w' (some ⟨g, 0, none⟩) n c Z ∧ Below w.heap.size w w' := by
  have HV := hide (T4.start w s d h k a len cap)
  have hC := hide (fun W => V6.chk_ok s d h k a len cap W ho hl)
  have hS := hide (fun W => over6_ok s d k len W ho.1 ho.2.1 (decide_eq_true ho.2.2.2) (decide_eq_true (by omega)))
  have hF := hide (fun W => over4_o src dst k len W h1 h2 (decide_eq_true ho.2.2.2) (decide_eq_true (by omega)))
  replace hU := hide hU
  have hh2 : h ≤ 255 := ho.2.2.1.2
  unfold V4.zero4 at HV
  unfold V6.pk at hC ⊢
  generalize o6 s d k len = O6 at hS hU
  generalize o4 src dst k len = O4 at hF hU
  clear ho h1 h2
  go_enter Tryz.func27, Tryz.ntmps27
  go_upto_region 1 with fail
  generalize (World.alloc _ _).alloc _ = W0 at HV ⊢
  go_upto_region 2 with (first
    | (refine V6.at_load rfl (.tmp 3) rfl rfl HV.out.1 ?_)
    | (go_at_call 80; refine (hC.out _).mono ?_; rintro e w1 ⟨rfl, hb1⟩; replace HV := hide (HV.out.kept hb1); clear hb1))
  have l4 := HV.out.1.kind
  have l5 := HV.out.1.body
  go_upto_region 6 with (first
    | (refine V6.at_src rfl (.tmp 24) rfl rfl HV.out.1 ?_)
    | (refine V6.at_dst rfl (.tmp 26) rfl rfl HV.out.1 ?_)
    | (go_at_call 81; refine (hS.out _).mono ?_; rintro e w2 ⟨rfl, hb2⟩; replace HV := hide (HV.out.kept hb2); clear hb2 l4 l5))
  have l4 := HV.out.1.kind
  go_upto_region 9 with (go_at_call 82; refine (hF.out _).mono ?_; rintro e w3 ⟨rfl, hb3⟩; replace HV := hide (HV.out.kept hb3); clear hb3 l4)
  have l4 := HV.out.1.kind
  have l5 := HV.out.1.body
  go_upto_region 12 with (go_at_call 83; refine (hU.out _ HV.out.2.2).mono ?_; rintro e w4 ⟨g4, c4, rfl, hc4, hm4, hr4, hb4⟩; replace HV := hide (HV.out.kept hb4); replace hr4 := hide hr4; replace hc4 := hide hc4; replace hm4 := hide hm4; clear hb4 l4 l5)
  have l3 := HV.out.1.hop
  have l4 := HV.out.1.kind
  go_wp2_with (refine V4.at_store rfl (.tmp 6) (.tmp 78) rfl rfl HV.out.2.1 src dst (h - 1) k 0 (some ⟨g4, 0, none⟩) n c4 rfl ?_; intro w5 p5 on5; have HB := hide (HV.out.put on5); replace p5 := hide p5; replace hr4 := hide (Row8.only on5 (hr4.out.ne4 hn0 HV.out.2.1) hr4.out); clear on5 HV)
  try simp only [Exit.inBlock, Exit.then]
  refine bodyPost_ret (V4.results_cr rfl _ _ (w.heap.size + 1) src dst (h - 1) k 0 (some ⟨g4, 0, none⟩) n c4 rfl p5.out) rfl ?_
  exact ⟨g4, c4, rfl, hc4.out, hm4.out, hr4.out, HB.out⟩
end Go.Proofs.YtkhahbghmdccaaaGreat

namespace Go.Proofs.YtkhahbghmdccaaaGreat
open Go.RowKit
/-- what is handed in, and the packet that is handed out, in their blocks. -/
def T6 (w : World) (s d t k i : Int) (a : Option Addr) (len cap : Nat) (x y : List Int) (W : World) : Prop := V4.PkIn w.heap.size s d t k i a len cap W ∧ SixIn (w.heap.size + 1) x W ∧ SixIn (w.heap.size + 1 + 1) y W ∧ V6.PkIn (w.heap.size + 1 + 1 + 1) [] [] 0 0 none 0 0 W ∧ Below w.heap.size w W
theorem T6.kept {w : World} {s d t k i : Int} {a : Option Addr} {len cap : Nat} {x y : List Int} {W W' : World} (h : T6 w s d t k i a len cap x y W) (hb : Below W.heap.size W W') : T6 w s d t k i a len cap x y W' := ⟨h.1.kept hb, h.2.1.kept hb, h.2.2.1.kept hb, h.2.2.2.1.kept hb, bt h.2.2.2.2 hb⟩
def box4 (w : World) (s d t k i : Int) (a : Option Addr) (len cap : Nat) : World := w.alloc (.cells #[.int .i64 s, .int .i64 d, .int .i64 t, .int .i64 k, .int .i64 i, .slice a len cap] 44)
theorem T6.start (w : World) (s d t k i : Int) (a : Option Addr) (len cap : Nat) (x y : List Int) : T6 w s d t k i a len cap x y ((((box4 w s d t k i a len cap).alloc (.cells (sixC x) 23)).alloc (.cells (sixC y) 23)).alloc (.cells V6.zero6 53)) := by
  have s1 : (box4 w s d t k i a len cap).heap.size = w.heap.size + 1 := World.size_alloc _ _
  have b1 : Below w.heap.size w (box4 w s d t k i a len cap) := al_below w _
  have p1 : V4.PkIn w.heap.size s d t k i a len cap (box4 w s d t k i a len cap) := V4.pk_new w s d t k i a len cap
  generalize box4 w s d t k i a len cap = w1 at s1 b1 p1 ⊢
  have s2 : (w1.alloc (.cells (sixC x) 23)).heap.size = w.heap.size + 1 + 1 := by rw [World.size_alloc, s1]
  have b2 : Below w1.heap.size w1 (w1.alloc (.cells (sixC x) 23)) := al_below w1 _
  have p2 := six_al x w1
  rw [s1] at p2
  generalize w1.alloc (.cells (sixC x) 23) = w2 at s2 b2 p2 ⊢
  have s3 : (w2.alloc (.cells (sixC y) 23)).heap.size = w.heap.size + 1 + 1 + 1 := by rw [World.size_alloc, s2]
  have b3 : Below w2.heap.size w2 (w2.alloc (.cells (sixC y) 23)) := al_below w2 _
  have p3 := six_al y w2
  rw [s2] at p3
  generalize w2.alloc (.cells (sixC y) 23) = w3 at s3 b3 p3 ⊢
  have b4 : Below w3.heap.size w3 (w3.alloc (.cells V6.zero6 53)) := al_below w3 _
  have p4 := V6.zero_new w3
  rw [s3] at p4
  exact ⟨((p1.kept b2).kept b3).kept b4, (p2.kept b3).kept b4, p3.kept b4, p4, bt (bt (bt b1 b2) b3) b4⟩
theorem T6.put {w : World} {s d t k i : Int} {a : Option Addr} {len cap : Nat} {x y : List Int} {W W' : World} (h : T6 w s d t k i a len cap x y W) (on : Only (w.heap.size + 1 + 1 + 1) W W') : Below w.heap.size w W' := on.below h.2.2.2.2 (by omega)
theorem Row8.ne6 {B : Nat} {w : World} {g n c : Nat} {zs : List Int} {s d : List Int} {h k : Int} {a : Option Addr} {len cap : Nat} (r : Row8 w (some ⟨g, 0, none⟩) n c zs) (hp : 0 < n) (p : V6.PkIn B s d h k a len cap w) : g ≠ B := by
  rintro rfl
  obtain ⟨b, off, e, hc⟩ := r.2.2.2.2 hp
  injection e with e; injection e with e1 e2
  subst e1; subst e2
  have h1 := hc 0 hp
  have h2 := p.cellAt 0
  rw [Nat.zero_add] at h1
  rw [h1] at h2
  cases h2
/-- an address loaded, its numbers in the open. -/
theorem at_load6x {ops : Array Oper} {rest : List Oper} {o : Oper} {f : Act} {w : World} {Q : Exit → Act → World → Prop} (hgd : o.guard = none) (x : Operand) (ho : o.op = .load 23 x)
    {B : Nat} {z : List Int} (hx : f.eval x = .pointer (some ⟨B, 0, none⟩)) (p : SixIn B z w)
    (hK : wpList Tryz.prog ops Q rest (f.put o.dst (.agg #[.int .i64 (el z 0), .int .i64 (el z 1), .int .i64 (el z 2), .int .i64 (el z 3), .int .i64 (el z 4), .int .i64 (el z 5), .int .i64 (el z 6), .int .i64 (el z 7)])) w) : wpList Tryz.prog ops Q (o :: rest) f w := at_load6 hgd x ho hx p hK
theorem okp4_k {s d t k i : Int} (h : V4.Okp s d t k i) : up 255 k = true := decide_eq_true h.2.2.2.1
theorem okp4_s {s d t k i : Int} (h : V4.Okp s d t k i) : up 4294967295 s = true := decide_eq_true h.1
theorem okp4_d {s d t k i : Int} (h : V4.Okp s d t k i) : up 4294967295 d = true := decide_eq_true h.2.1
end Go.Proofs.YtkhahbghmdccaaaGreat

namespace Go.Proofs.YtkhahbghmdccaaaGreat
open Go.RowKit
set_option maxRecDepth 100000 in
set_option maxHeartbeats 2000000 in
theorem to6_ok (s d t k i : Int) (a : Option Addr) (len cap : Nat) (x y : List Int) (w : World) (ho : V4.Okp s d t k i) (hl : len ≤ 320) (h1 : Ok6 x) (h2 : Ok6 y) (hd : 2 ≤ t) (Z : List Int) (n : Nat) (hn0 : 0 < n)
    (hU : ∀ W, Below w.heap.size w W → Calls Tryz.prog 83 #[.int .i64 k, .slice a len cap, .int .i64 (o4 s d k len), .int .i64 (o6 x y k len)] W fun e w' => ∃ g c, e = .returned (.tuple #[.slice (some ⟨g, 0, none⟩) n c, .nilIface]) ∧ n ≤ c ∧ c ≤ maxLen ∧ Row8 w' (some ⟨g, 0, none⟩) n c Z ∧ Below W.heap.size W w') :
    Calls Tryz.prog 43 #[V4.pk s d t k i a len cap, .agg (sixC x), .agg (sixC y)] w fun e w' => ∃ g c, e = .returned (.tuple #[V6.pk x y (t - 1) k (some ⟨g, 0, none⟩) n c, .nilIface]) ∧ n ≤ c ∧ c ≤ maxLen ∧ Row8 w' (some ⟨g, 0, none⟩) n c Z ∧ Below w.heap.size w w' := by
  have HV := hide (T6.start w s d t k i a len cap x y)
  unfold V6.zero6 box4 at HV
  have hC := hide (fun W => V4.check_ok s d t k i a len cap W ho hl)
  have hF := hide (fun W => over4_o s d k len W (okp4_s ho) (okp4_d ho) (okp4_k ho) (decide_eq_true (by omega)))
  have hS := hide (fun W => over6_ok x y k len W h1 h2 (okp4_k ho) (decide_eq_true (by omega)))
  replace hU := hide hU
  have ht2 : t ≤ 255 := ho.2.2.1.2
  unfold V4.pk at hC ⊢
  generalize o4 s d k len = O4 at hF hU
  generalize o6 x y k len = O6 at hS hU
  clear ho h1 h2
  go_enter Tryz.func43, Tryz.ntmps43
  go_upto_region 1 with fail
  generalize (World.alloc (World.alloc (World.alloc _ _) _) _).alloc _ = W0 at HV ⊢
  go_upto_region 2 with (first
    | (refine V4.at_load rfl (.tmp 3) rfl rfl HV.out.1 ?_)
    | (go_at_call 97; refine (hC.out _).mono ?_; rintro e w1 ⟨rfl, hb1⟩; replace HV := hide (HV.out.kept hb1); clear hb1))
  obtain ⟨l0, l1, l2, l3, l4, l5⟩ := HV.out.1.all
  go_upto_region 6 with (go_at_call 82; refine (hF.out _).mono ?_; rintro e w2 ⟨rfl, hb2⟩; replace HV := hide (HV.out.kept hb2); clear hb2 l0 l1 l2 l3 l4 l5)
  obtain ⟨l0, l1, l2, l3, l4, l5⟩ := HV.out.1.all
  go_upto_region 9 with (first
    | (refine at_load6 rfl (.tmp 4) rfl rfl HV.out.2.1 ?_)
    | (refine at_load6 rfl (.tmp 5) rfl rfl HV.out.2.2.1 ?_)
    | (go_at_call 81; refine (hS.out _).mono ?_; rintro e w3 ⟨rfl, hb3⟩; replace HV := hide (HV.out.kept hb3); clear hb3 l0 l1 l2 l3 l4 l5))
  obtain ⟨l0, l1, l2, l3, l4, l5⟩ := HV.out.1.all
  go_upto_region 12 with (go_at_call 83; refine (hU.out _ HV.out.2.2.2.2).mono ?_; rintro e w4 ⟨g4, c4, rfl, hc4, hm4, hr4, hb4⟩; replace HV := hide (HV.out.kept hb4); replace hr4 := hide hr4; replace hc4 := hide hc4; replace hm4 := hide hm4; clear hb4 l0 l1 l2 l3 l4 l5)
  obtain ⟨l0, l1, l2, l3, l4, l5⟩ := HV.out.1.all
  go_upto_region 16 with fail
  go_wp2_with (first
    | (refine at_load6x rfl (.tmp 4) rfl rfl HV.out.2.1 ?_)
    | (refine at_load6x rfl (.tmp 5) rfl rfl HV.out.2.2.1 ?_)
    | (refine V6.at_store rfl (.tmp 6) (.tmp 78) rfl rfl HV.out.2.2.2.1 x y (t - 1) k (some ⟨g4, 0, none⟩) n c4 rfl ?_; intro w5 p5 on5; have HB := hide (HV.out.put on5); replace p5 := hide p5; replace hr4 := hide (Row8.only on5 (hr4.out.ne6 hn0 HV.out.2.2.2.1) hr4.out); clear on5 HV))
  try simp only [Exit.inBlock, Exit.then]
  refine bodyPost_ret (V6.results_pk rfl _ _ (w.heap.size + 1 + 1 + 1) x y (t - 1) k (some ⟨g4, 0, none⟩) n c4 rfl p5.out) rfl ?_
  exact ⟨g4, c4, rfl, hc4.out, hm4.out, hr4.out, HB.out⟩
end Go.Proofs.YtkhahbghmdccaaaGreat

namespace Go.Proofs.YtkhahbghmdccaaaGreat
open Go.RowKit
theorem oct_drop (xs : List Int) (hx : SM.Oct xs) (n : Nat) : SM.Oct (xs.drop n) := by
  intro i
  have : (xs.drop n).getD i 0 = xs.getD (n + i) 0 := by simp only [List.getD_eq_getElem?_getD, List.getElem?_drop]
  rw [this]; exact hx _
theorem hn_pos (k : Int) : 8 ≤ hn k := by unfold hn; split <;> omega
/-- what a body is that may cross: the segment's bytes, under what stands over it. -/
def Body (k over : Int) (len : Nat) (zs z D : List Int) : Prop := Okg z D.length ∧ el z 0 = k ∧ eb z over D = zs ∧ SM.Oct D ∧ hn k + D.length = len
theorem Body.okg {k over : Int} {len : Nat} {zs z D : List Int} (B : Body k over len zs z D) : Okg z D.length := B.1
theorem Body.kind {k over : Int} {len : Nat} {zs z D : List Int} (B : Body k over len zs z D) : el z 0 = k := B.2.1
theorem Body.bytes {k over : Int} {len : Nat} {zs z D : List Int} (B : Body k over len zs z D) : eb z over D = zs := B.2.2.1
theorem Body.oct {k over : Int} {len : Nat} {zs z D : List Int} (B : Body k over len zs z D) : SM.Oct D := B.2.2.2.1
theorem Body.size {k over : Int} {len : Nat} {zs z D : List Int} (B : Body k over len zs z D) : hn k + D.length = len := B.2.2.2.2
theorem body_of {k over : Int} {len : Nat} {zs z D : List Int} (h1 : Okg z D.length) (h2 : el z 0 = k) (h3 : eb z over D = zs) (hl : zs.length = len) (ho : SM.Oct zs) : Body k over len zs z D := by
  refine ⟨h1, h2, h3, ?_, ?_⟩
  · have := drop_eb z over D h1
    rw [h3] at this
    rw [← this]; exact oct_drop _ ho _
  · have := eb_len z over D
    rw [h3, hl, h2] at this
    omega
/-- Decode and then Encode under something else. -/
theorem Body.und {k p q : Int} {len : Nat} {zs z D : List Int} (B : Body k p len zs z D) (hp : up 65535 p = true) (hq : up 65535 q = true) (a : Option Addr) (cap : Nat) (w : World) (hr : Row8 w a len cap zs) (hcl : len ≤ cap) (hcm : cap ≤ maxLen) :
    Calls Tryz.prog 83 #[.int .i64 k, .slice a len cap, .int .i64 p, .int .i64 q] w fun e' w' => ∃ g c, e' = .returned (.tuple #[.slice (some ⟨g, 0, none⟩) len c, .nilIface]) ∧ len ≤ c ∧ c ≤ maxLen ∧ Row8 w' (some ⟨g, 0, none⟩) len c (eb z q D) ∧ Below w.heap.size w w' := by
  have hpos := hn_pos k
  have hsz := B.size
  obtain ⟨g, off, rfl, _⟩ := hr.2.2.2.2 (by omega)
  have hd := dec_own z g off len cap p D w B.okg hp (by rw [B.bytes]; exact hr) hcl hcm
  rw [B.kind] at hd
  refine und_ok k p q _ len cap z D w B.okg hq B.kind len hsz (hd.mono ?_)
  rintro r w' ⟨a1, l1, c1, h1, h2, h3⟩
  exact ⟨a1, l1, c1, h1, h2, h3⟩
theorem Body.other {k p q : Int} {len : Nat} {zs z D : List Int} (B : Body k p len zs z D) : Body k q len (eb z q D) z D := ⟨B.okg, B.kind, rfl, B.oct, B.size⟩
end Go.Proofs.YtkhahbghmdccaaaGreat

namespace Go.Proofs.YtkhahbghmdccaaaGreat
open Go.RowKit
theorem okp4 {s d : List Int} {h k src dst : Int} (ho : V6.Okp s d h k) (h1 : up 4294967295 src = true) (h2 : up 4294967295 dst = true) (hh : 2 ≤ h) : V4.Okp src dst (h - 1) k 0 := by
  refine ⟨up_true h1, up_true h2, ?_, ho.2.2.2, ?_⟩
  · have := ho.2.2.1
    unfold V4.IsB
    omega
  · unfold Word; omega
/-- what crossed comes back. -/
theorem back_ok (s d : List Int) (h k src dst : Int) (len : Nat) (zs z D : List Int) (ho : V6.Okp s d h k) (hl : len ≤ 320) (h1 : up 4294967295 src = true) (h2 : up 4294967295 dst = true) (hh : 3 ≤ h) (B : Body k (o6 s d k len) len zs z D)
    (a : Option Addr) (cap : Nat) (w : World) (hr : Row8 w a len cap (eb z (o4 src dst k len) D)) (hcl : len ≤ cap) (hcm : cap ≤ maxLen) :
    Calls Tryz.prog 43 #[V4.pk src dst (h - 1) k 0 a len cap, .agg (sixC s), .agg (sixC d)] w fun e w' => ∃ a1 c1, e = .returned (.tuple #[V6.pk s d (h - 2) k a1 len c1, .nilIface]) ∧ Row8 w' a1 len c1 zs ∧ Below w.heap.size w w' := by
  have B4 : Body k (o4 src dst k len) len (eb z (o4 src dst k len) D) z D := B.other
  have hpos := hn_pos k
  have hsz := B.size
  refine (to6_ok src dst (h - 1) k 0 a len cap s d w (okp4 ho h1 h2 (by omega)) hl ho.1 ho.2.1 (by omega) _ _ (by omega) (fun W hb => B4.und (o4_in _ _ _ _) (o6_in s d k len ho.1 ho.2.1) a cap W (hr.below hb) hcl hcm)).mono ?_
  rintro e w' ⟨g, c, h3, _, _, h4, h5⟩
  rw [B.bytes] at h4
  rw [show h - 1 - 1 = h - 2 by omega] at h3
  exact ⟨_, c, h3, h4, h5⟩
end Go.Proofs.YtkhahbghmdccaaaGreat
