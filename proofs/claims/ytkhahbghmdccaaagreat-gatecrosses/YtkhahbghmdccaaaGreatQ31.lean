/- cross.To4 by contracts: one for each way out. cross.To4 of whatever packet: it tells of an error, or what crosses is this. -/
import Derived.Test.YtkhahbghmdccaaaGreatQ07
import Derived.Test.YtkhahbghmdccaaaGreatQ08
import Derived.Test.YtkhahbghmdccaaaGreatQ10
import Derived.Test.YtkhahbghmdccaaaGreatQ11
import Derived.Test.YtkhahbghmdccaaaGreatQ17
import Derived.Below
import Derived.OpenShut
import Derived.Test.YtkhahbghmdccaaaGreatProg
import Derived.WalkKit
import Derived.LaidEql
import Derived.BigQuiet
import Derived.Laws.AppendOwnNone
import Derived.Laws.MakeOwn
import Derived.Deep.RegionLaw
import Derived.Lib.Bytes
import Derived.Deep.MidRow
import Derived.Laws.ResultCell
import Derived.Deep.CutBlock
import Derived.Deep.QuietTactic
import Derived.OwnWalk
import Derived.Deep.RegionHeld3
import Derived.Deep.DrawnRows
namespace Go.Proofs.YtkhahbghmdccaaaGreat
open Go.RowKit
/-- the packet that is handed in, and the one that is handed out, in their blocks. -/
def T4 (w : World) (s d : List Int) (h k : Int) (a : Option Addr) (len cap : Nat) (W : World) : Prop := V6.PkIn w.heap.size s d h k a len cap W ∧ V4.PkIn (w.heap.size + 1) 0 0 0 0 0 none 0 0 W ∧ Below w.heap.size w W
theorem T4.kept {w : World} {s d : List Int} {h k : Int} {a : Option Addr} {len cap : Nat} {W W' : World} (t : T4 w s d h k a len cap W) (hb : Below W.heap.size W W') : T4 w s d h k a len cap W' := ⟨t.1.kept hb, t.2.1.kept hb, bt t.2.2 hb⟩
theorem T4.start (w : World) (s d : List Int) (h k : Int) (a : Option Addr) (len cap : Nat) : T4 w s d h k a len cap ((w.alloc (.cells (V6.pkC s d h k a len cap) 53)).alloc (.cells V4.zero4 44)) := by
  have b1 := al_below w (.cells (V6.pkC s d h k a len cap) 53)
  have b2 := al_below (w.alloc (.cells (V6.pkC s d h k a len cap) 53)) (.cells V4.zero4 44)
  have p2 := V4.zero_new (w.alloc (.cells (V6.pkC s d h k a len cap) 53))
  rw [World.size_alloc] at p2
  exact ⟨(V6.pk_new w s d h k a len cap).kept b2, p2, bt b1 b2⟩
theorem T4.put {w : World} {s d : List Int} {h k : Int} {a : Option Addr} {len cap : Nat} {W W' : World} (t : T4 w s d h k a len cap W) (on : Only (w.heap.size + 1) W W') : Below w.heap.size w W' := on.below t.2.2 (Nat.le_succ _)
theorem Row8.only {B : Nat} {w w' : World} (h : Only B w w') {g n c : Nat} {zs : List Int} (hg : g ≠ B) (r : Row8 w (some ⟨g, 0, none⟩) n c zs) : Row8 w' (some ⟨g, 0, none⟩) n c zs := by
  refine ⟨r.1, r.2.1, r.2.2.1, r.2.2.2.1, fun hp => ?_⟩
  obtain ⟨b, off, e, hc⟩ := r.2.2.2.2 hp
  refine ⟨b, off, e, fun i hi => ?_⟩
  injection e with e; injection e with e1 e2
  have := hc i hi
  rw [← this]
  unfold World.cell?
  rw [h.2.2.2.2 b (by rw [← e1]; exact hg)]
theorem Row8.ne4 {B : Nat} {w : World} {g n c : Nat} {zs : List Int} {s d t k i : Int} {a : Option Addr} {len cap : Nat} (r : Row8 w (some ⟨g, 0, none⟩) n c zs) (hp : 0 < n) (p : V4.PkIn B s d t k i a len cap w) : g ≠ B := by
  rintro rfl
  obtain ⟨b, off, e, hc⟩ := r.2.2.2.2 hp
  injection e with e; injection e with e1 e2
  subst e1; subst e2
  have h1 := hc 0 hp
  have h2 := p.all.1
  rw [Nat.zero_add] at h1
  rw [h1] at h2
  cases h2
set_option maxRecDepth 100000 in
set_option maxHeartbeats 2000000 in
theorem to4_ok (s d : List Int) (h k : Int) (a : Option Addr) (len cap : Nat) (src dst : Int) (w : World) (ho : V6.Okp s d h k) (hl : len ≤ 320) (h1 : up 4294967295 src = true) (h2 : up 4294967295 dst = true) (hd : 2 ≤ h) (Z : List Int) (n : Nat) (hn0 : 0 < n)
    (hU : ∀ W, Below w.heap.size w W → Calls Tryz.prog 83 #[.int .i64 k, .slice a len cap, .int .i64 (o6 s d k len), .int .i64 (o4 src dst k len)] W fun e w' => ∃ g c, e = .returned (.tuple #[.slice (some ⟨g, 0, none⟩) n c, .nilIface]) ∧ n ≤ c ∧ c ≤ maxLen ∧ Row8 w' (some ⟨g, 0, none⟩) n c Z ∧ Below W.heap.size W w') :
    Calls Tryz.prog 27 #[V6.pk s d h k a len cap, .int .i64 src, .int .i64 dst] w fun e w' => ∃ g c, e = .returned (.tuple #[V4.pk src dst (h - 1) k 0 (some ⟨g, 0, none⟩) n c, .nilIface]) ∧ n ≤ c ∧ c ≤ maxLen ∧ Row8 w' (some ⟨g, 0, none⟩) n c Z ∧ Below w.heap.size w w' := by
  have HV := hide (T4.start w s d h k a len cap)
  have hC := hide (fun W => V6.chk_ok s d h k a len cap W ho hl)
  have hS := hide (fun W => over6_ok s d k len W ho.1 ho.2.1 (decide_eq_true ho.2.2.2) (decide_eq_true (by omega)))
  have hF := hide (fun W => over4_o src dst k len W h1 h2 (decide_eq_true ho.2.2.2) (decide_eq_true (by omega)))
  replace hU := hide hU
  have hh2 : h ≤ 255 := ho.2.2.1.2
  unfold V4.zero4 at HV
  unfold V6.pk at hC ⊢
  generalize o6 s d k len = O6 at hS hU
  generalize o4 src dst k len = O4 at hF hU
  clear ho h1 h2
  go_enter Tryz.func27, Tryz.ntmps27
  go_upto_region 1 with fail
  generalize (World.alloc _ _).alloc _ = W0 at HV ⊢
  go_upto_region 2 with (first
    | (refine V6.at_load rfl (.tmp 3) rfl rfl HV.out.1 ?_)
    | (go_at_call 80; refine (hC.out _).mono ?_; rintro e w1 ⟨rfl, hb1⟩; replace HV := hide (HV.out.kept hb1); clear hb1))
  have l4 := HV.out.1.kind
  have l5 := HV.out.1.body
  go_upto_region 6 with (first
    | (refine V6.at_src rfl (.tmp 24) rfl rfl HV.out.1 ?_)
    | (refine V6.at_dst rfl (.tmp 26) rfl rfl HV.out.1 ?_)
    | (go_at_call 81; refine (hS.out _).mono ?_; rintro e w2 ⟨rfl, hb2⟩; replace HV := hide (HV.out.kept hb2); clear hb2 l4 l5))
  have l4 := HV.out.1.kind
  go_upto_region 9 with (go_at_call 82; refine (hF.out _).mono ?_; rintro e w3 ⟨rfl, hb3⟩; replace HV := hide (HV.out.kept hb3); clear hb3 l4)
  have l4 := HV.out.1.kind
  have l5 := HV.out.1.body
  go_upto_region 12 with (go_at_call 83; refine (hU.out _ HV.out.2.2).mono ?_; rintro e w4 ⟨g4, c4, rfl, hc4, hm4, hr4, hb4⟩; replace HV := hide (HV.out.kept hb4); replace hr4 := hide hr4; replace hc4 := hide hc4; replace hm4 := hide hm4; clear hb4 l4 l5)
  have l3 := HV.out.1.hop
  have l4 := HV.out.1.kind
  go_wp2_with (refine V4.at_store rfl (.tmp 6) (.tmp 78) rfl rfl HV.out.2.1 src dst (h - 1) k 0 (some ⟨g4, 0, none⟩) n c4 rfl ?_; intro w5 p5 on5; have HB := hide (HV.out.put on5); replace p5 := hide p5; replace hr4 := hide (Row8.only on5 (hr4.out.ne4 hn0 HV.out.2.1) hr4.out); clear on5 HV)
  try simp only [Exit.inBlock, Exit.then]
  refine bodyPost_ret (V4.results_cr rfl _ _ (w.heap.size + 1) src dst (h - 1) k 0 (some ⟨g4, 0, none⟩) n c4 rfl p5.out) rfl ?_
  exact ⟨g4, c4, rfl, hc4.out, hm4.out, hr4.out, HB.out⟩
end Go.Proofs.YtkhahbghmdccaaaGreat

namespace Go.Proofs.YtkhahbghmdccaaaGreat
open Go.RowKit
theorem oct_drop (xs : List Int) (hx : SM.Oct xs) (n : Nat) : SM.Oct (xs.drop n) := by
  intro i
  have : (xs.drop n).getD i 0 = xs.getD (n + i) 0 := by simp only [List.getD_eq_getElem?_getD, List.getElem?_drop]
  rw [this]; exact hx _
theorem hn_pos (k : Int) : 8 ≤ hn k := by unfold hn; split <;> omega
/-- what a body is that may cross: the segment's bytes, under what stands over it. -/
def Body (k over : Int) (len : Nat) (zs z D : List Int) : Prop := Okg z D.length ∧ el z 0 = k ∧ eb z over D = zs ∧ SM.Oct D ∧ hn k + D.length = len
theorem Body.okg {k over : Int} {len : Nat} {zs z D : List Int} (B : Body k over len zs z D) : Okg z D.length := B.1
theorem Body.kind {k over : Int} {len : Nat} {zs z D : List Int} (B : Body k over len zs z D) : el z 0 = k := B.2.1
theorem Body.bytes {k over : Int} {len : Nat} {zs z D : List Int} (B : Body k over len zs z D) : eb z over D = zs := B.2.2.1
theorem Body.oct {k over : Int} {len : Nat} {zs z D : List Int} (B : Body k over len zs z D) : SM.Oct D := B.2.2.2.1
theorem Body.size {k over : Int} {len : Nat} {zs z D : List Int} (B : Body k over len zs z D) : hn k + D.length = len := B.2.2.2.2
theorem body_of {k over : Int} {len : Nat} {zs z D : List Int} (h1 : Okg z D.length) (h2 : el z 0 = k) (h3 : eb z over D = zs) (hl : zs.length = len) (ho : SM.Oct zs) : Body k over len zs z D := by
  refine ⟨h1, h2, h3, ?_, ?_⟩
  · have := drop_eb z over D h1
    rw [h3] at this
    rw [← this]; exact oct_drop _ ho _
  · have := eb_len z over D
    rw [h3, hl, h2] at this
    omega
/-- Decode and then Encode under something else. -/
theorem Body.und {k p q : Int} {len : Nat} {zs z D : List Int} (B : Body k p len zs z D) (hp : up 65535 p = true) (hq : up 65535 q = true) (a : Option Addr) (cap : Nat) (w : World) (hr : Row8 w a len cap zs) (hcl : len ≤ cap) (hcm : cap ≤ maxLen) :
    Calls Tryz.prog 83 #[.int .i64 k, .slice a len cap, .int .i64 p, .int .i64 q] w fun e' w' => ∃ g c, e' = .returned (.tuple #[.slice (some ⟨g, 0, none⟩) len c, .nilIface]) ∧ len ≤ c ∧ c ≤ maxLen ∧ Row8 w' (some ⟨g, 0, none⟩) len c (eb z q D) ∧ Below w.heap.size w w' := by
  have hpos := hn_pos k
  have hsz := B.size
  obtain ⟨g, off, rfl, _⟩ := hr.2.2.2.2 (by omega)
  have hd := dec_own z g off len cap p D w B.okg hp (by rw [B.bytes]; exact hr) hcl hcm
  rw [B.kind] at hd
  refine und_ok k p q _ len cap z D w B.okg hq B.kind len hsz (hd.mono ?_)
  rintro r w' ⟨a1, l1, c1, h1, h2, h3⟩
  exact ⟨a1, l1, c1, h1, h2, h3⟩
theorem Body.other {k p q : Int} {len : Nat} {zs z D : List Int} (B : Body k p len zs z D) : Body k q len (eb z q D) z D := ⟨B.okg, B.kind, rfl, B.oct, B.size⟩
end Go.Proofs.YtkhahbghmdccaaaGreat
