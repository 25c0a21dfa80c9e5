/- GateStays: what it is told of what went on; what is kept. -/
import Derived.Test.YtkhahbghmdccaaaGreatDoorK34
import Derived.Test.YtkhahbghmdccaaaGreatDoorK35
import Derived.Test.YtkhahbghmdccaaaGreatDoorK36
import Derived.Test.YtkhahbghmdccaaaGreatDoorGsA
import Derived.Below
import Derived.OpenShut
import Derived.Test.YtkhahbghmdccaaaGreatDoorProg
import Derived.WalkKit
import Derived.LaidEql
import Derived.BigQuiet
import Derived.Laws.AppendOwnNone
import Derived.Laws.MakeOwn
import Derived.Deep.RegionLaw
import Derived.Lib.Bytes
import Derived.Deep.MidRow
import Derived.Laws.ResultCell
import Derived.Deep.CutBlock
import Derived.Deep.QuietTactic
import Derived.OwnWalk
import Derived.Deep.RegionHeld3
import Derived.Deep.DrawnRows
import Derived.Laws.StructEq
import Derived.Maps.AppendAt
import Derived.Maps.RangeWalk
import Derived.Stop.Asserts
import Derived.RowKitTokens
import Derived.Test.YtkhahbghmdccaaaGreatDoorShelf
import Derived.Shelf.Abstract
import Derived.Lib.SliceRun
import Derived.Lib.AppendZerosOnto
import Derived.Lib.AppendZeros
import Derived.Laws.CopyOwn
import Derived.RangeFuncNested
import Derived.RangeFuncBound
import Derived.RangeFuncCalls
import Derived.RangeFuncLeaves
import Derived.RangeFuncFrom
import Derived.Shelf.RegionOpen
import Derived.OwnWalkIn
import Derived.TacticsInMore
import Derived.LoopNIn
import Derived.LoopIn
import Derived.Deep.RegionWith
import Derived.ArgAppend
import Derived.Lib.SlBytesConst
import Derived.Lib.AppendStr
import Derived.Deep.Slices
import Derived.ChangeArms
import Derived.WideShapes
import Derived.Deep.Fields
import Derived.ChangeSlices
namespace Go.Proofs.YtkhahbghmdccaaaGreatDoor
open Go.RowKit
set_option linter.unusedVariables false
/-- a packet's cells. -/
def pk5 (s d t k i : Int) (a : Option Addr) (len cap : Nat) : Array Value := #[.int .i64 s, .int .i64 d, .int .i64 t, .int .i64 k, .int .i64 i, .slice a len cap]
/-- what is told of a packet that went on. -/
def SYB (c : List Int) (n x y hop : Int) (Y4 : List Int) : Prop := ∃ (N : Nat) (E zb : List Int), (el zb 1 = n ∧ el zb 2 = y) ∧
  (∀ W b l q, Row8 W b l q Y4 → l ≤ q → q ≤ maxLen → Calls Tryz.prog 22 #[.slice b l q] W fun e w' => ∃ a1 c1, e = .returned (.tuple #[.agg #[.int .i64 (el c 18), .int .i64 x, .int .i64 (hop - 1), .int .i64 (el zb 0), .int .i64 0, .slice a1 N c1], .nilIface]) ∧ (Row8 w' a1 N c1 E ∧ N ≤ c1 ∧ c1 ≤ maxLen) ∧ Below W.heap.size W w') ∧
  (∀ W a1 c1, Row8 W a1 N c1 E → N ≤ c1 → c1 ≤ maxLen → Calls Tryz.prog 23 #[.agg #[.int .i64 (el c 18), .int .i64 x, .int .i64 (hop - 1), .int .i64 (el zb 0), .int .i64 0, .slice a1 N c1]] W fun e w' => ∃ a2 l2 c2, e = .returned (.tuple #[.agg (sgC zb a2 l2 c2), .int .i64 0]) ∧ Below W.heap.size W w')
theorem went_bundle {c : List Int} {inj : Bool} {g : GS} (h : SBI c inj g) (hi : IG g) {s d z D : List Int} {hop : Int} (hs : Ok6 s) (hd : Ok6 d) (ht : up 255 hop = true) (hz : Okg z D.length) (ho : SM.Oct D) (h0 : (g6 g (p6o s d hop z D)).1 = 0) :
    ∃ b ∈ (g6 g (p6o s d hop z D)).2.2.bs, flC b = flC (fl5 (el z 0) s (el z 1) d (el z 2)) ∧ SYB c (el b 19) (el b 20) (el b 21) hop (g6 g (p6o s d hop z D)).2.1 := by
  obtain ⟨b, hb, zu, Du, h2, hfl, hY, hU, hig, hsb⟩ := ask_core h hi hs hd ht hz ho h0
  have hgb := hig.1.2.2.1.1 _ hb
  have hm16 := hig.1.1
  have hef := (eqf_iff _ _).2 hfl
  unfold eqf at hef
  simp only [Bool.and_eq_true, beq_iff_eq] at hef
  have b0 : el b 0 = el z 0 := hef.1.1.1.1
  have hz7 : Okg (z7 z) D.length := hz
  obtain ⟨u1, u2, u3, u4⟩ := upx_ok hU hz7 ho b0
  have hb21 : 0 ≤ el b 21 ∧ el b 21 ≤ 65535 := wd_in hgb.2.2.2.2
  have hux : up 4294967295 (el b 20) = true := by
    have h : fr (el b 20) = true := hgb.2.2.2.1
    unfold fr at h
    rw [Bool.and_eq_true, decide_eq_true_eq, decide_eq_true_eq] at h
    exact decide_eq_true h
  have hb19 : 0 ≤ el b 19 ∧ el b 19 ≤ 65535 := by
    obtain ⟨i, q1, q2, _⟩ := hgb.2.1
    omega
  have hnear : up 4294967295 (el c 18) = true := by
    have := hig.2.2.2.2.2.1
    rw [hsb.1] at this
    exact this
  have htt := up_true ht
  have ht1 : up 255 (hop - 1) = true := decide_eq_true (by omega)
  have hzb : Okg (zft zu (el b 19) (el b 21)) Du.length := zft_ok u1 hb19 hb21
  obtain ⟨N, E, q1, q2⟩ := dec4_p4o hnear hux ht1 hzb
  refine ⟨b, hb, hfl, N, E, zft zu (el b 19) (el b 21), ⟨rfl, rfl⟩, ?_, fun W a1 c1 r e1 e2 => ?_⟩
  · rw [hY]
    exact q1
  · refine (q2 W a1 c1 r e1 e2).mono ?_
    rintro e w' ⟨a2, l2, c2, h1, _, h3⟩
    exact ⟨a2, l2, c2, h1, h3⟩
/-- the first one. -/
theorem first_bundle {c : List Int} {inj : Bool} {bk : List (List Int)} {m : Nat} (hi : IG (gz0 c inj bk m)) {s d z D : List Int} {hop : Int} (hs : Ok6 s) (hd : Ok6 d) (ht : up 255 hop = true) (hz : Okg z D.length) (ho : SM.Oct D) (h0 : (g6 (gz0 c inj bk m) (p6o s d hop z D)).1 = 0) :
    ∃ n x y, SYB c n x y hop (g6 (gz0 c inj bk m) (p6o s d hop z D)).2.1 ∧ STN (fl5 (el z 0) s (el z 1) d (el z 2)) n x y (g6 (gz0 c inj bk m) (p6o s d hop z D)).2.2 ∧
      ∀ g, IG g → SBI c inj g → STY (fl5 (el z 0) s (el z 1) d (el z 2)) n x y g → (g6 g (p6o s d hop z D)).1 = 0 ∧ SYB c n x y hop (g6 g (p6o s d hop z D)).2.1 ∧ STN (fl5 (el z 0) s (el z 1) d (el z 2)) n x y (g6 g (p6o s d hop z D)).2.2 := by
  have hform : ∀ g, g6 g (p6o s d hop z D) = if hop < 2 then (7, [], g) else g6s g (fl5 (el z 0) s (el z 1) d (el z 2)) hop (z7 z) D := fun g => g6_p6o g hs hd ht hz
  have h2 : ¬ hop < 2 := fun h => by
    rw [hform, if_pos h] at h0
    cases h0
  have hform' : ∀ g, g6 g (p6o s d hop z D) = g6s g (fl5 (el z 0) s (el z 1) d (el z 2)) hop (z7 z) D := fun g => by rw [hform, if_neg h2]
  have hsb0 := gz0_sbi c inj bk m
  obtain ⟨b, hb, hfl, hY⟩ := went_bundle hsb0 hi hs hd ht hz ho h0
  have hig1 := (g6_ig hi (p6o_oct hs hd ht hz ho)).1
  have hu := h0
  rw [hform'] at hu
  obtain ⟨f1, f2, f3⟩ := first_ok hu
  obtain ⟨b2, k1, k2, k3⟩ := g6s_used hu
  rw [← hform'] at k1 k3
  have he : b2 = b := flow_inj hig1.1.2.2.1.2.2.1 k1 hb (k2.trans hfl.symm)
  rw [he] at k3
  refine ⟨_, _, _, hY, ⟨b, hb, ⟨hfl, rfl, rfl, rfl⟩, k3⟩, fun g hg hs' hst => ?_⟩
  have hz7 : Okg (z7 z) D.length := hz
  have hok : (g6 g (p6o s d hop z D)).1 = 0 := by
    rw [hform']
    exact stay_ok hs' hg hst hz7 f1 f2 rfl f3
  obtain ⟨b', hb', hfl', hY'⟩ := went_bundle hs' hg hs hd ht hz ho hok
  have hig' := (g6_ig hg (p6o_oct hs hd ht hz ho)).1
  have hu' := hok
  rw [hform'] at hu'
  obtain ⟨b3, m1, m2, m3⟩ := g6s_used hu'
  rw [← hform'] at m1 m3
  have he' : b3 = b' := flow_inj hig'.1.2.2.1.2.2.1 m1 hb' (m2.trans hfl'.symm)
  rw [he'] at m3
  have hst' : STY (fl5 (el z 0) s (el z 1) d (el z 2)) (el b 19) (el b 20) (el b 21) (g6 g (p6o s d hop z D)).2.2 := by
    rw [hform']
    exact g6s_sty hst _ _ _ _
  obtain ⟨r1, r2, r3, r4⟩ := stay_stn hig' hst' hb' hfl' m3
  refine ⟨hok, ?_, r1⟩
  rw [← r2, ← r3, ← r4]
  exact hY'
/-- a step played on a gate: what held of it, and what holds behind it. -/
theorem play_pq {P Q : GS → Prop} (wh : Int) (ba : Option Addr) (bl bc : Nat) (B z : List Int) (a : Option Addr) (len cap : Nat) (D s d : List Int) (hop n : Int) (is : Bool)
    (h6 : ∀ g zs, IG g → SM.Oct zs → P g → Q (g6 g zs).2.2) (h4 : ∀ g zs, IG g → SM.Oct zs → P g → Q (g4 g zs).2.2) (ht : wh = 2 → ∀ g, IG g → P g → Q (gtk g n).2) (hp : ∀ g id u, IG g → P g → Q (gmk g id (fun x => bup x u)).2) (hd : ∀ g id u, IG g → P g → Q (gmk g id (fun x => bdr x u)).2)
    (c : List Int) (inj : Bool) (ka : Option Addr) (kn kc : Nat) (hn : I64 n) (hc : up 4294967295 (el c 18) = true) {w : World} {G : Nat} {g : GS} {O : Nat → Prop} {W : World} (hg : IG g) (hi : P g) (h : GH w G g O W) (rb : Row8 W ba bl bc B) (e1 : bl ≤ bc) (e2 : bc ≤ maxLen) (hr : Row8 W a len cap D) :
    Calls Tryz.prog 15 #[.pointer (some ⟨G, 0, none⟩), .agg (stC3 wh ba bl bc z a len cap s d hop n is), .agg (cfC c inj ka kn kc)] W fun e w' => (∃ v, e = .returned v) ∧ ∃ g', IG g' ∧ Q g' ∧ GN w G g' O W w' := by
  by_cases w0 : wh = 0
  · exact play_a G wh ba bl bc z a len cap s d hop n is c inj ka kn kc W _ (.inl ⟨w0, fun W1 hb => (in6_gh hg B w G O W1 ba bl bc (h.kept hb) (rb.below hb) e1 e2).mono fun e w' ⟨⟨a2, l2, c2, q1, _⟩, q2⟩ => ⟨⟨a2, l2, c2, _, q1⟩, _, (g6_ig hg rb.2.2.1).1, h6 g B hg rb.2.2.1 hi, q2.pre hb⟩⟩)
  by_cases w1 : wh = 1
  · exact play_a G wh ba bl bc z a len cap s d hop n is c inj ka kn kc W _ (.inr (.inl ⟨w1, fun W1 hb => (in4_gh hg B w G O W1 ba bl bc (h.kept hb) (rb.below hb) e1 e2).mono fun e w' ⟨⟨a2, l2, c2, q1, _⟩, q2⟩ => ⟨⟨a2, l2, c2, _, q1⟩, _, (g4_ig hg B).1, h4 g B hg rb.2.2.1 hi, q2.pre hb⟩⟩))
  by_cases w2 : wh = 2
  · exact play_a G wh ba bl bc z a len cap s d hop n is c inj ka kn kc W _ (.inr (.inr (.inl ⟨w2, fun W1 hb => (tick_gh hg n w G O W1 (h.kept hb)).mono fun e w' ⟨q1, q2⟩ => ⟨⟨_, q1⟩, _, gtk_ig hg n, ht w2 g hg hi, q2.pre hb⟩⟩)))
  by_cases w3 : wh = 3
  · exact play_a G wh ba bl bc z a len cap s d hop n is c inj ka kn kc W _ (.inr (.inr (.inr (.inl ⟨w3, fun W1 hb => (probe_gh (by have := hg.len; omega) n is w G O W1 (h.kept hb)).mono fun e w' ⟨q1, q2⟩ => ⟨⟨_, q1⟩, _, gmk_ig hg n (f := fun x => bup x is) (fun _ => rfl) (fun _ => rfl), hp g n is hg hi, q2.pre hb⟩⟩))))
  by_cases w4 : wh = 4
  · exact play_a G wh ba bl bc z a len cap s d hop n is c inj ka kn kc W _ (.inr (.inr (.inr (.inr ⟨w4, fun W1 hb => (drain_gh (by have := hg.len; omega) n is w G O W1 (h.kept hb)).mono fun e w' ⟨q1, q2⟩ => ⟨⟨_, q1⟩, _, gmk_ig hg n (f := fun x => bdr x is) (fun _ => rfl) (fun _ => rfl), hd g n is hg hi, q2.pre hb⟩⟩))))
  by_cases w5 : wh = 5
  · subst w5
    obtain ⟨zs, hS⟩ := lsent5 ba bl bc z a len cap s d hop n is c inj ka kn kc g.bs D hr.1 hn hg.1.2.1 hc (fun b hb => (hg.1.2.2.1.1 b hb).2.2.2.1)
    refine play_c G ba bl bc z a len cap s d hop n is c inj ka kn kc W _ zs g.bs (fun W1 hb => ?_) (fun W1 v hb hv => hS W1 v hv (hr.below hb)) (fun W1 b l k hb r q1 q2 => ?_)
    · obtain ⟨x1, x2, x3, x4, x5, x6, rfl, hh⟩ := h.kept hb
      exact binds_any G x1 x2 x3 x4 x5 x6 g W1 hh.1 hg.1
    · refine (in4_gh hg zs w G O W1 b l k (h.kept hb) r q1 q2).mono ?_
      rintro e w' ⟨⟨a2, l2, c2, p1, _⟩, p2⟩
      refine ⟨⟨a2, l2, c2, _, p1⟩, ⟨_, (g4_ig hg zs).1, h4 g zs hg r.2.2.1 hi, p2.pre hb⟩, fun B' hB hB2 => ?_⟩
      obtain ⟨_, _, _, p3⟩ := p2
      exact p3.1.2.2.2.2 B' hB2 (fun ho => by have := h.lt ho; omega)
  · have f := fun (j : Int) (hj : ¬ wh = j) => show (wh == j) = false by simpa using hj
    obtain ⟨zs, hS⟩ : ∃ zs : List Int, ∀ W1, Below W.heap.size W W1 → Calls Tryz.prog 14 #[.agg (stC3 wh ba bl bc z a len cap s d hop n is), .agg (cfC c inj ka kn kc), .slice none 0 0] W1 fun e w' => ∃ b l k, e = .returned (.slice b l k) ∧ (Row8 w' b l k zs ∧ l ≤ k ∧ k ≤ maxLen) ∧ Below W1.heap.size W1 w' := by
      rcases lsent_any wh ba bl bc z a len cap s d hop n is c inj ka kn kc (.slice none 0 0) D W (f 5 w5) hr with h | ⟨hs, hd, ht, hz, h⟩
      · exact ⟨[], fun W hW => (h W hW).mono fun e w' ⟨e1, e2⟩ => ⟨none, 0, 0, e1, ⟨gt_no _, Nat.le_refl _, Nat.zero_le _⟩, e2⟩⟩
      · refine ⟨p6o s d hop z D, fun W hW => (h W hW).mono fun e w' ⟨v, e1, o, e2⟩ => ?_⟩
        obtain ⟨g, k, rfl, k1, k2, _, _, r⟩ := o.form p6o_len
        exact ⟨_, _, k, e1, ⟨r, k1, k2⟩, e2⟩
    refine play_b G wh ba bl bc z a len cap s d hop n is c inj ka kn kc W _ zs (f 0 w0) (f 1 w1) (f 2 w2) (f 3 w3) (f 4 w4) (f 5 w5) hS (fun W1 b l k hb r q1 q2 => ?_)
    refine (in6_gh hg zs w G O W1 b l k (h.kept hb) r q1 q2).mono ?_
    rintro e w' ⟨⟨a2, l2, c2, p1, _⟩, p2⟩
    exact ⟨⟨a2, l2, c2, _, p1⟩, _, (g6_ig hg r.2.2.1).1, h6 g zs hg r.2.2.1 hi, p2.pre hb⟩
/-- a gate of which that holds, the packet and the segment that went on first, and what is sent. -/
def SYW (P : GS → Prop) (wB : World) (c : List Int) (inj : Bool) (G B5 B7 : Nat) (V5 V7 : Obj) (b : Option Addr) (l k : Nat) (zs : List Int) (W : World) : Prop := ∃ g O, IG g ∧ SBI c inj g ∧ P g ∧ GH wB G g O W ∧ ¬ O B5 ∧ ¬ O B7 ∧ W.heap[B5]? = some V5 ∧ W.heap[B7]? = some V7 ∧ Row8 W b l k zs
theorem objl {W : World} {B : Nat} {V : Obj} (h : W.heap[B]? = some V) : B < W.heap.size := (Array.getElem?_eq_some_iff.1 h).1
theorem SYW.kept {P : GS → Prop} {wB : World} {c : List Int} {inj : Bool} {G B5 B7 : Nat} {V5 V7 : Obj} {b : Option Addr} {l k : Nat} {zs : List Int} {W W' : World} (h : SYW P wB c inj G B5 B7 V5 V7 b l k zs W) (hb : Below W.heap.size W W') : SYW P wB c inj G B5 B7 V5 V7 b l k zs W' := by
  obtain ⟨g, O, h1, h2, h3, h4, h5, h6, h7, h8, h9⟩ := h
  exact ⟨g, O, h1, h2, h3, h4.kept hb, h5, h6, (hb.block B5 (objl h7)).trans h7, (hb.block B7 (objl h8)).trans h8, h9.below hb⟩
theorem SYW.below {P : GS → Prop} {wB : World} {c : List Int} {inj : Bool} {G B5 B7 : Nat} {V5 V7 : Obj} {b : Option Addr} {l k : Nat} {zs : List Int} {W : World} (h : SYW P wB c inj G B5 B7 V5 V7 b l k zs W) : Below wB.heap.size wB W := by
  obtain ⟨g, O, h1, h2, h3, h4, _⟩ := h
  exact h4.below
theorem SYW.seen {P : GS → Prop} {wB : World} {c : List Int} {inj : Bool} {G B5 B7 : Nat} {V5 V7 : Obj} {b : Option Addr} {l k : Nat} {zs : List Int} {W : World} (h : SYW P wB c inj G B5 B7 V5 V7 b l k zs W) : W.heap[B5]? = some V5 ∧ W.heap[B7]? = some V7 ∧ Row8 W b l k zs := by
  obtain ⟨g, O, h1, h2, h3, h4, h5, h6, h7⟩ := h
  exact h7
theorem GN.both2 {w : World} {G : Nat} {g' : GS} {O : Nat → Prop} {W W' : World} (h : GN w G g' O W W') {B5 B7 : Nat} (h5 : B5 < W.heap.size) (n5 : ¬ O B5) (h7 : B7 < W.heap.size) (n7 : ¬ O B7) : W'.heap[B5]? = W.heap[B5]? ∧ W'.heap[B7]? = W.heap[B7]? ∧ (∃ O', GH w G g' O' W' ∧ ¬ O' B5 ∧ ¬ O' B7) ∧ ∀ a n c zs, Row8 W a n c zs → Row8 W' a n c zs := by
  obtain ⟨O', h1, h2, h3⟩ := h
  exact ⟨h3.1.2.2.2.2 _ h5 n5, h3.1.2.2.2.2 _ h7 n7, ⟨O', h1, fun ho => (h2 _ ho).elim n5 (fun q => by omega), fun ho => (h2 _ ho).elim n7 (fun q => by omega)⟩, h3.2⟩
theorem play_syw {f : List Int} {fn fx fy : Int} {wB : World} {c : List Int} {inj : Bool} {G B5 B7 : Nat} {V5 V7 : Obj} {b : Option Addr} {l k : Nat} {zs : List Int} {W : World} (hc : up 4294967295 (el c 18) = true) (h : SYW (STN f fn fx fy) wB c inj G B5 B7 V5 V7 b l k zs W)
    (wh : Int) (ba : Option Addr) (bl bc : Nat) (B z : List Int) (a : Option Addr) (len cap : Nat) (D s d : List Int) (hop n : Int) (is : Bool) (ka : Option Addr) (kn kc : Nat) (hn : I64 n) (hw2 : wh = 2 → 0 ≤ n ∧ n < 30) (rb : Row8 W ba bl bc B) (e1 : bl ≤ bc) (e2 : bc ≤ maxLen) (hr : Row8 W a len cap D) :
    Calls Tryz.prog 15 #[.pointer (some ⟨G, 0, none⟩), .agg (stC3 wh ba bl bc z a len cap s d hop n is), .agg (cfC c inj ka kn kc)] W fun e w' => (∃ v, e = .returned v) ∧ SYW (STY f fn fx fy) wB c inj G B5 B7 V5 V7 b l k zs w' := by
  obtain ⟨g, O, h1, h2, h3, h4, h5, h6, h7, h8, h9⟩ := h
  refine (play_pq (P := fun g => SBI c inj g ∧ STN f fn fx fy g) (Q := fun g => SBI c inj g ∧ STY f fn fx fy g) wh ba bl bc B z a len cap D s d hop n is (fun g zs hg ho h => ⟨g6_sbi h.1 zs, (g6_stn h.2 zs).sty⟩) (fun g zs hg ho h => ⟨g4_sbi h.1 zs, (g4_stn h.2 zs).sty⟩) (fun e g hg h => ⟨gtk_sbi h.1 n, gtk_sty h.2 n (hw2 e).1 (hw2 e).2⟩) (fun g id u hg h => ⟨gmk_sbi h.1 id _, (gmk_stn h.2 id _).sty⟩) (fun g id u hg h => ⟨gmk_sbi h.1 id _, (gmk_stn h.2 id _).sty⟩) c inj ka kn kc hn hc h1 ⟨h2, h3⟩ h4 rb e1 e2 hr).mono ?_
  rintro e w' ⟨q1, g', q2, ⟨q3, q4⟩, q5⟩
  obtain ⟨m1, m2, ⟨O', m3, m4, m5⟩, m6⟩ := q5.both2 (objl h7) h5 (objl h8) h6
  exact ⟨q1, g', O', q2, q3, q4, m3, m4, m5, m1.trans h7, m2.trans h8, m6 _ _ _ _ h9⟩
theorem in6_syw {f : List Int} {fn fx fy hop : Int} {zs c : List Int} {inj : Bool} (hz : SM.Oct zs) (hR : ∀ g, IG g → SBI c inj g → STY f fn fx fy g → (g6 g zs).1 = 0 ∧ SYB c fn fx fy hop (g6 g zs).2.1 ∧ STN f fn fx fy (g6 g zs).2.2)
    {wB : World} {G B5 B7 : Nat} {V5 V7 : Obj} {b : Option Addr} {l k : Nat} {W : World} (h : SYW (STY f fn fx fy) wB c inj G B5 B7 V5 V7 b l k zs W) (e1 : l ≤ k) (e2 : k ≤ maxLen) :
    Calls Tryz.prog 21 #[.pointer (some ⟨G, 0, none⟩), .slice b l k] W fun e w' => ∃ a2 l2 c2 Y, e = .returned (.tuple #[.slice a2 l2 c2, .nilIface]) ∧ (Row8 w' a2 l2 c2 Y ∧ l2 ≤ c2 ∧ c2 ≤ maxLen) ∧ SYB c fn fx fy hop Y ∧ SYW (STN f fn fx fy) wB c inj G B5 B7 V5 V7 b l k zs w' := by
  obtain ⟨g, O, h1, h2, h3, h4, h5, h6, h7, h8, h9⟩ := h
  obtain ⟨r1, r2, r3⟩ := hR g h1 h2 h3
  have := in6_gh h1 zs wB G O W b l k h4 h9 e1 e2
  rw [r1, ev_nil] at this
  refine this.mono ?_
  rintro e w' ⟨⟨a2, l2, c2, q1, q2⟩, q5⟩
  obtain ⟨m1, m2, ⟨O', m3, m4, m5⟩, m6⟩ := q5.both2 (objl h7) h5 (objl h8) h6
  exact ⟨a2, l2, c2, _, q1, q2, r2, _, O', (g6_ig h1 hz).1, g6_sbi h2 zs, r3, m3, m4, m5, m1.trans h7, m2.trans h8, m6 _ _ _ _ h9⟩
end Go.Proofs.YtkhahbghmdccaaaGreatDoor
