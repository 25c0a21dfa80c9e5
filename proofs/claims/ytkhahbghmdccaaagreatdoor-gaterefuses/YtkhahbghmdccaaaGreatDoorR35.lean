/- Two gates side by side. The statements' own Pick of a number below another, by a contract. TopMoves, whatever comes. What holds of a gate behind Tick, Probe and Drain; calls on a gate. What is sent by a step that answers a bind. What is sent by a step that answers a bind, walked. What is sent by a step that answers a bind, whatever it is. A step played on a gate. A step played on a gate: what is sent by it. A step played on a gate: what holds of it goes on to hold. -/
import Derived.Test.YtkhahbghmdccaaaGreatDoorR33
import Derived.Test.YtkhahbghmdccaaaGreatDoorR34
import Derived.Below
import Derived.OpenShut
import Derived.Test.YtkhahbghmdccaaaGreatDoorProg
import Derived.WalkKit
import Derived.LaidEql
import Derived.BigQuiet
import Derived.Laws.AppendOwnNone
import Derived.Laws.MakeOwn
import Derived.Deep.RegionLaw
import Derived.Lib.Bytes
import Derived.Deep.MidRow
import Derived.Laws.ResultCell
import Derived.Deep.CutBlock
import Derived.Deep.QuietTactic
import Derived.OwnWalk
import Derived.Deep.RegionHeld3
import Derived.Deep.DrawnRows
import Derived.Maps.AppendAt
import Derived.Laws.StructEq
import Derived.Maps.RangeWalk
import Derived.Stop.Asserts
import Derived.RowKitTokens
import Derived.Test.YtkhahbghmdccaaaGreatDoorShelf
import Derived.Shelf.Abstract
import Derived.Lib.SliceRun
import Derived.Lib.AppendZerosOnto
import Derived.Lib.AppendZeros
import Derived.Laws.CopyOwn
import Derived.RangeFuncNested
import Derived.RangeFuncBound
import Derived.RangeFuncCalls
import Derived.RangeFuncLeaves
import Derived.RangeFuncFrom
import Derived.Shelf.RegionOpen
import Derived.OwnWalkIn
import Derived.TacticsInMore
import Derived.LoopNIn
import Derived.LoopIn
import Derived.Deep.RegionWith
import Derived.ArgAppend
import Derived.Lib.SlBytesConst
import Derived.Lib.AppendStr
import Derived.Test.YtkhahbghmdccaaaGreatDoorR15
import Derived.Deep.Slices
import Derived.ChangeArms
import Derived.WideShapes
import Derived.Test.YtkhahbghmdccaaaGreatDoorR31
namespace Go.Proofs.YtkhahbghmdccaaaGreatDoor
open Go.RowKit
def GH (w : World) (G : Nat) (g : GS) (O : Nat → Prop) (W : World) : Prop := ∃ a cap tv S Ot β, O = GO G a Ot (SO S β g.ss) ∧ OG w G a cap tv S Ot β g W
theorem GH.kept {w : World} {G : Nat} {g : GS} {O : Nat → Prop} {W W' : World} (h : GH w G g O W) (hb : Below W.heap.size W W') : GH w G g O W' := by
  obtain ⟨a, cap, tv, S, Ot, β, e, h⟩ := h
  exact ⟨a, cap, tv, S, Ot, β, e, h.kept hb⟩
theorem GH.lt {w : World} {G : Nat} {g : GS} {O : Nat → Prop} {W : World} (h : GH w G g O W) {k : Nat} (hk : O k) : k < W.heap.size := by
  obtain ⟨a, cap, tv, S, Ot, β, rfl, h⟩ := h
  exact h.1.lt hk
theorem GH.below {w : World} {G : Nat} {g : GS} {O : Nat → Prop} {W : World} (h : GH w G g O W) : Below w.heap.size w W := by
  obtain ⟨a, cap, tv, S, Ot, β, rfl, h⟩ := h
  exact h.2.2
def GN (w : World) (G : Nat) (g' : GS) (O : Nat → Prop) (W W' : World) : Prop := ∃ O', GH w G g' O' W' ∧ (∀ k, O' k → O k ∨ W.heap.size ≤ k) ∧ Kpt O W W'
theorem GH.call {w : World} {G : Nat} {g g' : GS} {O : Nat → Prop} {W : World} (h : GH w G g O W) {F : Nat} {xs : Array Value} {R : Ending → World → Prop}
    (hc : ∀ a cap tv S Ot β, GC G a cap tv S Ot β g W → Calls Tryz.prog F xs W fun e w' => R e w' ∧ GQ W G a cap tv S Ot β g g' w') :
    Calls Tryz.prog F xs W fun e w' => R e w' ∧ GN w G g' O W w' := by
  obtain ⟨a, cap, tv, S, Ot, β, rfl, h⟩ := h
  refine (hc a cap tv S Ot β h.1).mono ?_
  rintro e w' ⟨hR, Ot', β', q1, q2, q3⟩
  have hs := h.2.2.size
  exact ⟨hR, _, ⟨a, cap, tv, S, Ot', β', rfl, q1, fun k hk => (q3 k hk).elim (h.2.1 k) (fun h => by omega), q2.below h.2.2 h.2.1 hs⟩, q3, q2⟩
theorem NG.gh {w W w' : World} {c : List Int} {inj : Bool} {bk : List (List Int)} {m : Nat} {e : Ending} (h : NG W c inj bk m e w') (hb : Below w.heap.size w W) : ∃ G O, e = .returned (.tuple #[.pointer (some ⟨G, 0, none⟩), .nilIface]) ∧ GH w G (gz0 c inj bk m) O w' ∧ (∀ k, O k → W.heap.size ≤ k) ∧ Below W.heap.size W w' := by
  obtain ⟨G, a, cap, tv, S, Ot, e1, e2, e3, e4⟩ := h
  exact ⟨G, _, e1, ⟨a, cap, tv, S, Ot, _, rfl, e2, fun k hk => Nat.le_trans hb.size (e3 k hk), bt hb e4⟩, e3, e4⟩
end Go.Proofs.YtkhahbghmdccaaaGreatDoor

namespace Go.Proofs.YtkhahbghmdccaaaGreatDoor
open Go.RowKit
theorem pick_any (c : Int) (n : Nat) (hc : I64 c) (hn : 0 < n) (hm : n ≤ 1000) : ∃ k : Nat, k < n ∧ ∀ w : World, Calls Tryz.prog 27 #[.int .i64 c, .int .i64 n] w fun e w' => e = .returned (.int .i64 k) ∧ w' = w := by
  obtain ⟨h1, h2⟩ := hc
  have hn' : (n : Int) ≤ 1000 := by omega
  have hn0 : (0 : Int) < (n : Int) := by omega
  have hnz : ¬ (n : Int) = 0 := by omega
  by_cases h : c < 0
  · have hd := Int.emod_nonneg (-(c + 1)) hnz
    have hl := Int.emod_lt_of_pos (-(c + 1)) hn0
    obtain ⟨k, hk⟩ : ∃ k : Nat, (-(c + 1)) % (n : Int) = k := ⟨((-(c + 1)) % (n : Int)).toNat, by omega⟩
    refine ⟨k, by omega, fun w => ?_⟩
    have q : (-(c + 1)).tmod (n : Int) = (k : Int) := by rw [Int.tmod_eq_emod_of_nonneg (by omega)]; exact hk
    have q1 : IntKind.i64.wrap (c + 1) = c + 1 := by rw [IntKind.wrap_i64]; omega
    have q2 : IntKind.i64.wrap (-(c + 1)) = -(c + 1) := by rw [IntKind.wrap_i64]; omega
    clear hd hl
    have HK := hide hk
    clear hk
    go_enter Tryz.func27, Tryz.ntmps27
    go_wp2
    go_ret
    exact ⟨by first | rfl | (rw [← HK.out]; rfl) | (rw [← HK.out]; simp) | (simp [q]), rfl⟩
  · have h0 : 0 ≤ c := by omega
    have hd := Int.emod_nonneg c hnz
    have hl := Int.emod_lt_of_pos c hn0
    obtain ⟨k, hk⟩ : ∃ k : Nat, c % (n : Int) = k := ⟨(c % (n : Int)).toNat, by omega⟩
    refine ⟨k, by omega, fun w => ?_⟩
    have q : c.tmod (n : Int) = (k : Int) := by rw [Int.tmod_eq_emod_of_nonneg h0]; exact hk
    clear hd hl
    have HK := hide hk
    clear hk
    go_enter Tryz.func27, Tryz.ntmps27
    go_wp2
    go_ret
    exact ⟨by first | rfl | (rw [← HK.out]; rfl) | (rw [← HK.out]; simp) | (simp [q]), rfl⟩
end Go.Proofs.YtkhahbghmdccaaaGreatDoor

namespace Go.Proofs.YtkhahbghmdccaaaGreatDoor
open Go.RowKit
set_option linter.unusedVariables false
theorem in6_gh {g : GS} (hg : IG g) (zs : List Int) : ∀ w G O W b l k, GH w G g O W → Row8 W b l k zs → l ≤ k → k ≤ maxLen → Calls Tryz.prog 21 #[.pointer (some ⟨G, 0, none⟩), .slice b l k] W fun e w' => (∃ a2 l2 c2, e = .returned (.tuple #[.slice a2 l2 c2, ev (g6 g zs).1]) ∧ Row8 w' a2 l2 c2 (g6 g zs).2.1 ∧ l2 ≤ c2 ∧ c2 ≤ maxLen) ∧ GN w G (g6 g zs).2.2 O W w' :=
  fun w G O W b l k h r e1 e2 => h.call (R := fun e w' => ∃ a2 l2 c2, e = .returned (.tuple #[.slice a2 l2 c2, ev (g6 g zs).1]) ∧ Row8 w' a2 l2 c2 (g6 g zs).2.1 ∧ l2 ≤ c2 ∧ c2 ≤ maxLen) fun a cap tv S Ot β hG => (in6_any G a cap tv S Ot β g b l k zs W hG hg.1 hg.2.1 hg.2.2 r e1 e2).mono fun e w' ⟨a2, l2, c2, e3, e4, e5⟩ => ⟨⟨a2, l2, c2, e3, e4⟩, e5⟩
end Go.Proofs.YtkhahbghmdccaaaGreatDoor

namespace Go.Proofs.YtkhahbghmdccaaaGreatDoor
open Go.RowKit
set_option linter.unusedVariables false
theorem sgo_sub (gone : List (List Int)) : ∀ {ss : List (Int × List Int × Int × Bool × Bool)} {x : Int × List Int × Int × Bool × Bool}, x ∈ sgo gone ss → x ∈ ss := by
  unfold sgo
  induction gone with
  | nil => exact fun h => h
  | cons b r ih => exact fun h => (sdl_mem.1 (ih h)).1
theorem gtk_ig {g : GS} (h : IG g) (n : Int) : IG (gtk g n).2 := by
  unfold gtk
  split
  · rename_i hn
    obtain ⟨⟨t1, t2, t3, t4, t5⟩, hs, hc⟩ := h
    have he := t3.expire (g.now + n)
    refine ⟨⟨t1, Nat.le_trans he.2.1 t2, he.1, ?_, fun b hb => ?_⟩, fun x hx => hs x (sgo_sub _ hx), hc⟩
    · have ht := t4
      unfold tc at ht ⊢
      simp only [Bool.and_eq_true, decide_eq_true_eq] at ht ⊢
      show 0 ≤ g.now + n ∧ g.now + n ≤ _
      omega
    · have hb' : b ∈ (es (g.now + n) g.bs g.ts g.bs.length).2.1 := hb
      rw [(es_form (g.now + n) g.bs g.ts g.bs.length (Nat.le_refl _)).2.1, List.take_length] at hb'
      have := t5 b (List.mem_filter.1 hb').1
      show el b 22 ≤ g.now + n
      omega
  · exact h
theorem oks_set {bk : List (List Int)} (h : OKs bk) {i : Nat} (hi : i < bk.length) {y : List Int} (h1 : okb y = okb (bk.getD i [])) (h2 : el y 0 = el (bk.getD i []) 0) : OKs (bk.set i y) := by
  obtain ⟨k1, k2, k3⟩ := h
  refine ⟨by rw [List.length_set]; exact k1, fun b hb => ?_, ?_⟩
  · rcases List.mem_or_eq_of_mem_set hb with hb | rfl
    · exact k2 b hb
    · rw [h1, getD_at hi]
      exact k2 _ (List.getElem_mem hi)
  · have h4 : (bk.map (fun b => el b 0)).Pairwise (fun a b => a ≠ b) := List.pairwise_map.2 k3
    have h5 : (bk.set i y).map (fun b => el b 0) = bk.map (fun b => el b 0) := by
      apply List.ext_getElem?
      intro j
      rw [List.getElem?_map, List.getElem?_map, List.getElem?_set]
      by_cases h : i = j
      · subst h
        rw [if_pos rfl, if_pos hi, List.getElem?_eq_getElem hi]
        show some (el y 0) = some (el bk[i] 0)
        rw [h2, getD_at hi]
      · rw [if_neg h]
    rw [← h5] at h4
    exact List.pairwise_map.1 h4
theorem gmk_ig {g : GS} (h : IG g) (id : Int) {f : List Int → List Int} (h1 : ∀ x, okb (f x) = okb x) (h2 : ∀ x, el (f x) 0 = el x 0) : IG (gmk g id f).2 := by
  unfold gmk
  split
  · exact h
  · rename_i i hi
    exact ⟨h.1, h.2.1, h.2.2.1, h.2.2.2.1, h.2.2.2.2.1, h.2.2.2.2.2.1, oks_bf (oks_set (oks_of h.2.2.2.2.2.2) (svk_lt hi) (h1 _) (h2 _))⟩
theorem in4_gh {g : GS} (hg : IG g) (zs : List Int) : ∀ w G O W b l k, GH w G g O W → Row8 W b l k zs → l ≤ k → k ≤ maxLen → Calls Tryz.prog 24 #[.pointer (some ⟨G, 0, none⟩), .slice b l k] W fun e w' => (∃ a2 l2 c2, e = .returned (.tuple #[.slice a2 l2 c2, ev (g4 g zs).1]) ∧ Row8 w' a2 l2 c2 (g4 g zs).2.1 ∧ l2 ≤ c2 ∧ c2 ≤ maxLen) ∧ GN w G (g4 g zs).2.2 O W w' :=
  fun w G O W b l k h r e1 e2 => h.call (R := fun e w' => ∃ a2 l2 c2, e = .returned (.tuple #[.slice a2 l2 c2, ev (g4 g zs).1]) ∧ Row8 w' a2 l2 c2 (g4 g zs).2.1 ∧ l2 ≤ c2 ∧ c2 ≤ maxLen) fun a cap tv S Ot β hG => (in4_any G a cap tv S Ot β g b l k zs W hG hg.1 hg.2.1 r e1 e2).mono fun e w' ⟨a2, l2, c2, e3, e4, e5⟩ => ⟨⟨a2, l2, c2, e3, e4⟩, e5⟩
theorem tick_gh {g : GS} (hg : IG g) (n : Int) : ∀ w G O W, GH w G g O W → Calls Tryz.prog 33 #[.pointer (some ⟨G, 0, none⟩), .int .i64 n] W fun e w' => e = .returned (ev (gtk g n).1) ∧ GN w G (gtk g n).2 O W w' :=
  fun w G O W h => h.call (R := fun e _ => e = .returned (ev (gtk g n).1)) fun a cap tv S Ot β hG => gtick_any G a cap tv S Ot β g n W hG hg.1
theorem probe_gh {g : GS} (hl : g.bk.length ≤ 1000) (id : Int) (u : Bool) : ∀ w G O W, GH w G g O W → Calls Tryz.prog 58 #[.pointer (some ⟨G, 0, none⟩), .int .i64 id, .bool u] W fun e w' => e = .returned (ev (gmk g id (fun x => bup x u)).1) ∧ GN w G (gmk g id (fun x => bup x u)).2 O W w' :=
  fun w G O W h => h.call (R := fun e _ => e = .returned (ev (gmk g id (fun x => bup x u)).1)) fun a cap tv S Ot β hG => probe_any G a cap tv S Ot β g id u W hG hl
theorem drain_gh {g : GS} (hl : g.bk.length ≤ 1000) (id : Int) (u : Bool) : ∀ w G O W, GH w G g O W → Calls Tryz.prog 59 #[.pointer (some ⟨G, 0, none⟩), .int .i64 id, .bool u] W fun e w' => e = .returned (ev (gmk g id (fun x => bdr x u)).1) ∧ GN w G (gmk g id (fun x => bdr x u)).2 O W w' :=
  fun w G O W h => h.call (R := fun e _ => e = .returned (ev (gmk g id (fun x => bdr x u)).1)) fun a cap tv S Ot β hG => drain_any G a cap tv S Ot β g id u W hG hl
end Go.Proofs.YtkhahbghmdccaaaGreatDoor

namespace Go.Proofs.YtkhahbghmdccaaaGreatDoor
open Go.RowKit
set_option linter.unusedVariables false
theorem SgIn.put {B : Nat} {z : List Int} {a : Option Addr} {len cap : Nat} {w : World} (p : SgIn B z a len cap w) (j : Nat) (hj : j < 7) (v : Int) : SgIn B ((z7 z).set j v) a len cap (w.setCell ⟨B, j, none⟩ (.int .i64 v)) ∧ Only B w (w.setCell ⟨B, j, none⟩ (.int .i64 v)) := by
  rw [setCell_eq_setRow w B j _ _ (0, 0) _ p]
  have h := setRow_heap w B _ ((sgC z a len cap).setIfInBounds j (.int .i64 v)) _ (0, 0) p
  refine ⟨?_, only_setRow _ _ _⟩
  rcases (by omega : j = 0 ∨ j = 1 ∨ j = 2 ∨ j = 3 ∨ j = 4 ∨ j = 5 ∨ j = 6) with rfl | rfl | rfl | rfl | rfl | rfl | rfl <;> exact h
def ans (z b : List Int) : List Int := if el b 0 = 17 then [17, el b 21, el b 19, 0, 0, 0, 0] else [el b 0, el b 21, el b 19, el z 3, el z 4, el z 5, el z 6]
attribute [local go_sem ↓] gload_shut hload_shut bload_shut
set_option maxRecDepth 100000 in
set_option maxHeartbeats 4000000 in
theorem ls5_no (ba : Option Addr) (bl bc : Nat) (z : List Int) (a : Option Addr) (len cap : Nat) (s d : List Int) (hop n : Int) (is : Bool) (c : List Int) (inj : Bool) (ka : Option Addr) (kn kc : Nat) (ga : Option Addr) (gn gc : Nat) (w : World) (h : gn = 0 ∨ (0 < gn ∧ hop < 0) ∨ (0 < gn ∧ ¬ hop < 0 ∧ 255 < hop)) :
    Calls Tryz.prog 14 #[.agg (stC3 5 ba bl bc z a len cap s d hop n is), .agg (cfC c inj ka kn kc), .slice ga gn gc] w fun e w' => e = .returned (.slice none 0 0) ∧ Below w.heap.size w w' := by
  have HK := hide (Ks3.start w 5 ba bl bc z a len cap s d hop n is c inj ka kn kc)
  have HZ7 := hide (fun W => zero_new W)
  unfold zero7 at HZ7
  have HH := hide h
  clear h
  go_enter Tryz.func14, Tryz.ntmps14
  go_upto_region 1 with fail
  generalize (World.alloc _ _).alloc _ = W0 at HK ⊢
  have q0 := HK.out.1.what
  have q2 := HK.out.1.gl
  have HZs := hide (HZ7.out W0)
  go_upto_region 3 with (refine at_store rfl (.tmp 7) (.tmp 10) rfl rfl HZs.out z a len cap rfl ?_; intro w3 p3 on3; replace HK := hide (HK.out.kept (new_below _ on3)); clear p3 on3 q0 q2; have q0 := HK.out.1.what)
  clear q0 HZs
  have q1 := HK.out.1.hop
  rcases HH.out with rfl | ⟨h0, h1⟩ | ⟨h0, h1, h2⟩
  · clear HH
    go_wp2
    go_ret
    exact ⟨rfl, HK.out.2.2⟩
  · have hn : ¬ (gn : Int) = 0 := by omega
    clear HH
    go_wp2
    go_ret
    exact ⟨rfl, HK.out.2.2⟩
  · have hn : ¬ (gn : Int) = 0 := by omega
    clear HH
    go_wp2
    go_ret
    exact ⟨rfl, HK.out.2.2⟩
end Go.Proofs.YtkhahbghmdccaaaGreatDoor

namespace Go.Proofs.YtkhahbghmdccaaaGreatDoor
open Go.RowKit
set_option linter.unusedVariables false
theorem Ks3.only {w : World} {wh : Int} {ba : Option Addr} {bl bc : Nat} {z : List Int} {a : Option Addr} {len cap : Nat} {s d : List Int} {hop n : Int} {is : Bool} {c : List Int} {inj : Bool} {ka : Option Addr} {kn kc : Nat} {W W' : World} {B : Nat} (h : Ks3 w wh ba bl bc z a len cap s d hop n is c inj ka kn kc W) (on : Only B W W') (hB : w.heap.size + 1 < B) : Ks3 w wh ba bl bc z a len cap s d hop n is c inj ka kn kc W' := ⟨(on.2.2.2.2 _ (by omega)).trans h.1, (on.2.2.2.2 _ (by omega)).trans h.2.1, on.below h.2.2 (by omega)⟩
attribute [local go_sem ↓] gload_shut hload_shut bload_shut
set_option maxRecDepth 100000 in
set_option maxHeartbeats 8000000 in
theorem ls5_yes (ba : Option Addr) (bl bc : Nat) (z : List Int) (a : Option Addr) (cap : Nat) (s d : List Int) (hop n : Int) (is : Bool) (c : List Int) (inj : Bool) (ka : Option Addr) (kn kc : Nat) (ga go : Nat) (gn gc : Nat) (D b Y : List Int) (i : Nat) (w : World) (hn : 0 < gn) (hm : gn ≤ 128) (hi : i < gn) (h0 : ¬ hop < 0) (h1 : ¬ 255 < hop) (hr : Row8 w a D.length cap D)
    (hP : ∀ W, Calls Tryz.prog 27 #[.int .i64 n, .int .i64 gn] W fun e w' => e = .returned (.int .i64 i) ∧ w' = W)
    (hb : w.rangeAt ga (go + i * 23) (bdC b).toList)
    (hY : (sf (ans z b) D.length ≠ 0 ∧ Y = []) ∨ (sf (ans z b) D.length = 0 ∧ 0 < Y.length ∧ ∃ (k : Int) (N : Nat) (E : List Int), (∀ W a c', Row8 W a D.length c' D → Calls Tryz.prog 29 #[.agg (sgC (ans z b) a D.length c'), .int .i64 (el b 20), .int .i64 (el c 18), .int .i64 hop] W fun e w' => ∃ a1 c1, e = .returned ((.agg #[.int .i64 (el b 20), .int .i64 (el c 18), .int .i64 hop, .int .i64 k, .int .i64 0, .slice a1 N c1])) ∧ Row8 w' a1 N c1 E ∧ Below W.heap.size W w') ∧ (∀ W a1 c1, Row8 W a1 N c1 E → Calls Tryz.prog 28 #[.agg #[.int .i64 (el b 20), .int .i64 (el c 18), .int .i64 hop, .int .i64 k, .int .i64 0, .slice a1 N c1]] W fun e w' => ∃ v, e = .returned v ∧ Own W.heap.size w' v Y ∧ Below W.heap.size W w'))) :
    Calls Tryz.prog 14 #[.agg (stC3 5 ba bl bc z a D.length cap s d hop n is), .agg (cfC c inj ka kn kc), .slice (some ⟨ga, go, none⟩) gn gc] w fun e w' => ∃ b l k, e = .returned (.slice b l k) ∧ (Row8 w' b l k Y ∧ l ≤ k ∧ k ≤ maxLen) ∧ Below w.heap.size w w' := by
  have HK := hide (Ks3.start w 5 ba bl bc z a D.length cap s d hop n is c inj ka kn kc)
  have HZ7 := hide (fun W => zero_new W)
  have HZb := hide (fun W => bd_zero W)
  have HF := hide (fun z' W => rfault_any z' a D.length cap W hr.2.1)
  have HR := hide hr
  have HP := hide hP
  have HBr := hide hb
  have HY := hide hY
  have j1 : (i : Int) < (gn : Int) := by omega
  have j2 : (gn : Int) ≤ 128 := by omega
  have j3 : ¬ (gn : Int) = 0 := by omega
  unfold zero7 at HZ7
  unfold zero23 at HZb
  clear hr hP hb hY hn hm hi
  go_enter Tryz.func14, Tryz.ntmps14
  go_upto_region 1 with fail
  generalize (World.alloc _ _).alloc _ = W0 at HK ⊢
  have q0 := HK.out.1.what
  have q2 := HK.out.1.gl
  have HZs := hide (HZ7.out W0)
  go_upto_region 3 with (refine at_store rfl (.tmp 7) (.tmp 10) rfl rfl HZs.out z a D.length cap rfl ?_; intro w3 p3 on3; have HS := hide p3; have HL := hide (show w.heap.size + 1 < W0.heap.size from HK.out.2.1.lt); replace HK := hide (HK.out.kept (new_below _ on3)); clear p3 on3 q0 q2; have q0 := HK.out.1.what)
  clear q0 HZs
  generalize W0.heap.size = B at HS HL ⊢
  have q1 := HK.out.1.hop
  go_upto_region 5 with fail
  clear q1
  have q1 := HK.out.1.num
  have q2 := row_bl (show w3.rangeAt ga (go + i * 23) (bdC b).toList from fun j v hv => by have hc := HBr.out j v hv; rw [HK.out.2.2.cell (p := ⟨ga, go + i * 23 + j, none⟩) (cell_lt hc)]; exact hc)
  go_upto_region 6 with (first
    | (go_at_call 27; refine (HP.out _).mono ?_; rintro e w4 ⟨rfl, rfl⟩; have HZ := hide (HZb.out w4))
    | (refine at_storeb rfl (.tmp 8) (.tmp 34) rfl rfl HZ.out b rfl ?_; intro w5 p5 on5; have HB := hide p5; have HLb := hide (show B < w4.heap.size from HS.out.lt); replace HK := hide (HK.out.kept (new_below _ on5)); replace HS := hide (HS.out.kept (new_below _ on5)); clear p5 on5))
  clear HZ q1 q2
  generalize w4.heap.size = Bb at HB HLb ⊢
  have c0 := HS.out.c0
  have f0 := HS.out.frz 0
  have d0 := HB.out.cell 0 (by omega)
  obtain ⟨p, on⟩ := HS.out.put 0 (by omega) (el b 0)
  have HS1 := hide (show SgIn B [el b 0, el z 1, el z 2, el z 3, el z 4, el z 5, el z 6] a D.length cap _ from p)
  have HK1 := hide (HK.out.only on HL.out)
  have HB1 := hide (show BdIn Bb b _ from (on.2.2.2.2 _ (by have := HLb.out; omega)).trans HB.out)
  clear p on
  go_upto_region 7 with fail
  clear c0 f0 d0 HS HK HB
  generalize World.setCell _ _ _ = W10 at HS1 HK1 HB1 ⊢
  have HS := HS1
  have HK := HK1
  have HB := HB1
  clear HS1 HK1 HB1
  have c1 := HS.out.c1
  have f1 := HS.out.frz 1
  have d1 := HB.out.cell 21 (by omega)
  obtain ⟨p, on⟩ := HS.out.put 1 (by omega) (el b 21)
  have HS1 := hide (show SgIn B [el b 0, el b 21, el z 2, el z 3, el z 4, el z 5, el z 6] a D.length cap _ from p)
  have HK1 := hide (HK.out.only on HL.out)
  have HB1 := hide (show BdIn Bb b _ from (on.2.2.2.2 _ (by have := HLb.out; omega)).trans HB.out)
  clear p on
  go_upto_region 8 with fail
  clear c1 f1 d1 HS HK HB
  generalize World.setCell _ _ _ = W11 at HS1 HK1 HB1 ⊢
  have HS := HS1
  have HK := HK1
  have HB := HB1
  clear HS1 HK1 HB1
  have c2 := HS.out.c2
  have f2 := HS.out.frz 2
  have d2 := HB.out.cell 19 (by omega)
  obtain ⟨p, on⟩ := HS.out.put 2 (by omega) (el b 19)
  have HS1 := hide (show SgIn B [el b 0, el b 21, el b 19, el z 3, el z 4, el z 5, el z 6] a D.length cap _ from p)
  have HK1 := hide (HK.out.only on HL.out)
  have HB1 := hide (show BdIn Bb b _ from (on.2.2.2.2 _ (by have := HLb.out; omega)).trans HB.out)
  clear p on
  go_upto_region 9 with fail
  clear c2 f2 d2 HS HK HB
  generalize World.setCell _ _ _ = W12 at HS1 HK1 HB1 ⊢
  have HS := HS1
  have HK := HK1
  have HB := HB1
  clear HS1 HK1 HB1
  have q3 := HB.out.cell 0 (by omega)
  by_cases h17 : el b 0 = 17
  case pos =>
    rw [h17] at q3 HS
    go_upto_region 10 with fail
    clear q3
    have c3 := HS.out.c3
    have f3 := HS.out.frz 3
    obtain ⟨p, on⟩ := HS.out.put 3 (by omega) (0)
    have HS1 := hide (show SgIn B [17, el b 21, el b 19, 0, el z 4, el z 5, el z 6] a D.length cap _ from p)
    have HK1 := hide (HK.out.only on HL.out)
    have HB1 := hide (show BdIn Bb b _ from (on.2.2.2.2 _ (by have := HLb.out; omega)).trans HB.out)
    clear p on
    go_upto_region 11 with fail
    clear c3 f3 HS HK HB
    generalize World.setCell _ _ _ = W13 at HS1 HK1 HB1 ⊢
    have HS := HS1
    have HK := HK1
    have HB := HB1
    clear HS1 HK1 HB1
    have c4 := HS.out.c4
    have f4 := HS.out.frz 4
    obtain ⟨p, on⟩ := HS.out.put 4 (by omega) (0)
    have HS1 := hide (show SgIn B [17, el b 21, el b 19, 0, 0, el z 5, el z 6] a D.length cap _ from p)
    have HK1 := hide (HK.out.only on HL.out)
    have HB1 := hide (show BdIn Bb b _ from (on.2.2.2.2 _ (by have := HLb.out; omega)).trans HB.out)
    clear p on
    go_upto_region 12 with fail
    clear c4 f4 HS HK HB
    generalize World.setCell _ _ _ = W14 at HS1 HK1 HB1 ⊢
    have HS := HS1
    have HK := HK1
    have HB := HB1
    clear HS1 HK1 HB1
    have c5 := HS.out.c5
    have f5 := HS.out.frz 5
    obtain ⟨p, on⟩ := HS.out.put 5 (by omega) (0)
    have HS1 := hide (show SgIn B [17, el b 21, el b 19, 0, 0, 0, el z 6] a D.length cap _ from p)
    have HK1 := hide (HK.out.only on HL.out)
    have HB1 := hide (show BdIn Bb b _ from (on.2.2.2.2 _ (by have := HLb.out; omega)).trans HB.out)
    clear p on
    go_upto_region 13 with fail
    clear c5 f5 HS HK HB
    generalize World.setCell _ _ _ = W15 at HS1 HK1 HB1 ⊢
    have HS := HS1
    have HK := HK1
    have HB := HB1
    clear HS1 HK1 HB1
    have c6 := HS.out.c6
    have f6 := HS.out.frz 6
    obtain ⟨p, on⟩ := HS.out.put 6 (by omega) (0)
    have HS1 := hide (show SgIn B [17, el b 21, el b 19, 0, 0, 0, 0] a D.length cap _ from p)
    have HK1 := hide (HK.out.only on HL.out)
    have HB1 := hide (show BdIn Bb b _ from (on.2.2.2.2 _ (by have := HLb.out; omega)).trans HB.out)
    clear p on
    go_upto_region 14 with fail
    clear c6 f6 HS HK HB
    generalize World.setCell _ _ _ = W16 at HS1 HK1 HB1 ⊢
    have HS := HS1
    have HK := HK1
    have HB := HB1
    clear HS1 HK1 HB1
    have HA := hide (show SgIn B (ans z b) a D.length cap _ by unfold ans; rw [if_pos h17]; exact HS.out)
    clear HS
    have q3 := HA.out.gl
    rcases HY.out with ⟨hs, rfl⟩ | ⟨hs, hpos, k', N, E, hPk, hEn⟩
    · have HFz := hide (fun W => HF.out (ans z b) W)
      generalize sf (ans z b) D.length = e0 at HFz hs
      clear HY
      go_wp2_with (go_at_call 57; refine (HFz.out _).mono ?_; rintro e w8 ⟨rfl, hb8⟩; replace HK := hide (HK.out.kept hb8); clear hb8)
      go_ret
      exact ⟨none, 0, 0, rfl, ⟨gt_no _, Nat.le_refl _, Nat.zero_le _⟩, HK.out.2.2⟩
    · have HFz := hide (fun W => HF.out (ans z b) W)
      rw [hs] at HFz
      have HPk := hide hPk
      have HEn := hide hEn
      have HPs := hide hpos
      clear HY hs hPk hEn hpos
      go_upto_region 16 with (go_at_call 57; refine (HFz.out _).mono ?_; rintro e w8 ⟨rfl, hb8⟩; replace HK := hide (HK.out.kept hb8); replace HA := hide (HA.out.kept hb8); replace HB := hide (HB.out.kept hb8); clear hb8 q3)
      have q3 := HA.out.gl
      have q4 := HB.out.cell 20 (by omega)
      have q5 := HK.out.2.1.c18
      have q6 := HK.out.1.hop
      go_wp2_with (first
        | (go_at_call 29; refine (HPk.out _ _ _ (HR.out.below HK.out.2.2)).mono ?_; rintro e w9 ⟨a9, c9, rfl, r9, hb9⟩; have HR9 := hide r9; replace HK := hide (HK.out.kept hb9); clear hb9 r9 q3 q4 q5 q6)
        | (go_at_call 28; refine (HEn.out _ _ _ HR9.out).mono ?_; rintro e wa ⟨va, rfl, oa, hba⟩; obtain ⟨ga', ka', rfl, e1, e2, -, -, ra⟩ := oa.form HPs.out; have HRa := hide (And.intro ra (And.intro e1 e2)); replace HK := hide (HK.out.kept hba); clear oa hba e1 e2 ra))
      go_ret
      exact ⟨_, _, _, rfl, HRa.out, HK.out.2.2⟩
  case neg =>
    go_upto_region 14 with fail
    clear q3
    have HA := hide (show SgIn B (ans z b) a D.length cap _ by unfold ans; rw [if_neg h17]; exact HS.out)
    clear HS
    have q3 := HA.out.gl
    rcases HY.out with ⟨hs, rfl⟩ | ⟨hs, hpos, k', N, E, hPk, hEn⟩
    · have HFz := hide (fun W => HF.out (ans z b) W)
      generalize sf (ans z b) D.length = e0 at HFz hs
      clear HY
      go_wp2_with (go_at_call 57; refine (HFz.out _).mono ?_; rintro e w8 ⟨rfl, hb8⟩; replace HK := hide (HK.out.kept hb8); clear hb8)
      go_ret
      exact ⟨none, 0, 0, rfl, ⟨gt_no _, Nat.le_refl _, Nat.zero_le _⟩, HK.out.2.2⟩
    · have HFz := hide (fun W => HF.out (ans z b) W)
      rw [hs] at HFz
      have HPk := hide hPk
      have HEn := hide hEn
      have HPs := hide hpos
      clear HY hs hPk hEn hpos
      go_upto_region 16 with (go_at_call 57; refine (HFz.out _).mono ?_; rintro e w8 ⟨rfl, hb8⟩; replace HK := hide (HK.out.kept hb8); replace HA := hide (HA.out.kept hb8); replace HB := hide (HB.out.kept hb8); clear hb8 q3)
      have q3 := HA.out.gl
      have q4 := HB.out.cell 20 (by omega)
      have q5 := HK.out.2.1.c18
      have q6 := HK.out.1.hop
      go_wp2_with (first
        | (go_at_call 29; refine (HPk.out _ _ _ (HR.out.below HK.out.2.2)).mono ?_; rintro e w9 ⟨a9, c9, rfl, r9, hb9⟩; have HR9 := hide r9; replace HK := hide (HK.out.kept hb9); clear hb9 r9 q3 q4 q5 q6)
        | (go_at_call 28; refine (HEn.out _ _ _ HR9.out).mono ?_; rintro e wa ⟨va, rfl, oa, hba⟩; obtain ⟨ga', ka', rfl, e1, e2, -, -, ra⟩ := oa.form HPs.out; have HRa := hide (And.intro ra (And.intro e1 e2)); replace HK := hide (HK.out.kept hba); clear oa hba e1 e2 ra))
      go_ret
      exact ⟨_, _, _, rfl, HRa.out, HK.out.2.2⟩
end Go.Proofs.YtkhahbghmdccaaaGreatDoor

namespace Go.Proofs.YtkhahbghmdccaaaGreatDoor
open Go.RowKit
set_option linter.unusedVariables false
theorem lsent5 (ba : Option Addr) (bl bc : Nat) (z : List Int) (a : Option Addr) (len cap : Nat) (s d : List Int) (hop n : Int) (is : Bool) (c : List Int) (inj : Bool) (ka : Option Addr) (kn kc : Nat) (bs : List (List Int)) (D : List Int) (hl : D.length = len) (hn : I64 n) (h128 : bs.length ≤ 128) (hc : up 4294967295 (el c 18) = true) (hb : ∀ b ∈ bs, fr (el b 20) = true) :
    ∃ zs : List Int, ∀ W v, BdRow 0 W v bs → Row8 W a len cap D → Calls Tryz.prog 14 #[.agg (stC3 5 ba bl bc z a len cap s d hop n is), .agg (cfC c inj ka kn kc), v] W fun e w' => ∃ b l k, e = .returned (.slice b l k) ∧ (Row8 w' b l k zs ∧ l ≤ k ∧ k ≤ maxLen) ∧ Below W.heap.size W w' := by
  subst hl
  by_cases hno : bs.length = 0 ∨ (0 < bs.length ∧ hop < 0) ∨ (0 < bs.length ∧ ¬ hop < 0 ∧ 255 < hop)
  · refine ⟨[], fun W v hv hr => ?_⟩
    obtain ⟨ga, gc, rfl, -⟩ := hv
    exact (ls5_no ba bl bc z a D.length cap s d hop n is c inj ka kn kc ga bs.length gc W hno).mono fun e w' ⟨e1, e2⟩ => ⟨none, 0, 0, e1, ⟨gt_no _, Nat.le_refl _, Nat.zero_le _⟩, e2⟩
  · have hpos : 0 < bs.length := Nat.pos_of_ne_zero fun e => hno (.inl e)
    have h0 : ¬ hop < 0 := fun e => hno (.inr (.inl ⟨hpos, e⟩))
    have h1 : ¬ 255 < hop := fun e => hno (.inr (.inr ⟨hpos, h0, e⟩))
    obtain ⟨i, hi, hP⟩ := pick_any n bs.length hn hpos (by omega)
    obtain ⟨b, hbe⟩ : ∃ b, b = bs.getD i [] := ⟨_, rfl⟩
    have hbm : b ∈ bs := by rw [hbe]; exact mem_getD hi
    have hu : up 4294967295 (el b 20) = true := by
      have h := hb b hbm
      unfold fr at h
      rw [Bool.and_eq_true, decide_eq_true_eq, decide_eq_true_eq] at h
      exact decide_eq_true h
    have ht : up 255 hop = true := decide_eq_true (by omega)
    by_cases hs : sf (ans z b) D.length = 0
    · obtain ⟨k, N, E, hPk, hEn⟩ := pk4_bundle hu hc ht ((sf_iff _ _).1 hs)
      refine ⟨p4o (el b 20) (el c 18) hop (ans z b) D, fun W v hv hr => ?_⟩
      obtain ⟨ga, gc, rfl, hx⟩ := hv
      obtain ⟨g, off, rfl, -, hx⟩ := hx hpos
      exact ls5_yes ba bl bc z a cap s d hop n is c inj ka kn kc g off bs.length gc D b _ i W hpos h128 hi h0 h1 hr hP (by rw [hbe]; exact hx i hi) (.inr ⟨hs, p4o_len, k, N, E, hPk, hEn⟩)
    · refine ⟨[], fun W v hv hr => ?_⟩
      obtain ⟨ga, gc, rfl, hx⟩ := hv
      obtain ⟨g, off, rfl, -, hx⟩ := hx hpos
      exact ls5_yes ba bl bc z a cap s d hop n is c inj ka kn kc g off bs.length gc D b [] i W hpos h128 hi h0 h1 hr hP (by rw [hbe]; exact hx i hi) (.inl ⟨hs, rfl⟩)
end Go.Proofs.YtkhahbghmdccaaaGreatDoor

namespace Go.Proofs.YtkhahbghmdccaaaGreatDoor
open Go.RowKit
set_option linter.unusedVariables false
def stl (x : Value) : Sem Value := Instr.loadAt 41 x
theorem stl_shut (x : Value) : Instr.loadAt 41 x = stl x := rfl
theorem StIn3.sl {B : Nat} {wh : Int} {ba : Option Addr} {bl bc : Nat} {z : List Int} {a : Option Addr} {len cap : Nat} {s d : List Int} {hop n : Int} {is : Bool} {w : World} (p : StIn3 B wh ba bl bc z a len cap s d hop n is w) : (stl (.pointer (some ⟨B, 0, none⟩))).run Tryz.prog w = .ok (.agg (stC3 wh ba bl bc z a len cap s d hop n is)) w :=
  run_loadAt_mid w B 0 41 (stC3 wh ba bl bc z a len cap s d hop n is).toList _ (fun j v hv => by
    rw [Nat.zero_add, p.cellAt]
    simpa using hv) Tryz.underlying41 rfl (by kernel_rfl)
theorem GN.pre {w : World} {G : Nat} {g' : GS} {O : Nat → Prop} {W W1 W' : World} (h : GN w G g' O W1 W') (hb : Below W.heap.size W W1) : GN w G g' O W W' := by
  obtain ⟨O', h1, h2, h3⟩ := h
  have hs := hb.size
  exact ⟨O', h1, fun k hk => (h2 k hk).elim .inl (fun h => .inr (by omega)), Kpt.trans (Kpt.of hb) h3 (fun k hk => .inl hk)⟩
attribute [local go_sem ↓] stl_shut cload_shut
set_option maxRecDepth 100000 in
set_option maxHeartbeats 4000000 in
theorem play_a (G : Nat) (wh : Int) (ba : Option Addr) (bl bc : Nat) (z : List Int) (a : Option Addr) (len cap : Nat) (s d : List Int) (hop n : Int) (is : Bool) (c : List Int) (inj : Bool) (ka : Option Addr) (kn kc : Nat) (w : World) (R : World → Prop)
    (h : (wh = 0 ∧ ∀ W, Below w.heap.size w W → Calls Tryz.prog 21 #[.pointer (some ⟨G, 0, none⟩), .slice ba bl bc] W fun e w' => (∃ a2 l2 c2 v, e = .returned (.tuple #[.slice a2 l2 c2, v])) ∧ R w') ∨
      (wh = 1 ∧ ∀ W, Below w.heap.size w W → Calls Tryz.prog 24 #[.pointer (some ⟨G, 0, none⟩), .slice ba bl bc] W fun e w' => (∃ a2 l2 c2 v, e = .returned (.tuple #[.slice a2 l2 c2, v])) ∧ R w') ∨
      (wh = 2 ∧ ∀ W, Below w.heap.size w W → Calls Tryz.prog 33 #[.pointer (some ⟨G, 0, none⟩), .int .i64 n] W fun e w' => (∃ v, e = .returned v) ∧ R w') ∨
      (wh = 3 ∧ ∀ W, Below w.heap.size w W → Calls Tryz.prog 58 #[.pointer (some ⟨G, 0, none⟩), .int .i64 n, .bool is] W fun e w' => (∃ v, e = .returned v) ∧ R w') ∨
      (wh = 4 ∧ ∀ W, Below w.heap.size w W → Calls Tryz.prog 59 #[.pointer (some ⟨G, 0, none⟩), .int .i64 n, .bool is] W fun e w' => (∃ v, e = .returned v) ∧ R w')) :
    Calls Tryz.prog 15 #[.pointer (some ⟨G, 0, none⟩), .agg (stC3 wh ba bl bc z a len cap s d hop n is), .agg (cfC c inj ka kn kc)] w fun e w' => (∃ v, e = .returned v) ∧ R w' := by
  have HK := hide (Ks3.start w wh ba bl bc z a len cap s d hop n is c inj ka kn kc)
  rcases h with ⟨rfl, h⟩ | ⟨rfl, h⟩ | ⟨rfl, h⟩ | ⟨rfl, h⟩ | ⟨rfl, h⟩
  · have HC := hide h
    clear h
    go_enter Tryz.func15, Tryz.ntmps15
    go_upto_region 1 with fail
    generalize (World.alloc _ _).alloc _ = W0 at HK ⊢
    have q0 := HK.out.1.what
    have q1 := HK.out.1.bytes
    go_wp2_with (go_at_call 21; refine (HC.out _ HK.out.2.2).mono ?_; rintro e w1 ⟨⟨a2, l2, c2, v, rfl⟩, r1⟩; have HR := hide r1; clear r1)
    refine bodyPost_ret (results_tmp2 rfl _ _ _) rfl ?_
    exact ⟨⟨_, rfl⟩, HR.out⟩
  · have HC := hide h
    clear h
    go_enter Tryz.func15, Tryz.ntmps15
    go_upto_region 1 with fail
    generalize (World.alloc _ _).alloc _ = W0 at HK ⊢
    have q0 := HK.out.1.what
    have q1 := HK.out.1.bytes
    go_wp2_with (go_at_call 24; refine (HC.out _ HK.out.2.2).mono ?_; rintro e w1 ⟨⟨a2, l2, c2, v, rfl⟩, r1⟩; have HR := hide r1; clear r1)
    refine bodyPost_ret (results_tmp2 rfl _ _ _) rfl ?_
    exact ⟨⟨_, rfl⟩, HR.out⟩
  · have HC := hide h
    clear h
    go_enter Tryz.func15, Tryz.ntmps15
    go_upto_region 1 with fail
    generalize (World.alloc _ _).alloc _ = W0 at HK ⊢
    have q0 := HK.out.1.what
    have q1 := HK.out.1.num
    go_wp2_with (go_at_call 33; refine (HC.out _ HK.out.2.2).mono ?_; rintro e w1 ⟨⟨v, rfl⟩, r1⟩; have HR := hide r1; clear r1)
    refine bodyPost_ret (results_tmp2 rfl _ _ _) rfl ?_
    exact ⟨⟨_, rfl⟩, HR.out⟩
  · have HC := hide h
    clear h
    go_enter Tryz.func15, Tryz.ntmps15
    go_upto_region 1 with fail
    generalize (World.alloc _ _).alloc _ = W0 at HK ⊢
    have q0 := HK.out.1.what
    have q1 := HK.out.1.num
    have q2 := HK.out.1.is
    go_wp2_with (go_at_call 58; refine (HC.out _ HK.out.2.2).mono ?_; rintro e w1 ⟨⟨v, rfl⟩, r1⟩; have HR := hide r1; clear r1)
    refine bodyPost_ret (results_tmp2 rfl _ _ _) rfl ?_
    exact ⟨⟨_, rfl⟩, HR.out⟩
  · have HC := hide h
    clear h
    go_enter Tryz.func15, Tryz.ntmps15
    go_upto_region 1 with fail
    generalize (World.alloc _ _).alloc _ = W0 at HK ⊢
    have q0 := HK.out.1.what
    have q1 := HK.out.1.num
    have q2 := HK.out.1.is
    go_wp2_with (go_at_call 59; refine (HC.out _ HK.out.2.2).mono ?_; rintro e w1 ⟨⟨v, rfl⟩, r1⟩; have HR := hide r1; clear r1)
    refine bodyPost_ret (results_tmp2 rfl _ _ _) rfl ?_
    exact ⟨⟨_, rfl⟩, HR.out⟩
end Go.Proofs.YtkhahbghmdccaaaGreatDoor

namespace Go.Proofs.YtkhahbghmdccaaaGreatDoor
open Go.RowKit
set_option linter.unusedVariables false
attribute [local go_sem ↓] stl_shut cload_shut
set_option maxRecDepth 100000 in
set_option maxHeartbeats 4000000 in
theorem play_b (G : Nat) (wh : Int) (ba : Option Addr) (bl bc : Nat) (z : List Int) (a : Option Addr) (len cap : Nat) (s d : List Int) (hop n : Int) (is : Bool) (c : List Int) (inj : Bool) (ka : Option Addr) (kn kc : Nat) (w : World) (R : World → Prop) (zs : List Int) (h0 : (wh == 0) = false) (h1 : (wh == 1) = false) (h2 : (wh == 2) = false) (h3 : (wh == 3) = false) (h4 : (wh == 4) = false) (h5 : (wh == 5) = false)
    (hS : ∀ W, Below w.heap.size w W → Calls Tryz.prog 14 #[.agg (stC3 wh ba bl bc z a len cap s d hop n is), .agg (cfC c inj ka kn kc), .slice none 0 0] W fun e w' => ∃ b l k, e = .returned (.slice b l k) ∧ (Row8 w' b l k zs ∧ l ≤ k ∧ k ≤ maxLen) ∧ Below W.heap.size W w')
    (hC : ∀ W b l k, Below w.heap.size w W → Row8 W b l k zs → l ≤ k → k ≤ maxLen → Calls Tryz.prog 21 #[.pointer (some ⟨G, 0, none⟩), .slice b l k] W fun e w' => (∃ a2 l2 c2 v, e = .returned (.tuple #[.slice a2 l2 c2, v])) ∧ R w') :
    Calls Tryz.prog 15 #[.pointer (some ⟨G, 0, none⟩), .agg (stC3 wh ba bl bc z a len cap s d hop n is), .agg (cfC c inj ka kn kc)] w fun e w' => (∃ v, e = .returned v) ∧ R w' := by
  have HK := hide (Ks3.start w wh ba bl bc z a len cap s d hop n is c inj ka kn kc)
  have HS := hide hS
  have HC := hide hC
  clear hS hC
  go_enter Tryz.func15, Tryz.ntmps15
  go_upto_region 1 with fail
  generalize (World.alloc _ _).alloc _ = W0 at HK ⊢
  have q0 := HK.out.1.what
  go_upto_region 14 with fail
  clear q0
  have q1 := HK.out.1.sl
  have q2 := HK.out.2.1.cl
  go_wp2_with (first
    | (go_at_call 14; refine (HS.out _ HK.out.2.2).mono ?_; rintro e w1 ⟨b1, l1, k1, rfl, r1, hb1⟩; have HR1 := hide r1; replace HK := hide (HK.out.kept hb1); clear r1 hb1 q1 q2)
    | (go_at_call 21; refine (HC.out _ _ _ _ HK.out.2.2 HR1.out.1 HR1.out.2.1 HR1.out.2.2).mono ?_; rintro e w2 ⟨⟨a2, l2, c2, v, rfl⟩, r2⟩; have HR := hide r2; clear r2))
  refine bodyPost_ret (results_tmp2 rfl _ _ _) rfl ?_
  exact ⟨⟨_, rfl⟩, HR.out⟩
set_option maxRecDepth 100000 in
set_option maxHeartbeats 4000000 in
theorem play_c (G : Nat) (ba : Option Addr) (bl bc : Nat) (z : List Int) (a : Option Addr) (len cap : Nat) (s d : List Int) (hop n : Int) (is : Bool) (c : List Int) (inj : Bool) (ka : Option Addr) (kn kc : Nat) (w : World) (R : World → Prop) (zs : List Int) (bs : List (List Int))
    (hB : ∀ W, Below w.heap.size w W → Calls Tryz.prog 18 #[.pointer (some ⟨G, 0, none⟩)] W fun e w' => ∃ v, e = .returned v ∧ BdRow 0 w' v bs ∧ Below W.heap.size W w')
    (hS : ∀ W v, Below w.heap.size w W → BdRow 0 W v bs → Calls Tryz.prog 14 #[.agg (stC3 5 ba bl bc z a len cap s d hop n is), .agg (cfC c inj ka kn kc), v] W fun e w' => ∃ b l k, e = .returned (.slice b l k) ∧ (Row8 w' b l k zs ∧ l ≤ k ∧ k ≤ maxLen) ∧ Below W.heap.size W w')
    (hC : ∀ W b l k, Below w.heap.size w W → Row8 W b l k zs → l ≤ k → k ≤ maxLen → Calls Tryz.prog 24 #[.pointer (some ⟨G, 0, none⟩), .slice b l k] W fun e w' => (∃ a2 l2 c2 v, e = .returned (.tuple #[.slice a2 l2 c2, v])) ∧ R w' ∧ ∀ B, w.heap.size ≤ B → B < W.heap.size → w'.heap[B]? = W.heap[B]?) :
    Calls Tryz.prog 15 #[.pointer (some ⟨G, 0, none⟩), .agg (stC3 5 ba bl bc z a len cap s d hop n is), .agg (cfC c inj ka kn kc)] w fun e w' => (∃ v, e = .returned v) ∧ R w' := by
  have HK := hide (Ks3.start w 5 ba bl bc z a len cap s d hop n is c inj ka kn kc)
  have HBd := hide hB
  have HS := hide hS
  have HC := hide hC
  clear hB hS hC
  go_enter Tryz.func15, Tryz.ntmps15
  go_upto_region 1 with fail
  generalize (World.alloc _ _).alloc _ = W0 at HK ⊢
  have q0 := HK.out.1.what
  go_upto_region 13 with fail
  clear q0
  replace HK := hide (HK.out.kept (show Below W0.heap.size W0 W0.drew from (Below.refl _ _).drew))
  have HQ := hide (fun W (h : StIn3 w.heap.size 5 ba bl bc z a len cap s d hop n is W ∧ CfIn (w.heap.size + 1) c inj ka kn kc W) => (show (stl (.pointer (some ⟨w.heap.size, 0, none⟩))).run Tryz.prog W = .ok (.agg (stC3 5 ba bl bc z a len cap s d hop n is)) W ∧ (cload (.pointer (some ⟨w.heap.size + 1, 0, none⟩))).run Tryz.prog W = .ok (.agg (cfC c inj ka kn kc)) W from ⟨h.1.sl, h.2.cl⟩))
  obtain ⟨q1, q2⟩ := HQ.out _ ⟨HK.out.1, HK.out.2.1⟩
  go_region_held3 (fun W => (stl (.pointer (some ⟨w.heap.size, 0, none⟩))).run Tryz.prog W = .ok (.agg (stC3 5 ba bl bc z a len cap s d hop n is)) W ∧ (cload (.pointer (some ⟨w.heap.size + 1, 0, none⟩))).run Tryz.prog W = .ok (.agg (cfC c inj ka kn kc)) W)
    (first
      | exact HQ.out _ ⟨HK.out.1, HK.out.2.1⟩
      | exact HQ.out _ HK3.out
      | go_keep)
    (first
      | (go_at_call 18; refine (HBd.out _ HK.out.2.2).mono ?_; rintro e w1 ⟨v1, rfl, r1, hb1⟩; have HR1 := hide r1; replace HK := hide (HK.out.kept hb1); clear r1 hb1 q1 q2; obtain ⟨q1, q2⟩ := HQ.out _ ⟨HK.out.1, HK.out.2.1⟩)
      | (go_at_call 14; refine (HS.out _ _ HK.out.2.2 HR1.out).mono ?_; rintro e w2 ⟨b2, l2, k2, rfl, r2, hb2⟩; have HR2 := hide r2; replace HK := hide (HK.out.kept hb2); clear r2 hb2 q1 q2; obtain ⟨q1, q2⟩ := HQ.out _ ⟨HK.out.1, HK.out.2.1⟩)
      | (go_at_call 24; refine (HC.out _ _ _ _ HK.out.2.2 HR2.out.1 HR2.out.2.1 HR2.out.2.2).mono ?_; rintro e w3 ⟨⟨a3, l3, c3, v3, rfl⟩, r3, f3⟩; have HK3 := hide (show StIn3 w.heap.size 5 ba bl bc z a len cap s d hop n is w3 ∧ CfIn (w.heap.size + 1) c inj ka kn kc w3 from ⟨(f3 _ (Nat.le_refl _) HK.out.1.lt).trans HK.out.1, (f3 _ (Nat.le_succ _) HK.out.2.1.lt).trans HK.out.2.1⟩); have HR := hide r3; clear r3 f3 q1 q2; obtain ⟨q1, q2⟩ := HQ.out _ HK3.out))
  all_goals
    go_wp2_with fail
    refine bodyPost_ret (results_tmp2 rfl _ _ _) rfl ?_
    exact ⟨⟨_, rfl⟩, HR.out⟩
end Go.Proofs.YtkhahbghmdccaaaGreatDoor

namespace Go.Proofs.YtkhahbghmdccaaaGreatDoor
open Go.RowKit
set_option linter.unusedVariables false
theorem IG.len {g : GS} (h : IG g) : g.bk.length ≤ 8 := (oks_of h.2.2.2.2.2.2).1
theorem play_inv {Inv : GS → Prop} (h6 : ∀ g zs, IG g → SM.Oct zs → Inv g → Inv (g6 g zs).2.2) (h4 : ∀ g zs, IG g → SM.Oct zs → Inv g → Inv (g4 g zs).2.2) (ht : ∀ g n, IG g → Inv g → Inv (gtk g n).2) (hp : ∀ g id u, IG g → Inv g → Inv (gmk g id (fun x => bup x u)).2) (hd : ∀ g id u, IG g → Inv g → Inv (gmk g id (fun x => bdr x u)).2)
    (wh : Int) (ba : Option Addr) (bl bc : Nat) (B z : List Int) (a : Option Addr) (len cap : Nat) (D s d : List Int) (hop n : Int) (is : Bool) (c : List Int) (inj : Bool) (ka : Option Addr) (kn kc : Nat) (hn : I64 n) (hc : up 4294967295 (el c 18) = true) {w : World} {G : Nat} {g : GS} {O : Nat → Prop} {W : World} (hg : IG g) (hi : Inv g) (h : GH w G g O W) (rb : Row8 W ba bl bc B) (e1 : bl ≤ bc) (e2 : bc ≤ maxLen) (hr : Row8 W a len cap D) :
    Calls Tryz.prog 15 #[.pointer (some ⟨G, 0, none⟩), .agg (stC3 wh ba bl bc z a len cap s d hop n is), .agg (cfC c inj ka kn kc)] W fun e w' => (∃ v, e = .returned v) ∧ ∃ g', IG g' ∧ Inv g' ∧ GN w G g' O W w' := by
  by_cases w0 : wh = 0
  · exact play_a G wh ba bl bc z a len cap s d hop n is c inj ka kn kc W _ (.inl ⟨w0, fun W1 hb => (in6_gh hg B w G O W1 ba bl bc (h.kept hb) (rb.below hb) e1 e2).mono fun e w' ⟨⟨a2, l2, c2, q1, _⟩, q2⟩ => ⟨⟨a2, l2, c2, _, q1⟩, _, (g6_ig hg rb.2.2.1).1, h6 g B hg rb.2.2.1 hi, q2.pre hb⟩⟩)
  by_cases w1 : wh = 1
  · exact play_a G wh ba bl bc z a len cap s d hop n is c inj ka kn kc W _ (.inr (.inl ⟨w1, fun W1 hb => (in4_gh hg B w G O W1 ba bl bc (h.kept hb) (rb.below hb) e1 e2).mono fun e w' ⟨⟨a2, l2, c2, q1, _⟩, q2⟩ => ⟨⟨a2, l2, c2, _, q1⟩, _, (g4_ig hg B).1, h4 g B hg rb.2.2.1 hi, q2.pre hb⟩⟩))
  by_cases w2 : wh = 2
  · exact play_a G wh ba bl bc z a len cap s d hop n is c inj ka kn kc W _ (.inr (.inr (.inl ⟨w2, fun W1 hb => (tick_gh hg n w G O W1 (h.kept hb)).mono fun e w' ⟨q1, q2⟩ => ⟨⟨_, q1⟩, _, gtk_ig hg n, ht g n hg hi, q2.pre hb⟩⟩)))
  by_cases w3 : wh = 3
  · exact play_a G wh ba bl bc z a len cap s d hop n is c inj ka kn kc W _ (.inr (.inr (.inr (.inl ⟨w3, fun W1 hb => (probe_gh (by have := hg.len; omega) n is w G O W1 (h.kept hb)).mono fun e w' ⟨q1, q2⟩ => ⟨⟨_, q1⟩, _, gmk_ig hg n (f := fun x => bup x is) (fun _ => rfl) (fun _ => rfl), hp g n is hg hi, q2.pre hb⟩⟩))))
  by_cases w4 : wh = 4
  · exact play_a G wh ba bl bc z a len cap s d hop n is c inj ka kn kc W _ (.inr (.inr (.inr (.inr ⟨w4, fun W1 hb => (drain_gh (by have := hg.len; omega) n is w G O W1 (h.kept hb)).mono fun e w' ⟨q1, q2⟩ => ⟨⟨_, q1⟩, _, gmk_ig hg n (f := fun x => bdr x is) (fun _ => rfl) (fun _ => rfl), hd g n is hg hi, q2.pre hb⟩⟩))))
  by_cases w5 : wh = 5
  · subst w5
    obtain ⟨zs, hS⟩ := lsent5 ba bl bc z a len cap s d hop n is c inj ka kn kc g.bs D hr.1 hn hg.1.2.1 hc (fun b hb => (hg.1.2.2.1.1 b hb).2.2.2.1)
    refine play_c G ba bl bc z a len cap s d hop n is c inj ka kn kc W _ zs g.bs (fun W1 hb => ?_) (fun W1 v hb hv => hS W1 v hv (hr.below hb)) (fun W1 b l k hb r q1 q2 => ?_)
    · obtain ⟨x1, x2, x3, x4, x5, x6, rfl, hh⟩ := h.kept hb
      exact binds_any G x1 x2 x3 x4 x5 x6 g W1 hh.1 hg.1
    · refine (in4_gh hg zs w G O W1 b l k (h.kept hb) r q1 q2).mono ?_
      rintro e w' ⟨⟨a2, l2, c2, p1, _⟩, p2⟩
      refine ⟨⟨a2, l2, c2, _, p1⟩, ⟨_, (g4_ig hg zs).1, h4 g zs hg r.2.2.1 hi, p2.pre hb⟩, fun B' hB hB2 => ?_⟩
      obtain ⟨_, _, _, p3⟩ := p2
      exact p3.1.2.2.2.2 B' hB2 (fun ho => by have := h.lt ho; omega)
  · have f := fun (j : Int) (hj : ¬ wh = j) => show (wh == j) = false by simpa using hj
    obtain ⟨zs, hS⟩ : ∃ zs : List Int, ∀ W1, Below W.heap.size W W1 → Calls Tryz.prog 14 #[.agg (stC3 wh ba bl bc z a len cap s d hop n is), .agg (cfC c inj ka kn kc), .slice none 0 0] W1 fun e w' => ∃ b l k, e = .returned (.slice b l k) ∧ (Row8 w' b l k zs ∧ l ≤ k ∧ k ≤ maxLen) ∧ Below W1.heap.size W1 w' := by
      rcases lsent_any wh ba bl bc z a len cap s d hop n is c inj ka kn kc (.slice none 0 0) D W (f 5 w5) hr with h | ⟨hs, hd, ht, hz, h⟩
      · exact ⟨[], fun W hW => (h W hW).mono fun e w' ⟨e1, e2⟩ => ⟨none, 0, 0, e1, ⟨gt_no _, Nat.le_refl _, Nat.zero_le _⟩, e2⟩⟩
      · refine ⟨p6o s d hop z D, fun W hW => (h W hW).mono fun e w' ⟨v, e1, o, e2⟩ => ?_⟩
        obtain ⟨g, k, rfl, k1, k2, _, _, r⟩ := o.form p6o_len
        exact ⟨_, _, k, e1, ⟨r, k1, k2⟩, e2⟩
    refine play_b G wh ba bl bc z a len cap s d hop n is c inj ka kn kc W _ zs (f 0 w0) (f 1 w1) (f 2 w2) (f 3 w3) (f 4 w4) (f 5 w5) hS (fun W1 b l k hb r q1 q2 => ?_)
    refine (in6_gh hg zs w G O W1 b l k (h.kept hb) r q1 q2).mono ?_
    rintro e w' ⟨⟨a2, l2, c2, p1, _⟩, p2⟩
    exact ⟨⟨a2, l2, c2, _, p1⟩, _, (g6_ig hg r.2.2.1).1, h6 g zs hg r.2.2.1 hi, p2.pre hb⟩
end Go.Proofs.YtkhahbghmdccaaaGreatDoor
