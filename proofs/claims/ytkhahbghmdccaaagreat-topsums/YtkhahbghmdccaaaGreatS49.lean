/- Who is picked: the best of all, whatever their order, and with one of them gone. Two gates side by side. TopMoves, whatever comes. What holds of a gate behind Tick, Probe and Drain; calls on a gate. What is sent by a step that answers a bind. A step played on a gate. A step played on a gate: what holds of it goes on to hold. GateApart: what is asked of a gate's binds. Streams belong to binds. -/
import Derived.Test.YtkhahbghmdccaaaGreatS24
import Derived.Below
import Derived.OpenShut
import Derived.Test.YtkhahbghmdccaaaGreatProg
import Derived.WalkKit
import Derived.LaidEql
import Derived.BigQuiet
import Derived.Laws.AppendOwnNone
import Derived.Laws.MakeOwn
import Derived.Deep.RegionLaw
import Derived.Lib.Bytes
import Derived.Deep.MidRow
import Derived.Laws.ResultCell
import Derived.Deep.CutBlock
import Derived.Deep.QuietTactic
import Derived.OwnWalk
import Derived.Deep.RegionHeld3
import Derived.Deep.DrawnRows
import Derived.Maps.AppendAt
import Derived.Laws.StructEq
import Derived.Test.YtkhahbghmdccaaaGreatS48
import Derived.Maps.RangeWalk
import Derived.Stop.Asserts
import Derived.RowKitTokens
import Derived.Test.YtkhahbghmdccaaaGreatShelf
import Derived.Shelf.Abstract
import Derived.Lib.SliceRun
import Derived.Lib.AppendZerosOnto
import Derived.Lib.AppendZeros
import Derived.Laws.CopyOwn
import Derived.RangeFuncNested
import Derived.RangeFuncBound
import Derived.RangeFuncCalls
import Derived.RangeFuncLeaves
import Derived.RangeFuncFrom
import Derived.Shelf.RegionOpen
import Derived.OwnWalkIn
import Derived.TacticsInMore
import Derived.LoopNIn
import Derived.LoopIn
import Derived.Deep.RegionWith
import Derived.ArgAppend
import Derived.Lib.SlBytesConst
import Derived.Lib.AppendStr
import Derived.Deep.Slices
import Derived.ChangeArms
import Derived.WideShapes
import Derived.Test.YtkhahbghmdccaaaGreatS46
import Derived.Test.YtkhahbghmdccaaaGreatS44
import Derived.Deep.Fields
import Derived.ChangeSlices
namespace Go.Proofs.YtkhahbghmdccaaaGreat
open Go.RowKit
def OKs (bs : List (List Int)) : Prop := bs.length ≤ 8 ∧ (∀ b ∈ bs, okb b = true) ∧ bs.Pairwise (fun a b => el a 0 ≠ el b 0)
theorem oks_of {bs : List (List Int)} (h : (bf bs).2 = 0) : OKs bs := by
  obtain ⟨h8, hx⟩ := bf_ok h
  refine ⟨h8, fun b hb => ?_, List.pairwise_iff_getElem.2 fun i j hi hj hij => ?_⟩
  · obtain ⟨i, hi, rfl⟩ := List.mem_iff_getElem.1 hb
    have := (hx i hi).1
    rwa [getD_at hi] at this
  · have := (hx j hj).2
    unfold sid at this
    rw [List.any_eq_false] at this
    have h1 := this i (List.mem_range.2 hij)
    rw [getD_at hi, getD_at hj] at h1
    simpa using h1
end Go.Proofs.YtkhahbghmdccaaaGreat

namespace Go.Proofs.YtkhahbghmdccaaaGreat
open Go.RowKit
def GH (w : World) (G : Nat) (g : GS) (O : Nat → Prop) (W : World) : Prop := ∃ a cap tv S Ot β, O = GO G a Ot (SO S β g.ss) ∧ OG w G a cap tv S Ot β g W
theorem GH.kept {w : World} {G : Nat} {g : GS} {O : Nat → Prop} {W W' : World} (h : GH w G g O W) (hb : Below W.heap.size W W') : GH w G g O W' := by
  obtain ⟨a, cap, tv, S, Ot, β, e, h⟩ := h
  exact ⟨a, cap, tv, S, Ot, β, e, h.kept hb⟩
theorem GH.lt {w : World} {G : Nat} {g : GS} {O : Nat → Prop} {W : World} (h : GH w G g O W) {k : Nat} (hk : O k) : k < W.heap.size := by
  obtain ⟨a, cap, tv, S, Ot, β, rfl, h⟩ := h
  exact h.1.lt hk
theorem GH.ge {w : World} {G : Nat} {g : GS} {O : Nat → Prop} {W : World} (h : GH w G g O W) {k : Nat} (hk : O k) : w.heap.size ≤ k := by
  obtain ⟨a, cap, tv, S, Ot, β, rfl, h⟩ := h
  exact h.2.1 k hk
theorem GH.below {w : World} {G : Nat} {g : GS} {O : Nat → Prop} {W : World} (h : GH w G g O W) : Below w.heap.size w W := by
  obtain ⟨a, cap, tv, S, Ot, β, rfl, h⟩ := h
  exact h.2.2
def GN (w : World) (G : Nat) (g' : GS) (O : Nat → Prop) (W W' : World) : Prop := ∃ O', GH w G g' O' W' ∧ (∀ k, O' k → O k ∨ W.heap.size ≤ k) ∧ Kpt O W W'
theorem GH.call {w : World} {G : Nat} {g g' : GS} {O : Nat → Prop} {W : World} (h : GH w G g O W) {F : Nat} {xs : Array Value} {R : Ending → World → Prop}
    (hc : ∀ a cap tv S Ot β, GC G a cap tv S Ot β g W → Calls Tryz.prog F xs W fun e w' => R e w' ∧ GQ W G a cap tv S Ot β g g' w') :
    Calls Tryz.prog F xs W fun e w' => R e w' ∧ GN w G g' O W w' := by
  obtain ⟨a, cap, tv, S, Ot, β, rfl, h⟩ := h
  refine (hc a cap tv S Ot β h.1).mono ?_
  rintro e w' ⟨hR, Ot', β', q1, q2, q3⟩
  have hs := h.2.2.size
  exact ⟨hR, _, ⟨a, cap, tv, S, Ot', β', rfl, q1, fun k hk => (q3 k hk).elim (h.2.1 k) (fun h => by omega), q2.below h.2.2 h.2.1 hs⟩, q3, q2⟩
theorem NG.gh {w W w' : World} {c : List Int} {inj : Bool} {bk : List (List Int)} {m : Nat} {e : Ending} (h : NG W c inj bk m e w') (hb : Below w.heap.size w W) : ∃ G O, e = .returned (.tuple #[.pointer (some ⟨G, 0, none⟩), .nilIface]) ∧ GH w G (gz0 c inj bk m) O w' ∧ (∀ k, O k → W.heap.size ≤ k) ∧ Below W.heap.size W w' := by
  obtain ⟨G, a, cap, tv, S, Ot, e1, e2, e3, e4⟩ := h
  exact ⟨G, _, e1, ⟨a, cap, tv, S, Ot, _, rfl, e2, fun k hk => Nat.le_trans hb.size (e3 k hk), bt hb e4⟩, e3, e4⟩
end Go.Proofs.YtkhahbghmdccaaaGreat

namespace Go.Proofs.YtkhahbghmdccaaaGreat
open Go.RowKit
set_option linter.unusedVariables false
theorem in6_gh {g : GS} (hg : IG g) (zs : List Int) : ∀ w G O W b l k, GH w G g O W → Row8 W b l k zs → l ≤ k → k ≤ maxLen → Calls Tryz.prog 16 #[.pointer (some ⟨G, 0, none⟩), .slice b l k] W fun e w' => (∃ a2 l2 c2, e = .returned (.tuple #[.slice a2 l2 c2, ev (g6 g zs).1]) ∧ Row8 w' a2 l2 c2 (g6 g zs).2.1 ∧ l2 ≤ c2 ∧ c2 ≤ maxLen) ∧ GN w G (g6 g zs).2.2 O W w' :=
  fun w G O W b l k h r e1 e2 => h.call (R := fun e w' => ∃ a2 l2 c2, e = .returned (.tuple #[.slice a2 l2 c2, ev (g6 g zs).1]) ∧ Row8 w' a2 l2 c2 (g6 g zs).2.1 ∧ l2 ≤ c2 ∧ c2 ≤ maxLen) fun a cap tv S Ot β hG => (in6_any G a cap tv S Ot β g b l k zs W hG hg.1 hg.2.1 hg.2.2 r e1 e2).mono fun e w' ⟨a2, l2, c2, e3, e4, e5⟩ => ⟨⟨a2, l2, c2, e3, e4⟩, e5⟩
end Go.Proofs.YtkhahbghmdccaaaGreat

namespace Go.Proofs.YtkhahbghmdccaaaGreat
open Go.RowKit
set_option linter.unusedVariables false
theorem sgo_sub (gone : List (List Int)) : ∀ {ss : List (Int × List Int × Int × Bool × Bool)} {x : Int × List Int × Int × Bool × Bool}, x ∈ sgo gone ss → x ∈ ss := by
  unfold sgo
  induction gone with
  | nil => exact fun h => h
  | cons b r ih => exact fun h => (sdl_mem.1 (ih h)).1
theorem gtk_ig {g : GS} (h : IG g) (n : Int) : IG (gtk g n).2 := by
  unfold gtk
  split
  · rename_i hn
    obtain ⟨⟨t1, t2, t3, t4, t5⟩, hs, hc⟩ := h
    have he := t3.expire (g.now + n)
    refine ⟨⟨t1, Nat.le_trans he.2.1 t2, he.1, ?_, fun b hb => ?_⟩, fun x hx => hs x (sgo_sub _ hx), hc⟩
    · have ht := t4
      unfold tc at ht ⊢
      simp only [Bool.and_eq_true, decide_eq_true_eq] at ht ⊢
      show 0 ≤ g.now + n ∧ g.now + n ≤ _
      omega
    · have hb' : b ∈ (es (g.now + n) g.bs g.ts g.bs.length).2.1 := hb
      rw [(es_form (g.now + n) g.bs g.ts g.bs.length (Nat.le_refl _)).2.1, List.take_length] at hb'
      have := t5 b (List.mem_filter.1 hb').1
      show el b 22 ≤ g.now + n
      omega
  · exact h
theorem in4_gh {g : GS} (hg : IG g) (zs : List Int) : ∀ w G O W b l k, GH w G g O W → Row8 W b l k zs → l ≤ k → k ≤ maxLen → Calls Tryz.prog 19 #[.pointer (some ⟨G, 0, none⟩), .slice b l k] W fun e w' => (∃ a2 l2 c2, e = .returned (.tuple #[.slice a2 l2 c2, ev (g4 g zs).1]) ∧ Row8 w' a2 l2 c2 (g4 g zs).2.1 ∧ l2 ≤ c2 ∧ c2 ≤ maxLen) ∧ GN w G (g4 g zs).2.2 O W w' :=
  fun w G O W b l k h r e1 e2 => h.call (R := fun e w' => ∃ a2 l2 c2, e = .returned (.tuple #[.slice a2 l2 c2, ev (g4 g zs).1]) ∧ Row8 w' a2 l2 c2 (g4 g zs).2.1 ∧ l2 ≤ c2 ∧ c2 ≤ maxLen) fun a cap tv S Ot β hG => (in4_any G a cap tv S Ot β g b l k zs W hG hg.1 hg.2.1 r e1 e2).mono fun e w' ⟨a2, l2, c2, e3, e4, e5⟩ => ⟨⟨a2, l2, c2, e3, e4⟩, e5⟩
theorem tick_gh {g : GS} (hg : IG g) (n : Int) : ∀ w G O W, GH w G g O W → Calls Tryz.prog 36 #[.pointer (some ⟨G, 0, none⟩), .int .i64 n] W fun e w' => e = .returned (ev (gtk g n).1) ∧ GN w G (gtk g n).2 O W w' :=
  fun w G O W h => h.call (R := fun e _ => e = .returned (ev (gtk g n).1)) fun a cap tv S Ot β hG => gtick_any G a cap tv S Ot β g n W hG hg.1
end Go.Proofs.YtkhahbghmdccaaaGreat

namespace Go.Proofs.YtkhahbghmdccaaaGreat
open Go.RowKit
set_option linter.unusedVariables false
theorem SgIn.put {B : Nat} {z : List Int} {a : Option Addr} {len cap : Nat} {w : World} (p : SgIn B z a len cap w) (j : Nat) (hj : j < 7) (v : Int) : SgIn B ((z7 z).set j v) a len cap (w.setCell ⟨B, j, none⟩ (.int .i64 v)) ∧ Only B w (w.setCell ⟨B, j, none⟩ (.int .i64 v)) := by
  rw [setCell_eq_setRow w B j _ _ (0, 0) _ p]
  have h := setRow_heap w B _ ((sgC z a len cap).setIfInBounds j (.int .i64 v)) _ (0, 0) p
  refine ⟨?_, only_setRow _ _ _⟩
  rcases (by omega : j = 0 ∨ j = 1 ∨ j = 2 ∨ j = 3 ∨ j = 4 ∨ j = 5 ∨ j = 6) with rfl | rfl | rfl | rfl | rfl | rfl | rfl <;> exact h
attribute [local go_sem ↓] gload_shut hload_shut bload_shut
end Go.Proofs.YtkhahbghmdccaaaGreat

namespace Go.Proofs.YtkhahbghmdccaaaGreat
open Go.RowKit
set_option linter.unusedVariables false
def stl (x : Value) : Sem Value := Instr.loadAt 32 x
theorem stl_shut (x : Value) : Instr.loadAt 32 x = stl x := rfl
attribute [local go_sem ↓] stl_shut cload_shut
end Go.Proofs.YtkhahbghmdccaaaGreat

namespace Go.Proofs.YtkhahbghmdccaaaGreat
open Go.RowKit
set_option linter.unusedVariables false
theorem IG.len {g : GS} (h : IG g) : g.bk.length ≤ 8 := (oks_of h.2.2.2.2.2.2).1
end Go.Proofs.YtkhahbghmdccaaaGreat

namespace Go.Proofs.YtkhahbghmdccaaaGreat
open Go.RowKit
set_option linter.unusedVariables false
theorem okf_dst {f : List Int} (h : okf f = true) : Ok6 (dst f) := by
  unfold okf at h
  simp only [Bool.and_eq_true] at h
  exact (s6_iff _).1 h.1.1.2
theorem GH.ag {w : World} {G : Nat} {g : GS} {O : Nat → Prop} {W : World} (h : GH w G g O W) : ∃ ow, Ag g.ws ow g.ts g.m := by
  obtain ⟨a, cap, tv, S, Ot, β, rfl, h, _⟩ := h
  obtain ⟨T, P, BB, F, N, ow, _, _, q, _⟩ := h.2.2.1
  exact ⟨ow, q⟩
end Go.Proofs.YtkhahbghmdccaaaGreat

namespace Go.Proofs.YtkhahbghmdccaaaGreat
open Go.RowKit
set_option linter.unusedVariables false
theorem ins_sub {x b : List Int} {bs : List (List Int)} (h : b ∈ bs) : b ∈ ins x bs := by
  obtain ⟨p, _, e, _⟩ := ins_form x bs
  rw [e]
  rw [← List.take_append_drop p bs] at h
  rcases List.mem_append.1 h with h | h
  · exact List.mem_append.2 (.inl h)
  · exact List.mem_append.2 (.inr (List.mem_append.2 (.inr h)))
theorem ins_new (x : List Int) (bs : List (List Int)) : x ∈ ins x bs := by
  obtain ⟨p, _, e, _⟩ := ins_form x bs
  rw [e]
  exact List.mem_append.2 (.inr (List.mem_append.2 (.inl (List.mem_singleton.2 rfl))))
theorem tell_usd (c : List Int) (inj : Bool) (b : List Int) (now : Int) : tell c inj (usd b now) = tell c inj b := rfl
theorem hb_usd (b : List Int) (now : Int) : hb (usd b now) = hb b := rfl
def SBI (c : List Int) (inj : Bool) (g : GS) : Prop := g.c = c ∧ g.inj = inj ∧ ∀ x ∈ g.ss, ∃ b ∈ g.bs, el b 19 = x.1 ∧ tell c inj b = true ∧ x.2.1 = hb b
theorem SBI.set {c : List Int} {inj : Bool} {g : GS} (h : SBI c inj g) {k : Nat} (hk : k < g.bs.length) : SBI c inj (g.tab g.ws g.ts (g.bs.set k (usd (g.bs.getD k []) g.now))) := ⟨h.1, h.2.1, fun x hx => by
  obtain ⟨b, hb0, e1, e2, e3⟩ := h.2.2 x hx
  obtain ⟨j, hj, rfl⟩ := List.getElem_of_mem hb0
  by_cases e : k = j
  · subst e
    refine ⟨usd (g.bs.getD k []) g.now, List.mem_set hk _, ?_, ?_, ?_⟩
    · rw [getD_at hk]; exact e1
    · rw [tell_usd, getD_at hk]; exact e2
    · rw [hb_usd, getD_at hk]; exact e3
  · exact ⟨g.bs[j], List.mem_iff_getElem.2 ⟨j, by show j < (g.bs.set k _).length; rw [List.length_set]; exact hj, by show (g.bs.set k _)[j]'_ = _; rw [List.getElem_set, if_neg e]⟩, e1, e2, e3⟩⟩
theorem bdo_in {g : GS} {f : List Int} {flags : Int} {wr : Int × Int × Int} (h : (bdo g f flags wr).1 = 0) : ∃ b2 ∈ (bdo g f flags wr).2.2.bs, (b2 = (bdo g f flags wr).2.1 ∨ b2 = usd (bdo g f flags wr).2.1 g.now) ∧ flC (bdo g f flags wr).2.1 = flC f := by
  cases hn : fnd g.bs f with
  | some k =>
    rw [bdo_some hn]
    obtain ⟨hk, _, hf⟩ := fndY hn
    exact ⟨usd (g.bs.getD k []) g.now, List.mem_set hk _, .inr rfl, hf⟩
  | none =>
    rw [bdo_none hn] at h ⊢
    split at h
    · cases h
    · rename_i h1
      rw [if_neg h1]
      split at h
      · rename_i h2; exact absurd h h2
      · rename_i h2
        rw [if_neg h2]
        split at h
        · cases h
        · rename_i i ht
          exact ⟨_, ins_new _ _, .inl rfl, rfl⟩
theorem bdo_sbi {c : List Int} {inj : Bool} {g : GS} (h : SBI c inj g) (f : List Int) (flags : Int) (wr : Int × Int × Int) : SBI c inj (bdo g f flags wr).2.2 := by
  cases hn : fnd g.bs f with
  | some k =>
    rw [bdo_some hn]
    exact h.set (fndY hn).1
  | none =>
    rw [bdo_none hn]
    split
    · exact h
    · split
      · exact h
      · split
        · exact h
        · refine ⟨h.1, h.2.1, fun x hx => ?_⟩
          obtain ⟨b, hb0, e⟩ := h.2.2 x hx
          exact ⟨b, ins_sub hb0, e⟩
theorem guo_sbi {c : List Int} {inj : Bool} {g : GS} (h : SBI c inj g) (b z D : List Int) {b2 : List Int} {now : Int} (hb2 : b2 ∈ g.bs) (e : b2 = b ∨ b2 = usd b now) : SBI c inj (guo g b z D).2.2.2 := by
  unfold guo
  split
  · rename_i ht
    rw [h.1, h.2.1] at ht
    refine ⟨h.1, h.2.1, fun y hy => ?_⟩
    have hb3 : el b2 19 = el b 19 ∧ tell c inj b2 = true ∧ hb b2 = hb b := by
      rcases e with rfl | rfl
      · exact ⟨rfl, ht, rfl⟩
      · exact ⟨rfl, ht, rfl⟩
    obtain ⟨x, hx, e1, ⟨e2, e3⟩ | ⟨e2, e3⟩⟩ := sup_mem hy
    · have e4 : y.2.1 = (stf g b).2.1 := by rw [e3]
      unfold stf at e4
      split at e4
      · rename_i st hs
        obtain ⟨b3, q1, q2, q3, q4⟩ := h.2.2 _ (sfd_some hs)
        exact ⟨b3, q1, q2.trans (e1.trans e2).symm, q3, e4.trans q4⟩
      · exact ⟨b2, hb2, hb3.1.trans (e1.trans e2).symm, hb3.2.1, e4.trans hb3.2.2.symm⟩
    · rw [e3]
      unfold stf at hx
      split at hx
      · exact h.2.2 x hx
      · rcases List.mem_cons.1 hx with rfl | hx
        · exact absurd rfl e2
        · exact h.2.2 x hx
  · exact h
theorem gdo_sbi {c : List Int} {inj : Bool} {g : GS} (h : SBI c inj g) (b z D : List Int) : SBI c inj (gdo g b z D).2.2.2 := by
  unfold gdo
  split
  · rename_i st hst
    refine ⟨h.1, h.2.1, fun y hy => ?_⟩
    obtain ⟨x, hx, e1, ⟨e2, e3⟩ | ⟨e2, e3⟩⟩ := sup_mem hy
    · obtain ⟨b3, q1, q2, q3, q4⟩ := h.2.2 _ (sfd_some hst)
      exact ⟨b3, q1, q2.trans (e1.trans e2).symm, q3, by rw [e3]; exact q4⟩
    · rw [e3]
      exact h.2.2 x hx
  · exact h
theorem g6s_sbi {c : List Int} {inj : Bool} {g : GS} (h : SBI c inj g) (f : List Int) (hop : Int) (z D : List Int) : SBI c inj (g6s g f hop z D).2.2 := by
  unfold g6s
  split
  · exact h
  · split
    · exact h
    · have hb0 := bdo_sbi h f (el z 5) (whr g f (ldo g.c f).2)
      split
      · exact hb0
      · rename_i h3
        rw [g6b_st]
        obtain ⟨b2, q1, q2, _⟩ := bdo_in (Classical.not_not.1 h3)
        exact guo_sbi hb0 _ _ _ q1 q2
theorem g6_sbi {c : List Int} {inj : Bool} {g : GS} (h : SBI c inj g) (zs : List Int) : SBI c inj (g6 g zs).2.2 := by
  by_cases hG : V6.Good zs
  · by_cases hE : (o6s zs).1 = 0
    · have e : g6 g zs = g6s g (f6 zs) (zs.getD 7 0) (o6s zs).2.1 (o6s zs).2.2 := by
        unfold g6 g6s
        rw [if_neg (fun h => h hG), if_neg (fun h => h hE)]
      rw [e]
      exact g6s_sbi h _ _ _ _
    · have e : g6 g zs = ((o6s zs).1, [], g) := by unfold g6; rw [if_neg (fun h => h hG), if_pos hE]
      rw [e]
      exact h
  · have e : g6 g zs = (5, [], g) := by unfold g6; exact if_pos hG
    rw [e]
    exact h
theorem g4_sbi {c : List Int} {inj : Bool} {g : GS} (h : SBI c inj g) (zs : List Int) : SBI c inj (g4 g zs).2.2 := by
  unfold g4
  split
  · exact h
  · split
    · exact h
    · unfold g4s
      split
      · exact h
      · rename_i k hk
        split
        · rw [g4b_st]
          exact gdo_sbi (h.set (prt_lt (nrk_some hk).2).1) _ _ _
        · exact h
theorem gtk_sbi {c : List Int} {inj : Bool} {g : GS} (h : SBI c inj g) (n : Int) : SBI c inj (gtk g n).2 := by
  unfold gtk
  split
  · refine ⟨h.1, h.2.1, fun x hx => ?_⟩
    obtain ⟨h1, h2⟩ := sgo_mem.1 (show x ∈ sgo (es (g.now + n) g.bs g.ts g.bs.length).1 g.ss from hx)
    obtain ⟨b, q1, q2, q3⟩ := h.2.2 x h1
    obtain ⟨e1, e2, _⟩ := es_form (g.now + n) g.bs g.ts g.bs.length (Nat.le_refl _)
    rw [List.take_length] at e1 e2
    refine ⟨b, ?_, q2, q3⟩
    show b ∈ (es (g.now + n) g.bs g.ts g.bs.length).2.1
    rw [e2, List.mem_filter]
    refine ⟨q1, ?_⟩
    cases hx : xp (g.now + n) b
    · rfl
    · exact absurd q2.symm (h2 b (by rw [e1]; exact List.mem_filter.2 ⟨q1, hx⟩))
  · exact h
theorem gz0_sbi (c : List Int) (inj : Bool) (bk : List (List Int)) (m : Nat) : SBI c inj (gz0 c inj bk m) := ⟨rfl, rfl, fun x hx => absurd hx (by simp [gz0, GS.ss])⟩
end Go.Proofs.YtkhahbghmdccaaaGreat
