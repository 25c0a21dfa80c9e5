/- A gate's state as numbers; the gate as it lies in the heap, all of it; what is kept. Package gate: open6 and open4, by contracts. -/
import Derived.Test.YtkhahbghmdccaaaGreatDoorF14
import Derived.Test.YtkhahbghmdccaaaGreatDoorF33
import Derived.Test.YtkhahbghmdccaaaGreatDoorF35
import Derived.Below
import Derived.OpenShut
import Derived.Test.YtkhahbghmdccaaaGreatDoorProg
import Derived.WalkKit
import Derived.LaidEql
import Derived.BigQuiet
import Derived.Laws.AppendOwnNone
import Derived.Laws.MakeOwn
import Derived.Deep.RegionLaw
import Derived.Lib.Bytes
import Derived.Deep.MidRow
import Derived.Laws.ResultCell
import Derived.Deep.CutBlock
import Derived.Deep.QuietTactic
import Derived.OwnWalk
import Derived.Deep.RegionHeld3
import Derived.Deep.DrawnRows
import Derived.Laws.StructEq
import Derived.Maps.AppendAt
import Derived.Maps.RangeWalk
import Derived.Stop.Asserts
import Derived.RowKitTokens
import Derived.Test.YtkhahbghmdccaaaGreatDoorShelf
import Derived.Shelf.Abstract
import Derived.Lib.SliceRun
import Derived.Lib.AppendZerosOnto
import Derived.Lib.AppendZeros
import Derived.Test.YtkhahbghmdccaaaGreatDoorF09
import Derived.Test.YtkhahbghmdccaaaGreatDoorF11
import Derived.Test.YtkhahbghmdccaaaGreatDoorF24
import Derived.Test.YtkhahbghmdccaaaGreatDoorF30
import Derived.Test.YtkhahbghmdccaaaGreatDoorF34
namespace Go.Proofs.YtkhahbghmdccaaaGreatDoor
open Go.RowKit
def GS : Type := (List Int × Bool × List (List Int)) × (Nat × (Nat → List Int) × (Nat → Bool) × List (List Int)) × List (Int × List Int × Int × Bool × Bool) × Int
def GS.c (g : GS) : List Int := g.1.1
def GS.inj (g : GS) : Bool := g.1.2.1
def GS.bk (g : GS) : List (List Int) := g.1.2.2
def GS.m (g : GS) : Nat := g.2.1.1
def GS.ws (g : GS) : Nat → List Int := g.2.1.2.1
def GS.ts (g : GS) : Nat → Bool := g.2.1.2.2.1
def GS.bs (g : GS) : List (List Int) := g.2.1.2.2.2
def GS.ss (g : GS) : List (Int × List Int × Int × Bool × Bool) := g.2.2.1
def GS.now (g : GS) : Int := g.2.2.2
def GS.tab (g : GS) (ws : Nat → List Int) (ts : Nat → Bool) (bs : List (List Int)) : GS := (g.1, (g.m, ws, ts, bs), g.2.2)
def GS.str (g : GS) (ss : List (Int × List Int × Int × Bool × Bool)) : GS := (g.1, g.2.1, ss, g.now)
def GS.tic (g : GS) (n : Int) : GS := (g.1, g.2.1, g.ss, n)
def Kpt (O : Nat → Prop) (w w' : World) : Prop := Fr O w w' ∧ ∀ a n c zs, Row8 w a n c zs → Row8 w' a n c zs
theorem Kpt.refl (O : Nat → Prop) (w : World) : Kpt O w w := ⟨Fr.refl _ _, fun _ _ _ _ h => h⟩
theorem Kpt.of {O : Nat → Prop} {w w' : World} (h : Below w.heap.size w w') : Kpt O w w' := ⟨Fr.of h, fun _ _ _ _ r => r.below h⟩
theorem Kpt.mono {O O' : Nat → Prop} {w w' : World} (h : Kpt O w w') (hO : ∀ g, O g → O' g) : Kpt O' w w' := ⟨h.1.mono hO, h.2⟩
theorem Kpt.size {O : Nat → Prop} {w w' : World} (h : Kpt O w w') : w.heap.size ≤ w'.heap.size := h.1.2.2.2.1
theorem Kpt.trans {O O' : Nat → Prop} {a b c : World} (h1 : Kpt O a b) (h2 : Kpt O' b c) (hO : ∀ g, O' g → O g ∨ a.heap.size ≤ g) : Kpt O a c :=
  ⟨⟨h2.1.1.trans h1.1.1, h2.1.2.1.trans h1.1.2.1, h2.1.2.2.1.trans h1.1.2.2.1, Nat.le_trans h1.size h2.size, fun g hg hn => (h2.1.2.2.2.2 g (Nat.lt_of_lt_of_le hg h1.size) (fun ho => by rcases hO g ho with h | h; exact hn h; omega)).trans (h1.1.2.2.2.2 g hg hn)⟩, fun x n c zs r => h2.2 x n c zs (h1.2 x n c zs r)⟩
theorem Kpt.below {O : Nat → Prop} {base : Nat} {w0 w w' : World} (h : Kpt O w w') (hb : Below base w0 w) (hO : ∀ g, O g → base ≤ g) (hs : base ≤ w.heap.size) : Below base w0 w' := h.1.below hb hO hs
def sE (β : Int → Nat) (x : Int × List Int × Int × Bool × Bool) : Value × Value := (.int .i64 x.1, .pointer (some ⟨β x.1, 0, none⟩))
def SS (S : Nat) (β : Int → Nat) (ss : List (Int × List Int × Int × Bool × Bool)) (w : World) : Prop :=
  MP isI S (ss.map (sE β)) w ∧ (∀ x ∈ ss, ST 267 (β x.1) x.2.1 x.2.2.1 x.2.2.2.1 x.2.2.2.2 w) ∧ ∀ x ∈ ss, ∀ y ∈ ss, β x.1 = β y.1 → x.1 = y.1
def SO (S : Nat) (β : Int → Nat) (ss : List (Int × List Int × Int × Bool × Bool)) (k : Nat) : Prop := k = S ∨ ∃ x ∈ ss, k = β x.1
theorem SS.lt {S : Nat} {β : Int → Nat} {ss : List (Int × List Int × Int × Bool × Bool)} {w : World} (h : SS S β ss w) {k : Nat} (hk : SO S β ss k) : k < w.heap.size := by
  rcases hk with rfl | ⟨x, hx, rfl⟩
  · exact h.1.lt
  · exact (h.2.1 x hx).lt
theorem SS.nb {S : Nat} {β : Int → Nat} {ss : List (Int × List Int × Int × Bool × Bool)} {w : World} (h : SS S β ss w) : NB (SO S β ss) w := by
  intro k hk j x
  rcases hk with rfl | ⟨y, hy, rfl⟩
  · exact h.1.nb j _
  · obtain ⟨a, n, c, p, _⟩ := h.2.1 y hy
    exact p.no8 j x
theorem SS.same {S : Nat} {β : Int → Nat} {ss : List (Int × List Int × Int × Bool × Bool)} {w w' : World} (h : SS S β ss w) (hs : ∀ k, SO S β ss k → w'.heap[k]? = w.heap[k]?) (hr : ∀ a n c zs, Row8 w a n c zs → Row8 w' a n c zs) : SS S β ss w' := by
  refine ⟨h.1.same (hs S (.inl rfl)), fun x hx => ?_, h.2.2⟩
  obtain ⟨a, n, c, p1, p2, p3⟩ := h.2.1 x hx
  exact ⟨a, n, c, (hs _ (.inr ⟨x, hx, rfl⟩)).trans p1, hr _ _ _ _ p2, p3⟩
def BkR (a : Option Addr) (bk : List (List Int)) (w : World) : Prop := 0 < bk.length → ∃ K cs t, a = some ⟨K, 0, none⟩ ∧ w.heap[K]? = some (.cells cs t (0, 0)) ∧ ∀ k, k < bk.length → ∀ j, j < 6 → cs[6 * k + j]? = (bkC (bk.getD k []))[j]?
def KOa (a : Option Addr) (k : Nat) : Prop := ∃ off, a = some ⟨k, off, none⟩
theorem BkR.same {a : Option Addr} {bk : List (List Int)} {w w' : World} (h : BkR a bk w) (hs : ∀ k, KOa a k → w'.heap[k]? = w.heap[k]?) : BkR a bk w' := fun hp => by
  obtain ⟨K, cs, t, rfl, h1, h2⟩ := h hp
  exact ⟨K, cs, t, rfl, (hs K ⟨0, rfl⟩).trans h1, h2⟩
theorem BkR.bks {a : Option Addr} {bk : List (List Int)} {w : World} (h : BkR a bk w) : Bks a bk w := fun hp => by
  obtain ⟨K, cs, t, rfl, h1, h2⟩ := h hp
  refine ⟨K, 0, rfl, (Array.getElem?_eq_some_iff.1 h1).1, fun k hk j v hv => ?_⟩
  have hj : j < 6 := (List.getElem?_eq_some_iff.1 hv).1
  rw [cell_of_row w K _ _ _ _ h1, show 0 + k * 6 + j = 6 * k + j by omega, h2 k hk j hj]
  simpa using hv
def DJ (G : Nat) (a : Option Addr) (Ot : Nat → Prop) (So : Nat → Prop) : Prop := (¬ KOa a G ∧ ¬ Ot G ∧ ¬ So G) ∧ (∀ k, KOa a k → ¬ Ot k ∧ ¬ So k) ∧ ∀ k, Ot k → ¬ So k
def GC (G : Nat) (a : Option Addr) (cap : Nat) (tv : Value) (S : Nat) (Ot : Nat → Prop) (β : Int → Nat) (g : GS) (w : World) : Prop :=
  GtIn G g.c g.inj a g.bk.length cap tv S g.now w ∧ (BkR a g.bk w ∧ (∀ k, KOa a k → k < w.heap.size) ∧ g.bk.length ≤ cap ∧ cap ≤ maxLen) ∧ TB tv g.m g.ws g.ts g.bs Ot w ∧ SS S β g.ss w ∧ DJ G a Ot (SO S β g.ss)
def GO (G : Nat) (a : Option Addr) (Ot : Nat → Prop) (So : Nat → Prop) (k : Nat) : Prop := k = G ∨ KOa a k ∨ Ot k ∨ So k
theorem GC.ot {G : Nat} {a : Option Addr} {cap : Nat} {tv : Value} {S : Nat} {Ot : Nat → Prop} {β : Int → Nat} {g : GS} {w : World} (h : GC G a cap tv S Ot β g w) {k : Nat} (hk : Ot k) : k < w.heap.size := (tb_kept _ _ _ _ _ _ _ h.2.2.1).1 k hk
theorem GC.lt {G : Nat} {a : Option Addr} {cap : Nat} {tv : Value} {S : Nat} {Ot : Nat → Prop} {β : Int → Nat} {g : GS} {w : World} (h : GC G a cap tv S Ot β g w) {k : Nat} (hk : GO G a Ot (SO S β g.ss) k) : k < w.heap.size := by
  rcases hk with rfl | hk | hk | hk
  · exact h.1.lt
  · exact h.2.1.2.1 k hk
  · exact h.ot hk
  · exact h.2.2.2.1.lt hk
theorem GC.kept {G : Nat} {a : Option Addr} {cap : Nat} {tv : Value} {S : Nat} {Ot : Nat → Prop} {β : Int → Nat} {g : GS} {w w' : World} (h : GC G a cap tv S Ot β g w) (hb : Below w.heap.size w w') : GC G a cap tv S Ot β g w' :=
  ⟨h.1.kept hb, ⟨h.2.1.1.same (fun k hk => hb.block k (h.2.1.2.1 k hk)), fun k hk => Nat.lt_of_lt_of_le (h.2.1.2.1 k hk) hb.size, h.2.1.2.2⟩, (tb_kept _ _ _ _ _ _ _ h.2.2.1).2 w' hb.size (fun k hk => hb.block k (h.ot hk)), h.2.2.2.1.same (fun k hk => hb.block k (h.2.2.2.1.lt hk)) (fun _ _ _ _ r => r.below hb), h.2.2.2.2⟩
theorem GC.tab {G : Nat} {a : Option Addr} {cap : Nat} {tv : Value} {S : Nat} {Ot : Nat → Prop} {β : Int → Nat} {g : GS} {w w' : World} (h : GC G a cap tv S Ot β g w) {ws : Nat → List Int} {ts : Nat → Bool} {bs : List (List Int)} (q : TQ TB tv g.m ws ts bs Ot w w') :
    ∃ Ot', GC G a cap tv S Ot' β (g.tab ws ts bs) w' ∧ Kpt (GO G a Ot (SO S β g.ss)) w w' ∧ ∀ k, Ot' k → Ot k ∨ w.heap.size ≤ k := by
  obtain ⟨Ot', q1, q2, q3⟩ := q
  obtain ⟨d1, d2, d3⟩ := h.2.2.2.2
  have hr : ∀ a n c zs, Row8 w a n c zs → Row8 w' a n c zs := fun _ _ _ _ r => r.fr q2 h.2.2.1.nb
  have hk : Kpt (GO G a Ot (SO S β g.ss)) w w' := ⟨q2.mono (fun k hk => .inr (.inr (.inl hk))), hr⟩
  have hG := h.1.lt
  refine ⟨Ot', ⟨h.1.same (q2.2.2.2.2 G hG d1.2.1), ⟨h.2.1.1.same (fun k hk => q2.2.2.2.2 k (h.2.1.2.1 k hk) (d2 k hk).1), fun k hk => Nat.lt_of_lt_of_le (h.2.1.2.1 k hk) q2.2.2.2.1, h.2.1.2.2⟩, q1, h.2.2.2.1.same (fun k hk => q2.2.2.2.2 k (h.2.2.2.1.lt hk) (fun ho => d3 k ho hk)) hr, ⟨d1.1, fun ho => ?_, d1.2.2⟩, fun k hk => ⟨fun ho => ?_, (d2 k hk).2⟩, fun k ho hs => ?_⟩, hk, q3⟩
  · rcases q3 G ho with h1 | h1
    · exact d1.2.1 h1
    · omega
  · rcases q3 k ho with h1 | h1
    · exact (d2 k hk).1 h1
    · have := h.2.1.2.1 k hk
      omega
  · rcases q3 k ho with h1 | h1
    · exact d3 k h1 hs
    · have := h.2.2.2.1.lt hs
      omega
def sup (p : Int) (st : List Int × Int × Bool × Bool) (ss : List (Int × List Int × Int × Bool × Bool)) : List (Int × List Int × Int × Bool × Bool) := ss.map fun x => if x.1 = p then (x.1, st) else x
theorem sup_keys (β : Int → Nat) (p : Int) (st : List Int × Int × Bool × Bool) (ss : List (Int × List Int × Int × Bool × Bool)) : (sup p st ss).map (sE β) = ss.map (sE β) := by
  unfold sup
  rw [List.map_map]
  refine List.map_congr_left fun x _ => ?_
  show sE β (if x.1 = p then (x.1, st) else x) = sE β x
  split <;> rfl
theorem sup_mem {p : Int} {st : List Int × Int × Bool × Bool} {ss : List (Int × List Int × Int × Bool × Bool)} {y : Int × List Int × Int × Bool × Bool} (h : y ∈ sup p st ss) : ∃ x ∈ ss, y.1 = x.1 ∧ (x.1 = p ∧ y.2 = st ∨ x.1 ≠ p ∧ y = x) := by
  obtain ⟨x, hx, e⟩ := List.mem_map.1 h
  refine ⟨x, hx, ?_⟩
  by_cases hp : x.1 = p
  · rw [if_pos hp] at e; subst e; exact ⟨rfl, .inl ⟨hp, rfl⟩⟩
  · rw [if_neg hp] at e; subst e; exact ⟨rfl, .inr ⟨hp, rfl⟩⟩
theorem sup_so (S : Nat) (β : Int → Nat) (p : Int) (st : List Int × Int × Bool × Bool) (ss : List (Int × List Int × Int × Bool × Bool)) (k : Nat) : SO S β (sup p st ss) k ↔ SO S β ss k := by
  unfold SO
  refine or_congr Iff.rfl ⟨fun ⟨y, hy, e⟩ => ?_, fun ⟨x, hx, e⟩ => ?_⟩
  · obtain ⟨x, hx, e1, _⟩ := sup_mem hy
    exact ⟨x, hx, by rw [e, e1]⟩
  · refine ⟨_, List.mem_map.2 ⟨x, hx, rfl⟩, ?_⟩
    rw [e]
    split <;> rfl
theorem GC.turn {G : Nat} {a : Option Addr} {cap : Nat} {tv : Value} {S : Nat} {Ot : Nat → Prop} {β : Int → Nat} {g : GS} {w w' : World} (h : GC G a cap tv S Ot β g w) {x : Int × List Int × Int × Bool × Bool} (hx : x ∈ g.ss) (u : Bu (β x.1) w w') {s : Int} {b hh : Bool} (st : ST 267 (β x.1) x.2.1 s b hh w') :
    GC G a cap tv S Ot β (g.str (sup x.1 (x.2.1, s, b, hh) g.ss)) w' ∧ Kpt (GO G a Ot (SO S β g.ss)) w w' := by
  obtain ⟨d1, d2, d3⟩ := h.2.2.2.2
  have hX : SO S β g.ss (β x.1) := .inr ⟨x, hx, rfl⟩
  have old := h.2.2.2.1.2.1 x hx
  have hr : ∀ a n c zs, Row8 w a n c zs → Row8 w' a n c zs := fun _ _ _ _ r => old.row u r
  have hfr : Fr (fun k => k = β x.1) w w' := ⟨u.1, u.2.1, u.2.2.1, u.2.2.2.1, fun k hk hn => u.2.2.2.2 k hk hn⟩
  have hne : S ≠ β x.1 := by
    intro e
    obtain ⟨_, _, _, p, _⟩ := old
    rw [← e] at p
    exact h.2.2.2.1.1.notcells p
  refine ⟨⟨h.1.same (u.2.2.2.2 G h.1.lt (fun e => d1.2.2 (e ▸ hX))), ⟨h.2.1.1.same (fun k hk => u.2.2.2.2 k (h.2.1.2.1 k hk) (fun e => (d2 k hk).2 (e ▸ hX))), fun k hk => Nat.lt_of_lt_of_le (h.2.1.2.1 k hk) u.2.2.2.1, h.2.1.2.2⟩, (tb_kept _ _ _ _ _ _ _ h.2.2.1).2 w' u.2.2.2.1 (fun k hk => u.2.2.2.2 k (h.ot hk) (fun e => d3 k hk (e ▸ hX))), ⟨?_, fun y hy => ?_, fun y hy z hz e => ?_⟩, ⟨d1.1, d1.2.1, fun hs => d1.2.2 ((sup_so _ _ _ _ _ _).1 hs)⟩, fun k hk => ⟨(d2 k hk).1, fun hs => (d2 k hk).2 ((sup_so _ _ _ _ _ _).1 hs)⟩, fun k hk hs => d3 k hk ((sup_so _ _ _ _ _ _).1 hs)⟩, hfr.mono (fun k hk => .inr (.inr (.inr (by rw [hk]; exact hX)))), hr⟩
  · show MP isI S ((sup x.1 _ g.ss).map (sE β)) w'
    rw [sup_keys]
    exact h.2.2.2.1.1.same (u.2.2.2.2 S h.2.2.2.1.1.lt hne)
  · obtain ⟨z, hz, e1, ⟨e2, e3⟩ | ⟨e2, e3⟩⟩ := sup_mem hy
    · rw [e1, e2, e3]
      exact st
    · subst e3
      refine old.other u (h.2.2.2.1.2.1 y hz) (fun e => e2 (h.2.2.2.1.2.2 y hz x hx e))
  · obtain ⟨y', hy', e1, _⟩ := sup_mem hy
    obtain ⟨z', hz', e2, _⟩ := sup_mem hz
    rw [e1, e2] at e ⊢
    exact h.2.2.2.1.2.2 y' hy' z' hz' e
end Go.Proofs.YtkhahbghmdccaaaGreatDoor

namespace Go.Proofs.YtkhahbghmdccaaaGreatDoor
open Go.RowKit
theorem results_p6 {fn : Func} {p q u : Tmp} (h : fn.results = #[.cell p 101, .cell q 39, .tmp u]) (tmps : Array Value) (w : World) (B C : Nat) (s d : List Int) (hp k : Int) (a : Option Addr) (len cap : Nat) (z : List Int) (a2 : Option Addr) (l2 c2 : Nat)
    (ht : tmps.getD p undef = .pointer (some ⟨B, 0, none⟩)) (ht2 : tmps.getD q undef = .pointer (some ⟨C, 0, none⟩)) (hg : V6.PkIn B s d hp k a len cap w) (hg2 : SgIn C z a2 l2 c2 w) :
    (results fn tmps).run Tryz.prog w = .ok (.tuple #[.agg (V6.pkC s d hp k a len cap), .agg (sgC z a2 l2 c2), tmps.getD u undef]) w := by
  have hl := run_loadVar_row (P := Tryz.prog) w B 101 101 _ (0, 0) _ hg Tryz.underlying101 rfl (by kernel_rfl)
  have hl2 := run_loadVar_row (P := Tryz.prog) w C 39 39 _ (0, 0) _ hg2 Tryz.underlying39 rfl (by kernel_rfl)
  rw [Array.getD_eq_getD_getElem?] at ht ht2
  simp only [results, h]
  simp [Result.andThen, ht, ht2, asAddr, hl, hl2]
theorem results_p4 {fn : Func} {p q u : Tmp} (h : fn.results = #[.cell p 65, .cell q 39, .tmp u]) (tmps : Array Value) (w : World) (B C : Nat) (s d t k i : Int) (a : Option Addr) (len cap : Nat) (z : List Int) (a2 : Option Addr) (l2 c2 : Nat)
    (ht : tmps.getD p undef = .pointer (some ⟨B, 0, none⟩)) (ht2 : tmps.getD q undef = .pointer (some ⟨C, 0, none⟩)) (hg : V4.PkIn B s d t k i a len cap w) (hg2 : SgIn C z a2 l2 c2 w) :
    (results fn tmps).run Tryz.prog w = .ok (.tuple #[V4.pk s d t k i a len cap, .agg (sgC z a2 l2 c2), tmps.getD u undef]) w := by
  have hl := V4.load_pk hg
  have hl2 := run_loadVar_row (P := Tryz.prog) w C 39 39 _ (0, 0) _ hg2 Tryz.underlying39 rfl (by kernel_rfl)
  rw [Array.getD_eq_getD_getElem?] at ht ht2
  simp only [results, h]
  simp [Result.andThen, ht, ht2, asAddr, hl, hl2]
def pload6 (x : Value) : Sem Value := Instr.loadAt 101 x
theorem pload6_shut (x : Value) : Instr.loadAt 101 x = pload6 x := rfl
set_option maxRecDepth 10000 in
theorem pl6 {B : Nat} {s d : List Int} {h k : Int} {a : Option Addr} {len cap : Nat} {w : World} (p : V6.PkIn B s d h k a len cap w) : (pload6 (.pointer (some ⟨B, 0, none⟩))).run Tryz.prog w = .ok (.agg (V6.pkC s d h k a len cap)) w :=
  run_loadAt_mid w B 0 101 (V6.pkC s d h k a len cap).toList _ (fun j v hv => by
    rw [Nat.zero_add, p.cellAt]
    simpa using hv) Tryz.underlying101 rfl (by kernel_rfl)
def pload4 (x : Value) : Sem Value := Instr.loadAt 65 x
theorem pload4_shut (x : Value) : Instr.loadAt 65 x = pload4 x := rfl
set_option maxRecDepth 10000 in
theorem pl4 {B : Nat} {s d t k i : Int} {a : Option Addr} {len cap : Nat} {w : World} (p : V4.PkIn B s d t k i a len cap w) : (pload4 (.pointer (some ⟨B, 0, none⟩))).run Tryz.prog w = .ok (V4.pk s d t k i a len cap) w :=
  run_loadAt_mid w B 0 65 [.int .i64 s, .int .i64 d, .int .i64 t, .int .i64 k, .int .i64 i, .slice a len cap] _ (fun j v hv => by
    rw [Nat.zero_add, cell_of_row w B j _ _ _ p]
    simpa using hv) Tryz.underlying65 rfl (by kernel_rfl)
def pstore4 (x y : Value) : Sem Unit := Instr.storeAt 65 x y
theorem pstore4_shut (x y : Value) : Instr.storeAt 65 x y = pstore4 x y := rfl
theorem held4 {B : Nat} {s0 d0 t0 k0 i0 : Int} {a0 : Option Addr} {len0 cap0 : Nat} {w : World} (p : V4.PkIn B s0 d0 t0 k0 i0 a0 len0 cap0 w) (s d t k i : Int) (a : Option Addr) (len cap : Nat) :
    ∃ w', (pstore4 (.pointer (some ⟨B, 0, none⟩)) (V4.pk s d t k i a len cap)).run Tryz.prog w = .ok () w' ∧ V4.PkIn B s d t k i a len cap w' ∧ Only B w w' := by
  refine ⟨w.setRow B #[.int .i64 s, .int .i64 d, .int .i64 t, .int .i64 k, .int .i64 i, .slice a len cap], ?_, p.stored s d t k i a len cap, only_setRow _ _ _⟩
  unfold pstore4
  simp only [Instr.storeAt, Instr.sureAddr, Sem.run_bind, Sem.run_pure, Result.andThen_ok]
  exact run_storeVar_row w B 65 65 _ #[.int .i64 s, .int .i64 d, .int .i64 t, .int .i64 k, .int .i64 i, .slice a len cap] p (by kernel_rfl) rfl (by simp [Value.oneCell'])
theorem no6 {B : Nat} {s d : List Int} {h k : Int} {a : Option Addr} {len cap : Nat} {w : World} (p : V6.PkIn B s d h k a len cap w) (j : Nat) (x : Int) : w.cell? ⟨B, j, none⟩ ≠ some (.int .u8 x) := by
  rw [p.cellAt]
  by_cases h : j < 19
  · rcases (by omega : j = 0 ∨ j = 1 ∨ j = 2 ∨ j = 3 ∨ j = 4 ∨ j = 5 ∨ j = 6 ∨ j = 7 ∨ j = 8 ∨ j = 9 ∨ j = 10 ∨ j = 11 ∨ j = 12 ∨ j = 13 ∨ j = 14 ∨ j = 15 ∨ j = 16 ∨ j = 17 ∨ j = 18) with rfl | rfl | rfl | rfl | rfl | rfl | rfl | rfl | rfl | rfl | rfl | rfl | rfl | rfl | rfl | rfl | rfl | rfl | rfl <;> intro h <;> cases h
  · rw [Array.getElem?_eq_none (by show 19 ≤ j; omega)]; intro h; cases h
theorem no4 {B : Nat} {s d t k i : Int} {a : Option Addr} {len cap : Nat} {w : World} (p : V4.PkIn B s d t k i a len cap w) (j : Nat) (x : Int) : w.cell? ⟨B, j, none⟩ ≠ some (.int .u8 x) := by
  rw [cell_of_row w B j _ _ _ p]
  by_cases h : j < 6
  · rcases (by omega : j = 0 ∨ j = 1 ∨ j = 2 ∨ j = 3 ∨ j = 4 ∨ j = 5) with rfl | rfl | rfl | rfl | rfl | rfl <;> intro h <;> cases h
  · rw [Array.getElem?_eq_none (by show 6 ≤ j; omega)]; intro h; cases h
theorem Row8.pastn {B : Nat} {w w' : World} (hn : ∀ j x, w.cell? ⟨B, j, none⟩ ≠ some (.int .u8 x)) (on : Only B w w') {a : Option Addr} {n c : Nat} {zs : List Int} (r : Row8 w a n c zs) : Row8 w' a n c zs := by
  refine ⟨r.1, r.2.1, r.2.2.1, r.2.2.2.1, fun hp => ?_⟩
  obtain ⟨b, off, e, hc⟩ := r.2.2.2.2 hp
  refine ⟨b, off, e, fun i hi => ?_⟩
  have h := hc i hi
  have hne : b ≠ B := by
    rintro rfl
    exact hn _ _ h
  rw [← h]
  exact World.cell?_of_block (on.2.2.2.2 b hne)
def R6 (w W : World) : Prop := V6.PkIn w.heap.size [] [] 0 0 none 0 0 W ∧ SgIn (w.heap.size + 1) [] none 0 0 W ∧ Below w.heap.size w W
theorem R6.start (w : World) : R6 w ((w.alloc (.cells V6.zero6 101)).alloc (.cells zero7 39)) := by
  have b1 := al_below w (.cells V6.zero6 101)
  have b2 := al_below (w.alloc (.cells V6.zero6 101)) (.cells zero7 39)
  have p2 := zero_new (w.alloc (.cells V6.zero6 101))
  rw [World.size_alloc] at p2
  exact ⟨(V6.zero_new w).kept b2, p2, bt b1 b2⟩
theorem R6.kept {w W W' : World} (h : R6 w W) (hb : Below W.heap.size W W') : R6 w W' := ⟨h.1.kept hb, h.2.1.kept hb, bt h.2.2 hb⟩
def o6s (zs : List Int) : Int × List Int × List Int := oso (zs.getD 6 0) (o6 (adr zs 8) (adr zs 24) (zs.getD 6 0) ((zs.drop 40).length : Nat)) (zs.getD 7 0) (zs.drop 40)
theorem up255 {zs : List Int} (h : SM.Oct zs) (j : Nat) : up 255 (zs.getD j 0) = true := decide_eq_true (h j)
set_option maxRecDepth 100000 in
set_option maxHeartbeats 4000000 in
theorem open6_bad (a : Option Addr) (len cap : Nat) (zs : List Int) (w : World) (hr : Row8 w a len cap zs) (hcl : len ≤ cap) (hcm : cap ≤ maxLen) (hG : ¬ V6.Good zs) :
    Calls Tryz.prog 63 #[.slice a len cap] w fun e w' => e = .returned (.tuple #[.agg (V6.pkC [] [] 0 0 none 0 0), .agg (sgC [] none 0 0), err 5]) ∧ Below w.heap.size w w' := by
  have HV := hide (R6.start w)
  unfold V6.zero6 zero7 at HV
  have HD := hide (show ∀ W, Below w.heap.size w W → Calls Tryz.prog 116 #[.slice a len cap] W fun e w' => e = .returned (.tuple #[.agg (V6.pkC [] [] 0 0 none 0 0), err 5]) ∧ Below W.heap.size W w' from fun W hb => (V6.decode_any a len cap zs W (hr.below hb) hcl hcm).mono fun e w' ⟨h, hb'⟩ => by
    rcases h with ⟨_, h⟩ | ⟨h, _⟩
    · exact ⟨h, hb'⟩
    · exact absurd h hG)
  unfold err at HD ⊢
  have HZ := hide (fun W => V6.zero_new W)
  unfold V6.zero6 at HZ
  clear hr hG hcl hcm
  go_enter Tryz.func63, Tryz.ntmps63
  go_upto_region 1 with fail
  generalize (World.alloc _ _).alloc _ = W0 at HV ⊢
  go_upto_region 3 with (first
    | (go_at_call 116; refine (HD.out _ HV.out.2.2).mono ?_; rintro e w1 ⟨rfl, hb1⟩; replace HV := hide (HV.out.kept hb1); have HZ1 := hide (HZ.out w1); clear hb1)
    | (refine V6.at_store rfl (.tmp 5) (.tmp 12) rfl rfl HZ1.out [] [] 0 0 none 0 0 rfl ?_; intro w2 p2 on2; replace HV := hide (HV.out.kept (new_below _ on2)); clear on2 p2))
  go_wp2_with (first
    | (refine V6.at_store rfl (.tmp 2) (.tmp 16) rfl rfl HV.out.1 [] [] 0 0 none 0 0 rfl ?_; intro w5 p5 on5; have HS := hide (on5.sg HV.out.2.1 (by omega)); have HB := hide (on5.below HV.out.2.2 (Nat.le_refl _)); replace p5 := hide p5; clear on5 HV)
    | (refine at_store rfl (.tmp 3) (.tmp 17) rfl rfl HS.out [] none 0 0 rfl ?_; intro w6 p6 on6; replace HB := hide (on6.below HB.out (Nat.le_succ _)); replace p5 := hide (show V6.PkIn _ _ _ _ _ _ _ _ w6 from (on6.2.2.2.2 _ (by omega)).trans p5.out); replace p6 := hide p6; clear on6))
  try simp only [Exit.inBlock, Exit.then]
  refine bodyPost_ret (results_p6 rfl _ _ w.heap.size (w.heap.size + 1) [] [] 0 0 none 0 0 [] none 0 0 rfl rfl p5.out p6.out) rfl ?_
  exact ⟨rfl, HB.out⟩
attribute [local go_sem ↓] pload6_shut gload_shut V6.hstore_shut gstore_shut
set_option maxRecDepth 100000 in
set_option maxHeartbeats 4000000 in
theorem open6_good (a : Option Addr) (len cap : Nat) (zs : List Int) (w : World) (hr : Row8 w a len cap zs) (hcl : len ≤ cap) (hcm : cap ≤ maxLen) (hG : V6.Good zs) :
    Calls Tryz.prog 63 #[.slice a len cap] w fun e w' => ∃ a1 l1 c1 a2 l2 c2, e = .returned (.tuple #[.agg (V6.pkC (adr zs 8) (adr zs 24) (zs.getD 7 0) (zs.getD 6 0) a1 l1 c1), .agg (sgC (o6s zs).2.1 a2 l2 c2), ev (o6s zs).1]) ∧ Row8 w' a2 l2 c2 (o6s zs).2.2 ∧ Below w.heap.size w w' := by
  have HV := hide (R6.start w)
  unfold V6.zero6 zero7 at HV
  have hl := hr.1
  obtain ⟨n, rfl⟩ : ∃ n, len = n + 40 := ⟨len - 40, by have := hG.1; omega⟩
  have hnn : n ≤ 320 := by have := hG.2.1; omega
  have hbl : (zs.drop 40).length = n := by rw [List.length_drop]; omega
  have HD := hide (show ∀ W, Below w.heap.size w W → Calls Tryz.prog 116 #[.slice a (n + 40) cap] W fun e w' => ∃ a' c', e = .returned (.tuple #[.agg (V6.pkC (adr zs 8) (adr zs 24) (zs.getD 7 0) (zs.getD 6 0) a' n c'), .nilIface]) ∧ Row8 w' a' n c' (zs.drop 40) ∧ n ≤ c' ∧ c' ≤ maxLen ∧ Below W.heap.size W w' from fun W hb => (V6.decode_any a (n + 40) cap zs W (hr.below hb) hcl hcm).mono fun e w' ⟨h, hb'⟩ => by
    rcases h with ⟨h, _⟩ | ⟨_, a', c', e1, e2, e3, e4⟩
    · exact absurd hG h
    · rw [Nat.add_sub_cancel] at e1 e2 e3
      exact ⟨a', c', e1, e2, e3, e4, hb'⟩)
  have ho := hr.2.2.1
  have hs := V6.ok6_adr zs ho 8
  have hd := V6.ok6_adr zs ho 24
  have hk := up255 ho 6
  unfold o6s
  rw [hbl]
  have HOv := hide (fun W => over6_ok (adr zs 8) (adr zs 24) (zs.getD 6 0) n W hs hd hk (decide_eq_true ⟨by omega, by omega⟩))
  have hov := o6_in (adr zs 8) (adr zs 24) (zs.getD 6 0) n hs hd
  clear hr hG hcl hcm hs hd hk ho
  generalize o6 (adr zs 8) (adr zs 24) (zs.getD 6 0) n = ov at HOv hov ⊢
  generalize adr zs 8 = s at HD HOv ⊢
  generalize adr zs 24 = d at HD HOv ⊢
  generalize zs.getD 7 0 = h at HD ⊢
  generalize zs.getD 6 0 = k at HD HOv ⊢
  have HOs := hide (fun W a' c' (r : Row8 W a' n c' (zs.drop 40)) (h1 : n ≤ c') (h2 : c' ≤ maxLen) => openseg_any k ov h a' n c' (zs.drop 40) W r h1 h2 hov)
  generalize oso k ov h (zs.drop 40) = O at HOs ⊢
  have HZ := hide (fun W => V6.zero_new W)
  have HZ7 := hide (fun W => zero_new W)
  unfold V6.zero6 at HZ
  unfold zero7 at HZ7
  clear hov
  go_enter Tryz.func63, Tryz.ntmps63
  go_upto_region 1 with fail
  generalize (World.alloc _ _).alloc _ = W0 at HV ⊢
  go_upto_region 4 with (first
    | (go_at_call 116; refine (HD.out _ HV.out.2.2).mono ?_; rintro e w1 ⟨a1, c1, rfl, r1, k1, k2, hb1⟩; replace HV := hide (HV.out.kept hb1); have HZ1 := hide (HZ.out w1); replace r1 := hide r1; clear hb1)
    | (refine V6.at_store rfl (.tmp 5) (.tmp 12) rfl rfl HZ1.out s d h k a1 n c1 rfl ?_; intro w2 p2 on2; replace HV := hide (HV.out.kept (new_below _ on2)); replace r1 := hide (r1.out.below (new_below _ on2)); replace p2 := hide p2; clear on2))
  clear HZ1
  generalize w1.heap.size = B1 at p2 ⊢
  have l17 := p2.out.kind
  have l18 := p2.out.body
  go_upto_region 7 with (first
    | (refine V6.at_src rfl (.tmp 20) rfl rfl p2.out ?_)
    | (refine V6.at_dst rfl (.tmp 22) rfl rfl p2.out ?_)
    | (go_at_call 88; refine (HOv.out _).mono ?_; rintro e w3 ⟨rfl, hb3⟩; replace HV := hide (HV.out.kept hb3); replace r1 := hide (r1.out.below hb3); replace p2 := hide (p2.out.kept hb3); clear hb3 l17 l18))
  have l16 := p2.out.hop
  have l17 := p2.out.kind
  have l18 := p2.out.body
  go_upto_region 8 with (first
    | (go_at_call 117; refine (HOs.out _ a1 c1 r1.out k1 k2).mono ?_; rintro e w4 ⟨a4, l4, c4, rfl, r4, hb4⟩; replace HV := hide (HV.out.kept hb4); replace p2 := hide (p2.out.kept hb4); have HZ4 := hide (HZ7.out w4); replace r4 := hide r4; clear hb4 l16 l17 l18 r1)
    | (refine at_store rfl (.tmp 8) (.tmp 46) rfl rfl HZ4.out O.2.1 a4 l4 c4 rfl ?_; intro w5 p5 on5; replace HV := hide (HV.out.kept (new_below _ on5)); replace r4 := hide (r4.out.below (new_below _ on5)); replace p2 := hide (p2.out.kept (new_below _ on5)); replace p5 := hide p5; clear on5))
  clear HZ4
  generalize w4.heap.size = C1 at p5 ⊢
  have q1 := pl6 (w := w5.drew) p2.out
  have q2 := SgIn.gl (w := w5.drew) p5.out
  obtain ⟨wa, ha, pa, ona⟩ := V6.PkIn.held (w := w5.drew) HV.out.1 s d h k a1 n c1
  have nC : C1 ≠ w.heap.size := by
    rintro rfl
    have h1 : w5.heap[w.heap.size]? = _ := p5.out
    rw [show w5.heap[w.heap.size]? = _ from HV.out.1] at h1
    injection h1 with h1
    injection h1 with _ h2
    exact absurd h2 (by decide)
  have pC := ona.sg (w := w5.drew) p5.out nC
  have q2a := pC.gl
  obtain ⟨wb, hb, pb, onb⟩ := (ona.sg (w := w5.drew) HV.out.2.1 (by omega)).held O.2.1 a4 l4 c4
  have HP := hide (show V6.PkIn w.heap.size s d h k a1 n c1 wb from (onb.2.2.2.2 _ (by omega)).trans pa)
  have HS := hide pb
  have HB := hide (onb.below (ona.below (HV.out.2.2.drew) (Nat.le_refl _)) (Nat.le_succ _))
  have HR := hide (((r4.out.below (w' := w5.drew) ⟨rfl, rfl, rfl, Nat.le_refl _, fun _ _ => rfl⟩).pastn (no6 (w := w5.drew) HV.out.1) ona).past (ona.sg (w := w5.drew) HV.out.2.1 (by omega)) onb)
  clear pa ona pb onb pC nC HV p2 p5
  go_region
  all_goals
    go_wp2
    try simp only [Exit.inBlock, Exit.then]
    refine bodyPost_ret (results_p6 rfl _ _ w.heap.size (w.heap.size + 1) s d h k a1 n c1 O.2.1 a4 l4 c4 rfl rfl HP.out HS.out) rfl ?_
    exact ⟨a1, n, c1, a4, l4, c4, rfl, HR.out, HB.out⟩
end Go.Proofs.YtkhahbghmdccaaaGreatDoor
