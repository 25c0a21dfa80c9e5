/- Addresses loaded; one block that has turned. Flows as values, and which may be. Own ints: append; the first of a range. Servers as values: four numbers and two bools; rows of them; the place of the first that is wrong. Rows of servers of the call's own: append, parts of a slice, what is built. A server's score for a flow, as a number. What is asked of package pick, whatever it is made of. Flows and fours looked at, by contracts. -/
import Derived.Test.YtkhahbghmdccaaaGreatDoorF01
import Derived.Below
import Derived.OpenShut
import Derived.Test.YtkhahbghmdccaaaGreatDoorProg
import Derived.WalkKit
import Derived.LaidEql
import Derived.BigQuiet
import Derived.Laws.AppendOwnNone
import Derived.Laws.MakeOwn
import Derived.Deep.RegionLaw
import Derived.Lib.Bytes
import Derived.Deep.MidRow
import Derived.Laws.ResultCell
import Derived.Deep.CutBlock
import Derived.Deep.QuietTactic
import Derived.OwnWalk
import Derived.Deep.RegionHeld3
import Derived.Deep.DrawnRows
import Derived.Maps.AppendAt
import Derived.Test.YtkhahbghmdccaaaGreatDoorF06
import Derived.Laws.StructEq
import Derived.Test.YtkhahbghmdccaaaGreatDoorF09
namespace Go.Proofs.YtkhahbghmdccaaaGreatDoor
open Go.RowKit
theorem sixC_at (z : List Int) (j : Nat) (hj : j < 8) : (sixC z)[j]? = some (.int .i64 (el z j)) := by
  rcases (by omega : j = 0 ∨ j = 1 ∨ j = 2 ∨ j = 3 ∨ j = 4 ∨ j = 5 ∨ j = 6 ∨ j = 7) with rfl | rfl | rfl | rfl | rfl | rfl | rfl | rfl <;> rfl
end Go.Proofs.YtkhahbghmdccaaaGreatDoor

namespace Go.Proofs.YtkhahbghmdccaaaGreatDoor
open Go.RowKit
def flC (f : List Int) : Array Value := #[.int .i64 (el f 0), .int .i64 (el f 1), .int .i64 (el f 2), .int .i64 (el f 3), .int .i64 (el f 4), .int .i64 (el f 5), .int .i64 (el f 6), .int .i64 (el f 7), .int .i64 (el f 8), .int .i64 (el f 9), .int .i64 (el f 10), .int .i64 (el f 11), .int .i64 (el f 12), .int .i64 (el f 13), .int .i64 (el f 14), .int .i64 (el f 15), .int .i64 (el f 16), .int .i64 (el f 17), .int .i64 (el f 18)]
set_option maxRecDepth 10000 in
theorem flC_at (f : List Int) (j : Nat) (hj : j < 19) : (flC f)[j]? = some (.int .i64 (el f j)) := by
  rcases (by omega : j = 0 ∨ j = 1 ∨ j = 2 ∨ j = 3 ∨ j = 4 ∨ j = 5 ∨ j = 6 ∨ j = 7 ∨ j = 8 ∨ j = 9 ∨ j = 10 ∨ j = 11 ∨ j = 12 ∨ j = 13 ∨ j = 14 ∨ j = 15 ∨ j = 16 ∨ j = 17 ∨ j = 18) with rfl | rfl | rfl | rfl | rfl | rfl | rfl | rfl | rfl | rfl | rfl | rfl | rfl | rfl | rfl | rfl | rfl | rfl | rfl <;> rfl
def cli (f : List Int) : List Int := [el f 1, el f 2, el f 3, el f 4, el f 5, el f 6, el f 7, el f 8]
def dst (f : List Int) : List Int := [el f 10, el f 11, el f 12, el f 13, el f 14, el f 15, el f 16, el f 17]
theorem cli_el (f : List Int) (j : Nat) (hj : j < 8) : el (cli f) j = el f (1 + j) := by
  rcases (by omega : j = 0 ∨ j = 1 ∨ j = 2 ∨ j = 3 ∨ j = 4 ∨ j = 5 ∨ j = 6 ∨ j = 7) with rfl | rfl | rfl | rfl | rfl | rfl | rfl | rfl <;> rfl
theorem dst_el (f : List Int) (j : Nat) (hj : j < 8) : el (dst f) j = el f (10 + j) := by
  rcases (by omega : j = 0 ∨ j = 1 ∨ j = 2 ∨ j = 3 ∨ j = 4 ∨ j = 5 ∨ j = 6 ∨ j = 7) with rfl | rfl | rfl | rfl | rfl | rfl | rfl | rfl <;> rfl
def FlIn (B : Nat) (f : List Int) (w : World) : Prop := w.heap[B]? = some (.cells (flC f) 73 (0, 0))
theorem FlIn.lt {B : Nat} {b : List Int} {w : World} (p : FlIn B b w) : B < w.heap.size := (Array.getElem?_eq_some_iff.1 p).1
theorem FlIn.kept {B : Nat} {b : List Int} {w w' : World} (p : FlIn B b w) (hb : Below w.heap.size w w') : FlIn B b w' := (hb.block B p.lt).trans p
theorem fl_new (f : List Int) (w : World) : FlIn w.heap.size f (w.alloc (.cells (flC f) 73)) := heap_alloc_new w _
theorem FlIn.cell {B : Nat} {f : List Int} {w : World} (p : FlIn B f w) (j : Nat) (hj : j < 19) : w.cell? ⟨B, j, none⟩ = some (.int .i64 (el f j)) := (cell_of_row w B j _ _ _ p).trans (flC_at f j hj)
theorem FlIn.cli {B : Nat} {f : List Int} {w : World} (p : FlIn B f w) : w.rangeAt B 1 (sixC (cli f)).toList := by
  intro j v hv
  have hj : j < 8 := (List.getElem?_eq_some_iff.1 hv).1
  rw [p.cell (1 + j) (by omega), ← cli_el f j hj, ← sixC_at _ j hj]
  simpa using hv
theorem FlIn.dst {B : Nat} {f : List Int} {w : World} (p : FlIn B f w) : w.rangeAt B 10 (sixC (dst f)).toList := by
  intro j v hv
  have hj : j < 8 := (List.getElem?_eq_some_iff.1 hv).1
  rw [p.cell (10 + j) (by omega), ← dst_el f j hj, ← sixC_at _ j hj]
  simpa using hv
theorem FlIn.hc {B : Nat} {f : List Int} {w : World} (p : FlIn B f w) : (hload (.pointer (some ⟨B, 1, none⟩))).run Tryz.prog w = .ok (.agg (sixC (Go.Proofs.YtkhahbghmdccaaaGreatDoor.cli f))) w := run_loadAt_mid w B 1 23 _ _ p.cli Tryz.underlying23 rfl (by kernel_rfl)
theorem FlIn.hd {B : Nat} {f : List Int} {w : World} (p : FlIn B f w) : (hload (.pointer (some ⟨B, 10, none⟩))).run Tryz.prog w = .ok (.agg (sixC (Go.Proofs.YtkhahbghmdccaaaGreatDoor.dst f))) w := run_loadAt_mid w B 10 23 _ _ p.dst Tryz.underlying23 rfl (by kernel_rfl)
def fload (x : Value) : Sem Value := Instr.loadAt 73 x
theorem fload_shut (x : Value) : Instr.loadAt 73 x = fload x := rfl
theorem FlIn.fl {B : Nat} {f : List Int} {w : World} (p : FlIn B f w) : (fload (.pointer (some ⟨B, 0, none⟩))).run Tryz.prog w = .ok (.agg (flC f)) w :=
  run_loadAt_mid w B 0 73 (flC f).toList _ (fun j v hv => by rw [Nat.zero_add, cell_of_row w B j _ _ _ p]; simpa using hv) Tryz.underlying73 rfl (by kernel_rfl)
def wd (n : Int) : Bool := decide (0 ≤ n) && decide (n ≤ 65535)
def fr (n : Int) : Bool := decide (0 ≤ n) && decide (n ≤ 4294967295)
theorem wd_iff (n : Int) : wd n = true ↔ Word n := by unfold wd Word; rw [Bool.and_eq_true, decide_eq_true_eq, decide_eq_true_eq]
def s6 (z : List Int) : Bool := wd (el z 0) && wd (el z 1) && wd (el z 2) && wd (el z 3) && wd (el z 4) && wd (el z 5) && wd (el z 6) && wd (el z 7)
theorem s6_iff (z : List Int) : s6 z = true ↔ Ok6 z := by
  unfold s6 Ok6
  simp only [Bool.and_eq_true, wd_iff]
  refine ⟨fun ⟨⟨⟨⟨⟨⟨⟨h0, h1⟩, h2⟩, h3⟩, h4⟩, h5⟩, h6⟩, h7⟩ j hj => ?_, fun h => ⟨⟨⟨⟨⟨⟨⟨h 0 (by omega), h 1 (by omega)⟩, h 2 (by omega)⟩, h 3 (by omega)⟩, h 4 (by omega)⟩, h 5 (by omega)⟩, h 6 (by omega)⟩, h 7 (by omega)⟩⟩
  rcases (by omega : j = 0 ∨ j = 1 ∨ j = 2 ∨ j = 3 ∨ j = 4 ∨ j = 5 ∨ j = 6 ∨ j = 7) with rfl | rfl | rfl | rfl | rfl | rfl | rfl | rfl <;> assumption
def fe (b : Bool) : Int := if b = true then 0 else 1
def okf (f : List Int) : Bool := ((el f 0 == 6) || (el f 0 == 17)) && s6 (cli f) && s6 (dst f) && wd (el f 9) && wd (el f 18)
end Go.Proofs.YtkhahbghmdccaaaGreatDoor

namespace Go.Proofs.YtkhahbghmdccaaaGreatDoor
open Go.RowKit
theorem find_none {f : Nat → Bool} {n : Nat} (h : ∀ j, j < n → f j = false) : (List.range n).find? f = none := by
  rw [List.find?_eq_none]
  intro x hx
  rw [h x (List.mem_range.1 hx)]
  decide
theorem find_some {f : Nat → Bool} {n i : Nat} (hi : i < n) (h3 : f i = true) (h : ∀ j, j < i → f j = false) : (List.range n).find? f = some i := by
  rw [List.find?_range_eq_some]
  exact ⟨h3, List.mem_range.2 hi, fun j hj => by rw [h j hj]; rfl⟩
end Go.Proofs.YtkhahbghmdccaaaGreatDoor

namespace Go.Proofs.YtkhahbghmdccaaaGreatDoor
open Go.RowKit
def bkC (b : List Int) : Array Value := #[.int .i64 (el b 0), .int .i64 (el b 1), .int .i64 (el b 2), .int .i64 (el b 3), .bool (el b 4 == 1), .bool (el b 5 == 1)]
theorem bkC_int (b : List Int) (j : Nat) (hj : j < 4) : (bkC b)[j]? = some (.int .i64 (el b j)) := by
  rcases (by omega : j = 0 ∨ j = 1 ∨ j = 2 ∨ j = 3) with rfl | rfl | rfl | rfl <;> rfl
theorem bkC_up (b : List Int) : (bkC b)[4]? = some (.bool (el b 4 == 1)) := rfl
theorem bkC_dr (b : List Int) : (bkC b)[5]? = some (.bool (el b 5 == 1)) := rfl
def Bks (a : Option Addr) (bs : List (List Int)) (w : World) : Prop := 0 < bs.length → ∃ g off, a = some ⟨g, off, none⟩ ∧ g < w.heap.size ∧ ∀ k, k < bs.length → w.rangeAt g (off + k * 6) (bkC (bs.getD k [])).toList
theorem Bks.below {a : Option Addr} {bs : List (List Int)} {w w' : World} (h : Bks a bs w) (hb : Below w.heap.size w w') : Bks a bs w' := by
  intro hp
  obtain ⟨g, off, e, hlt, hx⟩ := h hp
  refine ⟨g, off, e, Nat.lt_of_lt_of_le hlt hb.size, fun k hk j u hu => ?_⟩
  rw [hb.cell (p := ⟨g, off + k * 6 + j, none⟩) hlt]
  exact hx k hk j u hu
theorem rng_int {w : World} {g o : Nat} {b : List Int} (h : w.rangeAt g o (bkC b).toList) (j : Nat) (hj : j < 4) : w.cell? ⟨g, o + j, none⟩ = some (.int .i64 (el b j)) := h j _ (by have := bkC_int b j hj; simpa using this)
theorem rng_id {w : World} {g o : Nat} {b : List Int} (h : w.rangeAt g o (bkC b).toList) : w.cell? ⟨g, o, none⟩ = some (.int .i64 (el b 0)) := rng_int h 0 (by omega)
theorem rng_up {w : World} {g o : Nat} {b : List Int} (h : w.rangeAt g o (bkC b).toList) : w.cell? ⟨g, o + 4, none⟩ = some (.bool (el b 4 == 1)) := h 4 _ (by have := bkC_up b; simpa using this)
theorem rng_dr {w : World} {g o : Nat} {b : List Int} (h : w.rangeAt g o (bkC b).toList) : w.cell? ⟨g, o + 5, none⟩ = some (.bool (el b 5 == 1)) := h 5 _ (by have := bkC_dr b; simpa using this)
def kload (x : Value) : Sem Value := Instr.loadAt 95 x
theorem kload_shut (x : Value) : Instr.loadAt 95 x = kload x := rfl
theorem rng_kl {w : World} {g o : Nat} {b : List Int} (h : w.rangeAt g o (bkC b).toList) : (kload (.pointer (some ⟨g, o, none⟩))).run Tryz.prog w = .ok (.agg (bkC b)) w := run_loadAt_mid w g o 95 _ _ h Tryz.underlying95 rfl (by kernel_rfl)
def BkIn (B : Nat) (b : List Int) (w : World) : Prop := w.heap[B]? = some (.cells (bkC b) 95 (0, 0))
theorem BkIn.lt {B : Nat} {b : List Int} {w : World} (p : BkIn B b w) : B < w.heap.size := (Array.getElem?_eq_some_iff.1 p).1
theorem BkIn.kept {B : Nat} {b : List Int} {w w' : World} (p : BkIn B b w) (hb : Below w.heap.size w w') : BkIn B b w' := (hb.block B p.lt).trans p
def zero4b : Array Value := #[.int .i64 0, .int .i64 0, .int .i64 0, .int .i64 0, .bool false, .bool false]
theorem bk_zero (w : World) : BkIn w.heap.size [] (w.alloc (.cells zero4b 95)) := heap_alloc_new w _
theorem bk_new (b : List Int) (w : World) : BkIn w.heap.size b (w.alloc (.cells (bkC b) 95)) := heap_alloc_new w _
theorem BkIn.rng {B : Nat} {b : List Int} {w : World} (p : BkIn B b w) : w.rangeAt B 0 (bkC b).toList := fun j v hv => by rw [Nat.zero_add, cell_of_row w B j _ _ _ p]; simpa using hv
theorem BkIn.kl {B : Nat} {b : List Int} {w : World} (p : BkIn B b w) : (kload (.pointer (some ⟨B, 0, none⟩))).run Tryz.prog w = .ok (.agg (bkC b)) w := rng_kl p.rng
theorem BkIn.stored {B : Nat} {b0 : List Int} {w : World} (p : BkIn B b0 w) (b : List Int) : BkIn B b (w.setRow B (bkC b)) := setRow_heap w B _ _ _ (0, 0) p
theorem at_storek {ops : Array Oper} {rest : List Oper} {o : Oper} {f : Act} {w : World} {Q : Exit → Act → World → Prop} (hgd : o.guard = none) (x y : Operand) (ho : o.op = .store 95 x y)
    {B : Nat} {b0 : List Int} (hx : f.eval x = .pointer (some ⟨B, 0, none⟩)) (p : BkIn B b0 w) (b : List Int) (hy : f.eval y = .agg (bkC b))
    (hK : ∀ w', BkIn B b w' → Only B w w' → wpList Tryz.prog ops Q rest (f.put o.dst undef) w') : wpList Tryz.prog ops Q (o :: rest) f w :=
  wpList_store_row hgd 95 x y ho B _ hx hy 95 _ p (by kernel_rfl) rfl (by unfold bkC; simp [Value.oneCell']) (hK _ (p.stored b) (only_setRow _ _ _))
theorem results_bk {fn : Func} {p u : Tmp} (h : fn.results = #[.cell p 95, .tmp u]) (tmps : Array Value) (w : World) (B : Nat) (b : List Int)
    (ht : tmps.getD p undef = .pointer (some ⟨B, 0, none⟩)) (hg : BkIn B b w) :
    (results fn tmps).run Tryz.prog w = .ok (.tuple #[.agg (bkC b), tmps.getD u undef]) w := by
  rw [results_cell_tmp h, ht]
  have hl := run_loadVar_row (P := Tryz.prog) w B 95 95 _ (0, 0) _ hg Tryz.underlying95 rfl (by kernel_rfl)
  simp [asAddr, hl]
def okb (b : List Int) : Bool := wd (el b 0) && wd (el b 2) && fr (el b 1) && (decide (0 ≤ el b 3) && decide (el b 3 ≤ 10))
def sid (bs : List (List Int)) (i : Nat) : Bool := (List.range i).any fun k => el (bs.getD k []) 0 == el (bs.getD i []) 0
def flt (bs : List (List Int)) (i : Nat) : Int := if okb (bs.getD i []) = true then (if sid bs i = true then 8 else 0) else 1
def bfo (o : Option Nat) (bs : List (List Int)) : Int × Int := match o with | some i => ((i : Int), flt bs i) | none => (0, 0)
def bf (bs : List (List Int)) : Int × Int := if 8 < bs.length then (0, 3) else bfo ((List.range bs.length).find? fun i => flt bs i != 0) bs
theorem bf_some {bs : List (List Int)} {i : Nat} (hl : ¬ 8 < bs.length) (hi : i < bs.length) (h1 : (flt bs i != 0) = true) (h : ∀ j, j < i → (flt bs j != 0) = false) : bf bs = ((i : Int), flt bs i) := by
  unfold bf
  rw [if_neg hl, find_some hi h1 h]
  rfl
theorem bf_none {bs : List (List Int)} (hl : ¬ 8 < bs.length) (h : ∀ j, j < bs.length → (flt bs j != 0) = false) : bf bs = (0, 0) := by
  unfold bf
  rw [if_neg hl, find_none h]
  rfl
theorem bf_ok {bs : List (List Int)} (h : (bf bs).2 = 0) : bs.length ≤ 8 ∧ ∀ i, i < bs.length → okb (bs.getD i []) = true ∧ sid bs i = false := by
  unfold bf at h
  split at h
  · cases h
  · rename_i hl
    refine ⟨by omega, fun i hi => ?_⟩
    cases ho : (List.range bs.length).find? fun i => flt bs i != 0 with
    | some j =>
      rw [ho] at h
      have h1 := List.find?_some ho
      have h2 : flt bs j = 0 := h
      simp [h2] at h1
    | none =>
      rw [List.find?_eq_none] at ho
      have h1 := ho i (List.mem_range.2 hi)
      have h2 : flt bs i = 0 := by simpa using h1
      unfold flt at h2
      cases hk : okb (bs.getD i [])
      · rw [hk] at h2; simp at h2
      · rw [hk] at h2
        cases hs : sid bs i
        · exact ⟨rfl, rfl⟩
        · rw [hs] at h2; simp at h2
end Go.Proofs.YtkhahbghmdccaaaGreatDoor

namespace Go.Proofs.YtkhahbghmdccaaaGreatDoor
open Go.RowKit
theorem owns_same {w w' : World} {base : Nat} {e : TypeId} {size : Nat} {v : Value} {n : Nat} {xs : List Value} (h : w.ownsRow base e size v n xs) (hb : ∀ g, v.ownBlock = some g → w'.heap[g]? = w.heap[g]?) : w'.ownsRow base e size v n xs := by
  refine ⟨h.1, ?_⟩
  rcases h.2 with h2 | ⟨g, cap, cur, rfl, hb', hg, rest⟩
  · exact .inl h2
  · exact .inr ⟨g, cap, cur, rfl, hb', (hb g rfl).trans hg, rest⟩
theorem owns_lt {w : World} {base : Nat} {e : TypeId} {size : Nat} {v : Value} {n : Nat} {xs : List Value} (h : w.ownsRow base e size v n xs) (g : Nat) (hg : v.ownBlock = some g) : g < w.heap.size ∧ base ≤ g := by
  rcases h.2 with ⟨rfl, _⟩ | ⟨g', cap, cur, rfl, hb', hgc, _⟩
  · simp [Value.ownBlock] at hg
  · have : g' = g := by simpa [Value.ownBlock] using hg
    subst this
    exact ⟨(Array.getElem?_eq_some_iff.1 hgc).1, hb'⟩
def kvs (bs : List (List Int)) : List Value := bs.flatMap fun b => (bkC b).toList
def OwK (base : Nat) (w : World) (v : Value) (bs : List (List Int)) : Prop := w.ownsRow base 95 6 v bs.length (kvs bs)
theorem OwK.nil (base : Nat) (w : World) : OwK base w (.slice none 0 0) [] := World.ownsRow_nil _ _ _ _
theorem kvs_len (bs : List (List Int)) : (kvs bs).length = bs.length * 6 := by
  induction bs with
  | nil => rfl
  | cons z r ih => unfold kvs at ih ⊢; rw [List.flatMap_cons, List.length_append, ih, List.length_cons, show (bkC z).toList.length = 6 from rfl]; omega
theorem kvs_app (a b : List (List Int)) : kvs (a ++ b) = kvs a ++ kvs b := List.flatMap_append
theorem kvs_at (bs : List (List Int)) (k j : Nat) (h : k < bs.length) (hj : j < 6) : (kvs bs)[k * 6 + j]? = (bkC (bs.getD k [])).toList[j]? := by
  induction bs generalizing k with
  | nil => exact absurd h (by simp)
  | cons z r ih =>
    unfold kvs at ih ⊢
    rw [List.flatMap_cons]
    have hl : (bkC z).toList.length = 6 := rfl
    cases k with
    | zero =>
      rw [List.getElem?_append_left (by omega), Nat.zero_mul, Nat.zero_add]
      rfl
    | succ k =>
      rw [List.getElem?_append_right (by omega), hl, show (k + 1) * 6 + j - 6 = k * 6 + j by omega, ih k (by simpa using h)]
      rfl
theorem OwK.bks {base : Nat} {w : World} {v : Value} {bs : List (List Int)} (h : OwK base w v bs) : ∃ a cap, v = .slice a bs.length cap ∧ bs.length ≤ cap ∧ Bks a bs w := by
  have h' : w.ownsRow base 95 6 v bs.length (kvs bs) := h
  rcases h.2 with ⟨rfl, hn⟩ | ⟨g, cap, cur, rfl, _, hg, hnc, _⟩
  · exact ⟨none, 0, by rw [hn], by omega, fun hp => by omega⟩
  · refine ⟨_, cap, rfl, hnc, fun _ => ⟨g, 0, rfl, (Array.getElem?_eq_some_iff.1 hg).1, fun k hk j v hv => ?_⟩⟩
    have hj : j < 6 := (List.getElem?_eq_some_iff.1 hv).1
    rw [Nat.zero_add, World.ownsRow.cellAt h' (k * 6 + j) (by omega), kvs_at bs k j hk hj]
    exact hv
theorem Tryz.infoBack : (Tryz.prog.info? 95).map (fun i => (i.zero, i.size, i.bytes)) = some (some (.agg zero4b), 6, 40) := by kernel_rfl
theorem ap_K {w : World} {ops : Array Oper} {rest : List Oper} {o : Oper} {a : Act} {Q : Exit → Act → World → Prop} (hgd : o.guard = none) (s x : Operand)
    (ho : o.op = .call { callee := .builtin .append, args := #[s, x], argTypes := #[24, 24] })
    (base : Nat) (v : Value) (l : List (List Int)) (hs : a.eval s = v) (hown : OwK base w v l) (g off m c : Nat) (l2 : List (List Int)) (hx : a.eval x = .slice (some ⟨g, off, none⟩) m c) (hl : l2.length = m)
    (hc : ∀ j, j < m → w.rangeAt g (off + j * 6) (bkC (l2.getD j [])).toList) (hlen : l.length + m ≤ 1000000) (hbase : base ≤ w.heap.size)
    (h : ∀ v' w', OwK base w' v' (l ++ l2) → w.grownBy w' v.ownBlock → wpList Tryz.prog ops Q rest (a.put o.dst v') w') : wpList Tryz.prog ops Q (o :: rest) a w := by
  obtain ⟨i0, hi, hz0, hz1, hz2⟩ := info_parts Tryz.infoBack
  have hown' : w.ownsRow base 95 6 v l.length (kvs l) := hown
  refine wpList_append_own_at _ hgd s x 24 ho base 95 i0 _ 6 40 Tryz.underlying24 hi hz0 hz1 hz2 rfl (by decide) v l.length (kvs l) hs hown' ⟨g, off, none⟩ m c (kvs l2) hx (by rw [kvs_len, hl]) ?_ ?_ (by unfold maxLen; omega) (by omega) hbase ?_
  · intro j u hu
    have hj : j < l2.length * 6 := by have := (List.getElem?_eq_some_iff.1 hu).1; rwa [kvs_len] at this
    have h8 := kvs_at l2 (j / 6) (j % 6) (by omega) (by omega)
    rw [show j / 6 * 6 + j % 6 = j by omega, hu] at h8
    have h9 := hc (j / 6) (by omega) (j % 6) u h8.symm
    rw [add_pl, show off + j = off + j / 6 * 6 + j % 6 by omega]
    exact h9
  · intro u hu
    unfold kvs at hu
    obtain ⟨z, _, h2⟩ := List.mem_flatMap.1 hu
    unfold bkC at h2
    simp at h2
    rcases h2 with rfl | rfl | rfl | rfl | rfl | rfl <;> rfl
  · intro v' w' h1 h2 _ h5
    refine h v' w' ?_ h2
    unfold OwK
    rw [kvs_app, List.length_append, hl]
    exact h1
def fbl (ps : Array (Nat × Value)) : Sem Value := Instr.build 73 ps
theorem fbl_shut (ps : Array (Nat × Value)) : Instr.build 73 ps = fbl ps := rfl
end Go.Proofs.YtkhahbghmdccaaaGreatDoor

namespace Go.Proofs.YtkhahbghmdccaaaGreatDoor
open Go.RowKit
def sok (seed : Int) (f : List Int) (id : Int) : Bool := decide (0 ≤ seed) && decide (seed ≤ 2147483647) && wd id && okf f
theorem sok_iff {seed : Int} {f : List Int} {id : Int} : sok seed f id = true ↔ 0 ≤ seed ∧ seed ≤ 2147483647 ∧ wd id = true ∧ okf f = true := by
  unfold sok
  rw [Bool.and_eq_true, Bool.and_eq_true, Bool.and_eq_true, decide_eq_true_eq, decide_eq_true_eq]
  constructor
  · rintro ⟨⟨⟨a, b⟩, c⟩, d⟩; exact ⟨a, b, c, d⟩
  · rintro ⟨a, b, c, d⟩; exact ⟨⟨⟨a, b⟩, c⟩, d⟩
def nl (f : List Int) (n : Nat) : List Int := (List.range n).map (el f)
def nums (f : List Int) (id : Int) : List Int := nl f 19 ++ [id]
theorem okf_el {f : List Int} (h : okf f = true) (j : Nat) (hj : j < 19) : 0 ≤ el f j ∧ el f j ≤ 65535 := by
  unfold okf at h
  simp only [Bool.and_eq_true, Bool.or_eq_true, beq_iff_eq] at h
  obtain ⟨⟨⟨⟨h0, h1⟩, h2⟩, h3⟩, h4⟩ := h
  rw [wd_iff] at h3 h4
  rw [s6_iff] at h1 h2
  rcases (by omega : j = 0 ∨ (1 ≤ j ∧ j < 9) ∨ j = 9 ∨ (10 ≤ j ∧ j < 18) ∨ j = 18) with rfl | ⟨a, b⟩ | rfl | ⟨a, b⟩ | rfl
  · rcases h0 with e | e <;> rw [e] <;> omega
  · have := h1 (j - 1) (by omega)
    rw [cli_el f _ (by omega), show 1 + (j - 1) = j by omega] at this
    exact this
  · exact h3
  · have := h2 (j - 10) (by omega)
    rw [dst_el f _ (by omega), show 10 + (j - 10) = j by omega] at this
    exact this
  · exact h4
theorem nums_in {seed : Int} {f : List Int} {id : Int} (h : sok seed f id = true) : ∀ x ∈ nums f id, 0 ≤ x ∧ x ≤ 65535 := by
  obtain ⟨-, -, h3, h4⟩ := sok_iff.1 h
  intro x hx
  unfold nums at hx
  rcases List.mem_append.1 hx with hx | hx
  · unfold nl at hx
    obtain ⟨j, hj, rfl⟩ := List.mem_map.1 hx
    exact okf_el h4 j (List.mem_range.1 hj)
  · rw [List.mem_singleton] at hx
    subst hx
    exact (wd_iff _).1 h3
def mx (x n : Int) : Int := (x * 69069 + n + 1).tmod 2147483648
theorem mx_in {x n : Int} (h1 : 0 ≤ x) (h2 : 0 ≤ n) : 0 ≤ mx x n ∧ mx x n < 2147483648 := by
  unfold mx
  have h : 0 ≤ x * 69069 + n + 1 := by omega
  rw [Int.tmod_eq_emod_of_nonneg h]
  omega
def mxs (seed : Int) (l : List Int) : Int := l.foldl mx seed
theorem mxs_snoc (seed : Int) (l : List Int) (n : Int) : mxs seed (l ++ [n]) = mx (mxs seed l) n := by unfold mxs; rw [List.foldl_append]; rfl
theorem mxs_in {seed : Int} (h0 : 0 ≤ seed ∧ seed < 2147483648) : ∀ l : List Int, (∀ x ∈ l, 0 ≤ x) → 0 ≤ mxs seed l ∧ mxs seed l < 2147483648 := by
  intro l
  unfold mxs
  induction l generalizing seed with
  | nil => intro _; exact h0
  | cons a r ih =>
    intro h
    rw [List.foldl_cons]
    exact ih (mx_in h0.1 (h a (List.mem_cons_self ..))) (fun x hx => h x (List.mem_cons_of_mem _ hx))
def sc (seed : Int) (f : List Int) (id : Int) : Int := (mxs seed (nums f id)).tdiv 256
theorem sc_in {seed : Int} {f : List Int} {id : Int} (h : sok seed f id = true) : 0 ≤ sc seed f id ∧ sc seed f id < 8388608 := by
  obtain ⟨h1, h2, -, -⟩ := sok_iff.1 h
  have := mxs_in (seed := seed) ⟨h1, by omega⟩ (nums f id) (fun x hx => (nums_in h x hx).1)
  unfold sc
  rw [Int.tdiv_eq_ediv_of_nonneg this.1]
  omega
def sv (seed : Int) (f : List Int) (id : Int) : Int := if sok seed f id = true then sc seed f id else 0
theorem sv_in (seed : Int) (f : List Int) (id : Int) : 0 ≤ sv seed f id ∧ sv seed f id < 8388608 := by
  unfold sv
  split
  · rename_i h; exact sc_in h
  · omega
def cand (b : List Int) : Bool := (el b 4 == 1) && !(el b 5 == 1) && !(el b 3 == 0)
def pv (seed : Int) (f : List Int) (b : List Int) : Int := sv seed f (el b 0) * el b 3
def btr (bs : List (List Int)) (o : Option Nat) (m n : Int) (k : Nat) : Bool := match o with | none => true | some i => decide (m < n) || ((n == m) && decide (el (bs.getD k []) 0 < el (bs.getD i []) 0))
def pst (seed : Int) (f : List Int) (bs : List (List Int)) : Nat → Option Nat × Int
  | 0 => (none, 0)
  | k + 1 => if cand (bs.getD k []) = true then (if btr bs (pst seed f bs k).1 (pst seed f bs k).2 (pv seed f (bs.getD k [])) k = true then (some k, pv seed f (bs.getD k [])) else pst seed f bs k) else pst seed f bs k
theorem pst_lt (seed : Int) (f : List Int) (bs : List (List Int)) : ∀ k i, (pst seed f bs k).1 = some i → i < k
  | 0, i, h => by cases h
  | k + 1, i, h => by
    simp only [pst] at h
    split at h
    · split at h
      · injection h with h; omega
      · have := pst_lt seed f bs k i h; omega
    · have := pst_lt seed f bs k i h; omega
def pkr (o : Option Nat) (bs : List (List Int)) : List Int × Int := match o with | none => ([], 4) | some i => (bs.getD i [], 0)
def pko (seed : Int) (f : List Int) (bs : List (List Int)) : List Int × Int := if (bf bs).2 = 0 then (if sok seed f 0 = true then pkr (pst seed f bs bs.length).1 bs else ([], 1)) else ([], (bf bs).2)
end Go.Proofs.YtkhahbghmdccaaaGreatDoor

namespace Go.Proofs.YtkhahbghmdccaaaGreatDoor
open Go.RowKit
def JKc : Prop := ∀ (a : Option Addr) (cap : Nat) (bs : List (List Int)) (w : World), Bks a bs w → bs.length ≤ maxLen → bs.length ≤ cap →
  Calls Tryz.prog 98 #[.slice a bs.length cap] w fun e w' => e = .returned (.tuple #[.int .i64 (bf bs).1, ev (bf bs).2]) ∧ Below w.heap.size w w'
def JKs : Prop := ∀ (seed : Int) (f : List Int) (id : Int) (w : World),
  Calls Tryz.prog 166 #[.int .i64 seed, .agg (flC f), .int .i64 id] w fun e w' => e = .returned (.tuple #[.int .i64 (sv seed f id), ev (fe (sok seed f id))]) ∧ Below w.heap.size w w'
def JKp : Prop := ∀ (seed : Int) (f : List Int) (a : Option Addr) (cap : Nat) (bs : List (List Int)) (w : World), Bks a bs w → bs.length ≤ maxLen → bs.length ≤ cap →
  Calls Tryz.prog 119 #[.int .i64 seed, .agg (flC f), .slice a bs.length cap] w fun e w' => e = .returned (.tuple #[.agg (bkC (pko seed f bs).1), ev (pko seed f bs).2]) ∧ Below w.heap.size w w'
end Go.Proofs.YtkhahbghmdccaaaGreatDoor

namespace Go.Proofs.YtkhahbghmdccaaaGreatDoor
open Go.RowKit
theorem pcheck_ok (z : List Int) (W : World) (hz : Ok6 z) : Calls Tryz.prog 95 #[.agg (sixC z)] W fun e w' => e = .returned .nilIface ∧ Below W.heap.size W w' :=
  (check_ok z W hz).mono fun e w' ⟨h1, h2⟩ => ⟨h1, by rw [h2]; exact al_below _ _⟩
theorem pcheck_bad (z : List Int) (W : World) (hz : ¬ Ok6 z) : Calls Tryz.prog 95 #[.agg (sixC z)] W fun e w' => e = .returned (.iface 28 (.int .i64 1)) ∧ Below W.heap.size W w' :=
  (check_bad z W hz).mono fun e w' ⟨h1, h2⟩ => ⟨h1, by rw [h2]; exact al_below _ _⟩
def um (m x : Int) : Bool := decide (0 ≤ x) && decide (x ≤ m)
theorem um_iff (m x : Int) : um m x = true ↔ 0 ≤ x ∧ x ≤ m := by unfold um; rw [Bool.and_eq_true, decide_eq_true_eq, decide_eq_true_eq]
def bups (m : Int) (l : List Int) : Bool := l.all (um m)
theorem bups_iff (m : Int) (l : List Int) : bups m l = true ↔ ∀ i, i < l.length → um m (l.getD i 0) = true := by
  unfold bups
  rw [List.all_eq_true]
  constructor
  · intro h i hi
    exact h _ (by simp [List.getD_eq_getElem?_getD, hi])
  · intro h x hx
    obtain ⟨i, hi, rfl⟩ := List.mem_iff_getElem.1 hx
    have := h i hi
    simpa [List.getD_eq_getElem?_getD, hi] using this
set_option maxHeartbeats 400000 in
theorem bupto_any (m : Int) (B n : Nat) (l : List Int) (w : World) (hn : l.length = n) (hm : n ≤ 1000) (hc : Ints B l w) :
    Calls Tryz.prog 134 #[.int .i64 m, .slice (some ⟨B, 0, none⟩) n n] w fun e w' => e = .returned (.bool (bups m l)) ∧ w' = w := by
  have HU := hide (bups_iff m l)
  have HC := hide hc
  have HN := hide hn
  clear hc
  generalize bups m l = u at HU ⊢
  go_enter Tryz.func134, Tryz.ntmps134
  go_wp2
  go_loop [9] (fun t => ∃ k : Nat, k ≤ n ∧ Hid (∀ i, i < k → um m (l.getD i 0) = true) ∧ t = .int .i64 k) (fun t => n - (intOf t).toNat)
  case atStart => exact ⟨0, by omega, fun i hi => absurd hi (by omega), rfl⟩
  case round =>
    obtain ⟨k, hk, HI, rfl⟩ := hrel
    by_cases hlt : k < n
    · have hck := HC.out.cell k (by omega)
      generalize hzk : l.getD k 0 = z at hck
      have HZ := hide hzk
      clear hzk hn
      by_cases hz0 : z < 0
      · go_wp2
        go_ret
        exact ⟨congrArg (fun b => Ending.returned (.bool b)) (Eq.symm (Bool.eq_false_iff.2 fun h => by have := (um_iff _ _).1 (HU.out.1 h k (by rw [HN.out]; exact hlt)); rw [HZ.out] at this; omega)), rfl⟩
      · by_cases hz1 : m < z
        · go_wp2
          go_ret
          exact ⟨congrArg (fun b => Ending.returned (.bool b)) (Eq.symm (Bool.eq_false_iff.2 fun h => by have := (um_iff _ _).1 (HU.out.1 h k (by rw [HN.out]; exact hlt)); rw [HZ.out] at this; omega)), rfl⟩
        · go_wp2
          go_round
          case rel => exact ⟨k + 1, by omega, fun i hi => if h : i = k then by subst h; rw [HZ.out]; exact (um_iff _ _).2 ⟨by omega, by omega⟩ else HI.out i (by omega), by go_num⟩
          case measure => simp [intOf]; omega
    · go_wp2
      go_ret
      obtain rfl : k = n := by omega
      exact ⟨congrArg (fun b => Ending.returned (.bool b)) (Eq.symm (HU.out.2 fun i hi => HI.out i (by rw [← HN.out]; exact hi))), rfl⟩
theorem uptoWW (x y : Int) (W : World) : Calls Tryz.prog 134 #[.int .i64 65535, .slice (some ⟨W.heap.size, 0, none⟩) 2 2] (W.alloc (.cells #[.int .i64 x, .int .i64 y] 3)) fun e w' => e = .returned (.bool (wd x && wd y)) ∧ Below W.heap.size W w' :=
  (bupto_any 65535 W.heap.size 2 [x, y] _ rfl (by omega) (ints_new W [x, y])).mono fun e w' ⟨h1, h2⟩ => ⟨h1.trans (by rw [show bups 65535 [x, y] = (wd x && wd y) by unfold bups um wd; simp]), by rw [h2]; exact al_below _ _⟩
theorem pck (z : List Int) (W : World) : Calls Tryz.prog 95 #[.agg (sixC z)] W fun e w' => e = .returned (ev (fe (s6 z))) ∧ Below W.heap.size W w' := by
  cases h : s6 z
  · exact pcheck_bad z W (fun h' => by rw [(s6_iff z).2 h'] at h; cases h)
  · exact pcheck_ok z W ((s6_iff z).1 h)
theorem bc4_any (a : Int) (w : World) : Calls Tryz.prog 97 #[.int .i64 a] w fun e w' => e = .returned (ev (fe (fr a))) ∧ w' = w := by
  unfold fr
  by_cases h0 : a < 0
  · have hd : decide (0 ≤ a) = false := decide_eq_false (by omega)
    rw [hd]
    go_enter Tryz.func97, Tryz.ntmps97
    go_wp2
    go_ret
    exact ⟨rfl, rfl⟩
  · have hd : decide (0 ≤ a) = true := decide_eq_true (by omega)
    rw [hd]
    by_cases h1 : 4294967295 < a
    · have hd1 : decide (a ≤ 4294967295) = false := decide_eq_false (by omega)
      rw [hd1]
      go_enter Tryz.func97, Tryz.ntmps97
      go_wp2
      go_ret
      exact ⟨rfl, rfl⟩
    · have hd1 : decide (a ≤ 4294967295) = true := decide_eq_true (by omega)
      rw [hd1]
      go_enter Tryz.func97, Tryz.ntmps97
      go_wp2
      go_ret
      exact ⟨rfl, rfl⟩
attribute [local go_sem ↓] hload_shut
set_option maxRecDepth 100000 in
set_option maxHeartbeats 2000000 in
theorem bcheck (f : List Int) (w : World) : Calls Tryz.prog 171 #[.agg (flC f)] w fun e w' => e = .returned (ev (fe (okf f))) ∧ Below w.heap.size w w' := by
  have HB := hide (al_below w (.cells (flC f) 73))
  have HP := hide (fl_new f w)
  have HU := hide (fun W => uptoWW (el f 9) (el f 18) W)
  have HC := hide (fun W => pck (cli f) W)
  have HD := hide (fun W => pck (dst f) W)
  have HO := hide (show okf f = (((el f 0 == 6) || (el f 0 == 17)) && s6 (cli f) && s6 (dst f) && (wd (el f 9) && wd (el f 18))) by unfold okf; rw [Bool.and_assoc (_ && _)])
  generalize okf f = ok at HO ⊢
  generalize (wd (el f 9) && wd (el f 18)) = pp at HU HO
  generalize s6 (cli f) = sc at HC HO
  generalize s6 (dst f) = sd at HD HO
  obtain ⟨k, hk⟩ : ∃ x, el f 0 = x := ⟨_, rfl⟩
  rw [hk] at HO
  have HKd := hide hk
  clear hk
  go_enter Tryz.func171, Tryz.ntmps171
  go_upto_region 1 with fail
  generalize w.alloc _ = W at HB HP ⊢
  have c0 := HP.out.cell 0 (by omega)
  have g1 := HP.out.hc
  rw [HKd.out] at c0
  clear HKd
  by_cases kk : k = 6 ∨ k = 17
  · have hkb : ((k == 6) || (k == 17)) = true := by simpa using kk
    rw [hkb] at HO
    clear hkb
    rcases kk with rfl | rfl
    all_goals
      cases sc
      · rw [show ev (fe false) = err 1 from rfl] at HC
        unfold err at HC
        go_wp2_with (go_at_call 95; (with_reducible refine (HC.out _).mono ?_); rintro e w2 ⟨rfl, hb2⟩; replace HB := hide (bt HB.out hb2); clear hb2)
        go_ret
        exact ⟨by rw [HO.out]; rfl, HB.out⟩
      · rw [show ev (fe true) = .nilIface from rfl] at HC
        cases sd
        · rw [show ev (fe false) = err 1 from rfl] at HD
          unfold err at HD
          go_wp2_with (first
            | (go_at_call 95; (with_reducible refine (HC.out _).mono ?_); rintro e w2 ⟨rfl, hb2⟩; replace HB := hide (bt HB.out hb2); replace HP := hide (HP.out.kept hb2); have g2 := HP.out.hd; clear hb2)
            | (go_at_call 95; (with_reducible refine (HD.out _).mono ?_); rintro e w3 ⟨rfl, hb3⟩; replace HB := hide (bt HB.out hb3); clear hb3))
          go_ret
          exact ⟨by rw [HO.out]; rfl, HB.out⟩
        · rw [show ev (fe true) = .nilIface from rfl] at HD
          cases pp
          all_goals
            go_wp2_with (first
              | (go_at_call 95; (with_reducible refine (HC.out _).mono ?_); rintro e w2 ⟨rfl, hb2⟩; replace HB := hide (bt HB.out hb2); replace HP := hide (HP.out.kept hb2); have g2 := HP.out.hd; clear hb2)
              | (go_at_call 95; (with_reducible refine (HD.out _).mono ?_); rintro e w3 ⟨rfl, hb3⟩; replace HB := hide (bt HB.out hb3); replace HP := hide (HP.out.kept hb3); clear hb3; have c9 := HP.out.cell 9 (by omega); have c18 := HP.out.cell 18 (by omega))
              | (go_at_call 134; (with_reducible refine (HU.out _).mono ?_); rintro e w4 ⟨rfl, hb4⟩; replace HB := hide (bt HB.out hb4); clear hb4))
            go_ret
            exact ⟨by rw [HO.out]; rfl, HB.out⟩
  · have n6 : (k != 6) = true := by simpa using fun e => kk (.inl e)
    have n17 : (k != 17) = true := by simpa using fun e => kk (.inr e)
    have HM := hide (show ok = false by rw [HO.out, show (k == 6) = false by simpa using n6, show (k == 17) = false by simpa using n17]; rfl)
    clear kk
    go_wp2
    go_ret
    exact ⟨by rw [HM.out]; rfl, HB.out⟩
end Go.Proofs.YtkhahbghmdccaaaGreatDoor
