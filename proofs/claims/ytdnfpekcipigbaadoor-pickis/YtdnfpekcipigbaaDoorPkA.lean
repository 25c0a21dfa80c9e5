/- Servers as values: four numbers and two bools; rows of them; the place of the first that is wrong. -/
import Derived.Test.YtdnfpekcipigbaaDoorPkF
import Derived.Test.YtdnfpekcipigbaaDoorPkI
namespace Go.Proofs.YtdnfpekcipigbaaDoor
open Go.RowKit

/-- a server's cells: a number, a four, a door, a weight; up, drain. -/
def bkC (b : List Int) : Array Value := #[.int .i64 (el b 0), .int .i64 (el b 1), .int .i64 (el b 2), .int .i64 (el b 3), .bool (el b 4 == 1), .bool (el b 5 == 1)]
theorem bkC_int (b : List Int) (j : Nat) (hj : j < 4) : (bkC b)[j]? = some (.int .i64 (el b j)) := by
  rcases (by omega : j = 0 ∨ j = 1 ∨ j = 2 ∨ j = 3) with rfl | rfl | rfl | rfl <;> rfl
theorem bkC_up (b : List Int) : (bkC b)[4]? = some (.bool (el b 4 == 1)) := rfl
theorem bkC_dr (b : List Int) : (bkC b)[5]? = some (.bool (el b 5 == 1)) := rfl
/-- a row of servers at an address. -/
def Bks (a : Option Addr) (bs : List (List Int)) (w : World) : Prop := 0 < bs.length → ∃ g off, a = some ⟨g, off, none⟩ ∧ g < w.heap.size ∧ ∀ k, k < bs.length → w.rangeAt g (off + k * 6) (bkC (bs.getD k [])).toList
theorem Bks.below {a : Option Addr} {bs : List (List Int)} {w w' : World} (h : Bks a bs w) (hb : Below w.heap.size w w') : Bks a bs w' := by
  intro hp
  obtain ⟨g, off, e, hlt, hx⟩ := h hp
  refine ⟨g, off, e, Nat.lt_of_lt_of_le hlt hb.size, fun k hk j u hu => ?_⟩
  rw [hb.cell (p := ⟨g, off + k * 6 + j, none⟩) hlt]
  exact hx k hk j u hu
theorem rng_int {w : World} {g o : Nat} {b : List Int} (h : w.rangeAt g o (bkC b).toList) (j : Nat) (hj : j < 4) : w.cell? ⟨g, o + j, none⟩ = some (.int .i64 (el b j)) := h j _ (by have := bkC_int b j hj; simpa using this)
theorem rng_id {w : World} {g o : Nat} {b : List Int} (h : w.rangeAt g o (bkC b).toList) : w.cell? ⟨g, o, none⟩ = some (.int .i64 (el b 0)) := rng_int h 0 (by omega)
theorem rng_up {w : World} {g o : Nat} {b : List Int} (h : w.rangeAt g o (bkC b).toList) : w.cell? ⟨g, o + 4, none⟩ = some (.bool (el b 4 == 1)) := h 4 _ (by have := bkC_up b; simpa using this)
theorem rng_dr {w : World} {g o : Nat} {b : List Int} (h : w.rangeAt g o (bkC b).toList) : w.cell? ⟨g, o + 5, none⟩ = some (.bool (el b 5 == 1)) := h 5 _ (by have := bkC_dr b; simpa using this)
/-- a load, held shut for a walk. -/
def kload (x : Value) : Sem Value := Instr.loadAt 38 x
theorem kload_shut (x : Value) : Instr.loadAt 38 x = kload x := rfl
theorem rng_kl {w : World} {g o : Nat} {b : List Int} (h : w.rangeAt g o (bkC b).toList) : (kload (.pointer (some ⟨g, o, none⟩))).run Tryd.prog w = .ok (.agg (bkC b)) w := run_loadAt_mid w g o 38 _ _ h Tryd.underlying38 rfl (by kernel_rfl)
/-- a server in its block. -/
def BkIn (B : Nat) (b : List Int) (w : World) : Prop := w.heap[B]? = some (.cells (bkC b) 38 (0, 0))
theorem BkIn.lt {B : Nat} {b : List Int} {w : World} (p : BkIn B b w) : B < w.heap.size := (Array.getElem?_eq_some_iff.1 p).1
theorem BkIn.kept {B : Nat} {b : List Int} {w w' : World} (p : BkIn B b w) (hb : Below w.heap.size w w') : BkIn B b w' := (hb.block B p.lt).trans p
def zero4b : Array Value := #[.int .i64 0, .int .i64 0, .int .i64 0, .int .i64 0, .bool false, .bool false]
theorem bk_zero (w : World) : BkIn w.heap.size [] (w.alloc (.cells zero4b 38)) := heap_alloc_new w _
theorem bk_new (b : List Int) (w : World) : BkIn w.heap.size b (w.alloc (.cells (bkC b) 38)) := heap_alloc_new w _
theorem BkIn.rng {B : Nat} {b : List Int} {w : World} (p : BkIn B b w) : w.rangeAt B 0 (bkC b).toList := fun j v hv => by rw [Nat.zero_add, cell_of_row w B j _ _ _ p]; simpa using hv
theorem BkIn.kl {B : Nat} {b : List Int} {w : World} (p : BkIn B b w) : (kload (.pointer (some ⟨B, 0, none⟩))).run Tryd.prog w = .ok (.agg (bkC b)) w := rng_kl p.rng
theorem BkIn.stored {B : Nat} {b0 : List Int} {w : World} (p : BkIn B b0 w) (b : List Int) : BkIn B b (w.setRow B (bkC b)) := setRow_heap w B _ _ _ (0, 0) p
theorem at_storek {ops : Array Oper} {rest : List Oper} {o : Oper} {f : Act} {w : World} {Q : Exit → Act → World → Prop} (hgd : o.guard = none) (x y : Operand) (ho : o.op = .store 38 x y)
    {B : Nat} {b0 : List Int} (hx : f.eval x = .pointer (some ⟨B, 0, none⟩)) (p : BkIn B b0 w) (b : List Int) (hy : f.eval y = .agg (bkC b))
    (hK : ∀ w', BkIn B b w' → Only B w w' → wpList Tryd.prog ops Q rest (f.put o.dst undef) w') : wpList Tryd.prog ops Q (o :: rest) f w :=
  wpList_store_row hgd 38 x y ho B _ hx hy 38 _ p (by kernel_rfl) rfl (by unfold bkC; simp [Value.oneCell']) (hK _ (p.stored b) (only_setRow _ _ _))
theorem results_bk {fn : Func} {p u : Tmp} (h : fn.results = #[.cell p 38, .tmp u]) (tmps : Array Value) (w : World) (B : Nat) (b : List Int)
    (ht : tmps.getD p undef = .pointer (some ⟨B, 0, none⟩)) (hg : BkIn B b w) :
    (results fn tmps).run Tryd.prog w = .ok (.tuple #[.agg (bkC b), tmps.getD u undef]) w := by
  rw [results_cell_tmp h, ht]
  have hl := run_loadVar_row (P := Tryd.prog) w B 38 38 _ (0, 0) _ hg Tryd.underlying38 rfl (by kernel_rfl)
  simp [asAddr, hl]
/-- may a server be; does one ahead have its number; what is wrong with it. -/
def okb (b : List Int) : Bool := wd (el b 0) && wd (el b 2) && fr (el b 1) && (decide (0 ≤ el b 3) && decide (el b 3 ≤ 10))
def sid (bs : List (List Int)) (i : Nat) : Bool := (List.range i).any fun k => el (bs.getD k []) 0 == el (bs.getD i []) 0
def flt (bs : List (List Int)) (i : Nat) : Int := if okb (bs.getD i []) = true then (if sid bs i = true then 8 else 0) else 1
/-- the place, and how. -/
def bfo (o : Option Nat) (bs : List (List Int)) : Int × Int := match o with | some i => ((i : Int), flt bs i) | none => (0, 0)
def bf (bs : List (List Int)) : Int × Int := if 8 < bs.length then (0, 3) else bfo ((List.range bs.length).find? fun i => flt bs i != 0) bs
theorem bf_some {bs : List (List Int)} {i : Nat} (hl : ¬ 8 < bs.length) (hi : i < bs.length) (h1 : (flt bs i != 0) = true) (h : ∀ j, j < i → (flt bs j != 0) = false) : bf bs = ((i : Int), flt bs i) := by
  unfold bf
  rw [if_neg hl, find_some hi h1 h]
  rfl
theorem bf_none {bs : List (List Int)} (hl : ¬ 8 < bs.length) (h : ∀ j, j < bs.length → (flt bs j != 0) = false) : bf bs = (0, 0) := by
  unfold bf
  rw [if_neg hl, find_none h]
  rfl
/-- none of them is wrong. -/
theorem bf_ok {bs : List (List Int)} (h : (bf bs).2 = 0) : bs.length ≤ 8 ∧ ∀ i, i < bs.length → okb (bs.getD i []) = true ∧ sid bs i = false := by
  unfold bf at h
  split at h
  · cases h
  · rename_i hl
    refine ⟨by omega, fun i hi => ?_⟩
    cases ho : (List.range bs.length).find? fun i => flt bs i != 0 with
    | some j =>
      rw [ho] at h
      have h1 := List.find?_some ho
      have h2 : flt bs j = 0 := h
      simp [h2] at h1
    | none =>
      rw [List.find?_eq_none] at ho
      have h1 := ho i (List.mem_range.2 hi)
      have h2 : flt bs i = 0 := by simpa using h1
      unfold flt at h2
      cases hk : okb (bs.getD i [])
      · rw [hk] at h2; simp at h2
      · rw [hk] at h2
        cases hs : sid bs i
        · exact ⟨rfl, rfl⟩
        · rw [hs] at h2; simp at h2
end Go.Proofs.YtdnfpekcipigbaaDoor
