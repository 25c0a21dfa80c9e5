/- The document's own ports as they lie in the heap: a row of addresses, a row of bools, and the block that holds both. -/
import Derived.Test.YtjkkonpangcnjaaDoorPoBase
namespace Go.Proofs.YtjkkonpangcnjaaDoor
open Go.RowKit

/-- a row of addresses. -/
def SixRow (B n : Nat) (ws : Nat → List Int) (w : World) : Prop := ∃ cs : Array Value, w.heap[B]? = some (.cells cs 33 (0, 0)) ∧ cs.size = 8 * n ∧ ∀ i, i < n → ∀ j, j < 8 → cs[8 * i + j]? = some (.int .i64 (el (ws i) j))
/-- a row of bools. -/
def BoolRow (B n : Nat) (ts : Nat → Bool) (w : World) : Prop := ∃ cs : Array Value, w.heap[B]? = some (.cells cs 4 (0, 0)) ∧ cs.size = n ∧ ∀ i, i < n → cs[i]? = some (.bool (ts i))
theorem SixRow.lt {B n : Nat} {ws : Nat → List Int} {w : World} (h : SixRow B n ws w) : B < w.heap.size := by obtain ⟨cs, h1, _⟩ := h; exact (Array.getElem?_eq_some_iff.1 h1).1
theorem BoolRow.lt {B n : Nat} {ts : Nat → Bool} {w : World} (h : BoolRow B n ts w) : B < w.heap.size := by obtain ⟨cs, h1, _⟩ := h; exact (Array.getElem?_eq_some_iff.1 h1).1
theorem SixRow.same {B n : Nat} {ws : Nat → List Int} {w w' : World} (h : SixRow B n ws w) (e : w'.heap[B]? = w.heap[B]?) : SixRow B n ws w' := by obtain ⟨cs, h1, h2⟩ := h; exact ⟨cs, e.trans h1, h2⟩
theorem BoolRow.same {B n : Nat} {ts : Nat → Bool} {w w' : World} (h : BoolRow B n ts w) (e : w'.heap[B]? = w.heap[B]?) : BoolRow B n ts w' := by obtain ⟨cs, h1, h2⟩ := h; exact ⟨cs, e.trans h1, h2⟩
theorem SixRow.ne {B B' n n' : Nat} {ws : Nat → List Int} {ts : Nat → Bool} {w : World} (h : SixRow B n ws w) (h' : BoolRow B' n' ts w) : B ≠ B' := by
  rintro rfl
  obtain ⟨cs, h1, _⟩ := h
  obtain ⟨cs', h1', _⟩ := h'
  rw [h1] at h1'
  cases h1'
theorem sixC_size (z : List Int) : (sixC z).size = 8 := rfl
theorem sixC_at (z : List Int) (j : Nat) (hj : j < 8) : (sixC z)[j]? = some (.int .i64 (el z j)) := by
  rcases (by omega : j = 0 ∨ j = 1 ∨ j = 2 ∨ j = 3 ∨ j = 4 ∨ j = 5 ∨ j = 6 ∨ j = 7) with rfl | rfl | rfl | rfl | rfl | rfl | rfl | rfl <;> rfl
theorem SixRow.range {B n : Nat} {ws : Nat → List Int} {w : World} (h : SixRow B n ws w) (i : Nat) (hi : i < n) : w.rangeAt B (8 * i) (sixC (ws i)).toList := by
  obtain ⟨cs, h1, h2, h3⟩ := h
  intro j v hv
  have hj : j < 8 := (List.getElem?_eq_some_iff.1 hv).1
  rw [cell_of_row w B (8 * i + j) _ _ _ h1, h3 i hi j hj, ← sixC_at (ws i) j hj]
  simpa using hv
theorem BoolRow.cell {B n : Nat} {ts : Nat → Bool} {w : World} (h : BoolRow B n ts w) (i : Nat) (hi : i < n) : w.cell? ⟨B, i, none⟩ = some (.bool (ts i)) ∧ w.frozen? ⟨B, i, none⟩ = false := by
  obtain ⟨cs, h1, h2, h3⟩ := h
  refine ⟨by rw [cell_of_row w B i _ _ _ h1]; exact h3 i hi, by simp [World.frozen?, h1]⟩
/-- an address of such a row, loaded. -/
theorem at_row6 {ops : Array Oper} {rest : List Oper} {o : Oper} {f : Act} {w : World} {Q : Exit → Act → World → Prop} (hgd : o.guard = none) (x : Operand) (ho : o.op = .load 33 x)
    {B n : Nat} {ws : Nat → List Int} (i off : Nat) (hx : f.eval x = .pointer (some ⟨B, off, none⟩)) (hoff : off = 8 * i) (hi : i < n) (p : SixRow B n ws w)
    (hK : wpList Tryd.prog ops Q rest (f.put o.dst (.agg (sixC (ws i)))) w) : wpList Tryd.prog ops Q (o :: rest) f w := by
  subst hoff
  exact wpList_load_mid hgd 33 x ho B (8 * i) hx (sixC (ws i)).toList _ (p.range i hi) Tryd.underlying33 rfl (by kernel_rfl) hK
/-- an address stored into a block of its own. -/
def Only (B : Nat) (w w' : World) : Prop := w'.os = w.os ∧ w'.tape = w.tape ∧ w'.output = w.output ∧ w'.heap.size = w.heap.size ∧ ∀ g, g ≠ B → w'.heap[g]? = w.heap[g]?
theorem Only.below {B base : Nat} {w0 w w' : World} (h : Only B w w') (hb : Below base w0 w) (hB : base ≤ B) : Below base w0 w' :=
  ⟨h.1.trans hb.os, h.2.1.trans hb.tape, h.2.2.1.trans hb.output, by rw [h.2.2.2.1]; exact hb.size, fun g hg => (h.2.2.2.2 g (by omega)).trans (hb.block g hg)⟩
theorem only_setRow (w : World) (B : Nat) (cs : Array Value) : Only B w (w.setRow B cs) := ⟨rfl, rfl, rfl, setRow_size w B cs, fun g hg => setRow_other w B g cs hg⟩
theorem new_below {w w' : World} (o : Obj) (h : Only w.heap.size (w.alloc o) w') : Below w.heap.size w w' := h.below (al_below w o) (Nat.le_refl _)
theorem SixIn.stored {B : Nat} {z0 : List Int} {w : World} (p : SixIn B z0 w) (z : List Int) : SixIn B z (w.setRow B (sixC z)) := setRow_heap w B _ _ _ (0, 0) p
theorem at_store6 {ops : Array Oper} {rest : List Oper} {o : Oper} {f : Act} {w : World} {Q : Exit → Act → World → Prop} (hgd : o.guard = none) (x y : Operand) (ho : o.op = .store 33 x y)
    {B : Nat} {z0 : List Int} (hx : f.eval x = .pointer (some ⟨B, 0, none⟩)) (p : SixIn B z0 w) (z : List Int) (hy : f.eval y = .agg (sixC z))
    (hK : ∀ w', SixIn B z w' → Only B w w' → wpList Tryd.prog ops Q rest (f.put o.dst undef) w') : wpList Tryd.prog ops Q (o :: rest) f w :=
  wpList_store_row hgd 33 x y ho B _ hx hy 33 _ p (by kernel_rfl) rfl (by unfold sixC; simp [Value.oneCell']) (hK _ (p.stored z) (only_setRow _ _ _))
def zero6 : Array Value := #[.int .i64 0, .int .i64 0, .int .i64 0, .int .i64 0, .int .i64 0, .int .i64 0, .int .i64 0, .int .i64 0]
theorem zero_new (w : World) : SixIn w.heap.size [] (w.alloc (.cells zero6 33)) := noughts_in w
theorem results_six {fn : Func} {p u : Tmp} (h : fn.results = #[.cell p 33, .tmp u]) (tmps : Array Value) (w : World) (B : Nat) (z : List Int)
    (ht : tmps.getD p undef = .pointer (some ⟨B, 0, none⟩)) (hg : SixIn B z w) :
    (results fn tmps).run Tryd.prog w = .ok (.tuple #[.agg (sixC z), tmps.getD u undef]) w := by
  rw [results_cell_tmp h, ht]
  have hl := run_loadVar_row (P := Tryd.prog) w B 33 33 _ (0, 0) _ hg Tryd.underlying33 rfl (by kernel_rfl)
  simp [asAddr, hl]
/-- the document's own ports. -/
def RP (B BW BT n : Nat) (ws : Nat → List Int) (ts : Nat → Bool) (w : World) : Prop :=
  w.heap[B]? = some (.cells #[.slice (some ⟨BW, 0, none⟩) n n, .slice (some ⟨BT, 0, none⟩) n n] 95 (0, 0)) ∧ SixRow BW n ws w ∧ BoolRow BT n ts w
theorem RP.lt {B BW BT n : Nat} {ws : Nat → List Int} {ts : Nat → Bool} {w : World} (h : RP B BW BT n ws ts w) : B < w.heap.size := (Array.getElem?_eq_some_iff.1 h.1).1
theorem RP.kept {B BW BT n : Nat} {ws : Nat → List Int} {ts : Nat → Bool} {w w' : World} (h : RP B BW BT n ws ts w) (hb : Below w.heap.size w w') : RP B BW BT n ws ts w' :=
  ⟨(hb.block B h.lt).trans h.1, h.2.1.same (hb.block BW h.2.1.lt), h.2.2.same (hb.block BT h.2.2.lt)⟩
theorem RP.who {B BW BT n : Nat} {ws : Nat → List Int} {ts : Nat → Bool} {w : World} (h : RP B BW BT n ws ts w) : w.cell? ⟨B, 0, none⟩ = some (.slice (some ⟨BW, 0, none⟩) n n) := cell_of_row w B 0 _ _ _ h.1
theorem RP.taken {B BW BT n : Nat} {ws : Nat → List Int} {ts : Nat → Bool} {w : World} (h : RP B BW BT n ws ts w) : w.cell? ⟨B, 1, none⟩ = some (.slice (some ⟨BT, 0, none⟩) n n) := cell_of_row w B 1 _ _ _ h.1
/-- the first port of a block that is taken. -/
def fo (ts : Nat → Bool) (k : Nat) : Option Nat := (List.range' (8 * k) 8).find? ts
def ozo (ws : Nat → List Int) (o : Option Nat) : List Int := match o with | some i => ws i | none => []
theorem fo_none {ts : Nat → Bool} {k : Nat} (h : ∀ j, 8 * k ≤ j → j < 8 * k + 8 → ts j = false) : fo ts k = none := by
  unfold fo
  rw [List.find?_eq_none]
  intro x hx
  rw [List.mem_range'_1] at hx
  rw [h x hx.1 hx.2]
  decide
theorem fo_some {ts : Nat → Bool} {k i : Nat} (h1 : 8 * k ≤ i) (h2 : i < 8 * k + 8) (h3 : ts i = true) (h : ∀ j, 8 * k ≤ j → j < i → ts j = false) : fo ts k = some i := by
  unfold fo
  rw [List.find?_eq_some_iff_append]
  refine ⟨h3, List.range' (8 * k) (i - 8 * k), List.range' (i + 1) (8 * k + 8 - (i + 1)), ?_, fun x hx => ?_⟩
  · rw [show i :: List.range' (i + 1) (8 * k + 8 - (i + 1)) = List.range' i (8 * k + 8 - i) by rw [show 8 * k + 8 - i = (8 * k + 8 - (i + 1)) + 1 by omega]; rfl]
    have := List.range'_append_1 (s := 8 * k) (m := i - 8 * k) (n := 8 * k + 8 - i)
    rw [show 8 * k + (i - 8 * k) = i by omega, show i - 8 * k + (8 * k + 8 - i) = 8 by omega] at this
    exact this.symm
  · rw [List.mem_range'_1] at hx
    rw [h x hx.1 (by omega)]
    rfl
end Go.Proofs.YtjkkonpangcnjaaDoor
