/- The document's own Expire of binds, by a contract. The document's own new table; two rows of binds held side by side. What is asked of the program's table of binds, whatever it is made of; the document's own table in the same form. What holds of a table still holds when a bind is made, used, or gone. Calls of the program's table that only read; what is kept while BindApart plays. The program's block of ports: who has it, and which of its ports are taken; isNobodys and isOf by contracts. -/
import Derived.Test.YtnhjabiciaoocaaDoorJBdB
import Derived.Test.YtnhjabiciaoocaaDoorProg
import Derived.Deep.MidRow
import Derived.Laws.ResultCell
import Derived.Deep.CutBlock
import Derived.Deep.QuietTactic
import Derived.OwnWalk
import Derived.Deep.RegionHeld3
import Derived.Deep.DrawnRows
import Derived.Laws.StructEq
import Derived.Laws.AppendOwnNone
import Derived.Maps.AppendAt
import Derived.WalkKit
import Derived.LaidEql
import Derived.BigQuiet
import Derived.Below
import Derived.Laws.MakeOwn
import Derived.Deep.RegionLaw
import Derived.Test.YtnhjabiciaoocaaDoorJPkN
import Derived.Test.YtnhjabiciaoocaaDoorJPoTake2
import Derived.Stop.Asserts
import Derived.RowKitTokens
import Derived.Test.YtnhjabiciaoocaaDoorJPlE
import Derived.Test.YtnhjabiciaoocaaDoorJSgEnc
namespace Go.Proofs.YtnhjabiciaoocaaDoor
open Go.RowKit
/-- has a bind not been used for too long? -/
def xp (now : Int) (b : List Int) : Bool := (el b 0 == 6 && decide (100 ≤ now - el b 22)) || (el b 0 == 17 && decide (30 ≤ now - el b 22))
/-- what goes, what stays, which ports are taken then. -/
def es (now : Int) (bs : List (List Int)) (ts : Nat → Bool) : Nat → List (List Int) × List (List Int) × (Nat → Bool)
  | 0 => ([], [], ts)
  | k + 1 => if xp now (bs.getD k []) = true then ((es now bs ts k).1 ++ [bs.getD k []], (es now bs ts k).2.1, upd (es now bs ts k).2.2 (el (bs.getD k []) 19 - 1024).toNat false) else ((es now bs ts k).1, (es now bs ts k).2.1 ++ [bs.getD k []], (es now bs ts k).2.2)
theorem Fr.grown {O : Nat → Prop} {w0 W W' : World} (h : Fr O w0 W) {r : Option Nat} (hg : W.grownBy W' r) (hr : ∀ k, r = some k → w0.heap.size ≤ k) : Fr O w0 W' :=
  ⟨hg.os.trans h.1, hg.tape.trans h.2.1, hg.output.trans h.2.2.1, Nat.le_trans h.2.2.2.1 hg.size, fun g hgl hO => (hg.block g (Nat.lt_of_lt_of_le hgl h.2.2.2.1) (fun e => by have := hr g e.symm; omega)).trans (h.2.2.2.2 g hgl hO)⟩
attribute [local go_sem ↓] bload_shut bsl_shut
end Go.Proofs.YtnhjabiciaoocaaDoor

namespace Go.Proofs.YtnhjabiciaoocaaDoor
open Go.RowKit
/-- a row of binds, wherever it lies. -/
def BdRow (base : Nat) (w : World) (v : Value) (bs : List (List Int)) : Prop := ∃ a cap, v = .slice a bs.length cap ∧ (0 < bs.length → ∃ g off, a = some ⟨g, off, none⟩ ∧ (base ≤ g ∧ g < w.heap.size) ∧ ∀ k, k < bs.length → w.rangeAt g (off + k * 23) (bdC (bs.getD k [])).toList)
theorem BdRow.same {base : Nat} {w w' : World} {v : Value} {bs : List (List Int)} (h : BdRow base w v bs) (hb : Below w.heap.size w w') : BdRow base w' v bs := by
  obtain ⟨a, cap, rfl, hc⟩ := h
  refine ⟨a, cap, rfl, fun hp => ?_⟩
  obtain ⟨g, off, e, hlt, hx⟩ := hc hp
  refine ⟨g, off, e, ⟨hlt.1, Nat.lt_of_lt_of_le hlt.2 hb.size⟩, fun k hk j u hu => ?_⟩
  rw [hb.cell (p := ⟨g, off + k * 23 + j, none⟩) hlt.2]
  exact hx k hk j u hu
theorem BdRow.fr {base : Nat} {O : Nat → Prop} {w w' : World} {v : Value} {bs : List (List Int)} (h : BdRow base w v bs) (hf : Fr O w w') (hO : ∀ g, base ≤ g → g < w.heap.size → ¬ O g) : BdRow base w' v bs := by
  obtain ⟨a, cap, rfl, hc⟩ := h
  refine ⟨a, cap, rfl, fun hp => ?_⟩
  obtain ⟨g, off, e, hlt, hx⟩ := hc hp
  refine ⟨g, off, e, ⟨hlt.1, Nat.lt_of_lt_of_le hlt.2 hf.2.2.2.1⟩, fun k hk j u hu => ?_⟩
  rw [← hx k hk j u hu]
  unfold World.cell?
  rw [hf.2.2.2.2 g hlt.2 (hO g hlt.1 hlt.2)]
theorem OwB.bdrow {base : Nat} {w : World} {v : Value} {bs : List (List Int)} (h : OwB base w v bs) : BdRow base w v bs := by
  obtain ⟨ao, cap, rfl, -, -, hg⟩ := h.shape
  refine ⟨ao, cap, rfl, fun hp => ?_⟩
  obtain ⟨g, rfl⟩ := hg hp
  have hl := owns_lt h g rfl
  exact ⟨g, 0, rfl, ⟨hl.2, hl.1⟩, fun k hk => by rw [Nat.zero_add]; exact h.row k hk⟩
theorem BdRow.weak {base : Nat} {w : World} {v : Value} {bs : List (List Int)} (h : BdRow base w v bs) : BdRow 0 w v bs := by
  obtain ⟨a, cap, e, hc⟩ := h
  refine ⟨a, cap, e, fun hp => ?_⟩
  obtain ⟨g, off, e, hlt, hx⟩ := hc hp
  exact ⟨g, off, e, ⟨Nat.zero_le _, hlt.2⟩, hx⟩
attribute [local go_sem ↓] bload_shut beq_shut
end Go.Proofs.YtnhjabiciaoocaaDoor

namespace Go.Proofs.YtnhjabiciaoocaaDoor
open Go.RowKit
/-- what holds of a bind: its flow may be, its port is taken by its client, when and whither. -/
def Gb (m : Nat) (ws : Nat → List Int) (ts : Nat → Bool) (b : List Int) : Prop := okf b = true ∧ (∃ i : Nat, i < 8 * m ∧ el b 19 = 1024 + (i : Int) ∧ ts i = true ∧ sixC (ws i) = sixC (cli b)) ∧ tc (el b 22) = true ∧ fr (el b 20) = true ∧ wd (el b 21) = true
/-- what holds of a table: its binds rise by their ports, no two are of one flow, and each port that is taken has one. -/
def BI (m : Nat) (ws : Nat → List Int) (ts : Nat → Bool) (bs : List (List Int)) : Prop := (∀ b ∈ bs, Gb m ws ts b) ∧ bs.Pairwise (fun a b => el a 19 < el b 19) ∧ bs.Pairwise (fun a b => eqf a b = false) ∧ ∀ i, i < 8 * m → ts i = true → ∃ b ∈ bs, el b 19 = 1024 + (i : Int)
/-- behind a call of a table (TP: a pointer, how many blocks, whose ports are, which are taken, the binds, and in which blocks it lies). -/
def TQ (TP : Value → Nat → (Nat → List Int) → (Nat → Bool) → List (List Int) → (Nat → Prop) → World → Prop) (v : Value) (m : Nat) (ws : Nat → List Int) (ts : Nat → Bool) (bs : List (List Int)) (O : Nat → Prop) (w w' : World) : Prop := ∃ O', TP v m ws ts bs O' w' ∧ Fr O w w' ∧ ∀ g, O' g → O g ∨ w.heap.size ≤ g
def JKept (TP : Value → Nat → (Nat → List Int) → (Nat → Bool) → List (List Int) → (Nat → Prop) → World → Prop) : Prop := ∀ v m ws ts bs O w, TP v m ws ts bs O w → (∀ g, O g → g < w.heap.size) ∧ ∀ w', w.heap.size ≤ w'.heap.size → (∀ g, O g → w'.heap[g]? = w.heap[g]?) → TP v m ws ts bs O w'
def JAll (TP : Value → Nat → (Nat → List Int) → (Nat → Bool) → List (List Int) → (Nat → Prop) → World → Prop) : Prop := ∀ v m ws ts bs O w, m ≤ 16 → bs.length ≤ 128 → BI m ws ts bs → TP v m ws ts bs O w →
  Calls Tryd.prog 25 #[v] w fun r w' => ∃ b, r = .returned b ∧ BdRow 0 w' b bs ∧ TQ TP v m ws ts bs O w w'
end Go.Proofs.YtnhjabiciaoocaaDoor

namespace Go.Proofs.YtnhjabiciaoocaaDoor
open Go.RowKit
theorem BI.start (m : Nat) : BI m (fun _ => []) (fun _ => false) [] := ⟨fun b h => absurd h (by simp), List.Pairwise.nil, List.Pairwise.nil, fun i _ h => by cases h⟩
end Go.Proofs.YtnhjabiciaoocaaDoor

namespace Go.Proofs.YtnhjabiciaoocaaDoor
open Go.RowKit
theorem TQ.of {TP : Value → Nat → (Nat → List Int) → (Nat → Bool) → List (List Int) → (Nat → Prop) → World → Prop} (I : JKept TP) {v : Value} {m : Nat} {ws : Nat → List Int} {ts : Nat → Bool} {bs : List (List Int)} {O : Nat → Prop} {w w' : World} (h : TP v m ws ts bs O w) (hb : Below w.heap.size w w') : TQ TP v m ws ts bs O w w' := by
  have k := I v m ws ts bs O w h
  exact ⟨O, k.2 w' hb.size (fun g hg => hb.block g (k.1 g hg)), Fr.of hb, fun _ e => .inl e⟩
def RAll (TP : Value → Nat → (Nat → List Int) → (Nat → Bool) → List (List Int) → (Nat → Prop) → World → Prop) : Prop := ∀ v m ws ts bs O w, m ≤ 16 → bs.length ≤ 128 → BI m ws ts bs → TP v m ws ts bs O w →
  Calls Tryd.prog 25 #[v] w fun r w' => ∃ b, r = .returned b ∧ BdRow 0 w' b bs ∧ Below w.heap.size w w'
theorem RAll.j {TP : Value → Nat → (Nat → List Int) → (Nat → Bool) → List (List Int) → (Nat → Prop) → World → Prop} (I : JKept TP) (h : RAll TP) : JAll TP := fun v m ws ts bs O w h1 h2 h3 h4 => (h v m ws ts bs O w h1 h2 h3 h4).mono fun _ _ ⟨b, e1, e2, e3⟩ => ⟨b, e1, e2, TQ.of I h4 e3⟩
/-- a bind's store, held shut for a walk. -/
def bstore (x y : Value) : Sem Unit := Instr.storeAt 87 x y
theorem bstore_shut (x y : Value) : Instr.storeAt 87 x y = bstore x y := rfl
theorem BdIn.held {B : Nat} {b0 : List Int} {w : World} (p : BdIn B b0 w) (b : List Int) : ∃ w', (bstore (.pointer (some ⟨B, 0, none⟩)) (.agg (bdC b))).run Tryd.prog w = .ok () w' ∧ BdIn B b w' ∧ Only B w w' := by
  refine ⟨w.setCells B 0 (bdC b).toList, ?_, ?_, setCells_only B _ _ w⟩
  · exact run_storeAt_mid w B 0 87 (bdC b) (fun j hj => by
      have hj2 : j < 23 := hj
      rw [Nat.zero_add, p.cell j hj2]
      refine ⟨rfl, by unfold BdIn at p; simp [World.frozen?, p]⟩) (by kernel_rfl) (by unfold bdC; simp [Value.oneCell'])
  · obtain ⟨cs', e1, e2, e3⟩ := setCells_row B 87 (bdC b).toList 0 w _ p
    have hs0 : (bdC b0).size = 23 := rfl
    have hs1 : (bdC b).size = 23 := rfl
    have hl : (bdC b).toList.length = 23 := rfl
    have he : cs' = bdC b := by
     apply Array.ext_getElem?
     intro i
     by_cases hi : i < 23
     · rw [e3 i (by rw [hs0]; exact hi), if_pos (by rw [hl]; omega), Nat.sub_zero]
       simp
     · rw [Array.getElem?_eq_none (by rw [e2, hs0]; omega), Array.getElem?_eq_none (by rw [hs1]; omega)]
    unfold BdIn
    rw [e1, he]
end Go.Proofs.YtnhjabiciaoocaaDoor

namespace Go.Proofs.YtnhjabiciaoocaaDoor
open Go.RowKit
/-- a block's cells. -/
def pbC (z : List Int) (t : Nat → Bool) : Array Value := #[.int .i64 (el z 0), .int .i64 (el z 1), .int .i64 (el z 2), .int .i64 (el z 3), .int .i64 (el z 4), .int .i64 (el z 5), .int .i64 (el z 6), .int .i64 (el z 7), .bool (t 0), .bool (t 1), .bool (t 2), .bool (t 3), .bool (t 4), .bool (t 5), .bool (t 6), .bool (t 7)]
theorem pbC_six (z : List Int) (t : Nat → Bool) (j : Nat) (hj : j < 8) : (pbC z t)[j]? = some (.int .i64 (el z j)) := by
  rcases (by omega : j = 0 ∨ j = 1 ∨ j = 2 ∨ j = 3 ∨ j = 4 ∨ j = 5 ∨ j = 6 ∨ j = 7) with rfl | rfl | rfl | rfl | rfl | rfl | rfl | rfl <;> rfl
theorem pbC_boo (z : List Int) (t : Nat → Bool) (j : Nat) (hj : j < 8) : (pbC z t)[8 + j]? = some (.bool (t j)) := by
  rcases (by omega : j = 0 ∨ j = 1 ∨ j = 2 ∨ j = 3 ∨ j = 4 ∨ j = 5 ∨ j = 6 ∨ j = 7) with rfl | rfl | rfl | rfl | rfl | rfl | rfl | rfl <;> rfl
/-- a block's load, held shut for a walk. -/
def pload (x : Value) : Sem Value := Instr.loadAt 164 x
theorem pload_shut (x : Value) : Instr.loadAt 164 x = pload x := rfl
/-- is none of its ports taken? -/
def nob (t : Nat → Bool) : Bool := !t 0 && !t 1 && !t 2 && !t 3 && !t 4 && !t 5 && !t 6 && !t 7
theorem nob_iff (t : Nat → Bool) : nob t = true ↔ ∀ j, j < 8 → t j = false := by
  unfold nob
  simp only [Bool.and_eq_true, Bool.not_eq_true']
  refine ⟨fun ⟨⟨⟨⟨⟨⟨⟨h0, h1⟩, h2⟩, h3⟩, h4⟩, h5⟩, h6⟩, h7⟩ j hj => ?_, fun h => ⟨⟨⟨⟨⟨⟨⟨h 0 (by omega), h 1 (by omega)⟩, h 2 (by omega)⟩, h 3 (by omega)⟩, h 4 (by omega)⟩, h 5 (by omega)⟩, h 6 (by omega)⟩, h 7 (by omega)⟩⟩
  rcases (by omega : j = 0 ∨ j = 1 ∨ j = 2 ∨ j = 3 ∨ j = 4 ∨ j = 5 ∨ j = 6 ∨ j = 7) with rfl | rfl | rfl | rfl | rfl | rfl | rfl | rfl <;> assumption
attribute [local go_sem ↓] pload_shut
end Go.Proofs.YtnhjabiciaoocaaDoor
