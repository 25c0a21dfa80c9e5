/- A packet of sixes as a value and in its block; loads and stores of all of it, of its addresses and of its numbers, as equations that a walk takes. Noughts. Two addresses held side by side. A packet of sixes stored, held shut. Package ip6: isByte, Check, and bytes.Equal, by contracts. Package ip6: Encode, by contracts. Package ip6: six, by a contract; the document's own SixAt. -/
import Derived.Test.YtkhahbghmdccaaaGreatDoorF05
import Derived.Below
import Derived.OpenShut
import Derived.Test.YtkhahbghmdccaaaGreatDoorProg
import Derived.WalkKit
import Derived.LaidEql
import Derived.BigQuiet
import Derived.Laws.AppendOwnNone
import Derived.Laws.MakeOwn
import Derived.Deep.RegionLaw
import Derived.Lib.Bytes
import Derived.Deep.MidRow
import Derived.Laws.ResultCell
import Derived.Deep.CutBlock
import Derived.Deep.QuietTactic
import Derived.OwnWalk
import Derived.Deep.RegionHeld3
import Derived.Deep.DrawnRows
import Derived.Test.YtkhahbghmdccaaaGreatDoorF06
namespace Go.Proofs.YtkhahbghmdccaaaGreatDoor.V6
open Go.RowKit
def pkC (s d : List Int) (h k : Int) (a : Option Addr) (len cap : Nat) : Array Value := #[.int .i64 (el s 0), .int .i64 (el s 1), .int .i64 (el s 2), .int .i64 (el s 3), .int .i64 (el s 4), .int .i64 (el s 5), .int .i64 (el s 6), .int .i64 (el s 7), .int .i64 (el d 0), .int .i64 (el d 1), .int .i64 (el d 2), .int .i64 (el d 3), .int .i64 (el d 4), .int .i64 (el d 5), .int .i64 (el d 6), .int .i64 (el d 7), .int .i64 h, .int .i64 k, .slice a len cap]
def pk (s d : List Int) (h k : Int) (a : Option Addr) (len cap : Nat) : Value := .agg (pkC s d h k a len cap)
def PkIn (B : Nat) (s d : List Int) (h k : Int) (a : Option Addr) (len cap : Nat) (w : World) : Prop := w.heap[B]? = some (.cells (pkC s d h k a len cap) 101 (0, 0))
theorem PkIn.lt {B : Nat} {s d : List Int} {h k : Int} {a : Option Addr} {len cap : Nat} {w : World} (p : PkIn B s d h k a len cap w) : B < w.heap.size := (Array.getElem?_eq_some_iff.1 p).1
theorem PkIn.kept {B : Nat} {s d : List Int} {h k : Int} {a : Option Addr} {len cap : Nat} {w w' : World} (p : PkIn B s d h k a len cap w) (hb : Below w.heap.size w w') : PkIn B s d h k a len cap w' := (hb.block B p.lt).trans p
theorem PkIn.other {B : Nat} {s d : List Int} {h k : Int} {a : Option Addr} {len cap : Nat} {w : World} (p : PkIn B s d h k a len cap w) (q : Addr) (hq : B ≠ q.block) (v : Value) : PkIn B s d h k a len cap (w.setCell q v) := (Below.heap_setCell w q v B hq).trans p
theorem PkIn.grown {B : Nat} {s d : List Int} {h k : Int} {a : Option Addr} {len cap : Nat} {w w' : World} (p : PkIn B s d h k a len cap w) {r : Option Nat} (hg : w.grownBy w' r) (hr : some B ≠ r) : PkIn B s d h k a len cap w' := (hg.block _ p.lt hr).trans p
theorem pk_new (w : World) (s d : List Int) (h k : Int) (a : Option Addr) (len cap : Nat) : PkIn w.heap.size s d h k a len cap (w.alloc (.cells (pkC s d h k a len cap) 101)) := heap_alloc_new w _
theorem PkIn.cellAt {B : Nat} {s d : List Int} {h k : Int} {a : Option Addr} {len cap : Nat} {w : World} (p : PkIn B s d h k a len cap w) (j : Nat) : w.cell? ⟨B, j, none⟩ = (pkC s d h k a len cap)[j]? := cell_of_row w B j _ _ _ p
theorem PkIn.load {B : Nat} {s d : List Int} {h k : Int} {a : Option Addr} {len cap : Nat} {w : World} (p : PkIn B s d h k a len cap w) : (loadCellsFrom ⟨B, 0, none⟩ 0 19 #[]).run Tryz.prog w = .ok (pkC s d h k a len cap) w :=
  run_loadCells_list (P := Tryz.prog) w ⟨B, 0, none⟩ (pkC s d h k a len cap).toList (fun j v hv => by
    rw [add_at, Nat.zero_add, p.cellAt]
    simpa using hv)
theorem PkIn.dst {B : Nat} {s d : List Int} {h k : Int} {a : Option Addr} {len cap : Nat} {w : World} (p : PkIn B s d h k a len cap w) : (loadCellsFrom ⟨B, 8, none⟩ 0 8 #[]).run Tryz.prog w = .ok (sixC d) w :=
  run_loadCells_list (P := Tryz.prog) w ⟨B, 8, none⟩ (sixC d).toList (fun j v hv => by
    rw [add_at, p.cellAt]
    have hj : j < 8 := (List.getElem?_eq_some_iff.1 hv).1
    rcases (by omega : j = 0 ∨ j = 1 ∨ j = 2 ∨ j = 3 ∨ j = 4 ∨ j = 5 ∨ j = 6 ∨ j = 7) with rfl | rfl | rfl | rfl | rfl | rfl | rfl | rfl <;> exact hv)
theorem PkIn.hop {B : Nat} {s d : List Int} {h k : Int} {a : Option Addr} {len cap : Nat} {w : World} (p : PkIn B s d h k a len cap w) : w.cell? ⟨B, 16, none⟩ = some (.int .i64 h) := p.cellAt 16
theorem PkIn.kind {B : Nat} {s d : List Int} {h k : Int} {a : Option Addr} {len cap : Nat} {w : World} (p : PkIn B s d h k a len cap w) : w.cell? ⟨B, 17, none⟩ = some (.int .i64 k) := p.cellAt 17
theorem PkIn.body {B : Nat} {s d : List Int} {h k : Int} {a : Option Addr} {len cap : Nat} {w : World} (p : PkIn B s d h k a len cap w) : w.cell? ⟨B, 18, none⟩ = some (.slice a len cap) := p.cellAt 18
theorem PkIn.store {B : Nat} {s0 d0 : List Int} {h0 k0 : Int} {a0 : Option Addr} {len0 cap0 : Nat} {w : World} (p : PkIn B s0 d0 h0 k0 a0 len0 cap0 w) (s d : List Int) (h k : Int) (a : Option Addr) (len cap : Nat) : (storeCells ⟨B, 0, none⟩ (pkC s d h k a len cap).toList 0).run Tryz.prog w = .ok () (w.setRow B (pkC s d h k a len cap)) := by
  have := run_storeVar_row (P := Tryz.prog) w B 101 101 _ (pkC s d h k a len cap) p (by kernel_rfl) rfl (by unfold pkC; simp [Value.oneCell'])
  have hi : (Tryz.prog.info? 101).map (·.size) = some 19 := by kernel_rfl
  cases hq : Tryz.prog.info? 101 with
  | none => rw [hq] at hi; cases hi
  | some i =>
    have hs : (pkC s d h k a len cap).size = i.size := by rw [hq] at hi; simp at hi; rw [hi]; rfl
    simpa [storeVar, sizeOf, typeInfo, hq, Value.cells, hs] using this
theorem PkIn.stored {B : Nat} {s0 d0 : List Int} {h0 k0 : Int} {a0 : Option Addr} {len0 cap0 : Nat} {w : World} (p : PkIn B s0 d0 h0 k0 a0 len0 cap0 w) (s d : List Int) (h k : Int) (a : Option Addr) (len cap : Nat) : PkIn B s d h k a len cap (w.setRow B (pkC s d h k a len cap)) := setRow_heap w B _ _ _ (0, 0) p
theorem at_load {ops : Array Oper} {rest : List Oper} {o : Oper} {f : Act} {w : World} {Q : Exit → Act → World → Prop} (hgd : o.guard = none) (x : Operand) (ho : o.op = .load 101 x)
    {B : Nat} {s d : List Int} {h k : Int} {a : Option Addr} {len cap : Nat} (hx : f.eval x = .pointer (some ⟨B, 0, none⟩)) (p : PkIn B s d h k a len cap w)
    (hK : wpList Tryz.prog ops Q rest (f.put o.dst (.agg (pkC s d h k a len cap))) w) : wpList Tryz.prog ops Q (o :: rest) f w :=
  wpList_load_row hgd 101 x ho B hx 101 _ (0, 0) _ p Tryz.underlying101 rfl (by kernel_rfl) hK
theorem at_src {ops : Array Oper} {rest : List Oper} {o : Oper} {f : Act} {w : World} {Q : Exit → Act → World → Prop} (hgd : o.guard = none) (x : Operand) (ho : o.op = .load 23 x)
    {B : Nat} {s d : List Int} {h k : Int} {a : Option Addr} {len cap : Nat} (hx : f.eval x = .pointer (some ⟨B, 0, none⟩)) (p : PkIn B s d h k a len cap w)
    (hK : wpList Tryz.prog ops Q rest (f.put o.dst (.agg (sixC s))) w) : wpList Tryz.prog ops Q (o :: rest) f w :=
  wpList_load_mid hgd 23 x ho B 0 hx (sixC s).toList _ (fun j v hv => by
    rw [Nat.zero_add, p.cellAt]
    have hj : j < 8 := (List.getElem?_eq_some_iff.1 hv).1
    rcases (by omega : j = 0 ∨ j = 1 ∨ j = 2 ∨ j = 3 ∨ j = 4 ∨ j = 5 ∨ j = 6 ∨ j = 7) with rfl | rfl | rfl | rfl | rfl | rfl | rfl | rfl <;> exact hv) Tryz.underlying23 rfl (by kernel_rfl) hK
theorem at_dst {ops : Array Oper} {rest : List Oper} {o : Oper} {f : Act} {w : World} {Q : Exit → Act → World → Prop} (hgd : o.guard = none) (x : Operand) (ho : o.op = .load 23 x)
    {B : Nat} {s d : List Int} {h k : Int} {a : Option Addr} {len cap : Nat} (hx : f.eval x = .pointer (some ⟨B, 8, none⟩)) (p : PkIn B s d h k a len cap w)
    (hK : wpList Tryz.prog ops Q rest (f.put o.dst (.agg (sixC d))) w) : wpList Tryz.prog ops Q (o :: rest) f w :=
  wpList_load_mid hgd 23 x ho B 8 hx (sixC d).toList _ (fun j v hv => by
    rw [p.cellAt]
    have hj : j < 8 := (List.getElem?_eq_some_iff.1 hv).1
    rcases (by omega : j = 0 ∨ j = 1 ∨ j = 2 ∨ j = 3 ∨ j = 4 ∨ j = 5 ∨ j = 6 ∨ j = 7) with rfl | rfl | rfl | rfl | rfl | rfl | rfl | rfl <;> exact hv) Tryz.underlying23 rfl (by kernel_rfl) hK
theorem at_store {ops : Array Oper} {rest : List Oper} {o : Oper} {f : Act} {w : World} {Q : Exit → Act → World → Prop} (hgd : o.guard = none) (x y : Operand) (ho : o.op = .store 101 x y)
    {B : Nat} {s0 d0 : List Int} {h0 k0 : Int} {a0 : Option Addr} {len0 cap0 : Nat} (hx : f.eval x = .pointer (some ⟨B, 0, none⟩)) (p : PkIn B s0 d0 h0 k0 a0 len0 cap0 w)
    (s d : List Int) (h k : Int) (a : Option Addr) (len cap : Nat) (hy : f.eval y = .agg (pkC s d h k a len cap))
    (hK : ∀ w', PkIn B s d h k a len cap w' → Only B w w' → wpList Tryz.prog ops Q rest (f.put o.dst undef) w') : wpList Tryz.prog ops Q (o :: rest) f w :=
  wpList_store_row hgd 101 x y ho B _ hx hy 101 _ p (by kernel_rfl) rfl (by unfold pkC; simp [Value.oneCell']) (hK _ (p.stored s d h k a len cap) (only_setRow _ _ _))
theorem results_pk {fn : Func} {p u : Tmp} (h : fn.results = #[.cell p 101, .tmp u]) (tmps : Array Value) (w : World) (B : Nat) (s d : List Int) (hp k : Int) (a : Option Addr) (len cap : Nat)
    (ht : tmps.getD p undef = .pointer (some ⟨B, 0, none⟩)) (hg : PkIn B s d hp k a len cap w) :
    (results fn tmps).run Tryz.prog w = .ok (.tuple #[pk s d hp k a len cap, tmps.getD u undef]) w := by
  rw [results_cell_tmp h, ht]
  have hl := run_loadVar_row (P := Tryz.prog) w B 101 101 _ (0, 0) _ hg Tryz.underlying101 rfl (by kernel_rfl)
  simp [asAddr, hl, pk]
end Go.Proofs.YtkhahbghmdccaaaGreatDoor.V6

namespace Go.Proofs.YtkhahbghmdccaaaGreatDoor.V6
open Go.RowKit
def zero6 : Array Value := #[.int .i64 0, .int .i64 0, .int .i64 0, .int .i64 0, .int .i64 0, .int .i64 0, .int .i64 0, .int .i64 0, .int .i64 0, .int .i64 0, .int .i64 0, .int .i64 0, .int .i64 0, .int .i64 0, .int .i64 0, .int .i64 0, .int .i64 0, .int .i64 0, .slice none 0 0]
theorem zero_new (w : World) : PkIn w.heap.size [] [] 0 0 none 0 0 (w.alloc (.cells zero6 101)) := pk_new w [] [] 0 0 none 0 0
end Go.Proofs.YtkhahbghmdccaaaGreatDoor.V6

namespace Go.Proofs.YtkhahbghmdccaaaGreatDoor.V6
open Go.RowKit
theorem PkIn.hsrc {B : Nat} {s d : List Int} {h k : Int} {a : Option Addr} {len cap : Nat} {w : World} (p : PkIn B s d h k a len cap w) : (hload (.pointer (some ⟨B, 0, none⟩))).run Tryz.prog w = .ok (.agg (sixC s)) w :=
  run_loadAt_mid w B 0 23 (sixC s).toList _ (fun j v hv => by
    rw [Nat.zero_add, p.cellAt]
    have hj : j < 8 := (List.getElem?_eq_some_iff.1 hv).1
    rcases (by omega : j = 0 ∨ j = 1 ∨ j = 2 ∨ j = 3 ∨ j = 4 ∨ j = 5 ∨ j = 6 ∨ j = 7) with rfl | rfl | rfl | rfl | rfl | rfl | rfl | rfl <;> exact hv) Tryz.underlying23 rfl (by kernel_rfl)
theorem PkIn.hdst {B : Nat} {s d : List Int} {h k : Int} {a : Option Addr} {len cap : Nat} {w : World} (p : PkIn B s d h k a len cap w) : (hload (.pointer (some ⟨B, 8, none⟩))).run Tryz.prog w = .ok (.agg (sixC d)) w :=
  run_loadAt_mid w B 8 23 (sixC d).toList _ (fun j v hv => by
    rw [p.cellAt]
    have hj : j < 8 := (List.getElem?_eq_some_iff.1 hv).1
    rcases (by omega : j = 0 ∨ j = 1 ∨ j = 2 ∨ j = 3 ∨ j = 4 ∨ j = 5 ∨ j = 6 ∨ j = 7) with rfl | rfl | rfl | rfl | rfl | rfl | rfl | rfl <;> exact hv) Tryz.underlying23 rfl (by kernel_rfl)
end Go.Proofs.YtkhahbghmdccaaaGreatDoor.V6

namespace Go.Proofs.YtkhahbghmdccaaaGreatDoor.V6
open Go.RowKit
theorem pk_result {fn : Func} {p : Tmp} (h : fn.results = #[.cell p 101]) (tmps : Array Value) (w : World) (B : Nat) (s d : List Int) (hp k : Int) (a : Option Addr) (len cap : Nat)
    (ht : tmps.getD p undef = .pointer (some ⟨B, 0, none⟩)) (hg : PkIn B s d hp k a len cap w) : (results fn tmps).run Tryz.prog w = .ok (.agg (pkC s d hp k a len cap)) w :=
  results_cell_row h tmps w B 101 _ (0, 0) _ ht hg Tryz.underlying101 rfl (by kernel_rfl)
def hstore (x y : Value) : Sem Unit := Instr.storeAt 101 x y
theorem hstore_shut (x y : Value) : Instr.storeAt 101 x y = hstore x y := rfl
theorem PkIn.held {B : Nat} {s0 d0 : List Int} {h0 k0 : Int} {a0 : Option Addr} {len0 cap0 : Nat} {w : World} (p : PkIn B s0 d0 h0 k0 a0 len0 cap0 w) (s d : List Int) (h k : Int) (a : Option Addr) (len cap : Nat) :
    ∃ w', (hstore (.pointer (some ⟨B, 0, none⟩)) (.agg (pkC s d h k a len cap))).run Tryz.prog w = .ok () w' ∧ PkIn B s d h k a len cap w' ∧ Only B w w' := by
  refine ⟨w.setRow B (pkC s d h k a len cap), ?_, p.stored s d h k a len cap, only_setRow _ _ _⟩
  unfold hstore
  simp only [Instr.storeAt, Instr.sureAddr, Sem.run_bind, Sem.run_pure, Result.andThen_ok]
  exact run_storeVar_row w B 101 101 _ (pkC s d h k a len cap) p (by kernel_rfl) rfl (by unfold pkC; simp [Value.oneCell'])
end Go.Proofs.YtkhahbghmdccaaaGreatDoor.V6

namespace Go.Proofs.YtkhahbghmdccaaaGreatDoor.V6
open Go.RowKit
theorem isbyte_any (n : Int) (w : World) : Calls Tryz.prog 191 #[.int .i64 n] w fun e w' => e = .returned (.bool (up 255 n)) ∧ w' = w := by
  by_cases h0 : 0 ≤ n
  · by_cases h1 : n ≤ 255
    · rw [show up 255 n = true from decide_eq_true ⟨h0, h1⟩]
      go_enter Tryz.func191, Tryz.ntmps191
      go_wp2
      go_ret
      exact ⟨rfl, rfl⟩
    · rw [show up 255 n = false from decide_eq_false (fun h => h1 h.2)]
      go_enter Tryz.func191, Tryz.ntmps191
      go_wp2
      go_ret
      exact ⟨rfl, rfl⟩
  · rw [show up 255 n = false from decide_eq_false (fun h => h0 h.1)]
    go_enter Tryz.func191, Tryz.ntmps191
    go_wp2
    go_ret
    exact ⟨rfl, rfl⟩
def c6v (b : Bool) : Value := if b then .nilIface else .iface 28 (.int .i64 1)
def ok6 (z : List Int) : Bool := up 65535 (el z 0) && up 65535 (el z 1) && up 65535 (el z 2) && up 65535 (el z 3) && up 65535 (el z 4) && up 65535 (el z 5) && up 65535 (el z 6) && up 65535 (el z 7)
theorem ok6_iff (z : List Int) : ok6 z = true ↔ Ok6 z := by
  unfold ok6
  simp only [Bool.and_eq_true]
  refine ⟨fun ⟨⟨⟨⟨⟨⟨⟨h0, h1⟩, h2⟩, h3⟩, h4⟩, h5⟩, h6⟩, h7⟩ j hj => ?_, fun h => ?_⟩
  · rcases (by omega : j = 0 ∨ j = 1 ∨ j = 2 ∨ j = 3 ∨ j = 4 ∨ j = 5 ∨ j = 6 ∨ j = 7) with rfl | rfl | rfl | rfl | rfl | rfl | rfl | rfl <;> exact up_true (by assumption)
  · exact ⟨⟨⟨⟨⟨⟨⟨decide_eq_true (h 0 (by omega)), decide_eq_true (h 1 (by omega))⟩, decide_eq_true (h 2 (by omega))⟩, decide_eq_true (h 3 (by omega))⟩, decide_eq_true (h 4 (by omega))⟩, decide_eq_true (h 5 (by omega))⟩, decide_eq_true (h 6 (by omega))⟩, decide_eq_true (h 7 (by omega))⟩
theorem acheck_any (z : List Int) (w : World) : Calls Tryz.prog 95 #[.agg (sixC z)] w fun e w' => e = .returned (c6v (ok6 z)) ∧ Below w.heap.size w w' := by
  refine (check_any z w).mono ?_
  rintro e w' ⟨hh, rfl⟩
  refine ⟨?_, al_below _ _⟩
  rcases hh with ⟨h, rfl⟩ | ⟨h, rfl⟩
  · rw [(ok6_iff z).2 h]; rfl
  · rw [show ok6 z = false from Bool.eq_false_iff.2 (fun h' => h ((ok6_iff z).1 h'))]; rfl
def Okp (s d : List Int) (h k : Int) : Prop := Ok6 s ∧ Ok6 d ∧ (0 ≤ h ∧ h ≤ 255) ∧ (0 ≤ k ∧ k ≤ 255)
set_option maxRecDepth 100000 in
set_option maxHeartbeats 1000000 in
theorem chk_ok (s d : List Int) (h k : Int) (a : Option Addr) (len cap : Nat) (w : World) (ho : Okp s d h k) (hl : len ≤ 320) :
    Calls Tryz.prog 145 #[pk s d h k a len cap] w fun e w' => e = .returned .nilIface ∧ Below w.heap.size w w' := by
  obtain ⟨hs, hd, hh, hk⟩ := ho
  have es : c6v (ok6 s) = .nilIface := by rw [(ok6_iff s).2 hs]; rfl
  have ed : c6v (ok6 d) = .nilIface := by rw [(ok6_iff d).2 hd]; rfl
  replace hh : up 255 h = true := decide_eq_true hh
  replace hk : up 255 k = true := decide_eq_true hk
  clear hs hd
  have HB := hide (al_below w (.cells (pkC s d h k a len cap) 101))
  have HP := hide (pk_new w s d h k a len cap)
  unfold pk
  go_enter Tryz.func145, Tryz.ntmps145
  go_upto_region 1 with fail
  generalize w.alloc (.cells (pkC s d h k a len cap) 101) = W at HB HP ⊢
  go_upto_region 4 with (first
    | (refine at_src rfl (.tmp 5) rfl rfl HP.out ?_)
    | (go_at_call 95; with_reducible refine (acheck_any _ _).mono ?_; rintro e w1 ⟨rfl, hb1⟩; replace HB := hide (bt HB.out hb1); replace HP := hide (HP.out.kept hb1); clear hb1))
  go_upto_region 7 with (first
    | (refine at_dst rfl (.tmp 11) rfl rfl HP.out ?_)
    | (go_at_call 95; with_reducible refine (acheck_any _ _).mono ?_; rintro e w2 ⟨rfl, hb2⟩; replace HB := hide (bt HB.out hb2); replace HP := hide (HP.out.kept hb2); clear hb2))
  have l3 := HP.out.hop
  have l4 := HP.out.kind
  have l5 := HP.out.body
  go_wp2_with (go_at_call 191; refine (isbyte_any _ _).mono ?_; rintro e w' ⟨rfl, rfl⟩)
  go_ret
  exact ⟨rfl, HB.out⟩
end Go.Proofs.YtkhahbghmdccaaaGreatDoor.V6

namespace Go.Proofs.YtkhahbghmdccaaaGreatDoor.V6
open Go.RowKit
def Gr (W0 w : World) (v : Value) (zs : List Int) : Prop := Own W0.heap.size w v zs ∧ Below W0.heap.size W0 w
theorem Gr.below {W0 w w' : World} {v : Value} {zs : List Int} (h : Gr W0 w v zs) (hb : Below w.heap.size w w') : Gr W0 w' v zs := ⟨h.1.kept hb, h.2.trans (hb.mono h.2.size)⟩
theorem Gr.nil (w : World) : Gr w w (.slice none 0 0) [] := ⟨Own.nil _ _, Below.refl _ _⟩
theorem gr_make (w : World) {ops : Array Oper} {rest : List Oper} {o : Oper} {a : Act} {Q : Exit → Act → World → Prop} (hg : o.guard = none) (l c : Operand) (hop : o.op = Op.makeSlice 37 l c)
    (C : Int) (n : Nat) (hl : a.eval l = .int .i64 0) (hc : a.eval c = .int .i64 C) (hC : C = (n : Int)) (b2 : n ≤ 1000000000)
    (hK : ∀ b w', Gr w w' (.slice (some ⟨b, 0, none⟩) 0 n) [] → wpList Tryz.prog ops Q rest (a.put o.dst (.slice (some ⟨b, 0, none⟩) 0 n)) w') : wpList Tryz.prog ops Q (o :: rest) a w := by
  obtain ⟨i0, hi, hz0, hz1, hz2⟩ := info_parts Tryz.infoByte
  refine wpList_make_own w hg l c 37 hop w.heap.size 5 i0 _ 1 Tryz.underlying37 hi hz0 hz1 .i64 .i64 C n hl hc hC (by rw [hz2]; omega) (by unfold maxLen; omega) (Nat.le_refl _) ?_
  intro w' h1 h2
  exact hK _ w' ⟨⟨SM.oct_nil, h1⟩, (Below.refl _ _).grown h2 (Nat.le_refl _) (fun k h => by cases h)⟩
theorem gr_app {w : World} {ops : Array Oper} {rest : List Oper} {o : Oper} {a : Act} {Q : Exit → Act → World → Prop} (hgd : o.guard = none) (s x : Operand)
    (ho : o.op = .call { callee := .builtin .append, args := #[s, x], argTypes := #[37, 37] })
    {W0 : World} {v : Value} {zs : List Int} (hs : a.eval s = v) (hg : Gr W0 w v zs) {ao : Option Addr} {len cap : Nat} {ys : List Int}
    (hx : a.eval x = .slice ao len cap) (hrow : Row8 w ao len cap ys) (hlen : zs.length + len ≤ 1000000000)
    (h : ∀ v' w', Gr W0 w' v' (zs ++ ys) → wpList Tryz.prog ops Q rest (a.put o.dst v') w') : wpList Tryz.prog ops Q (o :: rest) a w :=
  wpList_app hgd s x ho W0.heap.size v zs hs hg.1 ao len cap ys hx hrow hlen hg.2.size (fun v' w' h1 h2 => h v' w' ⟨h1, hg.2.grown h2 hg.2.size (fun k e => (hg.1.2.lt k e).1)⟩)
theorem oct_by16 (z : List Int) (h : Ok6 z) (n : Nat) (hn : n ≤ 8) : SM.Oct (by16 z n) := by
  induction n with
  | zero => exact SM.oct_nil
  | succ n ih =>
    rw [by16_succ]
    refine SM.oct_append _ _ (ih (by omega)) ?_
    obtain ⟨h0, h1⟩ := h n (by omega)
    intro k
    match k with
    | 0 => show 0 ≤ el z n / 256 ∧ el z n / 256 ≤ 255; omega
    | 1 => show 0 ≤ el z n % 256 ∧ el z n % 256 ≤ 255; omega
    | k + 2 => simp
theorem abytes_ok (z : List Int) (w : World) (hz : Ok6 z) : Calls Tryz.prog 138 #[.agg (sixC z)] w fun e w' => ∃ a c, e = .returned (.tuple #[.slice a 16 c, .nilIface]) ∧ Row8 w' a 16 c (by16 z 8) ∧ Below w.heap.size w w' := by
  refine (bytes_ok z w hz).mono ?_
  rintro e w' ⟨v, rfl, ho, hb⟩
  have ho' : Own w.heap.size w' v (by16 z 8) := ⟨oct_by16 z hz 8 (by omega), by
    unfold OwnG u8s at ho
    rw [List.length_map] at ho
    exact ho⟩
  obtain ⟨a, c, rfl, hr, _⟩ := ho'.row8
  rw [by16_len] at hr
  exact ⟨a, c, by rw [by16_len], hr, hb⟩
def h8 (n k h : Int) : List Int := [96, 0, 0, 0, n / 256, n % 256, k, h]
def bys (s d : List Int) (h k : Int) (body : List Int) : List Int := ((h8 body.length k h ++ by16 s 8) ++ by16 d 8) ++ body
theorem bys_len (s d : List Int) (h k : Int) (body : List Int) : (bys s d h k body).length = 40 + body.length := by
  unfold bys
  rw [List.length_append, List.length_append, List.length_append, by16_len, by16_len]
  show 8 + _ + _ + _ = _
  omega
theorem h8_oct (n k h : Int) (hn : 0 ≤ n ∧ n ≤ 320) (hk : 0 ≤ k ∧ k ≤ 255) (hh : 0 ≤ h ∧ h ≤ 255) : SM.Oct (h8 n k h) := by
  intro j
  unfold h8
  match j with
  | 0 => simp
  | 1 => simp
  | 2 => simp
  | 3 => simp
  | 4 => simp; omega
  | 5 => simp; omega
  | 6 => simpa using hk
  | 7 => simpa using hh
  | j + 8 => simp
theorem row_h8 (w : World) (n k h : Int) (ho : SM.Oct (h8 n k h)) : Row8 (w.alloc (.cells #[.int .u8 96, .int .u8 0, .int .u8 0, .int .u8 0, .int .u8 (n / 256), .int .u8 (n % 256), .int .u8 k, .int .u8 h] 5)) (some ⟨w.heap.size, 0, none⟩) 8 8 (h8 n k h) :=
  (show Blk w.heap.size (h8 n k h) (w.alloc (.cells #[.int .u8 96, .int .u8 0, .int .u8 0, .int .u8 0, .int .u8 (n / 256), .int .u8 (n % 256), .int .u8 k, .int .u8 h] 5)) from blk_new w (h8 n k h)).row8 ho 8 8 rfl (by decide)
set_option maxRecDepth 100000 in
set_option maxHeartbeats 4000000 in
theorem encode_ok (s d : List Int) (h k : Int) (a : Option Addr) (len cap : Nat) (body : List Int) (w : World) (ho : Okp s d h k) (hl : len ≤ 320) (hr : Row8 w a len cap body) :
    Calls Tryz.prog 90 #[pk s d h k a len cap] w fun e w' => ∃ v, e = .returned (.tuple #[v, .nilIface]) ∧ Own w.heap.size w' v (bys s d h k body) ∧ Below w.heap.size w w' := by
  have HB := hide (al_below w (.cells (pkC s d h k a len cap) 101))
  have HP := hide (pk_new w s d h k a len cap)
  have HC := hide (fun w => chk_ok s d h k a len cap w ho hl)
  have HS := hide (fun w => abytes_ok s w ho.1)
  have HD := hide (fun w => abytes_ok d w ho.2.1)
  have hlen := hr.1
  have H8 := hide (h8_oct len k h (by omega) ho.2.2.2 ho.2.2.1)
  have HBY := hide (show bys s d h k body = ((h8 len k h ++ by16 s 8) ++ by16 d 8) ++ body by unfold bys; rw [hlen])
  obtain ⟨-, -, ⟨hh0, hh1⟩, ⟨hk0, hk1⟩⟩ := ho
  have HLs := hide (by16_len s 8)
  have HLd := hide (by16_len d 8)
  generalize by16 s 8 = S at HS HBY HLs
  generalize by16 d 8 = D at HD HBY HLd
  have HR := hide hr
  unfold pk at HC ⊢
  clear hr
  go_enter Tryz.func90, Tryz.ntmps90
  go_upto_region 1 with fail
  generalize w.alloc (.cells (pkC s d h k a len cap) 101) = W at HB HP ⊢
  go_upto_region 4 with (first
    | (refine at_load rfl (.tmp 1) rfl rfl HP.out ?_)
    | (go_at_call 145; refine (HC.out _).mono ?_; rintro e w1 ⟨rfl, hb1⟩; replace HB := hide (bt HB.out hb1); replace HP := hide (HP.out.kept hb1); clear hb1))
  go_upto_region 7 with (first
    | (refine at_src rfl (.tmp 16) rfl rfl HP.out ?_)
    | (go_at_call 138; with_reducible refine (HS.out _).mono ?_; rintro e w2 ⟨a2, c2, rfl, hr2, hb2⟩; replace HB := hide (bt HB.out hb2); replace HP := hide (HP.out.kept hb2); replace hr2 := hide hr2; clear hb2))
  go_upto_region 10 with (first
    | (refine at_dst rfl (.tmp 25) rfl rfl HP.out ?_)
    | (go_at_call 138; with_reducible refine (HD.out _).mono ?_; rintro e w3 ⟨a3, c3, rfl, hr3, hb3⟩; replace HB := hide (bt HB.out hb3); replace HP := hide (HP.out.kept hb3); replace hr2 := hide (hr2.out.below hb3); replace hr3 := hide hr3; clear hb3))
  have l5 := HP.out.body
  go_upto_region 12 with (refine gr_make _ rfl (.const (.int .i64 0)) (.tmp 37) rfl (40 + (len : Int)) (40 + len) rfl rfl (by omega) (by omega) ?_; intro b4 w4 hg4; replace hg4 := hide hg4; clear l5)
  have HP4 := hide (HP.out.kept hg4.out.2)
  have l3 := HP4.out.hop
  have l4 := HP4.out.kind
  clear HC HS HD
  go_upto_region 13 with (at_builtin; refine gr_app rfl (.tmp 39) (.tmp 51) rfl rfl (hg4.out.below (al_below _ _)) rfl (row_h8 w4 len k h H8.out) (by simp) ?_; intro v5 w5 hg5; replace hg5 := hide hg5; clear hg4 l3 l4)
  go_upto_region 14 with (at_builtin; refine gr_app rfl (.tmp 53) (.tmp 54) rfl rfl hg5.out rfl (hr2.out.below hg5.out.2) (by simp [h8]) ?_; intro v6 w6 hg6; replace hg6 := hide hg6)
  go_upto_region 15 with (at_builtin; refine gr_app rfl (.tmp 56) (.tmp 57) rfl rfl hg6.out rfl (hr3.out.below hg6.out.2) (by simp [h8, HLs.out]) ?_; intro v7 w7 hg7; replace hg7 := hide hg7)
  have l5 := (HP.out.kept hg7.out.2).body
  go_wp2_with (at_builtin; refine gr_app rfl (.tmp 59) (.tmp 61) rfl rfl hg7.out rfl ((HR.out.below HB.out).below hg7.out.2) (by simp [h8, HLs.out, HLd.out]; omega) ?_; intro v8 w8 hg8; replace hg8 := hide hg8)
  go_ret2
  exact ⟨v8, rfl, HBY.out ▸ hg8.out.1.mono HB.out.size, HB.out.trans (hg8.out.2.mono HB.out.size)⟩
end Go.Proofs.YtkhahbghmdccaaaGreatDoor.V6

namespace Go.Proofs.YtkhahbghmdccaaaGreatDoor
open Go.RowKit
attribute [local go_sem ↓] Go.wp_at_zero Go.wp_at_succ
def mix (z z' : List Int) (k : Nat) : List Int := (List.range 8).map fun j => if j < k then el z j else el z' j
theorem el_mix (z z' : List Int) (k j : Nat) (hj : j < 8) : el (mix z z' k) j = if j < k then el z j else el z' j := by
  simp [el, mix, List.getD, hj]
theorem SixIn.cput1 {B : Nat} {z z' : List Int} {w : World} (k : Nat) (hk : k < 8) (h : SixIn B (mix z z' k) w) : SixIn B (mix z z' (k + 1)) (w.setCell ⟨B, k, none⟩ (.int .i64 (el z k))) :=
  h.set k hk (el z k) (mix z z' (k + 1)) (fun j hj => by
    rw [el_mix z z' (k + 1) j hj, el_mix z z' k j hj]
    by_cases e : j = k
    · subst e; rw [if_pos (by omega), if_pos rfl]
    · rw [if_neg e]
      by_cases h : j < k
      · rw [if_pos (by omega), if_pos h]
      · rw [if_neg (by omega), if_neg h])
theorem sixC_congr {z z' : List Int} (h : ∀ j, j < 8 → el z j = el z' j) : sixC z = sixC z' := by
  unfold sixC
  rw [h 0 (by omega), h 1 (by omega), h 2 (by omega), h 3 (by omega), h 4 (by omega), h 5 (by omega), h 6 (by omega), h 7 (by omega)]
theorem SixIn.mix0 {B : Nat} {Z : List Int} {w : World} (h : SixIn B [] w) : SixIn B (mix Z [] 0) w := by
  unfold SixIn at h ⊢
  rw [sixC_congr (fun j hj => by rw [el_mix Z [] 0 j hj, if_neg (by omega)] : ∀ j, j < 8 → el (mix Z [] 0) j = el [] j)]
  exact h
theorem SixIn.mix8 {B : Nat} {Z : List Int} {w : World} (h : SixIn B (mix Z [] 8) w) : SixIn B Z w := by
  unfold SixIn at h ⊢
  rw [sixC_congr (fun j hj => by rw [el_mix Z [] 8 j hj, if_pos (by omega)] : ∀ j, j < 8 → el (mix Z [] 8) j = el Z j)] at h
  exact h
theorem cat_store6 {ops : Array Oper} {rest : List Oper} {o : Oper} {f : Act} {w : World} {Q : Exit → Act → World → Prop} (hgd : o.guard = none) (x y : Operand) (ho : o.op = .store 23 x y)
    {B : Nat} {z0 : List Int} (hx : f.eval x = .pointer (some ⟨B, 0, none⟩)) (p : SixIn B z0 w) {z : List Int} (hy : f.eval y = .agg (sixC z))
    (hK : ∀ w', SixIn B z w' → Only B w w' → wpList Tryz.prog ops Q rest (f.put o.dst undef) w') : wpList Tryz.prog ops Q (o :: rest) f w :=
  wpList_store_row hgd 23 x y ho B _ hx hy 23 _ p (by kernel_rfl) rfl (by unfold sixC; simp [Value.oneCell']) (hK _ (setRow_heap w B _ _ _ (0, 0) p) (only_setRow _ _ _))
def adr (zs : List Int) (o : Nat) : List Int := (List.range 8).map fun j => zs.getD (o + 2 * j) 0 * 256 + zs.getD (o + (2 * j + 1)) 0
theorem el_adr (zs : List Int) (o k : Nat) (hk : k < 8) : el (adr zs o) k = zs.getD (o + 2 * k) 0 * 256 + zs.getD (o + (2 * k + 1)) 0 := by
  simp [el, adr, List.getD, hk]
def nn (w : World) : World := (w.alloc (.cells #[.int .i64 0, .int .i64 0, .int .i64 0, .int .i64 0, .int .i64 0, .int .i64 0, .int .i64 0, .int .i64 0] 23)).alloc (.cells #[.int .i64 0, .int .i64 0, .int .i64 0, .int .i64 0, .int .i64 0, .int .i64 0, .int .i64 0, .int .i64 0] 23)
theorem nn_facts (w : World) (Z : List Int) : Below w.heap.size w (nn w) ∧ SixIn w.heap.size [] (nn w) ∧ SixIn (w.heap.size + 1) (mix Z [] 0) (nn w) := by
  refine ⟨((Below.refl _ _).alloc (Nat.le_refl _) _).alloc (by simp) _, (noughts_in w).kept ((Below.refl _ _).alloc (Nat.le_refl _) _), ?_⟩
  have := noughts_in (w.alloc (.cells #[.int .i64 0, .int .i64 0, .int .i64 0, .int .i64 0, .int .i64 0, .int .i64 0, .int .i64 0, .int .i64 0] 23))
  unfold noughts at this
  simp only [World.size_alloc] at this
  exact this.mix0
theorem six_result {fn : Func} {p : Tmp} (h : fn.results = #[.cell p 23]) (tmps : Array Value) (w : World) (B : Nat) (z : List Int) (ht : tmps.getD p undef = .pointer (some ⟨B, 0, none⟩)) (hg : SixIn B z w) : (results fn tmps).run Tryz.prog w = .ok (.agg (sixC z)) w :=
  results_cell_row h tmps w B 23 _ (0, 0) _ ht hg Tryz.underlying23 rfl (by kernel_rfl)
set_option maxHeartbeats 4000000 in
set_option maxRecDepth 100000 in
theorem csix_any (g off cap : Nat) (zs : List Int) (w : World) (hr : Row8 w (some ⟨g, off, none⟩) 16 cap zs) :
    Calls Tryz.prog 200 #[.slice (some ⟨g, off, none⟩) 16 cap] w fun e w' => e = .returned (.agg (sixC (adr zs 0))) ∧ Below w.heap.size w w' := by
  have HEL := hide (el_adr zs 0)
  obtain ⟨hB0, hS0, hT0⟩ := nn_facts w (adr zs 0)
  unfold nn at hB0 hS0 hT0
  have hoct := hr.2.2.1
  have HRR := hide hr
  have hgl : g < w.heap.size := by
    obtain ⟨-, -, -, -, hcs⟩ := hr
    obtain ⟨b, o, e, hcell⟩ := hcs (by omega)
    cases e
    exact World.block_lt_of_cell? w _ (hcell 0 (by omega))
  have hne : w.heap.size + 1 ≠ g := by omega
  have hne' : g ≠ w.heap.size + 1 := by omega
  clear hr
  generalize adr zs 0 = Z at HEL hT0 ⊢
  go_enter Tryz.func200, Tryz.ntmps200
  go_wp2
  generalize (w.alloc (.cells #[.int .i64 0, .int .i64 0, .int .i64 0, .int .i64 0, .int .i64 0, .int .i64 0, .int .i64 0, .int .i64 0] 23)).alloc (.cells #[.int .i64 0, .int .i64 0, .int .i64 0, .int .i64 0, .int .i64 0, .int .i64 0, .int .i64 0, .int .i64 0] 23) = W at hB0 hS0 hT0 ⊢
  go_loopw [4, 5] (fun _ t wr => ∃ k : Nat, k ≤ 8 ∧ t = .int .i64 k ∧ Hid (SixIn (w.heap.size + 1) (mix Z [] k) wr) ∧ Hid (SixIn w.heap.size [] wr) ∧ Hid (Below w.heap.size w wr)) (fun _ t _ => 8 - (intOf t).toNat)
  case atStart => exact ⟨0, by omega, rfl, hT0, hS0, hB0⟩
  case round =>
    obtain ⟨k, hk, rfl, HT, HS, HB⟩ := hrel
    clear hT0 hS0 hB0
    by_cases hlt : k < 8
    · have hrw := HRR.out.below HB.out
      obtain ⟨-, -, -, -, hcs⟩ := hrw
      obtain ⟨b, o, e, hcell⟩ := hcs (by omega)
      cases e
      have c1 := hcell (2 * k) (by omega)
      have c2 := hcell (2 * k + 1) (by omega)
      clear hcs hcell
      have ct := (HT.out.facts k hlt).1
      have ft := (HT.out.facts k hlt).2.1
      have HT2 := hide (HT.out.cput1 k hlt)
      rw [HEL.out k hlt, Nat.zero_add, Nat.zero_add] at HT2
      obtain ⟨hx0, hx1⟩ := hoct (2 * k)
      obtain ⟨hy0, hy1⟩ := hoct (2 * k + 1)
      clear hoct
      generalize zs.getD (2 * k) 0 = x at c1 hx0 hx1 HT2
      generalize zs.getD (2 * k + 1) 0 = y at c2 hy0 hy1 HT2
      generalize el (mix Z [] k) k = q at ct
      have HS2 := hide (HS.out.other ⟨w.heap.size + 1, k, none⟩ (by simp) (.int .i64 (x * 256 + y)))
      have HB2 := hide ((HB.out.setCell (p := ⟨w.heap.size + 1, k, none⟩) (Nat.le_succ _) (.int .i64 (x * 256 + y))).drew)
      have gx : IntKind.i64.wrap x = x := by rw [IntKind.wrap_i64]; omega
      have gy : IntKind.i64.wrap y = y := by rw [IntKind.wrap_i64]; omega
      have gs : IntKind.i64.wrap (x * 256) = x * 256 := by rw [IntKind.wrap_i64]; omega
      have go := or_lo x y hx0 (by omega) hy0 (by omega)
      have i0 : (0 : Int) ≤ (k : Int) := by omega
      have i1 : (k : Int) < 8 := by omega
      have i2 : (2 : Int) * (k : Int) < 16 := by omega
      have i3 : (2 : Int) * (k : Int) + 1 < 16 := by omega
      have g2 : IntKind.i64.wrap (2 * (k : Int)) = 2 * (k : Int) := by rw [IntKind.wrap_i64]; omega
      have g3 : IntKind.i64.wrap (2 * (k : Int) + 1) = 2 * (k : Int) + 1 := by rw [IntKind.wrap_i64]; omega
      have g4 : (2 * (k : Int)).toNat = 2 * k := by omega
      have g5 : (2 * (k : Int) + 1).toNat = 2 * k + 1 := by omega
      have i4 : (0 : Int) ≤ 2 * (k : Int) := by omega
      have i5 : (0 : Int) ≤ 2 * (k : Int) + 1 := by omega
      clear HT HS HB HEL HRR
      go_wp2
      go_region_held3 (fun w' => w'.cell? ⟨g, off + 2 * k, none⟩ = some (.int .u8 x) ∧ w'.cell? ⟨g, off + (2 * k + 1), none⟩ = some (.int .u8 y))
        (first | go_keep) (fail)
      go_wp2_with fail
      go_roundw
      case rel => exact ⟨k + 1, by omega, by go_num, HT2, HS2, HB2⟩
      case measure => simp [intOf]; omega
    · obtain rfl : k = 8 := by omega
      have HZ := hide HT.out.mix8
      clear HT HEL HRR hoct
      go_wp2_with (first
        | (refine at_load6 rfl (.tmp 3) rfl rfl HZ.out ?_)
        | (refine cat_store6 rfl (.tmp 2) (.tmp 26) rfl rfl HS.out rfl ?_; intro w5 hz5 ho5; have HB5 := hide (ho5.below HB.out (Nat.le_refl _)); replace hz5 := hide hz5; clear ho5))
      try simp only [Exit.inBlock, Exit.then]
      refine bodyPost_ret (six_result rfl _ _ w.heap.size Z rfl hz5.out) rfl ?_
      exact ⟨rfl, HB5.out⟩
end Go.Proofs.YtkhahbghmdccaaaGreatDoor
