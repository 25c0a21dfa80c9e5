/- A segment as a value and in its block; loads and stores of all of it and of its numbers. Package seg: Check, by a contract. Package seg: unchecked and checkOf, by contracts. -/
import Derived.Test.YtkhahbghmdccaaaGreatDoorF03
import Derived.Below
import Derived.OpenShut
import Derived.Test.YtkhahbghmdccaaaGreatDoorProg
import Derived.WalkKit
import Derived.LaidEql
import Derived.BigQuiet
import Derived.Laws.AppendOwnNone
import Derived.Laws.MakeOwn
import Derived.Deep.RegionLaw
import Derived.Lib.Bytes
import Derived.Deep.MidRow
import Derived.Laws.ResultCell
import Derived.Deep.CutBlock
import Derived.Deep.QuietTactic
import Derived.OwnWalk
import Derived.Deep.RegionHeld3
import Derived.Deep.DrawnRows
namespace Go.Proofs.YtkhahbghmdccaaaGreatDoor
open Go.RowKit
def sgC (z : List Int) (a : Option Addr) (len cap : Nat) : Array Value := #[.int .i64 (el z 0), .int .i64 (el z 1), .int .i64 (el z 2), .int .i64 (el z 3), .int .i64 (el z 4), .int .i64 (el z 5), .int .i64 (el z 6), .slice a len cap]
def SgIn (B : Nat) (z : List Int) (a : Option Addr) (len cap : Nat) (w : World) : Prop := w.heap[B]? = some (.cells (sgC z a len cap) 39 (0, 0))
theorem SgIn.lt {B : Nat} {z : List Int} {a : Option Addr} {len cap : Nat} {w : World} (p : SgIn B z a len cap w) : B < w.heap.size := (Array.getElem?_eq_some_iff.1 p).1
theorem SgIn.kept {B : Nat} {z : List Int} {a : Option Addr} {len cap : Nat} {w w' : World} (p : SgIn B z a len cap w) (hb : Below w.heap.size w w') : SgIn B z a len cap w' := (hb.block B p.lt).trans p
theorem SgIn.grown {B : Nat} {z : List Int} {a : Option Addr} {len cap : Nat} {w w' : World} (p : SgIn B z a len cap w) {r : Option Nat} (hg : w.grownBy w' r) (hr : some B ≠ r) : SgIn B z a len cap w' := (hg.block _ p.lt hr).trans p
theorem sg_new (w : World) (z : List Int) (a : Option Addr) (len cap : Nat) : SgIn w.heap.size z a len cap (w.alloc (.cells (sgC z a len cap) 39)) := heap_alloc_new w _
theorem SgIn.cellAt {B : Nat} {z : List Int} {a : Option Addr} {len cap : Nat} {w : World} (p : SgIn B z a len cap w) (j : Nat) : w.cell? ⟨B, j, none⟩ = (sgC z a len cap)[j]? := cell_of_row w B j _ _ _ p
theorem SgIn.c0 {B : Nat} {z : List Int} {a : Option Addr} {len cap : Nat} {w : World} (p : SgIn B z a len cap w) : w.cell? ⟨B, 0, none⟩ = some (.int .i64 (el z 0)) := p.cellAt 0
theorem SgIn.c1 {B : Nat} {z : List Int} {a : Option Addr} {len cap : Nat} {w : World} (p : SgIn B z a len cap w) : w.cell? ⟨B, 1, none⟩ = some (.int .i64 (el z 1)) := p.cellAt 1
theorem SgIn.c2 {B : Nat} {z : List Int} {a : Option Addr} {len cap : Nat} {w : World} (p : SgIn B z a len cap w) : w.cell? ⟨B, 2, none⟩ = some (.int .i64 (el z 2)) := p.cellAt 2
theorem SgIn.c3 {B : Nat} {z : List Int} {a : Option Addr} {len cap : Nat} {w : World} (p : SgIn B z a len cap w) : w.cell? ⟨B, 3, none⟩ = some (.int .i64 (el z 3)) := p.cellAt 3
theorem SgIn.c4 {B : Nat} {z : List Int} {a : Option Addr} {len cap : Nat} {w : World} (p : SgIn B z a len cap w) : w.cell? ⟨B, 4, none⟩ = some (.int .i64 (el z 4)) := p.cellAt 4
theorem SgIn.c5 {B : Nat} {z : List Int} {a : Option Addr} {len cap : Nat} {w : World} (p : SgIn B z a len cap w) : w.cell? ⟨B, 5, none⟩ = some (.int .i64 (el z 5)) := p.cellAt 5
theorem SgIn.c6 {B : Nat} {z : List Int} {a : Option Addr} {len cap : Nat} {w : World} (p : SgIn B z a len cap w) : w.cell? ⟨B, 6, none⟩ = some (.int .i64 (el z 6)) := p.cellAt 6
theorem SgIn.c7 {B : Nat} {z : List Int} {a : Option Addr} {len cap : Nat} {w : World} (p : SgIn B z a len cap w) : w.cell? ⟨B, 7, none⟩ = some (.slice a len cap) := p.cellAt 7
theorem Only.sg {B B' : Nat} {w w' : World} (h : Only B w w') {z : List Int} {a : Option Addr} {len cap : Nat} (p : SgIn B' z a len cap w) (hne : B' ≠ B) : SgIn B' z a len cap w' := (h.2.2.2.2 B' hne).trans p
theorem at_load {ops : Array Oper} {rest : List Oper} {o : Oper} {f : Act} {w : World} {Q : Exit → Act → World → Prop} (hgd : o.guard = none) (x : Operand) (ho : o.op = .load 39 x)
    {B : Nat} {z : List Int} {a : Option Addr} {len cap : Nat} (hx : f.eval x = .pointer (some ⟨B, 0, none⟩)) (p : SgIn B z a len cap w)
    (hK : wpList Tryz.prog ops Q rest (f.put o.dst (.agg (sgC z a len cap))) w) : wpList Tryz.prog ops Q (o :: rest) f w :=
  wpList_load_row hgd 39 x ho B hx 39 _ (0, 0) _ p Tryz.underlying39 rfl (by kernel_rfl) hK
theorem SgIn.stored {B : Nat} {z0 : List Int} {a0 : Option Addr} {len0 cap0 : Nat} {w : World} (p : SgIn B z0 a0 len0 cap0 w) (z : List Int) (a : Option Addr) (len cap : Nat) : SgIn B z a len cap (w.setRow B (sgC z a len cap)) := setRow_heap w B _ _ _ (0, 0) p
theorem at_store {ops : Array Oper} {rest : List Oper} {o : Oper} {f : Act} {w : World} {Q : Exit → Act → World → Prop} (hgd : o.guard = none) (x y : Operand) (ho : o.op = .store 39 x y)
    {B : Nat} {z0 : List Int} {a0 : Option Addr} {len0 cap0 : Nat} (hx : f.eval x = .pointer (some ⟨B, 0, none⟩)) (p : SgIn B z0 a0 len0 cap0 w)
    (z : List Int) (a : Option Addr) (len cap : Nat) (hy : f.eval y = .agg (sgC z a len cap))
    (hK : ∀ w', SgIn B z a len cap w' → Only B w w' → wpList Tryz.prog ops Q rest (f.put o.dst undef) w') : wpList Tryz.prog ops Q (o :: rest) f w :=
  wpList_store_row hgd 39 x y ho B _ hx hy 39 _ p (by kernel_rfl) rfl (by unfold sgC; simp [Value.oneCell']) (hK _ (p.stored z a len cap) (only_setRow _ _ _))
theorem results_sg {fn : Func} {p u : Tmp} (h : fn.results = #[.cell p 39, .tmp u]) (tmps : Array Value) (w : World) (B : Nat) (z : List Int) (a : Option Addr) (len cap : Nat)
    (ht : tmps.getD p undef = .pointer (some ⟨B, 0, none⟩)) (hg : SgIn B z a len cap w) :
    (results fn tmps).run Tryz.prog w = .ok (.tuple #[.agg (sgC z a len cap), tmps.getD u undef]) w := by
  rw [results_cell_tmp h, ht]
  have hl := run_loadVar_row (P := Tryz.prog) w B 39 39 _ (0, 0) _ hg Tryz.underlying39 rfl (by kernel_rfl)
  simp [asAddr, hl]
theorem sg_result {fn : Func} {p : Tmp} (h : fn.results = #[.cell p 39]) (tmps : Array Value) (w : World) (B : Nat) (z : List Int) (a : Option Addr) (len cap : Nat)
    (ht : tmps.getD p undef = .pointer (some ⟨B, 0, none⟩)) (hg : SgIn B z a len cap w) : (results fn tmps).run Tryz.prog w = .ok (.agg (sgC z a len cap)) w :=
  results_cell_row h tmps w B 39 _ (0, 0) _ ht hg Tryz.underlying39 rfl (by kernel_rfl)
def gload (x : Value) : Sem Value := Instr.loadAt 39 x
theorem gload_shut (x : Value) : Instr.loadAt 39 x = gload x := rfl
theorem SgIn.gl {B : Nat} {z : List Int} {a : Option Addr} {len cap : Nat} {w : World} (p : SgIn B z a len cap w) : (gload (.pointer (some ⟨B, 0, none⟩))).run Tryz.prog w = .ok (.agg (sgC z a len cap)) w :=
  run_loadAt_mid w B 0 39 (sgC z a len cap).toList _ (fun j v hv => by
    rw [Nat.zero_add, p.cellAt]
    simpa using hv) Tryz.underlying39 rfl (by kernel_rfl)
def gstore (x y : Value) : Sem Unit := Instr.storeAt 39 x y
theorem gstore_shut (x y : Value) : Instr.storeAt 39 x y = gstore x y := rfl
theorem SgIn.held {B : Nat} {z0 : List Int} {a0 : Option Addr} {len0 cap0 : Nat} {w : World} (p : SgIn B z0 a0 len0 cap0 w) (z : List Int) (a : Option Addr) (len cap : Nat) :
    ∃ w', (gstore (.pointer (some ⟨B, 0, none⟩)) (.agg (sgC z a len cap))).run Tryz.prog w = .ok () w' ∧ SgIn B z a len cap w' ∧ Only B w w' := by
  refine ⟨w.setRow B (sgC z a len cap), ?_, p.stored z a len cap, only_setRow _ _ _⟩
  unfold gstore
  simp only [Instr.storeAt, Instr.sureAddr, Sem.run_bind, Sem.run_pure, Result.andThen_ok]
  exact run_storeVar_row w B 39 39 _ (sgC z a len cap) p (by kernel_rfl) rfl (by unfold sgC; simp [Value.oneCell'])
theorem upto1b (m x : Int) (W : World) : Calls Tryz.prog 141 #[.int .i64 m, .slice (some ⟨W.heap.size, 0, none⟩) 1 1] (W.alloc (.cells #[.int .i64 x] 3)) fun e w' => e = .returned (.bool (up m x)) ∧ Below W.heap.size W w' :=
  (upto1 m x W.heap.size _ (ints_new W [x])).mono fun e w' ⟨h1, h2⟩ => ⟨h1, by rw [h2]; exact al_below _ _⟩
theorem upto2b (m x y : Int) (W : World) : Calls Tryz.prog 141 #[.int .i64 m, .slice (some ⟨W.heap.size, 0, none⟩) 2 2] (W.alloc (.cells #[.int .i64 x, .int .i64 y] 3)) fun e w' => e = .returned (.bool (ups m [x, y])) ∧ Below W.heap.size W w' :=
  (upto_any m W.heap.size 2 [x, y] _ rfl (by omega) (ints_new W [x, y])).mono fun e w' ⟨h1, h2⟩ => ⟨h1, by rw [h2]; exact al_below _ _⟩
theorem upto4b (m x y u v : Int) (W : World) : Calls Tryz.prog 141 #[.int .i64 m, .slice (some ⟨W.heap.size, 0, none⟩) 4 4] (W.alloc (.cells #[.int .i64 x, .int .i64 y, .int .i64 u, .int .i64 v] 3)) fun e w' => e = .returned (.bool (ups m [x, y, u, v])) ∧ Below W.heap.size W w' :=
  (upto_any m W.heap.size 4 [x, y, u, v] _ rfl (by omega) (ints_new W [x, y, u, v])).mono fun e w' ⟨h1, h2⟩ => ⟨h1, by rw [h2]; exact al_below _ _⟩
def os (z : List Int) : Bool := ups 4294967295 [el z 3, el z 4] && up 31 (el z 5) && up 65535 (el z 6)
set_option maxRecDepth 100000 in
set_option maxHeartbeats 2000000 in
theorem stream_any (z : List Int) (a : Option Addr) (len cap : Nat) (w : World) :
    Calls Tryz.prog 189 #[.agg (sgC z a len cap)] w fun e w' => e = .returned (.bool (os z)) ∧ Below w.heap.size w w' := by
  have HB := hide (al_below w (.cells (sgC z a len cap) 39))
  have HP := hide (sg_new w z a len cap)
  have HO := hide (show os z = (ups 4294967295 [el z 3, el z 4] && up 31 (el z 5) && up 65535 (el z 6)) from rfl)
  generalize os z = O at HO ⊢
  generalize h1 : ups 4294967295 [el z 3, el z 4] = u1 at HO
  generalize h2 : up 31 (el z 5) = u2 at HO
  generalize h3 : up 65535 (el z 6) = u3 at HO
  go_enter Tryz.func189, Tryz.ntmps189
  go_upto_region 1 with fail
  generalize w.alloc (.cells (sgC z a len cap) 39) = W at HB HP ⊢
  have l3 := HP.out.c3
  have l4 := HP.out.c4
  have l5 := HP.out.c5
  have l6 := HP.out.c6
  cases u1
  case' true => cases u2
  all_goals
    go_wp2_with (first
      | (go_at_call 141; (with_reducible refine (upto2b _ _ _ _).mono ?_); rintro e w1 ⟨rfl, hb1⟩; replace HB := hide (bt HB.out hb1); replace HP := hide (HP.out.kept hb1); clear hb1 l3 l4 l5 l6; have l5 := HP.out.c5; have l6 := HP.out.c6)
      | (go_at_call 141; (with_reducible refine (upto1b _ _ _).mono ?_); rintro e w2 ⟨rfl, hb2⟩; replace HB := hide (bt HB.out hb2); replace HP := hide (HP.out.kept hb2); clear hb2 l5 l6; have l5 := HP.out.c5; have l6 := HP.out.c6))
    go_ret
    exact ⟨by rw [HO.out]; rfl, HB.out⟩
end Go.Proofs.YtkhahbghmdccaaaGreatDoor

namespace Go.Proofs.YtkhahbghmdccaaaGreatDoor
open Go.RowKit
def sf (z : List Int) (len : Nat) : Int :=
  if (kn (el z 0) && ups 65535 [el z 1, el z 2]) = false then 1
  else if el z 0 = 6 then (if os z = false then 1 else if 300 < len then 3 else 0)
  else (if ups 0 [el z 3, el z 4, el z 5, el z 6] = false then 2 else if 300 < len then 3 else 0)
def ev (n : Int) : Value := if n = 0 then .nilIface else err n
attribute [local go_sem ↓] gload_shut
set_option maxRecDepth 100000 in
set_option maxHeartbeats 4000000 in
theorem chk_any (z : List Int) (a : Option Addr) (len cap : Nat) (w : World) (hm : len ≤ maxLen) :
    Calls Tryz.prog 140 #[.agg (sgC z a len cap)] w fun e w' => e = .returned (ev (sf z len)) ∧ Below w.heap.size w w' := by
  unfold maxLen at hm
  have HB := hide (al_below w (.cells (sgC z a len cap) 39))
  have HP := hide (sg_new w z a len cap)
  obtain ⟨E, hE⟩ : ∃ E, E = ev (sf z len) := ⟨_, rfl⟩
  rw [← hE]
  unfold sf at hE
  generalize hk : kn (el z 0) = uk at hE
  generalize hu : ups 65535 [el z 1, el z 2] = u1 at hE
  cases uk
  · have HE := hide (show E = err 1 from hE)
    clear hE
    unfold err at HE
    go_enter Tryz.func140, Tryz.ntmps140
    go_upto_region 1 with fail
    generalize w.alloc (.cells (sgC z a len cap) 39) = W at HB HP ⊢
    have l0 := HP.out.c0
    go_wp2_with (go_at_call 186; refine (known_any _ _).mono ?_; rintro e w' ⟨rfl, rfl⟩)
    go_ret
    exact ⟨by rw [HE.out]; rfl, HB.out⟩
  · cases u1
    · have HE := hide (show E = err 1 from hE)
      clear hE
      unfold err at HE
      go_enter Tryz.func140, Tryz.ntmps140
      go_upto_region 1 with fail
      generalize w.alloc (.cells (sgC z a len cap) 39) = W at HB HP ⊢
      have l0 := HP.out.c0
      have l1 := HP.out.c1
      have l2 := HP.out.c2
      go_wp2_with (first
        | (go_at_call 186; refine (known_any _ _).mono ?_; rintro e w' ⟨rfl, rfl⟩)
        | (go_at_call 141; (with_reducible refine (upto2b _ _ _ _).mono ?_); rintro e w1 ⟨rfl, hb1⟩; replace HB := hide (bt HB.out hb1); clear hb1 l0 l1 l2))
      go_ret
      exact ⟨by rw [HE.out]; rfl, HB.out⟩
    · rw [if_neg (by decide)] at hE
      generalize ho : os z = uo at hE
      generalize hn : ups 0 [el z 3, el z 4, el z 5, el z 6] = un at hE
      have HS := hide (fun W => stream_any z a len cap W)
      rw [ho] at HS
      replace hn := hide hn
      go_enter Tryz.func140, Tryz.ntmps140
      go_upto_region 1 with fail
      generalize w.alloc (.cells (sgC z a len cap) 39) = W at HB HP ⊢
      have l0 := HP.out.c0
      have l1 := HP.out.c1
      have l2 := HP.out.c2
      go_upto_region 3 with (first
        | (go_at_call 186; refine (known_any _ _).mono ?_; rintro e w' ⟨rfl, rfl⟩)
        | (go_at_call 141; (with_reducible refine (upto2b _ _ _ _).mono ?_); rintro e w1 ⟨rfl, hb1⟩; replace HB := hide (bt HB.out hb1); replace HP := hide (HP.out.kept hb1); clear hb1 l0 l1 l2))
      clear hu
      have l0 := HP.out.c0
      have l9 := HP.out.gl
      by_cases h6 : el z 0 = 6
      · rw [if_pos h6] at hE
        have e6 : (el z 0 == 6) = true := by simpa using h6
        have e17 : (el z 0 == 17) = false := by rw [h6]; rfl
        clear h6 hk
        cases uo
        · have HE := hide (show E = err 1 from hE)
          clear hE
          unfold err at HE
          go_wp2_with (go_at_call 189; refine (HS.out _).mono ?_; rintro e w2 ⟨rfl, hb2⟩; replace HB := hide (bt HB.out hb2); clear hb2 l0 l9)
          go_ret
          exact ⟨by rw [HE.out]; rfl, HB.out⟩
        · rw [if_neg (by decide)] at hE
          by_cases hl : 300 < len
          · have HE := hide (show E = err 3 by rw [hE, if_pos hl]; rfl)
            clear hE
            unfold err at HE
            go_wp2_with (go_at_call 189; refine (HS.out _).mono ?_; rintro e w2 ⟨rfl, hb2⟩; replace HB := hide (bt HB.out hb2); replace HP := hide (HP.out.kept hb2); clear hb2 l0 l9; have l0 := HP.out.c0; have l7 := HP.out.c7)
            go_ret
            exact ⟨by rw [HE.out]; rfl, HB.out⟩
          · have HE := hide (show E = .nilIface by rw [hE, if_neg hl]; rfl)
            clear hE
            go_wp2_with (go_at_call 189; refine (HS.out _).mono ?_; rintro e w2 ⟨rfl, hb2⟩; replace HB := hide (bt HB.out hb2); replace HP := hide (HP.out.kept hb2); clear hb2 l0 l9; have l0 := HP.out.c0; have l7 := HP.out.c7)
            go_ret
            exact ⟨by rw [HE.out]; rfl, HB.out⟩
      · rw [if_neg h6] at hE
        have e6 : (el z 0 == 6) = false := by simpa using h6
        have e17 : (el z 0 == 17) = true := by unfold kn at hk; rw [e6] at hk; simpa using hk
        have l3 := HP.out.c3
        have l4 := HP.out.c4
        have l5 := HP.out.c5
        have l6 := HP.out.c6
        replace hn := hn.out
        clear h6 hk l9 ho HS
        cases un
        · have HE := hide (show E = err 2 from hE)
          clear hE
          unfold err at HE
          go_wp2_with (go_at_call 141; (with_reducible refine (upto4b _ _ _ _ _ _).mono ?_); rintro e w1 ⟨rfl, hb1⟩; replace HB := hide (bt HB.out hb1); clear hb1 l0 l3 l4 l5 l6)
          go_ret
          exact ⟨by rw [HE.out]; rfl, HB.out⟩
        · rw [if_neg (by decide)] at hE
          by_cases hl : 300 < len
          · have HE := hide (show E = err 3 by rw [hE, if_pos hl]; rfl)
            clear hE
            unfold err at HE
            go_wp2_with (go_at_call 141; (with_reducible refine (upto4b _ _ _ _ _ _).mono ?_); rintro e w1 ⟨rfl, hb1⟩; replace HB := hide (bt HB.out hb1); replace HP := hide (HP.out.kept hb1); clear hb1 l0 l3 l4 l5 l6; have l7 := HP.out.c7)
            go_ret
            exact ⟨by rw [HE.out]; rfl, HB.out⟩
          · have HE := hide (show E = .nilIface by rw [hE, if_neg hl]; rfl)
            clear hE
            go_wp2_with (go_at_call 141; (with_reducible refine (upto4b _ _ _ _ _ _).mono ?_); rintro e w1 ⟨rfl, hb1⟩; replace HB := hide (bt HB.out hb1); replace HP := hide (HP.out.kept hb1); clear hb1 l0 l3 l4 l5 l6; have l7 := HP.out.c7)
            go_ret
            exact ⟨by rw [HE.out]; rfl, HB.out⟩
end Go.Proofs.YtkhahbghmdccaaaGreatDoor

namespace Go.Proofs.YtkhahbghmdccaaaGreatDoor
open Go.RowKit
attribute [local go_sem ↓] Go.wp_at_zero Go.wp_at_succ
theorem write12 (W0 : World) (v : Value) (zs : List Int) (x y : Int) (B : Nat) (w : World) (hg : Gr W0 w v zs) (hl : Ints B [x, y] w) (hz : zs.length ≤ 1000000) :
    Calls Tryz.prog 180 #[v, .int .i64 1, .slice (some ⟨B, 0, none⟩) 2 2] w fun e w' => ∃ v', e = .returned v' ∧ Gr W0 w' v' (zs ++ wsn 1 [x, y] 2) :=
  write_any W0 v zs 1 B 2 [x, y] w hg hl rfl (by omega) (by omega) hz
theorem write23 (W0 : World) (v : Value) (zs : List Int) (x y u : Int) (B : Nat) (w : World) (hg : Gr W0 w v zs) (hl : Ints B [x, y, u] w) (hz : zs.length ≤ 1000000) :
    Calls Tryz.prog 180 #[v, .int .i64 2, .slice (some ⟨B, 0, none⟩) 3 3] w fun e w' => ∃ v', e = .returned v' ∧ Gr W0 w' v' (zs ++ wsn 2 [x, y, u] 3) :=
  write_any W0 v zs 2 B 3 [x, y, u] w hg hl rfl (by omega) (by omega) hz
theorem ints3 (w : World) (x y u : Int) : Ints w.heap.size [x, y, u] (w.alloc (.cells #[.int .i64 x, .int .i64 y, .int .i64 u] 3)) := ints_new w [x, y, u]
def ub (z : List Int) (data : List Int) : List Int :=
  if el z 0 = 6 then (((wsn 2 [el z 1, el z 2] 2 ++ wsn 4 [el z 3, el z 4] 2) ++ wsn 1 [80, el z 5] 2) ++ wsn 2 [el z 6, 0, 0] 3) ++ data
  else (wsn 2 [el z 1, el z 2] 2 ++ wsn 2 [8 + (data.length : Int), 0] 2) ++ data
set_option maxRecDepth 100000 in
set_option maxHeartbeats 4000000 in
theorem unc_tcp (z : List Int) (a : Option Addr) (len cap : Nat) (data : List Int) (w : World) (h6 : el z 0 = 6) (hl : len ≤ 300) (hr : Row8 w a len cap data) :
    Calls Tryz.prog 142 #[.agg (sgC z a len cap)] w fun e w' => ∃ v, e = .returned v ∧ Own w.heap.size w' v (ub z data) ∧ Below w.heap.size w w' := by
  have HB := hide (al_below w (.cells (sgC z a len cap) 39))
  have HP := hide (sg_new w z a len cap)
  have HU := hide (show ub z data = (((wsn 2 [el z 1, el z 2] 2 ++ wsn 4 [el z 3, el z 4] 2) ++ wsn 1 [80, el z 5] 2) ++ wsn 2 [el z 6, 0, 0] 3) ++ data from if_pos h6)
  have W1 := hide (fun W0 W B v zs hg hi hz => write22 W0 v zs (el z 1) (el z 2) B W hg hi hz)
  have W2 := hide (fun W0 W B v zs hg hi hz => write24 W0 v zs (el z 3) (el z 4) B W hg hi hz)
  have W3 := hide (fun W0 W B v zs hg hi hz => write12 W0 v zs 80 (el z 5) B W hg hi hz)
  have W4 := hide (fun W0 W B v zs hg hi hz => write23 W0 v zs (el z 6) 0 0 B W hg hi hz)
  have L1 := hide (wsn_len 2 [el z 1, el z 2] 2)
  have L2 := hide (wsn_len 4 [el z 3, el z 4] 2)
  have L3 := hide (wsn_len 1 [80, el z 5] 2)
  have L4 := hide (wsn_len 2 [el z 6, 0, 0] 3)
  generalize ub z data = U at HU ⊢
  generalize wsn 2 [el z 1, el z 2] 2 = Z1 at HU W1 L1
  generalize wsn 4 [el z 3, el z 4] 2 = Z2 at HU W2 L2
  generalize wsn 1 [80, el z 5] 2 = Z3 at HU W3 L3
  generalize wsn 2 [el z 6, 0, 0] 3 = Z4 at HU W4 L4
  have e6 : (el z 0 == 6) = true := by simpa using h6
  have HR := hide hr
  have HM := hide (show (((Z1 ++ Z2) ++ Z3) ++ Z4).length + len ≤ 1000000000 by
    have := L1.out; have := L2.out; have := L3.out; have := L4.out
    simp only [List.length_append]; omega)
  have M1 := hide (show Z1.length ≤ 1000000 by have := L1.out; omega)
  have M2 := hide (show (Z1 ++ Z2).length ≤ 1000000 by have := L1.out; have := L2.out; rw [List.length_append]; omega)
  have M3 := hide (show ((Z1 ++ Z2) ++ Z3).length ≤ 1000000 by have := L1.out; have := L2.out; have := L3.out; simp only [List.length_append]; omega)
  clear h6 hr L1 L2 L3 L4
  go_enter Tryz.func142, Tryz.ntmps142
  go_upto_region 1 with fail
  generalize w.alloc (.cells (sgC z a len cap) 39) = W at HB HP ⊢
  have l1 := HP.out.c1
  have l2 := HP.out.c2
  go_upto_region 2 with (go_at_call 180; refine (W1.out W _ _ _ [] ((Gr.nil W).below (al_below _ _)) (ints2 W _ _) (by simp)).mono ?_; rintro e w1 ⟨v1, rfl, hg1⟩; rw [List.nil_append] at hg1; replace hg1 := hide hg1; clear l1 l2)
  have HP1 := hide (HP.out.kept hg1.out.2)
  have l0 := HP1.out.c0
  have l3 := HP1.out.c3
  have l4 := HP1.out.c4
  go_upto_region 4 with (go_at_call 180; refine (W2.out W _ _ _ _ (hg1.out.below (al_below _ _)) (ints2 w1 _ _) M1.out).mono ?_; rintro e w2 ⟨v2, rfl, hg2⟩; replace hg2 := hide hg2; clear l0 l3 l4)
  have HP2 := hide (HP.out.kept hg2.out.2)
  have l5 := HP2.out.c5
  go_upto_region 5 with (go_at_call 180; refine (W3.out W _ _ _ _ (hg2.out.below (al_below _ _)) (ints2 w2 _ _) M2.out).mono ?_; rintro e w3 ⟨v3, rfl, hg3⟩; replace hg3 := hide hg3; clear l5)
  have HP3 := hide (HP.out.kept hg3.out.2)
  have l6 := HP3.out.c6
  go_upto_region 7 with (go_at_call 180; refine (W4.out W _ _ _ _ (hg3.out.below (al_below _ _)) (ints3 w3 _ _ _) M3.out).mono ?_; rintro e w4 ⟨v4, rfl, hg4⟩; replace hg4 := hide hg4; clear l6)
  have HP4 := hide (HP.out.kept hg4.out.2)
  have l7 := HP4.out.c7
  go_wp2_with (at_builtin; refine gr_app rfl (.tmp 40) (.tmp 42) rfl rfl hg4.out rfl ((HR.out.below HB.out).below hg4.out.2) HM.out ?_; intro v5 w5 hg5; replace hg5 := hide hg5; clear l7)
  go_ret
  exact ⟨v5, rfl, HU.out ▸ hg5.out.1.mono HB.out.size, HB.out.trans (hg5.out.2.mono HB.out.size)⟩
set_option maxRecDepth 100000 in
set_option maxHeartbeats 4000000 in
theorem unc_udp (z : List Int) (a : Option Addr) (len cap : Nat) (data : List Int) (w : World) (h6 : ¬ el z 0 = 6) (hl : len ≤ 300) (hr : Row8 w a len cap data) :
    Calls Tryz.prog 142 #[.agg (sgC z a len cap)] w fun e w' => ∃ v, e = .returned v ∧ Own w.heap.size w' v (ub z data) ∧ Below w.heap.size w w' := by
  have HB := hide (al_below w (.cells (sgC z a len cap) 39))
  have HP := hide (sg_new w z a len cap)
  have HU := hide (show ub z data = (wsn 2 [el z 1, el z 2] 2 ++ wsn 2 [8 + (len : Int), 0] 2) ++ data by rw [← hr.1]; exact if_neg h6)
  have W1 := hide (fun W0 W B v zs hg hi hz => write22 W0 v zs (el z 1) (el z 2) B W hg hi hz)
  have W2 := hide (fun W0 W B v zs hg hi hz => write22 W0 v zs (8 + (len : Int)) 0 B W hg hi hz)
  have L1 := hide (wsn_len 2 [el z 1, el z 2] 2)
  have L2 := hide (wsn_len 2 [8 + (len : Int), 0] 2)
  generalize ub z data = U at HU ⊢
  generalize wsn 2 [el z 1, el z 2] 2 = Z1 at HU W1 L1
  generalize wsn 2 [8 + (len : Int), 0] 2 = Z2 at HU W2 L2
  have e6 : (el z 0 == 6) = false := by simpa using h6
  have HH := hide (fun W => head_any (el z 0) W)
  rw [show hn (el z 0) = 8 by unfold hn; rw [if_neg h6]] at HH
  have HR := hide hr
  have HM := hide (show (Z1 ++ Z2).length + len ≤ 1000000000 by
    have := L1.out; have := L2.out
    simp only [List.length_append]; omega)
  have M1 := hide (show Z1.length ≤ 1000000 by have := L1.out; omega)
  have hq : IntKind.i64.wrap (8 + (len : Int)) = 8 + (len : Int) := by rw [IntKind.wrap_i64]; omega
  clear h6 hr L1 L2
  go_enter Tryz.func142, Tryz.ntmps142
  go_upto_region 1 with fail
  generalize w.alloc (.cells (sgC z a len cap) 39) = W at HB HP ⊢
  have l1 := HP.out.c1
  have l2 := HP.out.c2
  go_upto_region 2 with (go_at_call 180; refine (W1.out W _ _ _ [] ((Gr.nil W).below (al_below _ _)) (ints2 W _ _) (by simp)).mono ?_; rintro e w1 ⟨v1, rfl, hg1⟩; rw [List.nil_append] at hg1; replace hg1 := hide hg1; clear l1 l2)
  have HP1 := hide (HP.out.kept hg1.out.2)
  have l0 := HP1.out.c0
  have l7 := HP1.out.c7
  go_upto_region 6 with fail
  have hd : Below w1.heap.size w1 w1.drew := (Below.refl w1.heap.size w1).drew
  have hdal : Below w1.heap.size w1 (w1.drew.alloc (.cells #[.int .i64 (8 + (len : Int)), .int .i64 0] 3)) := bt hd (al_below w1.drew _)
  have HI := hide (show Ints w1.heap.size [8 + (len : Int), 0] (w1.drew.alloc (.cells #[.int .i64 (8 + (len : Int)), .int .i64 0] 3)) from ints2 w1.drew _ _)
  have HG1 := hide (hg1.out.below hdal)
  have HK := hide (fun w' (h : SgIn w.heap.size z a len cap w') => show w'.cell? ⟨w.heap.size, 0, none⟩ = some (.int .i64 (el z 0)) ∧ w'.cell? ⟨w.heap.size, 7, none⟩ = some (.slice a len cap) from ⟨h.c0, h.c7⟩)
  have HPd := hide (HP1.out.kept hd)
  clear hd hdal
  go_region_held3 (fun w' => w'.cell? ⟨w.heap.size, 0, none⟩ = some (.int .i64 (el z 0)) ∧ w'.cell? ⟨w.heap.size, 7, none⟩ = some (.slice a len cap))
    (first
      | go_keep
      | exact HK.out _ HPd.out
      | exact HK.out _ HP2.out)
    (first
      | (go_at_call 179; refine (HH.out _).mono ?_; rintro e w' ⟨rfl, rfl⟩)
      | (go_at_call 180; refine (W2.out W _ _ _ _ HG1.out HI.out M1.out).mono ?_; rintro e w2 ⟨v2, rfl, hg2⟩; have HP2 := hide (HP.out.kept hg2.2); replace hg2 := hide hg2))
  clear l0 l7
  have l7 := HP2.out.c7
  go_wp2_with (at_builtin; refine gr_app rfl (.tmp 40) (.tmp 42) rfl rfl hg2.out rfl ((HR.out.below HB.out).below hg2.out.2) HM.out ?_; intro v5 w5 hg5; replace hg5 := hide hg5; clear l7)
  go_ret
  exact ⟨v5, rfl, HU.out ▸ hg5.out.1.mono HB.out.size, HB.out.trans (hg5.out.2.mono HB.out.size)⟩
end Go.Proofs.YtkhahbghmdccaaaGreatDoor
