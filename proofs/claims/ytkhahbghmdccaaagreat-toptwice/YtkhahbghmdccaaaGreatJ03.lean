/- A segment as a value and in its block; loads and stores of all of it and of its numbers. Package seg: Check, by a contract. Package seg: unchecked and checkOf, by contracts. Package seg: checkOf and Encode, by contracts. -/
import Derived.Test.YtkhahbghmdccaaaGreatJ02
import Derived.Below
import Derived.OpenShut
import Derived.Test.YtkhahbghmdccaaaGreatProg
import Derived.WalkKit
import Derived.LaidEql
import Derived.BigQuiet
import Derived.Laws.AppendOwnNone
import Derived.Laws.MakeOwn
import Derived.Deep.RegionLaw
import Derived.Lib.Bytes
import Derived.Deep.MidRow
import Derived.Laws.ResultCell
import Derived.Deep.CutBlock
import Derived.Deep.QuietTactic
import Derived.OwnWalk
import Derived.Deep.RegionHeld3
import Derived.Deep.DrawnRows
namespace Go.Proofs.YtkhahbghmdccaaaGreat
open Go.RowKit
/-- a segment's cells: kind, from, to, seq, ack, flags, window, data. -/
def sgC (z : List Int) (a : Option Addr) (len cap : Nat) : Array Value := #[.int .i64 (el z 0), .int .i64 (el z 1), .int .i64 (el z 2), .int .i64 (el z 3), .int .i64 (el z 4), .int .i64 (el z 5), .int .i64 (el z 6), .slice a len cap]
/-- a segment's block. -/
def SgIn (B : Nat) (z : List Int) (a : Option Addr) (len cap : Nat) (w : World) : Prop := w.heap[B]? = some (.cells (sgC z a len cap) 30 (0, 0))
theorem SgIn.lt {B : Nat} {z : List Int} {a : Option Addr} {len cap : Nat} {w : World} (p : SgIn B z a len cap w) : B < w.heap.size := (Array.getElem?_eq_some_iff.1 p).1
theorem SgIn.kept {B : Nat} {z : List Int} {a : Option Addr} {len cap : Nat} {w w' : World} (p : SgIn B z a len cap w) (hb : Below w.heap.size w w') : SgIn B z a len cap w' := (hb.block B p.lt).trans p
theorem SgIn.grown {B : Nat} {z : List Int} {a : Option Addr} {len cap : Nat} {w w' : World} (p : SgIn B z a len cap w) {r : Option Nat} (hg : w.grownBy w' r) (hr : some B ≠ r) : SgIn B z a len cap w' := (hg.block _ p.lt hr).trans p
theorem sg_new (w : World) (z : List Int) (a : Option Addr) (len cap : Nat) : SgIn w.heap.size z a len cap (w.alloc (.cells (sgC z a len cap) 30)) := heap_alloc_new w _
theorem SgIn.cellAt {B : Nat} {z : List Int} {a : Option Addr} {len cap : Nat} {w : World} (p : SgIn B z a len cap w) (j : Nat) : w.cell? ⟨B, j, none⟩ = (sgC z a len cap)[j]? := cell_of_row w B j _ _ _ p
theorem SgIn.c0 {B : Nat} {z : List Int} {a : Option Addr} {len cap : Nat} {w : World} (p : SgIn B z a len cap w) : w.cell? ⟨B, 0, none⟩ = some (.int .i64 (el z 0)) := p.cellAt 0
theorem SgIn.c1 {B : Nat} {z : List Int} {a : Option Addr} {len cap : Nat} {w : World} (p : SgIn B z a len cap w) : w.cell? ⟨B, 1, none⟩ = some (.int .i64 (el z 1)) := p.cellAt 1
theorem SgIn.c2 {B : Nat} {z : List Int} {a : Option Addr} {len cap : Nat} {w : World} (p : SgIn B z a len cap w) : w.cell? ⟨B, 2, none⟩ = some (.int .i64 (el z 2)) := p.cellAt 2
theorem SgIn.c3 {B : Nat} {z : List Int} {a : Option Addr} {len cap : Nat} {w : World} (p : SgIn B z a len cap w) : w.cell? ⟨B, 3, none⟩ = some (.int .i64 (el z 3)) := p.cellAt 3
theorem SgIn.c4 {B : Nat} {z : List Int} {a : Option Addr} {len cap : Nat} {w : World} (p : SgIn B z a len cap w) : w.cell? ⟨B, 4, none⟩ = some (.int .i64 (el z 4)) := p.cellAt 4
theorem SgIn.c5 {B : Nat} {z : List Int} {a : Option Addr} {len cap : Nat} {w : World} (p : SgIn B z a len cap w) : w.cell? ⟨B, 5, none⟩ = some (.int .i64 (el z 5)) := p.cellAt 5
theorem SgIn.c6 {B : Nat} {z : List Int} {a : Option Addr} {len cap : Nat} {w : World} (p : SgIn B z a len cap w) : w.cell? ⟨B, 6, none⟩ = some (.int .i64 (el z 6)) := p.cellAt 6
theorem SgIn.c7 {B : Nat} {z : List Int} {a : Option Addr} {len cap : Nat} {w : World} (p : SgIn B z a len cap w) : w.cell? ⟨B, 7, none⟩ = some (.slice a len cap) := p.cellAt 7
theorem Only.sg {B B' : Nat} {w w' : World} (h : Only B w w') {z : List Int} {a : Option Addr} {len cap : Nat} (p : SgIn B' z a len cap w) (hne : B' ≠ B) : SgIn B' z a len cap w' := (h.2.2.2.2 B' hne).trans p
/-- a segment loaded, at a plain region's list. -/
theorem at_load {ops : Array Oper} {rest : List Oper} {o : Oper} {f : Act} {w : World} {Q : Exit → Act → World → Prop} (hgd : o.guard = none) (x : Operand) (ho : o.op = .load 30 x)
    {B : Nat} {z : List Int} {a : Option Addr} {len cap : Nat} (hx : f.eval x = .pointer (some ⟨B, 0, none⟩)) (p : SgIn B z a len cap w)
    (hK : wpList Tryz.prog ops Q rest (f.put o.dst (.agg (sgC z a len cap))) w) : wpList Tryz.prog ops Q (o :: rest) f w :=
  wpList_load_row hgd 30 x ho B hx 30 _ (0, 0) _ p Tryz.underlying30 rfl (by kernel_rfl) hK
theorem SgIn.stored {B : Nat} {z0 : List Int} {a0 : Option Addr} {len0 cap0 : Nat} {w : World} (p : SgIn B z0 a0 len0 cap0 w) (z : List Int) (a : Option Addr) (len cap : Nat) : SgIn B z a len cap (w.setRow B (sgC z a len cap)) := setRow_heap w B _ _ _ (0, 0) p
/-- a segment stored, at a plain region's list. -/
theorem at_store {ops : Array Oper} {rest : List Oper} {o : Oper} {f : Act} {w : World} {Q : Exit → Act → World → Prop} (hgd : o.guard = none) (x y : Operand) (ho : o.op = .store 30 x y)
    {B : Nat} {z0 : List Int} {a0 : Option Addr} {len0 cap0 : Nat} (hx : f.eval x = .pointer (some ⟨B, 0, none⟩)) (p : SgIn B z0 a0 len0 cap0 w)
    (z : List Int) (a : Option Addr) (len cap : Nat) (hy : f.eval y = .agg (sgC z a len cap))
    (hK : ∀ w', SgIn B z a len cap w' → Only B w w' → wpList Tryz.prog ops Q rest (f.put o.dst undef) w') : wpList Tryz.prog ops Q (o :: rest) f w :=
  wpList_store_row hgd 30 x y ho B _ hx hy 30 _ p (by kernel_rfl) rfl (by unfold sgC; simp [Value.oneCell']) (hK _ (p.stored z a len cap) (only_setRow _ _ _))
theorem results_sg {fn : Func} {p u : Tmp} (h : fn.results = #[.cell p 30, .tmp u]) (tmps : Array Value) (w : World) (B : Nat) (z : List Int) (a : Option Addr) (len cap : Nat)
    (ht : tmps.getD p undef = .pointer (some ⟨B, 0, none⟩)) (hg : SgIn B z a len cap w) :
    (results fn tmps).run Tryz.prog w = .ok (.tuple #[.agg (sgC z a len cap), tmps.getD u undef]) w := by
  rw [results_cell_tmp h, ht]
  have hl := run_loadVar_row (P := Tryz.prog) w B 30 30 _ (0, 0) _ hg Tryz.underlying30 rfl (by kernel_rfl)
  simp [asAddr, hl]
theorem sg_result {fn : Func} {p : Tmp} (h : fn.results = #[.cell p 30]) (tmps : Array Value) (w : World) (B : Nat) (z : List Int) (a : Option Addr) (len cap : Nat)
    (ht : tmps.getD p undef = .pointer (some ⟨B, 0, none⟩)) (hg : SgIn B z a len cap w) : (results fn tmps).run Tryz.prog w = .ok (.agg (sgC z a len cap)) w :=
  results_cell_row h tmps w B 30 _ (0, 0) _ ht hg Tryz.underlying30 rfl (by kernel_rfl)
/-- a segment's load, held shut for a walk. -/
def gload (x : Value) : Sem Value := Instr.loadAt 30 x
theorem gload_shut (x : Value) : Instr.loadAt 30 x = gload x := rfl
theorem SgIn.gl {B : Nat} {z : List Int} {a : Option Addr} {len cap : Nat} {w : World} (p : SgIn B z a len cap w) : (gload (.pointer (some ⟨B, 0, none⟩))).run Tryz.prog w = .ok (.agg (sgC z a len cap)) w :=
  run_loadAt_mid w B 0 30 (sgC z a len cap).toList _ (fun j v hv => by
    rw [Nat.zero_add, p.cellAt]
    simpa using hv) Tryz.underlying30 rfl (by kernel_rfl)
/-- a segment's store, held shut for a walk. -/
def gstore (x y : Value) : Sem Unit := Instr.storeAt 30 x y
theorem gstore_shut (x y : Value) : Instr.storeAt 30 x y = gstore x y := rfl
theorem SgIn.held {B : Nat} {z0 : List Int} {a0 : Option Addr} {len0 cap0 : Nat} {w : World} (p : SgIn B z0 a0 len0 cap0 w) (z : List Int) (a : Option Addr) (len cap : Nat) :
    ∃ w', (gstore (.pointer (some ⟨B, 0, none⟩)) (.agg (sgC z a len cap))).run Tryz.prog w = .ok () w' ∧ SgIn B z a len cap w' ∧ Only B w w' := by
  refine ⟨w.setRow B (sgC z a len cap), ?_, p.stored z a len cap, only_setRow _ _ _⟩
  unfold gstore
  simp only [Instr.storeAt, Instr.sureAddr, Sem.run_bind, Sem.run_pure, Result.andThen_ok]
  exact run_storeVar_row w B 30 30 _ (sgC z a len cap) p (by kernel_rfl) rfl (by unfold sgC; simp [Value.oneCell'])
/-- upTo of new numbers; the world behind it is another one, with all that was there. -/
theorem upto1b (m x : Int) (W : World) : Calls Tryz.prog 133 #[.int .i64 m, .slice (some ⟨W.heap.size, 0, none⟩) 1 1] (W.alloc (.cells #[.int .i64 x] 3)) fun e w' => e = .returned (.bool (up m x)) ∧ Below W.heap.size W w' :=
  (upto1 m x W.heap.size _ (ints_new W [x])).mono fun e w' ⟨h1, h2⟩ => ⟨h1, by rw [h2]; exact al_below _ _⟩
theorem upto2b (m x y : Int) (W : World) : Calls Tryz.prog 133 #[.int .i64 m, .slice (some ⟨W.heap.size, 0, none⟩) 2 2] (W.alloc (.cells #[.int .i64 x, .int .i64 y] 3)) fun e w' => e = .returned (.bool (ups m [x, y])) ∧ Below W.heap.size W w' :=
  (upto_any m W.heap.size 2 [x, y] _ rfl (by omega) (ints_new W [x, y])).mono fun e w' ⟨h1, h2⟩ => ⟨h1, by rw [h2]; exact al_below _ _⟩
theorem upto4b (m x y u v : Int) (W : World) : Calls Tryz.prog 133 #[.int .i64 m, .slice (some ⟨W.heap.size, 0, none⟩) 4 4] (W.alloc (.cells #[.int .i64 x, .int .i64 y, .int .i64 u, .int .i64 v] 3)) fun e w' => e = .returned (.bool (ups m [x, y, u, v])) ∧ Below W.heap.size W w' :=
  (upto_any m W.heap.size 4 [x, y, u, v] _ rfl (by omega) (ints_new W [x, y, u, v])).mono fun e w' ⟨h1, h2⟩ => ⟨h1, by rw [h2]; exact al_below _ _⟩
/-- the numbers of a stream's segment. -/
def os (z : List Int) : Bool := ups 4294967295 [el z 3, el z 4] && up 31 (el z 5) && up 65535 (el z 6)
set_option maxRecDepth 100000 in
set_option maxHeartbeats 2000000 in
theorem stream_any (z : List Int) (a : Option Addr) (len cap : Nat) (w : World) :
    Calls Tryz.prog 173 #[.agg (sgC z a len cap)] w fun e w' => e = .returned (.bool (os z)) ∧ Below w.heap.size w w' := by
  have HB := hide (al_below w (.cells (sgC z a len cap) 30))
  have HP := hide (sg_new w z a len cap)
  have HO := hide (show os z = (ups 4294967295 [el z 3, el z 4] && up 31 (el z 5) && up 65535 (el z 6)) from rfl)
  generalize os z = O at HO ⊢
  generalize h1 : ups 4294967295 [el z 3, el z 4] = u1 at HO
  generalize h2 : up 31 (el z 5) = u2 at HO
  generalize h3 : up 65535 (el z 6) = u3 at HO
  go_enter Tryz.func173, Tryz.ntmps173
  go_upto_region 1 with fail
  generalize w.alloc (.cells (sgC z a len cap) 30) = W at HB HP ⊢
  have l3 := HP.out.c3
  have l4 := HP.out.c4
  have l5 := HP.out.c5
  have l6 := HP.out.c6
  cases u1
  case' true => cases u2
  all_goals
    go_wp2_with (first
      | (go_at_call 133; (with_reducible refine (upto2b _ _ _ _).mono ?_); rintro e w1 ⟨rfl, hb1⟩; replace HB := hide (bt HB.out hb1); replace HP := hide (HP.out.kept hb1); clear hb1 l3 l4 l5 l6; have l5 := HP.out.c5; have l6 := HP.out.c6)
      | (go_at_call 133; (with_reducible refine (upto1b _ _ _).mono ?_); rintro e w2 ⟨rfl, hb2⟩; replace HB := hide (bt HB.out hb2); replace HP := hide (HP.out.kept hb2); clear hb2 l5 l6; have l5 := HP.out.c5; have l6 := HP.out.c6))
    go_ret
    exact ⟨by rw [HO.out]; rfl, HB.out⟩
end Go.Proofs.YtkhahbghmdccaaaGreat

namespace Go.Proofs.YtkhahbghmdccaaaGreat
open Go.RowKit
/-- what is wrong with a segment: 0 where nothing is. -/
def sf (z : List Int) (len : Nat) : Int :=
  if (kn (el z 0) && ups 65535 [el z 1, el z 2]) = false then 1
  else if el z 0 = 6 then (if os z = false then 1 else if 300 < len then 3 else 0)
  else (if ups 0 [el z 3, el z 4, el z 5, el z 6] = false then 2 else if 300 < len then 3 else 0)
/-- an error's value: nil, or the number. -/
def ev (n : Int) : Value := if n = 0 then .nilIface else err n
attribute [local go_sem ↓] gload_shut
set_option maxRecDepth 100000 in
set_option maxHeartbeats 4000000 in
theorem chk_any (z : List Int) (a : Option Addr) (len cap : Nat) (w : World) (hm : len ≤ maxLen) :
    Calls Tryz.prog 132 #[.agg (sgC z a len cap)] w fun e w' => e = .returned (ev (sf z len)) ∧ Below w.heap.size w w' := by
  unfold maxLen at hm
  have HB := hide (al_below w (.cells (sgC z a len cap) 30))
  have HP := hide (sg_new w z a len cap)
  obtain ⟨E, hE⟩ : ∃ E, E = ev (sf z len) := ⟨_, rfl⟩
  rw [← hE]
  unfold sf at hE
  generalize hk : kn (el z 0) = uk at hE
  generalize hu : ups 65535 [el z 1, el z 2] = u1 at hE
  cases uk
  · have HE := hide (show E = err 1 from hE)
    clear hE
    unfold err at HE
    go_enter Tryz.func132, Tryz.ntmps132
    go_upto_region 1 with fail
    generalize w.alloc (.cells (sgC z a len cap) 30) = W at HB HP ⊢
    have l0 := HP.out.c0
    go_wp2_with (go_at_call 137; refine (known_any _ _).mono ?_; rintro e w' ⟨rfl, rfl⟩)
    go_ret
    exact ⟨by rw [HE.out]; rfl, HB.out⟩
  · cases u1
    · have HE := hide (show E = err 1 from hE)
      clear hE
      unfold err at HE
      go_enter Tryz.func132, Tryz.ntmps132
      go_upto_region 1 with fail
      generalize w.alloc (.cells (sgC z a len cap) 30) = W at HB HP ⊢
      have l0 := HP.out.c0
      have l1 := HP.out.c1
      have l2 := HP.out.c2
      go_wp2_with (first
        | (go_at_call 137; refine (known_any _ _).mono ?_; rintro e w' ⟨rfl, rfl⟩)
        | (go_at_call 133; (with_reducible refine (upto2b _ _ _ _).mono ?_); rintro e w1 ⟨rfl, hb1⟩; replace HB := hide (bt HB.out hb1); clear hb1 l0 l1 l2))
      go_ret
      exact ⟨by rw [HE.out]; rfl, HB.out⟩
    · rw [if_neg (by decide)] at hE
      generalize ho : os z = uo at hE
      generalize hn : ups 0 [el z 3, el z 4, el z 5, el z 6] = un at hE
      have HS := hide (fun W => stream_any z a len cap W)
      rw [ho] at HS
      replace hn := hide hn
      go_enter Tryz.func132, Tryz.ntmps132
      go_upto_region 1 with fail
      generalize w.alloc (.cells (sgC z a len cap) 30) = W at HB HP ⊢
      have l0 := HP.out.c0
      have l1 := HP.out.c1
      have l2 := HP.out.c2
      go_upto_region 3 with (first
        | (go_at_call 137; refine (known_any _ _).mono ?_; rintro e w' ⟨rfl, rfl⟩)
        | (go_at_call 133; (with_reducible refine (upto2b _ _ _ _).mono ?_); rintro e w1 ⟨rfl, hb1⟩; replace HB := hide (bt HB.out hb1); replace HP := hide (HP.out.kept hb1); clear hb1 l0 l1 l2))
      clear hu
      have l0 := HP.out.c0
      have l9 := HP.out.gl
      by_cases h6 : el z 0 = 6
      · rw [if_pos h6] at hE
        have e6 : (el z 0 == 6) = true := by simpa using h6
        have e17 : (el z 0 == 17) = false := by rw [h6]; rfl
        clear h6 hk
        cases uo
        · have HE := hide (show E = err 1 from hE)
          clear hE
          unfold err at HE
          go_wp2_with (go_at_call 173; refine (HS.out _).mono ?_; rintro e w2 ⟨rfl, hb2⟩; replace HB := hide (bt HB.out hb2); clear hb2 l0 l9)
          go_ret
          exact ⟨by rw [HE.out]; rfl, HB.out⟩
        · rw [if_neg (by decide)] at hE
          by_cases hl : 300 < len
          · have HE := hide (show E = err 3 by rw [hE, if_pos hl]; rfl)
            clear hE
            unfold err at HE
            go_wp2_with (go_at_call 173; refine (HS.out _).mono ?_; rintro e w2 ⟨rfl, hb2⟩; replace HB := hide (bt HB.out hb2); replace HP := hide (HP.out.kept hb2); clear hb2 l0 l9; have l0 := HP.out.c0; have l7 := HP.out.c7)
            go_ret
            exact ⟨by rw [HE.out]; rfl, HB.out⟩
          · have HE := hide (show E = .nilIface by rw [hE, if_neg hl]; rfl)
            clear hE
            go_wp2_with (go_at_call 173; refine (HS.out _).mono ?_; rintro e w2 ⟨rfl, hb2⟩; replace HB := hide (bt HB.out hb2); replace HP := hide (HP.out.kept hb2); clear hb2 l0 l9; have l0 := HP.out.c0; have l7 := HP.out.c7)
            go_ret
            exact ⟨by rw [HE.out]; rfl, HB.out⟩
      · rw [if_neg h6] at hE
        have e6 : (el z 0 == 6) = false := by simpa using h6
        have e17 : (el z 0 == 17) = true := by unfold kn at hk; rw [e6] at hk; simpa using hk
        have l3 := HP.out.c3
        have l4 := HP.out.c4
        have l5 := HP.out.c5
        have l6 := HP.out.c6
        replace hn := hn.out
        clear h6 hk l9 ho HS
        cases un
        · have HE := hide (show E = err 2 from hE)
          clear hE
          unfold err at HE
          go_wp2_with (go_at_call 133; (with_reducible refine (upto4b _ _ _ _ _ _).mono ?_); rintro e w1 ⟨rfl, hb1⟩; replace HB := hide (bt HB.out hb1); clear hb1 l0 l3 l4 l5 l6)
          go_ret
          exact ⟨by rw [HE.out]; rfl, HB.out⟩
        · rw [if_neg (by decide)] at hE
          by_cases hl : 300 < len
          · have HE := hide (show E = err 3 by rw [hE, if_pos hl]; rfl)
            clear hE
            unfold err at HE
            go_wp2_with (go_at_call 133; (with_reducible refine (upto4b _ _ _ _ _ _).mono ?_); rintro e w1 ⟨rfl, hb1⟩; replace HB := hide (bt HB.out hb1); replace HP := hide (HP.out.kept hb1); clear hb1 l0 l3 l4 l5 l6; have l7 := HP.out.c7)
            go_ret
            exact ⟨by rw [HE.out]; rfl, HB.out⟩
          · have HE := hide (show E = .nilIface by rw [hE, if_neg hl]; rfl)
            clear hE
            go_wp2_with (go_at_call 133; (with_reducible refine (upto4b _ _ _ _ _ _).mono ?_); rintro e w1 ⟨rfl, hb1⟩; replace HB := hide (bt HB.out hb1); replace HP := hide (HP.out.kept hb1); clear hb1 l0 l3 l4 l5 l6; have l7 := HP.out.c7)
            go_ret
            exact ⟨by rw [HE.out]; rfl, HB.out⟩
end Go.Proofs.YtkhahbghmdccaaaGreat

namespace Go.Proofs.YtkhahbghmdccaaaGreat
open Go.RowKit
attribute [local go_sem ↓] Go.wp_at_zero Go.wp_at_succ
theorem write12 (W0 : World) (v : Value) (zs : List Int) (x y : Int) (B : Nat) (w : World) (hg : Gr W0 w v zs) (hl : Ints B [x, y] w) (hz : zs.length ≤ 1000000) :
    Calls Tryz.prog 129 #[v, .int .i64 1, .slice (some ⟨B, 0, none⟩) 2 2] w fun e w' => ∃ v', e = .returned v' ∧ Gr W0 w' v' (zs ++ wsn 1 [x, y] 2) :=
  write_any W0 v zs 1 B 2 [x, y] w hg hl rfl (by omega) (by omega) hz
theorem write23 (W0 : World) (v : Value) (zs : List Int) (x y u : Int) (B : Nat) (w : World) (hg : Gr W0 w v zs) (hl : Ints B [x, y, u] w) (hz : zs.length ≤ 1000000) :
    Calls Tryz.prog 129 #[v, .int .i64 2, .slice (some ⟨B, 0, none⟩) 3 3] w fun e w' => ∃ v', e = .returned v' ∧ Gr W0 w' v' (zs ++ wsn 2 [x, y, u] 3) :=
  write_any W0 v zs 2 B 3 [x, y, u] w hg hl rfl (by omega) (by omega) hz
theorem ints3 (w : World) (x y u : Int) : Ints w.heap.size [x, y, u] (w.alloc (.cells #[.int .i64 x, .int .i64 y, .int .i64 u] 3)) := ints_new w [x, y, u]
/-- a segment's bytes with a check of 0, as they are written. -/
def ub (z : List Int) (data : List Int) : List Int :=
  if el z 0 = 6 then (((wsn 2 [el z 1, el z 2] 2 ++ wsn 4 [el z 3, el z 4] 2) ++ wsn 1 [80, el z 5] 2) ++ wsn 2 [el z 6, 0, 0] 3) ++ data
  else (wsn 2 [el z 1, el z 2] 2 ++ wsn 2 [8 + (data.length : Int), 0] 2) ++ data
set_option maxRecDepth 100000 in
set_option maxHeartbeats 4000000 in
theorem unc_tcp (z : List Int) (a : Option Addr) (len cap : Nat) (data : List Int) (w : World) (h6 : el z 0 = 6) (hl : len ≤ 300) (hr : Row8 w a len cap data) :
    Calls Tryz.prog 134 #[.agg (sgC z a len cap)] w fun e w' => ∃ v, e = .returned v ∧ Own w.heap.size w' v (ub z data) ∧ Below w.heap.size w w' := by
  have HB := hide (al_below w (.cells (sgC z a len cap) 30))
  have HP := hide (sg_new w z a len cap)
  have HU := hide (show ub z data = (((wsn 2 [el z 1, el z 2] 2 ++ wsn 4 [el z 3, el z 4] 2) ++ wsn 1 [80, el z 5] 2) ++ wsn 2 [el z 6, 0, 0] 3) ++ data from if_pos h6)
  have W1 := hide (fun W0 W B v zs hg hi hz => write22 W0 v zs (el z 1) (el z 2) B W hg hi hz)
  have W2 := hide (fun W0 W B v zs hg hi hz => write24 W0 v zs (el z 3) (el z 4) B W hg hi hz)
  have W3 := hide (fun W0 W B v zs hg hi hz => write12 W0 v zs 80 (el z 5) B W hg hi hz)
  have W4 := hide (fun W0 W B v zs hg hi hz => write23 W0 v zs (el z 6) 0 0 B W hg hi hz)
  have L1 := hide (wsn_len 2 [el z 1, el z 2] 2)
  have L2 := hide (wsn_len 4 [el z 3, el z 4] 2)
  have L3 := hide (wsn_len 1 [80, el z 5] 2)
  have L4 := hide (wsn_len 2 [el z 6, 0, 0] 3)
  generalize ub z data = U at HU ⊢
  generalize wsn 2 [el z 1, el z 2] 2 = Z1 at HU W1 L1
  generalize wsn 4 [el z 3, el z 4] 2 = Z2 at HU W2 L2
  generalize wsn 1 [80, el z 5] 2 = Z3 at HU W3 L3
  generalize wsn 2 [el z 6, 0, 0] 3 = Z4 at HU W4 L4
  have e6 : (el z 0 == 6) = true := by simpa using h6
  have HR := hide hr
  have HM := hide (show (((Z1 ++ Z2) ++ Z3) ++ Z4).length + len ≤ 1000000000 by
    have := L1.out; have := L2.out; have := L3.out; have := L4.out
    simp only [List.length_append]; omega)
  have M1 := hide (show Z1.length ≤ 1000000 by have := L1.out; omega)
  have M2 := hide (show (Z1 ++ Z2).length ≤ 1000000 by have := L1.out; have := L2.out; rw [List.length_append]; omega)
  have M3 := hide (show ((Z1 ++ Z2) ++ Z3).length ≤ 1000000 by have := L1.out; have := L2.out; have := L3.out; simp only [List.length_append]; omega)
  clear h6 hr L1 L2 L3 L4
  go_enter Tryz.func134, Tryz.ntmps134
  go_upto_region 1 with fail
  generalize w.alloc (.cells (sgC z a len cap) 30) = W at HB HP ⊢
  have l1 := HP.out.c1
  have l2 := HP.out.c2
  go_upto_region 2 with (go_at_call 129; refine (W1.out W _ _ _ [] ((Gr.nil W).below (al_below _ _)) (ints2 W _ _) (by simp)).mono ?_; rintro e w1 ⟨v1, rfl, hg1⟩; rw [List.nil_append] at hg1; replace hg1 := hide hg1; clear l1 l2)
  have HP1 := hide (HP.out.kept hg1.out.2)
  have l0 := HP1.out.c0
  have l3 := HP1.out.c3
  have l4 := HP1.out.c4
  go_upto_region 4 with (go_at_call 129; refine (W2.out W _ _ _ _ (hg1.out.below (al_below _ _)) (ints2 w1 _ _) M1.out).mono ?_; rintro e w2 ⟨v2, rfl, hg2⟩; replace hg2 := hide hg2; clear l0 l3 l4)
  have HP2 := hide (HP.out.kept hg2.out.2)
  have l5 := HP2.out.c5
  go_upto_region 5 with (go_at_call 129; refine (W3.out W _ _ _ _ (hg2.out.below (al_below _ _)) (ints2 w2 _ _) M2.out).mono ?_; rintro e w3 ⟨v3, rfl, hg3⟩; replace hg3 := hide hg3; clear l5)
  have HP3 := hide (HP.out.kept hg3.out.2)
  have l6 := HP3.out.c6
  go_upto_region 7 with (go_at_call 129; refine (W4.out W _ _ _ _ (hg3.out.below (al_below _ _)) (ints3 w3 _ _ _) M3.out).mono ?_; rintro e w4 ⟨v4, rfl, hg4⟩; replace hg4 := hide hg4; clear l6)
  have HP4 := hide (HP.out.kept hg4.out.2)
  have l7 := HP4.out.c7
  go_wp2_with (at_builtin; refine gr_app rfl (.tmp 40) (.tmp 42) rfl rfl hg4.out rfl ((HR.out.below HB.out).below hg4.out.2) HM.out ?_; intro v5 w5 hg5; replace hg5 := hide hg5; clear l7)
  go_ret
  exact ⟨v5, rfl, HU.out ▸ hg5.out.1.mono HB.out.size, HB.out.trans (hg5.out.2.mono HB.out.size)⟩
set_option maxRecDepth 100000 in
set_option maxHeartbeats 4000000 in
theorem unc_udp (z : List Int) (a : Option Addr) (len cap : Nat) (data : List Int) (w : World) (h6 : ¬ el z 0 = 6) (hl : len ≤ 300) (hr : Row8 w a len cap data) :
    Calls Tryz.prog 134 #[.agg (sgC z a len cap)] w fun e w' => ∃ v, e = .returned v ∧ Own w.heap.size w' v (ub z data) ∧ Below w.heap.size w w' := by
  have HB := hide (al_below w (.cells (sgC z a len cap) 30))
  have HP := hide (sg_new w z a len cap)
  have HU := hide (show ub z data = (wsn 2 [el z 1, el z 2] 2 ++ wsn 2 [8 + (len : Int), 0] 2) ++ data by rw [← hr.1]; exact if_neg h6)
  have W1 := hide (fun W0 W B v zs hg hi hz => write22 W0 v zs (el z 1) (el z 2) B W hg hi hz)
  have W2 := hide (fun W0 W B v zs hg hi hz => write22 W0 v zs (8 + (len : Int)) 0 B W hg hi hz)
  have L1 := hide (wsn_len 2 [el z 1, el z 2] 2)
  have L2 := hide (wsn_len 2 [8 + (len : Int), 0] 2)
  generalize ub z data = U at HU ⊢
  generalize wsn 2 [el z 1, el z 2] 2 = Z1 at HU W1 L1
  generalize wsn 2 [8 + (len : Int), 0] 2 = Z2 at HU W2 L2
  have e6 : (el z 0 == 6) = false := by simpa using h6
  have HH := hide (fun W => head_any (el z 0) W)
  rw [show hn (el z 0) = 8 by unfold hn; rw [if_neg h6]] at HH
  have HR := hide hr
  have HM := hide (show (Z1 ++ Z2).length + len ≤ 1000000000 by
    have := L1.out; have := L2.out
    simp only [List.length_append]; omega)
  have M1 := hide (show Z1.length ≤ 1000000 by have := L1.out; omega)
  have hq : IntKind.i64.wrap (8 + (len : Int)) = 8 + (len : Int) := by rw [IntKind.wrap_i64]; omega
  clear h6 hr L1 L2
  go_enter Tryz.func134, Tryz.ntmps134
  go_upto_region 1 with fail
  generalize w.alloc (.cells (sgC z a len cap) 30) = W at HB HP ⊢
  have l1 := HP.out.c1
  have l2 := HP.out.c2
  go_upto_region 2 with (go_at_call 129; refine (W1.out W _ _ _ [] ((Gr.nil W).below (al_below _ _)) (ints2 W _ _) (by simp)).mono ?_; rintro e w1 ⟨v1, rfl, hg1⟩; rw [List.nil_append] at hg1; replace hg1 := hide hg1; clear l1 l2)
  have HP1 := hide (HP.out.kept hg1.out.2)
  have l0 := HP1.out.c0
  have l7 := HP1.out.c7
  go_upto_region 6 with fail
  have hd : Below w1.heap.size w1 w1.drew := (Below.refl w1.heap.size w1).drew
  have hdal : Below w1.heap.size w1 (w1.drew.alloc (.cells #[.int .i64 (8 + (len : Int)), .int .i64 0] 3)) := bt hd (al_below w1.drew _)
  have HI := hide (show Ints w1.heap.size [8 + (len : Int), 0] (w1.drew.alloc (.cells #[.int .i64 (8 + (len : Int)), .int .i64 0] 3)) from ints2 w1.drew _ _)
  have HG1 := hide (hg1.out.below hdal)
  have HK := hide (fun w' (h : SgIn w.heap.size z a len cap w') => show w'.cell? ⟨w.heap.size, 0, none⟩ = some (.int .i64 (el z 0)) ∧ w'.cell? ⟨w.heap.size, 7, none⟩ = some (.slice a len cap) from ⟨h.c0, h.c7⟩)
  have HPd := hide (HP1.out.kept hd)
  clear hd hdal
  go_region_held3 (fun w' => w'.cell? ⟨w.heap.size, 0, none⟩ = some (.int .i64 (el z 0)) ∧ w'.cell? ⟨w.heap.size, 7, none⟩ = some (.slice a len cap))
    (first
      | go_keep
      | exact HK.out _ HPd.out
      | exact HK.out _ HP2.out)
    (first
      | (go_at_call 138; refine (HH.out _).mono ?_; rintro e w' ⟨rfl, rfl⟩)
      | (go_at_call 129; refine (W2.out W _ _ _ _ HG1.out HI.out M1.out).mono ?_; rintro e w2 ⟨v2, rfl, hg2⟩; have HP2 := hide (HP.out.kept hg2.2); replace hg2 := hide hg2))
  clear l0 l7
  have l7 := HP2.out.c7
  go_wp2_with (at_builtin; refine gr_app rfl (.tmp 40) (.tmp 42) rfl rfl hg2.out rfl ((HR.out.below HB.out).below hg2.out.2) HM.out ?_; intro v5 w5 hg5; replace hg5 := hide hg5; clear l7)
  go_ret
  exact ⟨v5, rfl, HU.out ▸ hg5.out.1.mono HB.out.size, HB.out.trans (hg5.out.2.mono HB.out.size)⟩
end Go.Proofs.YtkhahbghmdccaaaGreat

namespace Go.Proofs.YtkhahbghmdccaaaGreat
open Go.RowKit
attribute [local go_sem ↓] Go.wp_at_zero Go.wp_at_succ
theorem Own.set {base : Nat} {w : World} {g n c : Nat} {zs : List Int} (h : Own base w (.slice (some ⟨g, 0, none⟩) n c) zs) (j : Nat) (v : Int) (hv : 0 ≤ v ∧ v ≤ 255) : Own base (w.setCell ⟨g, j, none⟩ (.int .u8 v)) (.slice (some ⟨g, 0, none⟩) n c) (zs.set j v) := by
  refine ⟨SM.oct_set _ h.1 j v hv.1 hv.2, by simp, ?_⟩
  rcases h.2.2 with ⟨e, _⟩ | ⟨g', cap, cur, e, hb, hg, h1, h2, h3, h4⟩
  · cases e
  · injection e with e1 e2 e3
    cases e1
    subst e3
    refine .inr ⟨g, c, cur.setIfInBounds j (.int .u8 v), by rw [e2, List.length_set], hb, ?_, by rw [List.length_set]; exact h1, h2, by simpa using h3, ?_⟩
    · rw [setCell_eq_setRow w g j _ 5 (0, 0) (.int .u8 v) hg, setRow_heap w g _ _ 5 (0, 0) hg]
    · rw [List.length_set, Array.toList_setIfInBounds, List.map_set, ← h4, List.take_set]
theorem Own.cell {base : Nat} {w : World} {g n c : Nat} {zs : List Int} (h : Own base w (.slice (some ⟨g, 0, none⟩) n c) zs) (j : Nat) (hj : j < n) : w.cell? ⟨g, j, none⟩ = some (.int .u8 (zs.getD j 0)) ∧ w.frozen? ⟨g, j, none⟩ = false := by
  constructor
  · obtain ⟨_, _, _, _, h5⟩ := h.toRow
    obtain ⟨b, o, e, hc⟩ := h5 (by omega)
    cases e
    have := hc j hj
    rwa [Nat.zero_add] at this
  · rcases h.2.2 with ⟨e, _⟩ | ⟨g', cap, cur, e, hb, hg, h1, h2, h3, h4⟩
    · cases e
    · injection e with e1 e2 e3
      cases e1
      simp [World.frozen?, hg]
/-- the check over such a sum. -/
def ckg (k over T : Int) : Int := if k = 17 ∧ SM.fold (over + T) = 65535 then 65535 else 65535 - SM.fold (over + T)
theorem ckg_in (k over T : Int) (h0 : 0 ≤ over) (h1 : 0 ≤ T) : 0 ≤ ckg k over T ∧ ckg k over T ≤ 65535 := by
  have := SM.fold_bd (over + T) (by omega)
  unfold ckg
  split <;> omega
set_option maxHeartbeats 2000000 in
theorem checkof_any (k over : Int) (a : Option Addr) (n cap : Nat) (zs : List Int) (w : World) (hr : Row8 w a n cap zs) (hn : n ≤ 2000) (ho : up 65535 over = true) :
    Calls Tryz.prog 135 #[.int .i64 k, .slice a n cap, .int .i64 over] w fun e w' => e = .returned (.tuple #[.int .i64 (ckg k over (SM.fold (SM.tot zs n))), .nilIface]) ∧ Below w.heap.size w w' := by
  obtain ⟨ho0, ho1⟩ := up_true ho
  have hT := SM.fold_bd (SM.tot zs n) (SM.tot_bd zs hr.2.2.1 n).1
  have HOf := hide (fun W (h : Row8 W a n cap zs) => of_ok a n cap zs W h hn)
  have HR := hide hr
  clear hr ho
  generalize SM.fold (SM.tot zs n) = T at hT HOf ⊢
  have HAdd := hide (fun W => add_ok over T W ⟨⟨ho0, ho1⟩, hT⟩)
  have hS := SM.fold_bd (over + T) (by omega)
  obtain ⟨C, hC⟩ : ∃ C, C = ckg k over T := ⟨_, rfl⟩
  rw [← hC]
  unfold ckg at hC
  generalize SM.fold (over + T) = S at hS HAdd hC
  have HNot := hide (fun W => not_ok S W hS)
  by_cases hk : k = 17
  · have ek : (k == 17) = true := by simpa using hk
    by_cases hs : S = 65535
    · have es : (S == 65535) = true := by simpa using hs
      have HC := hide (show C = 65535 by rw [hC, if_pos ⟨hk, hs⟩])
      clear hC hk hs
      go_enter Tryz.func135, Tryz.ntmps135
      go_wp2_with (first
        | (go_at_call 165; refine (HOf.out _ HR.out).mono ?_; rintro e w1 ⟨rfl, rfl⟩)
        | (go_at_call 174; refine (HAdd.out _).mono ?_; rintro e w2 ⟨rfl, hb2⟩; replace hb2 := hide hb2))
      go_ret2
      exact ⟨by rw [HC.out]; rfl, hb2.out⟩
    · have es : (S == 65535) = false := by simpa using hs
      have HC := hide (show C = 65535 - S by rw [hC, if_neg (fun h => hs h.2)])
      clear hC hk hs
      go_enter Tryz.func135, Tryz.ntmps135
      go_wp2_with (first
        | (go_at_call 165; refine (HOf.out _ HR.out).mono ?_; rintro e w1 ⟨rfl, rfl⟩)
        | (go_at_call 174; refine (HAdd.out _).mono ?_; rintro e w2 ⟨rfl, hb2⟩; replace hb2 := hide hb2)
        | (go_at_call 166; refine (HNot.out _).mono ?_; rintro e w3 ⟨rfl, hb3⟩; replace hb2 := hide (bt hb2.out hb3); clear hb3))
      go_ret2
      exact ⟨by rw [HC.out]; rfl, hb2.out⟩
  · have ek : (k == 17) = false := by simpa using hk
    have HC := hide (show C = 65535 - S by rw [hC, if_neg (fun h => hk h.1)])
    clear hC hk
    go_enter Tryz.func135, Tryz.ntmps135
    go_wp2_with (first
      | (go_at_call 165; refine (HOf.out _ HR.out).mono ?_; rintro e w1 ⟨rfl, rfl⟩)
      | (go_at_call 174; refine (HAdd.out _).mono ?_; rintro e w2 ⟨rfl, hb2⟩; replace hb2 := hide hb2)
      | (go_at_call 166; refine (HNot.out _).mono ?_; rintro e w3 ⟨rfl, hb3⟩; replace hb2 := hide (bt hb2.out hb3); clear hb3))
    go_ret2
    exact ⟨by rw [HC.out]; rfl, hb2.out⟩
/-- a segment's check. -/
def sck (z : List Int) (over : Int) (data : List Int) : Int := ckg (el z 0) over (SM.fold (SM.tot (ub z data) (ub z data).length))
theorem wsn_oct (n : Nat) (l : List Int) (k : Nat) : SM.Oct (wsn n l k) := by
  induction k with
  | zero => exact SM.oct_nil
  | succ k ih => exact SM.oct_append _ _ ih (nb_oct n _)
theorem ub_oct (z data : List Int) (h : SM.Oct data) : SM.Oct (ub z data) := by
  unfold ub
  split
  · exact SM.oct_append _ _ (SM.oct_append _ _ (SM.oct_append _ _ (SM.oct_append _ _ (wsn_oct _ _ _) (wsn_oct _ _ _)) (wsn_oct _ _ _)) (wsn_oct _ _ _)) h
  · exact SM.oct_append _ _ (SM.oct_append _ _ (wsn_oct _ _ _) (wsn_oct _ _ _)) h
theorem sck_in (z : List Int) (over : Int) (data : List Int) (h : SM.Oct data) (ho : up 65535 over = true) : 0 ≤ sck z over data ∧ sck z over data ≤ 65535 :=
  ckg_in _ _ _ (up_true ho).1 (SM.fold_bd _ (SM.tot_bd _ (ub_oct z data h) _).1).1
theorem ub_len (z data : List Int) : (ub z data).length = hn (el z 0) + data.length := by
  unfold ub hn
  split <;> simp only [List.length_append, wsn_len]
theorem unc_any (z : List Int) (a : Option Addr) (len cap : Nat) (data : List Int) (w : World) (hl : len ≤ 300) (hr : Row8 w a len cap data) :
    Calls Tryz.prog 134 #[.agg (sgC z a len cap)] w fun e w' => ∃ v, e = .returned v ∧ Own w.heap.size w' v (ub z data) ∧ Below w.heap.size w w' := by
  by_cases h6 : el z 0 = 6
  · exact unc_tcp z a len cap data w h6 hl hr
  · exact unc_udp z a len cap data w h6 hl hr
/-- a segment's bytes. -/
def eb (z : List Int) (over : Int) (data : List Int) : List Int := ((ub z data).set (cn (el z 0)) (sck z over data / 256)).set (cn (el z 0) + 1) (sck z over data % 256)
theorem eb_len (z : List Int) (over : Int) (data : List Int) : (eb z over data).length = hn (el z 0) + data.length := by
  unfold eb
  rw [List.length_set, List.length_set, ub_len]
theorem cn_lt (k : Int) : cn k + 1 < hn k := by
  unfold cn hn
  split <;> omega
theorem hn_le (k : Int) : hn k ≤ 20 := by
  unfold hn
  split <;> omega
theorem sf_len (z : List Int) (len : Nat) (h : sf z len = 0) : len ≤ 300 := by
  unfold sf at h
  rcases Nat.lt_or_ge 300 len with h3 | h3
  · exfalso
    rw [if_pos h3] at h
    split at h
    · cases h
    · split at h <;> split at h <;> cases h
  · exact h3
set_option maxRecDepth 100000 in
set_option maxHeartbeats 4000000 in
theorem enc_err (z : List Int) (a : Option Addr) (len cap : Nat) (over : Int) (w : World) (hm : len ≤ maxLen) (n : Int) (hz : sf z len = n) (hn0 : n ≠ 0) :
    Calls Tryz.prog 85 #[.agg (sgC z a len cap), .int .i64 over] w fun e w' => e = .returned (.tuple #[.slice none 0 0, err n]) ∧ Below w.heap.size w w' := by
  have HB := hide (al_below w (.cells (sgC z a len cap) 30))
  have HP := hide (sg_new w z a len cap)
  have HC := hide (fun W => chk_any z a len cap W hm)
  rw [hz, show ev n = err n from if_neg hn0] at HC
  unfold err at HC ⊢
  clear hz hn0
  go_enter Tryz.func85, Tryz.ntmps85
  go_upto_region 1 with fail
  generalize w.alloc (.cells (sgC z a len cap) 30) = W at HB HP ⊢
  go_wp2_with (first
    | (refine at_load rfl (.tmp 2) rfl rfl HP.out ?_)
    | (go_at_call 132; refine (HC.out _).mono ?_; rintro e w1 ⟨rfl, hb1⟩; replace HB := hide (bt HB.out hb1); clear hb1))
  go_ret2
  exact ⟨rfl, HB.out⟩
set_option maxRecDepth 100000 in
set_option maxHeartbeats 4000000 in
theorem enc_ok (z : List Int) (a : Option Addr) (len cap : Nat) (over : Int) (data : List Int) (w : World) (hz : sf z len = 0) (ho : up 65535 over = true) (hr : Row8 w a len cap data) :
    Calls Tryz.prog 85 #[.agg (sgC z a len cap), .int .i64 over] w fun e w' => ∃ v, e = .returned (.tuple #[v, .nilIface]) ∧ Own w.heap.size w' v (eb z over data) ∧ Below w.heap.size w w' := by
  have HB := hide (al_below w (.cells (sgC z a len cap) 30))
  have HP := hide (sg_new w z a len cap)
  have HC := hide (fun W => chk_any z a len cap W hr.2.1)
  rw [hz, show ev 0 = .nilIface from rfl] at HC
  have hlen := sf_len z len hz
  have HR := hide hr
  have HU := hide (fun W h => unc_any z a len cap data W hlen h)
  have HE := hide (show eb z over data = ((ub z data).set (cn (el z 0)) (sck z over data / 256)).set (cn (el z 0) + 1) (sck z over data % 256) from rfl)
  have hub := ub_len z data
  have hc1 := cn_lt (el z 0)
  have hh := hn_le (el z 0)
  have HCA := hide (fun W => checkat_any (el z 0) W)
  obtain ⟨N, hN⟩ : ∃ N, N = (ub z data).length := ⟨_, rfl⟩
  have hN2 : N ≤ 2000 := by rw [hN, hub, hr.1]; omega
  have hat : cn (el z 0) + 1 < N := by rw [hN, hub]; omega
  have HCO := hide (fun W a c (h : Row8 W a N c (ub z data)) => checkof_any (el z 0) over a N c (ub z data) W h hN2 ho)
  have hck : sck z over data = ckg (el z 0) over (SM.fold (SM.tot (ub z data) N)) := by rw [hN]; rfl
  rw [← hck] at HCO
  have hci := sck_in z over data hr.2.2.1 ho
  have HL := hide hN.symm
  have q1 : IntKind.u8.wrap (sck z over data / 256) = sck z over data / 256 := by rw [IntKind.wrap_u8]; omega
  have q2 : IntKind.u8.wrap (sck z over data) = sck z over data % 256 := by rw [IntKind.wrap_u8]
  have HW1 := hide (show 0 ≤ sck z over data / 256 ∧ sck z over data / 256 ≤ 255 by omega)
  have HW2 := hide (show 0 ≤ sck z over data % 256 ∧ sck z over data % 256 ≤ 255 by omega)
  generalize eb z over data = EB at HE ⊢
  generalize sck z over data = C at HE HCO hci q1 q2 HW1 HW2
  generalize ub z data = U at HU HE HCO HL
  generalize cn (el z 0) = at_ at hat HCA HE
  obtain ⟨hci0, hci1⟩ := hci
  clear hck hN hub hc1 hh hr hz
  go_enter Tryz.func85, Tryz.ntmps85
  go_upto_region 1 with fail
  generalize w.alloc (.cells (sgC z a len cap) 30) = W at HB HP ⊢
  go_upto_region 4 with (first
    | (refine at_load rfl (.tmp 2) rfl rfl HP.out ?_)
    | (go_at_call 132; refine (HC.out _).mono ?_; rintro e w1 ⟨rfl, hb1⟩; replace HB := hide (bt HB.out hb1); replace HP := hide (HP.out.kept hb1); clear hb1))
  go_upto_region 6 with (go_at_call 133; (with_reducible refine (upto1b _ _ _).mono ?_); rintro e w2 ⟨rfl, hb2⟩; replace HB := hide (bt HB.out hb2); replace HP := hide (HP.out.kept hb2); clear hb2)
  go_upto_region 7 with (first
    | (refine at_load rfl (.tmp 2) rfl rfl HP.out ?_)
    | (go_at_call 134; refine (HU.out _ (HR.out.below HB.out)).mono ?_; rintro e w3 ⟨v3, rfl, o3, hb3⟩; replace o3 := o3.mono HB.out.size; replace HB := hide (bt HB.out hb3); replace HP := hide (HP.out.kept hb3); clear hb3))
  obtain ⟨g3, c3, hv3, hc3, hcm3, hbg3, -, hr3⟩ := o3.form (by rw [HL.out]; omega)
  rw [HL.out] at hv3 hc3 hr3
  subst hv3
  replace o3 := hide o3
  have l0 := HP.out.c0
  replace hr3 := hide hr3
  go_upto_region 10 with (go_at_call 135; refine (HCO.out _ _ _ hr3.out).mono ?_; rintro e w4 ⟨rfl, hb4⟩; replace HB := hide (bt HB.out hb4); replace HP := hide (HP.out.kept hb4); replace o3 := hide (o3.out.kept hb4); clear hb4 l0)
  have l0 := HP.out.c0
  go_upto_region 11 with (go_at_call 136; refine (HCA.out _).mono ?_; rintro e w5 ⟨rfl, rfl⟩)
  clear l0 HCA HCO HU HC
  obtain ⟨x1, f1⟩ := o3.out.cell at_ (by omega)
  obtain ⟨x2, f2⟩ := o3.out.cell (at_ + 1) hat
  have HO5 := hide ((o3.out.set at_ (C / 256) HW1.out).set (at_ + 1) (C % 256) HW2.out)
  have HB5 := hide (show Below w.heap.size w ((w5.setCell ⟨g3, at_, none⟩ (.int .u8 (C / 256))).setCell ⟨g3, at_ + 1, none⟩ (.int .u8 (C % 256))) from (HB.out.setCell hbg3 _).setCell hbg3 _)
  generalize U.getD at_ 0 = y1 at x1
  generalize U.getD (at_ + 1) 0 = y2 at x2
  have i1 : (at_ : Int) < (N : Int) := by omega
  have i2 : (at_ : Int) + 1 < (N : Int) := by omega
  clear HP HB o3 hr3
  go_wp2
  go_ret2
  exact ⟨_, rfl, HE.out ▸ HO5.out, HB5.out⟩
end Go.Proofs.YtkhahbghmdccaaaGreat
