/- The program's block of ports: who has it, and which of its ports are taken; isNobodys and isOf by contracts. The first port of a block that is not taken: Index, Contains and isFull by contracts. The program's ports as they lie in the heap: a row of blocks, and the block that holds it; roomFor by a contract. The program's find, Owner and Give of a port, by contracts. The program's Owner and Give of a port, by contracts. The program's Take and Free of ports, by contracts. The program's Blocks of somebody, and New, by contracts. Whose the blocks are, and which port is next. -/
import Derived.Test.YtkhahbghmdccaaaGreatDoorR09
import Derived.Test.YtkhahbghmdccaaaGreatDoorR15
import Derived.Test.YtkhahbghmdccaaaGreatDoorProg
import Derived.Deep.MidRow
import Derived.Laws.ResultCell
import Derived.Deep.CutBlock
import Derived.Deep.QuietTactic
import Derived.OwnWalk
import Derived.Deep.RegionHeld3
import Derived.Deep.DrawnRows
import Derived.WalkKit
import Derived.LaidEql
import Derived.BigQuiet
import Derived.Below
import Derived.Laws.AppendOwnNone
import Derived.Laws.MakeOwn
import Derived.Deep.RegionLaw
import Derived.Test.YtkhahbghmdccaaaGreatDoorR04
import Derived.Stop.Asserts
import Derived.RowKitTokens
import Derived.Test.YtkhahbghmdccaaaGreatDoorR16
namespace Go.Proofs.YtkhahbghmdccaaaGreatDoor
open Go.RowKit
def pbC (z : List Int) (t : Nat → Bool) : Array Value := #[.int .i64 (el z 0), .int .i64 (el z 1), .int .i64 (el z 2), .int .i64 (el z 3), .int .i64 (el z 4), .int .i64 (el z 5), .int .i64 (el z 6), .int .i64 (el z 7), .bool (t 0), .bool (t 1), .bool (t 2), .bool (t 3), .bool (t 4), .bool (t 5), .bool (t 6), .bool (t 7)]
def tbC (t : Nat → Bool) : Array Value := #[.bool (t 0), .bool (t 1), .bool (t 2), .bool (t 3), .bool (t 4), .bool (t 5), .bool (t 6), .bool (t 7)]
theorem pbC_six (z : List Int) (t : Nat → Bool) (j : Nat) (hj : j < 8) : (pbC z t)[j]? = some (.int .i64 (el z j)) := by
  rcases (by omega : j = 0 ∨ j = 1 ∨ j = 2 ∨ j = 3 ∨ j = 4 ∨ j = 5 ∨ j = 6 ∨ j = 7) with rfl | rfl | rfl | rfl | rfl | rfl | rfl | rfl <;> rfl
theorem pbC_boo (z : List Int) (t : Nat → Bool) (j : Nat) (hj : j < 8) : (pbC z t)[8 + j]? = some (.bool (t j)) := by
  rcases (by omega : j = 0 ∨ j = 1 ∨ j = 2 ∨ j = 3 ∨ j = 4 ∨ j = 5 ∨ j = 6 ∨ j = 7) with rfl | rfl | rfl | rfl | rfl | rfl | rfl | rfl <;> rfl
theorem tbC_at (t : Nat → Bool) (j : Nat) (hj : j < 8) : (tbC t)[j]? = some (.bool (t j)) := by
  rcases (by omega : j = 0 ∨ j = 1 ∨ j = 2 ∨ j = 3 ∨ j = 4 ∨ j = 5 ∨ j = 6 ∨ j = 7) with rfl | rfl | rfl | rfl | rfl | rfl | rfl | rfl <;> rfl
def PbIn (B : Nat) (z : List Int) (t : Nat → Bool) (w : World) : Prop := w.heap[B]? = some (.cells (pbC z t) 297 (0, 0))
theorem PbIn.lt {B : Nat} {z : List Int} {t : Nat → Bool} {w : World} (p : PbIn B z t w) : B < w.heap.size := (Array.getElem?_eq_some_iff.1 p).1
theorem PbIn.kept {B : Nat} {z : List Int} {t : Nat → Bool} {w w' : World} (p : PbIn B z t w) (hb : Below w.heap.size w w') : PbIn B z t w' := (hb.block B p.lt).trans p
theorem pb_new (z : List Int) (t : Nat → Bool) (w : World) : PbIn w.heap.size z t (w.alloc (.cells (pbC z t) 297)) := heap_alloc_new w _
theorem PbIn.six {B : Nat} {z : List Int} {t : Nat → Bool} {w : World} (p : PbIn B z t w) : w.rangeAt B 0 (sixC z).toList := by
  intro j v hv
  have hj : j < 8 := (List.getElem?_eq_some_iff.1 hv).1
  rw [Nat.zero_add, cell_of_row w B j _ _ _ p, pbC_six z t j hj, ← sixC_at z j hj]
  simpa using hv
theorem PbIn.boo {B : Nat} {z : List Int} {t : Nat → Bool} {w : World} (p : PbIn B z t w) : w.rangeAt B 8 (tbC t).toList := by
  intro j v hv
  have hj : j < 8 := (List.getElem?_eq_some_iff.1 hv).1
  rw [cell_of_row w B (8 + j) _ _ _ p, pbC_boo z t j hj, ← tbC_at t j hj]
  simpa using hv
theorem PbIn.bit {B : Nat} {z : List Int} {t : Nat → Bool} {w : World} (p : PbIn B z t w) (j : Nat) (hj : j < 8) : w.cell? ⟨B, 8 + j, none⟩ = some (.bool (t j)) := (cell_of_row w B (8 + j) _ _ _ p).trans (pbC_boo z t j hj)
def pload (x : Value) : Sem Value := Instr.loadAt 297 x
theorem pload_shut (x : Value) : Instr.loadAt 297 x = pload x := rfl
theorem PbIn.all {B : Nat} {z : List Int} {t : Nat → Bool} {w : World} (p : PbIn B z t w) : w.rangeAt B 0 (pbC z t).toList := by
  intro j v hv
  rw [Nat.zero_add, cell_of_row w B j _ _ _ p]
  simpa using hv
theorem PbIn.pl {B : Nat} {z : List Int} {t : Nat → Bool} {w : World} (p : PbIn B z t w) : (pload (.pointer (some ⟨B, 0, none⟩))).run Tryz.prog w = .ok (.agg (pbC z t)) w :=
  run_loadAt_mid w B 0 297 (pbC z t).toList _ p.all Tryz.underlying297 rfl (by kernel_rfl)
theorem at_pbT {ops : Array Oper} {rest : List Oper} {o : Oper} {f : Act} {w : World} {Q : Exit → Act → World → Prop} (hgd : o.guard = none) (x : Operand) (ho : o.op = .load 295 x)
    {B : Nat} {z : List Int} {t : Nat → Bool} (hx : f.eval x = .pointer (some ⟨B, 8, none⟩)) (p : PbIn B z t w)
    (hK : wpList Tryz.prog ops Q rest (f.put o.dst (.agg (tbC t))) w) : wpList Tryz.prog ops Q (o :: rest) f w :=
  wpList_load_mid hgd 295 x ho B 8 hx (tbC t).toList _ p.boo Tryz.underlying295 rfl (by kernel_rfl) hK
theorem at_pbW {ops : Array Oper} {rest : List Oper} {o : Oper} {f : Act} {w : World} {Q : Exit → Act → World → Prop} (hgd : o.guard = none) (x : Operand) (ho : o.op = .load 23 x)
    {B : Nat} {z : List Int} {t : Nat → Bool} (hx : f.eval x = .pointer (some ⟨B, 0, none⟩)) (p : PbIn B z t w)
    (hK : wpList Tryz.prog ops Q rest (f.put o.dst (.agg (sixC z))) w) : wpList Tryz.prog ops Q (o :: rest) f w :=
  wpList_load_mid hgd 23 x ho B 0 hx (sixC z).toList _ p.six Tryz.underlying23 rfl (by kernel_rfl) hK
def nob (t : Nat → Bool) : Bool := !t 0 && !t 1 && !t 2 && !t 3 && !t 4 && !t 5 && !t 6 && !t 7
theorem nob_iff (t : Nat → Bool) : nob t = true ↔ ∀ j, j < 8 → t j = false := by
  unfold nob
  simp only [Bool.and_eq_true, Bool.not_eq_true']
  refine ⟨fun ⟨⟨⟨⟨⟨⟨⟨h0, h1⟩, h2⟩, h3⟩, h4⟩, h5⟩, h6⟩, h7⟩ j hj => ?_, fun h => ⟨⟨⟨⟨⟨⟨⟨h 0 (by omega), h 1 (by omega)⟩, h 2 (by omega)⟩, h 3 (by omega)⟩, h 4 (by omega)⟩, h 5 (by omega)⟩, h 6 (by omega)⟩, h 7 (by omega)⟩⟩
  rcases (by omega : j = 0 ∨ j = 1 ∨ j = 2 ∨ j = 3 ∨ j = 4 ∨ j = 5 ∨ j = 6 ∨ j = 7) with rfl | rfl | rfl | rfl | rfl | rfl | rfl | rfl <;> assumption
set_option maxHeartbeats 4000000 in
set_option maxRecDepth 100000 in
theorem eq_boo (x0 x1 x2 x3 x4 x5 x6 x7 : Bool) (w : World) : (Op.equalIn 10000 295 (.agg #[.bool x0, .bool x1, .bool x2, .bool x3, .bool x4, .bool x5, .bool x6, .bool x7]) (.agg #[.bool false, .bool false, .bool false, .bool false, .bool false, .bool false, .bool false, .bool false])).run Tryz.prog w = .ok (!x0 && !x1 && !x2 && !x3 && !x4 && !x5 && !x6 && !x7) w := by
  have u3 := Tryz.underlying4
  have a3 := Tryz.isAgg4
  have z3 := Tryz.sizeOf4
  rw [show (10000 : Nat) = 9999 + 1 from rfl, Op.equalIn]
  simp only [Sem.run_bind, run_underlying Tryz.underlying295, Result.andThen_ok]
  simp only [Std.Legacy.Range.forIn_eq_forIn_range', Std.Legacy.Range.size, Nat.sub_zero, Nat.add_sub_cancel, Nat.div_one, List.range'_succ, List.range'_zero, List.forIn_cons, List.forIn_nil]
  go_simp
  cases x0
  case true => simp
  cases x1
  case true => simp
  cases x2
  case true => simp
  cases x3
  case true => simp
  cases x4
  case true => simp
  cases x5
  case true => simp
  cases x6
  case true => simp
  cases x7
  case true => simp
  simp
theorem eq_tb (t : Nat → Bool) (w : World) : (Op.equalIn 10000 295 (.agg (tbC t)) (.agg #[.bool false, .bool false, .bool false, .bool false, .bool false, .bool false, .bool false, .bool false])).run Tryz.prog w = .ok (nob t) w := eq_boo _ _ _ _ _ _ _ _ w
set_option maxRecDepth 100000 in
set_option maxHeartbeats 1000000 in
theorem nob_any (z : List Int) (t : Nat → Bool) (w : World) : Calls Tryz.prog 214 #[.agg (pbC z t)] w fun e w' => e = .returned (.bool (nob t)) ∧ Below w.heap.size w w' := by
  have HB := hide (al_below w (.cells (pbC z t) 297))
  have HP := hide (pb_new z t w)
  have q := eq_tb t
  go_enter Tryz.func214, Tryz.ntmps214
  go_upto_region 1 with fail
  generalize w.alloc _ = W at HB HP ⊢
  go_wp2_with (refine at_pbT rfl (.tmp 3) rfl rfl HP.out ?_)
  go_ret
  exact ⟨rfl, HB.out⟩
attribute [local go_sem ↓] pload_shut
set_option maxRecDepth 100000 in
set_option maxHeartbeats 1000000 in
theorem isof_any (z : List Int) (t : Nat → Bool) (a : List Int) (w : World) : Calls Tryz.prog 225 #[.agg (pbC z t), .agg (sixC a)] w fun e w' => e = .returned (.bool (eqz z a && !nob t)) ∧ Below w.heap.size w w' := by
  have b1 := al_below w (.cells (pbC z t) 297)
  have b2 := al_below (w.alloc (.cells (pbC z t) 297)) (.cells (sixC a) 23)
  have HB := hide (bt b1 b2)
  have HP := hide ((pb_new z t w).kept b2)
  have HA := hide (show SixIn (w.heap.size + 1) a ((w.alloc (.cells (pbC z t) 297)).alloc (.cells (sixC a) 23)) by have := six_new a (w.alloc (.cells (pbC z t) 297)); rw [World.size_alloc] at this; exact this)
  have HN := hide (nob_any z t)
  have q : ∀ w, (Op.equalIn 10000 23 (.agg (sixC z)) (.agg (sixC a))).run Tryz.prog w = .ok (eqz z a) w := eq_six z a
  generalize eqz z a = b at q ⊢
  clear b1 b2
  go_enter Tryz.func225, Tryz.ntmps225
  go_upto_region 1 with fail
  generalize (w.alloc _).alloc _ = W at HB HP HA ⊢
  cases b
  · go_wp2_with (first
      | (refine at_pbW rfl (.tmp 5) rfl rfl HP.out ?_)
      | (refine at_load6 rfl (.tmp 3) rfl rfl HA.out ?_))
    go_ret
    exact ⟨rfl, HB.out⟩
  · have g1 := HP.out.pl
    go_wp2_with (first
      | (refine at_pbW rfl (.tmp 5) rfl rfl HP.out ?_)
      | (refine at_load6 rfl (.tmp 3) rfl rfl HA.out ?_)
      | (go_at_call 214; refine (HN.out _).mono ?_; rintro e w1 ⟨rfl, hb1⟩; replace HB := hide (bt HB.out hb1); clear hb1))
    go_ret
    exact ⟨rfl, HB.out⟩
end Go.Proofs.YtkhahbghmdccaaaGreatDoor

namespace Go.Proofs.YtkhahbghmdccaaaGreatDoor
open Go.RowKit
def fx (t : Nat → Bool) : Option Nat := (List.range 8).find? fun j => !t j
def fi (o : Option Nat) : Int := match o with | some i => i | none => -1
theorem fx_none {t : Nat → Bool} (h : ∀ j, j < 8 → t j = true) : fx t = none := find_none fun j hj => by rw [h j hj]; rfl
theorem fx_some {t : Nat → Bool} {i : Nat} (hi : i < 8) (h3 : t i = false) (h : ∀ j, j < i → t j = true) : fx t = some i := find_some hi (by rw [h3]; rfl) fun j hj => by rw [h j hj]; rfl
set_option maxRecDepth 100000 in
set_option maxHeartbeats 1000000 in
theorem index_any (g off : Nat) (t : Nat → Bool) (w : World) (hc : ∀ j, j < 8 → w.cell? ⟨g, off + j, none⟩ = some (.bool (t j))) : Calls Tryz.prog 204 #[.slice (some ⟨g, off, none⟩) 8 8, .bool false] w fun e w' => e = .returned (.int .i64 (fi (fx t))) ∧ w' = w := by
  have HC := hide hc
  clear hc
  go_enter Tryz.func204, Tryz.ntmps204
  go_wp2
  go_loop [8] (fun v => ∃ k : Nat, k ≤ 8 ∧ v = .int .i64 k ∧ Hid (∀ j, j < k → t j = true)) (fun v => 8 - (intOf v).toNat)
  case atStart => exact ⟨0, by omega, rfl, fun j h => absurd h (by omega)⟩
  case round =>
    obtain ⟨k, hk, rfl, HI⟩ := hrel
    by_cases hlt : k < 8
    · have c1 := HC.out k hlt
      have j1 : (k : Int) < 8 := by omega
      cases ht : t k
      · rw [ht] at c1
        have HE := hide (fx_some hlt ht HI.out)
        clear ht
        go_wp2
        go_ret
        rw [HE.out]
        exact ⟨rfl, rfl⟩
      · rw [ht] at c1
        have HT := hide ht
        clear ht
        go_wp2
        go_round
        case rel => exact ⟨k + 1, by omega, by go_num, fun j hj => if e : j = k then by rw [e]; exact HT.out else HI.out j (by omega)⟩
        case measure => simp [intOf]; omega
    · obtain rfl : k = 8 := by omega
      go_wp2
      go_ret
      rw [fx_none HI.out]
      exact ⟨rfl, rfl⟩
theorem fi_neg (o : Option Nat) : decide (0 ≤ fi o) = o.isSome := by
  cases o with
  | none => rfl
  | some i => unfold fi; simp
set_option maxRecDepth 100000 in
set_option maxHeartbeats 1000000 in
theorem contains_any (g off : Nat) (t : Nat → Bool) (w : World) (hc : ∀ j, j < 8 → w.cell? ⟨g, off + j, none⟩ = some (.bool (t j))) : Calls Tryz.prog 233 #[.slice (some ⟨g, off, none⟩) 8 8, .bool false] w fun e w' => e = .returned (.bool (fx t).isSome) ∧ w' = w := by
  have H := hide (index_any g off t w hc)
  have hf := fi_neg (fx t)
  clear hc
  generalize fx t = o at H hf ⊢
  generalize fi o = x at H hf
  go_enter Tryz.func233, Tryz.ntmps233
  go_wp2_with (go_at_call 204; refine H.out.mono ?_; rintro e w' ⟨rfl, rfl⟩)
  go_ret
  exact ⟨by rw [← hf]; rfl, rfl⟩
set_option maxRecDepth 100000 in
set_option maxHeartbeats 1000000 in
theorem isfull_any (z : List Int) (t : Nat → Bool) (w : World) : Calls Tryz.prog 226 #[.agg (pbC z t)] w fun e w' => e = .returned (.bool (fx t).isNone) ∧ Below w.heap.size w w' := by
  have HB := hide (al_below w (.cells (pbC z t) 297))
  have HP := hide (pb_new z t w)
  go_enter Tryz.func226, Tryz.ntmps226
  go_upto_region 1 with fail
  generalize w.alloc _ = W at HB HP ⊢
  go_wp2_with (go_at_call 233; refine (contains_any w.heap.size 8 t _ (fun j hj => HP.out.bit j hj)).mono ?_; rintro e w1 ⟨rfl, rfl⟩)
  go_ret
  exact ⟨rfl, HB.out⟩
end Go.Proofs.YtkhahbghmdccaaaGreatDoor

namespace Go.Proofs.YtkhahbghmdccaaaGreatDoor
open Go.RowKit
def sb (ts : Nat → Bool) (k : Nat) : Nat → Bool := fun j => ts (8 * k + j)
def BRow (B m : Nat) (ow : Nat → List Int) (ts : Nat → Bool) (w : World) : Prop := ∃ cs : Array Value, w.heap[B]? = some (.cells cs 297 (0, 0)) ∧ cs.size = 16 * m ∧ ∀ k, k < m → ∀ j, j < 8 → cs[16 * k + j]? = some (.int .i64 (el (ow k) j)) ∧ cs[16 * k + 8 + j]? = some (.bool (ts (8 * k + j)))
theorem BRow.lt {B m : Nat} {ow : Nat → List Int} {ts : Nat → Bool} {w : World} (h : BRow B m ow ts w) : B < w.heap.size := by obtain ⟨cs, h1, _⟩ := h; exact (Array.getElem?_eq_some_iff.1 h1).1
theorem BRow.same {B m : Nat} {ow : Nat → List Int} {ts : Nat → Bool} {w w' : World} (h : BRow B m ow ts w) (e : w'.heap[B]? = w.heap[B]?) : BRow B m ow ts w' := by obtain ⟨cs, h1, h2⟩ := h; exact ⟨cs, e.trans h1, h2⟩
theorem BRow.bit {B m : Nat} {ow : Nat → List Int} {ts : Nat → Bool} {w : World} (h : BRow B m ow ts w) (k : Nat) (hk : k < m) (j : Nat) (hj : j < 8) : w.cell? ⟨B, 16 * k + 8 + j, none⟩ = some (.bool (ts (8 * k + j))) ∧ w.frozen? ⟨B, 16 * k + 8 + j, none⟩ = false := by
  obtain ⟨cs, h1, h2, h3⟩ := h
  exact ⟨by rw [cell_of_row w B _ _ _ _ h1]; exact (h3 k hk j hj).2, by simp [World.frozen?, h1]⟩
theorem BRow.who {B m : Nat} {ow : Nat → List Int} {ts : Nat → Bool} {w : World} (h : BRow B m ow ts w) (k : Nat) (hk : k < m) : w.rangeAt B (16 * k) (sixC (ow k)).toList := by
  obtain ⟨cs, h1, h2, h3⟩ := h
  intro j v hv
  have hj : j < 8 := (List.getElem?_eq_some_iff.1 hv).1
  rw [cell_of_row w B (16 * k + j) _ _ _ h1, (h3 k hk j hj).1, ← sixC_at (ow k) j hj]
  simpa using hv
theorem BRow.all {B m : Nat} {ow : Nat → List Int} {ts : Nat → Bool} {w : World} (h : BRow B m ow ts w) (k : Nat) (hk : k < m) : w.rangeAt B (16 * k) (pbC (ow k) (sb ts k)).toList := by
  obtain ⟨cs, h1, h2, h3⟩ := h
  intro j v hv
  have hj : j < 16 := (List.getElem?_eq_some_iff.1 hv).1
  have hv' : (pbC (ow k) (sb ts k))[j]? = some v := by simpa using hv
  rw [cell_of_row w B (16 * k + j) _ _ _ h1]
  by_cases h8 : j < 8
  · rw [(h3 k hk j h8).1, ← hv', pbC_six _ _ j h8]
  · obtain ⟨i, rfl⟩ : ∃ i, j = 8 + i := ⟨j - 8, by omega⟩
    rw [← Nat.add_assoc, (h3 k hk i (by omega)).2, ← hv', pbC_boo _ _ i (by omega)]
    rfl
theorem at_brow {ops : Array Oper} {rest : List Oper} {o : Oper} {f : Act} {w : World} {Q : Exit → Act → World → Prop} (hgd : o.guard = none) (x : Operand) (ho : o.op = .load 297 x)
    {B m : Nat} {ow : Nat → List Int} {ts : Nat → Bool} (k off : Nat) (hx : f.eval x = .pointer (some ⟨B, off, none⟩)) (hoff : off = 16 * k) (hk : k < m) (p : BRow B m ow ts w)
    (hK : wpList Tryz.prog ops Q rest (f.put o.dst (.agg (pbC (ow k) (sb ts k)))) w) : wpList Tryz.prog ops Q (o :: rest) f w := by
  subst hoff
  exact wpList_load_mid hgd 297 x ho B (16 * k) hx (pbC (ow k) (sb ts k)).toList _ (p.all k hk) Tryz.underlying297 rfl (by kernel_rfl) hK
theorem pb_zero (w : World) : PbIn w.heap.size [] (fun _ => false) (w.alloc (.cells #[.int .i64 0, .int .i64 0, .int .i64 0, .int .i64 0, .int .i64 0, .int .i64 0, .int .i64 0, .int .i64 0, .bool false, .bool false, .bool false, .bool false, .bool false, .bool false, .bool false, .bool false] 297)) := heap_alloc_new w _
theorem PbIn.stored {B : Nat} {z0 : List Int} {t0 : Nat → Bool} {w : World} (p : PbIn B z0 t0 w) (z : List Int) (t : Nat → Bool) : PbIn B z t (w.setRow B (pbC z t)) := setRow_heap w B _ _ _ (0, 0) p
theorem at_storepb {ops : Array Oper} {rest : List Oper} {o : Oper} {f : Act} {w : World} {Q : Exit → Act → World → Prop} (hgd : o.guard = none) (x y : Operand) (ho : o.op = .store 297 x y)
    {B : Nat} {z0 : List Int} {t0 : Nat → Bool} (hx : f.eval x = .pointer (some ⟨B, 0, none⟩)) (p : PbIn B z0 t0 w) (z : List Int) (t : Nat → Bool) (hy : f.eval y = .agg (pbC z t))
    (hK : ∀ w', PbIn B z t w' → Only B w w' → wpList Tryz.prog ops Q rest (f.put o.dst undef) w') : wpList Tryz.prog ops Q (o :: rest) f w :=
  wpList_store_row hgd 297 x y ho B _ hx hy 297 _ p (by kernel_rfl) rfl (by unfold pbC; simp [Value.oneCell']) (hK _ (p.stored z t) (only_setRow _ _ _))
def BP (B BB m : Nat) (ow : Nat → List Int) (ts : Nat → Bool) (w : World) : Prop := w.heap[B]? = some (.cells #[.slice (some ⟨BB, 0, none⟩) m m] 231 (0, 0)) ∧ BRow BB m ow ts w
theorem BP.lt {B BB m : Nat} {ow : Nat → List Int} {ts : Nat → Bool} {w : World} (h : BP B BB m ow ts w) : B < w.heap.size := (Array.getElem?_eq_some_iff.1 h.1).1
theorem BP.kept {B BB m : Nat} {ow : Nat → List Int} {ts : Nat → Bool} {w w' : World} (h : BP B BB m ow ts w) (hb : Below w.heap.size w w') : BP B BB m ow ts w' := ⟨(hb.block B h.lt).trans h.1, h.2.same (hb.block BB h.2.lt)⟩
theorem BP.row {B BB m : Nat} {ow : Nat → List Int} {ts : Nat → Bool} {w : World} (h : BP B BB m ow ts w) : w.cell? ⟨B, 0, none⟩ = some (.slice (some ⟨BB, 0, none⟩) m m) := cell_of_row w B 0 _ _ _ h.1
theorem BP.ne {B BB m : Nat} {ow : Nat → List Int} {ts : Nat → Bool} {w : World} (h : BP B BB m ow ts w) : B ≠ BB := by
  rintro rfl
  obtain ⟨h1, cs, h2, _⟩ := h
  rw [h1] at h2
  cases h2
def Kp (w : World) (B BB m : Nat) (ow : Nat → List Int) (ts : Nat → Bool) (z : List Int) (W : World) : Prop := BP B BB m ow ts W ∧ SixIn w.heap.size z W ∧ Below w.heap.size w W
theorem Kp.kept {w : World} {B BB m : Nat} {ow : Nat → List Int} {ts : Nat → Bool} {z : List Int} {W W' : World} (h : Kp w B BB m ow ts z W) (hb : Below W.heap.size W W') : Kp w B BB m ow ts z W' := ⟨h.1.kept hb, h.2.1.kept hb, bt h.2.2 hb⟩
def mine (ow : Nat → List Int) (ts : Nat → Bool) (z : List Int) (k : Nat) : Bool := eqz (ow k) z && !nob (sb ts k)
def r0 (ow : Nat → List Int) (ts : Nat → Bool) (z : List Int) (k : Nat) : Bool := mine ow ts z k && (fx (sb ts k)).isSome
def r1 (ts : Nat → Bool) (k : Nat) : Bool := nob (sb ts k)
def rm (ow : Nat → List Int) (ts : Nat → Bool) (z : List Int) (m : Nat) : Option Nat := ((List.range m).find? (r0 ow ts z)).or ((List.range m).find? (r1 ts))
theorem find_succ (f : Nat → Bool) (k : Nat) : (List.range (k + 1)).find? f = ((List.range k).find? f).or (if f k = true then some k else none) := by
  rw [List.range_succ, List.find?_append, List.find?_singleton]
theorem fi_lt (o : Option Nat) : decide (fi o < 0) = o.isNone := by
  cases o with
  | none => rfl
  | some i => unfold fi; simp
attribute [local go_sem ↓] pload_shut
set_option maxRecDepth 100000 in
set_option maxHeartbeats 4000000 in
theorem room_any (B BB m : Nat) (ow : Nat → List Int) (ts : Nat → Bool) (z : List Int) (w : World) (h : BP B BB m ow ts w) (hm : m ≤ 16) (R : Option Nat) (hR : rm ow ts z m = R) :
    Calls Tryz.prog 203 #[.pointer (some ⟨B, 0, none⟩), .agg (sixC z)] w fun e w' => e = .returned (.int .i64 (fi R)) ∧ Below w.heap.size w w' := by
  have HK := hide (show Kp w B BB m ow ts z (w.alloc (.cells (sixC z) 23)) from ⟨h.kept (al_below _ _), six_new z w, al_below _ _⟩)
  have HR := hide hR
  have hm' : (m : Int) ≤ 16 := by omega
  clear h hR
  go_enter Tryz.func203, Tryz.ntmps203
  go_upto_region 1 with fail
  generalize w.alloc _ = W at HK ⊢
  have l1 := HK.out.1.row
  go_wp2
  go_loopw [5, 13] (fun v i wr => ∃ k : Nat, k ≤ m ∧ i = .int .i64 k ∧ v = .int .i64 (fi ((List.range k).find? (r1 ts))) ∧ Hid (∀ j, j < k → r0 ow ts z j = false) ∧ Hid (Kp w B BB m ow ts z wr)) (fun _ i _ => m - (intOf i).toNat)
  case atStart => exact ⟨0, by omega, rfl, rfl, fun j h => absurd h (by omega), HK⟩
  case round =>
    clear HK l1
    obtain ⟨k, hk, rfl, rfl, HI, HV⟩ := hrel
    by_cases hlt : k < m
    · have j1 : (k : Int) < (m : Int) := by omega
      have HS := hide (find_succ (r1 ts) k)
      have hf := fi_lt ((List.range k).find? (r1 ts))
      have HX := hide (show fi ((List.range k).find? (r1 ts)) ≤ 16 by
        cases h9 : (List.range k).find? (r1 ts) with
        | none => show (-1 : Int) ≤ 16; omega
        | some i => have := List.mem_range.1 (List.mem_of_find?_eq_some h9); show ((i : Nat) : Int) ≤ 16; omega)
      go_upto_region 5 with (first
        | (refine at_brow rfl (.tmp 16) rfl k _ rfl (by omega) hlt HV.out.1.2 ?_; have hb0 := al_below wr (.cells #[.int .i64 0, .int .i64 0, .int .i64 0, .int .i64 0, .int .i64 0, .int .i64 0, .int .i64 0, .int .i64 0, .bool false, .bool false, .bool false, .bool false, .bool false, .bool false, .bool false, .bool false] 297); have HZ := hide (pb_zero wr))
        | (refine at_storepb rfl (.tmp 7) (.tmp 17) rfl rfl HZ.out (ow k) (sb ts k) rfl ?_; intro w2 p2 on2; replace HV := hide (HV.out.kept (new_below _ on2)); replace p2 := hide p2; clear on2 hb0 HZ))
      generalize wr.heap.size = B2 at p2 ⊢
      have HR0 := hide (show r0 ow ts z k = ((eqz (ow k) z && !nob (sb ts k)) && !(fx (sb ts k)).isNone) by unfold r0 mine; cases fx (sb ts k) <;> rfl)
      have HC1 := hide (fun W => isof_any (ow k) (sb ts k) z W)
      have HC2 := hide (fun W => isfull_any (ow k) (sb ts k) W)
      have HC3 := hide (fun W => nob_any (ow k) (sb ts k) W)
      have HN := hide (show r1 ts k = nob (sb ts k) from rfl)
      generalize (eqz (ow k) z && !nob (sb ts k)) = b at HC1 HR0
      generalize (fx (sb ts k)).isNone = c at HC2 HR0
      generalize nob (sb ts k) = d at HC3 HN
      generalize (List.range k).find? (r1 ts) = o at hf HS HX ⊢
      have g1 := p2.out.pl
      cases b
      · go_upto_region 7 with (first
          | (refine at_load6 rfl (.tmp 3) rfl rfl HV.out.2.1 ?_)
          | (go_at_call 225; refine (HC1.out _).mono ?_; rintro e w3 ⟨rfl, hb3⟩; replace HV := hide (HV.out.kept hb3); replace p2 := hide (p2.out.kept hb3); have g2 := p2.out.pl; clear hb3)
          | (go_at_call 226; refine (HC2.out _).mono ?_; rintro e w5 ⟨rfl, hb5⟩; replace HV := hide (HV.out.kept hb5); replace p2 := hide (p2.out.kept hb5); clear hb5))
        cases o with
        | none =>
          have hx : fi none < 0 := by decide
          generalize hxe : fi none = x at hx HX ⊢
          have HE := hide hxe
          clear hxe hf
          have g3 := p2.out.pl
          cases d
          · go_wp2_with (go_at_call 214; refine (HC3.out _).mono ?_; rintro e w4 ⟨rfl, hb4⟩; replace HV := hide (HV.out.kept hb4); clear hb4)
            go_roundw
            case rel => exact ⟨k + 1, by omega, by go_num, by rw [HS.out, HN.out, ← HE.out]; rfl, fun j hj => if e : j = k then by rw [e, HR0.out]; rfl else HI.out j (by omega), HV⟩
            case measure => simp [intOf]; omega
          · go_wp2_with (go_at_call 214; refine (HC3.out _).mono ?_; rintro e w4 ⟨rfl, hb4⟩; replace HV := hide (HV.out.kept hb4); clear hb4)
            go_roundw
            case rel => exact ⟨k + 1, by omega, by go_num, by rw [HS.out, HN.out]; rfl, fun j hj => if e : j = k then by rw [e, HR0.out]; rfl else HI.out j (by omega), HV⟩
            case measure => simp [intOf]; omega
        | some i =>
          have hx : ¬ fi (some i) < 0 := by rw [show fi (some i) = (i : Int) from rfl]; omega
          have HS2 := hide (show (List.range (k + 1)).find? (r1 ts) = some i by rw [HS.out]; rfl)
          generalize hxe : fi (some i) = x at hx HX ⊢
          have HE := hide hxe
          clear hxe hf
          go_wp2
          go_roundw
          case rel => exact ⟨k + 1, by omega, by go_num, by rw [HS2.out, ← HE.out], fun j hj => if e : j = k then by rw [e, HR0.out]; rfl else HI.out j (by omega), HV⟩
          case measure => simp [intOf]; omega
      · cases c
        · go_wp2_with (first
          | (refine at_load6 rfl (.tmp 3) rfl rfl HV.out.2.1 ?_)
          | (go_at_call 225; refine (HC1.out _).mono ?_; rintro e w3 ⟨rfl, hb3⟩; replace HV := hide (HV.out.kept hb3); replace p2 := hide (p2.out.kept hb3); have g2 := p2.out.pl; clear hb3)
          | (go_at_call 226; refine (HC2.out _).mono ?_; rintro e w5 ⟨rfl, hb5⟩; replace HV := hide (HV.out.kept hb5); replace p2 := hide (p2.out.kept hb5); clear hb5))
          go_ret
          refine ⟨?_, HV.out.2.2⟩
          rw [← HR.out]
          unfold rm
          rw [find_some hlt HR0.out HI.out]
          rfl
        · go_upto_region 7 with (first
          | (refine at_load6 rfl (.tmp 3) rfl rfl HV.out.2.1 ?_)
          | (go_at_call 225; refine (HC1.out _).mono ?_; rintro e w3 ⟨rfl, hb3⟩; replace HV := hide (HV.out.kept hb3); replace p2 := hide (p2.out.kept hb3); have g2 := p2.out.pl; clear hb3)
          | (go_at_call 226; refine (HC2.out _).mono ?_; rintro e w5 ⟨rfl, hb5⟩; replace HV := hide (HV.out.kept hb5); replace p2 := hide (p2.out.kept hb5); clear hb5))
          cases o with
          | none =>
            have hx : fi none < 0 := by decide
            generalize hxe : fi none = x at hx HX ⊢
            have HE := hide hxe
            clear hxe hf
            have g3 := p2.out.pl
            cases d
            · go_wp2_with (go_at_call 214; refine (HC3.out _).mono ?_; rintro e w4 ⟨rfl, hb4⟩; replace HV := hide (HV.out.kept hb4); clear hb4)
              go_roundw
              case rel => exact ⟨k + 1, by omega, by go_num, by rw [HS.out, HN.out, ← HE.out]; rfl, fun j hj => if e : j = k then by rw [e, HR0.out]; rfl else HI.out j (by omega), HV⟩
              case measure => simp [intOf]; omega
            · go_wp2_with (go_at_call 214; refine (HC3.out _).mono ?_; rintro e w4 ⟨rfl, hb4⟩; replace HV := hide (HV.out.kept hb4); clear hb4)
              go_roundw
              case rel => exact ⟨k + 1, by omega, by go_num, by rw [HS.out, HN.out]; rfl, fun j hj => if e : j = k then by rw [e, HR0.out]; rfl else HI.out j (by omega), HV⟩
              case measure => simp [intOf]; omega
          | some i =>
            have hx : ¬ fi (some i) < 0 := by rw [show fi (some i) = (i : Int) from rfl]; omega
            have HS2 := hide (show (List.range (k + 1)).find? (r1 ts) = some i by rw [HS.out]; rfl)
            generalize hxe : fi (some i) = x at hx HX ⊢
            have HE := hide hxe
            clear hxe hf
            go_wp2
            go_roundw
            case rel => exact ⟨k + 1, by omega, by go_num, by rw [HS2.out, ← HE.out], fun j hj => if e : j = k then by rw [e, HR0.out]; rfl else HI.out j (by omega), HV⟩
            case measure => simp [intOf]; omega
    · obtain rfl : m = k := by omega
      go_wp2
      go_ret
      refine ⟨?_, HV.out.2.2⟩
      rw [← HR.out]
      unfold rm
      rw [find_none HI.out]
      rfl
end Go.Proofs.YtkhahbghmdccaaaGreatDoor

namespace Go.Proofs.YtkhahbghmdccaaaGreatDoor
open Go.RowKit
set_option maxRecDepth 100000 in
set_option maxHeartbeats 1000000 in
theorem find_in (B BB m : Nat) (ow : Nat → List Int) (ts : Nat → Bool) (k j : Nat) (w : World) (h : BP B BB m ow ts w) (hm : m ≤ 16) (hk : k < m) (hj : j < 8) :
    Calls Tryz.prog 213 #[.pointer (some ⟨B, 0, none⟩), .int .i64 (1024 + ((8 * k + j : Nat) : Int))] w fun e w' => e = .returned (if ts (8 * k + j) = true then .tuple #[.pointer (some ⟨BB, 16 * k, none⟩), .int .i64 j] else .tuple #[.pointer none, .int .i64 0]) ∧ w' = w := by
  have l1 := h.row
  have c1 := (h.2.bit k hk j hj).1
  clear h
  have hm' : (m : Int) ≤ 16 := by omega
  obtain ⟨x, hx⟩ : ∃ x : Int, x = ((8 * k + j : Nat) : Int) := ⟨_, rfl⟩
  rw [← hx]
  have j1 : x.tdiv 8 = (k : Int) := by rw [Int.tdiv_eq_ediv_of_nonneg (by omega)]; omega
  have j2 : x.tmod 8 = (j : Int) := by rw [Int.tmod_eq_emod_of_nonneg (by omega)]; omega
  have j3 : IntKind.i64.wrap (1024 + x - 1024) = x := by rw [IntKind.wrap_i64]; omega
  have j4 : ¬ 1024 + x < 1024 := by omega
  have j5 : ¬ 1024 + (m : Int) * 8 ≤ 1024 + x := by omega
  have j6 : (k : Int) < (m : Int) := by omega
  have j7 : (j : Int) < 8 := by omega
  have e16 : k * 16 = 16 * k := by omega
  have HX := hide hx
  clear hx
  cases ht : ts (8 * k + j)
  · rw [ht] at c1
    clear ht
    go_enter Tryz.func213, Tryz.ntmps213
    go_wp2
    go_ret2
    exact ⟨rfl, rfl⟩
  · rw [ht] at c1
    clear ht
    go_enter Tryz.func213, Tryz.ntmps213
    go_wp2
    go_ret2
    exact ⟨rfl, rfl⟩
end Go.Proofs.YtkhahbghmdccaaaGreatDoor

namespace Go.Proofs.YtkhahbghmdccaaaGreatDoor
open Go.RowKit
theorem find_yes (B BB m : Nat) (ow : Nat → List Int) (ts : Nat → Bool) (k j : Nat) (w : World) (h : BP B BB m ow ts w) (hm : m ≤ 16) (hk : k < m) (hj : j < 8) (ht : ts (8 * k + j) = true) :
    Calls Tryz.prog 213 #[.pointer (some ⟨B, 0, none⟩), .int .i64 (1024 + ((8 * k + j : Nat) : Int))] w fun e w' => e = .returned (.tuple #[.pointer (some ⟨BB, 16 * k, none⟩), .int .i64 j]) ∧ w' = w := by
  have := find_in B BB m ow ts k j w h hm hk hj
  rw [ht] at this
  exact this
theorem BRow.set {B m : Nat} {ow : Nat → List Int} {ts : Nat → Bool} {w : World} (h : BRow B m ow ts w) (k j : Nat) (hk : k < m) (hj : j < 8) (x : Bool) : BRow B m ow (upd ts (8 * k + j) x) (w.setCell ⟨B, 16 * k + 8 + j, none⟩ (.bool x)) := by
  obtain ⟨cs, h1, h2, h3⟩ := h
  refine ⟨cs.setIfInBounds (16 * k + 8 + j) (.bool x), ?_, by simpa using h2, fun k' hk' j' hj' => ⟨?_, ?_⟩⟩
  · rw [setCell_eq_setRow w B _ _ 297 (0, 0) (.bool x) h1, setRow_heap w B _ _ 297 (0, 0) h1]
  · rw [Array.getElem?_setIfInBounds_ne (by omega)]
    exact (h3 k' hk' j' hj').1
  · unfold upd
    by_cases e : 8 * k' + j' = 8 * k + j
    · rw [if_pos e, show 16 * k' + 8 + j' = 16 * k + 8 + j by omega, Array.getElem?_setIfInBounds_self_of_lt (by omega)]
    · rw [if_neg e, Array.getElem?_setIfInBounds_ne (by omega)]
      exact (h3 k' hk' j' hj').2
theorem BRow.held {B m : Nat} {ow : Nat → List Int} {ts : Nat → Bool} {w : World} (h : BRow B m ow ts w) (k : Nat) (hk : k < m) (z : List Int) :
    ∃ w', (qstore (.pointer (some ⟨B, 16 * k, none⟩)) (.agg (sixC z))).run Tryz.prog w = .ok () w' ∧ BRow B m (upd ow k z) ts w' ∧ Only B w w' := by
  obtain ⟨cs, h1, h2, h3⟩ := h
  refine ⟨w.setCells B (16 * k) (sixC z).toList, ?_, ?_, setCells_only B _ _ w⟩
  · exact run_storeAt_mid w B (16 * k) 23 (sixC z) (fun j hj => by
      have hj8 : j < 8 := hj
      rw [cell_of_row w B (16 * k + j) _ _ _ h1, (h3 k hk j hj8).1]
      refine ⟨rfl, by simp [World.frozen?, h1]⟩) (by kernel_rfl) (by unfold sixC; simp [Value.oneCell'])
  · obtain ⟨cs', e1, e2, e3⟩ := setCells_row B 297 (sixC z).toList (16 * k) w cs h1
    have hl : (sixC z).toList.length = 8 := rfl
    refine ⟨cs', e1, e2.trans h2, fun k' hk' j hj => ⟨?_, ?_⟩⟩
    · rw [e3 (16 * k' + j) (by omega)]
      unfold upd
      by_cases e : k' = k
      · subst e
        rw [if_pos (by rw [hl]; omega), if_pos rfl, show 16 * k' + j - 16 * k' = j by omega, ← sixC_at z j hj]
        simp
      · rw [if_neg (by rw [hl]; omega), if_neg e]
        exact (h3 k' hk' j hj).1
    · rw [e3 (16 * k' + 8 + j) (by omega), if_neg (by rw [hl]; omega)]
      exact (h3 k' hk' j hj).2
theorem BP.setT {B BB m : Nat} {ow : Nat → List Int} {ts : Nat → Bool} {w : World} (h : BP B BB m ow ts w) (k j : Nat) (hk : k < m) (hj : j < 8) (x : Bool) : BP B BB m ow (upd ts (8 * k + j) x) (w.setCell ⟨BB, 16 * k + 8 + j, none⟩ (.bool x)) :=
  ⟨(Below.heap_setCell w ⟨BB, _, none⟩ _ B h.ne).trans h.1, h.2.set k j hk hj x⟩
theorem BP.only {B BB m : Nat} {ow ow' : Nat → List Int} {ts : Nat → Bool} {w w' : World} (h : BP B BB m ow ts w) (on : Only BB w w') (hw : BRow BB m ow' ts w') : BP B BB m ow' ts w' := ⟨(on.2.2.2.2 B h.ne).trans h.1, hw⟩
def gv (ow : Nat → List Int) (ts : Nat → Bool) (k : Nat) : Nat → List Int := if nob (sb ts k) = true then upd ow k [] else ow
attribute [local go_sem ↓] qstore_shut
set_option maxRecDepth 100000 in
set_option maxHeartbeats 1000000 in
theorem pgive_yes (B BB m : Nat) (ow : Nat → List Int) (ts : Nat → Bool) (k j : Nat) (w : World) (h : BP B BB m ow ts w) (hm : m ≤ 16) (hk : k < m) (hj : j < 8) (ht : ts (8 * k + j) = true) :
    Calls Tryz.prog 192 #[.pointer (some ⟨B, 0, none⟩), .int .i64 (1024 + ((8 * k + j : Nat) : Int))] w fun e w' => e = .returned .nilIface ∧ BP B BB m (gv ow (upd ts (8 * k + j) false) k) (upd ts (8 * k + j) false) w' ∧ Fr (fun g => g = BB) w w' := by
  have HP := hide (find_yes B BB m ow ts k j _ h hm hk hj ht)
  obtain ⟨c1, c2⟩ := h.2.bit k hk j hj
  have HS := hide (h.setT k j hk hj false)
  have HF := hide (setCell_fr w BB (16 * k + 8 + j) (.bool false))
  have HG := hide (show gv ow (upd ts (8 * k + j) false) k = if nob (sb (upd ts (8 * k + j) false) k) = true then upd ow k [] else ow from rfl)
  clear h ht
  have j7 : (j : Int) < 8 := by omega
  generalize upd ts (8 * k + j) false = ts' at HS HG ⊢
  have HN := hide (nob_any (ow k) (sb ts' k))
  generalize gv ow ts' k = ow' at HG ⊢
  generalize 1024 + ((8 * k + j : Nat) : Int) = p at HP ⊢
  go_enter Tryz.func192, Tryz.ntmps192
  go_upto_region 5 with (go_at_call 213; refine HP.out.mono ?_; rintro e w' ⟨rfl, rfl⟩)
  clear c1 c2 HP
  generalize w'.setCell _ _ = w1 at HS HF ⊢
  generalize nob (sb ts' k) = b at HN HG
  cases b
  · go_wp2_with (first
      | (refine at_brow rfl (.tmp 22) rfl k _ rfl (by omega) hk HS.out.2 ?_)
      | (go_at_call 214; refine (HN.out _).mono ?_; rintro e w2 ⟨rfl, hb2⟩; replace HS := hide (HS.out.kept hb2); replace HF := hide (HF.out.trans (Fr.of hb2)); clear hb2))
    go_ret
    exact ⟨rfl, by rw [HG.out]; exact HS.out, HF.out⟩
  · go_upto_region 6 with (first
      | (refine at_brow rfl (.tmp 22) rfl k _ rfl (by omega) hk HS.out.2 ?_)
      | (go_at_call 214; refine (HN.out _).mono ?_; rintro e w2 ⟨rfl, hb2⟩; replace HS := hide (HS.out.kept hb2); replace HF := hide (HF.out.trans (Fr.of hb2)); clear hb2))
    obtain ⟨w5, hst, p5, on5⟩ := HS.out.2.held k hk []
    replace p5 := hide (HS.out.only on5 p5)
    replace HF := hide (HF.out.trans (on5.fr rfl))
    clear on5
    replace hst : (qstore (.pointer (some ⟨BB, 16 * k, none⟩)) (.agg zero6)).run Tryz.prog w2 = .ok () w5 := hst
    unfold zero6 at hst
    go_wp2
    go_ret
    exact ⟨rfl, by rw [HG.out]; exact p5.out, HF.out⟩
end Go.Proofs.YtkhahbghmdccaaaGreatDoor

namespace Go.Proofs.YtkhahbghmdccaaaGreatDoor
open Go.RowKit
set_option maxRecDepth 100000 in
set_option maxHeartbeats 1000000 in
theorem ptake_full (B BB m : Nat) (ow : Nat → List Int) (ts : Nat → Bool) (z : List Int) (w : World) (h : BP B BB m ow ts w) (hm : m ≤ 16) (hz : Ok6 z) (hR : rm ow ts z m = none) :
    Calls Tryz.prog 172 #[.pointer (some ⟨B, 0, none⟩), .agg (sixC z)] w fun e w' => e = .returned (.tuple #[.int .i64 0, err 3]) ∧ Below w.heap.size w w' := by
  have HK := hide (show Kp w B BB m ow ts z (w.alloc (.cells (sixC z) 23)) from ⟨h.kept (al_below _ _), six_new z w, al_below _ _⟩)
  have HC := hide (fun W => pcheck_ok z W hz)
  have HR := hide (fun W hW => room_any B BB m ow ts z W hW hm none hR)
  clear h hR hz
  go_enter Tryz.func172, Tryz.ntmps172
  go_upto_region 1 with fail
  generalize w.alloc _ = W at HK ⊢
  go_wp2_with (first
    | (refine at_load6 rfl (.tmp 3) rfl rfl HK.out.2.1 ?_)
    | (go_at_call 95; refine (HC.out _).mono ?_; rintro e w1 ⟨rfl, hb1⟩; replace HK := hide (HK.out.kept hb1); clear hb1)
    | (go_at_call 203; refine (HR.out _ HK.out.1).mono ?_; rintro e w2 ⟨rfl, hb2⟩; replace HK := hide (HK.out.kept hb2); clear hb2; rw [show fi none = (-1 : Int) from rfl]))
  go_ret2
  exact ⟨rfl, HK.out.2.2⟩
attribute [local go_sem ↓] qstore_shut
set_option maxRecDepth 100000 in
set_option maxHeartbeats 1000000 in
theorem ptake_ok (B BB m : Nat) (ow : Nat → List Int) (ts : Nat → Bool) (z : List Int) (k j : Nat) (w : World) (h : BP B BB m ow ts w) (hm : m ≤ 16) (hz : Ok6 z) (hR : rm ow ts z m = some k) (hk : k < m) (hF : fx (sb ts k) = some j) (hj : j < 8) :
    Calls Tryz.prog 172 #[.pointer (some ⟨B, 0, none⟩), .agg (sixC z)] w fun e w' => e = .returned (.tuple #[.int .i64 (1024 + ((8 * k + j : Nat) : Int)), .nilIface]) ∧ BP B BB m (upd ow k z) (upd ts (8 * k + j) true) w' ∧ Fr (fun g => g = BB) w w' := by
  have HK := hide (show Kp w B BB m ow ts z (w.alloc (.cells (sixC z) 23)) from ⟨h.kept (al_below _ _), six_new z w, al_below _ _⟩)
  have HC := hide (fun W => pcheck_ok z W hz)
  have HR := hide (fun W hW => room_any B BB m ow ts z W hW hm (some k) hR)
  have HI := hide (fun W (hW : BP B BB m ow ts W) => show Calls Tryz.prog 204 #[.slice (some ⟨BB, 16 * k + 8, none⟩) 8 8, .bool false] W fun e w' => e = .returned (.int .i64 j) ∧ w' = W by
    have := index_any BB (16 * k + 8) (sb ts k) W (fun j hj => (hW.2.bit k hk j hj).1)
    rw [hF] at this
    exact this)
  have e16 : k * 16 = 16 * k := by omega
  have j1 : (k : Int) < (m : Int) := by omega
  have j2 : (m : Int) ≤ 16 := by omega
  have j3 : (j : Int) < 8 := by omega
  have j4 : ¬ (k : Int) < 0 := by omega
  clear h hR hz hF
  go_enter Tryz.func172, Tryz.ntmps172
  go_upto_region 1 with fail
  generalize w.alloc _ = W at HK ⊢
  go_upto_region 7 with (first
    | (refine at_load6 rfl (.tmp 3) rfl rfl HK.out.2.1 ?_)
    | (go_at_call 95; refine (HC.out _).mono ?_; rintro e w1 ⟨rfl, hb1⟩; replace HK := hide (HK.out.kept hb1); clear hb1)
    | (go_at_call 203; refine (HR.out _ HK.out.1).mono ?_; rintro e w2 ⟨rfl, hb2⟩; replace HK := hide (HK.out.kept hb2); clear hb2; rw [show fi (some k) = (k : Int) from rfl]))
  have l1 := HK.out.1.row
  go_upto_region 9 with (go_at_call 204; refine (HI.out _ HK.out.1).mono ?_; rintro e w3 ⟨rfl, rfl⟩)
  obtain ⟨w5, hst, p5, on5⟩ := HK.out.1.2.held k hk z
  have HP := hide (HK.out.1.only on5 p5)
  have HF := hide ((Fr.of (O := fun g => g = BB) HK.out.2.2).trans (on5.fr rfl))
  clear p5 on5
  go_upto_region 10 with (refine at_load6 rfl (.tmp 3) rfl rfl HK.out.2.1 ?_)
  obtain ⟨c1, c2⟩ := HP.out.2.bit k hk j hj
  have HS := hide (HP.out.setT k j hk hj true)
  replace HF := hide (HF.out.trans (setCell_fr w5 BB (16 * k + 8 + j) (.bool true)))
  go_wp2
  go_ret2
  rw [show (1024 : Int) + ((8 * k + j : Nat) : Int) = 1024 + (k : Int) * 8 + (j : Int) by omega]
  exact ⟨rfl, HS.out, HF.out⟩
end Go.Proofs.YtkhahbghmdccaaaGreatDoor

namespace Go.Proofs.YtkhahbghmdccaaaGreatDoor
open Go.RowKit
theorem Kp.grown {w : World} {B BB m : Nat} {ow : Nat → List Int} {ts : Nat → Bool} {z : List Int} {W W' : World} (h : Kp w B BB m ow ts z W) (hB : B < w.heap.size) (hBB : BB < w.heap.size) {r : Option Nat} (hg : W.grownBy W' r) (hr : ∀ k, r = some k → w.heap.size + 1 ≤ k) : Kp w B BB m ow ts z W' := by
  have hne : ∀ g, g ≤ w.heap.size → some g ≠ r := fun g hgl e => by have := hr g e.symm; omega
  have hs := h.2.2.size
  have hz := h.2.1.lt
  exact ⟨⟨(hg.block _ (by omega) (hne B (by omega))).trans h.1.1, h.1.2.same (hg.block _ (by omega) (hne BB (by omega)))⟩, (hg.block _ hz (hne _ (Nat.le_refl _))).trans h.2.1, h.2.2.grown hg hs (fun k e => by have := hr k e; omega)⟩
attribute [local go_sem ↓] pload_shut
theorem Tryz.infoBlk : (Tryz.prog.info? 297).map (fun i => (i.zero, i.size, i.bytes)) = some (some (.agg (pbC [] (fun _ => false))), 16, 72) := by kernel_rfl
theorem madeP (b : Nat) (_hb : b ≤ 16) : ∃ cs : Array Value, (∀ w : World, (mkSl 229 (.int .i64 (b : Int)) (.int .i64 (b : Int))).run Tryz.prog w = .ok (.slice (some ⟨w.heap.size, 0, none⟩) b b) (w.alloc (.cells cs 297))) ∧
    cs.size = 16 * b ∧ ∀ k, k < b → ∀ j, j < 8 → cs[16 * k + j]? = some (.int .i64 (el [] j)) ∧ cs[16 * k + 8 + j]? = some (.bool false) := by
  obtain ⟨i0, hi, hz0, hz1, hz2⟩ := info_parts Tryz.infoBlk
  refine ⟨madeCells (pbC [] (fun _ => false)) (16 * b), fun w => ?_, size_madeCells _ _, fun k hk j hj => ⟨?_, ?_⟩⟩
  · have h := run_make (P := Tryz.prog) w 229 297 i0 _ Tryz.underlying229 hi hz0 .i64 .i64 (b : Int) (b : Int) (by omega) (by omega) (by rw [hz2]; omega) (by omega)
    rw [hz1, show ((b : Int)).toNat = b by omega, show b * 16 = 16 * b by omega] at h
    exact h
  · rw [made_at _ _ _ (by omega)]
    have e8 : (16 * k + j) % (pbC [] (fun _ => false)).size = j := (by show (16 * k + j) % 16 = j; omega)
    rw [e8]
    rcases (by omega : j = 0 ∨ j = 1 ∨ j = 2 ∨ j = 3 ∨ j = 4 ∨ j = 5 ∨ j = 6 ∨ j = 7) with rfl | rfl | rfl | rfl | rfl | rfl | rfl | rfl <;> rfl
  · rw [made_at _ _ _ (by omega)]
    have e8 : (16 * k + 8 + j) % (pbC [] (fun _ => false)).size = 8 + j := (by show (16 * k + 8 + j) % 16 = 8 + j; omega)
    rw [e8]
    rcases (by omega : j = 0 ∨ j = 1 ∨ j = 2 ∨ j = 3 ∨ j = 4 ∨ j = 5 ∨ j = 6 ∨ j = 7) with rfl | rfl | rfl | rfl | rfl | rfl | rfl | rfl <;> rfl
theorem pbtwo_new (w : World) (a b : Obj) : ((w.alloc a).alloc b).heap[w.heap.size]? = some a ∧ ((w.alloc a).alloc b).heap[w.heap.size + 1]? = some b ∧ Below w.heap.size w ((w.alloc a).alloc b) := by
  have s1 : (w.alloc a).heap.size = w.heap.size + 1 := World.size_alloc _ _
  have b1 := al_below w a
  have b2 := al_below (w.alloc a) b
  have n1 : (w.alloc a).heap[w.heap.size]? = some a := heap_alloc_new w a
  have n2 := heap_alloc_new (w.alloc a) b
  rw [s1] at n2
  exact ⟨by rw [b2.block _ (by omega)]; exact n1, n2, bt b1 b2⟩
set_option maxRecDepth 100000 in
set_option maxHeartbeats 1000000 in
theorem pnew_bad (b : Int) (w : World) (hb : b < 1 ∨ 16 < b) :
    Calls Tryz.prog 100 #[.int .i64 b] w fun e w' => e = .returned (.tuple #[.pointer none, err 1]) ∧ w' = w := by
  rcases hb with h1 | h1
  · go_enter Tryz.func100, Tryz.ntmps100
    go_wp2
    go_ret2
    exact ⟨rfl, rfl⟩
  · have h2 : ¬ b < 1 := by omega
    go_enter Tryz.func100, Tryz.ntmps100
    go_wp2
    go_ret2
    exact ⟨rfl, rfl⟩
attribute [local go_sem ↓] mkSl_shut
set_option maxRecDepth 100000 in
set_option maxHeartbeats 1000000 in
theorem pnew_any (b : Nat) (w : World) (h1 : 1 ≤ b) (hb : b ≤ 16) :
    Calls Tryz.prog 100 #[.int .i64 b] w fun e w' => ∃ B BB, e = .returned (.tuple #[.pointer (some ⟨B, 0, none⟩), .nilIface]) ∧ BP B BB b (fun _ => []) (fun _ => false) w' ∧ w.heap.size ≤ B ∧ w.heap.size ≤ BB ∧ Below w.heap.size w w' := by
  obtain ⟨cs, mk, sc, hc⟩ := madeP b hb
  have HS := hide sc
  have HC := hide hc
  have q1 : ¬ (b : Int) < 1 := by omega
  have q2 : ¬ 16 < (b : Int) := by omega
  clear sc hc
  go_enter Tryz.func100, Tryz.ntmps100
  go_wp2
  go_ret2
  obtain ⟨t1, t2, t3⟩ := pbtwo_new w (.cells cs 297) (.cells #[.slice (some ⟨w.heap.size, 0, none⟩) b b] 231)
  exact ⟨w.heap.size + 1, rfl, w.heap.size, ⟨t2, cs, t1, HS.out, HC.out⟩, by omega, by omega, t3⟩
end Go.Proofs.YtkhahbghmdccaaaGreatDoor

namespace Go.Proofs.YtkhahbghmdccaaaGreatDoor
open Go.RowKit
def Ag (ws ow : Nat → List Int) (ts : Nat → Bool) (m : Nat) : Prop := ∀ k, k < m → ∀ j, j < 8 → ts (8 * k + j) = true → sixC (ws (8 * k + j)) = sixC (ow k)
theorem six_el {a b : List Int} (h : sixC a = sixC b) (j : Nat) (hj : j < 8) : el a j = el b j := by
  have h1 := sixC_at a j hj
  rw [h, sixC_at b j hj] at h1
  injection h1 with h1
  injection h1 with _ h1
  exact h1.symm
theorem eqz_six {a b : List Int} (h : eqz a b = true) : sixC a = sixC b := by
  have h' := (eqz_iff a b).1 h
  unfold sixC
  rw [h' 0 (by omega), h' 1 (by omega), h' 2 (by omega), h' 3 (by omega), h' 4 (by omega), h' 5 (by omega), h' 6 (by omega), h' 7 (by omega)]
theorem eqz_congr {a b : List Int} (h : sixC a = sixC b) (z : List Int) : eqz a z = eqz b z := by
  unfold eqz
  rw [six_el h 0 (by omega), six_el h 1 (by omega), six_el h 2 (by omega), six_el h 3 (by omega), six_el h 4 (by omega), six_el h 5 (by omega), six_el h 6 (by omega), six_el h 7 (by omega)]
theorem fo_cases (ts : Nat → Bool) (k : Nat) : (nob (sb ts k) = true ∧ pofo ts k = none) ∨ (nob (sb ts k) = false ∧ ∃ j, j < 8 ∧ ts (8 * k + j) = true ∧ pofo ts k = some (8 * k + j)) := by
  cases h : pofo ts k with
  | none =>
    refine .inl ⟨(nob_iff _).2 fun j hj => ?_, rfl⟩
    unfold pofo at h
    rw [List.find?_eq_none] at h
    have := h (8 * k + j) (by rw [List.mem_range'_1]; omega)
    unfold sb
    simpa using this
  | some i =>
    unfold pofo at h
    have h1 := List.find?_some h
    have h2 := List.mem_of_find?_eq_some h
    rw [List.mem_range'_1] at h2
    obtain ⟨j, rfl⟩ : ∃ j, i = 8 * k + j := ⟨i - 8 * k, by omega⟩
    refine .inr ⟨?_, j, by omega, h1, rfl⟩
    cases hn : nob (sb ts k)
    · rfl
    · have := (nob_iff _).1 hn j (by omega)
      unfold sb at this
      rw [this] at h1
      cases h1
theorem om_mine {ws ow : Nat → List Int} {ts : Nat → Bool} {m : Nat} (h : Ag ws ow ts m) (z : List Int) (k : Nat) (hk : k < m) : om ws ts z k = mine ow ts z k := by
  unfold om mine
  rcases fo_cases ts k with ⟨h1, h2⟩ | ⟨h1, j, hj, ht, h2⟩
  · rw [h1, h2]; simp [ome]
  · rw [h1, h2]
    show eqz (ws (8 * k + j)) z = _
    rw [eqz_congr (h k hk j hj ht) z]
    simp
theorem fx_spec {t : Nat → Bool} {j : Nat} (h : fx t = some j) : j < 8 ∧ t j = false ∧ ∀ i, i < j → t i = true := by
  unfold fx at h
  rw [List.find?_range_eq_some] at h
  obtain ⟨h1, h2, h3⟩ := h
  exact ⟨List.mem_range.1 h2, by simpa using h1, fun i hi => by simpa using h3 i hi⟩
theorem fx_spec0 {t : Nat → Bool} (h : fx t = none) (j : Nat) (hj : j < 8) : t j = true := by
  unfold fx at h
  rw [List.find?_eq_none] at h
  simpa using h j (List.mem_range.2 hj)
theorem find_blocks (f : Nat → Bool) (a : Nat → Bool) (ts : Nat → Bool) (m : Nat) (hf : ∀ k, k < m → ∀ j, j < 8 → f (8 * k + j) = (!ts (8 * k + j) && a k)) :
    ((List.range m).find? (fun k => a k && (fx (sb ts k)).isSome) = none ∧ (List.range (8 * m)).find? f = none) ∨
    ∃ k j, k < m ∧ j < 8 ∧ a k = true ∧ (List.range m).find? (fun k => a k && (fx (sb ts k)).isSome) = some k ∧ fx (sb ts k) = some j ∧ (List.range (8 * m)).find? f = some (8 * k + j) := by
  have hno : ∀ k, k < m → (a k && (fx (sb ts k)).isSome) = false → ∀ j, j < 8 → f (8 * k + j) = false := by
    intro k hk h j hj
    rw [hf k hk j hj]
    cases ha : a k
    · simp
    · rw [ha] at h
      cases hx : fx (sb ts k) with
      | none => have := fx_spec0 hx j hj; unfold sb at this; rw [this]; rfl
      | some i => rw [hx] at h; cases h
  cases h : (List.range m).find? (fun k => a k && (fx (sb ts k)).isSome) with
  | none =>
    refine .inl ⟨rfl, find_none fun i hi => ?_⟩
    rw [List.find?_eq_none] at h
    have h1 := h (i / 8) (List.mem_range.2 (by omega))
    have := hno (i / 8) (by omega) (by simpa using h1) (i % 8) (by omega)
    rwa [show 8 * (i / 8) + i % 8 = i by omega] at this
  | some k =>
    rw [List.find?_range_eq_some] at h
    obtain ⟨h1, h2, h3⟩ := h
    have hk := List.mem_range.1 h2
    rw [Bool.and_eq_true] at h1
    obtain ⟨j, hj⟩ := Option.isSome_iff_exists.1 h1.2
    obtain ⟨j1, j2, j3⟩ := fx_spec hj
    refine .inr ⟨k, j, hk, j1, h1.1, rfl, hj, find_some (by omega) ?_ fun i hi => ?_⟩
    · rw [hf k hk j j1, h1.1]
      unfold sb at j2
      rw [j2]
      rfl
    · by_cases e : i / 8 = k
      · have h5 := j3 (i % 8) (by omega)
        unfold sb at h5
        have h6 := hf k hk (i % 8) (by omega)
        rw [show 8 * k + i % 8 = i by omega] at h5 h6
        rw [h6, h5]
        rfl
      · have h4 := h3 (i / 8) (by omega)
        have := hno (i / 8) (by omega) (by simpa only [Bool.not_eq_true'] using h4) (i % 8) (by omega)
        rwa [show 8 * (i / 8) + i % 8 = i by omega] at this
theorem tk_rm {ws ow : Nat → List Int} {ts : Nat → Bool} {m : Nat} (h : Ag ws ow ts m) (z : List Int) :
    (tk ws ts z (8 * m) = none ∧ rm ow ts z m = none) ∨ ∃ k j, k < m ∧ j < 8 ∧ (mine ow ts z k = true ∨ nob (sb ts k) = true) ∧ rm ow ts z m = some k ∧ fx (sb ts k) = some j ∧ tk ws ts z (8 * m) = some (8 * k + j) := by
  have e0 : r0 ow ts z = fun k => mine ow ts z k && (fx (sb ts k)).isSome := rfl
  have e1 : r1 ts = fun k => nob (sb ts k) && (fx (sb ts k)).isSome := by
    funext k
    unfold r1
    cases hn : nob (sb ts k)
    · rfl
    · rw [fx_some (t := sb ts k) (i := 0) (by omega) ((nob_iff _).1 hn 0 (by omega)) (fun j hj => absurd hj (by omega))]
      rfl
  have hd : ∀ k j : Nat, j < 8 → (8 * k + j) / 8 = k := fun k j hj => by omega
  unfold tk rm
  rw [e0, e1]
  rcases find_blocks (f0 ws ts z) (mine ow ts z) ts m (fun k hk j hj => by unfold f0; rw [hd k j hj, om_mine h z k hk]) with ⟨a1, a2⟩ | ⟨k, j, hk, hj, a0, a1, a2, a3⟩
  · rw [a1, a2]
    rcases find_blocks (f1 ts) (fun k => nob (sb ts k)) ts m (fun k hk j hj => by
      unfold f1
      rw [hd k j hj]
      rcases fo_cases ts k with ⟨h1, h2⟩ | ⟨h1, _, _, _, h2⟩ <;> rw [h1, h2] <;> rfl) with ⟨b1, b2⟩ | ⟨k, j, hk, hj, b0, b1, b2, b3⟩
    · rw [b1, b2]; exact .inl ⟨rfl, rfl⟩
    · rw [b1, b3]
      exact .inr ⟨k, j, hk, hj, .inr b0, rfl, b2, rfl⟩
  · rw [a1, a3]
    exact .inr ⟨k, j, hk, hj, .inl a0, rfl, a2, rfl⟩
theorem Ag.take {ws ow : Nat → List Int} {ts : Nat → Bool} {m : Nat} (h : Ag ws ow ts m) (z : List Int) (k j : Nat) (hj : j < 8) (hm : mine ow ts z k = true ∨ nob (sb ts k) = true) : Ag (upd ws (8 * k + j) z) (upd ow k z) (upd ts (8 * k + j) true) m := by
  intro k' hk' j' hj' ht
  unfold upd at ht ⊢
  by_cases e : 8 * k' + j' = 8 * k + j
  · have : k' = k := by omega
    rw [if_pos e, if_pos this]
  · rw [if_neg e] at ht ⊢
    have h1 := h k' hk' j' hj' ht
    by_cases ek : k' = k
    · subst ek
      rw [if_pos rfl, h1]
      rcases hm with hm | hm
      · unfold mine at hm
        rw [Bool.and_eq_true] at hm
        exact eqz_six hm.1
      · have := (nob_iff _).1 hm j' hj'
        unfold sb at this
        rw [this] at ht
        cases ht
    · rw [if_neg ek]; exact h1
theorem Ag.give {ws ow : Nat → List Int} {ts : Nat → Bool} {m : Nat} (h : Ag ws ow ts m) (k j : Nat) : Ag ws (gv ow (upd ts (8 * k + j) false) k) (upd ts (8 * k + j) false) m := by
  intro k' hk' j' hj' ht
  have ht0 : ts (8 * k' + j') = true := by
    unfold upd at ht
    by_cases e : 8 * k' + j' = 8 * k + j
    · rw [if_pos e] at ht; cases ht
    · rwa [if_neg e] at ht
  rw [h k' hk' j' hj' ht0]
  unfold gv
  split
  · rename_i hn
    by_cases ek : k' = k
    · subst ek
      have := (nob_iff _).1 hn j' hj'
      unfold sb at this
      rw [this] at ht
      cases ht
    · unfold upd; rw [if_neg ek]
  · rfl
end Go.Proofs.YtkhahbghmdccaaaGreatDoor
