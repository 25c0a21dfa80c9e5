/- The program's block of ports: who has it, and which of its ports are taken; isNobodys and isOf by contracts. The first port of a block that is not taken: Index, Contains and isFull by contracts. The program's ports as they lie in the heap: a row of blocks, and the block that holds it; roomFor by a contract. The program's find, Owner and Give of a port, by contracts. -/
import Derived.Test.YtkhahbghmdccaaaGreatDoorF22
import Derived.Test.YtkhahbghmdccaaaGreatDoorProg
import Derived.Deep.MidRow
import Derived.Laws.ResultCell
import Derived.Deep.CutBlock
import Derived.Deep.QuietTactic
import Derived.OwnWalk
import Derived.Deep.RegionHeld3
import Derived.Deep.DrawnRows
import Derived.WalkKit
import Derived.LaidEql
import Derived.BigQuiet
import Derived.Below
import Derived.Laws.AppendOwnNone
import Derived.Laws.MakeOwn
import Derived.Deep.RegionLaw
import Derived.Test.YtkhahbghmdccaaaGreatDoorF07
namespace Go.Proofs.YtkhahbghmdccaaaGreatDoor
open Go.RowKit
def pbC (z : List Int) (t : Nat → Bool) : Array Value := #[.int .i64 (el z 0), .int .i64 (el z 1), .int .i64 (el z 2), .int .i64 (el z 3), .int .i64 (el z 4), .int .i64 (el z 5), .int .i64 (el z 6), .int .i64 (el z 7), .bool (t 0), .bool (t 1), .bool (t 2), .bool (t 3), .bool (t 4), .bool (t 5), .bool (t 6), .bool (t 7)]
def tbC (t : Nat → Bool) : Array Value := #[.bool (t 0), .bool (t 1), .bool (t 2), .bool (t 3), .bool (t 4), .bool (t 5), .bool (t 6), .bool (t 7)]
theorem pbC_six (z : List Int) (t : Nat → Bool) (j : Nat) (hj : j < 8) : (pbC z t)[j]? = some (.int .i64 (el z j)) := by
  rcases (by omega : j = 0 ∨ j = 1 ∨ j = 2 ∨ j = 3 ∨ j = 4 ∨ j = 5 ∨ j = 6 ∨ j = 7) with rfl | rfl | rfl | rfl | rfl | rfl | rfl | rfl <;> rfl
theorem pbC_boo (z : List Int) (t : Nat → Bool) (j : Nat) (hj : j < 8) : (pbC z t)[8 + j]? = some (.bool (t j)) := by
  rcases (by omega : j = 0 ∨ j = 1 ∨ j = 2 ∨ j = 3 ∨ j = 4 ∨ j = 5 ∨ j = 6 ∨ j = 7) with rfl | rfl | rfl | rfl | rfl | rfl | rfl | rfl <;> rfl
theorem tbC_at (t : Nat → Bool) (j : Nat) (hj : j < 8) : (tbC t)[j]? = some (.bool (t j)) := by
  rcases (by omega : j = 0 ∨ j = 1 ∨ j = 2 ∨ j = 3 ∨ j = 4 ∨ j = 5 ∨ j = 6 ∨ j = 7) with rfl | rfl | rfl | rfl | rfl | rfl | rfl | rfl <;> rfl
def PbIn (B : Nat) (z : List Int) (t : Nat → Bool) (w : World) : Prop := w.heap[B]? = some (.cells (pbC z t) 297 (0, 0))
theorem PbIn.lt {B : Nat} {z : List Int} {t : Nat → Bool} {w : World} (p : PbIn B z t w) : B < w.heap.size := (Array.getElem?_eq_some_iff.1 p).1
theorem PbIn.kept {B : Nat} {z : List Int} {t : Nat → Bool} {w w' : World} (p : PbIn B z t w) (hb : Below w.heap.size w w') : PbIn B z t w' := (hb.block B p.lt).trans p
theorem pb_new (z : List Int) (t : Nat → Bool) (w : World) : PbIn w.heap.size z t (w.alloc (.cells (pbC z t) 297)) := heap_alloc_new w _
theorem PbIn.six {B : Nat} {z : List Int} {t : Nat → Bool} {w : World} (p : PbIn B z t w) : w.rangeAt B 0 (sixC z).toList := by
  intro j v hv
  have hj : j < 8 := (List.getElem?_eq_some_iff.1 hv).1
  rw [Nat.zero_add, cell_of_row w B j _ _ _ p, pbC_six z t j hj, ← sixC_at z j hj]
  simpa using hv
theorem PbIn.boo {B : Nat} {z : List Int} {t : Nat → Bool} {w : World} (p : PbIn B z t w) : w.rangeAt B 8 (tbC t).toList := by
  intro j v hv
  have hj : j < 8 := (List.getElem?_eq_some_iff.1 hv).1
  rw [cell_of_row w B (8 + j) _ _ _ p, pbC_boo z t j hj, ← tbC_at t j hj]
  simpa using hv
theorem PbIn.bit {B : Nat} {z : List Int} {t : Nat → Bool} {w : World} (p : PbIn B z t w) (j : Nat) (hj : j < 8) : w.cell? ⟨B, 8 + j, none⟩ = some (.bool (t j)) := (cell_of_row w B (8 + j) _ _ _ p).trans (pbC_boo z t j hj)
def pload (x : Value) : Sem Value := Instr.loadAt 297 x
theorem pload_shut (x : Value) : Instr.loadAt 297 x = pload x := rfl
theorem PbIn.all {B : Nat} {z : List Int} {t : Nat → Bool} {w : World} (p : PbIn B z t w) : w.rangeAt B 0 (pbC z t).toList := by
  intro j v hv
  rw [Nat.zero_add, cell_of_row w B j _ _ _ p]
  simpa using hv
theorem PbIn.pl {B : Nat} {z : List Int} {t : Nat → Bool} {w : World} (p : PbIn B z t w) : (pload (.pointer (some ⟨B, 0, none⟩))).run Tryz.prog w = .ok (.agg (pbC z t)) w :=
  run_loadAt_mid w B 0 297 (pbC z t).toList _ p.all Tryz.underlying297 rfl (by kernel_rfl)
theorem at_pbT {ops : Array Oper} {rest : List Oper} {o : Oper} {f : Act} {w : World} {Q : Exit → Act → World → Prop} (hgd : o.guard = none) (x : Operand) (ho : o.op = .load 295 x)
    {B : Nat} {z : List Int} {t : Nat → Bool} (hx : f.eval x = .pointer (some ⟨B, 8, none⟩)) (p : PbIn B z t w)
    (hK : wpList Tryz.prog ops Q rest (f.put o.dst (.agg (tbC t))) w) : wpList Tryz.prog ops Q (o :: rest) f w :=
  wpList_load_mid hgd 295 x ho B 8 hx (tbC t).toList _ p.boo Tryz.underlying295 rfl (by kernel_rfl) hK
theorem at_pbW {ops : Array Oper} {rest : List Oper} {o : Oper} {f : Act} {w : World} {Q : Exit → Act → World → Prop} (hgd : o.guard = none) (x : Operand) (ho : o.op = .load 23 x)
    {B : Nat} {z : List Int} {t : Nat → Bool} (hx : f.eval x = .pointer (some ⟨B, 0, none⟩)) (p : PbIn B z t w)
    (hK : wpList Tryz.prog ops Q rest (f.put o.dst (.agg (sixC z))) w) : wpList Tryz.prog ops Q (o :: rest) f w :=
  wpList_load_mid hgd 23 x ho B 0 hx (sixC z).toList _ p.six Tryz.underlying23 rfl (by kernel_rfl) hK
def nob (t : Nat → Bool) : Bool := !t 0 && !t 1 && !t 2 && !t 3 && !t 4 && !t 5 && !t 6 && !t 7
theorem nob_iff (t : Nat → Bool) : nob t = true ↔ ∀ j, j < 8 → t j = false := by
  unfold nob
  simp only [Bool.and_eq_true, Bool.not_eq_true']
  refine ⟨fun ⟨⟨⟨⟨⟨⟨⟨h0, h1⟩, h2⟩, h3⟩, h4⟩, h5⟩, h6⟩, h7⟩ j hj => ?_, fun h => ⟨⟨⟨⟨⟨⟨⟨h 0 (by omega), h 1 (by omega)⟩, h 2 (by omega)⟩, h 3 (by omega)⟩, h 4 (by omega)⟩, h 5 (by omega)⟩, h 6 (by omega)⟩, h 7 (by omega)⟩⟩
  rcases (by omega : j = 0 ∨ j = 1 ∨ j = 2 ∨ j = 3 ∨ j = 4 ∨ j = 5 ∨ j = 6 ∨ j = 7) with rfl | rfl | rfl | rfl | rfl | rfl | rfl | rfl <;> assumption
set_option maxHeartbeats 4000000 in
set_option maxRecDepth 100000 in
theorem eq_boo (x0 x1 x2 x3 x4 x5 x6 x7 : Bool) (w : World) : (Op.equalIn 10000 295 (.agg #[.bool x0, .bool x1, .bool x2, .bool x3, .bool x4, .bool x5, .bool x6, .bool x7]) (.agg #[.bool false, .bool false, .bool false, .bool false, .bool false, .bool false, .bool false, .bool false])).run Tryz.prog w = .ok (!x0 && !x1 && !x2 && !x3 && !x4 && !x5 && !x6 && !x7) w := by
  have u3 := Tryz.underlying4
  have a3 := Tryz.isAgg4
  have z3 := Tryz.sizeOf4
  rw [show (10000 : Nat) = 9999 + 1 from rfl, Op.equalIn]
  simp only [Sem.run_bind, run_underlying Tryz.underlying295, Result.andThen_ok]
  simp only [Std.Legacy.Range.forIn_eq_forIn_range', Std.Legacy.Range.size, Nat.sub_zero, Nat.add_sub_cancel, Nat.div_one, List.range'_succ, List.range'_zero, List.forIn_cons, List.forIn_nil]
  go_simp
  cases x0
  case true => simp
  cases x1
  case true => simp
  cases x2
  case true => simp
  cases x3
  case true => simp
  cases x4
  case true => simp
  cases x5
  case true => simp
  cases x6
  case true => simp
  cases x7
  case true => simp
  simp
theorem eq_tb (t : Nat → Bool) (w : World) : (Op.equalIn 10000 295 (.agg (tbC t)) (.agg #[.bool false, .bool false, .bool false, .bool false, .bool false, .bool false, .bool false, .bool false])).run Tryz.prog w = .ok (nob t) w := eq_boo _ _ _ _ _ _ _ _ w
set_option maxRecDepth 100000 in
set_option maxHeartbeats 1000000 in
theorem nob_any (z : List Int) (t : Nat → Bool) (w : World) : Calls Tryz.prog 214 #[.agg (pbC z t)] w fun e w' => e = .returned (.bool (nob t)) ∧ Below w.heap.size w w' := by
  have HB := hide (al_below w (.cells (pbC z t) 297))
  have HP := hide (pb_new z t w)
  have q := eq_tb t
  go_enter Tryz.func214, Tryz.ntmps214
  go_upto_region 1 with fail
  generalize w.alloc _ = W at HB HP ⊢
  go_wp2_with (refine at_pbT rfl (.tmp 3) rfl rfl HP.out ?_)
  go_ret
  exact ⟨rfl, HB.out⟩
attribute [local go_sem ↓] pload_shut
set_option maxRecDepth 100000 in
set_option maxHeartbeats 1000000 in
theorem isof_any (z : List Int) (t : Nat → Bool) (a : List Int) (w : World) : Calls Tryz.prog 225 #[.agg (pbC z t), .agg (sixC a)] w fun e w' => e = .returned (.bool (eqz z a && !nob t)) ∧ Below w.heap.size w w' := by
  have b1 := al_below w (.cells (pbC z t) 297)
  have b2 := al_below (w.alloc (.cells (pbC z t) 297)) (.cells (sixC a) 23)
  have HB := hide (bt b1 b2)
  have HP := hide ((pb_new z t w).kept b2)
  have HA := hide (show SixIn (w.heap.size + 1) a ((w.alloc (.cells (pbC z t) 297)).alloc (.cells (sixC a) 23)) by have := six_new a (w.alloc (.cells (pbC z t) 297)); rw [World.size_alloc] at this; exact this)
  have HN := hide (nob_any z t)
  have q : ∀ w, (Op.equalIn 10000 23 (.agg (sixC z)) (.agg (sixC a))).run Tryz.prog w = .ok (eqz z a) w := eq_six z a
  generalize eqz z a = b at q ⊢
  clear b1 b2
  go_enter Tryz.func225, Tryz.ntmps225
  go_upto_region 1 with fail
  generalize (w.alloc _).alloc _ = W at HB HP HA ⊢
  cases b
  · go_wp2_with (first
      | (refine at_pbW rfl (.tmp 5) rfl rfl HP.out ?_)
      | (refine at_load6 rfl (.tmp 3) rfl rfl HA.out ?_))
    go_ret
    exact ⟨rfl, HB.out⟩
  · have g1 := HP.out.pl
    go_wp2_with (first
      | (refine at_pbW rfl (.tmp 5) rfl rfl HP.out ?_)
      | (refine at_load6 rfl (.tmp 3) rfl rfl HA.out ?_)
      | (go_at_call 214; refine (HN.out _).mono ?_; rintro e w1 ⟨rfl, hb1⟩; replace HB := hide (bt HB.out hb1); clear hb1))
    go_ret
    exact ⟨rfl, HB.out⟩
end Go.Proofs.YtkhahbghmdccaaaGreatDoor

namespace Go.Proofs.YtkhahbghmdccaaaGreatDoor
open Go.RowKit
def fx (t : Nat → Bool) : Option Nat := (List.range 8).find? fun j => !t j
def fi (o : Option Nat) : Int := match o with | some i => i | none => -1
theorem fx_none {t : Nat → Bool} (h : ∀ j, j < 8 → t j = true) : fx t = none := find_none fun j hj => by rw [h j hj]; rfl
theorem fx_some {t : Nat → Bool} {i : Nat} (hi : i < 8) (h3 : t i = false) (h : ∀ j, j < i → t j = true) : fx t = some i := find_some hi (by rw [h3]; rfl) fun j hj => by rw [h j hj]; rfl
set_option maxRecDepth 100000 in
set_option maxHeartbeats 1000000 in
theorem index_any (g off : Nat) (t : Nat → Bool) (w : World) (hc : ∀ j, j < 8 → w.cell? ⟨g, off + j, none⟩ = some (.bool (t j))) : Calls Tryz.prog 204 #[.slice (some ⟨g, off, none⟩) 8 8, .bool false] w fun e w' => e = .returned (.int .i64 (fi (fx t))) ∧ w' = w := by
  have HC := hide hc
  clear hc
  go_enter Tryz.func204, Tryz.ntmps204
  go_wp2
  go_loop [8] (fun v => ∃ k : Nat, k ≤ 8 ∧ v = .int .i64 k ∧ Hid (∀ j, j < k → t j = true)) (fun v => 8 - (intOf v).toNat)
  case atStart => exact ⟨0, by omega, rfl, fun j h => absurd h (by omega)⟩
  case round =>
    obtain ⟨k, hk, rfl, HI⟩ := hrel
    by_cases hlt : k < 8
    · have c1 := HC.out k hlt
      have j1 : (k : Int) < 8 := by omega
      cases ht : t k
      · rw [ht] at c1
        have HE := hide (fx_some hlt ht HI.out)
        clear ht
        go_wp2
        go_ret
        rw [HE.out]
        exact ⟨rfl, rfl⟩
      · rw [ht] at c1
        have HT := hide ht
        clear ht
        go_wp2
        go_round
        case rel => exact ⟨k + 1, by omega, by go_num, fun j hj => if e : j = k then by rw [e]; exact HT.out else HI.out j (by omega)⟩
        case measure => simp [intOf]; omega
    · obtain rfl : k = 8 := by omega
      go_wp2
      go_ret
      rw [fx_none HI.out]
      exact ⟨rfl, rfl⟩
theorem fi_neg (o : Option Nat) : decide (0 ≤ fi o) = o.isSome := by
  cases o with
  | none => rfl
  | some i => unfold fi; simp
set_option maxRecDepth 100000 in
set_option maxHeartbeats 1000000 in
theorem contains_any (g off : Nat) (t : Nat → Bool) (w : World) (hc : ∀ j, j < 8 → w.cell? ⟨g, off + j, none⟩ = some (.bool (t j))) : Calls Tryz.prog 233 #[.slice (some ⟨g, off, none⟩) 8 8, .bool false] w fun e w' => e = .returned (.bool (fx t).isSome) ∧ w' = w := by
  have H := hide (index_any g off t w hc)
  have hf := fi_neg (fx t)
  clear hc
  generalize fx t = o at H hf ⊢
  generalize fi o = x at H hf
  go_enter Tryz.func233, Tryz.ntmps233
  go_wp2_with (go_at_call 204; refine H.out.mono ?_; rintro e w' ⟨rfl, rfl⟩)
  go_ret
  exact ⟨by rw [← hf]; rfl, rfl⟩
set_option maxRecDepth 100000 in
set_option maxHeartbeats 1000000 in
theorem isfull_any (z : List Int) (t : Nat → Bool) (w : World) : Calls Tryz.prog 226 #[.agg (pbC z t)] w fun e w' => e = .returned (.bool (fx t).isNone) ∧ Below w.heap.size w w' := by
  have HB := hide (al_below w (.cells (pbC z t) 297))
  have HP := hide (pb_new z t w)
  go_enter Tryz.func226, Tryz.ntmps226
  go_upto_region 1 with fail
  generalize w.alloc _ = W at HB HP ⊢
  go_wp2_with (go_at_call 233; refine (contains_any w.heap.size 8 t _ (fun j hj => HP.out.bit j hj)).mono ?_; rintro e w1 ⟨rfl, rfl⟩)
  go_ret
  exact ⟨rfl, HB.out⟩
end Go.Proofs.YtkhahbghmdccaaaGreatDoor

namespace Go.Proofs.YtkhahbghmdccaaaGreatDoor
open Go.RowKit
def sb (ts : Nat → Bool) (k : Nat) : Nat → Bool := fun j => ts (8 * k + j)
def BRow (B m : Nat) (ow : Nat → List Int) (ts : Nat → Bool) (w : World) : Prop := ∃ cs : Array Value, w.heap[B]? = some (.cells cs 297 (0, 0)) ∧ cs.size = 16 * m ∧ ∀ k, k < m → ∀ j, j < 8 → cs[16 * k + j]? = some (.int .i64 (el (ow k) j)) ∧ cs[16 * k + 8 + j]? = some (.bool (ts (8 * k + j)))
theorem BRow.lt {B m : Nat} {ow : Nat → List Int} {ts : Nat → Bool} {w : World} (h : BRow B m ow ts w) : B < w.heap.size := by obtain ⟨cs, h1, _⟩ := h; exact (Array.getElem?_eq_some_iff.1 h1).1
theorem BRow.same {B m : Nat} {ow : Nat → List Int} {ts : Nat → Bool} {w w' : World} (h : BRow B m ow ts w) (e : w'.heap[B]? = w.heap[B]?) : BRow B m ow ts w' := by obtain ⟨cs, h1, h2⟩ := h; exact ⟨cs, e.trans h1, h2⟩
theorem BRow.bit {B m : Nat} {ow : Nat → List Int} {ts : Nat → Bool} {w : World} (h : BRow B m ow ts w) (k : Nat) (hk : k < m) (j : Nat) (hj : j < 8) : w.cell? ⟨B, 16 * k + 8 + j, none⟩ = some (.bool (ts (8 * k + j))) ∧ w.frozen? ⟨B, 16 * k + 8 + j, none⟩ = false := by
  obtain ⟨cs, h1, h2, h3⟩ := h
  exact ⟨by rw [cell_of_row w B _ _ _ _ h1]; exact (h3 k hk j hj).2, by simp [World.frozen?, h1]⟩
theorem BRow.who {B m : Nat} {ow : Nat → List Int} {ts : Nat → Bool} {w : World} (h : BRow B m ow ts w) (k : Nat) (hk : k < m) : w.rangeAt B (16 * k) (sixC (ow k)).toList := by
  obtain ⟨cs, h1, h2, h3⟩ := h
  intro j v hv
  have hj : j < 8 := (List.getElem?_eq_some_iff.1 hv).1
  rw [cell_of_row w B (16 * k + j) _ _ _ h1, (h3 k hk j hj).1, ← sixC_at (ow k) j hj]
  simpa using hv
theorem BRow.all {B m : Nat} {ow : Nat → List Int} {ts : Nat → Bool} {w : World} (h : BRow B m ow ts w) (k : Nat) (hk : k < m) : w.rangeAt B (16 * k) (pbC (ow k) (sb ts k)).toList := by
  obtain ⟨cs, h1, h2, h3⟩ := h
  intro j v hv
  have hj : j < 16 := (List.getElem?_eq_some_iff.1 hv).1
  have hv' : (pbC (ow k) (sb ts k))[j]? = some v := by simpa using hv
  rw [cell_of_row w B (16 * k + j) _ _ _ h1]
  by_cases h8 : j < 8
  · rw [(h3 k hk j h8).1, ← hv', pbC_six _ _ j h8]
  · obtain ⟨i, rfl⟩ : ∃ i, j = 8 + i := ⟨j - 8, by omega⟩
    rw [← Nat.add_assoc, (h3 k hk i (by omega)).2, ← hv', pbC_boo _ _ i (by omega)]
    rfl
theorem at_brow {ops : Array Oper} {rest : List Oper} {o : Oper} {f : Act} {w : World} {Q : Exit → Act → World → Prop} (hgd : o.guard = none) (x : Operand) (ho : o.op = .load 297 x)
    {B m : Nat} {ow : Nat → List Int} {ts : Nat → Bool} (k off : Nat) (hx : f.eval x = .pointer (some ⟨B, off, none⟩)) (hoff : off = 16 * k) (hk : k < m) (p : BRow B m ow ts w)
    (hK : wpList Tryz.prog ops Q rest (f.put o.dst (.agg (pbC (ow k) (sb ts k)))) w) : wpList Tryz.prog ops Q (o :: rest) f w := by
  subst hoff
  exact wpList_load_mid hgd 297 x ho B (16 * k) hx (pbC (ow k) (sb ts k)).toList _ (p.all k hk) Tryz.underlying297 rfl (by kernel_rfl) hK
theorem pb_zero (w : World) : PbIn w.heap.size [] (fun _ => false) (w.alloc (.cells #[.int .i64 0, .int .i64 0, .int .i64 0, .int .i64 0, .int .i64 0, .int .i64 0, .int .i64 0, .int .i64 0, .bool false, .bool false, .bool false, .bool false, .bool false, .bool false, .bool false, .bool false] 297)) := heap_alloc_new w _
theorem PbIn.stored {B : Nat} {z0 : List Int} {t0 : Nat → Bool} {w : World} (p : PbIn B z0 t0 w) (z : List Int) (t : Nat → Bool) : PbIn B z t (w.setRow B (pbC z t)) := setRow_heap w B _ _ _ (0, 0) p
theorem at_storepb {ops : Array Oper} {rest : List Oper} {o : Oper} {f : Act} {w : World} {Q : Exit → Act → World → Prop} (hgd : o.guard = none) (x y : Operand) (ho : o.op = .store 297 x y)
    {B : Nat} {z0 : List Int} {t0 : Nat → Bool} (hx : f.eval x = .pointer (some ⟨B, 0, none⟩)) (p : PbIn B z0 t0 w) (z : List Int) (t : Nat → Bool) (hy : f.eval y = .agg (pbC z t))
    (hK : ∀ w', PbIn B z t w' → Only B w w' → wpList Tryz.prog ops Q rest (f.put o.dst undef) w') : wpList Tryz.prog ops Q (o :: rest) f w :=
  wpList_store_row hgd 297 x y ho B _ hx hy 297 _ p (by kernel_rfl) rfl (by unfold pbC; simp [Value.oneCell']) (hK _ (p.stored z t) (only_setRow _ _ _))
def BP (B BB m : Nat) (ow : Nat → List Int) (ts : Nat → Bool) (w : World) : Prop := w.heap[B]? = some (.cells #[.slice (some ⟨BB, 0, none⟩) m m] 231 (0, 0)) ∧ BRow BB m ow ts w
theorem BP.lt {B BB m : Nat} {ow : Nat → List Int} {ts : Nat → Bool} {w : World} (h : BP B BB m ow ts w) : B < w.heap.size := (Array.getElem?_eq_some_iff.1 h.1).1
theorem BP.kept {B BB m : Nat} {ow : Nat → List Int} {ts : Nat → Bool} {w w' : World} (h : BP B BB m ow ts w) (hb : Below w.heap.size w w') : BP B BB m ow ts w' := ⟨(hb.block B h.lt).trans h.1, h.2.same (hb.block BB h.2.lt)⟩
theorem BP.row {B BB m : Nat} {ow : Nat → List Int} {ts : Nat → Bool} {w : World} (h : BP B BB m ow ts w) : w.cell? ⟨B, 0, none⟩ = some (.slice (some ⟨BB, 0, none⟩) m m) := cell_of_row w B 0 _ _ _ h.1
theorem BP.ne {B BB m : Nat} {ow : Nat → List Int} {ts : Nat → Bool} {w : World} (h : BP B BB m ow ts w) : B ≠ BB := by
  rintro rfl
  obtain ⟨h1, cs, h2, _⟩ := h
  rw [h1] at h2
  cases h2
def Kp (w : World) (B BB m : Nat) (ow : Nat → List Int) (ts : Nat → Bool) (z : List Int) (W : World) : Prop := BP B BB m ow ts W ∧ SixIn w.heap.size z W ∧ Below w.heap.size w W
theorem Kp.kept {w : World} {B BB m : Nat} {ow : Nat → List Int} {ts : Nat → Bool} {z : List Int} {W W' : World} (h : Kp w B BB m ow ts z W) (hb : Below W.heap.size W W') : Kp w B BB m ow ts z W' := ⟨h.1.kept hb, h.2.1.kept hb, bt h.2.2 hb⟩
def mine (ow : Nat → List Int) (ts : Nat → Bool) (z : List Int) (k : Nat) : Bool := eqz (ow k) z && !nob (sb ts k)
def r0 (ow : Nat → List Int) (ts : Nat → Bool) (z : List Int) (k : Nat) : Bool := mine ow ts z k && (fx (sb ts k)).isSome
def r1 (ts : Nat → Bool) (k : Nat) : Bool := nob (sb ts k)
def rm (ow : Nat → List Int) (ts : Nat → Bool) (z : List Int) (m : Nat) : Option Nat := ((List.range m).find? (r0 ow ts z)).or ((List.range m).find? (r1 ts))
theorem find_succ (f : Nat → Bool) (k : Nat) : (List.range (k + 1)).find? f = ((List.range k).find? f).or (if f k = true then some k else none) := by
  rw [List.range_succ, List.find?_append, List.find?_singleton]
theorem fi_lt (o : Option Nat) : decide (fi o < 0) = o.isNone := by
  cases o with
  | none => rfl
  | some i => unfold fi; simp
attribute [local go_sem ↓] pload_shut
set_option maxRecDepth 100000 in
set_option maxHeartbeats 4000000 in
theorem room_any (B BB m : Nat) (ow : Nat → List Int) (ts : Nat → Bool) (z : List Int) (w : World) (h : BP B BB m ow ts w) (hm : m ≤ 16) (R : Option Nat) (hR : rm ow ts z m = R) :
    Calls Tryz.prog 203 #[.pointer (some ⟨B, 0, none⟩), .agg (sixC z)] w fun e w' => e = .returned (.int .i64 (fi R)) ∧ Below w.heap.size w w' := by
  have HK := hide (show Kp w B BB m ow ts z (w.alloc (.cells (sixC z) 23)) from ⟨h.kept (al_below _ _), six_new z w, al_below _ _⟩)
  have HR := hide hR
  have hm' : (m : Int) ≤ 16 := by omega
  clear h hR
  go_enter Tryz.func203, Tryz.ntmps203
  go_upto_region 1 with fail
  generalize w.alloc _ = W at HK ⊢
  have l1 := HK.out.1.row
  go_wp2
  go_loopw [5, 13] (fun v i wr => ∃ k : Nat, k ≤ m ∧ i = .int .i64 k ∧ v = .int .i64 (fi ((List.range k).find? (r1 ts))) ∧ Hid (∀ j, j < k → r0 ow ts z j = false) ∧ Hid (Kp w B BB m ow ts z wr)) (fun _ i _ => m - (intOf i).toNat)
  case atStart => exact ⟨0, by omega, rfl, rfl, fun j h => absurd h (by omega), HK⟩
  case round =>
    clear HK l1
    obtain ⟨k, hk, rfl, rfl, HI, HV⟩ := hrel
    by_cases hlt : k < m
    · have j1 : (k : Int) < (m : Int) := by omega
      have HS := hide (find_succ (r1 ts) k)
      have hf := fi_lt ((List.range k).find? (r1 ts))
      have HX := hide (show fi ((List.range k).find? (r1 ts)) ≤ 16 by
        cases h9 : (List.range k).find? (r1 ts) with
        | none => show (-1 : Int) ≤ 16; omega
        | some i => have := List.mem_range.1 (List.mem_of_find?_eq_some h9); show ((i : Nat) : Int) ≤ 16; omega)
      go_upto_region 5 with (first
        | (refine at_brow rfl (.tmp 16) rfl k _ rfl (by omega) hlt HV.out.1.2 ?_; have hb0 := al_below wr (.cells #[.int .i64 0, .int .i64 0, .int .i64 0, .int .i64 0, .int .i64 0, .int .i64 0, .int .i64 0, .int .i64 0, .bool false, .bool false, .bool false, .bool false, .bool false, .bool false, .bool false, .bool false] 297); have HZ := hide (pb_zero wr))
        | (refine at_storepb rfl (.tmp 7) (.tmp 17) rfl rfl HZ.out (ow k) (sb ts k) rfl ?_; intro w2 p2 on2; replace HV := hide (HV.out.kept (new_below _ on2)); replace p2 := hide p2; clear on2 hb0 HZ))
      generalize wr.heap.size = B2 at p2 ⊢
      have HR0 := hide (show r0 ow ts z k = ((eqz (ow k) z && !nob (sb ts k)) && !(fx (sb ts k)).isNone) by unfold r0 mine; cases fx (sb ts k) <;> rfl)
      have HC1 := hide (fun W => isof_any (ow k) (sb ts k) z W)
      have HC2 := hide (fun W => isfull_any (ow k) (sb ts k) W)
      have HC3 := hide (fun W => nob_any (ow k) (sb ts k) W)
      have HN := hide (show r1 ts k = nob (sb ts k) from rfl)
      generalize (eqz (ow k) z && !nob (sb ts k)) = b at HC1 HR0
      generalize (fx (sb ts k)).isNone = c at HC2 HR0
      generalize nob (sb ts k) = d at HC3 HN
      generalize (List.range k).find? (r1 ts) = o at hf HS HX ⊢
      have g1 := p2.out.pl
      cases b
      · go_upto_region 7 with (first
          | (refine at_load6 rfl (.tmp 3) rfl rfl HV.out.2.1 ?_)
          | (go_at_call 225; refine (HC1.out _).mono ?_; rintro e w3 ⟨rfl, hb3⟩; replace HV := hide (HV.out.kept hb3); replace p2 := hide (p2.out.kept hb3); have g2 := p2.out.pl; clear hb3)
          | (go_at_call 226; refine (HC2.out _).mono ?_; rintro e w5 ⟨rfl, hb5⟩; replace HV := hide (HV.out.kept hb5); replace p2 := hide (p2.out.kept hb5); clear hb5))
        cases o with
        | none =>
          have hx : fi none < 0 := by decide
          generalize hxe : fi none = x at hx HX ⊢
          have HE := hide hxe
          clear hxe hf
          have g3 := p2.out.pl
          cases d
          · go_wp2_with (go_at_call 214; refine (HC3.out _).mono ?_; rintro e w4 ⟨rfl, hb4⟩; replace HV := hide (HV.out.kept hb4); clear hb4)
            go_roundw
            case rel => exact ⟨k + 1, by omega, by go_num, by rw [HS.out, HN.out, ← HE.out]; rfl, fun j hj => if e : j = k then by rw [e, HR0.out]; rfl else HI.out j (by omega), HV⟩
            case measure => simp [intOf]; omega
          · go_wp2_with (go_at_call 214; refine (HC3.out _).mono ?_; rintro e w4 ⟨rfl, hb4⟩; replace HV := hide (HV.out.kept hb4); clear hb4)
            go_roundw
            case rel => exact ⟨k + 1, by omega, by go_num, by rw [HS.out, HN.out]; rfl, fun j hj => if e : j = k then by rw [e, HR0.out]; rfl else HI.out j (by omega), HV⟩
            case measure => simp [intOf]; omega
        | some i =>
          have hx : ¬ fi (some i) < 0 := by rw [show fi (some i) = (i : Int) from rfl]; omega
          have HS2 := hide (show (List.range (k + 1)).find? (r1 ts) = some i by rw [HS.out]; rfl)
          generalize hxe : fi (some i) = x at hx HX ⊢
          have HE := hide hxe
          clear hxe hf
          go_wp2
          go_roundw
          case rel => exact ⟨k + 1, by omega, by go_num, by rw [HS2.out, ← HE.out], fun j hj => if e : j = k then by rw [e, HR0.out]; rfl else HI.out j (by omega), HV⟩
          case measure => simp [intOf]; omega
      · cases c
        · go_wp2_with (first
          | (refine at_load6 rfl (.tmp 3) rfl rfl HV.out.2.1 ?_)
          | (go_at_call 225; refine (HC1.out _).mono ?_; rintro e w3 ⟨rfl, hb3⟩; replace HV := hide (HV.out.kept hb3); replace p2 := hide (p2.out.kept hb3); have g2 := p2.out.pl; clear hb3)
          | (go_at_call 226; refine (HC2.out _).mono ?_; rintro e w5 ⟨rfl, hb5⟩; replace HV := hide (HV.out.kept hb5); replace p2 := hide (p2.out.kept hb5); clear hb5))
          go_ret
          refine ⟨?_, HV.out.2.2⟩
          rw [← HR.out]
          unfold rm
          rw [find_some hlt HR0.out HI.out]
          rfl
        · go_upto_region 7 with (first
          | (refine at_load6 rfl (.tmp 3) rfl rfl HV.out.2.1 ?_)
          | (go_at_call 225; refine (HC1.out _).mono ?_; rintro e w3 ⟨rfl, hb3⟩; replace HV := hide (HV.out.kept hb3); replace p2 := hide (p2.out.kept hb3); have g2 := p2.out.pl; clear hb3)
          | (go_at_call 226; refine (HC2.out _).mono ?_; rintro e w5 ⟨rfl, hb5⟩; replace HV := hide (HV.out.kept hb5); replace p2 := hide (p2.out.kept hb5); clear hb5))
          cases o with
          | none =>
            have hx : fi none < 0 := by decide
            generalize hxe : fi none = x at hx HX ⊢
            have HE := hide hxe
            clear hxe hf
            have g3 := p2.out.pl
            cases d
            · go_wp2_with (go_at_call 214; refine (HC3.out _).mono ?_; rintro e w4 ⟨rfl, hb4⟩; replace HV := hide (HV.out.kept hb4); clear hb4)
              go_roundw
              case rel => exact ⟨k + 1, by omega, by go_num, by rw [HS.out, HN.out, ← HE.out]; rfl, fun j hj => if e : j = k then by rw [e, HR0.out]; rfl else HI.out j (by omega), HV⟩
              case measure => simp [intOf]; omega
            · go_wp2_with (go_at_call 214; refine (HC3.out _).mono ?_; rintro e w4 ⟨rfl, hb4⟩; replace HV := hide (HV.out.kept hb4); clear hb4)
              go_roundw
              case rel => exact ⟨k + 1, by omega, by go_num, by rw [HS.out, HN.out]; rfl, fun j hj => if e : j = k then by rw [e, HR0.out]; rfl else HI.out j (by omega), HV⟩
              case measure => simp [intOf]; omega
          | some i =>
            have hx : ¬ fi (some i) < 0 := by rw [show fi (some i) = (i : Int) from rfl]; omega
            have HS2 := hide (show (List.range (k + 1)).find? (r1 ts) = some i by rw [HS.out]; rfl)
            generalize hxe : fi (some i) = x at hx HX ⊢
            have HE := hide hxe
            clear hxe hf
            go_wp2
            go_roundw
            case rel => exact ⟨k + 1, by omega, by go_num, by rw [HS2.out, ← HE.out], fun j hj => if e : j = k then by rw [e, HR0.out]; rfl else HI.out j (by omega), HV⟩
            case measure => simp [intOf]; omega
    · obtain rfl : m = k := by omega
      go_wp2
      go_ret
      refine ⟨?_, HV.out.2.2⟩
      rw [← HR.out]
      unfold rm
      rw [find_none HI.out]
      rfl
end Go.Proofs.YtkhahbghmdccaaaGreatDoor

namespace Go.Proofs.YtkhahbghmdccaaaGreatDoor
open Go.RowKit
set_option maxRecDepth 100000 in
set_option maxHeartbeats 1000000 in
theorem find_in (B BB m : Nat) (ow : Nat → List Int) (ts : Nat → Bool) (k j : Nat) (w : World) (h : BP B BB m ow ts w) (hm : m ≤ 16) (hk : k < m) (hj : j < 8) :
    Calls Tryz.prog 213 #[.pointer (some ⟨B, 0, none⟩), .int .i64 (1024 + ((8 * k + j : Nat) : Int))] w fun e w' => e = .returned (if ts (8 * k + j) = true then .tuple #[.pointer (some ⟨BB, 16 * k, none⟩), .int .i64 j] else .tuple #[.pointer none, .int .i64 0]) ∧ w' = w := by
  have l1 := h.row
  have c1 := (h.2.bit k hk j hj).1
  clear h
  have hm' : (m : Int) ≤ 16 := by omega
  obtain ⟨x, hx⟩ : ∃ x : Int, x = ((8 * k + j : Nat) : Int) := ⟨_, rfl⟩
  rw [← hx]
  have j1 : x.tdiv 8 = (k : Int) := by rw [Int.tdiv_eq_ediv_of_nonneg (by omega)]; omega
  have j2 : x.tmod 8 = (j : Int) := by rw [Int.tmod_eq_emod_of_nonneg (by omega)]; omega
  have j3 : IntKind.i64.wrap (1024 + x - 1024) = x := by rw [IntKind.wrap_i64]; omega
  have j4 : ¬ 1024 + x < 1024 := by omega
  have j5 : ¬ 1024 + (m : Int) * 8 ≤ 1024 + x := by omega
  have j6 : (k : Int) < (m : Int) := by omega
  have j7 : (j : Int) < 8 := by omega
  have e16 : k * 16 = 16 * k := by omega
  have HX := hide hx
  clear hx
  cases ht : ts (8 * k + j)
  · rw [ht] at c1
    clear ht
    go_enter Tryz.func213, Tryz.ntmps213
    go_wp2
    go_ret2
    exact ⟨rfl, rfl⟩
  · rw [ht] at c1
    clear ht
    go_enter Tryz.func213, Tryz.ntmps213
    go_wp2
    go_ret2
    exact ⟨rfl, rfl⟩
end Go.Proofs.YtkhahbghmdccaaaGreatDoor
