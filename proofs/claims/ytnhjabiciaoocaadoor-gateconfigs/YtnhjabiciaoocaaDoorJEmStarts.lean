/- The document's own Starts, by a contract. The document's own ports as they lie in the heap: a row of addresses, a row of bools, and the block that holds both. The document's own Has, Give and Free of ports, by contracts. The document's own Blocks of somebody, by a contract. The document's own Take of a port, by contracts. -/
import Derived.Test.YtnhjabiciaoocaaDoorEmSixIn
import Derived.Test.YtnhjabiciaoocaaDoorProg
import Derived.Deep.QuietTactic
import Derived.Test.YtnhjabiciaoocaaDoorS6Six
import Derived.Deep.MidRow
import Derived.Laws.ResultCell
import Derived.Deep.CutBlock
import Derived.OwnWalk
import Derived.Deep.RegionHeld3
import Derived.Deep.DrawnRows
import Derived.WalkKit
import Derived.LaidEql
import Derived.BigQuiet
import Derived.Below
import Derived.Laws.AppendOwnNone
import Derived.Laws.MakeOwn
import Derived.Deep.RegionLaw
import Derived.Test.YtnhjabiciaoocaaDoorJS6Own
import Derived.Test.YtnhjabiciaoocaaDoorJPlE
import Derived.Test.YtnhjabiciaoocaaDoorJSgEnc
namespace Go.Proofs.YtnhjabiciaoocaaDoor.Em
open Go.RowKit
theorem below_drewN {w W : World} {b : Nat} (h : Below b w W) (n : Nat) : Below b w (W.drewN n) := h.trans ⟨rfl, rfl, rfl, Nat.le_refl _, fun _ _ => rfl⟩
set_option maxHeartbeats 4000000 in
set_option maxRecDepth 100000 in
theorem starts_any (a p : List Int) (n : Int) (w : World) (ha : Ok6 a) (hp : Ok6 p) (h0 : 0 ≤ n) (h1 : n ≤ 128) : Calls Tryd.prog 15 #[six a, six p, .int .i64 n] w fun e w' => e = .returned (.bool (inF a p n)) ∧ Below w.heap.size w w' := by
  have hSa := (six_new a w).kept ((Below.refl _ _).alloc (Nat.le_refl _) (.cells #[.int .i64 (el p 0), .int .i64 (el p 1), .int .i64 (el p 2), .int .i64 (el p 3), .int .i64 (el p 4), .int .i64 (el p 5), .int .i64 (el p 6), .int .i64 (el p 7)] 23))
  have hSp := six_new p (w.alloc (.cells #[.int .i64 (el a 0), .int .i64 (el a 1), .int .i64 (el a 2), .int .i64 (el a 3), .int .i64 (el a 4), .int .i64 (el a 5), .int .i64 (el a 6), .int .i64 (el a 7)] 23))
  simp only [World.size_alloc] at hSp
  have hB : Below w.heap.size w ((w.alloc (.cells #[.int .i64 (el a 0), .int .i64 (el a 1), .int .i64 (el a 2), .int .i64 (el a 3), .int .i64 (el a 4), .int .i64 (el a 5), .int .i64 (el a 6), .int .i64 (el a 7)] 23)).alloc (.cells #[.int .i64 (el p 0), .int .i64 (el p 1), .int .i64 (el p 2), .int .i64 (el p 3), .int .i64 (el p 4), .int .i64 (el p 5), .int .i64 (el p 6), .int .i64 (el p 7)] 23)) := ((Below.refl _ _).alloc (Nat.le_refl _) _).alloc (by simp) _
  obtain ⟨r, hr⟩ : ∃ r, r = inF a p n := ⟨_, rfl⟩
  have HR := hide hr
  rw [← hr]
  clear hr
  unfold six
  go_enter Tryd.func15, Tryd.ntmps15
  go_wp2
  generalize (w.alloc (.cells #[.int .i64 (el a 0), .int .i64 (el a 1), .int .i64 (el a 2), .int .i64 (el a 3), .int .i64 (el a 4), .int .i64 (el a 5), .int .i64 (el a 6), .int .i64 (el a 7)] 23)).alloc (.cells #[.int .i64 (el p 0), .int .i64 (el p 1), .int .i64 (el p 2), .int .i64 (el p 3), .int .i64 (el p 4), .int .i64 (el p 5), .int .i64 (el p 6), .int .i64 (el p 7)] 23) = W at hSa hSp hB ⊢
  go_loopw [7] (fun t wr => ∃ k q : Nat, k ≤ 8 ∧ t = .int .i64 k ∧ Hid (∀ j, j < k → fel a n j = fel p n j) ∧ wr = W.drewN q) (fun t _ => 8 - (intOf t).toNat)
  case atStart => exact ⟨0, 0, by omega, rfl, fun j hj => absurd hj (by omega), by rw [World.drewN_zero]⟩
  case round =>
    obtain ⟨k, q, hk, rfl, HI, rfl⟩ := hrel
    by_cases hlt : k < 8
    · have ca := (hSa.facts k hlt).1
      have cp := (hSp.facts k hlt).1
      have hxa := ha k hlt
      have hxp := hp k hlt
      have HE := hide (show ∀ m : Nat, shf n k = m → (fel a n k = el a k / (2 : Int) ^ m ∧ fel p n k = el p k / (2 : Int) ^ m) from fun m hm => by unfold fel; rw [hm]; exact ⟨rfl, rfl⟩)
      have HNO := hide (show fel a n k ≠ fel p n k → r = false from fun hne => by
        rw [HR.out]
        unfold inF
        rw [List.all_eq_false]
        exact ⟨k, List.mem_range.2 hlt, by simpa using hne⟩)
      have HYES := hide (show fel a n k = fel p n k → ∀ j, j < k + 1 → fel a n j = fel p n j from fun he j hj => if h : j = k then by subst h; exact he else HI.out j (by omega))
      generalize el a k = x at ca hxa HE
      generalize el p k = y at cp hxp HE
      obtain ⟨hx0, hx1⟩ := hxa
      obtain ⟨hy0, hy1⟩ := hxp
      by_cases hd0 : n - 16 * (k : Int) < 0
      · obtain ⟨e1, e2⟩ := HE.out 16 (by unfold shf; omega)
        have e3 : x / 2 ^ 16 = 0 := by omega
        have e4 : y / 2 ^ 16 = 0 := by omega
        have HEQ := hide (HYES.out (by rw [e1, e2, e3, e4]))
        clear e1 e2 e3 e4 HE HNO HYES hSa hSp HI
        go_wp2
        go_quiet (fail)
        go_wp2_with fail
        go_roundw
        case rel => exact ⟨k + 1, q + nq, by omega, by go_num, HEQ, rfl⟩
        case measure => simp [intOf]; omega
      · by_cases hd1 : 16 < n - 16 * (k : Int)
        · obtain ⟨e1, e2⟩ := HE.out (0) (by unfold shf; omega)
          by_cases he : x = y
          · have hb : (x == y) = true := by simpa using he
            have HEQ := hide (HYES.out (by rw [e1, e2]; simpa using he))
            clear e1 e2 HE HNO HYES hSa hSp HI he
            go_wp2
            go_quiet (fail)
            go_wp2_with fail
            go_roundw
            case rel => exact ⟨k + 1, q + nq, by omega, by go_num, HEQ, rfl⟩
            case measure => simp [intOf]; omega
          · have hb : (x == y) = false := by simpa using he
            have HRF := hide (HNO.out (by rw [e1, e2]; simpa using he))
            clear e1 e2 HE HNO HYES hSa hSp HI he
            go_wp2
            go_quiet (fail)
            go_wp2_with fail
            go_ret
            exact ⟨congrArg (fun b => Ending.returned (.bool b)) HRF.out.symm, by first | exact below_drewN hB (q + nq) | exact below_drewN (below_drewN hB q) nq⟩
        · obtain ⟨e1, e2⟩ := HE.out ((16 - (n - 16 * (k : Int))).toNat) (by unfold shf; omega)
          by_cases he : x / 2 ^ (16 - (n - 16 * (k : Int))).toNat = y / 2 ^ (16 - (n - 16 * (k : Int))).toNat
          · have hb : (x / 2 ^ (16 - (n - 16 * (k : Int))).toNat == y / 2 ^ (16 - (n - 16 * (k : Int))).toNat) = true := by simpa using he
            have HEQ := hide (HYES.out (by rw [e1, e2]; simpa using he))
            clear e1 e2 HE HNO HYES hSa hSp HI he
            go_wp2
            go_quiet (fail)
            go_wp2_with fail
            go_roundw
            case rel => exact ⟨k + 1, q + nq, by omega, by go_num, HEQ, rfl⟩
            case measure => simp [intOf]; omega
          · have hb : (x / 2 ^ (16 - (n - 16 * (k : Int))).toNat == y / 2 ^ (16 - (n - 16 * (k : Int))).toNat) = false := by simpa using he
            have HRF := hide (HNO.out (by rw [e1, e2]; simpa using he))
            clear e1 e2 HE HNO HYES hSa hSp HI he
            go_wp2
            go_quiet (fail)
            go_wp2_with fail
            go_ret
            exact ⟨congrArg (fun b => Ending.returned (.bool b)) HRF.out.symm, by first | exact below_drewN hB (q + nq) | exact below_drewN (below_drewN hB q) nq⟩
    · obtain rfl : k = 8 := by omega
      have HT := hide (show r = true by
        rw [HR.out]
        unfold inF
        rw [List.all_eq_true]
        intro j hj
        simpa using HI.out j (List.mem_range.1 hj))
      go_wp2
      go_ret
      exact ⟨congrArg (fun b => Ending.returned (.bool b)) HT.out.symm, below_drewN hB q⟩
end Go.Proofs.YtnhjabiciaoocaaDoor.Em

namespace Go.Proofs.YtnhjabiciaoocaaDoor
open Go.RowKit
theorem SixIn.stored {B : Nat} {z0 : List Int} {w : World} (p : SixIn B z0 w) (z : List Int) : SixIn B z (w.setRow B (sixC z)) := setRow_heap w B _ _ _ (0, 0) p
/-- the first port of a block that is taken. -/
def pofo (ts : Nat → Bool) (k : Nat) : Option Nat := (List.range' (8 * k) 8).find? ts
end Go.Proofs.YtnhjabiciaoocaaDoor

namespace Go.Proofs.YtnhjabiciaoocaaDoor
open Go.RowKit
/-- nothing that was there has turned but the blocks that are told. -/
def Fr (O : Nat → Prop) (w w' : World) : Prop := w'.os = w.os ∧ w'.tape = w.tape ∧ w'.output = w.output ∧ w.heap.size ≤ w'.heap.size ∧ ∀ g, g < w.heap.size → ¬ O g → w'.heap[g]? = w.heap[g]?
theorem Fr.refl (O : Nat → Prop) (w : World) : Fr O w w := ⟨rfl, rfl, rfl, Nat.le_refl _, fun _ _ _ => rfl⟩
theorem Fr.of {O : Nat → Prop} {w w' : World} (h : Below w.heap.size w w') : Fr O w w' := ⟨h.os, h.tape, h.output, h.size, fun g hg _ => h.block g hg⟩
theorem Fr.trans {O : Nat → Prop} {a b c : World} (h1 : Fr O a b) (h2 : Fr O b c) : Fr O a c :=
  ⟨h2.1.trans h1.1, h2.2.1.trans h1.2.1, h2.2.2.1.trans h1.2.2.1, Nat.le_trans h1.2.2.2.1 h2.2.2.2.1, fun g hg hO => (h2.2.2.2.2 g (Nat.lt_of_lt_of_le hg h1.2.2.2.1) hO).trans (h1.2.2.2.2 g hg hO)⟩
theorem Fr.mono {O O' : Nat → Prop} {w w' : World} (h : Fr O w w') (hO : ∀ g, O g → O' g) : Fr O' w w' := ⟨h.1, h.2.1, h.2.2.1, h.2.2.2.1, fun g hg hn => h.2.2.2.2 g hg (fun ho => hn (hO g ho))⟩
theorem Fr.below {O : Nat → Prop} {base : Nat} {w0 w w' : World} (h : Fr O w w') (hb : Below base w0 w) (hO : ∀ g, O g → base ≤ g) (hs : base ≤ w.heap.size) : Below base w0 w' :=
  ⟨h.1.trans hb.os, h.2.1.trans hb.tape, h.2.2.1.trans hb.output, Nat.le_trans hb.size h.2.2.2.1, fun g hg => (h.2.2.2.2 g (Nat.lt_of_lt_of_le hg hs) (fun ho => absurd (hO g ho) (by omega))).trans (hb.block g hg)⟩
def upd {α : Type} (f : Nat → α) (i : Nat) (x : α) : Nat → α := fun j => if j = i then x else f j
/-- is a port taken? -/
def hs (ts : Nat → Bool) (n : Nat) (p : Int) : Bool := decide (1024 ≤ p) && (decide (p < 1024 + (n : Int)) && ts (p - 1024).toNat)
end Go.Proofs.YtnhjabiciaoocaaDoor

namespace Go.Proofs.YtnhjabiciaoocaaDoor
open Go.RowKit
/-- is a block somebody's? -/
def ome (ws : Nat → List Int) (z : List Int) (o : Option Nat) : Bool := match o with | some i => eqz (ws i) z | none => false
def om (ws : Nat → List Int) (ts : Nat → Bool) (z : List Int) (k : Nat) : Bool := ome ws z (pofo ts k)
/-- the numbers of somebody's blocks. -/
def bl (ws : Nat → List Int) (ts : Nat → Bool) (z : List Int) : Nat → List Nat
  | 0 => []
  | k + 1 => bl ws ts z k ++ (if om ws ts z k = true then [k] else [])
attribute [local go_sem ↓] hload_shut
end Go.Proofs.YtnhjabiciaoocaaDoor

namespace Go.Proofs.YtnhjabiciaoocaaDoor
open Go.RowKit
theorem setCells_row (b : Nat) (t : TypeId) : ∀ (vs : List Value) (o : Nat) (w : World) (cs : Array Value), w.heap[b]? = some (.cells cs t (0, 0)) →
    ∃ cs' : Array Value, (w.setCells b o vs).heap[b]? = some (.cells cs' t (0, 0)) ∧ cs'.size = cs.size ∧ ∀ j, j < cs.size → cs'[j]? = if o ≤ j ∧ j < o + vs.length then vs[j - o]? else cs[j]?
  | [], o, w, cs, h => ⟨cs, h, rfl, fun j _ => by rw [if_neg (by simp)]⟩
  | v :: r, o, w, cs, h => by
    have h1 : (w.setCell ⟨b, o, none⟩ v).heap[b]? = some (.cells (cs.setIfInBounds o v) t (0, 0)) := by
      rw [setCell_eq_setRow w b o _ t (0, 0) v h, setRow_heap w b _ _ t (0, 0) h]
    obtain ⟨cs', e1, e2, e3⟩ := setCells_row b t r (o + 1) _ _ h1
    refine ⟨cs', e1, by rw [e2]; simp, fun j hj => ?_⟩
    rw [e3 j (by simpa using hj)]
    by_cases hjo : j = o
    · subst hjo
      rw [if_neg (by omega), if_pos (by simp), Nat.sub_self, Array.getElem?_setIfInBounds_self_of_lt hj]
      rfl
    · rw [Array.getElem?_setIfInBounds_ne (fun e => hjo e.symm)]
      by_cases hc : o + 1 ≤ j ∧ j < o + 1 + r.length
      · rw [if_pos hc, if_pos (by simp only [List.length_cons]; omega), show j - o = (j - (o + 1)) + 1 by omega]
        rfl
      · rw [if_neg hc, if_neg (by simp only [List.length_cons]; omega)]
theorem setCells_only (b : Nat) : ∀ (vs : List Value) (o : Nat) (w : World), Only b w (w.setCells b o vs)
  | [], o, w => ⟨rfl, rfl, rfl, rfl, fun _ _ => rfl⟩
  | v :: r, o, w => by
    have h := setCells_only b r (o + 1) (w.setCell ⟨b, o, none⟩ v)
    exact ⟨h.1, h.2.1, h.2.2.1, h.2.2.2.1.trans (by simp), fun g hg => (h.2.2.2.2 g hg).trans (Below.heap_setCell w ⟨b, o, none⟩ v g hg)⟩
/-- an address's store, held shut for a walk. -/
def qstore (x y : Value) : Sem Unit := Instr.storeAt 23 x y
theorem qstore_shut (x y : Value) : Instr.storeAt 23 x y = qstore x y := rfl
end Go.Proofs.YtnhjabiciaoocaaDoor
