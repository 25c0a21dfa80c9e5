/- Package seg: known and upTo, by contracts; a slice that grows; one block that has turned. -/
import Derived.Test.YtbbbcfihnjidaaaDoorShOwn
import Derived.Deep.MidRow
import Derived.Laws.ResultCell
import Derived.Deep.CutBlock
import Derived.Deep.QuietTactic
import Derived.OwnWalk
import Derived.Deep.RegionHeld3
import Derived.Deep.DrawnRows
namespace Go.Proofs.YtbbbcfihnjidaaaDoor
open Go.RowKit
theorem al_below (w : World) (o : Obj) : Below w.heap.size w (w.alloc o) := (Below.refl _ _).alloc (Nat.le_refl _) _
theorem add_at (b o j : Nat) : (⟨b, o, none⟩ : Addr).add j = ⟨b, o + j, none⟩ := by unfold Addr.add; split <;> simp_all
/-- nothing but that block has turned. -/
def Only (B : Nat) (w w' : World) : Prop := w'.os = w.os ∧ w'.tape = w.tape ∧ w'.output = w.output ∧ w'.heap.size = w.heap.size ∧ ∀ g, g ≠ B → w'.heap[g]? = w.heap[g]?
theorem Only.below {B base : Nat} {w0 w w' : World} (h : Only B w w') (hb : Below base w0 w) (hB : base ≤ B) : Below base w0 w' :=
  ⟨h.1.trans hb.os, h.2.1.trans hb.tape, h.2.2.1.trans hb.output, by rw [h.2.2.2.1]; exact hb.size, fun g hg => (h.2.2.2.2 g (by omega)).trans (hb.block g hg)⟩
theorem Only.own {B base : Nat} {w w' : World} (h : Only B w w') {v : Value} {zs : List Int} (o : Own base w v zs) (hB : B < base) : Own base w' v zs := o.heap (fun g hg _ => h.2.2.2.2 g (by omega))
theorem Only.below_of {B : Nat} {w w' : World} (h : Only B w w') : Below B w w' := h.below (Below.refl _ _) (Nat.le_refl _)
theorem only_setRow (w : World) (B : Nat) (cs : Array Value) : Only B w (w.setRow B cs) := ⟨rfl, rfl, rfl, setRow_size w B cs, fun g hg => setRow_other w B g cs hg⟩
def up (m n : Int) : Bool := decide (0 ≤ n ∧ n ≤ m)
theorem up_true {m n : Int} (h : up m n = true) : 0 ≤ n ∧ n ≤ m := of_decide_eq_true h
/-- a slice that the call has made behind the world W0; all that was there is as it was. -/
def Gr (W0 w : World) (v : Value) (zs : List Int) : Prop := Own W0.heap.size w v zs ∧ Below W0.heap.size W0 w
theorem Gr.below {W0 w w' : World} {v : Value} {zs : List Int} (h : Gr W0 w v zs) (hb : Below w.heap.size w w') : Gr W0 w' v zs := ⟨h.1.kept hb, h.2.trans (hb.mono h.2.size)⟩
theorem Gr.nil (w : World) : Gr w w (.slice none 0 0) [] := ⟨Own.nil _ _, Below.refl _ _⟩
theorem gr_make (w : World) {ops : Array Oper} {rest : List Oper} {o : Oper} {a : Act} {Q : Exit → Act → World → Prop} (hg : o.guard = none) (l c : Operand) (hop : o.op = Op.makeSlice 22 l c)
    (C : Int) (n : Nat) (hl : a.eval l = .int .i64 0) (hc : a.eval c = .int .i64 C) (hC : C = (n : Int)) (b2 : n ≤ 1000000000)
    (hK : ∀ b w', Gr w w' (.slice (some ⟨b, 0, none⟩) 0 n) [] → wpList Tryd.prog ops Q rest (a.put o.dst (.slice (some ⟨b, 0, none⟩) 0 n)) w') : wpList Tryd.prog ops Q (o :: rest) a w := by
  obtain ⟨i0, hi, hz0, hz1, hz2⟩ := info_parts Tryd.infoByte
  refine wpList_make_own w hg l c 22 hop w.heap.size 5 i0 _ 1 Tryd.underlying22 hi hz0 hz1 .i64 .i64 C n hl hc hC (by rw [hz2]; omega) (by unfold maxLen; omega) (Nat.le_refl _) ?_
  intro w' h1 h2
  exact hK _ w' ⟨⟨SM.oct_nil, h1⟩, (Below.refl _ _).grown h2 (Nat.le_refl _) (fun k h => by cases h)⟩
/-- append onto it. -/
theorem gr_app {w : World} {ops : Array Oper} {rest : List Oper} {o : Oper} {a : Act} {Q : Exit → Act → World → Prop} (hgd : o.guard = none) (s x : Operand)
    (ho : o.op = .call { callee := .builtin .append, args := #[s, x], argTypes := #[22, 22] })
    {W0 : World} {v : Value} {zs : List Int} (hs : a.eval s = v) (hg : Gr W0 w v zs) {ao : Option Addr} {len cap : Nat} {ys : List Int}
    (hx : a.eval x = .slice ao len cap) (hrow : Row8 w ao len cap ys) (hlen : zs.length + len ≤ 1000000000)
    (h : ∀ v' w', Gr W0 w' v' (zs ++ ys) → wpList Tryd.prog ops Q rest (a.put o.dst v') w') : wpList Tryd.prog ops Q (o :: rest) a w :=
  wpList_app hgd s x ho W0.heap.size v zs hs hg.1 ao len cap ys hx hrow hlen hg.2.size (fun v' w' h1 h2 => h v' w' ⟨h1, hg.2.grown h2 hg.2.size (fun k e => (hg.1.2.lt k e).1)⟩)
/-- a block of ints, all of it. -/
def Ints (B : Nat) (l : List Int) (w : World) : Prop := w.heap[B]? = some (.cells (l.map (Value.int .i64)).toArray 3 (0, 0))
theorem Ints.lt {B : Nat} {l : List Int} {w : World} (h : Ints B l w) : B < w.heap.size := (Array.getElem?_eq_some_iff.1 h).1
theorem Ints.kept {B : Nat} {l : List Int} {w w' : World} (h : Ints B l w) (hb : Below w.heap.size w w') : Ints B l w' := (hb.block B h.lt).trans h
theorem ints_new (w : World) (l : List Int) : Ints w.heap.size l (w.alloc (.cells (l.map (Value.int .i64)).toArray 3)) := heap_alloc_new w _
theorem Ints.cell {B : Nat} {l : List Int} {w : World} (h : Ints B l w) (j : Nat) (hj : j < l.length) : w.cell? ⟨B, j, none⟩ = some (.int .i64 (l.getD j 0)) := by
  unfold Ints at h
  simp [World.cell?, h, hj]
/-- a kind that is known. -/
def kn (k : Int) : Bool := k == 6 || k == 17
theorem known_any (k : Int) (w : World) : Calls Tryd.prog 32 #[.int .i64 k] w fun e w' => e = .returned (.bool (kn k)) ∧ w' = w := by
  by_cases h0 : k = 6
  · subst h0
    go_enter Tryd.func32, Tryd.ntmps32
    go_wp2
    go_ret
    exact ⟨rfl, rfl⟩
  · have e : (k == 6) = false := by simpa using h0
    rw [show kn k = (k == 17) by unfold kn; rw [e]; rfl]
    go_enter Tryd.func32, Tryd.ntmps32
    go_wp2
    go_ret
    exact ⟨rfl, rfl⟩
/-- all of these are up to m. -/
def ups (m : Int) (l : List Int) : Bool := l.all (up m)
theorem ups_iff (m : Int) (l : List Int) : ups m l = true ↔ ∀ i, i < l.length → up m (l.getD i 0) = true := by
  unfold ups
  rw [List.all_eq_true]
  constructor
  · intro h i hi
    exact h _ (by simp [List.getD_eq_getElem?_getD, hi])
  · intro h x hx
    obtain ⟨i, hi, rfl⟩ := List.mem_iff_getElem.1 hx
    have := h i hi
    simpa [List.getD_eq_getElem?_getD, hi] using this
set_option maxHeartbeats 400000 in
theorem upto_any (m : Int) (B n : Nat) (l : List Int) (w : World) (hn : l.length = n) (hm : n ≤ 1000) (hc : Ints B l w) :
    Calls Tryd.prog 33 #[.int .i64 m, .slice (some ⟨B, 0, none⟩) n n] w fun e w' => e = .returned (.bool (ups m l)) ∧ w' = w := by
  have HU := hide (ups_iff m l)
  have HC := hide hc
  have HN := hide hn
  clear hc
  generalize ups m l = u at HU ⊢
  go_enter Tryd.func33, Tryd.ntmps33
  go_wp2
  go_loop [9] (fun t => ∃ k : Nat, k ≤ n ∧ Hid (∀ i, i < k → up m (l.getD i 0) = true) ∧ t = .int .i64 k) (fun t => n - (intOf t).toNat)
  case atStart => exact ⟨0, by omega, fun i hi => absurd hi (by omega), rfl⟩
  case round =>
    obtain ⟨k, hk, HI, rfl⟩ := hrel
    by_cases hlt : k < n
    · have hck := HC.out.cell k (by omega)
      generalize hzk : l.getD k 0 = z at hck
      have HZ := hide hzk
      clear hzk hn
      by_cases hz0 : z < 0
      · go_wp2
        go_ret
        exact ⟨congrArg (fun b => Ending.returned (.bool b)) (Eq.symm (Bool.eq_false_iff.2 fun h => by have := up_true (HU.out.1 h k (by rw [HN.out]; exact hlt)); rw [HZ.out] at this; omega)), rfl⟩
      · by_cases hz1 : m < z
        · go_wp2
          go_ret
          exact ⟨congrArg (fun b => Ending.returned (.bool b)) (Eq.symm (Bool.eq_false_iff.2 fun h => by have := up_true (HU.out.1 h k (by rw [HN.out]; exact hlt)); rw [HZ.out] at this; omega)), rfl⟩
        · go_wp2
          go_round
          case rel => exact ⟨k + 1, by omega, fun i hi => if h : i = k then by subst h; rw [HZ.out]; exact decide_eq_true ⟨by omega, by omega⟩ else HI.out i (by omega), by go_num⟩
          case measure => simp [intOf]; omega
    · go_wp2
      go_ret
      obtain rfl : k = n := by omega
      exact ⟨congrArg (fun b => Ending.returned (.bool b)) (Eq.symm (HU.out.2 fun i hi => HI.out i (by rw [← HN.out]; exact hi))), rfl⟩
theorem upto1 (m x : Int) (B : Nat) (w : World) (h : Ints B [x] w) : Calls Tryd.prog 33 #[.int .i64 m, .slice (some ⟨B, 0, none⟩) 1 1] w fun e w' => e = .returned (.bool (up m x)) ∧ w' = w := by
  have h := upto_any m B 1 [x] w rfl (by omega) h
  rw [show ups m [x] = up m x by simp [ups]] at h
  exact h
/-- an error's value. -/
def err (n : Int) : Value := .iface 31 (.int .i64 n)
end Go.Proofs.YtbbbcfihnjidaaaDoor
