/- A packet of fours as a value and in its block. A packet of fours loaded and stored whole, at a plain region's list. The statements' own question whether two packets of fours are the same. -/
import Derived.Test.YtfjnioninjllkaaDoorSgSum
namespace Go.Proofs.YtfjnioninjllkaaDoor.V4
open Go.RowKit
/-- a packet as a value. -/
def pk (s d t k i : Int) (a : Option Addr) (len cap : Nat) : Value := .agg #[.int .i64 s, .int .i64 d, .int .i64 t, .int .i64 k, .int .i64 i, .slice a len cap]
/-- a packet's block. -/
def PkIn (B : Nat) (s d t k i : Int) (a : Option Addr) (len cap : Nat) (w : World) : Prop := w.heap[B]? = some (.cells #[.int .i64 s, .int .i64 d, .int .i64 t, .int .i64 k, .int .i64 i, .slice a len cap] 28 (0, 0))
theorem PkIn.lt {B : Nat} {s d t k i : Int} {a : Option Addr} {len cap : Nat} {w : World} (h : PkIn B s d t k i a len cap w) : B < w.heap.size := (Array.getElem?_eq_some_iff.1 h).1
theorem PkIn.kept {B : Nat} {s d t k i : Int} {a : Option Addr} {len cap : Nat} {w w' : World} (h : PkIn B s d t k i a len cap w) (hb : Below w.heap.size w w') : PkIn B s d t k i a len cap w' := (hb.block B h.lt).trans h
theorem PkIn.other {B : Nat} {s d t k i : Int} {a : Option Addr} {len cap : Nat} {w : World} (h : PkIn B s d t k i a len cap w) (p : Addr) (hp : B ≠ p.block) (v : Value) : PkIn B s d t k i a len cap (w.setCell p v) := (Below.heap_setCell w p v B hp).trans h
theorem pk_new (w : World) (s d t k i : Int) (a : Option Addr) (len cap : Nat) : PkIn w.heap.size s d t k i a len cap (w.alloc (.cells #[.int .i64 s, .int .i64 d, .int .i64 t, .int .i64 k, .int .i64 i, .slice a len cap] 28)) := heap_alloc_new w _
theorem PkIn.all {B : Nat} {s d t k i : Int} {a : Option Addr} {len cap : Nat} {w : World} (h : PkIn B s d t k i a len cap w) :
    w.cell? ⟨B, 0, none⟩ = some (.int .i64 s) ∧ w.cell? ⟨B, 1, none⟩ = some (.int .i64 d) ∧ w.cell? ⟨B, 2, none⟩ = some (.int .i64 t) ∧ w.cell? ⟨B, 3, none⟩ = some (.int .i64 k) ∧ w.cell? ⟨B, 4, none⟩ = some (.int .i64 i) ∧ w.cell? ⟨B, 5, none⟩ = some (.slice a len cap) := by
  unfold PkIn at h
  refine ⟨?_, ?_, ?_, ?_, ?_, ?_⟩ <;> simp [World.cell?, h]
theorem load_pk {B : Nat} {s d t k i : Int} {a : Option Addr} {len cap : Nat} {w : World} (h : PkIn B s d t k i a len cap w) : (loadVar 28 ⟨B, 0, none⟩).run Tryd.prog w = .ok (pk s d t k i a len cap) w :=
  run_loadVar_row w B 28 28 _ (0, 0) _ h Tryd.underlying28 rfl (by kernel_rfl)
theorem results_cr {fn : Func} {p u : Tmp} (h : fn.results = #[.cell p 28, .tmp u]) (tmps : Array Value) (w : World) (B : Nat) (s d t k i : Int) (a : Option Addr) (len cap : Nat)
    (hp : tmps.getD p undef = .pointer (some ⟨B, 0, none⟩)) (hg : PkIn B s d t k i a len cap w) :
    (results fn tmps).run Tryd.prog w = .ok (.tuple #[pk s d t k i a len cap, tmps.getD u undef]) w := by
  rw [results_cell_tmp h, hp]
  simp [asAddr, load_pk hg]
end Go.Proofs.YtfjnioninjllkaaDoor.V4

namespace Go.Proofs.YtfjnioninjllkaaDoor.V4
open Go.RowKit

theorem at_load {ops : Array Oper} {rest : List Oper} {o : Oper} {f : Act} {w : World} {Q : Exit → Act → World → Prop} (hgd : o.guard = none) (x : Operand) (ho : o.op = .load 28 x)
    {B : Nat} {s d t k i : Int} {a : Option Addr} {len cap : Nat} (hx : f.eval x = .pointer (some ⟨B, 0, none⟩)) (p : PkIn B s d t k i a len cap w)
    (hK : wpList Tryd.prog ops Q rest (f.put o.dst (pk s d t k i a len cap)) w) : wpList Tryd.prog ops Q (o :: rest) f w :=
  wpList_load_row hgd 28 x ho B hx 28 _ (0, 0) _ p Tryd.underlying28 rfl (by kernel_rfl) hK
theorem PkIn.stored {B : Nat} {s0 d0 t0 k0 i0 : Int} {a0 : Option Addr} {len0 cap0 : Nat} {w : World} (p : PkIn B s0 d0 t0 k0 i0 a0 len0 cap0 w) (s d t k i : Int) (a : Option Addr) (len cap : Nat) : PkIn B s d t k i a len cap (w.setRow B #[.int .i64 s, .int .i64 d, .int .i64 t, .int .i64 k, .int .i64 i, .slice a len cap]) := setRow_heap w B _ _ _ (0, 0) p
theorem at_store {ops : Array Oper} {rest : List Oper} {o : Oper} {f : Act} {w : World} {Q : Exit → Act → World → Prop} (hgd : o.guard = none) (x y : Operand) (ho : o.op = .store 28 x y)
    {B : Nat} {s0 d0 t0 k0 i0 : Int} {a0 : Option Addr} {len0 cap0 : Nat} (hx : f.eval x = .pointer (some ⟨B, 0, none⟩)) (p : PkIn B s0 d0 t0 k0 i0 a0 len0 cap0 w)
    (s d t k i : Int) (a : Option Addr) (len cap : Nat) (hy : f.eval y = pk s d t k i a len cap)
    (hK : ∀ w', PkIn B s d t k i a len cap w' → Only B w w' → wpList Tryd.prog ops Q rest (f.put o.dst undef) w') : wpList Tryd.prog ops Q (o :: rest) f w :=
  wpList_store_row hgd 28 x y ho B _ hx hy 28 _ p (by kernel_rfl) rfl (by simp [Value.oneCell']) (hK _ (p.stored s d t k i a len cap) (only_setRow _ _ _))
/-- a packet of noughts. -/
def pk0 : Value := pk 0 0 0 0 0 none 0 0
def zero4 : Array Value := #[.int .i64 0, .int .i64 0, .int .i64 0, .int .i64 0, .int .i64 0, .slice none 0 0]
theorem zero_new (w : World) : PkIn w.heap.size 0 0 0 0 0 none 0 0 (w.alloc (.cells zero4 28)) := pk_new w 0 0 0 0 0 none 0 0
end Go.Proofs.YtfjnioninjllkaaDoor.V4

namespace Go.Proofs.YtfjnioninjllkaaDoor.V4
open Go.RowKit
set_option maxHeartbeats 2000000 in
theorem pack4s_same (s d t k i : Int) (a1 a2 : Option Addr) (l1 l2 c1 c2 : Nat) (body : List Int) (w : World) (r1 : Row8 w a1 l1 c1 body) (r2 : Row8 w a2 l2 c2 body) :
    Calls Tryd.prog 8 #[pk s d t k i a1 l1 c1, pk s d t k i a2 l2 c2] w fun e w' => e = .returned (.bool true) ∧ Below w.heap.size w w' := by
  have HB := hide (((Below.refl w.heap.size w).alloc (Nat.le_refl _) (.cells #[.int .i64 s, .int .i64 d, .int .i64 t, .int .i64 k, .int .i64 i, .slice a1 l1 c1] 28)).alloc (by simp) (.cells #[.int .i64 s, .int .i64 d, .int .i64 t, .int .i64 k, .int .i64 i, .slice a2 l2 c2] 28))
  have v1 := conv8 (r1.below HB.out)
  have v2 := conv8 (r2.below HB.out)
  have q := str8_eq r1.2.2.1 r2.2.2.1 true (by simp)
  have qs : (s == s) = true := by simp
  have qd : (d == d) = true := by simp
  have qt : (t == t) = true := by simp
  have qk : (k == k) = true := by simp
  have qi : (i == i) = true := by simp
  clear r1 r2
  unfold pk
  go_enter Tryd.func8, Tryd.ntmps8
  go_wp2
  go_ret
  exact ⟨rfl, HB.out⟩
end Go.Proofs.YtfjnioninjllkaaDoor.V4
