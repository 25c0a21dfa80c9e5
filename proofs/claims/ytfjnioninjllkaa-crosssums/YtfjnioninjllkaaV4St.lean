/- A packet of fours loaded and stored whole, at a plain region's list. -/
import Derived.Test.YtfjnioninjllkaaV4Pk
namespace Go.Proofs.Ytfjnioninjllkaa.V4
open Go.RowKit

theorem at_load {ops : Array Oper} {rest : List Oper} {o : Oper} {f : Act} {w : World} {Q : Exit → Act → World → Prop} (hgd : o.guard = none) (x : Operand) (ho : o.op = .load 32 x)
    {B : Nat} {s d t k i : Int} {a : Option Addr} {len cap : Nat} (hx : f.eval x = .pointer (some ⟨B, 0, none⟩)) (p : PkIn B s d t k i a len cap w)
    (hK : wpList Try.prog ops Q rest (f.put o.dst (pk s d t k i a len cap)) w) : wpList Try.prog ops Q (o :: rest) f w :=
  wpList_load_row hgd 32 x ho B hx 32 _ (0, 0) _ p Try.underlying32 rfl (by kernel_rfl) hK
theorem PkIn.stored {B : Nat} {s0 d0 t0 k0 i0 : Int} {a0 : Option Addr} {len0 cap0 : Nat} {w : World} (p : PkIn B s0 d0 t0 k0 i0 a0 len0 cap0 w) (s d t k i : Int) (a : Option Addr) (len cap : Nat) : PkIn B s d t k i a len cap (w.setRow B #[.int .i64 s, .int .i64 d, .int .i64 t, .int .i64 k, .int .i64 i, .slice a len cap]) := setRow_heap w B _ _ _ (0, 0) p
theorem at_store {ops : Array Oper} {rest : List Oper} {o : Oper} {f : Act} {w : World} {Q : Exit → Act → World → Prop} (hgd : o.guard = none) (x y : Operand) (ho : o.op = .store 32 x y)
    {B : Nat} {s0 d0 t0 k0 i0 : Int} {a0 : Option Addr} {len0 cap0 : Nat} (hx : f.eval x = .pointer (some ⟨B, 0, none⟩)) (p : PkIn B s0 d0 t0 k0 i0 a0 len0 cap0 w)
    (s d t k i : Int) (a : Option Addr) (len cap : Nat) (hy : f.eval y = pk s d t k i a len cap)
    (hK : ∀ w', PkIn B s d t k i a len cap w' → Only B w w' → wpList Try.prog ops Q rest (f.put o.dst undef) w') : wpList Try.prog ops Q (o :: rest) f w :=
  wpList_store_row hgd 32 x y ho B _ hx hy 32 _ p (by kernel_rfl) rfl (by simp [Value.oneCell']) (hK _ (p.stored s d t k i a len cap) (only_setRow _ _ _))
/-- a packet of noughts. -/
def pk0 : Value := pk 0 0 0 0 0 none 0 0
def zero4 : Array Value := #[.int .i64 0, .int .i64 0, .int .i64 0, .int .i64 0, .int .i64 0, .slice none 0 0]
theorem zero_new (w : World) : PkIn w.heap.size 0 0 0 0 0 none 0 0 (w.alloc (.cells zero4 32)) := pk_new w 0 0 0 0 0 none 0 0
end Go.Proofs.Ytfjnioninjllkaa.V4
