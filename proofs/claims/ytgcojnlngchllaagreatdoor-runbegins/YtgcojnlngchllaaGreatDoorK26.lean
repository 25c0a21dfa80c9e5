/- The document's own small ones (Word, Fold, SumOf, IsFour, isByte, SixFault, BytesOf, FourBytes), by contracts; loads of an address; append as a step of a region that draws. The document's own size, Packed4 and Packed6, by contracts. -/
import Derived.Test.YtgcojnlngchllaaGreatDoorK08
import Derived.Test.YtgcojnlngchllaaGreatDoorK11
import Derived.Test.YtgcojnlngchllaaGreatDoorK22
import Derived.Test.YtgcojnlngchllaaGreatDoorK25
namespace Go.Proofs.YtgcojnlngchllaaGreatDoor
open Go.RowKit
set_option linter.unusedVariables false
section
def IsF (f:Int):Prop:=0≤f∧f≤4294967295
def b4 (f:Int):List Int:=[f / 16777216,f / 65536 % 256,f / 256 % 256,f % 256]
end
section
variable {B:Nat} {w:World}
theorem V4.PkIn.no8 {s d t k i:Int} {a:Option Addr} {len cap:Nat} (p:V4.PkIn B s d t k i a len cap w) (j:Nat) (x:Int):w.cell? ⟨B,j,none⟩≠some (.int .u8 x):=by
 rw[cell_of_row w B j _ _ _ p]
 by_cases h:j < 6
 ·rcases (by omega:j=0∨j=1∨j=2∨j=3∨j=4∨j=5) with rfl|rfl|rfl|rfl|rfl|rfl <;> intro h <;> cases h
 ·rw[Array.getElem?_eq_none (by show 6≤j;omega)];intro h;cases h
theorem V6.PkIn.no8 {s d:List Int} {h k:Int} {a:Option Addr} {len cap:Nat} (p:V6.PkIn B s d h k a len cap w) (j:Nat) (x:Int):w.cell? ⟨B,j,none⟩≠some (.int .u8 x):=by
 rw[p.cellAt]
 by_cases h:j < 19
 ·rcases (by omega:j=0∨j=1∨j=2∨j=3∨j=4∨j=5∨j=6∨j=7∨j=8∨j=9∨j=10∨j=11∨j=12∨j=13∨j=14∨j=15∨j=16∨j=17∨j=18) with rfl|rfl|rfl|rfl|rfl|rfl|rfl|rfl|rfl|rfl|rfl|rfl|rfl|rfl|rfl|rfl|rfl|rfl|rfl <;> intro h <;> cases h
 ·rw[Array.getElem?_eq_none (by show 19≤j;omega)];intro h;cases h
def pstore (x y:Value):Sem Unit:=Instr.storeAt 108 x y
theorem pstore_shut (x y:Value):Instr.storeAt 108 x y=pstore x y:=rfl
theorem V4.PkIn.held {s0 d0 t0 k0 i0:Int} {a0:Option Addr} {len0 cap0:Nat} (p:V4.PkIn B s0 d0 t0 k0 i0 a0 len0 cap0 w) (s d t k i:Int) (a:Option Addr) (len cap:Nat) :
  ∃ w',(pstore (.pointer (some ⟨B,0,none⟩)) (.agg #[.int .i64 s,.int .i64 d,.int .i64 t,.int .i64 k,.int .i64 i,.slice a len cap])).run Tryz.prog w=.ok () w'∧V4.PkIn B s d t k i a len cap w'∧Only B w w':=by
 refine ⟨w.setRow B #[.int .i64 s,.int .i64 d,.int .i64 t,.int .i64 k,.int .i64 i,.slice a len cap],?_,p.stored s d t k i a len cap,only_setRow _ _ _⟩
 unfold pstore
 simp only[Instr.storeAt,Instr.sureAddr,Sem.run_bind,Sem.run_pure,Result.andThen_ok]
 exact run_storeVar_row w B 108 108 _ #[.int .i64 s,.int .i64 d,.int .i64 t,.int .i64 k,.int .i64 i,.slice a len cap] p (by kernel_rfl) rfl (by simp[Value.oneCell'])
attribute [local go_sem ↓] gload_shut pstore_shut Go.wp_at_zero Go.wp_at_succ
end
end Go.Proofs.YtgcojnlngchllaaGreatDoor
