/- The document's own words and Encoded6, by contracts. The document's own words and FourBytes of a packet's head, by contracts. The document's own FourBytes and Bytes4, by contracts. Bytes whose block is as it was. -/
import Derived.Test.YtgcojnlngchllaaGreatDoorK08
import Derived.Test.YtgcojnlngchllaaGreatDoorK14
namespace Go.Proofs.YtgcojnlngchllaaGreatDoor
open Go.RowKit
set_option linter.unusedVariables false
namespace V6
attribute [local go_sem ↓] Go.wp_at_zero Go.wp_at_succ
def wb (l:List Int):Nat→List Int
 | 0=>[]
 | k+1=>wb l k++[l.getD k 0 / 256,l.getD k 0 % 256]
end V6
namespace V4
attribute [local go_sem ↓] Go.wp_at_zero Go.wp_at_succ
def wb (l:List Int):Nat→List Int
 | 0=>[]
 | k+1=>wb l k++[l.getD k 0 / 256,l.getD k 0 % 256]
end V4
namespace V4
theorem al_below (w:World) (o:Obj):Below w.heap.size w (w.alloc o):=(Below.refl _ _).alloc (Nat.le_refl _) _
end V4
section
theorem Row8.heap {w w':World} {a:Option Addr} {len cap:Nat} {zs:List Int} (h:Row8 w a len cap zs) (he:∀ b o,a=some ⟨b,o,none⟩→w'.heap[b]? = w.heap[b]?):Row8 w' a len cap zs:=by
 obtain ⟨f,g,k,h4,l⟩:=h
 refine ⟨f,g,k,h4,fun hp=>?_⟩
 obtain ⟨b,d,e,n⟩:=l hp
 refine ⟨b,d,e,fun i hi=>?_⟩
 have:=n i hi
 unfold World.cell? at this ⊢
 rw[he b d e]
 exact this
end
end Go.Proofs.YtgcojnlngchllaaGreatDoor
