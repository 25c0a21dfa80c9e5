/- For every text and every number the Go function RunBegins returns true, and its arguments read as they did; its eight listed variables are tied to the program (one pinned): the full card. -/
import Derived.Test.YtgcojnlngchllaaGreatDoorPfRun
namespace Go.Proofs.YtgcojnlngchllaaGreatDoor
open Go.RowKit
set_option linter.unusedVariables false
section
theorem rcW:Rows.runBeginsRow.wfByText (OpenSpec.ofChange Rows.runBeginsSpec)=true:=by kernel_rfl
theorem rcF:Tryz.prog.funcNamed Rows.runBeginsRow.func=some 5:=by kernel_rfl
theorem rcS:([9,3].all fun u=>!Tryz.prog.wantsStandIn u)=true:=by kernel_rfl
theorem rcL:true=Tryz.pinned.checked.prog.looks []:=by kernel_rfl
theorem rcG:false=Rows.runBeginsRow.goesBy Tryz.pinned.checked.prog:=by kernel_rfl
theorem runBegins_card:Rows.RunBeginsCardSaid :=
 Claim7.holds_tied_plain_at .later [] _ _ _ _
  rbOver (fun _ h=>by cases h) rcW (fun _ h=>by cases h) runBegins_row_tie rfl ⟨rfl,rfl⟩ (by kernel_rfl) rfl
  (fun f fn hf hfn=>by
   obtain rfl:f=5:=Option.some.inj (rcF.symm.trans hf) |>.symm
   obtain rfl:fn=Tryz.f5:=(Option.some.inj (Tryz.func5.symm.trans hfn)).symm
   exact ⟨rcL,fun j t ht=>by
    rw[Tryz.params5] at ht
    have hm:t ∈ [9,3]:=by simpa using Array.mem_of_getElem? ht
    exact (show Tryz.prog.wantsStandIn t=false by simpa using List.all_eq_true.1 rcS t hm)⟩)
  rcG
#print axioms runBegins_card
end
end Go.Proofs.YtgcojnlngchllaaGreatDoor
