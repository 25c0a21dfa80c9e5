/- Package run: the name of an error; shown, by contracts. -/
import Derived.Test.YtgcojnlngchllaaGreatDoorK17
import Derived.Test.YtgcojnlngchllaaGreatDoorK27
import Derived.Test.YtgcojnlngchllaaGreatDoorK38
namespace Go.Proofs.YtgcojnlngchllaaGreatDoor
open Go.RowKit
set_option linter.unusedVariables false
set_option maxRecDepth 100000
set_option maxHeartbeats 40000000
section
theorem name_any (n:Int) (w:World):Calls Tryz.prog 111 #[.int .i64 n] w fun e w'=>e=.returned (Ad.strv (enm n))∧w'=w:=by
 have a:n=0∨n=1∨n=2∨n=3∨n=4∨n=5∨n=6∨n=7∨n=8∨n=9∨(n≠0∧n≠1∧n≠2∧n≠3∧n≠4∧n≠5∧n≠6∧n≠7∧n≠8∧n≠9):=by omega
 rcases a with rfl|rfl|rfl|rfl|rfl|rfl|rfl|rfl|rfl|rfl|⟨h0,h1,h2,h3,h4,h5,h6,h7,h8,h9⟩
 case inr.inr.inr.inr.inr.inr.inr.inr.inr.inr =>
  have b:=ki (show enm n=[69,114,114,110,111] by unfold enm;rw[if_neg h0,if_neg h1,if_neg h2,if_neg h3,if_neg h4,if_neg h5,if_neg h6,if_neg h7,if_neg h8,if_neg h9])
  go_enter Tryz.func111,Tryz.ntmps111
  go_wp2
  go_ret
  exact ⟨by rw[b.out];rfl,rfl⟩
 all_goals
  go_enter Tryz.func111,Tryz.ntmps111
  go_wp2
  go_ret
  exact ⟨rfl,rfl⟩
theorem shown_any (t:List UInt8) (n:Int) (w:World) (hg:Laid0 w):Calls Tryz.prog 59 #[Ad.strv t,ev n] w fun e w'=>e=.returned (Ad.strv (shw t n))∧Below w.heap.size w w':=by
 unfold Ad.strv
 by_cases h:n=0
 ·subst h
  have a:=ki (show shw t 0=t from rfl)
  rw[show ev 0=.nilIface from rfl]
  go_enter Tryz.func59,Tryz.ntmps59
  go_wp2
  go_ret
  exact ⟨by rw[a.out];rfl,Below.refl _ _⟩
 ·have a:=ki (show shw t n=enm n from if_neg h)
  have d:=ki (told_err n w hg)
  have b:=ki (fun W=>name_any n W)
  rw[show ev n=err n from if_neg h]
  unfold err
  unfold Ad.strv at b
  clear h hg
  go_enter Tryz.func59,Tryz.ntmps59
  go_wp2_with (first
   | (go_at_call 56;refine d.out.mono ?_;rintro e f ⟨rfl,hb⟩)
   | (go_at_call 111;refine (b.out _).mono ?_;rintro e g ⟨rfl,rfl⟩))
  go_ret
  exact ⟨by rw[a.out];rfl,hb⟩
end
end Go.Proofs.YtgcojnlngchllaaGreatDoor
