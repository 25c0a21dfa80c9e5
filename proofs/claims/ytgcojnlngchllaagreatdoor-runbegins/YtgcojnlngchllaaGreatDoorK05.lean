/- What Decode answers, in two ways; what stands over a packet's segment; cross.under by contracts. -/
import Derived.Test.YtgcojnlngchllaaGreatDoorK03
namespace Go.Proofs.YtgcojnlngchllaaGreatDoor
open Go.RowKit
set_option linter.unusedVariables false
section
def o6 (s d:List Int) (k n:Int):Int:=ovs (by16 s 8++by16 d 8) k n
def o4 (s d:Int) (k n:Int):Int:=ovs (wsn 4 [s,d] 2) k n
theorem ovs_in (zs:List Int) (k n:Int) (h:SM.Oct zs):up 65535 (ovs zs k n)=true:=by
 have hb:=SM.tot_bd (zs++wsn 2 [k,n] 2) (SM.oct_append _ _ h (wsn_oct _ _ _)) (zs.length+4)
 exact decide_eq_true (SM.fold_bd _ hb.1)
theorem o6_in (s d:List Int) (k n:Int) (hs:Ok6 s) (hd:Ok6 d):up 65535 (o6 s d k n)=true:=ovs_in _ _ _ (SM.oct_append _ _ (oct_by16 s hs 8 (by omega)) (oct_by16 d hd 8 (by omega)))
theorem o4_in (s d:Int) (k n:Int):up 65535 (o4 s d k n)=true:=ovs_in _ _ _ (wsn_oct _ _ _)
theorem over6_ok (s d:List Int) (k n:Int) (w:World) (hs:Ok6 s) (hd:Ok6 d) (hk:up 255 k=true) (hn:up 320 n=true) :
  Calls Tryz.prog 138 #[.agg (sixC s),.agg (sixC d),.int .i64 k,.int .i64 n] w fun e w'=>e=.returned (.tuple #[.int .i64 (o6 s d k n),.nilIface])∧Below w.heap.size w w' :=
 over6_any s d k n w hs hd _ _ (fun W0 W v hg=>overof_ok W0 W v _ k n hg (by rw[List.length_append,by16_len,by16_len];omega) hk hn)
theorem over4_o (s d k n:Int) (w:World) (hs:up 4294967295 s=true) (hd:up 4294967295 d=true) (hk:up 255 k=true) (hn:up 320 n=true) :
  Calls Tryz.prog 149 #[.int .i64 s,.int .i64 d,.int .i64 k,.int .i64 n] w fun e w'=>e=.returned (.tuple #[.int .i64 (o4 s d k n),.nilIface])∧Below w.heap.size w w':=over4_ok s d k n w hs hd hk hn
theorem new_below {w w':World} (o:Obj) (h:Only w.heap.size (w.alloc o) w'):Below w.heap.size w w':=h.below (al_below w o) (Nat.le_refl _)
end
end Go.Proofs.YtgcojnlngchllaaGreatDoor
