import Derived.Test.YtgcojnlngchllaaGreatDoorJ12
import Derived.Stop.Asserts
import Derived.Deep.Slices
namespace Go.Proofs.YtgcojnlngchllaaGreatDoor
open Go.RowKit Tryz
set_option linter.unusedVariables false
set_option maxRecDepth 100000
set_option maxHeartbeats 40000000
section
open Go.RowKit Go.Extern.Stop Go.Stop Go.Extern Tryz
theorem OO(t:Addr)(w:World):(ReflectliteValue.unpack (.iface 191 (.pointer (some t)))).run prog w = .ok (.agg #[.pointer (some ⟨9,191,none⟩),.pointer (some ⟨w.heap.size,0,none⟩),.int .u64 150]) (w.alloc (.cells #[.pointer (some t)] 191)):=by kernel_rfl
theorem OP(a:Addr)(w:World):(ReflectliteValue.methodAny (ReflectliteValue.valueError "reflectlite.Value.Type" 0) (fun t _ _ _=>ReflectliteType.toType t) #[.agg #[.pointer (some ⟨9,191,none⟩),.pointer (some a),.int .u64 150]]).run prog w = .ok (.iface 315 (.agg #[.pointer (some ⟨9,191,none⟩)])) w:=by kernel_rfl
theorem OQ(h:Value)(w:World):(Go.method 550 315 (.agg #[h]) "Kind").run prog w=.ok (347,h) w:=by kernel_rfl
theorem OT(w:World):((ReflectliteType.abiMethod fun t=>Functor.map (fun a:Nat=>Value.int IntKind.u8 (a:Int)) (Rtype.kind t)) #[.pointer (some ⟨9,191,none⟩)]).run prog w=.ok (.int .u8 22) w:=by kernel_rfl
theorem OU(w:World):((ReflectliteType.abiMethod fun t=>Functor.map (fun a:Nat=>Value.int IntKind.u8 (a:Int)) (Rtype.kind t)) #[.pointer (some ⟨9,28,none⟩)]).run prog w=.ok (.int .u8 2) w:=by kernel_rfl
theorem F4(x:Value)(h1:Value->Sem Value)(h2:Array Value->Sem Value):(ReflectliteValue.method.match_2 (fun _=>Sem Value) #[x] h1 h2)=h1 x:=rfl
theorem rls(x y:Value)(h1:Value->Value->Sem Value)(h2:Array Value->Sem Value):(ReflectliteValue.set.match_3 (fun _=>Sem Value) #[x,y] h1 h2)=h1 x y:=rfl
theorem F5(a:Addr)(w:World):(ReflectliteValue.parts (.agg #[.pointer (some ⟨9,191,none⟩),.pointer (some a),.int .u64 150])).run prog w=.ok (some (191,a,150)) w:=by kernel_rfl
theorem OV(a p:Addr)(W:World)(ha:W.cell? a=some (.pointer (some p))): (ReflectliteValue.method (ReflectliteValue.valueError "reflectlite.Value.IsNil" 0) ReflectliteValue.isNil #[.agg #[.pointer (some ⟨9,191,none⟩),.pointer (some a),.int .u64 150]]).run prog W=.ok (.bool false) W:=by unfold ReflectliteValue.method;rw[F4];simp only[Sem.run_bind,F5,Result.andThen];simp[ReflectliteValue.isNil,loadVar,isAgg,underlying,underlying191,ha,Result.andThen]
theorem OW(h:Value)(w:World):(Go.method 550 315 (.agg #[h]) "Elem").run prog w=.ok (360,.agg #[h]) w:=by kernel_rfl
theorem OX(h:Value)(w:World):(Go.method 550 315 (.agg #[h]) "Implements").run prog w=.ok (361,.agg #[h]) w:=by kernel_rfl
theorem OY(h:Value)(w:World):(Go.method 550 315 (.agg #[h]) "AssignableTo").run prog w=.ok (358,.agg #[h]) w:=by kernel_rfl
theorem OZ(w:World):(ReflectliteType.method ReflectliteType.elem #[.agg #[.pointer (some ⟨9,191,none⟩)]]).run prog w=.ok (.iface 315 (.agg #[.pointer (some ⟨9,28,none⟩)])) w:=by kernel_rfl
theorem O1(w:World):(ReflectliteType.relation "Implements" ReflectliteType.implements_ #[.agg #[.pointer (some ⟨9,28,none⟩)],.iface 315 (.agg #[.pointer (some ⟨9,32,none⟩)])]).run prog w=.ok (.bool true) w:=by kernel_rfl
theorem O4(v:Value)(w:World):(ReflectliteType.typeOf #[.iface 28 v]).run prog w=.ok (.iface 315 (.agg #[.pointer (some ⟨9,28,none⟩)])) w:=by kernel_rfl
theorem O5(w:World):(ReflectliteType.relation "AssignableTo" ReflectliteType.assignableTo #[.agg #[.pointer (some ⟨9,28,none⟩)],.iface 315 (.agg #[.pointer (some ⟨9,28,none⟩)])]).run prog w=.ok (.bool true) w:=by kernel_rfl
theorem O6(e:Int)(w:World):(ReflectliteValue.unpack (.iface 28 (.int .i64 e))).run prog w = .ok (.agg #[.pointer (some ⟨9,28,none⟩),.pointer (some ⟨w.heap.size,0,none⟩),.int .u64 130]) (w.alloc (.cells #[.int .i64 e] 28)):=by kernel_rfl
theorem O7(w:World):(Rtype.elem? 191).run prog w=.ok (some 28) w:=by kernel_rfl
theorem O8(p:Addr)(w:World):(ReflectliteValue.mk 28 p ReflectliteValue.flagAddr).run prog w=.ok (.agg #[.pointer (some ⟨9,28,none⟩),.pointer (some p),.int .u64 386]) w:=by kernel_rfl
theorem O9(a p:Addr)(W:World)(ha:W.cell? a=some (.pointer (some p))): (ReflectliteValue.method (ReflectliteValue.valueError "reflectlite.Value.Elem" 0) ReflectliteValue.elem #[.agg #[.pointer (some ⟨9,191,none⟩),.pointer (some a),.int .u64 150]]).run prog W = .ok (.agg #[.pointer (some ⟨9,28,none⟩),.pointer (some p),.int .u64 386]) W:=by unfold ReflectliteValue.method;rw[F4];simp only[Sem.run_bind,F5,Result.andThen];simp[ReflectliteValue.elem,loadVar,isAgg,underlying,underlying191,ha,Result.andThen,O7,O8]
theorem Pb(a:Addr)(w:World):(ReflectliteValue.parts (.agg #[.pointer (some ⟨9,28,none⟩),.pointer (some a),.int .u64 386])).run prog w=.ok (some (28,a,386)) w:=by kernel_rfl
theorem Pd(a:Addr)(w:World):(ReflectliteValue.parts (.agg #[.pointer (some ⟨9,28,none⟩),.pointer (some a),.int .u64 130])).run prog w=.ok (some (28,a,130)) w:=by kernel_rfl
theorem Pe(w:World):(Rtype.directlyAssignable 28 28).run prog w=.ok true w:=by kernel_rfl
theorem Pf(ta b:Addr)(e:Int)(old:Value)(W:World)(hb:W.cell? b=some (.int .i64 e))(ht:W.cell? ta=some old)(hf:W.frozen? ta=false): (ReflectliteValue.set #[.agg #[.pointer (some ⟨9,28,none⟩),.pointer (some ta),.int .u64 386],.agg #[.pointer (some ⟨9,28,none⟩),.pointer (some b),.int .u64 130]]).run prog W = .ok (.tuple #[]) (W.setCell ta (.int .i64 e)):=by unfold ReflectliteValue.set;rw[rls];simp only[Sem.run_bind,Pb,Pd,Result.andThen];simp[ReflectliteValue.flagAddr,loadVar,isAgg,underlying,underlying28,hb,Result.andThen,Pe,storeVar,Value.cells,storeCells,Addr.add];rw[run_store prog W ta _ _ (by rfl)];simp[ht,hf]
def kg(w:World):Prop:=w.cell? ⟨0,0,none⟩=some (.iface 315 (.agg #[.pointer (some ⟨9,32,none⟩)]))
theorem kg.pos{w:World}(hg:kg w):0 < w.heap.size:=by
 rcases Nat.lt_or_ge 0 w.heap.size with h|h
 ·exact h
 ·simp[kg,World.cell?,Array.getElem?_eq_none h] at hg
theorem kg.below{w w':World}(hg:kg w)(hb:Below w.heap.size w w'):kg w':=by have:=hb.cell (p:=⟨0,0,none⟩) hg.pos;unfold kg;rw[this];exact hg
theorem Pg(e:Int)(t:Addr)(old:Value)(w:World)(hg0:kg w)(ht0:w.cell? t=some old)(hf0:w.frozen? t=false): Calls prog 108 #[.iface 28 (.int .i64 e),.iface 191 (.pointer (some t))] w fun ev w'=>ev=.returned (.bool true)∧w'=((((w.alloc (.cells #[.pointer (some t)] 191)).alloc (.cells #[.pointer (some ⟨9,191,none⟩),.pointer (some ⟨w.heap.size,0,none⟩),.int .u64 150] 256)).alloc (.cells #[.pointer (some ⟨9,191,none⟩),.pointer (some ⟨w.heap.size,0,none⟩),.int .u64 150] 256)).alloc (.cells #[.int .i64 e] 28)).setCell t (.int .i64 e):=by
 have b:=hg0.pos;have d:w.cell? ⟨0,0,none⟩=some (.iface 315 (.agg #[.pointer (some ⟨9,32,none⟩)])):=hg0;have y:=@run_callFunc_extern prog 161 _ (fun args=>ReflectliteValue.unpack (args.getD 0 (.tuple #[]))) func161 (by kernel_rfl) (by kernel_rfl) (by kernel_rfl) (by kernel_rfl);have z:=@run_callFunc_extern prog 162 _ (ReflectliteValue.methodAny (ReflectliteValue.valueError "reflectlite.Value.Type" 0) (fun t _ _ _=>ReflectliteType.toType t)) func162 (by kernel_rfl) (by kernel_rfl) (by kernel_rfl) (by kernel_rfl)
 have h8:=@run_callFunc_extern prog 163 _ (ReflectliteValue.method (ReflectliteValue.valueError "reflectlite.Value.IsNil" 0) ReflectliteValue.isNil) func163 (by kernel_rfl) (by kernel_rfl) (by kernel_rfl) (by kernel_rfl)
 have f:=@run_callFunc_extern prog 347 _ (ReflectliteType.abiMethod fun t=>do pure (.int .u8 (<-Rtype.kind t))) func347 (by kernel_rfl) (by kernel_rfl) (by kernel_rfl) (by kernel_rfl);have g:=@run_callFunc_extern prog 360 _ (ReflectliteType.method ReflectliteType.elem) func360 (by kernel_rfl) (by kernel_rfl) (by kernel_rfl) (by kernel_rfl);have i:=@run_callFunc_extern prog 361 _ (ReflectliteType.relation "Implements" ReflectliteType.implements_) func361 (by kernel_rfl) (by kernel_rfl) (by kernel_rfl) (by kernel_rfl)
 have k:=@run_callFunc_extern prog 222 _ ReflectliteType.typeOf func222 (by kernel_rfl) (by kernel_rfl) (by kernel_rfl) (by kernel_rfl);have l:=@run_callFunc_extern prog 358 _ (ReflectliteType.relation "AssignableTo" ReflectliteType.assignableTo) func358 (by kernel_rfl) (by kernel_rfl) (by kernel_rfl) (by kernel_rfl)
 have n:=@run_callFunc_extern prog 223 _ (ReflectliteValue.method (ReflectliteValue.valueError "reflectlite.Value.Elem" 0) ReflectliteValue.elem) func223 (by kernel_rfl) (by kernel_rfl) (by kernel_rfl) (by kernel_rfl)
 have h12:=@run_callFunc_extern prog 224 _ ReflectliteValue.set func224 (by kernel_rfl) (by kernel_rfl) (by kernel_rfl) (by kernel_rfl);have A:=O4;have B:=OY;have o:=O5;have p:=O6;have f6:=OO;have C:=OP;have D:=OQ;have E:=OW;have F:=OX;have q:=OT;have r:=OU;have s:=OZ;have v:=O1;have G:=OV ⟨w.heap.size,0,none⟩ t ((w.alloc (.cells #[.pointer (some t)] 191)).alloc (.cells #[.pointer (some ⟨9,191,none⟩),.pointer (some ⟨w.heap.size,0,none⟩),.int .u64 150] 256)) (by simp);have x:((w.alloc (.cells #[.pointer (some t)] 191)).alloc (.cells #[.pointer (some ⟨9,191,none⟩),.pointer (some ⟨w.heap.size,0,none⟩),.int .u64 150] 256)).cell? ⟨0,0,none⟩=some (.iface 315 (.agg #[.pointer (some ⟨9,32,none⟩)])):=by rw[World.cell?_alloc_lt _ _ ⟨0,0,none⟩ (by simp<;>omega),World.cell?_alloc_lt _ _ ⟨0,0,none⟩ b];exact d
 have a:t.block<w.heap.size:=by
  rcases Nat.lt_or_ge t.block w.heap.size with h|h
  ·exact h
  ·simp[World.cell?,Array.getElem?_eq_none h] at ht0
 have el:=O9 ⟨w.heap.size,0,none⟩ t (((w.alloc (.cells #[.pointer (some t)] 191)).alloc (.cells #[.pointer (some ⟨9,191,none⟩),.pointer (some ⟨w.heap.size,0,none⟩),.int .u64 150] 256)).alloc (.cells #[.pointer (some ⟨9,191,none⟩),.pointer (some ⟨w.heap.size,0,none⟩),.int .u64 150] 256)) (by rw[World.cell?_alloc_lt _ _ ⟨w.heap.size,0,none⟩ (by simp;omega)];simp);have st:=Pf t ⟨w.heap.size+1+1+1,0,none⟩ e old ((((w.alloc (.cells #[.pointer (some t)] 191)).alloc (.cells #[.pointer (some ⟨9,191,none⟩),.pointer (some ⟨w.heap.size,0,none⟩),.int .u64 150] 256)).alloc (.cells #[.pointer (some ⟨9,191,none⟩),.pointer (some ⟨w.heap.size,0,none⟩),.int .u64 150] 256)).alloc (.cells #[.int .i64 e] 28))
  (by rw[World.cell?_alloc_at _ _ _ _ (by simp)];rfl)
  (by rw[World.cell?_alloc_lt _ _ t (by simp;omega),World.cell?_alloc_lt _ _ t (by simp;omega),World.cell?_alloc_lt _ _ t (by simp;omega),World.cell?_alloc_lt _ _ t a];exact ht0)
  (by rw[World.frozen?_alloc_old _ _ t (by simp;omega),World.frozen?_alloc_old _ _ t (by simp;omega),World.frozen?_alloc_old _ _ t (by simp;omega),World.frozen?_alloc_old _ _ t (Nat.ne_of_lt a)];exact hf0)
 clear hg0;go_enter func108,ntmps108;go_wp2;refine wp_loop_rounds 1 ?_;rw[rounds_succ];go_wp2;go_ret;exact⟨rfl,rfl⟩
end
section
theorem Ph(w:World):Calls prog 56 #[.nilIface] w fun e w'=>e=.returned (.int .i64 0)∧w'=w:=by go_enter func56,ntmps56;go_wp2;go_ret;exact⟨rfl,rfl⟩
theorem Pj(e:Int)(w:World)(hg:kg w):Calls prog 56 #[.iface 28 (.int .i64 e)] w fun ev w'=>ev=.returned (.int .i64 e)∧Below w.heap.size w w':=by
 have hb:Below w.heap.size w (w.alloc (.cells #[.int .i64 0] 28)):=(Below.refl _ _).alloc (Nat.le_refl _) _;have a:=hg.below hb;have b:(w.alloc (.cells #[.int .i64 0] 28)).cell? ⟨w.heap.size,0,none⟩=some (.int .i64 0):=by simp
 have d:(w.alloc (.cells #[.int .i64 0] 28)).frozen? ⟨w.heap.size,0,none⟩=false:=by simp
 go_enter func56,ntmps56;go_wp2_with (go_at_call 108;refine(Pg e _ (.int .i64 0) _ a b d).mono ?_;rintro e w' ⟨rfl,rfl⟩)
 go_ret;exact⟨rfl,(((((Below.refl _ _).alloc (Nat.le_refl _) _).alloc (by simp) _).alloc (by simp<;>omega) _).alloc (by simp<;>omega) _).alloc (by simp<;>omega) _⟩
end
section
def aD(s:List Int):List Int:=[el s 1,el s 2,el s 3,el s 4,el s 5,el s 6,el s 7,el s 8]
end
section
open Go.ChangeShapes Go.WideShapes Go.Deep Go.RowKit
variable {n:Nat}
def pR(x:Int):Prop:=-9223372036854775808<=x∧x<=9223372036854775807
theorem F6{x:Int}(h:(Lit.int .i64 x).wf=true):pR x:=by have a:(decide (IntKind.i64.min<=x) && decide (x<=IntKind.i64.max))=true:=h;rw[Bool.and_eq_true,decide_eq_true_eq,decide_eq_true_eq] at a;exact a
def xQ(cs:List Value)(n:Nat):Prop:=cs.length=n∧∀j,j<n->∃x:Int,cs[j]? = some (.int .i64 x)∧pR x
theorem xQ.part{cs:List Value}{o m:Nat}(h:xQ ((cs.drop o).take n) n)(_hm:cs.length=m)(_hom:o+n<=m)(j:Nat)(h1:o<=j)(h2:j<o+n):∃x:Int,cs[j]? = some (.int .i64 x)∧pR x:=by obtain⟨x,a,b⟩:=h.2 (j-o) (by omega);refine⟨x,?_,b⟩;rw[List.getElem?_take_of_lt (by omega),List.getElem?_drop,show o+(j-o)=j by omega] at a;exact a
theorem Pk{H:Type}{enc:TypeId×Value->H}{W:World}{base:Nat}{spare:Nat->Bool}{held:Bool}{cs:List Value}{y:DataW H×List MemPlace}(h:DataW.trod enc prog W base spare held n 3 cs=some y):xQ cs 1:=by
 obtain⟨a,rfl,_,b⟩:=DataW.trod_int underlying3 h;refine⟨rfl,fun j hj=>⟨a,?_,F6 b⟩⟩;obtain rfl:j=0:=by omega
 rfl
theorem Pm{α:Type}{x:Option α}{l:List α}{i:Nat}(h:x=l[i]?)(hi:i<l.length):∃y,x=some y:=⟨l[i],h.trans (List.getElem?_eq_getElem hi)⟩
theorem F7{H:Type}{enc:TypeId×Value->H}{W:World}{base:Nat}{spare:Nat->Bool}{held:Bool}{cs:List Value}{y:DataW H×List MemPlace}(h:DataW.trod enc prog W base spare held n 23 cs=some y):xQ cs 8:=by
 obtain⟨f,m,_,_,hl,g,b⟩:=DataW.trod_array underlying23 h;have h8:prog.cellsOf 23 = 8:=by kernel_rfl
 have d:prog.cellsOf 3 = 1:=by kernel_rfl
 rw[h8] at hl;refine⟨hl,fun j hj=>?_⟩;have a:=b j hj;rw[d,Nat.mul_one] at a;obtain⟨y,e⟩:=Pm a (by omega);exact(Pk e).part hl (by omega) j (Nat.le_refl _) (by omega)
end
end Go.Proofs.YtgcojnlngchllaaGreatDoor
