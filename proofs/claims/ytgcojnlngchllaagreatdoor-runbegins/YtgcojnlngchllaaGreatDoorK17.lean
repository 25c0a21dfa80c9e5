/- Addresses loaded, compared, looked at by the document's own SixFault. The document's own ports as they lie in the heap: a row of addresses, a row of bools, and the block that holds both. The document's own Has, Give and Free of ports, by contracts. The document's own Blocks of somebody, by a contract. The document's own Take of a port, by contracts. The document's own Take of a port, by contracts. The document's own NewPorts, by a contract. errors.As at a target of type *api.Errno, and plain.Told above it, by contracts: of nil it is 0, of an Errno it is that number; nothing that was there turns. plain.Told, and the statements' own question whether an error is the one told, by contracts: of nil it is 0, of an Errno it is that number; nothing that was there turns. -/
import Derived.Test.YtgcojnlngchllaaGreatDoorK14
import Derived.Stop.Asserts
namespace Go.Proofs.YtgcojnlngchllaaGreatDoor
open Go.RowKit
set_option linter.unusedVariables false
set_option maxRecDepth 100000
set_option maxHeartbeats 40000000
section
theorem eq_agg (x0 x1 x2 x3 x4 x5 x6 x7 y0 y1 y2 y3 y4 y5 y6 y7:Int) (w:World):(Op.equalIn 10000 23 (.agg #[.int .i64 x0,.int .i64 x1,.int .i64 x2,.int .i64 x3,.int .i64 x4,.int .i64 x5,.int .i64 x6,.int .i64 x7]) (.agg #[.int .i64 y0,.int .i64 y1,.int .i64 y2,.int .i64 y3,.int .i64 y4,.int .i64 y5,.int .i64 y6,.int .i64 y7])).run Tryz.prog w=.ok (x0 == y0 && x1 == y1 && x2 == y2 && x3 == y3 && x4 == y4 && x5 == y5 && x6 == y6 && x7 == y7) w:=by
 have a:=Tryz.underlying3
 have b:=Tryz.isAgg3
 have d:=Tryz.sizeOf3
 rw[show (10000:Nat)=9999+1 from rfl,Op.equalIn]
 simp only[Sem.run_bind,run_underlying Tryz.underlying23,Result.andThen_ok]
 simp only[Std.Legacy.Range.forIn_eq_forIn_range',Std.Legacy.Range.size,Nat.sub_zero,Nat.add_sub_cancel,Nat.div_one,List.range'_succ,List.range'_zero,List.forIn_cons,List.forIn_nil]
 go_simp
 by_cases h0:x0=y0
 case neg=>simp[h0]
 by_cases h1:x1=y1
 case neg=>simp[h0,h1]
 by_cases h2:x2=y2
 case neg=>simp[h0,h1,h2]
 by_cases h3:x3=y3
 case neg=>simp[h0,h1,h2,h3]
 by_cases h4:x4=y4
 case neg=>simp[h0,h1,h2,h3,h4]
 by_cases h5:x5=y5
 case neg=>simp[h0,h1,h2,h3,h4,h5]
 by_cases h6:x6=y6
 case neg=>simp[h0,h1,h2,h3,h4,h5,h6]
 by_cases h7:x7=y7
 case neg=>simp[h0,h1,h2,h3,h4,h5,h6,h7]
 simp[h0,h1,h2,h3,h4,h5,h6,h7]
theorem eq_six (a b:List Int) (w:World):(Op.equalIn 10000 23 (.agg #[.int .i64 (el a 0),.int .i64 (el a 1),.int .i64 (el a 2),.int .i64 (el a 3),.int .i64 (el a 4),.int .i64 (el a 5),.int .i64 (el a 6),.int .i64 (el a 7)]) (.agg #[.int .i64 (el b 0),.int .i64 (el b 1),.int .i64 (el b 2),.int .i64 (el b 3),.int .i64 (el b 4),.int .i64 (el b 5),.int .i64 (el b 6),.int .i64 (el b 7)])).run Tryz.prog w=.ok (eqz a b) w:=eq_agg _ _ _ _ _ _ _ _ _ _ _ _ _ _ _ _ w
end
section
theorem SixIn.stored {B:Nat} {z0:List Int} {w:World} (p:SixIn B z0 w) (z:List Int):SixIn B z (w.setRow B (sixC z)):=setRow_heap w B _ _ _ (0,0) p
def zero6:Array Value:=#[.int .i64 0,.int .i64 0,.int .i64 0,.int .i64 0,.int .i64 0,.int .i64 0,.int .i64 0,.int .i64 0]
def pofo (ts:Nat→Bool) (k:Nat):Option Nat:=(List.range' (8*k) 8).find? ts
end
section
variable {O:Nat→Prop} {w w':World}
def Fr (O:Nat→Prop) (w w':World):Prop:=w'.os=w.os∧w'.tape=w.tape∧w'.output=w.output∧w.heap.size≤w'.heap.size∧∀ g,g < w.heap.size→¬ O g→w'.heap[g]? = w.heap[g]?
theorem Fr.refl (O:Nat→Prop) (w:World):Fr O w w:=⟨rfl,rfl,rfl,Nat.le_refl _,fun _ _ _=>rfl⟩
theorem Fr.of (h:Below w.heap.size w w'):Fr O w w':=⟨h.os,h.tape,h.output,h.size,fun g hg _=>h.block g hg⟩
theorem Fr.trans {a b c:World} (h1:Fr O a b) (h2:Fr O b c):Fr O a c :=
 ⟨h2.1.trans h1.1,h2.2.1.trans h1.2.1,h2.2.2.1.trans h1.2.2.1,Nat.le_trans h1.2.2.2.1 h2.2.2.2.1,fun g hg hO=>(h2.2.2.2.2 g (Nat.lt_of_lt_of_le hg h1.2.2.2.1) hO).trans (h1.2.2.2.2 g hg hO)⟩
theorem Fr.mono {O':Nat→Prop} (h:Fr O w w') (hO:∀ g,O g→O' g):Fr O' w w':=⟨h.1,h.2.1,h.2.2.1,h.2.2.2.1,fun g hg hn=>h.2.2.2.2 g hg (fun ho=>hn (hO g ho))⟩
theorem Fr.below {base:Nat} {w0:World} (h:Fr O w w') (hb:Below base w0 w) (hO:∀ g,O g→base≤g) (hs:base≤w.heap.size):Below base w0 w' :=
 ⟨h.1.trans hb.os,h.2.1.trans hb.tape,h.2.2.1.trans hb.output,Nat.le_trans hb.size h.2.2.2.1,fun g hg=>(h.2.2.2.2 g (Nat.lt_of_lt_of_le hg hs) (fun ho=>absurd (hO g ho) (by omega))).trans (hb.block g hg)⟩
def upd {α:Type} (f:Nat→α) (i:Nat) (x:α):Nat→α:=fun j=>if j=i then x else f j
theorem setCell_fr (w:World) (B i:Nat) (v:Value):Fr (fun g=>g=B) w (w.setCell ⟨B,i,none⟩ v) :=
 ⟨rfl,rfl,rfl,by simp,fun g _ hg=>Below.heap_setCell w ⟨B,i,none⟩ v g hg⟩
def hs (ts:Nat→Bool) (n:Nat) (p:Int):Bool:=decide (1024≤p) && (decide (p < 1024+(n:Int)) && ts (p - 1024).toNat)
end
section
def ome (ws:Nat→List Int) (z:List Int) (o:Option Nat):Bool:=match o with|some i=>eqz (ws i) z|none=>false
def om (ws:Nat→List Int) (ts:Nat→Bool) (z:List Int) (k:Nat):Bool:=ome ws z (pofo ts k)
def bl (ws:Nat→List Int) (ts:Nat→Bool) (z:List Int):Nat→List Nat
 | 0=>[]
 | k+1=>bl ws ts z k++(if om ws ts z k=true then [k] else [])
attribute [local go_sem ↓] hload_shut
end
section
theorem setCells_row (b:Nat) (t:TypeId):∀ (vs:List Value) (o:Nat) (w:World) (cs:Array Value),w.heap[b]? = some (.cells cs t (0,0)) →
  ∃ cs':Array Value,(w.setCells b o vs).heap[b]? = some (.cells cs' t (0,0))∧cs'.size=cs.size∧∀ j,j < cs.size→cs'[j]? = if o≤j∧j < o+vs.length then vs[j - o]? else cs[j]?
 | [],o,w,cs,h=>⟨cs,h,rfl,fun j _=>by rw[if_neg (by simp)]⟩
 | v::r,o,w,cs,h=>by
  have h1:(w.setCell ⟨b,o,none⟩ v).heap[b]? = some (.cells (cs.setIfInBounds o v) t (0,0)):=by
   rw[setCell_eq_setRow w b o _ t (0,0) v h,setRow_heap w b _ _ t (0,0) h]
  obtain ⟨cs',a,d,f⟩:=setCells_row b t r (o+1) _ _ h1
  refine ⟨cs',a,by rw[d];simp,fun j hj=>?_⟩
  rw[f j (by simpa using hj)]
  by_cases hjo:j=o
  ·subst hjo
   rw[if_neg (by omega),if_pos (by simp),Nat.sub_self,Array.getElem?_setIfInBounds_self_of_lt hj]
   rfl
  ·rw[Array.getElem?_setIfInBounds_ne (fun e=>hjo e.symm)]
   by_cases hc:o+1≤j∧j < o+1+r.length
   ·rw[if_pos hc,if_pos (by simp only[List.length_cons];omega),show j - o=(j - (o+1))+1 by omega]
    rfl
   ·rw[if_neg hc,if_neg (by simp only[List.length_cons];omega)]
theorem setCells_only (b:Nat):∀ (vs:List Value) (o:Nat) (w:World),Only b w (w.setCells b o vs)
 | [],o,w=>⟨rfl,rfl,rfl,rfl,fun _ _=>rfl⟩
 | v::r,o,w=>by
  have h:=setCells_only b r (o+1) (w.setCell ⟨b,o,none⟩ v)
  exact ⟨h.1,h.2.1,h.2.2.1,h.2.2.2.1.trans (by simp),fun g hg=>(h.2.2.2.2 g hg).trans (Below.heap_setCell w ⟨b,o,none⟩ v g hg)⟩
def qstore (x y:Value):Sem Unit:=Instr.storeAt 23 x y
theorem qstore_shut (x y:Value):Instr.storeAt 23 x y=qstore x y:=rfl
def f0 (ws:Nat→List Int) (ts:Nat→Bool) (z:List Int) (i:Nat):Bool:=!ts i && om ws ts z (i / 8)
def f1 (ts:Nat→Bool) (i:Nat):Bool:=!ts i && (pofo ts (i / 8)).isNone
def tk (ws:Nat→List Int) (ts:Nat→Bool) (z:List Int) (n:Nat):Option Nat:=((List.range n).find? (f0 ws ts z)).or ((List.range n).find? (f1 ts))
end
section
theorem Only.fr {B:Nat} {w w':World} (h:Only B w w') {O:Nat→Prop} (hO:O B):Fr O w w':=⟨h.1,h.2.1,h.2.2.1,by rw[h.2.2.2.1];exact Nat.le_refl _,fun g _ hg=>h.2.2.2.2 g (fun e=>hg (e ▸ hO))⟩
theorem Only.six {B B':Nat} {w w':World} (h:Only B w w') {z:List Int} (p:SixIn B' z w) (hne:B'≠B):SixIn B' z w':=(h.2.2.2.2 B' hne).trans p
attribute [local go_sem ↓] hload_shut qstore_shut
end
section
def mkSl (t:TypeId) (l c:Value):Sem Value:=Instr.makeSlice t l c
theorem mkSl_shut (t:TypeId) (l c:Value):Instr.makeSlice t l c=mkSl t l c:=rfl
theorem made_at (z:Array Value) (n j:Nat) (hj:j < n):(madeCells z n)[j]? = some (z[j % z.size]!):=by
 unfold madeCells
 simp[hj]
attribute [local go_sem ↓] mkSl_shut
end
section
open Go.RowKit Go.Extern.Stop Go.Stop Go.Extern
theorem Tryz.valueOfP (t:Addr) (w:World):(ReflectliteValue.unpack (.iface 191 (.pointer (some t)))).run Tryz.prog w
  = .ok (.agg #[.pointer (some ⟨9,191,none⟩),.pointer (some ⟨w.heap.size,0,none⟩),.int .u64 150]) (w.alloc (.cells #[.pointer (some t)] 191)):=by kernel_rfl
theorem Tryz.typeP (a:Addr) (w:World):(ReflectliteValue.methodAny (ReflectliteValue.valueError "reflectlite.Value.Type" 0) (fun t _ _ _=>ReflectliteType.toType t) #[.agg #[.pointer (some ⟨9,191,none⟩),.pointer (some a),.int .u64 150]]).run Tryz.prog w
  = .ok (.iface 315 (.agg #[.pointer (some ⟨9,191,none⟩)])) w:=by kernel_rfl
theorem Tryz.methodKind (h:Value) (w:World):(Go.method 550 315 (.agg #[h]) "Kind").run Tryz.prog w=.ok (347,h) w:=by kernel_rfl
theorem Tryz.kindP (w:World):((ReflectliteType.abiMethod fun t=>Functor.map (fun a:Nat=>Value.int IntKind.u8 (a:Int)) (Rtype.kind t)) #[.pointer (some ⟨9,191,none⟩)]).run Tryz.prog w=.ok (.int .u8 22) w:=by kernel_rfl
theorem Tryz.kindE (w:World):((ReflectliteType.abiMethod fun t=>Functor.map (fun a:Nat=>Value.int IntKind.u8 (a:Int)) (Rtype.kind t)) #[.pointer (some ⟨9,28,none⟩)]).run Tryz.prog w=.ok (.int .u8 2) w:=by kernel_rfl
theorem rlm (x:Value) (h1:Value→Sem Value) (h2:Array Value→Sem Value):(ReflectliteValue.method.match_2 (fun _=>Sem Value) #[x] h1 h2)=h1 x:=rfl
theorem rls (x y:Value) (h1:Value→Value→Sem Value) (h2:Array Value→Sem Value):(ReflectliteValue.set.match_3 (fun _=>Sem Value) #[x,y] h1 h2)=h1 x y:=rfl
theorem Tryz.partsP (a:Addr) (w:World):(ReflectliteValue.parts (.agg #[.pointer (some ⟨9,191,none⟩),.pointer (some a),.int .u64 150])).run Tryz.prog w=.ok (some (191,a,150)) w:=by kernel_rfl
theorem Tryz.isNilP (a p:Addr) (W:World) (ha:W.cell? a=some (.pointer (some p))) :
  (ReflectliteValue.method (ReflectliteValue.valueError "reflectlite.Value.IsNil" 0) ReflectliteValue.isNil #[.agg #[.pointer (some ⟨9,191,none⟩),.pointer (some a),.int .u64 150]]).run Tryz.prog W=.ok (.bool false) W:=by
 unfold ReflectliteValue.method
 rw[rlm]
 simp only[Sem.run_bind,Tryz.partsP,Result.andThen]
 simp[ReflectliteValue.isNil,loadVar,isAgg,underlying,Tryz.underlying191,ha,Result.andThen]
theorem Tryz.methodElem (h:Value) (w:World):(Go.method 550 315 (.agg #[h]) "Elem").run Tryz.prog w=.ok (360,.agg #[h]) w:=by kernel_rfl
theorem Tryz.methodImplements (h:Value) (w:World):(Go.method 550 315 (.agg #[h]) "Implements").run Tryz.prog w=.ok (361,.agg #[h]) w:=by kernel_rfl
theorem Tryz.methodAssignableTo (h:Value) (w:World):(Go.method 550 315 (.agg #[h]) "AssignableTo").run Tryz.prog w=.ok (358,.agg #[h]) w:=by kernel_rfl
theorem Tryz.elemP (w:World):(ReflectliteType.method ReflectliteType.elem #[.agg #[.pointer (some ⟨9,191,none⟩)]]).run Tryz.prog w=.ok (.iface 315 (.agg #[.pointer (some ⟨9,28,none⟩)])) w:=by kernel_rfl
theorem Tryz.implementsE (w:World):(ReflectliteType.relation "Implements" ReflectliteType.implements_ #[.agg #[.pointer (some ⟨9,28,none⟩)],.iface 315 (.agg #[.pointer (some ⟨9,32,none⟩)])]).run Tryz.prog w=.ok (.bool true) w:=by kernel_rfl
theorem Tryz.typeOfE (v:Value) (w:World):(ReflectliteType.typeOf #[.iface 28 v]).run Tryz.prog w=.ok (.iface 315 (.agg #[.pointer (some ⟨9,28,none⟩)])) w:=by kernel_rfl
theorem Tryz.assignableE (w:World):(ReflectliteType.relation "AssignableTo" ReflectliteType.assignableTo #[.agg #[.pointer (some ⟨9,28,none⟩)],.iface 315 (.agg #[.pointer (some ⟨9,28,none⟩)])]).run Tryz.prog w=.ok (.bool true) w:=by kernel_rfl
theorem Tryz.valueOfE (e:Int) (w:World):(ReflectliteValue.unpack (.iface 28 (.int .i64 e))).run Tryz.prog w
  = .ok (.agg #[.pointer (some ⟨9,28,none⟩),.pointer (some ⟨w.heap.size,0,none⟩),.int .u64 130]) (w.alloc (.cells #[.int .i64 e] 28)):=by kernel_rfl
theorem Tryz.elemOfP (w:World):(Rtype.elem? 191).run Tryz.prog w=.ok (some 28) w:=by kernel_rfl
theorem Tryz.mkE (p:Addr) (w:World):(ReflectliteValue.mk 28 p ReflectliteValue.flagAddr).run Tryz.prog w=.ok (.agg #[.pointer (some ⟨9,28,none⟩),.pointer (some p),.int .u64 386]) w:=by kernel_rfl
theorem Tryz.elemVP (a p:Addr) (W:World) (ha:W.cell? a=some (.pointer (some p))) :
  (ReflectliteValue.method (ReflectliteValue.valueError "reflectlite.Value.Elem" 0) ReflectliteValue.elem #[.agg #[.pointer (some ⟨9,191,none⟩),.pointer (some a),.int .u64 150]]).run Tryz.prog W
   = .ok (.agg #[.pointer (some ⟨9,28,none⟩),.pointer (some p),.int .u64 386]) W:=by
 unfold ReflectliteValue.method
 rw[rlm]
 simp only[Sem.run_bind,Tryz.partsP,Result.andThen]
 simp[ReflectliteValue.elem,loadVar,isAgg,underlying,Tryz.underlying191,ha,Result.andThen,Tryz.elemOfP,Tryz.mkE]
theorem Tryz.partsEa (a:Addr) (w:World):(ReflectliteValue.parts (.agg #[.pointer (some ⟨9,28,none⟩),.pointer (some a),.int .u64 386])).run Tryz.prog w=.ok (some (28,a,386)) w:=by kernel_rfl
theorem Tryz.partsE (a:Addr) (w:World):(ReflectliteValue.parts (.agg #[.pointer (some ⟨9,28,none⟩),.pointer (some a),.int .u64 130])).run Tryz.prog w=.ok (some (28,a,130)) w:=by kernel_rfl
theorem Tryz.directE (w:World):(Rtype.directlyAssignable 28 28).run Tryz.prog w=.ok true w:=by kernel_rfl
theorem Tryz.setE (ta b:Addr) (e:Int) (old:Value) (W:World) (hb:W.cell? b=some (.int .i64 e)) (ht:W.cell? ta=some old) (hf:W.frozen? ta=false) :
  (ReflectliteValue.set #[.agg #[.pointer (some ⟨9,28,none⟩),.pointer (some ta),.int .u64 386],.agg #[.pointer (some ⟨9,28,none⟩),.pointer (some b),.int .u64 130]]).run Tryz.prog W
   = .ok (.tuple #[]) (W.setCell ta (.int .i64 e)):=by
 unfold ReflectliteValue.set
 rw[rls]
 simp only[Sem.run_bind,Tryz.partsEa,Tryz.partsE,Result.andThen]
 simp[ReflectliteValue.flagAddr,loadVar,isAgg,underlying,Tryz.underlying28,hb,Result.andThen,Tryz.directE,storeVar,Value.cells,storeCells,Addr.add]
 rw[run_store Tryz.prog W ta _ _ (by rfl)]
 simp[ht,hf]
def Laid0 (w:World):Prop:=w.cell? ⟨0,0,none⟩=some (.iface 315 (.agg #[.pointer (some ⟨9,32,none⟩)]))
theorem Laid0.pos {w:World} (hg:Laid0 w):0 < w.heap.size:=by
 rcases Nat.lt_or_ge 0 w.heap.size with h|h
 ·exact h
 ·simp[Laid0,World.cell?,Array.getElem?_eq_none h] at hg
theorem Laid0.below {w w':World} (hg:Laid0 w) (hb:Below w.heap.size w w'):Laid0 w':=by
 have:=hb.cell (p:=⟨0,0,none⟩) hg.pos
 unfold Laid0;rw[this];exact hg
theorem as_hit (e:Int) (t:Addr) (old:Value) (w:World) (hg0:Laid0 w) (ht0:w.cell? t=some old) (hf0:w.frozen? t=false) :
  Calls Tryz.prog 108 #[.iface 28 (.int .i64 e),.iface 191 (.pointer (some t))] w fun ev w'=>ev=.returned (.bool true)∧w'=((((w.alloc (.cells #[.pointer (some t)] 191)).alloc (.cells #[.pointer (some ⟨9,191,none⟩),.pointer (some ⟨w.heap.size,0,none⟩),.int .u64 150] 256)).alloc (.cells #[.pointer (some ⟨9,191,none⟩),.pointer (some ⟨w.heap.size,0,none⟩),.int .u64 150] 256)).alloc (.cells #[.int .i64 e] 28)).setCell t (.int .i64 e):=by
 have b:=hg0.pos
 have d:w.cell? ⟨0,0,none⟩=some (.iface 315 (.agg #[.pointer (some ⟨9,32,none⟩)])):=hg0
 have y:=@run_callFunc_extern Tryz.prog 161 _ (fun args=>ReflectliteValue.unpack (args.getD 0 (.tuple #[]))) Tryz.func161 (by kernel_rfl) (by kernel_rfl) (by kernel_rfl) (by kernel_rfl)
 have z:=@run_callFunc_extern Tryz.prog 162 _ (ReflectliteValue.methodAny (ReflectliteValue.valueError "reflectlite.Value.Type" 0) (fun t _ _ _=>ReflectliteType.toType t)) Tryz.func162 (by kernel_rfl) (by kernel_rfl) (by kernel_rfl) (by kernel_rfl)
 have h8:=@run_callFunc_extern Tryz.prog 163 _ (ReflectliteValue.method (ReflectliteValue.valueError "reflectlite.Value.IsNil" 0) ReflectliteValue.isNil) Tryz.func163 (by kernel_rfl) (by kernel_rfl) (by kernel_rfl) (by kernel_rfl)
 have f:=@run_callFunc_extern Tryz.prog 347 _ (ReflectliteType.abiMethod fun t=>do pure (.int .u8 (← Rtype.kind t))) Tryz.func347 (by kernel_rfl) (by kernel_rfl) (by kernel_rfl) (by kernel_rfl)
 have g:=@run_callFunc_extern Tryz.prog 360 _ (ReflectliteType.method ReflectliteType.elem) Tryz.func360 (by kernel_rfl) (by kernel_rfl) (by kernel_rfl) (by kernel_rfl)
 have i:=@run_callFunc_extern Tryz.prog 361 _ (ReflectliteType.relation "Implements" ReflectliteType.implements_) Tryz.func361 (by kernel_rfl) (by kernel_rfl) (by kernel_rfl) (by kernel_rfl)
 have k:=@run_callFunc_extern Tryz.prog 222 _ ReflectliteType.typeOf Tryz.func222 (by kernel_rfl) (by kernel_rfl) (by kernel_rfl) (by kernel_rfl)
 have l:=@run_callFunc_extern Tryz.prog 358 _ (ReflectliteType.relation "AssignableTo" ReflectliteType.assignableTo) Tryz.func358 (by kernel_rfl) (by kernel_rfl) (by kernel_rfl) (by kernel_rfl)
 have n:=@run_callFunc_extern Tryz.prog 223 _ (ReflectliteValue.method (ReflectliteValue.valueError "reflectlite.Value.Elem" 0) ReflectliteValue.elem) Tryz.func223 (by kernel_rfl) (by kernel_rfl) (by kernel_rfl) (by kernel_rfl)
 have h12:=@run_callFunc_extern Tryz.prog 224 _ ReflectliteValue.set Tryz.func224 (by kernel_rfl) (by kernel_rfl) (by kernel_rfl) (by kernel_rfl)
 have A:=Tryz.typeOfE
 have B:=Tryz.methodAssignableTo
 have o:=Tryz.assignableE
 have p:=Tryz.valueOfE
 have f6:=Tryz.valueOfP
 have C:=Tryz.typeP
 have D:=Tryz.methodKind
 have E:=Tryz.methodElem
 have F:=Tryz.methodImplements
 have q:=Tryz.kindP
 have r:=Tryz.kindE
 have s:=Tryz.elemP
 have v:=Tryz.implementsE
 have G:=Tryz.isNilP ⟨w.heap.size,0,none⟩ t ((w.alloc (.cells #[.pointer (some t)] 191)).alloc (.cells #[.pointer (some ⟨9,191,none⟩),.pointer (some ⟨w.heap.size,0,none⟩),.int .u64 150] 256)) (by simp)
 have x:((w.alloc (.cells #[.pointer (some t)] 191)).alloc (.cells #[.pointer (some ⟨9,191,none⟩),.pointer (some ⟨w.heap.size,0,none⟩),.int .u64 150] 256)).cell? ⟨0,0,none⟩=some (.iface 315 (.agg #[.pointer (some ⟨9,32,none⟩)])):=by
  rw[World.cell?_alloc_lt _ _ ⟨0,0,none⟩ (by simp <;> omega),World.cell?_alloc_lt _ _ ⟨0,0,none⟩ b];exact d
 have a:t.block < w.heap.size:=by
  rcases Nat.lt_or_ge t.block w.heap.size with h|h
  ·exact h
  ·simp[World.cell?,Array.getElem?_eq_none h] at ht0
 have el:=Tryz.elemVP ⟨w.heap.size,0,none⟩ t (((w.alloc (.cells #[.pointer (some t)] 191)).alloc (.cells #[.pointer (some ⟨9,191,none⟩),.pointer (some ⟨w.heap.size,0,none⟩),.int .u64 150] 256)).alloc (.cells #[.pointer (some ⟨9,191,none⟩),.pointer (some ⟨w.heap.size,0,none⟩),.int .u64 150] 256)) (by rw[World.cell?_alloc_lt _ _ ⟨w.heap.size,0,none⟩ (by simp;omega)];simp)
 have st:=Tryz.setE t ⟨w.heap.size+1+1+1,0,none⟩ e old ((((w.alloc (.cells #[.pointer (some t)] 191)).alloc (.cells #[.pointer (some ⟨9,191,none⟩),.pointer (some ⟨w.heap.size,0,none⟩),.int .u64 150] 256)).alloc (.cells #[.pointer (some ⟨9,191,none⟩),.pointer (some ⟨w.heap.size,0,none⟩),.int .u64 150] 256)).alloc (.cells #[.int .i64 e] 28))
  (by rw[World.cell?_alloc_at _ _ _ _ (by simp)];rfl)
  (by rw[World.cell?_alloc_lt _ _ t (by simp;omega),World.cell?_alloc_lt _ _ t (by simp;omega),World.cell?_alloc_lt _ _ t (by simp;omega),World.cell?_alloc_lt _ _ t a];exact ht0)
  (by rw[World.frozen?_alloc_old _ _ t (by simp;omega),World.frozen?_alloc_old _ _ t (by simp;omega),World.frozen?_alloc_old _ _ t (by simp;omega),World.frozen?_alloc_old _ _ t (Nat.ne_of_lt a)];exact hf0)
 clear hg0
 go_enter Tryz.func108,Tryz.ntmps108
 go_wp2
 refine wp_loop_rounds 1 ?_
 rw[rounds_succ]
 go_wp2
 go_ret
 exact ⟨rfl,rfl⟩
end
section
theorem told_err (e:Int) (w:World) (hg:Laid0 w):Calls Tryz.prog 56 #[.iface 28 (.int .i64 e)] w fun ev w'=>ev=.returned (.int .i64 e)∧Below w.heap.size w w':=by
 have hb:Below w.heap.size w (w.alloc (.cells #[.int .i64 0] 28)):=(Below.refl _ _).alloc (Nat.le_refl _) _
 have a:=hg.below hb
 have b:(w.alloc (.cells #[.int .i64 0] 28)).cell? ⟨w.heap.size,0,none⟩=some (.int .i64 0):=by simp
 have d:(w.alloc (.cells #[.int .i64 0] 28)).frozen? ⟨w.heap.size,0,none⟩=false:=by simp
 go_enter Tryz.func56,Tryz.ntmps56
 go_wp2_with (go_at_call 108;refine (as_hit e _ (.int .i64 0) _ a b d).mono ?_;rintro e w' ⟨rfl,rfl⟩)
 go_ret
 exact ⟨rfl,(((((Below.refl _ _).alloc (Nat.le_refl _) _).alloc (by simp) _).alloc (by simp <;> omega) _).alloc (by simp <;> omega) _).alloc (by simp <;> omega) _⟩
end
end Go.Proofs.YtgcojnlngchllaaGreatDoor
