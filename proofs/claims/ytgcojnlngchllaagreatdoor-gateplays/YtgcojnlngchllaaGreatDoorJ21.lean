import Derived.Test.YtgcojnlngchllaaGreatDoorJ20
import Derived.Maps.RangeWalk
import Derived.Test.YtgcojnlngchllaaGreatDoorJ19
namespace Go.Proofs.YtgcojnlngchllaaGreatDoor
open Go.RowKit Tryz
set_option linter.unusedVariables false
set_option maxRecDepth 100000
set_option maxHeartbeats 40000000
section
open Go.ChangeMaps (setBlock)
open Go.MapKept (Stamped)
variable {b clock:Nat}{k t:TypeId}{u:Value}{w:World}
def pX(k:TypeId)(S:Value->Prop):Prop :=
 (∀em v(w:World),S v->(Instr.checkKey em 10000 k v).run prog w=.ok () w) ∧
 (∀(w:World)x,S x->∀es:List MapEntry,(∀e∈es,S e.key)->((Instr.findKey k x es).run prog w=.ok none w∧∀e∈es,e.key≠x)∨∃j e,(Instr.findKey k x es).run prog w=.ok (some (j,e.val)) w∧es[j]? = some e∧e.key=x) ∧
 (∀(w:World)v,S v->(Instr.keyThatStays v v).run prog w=.ok v w)
def en(e:MapEntry):Value×Value:=(e.key,e.val)
def aY(S:Value->Prop)(b:Nat)(l:List (Value×Value))(w:World):Prop:=∃es clock,w.heap[b]? = some (.map es clock)∧Stamped es clock∧(es.toList.map en).Perm l∧∀e∈es.toList,S e.key
theorem aY.lt{S:Value->Prop}{l:List (Value×Value)}(h:aY S b l w):b<w.heap.size:=by obtain⟨es,c,h1,_⟩:=h;exact(Array.getElem?_eq_some_iff.1 h1).1
theorem aY.same{S:Value->Prop}{l:List (Value×Value)}{w':World}(h:aY S b l w)(e:w'.heap[b]? = w.heap[b]?):aY S b l w':=by obtain⟨es,c,h1,h2⟩:=h;exact⟨es,c,e.trans h1,h2⟩
theorem aY.perm{S:Value->Prop}{l l':List (Value×Value)}(h:aY S b l w)(e:l.Perm l'):aY S b l' w:=by obtain⟨es,c,h1,h2,h3,h4⟩:=h;exact⟨es,c,h1,h2,h3.trans e,h4⟩
theorem aY.nG{S:Value->Prop}{l:List (Value×Value)}(h:aY S b l w){cs:Array Value}{z:Nat×Nat}:w.heap[b]?≠some (.cells cs t z):=by obtain⟨es,c,h1,_⟩:=h;rw[h1];intro e;cases e
theorem Bt(S:Value->Prop)(w:World):aY S w.heap.size [] (w.alloc (.map #[] 0)):=⟨#[],0,heap_alloc_new w _,MapKept.stamped_empty 0,List.Perm.refl _,by simp⟩
theorem GL{es:Array MapEntry}(hs:Stamped es clock){x y:MapEntry}(hx:x∈es.toList)(hy:y∈es.toList)(h:x.key=y.key):x=y :=
 entry_eq_of_key ((MapKept.stamped_iff es clock).1 hs).2.2 hx hy h
theorem yg{es:Array MapEntry}{l:List (Value×Value)}(hp:(es.toList.map en).Perm l){x v:Value}(h:(x,v)∈l):∃e∈es.toList,e.key=x∧e.val=v:=by
 obtain⟨e,b,a⟩:=List.mem_map.1 (hp.mem_iff.2 h);unfold en at a;injection a with a e2
 exact⟨e,b,a,e2⟩
theorem aY.vo{S:Value->Prop}{l:List (Value×Value)}{el:TypeId}(K:pX k S)(ht:prog.underlying t=some (.map k el))(h:aY S b l w){x v:Value}(hx:S x)(hm:(x,v)∈l)(c:Bool): (Instr.lookup t (.map (some b)) x c).run prog w=.ok (if c then .tuple #[v,.bool true] else v) w:=by
 obtain⟨es,g,hb,hs,hp,i⟩:=h;obtain⟨e,a,d,f⟩:=yg hp hm;rcases K.2.1 w x hx es.toList i with⟨h1,h2⟩|⟨j,e1,h1,h2,h3⟩
 ·exact absurd d (h2 e a)
 ·have:e1=e:=GL hs (List.mem_of_getElem? h2) a (h3.trans d.symm);subst this;subst f;simp[Instr.lookup,run_underlying ht,MapKept.run_getObj_map hb,K.1 _ x w hx,h1,Result.andThen]
theorem aY.Bu{S:Value->Prop}{l:List (Value×Value)}{el:TypeId}(K:pX k S)(ht:prog.underlying t=some (.map k el))(h:aY S b l w){x z:Value}(hz:(zeroValue el).run prog w=.ok z w)(hx:S x)(hm:∀p∈l,p.1≠x)(c:Bool): (Instr.lookup t (.map (some b)) x c).run prog w=.ok (if c then .tuple #[z,.bool false] else z) w:=by
 obtain⟨es,a,hb,hs,hp,d⟩:=h;rcases K.2.1 w x hx es.toList d with⟨h1,h2⟩|⟨j,e1,h1,h2,h3⟩
 ·simp[Instr.lookup,run_underlying ht,MapKept.run_getObj_map hb,K.1 _ x w hx,h1,hz,Result.andThen]
 ·exact absurd h3 (hm (en e1) (hp.mem_iff.1 (List.mem_map.2 ⟨e1,List.mem_of_getElem? h2,rfl⟩)))
theorem yh{es:Array MapEntry}(hb:w.heap[b]? = some (.map es clock))(o:Obj):Only b w (setBlock w b o):=⟨rfl,rfl,rfl,by simp[setBlock],fun g hg=>ChangeMaps.heap_setBlock_other hb o hg⟩
theorem aY.Bv{S:Value->Prop}{l:List (Value×Value)}{el:TypeId}(K:pX k S)(ht:prog.underlying t=some (.map k el))(h:aY S b l w){x:Value}(v:Value)(hx:S x)(hm:∀p∈l,p.1≠x): ∃w',(Instr.mapUpdate t (.map (some b)) x v).run prog w=.ok () w'∧aY S b ((x,v)::l) w'∧Only b w w':=by
 obtain⟨es,a,hb,hs,hp,f⟩:=h;rcases K.2.1 w x hx es.toList f with⟨h1,h2⟩|⟨j,e1,h1,h2,h3⟩
 ·refine⟨setBlock w b (.map (es.push ⟨x,v,a⟩) (a+1)),?_,⟨_,_,ChangeMaps.heap_setBlock_same hb _,MapKept.stamped_push hs h2,?_,?_⟩,yh hb _⟩
  ·simp[Instr.mapUpdate,run_underlying ht,MapKept.run_getObj_map hb,K.1 _ x w hx,h1,MapKept.run_setObj_map _ hb,Result.andThen,setBlock]
  ·rw[Array.toList_push,List.map_append];exact(List.perm_append_singleton _ _).trans (hp.cons _)
  ·intro e d;simp only[Array.toList_push,List.mem_append,List.mem_singleton] at d;rcases d with d|rfl
   ·exact f e d
   ·exact hx
 ·exact absurd h3 (hm (en e1) (hp.mem_iff.1 (List.mem_map.2 ⟨e1,List.mem_of_getElem? h2,rfl⟩)))
theorem yj{α:Type}:∀(l:List α)(j:Nat)(x:α),l[j]? = some x->l.Perm (x::l.eraseIdx j)
 | [],_,_,h=>by simp at h
 | y::r,0,x,h=>by simp at h;subst h;exact List.Perm.refl _
 | y::r,j+1,x,h=>by have:=yj r j x (by simpa using h);simp only[List.eraseIdx_cons_succ];exact(this.cons y).trans (List.Perm.swap x y _)
theorem GN{es:Array MapEntry}(hs:Stamped es clock){l r:List (Value×Value)}(hp:(es.toList.map en).Perm l){x:Value}(hl:l.Perm ((x,u)::r)){j:Nat}{e1:MapEntry}(h2:es.toList[j]? = some e1)(h3:e1.key=x):((es.toList.eraseIdx j).map en).Perm r:=by obtain⟨f,b,a,d⟩:=yg (hp.trans hl) (List.mem_cons_self ..);have:e1=f:=GL hs (List.mem_of_getElem? h2) b (h3.trans a.symm);subst this;have e:=(yj es.toList j e1 h2).map en;rw[List.map_cons,show en e1=(x,u) by unfold en;rw[a,d]] at e;exact(e.symm.trans (hp.trans hl)).cons_inv
theorem aY.QI{S:Value->Prop}{l r:List (Value×Value)}{el:TypeId}(K:pX k S)(ht:prog.underlying t=some (.map k el))(h:aY S b l w){x:Value}(v:Value)(hx:S x)(hl:l.Perm ((x,u)::r)): ∃w',(Instr.mapUpdate t (.map (some b)) x v).run prog w=.ok () w'∧aY S b ((x,v)::r) w'∧Only b w w':=by
 obtain⟨es,d,hb,hs,hp,g⟩:=h;rcases K.2.1 w x hx es.toList g with⟨h1,h2⟩|⟨j,e1,h1,h2,h3⟩
 ·obtain⟨q,i,n,_⟩:=yg (hp.trans hl) (List.mem_cons_self ..);exact absurd n (h2 q i)
 ·have o:es[j]? = some e1:=by simpa using h2
  have a:(es.modify j (fun e'=>{ e' with key:=x,val:=v })).toList=es.toList.set j { e1 with key:=x,val:=v }:=by rw[Array.toList_modify,ChangeMaps.modify_eq_set _ _ _ _ h2]
  have p:j<es.toList.length:=(List.getElem?_eq_some_iff.1 h2).1;refine⟨setBlock w b (.map (es.modify j fun e'=>{ e' with key:=x,val:=v }) d),?_,⟨_,_,ChangeMaps.heap_setBlock_same hb _,MapKept.stamped_modify hs _ _ (fun _ _=>rfl) (fun e' _ he'=>by rw[o] at he';cases he';exact h3.symm),?_,?_⟩,yh hb _⟩
  ·simp[Instr.mapUpdate,run_underlying ht,MapKept.run_getObj_map hb,K.1 _ x w hx,h1,o,h3,K.2.2 w x hx,MapKept.run_setObj_map _ hb,Result.andThen,setBlock]
  ·rw[a];refine((ChangeMaps.set_perm _ _ p _).map en).trans ?_;rw[List.map_cons];exact(GN hs hp hl h2 h3).cons _
  ·rw[a];intro e f;rcases List.mem_or_eq_of_mem_set f with f|rfl
   ·exact g e f
   ·exact hx
theorem aY.strike{S:Value->Prop}{l r:List (Value×Value)}{el:TypeId}(K:pX k S)(ht:prog.underlying t=some (.map k el))(h:aY S b l w){x:Value}(hx:S x)(hl:l.Perm ((x,u)::r))(ty:TypeId): ∃w',(Builtin.delete_ #[t,k] ty #[.map (some b),x]).run prog w=.ok (.tuple #[]) w'∧aY S b r w'∧Only b w w':=by
 obtain⟨es,d,hb,hs,hp,f⟩:=h;rcases K.2.1 w x hx es.toList f with⟨h1,h2⟩|⟨j,e1,h1,h2,h3⟩
 ·obtain⟨p,g,i,_⟩:=yg (hp.trans hl) (List.mem_cons_self ..);exact absurd i (h2 p g)
 ·have n:j<es.toList.length:=(List.getElem?_eq_some_iff.1 h2).1;have o:j<es.size:=by simpa using n
  have a:(es.eraseIdxIfInBounds j).toList=es.toList.eraseIdx j:=by unfold Array.eraseIdxIfInBounds;rw[dif_pos o];simp
  refine⟨setBlock w b (.map (es.eraseIdxIfInBounds j) d),?_,⟨_,_,ChangeMaps.heap_setBlock_same hb _,MapKept.stamped_erase hs j,?_,?_⟩,yh hb _⟩
  ·simp[Builtin.delete_,run_underlying ht,MapKept.run_getObj_map hb,K.1 _ x w hx,h1,MapKept.run_setObj_map _ hb,Result.andThen,setBlock]
  ·rw[a];exact GN hs hp hl h2 h3
  ·rw[a];intro e q;exact f e ((List.eraseIdx_sublist _ _).subset q)
def fP(S:Value->Prop)(b r:Nat)(l rem:List (Value×Value))(w:World):Prop:=∃es clock since seen c0,w.heap[b]? = some (.map es clock)∧Stamped es clock∧(es.toList.map en).Perm l∧(∀e∈es.toList,S e.key)∧w.heap[r]? = some (.mapIter (some b) since seen c0)∧(∀x∈es.toList,x.born<since)∧((leftOf es seen).toList.map en).Perm rem∧since<=c0∧since<=clock
theorem fP.same{S:Value->Prop}{r:Nat}{l rem:List (Value×Value)}{w':World}(h:fP S b r l rem w)(e1:w'.heap[b]? = w.heap[b]?)(e2:w'.heap[r]? = w.heap[r]?):fP S b r l rem w':=by obtain⟨es,c,s,n,c0,a,d,e,h4,f,g⟩:=h;exact⟨es,c,s,n,c0,e1.trans a,d,e,h4,e2.trans f,g⟩
theorem fP.perm{S:Value->Prop}{r:Nat}{l rem nH:List (Value×Value)}(h:fP S b r l rem w)(e:rem.Perm nH):fP S b r l nH w:=by obtain⟨es,c,s,n,c0,a,d,f,h4,g,i,k,h8⟩:=h;exact⟨es,c,s,n,c0,a,d,f,h4,g,i,k.trans e,h8⟩
theorem fP.lt{S:Value->Prop}{r:Nat}{l rem:List (Value×Value)}(h:fP S b r l rem w):b<w.heap.size∧r<w.heap.size:=by obtain⟨es,c,s,n,c0,a,e,f,h4,d,g⟩:=h;exact⟨(Array.getElem?_eq_some_iff.1 a).1,(Array.getElem?_eq_some_iff.1 d).1⟩
theorem fP.nG{S:Value->Prop}{r:Nat}{l rem:List (Value×Value)}(h:fP S b r l rem w){cs:Array Value}{z:Nat×Nat}:w.heap[r]?≠some (.cells cs t z):=by obtain⟨es,c,s,n,c0,d,f,g,h4,a,i⟩:=h;rw[a];intro e;cases e
theorem fP.ne{S:Value->Prop}{r:Nat}{l rem:List (Value×Value)}(h:fP S b r l rem w):r≠b:=by obtain⟨es,c,s,n,c0,d,e,f,h4,a,g⟩:=h;rintro rfl;rw[d] at a;cases a
theorem fP.left{S:Value->Prop}{r:Nat}{l rem:List (Value×Value)}(h:fP S b r l rem w):w.rangeLeft b r=rem.length:=by obtain⟨es,c,s,n,c0,a,f,g,h4,d,i,e,h8⟩:=h;unfold World.rangeLeft;rw[a,d];have:=e.length_eq;simpa using this
theorem fP.start{S:Value->Prop}{l:List (Value×Value)}{el:TypeId}(ht:prog.underlying t=some (.map k el))(h:aY S b l w): ∃w',(Instr.range t (.map (some b))).run prog w=.ok (.pointer (some ⟨w.heap.size,0,none⟩)) w'∧fP S b w.heap.size l l w'∧Below w.heap.size w w':=by
 have d:=h.lt;obtain⟨es,a,hb,hs,hp,e⟩:=h;refine⟨_,run_range_map w t k el b es a ht hb,⟨es,a,a,#[],a,((MapKept.heap_alloc w _).2 b d).trans hb,hs,hp,e,(MapKept.heap_alloc w _).1,hs.1,?_,Nat.le_refl _,Nat.le_refl _⟩,au w _⟩;have f:(leftOf es #[]).toList=es.toList:=by unfold leftOf;rw[Array.toList_filter];exact List.filter_eq_self.2 (fun _ _=>by simp)
 rw[f];exact hp
theorem GQ(e:MapEntry):∀L:List MapEntry,(L.map (·.born)).Nodup->e∈L->L.Perm (e::L.filter (fun x=>!(x.born == e.born)))
 | [],_,h=>by simp at h
 | y::r,hn,h=>by
  rw[List.map_cons,List.nodup_cons] at hn;rcases List.mem_cons.1 h with rfl|h
  ·have:(e::r).filter (fun x=>!(x.born == e.born))=r:=by
    rw[List.filter_cons_of_neg (by simp),List.filter_eq_self];intro x b;have:x.born≠e.born:=fun e1=>hn.1 (List.mem_map.2 ⟨x,b,e1⟩)
    simpa using this
   rw[this]
  ·have a:y.born≠e.born:=fun e1=>hn.1 (List.mem_map.2 ⟨e,h,e1.symm⟩)
   rw[List.filter_cons_of_pos (by simpa using a)];exact((GQ e r hn.2 h).cons y).trans (List.Perm.swap e y _)
theorem QJ(es:Array MapEntry)(seen:Array Nat)(n:Nat):(leftOf es (seen.push n)).toList=(leftOf es seen).toList.filter (fun x=>!(x.born == n)):=by
 unfold leftOf;rw[Array.toList_filter,Array.toList_filter,List.filter_filter];refine List.filter_congr fun x _=>?_
 rw[contains_push];cases seen.contains x.born<;>cases (x.born == n)<;>rfl
theorem fP.next{S:Value->Prop}{r:Nat}{l rem:List (Value×Value)}(h:fP S b r l rem w)(ty:TypeId): (rem=[]∧(Instr.next (.pointer (some ⟨r,0,none⟩)) false ty).run prog w=.ok (.tuple #[.bool false]) w) ∨ ∃key v nH w',rem.Perm ((key,v)::nH)∧(Instr.next (.pointer (some ⟨r,0,none⟩)) false ty).run prog w=.ok (.tuple #[.bool true,key,v]) w'∧fP S b r l nH w'∧Only r w w'∧(Instr.entry (.pointer (some ⟨r,0,none⟩))).run prog w'=.ok (.tuple #[key,v]) w':=by
 have t:=h.ne;obtain⟨es,a,d,f,c0,hb,hs,hp,D,x,k,n,y,o⟩:=h;rcases run_next_at (P:=prog) w ty r b d c0 f es a x hb k y with⟨h0,hrun⟩|⟨e,he,w1,hal,hrun⟩
 ·refine .inl ⟨?_,hrun⟩;have:=n.length_eq;rw[List.length_map] at this;exact List.length_eq_zero_iff.1 (by rw[<-this];simpa using h0)
 ·have z:e∈es.toList:=by unfold leftOf at he;simp at he⊢;exact he.1
  have A:w1.heap[r]? = some (.mapIter (some b) d f c0):=by rcases hal with rfl|rfl<;>exact x
  have B:w1.heap[b]? = some (.map es a):=by rcases hal with rfl|rfl<;>exact hb
  have i:=MapKept.heap_set (w:=w1) (r:=r) (o':=.mapIter (some b) d (f.push e.born) a) A;have p:(setBlock w1 r (.mapIter (some b) d (f.push e.born) a)).heap[b]? = some (.map es a):=(i.2 b (fun e1=>t e1.symm)).trans B;have q:=(MapKept.stamped_iff es a).1 hs;have C:((leftOf es f).toList.map (·.born)).Nodup:=by unfold leftOf;rw[Array.toList_filter];exact((List.filter_sublist (l:=es.toList)).map _).nodup q.2.1
  have s:=(GQ e _ C he).map en;rw[List.map_cons,<-QJ] at s;refine .inr ⟨e.key,e.val,_,_,n.symm.trans s,hrun,⟨es,a,d,f.push e.born,a,p,hs,hp,D,i.1,k,List.Perm.refl _,o,o⟩,?_,run_entry_at _ r b d f es a e i.1 p z q.2.1⟩;rcases hal with rfl|rfl<;>exact⟨rfl,rfl,rfl,by simp[setBlock],fun g hg=>i.2 g hg⟩
theorem QK{S:Value->Prop}{ops:Array Oper}{rest:List Oper}{o:Oper}{a:Act}{Q:Exit->Act->World->Prop}(hg:o.guard=none)(m:Operand)(t:TypeId)(hop:o.op=Op.range t m)(k e:TypeId)(ht:prog.underlying t=some (.map k e))(b:Nat)(l:List (Value×Value))(hm:a.eval m=.map (some b))(h:aY S b l w)(hK:∀w',fP S b w.heap.size l l w'->Below w.heap.size w w'->wpList prog ops Q rest (a.put o.dst (.pointer (some ⟨w.heap.size,0,none⟩))) w'):wpList prog ops Q (o::rest) a w:=by
 refine wpList_plain hg fun K' hK'=>?_
 obtain⟨w',d,r1,f⟩:=fP.start ht h;unfold Oper.wp;simp[execOp,hop,hm,d,Result.andThen];exact hK' _ _ (hK w' r1 f)
theorem QL{S:Value->Prop}{ops:Array Oper}{rest:List Oper}{o:Oper}{a:Act}{Q:Exit->Act->World->Prop}(hg:o.guard=none)(it:Operand)(hop:o.op=Op.next it false)(b r:Nat)(l rem:List (Value×Value))(hit:a.eval it=.pointer (some ⟨r,0,none⟩))(h:fP S b r l rem w)(hD:rem=[]->wpList prog ops Q rest (a.put o.dst (.tuple #[.bool false])) w)(hM:∀key v nH w',rem.Perm ((key,v)::nH)->fP S b r l nH w'->Only r w w'->(Instr.entry (.pointer (some ⟨r,0,none⟩))).run prog w'=.ok (.tuple #[key,v]) w'->wpList prog ops Q rest (a.put o.dst (.tuple #[.bool true,key,v])) w'):wpList prog ops Q (o::rest) a w:=by
 refine wpList_plain hg fun K' hK'=>?_
 unfold Oper.wp;rcases h.next o.type with⟨h0,hrun⟩|⟨key,v,nH,w',hp,hrun,hr,hon,hen⟩
 ·simp[execOp,hop,hit,hrun,Result.andThen];exact hK' _ _ (hD h0)
 ·simp[execOp,hop,hit,hrun,Result.andThen];exact hK' _ _ (hM key v nH w' hp hr hon hen)
end
section
def iE(v:Value):Prop:=∃f,v=.agg (ak f)
def iP(v:Value):Prop:=∃a,v=.int .i64 a
theorem QM(em:Bool)(f:List Int)(w:World):(Instr.checkKey em 10000 89 (.agg (ak f))).run prog w=.ok () w:=by kernel_rfl
theorem GR(f:List Int)(w:World):∀(es:List MapEntry)(i:Nat),(∀e∈es,iE e.key)->((Instr.findAsking 89 (.agg (ak f)) es i).run prog w=.ok none w∧∀e∈es,e.key≠.agg (ak f))∨∃j e,(Instr.findAsking 89 (.agg (ak f)) es i).run prog w=.ok (some (i+j,e.val)) w∧es[j]? = some e∧e.key=.agg (ak f)
 | [],i,_=>.inl ⟨rfl,by simp⟩
 | e::r,i,h=>by
  obtain⟨g,hg⟩:=h e (List.mem_cons_self ..);have hq:(Op.equal 89 (.agg (ak f)) e.key).run prog w=.ok (iV f g) w:=by rw[hg];exact Fz f g w
  unfold Instr.findAsking;rw[Sem.run_bind,hq,Result.andThen_ok];cases hc:iV f g
  ·have hne:e.key≠.agg (ak f):=fun e1=>by
    rw[hg] at e1;injection e1 with e1
    rw[(mh f g).2 e1.symm] at hc;cases hc
   simp only[Bool.false_eq_true,if_false];rcases GR f w r (i+1) (fun e he=>h e (List.mem_cons_of_mem _ he)) with⟨h1,h2⟩|⟨j,e1,h1,h2,h3⟩
   ·refine .inl ⟨h1,fun e' he'=>?_⟩;rcases List.mem_cons.1 he' with rfl|he'
    ·exact hne
    ·exact h2 e' he'
   ·refine .inr ⟨j+1,e1,?_,by simpa using h2,h3⟩;rw[show i+(j+1)=i+1+j by omega];exact h1
  ·simp only[if_true];exact .inr ⟨0,e,rfl,rfl,by rw[hg,(mh f g).1 hc]⟩
theorem QN(w:World)(x:Value)(hx:iE x)(es:List MapEntry)(h:∀e∈es,iE e.key):((Instr.findKey 89 x es).run prog w=.ok none w∧∀e∈es,e.key≠x)∨∃j e,(Instr.findKey 89 x es).run prog w=.ok (some (j,e.val)) w∧es[j]? = some e∧e.key=x:=by
 obtain⟨f,rfl⟩:=hx;unfold Instr.findKey;rw[Sem.run_bind,run_underlying underlying89,Result.andThen_ok];cases es with
 | nil=>exact .inl ⟨rfl,by simp⟩
 | cons e r =>
  obtain⟨g,a⟩:=h e (List.mem_cons_self ..);have hn:∀d,Instr.findNow (.struct d) (.agg (ak f)) (e::r) 0=none:=fun d=>by unfold Instr.findNow;rw[a];rfl
  rw[hn];rcases GR f w (e::r) 0 h with h1|⟨j,e1,h1,h2⟩
  ·exact .inl h1
  ·exact .inr ⟨j,e1,by rw[Nat.zero_add] at h1;exact h1,h2⟩
theorem QO(f:List Int)(w:World):(Instr.keyThatStays (.agg (ak f)) (.agg (ak f))).run prog w=.ok (.agg (ak f)) w:=by
 have hs:Instr.sameBits 10000 (.agg (ak f)) (.agg (ak f))=true:=by show Instr.sameBits (9999+1) (.agg (ak f)) (.agg (ak f))=true;simp[Instr.sameBits,ak]
 simp[Instr.keyThatStays,hs]
theorem qU:pX 89 iE :=
 ⟨fun em v w hv=>by obtain⟨f,rfl⟩:=hv;exact QM em f w,fun w x hx es h=>QN w x hx es h,fun w v hv=>by obtain⟨f,rfl⟩:=hv;exact QO f w⟩
theorem ou:pX 3 iP:=by
 have b:∀v,iP v->MapKept.IsKey (.int .i64) v:=fun v ⟨a,e⟩=>by rw[e];simp[MapKept.IsKey]
 refine⟨fun em v w hv=>MapKept.run_checkKey underlying3 (b v hv) em 9999,fun w x hx es h=>?_,fun w v hv=>MapKept.run_keyThatStays (b v hv)⟩;rcases MapKept.findNow_spec (b x hx) es 0 (fun y hy=>b _ (h y hy)) with⟨h1,h2⟩|⟨j,e0,h1,h2,h3⟩
 ·exact .inl ⟨MapKept.run_findKey underlying3 h1,h2⟩
 ·exact .inr ⟨j,e0,by simpa using MapKept.run_findKey underlying3 h1,h2,h3⟩
theorem pY:prog.underlying 149 = some (.map 89 95):=underlying149
theorem yt:prog.underlying 150 = some (.map 3 89):=underlying150
theorem QS(w:World):(zeroValue 95).run prog w=.ok (.agg (ay [])) w:=by kernel_rfl
theorem QT(w:World):(zeroValue 89).run prog w=.ok (.agg (ak [])) w:=by kernel_rfl
end
section
theorem GU(x:Int)(W:World):Calls prog 153 #[.int .i64 65535,.slice (some ⟨W.heap.size,0,none⟩) 1 1] (W.alloc (.cells #[.int .i64 x] 3)) fun e w'=>e=.returned (.bool (wd x))∧Below W.heap.size W w' :=
 (Av 65535 W.heap.size 1 [x] _ rfl (by omega) (jo W [x])).mono fun e w' ⟨h1,h2⟩=>⟨h1.trans (by rw[show iL 65535 [x]=wd x by unfold iL fB wd;simp]),by rw[h2];exact au _ _⟩
theorem sW(x:Int)(W:World):Calls prog 153 #[.int .i64 1099511627776,.slice (some ⟨W.heap.size,0,none⟩) 1 1] (W.alloc (.cells #[.int .i64 x] 3)) fun e w'=>e=.returned (.bool (tc x))∧Below W.heap.size W w' :=
 (Av 1099511627776 W.heap.size 1 [x] _ rfl (by omega) (jo W [x])).mono fun e w' ⟨h1,h2⟩=>⟨h1.trans (by rw[show iL 1099511627776 [x]=tc x by unfold iL fB tc;simp]),by rw[h2];exact au _ _⟩
def lf(k:Int):Int:=if k=17 then 30 else 100
theorem QU(k:Int)(w:World):Calls prog 157 #[.int .i64 k] w fun e w'=>e=.returned (.int .i64 (lf k))∧w'=w:=by
 by_cases h0:k=17
 ·subst h0;go_enter func157,ntmps157;go_wp2;go_ret;exact⟨rfl,rfl⟩
 ·have e:(k == 17)=false:=by simpa using h0
  rw[show lf k=100 by unfold lf;rw[if_neg h0]];go_enter func157,ntmps157;go_wp2;go_ret;exact⟨rfl,rfl⟩
attribute [local go_sem ↓] gy
end
section
variable {p:Int}{f:List Int}{BB F N P T k:Nat}{aC:Nat->List Int}{w:World}
def dV(b:List Int):Value×Value:=(.agg (ak b),.agg (ay b))
def gJ(b:List Int):Value×Value:=(.int .i64 (el b 19),.agg (ak b))
def eH(T P F N:Nat)(w:World):Prop:=w.heap[T]? = some (.cells #[.pointer (some ⟨P,0,none⟩),.map (some F),.map (some N)] 152 (0,0))
theorem eH.lt(h:eH T P F N w):T<w.heap.size:=(Array.getElem?_eq_some_iff.1 h).1
theorem eH.c0(h:eH T P F N w):w.cell? ⟨T,0,none⟩=some (.pointer (some ⟨P,0,none⟩)):=cell_of_row w T 0 _ _ _ h
theorem eH.c1(h:eH T P F N w):w.cell? ⟨T,1,none⟩=some (.map (some F)):=cell_of_row w T 1 _ _ _ h
theorem eH.c2(h:eH T P F N w):w.cell? ⟨T,2,none⟩=some (.map (some N)):=cell_of_row w T 2 _ _ _ h
def TC(T P BB F N m:Nat)(aC:Nat->List Int)(ts:Nat->Bool)(bs:List (List Int))(w:World):Prop:=eH T P F N w∧eZ P BB m aC ts w∧aY iE F (bs.map dV) w∧aY iP N (bs.map gJ) w∧F≠N
theorem TC.same{m:Nat}{ts:Nat->Bool}{bs:List (List Int)}{w':World}(h:TC T P BB F N m aC ts bs w)(hs:∀g,(g=T∨g=P∨g=BB∨g=F∨g=N)->w'.heap[g]? = w.heap[g]?):TC T P BB F N m aC ts bs w' :=
 ⟨(hs T (.inl rfl)).trans h.1,⟨(hs P (.inr (.inl rfl))).trans h.2.1.1,h.2.1.2.same (hs BB (.inr (.inr (.inl rfl))))⟩,h.2.2.1.same (hs F (.inr (.inr (.inr (.inl rfl))))),h.2.2.2.1.same (hs N (.inr (.inr (.inr (.inr rfl))))),h.2.2.2.2⟩
theorem TC.lt{m:Nat}{ts:Nat->Bool}{bs:List (List Int)}(h:TC T P BB F N m aC ts bs w)(g:Nat)(hg:g=T∨g=P∨g=BB∨g=F∨g=N):g<w.heap.size:=by
 rcases hg with rfl|rfl|rfl|rfl|rfl
 ·exact h.1.lt
 ·exact h.2.1.lt
 ·exact h.2.1.2.lt
 ·exact h.2.2.1.lt
 ·exact h.2.2.2.1.lt
theorem TC.kept{m:Nat}{ts:Nat->Bool}{bs:List (List Int)}{w':World}(h:TC T P BB F N m aC ts bs w)(hb:Below w.heap.size w w'):TC T P BB F N m aC ts bs w':=h.same fun g hg=>hb.block g (h.lt g hg)
theorem TC.ne{m:Nat}{ts:Nat->Bool}{bs:List (List Int)}(h:TC T P BB F N m aC ts bs w):(T≠P∧T≠BB∧T≠F∧T≠N)∧(P≠BB∧P≠F∧P≠N)∧BB≠F∧BB≠N∧F≠N:=by
 obtain⟨b,⟨d,c3,a,_⟩,h4,e,f⟩:=h;unfold eH at b;refine⟨⟨?_,?_,?_,?_⟩,⟨?_,?_,?_⟩,?_,?_,f⟩
 ·rintro rfl;rw[b] at d;cases d
 ·rintro rfl;rw[b] at a;cases a
 ·rintro rfl;exact h4.nG b
 ·rintro rfl;exact e.nG b
 ·rintro rfl;rw[d] at a;cases a
 ·rintro rfl;exact h4.nG d
 ·rintro rfl;exact e.nG d
 ·rintro rfl;exact h4.nG a
 ·rintro rfl;exact e.nG a
def iX(v:Value)(m:Nat)(ws:Nat->List Int)(ts:Nat->Bool)(bs:List (List Int))(O:Nat->Prop)(w:World):Prop:=∃T P BB F N aC,v=.pointer (some ⟨T,0,none⟩)∧TC T P BB F N m aC ts bs w∧mq ws aC ts m∧O=fun g=>g=T∨g=P∨g=BB∨g=F∨g=N
theorem fZ:sV iX:=by rintro v m ws ts bs O w ⟨T,P,a,F,N,b,rfl,h,d,rfl⟩;exact⟨fun g hg=>h.lt g hg,fun w' _ hs=>⟨T,P,a,F,N,b,rfl,h.same hs,d,rfl⟩⟩
theorem nN{bs:List (List Int)}(h:bY bs f=some k):k<bs.length∧bs.getD k []∈bs∧ak (bs.getD k [])=ak f:=by unfold bY at h;have d:=List.find?_some h;have b:=List.mem_range.1 (List.mem_of_find?_eq_some h);exact⟨b,nE b,(mh _ _).1 d⟩
theorem GV{bs:List (List Int)}(h:bY bs f=none):∀p∈bs.map dV,p.1≠.agg (ak f):=by intro p hp e;obtain⟨b,hb,rfl⟩:=List.mem_map.1 hp;obtain⟨i,a,d⟩:=List.mem_iff_getElem.1 hb;unfold bY at h;rw[List.find?_eq_none] at h;refine h i (List.mem_range.2 a) ?_;rw[List.getD_eq_getElem?_getD,List.getElem?_eq_getElem a,Option.getD_some,d];refine(mh _ _).2 ?_;unfold dV at e;injection e
theorem Bw{bs:List (List Int)}(h:prt bs p=some k):k<bs.length∧bs.getD k []∈bs∧el (bs.getD k []) 19=p:=by unfold prt at h;have b:=List.find?_some h;have a:=List.mem_range.1 (List.mem_of_find?_eq_some h);exact⟨a,nE a,by simpa using b⟩
theorem QV{bs:List (List Int)}(h:prt bs p=none):∀q∈bs.map gJ,q.1≠.int .i64 p:=by
 intro q d e;obtain⟨b,hb,rfl⟩:=List.mem_map.1 d;obtain⟨i,a,f⟩:=List.mem_iff_getElem.1 hb;unfold prt at h;rw[List.find?_eq_none] at h;refine h i (List.mem_range.2 a) ?_;rw[List.getD_eq_getElem?_getD,List.getElem?_eq_getElem a,Option.getD_some,f];unfold gJ at e;injection e with _ e
 simpa using e
def jy(m x:Value)(c:Bool):Sem Value:=Instr.lookup 149 m x c
theorem yu(m x:Value)(c:Bool):Instr.lookup 149 m x c=jy m x c:=rfl
def p8(m x:Value)(c:Bool):Sem Value:=Instr.lookup 150 m x c
theorem GX(m x:Value)(c:Bool):Instr.lookup 150 m x c=p8 m x c:=rfl
theorem aY.GY{bs:List (List Int)}(h:aY iE F (bs.map dV) w)(hk:bY bs f=some k):(jy (.map (some F)) (.agg (ak f)) true).run prog w=.ok (.tuple #[.agg (ay (bs.getD k [])),.bool true]) w∧(jy (.map (some F)) (.agg (ak f)) false).run prog w=.ok (.agg (ay (bs.getD k []))) w:=by obtain⟨_,b,d⟩:=nN hk;have a:((.agg (ak f):Value),(.agg (ay (bs.getD k [])):Value))∈bs.map dV:=List.mem_map.2 ⟨_,b,by unfold dV;rw[d]⟩;exact⟨h.vo qU pY ⟨f,rfl⟩ a true,h.vo qU pY ⟨f,rfl⟩ a false⟩
theorem aY.Bz{bs:List (List Int)}(h:aY iE F (bs.map dV) w)(hk:bY bs f=none):(jy (.map (some F)) (.agg (ak f)) true).run prog w=.ok (.tuple #[.agg (ay []),.bool false]) w :=
 h.Bu qU pY (QS w) ⟨f,rfl⟩ (GV hk) true
theorem aY.yw{bs:List (List Int)}(h:aY iP N (bs.map gJ) w)(hk:prt bs p=some k):(p8 (.map (some N)) (.int .i64 p) true).run prog w=.ok (.tuple #[.agg (ak (bs.getD k [])),.bool true]) w:=by obtain⟨_,a,b⟩:=Bw hk;have d:((.int .i64 p:Value),(.agg (ak (bs.getD k [])):Value))∈bs.map gJ:=List.mem_map.2 ⟨_,a,by unfold gJ;rw[b]⟩;exact h.vo ou yt ⟨p,rfl⟩ d true
theorem aY.pno{bs:List (List Int)}(h:aY iP N (bs.map gJ) w)(hk:prt bs p=none):(p8 (.map (some N)) (.int .i64 p) true).run prog w=.ok (.tuple #[.agg (ak []),.bool false]) w :=
 h.Bu ou yt (QT w) ⟨p,rfl⟩ (QV hk) true
theorem QW(b:Int)(w:World)(hb:b<1∨16<b):Calls prog 28 #[.int .i64 b] w fun e w'=>(∃v,e=.returned (.tuple #[v,err 1]))∧Below w.heap.size w w':=by
 have a:=ki (QB b w hb);unfold err at a;clear hb;go_enter func28,ntmps28;go_wp2_with (go_at_call 76;refine a.o.mono ?_;rintro e d ⟨rfl,rfl⟩)
 go_ret2;exact⟨⟨_,rfl⟩,Below.refl _ _⟩
theorem QX(m:Nat)(w:World)(h1:1<=m)(hm:m<=16):Calls prog 28 #[.int .i64 m] w fun e w'=>∃T P BB F N,e=.returned (.tuple #[.pointer (some ⟨T,0,none⟩),.nilIface])∧TC T P BB F N m (fun _=>[]) (fun _=>false) [] w'∧(w.heap.size<=T∧w.heap.size<=P∧w.heap.size<=BB∧w.heap.size<=F∧w.heap.size<=N)∧Below w.heap.size w w':=by
 have k:=ki (QC m w h1 hm);clear h1 hm;go_enter func28,ntmps28;have n:=@run_makeMap prog;go_wp2_with (go_at_call 76;refine k.o.mono ?_;rintro e a ⟨P,BB,rfl,hp,h1,h,hb⟩;replace hp:=ki hp;replace h1:=ki (And.intro h1 h);replace hb:=ki hb;clear h)
 go_ret2;have i:=au a (.map #[] 0);have b:=au (a.alloc (.map #[] 0)) (.map #[] 0);have d:=au ((a.alloc (.map #[] 0)).alloc (.map #[] 0)) (.cells #[.pointer (some ⟨P,0,none⟩),.map (some a.heap.size),.map (some (a.heap.size+1))] 152);have f:=Bt iE a;have g:=Bt iP (a.alloc (.map #[] 0));rw[World.size_alloc] at g;have l:eH (a.heap.size+1+1) P a.heap.size (a.heap.size+1) (((a.alloc (.map #[] 0)).alloc (.map #[] 0)).alloc (.cells #[.pointer (some ⟨P,0,none⟩),.map (some a.heap.size),.map (some (a.heap.size+1))] 152)):=by have:=heap_alloc_new ((a.alloc (.map #[] 0)).alloc (.map #[] 0)) (.cells #[.pointer (some ⟨P,0,none⟩),.map (some a.heap.size),.map (some (a.heap.size+1))] 152);rw[World.size_alloc,World.size_alloc] at this;exact this
 have hs:=hb.o.size;exact⟨a.heap.size+1+1,P,BB,a.heap.size,a.heap.size+1,rfl,⟨l,((hp.o.kept i).kept b).kept d,(f.same (b.block _ f.lt)).same (d.block _ (Nat.lt_of_lt_of_le f.lt b.size)),g.same (d.block _ g.lt),by omega⟩,⟨by omega,h1.o.1,h1.o.2,hs,by omega⟩,bt (bt (bt hb.o i) b) d⟩
theorem QY:Gm iX:=by refine⟨QW,fun m w h1 hm=>(QX m w h1 hm).mono ?_⟩;rintro e b ⟨T,P,a,F,N,rfl,h,⟨d,f,i,g4,k⟩,hb⟩;exact⟨_,_,rfl,⟨T,P,a,F,N,_,rfl,h,fun _ _ _ _ _=>rfl,rfl⟩,fun g hg=>by rcases hg with rfl|rfl|rfl|rfl|rfl<;>assumption,hb⟩
end
section
theorem BA(w:World):aJ w.heap.size [] (w.alloc (.cells aV 95)).drew:=fu w
attribute [local go_sem ↓] gP gV yu oJ
theorem QZ(v:Value)(f:List Int)(w:World)(hf:aW f=false): Calls prog 144 #[v,.agg (ak f)] w fun r w'=>r=.returned (.tuple #[.agg (ay []),err 1])∧Below w.heap.size w w':=by
 have h:=ki (fun W=>om f W);rw[hf,show ev (fe false)=err 1 from rfl] at h;unfold err at h;have a:=ki (bt (au w (.cells (ak f) 89)) (au _ (.cells aV 95)));have i:=ki (show bn w.heap.size f ((w.alloc (.cells (ak f) 89)).alloc (.cells aV 95)) from(iC f w).kept (au _ _));have b:=ki (show aJ (w.heap.size+1) [] ((w.alloc (.cells (ak f) 89)).alloc (.cells aV 95)) by have:=fu (w.alloc (.cells (ak f) 89));rw[World.size_alloc] at this;exact this);unfold aV at a i b;clear hf;go_enter func144,ntmps144;go_upto_region 1 with fail
 generalize (w.alloc _).alloc _=W at a i b⊢;have n:=i.o.fl;go_wp2_with (first|(go_at_call 199;(with_reducible refine(h.o _).mono ?_);rintro e o ⟨rfl,d⟩;replace a:=ki (bt a.o d);replace b:=ki (b.o.kept d);clear d n)|(refine fF rfl (.tmp 4) (.tmp 13) rfl rfl b.o [] rfl ?_;intro p k g;have l:=ki (g.below a.o (Nat.le_succ _));replace k:=ki k;clear g))
 try simp only[Exit.inBlock,Exit.then]
 refine bodyPost_ret (iW rfl _ _ (w.heap.size+1) [] rfl k.o) rfl ?_;exact⟨rfl,l.o⟩
theorem GZ(T P F N:Nat)(f x:List Int)(ok:Bool)(w:World)(hf:aW f=true)(ht:eH T P F N w)(hl:∀W,Below w.heap.size w W->(jy (.map (some F)) (.agg (ak f)) true).run prog W=.ok (.tuple #[.agg (ay x),.bool ok]) W)(hx:ok=false->x=[]): Calls prog 144 #[.pointer (some ⟨T,0,none⟩),.agg (ak f)] w fun r w'=>r=.returned (.tuple #[.agg (ay x),if ok=true then .nilIface else err 4])∧Below w.heap.size w w':=by
 have E:=ki (fun W=>om f W);rw[hf,show ev (fe true)=.nilIface from rfl] at E;have d:=ki (bt (au w (.cells (ak f) 89)) (au _ (.cells aV 95)));have b:=ki (show bn w.heap.size f ((w.alloc (.cells (ak f) 89)).alloc (.cells aV 95)) from(iC f w).kept (au _ _));have h:=ki (show aJ (w.heap.size+1) [] ((w.alloc (.cells (ak f) 89)).alloc (.cells aV 95)) by have:=fu (w.alloc (.cells (ak f) 89));rw[World.size_alloc] at this;exact this);have G:=ki (fun W (hb:Below w.heap.size w W)=>show eH T P F N W from(hb.block T ht.lt).trans ht);have H:=ki hl;have L:=ki hx;have I:=ki (fun W=>(fu W));unfold aV at d b h I;clear hf ht hl hx;go_enter func144,ntmps144;go_upto_region 1 with fail
 generalize (w.alloc _).alloc _=W at d b h⊢;have M:=b.o.fl;go_upto_region 4 with(go_at_call 199;(with_reducible refine(E.o _).mono ?_);rintro e a ⟨rfl,k⟩;replace d:=ki (bt d.o k);replace b:=ki (b.o.kept k);replace h:=ki (h.o.kept k);clear k M)
 clear E W;rename World=>a
 have p:=ki (show Below w.heap.size w a.drew from d.o.drew);have l:=ki (show Below w.heap.size w (a.alloc (.cells aV 95)).drew from(bt d.o (au a _)).drew);have n:=ki (show bn w.heap.size f (a.alloc (.cells aV 95)).drew from b.o.kept (au a _).drew);have v:=ki (show aJ (w.heap.size+1) [] (a.alloc (.cells aV 95)).drew from h.o.kept (au a _).drew);obtain⟨J,y,K,o⟩:=(BA a).held x;have q:=ki (o.below l.o (Nat.le_trans d.o.size (Nat.le_refl _)));have z:w.heap.size+1≠a.heap.size:=by have:=h.o.lt;omega
 have A:=ki (show aJ (w.heap.size+1) [] J from(o.2.2.2.2 _ z).trans v.o);have B:=ki K;have s:=ki (show ∀W',Below w.heap.size w W'->bn w.heap.size f W'->W'.cell? ⟨T,1,none⟩=some (.map (some F))∧(bO (.pointer (some ⟨w.heap.size,0,none⟩))).run prog W'=.ok (.agg (ak f)) W'∧(jy (.map (some F)) (.agg (ak f)) true).run prog W'=.ok (.tuple #[.agg (ay x),.bool ok]) W' from fun W' h1 h2=>⟨(G.o W' h1).c1,h2.fl,H.o W' h1⟩);have C:=ki (show bn w.heap.size f J from(o.2.2.2.2 _ (by have:=b.o.lt;omega)).trans n.o);unfold aV at l n y;clear o K G H v z;obtain⟨c1,O,Q⟩:=s.o _ p.o b.o;go_region_held3 (fun W'=>W'.cell? ⟨T,1,none⟩=some (.map (some F))∧(bO (.pointer (some ⟨w.heap.size,0,none⟩))).run prog W'=.ok (.agg (ak f)) W'∧(jy (.map (some F)) (.agg (ak f)) true).run prog W'=.ok (.tuple #[.agg (ay x),.bool ok]) W')
  (first
   | exact s.o _ p.o b.o
   | exact s.o _ l.o n.o
   | exact s.o _ q.o C.o
   | go_keep)
  (fail)
 all_goals
  clear c1 O Q y p l n C s d b h I;generalize a.heap.size=D at B⊢;have S:=B.o.bl;cases ok
  ·go_wp2_with (refine fF rfl (.tmp 4) (.tmp 26) rfl rfl A.o [] rfl ?_;intro R i g;have t:=ki (g.below q.o (Nat.le_succ _));replace i:=ki i;clear g)
   try simp only[Exit.inBlock,Exit.then]
   refine bodyPost_ret (iW rfl _ _ (w.heap.size+1) [] rfl i.o) rfl ?_;exact⟨by rw[L.o (by simp)];rfl,t.o⟩
  ·go_wp2_with (refine fF rfl (.tmp 4) (.tmp 28) rfl rfl A.o x rfl ?_;intro R i g;have t:=ki (g.below q.o (Nat.le_succ _));replace i:=ki i;clear g)
   try simp only[Exit.inBlock,Exit.then]
   refine bodyPost_ret (iW rfl _ _ (w.heap.size+1) x rfl i.o) rfl ?_;exact⟨rfl,t.o⟩
theorem G5:uZ iX:=by
 rintro v m ws ts bs O w f x e b hl hb ⟨T,P,d,F,N,g,rfl,h,i,rfl⟩ a;rcases a with⟨h1,rfl,rfl⟩|⟨h1,h2,rfl,rfl⟩|⟨h1,k,h2,rfl,rfl⟩
 ·exact QZ _ f w h1
 ·exact GZ T P F N f [] false w h1 h.1 (fun W hW=>(h.2.2.1.same (hW.block F h.2.2.1.lt)).Bz h2) (fun _=>rfl)
 ·exact GZ T P F N f _ true w h1 h.1 (fun W hW=>((h.2.2.1.same (hW.block F h.2.2.1.lt)).GY h2).1) (fun e=>by cases e)
end
section
variable {w:World}
def oK:Array Value:=#[.int .i64 0,.int .i64 0,.int .i64 0,.int .i64 0,.int .i64 0,.int .i64 0,.int .i64 0,.int .i64 0,.int .i64 0,.int .i64 0,.int .i64 0,.int .i64 0,.int .i64 0,.int .i64 0,.int .i64 0,.int .i64 0,.int .i64 0,.int .i64 0,.int .i64 0]
theorem qh(w:World):bn w.heap.size [] (w.alloc (.cells oK 89)):=heap_alloc_new w _
theorem bn.stored{B:Nat}{b0:List Int}(p:bn B b0 w)(b:List Int):bn B b (w.setRow B (ak b)):=setRow_heap w B _ _ _ (0,0) p
theorem qm{ops:Array Oper}{rest:List Oper}{o:Oper}{f:Act}{Q:Exit->Act->World->Prop}(hgd:o.guard=none)(x y:Operand)(ho:o.op=.store 89 x y){B:Nat}{b0:List Int}(hx:f.eval x=.pointer (some ⟨B,0,none⟩))(p:bn B b0 w)(b:List Int)(hy:f.eval y=.agg (ak b))(hK:∀w',bn B b w'->Only B w w'->wpList prog ops Q rest (f.put o.dst undef) w'):wpList prog ops Q (o::rest) f w :=
 wpList_store_row hgd 89 x y ho B _ hx hy 89 _ p (by kernel_rfl) rfl (by unfold ak;simp[Value.oneCell']) (hK _ (p.stored b) (dS _ _ _))
theorem aY.G6{F:Nat}{bs:List (List Int)}(h:aY iE F (bs.map dV) w){b:List Int}(hb:b∈bs):(jy (.map (some F)) (.agg (ak b)) false).run prog w=.ok (.agg (ay b)) w :=
 h.vo qU pY ⟨b,rfl⟩ (List.mem_map.2 ⟨b,hb,rfl⟩) false
attribute [local go_sem ↓] gP gV yu GX oJ
theorem G7(T P F N:Nat)(kind p:Int)(fl:List Int)(ok:Bool)(w:World)(ht:eH T P F N w)(hl:∀W,Below w.heap.size w W->(p8 (.map (some N)) (.int .i64 p) true).run prog W=.ok (.tuple #[.agg (ak fl),.bool ok]) W)(hk:ok=true->(el fl 0 == kind)=false): Calls prog 102 #[.pointer (some ⟨T,0,none⟩),.int .i64 kind,.int .i64 p] w fun r w'=>r=.returned (.tuple #[.agg (ay []),err 4])∧Below w.heap.size w w':=by
 have a:=ki (au w (.cells aV 95));have e:=ki (fu w);have n:=ki (fun W (hb:Below w.heap.size w W)=>show eH T P F N W from(hb.block T ht.lt).trans ht);have o:=ki hl;have k:=ki hk;have l:=ki (fun W=>(qh W));unfold aV at a e;unfold oK at l;clear ht hl hk;go_enter func102,ntmps102;go_upto_region 1 with fail
 generalize w.alloc _=W at a e⊢;have c2:=(n.o W a.o).c2;have q:=o.o W a.o;go_upto_region 2 with(refine qm rfl (.tmp 8) (.tmp 17) rfl rfl (l.o W) fl rfl ?_;intro t h i;have f:=bq _ i;replace a:=ki (bt a.o f);replace e:=ki (e.o.kept f);replace h:=ki h;clear i f)
 clear c2 q n o l;generalize W.heap.size=D at h⊢;have c0:=h.o.cell 0 (by omega);obtain⟨y,hy⟩:∃y,el fl 0=y:=⟨_,rfl⟩;rw[hy] at c0 k;clear hy;cases ok
 ·go_wp2_with (refine fF rfl (.tmp 6) (.tmp 27) rfl rfl e.o [] rfl ?_;intro s d b;have g:=ki (b.below a.o (Nat.le_refl _));replace d:=ki d;clear b)
  try simp only[Exit.inBlock,Exit.then]
  refine bodyPost_ret (iW rfl _ _ w.heap.size [] rfl d.o) rfl ?_;exact⟨rfl,g.o⟩
 ·have v:(y != kind)=true:=by have:=k.o rfl;simpa using this
  clear k;go_wp2_with (refine fF rfl (.tmp 6) (.tmp 27) rfl rfl e.o [] rfl ?_;intro s d b;have g:=ki (b.below a.o (Nat.le_refl _));replace d:=ki d;clear b)
  try simp only[Exit.inBlock,Exit.then]
  refine bodyPost_ret (iW rfl _ _ w.heap.size [] rfl d.o) rfl ?_;exact⟨rfl,g.o⟩
theorem Q0(T P F N:Nat)(p:Int)(b:List Int)(w:World)(ht:eH T P F N w)(hl:∀W,Below w.heap.size w W->(p8 (.map (some N)) (.int .i64 p) true).run prog W=.ok (.tuple #[.agg (ak b),.bool true]) W∧(jy (.map (some F)) (.agg (ak b)) false).run prog W=.ok (.agg (ay b)) W): Calls prog 102 #[.pointer (some ⟨T,0,none⟩),.int .i64 (el b 0),.int .i64 p] w fun r w'=>r=.returned (.tuple #[.agg (ay b),.nilIface])∧Below w.heap.size w w':=by
 have a:=ki (au w (.cells aV 95));have e:=ki (fu w);have s:=ki (fun W (hb:Below w.heap.size w W)=>show eH T P F N W from(hb.block T ht.lt).trans ht);have t:=ki hl;have v:=ki (fun W=>(qh W));unfold aV at a e;unfold oK at v;clear ht hl;obtain⟨y,hy⟩:∃y,el b 0=y:=⟨_,rfl⟩;rw[hy];have z:=ki hy;clear hy;go_enter func102,ntmps102;go_upto_region 1 with fail
 generalize w.alloc _=W at a e⊢;have c2:=(s.o W a.o).c2;have A:=(t.o W a.o).1;go_upto_region 2 with(refine qm rfl (.tmp 8) (.tmp 17) rfl rfl (v.o W) b rfl ?_;intro l f n;have g:=bq _ n;replace a:=ki (bt a.o g);replace e:=ki (e.o.kept g);replace f:=ki f;clear n g)
 clear c2 A v;generalize W.heap.size=D at f⊢;have c0:=f.o.cell 0 (by omega);rw[z.o] at c0;have G:(y != y)=false:=by simp
 rename World=>l
 go_upto_region 4 with fail
 clear c0 G;have h:=ki (show Below w.heap.size w l.drew from a.o.drew);have i:=ki (show aJ w.heap.size [] l.drew from e.o);have d:=ki (show bn D b l.drew from f.o);obtain⟨H,I,B,k⟩:=i.o.held b;have o:=ki (k.below h.o (Nat.le_refl _));have C:=ki B;have q:D≠w.heap.size:=by
  rintro rfl;have h1:=i.o;have h2:=d.o;unfold aJ at h1;unfold bn at h2;rw[h1] at h2;injection h2 with h2
  injection h2 with _ h2
  exact absurd h2 (by decide)
 have E:=ki (show bn D b H from(k.2.2.2.2 _ q).trans d.o);have x:=ki (show ∀W',Below w.heap.size w W'->bn D b W'->W'.cell? ⟨T,1,none⟩=some (.map (some F))∧(bO (.pointer (some ⟨D,0,none⟩))).run prog W'=.ok (.agg (ak b)) W'∧(jy (.map (some F)) (.agg (ak b)) false).run prog W'=.ok (.agg (ay b)) W' from fun W' h1 h2=>⟨(s.o W' h1).c1,h2.fl,(t.o W' h1).2⟩);clear k B s t q i z;obtain⟨c1,J,A⟩:=x.o _ h.o d.o;go_region_held3 (fun W'=>W'.cell? ⟨T,1,none⟩=some (.map (some F))∧(bO (.pointer (some ⟨D,0,none⟩))).run prog W'=.ok (.agg (ak b)) W'∧(jy (.map (some F)) (.agg (ak b)) false).run prog W'=.ok (.agg (ay b)) W')
  (first
   | exact x.o _ h.o d.o
   | exact x.o _ o.o E.o
   | go_keep)
  (fail)
 all_goals
  go_wp2_with fail
  try simp only[Exit.inBlock,Exit.then]
  refine bodyPost_ret (iW rfl _ _ w.heap.size b rfl C.o) rfl ?_;exact⟨rfl,o.o⟩
theorem G8:uY iX:=by
 rintro v m ws ts bs O w kind p x e f hl hb ⟨T,P,g,F,N,i,rfl,h,l,rfl⟩ hn;have a:=fun W (hW:Below w.heap.size w W)=>h.2.2.2.1.same (hW.block N h.2.2.2.1.lt)
 have b:=fun W (hW:Below w.heap.size w W)=>h.2.2.1.same (hW.block F h.2.2.1.lt)
 rcases hn with⟨h1,rfl,rfl⟩|⟨k,h1,h2,rfl,rfl⟩|⟨k,h1,h2,rfl,rfl⟩
 ·exact G7 T P F N kind p [] false w h.1 (fun W hW=>(a W hW).pno h1) (fun e=>by cases e)
 ·exact G7 T P F N kind p _ true w h.1 (fun W hW=>(a W hW).yw h1) (fun _=>h2)
 ·have d:el (bs.getD k []) 0=kind:=by simpa using h2
  rw[<-d];exact Q0 T P F N p _ w h.1 (fun W hW=>⟨(a W hW).yw h1,(b W hW).G6 (Bw h1).2.1⟩)
end
end Go.Proofs.YtgcojnlngchllaaGreatDoor
