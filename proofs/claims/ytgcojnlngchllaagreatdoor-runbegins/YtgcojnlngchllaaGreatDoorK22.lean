/- Maps as lists of entries: a look, a store, a strike, a range. Keys that are flows, keys that are ints. Package bind's small ones by contracts: upTo, life, Check; Check4 of package addr. The program's table of binds as it lies in the heap: its ports, a map by flows, a map by ports; New. Find, Near: the bind of a flow, the bind at a port. Near and Use. -/
import Derived.Maps.RangeWalk
import Derived.Test.YtgcojnlngchllaaGreatDoorK19
import Derived.Test.YtgcojnlngchllaaGreatDoorK21
namespace Go.Proofs.YtgcojnlngchllaaGreatDoor
open Go.RowKit
set_option linter.unusedVariables false
set_option maxRecDepth 100000
set_option maxHeartbeats 40000000
section
open Go.ChangeMaps (setBlock)
open Go.MapKept (Stamped)
variable {b clock:Nat} {k t:TypeId} {u:Value} {w:World}
def KO (k:TypeId) (S:Value→Prop):Prop :=
 (∀ em v (w:World),S v→(Instr.checkKey em 10000 k v).run Tryz.prog w=.ok () w) ∧
 (∀ (w:World) x,S x→∀ es:List MapEntry,(∀ e ∈ es,S e.key)→((Instr.findKey k x es).run Tryz.prog w=.ok none w∧∀ e ∈ es,e.key≠x)∨∃ j e,(Instr.findKey k x es).run Tryz.prog w=.ok (some (j,e.val)) w∧es[j]? = some e∧e.key=x) ∧
 (∀ (w:World) v,S v→(Instr.keyThatStays v v).run Tryz.prog w=.ok v w)
def en (e:MapEntry):Value×Value:=(e.key,e.val)
def MP (S:Value→Prop) (b:Nat) (l:List (Value×Value)) (w:World):Prop:=∃ es clock,w.heap[b]? = some (.map es clock)∧Stamped es clock∧(es.toList.map en).Perm l∧∀ e ∈ es.toList,S e.key
theorem MP.lt {S:Value→Prop} {l:List (Value×Value)} (h:MP S b l w):b < w.heap.size:=by obtain ⟨es,c,h1,_⟩:=h;exact (Array.getElem?_eq_some_iff.1 h1).1
theorem MP.same {S:Value→Prop} {l:List (Value×Value)} {w':World} (h:MP S b l w) (e:w'.heap[b]? = w.heap[b]?):MP S b l w':=by obtain ⟨es,c,h1,h2⟩:=h;exact ⟨es,c,e.trans h1,h2⟩
theorem MP.perm {S:Value→Prop} {l l':List (Value×Value)} (h:MP S b l w) (e:l.Perm l'):MP S b l' w:=by obtain ⟨es,c,h1,h2,h3,h4⟩:=h;exact ⟨es,c,h1,h2,h3.trans e,h4⟩
theorem MP.notcells {S:Value→Prop} {l:List (Value×Value)} (h:MP S b l w) {cs:Array Value} {z:Nat×Nat}:w.heap[b]?≠some (.cells cs t z):=by obtain ⟨es,c,h1,_⟩:=h;rw[h1];intro e;cases e
theorem mp_new (S:Value→Prop) (w:World):MP S w.heap.size [] (w.alloc (.map #[] 0)):=⟨#[],0,heap_alloc_new w _,MapKept.stamped_empty 0,List.Perm.refl _,by simp⟩
theorem key_one {es:Array MapEntry} (hs:Stamped es clock) {x y:MapEntry} (hx:x ∈ es.toList) (hy:y ∈ es.toList) (h:x.key=y.key):x=y :=
 entry_eq_of_key ((MapKept.stamped_iff es clock).1 hs).2.2 hx hy h
theorem mem_en {es:Array MapEntry} {l:List (Value×Value)} (hp:(es.toList.map en).Perm l) {x v:Value} (h:(x,v) ∈ l):∃ e ∈ es.toList,e.key=x∧e.val=v:=by
 obtain ⟨e,b,a⟩:=List.mem_map.1 (hp.mem_iff.2 h)
 unfold en at a
 injection a with a e2
 exact ⟨e,b,a,e2⟩
theorem MP.look_yes {S:Value→Prop} {l:List (Value×Value)} {el:TypeId} (K:KO k S) (ht:Tryz.prog.underlying t=some (.map k el)) (h:MP S b l w) {x v:Value} (hx:S x) (hm:(x,v) ∈ l) (c:Bool) :
  (Instr.lookup t (.map (some b)) x c).run Tryz.prog w=.ok (if c then .tuple #[v,.bool true] else v) w:=by
 obtain ⟨es,g,hb,hs,hp,i⟩:=h
 obtain ⟨e,a,d,f⟩:=mem_en hp hm
 rcases K.2.1 w x hx es.toList i with ⟨h1,h2⟩|⟨j,e1,h1,h2,h3⟩
 ·exact absurd d (h2 e a)
 ·have:e1=e:=key_one hs (List.mem_of_getElem? h2) a (h3.trans d.symm)
  subst this
  subst f
  simp[Instr.lookup,run_underlying ht,MapKept.run_getObj_map hb,K.1 _ x w hx,h1,Result.andThen]
theorem MP.look_no {S:Value→Prop} {l:List (Value×Value)} {el:TypeId} (K:KO k S) (ht:Tryz.prog.underlying t=some (.map k el)) (h:MP S b l w) {x z:Value} (hz:(zeroValue el).run Tryz.prog w=.ok z w) (hx:S x) (hm:∀ p ∈ l,p.1≠x) (c:Bool) :
  (Instr.lookup t (.map (some b)) x c).run Tryz.prog w=.ok (if c then .tuple #[z,.bool false] else z) w:=by
 obtain ⟨es,a,hb,hs,hp,d⟩:=h
 rcases K.2.1 w x hx es.toList d with ⟨h1,h2⟩|⟨j,e1,h1,h2,h3⟩
 ·simp[Instr.lookup,run_underlying ht,MapKept.run_getObj_map hb,K.1 _ x w hx,h1,hz,Result.andThen]
 ·exact absurd h3 (hm (en e1) (hp.mem_iff.1 (List.mem_map.2 ⟨e1,List.mem_of_getElem? h2,rfl⟩)))
theorem only_block {es:Array MapEntry} (hb:w.heap[b]? = some (.map es clock)) (o:Obj):Only b w (setBlock w b o):=⟨rfl,rfl,rfl,by simp[setBlock],fun g hg=>ChangeMaps.heap_setBlock_other hb o hg⟩
theorem MP.store_new {S:Value→Prop} {l:List (Value×Value)} {el:TypeId} (K:KO k S) (ht:Tryz.prog.underlying t=some (.map k el)) (h:MP S b l w) {x:Value} (v:Value) (hx:S x) (hm:∀ p ∈ l,p.1≠x) :
  ∃ w',(Instr.mapUpdate t (.map (some b)) x v).run Tryz.prog w=.ok () w'∧MP S b ((x,v)::l) w'∧Only b w w':=by
 obtain ⟨es,a,hb,hs,hp,f⟩:=h
 rcases K.2.1 w x hx es.toList f with ⟨h1,h2⟩|⟨j,e1,h1,h2,h3⟩
 ·refine ⟨setBlock w b (.map (es.push ⟨x,v,a⟩) (a+1)),?_,⟨_,_,ChangeMaps.heap_setBlock_same hb _,MapKept.stamped_push hs h2,?_,?_⟩,only_block hb _⟩
  ·simp[Instr.mapUpdate,run_underlying ht,MapKept.run_getObj_map hb,K.1 _ x w hx,h1,MapKept.run_setObj_map _ hb,Result.andThen,setBlock]
  ·rw[Array.toList_push,List.map_append]
   exact (List.perm_append_singleton _ _).trans (hp.cons _)
  ·intro e d
   simp only[Array.toList_push,List.mem_append,List.mem_singleton] at d
   rcases d with d|rfl
   ·exact f e d
   ·exact hx
 ·exact absurd h3 (hm (en e1) (hp.mem_iff.1 (List.mem_map.2 ⟨e1,List.mem_of_getElem? h2,rfl⟩)))
theorem erase_perm {α:Type}:∀ (l:List α) (j:Nat) (x:α),l[j]? = some x→l.Perm (x::l.eraseIdx j)
 | [],_,_,h=>by simp at h
 | y::r,0,x,h=>by simp at h;subst h;exact List.Perm.refl _
 | y::r,j+1,x,h=>by
  have:=erase_perm r j x (by simpa using h)
  simp only[List.eraseIdx_cons_succ]
  exact (this.cons y).trans (List.Perm.swap x y _)
theorem rest_perm {es:Array MapEntry} (hs:Stamped es clock) {l r:List (Value×Value)} (hp:(es.toList.map en).Perm l) {x:Value} (hl:l.Perm ((x,u)::r)) {j:Nat} {e1:MapEntry} (h2:es.toList[j]? = some e1) (h3:e1.key=x):((es.toList.eraseIdx j).map en).Perm r:=by
 obtain ⟨f,b,a,d⟩:=mem_en (hp.trans hl) (List.mem_cons_self ..)
 have:e1=f:=key_one hs (List.mem_of_getElem? h2) b (h3.trans a.symm)
 subst this
 have e:=(erase_perm es.toList j e1 h2).map en
 rw[List.map_cons,show en e1=(x,u) by unfold en;rw[a,d]] at e
 exact (e.symm.trans (hp.trans hl)).cons_inv
theorem MP.store_old {S:Value→Prop} {l r:List (Value×Value)} {el:TypeId} (K:KO k S) (ht:Tryz.prog.underlying t=some (.map k el)) (h:MP S b l w) {x:Value} (v:Value) (hx:S x) (hl:l.Perm ((x,u)::r)) :
  ∃ w',(Instr.mapUpdate t (.map (some b)) x v).run Tryz.prog w=.ok () w'∧MP S b ((x,v)::r) w'∧Only b w w':=by
 obtain ⟨es,d,hb,hs,hp,g⟩:=h
 rcases K.2.1 w x hx es.toList g with ⟨h1,h2⟩|⟨j,e1,h1,h2,h3⟩
 ·obtain ⟨q,i,n,_⟩:=mem_en (hp.trans hl) (List.mem_cons_self ..)
  exact absurd n (h2 q i)
 ·have o:es[j]? = some e1:=by simpa using h2
  have a:(es.modify j (fun e'=>{ e' with key:=x,val:=v })).toList=es.toList.set j { e1 with key:=x,val:=v }:=by rw[Array.toList_modify,ChangeMaps.modify_eq_set _ _ _ _ h2]
  have p:j < es.toList.length:=(List.getElem?_eq_some_iff.1 h2).1
  refine ⟨setBlock w b (.map (es.modify j fun e'=>{ e' with key:=x,val:=v }) d),?_,⟨_,_,ChangeMaps.heap_setBlock_same hb _,MapKept.stamped_modify hs _ _ (fun _ _=>rfl) (fun e' _ he'=>by rw[o] at he';cases he';exact h3.symm),?_,?_⟩,only_block hb _⟩
  ·simp[Instr.mapUpdate,run_underlying ht,MapKept.run_getObj_map hb,K.1 _ x w hx,h1,o,h3,K.2.2 w x hx,MapKept.run_setObj_map _ hb,Result.andThen,setBlock]
  ·rw[a]
   refine ((ChangeMaps.set_perm _ _ p _).map en).trans ?_
   rw[List.map_cons]
   exact (rest_perm hs hp hl h2 h3).cons _
  ·rw[a]
   intro e f
   rcases List.mem_or_eq_of_mem_set f with f|rfl
   ·exact g e f
   ·exact hx
theorem MP.strike {S:Value→Prop} {l r:List (Value×Value)} {el:TypeId} (K:KO k S) (ht:Tryz.prog.underlying t=some (.map k el)) (h:MP S b l w) {x:Value} (hx:S x) (hl:l.Perm ((x,u)::r)) (ty:TypeId) :
  ∃ w',(Builtin.delete_ #[t,k] ty #[.map (some b),x]).run Tryz.prog w=.ok (.tuple #[]) w'∧MP S b r w'∧Only b w w':=by
 obtain ⟨es,d,hb,hs,hp,f⟩:=h
 rcases K.2.1 w x hx es.toList f with ⟨h1,h2⟩|⟨j,e1,h1,h2,h3⟩
 ·obtain ⟨p,g,i,_⟩:=mem_en (hp.trans hl) (List.mem_cons_self ..)
  exact absurd i (h2 p g)
 ·have n:j < es.toList.length:=(List.getElem?_eq_some_iff.1 h2).1
  have o:j < es.size:=by simpa using n
  have a:(es.eraseIdxIfInBounds j).toList=es.toList.eraseIdx j:=by
   unfold Array.eraseIdxIfInBounds
   rw[dif_pos o]
   simp
  refine ⟨setBlock w b (.map (es.eraseIdxIfInBounds j) d),?_,⟨_,_,ChangeMaps.heap_setBlock_same hb _,MapKept.stamped_erase hs j,?_,?_⟩,only_block hb _⟩
  ·simp[Builtin.delete_,run_underlying ht,MapKept.run_getObj_map hb,K.1 _ x w hx,h1,MapKept.run_setObj_map _ hb,Result.andThen,setBlock]
  ·rw[a]
   exact rest_perm hs hp hl h2 h3
  ·rw[a]
   intro e q
   exact f e ((List.eraseIdx_sublist _ _).subset q)
def MR (S:Value→Prop) (b r:Nat) (l rem:List (Value×Value)) (w:World):Prop:=∃ es clock since seen c0,w.heap[b]? = some (.map es clock)∧Stamped es clock∧(es.toList.map en).Perm l∧(∀ e ∈ es.toList,S e.key)∧w.heap[r]? = some (.mapIter (some b) since seen c0)∧(∀ x ∈ es.toList,x.born < since)∧((leftOf es seen).toList.map en).Perm rem∧since≤c0∧since≤clock
theorem MR.same {S:Value→Prop} {r:Nat} {l rem:List (Value×Value)} {w':World} (h:MR S b r l rem w) (e1:w'.heap[b]? = w.heap[b]?) (e2:w'.heap[r]? = w.heap[r]?):MR S b r l rem w':=by
 obtain ⟨es,c,s,n,c0,a,d,e,h4,f,g⟩:=h
 exact ⟨es,c,s,n,c0,e1.trans a,d,e,h4,e2.trans f,g⟩
theorem MR.perm {S:Value→Prop} {r:Nat} {l rem rem':List (Value×Value)} (h:MR S b r l rem w) (e:rem.Perm rem'):MR S b r l rem' w:=by
 obtain ⟨es,c,s,n,c0,a,d,f,h4,g,i,k,h8⟩:=h
 exact ⟨es,c,s,n,c0,a,d,f,h4,g,i,k.trans e,h8⟩
theorem MR.lt {S:Value→Prop} {r:Nat} {l rem:List (Value×Value)} (h:MR S b r l rem w):b < w.heap.size∧r < w.heap.size:=by
 obtain ⟨es,c,s,n,c0,a,e,f,h4,d,g⟩:=h
 exact ⟨(Array.getElem?_eq_some_iff.1 a).1,(Array.getElem?_eq_some_iff.1 d).1⟩
theorem MR.notcells {S:Value→Prop} {r:Nat} {l rem:List (Value×Value)} (h:MR S b r l rem w) {cs:Array Value} {z:Nat×Nat}:w.heap[r]?≠some (.cells cs t z):=by
 obtain ⟨es,c,s,n,c0,d,f,g,h4,a,i⟩:=h
 rw[a];intro e;cases e
theorem MR.ne {S:Value→Prop} {r:Nat} {l rem:List (Value×Value)} (h:MR S b r l rem w):r≠b:=by
 obtain ⟨es,c,s,n,c0,d,e,f,h4,a,g⟩:=h
 rintro rfl
 rw[d] at a;cases a
theorem MR.left {S:Value→Prop} {r:Nat} {l rem:List (Value×Value)} (h:MR S b r l rem w):w.rangeLeft b r=rem.length:=by
 obtain ⟨es,c,s,n,c0,a,f,g,h4,d,i,e,h8⟩:=h
 unfold World.rangeLeft
 rw[a,d]
 have:=e.length_eq
 simpa using this
theorem MR.start {S:Value→Prop} {l:List (Value×Value)} {el:TypeId} (ht:Tryz.prog.underlying t=some (.map k el)) (h:MP S b l w) :
  ∃ w',(Instr.range t (.map (some b))).run Tryz.prog w=.ok (.pointer (some ⟨w.heap.size,0,none⟩)) w'∧MR S b w.heap.size l l w'∧Below w.heap.size w w':=by
 have d:=h.lt
 obtain ⟨es,a,hb,hs,hp,e⟩:=h
 refine ⟨_,run_range_map w t k el b es a ht hb,⟨es,a,a,#[],a,((MapKept.heap_alloc w _).2 b d).trans hb,hs,hp,e,(MapKept.heap_alloc w _).1,hs.1,?_,Nat.le_refl _,Nat.le_refl _⟩,al_below w _⟩
 have f:(leftOf es #[]).toList=es.toList:=by
  unfold leftOf
  rw[Array.toList_filter]
  exact List.filter_eq_self.2 (fun _ _=>by simp)
 rw[f]
 exact hp
theorem perm_strike (e:MapEntry):∀ L:List MapEntry,(L.map (·.born)).Nodup→e ∈ L→L.Perm (e::L.filter (fun x=>!(x.born == e.born)))
 | [],_,h=>by simp at h
 | y::r,hn,h=>by
  rw[List.map_cons,List.nodup_cons] at hn
  rcases List.mem_cons.1 h with rfl|h
  ·have:(e::r).filter (fun x=>!(x.born == e.born))=r:=by
    rw[List.filter_cons_of_neg (by simp),List.filter_eq_self]
    intro x b
    have:x.born≠e.born:=fun e1=>hn.1 (List.mem_map.2 ⟨x,b,e1⟩)
    simpa using this
   rw[this]
  ·have a:y.born≠e.born:=fun e1=>hn.1 (List.mem_map.2 ⟨e,h,e1.symm⟩)
   rw[List.filter_cons_of_pos (by simpa using a)]
   exact ((perm_strike e r hn.2 h).cons y).trans (List.Perm.swap e y _)
theorem left_push (es:Array MapEntry) (seen:Array Nat) (n:Nat):(leftOf es (seen.push n)).toList=(leftOf es seen).toList.filter (fun x=>!(x.born == n)):=by
 unfold leftOf
 rw[Array.toList_filter,Array.toList_filter,List.filter_filter]
 refine List.filter_congr fun x _=>?_
 rw[contains_push]
 cases seen.contains x.born <;> cases (x.born == n) <;> rfl
theorem MR.next {S:Value→Prop} {r:Nat} {l rem:List (Value×Value)} (h:MR S b r l rem w) (ty:TypeId) :
  (rem=[]∧(Instr.next (.pointer (some ⟨r,0,none⟩)) false ty).run Tryz.prog w=.ok (.tuple #[.bool false]) w) ∨
  ∃ key v rem' w',rem.Perm ((key,v)::rem')∧(Instr.next (.pointer (some ⟨r,0,none⟩)) false ty).run Tryz.prog w=.ok (.tuple #[.bool true,key,v]) w'∧MR S b r l rem' w'∧Only r w w'∧(Instr.entry (.pointer (some ⟨r,0,none⟩))).run Tryz.prog w'=.ok (.tuple #[key,v]) w':=by
 have t:=h.ne
 obtain ⟨es,a,d,f,c0,hb,hs,hp,D,x,k,n,y,o⟩:=h
 rcases run_next_at (P:=Tryz.prog) w ty r b d c0 f es a x hb k y with ⟨h0,hrun⟩|⟨e,he,w1,hal,hrun⟩
 ·refine .inl ⟨?_,hrun⟩
  have:=n.length_eq
  rw[List.length_map] at this
  exact List.length_eq_zero_iff.1 (by rw[← this];simpa using h0)
 ·have z:e ∈ es.toList:=by unfold leftOf at he;simp at he ⊢;exact he.1
  have A:w1.heap[r]? = some (.mapIter (some b) d f c0):=by rcases hal with rfl|rfl <;> exact x
  have B:w1.heap[b]? = some (.map es a):=by rcases hal with rfl|rfl <;> exact hb
  have i:=MapKept.heap_set (w:=w1) (r:=r) (o':=.mapIter (some b) d (f.push e.born) a) A
  have p:(setBlock w1 r (.mapIter (some b) d (f.push e.born) a)).heap[b]? = some (.map es a):=(i.2 b (fun e1=>t e1.symm)).trans B
  have q:=(MapKept.stamped_iff es a).1 hs
  have C:((leftOf es f).toList.map (·.born)).Nodup:=by
   unfold leftOf
   rw[Array.toList_filter]
   exact ((List.filter_sublist (l:=es.toList)).map _).nodup q.2.1
  have s:=(perm_strike e _ C he).map en
  rw[List.map_cons,← left_push] at s
  refine .inr ⟨e.key,e.val,_,_,n.symm.trans s,hrun,⟨es,a,d,f.push e.born,a,p,hs,hp,D,i.1,k,List.Perm.refl _,o,o⟩,?_,run_entry_at _ r b d f es a e i.1 p z q.2.1⟩
  rcases hal with rfl|rfl <;> exact ⟨rfl,rfl,rfl,by simp[setBlock],fun g hg=>i.2 g hg⟩
theorem at_rng {S:Value→Prop} {ops:Array Oper} {rest:List Oper} {o:Oper} {a:Act} {Q:Exit→Act→World→Prop} (hg:o.guard=none) (m:Operand) (t:TypeId) (hop:o.op=Op.range t m) (k e:TypeId) (ht:Tryz.prog.underlying t=some (.map k e)) (b:Nat) (l:List (Value×Value)) (hm:a.eval m=.map (some b)) (h:MP S b l w)
  (hK:∀ w',MR S b w.heap.size l l w'→Below w.heap.size w w'→wpList Tryz.prog ops Q rest (a.put o.dst (.pointer (some ⟨w.heap.size,0,none⟩))) w'):wpList Tryz.prog ops Q (o::rest) a w:=by
 refine wpList_plain hg fun K' hK'=>?_
 obtain ⟨w',d,r1,f⟩:=MR.start ht h
 unfold Oper.wp
 simp[execOp,hop,hm,d,Result.andThen]
 exact hK' _ _ (hK w' r1 f)
theorem at_nxt {S:Value→Prop} {ops:Array Oper} {rest:List Oper} {o:Oper} {a:Act} {Q:Exit→Act→World→Prop} (hg:o.guard=none) (it:Operand) (hop:o.op=Op.next it false) (b r:Nat) (l rem:List (Value×Value)) (hit:a.eval it=.pointer (some ⟨r,0,none⟩)) (h:MR S b r l rem w)
  (hD:rem=[]→wpList Tryz.prog ops Q rest (a.put o.dst (.tuple #[.bool false])) w)
  (hM:∀ key v rem' w',rem.Perm ((key,v)::rem')→MR S b r l rem' w'→Only r w w'→(Instr.entry (.pointer (some ⟨r,0,none⟩))).run Tryz.prog w'=.ok (.tuple #[key,v]) w'→wpList Tryz.prog ops Q rest (a.put o.dst (.tuple #[.bool true,key,v])) w'):wpList Tryz.prog ops Q (o::rest) a w:=by
 refine wpList_plain hg fun K' hK'=>?_
 unfold Oper.wp
 rcases h.next o.type with ⟨h0,hrun⟩|⟨key,v,rem',w',hp,hrun,hr,hon,hen⟩
 ·simp[execOp,hop,hit,hrun,Result.andThen]
  exact hK' _ _ (hD h0)
 ·simp[execOp,hop,hit,hrun,Result.andThen]
  exact hK' _ _ (hM key v rem' w' hp hr hon hen)
end
section
def isF (v:Value):Prop:=∃ f,v=.agg (flC f)
def isI (v:Value):Prop:=∃ a,v=.int .i64 a
theorem check_flow (em:Bool) (f:List Int) (w:World):(Instr.checkKey em 10000 89 (.agg (flC f))).run Tryz.prog w=.ok () w:=by kernel_rfl
theorem ask_flow (f:List Int) (w:World):∀ (es:List MapEntry) (i:Nat),(∀ e ∈ es,isF e.key)→((Instr.findAsking 89 (.agg (flC f)) es i).run Tryz.prog w=.ok none w∧∀ e ∈ es,e.key≠.agg (flC f))∨∃ j e,(Instr.findAsking 89 (.agg (flC f)) es i).run Tryz.prog w=.ok (some (i+j,e.val)) w∧es[j]? = some e∧e.key=.agg (flC f)
 | [],i,_=>.inl ⟨rfl,by simp⟩
 | e::r,i,h=>by
  obtain ⟨g,hg⟩:=h e (List.mem_cons_self ..)
  have hq:(Op.equal 89 (.agg (flC f)) e.key).run Tryz.prog w=.ok (eqf f g) w:=by rw[hg];exact eq_flows f g w
  unfold Instr.findAsking
  rw[Sem.run_bind,hq,Result.andThen_ok]
  cases hc:eqf f g
  ·have hne:e.key≠.agg (flC f):=fun e1=>by
    rw[hg] at e1
    injection e1 with e1
    rw[(eqf_iff f g).2 e1.symm] at hc
    cases hc
   simp only[Bool.false_eq_true,if_false]
   rcases ask_flow f w r (i+1) (fun e he=>h e (List.mem_cons_of_mem _ he)) with ⟨h1,h2⟩|⟨j,e1,h1,h2,h3⟩
   ·refine .inl ⟨h1,fun e' he'=>?_⟩
    rcases List.mem_cons.1 he' with rfl|he'
    ·exact hne
    ·exact h2 e' he'
   ·refine .inr ⟨j+1,e1,?_,by simpa using h2,h3⟩
    rw[show i+(j+1)=i+1+j by omega]
    exact h1
  ·simp only[if_true]
   exact .inr ⟨0,e,rfl,rfl,by rw[hg,(eqf_iff f g).1 hc]⟩
theorem find_flow (w:World) (x:Value) (hx:isF x) (es:List MapEntry) (h:∀ e ∈ es,isF e.key):((Instr.findKey 89 x es).run Tryz.prog w=.ok none w∧∀ e ∈ es,e.key≠x)∨∃ j e,(Instr.findKey 89 x es).run Tryz.prog w=.ok (some (j,e.val)) w∧es[j]? = some e∧e.key=x:=by
 obtain ⟨f,rfl⟩:=hx
 unfold Instr.findKey
 rw[Sem.run_bind,run_underlying Tryz.underlying89,Result.andThen_ok]
 cases es with
 | nil=>exact .inl ⟨rfl,by simp⟩
 | cons e r =>
  obtain ⟨g,a⟩:=h e (List.mem_cons_self ..)
  have hn:∀ d,Instr.findNow (.struct d) (.agg (flC f)) (e::r) 0=none:=fun d=>by
   unfold Instr.findNow
   rw[a]
   rfl
  rw[hn]
  rcases ask_flow f w (e::r) 0 h with h1|⟨j,e1,h1,h2⟩
  ·exact .inl h1
  ·exact .inr ⟨j,e1,by rw[Nat.zero_add] at h1;exact h1,h2⟩
theorem stays_flow (f:List Int) (w:World):(Instr.keyThatStays (.agg (flC f)) (.agg (flC f))).run Tryz.prog w=.ok (.agg (flC f)) w:=by
 have hs:Instr.sameBits 10000 (.agg (flC f)) (.agg (flC f))=true:=by
  show Instr.sameBits (9999+1) (.agg (flC f)) (.agg (flC f))=true
  simp[Instr.sameBits,flC]
 simp[Instr.keyThatStays,hs]
theorem kof:KO 89 isF :=
 ⟨fun em v w hv=>by obtain ⟨f,rfl⟩:=hv;exact check_flow em f w,fun w x hx es h=>find_flow w x hx es h,fun w v hv=>by obtain ⟨f,rfl⟩:=hv;exact stays_flow f w⟩
theorem koi:KO 3 isI:=by
 have b:∀ v,isI v→MapKept.IsKey (.int .i64) v:=fun v ⟨a,e⟩=>by rw[e];simp[MapKept.IsKey]
 refine ⟨fun em v w hv=>MapKept.run_checkKey Tryz.underlying3 (b v hv) em 9999,fun w x hx es h=>?_,fun w v hv=>MapKept.run_keyThatStays (b v hv)⟩
 rcases MapKept.findNow_spec (b x hx) es 0 (fun y hy=>b _ (h y hy)) with ⟨h1,h2⟩|⟨j,e0,h1,h2,h3⟩
 ·exact .inl ⟨MapKept.run_findKey Tryz.underlying3 h1,h2⟩
 ·exact .inr ⟨j,e0,by simpa using MapKept.run_findKey Tryz.underlying3 h1,h2,h3⟩
theorem Tryz.mapF:Tryz.prog.underlying 149 = some (.map 89 95):=Tryz.underlying149
theorem Tryz.mapI:Tryz.prog.underlying 150 = some (.map 3 89):=Tryz.underlying150
theorem zero_bd (w:World):(zeroValue 95).run Tryz.prog w=.ok (.agg (bdC [])) w:=by kernel_rfl
theorem zero_fl (w:World):(zeroValue 89).run Tryz.prog w=.ok (.agg (flC [])) w:=by kernel_rfl
end
section
theorem uptoW (x:Int) (W:World):Calls Tryz.prog 153 #[.int .i64 65535,.slice (some ⟨W.heap.size,0,none⟩) 1 1] (W.alloc (.cells #[.int .i64 x] 3)) fun e w'=>e=.returned (.bool (wd x))∧Below W.heap.size W w' :=
 (bupto_any 65535 W.heap.size 1 [x] _ rfl (by omega) (ints_new W [x])).mono fun e w' ⟨h1,h2⟩=>⟨h1.trans (by rw[show bups 65535 [x]=wd x by unfold bups um wd;simp]),by rw[h2];exact al_below _ _⟩
theorem uptoT (x:Int) (W:World):Calls Tryz.prog 153 #[.int .i64 1099511627776,.slice (some ⟨W.heap.size,0,none⟩) 1 1] (W.alloc (.cells #[.int .i64 x] 3)) fun e w'=>e=.returned (.bool (tc x))∧Below W.heap.size W w' :=
 (bupto_any 1099511627776 W.heap.size 1 [x] _ rfl (by omega) (ints_new W [x])).mono fun e w' ⟨h1,h2⟩=>⟨h1.trans (by rw[show bups 1099511627776 [x]=tc x by unfold bups um tc;simp]),by rw[h2];exact al_below _ _⟩
def lf (k:Int):Int:=if k=17 then 30 else 100
theorem life_any (k:Int) (w:World):Calls Tryz.prog 157 #[.int .i64 k] w fun e w'=>e=.returned (.int .i64 (lf k))∧w'=w:=by
 by_cases h0:k=17
 ·subst h0
  go_enter Tryz.func157,Tryz.ntmps157
  go_wp2
  go_ret
  exact ⟨rfl,rfl⟩
 ·have e:(k == 17)=false:=by simpa using h0
  rw[show lf k=100 by unfold lf;rw[if_neg h0]]
  go_enter Tryz.func157,Tryz.ntmps157
  go_wp2
  go_ret
  exact ⟨rfl,rfl⟩
attribute [local go_sem ↓] hload_shut
end
section
variable {p:Int} {f:List Int} {F N P T k:Nat} {ow:Nat→List Int} {w:World}
def fE (b:List Int):Value×Value:=(.agg (flC b),.agg (bdC b))
def pE (b:List Int):Value×Value:=(.int .i64 (el b 19),.agg (flC b))
def TBl (T P F N:Nat) (w:World):Prop:=w.heap[T]? = some (.cells #[.pointer (some ⟨P,0,none⟩),.map (some F),.map (some N)] 152 (0,0))
theorem TBl.lt (h:TBl T P F N w):T < w.heap.size:=(Array.getElem?_eq_some_iff.1 h).1
theorem TBl.c0 (h:TBl T P F N w):w.cell? ⟨T,0,none⟩=some (.pointer (some ⟨P,0,none⟩)):=cell_of_row w T 0 _ _ _ h
theorem TBl.c1 (h:TBl T P F N w):w.cell? ⟨T,1,none⟩=some (.map (some F)):=cell_of_row w T 1 _ _ _ h
theorem TBl.c2 (h:TBl T P F N w):w.cell? ⟨T,2,none⟩=some (.map (some N)):=cell_of_row w T 2 _ _ _ h
def TC (T P BB F N m:Nat) (ow:Nat→List Int) (ts:Nat→Bool) (bs:List (List Int)) (w:World):Prop:=TBl T P F N w∧BP P BB m ow ts w∧MP isF F (bs.map fE) w∧MP isI N (bs.map pE) w∧F≠N
theorem TC.same {BB m:Nat} {ts:Nat→Bool} {bs:List (List Int)} {w':World} (h:TC T P BB F N m ow ts bs w) (hs:∀ g,(g=T∨g=P∨g=BB∨g=F∨g=N)→w'.heap[g]? = w.heap[g]?):TC T P BB F N m ow ts bs w' :=
 ⟨(hs T (.inl rfl)).trans h.1,⟨(hs P (.inr (.inl rfl))).trans h.2.1.1,h.2.1.2.same (hs BB (.inr (.inr (.inl rfl))))⟩,h.2.2.1.same (hs F (.inr (.inr (.inr (.inl rfl))))),h.2.2.2.1.same (hs N (.inr (.inr (.inr (.inr rfl))))),h.2.2.2.2⟩
theorem TC.lt {BB m:Nat} {ts:Nat→Bool} {bs:List (List Int)} (h:TC T P BB F N m ow ts bs w) (g:Nat) (hg:g=T∨g=P∨g=BB∨g=F∨g=N):g < w.heap.size:=by
 rcases hg with rfl|rfl|rfl|rfl|rfl
 ·exact h.1.lt
 ·exact h.2.1.lt
 ·exact h.2.1.2.lt
 ·exact h.2.2.1.lt
 ·exact h.2.2.2.1.lt
theorem TC.kept {BB m:Nat} {ts:Nat→Bool} {bs:List (List Int)} {w':World} (h:TC T P BB F N m ow ts bs w) (hb:Below w.heap.size w w'):TC T P BB F N m ow ts bs w':=h.same fun g hg=>hb.block g (h.lt g hg)
theorem TC.ne {BB m:Nat} {ts:Nat→Bool} {bs:List (List Int)} (h:TC T P BB F N m ow ts bs w):(T≠P∧T≠BB∧T≠F∧T≠N)∧(P≠BB∧P≠F∧P≠N)∧BB≠F∧BB≠N∧F≠N:=by
 obtain ⟨b,⟨d,c3,a,_⟩,h4,e,f⟩:=h
 unfold TBl at b
 refine ⟨⟨?_,?_,?_,?_⟩,⟨?_,?_,?_⟩,?_,?_,f⟩
 ·rintro rfl;rw[b] at d;cases d
 ·rintro rfl;rw[b] at a;cases a
 ·rintro rfl;exact h4.notcells b
 ·rintro rfl;exact e.notcells b
 ·rintro rfl;rw[d] at a;cases a
 ·rintro rfl;exact h4.notcells d
 ·rintro rfl;exact e.notcells d
 ·rintro rfl;exact h4.notcells a
 ·rintro rfl;exact e.notcells a
def TB (v:Value) (m:Nat) (ws:Nat→List Int) (ts:Nat→Bool) (bs:List (List Int)) (O:Nat→Prop) (w:World):Prop:=∃ T P BB F N ow,v=.pointer (some ⟨T,0,none⟩)∧TC T P BB F N m ow ts bs w∧Ag ws ow ts m∧O=fun g=>g=T∨g=P∨g=BB∨g=F∨g=N
theorem tb_kept:JKept TB:=by
 rintro v m ws ts bs O w ⟨T,P,BB,F,N,a,rfl,h,b,rfl⟩
 exact ⟨fun g hg=>h.lt g hg,fun w' _ hs=>⟨T,P,BB,F,N,a,rfl,h.same hs,b,rfl⟩⟩
theorem fndY {bs:List (List Int)} (h:fnd bs f=some k):k < bs.length∧bs.getD k [] ∈ bs∧flC (bs.getD k [])=flC f:=by
 unfold fnd at h
 have d:=List.find?_some h
 have b:=List.mem_range.1 (List.mem_of_find?_eq_some h)
 exact ⟨b,mem_getD b,(eqf_iff _ _).1 d⟩
theorem fndN {bs:List (List Int)} (h:fnd bs f=none):∀ p ∈ bs.map fE,p.1≠.agg (flC f):=by
 intro p hp e
 obtain ⟨b,hb,rfl⟩:=List.mem_map.1 hp
 obtain ⟨i,a,d⟩:=List.mem_iff_getElem.1 hb
 unfold fnd at h
 rw[List.find?_eq_none] at h
 refine h i (List.mem_range.2 a) ?_
 rw[List.getD_eq_getElem?_getD,List.getElem?_eq_getElem a,Option.getD_some,d]
 refine (eqf_iff _ _).2 ?_
 unfold fE at e
 injection e
theorem prtY {bs:List (List Int)} (h:prt bs p=some k):k < bs.length∧bs.getD k [] ∈ bs∧el (bs.getD k []) 19=p:=by
 unfold prt at h
 have b:=List.find?_some h
 have a:=List.mem_range.1 (List.mem_of_find?_eq_some h)
 exact ⟨a,mem_getD a,by simpa using b⟩
theorem prtN {bs:List (List Int)} (h:prt bs p=none):∀ q ∈ bs.map pE,q.1≠.int .i64 p:=by
 intro q d e
 obtain ⟨b,hb,rfl⟩:=List.mem_map.1 d
 obtain ⟨i,a,f⟩:=List.mem_iff_getElem.1 hb
 unfold prt at h
 rw[List.find?_eq_none] at h
 refine h i (List.mem_range.2 a) ?_
 rw[List.getD_eq_getElem?_getD,List.getElem?_eq_getElem a,Option.getD_some,f]
 unfold pE at e
 injection e with _ e
 simpa using e
def flk (m x:Value) (c:Bool):Sem Value:=Instr.lookup 149 m x c
theorem flk_shut (m x:Value) (c:Bool):Instr.lookup 149 m x c=flk m x c:=rfl
def plk (m x:Value) (c:Bool):Sem Value:=Instr.lookup 150 m x c
theorem plk_shut (m x:Value) (c:Bool):Instr.lookup 150 m x c=plk m x c:=rfl
theorem MP.fyes {bs:List (List Int)} (h:MP isF F (bs.map fE) w) (hk:fnd bs f=some k):(flk (.map (some F)) (.agg (flC f)) true).run Tryz.prog w=.ok (.tuple #[.agg (bdC (bs.getD k [])),.bool true]) w∧(flk (.map (some F)) (.agg (flC f)) false).run Tryz.prog w=.ok (.agg (bdC (bs.getD k []))) w:=by
 obtain ⟨_,b,d⟩:=fndY hk
 have a:((.agg (flC f):Value),(.agg (bdC (bs.getD k [])):Value)) ∈ bs.map fE:=List.mem_map.2 ⟨_,b,by unfold fE;rw[d]⟩
 exact ⟨h.look_yes kof Tryz.mapF ⟨f,rfl⟩ a true,h.look_yes kof Tryz.mapF ⟨f,rfl⟩ a false⟩
theorem MP.fno {bs:List (List Int)} (h:MP isF F (bs.map fE) w) (hk:fnd bs f=none):(flk (.map (some F)) (.agg (flC f)) true).run Tryz.prog w=.ok (.tuple #[.agg (bdC []),.bool false]) w :=
 h.look_no kof Tryz.mapF (zero_bd w) ⟨f,rfl⟩ (fndN hk) true
theorem MP.pyes {bs:List (List Int)} (h:MP isI N (bs.map pE) w) (hk:prt bs p=some k):(plk (.map (some N)) (.int .i64 p) true).run Tryz.prog w=.ok (.tuple #[.agg (flC (bs.getD k [])),.bool true]) w:=by
 obtain ⟨_,a,b⟩:=prtY hk
 have d:((.int .i64 p:Value),(.agg (flC (bs.getD k [])):Value)) ∈ bs.map pE:=List.mem_map.2 ⟨_,a,by unfold pE;rw[b]⟩
 exact h.look_yes koi Tryz.mapI ⟨p,rfl⟩ d true
theorem MP.pno {bs:List (List Int)} (h:MP isI N (bs.map pE) w) (hk:prt bs p=none):(plk (.map (some N)) (.int .i64 p) true).run Tryz.prog w=.ok (.tuple #[.agg (flC []),.bool false]) w :=
 h.look_no koi Tryz.mapI (zero_fl w) ⟨p,rfl⟩ (prtN hk) true
theorem bnew_bad (b:Int) (w:World) (hb:b < 1∨16 < b):Calls Tryz.prog 28 #[.int .i64 b] w fun e w'=>(∃ v,e=.returned (.tuple #[v,err 1]))∧Below w.heap.size w w':=by
 have a:=ki (pnew_bad b w hb)
 unfold err at a
 clear hb
 go_enter Tryz.func28,Tryz.ntmps28
 go_wp2_with (go_at_call 76;refine a.o.mono ?_;rintro e d ⟨rfl,rfl⟩)
 go_ret2
 exact ⟨⟨_,rfl⟩,Below.refl _ _⟩
theorem bnew_any (m:Nat) (w:World) (h1:1≤m) (hm:m≤16):Calls Tryz.prog 28 #[.int .i64 m] w fun e w'=>∃ T P BB F N,e=.returned (.tuple #[.pointer (some ⟨T,0,none⟩),.nilIface])∧TC T P BB F N m (fun _=>[]) (fun _=>false) [] w'∧(w.heap.size≤T∧w.heap.size≤P∧w.heap.size≤BB∧w.heap.size≤F∧w.heap.size≤N)∧Below w.heap.size w w':=by
 have k:=ki (pnew_any m w h1 hm)
 clear h1 hm
 go_enter Tryz.func28,Tryz.ntmps28
 have n:=@run_makeMap Tryz.prog
 go_wp2_with (go_at_call 76;refine k.o.mono ?_;rintro e a ⟨P,BB,rfl,hp,h1,h,hb⟩;replace hp:=ki hp;replace h1:=ki (And.intro h1 h);replace hb:=ki hb;clear h)
 go_ret2
 have i:=al_below a (.map #[] 0)
 have b:=al_below (a.alloc (.map #[] 0)) (.map #[] 0)
 have d:=al_below ((a.alloc (.map #[] 0)).alloc (.map #[] 0)) (.cells #[.pointer (some ⟨P,0,none⟩),.map (some a.heap.size),.map (some (a.heap.size+1))] 152)
 have f:=mp_new isF a
 have g:=mp_new isI (a.alloc (.map #[] 0))
 rw[World.size_alloc] at g
 have l:TBl (a.heap.size+1+1) P a.heap.size (a.heap.size+1) (((a.alloc (.map #[] 0)).alloc (.map #[] 0)).alloc (.cells #[.pointer (some ⟨P,0,none⟩),.map (some a.heap.size),.map (some (a.heap.size+1))] 152)):=by
  have:=heap_alloc_new ((a.alloc (.map #[] 0)).alloc (.map #[] 0)) (.cells #[.pointer (some ⟨P,0,none⟩),.map (some a.heap.size),.map (some (a.heap.size+1))] 152)
  rw[World.size_alloc,World.size_alloc] at this
  exact this
 have hs:=hb.o.size
 exact ⟨a.heap.size+1+1,P,BB,a.heap.size,a.heap.size+1,rfl,⟨l,((hp.o.kept i).kept b).kept d,(f.same (b.block _ f.lt)).same (d.block _ (Nat.lt_of_lt_of_le f.lt b.size)),g.same (d.block _ g.lt),by omega⟩,⟨by omega,h1.o.1,h1.o.2,hs,by omega⟩,bt (bt (bt hb.o i) b) d⟩
theorem tb_new:JNew TB:=by
 refine ⟨bnew_bad,fun m w h1 hm=>(bnew_any m w h1 hm).mono ?_⟩
 rintro e a ⟨T,P,BB,F,N,rfl,h,⟨b,d,f,g4,i⟩,hb⟩
 exact ⟨_,_,rfl,⟨T,P,BB,F,N,_,rfl,h,fun _ _ _ _ _=>rfl,rfl⟩,fun g hg=>by rcases hg with rfl|rfl|rfl|rfl|rfl <;> assumption,hb⟩
end
section
theorem bd_zero' (w:World):BdIn w.heap.size [] (w.alloc (.cells zero23 95)).drew:=bd_zero w
attribute [local go_sem ↓] fload_shut bload_shut flk_shut bstore_shut
theorem bfind_bad (v:Value) (f:List Int) (w:World) (hf:okf f=false) :
  Calls Tryz.prog 144 #[v,.agg (flC f)] w fun r w'=>r=.returned (.tuple #[.agg (bdC []),err 1])∧Below w.heap.size w w':=by
 have h:=ki (fun W=>bcheck f W)
 rw[hf,show ev (fe false)=err 1 from rfl] at h
 unfold err at h
 have a:=ki (bt (al_below w (.cells (flC f) 89)) (al_below _ (.cells zero23 95)))
 have i:=ki (show FlIn w.heap.size f ((w.alloc (.cells (flC f) 89)).alloc (.cells zero23 95)) from (fl_new f w).kept (al_below _ _))
 have b:=ki (show BdIn (w.heap.size+1) [] ((w.alloc (.cells (flC f) 89)).alloc (.cells zero23 95)) by have:=bd_zero (w.alloc (.cells (flC f) 89));rw[World.size_alloc] at this;exact this)
 unfold zero23 at a i b
 clear hf
 go_enter Tryz.func144,Tryz.ntmps144
 go_upto_region 1 with fail
 generalize (w.alloc _).alloc _=W at a i b ⊢
 have n:=i.o.fl
 go_wp2_with (first
  | (go_at_call 199;(with_reducible refine (h.o _).mono ?_);rintro e o ⟨rfl,d⟩;replace a:=ki (bt a.o d);replace b:=ki (b.o.kept d);clear d n)
  | (refine at_storeb rfl (.tmp 4) (.tmp 13) rfl rfl b.o [] rfl ?_;intro p k g;have l:=ki (g.below a.o (Nat.le_succ _));replace k:=ki k;clear g))
 try simp only[Exit.inBlock,Exit.then]
 refine bodyPost_ret (results_bd rfl _ _ (w.heap.size+1) [] rfl k.o) rfl ?_
 exact ⟨rfl,l.o⟩
theorem bfind_ok (T P F N:Nat) (f x:List Int) (ok:Bool) (w:World) (hf:okf f=true) (ht:TBl T P F N w)
  (hl:∀ W,Below w.heap.size w W→(flk (.map (some F)) (.agg (flC f)) true).run Tryz.prog W=.ok (.tuple #[.agg (bdC x),.bool ok]) W) (hx:ok=false→x=[]) :
  Calls Tryz.prog 144 #[.pointer (some ⟨T,0,none⟩),.agg (flC f)] w fun r w'=>r=.returned (.tuple #[.agg (bdC x),if ok=true then .nilIface else err 4])∧Below w.heap.size w w':=by
 have E:=ki (fun W=>bcheck f W)
 rw[hf,show ev (fe true)=.nilIface from rfl] at E
 have d:=ki (bt (al_below w (.cells (flC f) 89)) (al_below _ (.cells zero23 95)))
 have b:=ki (show FlIn w.heap.size f ((w.alloc (.cells (flC f) 89)).alloc (.cells zero23 95)) from (fl_new f w).kept (al_below _ _))
 have h:=ki (show BdIn (w.heap.size+1) [] ((w.alloc (.cells (flC f) 89)).alloc (.cells zero23 95)) by have:=bd_zero (w.alloc (.cells (flC f) 89));rw[World.size_alloc] at this;exact this)
 have G:=ki (fun W (hb:Below w.heap.size w W)=>show TBl T P F N W from (hb.block T ht.lt).trans ht)
 have H:=ki hl
 have L:=ki hx
 have I:=ki (fun W=>(bd_zero W))
 unfold zero23 at d b h I
 clear hf ht hl hx
 go_enter Tryz.func144,Tryz.ntmps144
 go_upto_region 1 with fail
 generalize (w.alloc _).alloc _=W at d b h ⊢
 have M:=b.o.fl
 go_upto_region 4 with (go_at_call 199;(with_reducible refine (E.o _).mono ?_);rintro e a ⟨rfl,k⟩;replace d:=ki (bt d.o k);replace b:=ki (b.o.kept k);replace h:=ki (h.o.kept k);clear k M)
 clear E W
 rename World=>a
 have p:=ki (show Below w.heap.size w a.drew from d.o.drew)
 have l:=ki (show Below w.heap.size w (a.alloc (.cells zero23 95)).drew from (bt d.o (al_below a _)).drew)
 have n:=ki (show FlIn w.heap.size f (a.alloc (.cells zero23 95)).drew from b.o.kept (al_below a _).drew)
 have v:=ki (show BdIn (w.heap.size+1) [] (a.alloc (.cells zero23 95)).drew from h.o.kept (al_below a _).drew)
 obtain ⟨J,y,K,o⟩:=(bd_zero' a).held x
 have q:=ki (o.below l.o (Nat.le_trans d.o.size (Nat.le_refl _)))
 have z:w.heap.size+1≠a.heap.size:=by have:=h.o.lt;omega
 have A:=ki (show BdIn (w.heap.size+1) [] J from (o.2.2.2.2 _ z).trans v.o)
 have B:=ki K
 have s:=ki (show ∀ W',Below w.heap.size w W'→FlIn w.heap.size f W'→W'.cell? ⟨T,1,none⟩=some (.map (some F))∧(fload (.pointer (some ⟨w.heap.size,0,none⟩))).run Tryz.prog W'=.ok (.agg (flC f)) W'∧(flk (.map (some F)) (.agg (flC f)) true).run Tryz.prog W'=.ok (.tuple #[.agg (bdC x),.bool ok]) W' from fun W' h1 h2=>⟨(G.o W' h1).c1,h2.fl,H.o W' h1⟩)
 have C:=ki (show FlIn w.heap.size f J from (o.2.2.2.2 _ (by have:=b.o.lt;omega)).trans n.o)
 unfold zero23 at l n y
 clear o K G H v z
 obtain ⟨c1,O,Q⟩:=s.o _ p.o b.o
 go_region_held3 (fun W'=>W'.cell? ⟨T,1,none⟩=some (.map (some F))∧(fload (.pointer (some ⟨w.heap.size,0,none⟩))).run Tryz.prog W'=.ok (.agg (flC f)) W'∧(flk (.map (some F)) (.agg (flC f)) true).run Tryz.prog W'=.ok (.tuple #[.agg (bdC x),.bool ok]) W')
  (first
   | exact s.o _ p.o b.o
   | exact s.o _ l.o n.o
   | exact s.o _ q.o C.o
   | go_keep)
  (fail)
 all_goals
  clear c1 O Q y p l n C s d b h I
  generalize a.heap.size=D at B ⊢
  have S:=B.o.bl
  cases ok
  ·go_wp2_with (refine at_storeb rfl (.tmp 4) (.tmp 26) rfl rfl A.o [] rfl ?_;intro R i g;have t:=ki (g.below q.o (Nat.le_succ _));replace i:=ki i;clear g)
   try simp only[Exit.inBlock,Exit.then]
   refine bodyPost_ret (results_bd rfl _ _ (w.heap.size+1) [] rfl i.o) rfl ?_
   exact ⟨by rw[L.o (by simp)];rfl,t.o⟩
  ·go_wp2_with (refine at_storeb rfl (.tmp 4) (.tmp 28) rfl rfl A.o x rfl ?_;intro R i g;have t:=ki (g.below q.o (Nat.le_succ _));replace i:=ki i;clear g)
   try simp only[Exit.inBlock,Exit.then]
   refine bodyPost_ret (results_bd rfl _ _ (w.heap.size+1) x rfl i.o) rfl ?_
   exact ⟨rfl,t.o⟩
theorem tb_find:RFind TB:=by
 rintro v m ws ts bs O w f x e b hl hb ⟨T,P,BB,F,N,d,rfl,h,g,rfl⟩ a
 rcases a with ⟨h1,rfl,rfl⟩|⟨h1,h2,rfl,rfl⟩|⟨h1,k,h2,rfl,rfl⟩
 ·exact bfind_bad _ f w h1
 ·exact bfind_ok T P F N f [] false w h1 h.1 (fun W hW=>(h.2.2.1.same (hW.block F h.2.2.1.lt)).fno h2) (fun _=>rfl)
 ·exact bfind_ok T P F N f _ true w h1 h.1 (fun W hW=>((h.2.2.1.same (hW.block F h.2.2.1.lt)).fyes h2).1) (fun e=>by cases e)
end
section
variable {w:World}
def zero19:Array Value:=#[.int .i64 0,.int .i64 0,.int .i64 0,.int .i64 0,.int .i64 0,.int .i64 0,.int .i64 0,.int .i64 0,.int .i64 0,.int .i64 0,.int .i64 0,.int .i64 0,.int .i64 0,.int .i64 0,.int .i64 0,.int .i64 0,.int .i64 0,.int .i64 0,.int .i64 0]
theorem fl_zero (w:World):FlIn w.heap.size [] (w.alloc (.cells zero19 89)):=heap_alloc_new w _
theorem FlIn.stored {B:Nat} {b0:List Int} (p:FlIn B b0 w) (b:List Int):FlIn B b (w.setRow B (flC b)):=setRow_heap w B _ _ _ (0,0) p
theorem at_storef {ops:Array Oper} {rest:List Oper} {o:Oper} {f:Act} {Q:Exit→Act→World→Prop} (hgd:o.guard=none) (x y:Operand) (ho:o.op=.store 89 x y)
  {B:Nat} {b0:List Int} (hx:f.eval x=.pointer (some ⟨B,0,none⟩)) (p:FlIn B b0 w) (b:List Int) (hy:f.eval y=.agg (flC b))
  (hK:∀ w',FlIn B b w'→Only B w w'→wpList Tryz.prog ops Q rest (f.put o.dst undef) w'):wpList Tryz.prog ops Q (o::rest) f w :=
 wpList_store_row hgd 89 x y ho B _ hx hy 89 _ p (by kernel_rfl) rfl (by unfold flC;simp[Value.oneCell']) (hK _ (p.stored b) (only_setRow _ _ _))
theorem MP.fmem {F:Nat} {bs:List (List Int)} (h:MP isF F (bs.map fE) w) {b:List Int} (hb:b ∈ bs):(flk (.map (some F)) (.agg (flC b)) false).run Tryz.prog w=.ok (.agg (bdC b)) w :=
 h.look_yes kof Tryz.mapF ⟨b,rfl⟩ (List.mem_map.2 ⟨b,hb,rfl⟩) false
attribute [local go_sem ↓] fload_shut bload_shut flk_shut plk_shut bstore_shut
theorem bnear_no (T P F N:Nat) (kind p:Int) (fl:List Int) (ok:Bool) (w:World) (ht:TBl T P F N w)
  (hl:∀ W,Below w.heap.size w W→(plk (.map (some N)) (.int .i64 p) true).run Tryz.prog W=.ok (.tuple #[.agg (flC fl),.bool ok]) W) (hk:ok=true→(el fl 0 == kind)=false) :
  Calls Tryz.prog 102 #[.pointer (some ⟨T,0,none⟩),.int .i64 kind,.int .i64 p] w fun r w'=>r=.returned (.tuple #[.agg (bdC []),err 4])∧Below w.heap.size w w':=by
 have a:=ki (al_below w (.cells zero23 95))
 have e:=ki (bd_zero w)
 have n:=ki (fun W (hb:Below w.heap.size w W)=>show TBl T P F N W from (hb.block T ht.lt).trans ht)
 have o:=ki hl
 have k:=ki hk
 have l:=ki (fun W=>(fl_zero W))
 unfold zero23 at a e
 unfold zero19 at l
 clear ht hl hk
 go_enter Tryz.func102,Tryz.ntmps102
 go_upto_region 1 with fail
 generalize w.alloc _=W at a e ⊢
 have c2:=(n.o W a.o).c2
 have q:=o.o W a.o
 go_upto_region 2 with (refine at_storef rfl (.tmp 8) (.tmp 17) rfl rfl (l.o W) fl rfl ?_;intro t h i;have f:=new_below _ i;replace a:=ki (bt a.o f);replace e:=ki (e.o.kept f);replace h:=ki h;clear i f)
 clear c2 q n o l
 generalize W.heap.size=D at h ⊢
 have c0:=h.o.cell 0 (by omega)
 obtain ⟨y,hy⟩:∃ y,el fl 0=y:=⟨_,rfl⟩
 rw[hy] at c0 k
 clear hy
 cases ok
 ·go_wp2_with (refine at_storeb rfl (.tmp 6) (.tmp 27) rfl rfl e.o [] rfl ?_;intro s d b;have g:=ki (b.below a.o (Nat.le_refl _));replace d:=ki d;clear b)
  try simp only[Exit.inBlock,Exit.then]
  refine bodyPost_ret (results_bd rfl _ _ w.heap.size [] rfl d.o) rfl ?_
  exact ⟨rfl,g.o⟩
 ·have v:(y != kind)=true:=by have:=k.o rfl;simpa using this
  clear k
  go_wp2_with (refine at_storeb rfl (.tmp 6) (.tmp 27) rfl rfl e.o [] rfl ?_;intro s d b;have g:=ki (b.below a.o (Nat.le_refl _));replace d:=ki d;clear b)
  try simp only[Exit.inBlock,Exit.then]
  refine bodyPost_ret (results_bd rfl _ _ w.heap.size [] rfl d.o) rfl ?_
  exact ⟨rfl,g.o⟩
theorem bnear_yes (T P F N:Nat) (p:Int) (b:List Int) (w:World) (ht:TBl T P F N w)
  (hl:∀ W,Below w.heap.size w W→(plk (.map (some N)) (.int .i64 p) true).run Tryz.prog W=.ok (.tuple #[.agg (flC b),.bool true]) W∧(flk (.map (some F)) (.agg (flC b)) false).run Tryz.prog W=.ok (.agg (bdC b)) W) :
  Calls Tryz.prog 102 #[.pointer (some ⟨T,0,none⟩),.int .i64 (el b 0),.int .i64 p] w fun r w'=>r=.returned (.tuple #[.agg (bdC b),.nilIface])∧Below w.heap.size w w':=by
 have a:=ki (al_below w (.cells zero23 95))
 have e:=ki (bd_zero w)
 have s:=ki (fun W (hb:Below w.heap.size w W)=>show TBl T P F N W from (hb.block T ht.lt).trans ht)
 have t:=ki hl
 have v:=ki (fun W=>(fl_zero W))
 unfold zero23 at a e
 unfold zero19 at v
 clear ht hl
 obtain ⟨y,hy⟩:∃ y,el b 0=y:=⟨_,rfl⟩
 rw[hy]
 have z:=ki hy
 clear hy
 go_enter Tryz.func102,Tryz.ntmps102
 go_upto_region 1 with fail
 generalize w.alloc _=W at a e ⊢
 have c2:=(s.o W a.o).c2
 have A:=(t.o W a.o).1
 go_upto_region 2 with (refine at_storef rfl (.tmp 8) (.tmp 17) rfl rfl (v.o W) b rfl ?_;intro l f n;have g:=new_below _ n;replace a:=ki (bt a.o g);replace e:=ki (e.o.kept g);replace f:=ki f;clear n g)
 clear c2 A v
 generalize W.heap.size=D at f ⊢
 have c0:=f.o.cell 0 (by omega)
 rw[z.o] at c0
 have G:(y != y)=false:=by simp
 rename World=>l
 go_upto_region 4 with fail
 clear c0 G
 have h:=ki (show Below w.heap.size w l.drew from a.o.drew)
 have i:=ki (show BdIn w.heap.size [] l.drew from e.o)
 have d:=ki (show FlIn D b l.drew from f.o)
 obtain ⟨H,I,B,k⟩:=i.o.held b
 have o:=ki (k.below h.o (Nat.le_refl _))
 have C:=ki B
 have q:D≠w.heap.size:=by
  rintro rfl
  have h1:=i.o
  have h2:=d.o
  unfold BdIn at h1
  unfold FlIn at h2
  rw[h1] at h2
  injection h2 with h2
  injection h2 with _ h2
  exact absurd h2 (by decide)
 have E:=ki (show FlIn D b H from (k.2.2.2.2 _ q).trans d.o)
 have x:=ki (show ∀ W',Below w.heap.size w W'→FlIn D b W'→W'.cell? ⟨T,1,none⟩=some (.map (some F))∧(fload (.pointer (some ⟨D,0,none⟩))).run Tryz.prog W'=.ok (.agg (flC b)) W'∧(flk (.map (some F)) (.agg (flC b)) false).run Tryz.prog W'=.ok (.agg (bdC b)) W' from fun W' h1 h2=>⟨(s.o W' h1).c1,h2.fl,(t.o W' h1).2⟩)
 clear k B s t q i z
 obtain ⟨c1,J,A⟩:=x.o _ h.o d.o
 go_region_held3 (fun W'=>W'.cell? ⟨T,1,none⟩=some (.map (some F))∧(fload (.pointer (some ⟨D,0,none⟩))).run Tryz.prog W'=.ok (.agg (flC b)) W'∧(flk (.map (some F)) (.agg (flC b)) false).run Tryz.prog W'=.ok (.agg (bdC b)) W')
  (first
   | exact x.o _ h.o d.o
   | exact x.o _ o.o E.o
   | go_keep)
  (fail)
 all_goals
  go_wp2_with fail
  try simp only[Exit.inBlock,Exit.then]
  refine bodyPost_ret (results_bd rfl _ _ w.heap.size b rfl C.o) rfl ?_
  exact ⟨rfl,o.o⟩
theorem tb_near:RNear TB:=by
 rintro v m ws ts bs O w kind p x e f hl hb ⟨T,P,BB,F,N,g,rfl,h,i,rfl⟩ hn
 have a:=fun W (hW:Below w.heap.size w W)=>h.2.2.2.1.same (hW.block N h.2.2.2.1.lt)
 have b:=fun W (hW:Below w.heap.size w W)=>h.2.2.1.same (hW.block F h.2.2.1.lt)
 rcases hn with ⟨h1,rfl,rfl⟩|⟨k,h1,h2,rfl,rfl⟩|⟨k,h1,h2,rfl,rfl⟩
 ·exact bnear_no T P F N kind p [] false w h.1 (fun W hW=>(a W hW).pno h1) (fun e=>by cases e)
 ·exact bnear_no T P F N kind p _ true w h.1 (fun W hW=>(a W hW).pyes h1) (fun _=>h2)
 ·have d:el (bs.getD k []) 0=kind:=by simpa using h2
  rw[← d]
  exact bnear_yes T P F N p _ w h.1 (fun W hW=>⟨(a W hW).pyes h1,(b W hW).fmem (prtY h1).2.1⟩)
end
end Go.Proofs.YtgcojnlngchllaaGreatDoor
