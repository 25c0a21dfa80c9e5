/- Flows and binds as values: 19 numbers, and 23; when two are one. Binds and flows in blocks and in slices of the call's own; loads, stores, append. The document's own table of binds as it lies in the heap; its small functions, FlowFault, Find and Port, by contracts. The document's own Make of a bind, by contracts. The document's own Make of a bind that may be made, by contracts. The document's own Use of a bind, by contracts. The document's own Expire of binds, by a contract. The document's own new table; two rows of binds held side by side. What is asked of the program's table of binds, whatever it is made of; the document's own table in the same form. What holds of a table still holds when a bind is made, used, or gone. What BindApart asks of a table that holds what holds of tables: each bind is found by its flow and by its port; what goes is found no more, and was not used in time. -/
import Derived.Test.YtgcojnlngchllaaGreatDoorK17
namespace Go.Proofs.YtgcojnlngchllaaGreatDoor
open Go.RowKit
set_option linter.unusedVariables false
set_option maxRecDepth 100000
set_option maxHeartbeats 40000000
section
def bdC (b:List Int):Array Value:=#[.int .i64 (el b 0),.int .i64 (el b 1),.int .i64 (el b 2),.int .i64 (el b 3),.int .i64 (el b 4),.int .i64 (el b 5),.int .i64 (el b 6),.int .i64 (el b 7),.int .i64 (el b 8),.int .i64 (el b 9),.int .i64 (el b 10),.int .i64 (el b 11),.int .i64 (el b 12),.int .i64 (el b 13),.int .i64 (el b 14),.int .i64 (el b 15),.int .i64 (el b 16),.int .i64 (el b 17),.int .i64 (el b 18),.int .i64 (el b 19),.int .i64 (el b 20),.int .i64 (el b 21),.int .i64 (el b 22)]
theorem bdC_at (b:List Int) (j:Nat) (hj:j < 23):(bdC b)[j]? = some (.int .i64 (el b j)):=by
 rcases (by omega:j=0∨j=1∨j=2∨j=3∨j=4∨j=5∨j=6∨j=7∨j=8∨j=9∨j=10∨j=11∨j=12∨j=13∨j=14∨j=15∨j=16∨j=17∨j=18∨j=19∨j=20∨j=21∨j=22) with rfl|rfl|rfl|rfl|rfl|rfl|rfl|rfl|rfl|rfl|rfl|rfl|rfl|rfl|rfl|rfl|rfl|rfl|rfl|rfl|rfl|rfl|rfl <;> rfl
def mkb (f:List Int) (near back far now:Int):List Int:=[el f 0,el f 1,el f 2,el f 3,el f 4,el f 5,el f 6,el f 7,el f 8,el f 9,el f 10,el f 11,el f 12,el f 13,el f 14,el f 15,el f 16,el f 17,el f 18,near,back,far,now]
def beq (x y:Value):Sem Bool:=Op.equalIn 10000 95 x y
theorem beq_shut (x y:Value):Op.equalIn 10000 95 x y=beq x y:=rfl
end
section
variable {b:List Int} {B cap g n:Nat} {w:World}
theorem owns_type {base:Nat} {e:TypeId} {size:Nat} {v:Value} {xs:List Value} (h:w.ownsRow base e size v n xs) (g:Nat) (hg:v.ownBlock=some g):∃ cur,w.heap[g]? = some (.cells cur e (0,0)):=by
 rcases h.2 with ⟨rfl,_⟩|⟨g',cap,cur,rfl,hb',hgc,_⟩
 ·simp[Value.ownBlock] at hg
 ·have:g'=g:=by simpa [Value.ownBlock] using hg
  subst this
  exact ⟨cur,hgc⟩
def bv (bs:List (List Int)):List Value:=bs.flatMap fun b=>(bdC b).toList
def OwB (base:Nat) (w:World) (v:Value) (bs:List (List Int)):Prop:=w.ownsRow base 95 23 v bs.length (bv bs)
theorem OwB.nil (base:Nat) (w:World):OwB base w (.slice none 0 0) []:=World.ownsRow_nil _ _ _ _
theorem bv_len (bs:List (List Int)):(bv bs).length=bs.length*23:=by
 induction bs with
 | nil=>rfl
 | cons z r ih=>unfold bv at ih ⊢;rw[List.flatMap_cons,List.length_append,ih,List.length_cons,show (bdC z).toList.length=23 from rfl];omega
theorem bv_app (a b:List (List Int)):bv (a++b)=bv a++bv b:=List.flatMap_append
theorem bv_at (bs:List (List Int)) (k j:Nat) (h:k < bs.length) (hj:j < 23):(bv bs)[k*23+j]? = some (.int .i64 (el (bs.getD k []) j)):=by
 induction bs generalizing k with
 | nil=>exact absurd h (by simp)
 | cons z r ih =>
  unfold bv at ih ⊢
  rw[List.flatMap_cons]
  have hl:(bdC z).toList.length=23:=rfl
  cases k with
  | zero =>
   rw[List.getElem?_append_left (by omega),Nat.zero_mul,Nat.zero_add]
   have:=bdC_at z j hj
   simpa using this
  | succ k =>
   rw[List.getElem?_append_right (by omega),hl,show (k+1)*23+j - 23=k*23+j by omega,ih k (by simpa using h)]
   rfl
theorem OwB.shape {base:Nat} {v:Value} {bs:List (List Int)} (h:OwB base w v bs):∃ ao cap,v=.slice ao bs.length cap∧bs.length≤cap∧cap≤maxLen∧(0 < bs.length→∃ g,ao=some ⟨g,0,none⟩):=by
 rcases h.2 with ⟨rfl,hn⟩|⟨g,cap,cur,rfl,_,_,h1,h2,_⟩
 ·exact ⟨none,0,by rw[hn],by omega,by unfold maxLen;omega,fun h=>by omega⟩
 ·exact ⟨_,cap,rfl,h1,h2,fun _=>⟨g,rfl⟩⟩
theorem OwB.cell {base:Nat} {bs:List (List Int)} (h:OwB base w (.slice (some ⟨g,0,none⟩) n cap) bs) (k j:Nat) (hk:k < bs.length) (hj:j < 23):w.cell? ⟨g,k*23+j,none⟩=some (.int .i64 (el (bs.getD k []) j)):=by
 have a:w.ownsRow base 95 23 (.slice (some ⟨g,0,none⟩) n cap) bs.length (bv bs):=h
 rcases h.2 with ⟨e,hn⟩|⟨g',cap',cur,e,_⟩
 ·omega
 ·injection e with e1 e2 e3
  injection e1 with e1
  injection e1 with e1
  subst e1 e2 e3
  rw[World.ownsRow.cellAt a (k*23+j) (by omega)]
  exact bv_at bs k j hk hj
theorem OwB.frozen {base:Nat} {bs:List (List Int)} (h:OwB base w (.slice (some ⟨g,0,none⟩) n cap) bs) (i:Nat):w.frozen? ⟨g,i,none⟩=false:=by
 obtain ⟨b,a⟩:=owns_type h g rfl
 simp[World.frozen?,a]
theorem OwB.row {base:Nat} {bs:List (List Int)} (h:OwB base w (.slice (some ⟨g,0,none⟩) n cap) bs) (k:Nat) (hk:k < bs.length):w.rangeAt g (k*23) (bdC (bs.getD k [])).toList:=by
 intro j v hv
 have a:j < 23:=(List.getElem?_eq_some_iff.1 hv).1
 rw[h.cell k j hk a,← bdC_at (bs.getD k []) j a]
 simpa using hv
theorem OwB.flow {base:Nat} {bs:List (List Int)} (h:OwB base w (.slice (some ⟨g,0,none⟩) n cap) bs) (k:Nat) (hk:k < bs.length):w.rangeAt g (k*23) (flC (bs.getD k [])).toList:=by
 intro j v hv
 have a:j < 19:=(List.getElem?_eq_some_iff.1 hv).1
 rw[h.cell k j hk (by omega),← flC_at (bs.getD k []) j a]
 simpa using hv
def BdIn (B:Nat) (b:List Int) (w:World):Prop:=w.heap[B]? = some (.cells (bdC b) 95 (0,0))
theorem BdIn.lt (p:BdIn B b w):B < w.heap.size:=(Array.getElem?_eq_some_iff.1 p).1
theorem BdIn.kept {w':World} (p:BdIn B b w) (hb:Below w.heap.size w w'):BdIn B b w':=(hb.block B p.lt).trans p
theorem bd_new (b:List Int) (w:World):BdIn w.heap.size b (w.alloc (.cells (bdC b) 95)):=heap_alloc_new w _
def zero23:Array Value:=#[.int .i64 0,.int .i64 0,.int .i64 0,.int .i64 0,.int .i64 0,.int .i64 0,.int .i64 0,.int .i64 0,.int .i64 0,.int .i64 0,.int .i64 0,.int .i64 0,.int .i64 0,.int .i64 0,.int .i64 0,.int .i64 0,.int .i64 0,.int .i64 0,.int .i64 0,.int .i64 0,.int .i64 0,.int .i64 0,.int .i64 0]
theorem bd_zero (w:World):BdIn w.heap.size [] (w.alloc (.cells zero23 95)):=heap_alloc_new w _
theorem BdIn.cell (p:BdIn B b w) (j:Nat) (hj:j < 23):w.cell? ⟨B,j,none⟩=some (.int .i64 (el b j)):=(cell_of_row w B j _ _ _ p).trans (bdC_at b j hj)
def bload (x:Value):Sem Value:=Instr.loadAt 95 x
theorem bload_shut (x:Value):Instr.loadAt 95 x=bload x:=rfl
theorem BdIn.bl (p:BdIn B b w):(bload (.pointer (some ⟨B,0,none⟩))).run Tryz.prog w=.ok (.agg (bdC b)) w :=
 run_loadAt_mid w B 0 95 (bdC b).toList _ (fun j v hv=>by rw[Nat.zero_add,cell_of_row w B j _ _ _ p];simpa using hv) Tryz.underlying95 rfl (by kernel_rfl)
theorem OwB.bl {base:Nat} {bs:List (List Int)} (h:OwB base w (.slice (some ⟨g,0,none⟩) n cap) bs) (k:Nat) (hk:k < bs.length):(bload (.pointer (some ⟨g,k*23,none⟩))).run Tryz.prog w=.ok (.agg (bdC (bs.getD k []))) w:=run_loadAt_mid w g (k*23) 95 _ _ (h.row k hk) Tryz.underlying95 rfl (by kernel_rfl)
theorem OwB.fl {base:Nat} {bs:List (List Int)} (h:OwB base w (.slice (some ⟨g,0,none⟩) n cap) bs) (k:Nat) (hk:k < bs.length):(fload (.pointer (some ⟨g,k*23,none⟩))).run Tryz.prog w=.ok (.agg (flC (bs.getD k []))) w:=run_loadAt_mid w g (k*23) 89 _ _ (h.flow k hk) Tryz.underlying89 rfl (by kernel_rfl)
theorem BdIn.stored {b0:List Int} (p:BdIn B b0 w) (b:List Int):BdIn B b (w.setRow B (bdC b)):=setRow_heap w B _ _ _ (0,0) p
theorem at_storeb {ops:Array Oper} {rest:List Oper} {o:Oper} {f:Act} {Q:Exit→Act→World→Prop} (hgd:o.guard=none) (x y:Operand) (ho:o.op=.store 95 x y)
  {B:Nat} {b0:List Int} (hx:f.eval x=.pointer (some ⟨B,0,none⟩)) (p:BdIn B b0 w) (b:List Int) (hy:f.eval y=.agg (bdC b))
  (hK:∀ w',BdIn B b w'→Only B w w'→wpList Tryz.prog ops Q rest (f.put o.dst undef) w'):wpList Tryz.prog ops Q (o::rest) f w :=
 wpList_store_row hgd 95 x y ho B _ hx hy 95 _ p (by kernel_rfl) rfl (by unfold bdC;simp[Value.oneCell']) (hK _ (p.stored b) (only_setRow _ _ _))
theorem results_bd {fn:Func} {p u:Tmp} (h:fn.results=#[.cell p 95,.tmp u]) (tmps:Array Value) (w:World) (B:Nat) (b:List Int)
  (ht:tmps.getD p undef=.pointer (some ⟨B,0,none⟩)) (hg:BdIn B b w) :
  (results fn tmps).run Tryz.prog w=.ok (.tuple #[.agg (bdC b),tmps.getD u undef]) w:=by
 rw[results_cell_tmp h,ht]
 have hl:=run_loadVar_row (P:=Tryz.prog) w B 95 95 _ (0,0) _ hg Tryz.underlying95 rfl (by kernel_rfl)
 simp[asAddr,hl]
def bsl (ps:Array (Nat×Value)):Sem Value:=Instr.buildSlice 48 1 ps
theorem bsl_shut (ps:Array (Nat×Value)):Instr.buildSlice 48 1 ps=bsl ps:=rfl
theorem bsl_run (b:List Int) (w:World):(bsl #[(0,.agg (bdC b))]).run Tryz.prog w=.ok (.slice (some ⟨w.heap.size,0,none⟩) 1 1) (w.alloc (.cells (bdC b) 95)):=by kernel_rfl
def bld (ps:Array (Nat×Value)):Sem Value:=Instr.build 95 ps
theorem bld_shut (ps:Array (Nat×Value)):Instr.build 95 ps=bld ps:=rfl
theorem bld_run (f:List Int) (near back far now:Int) (w:World):(bld #[(0,.agg (flC f)),(1,.int .i64 near),(2,.int .i64 back),(3,.int .i64 far),(4,.int .i64 now)]).run Tryz.prog w=.ok (.agg (bdC (mkb f near back far now))) w:=by kernel_rfl
theorem Tryz.infoBind:(Tryz.prog.info? 95).map (fun i=>(i.zero,i.size,i.bytes))=some (some (.agg zero23),23,184):=by kernel_rfl
theorem ap_B {ops:Array Oper} {rest:List Oper} {o:Oper} {a:Act} {Q:Exit→Act→World→Prop} (hgd:o.guard=none) (s x:Operand)
  (ho:o.op=.call { callee:=.builtin .append,args:=#[s,x],argTypes:=#[48,48] })
  (base:Nat) (v:Value) (l:List (List Int)) (hs:a.eval s=v) (hown:OwB base w v l) (ad:Addr) (m c:Nat) (l2:List (List Int)) (hx:a.eval x=.slice (some ad) m c) (hl:l2.length=m)
  (hc:∀ j,j < m→∀ i,i < 23→w.cell? (ad.add (j*23+i))=some (.int .i64 (el (l2.getD j []) i))) (hlen:l.length+m≤1000000) (hbase:base≤w.heap.size)
  (h:∀ v' w',OwB base w' v' (l++l2)→w.grownBy w' v.ownBlock→(v'.ownBlock=v.ownBlock∨v'.ownBlock=some w.heap.size)→wpList Tryz.prog ops Q rest (a.put o.dst v') w'):wpList Tryz.prog ops Q (o::rest) a w:=by
 obtain ⟨p,q,f,g,k⟩:=info_parts Tryz.infoBind
 have e:w.ownsRow base 95 23 v l.length (bv l):=hown
 refine wpList_append_own_at _ hgd s x 48 ho base 95 p _ 23 184 Tryz.underlying48 q f g k rfl (by decide) v l.length (bv l) hs e ad m c (bv l2) hx (by rw[bv_len,hl]) ?_ ?_ (by unfold maxLen;omega) (by omega) hbase ?_
 ·intro j u b
  have y:j < l2.length*23:=by have:=(List.getElem?_eq_some_iff.1 b).1;rwa [bv_len] at this
  have h8:=bv_at l2 (j / 23) (j % 23) (by omega) (by omega)
  rw[show j / 23*23+j % 23=j by omega,b] at h8
  have n:=hc (j / 23) (by omega) (j % 23) (by omega)
  rw[show j / 23*23+j % 23=j by omega] at n
  rw[n,h8]
 ·intro u b
  unfold bv at b
  obtain ⟨z,_,d⟩:=List.mem_flatMap.1 b
  unfold bdC at d
  simp at d
  rcases d with rfl|rfl|rfl|rfl|rfl|rfl|rfl|rfl|rfl|rfl|rfl|rfl|rfl|rfl|rfl|rfl|rfl|rfl|rfl|rfl|rfl|rfl|rfl <;> rfl
 ·intro v' w' r d _ t
  refine h v' w' ?_ d t
  unfold OwB
  rw[bv_app,List.length_append,hl]
  exact r
theorem one_new (b:List Int) (w:World):∀ j,j < 1→∀ i,i < 23→(w.alloc (.cells (bdC b) 95)).cell? ((⟨w.heap.size,0,none⟩:Addr).add (j*23+i))=some (.int .i64 (el ([b].getD j []) i)):=by
 intro j d i a
 obtain rfl:j=0:=by omega
 rw[add_pl,Nat.zero_mul,Nat.zero_add,Nat.zero_add]
 exact (bd_new b w).cell i a
end
section
def tc (n:Int):Bool:=decide (0≤n) && decide (n≤1099511627776)
attribute [local go_sem ↓] hload_shut
def fnd (bs:List (List Int)) (f:List Int):Option Nat:=(List.range bs.length).find? fun i=>eqf (bs.getD i []) f
def prt (bs:List (List Int)) (p:Int):Option Nat:=(List.range bs.length).find? fun i=>el (bs.getD i []) 19 == p
attribute [local go_sem ↓] fload_shut feq_shut
end
section
def st (x:List Int) (bs:List (List Int)):Nat→List (List Int)×Bool
 | 0=>([],false)
 | k+1=>if (!(st x bs k).2 && decide (el x 19 < el (bs.getD k []) 19))=true then ((st x bs k).1++[x]++[bs.getD k []],true) else ((st x bs k).1++[bs.getD k []],(st x bs k).2)
def ins (x:List Int) (bs:List (List Int)):List (List Int):=if (st x bs bs.length).2=true then (st x bs bs.length).1 else (st x bs bs.length).1++[x]
attribute [local go_sem ↓] fload_shut bload_shut hload_shut
end
section
theorem tk_lt {ws:Nat→List Int} {ts:Nat→Bool} {z:List Int} {n i:Nat} (ht:tk ws ts z n=some i):i < n:=by
 unfold tk at ht
 rcases Option.or_eq_some_iff.1 ht with h|⟨_,h⟩
 ·exact List.mem_range.1 (List.mem_of_find?_eq_some h)
 ·exact List.mem_range.1 (List.mem_of_find?_eq_some h)
theorem okf_cli {f:List Int} (h:okf f=true):Ok6 (cli f):=by
 unfold okf at h
 simp only[Bool.and_eq_true] at h
 exact (s6_iff _).1 h.1.1.1.2
attribute [local go_sem ↓] fload_shut bload_shut hload_shut
end
section
def usd (b:List Int) (now:Int):List Int:=[el b 0,el b 1,el b 2,el b 3,el b 4,el b 5,el b 6,el b 7,el b 8,el b 9,el b 10,el b 11,el b 12,el b 13,el b 14,el b 15,el b 16,el b 17,el b 18,el b 19,el b 20,el b 21,now]
theorem usd_at (b:List Int) (now:Int) (j:Nat) (hj:j < 23):el (usd b now) j=if j=22 then now else el b j:=by
 rcases (by omega:j=0∨j=1∨j=2∨j=3∨j=4∨j=5∨j=6∨j=7∨j=8∨j=9∨j=10∨j=11∨j=12∨j=13∨j=14∨j=15∨j=16∨j=17∨j=18∨j=19∨j=20∨j=21∨j=22) with rfl|rfl|rfl|rfl|rfl|rfl|rfl|rfl|rfl|rfl|rfl|rfl|rfl|rfl|rfl|rfl|rfl|rfl|rfl|rfl|rfl|rfl|rfl <;> rfl
theorem getD_set {α:Type} (l:List α) (k q:Nat) (x d:α) (hk:k < l.length):(l.set k x).getD q d=if q=k then x else l.getD q d:=by
 simp only[List.getD_eq_getElem?_getD]
 by_cases e:q=k
 ·subst e;rw[if_pos rfl,List.getElem?_set_self hk];rfl
 ·rw[if_neg e,List.getElem?_set_ne (fun h=>e h.symm)]
theorem bv_set (bs:List (List Int)) (k:Nat) (hk:k < bs.length) (now:Int):bv (bs.set k (usd (bs.getD k []) now))=(bv bs).set (k*23+22) (.int .i64 now):=by
 apply List.ext_getElem?
 intro i
 by_cases hi:i < bs.length*23
 ·have a:=bv_at (bs.set k (usd (bs.getD k []) now)) (i / 23) (i % 23) (by rw[List.length_set];omega) (by omega)
  have b:=bv_at bs (i / 23) (i % 23) (by omega) (by omega)
  rw[show i / 23*23+i % 23=i by omega] at a b
  rw[a,getD_set bs k (i / 23) _ [] hk]
  by_cases e:i=k*23+22
  ·subst e
   rw[List.getElem?_set_self (by rw[bv_len];omega),show (k*23+22) / 23=k by omega,if_pos rfl,usd_at _ _ _ (by omega),if_pos (by omega)]
  ·rw[List.getElem?_set_ne (fun h=>e h.symm),b]
   by_cases eq:i / 23=k
   ·rw[if_pos eq,usd_at _ _ _ (by omega),if_neg (by omega),eq]
   ·rw[if_neg eq]
 ·rw[List.getElem?_eq_none (by rw[bv_len,List.length_set];omega),List.getElem?_eq_none (by rw[List.length_set,bv_len];omega)]
theorem OwB.set {base:Nat} {w:World} {g cap:Nat} {bs:List (List Int)} (h:OwB base w (.slice (some ⟨g,0,none⟩) bs.length cap) bs) (k:Nat) (hk:k < bs.length) (now:Int):OwB base (w.setCell ⟨g,k*23+22,none⟩ (.int .i64 now)) (.slice (some ⟨g,0,none⟩) bs.length cap) (bs.set k (usd (bs.getD k []) now)):=by
 have a:w.ownsRow base 95 23 (.slice (some ⟨g,0,none⟩) bs.length cap) bs.length (bv bs):=h
 have:=World.ownsRow.stored a (k*23+22) (.int .i64 now)
 unfold OwB
 rw[bv_set bs k hk now,List.length_set]
 exact this.1
theorem prt_lt {bs:List (List Int)} {p:Int} {k:Nat} (h:prt bs p=some k):k < bs.length∧el (bs.getD k []) 19=p:=by
 unfold prt at h
 rw[List.find?_range_eq_some] at h
 exact ⟨List.mem_range.1 h.2.1,by simpa using h.1⟩
end
section
def xp (now:Int) (b:List Int):Bool:=(el b 0 == 6 && decide (100≤now - el b 22)) || (el b 0 == 17 && decide (30≤now - el b 22))
def es (now:Int) (bs:List (List Int)) (ts:Nat→Bool):Nat→List (List Int)×List (List Int)×(Nat→Bool)
 | 0=>([],[],ts)
 | k+1=>if xp now (bs.getD k [])=true then ((es now bs ts k).1++[bs.getD k []],(es now bs ts k).2.1,upd (es now bs ts k).2.2 (el (bs.getD k []) 19 - 1024).toNat false) else ((es now bs ts k).1,(es now bs ts k).2.1++[bs.getD k []],(es now bs ts k).2.2)
theorem es_len (now:Int) (bs:List (List Int)) (ts:Nat→Bool) (k:Nat):(es now bs ts k).1.length+(es now bs ts k).2.1.length=k:=by
 induction k with
 | zero=>rfl
 | succ k ih =>
  simp only[es]
  split
  ·simp only[List.length_append,List.length_singleton];omega
  ·simp only[List.length_append,List.length_singleton];omega
theorem Fr.grown {O:Nat→Prop} {w0 W W':World} (h:Fr O w0 W) {r:Option Nat} (hg:W.grownBy W' r) (hr:∀ k,r=some k→w0.heap.size≤k):Fr O w0 W' :=
 ⟨hg.os.trans h.1,hg.tape.trans h.2.1,hg.output.trans h.2.2.1,Nat.le_trans h.2.2.2.1 hg.size,fun g hgl hO=>(hg.block g (Nat.lt_of_lt_of_le hgl h.2.2.2.1) (fun e=>by have:=hr g e.symm;omega)).trans (h.2.2.2.2 g hgl hO)⟩
attribute [local go_sem ↓] bload_shut bsl_shut
end
section
variable {v:Value} {w:World}
def BdRow (base:Nat) (w:World) (v:Value) (bs:List (List Int)):Prop:=∃ a cap,v=.slice a bs.length cap∧(0 < bs.length→∃ g off,a=some ⟨g,off,none⟩∧(base≤g∧g < w.heap.size)∧∀ k,k < bs.length→w.rangeAt g (off+k*23) (bdC (bs.getD k [])).toList)
theorem BdRow.same {base:Nat} {w':World} {bs:List (List Int)} (h:BdRow base w v bs) (hb:Below w.heap.size w w'):BdRow base w' v bs:=by
 obtain ⟨a,f,rfl,hc⟩:=h
 refine ⟨a,f,rfl,fun hp=>?_⟩
 obtain ⟨g,d,e,b,i⟩:=hc hp
 refine ⟨g,d,e,⟨b.1,Nat.lt_of_lt_of_le b.2 hb.size⟩,fun k hk j u hu=>?_⟩
 rw[hb.cell (p:=⟨g,d+k*23+j,none⟩) b.2]
 exact i k hk j u hu
theorem BdRow.fr {base:Nat} {O:Nat→Prop} {w':World} {bs:List (List Int)} (h:BdRow base w v bs) (hf:Fr O w w') (hO:∀ g,base≤g→g < w.heap.size→¬ O g):BdRow base w' v bs:=by
 obtain ⟨a,d,rfl,hc⟩:=h
 refine ⟨a,d,rfl,fun hp=>?_⟩
 obtain ⟨g,f,e,b,i⟩:=hc hp
 refine ⟨g,f,e,⟨b.1,Nat.lt_of_lt_of_le b.2 hf.2.2.2.1⟩,fun k hk j u hu=>?_⟩
 rw[← i k hk j u hu]
 unfold World.cell?
 rw[hf.2.2.2.2 g b.2 (hO g b.1 b.2)]
theorem OwB.bdrow {base:Nat} {bs:List (List Int)} (h:OwB base w v bs):BdRow base w v bs:=by
 obtain ⟨b,a,rfl,-,-,d⟩:=h.shape
 refine ⟨b,a,rfl,fun hp=>?_⟩
 obtain ⟨g,rfl⟩:=d hp
 have hl:=owns_lt h g rfl
 exact ⟨g,0,rfl,⟨hl.2,hl.1⟩,fun k hk=>by rw[Nat.zero_add];exact h.row k hk⟩
theorem bdrow_nil (base:Nat) (w:World):BdRow base w (.slice none 0 0) []:=⟨none,0,rfl,fun h=>absurd h (by simp)⟩
theorem BdRow.weak {base:Nat} {bs:List (List Int)} (h:BdRow base w v bs):BdRow 0 w v bs:=by
 obtain ⟨a,b,e,hc⟩:=h
 refine ⟨a,b,e,fun hp=>?_⟩
 obtain ⟨g,d,e,f,i⟩:=hc hp
 exact ⟨g,d,e,⟨Nat.zero_le _,f.2⟩,i⟩
theorem row_bl {g o:Nat} {b:List Int} (h:w.rangeAt g o (bdC b).toList):(bload (.pointer (some ⟨g,o,none⟩))).run Tryz.prog w=.ok (.agg (bdC b)) w:=run_loadAt_mid w g o 95 _ _ h Tryz.underlying95 rfl (by kernel_rfl)
attribute [local go_sem ↓] bload_shut beq_shut
end
section
def Gb (m:Nat) (ws:Nat→List Int) (ts:Nat→Bool) (b:List Int):Prop:=okf b=true∧(∃ i:Nat,i < 8*m∧el b 19=1024+(i:Int)∧ts i=true∧sixC (ws i)=sixC (cli b))∧tc (el b 22)=true∧fr (el b 20)=true∧wd (el b 21)=true
def BI (m:Nat) (ws:Nat→List Int) (ts:Nat→Bool) (bs:List (List Int)):Prop:=(∀ b ∈ bs,Gb m ws ts b)∧bs.Pairwise (fun a b=>el a 19 < el b 19)∧bs.Pairwise (fun a b=>eqf a b=false)∧∀ i,i < 8*m→ts i=true→∃ b ∈ bs,el b 19=1024+(i:Int)
def Mk (m:Nat) (ws:Nat→List Int) (ts:Nat→Bool) (bs:List (List Int)) (f:List Int) (back far now:Int) (x:List Int) (e:Int) (ws':Nat→List Int) (ts':Nat→Bool) (bs':List (List Int)):Prop :=
 (okf f=false∧x=[]∧e=1∧ws'=ws∧ts'=ts∧bs'=bs) ∨
 (okf f=true∧(fr back && wd far && tc now)=false∧x=[]∧e=1∧ws'=ws∧ts'=ts∧bs'=bs) ∨
 (okf f=true∧(fr back && wd far && tc now)=true∧(∃ k,fnd bs f=some k)∧x=[]∧e=8∧ws'=ws∧ts'=ts∧bs'=bs) ∨
 (okf f=true∧(fr back && wd far && tc now)=true∧fnd bs f=none∧tk ws ts (cli f) (8*m)=none∧x=[]∧e=3∧ws'=ws∧ts'=ts∧bs'=bs) ∨
 (okf f=true∧(fr back && wd far && tc now)=true∧fnd bs f=none∧∃ i,tk ws ts (cli f) (8*m)=some i∧x=mkb f (1024+(i:Int)) back far now∧e=0∧ws'=upd ws i (cli f)∧ts'=upd ts i true∧bs'=ins x bs)
def Us (bs:List (List Int)) (p now:Int) (e:Int) (bs':List (List Int)):Prop :=
 (prt bs p=none∧e=4∧bs'=bs)∨(∃ k,prt bs p=some k∧tc now=false∧e=1∧bs'=bs)∨(∃ k,prt bs p=some k∧tc now=true∧now < el (bs.getD k []) 22∧e=9∧bs'=bs)∨(∃ k,prt bs p=some k∧tc now=true∧¬ now < el (bs.getD k []) 22∧e=0∧bs'=bs.set k (usd (bs.getD k []) now))
def Nr (bs:List (List Int)) (kind p:Int) (x:List Int) (e:Int):Prop :=
 (prt bs p=none∧x=[]∧e=4)∨(∃ k,prt bs p=some k∧(el (bs.getD k []) 0 == kind)=false∧x=[]∧e=4)∨(∃ k,prt bs p=some k∧(el (bs.getD k []) 0 == kind)=true∧x=bs.getD k []∧e=0)
def Fd (bs:List (List Int)) (f:List Int) (x:List Int) (e:Int):Prop :=
 (okf f=false∧x=[]∧e=1)∨(okf f=true∧fnd bs f=none∧x=[]∧e=4)∨(okf f=true∧∃ k,fnd bs f=some k∧x=bs.getD k []∧e=0)
def TQ (TP:Value→Nat→(Nat→List Int)→(Nat→Bool)→List (List Int)→(Nat→Prop)→World→Prop) (v:Value) (m:Nat) (ws:Nat→List Int) (ts:Nat→Bool) (bs:List (List Int)) (O:Nat→Prop) (w w':World):Prop:=∃ O',TP v m ws ts bs O' w'∧Fr O w w'∧∀ g,O' g→O g∨w.heap.size≤g
def JKept (TP:Value→Nat→(Nat→List Int)→(Nat→Bool)→List (List Int)→(Nat→Prop)→World→Prop):Prop:=∀ v m ws ts bs O w,TP v m ws ts bs O w→(∀ g,O g→g < w.heap.size)∧∀ w',w.heap.size≤w'.heap.size→(∀ g,O g→w'.heap[g]? = w.heap[g]?)→TP v m ws ts bs O w'
def JCheck:Prop:=∀ f w,Calls Tryz.prog 199 #[.agg (flC f)] w fun e w'=>e=.returned (ev (fe (okf f)))∧Below w.heap.size w w'
def JNew (TP:Value→Nat→(Nat→List Int)→(Nat→Bool)→List (List Int)→(Nat→Prop)→World→Prop):Prop :=
 (∀ (b:Int) w,(b < 1∨16 < b)→Calls Tryz.prog 28 #[.int .i64 b] w fun e w'=>(∃ v,e=.returned (.tuple #[v,err 1]))∧Below w.heap.size w w') ∧
 (∀ (m:Nat) w,1≤m→m≤16→Calls Tryz.prog 28 #[.int .i64 m] w fun e w'=>∃ v O,e=.returned (.tuple #[v,.nilIface])∧TP v m (fun _=>[]) (fun _=>false) [] O w'∧(∀ g,O g→w.heap.size≤g)∧Below w.heap.size w w')
def JMake (TP:Value→Nat→(Nat→List Int)→(Nat→Bool)→List (List Int)→(Nat→Prop)→World→Prop):Prop:=∀ v m ws ts bs O w f back far now x e ws' ts' bs',m≤16→bs.length≤128→BI m ws ts bs→TP v m ws ts bs O w→Mk m ws ts bs f back far now x e ws' ts' bs' →
 Calls Tryz.prog 145 #[v,.agg (flC f),.int .i64 back,.int .i64 far,.int .i64 now] w fun r w'=>r=.returned (.tuple #[.agg (bdC x),ev e])∧TQ TP v m ws' ts' bs' O w w'
def JUse (TP:Value→Nat→(Nat→List Int)→(Nat→Bool)→List (List Int)→(Nat→Prop)→World→Prop):Prop:=∀ v m ws ts bs O w p now e bs',m≤16→bs.length≤128→BI m ws ts bs→TP v m ws ts bs O w→Us bs p now e bs' →
 Calls Tryz.prog 103 #[v,.int .i64 p,.int .i64 now] w fun r w'=>r=.returned (ev e)∧TQ TP v m ws ts bs' O w w'
def JNear (TP:Value→Nat→(Nat→List Int)→(Nat→Bool)→List (List Int)→(Nat→Prop)→World→Prop):Prop:=∀ v m ws ts bs O w kind p x e,m≤16→bs.length≤128→BI m ws ts bs→TP v m ws ts bs O w→Nr bs kind p x e →
 Calls Tryz.prog 102 #[v,.int .i64 kind,.int .i64 p] w fun r w'=>r=.returned (.tuple #[.agg (bdC x),ev e])∧TQ TP v m ws ts bs O w w'
def JFind (TP:Value→Nat→(Nat→List Int)→(Nat→Bool)→List (List Int)→(Nat→Prop)→World→Prop):Prop:=∀ v m ws ts bs O w f x e,m≤16→bs.length≤128→BI m ws ts bs→TP v m ws ts bs O w→Fd bs f x e →
 Calls Tryz.prog 144 #[v,.agg (flC f)] w fun r w'=>r=.returned (.tuple #[.agg (bdC x),ev e])∧TQ TP v m ws ts bs O w w'
def JExpire (TP:Value→Nat→(Nat→List Int)→(Nat→Bool)→List (List Int)→(Nat→Prop)→World→Prop):Prop:=∀ v m ws ts bs O w now,m≤16→bs.length≤128→BI m ws ts bs→TP v m ws ts bs O w →
 (tc now=false→Calls Tryz.prog 106 #[v,.int .i64 now] w fun r w'=>∃ b,r=.returned (.tuple #[b,err 1])∧BdRow 0 w' b []∧TQ TP v m ws ts bs O w w') ∧
 (tc now=true→Calls Tryz.prog 106 #[v,.int .i64 now] w fun r w'=>∃ b,r=.returned (.tuple #[b,.nilIface])∧BdRow 0 w' b (es now bs ts bs.length).1∧TQ TP v m ws (es now bs ts bs.length).2.2 (es now bs ts bs.length).2.1 O w w')
def JAll (TP:Value→Nat→(Nat→List Int)→(Nat→Bool)→List (List Int)→(Nat→Prop)→World→Prop):Prop:=∀ v m ws ts bs O w,m≤16→bs.length≤128→BI m ws ts bs→TP v m ws ts bs O w →
 Calls Tryz.prog 57 #[v] w fun r w'=>∃ b,r=.returned b∧BdRow 0 w' b bs∧TQ TP v m ws ts bs O w w'
def JI (TP:Value→Nat→(Nat→List Int)→(Nat→Bool)→List (List Int)→(Nat→Prop)→World→Prop):Prop:=JKept TP∧JCheck∧JNew TP∧JMake TP∧JUse TP∧JNear TP∧JFind TP∧JExpire TP∧JAll TP
theorem mem_getD {bs:List (List Int)} {k:Nat} (hk:k < bs.length):bs.getD k [] ∈ bs:=by
 rw[List.getD_eq_getElem?_getD,List.getElem?_eq_getElem hk]
 exact List.getElem_mem hk
end
section
theorem BI.start (m:Nat):BI m (fun _=>[]) (fun _=>false) []:=⟨fun b h=>absurd h (by simp),List.Pairwise.nil,List.Pairwise.nil,fun i _ h=>by cases h⟩
theorem take_succ (bs:List (List Int)) (k:Nat) (hk:k < bs.length):bs.take (k+1)=bs.take k++[bs.getD k []]:=by
 rw[List.take_add_one,List.getElem?_eq_getElem hk,List.getD_eq_getElem?_getD,List.getElem?_eq_getElem hk]
 rfl
theorem st_form (x:List Int) (bs:List (List Int)) (k:Nat) (hk:k≤bs.length) :
  (st x bs k=(bs.take k,false)∧∀ j,j < k→¬ el x 19 < el (bs.getD j []) 19) ∨
  ∃ p,p < k∧st x bs k=(bs.take p++[x]++(bs.take k).drop p,true)∧el x 19 < el (bs.getD p []) 19∧∀ j,j < p→¬ el x 19 < el (bs.getD j []) 19:=by
 induction k with
 | zero=>exact .inl ⟨rfl,fun j h=>absurd h (by omega)⟩
 | succ k ih =>
  have a:st x bs (k+1)=if (!(st x bs k).2 && decide (el x 19 < el (bs.getD k []) 19))=true then ((st x bs k).1++[x]++[bs.getD k []],true) else ((st x bs k).1++[bs.getD k []],(st x bs k).2):=rfl
  rcases ih (by omega) with ⟨h1,h2⟩|⟨p,hp,h1,h2,h3⟩
  ·rw[h1] at a
   by_cases hx:el x 19 < el (bs.getD k []) 19
   ·refine .inr ⟨k,by omega,?_,hx,h2⟩
    rw[a,if_pos (by rw[decide_eq_true hx];rfl),take_succ bs k (by omega)]
    rw[List.drop_append_of_le_length (by rw[List.length_take];omega),List.drop_of_length_le (by rw[List.length_take];omega)]
    rfl
   ·refine .inl ⟨?_,fun j hj=>if e:j=k then by rw[e];exact hx else h2 j (by omega)⟩
    rw[a,if_neg (by rw[decide_eq_false hx];simp),take_succ bs k (by omega)]
  ·rw[h1] at a
   refine .inr ⟨p,by omega,?_,h2,h3⟩
   rw[a,if_neg (by simp),take_succ bs k (by omega),List.drop_append_of_le_length (by rw[List.length_take];omega)]
   simp
theorem ins_form (x:List Int) (bs:List (List Int)):∃ p,p≤bs.length∧ins x bs=bs.take p++([x]++bs.drop p)∧(∀ j,j < p→¬ el x 19 < el (bs.getD j []) 19)∧(p < bs.length→el x 19 < el (bs.getD p []) 19):=by
 unfold ins
 rcases st_form x bs bs.length (Nat.le_refl _) with ⟨h1,h2⟩|⟨p,hp,h1,h2,h3⟩
 ·refine ⟨bs.length,Nat.le_refl _,?_,h2,fun h=>absurd h (by omega)⟩
  rw[h1]
  simp
 ·refine ⟨p,by omega,?_,h3,fun _=>h2⟩
  rw[h1]
  simp
theorem near_inj {bs:List (List Int)} (h:bs.Pairwise (fun a b=>el a 19 < el b 19)) {a b:List Int} (ha:a ∈ bs) (hb:b ∈ bs) (e:el a 19=el b 19):a=b:=by
 obtain ⟨i,d,rfl⟩:=List.getElem_of_mem ha
 obtain ⟨j,f,rfl⟩:=List.getElem_of_mem hb
 have hp:=List.pairwise_iff_getElem.1 h
 rcases (by omega:i=j∨i < j∨j < i) with rfl|hij|hij
 ·rfl
 ·exact absurd (hp i j d f hij) (by omega)
 ·exact absurd (hp j i f d hij) (by omega)
theorem tk_free {ws:Nat→List Int} {ts:Nat→Bool} {z:List Int} {n i:Nat} (h:tk ws ts z n=some i):ts i=false:=by
 unfold tk at h
 rcases Option.or_eq_some_iff.1 h with h|⟨_,h⟩
 ·have a:=List.find?_some h
  unfold f0 at a
  simp only[Bool.and_eq_true,Bool.not_eq_true'] at a
  exact a.1
 ·have a:=List.find?_some h
  unfold f1 at a
  simp only[Bool.and_eq_true,Bool.not_eq_true'] at a
  exact a.1
theorem fnd_no {bs:List (List Int)} {f:List Int} (h:fnd bs f=none) {b:List Int} (hb:b ∈ bs):eqf b f=false:=by
 obtain ⟨i,a,rfl⟩:=List.getElem_of_mem hb
 unfold fnd at h
 rw[List.find?_eq_none] at h
 have:=h i (List.mem_range.2 a)
 rw[List.getD_eq_getElem?_getD,List.getElem?_eq_getElem a] at this
 simpa using this
theorem eqf_false (a b:List Int):eqf a b=false↔flC a≠flC b:=by
 rw[← Bool.not_eq_true,eqf_iff]
theorem BI.made {m:Nat} {ws:Nat→List Int} {ts:Nat→Bool} {bs:List (List Int)} (h:BI m ws ts bs) {f:List Int} {back far now:Int} (h1:okf f=true) (h2:(fr back && wd far && tc now)=true) (h3:fnd bs f=none) {i:Nat} (h4:tk ws ts (cli f) (8*m)=some i):BI m (upd ws i (cli f)) (upd ts i true) (ins (mkb f (1024+(i:Int)) back far now) bs):=by
 obtain ⟨x,hx⟩:∃ x,mkb f (1024+(i:Int)) back far now=x:=⟨_,rfl⟩
 have y:el x 19=1024+(i:Int):=by rw[← hx];rfl
 have z:flC x=flC f:=by rw[← hx];rfl
 have n:=tk_free h4
 have A:=tk_lt h4
 simp only[Bool.and_eq_true] at h2
 have G:Gb m (upd ws i (cli f)) (upd ts i true) x:=by
  rw[← hx]
  exact ⟨h1,⟨i,A,rfl,if_pos rfl,by rw[show upd ws i (cli f) i=cli f from if_pos rfl];rfl⟩,h2.2,h2.1.1,h2.1.2⟩
 rw[hx]
 obtain ⟨B,o,v,b4⟩:=h
 obtain ⟨p,hp,e,C,D⟩:=ins_form x bs
 have E:∀ b ∈ bs,el b 19≠el x 19:=fun b hb e=>by
  obtain ⟨_,⟨j,_,q,r,_⟩,_⟩:=B b hb
  have:i=j:=by omega
  rw[this,r] at n
  cases n
 have s:∀ b ∈ bs,Gb m (upd ws i (cli f)) (upd ts i true) b:=fun b hb=>by
  obtain ⟨H,⟨j,hj,q,r,I⟩,J⟩:=B b hb
  have w:j≠i:=fun e=>by rw[e,n] at r;cases r
  exact ⟨H,⟨j,hj,q,by unfold upd;rw[if_neg w];exact r,by unfold upd;rw[if_neg w];exact I⟩,J⟩
 have d:bs.take p++bs.drop p=bs:=List.take_append_drop p bs
 have g:∀ b,b ∈ bs.take p→b ∈ bs:=fun b hb=>List.mem_of_mem_take hb
 have k:∀ b,b ∈ bs.drop p→b ∈ bs:=fun b hb=>List.mem_of_mem_drop hb
 have K:∀ b ∈ bs.take p,el b 19 < el x 19:=fun b hb=>by
  obtain ⟨j,hj,rfl⟩:=List.getElem_of_mem hb
  rw[List.length_take] at hj
  have l:=C j (by omega)
  rw[List.getD_eq_getElem?_getD,List.getElem?_eq_getElem (by omega)] at l
  have L:=E _ (g _ hb)
  rw[List.getElem_take] at L ⊢
  simp only[Option.getD_some] at l
  omega
 have M:∀ b ∈ bs.drop p,el x 19 < el b 19:=fun b hb=>by
  have t:p < bs.length:=by
   rcases Nat.lt_or_ge p bs.length with h|h
   ·exact h
   ·rw[List.drop_of_length_le h] at hb;exact absurd hb (by simp)
  have l:=D t
  obtain ⟨j,hj,rfl⟩:=List.getElem_of_mem hb
  rw[List.length_drop] at hj
  rw[List.getElem_drop]
  rw[List.getD_eq_getElem?_getD,List.getElem?_eq_getElem t] at l
  simp only[Option.getD_some] at l
  by_cases e0:j=0
  ·subst e0;exact l
  ·have:=List.pairwise_iff_getElem.1 o p (p+j) t (by omega) (by omega)
   omega
 rw[e]
 refine ⟨fun b hb=>?_,?_,?_,fun j hj ht=>?_⟩
 ·rw[List.mem_append,List.mem_append,List.mem_singleton] at hb
  rcases hb with hb|rfl|hb
  ·exact s b (g b hb)
  ·exact G
  ·exact s b (k b hb)
 ·rw[← d,List.pairwise_append] at o
  rw[List.pairwise_append]
  refine ⟨o.1,?_,fun a ha b hb=>?_⟩
  ·rw[List.singleton_append,List.pairwise_cons]
   exact ⟨M,o.2.1⟩
  ·rw[List.mem_append,List.mem_singleton] at hb
   rcases hb with rfl|hb
   ·exact K a ha
   ·exact o.2.2 a ha b hb
 ·have F:∀ b ∈ bs,flC b≠flC x:=fun b hb=>by rw[z];exact (eqf_false b f).1 (fnd_no h3 hb)
  rw[← d,List.pairwise_append] at v
  rw[List.pairwise_append]
  refine ⟨v.1,?_,fun a ha b hb=>?_⟩
  ·rw[List.singleton_append,List.pairwise_cons]
   exact ⟨fun b hb=>(eqf_false x b).2 (fun e=>F b (k b hb) e.symm),v.2.1⟩
  ·rw[List.mem_append,List.mem_singleton] at hb
   rcases hb with rfl|hb
   ·exact (eqf_false a b).2 (F a (g a ha))
   ·exact v.2.2 a ha b hb
 ·unfold upd at ht
  by_cases q:j=i
  ·exact ⟨x,by simp,by rw[q];exact y⟩
  ·rw[if_neg q] at ht
   obtain ⟨b,hb,eb⟩:=b4 j hj ht
   refine ⟨b,?_,eb⟩
   rw[← d,List.mem_append] at hb
   rw[List.mem_append,List.mem_append]
   rcases hb with hb|hb
   ·exact .inl hb
   ·exact .inr (.inr hb)
theorem set_map {α β:Type} (l:List α) (k:Nat) (x:α) (g:α→β) (hk:k < l.length) (he:g x=g l[k]):(l.set k x).map g=l.map g:=by
 apply List.ext_getElem
 ·simp
 ·intro i a b
  simp only[List.getElem_map,List.getElem_set]
  split
  ·rename_i e;subst e;exact he
  ·rfl
theorem BI.use {m:Nat} {ws:Nat→List Int} {ts:Nat→Bool} {bs:List (List Int)} (h:BI m ws ts bs) {p now e:Int} {bs':List (List Int)} (hk:Us bs p now e bs'):BI m ws ts bs'∧bs'.length=bs.length:=by
 rcases hk with ⟨_,_,rfl⟩|⟨_,_,_,_,rfl⟩|⟨_,_,_,_,_,rfl⟩|⟨k,k1,k2,_,_,rfl⟩
 ·exact ⟨h,rfl⟩
 ·exact ⟨h,rfl⟩
 ·exact ⟨h,rfl⟩
 ·have hk:=(prt_lt k1).1
  have d:bs.getD k []=bs[k]:=by rw[List.getD_eq_getElem?_getD,List.getElem?_eq_getElem hk];rfl
  obtain ⟨g,l,n,b4⟩:=h
  have en:(bs.set k (usd (bs.getD k []) now)).map (fun b=>el b 19)=bs.map (fun b=>el b 19):=set_map bs k _ _ hk (by rw[d];rfl)
  have o:(bs.set k (usd (bs.getD k []) now)).map flC=bs.map flC:=set_map bs k _ _ hk (by rw[d];rfl)
  refine ⟨⟨fun b hb=>?_,?_,?_,fun j hj ht=>?_⟩,by rw[List.length_set]⟩
  ·rcases List.mem_or_eq_of_mem_set hb with hb|rfl
   ·exact g b hb
   ·obtain ⟨q,r,v,g4⟩:=g _ (mem_getD hk)
    exact ⟨q,r,k2,g4⟩
  ·have:=(List.pairwise_map (f:=fun b=>el b 19) (R:=(· < ·))).2 l
   rw[← en] at this
   exact (List.pairwise_map (f:=fun b=>el b 19) (R:=(· < ·))).1 this
  ·have:=(List.pairwise_map (f:=flC) (R:=(·≠·))).2 (n.imp (fun {a b} h=>(eqf_false a b).1 h))
   rw[← o] at this
   exact ((List.pairwise_map (f:=flC) (R:=(·≠·))).1 this).imp (fun {a b} h=>(eqf_false a b).2 h)
  ·obtain ⟨b,hb,eb⟩:=b4 j hj ht
   have:el b 19 ∈ bs.map (fun b=>el b 19):=List.mem_map.2 ⟨b,hb,rfl⟩
   rw[← en] at this
   obtain ⟨s,i,t⟩:=List.mem_map.1 this
   exact ⟨s,i,t.trans eb⟩
theorem es_form (now:Int) (bs:List (List Int)) (ts:Nat→Bool) (k:Nat) (hk:k≤bs.length):(es now bs ts k).1=(bs.take k).filter (xp now)∧(es now bs ts k).2.1=(bs.take k).filter (fun b=>!xp now b)∧∀ j,(es now bs ts k).2.2 j=true↔ts j=true∧∀ b ∈ bs.take k,xp now b=true→(el b 19 - 1024).toNat≠j:=by
 induction k with
 | zero=>exact ⟨rfl,rfl,fun j=>⟨fun h=>⟨h,fun b hb=>absurd hb (by simp)⟩,fun h=>h.1⟩⟩
 | succ k ih =>
  obtain ⟨a,d,f⟩:=ih (by omega)
  simp only[es]
  rw[take_succ bs k (by omega),List.filter_append,List.filter_append]
  generalize bs.getD k []=b
  cases hx:xp now b
  ·rw[if_neg (by simp)]
   refine ⟨by simp[a,hx],by simp[d,hx],fun j=>?_⟩
   rw[f j]
   refine ⟨fun ⟨a1,a2⟩=>⟨a1,fun c hc hcx=>?_⟩,fun ⟨a1,a2⟩=>⟨a1,fun c hc=>a2 c (List.mem_append.2 (.inl hc))⟩⟩
   rcases List.mem_append.1 hc with hc|hc
   ·exact a2 c hc hcx
   ·rw[List.mem_singleton] at hc;rw[hc,hx] at hcx;cases hcx
  ·rw[if_pos rfl]
   refine ⟨by simp[a,hx],by simp[d,hx],fun j=>?_⟩
   show (if j=(el b 19 - 1024).toNat then false else (es now bs ts k).2.2 j)=true↔_
   by_cases e:j=(el b 19 - 1024).toNat
   ·rw[if_pos e]
    refine ⟨(fun h=>by cases h),fun ⟨_,a2⟩=>absurd e.symm (a2 b (by simp) hx)⟩
   ·rw[if_neg e,f j]
    refine ⟨fun ⟨a1,a2⟩=>⟨a1,fun c hc hcx=>?_⟩,fun ⟨a1,a2⟩=>⟨a1,fun c hc=>a2 c (List.mem_append.2 (.inl hc))⟩⟩
    rcases List.mem_append.1 hc with hc|hc
    ·exact a2 c hc hcx
    ·rw[List.mem_singleton] at hc;rw[hc];exact fun e'=>e e'.symm
theorem BI.expire {m:Nat} {ws:Nat→List Int} {ts:Nat→Bool} {bs:List (List Int)} (h:BI m ws ts bs) (now:Int):BI m ws (es now bs ts bs.length).2.2 (es now bs ts bs.length).2.1∧(es now bs ts bs.length).2.1.length≤bs.length∧(es now bs ts bs.length).1.length≤bs.length:=by
 obtain ⟨n,g,d⟩:=es_form now bs ts bs.length (Nat.le_refl _)
 rw[List.take_length] at n g
 have hl:=es_len now bs ts bs.length
 refine ⟨?_,by omega,by omega⟩
 obtain ⟨k,l,o,b4⟩:=h
 generalize hts:(es now bs ts bs.length).2.2=ts' at d
 rw[g]
 have a:∀ b ∈ bs,∃ i:Nat,i < 8*m∧el b 19=1024+(i:Int):=fun b hb=>by obtain ⟨_,⟨i,e,f,_⟩,_⟩:=k b hb;exact ⟨i,e,f⟩
 refine ⟨fun b hb=>?_,l.filter _,o.filter _,fun j hj ht=>?_⟩
 ·rw[List.mem_filter] at hb
  obtain ⟨p,⟨i,e,f,q,ci⟩,r⟩:=k b hb.1
  refine ⟨p,⟨i,e,f,(d i).2 ⟨q,fun c hc hcx e'=>?_⟩,ci⟩,r⟩
  rw[List.take_length] at hc
  obtain ⟨w,_,v⟩:=a c hc
  have:c=b:=near_inj l hc hb.1 (by omega)
  rw[this] at hcx
  rw[hcx] at hb
  simp at hb
 ·obtain ⟨s,t⟩:=(d j).1 ht
  obtain ⟨b,hb,eb⟩:=b4 j hj s
  refine ⟨b,?_,eb⟩
  rw[List.mem_filter]
  refine ⟨hb,?_⟩
  cases hx:xp now b
  ·rfl
  ·exact absurd (show (el b 19 - 1024).toNat=j by omega) (t b (by rw[List.take_length];exact hb) hx)
end
section
variable {k:Nat}
theorem getD_at {bs:List (List Int)} (hk:k < bs.length):bs.getD k []=bs[k]:=by rw[List.getD_eq_getElem?_getD,List.getElem?_eq_getElem hk];rfl
theorem BI.fnd_at {m:Nat} {ws:Nat→List Int} {ts:Nat→Bool} {bs:List (List Int)} (h:BI m ws ts bs) (hk:k < bs.length):fnd bs (bs.getD k [])=some k:=by
 unfold fnd
 refine find_some hk ((eqf_iff _ _).2 rfl) fun j hj=>?_
 rw[getD_at (by omega),getD_at hk]
 exact List.pairwise_iff_getElem.1 h.2.2.1 j k (by omega) hk hj
theorem BI.fd {m:Nat} {ws:Nat→List Int} {ts:Nat→Bool} {bs:List (List Int)} (h:BI m ws ts bs) (hk:k < bs.length):Fd bs (bs.getD k []) (bs.getD k []) 0:=.inr (.inr ⟨(h.1 _ (mem_getD hk)).1,k,h.fnd_at hk,rfl,rfl⟩)
theorem BI.gone {m:Nat} {ws:Nat→List Int} {ts:Nat→Bool} {bs:List (List Int)} (h:BI m ws ts bs) (now:Int) {b:List Int} (hb:b ∈ (es now bs ts bs.length).1):Fd (es now bs ts bs.length).2.1 b [] 4∧30≤now - el b 22∧tc (el b 22)=true:=by
 obtain ⟨l,n,_⟩:=es_form now bs ts bs.length (Nat.le_refl _)
 rw[List.take_length] at l n
 rw[l,List.mem_filter] at hb
 rw[n]
 have o:=h.1 b hb.1
 refine ⟨.inr (.inl ⟨o.1,?_,rfl,rfl⟩),?_,o.2.2.1⟩
 ·unfold fnd
  rw[List.find?_eq_none]
  intro i w
  have a:=List.mem_range.1 w
  rw[getD_at a]
  have f:=List.getElem_mem a
  rw[List.mem_filter] at f
  intro e
  have r:=(eqf_iff _ _).1 e
  have s:(bs.filter (fun b=>!xp now b))[i]=b:=by
   obtain ⟨p,hp,g⟩:=List.getElem_of_mem f.1
   obtain ⟨q,t,k⟩:=List.getElem_of_mem hb.1
   have d:=List.pairwise_iff_getElem.1 h.2.2.1
   rcases (by omega:p=q∨p < q∨q < p) with rfl|hpq|hpq
   ·rw[← g,← k]
   ·have:=(eqf_false _ _).1 (d p q hp t hpq)
    rw[g,k] at this
    exact absurd r this
   ·have:=(eqf_false _ _).1 (d q p t hp hpq)
    rw[g,k] at this
    exact absurd r.symm this
  have v:=f.2
  rw[s,hb.2] at v
  cases v
 ·have:=hb.2
  unfold xp at this
  simp only[Bool.or_eq_true,Bool.and_eq_true,decide_eq_true_eq] at this
  rcases this with ⟨_,h⟩|⟨_,h⟩
  ·omega
  ·exact h
end
end Go.Proofs.YtgcojnlngchllaaGreatDoor
