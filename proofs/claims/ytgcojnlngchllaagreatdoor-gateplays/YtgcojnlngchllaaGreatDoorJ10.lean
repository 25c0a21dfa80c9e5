import Derived.Maps.AppendAt
import Derived.Test.YtgcojnlngchllaaGreatDoorJ05
namespace Go.Proofs.YtgcojnlngchllaaGreatDoor
open Go.RowKit Tryz
set_option linter.unusedVariables false
set_option maxRecDepth 100000
set_option maxHeartbeats 40000000
section
theorem nY(z:List Int)(j:Nat)(hj:j<8):(av z)[j]? = some (.int .i64 (el z j)):=by rcases (by omega:j=0∨j=1∨j=2∨j=3∨j=4∨j=5∨j=6∨j=7) with rfl|rfl|rfl|rfl|rfl|rfl|rfl|rfl<;>rfl
end
section
variable {f:List Int}{B:Nat}{w:World}
def ak(f:List Int):Array Value:=#[.int .i64 (el f 0),.int .i64 (el f 1),.int .i64 (el f 2),.int .i64 (el f 3),.int .i64 (el f 4),.int .i64 (el f 5),.int .i64 (el f 6),.int .i64 (el f 7),.int .i64 (el f 8),.int .i64 (el f 9),.int .i64 (el f 10),.int .i64 (el f 11),.int .i64 (el f 12),.int .i64 (el f 13),.int .i64 (el f 14),.int .i64 (el f 15),.int .i64 (el f 16),.int .i64 (el f 17),.int .i64 (el f 18)]
theorem uJ(f:List Int)(j:Nat)(hj:j<19):(ak f)[j]? = some (.int .i64 (el f j)):=by rcases (by omega:j=0∨j=1∨j=2∨j=3∨j=4∨j=5∨j=6∨j=7∨j=8∨j=9∨j=10∨j=11∨j=12∨j=13∨j=14∨j=15∨j=16∨j=17∨j=18) with rfl|rfl|rfl|rfl|rfl|rfl|rfl|rfl|rfl|rfl|rfl|rfl|rfl|rfl|rfl|rfl|rfl|rfl|rfl<;>rfl
def cli(f:List Int):List Int:=[el f 1,el f 2,el f 3,el f 4,el f 5,el f 6,el f 7,el f 8]
def dst(f:List Int):List Int:=[el f 10,el f 11,el f 12,el f 13,el f 14,el f 15,el f 16,el f 17]
theorem wY(f:List Int)(j:Nat)(hj:j<8):el (cli f) j=el f (1+j):=by rcases (by omega:j=0∨j=1∨j=2∨j=3∨j=4∨j=5∨j=6∨j=7) with rfl|rfl|rfl|rfl|rfl|rfl|rfl|rfl<;>rfl
theorem wZ(f:List Int)(j:Nat)(hj:j<8):el (dst f) j=el f (10+j):=by rcases (by omega:j=0∨j=1∨j=2∨j=3∨j=4∨j=5∨j=6∨j=7) with rfl|rfl|rfl|rfl|rfl|rfl|rfl|rfl<;>rfl
def bn(B:Nat)(f:List Int)(w:World):Prop:=w.heap[B]? = some (.cells (ak f) 89 (0,0))
theorem bn.lt{b:List Int}(p:bn B b w):B<w.heap.size:=(Array.getElem?_eq_some_iff.1 p).1
theorem bn.kept{b:List Int}{w':World}(p:bn B b w)(hb:Below w.heap.size w w'):bn B b w':=(hb.block B p.lt).trans p
theorem iC(f:List Int)(w:World):bn w.heap.size f (w.alloc (.cells (ak f) 89)):=heap_alloc_new w _
theorem bn.cell(p:bn B f w)(j:Nat)(hj:j<19):w.cell? ⟨B,j,none⟩=some (.int .i64 (el f j)):=(cell_of_row w B j _ _ _ p).trans (uJ f j hj)
theorem bn.cli(p:bn B f w):w.rangeAt B 1 (av (cli f)).toList:=by intro j v hv;have a:j<8:=(List.getElem?_eq_some_iff.1 hv).1;rw[p.cell (1+j) (by omega),<-wY f j a,<-nY _ j a];simpa using hv
theorem bn.dst(p:bn B f w):w.rangeAt B 10 (av (dst f)).toList:=by intro j v hv;have a:j<8:=(List.getElem?_eq_some_iff.1 hv).1;rw[p.cell (10+j) (by omega),<-wZ f j a,<-nY _ j a];simpa using hv
theorem bn.hc(p:bn B f w):(hload (.pointer (some ⟨B,1,none⟩))).run prog w=.ok (.agg (av (Go.Proofs.YtgcojnlngchllaaGreatDoor.cli f))) w:=run_loadAt_mid w B 1 23 _ _ p.cli underlying23 rfl (by kernel_rfl)
theorem bn.hd(p:bn B f w):(hload (.pointer (some ⟨B,10,none⟩))).run prog w=.ok (.agg (av (Go.Proofs.YtgcojnlngchllaaGreatDoor.dst f))) w:=run_loadAt_mid w B 10 23 _ _ p.dst underlying23 rfl (by kernel_rfl)
def bO(x:Value):Sem Value:=Instr.loadAt 89 x
theorem gP(x:Value):Instr.loadAt 89 x=bO x:=rfl
theorem bn.fl(p:bn B f w):(bO (.pointer (some ⟨B,0,none⟩))).run prog w=.ok (.agg (ak f)) w :=
 run_loadAt_mid w B 0 89 (ak f).toList _ (fun j v hv=>by rw[Nat.zero_add,cell_of_row w B j _ _ _ p];simpa using hv) underlying89 rfl (by kernel_rfl)
def wd(n:Int):Bool:=decide (0<=n) && decide (n<=65535)
def fr(n:Int):Bool:=decide (0<=n) && decide (n<=4294967295)
theorem jH(n:Int):wd n=true↔Word n:=by unfold wd Word;rw[Bool.and_eq_true,decide_eq_true_eq,decide_eq_true_eq]
def s6(z:List Int):Bool:=wd (el z 0) && wd (el z 1) && wd (el z 2) && wd (el z 3) && wd (el z 4) && wd (el z 5) && wd (el z 6) && wd (el z 7)
theorem fE(z:List Int):s6 z=true↔aH z:=by unfold s6 aH;simp only[Bool.and_eq_true,jH];refine⟨fun ⟨⟨⟨⟨⟨⟨⟨h0,h1⟩,h2⟩,h3⟩,h4⟩,h5⟩,h6⟩,h7⟩ j hj=>?_,fun h=>⟨⟨⟨⟨⟨⟨⟨h 0 (by omega),h 1 (by omega)⟩,h 2 (by omega)⟩,h 3 (by omega)⟩,h 4 (by omega)⟩,h 5 (by omega)⟩,h 6 (by omega)⟩,h 7 (by omega)⟩⟩;rcases (by omega:j=0∨j=1∨j=2∨j=3∨j=4∨j=5∨j=6∨j=7) with rfl|rfl|rfl|rfl|rfl|rfl|rfl|rfl<;>assumption
def fe(b:Bool):Int:=if b=true then 0 else 1
def aW(f:List Int):Bool:=((el f 0 == 6) || (el f 0 == 17)) && s6 (cli f) && s6 (dst f) && wd (el f 9) && wd (el f 18)
end
section
theorem nZ{f:Nat->Bool}{n:Nat}(h:∀j,j<n->f j=false):(List.range n).find? f=none:=by rw[List.find?_eq_none];intro x a;rw[h x (List.mem_range.1 a)];decide
theorem og{f:Nat->Bool}{n i:Nat}(hi:i<n)(h3:f i=true)(h:∀j,j<i->f j=false):(List.range n).find? f=some i:=by rw[List.find?_range_eq_some];exact⟨h3,List.mem_range.2 hi,fun j hj=>by rw[h j hj];rfl⟩
theorem MN:(prog.info? 3).map (fun i=>(i.zero,i.size,i.bytes))=some (some (.int .i64 0),1,8):=by kernel_rfl
theorem MO{w:World}{ops:Array Oper}{rest:List Oper}{o:Oper}{a:Act}{Q:Exit->Act->World->Prop}(hgd:o.guard=none)(s x:Operand)(ho:o.op=.call { callee:=.builtin .append,args:=#[s,x],argTypes:=#[168,168] })(base:Nat)(v:Value)(xs:List Value)(hs:a.eval s=v)(hown:bJ 3 base w v xs)(B m:Nat)(ys:List Value)(hx:a.eval x=.slice (some ⟨B,0,none⟩) m m)(hm:ys.length=m)(hc:∀(j:Nat)u,ys[j]? = some u->w.cell? ⟨B,j,none⟩=some u)(h1:∀u∈ys,u.oneCell'=true)(hlen:xs.length+m<=4000000)(hbase:base<=w.heap.size)(h:∀v' w',bJ 3 base w' v' (xs++ys)->w.grownBy w' v.ownBlock->wpList prog ops Q rest (a.put o.dst v') w'):wpList prog ops Q (o::rest) a w:=by
 obtain⟨f,g,b,d,e⟩:=info_parts MN;refine wpList_append_own _ hgd s x 168 ho base 3 f (.int .i64 0) 1 8 underlying168 g b d e rfl (by decide) v xs.length xs hs hown ⟨B,0,none⟩ m m ys hx (by omega) ?_ h1 (by unfold maxLen;omega) (by omega) hbase ?_
 ·intro j u i;rw[jQ,Nat.zero_add];exact hc j u i
 ·intro v' w' k l _;refine h v' w' ?_ l;unfold bJ;rw[List.length_append,hm];exact k
end
section
variable {b:List Int}{B g:Nat}{w:World}
def bG(b:List Int):Array Value:=#[.int .i64 (el b 0),.int .i64 (el b 1),.int .i64 (el b 2),.int .i64 (el b 3),.bool (el b 4 == 1),.bool (el b 5 == 1)]
theorem MP(b:List Int)(j:Nat)(hj:j<4):(bG b)[j]? = some (.int .i64 (el b j)):=by rcases (by omega:j=0∨j=1∨j=2∨j=3) with rfl|rfl|rfl|rfl<;>rfl
theorem MQ(b:List Int):(bG b)[4]? = some (.bool (el b 4 == 1)):=rfl
theorem MR(b:List Int):(bG b)[5]? = some (.bool (el b 5 == 1)):=rfl
def fM(a:Option Addr)(bs:List (List Int))(w:World):Prop:=0<bs.length->∃g off,a=some ⟨g,off,none⟩∧g<w.heap.size∧∀k,k<bs.length->w.rangeAt g (off+k*6) (bG (bs.getD k [])).toList
theorem fM.below{a:Option Addr}{bs:List (List Int)}{w':World}(h:fM a bs w)(hb:Below w.heap.size w w'):fM a bs w':=by intro hp;obtain⟨g,b,e,d,f⟩:=h hp;refine⟨g,b,e,Nat.lt_of_lt_of_le d hb.size,fun k hk j u hu=>?_⟩;rw[hb.cell (p:=⟨g,b+k*6+j,none⟩) d];exact f k hk j u hu
theorem lu{o:Nat}(h:w.rangeAt g o (bG b).toList)(j:Nat)(hj:j<4):w.cell? ⟨g,o+j,none⟩=some (.int .i64 (el b j)):=h j _ (by have:=MP b j hj;simpa using this)
theorem lC{o:Nat}(h:w.rangeAt g o (bG b).toList):w.cell? ⟨g,o,none⟩=some (.int .i64 (el b 0)):=lu h 0 (by omega)
theorem EW{o:Nat}(h:w.rangeAt g o (bG b).toList):w.cell? ⟨g,o+4,none⟩=some (.bool (el b 4 == 1)):=h 4 _ (by have:=MQ b;simpa using this)
theorem EX{o:Nat}(h:w.rangeAt g o (bG b).toList):w.cell? ⟨g,o+5,none⟩=some (.bool (el b 5 == 1)):=h 5 _ (by have:=MR b;simpa using this)
def Am(x:Value):Sem Value:=Instr.loadAt 77 x
theorem sF(x:Value):Instr.loadAt 77 x=Am x:=rfl
theorem sG{o:Nat}(h:w.rangeAt g o (bG b).toList):(Am (.pointer (some ⟨g,o,none⟩))).run prog w=.ok (.agg (bG b)) w:=run_loadAt_mid w g o 77 _ _ h underlying77 rfl (by kernel_rfl)
def dY(B:Nat)(b:List Int)(w:World):Prop:=w.heap[B]? = some (.cells (bG b) 77 (0,0))
theorem dY.lt(p:dY B b w):B<w.heap.size:=(Array.getElem?_eq_some_iff.1 p).1
theorem dY.kept{w':World}(p:dY B b w)(hb:Below w.heap.size w w'):dY B b w':=(hb.block B p.lt).trans p
def iy:Array Value:=#[.int .i64 0,.int .i64 0,.int .i64 0,.int .i64 0,.bool false,.bool false]
theorem nO(w:World):dY w.heap.size [] (w.alloc (.cells iy 77)):=heap_alloc_new w _
theorem EY(b:List Int)(w:World):dY w.heap.size b (w.alloc (.cells (bG b) 77)):=heap_alloc_new w _
theorem dY.rng(p:dY B b w):w.rangeAt B 0 (bG b).toList:=fun j v hv=>by rw[Nat.zero_add,cell_of_row w B j _ _ _ p];simpa using hv
theorem dY.kl(p:dY B b w):(Am (.pointer (some ⟨B,0,none⟩))).run prog w=.ok (.agg (bG b)) w:=sG p.rng
theorem dY.stored{b0:List Int}(p:dY B b0 w)(b:List Int):dY B b (w.setRow B (bG b)):=setRow_heap w B _ _ _ (0,0) p
theorem kC{ops:Array Oper}{rest:List Oper}{o:Oper}{f:Act}{Q:Exit->Act->World->Prop}(hgd:o.guard=none)(x y:Operand)(ho:o.op=.store 77 x y){B:Nat}{b0:List Int}(hx:f.eval x=.pointer (some ⟨B,0,none⟩))(p:dY B b0 w)(b:List Int)(hy:f.eval y=.agg (bG b))(hK:∀w',dY B b w'->Only B w w'->wpList prog ops Q rest (f.put o.dst undef) w'):wpList prog ops Q (o::rest) f w :=
 wpList_store_row hgd 77 x y ho B _ hx hy 77 _ p (by kernel_rfl) rfl (by unfold bG;simp[Value.oneCell']) (hK _ (p.stored b) (dS _ _ _))
theorem pI{fn:Func}{p u:Tmp}(h:fn.results=#[.cell p 77,.tmp u])(tmps:Array Value)(w:World)(B:Nat)(b:List Int)(ht:tmps.getD p undef=.pointer (some ⟨B,0,none⟩))(hg:dY B b w): (results fn tmps).run prog w=.ok (.tuple #[.agg (bG b),tmps.getD u undef]) w:=by rw[results_cell_tmp h,ht];have hl:=run_loadVar_row (P:=prog) w B 77 77 _ (0,0) _ hg underlying77 rfl (by kernel_rfl);simp[asAddr,hl]
def iK(b:List Int):Bool:=wd (el b 0) && wd (el b 2) && fr (el b 1) && (decide (0<=el b 3) && decide (el b 3<=10))
def l8(bs:List (List Int))(i:Nat):Bool:=(List.range i).any fun k=>el (bs.getD k []) 0 == el (bs.getD i []) 0
def flt(bs:List (List Int))(i:Nat):Int:=if iK (bs.getD i [])=true then (if l8 bs i=true then 8 else 0) else 1
def MS(o:Option Nat)(bs:List (List Int)):Int×Int:=match o with|some i=>((i:Int),flt bs i)|none=>(0,0)
def dz(bs:List (List Int)):Int×Int:=if 8<bs.length then (0,3) else MS ((List.range bs.length).find? fun i=>flt bs i != 0) bs
theorem EZ{bs:List (List Int)}{i:Nat}(hl:¬8<bs.length)(hi:i<bs.length)(h1:(flt bs i != 0)=true)(h:∀j,j<i->(flt bs j != 0)=false):dz bs=((i:Int),flt bs i):=by unfold dz;rw[if_neg hl,og hi h1 h];rfl
theorem Ao{bs:List (List Int)}(hl:¬8<bs.length)(h:∀j,j<bs.length->(flt bs j != 0)=false):dz bs=(0,0):=by unfold dz;rw[if_neg hl,nZ h];rfl
theorem uK{bs:List (List Int)}(h:(dz bs).2=0):bs.length<=8∧∀i,i<bs.length->iK (bs.getD i [])=true∧l8 bs i=false:=by
 unfold dz at h;split at h
 ·cases h
 ·rename_i hl;refine⟨by omega,fun i hi=>?_⟩;cases ho:(List.range bs.length).find? fun i=>flt bs i != 0 with
  | some j =>rw[ho] at h;have b:=List.find?_some ho;have a:flt bs j=0:=h;simp[a] at b
  | none =>
   rw[List.find?_eq_none] at ho;have b:=ho i (List.mem_range.2 hi);have a:flt bs i=0:=by simpa using b
   unfold flt at a;cases hk:iK (bs.getD i [])
   ·rw[hk] at a;simp at a
   ·rw[hk] at a;cases hs:l8 bs i
    ·exact⟨rfl,rfl⟩
    ·rw[hs] at a;simp at a
end
section
variable {v:Value}{w:World}
theorem ig{w':World}{base:Nat}{e:TypeId}{size:Nat}{n:Nat}{xs:List Value}(h:w.ownsRow base e size v n xs)(hb:∀g,v.ownBlock=some g->w'.heap[g]? = w.heap[g]?):w'.ownsRow base e size v n xs:=by
 refine⟨h.1,?_⟩;rcases h.2 with h2|⟨g,cap,cur,rfl,hb',hg,rest⟩
 ·exact .inl h2
 ·exact .inr ⟨g,cap,cur,rfl,hb',(hb g rfl).trans hg,rest⟩
theorem cO{base:Nat}{e:TypeId}{size:Nat}{n:Nat}{xs:List Value}(h:w.ownsRow base e size v n xs)(g:Nat)(hg:v.ownBlock=some g):g<w.heap.size∧base<=g:=by
 rcases h.2 with⟨rfl,_⟩|⟨g',cap,cur,rfl,hb',hgc,_⟩
 ·simp[Value.ownBlock] at hg
 ·have:g'=g:=by simpa [Value.ownBlock] using hg
  subst this;exact⟨(Array.getElem?_eq_some_iff.1 hgc).1,hb'⟩
def kvs(bs:List (List Int)):List Value:=bs.flatMap fun b=>(bG b).toList
def iD(base:Nat)(w:World)(v:Value)(bs:List (List Int)):Prop:=w.ownsRow base 77 6 v bs.length (kvs bs)
theorem iD.nil(base:Nat)(w:World):iD base w (.slice none 0 0) []:=World.ownsRow_nil _ _ _ _
theorem E5(bs:List (List Int)):(kvs bs).length=bs.length*6:=by
 induction bs with
 | nil=>rfl
 | cons z r ih=>unfold kvs at ih⊢;rw[List.flatMap_cons,List.length_append,ih,List.length_cons,show(bG z).toList.length=6 from rfl];omega
theorem MU(a b:List (List Int)):kvs (a++b)=kvs a++kvs b:=List.flatMap_append
theorem Ap(bs:List (List Int))(k j:Nat)(h:k<bs.length)(hj:j<6):(kvs bs)[k*6+j]? = (bG (bs.getD k [])).toList[j]?:=by
 induction bs generalizing k with
 | nil=>exact absurd h (by simp)
 | cons z r ih =>
  unfold kvs at ih⊢;rw[List.flatMap_cons];have hl:(bG z).toList.length=6:=rfl;cases k with
  | zero =>rw[List.getElem?_append_left (by omega),Nat.zero_mul,Nat.zero_add];rfl
  | succ k =>rw[List.getElem?_append_right (by omega),hl,show(k+1)*6+j-6=k*6+j by omega,ih k (by simpa using h)];rfl
theorem iD.tO{base:Nat}{bs:List (List Int)}(h:iD base w v bs):∃a cap,v=.slice a bs.length cap∧bs.length<=cap∧fM a bs w:=by
 have b:w.ownsRow base 77 6 v bs.length (kvs bs):=h;rcases h.2 with⟨rfl,hn⟩|⟨g,cap,cur,rfl,_,hg,hnc,_⟩
 ·exact⟨none,0,by rw[hn],by omega,fun hp=>by omega⟩
 ·refine⟨_,cap,rfl,hnc,fun _=>⟨g,0,rfl,(Array.getElem?_eq_some_iff.1 hg).1,fun k hk j v hv=>?_⟩⟩;have d:j<6:=(List.getElem?_eq_some_iff.1 hv).1;rw[Nat.zero_add,World.ownsRow.cellAt b (k*6+j) (by omega),Ap bs k j hk d];exact hv
theorem Aq:(prog.info? 77).map (fun i=>(i.zero,i.size,i.bytes))=some (some (.agg iy),6,40):=by kernel_rfl
theorem E8{ops:Array Oper}{rest:List Oper}{o:Oper}{a:Act}{Q:Exit->Act->World->Prop}(hgd:o.guard=none)(s x:Operand)(ho:o.op=.call { callee:=.builtin .append,args:=#[s,x],argTypes:=#[24,24] })(base:Nat)(v:Value)(l:List (List Int))(hs:a.eval s=v)(hown:iD base w v l)(g off m c:Nat)(l2:List (List Int))(hx:a.eval x=.slice (some ⟨g,off,none⟩) m c)(hl:l2.length=m)(hc:∀j,j<m->w.rangeAt g (off+j*6) (bG (l2.getD j [])).toList)(hlen:l.length+m<=1000000)(hbase:base<=w.heap.size)(h:∀v' w',iD base w' v' (l++l2)->w.grownBy w' v.ownBlock->wpList prog ops Q rest (a.put o.dst v') w'):wpList prog ops Q (o::rest) a w:=by
 obtain⟨n,p,f,i,k⟩:=info_parts Aq;have e:w.ownsRow base 77 6 v l.length (kvs l):=hown;refine wpList_append_own_at _ hgd s x 24 ho base 77 n _ 6 40 underlying24 p f i k rfl (by decide) v l.length (kvs l) hs e ⟨g,off,none⟩ m c (kvs l2) hx (by rw[E5,hl]) ?_ ?_ (by unfold maxLen;omega) (by omega) hbase ?_
 ·intro j u b;have t:j<l2.length*6:=by have:=(List.getElem?_eq_some_iff.1 b).1;rwa [E5] at this
  have h8:=Ap l2 (j/6) (j%6) (by omega) (by omega);rw[show j/6*6+j%6=j by omega,b] at h8;have q:=hc (j/6) (by omega) (j%6) u h8.symm;rw[jQ,show off+j=off+j/6*6+j%6 by omega];exact q
 ·intro u b;unfold kvs at b;obtain⟨z,_,d⟩:=List.mem_flatMap.1 b;unfold bG at d;simp at d;rcases d with rfl|rfl|rfl|rfl|rfl|rfl<;>rfl
 ·intro v' w' r d _ y;refine h v' w' ?_ d;unfold iD;rw[MU,List.length_append,hl];exact r
def MV(ps:Array (Nat×Value)):Sem Value:=Instr.build 89 ps
theorem MW(ps:Array (Nat×Value)):Instr.build 89 ps=MV ps:=rfl
end
section
variable {id:Int}{f:List Int}{v:Value}{w:World}
def fA(seed:Int)(f:List Int)(id:Int):Bool:=decide (0<=seed) && decide (seed<=2147483647) && wd id && aW f
theorem qJ{seed:Int}:fA seed f id=true↔0<=seed∧seed<=2147483647∧wd id=true∧aW f=true:=by
 unfold fA;rw[Bool.and_eq_true,Bool.and_eq_true,Bool.and_eq_true,decide_eq_true_eq,decide_eq_true_eq];constructor
 ·rintro ⟨⟨⟨a,b⟩,c⟩,d⟩;exact⟨a,b,c,d⟩
 ·rintro ⟨a,b,c,d⟩;exact⟨⟨⟨a,b⟩,c⟩,d⟩
theorem MX{seed:Int}(h:fA seed f id=false):seed<0∨(¬seed<0∧2147483647<seed)∨(¬seed<0∧¬2147483647<seed∧wd id=false)∨(¬seed<0∧¬2147483647<seed∧wd id=true∧aW f=false):=by
 by_cases h1:seed<0
 ·exact .inl h1
 ·by_cases h2:2147483647<seed
  ·exact .inr (.inl ⟨h1,h2⟩)
  ·cases h3:wd id
   ·exact .inr (.inr (.inl ⟨h1,h2,rfl⟩))
   ·cases h4:aW f
    ·exact .inr (.inr (.inr ⟨h1,h2,rfl,rfl⟩))
    ·rw[qJ.2 ⟨by omega,by omega,h3,h4⟩] at h;cases h
def nl(f:List Int)(n:Nat):List Int:=(List.range n).map (el f)
def nums(f:List Int)(id:Int):List Int:=nl f 19++[id]
theorem w9(f:List Int)(n:Nat):nl f (n+1)=nl f n++[el f n]:=by unfold nl;rw[List.range_succ,List.map_append];rfl
theorem uL(f:List Int)(n:Nat):(nl f n).length=n:=by unfold nl;simp
theorem sH(f:List Int)(id:Int):(nums f id).length=20:=by unfold nums;rw[List.length_append,uL];rfl
theorem ny(h:aW f=true)(j:Nat)(hj:j<19):0<=el f j∧el f j<=65535:=by
 unfold aW at h;simp only[Bool.and_eq_true,Bool.or_eq_true,beq_iff_eq] at h;obtain⟨⟨⟨⟨k,d⟩,g⟩,i⟩,h4⟩:=h;rw[jH] at i h4;rw[fE] at d g;rcases (by omega:j=0∨(1<=j∧j<9)∨j=9∨(10<=j∧j<18)∨j=18) with rfl|⟨a,b⟩|rfl|⟨a,b⟩|rfl
 ·rcases k with e|e<;>rw[e]<;>omega
 ·have:=d (j-1) (by omega);rw[wY f _ (by omega),show 1+(j-1)=j by omega] at this;exact this
 ·exact i
 ·have:=g (j-10) (by omega);rw[wZ f _ (by omega),show 10+(j-10)=j by omega] at this;exact this
 ·exact h4
theorem xg{seed:Int}(h:fA seed f id=true):∀x∈nums f id,0<=x∧x<=65535:=by
 obtain⟨-,-,a,h4⟩:=qJ.1 h;intro x hx;unfold nums at hx;rcases List.mem_append.1 hx with hx|hx
 ·unfold nl at hx;obtain⟨j,b,rfl⟩:=List.mem_map.1 hx;exact ny h4 j (List.mem_range.1 b)
 ·rw[List.mem_singleton] at hx;subst hx;exact(jH _).1 a
def mx(x n:Int):Int:=(x*69069+n+1).tmod 2147483648
theorem xk{x n:Int}(h1:0<=x)(h2:0<=n):0<=mx x n∧mx x n<2147483648:=by
 unfold mx;have h:0<=x*69069+n+1:=by omega
 rw[Int.tmod_eq_emod_of_nonneg h];omega
def eX(seed:Int)(l:List Int):Int:=l.foldl mx seed
theorem xq(seed:Int)(l:List Int)(n:Int):eX seed (l++[n])=mx (eX seed l) n:=by unfold eX;rw[List.foldl_append];rfl
theorem qK{seed:Int}(h0:0<=seed∧seed<2147483648):∀l:List Int,(∀x∈l,0<=x)->0<=eX seed l∧eX seed l<2147483648:=by
 intro l;unfold eX;induction l generalizing seed with
 | nil=>intro _;exact h0
 | cons a r ih =>intro h;rw[List.foldl_cons];exact ih (xk h0.1 (h a (List.mem_cons_self ..))) (fun x hx=>h x (List.mem_cons_of_mem _ hx))
def sc(seed:Int)(f:List Int)(id:Int):Int:=(eX seed (nums f id)).tdiv 256
theorem MZ{seed:Int}(h:fA seed f id=true):0<=sc seed f id∧sc seed f id<8388608:=by obtain⟨a,b,-,-⟩:=qJ.1 h;have:=qK (seed:=seed) ⟨a,by omega⟩ (nums f id) (fun x hx=>(xg h x hx).1);unfold sc;rw[Int.tdiv_eq_ediv_of_nonneg this.1];omega
def sv(seed:Int)(f:List Int)(id:Int):Int:=if fA seed f id=true then sc seed f id else 0
theorem E9(seed:Int)(f:List Int)(id:Int):0<=sv seed f id∧sv seed f id<8388608:=by
 unfold sv;split
 ·rename_i h;exact MZ h
 ·omega
def cand(b:List Int):Bool:=(el b 4 == 1) && !(el b 5 == 1) && !(el b 3 == 0)
def pv(seed:Int)(f:List Int)(b:List Int):Int:=sv seed f (el b 0)*el b 3
def oh(bs:List (List Int))(o:Option Nat)(m n:Int)(k:Nat):Bool:=match o with|none=>true|some i=>decide (m<n) || ((n == m) && decide (el (bs.getD k []) 0<el (bs.getD i []) 0))
def bZ(seed:Int)(f:List Int)(bs:List (List Int)):Nat->Option Nat×Int
 | 0=>(none,0)
 | k+1=>if cand (bs.getD k [])=true then (if oh bs (bZ seed f bs k).1 (bZ seed f bs k).2 (pv seed f (bs.getD k [])) k=true then (some k,pv seed f (bs.getD k [])) else bZ seed f bs k) else bZ seed f bs k
theorem uM(seed:Int)(f:List Int)(bs:List (List Int)):∀k i,(bZ seed f bs k).1=some i->i<k
 | 0,i,h=>by cases h
 | k+1,i,h=>by
  simp only[bZ] at h;split at h
  ·split at h
   ·injection h with h;omega
   ·have:=uM seed f bs k i h;omega
  ·have:=uM seed f bs k i h;omega
def lD(o:Option Nat)(bs:List (List Int)):List Int×Int:=match o with|none=>([],4)|some i=>(bs.getD i [],0)
def dW(seed:Int)(f:List Int)(bs:List (List Int)):List Int×Int:=if (dz bs).2=0 then (if fA seed f 0=true then lD (bZ seed f bs bs.length).1 bs else ([],1)) else ([],(dz bs).2)
def ints(l:List Int):List Value:=l.map (Value.int .i64)
theorem uN(l:List Int):(ints l).length=l.length:=by unfold ints;simp
theorem M0(a b:List Int):ints (a++b)=ints a++ints b:=by unfold ints;simp
theorem M4(base:Nat)(w:World):bJ 3 base w (.slice none 0 0) (ints []):=World.ownsRow_nil _ _ _ _
theorem M5{e:TypeId}{base:Nat}{w':World}{xs:List Value}(h:bJ e base w v xs)(hb:∀g,v.ownBlock=some g->w'.heap[g]? = w.heap[g]?):bJ e base w' v xs:=by
 refine⟨h.1,?_⟩;rcases h.2 with h2|⟨g,cap,cur,rfl,hb',hg,rest⟩
 ·exact .inl h2
 ·exact .inr ⟨g,cap,cur,rfl,hb',(hb g rfl).trans hg,rest⟩
theorem Fa{e:TypeId}{base:Nat}{xs:List Value}(h:bJ e base w v xs)(g:Nat)(hg:v.ownBlock=some g):g<w.heap.size∧base<=g:=by
 rcases h.2 with⟨rfl,_⟩|⟨g',cap,cur,rfl,hb',hgc,_⟩
 ·simp[Value.ownBlock] at hg
 ·have:g'=g:=by simpa [Value.ownBlock] using hg
  subst this;exact⟨(Array.getElem?_eq_some_iff.1 hgc).1,hb'⟩
theorem M6{base:Nat}{l:List Int}(h:bJ 3 base w v (ints l))(hl:0<l.length):∃g cap,v=.slice (some ⟨g,0,none⟩) l.length cap∧∀k,k<l.length->w.cell? ⟨g,k,none⟩=some (.int .i64 (l.getD k 0)):=by
 have a:w.ownsRow base 3 1 v (ints l).length (ints l):=h;rcases h.2 with⟨rfl,hn⟩|⟨g,cap,cur,rfl,_⟩
 ·rw[uN] at hn;omega
 ·refine⟨g,cap,by rw[uN],fun k hk=>?_⟩;rw[World.ownsRow.cellAt a k (by rw[uN];omega)];unfold ints;simp[hk]
end
section
def M7:Prop:=∀(a:Option Addr)(cap:Nat)(bs:List (List Int))(w:World),fM a bs w->bs.length<=maxLen->bs.length<=cap ->
 Calls prog 74 #[.slice a bs.length cap] w fun e w'=>e=.returned (.tuple #[.int .i64 (dz bs).1,ev (dz bs).2])∧Below w.heap.size w w'
def M8:Prop:=∀(seed:Int)(f:List Int)(id:Int)(w:World),
 Calls prog 194 #[.int .i64 seed,.agg (ak f),.int .i64 id] w fun e w'=>e=.returned (.tuple #[.int .i64 (sv seed f id),ev (fe (fA seed f id))])∧Below w.heap.size w w'
def M9:Prop:=∀(seed:Int)(f:List Int)(a:Option Addr)(cap:Nat)(bs:List (List Int))(w:World),fM a bs w->bs.length<=maxLen->bs.length<=cap ->
 Calls prog 141 #[.int .i64 seed,.agg (ak f),.slice a bs.length cap] w fun e w'=>e=.returned (.tuple #[.agg (bG (dW seed f bs).1),ev (dW seed f bs).2])∧Below w.heap.size w w'
end
section
theorem Ar(z:List Int)(W:World)(hz:aH z):Calls prog 70 #[.agg (av z)] W fun e w'=>e=.returned .nilIface∧Below W.heap.size W w' :=
 (o7 z W hz).mono fun e w' ⟨h1,h2⟩=>⟨h1,by rw[h2];exact au _ _⟩
theorem Na(z:List Int)(W:World)(hz:¬aH z):Calls prog 70 #[.agg (av z)] W fun e w'=>e=.returned (.iface 28 (.int .i64 1))∧Below W.heap.size W w' :=
 (wC z W hz).mono fun e w' ⟨h1,h2⟩=>⟨h1,by rw[h2];exact au _ _⟩
def fB(m x:Int):Bool:=decide (0<=x) && decide (x<=m)
theorem jT(m x:Int):fB m x=true↔0<=x∧x<=m:=by unfold fB;rw[Bool.and_eq_true,decide_eq_true_eq,decide_eq_true_eq]
def iL(m:Int)(l:List Int):Bool:=l.all (fB m)
theorem Au(m:Int)(l:List Int):iL m l=true↔∀i,i<l.length->fB m (l.getD i 0)=true:=by
 unfold iL;rw[List.all_eq_true];constructor
 ·intro h i a;exact h _ (by simp[List.getD_eq_getElem?_getD,a])
 ·intro h x b;obtain⟨i,a,rfl⟩:=List.mem_iff_getElem.1 b;have:=h i a;simpa [List.getD_eq_getElem?_getD,a] using this
theorem Av(m:Int)(B n:Nat)(l:List Int)(w:World)(hn:l.length=n)(hm:n<=1000)(hc:Ints B l w): Calls prog 153 #[.int .i64 m,.slice (some ⟨B,0,none⟩) n n] w fun e w'=>e=.returned (.bool (iL m l))∧w'=w:=by
 have a:=ki (Au m l);have o:=ki hc;have d:=ki hn;clear hc;generalize iL m l=u at a⊢;go_enter func153,ntmps153;go_wp2;go_loop [9] (fun t=>∃k:Nat,k<=n∧Hid (∀i,i<k->fB m (l.getD i 0)=true)∧t=.int .i64 k) (fun t=>n-(intOf t).toNat)
 case atStart=>exact⟨0,by omega,fun i hi=>absurd hi (by omega),rfl⟩
 case round =>
  obtain⟨k,p,HI,rfl⟩:=hrel;by_cases hlt:k<n
  ·have g:=o.o.cell k (by omega);generalize gQ:l.getD k 0=z at g;have f:=ki gQ;clear gQ hn;by_cases hz0:z<0
   ·go_wp2;go_ret;exact⟨congrArg (fun b=>Ending.returned (.bool b)) (Eq.symm (Bool.eq_false_iff.2 fun h=>by have:=(jT _ _).1 (a.o.1 h k (by rw[d.o];exact hlt));rw[f.o] at this;omega)),rfl⟩
   ·by_cases hz1:m<z
    ·go_wp2;go_ret;exact⟨congrArg (fun b=>Ending.returned (.bool b)) (Eq.symm (Bool.eq_false_iff.2 fun h=>by have:=(jT _ _).1 (a.o.1 h k (by rw[d.o];exact hlt));rw[f.o] at this;omega)),rfl⟩
    ·go_wp2;go_round
     case rel=>exact⟨k+1,by omega,fun i hi=>if h:i=k then by subst h;rw[f.o];exact(jT _ _).2 ⟨by omega,by omega⟩ else HI.o i (by omega),by go_num⟩
     case measure=>simp[intOf];omega
  ·go_wp2;go_ret;obtain rfl:k=n:=by omega
   exact⟨congrArg (fun b=>Ending.returned (.bool b)) (Eq.symm (a.o.2 fun i hi=>HI.o i (by rw[<-d.o];exact hi))),rfl⟩
theorem Nb(x y:Int)(W:World):Calls prog 153 #[.int .i64 65535,.slice (some ⟨W.heap.size,0,none⟩) 2 2] (W.alloc (.cells #[.int .i64 x,.int .i64 y] 3)) fun e w'=>e=.returned (.bool (wd x && wd y))∧Below W.heap.size W w' :=
 (Av 65535 W.heap.size 2 [x,y] _ rfl (by omega) (jo W [x,y])).mono fun e w' ⟨h1,h2⟩=>⟨h1.trans (by rw[show iL 65535 [x,y]=(wd x && wd y) by unfold iL fB wd;simp]),by rw[h2];exact au _ _⟩
theorem Aw(z:List Int)(W:World):Calls prog 70 #[.agg (av z)] W fun e w'=>e=.returned (ev (fe (s6 z)))∧Below W.heap.size W w':=by
 cases h:s6 z
 ·exact Na z W (fun h'=>by rw[(fE z).2 h'] at h;cases h)
 ·exact Ar z W ((fE z).1 h)
theorem xu(a:Int)(w:World):Calls prog 73 #[.int .i64 a] w fun e w'=>e=.returned (ev (fe (fr a)))∧w'=w:=by
 unfold fr;by_cases h0:a<0
 ·have hd:decide (0<=a)=false:=decide_eq_false (by omega);rw[hd];go_enter func73,ntmps73;go_wp2;go_ret;exact⟨rfl,rfl⟩
 ·have hd:decide (0<=a)=true:=decide_eq_true (by omega);rw[hd];by_cases h1:4294967295<a
  ·have b:decide (a<=4294967295)=false:=decide_eq_false (by omega);rw[b];go_enter func73,ntmps73;go_wp2;go_ret;exact⟨rfl,rfl⟩
  ·have b:decide (a<=4294967295)=true:=decide_eq_true (by omega);rw[b];go_enter func73,ntmps73;go_wp2;go_ret;exact⟨rfl,rfl⟩
attribute [local go_sem ↓] gy
theorem om(f:List Int)(w:World):Calls prog 199 #[.agg (ak f)] w fun e w'=>e=.returned (ev (fe (aW f)))∧Below w.heap.size w w':=by
 have a:=ki (au w (.cells (ak f) 89));have d:=ki (iC f w);have q:=ki (fun W=>Nb (el f 9) (el f 18) W);have i:=ki (fun W=>Aw (cli f) W);have l:=ki (fun W=>Aw (dst f) W);have g:=ki (show aW f=(((el f 0 == 6) || (el f 0 == 17)) && s6 (cli f) && s6 (dst f) && (wd (el f 9) && wd (el f 18))) by unfold aW;rw[Bool.and_assoc (_ && _)]);generalize aW f=ok at g⊢;generalize (wd (el f 9) && wd (el f 18))=pp at q g;generalize s6 (cli f)=sc at i g;generalize s6 (dst f)=sd at l g;obtain⟨k,hk⟩:∃x,el f 0=x:=⟨_,rfl⟩;rw[hk] at g;have n:=ki hk;clear hk;go_enter func199,ntmps199;go_upto_region 1 with fail
 generalize w.alloc _=W at a d⊢;have c0:=d.o.cell 0 (by omega);have A:=d.o.hc;rw[n.o] at c0;clear n;by_cases kk:k=6∨k=17
 ·have o:((k == 6) || (k == 17))=true:=by simpa using kk
  rw[o] at g;clear o;rcases kk with rfl|rfl;all_goals
   cases sc
   ·rw[show ev (fe false)=err 1 from rfl] at i;unfold err at i;go_wp2_with (go_at_call 70;(with_reducible refine(i.o _).mono ?_);rintro e r ⟨rfl,b⟩;replace a:=ki (bt a.o b);clear b)
    go_ret;exact⟨by rw[g.o];rfl,a.o⟩
   ·rw[show ev (fe true)=.nilIface from rfl] at i;cases sd
    ·rw[show ev (fe false)=err 1 from rfl] at l;unfold err at l;go_wp2_with (first|(go_at_call 70;(with_reducible refine(i.o _).mono ?_);rintro e r ⟨rfl,b⟩;replace a:=ki (bt a.o b);replace d:=ki (d.o.kept b);have t:=d.o.hd;clear b)|(go_at_call 70;(with_reducible refine(l.o _).mono ?_);rintro e v ⟨rfl,h⟩;replace a:=ki (bt a.o h);clear h))
     go_ret;exact⟨by rw[g.o];rfl,a.o⟩
    ·rw[show ev (fe true)=.nilIface from rfl] at l;cases pp;all_goals
      go_wp2_with (first|(go_at_call 70;(with_reducible refine(i.o _).mono ?_);rintro e r ⟨rfl,b⟩;replace a:=ki (bt a.o b);replace d:=ki (d.o.kept b);have t:=d.o.hd;clear b)|(go_at_call 70;(with_reducible refine(l.o _).mono ?_);rintro e v ⟨rfl,h⟩;replace a:=ki (bt a.o h);replace d:=ki (d.o.kept h);clear h;have B:=d.o.cell 9 (by omega);have c18:=d.o.cell 18 (by omega))|(go_at_call 153;(with_reducible refine(q.o _).mono ?_);rintro e C ⟨rfl,p⟩;replace a:=ki (bt a.o p);clear p))
      go_ret;exact⟨by rw[g.o];rfl,a.o⟩
 ·have y:(k != 6)=true:=by simpa using fun e=>kk (.inl e)
  have s:(k != 17)=true:=by simpa using fun e=>kk (.inr e)
  have z:=ki (show ok=false by rw[g.o,show(k == 6)=false by simpa using y,show(k == 17)=false by simpa using s];rfl);clear kk;go_wp2;go_ret;exact⟨by rw[z.o];rfl,a.o⟩
end
section
theorem Fb(m:Int)(B n:Nat)(l:List Int)(w:World)(hn:l.length=n)(hm:n<=1000)(hc:Ints B l w): Calls prog 188 #[.int .i64 m,.slice (some ⟨B,0,none⟩) n n] w fun e w'=>e=.returned (.bool (iL m l))∧w'=w:=by
 have a:=ki (Au m l);have o:=ki hc;have d:=ki hn;clear hc;generalize iL m l=u at a⊢;go_enter func188,ntmps188;go_wp2;go_loop [9] (fun t=>∃k:Nat,k<=n∧Hid (∀i,i<k->fB m (l.getD i 0)=true)∧t=.int .i64 k) (fun t=>n-(intOf t).toNat)
 case atStart=>exact⟨0,by omega,fun i hi=>absurd hi (by omega),rfl⟩
 case round =>
  obtain⟨k,p,HI,rfl⟩:=hrel;by_cases hlt:k<n
  ·have g:=o.o.cell k (by omega);generalize gQ:l.getD k 0=z at g;have f:=ki gQ;clear gQ hn;by_cases hz0:z<0
   ·go_wp2;go_ret;exact⟨congrArg (fun b=>Ending.returned (.bool b)) (Eq.symm (Bool.eq_false_iff.2 fun h=>by have:=(jT _ _).1 (a.o.1 h k (by rw[d.o];exact hlt));rw[f.o] at this;omega)),rfl⟩
   ·by_cases hz1:m<z
    ·go_wp2;go_ret;exact⟨congrArg (fun b=>Ending.returned (.bool b)) (Eq.symm (Bool.eq_false_iff.2 fun h=>by have:=(jT _ _).1 (a.o.1 h k (by rw[d.o];exact hlt));rw[f.o] at this;omega)),rfl⟩
    ·go_wp2;go_round
     case rel=>exact⟨k+1,by omega,fun i hi=>if h:i=k then by subst h;rw[f.o];exact(jT _ _).2 ⟨by omega,by omega⟩ else HI.o i (by omega),by go_num⟩
     case measure=>simp[intOf];omega
  ·go_wp2;go_ret;obtain rfl:k=n:=by omega
   exact⟨congrArg (fun b=>Ending.returned (.bool b)) (Eq.symm (a.o.2 fun i hi=>HI.o i (by rw[<-d.o];exact hi))),rfl⟩
theorem Ay(m x:Int)(W:World):Calls prog 188 #[.int .i64 m,.slice (some ⟨W.heap.size,0,none⟩) 1 1] (W.alloc (.cells #[.int .i64 x] 3)) fun e w'=>e=.returned (.bool (fB m x))∧Below W.heap.size W w' :=
 (Fb m W.heap.size 1 [x] _ rfl (by omega) (jo W [x])).mono fun e w' ⟨h1,h2⟩=>⟨h1.trans (by rw[show iL m [x]=fB m x by unfold iL;simp]),by rw[h2];exact au _ _⟩
theorem Nc(x y:Int)(W:World):Calls prog 188 #[.int .i64 65535,.slice (some ⟨W.heap.size,0,none⟩) 2 2] (W.alloc (.cells #[.int .i64 x,.int .i64 y] 3)) fun e w'=>e=.returned (.bool (wd x && wd y))∧Below W.heap.size W w' :=
 (Fb 65535 W.heap.size 2 [x,y] _ rfl (by omega) (jo W [x,y])).mono fun e w' ⟨h1,h2⟩=>⟨h1.trans (by rw[show iL 65535 [x,y]=(wd x && wd y) by unfold iL fB wd;simp]),by rw[h2];exact au _ _⟩
theorem Nf(b:List Int)(w:World):Calls prog 129 #[.agg (bG b)] w fun e w'=>e=.returned (ev (fe (iK b)))∧Below w.heap.size w w':=by
 have d:=ki (au w (.cells (bG b) 77));have f:=ki (EY b w);have k:=ki (fun W=>Nc (el b 0) (el b 2) W);have o:=ki (fun W=>Ay 10 (el b 3) W);have h:=ki (fun W=>xu (el b 1) W);have g:=ki (show iK b=((wd (el b 0) && wd (el b 2)) && fr (el b 1) && fB 10 (el b 3)) from rfl);generalize iK b=ok at g⊢;generalize (wd (el b 0) && wd (el b 2))=pp at k g;generalize fr (el b 1)=pf at h g;generalize fB 10 (el b 3)=pu at o g;go_enter func129,ntmps129;go_upto_region 1 with fail
 generalize w.alloc _=W at d f⊢;have c0:=lC f.o.rng;have c2:=lu f.o.rng 2 (by omega);cases pp
 ·go_wp2_with (go_at_call 188;(with_reducible refine(k.o _).mono ?_);rintro e p ⟨rfl,a⟩;replace d:=ki (bt d.o a);clear a)
  go_ret;exact⟨by rw[g.o];rfl,d.o⟩
 ·cases pf
  ·rw[show ev (fe false)=err 1 from rfl] at h;unfold err at h;go_wp2_with (first|(go_at_call 188;(with_reducible refine(k.o _).mono ?_);rintro e p ⟨rfl,a⟩;replace d:=ki (bt d.o a);replace f:=ki (f.o.kept a);have c1:=lu f.o.rng 1 (by omega);clear a c0 c2)|(go_at_call 73;(with_reducible refine(h.o _).mono ?_);rintro e n ⟨rfl,i⟩;rw[i];clear i n))
   go_ret;exact⟨by rw[g.o];rfl,d.o⟩
  ·rw[show ev (fe true)=.nilIface from rfl] at h;cases pu;all_goals
    go_wp2_with (first|(go_at_call 188;(with_reducible refine(k.o _).mono ?_);rintro e p ⟨rfl,a⟩;replace d:=ki (bt d.o a);replace f:=ki (f.o.kept a);have c1:=lu f.o.rng 1 (by omega);have c3:=lu f.o.rng 3 (by omega);clear a c0 c2)|(go_at_call 73;(with_reducible refine(h.o _).mono ?_);rintro e n ⟨rfl,i⟩;rw[i];clear i n)|(go_at_call 188;(with_reducible refine(o.o _).mono ?_);rintro e q ⟨rfl,l⟩;replace d:=ki (bt d.o l);clear l))
    go_ret;exact⟨by rw[g.o];rfl,d.o⟩
def hid(bs:List (List Int))(n:Nat)(id:Int):Bool:=(List.range n).any fun k=>el (bs.getD k []) 0 == id
theorem Ng{bs:List (List Int)}{n:Nat}{id:Int}(h:∀k,k<n->(el (bs.getD k []) 0 == id)=false):hid bs n id=false:=by unfold hid;rw[List.any_eq_false];intro k a;simpa using h k (List.mem_range.1 a)
theorem Nh{bs:List (List Int)}{n k:Nat}{id:Int}(hk:k<n)(h:(el (bs.getD k []) 0 == id)=true):hid bs n id=true:=by unfold hid;rw[List.any_eq_true];exact⟨k,List.mem_range.2 hk,h⟩
attribute [local go_sem ↓] sF
theorem Ni(g off n cap:Nat)(bs:List (List Int))(id:Int)(w:World)(hn:n<=1000)(hg:g<w.heap.size)(hrow:∀k,k<n->w.rangeAt g (off+k*6) (bG (bs.getD k [])).toList): Calls prog 130 #[.slice (some ⟨g,off,none⟩) n cap,.int .i64 id] w fun e w'=>e=.returned (.bool (hid bs n id))∧Below w.heap.size w w':=by
 have v:=ki (show ∀W,Below w.heap.size w W->∀k,k<n->W.rangeAt g (off+k*6) (bG (bs.getD k [])).toList from fun W hW k hk j u hu=>by rw[hW.cell (p:=⟨g,off+k*6+j,none⟩) hg];exact hrow k hk j u hu);have l:=ki (fun h=>Ng (bs:=bs) (n:=n) (id:=id) h);have o:=ki (fun k hk h=>Nh (bs:=bs) (n:=n) (k:=k) (id:=id) hk h);generalize hid bs n id=u at l o⊢;have q:=ki nO;unfold iy at q;clear hrow hg;go_enter func130,ntmps130;go_wp2;go_loopw [9] (fun t wr=>∃k:Nat,k<=n∧t=.int .i64 k∧Hid (∀j,j<k->(el (bs.getD j []) 0 == id)=false)∧Hid (Below w.heap.size w wr)) (fun t _=>n-(intOf t).toNat)
 case atStart=>exact⟨0,by omega,rfl,fun j h=>absurd h (by omega),Below.refl _ _⟩
 case round =>
  obtain⟨k,hk,rfl,HI,a⟩:=hrel;by_cases hlt:k<n
  ·have x:(k:Int)<(n:Int):=by omega
   have gk:=sG (v.o wr a.o k hlt);have d:=ki (o.o k hlt);obtain⟨b,hb⟩:∃b,bs.getD k []=b:=⟨_,rfl⟩;rw[hb] at gk d;have r:=ki hb;clear hb;go_upto_region 4 with(refine kC rfl (.tmp 6) (.tmp 12) rfl rfl (q.o wr) b rfl ?_;intro y s f;replace a:=ki (bt a.o (bq _ f));have c0:=lC s.rng;clear f s)
   clear gk;cases he:el b 0 == id
   ·have i:=ki he;go_wp2;go_roundw
    case rel=>exact⟨k+1,by omega,by go_num,fun j hj=>if e:j=k then by rw[e,r.o];exact i.o else HI.o j (by omega),a⟩
    case measure=>simp[intOf];omega
   ·have i:=ki (d.o he);go_wp2;go_ret;exact⟨by rw[i.o];rfl,a.o⟩
  ·obtain rfl:n=k:=by omega
   go_wp2;go_ret;exact⟨by rw[l.o HI.o];rfl,a.o⟩
theorem Nj(b:List Int)(w:World):Calls prog 196 #[.agg (bG b)] w fun e w'=>e=.returned (.bool (cand b))∧Below w.heap.size w w':=by
 have d:=ki (au w (.cells (bG b) 77));have f:=ki (EY b w);have a:=ki (show cand b=((el b 4 == 1) && !(el b 5 == 1) && !(el b 3 == 0)) from rfl);generalize cand b=ok at a⊢;go_enter func196,ntmps196;go_upto_region 1 with fail
 generalize w.alloc _=W at d f⊢;have c3:=lu f.o.rng 3 (by omega);have c4:=EW f.o.rng;have c5:=EX f.o.rng;generalize (el b 4 == 1)=up at c4 a;generalize (el b 5 == 1)=dr at c5 a;generalize el b 3=x3 at c3 a;cases hz:x3 == 0;all_goals
  have g:(x3 != 0) = !(x3 == 0):=rfl;rw[hz] at a g;cases up
  ·go_wp2;go_ret;exact⟨by rw[a.o];rfl,d.o⟩
  ·cases dr
   ·go_wp2;go_ret;exact⟨by rw[a.o];rfl,d.o⟩
   ·go_wp2;go_ret;exact⟨by rw[a.o];rfl,d.o⟩
theorem Fe(x:Int)(B off n cap:Nat)(l:List Int)(w:World)(hn:l.length=n)(hm:n<=1000)(hx:0<=x∧x<2147483648)(hl:∀y∈l,0<=y∧y<=65535)(hc:∀j,j<n->w.cell? ⟨B,off+j,none⟩=some (.int .i64 (l.getD j 0))): Calls prog 248 #[.int .i64 x,.slice (some ⟨B,off,none⟩) n cap] w fun e w'=>e=.returned (.int .i64 (eX x l))∧w'=w:=by
 have i:=ki hc;have g:=ki hl;have o:=ki hx;have h:=ki hn;clear hc hl hx hn;go_enter func248,ntmps248;go_wp2;go_loop [0,9] (fun u t=>∃k:Nat,k<=n∧t=.int .i64 k∧u=.int .i64 (eX x (l.take k))) (fun _ t=>n-(intOf t).toNat)
 case atStart=>exact⟨0,by omega,rfl,rfl⟩
 case round =>
  obtain⟨k,p,rfl,rfl⟩:=hrel;by_cases hlt:k<n
  ·have q:(k:Int)<(n:Int):=by omega
   have a:k<l.length:=by rw[h.o];exact hlt
   have c1:=i.o k hlt;have b:=ki (show eX x (l.take (k+1))=mx (eX x (l.take k)) (l.getD k 0) by rw[List.take_add_one,List.getElem?_eq_getElem a,List.getD_eq_getElem?_getD,List.getElem?_eq_getElem a];exact xq _ _ _);have d:=qK o.o (l.take k) (fun y hy=>(g.o y (List.mem_of_mem_take hy)).1);have f:=g.o (l.getD k 0) (by rw[List.getD_eq_getElem?_getD,List.getElem?_eq_getElem a];exact List.getElem_mem _);clear a;generalize eX x (l.take k)=z at b d;generalize l.getD k 0=y at c1 b f;have r:IntKind.i64.wrap (z*69069)=z*69069:=by rw[IntKind.wrap_i64];omega
   have s:IntKind.i64.wrap (z*69069+y)=z*69069+y:=by rw[IntKind.wrap_i64];omega
   have v:IntKind.i64.wrap (z*69069+y+1)=z*69069+y+1:=by rw[IntKind.wrap_i64];omega
   clear d f;go_wp2;go_round
   case rel=>exact⟨k+1,by omega,by go_num,by rw[b.o];rfl⟩
   case measure=>simp[intOf];omega
  ·obtain rfl:k=n:=by omega
   have b:=ki (show eX x l=eX x (l.take k) by rw[List.take_of_length_le (by rw[h.o];exact Nat.le_refl _)]);go_wp2;go_ret;exact⟨by rw[b.o];rfl,rfl⟩
end
section
theorem xw(x y:Int)(B:Nat)(W:World)(hx:0<=x∧x<2147483648)(hy:0<=y∧y<=65535)(h:Ints B [y] W): Calls prog 248 #[.int .i64 x,.slice (some ⟨B,0,none⟩) 1 1] W fun e w'=>e=.returned (.int .i64 (mx x y))∧w'=W :=
 Fe x B 0 1 1 [y] W rfl (by omega) hx (fun z hz=>by rw[List.mem_singleton] at hz;rw[hz];exact hy) (fun j hj=>by rw[Nat.zero_add];exact h.cell j hj)
def l9(x:Int)(z:List Int):Int:=eX x [el z 0,el z 1,el z 2,el z 3,el z 4,el z 5,el z 6,el z 7]
theorem Fg(x:Int)(z:List Int)(B off:Nat)(W:World)(hx:0<=x∧x<2147483648)(hz:s6 z=true)(h:W.rangeAt B off (av z).toList): Calls prog 248 #[.int .i64 x,.slice (some ⟨B,off,none⟩) 8 8] W fun e w'=>e=.returned (.int .i64 (l9 x z))∧w'=W:=by
 have a:=(fE z).1 hz;refine Fe x B off 8 8 [el z 0,el z 1,el z 2,el z 3,el z 4,el z 5,el z 6,el z 7] W rfl (by omega) hx ?_ ?_
 ·intro y b;simp only[List.mem_cons,List.not_mem_nil,or_false] at b;rcases b with rfl|rfl|rfl|rfl|rfl|rfl|rfl|rfl
  ·exact a 0 (by omega)
  ·exact a 1 (by omega)
  ·exact a 2 (by omega)
  ·exact a 3 (by omega)
  ·exact a 4 (by omega)
  ·exact a 5 (by omega)
  ·exact a 6 (by omega)
  ·exact a 7 (by omega)
 ·intro j d;refine h j _ ?_;rcases (by omega:j=0∨j=1∨j=2∨j=3∨j=4∨j=5∨j=6∨j=7) with rfl|rfl|rfl|rfl|rfl|rfl|rfl|rfl<;>rfl
theorem Fh(x id:Int)(w:World)(hx:0<=x∧x<2147483648)(hd:0<=id∧id<=65535): Calls prog 197 #[.int .i64 x,.int .i64 id] w fun e w'=>e=.returned (.int .i64 ((mx x id).tdiv 256))∧Below w.heap.size w w':=by
 have b:=ki (xw x id w.heap.size (w.alloc (.cells #[.int .i64 id] 3)) hx hd (jo w [id]));have f:=ki (au w (.cells #[.int .i64 id] 3));have a:=xk (x:=x) (n:=id) hx.1 hd.1;clear hx hd;generalize mx x id=z at b a⊢;have g:=ki (show z.tdiv 256=z/256 from Int.tdiv_eq_ediv_of_nonneg a.1);go_enter func197,ntmps197;go_wp2_with (go_at_call 248;(with_reducible refine b.o.mono ?_);rintro e h ⟨rfl,d⟩;rw[d];clear d h)
 go_ret;exact⟨by rw[g.o];rfl,f.o⟩
end
end Go.Proofs.YtgcojnlngchllaaGreatDoor
