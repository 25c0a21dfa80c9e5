import Derived.Test.YtgcojnlngchllaaGreatDoorJ15
import Derived.Test.YtgcojnlngchllaaGreatDoorJ09
namespace Go.Proofs.YtgcojnlngchllaaGreatDoor
open Go.RowKit Tryz
set_option linter.unusedVariables false
set_option maxRecDepth 100000
set_option maxHeartbeats 40000000
section
def ay(b:List Int):Array Value:=#[.int .i64 (el b 0),.int .i64 (el b 1),.int .i64 (el b 2),.int .i64 (el b 3),.int .i64 (el b 4),.int .i64 (el b 5),.int .i64 (el b 6),.int .i64 (el b 7),.int .i64 (el b 8),.int .i64 (el b 9),.int .i64 (el b 10),.int .i64 (el b 11),.int .i64 (el b 12),.int .i64 (el b 13),.int .i64 (el b 14),.int .i64 (el b 15),.int .i64 (el b 16),.int .i64 (el b 17),.int .i64 (el b 18),.int .i64 (el b 19),.int .i64 (el b 20),.int .i64 (el b 21),.int .i64 (el b 22)]
theorem pU(b:List Int)(j:Nat)(hj:j<23):(ay b)[j]? = some (.int .i64 (el b j)):=by rcases (by omega:j=0∨j=1∨j=2∨j=3∨j=4∨j=5∨j=6∨j=7∨j=8∨j=9∨j=10∨j=11∨j=12∨j=13∨j=14∨j=15∨j=16∨j=17∨j=18∨j=19∨j=20∨j=21∨j=22) with rfl|rfl|rfl|rfl|rfl|rfl|rfl|rfl|rfl|rfl|rfl|rfl|rfl|rfl|rfl|rfl|rfl|rfl|rfl|rfl|rfl|rfl|rfl<;>rfl
def bL(f:List Int)(near back far now:Int):List Int:=[el f 0,el f 1,el f 2,el f 3,el f 4,el f 5,el f 6,el f 7,el f 8,el f 9,el f 10,el f 11,el f 12,el f 13,el f 14,el f 15,el f 16,el f 17,el f 18,near,back,far,now]
def sU(a b:List Int):Bool:=iV a b && el a 19 == el b 19 && el a 20 == el b 20 && el a 21 == el b 21 && el a 22 == el b 22
theorem Pn(b:List Int)(w:World):(part 89 (ay b) 0).run prog w=.ok (.agg (ak b)) w:=by kernel_rfl
theorem Po(b:List Int)(w:World):(part 3 (ay b) 19).run prog w=.ok (.int .i64 (el b 19)) w:=by kernel_rfl
theorem Pp(b:List Int)(w:World):(part 3 (ay b) 20).run prog w=.ok (.int .i64 (el b 20)) w:=by kernel_rfl
theorem Pq(b:List Int)(w:World):(part 3 (ay b) 21).run prog w=.ok (.int .i64 (el b 21)) w:=by kernel_rfl
theorem Pt(b:List Int)(w:World):(part 3 (ay b) 22).run prog w=.ok (.int .i64 (el b 22)) w:=by kernel_rfl
theorem Pv:(prog.fieldsOf 95).toList.map (fun f=>(f.name == "_",f.type,f.offset))=[(false,89,0),(false,3,19),(false,3,20),(false,3,21),(false,3,22)]:=by kernel_rfl
theorem Pw(n:Nat)(a b:List Int)(w:World):(Op.equalIn (n+4) 95 (.agg (ay a)) (.agg (ay b))).run prog w=.ok (sU a b) w:=by
 rw[show n+4=(n+3)+1 from rfl,run_equalIn_struct w (n+3) _ _ _ (by kernel_rfl) (by kernel_rfl),Fx,Pv];unfold sU;have d:∀x y,(Op.equalIn (n+3) 3 (.int .i64 x) (.int .i64 y)).run prog w=.ok (x == y) w:=fun x y=>Fw (n+2) x y w
 simp only[sK,Sem.run_bind,Pn,Po,Pp,Pq,Pt,Fy,d,Result.andThen_ok,Bool.false_eq_true,if_false,Sem.run_ite,Sem.run_pure];cases iV a b<;>cases el a 19 == el b 19<;>cases el a 20 == el b 20<;>cases el a 21 == el b 21<;>cases el a 22 == el b 22<;>rfl
theorem Px(a b:List Int)(w:World):(Op.equalIn 10000 95 (.agg (ay a)) (.agg (ay b))).run prog w=.ok (sU a b) w:=Pw 9996 a b w
def beq(x y:Value):Sem Bool:=Op.equalIn 10000 95 x y
theorem Py(x y:Value):Op.equalIn 10000 95 x y=beq x y:=rfl
theorem Pz(a b:List Int)(w:World):(beq (.agg (ay a)) (.agg (ay b))).run prog w=.ok (sU a b) w:=Px a b w
theorem PD(a:List Int):sU a a=true:=by unfold sU;rw[(mh a a).2 rfl];simp
end
section
variable {b:List Int}{B cap g n:Nat}{w:World}
theorem pV{base:Nat}{e:TypeId}{size:Nat}{v:Value}{xs:List Value}(h:w.ownsRow base e size v n xs)(g:Nat)(hg:v.ownBlock=some g):∃cur,w.heap[g]? = some (.cells cur e (0,0)):=by
 rcases h.2 with⟨rfl,_⟩|⟨g',cap,cur,rfl,hb',hgc,_⟩
 ·simp[Value.ownBlock] at hg
 ·have:g'=g:=by simpa [Value.ownBlock] using hg
  subst this;exact⟨cur,hgc⟩
def bv(bs:List (List Int)):List Value:=bs.flatMap fun b=>(ay b).toList
def bQ(base:Nat)(w:World)(v:Value)(bs:List (List Int)):Prop:=w.ownsRow base 95 23 v bs.length (bv bs)
theorem bQ.nil(base:Nat)(w:World):bQ base w (.slice none 0 0) []:=World.ownsRow_nil _ _ _ _
theorem uT(bs:List (List Int)):(bv bs).length=bs.length*23:=by
 induction bs with
 | nil=>rfl
 | cons z r ih=>unfold bv at ih⊢;rw[List.flatMap_cons,List.length_append,ih,List.length_cons,show(ay z).toList.length=23 from rfl];omega
theorem PE(a b:List (List Int)):bv (a++b)=bv a++bv b:=List.flatMap_append
theorem uU(bs:List (List Int))(k j:Nat)(h:k<bs.length)(hj:j<23):(bv bs)[k*23+j]? = some (.int .i64 (el (bs.getD k []) j)):=by
 induction bs generalizing k with
 | nil=>exact absurd h (by simp)
 | cons z r ih =>
  unfold bv at ih⊢;rw[List.flatMap_cons];have hl:(ay z).toList.length=23:=rfl;cases k with
  | zero =>rw[List.getElem?_append_left (by omega),Nat.zero_mul,Nat.zero_add];have:=pU z j hj;simpa using this
  | succ k =>rw[List.getElem?_append_right (by omega),hl,show(k+1)*23+j-23=k*23+j by omega,ih k (by simpa using h)];rfl
theorem bQ.shape{base:Nat}{v:Value}{bs:List (List Int)}(h:bQ base w v bs):∃ao cap,v=.slice ao bs.length cap∧bs.length<=cap∧cap<=maxLen∧(0<bs.length->∃g,ao=some ⟨g,0,none⟩):=by
 rcases h.2 with⟨rfl,hn⟩|⟨g,cap,cur,rfl,_,_,h1,h2,_⟩
 ·exact⟨none,0,by rw[hn],by omega,by unfold maxLen;omega,fun h=>by omega⟩
 ·exact⟨_,cap,rfl,h1,h2,fun _=>⟨g,rfl⟩⟩
theorem bQ.cell{base:Nat}{bs:List (List Int)}(h:bQ base w (.slice (some ⟨g,0,none⟩) n cap) bs)(k j:Nat)(hk:k<bs.length)(hj:j<23):w.cell? ⟨g,k*23+j,none⟩=some (.int .i64 (el (bs.getD k []) j)):=by
 have a:w.ownsRow base 95 23 (.slice (some ⟨g,0,none⟩) n cap) bs.length (bv bs):=h;rcases h.2 with⟨e,hn⟩|⟨g',cap',cur,e,_⟩
 ·omega
 ·injection e with e1 e2 e3
  injection e1 with e1
  injection e1 with e1
  subst e1 e2 e3;rw[World.ownsRow.cellAt a (k*23+j) (by omega)];exact uU bs k j hk hj
theorem bQ.frozen{base:Nat}{bs:List (List Int)}(h:bQ base w (.slice (some ⟨g,0,none⟩) n cap) bs)(i:Nat):w.frozen? ⟨g,i,none⟩=false:=by obtain⟨b,a⟩:=pV h g rfl;simp[World.frozen?,a]
theorem bQ.row{base:Nat}{bs:List (List Int)}(h:bQ base w (.slice (some ⟨g,0,none⟩) n cap) bs)(k:Nat)(hk:k<bs.length):w.rangeAt g (k*23) (ay (bs.getD k [])).toList:=by intro j v hv;have a:j<23:=(List.getElem?_eq_some_iff.1 hv).1;rw[h.cell k j hk a,<-pU (bs.getD k []) j a];simpa using hv
theorem bQ.flow{base:Nat}{bs:List (List Int)}(h:bQ base w (.slice (some ⟨g,0,none⟩) n cap) bs)(k:Nat)(hk:k<bs.length):w.rangeAt g (k*23) (ak (bs.getD k [])).toList:=by intro j v hv;have a:j<19:=(List.getElem?_eq_some_iff.1 hv).1;rw[h.cell k j hk (by omega),<-uJ (bs.getD k []) j a];simpa using hv
def aJ(B:Nat)(b:List Int)(w:World):Prop:=w.heap[B]? = some (.cells (ay b) 95 (0,0))
theorem aJ.lt(p:aJ B b w):B<w.heap.size:=(Array.getElem?_eq_some_iff.1 p).1
theorem aJ.kept{w':World}(p:aJ B b w)(hb:Below w.heap.size w w'):aJ B b w':=(hb.block B p.lt).trans p
theorem nA(b:List Int)(w:World):aJ w.heap.size b (w.alloc (.cells (ay b) 95)):=heap_alloc_new w _
def aV:Array Value:=#[.int .i64 0,.int .i64 0,.int .i64 0,.int .i64 0,.int .i64 0,.int .i64 0,.int .i64 0,.int .i64 0,.int .i64 0,.int .i64 0,.int .i64 0,.int .i64 0,.int .i64 0,.int .i64 0,.int .i64 0,.int .i64 0,.int .i64 0,.int .i64 0,.int .i64 0,.int .i64 0,.int .i64 0,.int .i64 0,.int .i64 0]
theorem fu(w:World):aJ w.heap.size [] (w.alloc (.cells aV 95)):=heap_alloc_new w _
theorem aJ.cell(p:aJ B b w)(j:Nat)(hj:j<23):w.cell? ⟨B,j,none⟩=some (.int .i64 (el b j)):=(cell_of_row w B j _ _ _ p).trans (pU b j hj)
def iN(x:Value):Sem Value:=Instr.loadAt 95 x
theorem gV(x:Value):Instr.loadAt 95 x=iN x:=rfl
theorem aJ.bl(p:aJ B b w):(iN (.pointer (some ⟨B,0,none⟩))).run prog w=.ok (.agg (ay b)) w :=
 run_loadAt_mid w B 0 95 (ay b).toList _ (fun j v hv=>by rw[Nat.zero_add,cell_of_row w B j _ _ _ p];simpa using hv) underlying95 rfl (by kernel_rfl)
theorem bQ.bl{base:Nat}{bs:List (List Int)}(h:bQ base w (.slice (some ⟨g,0,none⟩) n cap) bs)(k:Nat)(hk:k<bs.length):(iN (.pointer (some ⟨g,k*23,none⟩))).run prog w=.ok (.agg (ay (bs.getD k []))) w:=run_loadAt_mid w g (k*23) 95 _ _ (h.row k hk) underlying95 rfl (by kernel_rfl)
theorem bQ.fl{base:Nat}{bs:List (List Int)}(h:bQ base w (.slice (some ⟨g,0,none⟩) n cap) bs)(k:Nat)(hk:k<bs.length):(bO (.pointer (some ⟨g,k*23,none⟩))).run prog w=.ok (.agg (ak (bs.getD k []))) w:=run_loadAt_mid w g (k*23) 89 _ _ (h.flow k hk) underlying89 rfl (by kernel_rfl)
theorem aJ.stored{b0:List Int}(p:aJ B b0 w)(b:List Int):aJ B b (w.setRow B (ay b)):=setRow_heap w B _ _ _ (0,0) p
theorem fF{ops:Array Oper}{rest:List Oper}{o:Oper}{f:Act}{Q:Exit->Act->World->Prop}(hgd:o.guard=none)(x y:Operand)(ho:o.op=.store 95 x y){B:Nat}{b0:List Int}(hx:f.eval x=.pointer (some ⟨B,0,none⟩))(p:aJ B b0 w)(b:List Int)(hy:f.eval y=.agg (ay b))(hK:∀w',aJ B b w'->Only B w w'->wpList prog ops Q rest (f.put o.dst undef) w'):wpList prog ops Q (o::rest) f w :=
 wpList_store_row hgd 95 x y ho B _ hx hy 95 _ p (by kernel_rfl) rfl (by unfold ay;simp[Value.oneCell']) (hK _ (p.stored b) (dS _ _ _))
theorem iW{fn:Func}{p u:Tmp}(h:fn.results=#[.cell p 95,.tmp u])(tmps:Array Value)(w:World)(B:Nat)(b:List Int)(ht:tmps.getD p undef=.pointer (some ⟨B,0,none⟩))(hg:aJ B b w): (results fn tmps).run prog w=.ok (.tuple #[.agg (ay b),tmps.getD u undef]) w:=by rw[results_cell_tmp h,ht];have hl:=run_loadVar_row (P:=prog) w B 95 95 _ (0,0) _ hg underlying95 rfl (by kernel_rfl);simp[asAddr,hl]
def F8(ps:Array (Nat×Value)):Sem Value:=Instr.buildSlice 48 1 ps
theorem Bb(ps:Array (Nat×Value)):Instr.buildSlice 48 1 ps=F8 ps:=rfl
theorem xR(b:List Int)(w:World):(F8 #[(0,.agg (ay b))]).run prog w=.ok (.slice (some ⟨w.heap.size,0,none⟩) 1 1) (w.alloc (.cells (ay b) 95)):=by kernel_rfl
def Bc(ps:Array (Nat×Value)):Sem Value:=Instr.build 95 ps
theorem F9(ps:Array (Nat×Value)):Instr.build 95 ps=Bc ps:=rfl
theorem Ga(f:List Int)(near back far now:Int)(w:World):(Bc #[(0,.agg (ak f)),(1,.int .i64 near),(2,.int .i64 back),(3,.int .i64 far),(4,.int .i64 now)]).run prog w=.ok (.agg (ay (bL f near back far now))) w:=by kernel_rfl
theorem PG:(prog.info? 95).map (fun i=>(i.zero,i.size,i.bytes))=some (some (.agg aV),23,184):=by kernel_rfl
theorem nC{ops:Array Oper}{rest:List Oper}{o:Oper}{a:Act}{Q:Exit->Act->World->Prop}(hgd:o.guard=none)(s x:Operand)(ho:o.op=.call { callee:=.builtin .append,args:=#[s,x],argTypes:=#[48,48] })(base:Nat)(v:Value)(l:List (List Int))(hs:a.eval s=v)(hown:bQ base w v l)(ad:Addr)(m c:Nat)(l2:List (List Int))(hx:a.eval x=.slice (some ad) m c)(hl:l2.length=m)(hc:∀j,j<m->∀i,i<23->w.cell? (ad.add (j*23+i))=some (.int .i64 (el (l2.getD j []) i)))(hlen:l.length+m<=1000000)(hbase:base<=w.heap.size)(h:∀v' w',bQ base w' v' (l++l2)->w.grownBy w' v.ownBlock->(v'.ownBlock=v.ownBlock∨v'.ownBlock=some w.heap.size)->wpList prog ops Q rest (a.put o.dst v') w'):wpList prog ops Q (o::rest) a w:=by
 obtain⟨p,q,f,g,k⟩:=info_parts PG;have e:w.ownsRow base 95 23 v l.length (bv l):=hown;refine wpList_append_own_at _ hgd s x 48 ho base 95 p _ 23 184 underlying48 q f g k rfl (by decide) v l.length (bv l) hs e ad m c (bv l2) hx (by rw[uT,hl]) ?_ ?_ (by unfold maxLen;omega) (by omega) hbase ?_
 ·intro j u b;have y:j<l2.length*23:=by have:=(List.getElem?_eq_some_iff.1 b).1;rwa [uT] at this
  have h8:=uU l2 (j/23) (j%23) (by omega) (by omega);rw[show j/23*23+j%23=j by omega,b] at h8;have n:=hc (j/23) (by omega) (j%23) (by omega);rw[show j/23*23+j%23=j by omega] at n;rw[n,h8]
 ·intro u b;unfold bv at b;obtain⟨z,_,d⟩:=List.mem_flatMap.1 b;unfold ay at d;simp at d;rcases d with rfl|rfl|rfl|rfl|rfl|rfl|rfl|rfl|rfl|rfl|rfl|rfl|rfl|rfl|rfl|rfl|rfl|rfl|rfl|rfl|rfl|rfl|rfl<;>rfl
 ·intro v' w' r d _ t;refine h v' w' ?_ d t;unfold bQ;rw[PE,List.length_append,hl];exact r
theorem nD(b:List Int)(w:World):∀j,j<1->∀i,i<23->(w.alloc (.cells (ay b) 95)).cell? ((⟨w.heap.size,0,none⟩:Addr).add (j*23+i))=some (.int .i64 (el ([b].getD j []) i)):=by
 intro j d i a;obtain rfl:j=0:=by omega
 rw[jQ,Nat.zero_mul,Nat.zero_add,Nat.zero_add];exact(nA b w).cell i a
end
section
variable {B BT BW P n:Nat}{v:Value}{w:World}
def RT(B P BW BT n:Nat)(ws:Nat->List Int)(ts:Nat->Bool)(v:Value)(bs:List (List Int))(w:World):Prop :=
 w.heap[B]? = some (.cells #[.pointer (some ⟨P,0,none⟩),v] 50 (0,0))∧dI P BW BT n ws ts w∧bQ 0 w v bs
theorem RT.lt{ws:Nat->List Int}{ts:Nat->Bool}{bs:List (List Int)}(h:RT B P BW BT n ws ts v bs w):B<w.heap.size:=(Array.getElem?_eq_some_iff.1 h.1).1
theorem RT.kept{ws:Nat->List Int}{ts:Nat->Bool}{bs:List (List Int)}{w':World}(h:RT B P BW BT n ws ts v bs w)(hb:Below w.heap.size w w'):RT B P BW BT n ws ts v bs w' :=
 ⟨(hb.block B h.lt).trans h.1,h.2.1.kept hb,ig h.2.2 (fun g e=>hb.block g (cO h.2.2 g e).1)⟩
theorem RT.lI{ws:Nat->List Int}{ts:Nat->Bool}{bs:List (List Int)}(h:RT B P BW BT n ws ts v bs w):w.cell? ⟨B,0,none⟩=some (.pointer (some ⟨P,0,none⟩)):=cell_of_row w B 0 _ _ _ h.1
theorem RT.all{ws:Nat->List Int}{ts:Nat->Bool}{bs:List (List Int)}(h:RT B P BW BT n ws ts v bs w):w.cell? ⟨B,1,none⟩=some v:=cell_of_row w B 1 _ _ _ h.1
theorem RT.ne{ws:Nat->List Int}{ts:Nat->Bool}{bs:List (List Int)}(h:RT B P BW BT n ws ts v bs w):B≠P∧B≠BW∧B≠BT∧v.ownBlock≠some B∧v.ownBlock≠some P∧v.ownBlock≠some BW∧v.ownBlock≠some BT:=by
 obtain⟨a,⟨d,⟨c3,f,_⟩,⟨c4,h4,_⟩⟩,b⟩:=h;refine⟨?_,?_,?_,?_,?_,?_,?_⟩
 ·rintro rfl;rw[a] at d;cases d
 ·rintro rfl;rw[a] at f;cases f
 ·rintro rfl;rw[a] at h4;cases h4
 ·intro e;obtain⟨c,hc⟩:=pV b _ e;rw[a] at hc;cases hc
 ·intro e;obtain⟨c,hc⟩:=pV b _ e;rw[d] at hc;cases hc
 ·intro e;obtain⟨c,hc⟩:=pV b _ e;rw[f] at hc;cases hc
 ·intro e;obtain⟨c,hc⟩:=pV b _ e;rw[h4] at hc;cases hc
def tc(n:Int):Bool:=decide (0<=n) && decide (n<=1099511627776)
theorem oq(n:Int)(w:World):Calls prog 22 #[.int .i64 n] w fun e w'=>e=.returned (.bool (wd n))∧w'=w:=by
 cases h:wd n
 ·exact uR n w (fun h'=>by rw[(jH n).2 h'] at h;cases h)
 ·exact uQ n w ((jH n).1 h)
theorem qO(z:List Int)(w:World):Calls prog 21 #[.agg (av z)] w fun e w'=>e=.returned (.int .i64 (fe (s6 z)))∧Below w.heap.size w w':=by
 cases h:s6 z
 ·exact A8 z w (fun h'=>by rw[(fE z).2 h'] at h;cases h)
 ·exact qM z w ((fE z).1 h)
theorem xS(n:Int)(w:World):Calls prog 24 #[.int .i64 n] w fun e w'=>e=.returned (.bool (fr n))∧w'=w:=by
 unfold fr;by_cases h:0<=n
 ·have hd:decide (0<=n)=true:=decide_eq_true h;rw[hd];go_enter func24,ntmps24;go_wp2;go_ret;exact⟨by simp,rfl⟩
 ·have hd:decide (0<=n)=false:=decide_eq_false h;rw[hd];go_enter func24,ntmps24;go_wp2;go_ret;exact⟨rfl,rfl⟩
theorem Gb(n:Int)(w:World):Calls prog 84 #[.int .i64 n] w fun e w'=>e=.returned (.bool (tc n))∧w'=w:=by
 unfold tc;by_cases h:0<=n
 ·have hd:decide (0<=n)=true:=decide_eq_true h;rw[hd];go_enter func84,ntmps84;go_wp2;go_ret;exact⟨by simp,rfl⟩
 ·have hd:decide (0<=n)=false:=decide_eq_false h;rw[hd];go_enter func84,ntmps84;go_wp2;go_ret;exact⟨rfl,rfl⟩
attribute [local go_sem ↓] gy
theorem xU(f:List Int)(w:World):Calls prog 83 #[.agg (ak f)] w fun e w'=>e=.returned (.int .i64 (fe (aW f)))∧Below w.heap.size w w':=by
 have b:=ki (au w (.cells (ak f) 89));have g:=ki (iC f w);have s:=ki (fun W=>oq (el f 9) W);have p:=ki (fun W=>oq (el f 18) W);have h:=ki (fun W=>qO (cli f) W);have i:=ki (fun W=>qO (dst f) W);unfold aW;generalize wd (el f 9)=Gc at s⊢;generalize wd (el f 18)=Gd at p⊢;generalize s6 (cli f)=sc at h⊢;generalize s6 (dst f)=sd at i⊢;obtain⟨k,hk⟩:∃x,el f 0=x:=⟨_,rfl⟩;rw[hk];have q:=ki hk;clear hk;go_enter func83,ntmps83;go_upto_region 1 with fail
 generalize w.alloc _=W at b g⊢;have c0:=g.o.cell 0 (by omega);have y:=g.o.cell 9 (by omega);have c18:=g.o.cell 18 (by omega);have B:=g.o.hc;generalize el f 9=jK at y s;generalize el f 18=x18 at c18 p;rw[q.o] at c0;clear q;go_upto_region 3 with(first|(go_at_call 22;(with_reducible refine(s.o _).mono ?_);rintro e z ⟨rfl,rfl⟩)|(go_at_call 22;refine(p.o _).mono ?_;rintro e z ⟨rfl,rfl⟩))
 by_cases k6:k=6
 ·subst k6;cases sc
  ·rw[show fe false=1 from rfl] at h;go_wp2_with (first
   | (go_at_call 21;(with_reducible refine(h.o _).mono ?_);rintro e l ⟨rfl,a⟩;replace b:=ki (bt b.o a);replace g:=ki (g.o.kept a);have n:=g.o.hd;clear a)
   | (go_at_call 21;(with_reducible refine(i.o _).mono ?_);rintro e o ⟨rfl,d⟩;replace b:=ki (bt b.o d);clear d))
   go_ret;exact⟨rfl,b.o⟩
  ·rw[show fe true=0 from rfl] at h;cases sd
   ·rw[show fe false=1 from rfl] at i;go_wp2_with (first
   | (go_at_call 21;(with_reducible refine(h.o _).mono ?_);rintro e l ⟨rfl,a⟩;replace b:=ki (bt b.o a);replace g:=ki (g.o.kept a);have n:=g.o.hd;clear a)
   | (go_at_call 21;(with_reducible refine(i.o _).mono ?_);rintro e o ⟨rfl,d⟩;replace b:=ki (bt b.o d);clear d))
    go_ret;exact⟨rfl,b.o⟩
   ·rw[show fe true=0 from rfl] at i;cases Gc
    ·go_wp2_with (first
   | (go_at_call 21;(with_reducible refine(h.o _).mono ?_);rintro e l ⟨rfl,a⟩;replace b:=ki (bt b.o a);replace g:=ki (g.o.kept a);have n:=g.o.hd;clear a)
   | (go_at_call 21;(with_reducible refine(i.o _).mono ?_);rintro e o ⟨rfl,d⟩;replace b:=ki (bt b.o d);clear d))
     go_ret;exact⟨rfl,b.o⟩
    ·cases Gd
     ·go_wp2_with (first
   | (go_at_call 21;(with_reducible refine(h.o _).mono ?_);rintro e l ⟨rfl,a⟩;replace b:=ki (bt b.o a);replace g:=ki (g.o.kept a);have n:=g.o.hd;clear a)
   | (go_at_call 21;(with_reducible refine(i.o _).mono ?_);rintro e o ⟨rfl,d⟩;replace b:=ki (bt b.o d);clear d))
      go_ret;exact⟨rfl,b.o⟩
     ·go_wp2_with (first
   | (go_at_call 21;(with_reducible refine(h.o _).mono ?_);rintro e l ⟨rfl,a⟩;replace b:=ki (bt b.o a);replace g:=ki (g.o.kept a);have n:=g.o.hd;clear a)
   | (go_at_call 21;(with_reducible refine(i.o _).mono ?_);rintro e o ⟨rfl,d⟩;replace b:=ki (bt b.o d);clear d))
      go_ret;exact⟨rfl,b.o⟩
 ·by_cases k17:k=17
  ·subst k17;cases sc
   ·rw[show fe false=1 from rfl] at h;go_wp2_with (first
   | (go_at_call 21;(with_reducible refine(h.o _).mono ?_);rintro e l ⟨rfl,a⟩;replace b:=ki (bt b.o a);replace g:=ki (g.o.kept a);have n:=g.o.hd;clear a)
   | (go_at_call 21;(with_reducible refine(i.o _).mono ?_);rintro e o ⟨rfl,d⟩;replace b:=ki (bt b.o d);clear d))
    go_ret;exact⟨rfl,b.o⟩
   ·rw[show fe true=0 from rfl] at h;cases sd
    ·rw[show fe false=1 from rfl] at i;go_wp2_with (first
   | (go_at_call 21;(with_reducible refine(h.o _).mono ?_);rintro e l ⟨rfl,a⟩;replace b:=ki (bt b.o a);replace g:=ki (g.o.kept a);have n:=g.o.hd;clear a)
   | (go_at_call 21;(with_reducible refine(i.o _).mono ?_);rintro e o ⟨rfl,d⟩;replace b:=ki (bt b.o d);clear d))
     go_ret;exact⟨rfl,b.o⟩
    ·rw[show fe true=0 from rfl] at i;cases Gc
     ·go_wp2_with (first
   | (go_at_call 21;(with_reducible refine(h.o _).mono ?_);rintro e l ⟨rfl,a⟩;replace b:=ki (bt b.o a);replace g:=ki (g.o.kept a);have n:=g.o.hd;clear a)
   | (go_at_call 21;(with_reducible refine(i.o _).mono ?_);rintro e o ⟨rfl,d⟩;replace b:=ki (bt b.o d);clear d))
      go_ret;exact⟨rfl,b.o⟩
     ·cases Gd
      ·go_wp2_with (first
   | (go_at_call 21;(with_reducible refine(h.o _).mono ?_);rintro e l ⟨rfl,a⟩;replace b:=ki (bt b.o a);replace g:=ki (g.o.kept a);have n:=g.o.hd;clear a)
   | (go_at_call 21;(with_reducible refine(i.o _).mono ?_);rintro e o ⟨rfl,d⟩;replace b:=ki (bt b.o d);clear d))
       go_ret;exact⟨rfl,b.o⟩
      ·go_wp2_with (first
   | (go_at_call 21;(with_reducible refine(h.o _).mono ?_);rintro e l ⟨rfl,a⟩;replace b:=ki (bt b.o a);replace g:=ki (g.o.kept a);have n:=g.o.hd;clear a)
   | (go_at_call 21;(with_reducible refine(i.o _).mono ?_);rintro e o ⟨rfl,d⟩;replace b:=ki (bt b.o d);clear d))
       go_ret;exact⟨rfl,b.o⟩
  ·have C:(k != 6)=true:=by simpa using k6
   have A:(k != 17)=true:=by simpa using k17
   have t:(k == 6)=false:=by simpa using k6
   have r:(k == 17)=false:=by simpa using k17
   have v:=ki (And.intro t r);clear k6 k17 t r;go_wp2;go_ret;refine⟨?_,b.o⟩;rw[v.o.1,v.o.2];rfl
def bY(bs:List (List Int))(f:List Int):Option Nat:=(List.range bs.length).find? fun i=>iV (bs.getD i []) f
def prt(bs:List (List Int))(p:Int):Option Nat:=(List.range bs.length).find? fun i=>el (bs.getD i []) 19 == p
def ix(o:Option Nat):Int:=match o with|some i=>i|none=>-1
attribute [local go_sem ↓] gP NA
theorem Bd(B P BW BT n:Nat)(ws:Nat->List Int)(ts:Nat->Bool)(v:Value)(bs:List (List Int))(f:List Int)(w:World)(h:RT B P BW BT n ws ts v bs w)(hl:bs.length<=1000): Calls prog 34 #[.pointer (some ⟨B,0,none⟩),.agg (ak f)] w fun e w'=>e=.returned (.int .i64 (ix (bY bs f)))∧Below w.heap.size w w':=by
 obtain⟨y,d,rfl,-,-,z⟩:=h.2.2.shape;have b:=ki (au w (.cells (ak f) 89));have a:=ki (show RT B P BW BT n ws ts (.slice y bs.length d) bs (w.alloc (.cells (ak f) 89))∧bn w.heap.size f (w.alloc (.cells (ak f) 89)) from⟨h.kept b.o,iC f w⟩);have D:=ki (show bs.length=bs.length from rfl);have A:=ki z;clear h z;have C:(bs.length:Int)<=1000:=by omega
 go_enter func34,ntmps34;go_upto_region 1 with fail
 generalize w.alloc _=W at b a⊢;go_wp2;go_loopw [5] (fun t wr=>∃k:Nat,k<=bs.length∧t=.int .i64 k∧Hid (∀j,j<k->iV (bs.getD j []) f=false)∧Hid (Below w.heap.size w wr)∧Hid (RT B P BW BT n ws ts (.slice y bs.length d) bs wr∧bn w.heap.size f wr)) (fun t _=>bs.length-(intOf t).toNat)
 case atStart=>exact⟨0,by omega,rfl,fun j h=>absurd h (by omega),b,a⟩
 case round =>
  clear b a;obtain⟨k,E,rfl,HI,b,a⟩:=hrel;have o:=a.o.1.all;by_cases hlt:k<bs.length
  ·obtain⟨g,rfl⟩:=A.o (by omega);have F:(k:Int)<(bs.length:Int):=by omega
   obtain⟨bk,hbk⟩:∃x,bs.getD k []=x:=⟨_,rfl⟩;have l:=ki hbk;clear hbk;have q:=NC bk f;cases hq:iV bk f
   ·rw[hq] at q;have p:=ki (show iV (bs.getD k []) f=false by rw[l.o];exact hq);clear hq;go_upto_region 4 with fail
    clear o;replace b:=ki (bt b.o (show Below wr.heap.size wr wr.drew from(Below.refl _ _).drew));replace a:=ki (show RT B P BW BT n ws ts (.slice (some ⟨g,0,none⟩) bs.length d) bs wr.drew∧bn w.heap.size f wr.drew from⟨a.o.1.kept (Below.refl _ _).drew,a.o.2.kept (Below.refl _ _).drew⟩);have i:=ki (show wr.drew.cell? ⟨B,1,none⟩=some (.slice (some ⟨g,0,none⟩) bs.length d)∧(bO (.pointer (some ⟨g,k*23,none⟩))).run prog wr.drew=.ok (.agg (ak bk)) wr.drew∧(bO (.pointer (some ⟨w.heap.size,0,none⟩))).run prog wr.drew=.ok (.agg (ak f)) wr.drew from⟨a.o.1.all,by have:=a.o.1.2.2.fl k hlt;rw[l.o] at this;exact this,a.o.2.fl⟩);obtain⟨o,r,s⟩:=i.o;go_region_held3 (fun w'=>w'.cell? ⟨B,1,none⟩=some (.slice (some ⟨g,0,none⟩) bs.length d)∧(bO (.pointer (some ⟨g,k*23,none⟩))).run prog w'=.ok (.agg (ak bk)) w'∧(bO (.pointer (some ⟨w.heap.size,0,none⟩))).run prog w'=.ok (.agg (ak f)) w')
     (first
      | go_keep
      | exact i.o)
     (fail)
    clear o r s i;generalize wr.drew=w2 at b a⊢;go_wp2_with fail
    go_roundw
    case rel=>exact⟨k+1,by omega,by go_num,fun j hj=>if e:j=k then by rw[e];exact p.o else HI.o j (by omega),b,a⟩
    case measure=>simp[intOf];omega
   ·rw[hq] at q;have p:=ki (show iV (bs.getD k []) f=true by rw[l.o];exact hq);clear hq;go_upto_region 4 with fail
    clear o;replace b:=ki (bt b.o (show Below wr.heap.size wr wr.drew from(Below.refl _ _).drew));replace a:=ki (show RT B P BW BT n ws ts (.slice (some ⟨g,0,none⟩) bs.length d) bs wr.drew∧bn w.heap.size f wr.drew from⟨a.o.1.kept (Below.refl _ _).drew,a.o.2.kept (Below.refl _ _).drew⟩);have i:=ki (show wr.drew.cell? ⟨B,1,none⟩=some (.slice (some ⟨g,0,none⟩) bs.length d)∧(bO (.pointer (some ⟨g,k*23,none⟩))).run prog wr.drew=.ok (.agg (ak bk)) wr.drew∧(bO (.pointer (some ⟨w.heap.size,0,none⟩))).run prog wr.drew=.ok (.agg (ak f)) wr.drew from⟨a.o.1.all,by have:=a.o.1.2.2.fl k hlt;rw[l.o] at this;exact this,a.o.2.fl⟩);obtain⟨o,r,s⟩:=i.o;go_region_held3 (fun w'=>w'.cell? ⟨B,1,none⟩=some (.slice (some ⟨g,0,none⟩) bs.length d)∧(bO (.pointer (some ⟨g,k*23,none⟩))).run prog w'=.ok (.agg (ak bk)) w'∧(bO (.pointer (some ⟨w.heap.size,0,none⟩))).run prog w'=.ok (.agg (ak f)) w')
     (first
      | go_keep
      | exact i.o)
     (fail)
    clear o r s i;generalize wr.drew=w2 at b a⊢;go_wp2_with fail
    go_ret;refine⟨?_,b.o⟩;unfold bY;rw[og hlt p.o HI.o];rfl
  ·obtain rfl:bs.length=k:=by omega
   go_wp2;go_ret;refine⟨?_,b.o⟩;unfold bY;rw[nZ HI.o];rfl
theorem PI(B P BW BT n:Nat)(ws:Nat->List Int)(ts:Nat->Bool)(v:Value)(bs:List (List Int))(p:Int)(w:World)(h:RT B P BW BT n ws ts v bs w)(hl:bs.length<=1000): Calls prog 44 #[.pointer (some ⟨B,0,none⟩),.int .i64 p] w fun e w'=>e=.returned (.int .i64 (ix (prt bs p)))∧w'=w:=by
 obtain⟨q,l,rfl,-,-,b⟩:=h.2.2.shape;have f:=ki h;have i:=ki b;have r:=h.all;clear h b;have o:(bs.length:Int)<=1000:=by omega
 go_enter func44,ntmps44;go_wp2;go_loop [5] (fun t=>∃k:Nat,k<=bs.length∧t=.int .i64 k∧Hid (∀j,j<k->(el (bs.getD j []) 19 == p)=false)) (fun t=>bs.length-(intOf t).toNat)
 case atStart=>exact⟨0,by omega,rfl,fun j h=>absurd h (by omega)⟩
 case round =>
  obtain⟨k,s,rfl,HI⟩:=hrel;by_cases hlt:k<bs.length
  ·obtain⟨g,rfl⟩:=i.o (by omega);have y:(k:Int)<(bs.length:Int):=by omega
   have c1:=f.o.2.2.cell k 19 hlt (by omega);obtain⟨x,hx⟩:∃x,el (bs.getD k []) 19=x:=⟨_,rfl⟩;rw[hx] at c1;have d:=ki hx;clear hx;cases hq:x == p
   ·have a:=ki (show(el (bs.getD k []) 19 == p)=false by rw[d.o];exact hq);go_wp2;go_round
    case rel=>exact⟨k+1,by omega,by go_num,fun j hj=>if e:j=k then by rw[e];exact a.o else HI.o j (by omega)⟩
    case measure=>simp[intOf];omega
   ·have a:=ki (show(el (bs.getD k []) 19 == p)=true by rw[d.o];exact hq);go_wp2;go_ret;refine⟨?_,rfl⟩;unfold prt;rw[og hlt a.o HI.o];rfl
  ·obtain rfl:bs.length=k:=by omega
   go_wp2;go_ret;refine⟨?_,rfl⟩;unfold prt;rw[nZ HI.o];rfl
end
section
variable {B BT BW P n:Nat}{v:Value}{W W' w:World}
def lJ(w:World)(B P BW BT n:Nat)(ws:Nat->List Int)(ts:Nat->Bool)(v:Value)(bs:List (List Int))(f:List Int)(W:World):Prop :=
 RT B P BW BT n ws ts v bs W∧bn w.heap.size f W∧aJ (w.heap.size+1) [] W∧Fr (fun g=>g=B∨g=BW∨g=BT) w W∧B<w.heap.size∧BW<w.heap.size∧BT<w.heap.size∧v.ownBlock≠some (w.heap.size+1)
theorem lJ.kept{ws:Nat->List Int}{ts:Nat->Bool}{bs:List (List Int)}{f:List Int}(h:lJ w B P BW BT n ws ts v bs f W)(hb:Below W.heap.size W W'):lJ w B P BW BT n ws ts v bs f W' :=
 ⟨h.1.kept hb,h.2.1.kept hb,h.2.2.1.kept hb,h.2.2.2.1.trans (Fr.of hb),h.2.2.2.2⟩
theorem Gf{ws:Nat->List Int}{ts:Nat->Bool}{bs:List (List Int)}(f:List Int)(h:RT B P BW BT n ws ts v bs w):lJ w B P BW BT n ws ts v bs f ((w.alloc (.cells (ak f) 89)).alloc (.cells aV 95)):=by have b:=au w (.cells (ak f) 89);have a:=au (w.alloc (.cells (ak f) 89)) (.cells aV 95);have d:=fu (w.alloc (.cells (ak f) 89));rw[World.size_alloc] at d;exact⟨(h.kept b).kept a,(iC f w).kept a,d,Fr.of (bt b a),h.lt,h.2.1.2.1.lt,h.2.1.2.2.lt,fun e=>by have:=(cO h.2.2 _ e).1;omega⟩
theorem RT.took{ws ws':Nat->List Int}{ts ts':Nat->Bool}{bs:List (List Int)}(h:RT B P BW BT n ws ts v bs W)(hp:dI P BW BT n ws' ts' W')(hf:Fr (fun g=>g=BW∨g=BT) W W'):RT B P BW BT n ws' ts' v bs W':=by
 obtain⟨-,a,b,-,-,d,f⟩:=h.ne;refine⟨(hf.2.2.2.2 B h.lt (fun e=>by rcases e with e|e;exact a e;exact b e)).trans h.1,hp,ig h.2.2 (fun g e=>hf.2.2.2.2 g (cO h.2.2 g e).1 (fun e'=>?_))⟩;rcases e' with rfl|rfl
 ·exact d e
 ·exact f e
theorem lJ.took{ws ws':Nat->List Int}{ts ts':Nat->Bool}{bs:List (List Int)}{f:List Int}(h:lJ w B P BW BT n ws ts v bs f W)(hp:dI P BW BT n ws' ts' W')(hf:Fr (fun g=>g=BW∨g=BT) W W'):lJ w B P BW BT n ws' ts' v bs f W':=by obtain⟨d,a,b,i,k,l,o⟩:=h;have p:=a.lt;have q:=b.lt;exact⟨d.took hp hf,(hf.2.2.2.2 _ p (fun e=>by omega)).trans a,(hf.2.2.2.2 _ q (fun e=>by omega)).trans b,i.trans (hf.mono (fun _ e=>.inr e)),k,l,o⟩
def st(x:List Int)(bs:List (List Int)):Nat->List (List Int)×Bool
 | 0=>([],false)
 | k+1=>if (!(st x bs k).2 && decide (el x 19<el (bs.getD k []) 19))=true then ((st x bs k).1++[x]++[bs.getD k []],true) else ((st x bs k).1++[bs.getD k []],(st x bs k).2)
def ins(x:List Int)(bs:List (List Int)):List (List Int):=if (st x bs bs.length).2=true then (st x bs bs.length).1 else (st x bs bs.length).1++[x]
theorem Bf(x:List Int)(bs:List (List Int))(k:Nat):(st x bs k).1.length<=k+1∧((st x bs k).2=false->(st x bs k).1.length=k):=by
 induction k with
 | zero=>exact⟨by simp[st],fun _=>rfl⟩
 | succ k ih =>
  simp only[st];split
  ·rename_i h;rw[Bool.and_eq_true] at h;have:=ih.2 (by simpa using h.1);refine⟨?_,fun h=>by cases h⟩;simp only[List.length_append,List.length_singleton];omega
  ·refine⟨?_,fun h=>?_⟩
   ·simp only[List.length_append,List.length_singleton];omega
   ·have:=ih.2 h;simp only[List.length_append,List.length_singleton];omega
theorem PK(x:List Int)(bs:List (List Int)):(ins x bs).length<=bs.length+1:=by
 unfold ins;split
 ·exact(Bf x bs bs.length).1
 ·rename_i h;rw[List.length_append,(Bf x bs bs.length).2 (by simpa using h)];exact Nat.le_refl _
attribute [local go_sem ↓] gP gV gy
end
section
variable {f:List Int}{B BT BW P n:Nat}{v:Value}{W:World}
theorem PL(P BW BT m:Nat)(ws:Nat->List Int)(ts:Nat->Bool)(z:List Int)(w:World)(h:dI P BW BT (8*m) ws ts w)(hm:m<=16)(hz:aH z)(ht:tk ws ts z (8*m)=none): Calls prog 85 #[.pointer (some ⟨P,0,none⟩),.agg (av z)] w fun e w'=>e=.returned (.tuple #[.int .i64 0,.int .i64 3])∧Below w.heap.size w w':=by
 refine(FX P BW BT (8*m) m ws ts z w h (by omega) rfl hz _ ht).mono ?_;rintro e w' (⟨_,a,_,b⟩|⟨i,a,_⟩)
 ·exact⟨a,b⟩
 ·cases a
theorem PN(P BW BT m:Nat)(ws:Nat->List Int)(ts:Nat->Bool)(z:List Int)(i:Nat)(w:World)(h:dI P BW BT (8*m) ws ts w)(hm:m<=16)(hz:aH z)(ht:tk ws ts z (8*m)=some i): Calls prog 85 #[.pointer (some ⟨P,0,none⟩),.agg (av z)] w fun e w'=>e=.returned (.tuple #[.int .i64 (1024+(i:Int)),.int .i64 0])∧dI P BW BT (8*m) (upd ws i z) (upd ts i true) w'∧Fr (fun g=>g=BW∨g=BT) w w':=by
 refine(FX P BW BT (8*m) m ws ts z w h (by omega) rfl hz _ ht).mono ?_;rintro e w' (⟨a,_⟩|⟨j,a,_,b,h4,d⟩)
 ·cases a
 ·obtain rfl:i=j:=Option.some.inj a;exact⟨b,h4,d⟩
theorem Bg{ws:Nat->List Int}{ts:Nat->Bool}{z:List Int}{i:Nat}(ht:tk ws ts z n=some i):i<n:=by
 unfold tk at ht;rcases Option.or_eq_some_iff.1 ht with h|⟨_,h⟩
 ·exact List.mem_range.1 (List.mem_of_find?_eq_some h)
 ·exact List.mem_range.1 (List.mem_of_find?_eq_some h)
theorem xV(h:aW f=true):aH (cli f):=by unfold aW at h;simp only[Bool.and_eq_true] at h;exact(fE _).1 h.1.1.1.2
theorem RT.uV{ws:Nat->List Int}{ts:Nat->Bool}{v':Value}{bs bs':List (List Int)}(h:RT B P BW BT n ws ts v bs W)(ho:bQ 0 W v' bs'):RT B P BW BT n ws ts v' bs' (W.setCell ⟨B,1,none⟩ v'):=by
 obtain⟨b,d,f,-,-,-,-⟩:=h.ne;have a:∀g,g≠B->(W.setCell ⟨B,1,none⟩ v').heap[g]? = W.heap[g]?:=fun g hg=>Below.heap_setCell W ⟨B,1,none⟩ v' g hg
 refine⟨?_,⟨(a P (fun e=>b e.symm)).trans h.2.1.1,h.2.1.2.1.same (a BW (fun e=>d e.symm)),h.2.1.2.2.same (a BT (fun e=>f e.symm))⟩,ig ho (fun g e=>a g (fun e'=>?_))⟩
 ·rw[setCell_eq_setRow W B 1 _ _ (0,0) v' h.1,setRow_heap W B _ _ _ (0,0) h.1];rfl
 ·obtain⟨c,hc⟩:=pV ho g e;rw[e',h.1] at hc;cases hc
theorem lJ.answer{w:World}{ws:Nat->List Int}{ts:Nat->Bool}{bs:List (List Int)}{W':World}(h:lJ w B P BW BT n ws ts v bs f W)(on:Only (w.heap.size+1) W W'):RT B P BW BT n ws ts v bs W'∧Fr (fun g=>g=B∨g=BW∨g=BT) w W':=by
 obtain⟨a,o,i,d,p,q,r,k⟩:=h;have l:P≠w.heap.size+1:=by rintro rfl;have:=a.2.1.1;unfold aJ at i;rw[this] at i;cases i
 have b:∀g,g≠w.heap.size+1->W'.heap[g]? = W.heap[g]?:=on.2.2.2.2;refine⟨⟨(b B (by omega)).trans a.1,⟨(b P l).trans a.2.1.1,a.2.1.2.1.same (b BW (by omega)),a.2.1.2.2.same (b BT (by omega))⟩,ig a.2.2 (fun g e=>b g (fun e'=>?_))⟩,?_⟩
 ·rw[e'] at e;exact k e
 ·exact⟨on.1.trans d.1,on.2.1.trans d.2.1,on.2.2.1.trans d.2.2.1,by rw[on.2.2.2.1];exact d.2.2.2.1,fun g hg hO=>(b g (by omega)).trans (d.2.2.2.2 g hg hO)⟩
attribute [local go_sem ↓] gP gV gy
theorem PO(B P BW BT m:Nat)(ws:Nat->List Int)(ts:Nat->Bool)(v:Value)(bs:List (List Int))(f:List Int)(back far now:Int)(w:World)(h:RT B P BW BT (8*m) ws ts v bs w)(hm:m<=16)(hl:bs.length<=1000)(hf:aW f=true)(hr:(fr back && wd far && tc now)=true)(hi:bY bs f=none)(ht:tk ws ts (cli f) (8*m)=none): Calls prog 36 #[.pointer (some ⟨B,0,none⟩),.agg (ak f),.int .i64 back,.int .i64 far,.int .i64 now] w fun e w'=>e=.returned (.tuple #[.agg (ay []),.int .i64 3])∧RT B P BW BT (8*m) ws ts v bs w'∧Fr (fun g=>g=B∨g=BW∨g=BT) w w':=by
 have a:=ki (Gf f h);have r:=ki (fun W=>xU f W);rw[hf,show fe true=0 from rfl] at r;rw[Bool.and_eq_true,Bool.and_eq_true] at hr;have s:=ki (fun W=>xS back W);have t:=ki (fun W=>oq far W);have x:=ki (fun W=>Gb now W);rw[hr.1.1] at s;rw[hr.1.2] at t;rw[hr.2] at x;have y:=ki (fun W (hW:RT B P BW BT (8*m) ws ts v bs W)=>Bd B P BW BT (8*m) ws ts v bs f W hW hl);rw[hi,show ix none=(-1:Int) from rfl] at y;have z:=ki (fun W hW=>PL P BW BT m ws ts (cli f) W hW hm (xV hf) ht);unfold aV at a;clear h hf hr hi ht;go_enter func36,ntmps36;go_upto_region 1 with fail
 generalize (w.alloc _).alloc _=W at a⊢;have n:=a.o.2.1.fl;go_upto_region 11 with(first|(go_at_call 83;(with_reducible refine(r.o _).mono ?_);rintro e A ⟨rfl,b⟩;replace a:=ki (a.o.kept b);clear b n;have n:=a.o.2.1.fl)|(go_at_call 24;(with_reducible refine(s.o _).mono ?_);rintro e w' ⟨rfl,rfl⟩)|(go_at_call 22;(with_reducible refine(t.o _).mono ?_);rintro e w' ⟨rfl,rfl⟩)|(go_at_call 84;(with_reducible refine(x.o _).mono ?_);rintro e w' ⟨rfl,rfl⟩)|(go_at_call 34;refine(y.o _ a.o.1).mono ?_;rintro e C ⟨rfl,d⟩;replace a:=ki (a.o.kept d);clear d))
 clear n;replace a:=ki (a.o.kept (Below.refl _ _).drew);have o:=a.o.1.lI;have p:=a.o.2.1.hc;go_region_held3 (fun w'=>w'.cell? ⟨B,0,none⟩=some (.pointer (some ⟨P,0,none⟩))∧(hload (.pointer (some ⟨w.heap.size,1,none⟩))).run prog w'=.ok (.agg (av (cli f))) w')
  (first
   | go_keep
   | exact⟨a.o.1.lI,a.o.2.1.hc⟩)
  (first|(go_at_call 85;refine(z.o _ a.o.1.2.1).mono ?_;rintro e D ⟨rfl,i⟩;replace a:=ki (a.o.kept i);clear i o p;have o:=a.o.1.lI;have p:=a.o.2.1.hc))
 clear o p;go_wp2_with (refine fF rfl (.tmp 10) (.tmp 61) rfl rfl a.o.2.2.1 [] rfl ?_;intro E q k;have l:=ki (a.o.answer k);replace q:=ki q;clear k)
 try simp only[Exit.inBlock,Exit.then]
 refine bodyPost_ret (iW rfl _ _ (w.heap.size+1) [] rfl q.o) rfl ?_;exact⟨rfl,l.o.1,l.o.2⟩
theorem lJ.uV{w:World}{ws:Nat->List Int}{ts:Nat->Bool}{v':Value}{bs bs':List (List Int)}(h:lJ w B P BW BT n ws ts v bs f W){base:Nat}(ho:bQ base W v' bs')(hb:w.heap.size+1<base):lJ w B P BW BT n ws ts v' bs' f (W.setCell ⟨B,1,none⟩ v'):=by
 obtain⟨d,i,k,l,o,p,q,r⟩:=h;have a:bQ 0 W v' bs':=by
  refine⟨ho.1,?_⟩;rcases ho.2 with h2|⟨g,cap,cur,e,_,rest⟩
  ·exact .inl h2
  ·exact .inr ⟨g,cap,cur,e,Nat.zero_le _,rest⟩
 have b:∀g,g≠B->(W.setCell ⟨B,1,none⟩ v').heap[g]? = W.heap[g]?:=fun g hg=>Below.heap_setCell W ⟨B,1,none⟩ v' g hg
 exact⟨d.uV a,(b _ (by omega)).trans i,(b _ (by omega)).trans k,l.trans ((qN W B 1 v').mono (fun _ e=>.inl e)),o,p,q,fun e=>by have:=(cO ho _ e).2;omega⟩
end
end Go.Proofs.YtgcojnlngchllaaGreatDoor
