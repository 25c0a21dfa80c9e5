import Derived.Test.YtgcojnlngchllaaGreatDoorJ40
import Derived.Test.YtgcojnlngchllaaGreatDoorJ39
namespace Go.Proofs.YtgcojnlngchllaaGreatDoor
open Go.RowKit Tryz
set_option linter.unusedVariables false
set_option maxRecDepth 100000
set_option maxHeartbeats 40000000
section
variable {g:GS}{G:Nat}{O:Nat->Prop}{W w:World}
theorem GC.apart{a:Option Addr}{cap:Nat}{tv:Value}{S:Nat}{ah:Nat->Prop}{β:Int->Nat}{w':World}(h:GC G a cap tv S ah β g w)(hs:w.heap.size<=w'.heap.size)(hk:∀k,GO G a ah (SO S β g.ss) k->w'.heap[k]? = w.heap[k]?)(hr:∀a n c zs,aj w a n c zs->aj w' a n c zs):GC G a cap tv S ah β g w' :=
 ⟨h.1.same (hk G (.inl rfl)),⟨h.2.1.1.same (fun k q=>hk k (.inr (.inl q))),fun k q=>Nat.lt_of_lt_of_le (h.2.1.2.1 k q) hs,h.2.1.2.2⟩,(fZ _ _ _ _ _ _ _ h.2.2.1).2 w' hs (fun k q=>hk k (.inr (.inr (.inl q)))),h.2.2.2.1.same (fun k q=>hk k (.inr (.inr (.inr q)))) hr,h.2.2.2.2⟩
def gN(w:World)(G:Nat)(g:GS)(O:Nat->Prop)(W:World):Prop:=∃a cap tv S ah β,O=GO G a ah (SO S β g.ss)∧rG w G a cap tv S ah β g W
theorem gN.kept{W':World}(h:gN w G g O W)(hb:Below W.heap.size W W'):gN w G g O W':=by obtain⟨a,b,d,S,f,β,e,h⟩:=h;exact⟨a,b,d,S,f,β,e,h.kept hb⟩
theorem gN.lt(h:gN w G g O W){k:Nat}(hk:O k):k<W.heap.size:=by obtain⟨a,b,d,S,e,β,rfl,h⟩:=h;exact h.1.lt hk
theorem gN.below(h:gN w G g O W):Below w.heap.size w W:=by obtain⟨a,b,d,S,e,β,rfl,h⟩:=h;exact h.2.2
def j3(w:World)(G:Nat)(g':GS)(O:Nat->Prop)(W W':World):Prop:=∃O',gN w G g' O' W'∧(∀k,O' k->O k∨W.heap.size<=k)∧aL O W W'
theorem gN.call{g':GS}(h:gN w G g O W){F:Nat}{xs:Array Value}{R:Ending->World->Prop}(hc:∀a cap tv S ah β,GC G a cap tv S ah β g W->Calls prog F xs W fun e w'=>R e w'∧gu W G a cap tv S ah β g g' w'): Calls prog F xs W fun e w'=>R e w'∧j3 w G g' O W w':=by obtain⟨a,cap,tv,S,ah,β,rfl,h⟩:=h;refine(hc a cap tv S ah β h.1).mono ?_;rintro e w' ⟨i,b,β',l,d,f⟩;have hs:=h.2.2.size;exact⟨i,_,⟨a,cap,tv,S,b,β',rfl,l,fun k hk=>(f k hk).elim (h.2.1 k) (fun h=>by omega),d.below h.2.2 h.2.1 hs⟩,f,d⟩
theorem gN.apart{P:Nat->Prop}{W':World}(h:gN w G g O W)(q:aL P W W')(hb:Below w.heap.size w W')(hd:∀k,O k->¬P k):gN w G g O W':=by obtain⟨a,b,d,S,e,β,rfl,h⟩:=h;exact⟨a,b,d,S,e,β,rfl,h.1.apart q.size (fun k hk=>q.1.2.2.2.2 k (h.1.lt hk) (hd k hk)) q.2,h.2.1,hb⟩
theorem wo.gh{w':World}{c:List Int}{inj:Bool}{bk:List (List Int)}{m:Nat}{e:Ending}(h:wo W c inj bk m e w')(hb:Below w.heap.size w W):∃G O,e=.returned (.tuple #[.pointer (some ⟨G,0,none⟩),.nilIface])∧gN w G (gZ c inj bk m) O w'∧(∀k,O k->W.heap.size<=k)∧Below W.heap.size W w':=by obtain⟨G,a,b,f,S,g,i,l,d,e4⟩:=h;exact⟨G,_,i,⟨a,b,f,S,g,_,rfl,l,fun k hk=>Nat.le_trans hb.size (d k hk),bt hb e4⟩,d,e4⟩
end
section
theorem V9(c:Int)(n:Nat)(hc:pR c)(hn:0<n)(hm:n<=1000):∃k:Nat,k<n∧∀w:World,Calls prog 49 #[.int .i64 c,.int .i64 n] w fun e w'=>e=.returned (.int .i64 k)∧w'=w:=by
 obtain⟨i,l⟩:=hc;have g:(n:Int)<=1000:=by omega
 have b:(0:Int)<(n:Int):=by omega
 have d:¬(n:Int)=0:=by omega
 by_cases h:c<0
 ·have hd:=Int.emod_nonneg (-(c+1)) d;have hl:=Int.emod_lt_of_pos (-(c+1)) b;obtain⟨k,hk⟩:∃k:Nat,(-(c+1))%(n:Int)=k:=⟨((-(c+1))%(n:Int)).toNat,by omega⟩;refine⟨k,by omega,fun w=>?_⟩;have q:(-(c+1)).tmod (n:Int)=(k:Int):=by rw[Int.tmod_eq_emod_of_nonneg (by omega)];exact hk
  have o:IntKind.i64.wrap (c+1)=c+1:=by rw[IntKind.wrap_i64];omega
  have p:IntKind.i64.wrap (-(c+1)) = -(c+1):=by rw[IntKind.wrap_i64];omega
  clear hd hl;have a:=ki hk;clear hk;go_enter func49,ntmps49;go_wp2;go_ret;exact⟨by first|rfl|(rw[<-a.o];rfl)|(rw[<-a.o];simp)|(simp[q]),rfl⟩
 ·have f:0<=c:=by omega
  have hd:=Int.emod_nonneg c d;have hl:=Int.emod_lt_of_pos c b;obtain⟨k,hk⟩:∃k:Nat,c%(n:Int)=k:=⟨(c%(n:Int)).toNat,by omega⟩;refine⟨k,by omega,fun w=>?_⟩;have q:c.tmod (n:Int)=(k:Int):=by rw[Int.tmod_eq_emod_of_nonneg f];exact hk
  clear hd hl;have a:=ki hk;clear hk;go_enter func49,ntmps49;go_wp2;go_ret;exact⟨by first|rfl|(rw[<-a.o];rfl)|(rw[<-a.o];simp)|(simp[q]),rfl⟩
end
section
theorem JF{g:GS}(hg:dK g)(zs:List Int):∀w G O W b l k,gN w G g O W->aj W b l k zs->l<=k->k<=maxLen->Calls prog 51 #[.pointer (some ⟨G,0,none⟩),.slice b l k] W fun e w'=>(∃a2 l2 c2,e=.returned (.tuple #[.slice a2 l2 c2,ev (g6 g zs).1])∧aj w' a2 l2 c2 (g6 g zs).2.1∧l2<=c2∧c2<=maxLen)∧j3 w G (g6 g zs).2.2 O W w' :=
 fun w G O W b l k h r e1 e2=>h.call (R:=fun e w'=>∃a2 l2 c2,e=.returned (.tuple #[.slice a2 l2 c2,ev (g6 g zs).1])∧aj w' a2 l2 c2 (g6 g zs).2.1∧l2<=c2∧c2<=maxLen) fun a cap tv S ah β hG=>(U3 G a cap tv S ah β g b l k zs W hG hg.1 hg.2.1 hg.2.2 r e1 e2).mono fun e w' ⟨a2,l2,c2,e3,e4,e5⟩=>⟨⟨a2,l2,c2,e3,e4⟩,e5⟩
end
section
variable {g:GS}
theorem Wd(gone:List (List Int)):∀{ss:List (Int×List Int×Int×Bool×Bool)}{x:Int×List Int×Int×Bool×Bool},x∈sgo gone ss->x∈ss:=by
 unfold sgo;induction gone with
 | nil=>exact fun h=>h
 | cons b r ih=>exact fun h=>(tN.1 (ih h)).1
theorem Wh(h:dK g)(n:Int):dK (eP g n).2:=by
 unfold eP;split
 ·rename_i hn;obtain⟨⟨f,i,k,l,o⟩,hs,hc⟩:=h;have d:=k.expire (g.now+n);refine⟨⟨f,Nat.le_trans d.2.1 i,d.1,?_,fun b hb=>?_⟩,fun x hx=>hs x (Wd _ hx),hc⟩
  ·have e:=l;unfold tc at e⊢;simp only[Bool.and_eq_true,decide_eq_true_eq] at e⊢;show 0<=g.now+n∧g.now+n<=_;omega
  ·have a:b∈(es (g.now+n) g.bs g.ts g.bs.length).2.1:=hb;rw[(qR (g.now+n) g.bs g.ts g.bs.length (Nat.le_refl _)).2.1,List.take_length] at a;have:=o b (List.mem_filter.1 a).1;show el b 22<=g.now+n;omega
 ·exact h
theorem Wi{bk:List (List Int)}(h:yX bk){i:Nat}(hi:i<bk.length){y:List Int}(h1:iK y=iK (bk.getD i []))(h2:el y 0=el (bk.getD i []) 0):yX (bk.set i y):=by
 obtain⟨e,d,f⟩:=h;refine⟨by rw[List.length_set];exact e,fun b hb=>?_,?_⟩
 ·rcases List.mem_or_eq_of_mem_set hb with hb|rfl
  ·exact d b hb
  ·rw[h1,getD_at hi];exact d _ (List.getElem_mem hi)
 ·have h4:(bk.map (fun b=>el b 0)).Pairwise (fun a b=>a≠b):=List.pairwise_map.2 f;have g:(bk.set i y).map (fun b=>el b 0)=bk.map (fun b=>el b 0):=by
   apply List.ext_getElem?;intro j;rw[List.getElem?_map,List.getElem?_map,List.getElem?_set];by_cases h:i=j
   ·subst h;rw[if_pos rfl,if_pos hi,List.getElem?_eq_getElem hi];show some (el y 0)=some (el bk[i] 0);rw[h2,getD_at hi]
   ·rw[if_neg h]
  rw[<-g] at h4;exact List.pairwise_map.1 h4
theorem JG(h:dK g)(id:Int){f:List Int->List Int}(h1:∀x,iK (f x)=iK x)(h2:∀x,el (f x) 0=el x 0):dK (eB g id f).2:=by
 unfold eB;split
 ·exact h
 ·rename_i i hi;exact⟨h.1,h.2.1,h.2.2.1,h.2.2.2.1,h.2.2.2.2.1,h.2.2.2.2.2.1,V8 (Wi (yY h.2.2.2.2.2.2) (yR hi) (h1 _) (h2 _))⟩
theorem JH(hg:dK g)(zs:List Int):∀w G O W b l k,gN w G g O W->aj W b l k zs->l<=k->k<=maxLen->Calls prog 52 #[.pointer (some ⟨G,0,none⟩),.slice b l k] W fun e w'=>(∃a2 l2 c2,e=.returned (.tuple #[.slice a2 l2 c2,ev (g4 g zs).1])∧aj w' a2 l2 c2 (g4 g zs).2.1∧l2<=c2∧c2<=maxLen)∧j3 w G (g4 g zs).2.2 O W w' :=
 fun w G O W b l k h r e1 e2=>h.call (R:=fun e w'=>∃a2 l2 c2,e=.returned (.tuple #[.slice a2 l2 c2,ev (g4 g zs).1])∧aj w' a2 l2 c2 (g4 g zs).2.1∧l2<=c2∧c2<=maxLen) fun a cap tv S ah β hG=>(U7 G a cap tv S ah β g b l k zs W hG hg.1 hg.2.1 r e1 e2).mono fun e w' ⟨a2,l2,c2,e3,e4,e5⟩=>⟨⟨a2,l2,c2,e3,e4⟩,e5⟩
theorem Wj(hg:dK g)(n:Int):∀w G O W,gN w G g O W->Calls prog 53 #[.pointer (some ⟨G,0,none⟩),.int .i64 n] W fun e w'=>e=.returned (ev (eP g n).1)∧j3 w G (eP g n).2 O W w' :=
 fun w G O W h=>h.call (R:=fun e _=>e=.returned (ev (eP g n).1)) fun a cap tv S ah β hG=>Vy G a cap tv S ah β g n W hG hg.1
theorem Wm(hl:g.bk.length<=1000)(id:Int)(u:Bool):∀w G O W,gN w G g O W->Calls prog 54 #[.pointer (some ⟨G,0,none⟩),.int .i64 id,.bool u] W fun e w'=>e=.returned (ev (eB g id (fun x=>ji x u)).1)∧j3 w G (eB g id (fun x=>ji x u)).2 O W w' :=
 fun w G O W h=>h.call (R:=fun e _=>e=.returned (ev (eB g id (fun x=>ji x u)).1)) fun a cap tv S ah β hG=>Va G a cap tv S ah β g id u W hG hl
theorem Wn(hl:g.bk.length<=1000)(id:Int)(u:Bool):∀w G O W,gN w G g O W->Calls prog 55 #[.pointer (some ⟨G,0,none⟩),.int .i64 id,.bool u] W fun e w'=>e=.returned (ev (eB g id (fun x=>jk x u)).1)∧j3 w G (eB g id (fun x=>jk x u)).2 O W w' :=
 fun w G O W h=>h.call (R:=fun e _=>e=.returned (ev (eB g id (fun x=>jk x u)).1)) fun a cap tv S ah β hG=>Vb G a cap tv S ah β g id u W hG hl
end
section
theorem aG.put{B:Nat}{z:List Int}{a:Option Addr}{len cap:Nat}{w:World}(p:aG B z a len cap w)(j:Nat)(hj:j<7)(v:Int):aG B ((z7 z).set j v) a len cap (w.setCell ⟨B,j,none⟩ (.int .i64 v))∧Only B w (w.setCell ⟨B,j,none⟩ (.int .i64 v)):=by rw[setCell_eq_setRow w B j _ _ (0,0) _ p];have h:=setRow_heap w B _ ((aA z a len cap).setIfInBounds j (.int .i64 v)) _ (0,0) p;refine⟨?_,dS _ _ _⟩;rcases (by omega:j=0∨j=1∨j=2∨j=3∨j=4∨j=5∨j=6) with rfl|rfl|rfl|rfl|rfl|rfl|rfl<;>exact h
def ans(z b:List Int):List Int:=if el b 0=17 then [17,el b 21,el b 19,0,0,0,0] else [el b 0,el b 21,el b 19,el z 3,el z 4,el z 5,el z 6]
attribute [local go_sem ↓] jg gy gV
theorem Wo(ba:Option Addr)(bl bc:Nat)(z:List Int)(a:Option Addr)(len cap:Nat)(s d:List Int)(hop n:Int)(is:Bool)(c:List Int)(inj:Bool)(ka:Option Addr)(kn kc:Nat)(ga:Option Addr)(gn gc:Nat)(w:World)(h:gn=0∨(0<gn∧hop<0)∨(0<gn∧¬hop<0∧255<hop)): Calls prog 13 #[.agg (fq 5 ba bl bc z a len cap s d hop n is),.agg (dh c inj ka kn kc),.slice ga gn gc] w fun e w'=>e=.returned (.slice none 0 0)∧Below w.heap.size w w':=by
 have b:=ki (jZ.start w 5 ba bl bc z a len cap s d hop n is c inj ka kn kc);have g:=ki (fun W=>bR W);unfold aN at g;have f:=ki h;clear h;go_enter func13,ntmps13;go_upto_region 1 with fail
 generalize (World.alloc _ _).alloc _=W0 at b⊢;have l:=b.o.1.what;have o:=b.o.1.gl;have i:=ki (g.o W0);go_upto_region 3 with(refine aK rfl (.tmp 7) (.tmp 10) rfl rfl i.o z a len cap rfl ?_;intro q p k;replace b:=ki (b.o.kept (bq _ k));clear p k l o;have l:=b.o.1.what)
 clear l i;have r:=b.o.1.hop;rcases f.o with rfl|⟨h0,h1⟩|⟨h0,h1,h2⟩
 ·clear f;go_wp2;go_ret;exact⟨rfl,b.o.2.2⟩
 ·have hn:¬(gn:Int)=0:=by omega
  clear f;go_wp2;go_ret;exact⟨rfl,b.o.2.2⟩
 ·have hn:¬(gn:Int)=0:=by omega
  clear f;go_wp2;go_ret;exact⟨rfl,b.o.2.2⟩
end
section
theorem jZ.only{w:World}{aD:Int}{ba:Option Addr}{bl bc:Nat}{z:List Int}{a:Option Addr}{len cap:Nat}{s d:List Int}{hop n:Int}{is:Bool}{c:List Int}{inj:Bool}{ka:Option Addr}{kn kc:Nat}{W W':World}{B:Nat}(h:jZ w aD ba bl bc z a len cap s d hop n is c inj ka kn kc W)(on:Only B W W')(hB:w.heap.size+1<B):jZ w aD ba bl bc z a len cap s d hop n is c inj ka kn kc W':=⟨(on.2.2.2.2 _ (by omega)).trans h.1,(on.2.2.2.2 _ (by omega)).trans h.2.1,on.below h.2.2 (by omega)⟩
attribute [local go_sem ↓] jg gy gV
theorem JI(ba:Option Addr)(bl bc:Nat)(z:List Int)(a:Option Addr)(cap:Nat)(s d:List Int)(hop n:Int)(is:Bool)(c:List Int)(inj:Bool)(ka:Option Addr)(kn kc:Nat)(ga go:Nat)(gn gc:Nat)(D b Y:List Int)(i:Nat)(w:World)(hn:0<gn)(hm:gn<=128)(hi:i<gn)(h0:¬hop<0)(h1:¬255<hop)(hr:aj w a D.length cap D)(hP:∀W,Calls prog 49 #[.int .i64 n,.int .i64 gn] W fun e w'=>e=.returned (.int .i64 i)∧w'=W)(hb:w.rangeAt ga (go+i*23) (ay b).toList)(hY:(sf (ans z b) D.length≠0∧Y=[])∨(sf (ans z b) D.length=0∧0<Y.length∧∃(k:Int) (N:Nat) (E:List Int),(∀W a c',aj W a D.length c' D->Calls prog 41 #[.agg (aA (ans z b) a D.length c'),.int .i64 (el b 20),.int .i64 (el c 18),.int .i64 hop] W fun e w'=>∃a1 c1,e=.returned ((.agg #[.int .i64 (el b 20),.int .i64 (el c 18),.int .i64 hop,.int .i64 k,.int .i64 0,.slice a1 N c1]))∧aj w' a1 N c1 E∧Below W.heap.size W w')∧(∀W a1 c1,aj W a1 N c1 E->Calls prog 40 #[.agg #[.int .i64 (el b 20),.int .i64 (el c 18),.int .i64 hop,.int .i64 k,.int .i64 0,.slice a1 N c1]] W fun e w'=>∃v,e=.returned v∧Own W.heap.size w' v Y∧Below W.heap.size W w'))): Calls prog 13 #[.agg (fq 5 ba bl bc z a D.length cap s d hop n is),.agg (dh c inj ka kn kc),.slice (some ⟨ga,go,none⟩) gn gc] w fun e w'=>∃b l k,e=.returned (.slice b l k)∧(aj w' b l k Y∧l<=k∧k<=maxLen)∧Below w.heap.size w w':=by
 have f:=ki (jZ.start w 5 ba bl bc z a D.length cap s d hop n is c inj ka kn kc);have Z:=ki (fun W=>bR W);have aa:=ki (fun W=>fu W);have X:=ki (fun z' W=>nI z' a D.length cap W hr.2.1);have HR:=ki hr;have HP:=ki hP;have ao:=ki hb;have J:=ki hY;have j1:(i:Int)<(gn:Int):=by omega
 have j2:(gn:Int)<=128:=by omega
 have vZ:¬(gn:Int)=0:=by omega
 unfold aN at Z;unfold aV at aa;clear hr hP hb hY hn hm hi;go_enter func13,ntmps13;go_upto_region 1 with fail
 generalize (World.alloc _ _).alloc _=W0 at f⊢;have q0:=f.o.1.what;have q2:=f.o.1.gl;have ab:=ki (Z.o W0);go_upto_region 3 with(refine aK rfl (.tmp 7) (.tmp 10) rfl rfl ab.o z a D.length cap rfl ?_;intro w3 p3 ac;have g:=ki p3;have G:=ki (show w.heap.size+1<W0.heap.size from f.o.2.1.lt);replace f:=ki (f.o.kept (bq _ ac));clear p3 ac q0 q2;have q0:=f.o.1.what)
 clear q0 ab;generalize W0.heap.size=B at g G⊢;have q1:=f.o.1.hop;go_upto_region 5 with fail
 clear q1;have q1:=f.o.1.num;have q2:=qp (show w3.rangeAt ga (go+i*23) (ay b).toList from fun j v hv=>by have hc:=ao.o j v hv;rw[f.o.2.2.cell (p:=⟨ga,go+i*23+j,none⟩) (uI hc)];exact hc);go_upto_region 6 with(first|(go_at_call 49;refine(HP.o _).mono ?_;rintro e w4 ⟨rfl,rfl⟩;have bX:=ki (aa.o w4))|(refine fF rfl (.tmp 8) (.tmp 34) rfl rfl bX.o b rfl ?_;intro w5 p5 K;have r:=ki p5;have A:=ki (show B<w4.heap.size from g.o.lt);replace f:=ki (f.o.kept (bq _ K));replace g:=ki (g.o.kept (bq _ K));clear p5 K))
 clear bX q1 q2;generalize w4.heap.size=rH at r A⊢;have c0:=g.o.c0;have f0:=g.o.aZ 0;have d0:=r.o.cell 0 (by omega);obtain⟨p,t⟩:=g.o.put 0 (by omega) (el b 0);have h:=ki (show aG B [el b 0,el z 1,el z 2,el z 3,el z 4,el z 5,el z 6] a D.length cap _ from p);have o:=ki (f.o.only t G.o);have q:=ki (show aJ rH b _ from(t.2.2.2.2 _ (by have:=A.o;omega)).trans r.o);clear p t;go_upto_region 7 with fail
 clear c0 f0 d0 g f r;generalize World.setCell _ _ _=yZ at h o q⊢;have g:=h;have f:=o;have r:=q;clear h o q;have c1:=g.o.c1;have f1:=g.o.aZ 1;have d1:=r.o.cell 21 (by omega);obtain⟨p,t⟩:=g.o.put 1 (by omega) (el b 21);have h:=ki (show aG B [el b 0,el b 21,el z 2,el z 3,el z 4,el z 5,el z 6] a D.length cap _ from p);have o:=ki (f.o.only t G.o);have q:=ki (show aJ rH b _ from(t.2.2.2.2 _ (by have:=A.o;omega)).trans r.o);clear p t;go_upto_region 8 with fail
 clear c1 f1 d1 g f r;generalize World.setCell _ _ _=rQ at h o q⊢;have g:=h;have f:=o;have r:=q;clear h o q;have c2:=g.o.c2;have f2:=g.o.aZ 2;have d2:=r.o.cell 19 (by omega);obtain⟨p,t⟩:=g.o.put 2 (by omega) (el b 19);have h:=ki (show aG B [el b 0,el b 21,el b 19,el z 3,el z 4,el z 5,el z 6] a D.length cap _ from p);have o:=ki (f.o.only t G.o);have q:=ki (show aJ rH b _ from(t.2.2.2.2 _ (by have:=A.o;omega)).trans r.o);clear p t;go_upto_region 9 with fail
 clear c2 f2 d2 g f r;generalize World.setCell _ _ _=X3 at h o q⊢;have g:=h;have f:=o;have r:=q;clear h o q;have C:=r.o.cell 0 (by omega);by_cases eG:el b 0=17;case pos =>
  rw[eG] at C g;go_upto_region 10 with fail
  clear C;have c3:=g.o.c3;have f3:=g.o.aZ 3;obtain⟨p,t⟩:=g.o.put 3 (by omega) (0);have h:=ki (show aG B [17,el b 21,el b 19,0,el z 4,el z 5,el z 6] a D.length cap _ from p);have o:=ki (f.o.only t G.o);have q:=ki (show aJ rH b _ from(t.2.2.2.2 _ (by have:=A.o;omega)).trans r.o);clear p t;go_upto_region 11 with fail
  clear c3 f3 g f r;generalize World.setCell _ _ _=X4 at h o q⊢;have g:=h;have f:=o;have r:=q;clear h o q;have c4:=g.o.c4;have f4:=g.o.aZ 4;obtain⟨p,t⟩:=g.o.put 4 (by omega) (0);have h:=ki (show aG B [17,el b 21,el b 19,0,0,el z 5,el z 6] a D.length cap _ from p);have o:=ki (f.o.only t G.o);have q:=ki (show aJ rH b _ from(t.2.2.2.2 _ (by have:=A.o;omega)).trans r.o);clear p t;go_upto_region 12 with fail
  clear c4 f4 g f r;generalize World.setCell _ _ _=X5 at h o q⊢;have g:=h;have f:=o;have r:=q;clear h o q;have c5:=g.o.c5;have f5:=g.o.aZ 5;obtain⟨p,t⟩:=g.o.put 5 (by omega) (0);have h:=ki (show aG B [17,el b 21,el b 19,0,0,0,el z 6] a D.length cap _ from p);have o:=ki (f.o.only t G.o);have q:=ki (show aJ rH b _ from(t.2.2.2.2 _ (by have:=A.o;omega)).trans r.o);clear p t;go_upto_region 13 with fail
  clear c5 f5 g f r;generalize World.setCell _ _ _=X6 at h o q⊢;have g:=h;have f:=o;have r:=q;clear h o q;have c6:=g.o.c6;have f6:=g.o.aZ 6;obtain⟨p,t⟩:=g.o.put 6 (by omega) (0);have h:=ki (show aG B [17,el b 21,el b 19,0,0,0,0] a D.length cap _ from p);have o:=ki (f.o.only t G.o);have q:=ki (show aJ rH b _ from(t.2.2.2.2 _ (by have:=A.o;omega)).trans r.o);clear p t;go_upto_region 14 with fail
  clear c6 f6 g f r;generalize World.setCell _ _ _=X7 at h o q⊢;have g:=h;have f:=o;have r:=q;clear h o q;have F:=ki (show aG B (ans z b) a D.length cap _ by unfold ans;rw[if_pos eG];exact g.o);clear g;have C:=F.o.gl;rcases J.o with⟨hs,rfl⟩|⟨hs,hpos,k',N,E,vP,vQ⟩
  ·have y:=ki (fun W=>X.o (ans z b) W);generalize sf (ans z b) D.length=e0 at y hs;clear J;go_wp2_with (go_at_call 50;refine(y.o _).mono ?_;rintro e w8 ⟨rfl,x⟩;replace f:=ki (f.o.kept x);clear x)
   go_ret;exact⟨none,0,0,rfl,⟨dL _,Nat.le_refl _,Nat.zero_le _⟩,f.o.2.2⟩
  ·have y:=ki (fun W=>X.o (ans z b) W);rw[hs] at y;have L:=ki vP;have M:=ki vQ;have O:=ki hpos;clear J hs vP vQ hpos;go_upto_region 16 with(go_at_call 50;refine(y.o _).mono ?_;rintro e w8 ⟨rfl,x⟩;replace f:=ki (f.o.kept x);replace F:=ki (F.o.kept x);replace r:=ki (r.o.kept x);clear x C)
   have C:=F.o.gl;have q4:=r.o.cell 20 (by omega);have q5:=f.o.2.1.c18;have q6:=f.o.1.hop;go_wp2_with (first|(go_at_call 41;refine(L.o _ _ _ (HR.o.below f.o.2.2)).mono ?_;rintro e fK ⟨a9,c9,rfl,P,H⟩;have Q:=ki P;replace f:=ki (f.o.kept H);clear H P C q4 q5 q6)|(go_at_call 40;refine(M.o _ _ _ Q.o).mono ?_;rintro e wa ⟨va,rfl,R,I⟩;obtain⟨dZ,dR,rfl,S,T,-,-,U⟩:=R.form O.o;have V:=ki (And.intro U (And.intro S T));replace f:=ki (f.o.kept I);clear R I S T U))
   go_ret;exact⟨_,_,_,rfl,V.o,f.o.2.2⟩
 case neg =>
  go_upto_region 14 with fail
  clear C;have F:=ki (show aG B (ans z b) a D.length cap _ by unfold ans;rw[if_neg eG];exact g.o);clear g;have C:=F.o.gl;rcases J.o with⟨hs,rfl⟩|⟨hs,hpos,k',N,E,vP,vQ⟩
  ·have y:=ki (fun W=>X.o (ans z b) W);generalize sf (ans z b) D.length=e0 at y hs;clear J;go_wp2_with (go_at_call 50;refine(y.o _).mono ?_;rintro e w8 ⟨rfl,x⟩;replace f:=ki (f.o.kept x);clear x)
   go_ret;exact⟨none,0,0,rfl,⟨dL _,Nat.le_refl _,Nat.zero_le _⟩,f.o.2.2⟩
  ·have y:=ki (fun W=>X.o (ans z b) W);rw[hs] at y;have L:=ki vP;have M:=ki vQ;have O:=ki hpos;clear J hs vP vQ hpos;go_upto_region 16 with(go_at_call 50;refine(y.o _).mono ?_;rintro e w8 ⟨rfl,x⟩;replace f:=ki (f.o.kept x);replace F:=ki (F.o.kept x);replace r:=ki (r.o.kept x);clear x C)
   have C:=F.o.gl;have q4:=r.o.cell 20 (by omega);have q5:=f.o.2.1.c18;have q6:=f.o.1.hop;go_wp2_with (first|(go_at_call 41;refine(L.o _ _ _ (HR.o.below f.o.2.2)).mono ?_;rintro e fK ⟨a9,c9,rfl,P,H⟩;have Q:=ki P;replace f:=ki (f.o.kept H);clear H P C q4 q5 q6)|(go_at_call 40;refine(M.o _ _ _ Q.o).mono ?_;rintro e wa ⟨va,rfl,R,I⟩;obtain⟨dZ,dR,rfl,S,T,-,-,U⟩:=R.form O.o;have V:=ki (And.intro U (And.intro S T));replace f:=ki (f.o.kept I);clear R I S T U))
   go_ret;exact⟨_,_,_,rfl,V.o,f.o.2.2⟩
end
section
theorem Wp(ba:Option Addr)(bl bc:Nat)(z:List Int)(a:Option Addr)(len cap:Nat)(s d:List Int)(hop n:Int)(is:Bool)(c:List Int)(inj:Bool)(ka:Option Addr)(kn kc:Nat)(bs:List (List Int))(D:List Int)(hl:D.length=len)(hn:pR n)(h128:bs.length<=128)(hc:up 4294967295 (el c 18)=true)(hb:∀b∈bs,fr (el b 20)=true): ∃zs:List Int,∀W v,dU 0 W v bs->aj W a len cap D->Calls prog 13 #[.agg (fq 5 ba bl bc z a len cap s d hop n is),.agg (dh c inj ka kn kc),v] W fun e w'=>∃b l k,e=.returned (.slice b l k)∧(aj w' b l k zs∧l<=k∧k<=maxLen)∧Below W.heap.size W w':=by
 subst hl;by_cases hno:bs.length=0∨(0<bs.length∧hop<0)∨(0<bs.length∧¬hop<0∧255<hop)
 ·refine⟨[],fun W v hv hr=>?_⟩;obtain⟨t,p,rfl,-⟩:=hv;exact(Wo ba bl bc z a D.length cap s d hop n is c inj ka kn kc t bs.length p W hno).mono fun e w' ⟨e1,e2⟩=>⟨none,0,0,e1,⟨dL _,Nat.le_refl _,Nat.zero_le _⟩,e2⟩
 ·have f:0<bs.length:=Nat.pos_of_ne_zero fun e=>hno (.inl e)
  have w:¬hop<0:=fun e=>hno (.inr (.inl ⟨f,e⟩))
  have x:¬255<hop:=fun e=>hno (.inr (.inr ⟨f,w,e⟩))
  obtain⟨i,q,y⟩:=V9 n bs.length hn f (by omega);obtain⟨b,hbe⟩:∃b,b=bs.getD i []:=⟨_,rfl⟩;have A:b∈bs:=by rw[hbe];exact nE q
  have F:up 4294967295 (el b 20)=true:=by have h:=hb b A;unfold fr at h;rw[Bool.and_eq_true,decide_eq_true_eq,decide_eq_true_eq] at h;exact decide_eq_true h
  have G:up 255 hop=true:=decide_eq_true (by omega);by_cases hs:sf (ans z b) D.length=0
  ·obtain⟨k,N,E,B,C⟩:=zB F hc G ((l6 _ _).1 hs);refine⟨gY (el b 20) (el c 18) hop (ans z b) D,fun W v hv hr=>?_⟩;obtain⟨t,p,rfl,o⟩:=hv;obtain⟨g,r,rfl,-,o⟩:=o f;exact JI ba bl bc z a cap s d hop n is c inj ka kn kc g r bs.length p D b _ i W f h128 q w x hr y (by rw[hbe];exact o i q) (.inr ⟨hs,VW,k,N,E,B,C⟩)
  ·refine⟨[],fun W v hv hr=>?_⟩;obtain⟨t,p,rfl,o⟩:=hv;obtain⟨g,r,rfl,-,o⟩:=o f;exact JI ba bl bc z a cap s d hop n is c inj ka kn kc g r bs.length p D b [] i W f h128 q w x hr y (by rw[hbe];exact o i q) (.inl ⟨hs,rfl⟩)
end
section
def vR(x:Value):Sem Value:=Instr.loadAt 41 x
theorem zD(x:Value):Instr.loadAt 41 x=vR x:=rfl
theorem dD.sl{B:Nat}{aD:Int}{ba:Option Addr}{bl bc:Nat}{z:List Int}{a:Option Addr}{len cap:Nat}{s d:List Int}{hop n:Int}{is:Bool}{w:World}(p:dD B aD ba bl bc z a len cap s d hop n is w):(vR (.pointer (some ⟨B,0,none⟩))).run prog w=.ok (.agg (fq aD ba bl bc z a len cap s d hop n is)) w :=
 run_loadAt_mid w B 0 41 (fq aD ba bl bc z a len cap s d hop n is).toList _ (fun j v hv=>by rw[Nat.zero_add,p.cellAt];simpa using hv) underlying41 rfl (by kernel_rfl)
theorem j3.pre{w:World}{G:Nat}{g':GS}{O:Nat->Prop}{W W1 W':World}(h:j3 w G g' O W1 W')(hb:Below W.heap.size W W1):j3 w G g' O W W':=by obtain⟨a,b,d,e⟩:=h;have hs:=hb.size;exact⟨a,b,fun k hk=>(d k hk).elim .inl (fun h=>.inr (by omega)),aL.trans (aL.of hb) e (fun k hk=>.inl hk)⟩
attribute [local go_sem ↓] zD rU
end
section
theorem dK.len{g:GS}(h:dK g):g.bk.length<=8:=(yY h.2.2.2.2.2.2).1
end
section
open Go.ChangeShapes Go.WideShapes Go.Deep Go.RowKit
theorem JJ{H:Type}{enc:TypeId×Value->H}{W:World}{base:Nat}{held:Bool}{n:Nat}{cs:List Value}{y:DataW H×List MemPlace}(h:DataW.trod enc prog W base (fun _=>true) held n 41 cs=some y): ∃aD ba bl bc bs z a len cap D s d hop m is,cs=(fq aD ba bl bc z a len cap s d hop m is).toList∧kS .u8 W ba bl bc bs∧aj W a len cap D∧pR m:=by
 have N:=underlying41;obtain⟨xs,m,_,_,hl,f,b⟩:=DataW.trod_struct N h;have e:=V7;rw[N] at e;replace e:=Option.some.inj e;have c1:prog.cellsOf 3 = 1:=by kernel_rfl
 have U:prog.cellsOf 37 = 1:=by kernel_rfl
 have c8:prog.cellsOf 39 = 8:=by kernel_rfl
 have c6:prog.cellsOf 23 = 8:=by kernel_rfl
 have cl:prog.cellsOf 4 = 1:=by kernel_rfl
 have O:prog.cellsOf 41 = 29:=by kernel_rfl
 rw[O] at hl;obtain⟨y0,g0⟩:=jL (k:=0) e f b _ _ rfl;obtain⟨y1,L⟩:=jL (k:=1) e f b _ _ rfl;obtain⟨y2,P⟩:=jL (k:=2) e f b _ _ rfl;obtain⟨y3,Q⟩:=jL (k:=3) e f b _ _ rfl;obtain⟨y4,g4⟩:=jL (k:=4) e f b _ _ rfl;obtain⟨jG,R⟩:=jL (k:=5) e f b _ _ rfl;obtain⟨y6,g6⟩:=jL (k:=6) e f b _ _ rfl;obtain⟨mR,S⟩:=jL (k:=7) e f b _ _ rfl;rw[c1] at g0 R g6;rw[U] at L;rw[c8] at P;rw[c6] at Q g4;rw[cl] at S;obtain⟨V,X,_,_⟩:=DataW.trod_int underlying3 g0;obtain⟨Y,Z,_,_⟩:=DataW.trod_int underlying3 R;obtain⟨x6,e6,_,w6⟩:=DataW.trod_int underlying3 g6;obtain⟨x7,e7,_⟩:=DataW.trod_bool underlying4 S;obtain⟨v1,T⟩:=IB (cs:=cs) (o:=1) (by omega);rw[T] at L;obtain⟨ba,bl,bc,bs,rfl,M⟩:=Iz underlying37 underlying5 (by kernel_rfl) (fun _=>rfl) L;obtain⟨z,a,len,cap,D,g,hD⟩:=TM P;have hs:=F7 Q;have hd:=F7 g4;obtain⟨s0,p,_⟩:=hs.2 0 (by omega);rw[gM (by omega)] at p;obtain⟨s1,q,_⟩:=hs.2 1 (by omega);rw[gM (by omega)] at q;obtain⟨s2,r,_⟩:=hs.2 2 (by omega);rw[gM (by omega)] at r;obtain⟨s3,t,_⟩:=hs.2 3 (by omega);rw[gM (by omega)] at t;obtain⟨s4,v,_⟩:=hs.2 4 (by omega);rw[gM (by omega)] at v;obtain⟨s5,w,_⟩:=hs.2 5 (by omega);rw[gM (by omega)] at w;obtain⟨s6,x,_⟩:=hs.2 6 (by omega);rw[gM (by omega)] at x;obtain⟨s7,A,_⟩:=hs.2 7 (by omega);rw[gM (by omega)] at A;obtain⟨d0,B,_⟩:=hd.2 0 (by omega);rw[gM (by omega)] at B;obtain⟨d1,C,_⟩:=hd.2 1 (by omega);rw[gM (by omega)] at C;obtain⟨d2,E,_⟩:=hd.2 2 (by omega);rw[gM (by omega)] at E;obtain⟨d3,F,_⟩:=hd.2 3 (by omega);rw[gM (by omega)] at F;obtain⟨d4,G,_⟩:=hd.2 4 (by omega);rw[gM (by omega)] at G;obtain⟨d5,I,_⟩:=hd.2 5 (by omega);rw[gM (by omega)] at I;obtain⟨d6,J,_⟩:=hd.2 6 (by omega);rw[gM (by omega)] at J;obtain⟨d7,K,_⟩:=hd.2 7 (by omega);rw[gM (by omega)] at K;refine⟨V,ba,bl,bc,bs,z,a,len,cap,D,[s0,s1,s2,s3,s4,s5,s6,s7],[d0,d1,d2,d3,d4,d5,d6,d7],Y,x6,x7,List.ext_getElem? fun i=>?_,M,hD,F6 w6⟩;by_cases hi:i<29
 ·rcases (by omega:i=0∨i=1∨i=2∨i=3∨i=4∨i=5∨i=6∨i=7∨i=8∨i=9∨i=10∨i=11∨i=12∨i=13∨i=14∨i=15∨i=16∨i=17∨i=18∨i=19∨i=20∨i=21∨i=22∨i=23∨i=24∨i=25∨i=26∨i=27∨i=28) with rfl|rfl|rfl|rfl|rfl|rfl|rfl|rfl|rfl|rfl|rfl|rfl|rfl|rfl|rfl|rfl|rfl|rfl|rfl|rfl|rfl|rfl|rfl|rfl|rfl|rfl|rfl|rfl|rfl
  ·exact kT X
  ·exact kT T
  ·have:=congrArg (fun l=>l[0]?) g;rw[gM (by omega)] at this;exact this
  ·have:=congrArg (fun l=>l[1]?) g;rw[gM (by omega)] at this;exact this
  ·have:=congrArg (fun l=>l[2]?) g;rw[gM (by omega)] at this;exact this
  ·have:=congrArg (fun l=>l[3]?) g;rw[gM (by omega)] at this;exact this
  ·have:=congrArg (fun l=>l[4]?) g;rw[gM (by omega)] at this;exact this
  ·have:=congrArg (fun l=>l[5]?) g;rw[gM (by omega)] at this;exact this
  ·have:=congrArg (fun l=>l[6]?) g;rw[gM (by omega)] at this;exact this
  ·have:=congrArg (fun l=>l[7]?) g;rw[gM (by omega)] at this;exact this
  ·exact p
  ·exact q
  ·exact r
  ·exact t
  ·exact v
  ·exact w
  ·exact x
  ·exact A
  ·exact B
  ·exact C
  ·exact E
  ·exact F
  ·exact G
  ·exact I
  ·exact J
  ·exact K
  ·exact kT Z
  ·exact kT e6
  ·exact kT e7
 ·rw[List.getElem?_eq_none (by omega),List.getElem?_eq_none (by show 29<=i;omega)]
def rV(a:Option Addr)(n:Nat)(w:World):Prop:=0<n->∃g off,a=some ⟨g,off,none⟩∧∀k,k<n->∃aD ba bl bc bs z x l c zs s d hop m is,w.rangeAt g (off+k*29) (fq aD ba bl bc z x l c s d hop m is).toList∧(aj w ba bl bc bs∧bl<=bc∧bc<=maxLen)∧aj w x l c zs∧pR m
theorem rV.below{a:Option Addr}{n:Nat}{w w':World}(h:rV a n w)(hb:Below w.heap.size w w'):rV a n w':=by intro hp;obtain⟨g,b,e,i⟩:=h hp;refine⟨g,b,e,fun k hk=>?_⟩;obtain⟨aD,o,bl,p,bs,z,x,l,c,q,s,d,hop,m,is,r,f,t,h4⟩:=i k hk;exact⟨aD,o,bl,p,bs,z,x,l,c,q,s,d,hop,m,is,Dx r hb,⟨f.1.below hb,f.2⟩,t.below hb,h4⟩
theorem Wq{H:Type}{enc:TypeId×Value->H}{W:World}{base:Nat}{held:Bool}{b0:Nat}{v:Value}{x:DataW H}{p:List MemPlace}(h:Value.okWide prog W .any b0 27 v)(ht:DataW.Trod enc prog W base (fun _=>true) held 27 v x p): ∃a len cap,v=.slice a len cap∧len<=maxLen∧rV a len W:=by
 obtain⟨a,len,cap,rfl⟩:=okWide_slice underlying27 h;obtain⟨E,F⟩:=ht;rcases open_slice underlying27 F with⟨hcs,_⟩|⟨a',len',cap',m,n,D,Pl,hcs,hb,hl,hm,hmm,_,hx⟩
 ·simp[Value.cells] at hcs;obtain⟨rfl,rfl,rfl⟩:=hcs;exact⟨none,0,0,rfl,Nat.zero_le _,fun h=>absurd h (by simp)⟩
 ·simp[Value.cells] at hcs;obtain⟨rfl,rfl,rfl⟩:=hcs;have t:prog.cellsOf 41 = 29:=by kernel_rfl
  rw[t] at hx;have K:len<=m:=by rw[hmm];split<;>omega
  refine⟨some a',len,cap,rfl,by omega,fun hp=>?_⟩;obtain⟨b,f,g⟩:=a';have o:g=none:=by
   obtain⟨w,q,r⟩:=hx 0 (by omega);obtain⟨aD,y,bl,A,bs,z,x,l,c,B,s,d,hop,C,is,rfl,_⟩:=JJ r;obtain⟨_,_,e⟩:=World.cells?_some q;have:=e 0 (by omega);rw[add_add] at this;have g0:W.cell? ((⟨b,f,g⟩:Addr).add (0*29+0))=some (.int .i64 aD):=by rw[this];rfl
   simpa [Addr.add] using World.cell?_spot g0
  subst o;refine⟨b,f,rfl,fun k hk=>?_⟩;obtain⟨w,q,r⟩:=hx k (by omega);obtain⟨aD,y,bl,A,bs,z,x,l,c,B,s,d,hop,C,is,rfl,i,G,I⟩:=JJ r;refine⟨aD,y,bl,A,bs.take bl,z,x,l,c,B,s,d,hop,C,is,fun j v hv=>?_,⟨i.dw,?_⟩,G,I⟩;rotate_left
  ·rcases i with⟨_,rfl,rfl,rfl⟩|⟨_,_,q1,q2,_⟩
   ·exact⟨Nat.le_refl _,Nat.zero_le _⟩
   ·exact⟨q1,q2⟩
  obtain⟨_,_,e⟩:=World.cells?_some q;have J:j<29:=(List.getElem?_eq_some_iff.1 hv).1;have:=e j J;rw[add_add,jQ,hv] at this;rw[show f+k*29+j=f+(k*29+j) by omega];exact this
end
section
theorem row_step{w:World}{g o:Nat}{aD:Int}{ba:Option Addr}{bl bc:Nat}{z:List Int}{a:Option Addr}{len cap:Nat}{s d:List Int}{hop n:Int}{is:Bool}(h:w.rangeAt g o (fq aD ba bl bc z a len cap s d hop n is).toList):(vR (.pointer (some ⟨g,o,none⟩))).run prog w=.ok (.agg (fq aD ba bl bc z a len cap s d hop n is)) w :=
 run_loadAt_mid w g o 41 _ _ (fun j v hv=>h j v hv) underlying41 rfl (by kernel_rfl)
end
end Go.Proofs.YtgcojnlngchllaaGreatDoor
