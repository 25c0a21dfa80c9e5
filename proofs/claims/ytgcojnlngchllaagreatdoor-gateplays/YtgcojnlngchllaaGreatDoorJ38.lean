import Derived.Test.YtgcojnlngchllaaGreatDoorJ37
import Derived.Test.YtgcojnlngchllaaGreatDoorJ30
import Derived.Test.YtgcojnlngchllaaGreatDoorJ31
namespace Go.Proofs.YtgcojnlngchllaaGreatDoor
open Go.RowKit Tryz
set_option linter.unusedVariables false
set_option maxRecDepth 100000
set_option maxHeartbeats 40000000
section
variable {B cap:Nat}{a:Option Addr}{w:World}
theorem Vd(m:Int)(B n:Nat)(l:List Int)(w:World)(hn:l.length=n)(hm:n<=1000)(hc:Ints B l w): Calls prog 71 #[.int .i64 m,.slice (some ⟨B,0,none⟩) n n] w fun e w'=>e=.returned (.bool (iL m l))∧w'=w:=by
 have a:=ki (Au m l);have o:=ki hc;have d:=ki hn;clear hc;generalize iL m l=u at a⊢;go_enter func71,ntmps71;go_wp2;go_loop [9] (fun t=>∃k:Nat,k<=n∧Hid (∀i,i<k->fB m (l.getD i 0)=true)∧t=.int .i64 k) (fun t=>n-(intOf t).toNat)
 case atStart=>exact⟨0,by omega,fun i hi=>absurd hi (by omega),rfl⟩
 case round =>
  obtain⟨k,p,HI,rfl⟩:=hrel;by_cases hlt:k<n
  ·have g:=o.o.cell k (by omega);generalize gQ:l.getD k 0=z at g;have f:=ki gQ;clear gQ hn;by_cases hz0:z<0
   ·go_wp2;go_ret;exact⟨congrArg (fun b=>Ending.returned (.bool b)) (Eq.symm (Bool.eq_false_iff.2 fun h=>by have:=(jT _ _).1 (a.o.1 h k (by rw[d.o];exact hlt));rw[f.o] at this;omega)),rfl⟩
   ·by_cases hz1:m<z
    ·go_wp2;go_ret;exact⟨congrArg (fun b=>Ending.returned (.bool b)) (Eq.symm (Bool.eq_false_iff.2 fun h=>by have:=(jT _ _).1 (a.o.1 h k (by rw[d.o];exact hlt));rw[f.o] at this;omega)),rfl⟩
    ·go_wp2;go_round
     case rel=>exact⟨k+1,by omega,fun i hi=>if h:i=k then by subst h;rw[f.o];exact(jT _ _).2 ⟨by omega,by omega⟩ else HI.o i (by omega),by go_num⟩
     case measure=>simp[intOf];omega
  ·go_wp2;go_ret;obtain rfl:k=n:=by omega
   exact⟨congrArg (fun b=>Ending.returned (.bool b)) (Eq.symm (a.o.2 fun i hi=>HI.o i (by rw[<-d.o];exact hi))),rfl⟩
theorem yS{n:Int}(h:n≠0):ev n=err n:=if_neg h
theorem Ck(m x:Int)(W:World):Calls prog 71 #[.int .i64 m,.slice (some ⟨W.heap.size,0,none⟩) 1 1] (W.alloc (.cells #[.int .i64 x] 3)) fun e w'=>e=.returned (.bool (fB m x))∧Below W.heap.size W w' :=
 (Vd m W.heap.size 1 [x] _ rfl (by omega) (jo W [x])).mono fun e w' ⟨h1,h2⟩=>⟨h1.trans (by rw[show iL m [x]=fB m x by unfold iL;simp]),by rw[h2];exact au _ _⟩
def jY(c:List Int)(bk:List (List Int))(pf:Int):Int :=
 if s6 (dA c)=false then 1 else if wd (el c 8)=false then 1 else if pf≠0 then pf else if fr (el c 18)=false then 1
 else if ¬(fB 2147483647 (el c 19)=true∧1<=el c 20∧el c 20<=16) then 1 else if (dz bk).2≠0 then (dz bk).2
 else if aQ.eT (dA c) (pfx c) (el c 17)=true then 2 else 0
def dQ(B:Nat)(c:List Int)(inj:Bool)(a:Option Addr)(n cap:Nat)(w:World):Prop:=w.heap[B]? = some (.cells (dh c inj a n cap) 26 (0,0))
theorem dQ.lt{c:List Int}{inj:Bool}{n:Nat}(p:dQ B c inj a n cap w):B<w.heap.size:=(Array.getElem?_eq_some_iff.1 p).1
theorem dQ.kept{c:List Int}{inj:Bool}{n:Nat}{w':World}(p:dQ B c inj a n cap w)(hb:Below w.heap.size w w'):dQ B c inj a n cap w':=(hb.block B p.lt).trans p
theorem qw(w:World)(c:List Int)(inj:Bool)(a:Option Addr)(n cap:Nat):dQ w.heap.size c inj a n cap (w.alloc (.cells (dh c inj a n cap) 26)):=heap_alloc_new w _
theorem dQ.cellAt{c:List Int}{inj:Bool}{n:Nat}(p:dQ B c inj a n cap w)(j:Nat):w.cell? ⟨B,j,none⟩=(dh c inj a n cap)[j]?:=cell_of_row w B j _ _ _ p
theorem dQ.c8{c:List Int}{inj:Bool}{n:Nat}(p:dQ B c inj a n cap w):w.cell? ⟨B,8,none⟩=some (.int .i64 (el c 8)):=p.cellAt 8
theorem dQ.c17{c:List Int}{inj:Bool}{n:Nat}(p:dQ B c inj a n cap w):w.cell? ⟨B,17,none⟩=some (.int .i64 (el c 17)):=p.cellAt 17
theorem dQ.c18{c:List Int}{inj:Bool}{n:Nat}(p:dQ B c inj a n cap w):w.cell? ⟨B,18,none⟩=some (.int .i64 (el c 18)):=p.cellAt 18
theorem dQ.c19{c:List Int}{inj:Bool}{n:Nat}(p:dQ B c inj a n cap w):w.cell? ⟨B,19,none⟩=some (.int .i64 (el c 19)):=p.cellAt 19
theorem dQ.c20{c:List Int}{inj:Bool}{n:Nat}(p:dQ B c inj a n cap w):w.cell? ⟨B,20,none⟩=some (.int .i64 (el c 20)):=p.cellAt 20
theorem dQ.kP{c:List Int}{inj:Bool}{n:Nat}(p:dQ B c inj a n cap w):w.cell? ⟨B,22,none⟩=some (.slice a n cap):=p.cellAt 22
theorem dQ.hv{c:List Int}{inj:Bool}{n:Nat}(p:dQ B c inj a n cap w):(hload (.pointer (some ⟨B,0,none⟩))).run prog w=.ok (.agg (av (dA c))) w :=
 run_loadAt_mid w B 0 23 _ _ (fun j v hv=>by have hj:j<8:=(List.getElem?_eq_some_iff.1 hv).1;rw[Nat.zero_add,p.cellAt];rcases (by omega:j=0∨j=1∨j=2∨j=3∨j=4∨j=5∨j=6∨j=7) with rfl|rfl|rfl|rfl|rfl|rfl|rfl|rfl<;>exact hv) underlying23 rfl (by kernel_rfl)
theorem dQ.hp{c:List Int}{inj:Bool}{n:Nat}(p:dQ B c inj a n cap w):(hload (.pointer (some ⟨B,9,none⟩))).run prog w=.ok (.agg (av (pfx c))) w :=
 run_loadAt_mid w B 9 23 _ _ (fun j v hv=>by have hj:j<8:=(List.getElem?_eq_some_iff.1 hv).1;rw[p.cellAt];rcases (by omega:j=0∨j=1∨j=2∨j=3∨j=4∨j=5∨j=6∨j=7) with rfl|rfl|rfl|rfl|rfl|rfl|rfl|rfl<;>exact hv) underlying23 rfl (by kernel_rfl)
theorem Ve(p:List Int)(n k:Int)(w:World)(h:aQ.PF p n k):Calls prog 72 #[.agg (av p),.int .i64 n] w fun e w'=>e=.returned (ev k)∧Below w.heap.size w w':=aQ.Oa p n k w h
theorem Vf(a p:List Int)(n:Int)(w:World)(ha:aH a)(hp:aH p)(h0:0<=n)(h1:n<=128):Calls prog 75 #[.agg (av a),.agg (av p),.int .i64 n] w fun e w'=>e=.returned (.tuple #[.bool (aQ.eT a p n),.nilIface])∧Below w.heap.size w w':=aQ.FJ a p n w ha hp h0 h1
theorem rF{p:List Int}{n:Int}(h:aQ.PF p n 0):aH p∧0<=n∧n<=128∧aQ.eY n:=by
 rcases h with⟨_,h⟩|⟨_,_,h⟩|⟨_,_,_,h⟩|⟨h1,h2,_,_⟩
 ·cases h
 ·cases h
 ·cases h
 ·refine⟨h1,?_,?_,h2⟩<;>unfold aQ.eY at h2<;>omega
attribute [local go_sem ↓] gy
theorem Vg(c:List Int)(inj:Bool)(a:Option Addr)(cap:Nat)(bk:List (List Int))(pf:Int)(w:World)(hb:fM a bk w)(hl:bk.length<=maxLen)(hc:bk.length<=cap)(hp:aQ.PF (pfx c) (el c 17) pf): Calls prog 27 #[.agg (dh c inj a bk.length cap)] w fun e w'=>e=.returned (ev (jY c bk pf))∧Below w.heap.size w w':=by
 have f:=ki (qw w c inj a bk.length cap);have b:=ki (au w (.cells (dh c inj a bk.length cap) 26));have B:=ki (fun W=>Aw (dA c) W);have o:=ki (fun x m W=>Ck m x W);have v:=ki (fun W=>Ve (pfx c) (el c 17) pf W hp);have t:=ki (fun W=>xu (el c 18) W);have k:=ki (fun W (hW:Below w.heap.size w W)=>AA a cap bk W (hb.below hW) hl hc);have l:=ki (fun (h1:s6 (dA c)=true) (h0:pf=0) W=>Vf (dA c) (pfx c) (el c 17) W ((fE _).1 h1) (rF (h0 ▸ hp)).1 (rF (h0 ▸ hp)).2.1 (rF (h0 ▸ hp)).2.2.1);obtain⟨R,hR⟩:∃R,R=jY c bk pf:=⟨_,rfl⟩;rw[<-hR];unfold jY at hR;clear hb hl hc hp;go_enter func27,ntmps27;go_upto_region 1 with fail
 generalize w.alloc _=W0 at f b⊢;have y:=f.o.hv;cases hs:s6 (dA c)
 ·rw[hs,show ev (fe false)=err 1 from rfl] at B;rw[if_pos hs] at hR;have g:=ki hR;unfold err at B;clear hR o v t k l;go_wp2_with (go_at_call 70;refine(B.o _).mono ?_;rintro e H ⟨rfl,p⟩;replace b:=ki (bt b.o p);clear p)
  go_ret;exact⟨by rw[g.o];rfl,b.o⟩
 rw[hs,show ev (fe true)=.nilIface from rfl] at B;rw[if_neg (by rw[hs];decide)] at hR;replace l:=ki (l.o hs);have d:=ki hR;clear hs hR;go_upto_region 4 with(go_at_call 70;refine(B.o _).mono ?_;rintro e H ⟨rfl,p⟩;replace f:=ki (f.o.kept p);replace b:=ki (bt b.o p);clear p y)
 clear B;have y:=f.o.c8;have z:fB 65535 (el c 8)=wd (el c 8):=rfl;cases hd:wd (el c 8)
 ·rw[hd] at z;have g:=ki (show R=1 by rw[d.o,if_pos hd]);clear d v t k l hd;go_wp2_with (go_at_call 71;refine(o.o (el c 8) 65535 _).mono ?_;rintro e I ⟨rfl,q⟩;replace b:=ki (bt b.o q);rw[z];clear q y)
  go_ret;exact⟨by rw[g.o];rfl,b.o⟩
 rw[hd] at z;replace d:=ki (show R=_ by rw[d.o,if_neg (by rw[hd];decide)]);clear hd;go_upto_region 6 with(go_at_call 71;refine(o.o (el c 8) 65535 _).mono ?_;rintro e I ⟨rfl,q⟩;replace f:=ki (f.o.kept q);replace b:=ki (bt b.o q);rw[z];clear q y)
 clear z;have y:=f.o.hp;have n:=f.o.c17;by_cases hpf:pf=0;case neg =>
  have g:=ki (show R=pf by rw[d.o,if_pos hpf]);have F:=ki (yS hpf);rw[yS hpf] at v;unfold err at v;clear d o t k l hpf;go_wp2_with (go_at_call 72;refine(v.o _).mono ?_;rintro e J ⟨rfl,r⟩;replace b:=ki (bt b.o r);clear r y n)
  go_ret;exact⟨by rw[g.o,F.o];rfl,b.o⟩
 replace d:=ki (show R=_ by rw[d.o,if_neg (fun h=>h hpf)]);replace l:=ki (l.o hpf);rw[hpf,show ev 0=.nilIface from rfl] at v;clear hpf;go_upto_region 9 with(go_at_call 72;refine(v.o _).mono ?_;rintro e J ⟨rfl,r⟩;replace f:=ki (f.o.kept r);replace b:=ki (bt b.o r);clear r y n)
 clear v;have y:=f.o.c18;cases hn:fr (el c 18)
 ·rw[hn,show ev (fe false)=err 1 from rfl] at t;have g:=ki (show R=1 by rw[d.o,if_pos hn]);unfold err at t;clear d o k l hn;go_wp2_with (go_at_call 73;refine(t.o _).mono ?_;rintro e K ⟨rfl,rfl⟩)
  go_ret;exact⟨by rw[g.o];rfl,b.o⟩
 rw[hn,show ev (fe true)=.nilIface from rfl] at t;replace d:=ki (show R=_ by rw[d.o,if_neg (by rw[hn];decide)]);clear hn;go_upto_region 12 with(go_at_call 73;refine(t.o _).mono ?_;rintro e K ⟨rfl,rfl⟩)
 clear t y;have y:=f.o.c19;have n:=f.o.c20;by_cases hq:fB 2147483647 (el c 19)=true∧1<=el c 20∧el c 20<=16;case neg =>
  have g:=ki (show R=1 by rw[d.o,if_pos hq]);clear d k l;cases A:fB 2147483647 (el c 19)
  ·clear hq;go_wp2_with (go_at_call 71;refine(o.o (el c 19) 2147483647 _).mono ?_;rintro e G ⟨rfl,i⟩;replace b:=ki (bt b.o i);rw[A];clear i)
   go_ret;exact⟨by rw[g.o];rfl,b.o⟩
  ·by_cases h1:el c 20<1
   ·clear hq;go_wp2_with (go_at_call 71;refine(o.o (el c 19) 2147483647 _).mono ?_;rintro e G ⟨rfl,i⟩;replace f:=ki (f.o.kept i);replace b:=ki (bt b.o i);rw[A];clear i y n;have n:=f.o.c20)
    go_ret;exact⟨by rw[g.o];rfl,b.o⟩
   ·have N:16<el c 20:=Classical.byContradiction fun h=>hq ⟨A,by omega,by omega⟩
    clear hq;go_wp2_with (go_at_call 71;refine(o.o (el c 19) 2147483647 _).mono ?_;rintro e G ⟨rfl,i⟩;replace f:=ki (f.o.kept i);replace b:=ki (bt b.o i);rw[A];clear i y n;have n:=f.o.c20)
    go_ret;exact⟨by rw[g.o];rfl,b.o⟩
 obtain⟨A,C,D⟩:=hq;replace d:=ki (show R=_ by rw[d.o,if_neg (fun h=>h ⟨A,C,D⟩)]);go_upto_region 14 with(go_at_call 71;refine(o.o (el c 19) 2147483647 _).mono ?_;rintro e G ⟨rfl,i⟩;replace f:=ki (f.o.kept i);replace b:=ki (bt b.o i);rw[A];clear i y n;have n:=f.o.c20)
 clear A C D o n;have y:=f.o.kP;generalize dz bk=Q at k d;by_cases hk:Q.2=0;case neg =>
  have g:=ki (show R=Q.2 by rw[d.o,if_pos hk]);have F:=ki (yS hk);rw[yS hk] at k;unfold err at k;clear d l hk;go_wp2_with (go_at_call 74;refine(k.o _ b.o).mono ?_;rintro e L ⟨rfl,s⟩;replace b:=ki (bt b.o s);clear s y)
  go_ret;exact⟨by rw[g.o,F.o];rfl,b.o⟩
 replace d:=ki (show R=_ by rw[d.o,if_neg (fun h=>h hk)]);rw[hk,show ev 0=.nilIface from rfl] at k;clear hk;go_upto_region 17 with(go_at_call 74;refine(k.o _ b.o).mono ?_;rintro e L ⟨rfl,s⟩;replace f:=ki (f.o.kept s);replace b:=ki (bt b.o s);clear s y)
 clear k;have y:=f.o.hv;have n:=f.o.hp;have M:=f.o.c17;cases hI:aQ.eT (dA c) (pfx c) (el c 17);all_goals
  rw[hI] at l;have g:=ki (show R=_ by rw[d.o,hI]);clear d hI;go_wp2_with (go_at_call 75;refine(l.o _).mono ?_;rintro e O ⟨rfl,E⟩;replace b:=ki (bt b.o E);clear E y n M)
  go_ret;exact⟨by rw[g.o];rfl,b.o⟩
end
section
variable {B cap n:Nat}{w:World}
theorem Vh(w:World):iD w.heap.size (w.alloc (.cells #[] 77)) (.slice (some ⟨w.heap.size,0,none⟩) 0 0) []:=World.ownsRow_made w #[] 0 (Nat.le_refl _) (Nat.zero_le _) rfl
theorem Js{ops:Array Oper}{rest:List Oper}{o:Oper}{a:Act}{Q:Exit->Act->World->Prop}(hgd:o.guard=none)(s x:Operand)(ho:o.op=.call { callee:=.builtin .append,args:=#[s,x],argTypes:=#[24,24] })(base:Nat)(v:Value)(l:List (List Int))(hs:a.eval s=v)(hown:iD base w v l)(ad:Addr)(c:Nat)(hx:a.eval x=.slice (some ad) 0 c)(hlen:l.length<=1000000)(hbase:base<=w.heap.size)(h:∀v' w',iD base w' v' l->w.grownBy w' v.ownBlock->wpList prog ops Q rest (a.put o.dst v') w'):wpList prog ops Q (o::rest) a w:=by
 obtain⟨i,k,e,f,g⟩:=info_parts Aq;have b:w.ownsRow base 77 6 v l.length (kvs l):=hown;refine wpList_append_own_at _ hgd s x 24 ho base 77 i _ 6 40 underlying24 k e f g rfl (by decide) v l.length (kvs l) hs b ad 0 c [] hx rfl ?_ ?_ (by unfold maxLen;omega) (by omega) hbase ?_
 ·intro j u d;simp at d
 ·intro u d;simp at d
 ·intro v' w' n p _ q;refine h v' w' ?_ p;unfold iD;simpa using n
def tL(x:Value):Sem Value:=Instr.loadAt 26 x
theorem rU(x:Value):Instr.loadAt 26 x=tL x:=rfl
theorem dQ.cl{c:List Int}{inj:Bool}{a:Option Addr}(p:dQ B c inj a n cap w):(tL (.pointer (some ⟨B,0,none⟩))).run prog w=.ok (.agg (dh c inj a n cap)) w :=
 run_loadAt_mid w B 0 26 (dh c inj a n cap).toList _ (fun j v hv=>by rw[Nat.zero_add,p.cellAt];simpa using hv) underlying26 rfl (by kernel_rfl)
def Jt(ps:Array (Nat×Value)):Sem Value:=Instr.build 80 ps
theorem Ju(ps:Array (Nat×Value)):Instr.build 80 ps=Jt ps:=rfl
theorem Vi(c:List Int)(inj:Bool)(a:Option Addr)(n cap:Nat)(tv:Value)(ht:∃T,tv=.pointer (some ⟨T,0,none⟩))(S:Nat)(w:World):(Jt #[(0,.agg (dh c inj a n cap)),(1,tv),(2,.map (some S))]).run prog w=.ok (.agg (qb c inj a n cap tv S 0)) w:=by obtain⟨T,rfl⟩:=ht;kernel_rfl
theorem dQ.aZ{c:List Int}{inj:Bool}{a:Option Addr}(p:dQ B c inj a n cap w)(j:Nat):w.frozen? ⟨B,j,none⟩=false:=by unfold dQ at p;simp[World.frozen?,p]
theorem dQ.yx{c:List Int}{inj:Bool}{a:Option Addr}(p:dQ B c inj a n cap w)(a':Option Addr)(n' cap':Nat):dQ B c inj a' n' cap' (w.setCell ⟨B,22,none⟩ (.slice a' n' cap'))∧Only B w (w.setCell ⟨B,22,none⟩ (.slice a' n' cap')):=by rw[setCell_eq_setRow w B 22 _ _ (0,0) _ p];exact⟨setRow_heap w B _ _ _ (0,0) p,dS _ _ _⟩
attribute [local go_sem ↓] rU Ju
end
section
theorem Vj(p:List Int)(n k:Int)(w:World)(h:aQ.PF p n k):Calls prog 23 #[.agg (av p),.int .i64 n] w fun e w'=>e=.returned (.int .i64 k)∧Below w.heap.size w w':=aQ.TA p n k w h
theorem CP(a p:List Int)(n:Int)(w:World)(ha:aH a)(hp:aH p)(h0:0<=n)(h1:n<=128):Calls prog 26 #[.agg (av a),.agg (av p),.int .i64 n] w fun e w'=>e=.returned (.bool (aQ.eT a p n))∧Below w.heap.size w w':=aQ.TB a p n w ha hp h0 h1
attribute [local go_sem ↓] gy
theorem Vk(c:List Int)(inj:Bool)(a:Option Addr)(cap:Nat)(bk:List (List Int))(pf:Int)(w:World)(hb:fM a bk w)(hl:bk.length<=maxLen)(hp:aQ.PF (pfx c) (el c 17) pf): Calls prog 6 #[.agg (dh c inj a bk.length cap)] w fun e w'=>e=.returned (.int .i64 (jY c bk pf))∧Below w.heap.size w w':=by
 have g:=ki (qw w c inj a bk.length cap);have d:=ki (au w (.cells (dh c inj a bk.length cap) 26));have t:=ki (fun W=>qO (dA c) W);have q:=ki (fun W=>oq (el c 8) W);have r:=ki (fun W=>Vj (pfx c) (el c 17) pf W hp);have p:=ki (fun W=>xS (el c 18) W);have k:=ki (fun W (hW:Below w.heap.size w W)=>BP a cap bk W (hb.below hW) hl);have i:=ki (fun (h1:s6 (dA c)=true) (h0:pf=0) W=>CP (dA c) (pfx c) (el c 17) W ((fE _).1 h1) (rF (h0 ▸ hp)).1 (rF (h0 ▸ hp)).2.1 (rF (h0 ▸ hp)).2.2.1);obtain⟨R,hR⟩:∃R,R=jY c bk pf:=⟨_,rfl⟩;rw[<-hR];unfold jY at hR;clear hb hl hp;go_enter func6,ntmps6;go_upto_region 1 with fail
 generalize w.alloc _=W0 at g d⊢;have y:=g.o.hv;cases hs:s6 (dA c)
 ·rw[hs,show fe false=1 from rfl] at t;rw[if_pos hs] at hR;have f:=ki hR;clear hR q r p k i;go_wp2_with (go_at_call 21;refine(t.o _).mono ?_;rintro e G ⟨rfl,l⟩;replace d:=ki (bt d.o l);clear l)
  go_ret;exact⟨by rw[f.o];rfl,d.o⟩
 rw[hs,show fe true=0 from rfl] at t;rw[if_neg (by rw[hs];decide)] at hR;replace i:=ki (i.o hs);have b:=ki hR;clear hs hR;go_upto_region 4 with(go_at_call 21;refine(t.o _).mono ?_;rintro e G ⟨rfl,l⟩;replace g:=ki (g.o.kept l);replace d:=ki (bt d.o l);clear l y)
 clear t;have y:=g.o.c8;cases hd:wd (el c 8)
 ·rw[hd] at q;have f:=ki (show R=1 by rw[b.o,if_pos hd]);clear b r p k i hd;go_wp2_with (go_at_call 22;refine(q.o _).mono ?_;rintro e H ⟨rfl,rfl⟩)
  go_ret;exact⟨by rw[f.o];rfl,d.o⟩
 rw[hd] at q;replace b:=ki (show R=_ by rw[b.o,if_neg (by rw[hd];decide)]);clear hd;go_upto_region 7 with(go_at_call 22;refine(q.o _).mono ?_;rintro e H ⟨rfl,rfl⟩)
 clear q y;have y:=g.o.hp;have s:=g.o.c17;by_cases hpf:pf=0;case neg =>
  have f:=ki (show R=pf by rw[b.o,if_pos hpf]);have hn:(pf != 0)=true:=by simpa using hpf
  clear b p k i hpf;go_wp2_with (go_at_call 23;refine(r.o _).mono ?_;rintro e I ⟨rfl,n⟩;replace d:=ki (bt d.o n);clear n y s)
  go_ret;exact⟨by rw[f.o];rfl,d.o⟩
 replace b:=ki (show R=_ by rw[b.o,if_neg (fun h=>h hpf)]);replace i:=ki (i.o hpf);rw[hpf] at r;clear hpf;go_upto_region 10 with(go_at_call 23;refine(r.o _).mono ?_;rintro e I ⟨rfl,n⟩;replace g:=ki (g.o.kept n);replace d:=ki (bt d.o n);clear n y s)
 clear r;have y:=g.o.c18;have s:=g.o.c19;have A:=g.o.c20;cases hn:fr (el c 18)
 ·rw[hn] at p;have f:=ki (show R=1 by rw[b.o,if_pos hn]);clear b k i hn;go_wp2_with (go_at_call 24;refine(p.o _).mono ?_;rintro e J ⟨rfl,rfl⟩)
  go_ret;exact⟨by rw[f.o];rfl,d.o⟩
 rw[hn] at p;replace b:=ki (show R=_ by rw[b.o,if_neg (by rw[hn];decide)]);clear hn;go_upto_region 11 with(go_at_call 24;refine(p.o _).mono ?_;rintro e J ⟨rfl,rfl⟩)
 clear p y;by_cases hq:fB 2147483647 (el c 19)=true∧1<=el c 20∧el c 20<=16;case neg =>
  have f:=ki (show R=1 by rw[b.o,if_pos hq]);clear b k i;have C:el c 19<0∨(0<=el c 19∧2147483647<el c 19)∨(0<=el c 19∧el c 19<=2147483647∧el c 20<1)∨(0<=el c 19∧el c 19<=2147483647∧1<=el c 20∧16<el c 20):=by rw[jT] at hq;omega
  clear hq;rcases C with h|⟨h1,h2⟩|⟨h1,h2,h3⟩|⟨h1,h2,h3,h4⟩;all_goals
   go_wp2;go_ret;exact⟨by rw[f.o];rfl,d.o⟩
 obtain⟨B,v,x⟩:=hq;replace b:=ki (show R=_ by rw[b.o,if_neg (fun h=>h ⟨B,v,x⟩)]);have D:=(jT _ _).1 B;obtain⟨E,F⟩:=D;clear B;go_upto_region 13 with fail
 clear E F v x s A;have y:=g.o.kP;generalize dz bk=Q at k b;by_cases hk:Q.2=0;case neg =>
  have f:=ki (show R=Q.2 by rw[b.o,if_pos hk]);have hn:(Q.2 != 0)=true:=by simpa using hk
  clear b i hk;go_wp2_with (go_at_call 25;refine(k.o _ d.o).mono ?_;rintro e K ⟨rfl,o⟩;replace d:=ki (bt d.o o);clear o y)
  go_ret;exact⟨by rw[f.o];rfl,d.o⟩
 replace b:=ki (show R=_ by rw[b.o,if_neg (fun h=>h hk)]);rw[hk] at k;clear hk;go_upto_region 16 with(go_at_call 25;refine(k.o _ d.o).mono ?_;rintro e K ⟨rfl,o⟩;replace g:=ki (g.o.kept o);replace d:=ki (bt d.o o);clear o y)
 clear k;have y:=g.o.hv;have s:=g.o.hp;have A:=g.o.c17;cases hI:aQ.eT (dA c) (pfx c) (el c 17);all_goals
  rw[hI] at i;have f:=ki (show R=_ by rw[b.o,hI]);clear b hI;go_wp2_with (go_at_call 26;refine(i.o _).mono ?_;rintro e L ⟨rfl,z⟩;replace d:=ki (bt d.o z);clear z y s A)
  go_ret;exact⟨by rw[f.o];rfl,d.o⟩
theorem Vl{c:List Int}{bk:List (List Int)}{pf:Int}(h:jY c bk pf=0):pf=0∧1<=el c 20∧el c 20<=16∧(dz bk).2=0:=by
 unfold jY at h;split at h
 ·cases h
 split at h
 ·cases h
 split at h
 ·rename_i h1;exact absurd h h1
 rename_i hp;split at h
 ·cases h
 split at h
 ·cases h
 rename_i hq;split at h
 ·rename_i h1;exact absurd h h1
 rename_i hb;have a:=Classical.not_not.1 hq;exact⟨Classical.not_not.1 hp,a.2.1,a.2.2,Classical.not_not.1 hb⟩
end
section
theorem iD.Jv{base:Nat}{w:World}{v:Value}{bs:List (List Int)}(h:iD base w v bs):∃a cap,v=.slice a bs.length cap∧bs.length<=cap∧cap<=maxLen∧lM a bs w∧∀k,kH a k->base<=k∧k<w.heap.size:=by
 have f:w.ownsRow base 77 6 v bs.length (kvs bs):=h;rcases h.2 with⟨rfl,hn⟩|⟨g,cap,cur,rfl,h1,hg,hnc,hcm,_⟩
 ·exact⟨none,0,by rw[hn],by omega,Nat.zero_le _,fun hp=>by omega,fun k hk=>by obtain⟨b,e⟩:=hk;cases e⟩
 ·refine⟨_,cap,rfl,hnc,hcm,fun _=>⟨g,cur,_,rfl,hg,fun k hk j hj=>?_⟩,fun k hk=>?_⟩
  ·have d:=World.ownsRow.cellAt f (k*6+j) (by omega);rw[Ap bs k j hk hj,cell_of_row w g _ _ _ _ hg] at d;rw[Nat.mul_comm];rw[d];simp
  ·obtain⟨b,e⟩:=hk;injection e with e
   injection e with e _
   subst e;exact⟨h1,(Array.getElem?_eq_some_iff.1 hg).1⟩
def gZ(c:List Int)(inj:Bool)(bk:List (List Int))(m:Nat):GS:=((c,inj,bk),(m,fun _=>[],fun _=>false,[]),[],0)
theorem Vm(a:Option Addr)(cap:Nat)(bk:List (List Int))(w:World)(hb:fM a bk w)(hl:bk.length<=1000)(ha:a=none->bk=[]∧cap=0): Calls prog 29 #[.slice a bk.length cap] w fun e w'=>∃v,e=.returned v∧iD w.heap.size w' v bk∧Below w.heap.size w w':=by
 have q:=fun (w:World) (a:Option Addr) (n c n' c':Nat)=>Lib.run_eql_slice_nil (P:=prog) w 24 _ a n c n' c' underlying24
 cases a with
 | none =>obtain⟨rfl,rfl⟩:=ha rfl;clear hb hl ha;rw[List.length_nil];go_enter func29,ntmps29;go_wp2;go_ret;exact⟨_,rfl,iD.nil _ _,Below.refl _ _⟩
 | some ad =>
  have l:=ki (Vh w);have b:=ki (au w (.cells #[] 77));by_cases h0:bk=[]
  ·subst h0;clear hb hl ha;rw[List.length_nil];go_enter func29,ntmps29;go_wp2_with (at_builtin;refine Js rfl (.tmp 5) (.tmp 6) rfl w.heap.size _ [] rfl l.o ad cap rfl (by simp) (by simp) ?_;intro o w' d f;have p:=ki (show iD w.heap.size w' o [] from d);have r:=ki (b.o.grown f b.o.size (fun k e=>(cO l.o k e).2));clear d f)
   go_ret;exact⟨_,rfl,p.o,r.o⟩
  ·have h:0<bk.length:=List.length_pos_iff.2 h0;obtain⟨g,i,e,_⟩:=hb h;obtain rfl:ad=⟨g,i,none⟩:=Option.some.inj e;have s:=ki (show ∀j,j<bk.length->(w.alloc (.cells #[] 77)).rangeAt g (i+j*6) (bG (bk.getD j [])).toList from fun j hj=>by
    obtain⟨y,t,e,_,x⟩:=(hb.below (au w (.cells #[] 77))) (by omega);injection e with e
    injection e with e1 e2
    subst e1 e2;exact x j hj)
   clear hb ha h0 h e;go_enter func29,ntmps29;go_wp2_with (at_builtin;refine E8 rfl (.tmp 5) (.tmp 6) rfl w.heap.size _ [] rfl l.o g i bk.length cap bk rfl rfl s.o (by simp only[List.length_nil];omega) (by simp) ?_;intro o w' d f;have p:=ki (show iD w.heap.size w' o bk from d);have r:=ki (b.o.grown f b.o.size (fun k e=>(cO l.o k e).2));clear d f)
   go_ret;exact⟨_,rfl,p.o,r.o⟩
attribute [local go_sem ↓] rU Ju
theorem Vn(c:List Int)(inj:Bool)(a:Option Addr)(cap:Nat)(bk:List (List Int))(m:Nat)(w:World)(hb:fM a bk w)(hl:bk.length<=1000)(hc:bk.length<=cap)(ha:a=none->bk=[]∧cap=0)(hp:aQ.PF (pfx c) (el c 17) 0)(hR:jY c bk 0=0)(hm:el c 20=m)(h1:1<=m)(h2:m<=16): Calls prog 7 #[.agg (dh c inj a bk.length cap)] w fun e w'=>∃G a' cap' tv S ah,e=.returned (.tuple #[.pointer (some ⟨G,0,none⟩),.nilIface])∧GC G a' cap' tv S ah (fun _=>0) (gZ c inj bk m) w'∧(∀k,GO G a' ah (SO S (fun _=>0) []) k->w.heap.size<=k)∧Below w.heap.size w w':=by
 have b:=ki (qw w c inj a bk.length cap);have f:=ki (au w (.cells (dh c inj a bk.length cap) 26));have B:=ki (fun W (hW:Below w.heap.size w W)=>Vg c inj a cap bk 0 W (hb.below hW) (by unfold maxLen;omega) hc hp);rw[hR,show ev 0=.nilIface from rfl] at B;have I:=ki (fun W=>tu.2.2.1.2 m W h1 h2);have J:=ki (fun W (hW:Below w.heap.size w W)=>Vm a cap bk W (hb.below hW) hl ha);clear hb hl hc hp hR ha h1 h2;go_enter func7,ntmps7;go_upto_region 1 with fail
 generalize w.alloc _=W0 at b f⊢;have y:=b.o.cl;go_upto_region 4 with(go_at_call 27;refine(B.o _ f.o).mono ?_;rintro e w1 ⟨rfl,q⟩;replace b:=ki (b.o.kept q);replace f:=ki (bt f.o q);clear q y)
 clear B;have y:=b.o.c20;rw[hm] at y;have K:=ki b.o.lt;go_upto_region 7 with(go_at_call 28;refine(I.o _).mono ?_;rintro e C ⟨tv,ah,rfl,D,L,r⟩;replace b:=ki (b.o.kept r);replace f:=ki (bt f.o r);have t:=ki D;have v:=ki (show ∀k,ah k->w.heap.size<k∧k<C.heap.size from fun k hk=>⟨Nat.lt_of_lt_of_le K.o (L k hk),(fZ _ _ _ _ _ _ _ D).1 k hk⟩);clear r y D L)
 clear I K;have y:=b.o.kP;go_upto_region 8 with(go_at_call 29;refine(J.o _ f.o).mono ?_;rintro e E ⟨v3,rfl,M,n⟩;obtain⟨g,c3,rfl,N,O,P,Q⟩:=M.Jv;have l:=ki (And.intro N (And.intro O (And.intro P Q)));have z:=ki (show w.heap.size<C.heap.size from b.o.lt);replace b:=ki (b.o.kept n);replace f:=ki (bt f.o n);replace t:=ki ((fZ _ _ _ _ _ _ _ t.o).2 E n.size (fun k hk=>n.block k (v.o k hk).2));have p:=b.o.yx g bk.length c3;have Z:=b.o.kP;have z4:=b.o.aZ 22;clear n y M N O P Q)
 have s:=p.2.2.2.2.1;have o:=ki ((fZ _ _ _ _ _ _ _ t.o).2 _ (Nat.le_of_eq s.symm) (fun k hk=>p.2.2.2.2.2 k (by have:=(v.o k hk).1;omega)));have d:=ki (show bk.length<=c3∧c3<=maxLen∧lM g bk (E.setCell ⟨w.heap.size,22,none⟩ (.slice g bk.length c3))∧∀k,kH g k->C.heap.size<=k∧k<(E.setCell ⟨w.heap.size,22,none⟩ (.slice g bk.length c3)).heap.size from⟨l.o.1,l.o.2.1,l.o.2.2.1.same (fun k hk=>p.2.2.2.2.2 k (by have:=(l.o.2.2.2 k hk).1;have:=z.o;omega)),fun k hk=>by rw[s];exact l.o.2.2.2 k hk⟩);replace f:=ki (p.2.below f.o (Nat.le_refl _));replace b:=ki p.1;clear p s l t;clear Z z4 J;generalize World.setCell _ _ _=W4 at b f o d⊢;have y:=b.o.cl;have ae:=@run_makeMap prog;obtain⟨T,hT⟩:∃T,tv=.pointer (some ⟨T,0,none⟩):=by obtain⟨T,_,_,_,_,_,e,_⟩:=o.o;exact⟨T,e⟩
 subst hT;have af:=fun S W=>Vi c inj g bk.length c3 (.pointer (some ⟨T,0,none⟩)) ⟨T,rfl⟩ S W
 have F:=au W4 (.map #[] 0);have R:=ki (b.o.kept F);have y2:=R.o.cl;have H:=au (W4.alloc (.map #[] 0)) (.cells (qb c inj g bk.length c3 (.pointer (some ⟨T,0,none⟩)) W4.heap.size 0) 80);have HG:=ki (show bU (W4.heap.size+1) c inj g bk.length c3 (.pointer (some ⟨T,0,none⟩)) W4.heap.size 0 ((W4.alloc (.map #[] 0)).alloc (.cells (qb c inj g bk.length c3 (.pointer (some ⟨T,0,none⟩)) W4.heap.size 0) 80)) by have:=heap_alloc_new (W4.alloc (.map #[] 0)) (.cells (qb c inj g bk.length c3 (.pointer (some ⟨T,0,none⟩)) W4.heap.size 0) 80);rw[World.size_alloc] at this;exact this);have i:=bt F H;have U:=ki ((fZ _ _ _ _ _ _ _ o.o).2 _ i.size (fun k hk=>i.block k ((fZ _ _ _ _ _ _ _ o.o).1 k hk)));have V:=ki ((Bt iP W4).same (H.block _ (by rw[World.size_alloc];omega)));have X:=ki (show lM g bk _ from d.o.2.2.1.same (fun k hk=>i.block k (d.o.2.2.2 k hk).2));have Y:=ki (bt f.o i);have bX:=ki (show w.heap.size<=W4.heap.size from f.o.size);have HW:=ki (show W4.heap.size<((W4.alloc (.map #[] 0)).alloc (.cells (qb c inj g bk.length c3 (.pointer (some ⟨T,0,none⟩)) W4.heap.size 0) 80)).heap.size from by rw[World.size_alloc,World.size_alloc];omega);have A:=ki (show ∀k,ah k->k<W4.heap.size from fun k hk=>(fZ _ _ _ _ _ _ _ o.o).1 k hk);clear F H i;go_wp2;go_ret2;refine⟨_,g,c3,_,W4.heap.size,ah,rfl,⟨HG.o,⟨X.o,fun k hk=>Nat.lt_trans (d.o.2.2.2 k hk).2 HW.o,d.o.1,d.o.2.1⟩,U.o,⟨V.o,fun x hx=>absurd hx (by simp[GS.ss,gZ]),fun x hx=>absurd hx (by simp[GS.ss,gZ])⟩,⟨fun h=>?_,fun h=>?_,?_⟩,fun k hk=>⟨fun h=>?_,?_⟩,fun k hk=>?_⟩,?_,Y.o⟩
 ·have:=(d.o.2.2.2 _ h).2;omega
 ·have:=A.o _ h;omega
 ·rintro (h|⟨x,hx,_⟩)
  ·omega
  ·exact absurd hx (by simp[GS.ss,gZ])
 ·have:=(d.o.2.2.2 _ hk).1;have:=(v.o _ h).2;omega
 ·rintro (h|⟨x,hx,_⟩)
  ·have:=(d.o.2.2.2 _ hk).2;omega
  ·exact absurd hx (by simp[GS.ss,gZ])
 ·rintro (h|⟨x,hx,_⟩)
  ·have:=A.o _ hk;omega
  ·exact absurd hx (by simp[GS.ss,gZ])
 ·have hz:=bX.o;rintro k (h|h|h|h|⟨x,hx,_⟩)
  ·omega
  ·have:=(d.o.2.2.2 _ h).1;have:=z.o;omega
  ·have:=(v.o _ h).1;omega
  ·omega
  ·exact absurd hx (by simp)
theorem Vo(c:List Int)(inj:Bool)(bk:List (List Int))(m:Nat)(hm:m<=16):fJ (gZ c inj bk m):=⟨hm,Nat.zero_le _,dJ.start m,rfl,fun b hb=>absurd hb (by simp[GS.bs,gZ])⟩
theorem Vp(c:List Int)(inj:Bool)(bk:List (List Int))(m:Nat):eU (gZ c inj bk m):=fun x hx=>absurd hx (by simp[GS.ss,gZ])
theorem Vq{c:List Int}{inj:Bool}{bk:List (List Int)}{m:Nat}(hp:aQ.PF (pfx c) (el c 17) 0)(h:jY c bk 0=0):CI (gZ c inj bk m):=by
 have b:=rF hp;unfold jY at h;split at h
 ·cases h
 rename_i h1;split at h
 ·cases h
 split at h
 ·rename_i h4;exact absurd rfl h4
 split at h
 ·cases h
 rename_i h5;split at h
 ·cases h
 split at h
 ·rename_i h6;exact absurd h h6
 rename_i h6;have d:s6 (dA c)=true:=by cases hh:s6 (dA c);exact absurd hh h1;rfl
 have a:fr (el c 18)=true:=by cases hh:fr (el c 18);exact absurd hh h5;rfl
 refine⟨(fE _).1 d,b.1,b.2.2.2,?_,Classical.not_not.1 h6⟩;unfold fr at a;rw[Bool.and_eq_true,decide_eq_true_eq,decide_eq_true_eq] at a;exact decide_eq_true a
end
end Go.Proofs.YtgcojnlngchllaaGreatDoor
