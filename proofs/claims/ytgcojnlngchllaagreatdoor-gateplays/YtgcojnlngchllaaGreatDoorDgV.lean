import Derived.Test.YtgcojnlngchllaaGreatDoorJ46
namespace Go.Proofs.YtgcojnlngchllaaGreatDoor
open Go.RowKit Tryz
set_option linter.unusedVariables false
set_option maxRecDepth 100000
set_option maxHeartbeats 40000000
section
variable {d g g':GS}{B G k:Nat}{O P:Nat->Prop}{W W' w:World}
def DH(w:World)(B:Nat)(g:GS)(O:Nat->Prop)(W:World):Prop:=∃a cap tb sv l ah,O=GO B a ah (aO sv l)∧bA B a cap tb sv l ah g W∧(∀k,O k->w.heap.size<=k)∧Below w.heap.size w W
theorem DH.kept(h:DH w B g O W)(hb:Below W.heap.size W W'):DH w B g O W':=by obtain⟨a,b,d,sv,l,f,e,i,k,n⟩:=h;exact⟨a,b,d,sv,l,f,e,i.kept hb,k,bt n hb⟩
theorem DH.lt(h:DH w B g O W)(hk:O k):k<W.heap.size:=by obtain⟨a,d,e,sv,l,f,rfl,b,i,n⟩:=h;exact b.lt hk
theorem DH.below(h:DH w B g O W):Below w.heap.size w W:=by obtain⟨a,d,e,sv,l,f,rfl,i,k,b⟩:=h;exact b
theorem DH.apart(h:DH w B g O W)(q:aL P W W')(hb:Below w.heap.size w W')(hd:∀k,O k->¬P k):DH w B g O W':=by obtain⟨a,b,e,sv,l,f,rfl,d,i,n⟩:=h;exact⟨a,b,e,sv,l,f,rfl,d.apart q.size (fun k hk=>q.1.2.2.2.2 k (d.lt hk) (hd k hk)) q.2,i,hb⟩
def nK(w:World)(B:Nat)(g':GS)(O:Nat->Prop)(W W':World):Prop:=∃O',DH w B g' O' W'∧(∀k,O' k->O k∨W.heap.size<=k)∧aL O W W'
theorem DH.go(h:DH w B g O W)(v:rM W B O g' W'):nK w B g' O W W':=by obtain⟨a,t,x,sv,l,y,rfl,z,d,e⟩:=h;obtain⟨q,b,f,i,r,n,s,o,p⟩:=v;have hs:=e.size;exact⟨_,⟨q,b,f,i,r,n,rfl,s,fun k hk=>(p k hk).elim (d k) (fun h=>by omega),o.below e d hs⟩,p,o⟩
theorem nK.pre{W1:World}(h:nK w B g' O W1 W')(hb:Below W.heap.size W W1):nK w B g' O W W':=by obtain⟨a,b,d,e⟩:=h;have hs:=hb.size;exact⟨a,b,fun k hk=>(d k hk).elim .inl (fun h=>.inr (by omega)),aL.trans (aL.of hb) e (fun k hk=>.inl hk)⟩
theorem Km:∀(l:List (Int×Nat))(bs:List (List Int)),l.Pairwise (fun x y=>x.1≠y.1∧x.2≠y.2)->(∀x∈l,∃b∈bs,el b 19=x.1)->l.length<=bs.length
 | [],_,_,_=>Nat.zero_le _
 | x::r,bs,hp,h=>by obtain⟨b,hb,e⟩:=h x (List.mem_cons_self ..);rw[List.pairwise_cons] at hp;have ih:=Km r (bs.erase b) hp.2 (fun y hy=>by obtain⟨b',hb',e'⟩:=h y (List.mem_cons_of_mem _ hy);refine⟨b',(List.mem_erase_of_ne (fun e2=>?_)).2 hb',e'⟩;rw[e2,e] at e';exact(hp.1 y hy).1 e');rw[List.length_erase_of_mem hb] at ih;have:=List.length_pos_of_mem hb;rw[List.length_cons];omega
theorem bA.few{a:Option Addr}{cap tb:Nat}{sv:Value}{l:List (Int×Nat)}{ah:Nat->Prop}(h:bA B a cap tb sv l ah g w){c:List Int}{inj:Bool}(hT:jB c inj g)(hi:fJ g):l.length<=128 :=
 Nat.le_trans (Km l g.bs h.2.2.2.1.2.2.2 (fun x hx=>by obtain⟨st,e,_⟩:=h.2.2.2.1.2.1 x hx;obtain⟨b,q1,q2,_⟩:=hT.2.2 _ (jA e);exact⟨b,q1,q2⟩)) hi.2.1
def qDZ:Prop:=∀{g:GS}{B k:Nat}{O:Nat->Prop}{W w:World}(hg:dK g){c:List Int}{inj:Bool}(hT:fC c inj g)(hv:aQ.eT (dA g.c) (pfx g.c) (el g.c 17)=false)(zs:List Int){b:Option Addr}{l:Nat}(h:DH w B g O W)(r:aj W b l k zs)(e1:l<=k)(e2:k<=maxLen),Calls prog 9 #[.pointer (some ⟨B,0,none⟩),.slice b l k] W fun e w'=>∃a2 l2 c2,e=.returned (.tuple #[.slice a2 l2 c2,.int .i64 (g6 g zs).1])∧aj w' a2 l2 c2 (g6 g zs).2.1∧nK w B (g6 g zs).2.2 O W w'
theorem DC(hg:dK g){c:List Int}{inj:Bool}(hT:fC c inj g)(zs:List Int){b:Option Addr}{l:Nat}(h:DH w B g O W)(r:aj W b l k zs)(e1:l<=k)(e2:k<=maxLen): Calls prog 10 #[.pointer (some ⟨B,0,none⟩),.slice b l k] W fun e w'=>∃a2 l2 c2,e=.returned (.tuple #[.slice a2 l2 c2,.int .i64 (g4 g zs).1])∧aj w' a2 l2 c2 (g4 g zs).2.1∧nK w B (g4 g zs).2.2 O W w':=by have i:=h;obtain⟨a,d,n,sv,o,p,rfl,f,q,s⟩:=i;exact(Xo B a d n sv o p g b l k zs W f hg.1 hg.2.1 (Nat.le_trans (f.few hT.1 hg.1) (by omega)) r e1 e2).mono fun e w' ⟨a2,l2,c2,q1,q2,q3⟩=>⟨a2,l2,c2,q1,q2.1,h.go q3⟩
theorem DF(hg:dK g)(id what:Int)(u:Bool)(f:List Int->List Int)(hw:(what=0∧f=fun x=>ji x u)∨(what=1∧f=fun x=>jk x u))(h:DH w B g O W): Calls prog 12 #[.pointer (some ⟨B,0,none⟩),.int .i64 id,.int .i64 what,.bool u] W fun e w'=>e=.returned (.int .i64 (eB g id f).1)∧nK w B (eB g id f).2 O W w':=by have d:=h;obtain⟨a,b,i,sv,k,l,rfl,n,o,p⟩:=d;exact(W9 B a b i sv k l g id what u W n (Nat.le_trans (yY hg.2.2.2.2.2.2).1 (by omega)) f hw).mono fun e w' ⟨q1,q2⟩=>⟨q1,h.go q2⟩
theorem KO(hg:dK g){c:List Int}{inj:Bool}(hT:fC c inj g)(n:Int)(h:DH w B g O W): Calls prog 11 #[.pointer (some ⟨B,0,none⟩),.int .i64 n] W fun e w'=>e=.returned (.int .i64 (eP g n).1)∧nK w B (eP g n).2 O W w':=by have f:=h;obtain⟨a,b,i,sv,k,l,rfl,d,o,p⟩:=f;exact(Xg B a b i sv k l g n W d hg.1 (Nat.le_trans (d.few hT.1 hg.1) (by omega))).mono fun e w' ⟨q1,q2⟩=>⟨q1,h.go q2⟩
def P2(w:World)(G B:Nat)(g d:GS)(O P:Nat->Prop)(W:World):Prop:=gN w G g O W∧DH w B d P W∧∀k,O k->¬P k
theorem P2.kept(q:P2 w G B g d O P W)(hb:Below W.heap.size W W'):P2 w G B g d O P W':=⟨q.1.kept hb,q.2.1.kept hb,q.2.2⟩
theorem P2.left(q:P2 w G B g d O P W)(n:j3 w G g' O W W'):∃O',P2 w G B g' d O' P W'∧aL O W W'∧∀k,O' k->O k∨W.heap.size<=k:=by obtain⟨O',a,b,e⟩:=n;exact⟨O',⟨a,q.2.1.apart e a.below (fun k hk ho=>q.2.2 k ho hk),fun k ho hp=>(b k ho).elim (fun h=>q.2.2 k h hp) (fun h=>by have:=q.2.1.lt hp;omega)⟩,e,b⟩
theorem P2.right{d':GS}(q:P2 w G B g d O P W)(n:nK w B d' P W W'):∃P',P2 w G B g d' O P' W'∧aL P W W'∧∀k,P' k->P k∨W.heap.size<=k:=by obtain⟨P',a,b,e⟩:=n;exact⟨P',⟨q.1.apart e a.below q.2.2,a,fun k ho hp=>(b k hp).elim (fun h=>q.2.2 k ho h) (fun h=>by have:=q.1.lt ho;omega)⟩,e,b⟩
end
section
attribute [local go_sem ↓] zD rU
theorem vU(G:Nat)(aD:Int)(ba:Option Addr)(bl bc:Nat)(z:List Int)(a:Option Addr)(len cap:Nat)(s d:List Int)(hop n:Int)(is:Bool)(c:List Int)(inj:Bool)(ka:Option Addr)(kn kc:Nat)(w:World)(R:Value->Value->World->Prop)(h:(aD=0∧∀W,Below w.heap.size w W->Calls prog 51 #[.pointer (some ⟨G,0,none⟩),.slice ba bl bc] W fun e w'=>∃a2 l2 c2 v,e=.returned (.tuple #[.slice a2 l2 c2,v])∧R (.slice a2 l2 c2) v w') ∨ (aD=1∧∀W,Below w.heap.size w W->Calls prog 52 #[.pointer (some ⟨G,0,none⟩),.slice ba bl bc] W fun e w'=>∃a2 l2 c2 v,e=.returned (.tuple #[.slice a2 l2 c2,v])∧R (.slice a2 l2 c2) v w') ∨ (aD=2∧∀W,Below w.heap.size w W->Calls prog 53 #[.pointer (some ⟨G,0,none⟩),.int .i64 n] W fun e w'=>∃v,e=.returned v∧R (.slice none 0 0) v w') ∨ (aD=3∧∀W,Below w.heap.size w W->Calls prog 54 #[.pointer (some ⟨G,0,none⟩),.int .i64 n,.bool is] W fun e w'=>∃v,e=.returned v∧R (.slice none 0 0) v w') ∨ (aD=4∧∀W,Below w.heap.size w W->Calls prog 55 #[.pointer (some ⟨G,0,none⟩),.int .i64 n,.bool is] W fun e w'=>∃v,e=.returned v∧R (.slice none 0 0) v w')): Calls prog 14 #[.pointer (some ⟨G,0,none⟩),.agg (fq aD ba bl bc z a len cap s d hop n is),.agg (dh c inj ka kn kc)] w fun e w'=>∃x v,e=.returned (.tuple #[x,v])∧R x v w':=by
 have b:=ki (jZ.start w aD ba bl bc z a len cap s d hop n is c inj ka kn kc);rcases h with⟨rfl,h⟩|⟨rfl,h⟩|⟨rfl,h⟩|⟨rfl,h⟩|⟨rfl,h⟩
 ·have f:=ki h;clear h;go_enter func14,ntmps14;go_upto_region 1 with fail
  generalize (World.alloc _ _).alloc _=W0 at b⊢;have i:=b.o.1.what;have k:=b.o.1.bytes;go_wp2_with (go_at_call 51;refine(f.o _ b.o.2.2).mono ?_;rintro e l ⟨a2,l2,c2,v,rfl,r1⟩;have g:=ki r1;clear r1)
  refine bodyPost_ret (results_tmp2 rfl _ _ _) rfl ?_;exact⟨_,_,rfl,g.o⟩
 ·have f:=ki h;clear h;go_enter func14,ntmps14;go_upto_region 1 with fail
  generalize (World.alloc _ _).alloc _=W0 at b⊢;have i:=b.o.1.what;have k:=b.o.1.bytes;go_wp2_with (go_at_call 52;refine(f.o _ b.o.2.2).mono ?_;rintro e l ⟨a2,l2,c2,v,rfl,r1⟩;have g:=ki r1;clear r1)
  refine bodyPost_ret (results_tmp2 rfl _ _ _) rfl ?_;exact⟨_,_,rfl,g.o⟩
 ·have f:=ki h;clear h;go_enter func14,ntmps14;go_upto_region 1 with fail
  generalize (World.alloc _ _).alloc _=W0 at b⊢;have i:=b.o.1.what;have k:=b.o.1.num;go_wp2_with (go_at_call 53;refine(f.o _ b.o.2.2).mono ?_;rintro e l ⟨v,rfl,r1⟩;have g:=ki r1;clear r1)
  refine bodyPost_ret (results_tmp2 rfl _ _ _) rfl ?_;exact⟨_,_,rfl,g.o⟩
 ·have f:=ki h;clear h;go_enter func14,ntmps14;go_upto_region 1 with fail
  generalize (World.alloc _ _).alloc _=W0 at b⊢;have i:=b.o.1.what;have k:=b.o.1.num;have o:=b.o.1.is;go_wp2_with (go_at_call 54;refine(f.o _ b.o.2.2).mono ?_;rintro e l ⟨v,rfl,r1⟩;have g:=ki r1;clear r1)
  refine bodyPost_ret (results_tmp2 rfl _ _ _) rfl ?_;exact⟨_,_,rfl,g.o⟩
 ·have f:=ki h;clear h;go_enter func14,ntmps14;go_upto_region 1 with fail
  generalize (World.alloc _ _).alloc _=W0 at b⊢;have i:=b.o.1.what;have k:=b.o.1.num;have o:=b.o.1.is;go_wp2_with (go_at_call 55;refine(f.o _ b.o.2.2).mono ?_;rintro e l ⟨v,rfl,r1⟩;have g:=ki r1;clear r1)
  refine bodyPost_ret (results_tmp2 rfl _ _ _) rfl ?_;exact⟨_,_,rfl,g.o⟩
theorem Xx(G:Nat)(aD:Int)(ba:Option Addr)(bl bc:Nat)(z:List Int)(a:Option Addr)(len cap:Nat)(s d:List Int)(hop n:Int)(is:Bool)(c:List Int)(inj:Bool)(ka:Option Addr)(kn kc:Nat)(w:World)(R:Value->Value->World->Prop)(zs:List Int)(h0:(aD == 0)=false)(h1:(aD == 1)=false)(h2:(aD == 2)=false)(h3:(aD == 3)=false)(h4:(aD == 4)=false)(h5:(aD == 5)=false)(hS:∀W,Below w.heap.size w W->Calls prog 13 #[.agg (fq aD ba bl bc z a len cap s d hop n is),.agg (dh c inj ka kn kc),.slice none 0 0] W fun e w'=>∃b l k,e=.returned (.slice b l k)∧(aj w' b l k zs∧l<=k∧k<=maxLen)∧Below W.heap.size W w')(hC:∀W b l k,Below w.heap.size w W->aj W b l k zs->l<=k->k<=maxLen->Calls prog 51 #[.pointer (some ⟨G,0,none⟩),.slice b l k] W fun e w'=>∃a2 l2 c2 v,e=.returned (.tuple #[.slice a2 l2 c2,v])∧R (.slice a2 l2 c2) v w'): Calls prog 14 #[.pointer (some ⟨G,0,none⟩),.agg (fq aD ba bl bc z a len cap s d hop n is),.agg (dh c inj ka kn kc)] w fun e w'=>∃x v,e=.returned (.tuple #[x,v])∧R x v w':=by
 have f:=ki (jZ.start w aD ba bl bc z a len cap s d hop n is c inj ka kn kc);have o:=ki hS;have p:=ki hC;clear hS hC;go_enter func14,ntmps14;go_upto_region 1 with fail
 generalize (World.alloc _ _).alloc _=W0 at f⊢;have q:=f.o.1.what;go_upto_region 14 with fail
 clear q;have r:=f.o.1.sl;have t:=f.o.2.1.cl;go_wp2_with (first|(go_at_call 13;refine(o.o _ f.o.2.2).mono ?_;rintro e A ⟨B,C,D,rfl,r1,h⟩;have g:=ki r1;replace f:=ki (f.o.kept h);clear r1 h r t)|(go_at_call 51;refine(p.o _ _ _ _ f.o.2.2 g.o.1 g.o.2.1 g.o.2.2).mono ?_;rintro e E ⟨a2,l2,c2,v,rfl,i⟩;have y:=ki i;clear i))
 refine bodyPost_ret (results_tmp2 rfl _ _ _) rfl ?_;exact⟨_,_,rfl,y.o⟩
theorem Xy(G:Nat)(ba:Option Addr)(bl bc:Nat)(z:List Int)(a:Option Addr)(len cap:Nat)(s d:List Int)(hop n:Int)(is:Bool)(c:List Int)(inj:Bool)(ka:Option Addr)(kn kc:Nat)(w:World)(R:Value->Value->World->Prop)(zs:List Int)(bs:List (List Int))(hB:∀W,Below w.heap.size w W->Calls prog 17 #[.pointer (some ⟨G,0,none⟩)] W fun e w'=>∃v,e=.returned v∧dU 0 w' v bs∧Below W.heap.size W w')(hS:∀W v,Below w.heap.size w W->dU 0 W v bs->Calls prog 13 #[.agg (fq 5 ba bl bc z a len cap s d hop n is),.agg (dh c inj ka kn kc),v] W fun e w'=>∃b l k,e=.returned (.slice b l k)∧(aj w' b l k zs∧l<=k∧k<=maxLen)∧Below W.heap.size W w')(hC:∀W b l k,Below w.heap.size w W->aj W b l k zs->l<=k->k<=maxLen->Calls prog 52 #[.pointer (some ⟨G,0,none⟩),.slice b l k] W fun e w'=>∃a2 l2 c2 v,e=.returned (.tuple #[.slice a2 l2 c2,v])∧R (.slice a2 l2 c2) v w'∧∀B,w.heap.size<=B->B<W.heap.size->w'.heap[B]? = W.heap[B]?): Calls prog 14 #[.pointer (some ⟨G,0,none⟩),.agg (fq 5 ba bl bc z a len cap s d hop n is),.agg (dh c inj ka kn kc)] w fun e w'=>∃x v,e=.returned (.tuple #[x,v])∧R x v w':=by
 have f:=ki (jZ.start w 5 ba bl bc z a len cap s d hop n is c inj ka kn kc);have A:=ki hB;have H:=ki hS;have I:=ki hC;clear hB hS hC;go_enter func14,ntmps14;go_upto_region 1 with fail
 generalize (World.alloc _ _).alloc _=W0 at f⊢;have J:=f.o.1.what;go_upto_region 13 with fail
 clear J;replace f:=ki (f.o.kept (show Below W0.heap.size W0 W0.drew from(Below.refl _ _).drew));have g:=ki (fun W (h:dD w.heap.size 5 ba bl bc z a len cap s d hop n is W∧dQ (w.heap.size+1) c inj ka kn kc W)=>(show(vR (.pointer (some ⟨w.heap.size,0,none⟩))).run prog W=.ok (.agg (fq 5 ba bl bc z a len cap s d hop n is)) W∧(tL (.pointer (some ⟨w.heap.size+1,0,none⟩))).run prog W=.ok (.agg (dh c inj ka kn kc)) W from⟨h.1.sl,h.2.cl⟩));obtain⟨i,o⟩:=g.o _ ⟨f.o.1,f.o.2.1⟩;go_region_held3 (fun W=>(vR (.pointer (some ⟨w.heap.size,0,none⟩))).run prog W=.ok (.agg (fq 5 ba bl bc z a len cap s d hop n is)) W∧(tL (.pointer (some ⟨w.heap.size+1,0,none⟩))).run prog W=.ok (.agg (dh c inj ka kn kc)) W)
  (first
   | exact g.o _ ⟨f.o.1,f.o.2.1⟩
   | exact g.o _ q.o
   | go_keep)
  (first|(go_at_call 17;refine(A.o _ f.o.2.2).mono ?_;rintro e L ⟨M,rfl,r1,r⟩;have C:=ki r1;replace f:=ki (f.o.kept r);clear r1 r i o;obtain⟨i,o⟩:=g.o _ ⟨f.o.1,f.o.2.1⟩)|(go_at_call 13;refine(H.o _ _ f.o.2.2 C.o).mono ?_;rintro e N ⟨O,l2,P,rfl,D,t⟩;have p:=ki D;replace f:=ki (f.o.kept t);clear D t i o;obtain⟨i,o⟩:=g.o _ ⟨f.o.1,f.o.2.1⟩)|(go_at_call 52;refine(I.o _ _ _ _ f.o.2.2 p.o.1 p.o.2.1 p.o.2.2).mono ?_;rintro e E ⟨Q,S,c3,T,rfl,F,y⟩;have q:=ki (show dD w.heap.size 5 ba bl bc z a len cap s d hop n is E∧dQ (w.heap.size+1) c inj ka kn kc E from⟨(y _ (Nat.le_refl _) f.o.1.lt).trans f.o.1,(y _ (Nat.le_succ _) f.o.2.1.lt).trans f.o.2.1⟩);have K:=ki F;clear F y i o;obtain⟨i,o⟩:=g.o _ q.o))
 all_goals
  go_wp2_with fail
  refine bodyPost_ret (results_tmp2 rfl _ _ _) rfl ?_;exact⟨_,_,rfl,K.o⟩
end
section
variable {g:GS}
def oV(g:GS)(aD:Int)(bs zs:List Int)(n:Int)(is:Bool):Int×List Int×GS :=
 if aD=0 then g6 g bs else if aD=1 then g4 g bs else if aD=2 then ((eP g n).1,[],(eP g n).2) else if aD=3 then ((eB g n (fun x=>ji x is)).1,[],(eB g n (fun x=>ji x is)).2) else if aD=4 then ((eB g n (fun x=>jk x is)).1,[],(eB g n (fun x=>jk x is)).2) else if aD=5 then g4 g zs else g6 g zs
theorem KN(hg:dK g){c:List Int}{inj:Bool}(hT:fC c inj g)(aD:Int){bs zs:List Int}(h1:SM.Oct bs)(h2:SM.Oct zs∨aD=0∨aD=1∨aD=2∨aD=3∨aD=4)(n:Int)(is:Bool):dK (oV g aD bs zs n is).2.2∧fC c inj (oV g aD bs zs n is).2.2:=by
 unfold oV;split
 ·exact⟨(JC hg h1).1,(JU hT hg h1).1⟩
 ·rename_i w0;split
  ·exact⟨(JD hg bs).1,(JV hT hg bs).1⟩
  ·rename_i w1;split
   ·exact⟨Wh hg n,WJ hT hg n⟩
   ·rename_i w2;split
    ·exact⟨JG hg n (f:=fun x=>ji x is) (fun _=>rfl) (fun _=>rfl),JW hT n _⟩
    ·rename_i w3;split
     ·exact⟨JG hg n (f:=fun x=>jk x is) (fun _=>rfl) (fun _=>rfl),JW hT n _⟩
     ·rename_i w4;have a:SM.Oct zs:=by
       rcases h2 with h|h|h|h|h|h
       ·exact h
       ·exact absurd h w0
       ·exact absurd h w1
       ·exact absurd h w2
       ·exact absurd h w3
       ·exact absurd h w4
      split
      ·exact⟨(JD hg zs).1,(JV hT hg zs).1⟩
      ·exact⟨(JC hg a).1,(JU hT hg a).1⟩
theorem Xz(aD:Int)(ba:Option Addr)(bl bc:Nat)(z:List Int)(a:Option Addr)(len cap:Nat)(s d:List Int)(hop n:Int)(is:Bool)(c:List Int)(inj:Bool)(ka:Option Addr)(kn kc:Nat)(D:List Int)(hl:D.length=len)(hlm:len<=maxLen)(h5:(aD == 5)=false): ∃zs:List Int,∀W,aj W a len cap D->Calls prog 13 #[.agg (fq aD ba bl bc z a len cap s d hop n is),.agg (dh c inj ka kn kc),.slice none 0 0] W fun e w'=>∃b l k,e=.returned (.slice b l k)∧(aj w' b l k zs∧l<=k∧k<=maxLen)∧Below W.heap.size W w':=by
 subst hl;by_cases hc:sf z D.length=0∧aH s∧aH d∧0<=hop∧hop<=255
 ·refine⟨jd s d hop z D,fun W hr=>(V5 aD ba bl bc z a cap s d hop n is c inj ka kn kc (.slice none 0 0) D W h5 ((l6 _ _).1 hc.1) hc.2.1 hc.2.2.1 (decide_eq_true hc.2.2.2) hr).mono fun e w' ⟨v,e1,o,e2⟩=>?_⟩;obtain⟨g,k,rfl,f,h,_,_,r⟩:=o.form VX;exact⟨_,_,k,e1,⟨r,f,h⟩,e2⟩
 ·exact⟨[],fun W hr=>(V4 aD ba bl bc z a D.length cap s d hop n is c inj ka kn kc (.slice none 0 0) W h5 hlm hc).mono fun e w' ⟨e1,e2⟩=>⟨none,0,0,e1,⟨dL _,Nat.le_refl _,Nat.zero_le _⟩,e2⟩⟩
def SZ(aD:Int)(ba:Option Addr)(bl bc:Nat)(z:List Int)(a:Option Addr)(len cap:Nat)(s d:List Int)(hop n:Int)(is:Bool)(c:List Int)(inj:Bool)(ka:Option Addr)(kn kc:Nat)(D:List Int)(bs:List (List Int))(zs:List Int):Prop :=
 ∀W v,(aD=5->dU 0 W v bs)->(aD≠5->v=.slice none 0 0)->aj W a len cap D->Calls prog 13 #[.agg (fq aD ba bl bc z a len cap s d hop n is),.agg (dh c inj ka kn kc),v] W fun e w'=>∃b l k,e=.returned (.slice b l k)∧(aj w' b l k zs∧l<=k∧k<=maxLen)∧Below W.heap.size W w'
theorem KL(aD:Int)(ba:Option Addr)(bl bc:Nat)(z:List Int)(a:Option Addr)(len cap:Nat)(s d:List Int)(hop n:Int)(is:Bool)(c:List Int)(inj:Bool)(ka:Option Addr)(kn kc:Nat)(D:List Int)(hg:dK g)(hl:D.length=len)(hlm:len<=maxLen)(hn:pR n)(hc:up 4294967295 (el c 18)=true):∃zs,SZ aD ba bl bc z a len cap s d hop n is c inj ka kn kc D g.bs zs:=by
 by_cases h5:aD=5
 ·subst h5;obtain⟨zs,h⟩:=Wp ba bl bc z a len cap s d hop n is c inj ka kn kc g.bs D hl hn hg.1.2.1 hc (fun b hb=>(hg.1.2.2.1.1 b hb).2.2.2.1);exact⟨zs,fun W v h1 _ hr=>h W v (h1 rfl) hr⟩
 ·obtain⟨zs,h⟩:=Xz aD ba bl bc z a len cap s d hop n is c inj ka kn kc D hl hlm (by simpa using h5);exact⟨zs,fun W v _ h2 hr=>by rw[h2 h5];exact h W hr⟩
theorem KP(aD:Int)(ba:Option Addr)(bl bc:Nat)(bs z:List Int)(a:Option Addr)(len cap:Nat)(D s d:List Int)(hop n:Int)(is:Bool)(c:List Int)(inj:Bool)(ka:Option Addr)(kn kc:Nat){zs:List Int}{w:World}{G:Nat}{O:Nat->Prop}{W:World}(hg:dK g)(hS:SZ aD ba bl bc z a len cap s d hop n is c inj ka kn kc D g.bs zs)(h:gN w G g O W)(rb:aj W ba bl bc bs)(e1:bl<=bc)(e2:bc<=maxLen)(hr:aj W a len cap D){R:Int×List Int×GS}(hR:R=oV g aD bs zs n is): Calls prog 14 #[.pointer (some ⟨G,0,none⟩),.agg (fq aD ba bl bc z a len cap s d hop n is),.agg (dh c inj ka kn kc)] W fun e w'=>∃x v,e=.returned (.tuple #[x,v])∧v=ev R.1∧(∃a2 l2 c2,x=.slice a2 l2 c2∧aj w' a2 l2 c2 R.2.1)∧j3 w G R.2.2 O W w':=by
 unfold oV at hR;by_cases w0:aD=0
 ·rw[if_pos w0] at hR;subst hR;exact vU G aD ba bl bc z a len cap s d hop n is c inj ka kn kc W _ (.inl ⟨w0,fun W1 hb=>(JF hg bs w G O W1 ba bl bc (h.kept hb) (rb.below hb) e1 e2).mono fun e w' ⟨⟨a2,l2,c2,q1,q3⟩,q2⟩=>⟨a2,l2,c2,_,q1,rfl,⟨_,_,_,rfl,q3.1⟩,q2.pre hb⟩⟩)
 rw[if_neg w0] at hR;by_cases w1:aD=1
 ·rw[if_pos w1] at hR;subst hR;exact vU G aD ba bl bc z a len cap s d hop n is c inj ka kn kc W _ (.inr (.inl ⟨w1,fun W1 hb=>(JH hg bs w G O W1 ba bl bc (h.kept hb) (rb.below hb) e1 e2).mono fun e w' ⟨⟨a2,l2,c2,q1,q3⟩,q2⟩=>⟨a2,l2,c2,_,q1,rfl,⟨_,_,_,rfl,q3.1⟩,q2.pre hb⟩⟩))
 rw[if_neg w1] at hR;by_cases w2:aD=2
 ·rw[if_pos w2] at hR;subst hR;exact vU G aD ba bl bc z a len cap s d hop n is c inj ka kn kc W _ (.inr (.inr (.inl ⟨w2,fun W1 hb=>(Wj hg n w G O W1 (h.kept hb)).mono fun e w' ⟨q1,q2⟩=>⟨_,q1,rfl,⟨_,_,_,rfl,dL _⟩,q2.pre hb⟩⟩)))
 rw[if_neg w2] at hR;have i:g.bk.length<=1000:=Nat.le_trans (yY hg.2.2.2.2.2.2).1 (by omega);by_cases w3:aD=3
 ·rw[if_pos w3] at hR;subst hR;exact vU G aD ba bl bc z a len cap s d hop n is c inj ka kn kc W _ (.inr (.inr (.inr (.inl ⟨w3,fun W1 hb=>(Wm i n is w G O W1 (h.kept hb)).mono fun e w' ⟨q1,q2⟩=>⟨_,q1,rfl,⟨_,_,_,rfl,dL _⟩,q2.pre hb⟩⟩))))
 rw[if_neg w3] at hR;by_cases w4:aD=4
 ·rw[if_pos w4] at hR;subst hR;exact vU G aD ba bl bc z a len cap s d hop n is c inj ka kn kc W _ (.inr (.inr (.inr (.inr ⟨w4,fun W1 hb=>(Wn i n is w G O W1 (h.kept hb)).mono fun e w' ⟨q1,q2⟩=>⟨_,q1,rfl,⟨_,_,_,rfl,dL _⟩,q2.pre hb⟩⟩))))
 rw[if_neg w4] at hR;by_cases w5:aD=5
 ·rw[if_pos w5] at hR;subst hR;subst w5;refine Xy G ba bl bc z a len cap s d hop n is c inj ka kn kc W _ zs g.bs (fun W1 hb=>?_) (fun W1 v hb hv=>hS W1 v (fun _=>hv) (fun h=>absurd rfl h) (hr.below hb)) (fun W1 b l k hb r q1 q2=>?_)
  ·obtain⟨t,y,A,B,C,E,rfl,hh⟩:=h.kept hb;exact Jg G t y A B C E g W1 hh.1 hg.1
  ·refine(JH hg zs w G O W1 b l k (h.kept hb) r q1 q2).mono ?_;rintro e w' ⟨⟨a2,l2,c2,p,q⟩,o⟩;refine⟨a2,l2,c2,_,p,⟨rfl,⟨_,_,_,rfl,q.1⟩,o.pre hb⟩,fun B' hB hB2=>?_⟩;obtain⟨_,_,_,F⟩:=o;exact F.1.2.2.2.2 B' hB2 (fun ho=>by have:=h.lt ho;omega)
 rw[if_neg w5] at hR;subst hR;have f:=fun (j:Int) (hj:¬aD=j)=>show(aD == j)=false by simpa using hj
 refine Xx G aD ba bl bc z a len cap s d hop n is c inj ka kn kc W _ zs (f 0 w0) (f 1 w1) (f 2 w2) (f 3 w3) (f 4 w4) (f 5 w5) (fun W1 hb=>hS W1 _ (fun h=>absurd h w5) (fun _=>rfl) (hr.below hb)) (fun W1 b l k hb r q1 q2=>?_);refine(JF hg zs w G O W1 b l k (h.kept hb) r q1 q2).mono ?_;rintro e w' ⟨⟨a2,l2,c2,p,q⟩,o⟩;exact⟨a2,l2,c2,_,p,rfl,⟨_,_,_,rfl,q.1⟩,o.pre hb⟩
end
section
variable {g:GS}{B G:Nat}{O:Nat->Prop}{W w:World}
def Dw:Array Value:=#[.int .i64 0,.slice none 0 0,.int .i64 0,.int .i64 0,.int .i64 0,.int .i64 0,.int .i64 0,.int .i64 0,.int .i64 0,.slice none 0 0,.int .i64 0,.int .i64 0,.int .i64 0,.int .i64 0,.int .i64 0,.int .i64 0,.int .i64 0,.int .i64 0,.int .i64 0,.int .i64 0,.int .i64 0,.int .i64 0,.int .i64 0,.int .i64 0,.int .i64 0,.int .i64 0,.int .i64 0,.int .i64 0,.bool false]
theorem KI(W:World):dD W.heap.size 0 none 0 0 [] none 0 0 [] [] 0 0 false (W.alloc (.cells Dw 41)):=heap_alloc_new W _
theorem dD.stored{aD:Int}{ba:Option Addr}{bl bc:Nat}{z:List Int}{a:Option Addr}{len cap:Nat}{s d:List Int}{hop n:Int}{is:Bool}(p:dD B aD ba bl bc z a len cap s d hop n is w)(cs:Array Value):(w.setRow B cs).heap[B]? = some (.cells cs 41 (0,0)):=setRow_heap w B _ cs _ (0,0) p
theorem KM{ops:Array Oper}{rest:List Oper}{o:Oper}{f:Act}{Q:Exit->Act->World->Prop}(hgd:o.guard=none)(x y:Operand)(ho:o.op=.store 41 x y){B:Nat}(hx:f.eval x=.pointer (some ⟨B,0,none⟩))(p:dD B 0 none 0 0 [] none 0 0 [] [] 0 0 false w)(aD:Int)(ba:Option Addr)(bl bc:Nat)(z:List Int)(a:Option Addr)(len cap:Nat)(s d:List Int)(hop n:Int)(is:Bool)(hy:f.eval y=.agg (fq aD ba bl bc z a len cap s d hop n is))(hK:∀w',dD B aD ba bl bc z a len cap s d hop n is w'->Only B w w'->wpList prog ops Q rest (f.put o.dst undef) w'):wpList prog ops Q (o::rest) f w :=
 wpList_store_row hgd 41 x y ho B _ hx hy 41 _ p (by kernel_rfl) rfl (by unfold fq;simp[Value.oneCell']) (hK _ (p.stored _) (dS _ _ _))
def Dy(fG:World)(G B:Nat)(g:GS)(O:Nat->Prop)(X:Nat)(aD:Int)(ba:Option Addr)(bl bc:Nat)(z:List Int)(a:Option Addr)(len cap:Nat)(s d:List Int)(hop n:Int)(is:Bool)(R:Int×List Int×GS)(a2:Option Addr)(l2 c2:Nat)(W:World):Prop :=
 aj W a2 l2 c2 R.2.1∧(∃P,P2 fG G B g R.2.2 O P W)∧dD X aD ba bl bc z a len cap s d hop n is W
theorem qy{fG:World}{d':GS}{P:Nat->Prop}{X:Nat}{aD:Int}{ba:Option Addr}{bl bc:Nat}{z:List Int}{a:Option Addr}{len cap:Nat}{s d:List Int}{hop n:Int}{is:Bool}{W':World}(q:P2 fG G B g g O P W)(hX:dD X aD ba bl bc z a len cap s d hop n is W)(hn:¬P X){R:Int×List Int×GS}(hd:d'=R.2.2)(v:nK fG B d' P W W'){a2:Option Addr}{l2 c2:Nat}(r:aj W' a2 l2 c2 R.2.1):Dy fG G B g O X aD ba bl bc z a len cap s d hop n is R a2 l2 c2 W':=by subst hd;obtain⟨b,e,f,h⟩:=q.right v;exact⟨r,⟨b,e⟩,(f.1.2.2.2.2 X hX.lt hn).trans hX⟩
theorem DH.all(h:DH w B g O W):∃tb v,W.cell? ⟨B,23,none⟩=some (.pointer (some ⟨tb,0,none⟩))∧W.cell? ⟨tb,1,none⟩=some v∧dU 0 W v g.bs∧W.cell? ⟨B,25,none⟩=some (.int .i64 g.now):=by obtain⟨a,d,tb,sv,l,e,rfl,b,f,i⟩:=h;obtain⟨P,k,n,v,r,_⟩:=b.2.2.1;exact⟨tb,v,(b.1.cellAt 23).trans rfl,(cell_of_row W tb 1 _ _ _ r.1).trans rfl,r.2.2.xZ,(b.1.cellAt 25).trans rfl⟩
theorem KU(h:gN w G g O W):Calls prog 18 #[.pointer (some ⟨G,0,none⟩)] W fun e w'=>e=.returned (.int .i64 g.now)∧w'=W:=by obtain⟨a,b,d,S,f,β,rfl,h⟩:=h;exact U8 G a b d S f β g W h.1
theorem KS(hg:dK g)(h:gN w G g O W):Calls prog 17 #[.pointer (some ⟨G,0,none⟩)] W fun e w'=>∃v,e=.returned v∧dU 0 w' v g.bs∧Below W.heap.size W w':=by obtain⟨a,b,d,S,f,β,rfl,h⟩:=h;exact Jg G a b d S f β g W h.1 hg.1
theorem KJ(c:List Int)(inj:Bool)(bk:List (List Int))(m:Nat):fC c inj (gZ c inj bk m):=⟨⟨rfl,rfl,fun x hx=>absurd hx (by simp[gZ,GS.ss])⟩,fun b hb=>absurd hb (by simp[gZ,GS.bs])⟩
theorem DH.KR(h:DH w B g O W):∃tb v,∀W',Below W.heap.size W W'->W'.cell? ⟨B,23,none⟩=some (.pointer (some ⟨tb,0,none⟩))∧W'.cell? ⟨tb,1,none⟩=some v∧dU 0 W' v g.bs∧W'.cell? ⟨B,25,none⟩=some (.int .i64 g.now):=by obtain⟨a,d,tb,sv,l,e,rfl,b,f,i⟩:=h;obtain⟨P,k,n,v,r,_⟩:=b.2.2.1;exact⟨tb,v,fun W' hb=>⟨((b.kept hb).1.cellAt 23).trans rfl,(cell_of_row W' tb 1 _ _ _ (r.kept hb).1).trans rfl,(r.kept hb).2.2.xZ,((b.kept hb).1.cellAt 25).trans rfl⟩⟩
end
section
def oU(fG:World)(c:List Int)(inj:Bool)(G B:Nat)(g:GS)(O P:Nat->Prop)(W:World):Prop:=dK g∧fC c inj g∧P2 fG G B g g O P W
theorem oU.kept{fG:World}{c:List Int}{inj:Bool}{G B:Nat}{g:GS}{O P:Nat->Prop}{W W':World}(h:oU fG c inj G B g O P W)(hb:Below W.heap.size W W'):oU fG c inj G B g O P W':=⟨h.1,h.2.1,h.2.2.kept hb⟩
theorem oU.below{fG:World}{c:List Int}{inj:Bool}{G B:Nat}{g:GS}{O P:Nat->Prop}{W:World}(h:oU fG c inj G B g O P W):Below fG.heap.size fG W:=h.2.2.1.below
attribute [local go_sem ↓] zD rU
theorem KG(c:List Int)(inj:Bool)(ka:Option Addr)(kc:Nat)(bk:List (List Int))(la:Option Addr)(ln lc:Nat)(w:World)(j:Int)(hj:j≠0)(hF:∀W,Below w.heap.size w W->Calls prog 6 #[.agg (dh c inj ka bk.length kc)] W fun e w'=>e=.returned (.int .i64 j)∧Below W.heap.size W w'): Calls prog 3 #[.agg (dh c inj ka bk.length kc),.slice la ln lc] w fun e w'=>e=.returned (.bool true)∧Below w.heap.size w w':=by
 have a:=ki (And.intro (qw w c inj ka bk.length kc) (au w (.cells (dh c inj ka bk.length kc) 26)));have d:=ki hF;have g:(j != 0)=true:=by simpa using hj
 clear hF hj;go_enter func3,ntmps3;go_upto_region 1 with fail
 generalize World.alloc _ _=W0 at a⊢;have f:=a.o.1.cl;go_wp2_with (go_at_call 6;refine(d.o _ a.o.2).mono ?_;rintro e h ⟨rfl,b⟩;replace a:=ki (And.intro (a.o.1.kept b) (bt a.o.2 b));clear b f)
 go_ret;exact⟨rfl,a.o.2⟩
theorem KH(c:List Int)(inj:Bool)(ka:Option Addr)(kc:Nat)(bk:List (List Int))(m:Nat)(la:Option Addr)(ln lc:Nat)(w:World)(hDZ:qDZ)(hg:kg w)(hl:ln<=maxLen)(hst:rV la ln w)(hig:dK (gZ c inj bk m))(hv:aQ.eT (dA c) (pfx c) (el c 17)=false)(hF:∀W,Below w.heap.size w W->Calls prog 6 #[.agg (dh c inj ka bk.length kc)] W fun e w'=>e=.returned (.int .i64 0)∧Below W.heap.size W w')(hN:∀W,Below w.heap.size w W->Calls prog 7 #[.agg (dh c inj ka bk.length kc)] W fun e w'=>wo W c inj bk m e w')(hM:∀W,Below w.heap.size w W->Calls prog 8 #[.agg (dh c inj ka bk.length kc)] W fun e w'=>∃B a' cap' tb ah,e=.returned (.pointer (some ⟨B,0,none⟩))∧bA B a' cap' tb (.slice none 0 0) [] ah (gZ c inj bk m) w'∧(∀k,GO B a' ah (aO (.slice none 0 0) []) k->W.heap.size<=k)∧Below W.heap.size W w'): Calls prog 3 #[.agg (dh c inj ka bk.length kc),.slice la ln lc] w fun e w'=>e=.returned (.bool true)∧Below w.heap.size w w':=by
 have d8:(ln:Int)<=9223372036854775807:=by unfold maxLen at hl;omega
 have M:=ki (And.intro (qw w c inj ka bk.length kc) (au w (.cells (dh c inj ka bk.length kc) 26)));have ax:=ki hst;have HF:=ki hF;have HN:=ki hN;have HM:=ki hM;have Z:=ki hig;have cy:=ki hg;have lT:=ki hv;have cz:=ki (show up 4294967295 (el c 18)=true from hig.2.2.2.2.2.1);have bX:=ki (fun W=>KI W);unfold Dw at bX;clear hst hF hN hM hig hl hg hv;go_enter func3,ntmps3;go_upto_region 1 with fail
 generalize World.alloc _ _=fG at M⊢;replace ax:=ki (ax.o.below M.o.2);have HB:=ki (Below.refl fG.heap.size fG);have p:=M.o.1.cl;go_upto_region 3 with(go_at_call 6;refine(HF.o _ (bt M.o.2 HB.o)).mono ?_;rintro e K ⟨rfl,bj⟩;replace HB:=ki (bt HB.o bj);clear bj p)
 have p:=(M.o.1.kept HB.o).cl;go_upto_region 6 with(go_at_call 7;refine(HN.o _ (bt M.o.2 HB.o)).mono ?_;rintro e w2 h2;obtain⟨G,O,rfl,hG,-,bm⟩:=wo.gh h2 HB.o;have dO:=ki hG;have ab:=ki (bt HB.o bm);clear h2 hG p bm)
 have p:=(M.o.1.kept ab.o).cl;go_upto_region 7 with(go_at_call 8;go_loud (refine(HM.o _ (bt M.o.2 ab.o)).mono ?_;rintro e w3 ⟨B,a3,c3,tb,ah,rfl,dc,o3,y⟩;have N:=ki (show oU fG c inj G B (gZ c inj bk m) O (GO B a3 ah (aO (.slice none 0 0) [])) w3 from⟨Z.o,KJ c inj bk m,dO.o.kept y,⟨a3,c3,tb,.slice none 0 0,[],ah,rfl,dc,fun k hk=>Nat.le_trans ab.o.size (o3 k hk),bt ab.o y⟩,fun k ho hp=>by have:=dO.o.lt ho;have:=o3 k hp;omega⟩);clear p dc o3 y))
 generalize GO B a3 ah (aO (.slice none 0 0) [])=P at N;generalize gZ c inj bk m=g0 at N;clear HF HN HM HB ab dO Z;go_wp2;go_loopw [8] (fun i wr=>∃(k:Nat) (g:GS) (O P:Nat->Prop),k<=ln∧k<=50∧i=.int .i64 k∧Hid (oU fG c inj G B g O P wr)) (fun i _=>50-(intOf i).toNat)
 case atStart=>exact⟨0,g0,O,P,by omega,by omega,rfl,N⟩
 case round =>
  clear N;obtain⟨kk,g,O,P,rW,ea,rfl,N⟩:=hrel;by_cases hlt:kk<ln∧kk<50
  ·as_aux_lemma =>
    obtain⟨az,cj⟩:=hlt;have j1:(kk:Int)<(ln:Int):=by omega
    have j2:(kk:Int)<50:=by omega
    obtain⟨gs,os,rfl,hx⟩:=ax.o (by omega);obtain⟨b,bW,am,an,ao,z',x,l,cc,D',s',d',U,V,C,r1,r2,t,Q⟩:=hx kk az;obtain⟨zs,fT⟩:=KL b bW am an z' x l cc s' d' U V C c inj ka bk.length kc D' N.o.1 t.1 t.2.1 Q cz.o;have ap:=ki fT;have aq:=ki (fun W (h:Below fG.heap.size fG W)=>(M.o.1.kept h).cl);have ar:=ki (fun W (h:Below fG.heap.size fG W)=>r2.1.below h);have D:=ki r2.2;have dZ:=ki (fun W (h:Below fG.heap.size fG W)=>t.below h);have p:=row_step (Dx r1 N.o.below);obtain⟨R,f⟩:∃R,R=oV g b ao zs V C:=⟨_,rfl⟩;have S:=ki f;have df:=ki r2.1.2.2.1;clear fT r1 r2 t Q hx f az cj;go_upto_block 2 with(refine KM rfl (.tmp 9) (.tmp 41) rfl rfl (bX.o _) b bW am an z' x l cc s' d' U V C rfl ?_;intro w2 p2 bp;have qx:=p2.what;have q:=ki p2;have a:=ki (N.o.kept (bq _ bp));have E:=ki (show ¬P wr.heap.size from fun hp=>by have:=N.o.2.2.2.1.lt hp;omega);clear p2 bp p)
    clear N bX qx;generalize wr.heap.size=X at q E⊢;go_cut [10,11] from 28 to 150 (fun u v wx=>∃(a2:Option Addr) (l2 c2:Nat),u=.slice a2 l2 c2∧v=.int .i64 R.1∧Hid (Dy fG G B g O X b bW am an z' x l cc s' d' U V C R a2 l2 c2 wx∧dK R.2.2∧fC c inj R.2.2))
    case first =>
     have f:=S.o;have gW:aQ.eT (dA g.c) (pfx g.c) (el g.c 17)=false:=by rw[a.o.2.1.1.1];exact lT.o
     have br:=ki gW;have s:=ki (show(SM.Oct zs∨b=0∨b=1∨b=2∨b=3∨b=4)->dK R.2.2∧fC c inj R.2.2 from fun h=>by rw[f];exact KN a.o.1 a.o.2.1 b df.o h V C);clear gW;unfold oV at f;by_cases w0:b=0
     ·rw[if_pos w0] at f;have b0:(b == 0)=true:=by simpa using w0
      have n:=ki (s.o (.inr (.inl w0)));have p:=q.o.bytes;have d:=ki f;clear w0 s S f;go_wp2_with (go_at_call 9;refine(hDZ a.o.1 a.o.2.1 br.o ao a.o.2.2.2.1 (ar.o _ a.o.below) D.o.1 D.o.2).mono ?_;rintro e w3 ⟨a3,l3,c3,rfl,t,r⟩;rw[<-d.o] at t r;have A:=ki (qy a.o.2.2 q.o E.o rfl r t);clear t r)
      go_meet
      exact⟨a3,l3,c3,rfl,by rw[d.o],ki ⟨A.o,n.o⟩⟩
     have b0:(b == 0)=false:=by simpa using w0
     rw[if_neg w0] at f;by_cases K:b=1
     ·rw[if_pos K] at f;have b1:(b == 1)=true:=by simpa using K
      have n:=ki (s.o (.inr (.inr (.inl K))));have p:=q.o.bytes;have d:=ki f;clear w0 K s S f;go_wp2_with (go_at_call 10;refine(DC a.o.1 a.o.2.1 ao a.o.2.2.2.1 (ar.o _ a.o.below) D.o.1 D.o.2).mono ?_;rintro e w3 ⟨a3,l3,c3,rfl,t,r⟩;rw[<-d.o] at t r;have A:=ki (qy a.o.2.2 q.o E.o rfl r t);clear t r)
      go_meet
      exact⟨a3,l3,c3,rfl,by rw[d.o],ki ⟨A.o,n.o⟩⟩
     have b1:(b == 1)=false:=by simpa using K
     rw[if_neg K] at f;by_cases w2':b=2
     ·rw[if_pos w2'] at f;have b2:(b == 2)=true:=by simpa using w2'
      have n:=ki (s.o (.inr (.inr (.inr (.inl w2')))));have p:=q.o.num;have d:=ki f;clear w0 K w2' s S f;go_wp2_with (go_at_call 11;refine(KO a.o.1 a.o.2.1 V a.o.2.2.2.1).mono ?_;rintro e w3 ⟨rfl,r⟩;have A:=ki (qy (R:=R) a.o.2.2 q.o E.o (by rw[d.o]) r (by rw[d.o];exact dL _));clear r)
      go_meet
      exact⟨none,0,0,rfl,by rw[d.o],ki ⟨A.o,n.o⟩⟩
     have b2:(b == 2)=false:=by simpa using w2'
     rw[if_neg w2'] at f;by_cases w3':b=3
     ·rw[if_pos w3'] at f;have b3:(b == 3)=true:=by simpa using w3'
      have n:=ki (s.o (.inr (.inr (.inr (.inr (.inl w3'))))));have p:=q.o.num;have Y:=q.o.is;have d:=ki f;clear w0 K w2' w3' s S f;go_wp2_with (go_at_call 12;refine(DF a.o.1 V 0 C (fun x=>ji x C) (.inl ⟨rfl,rfl⟩) a.o.2.2.2.1).mono ?_;rintro e w3 ⟨rfl,r⟩;have A:=ki (qy (R:=R) a.o.2.2 q.o E.o (by rw[d.o]) r (by rw[d.o];exact dL _));clear r)
      go_meet
      exact⟨none,0,0,rfl,by rw[d.o],ki ⟨A.o,n.o⟩⟩
     have b3:(b == 3)=false:=by simpa using w3'
     rw[if_neg w3'] at f;by_cases oW:b=4
     ·rw[if_pos oW] at f;have b4:(b == 4)=true:=by simpa using oW
      have n:=ki (s.o (.inr (.inr (.inr (.inr (.inr oW))))));have p:=q.o.num;have Y:=q.o.is;have d:=ki f;clear w0 K w2' w3' oW s S f;go_wp2_with (go_at_call 12;refine(DF a.o.1 V 1 C (fun x=>jk x C) (.inr ⟨rfl,rfl⟩) a.o.2.2.2.1).mono ?_;rintro e w3 ⟨rfl,r⟩;have A:=ki (qy (R:=R) a.o.2.2 q.o E.o (by rw[d.o]) r (by rw[d.o];exact dL _));clear r)
      go_meet
      exact⟨none,0,0,rfl,by rw[d.o],ki ⟨A.o,n.o⟩⟩
     have b4:(b == 4)=false:=by simpa using oW
     rw[if_neg oW] at f;by_cases oZ:b=5
     ·rw[if_pos oZ] at f;have b5:(b == 5)=true:=by simpa using oZ
      have d:=ki f;have H5:=ki oZ;clear w0 K w2' w3' oW oZ S f;go_upto_region 26 with fail
      have o:Below w2.heap.size w2 w2.drew:=(Below.refl _ _).drew;replace a:=ki (a.o.kept o);replace q:=ki (q.o.kept o);clear o;obtain⟨a1,v2,p,Y,q3,-⟩:=a.o.2.2.2.1.all;have lU:=ki q3;have q4:=q.o.sl;have q5:=aq.o _ a.o.below;clear q3;go_region_with (first|(go_at_call 13;refine(ap.o _ v2 (fun _=>lU.o) (fun h=>absurd H5.o h) (dZ.o _ a.o.below)).mono ?_;rintro e w3 ⟨b3,l3,k3,rfl,t,y⟩;have F:=ki (a.o.kept y);have a8:=ki (q.o.kept y);have H:=ki t;clear t y p Y q4 q5)|(go_at_call 10;refine(DC F.o.1 F.o.2.1 zs F.o.2.2.2.1 H.o.1 H.o.2.1 H.o.2.2).mono ?_;rintro e w4 ⟨a4,l4,c4,rfl,Q,v4⟩;rw[<-d.o] at Q v4;have A:=ki (qy F.o.2.2 a8.o E.o rfl v4 Q);have n:=ki (s.o (.inl H.o.1.2.2.1));clear Q v4))
      all_goals
       go_wp2_with fail
       go_meet
       exact⟨a4,l4,c4,rfl,by rw[d.o],ki ⟨A.o,n.o⟩⟩
     have b5:(b == 5)=false:=by simpa using oZ
     rw[if_neg oZ] at f;have d:=ki f;have H5:=ki oZ;have q4:=q.o.sl;have q5:=aq.o _ a.o.below;clear w0 K w2' w3' oW oZ S f;go_wp2_with (first|(go_at_call 13;refine(ap.o _ (.slice none 0 0) (fun h=>absurd h H5.o) (fun _=>rfl) (dZ.o _ a.o.below)).mono ?_;rintro e w3 ⟨b3,l3,k3,rfl,t,y⟩;have F:=ki (a.o.kept y);have a8:=ki (q.o.kept y);have H:=ki t;clear t y q4 q5)|(go_at_call 9;refine(hDZ F.o.1 F.o.2.1 br.o zs F.o.2.2.2.1 H.o.1 H.o.2.1 H.o.2.2).mono ?_;rintro e w4 ⟨a4,l4,c4,rfl,Q,v4⟩;rw[<-d.o] at Q v4;have A:=ki (qy F.o.2.2 a8.o E.o rfl v4 Q);have n:=ki (s.o (.inl H.o.1.2.2.1));clear Q v4))
     go_meet
     exact⟨a4,l4,c4,rfl,by rw[d.o],ki ⟨A.o,n.o⟩⟩
    case rest =>
     clear q E;obtain⟨a2,l2,c2,rfl,rfl,A⟩:=hcut;obtain⟨⟨bw,⟨P',a9⟩,hX⟩,bz⟩:=A.o;have n:=ki bz;have ae:=ki a9;have b6:=ki bw;have q4:=hX.sl;have q5:=aq.o _ a9.1.below;have Z:=ki a.o.1;clear A bw a9 hX bz a;go_upto_region 28 with(go_at_call 14;refine(KP b bW am an ao z' x l cc D' s' d' U V C c inj ka bk.length kc Z.o ap.o ae.o.1 (ar.o _ ae.o.1.below) D.o.1 D.o.2 (dZ.o _ ae.o.1.below) S.o).mono ?_;rintro e w5 ⟨x5,v5,rfl,rfl,⟨a5,nP,c5,rfl,r5⟩,n5⟩;obtain⟨DI,p5,k5,-⟩:=ae.o.left n5;have J:=ki r5;have z:=ki (show oU fG c inj G B R.2.2 DI P' w5 from⟨n.o.1,n.o.2,p5⟩);have I:=ki (k5.2 _ _ _ _ b6.o);clear q4 q5 r5 n5 p5 k5)
     clear ae b6 Z n ap aq ar D dZ S;go_upto_region 29 with(go_at_call 15;refine(KQ R.1 R.1 _ (cy.o.below (bt M.o.2 z.o.below))).mono ?_;rintro e w6 ⟨rfl,dR⟩;replace z:=ki (z.o.kept dR);replace J:=ki (J.o.below dR);replace I:=ki (I.o.below dR);clear dR)
     have o:Below w6.heap.size w6 w6.drew:=(Below.refl _ _).drew;replace z:=ki (z.o.kept o);replace J:=ki (J.o.below o);replace I:=ki (I.o.below o);clear o;obtain⟨a1,v2,hA⟩:=z.o.2.2.2.1.KR;have L:=ki hA;have aw:=ki (Below.refl w6.drew.heap.size w6.drew);obtain⟨p,Y,-,-⟩:=L.o _ aw.o;clear hA;go_region_held3 (fun W'=>W'.cell? ⟨B,23,none⟩=some (.pointer (some ⟨a1,0,none⟩))∧W'.cell? ⟨a1,1,none⟩=some v2)
      (first
       | exact⟨(L.o _ aw.o).1,(L.o _ aw.o).2.1⟩
       | exact⟨(L.o _ T.o).1,(L.o _ T.o).2.1⟩
       | exact⟨(L.o _ af.o).1,(L.o _ af.o).2.1⟩
       | go_keep)
      (first|(go_at_call 17;refine(KS z.o.1 z.o.2.2.1).mono ?_;rintro e w7 ⟨v7,rfl,b7,b8⟩;have b9:=ki b7;have T:=ki b8;clear b7 b8 p Y;obtain⟨p,Y,-,-⟩:=L.o _ T.o)|(go_at_call 16;refine(KT _ _ 0 0 R.2.2.bs _ b9.o (L.o _ T.o).2.2.1 (Nat.le_trans z.o.1.1.2.1 (by omega))).mono ?_;rintro e w8 ⟨rfl,ca⟩;have af:=ki (bt T.o ca);clear ca p Y;obtain⟨p,Y,-,-⟩:=L.o _ af.o))
     clear p Y b9;go_upto_region 30 with fail
     have o:=bt af.o (show Below w8.heap.size w8 w8.drew from(Below.refl _ _).drew);have cb:=ki (z.o.kept o);have cd:=(L.o _ o).2.2.2;have v1:=rX (J.o.below o);have r:=rX (I.o.below o);have qs:=zF J.o.2.2.1 J.o.2.2.1 true (by simp);have ce:=ki (And.intro v1 (And.intro r cd));clear L aw T af z J I o;go_region_held3 (fun W'=>(convert 37 9 (.slice a5 nP c5)).run prog W'=.ok (.string (P4.mU R.2.1)) W'∧(convert 37 9 (.slice a2 l2 c2)).run prog W'=.ok (.string (P4.mU R.2.1)) W'∧W'.cell? ⟨B,25,none⟩=some (.int .i64 R.2.2.now))
      (first
       | exact ce.o
       | go_keep)
      (first|(go_at_call 18;refine(KU cb.o.2.2.1).mono ?_;rintro e fK ⟨rfl,rfl⟩))
     clear v1 r cd qs ce;go_wp2;go_roundw
     case rel=>exact⟨kk+1,R.2.2,DI,P',by omega,by omega,by go_num,cb⟩
     case measure=>simp[intOf];omega
  ·have dB:¬(kk:Int)<(ln:Int)∨(kk=50∧(50:Int)<(ln:Int)):=by omega
   clear hlt;rcases dB with dB|⟨rfl,dB⟩;all_goals
    go_wp2;go_ret;exact⟨rfl,bt M.o.2 N.o.below⟩
end
end Go.Proofs.YtgcojnlngchllaaGreatDoor
