import Derived.Test.YtgcojnlngchllaaGreatDoorJ34
namespace Go.Proofs.YtgcojnlngchllaaGreatDoor
open Go.RowKit Tryz
set_option linter.unusedVariables false
set_option maxRecDepth 100000
set_option maxHeartbeats 40000000
section
attribute [local go_sem ↓] gP gV oJ
theorem Ux(G:Nat)(a:Option Addr)(cap:Nat)(tv:Value)(S:Nat)(ah:Nat->Prop)(β:Int->Nat)(g:GS)(f:List Int)(flags:Int)(lv:Value)(k:Nat)(w:World)(h:GC G a cap tv S ah β g w)(hi:fJ g)(hf:aW f=true)(hfn:bY g.bs f=some k): Calls prog 98 #[.pointer (some ⟨G,0,none⟩),.agg (ak f),.int .i64 flags,lv] w fun e w'=>e=.returned (.tuple #[.agg (ay (g.bs.getD k [])),.nilIface])∧kV w w.heap.size G a cap tv S ah β g (g.tab g.ws g.ts (g.bs.set k (bg (g.bs.getD k []) g.now))) w':=by
 have E:=ki (gL.start f h);have M:=ki h;obtain⟨T,U,N,t4,t5⟩:=hi;obtain⟨hk,F,_⟩:=nN hfn;have q:=ki (fun W (hW:gL w G a cap tv S ah β g f W)=>yD.2.1 tv g.m g.ws g.ts g.bs ah W f (g.bs.getD k []) 0 T U N hW.1.2.2.1 (.inr (.inr ⟨hf,k,hfn,rfl,rfl⟩)));have H:=ki (fun W (hW:gL w G a cap tv S ah β g f W)=>tu.2.2.2.2.1 tv g.m g.ws g.ts g.bs ah W (el (g.bs.getD k []) 19) g.now 0 _ T U N hW.1.2.2.1 (.inr (.inr (.inr ⟨k,yM N.2.1 hk,t4,by have:=t5 _ F;omega,rfl,rfl⟩))));rw[jW] at q H;generalize hx:g.bs.getD k []=x at q H⊢;clear hx;have n:=ki (show ∀W',gL w G a cap tv S ah β g f W'->W'.cell? ⟨G,23,none⟩=some tv∧(bO (.pointer (some ⟨w.heap.size,0,none⟩))).run prog W'=.ok (.agg (ak f)) W' from fun W' h=>⟨h.1.1.table,h.2.1.fl⟩);have V:=ki (fun W=>fu W);unfold aV at E V;clear h hf hfn T U N t4 t5 hk F;go_enter func98,ntmps98;go_upto_region 1 with fail
 generalize (World.alloc _ _).alloc _=W at E⊢;have A:=ki (show w.heap.size+1<W.heap.size from E.o.2.2.1.lt);have r:=ki (E.o.kept (show Below W.heap.size W W.drew from(Below.refl _ _).drew));have s:=ki (E.o.kept (show Below W.heap.size W (W.alloc (.cells aV 95)).drew from(au W _).drew));have I:=ki (show aJ W.heap.size [] (W.alloc (.cells aV 95)).drew from fu W);unfold aV at s I;obtain⟨o,p⟩:=n.o _ r.o;go_cut [10,11] from 10 to 71 (fun u v wx=>(∃D,u=.pointer (some ⟨D,0,none⟩)∧Hid (aJ D x wx∧w.heap.size+1<D))∧v=.nilIface∧Hid (gL w G a cap tv S ah β g f wx))
 case first =>
  go_region_held3 (fun W'=>W'.cell? ⟨G,23,none⟩=some tv∧(bO (.pointer (some ⟨w.heap.size,0,none⟩))).run prog W'=.ok (.agg (ak f)) W')
   (first
    | exact n.o _ r.o
    | exact n.o _ s.o
    | exact n.o _ d.o
    | exact n.o _ C.o
    | exact n.o _ J.o
    | go_keep)
   (first|(go_at_call 144;refine(q.o _ r.o).mono ?_;rintro e O ⟨rfl,l⟩;have d:=ki (r.o.kept l);have C:=ki (d.o.kept (au O (.cells aV 95)));obtain⟨t,k6,y,b⟩:=(V.o O).held x;have P:=ki (show w.heap.size+1<O.heap.size from d.o.2.2.1.lt);unfold aV at C;have J:=ki (C.o.only M.o b P.o);have B:=ki (And.intro y P.o);clear l o p y b;obtain⟨o,p⟩:=n.o _ d.o)|(go_at_call 144;refine(q.o _ s.o).mono ?_;rintro e O ⟨rfl,l⟩;have d:=ki (s.o.kept l);have C:=d;obtain⟨t,k6,y,b⟩:=(I.o.kept l).held x;have J:=ki (d.o.only M.o b A.o);have B:=ki (And.intro y A.o);clear l o p y b;obtain⟨o,p⟩:=n.o _ d.o))
  all_goals
   go_wp2_with fail
   go_meet
   exact⟨⟨_,rfl,B⟩,rfl,J⟩
 case rest =>
  obtain⟨⟨D,rfl,B⟩,rfl,HQ⟩:=hcut;clear r s I o p E A q n V;go_upto_region 3 with fail
  have i:=ki (HQ.o.kept (show Below wc.heap.size wc wc.drew from(Below.refl _ _).drew));have z:=ki (show aJ D x wc.drew from B.o.1);have A:=ki (show w.heap.size+1<D∧D<wc.heap.size from⟨B.o.2,B.o.1.lt⟩);have o:=z.o.bl;have p:=i.o.1.1.table;have X:=z.o.cell 19 (by omega);have Y:=i.o.1.1.now;clear B HQ;go_region_held3 (fun W'=>(iN (.pointer (some ⟨D,0,none⟩))).run prog W'=.ok (.agg (ay x)) W'∧W'.cell? ⟨G,23,none⟩=some tv∧W'.cell? ⟨D,19,none⟩=some (.int .i64 (el x 19))∧W'.cell? ⟨G,25,none⟩=some (.int .i64 g.now))
   (first
    | exact⟨z.o.bl,i.o.1.1.table,z.o.cell 19 (by omega),i.o.1.1.now⟩
    | exact S5.o
    | exact S6.o
    | go_keep)
   (first|(go_at_call 103;refine(H.o _ i.o).mono ?_;rintro e K ⟨rfl,kI⟩;obtain⟨Z,b2,b3,b4,b5⟩:=i.o.tab M.o kI;have L:=ki (b5 D x z.o (by have:=A.o;omega));obtain⟨t,k6,y,b⟩:=b2.held x;have Q:=ki (Z.put rfl M.o b2 b (Nat.le_succ _) (by have:=A.o;have:=i.o.2.2.1.lt;omega));have S5:=ki (show(iN (.pointer (some ⟨D,0,none⟩))).run prog K=.ok (.agg (ay x)) K∧K.cell? ⟨G,23,none⟩=some tv∧K.cell? ⟨D,19,none⟩=some (.int .i64 (el x 19))∧K.cell? ⟨G,25,none⟩=some (.int .i64 g.now) by obtain⟨_,c1,_⟩:=Z;exact⟨L.o.bl,c1.1.table,L.o.cell 19 (by omega),c1.1.now⟩);have R:=ki (show aJ D x t from(b.2.2.2.2 D (by have:=A.o;omega)).trans L.o);have S6:=ki (show(iN (.pointer (some ⟨D,0,none⟩))).run prog t=.ok (.agg (ay x)) t∧t.cell? ⟨G,23,none⟩=some tv∧t.cell? ⟨D,19,none⟩=some (.int .i64 (el x 19))∧t.cell? ⟨G,25,none⟩=some (.int .i64 g.now) by obtain⟨_,c1,_⟩:=Q.o;exact⟨R.o.bl,c1.1.table,R.o.cell 19 (by omega),c1.1.now⟩);have bW:=ki y;clear o p X Y Z b2 b3 b4 b5 y b kI;obtain⟨o,p,X,Y⟩:=S5.o))
  all_goals
   clear o p X Y;go_wp2;try simp only[Exit.inBlock,Exit.then]
   refine bodyPost_ret (iW rfl _ _ (w.heap.size+1) x rfl bW.o) rfl ?_;exact⟨rfl,Q.o.end (by have:=i.o.2.2.2.size;omega)⟩
end
section
variable {g:GS}{f:List Int}
theorem oL{flags:Int}{wr:Int×Int×Int}{k:Nat}(h:bY g.bs f=some k):bE g f flags wr=(0,g.bs.getD k [],g.tab g.ws g.ts (g.bs.set k (bg (g.bs.getD k []) g.now))):=by unfold bE;rw[h]
theorem mP{flags:Int}{wr:Int×Int×Int}(h:bY g.bs f=none):bE g f flags wr=if el f 0=6∧¬(flags/2%2=1∧flags/16%2=0) then (9,[],g) else if wr.2.2≠0 then (wr.2.2,[],g) else match tk g.ws g.ts (cli f) (8*g.m) with
   | none=>(3,[],g)
   | some i=>(0,bL f (1024+(i:Int)) wr.1 wr.2.1 g.now,g.tab (upd g.ws i (cli f)) (upd g.ts i true) (ins (bL f (1024+(i:Int)) wr.1 wr.2.1 g.now) g.bs)):=by unfold bE;simp only[h];rfl
def jM(g:GS)(f:List Int)(wr:Int×Int×Int):Int×List Int×GS:=match tk g.ws g.ts (cli f) (8*g.m) with
 | none=>(3,[],g)
 | some i=>(0,bL f (1024+(i:Int)) wr.1 wr.2.1 g.now,g.tab (upd g.ws i (cli f)) (upd g.ts i true) (ins (bL f (1024+(i:Int)) wr.1 wr.2.1 g.now) g.bs))
theorem Uy(g:GS)(f:List Int)(wr:Int×Int×Int):(jM g f wr).2.2.ss=g.ss∧(jM g f wr).2.2.now=g.now:=by unfold jM;split<;>exact⟨rfl,rfl⟩
theorem Uz{G:Nat}{a:Option Addr}{cap:Nat}{tv:Value}{S:Nat}{ah:Nat->Prop}{β:Int->Nat}{wr:Int×Int×Int}{W:World}(h:GC G a cap tv S ah β g W)(hi:fJ g)(hf:aW f=true)(hfn:bY g.bs f=none)(h1:fr wr.1=true)(h2:wd wr.2.1=true): Calls prog 145 #[tv,.agg (ak f),.int .i64 wr.1,.int .i64 wr.2.1,.int .i64 g.now] W fun r w'=>r=.returned (.tuple #[.agg (ay (jM g f wr).2.1),ev (jM g f wr).1])∧gH iX tv g.m (jM g f wr).2.2.ws (jM g f wr).2.2.ts (jM g f wr).2.2.bs ah W w':=by
 obtain⟨d,e,k,l,n⟩:=hi;have b:(fr wr.1 && wd wr.2.1 && tc g.now)=true:=by rw[h1,h2,l];rfl
 unfold jM;cases ht:tk g.ws g.ts (cli f) (8*g.m) with
 | none=>exact tu.2.2.2.1 tv g.m g.ws g.ts g.bs ah W f wr.1 wr.2.1 g.now [] 3 g.ws g.ts g.bs d e k h.2.2.1 (.inr (.inr (.inr (.inl ⟨hf,b,hfn,ht,rfl,rfl,rfl,rfl,rfl⟩))))
 | some i=>exact tu.2.2.2.1 tv g.m g.ws g.ts g.bs ah W f wr.1 wr.2.1 g.now _ 0 _ _ _ d e k h.2.2.1 (.inr (.inr (.inr (.inr ⟨hf,b,hfn,i,ht,rfl,rfl,rfl,rfl,rfl⟩))))
theorem UA(g:GS)(f:List Int)(wr:Int×Int×Int):g.tab (jM g f wr).2.2.ws (jM g f wr).2.2.ts (jM g f wr).2.2.bs=(jM g f wr).2.2:=by unfold jM;split<;>rfl
attribute [local go_sem ↓] gP gV oJ
theorem I5(G:Nat)(a:Option Addr)(cap:Nat)(tv:Value)(S:Nat)(ah:Nat->Prop)(β:Int->Nat)(g:GS)(f:List Int)(flags:Int)(gf:Nat)(lb:Array Value)(wr:Int×Int×Int)(w:World)(h:GC G a cap tv S ah β g w)(hi:fJ g)(hf:aW f=true)(hfl:0<=flags∧flags<=31)(hfn:bY g.bs f=none)(eg:∀args w,(callFunc gf args).run prog w=.ok (.enter gf args) w)(hw:∀W,Below w.heap.size w W->Calls prog gf lb W fun e w'=>e=.returned (.tuple #[.int .i64 wr.1,.int .i64 wr.2.1,ev wr.2.2])∧Below W.heap.size W w')(hwr:wr.2.2=0->fr wr.1=true∧wd wr.2.1=true): Calls prog 98 #[.pointer (some ⟨G,0,none⟩),.agg (ak f),.int .i64 flags,.func (.func gf) #[] lb] w fun e w'=>e=.returned (.tuple #[.agg (ay (bE g f flags wr).2.1),ev (bE g f flags wr).1])∧kV w w.heap.size G a cap tv S ah β g (bE g f flags wr).2.2 w':=by
 have K:=ki (gL.start f h);have L:=ki h;have s:=ki (fun W (hW:gL w G a cap tv S ah β g f W)=>yD.2.1 tv g.m g.ws g.ts g.bs ah W f [] 4 hi.1 hi.2.1 hi.2.2.1 hW.1.2.2.1 (.inr (.inl ⟨hf,hfn,rfl,rfl⟩)));rw[show ev 4=err 4 from rfl] at s;unfold err at s;have t:=ki (fun (h0:wr.2.2=0) W (hW:gL w G a cap tv S ah β g f W)=>Uz hW.1 hi hf hfn (hwr h0).1 (hwr h0).2);have H:=ki (UA g f wr);have l:=ki (Uy g f wr);have n:=ki (show bE g f flags wr=if el f 0=6∧¬(flags/2%2=1∧flags/16%2=0) then (9,[],g) else if wr.2.2≠0 then (wr.2.2,[],g) else jM g f wr from mP hfn);generalize jM g f wr=M at t H l n;generalize bE g f flags wr=R at n⊢;have ha:=Uw flags hfl.1 hfl.2;have E:=ki hw;have k:=ki (show ∀W',gL w G a cap tv S ah β g f W'->W'.cell? ⟨G,23,none⟩=some tv∧(bO (.pointer (some ⟨w.heap.size,0,none⟩))).run prog W'=.ok (.agg (ak f)) W' from fun W' h=>⟨h.1.1.table,h.2.1.fl⟩);have bX:=ki (fun W=>fu W);unfold aV at K bX;clear h hi hf hfn hw hwr hfl;go_enter func98,ntmps98;go_upto_region 1 with fail
 generalize (World.alloc _ _).alloc _=W at K⊢;have HD:=ki (show w.heap.size+1<W.heap.size from K.o.2.2.1.lt);have x:=ki (K.o.kept (show Below W.heap.size W W.drew from(Below.refl _ _).drew));have y:=ki (K.o.kept (show Below W.heap.size W (W.alloc (.cells aV 95)).drew from(au W _).drew));have Q:=ki (show aJ W.heap.size [] (W.alloc (.cells aV 95)).drew from fu W);unfold aV at y Q;obtain⟨q,r⟩:=k.o _ x.o;go_cut [10,11] from 10 to 71 (fun u v wx=>(∃D,u=.pointer (some ⟨D,0,none⟩))∧v=.iface 28 (.int .i64 4)∧Hid (gL w G a cap tv S ah β g f wx))
 case first =>
  go_region_held3 (fun W'=>W'.cell? ⟨G,23,none⟩=some tv∧(bO (.pointer (some ⟨w.heap.size,0,none⟩))).run prog W'=.ok (.agg (ak f)) W')
   (first
    | exact k.o _ x.o
    | exact k.o _ y.o
    | exact k.o _ i.o
    | exact k.o _ I.o
    | exact k.o _ T.o
    | go_keep)
   (first|(go_at_call 144;refine(s.o _ x.o).mono ?_;rintro e X ⟨rfl,o⟩;have i:=ki (x.o.kept o);have I:=ki (i.o.kept (au X (.cells aV 95)));obtain⟨N,k6,O,b⟩:=(bX.o X).held [];have ai:=ki (show w.heap.size+1<X.heap.size from i.o.2.2.1.lt);unfold aV at I;have T:=ki (I.o.only L.o b ai.o);clear o q r O b;obtain⟨q,r⟩:=k.o _ i.o)|(go_at_call 144;refine(s.o _ y.o).mono ?_;rintro e X ⟨rfl,o⟩;have i:=ki (y.o.kept o);have I:=i;obtain⟨N,k6,O,b⟩:=(Q.o.kept o).held [];have T:=ki (i.o.only L.o b HD.o);clear o q r O b;obtain⟨q,r⟩:=k.o _ i.o))
  all_goals
   go_wp2_with fail
   go_meet
   exact⟨⟨_,rfl⟩,rfl,T⟩
 case rest =>
  obtain⟨⟨D,rfl⟩,rfl,d⟩:=hcut;clear x y Q q r K HD s bX;by_cases hst:el f 0=6∧¬(flags/2%2=1∧flags/16%2=0)
  ·have z:=ki (show R=(9,[],g) by rw[n.o,if_pos hst]);rw[decide_eq_true hst.2] at ha;have e6:(el f 0 == 6)=true:=by simpa using hst.1
   have l0:=d.o.2.1.cell 0 (by omega);clear n hst t H l E;go_wp2_with (refine fF rfl (.tmp 8) (.tmp 46) rfl rfl d.o.2.2.1 [] rfl ?_;intro P F A;have U:=ki (A.below d.o.2.2.2 (Nat.le_succ _));replace F:=ki F;clear A)
   try simp only[Exit.inBlock,Exit.then]
   refine bodyPost_ret (iW rfl _ _ (w.heap.size+1) [] rfl F.o) rfl ?_;rw[z.o];exact⟨rfl,gL.still L.o U.o⟩
  ·have B:(el f 0 == 6)=false∨((el f 0 == 6)=true∧(bits .and .i64 flags 18 != 2)=false):=by
    by_cases h6:el f 0=6
    ·refine .inr ⟨by simpa using h6,?_⟩;rw[ha];exact decide_eq_false (fun h=>hst ⟨h6,h⟩)
    ·exact .inl (by simpa using h6)
   have J:=ki (show R=if wr.2.2≠0 then (wr.2.2,[],g) else M by rw[n.o,if_neg hst]);clear n hst ha;have l0:=d.o.2.1.cell 0 (by omega);go_upto_region 4 with fail
   go_cut [45] from 38 to 45 (fun u wx=>u=.bool false∧wx=wc)
   case first =>
    rcases B with e6|⟨e6,e18⟩;all_goals
     go_wp2_with fail
     go_meet
     exact⟨rfl,rfl⟩
   case rest =>
    obtain⟨rfl,rfl⟩:=hcut;clear l0 B;by_cases h0:wr.2.2=0
    ·have z:=ki (show R=M by rw[J.o,if_neg (fun h=>h h0)]);have HM:=ki (t.o h0);rw[h0,jW] at E;clear J t h0;go_upto_region 9 with(go_at_fn gf;refine(E.o _ d.o.2.2.2).mono ?_;rintro e V ⟨rfl,C⟩;replace d:=ki (d.o.kept C);clear C)
     rename World=>V
     have p:=ki (d.o.kept (show Below V.heap.size V V.drew from(Below.refl _ _).drew));have HS:=ki (show ∀W',gL w G a cap tv S ah β g f W'->W'.cell? ⟨G,23,none⟩=some tv∧(bO (.pointer (some ⟨w.heap.size,0,none⟩))).run prog W'=.ok (.agg (ak f)) W'∧W'.cell? ⟨G,25,none⟩=some (.int .i64 g.now) from fun W' h=>⟨h.1.1.table,h.2.1.fl,h.1.1.now⟩);clear d k E;obtain⟨q,r,q3⟩:=HS.o _ p.o;go_region_held3 (fun W'=>W'.cell? ⟨G,23,none⟩=some tv∧(bO (.pointer (some ⟨w.heap.size,0,none⟩))).run prog W'=.ok (.agg (ak f)) W'∧W'.cell? ⟨G,25,none⟩=some (.int .i64 g.now))
      (first
       | exact HS.o _ p.o
       | exact S5.o
       | exact S6.o
       | go_keep)
      (first|(go_at_call 145;refine(HM.o _ p.o).mono ?_;rintro e P ⟨rfl,kI⟩;obtain⟨Y,b2,b3,b4,b5⟩:=p.o.tab L.o kI;rw[H.o] at Y;obtain⟨N,k6,O,b⟩:=b2.held M.2.1;have Z:=ki (Y.put l.o.1 L.o b2 b (Nat.le_succ _) p.o.2.2.1.lt);have S5:=ki (show P.cell? ⟨G,23,none⟩=some tv∧(bO (.pointer (some ⟨w.heap.size,0,none⟩))).run prog P=.ok (.agg (ak f)) P∧P.cell? ⟨G,25,none⟩=some (.int .i64 g.now) by obtain⟨_,c1,_⟩:=Y;have c2:=c1.1.now;rw[l.o.2] at c2;exact⟨c1.1.table,b3.fl,c2⟩);have S6:=ki (show N.cell? ⟨G,23,none⟩=some tv∧(bO (.pointer (some ⟨w.heap.size,0,none⟩))).run prog N=.ok (.agg (ak f)) N∧N.cell? ⟨G,25,none⟩=some (.int .i64 g.now) by obtain⟨_,c1,_⟩:=Z.o;have c2:=c1.1.now;rw[l.o.2] at c2;exact⟨c1.1.table,bn.fl ((b.2.2.2.2 _ (by omega)).trans b3),c2⟩);have ap:=ki O;clear q r q3 Y b2 b3 b4 b5 O b kI;obtain⟨q,r,q3⟩:=S5.o))
     all_goals
      clear q r q3;go_wp2;try simp only[Exit.inBlock,Exit.then]
      refine bodyPost_ret (iW rfl _ _ (w.heap.size+1) M.2.1 rfl ap.o) rfl ?_;rw[z.o];exact⟨rfl,Z.o.end (by have:=p.o.2.2.2.size;omega)⟩
    ·have z:=ki (show R=(wr.2.2,[],g) by rw[J.o,if_pos h0]);rw[iY h0] at E;have HE:=ki (iY h0);unfold err at E;clear J t h0 H l k;go_wp2_with (first|(go_at_fn gf;refine(E.o _ d.o.2.2.2).mono ?_;rintro e V ⟨rfl,C⟩;replace d:=ki (d.o.kept C);clear C)|(refine fF rfl (.tmp 8) (.tmp 56) rfl rfl d.o.2.2.1 [] rfl ?_;intro P F A;have U:=ki (A.below d.o.2.2.2 (Nat.le_succ _));replace F:=ki F;clear A))
     try simp only[Exit.inBlock,Exit.then]
     refine bodyPost_ret (iW rfl _ _ (w.heap.size+1) [] rfl F.o) rfl ?_;rw[z.o];exact⟨by rw[HE.o];rfl,gL.still L.o U.o⟩
end
section
variable {g g':GS}{p:Int}{β:Int->Nat}{G S cap:Nat}{ah:Nat->Prop}{a:Option Addr}{tv:Value}{W w:World}
theorem vG:prog.underlying 78 = some (.map 3 237):=underlying78
theorem UC(w:World):(zeroValue 237).run prog w=.ok (.pointer none) w:=by kernel_rfl
def Cc(m x:Value)(c:Bool):Sem Value:=Instr.lookup 78 m x c
theorem Ce(m x:Value)(c:Bool):Instr.lookup 78 m x c=Cc m x c:=rfl
def I6(m k v:Value):Sem Unit:=Instr.mapUpdate 78 m k v
theorem UD(m k v:Value):Instr.mapUpdate 78 m k v=I6 m k v:=rfl
theorem je.yes{ss:List (Int×List Int×Int×Bool×Bool)}(h:je S β ss w){x:Int×List Int×Int×Bool×Bool}(hx:x∈ss):(Cc (.map (some S)) (.int .i64 x.1) true).run prog w=.ok (.tuple #[.pointer (some ⟨β x.1,0,none⟩),.bool true]) w :=
 h.1.vo ou vG ⟨_,rfl⟩ (List.mem_map.2 ⟨x,hx,rfl⟩) true
theorem je.no{ss:List (Int×List Int×Int×Bool×Bool)}(h:je S β ss w)(hp:∀x∈ss,x.1≠p):(Cc (.map (some S)) (.int .i64 p) true).run prog w=.ok (.tuple #[.pointer none,.bool false]) w :=
 h.1.Bu ou vG (UC w) ⟨_,rfl⟩ (fun q hq e=>by
  obtain⟨x,hx,rfl⟩:=List.mem_map.1 hq;unfold sE at e;injection e with _ e
  exact hp x hx e) true
def iF(β:Int->Nat)(p:Int)(B:Nat):Int->Nat:=fun q=>if q=p then B else β q
theorem UE{B:Nat}{ss:List (Int×List Int×Int×Bool×Bool)}(hp:∀x∈ss,x.1≠p):ss.map (sE (iF β p B))=ss.map (sE β):=by
 refine List.map_congr_left fun x hx=>?_
 unfold sE iF;rw[if_neg (hp x hx)]
theorem GC.add(h:GC G a cap tv S ah β g W)(hp:∀x∈g.ss,x.1≠p){B:Nat}{hd:List Int}{s:Int}{b hh:Bool}(st:ST 304 B hd s b hh W)(hB:¬GO G a ah (SO S β g.ss) B): ∃W',(I6 (.map (some S)) (.int .i64 p) (.pointer (some ⟨B,0,none⟩))).run prog W=.ok () W'∧GC G a cap tv S ah (iF β p B) (g.str ((p,hd,s,b,hh)::g.ss)) W'∧Only S W W':=by
 obtain⟨l,n,A⟩:=h.2.2.2.2;obtain⟨W',C,D,d⟩:=h.2.2.2.1.1.Bv ou vG (x:=.int .i64 p) (.pointer (some ⟨B,0,none⟩)) ⟨_,rfl⟩ (fun q hq e=>by
  obtain⟨x,hx,rfl⟩:=List.mem_map.1 hq;unfold sE at e;injection e with _ e
  exact hp x hx e)
 have o:SO S β g.ss S:=.inl rfl;have nb:∀j x,W.cell? ⟨S,j,none⟩≠some (.int .u8 x):=fun j x=>h.2.2.2.1.1.nb j _
 have f:∀k,SO S (iF β p B) ((p,hd,s,b,hh)::g.ss) k->k=B∨SO S β g.ss k:=by
  rintro k (h1|⟨x,hx,h1⟩)
  ·exact .inr (.inl h1)
  ·rcases List.mem_cons.1 hx with rfl|hx
   ·exact .inl (by rw[h1];exact if_pos rfl)
   ·exact .inr (.inr ⟨x,hx,by rw[h1];exact if_neg (hp x hx)⟩)
 refine⟨W',C,⟨h.1.same (d.2.2.2.2 G (fun e=>l.2.2 (e ▸ o))),⟨h.2.1.1.same (fun k hk=>d.2.2.2.2 k (fun e=>(n k hk).2 (e ▸ o))),fun k hk=>by rw[d.2.2.2.1];exact h.2.1.2.1 k hk,h.2.1.2.2⟩,(fZ _ _ _ _ _ _ _ h.2.2.1).2 W' (by rw[d.2.2.2.1];exact Nat.le_refl _) (fun k hk=>d.2.2.2.2 k (fun e=>A k hk (e ▸ o))),⟨?_,fun x hx=>?_,fun x hx y hy e=>?_⟩,⟨l.1,l.2.1,fun hs=>?_⟩,fun k hk=>⟨(n k hk).1,fun hs=>?_⟩,fun k hk hs=>?_⟩,d⟩
 ·show aY iP S (sE (iF β p B) (p,hd,s,b,hh)::g.ss.map (sE (iF β p B))) W';rw[UE hp,show sE (iF β p B) (p,hd,s,b,hh)=(.int .i64 p,.pointer (some ⟨B,0,none⟩)) by unfold sE iF;simp];exact D
 ·rcases List.mem_cons.1 hx with rfl|hx
  ·show ST _ (iF β p B p) _ _ _ _ _;rw[show iF β p B p=B from if_pos rfl];obtain⟨r,t,v,i,w,z⟩:=st;exact⟨r,t,v,(d.2.2.2.2 B (fun e=>hB (.inr (.inr (.inr (.inl e)))))).trans i,w.jh nb d,z⟩
  ·rw[show iF β p B x.1=β x.1 from if_neg (hp x hx)];obtain⟨r,t,v,i,w,z⟩:=h.2.2.2.1.2.1 x hx;refine⟨r,t,v,(d.2.2.2.2 _ (fun e=>?_)).trans i,w.jh nb d,z⟩;rw[e] at i;exact h.2.2.2.1.1.nG i
 ·rcases List.mem_cons.1 hx with rfl|hx<;>rcases List.mem_cons.1 hy with rfl|hy
  ·rfl
  ·rw[show iF β p B y.1=β y.1 from if_neg (hp y hy),show iF β p B p=B from if_pos rfl] at e;exact absurd (.inr (.inr (.inr (.inr ⟨y,hy,e⟩)))) hB
  ·rw[show iF β p B x.1=β x.1 from if_neg (hp x hx),show iF β p B p=B from if_pos rfl] at e;exact absurd (.inr (.inr (.inr (.inr ⟨x,hx,e.symm⟩)))) hB
  ·rw[show iF β p B x.1=β x.1 from if_neg (hp x hx),show iF β p B y.1=β y.1 from if_neg (hp y hy)] at e;exact h.2.2.2.1.2.2 x hx y hy e
 ·rcases f G hs with h1|h1
  ·exact hB (.inl h1.symm)
  ·exact l.2.2 h1
 ·rcases f k hs with h1|h1
  ·exact hB (.inr (.inl (h1 ▸ hk)))
  ·exact(n k hk).2 h1
 ·rcases f k hs with h1|h1
  ·exact hB (.inr (.inr (.inl (h1 ▸ hk))))
  ·exact A k hk h1
def gu(w:World)(G:Nat)(a:Option Addr)(cap:Nat)(tv:Value)(S:Nat)(ah:Nat->Prop)(β:Int->Nat)(g g':GS)(w':World):Prop:=∃bI β',GC G a cap tv S bI β' g' w'∧aL (GO G a ah (SO S β g.ss)) w w'∧∀k,GO G a bI (SO S β' g'.ss) k->GO G a ah (SO S β g.ss) k∨w.heap.size<=k
theorem kV.UF(h:kV w w.heap.size G a cap tv S ah β g g' W)(hss:g'.ss=g.ss):gu w G a cap tv S ah β g g' W:=by
 obtain⟨b,d,e,f⟩:=h;refine⟨b,β,d,e,?_⟩;rw[hss];rintro k (h1|h1|h1|h1)
 ·exact .inl (.inl h1)
 ·exact .inl (.inr (.inl h1))
 ·exact(f k h1).imp (fun h=>.inr (.inr (.inl h))) id
 ·exact .inl (.inr (.inr (.inr h1)))
theorem GC.still(h0:GC G a cap tv S ah β g w)(hb:Below w.heap.size w W):gu w G a cap tv S ah β g g W:=⟨ah,β,h0.kept hb,aL.of hb,fun _ hk=>.inl hk⟩
theorem gu.trans{g'':GS}{W':World}{bI:Nat->Prop}{β':Int->Nat}(q2:aL (GO G a ah (SO S β g.ss)) w W)(q3:∀k,GO G a bI (SO S β' g'.ss) k->GO G a ah (SO S β g.ss) k∨w.heap.size<=k)(h:gu W G a cap tv S bI β' g' g'' W'):gu w G a cap tv S ah β g g'' W':=by
 obtain⟨b,kJ,r1,d,e⟩:=h;refine⟨b,kJ,r1,q2.trans d q3,fun k hk=>?_⟩;rcases e k hk with h1|h1
 ·exact q3 k h1
 ·exact .inr (Nat.le_trans q2.size h1)
theorem gu.kept{W':World}(h:gu w G a cap tv S ah β g g' W)(hb:Below W.heap.size W W'):gu w G a cap tv S ah β g g' W':=by obtain⟨b,β',d,e,f⟩:=h;exact⟨b,β',d.kept hb,e.trans (aL.of (O:=fun _=>False) hb) (fun _ h=>h.elim),f⟩
attribute [local go_sem ↓] gP Ce UD
theorem UG(G:Nat)(a:Option Addr)(cap:Nat)(tv:Value)(S:Nat)(ah:Nat->Prop)(β:Int->Nat)(g:GS)(b:List Int)(x:Int×List Int×Int×Bool×Bool)(w:World)(h:GC G a cap tv S ah β g w)(hx:x∈g.ss)(hb:x.1=el b 19): Calls prog 146 #[.pointer (some ⟨G,0,none⟩),.agg (ay b)] w fun e w'=>e=.returned (.tuple #[.pointer (some ⟨β x.1,0,none⟩),.nilIface])∧Below w.heap.size w w':=by
 have d:=au w (.cells (ay b) 95);have hc:=h.kept d;have o:=hc.1.streams;have i:=(nA b w).cell 19 (by omega);have f:=fun k=>je.yes (w:=(w.alloc (.cells (ay b) 95)).drewN k) ((h.kept (jN d k)).2.2.2.1) hx
 rw[hb] at f;rw[<-hb] at i f;have l:=ki (fun n=>jN d n);clear h hx hc d;rw[hb] at i f⊢;go_enter func146,ntmps146;go_upto_region 1 with fail
 go_quiet (fail)
 go_wp2;go_ret2;exact⟨rfl,l.o _⟩
theorem UH(G:Nat)(a:Option Addr)(cap:Nat)(tv:Value)(S:Nat)(ah:Nat->Prop)(β:Int->Nat)(g:GS)(b:List Int)(w:World)(h:GC G a cap tv S ah β g w)(hp:∀x∈g.ss,x.1≠el b 19)(hf:aW b=true): Calls prog 146 #[.pointer (some ⟨G,0,none⟩),.agg (ay b)] w fun e w'=>∃B,e=.returned (.tuple #[.pointer (some ⟨B,0,none⟩),.nilIface])∧w.heap.size<=B∧GC G a cap tv S ah (iF β (el b 19) B) (g.str ((el b 19,hb b,0,false,false)::g.ss)) w'∧aL (GO G a ah (SO S β g.ss)) w w':=by
 have f:=au w (.cells (ay b) 95);have H:=(h.kept f).1.streams;have I:=(nA b w).cell 19 (by omega);have P:=fun k=>je.no (w:=(w.alloc (.cells (ay b) 95)).drewN k) ((h.kept (jN f k)).2.2.2.1) hp
 have i:=ki (nA b w);have A:=ki (fun n=>show aJ w.heap.size b ((w.alloc (.cells (ay b) 95)).drewN n) from nA b w);have C:=ki (fun n=>jN f n);have Q:=ki (show ∀W,Calls prog 201 #[.agg (ak b)] W fun e w'=>∃ao c,e=.returned (.tuple #[.slice ao 52 c,.nilIface])∧aj w' ao 52 c (hb b)∧Below W.heap.size W w' from fun W=>(NU b W).mono fun e w' ⟨v,e1,e2,_,e4⟩=>by obtain⟨U,c1,rfl,_,_,_,_,r⟩:=(e2 hf).form (by rw[zx];omega);rw[hf] at e1;exact⟨_,_,e1,r,e4⟩);have R:=ki (fun W ao c (r:aj W ao 52 c (hb b))=>MB ao 52 c (hb b) W (by omega) r);have J:=ki h;have L:=ki hp;clear h hp hf f;go_enter func146,ntmps146;go_upto_region 1 with fail
 go_quiet (fail)
 clear H I P i;generalize hW:World.drewN _ _=W1;have i:Hid (aJ w.heap.size b W1):=by rw[<-hW];exact A.o _
 have f:Hid (Below w.heap.size w W1):=by rw[<-hW];exact C.o _
 clear hW A C;have l:=i.o.ff;go_upto_region 10 with(first|(go_at_call 201;refine(Q.o _).mono ?_;rintro e V ⟨T,c2,rfl,t,o⟩;replace i:=ki (i.o.kept o);replace f:=ki (bt f.o o);replace t:=ki t;clear o l)|(go_at_call 202;refine(R.o _ T c2 t.o).mono ?_;rintro e y ⟨M,rfl,p,D,q⟩;have E:=ki (Nat.le_trans f.o.size D);replace i:=ki (i.o.kept q);replace f:=ki (bt f.o q);replace p:=ki p;clear q D t))
 have z:=ki (J.o.kept (show Below w.heap.size w y.drew from f.o.drew));have s:=ki (show aJ w.heap.size b y.drew from i.o);obtain⟨K,X,g4,d⟩:=z.o.add L.o (show ST _ M _ _ _ _ y.drew from p.o) (fun hk=>by have:=J.o.lt hk;have:=E.o;omega);have N:=ki (show aL (GO G a ah (SO S β g.ss)) w K from((aL.of f.o.drew).trans (show aL (GO G a ah (SO S β g.ss)) y.drew K from⟨⟨d.1,d.2.1,d.2.2.1,by rw[d.2.2.2.1];exact Nat.le_refl _,fun k _ hn=>d.2.2.2.2 k (fun e=>hn (.inr (.inr (.inr (.inl e)))))⟩,fun _ _ _ _ r=>r.jh (fun j x=>z.o.2.2.2.1.1.nb j _) d⟩) (fun k hk=>.inl hk)));have F:=ki g4;have O:=ki (show aJ w.heap.size b K from(d.2.2.2.2 _ (fun e=>by have:=J.o.2.2.2.1.1.lt;omega)).trans s.o);clear g4 d;have H:=z.o.1.streams;have I:=s.o.cell 19 (by omega);go_region_held3 (fun W'=>W'.cell? ⟨G,24,none⟩=some (.map (some S))∧W'.cell? ⟨w.heap.size,19,none⟩=some (.int .i64 (el b 19)))
  (first
   | exact⟨z.o.1.streams,s.o.cell 19 (by omega)⟩
   | exact⟨F.o.1.streams,O.o.cell 19 (by omega)⟩
   | go_keep)
  (fail)
 all_goals
  clear H I;go_wp2;go_ret2;exact⟨M,rfl,E.o,F.o,N.o⟩
end
section
def bH(ss:List (Int×List Int×Int×Bool×Bool))(p:Int):Option (List Int×Int×Bool×Bool):=(ss.find? (fun x=>x.1 == p)).map (·.2)
theorem jA{ss:List (Int×List Int×Int×Bool×Bool)}{p:Int}{st:List Int×Int×Bool×Bool}(h:bH ss p=some st):(p,st)∈ss:=by
 unfold bH at h;obtain⟨x,a,e⟩:=Option.map_eq_some_iff.1 h;have b:=List.mem_of_find?_eq_some a;have d:x.1=p:=by simpa using List.find?_some a
 rw[<-d,<-e];exact b
theorem Cg{ss:List (Int×List Int×Int×Bool×Bool)}{p:Int}(h:bH ss p=none):∀x∈ss,x.1≠p:=by unfold bH at h;rw[Option.map_eq_none_iff,List.find?_eq_none] at h;intro x a e;exact h x a (by simpa using e)
def aT(g:GS)(b:List Int):List (Int×List Int×Int×Bool×Bool)×List Int×Int×Bool×Bool:=match bH g.ss (el b 19) with
 | some st=>(g.ss,st)
 | none=>((el b 19,hb b,0,false,false)::g.ss,hb b,0,false,false)
theorem UJ(G:Nat)(a:Option Addr)(cap:Nat)(tv:Value)(S:Nat)(ah:Nat->Prop)(β:Int->Nat)(g:GS)(b:List Int)(w:World)(h:GC G a cap tv S ah β g w)(hf:aW b=true): Calls prog 146 #[.pointer (some ⟨G,0,none⟩),.agg (ay b)] w fun e w'=>∃β',e=.returned (.tuple #[.pointer (some ⟨β' (el b 19),0,none⟩),.nilIface])∧GC G a cap tv S ah β' (g.str (aT g b).1) w'∧aL (GO G a ah (SO S β g.ss)) w w'∧(∀k,SO S β' (aT g b).1 k->SO S β g.ss k∨w.heap.size<=k)∧(el b 19,(aT g b).2)∈(aT g b).1:=by
 cases hs:bH g.ss (el b 19) with
 | some st =>
  have e:aT g b=(g.ss,st):=by unfold aT;rw[hs]
  rw[e];have i:=jA hs;exact(UG G a cap tv S ah β g b _ w h i rfl).mono fun r w' ⟨e1,d⟩=>⟨β,e1,h.kept d,aL.of d,fun _ hk=>.inl hk,i⟩
 | none =>
  have e:aT g b=((el b 19,hb b,0,false,false)::g.ss,hb b,0,false,false):=by unfold aT;rw[hs]
  rw[e];refine(UH G a cap tv S ah β g b w h (Cg hs) hf).mono ?_;rintro r w' ⟨B,e1,d,l,e4⟩;refine⟨iF β (el b 19) B,?_,l,e4,?_,List.mem_cons_self ..⟩
  ·rw[e1,show iF β (el b 19) B (el b 19)=B from if_pos rfl]
  ·rintro k (f|⟨x,hx,f⟩)
   ·exact .inl (.inl f)
   ·rcases List.mem_cons.1 hx with rfl|hx
    ·rw[f,show iF β (el b 19) B (el b 19)=B from if_pos rfl];exact .inr d
    ·exact .inl (.inr ⟨x,hx,by rw[f];exact if_neg (Cg hs x hx)⟩)
def bP(g:GS)(b z D:List Int):Int×List Int×List Int×GS :=
 if tell g.c g.inj b=true then ((dM (aT g b).2.1 (aT g b).2.2.1 (aT g b).2.2.2.1 (aT g b).2.2.2.2 z D).1,(dM (aT g b).2.1 (aT g b).2.2.1 (aT g b).2.2.2.1 (aT g b).2.2.2.2 z D).2.1,(dM (aT g b).2.1 (aT g b).2.2.1 (aT g b).2.2.2.1 (aT g b).2.2.2.2 z D).2.2.1,g.str (sup (el b 19) ((aT g b).2.1,(dM (aT g b).2.1 (aT g b).2.2.1 (aT g b).2.2.2.1 (aT g b).2.2.2.2 z D).2.2.2) (aT g b).1))
 else (0,z,D,g)
def cZ(g:GS)(b z D:List Int):Int×List Int×List Int×GS:=match bH g.ss (el b 19) with
 | some st=>((eF st.2.1 st.2.2.1 st.2.2.2 z D).1,(eF st.2.1 st.2.2.1 st.2.2.2 z D).2.1,(eF st.2.1 st.2.2.1 st.2.2.2 z D).2.2.1,g.str (sup (el b 19) (st.1,(eF st.2.1 st.2.2.1 st.2.2.2 z D).2.2.2) g.ss))
 | none=>(0,z,D,g)
def eU(g:GS):Prop:=(∀x∈g.ss,(x.2.2.2.2=true->x.2.2.2.1=true)∧0<=x.2.2.1∧x.2.2.1<4294967296)
theorem I7{g:GS}(h:eU g)(b:List Int):((aT g b).2.2.2.2=true->(aT g b).2.2.2.1=true)∧0<=(aT g b).2.2.1∧(aT g b).2.2.1<4294967296:=by
 unfold aT;split
 ·rename_i st hs;exact h _ (jA hs)
 ·exact⟨(fun h=>by cases h),(by show(0:Int)<=0;decide),(by show(0:Int)<4294967296;decide)⟩
def kK(w:World)(b z:List Int)(a1:Option Addr)(l1 c1:Nat)(D:List Int)(W:World):Prop:=aJ w.heap.size b W∧aG (w.heap.size+1) z a1 l1 c1 W∧aG (w.heap.size+2) [] none 0 0 W∧aj W a1 l1 c1 D∧w.heap.size+2<W.heap.size
theorem kK.rE{w:World}{b z:List Int}{a1:Option Addr}{l1 c1:Nat}{D:List Int}{W W':World}(h:kK w b z a1 l1 c1 D W){O:Nat->Prop}(k:aL O W W')(hO:∀g,O g->g<w.heap.size):kK w b z a1 l1 c1 D W':=by
 have a:∀g,w.heap.size<=g->g<W.heap.size->W'.heap[g]? = W.heap[g]?:=fun g h1 h2=>k.1.2.2.2.2 g h2 (fun ho=>by have:=hO g ho;omega)
 have hs:=h.2.2.2.2;exact⟨(a _ (Nat.le_refl _) (by omega)).trans h.1,(a _ (by omega) (by omega)).trans h.2.1,(a _ (by omega) (by omega)).trans h.2.2.1,k.2 _ _ _ _ h.2.2.2.1,Nat.lt_of_lt_of_le hs k.size⟩
theorem kK.kept{w:World}{b z:List Int}{a1:Option Addr}{l1 c1:Nat}{D:List Int}{W W':World}(h:kK w b z a1 l1 c1 D W)(hb:Below W.heap.size W W'):kK w b z a1 l1 c1 D W':=h.rE (aL.of (O:=fun _=>False) hb) (fun _ h=>h.elim)
theorem kK.start(w:World)(b z:List Int)(a1:Option Addr)(l1 c1:Nat)(D:List Int)(hr:aj w a1 l1 c1 D):kK w b z a1 l1 c1 D (((w.alloc (.cells (ay b) 95)).alloc (.cells (aA z a1 l1 c1) 39)).alloc (.cells aN 39))∧Below w.heap.size w (((w.alloc (.cells (ay b) 95)).alloc (.cells (aA z a1 l1 c1) 39)).alloc (.cells aN 39)):=by have g:=au w (.cells (ay b) 95);have d:=au (w.alloc (.cells (ay b) 95)) (.cells (aA z a1 l1 c1) 39);have a:=au ((w.alloc (.cells (ay b) 95)).alloc (.cells (aA z a1 l1 c1) 39)) (.cells aN 39);have e:=gG (w.alloc (.cells (ay b) 95)) z a1 l1 c1;have f:=bR ((w.alloc (.cells (ay b) 95)).alloc (.cells (aA z a1 l1 c1) 39));rw[World.size_alloc] at e;rw[World.size_alloc,World.size_alloc] at f;have hb:=bt (bt g d) a;exact⟨⟨((nA b w).kept d).kept a,e.kept a,f,hr.below hb,by simp⟩,hb⟩
attribute [local go_sem ↓] gP gV Ce jg
theorem UK(G:Nat)(a:Option Addr)(cap:Nat)(tv:Value)(S:Nat)(ah:Nat->Prop)(β:Int->Nat)(g:GS)(b z:List Int)(a1:Option Addr)(l1 c1:Nat)(D:List Int)(w:World)(h:GC G a cap tv S ah β g w)(hr:aj w a1 l1 c1 D)(ht:tell g.c g.inj b=false): Calls prog 99 #[.pointer (some ⟨G,0,none⟩),.agg (ay b),.agg (aA z a1 l1 c1)] w fun e w'=>∃a2 l2 c2,e=.returned (.tuple #[.agg (aA (bP g b z D).2.1 a2 l2 c2),ev (bP g b z D).1])∧aj w' a2 l2 c2 (bP g b z D).2.2.1∧gu w G a cap tv S ah β g (bP g b z D).2.2.2 w':=by
 rw[show bP g b z D=(0,z,D,g) from if_neg (by rw[ht];decide)];obtain⟨o,hb⟩:=kK.start w b z a1 l1 c1 D hr;have d:=ki o;have f:=ki hb;unfold aN at d f;have r:=ki h;have p:=ki (fun W (hW:Below w.heap.size w W)=>Ca G g.c g.inj a g.bk.length cap tv S g.now b W (h.1.kept hW));rw[ht] at p;clear h hr ht o hb;go_enter func99,ntmps99;go_upto_region 1 with fail
 generalize ((World.alloc _ _).alloc _).alloc _=W at d f⊢;have l:=d.o.1.ff;go_upto_region 2 with(go_at_call 97;refine(p.o _ f.o).mono ?_;rintro e t ⟨rfl,i⟩;replace d:=ki (d.o.kept i);replace f:=ki (bt f.o i);clear i l)
 go_wp2_with (first|(refine bB rfl (.tmp 5) rfl rfl d.o.2.1 ?_)|(refine aK rfl (.tmp 6) (.tmp 15) rfl rfl d.o.2.2.1 z a1 l1 c1 rfl ?_;intro v n k;have q:=ki (k.below f.o (by omega));have s:=ki (d.o.2.2.2.1.past d.o.2.2.1 k);replace n:=ki n;clear k))
 try simp only[Exit.inBlock,Exit.then]
 refine bodyPost_ret (bS rfl _ _ (w.heap.size+2) z a1 l1 c1 rfl n.o) rfl ?_;exact⟨a1,l1,c1,rfl,s.o,r.o.still q.o⟩
theorem UL(G:Nat)(a:Option Addr)(cap:Nat)(tv:Value)(S:Nat)(ah:Nat->Prop)(β:Int->Nat)(g:GS)(b z:List Int)(a1:Option Addr)(l1 c1:Nat)(D:List Int)(w:World)(h:GC G a cap tv S ah β g w)(hs:eU g)(hf:aW b=true)(hr:aj w a1 l1 c1 D)(ht:tell g.c g.inj b=true): Calls prog 99 #[.pointer (some ⟨G,0,none⟩),.agg (ay b),.agg (aA z a1 l1 c1)] w fun e w'=>∃a2 l2 c2,e=.returned (.tuple #[.agg (aA (bP g b z D).2.1 a2 l2 c2),ev (bP g b z D).1])∧aj w' a2 l2 c2 (bP g b z D).2.2.1∧gu w G a cap tv S ah β g (bP g b z D).2.2.2 w':=by
 unfold bP;rw[if_pos ht];obtain⟨hk,hb⟩:=kK.start w b z a1 l1 c1 D hr;have d:=ki hk;have f:=ki hb;unfold aN at d f;have n:=ki h;have H:=ki (fun W (hW:Below w.heap.size w W)=>Ca G g.c g.inj a g.bk.length cap tv S g.now b W (h.1.kept hW));rw[ht] at H;have C:=ki (fun W (hW:GC G a cap tv S ah β g W)=>UJ G a cap tv S ah β g b W hW hf);have t:=(I7 hs b).1;obtain⟨ss1,st1,hst⟩:∃ss1 st1,aT g b=(ss1,st1):=⟨_,_,rfl⟩;rw[hst] at C t⊢;have Q:=ki (fun W B (p:ST 304 B st1.1 st1.2.1 st1.2.2.1 st1.2.2.2 W) (r:aj W a1 l1 c1 D)=>MI B st1.1 st1.2.1 st1.2.2.1 st1.2.2.2 z a1 l1 c1 D W p t r);dsimp only at C⊢;generalize dM st1.1 st1.2.1 st1.2.2.1 st1.2.2.2 z D=O at Q⊢;clear h hr ht hk hb hs hf t hst;go_enter func99,ntmps99;go_upto_region 1 with fail
 generalize ((World.alloc _ _).alloc _).alloc _=W at d f⊢;have l:=d.o.1.ff;go_upto_region 3 with(go_at_call 97;refine(H.o _ f.o).mono ?_;rintro e w1 ⟨rfl,v⟩;replace d:=ki (d.o.kept v);replace f:=ki (bt f.o v);clear v l)
 have l:=d.o.1.bl;go_upto_region 6 with(go_at_call 146;refine(C.o _ (n.o.kept f.o)).mono ?_;rintro e w2 ⟨β',rfl,R,I,T,U⟩;have i:=ki (d.o.rE I (fun k hk=>n.o.lt hk));have y:=ki R;have A:=ki ((aL.of (O:=GO G a ah (SO S β g.ss)) f.o).trans I (fun k hk=>.inl hk));have o:=ki (show ∀k,SO S β' ss1 k->SO S β g.ss k∨w.heap.size+2<k from fun k hk=>(T k hk).imp id (fun h=>by have:=d.o.2.2.2.2;omega));have J:=ki U;clear R I T U l d)
 clear f C H;have E:=ki (y.o.2.2.2.1.2.1 _ J.o);go_wp2_with (first|(refine bB rfl (.tmp 5) rfl rfl i.o.2.1 ?_)|(go_at_call 147;refine(Q.o _ _ E.o i.o.2.2.2.1).mono ?_;rintro e w3 ⟨K,L,c3,rfl,M,F,N⟩;obtain⟨V,X⟩:=y.o.turn J.o N F;have q:=ki (show aG (w.heap.size+2) [] none 0 0 w3 from(N.2.2.2.2 _ (by have:=i.o.2.2.2.2;omega) (fun e=>by rcases o.o (w.heap.size+2) (.inr ⟨_,J.o,e⟩) with h1|h1;exact absurd (n.o.2.2.2.1.lt h1) (by omega);omega)).trans i.o.2.2.1);have Y:=ki V;replace A:=ki (A.o.trans X (fun k hk=>by rcases hk with h1|h1|h1|h1;exact .inl (.inl h1);exact .inl (.inr (.inl h1));exact .inl (.inr (.inr (.inl h1)));rcases o.o k h1 with h2|h2;exact .inl (.inr (.inr (.inr h2)));exact .inr (by omega)));have M:=ki M;clear V X F N i y E)|(refine aK rfl (.tmp 6) (.tmp 29) rfl rfl q.o O.2.1 K L c3 rfl ?_;intro w5 P s;have r5:=ki (M.o.past q.o s);have HN:=ki (show ¬GO G a ah (SO S β' (g.str (sup (el b 19) (st1.1,O.2.2.2) ss1)).ss) (w.heap.size+2) by rintro (h1|h1|h1|h1);exact absurd n.o.1.lt (by omega);exact absurd (n.o.2.1.2.1 _ h1) (by omega);exact absurd (n.o.ot h1) (by omega);rcases o.o _ ((rD _ _ _ _ _ _).1 h1) with h2|h2;exact absurd (n.o.2.2.2.1.lt h2) (by omega);omega);have Z:=ki (Y.o.other s HN.o (fun j x=>q.o.dP j x));have aa:=ki (A.o.own s (by omega) (fun j x=>q.o.dP j x));replace P:=ki P;clear s))
 try simp only[Exit.inBlock,Exit.then]
 refine bodyPost_ret (bS rfl _ _ (w.heap.size+2) O.2.1 K L c3 rfl P.o) rfl ?_;refine⟨K,L,c3,rfl,r5.o,ah,β',Z.o,aa.o,?_⟩;rintro k (h1|h1|h1|h1)
 ·exact .inl (.inl h1)
 ·exact .inl (.inr (.inl h1))
 ·exact .inl (.inr (.inr (.inl h1)))
 ·rcases o.o k ((rD _ _ _ _ _ _).1 h1) with h2|h2
  ·exact .inl (.inr (.inr (.inr h2)))
  ·exact .inr (by omega)
end
section
attribute [local go_sem ↓] Ce jg
theorem UM(G:Nat)(a:Option Addr)(cap:Nat)(tv:Value)(S:Nat)(ah:Nat->Prop)(β:Int->Nat)(g:GS)(b z:List Int)(a1:Option Addr)(l1 c1:Nat)(D:List Int)(w:World)(h:GC G a cap tv S ah β g w)(hr:aj w a1 l1 c1 D)(ht:bH g.ss (el b 19)=none): Calls prog 104 #[.pointer (some ⟨G,0,none⟩),.agg (ay b),.agg (aA z a1 l1 c1)] w fun e w'=>∃a2 l2 c2,e=.returned (.tuple #[.agg (aA (cZ g b z D).2.1 a2 l2 c2),ev (cZ g b z D).1])∧aj w' a2 l2 c2 (cZ g b z D).2.2.1∧gu w G a cap tv S ah β g (cZ g b z D).2.2.2 w':=by
 rw[show cZ g b z D=(0,z,D,g) by unfold cZ;rw[ht]];obtain⟨r,hb⟩:=kK.start w b z a1 l1 c1 D hr;have d:=ki r;have f:=ki hb;unfold aN at d f;have p:=ki h;have t:=ki (Cg ht);clear h hr ht r hb;go_enter func104,ntmps104;go_upto_region 1 with fail
 generalize ((World.alloc _ _).alloc _).alloc _=W at d f⊢;have v:=(p.o.kept f.o).1.streams;have x:=d.o.1.cell 19 (by omega);have y:=fun k=>je.no (w:=W.drewN k) ((p.o.kept (jN f.o k)).2.2.2.1) t.o
 have l:=ki (fun n=>d.o.kept (W':=World.drewN W n) ⟨rfl,rfl,rfl,Nat.le_refl _,fun _ _=>rfl⟩);have o:=ki (fun n=>jN f.o n);clear d f;go_quiet (fail)
 clear v x y;generalize hW:World.drewN _ _=W1;have d:Hid (kK w b z a1 l1 c1 D W1):=by rw[<-hW];exact l.o _
 have f:Hid (Below w.heap.size w W1):=by rw[<-hW];exact o.o _
 clear hW l o;go_wp2_with (first|(refine bB rfl (.tmp 5) rfl rfl d.o.2.1 ?_)|(refine aK rfl (.tmp 6) (.tmp 22) rfl rfl d.o.2.2.1 z a1 l1 c1 rfl ?_;intro B q i;have s:=ki (i.below f.o (by omega));have A:=ki (d.o.2.2.2.1.past d.o.2.2.1 i);replace q:=ki q;clear i))
 try simp only[Exit.inBlock,Exit.then]
 refine bodyPost_ret (bS rfl _ _ (w.heap.size+2) z a1 l1 c1 rfl q.o) rfl ?_;exact⟨a1,l1,c1,rfl,A.o,p.o.still s.o⟩
theorem UN(G:Nat)(a:Option Addr)(cap:Nat)(tv:Value)(S:Nat)(ah:Nat->Prop)(β:Int->Nat)(g:GS)(b z:List Int)(a1:Option Addr)(l1 c1:Nat)(D:List Int)(st:List Int×Int×Bool×Bool)(w:World)(h:GC G a cap tv S ah β g w)(hs:eU g)(hr:aj w a1 l1 c1 D)(ht:bH g.ss (el b 19)=some st): Calls prog 104 #[.pointer (some ⟨G,0,none⟩),.agg (ay b),.agg (aA z a1 l1 c1)] w fun e w'=>∃a2 l2 c2,e=.returned (.tuple #[.agg (aA (cZ g b z D).2.1 a2 l2 c2),ev (cZ g b z D).1])∧aj w' a2 l2 c2 (cZ g b z D).2.2.1∧gu w G a cap tv S ah β g (cZ g b z D).2.2.2 w':=by
 rw[show cZ g b z D=((eF st.2.1 st.2.2.1 st.2.2.2 z D).1,(eF st.2.1 st.2.2.1 st.2.2.2 z D).2.1,(eF st.2.1 st.2.2.1 st.2.2.2 z D).2.2.1,g.str (sup (el b 19) (st.1,(eF st.2.1 st.2.2.1 st.2.2.2 z D).2.2.2) g.ss)) by unfold cZ;rw[ht]];obtain⟨hk,hb⟩:=kK.start w b z a1 l1 c1 D hr;have d:=ki hk;have f:=ki hb;unfold aN at d f;have i:=ki h;have q:=ki (jA ht);have s:=(hs _ (jA ht)).2;have K:=ki (fun W B (p:ST 304 B st.1 st.2.1 st.2.2.1 st.2.2.2 W) (r:aj W a1 l1 c1 D)=>ML B st.1 st.2.1 st.2.2.1 st.2.2.2 z a1 l1 c1 D W p s r);generalize eF st.2.1 st.2.2.1 st.2.2.2 z D=O at K⊢;clear h hr ht hk hb hs s;go_enter func104,ntmps104;go_upto_region 1 with fail
 generalize ((World.alloc _ _).alloc _).alloc _=W at d f⊢;have T:=(i.o.kept f.o).1.streams;have U:=d.o.1.cell 19 (by omega);have V:=fun k=>je.yes (w:=W.drewN k) ((i.o.kept (jN f.o k)).2.2.2.1) q.o
 have t:=ki (fun n=>d.o.kept (W':=World.drewN W n) ⟨rfl,rfl,rfl,Nat.le_refl _,fun _ _=>rfl⟩);have v:=ki (fun n=>jN f.o n);clear d f;go_quiet (fail)
 clear T U V;generalize hW:World.drewN _ _=W1;have d:Hid (kK w b z a1 l1 c1 D W1):=by rw[<-hW];exact t.o _
 have f:Hid (Below w.heap.size w W1):=by rw[<-hW];exact v.o _
 clear hW t v;have C:=ki (i.o.kept f.o);have y:=ki (C.o.2.2.2.1.2.1 _ q.o);go_wp2_with (first|(refine bB rfl (.tmp 5) rfl rfl d.o.2.1 ?_)|(go_at_call 154;refine(K.o _ _ y.o d.o.2.2.2.1).mono ?_;rintro e X ⟨E,F,c3,rfl,H,A,I⟩;obtain⟨L,M⟩:=C.o.turn q.o I A;have l:=ki (show aG (w.heap.size+2) [] none 0 0 X from(I.2.2.2.2 _ (by have:=d.o.2.2.2.2;omega) (fun e=>by have:=i.o.2.2.2.1.lt (.inr ⟨_,q.o,e⟩);omega)).trans d.o.2.2.1);have N:=ki L;have P:=ki ((aL.of (O:=GO G a ah (SO S β g.ss)) f.o).trans M (fun k hk=>.inl hk));have H:=ki H;clear L M A I d C y)|(refine aK rfl (.tmp 6) (.tmp 26) rfl rfl l.o O.2.1 E F c3 rfl ?_;intro w5 J o;have Y:=ki (H.o.past l.o o);have Z:=ki (show ¬GO G a ah (SO S β (g.str (sup (el b 19) (st.1,O.2.2.2) g.ss)).ss) (w.heap.size+2) by rintro (h1|h1|h1|h1);exact absurd i.o.1.lt (by omega);exact absurd (i.o.2.1.2.1 _ h1) (by omega);exact absurd (i.o.ot h1) (by omega);exact absurd (i.o.2.2.2.1.lt ((rD _ _ _ _ _ _).1 h1)) (by omega));have Q:=ki (N.o.other o Z.o (fun j x=>l.o.dP j x));have R:=ki (P.o.own o (by omega) (fun j x=>l.o.dP j x));replace J:=ki J;clear o))
 try simp only[Exit.inBlock,Exit.then]
 refine bodyPost_ret (bS rfl _ _ (w.heap.size+2) O.2.1 E F c3 rfl J.o) rfl ?_;refine⟨E,F,c3,rfl,Y.o,ah,β,Q.o,R.o,?_⟩;rintro k (h1|h1|h1|h1)
 ·exact .inl (.inl h1)
 ·exact .inl (.inr (.inl h1))
 ·exact .inl (.inr (.inr (.inl h1)))
 ·exact .inl (.inr (.inr (.inr ((rD _ _ _ _ _ _).1 h1))))
end
end Go.Proofs.YtgcojnlngchllaaGreatDoor
