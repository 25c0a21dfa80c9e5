/- Package gate: the bind of a flow, walked. Package gate: the bind of a flow that has none, walked. Package gate: the stream of a bind, by contracts. Package gate: what goes up, and down, by contracts. -/
import Derived.Test.YtgcojnlngchllaaGreatDoorK29
namespace Go.Proofs.YtgcojnlngchllaaGreatDoor
open Go.RowKit
set_option linter.unusedVariables false
set_option maxRecDepth 100000
set_option maxHeartbeats 40000000
section
attribute [local go_sem ↓] fload_shut bload_shut bstore_shut
theorem bindof_has (G:Nat) (a:Option Addr) (cap:Nat) (tv:Value) (S:Nat) (Ot:Nat→Prop) (β:Int→Nat) (g:GS) (f:List Int) (flags:Int) (lv:Value) (k:Nat) (w:World) (h:GC G a cap tv S Ot β g w) (hi:TI g) (hf:okf f=true) (hfn:fnd g.bs f=some k) :
  Calls Tryz.prog 98 #[.pointer (some ⟨G,0,none⟩),.agg (flC f),.int .i64 flags,lv] w fun e w'=>e=.returned (.tuple #[.agg (bdC (g.bs.getD k [])),.nilIface])∧BQ w w.heap.size G a cap tv S Ot β g (g.tab g.ws g.ts (g.bs.set k (usd (g.bs.getD k []) g.now))) w':=by
 have E:=ki (BK.start f h)
 have M:=ki h
 obtain ⟨T,U,N,t4,t5⟩:=hi
 obtain ⟨hk,F,_⟩:=fndY hfn
 have q:=ki (fun W (hW:BK w G a cap tv S Ot β g f W)=>tb_jr.2.1 tv g.m g.ws g.ts g.bs Ot W f (g.bs.getD k []) 0 T U N hW.1.2.2.1 (.inr (.inr ⟨hf,k,hfn,rfl,rfl⟩)))
 have H:=ki (fun W (hW:BK w G a cap tv S Ot β g f W)=>tb_ji.2.2.2.2.1 tv g.m g.ws g.ts g.bs Ot W (el (g.bs.getD k []) 19) g.now 0 _ T U N hW.1.2.2.1 (.inr (.inr (.inr ⟨k,prt_self N.2.1 hk,t4,by have:=t5 _ F;omega,rfl,rfl⟩))))
 rw[ev_nil] at q H
 generalize hx:g.bs.getD k []=x at q H ⊢
 clear hx
 have n:=ki (show ∀ W',BK w G a cap tv S Ot β g f W'→W'.cell? ⟨G,23,none⟩=some tv∧(fload (.pointer (some ⟨w.heap.size,0,none⟩))).run Tryz.prog W'=.ok (.agg (flC f)) W' from fun W' h=>⟨h.1.1.table,h.2.1.fl⟩)
 have V:=ki (fun W=>bd_zero W)
 unfold zero23 at E V
 clear h hf hfn T U N t4 t5 hk F
 go_enter Tryz.func98,Tryz.ntmps98
 go_upto_region 1 with fail
 generalize (World.alloc _ _).alloc _=W at E ⊢
 have A:=ki (show w.heap.size+1 < W.heap.size from E.o.2.2.1.lt)
 have r:=ki (E.o.kept (show Below W.heap.size W W.drew from (Below.refl _ _).drew))
 have s:=ki (E.o.kept (show Below W.heap.size W (W.alloc (.cells zero23 95)).drew from (al_below W _).drew))
 have I:=ki (show BdIn W.heap.size [] (W.alloc (.cells zero23 95)).drew from bd_zero W)
 unfold zero23 at s I
 obtain ⟨o,p⟩:=n.o _ r.o
 go_cut [10,11] from 10 to 71 (fun u v wx=>(∃ D,u=.pointer (some ⟨D,0,none⟩)∧Hid (BdIn D x wx∧w.heap.size+1 < D))∧v=.nilIface∧Hid (BK w G a cap tv S Ot β g f wx))
 case first =>
  go_region_held3 (fun W'=>W'.cell? ⟨G,23,none⟩=some tv∧(fload (.pointer (some ⟨w.heap.size,0,none⟩))).run Tryz.prog W'=.ok (.agg (flC f)) W')
   (first
    | exact n.o _ r.o
    | exact n.o _ s.o
    | exact n.o _ d.o
    | exact n.o _ C.o
    | exact n.o _ J.o
    | go_keep)
   (first
    | (go_at_call 144;refine (q.o _ r.o).mono ?_;rintro e O ⟨rfl,l⟩;have d:=ki (r.o.kept l);have C:=ki (d.o.kept (al_below O (.cells zero23 95)));obtain ⟨t,k6,y,b⟩:=(V.o O).held x;have P:=ki (show w.heap.size+1 < O.heap.size from d.o.2.2.1.lt);unfold zero23 at C;have J:=ki (C.o.only M.o b P.o);have B:=ki (And.intro y P.o);clear l o p y b;obtain ⟨o,p⟩:=n.o _ d.o)
    | (go_at_call 144;refine (q.o _ s.o).mono ?_;rintro e O ⟨rfl,l⟩;have d:=ki (s.o.kept l);have C:=d;obtain ⟨t,k6,y,b⟩:=(I.o.kept l).held x;have J:=ki (d.o.only M.o b A.o);have B:=ki (And.intro y A.o);clear l o p y b;obtain ⟨o,p⟩:=n.o _ d.o))
  all_goals
   go_wp2_with fail
   go_meet
   exact ⟨⟨_,rfl,B⟩,rfl,J⟩
 case rest =>
  obtain ⟨⟨D,rfl,B⟩,rfl,HQ⟩:=hcut
  clear r s I o p E A q n V
  go_upto_region 3 with fail
  have i:=ki (HQ.o.kept (show Below wc.heap.size wc wc.drew from (Below.refl _ _).drew))
  have z:=ki (show BdIn D x wc.drew from B.o.1)
  have A:=ki (show w.heap.size+1 < D∧D < wc.heap.size from ⟨B.o.2,B.o.1.lt⟩)
  have o:=z.o.bl
  have p:=i.o.1.1.table
  have X:=z.o.cell 19 (by omega)
  have Y:=i.o.1.1.now
  clear B HQ
  go_region_held3 (fun W'=>(bload (.pointer (some ⟨D,0,none⟩))).run Tryz.prog W'=.ok (.agg (bdC x)) W'∧W'.cell? ⟨G,23,none⟩=some tv∧W'.cell? ⟨D,19,none⟩=some (.int .i64 (el x 19))∧W'.cell? ⟨G,25,none⟩=some (.int .i64 g.now))
   (first
    | exact ⟨z.o.bl,i.o.1.1.table,z.o.cell 19 (by omega),i.o.1.1.now⟩
    | exact S5.o
    | exact S6.o
    | go_keep)
   (first
    | (go_at_call 103;refine (H.o _ i.o).mono ?_;rintro e K ⟨rfl,tq⟩;obtain ⟨Z,b2,b3,b4,b5⟩:=i.o.tab M.o tq;have L:=ki (b5 D x z.o (by have:=A.o;omega));obtain ⟨t,k6,y,b⟩:=b2.held x;have Q:=ki (Z.put rfl M.o b2 b (Nat.le_succ _) (by have:=A.o;have:=i.o.2.2.1.lt;omega));have S5:=ki (show (bload (.pointer (some ⟨D,0,none⟩))).run Tryz.prog K=.ok (.agg (bdC x)) K∧K.cell? ⟨G,23,none⟩=some tv∧K.cell? ⟨D,19,none⟩=some (.int .i64 (el x 19))∧K.cell? ⟨G,25,none⟩=some (.int .i64 g.now) by obtain ⟨_,c1,_⟩:=Z;exact ⟨L.o.bl,c1.1.table,L.o.cell 19 (by omega),c1.1.now⟩);have R:=ki (show BdIn D x t from (b.2.2.2.2 D (by have:=A.o;omega)).trans L.o);have S6:=ki (show (bload (.pointer (some ⟨D,0,none⟩))).run Tryz.prog t=.ok (.agg (bdC x)) t∧t.cell? ⟨G,23,none⟩=some tv∧t.cell? ⟨D,19,none⟩=some (.int .i64 (el x 19))∧t.cell? ⟨G,25,none⟩=some (.int .i64 g.now) by obtain ⟨_,c1,_⟩:=Q.o;exact ⟨R.o.bl,c1.1.table,R.o.cell 19 (by omega),c1.1.now⟩);have aj:=ki y;clear o p X Y Z b2 b3 b4 b5 y b tq;obtain ⟨o,p,X,Y⟩:=S5.o))
  all_goals
   clear o p X Y
   go_wp2
   try simp only[Exit.inBlock,Exit.then]
   refine bodyPost_ret (results_bd rfl _ _ (w.heap.size+1) x rfl aj.o) rfl ?_
   exact ⟨rfl,Q.o.end (by have:=i.o.2.2.2.size;omega)⟩
end
section
variable {g:GS} {f:List Int}
theorem bdo_some {flags:Int} {wr:Int×Int×Int} {k:Nat} (h:fnd g.bs f=some k):bdo g f flags wr=(0,g.bs.getD k [],g.tab g.ws g.ts (g.bs.set k (usd (g.bs.getD k []) g.now))):=by unfold bdo;rw[h]
theorem bdo_none {flags:Int} {wr:Int×Int×Int} (h:fnd g.bs f=none):bdo g f flags wr=if el f 0=6∧¬ (flags / 2 % 2=1∧flags / 16 % 2=0) then (9,[],g)
  else if wr.2.2≠0 then (wr.2.2,[],g)
  else match tk g.ws g.ts (cli f) (8*g.m) with
   | none=>(3,[],g)
   | some i=>(0,mkb f (1024+(i:Int)) wr.1 wr.2.1 g.now,g.tab (upd g.ws i (cli f)) (upd g.ts i true) (ins (mkb f (1024+(i:Int)) wr.1 wr.2.1 g.now) g.bs)):=by unfold bdo;simp only[h];rfl
def mko (g:GS) (f:List Int) (wr:Int×Int×Int):Int×List Int×GS:=match tk g.ws g.ts (cli f) (8*g.m) with
 | none=>(3,[],g)
 | some i=>(0,mkb f (1024+(i:Int)) wr.1 wr.2.1 g.now,g.tab (upd g.ws i (cli f)) (upd g.ts i true) (ins (mkb f (1024+(i:Int)) wr.1 wr.2.1 g.now) g.bs))
theorem mko_ss (g:GS) (f:List Int) (wr:Int×Int×Int):(mko g f wr).2.2.ss=g.ss∧(mko g f wr).2.2.now=g.now:=by
 unfold mko
 split <;> exact ⟨rfl,rfl⟩
theorem mko_call {G:Nat} {a:Option Addr} {cap:Nat} {tv:Value} {S:Nat} {Ot:Nat→Prop} {β:Int→Nat} {wr:Int×Int×Int} {W:World} (h:GC G a cap tv S Ot β g W) (hi:TI g) (hf:okf f=true) (hfn:fnd g.bs f=none) (h1:fr wr.1=true) (h2:wd wr.2.1=true) :
  Calls Tryz.prog 145 #[tv,.agg (flC f),.int .i64 wr.1,.int .i64 wr.2.1,.int .i64 g.now] W fun r w'=>r=.returned (.tuple #[.agg (bdC (mko g f wr).2.1),ev (mko g f wr).1])∧TQ TB tv g.m (mko g f wr).2.2.ws (mko g f wr).2.2.ts (mko g f wr).2.2.bs Ot W w':=by
 obtain ⟨d,e,k,t4,l⟩:=hi
 have b:(fr wr.1 && wd wr.2.1 && tc g.now)=true:=by rw[h1,h2,t4];rfl
 unfold mko
 cases ht:tk g.ws g.ts (cli f) (8*g.m) with
 | none=>exact tb_ji.2.2.2.1 tv g.m g.ws g.ts g.bs Ot W f wr.1 wr.2.1 g.now [] 3 g.ws g.ts g.bs d e k h.2.2.1 (.inr (.inr (.inr (.inl ⟨hf,b,hfn,ht,rfl,rfl,rfl,rfl,rfl⟩))))
 | some i=>exact tb_ji.2.2.2.1 tv g.m g.ws g.ts g.bs Ot W f wr.1 wr.2.1 g.now _ 0 _ _ _ d e k h.2.2.1 (.inr (.inr (.inr (.inr ⟨hf,b,hfn,i,ht,rfl,rfl,rfl,rfl,rfl⟩))))
theorem mko_tab (g:GS) (f:List Int) (wr:Int×Int×Int):g.tab (mko g f wr).2.2.ws (mko g f wr).2.2.ts (mko g f wr).2.2.bs=(mko g f wr).2.2:=by
 unfold mko
 split <;> rfl
attribute [local go_sem ↓] fload_shut bload_shut bstore_shut
theorem bindof_new (G:Nat) (a:Option Addr) (cap:Nat) (tv:Value) (S:Nat) (Ot:Nat→Prop) (β:Int→Nat) (g:GS) (f:List Int) (flags:Int) (gf:Nat) (lb:Array Value) (wr:Int×Int×Int) (w:World) (h:GC G a cap tv S Ot β g w) (hi:TI g) (hf:okf f=true) (hfl:0≤flags∧flags≤31) (hfn:fnd g.bs f=none)
  (eg:∀ args w,(callFunc gf args).run Tryz.prog w=.ok (.enter gf args) w)
  (hw:∀ W,Below w.heap.size w W→Calls Tryz.prog gf lb W fun e w'=>e=.returned (.tuple #[.int .i64 wr.1,.int .i64 wr.2.1,ev wr.2.2])∧Below W.heap.size W w') (hwr:wr.2.2=0→fr wr.1=true∧wd wr.2.1=true) :
  Calls Tryz.prog 98 #[.pointer (some ⟨G,0,none⟩),.agg (flC f),.int .i64 flags,.func (.func gf) #[] lb] w fun e w'=>e=.returned (.tuple #[.agg (bdC (bdo g f flags wr).2.1),ev (bdo g f flags wr).1])∧BQ w w.heap.size G a cap tv S Ot β g (bdo g f flags wr).2.2 w':=by
 have K:=ki (BK.start f h)
 have L:=ki h
 have s:=ki (fun W (hW:BK w G a cap tv S Ot β g f W)=>tb_jr.2.1 tv g.m g.ws g.ts g.bs Ot W f [] 4 hi.1 hi.2.1 hi.2.2.1 hW.1.2.2.1 (.inr (.inl ⟨hf,hfn,rfl,rfl⟩)))
 rw[show ev 4=err 4 from rfl] at s
 unfold err at s
 have t:=ki (fun (h0:wr.2.2=0) W (hW:BK w G a cap tv S Ot β g f W)=>mko_call hW.1 hi hf hfn (hwr h0).1 (hwr h0).2)
 have H:=ki (mko_tab g f wr)
 have l:=ki (mko_ss g f wr)
 have n:=ki (show bdo g f flags wr=if el f 0=6∧¬ (flags / 2 % 2=1∧flags / 16 % 2=0) then (9,[],g) else if wr.2.2≠0 then (wr.2.2,[],g) else mko g f wr from bdo_none hfn)
 generalize mko g f wr=M at t H l n
 generalize bdo g f flags wr=R at n ⊢
 have ha:=and18 flags hfl.1 hfl.2
 have E:=ki hw
 have k:=ki (show ∀ W',BK w G a cap tv S Ot β g f W'→W'.cell? ⟨G,23,none⟩=some tv∧(fload (.pointer (some ⟨w.heap.size,0,none⟩))).run Tryz.prog W'=.ok (.agg (flC f)) W' from fun W' h=>⟨h.1.1.table,h.2.1.fl⟩)
 have HZ:=ki (fun W=>bd_zero W)
 unfold zero23 at K HZ
 clear h hi hf hfn hw hwr hfl
 go_enter Tryz.func98,Tryz.ntmps98
 go_upto_region 1 with fail
 generalize (World.alloc _ _).alloc _=W at K ⊢
 have HD:=ki (show w.heap.size+1 < W.heap.size from K.o.2.2.1.lt)
 have x:=ki (K.o.kept (show Below W.heap.size W W.drew from (Below.refl _ _).drew))
 have y:=ki (K.o.kept (show Below W.heap.size W (W.alloc (.cells zero23 95)).drew from (al_below W _).drew))
 have Q:=ki (show BdIn W.heap.size [] (W.alloc (.cells zero23 95)).drew from bd_zero W)
 unfold zero23 at y Q
 obtain ⟨q,r⟩:=k.o _ x.o
 go_cut [10,11] from 10 to 71 (fun u v wx=>(∃ D,u=.pointer (some ⟨D,0,none⟩))∧v=.iface 28 (.int .i64 4)∧Hid (BK w G a cap tv S Ot β g f wx))
 case first =>
  go_region_held3 (fun W'=>W'.cell? ⟨G,23,none⟩=some tv∧(fload (.pointer (some ⟨w.heap.size,0,none⟩))).run Tryz.prog W'=.ok (.agg (flC f)) W')
   (first
    | exact k.o _ x.o
    | exact k.o _ y.o
    | exact k.o _ i.o
    | exact k.o _ I.o
    | exact k.o _ T.o
    | go_keep)
   (first
    | (go_at_call 144;refine (s.o _ x.o).mono ?_;rintro e X ⟨rfl,o⟩;have i:=ki (x.o.kept o);have I:=ki (i.o.kept (al_below X (.cells zero23 95)));obtain ⟨N,k6,O,b⟩:=(HZ.o X).held [];have ai:=ki (show w.heap.size+1 < X.heap.size from i.o.2.2.1.lt);unfold zero23 at I;have T:=ki (I.o.only L.o b ai.o);clear o q r O b;obtain ⟨q,r⟩:=k.o _ i.o)
    | (go_at_call 144;refine (s.o _ y.o).mono ?_;rintro e X ⟨rfl,o⟩;have i:=ki (y.o.kept o);have I:=i;obtain ⟨N,k6,O,b⟩:=(Q.o.kept o).held [];have T:=ki (i.o.only L.o b HD.o);clear o q r O b;obtain ⟨q,r⟩:=k.o _ i.o))
  all_goals
   go_wp2_with fail
   go_meet
   exact ⟨⟨_,rfl⟩,rfl,T⟩
 case rest =>
  obtain ⟨⟨D,rfl⟩,rfl,d⟩:=hcut
  clear x y Q q r K HD s HZ
  by_cases hst:el f 0=6∧¬ (flags / 2 % 2=1∧flags / 16 % 2=0)
  ·have z:=ki (show R=(9,[],g) by rw[n.o,if_pos hst])
   rw[decide_eq_true hst.2] at ha
   have e6:(el f 0 == 6)=true:=by simpa using hst.1
   have l0:=d.o.2.1.cell 0 (by omega)
   clear n hst t H l E
   go_wp2_with (refine at_storeb rfl (.tmp 8) (.tmp 46) rfl rfl d.o.2.2.1 [] rfl ?_;intro P F A;have U:=ki (A.below d.o.2.2.2 (Nat.le_succ _));replace F:=ki F;clear A)
   try simp only[Exit.inBlock,Exit.then]
   refine bodyPost_ret (results_bd rfl _ _ (w.heap.size+1) [] rfl F.o) rfl ?_
   rw[z.o]
   exact ⟨rfl,BK.still L.o U.o⟩
  ·have B:(el f 0 == 6)=false∨((el f 0 == 6)=true∧(bits .and .i64 flags 18 != 2)=false):=by
    by_cases h6:el f 0=6
    ·refine .inr ⟨by simpa using h6,?_⟩
     rw[ha]
     exact decide_eq_false (fun h=>hst ⟨h6,h⟩)
    ·exact .inl (by simpa using h6)
   have J:=ki (show R=if wr.2.2≠0 then (wr.2.2,[],g) else M by rw[n.o,if_neg hst])
   clear n hst ha
   have l0:=d.o.2.1.cell 0 (by omega)
   go_upto_region 4 with fail
   go_cut [45] from 38 to 45 (fun u wx=>u=.bool false∧wx=wc)
   case first =>
    rcases B with e6|⟨e6,e18⟩
    all_goals
     go_wp2_with fail
     go_meet
     exact ⟨rfl,rfl⟩
   case rest =>
    obtain ⟨rfl,rfl⟩:=hcut
    clear l0 B
    by_cases h0:wr.2.2=0
    ·have z:=ki (show R=M by rw[J.o,if_neg (fun h=>h h0)])
     have HM:=ki (t.o h0)
     rw[h0,ev_nil] at E
     clear J t h0
     go_upto_region 9 with (go_at_fn gf;refine (E.o _ d.o.2.2.2).mono ?_;rintro e V ⟨rfl,C⟩;replace d:=ki (d.o.kept C);clear C)
     rename World=>V
     have p:=ki (d.o.kept (show Below V.heap.size V V.drew from (Below.refl _ _).drew))
     have HS:=ki (show ∀ W',BK w G a cap tv S Ot β g f W'→W'.cell? ⟨G,23,none⟩=some tv∧(fload (.pointer (some ⟨w.heap.size,0,none⟩))).run Tryz.prog W'=.ok (.agg (flC f)) W'∧W'.cell? ⟨G,25,none⟩=some (.int .i64 g.now) from fun W' h=>⟨h.1.1.table,h.2.1.fl,h.1.1.now⟩)
     clear d k E
     obtain ⟨q,r,q3⟩:=HS.o _ p.o
     go_region_held3 (fun W'=>W'.cell? ⟨G,23,none⟩=some tv∧(fload (.pointer (some ⟨w.heap.size,0,none⟩))).run Tryz.prog W'=.ok (.agg (flC f)) W'∧W'.cell? ⟨G,25,none⟩=some (.int .i64 g.now))
      (first
       | exact HS.o _ p.o
       | exact S5.o
       | exact S6.o
       | go_keep)
      (first
       | (go_at_call 145;refine (HM.o _ p.o).mono ?_;rintro e P ⟨rfl,tq⟩;obtain ⟨Y,b2,b3,b4,b5⟩:=p.o.tab L.o tq;rw[H.o] at Y;obtain ⟨N,k6,O,b⟩:=b2.held M.2.1;have Z:=ki (Y.put l.o.1 L.o b2 b (Nat.le_succ _) p.o.2.2.1.lt);have S5:=ki (show P.cell? ⟨G,23,none⟩=some tv∧(fload (.pointer (some ⟨w.heap.size,0,none⟩))).run Tryz.prog P=.ok (.agg (flC f)) P∧P.cell? ⟨G,25,none⟩=some (.int .i64 g.now) by obtain ⟨_,c1,_⟩:=Y;have c2:=c1.1.now;rw[l.o.2] at c2;exact ⟨c1.1.table,b3.fl,c2⟩);have S6:=ki (show N.cell? ⟨G,23,none⟩=some tv∧(fload (.pointer (some ⟨w.heap.size,0,none⟩))).run Tryz.prog N=.ok (.agg (flC f)) N∧N.cell? ⟨G,25,none⟩=some (.int .i64 g.now) by obtain ⟨_,c1,_⟩:=Z.o;have c2:=c1.1.now;rw[l.o.2] at c2;exact ⟨c1.1.table,FlIn.fl ((b.2.2.2.2 _ (by omega)).trans b3),c2⟩);have ap:=ki O;clear q r q3 Y b2 b3 b4 b5 O b tq;obtain ⟨q,r,q3⟩:=S5.o))
     all_goals
      clear q r q3
      go_wp2
      try simp only[Exit.inBlock,Exit.then]
      refine bodyPost_ret (results_bd rfl _ _ (w.heap.size+1) M.2.1 rfl ap.o) rfl ?_
      rw[z.o]
      exact ⟨rfl,Z.o.end (by have:=p.o.2.2.2.size;omega)⟩
    ·have z:=ki (show R=(wr.2.2,[],g) by rw[J.o,if_pos h0])
     rw[ev_err h0] at E
     have HE:=ki (ev_err h0)
     unfold err at E
     clear J t h0 H l k
     go_wp2_with (first
      | (go_at_fn gf;refine (E.o _ d.o.2.2.2).mono ?_;rintro e V ⟨rfl,C⟩;replace d:=ki (d.o.kept C);clear C)
      | (refine at_storeb rfl (.tmp 8) (.tmp 56) rfl rfl d.o.2.2.1 [] rfl ?_;intro P F A;have U:=ki (A.below d.o.2.2.2 (Nat.le_succ _));replace F:=ki F;clear A))
     try simp only[Exit.inBlock,Exit.then]
     refine bodyPost_ret (results_bd rfl _ _ (w.heap.size+1) [] rfl F.o) rfl ?_
     rw[z.o]
     exact ⟨by rw[HE.o];rfl,BK.still L.o U.o⟩
end
section
variable {g g':GS} {p:Int} {β:Int→Nat} {G S cap:Nat} {Ot:Nat→Prop} {a:Option Addr} {tv:Value} {W w:World}
theorem Tryz.mapS:Tryz.prog.underlying 78 = some (.map 3 237):=Tryz.underlying78
theorem zero_sp (w:World):(zeroValue 237).run Tryz.prog w=.ok (.pointer none) w:=by kernel_rfl
def slk (m x:Value) (c:Bool):Sem Value:=Instr.lookup 78 m x c
theorem slk_shut (m x:Value) (c:Bool):Instr.lookup 78 m x c=slk m x c:=rfl
def sst (m k v:Value):Sem Unit:=Instr.mapUpdate 78 m k v
theorem sst_shut (m k v:Value):Instr.mapUpdate 78 m k v=sst m k v:=rfl
theorem SS.yes {ss:List (Int×List Int×Int×Bool×Bool)} (h:SS S β ss w) {x:Int×List Int×Int×Bool×Bool} (hx:x ∈ ss):(slk (.map (some S)) (.int .i64 x.1) true).run Tryz.prog w=.ok (.tuple #[.pointer (some ⟨β x.1,0,none⟩),.bool true]) w :=
 h.1.look_yes koi Tryz.mapS ⟨_,rfl⟩ (List.mem_map.2 ⟨x,hx,rfl⟩) true
theorem SS.no {ss:List (Int×List Int×Int×Bool×Bool)} (h:SS S β ss w) (hp:∀ x ∈ ss,x.1≠p):(slk (.map (some S)) (.int .i64 p) true).run Tryz.prog w=.ok (.tuple #[.pointer none,.bool false]) w :=
 h.1.look_no koi Tryz.mapS (zero_sp w) ⟨_,rfl⟩ (fun q hq e=>by
  obtain ⟨x,hx,rfl⟩:=List.mem_map.1 hq
  unfold sE at e
  injection e with _ e
  exact hp x hx e) true
def βp (β:Int→Nat) (p:Int) (B:Nat):Int→Nat:=fun q=>if q=p then B else β q
theorem βp_map {B:Nat} {ss:List (Int×List Int×Int×Bool×Bool)} (hp:∀ x ∈ ss,x.1≠p):ss.map (sE (βp β p B))=ss.map (sE β):=by
 refine List.map_congr_left fun x hx=>?_
 unfold sE βp
 rw[if_neg (hp x hx)]
theorem GC.add (h:GC G a cap tv S Ot β g W) (hp:∀ x ∈ g.ss,x.1≠p) {B:Nat} {hd:List Int} {s:Int} {b hh:Bool} (st:ST 304 B hd s b hh W) (hB:¬ GO G a Ot (SO S β g.ss) B) :
  ∃ W',(sst (.map (some S)) (.int .i64 p) (.pointer (some ⟨B,0,none⟩))).run Tryz.prog W=.ok () W'∧GC G a cap tv S Ot (βp β p B) (g.str ((p,hd,s,b,hh)::g.ss)) W'∧Only S W W':=by
 obtain ⟨l,n,A⟩:=h.2.2.2.2
 obtain ⟨W',C,D,d⟩:=h.2.2.2.1.1.store_new koi Tryz.mapS (x:=.int .i64 p) (.pointer (some ⟨B,0,none⟩)) ⟨_,rfl⟩ (fun q hq e=>by
  obtain ⟨x,hx,rfl⟩:=List.mem_map.1 hq
  unfold sE at e
  injection e with _ e
  exact hp x hx e)
 have o:SO S β g.ss S:=.inl rfl
 have nb:∀ j x,W.cell? ⟨S,j,none⟩≠some (.int .u8 x):=fun j x=>h.2.2.2.1.1.nb j _
 have f:∀ k,SO S (βp β p B) ((p,hd,s,b,hh)::g.ss) k→k=B∨SO S β g.ss k:=by
  rintro k (h1|⟨x,hx,h1⟩)
  ·exact .inr (.inl h1)
  ·rcases List.mem_cons.1 hx with rfl|hx
   ·exact .inl (by rw[h1];exact if_pos rfl)
   ·exact .inr (.inr ⟨x,hx,by rw[h1];exact if_neg (hp x hx)⟩)
 refine ⟨W',C,⟨h.1.same (d.2.2.2.2 G (fun e=>l.2.2 (e ▸ o))),⟨h.2.1.1.same (fun k hk=>d.2.2.2.2 k (fun e=>(n k hk).2 (e ▸ o))),fun k hk=>by rw[d.2.2.2.1];exact h.2.1.2.1 k hk,h.2.1.2.2⟩,(tb_kept _ _ _ _ _ _ _ h.2.2.1).2 W' (by rw[d.2.2.2.1];exact Nat.le_refl _) (fun k hk=>d.2.2.2.2 k (fun e=>A k hk (e ▸ o))),⟨?_,fun x hx=>?_,fun x hx y hy e=>?_⟩,⟨l.1,l.2.1,fun hs=>?_⟩,fun k hk=>⟨(n k hk).1,fun hs=>?_⟩,fun k hk hs=>?_⟩,d⟩
 ·show MP isI S (sE (βp β p B) (p,hd,s,b,hh)::g.ss.map (sE (βp β p B))) W'
  rw[βp_map hp,show sE (βp β p B) (p,hd,s,b,hh)=(.int .i64 p,.pointer (some ⟨B,0,none⟩)) by unfold sE βp;simp]
  exact D
 ·rcases List.mem_cons.1 hx with rfl|hx
  ·show ST _ (βp β p B p) _ _ _ _ _
   rw[show βp β p B p=B from if_pos rfl]
   obtain ⟨r,t,v,i,w,z⟩:=st
   exact ⟨r,t,v,(d.2.2.2.2 B (fun e=>hB (.inr (.inr (.inr (.inl e)))))).trans i,w.pastn nb d,z⟩
  ·rw[show βp β p B x.1=β x.1 from if_neg (hp x hx)]
   obtain ⟨r,t,v,i,w,z⟩:=h.2.2.2.1.2.1 x hx
   refine ⟨r,t,v,(d.2.2.2.2 _ (fun e=>?_)).trans i,w.pastn nb d,z⟩
   rw[e] at i
   exact h.2.2.2.1.1.notcells i
 ·rcases List.mem_cons.1 hx with rfl|hx <;> rcases List.mem_cons.1 hy with rfl|hy
  ·rfl
  ·rw[show βp β p B y.1=β y.1 from if_neg (hp y hy),show βp β p B p=B from if_pos rfl] at e
   exact absurd (.inr (.inr (.inr (.inr ⟨y,hy,e⟩)))) hB
  ·rw[show βp β p B x.1=β x.1 from if_neg (hp x hx),show βp β p B p=B from if_pos rfl] at e
   exact absurd (.inr (.inr (.inr (.inr ⟨x,hx,e.symm⟩)))) hB
  ·rw[show βp β p B x.1=β x.1 from if_neg (hp x hx),show βp β p B y.1=β y.1 from if_neg (hp y hy)] at e
   exact h.2.2.2.1.2.2 x hx y hy e
 ·rcases f G hs with h1|h1
  ·exact hB (.inl h1.symm)
  ·exact l.2.2 h1
 ·rcases f k hs with h1|h1
  ·exact hB (.inr (.inl (h1 ▸ hk)))
  ·exact (n k hk).2 h1
 ·rcases f k hs with h1|h1
  ·exact hB (.inr (.inr (.inl (h1 ▸ hk))))
  ·exact A k hk h1
def GQ (w:World) (G:Nat) (a:Option Addr) (cap:Nat) (tv:Value) (S:Nat) (Ot:Nat→Prop) (β:Int→Nat) (g g':GS) (w':World):Prop:=∃ Ot' β',GC G a cap tv S Ot' β' g' w'∧Kpt (GO G a Ot (SO S β g.ss)) w w'∧∀ k,GO G a Ot' (SO S β' g'.ss) k→GO G a Ot (SO S β g.ss) k∨w.heap.size≤k
theorem BQ.gq (h:BQ w w.heap.size G a cap tv S Ot β g g' W) (hss:g'.ss=g.ss):GQ w G a cap tv S Ot β g g' W:=by
 obtain ⟨b,d,e,f⟩:=h
 refine ⟨b,β,d,e,?_⟩
 rw[hss]
 rintro k (h1|h1|h1|h1)
 ·exact .inl (.inl h1)
 ·exact .inl (.inr (.inl h1))
 ·exact (f k h1).imp (fun h=>.inr (.inr (.inl h))) id
 ·exact .inl (.inr (.inr (.inr h1)))
theorem GC.still (h0:GC G a cap tv S Ot β g w) (hb:Below w.heap.size w W):GQ w G a cap tv S Ot β g g W:=⟨Ot,β,h0.kept hb,Kpt.of hb,fun _ hk=>.inl hk⟩
theorem GQ.trans {g'':GS} {W':World} {Ot':Nat→Prop} {β':Int→Nat} (q2:Kpt (GO G a Ot (SO S β g.ss)) w W) (q3:∀ k,GO G a Ot' (SO S β' g'.ss) k→GO G a Ot (SO S β g.ss) k∨w.heap.size≤k) (h:GQ W G a cap tv S Ot' β' g' g'' W'):GQ w G a cap tv S Ot β g g'' W':=by
 obtain ⟨b,β2,r1,d,e⟩:=h
 refine ⟨b,β2,r1,q2.trans d q3,fun k hk=>?_⟩
 rcases e k hk with h1|h1
 ·exact q3 k h1
 ·exact .inr (Nat.le_trans q2.size h1)
theorem GQ.kept {W':World} (h:GQ w G a cap tv S Ot β g g' W) (hb:Below W.heap.size W W'):GQ w G a cap tv S Ot β g g' W':=by
 obtain ⟨b,β',d,e,f⟩:=h
 exact ⟨b,β',d.kept hb,e.trans (Kpt.of (O:=fun _=>False) hb) (fun _ h=>h.elim),f⟩
attribute [local go_sem ↓] fload_shut slk_shut sst_shut
theorem streamof_has (G:Nat) (a:Option Addr) (cap:Nat) (tv:Value) (S:Nat) (Ot:Nat→Prop) (β:Int→Nat) (g:GS) (b:List Int) (x:Int×List Int×Int×Bool×Bool) (w:World) (h:GC G a cap tv S Ot β g w) (hx:x ∈ g.ss) (hb:x.1=el b 19) :
  Calls Tryz.prog 146 #[.pointer (some ⟨G,0,none⟩),.agg (bdC b)] w fun e w'=>e=.returned (.tuple #[.pointer (some ⟨β x.1,0,none⟩),.nilIface])∧Below w.heap.size w w':=by
 have d:=al_below w (.cells (bdC b) 95)
 have hc:=h.kept d
 have o:=hc.1.streams
 have i:=(bd_new b w).cell 19 (by omega)
 have f:=fun k=>SS.yes (w:=(w.alloc (.cells (bdC b) 95)).drewN k) ((h.kept (drn d k)).2.2.2.1) hx
 rw[hb] at f
 rw[← hb] at i f
 have l:=ki (fun n=>drn d n)
 clear h hx hc d
 rw[hb] at i f ⊢
 go_enter Tryz.func146,Tryz.ntmps146
 go_upto_region 1 with fail
 go_quiet (fail)
 go_wp2
 go_ret2
 exact ⟨rfl,l.o _⟩
theorem streamof_new (G:Nat) (a:Option Addr) (cap:Nat) (tv:Value) (S:Nat) (Ot:Nat→Prop) (β:Int→Nat) (g:GS) (b:List Int) (w:World) (h:GC G a cap tv S Ot β g w) (hp:∀ x ∈ g.ss,x.1≠el b 19) (hf:okf b=true) :
  Calls Tryz.prog 146 #[.pointer (some ⟨G,0,none⟩),.agg (bdC b)] w fun e w'=>∃ B,e=.returned (.tuple #[.pointer (some ⟨B,0,none⟩),.nilIface])∧w.heap.size≤B∧GC G a cap tv S Ot (βp β (el b 19) B) (g.str ((el b 19,hb b,0,false,false)::g.ss)) w'∧Kpt (GO G a Ot (SO S β g.ss)) w w':=by
 have f:=al_below w (.cells (bdC b) 95)
 have H:=(h.kept f).1.streams
 have I:=(bd_new b w).cell 19 (by omega)
 have P:=fun k=>SS.no (w:=(w.alloc (.cells (bdC b) 95)).drewN k) ((h.kept (drn f k)).2.2.2.1) hp
 have i:=ki (bd_new b w)
 have A:=ki (fun n=>show BdIn w.heap.size b ((w.alloc (.cells (bdC b) 95)).drewN n) from bd_new b w)
 have C:=ki (fun n=>drn f n)
 have Q:=ki (show ∀ W,Calls Tryz.prog 201 #[.agg (flC b)] W fun e w'=>∃ ao c,e=.returned (.tuple #[.slice ao 52 c,.nilIface])∧Row8 w' ao 52 c (hb b)∧Below W.heap.size W w' from fun W=>(yencode b W).mono fun e w' ⟨v,e1,e2,_,e4⟩=>by
  obtain ⟨U,c1,rfl,_,_,_,_,r⟩:=(e2 hf).form (by rw[hb_len];omega)
  rw[hf] at e1
  exact ⟨_,_,e1,r,e4⟩)
 have R:=ki (fun W ao c (r:Row8 W ao 52 c (hb b))=>new_ok ao 52 c (hb b) W (by omega) r)
 have J:=ki h
 have L:=ki hp
 clear h hp hf f
 go_enter Tryz.func146,Tryz.ntmps146
 go_upto_region 1 with fail
 go_quiet (fail)
 clear H I P i
 generalize hW:World.drewN _ _=W1
 have i:Hid (BdIn w.heap.size b W1):=by rw[← hW];exact A.o _
 have f:Hid (Below w.heap.size w W1):=by rw[← hW];exact C.o _
 clear hW A C
 have l:=i.o.ff
 go_upto_region 10 with (first
  | (go_at_call 201;refine (Q.o _).mono ?_;rintro e V ⟨T,c2,rfl,t,o⟩;replace i:=ki (i.o.kept o);replace f:=ki (bt f.o o);replace t:=ki t;clear o l)
  | (go_at_call 202;refine (R.o _ T c2 t.o).mono ?_;rintro e y ⟨M,rfl,p,D,q⟩;have E:=ki (Nat.le_trans f.o.size D);replace i:=ki (i.o.kept q);replace f:=ki (bt f.o q);replace p:=ki p;clear q D t))
 have z:=ki (J.o.kept (show Below w.heap.size w y.drew from f.o.drew))
 have s:=ki (show BdIn w.heap.size b y.drew from i.o)
 obtain ⟨K,X,g4,d⟩:=z.o.add L.o (show ST _ M _ _ _ _ y.drew from p.o) (fun hk=>by have:=J.o.lt hk;have:=E.o;omega)
 have N:=ki (show Kpt (GO G a Ot (SO S β g.ss)) w K from ((Kpt.of f.o.drew).trans (show Kpt (GO G a Ot (SO S β g.ss)) y.drew K from ⟨⟨d.1,d.2.1,d.2.2.1,by rw[d.2.2.2.1];exact Nat.le_refl _,fun k _ hn=>d.2.2.2.2 k (fun e=>hn (.inr (.inr (.inr (.inl e)))))⟩,fun _ _ _ _ r=>r.pastn (fun j x=>z.o.2.2.2.1.1.nb j _) d⟩) (fun k hk=>.inl hk)))
 have F:=ki g4
 have O:=ki (show BdIn w.heap.size b K from (d.2.2.2.2 _ (fun e=>by have:=J.o.2.2.2.1.1.lt;omega)).trans s.o)
 clear g4 d
 have H:=z.o.1.streams
 have I:=s.o.cell 19 (by omega)
 go_region_held3 (fun W'=>W'.cell? ⟨G,24,none⟩=some (.map (some S))∧W'.cell? ⟨w.heap.size,19,none⟩=some (.int .i64 (el b 19)))
  (first
   | exact ⟨z.o.1.streams,s.o.cell 19 (by omega)⟩
   | exact ⟨F.o.1.streams,O.o.cell 19 (by omega)⟩
   | go_keep)
  (fail)
 all_goals
  clear H I
  go_wp2
  go_ret2
  exact ⟨M,rfl,E.o,F.o,N.o⟩
end
section
def sfd (ss:List (Int×List Int×Int×Bool×Bool)) (p:Int):Option (List Int×Int×Bool×Bool):=(ss.find? (fun x=>x.1 == p)).map (·.2)
theorem sfd_some {ss:List (Int×List Int×Int×Bool×Bool)} {p:Int} {st:List Int×Int×Bool×Bool} (h:sfd ss p=some st):(p,st) ∈ ss:=by
 unfold sfd at h
 obtain ⟨x,a,e⟩:=Option.map_eq_some_iff.1 h
 have b:=List.mem_of_find?_eq_some a
 have d:x.1=p:=by simpa using List.find?_some a
 rw[← d,← e]
 exact b
theorem sfd_none {ss:List (Int×List Int×Int×Bool×Bool)} {p:Int} (h:sfd ss p=none):∀ x ∈ ss,x.1≠p:=by
 unfold sfd at h
 rw[Option.map_eq_none_iff,List.find?_eq_none] at h
 intro x a e
 exact h x a (by simpa using e)
def stf (g:GS) (b:List Int):List (Int×List Int×Int×Bool×Bool)×List Int×Int×Bool×Bool:=match sfd g.ss (el b 19) with
 | some st=>(g.ss,st)
 | none=>((el b 19,hb b,0,false,false)::g.ss,hb b,0,false,false)
theorem streamof_any (G:Nat) (a:Option Addr) (cap:Nat) (tv:Value) (S:Nat) (Ot:Nat→Prop) (β:Int→Nat) (g:GS) (b:List Int) (w:World) (h:GC G a cap tv S Ot β g w) (hf:okf b=true) :
  Calls Tryz.prog 146 #[.pointer (some ⟨G,0,none⟩),.agg (bdC b)] w fun e w'=>∃ β',e=.returned (.tuple #[.pointer (some ⟨β' (el b 19),0,none⟩),.nilIface])∧GC G a cap tv S Ot β' (g.str (stf g b).1) w'∧Kpt (GO G a Ot (SO S β g.ss)) w w'∧(∀ k,SO S β' (stf g b).1 k→SO S β g.ss k∨w.heap.size≤k)∧(el b 19,(stf g b).2) ∈ (stf g b).1:=by
 cases hs:sfd g.ss (el b 19) with
 | some st =>
  have e:stf g b=(g.ss,st):=by unfold stf;rw[hs]
  rw[e]
  have i:=sfd_some hs
  exact (streamof_has G a cap tv S Ot β g b _ w h i rfl).mono fun r w' ⟨e1,d⟩=>⟨β,e1,h.kept d,Kpt.of d,fun _ hk=>.inl hk,i⟩
 | none =>
  have e:stf g b=((el b 19,hb b,0,false,false)::g.ss,hb b,0,false,false):=by unfold stf;rw[hs]
  rw[e]
  refine (streamof_new G a cap tv S Ot β g b w h (sfd_none hs) hf).mono ?_
  rintro r w' ⟨B,e1,d,l,e4⟩
  refine ⟨βp β (el b 19) B,?_,l,e4,?_,List.mem_cons_self ..⟩
  ·rw[e1,show βp β (el b 19) B (el b 19)=B from if_pos rfl]
  ·rintro k (f|⟨x,hx,f⟩)
   ·exact .inl (.inl f)
   ·rcases List.mem_cons.1 hx with rfl|hx
    ·rw[f,show βp β (el b 19) B (el b 19)=B from if_pos rfl]
     exact .inr d
    ·exact .inl (.inr ⟨x,hx,by rw[f];exact if_neg (sfd_none hs x hx)⟩)
def guo (g:GS) (b z D:List Int):Int×List Int×List Int×GS :=
 if tell g.c g.inj b=true then ((upo (stf g b).2.1 (stf g b).2.2.1 (stf g b).2.2.2.1 (stf g b).2.2.2.2 z D).1,(upo (stf g b).2.1 (stf g b).2.2.1 (stf g b).2.2.2.1 (stf g b).2.2.2.2 z D).2.1,(upo (stf g b).2.1 (stf g b).2.2.1 (stf g b).2.2.2.1 (stf g b).2.2.2.2 z D).2.2.1,g.str (sup (el b 19) ((stf g b).2.1,(upo (stf g b).2.1 (stf g b).2.2.1 (stf g b).2.2.2.1 (stf g b).2.2.2.2 z D).2.2.2) (stf g b).1))
 else (0,z,D,g)
def gdo (g:GS) (b z D:List Int):Int×List Int×List Int×GS:=match sfd g.ss (el b 19) with
 | some st=>((dno st.2.1 st.2.2.1 st.2.2.2 z D).1,(dno st.2.1 st.2.2.1 st.2.2.2 z D).2.1,(dno st.2.1 st.2.2.1 st.2.2.2 z D).2.2.1,g.str (sup (el b 19) (st.1,(dno st.2.1 st.2.2.1 st.2.2.2 z D).2.2.2) g.ss))
 | none=>(0,z,D,g)
def SI (g:GS):Prop:=(∀ x ∈ g.ss,(x.2.2.2.2=true→x.2.2.2.1=true)∧0≤x.2.2.1∧x.2.2.1 < 4294967296)
theorem stf_si {g:GS} (h:SI g) (b:List Int):((stf g b).2.2.2.2=true→(stf g b).2.2.2.1=true)∧0≤(stf g b).2.2.1∧(stf g b).2.2.1 < 4294967296:=by
 unfold stf
 split
 ·rename_i st hs
  exact h _ (sfd_some hs)
 ·exact ⟨(fun h=>by cases h),(by show (0:Int)≤0;decide),(by show (0:Int) < 4294967296;decide)⟩
def UK (w:World) (b z:List Int) (a1:Option Addr) (l1 c1:Nat) (D:List Int) (W:World):Prop:=BdIn w.heap.size b W∧SgIn (w.heap.size+1) z a1 l1 c1 W∧SgIn (w.heap.size+2) [] none 0 0 W∧Row8 W a1 l1 c1 D∧w.heap.size+2 < W.heap.size
theorem UK.kpt {w:World} {b z:List Int} {a1:Option Addr} {l1 c1:Nat} {D:List Int} {W W':World} (h:UK w b z a1 l1 c1 D W) {O:Nat→Prop} (k:Kpt O W W') (hO:∀ g,O g→g < w.heap.size):UK w b z a1 l1 c1 D W':=by
 have a:∀ g,w.heap.size≤g→g < W.heap.size→W'.heap[g]? = W.heap[g]?:=fun g h1 h2=>k.1.2.2.2.2 g h2 (fun ho=>by have:=hO g ho;omega)
 have hs:=h.2.2.2.2
 exact ⟨(a _ (Nat.le_refl _) (by omega)).trans h.1,(a _ (by omega) (by omega)).trans h.2.1,(a _ (by omega) (by omega)).trans h.2.2.1,k.2 _ _ _ _ h.2.2.2.1,Nat.lt_of_lt_of_le hs k.size⟩
theorem UK.kept {w:World} {b z:List Int} {a1:Option Addr} {l1 c1:Nat} {D:List Int} {W W':World} (h:UK w b z a1 l1 c1 D W) (hb:Below W.heap.size W W'):UK w b z a1 l1 c1 D W':=h.kpt (Kpt.of (O:=fun _=>False) hb) (fun _ h=>h.elim)
theorem UK.start (w:World) (b z:List Int) (a1:Option Addr) (l1 c1:Nat) (D:List Int) (hr:Row8 w a1 l1 c1 D):UK w b z a1 l1 c1 D (((w.alloc (.cells (bdC b) 95)).alloc (.cells (sgC z a1 l1 c1) 39)).alloc (.cells zero7 39))∧Below w.heap.size w (((w.alloc (.cells (bdC b) 95)).alloc (.cells (sgC z a1 l1 c1) 39)).alloc (.cells zero7 39)):=by
 have g:=al_below w (.cells (bdC b) 95)
 have d:=al_below (w.alloc (.cells (bdC b) 95)) (.cells (sgC z a1 l1 c1) 39)
 have a:=al_below ((w.alloc (.cells (bdC b) 95)).alloc (.cells (sgC z a1 l1 c1) 39)) (.cells zero7 39)
 have e:=sg_new (w.alloc (.cells (bdC b) 95)) z a1 l1 c1
 have f:=zero_new ((w.alloc (.cells (bdC b) 95)).alloc (.cells (sgC z a1 l1 c1) 39))
 rw[World.size_alloc] at e
 rw[World.size_alloc,World.size_alloc] at f
 have hb:=bt (bt g d) a
 exact ⟨⟨((bd_new b w).kept d).kept a,e.kept a,f,hr.below hb,by simp⟩,hb⟩
attribute [local go_sem ↓] fload_shut bload_shut slk_shut gload_shut
theorem gup_no (G:Nat) (a:Option Addr) (cap:Nat) (tv:Value) (S:Nat) (Ot:Nat→Prop) (β:Int→Nat) (g:GS) (b z:List Int) (a1:Option Addr) (l1 c1:Nat) (D:List Int) (w:World) (h:GC G a cap tv S Ot β g w) (hr:Row8 w a1 l1 c1 D) (ht:tell g.c g.inj b=false) :
  Calls Tryz.prog 99 #[.pointer (some ⟨G,0,none⟩),.agg (bdC b),.agg (sgC z a1 l1 c1)] w fun e w'=>∃ a2 l2 c2,e=.returned (.tuple #[.agg (sgC (guo g b z D).2.1 a2 l2 c2),ev (guo g b z D).1])∧Row8 w' a2 l2 c2 (guo g b z D).2.2.1∧GQ w G a cap tv S Ot β g (guo g b z D).2.2.2 w':=by
 rw[show guo g b z D=(0,z,D,g) from if_neg (by rw[ht];decide)]
 obtain ⟨o,hb⟩:=UK.start w b z a1 l1 c1 D hr
 have d:=ki o
 have f:=ki hb
 unfold zero7 at d f
 have r:=ki h
 have p:=ki (fun W (hW:Below w.heap.size w W)=>tells_any G g.c g.inj a g.bk.length cap tv S g.now b W (h.1.kept hW))
 rw[ht] at p
 clear h hr ht o hb
 go_enter Tryz.func99,Tryz.ntmps99
 go_upto_region 1 with fail
 generalize ((World.alloc _ _).alloc _).alloc _=W at d f ⊢
 have l:=d.o.1.ff
 go_upto_region 2 with (go_at_call 97;refine (p.o _ f.o).mono ?_;rintro e t ⟨rfl,i⟩;replace d:=ki (d.o.kept i);replace f:=ki (bt f.o i);clear i l)
 go_wp2_with (first
  | (refine at_load rfl (.tmp 5) rfl rfl d.o.2.1 ?_)
  | (refine at_store rfl (.tmp 6) (.tmp 15) rfl rfl d.o.2.2.1 z a1 l1 c1 rfl ?_;intro v n k;have q:=ki (k.below f.o (by omega));have s:=ki (d.o.2.2.2.1.past d.o.2.2.1 k);replace n:=ki n;clear k))
 try simp only[Exit.inBlock,Exit.then]
 refine bodyPost_ret (results_sg rfl _ _ (w.heap.size+2) z a1 l1 c1 rfl n.o) rfl ?_
 exact ⟨a1,l1,c1,rfl,s.o,r.o.still q.o⟩
theorem gup_yes (G:Nat) (a:Option Addr) (cap:Nat) (tv:Value) (S:Nat) (Ot:Nat→Prop) (β:Int→Nat) (g:GS) (b z:List Int) (a1:Option Addr) (l1 c1:Nat) (D:List Int) (w:World) (h:GC G a cap tv S Ot β g w) (hs:SI g) (hf:okf b=true) (hr:Row8 w a1 l1 c1 D) (ht:tell g.c g.inj b=true) :
  Calls Tryz.prog 99 #[.pointer (some ⟨G,0,none⟩),.agg (bdC b),.agg (sgC z a1 l1 c1)] w fun e w'=>∃ a2 l2 c2,e=.returned (.tuple #[.agg (sgC (guo g b z D).2.1 a2 l2 c2),ev (guo g b z D).1])∧Row8 w' a2 l2 c2 (guo g b z D).2.2.1∧GQ w G a cap tv S Ot β g (guo g b z D).2.2.2 w':=by
 unfold guo
 rw[if_pos ht]
 obtain ⟨hk,hb⟩:=UK.start w b z a1 l1 c1 D hr
 have d:=ki hk
 have f:=ki hb
 unfold zero7 at d f
 have n:=ki h
 have H:=ki (fun W (hW:Below w.heap.size w W)=>tells_any G g.c g.inj a g.bk.length cap tv S g.now b W (h.1.kept hW))
 rw[ht] at H
 have C:=ki (fun W (hW:GC G a cap tv S Ot β g W)=>streamof_any G a cap tv S Ot β g b W hW hf)
 have t:=(stf_si hs b).1
 obtain ⟨ss1,st1,hst⟩:∃ ss1 st1,stf g b=(ss1,st1):=⟨_,_,rfl⟩
 rw[hst] at C t ⊢
 have Q:=ki (fun W B (p:ST 304 B st1.1 st1.2.1 st1.2.2.1 st1.2.2.2 W) (r:Row8 W a1 l1 c1 D)=>up_any B st1.1 st1.2.1 st1.2.2.1 st1.2.2.2 z a1 l1 c1 D W p t r)
 dsimp only at C ⊢
 generalize upo st1.1 st1.2.1 st1.2.2.1 st1.2.2.2 z D=O at Q ⊢
 clear h hr ht hk hb hs hf t hst
 go_enter Tryz.func99,Tryz.ntmps99
 go_upto_region 1 with fail
 generalize ((World.alloc _ _).alloc _).alloc _=W at d f ⊢
 have l:=d.o.1.ff
 go_upto_region 3 with (go_at_call 97;refine (H.o _ f.o).mono ?_;rintro e w1 ⟨rfl,v⟩;replace d:=ki (d.o.kept v);replace f:=ki (bt f.o v);clear v l)
 have l:=d.o.1.bl
 go_upto_region 6 with (go_at_call 146;refine (C.o _ (n.o.kept f.o)).mono ?_;rintro e w2 ⟨β',rfl,R,I,T,U⟩;have i:=ki (d.o.kpt I (fun k hk=>n.o.lt hk));have y:=ki R;have A:=ki ((Kpt.of (O:=GO G a Ot (SO S β g.ss)) f.o).trans I (fun k hk=>.inl hk));have o:=ki (show ∀ k,SO S β' ss1 k→SO S β g.ss k∨w.heap.size+2 < k from fun k hk=>(T k hk).imp id (fun h=>by have:=d.o.2.2.2.2;omega));have J:=ki U;clear R I T U l d)
 clear f C H
 have E:=ki (y.o.2.2.2.1.2.1 _ J.o)
 go_wp2_with (first
  | (refine at_load rfl (.tmp 5) rfl rfl i.o.2.1 ?_)
  | (go_at_call 147;refine (Q.o _ _ E.o i.o.2.2.2.1).mono ?_;rintro e w3 ⟨K,L,c3,rfl,M,F,N⟩;obtain ⟨V,X⟩:=y.o.turn J.o N F;have q:=ki (show SgIn (w.heap.size+2) [] none 0 0 w3 from (N.2.2.2.2 _ (by have:=i.o.2.2.2.2;omega) (fun e=>by rcases o.o (w.heap.size+2) (.inr ⟨_,J.o,e⟩) with h1|h1;exact absurd (n.o.2.2.2.1.lt h1) (by omega);omega)).trans i.o.2.2.1);have Y:=ki V;replace A:=ki (A.o.trans X (fun k hk=>by rcases hk with h1|h1|h1|h1;exact .inl (.inl h1);exact .inl (.inr (.inl h1));exact .inl (.inr (.inr (.inl h1)));rcases o.o k h1 with h2|h2;exact .inl (.inr (.inr (.inr h2)));exact .inr (by omega)));have M:=ki M;clear V X F N i y E)
  | (refine at_store rfl (.tmp 6) (.tmp 29) rfl rfl q.o O.2.1 K L c3 rfl ?_;intro w5 P s;have r5:=ki (M.o.past q.o s);have HN:=ki (show ¬ GO G a Ot (SO S β' (g.str (sup (el b 19) (st1.1,O.2.2.2) ss1)).ss) (w.heap.size+2) by rintro (h1|h1|h1|h1);exact absurd n.o.1.lt (by omega);exact absurd (n.o.2.1.2.1 _ h1) (by omega);exact absurd (n.o.ot h1) (by omega);rcases o.o _ ((sup_so _ _ _ _ _ _).1 h1) with h2|h2;exact absurd (n.o.2.2.2.1.lt h2) (by omega);omega);have Z:=ki (Y.o.other s HN.o (fun j x=>q.o.no8 j x));have aa:=ki (A.o.own s (by omega) (fun j x=>q.o.no8 j x));replace P:=ki P;clear s))
 try simp only[Exit.inBlock,Exit.then]
 refine bodyPost_ret (results_sg rfl _ _ (w.heap.size+2) O.2.1 K L c3 rfl P.o) rfl ?_
 refine ⟨K,L,c3,rfl,r5.o,Ot,β',Z.o,aa.o,?_⟩
 rintro k (h1|h1|h1|h1)
 ·exact .inl (.inl h1)
 ·exact .inl (.inr (.inl h1))
 ·exact .inl (.inr (.inr (.inl h1)))
 ·rcases o.o k ((sup_so _ _ _ _ _ _).1 h1) with h2|h2
  ·exact .inl (.inr (.inr (.inr h2)))
  ·exact .inr (by omega)
end
end Go.Proofs.YtgcojnlngchllaaGreatDoor
