/- Package gate: a server's packet that is one, by a contract. Package gate: a server's packet, whatever it is, by a contract. Package gate: Now, Binds, and the closure by which a server is looked for, by contracts. Package gate: the server of a number, by contracts. Package gate: the server of a number, where it lies. Package gate: a server's mark set, in memory. Package gate: Probe and Drain, by contracts. -/
import Derived.Test.YtgcojnlngchllaaGreatDoorK32
namespace Go.Proofs.YtgcojnlngchllaaGreatDoor
open Go.RowKit
set_option linter.unusedVariables false
set_option maxRecDepth 100000
set_option maxHeartbeats 40000000
section
variable {x:List Int} {B:Nat} {w:World}
theorem bys_pos (s d:List Int) (t k:Int) (l:List Int):0 < (V6.bys s d t k l).length:=by
 unfold V6.bys
 rw[List.length_append]
 exact Nat.lt_of_lt_of_le (by decide:0 < 40) (Nat.le_add_right _ _)
def IK4 (w:World) (P Q:Nat) (s d t k i:Int) (a1:Option Addr) (l1 c1:Nat) (z:List Int) (a2:Option Addr) (l2 c2:Nat) (D:List Int) (W:World):Prop:=V4.PkIn P s d t k i a1 l1 c1 W∧SgIn Q z a2 l2 c2 W∧Row8 W a2 l2 c2 D∧w.heap.size≤P∧w.heap.size≤Q∧Below w.heap.size w W
theorem IK4.kept {P Q:Nat} {s d t k i:Int} {a1:Option Addr} {l1 c1:Nat} {z:List Int} {a2:Option Addr} {l2 c2:Nat} {D:List Int} {W W':World} (h:IK4 w P Q s d t k i a1 l1 c1 z a2 l2 c2 D W) (hb:Below W.heap.size W W'):IK4 w P Q s d t k i a1 l1 c1 z a2 l2 c2 D W':=⟨h.1.kept hb,h.2.1.kept hb,h.2.2.1.below hb,h.2.2.2.1,h.2.2.2.2.1,bt h.2.2.2.2.2 hb⟩
theorem IK4.only {P Q:Nat} {s d t k i:Int} {a1:Option Addr} {l1 c1:Nat} {z:List Int} {a2:Option Addr} {l2 c2:Nat} {D:List Int} {W W':World} (h:IK4 w P Q s d t k i a1 l1 c1 z a2 l2 c2 D W) (p:BdIn B x W) (on:Only B W W') (hP:P < B) (hQ:Q < B):IK4 w P Q s d t k i a1 l1 c1 z a2 l2 c2 D W' :=
 ⟨(on.2.2.2.2 _ (by omega)).trans h.1,(on.2.2.2.2 _ (by omega)).trans h.2.1,h.2.2.1.pastn p.no8 on,h.2.2.2.1,h.2.2.2.2.1,on.below h.2.2.2.2.2 (by have:=h.2.2.2.1;omega)⟩
theorem BdIn.hc (p:BdIn B x w):(hload (.pointer (some ⟨B,1,none⟩))).run Tryz.prog w=.ok (.agg (sixC (cli x))) w :=
 run_loadAt_mid w B 1 23 _ _ (fun j v hv=>by
  have hj:j < 8:=(List.getElem?_eq_some_iff.1 hv).1
  rw[p.cell (1+j) (by omega)]
  rcases (by omega:j=0∨j=1∨j=2∨j=3∨j=4∨j=5∨j=6∨j=7) with rfl|rfl|rfl|rfl|rfl|rfl|rfl|rfl <;> exact hv) Tryz.underlying23 rfl (by kernel_rfl)
theorem BdIn.hd (p:BdIn B x w):(hload (.pointer (some ⟨B,10,none⟩))).run Tryz.prog w=.ok (.agg (sixC (dst x))) w :=
 run_loadAt_mid w B 10 23 _ _ (fun j v hv=>by
  have hj:j < 8:=(List.getElem?_eq_some_iff.1 hv).1
  rw[p.cell (10+j) (by omega)]
  rcases (by omega:j=0∨j=1∨j=2∨j=3∨j=4∨j=5∨j=6∨j=7) with rfl|rfl|rfl|rfl|rfl|rfl|rfl|rfl <;> exact hv) Tryz.underlying23 rfl (by kernel_rfl)
attribute [local go_sem ↓] gload_shut bload_shut bstore_shut hload_shut
theorem in4_go (G:Nat) (a:Option Addr) (cap:Nat) (tv:Value) (S:Nat) (Ot:Nat→Prop) (β:Int→Nat) (g:GS) (b:Option Addr) (len bcap:Nat) (s d ttl k i:Int) (z D:List Int) (w:World) (h:GC G a cap tv S Ot β g w) (hi:TI g) (hs:SI g) (hz:Okg z D.length) (hh:2≤ttl∧ttl≤255)
  (hO:Calls Tryz.prog 101 #[.slice b len bcap] w fun e w'=>∃ a1 l1 c1 a2 l2 c2,e=.returned (.tuple #[V4.pk s d ttl k i a1 l1 c1,.agg (sgC z a2 l2 c2),.nilIface])∧Row8 w' a2 l2 c2 D∧Below w.heap.size w w') (R:Int×List Int×GS) (hR:R=g4s g s d ttl k z D) :
  Calls Tryz.prog 52 #[.pointer (some ⟨G,0,none⟩),.slice b len bcap] w fun e w'=>∃ a2 l2 c2,e=.returned (.tuple #[.slice a2 l2 c2,ev R.1])∧(Row8 w' a2 l2 c2 R.2.1∧l2≤c2∧c2≤maxLen)∧GQ w G a cap tv S Ot β g R.2.2 w':=by
 obtain ⟨x,e0,hNr,L⟩:∃ x e0,Nr g.bs k (el z 2) x e0∧((e0=4∧R=(4,[],g))∨(e0=0∧∃ j,j < g.bs.length∧x=g.bs.getD j []∧prt g.bs (el z 2)=some j∧R=if d=el g.c 18∧s=el x 20∧el z 1=el x 21 then g4b (g.tab g.ws g.ts (g.bs.set j (usd x g.now))) x ttl z D else (4,[],g))):=by
  unfold g4s at hR
  cases hn:nrk g.bs k (el z 2) with
  | none=>rw[hn] at hR;exact ⟨[],4,nrk_none hn,.inl ⟨rfl,hR⟩⟩
  | some j=>rw[hn] at hR;exact ⟨_,0,(nrk_some hn).1,.inr ⟨rfl,j,(prt_lt (nrk_some hn).2).1,rfl,(nrk_some hn).2,hR⟩⟩
 have HO:=ki hO
 have H0:=ki h
 have bh:=ki L
 have HZ:=ki (fun W=>R4.start W)
 have a4:=ki (fun W=>bd_zero W)
 unfold V4.zero4 zero7 at HZ
 unfold zero23 at a4
 have bi:=ki (fun W (hW:Below w.heap.size w W)=>tb_jr.1 tv g.m g.ws g.ts g.bs Ot W k (el z 2) x e0 hi.1 hi.2.1 hi.2.2.1 (h.kept hW).2.2.1 hNr)
 have Hi:=ki hi
 have Hs:=ki hs
 have Hz:=ki hz
 have Hh:=ki hh
 clear hO hR L hNr h hi hs hz hh
 go_enter Tryz.func52,Tryz.ntmps52
 go_upto_region 4 with (first
  | (go_at_call 101;refine HO.o.mono ?_;rintro e w1 ⟨a1,l1,c1,a2,l2,c2,rfl,r1,cs⟩;have A:=ki (HZ.o w1);have HB:=ki cs;have R1:=ki r1;clear cs r1)
  | (refine V4.at_store rfl (.tmp 6) (.tmp 14) rfl rfl A.o.1 s d ttl k i a1 l1 c1 rfl ?_;intro w2 p2 bq;have HS:=ki (bq.sg A.o.2.1 (by omega));have ct:=ki (bq.below A.o.2.2 (Nat.le_refl _));have P2:=ki p2;clear p2 bq)
  | (refine at_store rfl (.tmp 7) (.tmp 15) rfl rfl HS.o z a2 l2 c2 rfl ?_;intro E p3 br;have bw:=ki (br.below ct.o (Nat.le_succ _));have P3:=ki (show V4.PkIn _ _ _ _ _ _ _ _ _ E from (br.2.2.2.2 _ (by omega)).trans P2.o);have S3:=ki p3;clear p3 br P2 HS ct))
 clear HO HZ A
 have HI:=ki (show IK4 w w1.heap.size (w1.heap.size+1) s d ttl k i a1 l1 c1 z a2 l2 c2 D E from ⟨P3.o,S3.o,R1.o.below bw.o,HB.o.size,Nat.le_succ_of_le HB.o.size,bt HB.o bw.o⟩)
 clear HB bw R1 P3 S3
 generalize w1.heap.size=P at HI ⊢
 have A:=ki (show ∀ W',IK4 w P (P+1) s d ttl k i a1 l1 c1 z a2 l2 c2 D W'→W'.cell? ⟨G,23,none⟩=some tv∧W'.cell? ⟨P,3,none⟩=some (.int .i64 k)∧W'.cell? ⟨P+1,2,none⟩=some (.int .i64 (el z 2)) from fun W' h=>⟨(H0.o.kept h.2.2.2.2.2).1.table,h.1.all.2.2.2.1,h.2.1.c2⟩)
 have HD:=ki (show P+1 < E.heap.size from HI.o.2.1.lt)
 have an:=ki (HI.o.kept (show Below E.heap.size E E.drew from (Below.refl _ _).drew))
 have ao:=ki (HI.o.kept (show Below E.heap.size E (E.alloc (.cells zero23 95)).drew from (al_below E _).drew))
 have a5:=ki (show BdIn E.heap.size [] (E.alloc (.cells zero23 95)).drew from bd_zero E)
 unfold zero23 at ao a5
 obtain ⟨o,p,q⟩:=A.o _ an.o
 go_cut [8,9] from 8 to 31 (fun u v wx=>u=ev e0∧(∃ Db,v=.pointer (some ⟨Db,0,none⟩)∧Hid (BdIn Db x wx∧P+1 < Db))∧Hid (IK4 w P (P+1) s d ttl k i a1 l1 c1 z a2 l2 c2 D wx))
 case first =>
  go_region_held3 (fun W'=>W'.cell? ⟨G,23,none⟩=some tv∧W'.cell? ⟨P,3,none⟩=some (.int .i64 k)∧W'.cell? ⟨P+1,2,none⟩=some (.int .i64 (el z 2)))
   (first
    | exact A.o _ an.o
    | exact A.o _ ao.o
    | exact A.o _ J.o
    | exact A.o _ f.o
    | exact A.o _ bz.o
    | go_keep)
   (first
    | (go_at_call 102;refine (bi.o _ an.o.2.2.2.2.2).mono ?_;rintro e w4 ⟨rfl,M⟩;have J:=ki (an.o.kept M);have f:=ki (J.o.kept (al_below w4 (.cells zero23 95)));obtain ⟨w6,k6,p6,ap⟩:=(a4.o w4).held x;have b2:=ki (show P+1 < w4.heap.size from J.o.2.1.lt);unfold zero23 at f;have bz:=ki (f.o.only (a4.o w4) ap (by have:=b2.o;omega) b2.o);have t:=ki (And.intro p6 b2.o);clear M o p q p6 ap;obtain ⟨o,p,q⟩:=A.o _ J.o)
    | (go_at_call 102;refine (bi.o _ ao.o.2.2.2.2.2).mono ?_;rintro e w4 ⟨rfl,M⟩;have J:=ki (ao.o.kept M);have f:=J;obtain ⟨w6,k6,p6,ap⟩:=(a5.o.kept M).held x;have bz:=ki (J.o.only (a5.o.kept M) ap (by have:=HD.o;omega) HD.o);have t:=ki (And.intro p6 HD.o);clear M o p q p6 ap;obtain ⟨o,p,q⟩:=A.o _ J.o))
  all_goals
   go_wp2_with fail
   go_meet
   exact ⟨rfl,⟨_,rfl,t⟩,bz⟩
 case rest =>
  obtain ⟨rfl,⟨Db,rfl,t⟩,F⟩:=hcut
  clear an ao a5 o p q HI HD bi A a4
  have HN:=ki (H0.o.kept F.o.2.2.2.2.2)
  have o:=F.o.1.all.2.1
  have p:=HN.o.1.near
  have q:=F.o.1.all.1
  have q4:=t.o.1.cell 20 (by omega)
  have q5:=F.o.2.1.c1
  have q6:=t.o.1.cell 21 (by omega)
  have Z:=ki (fun n=>F.o.kept (W':=World.drewN wc n) ⟨rfl,rfl,rfl,Nat.le_refl _,fun _ _=>rfl⟩)
  have a6:=ki (fun n=>(show BdIn Db x (World.drewN wc n)∧P+1 < Db from ⟨t.o.1.kept ⟨rfl,rfl,rfl,Nat.le_refl _,fun _ _=>rfl⟩,t.o.2⟩))
  clear F t HN
  rcases bh.o with ⟨rfl,hRR⟩|⟨rfl,j,hj,hx,b5,hRR⟩
  case inl =>
   have aa:=ki hRR
   clear bh hRR Hi Hs Hz Hh
   rw[ev_err (by decide)]
   unfold err
   go_upto_region 5 with fail
   go_quiet (fail)
   clear o p q q4 q5 q6
   generalize hW:World.drewN _ _=W1
   have F:Hid (IK4 w P (P+1) s d ttl k i a1 l1 c1 z a2 l2 c2 D W1):=by rw[← hW];exact Z.o _
   clear hW Z a6
   go_wp2
   go_ret2
   rw[aa.o]
   exact ⟨none,0,0,rfl,⟨gt_no _,Nat.le_refl _,by unfold maxLen;omega⟩,H0.o.still F.o.2.2.2.2.2⟩
  case inr =>
   have aa:=ki hRR
   have HJ:=ki (And.intro hj (And.intro hx b5))
   clear bh hRR hj hx b5
   rw[ev_nil]
   by_cases hm:d=el g.c 18∧s=el x 20∧el z 1=el x 21
   case neg =>
    have B:=ki (show R=(4,[],g) by rw[aa.o,if_neg hm])
    have cm:¬ d=el g.c 18∨(d=el g.c 18∧¬ s=el x 20)∨(d=el g.c 18∧s=el x 20∧¬ el z 1=el x 21):=by omega
    clear aa Hi Hs Hz Hh HJ hm
    rcases cm with a7|⟨a7,b6⟩|⟨a7,b6,cu⟩
    all_goals
     go_upto_region 5 with fail
     go_quiet (fail)
     clear o p q q4 q5 q6
     generalize hW:World.drewN _ _=W1
     have F:Hid (IK4 w P (P+1) s d ttl k i a1 l1 c1 z a2 l2 c2 D W1):=by rw[← hW];exact Z.o _
     clear hW Z a6
     go_wp2
     go_ret2
     rw[B.o]
     exact ⟨none,0,0,rfl,⟨gt_no _,Nat.le_refl _,by unfold maxLen;omega⟩,H0.o.still F.o.2.2.2.2.2⟩
   case pos =>
    have B:=ki (show R=g4b (g.tab g.ws g.ts (g.bs.set j (usd x g.now))) x ttl z D by rw[aa.o,if_pos hm])
    obtain ⟨a7,b6,cu⟩:=hm
    clear aa
    go_upto_region 5 with fail
    go_quiet (fail)
    clear o p q q4 q5 q6 a7 b6 cu
    generalize hW:World.drewN _ _=W1
    have F:Hid (IK4 w P (P+1) s d ttl k i a1 l1 c1 z a2 l2 c2 D W1):=by rw[← hW];exact Z.o _
    have t:Hid (BdIn Db x W1∧P+1 < Db):=by rw[← hW];exact a6.o _
    clear hW Z a6
    go_upto_region 7 with fail
    have a8:=ki (F.o.kept (show Below W1.heap.size W1 W1.drew from (Below.refl _ _).drew))
    have ab:=ki (show BdIn Db x W1.drew from t.o.1)
    have HD:=ki (show P+1 < Db∧Db < W1.heap.size from ⟨t.o.2,t.o.1.lt⟩)
    have N:=ki (H0.o.kept a8.o.2.2.2.2.2)
    have cv:=ki (show Calls Tryz.prog 103 #[tv,.int .i64 (el x 19),.int .i64 g.now] W1.drew fun e w'=>e=.returned .nilIface∧TQ TB tv g.m g.ws g.ts (g.bs.set j (usd x g.now)) Ot W1.drew w' from by
     obtain ⟨t1,t2,t3,t4,t5⟩:=Hi.o
     obtain ⟨hj,hx,b5⟩:=HJ.o
     have aw:g.bs.getD j [] ∈ g.bs:=by
      rw[List.getD_eq_getElem?_getD,List.getElem?_eq_getElem hj]
      exact List.getElem_mem hj
     have:=tb_ji.2.2.2.2.1 tv g.m g.ws g.ts g.bs Ot W1.drew (el (g.bs.getD j []) 19) g.now 0 _ t1 t2 t3 N.o.2.2.1 (.inr (.inr (.inr ⟨j,prt_self t3.2.1 hj,t4,by have:=t5 _ aw;omega,rfl,rfl⟩)))
     rw[ev_nil,← hx] at this
     exact this)
    have o:=N.o.1.table
    have p:=ab.o.cell 19 (by omega)
    have q:=N.o.1.now
    clear t F
    go_region_held3 (fun W'=>W'.cell? ⟨G,23,none⟩=some tv∧W'.cell? ⟨Db,19,none⟩=some (.int .i64 (el x 19))∧W'.cell? ⟨G,25,none⟩=some (.int .i64 g.now))
     (first
      | exact ⟨N.o.1.table,ab.o.cell 19 (by omega),N.o.1.now⟩
      | exact S5.o
      | go_keep)
     (first
      | (go_at_call 103;refine cv.o.mono ?_;rintro e X ⟨rfl,tq⟩;obtain ⟨Ot',g5,k5,s5⟩:=N.o.tab tq;have b7:=ki g5;have f:=ki k5;have cw:=ki s5;have ac:=ki (show BdIn Db x X from (k5.1.2.2.2.2 Db ab.o.lt (fun ho=>by have:=H0.o.lt ho;have:=a8.o.2.2.2.1;have:=HD.o;omega)).trans ab.o);have S5:=ki (show X.cell? ⟨G,23,none⟩=some tv∧X.cell? ⟨Db,19,none⟩=some (.int .i64 (el x 19))∧X.cell? ⟨G,25,none⟩=some (.int .i64 g.now) from ⟨g5.1.table,ac.o.cell 19 (by omega),g5.1.now⟩);clear o p q g5 k5 s5 tq;obtain ⟨o,p,q⟩:=S5.o))
    all_goals
     clear o p q
     have ax:∀ k,GO G a Ot (SO S β g.ss) k→k < w.heap.size:=fun k hk=>H0.o.lt hk
     have hN:∀ k,GO G a Ot' (SO S β g.ss) k→GO G a Ot (SO S β g.ss) k∨W1.drew.heap.size≤k:=by
      rintro k (h1|h1|h1|h1)
      ·exact .inl (.inl h1)
      ·exact .inl (.inr (.inl h1))
      ·exact (cw.o k h1).imp (fun h=>.inr (.inr (.inl h))) id
      ·exact .inl (.inr (.inr (.inr h1)))
     have L:∀ k,w.heap.size≤k→k < W1.drew.heap.size→¬ GO G a Ot' (SO S β g.ss) k:=fun k h1 h2 h3=>by
      rcases hN k h3 with h4|h4
      ·have:=ax k h4;omega
      ·omega
     have ay:∀ k,w.heap.size≤k→¬ GO G a Ot (SO S β g.ss) k:=fun k h1 h2=>by have:=ax k h2;omega
     obtain ⟨i1,i2,i3,i4,i5,i6⟩:=a8.o
     have cx:w.heap.size≤Db:=by have:=HD.o;omega
     have Q:=ki (show ¬ GO G a Ot' (SO S β g.ss) P∧¬ GO G a Ot' (SO S β g.ss) (P+1)∧¬ GO G a Ot' (SO S β g.ss) Db from ⟨L P i4 i1.lt,L _ i5 i2.lt,L Db cx ab.o.lt⟩)
     have K:=ki (show V4.PkIn P s d ttl k i a1 l1 c1 X∧SgIn (P+1) z a2 l2 c2 X∧Row8 X a2 l2 c2 D from ⟨(f.o.1.2.2.2.2 P i1.lt (ay P i4)).trans i1,(f.o.1.2.2.2.2 (P+1) i2.lt (ay _ i5)).trans i2,f.o.2 _ _ _ _ i3⟩)
     have cy:=ki (show Kpt (GO G a Ot (SO S β g.ss)) w X from (Kpt.of i6).trans f.o (fun _ hk=>.inl hk))
     have aq:=ki (show ∀ k,GO G a Ot' (SO S β g.ss) k→GO G a Ot (SO S β g.ss) k∨w.heap.size≤k from fun k hk=>(hN k hk).imp id (fun h=>Nat.le_trans i6.size h))
     have l:=ki (show P+1 < X.heap.size∧P≠P+1∧Db < X.heap.size∧P+1 < Db∧w.heap.size≤P from ⟨K.o.2.1.lt,by omega,ac.o.lt,HD.o.1,i4⟩)
     have ad:=ki (show okf x=true∧Ok6 (dst x)∧Ok6 (cli x)∧(0≤el x 18∧el x 18≤65535)∧(0≤el x 9∧el x 9≤65535) from by
      obtain ⟨hj,hx,_⟩:=HJ.o
      have aw:x ∈ g.bs:=by
       rw[hx,List.getD_eq_getElem?_getD,List.getElem?_eq_getElem hj]
       exact List.getElem_mem hj
      have hf:=(Hi.o.2.2.1.1 _ aw).1
      have ae:=hf
      unfold okf at ae
      simp only[Bool.and_eq_true] at ae
      exact ⟨hf,(s6_iff _).1 ae.1.1.2,(s6_iff _).1 ae.1.1.1.2,(wd_iff _).1 ae.2,(wd_iff _).1 ae.1.2⟩)
     generalize hg':g.tab g.ws g.ts (g.bs.set j (usd x g.now))=g' at b7 B
     have a9:=ki (show g'.ss=g.ss from by rw[← hg'];rfl)
     have b8:=ki (show SI g' from by have:=Hs.o;unfold SI at this ⊢;rw[a9.o];exact this)
     clear hg' hN L ay ax i1 i2 i3 i4 i5 i6 cx a8 ab N cv S5 f cw HD Hi HJ
     rw[← a9.o] at Q
     replace aq:=ki (show ∀ k,GO G a Ot' (SO S β g'.ss) k→GO G a Ot (SO S β g.ss) k∨w.heap.size≤k from by rw[a9.o];exact aq.o)
     have b9:=ki (fun W (hW:GC G a cap tv S Ot' β g' W) (r:Row8 W a2 l2 c2 D)=>gdown_any G a cap tv S Ot' β g' x z a2 l2 c2 D W hW b8.o r)
     have ba:=ki (fun h0=>gdo_ok (g:=g') (b:=x) b8.o Hz.o h0)
     unfold g4b at B
     generalize gdo g' x z D=U at b9 ba B
     have ed:=ac.o.bl
     go_upto_region 11 with (first
      | (refine at_load rfl (.tmp 7) rfl rfl K.o.2.1 ?_)
      | (go_at_call 104;refine (b9.o _ b7.o K.o.2.2).mono ?_;rintro e w9 ⟨a3,l3,c3,rfl,r9,q9⟩;obtain ⟨ar,β2,g9,k9,s9⟩:=q9;have cz:=ki g9;have bb:=ki s9;have R9:=ki r9;have c9:=ki (cy.o.trans k9 aq.o);have P9:=ki (show V4.PkIn _ _ _ _ _ _ _ _ _ w9 from (k9.1.2.2.2.2 P K.o.1.lt Q.o.1).trans K.o.1);have S9:=ki (show SgIn _ _ _ _ _ w9 from (k9.1.2.2.2.2 (P+1) K.o.2.1.lt Q.o.2.1).trans K.o.2.1);have D9:=ki (show BdIn _ _ w9 from (k9.1.2.2.2.2 Db ac.o.lt Q.o.2.2).trans ac.o);clear g9 k9 s9 r9 ed)
      | (refine at_store rfl (.tmp 7) (.tmp 78) rfl rfl S9.o U.2.1 a3 l3 c3 rfl ?_;intro da db H;have am:=ki (show ¬ GO G a ar (SO S β2 U.2.2.2.ss) (P+1) from fun hk=>by rcases bb.o _ hk with h1|h1;exact Q.o.2.1 h1;have:=l.o.1;omega);have az:=ki (cz.o.other H am.o (fun j x=>S9.o.no8 j x));have a0:=ki (c9.o.own H (by have:=l.o.2.2.2.2;omega) (fun j x=>S9.o.no8 j x));have dc:=ki (R9.o.past S9.o H);have dd:=ki (show V4.PkIn _ _ _ _ _ _ _ _ _ da from (H.2.2.2.2 P l.o.2.1).trans P9.o);have bc:=ki (show BdIn _ _ da from (H.2.2.2.2 Db (by have:=l.o;omega)).trans D9.o);have C:=ki db;clear db H))
     have cc:=ki (show ∀ k,GO G a ar (SO S β2 U.2.2.2.ss) k→GO G a Ot (SO S β g.ss) k∨w.heap.size≤k from fun k hk=>by
      rcases bb.o k hk with h1|h1
      ·exact aq.o k h1
      ·have:=l.o
       exact .inr (by omega))
     clear cz c9 R9 P9 S9 D9 K b7 ac cy b9
     by_cases hU:U.1=0
     case neg =>
      have bd:=ki (show R=(U.1,[],U.2.2.2) by rw[B.o,if_pos hU])
      have ek:=ki (ev_err hU)
      rw[ev_err hU]
      unfold err
      clear B hU ba ad Hs Hz Hh
      go_wp2
      go_ret2
      rw[bd.o]
      exact ⟨none,0,0,by rw[ek.o];rfl,⟨gt_no _,Nat.le_refl _,by unfold maxLen;omega⟩,ar,β2,az.o,a0.o,cc.o⟩
     case pos =>
      have bd:=ki (show R=(0,p6o (dst x) (cli x) (ttl - 1) (zft U.2.1 (el x 18) (el x 9)) U.2.2.1,U.2.2.2) by rw[B.o,if_neg (fun h=>h hU)])
      have de:=ki (ba.o hU)
      rw[hU,ev_nil]
      clear B hU ba
      have x1:=C.o.c1
      have x2:=C.o.c2
      have y1:=C.o.frz 1
      have y2:=C.o.frz 2
      have em:=bc.o.cell 18 (by omega)
      have d9:=bc.o.cell 9 (by omega)
      obtain ⟨df,I⟩:=C.o.set12 (el x 18) (el x 9)
      have am:=ki (show ¬ GO G a ar (SO S β2 U.2.2.2.ss) (P+1) from fun hk=>by rcases bb.o _ hk with h1|h1;exact Q.o.2.1 h1;have:=l.o.1;omega)
      have T:=ki (az.o.other I am.o (fun j x=>C.o.no8 j x))
      have V:=ki (a0.o.own I (by have:=l.o.2.2.2.2;omega) (fun j x=>C.o.no8 j x))
      have af:=ki (dc.o.past C.o I)
      have au:=ki (show V4.PkIn P s d ttl k i a1 l1 c1 _ from (I.2.2.2.2 P l.o.2.1).trans dd.o)
      have ag:=ki (show BdIn Db x _ from (I.2.2.2.2 Db (by have:=l.o;omega)).trans bc.o)
      have ai:=ki df
      clear df I az a0 dc dd bc C
      go_upto_region 13 with fail
      go_region
      clear x1 x2 y1 y2 em d9
      generalize (World.setCell _ _ _).setCell _ _=w11 at T V af au ag ai ⊢
      go_upto_region 14 with fail
      have y:Below w11.heap.size w11 w11.drew:=(Below.refl _ _).drew
      replace T:=ki (T.o.kept y)
      replace V:=ki (V.o.trans (Kpt.of (O:=fun _=>False) y) (fun _ h=>h.elim))
      replace af:=ki (af.o.below y)
      replace au:=ki (au.o.kept y)
      replace ag:=ki (ag.o.kept y)
      replace ai:=ki (ai.o.kept y)
      clear y
      generalize w11.drew=w12 at T V af au ag ai ⊢
      have ep:=af.o.1
      subst ep
      have hh:=Hh.o
      have dg:=ki (show Okg (zft U.2.1 (el x 18) (el x 9)) U.2.2.1.length from zft_ok de.o.1 ad.o.2.2.2.1 ad.o.2.2.2.2)
      have be:=ki (fun W (r:Row8 W a3 U.2.2.1.length c3 U.2.2.1)=>close6_ok (dst x) (cli x) (ttl - 1) (zft U.2.1 (el x 18) (el x 9)) a3 U.2.2.1.length c3 U.2.2.1 W ad.o.2.1 ad.o.2.2.1 (decide_eq_true ⟨by omega,by omega⟩) dg.o r)
      have dh:=ki (show p6o (dst x) (cli x) (ttl - 1) (zft U.2.1 (el x 18) (el x 9)) U.2.2.1=V6.bys (dst x) (cli x) (ttl - 1) (el (zft U.2.1 (el x 18) (el x 9)) 0) (eb (zft U.2.1 (el x 18) (el x 9)) (o6 (dst x) (cli x) (el (zft U.2.1 (el x 18) (el x 9)) 0) ((hn (el (zft U.2.1 (el x 18) (el x 9)) 0):Nat)+(U.2.2.1.length:Int))) U.2.2.1) from rfl)
      rw[← dh.o] at be
      have di:=ki (show 0 < (p6o (dst x) (cli x) (ttl - 1) (zft U.2.1 (el x 18) (el x 9)) U.2.2.1).length from bys_pos _ _ _ _ _)
      generalize p6o (dst x) (cli x) (ttl - 1) (zft U.2.1 (el x 18) (el x 9)) U.2.2.1=Y at be di bd
      generalize zft U.2.1 (el x 18) (el x 9)=zz at be ai
      have e8:IntKind.i64.wrap (ttl - 1)=ttl - 1:=by rw[IntKind.wrap_i64];omega
      clear dh dg ad Hs Hz de Hh am Q l bb aq a9 b8
      have o:=ag.o.hd
      have p:=ag.o.hc
      have q:=au.o.all.2.2.1
      have q5:=ai.o.gl
      go_wp2_with (go_at_call 105;refine (be.o _ af.o).mono ?_;rintro e e9 ⟨fa,rfl,dj,cd⟩;obtain ⟨fc,fg,rfl,k1,k2,-,-,dk⟩:=dj.form di.o;have ce:=ki cd;have t:=ki (And.intro dk (And.intro k1 k2));clear cd dj dk k1 k2 o p q q5)
      go_ret2
      rw[bd.o]
      exact ⟨_,_,_,rfl,t.o,ar,β2,T.o.kept ce.o,V.o.trans (Kpt.of (O:=fun _=>False) ce.o) (fun _ h=>h.elim),cc.o⟩
end
section
theorem in4_any (G:Nat) (a:Option Addr) (cap:Nat) (tv:Value) (S:Nat) (Ot:Nat→Prop) (β:Int→Nat) (g:GS) (b:Option Addr) (len bcap:Nat) (zs:List Int) (w:World) (h:GC G a cap tv S Ot β g w) (hi:TI g) (hs:SI g) (hr:Row8 w b len bcap zs) (hcl:len≤bcap) (hcm:bcap≤maxLen) :
  Calls Tryz.prog 52 #[.pointer (some ⟨G,0,none⟩),.slice b len bcap] w fun e w'=>∃ a2 l2 c2,e=.returned (.tuple #[.slice a2 l2 c2,ev (g4 g zs).1])∧(Row8 w' a2 l2 c2 (g4 g zs).2.1∧l2≤c2∧c2≤maxLen)∧GQ w G a cap tv S Ot β g (g4 g zs).2.2 w':=by
 by_cases hG:P4.Good zs
 ·by_cases hE:(o4s zs).1=0
  ·have i:=hr.2.2.1
   have f:=oso_ok hE
   refine in4_go G a cap tv S Ot β g b len bcap (P4.src zs) (P4.dst zs) (zs.getD 8 0) (zs.getD 9 0) (P4.wd zs 4) (o4s zs).2.1 (o4s zs).2.2 w h hi hs f.1 ⟨f.2.2.2,(i 8).2⟩ ?_ (g4 g zs) ?_
   ·have d:=open4_good b len bcap zs w hr hcl hcm hG
    rw[hE,ev_nil] at d
    exact d
   ·unfold g4
    rw[if_neg (fun h=>h hG),if_neg (fun h=>h hE)]
  ·have e:g4 g zs=((o4s zs).1,[],g):=by unfold g4;rw[if_neg (fun h=>h hG),if_pos hE]
   rw[e]
   refine (in4_stop G b len bcap (o4s zs).1 w ?_).mono fun r w' ⟨e1,e2⟩=>⟨none,0,0,by rw[e1,ev_err hE],⟨gt_no _,Nat.le_refl _,by unfold maxLen;omega⟩,h.still e2⟩
   have d:=open4_good b len bcap zs w hr hcl hcm hG
   rw[ev_err hE] at d
   exact d.mono fun r w' ⟨a1,l1,c1,a2,l2,c2,e1,_,e3⟩=>⟨⟨_,_,_,_,_,_,_,_,_,_,_,_,e1⟩,e3⟩
 ·have e:g4 g zs=(e4 zs,[],g):=by unfold g4;exact if_pos hG
  rw[e]
  refine (in4_stop G b len bcap (e4 zs) w ?_).mono fun r w' ⟨e1,e2⟩=>⟨none,0,0,by rw[e1,ev_err (e4_pos zs)],⟨gt_no _,Nat.le_refl _,by unfold maxLen;omega⟩,h.still e2⟩
  exact (open4_bad b len bcap zs w hr hcl hcm hG).mono fun r w' ⟨e1,e3⟩=>⟨⟨_,_,_,_,_,_,_,_,_,_,_,_,e1⟩,e3⟩
end
section
theorem sv1_any (B:Nat) (id:Int) (x:List Int) (w:World) (h:w.cell? ⟨B,0,none⟩=some (.int .i64 id)) :
  Calls Tryz.prog 160 #[.agg (bkC x),.pointer (some ⟨B,0,none⟩)] w fun e w'=>e=.returned (.bool (decide (el x 0=id)))∧Below w.heap.size w w':=by
 have b:B < w.heap.size:=World.block_lt_of_cell? w _ h
 have y:=h
 clear h
 unfold bkC
 by_cases e:el x 0=id
 all_goals
  go_enter Tryz.func160,Tryz.ntmps160
  go_wp2
  go_ret
  exact ⟨by simp[e],al_below w _⟩
end
section
def svk (bk:List (List Int)) (id:Int):Option Nat:=(List.range bk.length).find? fun i=>decide (el (bk.getD i []) 0=id)
theorem svk_yes {bk:List (List Int)} {id:Int} {k:Nat} (hk:k < bk.length) (h:∀ j,j < k→decide (el (bk.getD j []) 0=id)=false) (h1:decide (el (bk.getD k []) 0=id)=true):svk bk id=some k:=by
 unfold svk
 rw[List.find?_range_eq_some]
 exact ⟨h1,List.mem_range.2 hk,fun j hj=>by rw[h j hj];rfl⟩
theorem svk_no {bk:List (List Int)} {id:Int} (h:∀ j,j < bk.length→decide (el (bk.getD j []) 0=id)=false):svk bk id=none:=by
 unfold svk
 exact List.find?_eq_none.2 fun j hj=>by rw[h j (List.mem_range.1 hj)];decide
attribute [local go_sem ↓] kload_shut
theorem idx_any (a:Option Addr) (cap:Nat) (bk:List (List Int)) (B:Nat) (id:Int) (w:World) (hb:Bks a bk w) (hl:bk.length≤1000) (hB:w.cell? ⟨B,0,none⟩=some (.int .i64 id)) :
  Calls Tryz.prog 159 #[.slice a bk.length cap,.func (.func 160) #[] #[.pointer (some ⟨B,0,none⟩)]] w fun e w'=>e=.returned (.int .i64 (fi (svk bk id)))∧Below w.heap.size w w':=by
 have D:∀ args w,(callFunc 160 args).run Tryz.prog w=.ok (.enter 160 args) w:=enters_of Tryz.func160 (by kernel_rfl) rfl
 have z:=ki (fun x W (hW:Below w.heap.size w W)=>sv1_any B id x W (by rw[hW.cell (World.block_lt_of_cell? w _ hB)];exact hB))
 have v:=ki hb
 have C:(bk.length:Int)≤1000:=by omega
 clear hb hB
 go_enter Tryz.func159,Tryz.ntmps159
 go_wp2
 go_loopw [8] (fun i wr=>∃ k:Nat,k≤bk.length∧i=.int .i64 k∧Hid (∀ j,j < k→decide (el (bk.getD j []) 0=id)=false)∧Hid (Below w.heap.size w wr)) (fun i _=>bk.length - (intOf i).toNat)
 case atStart=>exact ⟨0,by omega,rfl,fun j h=>absurd h (by omega),ki (Below.refl _ _)⟩
 case round =>
  obtain ⟨k,E,rfl,HI,b⟩:=hrel
  by_cases hlt:k < bk.length
  ·obtain ⟨g,r,rfl,s,n⟩:=v.o (by omega)
   have t:=rng_kl (show wr.rangeAt g (r+k*6) (bkC (bk.getD k [])).toList from fun j u hu=>by rw[b.o.cell (p:=⟨g,r+k*6+j,none⟩) s];exact n k hlt j u hu)
   have F:(k:Int) < (bk.length:Int):=by omega
   have d:=ki (fun W (hW:Below w.heap.size w W)=>z.o (bk.getD k []) W hW)
   have o:=ki (fun h1=>svk_yes hlt HI.o h1)
   have f:=ki (fun h1=>show ∀ j,j < k+1→decide (el (bk.getD j []) 0=id)=false from fun j hj=>if e:j=k then by rw[e];exact h1 else HI.o j (by omega))
   generalize bk.getD k []=x at t d o f
   clear s n
   cases he:decide (el x 0=id)
   ·rw[he] at d f
    have q:=ki (f.o rfl)
    clear he f o
    go_wp2_with (go_at_fn 160;refine (d.o _ b.o).mono ?_;rintro e A ⟨rfl,l⟩;replace b:=ki (bt b.o l);clear l t)
    go_roundw
    case rel=>exact ⟨k+1,by omega,by go_num,q,b⟩
    case measure=>simp[intOf];omega
   ·rw[he] at d o
    have q:=ki (o.o rfl)
    clear he f o
    go_wp2_with (go_at_fn 160;refine (d.o _ b.o).mono ?_;rintro e A ⟨rfl,l⟩;replace b:=ki (bt b.o l);clear l t)
    go_ret
    exact ⟨by rw[q.o];rfl,b.o⟩
  ·have y:bk.length=k:=by omega
   have q:=ki (svk_no (bk:=bk) (id:=id) (by rw[y];exact HI.o))
   go_wp2
   go_ret
   exact ⟨by rw[q.o];rfl,b.o⟩
end
section
theorem svk_lt {bk:List (List Int)} {id:Int} {k:Nat} (h:svk bk id=some k):k < bk.length:=List.mem_range.1 (List.mem_of_find?_eq_some h)
theorem server_no (G:Nat) (a:Option Addr) (cap:Nat) (tv:Value) (S:Nat) (Ot:Nat→Prop) (β:Int→Nat) (g:GS) (id:Int) (w:World) (h:GC G a cap tv S Ot β g w) (hl:g.bk.length≤1000) (hs:svk g.bk id=none) :
  Calls Tryz.prog 107 #[.pointer (some ⟨G,0,none⟩),.int .i64 id] w fun e w'=>e=.returned (.pointer none)∧Below w.heap.size w w':=by
 have hb:=al_below w (.cells #[.int .i64 id] 3)
 have d:=h.kept hb
 have y:=d.1.backs
 have HI:=ki (idx_any a cap g.bk w.heap.size id _ d.2.1.1.bks hl (cell_of_row _ _ 0 _ _ _ (heap_alloc_new w (.cells #[.int .i64 id] 3))))
 rw[hs] at HI
 have i:=ki hb
 clear h hl hs hb d
 go_enter Tryz.func107,Tryz.ntmps107
 go_wp2_with (go_at_call 159;refine HI.o.mono ?_;rintro e k ⟨rfl,b⟩;have f:=ki (bt i.o b);clear b)
 go_ret
 exact ⟨rfl,f.o⟩
theorem server_yes (G:Nat) (K:Nat) (cap:Nat) (tv:Value) (S:Nat) (Ot:Nat→Prop) (β:Int→Nat) (g:GS) (id:Int) (i:Nat) (w:World) (h:GC G (some ⟨K,0,none⟩) cap tv S Ot β g w) (hl:g.bk.length≤1000) (hs:svk g.bk id=some i) :
  Calls Tryz.prog 107 #[.pointer (some ⟨G,0,none⟩),.int .i64 id] w fun e w'=>e=.returned (.pointer (some ⟨K,i*6,none⟩))∧Below w.heap.size w w':=by
 have hb:=al_below w (.cells #[.int .i64 id] 3)
 have d:=h.kept hb
 have y:=d.1.backs
 have HI:=ki (idx_any _ cap g.bk w.heap.size id _ d.2.1.1.bks hl (cell_of_row _ _ 0 _ _ _ (heap_alloc_new w (.cells #[.int .i64 id] 3))))
 have l:=svk_lt hs
 have n:(i:Int) < (g.bk.length:Int):=by omega
 have o:(g.bk.length:Int)≤1000:=by omega
 have f:=ki (fun W (hW:Below w.heap.size w W)=>(h.kept hW).1.backs)
 rw[hs] at HI
 unfold fi at HI
 have k:=ki hb
 clear h hs hb d
 go_enter Tryz.func107,Tryz.ntmps107
 go_wp2_with (go_at_call 159;refine HI.o.mono ?_;rintro e p ⟨rfl,a⟩;have b:=ki (bt k.o a);have q:=f.o _ b.o;clear a y)
 go_ret
 exact ⟨by simp,b.o⟩
end
section
theorem Row8.setc {w:World} {a:Option Addr} {len cap:Nat} {zs:List Int} (r:Row8 w a len cap zs) {K j:Nat} {cs:Array Value} {t:TypeId} (v:Value) (hp:w.heap[K]? = some (.cells cs t (0,0))) (hb:∀ x,cs[j]?≠some (.int .u8 x)):Row8 (w.setCell ⟨K,j,none⟩ v) a len cap zs:=by
 refine ⟨r.1,r.2.1,r.2.2.1,r.2.2.2.1,fun h0=>?_⟩
 obtain ⟨b,d,e,hc⟩:=r.2.2.2.2 h0
 refine ⟨b,d,e,fun i hi=>?_⟩
 have h:=hc i hi
 rw[setCell_eq_setRow w K j _ _ (0,0) _ hp]
 by_cases hbK:b=K
 ·subst hbK
  rw[cell_of_row w b _ _ _ _ hp] at h
  have f:j≠d+i:=fun e=>hb _ (by rw[e];exact h)
  rw[cell_of_row _ b _ _ _ _ (setRow_heap w b _ _ _ (0,0) hp),Array.getElem?_setIfInBounds_ne f]
  exact h
 ·rw[← h]
  exact World.cell?_of_block ((only_setRow w K _).2.2.2.2 b hbK)
theorem GC.mark {G K:Nat} {cap:Nat} {tv:Value} {S:Nat} {Ot:Nat→Prop} {β:Int→Nat} {g:GS} {w:World} (h:GC G (some ⟨K,0,none⟩) cap tv S Ot β g w) {i j:Nat} (hi:i < g.bk.length) (hj:j < 6) (b:Bool) (x:List Int) (h4:4≤j) (hx:∀ m,(bkC x)[m]? = if m=j then some (.bool b) else (bkC (g.bk.getD i []))[m]?) :
  GC G (some ⟨K,0,none⟩) cap tv S Ot β (g.srv (g.bk.set i x)) (w.setCell ⟨K,i*6+j,none⟩ (.bool b))∧Kpt (GO G (some ⟨K,0,none⟩) Ot (SO S β g.ss)) w (w.setCell ⟨K,i*6+j,none⟩ (.bool b)):=by
 obtain ⟨A,z,E⟩:=h.2.2.2.2
 obtain ⟨B,f,t,e,hp,o⟩:=h.2.1.1 (by omega)
 obtain rfl:K=B:=by injection e with e;injection e
 have d:f[i*6+j]? = (bkC (g.bk.getD i []))[j]?:=by rw[Nat.mul_comm];exact o i hi j hj
 have hb:∀ y,f[i*6+j]?≠some (.int .u8 y):=fun y hy=>by
  rw[d] at hy
  rcases (by omega:j=4∨j=5) with rfl|rfl <;> cases hy
 have D:i*6+j < f.size:=by
  rcases Nat.lt_or_ge (i*6+j) f.size with h1|h1
  ·exact h1
  ·rw[Array.getElem?_eq_none h1] at d
   rcases (by omega:j=4∨j=5) with rfl|rfl <;> cases d
 have p:∀ a n c zs,Row8 w a n c zs→Row8 (w.setCell ⟨K,i*6+j,none⟩ (.bool b)) a n c zs:=fun _ _ _ _ r=>r.setc _ hp hb
 have C:=setCell_eq_setRow w K (i*6+j) f t (0,0) (.bool b) hp
 rw[C] at p ⊢
 have s:=setRow_heap w K f (f.setIfInBounds (i*6+j) (.bool b)) t (0,0) hp
 have l:=only_setRow w K (f.setIfInBounds (i*6+j) (.bool b))
 generalize w.setRow K _=w' at p s l ⊢
 have q:KOa (some ⟨K,0,none⟩) K:=⟨0,rfl⟩
 have hs:∀ k,k≠K→w'.heap[k]? = w.heap[k]?:=l.2.2.2.2
 refine ⟨⟨?_,⟨fun _=>⟨K,_,t,rfl,s,fun k hk m hm=>?_⟩,fun k hk=>by rw[l.2.2.2.1];exact h.2.1.2.1 k hk,?_⟩,(tb_kept _ _ _ _ _ _ _ h.2.2.1).2 w' (by rw[l.2.2.2.1];exact Nat.le_refl _) (fun k hk=>hs k (fun e=>(z K q).1 (e ▸ hk))),h.2.2.2.1.same (fun k hk=>hs k (fun e=>(z K q).2 (e ▸ hk))) p,h.2.2.2.2⟩,⟨l.1,l.2.1,l.2.2.1,by rw[l.2.2.2.1];exact Nat.le_refl _,fun k _ hn=>hs k (fun e=>hn (.inr (.inl (by rw[e];exact q))))⟩,p⟩
 ·have:=h.1.same (hs G (fun e=>A.1 (by rw[e];exact q)))
  have el:(g.srv (g.bk.set i x)).bk.length=g.bk.length:=List.length_set ..
  rw[el]
  exact this
 ·have el:(g.srv (g.bk.set i x)).bk=g.bk.set i x:=rfl
  rw[el] at hk ⊢
  rw[List.length_set] at hk
  rw[Array.getElem?_setIfInBounds]
  by_cases hki:k=i
  ·subst hki
   have v:(g.bk.set k x).getD k []=x:=by simp[List.getD_eq_getElem?_getD,hi]
   rw[v,hx m]
   by_cases hmj:m=j
   ·subst hmj
    rw[if_pos (by omega),if_pos rfl,if_pos (by omega)]
   ·rw[if_neg (by omega),if_neg hmj]
    exact o k hi m hm
  ·have v:(g.bk.set i x).getD k []=g.bk.getD k []:=by simp[List.getD_eq_getElem?_getD,List.getElem?_set_ne (fun e=>hki e.symm)]
   rw[v,if_neg (by omega)]
   exact o k hk m hm
 ·have el:(g.srv (g.bk.set i x)).bk.length=g.bk.length:=List.length_set ..
  rw[el]
  exact h.2.1.2.2
end
section
def bup (x:List Int) (u:Bool):List Int:=[el x 0,el x 1,el x 2,el x 3,if u=true then 1 else 0,el x 5]
def bdr (x:List Int) (u:Bool):List Int:=[el x 0,el x 1,el x 2,el x 3,el x 4,if u=true then 1 else 0]
def gmk (g:GS) (id:Int) (f:List Int→List Int):Int×GS:=match svk g.bk id with
 | none=>(4,g)
 | some i=>(0,g.srv (g.bk.set i (f (g.bk.getD i []))))
theorem bup_at (x:List Int) (u:Bool) (m:Nat):(bkC (bup x u))[m]? = if m=4 then some (.bool u) else (bkC x)[m]?:=by
 by_cases hm:m < 6
 ·rcases (by omega:m=0∨m=1∨m=2∨m=3∨m=4∨m=5) with rfl|rfl|rfl|rfl|rfl|rfl <;> cases u <;> rfl
 ·rw[if_neg (by omega),Array.getElem?_eq_none (by show 6≤m;omega),Array.getElem?_eq_none (by show 6≤m;omega)]
theorem bdr_at (x:List Int) (u:Bool) (m:Nat):(bkC (bdr x u))[m]? = if m=5 then some (.bool u) else (bkC x)[m]?:=by
 by_cases hm:m < 6
 ·rcases (by omega:m=0∨m=1∨m=2∨m=3∨m=4∨m=5) with rfl|rfl|rfl|rfl|rfl|rfl <;> cases u <;> rfl
 ·rw[if_neg (by omega),Array.getElem?_eq_none (by show 6≤m;omega),Array.getElem?_eq_none (by show 6≤m;omega)]
theorem GC.mcell {G K:Nat} {cap:Nat} {tv:Value} {S:Nat} {Ot:Nat→Prop} {β:Int→Nat} {g:GS} {w:World} (h:GC G (some ⟨K,0,none⟩) cap tv S Ot β g w) {i:Nat} (hi:i < g.bk.length) (j:Nat) (hj:j < 6):w.cell? ⟨K,i*6+j,none⟩=(bkC (g.bk.getD i []))[j]?∧w.frozen? ⟨K,i*6+j,none⟩=false:=by
 obtain ⟨d,f,t,e,hp,b⟩:=h.2.1.1 (by omega)
 obtain rfl:K=d:=by injection e with e;injection e
 refine ⟨?_,?_⟩
 ·rw[cell_of_row w K _ _ _ _ hp,Nat.mul_comm]
  exact b i hi j hj
 ·simp[World.frozen?,hp]
theorem probe_any (G:Nat) (a:Option Addr) (cap:Nat) (tv:Value) (S:Nat) (Ot:Nat→Prop) (β:Int→Nat) (g:GS) (id:Int) (u:Bool) (w:World) (h:GC G a cap tv S Ot β g w) (hl:g.bk.length≤1000) :
  Calls Tryz.prog 54 #[.pointer (some ⟨G,0,none⟩),.int .i64 id,.bool u] w fun e w'=>e=.returned (ev (gmk g id (fun x=>bup x u)).1)∧GQ w G a cap tv S Ot β g (gmk g id (fun x=>bup x u)).2 w':=by
 cases hs:svk g.bk id with
 | none =>
  rw[show gmk g id (fun x=>bup x u)=(4,g) by unfold gmk;rw[hs]]
  have n:=ki h
  have f:=ki (server_no G a cap tv S Ot β g id w h hl hs)
  rw[show ev ((4:Int),g).1=err 4 from ev_err (show (4:Int)≠0 by decide)]
  unfold err
  clear h hl hs
  go_enter Tryz.func54,Tryz.ntmps54
  go_wp2_with (go_at_call 107;refine f.o.mono ?_;rintro e p ⟨rfl,b⟩;have d:=ki b;clear b)
  go_ret
  exact ⟨rfl,n.o.still d.o⟩
 | some i =>
  rw[show gmk g id (fun x=>bup x u)=(0,g.srv (g.bk.set i (bup (g.bk.getD i []) u))) by unfold gmk;rw[hs]]
  have l:=svk_lt hs
  obtain ⟨K,y,t,rfl,_⟩:=h.2.1.1 (by omega)
  have n:=ki h
  have f:=ki (server_yes G K cap tv S Ot β g id i w h hl hs)
  have q:=ki (fun W (hW:Below w.heap.size w W)=>(h.kept hW).mark l (by omega:4 < 6) u (bup (g.bk.getD i []) u) (by omega) (bup_at (g.bk.getD i []) u))
  have r:=ki (fun W (hW:Below w.heap.size w W)=>(h.kept hW).mcell l 4 (by omega))
  rw[ev_nil]
  clear h hl hs l
  go_enter Tryz.func54,Tryz.ntmps54
  go_wp2_with (go_at_call 107;refine f.o.mono ?_;rintro e p ⟨rfl,b⟩;have d:=ki b;obtain ⟨o,z⟩:=r.o _ b;replace o:=o.trans (show _=some (Value.bool _) from rfl);clear b)
  go_ret
  obtain ⟨s,v⟩:=q.o _ d.o
  exact ⟨rfl,Ot,β,s,(Kpt.of d.o).trans v (fun _ hk=>.inl hk),fun k hk=>.inl hk⟩
theorem drain_any (G:Nat) (a:Option Addr) (cap:Nat) (tv:Value) (S:Nat) (Ot:Nat→Prop) (β:Int→Nat) (g:GS) (id:Int) (u:Bool) (w:World) (h:GC G a cap tv S Ot β g w) (hl:g.bk.length≤1000) :
  Calls Tryz.prog 55 #[.pointer (some ⟨G,0,none⟩),.int .i64 id,.bool u] w fun e w'=>e=.returned (ev (gmk g id (fun x=>bdr x u)).1)∧GQ w G a cap tv S Ot β g (gmk g id (fun x=>bdr x u)).2 w':=by
 cases hs:svk g.bk id with
 | none =>
  rw[show gmk g id (fun x=>bdr x u)=(4,g) by unfold gmk;rw[hs]]
  have n:=ki h
  have f:=ki (server_no G a cap tv S Ot β g id w h hl hs)
  rw[show ev ((4:Int),g).1=err 4 from ev_err (show (4:Int)≠0 by decide)]
  unfold err
  clear h hl hs
  go_enter Tryz.func55,Tryz.ntmps55
  go_wp2_with (go_at_call 107;refine f.o.mono ?_;rintro e p ⟨rfl,b⟩;have d:=ki b;clear b)
  go_ret
  exact ⟨rfl,n.o.still d.o⟩
 | some i =>
  rw[show gmk g id (fun x=>bdr x u)=(0,g.srv (g.bk.set i (bdr (g.bk.getD i []) u))) by unfold gmk;rw[hs]]
  have l:=svk_lt hs
  obtain ⟨K,y,t,rfl,_⟩:=h.2.1.1 (by omega)
  have n:=ki h
  have f:=ki (server_yes G K cap tv S Ot β g id i w h hl hs)
  have q:=ki (fun W (hW:Below w.heap.size w W)=>(h.kept hW).mark l (by omega:5 < 6) u (bdr (g.bk.getD i []) u) (by omega) (bdr_at (g.bk.getD i []) u))
  have r:=ki (fun W (hW:Below w.heap.size w W)=>(h.kept hW).mcell l 5 (by omega))
  rw[ev_nil]
  clear h hl hs l
  go_enter Tryz.func55,Tryz.ntmps55
  go_wp2_with (go_at_call 107;refine f.o.mono ?_;rintro e p ⟨rfl,b⟩;have d:=ki b;obtain ⟨o,z⟩:=r.o _ b;replace o:=o.trans (show _=some (Value.bool _) from rfl);clear b)
  go_ret
  obtain ⟨s,v⟩:=q.o _ d.o
  exact ⟨rfl,Ot,β,s,(Kpt.of d.o).trans v (fun _ hk=>.inl hk),fun k hk=>.inl hk⟩
end
end Go.Proofs.YtgcojnlngchllaaGreatDoor
