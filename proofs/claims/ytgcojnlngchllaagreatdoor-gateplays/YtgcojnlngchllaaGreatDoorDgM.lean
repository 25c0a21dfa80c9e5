import Derived.Test.YtgcojnlngchllaaGreatDoorJ46
namespace Go.Proofs.YtgcojnlngchllaaGreatDoor
open Go.RowKit Tryz
set_option linter.unusedVariables false
set_option maxRecDepth 100000
set_option maxHeartbeats 40000000
section
theorem Cz{B:Nat}{s d:List Int}{h k:Int}{a:Option Addr}{len cap:Nat}{w:World}(p:aB.aI B s d h k a len cap w):(hload (.pointer (some ⟨B,8,none⟩))).run prog w=.ok (.agg (av d)) w :=
 run_loadAt_mid w B 8 23 _ _ (fun j v hv=>by have hj:j<8:=(List.getElem?_eq_some_iff.1 hv).1;rw[p.cellAt];rcases (by omega:j=0∨j=1∨j=2∨j=3∨j=4∨j=5∨j=6∨j=7) with rfl|rfl|rfl|rfl|rfl|rfl|rfl|rfl<;>exact hv) underlying23 rfl (by kernel_rfl)
attribute [local go_sem ↓] jg gP gV CB gy CF oJ CG CJ
theorem Kn(B:Nat)(a:Option Addr)(cap tb:Nat)(sv:Value)(l:List (Int×Nat))(ah:Nat->Prop)(g:GS)(b:Option Addr)(len aX:Nat)(s d:List Int)(hop k:Int)(l1 c1:Nat)(Z:List Int)(z D:List Int)(w:World)(h:bA B a cap tb sv l ah g w)(c0:List Int)(ij:Bool)(hT:fC c0 ij g)(hi:dK g)(hls:l.length<=900)(hz:bC z D.length)(h1:aH s)(h2:aH d)(hh:2<=hop∧hop<=255)(hv:aQ.eT (dA g.c) (pfx g.c) (el g.c 17)=false)(hD:Calls prog 31 #[.slice b len aX] w fun e w'=>∃a1,e=.returned (.tuple #[aB.pk s d hop k a1 l1 c1,.int .i64 0])∧aj w' a1 l1 c1 Z∧Below w.heap.size w w')(hS:∀W a1,aj W a1 l1 c1 Z->Calls prog 32 #[aB.pk s d hop k a1 l1 c1] W fun e w'=>∃a2 l2 c2,e=.returned (.tuple #[.agg (aA z a2 l2 c2),.int .i64 0])∧aj w' a2 l2 c2 D∧Below W.heap.size W w')(f:List Int)(hf:f=lQ (el z 0) s (el z 1) d (el z 2))(CK:aW f=true)(R:Int×List Int×GS)(hR:R=jD g f hop z D): Calls prog 9 #[.pointer (some ⟨B,0,none⟩),.slice b len aX] w (qg w B (GO B a ah (aO sv l)) R):=by
 have hc:=hi.2.2;have HT:=ki hT;have a5:=ki hi;have bm:=ki CK;unfold jD at hR;have HD:=ki hD;have HS:=ki hS;have H0:=ki h;have bX:=ki (fun W=>aB.bR W);have fp:=ki (fun W=>bR W);have zf:=ki (fun W=>qh W);unfold aB.dH at bX;unfold aN at fp;unfold oK at zf;have b0:=ki hf;have H:=ki hR;have Hh:=ki hh;have ht:¬hop<2:=by omega
 clear hD hS hR h hf hh hT hi CK;unfold qg;go_enter func9,ntmps9;go_upto_region 7 with(first|(go_at_call 31;refine HD.o.mono ?_;rintro e w1 ⟨a1,rfl,r1,am⟩;have i2:=ki r1;have HB:=ki am;clear am r1)|(refine aB.aK rfl (.tmp 6) (.tmp 27) rfl rfl (bX.o _) s d hop k a1 l1 c1 rfl ?_;intro w2 p2 fs;have a6:=ki (bt HB.o (bq _ fs));have ej:=ki (i2.o.below (bq _ fs));have ft:=ki p2;clear p2 fs)|(refine aB.bB rfl (.tmp 6) rfl rfl ft.o ?_)|(go_at_call 32;refine(HS.o _ _ ej.o).mono ?_;rintro e w3 ⟨a2,l2,c2,rfl,r3,fv⟩;have ek:=ki r3;have ax:=ki (bt a6.o fv);have fw:=ki (ft.o.kept fv);clear r3 fv)|(refine aK rfl (.tmp 8) (.tmp 35) rfl rfl (fp.o _) z a2 l2 c2 rfl ?_;intro w4 p4 em;have ae:=ki (show aB.aI w1.heap.size s d hop k a1 l1 c1 w4∧aG w3.heap.size z a2 l2 c2 w4∧aj w4 a2 l2 c2 D∧w.heap.size<=w1.heap.size∧w1.heap.size<w3.heap.size from⟨fw.o.kept (bq _ em),p4,ek.o.below (bq _ em),HB.o.size,fw.o.lt⟩);have ab:=ki (bt ax.o (bq _ em));clear p4 em))
 clear HD HS i2 HB a6 ej ft ek ax fw bX fp;generalize w1.heap.size=P at ae⊢;generalize w3.heap.size=Q at ae⊢;have A:=ae.o.1.hop;have x0:=ae.o.2.1.c0;have x1:=ae.o.2.1.c1;have x2:=ae.o.2.1.c2;have bu:=fun W=>CO (el z 0) s (el z 1) d (el z 2) W
 go_upto_region 10 with(first|(refine aB.qj rfl (.tmp 45) rfl rfl ae.o.1 ?_)|(refine aB.ql rfl (.tmp 49) rfl rfl ae.o.1 ?_)|(refine qm rfl (.tmp 9) (.tmp 53) rfl rfl (zf.o w4) (lQ (el z 0) s (el z 1) d (el z 2)) rfl ?_;intro w5 p5 db;rw[<-b0.o] at p5;have HI:=ki (show cu w P Q w4.heap.size s d hop k a1 l1 c1 z a2 l2 c2 D f w5 from⟨ae.o.1.kept (bq _ db),ae.o.2.1.kept (bq _ db),p5,ae.o.2.2.1.below (bq _ db),ae.o.2.2.2.1,Nat.le_of_lt (Nat.lt_of_le_of_lt ae.o.2.2.2.1 ae.o.2.2.2.2),ab.o.size⟩);have f3:=ki (show P<Q∧Q<w4.heap.size from⟨ae.o.2.2.2.2,ae.o.2.1.lt⟩);replace ab:=ki (bt ab.o (bq _ db));clear p5 db))
 clear A x0 x1 x2 ae zf bu;generalize zh:w4.heap.size=F at HI f3⊢;clear zh;have bc:=ki (fun n=>show cu w P Q F s d hop k a1 l1 c1 z a2 l2 c2 D f (World.drewN w5 n)∧Below w.heap.size w (World.drewN w5 n) from⟨HI.o.kept ⟨rfl,rfl,rfl,Nat.le_refl _,fun _ _=>rfl⟩,jN ab.o n⟩);have y1:=fun n=>Cz (bc.o n).1.1
 have y2:=fun n=>((H0.o.kept (bc.o n).2).1).hv
 have he:=fun W=>vV d (dA g.c) W
 obtain⟨X,hX⟩:∃X,dn d (dA g.c)=X:=⟨_,rfl⟩;rw[hX] at he;have HX:=ki hX;clear hX;go_quiet (fail)
 clear y1 y2 he;generalize hW:World.drewN _ _=W6;have fT:Hid (cu w P Q F s d hop k a1 l1 c1 z a2 l2 c2 D f W6∧Below w.heap.size w W6):=by rw[<-hW];exact ki (bc.o _)
 clear hW bc HI ab;have cr:=ki (show dn (dst f) (dA g.c)=X by rw[<-HX.o,b0.o];rfl);have lS:=ki (show el f 18=el z 2 by rw[b0.o];rfl);have bc:=ki (fun n=>show cu w P Q F s d hop k a1 l1 c1 z a2 l2 c2 D f (World.drewN W6 n)∧Below w.heap.size w (World.drewN W6 n) from⟨fT.o.1.kept ⟨rfl,rfl,rfl,Nat.le_refl _,fun _ _=>rfl⟩,jN fT.o.2 n⟩);have A:=fT.o.1.2.1.c2;have G:W6.cell? ⟨B,8,none⟩=some (.int .i64 (el g.c 8)):=((H0.o.kept fT.o.2).1.cellAt 8).trans rfl;clear HX;by_cases hbad:X=true∧el z 2≠el g.c 8;case pos =>
  obtain⟨rfl,f7⟩:=hbad;have ky:(el z 2 != el g.c 8)=true:=by simpa using f7
  have f8:=ki (show R=(4,[],g) by rw[H.o,Ko cr.o (by rw[lS.o];exact f7) hv,if_pos (by decide)]);clear H f7;go_upto_region 12 with fail
  go_quiet (fail)
  clear A G;go_wp2;go_ret2;rw[f8.o];exact H0.o.no (bc.o _).2 4
 have b1:=ki (show X=true->el z 2=el g.c 8 from fun e=>Classical.byContradiction fun hd=>hbad ⟨e,hd⟩);clear hbad;go_upto_region 12 with fail
 go_cut [72] from 62 to 72 (fun u wx=>u=.bool false∧Hid (cu w P Q F s d hop k a1 l1 c1 z a2 l2 c2 D f wx∧Below w.heap.size w wx))
 case first =>
  cases X
  ·go_quiet (fail)
   go_wp2_with fail
   go_meet
   exact⟨rfl,ki (bc.o _)⟩
  ·have ky:(el z 2 != el g.c 8)=false:=by simpa using b1.o rfl
   go_quiet (fail)
   go_wp2_with fail
   go_meet
   exact⟨rfl,ki (bc.o _)⟩
 case rest =>
 obtain⟨rfl,a7⟩:=hcut;clear bc fT A G;have HL:=ki (show el g.c 17<=128∧0<=el g.c 17 by obtain⟨q,e,hq,_,h12⟩:=aQ.qo hc.2.2.1;omega);go_upto_if 74 with fail
 go_cut [11] from 12 to 105 (fun u wx=>∃n:Int,u=.int .i64 n∧Hid (aU g.c f=(0,X,n))∧Hid (cu w P Q F s d hop k a1 l1 c1 z a2 l2 c2 D f wx∧Below w.heap.size w wx))
 case first =>
  as_aux_lemma =>
   cases X;case true =>
    have bp:=ki (show aU g.c f=(0,true,0) by unfold aU;rw[if_pos ⟨cr.o,by rw[lS.o];exact b1.o rfl⟩]);go_wp2_with fail
    go_meet
    exact⟨0,rfl,bp,a7⟩
   case false =>
    have i3:av d=av (dst f):=by rw[b0.o];rfl
    have f9:aH (dst f):=by have b2:=bm.o;unfold aW at b2;simp only[Bool.and_eq_true] at b2;exact(fE _).1 b2.1.1.2
    have ep:=ki (fun W=>Kq (dst f) (el g.c 17) W f9 hc.2.2.1);have ao:=ki (fun W=>CP (dst f) (pfx g.c) (el g.c 17) W f9 hc.2.1 HL.o.2 HL.o.1);rw[<-i3] at ep ao;clear i3 f9;go_upto_region 15 with fail
    have ga:Below wc.heap.size wc wc.drew:=(Below.refl _ _).drew;replace a7:=ki (show cu w P Q F s d hop k a1 l1 c1 z a2 l2 c2 D f wc.drew∧Below w.heap.size w wc.drew from⟨a7.o.1.kept ga,bt a7.o.2 ga⟩);have ai:=ki (show ∀W,(cu w P Q F s d hop k a1 l1 c1 z a2 l2 c2 D f W∧Below w.heap.size w W)->(hload (.pointer (some ⟨P,8,none⟩))).run prog W=.ok (.agg (av d)) W∧W.cell? ⟨B,17,none⟩=some (.int .i64 (el g.c 17))∧(hload (.pointer (some ⟨B,9,none⟩))).run prog W=.ok (.agg (av (pfx g.c))) W from fun W hW=>⟨Cz hW.1.1,((H0.o.kept hW.2).1.cellAt 17).trans rfl,(H0.o.kept hW.2).1.hp⟩);obtain⟨A,G,L⟩:=ai.o _ a7.o;clear ga;obtain⟨nL,zi⟩:∃nL,j4 (dst f) (el g.c 17)=nL:=⟨_,rfl⟩;rw[zi] at ep;have eq:=ki zi;clear zi;go_region_held3 (fun W'=>(hload (.pointer (some ⟨P,8,none⟩))).run prog W'=.ok (.agg (av d)) W'∧W'.cell? ⟨B,17,none⟩=some (.int .i64 (el g.c 17))∧(hload (.pointer (some ⟨B,9,none⟩))).run prog W'=.ok (.agg (av (pfx g.c))) W')
     (first
      | exact ai.o _ a7.o
      | exact ai.o _ a8.o
      | go_keep)
     (first|(go_at_call 33;refine(ep.o _).mono ?_;rintro e w8 ⟨rfl,S⟩;have a8:=ki (show cu w P Q F s d hop k a1 l1 c1 z a2 l2 c2 D f w8∧Below w.heap.size w w8 from⟨a7.o.1.kept S,bt a7.o.2 S⟩);clear A G L S;obtain⟨A,G,L⟩:=ai.o _ a8.o))
    clear A G L ep a7;go_upto_region 16 with fail
    have S:Below w8.heap.size w8 w8.drew:=(Below.refl _ _).drew;replace a8:=ki (show cu w P Q F s d hop k a1 l1 c1 z a2 l2 c2 D f w8.drew∧Below w.heap.size w w8.drew from⟨a8.o.1.kept S,bt a8.o.2 S⟩);obtain⟨A,G,L⟩:=ai.o _ a8.o;clear S;obtain⟨zk,zl⟩:∃I,aQ.eT (dst f) (pfx g.c) (el g.c 17)=I:=⟨_,rfl⟩;rw[zl] at ao;go_region_held3 (fun W'=>(hload (.pointer (some ⟨P,8,none⟩))).run prog W'=.ok (.agg (av d)) W'∧W'.cell? ⟨B,17,none⟩=some (.int .i64 (el g.c 17))∧(hload (.pointer (some ⟨B,9,none⟩))).run prog W'=.ok (.agg (av (pfx g.c))) W')
     (first
      | exact ai.o _ a8.o
      | exact ai.o _ er.o
      | go_keep)
     (first|(go_at_call 26;refine(ao.o _).mono ?_;rintro e fK ⟨rfl,gb⟩;have er:=ki (show cu w P Q F s d hop k a1 l1 c1 z a2 l2 c2 D f fK∧Below w.heap.size w fK from⟨a8.o.1.kept gb,bt a8.o.2 gb⟩);clear A G L gb;obtain⟨A,G,L⟩:=ai.o _ er.o))
    clear A G L ao a8 ai;have cv:=ki zl;clear zl;by_cases gW:zk=true∧nL.2=0;case neg =>
     have f8:=ki (show R=(4,[],g) by rw[H.o,show aU g.c f=(4,false,0) by unfold aU;rw[if_neg (fun h=>by rw[cr.o] at h;cases h.1),cv.o,eq.o,if_neg gW],if_pos (by decide)]);have io:(nL.2 != 0)=true∨((nL.2 != 0)=false∧zk=false):=by
      by_cases h0:nL.2=0
      ·refine .inr ⟨by simpa using h0,?_⟩;cases zk
       ·rfl
       ·exact absurd ⟨rfl,h0⟩ gW
      ·exact .inl (by simpa using h0)
     clear gW H cv eq;rcases io with h0|⟨h0,rfl⟩;all_goals
      go_wp2;go_ret2;rw[f8.o];exact H0.o.no er.o.2 4
    obtain⟨rfl,gW⟩:=gW;have h0:(nL.2 != 0)=false:=by simpa using gW
    have bp:=ki (show aU g.c f=(0,false,nL.1) by unfold aU;rw[if_neg (fun h=>by rw[cr.o] at h;cases h.1),cv.o,eq.o,if_pos ⟨rfl,gW⟩]);clear gW cv eq;go_wp2_with fail
    go_meet
    exact⟨nL.1,rfl,bp,er⟩
 case rest =>
 obtain⟨n,rfl,bp,HI⟩:=hcut;clear a7 HL b1;replace H:=ki (show R=if tell g.c g.inj f=true∧el z 5/2%2=1∧0<D.length then (2,[],g) else if (bE g f (el z 5) (bF g f (X,n))).1≠0 then ((bE g f (el z 5) (bF g f (X,n))).1,[],(bE g f (el z 5) (bF g f (X,n))).2.2) else jE (bE g f (el z 5) (bF g f (X,n))).2.2 (bE g f (el z 5) (bF g f (X,n))).2.1 hop z D by rw[H.o,bp.o];exact if_neg (fun h=>h rfl));have i4:=ki (show(bF g f (X,n)).2.2=0->fr (bF g f (X,n)).1=true∧wd (bF g f (X,n)).2.1=true by have b2:=bm.o;unfold aW at b2;simp only[Bool.and_eq_true] at b2;have:=vW hc bm.o ((fE _).1 b2.1.1.2) (by rw[bp.o]);rw[bp.o] at this;exact this);clear bp;obtain⟨T,zm⟩:∃T,tell g.c g.inj f=T:=⟨_,rfl⟩;obtain⟨I,hI⟩:∃I,g.inj=I:=⟨_,rfl⟩;obtain⟨nM,CQ⟩:∃K,(el z 0 == 6)=K:=⟨_,rfl⟩;have i5:=ki (show T=(I && nM && X) by rw[<-zm,<-hI,<-CQ,<-cr.o];unfold tell;rw[b0.o];rfl);have dc:=ki zm;have x0:=HI.o.1.2.1.c0;have km:wc.cell? ⟨B,21,none⟩=some (.bool I):=by rw[<-hI];exact((H0.o.kept HI.o.2).1.cellAt 21).trans rfl
 clear zm hI;go_upto_region 20 with fail
 go_cut [15] from 106 to 118 (fun u wx=>u=.bool T∧wx=wc)
 case first =>
  cases I<;>cases X<;>cases nM
  all_goals
   go_wp2_with fail
   go_meet
   exact⟨by rw[i5.o];rfl,rfl⟩
 case rest =>
 obtain⟨rfl,rfl⟩:=hcut;clear x0 km CQ i5;have Kr:0<=el z 5∧el z 5<=31:=by rcases hz.2.2.2 with h|h<;>omega
 obtain⟨lz,l0⟩:=Kr;have x5:=HI.o.1.2.1.c5;have x7:=HI.o.1.2.1.c7;go_upto_region 21 with fail
 go_cut [132] from 119 to 132 (fun u wx=>u=.bool (decide (T=true∧el z 5/2%2=1∧0<D.length))∧wx=wc)
 case first =>
  have i6:=ki (show D.length=l2 from HI.o.1.2.2.2.1.1);cases T
  ·go_wp2_with fail
   go_meet
   exact⟨congrArg Value.bool (decide_eq_false (fun h=>by cases h.1)).symm,rfl⟩
  ·by_cases hv2:el z 5/2%2=1
   ·have ed:(el z 5/2%2 == 1)=true:=by simpa using hv2
    have b3:=ki hv2;clear hv2;by_cases hl:0<l2
    ·have kp:(0:Int)<(l2:Int):=by omega
     go_wp2_with fail
     go_meet
     exact⟨congrArg Value.bool (decide_eq_true ⟨by trivial,b3.o,by rw[i6.o];exact hl⟩).symm,rfl⟩
    ·have kp:¬(0:Int)<(l2:Int):=by omega
     go_wp2_with fail
     go_meet
     exact⟨congrArg Value.bool (decide_eq_false (fun h=>hl (by rw[<-i6.o];exact h.2.2))).symm,rfl⟩
   ·have ed:(el z 5/2%2 == 1)=false:=by simpa using hv2
    have b3:=ki hv2;clear hv2;go_wp2_with fail
    go_meet
    exact⟨congrArg Value.bool (decide_eq_false (fun h=>b3.o h.2.1)).symm,rfl⟩
 case rest =>
 obtain⟨rfl,rfl⟩:=hcut;clear x5 x7;by_cases hbd:T=true∧el z 5/2%2=1∧0<D.length;case pos =>have ej:=ki (show R=(2,[],g) by rw[H.o,dc.o,if_pos hbd]);rw[decide_eq_true hbd];clear hbd H;go_wp2;go_ret2;rw[ej.o];exact H0.o.no HI.o.2 2
 rw[decide_eq_false hbd];replace H:=ki (show R=if (bE g f (el z 5) (bF g f (X,n))).1≠0 then ((bE g f (el z 5) (bF g f (X,n))).1,[],(bE g f (el z 5) (bF g f (X,n))).2.2) else jE (bE g f (el z 5) (bF g f (X,n))).2.2 (bE g f (el z 5) (bF g f (X,n))).2.1 hop z D by rw[H.o,dc.o,if_neg hbd]);clear hbd;go_upto_region 23 with fail
 have am:Below wc.heap.size wc wc.drew:=(Below.refl _ _).drew;replace HI:=ki (show cu w P Q F s d hop k a1 l1 c1 z a2 l2 c2 D f wc.drew∧Below w.heap.size w wc.drew from⟨HI.o.1.kept am,bt HI.o.2 am⟩);clear am;have cs:=ki (fun W (hW:cu w P Q F s d hop k a1 l1 c1 z a2 l2 c2 D f W∧Below w.heap.size w W)=>CS (H0.o.kept hW.2).2.2.1 a5.o.1.2.1 f);have ai:=ki (show ∀W,(cu w P Q F s d hop k a1 l1 c1 z a2 l2 c2 D f W∧Below w.heap.size w W)->W.cell? ⟨B,23,none⟩=some (.pointer (some ⟨tb,0,none⟩))∧(bO (.pointer (some ⟨F,0,none⟩))).run prog W=.ok (.agg (ak f)) W from fun W hW=>⟨((H0.o.kept hW.2).1.cellAt 23).trans rfl,hW.1.2.2.1.fl⟩);obtain⟨N,hN⟩:∃N,ix (bY g.bs f)=N:=⟨_,rfl⟩;have HN:Hid ((bY g.bs f=none∧N = -1)∨∃j:Nat,bY g.bs f=some j∧N=j):=by
  cases hp:bY g.bs f with
  | none=>rw[hp] at hN;exact ki (.inl ⟨rfl,hN.symm⟩)
  | some j=>rw[hp] at hN;exact ki (.inr ⟨j,rfl,hN.symm⟩)
 rw[hN] at cs;clear hN;obtain⟨A,G⟩:=ai.o _ HI.o;go_region_held3 (fun W'=>W'.cell? ⟨B,23,none⟩=some (.pointer (some ⟨tb,0,none⟩))∧(bO (.pointer (some ⟨F,0,none⟩))).run prog W'=.ok (.agg (ak f)) W')
  (first
   | exact ai.o _ HI.o
   | exact ai.o _ vX.o
   | go_keep)
  (first|(go_at_call 34;refine(cs.o _ HI.o).mono ?_;rintro e ag ⟨rfl,an⟩;have vX:=ki (show cu w P Q F s d hop k a1 l1 c1 z a2 l2 c2 D f ag∧Below w.heap.size w ag from⟨HI.o.1.kept an,bt HI.o.2 an⟩);clear A G an;obtain⟨A,G⟩:=ai.o _ vX.o))
 clear A G HI cs;have HI:=vX;clear vX;go_upto_if 140 with fail
 go_cut [16] from 11 to 223 (fun u wx=>∃j:Nat,u=.int .i64 j∧Hid (zn w B (GO B a ah (aO sv l)) a cap tb P Q s d hop k a1 l1 c1 z a2 l2 c2 D R j wx))
 case first =>
  rcases HN.o with⟨hfn,rfl⟩|⟨j,hfn,rfl⟩;case inr =>
   have mf:¬((j:Int)<0):=by omega
   have gc:∀q,w.heap.size<=q->¬GO B a ah (aO sv l) q:=fun q h1 h2=>by have:=H0.o.lt h2;omega
   have ew:=ki (show zn w B (GO B a ah (aO sv l)) a cap tb P Q s d hop k a1 l1 c1 z a2 l2 c2 D R j ag from⟨g,sv,l,ah,⟨(nN hfn).1,a5.o.1.2.1,by omega⟩,H0.o.kept HI.o.2,aL.of HI.o.2,fun q hq=>.inl hq,⟨gc P HI.o.1.2.2.2.2.1,gc Q HI.o.1.2.2.2.2.2.1⟩,⟨HI.o.1.1,HI.o.1.2.1,HI.o.1.2.2.2.1⟩,Kt HT.o a5.o hfn hz bm.o (by rw[H.o,oL hfn];exact if_neg (fun h=>h rfl))⟩);clear hfn gc;go_wp2_with fail
   go_meet
   exact⟨j,rfl,ew⟩
  case inl =>
   have ct:=ki hfn;have i7:=ki (show el f 0=el z 0 by rw[b0.o];rfl);clear hfn HN;have x0:=HI.o.1.2.1.c0;have x5:=HI.o.1.2.1.c5;go_upto_region 25 with fail
   go_cut [157] from 141 to 157 (fun u wx=>u=.bool (decide (el z 0=6∧¬(el z 5/2%2=1∧el z 5/16%2=0)))∧Hid (cu w P Q F s d hop k a1 l1 c1 z a2 l2 c2 D f wx∧Below w.heap.size w wx))
   case first =>
    by_cases h6:el z 0=6
    ·have kq:(el z 0 == 6)=true:=by simpa using h6
     have vY:=ki h6;clear h6;by_cases hv2:el z 5/2%2=0
     ·have ed:(el z 5/2%2 == 0)=true:=by simpa using hv2
      have b3:=ki hv2;clear hv2;go_wp2_with fail
      go_meet
      exact⟨congrArg Value.bool (decide_eq_true ⟨vY.o,fun h=>by have:=b3.o;omega⟩).symm,HI⟩
     ·have ed:(el z 5/2%2 == 0)=false:=by simpa using hv2
      have b3:=ki hv2;clear hv2;by_cases rO:el z 5/16%2=1
      ·have Ku:(el z 5/16%2 == 1)=true:=by simpa using rO
       have ee:=ki rO;clear rO;go_wp2_with fail
       go_meet
       exact⟨congrArg Value.bool (decide_eq_true ⟨vY.o,fun h=>by have:=ee.o;omega⟩).symm,HI⟩
      ·have Ku:(el z 5/16%2 == 1)=false:=by simpa using rO
       have ee:=ki rO;clear rO;go_wp2_with fail
       go_meet
       exact⟨congrArg Value.bool (decide_eq_false (fun h=>h.2 ⟨by have:=b3.o;omega,by have:=ee.o;omega⟩)).symm,HI⟩
    ·have kq:(el z 0 == 6)=false:=by simpa using h6
     have vY:=ki h6;clear h6;go_wp2_with fail
     go_meet
     exact⟨congrArg Value.bool (decide_eq_false (fun h=>vY.o h.1)).symm,HI⟩
   case rest =>
   clear HI x0 x5;obtain⟨rfl,HI⟩:=hcut;by_cases hst:el z 0=6∧¬(el z 5/2%2=1∧el z 5/16%2=0);case pos =>have dd:=ki (show R=(9,[],g) by rw[H.o,mP ct.o,if_pos (show el f 0=6∧¬(el z 5/2%2=1∧el z 5/16%2=0) by rw[i7.o];exact hst)];exact if_pos (show((9:Int),([]:List Int),g).1≠0 from fun h:(9:Int)=0=>absurd h (by decide)));rw[decide_eq_true hst];clear hst H;go_wp2;go_ret2;rw[dd.o];exact H0.o.no HI.o.2 9
   rw[decide_eq_false hst];have ex:=ki (show ¬(el f 0=6∧¬(el z 5/2%2=1∧el z 5/16%2=0)) by rw[i7.o];exact hst);clear hst;have x2:=HI.o.1.2.1.c2;go_upto_if 160 with fail
   clear x2;go_cut [11,17] from 18 to 182 (fun u v wx=>∃bk far:Int,u=.int .i64 bk∧v=.int .i64 far∧Hid (bF g f (X,n)=(bk,far,0))∧Hid (cu w P Q F s d hop k a1 l1 c1 z a2 l2 c2 D f wx∧Below w.heap.size w wx))
   case first =>
    as_aux_lemma =>
     cases X;case false =>
      go_wp2_with fail
      go_meet
      exact⟨n,el z 2,rfl,rfl,ki (by unfold bF;rw[if_neg (fun h:false=true=>by cases h),lS.o]),HI⟩
     case true =>
      go_upto_region 29 with fail
      generalize hwq:wc=wq at HI⊢;clear hwq;have am:Below wq.heap.size wq wq.drew:=(Below.refl _ _).drew;have b5:Below wq.heap.size wq (wq.alloc (.cells iy 77)).drew:=(au wq _).drew;have J:=ki (show cu w P Q F s d hop k a1 l1 c1 z a2 l2 c2 D f wq.drew∧Below w.heap.size w wq.drew from⟨HI.o.1.kept am,bt HI.o.2 am⟩);have dO:=ki (show cu w P Q F s d hop k a1 l1 c1 z a2 l2 c2 D f (wq.alloc (.cells iy 77)).drew∧Below w.heap.size w (wq.alloc (.cells iy 77)).drew from⟨HI.o.1.kept b5,bt HI.o.2 b5⟩);have br:=ki (show dY wq.heap.size [] (wq.alloc (.cells iy 77)).drew from nO wq);have bX:=ki (fun W=>nO W);unfold iy at dO br bX;have HC:=ki (fun W (hW:cu w P Q F s d hop k a1 l1 c1 z a2 l2 c2 D f W∧Below w.heap.size w W)=>Kv (el g.c 19) f a cap g.bk W ((H0.o.kept hW.2).2.1.1.tO) (Nat.le_trans H0.o.2.1.2.2.1 H0.o.2.1.2.2.2));have dR:=ki (show ∀W,(cu w P Q F s d hop k a1 l1 c1 z a2 l2 c2 D f W∧Below w.heap.size w W)->W.cell? ⟨B,19,none⟩=some (.int .i64 (el g.c 19))∧(bO (.pointer (some ⟨F,0,none⟩))).run prog W=.ok (.agg (ak f)) W∧W.cell? ⟨B,22,none⟩=some (.slice a g.bk.length cap) from fun W hW=>⟨((H0.o.kept hW.2).1.cellAt 19).trans rfl,hW.1.2.2.1.fl,((H0.o.kept hW.2).1.cellAt 22).trans rfl⟩);have ef:=ki (show ∀(W W':World)(C:Nat),(cu w P Q F s d hop k a1 l1 c1 z a2 l2 c2 D f W∧Below w.heap.size w W)->Only C W W'->dY C [] W->w.heap.size<=C->C≠P∧C≠Q∧C≠F->cu w P Q F s d hop k a1 l1 c1 z a2 l2 c2 D f W'∧Below w.heap.size w W' from fun W W' C hW on hb hC hne=>⟨⟨(on.2.2.2.2 P (fun e=>hne.1 e.symm)).trans hW.1.1,(on.2.2.2.2 Q (fun e=>hne.2.1 e.symm)).trans hW.1.2.1,(on.2.2.2.2 F (fun e=>hne.2.2 e.symm)).trans hW.1.2.2.1,hW.1.2.2.2.1.jh (fun j x=>jO hb (rP fun u hu x e=>by unfold bG at hu;rw[e] at hu;simp at hu) j x) on,hW.1.2.2.2.2⟩,on.below hW.2 hC⟩);generalize zo:dW (el g.c 19) f g.bk=jF at HC;have Kw:=ki zo;have i8:=ki (show bF g f (true,n)=(el jF.1 1,el jF.1 2,jF.2) by unfold bF;rw[if_pos rfl,zo]);clear zo am b5;obtain⟨A,G,L⟩:=dR.o _ J.o;go_cut [18,19] from 18 to 175 (fun u v wx=>(∃C,u=.pointer (some ⟨C,0,none⟩)∧Hid (dY C jF.1 wx))∧v=.int .i64 jF.2∧Hid (cu w P Q F s d hop k a1 l1 c1 z a2 l2 c2 D f wx∧Below w.heap.size w wx))
      case first =>
       go_region_held3 (fun W'=>W'.cell? ⟨B,19,none⟩=some (.int .i64 (el g.c 19))∧(bO (.pointer (some ⟨F,0,none⟩))).run prog W'=.ok (.agg (ak f)) W'∧W'.cell? ⟨B,22,none⟩=some (.slice a g.bk.length cap))
        (first
         | exact dR.o _ J.o
         | exact dR.o _ dO.o
         | exact dR.o _ ab.o
         | exact dR.o _ gd.o
         | exact dR.o _ ge.o
         | go_keep)
        (first|(go_at_call 35;refine(HC.o _ J.o).mono ?_;rintro e w4 ⟨rfl,ac⟩;have ab:=ki (show cu w P Q F s d hop k a1 l1 c1 z a2 l2 c2 D f w4∧Below w.heap.size w w4 from⟨J.o.1.kept ac,bt J.o.2 ac⟩);have bw:=au w4 (.cells #[.int .i64 0,.int .i64 0,.int .i64 0,.int .i64 0,.bool false,.bool false] 77);have gd:=ki (show cu w P Q F s d hop k a1 l1 c1 z a2 l2 c2 D f _∧Below w.heap.size w _ from⟨ab.o.1.kept bw,bt ab.o.2 bw⟩);obtain⟨w6,k6,p6,de⟩:=(bX.o w4).held jF.1;have ge:=ki (ef.o _ _ _ gd.o de (bX.o w4) ab.o.2.size ⟨by have:=ab.o.1.1.lt;omega,by have:=ab.o.1.2.1.lt;omega,by have:=ab.o.1.2.2.1.lt;omega⟩);have HF:=ki p6;clear ac bw A G L p6 de;obtain⟨A,G,L⟩:=dR.o _ ab.o)|(go_at_call 35;refine(HC.o _ dO.o).mono ?_;rintro e w4 ⟨rfl,ac⟩;have ab:=ki (show cu w P Q F s d hop k a1 l1 c1 z a2 l2 c2 D f w4∧Below w.heap.size w w4 from⟨dO.o.1.kept ac,bt dO.o.2 ac⟩);have gd:=ab;obtain⟨w6,k6,p6,de⟩:=(br.o.kept ac).held jF.1;have ge:=ki (ef.o _ _ _ ab.o de (br.o.kept ac) HI.o.2.size ⟨by have:=HI.o.1.1.lt;omega,by have:=HI.o.1.2.1.lt;omega,by have:=HI.o.1.2.2.1.lt;omega⟩);have HF:=ki p6;clear ac A G L p6 de;obtain⟨A,G,L⟩:=dR.o _ ab.o))
       all_goals
        go_wp2_with fail
        go_meet
        exact⟨⟨_,rfl,HF⟩,rfl,ge⟩
      case rest =>
      obtain⟨⟨C,rfl,i9⟩,rfl,fT⟩:=hcut;clear J dO br bX HC dR ef A G L HI Kw;by_cases h0:jF.2=0;case neg =>
       have he:(jF.2 != 0)=true:=by simpa using h0
       have ks:=ki (show R=(jF.2,[],g) by rw[H.o,mP ct.o,if_neg ex.o,i8.o,if_pos h0];exact if_pos h0);clear h0 H;go_wp2;go_ret2;rw[ks.o];exact H0.o.no fT.o.2 jF.2
      have he:(jF.2 != 0)=false:=by simpa using h0
      have d1:=i9.o.c1;have d2:=i9.o.c2;have kt:=ki (show bF g f (true,n)=(el jF.1 1,el jF.1 2,0) by rw[i8.o,h0]);clear h0;go_wp2_with fail
      go_meet
      exact⟨el jF.1 1,el jF.1 2,rfl,rfl,kt,fT⟩
   case rest =>
   clear HI;obtain⟨bk,far,rfl,rfl,df,HI⟩:=hcut;have dg:=ki (show fr bk=true∧wd far=true by have:=i4.o (by rw[df.o]);rw[df.o] at this;exact this);obtain⟨E,Mb,ws',ts',bs',zq,zu⟩:∃(E:Int) (Mb:List Int) (ws':Nat->List Int) (ts':Nat->Bool) (bs':List (List Int)),
     Hid (∀W,(cu w P Q F s d hop k a1 l1 c1 z a2 l2 c2 D f W∧Below w.heap.size w W)->Calls prog 36 #[.pointer (some ⟨tb,0,none⟩),.agg (ak f),.int .i64 bk,.int .i64 far,.int .i64 g.now] W fun r w'=>r=.returned (.tuple #[.agg (ay Mb),.int .i64 E])∧mQ tb g.m ws' ts' bs' ah W w') ∧
     Hid ((E=3∧g.tab ws' ts' bs'=g∧R=(3,[],g))∨(E=0∧∃i,tk g.ws g.ts (cli f) (8*g.m)=some i∧Mb=bL f (1024+(i:Int)) bk far g.now∧g.tab ws' ts' bs'=g.tab (upd g.ws i (cli f)) (upd g.ts i true) (ins (bL f (1024+(i:Int)) bk far g.now) g.bs)∧R=jE (g.tab (upd g.ws i (cli f)) (upd g.ts i true) (ins (bL f (1024+(i:Int)) bk far g.now) g.bs)) (bL f (1024+(i:Int)) bk far g.now) hop z D)):=by
    have ja:=fun W (hW:cu w P Q F s d hop k a1 l1 c1 z a2 l2 c2 D f W∧Below w.heap.size w W)=>Ky (back:=bk) (far:=far) (now:=g.now) (H0.o.kept hW.2).2.2.1 a5.o.1.1 a5.o.1.2.1 bm.o (by rw[dg.o.1,dg.o.2,a5.o.1.2.2.2.1];rfl) ct.o
    cases htk:tk g.ws g.ts (cli f) (8*g.m) with
    | none =>
     refine⟨3,[],g.ws,g.ts,g.bs,ki (fun W hW=>(ja W hW).mono ?_),ki (.inl ⟨rfl,rfl,?_⟩)⟩
     ·rintro r w' (⟨_,e1,e2⟩|⟨i,e0,_⟩)
      ·exact⟨e1,e2⟩
      ·rw[htk] at e0;cases e0
     ·rw[H.o,mP ct.o,if_neg ex.o,df.o,htk,if_neg (fun h:(0:Int)≠0=>h rfl)];exact if_pos (fun h:(3:Int)=0=>absurd h (by decide))
    | some i =>
     refine⟨0,_,_,_,_,ki (fun W hW=>(ja W hW).mono ?_),ki (.inr ⟨rfl,i,rfl,rfl,rfl,?_⟩)⟩
     ·rintro r w' (⟨e0,_⟩|⟨i',e0,e1,e2⟩)
      ·rw[htk] at e0;cases e0
      ·rw[htk] at e0;cases e0;exact⟨e1,e2⟩
     ·rw[H.o,mP ct.o,if_neg ex.o,df.o,htk,if_neg (fun h:(0:Int)≠0=>h rfl)];exact if_neg (fun h=>h rfl)
   clear H i4 df ex;go_upto_region 34 with fail
   generalize hwq:wc=wq at HI⊢;clear hwq;have am:Below wq.heap.size wq wq.drew:=(Below.refl _ _).drew;have b5:Below wq.heap.size wq (wq.alloc (.cells aV 95)).drew:=(au wq _).drew;have J:=ki (show cu w P Q F s d hop k a1 l1 c1 z a2 l2 c2 D f wq.drew∧Below w.heap.size w wq.drew from⟨HI.o.1.kept am,bt HI.o.2 am⟩);have dO:=ki (show cu w P Q F s d hop k a1 l1 c1 z a2 l2 c2 D f (wq.alloc (.cells aV 95)).drew∧Below w.heap.size w (wq.alloc (.cells aV 95)).drew from⟨HI.o.1.kept b5,bt HI.o.2 b5⟩);have br:=ki (show aJ wq.heap.size [] (wq.alloc (.cells aV 95)).drew from fu wq);have jb:=ki (show w.heap.size<=wq.heap.size∧wq.heap.size≠P∧wq.heap.size≠Q∧wq.heap.size≠F from⟨HI.o.2.size,by have:=HI.o.1.1.lt;omega,by have:=HI.o.1.2.1.lt;omega,by have:=HI.o.1.2.2.1.lt;omega⟩);unfold aV at dO br;have ez:=ki (show ∀W,(cu w P Q F s d hop k a1 l1 c1 z a2 l2 c2 D f W∧Below w.heap.size w W)->W.cell? ⟨B,23,none⟩=some (.pointer (some ⟨tb,0,none⟩))∧(bO (.pointer (some ⟨F,0,none⟩))).run prog W=.ok (.agg (ak f)) W∧W.cell? ⟨B,25,none⟩=some (.int .i64 g.now) from fun W hW=>⟨((H0.o.kept hW.2).1.cellAt 23).trans rfl,hW.1.2.2.1.fl,((H0.o.kept hW.2).1.cellAt 25).trans rfl⟩);have az:=ki (show ∀W,gX w B (GO B a ah (aO sv l)) a cap tb P Q F s d hop k a1 l1 c1 z a2 l2 c2 D f (g.tab ws' ts' bs') sv l W->W.cell? ⟨B,23,none⟩=some (.pointer (some ⟨tb,0,none⟩))∧(bO (.pointer (some ⟨F,0,none⟩))).run prog W=.ok (.agg (ak f)) W∧W.cell? ⟨B,25,none⟩=some (.int .i64 g.now) from fun W hW=>hW.reads);clear am b5 HI ai;obtain⟨A,G,L⟩:=ez.o _ J.o;go_cut [20,21] from 18 to 197 (fun u v wx=>∃C,u=.pointer (some ⟨C,0,none⟩)∧v=.int .i64 E∧Hid (jP w B (GO B a ah (aO sv l)) a cap tb P Q F s d hop k a1 l1 c1 z a2 l2 c2 D f (g.tab ws' ts' bs') sv l C Mb wx))
   case first =>
    as_aux_lemma =>
     go_region_held3 (fun W'=>W'.cell? ⟨B,23,none⟩=some (.pointer (some ⟨tb,0,none⟩))∧(bO (.pointer (some ⟨F,0,none⟩))).run prog W'=.ok (.agg (ak f)) W'∧W'.cell? ⟨B,25,none⟩=some (.int .i64 g.now))
      (first
       | exact ez.o _ J.o
       | exact ez.o _ dO.o
       | exact az.o _ oM.o
       | exact az.o _ tQ.o
       | exact az.o _ HF.o.mv
       | go_keep)
      (first|(go_at_call 36;refine(zq.o _ J.o).mono ?_;rintro e w4 ⟨rfl,dk⟩;have m4:=Kz H0.o J.o dk;have n5:=m4.new;obtain⟨w6,k6,p6⟩:=n5.put Mb;have oM:=ki m4;have tQ:=ki n5.mv;have HF:=ki p6;unfold aV at k6 tQ;clear dk m4 n5 p6 A G L;obtain⟨A,G,L⟩:=az.o _ oM.o)|(go_at_call 36;refine(zq.o _ dO.o).mono ?_;rintro e w4 ⟨rfl,dk⟩;have n5:=KA H0.o dO.o dk br.o jb.o;obtain⟨w6,k6,p6⟩:=n5.put Mb;have oM:=ki n5.mv;have tQ:=oM;have HF:=ki p6;clear dk n5 p6 A G L;obtain⟨A,G,L⟩:=az.o _ oM.o))
     all_goals
      go_wp2_with fail
      go_meet
      exact⟨_,rfl,rfl,HF⟩
   case rest =>
   obtain⟨C,rfl,rfl,HM⟩:=hcut;clear J dO br jb ez az A G L zq;rcases zu.o with⟨rfl,htb,CU⟩|⟨rfl,i,htk,CV,htb,hRb⟩;case inl =>have ek:=ki CU;rw[htb] at HM;clear htb CU zu;go_wp2;go_ret2;rw[ek.o];exact⟨none,0,0,rfl,⟨dL _,Nat.le_refl _,by unfold maxLen;omega⟩,HM.o.mv.dv⟩
   case inr =>
   rw[htb,CV] at HM;obtain⟨j,j1,j2,vZ,CW⟩:=KC HT.o a5.o ct.o htk dg.o.1 dg.o.2 bm.o hz hRb;have HJ:=ki (And.intro j1 (And.intro j2 (And.intro vZ CW)));have kx:=ki (CX HT.o.1 a5.o.1 htk);clear htb CV hRb zu j1 j2 vZ CW htk dg HT a5;go_upto_if 201 with fail
   go_cut [217] from 202 to 217 (fun u wx=>∃(gB:Value) (l':List (Int×Nat)),Hid (l'.length<=1000∧gX w B (GO B a ah (aO sv l)) a cap tb P Q F s d hop k a1 l1 c1 z a2 l2 c2 D f (j5 g i f bk far) gB l' wx))
   case first =>
    as_aux_lemma =>
     cases T;case false =>
      go_wp2_with fail
      go_meet
      exact⟨sv,l,ki ⟨by omega,by unfold j5;rw[if_neg (by rw[dc.o];decide)];exact HM.o.mv⟩⟩
     case true =>
      have gi:=ki (show j5 g i f bk far=(g.tab (upd g.ws i (cli f)) (upd g.ts i true) (ins (bL f (1024+(i:Int)) bk far g.now) g.bs)).str ((1024+(i:Int),hb f,0,false,false)::g.ss) by unfold j5;rw[if_pos dc.o]);have eh:=ki (show bH (g.tab (upd g.ws i (cli f)) (upd g.ts i true) (ins (bL f (1024+(i:Int)) bk far g.now) g.bs)).ss (1024+(i:Int))=none from kx.o);have CY:=ki (show(g.tab (upd g.ws i (cli f)) (upd g.ts i true) (ins (bL f (1024+(i:Int)) bk far g.now) g.bs)).ss=g.ss from rfl);have gj:=ki (show el (bL f (1024+(i:Int)) bk far g.now) 19=1024+(i:Int) from rfl);generalize g.tab (upd g.ws i (cli f)) (upd g.ts i true) (ins (bL f (1024+(i:Int)) bk far g.now) g.bs)=g1 at HM gi eh CY;generalize bL f (1024+(i:Int)) bk far g.now=CZ at HM gj;obtain⟨p,hp⟩:∃p,1024+(i:Int)=p:=⟨_,rfl⟩;rw[hp] at gi eh gj;clear hp;go_upto_region 38 with fail
      generalize hwq:wc=wq at HM⊢;clear hwq;replace HM:=ki (HM.o.kept (show Below wq.heap.size wq wq.drew from(Below.refl _ _).drew));have ky:=ki (fun W=>KD f W bm.o);have e5:=ki (show ∀W,jP w B (GO B a ah (aO sv l)) a cap tb P Q F s d hop k a1 l1 c1 z a2 l2 c2 D f g1 sv l C CZ W->W.cell? ⟨C,19,none⟩=some (.int .i64 p)∧(bO (.pointer (some ⟨F,0,none⟩))).run prog W=.ok (.agg (ak f)) W from fun W hW=>⟨by rw[<-gj.o];exact hW.1.cell 19 (by omega),hW.mv.reads.2.1⟩);have cy:=ki (show ∀W,jP w B (GO B a ah (aO sv l)) a cap tb P Q F s d hop k a1 l1 c1 z a2 l2 c2 D f g1 sv l C CZ W->W.cell? ⟨B,24,none⟩=some sv from fun W hW=>by obtain⟨_,_,ap,h1,_⟩:=hW;exact(h1.1.cellAt 24).trans rfl);have XR:=cy.o _ HM.o;obtain⟨A,G⟩:=e5.o _ HM.o;have hsl:=fun (x:Nat) (W:World)=>(show(zw #[(0,.agg #[.int .i64 p,.pointer (some ⟨x,0,none⟩)])]).run prog W=.ok (.slice (some ⟨W.heap.size,0,none⟩) 1 1) (W.alloc (.cells #[.int .i64 p,.pointer (some ⟨x,0,none⟩)] 103)) from C8 (p,x) W)
      go_region_with (first|(go_at_call 37;refine(ky.o _).mono ?_;rintro e w4 ⟨v4,rfl,o4,ac⟩;obtain⟨gh,ch,rfl,e1,e2,e3,e4,rh⟩:=o4.form (by rw[zx];omega);have m4:=HM.o.kept ac;have bw:=au w4 (.cells #[.slice (some ⟨gh,0,none⟩) (hb f).length ch,.int .i64 0,.bool false,.bool false] 101);have m5:=m4.kept bw;have dl:=au (w4.alloc (.cells #[.slice (some ⟨gh,0,none⟩) (hb f).length ch,.int .i64 0,.bool false,.bool false] 101)) (.cells #[.int .i64 p,.pointer (some ⟨w4.heap.size,0,none⟩)] 103);have m6:=m5.kept dl;have y4:=cy.o _ m4;have jG:=cy.o _ m5;have y6:=cy.o _ m6;have oM:=ki m4;have tQ:=ki m5;have C9:=ki m6;have gm:=Da (p,w4.heap.size) (w4.alloc (.cells #[.slice (some ⟨gh,0,none⟩) (hb f).length ch,.int .i64 0,.bool false,.bool false] 101));rw[World.size_alloc] at gm;have e6:=ki (show ST 101 w4.heap.size (hb f) 0 false false _ from⟨_,_,_,(show dF 101 w4.heap.size _ _ _ 0 false false _ from heap_alloc_new w4 _).kept dl,(rh.below bw).below dl,by rw[zx];omega⟩);have k4:=ki (show gD _ sv l from by obtain⟨_,_,ap,h1,_⟩:=m6;exact h1.2.2.2.1.1);obtain⟨g7,c7,w7,k5,Db,gn,Dc⟩:=Df _ 52 sv l k4.o _ 1 (p,w4.heap.size) gm (by omega);rw[CJ] at k5;obtain⟨mR,XT,s7,k8⟩:=C9.o.grown gn;have la:=ki (oM.o.mv.app (bt bw dl) eh.o (st:=(hb f,0,false,false)) e6.o Db gn Dc);clear gm Db gn Dc s7 k8;clear m4 m5 m6 ac bw dl o4 rh e1 e2 e3 e4 A G;obtain⟨A,G⟩:=e5.o _ oM.o;obtain⟨L,q4⟩:=e5.o _ tQ.o;obtain⟨q5,q6⟩:=e5.o _ C9.o))
      all_goals
       go_wp2_with fail
       go_meet
       refine⟨_,_,ki ⟨?_,by rw[gi.o,<-CY.o];exact la.o⟩⟩;rw[List.length_append];show l.length+1<=1000;omega
   case rest =>
   obtain⟨gB,l',dm⟩:=hcut;clear HM;have lb:=ki dm.o.1;have Dh:=ki (show ix (bY (j5 g i f bk far).bs f)=(j:Int) by rw[KE,HJ.o.1];rfl);have cs:=ki (fun W (hW:gX w B (GO B a ah (aO sv l)) a cap tb P Q F s d hop k a1 l1 c1 z a2 l2 c2 D f (j5 g i f bk far) gB l' W)=>show Calls prog 34 #[.pointer (some ⟨tb,0,none⟩),.agg (ak f)] W fun e w'=>e=.returned (.int .i64 (j:Int))∧Below W.heap.size W w' from by have:=hW.find HJ.o.2.2.1 f;rw[Dh.o] at this;exact this);have az:=ki (show ∀W,gX w B (GO B a ah (aO sv l)) a cap tb P Q F s d hop k a1 l1 c1 z a2 l2 c2 D f (j5 g i f bk far) gB l' W->W.cell? ⟨B,23,none⟩=some (.pointer (some ⟨tb,0,none⟩))∧(bO (.pointer (some ⟨F,0,none⟩))).run prog W=.ok (.agg (ak f)) W from fun W hW=>⟨hW.reads.1,hW.reads.2.1⟩);replace HJ:=ki (And.intro HJ.o.2.1 (And.intro HJ.o.2.2.1 HJ.o.2.2.2));generalize j5 g i f bk far=o at dm cs az HJ;clear Dh;go_upto_region 39 with fail
   generalize hwq:wc=wq at dm⊢;clear hwq;have e7:=ki (dm.o.2.kept (show Below wq.heap.size wq wq.drew from(Below.refl _ _).drew));clear dm;obtain⟨A,G⟩:=az.o _ e7.o;go_region_held3 (fun W'=>W'.cell? ⟨B,23,none⟩=some (.pointer (some ⟨tb,0,none⟩))∧(bO (.pointer (some ⟨F,0,none⟩))).run prog W'=.ok (.agg (ak f)) W')
    (first
     | exact az.o _ e7.o
     | exact az.o _ gp.o
     | go_keep)
    (first|(go_at_call 34;refine(cs.o _ e7.o).mono ?_;rintro e M ⟨rfl,gs⟩;have gp:=ki (e7.o.kept gs);clear A G gs;obtain⟨A,G⟩:=az.o _ gp.o))
   clear A G;go_wp2_with fail
   go_meet
   exact⟨j,rfl,ki (gp.o.cx HJ.o.1 HJ.o.2.1 lb.o HJ.o.2.2)⟩
 case rest =>
 as_aux_lemma =>
 obtain⟨j,rfl,ew⟩:=hcut;have Di:=ki (show w.heap.size<=P from HI.o.1.2.2.2.2.1);clear HT a5 bm H HN H0 HI dc cr lS b0;obtain⟨o,aq,lx,gt,⟨hj,ly,lc⟩,zy,e8,gw,⟨zA,gz⟩,⟨hP,hQ,iG⟩,ld⟩:=ew.o;clear ew;obtain⟨U,hU,Dj,Dk,jj,g8,Dl⟩:=ld;have H:=ki Dk;have oN:=ki Dj;have bh:=ki jj;have cz:=ki g8;have ha:=ki (fun W=>fu W);unfold aV at ha;go_upto_region 40 with fail
 generalize hwq:wc=wq at zy e8 hP hQ iG⊢;clear hwq;have S:Below wq.heap.size wq wq.drew:=(Below.refl _ _).drew;have b9:=zy.kept S;obtain⟨Dm,mi,u1,u2,u3,-,⟨v0,u5⟩,tT,-,u8⟩:=wh b9.2.2.1 hj;obtain⟨t1,t2⟩:=u8 o.now;obtain⟨ap,g9,k9,s9⟩:=b9.tab ⟨gt,t1,t2,fun _ h=>.inl h⟩;obtain⟨x,hx⟩:∃x,o.bs.getD j []=x:=⟨_,rfl⟩;rw[hx] at g9 hU H bh;have jn:=ki (show(o.bs.set j (bg x o.now)).getD j []=bg x o.now by rw[Dn _ _ _ _ _ hj,if_pos rfl]);have Dp:=ki (show j<(o.bs.set j (bg x o.now)).length by rw[List.length_set];exact hj);have hk:=ki (show eU (o.tab o.ws o.ts (o.bs.set j (bg x o.now))) from Dl);have dp:=ki (show(o.tab o.ws o.ts (o.bs.set j (bg x o.now))).c=o.c from rfl);have hN:∀q,GO B a ap (aO aq lx) q->GO B a gt (aO aq lx) q∨wq.drew.heap.size<=q:=by
  rintro q (h1|h1|h1|h1)
  ·exact .inl (.inl h1)
  ·exact .inl (.inr (.inl h1))
  ·exact(s9 q h1).imp (fun h=>.inr (.inr (.inl h))) id
  ·exact .inl (.inr (.inr (.inr h1)))
 have hne:∀q,¬GO B a gt (aO aq lx) q->q<wq.drew.heap.size->¬GO B a ap (aO aq lx) q:=fun q h1 h2 h3=>by
  rcases hN q h3 with h4|h4
  ·exact h1 h4
  ·omega
 have e9:=ki (show aB.aI P s d hop k a1 l1 c1 _ from(k9.1.2.2.2.2 P (hP.kept S).lt zA).trans (hP.kept S));have fa:=ki (show aG Q z a2 l2 c2 _ from(k9.1.2.2.2.2 Q (hQ.kept S).lt gz).trans (hQ.kept S));have dd:=ki (k9.2 _ _ _ _ (iG.below S));have ca:=ki (And.intro (hne P zA (hP.kept S).lt) (hne Q gz (hQ.kept S).lt));have fc:=ki (show ∀q,GO B a ap (aO aq lx) q->GO B a ah (aO sv l) q∨w.heap.size<=q from fun q hq=>by
  rcases hN q hq with h|h
  ·exact gw q h
  ·exact .inr (Nat.le_trans e8.size (Nat.le_trans S.size h)))
 have fg:=ki ((e8.trans (aL.of (O:=fun _=>False) S) (fun _ h=>h.elim)).trans k9 gw);have cb:=ki g9;have A:wq.drew.cell? ⟨B,23,none⟩=some (.pointer (some ⟨tb,0,none⟩)):=(b9.1.cellAt 23).trans rfl;have G:wq.drew.cell? ⟨B,25,none⟩=some (.int .i64 o.now):=(b9.1.cellAt 25).trans rfl;have oO:(j:Int)<(o.bs.length:Int):=by omega
 have fh:(o.bs.length:Int)<=128:=by omega
 clear t1 t2 u8 g9 k9 s9 hN hne zy b9 e8 gw zA gz hP hQ iG Dk Dj jj g8 hx S Dl;go_region
 generalize tV:(wq.setCell ⟨Dm,j*23+22,none⟩ (.int .i64 o.now)).drew=iA;rw[show wq.drew.setCell ⟨Dm,j*23+22,none⟩ (.int .i64 o.now)=iA from tV] at cb fg e9 fa dd;have jp:=ki (And.intro oO fh);clear tV A G u1 u2 u3 u5 tT oO fh;generalize hg3:o.tab o.ws o.ts (o.bs.set j (bg x o.now))=g3 at cb hU hk dp;have fj:=ki (show g3.bs=o.bs.set j (bg x o.now) by rw[<-hg3];rfl);clear hg3;obtain⟨mj,mk,u1,u2,u3,-,-,-,tX,-⟩:=wh cb.o.2.2.1 (k:=j) (by rw[fj.o];exact Dp.o);have gx:=qp tX;rw[fj.o,jn.o] at gx;have Dq:g3.bs.length=o.bs.length:=by rw[fj.o,List.length_set]
 rw[Dq] at u1 u2;obtain⟨oO,fh⟩:=jp.o;have A:iA.cell? ⟨B,23,none⟩=some (.pointer (some ⟨tb,0,none⟩)):=(cb.o.1.cellAt 23).trans rfl;have dB:=ki (show P<iA.heap.size∧Q<iA.heap.size∧P<Q∧w.heap.size<=iA.heap.size∧¬GO B a ap (aO aq lx) iA.heap.size from⟨e9.o.lt,fa.o.lt,f3.o.1,fg.o.size,fun hq=>by have:=cb.o.lt hq;omega⟩);have dq:=ki (show w.heap.size<=P from Di.o);clear tX Dq jp jn Dp fj f3 Di;go_upto_region 42 with(refine fF rfl (.tmp 22) (.tmp 247) rfl rfl (ha.o _) (bg x o.now) rfl ?_;intro ag a9 a0;have HF:=ki a9;have an:=bq _ a0;have HG:=ki (cb.o.kept an);have HK:=ki (fg.o.trans (aL.of (O:=fun _=>False) an) (fun _ h=>h.elim));have HP:=ki (e9.o.kept an);have HQ:=ki (fa.o.kept an);have fk:=ki (dd.o.below an);clear a9 a0 an)
 clear A u1 u2 u3 gx oO fh ha cb fg e9 fa dd;generalize iA.heap.size=aM at HF dB⊢;have Dr:ag.cell? ⟨aM,19,none⟩=some (.int .i64 (el x 19)):=HF.o.cell 19 (by omega);have ao:=ki (Dt B a cap tb aq lx ap g3 (el x 19) ag HG.o lc);unfold duo at hU;cases hsf:bH g3.ss (el x 19) with
 | none =>
  rw[hsf] at hU;replace hU:(0,z,D,g3)=U:=hU;replace ao:=ki (ao.o.mono fun e w' h=>show e=.returned (.pointer none)∧w'=ag from by
   obtain⟨h1|⟨y,hy,e1,h1⟩,h2⟩:=h
   ·exact⟨h1.2,h2⟩
   ·obtain⟨st,e2,_⟩:=HG.o.2.2.2.1.2.1 y hy;rw[e1,hsf] at e2;cases e2)
  have HE:=ki (show bA B a cap tb aq lx ap U.2.2.2 ag∧aL (GO B a ah (aO sv l)) w ag∧aB.aI P s d hop k a1 l1 c1 ag∧aJ aM (bg x o.now) ag∧(∃a3 l3 c3,aG Q U.2.1 a3 l3 c3 ag∧aj ag a3 l3 c3 U.2.2.1)∧U.1=0∧U.2.2.2.c=o.c by rw[<-hU];exact⟨HG.o,HK.o,HP.o,HF.o,⟨a2,l2,c2,HQ.o,fk.o⟩,rfl,dp.o⟩);clear hsf hU HG HK HP HF HQ fk hk dp;go_upto_region 47 with(go_at_call 38;refine ao.o.mono ?_;rintro e M ⟨rfl,cc⟩;rw[cc];clear cc M)
  clear ao Dr;generalize hW:ag=rQ at HE⊢;clear hW;obtain⟨hG,hK,hP,hF,⟨a3,l3,c3,hS,iG⟩,cd,dt⟩:=HE.o;have ce:=ki (show R=(0,gY (el o.c 18) (el x 20) (hop-1) (bT U.2.1 (el x 19) (el x 21)) U.2.2.1,U.2.2.2) by rw[H.o,if_neg (fun h=>h cd)]);have du:=ki (oN.o cd);have x1:=hS.c1;have y1:=hS.aZ 1;have hw:rQ.cell? ⟨aM,19,none⟩=some (.int .i64 (el x 19)):=hF.cell 19 (by omega);obtain⟨a9,a0⟩:=hS.wm (el x 19);have x2:=a9.c2;have y2:=a9.aZ 2;have h5:(rQ.setCell ⟨Q,1,none⟩ (.int .i64 (el x 19))).cell? ⟨aM,21,none⟩=some (.int .i64 (el x 21)):=(World.cell?_of_block (a:=⟨aM,21,none⟩) (a0.2.2.2.2 aM (by have:=dB.o;omega))).trans (hF.cell 21 (by omega));obtain⟨oP,ad⟩:=hS.rR (el x 19) (el x 21);have bb:=ki (hG.other ad ca.o.2 (fun j x=>hS.dP j x));have cg:=ki (hK.own ad (by have:=dq.o;have:=dB.o;omega) (fun j x=>hS.dP j x));have cj:=ki (iG.past hS ad);have tY:=ki (show aB.aI P s d hop k a1 l1 c1 _ from(ad.2.2.2.2 P (by have:=dB.o;omega)).trans hP);have dy:=ki (show aJ aM (bg x o.now) _ from(ad.2.2.2.2 aM (by have:=dB.o;omega)).trans hF);have cm:=ki oP;have h7:=ki dt;clear a9 a0 oP ad hG hK hP hF hS iG cd dt HE H oN;go_upto_region 49 with fail
  clear x1 x2 y1 y2 hw h5;generalize (World.setCell _ _ _).setCell _ _=M at bb cg cj tY dy cm⊢;have h9:=cj.o.1;subst h9;have hh:=Hh.o;have oQ:=ki (show bC (bT U.2.1 (el x 19) (el x 21)) U.2.2.1.length from rT du.o bh.o.1 ((jH _).1 bh.o.2.2));obtain⟨kk,NN,EE,d0,d3⟩:=zB (z:=bT U.2.1 (el x 19) (el x 21)) (D:=U.2.2.1) (s:=el o.c 18) (d:=el x 20) (t:=hop-1) cz.o (by have:=bh.o.2.1;unfold fr at this;rw[Bool.and_eq_true,decide_eq_true_eq,decide_eq_true_eq] at this;exact decide_eq_true this) (decide_eq_true ⟨by omega,by omega⟩) oQ.o;have d4:=ki d0;have d5:=ki d3;have d6:=ki (show 0<(gY (el o.c 18) (el x 20) (hop-1) (bT U.2.1 (el x 19) (el x 21)) U.2.2.1).length from Du _ _ _ _ _);generalize gY (el o.c 18) (el x 20) (hop-1) (bT U.2.1 (el x 19) (el x 21)) U.2.2.1=Y at d5 d6 ce;generalize bT U.2.1 (el x 19) (el x 21)=zz at d4 cm;have ll:IntKind.i64.wrap (hop-1)=hop-1:=by rw[IntKind.wrap_i64];omega
  have HQ:=ki (show ∀W',Below M.heap.size M W'->W'.cell? ⟨B,18,none⟩=some (.int .i64 (el o.c 18))∧W'.cell? ⟨aM,20,none⟩=some (.int .i64 (el x 20))∧W'.cell? ⟨P,16,none⟩=some (.int .i64 hop)∧(j6 (.pointer (some ⟨Q,0,none⟩))).run prog W'=.ok (.agg (aA zz a3 U.2.2.1.length c3)) W' from fun W' hb=>⟨((bb.o.kept hb).1.cellAt 18).trans (by rw[h7.o];rfl),(dy.o.kept hb).cell 20 (by omega),(tY.o.kept hb).hop,(cm.o.kept hb).gl⟩);have J:=ki (show Below M.heap.size M M.drew from(Below.refl _ _).drew);have ia:=ki (cj.o.below J.o);clear d0 d3 oQ du dq dB ca bh cz hh;obtain⟨A,G,L,q4⟩:=HQ.o _ J.o;go_region_held3 (fun W'=>W'.cell? ⟨B,18,none⟩=some (.int .i64 (el o.c 18))∧W'.cell? ⟨aM,20,none⟩=some (.int .i64 (el x 20))∧W'.cell? ⟨P,16,none⟩=some (.int .i64 hop)∧(j6 (.pointer (some ⟨Q,0,none⟩))).run prog W'=.ok (.agg (aA zz a3 U.2.2.1.length c3)) W')
   (first
    | exact HQ.o _ J.o
    | exact HQ.o _ a6.o
    | exact HQ.o _ ax.o
    | go_keep)
   (first|(go_at_call 41;refine(d4.o _ _ _ ia.o).mono ?_;rintro e bW ⟨a4,c4,rfl,r4,ac⟩;have ic:=ki r4;have a6:=ki (bt J.o ac);clear r4 ac A G L q4;obtain⟨A,G,L,q4⟩:=HQ.o _ a6.o)|(go_at_call 40;refine(d5.o _ _ _ ic.o).mono ?_;rintro e lm ⟨ln,rfl,d7,co⟩;obtain⟨lo,lp,rfl,k1,k2,-,-,d8⟩:=d7.form d6.o;have ax:=ki (bt a6.o co);have ih:=ki (And.intro d8 (And.intro k1 k2));clear co d7 d8 k1 k2 A G L q4;obtain⟨A,G,L,q4⟩:=HQ.o _ ax.o))
  all_goals
   clear A G L q4;go_wp2;go_ret2;rw[ce.o];exact⟨_,_,_,rfl,ih.o,a,cap,tb,aq,lx,ap,bb.o.kept ax.o,cg.o.trans (aL.of (O:=fun _=>False) ax.o) (fun _ h=>h.elim),fc.o⟩
 | some st =>
  rw[hsf] at hU;dsimp only at hU;have b1:=ki (fun W C (p:ST 101 C st.1 st.2.1 st.2.2.1 st.2.2.2 W) (r:aj W a2 l2 c2 D)=>KF C st.1 st.2.1 st.2.2.1 st.2.2.2 z a2 l2 c2 D W p r);have e6:=ki (fun (y:Int×Nat) (hy:y∈lx) (e1:y.1=el x 19)=>show ST 101 y.2 st.1 st.2.1 st.2.2.1 st.2.2.2 ag from by obtain⟨ml,e2,h2⟩:=HG.o.2.2.2.1.2.1 y hy;rw[e1,hsf] at e2;cases e2;exact h2);replace ao:=ki (ao.o.mono fun e w' h=>show(∃y,y∈lx∧y.1=el x 19∧e=.returned (.pointer (some ⟨y.2,0,none⟩)))∧w'=ag from by
   obtain⟨⟨h1,_⟩|h1,h2⟩:=h
   ·rw[hsf] at h1;cases h1
   ·exact⟨h1,h2⟩)
  generalize dM st.1 st.2.1 st.2.2.1 st.2.2.2 z D=V at b1 hU;have HU:=ki hU;have zC:=HQ.o.gl;clear hsf hU hk;go_upto_region 45 with(first|(go_at_call 38;refine ao.o.mono ?_;rintro e M ⟨⟨y,hy,ey,rfl⟩,cc⟩;rw[cc];clear cc M;have kY:=ki (And.intro hy ey);clear hy ey)|(go_at_call 39;refine(b1.o _ _ (e6.o y kY.o.1 kY.o.2) fk.o).mono ?_;rintro e M ⟨a3,l3,c3,rfl,r3,js,u3⟩;obtain⟨ii,k3⟩:=HG.o.turn kY.o.1 u3 (st:=(st.1,V.2.2.2)) js;rw[kY.o.2] at ii;have jt:=ki ii;have ju:=ki (HK.o.trans k3 fc.o);have S3:=ki (show aG Q z a2 l2 c2 M from(k3.1.2.2.2.2 Q HQ.o.lt ca.o.2).trans HQ.o);have P3:=ki (show aB.aI P s d hop k a1 l1 c1 M from(k3.1.2.2.2.2 P HP.o.lt ca.o.1).trans HP.o);have tZ:=ki (show aJ aM (bg x o.now) M from(k3.1.2.2.2.2 aM HF.o.lt dB.o.2.2.2.2).trans HF.o);have uf:=ki r3;clear ii k3 r3 js u3 zC)|(refine aK rfl (.tmp 8) (.tmp 258) rfl rfl S3.o V.2.1 a3 l3 c3 rfl ?_;intro bW Dv bj;have HE:=ki (show bA B a cap tb aq lx ap U.2.2.2 bW∧aL (GO B a ah (aO sv l)) w bW∧aB.aI P s d hop k a1 l1 c1 bW∧aJ aM (bg x o.now) bW∧(∃a3 l3 c3,aG Q U.2.1 a3 l3 c3 bW∧aj bW a3 l3 c3 U.2.2.1)∧V.1=U.1∧U.2.2.2.c=o.c by rw[<-HU.o];exact⟨jt.o.other bj ca.o.2 (fun j x=>S3.o.dP j x),ju.o.own bj (by have:=dq.o;have:=dB.o;omega) (fun j x=>S3.o.dP j x),(bj.2.2.2.2 P (by have:=dB.o;omega)).trans P3.o,(bj.2.2.2.2 aM (by have:=dB.o;omega)).trans tZ.o,⟨a3,l3,c3,Dv,uf.o.past S3.o bj⟩,rfl,dp.o⟩);clear Dv bj))
  clear jt ju S3 P3 tZ uf e6 b1 ao HG HQ fk HK HP HF Dr HU dp;by_cases hU:U.1=0;case neg =>
   have ce:=ki (show R=(U.1,[],U.2.2.2) by rw[H.o,if_pos hU]);have he:(V.1 != 0)=true:=by rw[HE.o.2.2.2.2.2.1];simpa using hU
   have lw:=ki HE.o.2.2.2.2.2.1;clear H hU oN;go_wp2;go_ret2;rw[ce.o,lw.o];exact⟨none,0,0,rfl,⟨dL _,Nat.le_refl _,by unfold maxLen;omega⟩,a,cap,tb,aq,lx,ap,HE.o.1,HE.o.2.1,fc.o⟩
  have he:(V.1 != 0)=false:=by rw[HE.o.2.2.2.2.2.1,hU];rfl
  replace HE:=ki (show bA B a cap tb aq lx ap U.2.2.2 bW∧aL (GO B a ah (aO sv l)) w bW∧aB.aI P s d hop k a1 l1 c1 bW∧aJ aM (bg x o.now) bW∧(∃a3 l3 c3,aG Q U.2.1 a3 l3 c3 bW∧aj bW a3 l3 c3 U.2.2.1)∧U.1=0∧U.2.2.2.c=o.c from⟨HE.o.1,HE.o.2.1,HE.o.2.2.1,HE.o.2.2.2.1,HE.o.2.2.2.2.1,hU,HE.o.2.2.2.2.2.2⟩);clear hU;go_upto_region 47 with fail
  clear he;generalize hW:bW=rQ at HE⊢;clear hW;obtain⟨hG,hK,hP,hF,⟨a3,l3,c3,hS,iG⟩,cd,dt⟩:=HE.o;have ce:=ki (show R=(0,gY (el o.c 18) (el x 20) (hop-1) (bT U.2.1 (el x 19) (el x 21)) U.2.2.1,U.2.2.2) by rw[H.o,if_neg (fun h=>h cd)]);have du:=ki (oN.o cd);have x1:=hS.c1;have y1:=hS.aZ 1;have hw:rQ.cell? ⟨aM,19,none⟩=some (.int .i64 (el x 19)):=hF.cell 19 (by omega);obtain⟨a9,a0⟩:=hS.wm (el x 19);have x2:=a9.c2;have y2:=a9.aZ 2;have h5:(rQ.setCell ⟨Q,1,none⟩ (.int .i64 (el x 19))).cell? ⟨aM,21,none⟩=some (.int .i64 (el x 21)):=(World.cell?_of_block (a:=⟨aM,21,none⟩) (a0.2.2.2.2 aM (by have:=dB.o;omega))).trans (hF.cell 21 (by omega));obtain⟨oP,ad⟩:=hS.rR (el x 19) (el x 21);have bb:=ki (hG.other ad ca.o.2 (fun j x=>hS.dP j x));have cg:=ki (hK.own ad (by have:=dq.o;have:=dB.o;omega) (fun j x=>hS.dP j x));have cj:=ki (iG.past hS ad);have tY:=ki (show aB.aI P s d hop k a1 l1 c1 _ from(ad.2.2.2.2 P (by have:=dB.o;omega)).trans hP);have dy:=ki (show aJ aM (bg x o.now) _ from(ad.2.2.2.2 aM (by have:=dB.o;omega)).trans hF);have cm:=ki oP;have h7:=ki dt;clear a9 a0 oP ad hG hK hP hF hS iG cd dt HE H oN;go_upto_region 49 with fail
  clear x1 x2 y1 y2 hw h5;generalize (World.setCell _ _ _).setCell _ _=M at bb cg cj tY dy cm⊢;have h9:=cj.o.1;subst h9;have hh:=Hh.o;have oQ:=ki (show bC (bT U.2.1 (el x 19) (el x 21)) U.2.2.1.length from rT du.o bh.o.1 ((jH _).1 bh.o.2.2));obtain⟨kk,NN,EE,d0,d3⟩:=zB (z:=bT U.2.1 (el x 19) (el x 21)) (D:=U.2.2.1) (s:=el o.c 18) (d:=el x 20) (t:=hop-1) cz.o (by have:=bh.o.2.1;unfold fr at this;rw[Bool.and_eq_true,decide_eq_true_eq,decide_eq_true_eq] at this;exact decide_eq_true this) (decide_eq_true ⟨by omega,by omega⟩) oQ.o;have d4:=ki d0;have d5:=ki d3;have d6:=ki (show 0<(gY (el o.c 18) (el x 20) (hop-1) (bT U.2.1 (el x 19) (el x 21)) U.2.2.1).length from Du _ _ _ _ _);generalize gY (el o.c 18) (el x 20) (hop-1) (bT U.2.1 (el x 19) (el x 21)) U.2.2.1=Y at d5 d6 ce;generalize bT U.2.1 (el x 19) (el x 21)=zz at d4 cm;have ll:IntKind.i64.wrap (hop-1)=hop-1:=by rw[IntKind.wrap_i64];omega
  have HQ:=ki (show ∀W',Below M.heap.size M W'->W'.cell? ⟨B,18,none⟩=some (.int .i64 (el o.c 18))∧W'.cell? ⟨aM,20,none⟩=some (.int .i64 (el x 20))∧W'.cell? ⟨P,16,none⟩=some (.int .i64 hop)∧(j6 (.pointer (some ⟨Q,0,none⟩))).run prog W'=.ok (.agg (aA zz a3 U.2.2.1.length c3)) W' from fun W' hb=>⟨((bb.o.kept hb).1.cellAt 18).trans (by rw[h7.o];rfl),(dy.o.kept hb).cell 20 (by omega),(tY.o.kept hb).hop,(cm.o.kept hb).gl⟩);have J:=ki (show Below M.heap.size M M.drew from(Below.refl _ _).drew);have ia:=ki (cj.o.below J.o);clear d0 d3 oQ du dq dB ca bh cz hh;obtain⟨A,G,L,q4⟩:=HQ.o _ J.o;go_region_held3 (fun W'=>W'.cell? ⟨B,18,none⟩=some (.int .i64 (el o.c 18))∧W'.cell? ⟨aM,20,none⟩=some (.int .i64 (el x 20))∧W'.cell? ⟨P,16,none⟩=some (.int .i64 hop)∧(j6 (.pointer (some ⟨Q,0,none⟩))).run prog W'=.ok (.agg (aA zz a3 U.2.2.1.length c3)) W')
   (first
    | exact HQ.o _ J.o
    | exact HQ.o _ a6.o
    | exact HQ.o _ ax.o
    | go_keep)
   (first|(go_at_call 41;refine(d4.o _ _ _ ia.o).mono ?_;rintro e bW ⟨a4,c4,rfl,r4,ac⟩;have ic:=ki r4;have a6:=ki (bt J.o ac);clear r4 ac A G L q4;obtain⟨A,G,L,q4⟩:=HQ.o _ a6.o)|(go_at_call 40;refine(d5.o _ _ _ ic.o).mono ?_;rintro e lm ⟨ln,rfl,d7,co⟩;obtain⟨lo,lp,rfl,k1,k2,-,-,d8⟩:=d7.form d6.o;have ax:=ki (bt a6.o co);have ih:=ki (And.intro d8 (And.intro k1 k2));clear co d7 d8 k1 k2 A G L q4;obtain⟨A,G,L,q4⟩:=HQ.o _ ax.o))
  all_goals
   clear A G L q4;go_wp2;go_ret2;rw[ce.o];exact⟨_,_,_,rfl,ih.o,a,cap,tb,aq,lx,ap,bb.o.kept ax.o,cg.o.trans (aL.of (O:=fun _=>False) ax.o) (fun _ h=>h.elim),fc.o⟩
end
end Go.Proofs.YtgcojnlngchllaaGreatDoor
