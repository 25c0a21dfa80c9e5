import Derived.Test.YtgcojnlngchllaaGreatDoorJ29
import Derived.Test.YtgcojnlngchllaaGreatDoorJ44
namespace Go.Proofs.YtgcojnlngchllaaGreatDoor
open Go.RowKit Tryz
set_option linter.unusedVariables false
set_option maxRecDepth 100000
set_option maxHeartbeats 40000000
section
variable {B cap:Nat}{a:Option Addr}{w:World}
def qg(w:World)(B:Nat)(O:Nat->Prop)(R:Int×List Int×GS)(e:Ending)(w':World):Prop:=∃a2 l2 c2,e=.returned (.tuple #[.slice a2 l2 c2,.int .i64 R.1])∧(aj w' a2 l2 c2 R.2.1∧l2<=c2∧c2<=maxLen)∧rM w B O R.2.2 w'
theorem bA.no{tb:Nat}{sv:Value}{l:List (Int×Nat)}{ah:Nat->Prop}{g:GS}{w':World}(h:bA B a cap tb sv l ah g w)(hb:Below w.heap.size w w')(E:Int):qg w B (GO B a ah (aO sv l)) (E,[],g) (.returned (.tuple #[.slice none 0 0,.int .i64 E])) w' :=
 ⟨none,0,0,rfl,⟨dL _,Nat.le_refl _,by unfold maxLen;omega⟩,h.still hb⟩
theorem Xm(B:Nat)(b:Option Addr)(len aX:Nat)(E:Int)(w:World)(hE:E≠0)(hD:Calls prog 42 #[.slice b len aX] w fun e w'=>e=.returned (.tuple #[aF.iH,.int .i64 E])∧Below w.heap.size w w'): Calls prog 10 #[.pointer (some ⟨B,0,none⟩),.slice b len aX] w fun e w'=>e=.returned (.tuple #[.slice none 0 0,.int .i64 E])∧Below w.heap.size w w':=by
 have f:=ki hD;have g:=ki (fun W=>aF.bR W);have l:(E != 0)=true:=by simpa using hE
 unfold aF.iH at f;unfold aF.jJ at g;clear hD hE;go_enter func10,ntmps10;go_wp2_with (first|(go_at_call 42;refine f.o.mono ?_;rintro e n ⟨rfl,a⟩;have i:=ki a;clear a)|(refine aF.aK rfl (.tmp 6) (.tmp 15) rfl rfl (g.o _) 0 0 0 0 0 none 0 0 rfl ?_;intro o k d;have h:=ki (bt i.o (bq _ d));clear k d))
 go_ret2;exact⟨rfl,h.o⟩
theorem aG.wm{z:List Int}{len:Nat}(p:aG B z a len cap w)(f:Int):aG B [el z 0,f,el z 2,el z 3,el z 4,el z 5,el z 6] a len cap (w.setCell ⟨B,1,none⟩ (.int .i64 f))∧Only B w (w.setCell ⟨B,1,none⟩ (.int .i64 f)):=by rw[setCell_eq_setRow w B 1 _ _ (0,0) _ p];exact⟨setRow_heap w B _ _ _ (0,0) p,dS _ _ _⟩
theorem bA.other{tb:Nat}{sv:Value}{l:List (Int×Nat)}{ah:Nat->Prop}{g:GS}{w':World}{D:Nat}(h:bA B a cap tb sv l ah g w)(on:Only D w w')(hD:¬GO B a ah (aO sv l) D)(nb:∀j x,w.cell? ⟨D,j,none⟩≠some (.int .u8 x)):bA B a cap tb sv l ah g w' :=
 h.apart (Nat.le_of_eq on.2.2.2.1.symm) (fun k hk=>on.2.2.2.2 k (fun e=>hD (e ▸ hk))) (fun _ _ _ _ r=>r.jh nb on)
attribute [local go_sem ↓] jg gV gy
theorem Xn(B:Nat)(a:Option Addr)(cap tb:Nat)(sv:Value)(l:List (Int×Nat))(ah:Nat->Prop)(g:GS)(b:Option Addr)(len aX:Nat)(s d ttl k i:Int)(l1 c1:Nat)(Z:List Int)(S:Int×List Int×List Int)(w:World)(h:bA B a cap tb sv l ah g w)(hi:fJ g)(hs:eU g)(hls:l.length<=1000)(hh:0<=ttl∧ttl<=255)(hz:S.1=0->bC S.2.1 S.2.2.length∧el S.2.1 0=k)(hD:Calls prog 42 #[.slice b len aX] w fun e w'=>∃a1,e=.returned (.tuple #[aF.pk s d ttl k i a1 l1 c1,.int .i64 0])∧aj w' a1 l1 c1 Z∧Below w.heap.size w w')(hS:∀W a1,aj W a1 l1 c1 Z->Calls prog 43 #[aF.pk s d ttl k i a1 l1 c1] W fun e w'=>∃a2 l2 c2,e=.returned (.tuple #[.agg (aA S.2.1 a2 l2 c2),.int .i64 S.1])∧aj w' a2 l2 c2 S.2.2∧Below W.heap.size W w')(R:Int×List Int×GS)(hR:R=if S.1≠0 then (S.1,[],g) else if ttl<2 then (7,[],g) else kW g s d ttl k S.2.1 S.2.2): Calls prog 10 #[.pointer (some ⟨B,0,none⟩),.slice b len aX] w (qg w B (GO B a ah (aO sv l)) R):=by
 have HD:=ki hD;have HS:=ki hS;have HR:=ki hR;have H0:=ki h;have bX:=ki (fun W=>aF.bR W);have cg:=ki (fun W=>bR W);have ch:=ki (fun W=>fu W);unfold aF.jJ at bX;unfold aN at cg;unfold aV at ch;have Hi:=ki hi;have Hs:=ki hs;have jX:=ki hz;obtain⟨E,z,D⟩:=S;clear hD hS hR h hi hs hz;unfold qg;go_enter func10,ntmps10;go_upto_region 5 with(first|(go_at_call 42;refine HD.o.mono ?_;rintro e w1 ⟨a1,rfl,r1,oQ⟩;have d0:=ki r1;have HB:=ki oQ;clear oQ r1)|(refine aF.aK rfl (.tmp 6) (.tmp 15) rfl rfl (bX.o _) s d ttl k i a1 l1 c1 rfl ?_;intro w2 p2 cm;have d1:=ki (bt HB.o (bq _ cm));have d2:=ki (d0.o.below (bq _ cm));have co:=ki p2;clear p2 cm)|(refine aF.bB rfl (.tmp 6) rfl rfl co.o ?_)|(go_at_call 43;refine(HS.o _ _ d2.o).mono ?_;rintro e w3 ⟨a2,l2,c2,rfl,r3,cq⟩;have d3:=ki r3;have cr:=ki (bt d1.o cq);have cs:=ki (co.o.kept cq);clear r3 cq)|(refine aK rfl (.tmp 8) (.tmp 23) rfl rfl (cg.o _) z a2 l2 c2 rfl ?_;intro w4 p4 b3;have HI:=ki (show kL w w1.heap.size w3.heap.size s d ttl k i a1 l1 c1 z a2 l2 c2 D w4 from⟨cs.o.kept (bq _ b3),p4,d3.o.below (bq _ b3),HB.o.size,cr.o.size,bt cr.o (bq _ b3)⟩);have ct:=ki (show w1.heap.size<w3.heap.size from cs.o.lt);clear p4 b3))
 clear HD HS d0 HB d1 d2 co d3 cr cs bX cg;generalize w1.heap.size=P at HI ct⊢;generalize w3.heap.size=Q at HI ct⊢;by_cases hE:E=0;case neg =>
  have he:(E != 0)=true:=by simpa using hE
  have o:=ki (show R=(E,[],g) by rw[HR.o];exact if_pos hE);clear hE HR;go_wp2;go_ret2;rw[o.o];exact H0.o.no HI.o.2.2.2.2.2 E
 subst hE;have d4:=ki (show bC z D.length∧el z 0=k from jX.o rfl);clear jX;by_cases ht:ttl<2;case pos =>have o:=ki (show R=(7,[],g) by rw[HR.o,if_neg (fun h=>h rfl),if_pos ht]);have K:=HI.o.1.all.2.2.1;clear HR;go_wp2;go_ret2;rw[o.o];exact H0.o.no HI.o.2.2.2.2.2 7
 replace HR:=ki (show R=kW g s d ttl k z D by rw[HR.o,if_neg (fun h=>h rfl),if_neg ht]);have K:=HI.o.1.all.2.2.1;go_upto_region 9 with fail
 clear K;have d5:Below w4.heap.size w4 w4.drew:=(Below.refl _ _).drew;have af:=ki (HI.o.kept d5);have ax:=ki (H0.o.kept af.o.2.2.2.2.2);have lS:=ki (WY ax.o.2.2.1 Hi.o.2.1 (el z 2));have K:w4.drew.cell? ⟨B,23,none⟩=some (.pointer (some ⟨tb,0,none⟩)):=(ax.o.1.cellAt 23).trans rfl;have V:=af.o.2.1.c2;obtain⟨n,hn⟩:∃n,ix (prt g.bs (el z 2))=n:=⟨_,rfl⟩;rw[hn] at lS;have HX:Hid ((prt g.bs (el z 2)=none∧n = -1)∨∃j:Nat,prt g.bs (el z 2)=some j∧n=j):=by
  cases hp:prt g.bs (el z 2) with
  | none=>rw[hp] at hn;exact ki (.inl ⟨rfl,hn.symm⟩)
  | some j=>rw[hp] at hn;exact ki (.inr ⟨j,rfl,hn.symm⟩)
 clear d5 hn HI;go_region_held3 (fun W'=>W'.cell? ⟨B,23,none⟩=some (.pointer (some ⟨tb,0,none⟩))∧W'.cell? ⟨Q,2,none⟩=some (.int .i64 (el z 2)))
  (first
   | exact⟨(ax.o.1.cellAt 23).trans rfl,af.o.2.1.c2⟩
   | go_keep)
  (first|(go_at_call 44;refine lS.o.mono ?_;rintro e w5 ⟨rfl,rfl⟩))
 clear K V lS;generalize w4.drew=W5 at af ax⊢;have K:=af.o.1.all.2.1;have V:W5.cell? ⟨B,18,none⟩=some (.int .i64 (el g.c 18)):=(ax.o.1.cellAt 18).trans rfl;have b5:=ki (fun n=>af.o.kept (W':=World.drewN W5 n) ⟨rfl,rfl,rfl,Nat.le_refl _,fun _ _=>rfl⟩);clear af ax;rcases HX.o with⟨hp,rfl⟩|⟨j,hp,rfl⟩;case inl =>
  have o:=ki (show R=(4,[],g) by rw[HR.o];unfold kW mM;rw[hp]);clear HX hp;go_upto_region 10 with fail
  go_quiet (fail)
  clear K V;go_wp2;go_ret2;rw[o.o];exact H0.o.no (b5.o _).2.2.2.2.2 4
 have d6:=(uW hp).1;have HJ:=ki (And.intro d6 hp);have g7:¬((j:Int)<0):=by omega
 by_cases hd:d=el g.c 18;case neg =>
  have o:=ki (show R=(4,[],g) by
   rw[HR.o];unfold kW;cases mM g.bs k (el z 2) with
   | none=>rfl
   | some j=>exact if_neg (fun h=>hd h.1))
  have d7:(d != el g.c 18)=true:=by simpa using hd
  clear HX hp hd;go_upto_region 10 with fail
  go_quiet (fail)
  clear K V;go_wp2;go_ret2;rw[o.o];exact H0.o.no (b5.o _).2.2.2.2.2 4
 have d7:(d != el g.c 18)=false:=by simpa using hd
 have d8:=ki hd;clear HX hp hd d6;go_upto_region 10 with fail
 go_quiet (fail)
 clear K V d7;generalize hW:World.drewN _ _=W6;have HI:Hid (kL w P Q s d ttl k i a1 l1 c1 z a2 l2 c2 D W6):=by rw[<-hW];exact b5.o _
 clear hW b5;have HG:=ki (H0.o.kept HI.o.2.2.2.2.2);obtain⟨jC,bc,u1,u2,u3,-,-,-,tX,-⟩:=wh HG.o.2.2.1 HJ.o.1;have gx:=qp tX;obtain⟨x,hx⟩:∃x,g.bs.getD j []=x:=⟨_,rfl⟩;rw[hx] at gx;have Hx:=ki hx;have oO:(j:Int)<(g.bs.length:Int):=by have:=HJ.o.1;omega
 have K:W6.cell? ⟨B,23,none⟩=some (.pointer (some ⟨tb,0,none⟩)):=(HG.o.1.cellAt 23).trans rfl;have ea:=ki (show Q<W6.heap.size from HI.o.2.1.lt);have b6:=ki (show(g.bs.length:Int)<=128 by have:=Hi.o.2.1;omega);have cv:=b6.o;clear tX hx HG;go_upto_region 13 with(refine fF rfl (.tmp 10) (.tmp 59) rfl rfl (ch.o _) x rfl ?_;intro w7 p7 ec;replace HI:=ki (HI.o.kept (bq _ ec));have HF:=ki p7;clear p7 ec)
 clear K u1 u2 u3 gx oO cv ch;generalize W6.heap.size=aM at HF ea⊢;have K:=HF.o.cell 0 (by omega);have V:=HI.o.2.1.c0;have q3:=HF.o.cell 20 (by omega);have q4:=HI.o.1.all.1;have q5:=HF.o.cell 21 (by omega);have q6:=HI.o.2.1.c1;have cz:=d4.o.2;rw[cz] at V;by_cases hm:el x 0=k∧el x 20=s∧el x 21=el z 1;case neg =>
  have o:=ki (show R=(4,[],g) by
   rw[HR.o];unfold kW mM;rw[HJ.o.2];dsimp only;rw[Hx.o];by_cases h0:el x 0=k
   ·rw[if_pos h0];dsimp only;rw[Hx.o];exact if_neg (fun h=>hm ⟨h0,h.2.1.symm,h.2.2.symm⟩)
   ·rw[if_neg h0])
  have dt:(el x 0 != k)=true∨((el x 0 != k)=false∧(el x 20 != s)=true)∨((el x 0 != k)=false∧(el x 20 != s)=false∧(el x 21 != el z 1)=true):=by simp only[bne_iff_ne,ne_eq,bne_eq_false_iff_eq];omega
  clear hm HR cz;rcases dt with b7|⟨b7,c9⟩|⟨b7,c9,ed⟩;all_goals
   go_wp2;go_ret2;rw[o.o];exact H0.o.no HI.o.2.2.2.2.2 4
 have o:=ki (show R=oG (g.tab g.ws g.ts (g.bs.set j (bg x g.now))) x ttl z D by rw[HR.o];unfold kW mM;rw[HJ.o.2];dsimp only;rw[Hx.o,if_pos hm.1];dsimp only;rw[Hx.o];exact if_pos ⟨d8.o,hm.2.1.symm,hm.2.2.symm⟩);have b7:(el x 0 != k)=false:=by simpa using hm.1
 have c9:(el x 20 != s)=false:=by simpa using hm.2.1
 have ed:(el x 21 != el z 1)=false:=by simpa using hm.2.2
 clear hm HR cz;go_upto_region 15 with fail
 clear K V q3 q4 q5 q6 b7 c9 ed;have da:Below w7.heap.size w7 w7.drew:=(Below.refl _ _).drew;replace HI:=ki (HI.o.kept da);replace HF:=ki (HF.o.kept da);have HG:=ki (H0.o.kept HI.o.2.2.2.2.2);obtain⟨ee,g8,u1,u2,u3,-,⟨v0,u5⟩,tT,-,u8⟩:=wh HG.o.2.2.1 HJ.o.1;obtain⟨t1,t2⟩:=u8 g.now;rw[Hx.o] at t1;obtain⟨J,g9,k9,s9⟩:=HG.o.tab ⟨ah,t1,t2,fun _ h=>.inl h⟩;have X:=ki g9;have L:=ki k9;have ef:=ki s9;have K:w7.drew.cell? ⟨B,23,none⟩=some (.pointer (some ⟨tb,0,none⟩)):=(HG.o.1.cellAt 23).trans rfl;have V:w7.drew.cell? ⟨B,25,none⟩=some (.int .i64 g.now):=(HG.o.1.cellAt 25).trans rfl;have oO:(j:Int)<(g.bs.length:Int):=by have:=HJ.o.1;omega
 have cv:=b6.o;clear t1 t2 u8 g9 k9 s9 da HG;go_region
 generalize tV:(w7.setCell ⟨ee,j*23+22,none⟩ (.int .i64 g.now)).drew=iA;rw[show w7.drew.setCell ⟨ee,j*23+22,none⟩ (.int .i64 g.now)=iA from tV] at X L;clear tV K V u1 u2 u3 u5 tT oO cv;obtain⟨i1,i2,i3,i4,i5,i6⟩:=HI.o;have eg:=ea.o;have eh:=ct.o;have db:∀q,GO B a ah (aO sv l) q->q<w.heap.size:=fun q hq=>H0.o.lt hq
 have bb:∀q,w.heap.size<=q->¬GO B a ah (aO sv l) q:=fun q h1 h2=>by have:=db q h2;omega
 have hN:∀q,GO B a J (aO sv l) q->GO B a ah (aO sv l) q∨w7.drew.heap.size<=q:=by
  rintro q (h1|h1|h1|h1)
  ·exact .inl (.inl h1)
  ·exact .inl (.inr (.inl h1))
  ·exact(ef.o q h1).imp (fun h=>.inr (.inr (.inl h))) id
  ·exact .inl (.inr (.inr (.inr h1)))
 have b8:∀q,w.heap.size<=q->q<w7.drew.heap.size->¬GO B a J (aO sv l) q:=fun q h1 h2 h3=>by
  rcases hN q h3 with h4|h4
  ·exact bb q h1 h4
  ·omega
 have bd:=ki (show aF.aI P s d ttl k i a1 l1 c1 iA from(L.o.1.2.2.2.2 P i1.lt (bb P i4)).trans i1);have dO:=ki (show aG Q z a2 l2 c2 iA from(L.o.1.2.2.2.2 Q i2.lt (bb Q i5)).trans i2);have b9:=ki (L.o.2 _ _ _ _ i3);have az:=ki (show aJ aM x iA from(L.o.1.2.2.2.2 aM HF.o.lt (bb aM (by omega))).trans HF.o);have ab:=ki (show ¬GO B a J (aO sv l) P∧¬GO B a J (aO sv l) Q∧¬GO B a J (aO sv l) aM from⟨b8 P i4 i1.lt,b8 Q i5 i2.lt,b8 aM (by omega) HF.o.lt⟩);have ca:=ki (show ∀q,GO B a J (aO sv l) q->GO B a ah (aO sv l) q∨w.heap.size<=q from fun q hq=>(hN q hq).imp id (fun h=>Nat.le_trans i6.size h));replace L:=ki (show aL (GO B a ah (aO sv l)) w iA from(aL.of i6).trans L.o (fun _ h=>.inl h));have H:=ki (show w.heap.size<=P∧P<Q∧Q<aM from⟨i4,eh,eg⟩);have M:=ki (show aW x=true∧aH (dst x)∧aH (cli x)∧(0<=el x 18∧el x 18<=65535)∧(0<=el x 9∧el x 9<=65535) from by
  have fg:x∈g.bs:=by rw[<-Hx.o,List.getD_eq_getElem?_getD,List.getElem?_eq_getElem HJ.o.1];exact List.getElem_mem HJ.o.1
  have hf:=(Hi.o.2.2.1.1 _ fg).1;have a0:=hf;unfold aW at a0;simp only[Bool.and_eq_true] at a0;exact⟨hf,(fE _).1 a0.1.1.2,(fE _).1 a0.1.1.1.2,(jH _).1 a0.2,(jH _).1 a0.1.2⟩)
 generalize hg':g.tab g.ws g.ts (g.bs.set j (bg x g.now))=g' at X o;have cb:=ki (show eU g' from by have:=Hs.o;unfold eU at this⊢;rw[<-hg'];exact this);have a5:=ki (fun h0=>I9 (g:=g') (b:=x) (z:=z) (D:=D) cb.o d4.o.1 h0);have ac:=ki (Dt B a cap tb sv l J g' (el x 19) iA X.o hls);unfold oG at o;have A:cZ g' x z D=match bH g'.ss (el x 19) with|none=>(0,z,D,g')|some st=>((eF st.2.1 st.2.2.1 st.2.2.2 z D).1,(eF st.2.1 st.2.2.1 st.2.2.2 z D).2.1,(eF st.2.1 st.2.2.1 st.2.2.2 z D).2.2.1,g'.str (sup (el x 19) (st.1,(eF st.2.1 st.2.2.1 st.2.2.2 z D).2.2.2) g'.ss)):=by unfold cZ;cases bH g'.ss (el x 19)<;>rfl
 generalize cZ g' x z D=U at a5 o A;have ei:=az.o.cell 19 (by omega);clear hg' i1 i2 i3 i4 i5 i6 eg eh db bb hN b8 HF HI ef HJ Hx d8;cases hsf:bH g'.ss (el x 19) with
 | none =>
  rw[hsf] at A;replace A:U=(0,z,D,g'):=A;replace ac:=ki (ac.o.mono fun e w' h=>show e=.returned (.pointer none)∧w'=iA from by
   obtain⟨h1|⟨y,hy,e1,h1⟩,h2⟩:=h
   ·exact⟨h1.2,h2⟩
   ·obtain⟨st,e2,_⟩:=X.o.2.2.2.1.2.1 y hy;rw[e1,hsf] at e2;cases e2)
  clear hsf;go_upto_region 21 with(go_at_call 38;refine ac.o.mono ?_;rintro e dd ⟨rfl,ag⟩;rw[ag];clear ag dd)
  have hU:U.1=0:=by rw[A]
  have dB:=ki (show R=(0,jd (dst x) (cli x) (ttl-1) (bT U.2.1 (el x 18) (el x 9)) U.2.2.1,U.2.2.2) by rw[o.o,if_neg (fun h=>h hU)]);have G:=ki (show bA B a cap tb sv l J U.2.2.2 iA by rw[A];exact X.o);have f:=ki (show aG Q U.2.1 a2 l2 c2 iA by rw[A];exact dO.o);have I:=ki (show aj iA a2 l2 c2 U.2.2.1 by rw[A];exact b9.o);have N:=L;have T:=bd;have F:=az;clear o A X dO b9 L bd az ei;generalize Cv:iA=yZ at G f I N T F⊢;clear Cv;have be:=ki (a5.o hU);have x1:=f.o.c1;have y1:=f.o.aZ 1;have de:=F.o.cell 18 (by omega);obtain⟨bW,am⟩:=f.o.wm (el x 18);have x2:=bW.c2;have y2:=bW.aZ 2;have rW:(yZ.setCell ⟨Q,1,none⟩ (.int .i64 (el x 18))).cell? ⟨aM,9,none⟩=some (.int .i64 (el x 9)):=(World.cell?_of_block (a:=⟨aM,9,none⟩) (am.2.2.2.2 aM (by have:=H.o;omega))).trans (F.o.cell 9 (by omega));obtain⟨iG,v⟩:=f.o.rR (el x 18) (el x 9);have an:=ki (G.o.other v ab.o.2.1 (fun j x=>f.o.dP j x));have ao:=ki (N.o.own v (by have:=H.o;omega) (fun j x=>f.o.dP j x));have ap:=ki (I.o.past f.o v);have bh:=ki (show aF.aI P s d ttl k i a1 l1 c1 _ from(v.2.2.2.2 P (by have:=H.o;omega)).trans T.o);have aq:=ki (show aJ aM x _ from(v.2.2.2.2 aM (by have:=H.o;omega)).trans F.o);have ar:=ki iG;clear bW am iG v G N I T F f;go_upto_region 23 with fail
  clear x1 x2 y1 y2 de rW;generalize (World.setCell _ _ _).setCell _ _=bi at an ao ap bh aq ar⊢;have df:=ap.o.1;subst df;have bj:=ki (show bC (bT U.2.1 (el x 18) (el x 9)) U.2.2.1.length from rT be.o.1 M.o.2.2.2.1 M.o.2.2.2.2);obtain⟨kk,NN,EE,bm,fT⟩:=Cn (z:=bT U.2.1 (el x 18) (el x 9)) (D:=U.2.2.1) (s:=dst x) (d:=cli x) (t:=ttl-1) M.o.2.1 M.o.2.2.1 (decide_eq_true ⟨by omega,by omega⟩) bj.o;have bp:=ki bm;have gW:=ki fT;have br:=ki (show 0<(jd (dst x) (cli x) (ttl-1) (bT U.2.1 (el x 18) (el x 9)) U.2.2.1).length from yQ _ _ _ _ _);generalize jd (dst x) (cli x) (ttl-1) (bT U.2.1 (el x 18) (el x 9)) U.2.2.1=Y at gW br dB;generalize bT U.2.1 (el x 18) (el x 9)=zz at bp ar;have gc:IntKind.i64.wrap (ttl-1)=ttl-1:=by rw[IntKind.wrap_i64];omega
  clear bm fT bj be M a5 H ab ac cb Hs Hi b6 hU;have K:=aq.o.hd;have V:=aq.o.hc;have q3:=bh.o.all.2.2.1;have q5:=ar.o.gl;go_wp2_with (first|(go_at_call 47;refine(bp.o _ _ _ ap.o).mono ?_;rintro e ad ⟨a4,c4,rfl,r4,bw⟩;have lU:=ki r4;have b2:=ki bw;clear r4 bw K V q3 q5)|(go_at_call 46;refine(gW.o _ _ _ lU.o).mono ?_;rintro e gd ⟨ge,rfl,bz,dZ⟩;obtain⟨gf,gg,rfl,k1,k2,-,-,b0⟩:=bz.form br.o;have dR:=ki (bt b2.o dZ);have dk:=ki (And.intro b0 (And.intro k1 k2));clear dZ bz b0 k1 k2))
  go_ret2;rw[dB.o];exact⟨_,_,_,rfl,dk.o,a,cap,tb,sv,l,J,an.o.kept dR.o,ao.o.trans (aL.of (O:=fun _=>False) dR.o) (fun _ h=>h.elim),ca.o⟩
 | some st =>
  rw[hsf] at A;dsimp only at A;have ej:=(cb.o _ (jA hsf)).2;have dl:=ki (fun W C (p:ST 101 C st.1 st.2.1 st.2.2.1 st.2.2.2 W) (r:aj W a2 l2 c2 D)=>Tg C st.1 st.2.1 st.2.2.1 st.2.2.2 z a2 l2 c2 D W p ej r);have ek:=ki (fun (y:Int×Nat) (hy:y∈l) (e1:y.1=el x 19)=>show ST 101 y.2 st.1 st.2.1 st.2.2.1 st.2.2.2 iA from by obtain⟨ha,e2,h2⟩:=X.o.2.2.2.1.2.1 y hy;rw[e1,hsf] at e2;cases e2;exact h2);replace ac:=ki (ac.o.mono fun e w' h=>show(∃y,y∈l∧y.1=el x 19∧e=.returned (.pointer (some ⟨y.2,0,none⟩)))∧w'=iA from by
   obtain⟨⟨h1,_⟩|h1,h2⟩:=h
   ·rw[hsf] at h1;cases h1
   ·exact⟨h1,h2⟩)
  generalize eF st.2.1 st.2.2.1 st.2.2.2 z D=O at dl A;replace A:U=(O.1,O.2.1,O.2.2.1,g'.str (sup (el x 19) (st.1,O.2.2.2) g'.ss)):=A;have HU:=ki A;have zC:=dO.o.gl;clear hsf ej A;go_upto_region 19 with(first|(go_at_call 38;refine ac.o.mono ?_;rintro e dd ⟨⟨y,hy,ey,rfl⟩,ag⟩;rw[ag];clear ag dd;have kY:=ki (And.intro hy ey);clear hy ey)|(go_at_call 45;refine(dl.o _ _ (ek.o y kY.o.1 kY.o.2) b9.o).mono ?_;rintro e bi ⟨a3,l3,c3,rfl,r3,em,u3⟩;obtain⟨g3,k3⟩:=X.o.turn kY.o.1 u3 (st:=(st.1,O.2.2.2)) em;rw[kY.o.2] at g3;have ep:=ki g3;have eq:=ki (L.o.trans k3 ca.o);have S3:=ki (show aG Q z a2 l2 c2 bi from(k3.1.2.2.2.2 Q dO.o.lt ab.o.2.1).trans dO.o);have P3:=ki (show aF.aI P s d ttl k i a1 l1 c1 bi from(k3.1.2.2.2.2 P bd.o.lt ab.o.1).trans bd.o);have tZ:=ki (show aJ aM x bi from(k3.1.2.2.2.2 aM az.o.lt ab.o.2.2).trans az.o);have uf:=ki r3;clear g3 k3 r3 em u3 zC)|(refine aK rfl (.tmp 8) (.tmp 104) rfl rfl S3.o O.2.1 a3 l3 c3 rfl ?_;intro ad er aa;have G:=ki (ep.o.other aa ab.o.2.1 (fun j x=>S3.o.dP j x));have N:=ki (eq.o.own aa (by have:=H.o;omega) (fun j x=>S3.o.dP j x));have I:=ki (uf.o.past S3.o aa);have T:=ki (show aF.aI P s d ttl k i a1 l1 c1 ad from(aa.2.2.2.2 P (by have:=H.o;omega)).trans P3.o);have F:=ki (show aJ aM x ad from(aa.2.2.2.2 aM (by have:=H.o;omega)).trans tZ.o);have f:=ki er;clear er aa))
  clear ep eq S3 P3 tZ uf ek dl ac X dO b9 L bd az ei;have e1:O.1=U.1:=by rw[HU.o]
  replace G:=ki (show bA B a cap tb sv l J U.2.2.2 ad by rw[HU.o];exact G.o);replace f:=ki (show aG Q U.2.1 a3 l3 c3 ad by rw[HU.o];exact f.o);replace I:=ki (show aj ad a3 l3 c3 U.2.2.1 by rw[HU.o];exact I.o);by_cases hU:U.1=0;case neg =>
   have dB:=ki (show R=(U.1,[],U.2.2.2) by rw[o.o,if_pos hU]);have he:(O.1 != 0)=true:=by rw[e1];simpa using hU
   have gp:=ki e1;clear o hU a5 M e1;go_wp2;go_ret2;rw[dB.o,gp.o];exact⟨none,0,0,rfl,⟨dL _,Nat.le_refl _,by unfold maxLen;omega⟩,a,cap,tb,sv,l,J,G.o,N.o,ca.o⟩
  have dB:=ki (show R=(0,jd (dst x) (cli x) (ttl-1) (bT U.2.1 (el x 18) (el x 9)) U.2.2.1,U.2.2.2) by rw[o.o,if_neg (fun h=>h hU)]);have he:(O.1 != 0)=false:=by rw[e1,hU];rfl
  clear o HU e1;go_upto_region 21 with fail
  clear he;generalize Cv:ad=yZ at G f I N T F⊢;clear Cv;have be:=ki (a5.o hU);have x1:=f.o.c1;have y1:=f.o.aZ 1;have de:=F.o.cell 18 (by omega);obtain⟨bW,am⟩:=f.o.wm (el x 18);have x2:=bW.c2;have y2:=bW.aZ 2;have rW:(yZ.setCell ⟨Q,1,none⟩ (.int .i64 (el x 18))).cell? ⟨aM,9,none⟩=some (.int .i64 (el x 9)):=(World.cell?_of_block (a:=⟨aM,9,none⟩) (am.2.2.2.2 aM (by have:=H.o;omega))).trans (F.o.cell 9 (by omega));obtain⟨iG,v⟩:=f.o.rR (el x 18) (el x 9);have an:=ki (G.o.other v ab.o.2.1 (fun j x=>f.o.dP j x));have ao:=ki (N.o.own v (by have:=H.o;omega) (fun j x=>f.o.dP j x));have ap:=ki (I.o.past f.o v);have bh:=ki (show aF.aI P s d ttl k i a1 l1 c1 _ from(v.2.2.2.2 P (by have:=H.o;omega)).trans T.o);have aq:=ki (show aJ aM x _ from(v.2.2.2.2 aM (by have:=H.o;omega)).trans F.o);have ar:=ki iG;clear bW am iG v G N I T F f;go_upto_region 23 with fail
  clear x1 x2 y1 y2 de rW;generalize (World.setCell _ _ _).setCell _ _=bi at an ao ap bh aq ar⊢;have df:=ap.o.1;subst df;have bj:=ki (show bC (bT U.2.1 (el x 18) (el x 9)) U.2.2.1.length from rT be.o.1 M.o.2.2.2.1 M.o.2.2.2.2);obtain⟨kk,NN,EE,bm,fT⟩:=Cn (z:=bT U.2.1 (el x 18) (el x 9)) (D:=U.2.2.1) (s:=dst x) (d:=cli x) (t:=ttl-1) M.o.2.1 M.o.2.2.1 (decide_eq_true ⟨by omega,by omega⟩) bj.o;have bp:=ki bm;have gW:=ki fT;have br:=ki (show 0<(jd (dst x) (cli x) (ttl-1) (bT U.2.1 (el x 18) (el x 9)) U.2.2.1).length from yQ _ _ _ _ _);generalize jd (dst x) (cli x) (ttl-1) (bT U.2.1 (el x 18) (el x 9)) U.2.2.1=Y at gW br dB;generalize bT U.2.1 (el x 18) (el x 9)=zz at bp ar;have gc:IntKind.i64.wrap (ttl-1)=ttl-1:=by rw[IntKind.wrap_i64];omega
  clear bm fT bj be M a5 H ab cb Hs Hi b6 hU;have K:=aq.o.hd;have V:=aq.o.hc;have q3:=bh.o.all.2.2.1;have q5:=ar.o.gl;go_wp2_with (first|(go_at_call 47;refine(bp.o _ _ _ ap.o).mono ?_;rintro e ad ⟨a4,c4,rfl,r4,bw⟩;have lU:=ki r4;have b2:=ki bw;clear r4 bw K V q3 q5)|(go_at_call 46;refine(gW.o _ _ _ lU.o).mono ?_;rintro e gd ⟨ge,rfl,bz,dZ⟩;obtain⟨gf,gg,rfl,k1,k2,-,-,b0⟩:=bz.form br.o;have dR:=ki (bt b2.o dZ);have dk:=ki (And.intro b0 (And.intro k1 k2));clear dZ bz b0 k1 k2))
  go_ret2;rw[dB.o];exact⟨_,_,_,rfl,dk.o,a,cap,tb,sv,l,J,an.o.kept dR.o,ao.o.trans (aL.of (O:=fun _=>False) dR.o) (fun _ h=>h.elim),ca.o⟩
end
section
theorem Ki{k over:Int}{zs:List Int}(h:(iw k over zs).1=0):bC (iw k over zs).2.1 (iw k over zs).2.2.length∧el (iw k over zs).2.1 0=k:=by
 cases hk:kn k
 ·have e:iw k over zs=(2,[],[]):=if_pos hk;rw[e] at h;cases h
 ·rw[Cu hk] at h⊢;exact⟨(BU h).1,(BU h).2.1⟩
theorem Xo(B:Nat)(a:Option Addr)(cap tb:Nat)(sv:Value)(l:List (Int×Nat))(ah:Nat->Prop)(g:GS)(b:Option Addr)(len aX:Nat)(zs:List Int)(w:World)(h:bA B a cap tb sv l ah g w)(hi:fJ g)(hs:eU g)(hls:l.length<=1000)(hr:aj w b len aX zs)(hcl:len<=aX)(hcm:aX<=maxLen): Calls prog 10 #[.pointer (some ⟨B,0,none⟩),.slice b len aX] w (qg w B (GO B a ah (aO sv l)) (g4 g zs)):=by
 have i:=Xl b len aX zs w hr hcl hcm;have hl:=hr.1;have k:=hr.2.2.1;by_cases hG:P4.Good zs
 ·have n:(zs.drop 20).length=len-20:=by rw[List.length_drop,hl]
  have q:=hG.1.1;have o:=hG.1.2.1;refine Xn B a cap tb sv l ah g b len aX (P4.src zs) (P4.dst zs) (zs.getD 8 0) (zs.getD 9 0) (P4.wd zs 4) (len-20) (aX-20) (zs.drop 20) (iw (zs.getD 9 0) (o4 (P4.src zs) (P4.dst zs) (zs.getD 9 0) ((len-20:Nat):Int)) (zs.drop 20)) w h hi hs hls (k 8) (fun h0=>Ki h0) (i.mono ?_) (fun W a1 r=>?_) _ ?_
  ·rintro e w' ⟨⟨d,_⟩|⟨_,p,d,h4⟩,f⟩
   ·exact absurd hG d
   ·exact⟨p,d,h4,f⟩
  ·exact WU (P4.src zs) (P4.dst zs) (zs.getD 8 0) (zs.getD 9 0) (P4.wd zs 4) a1 (len-20) (aX-20) (zs.drop 20) W r (by omega) (by omega) (aF.wV zs k o) (by omega)
  ·unfold g4;rw[if_neg (fun h=>h hG)];have e:gU zs=iQ (zs.getD 9 0) (o4 (P4.src zs) (P4.dst zs) (zs.getD 9 0) ((len-20:Nat):Int)) (zs.getD 8 0) (zs.drop 20):=by unfold gU;rw[n]
   rw[e,J5];generalize iw (zs.getD 9 0) (o4 (P4.src zs) (P4.dst zs) (zs.getD 9 0) ((len-20:Nat):Int)) (zs.drop 20)=S;by_cases d:S.1≠0
   ·rw[if_pos d,if_pos d,if_pos d]
   ·rw[if_neg d,if_neg d];by_cases h4:zs.getD 8 0<2
    ·rw[if_pos h4,if_pos h4,if_pos (by decide)]
    ·rw[if_neg h4,if_neg h4,if_neg d]
 ·have e:g4 g zs=(e4 zs,[],g):=by unfold g4;exact if_pos hG
  rw[e];refine(Xm B b len aX (e4 zs) w (IV zs) (i.mono ?_)).mono fun r w' ⟨e1,e2⟩=>by rw[e1];exact h.no e2 _
  rintro e w' ⟨⟨_,d⟩|⟨d,_⟩,f⟩
  ·exact⟨d,f⟩
  ·exact absurd d hG
end
section
theorem bA.make{B:Nat}{a:Option Addr}{cap tb:Nat}{sv:Value}{l:List (Int×Nat)}{ah:Nat->Prop}{g:GS}{W W1:World}(h:bA B a cap tb sv l ah g W)(hk:aL (fun k=>sv.ownBlock=some k) W W1){gB:Value}{l':List (Int×Nat)}{ss':List (Int×List Int×Int×Bool×Bool)}(hS:lN gB l' ss' W1)(hd:∀k,aO gB l' k->k≠B∧¬kH a k∧¬ah k): bA B a cap tb gB l' ah (g.str ss') (W1.setCell ⟨B,24,none⟩ gB)∧aL (GO B a ah (aO sv l)) W (W1.setCell ⟨B,24,none⟩ gB):=by
 obtain⟨d,o,t⟩:=h.2.2.2.2;have f:fQ B g.c g.inj a g.bk.length cap tb sv g.now W1:=h.1.same (hk.1.2.2.2.2 B h.1.lt (fun e=>d.2.2 (.inl e)));obtain⟨v,w,es,_⟩:=h.2.2.2.1.1.shape;have nb:∀j x,W1.cell? ⟨B,j,none⟩≠some (.int .u8 x):=by have q:=f;unfold fQ at q;rw[es] at q;exact fun j x=>jO q (J9 _ _ _ _ _ _ _ _ _ _) j x
 obtain⟨p,b⟩:fQ B g.c g.inj a g.bk.length cap tb gB g.now (W1.setCell ⟨B,24,none⟩ gB)∧Only B W1 (W1.setCell ⟨B,24,none⟩ gB):=by have q:=f;unfold fQ at q;rw[setCell_eq_setRow W1 B 24 _ _ (0,0) _ q];exact⟨setRow_heap W1 B _ _ _ (0,0) q,dS _ _ _⟩
 generalize W1.setCell ⟨B,24,none⟩ gB=w' at p b⊢;have hs:∀k,k≠B->w'.heap[k]? = W1.heap[k]?:=b.2.2.2.2;have s:∀a n c zs,aj W1 a n c zs->aj w' a n c zs:=fun _ _ _ _ r=>r.jh nb b
 have i:∀k,k<W.heap.size->k≠B->sv.ownBlock≠some k->w'.heap[k]? = W.heap[k]?:=fun k h1 h2 h3=>(hs k h2).trans (hk.1.2.2.2.2 k h1 h3)
 refine⟨⟨p,⟨h.2.1.1.same (fun k q=>i k (h.2.1.2.1 k q) (fun e=>d.1 (by rw[<-e];exact q)) (fun e=>(o k q).2 (.inl e))),fun k q=>by rw[b.2.2.2.1];exact Nat.lt_of_lt_of_le (h.2.1.2.1 k q) hk.size,h.2.1.2.2⟩,h.2.2.1.same (fun k q=>i k (h.2.2.1.lt k q) (fun e=>d.2.1 (by rw[<-e];exact q)) (fun e=>t k q (.inl e))),hS.same (fun k q=>hs k (hd k q).1) s,⟨d.1,d.2.1,fun q=>(hd B q).1 rfl⟩,fun k q=>⟨(o k q).1,fun q'=>(hd k q').2.1 q⟩,fun k q q'=>(hd k q').2.2 q⟩,?_⟩;refine(hk.mono (O':=GO B a ah (aO sv l)) (fun k q=>.inr (.inr (.inr (.inl q))))).trans (O':=fun k=>k=B) ⟨⟨b.1,b.2.1,b.2.2.1,by rw[b.2.2.2.1];exact Nat.le_refl _,fun k _ hn=>hs k hn⟩,s⟩ (fun k q=>.inl (.inl q))
theorem za{p q:Int}{st:List Int×Int×Bool×Bool}{ss:List (Int×List Int×Int×Bool×Bool)}:bH ((p,st)::ss) q=if p=q then some st else bH ss q:=by
 unfold bH;rw[List.find?_cons];by_cases e:p=q
 ·rw[if_pos e,show((p,st).1 == q)=true from beq_iff_eq.2 e];rfl
 ·rw[if_neg e,show((p,st).1 == q)=false from beq_eq_false_iff_ne.2 e]
theorem bA.app{B:Nat}{a:Option Addr}{cap tb:Nat}{sv:Value}{l:List (Int×Nat)}{ah:Nat->Prop}{g:GS}{W W1:World}(h:bA B a cap tb sv l ah g W){p:Int}{C:Nat}{st:List Int×Int×Bool×Bool}(hp:bH g.ss p=none)(hC:ST 101 C st.1 st.2.1 st.2.2.1 st.2.2.2 W)(hn:¬GO B a ah (aO sv l) C){jC cp:Nat}(o:gD W1 (.slice (some ⟨jC,0,none⟩) (l.length+1) cp) (l++[(p,C)]))(hg:W.grownBy W1 sv.ownBlock)(hl:sv.ownBlock=some jC∨jC=W.heap.size): bA B a cap tb (.slice (some ⟨jC,0,none⟩) (l.length+1) cp) (l++[(p,C)]) ah (g.str ((p,st)::g.ss)) (W1.setCell ⟨B,24,none⟩ (.slice (some ⟨jC,0,none⟩) (l.length+1) cp))∧aL (GO B a ah (aO sv l)) W (W1.setCell ⟨B,24,none⟩ (.slice (some ⟨jC,0,none⟩) (l.length+1) cp))∧∀k,aO (.slice (some ⟨jC,0,none⟩) (l.length+1) cp) (l++[(p,C)]) k->aO sv l k∨k=C∨k=W.heap.size:=by
 obtain⟨z,A,D⟩:=h.2.2.2.2;have t:Fr (fun k=>sv.ownBlock=some k) W W1:=⟨hg.os,hg.tape,hg.output,hg.size,fun k hk hn=>hg.block k hk (fun e=>hn e.symm)⟩;have hk:aL (fun k=>sv.ownBlock=some k) W W1:=⟨t,fun _ _ _ _ r=>r.fr t h.2.2.2.1.1.2⟩;have v:∀k,aO (.slice (some ⟨jC,0,none⟩) (l.length+1) cp) (l++[(p,C)]) k->aO sv l k∨k=C∨k=W.heap.size:=fun k q=>by
  rcases q with q|⟨x,hx,e⟩
  ·injection q with q
   rcases hl with h1|h1
   ·exact .inl (.inl (by rw[h1];exact congrArg some q))
   ·exact .inr (.inr (q.symm.trans h1))
  ·rcases List.mem_append.1 hx with hx|hx
   ·exact .inl (.inr ⟨x,hx,e⟩)
   ·rw[List.mem_singleton.1 hx] at e;exact .inr (.inl e)
 have f:∀y hd s b hh,ST 101 y hd s b hh W->ST 101 y hd s b hh W1:=fun y hd s b hh q=>by
  obtain⟨x,n,c,i,E,F⟩:=q;refine⟨x,n,c,(hg.block y i.lt (fun e=>?_)).trans i,hk.2 _ _ _ _ E,F⟩;obtain⟨I,h1⟩:=pV h.2.2.2.1.1.1 y e.symm;unfold dF at i;rw[i] at h1;injection h1 with h1
  injection h1 with _ h1
  cases h1
 have w:∀x∈l,x.1≠p:=fun x hx e=>by obtain⟨st',d,_⟩:=h.2.2.2.1.2.1 x hx;rw[e,hp] at d;cases d
 have G:lN (.slice (some ⟨jC,0,none⟩) (l.length+1) cp) (l++[(p,C)]) ((p,st)::g.ss) W1:=by
  refine⟨o,fun x hx=>?_,fun q st' hq=>?_,?_⟩
  ·rcases List.mem_append.1 hx with hx|hx
   ·obtain⟨st',d,h1⟩:=h.2.2.2.1.2.1 x hx;exact⟨st',by rw[za,if_neg (fun e=>w x hx e.symm)];exact d,f _ _ _ _ _ h1⟩
   ·rw[List.mem_singleton.1 hx];exact⟨st,by rw[za,if_pos rfl],f _ _ _ _ _ hC⟩
  ·rw[za] at hq;by_cases e:p=q
   ·exact⟨(p,C),List.mem_append.2 (.inr (List.mem_singleton.2 rfl)),e⟩
   ·rw[if_neg e] at hq;obtain⟨x,hx,d⟩:=h.2.2.2.1.2.2.1 q st' hq;exact⟨x,List.mem_append.2 (.inl hx),d⟩
  ·refine List.pairwise_append.2 ⟨h.2.2.2.1.2.2.2,List.pairwise_singleton _ _,fun x hx y hy=>?_⟩;rw[List.mem_singleton.1 hy];exact⟨w x hx,fun e=>hn (.inr (.inr (.inr (.inr ⟨x,hx,e.symm⟩))))⟩
 obtain⟨r1,H⟩:=h.make hk G (fun k q=>by
  rcases v k q with h1|h1|h1
  ·exact⟨fun e=>z.2.2 (by rw[<-e];exact h1),fun h2=>(A k h2).2 h1,fun h2=>D k h2 h1⟩
  ·exact⟨fun e=>hn (.inl (by rw[<-h1];exact e)),fun h2=>hn (.inr (.inl (by rw[<-h1];exact h2))),fun h2=>hn (.inr (.inr (.inl (by rw[<-h1];exact h2))))⟩
  ·refine⟨fun e=>?_,fun h2=>?_,fun h2=>?_⟩
   ·have:=h.1.lt;omega
   ·have:=h.2.1.2.1 k h2;omega
   ·have:=h.2.2.1.lt k h2;omega)
 exact⟨r1,H,v⟩
end
section
theorem Xp(B:Nat)(b:Option Addr)(len aX:Nat)(E:Int)(w:World)(hE:E≠0)(hD:Calls prog 31 #[.slice b len aX] w fun e w'=>e=.returned (.tuple #[aB.iH,.int .i64 E])∧Below w.heap.size w w'): Calls prog 9 #[.pointer (some ⟨B,0,none⟩),.slice b len aX] w fun e w'=>e=.returned (.tuple #[.slice none 0 0,.int .i64 E])∧Below w.heap.size w w':=by
 have f:=ki hD;have g:=ki (fun W=>aB.bR W);have l:(E != 0)=true:=by simpa using hE
 unfold aB.iH at f;unfold aB.dH at g;clear hD hE;go_enter func9,ntmps9;go_wp2_with (first|(go_at_call 31;refine f.o.mono ?_;rintro e n ⟨rfl,a⟩;have i:=ki a;clear a)|(refine aB.aK rfl (.tmp 6) (.tmp 27) rfl rfl (g.o _) [] [] 0 0 none 0 0 rfl ?_;intro o k d;have h:=ki (bt i.o (bq _ d));clear k d))
 go_ret2;exact⟨rfl,h.o⟩
theorem Kj(B:Nat)(b:Option Addr)(len aX:Nat)(s d:List Int)(hop k:Int)(l1 c1:Nat)(Z:List Int)(S:Int×List Int×List Int)(w:World)(hD:Calls prog 31 #[.slice b len aX] w fun e w'=>∃a1,e=.returned (.tuple #[aB.pk s d hop k a1 l1 c1,.int .i64 0])∧aj w' a1 l1 c1 Z∧Below w.heap.size w w')(hS:∀W a1,aj W a1 l1 c1 Z->Calls prog 32 #[aB.pk s d hop k a1 l1 c1] W fun e w'=>∃a2 l2 c2,e=.returned (.tuple #[.agg (aA S.2.1 a2 l2 c2),.int .i64 S.1])∧aj w' a2 l2 c2 S.2.2∧Below W.heap.size W w')(E:Int)(hE:(S.1≠0∧E=S.1)∨(S.1=0∧hop<2∧E=7)): Calls prog 9 #[.pointer (some ⟨B,0,none⟩),.slice b len aX] w fun e w'=>e=.returned (.tuple #[.slice none 0 0,.int .i64 E])∧Below w.heap.size w w':=by
 have A:=ki hD;have C:=ki hS;have x:=ki hE;have y:=ki (fun W=>aB.bR W);have f:=ki (fun W=>bR W);unfold aB.dH at y;unfold aN at f;obtain⟨F,z,D⟩:=S;clear hD hS hE;go_enter func9,ntmps9;go_upto_region 5 with(first|(go_at_call 31;refine A.o.mono ?_;rintro e L ⟨a1,rfl,r1,n⟩;have o:=ki r1;have G:=ki n;clear n r1)|(refine aB.aK rfl (.tmp 6) (.tmp 27) rfl rfl (y.o _) s d hop k a1 l1 c1 rfl ?_;intro M H g;have p:=ki (bt G.o (bq _ g));have q:=ki (o.o.below (bq _ g));have h:=ki H;clear H g)|(refine aB.bB rfl (.tmp 6) rfl rfl h.o ?_)|(go_at_call 32;refine(C.o _ _ q.o).mono ?_;rintro e N ⟨a2,l2,c2,rfl,J,i⟩;have r:=ki (bt p.o i);have t:=ki (h.o.kept i);clear J i)|(refine aK rfl (.tmp 8) (.tmp 35) rfl rfl (f.o _) z a2 l2 c2 rfl ?_;intro O K l;have I:=ki (t.o.kept (bq _ l));have v:=ki (bt r.o (bq _ l));clear K l))
 clear A C o G p q h r t y f;rcases x.o with⟨hE,rfl⟩|⟨hE,ht,rfl⟩
 ·have P:(E != 0)=true:=by simpa using hE
  clear hE x;go_wp2;go_ret2;exact⟨rfl,v.o⟩
 ·replace hE:F=0:=hE;subst hE;clear x;have Q:=I.o.hop;go_wp2;go_ret2;exact⟨rfl,v.o⟩
end
section
theorem Xq{a b p:List Int}{n:Int}(h:∀j,j<8->el a j=el b j):aQ.eT a p n=aQ.eT b p n:=by
 have d:∀j,j<8->aQ.iq a n j=aQ.iq b n j:=fun j hj=>by
  have e:∀z,aQ.el z j=el z j:=fun z=>rfl
  unfold aQ.iq;rw[e,e,h j hj]
 rw[Bool.eq_iff_iff];unfold aQ.eT;rw[List.all_eq_true,List.all_eq_true];exact⟨fun h1 j hj=>by rw[<-d j (List.mem_range.1 hj)];exact h1 j hj,fun h1 j hj=>by rw[d j (List.mem_range.1 hj)];exact h1 j hj⟩
theorem Ko{c f:List Int}(h1:dn (dst f) (dA c)=true)(h2:el f 18≠el c 8)(hv:aQ.eT (dA c) (pfx c) (el c 17)=false):aU c f=(4,false,0):=by unfold aU;rw[if_neg (fun h=>h2 h.2),if_neg (fun h=>by rw[Xq ((sJ _ _).1 h1),hv] at h;cases h.1)]
theorem Kq(z:List Int)(n:Int)(w:World)(h:aH z)(hn0:aQ.eY n):Calls prog 33 #[.agg (av z),.int .i64 n] w fun e w'=>e=.returned (.tuple #[.int .i64 (j4 z n).1,.int .i64 (j4 z n).2])∧Below w.heap.size w w':=by obtain⟨q,rfl,a,_,h12⟩:=aQ.qo hn0;refine(aQ.TH z q w h hn0).mono ?_;rintro e w' ⟨rfl,hb⟩;refine⟨?_,hb⟩;unfold j4;rw[show((8*(q:Int))/8).toNat=q by omega];split<;>rfl
end
end Go.Proofs.YtgcojnlngchllaaGreatDoor
