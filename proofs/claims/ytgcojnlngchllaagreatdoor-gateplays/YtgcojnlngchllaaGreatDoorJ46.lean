import Derived.Test.YtgcojnlngchllaaGreatDoorJ45
namespace Go.Proofs.YtgcojnlngchllaaGreatDoor
open Go.RowKit Tryz
set_option linter.unusedVariables false
section
variable {g:GS}{D b f z:List Int}
def duo(g:GS)(b z D:List Int):Int×List Int×List Int×GS:=match bH g.ss (el b 19) with
 | none=>(0,z,D,g)
 | some st=>((dM st.1 st.2.1 st.2.2.1 st.2.2.2 z D).1,(dM st.1 st.2.1 st.2.2.1 st.2.2.2 z D).2.1,(dM st.1 st.2.1 st.2.2.1 st.2.2.2 z D).2.2.1,g.str (sup (el b 19) (st.1,(dM st.1 st.2.1 st.2.2.1 st.2.2.2 z D).2.2.2) g.ss))
theorem Xr{st:List Int×Int×Bool×Bool}(h:bH g.ss (el b 19)=some st)(ht:tell g.c g.inj b=true):bP g b z D=duo g b z D:=by
 have e:aT g b=(g.ss,st):=by unfold aT;rw[h]
 unfold bP duo;rw[if_pos ht,e,h]
theorem Kk(h:bH g.ss (el b 19)=none)(ht:tell g.c g.inj b=false):bP g b z D=duo g b z D:=by unfold bP duo;rw[if_neg (by rw[ht];decide),h]
theorem Xt(h:bH g.ss (el b 19)=none)(ht:tell g.c g.inj b=true):bP g b z D=duo (g.str ((el b 19,hb b,0,false,false)::g.ss)) b z D:=by
 have e:aT g b=((el b 19,hb b,0,false,false)::g.ss,hb b,0,false,false):=by unfold aT;rw[h]
 have a:bH (g.str ((el b 19,hb b,0,false,false)::g.ss)).ss (el b 19)=some (hb b,0,false,false):=by show bH ((el b 19,hb b,0,false,false)::g.ss) (el b 19)=_;rw[za,if_pos rfl]
 unfold bP duo;rw[if_pos ht,e,a];rfl
def ze(g:GS)(j:Nat)(hop:Int)(z D:List Int)(R:Int×List Int×GS):Prop :=
 ∃U:Int×List Int×List Int×GS,duo (g.tab g.ws g.ts (g.bs.set j (bg (g.bs.getD j []) g.now))) (g.bs.getD j []) z D=U∧(U.1=0->bC U.2.1 U.2.2.1.length) ∧
  R=(if U.1≠0 then (U.1,[],U.2.2.2) else (0,gY (el g.c 18) (el (g.bs.getD j []) 20) (hop-1) (bT U.2.1 (el (g.bs.getD j []) 19) (el (g.bs.getD j []) 21)) U.2.2.1,U.2.2.2)) ∧
  ((0<=el (g.bs.getD j []) 19∧el (g.bs.getD j []) 19<=65535)∧fr (el (g.bs.getD j []) 20)=true∧wd (el (g.bs.getD j []) 21)=true)∧up 4294967295 (el g.c 18)=true∧eU g
theorem Kt{c:List Int}{inj:Bool}(h:fC c inj g)(hi:dK g){j:Nat}(hn:bY g.bs f=some j){hop:Int}(hz:bC z D.length){R:Int×List Int×GS}(hf:aW f=true)(hR:R=jE (g.tab g.ws g.ts (g.bs.set j (bg (g.bs.getD j []) g.now))) (g.bs.getD j []) hop z D):ze g j hop z D R:=by
 obtain⟨n,d,o⟩:=nN hn;have a:=Jb (g:=g) (f:=f) (flags:=0) (wr:=(0,0,0)) hi.1 hf (fun _=>⟨rfl,rfl⟩) (by rw[oL hn]);rw[oL hn] at a;have e:bP (g.tab g.ws g.ts (g.bs.set j (bg (g.bs.getD j []) g.now))) (g.bs.getD j []) z D=duo (g.tab g.ws g.ts (g.bs.set j (bg (g.bs.getD j []) g.now))) (g.bs.getD j []) z D:=by
  cases ht:tell g.c g.inj (g.bs.getD j [])
  ·refine Kk ?_ ht;show bH g.ss _=none;cases hs:bH g.ss (el (g.bs.getD j []) 19) with
   | none=>rfl
   | some st =>obtain⟨b,i,k,l,_⟩:=h.1.2.2 _ (jA hs);have:=Gu hi.1.2.2.1.2.1 i d k;rw[h.1.1,h.1.2.1,<-this,l] at ht;cases ht
  ·rw[h.1.1,h.1.2.1] at ht;obtain⟨hd,s,hh,hs⟩:=h.2 _ d ht;exact Xr (st:=(hd,s,true,hh)) hs (by show tell g.c g.inj _=true;rw[h.1.1,h.1.2.1];exact ht)
 refine⟨_,e.symm,fun h0=>(yN hz h0).1,hR,⟨a.2.1,a.2.2.1,a.2.2.2.1⟩,hi.2.2.2.2.2.1,hi.2.1⟩
theorem Xu{bs:List (List Int)}{x:List Int}(hn:bY bs f=none)(hx:ak x=ak f):∃j,bY (ins x bs) f=some j∧j<(ins x bs).length∧(ins x bs).getD j []=x:=by
 cases h:bY (ins x bs) f with
 | none =>have:=Bj h (JK x bs);rw[(mh _ _).2 hx] at this;cases this
 | some j =>
  obtain⟨a,b,d⟩:=nN h;refine⟨j,rfl,a,?_⟩;rcases yU b with e|e
  ·exact e
  ·have:=Bj hn e;rw[(mh _ _).2 d] at this;cases this
theorem set_self{bs:List (List Int)}{j:Nat}{x:List Int}(hj:j<bs.length)(e:bs.getD j []=x):bs.set j x=bs:=by
 refine List.ext_getElem (by rw[List.length_set]) fun i h1 h2=>?_
 rw[List.getElem_set];split
 ·rename_i e1;subst e1;rw[<-e,getD_at hj]
 ·rfl
theorem CX{c:List Int}{inj:Bool}(h:jB c inj g)(hi:fJ g){i:Nat}(ht:tk g.ws g.ts z (8*g.m)=some i):bH g.ss (1024+(i:Int))=none:=by
 cases hs:bH g.ss (1024+(i:Int)) with
 | none=>rfl
 | some st =>
  obtain⟨b,f,k,o,_⟩:=h.2.2 _ (jA hs);obtain⟨j,r1,l,n⟩:=(hi.2.2.1.1 b f).2.1;have d:=x9 ht;have e:i=j:=by rw[l] at k;omega
  rw[e] at d;exact absurd (n.1.symm.trans d) (by decide)
def j5(g:GS)(i:Nat)(f:List Int)(back far:Int):GS :=
 if tell g.c g.inj f=true then (g.tab (upd g.ws i (cli f)) (upd g.ts i true) (ins (bL f (1024+(i:Int)) back far g.now) g.bs)).str ((1024+(i:Int),hb f,0,false,false)::g.ss)
 else g.tab (upd g.ws i (cli f)) (upd g.ts i true) (ins (bL f (1024+(i:Int)) back far g.now) g.bs)
theorem KC{c:List Int}{inj:Bool}(h:fC c inj g)(hi:dK g)(hn:bY g.bs f=none){i:Nat}(ht:tk g.ws g.ts (cli f) (8*g.m)=some i){back far:Int}(hb:fr back=true)(hw:wd far=true)(hf:aW f=true){hop:Int}(hz:bC z D.length){R:Int×List Int×GS}(hR:R=jE (g.tab (upd g.ws i (cli f)) (upd g.ts i true) (ins (bL f (1024+(i:Int)) back far g.now) g.bs)) (bL f (1024+(i:Int)) back far g.now) hop z D): ∃j,bY (ins (bL f (1024+(i:Int)) back far g.now) g.bs) f=some j∧j<(j5 g i f back far).bs.length∧(j5 g i f back far).bs.length<=128∧ze (j5 g i f back far) j hop z D R:=by
 obtain⟨j,v,o,a⟩:=Xu (x:=bL f (1024+(i:Int)) back far g.now) hn rfl;have B:i<8*g.m:=Bg ht;have C:=hi.1.1;have p:=dJ.made hi.1.2.2.1 hf (back:=back) (far:=far) (now:=g.now) (by rw[hb,hw,hi.1.2.2.2.1];rfl) hn ht;have w:=p.len;have l:bg (bL f (1024+(i:Int)) back far g.now) g.now=bL f (1024+(i:Int)) back far g.now:=rfl;have q:bH g.ss (1024+(i:Int))=none:=CX h.1 hi.1 ht;have d:tell g.c g.inj (bL f (1024+(i:Int)) back far g.now)=tell g.c g.inj f:=rfl;have n:=set_self o a;obtain⟨X,hX⟩:∃X,bL f (1024+(i:Int)) back far g.now=X:=⟨_,rfl⟩;have k:el X 19=1024+(i:Int):=by rw[<-hX];rfl
 have r:el X 20=back:=by rw[<-hX];rfl
 have s:el X 21=far:=by rw[<-hX];rfl
 have y:Go.Proofs.YtgcojnlngchllaaGreatDoor.hb X=Go.Proofs.YtgcojnlngchllaaGreatDoor.hb f:=by rw[<-hX];rfl
 rw[hX] at v o a p w l d n hR⊢;have t:(ins X g.bs).length<=128:=by omega
 unfold j5;rw[hX];cases hT:tell g.c g.inj f
 ·rw[if_neg (by decide)];rw[hT] at d;refine⟨j,v,o,t,bP (g.tab (upd g.ws i (cli f)) (upd g.ts i true) (ins X g.bs)) X z D,?_,fun h0=>(yN hz h0).1,?_,?_,hi.2.2.2.2.2.1,hi.2.1⟩
  ·show duo (g.tab (upd g.ws i (cli f)) (upd g.ts i true) ((ins X g.bs).set j (bg ((ins X g.bs).getD j []) g.now))) ((ins X g.bs).getD j []) z D=_;rw[a,l,n];exact(Kk (g:=g.tab (upd g.ws i (cli f)) (upd g.ts i true) (ins X g.bs)) (by rw[k];exact q) d).symm
  ·show R=(if _ then _ else (0,gY (el g.c 18) (el ((ins X g.bs).getD j []) 20) (hop-1) (bT _ (el ((ins X g.bs).getD j []) 19) (el ((ins X g.bs).getD j []) 21)) _,_));rw[a];exact hR
  ·show(0<=el ((ins X g.bs).getD j []) 19∧el ((ins X g.bs).getD j []) 19<=65535)∧fr (el ((ins X g.bs).getD j []) 20)=true∧wd (el ((ins X g.bs).getD j []) 21)=true;rw[a,k,r,s];exact⟨⟨by omega,by omega⟩,hb,hw⟩
 ·rw[if_pos rfl];rw[hT] at d;have A:eU ((g.tab (upd g.ws i (cli f)) (upd g.ts i true) (ins X g.bs)).str ((1024+(i:Int),Go.Proofs.YtgcojnlngchllaaGreatDoor.hb f,0,false,false)::g.ss)):=fun x hx=>by
   rcases List.mem_cons.1 hx with e|e
   ·rw[e];exact⟨(fun h=>by cases h),Int.le_refl 0,(by show(0:Int)<4294967296;decide)⟩
   ·exact hi.2.1 x e
  refine⟨j,v,o,t,bP (g.tab (upd g.ws i (cli f)) (upd g.ts i true) (ins X g.bs)) X z D,?_,fun h0=>(yN hz h0).1,?_,?_,hi.2.2.2.2.2.1,A⟩
  ·have e:=Xt (g:=g.tab (upd g.ws i (cli f)) (upd g.ts i true) (ins X g.bs)) (b:=X) (z:=z) (D:=D) (by rw[k];exact q) d;rw[e,k,y];show duo ((g.tab (upd g.ws i (cli f)) (upd g.ts i true) ((ins X g.bs).set j (bg ((ins X g.bs).getD j []) g.now))).str _) ((ins X g.bs).getD j []) z D=_;rw[a,l,n];rfl
  ·show R=(if _ then _ else (0,gY (el g.c 18) (el ((ins X g.bs).getD j []) 20) (hop-1) (bT _ (el ((ins X g.bs).getD j []) 19) (el ((ins X g.bs).getD j []) 21)) _,_));rw[a];exact hR
  ·show(0<=el ((ins X g.bs).getD j []) 19∧el ((ins X g.bs).getD j []) 19<=65535)∧fr (el ((ins X g.bs).getD j []) 20)=true∧wd (el ((ins X g.bs).getD j []) 21)=true;rw[a,k,r,s];exact⟨⟨by omega,by omega⟩,hb,hw⟩
def zn(w:World)(B:Nat)(O:Nat->Prop)(a:Option Addr)(cap tb P Q:Nat)(s d:List Int)(hop k:Int)(a1:Option Addr)(l1 c1:Nat)(z:List Int)(a2:Option Addr)(l2 c2:Nat)(D:List Int)(R:Int×List Int×GS)(j:Nat)(wx:World):Prop :=
 ∃(g:GS) (sv:Value) (l:List (Int×Nat)) (ah:Nat->Prop),(j<g.bs.length∧g.bs.length<=128∧l.length<=1000)∧bA B a cap tb sv l ah g wx∧aL O w wx∧(∀q,GO B a ah (aO sv l) q->O q∨w.heap.size<=q)∧(¬GO B a ah (aO sv l) P∧¬GO B a ah (aO sv l) Q)∧(aB.aI P s d hop k a1 l1 c1 wx∧aG Q z a2 l2 c2 wx∧aj wx a2 l2 c2 D)∧ze g j hop z D R
end
section
variable {g:GS}{k:Int}{l:List (Int×Nat)}{D M d f s z:List Int}{B aM F P Q cap l1 l2 tb:Nat}{O ah:Nat->Prop}{a a1 a2:Option Addr}{W W5 w:World}
def gX(w:World)(B:Nat)(O:Nat->Prop)(a:Option Addr)(cap tb P Q F:Nat)(s d:List Int)(hop k:Int)(a1:Option Addr)(l1 c1:Nat)(z:List Int)(a2:Option Addr)(l2 c2:Nat)(D f:List Int)(g:GS)(sv:Value)(l:List (Int×Nat))(W:World):Prop :=
 ∃ah:Nat->Prop,bA B a cap tb sv l ah g W∧aL O w W∧(∀q,GO B a ah (aO sv l) q->O q∨w.heap.size<=q)∧cu w P Q F s d hop k a1 l1 c1 z a2 l2 c2 D f W∧¬GO B a ah (aO sv l) P∧¬GO B a ah (aO sv l) Q∧¬GO B a ah (aO sv l) F
theorem gX.kept{hop:Int}{c1:Nat}{c2:Nat}{sv:Value}{W':World}(h:gX w B O a cap tb P Q F s d hop k a1 l1 c1 z a2 l2 c2 D f g sv l W)(hb:Below W.heap.size W W'):gX w B O a cap tb P Q F s d hop k a1 l1 c1 z a2 l2 c2 D f g sv l W':=by obtain⟨b,e,i,n,h4,o⟩:=h;exact⟨b,e.kept hb,i.trans (aL.of (O:=fun _=>False) hb) (fun _ h=>h.elim),n,h4.kept hb,o⟩
def jP(w:World)(B:Nat)(O:Nat->Prop)(a:Option Addr)(cap tb P Q F:Nat)(s d:List Int)(hop k:Int)(a1:Option Addr)(l1 c1:Nat)(z:List Int)(a2:Option Addr)(l2 c2:Nat)(D f:List Int)(g:GS)(sv:Value)(l:List (Int×Nat))(aM:Nat)(M:List Int)(W:World):Prop :=
 aJ aM M W∧(w.heap.size<=aM∧aM≠P∧aM≠Q∧aM≠F)∧∃ah:Nat->Prop,bA B a cap tb sv l ah g W∧aL O w W∧(∀q,GO B a ah (aO sv l) q->O q∨w.heap.size<=q)∧cu w P Q F s d hop k a1 l1 c1 z a2 l2 c2 D f W∧¬GO B a ah (aO sv l) P∧¬GO B a ah (aO sv l) Q∧¬GO B a ah (aO sv l) F∧¬GO B a ah (aO sv l) aM
theorem jP.mv{hop:Int}{c1:Nat}{c2:Nat}{sv:Value}(h:jP w B O a cap tb P Q F s d hop k a1 l1 c1 z a2 l2 c2 D f g sv l aM M W):gX w B O a cap tb P Q F s d hop k a1 l1 c1 z a2 l2 c2 D f g sv l W:=by obtain⟨_,_,b,e,i,n,h4,o,p,q,_⟩:=h;exact⟨b,e,i,n,h4,o,p,q⟩
theorem jP.kept{hop:Int}{c1:Nat}{c2:Nat}{sv:Value}{W':World}(h:jP w B O a cap tb P Q F s d hop k a1 l1 c1 z a2 l2 c2 D f g sv l aM M W)(hb:Below W.heap.size W W'):jP w B O a cap tb P Q F s d hop k a1 l1 c1 z a2 l2 c2 D f g sv l aM M W':=by obtain⟨e,b,i,n,o,p,h4,q⟩:=h;exact⟨e.kept hb,b,i,n.kept hb,o.trans (aL.of (O:=fun _=>False) hb) (fun _ h=>h.elim),p,h4.kept hb,q⟩
theorem aJ.Cw{C:Nat}{b:List Int}(p:aJ C b W)(j:Nat)(x:Int):W.cell? ⟨C,j,none⟩≠some (.int .u8 x):=by refine jO p (rP fun u hu x e=>?_) j x;unfold ay at hu;rw[e] at hu;simp at hu
theorem jP.put{hop:Int}{c1:Nat}{c2:Nat}{sv:Value}(h:jP w B O a cap tb P Q F s d hop k a1 l1 c1 z a2 l2 c2 D f g sv l aM M W)(b:List Int):∃W',(Bl (.pointer (some ⟨aM,0,none⟩)) (.agg (ay b))).run prog W=.ok () W'∧jP w B O a cap tb P Q F s d hop k a1 l1 c1 z a2 l2 c2 D f g sv l aM b W':=by obtain⟨o,i,q,r,t,v,h4,x,y,A,h8⟩:=h;obtain⟨W',e,p,n⟩:=o.held b;refine⟨W',e,p,i,q,r.other n h8 o.Cw,t.own n i.1 o.Cw,v,?_,x,y,A,h8⟩;obtain⟨C,E,G,H,I⟩:=h4;exact⟨(n.2.2.2.2 P (fun e=>i.2.1 e.symm)).trans C,(n.2.2.2.2 Q (fun e=>i.2.2.1 e.symm)).trans E,(n.2.2.2.2 F (fun e=>i.2.2.2 e.symm)).trans G,H.jh o.Cw n,I⟩
theorem Kl{hop:Int}{c1:Nat}{c2:Nat}{sv:Value}(h0:bA B a cap tb sv l ah g w)(hI:cu w P Q F s d hop k a1 l1 c1 z a2 l2 c2 D f W∧Below w.heap.size w W){ws:Nat->List Int}{ts:Nat->Bool}{bs:List (List Int)}(dk:mQ tb g.m ws ts bs ah W W5): ∃bI:Nat->Prop,bA B a cap tb sv l bI (g.tab ws ts bs) W5∧aL (GO B a ah (aO sv l)) w W5∧(∀q,GO B a bI (aO sv l) q->GO B a ah (aO sv l) q∨W.heap.size<=q)∧cu w P Q F s d hop k a1 l1 c1 z a2 l2 c2 D f W5∧(∀q,w.heap.size<=q->q<W.heap.size->W5.heap[q]? = W.heap[q]?∧¬GO B a bI (aO sv l) q)∧W.heap.size<=W5.heap.size:=by
 obtain⟨bI,o,e,p⟩:=(h0.kept hI.2).tab dk;have i:∀q,GO B a ah (aO sv l) q->q<w.heap.size:=fun q hq=>h0.lt hq
 have n:∀q,GO B a bI (aO sv l) q->GO B a ah (aO sv l) q∨W.heap.size<=q:=by
  rintro q (h1|h1|h1|h1)
  ·exact .inl (.inl h1)
  ·exact .inl (.inr (.inl h1))
  ·exact(p q h1).imp (fun h=>.inr (.inr (.inl h))) id
  ·exact .inl (.inr (.inr (.inr h1)))
 have b:∀q,w.heap.size<=q->¬GO B a ah (aO sv l) q:=fun q h1 h2=>by have:=i q h2;omega
 obtain⟨x,y,A,C,r,t,v⟩:=hI.1;refine⟨bI,o,(aL.of hI.2).trans e (fun _ h=>.inl h),n,hI.1.rE e ⟨b P r,b Q t,b F v⟩,fun q h1 h2=>⟨e.1.2.2.2.2 q h2 (b q h1),fun h3=>?_⟩,e.size⟩;rcases n q h3 with h4|h4
 ·exact b q h1 h4
 ·omega
theorem Kz{hop:Int}{c1:Nat}{c2:Nat}{sv:Value}(h0:bA B a cap tb sv l ah g w)(hI:cu w P Q F s d hop k a1 l1 c1 z a2 l2 c2 D f W∧Below w.heap.size w W){ws:Nat->List Int}{ts:Nat->Bool}{bs:List (List Int)}(dk:mQ tb g.m ws ts bs ah W W5):gX w B (GO B a ah (aO sv l)) a cap tb P Q F s d hop k a1 l1 c1 z a2 l2 c2 D f (g.tab ws ts bs) sv l W5:=by obtain⟨e,i,n,o,e4,b,A⟩:=Kl h0 hI dk;obtain⟨p,r,t,C,v,x,y⟩:=hI.1;exact⟨e,i,n,fun q hq=>(o q hq).imp id (fun h=>Nat.le_trans hI.2.size h),e4,(b P v p.lt).2,(b Q x r.lt).2,(b F y t.lt).2⟩
theorem KA{hop:Int}{c1:Nat}{c2:Nat}{sv:Value}(h0:bA B a cap tb sv l ah g w)(hI:cu w P Q F s d hop k a1 l1 c1 z a2 l2 c2 D f W∧Below w.heap.size w W){ws:Nat->List Int}{ts:Nat->Bool}{bs:List (List Int)}(dk:mQ tb g.m ws ts bs ah W W5)(hb:aJ aM M W)(hD:w.heap.size<=aM∧aM≠P∧aM≠Q∧aM≠F):jP w B (GO B a ah (aO sv l)) a cap tb P Q F s d hop k a1 l1 c1 z a2 l2 c2 D f (g.tab ws ts bs) sv l aM M W5:=by obtain⟨e,i,n,o,e4,b,A⟩:=Kl h0 hI dk;obtain⟨p,r,t,C,v,x,y⟩:=hI.1;exact⟨(b aM hD.1 hb.lt).1.trans hb,hD,e,i,n,fun q hq=>(o q hq).imp id (fun h=>Nat.le_trans hI.2.size h),e4,(b P v p.lt).2,(b Q x r.lt).2,(b F y t.lt).2,(b aM hD.1 hb.lt).2⟩
theorem gX.new{hop:Int}{c1:Nat}{c2:Nat}{sv:Value}(h:gX w B O a cap tb P Q F s d hop k a1 l1 c1 z a2 l2 c2 D f g sv l W):jP w B O a cap tb P Q F s d hop k a1 l1 c1 z a2 l2 c2 D f g sv l W.heap.size [] (W.alloc (.cells aV 95)):=by have G:=h.kept (au W (.cells aV 95));obtain⟨q,e,i,r,h4,t,v,x⟩:=h;obtain⟨n,o,p,y,A,C,E⟩:=h4;have l1:=n.lt;have l2:=o.lt;have H:=p.lt;have b:=au W (.cells aV 95);exact⟨fu W,⟨i.size,by omega,by omega,by omega⟩,q,e.kept b,i.trans (aL.of (O:=fun _=>False) b) (fun _ h=>h.elim),r,cu.kept ⟨n,o,p,y,A,C,E⟩ b,t,v,x,fun hq=>by have:=e.lt hq;omega⟩
theorem gX.dv{hop:Int}{c1:Nat}{c2:Nat}{sv:Value}(h:gX w B O a cap tb P Q F s d hop k a1 l1 c1 z a2 l2 c2 D f g sv l W):rM w B O g W:=by obtain⟨b,e,i,n,_⟩:=h;exact⟨a,cap,tb,sv,l,b,e,i,n⟩
theorem gX.app{hop:Int}{c1:Nat}{c2:Nat}{sv:Value}{W4 W1:World}(h:gX w B O a cap tb P Q F s d hop k a1 l1 c1 z a2 l2 c2 D f g sv l W4)(hb:Below W4.heap.size W4 W){p:Int}{st:List Int×Int×Bool×Bool}(hp:bH g.ss p=none)(hC:ST 101 W4.heap.size st.1 st.2.1 st.2.2.1 st.2.2.2 W){jC cp:Nat}(o:gD W1 (.slice (some ⟨jC,0,none⟩) (l.length+1) cp) (l++[(p,W4.heap.size)]))(hg:W.grownBy W1 sv.ownBlock)(hl:sv.ownBlock=some jC∨jC=W.heap.size): gX w B O a cap tb P Q F s d hop k a1 l1 c1 z a2 l2 c2 D f (g.str ((p,st)::g.ss)) (.slice (some ⟨jC,0,none⟩) (l.length+1) cp) (l++[(p,W4.heap.size)]) (W1.setCell ⟨B,24,none⟩ (.slice (some ⟨jC,0,none⟩) (l.length+1) cp)):=by
 obtain⟨n,h1,e,t,h4,v,x,y⟩:=h;have hn:¬GO B a n (aO sv l) W4.heap.size:=fun hq=>by have:=h1.lt hq;omega
 have b:w.heap.size<=W4.heap.size∧W4.heap.size≠P∧W4.heap.size≠Q∧W4.heap.size≠F:=⟨e.size,by have:=h4.1.lt;omega,by have:=h4.2.1.lt;omega,by have:=h4.2.2.1.lt;omega⟩;replace h1:=h1.kept hb;replace e:=e.trans (aL.of (O:=fun _=>False) hb) (fun _ h=>h.elim);replace h4:=h4.kept hb;generalize W4.heap.size=C at hC o hn b⊢;obtain⟨E,A,G⟩:=h1.app hp hC hn o hg hl;have r:∀q,GO B a n (aO (.slice (some ⟨jC,0,none⟩) (l.length+1) cp) (l++[(p,C)])) q->GO B a n (aO sv l) q∨q=C∨q=W.heap.size:=by
  rintro q (h1|h1|h1|h1)
  ·exact .inl (.inl h1)
  ·exact .inl (.inr (.inl h1))
  ·exact .inl (.inr (.inr (.inl h1)))
  ·rcases G q h1 with h|h|h
   ·exact .inl (.inr (.inr (.inr h)))
   ·exact .inr (.inl h)
   ·exact .inr (.inr h)
 have i:=h4;obtain⟨H,I,J,K,L,M,N⟩:=i;have l1:=H.lt;have l2:=I.lt;have R:=J.lt;refine⟨n,E,e.trans A t,fun q hq=>?_,h4.rE A ⟨v,x,y⟩,fun hq=>?_,fun hq=>?_,fun hq=>?_⟩
 ·rcases r q hq with h|h|h
  ·exact t q h
  ·exact .inr (by rw[h];exact b.1)
  ·exact .inr (by rw[h];exact e.size)
 ·rcases r P hq with h|h|h
  ·exact v h
  ·exact b.2.1 h.symm
  ·omega
 ·rcases r Q hq with h|h|h
  ·exact x h
  ·exact b.2.2.1 h.symm
  ·omega
 ·rcases r F hq with h|h|h
  ·exact y h
  ·exact b.2.2.2 h.symm
  ·omega
theorem gX.reads{hop:Int}{c1:Nat}{c2:Nat}{sv:Value}(h:gX w B O a cap tb P Q F s d hop k a1 l1 c1 z a2 l2 c2 D f g sv l W):W.cell? ⟨B,23,none⟩=some (.pointer (some ⟨tb,0,none⟩))∧(bO (.pointer (some ⟨F,0,none⟩))).run prog W=.ok (.agg (ak f)) W∧W.cell? ⟨B,25,none⟩=some (.int .i64 g.now):=by obtain⟨e,b,i,n,h4,o⟩:=h;exact⟨(b.1.cellAt 23).trans rfl,h4.2.2.1.fl,(b.1.cellAt 25).trans rfl⟩
theorem jP.grown{hop:Int}{c1:Nat}{c2:Nat}{sv:Value}{W1:World}(h:jP w B O a cap tb P Q F s d hop k a1 l1 c1 z a2 l2 c2 D f g sv l aM M W)(hg:W.grownBy W1 sv.ownBlock): W1.cell? ⟨B,24,none⟩=some sv∧W1.frozen? ⟨B,24,none⟩=false∧(W1.cell? ⟨aM,19,none⟩=some (.int .i64 (el M 19))∧(bO (.pointer (some ⟨F,0,none⟩))).run prog W1=.ok (.agg (ak f)) W1)∧∀v,(W1.setCell ⟨B,24,none⟩ v).cell? ⟨aM,19,none⟩=some (.int .i64 (el M 19))∧(bO (.pointer (some ⟨F,0,none⟩))).run prog (W1.setCell ⟨B,24,none⟩ v)=.ok (.agg (ak f)) (W1.setCell ⟨B,24,none⟩ v):=by
 obtain⟨n,x,y,i,A,C,h4,E,G,o,h8⟩:=h;have hs:∀q,q<W.heap.size->¬aO sv l q->W1.heap[q]? = W.heap[q]?:=fun q hq hn=>hg.block q hq (fun e=>hn (.inl e.symm))
 have p:fQ B g.c g.inj a g.bk.length cap tb sv g.now W1:=i.1.same (hs B i.1.lt i.2.2.2.2.1.2.2);have r:aJ aM M W1:=(hs aM n.lt (fun e=>h8 (.inr (.inr (.inr e))))).trans n;have t:bn F f W1:=(hs F h4.2.2.1.lt (fun e=>o (.inr (.inr (.inr e))))).trans h4.2.2.1;refine⟨(p.cellAt 24).trans rfl,p.aZ 24,⟨r.cell 19 (by omega),t.fl⟩,fun v=>⟨?_,?_⟩⟩
 ·exact aJ.cell (B:=aM) (b:=M) ((Below.heap_setCell W1 ⟨B,24,none⟩ v aM (fun e=>h8 (.inl e))).trans r) 19 (by omega)
 ·exact bn.fl (B:=F) (f:=f) ((Below.heap_setCell W1 ⟨B,24,none⟩ v F (fun e=>o (.inl e))).trans t)
theorem gX.find{hop:Int}{c1:Nat}{c2:Nat}{sv:Value}(h:gX w B O a cap tb P Q F s d hop k a1 l1 c1 z a2 l2 c2 D f g sv l W)(hl:g.bs.length<=128)(f0:List Int): Calls prog 34 #[.pointer (some ⟨tb,0,none⟩),.agg (ak f0)] W fun e w'=>e=.returned (.int .i64 (ix (bY g.bs f0)))∧Below W.heap.size W w':=by obtain⟨i,b,_⟩:=h;exact CS b.2.2.1 hl f0
theorem KE(g:GS)(i:Nat)(f:List Int)(back far:Int):(j5 g i f back far).bs=ins (bL f (1024+(i:Int)) back far g.now) g.bs:=by unfold j5;split<;>rfl
theorem gX.cx{hop:Int}{c1:Nat}{c2:Nat}{sv:Value}(h:gX w B O a cap tb P Q F s d hop k a1 l1 c1 z a2 l2 c2 D f g sv l W){j:Nat}(h1:j<g.bs.length)(h2:g.bs.length<=128)(h3:l.length<=1000){R:Int×List Int×GS}(h4:ze g j hop z D R):zn w B O a cap tb P Q s d hop k a1 l1 c1 z a2 l2 c2 D R j W:=by obtain⟨e,i,n,o,b,p,q,r⟩:=h;exact⟨g,sv,l,e,⟨h1,h2,h3⟩,i,n,o,⟨p,q⟩,⟨b.1,b.2.1,b.2.2.2.1⟩,h4⟩
theorem Du(s d t:Int)(z D:List Int):0<(gY s d t z D).length:=by unfold gY aF.eu;rw[List.length_append,show ∀s d t k i n c,(P4.hd s d t k i n c).length=20 from fun _ _ _ _ _ _ _=>rfl];omega
def Xv(ats:Array TypeId)(ty:TypeId)(xs:Array Value):Sem Value:=Builtin.append_ ats ty xs
theorem CJ(ats:Array TypeId)(ty:TypeId)(xs:Array Value):Builtin.append_ ats ty xs=Xv ats ty xs:=rfl
end
end Go.Proofs.YtgcojnlngchllaaGreatDoor
