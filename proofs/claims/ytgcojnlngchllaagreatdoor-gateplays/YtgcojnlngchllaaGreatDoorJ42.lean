import Derived.Test.YtgcojnlngchllaaGreatDoorJ41
namespace Go.Proofs.YtgcojnlngchllaaGreatDoor
open Go.RowKit Tryz
set_option linter.unusedVariables false
set_option maxRecDepth 100000
set_option maxHeartbeats 40000000
section
variable {g:GS}
theorem Ws{x b:List Int}{bs:List (List Int)}(h:b∈bs):b∈ins x bs:=by
 obtain⟨p,_,e,_⟩:=uX x bs;rw[e];rw[<-List.take_append_drop p bs] at h;rcases List.mem_append.1 h with h|h
 ·exact List.mem_append.2 (.inl h)
 ·exact List.mem_append.2 (.inr (List.mem_append.2 (.inr h)))
theorem JK(x:List Int)(bs:List (List Int)):x∈ins x bs:=by obtain⟨p,_,e,_⟩:=uX x bs;rw[e];exact List.mem_append.2 (.inr (List.mem_append.2 (.inl (List.mem_singleton.2 rfl))))
theorem Wt(c:List Int)(inj:Bool)(b:List Int)(now:Int):tell c inj (bg b now)=tell c inj b:=rfl
theorem Wu(b:List Int)(now:Int):hb (bg b now)=hb b:=rfl
def jB(c:List Int)(inj:Bool)(g:GS):Prop:=g.c=c∧g.inj=inj∧∀x∈g.ss,∃b∈g.bs,el b 19=x.1∧tell c inj b=true∧x.2.1=hb b
theorem jB.set{c:List Int}{inj:Bool}(h:jB c inj g){k:Nat}(hk:k<g.bs.length):jB c inj (g.tab g.ws g.ts (g.bs.set k (bg (g.bs.getD k []) g.now))):=⟨h.1,h.2.1,fun x hx=>by
 obtain⟨b,hb0,e1,e2,e3⟩:=h.2.2 x hx;obtain⟨j,hj,rfl⟩:=List.getElem_of_mem hb0;by_cases e:k=j
 ·subst e;refine⟨bg (g.bs.getD k []) g.now,List.mem_set hk _,?_,?_,?_⟩
  ·rw[getD_at hk];exact e1
  ·rw[Wt,getD_at hk];exact e2
  ·rw[Wu,getD_at hk];exact e3
 ·exact⟨g.bs[j],List.mem_iff_getElem.2 ⟨j,by show j<(g.bs.set k _).length;rw[List.length_set];exact hj,by show(g.bs.set k _)[j]'_=_;rw[List.getElem_set,if_neg e]⟩,e1,e2,e3⟩⟩
theorem Wv{c:List Int}{inj:Bool}(h:jB c inj g)(f:List Int)(flags:Int)(wr:Int×Int×Int):jB c inj (bE g f flags wr).2.2:=by
 cases hn:bY g.bs f with
 | some k =>rw[oL hn];exact h.set (nN hn).1
 | none =>
  rw[mP hn];split
  ·exact h
  ·split
   ·exact h
   ·split
    ·exact h
    ·refine⟨h.1,h.2.1,fun x hx=>?_⟩;obtain⟨b,a,e⟩:=h.2.2 x hx;exact⟨b,Ws a,e⟩
theorem JL{c:List Int}{inj:Bool}(h:jB c inj g)(b z D:List Int){b2:List Int}{now:Int}(hb2:b2∈g.bs)(e:b2=b∨b2=bg b now):jB c inj (bP g b z D).2.2.2:=by
 unfold bP;split
 ·rename_i ht;rw[h.1,h.2.1] at ht;refine⟨h.1,h.2.1,fun y hy=>?_⟩;have a:el b2 19=el b 19∧tell c inj b2=true∧hb b2=hb b:=by
   rcases e with rfl|rfl
   ·exact⟨rfl,ht,rfl⟩
   ·exact⟨rfl,ht,rfl⟩
  obtain⟨x,hx,i,⟨d,f⟩|⟨d,f⟩⟩:=qd hy
  ·have e4:y.2.1=(aT g b).2.1:=by rw[f]
   unfold aT at e4;split at e4
   ·rename_i st hs;obtain⟨k,l,n,o,p⟩:=h.2.2 _ (jA hs);exact⟨k,l,n.trans (i.trans d).symm,o,e4.trans p⟩
   ·exact⟨b2,hb2,a.1.trans (i.trans d).symm,a.2.1,e4.trans a.2.2.symm⟩
  ·rw[f];unfold aT at hx;split at hx
   ·exact h.2.2 x hx
   ·rcases List.mem_cons.1 hx with rfl|hx
    ·exact absurd rfl d
    ·exact h.2.2 x hx
 ·exact h
theorem Ww{c:List Int}{inj:Bool}(h:jB c inj g)(b z D:List Int):jB c inj (cZ g b z D).2.2.2:=by
 unfold cZ;split
 ·rename_i st hst;refine⟨h.1,h.2.1,fun y hy=>?_⟩;obtain⟨x,e,f,⟨d,a⟩|⟨d,a⟩⟩:=qd hy
  ·obtain⟨i,k,l,n,o⟩:=h.2.2 _ (jA hst);exact⟨i,k,l.trans (f.trans d).symm,n,by rw[a];exact o⟩
  ·rw[a];exact h.2.2 x e
 ·exact h
theorem Wx{c:List Int}{inj:Bool}(h:jB c inj g)(n:Int):jB c inj (eP g n).2:=by
 unfold eP;split
 ·refine⟨h.1,h.2.1,fun x hx=>?_⟩;obtain⟨i,k⟩:=Cm.1 (show x∈sgo (es (g.now+n) g.bs g.ts g.bs.length).1 g.ss from hx);obtain⟨b,a,d,l⟩:=h.2.2 x i;obtain⟨e,f,_⟩:=qR (g.now+n) g.bs g.ts g.bs.length (Nat.le_refl _);rw[List.take_length] at e f;refine⟨b,?_,d,l⟩;show b∈(es (g.now+n) g.bs g.ts g.bs.length).2.1;rw[f,List.mem_filter];refine⟨a,?_⟩;cases hx:xp (g.now+n) b
  ·rfl
  ·exact absurd d.symm (k b (by rw[e];exact List.mem_filter.2 ⟨a,hx⟩))
 ·exact h
end
section
theorem JM{bs:List (List Int)}(h:bs.Pairwise (fun a b=>el a 19<el b 19)){x y:List Int}(hx:x∈bs)(hy:y∈bs)(e:el x 19=el y 19):x=y:=by
 obtain⟨i,d,rfl⟩:=List.getElem_of_mem hx;obtain⟨j,f,rfl⟩:=List.getElem_of_mem hy;have hp:=List.pairwise_iff_getElem.1 h;rcases (by omega:i=j∨i<j∨j<i) with rfl|hl|hl
 ·rfl
 ·have:=hp i j d f hl;omega
 ·have:=hp j i f d hl;omega
theorem y5(p:Int)(st:List Int×Int×Bool×Bool):∀{ss:List (Int×List Int×Int×Bool×Bool)}{st0:List Int×Int×Bool×Bool},(p,st0)∈ss->bH (sup p st ss) p=some st
 | [],_,h=>absurd h (by simp)
 | x::r,st0,h=>by
  by_cases e:x.1=p
  ·have:sup p st (x::r)=(x.1,st)::sup p st r:=by
    unfold sup;rw[List.map_cons,if_pos e]
   rw[this];unfold bH;rw[List.find?_cons_of_pos (by simpa using e)];rfl
  ·have:sup p st (x::r)=x::sup p st r:=by
    unfold sup;rw[List.map_cons,if_neg e]
   rw[this];have b:(p,st0)∈r:=by
    rcases List.mem_cons.1 h with h|h
    ·exact absurd (by rw[<-h]) e
    ·exact h
   have a:=y5 p st b;unfold bH at a⊢;rw[List.find?_cons_of_neg (by simpa using e)];exact a
theorem Wy(g:GS)(b:List Int):(el b 19,(aT g b).2)∈(aT g b).1:=by
 unfold aT;split
 ·rename_i st hs;exact jA hs
 ·exact List.mem_cons_self ..
theorem Co{z:List Int}{n:Nat}(h:bC z n)(h6:el z 0=6):cf z n=0:=by unfold cf;rw[(l6 z n).2 h,if_neg (fun q=>q.2 h6)]
end
section
theorem j3.beside{w:World}{G:Nat}{g':GS}{O:Nat->Prop}{W W':World}(h:j3 w G g' O W W'){B:Nat}(hB:B<W.heap.size)(hn:¬O B):W'.heap[B]? = W.heap[B]?∧∃O',gN w G g' O' W'∧¬O' B:=by obtain⟨O',a,b,d⟩:=h;exact⟨d.1.2.2.2.2 B hB hn,O',a,fun ho=>(b B ho).elim hn (fun q=>by omega)⟩
end
section
theorem JN(g:GS)(b z D:List Int):(bP g b z D).2.2.2.bs=g.bs∧(bP g b z D).2.2.2.now=g.now:=⟨(Ch g b z D).2.2,(Ch g b z D).2.1⟩
theorem Wz(g:GS)(b z D:List Int):(cZ g b z D).2.2.2.bs=g.bs∧(cZ g b z D).2.2.2.now=g.now:=by unfold cZ;split<;>exact⟨rfl,rfl⟩
theorem WA(g:GS)(zs:List Int):(∃r,r≠0∧g6 g zs=(r,[],g))∨(aB.Good zs∧(dN zs).1=0∧g6 g zs=jD g (f6 zs) (zs.getD 7 0) (dN zs).2.1 (dN zs).2.2):=by
 by_cases hG:aB.Good zs
 ·by_cases hE:(dN zs).1=0
  ·refine .inr ⟨hG,hE,?_⟩;unfold g6 jD;rw[if_neg (fun h=>h hG),if_neg (fun h=>h hE)]
  ·exact .inl ⟨_,hE,by unfold g6;rw[if_neg (fun h=>h hG),if_pos hE]⟩
 ·exact .inl ⟨5,by decide,by unfold g6;exact if_pos hG⟩
end
section
variable {g:GS}{D b f z:List Int}
def fC(c:List Int)(inj:Bool)(g:GS):Prop:=jB c inj g∧∀b∈g.bs,tell c inj b=true->∃hd s h,bH g.ss (el b 19)=some (hd,s,true,h)
theorem vS(p q:Int)(st:List Int×Int×Bool×Bool)(hne:q≠p):∀(ss:List (Int×List Int×Int×Bool×Bool)),bH (sup p st ss) q=bH ss q
 | []=>rfl
 | x::r=>by
  have ih:=vS p q st hne r;by_cases e:x.1=p
  ·have:sup p st (x::r)=(x.1,st)::sup p st r:=by
    unfold sup;rw[List.map_cons,if_pos e]
   rw[this];unfold bH at ih⊢;rw[List.find?_cons_of_neg (by simp[e,Ne.symm hne]),List.find?_cons_of_neg (by simp[e,Ne.symm hne])];exact ih
  ·have:sup p st (x::r)=x::sup p st r:=by
    unfold sup;rw[List.map_cons,if_neg e]
   rw[this];unfold bH at ih⊢;by_cases eq:x.1=q
   ·rw[List.find?_cons_of_pos (by simpa using eq),List.find?_cons_of_pos (by simpa using eq)]
   ·rw[List.find?_cons_of_neg (by simpa using eq),List.find?_cons_of_neg (by simpa using eq)];exact ih
theorem WB(g:GS)(b:List Int){q:Int}(hne:q≠el b 19):bH (aT g b).1 q=bH g.ss q:=by
 unfold aT;split
 ·rfl
 ·unfold bH;rw[List.find?_cons_of_neg (by simpa using Ne.symm hne)]
theorem JO(p q:Int)(hne:q≠p):∀(ss:List (Int×List Int×Int×Bool×Bool)),bH (iR p ss) q=bH ss q
 | []=>rfl
 | x::r=>by
  have ih:=JO p q hne r;unfold iR at ih⊢;by_cases e:x.1=p
  ·rw[List.filter_cons_of_neg (by simpa using e)];rw[ih];unfold bH;rw[List.find?_cons_of_neg (by simp[e,Ne.symm hne])]
  ·rw[List.filter_cons_of_pos (by simpa using e)];unfold bH at ih⊢;by_cases eq:x.1=q
   ·rw[List.find?_cons_of_pos (by simpa using eq),List.find?_cons_of_pos (by simpa using eq)]
   ·rw[List.find?_cons_of_neg (by simpa using eq),List.find?_cons_of_neg (by simpa using eq)];exact ih
theorem y7(q:Int):∀(gone:List (List Int))(ss:List (Int×List Int×Int×Bool×Bool)),(∀x∈gone,el x 19=q->False)->bH (sgo gone ss) q=bH ss q
 | [],ss,_=>rfl
 | x::r,ss,h=>by have ih:=y7 q r (iR (el x 19) ss) (fun y hy=>h y (List.mem_cons_of_mem _ hy));have e:sgo (x::r) ss=sgo r (iR (el x 19) ss):=rfl;rw[e,ih];exact JO _ _ (fun e=>h x (List.mem_cons_self ..) e.symm) ss
theorem WC(hd:List Int)(s:Int)(h:Bool)(z D:List Int):(dM hd s true h z D).2.2.2.2.1=true:=by
 unfold dM;split
 ·rfl
 ·split
  ·unfold iJ;split<;>rfl
  ·split
   ·rfl
   ·split
    ·unfold iZ;split<;>rfl
    ·rfl
theorem WE(s:Int)(h:Bool)(z D:List Int):(eF s true h z D).2.2.2.2.1=true:=by
 unfold eF;split
 ·rfl
 ·split
  ·rfl
  ·split
   ·rfl
   ·split<;>rfl
theorem Cq{x:Int×Bool×Bool}(h:x.2.1=true):∃s h',x=(s,true,h'):=by obtain⟨s,b,hh⟩:=x;cases h;exact⟨_,_,rfl⟩
theorem WG(h:ak b=ak f):el b 0=el f 0∧dst b=dst f:=by have e:=(mh _ _).2 h;unfold iV at e;simp only[Bool.and_eq_true,beq_iff_eq] at e;refine⟨e.1.1.1.1,?_⟩;have q:=(sJ _ _).1 e.1.2;unfold dst at q⊢;rw[show el b 10=el f 10 from q 0 (by omega),show el b 11=el f 11 from q 1 (by omega),show el b 12=el f 12 from q 2 (by omega),show el b 13=el f 13 from q 3 (by omega),show el b 14=el f 14 from q 4 (by omega),show el b 15=el f 15 from q 5 (by omega),show el b 16=el f 16 from q 6 (by omega),show el b 17=el f 17 from q 7 (by omega)]
theorem JQ{c:List Int}{inj:Bool}(h:ak b=ak f):tell c inj b=tell c inj f:=by obtain⟨a,d⟩:=WG h;unfold tell;rw[a,d]
theorem Cr{c:List Int}{inj:Bool}(h:jB c inj g)(ht:tell c inj b=true):bP g b z D=((dM (aT g b).2.1 (aT g b).2.2.1 (aT g b).2.2.2.1 (aT g b).2.2.2.2 z D).1,(dM (aT g b).2.1 (aT g b).2.2.1 (aT g b).2.2.2.1 (aT g b).2.2.2.2 z D).2.1,(dM (aT g b).2.1 (aT g b).2.2.1 (aT g b).2.2.2.1 (aT g b).2.2.2.2 z D).2.2.1,g.str (sup (el b 19) ((aT g b).2.1,(dM (aT g b).2.1 (aT g b).2.2.1 (aT g b).2.2.2.1 (aT g b).2.2.2.2 z D).2.2.2) (aT g b).1)):=by unfold bP;exact if_pos (by rw[h.1,h.2.1];exact ht)
theorem y8{c:List Int}{inj:Bool}(h:jB c inj g)(ht:tell c inj b=false):bP g b z D=(0,z,D,g):=by unfold bP;exact if_neg (by rw[h.1,h.2.1,ht];decide)
theorem WH(g:GS)(b:List Int)(st:List Int×Int×Bool×Bool)(q:Int):bH (g.str (sup (el b 19) st (aT g b).1)).ss q=if q=el b 19 then some st else bH g.ss q:=by
 show bH (sup (el b 19) st (aT g b).1) q=_;by_cases e:q=el b 19
 ·rw[if_pos e,e];exact y5 _ _ (Wy g b)
 ·rw[if_neg e,vS _ _ _ e,WB _ _ e]
theorem JR{c:List Int}{inj:Bool}(h:jB c inj g)(ht:tell c inj b=true)(hb:(∃hd s h,bH g.ss (el b 19)=some (hd,s,true,h))∨(cf z D.length=0∧el z 5/2%2=1∧D.length=0))(q:Int): (q=el b 19->∃hd s h,bH (bP g b z D).2.2.2.ss q=some (hd,s,true,h))∧(q≠el b 19->bH (bP g b z D).2.2.2.ss q=bH g.ss q):=by
 rw[Cr h ht];dsimp only;rw[WH];refine⟨fun e=>?_,fun e=>if_neg e⟩;rw[if_pos e];rcases hb with⟨hd,s,hh,hs⟩|⟨h1,d,h3⟩
 ·have i:aT g b=(g.ss,hd,s,true,hh):=by
   unfold aT;rw[hs]
  rw[i];dsimp only;obtain⟨k,d,f⟩:=Cq (WC hd s hh z D);rw[f];exact⟨_,_,_,rfl⟩
 ·have l:(dM (aT g b).2.1 (aT g b).2.2.1 (aT g b).2.2.2.1 (aT g b).2.2.2.2 z D).2.2.2.2.1=true:=by
   unfold dM;rw[if_neg (by rw[h1];decide),if_pos d];unfold iJ;rw[if_neg (by omega)]
  obtain⟨k,d,f⟩:=Cq l;rw[f];exact⟨_,_,_,rfl⟩
theorem fC.set{c:List Int}{inj:Bool}(h:fC c inj g){k:Nat}(hk:k<g.bs.length):fC c inj (g.tab g.ws g.ts (g.bs.set k (bg (g.bs.getD k []) g.now))):=by
 refine⟨h.1.set hk,fun b hb ht=>?_⟩;rcases List.mem_or_eq_of_mem_set hb with q|q
 ·exact h.2 b q ht
 ·subst q;exact h.2 (g.bs.getD k []) (nE hk) ht
theorem WI{c:List Int}{inj:Bool}(h:fC c inj g)(hi:dK g){hop:Int}(hz:bC z D.length)(hk:el f 0=el z 0): fC c inj (jD g f hop z D).2.2∧((jD g f hop z D).1≠0->(jD g f hop z D).1≠3->(jD g f hop z D).2.2.bs=g.bs):=by
 unfold jD;by_cases h1:(aU g.c f).1≠0
 ·rw[if_pos h1];exact⟨h,fun _ _=>rfl⟩
 rw[if_neg h1];by_cases h2:tell g.c g.inj f=true∧el z 5/2%2=1∧0<D.length
 ·rw[if_pos h2];exact⟨h,fun _ _=>rfl⟩
 rw[if_neg h2];rw[h.1.1,h.1.2.1] at h2;have v:=hi.1.2.2.1;cases hn:bY g.bs f with
 | some k =>
  obtain⟨w,x,H⟩:=nN hn;rw[oL hn];dsimp only;rw[if_neg (by simp)];have o:fC c inj (g.tab g.ws g.ts (g.bs.set k (bg (g.bs.getD k []) g.now))):=h.set w;have K:∀b∈(g.tab g.ws g.ts (g.bs.set k (bg (g.bs.getD k []) g.now))).bs,tell c inj b=true->∃hd s h,bH g.ss (el b 19)=some (hd,s,true,h):=o.2;refine⟨?_,fun e0 e3=>?_⟩
  ·rw[yV];refine⟨JL o.1 _ _ _ (List.mem_set w _) (.inr rfl),fun b hb ht=>?_⟩;rw[(JN _ _ _ _).1] at hb;cases htl:tell c inj (g.bs.getD k [])
   ·rw[y8 o.1 htl];exact o.2 b hb ht
   ·have p:=JR (z:=z) (D:=D) o.1 htl (.inl (h.2 _ x htl)) (el b 19);by_cases e:el b 19=el (g.bs.getD k []) 19
    ·exact p.1 e
    ·rw[p.2 e];exact o.2 b hb ht
  ·exfalso;unfold jE at e0 e3;cases htl:tell c inj (g.bs.getD k [])
   ·rw[y8 o.1 htl] at e0;exact e0 (by rw[if_neg (by simp)])
   ·obtain⟨hd,s,hh,hs⟩:=h.2 _ x htl;have y:aT (g.tab g.ws g.ts (g.bs.set k (bg (g.bs.getD k []) g.now))) (g.bs.getD k [])=(g.ss,hd,s,true,hh):=by unfold aT;rw[show(g.tab g.ws g.ts (g.bs.set k (bg (g.bs.getD k []) g.now))).ss=g.ss from rfl,hs]
    have d:tell c inj f=true:=by rw[<-JQ H];exact htl
    have r:el z 0=6:=by unfold tell at d;simp only[Bool.and_eq_true,beq_iff_eq] at d;rw[<-hk];exact d.1.2
    have hc:=Co hz r;have hu:(dM hd s true hh z D).1=0∨(dM hd s true hh z D).1=3:=by
     unfold dM;rw[if_neg (by rw[hc];decide)];by_cases n:el z 5/2%2=1
     ·rw[if_pos n];unfold iJ;rw[if_neg (fun q=>h2 ⟨d,n,q⟩)];exact .inl rfl
     ·rw[if_neg n,if_neg (by decide)];split
      ·unfold iZ;split
       ·exact .inr rfl
       ·exact .inl rfl
      ·exact .inl rfl
    rw[Cr o.1 htl,y] at e0 e3;dsimp only at e0 e3;rcases hu with hu|hu
    ·rw[if_neg (fun q=>q hu)] at e0;exact e0 rfl
    ·rw[if_pos (by rw[hu];decide)] at e3;exact e3 hu
 | none =>
  rw[mP hn];by_cases h3:el f 0=6∧¬(el z 5/2%2=1∧el z 5/16%2=0)
  ·rw[if_pos h3];exact⟨h,fun _ _=>rfl⟩
  rw[if_neg h3];by_cases h4:(bF g f (aU g.c f).2).2.2≠0
  ·rw[if_pos h4,if_pos h4];exact⟨h,fun _ _=>rfl⟩
  rw[if_neg h4];split
  ·rw[if_pos (show(3:Int)≠0 by decide)];exact⟨h,fun _ _=>rfl⟩
  ·rename_i i ht;rw[if_neg (by simp)];have l:=Wv h.1 f (el z 5) (bF g f (aU g.c f).2);have A:bE g f (el z 5) (bF g f (aU g.c f).2)=(0,bL f (1024+(i:Int)) (bF g f (aU g.c f).2).1 (bF g f (aU g.c f).2).2.1 g.now,g.tab (upd g.ws i (cli f)) (upd g.ts i true) (ins (bL f (1024+(i:Int)) (bF g f (aU g.c f).2).1 (bF g f (aU g.c f).2).2.1 g.now) g.bs)):=by rw[mP hn,if_neg h3,if_neg h4,ht]
   rw[A] at l;dsimp only at l⊢;generalize hX:bL f (1024+(i:Int)) (bF g f (aU g.c f).2).1 (bF g f (aU g.c f).2).2.1 g.now=X at l⊢;have B:ak X=ak f:=by rw[<-hX];rfl
   have C:el X 19=1024+(i:Int):=by rw[<-hX];rfl
   have t:∀b∈g.bs,el b 19≠el X 19:=fun b hb e=>by
    obtain⟨j,L,M,I⟩:=(v.1 b hb).2.1;have E:=x9 ht;have F:i=j:=by rw[C] at e;omega
    rw[F] at E;exact absurd (I.1.symm.trans E) (by decide)
   cases htl:tell c inj X
   ·refine⟨?_,fun e0 _=>?_⟩
    ·rw[yV,y8 l htl];refine⟨l,fun b hb ht'=>?_⟩;rcases (yU hb) with rfl|hb
     ·rw[htl] at ht';cases ht'
     ·exact h.2 b hb ht'
    ·exfalso;unfold jE at e0;rw[y8 l htl] at e0;exact e0 (by rw[if_neg (by simp)])
   ·have d:tell c inj f=true:=by rw[<-JQ B];exact htl
    have r:el f 0=6:=by unfold tell at d;simp only[Bool.and_eq_true,beq_iff_eq] at d;exact d.1.2
    have n:el z 5/2%2=1:=by apply Classical.byContradiction;intro G;exact h3 ⟨r,fun q=>G q.1⟩
    have J:D.length=0:=by apply Classical.byContradiction;intro G;exact h2 ⟨d,n,by omega⟩
    have hc:cf z D.length=0:=Co hz (hk ▸ r);have p:=fun q=>JR (z:=z) (D:=D) l htl (.inr ⟨hc,n,J⟩) q
    refine⟨?_,fun e0 _=>?_⟩
    ·rw[yV];refine⟨JL (now:=0) l _ _ _ (JK X g.bs) (.inl rfl),fun b hb ht'=>?_⟩;rw[(JN _ _ _ _).1] at hb;rcases (yU hb) with rfl|hb
     ·exact(p _).1 rfl
     ·rw[(p (el b 19)).2 (t b hb)];exact h.2 b hb ht'
    ·exfalso;have hu:(dM (aT (g.tab (upd g.ws i (cli f)) (upd g.ts i true) (ins X g.bs)) X).2.1 (aT (g.tab (upd g.ws i (cli f)) (upd g.ts i true) (ins X g.bs)) X).2.2.1 (aT (g.tab (upd g.ws i (cli f)) (upd g.ts i true) (ins X g.bs)) X).2.2.2.1 (aT (g.tab (upd g.ws i (cli f)) (upd g.ts i true) (ins X g.bs)) X).2.2.2.2 z D).1=0:=by unfold dM;rw[if_neg (by rw[hc];decide),if_pos n];unfold iJ;rw[if_neg (by omega)]
     unfold jE at e0;rw[Cr l htl] at e0;dsimp only at e0;rw[if_neg (fun q=>q hu)] at e0;exact e0 rfl
theorem JU{c:List Int}{inj:Bool}(h:fC c inj g)(hi:dK g){zs:List Int}(ho:SM.Oct zs):fC c inj (g6 g zs).2.2∧((g6 g zs).1≠0->(g6 g zs).1≠3->(g6 g zs).2.2.bs=g.bs):=by
 rcases WA g zs with⟨r,_,e⟩|⟨hG,hE,e⟩
 ·rw[e];exact⟨h,fun _ _=>rfl⟩
 ·rw[e];have a:=hE;unfold dN at a;have b:=(vH a).1;exact WI h hi b rfl
theorem JV{c:List Int}{inj:Bool}(h:fC c inj g)(hi:dK g)(zs:List Int):fC c inj (g4 g zs).2.2∧((g4 g zs).1≠0->(g4 g zs).2.2.bs=g.bs):=by
 unfold g4;split
 ·exact⟨h,fun _=>rfl⟩
 ·split
  ·exact⟨h,fun _=>rfl⟩
  ·rename_i hne hE;unfold kW;split
   ·exact⟨h,fun _=>rfl⟩
   ·rename_i k hk;split
    ·have f:=uW (vM hk).2;have o:fC c inj (g.tab g.ws g.ts (g.bs.set k (bg (g.bs.getD k []) g.now))):=h.set f.1;have i:=Classical.not_not.1 hE;have a:el (g.bs.getD k []) 0=zs.getD 9 0:=by
      unfold mM at hk;split at hk
      ·cases hk
      ·split at hk
       ·rename_i q;injection hk with hk
        subst hk;exact q
       ·cases hk
     unfold gU at i;have l:=vH i;have p:(cZ (g.tab g.ws g.ts (g.bs.set k (bg (g.bs.getD k []) g.now))) (g.bs.getD k []) (gU zs).2.1 (gU zs).2.2).1=0:=by
      unfold cZ;rw[show(g.tab g.ws g.ts (g.bs.set k (bg (g.bs.getD k []) g.now))).ss=g.ss from rfl];split
      ·rename_i st hst;obtain⟨x,r,t,d,_⟩:=h.1.2.2 _ (jA hst);have:=JM hi.1.2.2.1.2.1 r (nE f.1) t;subst this;obtain⟨hd,s,hh,hs⟩:=h.2 _ r d;rw[hst] at hs;injection hs with hs
       have v:el (gU zs).2.1 0=6:=by unfold tell at d;simp only[Bool.and_eq_true,beq_iff_eq] at d;exact(l.2.1.trans a.symm).trans d.1.2
       have hc:=Co (z:=(gU zs).2.1) (n:=(gU zs).2.2.length) l.1 v;rw[hs];dsimp only;unfold eF;rw[if_neg (by rw[hc];decide),if_neg (by decide)];split
       ·rfl
       ·split<;>rfl
      ·rfl
     refine⟨?_,fun e0=>?_⟩
     ·rw[JB];refine⟨Ww o.1 _ _ _,fun b hb ht=>?_⟩;rw[(Wz _ _ _ _).1] at hb;obtain⟨hd,s,hh,hs⟩:=o.2 b hb ht;unfold cZ;split
      ·rename_i st hst;show ∃hd s h,bH (sup (el (g.bs.getD k []) 19) _ (g.tab g.ws g.ts (g.bs.set k (bg (g.bs.getD k []) g.now))).ss) (el b 19)=_;by_cases e:el b 19=el (g.bs.getD k []) 19
       ·rw[e,y5 _ _ (jA hst)];rw[e] at hs;rw[hst] at hs;injection hs with hs
        rw[hs];dsimp only;obtain⟨y,A,w⟩:=Cq (WE s hh (gU zs).2.1 (gU zs).2.2);rw[w];exact⟨_,_,_,rfl⟩
       ·rw[vS _ _ _ e];exact⟨hd,s,hh,hs⟩
      ·exact⟨hd,s,hh,hs⟩
     ·exfalso;unfold oG at e0;rw[if_neg (fun q=>q p)] at e0;exact e0 rfl
    ·exact⟨h,fun _=>rfl⟩
theorem WJ{c:List Int}{inj:Bool}(h:fC c inj g)(hi:dK g)(n:Int):fC c inj (eP g n).2:=by
 refine⟨Wx h.1 n,?_⟩;unfold eP;split
 ·intro b hb k;have a:b∈(es (g.now+n) g.bs g.ts g.bs.length).2.1:=hb;obtain⟨d,f,_⟩:=qR (g.now+n) g.bs g.ts g.bs.length (Nat.le_refl _);rw[List.take_length] at d f;rw[f,List.mem_filter] at a;obtain⟨hd,s,hh,hs⟩:=h.2 b a.1 k;have l:xp (g.now+n) b=false:=by simpa using a.2
  refine⟨hd,s,hh,?_⟩;show bH (sgo (es (g.now+n) g.bs g.ts g.bs.length).1 g.ss) (el b 19)=_;rw[d];refine(y7 _ _ _ (fun x hxm e=>?_)).trans hs
  ·obtain⟨o,i⟩:=List.mem_filter.1 hxm;have:=JM hi.1.2.2.1.2.1 o a.1 e;subst this;rw[l] at i;cases i
 ·exact h.2
theorem JW{c:List Int}{inj:Bool}(h:fC c inj g)(id:Int)(f:List Int->List Int):fC c inj (eB g id f).2:=by unfold eB;split<;>exact h
end
section
theorem KQ(r k:Int)(w:World)(hg:kg w):Calls prog 15 #[ev r,.int .i64 k] w fun e w'=>e=.returned (.bool (r == k))∧Below w.heap.size w w':=by
 by_cases hr:r=0
 ·subst hr;rw[jW];go_enter func15,ntmps15;go_wp2_with (go_at_call 56;refine(Ph _).mono ?_;rintro e w' ⟨rfl,rfl⟩)
  go_ret;exact⟨rfl,Below.refl _ _⟩
 ·have a:ev r=.iface 28 (.int .i64 r):=by unfold ev;rw[if_neg hr];rfl
  rw[a];clear a;go_enter func15,ntmps15;go_wp2_with (go_at_call 56;refine(Pj r _ hg).mono ?_;rintro e w' ⟨rfl,hb⟩)
  go_ret;exact⟨rfl,hb⟩
theorem j3.row{w:World}{G:Nat}{g g':GS}{O:Nat->Prop}{W W':World}(h:j3 w G g' O W W'){base:Nat}{v:Value}{bs:List (List Int)}(r:dU base W v bs)(hO:∀k,O k->k<base):dU base W' v bs:=by obtain⟨d,e,f,b⟩:=h;exact r.fr b.1 (fun k hk _ ho=>by have:=hO k ho;omega)
end
namespace aB
attribute [local go_sem ↓] Go.wp_at_zero Go.wp_at_succ
attribute [local go_sem ↓] uE
theorem WK(g off len cap:Nat)(zs:List Int)(w:World)(hr:aj w (some ⟨g,off,none⟩) len cap zs)(hcl:len<=cap)(hcm:cap<=maxLen)(h:Good zs): Calls prog 31 #[.slice (some ⟨g,off,none⟩) len cap] w fun e w'=>∃a',e=.returned (.tuple #[pk (bf zs 8) (bf zs 24) (zs.getD 7 0) (zs.getD 6 0) a' (len-40) (cap-40),.int .i64 0])∧aj w' a' (len-40) (cap-40) (zs.drop 40)∧Below w.heap.size w w':=by
 have v:=hr.1;obtain⟨s,y,E,F,e4⟩:=h;rw[v] at s y e4;unfold maxLen at hcm;have M:decide ((len:Int)<40)=false:=decide_eq_false (by omega);have N:decide ((360:Int)<(len:Int))=false:=decide_eq_false (by omega);have O:IntKind.i64.wrap ((len:Int)-40)=(len:Int)-40:=by rw[IntKind.wrap_i64];omega
 have f0:(P4.wd zs 0 != 24576)=false:=by simpa using E
 have P:(P4.wd zs 2 != 0)=false:=by simpa using F
 have Q:(P4.wd zs 4 != (len:Int)-40)=false:=by simpa using e4
 clear E F e4;have R:(len:Int)<=(cap:Int):=by omega
 have T:(40:Int)<=(len:Int):=by omega
 have Y:(6:Int)<(len:Int):=by omega
 have Z:(7:Int)<(len:Int):=by omega
 have U:(24:Int)<=(cap:Int):=by omega
 have V:(40:Int)<=(cap:Int):=by omega
 have aa:cap≠8:=by omega
 have X:cap≠24:=by omega
 have d:=ki (au w (.cells dH 83));have f:=ki (bR w);have a:=ki (hr.below d.o);unfold dH at d f a;have G:=ki (fun W x h h0 h1=>mF g off len cap zs W x h h0 h1);have H:g≠w.heap.size:=fun e=>by have:=World.block_lt_of_cell? w _ (hr.at_ 0 (by omega));rw[e] at this;exact absurd this (Nat.lt_irrefl _)
 have q:=ki (fun W (h:aj W (some ⟨g,off,none⟩) len cap zs)=>show W.cell? ⟨g,off+6,none⟩=some (.int .u8 (zs.getD 6 0))∧W.cell? ⟨g,off+7,none⟩=some (.int .u8 (zs.getD 7 0)) from⟨h.at_ 6 (by omega),h.at_ 7 (by omega)⟩);have I:=hr.2.2.1 6;have J:=hr.2.2.1 7;have i:=fun W (h:aj W (some ⟨g,off,none⟩) len cap zs)=>(h.part 40 len s (Nat.le_refl _) (if cap=40 then some ⟨g,off,none⟩ else some ⟨g,off+40,none⟩) (cap-40) (fun b o hlt e=>by cases e;rw[if_neg (by omega)]) (fun e=>by split at e<;>cases e)).congr (show(zs.drop 40).take (len-40)=zs.drop 40 from List.take_of_length_le (by rw[List.length_drop,hr.1];exact Nat.le_refl _))
 obtain⟨ao,hao⟩:∃ao,(if cap=40 then some (⟨g,off,none⟩:Addr) else some ⟨g,off+40,none⟩)=ao:=⟨_,rfl⟩;rw[hao] at i;have r:=ki i;clear i hr;have z:=ki (fun W c (h:aj W (some ⟨g,off,none⟩) len cap zs)=>EI g off len cap zs W 8 c h (by omega));have A:=ki (fun W c (h:aj W (some ⟨g,off,none⟩) len cap zs)=>EI g off len cap zs W 24 c h (by omega));unfold av at z A;generalize bf zs 8=S at z⊢;generalize bf zs 24=D at A⊢;generalize zs.getD 6 0=z6 at I q⊢;generalize zs.getD 7 0=z7 at J q⊢;have ab:IntKind.i64.wrap z6=z6:=by rw[IntKind.wrap_i64];omega
 have ac:IntKind.i64.wrap z7=z7:=by rw[IntKind.wrap_i64];omega
 go_enter func31,ntmps31;go_upto_region 1 with fail
 generalize w.alloc _=W at d f a⊢;go_upto_region 3 with(go_at_call 78;refine(G.o _ _ a.o (by omega) (by omega)).mono ?_;rintro e B ⟨rfl,k⟩;replace d:=ki (bt d.o k);replace f:=ki (f.o.kept k);replace a:=ki (a.o.below k);clear k)
 clear f0 P Q O M N G;have hd:Below B.heap.size B B.drew:=(Below.refl _ _).drew;replace d:=ki (bt d.o hd);replace f:=ki (f.o.kept hd);replace a:=ki (a.o.below hd);clear hd;go_region_held3 (fun w'=>w'.cell? ⟨g,off+6,none⟩=some (.int .u8 z6)∧w'.cell? ⟨g,off+7,none⟩=some (.int .u8 z7))
  (first
   | exact q.o _ a.o
   | exact q.o _ t.o
   | go_keep)
  (first|(go_at_call 79;with_reducible refine(z.o _ _ a.o).mono ?_;rintro e w2 ⟨rfl,l⟩;replace f:=ki (f.o.kept l);replace d:=ki (bt d.o l);replace a:=ki (a.o.below l);clear l)|(go_at_call 79;with_reducible refine(A.o _ _ a.o).mono ?_;rintro e w3 ⟨rfl,n⟩;replace f:=ki (f.o.kept n);replace d:=ki (bt d.o n);replace a:=ki (a.o.below n);clear n;obtain⟨w6,K,C,p⟩:=f.o.held S D z7 z6 ao (len-40) (cap-40);unfold cB at K;replace C:=ki C;have t:=ki (p.row a.o H);replace p:=ki p))
 have L:=ki (p.o.below d.o (Nat.le_refl _));go_wp2;try simp only[Exit.inBlock,Exit.then]
 refine bodyPost_ret (ni rfl _ _ w.heap.size S D z7 z6 ao (len-40) (cap-40) rfl C.o) rfl ?_;exact⟨ao,rfl,r.o _ t.o,L.o⟩
end aB
namespace aF
attribute [local go_sem ↓] Go.wp_at_zero Go.wp_at_succ
attribute [local go_sem] tC tF
theorem WL(g off len cap:Nat)(zs:List Int)(w:World)(hr:aj w (some ⟨g,off,none⟩) len cap zs)(hcl:len<=cap)(hcm:cap<=maxLen)(h:P4.ko zs)(r:Bool)(hrr:P4.wd zs 10=P4.jm zs↔r=true): Calls prog 42 #[.slice (some ⟨g,off,none⟩) len cap] w fun e w'=>((r=false∧e=.returned (.tuple #[iH,.int .i64 6])) ∨ (r=true∧∃a',e=.returned (.tuple #[pk (P4.src zs) (P4.dst zs) (zs.getD 8 0) (zs.getD 9 0) (P4.wd zs 4) a' (len-20) (cap-20),.int .i64 0])∧aj w' a' (len-20) (cap-20) (zs.drop 20)))∧Below w.heap.size w w':=by
 have G:=hr.1;have k:=hr.2.2.1;obtain⟨l0,l1,Z,e2,e6⟩:=h;have n:=ki (nu w 0 0 0 0 0 none 0 0);have q:=ki (iU w 0 0 0 0 0 none 0 0);unfold bx at n;have f:=ki (hr.below n.o);have HW:=ki (fun W x h h0 h1=>mF g off len cap zs W x h h0 h1);have d1:decide ((len:Int)<20)=false:=decide_eq_false (by omega);have d2:decide ((340:Int)<(len:Int))=false:=decide_eq_false (by omega);have f0:(P4.wd zs 0 != 17664)=false:=by simpa using Z
 have f2:(P4.wd zs 2 != (len:Int))=false:=by rw[e2,G];simp
 have f6:(P4.wd zs 6 != 16384)=false:=by simpa using e6
 have ac:20<=len:=by omega
 have a8:len<=340:=by omega
 have ad:=ki (World.block_lt_of_cell? w ⟨g,off+8,none⟩ (by obtain⟨_,_,_,_,R⟩:=hr;obtain⟨b,o,e,hc⟩:=R (by omega);cases e;exact hc 8 (by omega)));have K:=ki (fun W (h:aj W (some ⟨g,off,none⟩) len cap zs)=>show W.cell? ⟨g,off+8,none⟩=some (.int .u8 (zs.getD 8 0))∧W.cell? ⟨g,off+9,none⟩=some (.int .u8 (zs.getD 9 0)) by obtain⟨_,_,_,_,R⟩:=h;obtain⟨b,o,e,hc⟩:=R (by omega);cases e;exact⟨hc 8 (by omega),hc 9 (by omega)⟩);have A:=ki (wV zs k l1);have B:=ki hrr;have b8:=k 8;have b9:=k 9;have ae:=kF zs k 12;have af:=kF zs k 14;have ag:=kF zs k 16;have ai:=kF zs k 18;have w4:=kF zs k 4;have HS:=ki (show P4.src zs=65536*P4.wd zs 12+P4.wd zs 14 from rfl);have HD:=ki (show P4.dst zs=65536*P4.wd zs 16+P4.wd zs 18 from rfl);clear Z e2 e6 hr hrr;go_enter func42,ntmps42;go_upto_region 3 with(go_at_call 78;refine(HW.o _ _ f.o (by omega) (by omega)).mono ?_;rintro e l ⟨rfl,H⟩;replace n:=ki (bt n.o H);replace q:=ki (q.o.kept H);replace f:=ki (f.o.below H);clear H)
 clear f0 f2 f6 d1 d2;generalize JX:zs.getD 8 0=eO at K A b8⊢;generalize JY:zs.getD 9 0=z9 at K A b9⊢;have JZ:=ki JX;have J2:=ki JY;clear JX JY;have AQ:IntKind.i64.wrap eO=eO:=by rw[IntKind.wrap_i64];omega
 have qx:IntKind.i64.wrap z9=z9:=by rw[IntKind.wrap_i64];omega
 have ap:IntKind.i64.wrap (65536*P4.wd zs 12)=65536*P4.wd zs 12:=by rw[IntKind.wrap_i64];omega
 have aq:IntKind.i64.wrap (65536*P4.wd zs 16)=65536*P4.wd zs 16:=by rw[IntKind.wrap_i64];omega
 have qs:IntKind.i64.wrap (65536*P4.wd zs 12+P4.wd zs 14)=P4.src zs:=by rw[IntKind.wrap_i64,HS.o];omega
 have WM:IntKind.i64.wrap (65536*P4.wd zs 16+P4.wd zs 18)=P4.dst zs:=by rw[IntKind.wrap_i64,HD.o];omega
 have i8:(8:Int)<(len:Int):=by omega
 have i9:(9:Int)<(len:Int):=by omega
 obtain⟨x8,jK⟩:=K.o _ f.o;have dZ:l.heap.size≠g:=World.new_ne l _ x8;have HA:=ki (fun m x h0 h1=>gq g off len cap zs (l.drewN m) x (f.o.drewN m) h0 h1);have I:=ki (fun x h0 h1=>gq g off len cap zs l.drew x (f.o.drewN 1) h0 h1);have bX:=ki (fun m x h0 h1=>gq g off len cap zs ((l.alloc (.cells #[.int .i64 0,.int .i64 0,.int .i64 0,.int .i64 0,.int .i64 0,.slice none 0 0] 108)).drewN m) x ((f.o.below (au _ _)).drewN m) h0 h1);have P:=ki (fun x h0 h1=>gq g off len cap zs (l.alloc (.cells #[.int .i64 0,.int .i64 0,.int .i64 0,.int .i64 0,.int .i64 0,.slice none 0 0] 108)).drew x ((f.o.below (au _ _)).drewN 1) h0 h1);go_cut [4] from 31 to 53 (fun v4 W=>v4=.pointer (some ⟨l.heap.size,0,none⟩)∧∃N,W=(l.alloc (.cells #[.int .i64 (P4.src zs),.int .i64 (P4.dst zs),.int .i64 eO,.int .i64 z9,.int .i64 (P4.wd zs 4),.slice none 0 0] 108)).drewN N)
 case first =>
  go_region_held3 (fun w'=>w'.cell? ⟨g,off+8,none⟩=some (.int .u8 eO)∧w'.cell? ⟨g,off+9,none⟩=some (.int .u8 z9))
   (go_keep)
   (first|(go_at_call 78;with_reducible refine(HA.o _ _ (by omega) (by omega)).mono ?_;rintro e S ⟨rfl,M,rfl⟩)|(go_at_call 78;with_reducible refine(I.o _ (by omega) (by omega)).mono ?_;rintro e S ⟨rfl,M,rfl⟩)|(go_at_call 78;with_reducible refine(bX.o _ _ (by omega) (by omega)).mono ?_;rintro e S ⟨rfl,M,rfl⟩)|(go_at_call 78;with_reducible refine(P.o _ (by omega) (by omega)).mono ?_;rintro e S ⟨rfl,M,rfl⟩))
  all_goals
   go_wp2_with fail
   go_meet
   exact⟨rfl,_,rfl⟩
 case rest =>
  obtain⟨rfl,N,rfl⟩:=hcut;clear HA I bX P ap aq qs WM AQ qx x8 jK dZ ae af ag ai w4;have p:=f.o.part 20 len ac (Nat.le_refl _) (if cap=20 then some ⟨g,off,none⟩ else some ⟨g,off+20,none⟩) (cap-20) (fun b o hlt e=>by cases e;rw[if_neg (by omega)]) (fun e=>by split at e<;>cases e);replace p:=p.congr (show(zs.drop 20).take (len-20)=zs.drop 20 from List.take_of_length_le (by rw[List.length_drop,G];exact Nat.le_refl _));obtain⟨ao,hao⟩:∃ao,(if cap=20 then some (⟨g,off,none⟩:Addr) else some ⟨g,off+20,none⟩)=ao:=⟨_,rfl⟩;have ax:=ki (show ∀b o,ao=some ⟨b,o,none⟩->b=g from fun b o e=>by rw[<-hao] at e;split at e<;>(cases e;rfl));rw[hao] at p;have T:=hcm;unfold maxLen at T;have fT:(20:Int)<=(len:Int):=by omega
  have bp:(len:Int)<=(cap:Int):=by omega
  have a:=ki p;clear p;go_upto_region 5 with fail
  have C:Below l.heap.size l ((l.alloc (.cells #[.int .i64 (P4.src zs),.int .i64 (P4.dst zs),.int .i64 eO,.int .i64 z9,.int .i64 (P4.wd zs 4),.slice ao (len-20) (cap-20)] 108)).drewN N):=(au _ _).trans ⟨rfl,rfl,rfl,Nat.le_refl _,fun _ _=>rfl⟩;have t:=ki (show aI l.heap.size (P4.src zs) (P4.dst zs) eO z9 (P4.wd zs 4) ao (len-20) (cap-20) ((l.alloc (.cells #[.int .i64 (P4.src zs),.int .i64 (P4.dst zs),.int .i64 eO,.int .i64 z9,.int .i64 (P4.wd zs 4),.slice ao (len-20) (cap-20)] 108)).drewN N) from iU l _ _ _ _ _ _ _ _);have dO:=ki (Nat.ne_of_lt q.o.lt);replace n:=ki (bt n.o C);replace q:=ki (q.o.kept C);replace f:=ki (f.o.below C);replace a:=ki (a.o.below C);have U:=ki (show P4.jm zs=P4.ck (P4.src zs) (P4.dst zs) eO z9 (P4.wd zs 4) (20+((len-20:Nat):Int)) by unfold P4.jm;rw[JZ.o,J2.o,G];congr 1;omega);clear C hao;generalize l.heap.size=B1 at t dO⊢;generalize (l.alloc (.cells #[.int .i64 (P4.src zs),.int .i64 (P4.dst zs),.int .i64 eO,.int .i64 z9,.int .i64 (P4.wd zs 4),.slice ao (len-20) (cap-20)] 108)).drewN N=W4 at n q f a t⊢;clear HS HD;rw[U.o] at B;have D:=ki (fun W=>BK (P4.src zs) (P4.dst zs) eO z9 (P4.wd zs 4) ao (len-20) (cap-20) 0 W A.o (by omega) (by omega));have v:=ki (fun g c' W (h:aj W (some ⟨g,0,none⟩) 20 c' (P4.hd (P4.src zs) (P4.dst zs) eO z9 (P4.wd zs 4) (20+((len-20:Nat):Int)) 0))=>yE _ 20 c' _ W h (by omega));have Q:=P4.wu _ _ _ _ _ _ (Ah A.o (show len-20<=320 by omega));have V:65535-SM.fold (SM.tot (P4.hd (P4.src zs) (P4.dst zs) eO z9 (P4.wd zs 4) (20+((len-20:Nat):Int)) 0) 20)=P4.ck (P4.src zs) (P4.dst zs) eO z9 (P4.wd zs 4) (20+((len-20:Nat):Int)):=rfl;generalize P4.ck (P4.src zs) (P4.dst zs) eO z9 (P4.wd zs 4) (20+((len-20:Nat):Int))=c at B Q V U;generalize SM.fold (SM.tot (P4.hd (P4.src zs) (P4.dst zs) eO z9 (P4.wd zs 4) (20+((len-20:Nat):Int)) 0) 20)=x at v V;have gW:IntKind.i64.wrap (65535-x)=c:=by rw[IntKind.wrap_i64];omega
  clear V Q U A;unfold pk at D;generalize hs:P4.src zs=s at D v t⊢;generalize hd:P4.dst zs=d at D v t⊢;generalize hi:P4.wd zs 4=i at D v t⊢;have WO:=ki hs;have WQ:=ki hd;have WR:=ki hi;clear hs hd hi;have I:=ki (fun x h0 h1=>mF g off len cap zs W4.drew x (f.o.drewN 1) h0 h1);replace t:=ki (show aI B1 s d eO z9 i ao (len-20) (cap-20) W4.drew from t.o);replace q:=ki (show aI w.heap.size 0 0 0 0 0 none 0 0 W4.drew from q.o);replace n:=ki (show Below w.heap.size w W4.drew from n.o.drew);replace a:=ki (a.o.drewN 1);replace a:=ki (show aj W4.drew ao (len-20) (cap-20) (zs.drop 20) from a.o);have az:(P4.wd zs 10 != c) = !r:=by
   cases r
   ·have:¬P4.wd zs 10=c:=fun e=>by have:=B.o.1 e;cases this
    simpa using this
   ·simpa using B.o.2 rfl
  go_cut [63] from 57 to 63 (fun v63 W=>v63=.bool (!r)∧Hid (aI B1 s d eO z9 i ao (len-20) (cap-20) W∧aI w.heap.size 0 0 0 0 0 none 0 0 W∧aj W ao (len-20) (cap-20) (zs.drop 20)∧Below w.heap.size w W))
  case first =>
   go_region_held3 (fun w'=>w'.cell? ⟨B1,0,none⟩=some (.int .i64 s)∧w'.cell? ⟨B1,1,none⟩=some (.int .i64 d)∧w'.cell? ⟨B1,2,none⟩=some (.int .i64 eO)∧w'.cell? ⟨B1,3,none⟩=some (.int .i64 z9)∧w'.cell? ⟨B1,4,none⟩=some (.int .i64 i)∧w'.cell? ⟨B1,5,none⟩=some (.slice ao (len-20) (cap-20)))
    (first
     | exact t.o.all
     | go_keep)
    (first|(go_at_call 78;with_reducible refine(I.o _ (by omega) (by omega)).mono ?_;rintro e w5 ⟨rfl,E⟩;replace t:=ki (t.o.kept E);replace q:=ki (q.o.kept E);replace n:=ki (bt n.o E);replace a:=ki (a.o.below E);clear E)|(go_at_call 87;with_reducible refine(D.o _).mono ?_;rintro e w6 ⟨g6,c6,rfl,L,-,F⟩;replace t:=ki (t.o.kept F);replace q:=ki (q.o.kept F);replace n:=ki (bt n.o F);replace a:=ki (a.o.below F);replace L:=ki L;clear F)|(go_at_call 88;with_reducible refine(v.o _ _ _ L.o).mono ?_;rintro e w7 ⟨rfl,rfl⟩))
   go_wp2_with fail
   go_meet
   exact⟨rfl,t.o,q.o,a.o,n.o⟩
  case rest =>
   obtain⟨rfl,HX⟩:=hcut;obtain⟨X,J,y,O⟩:=HX.o;obtain⟨c0,c1,c2,c3,c4,c5⟩:=J.all;obtain⟨k0,k1,k2,k3,k4,k5⟩:=J.aZ;obtain⟨n0,n1,M,n3,n4,n5⟩:=X.all;replace X:=ki X;replace J:=ki J;replace y:=ki y;replace O:=ki O;clear HX B az;cases r
   ·go_wp2;try simp only[Exit.inBlock,Exit.then]
    refine bodyPost_ret (lq rfl _ _ w.heap.size 0 0 0 0 0 none 0 0 rfl (nU J.o 0 0 0 0 0 none 0 0)) rfl ?_;have z:=nT O.o (Nat.le_refl _) 0 0 0 0 0 none 0 0;first
    | exact⟨rfl,z⟩
    | exact⟨.inl ⟨rfl,rfl⟩,z⟩
   ·go_wp2;try simp only[Exit.inBlock,Exit.then]
    refine bodyPost_ret (lq rfl _ _ w.heap.size s d eO z9 i ao (len-20) (cap-20) rfl (nU J.o s d eO z9 i ao (len-20) (cap-20))) rfl ?_;have z:=nT O.o (Nat.le_refl _) s d eO z9 i ao (len-20) (cap-20);have Y:aj (qH wc w.heap.size s d eO z9 i ao (len-20) (cap-20)) ao (len-20) (cap-20) (zs.drop 20):=y.o.heap (fun b o e=>by have:=ax.o b o e;have:=ad.o;exact Ai wc w.heap.size b (by omega) s d eO z9 i ao (len-20) (cap-20));have a1:zs[8]?.getD 0=eO:=by rw[<-List.getD_eq_getElem?_getD];exact JZ.o
    have a2:zs[9]?.getD 0=z9:=by rw[<-List.getD_eq_getElem?_getD];exact J2.o
    refine⟨⟨ao,?_,Y⟩,z⟩;rw[WO.o,WQ.o,WR.o,a1,a2];rfl
end aF
end Go.Proofs.YtgcojnlngchllaaGreatDoor
