import Derived.Test.YtgcojnlngchllaaGreatDoorJ35
namespace Go.Proofs.YtgcojnlngchllaaGreatDoor
open Go.RowKit Tryz
set_option linter.unusedVariables false
set_option maxRecDepth 100000
set_option maxHeartbeats 40000000
section
variable {g:GS}{q:Int}{D z:List Int}{n:Nat}
def lQ(k:Int)(s:List Int)(p:Int)(d:List Int)(q:Int):List Int:=[k,el s 0,el s 1,el s 2,el s 3,el s 4,el s 5,el s 6,el s 7,p,el d 0,el d 1,el d 2,el d 3,el d 4,el d 5,el d 6,el d 7,q]
def bT(z:List Int)(f t:Int):List Int:=[el z 0,f,t,el z 3,el z 4,el z 5,el z 6]
def bF(g:GS)(f:List Int)(l:Bool×Int):Int×Int×Int:=if l.1=true then (el (dW (el g.c 19) f g.bk).1 1,el (dW (el g.c 19) f g.bk).1 2,(dW (el g.c 19) f g.bk).2) else (l.2,el f 18,0)
def f6(zs:List Int):List Int:=lQ (el (dN zs).2.1 0) (bf zs 8) (el (dN zs).2.1 1) (bf zs 24) (el (dN zs).2.1 2)
def jE(g:GS)(b:List Int)(hop:Int)(z D:List Int):Int×List Int×GS :=
 if (bP g b z D).1≠0 then ((bP g b z D).1,[],(bP g b z D).2.2.2)
 else (0,gY (el g.c 18) (el b 20) (hop-1) (bT (bP g b z D).2.1 (el b 19) (el b 21)) (bP g b z D).2.2.1,(bP g b z D).2.2.2)
def g6(g:GS)(zs:List Int):Int×List Int×GS :=
 if ¬(40<=zs.length∧zs.length<=360∧P4.wd zs 0=24576∧P4.wd zs 2=0∧P4.wd zs 4=(zs.length:Int)-40) then (5,[],g)
 else if (dN zs).1≠0 then ((dN zs).1,[],g)
 else if (aU g.c (f6 zs)).1≠0 then (4,[],g)
 else if tell g.c g.inj (f6 zs)=true∧el (dN zs).2.1 5/2%2=1∧0<(dN zs).2.2.length then (2,[],g)
 else if (bE g (f6 zs) (el (dN zs).2.1 5) (bF g (f6 zs) (aU g.c (f6 zs)).2)).1≠0 then ((bE g (f6 zs) (el (dN zs).2.1 5) (bF g (f6 zs) (aU g.c (f6 zs)).2)).1,[],(bE g (f6 zs) (el (dN zs).2.1 5) (bF g (f6 zs) (aU g.c (f6 zs)).2)).2.2)
 else jE (bE g (f6 zs) (el (dN zs).2.1 5) (bF g (f6 zs) (aU g.c (f6 zs)).2)).2.2 (bE g (f6 zs) (el (dN zs).2.1 5) (bF g (f6 zs) (aU g.c (f6 zs)).2)).2.1 (zs.getD 7 0) (dN zs).2.1 (dN zs).2.2
def CI(g:GS):Prop:=aH (dA g.c)∧aH (pfx g.c)∧aQ.eY (el g.c 17)∧up 4294967295 (el g.c 18)=true∧(dz g.bk).2=0
theorem vH{k over steps:Int}{zs:List Int}(h:(iQ k over steps zs).1=0):bC (iQ k over steps zs).2.1 (iQ k over steps zs).2.2.length∧el (iQ k over steps zs).2.1 0=k∧eb (iQ k over steps zs).2.1 over (iQ k over steps zs).2.2=zs∧2<=steps:=by
 unfold iQ at h⊢;split at h
 ·cases h
 ·split at h
  ·rename_i h1 h2;exact absurd h h2
  ·split at h
   ·cases h
   ·rename_i h1 h2 h3;rw[if_neg h1,if_neg h2,if_neg h3];obtain⟨a,b,d⟩:=BU h;exact⟨a,b,d,by omega⟩
theorem rT(h:bC z n){f t:Int}(hf:0<=f∧f<=65535)(ht:0<=t∧t<=65535):bC (bT z f t) n:=⟨hf,ht,h.2.2.1,h.2.2.2⟩
theorem I8(h:bC z n)(h6:el z 0=6)(hq:0<=q∧q<4294967296){m:Nat}(hm:m<=300):bC (iI z q) m:=by
 obtain⟨a,b,_,h4|h4⟩:=h
 ·exact⟨a,b,hm,.inl ⟨h6,⟨hq.1,by show q<=4294967295;omega⟩,h4.2.2⟩⟩
 ·omega
theorem UO(h:bC z n)(h6:el z 0=6)(hq:0<=q∧q<4294967296):bC (nV z q) n:=by
 obtain⟨a,b,d,h4|h4⟩:=h
 ·exact⟨a,b,d,.inl ⟨h6,h4.2.1,⟨hq.1,by show q<=4294967295;omega⟩,h4.2.2.2⟩⟩
 ·omega
theorem UQ{hd:List Int}{s:Int}{b hh:Bool}(h:bC z D.length)(h0:(dM hd s b hh z D).1=0):bC (dM hd s b hh z D).2.1 (dM hd s b hh z D).2.2.1.length∧el (dM hd s b hh z D).2.1 0=el z 0:=by
 unfold dM at h0⊢;by_cases hc:cf z D.length≠0
 ·rw[if_pos hc] at h0;exact absurd h0 hc
 ·rw[if_neg hc] at h0⊢;have a:=(qI (Classical.not_not.1 hc)).1;by_cases h2:el z 5/2%2=1
  ·rw[if_pos h2] at h0⊢;unfold iJ at h0⊢;by_cases h3:0<D.length
   ·rw[if_pos h3] at h0;cases h0
   ·rw[if_neg h3];exact⟨I8 h a (sD _) (Nat.zero_le _),rfl⟩
  ·rw[if_neg h2] at h0⊢;by_cases h3:b=false
   ·rw[if_pos h3] at h0;cases h0
   ·rw[if_neg h3] at h0⊢;by_cases h4:el z 3=s∧hh=false
    ·rw[if_pos h4] at h0⊢;unfold iZ at h0⊢;by_cases h5:300<hd.length+D.length
     ·rw[if_pos h5] at h0;cases h0
     ·rw[if_neg h5];exact⟨I8 h a (sD _) (by rw[List.length_append];omega),rfl⟩
    ·rw[if_neg h4];exact⟨h,rfl⟩
theorem UR{s:Int}{b hh:Bool}(h:bC z D.length)(hs:0<=s∧s<4294967296)(h0:(eF s b hh z D).1=0):bC (eF s b hh z D).2.1 (eF s b hh z D).2.2.1.length∧el (eF s b hh z D).2.1 0=el z 0:=by
 unfold eF at h0⊢;by_cases hc:cf z D.length≠0
 ·rw[if_pos hc] at h0;exact absurd h0 hc
 ·rw[if_neg hc] at h0⊢;have a:=(qI (Classical.not_not.1 hc)).1;by_cases h3:b=false
  ·rw[if_pos h3] at h0;cases h0
  ·rw[if_neg h3] at h0⊢;by_cases h4:el z 5/16%2=0
   ·rw[if_pos h4];exact⟨h,rfl⟩
   ·rw[if_neg h4];by_cases h5:nX (el z 4) s=true
    ·rw[if_pos h5];exact⟨UO h a hs,rfl⟩
    ·rw[if_neg h5];exact⟨h,rfl⟩
theorem yN{b:List Int}(h:bC z D.length)(h0:(bP g b z D).1=0):bC (bP g b z D).2.1 (bP g b z D).2.2.1.length∧el (bP g b z D).2.1 0=el z 0:=by
 unfold bP at h0⊢;split at h0
 ·rename_i ht;rw[if_pos ht];exact UQ h h0
 ·rename_i ht;rw[if_neg ht];exact⟨h,rfl⟩
theorem I9{b:List Int}(hs:eU g)(h:bC z D.length)(h0:(cZ g b z D).1=0):bC (cZ g b z D).2.1 (cZ g b z D).2.2.1.length∧el (cZ g b z D).2.1 0=el z 0:=by
 unfold cZ at h0⊢;split at h0
 ·rename_i st hst;exact UR h (hs _ (jA hst)).2 h0
 ·exact⟨h,rfl⟩
theorem Ch(g:GS)(b z D:List Int):(bP g b z D).2.2.2.c=g.c∧(bP g b z D).2.2.2.now=g.now∧(bP g b z D).2.2.2.bs=g.bs:=by unfold bP;split<;>exact⟨rfl,rfl,rfl⟩
theorem Ci{s d:List Int}(h:bC z n)(hs:aH s)(hd:aH d):aW (lQ (el z 0) s (el z 1) d (el z 2))=true:=by
 have a:s6 (cli (lQ (el z 0) s (el z 1) d (el z 2)))=true:=(fE _).2 fun k hk=>by rcases (by omega:k=0∨k=1∨k=2∨k=3∨k=4∨k=5∨k=6∨k=7) with rfl|rfl|rfl|rfl|rfl|rfl|rfl|rfl<;>exact hs _ (by omega)
 have b:s6 (dst (lQ (el z 0) s (el z 1) d (el z 2)))=true:=(fE _).2 fun k hk=>by rcases (by omega:k=0∨k=1∨k=2∨k=3∨k=4∨k=5∨k=6∨k=7) with rfl|rfl|rfl|rfl|rfl|rfl|rfl|rfl<;>exact hd _ (by omega)
 have e:wd (el z 1)=true:=(jH _).2 h.1;have h4:wd (el z 2)=true:=(jH _).2 h.2.1;have f:((el z 0 == 6) || (el z 0 == 17))=true:=by
  obtain⟨_,_,_,h|h⟩:=h
  ·rw[h.1];rfl
  ·rw[h.1];rfl
 unfold aW;rw[a,b];show(((el z 0 == 6) || (el z 0 == 17)) && true && true && wd (el z 1) && wd (el z 2))=true;rw[e,h4,f];rfl
theorem Ja{k:Int}{s:List Int}{p:Int}{d:List Int}(hd:aH d):aH (dst (lQ k s p d q)):=fun k hk=>by rcases (by omega:k=0∨k=1∨k=2∨k=3∨k=4∨k=5∨k=6∨k=7) with rfl|rfl|rfl|rfl|rfl|rfl|rfl|rfl<;>exact hd _ (by omega)
theorem UU{seed:Int}{f:List Int}{bk:List (List Int)}(h:(dW seed f bk).2=0):∃i,i<bk.length∧(dW seed f bk).1=bk.getD i []∧(dz bk).2=0:=by
 unfold dW at h⊢;by_cases h1:(dz bk).2=0
 ·rw[if_pos h1] at h⊢;by_cases h2:fA seed f 0=true
  ·rw[if_pos h2] at h⊢;unfold lD at h⊢;cases hp:(bZ seed f bk bk.length).1 with
   | none=>rw[hp] at h;cases h
   | some i=>exact⟨i,uM seed f bk _ i hp,rfl,h1⟩
  ·rw[if_neg h2] at h;cases h
 ·rw[if_neg h1] at h;exact absurd h h1
theorem UW(z:List Int)(h:aH z)(q:Nat)(hq:q<=12):0<=aQ.lG z q∧aQ.lG z q<=4294967295:=by
 have hp:∀k,k<4->aQ.pos q k<16:=fun k hk=>aQ.mo hq hk
 have a:=aQ.kN z h _ (hp 0 (by omega));have b:=aQ.kN z h _ (hp 1 (by omega));have d:=aQ.kN z h _ (hp 2 (by omega));have e:=aQ.kN z h _ (hp 3 (by omega));unfold aQ.lG;omega
theorem vW(hc:CI g){f:List Int}(hf:aW f=true)(hd:aH (dst f))(hl:(aU g.c f).1=0)(h:(bF g f (aU g.c f).2).2.2=0):fr (bF g f (aU g.c f).2).1=true∧wd (bF g f (aU g.c f).2).2.1=true:=by
 unfold bF at h⊢;by_cases hv:(aU g.c f).2.1=true
 ·rw[if_pos hv] at h⊢;obtain⟨i,b,e,hb⟩:=UU h;have a:=(uK hb).2 i b;dsimp only;rw[e];have:=a.1;unfold iK at this;simp only[Bool.and_eq_true] at this;exact⟨this.1.2,this.1.1.2⟩
 ·rw[if_neg hv];refine⟨?_,?_⟩
  ·unfold aU at hl hv⊢;split at hl
   ·rename_i h1;rw[if_pos h1] at hv;exact absurd rfl hv
   ·rename_i h1;rw[if_neg h1];split at hl
    ·rename_i h2;rw[if_pos h2];show fr (j4 (dst f) (el g.c 17)).1=true;unfold j4;have d:(el g.c 17/8).toNat<=12:=by have:=hc.2.2.1;unfold aQ.eY at this;omega
     have k:=UW (dst f) hd _ d;split
     ·rfl
     ·unfold fr;rw[Bool.and_eq_true,decide_eq_true_eq,decide_eq_true_eq];exact k
    ·cases hl
  ·unfold aW at hf;simp only[Bool.and_eq_true] at hf;exact hf.2
theorem Jb{f:List Int}{flags:Int}{wr:Int×Int×Int}(hi:fJ g)(hf:aW f=true)(hw:wr.2.2=0->fr wr.1=true∧wd wr.2.1=true)(h:(bE g f flags wr).1=0):aW (bE g f flags wr).2.1=true∧(0<=el (bE g f flags wr).2.1 19∧el (bE g f flags wr).2.1 19<=65535)∧fr (el (bE g f flags wr).2.1 20)=true∧wd (el (bE g f flags wr).2.1 21)=true∧ak (bE g f flags wr).2.1=ak f:=by
 cases hn:bY g.bs f with
 | some k =>
  rw[oL hn];obtain⟨_,d,a⟩:=nN hn;obtain⟨e,⟨i,p,q,_⟩,_,l,n⟩:=hi.2.2.1.1 _ d;have:=hi.1;refine⟨e,⟨?_,?_⟩,l,n,a⟩
  ·show 0<=el (g.bs.getD k []) 19;omega
  ·show el (g.bs.getD k []) 19<=65535;omega
 | none =>
  rw[mP hn] at h⊢;split at h
  ·cases h
  ·rename_i d;rw[if_neg d];split at h
   ·rename_i a;exact absurd h a
   ·rename_i a;rw[if_neg a];have b:=hw (Classical.not_not.1 a);split at h
    ·cases h
    ·rename_i i ht;have o:i<8*g.m:=by unfold tk at ht;rcases Option.or_eq_some_iff.1 ht with h3|⟨_,h3⟩<;>exact List.mem_range.1 (List.mem_of_find?_eq_some h3)
     have:=hi.1;refine⟨hf,⟨?_,?_⟩,b.1,b.2,rfl⟩
     ·show 0<=1024+(i:Int);omega
     ·show 1024+(i:Int)<=65535;omega
theorem Cj(g:GS)(f:List Int)(flags:Int)(wr:Int×Int×Int):(bE g f flags wr).2.2.ss=g.ss∧(bE g f flags wr).2.2.c=g.c∧(bE g f flags wr).2.2.inj=g.inj∧(bE g f flags wr).2.2.bk=g.bk∧(bE g f flags wr).2.2.now=g.now∧(bE g f flags wr).2.2.m=g.m:=by
 unfold bE;split
 ·exact⟨rfl,rfl,rfl,rfl,rfl,rfl⟩
 ·split
  ·exact⟨rfl,rfl,rfl,rfl,rfl,rfl⟩
  ·split
   ·exact⟨rfl,rfl,rfl,rfl,rfl,rfl⟩
   ·split<;>exact⟨rfl,rfl,rfl,rfl,rfl,rfl⟩
end
section
variable {z:List Int}{w:World}
theorem Jc(G:Nat)(b:Option Addr)(len aX:Nat)(E:Int)(w:World)(hO:Calls prog 95 #[.slice b len aX] w fun e w'=>(∃s d h k a1 l1 c1 z a2 l2 c2,e=.returned (.tuple #[.agg (aB.cB s d h k a1 l1 c1),.agg (aA z a2 l2 c2),err E]))∧Below w.heap.size w w'): Calls prog 51 #[.pointer (some ⟨G,0,none⟩),.slice b len aX] w fun e w'=>e=.returned (.tuple #[.slice none 0 0,err E])∧Below w.heap.size w w':=by
 have n:=ki hO;have o:=ki (fun W=>oC.start W);unfold aB.dH aN at o;unfold err at n⊢;clear hO;go_enter func51,ntmps51;go_wp2_with (first|(go_at_call 95;refine n.o.mono ?_;rintro e r ⟨⟨s,d,h,k,a1,l1,c1,z,a2,l2,c2,rfl⟩,f⟩;have i:=ki (o.o r);have l:=ki f;clear f)|(refine aB.aK rfl (.tmp 6) (.tmp 15) rfl rfl i.o.1 s d h k a1 l1 c1 rfl ?_;intro y t a;have v:=ki (a.sg i.o.2.1 (by omega));have p:=ki (a.below (bt l.o i.o.2.2) l.o.size);clear t a)|(refine aK rfl (.tmp 7) (.tmp 16) rfl rfl v.o z a2 l2 c2 rfl ?_;intro A x g;have q:=ki (g.below p.o (Nat.le_succ_of_le l.o.size));clear x g))
 go_ret2;exact⟨rfl,q.o⟩
def cu(w:World)(P Q F:Nat)(s d:List Int)(h k:Int)(a1:Option Addr)(l1 c1:Nat)(z:List Int)(a2:Option Addr)(l2 c2:Nat)(D f:List Int)(W:World):Prop:=aB.aI P s d h k a1 l1 c1 W∧aG Q z a2 l2 c2 W∧bn F f W∧aj W a2 l2 c2 D∧w.heap.size<=P∧w.heap.size<=Q∧w.heap.size<=F
theorem cu.rE{P Q F:Nat}{s d:List Int}{h k:Int}{a1:Option Addr}{l1 c1:Nat}{a2:Option Addr}{l2 c2:Nat}{D f:List Int}{W W':World}(i:cu w P Q F s d h k a1 l1 c1 z a2 l2 c2 D f W){O:Nat->Prop}(kp:aL O W W')(hO:¬O P∧¬O Q∧¬O F):cu w P Q F s d h k a1 l1 c1 z a2 l2 c2 D f W':=by obtain⟨a,b,e,g,l,n,o⟩:=i;exact⟨(kp.1.2.2.2.2 P a.lt hO.1).trans a,(kp.1.2.2.2.2 Q b.lt hO.2.1).trans b,(kp.1.2.2.2.2 F e.lt hO.2.2).trans e,kp.2 _ _ _ _ g,l,n,o⟩
theorem cu.kept{P Q F:Nat}{s d:List Int}{h k:Int}{a1:Option Addr}{l1 c1:Nat}{a2:Option Addr}{l2 c2:Nat}{D f:List Int}{W W':World}(i:cu w P Q F s d h k a1 l1 c1 z a2 l2 c2 D f W)(hb:Below W.heap.size W W'):cu w P Q F s d h k a1 l1 c1 z a2 l2 c2 D f W':=i.rE (aL.of (O:=fun _=>False) hb) ⟨id,id,id⟩
theorem UY(G:Nat)(a:Option Addr)(cap:Nat)(tv:Value)(S:Nat)(ah:Nat->Prop)(β:Int->Nat)(g:GS)(f:List Int)(w:World)(h:GC G a cap tv S ah β g w)(hc:CI g)(hd:aH (dst f)): Calls prog 96 #[.pointer (some ⟨G,0,none⟩),.agg (ak f)] w fun e w'=>(((aU g.c f).1≠0∧(aU g.c f).1=4∧∃v,e=.returned (.tuple #[v,err 4]))∨((aU g.c f).1=0∧∃v,e=.returned (.tuple #[v,.nilIface])∧nJ G f (aU g.c f).2 v w'))∧Below w.heap.size w w':=by
 by_cases hv:dn (dst f) (dA g.c)=true∧el f 18=el g.c 8
 ·have e:aU g.c f=(0,true,0):=if_pos hv;rw[e];exact(Ur G g.c g.inj a g.bk.length cap tv S g.now f w h.1 hv.1 hv.2).mono fun r w' ⟨v,e1,e2,e3⟩=>⟨.inr ⟨rfl,v,e1,e2⟩,e3⟩
 ·exact Us G g.c g.inj a g.bk.length cap tv S g.now f w h.1 hv hd hc.2.1 hc.2.2.1
theorem UZ(G:Nat)(a:Option Addr)(cap:Nat)(tv:Value)(S:Nat)(ah:Nat->Prop)(β:Int->Nat)(g:GS)(f:List Int)(flags:Int)(v:Value)(w:World)(h:GC G a cap tv S ah β g w)(hi:fJ g)(hc:CI g)(hf:aW f=true)(hd:aH (dst f))(hfl:0<=flags∧flags<=31)(hl:(aU g.c f).1=0)(hv:nJ G f (aU g.c f).2 v w): Calls prog 98 #[.pointer (some ⟨G,0,none⟩),.agg (ak f),.int .i64 flags,v] w fun e w'=>e=.returned (.tuple #[.agg (ay (bE g f flags (bF g f (aU g.c f).2)).2.1),ev (bE g f flags (bF g f (aU g.c f).2)).1])∧kV w w.heap.size G a cap tv S ah β g (bE g f flags (bF g f (aU g.c f).2)).2.2 w':=by
 cases hn:bY g.bs f with
 | some k =>rw[oL hn];exact Ux G a cap tv S ah β g f flags v k w h hi hf hn
 | none =>
  have d:=fun h0=>vW hc hf hd hl h0
  rcases hv with⟨hb,B,F,rfl,hp,hF⟩|⟨hb,B,F,rfl,hp,hF⟩
  ·refine I5 G a cap tv S ah β g f flags _ _ _ w h hi hf hfl hn (enters_of func140 (by kernel_rfl) rfl) (fun W hW=>?_) d;have b:=h.kept hW;have e:bF g f (aU g.c f).2=(el (dW (el g.c 19) f g.bk).1 1,el (dW (el g.c 19) f g.bk).1 2,(dW (el g.c 19) f g.bk).2):=if_pos hb;rw[e];exact Ut B F G g.c g.inj a cap tv S g.now f g.bk W (hp.kept hW) (hF.kept hW) b.1 b.2.1.1.tO (Nat.le_trans b.2.1.2.2.1 b.2.1.2.2.2) b.2.1.2.2.1
  ·refine I5 G a cap tv S ah β g f flags _ _ _ w h hi hf hfl hn (enters_of func143 (by kernel_rfl) rfl) (fun W hW=>?_) d;have e:bF g f (aU g.c f).2=((aU g.c f).2.2,el f 18,0):=if_neg (by rw[hb];decide);rw[e];exact Uu B F _ f W (hp.kept hW) (hF.kept hW)
def Jd(ps:Array (Nat×Value)):Sem Value:=Instr.build 89 ps
theorem CB(ps:Array (Nat×Value)):Instr.build 89 ps=Jd ps:=rfl
theorem CO(k:Int)(s:List Int)(p:Int)(d:List Int)(q:Int)(w:World):(Jd #[(0,.int .i64 k),(1,.agg (av s)),(2,.int .i64 p),(3,.agg (av d)),(4,.int .i64 q)]).run prog w=.ok (.agg (ak (lQ k s p d q))) w:=by kernel_rfl
theorem aG.rR{B:Nat}{a:Option Addr}{len cap:Nat}(p:aG B z a len cap w)(f t:Int):aG B (bT z f t) a len cap ((w.setCell ⟨B,1,none⟩ (.int .i64 f)).setCell ⟨B,2,none⟩ (.int .i64 t))∧Only B w ((w.setCell ⟨B,1,none⟩ (.int .i64 f)).setCell ⟨B,2,none⟩ (.int .i64 t)):=by
 have b:aG B [el z 0,f,el z 2,el z 3,el z 4,el z 5,el z 6] a len cap (w.setCell ⟨B,1,none⟩ (.int .i64 f))∧Only B w (w.setCell ⟨B,1,none⟩ (.int .i64 f)):=by rw[setCell_eq_setRow w B 1 _ _ (0,0) _ p];exact⟨setRow_heap w B _ _ _ (0,0) p,dS _ _ _⟩
 generalize w.setCell ⟨B,1,none⟩ (.int .i64 f)=w1 at b⊢;have d:aG B (bT z f t) a len cap (w1.setCell ⟨B,2,none⟩ (.int .i64 t))∧Only B w1 (w1.setCell ⟨B,2,none⟩ (.int .i64 t)):=by rw[setCell_eq_setRow w1 B 2 _ _ (0,0) _ b.1];exact⟨setRow_heap w1 B _ _ _ (0,0) b.1,dS _ _ _⟩
 refine⟨d.1,d.2.1.trans b.2.1,d.2.2.1.trans b.2.2.1,d.2.2.2.1.trans b.2.2.2.1,d.2.2.2.2.1.trans b.2.2.2.2.1,fun k hk=>(d.2.2.2.2.2 k hk).trans (b.2.2.2.2.2 k hk)⟩
theorem U0(G:Nat)(a:Option Addr)(cap:Nat)(tv:Value)(S:Nat)(ah:Nat->Prop)(β:Int->Nat)(g:GS)(b z:List Int)(a1:Option Addr)(l1 c1:Nat)(D:List Int)(w:World)(h:GC G a cap tv S ah β g w)(hs:eU g)(hf:aW b=true)(hr:aj w a1 l1 c1 D): Calls prog 99 #[.pointer (some ⟨G,0,none⟩),.agg (ay b),.agg (aA z a1 l1 c1)] w fun e w'=>∃a2 l2 c2,e=.returned (.tuple #[.agg (aA (bP g b z D).2.1 a2 l2 c2),ev (bP g b z D).1])∧aj w' a2 l2 c2 (bP g b z D).2.2.1∧gu w G a cap tv S ah β g (bP g b z D).2.2.2 w':=by
 cases ht:tell g.c g.inj b
 ·exact UK G a cap tv S ah β g b z a1 l1 c1 D w h hr ht
 ·exact UL G a cap tv S ah β g b z a1 l1 c1 D w h hs hf hr ht
attribute [local go_sem ↓] jg gP gV CB
theorem U1(G:Nat)(a:Option Addr)(cap:Nat)(tv:Value)(S:Nat)(ah:Nat->Prop)(β:Int->Nat)(g:GS)(b:Option Addr)(len aX:Nat)(s d:List Int)(hop k:Int)(z D:List Int)(w:World)(h:GC G a cap tv S ah β g w)(hi:fJ g)(hs:eU g)(hc:CI g)(hz:bC z D.length)(h1:aH s)(h2:aH d)(hh:2<=hop∧hop<=255)(hO:Calls prog 95 #[.slice b len aX] w fun e w'=>∃a1 l1 c1 a2 l2 c2,e=.returned (.tuple #[.agg (aB.cB s d hop k a1 l1 c1),.agg (aA z a2 l2 c2),.nilIface])∧aj w' a2 l2 c2 D∧Below w.heap.size w w')(f:List Int)(hf:f=lQ (el z 0) s (el z 1) d (el z 2))(R:Int×List Int×GS)(hR:R=if (aU g.c f).1≠0 then (4,[],g) else if tell g.c g.inj f=true∧el z 5/2%2=1∧0<D.length then (2,[],g) else if (bE g f (el z 5) (bF g f (aU g.c f).2)).1≠0 then ((bE g f (el z 5) (bF g f (aU g.c f).2)).1,[],(bE g f (el z 5) (bF g f (aU g.c f).2)).2.2) else jE (bE g f (el z 5) (bF g f (aU g.c f).2)).2.2 (bE g f (el z 5) (bF g f (aU g.c f).2)).2.1 hop z D): Calls prog 51 #[.pointer (some ⟨G,0,none⟩),.slice b len aX] w fun e w'=>∃a2 l2 c2,e=.returned (.tuple #[.slice a2 l2 c2,ev R.1])∧(aj w' a2 l2 c2 R.2.1∧l2<=c2∧c2<=maxLen)∧gu w G a cap tv S ah β g R.2.2 w':=by
 have HO:=ki hO;have H0:=ki h;have bX:=ki (fun W=>oC.start W);have bw:=ki (fun W=>qh W);have ad:=ki (fun W=>fu W);unfold aB.dH aN at bX;unfold oK at bw;unfold aV at ad;have dO:aW f=true:=by rw[hf];exact Ci hz h1 h2
 have a9:aH (dst f):=by rw[hf];exact Ja h2
 have bz:=ki hf;clear hO;go_enter func51,ntmps51;go_upto_region 4 with(first|(go_at_call 95;refine HO.o.mono ?_;rintro e w1 ⟨a1,l1,c1,a2,l2,c2,rfl,r1,cy⟩;have HR:=ki (bX.o w1);have o:=ki cy;have R1:=ki r1;clear cy r1)|(refine aB.aK rfl (.tmp 6) (.tmp 15) rfl rfl HR.o.1 s d hop k a1 l1 c1 rfl ?_;intro w2 p2 b0;have HS:=ki (b0.sg HR.o.2.1 (by omega));have cz:=ki (b0.below HR.o.2.2 (Nat.le_refl _));have P2:=ki p2;clear p2 b0)|(refine aK rfl (.tmp 7) (.tmp 16) rfl rfl HS.o z a2 l2 c2 rfl ?_;intro w3 p3 b2;have b3:=ki (b2.below cz.o (Nat.le_succ _));have P3:=ki (show aB.aI _ _ _ _ _ _ _ _ w3 from(b2.2.2.2.2 _ (by omega)).trans P2.o);have S3:=ki p3;clear p3 b2 P2 HS cz))
 clear HO bX HR;have hP:=ki o.o.size;replace R1:=ki (R1.o.below b3.o);replace o:=ki (bt o.o b3.o);clear b3;generalize U2:w1.heap.size=P at P3 S3 hP⊢;clear U2;have x0:=S3.o.c0;have x1:=S3.o.c1;have x2:=S3.o.c2;have bu:=fun W=>CO (el z 0) s (el z 1) d (el z 2) W
 go_upto_region 5 with(first|(refine aB.qj rfl (.tmp 23) rfl rfl P3.o ?_)|(refine aB.ql rfl (.tmp 27) rfl rfl P3.o ?_)|(refine qm rfl (.tmp 9) (.tmp 31) rfl rfl (bw.o w3) (lQ (el z 0) s (el z 1) d (el z 2)) rfl ?_;intro w5 p5 ar;rw[<-bz.o] at p5;have HI:=ki (show cu w P (P+1) w3.heap.size s d hop k a1 l1 c1 z a2 l2 c2 D f w5 from⟨P3.o.kept (bq _ ar),S3.o.kept (bq _ ar),p5,R1.o.below (bq _ ar),hP.o,Nat.le_succ_of_le hP.o,o.o.size⟩);have ek:=ki (show P+1<w3.heap.size from S3.o.lt);replace o:=ki (bt o.o (bq _ ar));clear p5 ar))
 clear x0 x1 x2 P3 S3 R1 bw hP bu;generalize zh:w3.heap.size=F at HI ek⊢;clear zh;have ba:=ki (fun W (hW:Below w.heap.size w W)=>UY G a cap tv S ah β g f W (h.kept hW) hc a9);have jK:=HI.o.2.2.1.fl;by_cases hl:(aU g.c f).1=0;case neg =>
  have ae:=ki (show R=(4,[],g) by rw[hR,if_pos hl]);have c9:=ki (show ∀W,Below w.heap.size w W->Calls prog 96 #[.pointer (some ⟨G,0,none⟩),.agg (ak f)] W fun e w'=>(∃v,e=.returned (.tuple #[v,err 4]))∧Below W.heap.size W w' from fun W hW=>(ba.o W hW).mono fun e w' ⟨hh,hb⟩=>by
   rcases hh with⟨_,_,hh⟩|⟨hh,_⟩
   ·exact⟨hh,hb⟩
   ·exact absurd hh hl)
  unfold err at c9;clear ba hl hR h hi hs hc hz h1 h2 hh hf dO a9 ad;go_wp2_with (go_at_call 96;refine(c9.o _ o.o).mono ?_;rintro e w6 ⟨⟨v6,rfl⟩,af⟩;replace o:=ki (bt o.o af);clear af)
  go_ret2;rw[ae.o];exact⟨none,0,0,rfl,⟨dL _,Nat.le_refl _,by unfold maxLen;omega⟩,H0.o.still o.o⟩
 have da:=ki (show ∀W,Below w.heap.size w W->Calls prog 96 #[.pointer (some ⟨G,0,none⟩),.agg (ak f)] W fun e w'=>(∃v,e=.returned (.tuple #[v,.nilIface])∧nJ G f (aU g.c f).2 v w')∧Below W.heap.size W w' from fun W hW=>(ba.o W hW).mono fun e w' ⟨hh,hb⟩=>by
  rcases hh with⟨hh,_⟩|⟨_,hh⟩
  ·exact absurd hl hh
  ·exact⟨hh,hb⟩)
 rw[if_neg (fun h=>h hl)] at hR;have Hi:=ki hi;have Hs:=ki hs;have Hc:=ki hc;have jX:=ki hz;have Hh:=ki hh;have yO:=ki hl;have ae:=ki hR;have dZ:=ki dO;have bb:=ki a9;clear h hi hs hc hz h1 h2 hh hl hR dO a9 hf;go_upto_region 8 with(go_at_call 96;refine(da.o _ o.o).mono ?_;rintro e w6 ⟨⟨v6,rfl,db⟩,af⟩;replace HI:=ki (HI.o.kept af);replace o:=ki (bt o.o af);have lT:=ki db;clear af db jK)
 clear ba da;have jK:=HI.o.2.2.1.fl;have x5:=HI.o.2.1.c5;have x7:=HI.o.2.1.c7;have em:=HI.o.2.2.2.1.1;have dR:0<=el z 5∧el z 5<=31:=by
  obtain⟨_,_,_,hz|hz⟩:=jX.o
  ·exact hz.2.2.2.1
  ·omega
 have ha:=EU (el z 5) dR.1 dR.2;have HT:=ki (fun W (hW:Below w.heap.size w W)=>Ca G g.c g.inj a g.bk.length cap tv S g.now f W (H0.o.1.kept hW));obtain⟨X,hX⟩:∃X:Bool,X=decide (tell g.c g.inj f=true∧el z 5/2%2=1∧0<D.length):=⟨_,rfl⟩;have HX:=ki hX;clear hX;go_cut [55] from 41 to 55 (fun u wx=>u=.bool X∧Hid (cu w P (P+1) F s d hop k a1 l1 c1 z a2 l2 c2 D f wx∧Below w.heap.size w wx∧nJ G f (aU g.c f).2 v6 wx))
 case first =>
  cases hT:tell g.c g.inj f
  ·rw[hT] at HT HX;have q:=ki (show X=false by rw[HX.o];simp);go_wp2_with (go_at_call 97;refine(HT.o _ o.o).mono ?_;rintro e I ⟨rfl,l⟩;have p:=ki (And.intro (HI.o.kept l) (And.intro (bt o.o l) (lT.o.kept l)));clear l)
   go_meet
   exact⟨by rw[q.o],p⟩
  ·rw[hT] at HT HX;by_cases hy:el z 5/2%2=1
   ·rw[if_pos hy] at ha;by_cases hD:0<D.length
    ·have q:=ki (show X=true by rw[HX.o];simp[hy,hD]);have ep:(0:Int)<(l2:Int):=by omega
     go_wp2_with (go_at_call 97;refine(HT.o _ o.o).mono ?_;rintro e I ⟨rfl,l⟩;have p:=ki (And.intro (HI.o.kept l) (And.intro (bt o.o l) (lT.o.kept l)));replace HI:=ki (HI.o.kept l);clear jK x5 x7;have x5:=HI.o.2.1.c5;have x7:=HI.o.2.1.c7;clear l)
     go_meet
     exact⟨(by first|(rw[q.o];done)|(rw[q.o];simp;done)|(rw[q.o];simp;omega)),p⟩
    ·have q:=ki (show X=false by rw[HX.o];simp[hD]);have ep:(l2:Int)=0:=by omega
     go_wp2_with (go_at_call 97;refine(HT.o _ o.o).mono ?_;rintro e I ⟨rfl,l⟩;have p:=ki (And.intro (HI.o.kept l) (And.intro (bt o.o l) (lT.o.kept l)));replace HI:=ki (HI.o.kept l);clear jK x5 x7;have x5:=HI.o.2.1.c5;have x7:=HI.o.2.1.c7;clear l)
     go_meet
     exact⟨(by first|(rw[q.o];done)|(rw[q.o];simp;done)|(rw[q.o];simp;omega)),p⟩
   ·rw[if_neg hy] at ha;have q:=ki (show X=false by rw[HX.o];simp[hy]);go_wp2_with (go_at_call 97;refine(HT.o _ o.o).mono ?_;rintro e I ⟨rfl,l⟩;have p:=ki (And.intro (HI.o.kept l) (And.intro (bt o.o l) (lT.o.kept l)));replace HI:=ki (HI.o.kept l);clear jK x5 x7;have x5:=HI.o.2.1.c5;have x7:=HI.o.2.1.c7;clear l)
    go_meet
    exact⟨by rw[q.o],p⟩
 case rest =>
  obtain⟨rfl,p⟩:=hcut;clear HI o lT jK x5 x7 ha HT em;cases X;case true =>have eq:=ki (show R=(2,[],g) by rw[ae.o,if_pos (of_decide_eq_true HX.o.symm)]);clear ae HX Hi Hs Hc jX Hh yO dZ bb ad bz dR;go_wp2;go_ret2;rw[eq.o];exact⟨none,0,0,rfl,⟨dL _,Nat.le_refl _,by unfold maxLen;omega⟩,H0.o.still p.o.2.1⟩
  case false =>
   have aw:=ki (show R=if (bE g f (el z 5) (bF g f (aU g.c f).2)).1≠0 then ((bE g f (el z 5) (bF g f (aU g.c f).2)).1,[],(bE g f (el z 5) (bF g f (aU g.c f).2)).2.2) else jE (bE g f (el z 5) (bF g f (aU g.c f).2)).2.2 (bE g f (el z 5) (bF g f (aU g.c f).2)).2.1 hop z D by rw[ae.o,if_neg (of_decide_eq_false HX.o.symm)]);have N:=ki (fun W (hW:Below w.heap.size w W) (hv:nJ G f (aU g.c f).2 v6 W)=>UZ G a cap tv S ah β g f (el z 5) v6 W (H0.o.kept hW) Hi.o Hc.o dZ.o bb.o dR yO.o hv);have bc:=ki (fun h0=>Jb (flags:=el z 5) (wr:=bF g f (aU g.c f).2) Hi.o dZ.o (fun h=>vW Hc.o dZ.o bb.o yO.o h) h0);have Q:=ki (Cj g f (el z 5) (bF g f (aU g.c f).2));generalize bE g f (el z 5) (bF g f (aU g.c f).2)=B at N bc Q aw;clear ae HX Hi yO dZ bb bz dR;have jK:=p.o.1.2.2.1.fl;have x5:=p.o.1.2.1.c5;by_cases hB:B.1=0;case neg =>
    have E:=ki (show R=(B.1,[],B.2.2) by rw[aw.o,if_pos hB]);have b9:=ki (iY hB);rw[iY hB] at N;unfold err at N;clear aw hB bc Hs Hc jX Hh;go_wp2_with (first|(go_at_call 98;refine(N.o _ p.o.2.1 p.o.2.2).mono ?_;rintro e I ⟨rfl,q7⟩;have HQ:=ki (q7.UF Q.o.1);have bd:=ki (ad.o I);clear q7 jK x5)|(refine fF rfl (.tmp 11) (.tmp 64) rfl rfl bd.o B.2.1 rfl ?_;intro w8 yP ax;replace HQ:=ki (HQ.o.kept (bq _ ax));clear yP ax))
    go_ret2;rw[E.o];exact⟨none,0,0,by rw[b9.o];rfl,⟨dL _,Nat.le_refl _,by unfold maxLen;omega⟩,gu.trans (aL.of p.o.2.1) (fun _ hk=>.inl hk) HQ.o⟩
   case pos =>
    have E:=ki (show R=jE B.2.2 B.2.1 hop z D by rw[aw.o,if_neg (fun h=>h hB)]);have HG:=ki (bc.o hB);rw[hB,jW] at N;clear aw hB bc;go_upto_region 13 with(first|(go_at_call 98;refine(N.o _ p.o.2.1 p.o.2.2).mono ?_;rintro e I ⟨rfl,q7⟩;have HQ:=ki q7;have bd:=ki (ad.o I);clear q7 jK x5)|(refine fF rfl (.tmp 11) (.tmp 64) rfl rfl bd.o B.2.1 rfl ?_;intro w8 yP ax;have ag:=ki yP;have be:=ki (bq _ ax);clear yP ax))
    obtain⟨bI,g7,k7,s7⟩:=HQ.o;have a6:∀k,GO G a ah (SO S β g.ss) k->k<w.heap.size:=fun k hk=>H0.o.lt hk
    have hN:∀k,GO G a bI (SO S β B.2.2.ss) k->GO G a ah (SO S β g.ss) k∨wc.heap.size<=k:=by
     rw[Q.o.1];rintro k (h1|h1|h1|h1)
     ·exact .inl (.inl h1)
     ·exact .inl (.inr (.inl h1))
     ·exact(s7 k h1).imp (fun h=>.inr (.inr (.inl h))) id
     ·exact .inl (.inr (.inr (.inr h1)))
    have iG:∀k,w.heap.size<=k->k<wc.heap.size->¬GO G a bI (SO S β B.2.2.ss) k:=fun k h1 h2 h3=>by
     rcases hN k h3 with h4|h4
     ·have:=a6 k h4;omega
     ·omega
    have ap:∀k,w.heap.size<=k->¬GO G a ah (SO S β g.ss) k:=fun k h1 h2=>by have:=a6 k h2;omega
    obtain⟨i1,i2,i3,i4,i5,i6,i7⟩:=p.o.1;have T:=ki (show ¬GO G a bI (SO S β B.2.2.ss) P∧¬GO G a bI (SO S β B.2.2.ss) (P+1)∧¬GO G a bI (SO S β B.2.2.ss) F∧¬GO G a bI (SO S β B.2.2.ss) I.heap.size from⟨iG P i5 i1.lt,iG _ i6 i2.lt,iG F i7 i3.lt,fun hk=>by have:=g7.lt hk;omega⟩);have M:=ki (((p.o.1).rE k7 ⟨ap P i5,ap _ i6,ap F i7⟩).kept be.o);have dc:=ki (g7.kept be.o);have ex:wc.heap.size<=I.heap.size:=k7.size;have dd:=ki (show aL (GO G a ah (SO S β g.ss)) w w8 from((aL.of p.o.2.1).trans k7 (fun _ hk=>.inl hk)).trans (aL.of (O:=fun _=>False) be.o) (fun _ h=>h.elim));have cb:=ki (show ∀k,GO G a bI (SO S β B.2.2.ss) k->GO G a ah (SO S β g.ss) k∨w.heap.size<=k from fun k hk=>(hN k hk).imp id (fun h=>Nat.le_trans p.o.2.1.size h));have y:=ki (show P+1<w8.heap.size∧P≠P+1∧I.heap.size<w8.heap.size∧P+1<I.heap.size∧w.heap.size<=P∧w.heap.size<=I.heap.size from⟨M.o.2.1.lt,by omega,ag.o.lt,by have:=i2.lt;omega,i5,by have:=p.o.2.1.size;omega⟩);have cc:=ki (fun W (hW:GC G a cap tv S bI β B.2.2 W) (r:aj W a2 l2 c2 D)=>U0 G a cap tv S bI β B.2.2 B.2.1 z a2 l2 c2 D W hW (by have:=Hs.o;unfold eU at this⊢;rw[Q.o.1];exact this) HG.o.1 r);have bh:=ki (fun h0=>yN (g:=B.2.2) (b:=B.2.1) jX.o h0);unfold jE at E;rw[Q.o.2.1] at E;have de:=ki (show(bP B.2.2 B.2.1 z D).2.2.2.c=g.c from(Ch B.2.2 B.2.1 z D).1.trans Q.o.2.1);generalize bP B.2.2 B.2.1 z D=U at cc bh E de;have ey:=ki (show ∀W O β',GC G a cap tv S O β' U.2.2.2 W->W.cell? ⟨G,18,none⟩=some (.int .i64 (el g.c 18)) from fun W O β' h=>by have h1:=h.1.near;rw[de.o] at h1;exact h1);clear hN iG ap a6 i1 i2 i3 i4 i5 i6 i7 g7 k7 s7 ex HQ p bd ad N be;generalize I.heap.size=aM at ag T y⊢;have ez:=ag.o.bl;go_upto_region 14 with(first|(refine bB rfl (.tmp 7) rfl rfl M.o.2.1 ?_)|(go_at_call 99;refine(cc.o _ dc.o M.o.2.2.2.1).mono ?_;rintro e fK ⟨a3,l3,c3,rfl,tK,qx⟩;obtain⟨ai,kJ,g9,k9,s9⟩:=qx;have df:=ki g9;have bi:=ki s9;have vI:=ki tK;have dg:=ki (dd.o.trans k9 cb.o);have vJ:=ki (show aB.aI _ _ _ _ _ _ _ _ fK from(k9.1.2.2.2.2 P M.o.1.lt T.o.1).trans M.o.1);have mK:=ki (show aG _ _ _ _ _ fK from(k9.1.2.2.2.2 (P+1) M.o.2.1.lt T.o.2.1).trans M.o.2.1);have vK:=ki (show aJ _ _ fK from(k9.1.2.2.2.2 aM ag.o.lt T.o.2.2.2).trans ag.o);clear g9 k9 s9 tK ez)|(refine aK rfl (.tmp 7) (.tmp 74) rfl rfl mK.o U.2.1 a3 l3 c3 rfl ?_;intro lU di J;have aq:=ki (show ¬GO G a ai (SO S kJ U.2.2.2.ss) (P+1) from fun hk=>by rcases bi.o _ hk with h1|h1;exact T.o.2.1 h1;have:=y.o.1;omega);have a7:=ki (df.o.other J aq.o (fun j x=>mK.o.dP j x));have a8:=ki (dg.o.own J (by have:=y.o.2.2.2.2.1;omega) (fun j x=>mK.o.dP j x));have dj:=ki (vI.o.past mK.o J);have dk:=ki (show aB.aI _ _ _ _ _ _ _ _ lU from(J.2.2.2.2 P y.o.2.1).trans vJ.o);have bj:=ki (show aJ _ _ lU from(J.2.2.2.2 aM (by have:=y.o;omega)).trans vK.o);have H:=ki di;clear di J))
    have cg:=ki (show ∀k,GO G a ai (SO S kJ U.2.2.2.ss) k->GO G a ah (SO S β g.ss) k∨w.heap.size<=k from fun k hk=>by
     rcases bi.o k hk with h1|h1
     ·exact cb.o k h1
     ·have:=y.o;exact .inr (by omega))
    clear df dg vI vJ mK vK M dc dd ag cc;by_cases hU:U.1=0;case neg =>have bm:=ki (show R=(U.1,[],U.2.2.2) by rw[E.o,if_pos hU]);have b9:=ki (iY hU);rw[iY hU];unfold err;clear E hU bh HG Hs Hc jX Hh;go_wp2;go_ret2;rw[bm.o];exact⟨none,0,0,by rw[b9.o];rfl,⟨dL _,Nat.le_refl _,by unfold maxLen;omega⟩,ai,kJ,a7.o,a8.o,cg.o⟩
    case pos =>
     have bm:=ki (show R=(0,gY (el g.c 18) (el B.2.1 20) (hop-1) (bT U.2.1 (el B.2.1 19) (el B.2.1 21)) U.2.2.1,U.2.2.2) by rw[E.o,if_neg (fun h=>h hU)]);have dl:=ki (bh.o hU);rw[hU,jW];clear E hU bh;have x1:=H.o.c1;have x2:=H.o.c2;have y1:=H.o.aZ 1;have y2:=H.o.aZ 2;have e7:=bj.o.cell 19 (by omega);have e8:=bj.o.cell 21 (by omega);obtain⟨dm,K⟩:=H.o.rR (el B.2.1 19) (el B.2.1 21);have aq:=ki (show ¬GO G a ai (SO S kJ U.2.2.2.ss) (P+1) from fun hk=>by rcases bi.o _ hk with h1|h1;exact T.o.2.1 h1;have:=y.o.1;omega);have A:=ki (a7.o.other K aq.o (fun j x=>H.o.dP j x));have V:=ki (a8.o.own K (by have:=y.o.2.2.2.2.1;omega) (fun j x=>H.o.dP j x));have dB:=ki (dj.o.past H.o K);have bW:=ki (show aB.aI P s d hop k a1 l1 c1 _ from(K.2.2.2.2 P y.o.2.1).trans dk.o);have am:=ki (show aJ aM B.2.1 _ from(K.2.2.2.2 aM (by have:=y.o;omega)).trans bj.o);have Z:=ki dm;clear dm K a7 a8 dj dk bj H;go_upto_region 16 with fail
     go_region
     clear x1 x2 y1 y2 e7 e8;generalize (World.setCell _ _ _).setCell _ _=oF at A V dB bW am Z⊢;go_upto_region 17 with fail
     have C:Below oF.heap.size oF oF.drew:=(Below.refl _ _).drew;replace A:=ki (A.o.kept C);replace V:=ki (V.o.trans (aL.of (O:=fun _=>False) C) (fun _ h=>h.elim));replace dB:=ki (dB.o.below C);replace bW:=ki (bW.o.kept C);replace am:=ki (am.o.kept C);replace Z:=ki (Z.o.kept C);clear C;generalize oF.drew=vL at A V dB bW am Z⊢;have e9:=dB.o.1;subst e9;have hh:=Hh.o;have oN:=ki (show bC (bT U.2.1 (el B.2.1 19) (el B.2.1 21)) U.2.2.1.length from rT dl.o.1 HG.o.2.1 ((jH _).1 HG.o.2.2.2.1));have fT:=ki (fun W (r:aj W a3 U.2.2.1.length c3 U.2.2.1)=>Um (el g.c 18) (el B.2.1 20) (hop-1) (bT U.2.1 (el B.2.1 19) (el B.2.1 21)) a3 U.2.2.1.length c3 U.2.2.1 W Hc.o.2.2.2.1 (by have:=HG.o.2.2.1;unfold fr at this;rw[Bool.and_eq_true,decide_eq_true_eq,decide_eq_true_eq] at this;exact decide_eq_true this) (decide_eq_true ⟨by omega,by omega⟩) oN.o r);have ch:=ki (show gY (el g.c 18) (el B.2.1 20) (hop-1) (bT U.2.1 (el B.2.1 19) (el B.2.1 21)) U.2.2.1=aF.eu (el g.c 18) (el B.2.1 20) (hop-1) (el (bT U.2.1 (el B.2.1 19) (el B.2.1 21)) 0) 0 (eb (bT U.2.1 (el B.2.1 19) (el B.2.1 21)) (o4 (el g.c 18) (el B.2.1 20) (el (bT U.2.1 (el B.2.1 19) (el B.2.1 21)) 0) ((hn (el (bT U.2.1 (el B.2.1 19) (el B.2.1 21)) 0):Nat)+(U.2.2.1.length:Int))) U.2.2.1) from rfl);rw[<-ch.o] at fT;have dp:=ki (show 0<(gY (el g.c 18) (el B.2.1 20) (hop-1) (bT U.2.1 (el B.2.1 19) (el B.2.1 21)) U.2.2.1).length by rw[ch.o];unfold aF.eu;rw[List.length_append,show ∀s d t k i n c,(P4.hd s d t k i n c).length=20 from fun _ _ _ _ _ _ _=>rfl];omega);generalize gY (el g.c 18) (el B.2.1 20) (hop-1) (bT U.2.1 (el B.2.1 19) (el B.2.1 21)) U.2.2.1=Y at fT dp bm;generalize bT U.2.1 (el B.2.1 19) (el B.2.1 21)=zz at fT Z;have qW:IntKind.i64.wrap (hop-1)=hop-1:=by rw[IntKind.wrap_i64];omega
     clear ch oN HG Hs jX dl Hc Hh aq T y bi cb Q;have HQ:=ki (show ∀W',GC G a cap tv S ai kJ U.2.2.2 W'->aB.aI P s d hop k a1 l1 c1 W'->aJ aM B.2.1 W'->aG (P+1) zz a3 U.2.2.1.length c3 W'->W'.cell? ⟨G,18,none⟩=some (.int .i64 (el g.c 18))∧W'.cell? ⟨aM,20,none⟩=some (.int .i64 (el B.2.1 20))∧W'.cell? ⟨P,16,none⟩=some (.int .i64 hop)∧W'.cell? ⟨P+1,0,none⟩=some (.int .i64 (el zz 0))∧(j6 (.pointer (some ⟨P+1,0,none⟩))).run prog W'=.ok (.agg (aA zz a3 U.2.2.1.length c3)) W' from fun W' h1 h2 h3 h4=>⟨ey.o W' _ _ h1,h3.cell 20 (by omega),h2.hop,h4.c0,h4.gl⟩);have aa:Below vL.heap.size vL vL.drew:=(Below.refl _ _).drew;have dq:=ki (HQ.o vL.drew (A.o.kept aa) (bW.o.kept aa) (am.o.kept aa) (Z.o.kept aa));have fa:=ki (dB.o.below aa);have d8:=ki aa;clear aa;obtain⟨q1,q2,q3,q4,q5⟩:=dq.o;go_region_held3 (fun W'=>W'.cell? ⟨G,18,none⟩=some (.int .i64 (el g.c 18))∧W'.cell? ⟨aM,20,none⟩=some (.int .i64 (el B.2.1 20))∧W'.cell? ⟨P,16,none⟩=some (.int .i64 hop)∧W'.cell? ⟨P+1,0,none⟩=some (.int .i64 (el zz 0))∧(j6 (.pointer (some ⟨P+1,0,none⟩))).run prog W'=.ok (.agg (aA zz a3 U.2.2.1.length c3)) W')
      (first
       | exact dq.o
       | exact dt.o
       | go_keep)
      (first|(go_at_call 100;refine(fT.o _ fa.o).mono ?_;rintro e fc ⟨fv,rfl,du,cj⟩;have L:=bt d8.o cj;obtain⟨fw,fy,rfl,k1,k2,-,-,oP⟩:=du.form dp.o;have dt:=ki (HQ.o fc (A.o.kept L) (bW.o.kept L) (am.o.kept L) (Z.o.kept L));have cm:=ki L;have HF:=ki (And.intro oP (And.intro k1 k2));clear cj L du oP k1 k2 q1 q2 q3 q4 q5;obtain⟨q1,q2,q3,q4,q5⟩:=dt.o))
     all_goals
      clear q1 q2 q3 q4 q5;go_wp2;go_ret2;rw[bm.o];exact⟨_,_,_,rfl,HF.o,ai,kJ,A.o.kept cm.o,V.o.trans (aL.of (O:=fun _=>False) cm.o) (fun _ h=>h.elim),cg.o⟩
theorem U3(G:Nat)(a:Option Addr)(cap:Nat)(tv:Value)(S:Nat)(ah:Nat->Prop)(β:Int->Nat)(g:GS)(b:Option Addr)(len aX:Nat)(zs:List Int)(w:World)(h:GC G a cap tv S ah β g w)(hi:fJ g)(hs:eU g)(hc:CI g)(hr:aj w b len aX zs)(hcl:len<=aX)(hcm:aX<=maxLen): Calls prog 51 #[.pointer (some ⟨G,0,none⟩),.slice b len aX] w fun e w'=>∃a2 l2 c2,e=.returned (.tuple #[.slice a2 l2 c2,ev (g6 g zs).1])∧(aj w' a2 l2 c2 (g6 g zs).2.1∧l2<=c2∧c2<=maxLen)∧gu w G a cap tv S ah β g (g6 g zs).2.2 w':=by
 by_cases hG:aB.Good zs
 ·by_cases hE:(dN zs).1=0
  ·have f:=hr.2.2.1;have i:=vH hE;have h8:=aB.nk zs f 8;have k:=aB.nk zs f 24;refine U1 G a cap tv S ah β g b len aX (bf zs 8) (bf zs 24) (zs.getD 7 0) (zs.getD 6 0) (dN zs).2.1 (dN zs).2.2 w h hi hs hc i.1 h8 k ⟨i.2.2.2,(f 7).2⟩ ?_ (f6 zs) rfl (g6 g zs) ?_
   ·have d:=IU b len aX zs w hr hcl hcm hG;rw[hE,jW] at d;exact d
   ·unfold g6;rw[if_neg (fun h=>h hG),if_neg (fun h=>h hE)]
  ·have e:g6 g zs=((dN zs).1,[],g):=by unfold g6;rw[if_neg (fun h=>h hG),if_pos hE]
   rw[e];refine(Jc G b len aX (dN zs).1 w ?_).mono fun r w' ⟨e1,e2⟩=>⟨none,0,0,by rw[e1,iY hE],⟨dL _,Nat.le_refl _,by unfold maxLen;omega⟩,h.still e2⟩
   have d:=IU b len aX zs w hr hcl hcm hG;rw[iY hE] at d;exact d.mono fun r w' ⟨a1,l1,c1,a2,l2,c2,e1,_,e3⟩=>⟨⟨_,_,_,_,_,_,_,_,_,_,_,e1⟩,e3⟩
 ·have e:g6 g zs=(5,[],g):=by unfold g6;exact if_pos hG
  rw[e];refine(Jc G b len aX 5 w ?_).mono fun r w' ⟨e1,e2⟩=>⟨none,0,0,e1,⟨dL _,Nat.le_refl _,by unfold maxLen;omega⟩,h.still e2⟩
  exact(Ug b len aX zs w hr hcl hcm hG).mono fun r w' ⟨e1,e3⟩=>⟨⟨_,_,_,_,_,_,_,_,_,_,_,e1⟩,e3⟩
end
section
def mM(bs:List (List Int))(kind p:Int):Option Nat:=match prt bs p with
 | none=>none
 | some k=>if el (bs.getD k []) 0=kind then some k else none
def oG(g:GS)(b:List Int)(ttl:Int)(z D:List Int):Int×List Int×GS :=
 if (cZ g b z D).1≠0 then ((cZ g b z D).1,[],(cZ g b z D).2.2.2)
 else (0,jd (dst b) (cli b) (ttl-1) (bT (cZ g b z D).2.1 (el b 18) (el b 9)) (cZ g b z D).2.2.1,(cZ g b z D).2.2.2)
def kW(g:GS)(s d ttl kind:Int)(z D:List Int):Int×List Int×GS:=match mM g.bs kind (el z 2) with
 | none=>(4,[],g)
 | some k=>if d=el g.c 18∧s=el (g.bs.getD k []) 20∧el z 1=el (g.bs.getD k []) 21 then oG (g.tab g.ws g.ts (g.bs.set k (bg (g.bs.getD k []) g.now))) (g.bs.getD k []) ttl z D else (4,[],g)
def g4(g:GS)(zs:List Int):Int×List Int×GS :=
 if ¬((20<=zs.length∧zs.length<=340∧P4.wd zs 0=69*256∧P4.wd zs 2=zs.length∧P4.wd zs 6=64*256)∧P4.wd zs 10=P4.jm zs) then (e4 zs,[],g)
 else if (gU zs).1≠0 then ((gU zs).1,[],g)
 else kW g (P4.src zs) (P4.dst zs) (zs.getD 8 0) (zs.getD 9 0) (gU zs).2.1 (gU zs).2.2
theorem U4{bs:List (List Int)}{kind p:Int}(h:mM bs kind p=none):qP bs kind p [] 4:=by
 unfold mM at h;unfold qP;cases hp:prt bs p with
 | none=>exact .inl ⟨rfl,rfl,rfl⟩
 | some k =>
  rw[hp] at h;dsimp only at h;by_cases hk:el (bs.getD k []) 0=kind
  ·rw[if_pos hk] at h;cases h
  ·exact .inr (.inl ⟨k,rfl,beq_eq_false_iff_ne.2 hk,rfl,rfl⟩)
theorem vM{bs:List (List Int)}{kind p:Int}{k:Nat}(h:mM bs kind p=some k):qP bs kind p (bs.getD k []) 0∧prt bs p=some k:=by
 unfold mM at h;unfold qP;cases hp:prt bs p with
 | none=>rw[hp] at h;cases h
 | some j =>
  rw[hp] at h;dsimp only at h;by_cases hk:el (bs.getD j []) 0=kind
  ·rw[if_pos hk] at h;obtain rfl:=Option.some.inj h;exact⟨.inr (.inr ⟨j,rfl,beq_iff_eq.2 hk,rfl,rfl⟩),rfl⟩
  ·rw[if_neg hk] at h;cases h
theorem U5(G:Nat)(a:Option Addr)(cap:Nat)(tv:Value)(S:Nat)(ah:Nat->Prop)(β:Int->Nat)(g:GS)(b z:List Int)(a1:Option Addr)(l1 c1:Nat)(D:List Int)(w:World)(h:GC G a cap tv S ah β g w)(hs:eU g)(hr:aj w a1 l1 c1 D): Calls prog 104 #[.pointer (some ⟨G,0,none⟩),.agg (ay b),.agg (aA z a1 l1 c1)] w fun e w'=>∃a2 l2 c2,e=.returned (.tuple #[.agg (aA (cZ g b z D).2.1 a2 l2 c2),ev (cZ g b z D).1])∧aj w' a2 l2 c2 (cZ g b z D).2.2.1∧gu w G a cap tv S ah β g (cZ g b z D).2.2.2 w':=by
 cases ht:bH g.ss (el b 19) with
 | none=>exact UM G a cap tv S ah β g b z a1 l1 c1 D w h hr ht
 | some st=>exact UN G a cap tv S ah β g b z a1 l1 c1 D st w h hs hr ht
theorem Je(G:Nat)(b:Option Addr)(len aX:Nat)(E:Int)(w:World)(hO:Calls prog 101 #[.slice b len aX] w fun e w'=>(∃s d t k i a1 l1 c1 z a2 l2 c2,e=.returned (.tuple #[aF.pk s d t k i a1 l1 c1,.agg (aA z a2 l2 c2),err E]))∧Below w.heap.size w w'): Calls prog 52 #[.pointer (some ⟨G,0,none⟩),.slice b len aX] w fun e w'=>e=.returned (.tuple #[.slice none 0 0,err E])∧Below w.heap.size w w':=by
 have o:=ki hO;have p:=ki (fun W=>oD.start W);unfold aF.jJ aN at p;unfold err at o⊢;clear hO;go_enter func52,ntmps52;go_wp2_with (first|(go_at_call 101;refine o.o.mono ?_;rintro e v ⟨⟨s,d,h,k,i,a1,l1,c1,z,a2,l2,c2,rfl⟩,f⟩;have l:=ki (p.o v);have n:=ki f;clear f)|(refine aF.aK rfl (.tmp 6) (.tmp 14) rfl rfl l.o.1 s d h k i a1 l1 c1 rfl ?_;intro B x a;have y:=ki (a.sg l.o.2.1 (by omega));have q:=ki (a.below (bt n.o l.o.2.2) n.o.size);clear x a)|(refine aK rfl (.tmp 7) (.tmp 15) rfl rfl y.o z a2 l2 c2 rfl ?_;intro C A g;have r:=ki (g.below q.o (Nat.le_succ_of_le n.o.size));clear A g))
 go_ret2;exact⟨rfl,r.o⟩
end
end Go.Proofs.YtgcojnlngchllaaGreatDoor
