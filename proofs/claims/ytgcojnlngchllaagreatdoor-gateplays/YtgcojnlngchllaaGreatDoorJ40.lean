import Derived.Test.YtgcojnlngchllaaGreatDoorJ38
import Derived.Test.YtgcojnlngchllaaGreatDoorJ32
import Derived.Test.YtgcojnlngchllaaGreatDoorJ16
namespace Go.Proofs.YtgcojnlngchllaaGreatDoor
open Go.RowKit Tryz
set_option linter.unusedVariables false
set_option maxRecDepth 100000
set_option maxHeartbeats 40000000
section
def z7(z:List Int):List Int:=[el z 0,el z 1,el z 2,el z 3,el z 4,el z 5,el z 6]
theorem Vz{s d:List Int}{t:Int}{z:List Int}{n:Nat}(hs:aH s)(hd:aH d)(ht:up 255 t=true)(hz:bC z n):aB.iB s d t (el z 0):=⟨hs,hd,d9 ht,d9 (yL hz)⟩
def jD(g:GS)(f:List Int)(hop:Int)(z D:List Int):Int×List Int×GS :=
 if (aU g.c f).1≠0 then (4,[],g)
 else if tell g.c g.inj f=true∧el z 5/2%2=1∧0<D.length then (2,[],g)
 else if (bE g f (el z 5) (bF g f (aU g.c f).2)).1≠0 then ((bE g f (el z 5) (bF g f (aU g.c f).2)).1,[],(bE g f (el z 5) (bF g f (aU g.c f).2)).2.2)
 else jE (bE g f (el z 5) (bF g f (aU g.c f).2)).2.2 (bE g f (el z 5) (bF g f (aU g.c f).2)).2.1 hop z D
theorem VA{s d t:Int}{z:List Int}{n:Nat}(hs:up 4294967295 s=true)(hd:up 4294967295 d=true)(ht:up 255 t=true)(hz:bC z n):aF.iB s d t (el z 0) 0:=⟨d9 hs,d9 hd,d9 ht,d9 (yL hz),by unfold Word;omega⟩
end
section
variable {g:GS}{z zs:List Int}
theorem JA:∀(l:List Int)(a n:Int),0<=n->l.Pairwise (fun x y=>x<y)->(∀x∈l,a<=x∧x<a+n)->(l.length:Int)<=n
 | [],_,n,hn,_,_=>by simpa using hn
 | x::r,a,n,hn,hp,hb=>by rw[List.pairwise_cons] at hp;have hx:=hb x (List.mem_cons_self ..);have h1:=JA r (x+1) (a+n-(x+1)) (by omega) hp.2 (fun y hy=>⟨by have:=hp.1 y hy;omega,by have:=(hb y (List.mem_cons_of_mem _ hy)).2;omega⟩);rw[List.length_cons];omega
theorem dJ.len{m:Nat}{ws:Nat->List Int}{ts:Nat->Bool}{bs:List (List Int)}(h:dJ m ws ts bs):bs.length<=8*m:=by have a:=JA (bs.map (fun b=>el b 19)) 1024 ((8*m:Nat):Int) (by omega) (List.pairwise_map.2 h.2.1) (fun x hx=>by obtain⟨b,hb,rfl⟩:=List.mem_map.1 hx;obtain⟨_,⟨i,a,d,_⟩,_⟩:=h.1 b hb;show 1024<=el b 19∧el b 19<1024+((8*m:Nat):Int);omega);rw[List.length_map] at a;omega
theorem yU{x b:List Int}{bs:List (List Int)}(h:b∈ins x bs):b=x∨b∈bs:=by
 obtain⟨p,_,e,_⟩:=uX x bs;rw[e] at h;rcases List.mem_append.1 h with h|h
 ·exact .inr (List.mem_of_mem_take h)
 ·rcases List.mem_append.1 h with h|h
  ·exact .inl (List.mem_singleton.1 h)
  ·exact .inr (List.mem_of_mem_drop h)
theorem VB{f:List Int}{flags:Int}{wr:Int×Int×Int}(hi:fJ g)(hf:aW f=true)(hw:wr.2.2=0->fr wr.1=true∧wd wr.2.1=true):fJ (bE g f flags wr).2.2:=by
 obtain⟨n,o,d,a,l⟩:=hi;cases hn:bY g.bs f with
 | some k =>
  rw[oL hn];obtain⟨s,r,_⟩:=nN hn;have t:=d.use (p:=el (g.bs.getD k []) 19) (now:=g.now) (e:=0) (.inr (.inr (.inr ⟨k,yM d.2.1 s,a,by have:=l _ r;omega,rfl,rfl⟩)));refine⟨n,?_,t.1,a,fun b hb=>?_⟩
  ·show(g.bs.set k _).length<=128;rw[List.length_set];exact o
  ·rcases List.mem_or_eq_of_mem_set hb with h|rfl
   ·exact l b h
   ·exact Int.le_refl _
 | none =>
  rw[mP hn];split
  ·exact⟨n,o,d,a,l⟩
  ·split
   ·exact⟨n,o,d,a,l⟩
   ·rename_i h2;split
    ·exact⟨n,o,d,a,l⟩
    ·rename_i i ht;have q:=hw (Classical.not_not.1 h2);have hb:=d.made (back:=wr.1) (far:=wr.2.1) (now:=g.now) hf (by rw[q.1,q.2,a];rfl) hn ht;refine⟨n,Nat.le_trans hb.len (by show 8*g.m<=128;omega),hb,a,fun b hb=>?_⟩;rcases yU hb with rfl|hb
     ·exact Int.le_refl _
     ·exact l b hb
theorem VD(hi:fJ g)(b z D:List Int):fJ (bP g b z D).2.2.2:=by unfold bP;split<;>exact hi
theorem VE(hi:fJ g)(b z D:List Int):fJ (cZ g b z D).2.2.2:=by unfold cZ;split<;>exact hi
def vO(st:Int×Bool×Bool):Prop:=(st.2.2=true->st.2.1=true)∧0<=st.1∧st.1<4294967296
theorem VF{hd:List Int}{s:Int}{b h:Bool}(i:vO (s,b,h)):vO (dM hd s b h z zs).2.2.2:=by
 unfold dM;split
 ·exact i
 ·split
  ·unfold iJ;split
   ·exact i
   ·have:=sD (el z 3+1);exact⟨fun _=>rfl,this.1,this.2⟩
  ·split
   ·exact i
   ·split
    ·unfold iZ;split<;>exact i
    ·exact i
theorem VG{s:Int}{b h:Bool}(i:vO (s,b,h)):vO (eF s b h z zs).2.2.2:=by
 unfold eF;split
 ·exact i
 ·split
  ·exact i
  ·rename_i hb;have a:b=true:=by cases b;exact absurd rfl hb;rfl
   split
   ·exact i
   ·split
    ·exact i
    ·exact⟨fun _=>a,i.2⟩
theorem eU.aT(h:eU g)(b:List Int):∀x∈(aT g b).1,vO x.2.2:=by
 intro x hx;unfold Go.Proofs.YtgcojnlngchllaaGreatDoor.aT at hx;split at hx
 ·exact h x hx
 ·rcases List.mem_cons.1 hx with rfl|hx
  ·exact⟨fun e=>(by cases e),Int.le_refl 0,(by decide:(0:Int)<4294967296)⟩
  ·exact h x hx
theorem VH(h:eU g)(b z D:List Int):eU (bP g b z D).2.2.2:=by
 unfold bP;split
 ·intro x d;obtain⟨y,e,i,⟨f,a⟩|⟨f,a⟩⟩:=qd d
  ·rw[a];exact VF (I7 h b)
  ·rw[a];exact h.aT b y e
 ·exact h
theorem VI(h:eU g)(b z D:List Int):eU (cZ g b z D).2.2.2:=by
 unfold cZ;split
 ·rename_i st hst;intro x d;obtain⟨y,e,i,⟨f,a⟩|⟨f,a⟩⟩:=qd d
  ·rw[a];exact VG (h _ (jA hst))
  ·rw[a];exact h y e
 ·exact h
def dK(g:GS):Prop:=fJ g∧eU g∧CI g
def fD(g g':GS):Prop:=g'.c=g.c∧g'.inj=g.inj∧g'.bk=g.bk∧g'.m=g.m∧g'.now=g.now
theorem fD.refl(g:GS):fD g g:=⟨rfl,rfl,rfl,rfl,rfl⟩
theorem fD.trans{a b c:GS}(h:fD a b)(k:fD b c):fD a c:=⟨k.1.trans h.1,k.2.1.trans h.2.1,k.2.2.1.trans h.2.2.1,k.2.2.2.1.trans h.2.2.2.1,k.2.2.2.2.trans h.2.2.2.2⟩
theorem fD.ci{g':GS}(h:fD g g')(c:CI g):CI g':=by unfold CI at c⊢;rw[h.1,h.2.2.1];exact c
theorem VJ(g:GS)(f:List Int)(flags:Int)(wr:Int×Int×Int):fD g (bE g f flags wr).2.2:=by obtain⟨_,a,b,h4,d,e⟩:=Cj g f flags wr;exact⟨a,b,h4,e,d⟩
theorem VK(g:GS)(b z D:List Int):fD g (bP g b z D).2.2.2:=by unfold bP;split<;>exact fD.refl _
theorem VL(g:GS)(b z D:List Int):fD g (cZ g b z D).2.2.2:=by unfold cZ;split<;>exact fD.refl _
theorem yV(g:GS)(b:List Int)(hop:Int)(z D:List Int):(jE g b hop z D).2.2=(bP g b z D).2.2.2:=by unfold jE;split<;>rfl
theorem JB(g:GS)(b:List Int)(ttl:Int)(z D:List Int):(oG g b ttl z D).2.2=(cZ g b z D).2.2.2:=by unfold oG;split<;>rfl
theorem VN(h:dK g){f:List Int}(hop:Int){D:List Int}(hf:aW f=true)(hd:aH (dst f)):dK (jD g f hop z D).2.2∧fD g (jD g f hop z D).2.2:=by
 unfold jD;split
 ·exact⟨h,fD.refl _⟩
 ·rename_i hl;split
  ·exact⟨h,fD.refl _⟩
  ·have e:=VB (flags:=el z 5) h.1 hf (fun h0=>vW h.2.2 hf hd (Classical.not_not.1 hl) h0);have hs:=VJ g f (el z 5) (bF g f (aU g.c f).2);have i:=(Cj g f (el z 5) (bF g f (aU g.c f).2)).1;have b:eU (bE g f (el z 5) (bF g f (aU g.c f).2)).2.2:=by have:=h.2.1;unfold eU at this⊢;rw[i];exact this
   split
   ·exact⟨⟨e,b,hs.ci h.2.2⟩,hs⟩
   ·rw[yV];have d:=hs.trans (VK (bE g f (el z 5) (bF g f (aU g.c f).2)).2.2 (bE g f (el z 5) (bF g f (aU g.c f).2)).2.1 z D);exact⟨⟨VD e _ _ _,VH b _ _ _,d.ci h.2.2⟩,d⟩
theorem JC(h:dK g)(ho:SM.Oct zs):dK (g6 g zs).2.2∧fD g (g6 g zs).2.2:=by
 by_cases hG:aB.Good zs
 ·by_cases hE:(dN zs).1=0
  ·have e:g6 g zs=jD g (f6 zs) (zs.getD 7 0) (dN zs).2.1 (dN zs).2.2:=by
    unfold g6 jD;rw[if_neg (fun h=>h hG),if_neg (fun h=>h hE)]
   rw[e];have b:=vH hE;have h8:=aB.nk zs ho 8;have a:=aB.nk zs ho 24;exact VN h _ (Ci b.1 h8 a) (Ja a)
  ·have e:g6 g zs=((dN zs).1,[],g):=by unfold g6;rw[if_neg (fun h=>h hG),if_pos hE]
   rw[e];exact⟨h,fD.refl _⟩
 ·have e:g6 g zs=(5,[],g):=by unfold g6;exact if_pos hG
  rw[e];exact⟨h,fD.refl _⟩
theorem VO(hi:fJ g){k:Nat}(hk:k<g.bs.length):fJ (g.tab g.ws g.ts (g.bs.set k (bg (g.bs.getD k []) g.now))):=by
 obtain⟨l,n,d,f,i⟩:=hi;have a:=nE hk;have o:=d.use (p:=el (g.bs.getD k []) 19) (now:=g.now) (e:=0) (.inr (.inr (.inr ⟨k,yM d.2.1 hk,f,by have:=i _ a;omega,rfl,rfl⟩)));refine⟨l,?_,o.1,f,fun b hb=>?_⟩
 ·show(g.bs.set k _).length<=128;rw[List.length_set];exact n
 ·rcases List.mem_or_eq_of_mem_set hb with h|rfl
  ·exact i b h
  ·exact Int.le_refl _
theorem VP(h:dK g)(s d ttl kind:Int)(z D:List Int):dK (kW g s d ttl kind z D).2.2∧fD g (kW g s d ttl kind z D).2.2:=by
 unfold kW;split
 ·exact⟨h,fD.refl _⟩
 ·rename_i k hk;split
  ·rw[JB];have a:=(uW (vM hk).2).1;have hs:fD g (cZ (g.tab g.ws g.ts (g.bs.set k (bg (g.bs.getD k []) g.now))) (g.bs.getD k []) z D).2.2.2:=fD.trans (b:=g.tab g.ws g.ts (g.bs.set k (bg (g.bs.getD k []) g.now))) (fD.refl g) (VL _ _ _ _);exact⟨⟨VE (VO h.1 a) _ _ _,VI (g:=g.tab g.ws g.ts (g.bs.set k (bg (g.bs.getD k []) g.now))) h.2.1 _ _ _,hs.ci h.2.2⟩,hs⟩
  ·exact⟨h,fD.refl _⟩
theorem JD(h:dK g)(zs:List Int):dK (g4 g zs).2.2∧fD g (g4 g zs).2.2:=by
 unfold g4;split
 ·exact⟨h,fD.refl _⟩
 ·split
  ·exact⟨h,fD.refl _⟩
  ·exact VP h _ _ _ _ _ _
theorem VQ{c:List Int}{inj:Bool}{bk:List (List Int)}{m:Nat}(hm:m<=16)(hp:aQ.PF (pfx c) (el c 17) 0)(h:jY c bk 0=0):dK (gZ c inj bk m):=⟨Vo _ _ _ _ hm,Vp _ _ _ _,Vq hp h⟩
end
section
theorem VR(p:List Int)(n:Int):∃k,aQ.PF p n k:=by
 by_cases h1:aH p
 ·by_cases h2:aQ.eY n
  ·cases h3:aQ.fH p (n/8).toNat
   ·exact⟨0,.inr (.inr (.inr ⟨h1,h2,h3,rfl⟩))⟩
   ·exact⟨2,.inr (.inr (.inl ⟨h1,h2,h3,rfl⟩))⟩
  ·exact⟨1,.inr (.inl ⟨h1,h2,rfl⟩)⟩
 ·exact⟨1,.inl ⟨h1,rfl⟩⟩
def wo(W:World)(c:List Int)(inj:Bool)(bk:List (List Int))(m:Nat)(e:Ending)(w':World):Prop:=∃G a' cap' tv S ah,e=.returned (.tuple #[.pointer (some ⟨G,0,none⟩),.nilIface])∧GC G a' cap' tv S ah (fun _=>0) (gZ c inj bk m) w'∧(∀k,GO G a' ah (SO S (fun _=>0) []) k->W.heap.size<=k)∧Below W.heap.size W w'
end
section
def c0:List Int:=[1,0,0,0,0,0,0,0,80,2,0,0,0,0,0,0,0,32,9,0,2]
def VT(ps:Array (Nat×Value)):Sem Value:=Instr.build 26 ps
theorem JE(ps:Array (Nat×Value)):Instr.build 26 ps=VT ps:=rfl
theorem dQ.stored{B:Nat}{c0:List Int}{VU:Bool}{a0:Option Addr}{n0 cap0:Nat}{w:World}(p:dQ B c0 VU a0 n0 cap0 w)(c:List Int)(inj:Bool)(a:Option Addr)(n cap:Nat):dQ B c inj a n cap (w.setRow B (dh c inj a n cap)):=setRow_heap w B _ _ _ (0,0) p
attribute [local go_sem ↓] JE
end
section
theorem VW{s d t:Int}{z D:List Int}:0<(gY s d t z D).length:=by unfold gY aF.eu;rw[List.length_append,show ∀s d t k i n c,(P4.hd s d t k i n c).length=20 from fun _ _ _ _ _ _ _=>rfl];omega
theorem VX{s d:List Int}{t:Int}{z D:List Int}:0<(jd s d t z D).length:=yQ _ _ _ _ _
def rG(w:World)(G:Nat)(a:Option Addr)(cap:Nat)(tv:Value)(S:Nat)(ah:Nat->Prop)(β:Int->Nat)(g:GS)(W:World):Prop:=GC G a cap tv S ah β g W∧(∀k,GO G a ah (SO S β g.ss) k->w.heap.size<=k)∧Below w.heap.size w W
theorem rG.kept{w:World}{G:Nat}{a:Option Addr}{cap:Nat}{tv:Value}{S:Nat}{ah:Nat->Prop}{β:Int->Nat}{g:GS}{W W':World}(h:rG w G a cap tv S ah β g W)(hb:Below W.heap.size W W'):rG w G a cap tv S ah β g W':=⟨h.1.kept hb,h.2.1,bt h.2.2 hb⟩
theorem rG.step{w:World}{G:Nat}{a:Option Addr}{cap:Nat}{tv:Value}{S:Nat}{ah:Nat->Prop}{β:Int->Nat}{g g':GS}{W W':World}(h:rG w G a cap tv S ah β g W)(q:gu W G a cap tv S ah β g g' W'):∃bI β',rG w G a cap tv S bI β' g' W':=by obtain⟨bI,β',b,d,e⟩:=q;have hs:=h.2.2.size;exact⟨bI,β',b,fun k hk=>(e k hk).elim (h.2.1 k) (fun h=>by omega),d.below h.2.2 h.2.1 hs⟩
attribute [local go_sem ↓] gy
end
section
theorem aB.aI.aZ{B:Nat}{s d:List Int}{h k:Int}{a:Option Addr}{len cap:Nat}{w:World}(p:aB.aI B s d h k a len cap w)(j:Nat):w.frozen? ⟨B,j,none⟩=false:=by unfold aB.aI at p;simp[World.frozen?,p]
end
section
open Go.ChangeShapes Go.WideShapes Go.Deep Go.RowKit
theorem VY:(prog.underlying 26).map (fun d=>match d with | .struct fs=>fs.toList.map (fun f=>(f.offset,f.type))|_=>[])=some [(0,23),(8,3),(9,23),(17,3),(18,3),(19,3),(20,3),(21,4),(22,24)]:=by kernel_rfl
theorem VZ{H:Type}{enc:TypeId×Value->H}{W:World}{base:Nat}{spare:Nat->Bool}{held:Bool}{b0:Nat}{v:Value}{x:DataW H}{p:List MemPlace}(h:Value.okWide prog W .any b0 26 v)(ht:DataW.Trod enc prog W base spare held 26 v x p): ∃c inj a bs cap,v=.agg (dh c inj a (List.length bs) cap)∧bs.length<=cap∧cap<=maxLen∧fM a bs W∧(a=none->bs=[]∧cap=0):=by
 have l:=underlying26;unfold Value.okWide at h;rw[l] at h;obtain⟨b,rfl,B,ts,C,_,hc⟩:=h;have h8:prog.cellsOf 26 = 23:=by kernel_rfl
 have E:prog.cellTypes prog.depth 26 = some (List.replicate 21 3++[4,24]):=by kernel_rfl
 rw[h8] at B;obtain rfl:=Option.some.inj (C.symm.trans E);have o:∀i,∃n:Int,i<21->b[i]? = some (.int .i64 n):=by
  intro i;by_cases o:i<21
  ·have w:b[i]? = some (b[i]'(by omega)):=Array.getElem?_eq_getElem (by omega);obtain⟨u,l,q⟩:=hc i _ w;have G:u=3:=by have f:(List.replicate 21 (3:TypeId)++[4,24])[i%23]? = some u:=l;rw[Nat.mod_eq_of_lt (show i<23 by omega),List.getElem?_append_left (by rw[List.length_replicate];exact o),List.getElem?_replicate,if_pos o] at f;exact(Option.some.inj f).symm
   subst G;have s:Value.okWide prog W .any b0 3 (b[i]'(by omega)):=by unfold Value.okWide;rw[underlying3];exact q
   obtain⟨n,hn⟩:=WideShapes.okWide_int underlying3 s;exact⟨n,fun _=>by rw[w,hn]⟩
  ·exact⟨0,fun h=>absurd h o⟩
 obtain⟨F,U⟩:=Classical.axiomOfChoice o;obtain⟨V,I⟩:=ht;obtain⟨xs,m,_,_,hl,y,g⟩:=DataW.trod_struct l I;have e:=VY;rw[l] at e;replace e:=Option.some.inj e;obtain⟨mR,J⟩:=p9 (k:=7) e y g _ _ rfl;obtain⟨X,r⟩:=p9 (k:=8) e y g _ _ rfl;have Y:prog.cellsOf 4 = 1:=by kernel_rfl
 have ck:prog.cellsOf 24 = 1:=by kernel_rfl
 rw[Y] at J;rw[ck] at r;obtain⟨K,Z,_⟩:=DataW.trod_bool underlying4 J;have L:=rC Z;have d:b[22]? = some (b[22]'(by omega)):=Array.getElem?_eq_getElem (by omega);obtain⟨u,z,q⟩:=hc 22 _ d;obtain rfl:u=24:=by have f:(List.replicate 21 (3:TypeId)++[4,24])[22%23]? = some u:=z;exact(Option.some.inj f).symm
 have s:Value.okWide prog W .any b0 24 (b[22]'(by omega)):=by unfold Value.okWide;rw[underlying24];exact q
 obtain⟨a0,l0,k0,hsl⟩:=okWide_slice underlying24 s;have M:(Value.agg b).cells.toList=b.toList:=rfl;rw[M] at r L;have A:(b.toList.drop 22).take 1=(b[22]'(by omega)).cells.toList:=by
  rw[hsl];have f:b.toList[22]? = some (.slice a0 l0 k0):=by rw[Array.getElem?_toList,d,hsl]
  have N:22<b.toList.length:=(List.getElem?_eq_some_iff.1 f).1;rw[List.drop_eq_getElem_cons N,(List.getElem?_eq_some_iff.1 f).2];rfl
 rw[A] at r;have O:=r;obtain⟨ae,af⟩:=X;obtain⟨a,bs,cap,ev,P,Q,R⟩:=TR s ⟨_,r⟩;have t:a=none->bs=[]∧cap=0:=by
  intro ha;subst ha;rw[ev] at O;rcases open_slice underlying24 O with⟨hcs',_⟩|⟨a',len',cap',m,n,D,Pl,hcs',_⟩
  ·simp[Value.cells] at hcs';exact⟨hcs'.1,hcs'.2⟩
  ·simp[Value.cells] at hcs'
 refine⟨(List.range 21).map F,K,a,bs,cap,?_,P,Q,R,t⟩;congr 1;have S:b[21]? = some (.bool K):=by rw[<-Array.getElem?_toList];exact L
 have T:b[22]? = some (.slice a bs.length cap):=by rw[d,ev]
 apply Array.ext_getElem?;intro i;by_cases h:i<23
 ·have hd:i=0∨i=1∨i=2∨i=3∨i=4∨i=5∨i=6∨i=7∨i=8∨i=9∨i=10∨i=11∨i=12∨i=13∨i=14∨i=15∨i=16∨i=17∨i=18∨i=19∨i=20∨i=21∨i=22:=by omega
  clear g y hl I hc;rcases hd with rfl|rfl|rfl|rfl|rfl|rfl|rfl|rfl|rfl|rfl|rfl|rfl|rfl|rfl|rfl|rfl|rfl|rfl|rfl|rfl|rfl|rfl|rfl;all_goals first
   | exact S
   | exact T
   | exact U _ (by decide)
 ·rw[Array.getElem?_eq_none (by omega),Array.getElem?_eq_none (by show 23<=i;omega)]
end
section
attribute [local go_sem ↓] JE
theorem Cn{z D s d:List Int}{t:Int}(hs:aH s)(hd:aH d)(ht:up 255 t=true)(hz:bC z D.length):∃(k:Int) (N:Nat) (E:List Int), (∀W a c,aj W a D.length c D->Calls prog 47 #[.agg (aA z a D.length c),.agg (av s),.agg (av d),.int .i64 t] W fun e w'=>∃a1 c1,e=.returned (.agg (aB.cB s d t k a1 N c1))∧aj w' a1 N c1 E∧Below W.heap.size W w') ∧ (∀W a1 c1,aj W a1 N c1 E->Calls prog 46 #[.agg (aB.cB s d t k a1 N c1)] W fun e w'=>∃v,e=.returned v∧Own W.heap.size w' v (jd s d t z D)∧Below W.heap.size W w'):=by
 have g:=lZ (el z 0);have f:=hz.2.2.1;obtain⟨n,hn0⟩:∃n,hn (el z 0)+D.length=n:=⟨_,rfl⟩;have b:((hn (el z 0):Nat)+(D.length:Int))=(n:Int):=by omega
 have hp:jd s d t z D=aB.eu s d t (el z 0) (eb z (o6 s d (el z 0) n) D):=by unfold jd;rw[b]
 refine⟨el z 0,n,eb z (o6 s d (el z 0) n) D,fun W a c hr=>SA z a D.length c D s d t W hz hr hs hd n hn0 (by omega),fun W a1 c1 hr=>?_⟩;rw[hp];exact aB.SI s d t (el z 0) a1 n c1 _ W (Vz hs hd ht hz) (by omega) hr
theorem zB{z D:List Int}{s d t:Int}(hs:up 4294967295 s=true)(hd:up 4294967295 d=true)(ht:up 255 t=true)(hz:bC z D.length):∃(k:Int) (N:Nat) (E:List Int), (∀W a c,aj W a D.length c D->Calls prog 41 #[.agg (aA z a D.length c),.int .i64 s,.int .i64 d,.int .i64 t] W fun e w'=>∃a1 c1,e=.returned (aF.pk s d t k 0 a1 N c1)∧aj w' a1 N c1 E∧Below W.heap.size W w') ∧ (∀W a1 c1,aj W a1 N c1 E->Calls prog 40 #[aF.pk s d t k 0 a1 N c1] W fun e w'=>∃v,e=.returned v∧Own W.heap.size w' v (gY s d t z D)∧Below W.heap.size W w'):=by
 have g:=lZ (el z 0);have f:=hz.2.2.1;obtain⟨n,hn0⟩:∃n,hn (el z 0)+D.length=n:=⟨_,rfl⟩;have b:((hn (el z 0):Nat)+(D.length:Int))=(n:Int):=by omega
 have hp:gY s d t z D=aF.eu s d t (el z 0) 0 (eb z (o4 s d (el z 0) n) D):=by unfold gY;rw[b]
 refine⟨el z 0,n,eb z (o4 s d (el z 0) n) D,fun W a c hr=>Sw z a D.length c D s d t W hz hr hs hd n hn0 (by omega),fun W a1 c1 hr=>?_⟩;rw[hp];exact aF.SQ s d t (el z 0) 0 a1 n c1 _ W (VA hs hd ht hz) (by omega) hr
end
section
variable {n:Int}{d s z:List Int}{B bc cap:Nat}{a ba:Option Addr}{w:World}
def fq(aD:Int)(ba:Option Addr)(bl bc:Nat)(z:List Int)(a:Option Addr)(len cap:Nat)(s d:List Int)(hop n:Int)(is:Bool):Array Value:=#[.int .i64 aD,.slice ba bl bc,.int .i64 (el z 0),.int .i64 (el z 1),.int .i64 (el z 2),.int .i64 (el z 3),.int .i64 (el z 4),.int .i64 (el z 5),.int .i64 (el z 6),.slice a len cap,.int .i64 (el s 0),.int .i64 (el s 1),.int .i64 (el s 2),.int .i64 (el s 3),.int .i64 (el s 4),.int .i64 (el s 5),.int .i64 (el s 6),.int .i64 (el s 7),.int .i64 (el d 0),.int .i64 (el d 1),.int .i64 (el d 2),.int .i64 (el d 3),.int .i64 (el d 4),.int .i64 (el d 5),.int .i64 (el d 6),.int .i64 (el d 7),.int .i64 hop,.int .i64 n,.bool is]
def dD(B:Nat)(aD:Int)(ba:Option Addr)(bl bc:Nat)(z:List Int)(a:Option Addr)(len cap:Nat)(s d:List Int)(hop n:Int)(is:Bool)(w:World):Prop:=w.heap[B]? = some (.cells (fq aD ba bl bc z a len cap s d hop n is) 41 (0,0))
theorem dD.lt{aD:Int}{bl:Nat}{len:Nat}{hop:Int}{is:Bool}(p:dD B aD ba bl bc z a len cap s d hop n is w):B<w.heap.size:=(Array.getElem?_eq_some_iff.1 p).1
theorem dD.kept{aD:Int}{bl:Nat}{len:Nat}{hop:Int}{is:Bool}{w':World}(p:dD B aD ba bl bc z a len cap s d hop n is w)(hb:Below w.heap.size w w'):dD B aD ba bl bc z a len cap s d hop n is w':=(hb.block B p.lt).trans p
theorem V3(w:World)(aD:Int)(ba:Option Addr)(bl bc:Nat)(z:List Int)(a:Option Addr)(len cap:Nat)(s d:List Int)(hop n:Int)(is:Bool):dD w.heap.size aD ba bl bc z a len cap s d hop n is (w.alloc (.cells (fq aD ba bl bc z a len cap s d hop n is) 41)):=heap_alloc_new w _
theorem dD.cellAt{aD:Int}{bl:Nat}{len:Nat}{hop:Int}{is:Bool}(p:dD B aD ba bl bc z a len cap s d hop n is w)(j:Nat):w.cell? ⟨B,j,none⟩=(fq aD ba bl bc z a len cap s d hop n is)[j]?:=cell_of_row w B j _ _ _ p
theorem dD.what{aD:Int}{bl:Nat}{len:Nat}{hop:Int}{is:Bool}(p:dD B aD ba bl bc z a len cap s d hop n is w):w.cell? ⟨B,0,none⟩=some (.int .i64 aD):=p.cellAt 0
theorem dD.bytes{aD:Int}{bl:Nat}{len:Nat}{hop:Int}{is:Bool}(p:dD B aD ba bl bc z a len cap s d hop n is w):w.cell? ⟨B,1,none⟩=some (.slice ba bl bc):=p.cellAt 1
theorem dD.hop{aD:Int}{bl:Nat}{len:Nat}{hop:Int}{is:Bool}(p:dD B aD ba bl bc z a len cap s d hop n is w):w.cell? ⟨B,26,none⟩=some (.int .i64 hop):=p.cellAt 26
theorem dD.num{aD:Int}{bl:Nat}{len:Nat}{hop:Int}{is:Bool}(p:dD B aD ba bl bc z a len cap s d hop n is w):w.cell? ⟨B,27,none⟩=some (.int .i64 n):=p.cellAt 27
theorem dD.is{aD:Int}{bl:Nat}{len:Nat}{hop:Int}{is:Bool}(p:dD B aD ba bl bc z a len cap s d hop n is w):w.cell? ⟨B,28,none⟩=some (.bool is):=p.cellAt 28
theorem dD.seg{aD:Int}{bl:Nat}{len:Nat}{hop:Int}{is:Bool}(p:dD B aD ba bl bc z a len cap s d hop n is w):∀(j:Nat)v,(aA z a len cap).toList[j]? = some v->w.cell? ⟨B,2+j,none⟩=some v:=fun j v hv=>by have hj:j<8:=(List.getElem?_eq_some_iff.1 hv).1;rw[p.cellAt];rcases (by omega:j=0∨j=1∨j=2∨j=3∨j=4∨j=5∨j=6∨j=7) with rfl|rfl|rfl|rfl|rfl|rfl|rfl|rfl<;>exact hv
theorem dD.src{aD:Int}{bl:Nat}{len:Nat}{hop:Int}{is:Bool}(p:dD B aD ba bl bc z a len cap s d hop n is w):∀(j:Nat)v,(av s).toList[j]? = some v->w.cell? ⟨B,10+j,none⟩=some v:=fun j v hv=>by have hj:j<8:=(List.getElem?_eq_some_iff.1 hv).1;rw[p.cellAt];rcases (by omega:j=0∨j=1∨j=2∨j=3∨j=4∨j=5∨j=6∨j=7) with rfl|rfl|rfl|rfl|rfl|rfl|rfl|rfl<;>exact hv
theorem dD.dst{aD:Int}{bl:Nat}{len:Nat}{hop:Int}{is:Bool}(p:dD B aD ba bl bc z a len cap s d hop n is w):∀(j:Nat)v,(av d).toList[j]? = some v->w.cell? ⟨B,18+j,none⟩=some v:=fun j v hv=>by have hj:j<8:=(List.getElem?_eq_some_iff.1 hv).1;rw[p.cellAt];rcases (by omega:j=0∨j=1∨j=2∨j=3∨j=4∨j=5∨j=6∨j=7) with rfl|rfl|rfl|rfl|rfl|rfl|rfl|rfl<;>exact hv
theorem dD.gl{aD:Int}{bl:Nat}{len:Nat}{hop:Int}{is:Bool}(p:dD B aD ba bl bc z a len cap s d hop n is w):(j6 (.pointer (some ⟨B,2,none⟩))).run prog w=.ok (.agg (aA z a len cap)) w:=run_loadAt_mid w B 2 39 _ _ p.seg underlying39 rfl (by kernel_rfl)
theorem dD.hs{aD:Int}{bl:Nat}{len:Nat}{hop:Int}{is:Bool}(p:dD B aD ba bl bc z a len cap s d hop n is w):(hload (.pointer (some ⟨B,10,none⟩))).run prog w=.ok (.agg (av s)) w:=run_loadAt_mid w B 10 23 _ _ p.src underlying23 rfl (by kernel_rfl)
theorem dD.hd{aD:Int}{bl:Nat}{len:Nat}{hop:Int}{is:Bool}(p:dD B aD ba bl bc z a len cap s d hop n is w):(hload (.pointer (some ⟨B,18,none⟩))).run prog w=.ok (.agg (av d)) w:=run_loadAt_mid w B 18 23 _ _ p.dst underlying23 rfl (by kernel_rfl)
def jZ(w:World)(aD:Int)(ba:Option Addr)(bl bc:Nat)(z:List Int)(a:Option Addr)(len cap:Nat)(s d:List Int)(hop n:Int)(is:Bool)(c:List Int)(inj:Bool)(ka:Option Addr)(kn kc:Nat)(W:World):Prop:=dD w.heap.size aD ba bl bc z a len cap s d hop n is W∧dQ (w.heap.size+1) c inj ka kn kc W∧Below w.heap.size w W
theorem jZ.kept{aD:Int}{bl:Nat}{len:Nat}{hop:Int}{is:Bool}{c:List Int}{inj:Bool}{ka:Option Addr}{kn kc:Nat}{W W':World}(h:jZ w aD ba bl bc z a len cap s d hop n is c inj ka kn kc W)(hb:Below W.heap.size W W'):jZ w aD ba bl bc z a len cap s d hop n is c inj ka kn kc W':=⟨h.1.kept hb,h.2.1.kept hb,bt h.2.2 hb⟩
theorem jZ.start(w:World)(aD:Int)(ba:Option Addr)(bl bc:Nat)(z:List Int)(a:Option Addr)(len cap:Nat)(s d:List Int)(hop n:Int)(is:Bool)(c:List Int)(inj:Bool)(ka:Option Addr)(kn kc:Nat):jZ w aD ba bl bc z a len cap s d hop n is c inj ka kn kc ((w.alloc (.cells (fq aD ba bl bc z a len cap s d hop n is) 41)).alloc (.cells (dh c inj ka kn kc) 26)):=by have f:=au w (.cells (fq aD ba bl bc z a len cap s d hop n is) 41);have b:=au (w.alloc (.cells (fq aD ba bl bc z a len cap s d hop n is) 41)) (.cells (dh c inj ka kn kc) 26);have e:=qw (w.alloc (.cells (fq aD ba bl bc z a len cap s d hop n is) 41)) c inj ka kn kc;rw[World.size_alloc] at e;exact⟨(V3 w aD ba bl bc z a len cap s d hop n is).kept b,e,bt f b⟩
attribute [local go_sem ↓] jg gy
theorem V4(aD:Int)(ba:Option Addr)(bl bc:Nat)(z:List Int)(a:Option Addr)(len cap:Nat)(s d:List Int)(hop n:Int)(is:Bool)(c:List Int)(inj:Bool)(ka:Option Addr)(kn kc:Nat)(bv:Value)(w:World)(h5:(aD == 5)=false)(hm:len<=maxLen)(hc:¬(sf z len=0∧aH s∧aH d∧0<=hop∧hop<=255)): Calls prog 13 #[.agg (fq aD ba bl bc z a len cap s d hop n is),.agg (dh c inj ka kn kc),bv] w fun e w'=>e=.returned (.slice none 0 0)∧Below w.heap.size w w':=by
 have C:=ki (fun W=>nI z a len cap W hm);have b:=ki (jZ.start w aD ba bl bc z a len cap s d hop n is c inj ka kn kc);have q:=ki (fun W=>bR W);unfold aN at q;have f:(sf z len != 0)=true∨((sf z len != 0)=false∧¬aH s)∨((sf z len != 0)=false∧aH s∧¬aH d)∨((sf z len != 0)=false∧aH s∧aH d∧hop<0)∨((sf z len != 0)=false∧aH s∧aH d∧¬hop<0∧255<hop):=by
  by_cases c1:sf z len=0
  ·refine .inr ?_;have g:(sf z len != 0)=false:=by simp[c1]
   by_cases c2:aH s
   ·by_cases c3:aH d
    ·by_cases c4:hop<0
     ·exact .inr (.inr (.inl ⟨g,c2,c3,c4⟩))
     ·refine .inr (.inr (.inr ⟨g,c2,c3,c4,?_⟩));have:¬(0<=hop∧hop<=255):=fun h=>hc ⟨c1,c2,c3,h⟩
      omega
    ·exact .inr (.inl ⟨g,c2,c3⟩)
   ·exact .inl ⟨g,c2⟩
  ·exact .inl (by simpa using c1)
 have k:=ki (fun W=>qO s W);have o:=ki (fun W=>qO d W);have p:aH s->fe (s6 s)=0:=fun h=>by rw[(fE s).2 h];rfl
 have A:aH d->fe (s6 d)=0:=fun h=>by rw[(fE d).2 h];rfl
 have D:¬aH s->fe (s6 s)=1:=fun h=>by cases e:s6 s;rfl;exact absurd ((fE s).1 e) h
 have h4:¬aH d->fe (s6 d)=1:=fun h=>by cases e:s6 d;rfl;exact absurd ((fE d).1 e) h
 generalize sf z len=R at C f;clear hc hm;rcases f with c1|⟨c1,c2⟩|⟨c1,c2,c3⟩|⟨c1,c2,c3,c4⟩|⟨c1,c2,c3,c4,c5⟩;case' inr.inl=>rw[D c2] at k;clear c2
 case' inr.inr.inl=>rw[p c2] at k;rw[h4 c3] at o;clear c2 c3
 case' inr.inr.inr.inl=>rw[p c2] at k;rw[A c3] at o;clear c2 c3
 case' inr.inr.inr.inr=>rw[p c2] at k;rw[A c3] at o;clear c2 c3
 all_goals
  clear p A D h4;go_enter func13,ntmps13;go_upto_region 1 with fail
  generalize (World.alloc _ _).alloc _=W0 at b⊢;have B:=b.o.1.what;have G:=b.o.1.gl;have r:=ki (q.o W0);go_upto_region 17 with(refine aK rfl (.tmp 7) (.tmp 10) rfl rfl r.o z a len cap rfl ?_;intro H E t;have F:=ki E;replace b:=ki (b.o.kept (bq _ t));clear E t B G;have B:=b.o.1.what)
  clear B r;have l:=F.o.gl;have i:=b.o.1.hop;go_wp2_with (first|(go_at_call 50;(with_reducible refine(C.o _).mono ?_);rintro e I ⟨rfl,v⟩;replace b:=ki (b.o.kept v);clear v l i;have l:=b.o.1.hs;have i:=b.o.1.hop)|(go_at_call 21;(with_reducible refine(k.o _).mono ?_);rintro e J ⟨rfl,x⟩;replace b:=ki (b.o.kept x);clear x l i;have l:=b.o.1.hd;have i:=b.o.1.hop)|(go_at_call 21;(with_reducible refine(o.o _).mono ?_);rintro e K ⟨rfl,y⟩;replace b:=ki (b.o.kept y);clear y l i;have i:=b.o.1.hop))
  go_ret;exact⟨rfl,b.o.2.2⟩
end
section
attribute [local go_sem ↓] jg gy
theorem V5(aD:Int)(ba:Option Addr)(bl bc:Nat)(z:List Int)(a:Option Addr)(cap:Nat)(s d:List Int)(hop n:Int)(is:Bool)(c:List Int)(inj:Bool)(ka:Option Addr)(kn kc:Nat)(bv:Value)(D:List Int)(w:World)(h5:(aD == 5)=false)(hz:bC z D.length)(hs:aH s)(hd:aH d)(ht:up 255 hop=true)(hr:aj w a D.length cap D): Calls prog 13 #[.agg (fq aD ba bl bc z a D.length cap s d hop n is),.agg (dh c inj ka kn kc),bv] w fun e w'=>∃v,e=.returned v∧Own w.heap.size w' v (jd s d hop z D)∧Below w.heap.size w w':=by
 have J:=ki (fun W=>nI z a D.length cap W (by have:=hz.2.2.1;unfold maxLen;omega));rw[(l6 _ _).2 hz] at J;have b:=ki (jZ.start w aD ba bl bc z a D.length cap s d hop n is c inj ka kn kc);have g:=ki (hr.below b.o.2.2);have t:=ki (fun W=>bR W);unfold aN at t;have G:=ki (fun W=>qO s W);have H:=ki (fun W=>qO d W);rw[(fE s).2 hs] at G;rw[(fE d).2 hd] at H;obtain⟨k,N,E,x,y⟩:=Cn hs hd ht hz;have K:=ki x;have A:=ki y;have h4:=d9 ht;have U:¬hop<0:=by omega
 have V:¬255<hop:=by omega
 generalize jd s d hop z D=Y at A⊢;clear x y hz hs hd ht hr h4;unfold fe at G H;go_enter func13,ntmps13;go_upto_region 1 with fail
 generalize (World.alloc _ _).alloc _=W0 at b g⊢;have I:=b.o.1.what;have Q:=b.o.1.gl;have B:=ki (t.o W0);go_upto_region 17 with(refine aK rfl (.tmp 7) (.tmp 10) rfl rfl B.o z a D.length cap rfl ?_;intro X L q;have f:=ki L;replace b:=ki (b.o.kept (bq _ q));replace g:=ki (g.o.below (bq _ q));clear L q I Q;have I:=b.o.1.what)
 clear I B;have i:=f.o.gl;have h:=b.o.1.hop;go_upto_region 19 with(first|(go_at_call 50;(with_reducible refine(J.o _).mono ?_);rintro e Z ⟨rfl,l⟩;replace b:=ki (b.o.kept l);replace f:=ki (f.o.kept l);replace g:=ki (g.o.below l);clear l i h;have i:=b.o.1.hs;have h:=b.o.1.hop)|(go_at_call 21;(with_reducible refine(G.o _).mono ?_);rintro e w5 ⟨rfl,o⟩;replace b:=ki (b.o.kept o);replace f:=ki (f.o.kept o);replace g:=ki (g.o.below o);clear o i h;have i:=b.o.1.hd;have h:=b.o.1.hop)|(go_at_call 21;(with_reducible refine(H.o _).mono ?_);rintro e w6 ⟨rfl,p⟩;replace b:=ki (b.o.kept p);replace f:=ki (f.o.kept p);replace g:=ki (g.o.below p);clear p i h;have h:=b.o.1.hop))
 clear h;have i:=f.o.gl;have h:=b.o.1.hop;have R:=b.o.1.hs;have S:=b.o.1.hd;go_wp2_with (first|(go_at_call 47;refine(K.o _ _ _ g.o).mono ?_;rintro e w7 ⟨a7,c7,rfl,M,C⟩;have r:=ki (bt b.o.2.2 C);have O:=ki M;clear C M i h R S)|(go_at_call 46;refine(A.o _ _ _ O.o).mono ?_;rintro e w8 ⟨v8,rfl,P,F⟩;have T:=ki (P.mono r.o.size);replace r:=ki (bt r.o F);clear F P))
 go_ret;exact⟨_,rfl,T.o,r.o⟩
theorem V6{c:List Int}{bk:List (List Int)}(h:jY c bk 0=0):aQ.eT (dA c) (pfx c) (el c 17)=false:=by
 unfold jY at h;split at h
 ·cases h
 split at h
 ·cases h
 split at h
 ·rename_i h1;exact absurd rfl h1
 split at h
 ·cases h
 split at h
 ·cases h
 split at h
 ·rename_i h3;exact absurd h h3
 split at h
 ·cases h
 ·rename_i h4;cases e:aQ.eT (dA c) (pfx c) (el c 17)
  ·rfl
  ·exact absurd e h4
end
section
open Go.ChangeShapes Go.WideShapes Go.Deep Go.RowKit
theorem V7:(prog.underlying 41).map (fun d=>match d with | .struct fs=>fs.toList.map (fun f=>(f.offset,f.type))|_=>[])=some [(0,3),(1,37),(2,39),(10,23),(18,23),(26,3),(27,3),(28,4)]:=by kernel_rfl
theorem gM{cs:List Value}{o n j:Nat}(h:j<n):((cs.drop o).take n)[j]? = cs[o+j]?:=by rw[List.getElem?_take_of_lt h,List.getElem?_drop]
end
section
def yX(bs:List (List Int)):Prop:=bs.length<=8∧(∀b∈bs,iK b=true)∧bs.Pairwise (fun a b=>el a 0≠el b 0)
theorem yY{bs:List (List Int)}(h:(dz bs).2=0):yX bs:=by
 obtain⟨h8,a⟩:=uK h;refine⟨h8,fun b hb=>?_,List.pairwise_iff_getElem.2 fun i j hi hj hij=>?_⟩
 ·obtain⟨i,hi,rfl⟩:=List.mem_iff_getElem.1 hb;have:=(a i hi).1;rwa [getD_at hi] at this
 ·have:=(a j hj).2;unfold l8 at this;rw[List.any_eq_false] at this;have d:=this i (List.mem_range.2 hij);rw[getD_at hi,getD_at hj] at d;simpa using d
theorem V8{bs:List (List Int)}(h:yX bs):(dz bs).2=0:=by
 rw[Ao (by have:=h.1;omega) fun j hj=>?_];have b:iK (bs.getD j [])=true:=by rw[getD_at hj];exact h.2.1 _ (List.getElem_mem hj)
 have d:l8 bs j=false:=by unfold l8;rw[List.any_eq_false];intro i e;have a:=List.mem_range.1 e;have:=List.pairwise_iff_getElem.1 h.2.2 i j (by omega) hj a;rw[getD_at (by omega),getD_at hj];simpa using this
 unfold flt;rw[b,d];rfl
end
end Go.Proofs.YtgcojnlngchllaaGreatDoor
