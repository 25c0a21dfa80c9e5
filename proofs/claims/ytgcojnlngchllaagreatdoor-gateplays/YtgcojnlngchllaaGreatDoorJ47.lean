/- GatePlays, the full card: whatever steps are played at whatever gate, the program answers as the document says; the one listed variable (errors.errorType) is tied to the text of the project; no other condition. -/
import Derived.Test.YtgcojnlngchllaaGreatDoorDgM
import Derived.Test.YtgcojnlngchllaaGreatDoorDgV
import Derived.Test.YtgcojnlngchllaaGreatDoorPfB
namespace Go.Proofs.YtgcojnlngchllaaGreatDoor
open Go.RowKit
theorem Dz:qDZ:=by
 intro g B c O w _ M K I j N Z b u Y X P Q;have D:=Y;obtain⟨a,C,T,V,l,E,rfl,h,-,-⟩:=D;have L:l.length<=900:=Nat.le_trans (h.few j.1 M.1) (by omega)
 suffices m:Calls Tryz.prog 9 #[.pointer (some ⟨B,0,none⟩),.slice b u c] w (qg w B (GO B a E (aO V l)) (g6 g Z)) from m.mono fun e w' ⟨_,_,_,q,r,s⟩=>⟨_,_,_,q,r.1,Y.go s⟩
 have v:=WV b u c Z w X P Q;have H:=X.1;have f:=X.2.2.1;by_cases G:aB.Good Z
 ·have x:(Z.drop 40).length=u-40:=by rw[List.length_drop,H]
  have z:=G.1;have A:=G.2.1;have h8:=aB.nk Z f 8;have i:=aB.nk Z f 24;have e:dN Z=iQ (Z.getD 6 0) (o6 (bf Z 8) (bf Z 24) (Z.getD 6 0) ((u-40:Nat):Int)) (Z.getD 7 0) (Z.drop 40):=by unfold dN;rw[x]
  have n:Calls Tryz.prog 31 #[.slice b u c] w fun e w'=>∃a1,e=.returned (.tuple #[aB.pk (bf Z 8) (bf Z 24) (Z.getD 7 0) (Z.getD 6 0) a1 (u-40) (c-40),.int .i64 0])∧aj w' a1 (u-40) (c-40) (Z.drop 40)∧Below w.heap.size w w':=v.mono fun e w' ⟨h3,t⟩=>by
   rcases h3 with⟨h3,_⟩|⟨_,a',h3,h4⟩
   ·exact absurd G h3
   ·exact⟨a',h3,h4,t⟩
  have q:=fun W a1 (r:aj W a1 (u-40) (c-40) (Z.drop 40))=>WT (bf Z 8) (bf Z 24) (Z.getD 7 0) (Z.getD 6 0) a1 (u-40) (c-40) (Z.drop 40) W r (by omega) (by omega) ⟨h8,i,f 7,f 6⟩ (by omega)
  have o:=Ki (k:=Z.getD 6 0) (over:=o6 (bf Z 8) (bf Z 24) (Z.getD 6 0) ((u-40:Nat):Int)) (zs:=Z.drop 40);have d:=J5 (Z.getD 6 0) (o6 (bf Z 8) (bf Z 24) (Z.getD 6 0) ((u-40:Nat):Int)) (Z.getD 7 0) (Z.drop 40);rw[<-e] at d;have p:g6 g Z=if (dN Z).1≠0 then ((dN Z).1,[],g) else jD g (f6 Z) (Z.getD 7 0) (dN Z).2.1 (dN Z).2.2:=by unfold g6;exact if_neg (fun h=>h G)
  unfold f6 at p;generalize dN Z=U at d p;generalize iw (Z.getD 6 0) (o6 (bf Z 8) (bf Z 24) (Z.getD 6 0) ((u-40:Nat):Int)) (Z.drop 40)=S at q o d;by_cases h3:S.1≠0
  ·rw[if_pos h3] at d;have:g6 g Z=(S.1,[],g):=by rw[p,d,if_pos h3]
   rw[this];exact(Kj B b u c _ _ _ _ _ _ _ S w n q S.1 (.inl ⟨h3,rfl⟩)).mono fun r w' ⟨e1,e2⟩=>by rw[e1];exact h.no e2 _
  ·rw[if_neg h3] at d;have s:S.1=0:=Classical.byContradiction h3;by_cases h4:Z.getD 7 0<2
   ·rw[if_pos h4] at d;have:g6 g Z=(7,[],g):=by rw[p,d,if_pos (by decide)]
    rw[this];exact(Kj B b u c _ _ _ _ _ _ _ S w n q 7 (.inr ⟨s,h4,rfl⟩)).mono fun r w' ⟨e1,e2⟩=>by rw[e1];exact h.no e2 _
   ·rw[if_neg h4] at d;have y:g6 g Z=jD g (lQ (el S.2.1 0) (bf Z 8) (el S.2.1 1) (bf Z 24) (el S.2.1 2)) (Z.getD 7 0) S.2.1 S.2.2:=by rw[p,d,if_neg h3]
    exact Kn _ _ _ _ _ _ _ _ _ _ _ _ _ _ _ _ _ _ S.2.1 S.2.2 w h K I j M L (o s).1 h8 i ⟨by omega,(f 7).2⟩ N n (fun W a1 r=>by have h:=q W a1 r;rw[s] at h;exact h) _ rfl (Ci (o s).1 h8 i) _ y
 ·have e:g6 g Z=(5,[],g):=by unfold g6;exact if_pos G
  rw[e];refine(Xp B b u c 5 w (by decide) (v.mono ?_)).mono fun r w' ⟨e1,e2⟩=>by rw[e1];exact h.no e2 _
  rintro e w' ⟨⟨_,h3⟩|⟨h3,_⟩,t⟩
  ·exact⟨h3,t⟩
  ·exact absurd h3 G
theorem XR:Rows.GatePlaysCardSaid:=XQ (by
 intro c inj ka kc bk la ln lc w hg hb h1 h2 ha hst hl
 obtain⟨pf,hp⟩:=VR (pfx c) (el c 17);have a:=fun W (hW:Below w.heap.size w W)=>Vk c inj ka kc bk pf W (hb.below hW) (Nat.le_trans h1 h2) hp
 by_cases hz:jY c bk pf=0
 ·rw[hz] at a;obtain⟨rfl,f,g,b⟩:=Vl hz;obtain⟨m,hm⟩:∃m:Nat,el c 20=m:=⟨(el c 20).toNat,by omega⟩;have d:=(uK b).1;exact KH c inj ka kc bk m la ln lc w Dz hg hl hst (VQ (by omega) hp hz) (V6 hz) a (fun W hW=>Vn c inj ka kc bk m W (hb.below hW) (by omega) h1 ha hp hz hm (by omega) (by omega)) (fun W hW=>Xk c inj ka kc bk m W (hb.below hW) (by omega) ha hm (by omega))
 ·exact KG c inj ka kc bk la ln lc w _ hz a)
end Go.Proofs.YtgcojnlngchllaaGreatDoor
