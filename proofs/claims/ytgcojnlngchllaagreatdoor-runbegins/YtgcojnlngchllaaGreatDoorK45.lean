/- obey of four, by a contract. obey of binds, by a contract. obey of in, by a contract. -/
import Derived.Test.YtgcojnlngchllaaGreatDoorK44
namespace Go.Proofs.YtgcojnlngchllaaGreatDoor
open Go.RowKit
set_option linter.unusedVariables false
set_option maxRecDepth 100000
set_option maxHeartbeats 40000000
section
set_option linter.unusedSimpArgs false
attribute [local go_sem ↓] hload_shut nload_shut
def fourF (g:GS) (r:List (List UInt8)):Option (List UInt8×GS):=match justF 1 r,bytesF (r.getD 0 []) with
 | true,some zs=>some (shw (hxs (g4 g zs).2.1) (g4 g zs).1,(g4 g zs).2.2)
 | _,_=>none
theorem obey_four {g:GS} (hg:OB g) (l:List UInt8) (hl:l.length≤70000) (r:List (List UInt8)) (hs:Ad.AM.spl 32 l=[102,111,117,114]::r):∀ w G O W,GH w G g O W→LA w →
  Calls Tryz.prog 115 #[ssn G,Ad.strv l] W fun e w'=>ObW w G O W w' (fourF g r) e:=by
 intro w G O W U V
 have b1:=al_below W (.cells #[.pointer (some ⟨G,0,none⟩)] 126)
 have HN:=ki (sn_new G W)
 have C:=ki b1
 have X:=ki U
 have af:=ki V
 have ag:=ki (V.below U.below)
 have Y:=ki (fun W1 h=>split_run 32 l (by omega) W1 h)
 rw[hs] at Y
 unfold Ad.strv at Y ⊢
 clear b1 U V
 unfold ssn
 go_enter Tryz.func115,Tryz.ntmps115
 go_upto_region 1 with fail
 generalize World.alloc _ _=W0 at HN C ⊢
 go_upto_region 2 with (go_at_call 112;refine (Y.out _ (ag.out.below C.out).1.2.2).mono ?_;rintro e L ⟨⟨v,rfl,⟨a,c,rfl,h1,h2,h3⟩,P⟩,q⟩;have z:=ki q;clear q)
 obtain ⟨b,d,rfl,hc⟩:=h3 (by simp)
 have ax:W.heap.size≤b:=Nat.le_trans C.out.size (P _ _ _ _ rfl)
 clear P
 have hh:L.cell? ⟨b,d,none⟩=some (.string ⟨#[102,111,117,114]⟩):=hc 0 (by simp)
 go_region
 go_upto_region 8 with fail
 have F:=ki (show Wds (.slice (if c=1 then some ⟨b,d,none⟩ else some ⟨b,d+1,none⟩) r.length (c - 1)) r L.drew from ⟨_,_,rfl,by simp at h1;omega,by simp at h2;omega,fun hp=>⟨b,d+1,by simp at h1;rw[if_neg (by omega)],fun j hj=>by
  have:=hc (j+1) (by simp;omega)
  rw[show d+1+j=d+(j+1) by omega]
  exact this⟩⟩)
 replace z:=ki (show Below W0.heap.size W0 L.drew from z.out.drew)
 generalize hwd:L.drew=wd at F z ⊢
 clear hwd hh hc h3
 obtain ⟨rv,hrv⟩:∃ rv:Value,rv=.slice (if c=1 then some ⟨b,d,none⟩ else some ⟨b,d+1,none⟩) r.length (c - 1):=⟨_,rfl⟩
 rw[← hrv] at F
 have H:∀ b' o',(if c=1 then some (⟨b,d,none⟩:Addr) else some ⟨b,d+1,none⟩)=some ⟨b',o',none⟩→W.heap.size≤b':=by
  intro b' o' e
  split at e <;> (injection e with e;injection e with e;omega)
 generalize (if c=1 then some (⟨b,d,none⟩:Addr) else some ⟨b,d+1,none⟩)=ra at hrv H ⊢
 generalize c - 1=rc at hrv ⊢
 subst hrv
 have M:=ki (fun W1 (h:Wds (.slice ra r.length rc) r W1)=>just_run 1 _ r W1 (by omega) h)
 by_cases hj:justF 1 r=true
 ·rw[hj] at M
  obtain ⟨x,rfl⟩:∃ x,r=[x]:=by
   unfold justF at hj
   simp only[Bool.and_eq_true,beq_iff_eq] at hj
   exact List.length_eq_one_iff.1 hj.1
  have hx:x.length≤100000:=by
   have:=Ad.AM.spl_len 32 l x (by rw[hs];simp)
   omega
  have y:=ki (show fourF g [x]=match bytesF x with|some zs=>some (shw (hxs (g4 g zs).2.1) (g4 g zs).1,(g4 g zs).2.2)|none=>none by unfold fourF;rw[hj];show (match true,bytesF x with|true,some zs=>some (shw (hxs (g4 g zs).2.1) (g4 g zs).1,(g4 g zs).2.2)|_,_=>none)=_;cases bytesF x <;> rfl)
  have N:=ki (fun W1=>bytesof_run x hx W1)
  have aj:=ki (HN.out.kept z.out)
  go_upto_region 9 with (first
   | (go_at_call 171;refine (M.out _ F.out).mono ?_;rintro e w2 ⟨rfl,rfl⟩)
   | (go_at_call 170;refine (mustw_ok _ _).mono ?_;rintro e A ⟨rfl,rfl⟩))
  obtain ⟨a0,c0,e0,k1,k2,k3⟩:=F.out
  injection e0 with e01 e02 e03
  subst e01 e03
  obtain ⟨k,n,rfl,kc⟩:=k3 (by simp)
  have am:=H _ _ rfl
  clear H
  have kx:A.cell? ⟨k,n,none⟩=some (.string ⟨x.toArray⟩):=kc 0 (by simp)
  clear k1 k2 k3 kc e02
  have s:=ki (show Below A.heap.size A A.drew from (Below.refl _ _).drew)
  have t:=ki (show ∀ W1,Below A.heap.size A W1→W1.cell? ⟨W.heap.size,0,none⟩=some (.pointer (some ⟨G,0,none⟩))∧W1.cell? ⟨k,n,none⟩=some (.string ⟨x.toArray⟩) from fun W1 hb=>⟨(aj.out.kept hb).cell,(hb.cell (p:=⟨k,n,none⟩) (Ad.lt_of_cell kx)).trans kx⟩)
  cases hby:bytesF x with
  | none =>
   rw[hby] at y N
   refine wp_region_held_drew (S:=fun W'=>W'.cell? ⟨W.heap.size,0,none⟩=some (.pointer (some ⟨G,0,none⟩))∧W'.cell? ⟨k,n,none⟩=some (.string ⟨x.toArray⟩)) (by kernel_rfl) (t.out _ s.out) (fun hHeld=>?_)
   refine wtq (v:=(.pointer (some ⟨W.heap.size,0,none⟩))) 0 ?_ hHeld ?_
   (intro w hw;obtain ⟨f,i⟩:=hw;go_simp <;> with_reducible rfl)
   refine wtq (v:=(.pointer (some ⟨G,0,none⟩))) 1 ?_ hHeld ?_
   (intro w hw;obtain ⟨f,i⟩:=hw;go_simp <;> with_reducible rfl)
   refine wtq (v:=(.slice (some ⟨k,n,none⟩) 1 rc)) 2 ?_ hHeld ?_
   (intro w hw;obtain ⟨f,i⟩:=hw;go_simp <;> with_reducible rfl)
   refine wtq (v:=(.pointer (some ⟨k,n,none⟩))) 3 ?_ hHeld ?_
   (intro w hw;obtain ⟨f,i⟩:=hw;go_simp <;> with_reducible rfl)
   refine wtq (v:=(.string ⟨x.toArray⟩)) 4 ?_ hHeld ?_
   (intro w hw;obtain ⟨f,i⟩:=hw;go_simp <;> with_reducible rfl)
   (try simp only[Act.put,List.setIfInBounds_toArray,List.set_cons_zero,List.set_cons_succ,List.getElem_toArray,List.getElem_cons_succ,List.getElem_cons_zero])
   refine wpAnyH_ready (rs:=[5]) (by kernel_rfl) (by simp) (AllReadyH.cons rfl (fun K hK=>?_) AllReadyH.nil)
   go_simp
   go_at_call 174
   refine (N.out _).mono ?_
   rintro e w4 ⟨rfl,I⟩
   have o:=ki (s.out.trans (I.mono s.out.size))
   refine hK.out _ _ (t.out _ o.out) (fun hHeld=>?_)
   clear hK K
   (try simp only[Act.put,List.setIfInBounds_toArray,List.set_cons_zero,List.set_cons_succ,List.getElem_toArray,List.getElem_cons_succ,List.getElem_cons_zero])
   refine wtq (v:=(.slice none 0 0)) 6 ?_ hHeld ?_
   (intro w hw;obtain ⟨f,i⟩:=hw;go_simp <;> with_reducible rfl)
   refine wtq (v:=(err 5)) 7 ?_ hHeld ?_
   (intro w hw;obtain ⟨f,i⟩:=hw;go_simp <;> with_reducible rfl)
   (try simp only[Act.put,List.setIfInBounds_toArray,List.set_cons_zero,List.set_cons_succ,List.getElem_toArray,List.getElem_cons_succ,List.getElem_cons_zero])
   refine wpAnyH_ready (rs:=[8]) (by kernel_rfl) (by simp) (AllReadyH.cons rfl (fun K hK=>?_) AllReadyH.nil)
   go_simp
   go_at_call 173
   refine (mustb_no _ 5 _).mono ?_
   rintro e w5 ⟨rfl,rfl⟩
   exact ⟨rfl,by rw[y.out];exact ⟨rfl,bt C.out (bt z.out o.out)⟩⟩
  | some zs =>
   rw[hby] at y N
   have HI:=ki (fun W1 (hw:Below W.heap.size W W1) a2 l2 c2 r h1 h2=>in4_gh hg.1 zs w G O W1 a2 l2 c2 (X.out.kept hw) r h1 h2)
   have ao:=g4_len hg.1.2.1 zs
   replace y:=ki (show fourF g [x]=some (shw (hxs (g4 g zs).2.1) (g4 g zs).1,(g4 g zs).2.2) from y.out)
   generalize g4 g zs=R6 at HI y ao
   refine wp_region_held_drew (S:=fun W'=>W'.cell? ⟨W.heap.size,0,none⟩=some (.pointer (some ⟨G,0,none⟩))∧W'.cell? ⟨k,n,none⟩=some (.string ⟨x.toArray⟩)) (by kernel_rfl) (t.out _ s.out) (fun hHeld=>?_)
   refine wtq (v:=(.pointer (some ⟨W.heap.size,0,none⟩))) 0 ?_ hHeld ?_
   (intro w hw;obtain ⟨f,i⟩:=hw;go_simp <;> with_reducible rfl)
   refine wtq (v:=(.pointer (some ⟨G,0,none⟩))) 1 ?_ hHeld ?_
   (intro w hw;obtain ⟨f,i⟩:=hw;go_simp <;> with_reducible rfl)
   refine wtq (v:=(.slice (some ⟨k,n,none⟩) 1 rc)) 2 ?_ hHeld ?_
   (intro w hw;obtain ⟨f,i⟩:=hw;go_simp <;> with_reducible rfl)
   refine wtq (v:=(.pointer (some ⟨k,n,none⟩))) 3 ?_ hHeld ?_
   (intro w hw;obtain ⟨f,i⟩:=hw;go_simp <;> with_reducible rfl)
   refine wtq (v:=(.string ⟨x.toArray⟩)) 4 ?_ hHeld ?_
   (intro w hw;obtain ⟨f,i⟩:=hw;go_simp <;> with_reducible rfl)
   (try simp only[Act.put,List.setIfInBounds_toArray,List.set_cons_zero,List.set_cons_succ,List.getElem_toArray,List.getElem_cons_succ,List.getElem_cons_zero])
   refine wpAnyH_ready (rs:=[5]) (by kernel_rfl) (by simp) (AllReadyH.cons rfl (fun K hK=>?_) AllReadyH.nil)
   go_simp
   go_at_call 174
   refine (N.out _).mono ?_
   rintro e w4 ⟨⟨a4,rfl,r4⟩,I⟩
   have o:=ki (s.out.trans (I.mono s.out.size))
   have R4:=ki r4
   refine hK.out _ _ (t.out _ o.out) (fun hHeld=>?_)
   clear hK K
   (try simp only[Act.put,List.setIfInBounds_toArray,List.set_cons_zero,List.set_cons_succ,List.getElem_toArray,List.getElem_cons_succ,List.getElem_cons_zero])
   refine wtq (v:=(.slice a4 zs.length zs.length)) 6 ?_ hHeld ?_
   (intro w hw;obtain ⟨f,i⟩:=hw;go_simp <;> with_reducible rfl)
   refine wtq (v:=.nilIface) 7 ?_ hHeld ?_
   (intro w hw;obtain ⟨f,i⟩:=hw;go_simp <;> with_reducible rfl)
   (try simp only[Act.put,List.setIfInBounds_toArray,List.set_cons_zero,List.set_cons_succ,List.getElem_toArray,List.getElem_cons_succ,List.getElem_cons_zero])
   refine wpAnyH_ready (rs:=[8]) (by kernel_rfl) (by simp) (AllReadyH.cons rfl (fun K hK=>?_) AllReadyH.nil)
   go_simp
   go_at_call 173
   refine (mustb_ok _ _).mono ?_
   rintro e w5 ⟨rfl,rfl⟩
   refine hK.out _ _ (t.out _ o.out) (fun hHeld=>?_)
   clear hK K
   (try simp only[Act.put,List.setIfInBounds_toArray,List.set_cons_zero,List.set_cons_succ,List.getElem_toArray,List.getElem_cons_succ,List.getElem_cons_zero])
   have Q:=ki (bt C.out (bt z.out o.out))
   obtain ⟨D,E⟩:=t.out _ o.out
   (try simp only[Act.put,List.setIfInBounds_toArray,List.set_cons_zero,List.set_cons_succ,List.getElem_toArray,List.getElem_cons_succ,List.getElem_cons_zero])
   refine wpAnyH_ready (rs:=[9]) (by kernel_rfl) (by simp) (AllReadyH.cons rfl (fun K hK=>?_) AllReadyH.nil)
   go_simp
   go_at_call 52
   refine (HI.out _ Q.out _ _ _ R4.out (Nat.le_refl _) (by have:=bytesF_len hby;unfold maxLen;omega)).mono ?_
   rintro e Z ⟨⟨a2,l2,c2,rfl,r6,ap,ba⟩,J⟩
   have aq:=ki r6
   have bb:=r6.1
   have R:=ki (show Z.cell? ⟨W.heap.size,0,none⟩=some (.pointer (some ⟨G,0,none⟩))∧Z.cell? ⟨k,n,none⟩=some (.string ⟨x.toArray⟩) from ⟨J.held D (fun h=>Nat.lt_irrefl _ (X.out.lt h)),J.held E (fun h=>Nat.lt_irrefl _ (Nat.lt_of_lt_of_le (X.out.lt h) am))⟩)
   have ab:=ki (show LA Z by obtain ⟨O6,ar,_⟩:=J;exact af.out.below ar.below)
   have au:=ki (J.pre Q.out)
   clear D E r6 J
   refine hK.out _ _ R.out (fun hHeld=>?_)
   clear hK K
   (try simp only[Act.put,List.setIfInBounds_toArray,List.set_cons_zero,List.set_cons_succ,List.getElem_toArray,List.getElem_cons_succ,List.getElem_cons_zero])
   refine wtq (v:=(.slice a2 l2 c2)) 10 ?_ hHeld ?_
   (intro w hw;obtain ⟨f,i⟩:=hw;go_simp <;> with_reducible rfl)
   refine wtq (v:=(ev R6.1)) 11 ?_ hHeld ?_
   (intro w hw;obtain ⟨f,i⟩:=hw;go_simp <;> with_reducible rfl)
   (try simp only[Act.put,List.setIfInBounds_toArray,List.set_cons_zero,List.set_cons_succ,List.getElem_toArray,List.getElem_cons_succ,List.getElem_cons_zero])
   refine wpAnyH_ready (rs:=[12]) (by kernel_rfl) (by simp) (AllReadyH.cons rfl (fun K hK=>?_) AllReadyH.nil)
   go_simp
   go_at_call 172
   refine (packet_any a2 l2 c2 R6.2.1 R6.1 _ aq.out (by omega) ap ab.out.2.2).mono ?_
   rintro e w7 ⟨rfl,B⟩
   have ac:=ki (au.out.after B)
   obtain ⟨D,E⟩:=R.out
   have aw:=ki (show w7.cell? ⟨W.heap.size,0,none⟩=some (.pointer (some ⟨G,0,none⟩))∧w7.cell? ⟨k,n,none⟩=some (.string ⟨x.toArray⟩) from ⟨(B.cell (p:=⟨W.heap.size,0,none⟩) (Ad.lt_of_cell D)).trans D,(B.cell (p:=⟨k,n,none⟩) (Ad.lt_of_cell E)).trans E⟩)
   clear D E B
   refine hK.out _ _ aw.out (fun hHeld=>?_)
   clear hK K
   (try simp only[Act.put,List.setIfInBounds_toArray,List.set_cons_zero,List.set_cons_succ,List.getElem_toArray,List.getElem_cons_succ,List.getElem_cons_zero])
   refine wtq (v:=(Ad.strv (shw (hxs R6.2.1) R6.1))) 13 ?_ hHeld ?_
   (intro w hw;obtain ⟨f,i⟩:=hw;go_simp <;> with_reducible rfl)
   refine wpAnyH_done (by kernel_rfl) ?_ _
   go_wp2_with fail
   go_ret
   rw[y.out]
   exact ⟨rfl,ac.out⟩
 ·have T:justF 1 r=false:=by simpa using hj
  rw[T] at M
  have y:=ki (show fourF g r=none by unfold fourF;rw[T])
  go_wp2_with (first
   | (go_at_call 171;refine (M.out _ F.out).mono ?_;rintro e w2 ⟨rfl,rfl⟩)
   | (go_at_call 170;refine (mustw_no _ 5 _).mono ?_;rintro e A ⟨rfl,rfl⟩))
  exact ⟨rfl,by rw[y.out];exact ⟨rfl,bt C.out z.out⟩⟩
end
section
set_option linter.unusedSimpArgs false
attribute [local go_sem ↓] hload_shut nload_shut
def bindsF (g:GS) (r:List (List UInt8)):Option (List UInt8×GS):=match justF 0 r with
 | true=>some (portF g.bs,g)
 | _=>none
theorem obey_binds {g:GS} (hg:OB g) (l:List UInt8) (hl:l.length≤70000) (r:List (List UInt8)) (hs:Ad.AM.spl 32 l=[98,105,110,100,115]::r):∀ w G O W,GH w G g O W→LA w →
  Calls Tryz.prog 115 #[ssn G,Ad.strv l] W fun e w'=>ObW w G O W w' (bindsF g r) e:=by
 intro w G O W y z
 have C:=al_below W (.cells #[.pointer (some ⟨G,0,none⟩)] 126)
 have D:=ki (sn_new G W)
 have i:=ki C
 have E:=ki y
 have S:=ki z
 have s:=ki (z.below y.below)
 have A:=ki (fun W1 h=>split_run 32 l (by omega) W1 h)
 rw[hs] at A
 unfold Ad.strv at A ⊢
 clear C y z
 unfold ssn
 go_enter Tryz.func115,Tryz.ntmps115
 go_upto_region 1 with fail
 generalize World.alloc _ _=W0 at D i ⊢
 go_upto_region 2 with (go_at_call 112;refine (A.out _ (s.out.below i.out).1.2.2).mono ?_;rintro e n ⟨⟨v,rfl,⟨a,c,rfl,F,h2,H⟩,t⟩,q⟩;have f:=ki q;clear q)
 obtain ⟨b,d,rfl,hc⟩:=H (by simp)
 have P:W.heap.size≤b:=Nat.le_trans i.out.size (t _ _ _ _ rfl)
 clear t
 have hh:n.cell? ⟨b,d,none⟩=some (.string ⟨#[98,105,110,100,115]⟩):=hc 0 (by simp)
 go_region
 go_upto_region 23 with fail
 have o:=ki (show Wds (.slice (if c=1 then some ⟨b,d,none⟩ else some ⟨b,d+1,none⟩) r.length (c - 1)) r n.drew from ⟨_,_,rfl,by simp at F;omega,by simp at h2;omega,fun hp=>⟨b,d+1,by simp at F;rw[if_neg (by omega)],fun j hj=>by
  have:=hc (j+1) (by simp;omega)
  rw[show d+1+j=d+(j+1) by omega]
  exact this⟩⟩)
 replace f:=ki (show Below W0.heap.size W0 n.drew from f.out.drew)
 generalize hwd:n.drew=wd at o f ⊢
 clear hwd hh hc H
 obtain ⟨rv,hrv⟩:∃ rv:Value,rv=.slice (if c=1 then some ⟨b,d,none⟩ else some ⟨b,d+1,none⟩) r.length (c - 1):=⟨_,rfl⟩
 rw[← hrv] at o
 have I:∀ b' o',(if c=1 then some (⟨b,d,none⟩:Addr) else some ⟨b,d+1,none⟩)=some ⟨b',o',none⟩→W.heap.size≤b':=by
  intro b' o' e
  split at e <;> (injection e with e;injection e with e;omega)
 generalize (if c=1 then some (⟨b,d,none⟩:Addr) else some ⟨b,d+1,none⟩)=ra at hrv I ⊢
 generalize c - 1=rc at hrv ⊢
 subst hrv
 have p:=ki (fun W1 (h:Wds (.slice ra r.length rc) r W1)=>just_run 0 _ r W1 (by omega) h)
 by_cases hj:justF 0 r=true
 ·rw[hj] at p
  have B:=ki (show bindsF g r=some (portF g.bs,g) by unfold bindsF;rw[hj])
  have J:=ki (D.out.kept f.out)
  have k:=ki (bt i.out f.out)
  have K:=ki (E.out.kept k.out)
  have L:=ki (s.out.below k.out)
  have M:=ki (fun W1 (h:GH w G g O W1) (h2:LA W1)=>ports_gh hg.1 w G O W1 h h2)
  go_upto_region 24 with (first
   | (go_at_call 171;refine (p.out _ o.out).mono ?_;rintro e Q ⟨rfl,rfl⟩)
   | (go_at_call 170;refine (mustw_ok _ _).mono ?_;rintro e R ⟨rfl,rfl⟩))
  go_wp2_with (first
   | (refine at_loadn rfl (.tmp 2) rfl rfl J.out ?_)
   | (go_at_call 183;refine (M.out _ K.out L.out).mono ?_;rintro e T ⟨rfl,hb⟩;have N:=ki (GN.still E.out (bt k.out hb));clear hb))
  go_ret
  rw[B.out]
  exact ⟨rfl,N.out⟩
 ·have x:justF 0 r=false:=by simpa using hj
  rw[x] at p
  have B:=ki (show bindsF g r=none by unfold bindsF;rw[x])
  go_wp2_with (first
   | (go_at_call 171;refine (p.out _ o.out).mono ?_;rintro e Q ⟨rfl,rfl⟩)
   | (go_at_call 170;refine (mustw_no _ 5 _).mono ?_;rintro e R ⟨rfl,rfl⟩))
  exact ⟨rfl,by rw[B.out];exact ⟨rfl,bt i.out f.out⟩⟩
end
section
set_option linter.unusedSimpArgs false
attribute [local go_sem ↓] hload_shut nload_shut
theorem rd6_yes (x:List UInt8) (z:List Int) (w:World) (hA:Ad.LaidA w) (h:Ad.AM.parseF x=some z):Calls Tryz.prog 177 #[.string ⟨x.toArray⟩] w fun e w'=>e=.returned (.tuple #[.agg (sixC z),.nilIface])∧Below w.heap.size w w':=Ad.parse_yes ⟨x.toArray⟩ w hA z h
theorem rd6_no (x:List UInt8) (w:World) (hA:Ad.LaidA w) (h:Ad.AM.parseF x=none):Calls Tryz.prog 177 #[.string ⟨x.toArray⟩] w fun e w'=>e=.returned (.tuple #[.agg (sixC []),err 5])∧Below w.heap.size w w':=Ad.parse_no ⟨x.toArray⟩ w hA h
theorem rd6_ok {x:List UInt8} {z:List Int} (h:Ad.AM.parseF x=some z):Ok6 z:=fun k hk=>(Ad.AM.parse_is h).1 k hk
theorem shown0 (t:List UInt8) (w:World) (hg:Laid0 w):Calls Tryz.prog 59 #[Ad.strv t,.nilIface] w fun e w'=>e=.returned (Ad.strv t)∧Below w.heap.size w w':=shown_any t 0 w hg
def inF' (g:GS) (r:List (List UInt8)):Option (List UInt8×GS):=match justF 1 r,Ad.AM.parseF (r.getD 0 []) with
 | true,some z=>some (insF g.c z,g)
 | _,_=>none
theorem obey_in {g:GS} (hg:OB g) (l:List UInt8) (hl:l.length≤70000) (r:List (List UInt8)) (hs:Ad.AM.spl 32 l=[105,110]::r):∀ w G O W,GH w G g O W→LA w →
  Calls Tryz.prog 115 #[ssn G,Ad.strv l] W fun e w'=>ObW w G O W w' (inF' g r) e:=by
 intro w G O W Y Z
 have b1:=al_below W (.cells #[.pointer (some ⟨G,0,none⟩)] 126)
 have HN:=ki (sn_new G W)
 have s:=ki b1
 have HG:=ki Y
 have ay:=ki Z
 have D:=ki (Z.below Y.below)
 have HS:=ki (fun W1 h=>split_run 32 l (by omega) W1 h)
 rw[hs] at HS
 unfold Ad.strv at HS ⊢
 clear b1 Y Z
 unfold ssn
 go_enter Tryz.func115,Tryz.ntmps115
 go_upto_region 1 with fail
 generalize World.alloc _ _=W0 at HN s ⊢
 go_upto_region 2 with (go_at_call 112;refine (HS.out _ (D.out.below s.out).1.2.2).mono ?_;rintro e N ⟨⟨v,rfl,⟨a,c,rfl,h1,h2,h3⟩,Q⟩,q⟩;have o:=ki q;clear q)
 obtain ⟨b,d,rfl,hc⟩:=h3 (by simp)
 have ao:W.heap.size≤b:=Nat.le_trans s.out.size (Q _ _ _ _ rfl)
 clear Q
 have hh:N.cell? ⟨b,d,none⟩=some (.string ⟨#[105,110]⟩):=hc 0 (by simp)
 go_region
 go_upto_region 26 with fail
 have H:=ki (show Wds (.slice (if c=1 then some ⟨b,d,none⟩ else some ⟨b,d+1,none⟩) r.length (c - 1)) r N.drew from ⟨_,_,rfl,by simp at h1;omega,by simp at h2;omega,fun hp=>⟨b,d+1,by simp at h1;rw[if_neg (by omega)],fun j hj=>by
  have:=hc (j+1) (by simp;omega)
  rw[show d+1+j=d+(j+1) by omega]
  exact this⟩⟩)
 replace o:=ki (show Below W0.heap.size W0 N.drew from o.out.drew)
 generalize hwd:N.drew=wd at H o ⊢
 clear hwd hh hc h3
 obtain ⟨rv,hrv⟩:∃ rv:Value,rv=.slice (if c=1 then some ⟨b,d,none⟩ else some ⟨b,d+1,none⟩) r.length (c - 1):=⟨_,rfl⟩
 rw[← hrv] at H
 have I:∀ b' o',(if c=1 then some (⟨b,d,none⟩:Addr) else some ⟨b,d+1,none⟩)=some ⟨b',o',none⟩→W.heap.size≤b':=by
  intro b' o' e
  split at e <;> (injection e with e;injection e with e;omega)
 generalize (if c=1 then some (⟨b,d,none⟩:Addr) else some ⟨b,d+1,none⟩)=ra at hrv I ⊢
 generalize c - 1=rc at hrv ⊢
 subst hrv
 have P:=ki (fun W1 (h:Wds (.slice ra r.length rc) r W1)=>just_run 1 _ r W1 (by omega) h)
 by_cases hj:justF 1 r=true
 ·rw[hj] at P
  obtain ⟨x,rfl⟩:∃ x,r=[x]:=by
   unfold justF at hj
   simp only[Bool.and_eq_true,beq_iff_eq] at hj
   exact List.length_eq_one_iff.1 hj.1
  have hx:x.length≤100000:=by
   have:=Ad.AM.spl_len 32 l x (by rw[hs];simp)
   omega
  have F:=ki (show inF' g [x]=match Ad.AM.parseF x with|some z=>some (insF g.c z,g)|none=>none by unfold inF';rw[hj];show (match true,Ad.AM.parseF x with|true,some z=>some (insF g.c z,g)|_,_=>none)=_;cases Ad.AM.parseF x <;> rfl)
  have ag:=ki (D.out.below (bt s.out o.out))
  have ai:=ki (HN.out.kept o.out)
  go_upto_region 27 with (first
   | (go_at_call 171;refine (P.out _ H.out).mono ?_;rintro e w2 ⟨rfl,rfl⟩)
   | (go_at_call 170;refine (mustw_ok _ _).mono ?_;rintro e C ⟨rfl,rfl⟩))
  obtain ⟨a0,c0,e0,k1,k2,k3⟩:=H.out
  injection e0 with e01 e02 e03
  subst e01 e03
  obtain ⟨t,y,rfl,kc⟩:=k3 (by simp)
  have az:=I _ _ rfl
  clear I
  have kx:C.cell? ⟨t,y,none⟩=some (.string ⟨x.toArray⟩):=kc 0 (by simp)
  clear k1 k2 k3 kc e02
  have k:=ki (show Below C.heap.size C C.drew from (Below.refl _ _).drew)
  have n:=ki (show ∀ W1,Below C.heap.size C W1→(nload (.pointer (some ⟨W.heap.size,0,none⟩))).run Tryz.prog W1=.ok (ssn G) W1∧W1.cell? ⟨t,y,none⟩=some (.string ⟨x.toArray⟩) from fun W1 hb=>⟨(ai.out.kept hb).hl,(hb.cell (p:=⟨t,y,none⟩) (Ad.lt_of_cell kx)).trans kx⟩)
  have J:=ki (ag.out.below k.out)
  have a1:(⟨x.toArray⟩:ByteArray).data.toList=x:=rfl
  cases hby:Ad.AM.parseF x with
  | none =>
   rw[hby] at F
   refine wp_region_held_drew (S:=(fun W'=>(nload (.pointer (some ⟨W.heap.size,0,none⟩))).run Tryz.prog W'=.ok (ssn G) W'∧W'.cell? ⟨t,y,none⟩=some (.string ⟨x.toArray⟩))) (by kernel_rfl) (n.out _ k.out) (fun hHeld=>?_)
   refine wtq (v:=(ssn G)) 0 ?_ hHeld ?_
   (intro w hw;obtain ⟨f,i⟩:=hw;go_simp <;> with_reducible rfl)
   refine wtq (v:=(.slice (some ⟨t,y,none⟩) 1 rc)) 1 ?_ hHeld ?_
   (intro w hw;obtain ⟨f,i⟩:=hw;go_simp <;> with_reducible rfl)
   refine wtq (v:=(.pointer (some ⟨t,y,none⟩))) 2 ?_ hHeld ?_
   (intro w hw;obtain ⟨f,i⟩:=hw;go_simp <;> with_reducible rfl)
   refine wtq (v:=(.string ⟨x.toArray⟩)) 3 ?_ hHeld ?_
   (intro w hw;obtain ⟨f,i⟩:=hw;go_simp <;> with_reducible rfl)
   (try simp only[Act.put,List.setIfInBounds_toArray,List.set_cons_zero,List.set_cons_succ,List.getElem_toArray,List.getElem_cons_succ,List.getElem_cons_zero])
   refine wpAnyH_ready (rs:=[4]) (by kernel_rfl) (by simp) (AllReadyH.cons rfl (fun K hK=>?_) AllReadyH.nil)
   go_simp
   go_at_call 177
   refine (rd6_no x _ J.out.1 hby).mono ?_
   rintro e w4 ⟨rfl,A⟩
   have B:=ki (k.out.trans (A.mono k.out.size))
   clear A
   refine hK.out _ _ (n.out _ B.out) (fun hHeld=>?_)
   clear hK K
   (try simp only[Act.put,List.setIfInBounds_toArray,List.set_cons_zero,List.set_cons_succ,List.getElem_toArray,List.getElem_cons_succ,List.getElem_cons_zero])
   refine wtq (v:=(.agg (sixC []))) 5 ?_ hHeld ?_
   (intro w hw;obtain ⟨f,i⟩:=hw;go_simp <;> with_reducible rfl)
   refine wtq (v:=(err 5)) 6 ?_ hHeld ?_
   (intro w hw;obtain ⟨f,i⟩:=hw;go_simp <;> with_reducible rfl)
   (try simp only[Act.put,List.setIfInBounds_toArray,List.set_cons_zero,List.set_cons_succ,List.getElem_toArray,List.getElem_cons_succ,List.getElem_cons_zero])
   refine wpAnyH_ready (rs:=[7]) (by kernel_rfl) (by simp) (AllReadyH.cons rfl (fun K hK=>?_) AllReadyH.nil)
   go_simp
   go_at_call 176
   refine (musts_no [] 5 _).mono ?_
   rintro e w5 ⟨rfl,E⟩
   exact ⟨rfl,by rw[F.out];exact ⟨rfl,bt s.out (bt o.out (bt B.out E))⟩⟩
  | some z =>
   rw[hby] at F
   have hz:Ok6 z:=rd6_ok hby
   refine wp_region_held_drew (S:=(fun W'=>(nload (.pointer (some ⟨W.heap.size,0,none⟩))).run Tryz.prog W'=.ok (ssn G) W'∧W'.cell? ⟨t,y,none⟩=some (.string ⟨x.toArray⟩))) (by kernel_rfl) (n.out _ k.out) (fun hHeld=>?_)
   refine wtq (v:=(ssn G)) 0 ?_ hHeld ?_
   (intro w hw;obtain ⟨f,i⟩:=hw;go_simp <;> with_reducible rfl)
   refine wtq (v:=(.slice (some ⟨t,y,none⟩) 1 rc)) 1 ?_ hHeld ?_
   (intro w hw;obtain ⟨f,i⟩:=hw;go_simp <;> with_reducible rfl)
   refine wtq (v:=(.pointer (some ⟨t,y,none⟩))) 2 ?_ hHeld ?_
   (intro w hw;obtain ⟨f,i⟩:=hw;go_simp <;> with_reducible rfl)
   refine wtq (v:=(.string ⟨x.toArray⟩)) 3 ?_ hHeld ?_
   (intro w hw;obtain ⟨f,i⟩:=hw;go_simp <;> with_reducible rfl)
   (try simp only[Act.put,List.setIfInBounds_toArray,List.set_cons_zero,List.set_cons_succ,List.getElem_toArray,List.getElem_cons_succ,List.getElem_cons_zero])
   refine wpAnyH_ready (rs:=[4]) (by kernel_rfl) (by simp) (AllReadyH.cons rfl (fun K hK=>?_) AllReadyH.nil)
   go_simp
   go_at_call 177
   refine (rd6_yes x z _ J.out.1 hby).mono ?_
   rintro e w4 ⟨rfl,A⟩
   have B:=ki (k.out.trans (A.mono k.out.size))
   clear A
   refine hK.out _ _ (n.out _ B.out) (fun hHeld=>?_)
   clear hK K
   (try simp only[Act.put,List.setIfInBounds_toArray,List.set_cons_zero,List.set_cons_succ,List.getElem_toArray,List.getElem_cons_succ,List.getElem_cons_zero])
   refine wtq (v:=(.agg (sixC z))) 5 ?_ hHeld ?_
   (intro w hw;obtain ⟨f,i⟩:=hw;go_simp <;> with_reducible rfl)
   refine wtq (v:=.nilIface) 6 ?_ hHeld ?_
   (intro w hw;obtain ⟨f,i⟩:=hw;go_simp <;> with_reducible rfl)
   (try simp only[Act.put,List.setIfInBounds_toArray,List.set_cons_zero,List.set_cons_succ,List.getElem_toArray,List.getElem_cons_succ,List.getElem_cons_zero])
   refine wpAnyH_ready (rs:=[7]) (by kernel_rfl) (by simp) (AllReadyH.cons rfl (fun K hK=>?_) AllReadyH.nil)
   go_simp
   go_at_call 176
   refine (musts_ok z _).mono ?_
   rintro e w5 ⟨rfl,E⟩
   have L:=ki (bt B.out E)
   clear E
   refine hK.out _ _ (n.out _ L.out) (fun hHeld=>?_)
   clear hK K
   (try simp only[Act.put,List.setIfInBounds_toArray,List.set_cons_zero,List.set_cons_succ,List.getElem_toArray,List.getElem_cons_succ,List.getElem_cons_zero])
   have R:=ki (bt s.out (bt o.out L.out))
   (try simp only[Act.put,List.setIfInBounds_toArray,List.set_cons_zero,List.set_cons_succ,List.getElem_toArray,List.getElem_cons_succ,List.getElem_cons_zero])
   refine wpAnyH_ready (rs:=[8]) (by kernel_rfl) (by simp) (AllReadyH.cons rfl (fun K hK=>?_) AllReadyH.nil)
   go_simp
   go_at_call 184
   refine (inside_gh hg.1 z hz w G O _ (HG.out.kept R.out) (D.out.below R.out)).mono ?_
   rintro e w6 ⟨rfl,T⟩
   have M:=ki (bt L.out T)
   clear T
   refine hK.out _ _ (n.out _ M.out) (fun hHeld=>?_)
   clear hK K
   (try simp only[Act.put,List.setIfInBounds_toArray,List.set_cons_zero,List.set_cons_succ,List.getElem_toArray,List.getElem_cons_succ,List.getElem_cons_zero])
   refine wtq (v:=(Ad.strv (insF g.c z))) 9 ?_ hHeld ?_
   (intro w hw;obtain ⟨f,i⟩:=hw;go_simp <;> with_reducible rfl)
   refine wtq (v:=.nilIface) 10 ?_ hHeld ?_
   (intro w hw;obtain ⟨f,i⟩:=hw;go_simp <;> with_reducible rfl)
   (try simp only[Act.put,List.setIfInBounds_toArray,List.set_cons_zero,List.set_cons_succ,List.getElem_toArray,List.getElem_cons_succ,List.getElem_cons_zero])
   refine wpAnyH_ready (rs:=[11]) (by kernel_rfl) (by simp) (AllReadyH.cons rfl (fun K hK=>?_) AllReadyH.nil)
   go_simp
   go_at_call 59
   refine (shown0 (insF g.c z) _ (D.out.below (bt s.out (bt o.out M.out))).2.2).mono ?_
   rintro e w7 ⟨rfl,U⟩
   have V:=ki (bt M.out U)
   clear U
   refine hK.out _ _ (n.out _ V.out) (fun hHeld=>?_)
   clear hK K
   (try simp only[Act.put,List.setIfInBounds_toArray,List.set_cons_zero,List.set_cons_succ,List.getElem_toArray,List.getElem_cons_succ,List.getElem_cons_zero])
   refine wtq (v:=(Ad.strv (insF g.c z))) 12 ?_ hHeld ?_
   (intro w hw;obtain ⟨f,i⟩:=hw;go_simp <;> with_reducible rfl)
   have am:=ki (GN.still HG.out (bt s.out (bt o.out V.out)))
   refine wpAnyH_done (by kernel_rfl) ?_ _
   go_wp2_with fail
   go_ret
   rw[F.out]
   exact ⟨rfl,am.out⟩
 ·have X:justF 1 r=false:=by simpa using hj
  rw[X] at P
  have F:=ki (show inF' g r=none by unfold inF';rw[X])
  go_wp2_with (first
   | (go_at_call 171;refine (P.out _ H.out).mono ?_;rintro e w2 ⟨rfl,rfl⟩)
   | (go_at_call 170;refine (mustw_no _ 5 _).mono ?_;rintro e C ⟨rfl,rfl⟩))
  exact ⟨rfl,by rw[F.out];exact ⟨rfl,bt s.out o.out⟩⟩
end
end Go.Proofs.YtgcojnlngchllaaGreatDoor
