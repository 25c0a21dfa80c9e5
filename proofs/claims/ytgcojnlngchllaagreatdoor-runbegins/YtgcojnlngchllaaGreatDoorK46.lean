/- obey of say, by a contract. obey of call, by a contract. -/
import Derived.Test.YtgcojnlngchllaaGreatDoorK45
namespace Go.Proofs.YtgcojnlngchllaaGreatDoor
open Go.RowKit
set_option linter.unusedVariables false
set_option maxRecDepth 100000
set_option maxHeartbeats 40000000
section
set_option linter.unusedSimpArgs false
attribute [local go_sem ↓] hload_shut nload_shut
theorem nl_cell {B G:Nat} {w:World} (p:w.cell? ⟨B,0,none⟩=some (.pointer (some ⟨G,0,none⟩))):(nload (.pointer (some ⟨B,0,none⟩))).run Tryz.prog w=.ok (ssn G) w:=by
 unfold nload
 exact run_loadAt_mid w B 0 126 [.pointer (some ⟨G,0,none⟩)] _ (fun j v hv=>by
  have a:j < 1:=(List.getElem?_eq_some_iff.1 hv).1
  obtain rfl:j=0:=by omega
  rw[p]
  exact hv) Tryz.underlying126 rfl (by kernel_rfl)
theorem nm_yes (x:List UInt8) (n:Nat) (hx:x.length≤100000) (w:World) (hA:LA w) (h:numF x=some n):Calls Tryz.prog 179 #[.string ⟨x.toArray⟩] w fun e w'=>e=.returned (.tuple #[.int .i64 (n:Nat),.nilIface])∧Below w.heap.size w w':=by
 have:=number_run x hx w hA
 rw[h] at this
 exact this
theorem nm_no (x:List UInt8) (hx:x.length≤100000) (w:World) (hA:LA w) (h:numF x=none):Calls Tryz.prog 179 #[.string ⟨x.toArray⟩] w fun e w'=>e=.returned (.tuple #[.int .i64 0,err 5])∧Below w.heap.size w w':=by
 have:=number_run x hx w hA
 rw[h] at this
 exact this
theorem snd_len (g:GS) (s d z D:List Int):(snd g s d z D).2.1.length≤400:=by
 unfold snd
 split
 ·exact g6_len g _
 ·exact Nat.zero_le _
def sayF_of (g:GS) (x0 x1 x2:List UInt8):Option (List UInt8×GS):=match Ad.AM.parseF x0,numF x1 with
 | some z,some n=>some (shw (hxs (snd g z (vip g.c) [17,((n:Nat):Int),el g.c 8,0,0,0,0] (byI x2)).2.1) (snd g z (vip g.c) [17,((n:Nat):Int),el g.c 8,0,0,0,0] (byI x2)).1,(snd g z (vip g.c) [17,((n:Nat):Int),el g.c 8,0,0,0,0] (byI x2)).2.2)
 | _,_=>none
def sayF (g:GS) (r:List (List UInt8)):Option (List UInt8×GS):=match justF 3 r with
 | true=>sayF_of g (r.getD 0 []) (r.getD 1 []) (r.getD 2 [])
 | false=>none
theorem obey_say {g:GS} (hg:OB g) (l:List UInt8) (hl:l.length≤70000) (r:List (List UInt8)) (hs:Ad.AM.spl 32 l=[115,97,121]::r):∀ w G O W,GH w G g O W→LA w →
  Calls Tryz.prog 115 #[ssn G,Ad.strv l] W fun e w'=>ObW w G O W w' (sayF g r) e:=by
 intro w G O W hG hA
 have b1:=al_below W (.cells #[.pointer (some ⟨G,0,none⟩)] 126)
 have HN:=ki (sn_new G W)
 have D:=ki b1
 have Q:=ki hG
 have aw:=ki hA
 have ae:=ki (hA.below hG.below)
 have HS:=ki (fun W1 h=>split_run 32 l (by omega) W1 h)
 rw[hs] at HS
 unfold Ad.strv at HS ⊢
 clear b1 hG hA
 unfold ssn
 go_enter Tryz.func115,Tryz.ntmps115
 go_upto_region 1 with fail
 generalize World.alloc _ _=W0 at HN D ⊢
 go_upto_region 2 with (go_at_call 112;refine (HS.out _ (ae.out.below D.out).1.2.2).mono ?_;rintro e w1 ⟨⟨v,rfl,⟨a,c,rfl,h1,h2,h3⟩,af⟩,q⟩;have B:=ki q;clear q)
 obtain ⟨b,t,rfl,hc⟩:=h3 (by simp)
 have be:W.heap.size≤b:=Nat.le_trans D.out.size (af _ _ _ _ rfl)
 clear af
 have hh:w1.cell? ⟨b,t,none⟩=some (.string ⟨#[115,97,121]⟩):=hc 0 (by simp)
 go_region
 go_upto_region 11 with fail
 have R:=ki (show Wds (.slice (if c=1 then some ⟨b,t,none⟩ else some ⟨b,t+1,none⟩) r.length (c - 1)) r w1.drew from ⟨_,_,rfl,by simp at h1;omega,by simp at h2;omega,fun hp=>⟨b,t+1,by simp at h1;rw[if_neg (by omega)],fun j hj=>by
  have:=hc (j+1) (by simp;omega)
  rw[show t+1+j=t+(j+1) by omega]
  exact this⟩⟩)
 replace B:=ki (show Below W0.heap.size W0 w1.drew from B.out.drew)
 generalize hwd:w1.drew=wd at R B ⊢
 clear hwd hh hc h3
 obtain ⟨rv,hrv⟩:∃ rv:Value,rv=.slice (if c=1 then some ⟨b,t,none⟩ else some ⟨b,t+1,none⟩) r.length (c - 1):=⟨_,rfl⟩
 rw[← hrv] at R
 have T:∀ b' o',(if c=1 then some (⟨b,t,none⟩:Addr) else some ⟨b,t+1,none⟩)=some ⟨b',o',none⟩→W.heap.size≤b':=by
  intro b' o' e
  split at e <;> (injection e with e;injection e with e;omega)
 generalize (if c=1 then some (⟨b,t,none⟩:Addr) else some ⟨b,t+1,none⟩)=ra at hrv T ⊢
 generalize c - 1=rc at hrv ⊢
 subst hrv
 have HJ:=ki (fun W1 (h:Wds (.slice ra r.length rc) r W1)=>just_run 3 _ r W1 (by omega) h)
 by_cases hj:justF 3 r=true
 ·rw[hj] at HJ
  have ao:r.length=3:=by
   unfold justF at hj
   simp only[Bool.and_eq_true,beq_iff_eq] at hj
   exact hj.1
  obtain ⟨x0,x1,x2,rfl⟩:∃ x0 x1 x2,r=[x0,x1,x2]:=by
   rcases r with _|⟨x0,_|⟨x1,_|⟨x2,_|⟨xz,rz⟩⟩⟩⟩
   all_goals first|exact ⟨_,_,_,rfl⟩|(simp at ao)
  have bc:x0.length≤100000:=by
   have:=Ad.AM.spl_len 32 l x0 (by rw[hs];simp)
   omega
  have L:x1.length≤100000:=by
   have:=Ad.AM.spl_len 32 l x1 (by rw[hs];simp)
   omega
  have ac:x2.length≤100000:=by
   have:=Ad.AM.spl_len 32 l x2 (by rw[hs];simp)
   omega
  have y:=ki (show sayF g [x0,x1,x2]=sayF_of g x0 x1 x2 by unfold sayF;rw[hj];rfl)
  have M:=ki (ae.out.below (bt D.out B.out))
  have az:=ki (HN.out.kept B.out)
  go_upto_region 12 with (first
   | (go_at_call 171;refine (HJ.out _ R.out).mono ?_;rintro e w2 ⟨rfl,rfl⟩)
   | (go_at_call 170;refine (mustw_ok _ _).mono ?_;rintro e C ⟨rfl,rfl⟩))
  obtain ⟨a0,c0,e0,k1,k2,k3⟩:=R.out
  injection e0 with e01 e02 e03
  subst e01 e03
  obtain ⟨d,f,rfl,kc⟩:=k3 (by simp)
  have U:=T _ _ rfl
  clear T
  have V:C.cell? ⟨d,f,none⟩=some (.string ⟨x0.toArray⟩):=kc 0 (by simp)
  have X:C.cell? ⟨d,f+1,none⟩=some (.string ⟨x1.toArray⟩):=kc 1 (by simp)
  have Y:C.cell? ⟨d,f+2,none⟩=some (.string ⟨x2.toArray⟩):=kc 2 (by simp)
  clear k1 k2 k3 kc e02
  have E:=ki (show Below C.heap.size C C.drew from (Below.refl _ _).drew)
  have x:=ki (show ∀ W1,Below C.heap.size C W1→W1.cell? ⟨W.heap.size,0,none⟩=some (.pointer (some ⟨G,0,none⟩))∧W1.cell? ⟨d,f,none⟩=some (.string ⟨x0.toArray⟩)∧W1.cell? ⟨d,f+1,none⟩=some (.string ⟨x1.toArray⟩)∧W1.cell? ⟨d,f+2,none⟩=some (.string ⟨x2.toArray⟩) from fun W1 hb=>⟨(az.out.kept hb).cell,(hb.cell (p:=⟨d,f,none⟩) (Ad.lt_of_cell V)).trans V,(hb.cell (p:=⟨d,f+1,none⟩) (Ad.lt_of_cell X)).trans X,(hb.cell (p:=⟨d,f+2,none⟩) (Ad.lt_of_cell Y)).trans Y⟩)
  refine wp_region_held_drew (S:=fun W1=>W1.cell? ⟨W.heap.size,0,none⟩=some (.pointer (some ⟨G,0,none⟩))∧W1.cell? ⟨d,f,none⟩=some (.string ⟨x0.toArray⟩)∧W1.cell? ⟨d,f+1,none⟩=some (.string ⟨x1.toArray⟩)∧W1.cell? ⟨d,f+2,none⟩=some (.string ⟨x2.toArray⟩)) (by kernel_rfl) (x.out _ E.out) (fun hHeld=>?_)
  refine wtq (v:=(ssn G)) 0 ?_ hHeld ?_
  (intro w hw;obtain ⟨k,n,o,s⟩:=hw;have s0:=nl_cell k;go_simp <;> with_reducible rfl)
  refine wtq (v:=(.slice (some ⟨d,f,none⟩) 3 rc)) 1 ?_ hHeld ?_
  (intro w hw;obtain ⟨k,n,o,s⟩:=hw;go_simp <;> with_reducible rfl)
  refine wtq (v:=(.pointer (some ⟨d,f,none⟩))) 2 ?_ hHeld ?_
  (intro w hw;obtain ⟨k,n,o,s⟩:=hw;go_simp <;> with_reducible rfl)
  refine wtq (v:=(.string ⟨x0.toArray⟩)) 3 ?_ hHeld ?_
  (intro w hw;obtain ⟨k,n,o,s⟩:=hw;go_simp <;> with_reducible rfl)
  refine wtq (v:=(.slice (some ⟨d,f,none⟩) 3 rc)) 8 ?_ hHeld ?_
  (intro w hw;obtain ⟨k,n,o,s⟩:=hw;go_simp <;> with_reducible rfl)
  refine wtq (v:=(.pointer (some ⟨d,f+1,none⟩))) 9 ?_ hHeld ?_
  (intro w hw;obtain ⟨k,n,o,s⟩:=hw;go_simp <;> with_reducible rfl)
  refine wtq (v:=(.string ⟨x1.toArray⟩)) 10 ?_ hHeld ?_
  (intro w hw;obtain ⟨k,n,o,s⟩:=hw;go_simp <;> with_reducible rfl)
  refine wtq (v:=(.slice (some ⟨d,f,none⟩) 3 rc)) 15 ?_ hHeld ?_
  (intro w hw;obtain ⟨k,n,o,s⟩:=hw;go_simp <;> with_reducible rfl)
  refine wtq (v:=(.pointer (some ⟨d,f+2,none⟩))) 16 ?_ hHeld ?_
  (intro w hw;obtain ⟨k,n,o,s⟩:=hw;go_simp <;> with_reducible rfl)
  refine wtq (v:=(.string ⟨x2.toArray⟩)) 17 ?_ hHeld ?_
  (intro w hw;obtain ⟨k,n,o,s⟩:=hw;go_simp <;> with_reducible rfl)
  cases hb0:Ad.AM.parseF x0 with
  | none =>
   replace y:=ki (show sayF g [x0,x1,x2]=none by rw[y.out];unfold sayF_of;simp only[hb0])
   (try simp only[Act.put,List.setIfInBounds_toArray,List.set_cons_zero,List.set_cons_succ,List.getElem_toArray,List.getElem_cons_succ,List.getElem_cons_zero])
   refine wpAnyH_ready (rs:=[4]) (by kernel_rfl) (by simp) (AllReadyH.cons rfl (fun K hK=>?_) AllReadyH.nil)
   go_simp
   go_at_call 177
   refine (rd6_no x0 _ (M.out.below E.out).1 hb0).mono ?_
   rintro e u0 ⟨rfl,i⟩
   have F:=ki (bt E.out i)
   clear i
   refine hK.out _ _ (x.out _ F.out) (fun hHeld=>?_)
   clear hK K
   (try simp only[Act.put,List.setIfInBounds_toArray,List.set_cons_zero,List.set_cons_succ,List.getElem_toArray,List.getElem_cons_succ,List.getElem_cons_zero])
   refine wtq (v:=(.agg (sixC []))) 5 ?_ hHeld ?_
   (intro w hw;obtain ⟨k,n,o,s⟩:=hw;go_simp <;> with_reducible rfl)
   refine wtq (v:=(err 5)) 6 ?_ hHeld ?_
   (intro w hw;obtain ⟨k,n,o,s⟩:=hw;go_simp <;> with_reducible rfl)
   (try simp only[Act.put,List.setIfInBounds_toArray,List.set_cons_zero,List.set_cons_succ,List.getElem_toArray,List.getElem_cons_succ,List.getElem_cons_zero])
   refine wpAnyH_ready (rs:=[7]) (by kernel_rfl) (by simp) (AllReadyH.cons rfl (fun K hK=>?_) AllReadyH.nil)
   go_simp
   go_at_call 176
   refine (musts_no [] 5 _).mono ?_
   rintro e w5 ⟨rfl,a3⟩
   exact ⟨rfl,by rw[y.out];exact ⟨rfl,bt D.out (bt B.out (bt F.out a3))⟩⟩
  | some z0 =>
   (try simp only[Act.put,List.setIfInBounds_toArray,List.set_cons_zero,List.set_cons_succ,List.getElem_toArray,List.getElem_cons_succ,List.getElem_cons_zero])
   refine wpAnyH_ready (rs:=[4]) (by kernel_rfl) (by simp) (AllReadyH.cons rfl (fun K hK=>?_) AllReadyH.nil)
   go_simp
   go_at_call 177
   refine (rd6_yes x0 z0 _ (M.out.below E.out).1 hb0).mono ?_
   rintro e u0 ⟨rfl,i⟩
   have F:=ki (bt E.out i)
   clear i
   refine hK.out _ _ (x.out _ F.out) (fun hHeld=>?_)
   clear hK K
   (try simp only[Act.put,List.setIfInBounds_toArray,List.set_cons_zero,List.set_cons_succ,List.getElem_toArray,List.getElem_cons_succ,List.getElem_cons_zero])
   refine wtq (v:=(.agg (sixC z0))) 5 ?_ hHeld ?_
   (intro w hw;obtain ⟨k,n,o,s⟩:=hw;go_simp <;> with_reducible rfl)
   refine wtq (v:=.nilIface) 6 ?_ hHeld ?_
   (intro w hw;obtain ⟨k,n,o,s⟩:=hw;go_simp <;> with_reducible rfl)
   (try simp only[Act.put,List.setIfInBounds_toArray,List.set_cons_zero,List.set_cons_succ,List.getElem_toArray,List.getElem_cons_succ,List.getElem_cons_zero])
   refine wpAnyH_ready (rs:=[7]) (by kernel_rfl) (by simp) (AllReadyH.cons rfl (fun K hK=>?_) AllReadyH.nil)
   go_simp
   go_at_call 176
   refine (musts_ok z0 _).mono ?_
   rintro e t0 ⟨rfl,i⟩
   have H:=ki (bt F.out i)
   clear i
   refine hK.out _ _ (x.out _ H.out) (fun hHeld=>?_)
   clear hK K
   (try simp only[Act.put,List.setIfInBounds_toArray,List.set_cons_zero,List.set_cons_succ,List.getElem_toArray,List.getElem_cons_succ,List.getElem_cons_zero])
   cases hb1:numF x1 with
   | none =>
    replace y:=ki (show sayF g [x0,x1,x2]=none by rw[y.out];unfold sayF_of;simp only[hb0,hb1])
    (try simp only[Act.put,List.setIfInBounds_toArray,List.set_cons_zero,List.set_cons_succ,List.getElem_toArray,List.getElem_cons_succ,List.getElem_cons_zero])
    refine wpAnyH_ready (rs:=[11]) (by kernel_rfl) (by simp) (AllReadyH.cons rfl (fun K hK=>?_) AllReadyH.nil)
    go_simp
    go_at_call 179
    refine (nm_no x1 L _ (M.out.below H.out) hb1).mono ?_
    rintro e u1 ⟨rfl,i⟩
    have z:=ki (bt H.out i)
    clear i
    refine hK.out _ _ (x.out _ z.out) (fun hHeld=>?_)
    clear hK K
    (try simp only[Act.put,List.setIfInBounds_toArray,List.set_cons_zero,List.set_cons_succ,List.getElem_toArray,List.getElem_cons_succ,List.getElem_cons_zero])
    refine wtq (v:=(.int .i64 0)) 12 ?_ hHeld ?_
    (intro w hw;obtain ⟨k,n,o,s⟩:=hw;go_simp <;> with_reducible rfl)
    refine wtq (v:=(err 5)) 13 ?_ hHeld ?_
    (intro w hw;obtain ⟨k,n,o,s⟩:=hw;go_simp <;> with_reducible rfl)
    (try simp only[Act.put,List.setIfInBounds_toArray,List.set_cons_zero,List.set_cons_succ,List.getElem_toArray,List.getElem_cons_succ,List.getElem_cons_zero])
    refine wpAnyH_ready (rs:=[14]) (by kernel_rfl) (by simp) (AllReadyH.cons rfl (fun K hK=>?_) AllReadyH.nil)
    go_simp
    go_at_call 178
    refine (musti_no _ 5 _).mono ?_
    rintro e w5 ⟨rfl,rfl⟩
    exact ⟨rfl,by rw[y.out];exact ⟨rfl,bt D.out (bt B.out z.out)⟩⟩
   | some n1 =>
    (try simp only[Act.put,List.setIfInBounds_toArray,List.set_cons_zero,List.set_cons_succ,List.getElem_toArray,List.getElem_cons_succ,List.getElem_cons_zero])
    refine wpAnyH_ready (rs:=[11]) (by kernel_rfl) (by simp) (AllReadyH.cons rfl (fun K hK=>?_) AllReadyH.nil)
    go_simp
    go_at_call 179
    refine (nm_yes x1 n1 L _ (M.out.below H.out) hb1).mono ?_
    rintro e u1 ⟨rfl,i⟩
    have z:=ki (bt H.out i)
    clear i
    refine hK.out _ _ (x.out _ z.out) (fun hHeld=>?_)
    clear hK K
    (try simp only[Act.put,List.setIfInBounds_toArray,List.set_cons_zero,List.set_cons_succ,List.getElem_toArray,List.getElem_cons_succ,List.getElem_cons_zero])
    refine wtq (v:=(.int .i64 ((n1:Nat):Int))) 12 ?_ hHeld ?_
    (intro w hw;obtain ⟨k,n,o,s⟩:=hw;go_simp <;> with_reducible rfl)
    refine wtq (v:=.nilIface) 13 ?_ hHeld ?_
    (intro w hw;obtain ⟨k,n,o,s⟩:=hw;go_simp <;> with_reducible rfl)
    (try simp only[Act.put,List.setIfInBounds_toArray,List.set_cons_zero,List.set_cons_succ,List.getElem_toArray,List.getElem_cons_succ,List.getElem_cons_zero])
    refine wpAnyH_ready (rs:=[14]) (by kernel_rfl) (by simp) (AllReadyH.cons rfl (fun K hK=>?_) AllReadyH.nil)
    go_simp
    go_at_call 178
    refine (musti_ok _ _).mono ?_
    rintro e I ⟨rfl,rfl⟩
    refine hK.out _ _ (x.out _ z.out) (fun hHeld=>?_)
    clear hK K
    (try simp only[Act.put,List.setIfInBounds_toArray,List.set_cons_zero,List.set_cons_succ,List.getElem_toArray,List.getElem_cons_succ,List.getElem_cons_zero])
    replace y:=ki (show sayF g [x0,x1,x2]=some (shw (hxs (snd g z0 (vip g.c) [17,((n1:Nat):Int),el g.c 8,0,0,0,0] (byI x2)).2.1) (snd g z0 (vip g.c) [17,((n1:Nat):Int),el g.c 8,0,0,0,0] (byI x2)).1,(snd g z0 (vip g.c) [17,((n1:Nat):Int),el g.c 8,0,0,0,0] (byI x2)).2.2) by rw[y.out];unfold sayF_of;simp only[hb0,hb1])
    have a4:=snd_len g z0 (vip g.c) [17,((n1:Nat):Int),el g.c 8,0,0,0,0] (byI x2)
    have HI:=ki (fun W1 (hw:Below W.heap.size W W1)=>say_gh hg.1 z0 ((n1:Nat):Int) x2 (rd6_ok hb0) hg.2.1.1 ac w G O W1 (Q.out.kept hw))
    generalize snd g z0 (vip g.c) [17,((n1:Nat):Int),el g.c 8,0,0,0,0] (byI x2)=R6 at HI y a4
    have ag:=ki (bt D.out (bt B.out z.out))
    obtain ⟨I,N,P,t4⟩:=x.out _ z.out
    (try simp only[Act.put,List.setIfInBounds_toArray,List.set_cons_zero,List.set_cons_succ,List.getElem_toArray,List.getElem_cons_succ,List.getElem_cons_zero])
    refine wpAnyH_ready (rs:=[18]) (by kernel_rfl) (by simp) (AllReadyH.cons rfl (fun K hK=>?_) AllReadyH.nil)
    go_simp
    go_at_call 175
    refine (HI.out _ ag.out).mono ?_
    rintro e Z ⟨⟨a2,l2,c2,rfl,r6,a7,bq⟩,J⟩
    have a8:=ki r6
    have br:=r6.1
    have ai:=ki (show Z.cell? ⟨W.heap.size,0,none⟩=some (.pointer (some ⟨G,0,none⟩))∧Z.cell? ⟨d,f,none⟩=some (.string ⟨x0.toArray⟩)∧Z.cell? ⟨d,f+1,none⟩=some (.string ⟨x1.toArray⟩)∧Z.cell? ⟨d,f+2,none⟩=some (.string ⟨x2.toArray⟩) from ⟨J.held I (fun h=>Nat.lt_irrefl _ (Q.out.lt h)),J.held N (fun h=>Nat.lt_irrefl _ (Nat.lt_of_lt_of_le (Q.out.lt h) U)),J.held P (fun h=>Nat.lt_irrefl _ (Nat.lt_of_lt_of_le (Q.out.lt h) U)),J.held t4 (fun h=>Nat.lt_irrefl _ (Nat.lt_of_lt_of_le (Q.out.lt h) U))⟩)
    have aq:=ki (show LA Z by obtain ⟨O6,a9,_⟩:=J;exact aw.out.below a9.below)
    have ba:=ki (J.pre ag.out)
    clear I N P t4 r6 J
    refine hK.out _ _ ai.out (fun hHeld=>?_)
    clear hK K
    (try simp only[Act.put,List.setIfInBounds_toArray,List.set_cons_zero,List.set_cons_succ,List.getElem_toArray,List.getElem_cons_succ,List.getElem_cons_zero])
    refine wtq (v:=(.slice a2 l2 c2)) 19 ?_ hHeld ?_
    (intro w hw;obtain ⟨k,n,o,s⟩:=hw;go_simp <;> with_reducible rfl)
    refine wtq (v:=(ev R6.1)) 20 ?_ hHeld ?_
    (intro w hw;obtain ⟨k,n,o,s⟩:=hw;go_simp <;> with_reducible rfl)
    (try simp only[Act.put,List.setIfInBounds_toArray,List.set_cons_zero,List.set_cons_succ,List.getElem_toArray,List.getElem_cons_succ,List.getElem_cons_zero])
    refine wpAnyH_ready (rs:=[21]) (by kernel_rfl) (by simp) (AllReadyH.cons rfl (fun K hK=>?_) AllReadyH.nil)
    go_simp
    go_at_call 172
    refine (packet_any a2 l2 c2 R6.2.1 R6.1 _ a8.out (by omega) a7 aq.out.2.2).mono ?_
    rintro e w7 ⟨rfl,A⟩
    have ar:=ki (ba.out.after A)
    obtain ⟨I,N,P,t4⟩:=ai.out
    have bb:=ki (show w7.cell? ⟨W.heap.size,0,none⟩=some (.pointer (some ⟨G,0,none⟩))∧w7.cell? ⟨d,f,none⟩=some (.string ⟨x0.toArray⟩)∧w7.cell? ⟨d,f+1,none⟩=some (.string ⟨x1.toArray⟩)∧w7.cell? ⟨d,f+2,none⟩=some (.string ⟨x2.toArray⟩) from ⟨(A.cell (Ad.lt_of_cell I)).trans I,(A.cell (Ad.lt_of_cell N)).trans N,(A.cell (Ad.lt_of_cell P)).trans P,(A.cell (Ad.lt_of_cell t4)).trans t4⟩)
    clear I N P t4 A
    refine hK.out _ _ bb.out (fun hHeld=>?_)
    clear hK K
    (try simp only[Act.put,List.setIfInBounds_toArray,List.set_cons_zero,List.set_cons_succ,List.getElem_toArray,List.getElem_cons_succ,List.getElem_cons_zero])
    refine wtq (v:=(Ad.strv (shw (hxs R6.2.1) R6.1))) 22 ?_ hHeld ?_
    (intro w hw;obtain ⟨k,n,o,s⟩:=hw;go_simp <;> with_reducible rfl)
    refine wpAnyH_done (by kernel_rfl) ?_ _
    go_wp2_with fail
    go_ret
    rw[y.out]
    exact ⟨rfl,ar.out⟩
 ·have aj:justF 3 r=false:=by simpa using hj
  rw[aj] at HJ
  have y:=ki (show sayF g r=none by unfold sayF;rw[aj])
  go_wp2_with (first
   | (go_at_call 171;refine (HJ.out _ R.out).mono ?_;rintro e w2 ⟨rfl,rfl⟩)
   | (go_at_call 170;refine (mustw_no _ 5 _).mono ?_;rintro e C ⟨rfl,rfl⟩))
  exact ⟨rfl,by rw[y.out];exact ⟨rfl,bt D.out B.out⟩⟩
end
section
set_option linter.unusedSimpArgs false
attribute [local go_sem ↓] hload_shut nload_shut
theorem rd4_yes (x:List UInt8) (n:Nat) (w:World) (hA:LA w) (h:Ad.AM.parse4F x=some n):Calls Tryz.prog 181 #[.string ⟨x.toArray⟩] w fun e w'=>e=.returned (.tuple #[.int .i64 (n:Nat),.nilIface])∧Below w.heap.size w w':=Ad.parse4_yes ⟨x.toArray⟩ w hA.1.2.2 hA.1.2.1 hA.2.1 n h
theorem rd4_no (x:List UInt8) (w:World) (hA:LA w) (h:Ad.AM.parse4F x=none):Calls Tryz.prog 181 #[.string ⟨x.toArray⟩] w fun e w'=>e=.returned (.tuple #[.int .i64 0,err 5])∧Below w.heap.size w w':=Ad.parse4_no ⟨x.toArray⟩ w hA.1.2.2 hA.1.2.1 hA.2.1 h
def callF_of (g:GS) (x0 x1 x2 x3:List UInt8):Option (List UInt8×GS):=match Ad.AM.parseF x0,numF x1,Ad.AM.parse4F x2,numF x3 with
 | some z,some n,some f,some d=>some (shw (hxs (snd g z (toz g.c ((f:Nat):Int)) [6,((n:Nat):Int),((d:Nat):Int),0,0,2,0] []).2.1) (snd g z (toz g.c ((f:Nat):Int)) [6,((n:Nat):Int),((d:Nat):Int),0,0,2,0] []).1,(snd g z (toz g.c ((f:Nat):Int)) [6,((n:Nat):Int),((d:Nat):Int),0,0,2,0] []).2.2)
 | _,_,_,_=>none
def callF (g:GS) (r:List (List UInt8)):Option (List UInt8×GS):=match justF 4 r with
 | true=>callF_of g (r.getD 0 []) (r.getD 1 []) (r.getD 2 []) (r.getD 3 [])
 | false=>none
theorem obey_call {g:GS} (hg:OB g) (l:List UInt8) (hl:l.length≤70000) (r:List (List UInt8)) (hs:Ad.AM.spl 32 l=[99,97,108,108]::r):∀ w G O W,GH w G g O W→LA w →
  Calls Tryz.prog 115 #[ssn G,Ad.strv l] W fun e w'=>ObW w G O W w' (callF g r) e:=by
 intro w G O W hG hA
 have b1:=al_below W (.cells #[.pointer (some ⟨G,0,none⟩)] 126)
 have HN:=ki (sn_new G W)
 have H:=ki b1
 have X:=ki hG
 have a4:=ki hA
 have ak:=ki (hA.below hG.below)
 have HS:=ki (fun W1 h=>split_run 32 l (by omega) W1 h)
 rw[hs] at HS
 unfold Ad.strv at HS ⊢
 clear b1 hG hA
 unfold ssn
 go_enter Tryz.func115,Tryz.ntmps115
 go_upto_region 1 with fail
 generalize World.alloc _ _=W0 at HN H ⊢
 go_upto_region 2 with (go_at_call 112;refine (HS.out _ (ak.out.below H.out).1.2.2).mono ?_;rintro e w1 ⟨⟨v,rfl,⟨a,c,rfl,h1,h2,h3⟩,am⟩,q⟩;have D:=ki q;clear q)
 obtain ⟨b,y,rfl,hc⟩:=h3 (by simp)
 have bp:W.heap.size≤b:=Nat.le_trans H.out.size (am _ _ _ _ rfl)
 clear am
 have hh:w1.cell? ⟨b,y,none⟩=some (.string ⟨#[99,97,108,108]⟩):=hc 0 (by simp)
 go_region
 go_upto_region 14 with fail
 have HR:=ki (show Wds (.slice (if c=1 then some ⟨b,y,none⟩ else some ⟨b,y+1,none⟩) r.length (c - 1)) r w1.drew from ⟨_,_,rfl,by simp at h1;omega,by simp at h2;omega,fun hp=>⟨b,y+1,by simp at h1;rw[if_neg (by omega)],fun j hj=>by
  have:=hc (j+1) (by simp;omega)
  rw[show y+1+j=y+(j+1) by omega]
  exact this⟩⟩)
 replace D:=ki (show Below W0.heap.size W0 w1.drew from D.out.drew)
 generalize hwd:w1.drew=wd at HR D ⊢
 clear hwd hh hc h3
 obtain ⟨rv,hrv⟩:∃ rv:Value,rv=.slice (if c=1 then some ⟨b,y,none⟩ else some ⟨b,y+1,none⟩) r.length (c - 1):=⟨_,rfl⟩
 rw[← hrv] at HR
 have ab:∀ b' o',(if c=1 then some (⟨b,y,none⟩:Addr) else some ⟨b,y+1,none⟩)=some ⟨b',o',none⟩→W.heap.size≤b':=by
  intro b' o' e
  split at e <;> (injection e with e;injection e with e;omega)
 generalize (if c=1 then some (⟨b,y,none⟩:Addr) else some ⟨b,y+1,none⟩)=ra at hrv ab ⊢
 generalize c - 1=rc at hrv ⊢
 subst hrv
 have HJ:=ki (fun W1 (h:Wds (.slice ra r.length rc) r W1)=>just_run 4 _ r W1 (by omega) h)
 by_cases hj:justF 4 r=true
 ·rw[hj] at HJ
  have av:r.length=4:=by
   unfold justF at hj
   simp only[Bool.and_eq_true,beq_iff_eq] at hj
   exact hj.1
  obtain ⟨x0,x1,x2,x3,rfl⟩:∃ x0 x1 x2 x3,r=[x0,x1,x2,x3]:=by
   rcases r with _|⟨x0,_|⟨x1,_|⟨x2,_|⟨x3,_|⟨xz,rz⟩⟩⟩⟩⟩
   all_goals first|exact ⟨_,_,_,_,rfl⟩|(simp at av)
  have bj:x0.length≤100000:=by
   have:=Ad.AM.spl_len 32 l x0 (by rw[hs];simp)
   omega
  have T:x1.length≤100000:=by
   have:=Ad.AM.spl_len 32 l x1 (by rw[hs];simp)
   omega
  have bm:x2.length≤100000:=by
   have:=Ad.AM.spl_len 32 l x2 (by rw[hs];simp)
   omega
  have U:x3.length≤100000:=by
   have:=Ad.AM.spl_len 32 l x3 (by rw[hs];simp)
   omega
  have z:=ki (show callF g [x0,x1,x2,x3]=callF_of g x0 x1 x2 x3 by unfold callF;rw[hj];rfl)
  have C:=ki (ak.out.below (bt H.out D.out))
  have a7:=ki (HN.out.kept D.out)
  go_upto_region 15 with (first
   | (go_at_call 171;refine (HJ.out _ HR.out).mono ?_;rintro e w2 ⟨rfl,rfl⟩)
   | (go_at_call 170;refine (mustw_ok _ _).mono ?_;rintro e I ⟨rfl,rfl⟩))
  obtain ⟨a0,c0,e0,k1,k2,k3⟩:=HR.out
  injection e0 with e01 e02 e03
  subst e01 e03
  obtain ⟨f,i,rfl,kc⟩:=k3 (by simp)
  have V:=ab _ _ rfl
  clear ab
  have ac:I.cell? ⟨f,i,none⟩=some (.string ⟨x0.toArray⟩):=kc 0 (by simp)
  have ad:I.cell? ⟨f,i+1,none⟩=some (.string ⟨x1.toArray⟩):=kc 1 (by simp)
  have ae:I.cell? ⟨f,i+2,none⟩=some (.string ⟨x2.toArray⟩):=kc 2 (by simp)
  have af:I.cell? ⟨f,i+3,none⟩=some (.string ⟨x3.toArray⟩):=kc 3 (by simp)
  clear k1 k2 k3 kc e02
  have J:=ki (show Below I.heap.size I I.drew from (Below.refl _ _).drew)
  have x:=ki (show ∀ W1,Below I.heap.size I W1→W1.cell? ⟨W.heap.size,0,none⟩=some (.pointer (some ⟨G,0,none⟩))∧W1.cell? ⟨f,i,none⟩=some (.string ⟨x0.toArray⟩)∧W1.cell? ⟨f,i+1,none⟩=some (.string ⟨x1.toArray⟩)∧W1.cell? ⟨f,i+2,none⟩=some (.string ⟨x2.toArray⟩)∧W1.cell? ⟨f,i+3,none⟩=some (.string ⟨x3.toArray⟩) from fun W1 hb=>⟨(a7.out.kept hb).cell,(hb.cell (p:=⟨f,i,none⟩) (Ad.lt_of_cell ac)).trans ac,(hb.cell (p:=⟨f,i+1,none⟩) (Ad.lt_of_cell ad)).trans ad,(hb.cell (p:=⟨f,i+2,none⟩) (Ad.lt_of_cell ae)).trans ae,(hb.cell (p:=⟨f,i+3,none⟩) (Ad.lt_of_cell af)).trans af⟩)
  refine wp_region_held_drew (S:=fun W1=>W1.cell? ⟨W.heap.size,0,none⟩=some (.pointer (some ⟨G,0,none⟩))∧W1.cell? ⟨f,i,none⟩=some (.string ⟨x0.toArray⟩)∧W1.cell? ⟨f,i+1,none⟩=some (.string ⟨x1.toArray⟩)∧W1.cell? ⟨f,i+2,none⟩=some (.string ⟨x2.toArray⟩)∧W1.cell? ⟨f,i+3,none⟩=some (.string ⟨x3.toArray⟩)) (by kernel_rfl) (x.out _ J.out) (fun hHeld=>?_)
  refine wtq (v:=(ssn G)) 0 ?_ hHeld ?_
  (intro w hw;obtain ⟨k,n,o,s,t⟩:=hw;have s0:=nl_cell k;go_simp <;> with_reducible rfl)
  refine wtq (v:=(.slice (some ⟨f,i,none⟩) 4 rc)) 1 ?_ hHeld ?_
  (intro w hw;obtain ⟨k,n,o,s,t⟩:=hw;go_simp <;> with_reducible rfl)
  refine wtq (v:=(.pointer (some ⟨f,i,none⟩))) 2 ?_ hHeld ?_
  (intro w hw;obtain ⟨k,n,o,s,t⟩:=hw;go_simp <;> with_reducible rfl)
  refine wtq (v:=(.string ⟨x0.toArray⟩)) 3 ?_ hHeld ?_
  (intro w hw;obtain ⟨k,n,o,s,t⟩:=hw;go_simp <;> with_reducible rfl)
  refine wtq (v:=(.slice (some ⟨f,i,none⟩) 4 rc)) 8 ?_ hHeld ?_
  (intro w hw;obtain ⟨k,n,o,s,t⟩:=hw;go_simp <;> with_reducible rfl)
  refine wtq (v:=(.pointer (some ⟨f,i+1,none⟩))) 9 ?_ hHeld ?_
  (intro w hw;obtain ⟨k,n,o,s,t⟩:=hw;go_simp <;> with_reducible rfl)
  refine wtq (v:=(.string ⟨x1.toArray⟩)) 10 ?_ hHeld ?_
  (intro w hw;obtain ⟨k,n,o,s,t⟩:=hw;go_simp <;> with_reducible rfl)
  refine wtq (v:=(.slice (some ⟨f,i,none⟩) 4 rc)) 15 ?_ hHeld ?_
  (intro w hw;obtain ⟨k,n,o,s,t⟩:=hw;go_simp <;> with_reducible rfl)
  refine wtq (v:=(.pointer (some ⟨f,i+2,none⟩))) 16 ?_ hHeld ?_
  (intro w hw;obtain ⟨k,n,o,s,t⟩:=hw;go_simp <;> with_reducible rfl)
  refine wtq (v:=(.string ⟨x2.toArray⟩)) 17 ?_ hHeld ?_
  (intro w hw;obtain ⟨k,n,o,s,t⟩:=hw;go_simp <;> with_reducible rfl)
  refine wtq (v:=(.slice (some ⟨f,i,none⟩) 4 rc)) 22 ?_ hHeld ?_
  (intro w hw;obtain ⟨k,n,o,s,t⟩:=hw;go_simp <;> with_reducible rfl)
  refine wtq (v:=(.pointer (some ⟨f,i+3,none⟩))) 23 ?_ hHeld ?_
  (intro w hw;obtain ⟨k,n,o,s,t⟩:=hw;go_simp <;> with_reducible rfl)
  refine wtq (v:=(.string ⟨x3.toArray⟩)) 24 ?_ hHeld ?_
  (intro w hw;obtain ⟨k,n,o,s,t⟩:=hw;go_simp <;> with_reducible rfl)
  cases hb0:Ad.AM.parseF x0 with
  | none =>
   replace z:=ki (show callF g [x0,x1,x2,x3]=none by rw[z.out];unfold callF_of;simp only[hb0])
   (try simp only[Act.put,List.setIfInBounds_toArray,List.set_cons_zero,List.set_cons_succ,List.getElem_toArray,List.getElem_cons_succ,List.getElem_cons_zero])
   refine wpAnyH_ready (rs:=[4]) (by kernel_rfl) (by simp) (AllReadyH.cons rfl (fun K hK=>?_) AllReadyH.nil)
   go_simp
   go_at_call 177
   refine (rd6_no x0 _ (C.out.below J.out).1 hb0).mono ?_
   rintro e u0 ⟨rfl,d⟩
   have L:=ki (bt J.out d)
   clear d
   refine hK.out _ _ (x.out _ L.out) (fun hHeld=>?_)
   clear hK K
   (try simp only[Act.put,List.setIfInBounds_toArray,List.set_cons_zero,List.set_cons_succ,List.getElem_toArray,List.getElem_cons_succ,List.getElem_cons_zero])
   refine wtq (v:=(.agg (sixC []))) 5 ?_ hHeld ?_
   (intro w hw;obtain ⟨k,n,o,s,t⟩:=hw;go_simp <;> with_reducible rfl)
   refine wtq (v:=(err 5)) 6 ?_ hHeld ?_
   (intro w hw;obtain ⟨k,n,o,s,t⟩:=hw;go_simp <;> with_reducible rfl)
   (try simp only[Act.put,List.setIfInBounds_toArray,List.set_cons_zero,List.set_cons_succ,List.getElem_toArray,List.getElem_cons_succ,List.getElem_cons_zero])
   refine wpAnyH_ready (rs:=[7]) (by kernel_rfl) (by simp) (AllReadyH.cons rfl (fun K hK=>?_) AllReadyH.nil)
   go_simp
   go_at_call 176
   refine (musts_no [] 5 _).mono ?_
   rintro e w5 ⟨rfl,a9⟩
   exact ⟨rfl,by rw[z.out];exact ⟨rfl,bt H.out (bt D.out (bt L.out a9))⟩⟩
  | some z0 =>
   (try simp only[Act.put,List.setIfInBounds_toArray,List.set_cons_zero,List.set_cons_succ,List.getElem_toArray,List.getElem_cons_succ,List.getElem_cons_zero])
   refine wpAnyH_ready (rs:=[4]) (by kernel_rfl) (by simp) (AllReadyH.cons rfl (fun K hK=>?_) AllReadyH.nil)
   go_simp
   go_at_call 177
   refine (rd6_yes x0 z0 _ (C.out.below J.out).1 hb0).mono ?_
   rintro e u0 ⟨rfl,d⟩
   have L:=ki (bt J.out d)
   clear d
   refine hK.out _ _ (x.out _ L.out) (fun hHeld=>?_)
   clear hK K
   (try simp only[Act.put,List.setIfInBounds_toArray,List.set_cons_zero,List.set_cons_succ,List.getElem_toArray,List.getElem_cons_succ,List.getElem_cons_zero])
   refine wtq (v:=(.agg (sixC z0))) 5 ?_ hHeld ?_
   (intro w hw;obtain ⟨k,n,o,s,t⟩:=hw;go_simp <;> with_reducible rfl)
   refine wtq (v:=.nilIface) 6 ?_ hHeld ?_
   (intro w hw;obtain ⟨k,n,o,s,t⟩:=hw;go_simp <;> with_reducible rfl)
   (try simp only[Act.put,List.setIfInBounds_toArray,List.set_cons_zero,List.set_cons_succ,List.getElem_toArray,List.getElem_cons_succ,List.getElem_cons_zero])
   refine wpAnyH_ready (rs:=[7]) (by kernel_rfl) (by simp) (AllReadyH.cons rfl (fun K hK=>?_) AllReadyH.nil)
   go_simp
   go_at_call 176
   refine (musts_ok z0 _).mono ?_
   rintro e t0 ⟨rfl,d⟩
   have M:=ki (bt L.out d)
   clear d
   refine hK.out _ _ (x.out _ M.out) (fun hHeld=>?_)
   clear hK K
   (try simp only[Act.put,List.setIfInBounds_toArray,List.set_cons_zero,List.set_cons_succ,List.getElem_toArray,List.getElem_cons_succ,List.getElem_cons_zero])
   cases hb1:numF x1 with
   | none =>
    replace z:=ki (show callF g [x0,x1,x2,x3]=none by rw[z.out];unfold callF_of;simp only[hb0,hb1])
    (try simp only[Act.put,List.setIfInBounds_toArray,List.set_cons_zero,List.set_cons_succ,List.getElem_toArray,List.getElem_cons_succ,List.getElem_cons_zero])
    refine wpAnyH_ready (rs:=[11]) (by kernel_rfl) (by simp) (AllReadyH.cons rfl (fun K hK=>?_) AllReadyH.nil)
    go_simp
    go_at_call 179
    refine (nm_no x1 T _ (C.out.below M.out) hb1).mono ?_
    rintro e u1 ⟨rfl,d⟩
    have A:=ki (bt M.out d)
    clear d
    refine hK.out _ _ (x.out _ A.out) (fun hHeld=>?_)
    clear hK K
    (try simp only[Act.put,List.setIfInBounds_toArray,List.set_cons_zero,List.set_cons_succ,List.getElem_toArray,List.getElem_cons_succ,List.getElem_cons_zero])
    refine wtq (v:=(.int .i64 0)) 12 ?_ hHeld ?_
    (intro w hw;obtain ⟨k,n,o,s,t⟩:=hw;go_simp <;> with_reducible rfl)
    refine wtq (v:=(err 5)) 13 ?_ hHeld ?_
    (intro w hw;obtain ⟨k,n,o,s,t⟩:=hw;go_simp <;> with_reducible rfl)
    (try simp only[Act.put,List.setIfInBounds_toArray,List.set_cons_zero,List.set_cons_succ,List.getElem_toArray,List.getElem_cons_succ,List.getElem_cons_zero])
    refine wpAnyH_ready (rs:=[14]) (by kernel_rfl) (by simp) (AllReadyH.cons rfl (fun K hK=>?_) AllReadyH.nil)
    go_simp
    go_at_call 178
    refine (musti_no _ 5 _).mono ?_
    rintro e w5 ⟨rfl,rfl⟩
    exact ⟨rfl,by rw[z.out];exact ⟨rfl,bt H.out (bt D.out A.out)⟩⟩
   | some n1 =>
    (try simp only[Act.put,List.setIfInBounds_toArray,List.set_cons_zero,List.set_cons_succ,List.getElem_toArray,List.getElem_cons_succ,List.getElem_cons_zero])
    refine wpAnyH_ready (rs:=[11]) (by kernel_rfl) (by simp) (AllReadyH.cons rfl (fun K hK=>?_) AllReadyH.nil)
    go_simp
    go_at_call 179
    refine (nm_yes x1 n1 T _ (C.out.below M.out) hb1).mono ?_
    rintro e u1 ⟨rfl,d⟩
    have A:=ki (bt M.out d)
    clear d
    refine hK.out _ _ (x.out _ A.out) (fun hHeld=>?_)
    clear hK K
    (try simp only[Act.put,List.setIfInBounds_toArray,List.set_cons_zero,List.set_cons_succ,List.getElem_toArray,List.getElem_cons_succ,List.getElem_cons_zero])
    refine wtq (v:=(.int .i64 ((n1:Nat):Int))) 12 ?_ hHeld ?_
    (intro w hw;obtain ⟨k,n,o,s,t⟩:=hw;go_simp <;> with_reducible rfl)
    refine wtq (v:=.nilIface) 13 ?_ hHeld ?_
    (intro w hw;obtain ⟨k,n,o,s,t⟩:=hw;go_simp <;> with_reducible rfl)
    (try simp only[Act.put,List.setIfInBounds_toArray,List.set_cons_zero,List.set_cons_succ,List.getElem_toArray,List.getElem_cons_succ,List.getElem_cons_zero])
    refine wpAnyH_ready (rs:=[14]) (by kernel_rfl) (by simp) (AllReadyH.cons rfl (fun K hK=>?_) AllReadyH.nil)
    go_simp
    go_at_call 178
    refine (musti_ok _ _).mono ?_
    rintro e P ⟨rfl,rfl⟩
    refine hK.out _ _ (x.out _ A.out) (fun hHeld=>?_)
    clear hK K
    (try simp only[Act.put,List.setIfInBounds_toArray,List.set_cons_zero,List.set_cons_succ,List.getElem_toArray,List.getElem_cons_succ,List.getElem_cons_zero])
    cases hb2:Ad.AM.parse4F x2 with
    | none =>
     replace z:=ki (show callF g [x0,x1,x2,x3]=none by rw[z.out];unfold callF_of;simp only[hb0,hb1,hb2])
     (try simp only[Act.put,List.setIfInBounds_toArray,List.set_cons_zero,List.set_cons_succ,List.getElem_toArray,List.getElem_cons_succ,List.getElem_cons_zero])
     refine wpAnyH_ready (rs:=[18]) (by kernel_rfl) (by simp) (AllReadyH.cons rfl (fun K hK=>?_) AllReadyH.nil)
     go_simp
     go_at_call 181
     refine (rd4_no x2 _ (C.out.below A.out) hb2).mono ?_
     rintro e u2 ⟨rfl,d⟩
     have B:=ki (bt A.out d)
     clear d
     refine hK.out _ _ (x.out _ B.out) (fun hHeld=>?_)
     clear hK K
     (try simp only[Act.put,List.setIfInBounds_toArray,List.set_cons_zero,List.set_cons_succ,List.getElem_toArray,List.getElem_cons_succ,List.getElem_cons_zero])
     refine wtq (v:=(.int .i64 0)) 19 ?_ hHeld ?_
     (intro w hw;obtain ⟨k,n,o,s,t⟩:=hw;go_simp <;> with_reducible rfl)
     refine wtq (v:=(err 5)) 20 ?_ hHeld ?_
     (intro w hw;obtain ⟨k,n,o,s,t⟩:=hw;go_simp <;> with_reducible rfl)
     (try simp only[Act.put,List.setIfInBounds_toArray,List.set_cons_zero,List.set_cons_succ,List.getElem_toArray,List.getElem_cons_succ,List.getElem_cons_zero])
     refine wpAnyH_ready (rs:=[21]) (by kernel_rfl) (by simp) (AllReadyH.cons rfl (fun K hK=>?_) AllReadyH.nil)
     go_simp
     go_at_call 178
     refine (musti_no _ 5 _).mono ?_
     rintro e w5 ⟨rfl,rfl⟩
     exact ⟨rfl,by rw[z.out];exact ⟨rfl,bt H.out (bt D.out B.out)⟩⟩
    | some n2 =>
     (try simp only[Act.put,List.setIfInBounds_toArray,List.set_cons_zero,List.set_cons_succ,List.getElem_toArray,List.getElem_cons_succ,List.getElem_cons_zero])
     refine wpAnyH_ready (rs:=[18]) (by kernel_rfl) (by simp) (AllReadyH.cons rfl (fun K hK=>?_) AllReadyH.nil)
     go_simp
     go_at_call 181
     refine (rd4_yes x2 n2 _ (C.out.below A.out) hb2).mono ?_
     rintro e u2 ⟨rfl,d⟩
     have B:=ki (bt A.out d)
     clear d
     refine hK.out _ _ (x.out _ B.out) (fun hHeld=>?_)
     clear hK K
     (try simp only[Act.put,List.setIfInBounds_toArray,List.set_cons_zero,List.set_cons_succ,List.getElem_toArray,List.getElem_cons_succ,List.getElem_cons_zero])
     refine wtq (v:=(.int .i64 ((n2:Nat):Int))) 19 ?_ hHeld ?_
     (intro w hw;obtain ⟨k,n,o,s,t⟩:=hw;go_simp <;> with_reducible rfl)
     refine wtq (v:=.nilIface) 20 ?_ hHeld ?_
     (intro w hw;obtain ⟨k,n,o,s,t⟩:=hw;go_simp <;> with_reducible rfl)
     (try simp only[Act.put,List.setIfInBounds_toArray,List.set_cons_zero,List.set_cons_succ,List.getElem_toArray,List.getElem_cons_succ,List.getElem_cons_zero])
     refine wpAnyH_ready (rs:=[21]) (by kernel_rfl) (by simp) (AllReadyH.cons rfl (fun K hK=>?_) AllReadyH.nil)
     go_simp
     go_at_call 178
     refine (musti_ok _ _).mono ?_
     rintro e Q ⟨rfl,rfl⟩
     refine hK.out _ _ (x.out _ B.out) (fun hHeld=>?_)
     clear hK K
     (try simp only[Act.put,List.setIfInBounds_toArray,List.set_cons_zero,List.set_cons_succ,List.getElem_toArray,List.getElem_cons_succ,List.getElem_cons_zero])
     cases hb3:numF x3 with
     | none =>
      replace z:=ki (show callF g [x0,x1,x2,x3]=none by rw[z.out];unfold callF_of;simp only[hb0,hb1,hb2,hb3])
      (try simp only[Act.put,List.setIfInBounds_toArray,List.set_cons_zero,List.set_cons_succ,List.getElem_toArray,List.getElem_cons_succ,List.getElem_cons_zero])
      refine wpAnyH_ready (rs:=[25]) (by kernel_rfl) (by simp) (AllReadyH.cons rfl (fun K hK=>?_) AllReadyH.nil)
      go_simp
      go_at_call 179
      refine (nm_no x3 U _ (C.out.below B.out) hb3).mono ?_
      rintro e u3 ⟨rfl,d⟩
      have E:=ki (bt B.out d)
      clear d
      refine hK.out _ _ (x.out _ E.out) (fun hHeld=>?_)
      clear hK K
      (try simp only[Act.put,List.setIfInBounds_toArray,List.set_cons_zero,List.set_cons_succ,List.getElem_toArray,List.getElem_cons_succ,List.getElem_cons_zero])
      refine wtq (v:=(.int .i64 0)) 26 ?_ hHeld ?_
      (intro w hw;obtain ⟨k,n,o,s,t⟩:=hw;go_simp <;> with_reducible rfl)
      refine wtq (v:=(err 5)) 27 ?_ hHeld ?_
      (intro w hw;obtain ⟨k,n,o,s,t⟩:=hw;go_simp <;> with_reducible rfl)
      (try simp only[Act.put,List.setIfInBounds_toArray,List.set_cons_zero,List.set_cons_succ,List.getElem_toArray,List.getElem_cons_succ,List.getElem_cons_zero])
      refine wpAnyH_ready (rs:=[28]) (by kernel_rfl) (by simp) (AllReadyH.cons rfl (fun K hK=>?_) AllReadyH.nil)
      go_simp
      go_at_call 178
      refine (musti_no _ 5 _).mono ?_
      rintro e w5 ⟨rfl,rfl⟩
      exact ⟨rfl,by rw[z.out];exact ⟨rfl,bt H.out (bt D.out E.out)⟩⟩
     | some n3 =>
      (try simp only[Act.put,List.setIfInBounds_toArray,List.set_cons_zero,List.set_cons_succ,List.getElem_toArray,List.getElem_cons_succ,List.getElem_cons_zero])
      refine wpAnyH_ready (rs:=[25]) (by kernel_rfl) (by simp) (AllReadyH.cons rfl (fun K hK=>?_) AllReadyH.nil)
      go_simp
      go_at_call 179
      refine (nm_yes x3 n3 U _ (C.out.below B.out) hb3).mono ?_
      rintro e u3 ⟨rfl,d⟩
      have E:=ki (bt B.out d)
      clear d
      refine hK.out _ _ (x.out _ E.out) (fun hHeld=>?_)
      clear hK K
      (try simp only[Act.put,List.setIfInBounds_toArray,List.set_cons_zero,List.set_cons_succ,List.getElem_toArray,List.getElem_cons_succ,List.getElem_cons_zero])
      refine wtq (v:=(.int .i64 ((n3:Nat):Int))) 26 ?_ hHeld ?_
      (intro w hw;obtain ⟨k,n,o,s,t⟩:=hw;go_simp <;> with_reducible rfl)
      refine wtq (v:=.nilIface) 27 ?_ hHeld ?_
      (intro w hw;obtain ⟨k,n,o,s,t⟩:=hw;go_simp <;> with_reducible rfl)
      (try simp only[Act.put,List.setIfInBounds_toArray,List.set_cons_zero,List.set_cons_succ,List.getElem_toArray,List.getElem_cons_succ,List.getElem_cons_zero])
      refine wpAnyH_ready (rs:=[28]) (by kernel_rfl) (by simp) (AllReadyH.cons rfl (fun K hK=>?_) AllReadyH.nil)
      go_simp
      go_at_call 178
      refine (musti_ok _ _).mono ?_
      rintro e R ⟨rfl,rfl⟩
      refine hK.out _ _ (x.out _ E.out) (fun hHeld=>?_)
      clear hK K
      (try simp only[Act.put,List.setIfInBounds_toArray,List.set_cons_zero,List.set_cons_succ,List.getElem_toArray,List.getElem_cons_succ,List.getElem_cons_zero])
      replace z:=ki (show callF g [x0,x1,x2,x3]=some (shw (hxs (snd g z0 (toz g.c ((n2:Nat):Int)) [6,((n1:Nat):Int),((n3:Nat):Int),0,0,2,0] []).2.1) (snd g z0 (toz g.c ((n2:Nat):Int)) [6,((n1:Nat):Int),((n3:Nat):Int),0,0,2,0] []).1,(snd g z0 (toz g.c ((n2:Nat):Int)) [6,((n1:Nat):Int),((n3:Nat):Int),0,0,2,0] []).2.2) by rw[z.out];unfold callF_of;simp only[hb0,hb1,hb2,hb3])
      have ba:=snd_len g z0 (toz g.c ((n2:Nat):Int)) [6,((n1:Nat):Int),((n3:Nat):Int),0,0,2,0] []
      have HI:=ki (fun W1 (hw:Below W.heap.size W W1)=>call_gh hg.1 z0 ((n1:Nat):Int) ((n2:Nat):Int) ((n3:Nat):Int) (rd6_ok hb0) hg.2.1 (by omega) (by have:=(Ad.AM.parse4_is hb2).1;omega) w G O W1 (X.out.kept hw))
      generalize snd g z0 (toz g.c ((n2:Nat):Int)) [6,((n1:Nat):Int),((n3:Nat):Int),0,0,2,0] []=R6 at HI z ba
      have an:=ki (bt H.out (bt D.out E.out))
      obtain ⟨P,Q,R,t4,Y⟩:=x.out _ E.out
      (try simp only[Act.put,List.setIfInBounds_toArray,List.set_cons_zero,List.set_cons_succ,List.getElem_toArray,List.getElem_cons_succ,List.getElem_cons_zero])
      refine wpAnyH_ready (rs:=[29]) (by kernel_rfl) (by simp) (AllReadyH.cons rfl (fun K hK=>?_) AllReadyH.nil)
      go_simp
      go_at_call 180
      refine (HI.out _ an.out).mono ?_
      rintro e Z ⟨⟨a2,l2,c2,rfl,r6,bd,b7⟩,N⟩
      have be:=ki r6
      have b8:=r6.1
      have ao:=ki (show Z.cell? ⟨W.heap.size,0,none⟩=some (.pointer (some ⟨G,0,none⟩))∧Z.cell? ⟨f,i,none⟩=some (.string ⟨x0.toArray⟩)∧Z.cell? ⟨f,i+1,none⟩=some (.string ⟨x1.toArray⟩)∧Z.cell? ⟨f,i+2,none⟩=some (.string ⟨x2.toArray⟩)∧Z.cell? ⟨f,i+3,none⟩=some (.string ⟨x3.toArray⟩) from ⟨N.held P (fun h=>Nat.lt_irrefl _ (X.out.lt h)),N.held Q (fun h=>Nat.lt_irrefl _ (Nat.lt_of_lt_of_le (X.out.lt h) V)),N.held R (fun h=>Nat.lt_irrefl _ (Nat.lt_of_lt_of_le (X.out.lt h) V)),N.held t4 (fun h=>Nat.lt_irrefl _ (Nat.lt_of_lt_of_le (X.out.lt h) V)),N.held Y (fun h=>Nat.lt_irrefl _ (Nat.lt_of_lt_of_le (X.out.lt h) V))⟩)
      have ay:=ki (show LA Z by obtain ⟨O6,bg,_⟩:=N;exact a4.out.below bg.below)
      have bh:=ki (N.pre an.out)
      clear P Q R t4 Y r6 N
      refine hK.out _ _ ao.out (fun hHeld=>?_)
      clear hK K
      (try simp only[Act.put,List.setIfInBounds_toArray,List.set_cons_zero,List.set_cons_succ,List.getElem_toArray,List.getElem_cons_succ,List.getElem_cons_zero])
      refine wtq (v:=(.slice a2 l2 c2)) 30 ?_ hHeld ?_
      (intro w hw;obtain ⟨k,n,o,s,t⟩:=hw;go_simp <;> with_reducible rfl)
      refine wtq (v:=(ev R6.1)) 31 ?_ hHeld ?_
      (intro w hw;obtain ⟨k,n,o,s,t⟩:=hw;go_simp <;> with_reducible rfl)
      (try simp only[Act.put,List.setIfInBounds_toArray,List.set_cons_zero,List.set_cons_succ,List.getElem_toArray,List.getElem_cons_succ,List.getElem_cons_zero])
      refine wpAnyH_ready (rs:=[32]) (by kernel_rfl) (by simp) (AllReadyH.cons rfl (fun K hK=>?_) AllReadyH.nil)
      go_simp
      go_at_call 172
      refine (packet_any a2 l2 c2 R6.2.1 R6.1 _ be.out (by omega) bd ay.out.2.2).mono ?_
      rintro e w7 ⟨rfl,F⟩
      have az:=ki (bh.out.after F)
      obtain ⟨P,Q,R,t4,Y⟩:=ao.out
      have bi:=ki (show w7.cell? ⟨W.heap.size,0,none⟩=some (.pointer (some ⟨G,0,none⟩))∧w7.cell? ⟨f,i,none⟩=some (.string ⟨x0.toArray⟩)∧w7.cell? ⟨f,i+1,none⟩=some (.string ⟨x1.toArray⟩)∧w7.cell? ⟨f,i+2,none⟩=some (.string ⟨x2.toArray⟩)∧w7.cell? ⟨f,i+3,none⟩=some (.string ⟨x3.toArray⟩) from ⟨(F.cell (Ad.lt_of_cell P)).trans P,(F.cell (Ad.lt_of_cell Q)).trans Q,(F.cell (Ad.lt_of_cell R)).trans R,(F.cell (Ad.lt_of_cell t4)).trans t4,(F.cell (Ad.lt_of_cell Y)).trans Y⟩)
      clear P Q R t4 Y F
      refine hK.out _ _ bi.out (fun hHeld=>?_)
      clear hK K
      (try simp only[Act.put,List.setIfInBounds_toArray,List.set_cons_zero,List.set_cons_succ,List.getElem_toArray,List.getElem_cons_succ,List.getElem_cons_zero])
      refine wtq (v:=(Ad.strv (shw (hxs R6.2.1) R6.1))) 33 ?_ hHeld ?_
      (intro w hw;obtain ⟨k,n,o,s,t⟩:=hw;go_simp <;> with_reducible rfl)
      refine wpAnyH_done (by kernel_rfl) ?_ _
      go_wp2_with fail
      go_ret
      rw[z.out]
      exact ⟨rfl,az.out⟩
 ·have ap:justF 4 r=false:=by simpa using hj
  rw[ap] at HJ
  have z:=ki (show callF g r=none by unfold callF;rw[ap])
  go_wp2_with (first
   | (go_at_call 171;refine (HJ.out _ HR.out).mono ?_;rintro e w2 ⟨rfl,rfl⟩)
   | (go_at_call 170;refine (mustw_no _ 5 _).mono ?_;rintro e I ⟨rfl,rfl⟩))
  exact ⟨rfl,by rw[z.out];exact ⟨rfl,bt H.out D.out⟩⟩
end
end Go.Proofs.YtgcojnlngchllaaGreatDoor
