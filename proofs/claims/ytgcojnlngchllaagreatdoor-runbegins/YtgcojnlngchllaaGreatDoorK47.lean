/- obey of tick, up, down and drain, by a contract. obey of whatever line, by a contract. answer: a line is obeyed; one that cannot be read is caught. The builder of a text beside a gate: what it writes touches its own two blocks alone. -/
import Derived.Test.YtgcojnlngchllaaGreatDoorK46
namespace Go.Proofs.YtgcojnlngchllaaGreatDoor
open Go.RowKit
set_option linter.unusedVariables false
set_option maxRecDepth 100000
set_option maxHeartbeats 40000000
section
set_option linter.unusedSimpArgs false
attribute [local go_sem ↓] hload_shut nload_shut
def chgF_of (g:GS) (v x0:List UInt8):Option (List UInt8×GS):=match numF x0 with
 | some n=>some (shw [111,107] (chF g v ((n:Nat):Int)).1,(chF g v ((n:Nat):Int)).2)
 | none=>none
def chgF (g:GS) (v:List UInt8) (r:List (List UInt8)):Option (List UInt8×GS):=match justF 1 r with
 | true=>chgF_of g v (r.getD 0 [])
 | false=>none
theorem chg_str {G:Nat} {v:List UInt8} {n:Int} {W:World} {R:Ending→World→Prop} (h:Calls Tryz.prog 182 #[ssn G,Ad.strv v,.int .i64 n] W R):Calls Tryz.prog 182 #[ssn G,.string ⟨v.toArray⟩,.int .i64 n] W R:=h
theorem obey_chg {g:GS} (hg:OB g) (l:List UInt8) (hl:l.length≤70000) (v:List UInt8) (hv:v=[116,105,99,107]∨v=[117,112]∨v=[100,111,119,110]∨v=[100,114,97,105,110]) (r:List (List UInt8)) (hs:Ad.AM.spl 32 l=v::r):∀ w G O W,GH w G g O W→LA w →
  Calls Tryz.prog 115 #[ssn G,Ad.strv l] W fun e w'=>ObW w G O W w' (chgF g v r) e:=by
 intro w G O W X Y
 have b1:=al_below W (.cells #[.pointer (some ⟨G,0,none⟩)] 126)
 have HN:=ki (sn_new G W)
 have A:=ki b1
 have Z:=ki X
 have ai:=ki Y
 have P:=ki (Y.below X.below)
 have HS:=ki (fun W1 h=>split_run 32 l (by omega) W1 h)
 rw[hs] at HS
 unfold Ad.strv at HS ⊢
 clear b1 X Y
 unfold ssn
 go_enter Tryz.func115,Tryz.ntmps115
 go_upto_region 1 with fail
 generalize World.alloc _ _=W0 at HN A ⊢
 go_upto_region 2 with (go_at_call 112;refine (HS.out _ (P.out.below A.out).1.2.2).mono ?_;rintro e M ⟨⟨v,rfl,⟨a,c,rfl,h1,h2,h3⟩,Q⟩,q⟩;have o:=ki q;clear q)
 obtain ⟨b,d,rfl,hc⟩:=h3 (by simp)
 have aw:W.heap.size≤b:=Nat.le_trans A.out.size (Q _ _ _ _ rfl)
 clear Q
 have hh:M.cell? ⟨b,d,none⟩=some (.string ⟨v.toArray⟩):=hc 0 (by simp)
 rcases hv with hv|hv|hv|hv
 all_goals
  rw[hv] at hh
  go_region
  go_upto_region 20 with fail
  have H:=ki (show Wds (.slice (if c=1 then some ⟨b,d,none⟩ else some ⟨b,d+1,none⟩) r.length (c - 1)) r M.drew from ⟨_,_,rfl,by simp at h1;omega,by simp at h2;omega,fun hp=>⟨b,d+1,by simp at h1;rw[if_neg (by omega)],fun j hj=>by
   have:=hc (j+1) (by simp;omega)
   rw[show d+1+j=d+(j+1) by omega]
   exact this⟩⟩)
  replace o:=ki (show Below W0.heap.size W0 M.drew from o.out.drew)
  generalize hwd:M.drew=wd at H o ⊢
  clear hwd hh hc h3
  obtain ⟨rv,hrv⟩:∃ rv:Value,rv=.slice (if c=1 then some ⟨b,d,none⟩ else some ⟨b,d+1,none⟩) r.length (c - 1):=⟨_,rfl⟩
  rw[← hrv] at H
  have I:∀ b' o',(if c=1 then some (⟨b,d,none⟩:Addr) else some ⟨b,d+1,none⟩)=some ⟨b',o',none⟩→W.heap.size≤b':=by
   intro b' o' e
   split at e <;> (injection e with e;injection e with e;omega)
  generalize (if c=1 then some (⟨b,d,none⟩:Addr) else some ⟨b,d+1,none⟩)=ra at hrv I ⊢
  generalize c - 1=rc at hrv ⊢
  subst hrv
  have N:=ki (fun W1 (h:Wds (.slice ra r.length rc) r W1)=>just_run 1 _ r W1 (by omega) h)
  by_cases hj:justF 1 r=true
  ·rw[hj] at N
   have ab:r.length=1:=by
    unfold justF at hj
    simp only[Bool.and_eq_true,beq_iff_eq] at hj
    exact hj.1
   obtain ⟨x0,rfl⟩:∃ x0,r=[x0]:=by
    rcases r with _|⟨x0,_|⟨xz,rz⟩⟩
    all_goals first|exact ⟨_,rfl⟩|(simp at ab)
   have C:x0.length≤100000:=by
    have:=Ad.AM.spl_len 32 l x0 (by rw[hs];simp)
    omega
   have n:=ki (show chgF g v [x0]=chgF_of g v x0 by unfold chgF;rw[hj];rfl)
   have R:=ki (P.out.below (bt A.out o.out))
   have am:=ki (HN.out.kept o.out)
   go_upto_region 21 with (first
    | (go_at_call 171;refine (N.out _ H.out).mono ?_;rintro e w2 ⟨rfl,rfl⟩)
    | (go_at_call 170;refine (mustw_ok _ _).mono ?_;rintro e B ⟨rfl,rfl⟩))
   obtain ⟨a0,c0,e0,k1,k2,k3⟩:=H.out
   injection e0 with e01 e02 e03
   subst e01 e03
   obtain ⟨s,t,rfl,kc⟩:=k3 (by simp)
   have ao:=I _ _ rfl
   clear I
   have J:B.cell? ⟨s,t,none⟩=some (.string ⟨x0.toArray⟩):=kc 0 (by simp)
   clear k1 k2 k3 kc e02
   have x:=ki (show Below B.heap.size B B.drew from (Below.refl _ _).drew)
   have y:=ki (show ∀ W1,Below B.heap.size B W1→W1.cell? ⟨W.heap.size,0,none⟩=some (.pointer (some ⟨G,0,none⟩))∧W1.cell? ⟨s,t,none⟩=some (.string ⟨x0.toArray⟩) from fun W1 hb=>⟨(am.out.kept hb).cell,(hb.cell (p:=⟨s,t,none⟩) (Ad.lt_of_cell J)).trans J⟩)
   refine wp_region_held_drew (S:=fun W1=>W1.cell? ⟨W.heap.size,0,none⟩=some (.pointer (some ⟨G,0,none⟩))∧W1.cell? ⟨s,t,none⟩=some (.string ⟨x0.toArray⟩)) (by kernel_rfl) (y.out _ x.out) (fun hHeld=>?_)
   refine wtq (v:=(ssn G)) 0 ?_ hHeld ?_
   (intro w hw;obtain ⟨f,i⟩:=hw;have s0:=nl_cell f;go_simp <;> with_reducible rfl)
   first
    | (refine wtq (v:=.string ⟨#[116,105,99,107]⟩) 1 ?_ hHeld ?_;(intro w hw;obtain ⟨f,i⟩:=hw;go_simp <;> with_reducible rfl))
    | (refine wtq (v:=.string ⟨#[117,112]⟩) 1 ?_ hHeld ?_;(intro w hw;obtain ⟨f,i⟩:=hw;go_simp <;> with_reducible rfl))
    | (refine wtq (v:=.string ⟨#[100,111,119,110]⟩) 1 ?_ hHeld ?_;(intro w hw;obtain ⟨f,i⟩:=hw;go_simp <;> with_reducible rfl))
    | (refine wtq (v:=.string ⟨#[100,114,97,105,110]⟩) 1 ?_ hHeld ?_;(intro w hw;obtain ⟨f,i⟩:=hw;go_simp <;> with_reducible rfl))
   refine wtq (v:=(.slice (some ⟨s,t,none⟩) 1 rc)) 2 ?_ hHeld ?_
   (intro w hw;obtain ⟨f,i⟩:=hw;go_simp <;> with_reducible rfl)
   refine wtq (v:=(.pointer (some ⟨s,t,none⟩))) 3 ?_ hHeld ?_
   (intro w hw;obtain ⟨f,i⟩:=hw;go_simp <;> with_reducible rfl)
   refine wtq (v:=(.string ⟨x0.toArray⟩)) 4 ?_ hHeld ?_
   (intro w hw;obtain ⟨f,i⟩:=hw;go_simp <;> with_reducible rfl)
   cases hb0:numF x0 with
   | none =>
    replace n:=ki (show chgF g v [x0]=none by rw[n.out];unfold chgF_of;simp only[hb0])
    (try simp only[Act.put,List.setIfInBounds_toArray,List.set_cons_zero,List.set_cons_succ,List.getElem_toArray,List.getElem_cons_succ,List.getElem_cons_zero])
    refine wpAnyH_ready (rs:=[5]) (by kernel_rfl) (by simp) (AllReadyH.cons rfl (fun K hK=>?_) AllReadyH.nil)
    go_simp
    go_at_call 179
    refine (nm_no x0 C _ (R.out.below x.out) hb0).mono ?_
    rintro e u0 ⟨rfl,z⟩
    have k:=ki (bt x.out z)
    clear z
    refine hK.out _ _ (y.out _ k.out) (fun hHeld=>?_)
    clear hK K
    (try simp only[Act.put,List.setIfInBounds_toArray,List.set_cons_zero,List.set_cons_succ,List.getElem_toArray,List.getElem_cons_succ,List.getElem_cons_zero])
    refine wtq (v:=(.int .i64 0)) 6 ?_ hHeld ?_
    (intro w hw;obtain ⟨f,i⟩:=hw;go_simp <;> with_reducible rfl)
    refine wtq (v:=(err 5)) 7 ?_ hHeld ?_
    (intro w hw;obtain ⟨f,i⟩:=hw;go_simp <;> with_reducible rfl)
    (try simp only[Act.put,List.setIfInBounds_toArray,List.set_cons_zero,List.set_cons_succ,List.getElem_toArray,List.getElem_cons_succ,List.getElem_cons_zero])
    refine wpAnyH_ready (rs:=[8]) (by kernel_rfl) (by simp) (AllReadyH.cons rfl (fun K hK=>?_) AllReadyH.nil)
    go_simp
    go_at_call 178
    refine (musti_no _ 5 _).mono ?_
    rintro e w5 ⟨rfl,rfl⟩
    exact ⟨rfl,by rw[n.out];exact ⟨rfl,bt A.out (bt o.out k.out)⟩⟩
   | some n0 =>
    (try simp only[Act.put,List.setIfInBounds_toArray,List.set_cons_zero,List.set_cons_succ,List.getElem_toArray,List.getElem_cons_succ,List.getElem_cons_zero])
    refine wpAnyH_ready (rs:=[5]) (by kernel_rfl) (by simp) (AllReadyH.cons rfl (fun K hK=>?_) AllReadyH.nil)
    go_simp
    go_at_call 179
    refine (nm_yes x0 n0 C _ (R.out.below x.out) hb0).mono ?_
    rintro e u0 ⟨rfl,z⟩
    have k:=ki (bt x.out z)
    clear z
    refine hK.out _ _ (y.out _ k.out) (fun hHeld=>?_)
    clear hK K
    (try simp only[Act.put,List.setIfInBounds_toArray,List.set_cons_zero,List.set_cons_succ,List.getElem_toArray,List.getElem_cons_succ,List.getElem_cons_zero])
    refine wtq (v:=(.int .i64 ((n0:Nat):Int))) 6 ?_ hHeld ?_
    (intro w hw;obtain ⟨f,i⟩:=hw;go_simp <;> with_reducible rfl)
    refine wtq (v:=.nilIface) 7 ?_ hHeld ?_
    (intro w hw;obtain ⟨f,i⟩:=hw;go_simp <;> with_reducible rfl)
    (try simp only[Act.put,List.setIfInBounds_toArray,List.set_cons_zero,List.set_cons_succ,List.getElem_toArray,List.getElem_cons_succ,List.getElem_cons_zero])
    refine wpAnyH_ready (rs:=[8]) (by kernel_rfl) (by simp) (AllReadyH.cons rfl (fun K hK=>?_) AllReadyH.nil)
    go_simp
    go_at_call 178
    refine (musti_ok _ _).mono ?_
    rintro e t0 ⟨rfl,rfl⟩
    refine hK.out _ _ (y.out _ k.out) (fun hHeld=>?_)
    clear hK K
    (try simp only[Act.put,List.setIfInBounds_toArray,List.set_cons_zero,List.set_cons_succ,List.getElem_toArray,List.getElem_cons_succ,List.getElem_cons_zero])
    have HI:=ki (fun W1 (hw:Below W.heap.size W W1)=>chg_str (change_gh hg.1 hg.2.2 v ((n0:Nat):Int) w G O W1 (Z.out.kept hw)))
    replace n:=ki (show chgF g v [x0]=some (shw [111,107] (chF g v ((n0:Nat):Int)).1,(chF g v ((n0:Nat):Int)).2) by rw[n.out];unfold chgF_of;simp only[hb0])
    generalize chF g v ((n0:Nat):Int)=R6 at HI n
    rw[hv] at HI
    have T:=ki (bt A.out (bt o.out k.out))
    obtain ⟨E,F⟩:=y.out _ k.out
    (try simp only[Act.put,List.setIfInBounds_toArray,List.set_cons_zero,List.set_cons_succ,List.getElem_toArray,List.getElem_cons_succ,List.getElem_cons_zero])
    refine wpAnyH_ready (rs:=[9]) (by kernel_rfl) (by simp) (AllReadyH.cons rfl (fun K hK=>?_) AllReadyH.nil)
    go_simp
    go_at_call 182
    refine (HI.out _ T.out).mono ?_
    rintro e w6 ⟨rfl,L⟩
    have U:=ki (show w6.cell? ⟨W.heap.size,0,none⟩=some (.pointer (some ⟨G,0,none⟩))∧w6.cell? ⟨s,t,none⟩=some (.string ⟨x0.toArray⟩) from ⟨L.held E (fun h=>Nat.lt_irrefl _ (Z.out.lt h)),L.held F (fun h=>Nat.lt_irrefl _ (Nat.lt_of_lt_of_le (Z.out.lt h) ao))⟩)
    have ad:=ki (show LA w6 by obtain ⟨O6,ap,_⟩:=L;exact ai.out.below ap.below)
    have aq:=ki (L.pre T.out)
    clear E F L
    refine hK.out _ _ U.out (fun hHeld=>?_)
    clear hK K
    (try simp only[Act.put,List.setIfInBounds_toArray,List.set_cons_zero,List.set_cons_succ,List.getElem_toArray,List.getElem_cons_succ,List.getElem_cons_zero])
    (try simp only[Act.put,List.setIfInBounds_toArray,List.set_cons_zero,List.set_cons_succ,List.getElem_toArray,List.getElem_cons_succ,List.getElem_cons_zero])
    refine wpAnyH_ready (rs:=[10]) (by kernel_rfl) (by simp) (AllReadyH.cons rfl (fun K hK=>?_) AllReadyH.nil)
    go_simp
    go_at_call 59
    refine (shown_any [111,107] R6.1 _ ad.out.2.2).mono ?_
    rintro e w7 ⟨rfl,D⟩
    have ae:=ki (aq.out.after D)
    obtain ⟨E,F⟩:=U.out
    have au:=ki (show w7.cell? ⟨W.heap.size,0,none⟩=some (.pointer (some ⟨G,0,none⟩))∧w7.cell? ⟨s,t,none⟩=some (.string ⟨x0.toArray⟩) from ⟨(D.cell (Ad.lt_of_cell E)).trans E,(D.cell (Ad.lt_of_cell F)).trans F⟩)
    clear E F D
    refine hK.out _ _ au.out (fun hHeld=>?_)
    clear hK K
    (try simp only[Act.put,List.setIfInBounds_toArray,List.set_cons_zero,List.set_cons_succ,List.getElem_toArray,List.getElem_cons_succ,List.getElem_cons_zero])
    refine wtq (v:=(Ad.strv (shw [111,107] R6.1))) 11 ?_ hHeld ?_
    (intro w hw;obtain ⟨f,i⟩:=hw;go_simp <;> with_reducible rfl)
    refine wpAnyH_done (by kernel_rfl) ?_ _
    go_wp2_with fail
    go_ret
    rw[n.out]
    exact ⟨rfl,ae.out⟩
  ·have V:justF 1 r=false:=by simpa using hj
   rw[V] at N
   have n:=ki (show chgF g v r=none by unfold chgF;rw[V])
   go_wp2_with (first
    | (go_at_call 171;refine (N.out _ H.out).mono ?_;rintro e w2 ⟨rfl,rfl⟩)
    | (go_at_call 170;refine (mustw_no _ 5 _).mono ?_;rintro e B ⟨rfl,rfl⟩))
   exact ⟨rfl,by rw[n.out];exact ⟨rfl,bt A.out o.out⟩⟩
end
section
set_option linter.unusedSimpArgs false
attribute [local go_sem ↓] hload_shut nload_shut
theorem spl_ne0 (c:UInt8):∀ l:List UInt8,Ad.AM.spl c l≠[]
 | []=>by simp[Ad.AM.spl]
 | b::r=>by
  unfold Ad.AM.spl
  split
  ·simp
  ·split <;> simp
theorem spl_cons (c:UInt8) (l:List UInt8):∃ v r,Ad.AM.spl c l=v::r:=by
 cases h:Ad.AM.spl c l with
 | nil=>exact absurd h (spl_ne0 c l)
 | cons v r=>exact ⟨v,r,rfl⟩
def words:List (List UInt8):=[[115,105,120],[102,111,117,114],[115,97,121],[99,97,108,108],[116,105,99,107],[117,112],[100,111,119,110],[100,114,97,105,110],[98,105,110,100,115],[105,110]]
theorem obey_bad {g:GS} (l:List UInt8) (hl:l.length≤70000) (v:List UInt8) (r:List (List UInt8)) (hv:v ∉ words) (hs:Ad.AM.spl 32 l=v::r):∀ w G O W,GH w G g O W→LA w →
  Calls Tryz.prog 115 #[ssn G,Ad.strv l] W fun e w'=>ObW w G O W w' (some (badT,g)) e:=by
 intro w G O W k n
 have p:=al_below W (.cells #[.pointer (some ⟨G,0,none⟩)] 126)
 have I:=ki (sn_new G W)
 have d:=ki p
 have J:=ki k
 have P:=ki n
 have t:=ki (n.below k.below)
 have o:=ki (fun W1 h=>split_run 32 l (by omega) W1 h)
 rw[hs] at o
 unfold Ad.strv at o ⊢
 clear p k n
 unfold ssn
 go_enter Tryz.func115,Tryz.ntmps115
 go_upto_region 1 with fail
 generalize World.alloc _ _=W0 at I d ⊢
 go_upto_region 2 with (go_at_call 112;refine (o.out _ (t.out.below d.out).1.2.2).mono ?_;rintro e f ⟨⟨v,rfl,⟨a,c,rfl,Q,R,K⟩,i⟩,q⟩;have L:=ki q;clear q)
 obtain ⟨b,x,rfl,hc⟩:=K (by simp)
 have M:W.heap.size≤b:=Nat.le_trans d.out.size (i _ _ _ _ rfl)
 clear i
 have hh:f.cell? ⟨b,x,none⟩=some (.string ⟨v.toArray⟩):=hc 0 (by simp)
 have y:=str_is v [115,105,120]
 rw[show (v == [115,105,120])=false by simpa using fun h:v=[115,105,120]=>hv (by rw[h];decide)] at y
 have z:=str_is v [102,111,117,114]
 rw[show (v == [102,111,117,114])=false by simpa using fun h:v=[102,111,117,114]=>hv (by rw[h];decide)] at z
 have A:=str_is v [115,97,121]
 rw[show (v == [115,97,121])=false by simpa using fun h:v=[115,97,121]=>hv (by rw[h];decide)] at A
 have B:=str_is v [99,97,108,108]
 rw[show (v == [99,97,108,108])=false by simpa using fun h:v=[99,97,108,108]=>hv (by rw[h];decide)] at B
 have e4:=str_is v [116,105,99,107]
 rw[show (v == [116,105,99,107])=false by simpa using fun h:v=[116,105,99,107]=>hv (by rw[h];decide)] at e4
 have C:=str_is v [117,112]
 rw[show (v == [117,112])=false by simpa using fun h:v=[117,112]=>hv (by rw[h];decide)] at C
 have D:=str_is v [100,111,119,110]
 rw[show (v == [100,111,119,110])=false by simpa using fun h:v=[100,111,119,110]=>hv (by rw[h];decide)] at D
 have E:=str_is v [100,114,97,105,110]
 rw[show (v == [100,114,97,105,110])=false by simpa using fun h:v=[100,114,97,105,110]=>hv (by rw[h];decide)] at E
 have F:=str_is v [98,105,110,100,115]
 rw[show (v == [98,105,110,100,115])=false by simpa using fun h:v=[98,105,110,100,115]=>hv (by rw[h];decide)] at F
 have H:=str_is v [105,110]
 rw[show (v == [105,110])=false by simpa using fun h:v=[105,110]=>hv (by rw[h];decide)] at H
 generalize (⟨v.toArray⟩:ByteArray)=s at hh y z A B e4 C D E F H
 go_region
 have N:=ki (show Below f.heap.size f f.drew from (Below.refl _ _).drew)
 go_wp2_with fail
 all_goals
  go_ret
  exact ⟨rfl,GN.still J.out (bt d.out (bt L.out N.out))⟩
def obF (g:GS) (l:List UInt8):Option (List UInt8×GS):=match Ad.AM.spl 32 l with
 | []=>none
 | v::r=>if v=[115,105,120] then sixF g r else if v=[102,111,117,114] then fourF g r else if v=[115,97,121] then sayF g r else if v=[99,97,108,108] then callF g r
  else if v=[116,105,99,107]∨v=[117,112]∨v=[100,111,119,110]∨v=[100,114,97,105,110] then chgF g v r else if v=[98,105,110,100,115] then bindsF g r else if v=[105,110] then inF' g r else some (badT,g)
theorem obey_any {g:GS} (hg:OB g) (l:List UInt8) (hl:l.length≤70000):∀ w G O W,GH w G g O W→LA w →
  Calls Tryz.prog 115 #[ssn G,Ad.strv l] W fun e w'=>ObW w G O W w' (obF g l) e:=by
 intro w G O W a b
 obtain ⟨v,r,hs⟩:=spl_cons 32 l
 unfold obF
 rw[hs]
 dsimp only
 by_cases h0:v=[115,105,120]
 ·rw[if_pos h0];subst h0;exact obey_six hg l hl r hs w G O W a b
 rw[if_neg h0]
 by_cases h1:v=[102,111,117,114]
 ·rw[if_pos h1];subst h1;exact obey_four hg l hl r hs w G O W a b
 rw[if_neg h1]
 by_cases h2:v=[115,97,121]
 ·rw[if_pos h2];subst h2;exact obey_say hg l hl r hs w G O W a b
 rw[if_neg h2]
 by_cases h3:v=[99,97,108,108]
 ·rw[if_pos h3];subst h3;exact obey_call hg l hl r hs w G O W a b
 rw[if_neg h3]
 by_cases h4:v=[116,105,99,107]∨v=[117,112]∨v=[100,111,119,110]∨v=[100,114,97,105,110]
 ·rw[if_pos h4];exact obey_chg hg l hl v h4 r hs w G O W a b
 rw[if_neg h4]
 by_cases h5:v=[98,105,110,100,115]
 ·rw[if_pos h5];subst h5;exact obey_binds hg l hl r hs w G O W a b
 rw[if_neg h5]
 by_cases h6:v=[105,110]
 ·rw[if_pos h6];subst h6;exact obey_in hg l hl r hs w G O W a b
 rw[if_neg h6]
 refine obey_bad l hl v r (fun hm=>?_) hs w G O W a b
 simp only[words,List.mem_cons,List.not_mem_nil,or_false] at hm
 rcases hm with h|h|h|h|h|h|h|h|h|h
 ·exact h0 h
 ·exact h1 h
 ·exact h2 h
 ·exact h3 h
 ·exact h4 (.inl h)
 ·exact h4 (.inr (.inl h))
 ·exact h4 (.inr (.inr (.inl h)))
 ·exact h4 (.inr (.inr (.inr h)))
 ·exact h5 h
 ·exact h6 h
end
section
set_option linter.unusedSimpArgs false
variable {B G:Nat} {O:Nat→Prop} {W w:World}
theorem catch_p (p:Addr) (x:Value) (w:World) (hc:w.cell? p=some x) (hz:w.frozen? p=false) :
  CallsD Tryz.prog 114 #[.pointer (some p)] (.panicking unread) w fun e u' w' =>
   e=.returned (.tuple #[])∧u'=.panicking [{ v:=.iface 196 (.agg #[]),recovered:=true }]∧w'=(w.alloc (.cells #[] 196)).setCell p (Ad.strv badT):=by
 unfold unread Ad.strv badT
 have a:∀ (ty:TypeId) (W:World),(Instr.typeAssert (.iface 196 (.agg #[])) ty 196 true).run Tryz.prog W=.ok (.tuple #[.agg #[],.bool true]) W:=fun _ _=>rfl
 have b:(w.alloc (.cells #[] 196)).cell? p=some x:=by rw[World.cell?_alloc_lt _ _ _ (World.block_lt_of_cell? w p hc)];exact hc
 have d:(w.alloc (.cells #[] 196)).frozen? p=false:=by rw[frozen?_alloc_cells];exact hz
 refine callsD_of_wpS Tryz.func114 rfl fun c₀ cs hu=>?_
 apply wpS_seq
 apply wpS_region
 simp[wpOpsS,go_sem,recoverD,hu,Tryz.ntmps114,Exit.thenS]
 refine wpS_of_wp ?_
 simp only[Array.replicate,List.replicate,List.setIfInBounds_toArray,List.set_cons_zero,List.set_cons_succ,List.append_toArray,List.cons_append,List.nil_append]
 go_wp2
 cases c₀
 simp_all [bodyPostS,results,Tryz.results114]
theorem catch_i (p:Addr) (w:World) :
  CallsD Tryz.prog 114 #[.pointer (some p)] .returning w fun e u' w'=>e=.returned (.tuple #[])∧u'=.returning∧w'=w:=by
 refine callsD_of_wpS Tryz.func114 rfl fun c₀ cs hu=>?_
 apply wpS_seq
 apply wpS_region
 simp[wpOpsS,go_sem,recoverD,hu,Tryz.ntmps114,Exit.thenS]
 refine wpS_of_wp ?_
 simp only[Array.replicate,List.replicate,List.setIfInBounds_toArray,List.set_cons_zero,List.set_cons_succ,List.append_toArray,List.cons_append,List.nil_append]
 go_wp2
 cases c₀
 simp_all [bodyPostS,results,Tryz.results114]
theorem told_put {g:GS} {s:ByteArray} (h:GH w G g O W) (hp:W.heap[B]? = some (.cells #[.string s] 9 (0,0))) (hb:w.heap.size≤B) (hn:¬ O B) (v:Value):GH w G g O (W.setCell ⟨B,0,none⟩ v) :=
 h.apart (P:=fun k=>k=B) ⟨(only_setCell W B 0 _ _ v hp).fr rfl,fun _ _ _ _ r=>r.setc v hp (fun x e=>by simp at e)⟩ (h.below.setCell hb v) (fun k hk e=>hn (e ▸ hk))
theorem told_kept {g':GS} {w2:World} {o:Obj} (q:GN w G g' O W w2) (hp:W.heap[B]? = some o) (hn:¬ O B):w2.heap[B]? = some o:=by
 obtain ⟨a,-,-,h⟩:=q
 exact (h.1.2.2.2.2 B (Array.getElem?_eq_some_iff.1 hp).1 hn).trans hp
def AN (w:World) (G:Nat) (g':GS) (O:Nat→Prop) (W W':World):Prop:=∃ O',GH w G g' O' W'∧(∀ k,O' k→O k∨W.heap.size+2≤k)∧Kpt O W W'
theorem told_an {g':GS} {W1 w2:World} {s:ByteArray} (q:GN w G g' O W1 w2) (hb:Below W.heap.size W W1) (hs:W1.heap.size=W.heap.size+2) (hp:W1.heap[B]? = some (.cells #[.string s] 9 (0,0))) (hB:W.heap.size≤B) (hO:∀ k,O k→k < W.heap.size) (hw:w.heap.size≤W.heap.size) (v:Value) :
  AN w G g' O W (w2.setCell ⟨B,0,none⟩ v):=by
 have d:=told_kept q hp (fun h=>by have:=hO _ h;omega)
 have p:=(Array.getElem?_eq_some_iff.1 hp).1
 obtain ⟨g,l,i,o⟩:=q
 have hn:¬ g B:=fun h=>by
  rcases i B h with h|h
  ·have:=hO _ h;omega
  ·omega
 have b:Kpt O W w2:=(Kpt.of hb).trans o (fun k h=>.inl h) |>.mono (fun _ h=>h)
 refine ⟨g,told_put l d (by omega) hn v,fun k h=>(i k h).imp id (fun h=>by omega),?_⟩
 have f:=only_setCell w2 B 0 _ _ v d
 refine ⟨⟨f.1.trans b.1.1,f.2.1.trans b.1.2.1,f.2.2.1.trans b.1.2.2.1,by rw[f.2.2.2.1];exact b.size,fun k hk' hn'=>(f.2.2.2.2 k (by omega)).trans (b.1.2.2.2.2 k hk' hn')⟩,fun a n c zs r=>(b.2 a n c zs r).setc v d (fun x e=>by simp at e)⟩
def ansF (g:GS) (l:List UInt8):List UInt8×GS:=match obF g l with
 | some r=>r
 | none=>(badT,g)
theorem answer_gh {g:GS} (hg:OB g) (l:List UInt8) (hl:l.length≤70000):∀ w G O W,GH w G g O W→LA w →
  Calls Tryz.prog 62 #[ssn G,Ad.strv l] W fun e w'=>e=.returned (Ad.strv (ansF g l).1)∧AN w G (ansF g l).2 O W w':=by
 intro w G O W n J
 have Q:∀ (fn:Fn) (first cap:Array Value) (w:World),(Instr.makeFunc fn first cap).run Tryz.prog w=.ok (.func fn first cap) w:=fun _ _ _ _=>rfl
 have H:=al_below W (.cells #[.pointer (some ⟨G,0,none⟩)] 126)
 have t:=al_below (W.alloc (.cells #[.pointer (some ⟨G,0,none⟩)] 126)) (.cells #[.string ⟨#[]⟩] 9)
 have o:=heap_alloc_new (W.alloc (.cells #[.pointer (some ⟨G,0,none⟩)] 126)) (.cells #[.string ⟨#[]⟩] 9)
 rw[World.size_alloc] at o
 have v:=ki ((sn_new G W).kept t)
 have d:=ki (obey_any hg l hl w G O _ (n.kept (bt H t)) J)
 have x:=ki (bt H t)
 have N:=ki n
 have A:∀ k,O k→k < W.heap.size:=fun k hk=>n.lt hk
 have B:w.heap.size≤W.heap.size:=n.below.size
 have C:((W.alloc (.cells #[.pointer (some ⟨G,0,none⟩)] 126)).alloc (.cells #[.string ⟨#[]⟩] 9)).heap.size=W.heap.size+2:=by rw[World.size_alloc,World.size_alloc]
 have p:=ki o
 have i:=ki (show ansF g l=match obF g l with|some r=>r|none=>(badT,g) from rfl)
 have I:=ki (And.intro A B)
 have y:=ki C
 clear H t o n A B C J
 unfold ssn Ad.strv at d ⊢
 cases hob:obF g l with
 | some R =>
  rw[hob] at d i
  clear hob
  go_enter_defers Tryz.func62,Tryz.ntmps62
  go_upto_region 1 with fail
  generalize (W.alloc (.cells #[.pointer (some ⟨G,0,none⟩)] 126)).alloc (.cells #[.string ⟨#[]⟩] 9)=W1 at v d x p y ⊢
  have K:=v.out.cell
  go_wp2_with (go_at_call 115;refine d.out.mono ?_;rintro e b ⟨rfl,q⟩;have a:=told_kept q p.out (fun h=>by have:=I.out.1 _ h;omega);have D:b.cell? ⟨W.heap.size+1,0,none⟩=some (.string ⟨#[]⟩):=cell_of_row b _ 0 _ _ _ a;have E:b.frozen? ⟨W.heap.size+1,0,none⟩=false:=frozen_of_row b _ 0 _ _ a;have z:=ki (told_an q x.out y.out p.out (by omega) I.out.1 I.out.2 (Ad.strv R.1));replace a:=ki a;clear q;unfold Ad.strv at z ⊢)
  refine leaves_cons (f:=114) (args:=#[.pointer (some ⟨W.heap.size+1,0,none⟩)]) (by simp) (by simp[go_sem]) ?_
  refine (catch_i ⟨W.heap.size+1,0,none⟩ _).mono ?_
  rintro e P L ⟨rfl,rfl,rfl⟩
  have s:(b.setCell ⟨W.heap.size+1,0,none⟩ (.string ⟨R.1.toArray⟩)).cell? ⟨W.heap.size+1,0,none⟩=some (.string ⟨R.1.toArray⟩):=by
   have:=cell_of_row _ (W.heap.size+1) 0 _ _ _ (setCell_heap_same b (W.heap.size+1) 0 _ _ (.string ⟨R.1.toArray⟩) a.out)
   simpa using this
  simp only[Leaves,settle]
  refine ⟨.string ⟨R.1.toArray⟩,?_,by rw[i.out],by rw[i.out];exact z.out⟩
  simp[results,Tryz.results62,go_sem,s]
 | none =>
  rw[hob] at d i
  clear hob
  go_enter_defers Tryz.func62,Tryz.ntmps62
  go_upto_region 1 with fail
  generalize (W.alloc (.cells #[.pointer (some ⟨G,0,none⟩)] 126)).alloc (.cells #[.string ⟨#[]⟩] 9)=W1 at v d x p y ⊢
  have K:=v.out.cell
  go_wp2_with (go_at_call 115;refine d.out.mono ?_;rintro e b ⟨rfl,q⟩;have a:=(q.block (W.heap.size+1) (by rw[y.out];omega)).trans p.out;have D:b.cell? ⟨W.heap.size+1,0,none⟩=some (.string ⟨#[]⟩):=cell_of_row b _ 0 _ _ _ a;have E:b.frozen? ⟨W.heap.size+1,0,none⟩=false:=frozen_of_row b _ 0 _ _ a;have z:=ki q;replace a:=ki a;clear q)
  refine leaves_cons (f:=114) (args:=#[.pointer (some ⟨W.heap.size+1,0,none⟩)]) (by simp) (by simp[go_sem]) ?_
  refine (catch_p ⟨W.heap.size+1,0,none⟩ _ b D E).mono ?_
  rintro e P L ⟨rfl,rfl,rfl⟩
  have M:(b.alloc (.cells #[] 196)).heap[W.heap.size+1]? = some (.cells #[.string ⟨#[]⟩] 9 (0,0)):=((al_below b _).block (W.heap.size+1) (Array.getElem?_eq_some_iff.1 a.out).1).trans a.out
  have s:((b.alloc (.cells #[] 196)).setCell ⟨W.heap.size+1,0,none⟩ (Ad.strv badT)).cell? ⟨W.heap.size+1,0,none⟩=some (Ad.strv badT):=by
   have:=cell_of_row _ (W.heap.size+1) 0 _ _ _ (setCell_heap_same (b.alloc (.cells #[] 196)) (W.heap.size+1) 0 _ _ (Ad.strv badT) M)
   simpa using this
  have F:Below W.heap.size W ((b.alloc (.cells #[] 196)).setCell ⟨W.heap.size+1,0,none⟩ (Ad.strv badT)):=(bt x.out (bt z.out (al_below _ _))).setCell (Nat.le_succ _) _
  simp only[Leaves,settle]
  refine ⟨Ad.strv badT,?_,by rw[i.out];rfl,by rw[i.out];exact ⟨O,N.out.kept F,fun k h=>.inl h,Kpt.of F⟩⟩
  simp[results,Tryz.results62,go_sem,s]
end
section
set_option linter.unusedSimpArgs false
theorem by_cells (s:List UInt8):Lib.strCells ⟨s.toArray⟩=(byI s).map (Value.int .u8):=by
 simp[Lib.strCells,byI,Function.comp_def]
theorem oct_byI (s:List UInt8):SM.Oct (byI s):=fun k=>by
 unfold byI
 rw[List.getD_eq_getElem?_getD,List.getElem?_map]
 cases s[k]? with
 | none=>simp
 | some b=>have:=b.toNat_lt;simp;omega
theorem app_at (w:World) (base:Nat) (v:Value) (zs:List Int) (hown:Own base w v zs) (s:List UInt8) (hlen:zs.length+s.length≤1000000000) (hb:base≤w.heap.size) (ty:TypeId) :
  ∃ v' w',(Builtin.append_ #[37,9] ty #[v,.string ⟨s.toArray⟩]).run Tryz.prog w=.ok v' w'∧Own base w' v' (zs++byI s)∧w.grownBy w' v.ownBlock∧(v'.ownBlock=v.ownBlock∨v'.ownBlock=some w.heap.size):=by
 obtain ⟨f,i,b,d,e⟩:=info_parts Tryz.infoByte
 have l:(⟨s.toArray⟩:ByteArray).size=s.length:=by simp[ByteArray.size]
 obtain ⟨v',w',k,n,o,h4⟩:=Lib.run_append_own_string (P:=Tryz.prog) (w:=w) base 37 9 ty 5 f Tryz.underlying37 Tryz.underlying9 i b d e v zs.length (zs.map (Value.int .u8)) hown.2 ⟨s.toArray⟩ (by unfold maxLen;omega) (by omega) hb
 rw[l,by_cells,← List.map_append] at n
 refine ⟨v',w',k,⟨SM.oct_append _ _ hown.1 (oct_byI s),by rw[List.length_append,byI_len];exact n⟩,o,?_⟩
 rcases hown.2.2 with ⟨rfl,h0⟩|⟨g,cap,cur,rfl,hbg,hg,hn,hm,hc,ht⟩
 ·by_cases hs:s.length=0
  ·left
   rw[h4.2 ⟨rfl,by rw[l];exact hs⟩]
  ·right
   have h:=run_append_nil_string (P:=Tryz.prog) (w:=w) 37 9 ty 5 f (.int .u8 0) Tryz.underlying37 Tryz.underlying9 i b ⟨s.toArray⟩ (by omega) (by omega) (by rw[e];omega)
   rw[k] at h
   replace h:=(Result.ok.inj h).1
   rw[h];simp only[Value.ownBlock]
 ·by_cases hroom:zs.length+s.length≤cap
  ·left
   have h:=Lib.run_append_room_string (P:=Tryz.prog) (w:=w) 37 9 ty 5 f Tryz.underlying37 Tryz.underlying9 i d g zs.length cap cur hg ⟨s.toArray⟩ (by omega) (by omega)
   rw[k] at h
   replace h:=(Result.ok.inj h).1
   rw[h];simp only[Value.ownBlock]
  ·right
   have h:=Lib.run_append_grow_string (P:=Tryz.prog) (w:=w) 37 9 ty 5 f (.int .u8 0) Tryz.underlying37 Tryz.underlying9 i b ⟨g,0,none⟩ zs.length cap (zs.map (Value.int .u8)) (by simp[d]) (fun j u hu=>by
    have p:j < zs.length:=by have:=(List.getElem?_eq_some_iff.1 hu).1;simpa using this
    rw[add_pl,Nat.zero_add,cell_of_row w g j _ _ _ hg]
    rw[← ht,Nat.mul_one,List.getElem?_take,if_pos p] at hu
    simpa using hu) ⟨s.toArray⟩ (by omega) (by omega) (by rw[e];exact growslice_fits (by omega) (by omega))
   rw[k] at h
   replace h:=(Result.ok.inj h).1
   rw[h];simp only[Value.ownBlock]
def BB (b:Nat) (v p:Value) (w:World):Prop:=w.heap[b]? = some (.cells #[p,v] 129 (0,0))
def Bw (b:Nat) (v:Value) (w w':World):Prop:=w'.os=w.os∧w'.tape=w.tape∧w'.output=w.output∧w.heap.size≤w'.heap.size∧∀ k,k < w.heap.size→k≠b→some k≠v.ownBlock→w'.heap[k]? = w.heap[k]?
theorem cc_any (b:Nat) (v p:Value) (w:World) (hb:BB b v p w) (hp:p=.pointer none∨p=.pointer (some ⟨b,0,none⟩)) :
  Calls Tryz.prog 113 #[.pointer (some ⟨b,0,none⟩)] w fun e w'=>e=.returned (.tuple #[])∧BB b v (.pointer (some ⟨b,0,none⟩)) w'∧Only b w w':=by
 have a:w.cell? ⟨b,0,none⟩=some p:=cell_of_row w b 0 _ _ _ hb
 rcases hp with rfl|rfl
 ·refine (Any.Builder_copyCheck_fresh { Tryz.lays156 with } { Tryz.Builder_Extra_156 with } b w a (by simp[World.shape?,show w.heap[b]? = _ from hb];rfl) (frozen_of_row w b 0 _ _ hb)).mono ?_
  rintro e w' ⟨rfl,rfl⟩
  exact ⟨rfl,setCell_heap_same w b 0 _ _ _ hb,only_setCell w b 0 _ _ _ hb⟩
 ·refine (Any.Builder_copyCheck_used { Tryz.lays156 with } { Tryz.Builder_Extra_156 with } b w a).mono ?_
  rintro e w' ⟨rfl,rfl⟩
  exact ⟨rfl,hb,⟨rfl,rfl,rfl,rfl,fun _ _=>rfl⟩⟩
def BW (b:Nat) (v:Value) (base:Nat) (W w':World) (zs:List Int):Prop:=∃ v',BB b v' (.pointer (some ⟨b,0,none⟩)) w'∧Own base w' v' zs∧(v'.ownBlock=v.ownBlock∨∃ B1,v'.ownBlock=some B1∧W.heap.size≤B1)∧Bw b v W w'
theorem bw_put {b base:Nat} {v v':Value} {W w1 w2:World} {zs:List Int} (hbb:b < base) (hv:∀ k,v.ownBlock=some k→base≤k) (on:Only b W w1∨∃ o,w1=W.alloc o) (h1:BB b v (.pointer (some ⟨b,0,none⟩)) w1) 
  (g:w1.grownBy w2 v.ownBlock) (o:Own base w2 v' zs) (l:v'.ownBlock=v.ownBlock∨∃ B1,v'.ownBlock=some B1∧W.heap.size≤B1):BW b v base W (w2.setCell ⟨b,1,none⟩ v') zs:=by
 have f:=(Array.getElem?_eq_some_iff.1 h1).1
 have h:some b≠v.ownBlock:=fun e=>by have:=hv b e.symm;omega
 have i:BB b v (.pointer (some ⟨b,0,none⟩)) w2:=(g.block b f h).trans h1
 have a:=only_setCell w2 b 1 _ _ v' i
 have n:=setCell_heap_same w2 b 1 _ _ v' i
 refine ⟨v',by unfold BB;rw[n];rfl,o.heap (fun k hk _=>a.2.2.2.2 k (by omega)),l,?_⟩
 have d:w1.os=W.os∧w1.tape=W.tape∧w1.output=W.output∧W.heap.size≤w1.heap.size∧∀ k,k < W.heap.size→k≠b→w1.heap[k]? = W.heap[k]?:=by
  rcases on with on|⟨o,rfl⟩
  ·exact ⟨on.1,on.2.1,on.2.2.1,by rw[on.2.2.2.1];exact Nat.le_refl _,fun k _ hk=>on.2.2.2.2 k hk⟩
  ·have:=al_below W o
   exact ⟨rfl,rfl,rfl,this.size,fun k hk _=>this.block k hk⟩
 exact ⟨a.1.trans (g.os.trans d.1),a.2.1.trans (g.tape.trans d.2.1),a.2.2.1.trans (g.output.trans d.2.2.1),by rw[a.2.2.2.1];exact Nat.le_trans d.2.2.2.1 g.size,fun k hk h4 h5=>(a.2.2.2.2 k h4).trans ((g.block k (Nat.lt_of_lt_of_le hk d.2.2.2.1) h5).trans (d.2.2.2.2 k hk h4))⟩
theorem ws_own (b:Nat) (v p:Value) (zs:List Int) (W:World) (base:Nat) (hb:BB b v p W) (hp:p=.pointer none∨p=.pointer (some ⟨b,0,none⟩)) (ho:Own base W v zs) (hbb:b < base) (hbw:base≤W.heap.size) (s:List UInt8) (hl:zs.length+s.length≤1000000000) :
  Calls Tryz.prog 61 #[.pointer (some ⟨b,0,none⟩),.string ⟨s.toArray⟩] W fun e w'=>(∃ u,e=.returned u)∧BW b v base W w' (zs++byI s):=by
 have z:=ki (cc_any b v p W hb hp)
 have hv:∀ k,v.ownBlock=some k→base≤k:=fun k e=>(ho.2.lt k e).1
 obtain ⟨i,c0,rfl,-,-⟩:=ho.row8
 have x:=ki hv
 have A:=ki ho
 clear hb hp ho hv
 go_enter Tryz.func61,Tryz.ntmps61
 go_upto_region 2 with (go_at_call 113;refine z.out.mono ?_;rintro e q ⟨rfl,d,f⟩)
 have c1:q.cell? ⟨b,1,none⟩=some (.slice i zs.length c0):=cell_of_row q b 1 _ _ _ d
 obtain ⟨B,g,C,r,t,y⟩:=app_at q base _ zs (A.out.heap (fun k hk _=>f.2.2.2.2 k (by omega))) s hl (by rw[f.2.2.2.1];exact hbw) 37
 obtain ⟨a1,n2,c2,rfl⟩:∃ a n c,B=.slice a n c:=by obtain ⟨a,c,e,_⟩:=r.row8;exact ⟨a,_,c,e⟩
 have l:=(Array.getElem?_eq_some_iff.1 d).1
 have o:some b≠(Value.slice i zs.length c0).ownBlock:=fun e=>by have:=x.out b e.symm;omega
 have w:BB b (.slice i zs.length c0) (.pointer (some ⟨b,0,none⟩)) g:=(t.block b l o).trans d
 have c3:g.cell? ⟨b,1,none⟩=some (.slice i zs.length c0):=cell_of_row g b 1 _ _ _ w
 have E:g.frozen? ⟨b,1,none⟩=false:=frozen_of_row g b 1 _ _ w
 have D:=ki (bw_put hbb x.out (.inl f) d t r (y.imp id (fun h=>⟨_,h,by rw[f.2.2.2.1];exact Nat.le_refl _⟩)))
 clear f d r t y l o w
 go_wp2_with (at_builtin;refine Lib.wpList_append_run _ rfl _ _ _ _ rfl _ _ rfl rfl _ _ C ?_)
 go_ret2
 exact ⟨⟨_,rfl⟩,D.out⟩
theorem wb_own (b:Nat) (v:Value) (zs:List Int) (W:World) (base:Nat) (hb:BB b v (.pointer (some ⟨b,0,none⟩)) W) (ho:Own base W v zs) (hbb:b < base) (hbw:base≤W.heap.size) (hl:zs.length+1≤1000000000) :
  Calls Tryz.prog 63 #[.pointer (some ⟨b,0,none⟩),.int .u8 10] W fun e w'=>e=.returned .nilIface∧BW b v base W w' (zs++[10]):=by
 have D:=ki (Any.Builder_copyCheck_used { Tryz.lays156 with } { Tryz.Builder_Extra_156 with } b W (cell_of_row W b 0 _ _ _ hb))
 have x:b < W.heap.size:=by omega
 have hv:∀ k,v.ownBlock=some k→base≤k:=fun k e=>(ho.2.lt k e).1
 obtain ⟨d,c0,rfl,-,-⟩:=ho.row8
 have y:=ki hv
 have g:=al_below W (.cells #[.int .u8 10] 5)
 have i:BB b (.slice d zs.length c0) (.pointer (some ⟨b,0,none⟩)) (W.alloc (.cells #[.int .u8 10] 5)):=(g.block b x).trans hb
 have c1:W.cell? ⟨b,1,none⟩=some (.slice d zs.length c0):=cell_of_row W b 1 _ _ _ hb
 obtain ⟨E,z,l,o,p⟩:=info_parts Tryz.infoByte
 obtain ⟨A,f,F,B,s,-,C⟩:=run_append_own_at (P:=Tryz.prog) (W.alloc (.cells #[.int .u8 10] 5)) base 37 37 5 E (.int .u8 0) 1 1 Tryz.underlying37 z l o p rfl (by decide) (.slice d zs.length c0) zs.length (zs.map (Value.int .u8)) (ho.heap (fun k _ hk=>g.block k hk)).2 ⟨W.heap.size,0,none⟩ 1 1 [.int .u8 10] rfl (fun j u hu=>by
  have G:j=0:=by have:=(List.getElem?_eq_some_iff.1 hu).1;simp at this;exact this
  subst G
  rw[add_pl,cell_of_row _ W.heap.size _ _ _ _ (heap_alloc_new W _)]
  exact hu) (by simp[Value.oneCell']) (by unfold maxLen;omega) (by omega) (by rw[World.size_alloc];omega)
 have t:Own base f A (zs++[10]):=⟨SM.oct_append _ _ ho.1 (by intro k;cases k with|zero=>simp|succ k=>simp),by rw[List.length_append,List.map_append];exact B⟩
 obtain ⟨a1,n2,c2,rfl⟩:∃ a n c,A=.slice a n c:=by obtain ⟨a,c,e,_⟩:=t.row8;exact ⟨a,_,c,e⟩
 have q:=(Array.getElem?_eq_some_iff.1 i).1
 have r:some b≠(Value.slice d zs.length c0).ownBlock:=fun e=>by have:=y.out b e.symm;omega
 have w:BB b (.slice d zs.length c0) (.pointer (some ⟨b,0,none⟩)) f:=(s.block b q r).trans i
 have c3:f.cell? ⟨b,1,none⟩=some (.slice d zs.length c0):=cell_of_row f b 1 _ _ _ w
 have I:f.frozen? ⟨b,1,none⟩=false:=frozen_of_row f b 1 _ _ w
 have H:=ki (bw_put hbb y.out (.inr ⟨_,rfl⟩) i s t (C.imp id (fun h=>⟨_,h,by rw[World.size_alloc];omega⟩)))
 clear i B t s C q r w g hb ho hv z l o p
 go_enter Tryz.func63,Tryz.ntmps63
 go_upto_region 2 with (go_at_call 113;refine D.out.mono ?_;rintro e J ⟨rfl,rfl⟩)
 go_wp2_with (at_builtin;refine Lib.wpList_append_run _ rfl _ _ _ _ rfl _ _ rfl rfl _ _ F ?_)
 go_ret
 exact ⟨rfl,H.out⟩
end
end Go.Proofs.YtgcojnlngchllaaGreatDoor
