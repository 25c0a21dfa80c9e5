import Derived.Test.YtgcojnlngchllaaGreatDoorJ03
namespace Go.Proofs.YtgcojnlngchllaaGreatDoor
open Go.RowKit Tryz
set_option linter.unusedVariables false
set_option maxRecDepth 100000
set_option maxHeartbeats 40000000
section
theorem aj.behind{w:World}{g off len cap:Nat}{zs:List Int}(h:aj w (some ⟨g,off,none⟩) len cap zs)(n:Nat)(hn:n<=len)(hc:len<=cap)(ao:Option Addr)(hao:(if cap=n then some (⟨g,off,none⟩:Addr) else some ⟨g,off+n,none⟩)=ao):aj w ao (len-n) (cap-n) (zs.drop n):=by have:=h.part n len hn (Nat.le_refl _) ao (cap-n) (fun b o hlt e=>by cases e;rw[<-hao,if_neg (by omega)]) (fun e=>by rw[e] at hao;split at hao<;>cases hao);exact this.congr (List.take_of_length_le (by rw[List.length_drop,h.1];exact Nat.le_refl _))
theorem LP(k:Int)(hk:k=6)(gx ox lx cx gz jr lz cz:Nat)(xs zs:List Int)(w:World)(rx:aj w (some ⟨gx,ox,none⟩) lx cx xs)(jI:aj w (some ⟨gz,jr,none⟩) lz cz zs)(hx:18<=lx)(hz:18<=lz)(hxc:lx<=cx)(hzc:lz<=cz)(hxm:cx<=maxLen)(pF:cz<=maxLen)(r:Bool)(hr:(xs.take 16=zs.take 16∧xs.drop 18=zs.drop 18)↔r=true): Calls prog 247 #[.int .i64 k,.slice (some ⟨gx,ox,none⟩) lx cx,.slice (some ⟨gz,jr,none⟩) lz cz] w fun e w'=>e=.returned (.bool r)∧∃n,w'=w.drewN n:=by
 obtain⟨ax,hax⟩:∃ao,(if cx=18 then some (⟨gx,ox,none⟩:Addr) else some ⟨gx,ox+18,none⟩)=ao:=⟨_,rfl⟩;obtain⟨az,haz⟩:∃ao,(if cz=18 then some (⟨gz,jr,none⟩:Addr) else some ⟨gz,jr+18,none⟩)=ao:=⟨_,rfl⟩;have h:=fun n=>qC (rx.drewN n) 16 cx (by omega)
 have i:=fun n=>qC (jI.drewN n) 16 cz (by omega)
 have l:=fun n=>(rx.drewN n).behind 18 hx hxc ax hax
 have o:=fun n=>(jI.drewN n).behind 18 hz hzc az haz
 have d:=ki (fun r hr n=>mX _ _ _ _ _ _ _ _ _ (h n) (i n) r hr);have f:=ki (fun r hr n=>mX _ _ _ _ _ _ _ _ _ (l n) (o n) r hr);have g:=ki (fun W=>zO k W);rw[show cn k=16 by unfold cn;rw[if_pos hk]] at g;clear h i l o rx jI hk;unfold maxLen at hxm pF;have s:(16:Int)<=(cx:Int):=by omega
 have t:(16:Int)<=(cz:Int):=by omega
 have v:(18:Int)<=(lx:Int):=by omega
 have x:(18:Int)<=(lz:Int):=by omega
 have y:(lx:Int)<=(cx:Int):=by omega
 have z:(lz:Int)<=(cz:Int):=by omega
 by_cases h1:xs.take 16=zs.take 16
 ·have a:=ki (d.o true (by simp[h1]));have p:=ki (f.o r (by rw[<-hr];simp[h1]));clear d f h1 hr;go_enter func247,ntmps247;go_upto_region 3 with(go_at_call 213;refine(g.o _).mono ?_;rintro e w' ⟨rfl,b⟩;rw[b];clear b w')
  go_quiet (first|(go_at_call 191;with_reducible refine Calls.quiet_of_same (a.o _))|(go_at_call 191;with_reducible refine Calls.quiet_of_same (p.o _)))
  go_wp2;go_ret;exact⟨rfl,_,rfl⟩
 ·have a:=ki (d.o false (by simp[h1]));have q:r=false:=by
   cases r
   ·rfl
   ·exact absurd (hr.2 rfl).1 h1
  subst q;clear d f h1 hr;go_enter func247,ntmps247;go_upto_region 3 with(go_at_call 213;refine(g.o _).mono ?_;rintro e w' ⟨rfl,b⟩;rw[b];clear b w')
  go_quiet (first|(go_at_call 191;with_reducible refine Calls.quiet_of_same (a.o _)))
  go_wp2;go_ret;exact⟨rfl,_,rfl⟩
theorem LQ(k:Int)(hk:¬k=6)(gx ox lx cx gz jr lz cz:Nat)(xs zs:List Int)(w:World)(rx:aj w (some ⟨gx,ox,none⟩) lx cx xs)(jI:aj w (some ⟨gz,jr,none⟩) lz cz zs)(hx:8<=lx)(hz:8<=lz)(hxc:lx<=cx)(hzc:lz<=cz)(hxm:cx<=maxLen)(pF:cz<=maxLen)(r:Bool)(hr:(xs.take 6=zs.take 6∧xs.drop 8=zs.drop 8)↔r=true): Calls prog 247 #[.int .i64 k,.slice (some ⟨gx,ox,none⟩) lx cx,.slice (some ⟨gz,jr,none⟩) lz cz] w fun e w'=>e=.returned (.bool r)∧∃n,w'=w.drewN n:=by
 obtain⟨ax,hax⟩:∃ao,(if cx=8 then some (⟨gx,ox,none⟩:Addr) else some ⟨gx,ox+8,none⟩)=ao:=⟨_,rfl⟩;obtain⟨az,haz⟩:∃ao,(if cz=8 then some (⟨gz,jr,none⟩:Addr) else some ⟨gz,jr+8,none⟩)=ao:=⟨_,rfl⟩;have h:=fun n=>qC (rx.drewN n) 6 cx (by omega)
 have i:=fun n=>qC (jI.drewN n) 6 cz (by omega)
 have l:=fun n=>(rx.drewN n).behind 8 hx hxc ax hax
 have o:=fun n=>(jI.drewN n).behind 8 hz hzc az haz
 have d:=ki (fun r hr n=>mX _ _ _ _ _ _ _ _ _ (h n) (i n) r hr);have f:=ki (fun r hr n=>mX _ _ _ _ _ _ _ _ _ (l n) (o n) r hr);have g:=ki (fun W=>zO k W);rw[show cn k=6 by unfold cn;rw[if_neg hk]] at g;clear h i l o rx jI hk;unfold maxLen at hxm pF;have s:(6:Int)<=(cx:Int):=by omega
 have t:(6:Int)<=(cz:Int):=by omega
 have v:(8:Int)<=(lx:Int):=by omega
 have x:(8:Int)<=(lz:Int):=by omega
 have y:(lx:Int)<=(cx:Int):=by omega
 have z:(lz:Int)<=(cz:Int):=by omega
 by_cases h1:xs.take 6=zs.take 6
 ·have a:=ki (d.o true (by simp[h1]));have p:=ki (f.o r (by rw[<-hr];simp[h1]));clear d f h1 hr;go_enter func247,ntmps247;go_upto_region 3 with(go_at_call 213;refine(g.o _).mono ?_;rintro e w' ⟨rfl,b⟩;rw[b];clear b w')
  go_quiet (first|(go_at_call 191;with_reducible refine Calls.quiet_of_same (a.o _))|(go_at_call 191;with_reducible refine Calls.quiet_of_same (p.o _)))
  go_wp2;go_ret;exact⟨rfl,_,rfl⟩
 ·have a:=ki (d.o false (by simp[h1]));have q:r=false:=by
   cases r
   ·rfl
   ·exact absurd (hr.2 rfl).1 h1
  subst q;clear d f h1 hr;go_enter func247,ntmps247;go_upto_region 3 with(go_at_call 213;refine(g.o _).mono ?_;rintro e w' ⟨rfl,b⟩;rw[b];clear b w')
  go_quiet (first|(go_at_call 191;with_reducible refine Calls.quiet_of_same (a.o _)))
  go_wp2;go_ret;exact⟨rfl,_,rfl⟩
theorem zY(k:Int)(gx ox lx cx gz jr lz cz:Nat)(xs zs:List Int)(w:World)(rx:aj w (some ⟨gx,ox,none⟩) lx cx xs)(jI:aj w (some ⟨gz,jr,none⟩) lz cz zs)(hx:hn k<=lx)(hz:hn k<=lz)(hxc:lx<=cx)(hzc:lz<=cz)(hxm:cx<=maxLen)(pF:cz<=maxLen)(r:Bool)(hr:(xs.take (cn k)=zs.take (cn k)∧xs.drop (cn k+2)=zs.drop (cn k+2))↔r=true): Calls prog 247 #[.int .i64 k,.slice (some ⟨gx,ox,none⟩) lx cx,.slice (some ⟨gz,jr,none⟩) lz cz] w fun e w'=>e=.returned (.bool r)∧Below w.heap.size w w':=by
 have a:∀n,Below w.heap.size w (w.drewN n):=fun n=>⟨rfl,rfl,rfl,Nat.le_refl _,fun _ _=>rfl⟩
 by_cases hk:k=6
 ·have b:cn k=16:=by unfold cn;rw[if_pos hk]
  have d:hn k=20:=by unfold hn;rw[if_pos hk]
  rw[b] at hr;exact(LP k hk gx ox lx cx gz jr lz cz xs zs w rx jI (by omega) (by omega) hxc hzc hxm pF r hr).mono fun e w' ⟨h1,n,h2⟩=>⟨h1,by rw[h2];exact a n⟩
 ·have b:cn k=6:=by unfold cn;rw[if_neg hk]
  have d:hn k=8:=by unfold hn;rw[if_neg hk]
  rw[b] at hr;exact(LQ k hk gx ox lx cx gz jr lz cz xs zs w rx jI (by omega) (by omega) hxc hzc hxm pF r hr).mono fun e w' ⟨h1,n,h2⟩=>⟨h1,by rw[h2];exact a n⟩
def aR(k:Int)(zs:List Int):List Int:=if k=6 then [k,num zs 2,num (zs.drop 2) 2,num (zs.drop 4) 4,num (zs.drop 8) 4,num (zs.drop 13) 1,num (zs.drop 14) 2] else [k,num zs 2,num (zs.drop 2) 2,0,0,0,0]
theorem Ee(k:Int)(g off len cap:Nat)(zs:List Int)(w:World)(hr:aj w (some ⟨g,off,none⟩) len cap zs)(hH:hn k<=len)(hM:len<=320)(hcl:len<=cap)(hcm:cap<=maxLen): Calls prog 246 #[.int .i64 k,.slice (some ⟨g,off,none⟩) len cap] w fun e w'=>∃a' c',e=.returned (.agg (aA (aR k zs) a' (len-hn k) c'))∧Own w.heap.size w' (.slice a' (len-hn k) c') (zs.drop (hn k))∧Below w.heap.size w w':=by
 by_cases hk:k=6
 ·have a:hn k=20:=by unfold hn;rw[if_pos hk]
  have b:aR k zs=[k,num zs 2,num (zs.drop 2) 2,num (zs.drop 4) 4,num (zs.drop 8) 4,num (zs.drop 13) 1,num (zs.drop 14) 2]:=if_pos hk;rw[a,b];exact LK k g off len cap zs w hr hk (by omega) hM hcl hcm
 ·have a:hn k=8:=by unfold hn;rw[if_neg hk]
  have b:aR k zs=[k,num zs 2,num (zs.drop 2) 2,0,0,0,0]:=if_neg hk;rw[a,b];exact LM k g off len cap zs w hr hk (by omega) hM hcl hcm
end
section
def l5:Value:=.agg (aA [] none 0 0)
theorem LU(k over:Int)(a:Option Addr)(len cap:Nat)(w:World)(hk:kn k=true)(ho:up 65535 over=true)(h:len<hn k∨hn k+300<len)(_hm:len<=maxLen): Calls prog 193 #[.int .i64 k,.slice a len cap,.int .i64 over] w fun e w'=>e=.returned (.tuple #[l5,err 5])∧Below w.heap.size w w':=by
 unfold maxLen at _hm;have b:=ki (au w (.cells aN 39));have d:=ki (bR w);unfold aN at b d;have l:=ki (fun W=>qE k W);have hh:=lZ k;generalize hn k=H at l hh h;have o:(H:Int)<=20:=by omega
 rcases h with h|h;case' inl=>have n:(len:Int)<(H:Int):=by omega
 case' inr =>
  have n:¬(len:Int)<(H:Int):=by omega
  have p:(H:Int)+300<(len:Int):=by omega
 all_goals
  clear h;go_enter func193,ntmps193;go_upto_region 1 with fail
  generalize w.alloc _=W at b d⊢;go_upto_region 3 with(first|(go_at_call 245;refine(r9 _ _).mono ?_;rintro e w' ⟨rfl,rfl⟩)|(go_at_call 210;(with_reducible refine(uw _ _ _).mono ?_);rintro e q ⟨rfl,f⟩;replace b:=ki (bt b.o f);replace d:=ki (d.o.kept f);clear f))
  go_wp2_with (first|(go_at_call 208;refine(l.o _).mono ?_;rintro e w' ⟨rfl,rfl⟩)|(refine aK rfl (.tmp 6) (.tmp 35) rfl rfl d.o [] none 0 0 rfl ?_;intro r i g;replace b:=ki (g.below b.o (Nat.le_refl _));replace i:=ki i;clear g))
  try simp only[Exit.inBlock,Exit.then]
  refine bodyPost_ret (bS rfl _ _ w.heap.size [] none 0 0 rfl i.o) rfl ?_;exact⟨rfl,b.o⟩
theorem LV(k over:Int)(g off len cap:Nat)(zs:List Int)(w:World)(hr:aj w (some ⟨g,off,none⟩) len cap zs)(hk:kn k=true)(ho:up 65535 over=true)(h1:hn k<=len)(h2:len<=hn k+300)(hcl:len<=cap)(hcm:cap<=maxLen)(hs:sf (aR k zs) (len-hn k)≠0): Calls prog 193 #[.int .i64 k,.slice (some ⟨g,off,none⟩) len cap,.int .i64 over] w fun e w'=>e=.returned (.tuple #[l5,err 5])∧Below w.heap.size w w':=by
 have a:=ki (au w (.cells aN 39));have d:=ki (bR w);have v:=ki bR;unfold aN at a d v;have A:=ki (fun W=>qE k W);have hh:=lZ k;have x:=ki hr;have b:=ki (fun W (h:aj W (some ⟨g,off,none⟩) len cap zs)=>Ee k g off len cap zs W h h1 (by omega) hcl hcm);have i:=ki (fun a' c' W=>LH (aR k zs) a' (len-hn k) c' over W (by unfold maxLen at *;omega) _ rfl hs);unfold err at i;generalize sf (aR k zs) (len-hn k)=E at i hs;generalize hn k=H at A hh h1 h2 b i;generalize aR k zs=Z at b i;have y:=hcm;unfold maxLen at y;have D:(H:Int)<=20:=by omega
 have F:¬(len:Int)<(H:Int):=by omega
 have G:¬(H:Int)+300<(len:Int):=by omega
 clear hr hs;go_enter func193,ntmps193;go_upto_region 1 with fail
 generalize w.alloc _=W0 at a d⊢;go_upto_region 3 with(first|(go_at_call 245;refine(r9 _ _).mono ?_;rintro e w' ⟨rfl,rfl⟩)|(go_at_call 210;(with_reducible refine(uw _ _ _).mono ?_);rintro e B ⟨rfl,l⟩;replace a:=ki (bt a.o l);replace d:=ki (d.o.kept l);clear l))
 go_upto_region 5 with(go_at_call 208;refine(A.o _).mono ?_;rintro e w' ⟨rfl,rfl⟩)
 go_upto_region 6 with(first|(go_at_call 246;refine(b.o _ (x.o.below a.o)).mono ?_;rintro e n ⟨C,c1,rfl,r,o⟩;replace a:=ki (bt a.o o);replace d:=ki (d.o.kept o);clear o r)|(refine aK rfl (.tmp 8) (.tmp 39) rfl rfl (v.o n) Z C (len-H) c1 rfl ?_;intro B s f;replace s:=ki s;replace f:=ki f))
 have p:Below n.heap.size n B:=f.o.below (au n _) (Nat.le_refl _);replace a:=ki (bt a.o p);replace d:=ki (d.o.kept p);clear p f v b;generalize n.heap.size=B1 at s⊢;go_upto_region 7 with(first|(refine bB rfl (.tmp 8) rfl rfl s.o ?_)|(go_at_call 150;refine(i.o C c1 _).mono ?_;rintro e I ⟨rfl,q⟩;replace a:=ki (bt a.o q);replace d:=ki (d.o.kept q);clear q))
 go_wp2_with (first|(refine aK rfl (.tmp 6) (.tmp 55) rfl rfl d.o [] none 0 0 rfl ?_;intro J z t;replace a:=ki (t.below a.o (Nat.le_refl _));replace z:=ki z;clear t))
 try simp only[Exit.inBlock,Exit.then]
 refine bodyPost_ret (bS rfl _ _ w.heap.size [] none 0 0 rfl z.o) rfl ?_;exact⟨rfl,a.o⟩
theorem zZ(k over:Int)(g off len cap:Nat)(zs:List Int)(w:World)(hr:aj w (some ⟨g,off,none⟩) len cap zs)(hk:kn k=true)(ho:up 65535 over=true)(h1:hn k<=len)(h2:len<=hn k+300)(hcl:len<=cap)(hcm:cap<=maxLen)(hs:sf (aR k zs) (len-hn k)=0)(r1 r2:Bool)(hr1:((eb (aR k zs) over (zs.drop (hn k))).take (cn k)=zs.take (cn k)∧(eb (aR k zs) over (zs.drop (hn k))).drop (cn k+2)=zs.drop (cn k+2))↔r1=true)(hr2:eb (aR k zs) over (zs.drop (hn k))=zs↔r2=true): Calls prog 193 #[.int .i64 k,.slice (some ⟨g,off,none⟩) len cap,.int .i64 over] w fun e w'=>((r1=false∧e=.returned (.tuple #[l5,err 5]))∨(r1=true∧r2=false∧e=.returned (.tuple #[l5,err 6])) ∨ (r1=true∧r2=true∧∃a' c',e=.returned (.tuple #[.agg (aA (aR k zs) a' (len-hn k) c'),.nilIface])∧aj w' a' (len-hn k) c' (zs.drop (hn k))))∧Below w.heap.size w w':=by
 have M:=hr.1;have b:=ki (au w (.cells aN 39));have f:=ki (bR w);have N:=ki bR;unfold aN at b f N;have P:=ki (fun W=>qE k W);have hh:=lZ k;have hp:8<=hn k:=by unfold hn;split<;>omega
 have p:=ki hr;have l:=ki (fun W (h:aj W (some ⟨g,off,none⟩) len cap zs)=>Ee k g off len cap zs W h h1 (by omega) hcl hcm);have y:=ki (fun a' c' W (h:aj W a' (len-hn k) c' (zs.drop (hn k)))=>Eb (aR k zs) a' (len-hn k) c' over (zs.drop (hn k)) W hs ho h);have I:el (aR k zs) 0=k:=by unfold aR;split<;>rfl
 have z:=ki (show(eb (aR k zs) over (zs.drop (hn k))).length=len by rw[wK,I,List.length_drop,M];omega);have A:=ki (fun gx cx W rx jI hc hm=>zY k gx 0 len cx g off len cap (eb (aR k zs) over (zs.drop (hn k))) zs W rx jI h1 h1 hc hcl hm hcm r1 hr1);have s:=ki hr2;clear hr hr1 hr2 hs I;generalize eb (aR k zs) over (zs.drop (hn k))=LJ at y z A s;generalize zs.drop (hn k)=D at l y⊢;generalize hn k=H at P hh h1 h2 l y hp⊢;generalize aR k zs=Z at l y⊢;have O:=hcm;unfold maxLen at O;have U:(H:Int)<=20:=by omega
 have X:¬(len:Int)<(H:Int):=by omega
 have Y:¬(H:Int)+300<(len:Int):=by omega
 go_enter func193,ntmps193;go_upto_region 1 with fail
 generalize w.alloc _=W0 at b f⊢;go_upto_region 3 with(first|(go_at_call 245;refine(r9 _ _).mono ?_;rintro e w' ⟨rfl,rfl⟩)|(go_at_call 210;(with_reducible refine(uw _ _ _).mono ?_);rintro e Q ⟨rfl,B⟩;replace b:=ki (bt b.o B);replace f:=ki (f.o.kept B);clear B))
 go_upto_region 5 with(go_at_call 208;refine(P.o _).mono ?_;rintro e w' ⟨rfl,rfl⟩)
 have V:=ki f.o.lt;go_upto_region 6 with(first|(go_at_call 246;refine(l.o _ (p.o.below b.o)).mono ?_;rintro e C ⟨E,c1,rfl,a,F⟩;replace b:=ki (bt b.o F);replace f:=ki (f.o.kept F);replace a:=ki a;clear F)|(refine aK rfl (.tmp 8) (.tmp 39) rfl rfl (N.o C) Z E (len-H) c1 rfl ?_;intro Q q t;replace q:=ki q;replace t:=ki t))
 have x:Below C.heap.size C Q:=t.o.below (au C _) (Nat.le_refl _);replace b:=ki (bt b.o x);replace f:=ki (f.o.kept x);replace a:=ki (a.o.kept x);clear x t N l;generalize C.heap.size=B1 at q⊢;go_upto_region 7 with(first|(refine bB rfl (.tmp 8) rfl rfl q.o ?_)|(go_at_call 150;refine(y.o E c1 _ a.o.mW).mono ?_;rintro e w3 ⟨v,rfl,J,r⟩;obtain⟨gE,cE,hv,G,K,-,-,d⟩:=J.form (by rw[z.o];omega);rw[z.o] at G d hv;subst hv;replace b:=ki (bt b.o r);replace f:=ki (f.o.kept r);replace q:=ki (q.o.kept r);replace a:=ki (a.o.kept r);replace d:=ki d;clear r J))
 cases r1
 ·go_wp2_with (first
   | (go_at_call 247;refine(A.o _ _ _ d.o (p.o.below b.o) G K).mono ?_;rintro e S ⟨rfl,i⟩;replace b:=ki (bt b.o i);replace f:=ki (f.o.kept i);clear i)
   | (refine aK rfl (.tmp 6) (.tmp 55) rfl rfl f.o [] none 0 0 rfl ?_;intro R o n;replace b:=ki (n.below b.o (Nat.le_refl _));replace o:=ki o;clear n))
  try simp only[Exit.inBlock,Exit.then]
  refine bodyPost_ret (bS rfl _ _ w.heap.size [] none 0 0 rfl o.o) rfl ?_;exact⟨rfl,b.o⟩
 ·go_upto_region 9 with(go_at_call 247;refine(A.o _ _ _ d.o (p.o.below b.o) G K).mono ?_;rintro e S ⟨rfl,i⟩;replace b:=ki (bt b.o i);replace f:=ki (f.o.kept i);replace q:=ki (q.o.kept i);replace a:=ki (a.o.kept i);replace d:=ki (d.o.below i);clear i)
  have L:=ki (mX _ _ _ _ _ _ _ _ _ d.o (p.o.below b.o) r2 s.o);cases r2
  ·go_wp2_with (first
    | (go_at_call 191;refine L.o.mono ?_;rintro e T ⟨rfl,rfl⟩)
    | (refine aK rfl (.tmp 6) (.tmp 61) rfl rfl f.o [] none 0 0 rfl ?_;intro R o n;replace b:=ki (n.below b.o (Nat.le_refl _));replace o:=ki o;clear n))
   try simp only[Exit.inBlock,Exit.then]
   refine bodyPost_ret (bS rfl _ _ w.heap.size [] none 0 0 rfl o.o) rfl ?_;exact⟨rfl,b.o⟩
  ·go_wp2_with (first
    | (go_at_call 191;refine L.o.mono ?_;rintro e T ⟨rfl,rfl⟩)
    | (refine bB rfl (.tmp 8) rfl rfl q.o ?_)
    | (refine aK rfl (.tmp 6) (.tmp 63) rfl rfl f.o Z E (len-H) c1 rfl ?_;intro R o n;replace b:=ki (n.below b.o (Nat.le_refl _));replace a:=ki (a.o.only n (f.o.ne a.o));replace o:=ki o;clear n))
   try simp only[Exit.inBlock,Exit.then]
   refine bodyPost_ret (bS rfl _ _ w.heap.size Z E (len-H) c1 rfl o.o) rfl ?_;exact⟨⟨E,c1,rfl,a.o.mW⟩,b.o⟩
end
section
theorem qG(m n:Int):up m n=true↔0<=n∧n<=m:=by unfold up;simp
theorem su(m x y:Int):ups m [x,y]=true↔(0<=x∧x<=m)∧(0<=y∧y<=m):=by simp[ups,qG]
theorem z8(m x y u v:Int):ups m [x,y,u,v]=true↔(0<=x∧x<=m)∧(0<=y∧y<=m)∧(0<=u∧u<=m)∧(0<=v∧v<=m):=by simp[ups,qG]
theorem Aa(z:List Int):os z=true↔((0<=el z 3∧el z 3<=4294967295)∧(0<=el z 4∧el z 4<=4294967295))∧(0<=el z 5∧el z 5<=31)∧(0<=el z 6∧el z 6<=65535):=by unfold os;simp only[Bool.and_eq_true,su,qG,and_assoc]
theorem jR(k:Int):kn k=true↔k=6∨k=17:=by simp[kn]
def bC(z:List Int)(len:Nat):Prop:=(0<=el z 1∧el z 1<=65535)∧(0<=el z 2∧el z 2<=65535)∧len<=300 ∧
 ((el z 0=6∧(0<=el z 3∧el z 3<=4294967295)∧(0<=el z 4∧el z 4<=4294967295)∧(0<=el z 5∧el z 5<=31)∧(0<=el z 6∧el z 6<=65535)) ∨
  (el z 0=17∧el z 3=0∧el z 4=0∧el z 5=0∧el z 6=0))
theorem l6(z:List Int)(len:Nat):sf z len=0↔bC z len:=by
 unfold sf bC;by_cases h1:kn (el z 0)=true∧ups 65535 [el z 1,el z 2]=true
 ·rw[if_neg (by simp[h1])];have k:=(jR _).1 h1.1;have l:=(su _ _ _).1 h1.2;by_cases h6:el z 0=6
  ·rw[if_pos h6];have f:=Aa z;cases hos:os z
   ·rw[hos] at f;simp only[if_true];refine⟨fun h=>by omega,fun ⟨_,_,_,h⟩=>?_⟩;rcases h with⟨_,a,b,c,d⟩|⟨e,_⟩
    ·exact absurd (f.2 ⟨⟨a,b⟩,c,d⟩) (by decide)
    ·omega
   ·have g:=f.1 hos;simp only[Bool.true_eq_false,if_false];split<;>omega
  ·rw[if_neg h6];have hn:=z8 0 (el z 3) (el z 4) (el z 5) (el z 6);cases hun:ups 0 [el z 3,el z 4,el z 5,el z 6]
   ·rw[hun] at hn;simp only[if_true];refine⟨fun h=>by omega,fun ⟨_,_,_,h⟩=>?_⟩;rcases h with⟨e,_⟩|⟨_,a,b,c,d⟩
    ·exact absurd e h6
    ·exact absurd (hn.2 (by omega)) (by decide)
   ·have i:=hn.1 hun;simp only[Bool.true_eq_false,if_false];split<;>omega
 ·rw[if_pos (by
   cases h2:kn (el z 0)
   ·rfl
   ·cases h3:ups 65535 [el z 1,el z 2]
    ·rfl
    ·exact absurd ⟨h2,h3⟩ h1)]
  refine⟨fun h=>by omega,fun ⟨a,b,_,h⟩=>absurd ⟨(jR _).2 (by omega),(su _ _ _).2 ⟨a,b⟩⟩ h1⟩
def lg(f t q c g v C:Int):List Int:=[f/256,f%256,t/256,t%256,q/16777216,q/65536%256,q/256%256,q%256,c/16777216,c/65536%256,c/256%256,c%256,80,g,v/256,v%256,C/256,C%256,0,0]
def ng(f t n C:Int):List Int:=[f/256,f%256,t/256,t%256,n/256,n%256,C/256,C%256]
theorem Ef(x:Int)(h0:0<=x)(h1:x<=4294967295):nb 4 x=[x/16777216,x/65536%256,x/256%256,x%256]:=by show [x/256 ^ 3%256,x/256 ^ 2%256,x/256 ^ 1%256,x/256 ^ 0%256]=_;rw[show x/256 ^ 3%256=x/16777216 by omega,show x/256 ^ 2%256=x/65536%256 by omega,show x/256 ^ 1%256=x/256%256 by omega,show x/256 ^ 0%256=x%256 by omega]
theorem Eh(x:Int)(h0:0<=x)(h1:x<=255):nb 1 x=[x]:=by show [x/256 ^ 0%256]=_;rw[show x/256 ^ 0%256=x by omega]
theorem Ei(z data:List Int)(h:bC z data.length)(h6:el z 0=6):ub z data=lg (el z 1) (el z 2) (el z 3) (el z 4) (el z 5) (el z 6) 0++data:=by
 obtain⟨a,b,_,h⟩:=h;obtain⟨_,hq,hc,hg,hv⟩:el z 0=6∧(0<=el z 3∧el z 3<=4294967295)∧(0<=el z 4∧el z 4<=4294967295)∧(0<=el z 5∧el z 5<=31)∧(0<=el z 6∧el z 6<=65535):=by
  rcases h with h|h
  ·exact h
  ·omega
 unfold ub;rw[if_pos h6];show(((([]++nb 2 (el z 1))++nb 2 (el z 2))++(([]++nb 4 (el z 3))++nb 4 (el z 4)))++(([]++nb 1 80)++nb 1 (el z 5))++((([]++nb 2 (el z 6))++nb 2 0)++nb 2 0))++data=_;rw[gT _ a.1 a.2,gT _ b.1 b.2,Ef _ hq.1 hq.2,Ef _ hc.1 hc.2,Eh 80 (by omega) (by omega),Eh _ hg.1 (by omega),gT _ hv.1 hv.2,gT 0 (by omega) (by omega)];rfl
theorem Ej(z data:List Int)(h:bC z data.length)(h6:¬el z 0=6):ub z data=ng (el z 1) (el z 2) (8+data.length) 0++data:=by obtain⟨a,b,hl,_⟩:=h;unfold ub;rw[if_neg h6];show((([]++nb 2 (el z 1))++nb 2 (el z 2))++(([]++nb 2 (8+(data.length:Int)))++nb 2 0))++data=_;rw[gT _ a.1 a.2,gT _ b.1 b.2,gT (8+(data.length:Int)) (by omega) (by omega),gT 0 (by omega) (by omega)];rfl
theorem El(z:List Int)(over:Int)(data:List Int)(h:bC z data.length)(h6:el z 0=6):eb z over data=lg (el z 1) (el z 2) (el z 3) (el z 4) (el z 5) (el z 6) (bV z over data)++data:=by unfold eb;generalize bV z over data=C;rw[Ei z data h h6,show cn (el z 0)=16 by unfold cn;rw[if_pos h6]];rfl
theorem Em(z:List Int)(over:Int)(data:List Int)(h:bC z data.length)(h6:¬el z 0=6):eb z over data=ng (el z 1) (el z 2) (8+data.length) (bV z over data)++data:=by unfold eb;generalize bV z over data=C;rw[Ej z data h h6,show cn (el z 0)=6 by unfold cn;rw[if_neg h6]];rfl
end
section
theorem En(zs:List Int)(j:Nat):num (zs.drop j) 1=zs.getD j 0:=by simp only[num,P4.getD_drop,Nat.add_zero];omega
theorem uD(zs:List Int)(j:Nat):num (zs.drop j) 2=zs.getD j 0*256+zs.getD (j+1) 0:=by simp only[num,P4.getD_drop,Nat.add_zero];omega
theorem wM(zs:List Int)(j:Nat):num (zs.drop j) 4=((zs.getD j 0*256+zs.getD (j+1) 0)*256+zs.getD (j+2) 0)*256+zs.getD (j+3) 0:=by simp only[num,P4.getD_drop,Nat.add_zero];omega
theorem Eo(zs:List Int):num zs 2=zs.getD 0 0*256+zs.getD 1 0:=uD zs 0
theorem Ep(zs:List Int):el (aR 6 zs) 0=6∧el (aR 6 zs) 1=zs.getD 0 0*256+zs.getD 1 0∧el (aR 6 zs) 2=zs.getD 2 0*256+zs.getD 3 0∧el (aR 6 zs) 3=((zs.getD 4 0*256+zs.getD 5 0)*256+zs.getD 6 0)*256+zs.getD 7 0∧el (aR 6 zs) 4=((zs.getD 8 0*256+zs.getD 9 0)*256+zs.getD 10 0)*256+zs.getD 11 0∧el (aR 6 zs) 5=zs.getD 13 0∧el (aR 6 zs) 6=zs.getD 14 0*256+zs.getD 15 0 :=
 ⟨rfl,Eo zs,uD zs 2,wM zs 4,wM zs 8,En zs 13,uD zs 14⟩
theorem Er(zs:List Int):el (aR 17 zs) 0=17∧el (aR 17 zs) 1=zs.getD 0 0*256+zs.getD 1 0∧el (aR 17 zs) 2=zs.getD 2 0*256+zs.getD 3 0∧el (aR 17 zs) 3=0∧el (aR 17 zs) 4=0∧el (aR 17 zs) 5=0∧el (aR 17 zs) 6=0 :=
 ⟨rfl,Eo zs,uD zs 2,rfl,rfl,rfl,rfl⟩
theorem wN(zs:List Int)(ho:SM.Oct zs)(n:Nat)(hn:n<=300):bC (aR 6 zs) n↔zs.getD 13 0<=31:=by obtain⟨a,b,d,e,e4,f,g⟩:=Ep zs;have p:=ho 0;have q:=ho 1;have r:=ho 2;have s:=ho 3;have h4:=ho 4;have t:=ho 5;have v:=ho 6;have w:=ho 7;have h8:=ho 8;have x:=ho 9;have h:=ho 10;have i:=ho 11;have k:=ho 13;have l:=ho 14;have o:=ho 15;unfold bC;rw[a,b,d,e,e4,f,g];omega
theorem Ab(zs:List Int)(ho:SM.Oct zs)(n:Nat)(hn:n<=300):bC (aR 17 zs) n:=by obtain⟨a,b,d,e,e4,f,g⟩:=Er zs;have h:=ho 0;have i:=ho 1;have k:=ho 2;have l:=ho 3;unfold bC;rw[a,b,d,e,e4,f,g];omega
theorem LW(xs ys:List Int)(j:Nat)(h:j<xs.length):(xs++ys).getD j 0=xs.getD j 0:=by rw[List.getD_eq_getElem?_getD,List.getD_eq_getElem?_getD,List.getElem?_append_left h]
end
section
theorem Es{z:List Int}{len:Nat}(h:bC z len):kn (el z 0)=true:=(jR _).2 (by obtain⟨_,_,_,h|h⟩:=h<;>omega)
theorem Et(z:List Int)(a:Option Addr)(len cap:Nat)(over:Int)(data:List Int)(w:World)(h:bC z len)(ho:up 65535 over=true)(hr:aj w a len cap data): Calls prog 150 #[.agg (aA z a len cap),.int .i64 over] w fun e w'=>∃g c,e=.returned (.tuple #[.slice (some ⟨g,0,none⟩) (hn (el z 0)+len) c,.nilIface])∧hn (el z 0)+len<=c∧c<=maxLen∧w.heap.size<=g∧aj w' (some ⟨g,0,none⟩) (hn (el z 0)+len) c (eb z over data)∧Below w.heap.size w w':=by
 refine(Eb z a len cap over data w ((l6 _ _).2 h) ho hr).mono ?_;rintro e w' ⟨v,rfl,b,hb⟩;have d:(eb z over data).length=hn (el z 0)+len:=by rw[wK,hr.1]
 have hp:0<hn (el z 0):=by unfold hn;split<;>omega
 obtain⟨g,c,rfl,f,i,k,_,h4⟩:=b.form (by omega);rw[d] at f h4⊢;exact⟨g,c,rfl,f,i,k,h4,hb⟩
end
section
def o6(s d:List Int)(k n:Int):Int:=nS (aS s 8++aS d 8) k n
def o4(s d:Int)(k n:Int):Int:=nS (bD 4 [s,d] 2) k n
theorem Eu(zs:List Int)(k n:Int)(h:SM.Oct zs):up 65535 (nS zs k n)=true:=by have hb:=SM.lV (zs++bD 2 [k,n] 2) (SM.jl _ _ h (pz _ _ _)) (zs.length+4);exact decide_eq_true (SM.nQ _ hb.1)
theorem wO(s d:List Int)(k n:Int)(hs:aH s)(hd:aH d):up 65535 (o6 s d k n)=true:=Eu _ _ _ (SM.jl _ _ (o9 s hs 8 (by omega)) (o9 d hd 8 (by omega)))
theorem wP(s d:Int)(k n:Int):up 65535 (o4 s d k n)=true:=Eu _ _ _ (pz _ _ _)
theorem Ev(s d:List Int)(k n:Int)(w:World)(hs:aH s)(hd:aH d)(hk:up 255 k=true)(hn:up 320 n=true): Calls prog 138 #[.agg (av s),.agg (av d),.int .i64 k,.int .i64 n] w fun e w'=>e=.returned (.tuple #[.int .i64 (o6 s d k n),.nilIface])∧Below w.heap.size w w' :=
 Lj s d k n w hs hd _ _ (fun W0 W v hg=>D6 W0 W v _ k n hg (by rw[List.length_append,eD,eD];omega) hk hn)
theorem Ew(s d k n:Int)(w:World)(hs:up 4294967295 s=true)(hd:up 4294967295 d=true)(hk:up 255 k=true)(hn:up 320 n=true): Calls prog 149 #[.int .i64 s,.int .i64 d,.int .i64 k,.int .i64 n] w fun e w'=>e=.returned (.tuple #[.int .i64 (o4 s d k n),.nilIface])∧Below w.heap.size w w':=Li s d k n w hs hd hk hn
theorem bq{w w':World}(o:Obj)(h:Only w.heap.size (w.alloc o) w'):Below w.heap.size w w':=h.below (au w o) (Nat.le_refl _)
end
end Go.Proofs.YtgcojnlngchllaaGreatDoor
