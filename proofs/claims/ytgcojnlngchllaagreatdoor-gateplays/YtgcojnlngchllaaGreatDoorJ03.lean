import Derived.Test.YtgcojnlngchllaaGreatDoorJ02
namespace Go.Proofs.YtgcojnlngchllaaGreatDoor
open Go.RowKit Tryz
set_option linter.unusedVariables false
set_option maxRecDepth 100000
set_option maxHeartbeats 40000000
section
def sf(z:List Int)(len:Nat):Int :=
 if (kn (el z 0) && ups 65535 [el z 1,el z 2])=false then 1
 else if el z 0=6 then (if os z=false then 1 else if 300<len then 3 else 0)
 else (if ups 0 [el z 3,el z 4,el z 5,el z 6]=false then 2 else if 300<len then 3 else 0)
def ev(n:Int):Value:=if n=0 then .nilIface else err n
attribute [local go_sem ↓] jg
theorem wJ(z:List Int)(a:Option Addr)(len cap:Nat)(w:World)(hm:len<=maxLen): Calls prog 207 #[.agg (aA z a len cap)] w fun e w'=>e=.returned (ev (sf z len))∧Below w.heap.size w w':=by
 unfold maxLen at hm;have d:=ki (au w (.cells (aA z a len cap) 39));have b:=ki (gG w z a len cap);obtain⟨E,hE⟩:∃E,E=ev (sf z len):=⟨_,rfl⟩;rw[<-hE];unfold sf at hE;generalize hk:kn (el z 0)=uk at hE;generalize hu:ups 65535 [el z 1,el z 2]=u1 at hE;cases uk
 ·have g:=ki (show E=err 1 from hE);clear hE;unfold err at g;go_enter func207,ntmps207;go_upto_region 1 with fail
  generalize w.alloc (.cells (aA z a len cap) 39)=W at d b⊢;have i:=b.o.c0;go_wp2_with (go_at_call 245;refine(r9 _ _).mono ?_;rintro e w' ⟨rfl,rfl⟩)
  go_ret;exact⟨by rw[g.o];rfl,d.o⟩
 ·cases u1
  ·have g:=ki (show E=err 1 from hE);clear hE;unfold err at g;go_enter func207,ntmps207;go_upto_region 1 with fail
   generalize w.alloc (.cells (aA z a len cap) 39)=W at d b⊢;have i:=b.o.c0;have o:=b.o.c1;have p:=b.o.c2;go_wp2_with (first|(go_at_call 245;refine(r9 _ _).mono ?_;rintro e w' ⟨rfl,rfl⟩)|(go_at_call 210;(with_reducible refine(zS _ _ _ _).mono ?_);rintro e l ⟨rfl,f⟩;replace d:=ki (bt d.o f);clear f i o p))
   go_ret;exact⟨by rw[g.o];rfl,d.o⟩
  ·rw[if_neg (by decide)] at hE;generalize ho:os z=Lm at hE;generalize hn:ups 0 [el z 3,el z 4,el z 5,el z 6]=un at hE;have k:=ki (fun W=>Ll z a len cap W);rw[ho] at k;replace hn:=ki hn;go_enter func207,ntmps207;go_upto_region 1 with fail
   generalize w.alloc (.cells (aA z a len cap) 39)=W at d b⊢;have i:=b.o.c0;have o:=b.o.c1;have p:=b.o.c2;go_upto_region 3 with(first|(go_at_call 245;refine(r9 _ _).mono ?_;rintro e w' ⟨rfl,rfl⟩)|(go_at_call 210;(with_reducible refine(zS _ _ _ _).mono ?_);rintro e l ⟨rfl,f⟩;replace d:=ki (bt d.o f);replace b:=ki (b.o.kept f);clear f i o p))
   clear hu;have i:=b.o.c0;have n:=b.o.gl;by_cases h6:el z 0=6
   ·rw[if_pos h6] at hE;have x:(el z 0 == 6)=true:=by simpa using h6
    have y:(el z 0 == 17)=false:=by rw[h6];rfl
    clear h6 hk;cases Lm
    ·have g:=ki (show E=err 1 from hE);clear hE;unfold err at g;go_wp2_with (go_at_call 257;refine(k.o _).mono ?_;rintro e A ⟨rfl,h⟩;replace d:=ki (bt d.o h);clear h i n)
     go_ret;exact⟨by rw[g.o];rfl,d.o⟩
    ·rw[if_neg (by decide)] at hE;by_cases hl:300<len
     ·have g:=ki (show E=err 3 by rw[hE,if_pos hl];rfl);clear hE;unfold err at g;go_wp2_with (go_at_call 257;refine(k.o _).mono ?_;rintro e A ⟨rfl,h⟩;replace d:=ki (bt d.o h);replace b:=ki (b.o.kept h);clear h i n;have i:=b.o.c0;have q:=b.o.c7)
      go_ret;exact⟨by rw[g.o];rfl,d.o⟩
     ·have g:=ki (show E=.nilIface by rw[hE,if_neg hl];rfl);clear hE;go_wp2_with (go_at_call 257;refine(k.o _).mono ?_;rintro e A ⟨rfl,h⟩;replace d:=ki (bt d.o h);replace b:=ki (b.o.kept h);clear h i n;have i:=b.o.c0;have q:=b.o.c7)
      go_ret;exact⟨by rw[g.o];rfl,d.o⟩
   ·rw[if_neg h6] at hE;have x:(el z 0 == 6)=false:=by simpa using h6
    have y:(el z 0 == 17)=true:=by unfold kn at hk;rw[x] at hk;simpa using hk
    have r:=b.o.c3;have s:=b.o.c4;have t:=b.o.c5;have v:=b.o.c6;replace hn:=hn.o;clear h6 hk n ho k;cases un
    ·have g:=ki (show E=err 2 from hE);clear hE;unfold err at g;go_wp2_with (go_at_call 210;(with_reducible refine(zT _ _ _ _ _ _).mono ?_);rintro e l ⟨rfl,f⟩;replace d:=ki (bt d.o f);clear f i r s t v)
     go_ret;exact⟨by rw[g.o];rfl,d.o⟩
    ·rw[if_neg (by decide)] at hE;by_cases hl:300<len
     ·have g:=ki (show E=err 3 by rw[hE,if_pos hl];rfl);clear hE;unfold err at g;go_wp2_with (go_at_call 210;(with_reducible refine(zT _ _ _ _ _ _).mono ?_);rintro e l ⟨rfl,f⟩;replace d:=ki (bt d.o f);replace b:=ki (b.o.kept f);clear f i r s t v;have q:=b.o.c7)
      go_ret;exact⟨by rw[g.o];rfl,d.o⟩
     ·have g:=ki (show E=.nilIface by rw[hE,if_neg hl];rfl);clear hE;go_wp2_with (go_at_call 210;(with_reducible refine(zT _ _ _ _ _ _).mono ?_);rintro e l ⟨rfl,f⟩;replace d:=ki (bt d.o f);replace b:=ki (b.o.kept f);clear f i r s t v;have q:=b.o.c7)
      go_ret;exact⟨by rw[g.o];rfl,d.o⟩
end
section
attribute [local go_sem ↓] Go.wp_at_zero Go.wp_at_succ
theorem Lp(W0:World)(v:Value)(zs:List Int)(x y:Int)(B:Nat)(w:World)(hg:bN W0 w v zs)(hl:Ints B [x,y] w)(hz:zs.length<=1000000): Calls prog 209 #[v,.int .i64 1,.slice (some ⟨B,0,none⟩) 2 2] w fun e w'=>∃v',e=.returned v'∧bN W0 w' v' (zs++bD 1 [x,y] 2) :=
 wE W0 v zs 1 B 2 [x,y] w hg hl rfl (by omega) (by omega) hz
theorem Lr(W0:World)(v:Value)(zs:List Int)(x y u:Int)(B:Nat)(w:World)(hg:bN W0 w v zs)(hl:Ints B [x,y,u] w)(hz:zs.length<=1000000): Calls prog 209 #[v,.int .i64 2,.slice (some ⟨B,0,none⟩) 3 3] w fun e w'=>∃v',e=.returned v'∧bN W0 w' v' (zs++bD 2 [x,y,u] 3) :=
 wE W0 v zs 2 B 3 [x,y,u] w hg hl rfl (by omega) (by omega) hz
theorem Ls(w:World)(x y u:Int):Ints w.heap.size [x,y,u] (w.alloc (.cells #[.int .i64 x,.int .i64 y,.int .i64 u] 3)):=jo w [x,y,u]
def ub(z:List Int)(data:List Int):List Int :=
 if el z 0=6 then (((bD 2 [el z 1,el z 2] 2++bD 4 [el z 3,el z 4] 2)++bD 1 [80,el z 5] 2)++bD 2 [el z 6,0,0] 3)++data
 else (bD 2 [el z 1,el z 2] 2++bD 2 [8+(data.length:Int),0] 2)++data
theorem Lu(z:List Int)(a:Option Addr)(len cap:Nat)(data:List Int)(w:World)(h6:el z 0=6)(hl:len<=300)(hr:aj w a len cap data): Calls prog 211 #[.agg (aA z a len cap)] w fun e w'=>∃v,e=.returned v∧Own w.heap.size w' v (ub z data)∧Below w.heap.size w w':=by
 have n:=ki (au w (.cells (aA z a len cap) 39));have f:=ki (gG w z a len cap);have k:=ki (show ub z data=(((bD 2 [el z 1,el z 2] 2++bD 4 [el z 3,el z 4] 2)++bD 1 [80,el z 5] 2)++bD 2 [el z 6,0,0] 3)++data from if_pos h6);have s:=ki (fun W0 W B v zs hg hi hz=>wF W0 v zs (el z 1) (el z 2) B W hg hi hz);have t:=ki (fun W0 W B v zs hg hi hz=>D5 W0 v zs (el z 3) (el z 4) B W hg hi hz);have x:=ki (fun W0 W B v zs hg hi hz=>Lp W0 v zs 80 (el z 5) B W hg hi hz);have y:=ki (fun W0 W B v zs hg hi hz=>Lr W0 v zs (el z 6) 0 0 B W hg hi hz);have l:=ki (kr 2 [el z 1,el z 2] 2);have o:=ki (kr 4 [el z 3,el z 4] 2);have q:=ki (kr 1 [80,el z 5] 2);have r:=ki (kr 2 [el z 6,0,0] 3);generalize ub z data=U at k⊢;generalize bD 2 [el z 1,el z 2] 2=Z1 at k s l;generalize bD 4 [el z 3,el z 4] 2=Z2 at k t o;generalize bD 1 [80,el z 5] 2=Z3 at k x q;generalize bD 2 [el z 6,0,0] 3=Lv at k y r;have X:(el z 0 == 6)=true:=by simpa using h6
 have E:=ki hr;have F:=ki (show(((Z1++Z2)++Z3)++Lv).length+len<=1000000000 by have:=l.o;have:=o.o;have:=q.o;have:=r.o;simp only[List.length_append];omega);have G:=ki (show Z1.length<=1000000 by have:=l.o;omega);have H:=ki (show(Z1++Z2).length<=1000000 by have:=l.o;have:=o.o;rw[List.length_append];omega);have I:=ki (show((Z1++Z2)++Z3).length<=1000000 by have:=l.o;have:=o.o;have:=q.o;simp only[List.length_append];omega);clear h6 hr l o q r;go_enter func211,ntmps211;go_upto_region 1 with fail
 generalize w.alloc (.cells (aA z a len cap) 39)=W at n f⊢;have J:=f.o.c1;have K:=f.o.c2;go_upto_region 2 with(go_at_call 209;refine(s.o W _ _ _ [] ((bN.nil W).below (au _ _)) (pq W _ _) (by simp)).mono ?_;rintro e L ⟨Y,rfl,b⟩;rw[List.nil_append] at b;replace b:=ki b;clear J K)
 have p:=ki (f.o.kept b.o.2);have M:=p.o.c0;have N:=p.o.c3;have O:=p.o.c4;go_upto_region 4 with(go_at_call 209;refine(t.o W _ _ _ _ (b.o.below (au _ _)) (pq L _ _) G.o).mono ?_;rintro e P ⟨Z,rfl,g⟩;replace g:=ki g;clear M N O)
 have A:=ki (f.o.kept g.o.2);have Q:=A.o.c5;go_upto_region 5 with(go_at_call 209;refine(x.o W _ _ _ _ (g.o.below (au _ _)) (pq P _ _) H.o).mono ?_;rintro e R ⟨v3,rfl,h⟩;replace h:=ki h;clear Q)
 have C:=ki (f.o.kept h.o.2);have S:=C.o.c6;go_upto_region 7 with(go_at_call 209;refine(y.o W _ _ _ _ (h.o.below (au _ _)) (Ls R _ _ _) I.o).mono ?_;rintro e w4 ⟨v4,rfl,d⟩;replace d:=ki d;clear S)
 have D:=ki (f.o.kept d.o.2);have T:=D.o.c7;go_wp2_with (at_builtin;refine gF rfl (.tmp 40) (.tmp 42) rfl rfl d.o rfl ((E.o.below n.o).below d.o.2) F.o ?_;intro V w5 i;replace i:=ki i;clear T)
 go_ret;exact⟨V,rfl,k.o ▸ i.o.1.mono n.o.size,n.o.trans (i.o.2.mono n.o.size)⟩
theorem Lx(z:List Int)(a:Option Addr)(len cap:Nat)(data:List Int)(w:World)(h6:¬el z 0=6)(hl:len<=300)(hr:aj w a len cap data): Calls prog 211 #[.agg (aA z a len cap)] w fun e w'=>∃v,e=.returned v∧Own w.heap.size w' v (ub z data)∧Below w.heap.size w w':=by
 have i:=ki (au w (.cells (aA z a len cap) 39));have k:=ki (gG w z a len cap);have o:=ki (show ub z data=(bD 2 [el z 1,el z 2] 2++bD 2 [8+(len:Int),0] 2)++data by rw[<-hr.1];exact if_neg h6);have t:=ki (fun W0 W B v zs hg hi hz=>wF W0 v zs (el z 1) (el z 2) B W hg hi hz);have x:=ki (fun W0 W B v zs hg hi hz=>wF W0 v zs (8+(len:Int)) 0 B W hg hi hz);have p:=ki (kr 2 [el z 1,el z 2] 2);have r:=ki (kr 2 [8+(len:Int),0] 2);generalize ub z data=U at o⊢;generalize bD 2 [el z 1,el z 2] 2=Z1 at o t p;generalize bD 2 [8+(len:Int),0] 2=Z2 at o x r;have L:(el z 0 == 6)=false:=by simpa using h6
 have y:=ki (fun W=>qE (el z 0) W);rw[show hn (el z 0)=8 by unfold hn;rw[if_neg h6]] at y;have E:=ki hr;have F:=ki (show(Z1++Z2).length+len<=1000000000 by have:=p.o;have:=r.o;simp only[List.length_append];omega);have G:=ki (show Z1.length<=1000000 by have:=p.o;omega);have M:IntKind.i64.wrap (8+(len:Int))=8+(len:Int):=by rw[IntKind.wrap_i64];omega
 clear h6 hr p r;go_enter func211,ntmps211;go_upto_region 1 with fail
 generalize w.alloc (.cells (aA z a len cap) 39)=W at i k⊢;have H:=k.o.c1;have I:=k.o.c2;go_upto_region 2 with(go_at_call 209;refine(t.o W _ _ _ [] ((bN.nil W).below (au _ _)) (pq W _ _) (by simp)).mono ?_;rintro e b ⟨N,rfl,d⟩;rw[List.nil_append] at d;replace d:=ki d;clear H I)
 have l:=ki (k.o.kept d.o.2);have J:=l.o.c0;have s:=l.o.c7;go_upto_region 6 with fail
 have hd:Below b.heap.size b b.drew:=(Below.refl b.heap.size b).drew;have n:Below b.heap.size b (b.drew.alloc (.cells #[.int .i64 (8+(len:Int)),.int .i64 0] 3)):=bt hd (au b.drew _);have HI:=ki (show Ints b.heap.size [8+(len:Int),0] (b.drew.alloc (.cells #[.int .i64 (8+(len:Int)),.int .i64 0] 3)) from pq b.drew _ _);have A:=ki (d.o.below n);have C:=ki (fun w' (h:aG w.heap.size z a len cap w')=>show w'.cell? ⟨w.heap.size,0,none⟩=some (.int .i64 (el z 0))∧w'.cell? ⟨w.heap.size,7,none⟩=some (.slice a len cap) from⟨h.c0,h.c7⟩);have D:=ki (l.o.kept hd);clear hd n;go_region_held3 (fun w'=>w'.cell? ⟨w.heap.size,0,none⟩=some (.int .i64 (el z 0))∧w'.cell? ⟨w.heap.size,7,none⟩=some (.slice a len cap))
  (first
   | go_keep
   | exact C.o _ D.o
   | exact C.o _ q.o)
  (first|(go_at_call 208;refine(y.o _).mono ?_;rintro e w' ⟨rfl,rfl⟩)|(go_at_call 209;refine(x.o W _ _ _ _ A.o HI.o G.o).mono ?_;rintro e O ⟨P,rfl,f⟩;have q:=ki (k.o.kept f.2);replace f:=ki f))
 clear J s;have s:=q.o.c7;go_wp2_with (at_builtin;refine gF rfl (.tmp 40) (.tmp 42) rfl rfl f.o rfl ((E.o.below i.o).below f.o.2) F.o ?_;intro K Q g;replace g:=ki g;clear s)
 go_ret;exact⟨K,rfl,o.o ▸ g.o.1.mono i.o.size,i.o.trans (g.o.2.mono i.o.size)⟩
end
section
attribute [local go_sem ↓] Go.wp_at_zero Go.wp_at_succ
theorem Own.set{base:Nat}{w:World}{g n c:Nat}{zs:List Int}(h:Own base w (.slice (some ⟨g,0,none⟩) n c) zs)(j:Nat)(v:Int)(hv:0<=v∧v<=255):Own base (w.setCell ⟨g,j,none⟩ (.int .u8 v)) (.slice (some ⟨g,0,none⟩) n c) (zs.set j v):=by
 refine⟨SM.zG _ h.1 j v hv.1 hv.2,by simp,?_⟩;rcases h.2.2 with⟨e,_⟩|⟨g',cap,cur,e,hb,hg,h1,h2,h3,h4⟩
 ·cases e
 ·injection e with e1 e2 e3
  cases e1;subst e3;refine .inr ⟨g,c,cur.setIfInBounds j (.int .u8 v),by rw[e2,List.length_set],hb,?_,by rw[List.length_set];exact h1,h2,by simpa using h3,?_⟩
  ·rw[setCell_eq_setRow w g j _ 5 (0,0) (.int .u8 v) hg,setRow_heap w g _ _ 5 (0,0) hg]
  ·rw[List.length_set,Array.toList_setIfInBounds,List.map_set,<-h4,List.take_set]
theorem Own.cell{base:Nat}{w:World}{g n c:Nat}{zs:List Int}(h:Own base w (.slice (some ⟨g,0,none⟩) n c) zs)(j:Nat)(hj:j<n):w.cell? ⟨g,j,none⟩=some (.int .u8 (zs.getD j 0))∧w.frozen? ⟨g,j,none⟩=false:=by
 constructor
 ·obtain⟨_,_,_,_,a⟩:=h.mW;obtain⟨b,o,e,hc⟩:=a (by omega);cases e;have:=hc j hj;rwa [Nat.zero_add] at this
 ·rcases h.2.2 with⟨e,_⟩|⟨g',cap,cur,e,hb,hg,h1,h2,h3,h4⟩
  ·cases e
  ·injection e with e1 e2 e3
   cases e1;simp[World.frozen?,hg]
def mZ(k over T:Int):Int:=if k=17∧SM.fold (over+T)=65535 then 65535 else 65535-SM.fold (over+T)
theorem LA(k over T:Int)(h0:0<=over)(h1:0<=T):0<=mZ k over T∧mZ k over T<=65535:=by have:=SM.nQ (over+T) (by omega);unfold mZ;split<;>omega
theorem LB(k over:Int)(a:Option Addr)(n cap:Nat)(zs:List Int)(w:World)(hr:aj w a n cap zs)(hn:n<=2000)(ho:up 65535 over=true): Calls prog 212 #[.int .i64 k,.slice a n cap,.int .i64 over] w fun e w'=>e=.returned (.tuple #[.int .i64 (mZ k over (SM.fold (SM.tot zs n))),.nilIface])∧Below w.heap.size w w':=by
 obtain⟨p,q⟩:=d9 ho;have r:=SM.nQ (SM.tot zs n) (SM.lV zs hr.2.2.1 n).1;have g:=ki (fun W (h:aj W a n cap zs)=>zL a n cap zs W h hn);have o:=ki hr;clear hr ho;generalize SM.fold (SM.tot zs n)=T at r g⊢;have d:=ki (fun W=>Le over T W ⟨⟨p,q⟩,r⟩);have s:=SM.nQ (over+T) (by omega);obtain⟨C,hC⟩:∃C,C=mZ k over T:=⟨_,rfl⟩;rw[<-hC];unfold mZ at hC;generalize SM.fold (over+T)=S at s d hC;have i:=ki (fun W=>DY S W s);by_cases hk:k=17
 ·have x:(k == 17)=true:=by simpa using hk
  by_cases hs:S=65535
  ·have es:(S == 65535)=true:=by simpa using hs
   have l:=ki (show C=65535 by rw[hC,if_pos ⟨hk,hs⟩]);clear hC hk hs;go_enter func212,ntmps212;go_wp2_with (first|(go_at_call 244;refine(g.o _ o.o).mono ?_;rintro e t ⟨rfl,rfl⟩)|(go_at_call 258;refine(d.o _).mono ?_;rintro e v ⟨rfl,b⟩;replace b:=ki b))
   go_ret2;exact⟨by rw[l.o];rfl,b.o⟩
  ·have es:(S == 65535)=false:=by simpa using hs
   have l:=ki (show C=65535-S by rw[hC,if_neg (fun h=>hs h.2)]);clear hC hk hs;go_enter func212,ntmps212;go_wp2_with (first|(go_at_call 244;refine(g.o _ o.o).mono ?_;rintro e t ⟨rfl,rfl⟩)|(go_at_call 258;refine(d.o _).mono ?_;rintro e v ⟨rfl,b⟩;replace b:=ki b)|(go_at_call 259;refine(i.o _).mono ?_;rintro e y ⟨rfl,f⟩;replace b:=ki (bt b.o f);clear f))
   go_ret2;exact⟨by rw[l.o];rfl,b.o⟩
 ·have x:(k == 17)=false:=by simpa using hk
  have l:=ki (show C=65535-S by rw[hC,if_neg (fun h=>hk h.1)]);clear hC hk;go_enter func212,ntmps212;go_wp2_with (first|(go_at_call 244;refine(g.o _ o.o).mono ?_;rintro e t ⟨rfl,rfl⟩)|(go_at_call 258;refine(d.o _).mono ?_;rintro e v ⟨rfl,b⟩;replace b:=ki b)|(go_at_call 259;refine(i.o _).mono ?_;rintro e y ⟨rfl,f⟩;replace b:=ki (bt b.o f);clear f))
  go_ret2;exact⟨by rw[l.o];rfl,b.o⟩
def bV(z:List Int)(over:Int)(data:List Int):Int:=mZ (el z 0) over (SM.fold (SM.tot (ub z data) (ub z data).length))
theorem pz(n:Nat)(l:List Int)(k:Nat):SM.Oct (bD n l k):=by
 induction k with
 | zero=>exact SM.kZ
 | succ k ih=>exact SM.jl _ _ ih (Lg n _)
theorem Ea(z data:List Int)(h:SM.Oct data):SM.Oct (ub z data):=by
 unfold ub;split
 ·exact SM.jl _ _ (SM.jl _ _ (SM.jl _ _ (SM.jl _ _ (pz _ _ _) (pz _ _ _)) (pz _ _ _)) (pz _ _ _)) h
 ·exact SM.jl _ _ (SM.jl _ _ (pz _ _ _) (pz _ _ _)) h
theorem uy(z:List Int)(over:Int)(data:List Int)(h:SM.Oct data)(ho:up 65535 over=true):0<=bV z over data∧bV z over data<=65535 :=
 LA _ _ _ (d9 ho).1 (SM.nQ _ (SM.lV _ (Ea z data h) _).1).1
theorem zU(z data:List Int):(ub z data).length=hn (el z 0)+data.length:=by unfold ub hn;split<;>simp only[List.length_append,kr]
theorem LC(z:List Int)(a:Option Addr)(len cap:Nat)(data:List Int)(w:World)(hl:len<=300)(hr:aj w a len cap data): Calls prog 211 #[.agg (aA z a len cap)] w fun e w'=>∃v,e=.returned v∧Own w.heap.size w' v (ub z data)∧Below w.heap.size w w':=by
 by_cases h6:el z 0=6
 ·exact Lu z a len cap data w h6 hl hr
 ·exact Lx z a len cap data w h6 hl hr
def eb(z:List Int)(over:Int)(data:List Int):List Int:=((ub z data).set (cn (el z 0)) (bV z over data/256)).set (cn (el z 0)+1) (bV z over data%256)
theorem wK(z:List Int)(over:Int)(data:List Int):(eb z over data).length=hn (el z 0)+data.length:=by unfold eb;rw[List.length_set,List.length_set,zU]
theorem LD(k:Int):cn k+1<hn k:=by unfold cn hn;split<;>omega
theorem lZ(k:Int):hn k<=20:=by unfold hn;split<;>omega
theorem LG(z:List Int)(len:Nat)(h:sf z len=0):len<=300:=by
 unfold sf at h;rcases Nat.lt_or_ge 300 len with h3|h3
 ·exfalso;rw[if_pos h3] at h;split at h
  ·cases h
  ·split at h<;>split at h<;>cases h
 ·exact h3
theorem LH(z:List Int)(a:Option Addr)(len cap:Nat)(over:Int)(w:World)(hm:len<=maxLen)(n:Int)(hz:sf z len=n)(hn0:n≠0): Calls prog 150 #[.agg (aA z a len cap),.int .i64 over] w fun e w'=>e=.returned (.tuple #[.slice none 0 0,err n])∧Below w.heap.size w w':=by
 have b:=ki (au w (.cells (aA z a len cap) 39));have g:=ki (gG w z a len cap);have f:=ki (fun W=>wJ z a len cap W hm);rw[hz,show ev n=err n from if_neg hn0] at f;unfold err at f⊢;clear hz hn0;go_enter func150,ntmps150;go_upto_region 1 with fail
 generalize w.alloc (.cells (aA z a len cap) 39)=W at b g⊢;go_wp2_with (first|(refine bB rfl (.tmp 2) rfl rfl g.o ?_)|(go_at_call 207;refine(f.o _).mono ?_;rintro e h ⟨rfl,d⟩;replace b:=ki (bt b.o d);clear d))
 go_ret2;exact⟨rfl,b.o⟩
theorem Eb(z:List Int)(a:Option Addr)(len cap:Nat)(over:Int)(data:List Int)(w:World)(hz:sf z len=0)(ho:up 65535 over=true)(hr:aj w a len cap data): Calls prog 150 #[.agg (aA z a len cap),.int .i64 over] w fun e w'=>∃v,e=.returned (.tuple #[v,.nilIface])∧Own w.heap.size w' v (eb z over data)∧Below w.heap.size w w':=by
 have d:=ki (au w (.cells (aA z a len cap) 39));have b:=ki (gG w z a len cap);have E:=ki (fun W=>wJ z a len cap W hr.2.1);rw[hz,show ev 0=.nilIface from rfl] at E;have F:=LG z len hz;have Q:=ki hr;have G:=ki (fun W h=>LC z a len cap data W F h);have l:=ki (show eb z over data=((ub z data).set (cn (el z 0)) (bV z over data/256)).set (cn (el z 0)+1) (bV z over data%256) from rfl);have n:=zU z data;have J:=LD (el z 0);have hh:=lZ (el z 0);have o:=ki (fun W=>zO (el z 0) W);obtain⟨N,hN⟩:∃N,N=(ub z data).length:=⟨_,rfl⟩;have K:N<=2000:=by rw[hN,n,hr.1];omega
 have t:cn (el z 0)+1<N:=by rw[hN,n];omega
 have g:=ki (fun W a c (h:aj W a N c (ub z data))=>LB (el z 0) over a N c (ub z data) W h K ho);have x:bV z over data=mZ (el z 0) over (SM.fold (SM.tot (ub z data) N)):=by rw[hN];rfl
 rw[<-x] at g;have y:=uy z over data hr.2.2.1 ho;have H:=ki hN.symm;have R:IntKind.u8.wrap (bV z over data/256)=bV z over data/256:=by rw[IntKind.wrap_u8];omega
 have S:IntKind.u8.wrap (bV z over data)=bV z over data%256:=by rw[IntKind.wrap_u8]
 have A:=ki (show 0<=bV z over data/256∧bV z over data/256<=255 by omega);have B:=ki (show 0<=bV z over data%256∧bV z over data%256<=255 by omega);generalize eb z over data=LJ at l⊢;generalize bV z over data=C at l g y R S A B;generalize ub z data=U at G l g H;generalize cn (el z 0)=at_ at t o l;obtain⟨T,V⟩:=y;clear x hN n J hh hr hz;go_enter func150,ntmps150;go_upto_region 1 with fail
 generalize w.alloc (.cells (aA z a len cap) 39)=W at d b⊢;go_upto_region 4 with(first|(refine bB rfl (.tmp 2) rfl rfl b.o ?_)|(go_at_call 207;refine(E.o _).mono ?_;rintro e w1 ⟨rfl,p⟩;replace d:=ki (bt d.o p);replace b:=ki (b.o.kept p);clear p))
 go_upto_region 6 with(go_at_call 210;(with_reducible refine(uw _ _ _).mono ?_);rintro e w2 ⟨rfl,q⟩;replace d:=ki (bt d.o q);replace b:=ki (b.o.kept q);clear q)
 go_upto_region 7 with(first|(refine bB rfl (.tmp 2) rfl rfl b.o ?_)|(go_at_call 211;refine(G.o _ (Q.o.below d.o)).mono ?_;rintro e w3 ⟨v3,rfl,f,r⟩;replace f:=f.mono d.o.size;replace d:=ki (bt d.o r);replace b:=ki (b.o.kept r);clear r))
 obtain⟨L,c3,D,M,X,s,-,i⟩:=f.form (by rw[H.o];omega);rw[H.o] at D M i;subst D;replace f:=ki f;have I:=b.o.c0;replace i:=ki i;go_upto_region 10 with(go_at_call 212;refine(g.o _ _ _ i.o).mono ?_;rintro e w4 ⟨rfl,k⟩;replace d:=ki (bt d.o k);replace b:=ki (b.o.kept k);replace f:=ki (f.o.kept k);clear k I)
 have I:=b.o.c0;go_upto_region 11 with(go_at_call 213;refine(o.o _).mono ?_;rintro e Y ⟨rfl,rfl⟩)
 clear I o g G E;obtain⟨Z,f1⟩:=f.o.cell at_ (by omega);obtain⟨x2,f2⟩:=f.o.cell (at_+1) t;have O:=ki ((f.o.set at_ (C/256) A.o).set (at_+1) (C%256) B.o);have P:=ki (show Below w.heap.size w ((Y.setCell ⟨L,at_,none⟩ (.int .u8 (C/256))).setCell ⟨L,at_+1,none⟩ (.int .u8 (C%256))) from(d.o.setCell s _).setCell s _);generalize U.getD at_ 0=y1 at Z;generalize U.getD (at_+1) 0=y2 at x2;have i1:(at_:Int)<(N:Int):=by omega
 have i2:(at_:Int)+1<(N:Int):=by omega
 clear b d f i;go_wp2;go_ret2;exact⟨_,rfl,l.o ▸ O.o,P.o⟩
end
section
variable {z:List Int}{B:Nat}{a:Option Addr}{w:World}
attribute [local go_sem ↓] Go.wp_at_zero Go.wp_at_succ
theorem uz(a x:Nat)(ha:a<16777216)(hx:x<=255):bits .or .i64 ((a*256:Nat):Int) (x:Int)=((a*256+x:Nat):Int):=by
 have d:(BitVec.ofInt 64 ((a*256:Nat):Int)).toNat=a*256:=by rw[BitVec.toNat_ofInt];omega
 have e:(BitVec.ofInt 64 ((x:Nat):Int)).toNat=x:=by rw[BitVec.toNat_ofInt];omega
 have b:(BitVec.ofInt 64 ((a*256:Nat):Int) ||| BitVec.ofInt 64 ((x:Nat):Int)).toNat=a*256+x:=by rw[BitVec.toNat_or,d,e];have:=Nat.shiftLeft_add_eq_or_of_lt (show x<2 ^ 8 by omega) a;rw[Nat.shiftLeft_eq] at this;exact this.symm
 show IntKind.i64.wrap (((BitVec.ofInt 64 ((a*256:Nat):Int) ||| BitVec.ofInt 64 ((x:Nat):Int)).toNat:Nat):Int)=_;rw[b,IntKind.wrap_i64];omega
theorem pE(a x:Int)(ha:0<=a)(ha2:a<16777216)(hx:0<=x)(hx2:x<256):bits .or .i64 (a*256) x=a*256+x:=by obtain⟨m,rfl⟩:=Int.eq_ofNat_of_zero_le ha;obtain⟨k,rfl⟩:=Int.eq_ofNat_of_zero_le hx;have:=uz m k (by omega) (by omega);rw[show((m*256:Nat):Int)=(m:Int)*256 by omega,show((m*256+k:Nat):Int)=(m:Int)*256+(k:Int) by omega] at this;exact this
def num(zs:List Int):Nat->Int
 | 0=>0
 | k+1=>num zs k*256+zs.getD k 0
theorem zV(zs:List Int)(h:SM.Oct zs)(k:Nat)(hk:k<4):0<=num zs k∧num zs k<16777216:=by have a:=h 0;have b:=h 1;have d:=h 2;rcases (by omega:k=0∨k=1∨k=2∨k=3) with rfl|rfl|rfl|rfl<;>simp only[num]<;>omega
theorem zW(a:Option Addr)(len cap:Nat)(zs:List Int)(w:World)(hl:len<=4)(hp:0<len)(w0:aj w a len cap zs)(r:Int)(hr:num zs len=r): Calls prog 290 #[.slice a len cap] w fun e w'=>e=.returned (.int .i64 r)∧w'=w:=by
 obtain⟨q,s,d,_,g⟩:=w0;obtain⟨b,p,rfl,f⟩:=g hp;have o:=ki hr;clear g hr;go_enter func290,ntmps290;go_wp2;go_loop [3,8] (fun t i=>∃k:Nat,k<=len∧t=.int .i64 (num zs k)∧i=.int .i64 k) (fun _ i=>len-(intOf i).toNat)
 case atStart=>exact⟨0,by omega,rfl,rfl⟩
 case round =>
  obtain⟨k,v,rfl,rfl⟩:=hrel;by_cases hlt:k<len
  ·have hb:=zV zs d k (by omega);have n:=f k hlt;have h:=d k;clear f;have l:=ki (show num zs (k+1)=num zs k*256+zs.getD k 0 from rfl);clear d;generalize zs.getD k 0=z at n h l;generalize num zs k=t at hb l⊢;have x:=pE t z hb.1 hb.2 h.1 (by omega);go_wp2;go_round
   case rel=>exact⟨k+1,by omega,by rw[l.o],by go_num⟩
   case measure=>simp[intOf];omega
  ·obtain rfl:k=len:=by omega
   go_wp2;go_ret;exact⟨by rw[o.o];rfl,rfl⟩
theorem zX(xs ys:List Int)(n:Nat)(h:∀j,j<n->xs.getD j 0=ys.getD j 0):num xs n=num ys n:=by
 induction n with
 | zero=>rfl
 | succ n ih=>simp only[num];rw[ih (fun j hj=>h j (by omega)),h n (by omega)]
theorem qF(g off len cap:Nat)(zs:List Int)(w:World)(j n c:Nat)(hr:aj w (some ⟨g,off,none⟩) len cap zs)(h1:j+n<=len)(h2:n<=4)(h3:0<n): Calls prog 290 #[.slice (some ⟨g,off+j,none⟩) n c] w fun e w'=>e=.returned (.int .i64 (num (zs.drop j) n))∧w'=w:=by have h:=hr.part j (j+n) (by omega) h1 (some ⟨g,off+j,none⟩) c (fun b o _ e=>by cases e;rfl) (fun e=>by cases e);rw[show j+n-j=n by omega] at h;exact zW _ n c _ w h2 h3 h _ (zX _ _ n fun i hi=>P4.getD_take hi)
theorem Ec(g off len cap:Nat)(zs:List Int)(w:World)(n c:Nat)(hr:aj w (some ⟨g,off,none⟩) len cap zs)(h1:n<=len)(h2:n<=4)(h3:0<n): Calls prog 290 #[.slice (some ⟨g,off,none⟩) n c] w fun e w'=>e=.returned (.int .i64 (num zs n))∧w'=w:=by have:=qF g off len cap zs w 0 n c hr (by omega) h2 h3;exact this
theorem aG.ne{len cap:Nat}(h:aG B z a len cap w){base:Nat}{v:Value}{zs:List Int}(o:Own base w v zs):v.ownBlock≠some B:=by
 intro e;rcases o.2.2 with⟨rfl,_⟩|⟨g,cap,cur,rfl,_,hg,_⟩
 ·cases e
 ·have:g=B:=by simpa [Value.ownBlock] using e
  subst this;unfold aG at h;rw[h] at hg;injection hg with hg
  injection hg with _ hg
  cases hg
theorem Own.only{base:Nat}{w':World}(h:Only B w w'){v:Value}{zs:List Int}(o:Own base w v zs)(hB:v.ownBlock≠some B):Own base w' v zs:=by
 refine⟨o.1,o.2.1,?_⟩;rcases o.2.2 with h2|⟨g,cap,cur,rfl,hb',hg,rest⟩
 ·exact .inl h2
 ·exact .inr ⟨g,cap,cur,rfl,hb',by rw[h.2.2.2.2 g (fun e=>hB (by rw[e];rfl))];exact hg,rest⟩
theorem Ed(w:World)(B j:Nat)(cs:Array Value)(t:TypeId)(v:Value)(h:w.heap[B]? = some (.cells cs t (0,0))):Only B w (w.setCell ⟨B,j,none⟩ v):=by rw[setCell_eq_setRow w B j cs t (0,0) v h];exact dS _ _ _
def Rd(w:World)(B:Nat)(z:List Int)(a:Option Addr)(n c:Nat)(D:List Int)(W:World):Prop:=aG B z a n c W∧Own w.heap.size W (.slice a n c) D∧aG w.heap.size [] none 0 0 W∧w.heap.size≠B∧w.heap.size<=B∧Below w.heap.size w W
theorem Rd.only{n c:Nat}{D:List Int}{W W':World}(h:Rd w B z a n c D W)(z':List Int)(ho:Only B W W')(hs:aG B z' a n c W'):Rd w B z' a n c D W' :=
 ⟨hs,h.2.1.only ho (h.1.ne h.2.1),ho.sg h.2.2.1 h.2.2.2.1,h.2.2.2.1,h.2.2.2.2.1,ho.below h.2.2.2.2.2 h.2.2.2.2.1⟩
theorem Rd.set{n c:Nat}{D:List Int}{W:World}(h:Rd w B z a n c D W)(j:Nat)(x:Int)(z':List Int)(hz:(aA z a n c).setIfInBounds j (.int .i64 x)=aA z' a n c):Rd w B z' a n c D (W.setCell ⟨B,j,none⟩ (.int .i64 x)):=by refine h.only z' (Ed _ _ _ _ _ _ h.1) ?_;have:=nR W B j _ _ (.int .i64 x) h.1;rw[hz] at this;exact this
theorem aG.aZ{len cap:Nat}(p:aG B z a len cap w)(j:Nat):w.frozen? ⟨B,j,none⟩=false:=by unfold aG at p;simp[World.frozen?,p]
theorem aG.wL{z0:List Int}{a0:Option Addr}{fU cap0:Nat}(p:aG B z0 a0 fU cap0 w)(k f t:Int)(a:Option Addr)(len cap:Nat): ∃w',(wH (.pointer (some ⟨B,0,none⟩)) (.agg #[.int .i64 k,.int .i64 f,.int .i64 t,.int .i64 0,.int .i64 0,.int .i64 0,.int .i64 0,.slice a len cap])).run prog w=.ok () w'∧aG B [k,f,t,0,0,0,0] a len cap w'∧Only B w w':=p.held [k,f,t,0,0,0,0] a len cap
def aN:Array Value:=#[.int .i64 0,.int .i64 0,.int .i64 0,.int .i64 0,.int .i64 0,.int .i64 0,.int .i64 0,.slice none 0 0]
theorem bR(w:World):aG w.heap.size [] none 0 0 (w.alloc (.cells aN 39)):=gG w [] none 0 0
attribute [local go_sem ↓] wI
theorem LK(k:Int)(g off len cap:Nat)(zs:List Int)(w:World)(hr:aj w (some ⟨g,off,none⟩) len cap zs)(hk:k=6)(hH:20<=len)(hM:len<=320)(hcl:len<=cap)(hcm:cap<=maxLen): Calls prog 246 #[.int .i64 k,.slice (some ⟨g,off,none⟩) len cap] w fun e w'=>∃a' c',e=.returned (.agg (aA [k,num zs 2,num (zs.drop 2) 2,num (zs.drop 4) 4,num (zs.drop 8) 4,num (zs.drop 13) 1,num (zs.drop 14) 2] a' (len-20) c'))∧Own w.heap.size w' (.slice a' (len-20) c') (zs.drop 20)∧Below w.heap.size w w':=by
 unfold maxLen at hcm;have an:(len:Int)<=(cap:Int):=by omega
 have dR:(20:Int)<=(len:Int):=by omega
 have aw:(20:Int)<=(cap:Int):=by omega
 have ax:(2:Int)<=(cap:Int):=by omega
 have dO:(4:Int)<=(cap:Int):=by omega
 have az:cap≠2:=by omega
 have D:Below w.heap.size w (w.alloc (.cells aN 39)).drew:=((Below.refl _ _).alloc (Nat.le_refl _) _).drew;have l:=ki (hr.below D);have E:=ki (show aG w.heap.size [] none 0 0 (w.alloc (.cells aN 39)).drew from bR w);have F:Below (w.alloc (.cells aN 39)).drew.heap.size (w.alloc (.cells aN 39)).drew ((w.alloc (.cells aN 39)).alloc (.cells aN 39)).drew:=au (w.alloc (.cells aN 39)).drew (.cells aN 39);have r:=ki D;have s:=ki (bt D F);have t:=ki (l.o.below F);have G:=ki (E.o.kept F);have H:=ki (show aG (w.heap.size+1) [] none 0 0 ((w.alloc (.cells aN 39)).alloc (.cells aN 39)).drew by have:=bR (w.alloc (.cells aN 39)).drew;rw[show(w.alloc (.cells aN 39)).drew.heap.size=w.heap.size+1 by simp] at this;exact this);have S:=ki (fun n c W (h:aj W (some ⟨g,off,none⟩) len cap zs) h1 h2 h3=>Ec g off len cap zs W n c h h1 h2 h3);have P:=ki (fun j n c W (h:aj W (some ⟨g,off,none⟩) len cap zs) h1 h2 h3=>qF g off len cap zs W j n c h h1 h2 h3);have T:=ki (fun c W (h:aj W (some ⟨g,off,none⟩) len cap zs)=>qF g off len cap zs W 2 2 c h (by omega) (by omega) (by omega));have Z:=ki (fun W=>qE k W);rw[show hn k=20 by unfold hn;rw[if_pos hk]] at Z;have I:∃ad,(if cap=20 then some (⟨g,off,none⟩:Addr) else some ⟨g,off+20,none⟩)=some ad:=by split<;>exact⟨_,rfl⟩
 have p:=fun W (h:aj W (some ⟨g,off,none⟩) len cap zs)=>(h.part 20 len hH (Nat.le_refl _) (if cap=20 then some ⟨g,off,none⟩ else some ⟨g,off+20,none⟩) (cap-20) (fun b o hlt e=>by cases e;rw[if_neg (by omega)]) (fun e=>by split at e<;>cases e)).congr (show(zs.drop 20).take (len-20)=zs.drop 20 from List.take_of_length_le (by rw[List.length_drop,hr.1];exact Nat.le_refl _))
 obtain⟨ao,hao⟩:∃ao,(if cap=20 then some (⟨g,off,none⟩:Addr) else some ⟨g,off+20,none⟩)=ao:=⟨_,rfl⟩;rw[hao] at p I;have q:=ki p;have J:=ki I;clear p I;have HL:=ki (show([]++zs.drop 20).length=len-20 by rw[List.nil_append,List.length_drop,hr.1]);have K:=ki (show([]:List Int).length+(len-20)<=1000000000 by simp;omega);have z:=ki (show w.heap.size<=(w.alloc (.cells aN 39)).drew.heap.size from r.o.size);have A:=ki s.o.size;have Q:=ki hr;have ek:(k == 6)=true:=by simpa using hk
 clear hr D F hk;unfold aN at l E r s t G H z A;go_enter func246,ntmps246;go_upto_region 1 with fail
 go_cut [5] from 6 to 18 (fun v5 W=>∃B a5 c5,v5=.pointer (some ⟨B,0,none⟩)∧Hid (Rd w B [k,num zs 2,num (zs.drop 2) 2,0,0,0,0] a5 (len-20) c5 (zs.drop 20) W))
 case first =>
  go_region_held3 (fun _=>True)
   (trivial)
   (first|(go_at_call 290;(with_reducible refine(S.o _ _ _ l.o (by omega) (by omega) (by omega)).mono ?_);rintro e w' ⟨rfl,rfl⟩)|(go_at_call 290;(with_reducible refine(S.o _ _ _ t.o (by omega) (by omega) (by omega)).mono ?_);rintro e w' ⟨rfl,rfl⟩)|(go_at_call 290;(with_reducible refine(T.o _ _ l.o).mono ?_);rintro e w' ⟨rfl,rfl⟩)|(go_at_call 290;(with_reducible refine(T.o _ _ t.o).mono ?_);rintro e w' ⟨rfl,rfl⟩)|(go_at_call 208;refine(Z.o _).mono ?_;rintro e w' ⟨rfl,rfl⟩)|(refine lY rfl (.const (.slice none 0 0)) (.tmp 16) rfl w.heap.size _ [] (by rfl) (Own.nil _ _) _ J.o (len-20) (cap-20) _ (len-20) HL.o (by rfl) (q.o _ l.o) K.o z.o ?_;intro a5 c5 R C v;have x:=r.o.grown v r.o.size (fun k h=>by cases h);have d:=E.o.grown v (by intro e;cases e);have y:=au R (.cells #[.int .i64 0,.int .i64 0,.int .i64 0,.int .i64 0,.int .i64 0,.int .i64 0,.int .i64 0,.slice none 0 0] 39);have i:=bR R;unfold aN at i;obtain⟨w6,dB,L,f⟩:=i.wL k (num zs 2) (num (zs.drop 2) 2) a5 (len-20) c5;have a:=ki (show Rd w R.heap.size [k,num zs 2,num (zs.drop 2) 2,0,0,0,0] a5 (len-20) c5 (zs.drop 20) w6 from⟨L,(C.kept y).only f (i.ne (C.kept y)),f.sg (d.kept y) (Nat.ne_of_lt d.lt),Nat.ne_of_lt d.lt,Nat.le_of_lt d.lt,f.below (bt x y) (Nat.le_of_lt d.lt)⟩);clear L f i y d x C v)|(refine lY rfl (.const (.slice none 0 0)) (.tmp 16) rfl w.heap.size _ [] (by rfl) (Own.nil _ _) _ J.o (len-20) (cap-20) _ (len-20) HL.o (by rfl) (q.o _ t.o) K.o A.o ?_;intro a5 c5 R C v;have x:=s.o.grown v s.o.size (fun k h=>by cases h);have d:=G.o.grown v (by intro e;cases e);have i:=H.o.grown v (by intro e;cases e);obtain⟨w6,dB,L,f⟩:=i.wL k (num zs 2) (num (zs.drop 2) 2) a5 (len-20) c5;have a:=ki (show Rd w (w.heap.size+1) [k,num zs 2,num (zs.drop 2) 2,0,0,0,0] a5 (len-20) c5 (zs.drop 20) w6 from⟨L,C.only f (i.ne C),f.sg d (Nat.ne_of_lt (Nat.lt_succ_self _)),Nat.ne_of_lt (Nat.lt_succ_self _),Nat.le_succ _,f.below x (Nat.le_succ _)⟩);clear L f i d x C v))
  all_goals
   go_wp2_with fail
   go_meet
   exact⟨_,_,_,rfl,a⟩
 case rest =>
  obtain⟨B,a5,c5,rfl,a⟩:=hcut;clear l t E G H r s z A J q hao Z;have j8:(8:Int)<=(cap:Int):=by omega
  have a0:(12:Int)<=(cap:Int):=by omega
  have a1:(14:Int)<=(cap:Int):=by omega
  have a2:(16:Int)<=(cap:Int):=by omega
  have k4:cap≠4:=by omega
  have k8:cap≠8:=by omega
  have a3:cap≠13:=by omega
  have a4:cap≠14:=by omega
  go_upto_region 3 with fail
  have x3:=a.o.1.cellAt 3;have y3:=a.o.1.aZ 3;replace x3:_=some (Value.int .i64 0):=x3;have U:=ki (Q.o.below a.o.2.2.2.2.2);go_upto_region 4 with(go_at_call 290;refine(P.o 4 4 _ _ U.o (by omega) (by omega) (by omega)).mono ?_;rintro e w' ⟨rfl,rfl⟩)
  replace a:=ki (a.o.set 3 (num (zs.drop 4) 4) [k,num zs 2,num (zs.drop 2) 2,num (zs.drop 4) 4,0,0,0] rfl);generalize World.setCell _ _ _=W3 at a⊢;clear x3 y3 U;have x4:=a.o.1.cellAt 4;have y4:=a.o.1.aZ 4;replace x4:_=some (Value.int .i64 0):=x4;have V:=ki (Q.o.below a.o.2.2.2.2.2);go_upto_region 5 with(go_at_call 290;refine(P.o 8 4 _ _ V.o (by omega) (by omega) (by omega)).mono ?_;rintro e w' ⟨rfl,rfl⟩)
  replace a:=ki (a.o.set 4 (num (zs.drop 8) 4) [k,num zs 2,num (zs.drop 2) 2,num (zs.drop 4) 4,num (zs.drop 8) 4,0,0] rfl);generalize World.setCell _ _ _=W4 at a⊢;clear x4 y4 V;have x5:=a.o.1.cellAt 5;have jG:=a.o.1.aZ 5;replace x5:_=some (Value.int .i64 0):=x5;have X:=ki (Q.o.below a.o.2.2.2.2.2);go_upto_region 6 with(go_at_call 290;refine(P.o 13 1 _ _ X.o (by omega) (by omega) (by omega)).mono ?_;rintro e w' ⟨rfl,rfl⟩)
  replace a:=ki (a.o.set 5 (num (zs.drop 13) 1) [k,num zs 2,num (zs.drop 2) 2,num (zs.drop 4) 4,num (zs.drop 8) 4,num (zs.drop 13) 1,0] rfl);generalize World.setCell _ _ _=W5 at a⊢;clear x5 jG X;have x6:=a.o.1.cellAt 6;have y6:=a.o.1.aZ 6;replace x6:_=some (Value.int .i64 0):=x6;have Y:=ki (Q.o.below a.o.2.2.2.2.2);go_upto_region 7 with(go_at_call 290;refine(P.o 14 2 _ _ Y.o (by omega) (by omega) (by omega)).mono ?_;rintro e w' ⟨rfl,rfl⟩)
  replace a:=ki (a.o.set 6 (num (zs.drop 14) 2) [k,num zs 2,num (zs.drop 2) 2,num (zs.drop 4) 4,num (zs.drop 8) 4,num (zs.drop 13) 1,num (zs.drop 14) 2] rfl);generalize World.setCell _ _ _=W6 at a⊢;clear x6 y6 Y;have M:=ki (a.o.2.2.2.2.2);have N:=ki (a.o.2.1);have bW:=ki a.o.2.2.1;have am:=ki (a.o.2.2.1.ne a.o.2.1);go_wp2_with (first|(refine bB rfl (.tmp 5) rfl rfl a.o.1 ?_)|(refine aK rfl (.tmp 4) (.tmp 37) rfl rfl bW.o [k,num zs 2,num (zs.drop 2) 2,num (zs.drop 4) 4,num (zs.drop 8) 4,num (zs.drop 13) 1,num (zs.drop 14) 2] a5 (len-20) c5 rfl ?_;intro w7 p7 O;replace M:=ki (O.below M.o (Nat.le_refl _));replace N:=ki (N.o.only O am.o);replace p7:=ki p7;clear O))
  try simp only[Exit.inBlock,Exit.then]
  refine bodyPost_ret (wG rfl _ _ w.heap.size [k,num zs 2,num (zs.drop 2) 2,num (zs.drop 4) 4,num (zs.drop 8) 4,num (zs.drop 13) 1,num (zs.drop 14) 2] a5 (len-20) c5 rfl p7.o) rfl ?_;exact⟨a5,c5,rfl,N.o,M.o⟩
attribute [local go_sem ↓] wI
theorem LM(k:Int)(g off len cap:Nat)(zs:List Int)(w:World)(hr:aj w (some ⟨g,off,none⟩) len cap zs)(hk:¬k=6)(hH:8<=len)(hM:len<=320)(hcl:len<=cap)(hcm:cap<=maxLen): Calls prog 246 #[.int .i64 k,.slice (some ⟨g,off,none⟩) len cap] w fun e w'=>∃a' c',e=.returned (.agg (aA [k,num zs 2,num (zs.drop 2) 2,0,0,0,0] a' (len-8) c'))∧Own w.heap.size w' (.slice a' (len-8) c') (zs.drop 8)∧Below w.heap.size w w':=by
 unfold maxLen at hcm;have aa:(len:Int)<=(cap:Int):=by omega
 have ab:(8:Int)<=(len:Int):=by omega
 have ac:(8:Int)<=(cap:Int):=by omega
 have ae:(2:Int)<=(cap:Int):=by omega
 have af:(4:Int)<=(cap:Int):=by omega
 have ag:cap≠2:=by omega
 have D:Below w.heap.size w (w.alloc (.cells aN 39)).drew:=((Below.refl _ _).alloc (Nat.le_refl _) _).drew;have l:=ki (hr.below D);have E:=ki (show aG w.heap.size [] none 0 0 (w.alloc (.cells aN 39)).drew from bR w);have F:Below (w.alloc (.cells aN 39)).drew.heap.size (w.alloc (.cells aN 39)).drew ((w.alloc (.cells aN 39)).alloc (.cells aN 39)).drew:=au (w.alloc (.cells aN 39)).drew (.cells aN 39);have r:=ki D;have s:=ki (bt D F);have t:=ki (l.o.below F);have G:=ki (E.o.kept F);have H:=ki (show aG (w.heap.size+1) [] none 0 0 ((w.alloc (.cells aN 39)).alloc (.cells aN 39)).drew by have:=bR (w.alloc (.cells aN 39)).drew;rw[show(w.alloc (.cells aN 39)).drew.heap.size=w.heap.size+1 by simp] at this;exact this);have Q:=ki (fun n c W (h:aj W (some ⟨g,off,none⟩) len cap zs) h1 h2 h3=>Ec g off len cap zs W n c h h1 h2 h3);have HN:=ki (fun j n c W (h:aj W (some ⟨g,off,none⟩) len cap zs) h1 h2 h3=>qF g off len cap zs W j n c h h1 h2 h3);have R:=ki (fun c W (h:aj W (some ⟨g,off,none⟩) len cap zs)=>qF g off len cap zs W 2 2 c h (by omega) (by omega) (by omega));have S:=ki (fun W=>qE k W);rw[show hn k=8 by unfold hn;rw[if_neg hk]] at S;have I:∃ad,(if cap=8 then some (⟨g,off,none⟩:Addr) else some ⟨g,off+8,none⟩)=some ad:=by split<;>exact⟨_,rfl⟩
 have p:=fun W (h:aj W (some ⟨g,off,none⟩) len cap zs)=>(h.part 8 len hH (Nat.le_refl _) (if cap=8 then some ⟨g,off,none⟩ else some ⟨g,off+8,none⟩) (cap-8) (fun b o hlt e=>by cases e;rw[if_neg (by omega)]) (fun e=>by split at e<;>cases e)).congr (show(zs.drop 8).take (len-8)=zs.drop 8 from List.take_of_length_le (by rw[List.length_drop,hr.1];exact Nat.le_refl _))
 obtain⟨ao,hao⟩:∃ao,(if cap=8 then some (⟨g,off,none⟩:Addr) else some ⟨g,off+8,none⟩)=ao:=⟨_,rfl⟩;rw[hao] at p I;have q:=ki p;have J:=ki I;clear p I;have V:=ki (show([]++zs.drop 8).length=len-8 by rw[List.nil_append,List.length_drop,hr.1]);have K:=ki (show([]:List Int).length+(len-8)<=1000000000 by simp;omega);have z:=ki (show w.heap.size<=(w.alloc (.cells aN 39)).drew.heap.size from r.o.size);have A:=ki s.o.size;have HR:=ki hr;have ek:(k == 6)=false:=by simpa using hk
 clear hr D F hk;unfold aN at l E r s t G H z A;go_enter func246,ntmps246;go_upto_region 1 with fail
 go_cut [5] from 6 to 18 (fun v5 W=>∃B a5 c5,v5=.pointer (some ⟨B,0,none⟩)∧Hid (Rd w B [k,num zs 2,num (zs.drop 2) 2,0,0,0,0] a5 (len-8) c5 (zs.drop 8) W))
 case first =>
  go_region_held3 (fun _=>True)
   (trivial)
   (first|(go_at_call 290;(with_reducible refine(Q.o _ _ _ l.o (by omega) (by omega) (by omega)).mono ?_);rintro e w' ⟨rfl,rfl⟩)|(go_at_call 290;(with_reducible refine(Q.o _ _ _ t.o (by omega) (by omega) (by omega)).mono ?_);rintro e w' ⟨rfl,rfl⟩)|(go_at_call 290;(with_reducible refine(R.o _ _ l.o).mono ?_);rintro e w' ⟨rfl,rfl⟩)|(go_at_call 290;(with_reducible refine(R.o _ _ t.o).mono ?_);rintro e w' ⟨rfl,rfl⟩)|(go_at_call 208;refine(S.o _).mono ?_;rintro e w' ⟨rfl,rfl⟩)|(refine lY rfl (.const (.slice none 0 0)) (.tmp 16) rfl w.heap.size _ [] (by rfl) (Own.nil _ _) _ J.o (len-8) (cap-8) _ (len-8) V.o (by rfl) (q.o _ l.o) K.o z.o ?_;intro a5 c5 P C v;have x:=r.o.grown v r.o.size (fun k h=>by cases h);have a:=E.o.grown v (by intro e;cases e);have y:=au P (.cells #[.int .i64 0,.int .i64 0,.int .i64 0,.int .i64 0,.int .i64 0,.int .i64 0,.int .i64 0,.slice none 0 0] 39);have i:=bR P;unfold aN at i;obtain⟨T,X,L,d⟩:=i.wL k (num zs 2) (num (zs.drop 2) 2) a5 (len-8) c5;have f:=ki (show Rd w P.heap.size [k,num zs 2,num (zs.drop 2) 2,0,0,0,0] a5 (len-8) c5 (zs.drop 8) T from⟨L,(C.kept y).only d (i.ne (C.kept y)),d.sg (a.kept y) (Nat.ne_of_lt a.lt),Nat.ne_of_lt a.lt,Nat.le_of_lt a.lt,d.below (bt x y) (Nat.le_of_lt a.lt)⟩);clear L d i y a x C v)|(refine lY rfl (.const (.slice none 0 0)) (.tmp 16) rfl w.heap.size _ [] (by rfl) (Own.nil _ _) _ J.o (len-8) (cap-8) _ (len-8) V.o (by rfl) (q.o _ t.o) K.o A.o ?_;intro a5 c5 P C v;have x:=s.o.grown v s.o.size (fun k h=>by cases h);have a:=G.o.grown v (by intro e;cases e);have i:=H.o.grown v (by intro e;cases e);obtain⟨T,X,L,d⟩:=i.wL k (num zs 2) (num (zs.drop 2) 2) a5 (len-8) c5;have f:=ki (show Rd w (w.heap.size+1) [k,num zs 2,num (zs.drop 2) 2,0,0,0,0] a5 (len-8) c5 (zs.drop 8) T from⟨L,C.only d (i.ne C),d.sg a (Nat.ne_of_lt (Nat.lt_succ_self _)),Nat.ne_of_lt (Nat.lt_succ_self _),Nat.le_succ _,d.below x (Nat.le_succ _)⟩);clear L d i a x C v))
  all_goals
   go_wp2_with fail
   go_meet
   exact⟨_,_,_,rfl,f⟩
 case rest =>
  obtain⟨B,a5,c5,rfl,f⟩:=hcut;clear l t E G H r s z A J q hao S;have M:=ki (f.o.2.2.2.2.2);have N:=ki (f.o.2.1);have Y:=ki f.o.2.2.1;have Z:=ki (f.o.2.2.1.ne f.o.2.1);go_wp2_with (first|(refine bB rfl (.tmp 5) rfl rfl f.o.1 ?_)|(refine aK rfl (.tmp 4) (.tmp 37) rfl rfl Y.o [k,num zs 2,num (zs.drop 2) 2,0,0,0,0] a5 (len-8) c5 rfl ?_;intro w7 U O;replace M:=ki (O.below M.o (Nat.le_refl _));replace N:=ki (N.o.only O Z.o);replace U:=ki U;clear O))
  try simp only[Exit.inBlock,Exit.then]
  refine bodyPost_ret (wG rfl _ _ w.heap.size [k,num zs 2,num (zs.drop 2) 2,0,0,0,0] a5 (len-8) c5 rfl U.o) rfl ?_;exact⟨a5,c5,rfl,N.o,M.o⟩
end
end Go.Proofs.YtgcojnlngchllaaGreatDoor
