/- Package seg: Check, by a contract. Package seg: unchecked and checkOf, by contracts. Package seg: checkOf and Encode, by contracts. -/
import Derived.Test.YtgcojnlngchllaaGreatDoorK02
namespace Go.Proofs.YtgcojnlngchllaaGreatDoor
open Go.RowKit
set_option linter.unusedVariables false
set_option maxRecDepth 100000
set_option maxHeartbeats 40000000
section
def sf (z:List Int) (len:Nat):Int :=
 if (kn (el z 0) && ups 65535 [el z 1,el z 2])=false then 1
 else if el z 0=6 then (if os z=false then 1 else if 300 < len then 3 else 0)
 else (if ups 0 [el z 3,el z 4,el z 5,el z 6]=false then 2 else if 300 < len then 3 else 0)
def ev (n:Int):Value:=if n=0 then .nilIface else err n
attribute [local go_sem ↓] gload_shut
theorem chk_any (z:List Int) (a:Option Addr) (len cap:Nat) (w:World) (hm:len≤maxLen) :
  Calls Tryz.prog 207 #[.agg (sgC z a len cap)] w fun e w'=>e=.returned (ev (sf z len))∧Below w.heap.size w w':=by
 unfold maxLen at hm
 have d:=ki (al_below w (.cells (sgC z a len cap) 39))
 have b:=ki (sg_new w z a len cap)
 obtain ⟨E,hE⟩:∃ E,E=ev (sf z len):=⟨_,rfl⟩
 rw[← hE]
 unfold sf at hE
 generalize hk:kn (el z 0)=uk at hE
 generalize hu:ups 65535 [el z 1,el z 2]=u1 at hE
 cases uk
 ·have g:=ki (show E=err 1 from hE)
  clear hE
  unfold err at g
  go_enter Tryz.func207,Tryz.ntmps207
  go_upto_region 1 with fail
  generalize w.alloc (.cells (sgC z a len cap) 39)=W at d b ⊢
  have i:=b.o.c0
  go_wp2_with (go_at_call 245;refine (known_any _ _).mono ?_;rintro e w' ⟨rfl,rfl⟩)
  go_ret
  exact ⟨by rw[g.o];rfl,d.o⟩
 ·cases u1
  ·have g:=ki (show E=err 1 from hE)
   clear hE
   unfold err at g
   go_enter Tryz.func207,Tryz.ntmps207
   go_upto_region 1 with fail
   generalize w.alloc (.cells (sgC z a len cap) 39)=W at d b ⊢
   have i:=b.o.c0
   have o:=b.o.c1
   have p:=b.o.c2
   go_wp2_with (first
    | (go_at_call 245;refine (known_any _ _).mono ?_;rintro e w' ⟨rfl,rfl⟩)
    | (go_at_call 210;(with_reducible refine (upto2b _ _ _ _).mono ?_);rintro e l ⟨rfl,f⟩;replace d:=ki (bt d.o f);clear f i o p))
   go_ret
   exact ⟨by rw[g.o];rfl,d.o⟩
  ·rw[if_neg (by decide)] at hE
   generalize ho:os z=uo at hE
   generalize hn:ups 0 [el z 3,el z 4,el z 5,el z 6]=un at hE
   have k:=ki (fun W=>stream_any z a len cap W)
   rw[ho] at k
   replace hn:=ki hn
   go_enter Tryz.func207,Tryz.ntmps207
   go_upto_region 1 with fail
   generalize w.alloc (.cells (sgC z a len cap) 39)=W at d b ⊢
   have i:=b.o.c0
   have o:=b.o.c1
   have p:=b.o.c2
   go_upto_region 3 with (first
    | (go_at_call 245;refine (known_any _ _).mono ?_;rintro e w' ⟨rfl,rfl⟩)
    | (go_at_call 210;(with_reducible refine (upto2b _ _ _ _).mono ?_);rintro e l ⟨rfl,f⟩;replace d:=ki (bt d.o f);replace b:=ki (b.o.kept f);clear f i o p))
   clear hu
   have i:=b.o.c0
   have n:=b.o.gl
   by_cases h6:el z 0=6
   ·rw[if_pos h6] at hE
    have x:(el z 0 == 6)=true:=by simpa using h6
    have y:(el z 0 == 17)=false:=by rw[h6];rfl
    clear h6 hk
    cases uo
    ·have g:=ki (show E=err 1 from hE)
     clear hE
     unfold err at g
     go_wp2_with (go_at_call 257;refine (k.o _).mono ?_;rintro e A ⟨rfl,h⟩;replace d:=ki (bt d.o h);clear h i n)
     go_ret
     exact ⟨by rw[g.o];rfl,d.o⟩
    ·rw[if_neg (by decide)] at hE
     by_cases hl:300 < len
     ·have g:=ki (show E=err 3 by rw[hE,if_pos hl];rfl)
      clear hE
      unfold err at g
      go_wp2_with (go_at_call 257;refine (k.o _).mono ?_;rintro e A ⟨rfl,h⟩;replace d:=ki (bt d.o h);replace b:=ki (b.o.kept h);clear h i n;have i:=b.o.c0;have q:=b.o.c7)
      go_ret
      exact ⟨by rw[g.o];rfl,d.o⟩
     ·have g:=ki (show E=.nilIface by rw[hE,if_neg hl];rfl)
      clear hE
      go_wp2_with (go_at_call 257;refine (k.o _).mono ?_;rintro e A ⟨rfl,h⟩;replace d:=ki (bt d.o h);replace b:=ki (b.o.kept h);clear h i n;have i:=b.o.c0;have q:=b.o.c7)
      go_ret
      exact ⟨by rw[g.o];rfl,d.o⟩
   ·rw[if_neg h6] at hE
    have x:(el z 0 == 6)=false:=by simpa using h6
    have y:(el z 0 == 17)=true:=by unfold kn at hk;rw[x] at hk;simpa using hk
    have r:=b.o.c3
    have s:=b.o.c4
    have t:=b.o.c5
    have v:=b.o.c6
    replace hn:=hn.o
    clear h6 hk n ho k
    cases un
    ·have g:=ki (show E=err 2 from hE)
     clear hE
     unfold err at g
     go_wp2_with (go_at_call 210;(with_reducible refine (upto4b _ _ _ _ _ _).mono ?_);rintro e l ⟨rfl,f⟩;replace d:=ki (bt d.o f);clear f i r s t v)
     go_ret
     exact ⟨by rw[g.o];rfl,d.o⟩
    ·rw[if_neg (by decide)] at hE
     by_cases hl:300 < len
     ·have g:=ki (show E=err 3 by rw[hE,if_pos hl];rfl)
      clear hE
      unfold err at g
      go_wp2_with (go_at_call 210;(with_reducible refine (upto4b _ _ _ _ _ _).mono ?_);rintro e l ⟨rfl,f⟩;replace d:=ki (bt d.o f);replace b:=ki (b.o.kept f);clear f i r s t v;have q:=b.o.c7)
      go_ret
      exact ⟨by rw[g.o];rfl,d.o⟩
     ·have g:=ki (show E=.nilIface by rw[hE,if_neg hl];rfl)
      clear hE
      go_wp2_with (go_at_call 210;(with_reducible refine (upto4b _ _ _ _ _ _).mono ?_);rintro e l ⟨rfl,f⟩;replace d:=ki (bt d.o f);replace b:=ki (b.o.kept f);clear f i r s t v;have q:=b.o.c7)
      go_ret
      exact ⟨by rw[g.o];rfl,d.o⟩
end
section
attribute [local go_sem ↓] Go.wp_at_zero Go.wp_at_succ
theorem write12 (W0:World) (v:Value) (zs:List Int) (x y:Int) (B:Nat) (w:World) (hg:Gr W0 w v zs) (hl:Ints B [x,y] w) (hz:zs.length≤1000000) :
  Calls Tryz.prog 209 #[v,.int .i64 1,.slice (some ⟨B,0,none⟩) 2 2] w fun e w'=>∃ v',e=.returned v'∧Gr W0 w' v' (zs++wsn 1 [x,y] 2) :=
 write_any W0 v zs 1 B 2 [x,y] w hg hl rfl (by omega) (by omega) hz
theorem write23 (W0:World) (v:Value) (zs:List Int) (x y u:Int) (B:Nat) (w:World) (hg:Gr W0 w v zs) (hl:Ints B [x,y,u] w) (hz:zs.length≤1000000) :
  Calls Tryz.prog 209 #[v,.int .i64 2,.slice (some ⟨B,0,none⟩) 3 3] w fun e w'=>∃ v',e=.returned v'∧Gr W0 w' v' (zs++wsn 2 [x,y,u] 3) :=
 write_any W0 v zs 2 B 3 [x,y,u] w hg hl rfl (by omega) (by omega) hz
theorem ints3 (w:World) (x y u:Int):Ints w.heap.size [x,y,u] (w.alloc (.cells #[.int .i64 x,.int .i64 y,.int .i64 u] 3)):=ints_new w [x,y,u]
def ub (z:List Int) (data:List Int):List Int :=
 if el z 0=6 then (((wsn 2 [el z 1,el z 2] 2++wsn 4 [el z 3,el z 4] 2)++wsn 1 [80,el z 5] 2)++wsn 2 [el z 6,0,0] 3)++data
 else (wsn 2 [el z 1,el z 2] 2++wsn 2 [8+(data.length:Int),0] 2)++data
theorem unc_tcp (z:List Int) (a:Option Addr) (len cap:Nat) (data:List Int) (w:World) (h6:el z 0=6) (hl:len≤300) (hr:Row8 w a len cap data) :
  Calls Tryz.prog 211 #[.agg (sgC z a len cap)] w fun e w'=>∃ v,e=.returned v∧Own w.heap.size w' v (ub z data)∧Below w.heap.size w w':=by
 have n:=ki (al_below w (.cells (sgC z a len cap) 39))
 have f:=ki (sg_new w z a len cap)
 have k:=ki (show ub z data=(((wsn 2 [el z 1,el z 2] 2++wsn 4 [el z 3,el z 4] 2)++wsn 1 [80,el z 5] 2)++wsn 2 [el z 6,0,0] 3)++data from if_pos h6)
 have s:=ki (fun W0 W B v zs hg hi hz=>write22 W0 v zs (el z 1) (el z 2) B W hg hi hz)
 have t:=ki (fun W0 W B v zs hg hi hz=>write24 W0 v zs (el z 3) (el z 4) B W hg hi hz)
 have x:=ki (fun W0 W B v zs hg hi hz=>write12 W0 v zs 80 (el z 5) B W hg hi hz)
 have y:=ki (fun W0 W B v zs hg hi hz=>write23 W0 v zs (el z 6) 0 0 B W hg hi hz)
 have l:=ki (wsn_len 2 [el z 1,el z 2] 2)
 have o:=ki (wsn_len 4 [el z 3,el z 4] 2)
 have q:=ki (wsn_len 1 [80,el z 5] 2)
 have r:=ki (wsn_len 2 [el z 6,0,0] 3)
 generalize ub z data=U at k ⊢
 generalize wsn 2 [el z 1,el z 2] 2=Z1 at k s l
 generalize wsn 4 [el z 3,el z 4] 2=Z2 at k t o
 generalize wsn 1 [80,el z 5] 2=Z3 at k x q
 generalize wsn 2 [el z 6,0,0] 3=Z4 at k y r
 have X:(el z 0 == 6)=true:=by simpa using h6
 have E:=ki hr
 have F:=ki (show (((Z1++Z2)++Z3)++Z4).length+len≤1000000000 by
  have:=l.o;have:=o.o;have:=q.o;have:=r.o
  simp only[List.length_append];omega)
 have G:=ki (show Z1.length≤1000000 by have:=l.o;omega)
 have H:=ki (show (Z1++Z2).length≤1000000 by have:=l.o;have:=o.o;rw[List.length_append];omega)
 have I:=ki (show ((Z1++Z2)++Z3).length≤1000000 by have:=l.o;have:=o.o;have:=q.o;simp only[List.length_append];omega)
 clear h6 hr l o q r
 go_enter Tryz.func211,Tryz.ntmps211
 go_upto_region 1 with fail
 generalize w.alloc (.cells (sgC z a len cap) 39)=W at n f ⊢
 have J:=f.o.c1
 have K:=f.o.c2
 go_upto_region 2 with (go_at_call 209;refine (s.o W _ _ _ [] ((Gr.nil W).below (al_below _ _)) (ints2 W _ _) (by simp)).mono ?_;rintro e L ⟨Y,rfl,b⟩;rw[List.nil_append] at b;replace b:=ki b;clear J K)
 have p:=ki (f.o.kept b.o.2)
 have M:=p.o.c0
 have N:=p.o.c3
 have O:=p.o.c4
 go_upto_region 4 with (go_at_call 209;refine (t.o W _ _ _ _ (b.o.below (al_below _ _)) (ints2 L _ _) G.o).mono ?_;rintro e P ⟨Z,rfl,g⟩;replace g:=ki g;clear M N O)
 have A:=ki (f.o.kept g.o.2)
 have Q:=A.o.c5
 go_upto_region 5 with (go_at_call 209;refine (x.o W _ _ _ _ (g.o.below (al_below _ _)) (ints2 P _ _) H.o).mono ?_;rintro e R ⟨v3,rfl,h⟩;replace h:=ki h;clear Q)
 have C:=ki (f.o.kept h.o.2)
 have S:=C.o.c6
 go_upto_region 7 with (go_at_call 209;refine (y.o W _ _ _ _ (h.o.below (al_below _ _)) (ints3 R _ _ _) I.o).mono ?_;rintro e w4 ⟨v4,rfl,d⟩;replace d:=ki d;clear S)
 have D:=ki (f.o.kept d.o.2)
 have T:=D.o.c7
 go_wp2_with (at_builtin;refine gr_app rfl (.tmp 40) (.tmp 42) rfl rfl d.o rfl ((E.o.below n.o).below d.o.2) F.o ?_;intro V w5 i;replace i:=ki i;clear T)
 go_ret
 exact ⟨V,rfl,k.o ▸ i.o.1.mono n.o.size,n.o.trans (i.o.2.mono n.o.size)⟩
theorem unc_udp (z:List Int) (a:Option Addr) (len cap:Nat) (data:List Int) (w:World) (h6:¬ el z 0=6) (hl:len≤300) (hr:Row8 w a len cap data) :
  Calls Tryz.prog 211 #[.agg (sgC z a len cap)] w fun e w'=>∃ v,e=.returned v∧Own w.heap.size w' v (ub z data)∧Below w.heap.size w w':=by
 have i:=ki (al_below w (.cells (sgC z a len cap) 39))
 have k:=ki (sg_new w z a len cap)
 have o:=ki (show ub z data=(wsn 2 [el z 1,el z 2] 2++wsn 2 [8+(len:Int),0] 2)++data by rw[← hr.1];exact if_neg h6)
 have t:=ki (fun W0 W B v zs hg hi hz=>write22 W0 v zs (el z 1) (el z 2) B W hg hi hz)
 have x:=ki (fun W0 W B v zs hg hi hz=>write22 W0 v zs (8+(len:Int)) 0 B W hg hi hz)
 have p:=ki (wsn_len 2 [el z 1,el z 2] 2)
 have r:=ki (wsn_len 2 [8+(len:Int),0] 2)
 generalize ub z data=U at o ⊢
 generalize wsn 2 [el z 1,el z 2] 2=Z1 at o t p
 generalize wsn 2 [8+(len:Int),0] 2=Z2 at o x r
 have L:(el z 0 == 6)=false:=by simpa using h6
 have y:=ki (fun W=>head_any (el z 0) W)
 rw[show hn (el z 0)=8 by unfold hn;rw[if_neg h6]] at y
 have E:=ki hr
 have F:=ki (show (Z1++Z2).length+len≤1000000000 by
  have:=p.o;have:=r.o
  simp only[List.length_append];omega)
 have G:=ki (show Z1.length≤1000000 by have:=p.o;omega)
 have M:IntKind.i64.wrap (8+(len:Int))=8+(len:Int):=by rw[IntKind.wrap_i64];omega
 clear h6 hr p r
 go_enter Tryz.func211,Tryz.ntmps211
 go_upto_region 1 with fail
 generalize w.alloc (.cells (sgC z a len cap) 39)=W at i k ⊢
 have H:=k.o.c1
 have I:=k.o.c2
 go_upto_region 2 with (go_at_call 209;refine (t.o W _ _ _ [] ((Gr.nil W).below (al_below _ _)) (ints2 W _ _) (by simp)).mono ?_;rintro e b ⟨N,rfl,d⟩;rw[List.nil_append] at d;replace d:=ki d;clear H I)
 have l:=ki (k.o.kept d.o.2)
 have J:=l.o.c0
 have s:=l.o.c7
 go_upto_region 6 with fail
 have hd:Below b.heap.size b b.drew:=(Below.refl b.heap.size b).drew
 have n:Below b.heap.size b (b.drew.alloc (.cells #[.int .i64 (8+(len:Int)),.int .i64 0] 3)):=bt hd (al_below b.drew _)
 have HI:=ki (show Ints b.heap.size [8+(len:Int),0] (b.drew.alloc (.cells #[.int .i64 (8+(len:Int)),.int .i64 0] 3)) from ints2 b.drew _ _)
 have A:=ki (d.o.below n)
 have C:=ki (fun w' (h:SgIn w.heap.size z a len cap w')=>show w'.cell? ⟨w.heap.size,0,none⟩=some (.int .i64 (el z 0))∧w'.cell? ⟨w.heap.size,7,none⟩=some (.slice a len cap) from ⟨h.c0,h.c7⟩)
 have D:=ki (l.o.kept hd)
 clear hd n
 go_region_held3 (fun w'=>w'.cell? ⟨w.heap.size,0,none⟩=some (.int .i64 (el z 0))∧w'.cell? ⟨w.heap.size,7,none⟩=some (.slice a len cap))
  (first
   | go_keep
   | exact C.o _ D.o
   | exact C.o _ q.o)
  (first
   | (go_at_call 208;refine (y.o _).mono ?_;rintro e w' ⟨rfl,rfl⟩)
   | (go_at_call 209;refine (x.o W _ _ _ _ A.o HI.o G.o).mono ?_;rintro e O ⟨P,rfl,f⟩;have q:=ki (k.o.kept f.2);replace f:=ki f))
 clear J s
 have s:=q.o.c7
 go_wp2_with (at_builtin;refine gr_app rfl (.tmp 40) (.tmp 42) rfl rfl f.o rfl ((E.o.below i.o).below f.o.2) F.o ?_;intro K Q g;replace g:=ki g;clear s)
 go_ret
 exact ⟨K,rfl,o.o ▸ g.o.1.mono i.o.size,i.o.trans (g.o.2.mono i.o.size)⟩
end
section
attribute [local go_sem ↓] Go.wp_at_zero Go.wp_at_succ
theorem Own.set {base:Nat} {w:World} {g n c:Nat} {zs:List Int} (h:Own base w (.slice (some ⟨g,0,none⟩) n c) zs) (j:Nat) (v:Int) (hv:0≤v∧v≤255):Own base (w.setCell ⟨g,j,none⟩ (.int .u8 v)) (.slice (some ⟨g,0,none⟩) n c) (zs.set j v):=by
 refine ⟨SM.oct_set _ h.1 j v hv.1 hv.2,by simp,?_⟩
 rcases h.2.2 with ⟨e,_⟩|⟨g',cap,cur,e,hb,hg,h1,h2,h3,h4⟩
 ·cases e
 ·injection e with e1 e2 e3
  cases e1
  subst e3
  refine .inr ⟨g,c,cur.setIfInBounds j (.int .u8 v),by rw[e2,List.length_set],hb,?_,by rw[List.length_set];exact h1,h2,by simpa using h3,?_⟩
  ·rw[setCell_eq_setRow w g j _ 5 (0,0) (.int .u8 v) hg,setRow_heap w g _ _ 5 (0,0) hg]
  ·rw[List.length_set,Array.toList_setIfInBounds,List.map_set,← h4,List.take_set]
theorem Own.cell {base:Nat} {w:World} {g n c:Nat} {zs:List Int} (h:Own base w (.slice (some ⟨g,0,none⟩) n c) zs) (j:Nat) (hj:j < n):w.cell? ⟨g,j,none⟩=some (.int .u8 (zs.getD j 0))∧w.frozen? ⟨g,j,none⟩=false:=by
 constructor
 ·obtain ⟨_,_,_,_,a⟩:=h.toRow
  obtain ⟨b,o,e,hc⟩:=a (by omega)
  cases e
  have:=hc j hj
  rwa [Nat.zero_add] at this
 ·rcases h.2.2 with ⟨e,_⟩|⟨g',cap,cur,e,hb,hg,h1,h2,h3,h4⟩
  ·cases e
  ·injection e with e1 e2 e3
   cases e1
   simp[World.frozen?,hg]
def ckg (k over T:Int):Int:=if k=17∧SM.fold (over+T)=65535 then 65535 else 65535 - SM.fold (over+T)
theorem ckg_in (k over T:Int) (h0:0≤over) (h1:0≤T):0≤ckg k over T∧ckg k over T≤65535:=by
 have:=SM.fold_bd (over+T) (by omega)
 unfold ckg
 split <;> omega
theorem checkof_any (k over:Int) (a:Option Addr) (n cap:Nat) (zs:List Int) (w:World) (hr:Row8 w a n cap zs) (hn:n≤2000) (ho:up 65535 over=true) :
  Calls Tryz.prog 212 #[.int .i64 k,.slice a n cap,.int .i64 over] w fun e w'=>e=.returned (.tuple #[.int .i64 (ckg k over (SM.fold (SM.tot zs n))),.nilIface])∧Below w.heap.size w w':=by
 obtain ⟨p,q⟩:=up_true ho
 have r:=SM.fold_bd (SM.tot zs n) (SM.tot_bd zs hr.2.2.1 n).1
 have g:=ki (fun W (h:Row8 W a n cap zs)=>of_ok a n cap zs W h hn)
 have o:=ki hr
 clear hr ho
 generalize SM.fold (SM.tot zs n)=T at r g ⊢
 have d:=ki (fun W=>add_ok over T W ⟨⟨p,q⟩,r⟩)
 have s:=SM.fold_bd (over+T) (by omega)
 obtain ⟨C,hC⟩:∃ C,C=ckg k over T:=⟨_,rfl⟩
 rw[← hC]
 unfold ckg at hC
 generalize SM.fold (over+T)=S at s d hC
 have i:=ki (fun W=>not_ok S W s)
 by_cases hk:k=17
 ·have x:(k == 17)=true:=by simpa using hk
  by_cases hs:S=65535
  ·have es:(S == 65535)=true:=by simpa using hs
   have l:=ki (show C=65535 by rw[hC,if_pos ⟨hk,hs⟩])
   clear hC hk hs
   go_enter Tryz.func212,Tryz.ntmps212
   go_wp2_with (first
    | (go_at_call 244;refine (g.o _ o.o).mono ?_;rintro e t ⟨rfl,rfl⟩)
    | (go_at_call 258;refine (d.o _).mono ?_;rintro e v ⟨rfl,b⟩;replace b:=ki b))
   go_ret2
   exact ⟨by rw[l.o];rfl,b.o⟩
  ·have es:(S == 65535)=false:=by simpa using hs
   have l:=ki (show C=65535 - S by rw[hC,if_neg (fun h=>hs h.2)])
   clear hC hk hs
   go_enter Tryz.func212,Tryz.ntmps212
   go_wp2_with (first
    | (go_at_call 244;refine (g.o _ o.o).mono ?_;rintro e t ⟨rfl,rfl⟩)
    | (go_at_call 258;refine (d.o _).mono ?_;rintro e v ⟨rfl,b⟩;replace b:=ki b)
    | (go_at_call 259;refine (i.o _).mono ?_;rintro e y ⟨rfl,f⟩;replace b:=ki (bt b.o f);clear f))
   go_ret2
   exact ⟨by rw[l.o];rfl,b.o⟩
 ·have x:(k == 17)=false:=by simpa using hk
  have l:=ki (show C=65535 - S by rw[hC,if_neg (fun h=>hk h.1)])
  clear hC hk
  go_enter Tryz.func212,Tryz.ntmps212
  go_wp2_with (first
   | (go_at_call 244;refine (g.o _ o.o).mono ?_;rintro e t ⟨rfl,rfl⟩)
   | (go_at_call 258;refine (d.o _).mono ?_;rintro e v ⟨rfl,b⟩;replace b:=ki b)
   | (go_at_call 259;refine (i.o _).mono ?_;rintro e y ⟨rfl,f⟩;replace b:=ki (bt b.o f);clear f))
  go_ret2
  exact ⟨by rw[l.o];rfl,b.o⟩
def sck (z:List Int) (over:Int) (data:List Int):Int:=ckg (el z 0) over (SM.fold (SM.tot (ub z data) (ub z data).length))
theorem wsn_oct (n:Nat) (l:List Int) (k:Nat):SM.Oct (wsn n l k):=by
 induction k with
 | zero=>exact SM.oct_nil
 | succ k ih=>exact SM.oct_append _ _ ih (nb_oct n _)
theorem ub_oct (z data:List Int) (h:SM.Oct data):SM.Oct (ub z data):=by
 unfold ub
 split
 ·exact SM.oct_append _ _ (SM.oct_append _ _ (SM.oct_append _ _ (SM.oct_append _ _ (wsn_oct _ _ _) (wsn_oct _ _ _)) (wsn_oct _ _ _)) (wsn_oct _ _ _)) h
 ·exact SM.oct_append _ _ (SM.oct_append _ _ (wsn_oct _ _ _) (wsn_oct _ _ _)) h
theorem sck_in (z:List Int) (over:Int) (data:List Int) (h:SM.Oct data) (ho:up 65535 over=true):0≤sck z over data∧sck z over data≤65535 :=
 ckg_in _ _ _ (up_true ho).1 (SM.fold_bd _ (SM.tot_bd _ (ub_oct z data h) _).1).1
theorem ub_len (z data:List Int):(ub z data).length=hn (el z 0)+data.length:=by
 unfold ub hn
 split <;> simp only[List.length_append,wsn_len]
theorem unc_any (z:List Int) (a:Option Addr) (len cap:Nat) (data:List Int) (w:World) (hl:len≤300) (hr:Row8 w a len cap data) :
  Calls Tryz.prog 211 #[.agg (sgC z a len cap)] w fun e w'=>∃ v,e=.returned v∧Own w.heap.size w' v (ub z data)∧Below w.heap.size w w':=by
 by_cases h6:el z 0=6
 ·exact unc_tcp z a len cap data w h6 hl hr
 ·exact unc_udp z a len cap data w h6 hl hr
def eb (z:List Int) (over:Int) (data:List Int):List Int:=((ub z data).set (cn (el z 0)) (sck z over data / 256)).set (cn (el z 0)+1) (sck z over data % 256)
theorem eb_len (z:List Int) (over:Int) (data:List Int):(eb z over data).length=hn (el z 0)+data.length:=by
 unfold eb
 rw[List.length_set,List.length_set,ub_len]
theorem cn_lt (k:Int):cn k+1 < hn k:=by
 unfold cn hn
 split <;> omega
theorem hn_le (k:Int):hn k≤20:=by
 unfold hn
 split <;> omega
theorem sf_len (z:List Int) (len:Nat) (h:sf z len=0):len≤300:=by
 unfold sf at h
 rcases Nat.lt_or_ge 300 len with h3|h3
 ·exfalso
  rw[if_pos h3] at h
  split at h
  ·cases h
  ·split at h <;> split at h <;> cases h
 ·exact h3
theorem enc_err (z:List Int) (a:Option Addr) (len cap:Nat) (over:Int) (w:World) (hm:len≤maxLen) (n:Int) (hz:sf z len=n) (hn0:n≠0) :
  Calls Tryz.prog 150 #[.agg (sgC z a len cap),.int .i64 over] w fun e w'=>e=.returned (.tuple #[.slice none 0 0,err n])∧Below w.heap.size w w':=by
 have b:=ki (al_below w (.cells (sgC z a len cap) 39))
 have g:=ki (sg_new w z a len cap)
 have f:=ki (fun W=>chk_any z a len cap W hm)
 rw[hz,show ev n=err n from if_neg hn0] at f
 unfold err at f ⊢
 clear hz hn0
 go_enter Tryz.func150,Tryz.ntmps150
 go_upto_region 1 with fail
 generalize w.alloc (.cells (sgC z a len cap) 39)=W at b g ⊢
 go_wp2_with (first
  | (refine at_load rfl (.tmp 2) rfl rfl g.o ?_)
  | (go_at_call 207;refine (f.o _).mono ?_;rintro e h ⟨rfl,d⟩;replace b:=ki (bt b.o d);clear d))
 go_ret2
 exact ⟨rfl,b.o⟩
theorem enc_ok (z:List Int) (a:Option Addr) (len cap:Nat) (over:Int) (data:List Int) (w:World) (hz:sf z len=0) (ho:up 65535 over=true) (hr:Row8 w a len cap data) :
  Calls Tryz.prog 150 #[.agg (sgC z a len cap),.int .i64 over] w fun e w'=>∃ v,e=.returned (.tuple #[v,.nilIface])∧Own w.heap.size w' v (eb z over data)∧Below w.heap.size w w':=by
 have d:=ki (al_below w (.cells (sgC z a len cap) 39))
 have b:=ki (sg_new w z a len cap)
 have E:=ki (fun W=>chk_any z a len cap W hr.2.1)
 rw[hz,show ev 0=.nilIface from rfl] at E
 have F:=sf_len z len hz
 have Q:=ki hr
 have G:=ki (fun W h=>unc_any z a len cap data W F h)
 have l:=ki (show eb z over data=((ub z data).set (cn (el z 0)) (sck z over data / 256)).set (cn (el z 0)+1) (sck z over data % 256) from rfl)
 have n:=ub_len z data
 have J:=cn_lt (el z 0)
 have hh:=hn_le (el z 0)
 have o:=ki (fun W=>checkat_any (el z 0) W)
 obtain ⟨N,hN⟩:∃ N,N=(ub z data).length:=⟨_,rfl⟩
 have K:N≤2000:=by rw[hN,n,hr.1];omega
 have t:cn (el z 0)+1 < N:=by rw[hN,n];omega
 have g:=ki (fun W a c (h:Row8 W a N c (ub z data))=>checkof_any (el z 0) over a N c (ub z data) W h K ho)
 have x:sck z over data=ckg (el z 0) over (SM.fold (SM.tot (ub z data) N)):=by rw[hN];rfl
 rw[← x] at g
 have y:=sck_in z over data hr.2.2.1 ho
 have H:=ki hN.symm
 have R:IntKind.u8.wrap (sck z over data / 256)=sck z over data / 256:=by rw[IntKind.wrap_u8];omega
 have S:IntKind.u8.wrap (sck z over data)=sck z over data % 256:=by rw[IntKind.wrap_u8]
 have A:=ki (show 0≤sck z over data / 256∧sck z over data / 256≤255 by omega)
 have B:=ki (show 0≤sck z over data % 256∧sck z over data % 256≤255 by omega)
 generalize eb z over data=EB at l ⊢
 generalize sck z over data=C at l g y R S A B
 generalize ub z data=U at G l g H
 generalize cn (el z 0)=at_ at t o l
 obtain ⟨T,V⟩:=y
 clear x hN n J hh hr hz
 go_enter Tryz.func150,Tryz.ntmps150
 go_upto_region 1 with fail
 generalize w.alloc (.cells (sgC z a len cap) 39)=W at d b ⊢
 go_upto_region 4 with (first
  | (refine at_load rfl (.tmp 2) rfl rfl b.o ?_)
  | (go_at_call 207;refine (E.o _).mono ?_;rintro e w1 ⟨rfl,p⟩;replace d:=ki (bt d.o p);replace b:=ki (b.o.kept p);clear p))
 go_upto_region 6 with (go_at_call 210;(with_reducible refine (upto1b _ _ _).mono ?_);rintro e w2 ⟨rfl,q⟩;replace d:=ki (bt d.o q);replace b:=ki (b.o.kept q);clear q)
 go_upto_region 7 with (first
  | (refine at_load rfl (.tmp 2) rfl rfl b.o ?_)
  | (go_at_call 211;refine (G.o _ (Q.o.below d.o)).mono ?_;rintro e w3 ⟨v3,rfl,f,r⟩;replace f:=f.mono d.o.size;replace d:=ki (bt d.o r);replace b:=ki (b.o.kept r);clear r))
 obtain ⟨L,c3,D,M,X,s,-,i⟩:=f.form (by rw[H.o];omega)
 rw[H.o] at D M i
 subst D
 replace f:=ki f
 have I:=b.o.c0
 replace i:=ki i
 go_upto_region 10 with (go_at_call 212;refine (g.o _ _ _ i.o).mono ?_;rintro e w4 ⟨rfl,k⟩;replace d:=ki (bt d.o k);replace b:=ki (b.o.kept k);replace f:=ki (f.o.kept k);clear k I)
 have I:=b.o.c0
 go_upto_region 11 with (go_at_call 213;refine (o.o _).mono ?_;rintro e Y ⟨rfl,rfl⟩)
 clear I o g G E
 obtain ⟨Z,f1⟩:=f.o.cell at_ (by omega)
 obtain ⟨x2,f2⟩:=f.o.cell (at_+1) t
 have O:=ki ((f.o.set at_ (C / 256) A.o).set (at_+1) (C % 256) B.o)
 have P:=ki (show Below w.heap.size w ((Y.setCell ⟨L,at_,none⟩ (.int .u8 (C / 256))).setCell ⟨L,at_+1,none⟩ (.int .u8 (C % 256))) from (d.o.setCell s _).setCell s _)
 generalize U.getD at_ 0=y1 at Z
 generalize U.getD (at_+1) 0=y2 at x2
 have i1:(at_:Int) < (N:Int):=by omega
 have i2:(at_:Int)+1 < (N:Int):=by omega
 clear b d f i
 go_wp2
 go_ret2
 exact ⟨_,rfl,l.o ▸ O.o,P.o⟩
end
end Go.Proofs.YtgcojnlngchllaaGreatDoor
