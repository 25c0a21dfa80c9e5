import Derived.Test.YtgcojnlngchllaaGreatDoorJ07
import Derived.Test.YtgcojnlngchllaaGreatDoorJ23
import Derived.Test.YtgcojnlngchllaaGreatDoorJ25
namespace Go.Proofs.YtgcojnlngchllaaGreatDoor
open Go.RowKit Tryz
set_option linter.unusedVariables false
set_option maxRecDepth 100000
set_option maxHeartbeats 40000000
section
variable {B cap:Nat}{a:Option Addr}{w:World}
theorem aj.yK{w':World}(on:Only B w w')(hB:∀j x,w.cell? ⟨B,j,none⟩≠some (.int .u8 x)){n c:Nat}{zs:List Int}(r:aj w a n c zs):aj w' a n c zs:=by
 refine⟨r.1,r.2.1,r.2.2.1,r.2.2.2.1,fun hp=>?_⟩;obtain⟨b,d,e,hc⟩:=r.2.2.2.2 hp;refine⟨b,d,e,fun i hi=>?_⟩;have h:=hc i hi;have f:b≠B:=by rintro rfl;exact hB _ _ h
 rw[<-h];unfold World.cell?;rw[on.2.2.2.2 b f]
theorem aF.aI.dP{s d t k i:Int}{len:Nat}(p:aF.aI B s d t k i a len cap w)(j:Nat)(x:Int):w.cell? ⟨B,j,none⟩≠some (.int .u8 x):=by
 rw[cell_of_row w B j _ _ _ p];by_cases h:j<6
 ·rcases (by omega:j=0∨j=1∨j=2∨j=3∨j=4∨j=5) with rfl|rfl|rfl|rfl|rfl|rfl<;>intro h<;>cases h
 ·rw[Array.getElem?_eq_none (by show 6<=j;omega)];intro h;cases h
theorem aB.aI.dP{s d:List Int}{h k:Int}{len:Nat}(p:aB.aI B s d h k a len cap w)(j:Nat)(x:Int):w.cell? ⟨B,j,none⟩≠some (.int .u8 x):=by
 rw[p.cellAt];by_cases h:j<19
 ·rcases (by omega:j=0∨j=1∨j=2∨j=3∨j=4∨j=5∨j=6∨j=7∨j=8∨j=9∨j=10∨j=11∨j=12∨j=13∨j=14∨j=15∨j=16∨j=17∨j=18) with rfl|rfl|rfl|rfl|rfl|rfl|rfl|rfl|rfl|rfl|rfl|rfl|rfl|rfl|rfl|rfl|rfl|rfl|rfl<;>intro h<;>cases h
 ·rw[Array.getElem?_eq_none (by show 19<=j;omega)];intro h;cases h
def BJ(x y:Value):Sem Unit:=Instr.storeAt 108 x y
theorem Sr(x y:Value):Instr.storeAt 108 x y=BJ x y:=rfl
theorem aF.aI.held{s0 d0 t0 k0 i0:Int}{a0:Option Addr}{fU cap0:Nat}(p:aF.aI B s0 d0 t0 k0 i0 a0 fU cap0 w)(s d t k i:Int)(a:Option Addr)(len cap:Nat): ∃w',(BJ (.pointer (some ⟨B,0,none⟩)) (.agg #[.int .i64 s,.int .i64 d,.int .i64 t,.int .i64 k,.int .i64 i,.slice a len cap])).run prog w=.ok () w'∧aF.aI B s d t k i a len cap w'∧Only B w w':=by refine⟨w.setRow B #[.int .i64 s,.int .i64 d,.int .i64 t,.int .i64 k,.int .i64 i,.slice a len cap],?_,p.stored s d t k i a len cap,dS _ _ _⟩;unfold BJ;simp only[Instr.storeAt,Instr.sureAddr,Sem.run_bind,Sem.run_pure,Result.andThen_ok];exact run_storeVar_row w B 108 108 _ #[.int .i64 s,.int .i64 d,.int .i64 t,.int .i64 k,.int .i64 i,.slice a len cap] p (by kernel_rfl) rfl (by simp[Value.oneCell'])
theorem aF.wQ{fn:Func}{p:Tmp}(h:fn.results=#[.cell p 108])(tmps:Array Value)(w:World)(B:Nat)(s d t k i:Int)(a:Option Addr)(len cap:Nat)(ht:tmps.getD p undef=.pointer (some ⟨B,0,none⟩))(hg:aF.aI B s d t k i a len cap w):(results fn tmps).run prog w=.ok (aF.pk s d t k i a len cap) w :=
 results_cell_row h tmps w B 108 _ (0,0) _ ht hg underlying108 rfl (by kernel_rfl)
theorem Io(s d:List Int)(k n:Int)(w:World)(hs:aH s)(hd:aH d)(hk:up 255 k=true)(hn:up 320 n=true): Calls prog 80 #[.agg (av s),.agg (av d),.int .i64 k,.int .i64 n] w fun e w'=>e=.returned (.tuple #[.int .i64 (o6 s d k n),.int .i64 0])∧Below w.heap.size w w' :=
 RS s d k n w hs hd _ _ (fun W a1 c1 a2 c2 r1 r2=>H8 a1 16 c1 _ a2 16 c2 _ k n W r1 r2 (by rw[List.length_append,eD,eD];omega) hk hn)
theorem Ip(s d k n:Int)(w:World)(hs:up 4294967295 s=true)(hd:up 4294967295 d=true)(hk:up 255 k=true)(hn:up 320 n=true): Calls prog 89 #[.int .i64 s,.int .i64 d,.int .i64 k,.int .i64 n] w fun e w'=>e=.returned (.tuple #[.int .i64 (o4 s d k n),.int .i64 0])∧Below w.heap.size w w':=RQ s d k n w hs hd hk hn
theorem Sv(z:List Int)(C:Int)(data:List Int):(jV z C data).length=hn (el z 0)+data.length:=by unfold jV hn lg ng;split<;>simp<;>omega
theorem Iq(z:List Int)(a:Option Addr)(len cap:Nat)(data:List Int)(w:World)(h:bC z len)(hr:aj w a len cap data)(N:Nat)(hN:hn (el z 0)+len=N): Calls prog 90 #[.agg (aA z a len cap)] w fun e w'=>e=.returned (.int .i64 N)∧Below w.heap.size w w':=by
 have b:=ki (au w (.cells (aA z a len cap) 39));have g:=ki (gG w z a len cap);have i:=ki (fun W hr'=>yF z a len cap 0 data W h (by omega) hr');have k:=ki (show(jV z 0 data).length=N by rw[Sv,hr.1];exact hN);have n:=ki hr;generalize jV z 0 data=X at i k;clear hr h hN;go_enter func90,ntmps90;go_upto_region 1 with fail
 generalize w.alloc (.cells (aA z a len cap) 39)=W at b g⊢;go_wp2_with (first|(refine bB rfl (.tmp 1) rfl rfl g.o ?_)|(go_at_call 91;refine(i.o _ (n.o.below b.o)).mono ?_;rintro e o ⟨p,rfl,l,d⟩;obtain⟨q,c1,f,-,-⟩:=l.dw;rw[k.o] at f;subst f;replace b:=ki (bt b.o d);clear d l))
 go_ret;exact⟨rfl,b.o⟩
def tH(w:World)(z:List Int)(a:Option Addr)(len cap:Nat)(W:World):Prop:=aG w.heap.size z a len cap W∧aF.aI (w.heap.size+1) 0 0 0 0 0 none 0 0 W∧Below w.heap.size w W
theorem tH.kept{z:List Int}{len:Nat}{W W':World}(h:tH w z a len cap W)(hb:Below W.heap.size W W'):tH w z a len cap W':=⟨h.1.kept hb,h.2.1.kept hb,bt h.2.2 hb⟩
theorem tH.start(w:World)(z:List Int)(a:Option Addr)(len cap:Nat):tH w z a len cap ((w.alloc (.cells (aA z a len cap) 39)).alloc (.cells aF.jJ 108)):=by have e:=au w (.cells (aA z a len cap) 39);have b:=au (w.alloc (.cells (aA z a len cap) 39)) (.cells aF.jJ 108);have d:=aF.bR (w.alloc (.cells (aA z a len cap) 39));rw[World.size_alloc] at d;exact⟨(gG w z a len cap).kept b,d,bt e b⟩
attribute [local go_sem ↓] jg Sr Go.wp_at_zero Go.wp_at_succ
theorem Sw(z:List Int)(a:Option Addr)(len cap:Nat)(data:List Int)(src dst ttl:Int)(w:World)(h:bC z len)(hr:aj w a len cap data)(h1:up 4294967295 src=true)(h2:up 4294967295 dst=true)(N:Nat)(hN:hn (el z 0)+len=N)(Sy:N<=320): Calls prog 41 #[.agg (aA z a len cap),.int .i64 src,.int .i64 dst,.int .i64 ttl] w fun e w'=>∃a1 c1,e=.returned (aF.pk src dst ttl (el z 0) 0 a1 N c1)∧aj w' a1 N c1 (eb z (o4 src dst (el z 0) N) data)∧Below w.heap.size w w':=by
 have b:=ki (tH.start w z a len cap);have A:up 255 (el z 0)=true:=by rcases (jR _).1 (Es h) with e|e<;>rw[e]<;>rfl
 have G:=ki (fun W (hb:Below w.heap.size w W)=>Iq z a len cap data W h (hr.below hb) N hN);have B:=ki (fun W=>Ip src dst (el z 0) N W h1 h2 A (decide_eq_true (by omega)));have n:=wP src dst (el z 0) N;have g:=hr.1;generalize o4 src dst (el z 0) N=O at B n⊢;have D:=ki (fun W (hb:Below w.heap.size w W)=>yG z a len cap O data W h n (hr.below hb));have o:=ki (fun W (hb:Below w.heap.size w W)=>yF z a len cap (bV z O data) data W h (uy z O data hr.2.2.1 n) (hr.below hb));rw[Ia z O data (by rw[g];exact h)] at o;have F:=ki (show(eb z O data).length=N by rw[wK,g];exact hN);generalize eb z O data=E at o F⊢;generalize bV z O data=C at D o;unfold aF.jJ at b;clear h hr h1 h2 hN A n g;go_enter func41,ntmps41;go_upto_region 1 with fail
 generalize (World.alloc _ _).alloc _=W0 at b⊢;replace b:=ki (b.o.kept (Below.refl _ _).drew);have d:=b.o.1.gl;have f:=b.o.1.c0;go_region_held3 (fun w'=>w'.cell? ⟨w.heap.size,0,none⟩=some (.int .i64 (el z 0))∧(j6 (.pointer (some ⟨w.heap.size,0,none⟩))).run prog w'=.ok (.agg (aA z a len cap)) w')
  (first
   | go_keep
   | exact⟨b.o.1.c0,b.o.1.gl⟩)
  (first|(go_at_call 90;refine(G.o _ b.o.2.2).mono ?_;rintro e J ⟨rfl,p⟩;replace b:=ki (b.o.kept p);clear p d f;have d:=b.o.1.gl;have f:=b.o.1.c0)|(go_at_call 89;refine(B.o _).mono ?_;rintro e K ⟨rfl,q⟩;replace b:=ki (b.o.kept q);clear q d f;have d:=b.o.1.gl;have f:=b.o.1.c0))
 clear d f;go_upto_region 2 with fail
 replace b:=ki (b.o.kept (Below.refl _ _).drew);have d:=b.o.1.gl;have f:=b.o.1.c0;go_region_held3 (fun w'=>w'.cell? ⟨w.heap.size,0,none⟩=some (.int .i64 (el z 0))∧(j6 (.pointer (some ⟨w.heap.size,0,none⟩))).run prog w'=.ok (.agg (aA z a len cap)) w')
  (first
   | go_keep
   | exact⟨b.o.1.c0,b.o.1.gl⟩
   | exact⟨r.o.c0,r.o.gl⟩)
  (first|(go_at_call 92;refine(D.o _ b.o.2.2).mono ?_;rintro e L ⟨rfl,s⟩;replace b:=ki (b.o.kept s);clear s d f;have d:=b.o.1.gl;have f:=b.o.1.c0)|(go_at_call 91;refine(o.o _ b.o.2.2).mono ?_;rintro e M ⟨P,rfl,l,t⟩;obtain⟨x,c4,v,i,-⟩:=l.dw;rw[F.o] at v i;subst v;replace b:=ki (b.o.kept t);obtain⟨Q,I,y,k⟩:=b.o.2.1.held src dst ttl (el z 0) 0 x N c4;replace i:=ki (aj.yK k b.o.2.1.dP i);replace y:=ki y;have r:=ki (k.sg b.o.1 (by omega));have H:=ki (k.below b.o.2.2 (Nat.le_succ _));clear k t l d f;have d:=b.o.1.gl;have f:=b.o.1.c0))
 go_wp2_with fail
 try simp only[Exit.inBlock,Exit.then]
 refine bodyPost_ret (aF.wQ rfl _ _ (w.heap.size+1) src dst ttl (el z 0) 0 x N c4 rfl y.o) rfl ?_;exact⟨x,c4,rfl,i.o,H.o⟩
end
section
def nM(w:World)(z:List Int)(a:Option Addr)(len cap:Nat)(x y:List Int)(W:World):Prop:=aG w.heap.size z a len cap W∧aP (w.heap.size+1) x W∧aP (w.heap.size+1+1) y W∧aB.aI (w.heap.size+1+1+1) [] [] 0 0 none 0 0 W∧Below w.heap.size w W
theorem nM.kept{w:World}{z:List Int}{a:Option Addr}{len cap:Nat}{x y:List Int}{W W':World}(h:nM w z a len cap x y W)(hb:Below W.heap.size W W'):nM w z a len cap x y W':=⟨h.1.kept hb,h.2.1.kept hb,h.2.2.1.kept hb,h.2.2.2.1.kept hb,bt h.2.2.2.2 hb⟩
theorem nM.start(w:World)(z:List Int)(a:Option Addr)(len cap:Nat)(x y:List Int):nM w z a len cap x y ((((w.alloc (.cells (aA z a len cap) 39)).alloc (.cells (av x) 23)).alloc (.cells (av y) 23)).alloc (.cells aB.dH 83)):=by
 have d:(w.alloc (.cells (aA z a len cap) 39)).heap.size=w.heap.size+1:=World.size_alloc _ _;have i:Below w.heap.size w (w.alloc (.cells (aA z a len cap) 39)):=au w _;have k:=gG w z a len cap;generalize w.alloc (.cells (aA z a len cap) 39)=w1 at d i k⊢;have e:(w1.alloc (.cells (av x) 23)).heap.size=w.heap.size+1+1:=by rw[World.size_alloc,d]
 have f:Below w1.heap.size w1 (w1.alloc (.cells (av x) 23)):=au w1 _;have g:aP w1.heap.size x (w1.alloc (.cells (av x) 23)):=iT x w1;rw[d] at g;generalize w1.alloc (.cells (av x) 23)=w2 at e f g⊢;have l:(w2.alloc (.cells (av y) 23)).heap.size=w.heap.size+1+1+1:=by rw[World.size_alloc,e]
 have b:Below w2.heap.size w2 (w2.alloc (.cells (av y) 23)):=au w2 _;have h:aP w2.heap.size y (w2.alloc (.cells (av y) 23)):=iT y w2;rw[e] at h;generalize w2.alloc (.cells (av y) 23)=w3 at l b h⊢;have b4:Below w3.heap.size w3 (w3.alloc (.cells aB.dH 83)):=au w3 _;have n:=aB.bR w3;rw[l] at n;exact⟨((k.kept f).kept b).kept b4,(g.kept b).kept b4,h.kept b4,n,bt (bt (bt i f) b) b4⟩
def Sz(b:Nat)(z:List Int)(a:Option Addr)(len cap:Nat)(x y:List Int)(W:World):Prop :=
 W.cell? ⟨b,0,none⟩=some (.int .i64 (el z 0))∧(j6 (.pointer (some ⟨b,0,none⟩))).run prog W=.ok (.agg (aA z a len cap)) W ∧
 (hload (.pointer (some ⟨b+1,0,none⟩))).run prog W=.ok (.agg #[.int .i64 (el x 0),.int .i64 (el x 1),.int .i64 (el x 2),.int .i64 (el x 3),.int .i64 (el x 4),.int .i64 (el x 5),.int .i64 (el x 6),.int .i64 (el x 7)]) W ∧
 (hload (.pointer (some ⟨b+1+1,0,none⟩))).run prog W=.ok (.agg #[.int .i64 (el y 0),.int .i64 (el y 1),.int .i64 (el y 2),.int .i64 (el y 3),.int .i64 (el y 4),.int .i64 (el y 5),.int .i64 (el y 6),.int .i64 (el y 7)]) W
theorem ow{b:Nat}{z:List Int}{a:Option Addr}{len cap:Nat}{x y:List Int}{W:World}(h1:aG b z a len cap W)(h2:aP (b+1) x W)(h3:aP (b+1+1) y W):Sz b z a len cap x y W:=⟨h1.c0,h1.gl,h2.hl,h3.hl⟩
attribute [local go_sem ↓] jg gy aB.uE Go.wp_at_zero Go.wp_at_succ
theorem SA(z:List Int)(a:Option Addr)(len cap:Nat)(data:List Int)(x y:List Int)(hop:Int)(w:World)(h:bC z len)(hr:aj w a len cap data)(h1:aH x)(h2:aH y)(N:Nat)(hN:hn (el z 0)+len=N)(Sy:N<=320): Calls prog 47 #[.agg (aA z a len cap),.agg (av x),.agg (av y),.int .i64 hop] w fun e w'=>∃a1 c1,e=.returned (aB.pk x y hop (el z 0) a1 N c1)∧aj w' a1 N c1 (eb z (o6 x y (el z 0) N) data)∧Below w.heap.size w w':=by
 have b:=ki (nM.start w z a len cap x y);have G:up 255 (el z 0)=true:=by rcases (jR _).1 (Es h) with e|e<;>rw[e]<;>rfl
 have L:=ki (fun W (hb:Below w.heap.size w W)=>Iq z a len cap data W h (hr.below hb) N hN);have B:=ki (fun W=>Io x y (el z 0) N W h1 h2 G (decide_eq_true (by omega)));have p:=wO x y (el z 0) N h1 h2;have l:=hr.1;generalize o6 x y (el z 0) N=O at B p⊢;have H:=ki (fun W (hb:Below w.heap.size w W)=>yG z a len cap O data W h p (hr.below hb));have q:=ki (fun W (hb:Below w.heap.size w W)=>yF z a len cap (bV z O data) data W h (uy z O data hr.2.2.1 p) (hr.below hb));rw[Ia z O data (by rw[l];exact h)] at q;have I:=ki (show(eb z O data).length=N by rw[wK,l];exact hN);generalize eb z O data=E at q I⊢;generalize bV z O data=C at H q;unfold aB.dH at b;unfold av at B;clear h hr h1 h2 hN G p l;go_enter func47,ntmps47;go_upto_region 1 with fail
 generalize (World.alloc (World.alloc (World.alloc _ _) _) _).alloc _=W0 at b⊢;replace b:=ki (b.o.kept (Below.refl _ _).drew);obtain⟨d,f,g,i⟩:=ow b.o.1 b.o.2.1 b.o.2.2.1;go_region_held3 (fun w'=>w'.cell? ⟨w.heap.size,0,none⟩=some (.int .i64 (el z 0))∧(j6 (.pointer (some ⟨w.heap.size,0,none⟩))).run prog w'=.ok (.agg (aA z a len cap)) w' ∧
   (hload (.pointer (some ⟨w.heap.size+1,0,none⟩))).run prog w'=.ok (.agg #[.int .i64 (el x 0),.int .i64 (el x 1),.int .i64 (el x 2),.int .i64 (el x 3),.int .i64 (el x 4),.int .i64 (el x 5),.int .i64 (el x 6),.int .i64 (el x 7)]) w' ∧
   (hload (.pointer (some ⟨w.heap.size+1+1,0,none⟩))).run prog w'=.ok (.agg #[.int .i64 (el y 0),.int .i64 (el y 1),.int .i64 (el y 2),.int .i64 (el y 3),.int .i64 (el y 4),.int .i64 (el y 5),.int .i64 (el y 6),.int .i64 (el y 7)]) w')
  (first
   | go_keep
   | exact ow b.o.1 b.o.2.1 b.o.2.2.1)
  (first|(go_at_call 90;refine(L.o _ b.o.2.2.2.2).mono ?_;rintro e P ⟨rfl,r⟩;replace b:=ki (b.o.kept r);clear r d f g i;obtain⟨d,f,g,i⟩:=ow b.o.1 b.o.2.1 b.o.2.2.1)|(go_at_call 80;refine(B.o _).mono ?_;rintro e Q ⟨rfl,s⟩;replace b:=ki (b.o.kept s);clear s d f g i;obtain⟨d,f,g,i⟩:=ow b.o.1 b.o.2.1 b.o.2.2.1))
 clear d f g i;go_upto_region 2 with fail
 replace b:=ki (b.o.kept (Below.refl _ _).drew);obtain⟨d,f,g,i⟩:=ow b.o.1 b.o.2.1 b.o.2.2.1;go_region_held3 (fun w'=>w'.cell? ⟨w.heap.size,0,none⟩=some (.int .i64 (el z 0))∧(j6 (.pointer (some ⟨w.heap.size,0,none⟩))).run prog w'=.ok (.agg (aA z a len cap)) w' ∧
   (hload (.pointer (some ⟨w.heap.size+1,0,none⟩))).run prog w'=.ok (.agg #[.int .i64 (el x 0),.int .i64 (el x 1),.int .i64 (el x 2),.int .i64 (el x 3),.int .i64 (el x 4),.int .i64 (el x 5),.int .i64 (el x 6),.int .i64 (el x 7)]) w' ∧
   (hload (.pointer (some ⟨w.heap.size+1+1,0,none⟩))).run prog w'=.ok (.agg #[.int .i64 (el y 0),.int .i64 (el y 1),.int .i64 (el y 2),.int .i64 (el y 3),.int .i64 (el y 4),.int .i64 (el y 5),.int .i64 (el y 6),.int .i64 (el y 7)]) w')
  (first
   | go_keep
   | exact ow b.o.1 b.o.2.1 b.o.2.2.1
   | exact J.o)
  (first|(go_at_call 92;refine(H.o _ b.o.2.2.2.2).mono ?_;rintro e R ⟨rfl,t⟩;replace b:=ki (b.o.kept t);clear t d f g i;obtain⟨d,f,g,i⟩:=ow b.o.1 b.o.2.1 b.o.2.2.1)|(go_at_call 91;refine(q.o _ b.o.2.2.2.2).mono ?_;rintro e S ⟨T,rfl,o,v⟩;obtain⟨D,c4,A,n,-⟩:=o.dw;rw[I.o] at A n;subst A;replace b:=ki (b.o.kept v);obtain⟨U,K,F,k⟩:=b.o.2.2.2.1.held x y hop (el z 0) D N c4;unfold aB.cB at K;replace n:=ki (aj.yK k b.o.2.2.2.1.dP n);replace F:=ki F;have J:=ki (ow (k.sg b.o.1 (by omega)) (k.six b.o.2.1 (by omega)) (k.six b.o.2.2.1 (by omega)));have M:=ki (k.below b.o.2.2.2.2 (by omega));clear k v o d f g i;obtain⟨d,f,g,i⟩:=ow b.o.1 b.o.2.1 b.o.2.2.1))
 go_wp2_with fail
 try simp only[Exit.inBlock,Exit.then]
 refine bodyPost_ret (aB.wQ rfl _ _ (w.heap.size+1+1+1) x y hop (el z 0) D N c4 rfl F.o) rfl ?_;exact⟨D,c4,rfl,n.o,M.o⟩
end
section
variable {k:Int}{cap:Nat}{a:Option Addr}{W W' w:World}
def oz(w:World)(s d:List Int)(h k:Int)(a:Option Addr)(len cap:Nat)(W:World):Prop:=aB.aI w.heap.size s d h k a len cap W∧aG (w.heap.size+1) [] none 0 0 W∧Below w.heap.size w W
theorem oz.kept{s d:List Int}{h:Int}{len:Nat}(t:oz w s d h k a len cap W)(hb:Below W.heap.size W W'):oz w s d h k a len cap W':=⟨t.1.kept hb,t.2.1.kept hb,bt t.2.2 hb⟩
theorem oz.start(w:World)(s d:List Int)(h k:Int)(a:Option Addr)(len cap:Nat):oz w s d h k a len cap ((w.alloc (.cells (aB.cB s d h k a len cap) 83)).alloc (.cells aN 39)):=by have f:=au w (.cells (aB.cB s d h k a len cap) 83);have b:=au (w.alloc (.cells (aB.cB s d h k a len cap) 83)) (.cells aN 39);have e:=bR (w.alloc (.cells (aB.cB s d h k a len cap) 83));rw[World.size_alloc] at e;exact⟨(aB.iU w s d h k a len cap).kept b,e,bt f b⟩
theorem oz.put{s d:List Int}{h:Int}{len:Nat}(t:oz w s d h k a len cap W)(on:Only (w.heap.size+1) W W'):Below w.heap.size w W':=on.below t.2.2 (Nat.le_succ _)
theorem Ir(h:kn k=false):(k != 6)=true∧(k != 17)=true:=by unfold kn at h;simp at h;simpa using h
theorem SB(s d:List Int)(h k:Int)(a:Option Addr)(len cap:Nat)(w:World)(hk:kn k=false): Calls prog 32 #[aB.pk s d h k a len cap] w fun e w'=>e=.returned (.tuple #[l5,.int .i64 2])∧Below w.heap.size w w':=by
 obtain⟨l,n⟩:=Ir hk;clear hk;have b:=ki (oz.start w s d h k a len cap);unfold aN at b;unfold aB.pk;go_enter func32,ntmps32;go_upto_region 1 with fail
 generalize (World.alloc _ _).alloc _=W0 at b⊢;have o:=b.o.1.kind;go_wp2_with (refine aK rfl (.tmp 2) (.tmp 14) rfl rfl b.o.2.1 [] none 0 0 rfl ?_;intro p g f;have i:=ki (b.o.put f);replace g:=ki g;clear f b)
 try simp only[Exit.inBlock,Exit.then]
 refine bodyPost_ret (bS rfl _ _ (w.heap.size+1) [] none 0 0 rfl g.o) rfl ?_;exact⟨rfl,i.o⟩
theorem SC(s d:List Int)(h k:Int)(a:Option Addr)(len cap:Nat)(w:World)(hk:kn k=true)(ho:aB.iB s d h k)(hl:len<=320)(z D:List Int)(E:Int)(hS:∀W,Below w.heap.size w W->Calls prog 81 #[.int .i64 k,.slice a len cap,.int .i64 (o6 s d k len)] W fun r W'=>∃a1 l1 c1,r=.returned (.tuple #[.agg (aA z a1 l1 c1),.int .i64 E])∧aj W' a1 l1 c1 D∧Below W.heap.size W W'): Calls prog 32 #[aB.pk s d h k a len cap] w fun r W'=>∃a1 l1 c1,r=.returned (.tuple #[.agg (aA z a1 l1 c1),.int .i64 E])∧aj W' a1 l1 c1 D∧Below w.heap.size w W':=by
 have v:=(jR k).1 hk;have x:=ki (fun W=>Io s d k len W ho.1 ho.2.1 (decide_eq_true ho.2.2.2) (decide_eq_true (by omega)));replace hS:=ki hS;generalize o6 s d k len=XW at x hS;clear hk ho;have b:=ki (oz.start w s d h k a len cap);unfold aN at b;unfold aB.pk;rcases v with rfl|rfl;all_goals
  go_enter func32,ntmps32;go_upto_region 1 with fail
  generalize (World.alloc _ _).alloc _=W0 at b⊢;have n:=b.o.1.kind;have o:=b.o.1.body;go_upto_region 4 with(first|(refine aB.qj rfl (.tmp 16) rfl rfl b.o.1 ?_)|(refine aB.ql rfl (.tmp 18) rfl rfl b.o.1 ?_)|(go_at_call 80;refine(x.o _).mono ?_;rintro e A ⟨rfl,i⟩;replace b:=ki (b.o.kept i);clear i n o))
  have n:=b.o.1.kind;have o:=b.o.1.body;go_wp2_with (first|(go_at_call 81;refine(hS.o _ b.o.2.2).mono ?_;rintro e B ⟨p,q,c2,rfl,f,l⟩;replace b:=ki (b.o.kept l);replace f:=ki f;clear l n o)|(refine aK rfl (.tmp 2) (.tmp 34) rfl rfl b.o.2.1 z p q c2 rfl ?_;intro C t g;have y:=ki (b.o.put g);replace t:=ki t;replace f:=ki (aj.yK g b.o.2.1.dP f.o);clear g b))
  try simp only[Exit.inBlock,Exit.then]
  refine bodyPost_ret (bS rfl _ _ (w.heap.size+1) z p q c2 rfl t.o) rfl ?_;exact⟨p,q,c2,rfl,f.o,y.o⟩
def Q4(w:World)(s d t k i:Int)(a:Option Addr)(len cap:Nat)(W:World):Prop:=aF.aI w.heap.size s d t k i a len cap W∧aG (w.heap.size+1) [] none 0 0 W∧Below w.heap.size w W
theorem Q4.kept{s d t i:Int}{len:Nat}(h:Q4 w s d t k i a len cap W)(hb:Below W.heap.size W W'):Q4 w s d t k i a len cap W':=⟨h.1.kept hb,h.2.1.kept hb,bt h.2.2 hb⟩
theorem Q4.start(w:World)(s d t k i:Int)(a:Option Addr)(len cap:Nat):Q4 w s d t k i a len cap ((w.alloc (.cells #[.int .i64 s,.int .i64 d,.int .i64 t,.int .i64 k,.int .i64 i,.slice a len cap] 108)).alloc (.cells aN 39)):=by have f:=au w (.cells #[.int .i64 s,.int .i64 d,.int .i64 t,.int .i64 k,.int .i64 i,.slice a len cap] 108);have b:=au (w.alloc (.cells #[.int .i64 s,.int .i64 d,.int .i64 t,.int .i64 k,.int .i64 i,.slice a len cap] 108)) (.cells aN 39);have e:=bR (w.alloc (.cells #[.int .i64 s,.int .i64 d,.int .i64 t,.int .i64 k,.int .i64 i,.slice a len cap] 108));rw[World.size_alloc] at e;exact⟨(aF.iU w s d t k i a len cap).kept b,e,bt f b⟩
theorem Q4.put{s d t i:Int}{len:Nat}(h:Q4 w s d t k i a len cap W)(on:Only (w.heap.size+1) W W'):Below w.heap.size w W':=on.below h.2.2 (Nat.le_succ _)
theorem SE(s d t k i:Int)(a:Option Addr)(len cap:Nat)(w:World)(hk:kn k=false): Calls prog 43 #[aF.pk s d t k i a len cap] w fun e w'=>e=.returned (.tuple #[l5,.int .i64 2])∧Below w.heap.size w w':=by
 obtain⟨l,n⟩:=Ir hk;clear hk;have b:=ki (Q4.start w s d t k i a len cap);unfold aN at b;unfold aF.pk;go_enter func43,ntmps43;go_upto_region 1 with fail
 generalize (World.alloc _ _).alloc _=W0 at b⊢;obtain⟨o,p,q,r,v,x⟩:=b.o.1.all;go_wp2_with (refine aK rfl (.tmp 2) (.tmp 14) rfl rfl b.o.2.1 [] none 0 0 rfl ?_;intro y g f;have h:=ki (b.o.put f);replace g:=ki g;clear f b)
 try simp only[Exit.inBlock,Exit.then]
 refine bodyPost_ret (bS rfl _ _ (w.heap.size+1) [] none 0 0 rfl g.o) rfl ?_;exact⟨rfl,h.o⟩
theorem SF(s d t k i:Int)(a:Option Addr)(len cap:Nat)(w:World)(hk:kn k=true)(ho:aF.iB s d t k i)(hl:len<=320)(z D:List Int)(E:Int)(hS:∀W,Below w.heap.size w W->Calls prog 81 #[.int .i64 k,.slice a len cap,.int .i64 (o4 s d k len)] W fun r W'=>∃a1 l1 c1,r=.returned (.tuple #[.agg (aA z a1 l1 c1),.int .i64 E])∧aj W' a1 l1 c1 D∧Below W.heap.size W W'): Calls prog 43 #[aF.pk s d t k i a len cap] w fun r W'=>∃a1 l1 c1,r=.returned (.tuple #[.agg (aA z a1 l1 c1),.int .i64 E])∧aj W' a1 l1 c1 D∧Below w.heap.size w W':=by
 have B:=(jR k).1 hk;have C:=ki (fun W=>Ip s d k len W (decide_eq_true ho.1) (decide_eq_true ho.2.1) (decide_eq_true ho.2.2.2.1) (decide_eq_true (by omega)));replace hS:=ki hS;generalize o4 s d k len=XY at C hS;clear hk ho;have b:=ki (Q4.start w s d t k i a len cap);unfold aN at b;unfold aF.pk;rcases B with rfl|rfl;all_goals
  go_enter func43,ntmps43;go_upto_region 1 with fail
  generalize (World.alloc _ _).alloc _=W0 at b⊢;obtain⟨n,l1,o,p,q,v⟩:=b.o.1.all;go_upto_region 4 with(go_at_call 89;refine(C.o _).mono ?_;rintro e G ⟨rfl,h⟩;replace b:=ki (b.o.kept h);clear h n l1 o p q v)
  obtain⟨n,l1,o,p,q,v⟩:=b.o.1.all;go_wp2_with (first|(go_at_call 81;refine(hS.o _ b.o.2.2).mono ?_;rintro e H ⟨x,y,c2,rfl,f,l⟩;replace b:=ki (b.o.kept l);replace f:=ki f;clear l n l1 o p q v)|(refine aK rfl (.tmp 2) (.tmp 34) rfl rfl b.o.2.1 z x y c2 rfl ?_;intro I A g;have F:=ki (b.o.put g);replace A:=ki A;replace f:=ki (aj.yK g b.o.2.1.dP f.o);clear g b))
  try simp only[Exit.inBlock,Exit.then]
  refine bodyPost_ret (bS rfl _ _ (w.heap.size+1) z x y c2 rfl A.o) rfl ?_;exact⟨x,y,c2,rfl,f.o,F.o⟩
end
end Go.Proofs.YtgcojnlngchllaaGreatDoor
