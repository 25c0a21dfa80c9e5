import Derived.Test.YtgcojnlngchllaaGreatDoorJ20
import Derived.Test.YtgcojnlngchllaaGreatDoorJ24
namespace Go.Proofs.YtgcojnlngchllaaGreatDoor
open Go.RowKit Tryz
set_option linter.unusedVariables false
set_option maxRecDepth 100000
set_option maxHeartbeats 40000000
section
def l7(f:Int):Prop:=0<=f∧f<=4294967295
theorem RL(n:Int)(w:World):Calls prog 189 #[.int .i64 n] w fun e w'=>e=.returned (.bool (up 255 n))∧w'=w:=by
 by_cases h0:0<=n
 ·by_cases h1:n<=255
  ·rw[show up 255 n=true from decide_eq_true ⟨h0,h1⟩];go_enter func189,ntmps189;go_wp2;go_ret;exact⟨rfl,rfl⟩
  ·rw[show up 255 n=false from decide_eq_false (fun h=>h1 h.2)];go_enter func189,ntmps189;go_wp2;go_ret;exact⟨rfl,rfl⟩
 ·rw[show up 255 n=false from decide_eq_false (fun h=>h0 h.1)];go_enter func189,ntmps189;go_wp2;go_ret;exact⟨rfl,rfl⟩
theorem BG(n:Int)(w:World)(h0:0<=n)(h1:n<=1000000000000):Calls prog 135 #[.int .i64 n] w fun e w'=>e=.returned (.int .i64 (SM.fold n))∧w'=w:=by
 by_cases h:n=0
 ·subst h;go_enter func135,ntmps135;go_wp2;go_ret;exact⟨rfl,rfl⟩
 ·have hb:(n == 0)=false:=by simpa using h
  have a:Hid (SM.fold n=(n-1)%65535+1):=by unfold SM.fold;rw[if_neg h];exact rfl
  go_enter func135,ntmps135;go_wp2;go_ret;exact⟨DW a.o.symm,rfl⟩
theorem yE(a:Option Addr)(len cap:Nat)(zs:List Int)(w:World)(w0:aj w a len cap zs)(h:len<=2000): Calls prog 88 #[.slice a len cap] w fun e w'=>e=.returned (.int .i64 (SM.fold (SM.tot zs len)))∧w'=w:=by
 obtain⟨y,A,d,_,l⟩:=w0;by_cases hp:0<len
 ·obtain⟨b,v,rfl,f⟩:=l hp;clear l;go_enter func88,ntmps88;go_wp2;go_loop [3,4] (fun t i=>∃k:Nat,k<=len+1∧(k<=len∨len%2=1)∧k%2=0∧t=.int .i64 (SM.tot zs (if k<=len then k else len))∧i=.int .i64 k) (fun _ i=>len+1-(intOf i).toNat)
  case atStart=>exact⟨0,by omega,by omega,rfl,by simp[SM.tot],rfl⟩
  case round =>
   obtain⟨k,B,x,p,rfl,rfl⟩:=hrel;by_cases hlt:k<len
   ·have hb:=SM.lV zs d k;have n:=f k (by omega);have o:=d k;have g:=ki (SM.DJ zs k p);rw[if_pos (by omega:k<=len)];by_cases hnx:k+1<len
    ·have q:=f (k+1) (by omega);have r:=d (k+1);have s:=ki (SM.DK zs (k+1) (by omega));clear f d;generalize zs.getD k 0=z at n o g;generalize zs.getD (k+1) 0=z1 at q r s;generalize SM.tot zs k=t at hb g⊢;go_wp2;go_round
     case rel=>exact⟨k+2,by omega,by omega,by omega,by rw[if_pos (by omega:k+2<=len),s.o,g.o];exact congrArg _ (by omega),by go_num⟩
     case measure=>simp[intOf];omega
    ·obtain rfl:len=k+1:=by omega
     clear f d;generalize zs.getD k 0=z at n o g;generalize SM.tot zs k=t at hb g⊢;go_wp2;go_round
     case rel=>exact⟨k+2,by omega,by omega,by omega,by rw[if_neg (by omega:¬k+2<=k+1),g.o];exact congrArg _ (by omega),by go_num⟩
     case measure=>simp[intOf];omega
   ·have hb:=SM.lV zs d len;have e:(if k<=len then k else len)=len:=by split<;>omega
    rw[e];clear e;go_wp2_with (go_at_call 135;refine(BG _ _ (by omega) (by omega)).mono ?_;rintro e w' ⟨rfl,rfl⟩)
    go_ret;exact⟨rfl,rfl⟩
 ·obtain rfl:len=0:=by omega
  go_enter func88,ntmps88;go_wp2;refine wp_loop_rounds 1 ?_;rw[rounds_succ];go_wp2_with (go_at_call 135;refine(BG _ _ (by omega) (by omega)).mono ?_;rintro e w' ⟨rfl,rfl⟩)
  go_ret;exact⟨rfl,rfl⟩
theorem RN(n:Int)(w:World)(h:0<=n∧n<=4294967295):Calls prog 24 #[.int .i64 n] w fun e w'=>e=.returned (.bool true)∧w'=w:=by obtain⟨a,b⟩:=h;go_enter func24,ntmps24;go_wp2;go_ret;exact⟨rfl,rfl⟩
theorem RO(n:Int)(w:World)(h:n<0∨4294967295<n):Calls prog 24 #[.int .i64 n] w fun e w'=>e=.returned (.bool false)∧w'=w:=by
 by_cases h0:n<0
 ·clear h;go_enter func24,ntmps24;go_wp2;go_ret;exact⟨rfl,rfl⟩
 ·have a:4294967295<n:=by omega
  have b:0<=n:=by omega
  clear h h0;go_enter func24,ntmps24;go_wp2;go_ret;refine⟨?_,rfl⟩;first
  | rfl
  | (show Ending.returned (.bool (decide (n<=4294967295)))=_;rw[decide_eq_false (by omega)])
theorem RP(n:Int)(w:World):Calls prog 24 #[.int .i64 n] w fun e w'=>e=.returned (.bool (up 4294967295 n))∧w'=w:=by
 by_cases h:0<=n∧n<=4294967295
 ·rw[show up 4294967295 n=true from decide_eq_true h];exact RN n w h
 ·rw[show up 4294967295 n=false from decide_eq_false h];exact RO n w (by omega)
theorem kR(n:Int)(w:World):Calls prog 22 #[.int .i64 n] w fun e w'=>e=.returned (.bool (up 65535 n))∧w'=w:=by
 by_cases h:0<=n∧n<=65535
 ·rw[show up 65535 n=true from decide_eq_true h];exact uQ n w h
 ·rw[show up 65535 n=false from decide_eq_false h];exact uR n w h
theorem BH(w:World)(x0 x1 x2 x3:Int)(h0:0<=x0∧x0<=255)(h1:0<=x1∧x1<=255)(h2:0<=x2∧x2<=255)(h3:0<=x3∧x3<=255):aj (w.alloc (.cells #[.int .u8 x0,.int .u8 x1,.int .u8 x2,.int .u8 x3] 5)) (some ⟨w.heap.size,0,none⟩) 4 4 [x0,x1,x2,x3]:=by
 refine⟨rfl,by simp[maxLen],?_,(fun h=>by cases h),fun _=>⟨w.heap.size,0,rfl,fun i hi=>?_⟩⟩
 ·intro k;match k with
  | 0=>simpa using h0
  | 1=>simpa using h1
  | 2=>simpa using h2
  | 3=>simpa using h3
  | k+4=>simp
 ·rcases (by omega:i=0∨i=1∨i=2∨i=3) with rfl|rfl|rfl|rfl<;>simp
def b4(f:Int):List Int:=[f/16777216,f/65536%256,f/256%256,f%256]
theorem vv(f:Int)(w:World)(h:l7 f):Calls prog 134 #[.int .i64 f] w fun e w'=>∃B,e=.returned (.slice (some ⟨B,0,none⟩) 4 4)∧aj w' (some ⟨B,0,none⟩) 4 4 (b4 f)∧Below w.heap.size w w':=by obtain⟨d,g⟩:=h;have a:=ki (BH w (f/16777216) (f/65536%256) (f/256%256) (f%256) (by omega) (by omega) (by omega) (by omega));have b:=ki ((Below.refl w.heap.size w).alloc (Nat.le_refl _) (.cells #[.int .u8 (f/16777216),.int .u8 (f/65536%256),.int .u8 (f/256%256),.int .u8 (f%256)] 5));go_enter func134,ntmps134;go_wp2;go_ret;exact⟨_,rfl,a.o,b.o⟩
theorem vw(z:List Int)(w:World)(hz:aH z):Calls prog 69 #[.agg (av z)] w fun e w'=>∃a c,e=.returned (.slice a 16 c)∧aj w' a 16 c (aS z 8)∧Below w.heap.size w w':=by refine(qL z w hz).mono ?_;rintro e w' ⟨v,rfl,b,hb⟩;have d:Own (w.heap.size+1) w' v (aS z 8):=⟨o9 z hz 8 (by omega),by unfold bJ dG at b;rw[List.length_map] at b;exact b⟩;obtain⟨a,c,rfl,f,_⟩:=d.dw;rw[eD] at f;exact⟨a,c,by rw[eD],f,hb⟩
theorem vB(w:World)(x y:Int)(hx:0<=x∧x<=255)(hy:0<=y∧y<=255):aj (w.alloc (.cells #[.int .u8 x,.int .u8 y] 5)) (some ⟨w.heap.size,0,none⟩) 2 2 [x,y]:=by
 refine⟨rfl,by simp[maxLen],?_,(fun h=>by cases h),fun _=>⟨w.heap.size,0,rfl,fun i hi=>?_⟩⟩
 ·intro k;match k with
  | 0=>simpa using hx
  | 1=>simpa using hy
  | k+2=>simp
 ·rcases (by omega:i=0∨i=1) with rfl|rfl<;>simp
end
section
attribute [local go_sem ↓] Go.wp_at_zero Go.wp_at_succ
theorem qY(W0:World)(v:Value)(zs:List Int)(B n:Nat)(l:List Int)(w:World)(hg:bN W0 w v zs)(hl:Ints B l w)(hn:l.length=n)(hm:n<=100)(hz:zs.length<=1000000)(hw:∀k,k<n->0<=l.getD k 0∧l.getD k 0<=65535): Calls prog 93 #[v,.slice (some ⟨B,0,none⟩) n n] w fun e w'=>∃v',e=.returned v'∧bN W0 w' v' (zs++bD 2 l n):=by
 have s:=ki hg;have t:=ki hl;have E:=ki hn;have y:=ki hw;have F:=ki hz;clear hg hl hn hw hz;go_enter func93,ntmps93;go_wp2;go_loopw [0,5] (fun v i wr=>∃k:Nat,k<=n∧i=.int .i64 k∧Hid (bN W0 wr v (zs++bD 2 l k))∧Hid (Ints B l wr)) (fun _ i _=>n-(intOf i).toNat)
 case atStart=>exact⟨0,by omega,rfl,by simpa [bD] using s,t⟩
 case round =>
  obtain⟨k,M,rfl,d,HI⟩:=hrel;clear s t;by_cases hlt:k<n
  ·have h:=HI.o.cell k (by rw[E.o];exact hlt);have f:=y.o k hlt;have r:=ki (show zs++bD 2 l (k+1)=(zs++bD 2 l k)++[l.getD k 0/256,l.getD k 0%256] by rw[List.append_assoc,<-gT _ f.1 f.2];rfl);have o:=ki (show(zs++bD 2 l k).length+2<=1000000000 by rw[List.length_append,kr];have:=F.o;omega);generalize l.getD k 0=x at h f r;obtain⟨p,J⟩:=f;have K:=d.o.2.size;have O:(0:Int)<=(k:Int):=by omega
   have P:(k:Int)<(n:Int):=by omega
   have Q:IntKind.i64.wrap (x.tdiv 256)=x/256:=by rw[Int.tdiv_eq_ediv_of_nonneg p,IntKind.wrap_i64];omega
   have R:IntKind.u8.wrap (x/256)=x/256:=by rw[IntKind.wrap_u8];omega
   have S:x.tmod 256=x%256:=Int.tmod_eq_emod_of_nonneg p;have T:IntKind.u8.wrap (x%256)=x%256:=by rw[IntKind.wrap_u8];omega
   have b:Below wr.heap.size wr (wr.alloc (.cells #[.int .u8 (x/256),.int .u8 (x%256)] 5)).drew:=((Below.refl _ _).alloc (Nat.le_refl _) _).drew;have a:=ki (d.o.below b);have q:=ki (HI.o.kept b);have G:=ki (show aj (wr.alloc (.cells #[.int .u8 (x/256),.int .u8 (x%256)] 5)).drew (some ⟨wr.heap.size,0,none⟩) 2 2 [x/256,x%256] from vB wr (x/256) (x%256) (by omega) (by omega));generalize zs++bD 2 l k=Z at d a r o;obtain⟨N,hN⟩:∃N,N=(Z++[x/256,x%256]).length:=⟨_,rfl⟩;have z:=ki hN.symm;have L:wr.heap.size≠B:=World.new_ne wr _ h;clear b hN y;go_wp2;go_region_held3 (fun w'=>w'.cell? ⟨B,k,none⟩=some (.int .i64 x))
    (first
     | go_keep
     | (go_split_ands;exact g.cell (by simp[*]) (q.o.ne a.o.1)))
    (first|(refine lY rfl (.tmp 12) (.tmp 25) rfl W0.heap.size _ Z (by rfl) a.o.1 _ ⟨_,rfl⟩ 2 2 [x/256,x%256] N z.o (by rfl) G.o o.o a.o.2.size ?_;intro H c5 I A g))
   have C:=ki (show bN W0 I (.slice H N c5) (Z++[x/256,x%256]) from⟨A,a.o.2.grown g a.o.2.size (fun k e=>(a.o.1.2.lt k e).1)⟩);have D:=ki (q.o.grown a.o.1 g);clear A g;go_wp2_with fail
   go_roundw
   case rel=>exact⟨k+1,by omega,by go_num,r.o ▸ C.o,D⟩
   case measure=>simp[intOf];omega
  ·obtain rfl:k=n:=by omega
   go_wp2;go_ret;exact⟨_,rfl,d.o⟩
end
section
attribute [local go_sem ↓] Go.wp_at_zero Go.wp_at_succ
theorem H7{m n:Int}(h:up m n=true):0<=n∧n<=m:=d9 h
theorem H8(a1:Option Addr)(l1 c1:Nat)(xs:List Int)(a2:Option Addr)(l2 c2:Nat)(ys:List Int)(k n:Int)(w:World)(r1:aj w a1 l1 c1 xs)(r2:aj w a2 l2 c2 ys)(hz:(xs++ys).length<=40)(hk:up 255 k=true)(hn:up 320 n=true): Calls prog 132 #[.slice a1 l1 c1,.slice a2 l2 c2,.int .i64 k,.int .i64 n] w fun e w'=>e=.returned (.tuple #[.int .i64 (nS (xs++ys) k n),.int .i64 0])∧Below w.heap.size w w':=by
 obtain⟨C,D⟩:=H7 hk;obtain⟨E,F⟩:=H7 hn;have t:=ki r1;have x:=ki r2;have l:=ki (show([]:List Int).length+l1<=1000000000 by have:=r1.1;rw[List.length_append] at hz;simp;omega);have o:=ki (show xs.length+l2<=1000000000 by have:=r2.1;rw[List.length_append] at hz;omega);obtain⟨R,hR⟩:∃R,R=nS (xs++ys) k n:=⟨_,rfl⟩;rw[<-hR];have i:=ki (show R=SM.fold (SM.tot ((xs++ys)++bD 2 [k,n] 2) ((xs++ys).length+4)) from hR);have g:=ki (show((xs++ys)++bD 2 [k,n] 2).length=(xs++ys).length+4 by rw[List.length_append,kr]);obtain⟨N,hN⟩:∃N,N=(xs++ys).length+4:=⟨_,rfl⟩;have p:=ki (show((xs++ys)++bD 2 [k,n] 2).length=N by rw[hN];exact g.o);have q:=ki (show N<=2000 by omega);rw[<-hN] at i;have y:=ki hz;have z:=ki (bN.nil w);have r:=ki (fun W B v hg hi=>qY w v (xs++ys) B 2 [k,n] W hg hi rfl (by omega) (by have:=y.o;omega) (fun j hj=>by
  rcases (by omega:j=0∨j=1) with rfl|rfl
  ·show 0<=k∧k<=65535;omega
  ·show 0<=n∧n<=65535;omega))
 clear r1 r2 hz hN g hR;go_enter func132,ntmps132;go_upto_region 5 with(go_at_call 189;refine(RL _ _).mono ?_;rintro e w' ⟨rfl,s⟩;rw[s];clear s w')
 go_upto_region 6 with(at_builtin;refine gF rfl (.tmp 24) (.tmp 25) rfl rfl z.o rfl t.o l.o ?_;intro G H a;rw[List.nil_append] at a;replace a:=ki a)
 go_upto_region 7 with(at_builtin;refine gF rfl (.tmp 27) (.tmp 28) rfl rfl a.o rfl (x.o.below a.o.2) o.o ?_;intro I A b;replace b:=ki b)
 generalize xs++ys=Z at r i p b;go_wp2_with (first|(go_at_call 93;refine(r.o _ _ _ (b.o.below (au _ _)) (pq A k n)).mono ?_;rintro e J ⟨K,rfl,d⟩;obtain⟨L,c3,h,f,-⟩:=d.1.dw;rw[p.o] at h f;subst h;replace d:=ki d;replace f:=ki f)|(go_at_call 88;refine(yE _ _ _ _ _ f.o q.o).mono ?_;rintro e M ⟨rfl,rfl⟩))
 go_ret2;exact⟨by rw[i.o];rfl,d.o.2⟩
theorem H9(x:Int)(h0:0<=x)(h1:x<=4294967295):b4 x=nb 4 x:=by show _=[x/256 ^ 3%256,x/256 ^ 2%256,x/256 ^ 1%256,x/256 ^ 0%256];unfold b4;rw[show x/256 ^ 3%256=x/16777216 by omega,show x/256 ^ 2%256=x/65536%256 by omega,show x/256 ^ 1%256=x/256%256 by omega,show x/256 ^ 0%256=x%256 by omega]
theorem RQ(s d k n:Int)(w:World)(hs:up 4294967295 s=true)(hd:up 4294967295 d=true)(hk:up 255 k=true)(hn:up 320 n=true): Calls prog 89 #[.int .i64 s,.int .i64 d,.int .i64 k,.int .i64 n] w fun e w'=>e=.returned (.tuple #[.int .i64 (nS (bD 4 [s,d] 2) k n),.int .i64 0])∧Below w.heap.size w w':=by
 have l:=ki (fun W=>vv s W (d9 hs));have o:=ki (fun W=>vv d W (d9 hd));have e:b4 s++b4 d=bD 4 [s,d] 2:=by rw[H9 s (d9 hs).1 (d9 hs).2,H9 d (d9 hd).1 (d9 hd).2];rfl
 rw[<-e];have i:=ki (fun W a1 a2 r1 r2=>H8 a1 4 4 (b4 s) a2 4 4 (b4 d) k n W r1 r2 (by simp[b4]) hk hn);clear hk hn e;generalize b4 s=S at l i⊢;generalize b4 d=D at o i⊢;go_enter func89,ntmps89;go_upto_region 5 with(go_at_call 24;refine(RP _ _).mono ?_;rintro e w' ⟨rfl,p⟩;rw[p];clear p w')
 go_wp2_with (first|(go_at_call 134;with_reducible refine(l.o _).mono ?_;rintro e q ⟨r,rfl,b,a⟩;replace b:=ki b;replace a:=ki a)|(go_at_call 134;with_reducible refine(o.o _).mono ?_;rintro e t ⟨v,rfl,f,g⟩;replace f:=ki f;replace b:=ki (b.o.below g);replace a:=ki (bt a.o g);clear g)|(go_at_call 132;refine(i.o _ _ _ b.o f.o).mono ?_;rintro e x ⟨rfl,h⟩;replace a:=ki (bt a.o h);clear h))
 go_ret2;exact⟨rfl,a.o⟩
end
section
attribute [local go_sem ↓] Go.wp_at_zero Go.wp_at_succ gy
theorem RS(s d:List Int)(k n:Int)(w:World)(hs:aH s)(hd:aH d)(R E:Int)(hO:∀W a1 c1 a2 c2,aj W a1 16 c1 (aS s 8)->aj W a2 16 c2 (aS d 8)->Calls prog 132 #[.slice a1 16 c1,.slice a2 16 c2,.int .i64 k,.int .i64 n] W fun e w'=>e=.returned (.tuple #[.int .i64 R,.int .i64 E])∧Below W.heap.size W w'): Calls prog 80 #[.agg (av s),.agg (av d),.int .i64 k,.int .i64 n] w fun e w'=>e=.returned (.tuple #[.int .i64 R,.int .i64 E])∧Below w.heap.size w w':=by
 have x:=ki (fun w=>qM s w hs);have y:=ki (fun w=>qM d w hd);have z:=ki (fun w=>vw s w hs);have A:=ki (fun w=>vw d w hd);have r:=ki hO;clear hs hd hO;generalize aS s 8=S at z r;generalize aS d 8=D at A r;have B:=au w (.cells (av s) 23);have t:=au (w.alloc (.cells (av s) 23)) (.cells (av d) 23);have b:=ki (bt B t);have a:=ki ((uq s w).kept t);have P2:=ki (D8 d w (.cells (av s) 23));clear B t;go_enter func80,ntmps80;go_upto_region 1 with fail
 generalize (w.alloc (.cells (av s) 23)).alloc (.cells (av d) 23)=W at b a P2⊢;have v:=a.o.hl;go_upto_region 3 with(first|(go_at_call 21;(with_reducible refine(x.o _).mono ?_);rintro e C ⟨rfl,h⟩;replace b:=ki (bt b.o h);replace a:=ki (a.o.kept h);replace P2:=ki (P2.o.kept h);clear h v;have v:=P2.o.hl)|(go_at_call 21;(with_reducible refine(y.o _).mono ?_);rintro e p ⟨rfl,i⟩;replace b:=ki (bt b.o i);replace a:=ki (a.o.kept i);replace P2:=ki (P2.o.kept i);clear i v))
 replace b:=ki (bt b.o (Below.refl p.heap.size p).drew);replace a:=ki (a.o.kept (Below.refl p.heap.size p).drew);replace P2:=ki (P2.o.kept (Below.refl p.heap.size p).drew);go_region_held3 (fun w'=>(hload (.pointer (some ⟨w.heap.size,0,none⟩))).run prog w'=.ok (.agg (av s)) w'∧(hload (.pointer (some ⟨w.heap.size+1,0,none⟩))).run prog w'=.ok (.agg (av d)) w')
  (first
   | exact⟨a.o.hl,P2.o.hl⟩
   | go_keep)
  (first|(go_at_call 69;(with_reducible refine(z.o _).mono ?_);rintro e F ⟨G,c3,rfl,f,l⟩;replace b:=ki (bt b.o l);replace a:=ki (a.o.kept l);replace P2:=ki (P2.o.kept l);replace f:=ki f;clear l)|(go_at_call 69;(with_reducible refine(A.o _).mono ?_);rintro e H ⟨I,c4,rfl,q,g⟩;replace b:=ki (bt b.o g);replace a:=ki (a.o.kept g);replace P2:=ki (P2.o.kept g);replace f:=ki (f.o.below g);replace q:=ki q;clear g)|(go_at_call 132;refine(r.o _ _ _ _ _ f.o q.o).mono ?_;rintro e J ⟨rfl,o⟩;replace b:=ki (bt b.o o);replace a:=ki (a.o.kept o);replace P2:=ki (P2.o.kept o);clear o))
 go_wp2;go_ret2;exact⟨rfl,b.o⟩
end
section
def jV(z:List Int)(C:Int)(data:List Int):List Int:=if el z 0=6 then lg (el z 1) (el z 2) (el z 3) (el z 4) (el z 5) (el z 6) C++data else ng (el z 1) (el z 2) (8+data.length) C++data
theorem Ia(z:List Int)(over:Int)(data:List Int)(h:bC z data.length):jV z (bV z over data) data=eb z over data:=by
 unfold jV;split
 ·rename_i h6;exact(El z over data h h6).symm
 ·rename_i h6;exact(Em z over data h h6).symm
theorem RU(z:List Int)(data:List Int)(h:bC z data.length):jV z 0 data=ub z data:=by
 unfold jV;split
 ·rename_i h6;exact(Ei z data h h6).symm
 ·rename_i h6;exact(Ej z data h h6).symm
theorem RV(f t q c g v C:Int)(hf:0<=f∧f<=65535)(ht:0<=t∧t<=65535)(hq:0<=q∧q<=4294967295)(hc:0<=c∧c<=4294967295)(hg:0<=g∧g<=31)(hv:0<=v∧v<=65535)(hC:0<=C∧C<=65535): bD 2 [f,t,q/65536,q%65536,c/65536,c%65536,20480+g,v,C,0] 10=lg f t q c g v C:=by show(((((((((([]++nb 2 f)++nb 2 t)++nb 2 (q/65536))++nb 2 (q%65536))++nb 2 (c/65536))++nb 2 (c%65536))++nb 2 (20480+g))++nb 2 v)++nb 2 C)++nb 2 0)=_;rw[gT f hf.1 hf.2,gT t ht.1 ht.2,gT (q/65536) (by omega) (by omega),gT (q%65536) (by omega) (by omega),gT (c/65536) (by omega) (by omega),gT (c%65536) (by omega) (by omega),gT (20480+g) (by omega) (by omega),gT v hv.1 hv.2,gT C hC.1 hC.2,gT 0 (by omega) (by omega)];show [f/256,f%256,t/256,t%256,q/65536/256,q/65536%256,q%65536/256,q%65536%256,c/65536/256,c/65536%256,c%65536/256,c%65536%256,(20480+g)/256,(20480+g)%256,v/256,v%256,C/256,C%256,0,0]=_;unfold lg;rw[show q/65536/256=q/16777216 by omega,show q%65536/256=q/256%256 by omega,show q%65536%256=q%256 by omega,show c/65536/256=c/16777216 by omega,show c%65536/256=c/256%256 by omega,show c%65536%256=c%256 by omega,show(20480+g)/256=80 by omega,show(20480+g)%256=g by omega]
theorem RX(f t n C:Int)(hf:0<=f∧f<=65535)(ht:0<=t∧t<=65535)(hn:0<=n∧n<=65535)(hC:0<=C∧C<=65535):bD 2 [f,t,n,C] 4=ng f t n C:=by show(((([]++nb 2 f)++nb 2 t)++nb 2 n)++nb 2 C)=_;rw[gT f hf.1 hf.2,gT t ht.1 ht.2,gT n hn.1 hn.2,gT C hC.1 hC.2];rfl
theorem RY(w:World)(x y u v:Int):Ints w.heap.size [x,y,u,v] (w.alloc (.cells #[.int .i64 x,.int .i64 y,.int .i64 u,.int .i64 v] 3)):=jo w [x,y,u,v]
theorem RZ(w:World)(x0 x1 x2 x3 x4 x5 x6 x7 x8 jK:Int):Ints w.heap.size [x0,x1,x2,x3,x4,x5,x6,x7,x8,jK] (w.alloc (.cells #[.int .i64 x0,.int .i64 x1,.int .i64 x2,.int .i64 x3,.int .i64 x4,.int .i64 x5,.int .i64 x6,.int .i64 x7,.int .i64 x8,.int .i64 jK] 3)):=jo w [x0,x1,x2,x3,x4,x5,x6,x7,x8,jK]
theorem R3(z:List Int)(a:Option Addr)(len cap:Nat)(C:Int)(data:List Int)(w:World)(h:bC z len)(eG:el z 0=17)(hC:0<=C∧C<=65535)(hr:aj w a len cap data): Calls prog 91 #[.agg (aA z a len cap),.int .i64 C] w fun e w'=>∃v,e=.returned v∧Own w.heap.size w' v (jV z C data)∧Below w.heap.size w w':=by
 obtain⟨o,p,hl,-⟩:=h;have g:=ki (au w (.cells (aA z a len cap) 39));have f:=ki (gG w z a len cap);have i:=ki (show jV z C data=bD 2 [el z 1,el z 2,8+(len:Int),C] 4++data by rw[RX _ _ _ _ o p (by omega) hC,<-hr.1];exact if_neg (by omega));have k:=ki (fun W0 W B hg hi=>qY W0 (.slice none 0 0) [] B 4 [el z 1,el z 2,8+(len:Int),C] W hg hi rfl (by omega) (by simp) (fun j hj=>by
  rcases (by omega:j=0∨j=1∨j=2∨j=3) with rfl|rfl|rfl|rfl
  ·exact o
  ·exact p
  ·show 0<=8+(len:Int)∧8+(len:Int)<=65535;omega
  ·exact hC))
 simp only[List.nil_append] at k;have l:=ki (kr 2 [el z 1,el z 2,8+(len:Int),C] 4);generalize jV z C data=U at i⊢;generalize bD 2 [el z 1,el z 2,8+(len:Int),C] 4=Z1 at i k l;have A:(el z 0 == 17)=true:=by simpa using eG
 have q:=ki hr;have r:=ki (show Z1.length+len<=1000000000 by have:=l.o;omega);clear eG hr l hC;go_enter func91,ntmps91;go_upto_region 1 with fail
 generalize w.alloc (.cells (aA z a len cap) 39)=W at g f⊢;have s:=f.o.c0;have t:=f.o.c1;have x:=f.o.c2;have n:=f.o.c7;go_upto_region 5 with(go_at_call 93;refine(k.o W _ _ ((bN.nil W).below (au _ _)) (RY W _ _ _ _)).mono ?_;rintro e D ⟨E,rfl,b⟩;replace b:=ki b;clear s t x n)
 have n:=(f.o.kept b.o.2).c7;go_wp2_with (at_builtin;refine gF rfl (.tmp 46) (.tmp 48) rfl rfl b.o rfl ((q.o.below g.o).below b.o.2) r.o ?_;intro y F d;replace d:=ki d;clear n)
 go_ret;exact⟨y,rfl,i.o ▸ d.o.1.mono g.o.size,g.o.trans (d.o.2.mono g.o.size)⟩
theorem R4(z:List Int)(a:Option Addr)(len cap:Nat)(C:Int)(data:List Int)(w:World)(h:bC z len)(h6:el z 0=6)(hC:0<=C∧C<=65535)(hr:aj w a len cap data): Calls prog 91 #[.agg (aA z a len cap),.int .i64 C] w fun e w'=>∃v,e=.returned v∧Own w.heap.size w' v (jV z C data)∧Below w.heap.size w w':=by
 obtain⟨n,o,hl,h⟩:=h;obtain⟨-,hq,hc,hg,hv⟩:el z 0=6∧(0<=el z 3∧el z 3<=4294967295)∧(0<=el z 4∧el z 4<=4294967295)∧(0<=el z 5∧el z 5<=31)∧(0<=el z 6∧el z 6<=65535):=by
  rcases h with h|h
  ·exact h
  ·omega
 have g:=ki (au w (.cells (aA z a len cap) 39));have b:=ki (gG w z a len cap);have i:=ki (show jV z C data=bD 2 [el z 1,el z 2,el z 3/65536,el z 3%65536,el z 4/65536,el z 4%65536,20480+el z 5,el z 6,C,0] 10++data by rw[RV _ _ _ _ _ _ _ n o hq hc hg hv hC];exact if_pos h6);have k:=ki (fun W0 W B hg' hi=>qY W0 (.slice none 0 0) [] B 10 [el z 1,el z 2,el z 3/65536,el z 3%65536,el z 4/65536,el z 4%65536,20480+el z 5,el z 6,C,0] W hg' hi rfl (by omega) (by simp) (fun j hj=>by rcases (by omega:j=0∨j=1∨j=2∨j=3∨j=4∨j=5∨j=6∨j=7∨j=8∨j=9) with rfl|rfl|rfl|rfl|rfl|rfl|rfl|rfl|rfl|rfl<;>simp only[List.getD_cons_zero,List.getD_cons_succ]<;>omega));simp only[List.nil_append] at k;have l:=ki (kr 2 [el z 1,el z 2,el z 3/65536,el z 3%65536,el z 4/65536,el z 4%65536,20480+el z 5,el z 6,C,0] 10);generalize jV z C data=U at i⊢;generalize bD 2 [el z 1,el z 2,el z 3/65536,el z 3%65536,el z 4/65536,el z 4%65536,20480+el z 5,el z 6,C,0] 10=Z1 at i k l;have G:(el z 0 == 17)=false:=by rw[h6];rfl
 have p:=ki hr;have q:=ki (show Z1.length+len<=1000000000 by have:=l.o;omega);clear h6 hr l hC h;go_enter func91,ntmps91;go_upto_region 1 with fail
 generalize w.alloc (.cells (aA z a len cap) 39)=W at g b⊢;have r:=b.o.c0;have s:=b.o.c1;have t:=b.o.c2;have x:=b.o.c3;have y:=b.o.c4;have A:=b.o.c5;have D:=b.o.c6;go_upto_region 5 with(go_at_call 93;refine(k.o W _ _ ((bN.nil W).below (au _ _)) (RZ W _ _ _ _ _ _ _ _ _ _)).mono ?_;rintro e H ⟨I,rfl,d⟩;replace d:=ki d;clear r s t x y A D)
 have E:=(b.o.kept d.o.2).c7;go_wp2_with (at_builtin;refine gF rfl (.tmp 46) (.tmp 48) rfl rfl d.o rfl ((p.o.below g.o).below d.o.2) q.o ?_;intro F J f;replace f:=ki f;clear E)
 go_ret;exact⟨F,rfl,i.o ▸ f.o.1.mono g.o.size,g.o.trans (f.o.2.mono g.o.size)⟩
theorem yF(z:List Int)(a:Option Addr)(len cap:Nat)(C:Int)(data:List Int)(w:World)(h:bC z len)(hC:0<=C∧C<=65535)(hr:aj w a len cap data): Calls prog 91 #[.agg (aA z a len cap),.int .i64 C] w fun e w'=>∃v,e=.returned v∧Own w.heap.size w' v (jV z C data)∧Below w.heap.size w w':=by
 by_cases h6:el z 0=6
 ·exact R4 z a len cap C data w h h6 hC hr
 ·exact R3 z a len cap C data w h (by obtain⟨_,_,_,h|h⟩:=h<;>omega) hC hr
theorem yG(z:List Int)(a:Option Addr)(len cap:Nat)(over:Int)(data:List Int)(w:World)(h:bC z len)(ho:up 65535 over=true)(hr:aj w a len cap data): Calls prog 92 #[.agg (aA z a len cap),.int .i64 over] w fun e w'=>e=.returned (.int .i64 (bV z over data))∧Below w.heap.size w w':=by
 obtain⟨J,K⟩:=d9 ho;have g:=ki (au w (.cells (aA z a len cap) 39));have i:=ki (gG w z a len cap);have t:=hr.1;have hl:=h.2.2.1;have o:=hr.2.2.1;have p:=ki (fun W hr'=>yF z a len cap 0 data W h (by omega) hr');rw[RU z data (by rw[t];exact h)] at p;have d:bV z over data=mZ (el z 0) over (SM.fold (SM.tot (ub z data) (ub z data).length)):=rfl;have x:=zU z data;have hh:=lZ (el z 0);have y:=SM.nQ _ (SM.lV _ (Ea z data o) (ub z data).length).1;obtain⟨N,hN⟩:∃N,N=(ub z data).length:=⟨_,rfl⟩;have l:=ki (fun a' c' W (h':aj W a' N c' (ub z data))=>yE a' N c' _ W h' (by omega));rw[<-hN] at d y;have r:=ki hN.symm;generalize SM.fold (SM.tot (ub z data) N)=T at d y l;have s:=ki (fun W=>BG (over+T) W (by omega) (by omega));have I:=SM.nQ (over+T) (by omega);unfold mZ at d;generalize SM.fold (over+T)=S at d I s;generalize ub z data=U at p l r;generalize bV z over data=C at d⊢;have v:=ki hr;clear hr hN x hh o h;by_cases eG:el z 0=17
 ·have A:(el z 0 == 17)=true:=by simpa using eG
  by_cases hs:S=65535
  ·have es:(65535-S == 0)=true:=by subst hs;rfl
   have q:=ki (show C=65535 by rw[d,if_pos ⟨eG,hs⟩]);clear d eG hs;go_enter func92,ntmps92;go_upto_region 1 with fail
   generalize w.alloc (.cells (aA z a len cap) 39)=W at g i⊢;go_upto_region 2 with(first|(refine bB rfl (.tmp 2) rfl rfl i.o ?_)|(go_at_call 91;refine(p.o _ (v.o.below g.o)).mono ?_;rintro e B ⟨D,rfl,n,f⟩;obtain⟨E,c1,k,b,-⟩:=n.dw;rw[r.o] at k b;subst k;replace g:=ki (bt g.o f);replace i:=ki (i.o.kept f);replace b:=ki b;clear f n)|(go_at_call 88;refine(l.o _ _ _ b.o).mono ?_;rintro e F ⟨rfl,rfl⟩)|(go_at_call 135;refine(s.o _).mono ?_;rintro e G ⟨rfl,rfl⟩))
   have H:=i.o.c0;go_wp2;go_ret;exact⟨by rw[q.o];rfl,g.o⟩
  ·have es:(65535-S == 0)=false:=by simp;omega
   have q:=ki (show C=65535-S by rw[d,if_neg (fun h=>hs h.2)]);clear d eG hs;go_enter func92,ntmps92;go_upto_region 1 with fail
   generalize w.alloc (.cells (aA z a len cap) 39)=W at g i⊢;go_upto_region 2 with(first|(refine bB rfl (.tmp 2) rfl rfl i.o ?_)|(go_at_call 91;refine(p.o _ (v.o.below g.o)).mono ?_;rintro e B ⟨D,rfl,n,f⟩;obtain⟨E,c1,k,b,-⟩:=n.dw;rw[r.o] at k b;subst k;replace g:=ki (bt g.o f);replace i:=ki (i.o.kept f);replace b:=ki b;clear f n)|(go_at_call 88;refine(l.o _ _ _ b.o).mono ?_;rintro e F ⟨rfl,rfl⟩)|(go_at_call 135;refine(s.o _).mono ?_;rintro e G ⟨rfl,rfl⟩))
   have H:=i.o.c0;go_wp2;go_ret;exact⟨by rw[q.o];rfl,g.o⟩
 ·have A:(el z 0 == 17)=false:=by simpa using eG
  have q:=ki (show C=65535-S by rw[d,if_neg (fun h=>eG h.1)]);clear d eG;go_enter func92,ntmps92;go_upto_region 1 with fail
  generalize w.alloc (.cells (aA z a len cap) 39)=W at g i⊢;go_upto_region 2 with(first|(refine bB rfl (.tmp 2) rfl rfl i.o ?_)|(go_at_call 91;refine(p.o _ (v.o.below g.o)).mono ?_;rintro e B ⟨D,rfl,n,f⟩;obtain⟨E,c1,k,b,-⟩:=n.dw;rw[r.o] at k b;subst k;replace g:=ki (bt g.o f);replace i:=ki (i.o.kept f);replace b:=ki b;clear f n)|(go_at_call 88;refine(l.o _ _ _ b.o).mono ?_;rintro e F ⟨rfl,rfl⟩)|(go_at_call 135;refine(s.o _).mono ?_;rintro e G ⟨rfl,rfl⟩))
  have H:=i.o.c0;go_wp2;go_ret;exact⟨by rw[q.o];rfl,g.o⟩
end
section
theorem Ib(z:List Int)(len:Nat)(h:¬((el z 0=6∨el z 0=17)∧((0<=el z 1∧el z 1<=65535)∧(0<=el z 2∧el z 2<=65535)))):sf z len=1:=by
 unfold sf;rw[if_pos];rw[<-su,<-jR] at h;cases h1:kn (el z 0)
 ·rfl
 ·cases h2:ups 65535 [el z 1,el z 2]
  ·rfl
  ·exact absurd ⟨h1,h2⟩ h
theorem R5(z:List Int)(len:Nat)(h6:el z 0=6)(h1:up 65535 (el z 1)=true)(h2:up 65535 (el z 2)=true):sf z len=if os z=false then 1 else if 300<len then 3 else 0:=by unfold sf;rw[if_neg,if_pos h6];rw[(jR _).2 (.inl h6),(su _ _ _).2 ⟨d9 h1,d9 h2⟩];decide
theorem R6(z:List Int)(len:Nat)(eG:el z 0=17)(h1:up 65535 (el z 1)=true)(h2:up 65535 (el z 2)=true):sf z len=if ups 0 [el z 3,el z 4,el z 5,el z 6]=false then 2 else if 300<len then 3 else 0:=by unfold sf;rw[if_neg,if_neg (by omega)];rw[(jR _).2 (.inr eG),(su _ _ _).2 ⟨d9 h1,d9 h2⟩];decide
theorem qZ(z:List Int)(h:¬(((0<=el z 3∧el z 3<=4294967295)∧(0<=el z 4∧el z 4<=4294967295))∧(0<=el z 5∧el z 5<=31)∧(0<=el z 6∧el z 6<=65535))):os z=false:=Bool.eq_false_iff.2 (fun h'=>h ((Aa z).1 h'))
theorem yH(z:List Int)(h:¬(el z 3=0∧el z 4=0∧el z 5=0∧el z 6=0)):ups 0 [el z 3,el z 4,el z 5,el z 6]=false:=Bool.eq_false_iff.2 (fun h'=>h (by have:=(z8 0 _ _ _ _).1 h';omega))
theorem R7(z:List Int)(a:Option Addr)(len cap:Nat)(w:World)(_hm:len<=maxLen)(h6:¬el z 0=6)(eG:¬el z 0=17): Calls prog 50 #[.agg (aA z a len cap)] w fun e w'=>e=.returned (.int .i64 (sf z len))∧Below w.heap.size w w':=by
 unfold maxLen at _hm;have d:=ki (au w (.cells (aA z a len cap) 39));have b:=ki (gG w z a len cap);obtain⟨R,hR⟩:∃R,R=sf z len:=⟨_,rfl⟩;rw[<-hR];have g:=ki (show R=1 by rw[hR,Ib z len (by omega)]);have i:(el z 0 != 6)=true:=by simpa using h6
 have h:(el z 0 != 17)=true:=by simpa using eG
 clear hR h6 eG;go_enter func50,ntmps50;go_upto_region 1 with fail
 generalize w.alloc (.cells (aA z a len cap) 39)=W at d b⊢;have k:=b.o.c0;have l:=b.o.c1;have n:=b.o.c2;have o:=b.o.c3;have p:=b.o.c4;have q:=b.o.c5;have r:=b.o.c6;have s:=b.o.c7;go_wp2_with (go_at_call 22;refine(kR _ _).mono ?_;rintro e w' ⟨rfl,f⟩;rw[f];clear f w')
 go_ret;exact⟨by rw[g.o];rfl,d.o⟩
theorem Ic(z:List Int)(a:Option Addr)(len cap:Nat)(w:World)(_hm:len<=maxLen)(h:el z 0=6∨el z 0=17)(hp:up 65535 (el z 1)=false∨up 65535 (el z 2)=false): Calls prog 50 #[.agg (aA z a len cap)] w fun e w'=>e=.returned (.int .i64 (sf z len))∧Below w.heap.size w w':=by
 unfold maxLen at _hm;have f:=ki (au w (.cells (aA z a len cap) 39));have b:=ki (gG w z a len cap);obtain⟨R,hR⟩:∃R,R=sf z len:=⟨_,rfl⟩;rw[<-hR];have g:=ki (show R=1 by rw[hR,Ib z len (fun h'=>?_)];have k:=(qG _ _).2 h'.2.1;have l:=(qG _ _).2 h'.2.2;rw[k,l] at hp;rcases hp with h|h<;>cases h);clear hR;have n:(el z 0 != 6)=decide (el z 0=17):=by rcases h with h|h<;>rw[h]<;>rfl
 generalize hu1:up 65535 (el z 1)=u1 at hp;rcases h with h|h;case' inl =>
  have o:(el z 0 != 6)=false:=by rw[h];rfl
  have i:(el z 0 != 17)=true:=by rw[h];rfl
 case' inr =>
  have o:(el z 0 != 6)=true:=by rw[h];rfl
  have i:(el z 0 != 17)=false:=by rw[h];rfl
 all_goals
  clear n h;cases u1
  ·clear hp;go_enter func50,ntmps50;go_upto_region 1 with fail
   generalize w.alloc (.cells (aA z a len cap) 39)=W at f b⊢;have p:=b.o.c0;have q:=b.o.c1;have r:=b.o.c2;have s:=b.o.c3;have t:=b.o.c4;have v:=b.o.c5;have x:=b.o.c6;have y:=b.o.c7;go_wp2_with (go_at_call 22;refine(kR _ _).mono ?_;rintro e w' ⟨rfl,d⟩;rw[d];clear d w')
   go_ret;exact⟨by rw[g.o];rfl,f.o⟩
  ·have A:up 65535 (el z 2)=false:=by simpa using hp
   clear hp;go_enter func50,ntmps50;go_upto_region 1 with fail
   generalize w.alloc (.cells (aA z a len cap) 39)=W at f b⊢;have p:=b.o.c0;have q:=b.o.c1;have r:=b.o.c2;have s:=b.o.c3;have t:=b.o.c4;have v:=b.o.c5;have x:=b.o.c6;have y:=b.o.c7;go_wp2_with (go_at_call 22;refine(kR _ _).mono ?_;rintro e w' ⟨rfl,d⟩;rw[d];clear d w')
   go_ret;exact⟨by rw[g.o];rfl,f.o⟩
theorem R8(z:List Int)(a:Option Addr)(len cap:Nat)(w:World)(hm:len<=maxLen)(h6:el z 0=6)(hu1:up 65535 (el z 1)=true)(hu2:up 65535 (el z 2)=true): Calls prog 50 #[.agg (aA z a len cap)] w fun e w'=>e=.returned (.int .i64 (sf z len))∧Below w.heap.size w w':=by
 unfold maxLen at hm;have d:=ki (au w (.cells (aA z a len cap) 39));have f:=ki (gG w z a len cap);obtain⟨R,hR⟩:∃R,R=sf z len:=⟨_,rfl⟩;rw[<-hR];rw[R5 z len h6 hu1 hu2] at hR;have n:(el z 0 != 6)=false:=by rw[h6];rfl
 have k:(el z 0 == 17)=false:=by rw[h6];rfl
 have l:(el z 0 != 17)=true:=by rw[h6];rfl
 generalize Ie:up 65535 (el z 6)=tT;clear h6;go_enter func50,ntmps50;go_upto_region 1 with fail
 generalize w.alloc (.cells (aA z a len cap) 39)=W at d f⊢;have o:=f.o.c0;have p:=f.o.c1;have q:=f.o.c2;have r:=f.o.c3;have s:=f.o.c4;have t:=f.o.c5;have v:=f.o.c6;have x:=f.o.c7;go_upto_region 8 with(go_at_call 22;refine(kR _ _).mono ?_;rintro e w' ⟨rfl,g⟩;rw[g];clear g w')
 by_cases c0:el z 3<0
 ·have b:=ki (show R=1 by rw[hR,if_pos (qZ z (by omega))]);clear hR;go_wp2;go_ret;exact⟨by rw[b.o];rfl,d.o⟩
 ·skip
  by_cases c1:4294967295<el z 3
  ·have b:=ki (show R=1 by rw[hR,if_pos (qZ z (by omega))]);clear hR;go_wp2;go_ret;exact⟨by rw[b.o];rfl,d.o⟩
  ·skip
   by_cases c2:el z 4<0
   ·have b:=ki (show R=1 by rw[hR,if_pos (qZ z (by omega))]);clear hR;go_wp2;go_ret;exact⟨by rw[b.o];rfl,d.o⟩
   ·skip
    by_cases c3:4294967295<el z 4
    ·have b:=ki (show R=1 by rw[hR,if_pos (qZ z (by omega))]);clear hR;go_wp2;go_ret;exact⟨by rw[b.o];rfl,d.o⟩
    ·skip
     by_cases c4:el z 5<0
     ·have b:=ki (show R=1 by rw[hR,if_pos (qZ z (by omega))]);clear hR;go_wp2;go_ret;exact⟨by rw[b.o];rfl,d.o⟩
     ·skip
      by_cases c5:31<el z 5
      ·have b:=ki (show R=1 by rw[hR,if_pos (qZ z (by omega))]);clear hR;go_wp2;go_ret;exact⟨by rw[b.o];rfl,d.o⟩
      ·skip
       cases tT
       ·have b:=ki (show R=1 by rw[hR,if_pos (qZ z (fun h=>by have:=(qG 65535 (el z 6)).2 h.2.2;rw[Ie] at this;cases this))]);clear hR;go_wp2;go_ret;exact⟨by rw[b.o];rfl,d.o⟩
       ·have i:os z=true:=(Aa z).2 ⟨⟨⟨by omega,by omega⟩,by omega,by omega⟩,⟨by omega,by omega⟩,d9 Ie⟩;rw[if_neg (by rw[i];decide)] at hR;clear i;by_cases hl:300<len
        ·have b:=ki (show R=3 by rw[hR,if_pos hl]);clear hR;go_wp2;go_ret;exact⟨by rw[b.o];rfl,d.o⟩
        ·have b:=ki (show R=0 by rw[hR,if_neg hl]);clear hR;go_wp2;go_ret;exact⟨by rw[b.o];rfl,d.o⟩
theorem R9(z:List Int)(a:Option Addr)(len cap:Nat)(w:World)(hm:len<=maxLen)(eG:el z 0=17)(hu1:up 65535 (el z 1)=true)(hu2:up 65535 (el z 2)=true): Calls prog 50 #[.agg (aA z a len cap)] w fun e w'=>e=.returned (.int .i64 (sf z len))∧Below w.heap.size w w':=by
 unfold maxLen at hm;have g:=ki (au w (.cells (aA z a len cap) 39));have d:=ki (gG w z a len cap);obtain⟨R,hR⟩:∃R,R=sf z len:=⟨_,rfl⟩;rw[<-hR];rw[R6 z len eG hu1 hu2] at hR;have v:(el z 0 != 6)=true:=by rw[eG];rfl
 have s:(el z 0 == 17)=true:=by rw[eG];rfl
 have t:(el z 0 != 17)=false:=by rw[eG];rfl
 clear eG;go_enter func50,ntmps50;go_upto_region 1 with fail
 generalize w.alloc (.cells (aA z a len cap) 39)=W at g d⊢;have x:=d.o.c0;have y:=d.o.c1;have A:=d.o.c2;have o:=d.o.c3;have p:=d.o.c4;have q:=d.o.c5;have r:=d.o.c6;have B:=d.o.c7;go_upto_region 5 with(go_at_call 22;refine(kR _ _).mono ?_;rintro e w' ⟨rfl,f⟩;rw[f];clear f w')
 by_cases c3:el z 3=0;case neg =>
  have h:(el z 3 != 0)=true:=by simpa using c3
  have b:=ki (show R=2 by rw[hR,if_pos (yH z (by omega))]);clear hR;go_wp2;go_ret;exact⟨by rw[b.o];rfl,g.o⟩
 have h:(el z 3 != 0)=false:=by rw[c3];rfl
 by_cases c4:el z 4=0;case neg =>
  have i:(el z 4 != 0)=true:=by simpa using c4
  have b:=ki (show R=2 by rw[hR,if_pos (yH z (by omega))]);clear hR;go_wp2;go_ret;exact⟨by rw[b.o];rfl,g.o⟩
 have i:(el z 4 != 0)=false:=by rw[c4];rfl
 by_cases c5:el z 5=0;case neg =>
  have k:(el z 5 != 0)=true:=by simpa using c5
  have b:=ki (show R=2 by rw[hR,if_pos (yH z (by omega))]);clear hR;go_wp2;go_ret;exact⟨by rw[b.o];rfl,g.o⟩
 have k:(el z 5 != 0)=false:=by rw[c5];rfl
 by_cases c6:el z 6=0;case neg =>
  have l:(el z 6 != 0)=true:=by simpa using c6
  have b:=ki (show R=2 by rw[hR,if_pos (yH z (by omega))]);clear hR;go_wp2;go_ret;exact⟨by rw[b.o];rfl,g.o⟩
 have l:(el z 6 != 0)=false:=by rw[c6];rfl
 have n:up 65535 (el z 6)=true:=(qG _ _).2 (by omega);rw[if_neg (by rw[(z8 0 _ _ _ _).2 (by omega)];decide)] at hR;rw[c3] at o;rw[c4] at p;rw[c5] at q;rw[c6] at r n;have C:((0:Int) != 0)=false:=rfl;clear h i k l c3 c4 c5 c6;by_cases hl:300<len
 ·have b:=ki (show R=3 by rw[hR,if_pos hl]);clear hR;go_wp2_with (go_at_call 22;refine(kR _ _).mono ?_;rintro e w' ⟨rfl,f⟩;rw[f];clear f w')
  go_ret;exact⟨by rw[b.o];rfl,g.o⟩
 ·have b:=ki (show R=0 by rw[hR,if_neg hl]);clear hR;go_wp2_with (go_at_call 22;refine(kR _ _).mono ?_;rintro e w' ⟨rfl,f⟩;rw[f];clear f w')
  go_ret;exact⟨by rw[b.o];rfl,g.o⟩
theorem nI(z:List Int)(a:Option Addr)(len cap:Nat)(w:World)(hm:len<=maxLen): Calls prog 50 #[.agg (aA z a len cap)] w fun e w'=>e=.returned (.int .i64 (sf z len))∧Below w.heap.size w w':=by
 by_cases h:el z 0=6∨el z 0=17
 ·cases h1:up 65535 (el z 1)
  ·exact Ic z a len cap w hm h (.inl h1)
  ·cases h2:up 65535 (el z 2)
   ·exact Ic z a len cap w hm h (.inr h2)
   ·rcases h with h|h
    ·exact R8 z a len cap w hm h h1 h2
    ·exact R9 z a len cap w hm h h1 h2
 ·exact R7 z a len cap w hm (fun h'=>h (.inl h')) (fun h'=>h (.inr h'))
end
end Go.Proofs.YtgcojnlngchllaaGreatDoor
