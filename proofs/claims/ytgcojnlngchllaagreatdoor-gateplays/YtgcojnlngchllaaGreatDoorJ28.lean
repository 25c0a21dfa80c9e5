import Derived.Test.YtgcojnlngchllaaGreatDoorJ07
import Derived.Test.YtgcojnlngchllaaGreatDoorJ26
import Derived.Test.YtgcojnlngchllaaGreatDoorJ06
namespace Go.Proofs.YtgcojnlngchllaaGreatDoor
open Go.RowKit Tryz
set_option linter.unusedVariables false
set_option maxRecDepth 100000
set_option maxHeartbeats 40000000
namespace aB
attribute [local go_sem ↓] Go.wp_at_zero Go.wp_at_succ
def wb(l:List Int):Nat->List Int
 | 0=>[]
 | k+1=>wb l k++[l.getD k 0/256,l.getD k 0%256]
theorem q9(l:List Int)(k:Nat):(wb l k).length=2*k:=by
 induction k with
 | zero=>rfl
 | succ k ih=>simp only[wb,List.length_append,List.length_cons,List.length_nil,ih];omega
theorem vB(w:World)(x y:Int)(hx:0<=x∧x<=255)(hy:0<=y∧y<=255):aj (w.alloc (.cells #[.int .u8 x,.int .u8 y] 5)) (some ⟨w.heap.size,0,none⟩) 2 2 [x,y]:=by
 refine⟨rfl,by simp[maxLen],?_,(fun h=>by cases h),fun _=>⟨w.heap.size,0,rfl,fun i hi=>?_⟩⟩
 ·intro k;match k with
  | 0=>simpa using hx
  | 1=>simpa using hy
  | k+2=>simp
 ·rcases (by omega:i=0∨i=1) with rfl|rfl<;>simp
def ru(B n:Nat)(l:List Int)(w:World):Prop:=∀k,k<n->w.cell? ⟨B,k,none⟩=some (.int .i64 (l.getD k 0))
theorem ru.lt{B n:Nat}{l:List Int}{w:World}(h:ru B n l w)(hn:0<n):B<w.heap.size:=World.block_lt_of_cell? w _ (h 0 hn)
theorem ru.kept{B n:Nat}{l:List Int}{w w':World}(h:ru B n l w)(hb:Below w.heap.size w w'):ru B n l w':=fun k hk=>by rw[hb.cell (p:=⟨B,k,none⟩) (h.lt (by omega))];exact h k hk
theorem qY(B n:Nat)(hn:n<=100)(l:List Int)(w:World)(hl:ru B n l w)(hw:∀k,k<n->0<=l.getD k 0∧l.getD k 0<=65535): Calls prog 93 #[.slice none 0 0,.slice (some ⟨B,0,none⟩) n n] w fun e w'=>∃v,e=.returned v∧Own w.heap.size w' v (wb l n)∧Below w.heap.size w w':=by
 go_enter func93,ntmps93;go_wp2;go_loopw [0,5] (fun v i wr=>∃k:Nat,k<=n∧i=.int .i64 k∧Hid (Own w.heap.size wr v (wb l k))∧Hid (Below w.heap.size w wr)) (fun _ i _=>n-(intOf i).toNat)
 case atStart=>exact⟨0,by omega,rfl,Own.nil _ _,Below.refl _ _⟩
 case round =>
  obtain⟨k,L,rfl,s,b⟩:=hrel;by_cases hlt:k<n
  ·have d:=(hl.kept b.o) k hlt;have y:=hw k hlt;have z:=ki (show wb l (k+1)=wb l k++[l.getD k 0/256,l.getD k 0%256] from rfl);have A:=ki (show(wb l k).length+2<=1000000000 by rw[q9];omega);generalize l.getD k 0=x at d y z;obtain⟨f,J⟩:=y;have o:=b.o.size;have M:(0:Int)<=(k:Int):=by omega
   have N:(k:Int)<(n:Int):=by omega
   have O:IntKind.i64.wrap (x.tdiv 256)=x/256:=by rw[Int.tdiv_eq_ediv_of_nonneg f,IntKind.wrap_i64];omega
   have P:IntKind.u8.wrap (x/256)=x/256:=by rw[IntKind.wrap_u8];omega
   have Q:x.tmod 256=x%256:=Int.tmod_eq_emod_of_nonneg f;have R:IntKind.u8.wrap (x%256)=x%256:=by rw[IntKind.wrap_u8];omega
   have a:Below wr.heap.size wr (wr.alloc (.cells #[.int .u8 (x/256),.int .u8 (x%256)] 5)).drew:=((Below.refl _ _).alloc (Nat.le_refl _) _).drew;have C:=ki (s.o.kept a);have D:=ki (b.o.trans (a.mono o));have H:=ki (show aj (wr.alloc (.cells #[.int .u8 (x/256),.int .u8 (x%256)] 5)).drew (some ⟨wr.heap.size,0,none⟩) 2 2 [x/256,x%256] from vB wr (x/256) (x%256) (by omega) (by omega));have I:=ki (show(wb l k++[x/256,x%256]).length=2*k+2 by rw[List.length_append,q9];rfl);have p:=ki (show w.heap.size<=(wr.alloc (.cells #[.int .u8 (x/256),.int .u8 (x%256)] 5)).drew.heap.size from Nat.le_trans o a.size);have K:wr.heap.size≠B:=World.new_ne wr _ d;have E:=ki (show ∀r,(∀g,r=some g->w.heap.size<=g)->some B≠r from fun r hr e=>by have:=hr B e.symm;have:=hl.lt (by omega);omega);have q:=ki (fun g h=>(s.o.2.lt g h).1);clear hl hw a;go_wp2;go_region_held3 (fun w'=>w'.cell? ⟨B,k,none⟩=some (.int .i64 x))
    (first
     | go_keep
     | (go_split_ands;exact F.cell (by simp[*]) (E.o _ q.o)))
    (first|(refine lY rfl (.tmp 12) (.tmp 25) rfl w.heap.size _ (wb l k) (by rfl) C.o _ ⟨_,rfl⟩ 2 2 [x/256,x%256] (2*k+2) I.o (by rfl) H.o A.o p.o ?_;intro S c5 T t F))
   have G:=ki (D.o.grown F p.o (fun g h=>q.o g h));replace t:=ki t;go_wp2_with fail
   go_roundw
   case rel=>exact⟨k+1,by omega,by go_num,z.o ▸ t.o,G⟩
   case measure=>simp[intOf];omega
  ·obtain rfl:k=n:=by omega
   go_wp2;go_ret;exact⟨_,rfl,s.o,b.o⟩
theorem vw(z:List Int)(w:World)(hz:aH z):Calls prog 69 #[.agg (av z)] w fun e w'=>∃a c,e=.returned (.slice a 16 c)∧aj w' a 16 c (aS z 8)∧Below w.heap.size w w':=by refine(qL z w hz).mono ?_;rintro e w' ⟨v,rfl,b,hb⟩;have d:Own (w.heap.size+1) w' v (aS z 8):=⟨o9 z hz 8 (by omega),by unfold bJ dG at b;rw[List.length_map] at b;exact b⟩;obtain⟨a,c,rfl,f,_⟩:=d.dw;rw[eD] at f;exact⟨a,c,by rw[eD],f,hb⟩
theorem SG(n k h:Int)(hh:0<=h∧h<=255):wb [24576,0,n,k*256+h] 4=h8 n k h:=by
 have a:(k*256+h)/256=k:=by omega
 have b:(k*256+h)%256=h:=by omega
 show((([]++[(24576:Int)/256,24576%256])++[(0:Int)/256,0%256])++[n/256,n%256])++[(k*256+h)/256,(k*256+h)%256]=h8 n k h;rw[a,b];rfl
theorem SH(w:World)(x0 x1 x2 x3:Int):ru w.heap.size 4 [x0,x1,x2,x3] (w.alloc (.cells #[.int .i64 x0,.int .i64 x1,.int .i64 x2,.int .i64 x3] 3)):=by intro k a;rcases (by omega:k=0∨k=1∨k=2∨k=3) with rfl|rfl|rfl|rfl<;>simp
theorem SI(s d:List Int)(h k:Int)(a:Option Addr)(len cap:Nat)(body:List Int)(w:World)(ho:iB s d h k)(hl:len<=320)(hr:aj w a len cap body): Calls prog 46 #[pk s d h k a len cap] w fun e w'=>∃v,e=.returned v∧Own w.heap.size w' v (eu s d h k body)∧Below w.heap.size w w':=by
 have p:=ki (au w (.cells (cB s d h k a len cap) 83));have i:=ki (iU w s d h k a len cap);have H:=ki (fun w=>vw s w ho.1);have I:=ki (fun w=>vw d w ho.2.1);have F:=hr.1;have q:=ki (show eu s d h k body=((h8 len k h++aS s 8)++aS d 8)++body by unfold eu;rw[F]);have J:=ki (SG len k h ho.2.2.1);obtain⟨-,-,⟨T,U⟩,⟨V,X⟩⟩:=ho;have K:=ki (fun B W h'=>qY B 4 (by omega) [24576,0,(len:Int),k*256+h] W h' (by
  intro j Y;rcases (by omega:j=0∨j=1∨j=2∨j=3) with rfl|rfl|rfl|rfl
  ·simp
  ·simp
  ·simp;omega
  ·simp;omega))
 rw[J.o] at K;have r:=ki (eD s 8);have t:=ki (eD d 8);generalize aS s 8=S at H q r;generalize aS d 8=D at I q t;have M:=ki hr;unfold pk;clear hr J;go_enter func46,ntmps46;go_upto_region 1 with fail
 generalize w.alloc (.cells (cB s d h k a len cap) 83)=W at p i⊢;have N:=i.o.hop;have O:=i.o.kind;have L:=i.o.body;go_upto_region 3 with(go_at_call 93;refine(K.o _ _ (SH W 24576 0 len (k*256+h))).mono ?_;rintro e P ⟨Q,rfl,G,x⟩;have y:=bt (au W (.cells #[.int .i64 24576,.int .i64 0,.int .i64 (len:Int),.int .i64 (k*256+h)] 3)) x;rw[World.size_alloc] at G;have f:=ki (show bN W P Q (h8 len k h) from⟨G.mono (Nat.le_succ _),y⟩);clear x y G N O L)
 have z:=ki (i.o.kept f.o.2);go_upto_region 4 with(first|(refine qj rfl (.tmp 17) rfl rfl z.o ?_)|(go_at_call 69;with_reducible refine(H.o _).mono ?_;rintro e Z ⟨a2,c2,rfl,l,A⟩;replace f:=ki (f.o.below A);replace l:=ki l;clear A)|(at_builtin;refine gF rfl (.tmp 16) (.tmp 19) rfl rfl f.o rfl l.o (by simp[h8]) ?_;intro v3 w3 b;replace b:=ki b))
 clear z f l;have C:=ki (i.o.kept b.o.2);go_upto_region 5 with(first|(refine ql rfl (.tmp 22) rfl rfl C.o ?_)|(go_at_call 69;with_reducible refine(I.o _).mono ?_;rintro e w4 ⟨a4,c4,rfl,n,E⟩;replace b:=ki (b.o.below E);replace n:=ki n;clear E)|(at_builtin;refine gF rfl (.tmp 21) (.tmp 24) rfl rfl b.o rfl n.o (by simp[h8,r.o]) ?_;intro v5 w5 g;replace g:=ki g))
 clear C b n;have L:=(i.o.kept g.o.2).body;go_wp2_with (at_builtin;refine gF rfl (.tmp 26) (.tmp 28) rfl rfl g.o rfl ((M.o.below p.o).below g.o.2) (by simp[h8,r.o,t.o];omega) ?_;intro R w8 o;replace o:=ki o)
 go_ret;exact⟨R,rfl,q.o ▸ o.o.1.mono p.o.size,p.o.trans (o.o.2.mono p.o.size)⟩
end aB
namespace aF
attribute [local go_sem ↓] Go.wp_at_zero Go.wp_at_succ
def wb(l:List Int):Nat->List Int
 | 0=>[]
 | k+1=>wb l k++[l.getD k 0/256,l.getD k 0%256]
theorem q9(l:List Int)(k:Nat):(wb l k).length=2*k:=by
 induction k with
 | zero=>rfl
 | succ k ih=>simp only[wb,List.length_append,List.length_cons,List.length_nil,ih];omega
theorem vB(w:World)(x y:Int)(hx:0<=x∧x<=255)(hy:0<=y∧y<=255):aj (w.alloc (.cells #[.int .u8 x,.int .u8 y] 5)) (some ⟨w.heap.size,0,none⟩) 2 2 [x,y]:=by
 refine⟨rfl,by simp[maxLen],?_,(fun h=>by cases h),fun _=>⟨w.heap.size,0,rfl,fun i hi=>?_⟩⟩
 ·intro k;match k with
  | 0=>simpa using hx
  | 1=>simpa using hy
  | k+2=>simp
 ·rcases (by omega:i=0∨i=1) with rfl|rfl<;>simp
def rz(B:Nat)(l:List Int)(w:World):Prop:=∀k,k<6->w.cell? ⟨B,k,none⟩=some (.int .i64 (l.getD k 0))
theorem rz.lt{B:Nat}{l:List Int}{w:World}(h:rz B l w):B<w.heap.size:=World.block_lt_of_cell? w _ (h 0 (by omega))
theorem rz.kept{B:Nat}{l:List Int}{w w':World}(h:rz B l w)(hb:Below w.heap.size w w'):rz B l w':=fun k hk=>by rw[hb.cell (p:=⟨B,k,none⟩) h.lt];exact h k hk
theorem qY(B:Nat)(l:List Int)(w:World)(hl:rz B l w)(hw:∀k,k<6->0<=l.getD k 0∧l.getD k 0<=65535): Calls prog 93 #[.slice none 0 0,.slice (some ⟨B,0,none⟩) 6 6] w fun e w'=>∃v,e=.returned v∧Own w.heap.size w' v (wb l 6)∧Below w.heap.size w w':=by
 go_enter func93,ntmps93;go_wp2;go_loopw [0,5] (fun v i wr=>∃k:Nat,k<=6∧i=.int .i64 k∧Hid (Own w.heap.size wr v (wb l k))∧Hid (Below w.heap.size w wr)) (fun _ i _=>6-(intOf i).toNat)
 case atStart=>exact⟨0,by omega,rfl,Own.nil _ _,Below.refl _ _⟩
 case round =>
  obtain⟨k,K,rfl,q,b⟩:=hrel;by_cases hlt:k<6
  ·have d:=(hl.kept b.o) k hlt;have t:=hw k hlt;have y:=ki (show wb l (k+1)=wb l k++[l.getD k 0/256,l.getD k 0%256] from rfl);have z:=ki (show(wb l k).length+2<=1000000000 by rw[q9];omega);generalize l.getD k 0=x at d t y;obtain⟨f,I⟩:=t;have n:=b.o.size;have L:(0:Int)<=(k:Int):=by omega
   have M:(k:Int)<6:=by omega
   have N:IntKind.i64.wrap (x.tdiv 256)=x/256:=by rw[Int.tdiv_eq_ediv_of_nonneg f,IntKind.wrap_i64];omega
   have O:IntKind.u8.wrap (x/256)=x/256:=by rw[IntKind.wrap_u8];omega
   have P:x.tmod 256=x%256:=Int.tmod_eq_emod_of_nonneg f;have Q:IntKind.u8.wrap (x%256)=x%256:=by rw[IntKind.wrap_u8];omega
   have a:Below wr.heap.size wr (wr.alloc (.cells #[.int .u8 (x/256),.int .u8 (x%256)] 5)).drew:=((Below.refl _ _).alloc (Nat.le_refl _) _).drew;have A:=ki (q.o.kept a);have C:=ki (b.o.trans (a.mono n));have G:=ki (show aj (wr.alloc (.cells #[.int .u8 (x/256),.int .u8 (x%256)] 5)).drew (some ⟨wr.heap.size,0,none⟩) 2 2 [x/256,x%256] from vB wr (x/256) (x%256) (by omega) (by omega));have H:=ki (show(wb l k++[x/256,x%256]).length=2*k+2 by rw[List.length_append,q9];rfl);have o:=ki (show w.heap.size<=(wr.alloc (.cells #[.int .u8 (x/256),.int .u8 (x%256)] 5)).drew.heap.size from Nat.le_trans n a.size);have J:wr.heap.size≠B:=World.new_ne wr _ d;have D:=ki (show ∀r,(∀g,r=some g->w.heap.size<=g)->some B≠r from fun r hr e=>by have:=hr B e.symm;have:=hl.lt;omega);have p:=ki (fun g h=>(q.o.2.lt g h).1);clear hl hw a;go_wp2;go_region_held3 (fun w'=>w'.cell? ⟨B,k,none⟩=some (.int .i64 x))
    (first
     | go_keep
     | (go_split_ands;exact E.cell (by simp[*]) (D.o _ p.o)))
    (first|(refine lY rfl (.tmp 12) (.tmp 25) rfl w.heap.size _ (wb l k) (by rfl) A.o _ ⟨_,rfl⟩ 2 2 [x/256,x%256] (2*k+2) H.o (by rfl) G.o z.o o.o ?_;intro R c5 S s E))
   have F:=ki (C.o.grown E o.o (fun g h=>p.o g h));replace s:=ki s;go_wp2_with fail
   go_roundw
   case rel=>exact⟨k+1,by omega,by go_num,y.o ▸ s.o,F⟩
   case measure=>simp[intOf];omega
  ·obtain rfl:k=6:=by omega
   go_wp2;go_ret;exact⟨_,rfl,q.o,b.o⟩
end aF
namespace aF
theorem au(w:World)(o:Obj):Below w.heap.size w (w.alloc o):=(Below.refl _ _).alloc (Nat.le_refl _) _
theorem BH(w:World)(x0 x1 x2 x3:Int)(h0:0<=x0∧x0<=255)(h1:0<=x1∧x1<=255)(h2:0<=x2∧x2<=255)(h3:0<=x3∧x3<=255):aj (w.alloc (.cells #[.int .u8 x0,.int .u8 x1,.int .u8 x2,.int .u8 x3] 5)) (some ⟨w.heap.size,0,none⟩) 4 4 [x0,x1,x2,x3]:=by
 refine⟨rfl,by simp[maxLen],?_,(fun h=>by cases h),fun _=>⟨w.heap.size,0,rfl,fun i hi=>?_⟩⟩
 ·intro k;match k with
  | 0=>simpa using h0
  | 1=>simpa using h1
  | 2=>simpa using h2
  | 3=>simpa using h3
  | k+4=>simp
 ·rcases (by omega:i=0∨i=1∨i=2∨i=3) with rfl|rfl|rfl|rfl<;>simp
def b4(f:Int):List Int:=[f/16777216,f/65536%256,f/256%256,f%256]
theorem vv(f:Int)(w:World)(h:l7 f):Calls prog 134 #[.int .i64 f] w fun e w'=>∃B,e=.returned (.slice (some ⟨B,0,none⟩) 4 4)∧aj w' (some ⟨B,0,none⟩) 4 4 (b4 f)∧Below w.heap.size w w':=by obtain⟨d,g⟩:=h;have a:=ki (BH w (f/16777216) (f/65536%256) (f/256%256) (f%256) (by omega) (by omega) (by omega) (by omega));have b:=ki ((Below.refl w.heap.size w).alloc (Nat.le_refl _) (.cells #[.int .u8 (f/16777216),.int .u8 (f/65536%256),.int .u8 (f/256%256),.int .u8 (f%256)] 5));go_enter func134,ntmps134;go_wp2;go_ret;exact⟨_,rfl,a.o,b.o⟩
theorem SK(s d t k i n c:Int)(hk:0<=k∧k<=255):(wb [17664,n,i,16384,t*256+k,c] 6++b4 s)++b4 d=P4.hd s d t k i n c:=by
 have a:(t*256+k)/256=t:=by omega
 have b:(t*256+k)%256=k:=by omega
 simp[wb,b4,P4.hd,a,b]
theorem SL(w:World)(x0 x1 x2 x3 x4 x5:Int):rz w.heap.size [x0,x1,x2,x3,x4,x5] (w.alloc (.cells #[.int .i64 x0,.int .i64 x1,.int .i64 x2,.int .i64 x3,.int .i64 x4,.int .i64 x5] 3)):=by intro k a;rcases (by omega:k=0∨k=1∨k=2∨k=3∨k=4∨k=5) with rfl|rfl|rfl|rfl|rfl|rfl<;>simp
theorem SN(s d t k i:Int)(a:Option Addr)(len cap:Nat)(c:Int)(w:World)(h:iB s d t k i)(hl:len<=320)(hc:0<=c∧c<=65535): Calls prog 87 #[pk s d t k i a len cap,.int .i64 c] w fun e w'=>∃v,e=.returned v∧Own w.heap.size w' v (P4.hd s d t k i (20+len) c)∧Below w.heap.size w w':=by
 obtain⟨hs,hd,F,D,G⟩:=h;have S:=ki (fun W=>vv s W hs);have T:=ki (fun W=>vv d W hd);have H:=ki (fun B W h=>qY B [17664,20+(len:Int),i,16384,t*256+k,c] W h (by intro j Y;obtain⟨I,J⟩:=F;obtain⟨K,L⟩:=D;obtain⟨M,N⟩:=G;rcases (by omega:j=0∨j=1∨j=2∨j=3∨j=4∨j=5) with rfl|rfl|rfl|rfl|rfl|rfl<;>simp only[List.getD_cons_zero,List.getD_cons_succ]<;>omega));have O:=ki (SK s d t k i (20+(len:Int)) c D);have A:=ki (show(wb [17664,20+(len:Int),i,16384,t*256+k,c] 6).length+4<=1000000000 by rw[q9];omega);have C:=ki (show(wb [17664,20+(len:Int),i,16384,t*256+k,c] 6++b4 s).length+4<=1000000000 by rw[List.length_append,q9];simp[b4]);have b:=ki (nu w s d t k i a len cap);have f:=ki (iU w s d t k i a len cap);unfold bx at b;have r:=au (w.alloc (.cells #[.int .i64 s,.int .i64 d,.int .i64 t,.int .i64 k,.int .i64 i,.slice a len cap] 108)) (.cells #[.int .i64 17664,.int .i64 (20+(len:Int)),.int .i64 i,.int .i64 16384,.int .i64 (t*256+k),.int .i64 c] 3);have P:=ki (SL (w.alloc (.cells #[.int .i64 s,.int .i64 d,.int .i64 t,.int .i64 k,.int .i64 i,.slice a len cap] 108)) 17664 (20+(len:Int)) i 16384 (t*256+k) c);rw[World.size_alloc] at P;replace b:=ki (bt b.o r);replace f:=ki (f.o.kept r);generalize wb [17664,20+(len:Int),i,16384,t*256+k,c] 6=Z at H O A C;obtain⟨I,J⟩:=F;obtain⟨K,L⟩:=D;obtain⟨M,N⟩:=G;have Q:=ki f.o.lt;clear r hs hd;unfold pk;go_enter func87,ntmps87;go_upto_region 3 with(go_at_call 93;refine(H.o _ _ P.o).mono ?_;rintro e w1 ⟨v1,rfl,l,x⟩;replace f:=ki (f.o.kept x);replace l:=ki (l.mono (show w.heap.size+1<=_ from Q.o));replace b:=ki (bt b.o x);clear x)
 obtain⟨U,E,-,-,-,-⟩:=f.o.all;go_upto_region 4 with(first|(go_at_call 134;refine(S.o _).mono ?_;rintro e w2 ⟨B2,rfl,n,o⟩;replace f:=ki (f.o.kept o);replace l:=ki (l.o.kept o);replace b:=ki (bt b.o o);replace n:=ki n;clear o U E)|(at_builtin;refine lX rfl (.tmp 22) (.tmp 25) rfl (w.heap.size+1) _ Z rfl l.o _ 4 4 _ rfl n.o A.o f.o.lt ?_;intro v3 V q R;replace q:=ki q;replace f:=ki (show aI w.heap.size s d t k i a len cap V from(R.block _ f.o.lt (fun e=>by have:=(l.o.2.lt _ e.symm).1;omega)).trans f.o);replace b:=ki (b.o.grown R b.o.size (fun g h=>Nat.le_of_succ_le (l.o.2.lt g h).1))))
 clear n;obtain⟨-,E,-,-,-,-⟩:=f.o.all;go_wp2_with (first|(go_at_call 134;refine(T.o _).mono ?_;rintro e w4 ⟨B4,rfl,y,p⟩;replace f:=ki (f.o.kept p);replace q:=ki (q.o.kept p);replace b:=ki (bt b.o p);replace y:=ki y;clear p E)|(at_builtin;refine lX rfl (.tmp 27) (.tmp 30) rfl (w.heap.size+1) _ (Z++b4 s) rfl q.o _ 4 4 _ rfl y.o C.o f.o.lt ?_;intro v5 w5 z X;replace z:=ki z;replace b:=ki (b.o.grown X b.o.size (fun g h=>Nat.le_of_succ_le (q.o.2.lt g h).1))))
 go_ret;rw[O.o] at z;exact⟨_,rfl,z.o.mono (Nat.le_succ _),b.o⟩
end aF
namespace aF
attribute [local go_sem ↓] Go.wp_at_zero Go.wp_at_succ
theorem BK(s d t k i:Int)(a:Option Addr)(len cap:Nat)(c:Int)(w:World)(h:iB s d t k i)(hl:len<=320)(hc:0<=c∧c<=65535): Calls prog 87 #[pk s d t k i a len cap,.int .i64 c] w fun e w'=>∃g c',e=.returned (.slice (some ⟨g,0,none⟩) 20 c')∧aj w' (some ⟨g,0,none⟩) 20 c' (P4.hd s d t k i (20+len) c)∧Own w.heap.size w' (.slice (some ⟨g,0,none⟩) 20 c') (P4.hd s d t k i (20+len) c)∧Below w.heap.size w w':=by refine(SN s d t k i a len cap c w h hl hc).mono ?_;rintro e w' ⟨v,rfl,b,hb⟩;obtain⟨g,c',rfl,_,_,_,_,f⟩:=b.form (by rw[P4.lW];omega);rw[P4.lW] at f b⊢;exact⟨g,c',rfl,f,b,hb⟩
theorem SQ(s d t k i:Int)(a:Option Addr)(len cap:Nat)(body:List Int)(w:World)(h:iB s d t k i)(hl:len<=320)(hr:aj w a len cap body): Calls prog 40 #[pk s d t k i a len cap] w fun e w'=>∃v,e=.returned v∧Own w.heap.size w' v (eu s d t k i body)∧Below w.heap.size w w':=by
 have F:=ki (Ah h hl);have z:=P4.wu _ _ _ _ _ _ F.o;have D:=hr.1;have A:=ki (fun W=>BK s d t k i a len cap 0 W h hl (by omega));have l:=ki (fun W=>BK s d t k i a len cap _ W h hl z);have n:=ki (fun g c' W (h:aj W (some ⟨g,0,none⟩) 20 c' (P4.hd s d t k i (20+len) 0))=>yE _ 20 c' _ W h (by omega));have r:65535-SM.fold (SM.tot (P4.hd s d t k i (20+len) 0) 20)=P4.ck s d t k i (20+len):=rfl;have B:=ki (show eu s d t k i body=P4.hd s d t k i (20+len) (P4.ck s d t k i (20+len))++body by unfold eu;rw[D]);have C:=ki (show(P4.hd s d t k i (20+len) (P4.ck s d t k i (20+len))).length+len<=1000000000 by rw[P4.lW];omega);generalize P4.ck s d t k i (20+(len:Int))=c at z l r B C;generalize SM.fold (SM.tot (P4.hd s d t k i (20+(len:Int)) 0) 20)=x at n r;have I:IntKind.i64.wrap (65535-x)=c:=by rw[IntKind.wrap_i64];omega
 have J:=ki r;have G:=ki hr;have b:=ki (show Below w.heap.size w (w.alloc (.cells #[.int .i64 s,.int .i64 d,.int .i64 t,.int .i64 k,.int .i64 i,.slice a len cap] 108)).drew from(nu w s d t k i a len cap).drew);have f:=ki (show aI w.heap.size s d t k i a len cap (w.alloc (.cells #[.int .i64 s,.int .i64 d,.int .i64 t,.int .i64 k,.int .i64 i,.slice a len cap] 108)).drew from iU w s d t k i a len cap);clear h hr r;unfold pk at A l⊢;go_enter func40,ntmps40;go_upto_region 1 with fail
 go_region_held3 (fun w'=>w'.cell? ⟨w.heap.size,0,none⟩=some (.int .i64 s)∧w'.cell? ⟨w.heap.size,1,none⟩=some (.int .i64 d)∧w'.cell? ⟨w.heap.size,2,none⟩=some (.int .i64 t)∧w'.cell? ⟨w.heap.size,3,none⟩=some (.int .i64 k)∧w'.cell? ⟨w.heap.size,4,none⟩=some (.int .i64 i)∧w'.cell? ⟨w.heap.size,5,none⟩=some (.slice a len cap))
  (first
   | exact f.o.all
   | go_keep)
  (first|(go_at_call 87;with_reducible refine(A.o _).mono ?_;rintro e K ⟨L,c1,rfl,o,-,p⟩;replace f:=ki (f.o.kept p);replace b:=ki (bt b.o p);replace o:=ki o;clear p)|(go_at_call 88;refine(n.o _ _ _ o.o).mono ?_;rintro e M ⟨rfl,rfl⟩)|(go_at_call 87;with_reducible refine(l.o _).mono ?_;rintro e N ⟨O,c3,rfl,-,y,q⟩;replace y:=ki (y.mono f.o.lt);replace f:=ki (f.o.kept q);replace b:=ki (bt b.o q);clear q))
 obtain⟨-,-,-,-,-,P⟩:=f.o.all;go_wp2_with (at_builtin;refine lX rfl (.tmp 10) (.tmp 12) rfl (w.heap.size+1) _ _ rfl y.o a len cap body rfl (G.o.below b.o) C.o f.o.lt ?_;intro Q R E H;replace E:=ki E;replace b:=ki (b.o.grown H b.o.size (fun g h=>Nat.le_of_succ_le (y.o.2.lt g h).1)))
 go_ret;exact⟨_,rfl,B.o ▸ E.o.mono (Nat.le_succ _),b.o⟩
theorem gq(g off len cap:Nat)(zs:List Int)(w:World)(x:Int)(hr:aj w (some ⟨g,off,none⟩) len cap zs)(h0:0<=x)(h1:x+1<len): Calls prog 78 #[.slice (some ⟨g,off,none⟩) len cap,.int .i64 x] w fun e w'=>e=.returned (.int .i64 (P4.wd zs x.toNat))∧∃n,w'=w.drewN n:=by
 obtain⟨j,rfl⟩:=Int.eq_ofNat_of_zero_le h0;obtain⟨q,k,f,_,h⟩:=hr;obtain⟨b,o,e,d⟩:=h (by omega);cases e;have c0:=d j (by omega);have c1:=d (j+1) (by omega);have l:=f j;have p:=f (j+1);have i:=ki (show P4.wd zs (Int.toNat (j:Int))=256*zs.getD j 0+zs.getD (j+1) 0 from rfl);clear d h f;generalize zs.getD j 0=y0 at c0 l i;generalize zs.getD (j+1) 0=y1 at c1 p i;unfold maxLen at k;have r:(0:Int)<=(j:Int):=by omega
 have s:(j:Int)<(len:Int):=by omega
 have t:(j:Int)+1<(len:Int):=by omega
 have v:IntKind.i64.wrap ((j:Int)+1)=(j:Int)+1:=by rw[IntKind.wrap_i64];omega
 have y:IntKind.i64.wrap y0=y0:=by rw[IntKind.wrap_i64];omega
 have z:IntKind.i64.wrap y1=y1:=by rw[IntKind.wrap_i64];omega
 have A:IntKind.i64.wrap (256*y0)=256*y0:=by rw[IntKind.wrap_i64];omega
 have B:IntKind.i64.wrap (256*y0+y1)=256*y0+y1:=by rw[IntKind.wrap_i64];omega
 clear h0 h1;go_enter func78,ntmps78;go_upto_region 1 with fail
 go_quiet (fail)
 go_wp2;go_ret;exact⟨by rw[i.o];rfl,_,rfl⟩
end aF
section
theorem aj.heap{w w':World}{a:Option Addr}{len cap:Nat}{zs:List Int}(h:aj w a len cap zs)(he:∀b o,a=some ⟨b,o,none⟩->w'.heap[b]? = w.heap[b]?):aj w' a len cap zs:=by obtain⟨f,g,k,h4,l⟩:=h;refine⟨f,g,k,h4,fun hp=>?_⟩;obtain⟨b,d,e,n⟩:=l hp;refine⟨b,d,e,fun i hi=>?_⟩;have:=n i hi;unfold World.cell? at this⊢;rw[he b d e];exact this
end
namespace aB
attribute [local go_sem ↓] Go.wp_at_zero Go.wp_at_succ
theorem gq(g off len cap:Nat)(zs:List Int)(w:World)(x:Int)(hr:aj w (some ⟨g,off,none⟩) len cap zs)(h0:0<=x)(h1:x+1<len): Calls prog 78 #[.slice (some ⟨g,off,none⟩) len cap,.int .i64 x] w fun e w'=>e=.returned (.int .i64 (P4.wd zs x.toNat))∧∃n,w'=w.drewN n:=by
 obtain⟨j,rfl⟩:=Int.eq_ofNat_of_zero_le h0;obtain⟨q,k,f,_,h⟩:=hr;obtain⟨b,o,e,d⟩:=h (by omega);cases e;have c0:=d j (by omega);have c1:=d (j+1) (by omega);have l:=f j;have p:=f (j+1);have i:=ki (show P4.wd zs (Int.toNat (j:Int))=256*zs.getD j 0+zs.getD (j+1) 0 from rfl);clear d h f;generalize zs.getD j 0=y0 at c0 l i;generalize zs.getD (j+1) 0=y1 at c1 p i;unfold maxLen at k;have r:(0:Int)<=(j:Int):=by omega
 have s:(j:Int)<(len:Int):=by omega
 have t:(j:Int)+1<(len:Int):=by omega
 have v:IntKind.i64.wrap ((j:Int)+1)=(j:Int)+1:=by rw[IntKind.wrap_i64];omega
 have y:IntKind.i64.wrap y0=y0:=by rw[IntKind.wrap_i64];omega
 have z:IntKind.i64.wrap y1=y1:=by rw[IntKind.wrap_i64];omega
 have A:IntKind.i64.wrap (256*y0)=256*y0:=by rw[IntKind.wrap_i64];omega
 have B:IntKind.i64.wrap (256*y0+y1)=256*y0+y1:=by rw[IntKind.wrap_i64];omega
 clear h0 h1;go_enter func78,ntmps78;go_upto_region 1 with fail
 go_quiet (fail)
 go_wp2;go_ret;exact⟨by rw[i.o];rfl,_,rfl⟩
theorem mF(g off len cap:Nat)(zs:List Int)(w:World)(x:Int)(hr:aj w (some ⟨g,off,none⟩) len cap zs)(h0:0<=x)(h1:x+1<len): Calls prog 78 #[.slice (some ⟨g,off,none⟩) len cap,.int .i64 x] w fun e w'=>e=.returned (.int .i64 (P4.wd zs x.toNat))∧Below w.heap.size w w' :=
 (gq g off len cap zs w x hr h0 h1).mono fun e w' ⟨h1,n,h2⟩=>⟨h1,by rw[h2];exact(Below.refl _ _).trans ⟨rfl,rfl,rfl,Nat.le_refl _,fun _ _=>rfl⟩⟩
theorem BL(a:Option Addr)(len cap:Nat)(w:World)(h:len<40∨360<len)(hm:len<=maxLen): Calls prog 31 #[.slice a len cap] w fun e w'=>e=.returned (.tuple #[iH,.int .i64 5])∧Below w.heap.size w w':=by
 unfold maxLen at hm;have b:=ki (au w (.cells dH 83));have g:=ki (bR w);unfold dH at b g;rcases h with h|h
 ·go_enter func31,ntmps31;go_upto_region 1 with fail
  generalize w.alloc _=W at b g⊢;go_wp2_with (first|(refine aK rfl (.tmp 2) (.tmp 30) rfl rfl g.o [] [] 0 0 none 0 0 rfl ?_;intro i f d;replace b:=ki (d.below b.o (Nat.le_refl _));replace f:=ki f;clear d))
  try simp only[Exit.inBlock,Exit.then]
  refine bodyPost_ret (ni rfl _ _ w.heap.size [] [] 0 0 none 0 0 rfl f.o) rfl ?_;exact⟨rfl,b.o⟩
 ·have k:¬len<40:=by omega
  go_enter func31,ntmps31;go_upto_region 1 with fail
  generalize w.alloc _=W at b g⊢;go_wp2_with (first|(refine aK rfl (.tmp 2) (.tmp 30) rfl rfl g.o [] [] 0 0 none 0 0 rfl ?_;intro i f d;replace b:=ki (d.below b.o (Nat.le_refl _));replace f:=ki f;clear d))
  try simp only[Exit.inBlock,Exit.then]
  refine bodyPost_ret (ni rfl _ _ w.heap.size [] [] 0 0 none 0 0 rfl f.o) rfl ?_;exact⟨rfl,b.o⟩
theorem SS(g off len cap:Nat)(zs:List Int)(w:World)(hr:aj w (some ⟨g,off,none⟩) len cap zs)(wU:40<=len)(Af:len<=360)(h:¬Good zs): Calls prog 31 #[.slice (some ⟨g,off,none⟩) len cap] w fun e w'=>e=.returned (.tuple #[iH,.int .i64 5])∧Below w.heap.size w w':=by
 have d:=ki (au w (.cells dH 83));have f:=ki (bR w);have a:=ki (hr.below d.o);unfold dH at d f a;have n:=ki (fun W x h h0 h1=>mF g off len cap zs W x h h0 h1);have o:=hr.1;have l:¬(P4.wd zs 0=24576∧P4.wd zs 2=0∧P4.wd zs 4=(len:Int)-40):=fun ⟨h1,h2,h3⟩=>h ⟨by omega,by omega,h1,h2,by rw[o];exact h3⟩
 clear h hr;have s:decide ((len:Int)<40)=false:=decide_eq_false (by omega);have t:decide ((360:Int)<(len:Int))=false:=decide_eq_false (by omega);have v:IntKind.i64.wrap ((len:Int)-40)=(len:Int)-40:=by rw[IntKind.wrap_i64];omega
 by_cases e0:P4.wd zs 0=24576
 ·have f0:(P4.wd zs 0 != 24576)=false:=by simpa using e0
  by_cases e2:P4.wd zs 2=0
  ·have r:(P4.wd zs 2 != 0)=false:=by simpa using e2
   have e4:¬P4.wd zs 4=(len:Int)-40:=fun e4=>l ⟨e0,e2,e4⟩
   have y:(P4.wd zs 4 != (len:Int)-40)=true:=by simpa using e4
   clear l e0 e2 e4;go_enter func31,ntmps31;go_upto_region 1 with fail
   generalize w.alloc _=W at d f a⊢;go_upto_region 2 with(go_at_call 78;refine(n.o _ _ a.o (by omega) (by omega)).mono ?_;rintro e p ⟨rfl,b⟩;replace d:=ki (bt d.o b);replace f:=ki (f.o.kept b);replace a:=ki (a.o.below b);clear b)
   go_wp2_with (first|(refine aK rfl (.tmp 2) (.tmp 30) rfl rfl f.o [] [] 0 0 none 0 0 rfl ?_;intro q k i;replace d:=ki (i.below d.o (Nat.le_refl _));replace k:=ki k;clear i))
   try simp only[Exit.inBlock,Exit.then]
   refine bodyPost_ret (ni rfl _ _ w.heap.size [] [] 0 0 none 0 0 rfl k.o) rfl ?_;exact⟨rfl,d.o⟩
  ·have r:(P4.wd zs 2 != 0)=true:=by simpa using e2
   clear l e0 e2;go_enter func31,ntmps31;go_upto_region 1 with fail
   generalize w.alloc _=W at d f a⊢;go_upto_region 2 with(go_at_call 78;refine(n.o _ _ a.o (by omega) (by omega)).mono ?_;rintro e p ⟨rfl,b⟩;replace d:=ki (bt d.o b);replace f:=ki (f.o.kept b);replace a:=ki (a.o.below b);clear b)
   go_wp2_with (first|(refine aK rfl (.tmp 2) (.tmp 30) rfl rfl f.o [] [] 0 0 none 0 0 rfl ?_;intro q k i;replace d:=ki (i.below d.o (Nat.le_refl _));replace k:=ki k;clear i))
   try simp only[Exit.inBlock,Exit.then]
   refine bodyPost_ret (ni rfl _ _ w.heap.size [] [] 0 0 none 0 0 rfl k.o) rfl ?_;exact⟨rfl,d.o⟩
 ·have f0:(P4.wd zs 0 != 24576)=true:=by simpa using e0
  clear l e0;go_enter func31,ntmps31;go_upto_region 1 with fail
  generalize w.alloc _=W at d f a⊢;go_upto_region 2 with(go_at_call 78;refine(n.o _ _ a.o (by omega) (by omega)).mono ?_;rintro e p ⟨rfl,b⟩;replace d:=ki (bt d.o b);replace f:=ki (f.o.kept b);replace a:=ki (a.o.below b);clear b)
  go_wp2_with (first|(refine aK rfl (.tmp 2) (.tmp 30) rfl rfl f.o [] [] 0 0 none 0 0 rfl ?_;intro q k i;replace d:=ki (i.below d.o (Nat.le_refl _));replace k:=ki k;clear i))
  try simp only[Exit.inBlock,Exit.then]
  refine bodyPost_ret (ni rfl _ _ w.heap.size [] [] 0 0 none 0 0 rfl k.o) rfl ?_;exact⟨rfl,d.o⟩
attribute [local go_sem ↓] uE
end aB
namespace aF
attribute [local go_sem ↓] Go.wp_at_zero Go.wp_at_succ
theorem mF(g off len cap:Nat)(zs:List Int)(w:World)(x:Int)(hr:aj w (some ⟨g,off,none⟩) len cap zs)(h0:0<=x)(h1:x+1<len): Calls prog 78 #[.slice (some ⟨g,off,none⟩) len cap,.int .i64 x] w fun e w'=>e=.returned (.int .i64 (P4.wd zs x.toNat))∧Below w.heap.size w w' :=
 (gq g off len cap zs w x hr h0 h1).mono fun e w' ⟨h1,n,h2⟩=>⟨h1,by rw[h2];exact(Below.refl _ _).trans ⟨rfl,rfl,rfl,Nat.le_refl _,fun _ _=>rfl⟩⟩
theorem kF(zs:List Int)(ho:SM.Oct zs)(j:Nat):0<=P4.wd zs j∧P4.wd zs j<=65535:=by have:=ho j;have:=ho (j+1);unfold P4.wd;omega
theorem BL(a:Option Addr)(len cap:Nat)(w:World)(h:len<20∨340<len)(hm:len<=maxLen): Calls prog 42 #[.slice a len cap] w fun e w'=>e=.returned (.tuple #[iH,.int .i64 5])∧Below w.heap.size w w':=by
 unfold maxLen at hm;have b:=ki (nu w 0 0 0 0 0 none 0 0);have d:=ki (iU w 0 0 0 0 0 none 0 0);unfold bx at b;rcases h with h|h
 ·go_enter func42,ntmps42;go_wp2;try simp only[Exit.inBlock,Exit.then]
  refine bodyPost_ret (lq rfl _ _ w.heap.size 0 0 0 0 0 none 0 0 rfl d.o) rfl ?_;exact⟨rfl,b.o⟩
 ·have f:¬len<20:=by omega
  go_enter func42,ntmps42;go_wp2;try simp only[Exit.inBlock,Exit.then]
  refine bodyPost_ret (lq rfl _ _ w.heap.size 0 0 0 0 0 none 0 0 rfl d.o) rfl ?_;exact⟨rfl,b.o⟩
theorem SV(g off len cap:Nat)(zs:List Int)(w:World)(hr:aj w (some ⟨g,off,none⟩) len cap zs)(h20:20<=len)(uH:len<=340)(h:¬P4.ko zs): Calls prog 42 #[.slice (some ⟨g,off,none⟩) len cap] w fun e w'=>e=.returned (.tuple #[iH,.int .i64 5])∧Below w.heap.size w w':=by
 have f:=ki (nu w 0 0 0 0 0 none 0 0);have d:=ki (iU w 0 0 0 0 0 none 0 0);unfold bx at f;have b:=ki (hr.below f.o);have k:=ki (fun W x h h0 h1=>mF g off len cap zs W x h h0 h1);have l:=hr.1;have i:¬(P4.wd zs 0=17664∧P4.wd zs 2=len∧P4.wd zs 6=16384):=fun ⟨h1,h2,h3⟩=>h ⟨by omega,by omega,h1,by rw[l];exact h2,h3⟩
 clear h hr;have y:decide ((len:Int)<20)=false:=decide_eq_false (by omega);have z:decide ((340:Int)<(len:Int))=false:=decide_eq_false (by omega);by_cases e0:P4.wd zs 0=17664
 ·by_cases e2:P4.wd zs 2=len
  ·have e6:¬P4.wd zs 6=16384:=fun e6=>i ⟨e0,e2,e6⟩
   have f0:(P4.wd zs 0 != 17664)=false:=by simpa using e0
   have v:(P4.wd zs 2 != (len:Int))=false:=by simpa using e2
   have f6:(P4.wd zs 6 != 16384)=true:=by simpa using e6
   clear i e0 e2 e6;go_enter func42,ntmps42;go_upto_region 2 with(go_at_call 78;refine(k.o _ _ b.o (by omega) (by omega)).mono ?_;rintro e n ⟨rfl,a⟩;replace f:=ki (bt f.o a);replace d:=ki (d.o.kept a);replace b:=ki (b.o.below a);clear a)
   obtain⟨c0,c1,c2,c3,c4,c5⟩:=d.o.all;obtain⟨o,p,q,r,s,t⟩:=d.o.aZ;go_wp2;try simp only[Exit.inBlock,Exit.then]
   refine bodyPost_ret (lq rfl _ _ w.heap.size 0 0 0 0 0 none 0 0 rfl (nU d.o 0 0 0 0 0 none 0 0)) rfl ?_;exact⟨rfl,nT f.o (Nat.le_refl _) 0 0 0 0 0 none 0 0⟩
  ·have f0:(P4.wd zs 0 != 17664)=false:=by simpa using e0
   have v:(P4.wd zs 2 != (len:Int))=true:=by simpa using e2
   clear i e0 e2;go_enter func42,ntmps42;go_upto_region 2 with(go_at_call 78;refine(k.o _ _ b.o (by omega) (by omega)).mono ?_;rintro e n ⟨rfl,a⟩;replace f:=ki (bt f.o a);replace d:=ki (d.o.kept a);replace b:=ki (b.o.below a);clear a)
   obtain⟨c0,c1,c2,c3,c4,c5⟩:=d.o.all;obtain⟨o,p,q,r,s,t⟩:=d.o.aZ;go_wp2;try simp only[Exit.inBlock,Exit.then]
   refine bodyPost_ret (lq rfl _ _ w.heap.size 0 0 0 0 0 none 0 0 rfl (nU d.o 0 0 0 0 0 none 0 0)) rfl ?_;exact⟨rfl,nT f.o (Nat.le_refl _) 0 0 0 0 0 none 0 0⟩
 ·have f0:(P4.wd zs 0 != 17664)=true:=by simpa using e0
  clear i e0;go_enter func42,ntmps42;go_upto_region 2 with(go_at_call 78;refine(k.o _ _ b.o (by omega) (by omega)).mono ?_;rintro e n ⟨rfl,a⟩;replace f:=ki (bt f.o a);replace d:=ki (d.o.kept a);replace b:=ki (b.o.below a);clear a)
  obtain⟨c0,c1,c2,c3,c4,c5⟩:=d.o.all;obtain⟨o,p,q,r,s,t⟩:=d.o.aZ;go_wp2;try simp only[Exit.inBlock,Exit.then]
  refine bodyPost_ret (lq rfl _ _ w.heap.size 0 0 0 0 0 none 0 0 rfl (nU d.o 0 0 0 0 0 none 0 0)) rfl ?_;exact⟨rfl,nT f.o (Nat.le_refl _) 0 0 0 0 0 none 0 0⟩
end aF
namespace aF
attribute [local go_sem ↓] Go.wp_at_zero Go.wp_at_succ
theorem tC(w:World)(n:Nat)(o:Obj):(w.drewN n).alloc o=(w.alloc o).drewN n:=rfl
theorem tF(w:World)(n:Nat)(a:Addr)(v:Value):(w.drewN n).setCell a v=(w.setCell a v).drewN n:=rfl
attribute [local go_sem] tC tF
end aF
section
theorem BM(x y:Int)(w:World)(x0:0<=x)(x1:x<4294967296)(y0:0<=y)(y1:y<4294967296):Calls prog 86 #[.int .i64 x,.int .i64 y] w fun e w'=>e=.returned (.int .i64 (md (x-y)))∧w'=w:=by have a:=ki (show(x-y+4294967296)%4294967296=md (x-y) by unfold md;omega);go_enter func86,ntmps86;go_wp2;go_ret;exact⟨by rw[a.o];rfl,rfl⟩
theorem SX(B:Nat)(hd:List Int)(s:Int)(b h:Bool)(z:List Int)(a:Option Addr)(len cap:Nat)(w:World)(hS:ST 101 B hd s b h w)(hm:len<=maxLen)(hF:sf z len≠0): Calls prog 39 #[.pointer (some ⟨B,0,none⟩),.agg (aA z a len cap)] w (jv 101 (Value.int .i64) B hd (sf z len,[],[],s,b,h) w):=by
 have d:=ki (T2.start w z a len cap);unfold aN at d;have k:=ki (fun W=>nI z a len cap W hm);have l:=ki (fun W (hb:Below w.heap.size w W)=>hS.kept hb);clear hS;generalize sf z len=E at hF k⊢;have o:(E != 0)=true:=by simpa using hF
 clear hF;go_enter func39,ntmps39;go_upto_region 1 with fail
 generalize (World.alloc _ _).alloc _=W0 at d⊢;go_wp2_with (first|(refine bB rfl (.tmp 3) rfl rfl d.o.1 ?_)|(go_at_call 50;refine(k.o _).mono ?_;rintro e p ⟨rfl,f⟩;replace d:=ki (d.o.kept f);clear f)|(refine aK rfl (.tmp 4) (.tmp 14) rfl rfl d.o.2.1 [] none 0 0 rfl ?_;intro q i g;have n:=ki (d.o.put g);replace i:=ki i;clear g d))
 try simp only[Exit.inBlock,Exit.then]
 refine bodyPost_ret (bS rfl _ _ (w.heap.size+1) [] none 0 0 rfl i.o) rfl ?_;exact⟨none,0,0,rfl,ku _,l.o _ n.o,cK.of n.o⟩
theorem SY(B:Nat)(hd:List Int)(s:Int)(b h:Bool)(z:List Int)(a:Option Addr)(len cap:Nat)(w:World)(hS:ST 101 B hd s b h w)(hm:len<=maxLen)(hF:sf z len=0)(h6:el z 0≠6): Calls prog 39 #[.pointer (some ⟨B,0,none⟩),.agg (aA z a len cap)] w (jv 101 (Value.int .i64) B hd (2,[],[],s,b,h) w):=by
 have d:=ki (T2.start w z a len cap);unfold aN at d;have k:=ki (fun W=>nI z a len cap W hm);rw[hF] at k;have l:=ki (fun W (hb:Below w.heap.size w W)=>hS.kept hb);have o:(el z 0 != 6)=true:=by simpa using h6
 clear hS hF h6;go_enter func39,ntmps39;go_upto_region 1 with fail
 generalize (World.alloc _ _).alloc _=W0 at d⊢;go_upto_region 4 with(first|(refine bB rfl (.tmp 3) rfl rfl d.o.1 ?_)|(go_at_call 50;refine(k.o _).mono ?_;rintro e p ⟨rfl,f⟩;replace d:=ki (d.o.kept f);clear f))
 have q:=d.o.1.c0;go_wp2_with (refine aK rfl (.tmp 4) (.tmp 19) rfl rfl d.o.2.1 [] none 0 0 rfl ?_;intro r i g;have n:=ki (d.o.put g);replace i:=ki i;clear g d)
 try simp only[Exit.inBlock,Exit.then]
 refine bodyPost_ret (bS rfl _ _ (w.heap.size+1) [] none 0 0 rfl i.o) rfl ?_;exact⟨none,0,0,rfl,ku _,l.o _ n.o,cK.of n.o⟩
theorem BN{z:List Int}{len:Nat}(h:cf z len=0):sf z len=0:=by
 unfold cf at h;split at h
 ·cases h
 ·exact h
theorem S9(B:Nat)(hd:List Int)(s:Int)(b h:Bool)(z:List Int)(a:Option Addr)(len cap:Nat)(zs:List Int)(w:World)(hS:ST 101 B hd s b h w)(hr:aj w a len cap zs)(hF:cf z len=0)(jS:el z 5/2%2=1): Calls prog 39 #[.pointer (some ⟨B,0,none⟩),.agg (aA z a len cap)] w (jv 101 (Value.int .i64) B hd (iJ hd s b h z zs) w):=by
 have f:=ki (T2.start w z a len cap);unfold aN at f;have X:=ki (fun W=>nI z a len cap W hr.2.1);rw[BN hF] at X;obtain⟨Y,hl,hq,-,ar⟩:=qI hF;have e6:(el z 0 != 6)=false:=by rw[Y];rfl
 have I:=ki (fun W (hb:Below w.heap.size w W)=>hS.kept hb);have J:=ki (fun W (hb:Below w.heap.size w W)=>hr.below hb);have K:=ki hS.lt;obtain⟨x,n,c,p,q,hn⟩:=hS;have r:=hr.1;have v:=q.1;have Z:=ki (fun W (hb:Below w.heap.size w W)=>p.kept hb);have HD:=ki (fun W (hb:Below w.heap.size w W)=>q.below hb);have es:(el z 5/2%2 == 1)=true:=by rw[jS];rfl
 clear p hr q Y hF jS;go_enter func39,ntmps39;go_upto_region 1 with fail
 generalize (World.alloc _ _).alloc _=W0 at f⊢;go_upto_region 4 with(first|(refine bB rfl (.tmp 3) rfl rfl f.o.1 ?_)|(go_at_call 50;refine(X.o _).mono ?_;rintro e w1 ⟨rfl,L⟩;replace f:=ki (f.o.kept L);clear L))
 have P:=ki (Z.o _ f.o.2.2);have l0:=f.o.1.c0;have nP:=f.o.1.c5;have Ta:=f.o.1.c7;have k0:=P.o.c0;by_cases hlp:0<len
 ·have k:=ki (show iJ hd s b h z zs=(2,[],[],s,b,h) from if_pos (by omega));clear P r v;go_wp2_with (refine aK rfl (.tmp 4) (.tmp 36) rfl rfl f.o.2.1 [] none 0 0 rfl ?_;intro w5 l g;have HB:=ki (f.o.put g);replace l:=ki l;clear g f)
  try simp only[Exit.inBlock,Exit.then]
  refine bodyPost_ret (bS rfl _ _ (w.heap.size+1) [] none 0 0 rfl l.o) rfl ?_;rw[k.o];exact⟨none,0,0,rfl,ku _,I.o _ HB.o,cK.of HB.o⟩
 ·obtain rfl:len=0:=by omega
  obtain rfl:zs=[]:=List.eq_nil_of_length_eq_zero r;have k:=ki (show iJ hd s b h z []=(0,iI z (md (el z 3-n)),[],md (el z 3+1),true,hh b h s (md (el z 3+1))) by rw[show iJ hd s b h z []=_ from if_neg (by simp),v]);have O:=ki (show(el z 3+1)%4294967296=md (el z 3+1) from rfl);generalize md (el z 3+1)=t at O k;have HW:=ki (fun W=>BM (el z 3) n W hq.1 (by omega) (by omega) (by omega));generalize md (el z 3-n)=M at HW k;have Q:=f.o.1.c3;have R:=ki (J.o _ f.o.2.2);have D:=ki (HD.o _ f.o.2.2);have V:=ki (f.o.three (B:=B));clear r v f Z HD I J;go_upto_region 11 with fail
  rw[O.o];clear O l0 nP Ta k0 Q;have k1:=P.o.c1;have S:=P.o.c2;have k3:=P.o.c3;have T:=P.o.aZ 3;cases b;case' false =>
   rw[show hh false h s t=false from rfl] at k;go_upto_region 13 with fail
   have d:=P.o.nW false;replace V:=ki (V.o.turn P.o d.2.bu);replace R:=ki (R.o.bu P.o d.2.bu);replace D:=ki (D.o.bu P.o d.2.bu);replace P:=ki d.1;clear d;generalize World.setCell _ _ _=W1 at V R D P⊢
  case' true =>
   by_cases hst:s=t;case' pos =>
    rw[show hh true h s t=h by rw[hst];simp[hh]] at k;have U:(s != t)=false:=by rw[hst];simp
    clear hst;go_upto_region 13 with fail
    clear U
   case' neg =>
    rw[show hh true h s t=false by simp[hh,hst]] at k;have U:(s != t)=true:=by simpa using hst
    clear hst;go_upto_region 13 with fail
    have d:=P.o.nW false;replace V:=ki (V.o.turn P.o d.2.bu);replace R:=ki (R.o.bu P.o d.2.bu);replace D:=ki (D.o.bu P.o d.2.bu);replace P:=ki d.1;clear U d;generalize World.setCell _ _ _=W1 at V R D P⊢
  all_goals
   clear k1 S k3 T;have S:=P.o.c2;have f2:=P.o.aZ 2;have y:=P.o.set2 true;have i:=ki (V.o.turn P.o y.2.bu);have A:=ki (R.o.bu P.o y.2.bu);have C:=ki (D.o.bu P.o y.2.bu);have P2:=ki y.1;have ae:=P2.o.c1;have f1:=P2.o.aZ 1;have E:=P2.o.set1 t;replace i:=ki (i.o.turn P2.o E.2.bu);replace A:=ki (A.o.bu P2.o E.2.bu);replace C:=ki (C.o.bu P2.o E.2.bu);replace P2:=ki E.1;clear y E V R D P;go_upto_region 15 with fail
   clear S f2 ae f1;generalize World.setCell _ _ _=W2 at i A C P2⊢;have Q:=i.o.1.c3;have T:=i.o.1.aZ 3;have d:=i.o.1.nW M;have o:=ki (show T3 B w (iI z M) a 0 cap _ from⟨d.1,d.2.sg i.o.2.1 (by omega),d.2.ER i.o.2.2 (Nat.le_refl _)⟩);have F:=ki (A.o.past i.o.1 d.2);have G:=ki (C.o.past i.o.1 d.2);have H:=ki (show dF _ _ _ _ _ _ _ _ _ from(d.2.2.2.2.2 B (by have:=K.o;omega)).trans P2.o);clear d;go_upto_region 16 with(go_at_call 86;refine(HW.o _).mono ?_;rintro e w' ⟨rfl,N⟩;rw[N];clear N w')
   clear Q T i A C P2;generalize World.setCell _ _ _=W3 at o F G H⊢;go_wp2_with (first|(refine bB rfl (.tmp 3) rfl rfl o.o.1 ?_)|(refine aK rfl (.tmp 4) (.tmp 74) rfl rfl o.o.2.1 (iI z M) a 0 cap rfl ?_;intro w5 l g;have HU:=ki (o.o.put g);replace F:=ki (F.o.past o.o.2.1 g);replace G:=ki (G.o.past o.o.2.1 g);replace H:=ki (show dF _ _ _ _ _ _ _ _ w5 from(g.2.2.2.2 B (by have:=K.o;omega)).trans H.o);replace l:=ki l;clear g o))
   try simp only[Exit.inBlock,Exit.then]
   refine bodyPost_ret (bS rfl _ _ (w.heap.size+1) (iI z M) a 0 cap rfl l.o) rfl ?_;rw[k.o];exact⟨a,0,cap,rfl,F.o,⟨x,n,c,H.o,G.o,hn⟩,HU.o⟩
end
end Go.Proofs.YtgcojnlngchllaaGreatDoor
