import Derived.Test.YtgcojnlngchllaaGreatDoorJ28
import Derived.Test.YtgcojnlngchllaaGreatDoorJ11
namespace Go.Proofs.YtgcojnlngchllaaGreatDoor
open Go.RowKit Tryz
set_option linter.unusedVariables false
set_option maxRecDepth 100000
set_option maxHeartbeats 40000000
section
theorem Ti(bs:List (List Int))(i:Nat):l8 bs i=false↔∀k,k<i->(el (bs.getD k []) 0 == el (bs.getD i []) 0)=false:=by
 unfold l8;rw[List.any_eq_false];constructor
 ·intro h k a;simpa using h k (List.mem_range.2 a)
 ·intro h k a;simpa using h k (List.mem_range.1 a)
theorem Tj{bs:List (List Int)}{i k:Nat}(hk:k<i)(h:(el (bs.getD k []) 0 == el (bs.getD i []) 0)=true):l8 bs i=true:=by unfold l8;rw[List.any_eq_true];exact⟨k,List.mem_range.2 hk,h⟩
theorem BP(a:Option Addr)(cap:Nat)(bs:List (List Int))(w:World)(h:fM a bs w)(hl:bs.length<=maxLen): Calls prog 25 #[.slice a bs.length cap] w fun e w'=>e=.returned (.tuple #[.int .i64 (dz bs).1,.int .i64 (dz bs).2])∧Below w.heap.size w w':=by
 have M:=ki h;have P:(bs.length:Int)<=9223372036854775807:=by unfold maxLen at hl;omega
 clear h hl;by_cases h8:8<bs.length
 ·have N:=ki (show dz bs=(0,3) by unfold dz;rw[if_pos h8]);have O:(8:Int)<(bs.length:Int):=by omega
  go_enter func25,ntmps25;go_wp2;go_ret2;exact⟨by rw[N.o];rfl,Below.refl _ _⟩
 ·have F:=ki (fun i hi h1 h2=>EZ (bs:=bs) (i:=i) h8 hi h1 h2);have G:=ki (fun h=>Ao (bs:=bs) h8 h);have O:¬(8:Int)<(bs.length:Int):=by omega
  have Q:(bs.length:Int)<=8:=by omega
  have S:bs.length<=8:=by omega
  clear h8;generalize dz bs=R at F G⊢;go_enter func25,ntmps25;go_wp2;go_loopw [4] (fun t wr=>∃k:Nat,k<=bs.length∧t=.int .i64 k∧Hid (∀j,j<k->(flt bs j != 0)=false)∧Hid (Below w.heap.size w wr)) (fun t _=>bs.length-(intOf t).toNat)
  case atStart=>exact⟨0,by omega,rfl,fun j h=>absurd h (by omega),Below.refl _ _⟩
  case round =>
   obtain⟨k,hk,rfl,HI,b⟩:=hrel;by_cases hlt:k<bs.length
   ·obtain⟨g,r,rfl,K,v⟩:=M.o (by omega);have H:=ki (show ∀W,Below w.heap.size w W->∀k,k<bs.length->W.rangeAt g (r+k*6) (bG (bs.getD k [])).toList from fun W hW k hk j u hu=>by rw[hW.cell (p:=⟨g,r+k*6+j,none⟩) K];exact v k hk j u hu);have T:(k:Int)<(bs.length:Int):=by omega
    have z:=H.o wr b.o k hlt;have c0:=lC z;have c1:=lu z 1 (by omega);have c2:=lu z 2 (by omega);have c3:=lu z 3 (by omega);have C:=ki (fun W=>oq (el (bs.getD k []) 0) W);have D:=ki (fun W=>oq (el (bs.getD k []) 2) W);have E:=ki (fun W=>xS (el (bs.getD k []) 1) W);have l:=ki (show iK (bs.getD k [])=(wd (el (bs.getD k []) 0) && wd (el (bs.getD k []) 2) && fr (el (bs.getD k []) 1) && (decide (0<=el (bs.getD k []) 3) && decide (el (bs.getD k []) 3<=10))) from rfl);have n:=ki (show flt bs k=if iK (bs.getD k [])=true then (if l8 bs k=true then 8 else 0) else 1 from rfl);have I:=ki (F.o k hlt);clear v z;generalize wd (el (bs.getD k []) 0)=p0 at C l;generalize wd (el (bs.getD k []) 2)=p2 at D l;generalize fr (el (bs.getD k []) 1)=p1 at E l;obtain⟨x0,hx0⟩:∃x,el (bs.getD k []) 0=x:=⟨_,rfl⟩;rw[hx0] at c0 C;have s:=ki hx0;clear hx0;generalize el (bs.getD k []) 2=x2 at c2 D;generalize el (bs.getD k []) 1=x1 at c1 E;generalize el (bs.getD k []) 3=x3 at c3 l;generalize iK (bs.getD k [])=ok at l n;go_upto_region 9 with(first|(go_at_call 22;(with_reducible refine(C.o _).mono ?_);rintro e A ⟨rfl,d⟩;rw[d];clear d A)|(go_at_call 22;refine(D.o _).mono ?_;rintro e A ⟨rfl,d⟩;rw[d];clear d A)|(go_at_call 24;refine(E.o _).mono ?_;rintro e A ⟨rfl,d⟩;rw[d];clear d A))
    clear c0 c1 c2 C E D;have hc:(ok=false∧(p0=false∨(p0=true∧p2=false)∨(p0=true∧p2=true∧p1=false)∨(p0=true∧p2=true∧p1=true∧x3<0)∨(p0=true∧p2=true∧p1=true∧¬x3<0∧10<x3)))∨(ok=true∧p0=true∧p2=true∧p1=true∧¬x3<0∧¬10<x3):=by
     rw[l.o];by_cases g1:x3<0
     ·rw[show decide (0<=x3)=false from decide_eq_false (by omega)];cases p0<;>cases p1<;>cases p2<;>simp[g1]
     ·rw[show decide (0<=x3)=true from decide_eq_true (by omega)];by_cases g2:10<x3
      ·rw[show decide (x3<=10)=false from decide_eq_false (by omega)];cases p0<;>cases p1<;>cases p2<;>simp[g1,g2]
      ·rw[show decide (x3<=10)=true from decide_eq_true (by omega)];cases p0<;>cases p1<;>cases p2<;>simp[g1,g2]
    clear l;rcases hc with⟨rfl,hc⟩|⟨rfl,rfl,rfl,rfl,g1,g2⟩
    ·have o:=ki (show R=((k:Int),1) by rw[I.o (by rw[n.o];rfl) HI.o,n.o];rfl);clear I n HI F G;rcases hc with rfl|⟨rfl,rfl⟩|⟨rfl,rfl,rfl⟩|⟨rfl,rfl,rfl,g1⟩|⟨rfl,rfl,rfl,g1,g2⟩;all_goals
      go_wp2;go_ret2;exact⟨by rw[o.o];rfl,b.o⟩
    ·go_wp2;go_loopw [8] (fun t wx=>∃q:Nat,q<=k∧t=.int .i64 q∧Hid (∀j,j<q->(el (bs.getD j []) 0 == el (bs.getD k []) 0)=false)∧Hid (Below w.heap.size w wx)) (fun t _=>k-(intOf t).toNat)
     case atStart=>exact⟨0,by omega,rfl,fun j h=>absurd h (by omega),b⟩
     case round =>
      clear b c3;obtain⟨q,U,rfl,J,b⟩:=hrel;by_cases Tk:q<k
      ·have V:(q:Int)<(k:Int):=by omega
       have X:(q:Int)<(bs.length:Int):=by omega
       have f:=ki (show Below w.heap.size w wr.drew from b.o.drew);have B:=ki (And.intro (lC (H.o _ f.o q (by omega))) (lC (H.o _ f.o k hlt)));rw[s.o] at B J;obtain⟨y,hy⟩:∃y,el (bs.getD q []) 0=y:=⟨_,rfl⟩;rw[hy] at B;obtain⟨c1,c2⟩:=B.o;have L:=ki hy;clear hy;go_upto_region 14 with fail
       go_region_held3 (fun W'=>W'.cell? ⟨g,r+q*6,none⟩=some (.int .i64 y)∧W'.cell? ⟨g,r+k*6,none⟩=some (.int .i64 x0))
        (first
         | exact B.o
         | go_keep)
        (fail)
       clear c1 c2 B;generalize wr.drew=XZ at f⊢;cases he:y == x0
       ·have o:=ki he;go_wp2;go_roundw
        case rel=>exact⟨q+1,by omega,by go_num,fun j hj=>if e:j=q then by rw[e,L.o,s.o];exact o.o else by rw[s.o];exact J.o j (by omega),f⟩
        case measure=>simp[intOf];omega
       ·have o:=ki (show R=((k:Int),8) by
         have hs:=Tj (bs:=bs) Tk (by rw[L.o,s.o];exact he);rw[I.o (by rw[n.o,hs];rfl) HI.o,n.o,hs];rfl)
        go_wp2;go_ret2;exact⟨by rw[o.o];rfl,f.o⟩
      ·obtain rfl:k=q:=by omega
       have o:=ki (show(flt bs k != 0)=false by rw[n.o,(Ti bs k).2 J.o];rfl);go_wp2;go_roundw
       case rel=>exact⟨k+1,by omega,by go_num,fun j hj=>if e:j=k then by rw[e];exact o.o else HI.o j (by omega),b⟩
       case measure=>simp[intOf];omega
   ·obtain rfl:bs.length=k:=by omega
    go_wp2;go_ret2;exact⟨by rw[G.o HI.o];rfl,b.o⟩
end
section
variable {f:List Int}{W w:World}
attribute [local go_sem ↓] gP
theorem Tm(seed:Int)(f:List Int)(id:Int)(w:World)(h:fA seed f id=false): Calls prog 82 #[.int .i64 seed,.agg (ak f),.int .i64 id] w fun e w'=>e=.returned (.tuple #[.int .i64 0,.int .i64 1])∧Below w.heap.size w w':=by
 have a:=ki (au w (.cells (ak f) 89));have i:=ki (iC f w);have d:=ki (fun W=>oq id W);have g:=ki (fun W=>xU f W);have hc:=MX h;clear h;generalize wd id=p at d hc;generalize aW f=ok at g hc;go_enter func82,ntmps82;go_upto_region 1 with fail
 generalize w.alloc _=W at a i⊢;go_upto_region 2 with(go_at_call 22;refine(d.o _).mono ?_;rintro e l ⟨rfl,k⟩;rw[k];clear k l)
 clear d;rcases hc with h1|⟨h1,h2⟩|⟨h1,h2,rfl⟩|⟨h1,h2,rfl,rfl⟩
 ·go_wp2;go_ret2;exact⟨rfl,a.o⟩
 ·go_wp2;go_ret2;exact⟨rfl,a.o⟩
 ·go_wp2;go_ret2;exact⟨rfl,a.o⟩
 ·rw[show fe false=1 from rfl] at g;have n:=i.o.fl;go_wp2_with (go_at_call 83;refine(g.o _).mono ?_;rintro e o ⟨rfl,b⟩;replace a:=ki (bt a.o b);clear b)
  go_ret2;exact⟨rfl,a.o⟩
def mH(w:World)(f:List Int)(v:Value)(l:List Int)(W:World):Prop:=bn w.heap.size f W∧bJ 3 (w.heap.size+1) W v (ints l)∧Below w.heap.size w W∧w.heap.size+1<=W.heap.size
theorem mH.kept{v:Value}{l:List Int}{W':World}(h:mH w f v l W)(hb:Below W.heap.size W W'):mH w f v l W':=by obtain⟨b,a,d,i⟩:=h;exact⟨b.kept hb,M5 a (fun g e=>hb.block g (Fa a g e).1),bt d hb,Nat.le_trans i hb.size⟩
theorem mH.grown{v v':Value}{l l':List Int}{W':World}(h:mH w f v l W)(hg:W.grownBy W' v.ownBlock)(ho:bJ 3 (w.heap.size+1) W' v' (ints l')):mH w f v' l' W':=by
 obtain⟨a,d,b,i⟩:=h;have hv:∀g,some g=v.ownBlock->w.heap.size+1<=g:=fun g e=>(Fa d g e.symm).2
 exact⟨(hg.block _ a.lt (fun e=>by have:=hv _ e;omega)).trans a,ho,b.grown hg b.size (fun k e=>by have:=hv k e.symm;omega),Nat.le_trans i hg.size⟩
theorem vE{ops:Array Oper}{rest:List Oper}{o:Oper}{a:Act}{Q:Exit->Act->World->Prop}(hgd:o.guard=none)(s x:Operand)(ho:o.op=.call { callee:=.builtin .append,args:=#[s,x],argTypes:=#[168,168] })(v:Value)(l ys:List Int)(m:Nat)(hs:a.eval s=v)(hk:mH w f v l W)(hx:a.eval x=.slice (some ⟨W.heap.size,0,none⟩) m m)(hm:ys.length=m)(hlen:l.length+m<=1000)(h:∀v' w',mH w f v' (l++ys) w'->wpList prog ops Q rest (a.put o.dst v') w'):wpList prog ops Q (o::rest) a (W.alloc (.cells (ints ys).toArray 3)):=by
 have b:=hk.kept (au W (.cells (ints ys).toArray 3));refine MO hgd s x ho (w.heap.size+1) v (ints l) hs b.2.1 W.heap.size m (ints ys) hx (by rw[uN];exact hm) ?_ ?_ (by rw[uN];omega) b.2.2.2 ?_
 ·intro j u d;rw[cell_of_row _ _ j _ _ _ (heap_alloc_new W (.cells (ints ys).toArray 3))];simpa using d
 ·intro u d;unfold ints at d;obtain⟨z,_,rfl⟩:=List.mem_map.1 d;rfl
 ·intro v' w' e g;exact h v' w' (b.grown g (by rw[M0];exact e))
theorem Tn(seed:Int)(f:List Int)(id:Int)(w:World)(h:fA seed f id=true): Calls prog 82 #[.int .i64 seed,.agg (ak f),.int .i64 id] w fun e w'=>e=.returned (.tuple #[.int .i64 (sc seed f id),.int .i64 0])∧Below w.heap.size w w':=by
 obtain⟨B,L,C,h4⟩:=qJ.1 h;have r:=ki (xg h);have s:=ki (show 0<=seed∧seed<2147483648 from⟨B,by omega⟩);have M:¬seed<0:=by omega
 have N:¬2147483647<seed:=by omega
 have z:=ki (fun W=>oq id W);rw[C] at z;have A:=ki (fun W=>xU f W);rw[h4,show fe true=0 from rfl] at A;have a:=ki (show mH w f (.slice none 0 0) [] (w.alloc (.cells (ak f) 89)) from⟨iC f w,M4 _ _,au _ _,by rw[World.size_alloc];exact Nat.le_refl _⟩);clear h B L C h4;go_enter func82,ntmps82;go_upto_region 1 with fail
 generalize w.alloc _=W at a⊢;have O:=a.o.1.fl;go_upto_region 8 with(first|(go_at_call 22;refine(z.o _).mono ?_;rintro e P ⟨rfl,D⟩;rw[D];clear D P)|(go_at_call 83;refine(A.o _).mono ?_;rintro e U ⟨rfl,y⟩;replace a:=ki (a.o.kept y);clear y O))
 clear z A M N;have c0:=a.o.1.cell 0 (by omega);go_upto_region 9 with(at_builtin;refine vE rfl (.tmp 32) (.tmp 35) rfl (.slice none 0 0) [] [el f 0] 1 rfl a.o rfl rfl (by simp) ?_;intro E F p;replace a:=ki p;clear p)
 clear c0;go_wp2;go_loopw [10,11] (fun v t wr=>∃k:Nat,k<=8∧t=.int .i64 k∧Hid (mH w f v (nl f (1+k)) wr)) (fun _ t _=>8-(intOf t).toNat)
 case atStart=>exact⟨0,by omega,rfl,a⟩
 case round =>
  clear a;obtain⟨k,G,rfl,a⟩:=hrel;by_cases hlt:k<8
  ·have H:(k:Int)<8:=by omega
   have c1:=a.o.1.cell (1+k) (by omega);have b:=ki (show nl f (1+k)++[el f (1+k)]=nl f (1+(k+1)) by rw[<-w9];rfl);have d:=ki (show(nl f (1+k)).length+1<=1000 by rw[uL];omega);generalize el f (1+k)=x at c1 b;generalize nl f (1+k)=l at a b d;go_wp2_with (at_builtin;refine vE rfl (.tmp 41) (.tmp 46) rfl _ l [x] 1 rfl a.o rfl rfl d.o ?_;intro E F p;replace a:=ki p;clear p)
   go_roundw
   case rel=>exact⟨k+1,by omega,by go_num,by rw[<-b.o];exact a⟩
   case measure=>simp[intOf];omega
  ·obtain rfl:k=8:=by omega
   have I:=a.o.1.cell 9 (by omega);have b:=ki (show nl f 9++[el f 9]=nl f 10 by rw[<-w9]);have d:=ki (show(nl f 9).length+1<=1000 by rw[uL];omega);rw[show 1+8=9 from rfl] at a;generalize el f 9=x at I b;generalize nl f 9=l at a b d;go_wp2_with (at_builtin;refine vE rfl (.tmp 48) (.tmp 51) rfl _ l [x] 1 rfl a.o rfl rfl d.o ?_;intro V X J;replace a:=ki J;clear J)
   rw[b.o] at a;clear I b d;go_loopw [10,12] (fun v t wr=>∃k:Nat,k<=8∧t=.int .i64 k∧Hid (mH w f v (nl f (10+k)) wr)) (fun _ t _=>8-(intOf t).toNat)
   case atStart=>exact⟨0,by omega,rfl,a⟩
   case round =>
    clear a;obtain⟨k,G,rfl,a⟩:=hrel;by_cases hlt:k<8
    ·have H:(k:Int)<8:=by omega
     have c1:=a.o.1.cell (10+k) (by omega);have b:=ki (show nl f (10+k)++[el f (10+k)]=nl f (10+(k+1)) by rw[<-w9];rfl);have d:=ki (show(nl f (10+k)).length+1<=1000 by rw[uL];omega);generalize el f (10+k)=x at c1 b;generalize nl f (10+k)=l at a b d;go_wp2_with (at_builtin;refine vE rfl (.tmp 57) (.tmp 62) rfl _ l [x] 1 rfl a.o rfl rfl d.o ?_;intro E F p;replace a:=ki p;clear p)
     go_roundw
     case rel=>exact⟨k+1,by omega,by go_num,by rw[<-b.o];exact a⟩
     case measure=>simp[intOf];omega
    ·obtain rfl:k=8:=by omega
     have c18:=a.o.1.cell 18 (by omega);have b:=ki (show nl f 18++[el f 18,id]=nums f id by unfold nums;rw[w9,List.append_assoc];rfl);have d:=ki (show(nl f 18).length+2<=1000 by rw[uL];omega);rw[show 10+8=18 from rfl] at a;generalize el f 18=x at c18 b;generalize nl f 18=l at a b d;go_wp2_with (at_builtin;refine vE rfl (.tmp 64) (.tmp 68) rfl _ l [x,id] 2 rfl a.o rfl rfl d.o ?_;intro Y Q K;replace a:=ki K;clear K)
     rw[b.o] at a;clear c18 b d;obtain⟨g,Z,rfl,o⟩:=M6 a.o.2.1 (by rw[sH];omega);rw[sH] at o⊢;have R:=ki o;have S:=ki a.o.2.2.1;clear o;go_loopw [13,14] (fun u t wr=>∃k:Nat,k<=20∧t=.int .i64 k∧u=.int .i64 (eX seed ((nums f id).take k))∧Q=wr) (fun _ t _=>20-(intOf t).toNat)
     case atStart=>exact⟨0,by omega,rfl,rfl,rfl⟩
     case round =>
      obtain⟨k,G,rfl,rfl,rfl⟩:=hrel;by_cases hlt:k<20
      ·have H:(k:Int)<20:=by omega
       have c1:=R.o k hlt;have q:=ki (show eX seed ((nums f id).take (k+1))=mx (eX seed ((nums f id).take k)) ((nums f id).getD k 0) by rw[List.take_add_one,List.getElem?_eq_getElem (by rw[sH];exact hlt),List.getD_eq_getElem?_getD,List.getElem?_eq_getElem (by rw[sH];exact hlt)];exact xq _ _ _);have i:=qK s.o ((nums f id).take k) (fun x hx=>(r.o x (List.mem_of_mem_take hx)).1);have hn:=r.o ((nums f id).getD k 0) (by rw[List.getD_eq_getElem?_getD,List.getElem?_eq_getElem (by rw[sH];exact hlt)];exact List.getElem_mem _);generalize eX seed ((nums f id).take k)=x at q i;generalize (nums f id).getD k 0=n at c1 q hn;have T:IntKind.i64.wrap (x*69069)=x*69069:=by rw[IntKind.wrap_i64];omega
       have q2:IntKind.i64.wrap (x*69069+n)=x*69069+n:=by rw[IntKind.wrap_i64];omega
       have q3:IntKind.i64.wrap (x*69069+n+1)=x*69069+n+1:=by rw[IntKind.wrap_i64];omega
       have HM:=ki (show mx x n=(x*69069+n+1).tmod 2147483648 from rfl);clear i hn;go_wp2;go_roundw
       case rel=>exact⟨k+1,by omega,by go_num,by rw[q.o];rfl,by first|trivial|rfl⟩
       case measure=>simp[intOf];omega
      ·obtain rfl:k=20:=by omega
       have q:=ki (show sc seed f id=(eX seed ((nums f id).take 20)).tdiv 256 by unfold sc;rw[List.take_of_length_le (by rw[sH];omega)]);have i:=qK s.o ((nums f id).take 20) (fun x hx=>(r.o x (List.mem_of_mem_take hx)).1);generalize eX seed ((nums f id).take 20)=x at q i;have T:IntKind.i64.wrap (x.tdiv 256)=x.tdiv 256:=by rw[IntKind.wrap_i64,Int.tdiv_eq_ediv_of_nonneg i.1];omega
       clear i;go_wp2;go_ret2;exact⟨by rw[q.o];rfl,S.o⟩
theorem BQ(seed:Int)(f:List Int)(id:Int)(w:World): Calls prog 82 #[.int .i64 seed,.agg (ak f),.int .i64 id] w fun e w'=>e=.returned (.tuple #[.int .i64 (sv seed f id),.int .i64 (fe (fA seed f id))])∧Below w.heap.size w w':=by
 unfold sv;cases h:fA seed f id
 ·exact Tm seed f id w h
 ·exact Tn seed f id w h
end
section
variable {f:List Int}
def tJ(w:World)(f:List Int)(a:Option Addr)(bs:List (List Int))(W:World):Prop:=bn w.heap.size f W∧dY (w.heap.size+1) [] W∧fM a bs W∧Below w.heap.size w W
theorem tJ.kept{w:World}{a:Option Addr}{bs:List (List Int)}{W W':World}(h:tJ w f a bs W)(hb:Below W.heap.size W W'):tJ w f a bs W':=⟨h.1.kept hb,h.2.1.kept hb,h.2.2.1.below hb,bt h.2.2.2 hb⟩
theorem Iu{w:World}(f:List Int){a:Option Addr}{bs:List (List Int)}(h:fM a bs w):tJ w f a bs ((w.alloc (.cells (ak f) 89)).alloc (.cells iy 77)):=by have d:=au w (.cells (ak f) 89);have b:=au (w.alloc (.cells (ak f) 89)) (.cells iy 77);have e:=nO (w.alloc (.cells (ak f) 89));rw[World.size_alloc] at e;exact⟨(iC f w).kept b,e,(h.below d).below b,bt d b⟩
def rA(o:Option Nat):Int:=match o with|some i=>i|none=>-1
attribute [local go_sem ↓] gP sF
theorem Iw(seed:Int)(f:List Int)(a:Option Addr)(cap:Nat)(bs:List (List Int))(w:World)(h:fM a bs w)(hl:bs.length<=maxLen)(e:Int)(he:dW seed f bs=([],e))(hc:(dz bs).2≠0∨((dz bs).2=0∧fA seed f 0=false)): Calls prog 35 #[.int .i64 seed,.agg (ak f),.slice a bs.length cap] w fun r w'=>r=.returned (.tuple #[.agg (bG []),.int .i64 e])∧Below w.heap.size w w':=by
 have b:=ki (Iu f h);have o:=ki (fun W hW=>BP a cap bs W hW hl);have q:=ki (fun W=>BQ seed f 0 W);have i:=ki he;unfold iy at b;unfold dW at i;clear h hl he;generalize (dz bs).1=p at o;generalize (dz bs).2=e0 at o hc i;generalize fA seed f 0=so at q hc i;generalize sv seed f 0=s0 at q;go_enter func35,ntmps35;go_upto_region 1 with fail
 generalize (w.alloc _).alloc _=W at b⊢;rcases hc with hc|⟨rfl,rfl⟩
 ·have y:(e0 != 0)=true:=by simpa using hc
  have l:=ki (show e0=e by have:=i.o;rw[if_neg hc] at this;injection this);clear hc i;go_wp2_with (first|(go_at_call 25;refine(o.o _ b.o.2.2.1).mono ?_;rintro r t ⟨rfl,d⟩;replace b:=ki (b.o.kept d);clear d)|(refine kC rfl (.tmp 6) (.tmp 22) rfl rfl b.o.2.1 [] rfl ?_;intro v k g;have n:=ki (g.below b.o.2.2.2 (Nat.le_succ _));replace k:=ki k;clear g))
  try simp only[Exit.inBlock,Exit.then]
  refine bodyPost_ret (pI rfl _ _ (w.heap.size+1) [] rfl k.o) rfl ?_;exact⟨by rw[<-l.o];rfl,n.o⟩
 ·have l:=ki (show e=1 by have:=i.o;simp at this;exact this.symm);rw[show fe false=1 from rfl] at q;clear i;go_wp2_with (first|(go_at_call 25;refine(o.o _ b.o.2.2.1).mono ?_;rintro r t ⟨rfl,d⟩;replace b:=ki (b.o.kept d);clear d;have x:=b.o.1.fl)|(go_at_call 82;refine(q.o _).mono ?_;rintro r z ⟨rfl,s⟩;replace b:=ki (b.o.kept s);clear s x)|(refine kC rfl (.tmp 6) (.tmp 32) rfl rfl b.o.2.1 [] rfl ?_;intro v k g;have n:=ki (g.below b.o.2.2.2 (Nat.le_succ _));replace k:=ki k;clear g))
  try simp only[Exit.inBlock,Exit.then]
  refine bodyPost_ret (pI rfl _ _ (w.heap.size+1) [] rfl k.o) rfl ?_;exact⟨by rw[l.o];rfl,n.o⟩
theorem Tp{seed:Int}{bs:List (List Int)}{k:Nat}(h:cand (bs.getD k [])=false):bZ seed f bs (k+1)=bZ seed f bs k:=by simp only[bZ];rw[if_neg (by rw[h];simp)]
theorem Tq{seed:Int}{bs:List (List Int)}{k:Nat}(h:cand (bs.getD k [])=true){o:Option Nat}{m:Int}(hp:bZ seed f bs k=(o,m)):bZ seed f bs (k+1)=if oh bs o m (pv seed f (bs.getD k [])) k=true then (some k,pv seed f (bs.getD k [])) else (o,m):=by simp only[bZ];rw[if_pos h,hp]
theorem Tt(seed:Int)(f:List Int)(a:Option Addr)(cap:Nat)(bs:List (List Int))(w:World)(h:fM a bs w)(hl:bs.length<=maxLen)(hb:(dz bs).2=0)(hs:fA seed f 0=true): Calls prog 35 #[.int .i64 seed,.agg (ak f),.slice a bs.length cap] w fun r w'=>r=.returned (.tuple #[.agg (bG (lD (bZ seed f bs bs.length).1 bs).1),.int .i64 (lD (bZ seed f bs bs.length).1 bs).2])∧Below w.heap.size w w':=by
 have P:=uK hb;have n9:=P.1;have bW:=ki P.2;have j9:(bs.length:Int)<=8:=by omega
 have l:=ki (Iu f h);have HF:=ki (fun W hW=>BP a cap bs W hW hl);rw[hb] at HF;have HS:=ki (fun id W=>BQ seed f id W);have L:=ki (fun W=>BQ seed f 0 W);rw[hs,show fe true=0 from rfl] at L;unfold iy at l;clear h hl hb hs P;generalize (dz bs).1=p at HF;generalize sv seed f 0=s0 at L;have HR:=ki (show lD (bZ seed f bs bs.length).1 bs=lD (bZ seed f bs bs.length).1 bs from rfl);obtain⟨R,hR⟩:∃R,lD (bZ seed f bs bs.length).1 bs=R:=⟨_,rfl⟩;rw[hR];replace HR:=ki hR;clear hR;go_enter func35,ntmps35;go_upto_region 1 with fail
 generalize (w.alloc _).alloc _=W at l⊢;go_upto_region 7 with(first|(go_at_call 25;refine(HF.o _ l.o.2.2.1).mono ?_;rintro r w1 ⟨rfl,ae⟩;replace l:=ki (l.o.kept ae);clear ae;have Q:=l.o.1.fl)|(go_at_call 82;refine(L.o _).mono ?_;rintro r w2 ⟨rfl,af⟩;replace l:=ki (l.o.kept af);clear af Q))
 clear HF L;go_wp2;go_loopw [10,11,12] (fun u v t wr=>∃(k:Nat) (o:Option Nat) (m:Int),k<=bs.length∧t=.int .i64 k∧u=.int .i64 (rA o)∧v=.int .i64 m∧Hid (bZ seed f bs k=(o,m))∧Hid (tJ w f a bs wr)) (fun _ _ t _=>bs.length-(intOf t).toNat)
 case atStart=>exact⟨0,none,0,by omega,rfl,rfl,rfl,rfl,l⟩
 case round =>
  clear l;obtain⟨k,o,m,hk,rfl,rfl,rfl,O,l⟩:=hrel;by_cases hlt:k<bs.length
  ·obtain⟨g,A,rfl,S,z⟩:=l.o.2.2.1 (by omega);have E:=ki (show ∀W,Below wr.heap.size wr W->∀k,k<bs.length->W.rangeAt g (A+k*6) (bG (bs.getD k [])).toList from fun W hW k hk j u hu=>by rw[hW.cell (p:=⟨g,A+k*6+j,none⟩) S];exact z k hk j u hu);have j1:(k:Int)<(bs.length:Int):=by omega
   have c4:=EW (z k hlt);have c5:=EX (z k hlt);have c3:=lu (z k hlt) 3 (by omega);have C:=ki (show cand (bs.getD k [])=((el (bs.getD k []) 4 == 1) && !(el (bs.getD k []) 5 == 1) && !(el (bs.getD k []) 3 == 0)) from rfl);have F:=ki (show pv seed f (bs.getD k [])=sv seed f (el (bs.getD k []) 0)*el (bs.getD k []) 3 from rfl);have T:=ki (show 0<=el (bs.getD k []) 3∧el (bs.getD k []) 3<=10 by have:=(bW.o k hlt).1;unfold iK at this;simp only[Bool.and_eq_true,decide_eq_true_eq] at this;exact this.2);have d:=ki (show bZ seed f bs (k+1)=if cand (bs.getD k [])=true then (if oh bs o m (pv seed f (bs.getD k [])) k=true then (some k,pv seed f (bs.getD k [])) else (o,m)) else (o,m) by
    cases hcd:cand (bs.getD k [])
    ·rw[Tp hcd,O.o];rfl
    ·rw[Tq hcd O.o];rfl)
   clear z;generalize (el (bs.getD k []) 4 == 1)=up at c4 C;generalize (el (bs.getD k []) 5 == 1)=dr at c5 C;obtain⟨x3,hx3⟩:∃x,el (bs.getD k []) 3=x:=⟨_,rfl⟩;rw[hx3] at c3 C F T;have am:=ki hx3;clear hx3;generalize cand (bs.getD k [])=cd at C d;have hc:(cd=false∧(up=false∨(up=true∧dr=true)∨(up=true∧dr=false∧(x3 == 0)=true)))∨(cd=true∧up=true∧dr=false∧(x3 == 0)=false):=by rw[C.o];cases up<;>cases dr<;>cases x3 == 0<;>simp
   clear C;rcases hc with⟨rfl,hc⟩|⟨rfl,rfl,rfl,hz⟩
   ·replace d:Hid (bZ seed f bs (k+1)=(o,m)):=d;rcases hc with rfl|⟨rfl,rfl⟩|⟨rfl,rfl,hz⟩;all_goals
     go_wp2;go_roundw
     case rel=>exact⟨k+1,o,m,by omega,by go_num,rfl,rfl,d,l⟩
     case measure=>simp[intOf];omega
   ·go_upto_region 13 with fail
    clear c3 c4 c5;obtain⟨x0,hx0⟩:∃x,el (bs.getD k []) 0=x:=⟨_,rfl⟩;have U:=ki hx0;rw[hx0] at F;have M:=ki (fun W=>HS.o x0 W);have V:=ki (l.o.kept (show Below wr.heap.size wr wr.drew from(Below.refl _ _).drew));have I:=ki (show(bO (.pointer (some ⟨w.heap.size,0,none⟩))).run prog wr.drew=.ok (.agg (ak f)) wr.drew∧wr.drew.cell? ⟨g,A+k*6,none⟩=some (.int .i64 x0) from⟨V.o.1.fl,by rw[lC (E.o _ (show Below wr.heap.size wr wr.drew from(Below.refl _ _).drew) k hlt),hx0]⟩);obtain⟨Q,c0⟩:=I.o;clear hx0;have X:=E9 seed f x0;generalize sv seed f x0=s at M F X;generalize fe (fA seed f x0)=fx at M;go_region_held3 (fun W'=>(bO (.pointer (some ⟨w.heap.size,0,none⟩))).run prog W'=.ok (.agg (ak f)) W'∧W'.cell? ⟨g,A+k*6,none⟩=some (.int .i64 x0))
     (first
      | exact I.o
      | exact J.o
      | go_keep)
     (first|(go_at_call 82;refine(M.o _).mono ?_;rintro r B ⟨rfl,Y⟩;have ag:=ki (V.o.kept Y);have N:=ki (bt (show Below wr.heap.size wr wr.drew from(Below.refl _ _).drew) Y);have J:=ki (show(bO (.pointer (some ⟨w.heap.size,0,none⟩))).run prog B=.ok (.agg (ak f)) B∧B.cell? ⟨g,A+k*6,none⟩=some (.int .i64 x0) from⟨ag.o.1.fl,by rw[lC (E.o _ N.o k hlt),U.o]⟩);clear Y Q c0;obtain⟨Q,c0⟩:=J.o))
    clear Q c0 I J V M l;have c3:B.cell? ⟨g,A+k*6+3,none⟩=some (.int .i64 x3):=by rw[lu (E.o _ N.o k hlt) 3 (by omega),am.o]
    obtain⟨n,hn⟩:∃n,s*x3=n:=⟨_,rfl⟩;have q1:IntKind.i64.wrap (s*x3)=n:=by obtain⟨a1,a2⟩:=T.o;obtain⟨b1,b2⟩:=X;have p1:0<=s*x3:=Int.mul_nonneg b1 a1;have p2:s*x3<=s*10:=Int.mul_le_mul_of_nonneg_left a2 b1;rw[IntKind.wrap_i64];omega
    rw[F.o,hn] at d;clear hn;clear F X T;replace d:Hid (bZ seed f bs (k+1)=if oh bs o m n k=true then (some k,n) else (o,m)):=d;have ap:=ki (show ∀q,(B.drewN q).cell? ⟨g,A+k*6,none⟩=some (.int .i64 x0) from fun q=>by rw[<-U.o];exact lC (E.o B N.o k hlt));have G:=ki (show ∀q,tJ w f (some ⟨g,A,none⟩) bs (B.drewN q) from fun q=>ag.o.kept ⟨rfl,rfl,rfl,Nat.le_refl _,fun _ _=>rfl⟩);cases o with
    | none =>
     have Z:rA none<0:=by decide
     generalize rA none=x at Z⊢;replace d:Hid (bZ seed f bs (k+1)=(some k,n)):=d;go_upto_region 15 with fail
     have d0:decide (x<0)=true:=decide_eq_true Z;clear c3 q1 Z;go_quiet (fail)
     have e:=ki (G.o nq);generalize B.drewN nq=fK at e⊢;go_wp2_with fail
     go_roundw
     case rel=>exact⟨k+1,some k,n,by omega,by go_num,rfl,rfl,d,e⟩
     case measure=>simp[intOf];omega
    | some i =>
     have aq:=uM seed f bs k i (by rw[O.o]);have D:=ki (show oh bs (some i) m n k=(decide (m<n) || ((n == m) && decide (el (bs.getD k []) 0<el (bs.getD i []) 0))) from rfl);rw[U.o] at D;obtain⟨y0,hy0⟩:∃y,el (bs.getD i []) 0=y:=⟨_,rfl⟩;rw[hy0] at D;have ar:=ki (show ∀q,(B.drewN q).cell? ⟨g,A+i*6,none⟩=some (.int .i64 y0) from fun q=>by rw[<-hy0];exact lC (E.o B N.o i (by omega)));have d0:decide ((i:Int)<0)=false:=decide_eq_false (by omega);have X0:(i:Int)<(bs.length:Int):=by omega
     rw[show rA (some i)=(i:Int) from rfl];clear hy0 aq;go_upto_region 15 with fail
     clear c3 q1;have c0:=ap.o;have ci:=ar.o;by_cases h1:m<n
     ·have d1:decide (m<n)=true:=decide_eq_true h1;replace d:Hid (bZ seed f bs (k+1)=(some k,n)):=by rw[d.o,D.o,d1];exact ki rfl
      clear h1;go_quiet (fail)
      have e:=ki (G.o nq);generalize B.drewN nq=fK at e⊢;go_wp2_with fail
      go_roundw
      case rel=>exact⟨k+1,some k,n,by omega,by go_num,rfl,rfl,d,e⟩
      case measure=>simp[intOf];omega
     ·have d1:decide (m<n)=false:=decide_eq_false h1;cases h2:n == m
      ·replace d:Hid (bZ seed f bs (k+1)=(some i,m)):=by rw[d.o,D.o,d1,h2];exact ki rfl
       clear h1;go_quiet (fail)
       have e:=ki (G.o nq);generalize B.drewN nq=fK at e⊢;go_wp2_with fail
       go_roundw
       case rel=>exact⟨k+1,some i,m,by omega,by go_num,rfl,rfl,d,e⟩
       case measure=>simp[intOf];omega
      ·by_cases h3:x0<y0
       ·have d3:decide (x0<y0)=true:=decide_eq_true h3;replace d:Hid (bZ seed f bs (k+1)=(some k,n)):=by rw[d.o,D.o,d1,h2,d3];exact ki rfl
        clear h1 h3;go_quiet (fail)
        have e:=ki (G.o nq);generalize B.drewN nq=fK at e⊢;go_wp2_with fail
        go_roundw
        case rel=>exact⟨k+1,some k,n,by omega,by go_num,rfl,rfl,d,e⟩
        case measure=>simp[intOf];omega
       ·have d3:decide (x0<y0)=false:=decide_eq_false h3;replace d:Hid (bZ seed f bs (k+1)=(some i,m)):=by rw[d.o,D.o,d1,h2,d3];exact ki rfl
        clear h1 h3;go_quiet (fail)
        have e:=ki (G.o nq);generalize B.drewN nq=fK at e⊢;go_wp2_with fail
        go_roundw
        case rel=>exact⟨k+1,some i,m,by omega,by go_num,rfl,rfl,d,e⟩
        case measure=>simp[intOf];omega
  ·obtain rfl:bs.length=k:=by omega
   cases o with
   | none =>
    have Z:rA none<0:=by decide
    generalize rA none=x at Z⊢;have HE:=ki (show R=([],4) by rw[<-HR.o,O.o];rfl);go_wp2_with (refine kC rfl (.tmp 6) (.tmp 108) rfl rfl l.o.2.1 [] rfl ?_;intro w5 K H;have ab:=ki (H.below l.o.2.2.2 (Nat.le_succ _));replace K:=ki K;clear H)
    try simp only[Exit.inBlock,Exit.then]
    refine bodyPost_ret (pI rfl _ _ (w.heap.size+1) [] rfl K.o) rfl ?_;exact⟨by rw[HE.o];rfl,ab.o⟩
   | some i =>
    have dZ:=uM seed f bs bs.length i (by rw[O.o]);have HE:=ki (show R=(bs.getD i [],0) by rw[<-HR.o,O.o];rfl);obtain⟨g,A,rfl,S,z⟩:=l.o.2.2.1 (by omega);have gk:=sG (z i dZ);obtain⟨bi,hbi⟩:∃b,bs.getD i []=b:=⟨_,rfl⟩;rw[hbi] at gk HE;clear hbi;have j2:¬(i:Int)<0:=by omega
    have vZ:(i:Int)<(bs.length:Int):=by omega
    clear z S;rw[show rA (some i)=(i:Int) from rfl];go_wp2_with (refine kC rfl (.tmp 6) (.tmp 112) rfl rfl l.o.2.1 bi rfl ?_;intro w5 K H;have ab:=ki (H.below l.o.2.2.2 (Nat.le_succ _));replace K:=ki K;clear H)
    try simp only[Exit.inBlock,Exit.then]
    refine bodyPost_ret (pI rfl _ _ (w.heap.size+1) bi rfl K.o) rfl ?_;exact⟨by rw[HE.o];rfl,ab.o⟩
theorem Kv(seed:Int)(f:List Int)(a:Option Addr)(cap:Nat)(bs:List (List Int))(w:World)(h:fM a bs w)(hl:bs.length<=maxLen): Calls prog 35 #[.int .i64 seed,.agg (ak f),.slice a bs.length cap] w fun r w'=>r=.returned (.tuple #[.agg (bG (dW seed f bs).1),.int .i64 (dW seed f bs).2])∧Below w.heap.size w w':=by
 by_cases hb:(dz bs).2=0
 ·cases hs:fA seed f 0
  ·have b:dW seed f bs=([],1):=by unfold dW;rw[if_pos hb,hs];rfl
   rw[b];exact Iw seed f a cap bs w h hl 1 b (.inr ⟨hb,hs⟩)
  ·have b:dW seed f bs=lD (bZ seed f bs bs.length).1 bs:=by unfold dW;rw[if_pos hb,hs];rfl
   rw[b];exact Tt seed f a cap bs w h hl hb hs
 ·have b:dW seed f bs=([],(dz bs).2):=by unfold dW;rw[if_neg hb]
  rw[b];exact Iw seed f a cap bs w h hl _ b (.inl hb)
end
end Go.Proofs.YtgcojnlngchllaaGreatDoor
