import Derived.Test.YtgcojnlngchllaaGreatDoorJ25
namespace Go.Proofs.YtgcojnlngchllaaGreatDoor
open Go.RowKit Tryz
set_option linter.unusedVariables false
set_option maxRecDepth 100000
set_option maxHeartbeats 40000000
section
attribute [local go_sem ↓] Go.wp_at_zero Go.wp_at_succ
theorem tC(w:World)(n:Nat)(o:Obj):(w.drewN n).alloc o=(w.alloc o).drewN n:=rfl
theorem tF(w:World)(n:Nat)(a:Addr)(v:Value):(w.drewN n).setCell a v=(w.setCell a v).drewN n:=rfl
attribute [local go_sem] tC tF
theorem gq(g off len cap:Nat)(zs:List Int)(w:World)(x:Int)(hr:aj w (some ⟨g,off,none⟩) len cap zs)(h0:0<=x)(h1:x+1<len): Calls prog 78 #[.slice (some ⟨g,off,none⟩) len cap,.int .i64 x] w fun e w'=>e=.returned (.int .i64 (P4.wd zs x.toNat))∧∃n,w'=w.drewN n:=by
 obtain⟨j,rfl⟩:=Int.eq_ofNat_of_zero_le h0;obtain⟨q,k,f,_,h⟩:=hr;obtain⟨b,o,e,d⟩:=h (by omega);cases e;have c0:=d j (by omega);have c1:=d (j+1) (by omega);have l:=f j;have p:=f (j+1);have i:=ki (show P4.wd zs (Int.toNat (j:Int))=256*zs.getD j 0+zs.getD (j+1) 0 from rfl);clear d h f;generalize zs.getD j 0=y0 at c0 l i;generalize zs.getD (j+1) 0=y1 at c1 p i;unfold maxLen at k;have r:(0:Int)<=(j:Int):=by omega
 have s:(j:Int)<(len:Int):=by omega
 have t:(j:Int)+1<(len:Int):=by omega
 have v:IntKind.i64.wrap ((j:Int)+1)=(j:Int)+1:=by rw[IntKind.wrap_i64];omega
 have y:IntKind.i64.wrap y0=y0:=by rw[IntKind.wrap_i64];omega
 have z:IntKind.i64.wrap y1=y1:=by rw[IntKind.wrap_i64];omega
 have A:IntKind.i64.wrap (256*y0)=256*y0:=by rw[IntKind.wrap_i64];omega
 have B:IntKind.i64.wrap (256*y0+y1)=256*y0+y1:=by rw[IntKind.wrap_i64];omega
 clear h0 h1;go_enter func78,ntmps78;go_upto_region 1 with fail
 go_quiet (fail)
 go_wp2;go_ret;exact⟨by rw[i.o];rfl,_,rfl⟩
theorem mF(g off len cap:Nat)(zs:List Int)(w:World)(x:Int)(hr:aj w (some ⟨g,off,none⟩) len cap zs)(h0:0<=x)(h1:x+1<len): Calls prog 78 #[.slice (some ⟨g,off,none⟩) len cap,.int .i64 x] w fun e w'=>e=.returned (.int .i64 (P4.wd zs x.toNat))∧Below w.heap.size w w' :=
 (gq g off len cap zs w x hr h0 h1).mono fun e w' ⟨h1,n,h2⟩=>⟨h1,by rw[h2];exact(Below.refl _ _).trans ⟨rfl,rfl,rfl,Nat.le_refl _,fun _ _=>rfl⟩⟩
theorem kF(zs:List Int)(ho:SM.Oct zs)(j:Nat):0<=P4.wd zs j∧P4.wd zs j<=65535:=by have:=ho j;have:=ho (j+1);unfold P4.wd;omega
theorem vC(zs:List Int)(j:Nat):P4.wd zs j=num (zs.drop j) 2:=by rw[uD];unfold P4.wd;omega
theorem Sb(zs:List Int):aR 17 zs=[17,P4.wd zs 0,P4.wd zs 2,0,0,0,0]:=by rw[vC,vC];rfl
theorem Sc(zs:List Int):aR 6 zs=[6,P4.wd zs 0,P4.wd zs 2,65536*P4.wd zs 4+P4.wd zs 6,65536*P4.wd zs 8+P4.wd zs 10,zs.getD 13 0,P4.wd zs 14]:=by
 have e4:65536*P4.wd zs 4+P4.wd zs 6=num (zs.drop 4) 4:=by rw[wM];unfold P4.wd;simp only[Nat.reduceAdd];omega
 have b:65536*P4.wd zs 8+P4.wd zs 10=num (zs.drop 8) 4:=by rw[wM];unfold P4.wd;simp only[Nat.reduceAdd];omega
 have a:zs.getD 13 0=num (zs.drop 13) 1:=(En zs 13).symm;rw[e4,b,a,vC,vC,vC];rfl
def mG(w:World)(B:Nat)(z:List Int)(a:Option Addr)(n c:Nat)(W:World):Prop:=aG B z a n c W∧aG w.heap.size [] none 0 0 W∧w.heap.size≠B∧w.heap.size<=B∧Below w.heap.size w W
theorem mG.kept{w:World}{B:Nat}{z:List Int}{a:Option Addr}{n c:Nat}{W W':World}(h:mG w B z a n c W)(hb:Below W.heap.size W W'):mG w B z a n c W':=⟨h.1.kept hb,h.2.1.kept hb,h.2.2.1,h.2.2.2.1,bt h.2.2.2.2 hb⟩
theorem mG.set{w:World}{B:Nat}{z:List Int}{a:Option Addr}{n c:Nat}{W:World}(h:mG w B z a n c W)(j:Nat)(x:Int)(z':List Int)(hz:(aA z a n c).setIfInBounds j (.int .i64 x)=aA z' a n c):mG w B z' a n c (W.setCell ⟨B,j,none⟩ (.int .i64 x)):=by have b:=Ed W B j _ _ (.int .i64 x) h.1;have:=nR W B j _ _ (.int .i64 x) h.1;rw[hz] at this;exact⟨this,b.sg h.2.1 h.2.2.1,h.2.2.1,h.2.2.2.1,b.below h.2.2.2.2 h.2.2.2.1⟩
theorem Sd(k over:Int)(a:Option Addr)(len cap:Nat)(w:World)(hk:kn k=true)(ho:up 65535 over=true)(h:len<hn k∨hn k+300<len)(_hm:len<=maxLen): Calls prog 81 #[.int .i64 k,.slice a len cap,.int .i64 over] w fun e w'=>e=.returned (.tuple #[l5,.int .i64 5])∧Below w.heap.size w w':=by
 unfold maxLen at _hm;have b:=ki (au w (.cells aN 39));have g:=ki (bR w);unfold aN at b g;rcases (jR k).1 hk with rfl|rfl
 ·have i:len<20∨320<len:=h;clear h hk;rcases i with h|h;case' inr=>have i:¬len<20:=by omega
  all_goals
   go_enter func81,ntmps81;go_upto_region 1 with fail
   generalize w.alloc _=W at b g⊢;go_wp2_with (first|(go_at_call 22;refine(kR _ _).mono ?_;rintro e w' ⟨rfl,rfl⟩)|(refine aK rfl (.tmp 6) (.tmp 38) rfl rfl g.o [] none 0 0 rfl ?_;intro l f d;replace b:=ki (d.below b.o (Nat.le_refl _));replace f:=ki f;clear d))
   try simp only[Exit.inBlock,Exit.then]
   refine bodyPost_ret (bS rfl _ _ w.heap.size [] none 0 0 rfl f.o) rfl ?_;exact⟨rfl,b.o⟩
 ·have i:len<8∨308<len:=h;clear h hk;rcases i with h|h;case' inr=>have i:¬len<8:=by omega
  all_goals
   go_enter func81,ntmps81;go_upto_region 1 with fail
   generalize w.alloc _=W at b g⊢;go_wp2_with (first|(go_at_call 22;refine(kR _ _).mono ?_;rintro e w' ⟨rfl,rfl⟩)|(refine aK rfl (.tmp 6) (.tmp 38) rfl rfl g.o [] none 0 0 rfl ?_;intro l f d;replace b:=ki (d.below b.o (Nat.le_refl _));replace f:=ki f;clear d))
   try simp only[Exit.inBlock,Exit.then]
   refine bodyPost_ret (bS rfl _ _ w.heap.size [] none 0 0 rfl f.o) rfl ?_;exact⟨rfl,b.o⟩
end
section
attribute [local go_sem ↓] Go.wp_at_zero Go.wp_at_succ
attribute [local go_sem] tC tF
theorem yI(w W:World)(N:Nat)(z:List Int)(a:Option Addr)(n c:Nat)(hP:aG w.heap.size [] none 0 0 W)(hB:Below w.heap.size w W):mG w W.heap.size z a n c ((W.alloc (.cells (aA z a n c) 39)).drewN N):=by have hb:Below W.heap.size W ((W.alloc (.cells (aA z a n c) 39)).drewN N):=(au _ _).trans ⟨rfl,rfl,rfl,Nat.le_refl _,fun _ _=>rfl⟩;exact⟨gG W z a n c,hP.kept hb,Nat.ne_of_lt hP.lt,Nat.le_of_lt hP.lt,bt hB hb⟩
theorem Sg(over:Int)(g off len cap:Nat)(zs:List Int)(w:World)(hr:aj w (some ⟨g,off,none⟩) len cap zs)(ho:up 65535 over=true)(h1:8<=len)(h2:len<=308)(hcl:len<=cap)(hcm:cap<=maxLen)(hs:P4.wd zs 4≠(len:Int)): Calls prog 81 #[.int .i64 17,.slice (some ⟨g,off,none⟩) len cap,.int .i64 over] w fun e w'=>e=.returned (.tuple #[l5,.int .i64 5])∧Below w.heap.size w w':=by
 have A:=hr.1;have C:=hr.2.2.1;have d:=ki (au w (.cells aN 39));have i:=ki (bR w);unfold aN at d i;have f:=ki hr;have D:=ki (fun W x h h0 h1=>mF g off len cap zs W x h h0 h1);obtain⟨ao,hao⟩:∃ao,(if cap=8 then some (⟨g,off,none⟩:Addr) else some ⟨g,off+8,none⟩)=ao:=⟨_,rfl⟩;have z:=ki (fun W (h:aj W (some ⟨g,off,none⟩) len cap zs)=>h.behind 8 (by omega) hcl ao hao);have p:=hcm;unfold maxLen at p;have H:(8:Int)<=(len:Int):=by omega
 have E:¬(308:Int)<(len:Int):=by omega
 have F:¬(len:Int)<8:=by omega
 have G:(len:Int)<=(cap:Int):=by omega
 have I:(P4.wd zs 4 != (len:Int))=true:=by simpa using hs
 clear hs hr;go_enter func81,ntmps81;go_upto_region 1 with fail
 generalize w.alloc _=W at d i⊢;go_upto_region 9 with(go_at_call 22;refine(kR _ _).mono ?_;rintro e w' ⟨rfl,t⟩;rw[t];clear t w')
 have b:=ki (f.o.below d.o);have v:=ki (fun m x h0 h1=>gq g off len cap zs (W.drewN m) x (b.o.drewN m) h0 h1);have k:=ki (fun x h0 h1=>gq g off len cap zs W.drew x (b.o.drewN 1) h0 h1);have y:=ki (fun m x h0 h1=>gq g off len cap zs ((W.alloc (.cells #[.int .i64 0,.int .i64 0,.int .i64 0,.int .i64 0,.int .i64 0,.int .i64 0,.int .i64 0,.slice none 0 0] 39)).drewN m) x ((b.o.below (au _ _)).drewN m) h0 h1);have l:=ki (fun x h0 h1=>gq g off len cap zs (W.alloc (.cells #[.int .i64 0,.int .i64 0,.int .i64 0,.int .i64 0,.int .i64 0,.int .i64 0,.int .i64 0,.slice none 0 0] 39)).drew x ((b.o.below (au _ _)).drewN 1) h0 h1);go_cut [10] from 12 (fun v10 Wc=>v10=.pointer (some ⟨W.heap.size,0,none⟩)∧∃N,Wc=(W.alloc (.cells #[.int .i64 17,.int .i64 (P4.wd zs 0),.int .i64 (P4.wd zs 2),.int .i64 0,.int .i64 0,.int .i64 0,.int .i64 0,.slice ao (len-8) (cap-8)] 39)).drewN N)
 case first =>
  go_region_held3 (fun _=>True)
   (trivial)
   (first|(go_at_call 78;(with_reducible refine(v.o _ _ (by omega) (by omega)).mono ?_);rintro e q ⟨rfl,r,rfl⟩)|(go_at_call 78;(with_reducible refine(k.o _ (by omega) (by omega)).mono ?_);rintro e q ⟨rfl,r,rfl⟩)|(go_at_call 78;(with_reducible refine(y.o _ _ (by omega) (by omega)).mono ?_);rintro e q ⟨rfl,r,rfl⟩)|(go_at_call 78;(with_reducible refine(l.o _ (by omega) (by omega)).mono ?_);rintro e q ⟨rfl,r,rfl⟩))
  all_goals
   go_wp2_with fail
   go_meet
   exact⟨rfl,_,rfl⟩
 case rest =>
  obtain⟨rfl,N,rfl⟩:=hcut;have a:=ki (yI w W N [17,P4.wd zs 0,P4.wd zs 2,0,0,0,0] ao (len-8) (cap-8) i.o d.o);clear v k y l hao b d i;replace a:Hid (mG w W.heap.size [17,P4.wd zs 0,P4.wd zs 2,0,0,0,0] ao (len-8) (cap-8) ((W.alloc (.cells #[.int .i64 17,.int .i64 (P4.wd zs 0),.int .i64 (P4.wd zs 2),.int .i64 0,.int .i64 0,.int .i64 0,.int .i64 0,.slice ao (len-8) (cap-8)] 39)).drewN N)):=a;generalize (W.alloc (.cells #[.int .i64 17,.int .i64 (P4.wd zs 0),.int .i64 (P4.wd zs 2),.int .i64 0,.int .i64 0,.int .i64 0,.int .i64 0,.slice ao (len-8) (cap-8)] 39)).drewN N=W1 at a⊢;generalize W.heap.size=B at a⊢;go_wp2_with (first|(go_at_call 78;refine(D.o _ _ (f.o.below a.o.2.2.2.2) (by omega) (by omega)).mono ?_;rintro e J ⟨rfl,n⟩;replace a:=ki (a.o.kept n);clear n)|(refine aK rfl (.tmp 6) (.tmp 59) rfl rfl a.o.2.1 [] none 0 0 rfl ?_;intro K s o;replace a:=ki (o.below a.o.2.2.2.2 (Nat.le_refl _));replace s:=ki s;clear o))
  try simp only[Exit.inBlock,Exit.then]
  refine bodyPost_ret (bS rfl _ _ w.heap.size [] none 0 0 rfl s.o) rfl ?_;exact⟨rfl,a.o⟩
theorem Si(over:Int)(g off len cap:Nat)(zs:List Int)(w:World)(hr:aj w (some ⟨g,off,none⟩) len cap zs)(ho:up 65535 over=true)(h1:8<=len)(h2:len<=308)(hcl:len<=cap)(hcm:cap<=maxLen)(hs:P4.wd zs 4=(len:Int))(r:Bool)(hrr:P4.wd zs 6=bV (aR 17 zs) over (zs.drop 8)↔r=true): Calls prog 81 #[.int .i64 17,.slice (some ⟨g,off,none⟩) len cap,.int .i64 over] w fun e w'=>((r=false∧e=.returned (.tuple #[l5,.int .i64 6]))∨(r=true∧∃a' c',e=.returned (.tuple #[.agg (aA (aR 17 zs) a' (len-8) c'),.int .i64 0])∧aj w' a' (len-8) c' (zs.drop 8)))∧Below w.heap.size w w':=by
 have H:=hr.1;have v:=hr.2.2.1;have l:=ki (au w (.cells aN 39));have o:=ki (bR w);unfold aN at l o;have b:=ki hr;have I:=ki (fun W x h h0 h1=>mF g off len cap zs W x h h0 h1);obtain⟨ao,hao⟩:∃ao,(if cap=8 then some (⟨g,off,none⟩:Addr) else some ⟨g,off+8,none⟩)=ao:=⟨_,rfl⟩;have d:=ki (fun W (h:aj W (some ⟨g,off,none⟩) len cap zs)=>h.behind 8 (by omega) hcl ao hao);have y:=hcm;unfold maxLen at y;have P:(8:Int)<=(len:Int):=by omega
 have K:¬(308:Int)<(len:Int):=by omega
 have L:¬(len:Int)<8:=by omega
 have M:(len:Int)<=(cap:Int):=by omega
 have Q:(P4.wd zs 4 != (len:Int))=false:=by simpa using hs
 have n:=ki (Ab zs v (len-8) (by omega));have z:=ki (fun W a' c' (h:aj W a' (len-8) c' (zs.drop 8))=>yG (aR 17 zs) a' (len-8) c' over (zs.drop 8) W n.o ho h);rw[Sb] at z hrr n⊢;have fr:(P4.wd zs 6 != bV [17,P4.wd zs 0,P4.wd zs 2,0,0,0,0] over (zs.drop 8)) = !r:=by
  cases r
  ·have:¬(P4.wd zs 6=bV [17,P4.wd zs 0,P4.wd zs 2,0,0,0,0] over (zs.drop 8)):=fun h=>by have:=hrr.1 h;cases this
   simpa using this
  ·simpa using hrr.2 rfl
 generalize bV [17,P4.wd zs 0,P4.wd zs 2,0,0,0,0] over (zs.drop 8)=C at z fr;clear hs hr hrr n;go_enter func81,ntmps81;go_upto_region 1 with fail
 generalize w.alloc _=W at l o⊢;go_upto_region 9 with(go_at_call 22;refine(kR _ _).mono ?_;rintro e w' ⟨rfl,E⟩;rw[E];clear E w')
 have f:=ki (b.o.below l.o);have F:=ki (fun m x h0 h1=>gq g off len cap zs (W.drewN m) x (f.o.drewN m) h0 h1);have p:=ki (fun x h0 h1=>gq g off len cap zs W.drew x (f.o.drewN 1) h0 h1);have G:=ki (fun m x h0 h1=>gq g off len cap zs ((W.alloc (.cells #[.int .i64 0,.int .i64 0,.int .i64 0,.int .i64 0,.int .i64 0,.int .i64 0,.int .i64 0,.slice none 0 0] 39)).drewN m) x ((f.o.below (au _ _)).drewN m) h0 h1);have q:=ki (fun x h0 h1=>gq g off len cap zs (W.alloc (.cells #[.int .i64 0,.int .i64 0,.int .i64 0,.int .i64 0,.int .i64 0,.int .i64 0,.int .i64 0,.slice none 0 0] 39)).drew x ((f.o.below (au _ _)).drewN 1) h0 h1);go_cut [10] from 12 (fun v10 Wc=>v10=.pointer (some ⟨W.heap.size,0,none⟩)∧∃N,Wc=(W.alloc (.cells #[.int .i64 17,.int .i64 (P4.wd zs 0),.int .i64 (P4.wd zs 2),.int .i64 0,.int .i64 0,.int .i64 0,.int .i64 0,.slice ao (len-8) (cap-8)] 39)).drewN N)
 case first =>
  go_region_held3 (fun _=>True)
   (trivial)
   (first|(go_at_call 78;(with_reducible refine(F.o _ _ (by omega) (by omega)).mono ?_);rintro e A ⟨rfl,D,rfl⟩)|(go_at_call 78;(with_reducible refine(p.o _ (by omega) (by omega)).mono ?_);rintro e A ⟨rfl,D,rfl⟩)|(go_at_call 78;(with_reducible refine(G.o _ _ (by omega) (by omega)).mono ?_);rintro e A ⟨rfl,D,rfl⟩)|(go_at_call 78;(with_reducible refine(q.o _ (by omega) (by omega)).mono ?_);rintro e A ⟨rfl,D,rfl⟩))
  all_goals
   go_wp2_with fail
   go_meet
   exact⟨rfl,_,rfl⟩
 case rest =>
  obtain⟨rfl,N,rfl⟩:=hcut;have a:=ki (yI w W N [17,P4.wd zs 0,P4.wd zs 2,0,0,0,0] ao (len-8) (cap-8) o.o l.o);clear F p G q hao f l o;replace a:Hid (mG w W.heap.size [17,P4.wd zs 0,P4.wd zs 2,0,0,0,0] ao (len-8) (cap-8) ((W.alloc (.cells #[.int .i64 17,.int .i64 (P4.wd zs 0),.int .i64 (P4.wd zs 2),.int .i64 0,.int .i64 0,.int .i64 0,.int .i64 0,.slice ao (len-8) (cap-8)] 39)).drewN N)):=a;generalize (W.alloc (.cells #[.int .i64 17,.int .i64 (P4.wd zs 0),.int .i64 (P4.wd zs 2),.int .i64 0,.int .i64 0,.int .i64 0,.int .i64 0,.slice ao (len-8) (cap-8)] 39)).drewN N=W1 at a⊢;generalize W.heap.size=B at a⊢;go_upto_region 21 with(go_at_call 78;refine(I.o _ _ (b.o.below a.o.2.2.2.2) (by omega) (by omega)).mono ?_;rintro e R ⟨rfl,s⟩;replace a:=ki (a.o.kept s);clear s)
  go_upto_if 105 with(first|(refine bB rfl (.tmp 10) rfl rfl a.o.1 ?_)|(go_at_call 92;refine(z.o _ _ _ (d.o _ (b.o.below a.o.2.2.2.2))).mono ?_;rintro e S ⟨rfl,t⟩;replace a:=ki (a.o.kept t);clear t))
  cases r
  ·go_wp2_with (first|(refine aK rfl (.tmp 6) (.tmp 106) rfl rfl a.o.2.1 [] none 0 0 rfl ?_;intro J k i;replace a:=ki (i.below a.o.2.2.2.2 (Nat.le_refl _));replace k:=ki k;clear i))
   try simp only[Exit.inBlock,Exit.then]
   refine bodyPost_ret (bS rfl _ _ w.heap.size [] none 0 0 rfl k.o) rfl ?_;exact⟨rfl,a.o⟩
  ·have O:=ki (d.o _ (b.o.below a.o.2.2.2.2));go_wp2_with (first|(refine bB rfl (.tmp 10) rfl rfl a.o.1 ?_)|(refine aK rfl (.tmp 6) (.tmp 107) rfl rfl a.o.2.1 [17,P4.wd zs 0,P4.wd zs 2,0,0,0,0] ao (len-8) (cap-8) rfl ?_;intro J k i;replace a:=ki (i.below a.o.2.2.2.2 (Nat.le_refl _));replace k:=ki k;clear i))
   try simp only[Exit.inBlock,Exit.then]
   refine bodyPost_ret (bS rfl _ _ w.heap.size [17,P4.wd zs 0,P4.wd zs 2,0,0,0,0] ao (len-8) (cap-8) rfl k.o) rfl ?_;exact⟨⟨ao,cap-8,rfl,d.o _ (b.o.below a.o)⟩,a.o⟩
end
section
attribute [local go_sem ↓] Go.wp_at_zero Go.wp_at_succ
attribute [local go_sem] tC tF
theorem Sj(over:Int)(g off len cap:Nat)(zs:List Int)(w:World)(hr:aj w (some ⟨g,off,none⟩) len cap zs)(ho:up 65535 over=true)(h1:20<=len)(h2:len<=320)(hcl:len<=cap)(hcm:cap<=maxLen)(hs:¬(zs.getD 12 0=80∧zs.getD 13 0<=31∧P4.wd zs 18=0)): Calls prog 81 #[.int .i64 6,.slice (some ⟨g,off,none⟩) len cap,.int .i64 over] w fun e w'=>e=.returned (.tuple #[l5,.int .i64 5])∧Below w.heap.size w w':=by
 have X:=hr.1;have k:=hr.2.2.1;have q:=ki (au w (.cells aN 39));have t:=ki (bR w);unfold aN at q t;have f:=ki hr;have p:=ki (fun W x h h0 h1=>mF g off len cap zs W x h h0 h1);obtain⟨ao,hao⟩:∃ao,(if cap=20 then some (⟨g,off,none⟩:Addr) else some ⟨g,off+20,none⟩)=ao:=⟨_,rfl⟩;have V:=ki (fun W (h:aj W (some ⟨g,off,none⟩) len cap zs)=>h.behind 20 (by omega) hcl ao hao);have A:=hcm;unfold maxLen at A;have Sk:(20:Int)<=(len:Int):=by omega
 have ab:¬(320:Int)<(len:Int):=by omega
 have ac:¬(len:Int)<20:=by omega
 have ad:(len:Int)<=(cap:Int):=by omega
 have w4:=kF zs k 4;have w6:=kF zs k 6;have w8:=kF zs k 8;have ae:=kF zs k 10;have r:=ki (fun W (h:aj W (some ⟨g,off,none⟩) len cap zs)=>show W.cell? ⟨g,off+12,none⟩=some (.int .u8 (zs.getD 12 0))∧W.cell? ⟨g,off+13,none⟩=some (.int .u8 (zs.getD 13 0)) by obtain⟨_,_,_,_,Y⟩:=h;obtain⟨b,o,e,hc⟩:=Y (by omega);cases e;exact⟨hc 12 (by omega),hc 13 (by omega)⟩);have K:=k 13;have af:(12:Int)<(len:Int):=by omega
 have ag:(13:Int)<(len:Int):=by omega
 have Z:=ki hs;clear hs hr;go_enter func81,ntmps81;go_upto_region 1 with fail
 generalize w.alloc _=W at q t⊢;go_upto_region 9 with(go_at_call 22;refine(kR _ _).mono ?_;rintro e w' ⟨rfl,L⟩;rw[L];clear L w')
 have n:=ki (f.o.below q.o);have M:=ki (fun m x h0 h1=>gq g off len cap zs (W.drewN m) x (n.o.drewN m) h0 h1);have v:=ki (fun x h0 h1=>gq g off len cap zs W.drew x (n.o.drewN 1) h0 h1);have O:=ki (fun m x h0 h1=>gq g off len cap zs ((W.alloc (.cells #[.int .i64 0,.int .i64 0,.int .i64 0,.int .i64 0,.int .i64 0,.int .i64 0,.int .i64 0,.slice none 0 0] 39)).drewN m) x ((n.o.below (au _ _)).drewN m) h0 h1);have y:=ki (fun x h0 h1=>gq g off len cap zs (W.alloc (.cells #[.int .i64 0,.int .i64 0,.int .i64 0,.int .i64 0,.int .i64 0,.int .i64 0,.int .i64 0,.slice none 0 0] 39)).drew x ((n.o.below (au _ _)).drewN 1) h0 h1);go_cut [10] from 12 (fun v10 Wc=>v10=.pointer (some ⟨W.heap.size,0,none⟩)∧∃N,Wc=(W.alloc (.cells #[.int .i64 6,.int .i64 (P4.wd zs 0),.int .i64 (P4.wd zs 2),.int .i64 0,.int .i64 0,.int .i64 0,.int .i64 0,.slice ao (len-20) (cap-20)] 39)).drewN N)
 case first =>
  go_region_held3 (fun _=>True)
   (trivial)
   (first|(go_at_call 78;(with_reducible refine(M.o _ _ (by omega) (by omega)).mono ?_);rintro e C ⟨rfl,D,rfl⟩)|(go_at_call 78;(with_reducible refine(v.o _ (by omega) (by omega)).mono ?_);rintro e C ⟨rfl,D,rfl⟩)|(go_at_call 78;(with_reducible refine(O.o _ _ (by omega) (by omega)).mono ?_);rintro e C ⟨rfl,D,rfl⟩)|(go_at_call 78;(with_reducible refine(y.o _ (by omega) (by omega)).mono ?_);rintro e C ⟨rfl,D,rfl⟩))
  all_goals
   go_wp2_with fail
   go_meet
   exact⟨rfl,_,rfl⟩
 case rest =>
  obtain⟨rfl,N,rfl⟩:=hcut;have a:=ki (yI w W N [6,P4.wd zs 0,P4.wd zs 2,0,0,0,0] ao (len-20) (cap-20) t.o q.o);clear M v O y hao n q t;replace a:Hid (mG w W.heap.size [6,P4.wd zs 0,P4.wd zs 2,0,0,0,0] ao (len-20) (cap-20) ((W.alloc (.cells #[.int .i64 6,.int .i64 (P4.wd zs 0),.int .i64 (P4.wd zs 2),.int .i64 0,.int .i64 0,.int .i64 0,.int .i64 0,.slice ao (len-20) (cap-20)] 39)).drewN N)):=a;generalize (W.alloc (.cells #[.int .i64 6,.int .i64 (P4.wd zs 0),.int .i64 (P4.wd zs 2),.int .i64 0,.int .i64 0,.int .i64 0,.int .i64 0,.slice ao (len-20) (cap-20)] 39)).drewN N=W1 at a⊢;generalize W.heap.size=B at a⊢;go_upto_region 14 with(go_at_call 78;refine(p.o _ _ (f.o.below a.o.2.2.2.2) (by omega) (by omega)).mono ?_;rintro e s ⟨rfl,d⟩;replace a:=ki (a.o.kept d);clear d)
  have E:_=some (Value.int .i64 0):=a.o.1.cellAt 3;have F:=a.o.1.aZ 3;go_upto_region 15 with(go_at_call 78;refine(p.o _ _ (f.o.below a.o.2.2.2.2) (by omega) (by omega)).mono ?_;rintro e s ⟨rfl,d⟩;replace a:=ki (a.o.kept d);clear d;clear E F;have E:_=some (Value.int .i64 0):=a.o.1.cellAt 3;have F:=a.o.1.aZ 3)
  replace a:=ki (a.o.set 3 (65536*P4.wd zs 4+P4.wd zs 6) [6,P4.wd zs 0,P4.wd zs 2,65536*P4.wd zs 4+P4.wd zs 6,0,0,0] rfl);clear E F;generalize World.setCell _ _ _=W1 at a⊢;have G:_=some (Value.int .i64 0):=a.o.1.cellAt 4;have H:=a.o.1.aZ 4;go_upto_region 16 with(go_at_call 78;refine(p.o _ _ (f.o.below a.o.2.2.2.2) (by omega) (by omega)).mono ?_;rintro e s ⟨rfl,d⟩;replace a:=ki (a.o.kept d);clear d;clear G H;have G:_=some (Value.int .i64 0):=a.o.1.cellAt 4;have H:=a.o.1.aZ 4)
  replace a:=ki (a.o.set 4 (65536*P4.wd zs 8+P4.wd zs 10) [6,P4.wd zs 0,P4.wd zs 2,65536*P4.wd zs 4+P4.wd zs 6,65536*P4.wd zs 8+P4.wd zs 10,0,0] rfl);clear G H;generalize World.setCell _ _ _=W1 at a⊢;have P:_=some (Value.int .i64 0):=a.o.1.cellAt 5;have jG:=a.o.1.aZ 5;obtain⟨-,z⟩:=r.o _ (f.o.below a.o.2.2.2.2);generalize Ig:zs.getD 13 0=kG at z K;have Q:=ki Ig;clear Ig;go_upto_region 17 with fail
  replace a:=ki (a.o.set 5 kG [6,P4.wd zs 0,P4.wd zs 2,65536*P4.wd zs 4+P4.wd zs 6,65536*P4.wd zs 8+P4.wd zs 10,kG,0] rfl);clear P jG z;generalize World.setCell _ _ _=W1 at a⊢;have I:_=some (Value.int .i64 0):=a.o.1.cellAt 6;have J:=a.o.1.aZ 6;go_upto_region 18 with(go_at_call 78;refine(p.o _ _ (f.o.below a.o.2.2.2.2) (by omega) (by omega)).mono ?_;rintro e s ⟨rfl,d⟩;replace a:=ki (a.o.kept d);clear d;clear I J;have I:_=some (Value.int .i64 0):=a.o.1.cellAt 6;have J:=a.o.1.aZ 6)
  replace a:=ki (a.o.set 6 (P4.wd zs 14) [6,P4.wd zs 0,P4.wd zs 2,65536*P4.wd zs 4+P4.wd zs 6,65536*P4.wd zs 8+P4.wd zs 10,kG,P4.wd zs 14] rfl);clear I J;generalize World.setCell _ _ _=W1 at a⊢;go_upto_region 19 with(go_at_call 78;refine(p.o _ _ (f.o.below a.o.2.2.2.2) (by omega) (by omega)).mono ?_;rintro e s ⟨rfl,d⟩;replace a:=ki (a.o.kept d);clear d)
  obtain⟨R,-⟩:=r.o _ (f.o.below a.o.2.2.2.2);generalize vD:zs.getD 12 0=z12 at R;have S:=ki vD;clear vD;have P:_=some (Value.int .i64 kG):=a.o.1.cellAt 5;by_cases h12:z12=80
  ·have T:(z12 != 80)=false:=by rw[h12];rfl
   by_cases q8:31<kG
   ·clear h12;go_wp2_with (first|(refine aK rfl (.tmp 6) (.tmp 100) rfl rfl a.o.2.1 [] none 0 0 rfl ?_;intro U l i;replace a:=ki (i.below a.o.2.2.2.2 (Nat.le_refl _));replace l:=ki l;clear i))
    try simp only[Exit.inBlock,Exit.then]
    refine bodyPost_ret (bS rfl _ _ w.heap.size [] none 0 0 rfl l.o) rfl ?_;exact⟨rfl,a.o⟩
   ·have ai:(P4.wd zs 18 != 0)=true:=by
     have:¬P4.wd zs 18=0:=fun h=>Z.o ⟨by rw[S.o];exact h12,by rw[Q.o];omega,h⟩
     simpa using this
    clear h12;go_wp2_with (first|(go_at_call 78;refine(p.o _ _ (f.o.below a.o.2.2.2.2) (by omega) (by omega)).mono ?_;rintro e s ⟨rfl,d⟩;replace a:=ki (a.o.kept d);clear d)|(refine aK rfl (.tmp 6) (.tmp 100) rfl rfl a.o.2.1 [] none 0 0 rfl ?_;intro U l i;replace a:=ki (i.below a.o.2.2.2.2 (Nat.le_refl _));replace l:=ki l;clear i))
    try simp only[Exit.inBlock,Exit.then]
    refine bodyPost_ret (bS rfl _ _ w.heap.size [] none 0 0 rfl l.o) rfl ?_;exact⟨rfl,a.o⟩
  ·have T:(z12 != 80)=true:=by simpa using h12
   clear h12;go_wp2_with (first|(refine aK rfl (.tmp 6) (.tmp 100) rfl rfl a.o.2.1 [] none 0 0 rfl ?_;intro U l i;replace a:=ki (i.below a.o.2.2.2.2 (Nat.le_refl _));replace l:=ki l;clear i))
   try simp only[Exit.inBlock,Exit.then]
   refine bodyPost_ret (bS rfl _ _ w.heap.size [] none 0 0 rfl l.o) rfl ?_;exact⟨rfl,a.o⟩
theorem Sl(over:Int)(g off len cap:Nat)(zs:List Int)(w:World)(hr:aj w (some ⟨g,off,none⟩) len cap zs)(ho:up 65535 over=true)(h1:20<=len)(h2:len<=320)(hcl:len<=cap)(hcm:cap<=maxLen)(hs:zs.getD 12 0=80∧zs.getD 13 0<=31∧P4.wd zs 18=0)(r:Bool)(hrr:P4.wd zs 16=bV (aR 6 zs) over (zs.drop 20)↔r=true): Calls prog 81 #[.int .i64 6,.slice (some ⟨g,off,none⟩) len cap,.int .i64 over] w fun e w'=>((r=false∧e=.returned (.tuple #[l5,.int .i64 6]))∨(r=true∧∃a' c',e=.returned (.tuple #[.agg (aA (aR 6 zs) a' (len-20) c'),.int .i64 0])∧aj w' a' (len-20) c' (zs.drop 20)))∧Below w.heap.size w w':=by
 have aa:=hr.1;have i:=hr.2.2.1;have t:=ki (au w (.cells aN 39));have A:=ki (bR w);unfold aN at t A;have f:=ki hr;have s:=ki (fun W x h h0 h1=>mF g off len cap zs W x h h0 h1);obtain⟨ao,hao⟩:∃ao,(if cap=20 then some (⟨g,off,none⟩:Addr) else some ⟨g,off+20,none⟩)=ao:=⟨_,rfl⟩;have q:=ki (fun W (h:aj W (some ⟨g,off,none⟩) len cap zs)=>h.behind 20 (by omega) hcl ao hao);have I:=hcm;unfold maxLen at I;have Sk:(20:Int)<=(len:Int):=by omega
 have af:¬(320:Int)<(len:Int):=by omega
 have ag:¬(len:Int)<20:=by omega
 have ai:(len:Int)<=(cap:Int):=by omega
 have w4:=kF zs i 4;have w6:=kF zs i 6;have w8:=kF zs i 8;have dB:=kF zs i 10;have n:=ki (fun W (h:aj W (some ⟨g,off,none⟩) len cap zs)=>show W.cell? ⟨g,off+12,none⟩=some (.int .u8 (zs.getD 12 0))∧W.cell? ⟨g,off+13,none⟩=some (.int .u8 (zs.getD 13 0)) by obtain⟨_,_,_,_,h5⟩:=h;obtain⟨b,o,e,hc⟩:=h5 (by omega);cases e;exact⟨hc 12 (by omega),hc 13 (by omega)⟩);have T:=i 13;have bW:(12:Int)<(len:Int):=by omega
 have am:(13:Int)<(len:Int):=by omega
 have an:(P4.wd zs 18 != 0)=false:=by simpa using hs.2.2
 have J:=ki hs;have v:=ki ((wN zs i (len-20) (by omega)).2 hs.2.1);have D:=ki (fun W a' c' (h:aj W a' (len-20) c' (zs.drop 20))=>yG (aR 6 zs) a' (len-20) c' over (zs.drop 20) W v.o ho h);rw[Sc] at D hrr v⊢;have fr:(P4.wd zs 16 != bV [6,P4.wd zs 0,P4.wd zs 2,65536*P4.wd zs 4+P4.wd zs 6,65536*P4.wd zs 8+P4.wd zs 10,zs.getD 13 0,P4.wd zs 14] over (zs.drop 20)) = !r:=by
  cases r
  ·have:¬(P4.wd zs 16=bV [6,P4.wd zs 0,P4.wd zs 2,65536*P4.wd zs 4+P4.wd zs 6,65536*P4.wd zs 8+P4.wd zs 10,zs.getD 13 0,P4.wd zs 14] over (zs.drop 20)):=fun h=>by have:=hrr.1 h;cases this
   simpa using this
  ·simpa using hrr.2 rfl
 generalize bV [6,P4.wd zs 0,P4.wd zs 2,65536*P4.wd zs 4+P4.wd zs 6,65536*P4.wd zs 8+P4.wd zs 10,zs.getD 13 0,P4.wd zs 14] over (zs.drop 20)=C at D fr;clear hs hr hrr v;generalize zs.getD 13 0=kG at D n T J⊢;go_enter func81,ntmps81;go_upto_region 1 with fail
 generalize w.alloc _=W at t A⊢;go_upto_region 9 with(go_at_call 22;refine(kR _ _).mono ?_;rintro e w' ⟨rfl,U⟩;rw[U];clear U w')
 have k:=ki (f.o.below t.o);have V:=ki (fun m x h0 h1=>gq g off len cap zs (W.drewN m) x (k.o.drewN m) h0 h1);have E:=ki (fun x h0 h1=>gq g off len cap zs W.drew x (k.o.drewN 1) h0 h1);have X:=ki (fun m x h0 h1=>gq g off len cap zs ((W.alloc (.cells #[.int .i64 0,.int .i64 0,.int .i64 0,.int .i64 0,.int .i64 0,.int .i64 0,.int .i64 0,.slice none 0 0] 39)).drewN m) x ((k.o.below (au _ _)).drewN m) h0 h1);have F:=ki (fun x h0 h1=>gq g off len cap zs (W.alloc (.cells #[.int .i64 0,.int .i64 0,.int .i64 0,.int .i64 0,.int .i64 0,.int .i64 0,.int .i64 0,.slice none 0 0] 39)).drew x ((k.o.below (au _ _)).drewN 1) h0 h1);go_cut [10] from 12 (fun v10 Wc=>v10=.pointer (some ⟨W.heap.size,0,none⟩)∧∃N,Wc=(W.alloc (.cells #[.int .i64 6,.int .i64 (P4.wd zs 0),.int .i64 (P4.wd zs 2),.int .i64 0,.int .i64 0,.int .i64 0,.int .i64 0,.slice ao (len-20) (cap-20)] 39)).drewN N)
 case first =>
  go_region_held3 (fun _=>True)
   (trivial)
   (first|(go_at_call 78;(with_reducible refine(V.o _ _ (by omega) (by omega)).mono ?_);rintro e K ⟨rfl,L,rfl⟩)|(go_at_call 78;(with_reducible refine(E.o _ (by omega) (by omega)).mono ?_);rintro e K ⟨rfl,L,rfl⟩)|(go_at_call 78;(with_reducible refine(X.o _ _ (by omega) (by omega)).mono ?_);rintro e K ⟨rfl,L,rfl⟩)|(go_at_call 78;(with_reducible refine(F.o _ (by omega) (by omega)).mono ?_);rintro e K ⟨rfl,L,rfl⟩))
  all_goals
   go_wp2_with fail
   go_meet
   exact⟨rfl,_,rfl⟩
 case rest =>
  obtain⟨rfl,N,rfl⟩:=hcut;have a:=ki (yI w W N [6,P4.wd zs 0,P4.wd zs 2,0,0,0,0] ao (len-20) (cap-20) A.o t.o);clear V E X F hao k t A;replace a:Hid (mG w W.heap.size [6,P4.wd zs 0,P4.wd zs 2,0,0,0,0] ao (len-20) (cap-20) ((W.alloc (.cells #[.int .i64 6,.int .i64 (P4.wd zs 0),.int .i64 (P4.wd zs 2),.int .i64 0,.int .i64 0,.int .i64 0,.int .i64 0,.slice ao (len-20) (cap-20)] 39)).drewN N)):=a;generalize (W.alloc (.cells #[.int .i64 6,.int .i64 (P4.wd zs 0),.int .i64 (P4.wd zs 2),.int .i64 0,.int .i64 0,.int .i64 0,.int .i64 0,.slice ao (len-20) (cap-20)] 39)).drewN N=W1 at a⊢;generalize W.heap.size=B at a⊢;go_upto_region 14 with(go_at_call 78;refine(s.o _ _ (f.o.below a.o.2.2.2.2) (by omega) (by omega)).mono ?_;rintro e y ⟨rfl,d⟩;replace a:=ki (a.o.kept d);clear d)
  have M:_=some (Value.int .i64 0):=a.o.1.cellAt 3;have O:=a.o.1.aZ 3;go_upto_region 15 with(go_at_call 78;refine(s.o _ _ (f.o.below a.o.2.2.2.2) (by omega) (by omega)).mono ?_;rintro e y ⟨rfl,d⟩;replace a:=ki (a.o.kept d);clear d;clear M O;have M:_=some (Value.int .i64 0):=a.o.1.cellAt 3;have O:=a.o.1.aZ 3)
  replace a:=ki (a.o.set 3 (65536*P4.wd zs 4+P4.wd zs 6) [6,P4.wd zs 0,P4.wd zs 2,65536*P4.wd zs 4+P4.wd zs 6,0,0,0] rfl);clear M O;generalize World.setCell _ _ _=W1 at a⊢;have P:_=some (Value.int .i64 0):=a.o.1.cellAt 4;have Q:=a.o.1.aZ 4;go_upto_region 16 with(go_at_call 78;refine(s.o _ _ (f.o.below a.o.2.2.2.2) (by omega) (by omega)).mono ?_;rintro e y ⟨rfl,d⟩;replace a:=ki (a.o.kept d);clear d;clear P Q;have P:_=some (Value.int .i64 0):=a.o.1.cellAt 4;have Q:=a.o.1.aZ 4)
  replace a:=ki (a.o.set 4 (65536*P4.wd zs 8+P4.wd zs 10) [6,P4.wd zs 0,P4.wd zs 2,65536*P4.wd zs 4+P4.wd zs 6,65536*P4.wd zs 8+P4.wd zs 10,0,0] rfl);clear P Q;generalize World.setCell _ _ _=W1 at a⊢;have z:_=some (Value.int .i64 0):=a.o.1.cellAt 5;have jG:=a.o.1.aZ 5;obtain⟨-,Y⟩:=n.o _ (f.o.below a.o.2.2.2.2);go_upto_region 17 with fail
  replace a:=ki (a.o.set 5 kG [6,P4.wd zs 0,P4.wd zs 2,65536*P4.wd zs 4+P4.wd zs 6,65536*P4.wd zs 8+P4.wd zs 10,kG,0] rfl);clear z jG Y;generalize World.setCell _ _ _=W1 at a⊢;have R:_=some (Value.int .i64 0):=a.o.1.cellAt 6;have S:=a.o.1.aZ 6;go_upto_region 18 with(go_at_call 78;refine(s.o _ _ (f.o.below a.o.2.2.2.2) (by omega) (by omega)).mono ?_;rintro e y ⟨rfl,d⟩;replace a:=ki (a.o.kept d);clear d;clear R S;have R:_=some (Value.int .i64 0):=a.o.1.cellAt 6;have S:=a.o.1.aZ 6)
  replace a:=ki (a.o.set 6 (P4.wd zs 14) [6,P4.wd zs 0,P4.wd zs 2,65536*P4.wd zs 4+P4.wd zs 6,65536*P4.wd zs 8+P4.wd zs 10,kG,P4.wd zs 14] rfl);clear R S;generalize World.setCell _ _ _=W1 at a⊢;go_upto_region 19 with(go_at_call 78;refine(s.o _ _ (f.o.below a.o.2.2.2.2) (by omega) (by omega)).mono ?_;rintro e y ⟨rfl,d⟩;replace a:=ki (a.o.kept d);clear d)
  obtain⟨G,-⟩:=n.o _ (f.o.below a.o.2.2.2.2);generalize vD:zs.getD 12 0=z12 at G;have Z:=ki vD;clear vD;have z:_=some (Value.int .i64 kG):=a.o.1.cellAt 5;have ap:(z12 != 80)=false:=by rw[<-Z.o,J.o.1];rfl
  have aq:¬31<kG:=by have:=J.o.2.1;omega
  go_upto_region 21 with(go_at_call 78;refine(s.o _ _ (f.o.below a.o.2.2.2.2) (by omega) (by omega)).mono ?_;rintro e y ⟨rfl,d⟩;replace a:=ki (a.o.kept d);clear d;clear z;have z:_=some (Value.int .i64 kG):=a.o.1.cellAt 5)
  clear z G;go_upto_if 105 with(first|(refine bB rfl (.tmp 10) rfl rfl a.o.1 ?_)|(go_at_call 92;refine(D.o _ _ _ (q.o _ (f.o.below a.o.2.2.2.2))).mono ?_;rintro e w6 ⟨rfl,H⟩;replace a:=ki (a.o.kept H);clear H))
  cases r
  ·go_wp2_with (first|(refine aK rfl (.tmp 6) (.tmp 106) rfl rfl a.o.2.1 [] none 0 0 rfl ?_;intro w5 p l;replace a:=ki (l.below a.o.2.2.2.2 (Nat.le_refl _));replace p:=ki p;clear l))
   try simp only[Exit.inBlock,Exit.then]
   refine bodyPost_ret (bS rfl _ _ w.heap.size [] none 0 0 rfl p.o) rfl ?_;exact⟨rfl,a.o⟩
  ·go_wp2_with (first
    | (refine bB rfl (.tmp 10) rfl rfl a.o.1 ?_)
    | (refine aK rfl (.tmp 6) (.tmp 107) rfl rfl a.o.2.1 [6,P4.wd zs 0,P4.wd zs 2,65536*P4.wd zs 4+P4.wd zs 6,65536*P4.wd zs 8+P4.wd zs 10,kG,P4.wd zs 14] ao (len-20) (cap-20) rfl ?_;intro w5 p l;replace a:=ki (l.below a.o.2.2.2.2 (Nat.le_refl _));replace p:=ki p;clear l))
   try simp only[Exit.inBlock,Exit.then]
   refine bodyPost_ret (bS rfl _ _ w.heap.size [6,P4.wd zs 0,P4.wd zs 2,65536*P4.wd zs 4+P4.wd zs 6,65536*P4.wd zs 8+P4.wd zs 10,kG,P4.wd zs 14] ao (len-20) (cap-20) rfl p.o) rfl ?_;exact⟨⟨ao,cap-20,rfl,q.o _ (f.o.below a.o)⟩,a.o⟩
end
section
theorem yJ(h zs:List Int)(H:Nat)(hl:h.length=H)(j:Nat):(h++zs.drop H).getD j 0=if j<H then h.getD j 0 else zs.getD j 0:=by
 split
 ·rename_i hj;exact LW _ _ _ (by omega)
 ·rename_i hj;rw[List.getD_eq_getElem?_getD,List.getElem?_append_right (by omega),<-List.getD_eq_getElem?_getD,P4.getD_drop,hl,show H+(j-H)=j by omega]
theorem Ih(h zs:List Int)(H:Nat)(hl:h.length=H)(hz:H<=zs.length):(h++zs.drop H).length=zs.length:=by rw[List.length_append,List.length_drop];omega
theorem Ii(h zs:List Int)(H c:Nat)(hl:h.length=H)(hz:H<=zs.length)(hc:c<=H):(h++zs.drop H).take c=zs.take c↔∀j,j<c->h.getD j 0=zs.getD j 0:=by
 constructor
 ·intro e j a;have g:=congrArg (fun l=>l.getD j 0) e;simp only[P4.getD_take a,yJ h zs H hl] at g;rw[if_pos (by omega)] at g;exact g
 ·intro e;apply P4.qA (by rw[List.length_take,List.length_take,Ih h zs H hl hz]);intro j a;rw[List.length_take] at a;rw[P4.getD_take (by omega),P4.getD_take (by omega),yJ h zs H hl,if_pos (by omega)];exact e j (by omega)
theorem BI(h zs:List Int)(H c:Nat)(hl:h.length=H)(hz:H<=zs.length):(h++zs.drop H).drop c=zs.drop c↔∀j,c<=j->j<H->h.getD j 0=zs.getD j 0:=by
 constructor
 ·intro e j b a;have g:=congrArg (fun l=>l.getD (j-c) 0) e;simp only[P4.getD_drop,yJ h zs H hl] at g;rw[show c+(j-c)=j by omega,if_pos a] at g;exact g
 ·intro e;apply P4.qA (by rw[List.length_drop,List.length_drop,Ih h zs H hl hz]);intro j _;rw[P4.getD_drop,P4.getD_drop,yJ h zs H hl];split
  ·exact e _ (by omega) (by assumption)
  ·rfl
theorem Ij(h zs:List Int)(H:Nat)(hl:h.length=H)(hz:H<=zs.length):h++zs.drop H=zs↔∀j,j<H->h.getD j 0=zs.getD j 0:=by have:=BI h zs H 0 hl hz;simp only[List.drop_zero,Nat.zero_le,true_implies] at this;exact this
theorem Ik(zs:List Int)(over:Int)(ho:SM.Oct zs)(h1:8<=zs.length)(h2:zs.length<=308):eb (aR 17 zs) over (zs.drop 8)=ng (zs.getD 0 0*256+zs.getD 1 0) (zs.getD 2 0*256+zs.getD 3 0) zs.length (bV (aR 17 zs) over (zs.drop 8))++zs.drop 8:=by obtain⟨a,b,d,-⟩:=Er zs;have hd:(zs.drop 8).length=zs.length-8:=List.length_drop;rw[Em _ _ _ (Ab zs ho _ (by omega)) (by rw[a];decide),b,d,hd,show(8:Int)+((zs.length-8:Nat):Int)=(zs.length:Int) by omega]
theorem Sm(zs:List Int)(over:Int)(ho:SM.Oct zs)(h1:8<=zs.length)(h2:zs.length<=308):((eb (aR 17 zs) over (zs.drop 8)).take 6=zs.take 6∧(eb (aR 17 zs) over (zs.drop 8)).drop 8=zs.drop 8)↔P4.wd zs 4=(zs.length:Int):=by
 rw[Ik zs over ho h1 h2];generalize bV (aR 17 zs) over (zs.drop 8)=C;rw[Ii _ zs 8 6 rfl h1 (by omega),BI _ zs 8 8 rfl h1];have b:=ho 0;have d:=ho 1;have f:=ho 2;have g:=ho 3;have o4:=ho 4;have h:=ho 5;constructor
 ·rintro ⟨e,-⟩;have e4:=e 4 (by omega);have a:=e 5 (by omega);simp only[ng,List.getD_cons_zero,List.getD_cons_succ] at e4 a;unfold P4.wd;simp only[Nat.reduceAdd];omega
 ·intro e;unfold P4.wd at e;simp only[Nat.reduceAdd] at e;refine⟨fun j hj=>?_,fun j _ _=>by omega⟩;rcases (by omega:j=0∨j=1∨j=2∨j=3∨j=4∨j=5) with rfl|rfl|rfl|rfl|rfl|rfl<;>simp only[ng,List.getD_cons_zero,List.getD_cons_succ]<;>omega
theorem Sn(zs:List Int)(over:Int)(ho:SM.Oct zs)(h1:8<=zs.length)(h2:zs.length<=308)(hov:up 65535 over=true)(he:P4.wd zs 4=(zs.length:Int)):eb (aR 17 zs) over (zs.drop 8)=zs↔P4.wd zs 6=bV (aR 17 zs) over (zs.drop 8):=by
 rw[Ik zs over ho h1 h2];have a:=uy (aR 17 zs) over (zs.drop 8) (P4.wz _ ho _) hov;generalize bV (aR 17 zs) over (zs.drop 8)=C at a;rw[Ij _ zs 8 rfl h1];have f:=ho 0;have g:=ho 1;have h:=ho 2;have i:=ho 3;have o4:=ho 4;have k:=ho 5;have o6:=ho 6;have l:=ho 7;unfold P4.wd at he⊢;simp only[Nat.reduceAdd] at he⊢;constructor
 ·intro e;have b:=e 6 (by omega);have d:=e 7 (by omega);simp only[ng,List.getD_cons_zero,List.getD_cons_succ] at b d;omega
 ·intro e j n;rcases (by omega:j=0∨j=1∨j=2∨j=3∨j=4∨j=5∨j=6∨j=7) with rfl|rfl|rfl|rfl|rfl|rfl|rfl|rfl<;>simp only[ng,List.getD_cons_zero,List.getD_cons_succ]<;>omega
theorem Il(zs:List Int)(over:Int)(ho:SM.Oct zs)(h1:20<=zs.length)(h2:zs.length<=320)(q8:zs.getD 13 0<=31):eb (aR 6 zs) over (zs.drop 20)=lg (zs.getD 0 0*256+zs.getD 1 0) (zs.getD 2 0*256+zs.getD 3 0) (((zs.getD 4 0*256+zs.getD 5 0)*256+zs.getD 6 0)*256+zs.getD 7 0) (((zs.getD 8 0*256+zs.getD 9 0)*256+zs.getD 10 0)*256+zs.getD 11 0) (zs.getD 13 0) (zs.getD 14 0*256+zs.getD 15 0) (bV (aR 6 zs) over (zs.drop 20))++zs.drop 20:=by obtain⟨a,b,d,e,e4,f,g⟩:=Ep zs;have hd:(zs.drop 20).length=zs.length-20:=List.length_drop;rw[El _ _ _ ((wN zs ho _ (by omega)).2 q8) a,b,d,e,e4,f,g]
theorem Im(zs:List Int)(over:Int)(ho:SM.Oct zs)(h1:20<=zs.length)(h2:zs.length<=320)(q8:zs.getD 13 0<=31):((eb (aR 6 zs) over (zs.drop 20)).take 16=zs.take 16∧(eb (aR 6 zs) over (zs.drop 20)).drop 18=zs.drop 18)↔zs.getD 12 0=80∧zs.getD 13 0<=31∧P4.wd zs 18=0:=by
 rw[Il zs over ho h1 h2 q8];generalize bV (aR 6 zs) over (zs.drop 20)=C;rw[Ii _ zs 20 16 rfl h1 (by omega),BI _ zs 20 18 rfl h1];have q:=ho 0;have r:=ho 1;have s:=ho 2;have t:=ho 3;have o4:=ho 4;have v:=ho 5;have o6:=ho 6;have w:=ho 7;have x:=ho 8;have y:=ho 9;have g:=ho 10;have h:=ho 11;have i:=ho 12;have k:=ho 13;have l:=ho 14;have n:=ho 15;have o:=ho 18;have p:=ho 19;unfold P4.wd;simp only[Nat.reduceAdd];constructor
 ·rintro ⟨e,a⟩;have b:=e 12 (by omega);have d:=a 18 (by omega) (by omega);have f:=a 19 (by omega) (by omega);simp only[lg,List.getD_cons_zero,List.getD_cons_succ] at b d f;omega
 ·intro e;refine⟨fun j hj=>?_,fun j hj hj2=>?_⟩
  ·rcases (by omega:j=0∨j=1∨j=2∨j=3∨j=4∨j=5∨j=6∨j=7∨j=8∨j=9∨j=10∨j=11∨j=12∨j=13∨j=14∨j=15) with rfl|rfl|rfl|rfl|rfl|rfl|rfl|rfl|rfl|rfl|rfl|rfl|rfl|rfl|rfl|rfl<;>simp only[lg,List.getD_cons_zero,List.getD_cons_succ]<;>omega
  ·rcases (by omega:j=18∨j=19) with rfl|rfl<;>simp only[lg,List.getD_cons_zero,List.getD_cons_succ]<;>omega
theorem Sq(zs:List Int)(over:Int)(ho:SM.Oct zs)(h1:20<=zs.length)(h2:zs.length<=320)(hov:up 65535 over=true)(he:zs.getD 12 0=80∧zs.getD 13 0<=31∧P4.wd zs 18=0):eb (aR 6 zs) over (zs.drop 20)=zs↔P4.wd zs 16=bV (aR 6 zs) over (zs.drop 20):=by
 rw[Il zs over ho h1 h2 he.2.1];have d:=uy (aR 6 zs) over (zs.drop 20) (P4.wz _ ho _) hov;generalize bV (aR 6 zs) over (zs.drop 20)=C at d;rw[Ij _ zs 20 rfl h1];have r:=ho 0;have s:=ho 1;have t:=ho 2;have v:=ho 3;have o4:=ho 4;have w:=ho 5;have o6:=ho 6;have x:=ho 7;have y:=ho 8;have z:=ho 9;have f:=ho 10;have g:=ho 11;have h:=ho 12;have i:=ho 13;have k:=ho 14;have l:=ho 15;have n:=ho 16;have o:=ho 17;have p:=ho 18;have q:=ho 19;unfold P4.wd at he⊢;simp only[Nat.reduceAdd] at he⊢;constructor
 ·intro e;have a:=e 16 (by omega);have b:=e 17 (by omega);simp only[lg,List.getD_cons_zero,List.getD_cons_succ] at a b;omega
 ·intro e j A;rcases (by omega:j=0∨j=1∨j=2∨j=3∨j=4∨j=5∨j=6∨j=7∨j=8∨j=9∨j=10∨j=11∨j=12∨j=13∨j=14∨j=15∨j=16∨j=17∨j=18∨j=19) with rfl|rfl|rfl|rfl|rfl|rfl|rfl|rfl|rfl|rfl|rfl|rfl|rfl|rfl|rfl|rfl|rfl|rfl|rfl|rfl<;>simp only[lg,List.getD_cons_zero,List.getD_cons_succ]<;>omega
end
end Go.Proofs.YtgcojnlngchllaaGreatDoor
