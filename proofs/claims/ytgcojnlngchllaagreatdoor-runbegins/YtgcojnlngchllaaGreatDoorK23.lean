/- Use. Make, way by way. Make as it is asked for. -/
import Derived.Test.YtgcojnlngchllaaGreatDoorK22
namespace Go.Proofs.YtgcojnlngchllaaGreatDoor
open Go.RowKit
set_option linter.unusedVariables false
set_option maxRecDepth 100000
set_option maxHeartbeats 40000000
section
variable {k:Nat} {w:World}
theorem BdIn.set22 {D:Nat} {b:List Int} (p:BdIn D b w) (now:Int):BdIn D (usd b now) (w.setCell ⟨D,22,none⟩ (.int .i64 now))∧Only D w (w.setCell ⟨D,22,none⟩ (.int .i64 now)):=by
 rw[setCell_eq_setRow w D 22 _ 95 (0,0) (.int .i64 now) p]
 exact ⟨setRow_heap w D _ _ 95 (0,0) p,only_setRow _ _ _⟩
def fup (m k v:Value):Sem Unit:=Instr.mapUpdate 149 m k v
theorem fup_shut (m k v:Value):Instr.mapUpdate 149 m k v=fup m k v:=rfl
def pup (m k v:Value):Sem Unit:=Instr.mapUpdate 150 m k v
theorem pup_shut (m k v:Value):Instr.mapUpdate 150 m k v=pup m k v:=rfl
theorem at_getD {α:Type} {l:List α} {d:α} (h:k < l.length):l[k]? = some (l.getD k d):=by rw[List.getD_eq_getElem?_getD,List.getElem?_eq_getElem h];rfl
theorem MP.used {F:Nat} {bs:List (List Int)} (h:MP isF F (bs.map fE) w) (hk:k < bs.length) (now:Int) :
  ∃ w',(fup (.map (some F)) (.agg (flC (bs.getD k []))) (.agg (bdC (usd (bs.getD k []) now)))).run Tryz.prog w=.ok () w'∧MP isF F ((bs.set k (usd (bs.getD k []) now)).map fE) w'∧Only F w w':=by
 have hp:=(erase_perm bs k _ (at_getD (d:=[]) hk)).map fE
 obtain ⟨w',a,b,e⟩:=h.store_old kof Tryz.mapF (.agg (bdC (usd (bs.getD k []) now))) ⟨bs.getD k [],rfl⟩ hp
 exact ⟨w',a,b.perm (((ChangeMaps.set_perm bs k hk (usd (bs.getD k []) now)).map fE).symm),e⟩
theorem MP.pused {N:Nat} {bs:List (List Int)} (h:MP isI N (bs.map pE) w) (hk:k < bs.length) (now:Int):MP isI N ((bs.set k (usd (bs.getD k []) now)).map pE) w :=
 h.perm (((erase_perm bs k _ (at_getD (d:=[]) hk)).map pE).trans ((ChangeMaps.set_perm bs k hk (usd (bs.getD k []) now)).map pE).symm)
attribute [local go_sem ↓] fload_shut bload_shut flk_shut plk_shut bstore_shut fup_shut
theorem buse_none (T P F N:Nat) (p now:Int) (w:World) (ht:TBl T P F N w)
  (hl:(plk (.map (some N)) (.int .i64 p) true).run Tryz.prog w=.ok (.tuple #[.agg (flC []),.bool false]) w) :
  Calls Tryz.prog 103 #[.pointer (some ⟨T,0,none⟩),.int .i64 p,.int .i64 now] w fun r w'=>r=.returned (err 4)∧Below w.heap.size w w':=by
 have b:=ki (fl_zero w)
 have c2:=ht.c2
 unfold zero19 at b
 clear ht
 go_enter Tryz.func103,Tryz.ntmps103
 go_wp2_with (refine at_storef rfl (.tmp 7) (.tmp 17) rfl rfl b.o [] rfl ?_;intro f d a;have e:=ki (new_below _ a);clear d a)
 go_ret
 exact ⟨rfl,e.o⟩
theorem buse_range (T P F N:Nat) (p now:Int) (f:List Int) (w:World) (ht:TBl T P F N w) (hn:tc now=false)
  (hl:(plk (.map (some N)) (.int .i64 p) true).run Tryz.prog w=.ok (.tuple #[.agg (flC f),.bool true]) w) :
  Calls Tryz.prog 103 #[.pointer (some ⟨T,0,none⟩),.int .i64 p,.int .i64 now] w fun r w'=>r=.returned (err 1)∧Below w.heap.size w w':=by
 have g:=ki (fl_zero w)
 have h:=ki (fun W=>uptoT now W)
 rw[hn] at h
 have c2:=ht.c2
 unfold zero19 at g
 clear ht hn
 go_enter Tryz.func103,Tryz.ntmps103
 go_wp2_with (first
  | (refine at_storef rfl (.tmp 7) (.tmp 17) rfl rfl g.o f rfl ?_;intro k i a;have d:=ki (new_below _ a);clear i a)
  | (go_at_call 153;(with_reducible refine (h.o _).mono ?_);rintro e l ⟨rfl,b⟩;replace d:=ki (bt d.o b);clear b))
 go_ret
 exact ⟨rfl,d.o⟩
theorem buse_late (T P F N:Nat) (p now:Int) (b:List Int) (w:World) (ht:TBl T P F N w) (hTF:T≠F) (hFl:F < w.heap.size) (hn:tc now=true)
  (hl:(plk (.map (some N)) (.int .i64 p) true).run Tryz.prog w=.ok (.tuple #[.agg (flC b),.bool true]) w)
  (hf:∀ W,Below w.heap.size w W→(flk (.map (some F)) (.agg (flC b)) false).run Tryz.prog W=.ok (.agg (bdC b)) W)
  (hu:∀ W,Below w.heap.size w W→∃ W',(fup (.map (some F)) (.agg (flC b)) (.agg (bdC (usd b now)))).run Tryz.prog W=.ok () W'∧Only F W W') (Q:World→Prop)
  (hQ:∀ W W',Below w.heap.size w W→(fup (.map (some F)) (.agg (flC b)) (.agg (bdC (usd b now)))).run Tryz.prog W=.ok () W'→Q W') :
  Calls Tryz.prog 103 #[.pointer (some ⟨T,0,none⟩),.int .i64 p,.int .i64 now] w fun r w'=>(now < el b 22∧r=.returned (err 9)∧Below w.heap.size w w')∨(¬ now < el b 22∧r=.returned .nilIface∧Q w'):=by
 have J:=ki (fl_zero w)
 have K:=ki (fun W=>uptoT now W)
 rw[hn] at K
 have c2:=ht.c2
 have z:=ki (fun W (hb:Below w.heap.size w W)=>show TBl T P F N W from (hb.block T ht.lt).trans ht)
 have O:=ki hf
 have E:=ki hu
 have R:=ki hQ
 have A:=ki (And.intro hTF hFl)
 unfold zero19 at J
 clear ht hn hf hu hQ hTF hFl
 go_enter Tryz.func103,Tryz.ntmps103
 go_upto_region 6 with (first
  | (refine at_storef rfl (.tmp 7) (.tmp 17) rfl rfl J.o b rfl ?_;intro B q h;have g:=ki (new_below _ h);have d:=ki q;clear q h)
  | (go_at_call 153;(with_reducible refine (K.o _).mono ?_);rintro e Z ⟨rfl,s⟩;replace g:=ki (bt g.o s);replace d:=ki (d.o.kept s);clear s))
 generalize B.heap.size=e5
 clear c2 hl J K B
 rename World=>w1
 have t:=ki (show Below w.heap.size w w1.drew from g.o.drew)
 have a:=ki (show Below w.heap.size w (w1.alloc (.cells zero23 95)).drew from (bt g.o (al_below w1 _)).drew)
 have f:=ki (show FlIn w.heap.size b (w1.alloc (.cells zero23 95)).drew from d.o.kept (al_below w1 _).drew)
 obtain ⟨B,l,q,h⟩:=(bd_zero' w1).held b
 have v:=ki (h.below a.o g.o.size)
 have G:=ki q
 have i:=ki (show ∀ W',Below w.heap.size w W'→FlIn w.heap.size b W'→W'.cell? ⟨T,1,none⟩=some (.map (some F))∧(fload (.pointer (some ⟨w.heap.size,0,none⟩))).run Tryz.prog W'=.ok (.agg (flC b)) W'∧(flk (.map (some F)) (.agg (flC b)) false).run Tryz.prog W'=.ok (.agg (bdC b)) W' from fun W' h1 h2=>⟨(z.o W' h1).c1,h2.fl,O.o W' h1⟩)
 have x:=ki (show FlIn w.heap.size b B from (h.2.2.2.2 _ (by have:=d.o.lt;omega)).trans f.o)
 have k:=ki (show w.heap.size < w1.heap.size from d.o.lt)
 unfold zero23 at a f l
 clear h q O
 obtain ⟨c1,S,X⟩:=i.o _ t.o d.o
 go_cut [9] from 9 to 33 (fun u wx=>∃ D,u=.pointer (some ⟨D,0,none⟩)∧Hid (w.heap.size < D)∧Hid (Below w.heap.size w wx)∧Hid (FlIn w.heap.size b wx)∧Hid (BdIn D b wx))
 case first =>
  go_region_held3 (fun W'=>W'.cell? ⟨T,1,none⟩=some (.map (some F))∧(fload (.pointer (some ⟨w.heap.size,0,none⟩))).run Tryz.prog W'=.ok (.agg (flC b)) W'∧(flk (.map (some F)) (.agg (flC b)) false).run Tryz.prog W'=.ok (.agg (bdC b)) W')
   (first
    | exact i.o _ t.o d.o
    | exact i.o _ a.o f.o
    | exact i.o _ v.o x.o
    | go_keep)
   (fail)
  all_goals
   go_wp2_with fail
   go_meet
   exact ⟨_,rfl,k,v,x,G⟩
 case rest =>
  clear t a f l v G x i c1 S X k g d
  obtain ⟨D,rfl,k,g,d,C⟩:=hcut
  have c22:=C.o.cell 22 (by omega)
  have fz:wc.frozen? ⟨D,22,none⟩=false:=by have:=C.o;unfold BdIn at this;simp[World.frozen?,this]
  obtain ⟨y,hy⟩:∃ y,el b 22=y:=⟨_,rfl⟩
  rw[hy] at c22
  have U:=ki hy
  clear hy
  by_cases hlt:now < y
  ·go_wp2
   go_ret
   exact .inl ⟨by rw[U.o];exact hlt,rfl,g.o⟩
  ·go_upto_region 10 with fail
   obtain ⟨L,n⟩:=C.o.set22 now
   generalize wc.setCell _ _=wt at L n ⊢
   have a:=ki (show Below w.heap.size w wt.drew from (n.below g.o (Nat.le_of_lt k.o)).drew)
   have f:=ki (show FlIn w.heap.size b wt.drew from (n.2.2.2.2 _ (by have:=k.o;omega)).trans d.o)
   have H:=ki (show BdIn D (usd b now) wt.drew from L)
   obtain ⟨Y,l,o⟩:=E.o wt.drew a.o
   have M:=ki (R.o _ _ a.o l)
   have i:=ki (show ∀ W',TBl T P F N W'→FlIn w.heap.size b W'→BdIn D (usd b now) W'→W'.cell? ⟨T,1,none⟩=some (.map (some F))∧(fload (.pointer (some ⟨w.heap.size,0,none⟩))).run Tryz.prog W'=.ok (.agg (flC b)) W'∧(bload (.pointer (some ⟨D,0,none⟩))).run Tryz.prog W'=.ok (.agg (bdC (usd b now))) W' from fun W' h1 h2 h3=>⟨h1.c1,h2.fl,h3.bl⟩)
   have I:=ki (i.o _ (z.o _ a.o) f.o H.o)
   have V:=ki (i.o Y ((o.2.2.2.2 T A.o.1).trans (z.o _ a.o)) ((o.2.2.2.2 _ (by have:=A.o.2;omega)).trans f.o) ((o.2.2.2.2 D (by have:=A.o.2;have:=k.o;omega)).trans H.o))
   obtain ⟨c1,S,g3⟩:=I.o
   clear L n o c22 fz g d C i E R z A k
   go_region_held3 (fun W'=>W'.cell? ⟨T,1,none⟩=some (.map (some F))∧(fload (.pointer (some ⟨w.heap.size,0,none⟩))).run Tryz.prog W'=.ok (.agg (flC b)) W'∧(bload (.pointer (some ⟨D,0,none⟩))).run Tryz.prog W'=.ok (.agg (bdC (usd b now))) W')
    (first
     | exact I.o
     | exact V.o
     | go_keep)
    (fail)
   all_goals
    go_wp2_with fail
    go_ret
    exact .inr ⟨by rw[U.o];exact hlt,rfl,M.o⟩
theorem tb_use:JUse TB:=by
 rintro v m ws ts bs O w p now e C D hl hb s x
 have d:=s
 obtain ⟨T,P,BB,F,N,y,rfl,h,z,rfl⟩:=s
 have f:=h.2.2.2.1
 have i:=fun W (hW:Below w.heap.size w W)=>h.2.2.1.same (hW.block F h.2.2.1.lt)
 rcases x with ⟨h1,rfl,rfl⟩|⟨k,h1,h2,rfl,rfl⟩|⟨k,h1,h2,h3,rfl,hbs⟩|⟨k,h1,h2,h3,rfl,hbs⟩
 ·exact (buse_none T P F N p now w h.1 (f.pno h1)).mono fun _ _ ⟨e1,e2⟩=>⟨e1,TQ.of tb_kept d e2⟩
 ·exact (buse_range T P F N p now _ w h.1 h2 (f.pyes h1)).mono fun _ _ ⟨e1,e2⟩=>⟨e1,TQ.of tb_kept d e2⟩
 all_goals
  obtain ⟨l,A,E⟩:=prtY h1
  have a:=h.ne
  have hc:=buse_late T P F N p now (bs.getD k []) w h.1 a.1.2.2.1 h.2.2.1.lt h2 (f.pyes h1) (fun W hW=>(i W hW).fmem A) (fun W hW=>by obtain ⟨W',n,_,b⟩:=(i W hW).used l now;exact ⟨W',n,b⟩) (fun W'=>TQ TB (.pointer (some ⟨T,0,none⟩)) m ws ts (bs.set k (usd (bs.getD k []) now)) (fun g=>g=T∨g=P∨g=BB∨g=F∨g=N) w W') (fun W W' hW hr=>by
   obtain ⟨t,n,B,b⟩:=(i W hW).used l now
   have:W'=t:=by rw[n] at hr;injection hr with _ hr;exact hr.symm
   subst this
   have hc:=h.kept hW
   refine ⟨_,⟨T,P,BB,F,N,y,rfl,⟨(b.2.2.2.2 T a.1.2.2.1).trans hc.1,⟨(b.2.2.2.2 P a.2.1.2.1).trans hc.2.1.1,hc.2.1.2.same (b.2.2.2.2 BB a.2.2.1)⟩,B,(hc.2.2.2.1.same (b.2.2.2.2 N (fun e=>a.2.2.2.2 e.symm))).pused l now,a.2.2.2.2⟩,z,rfl⟩,(Fr.of hW).trans (b.fr (.inr (.inr (.inr (.inl rfl))))),fun _ e=>.inl e⟩)
  refine hc.mono ?_
  rintro r G (⟨o,rfl,q⟩|⟨o,rfl,q⟩)
  ·first
    | exact ⟨rfl,by rw[hbs];exact TQ.of tb_kept d q⟩
    | exact absurd o h3
  ·first
    | exact ⟨rfl,by rw[hbs];exact q⟩
    | exact absurd h3 o
end
section
variable {f:List Int} {F N P T:Nat} {ow:Nat→List Int} {W W' w:World}
def TO (T P BB F N:Nat):Nat→Prop:=fun g=>g=T∨g=P∨g=BB∨g=F∨g=N
def KM (w:World) (T P BB F N m:Nat) (ow:Nat→List Int) (ts:Nat→Bool) (bs:List (List Int)) (f:List Int) (W:World):Prop:=TC T P BB F N m ow ts bs W∧FlIn w.heap.size f W∧BdIn (w.heap.size+1) [] W∧Fr (TO T P BB F N) w W∧∀ g,TO T P BB F N g→g < w.heap.size
theorem KM.kept {BB m:Nat} {ts:Nat→Bool} {bs:List (List Int)} (h:KM w T P BB F N m ow ts bs f W) (hb:Below W.heap.size W W'):KM w T P BB F N m ow ts bs f W' :=
 ⟨h.1.kept hb,h.2.1.kept hb,h.2.2.1.kept hb,h.2.2.2.1.trans (Fr.of hb),h.2.2.2.2⟩
theorem km_start {BB m:Nat} {ts:Nat→Bool} {bs:List (List Int)} (f:List Int) (h:TC T P BB F N m ow ts bs w):KM w T P BB F N m ow ts bs f ((w.alloc (.cells (flC f) 89)).alloc (.cells zero23 95)):=by
 have b:=al_below w (.cells (flC f) 89)
 have a:=al_below (w.alloc (.cells (flC f) 89)) (.cells zero23 95)
 have d:=bd_zero (w.alloc (.cells (flC f) 89))
 rw[World.size_alloc] at d
 exact ⟨(h.kept b).kept a,(fl_new f w).kept a,d,Fr.of (bt b a),fun g hg=>h.lt g hg⟩
theorem KM.only {BB m:Nat} {ts:Nat→Bool} {bs:List (List Int)} (h:KM w T P BB F N m ow ts bs f W) {D:Nat} (on:Only D W W') (hD:w.heap.size+1 < D):KM w T P BB F N m ow ts bs f W':=by
 obtain ⟨d,e,i,a,b⟩:=h
 refine ⟨d.same fun g hg=>on.2.2.2.2 g (by have:=b g hg;omega),(on.2.2.2.2 _ (by omega)).trans e,(on.2.2.2.2 _ (by omega)).trans i,?_,b⟩
 exact ⟨on.1.trans a.1,on.2.1.trans a.2.1,on.2.2.1.trans a.2.2.1,by rw[on.2.2.2.1];exact a.2.2.2.1,fun g hg hn=>(on.2.2.2.2 g (by omega)).trans (a.2.2.2.2 g hg hn)⟩
theorem KM.answer {BB m:Nat} {ts:Nat→Bool} {bs:List (List Int)} (h:KM w T P BB F N m ow ts bs f W) (on:Only (w.heap.size+1) W W'):TC T P BB F N m ow ts bs W'∧Fr (TO T P BB F N) w W':=by
 obtain ⟨b,e,i,a,d⟩:=h
 refine ⟨b.same fun g hg=>on.2.2.2.2 g (by have:=d g hg;omega),?_⟩
 exact ⟨on.1.trans a.1,on.2.1.trans a.2.1,on.2.2.1.trans a.2.2.1,by rw[on.2.2.2.1];exact a.2.2.2.1,fun g hg hn=>(on.2.2.2.2 g (by omega)).trans (a.2.2.2.2 g hg hn)⟩
theorem bld_zero (w:World):(bld #[]).run Tryz.prog w=.ok (.agg (bdC [])) w:=by kernel_rfl
attribute [local go_sem ↓] fload_shut bload_shut hload_shut flk_shut bstore_shut fup_shut pup_shut
theorem bmake_flow (v:Value) (f:List Int) (back far now:Int) (w:World) (hf:okf f=false) :
  Calls Tryz.prog 145 #[v,.agg (flC f),.int .i64 back,.int .i64 far,.int .i64 now] w fun r w'=>r=.returned (.tuple #[.agg (bdC []),err 1])∧Below w.heap.size w w':=by
 have h:=ki (fun W=>bcheck f W)
 rw[hf,show ev (fe false)=err 1 from rfl] at h
 unfold err at h
 have a:=ki (bt (al_below w (.cells (flC f) 89)) (al_below _ (.cells zero23 95)))
 have i:=ki (show FlIn w.heap.size f ((w.alloc (.cells (flC f) 89)).alloc (.cells zero23 95)) from (fl_new f w).kept (al_below _ _))
 have b:=ki (show BdIn (w.heap.size+1) [] ((w.alloc (.cells (flC f) 89)).alloc (.cells zero23 95)) by have:=bd_zero (w.alloc (.cells (flC f) 89));rw[World.size_alloc] at this;exact this)
 unfold zero23 at a i b
 clear hf
 go_enter Tryz.func145,Tryz.ntmps145
 go_upto_region 1 with fail
 generalize (w.alloc _).alloc _=W at a i b ⊢
 have n:=i.o.fl
 go_wp2_with (first
  | (go_at_call 199;(with_reducible refine (h.o _).mono ?_);rintro e o ⟨rfl,d⟩;replace a:=ki (bt a.o d);replace b:=ki (b.o.kept d);clear d n)
  | (refine at_storeb rfl (.tmp 10) (.tmp 23) rfl rfl b.o [] rfl ?_;intro p k g;have l:=ki (g.below a.o (Nat.le_succ _));replace k:=ki k;clear g))
 try simp only[Exit.inBlock,Exit.then]
 refine bodyPost_ret (results_bd rfl _ _ (w.heap.size+1) [] rfl k.o) rfl ?_
 exact ⟨rfl,l.o⟩
theorem bmake_range (v:Value) (f:List Int) (back far now:Int) (w:World) (hf:okf f=true) (hr:(fr back && wd far && tc now)=false) :
  Calls Tryz.prog 145 #[v,.agg (flC f),.int .i64 back,.int .i64 far,.int .i64 now] w fun r w'=>r=.returned (.tuple #[.agg (bdC []),err 1])∧Below w.heap.size w w':=by
 have p:=ki (fun W=>bcheck f W)
 rw[hf,show ev (fe true)=.nilIface from rfl] at p
 have a:=ki (bt (al_below w (.cells (flC f) 89)) (al_below _ (.cells zero23 95)))
 have o:=ki (show FlIn w.heap.size f ((w.alloc (.cells (flC f) 89)).alloc (.cells zero23 95)) from (fl_new f w).kept (al_below _ _))
 have b:=ki (show BdIn (w.heap.size+1) [] ((w.alloc (.cells (flC f) 89)).alloc (.cells zero23 95)) by have:=bd_zero (w.alloc (.cells (flC f) 89));rw[World.size_alloc] at this;exact this)
 have h:=ki (fun W=>bc4_any back W)
 have q:=ki (fun W=>uptoW far W)
 have s:=ki (fun W=>uptoT now W)
 generalize fr back=b1 at h hr
 generalize wd far=b2 at q hr
 generalize tc now=b3 at s hr
 have hc:b1=false∨(b1=true∧b2=false)∨(b1=true∧b2=true∧b3=false):=by cases b1 <;> cases b2 <;> cases b3 <;> simp_all
 unfold zero23 at a o b
 clear hf hr
 go_enter Tryz.func145,Tryz.ntmps145
 go_upto_region 1 with fail
 generalize (w.alloc _).alloc _=W at a o b ⊢
 have t:=o.o.fl
 go_upto_region 4 with (go_at_call 199;(with_reducible refine (p.o _).mono ?_);rintro e y ⟨rfl,i⟩;replace a:=ki (bt a.o i);replace b:=ki (b.o.kept i);clear i t)
 rcases hc with rfl|⟨rfl,rfl⟩|⟨rfl,rfl,rfl⟩
 ·rw[show ev (fe false)=err 1 from rfl] at h
  unfold err at h
  go_wp2_with (first
   | (go_at_call 73;(with_reducible refine (h.o _).mono ?_);rintro e w' ⟨rfl,rfl⟩)
   | (refine at_storeb rfl (.tmp 10) (.tmp 29) rfl rfl b.o [] rfl ?_;intro x g d;have k:=ki (d.below a.o (Nat.le_succ _));replace g:=ki g;clear d))
  try simp only[Exit.inBlock,Exit.then]
  refine bodyPost_ret (results_bd rfl _ _ (w.heap.size+1) [] rfl g.o) rfl ?_
  exact ⟨rfl,k.o⟩
 all_goals
  rw[show ev (fe true)=.nilIface from rfl] at h
  go_wp2_with (first
   | (go_at_call 73;(with_reducible refine (h.o _).mono ?_);rintro e w' ⟨rfl,rfl⟩)
   | (go_at_call 153;(with_reducible refine (q.o _).mono ?_);rintro e z ⟨rfl,l⟩;replace a:=ki (bt a.o l);replace b:=ki (b.o.kept l);clear l)
   | (go_at_call 153;(with_reducible refine (s.o _).mono ?_);rintro e A ⟨rfl,n⟩;replace a:=ki (bt a.o n);replace b:=ki (b.o.kept n);clear n)
   | (refine at_storeb rfl (.tmp 10) (.tmp 41) rfl rfl b.o [] rfl ?_;intro x g d;have k:=ki (d.below a.o (Nat.le_succ _));replace g:=ki g;clear d))
  try simp only[Exit.inBlock,Exit.then]
  refine bodyPost_ret (results_bd rfl _ _ (w.heap.size+1) [] rfl g.o) rfl ?_
  exact ⟨rfl,k.o⟩
attribute [local go_sem ↓] bld_shut
theorem bmake_late (T P BB F N m:Nat) (ow:Nat→List Int) (ts:Nat→Bool) (bs:List (List Int)) (f:List Int) (back far now:Int) (x:List Int) (ok:Bool) (w:World) (h:TC T P BB F N m ow ts bs w) (hf:okf f=true) (hr:(fr back && wd far && tc now)=true)
  (hl:∀ W,KM w T P BB F N m ow ts bs f W→(flk (.map (some F)) (.agg (flC f)) true).run Tryz.prog W=.ok (.tuple #[.agg (bdC x),.bool ok]) W)
  (n:Int) (fu:Bool) (ow':Nat→List Int) (ts':Nat→Bool)
  (htk:ok=false→∀ W,KM w T P BB F N m ow ts bs f W→Calls Tryz.prog 200 #[.pointer (some ⟨P,0,none⟩),.agg (sixC (cli f))] W fun e w'=>e=.returned (.tuple #[.int .i64 n,if fu=true then .iface 28 (.int .i64 3) else .nilIface])∧KM w T P BB F N m ow' ts' bs f w')
  (hup:ok=false→fu=false→∀ W,KM w T P BB F N m ow' ts' bs f W→∃ W1 W2,(fup (.map (some F)) (.agg (flC f)) (.agg (bdC (mkb f n back far now)))).run Tryz.prog W=.ok () W1∧Only F W W1∧(pup (.map (some N)) (.int .i64 n) (.agg (flC f))).run Tryz.prog W1.drew=.ok () W2∧Only N W1.drew W2)
  (Q:World→Prop) (hQ:ok=false→fu=false→∀ W W1 W2 W3,KM w T P BB F N m ow' ts' bs f W→(fup (.map (some F)) (.agg (flC f)) (.agg (bdC (mkb f n back far now)))).run Tryz.prog W=.ok () W1→Only F W W1→(pup (.map (some N)) (.int .i64 n) (.agg (flC f))).run Tryz.prog W1.drew=.ok () W2→Only N W1.drew W2→Only (w.heap.size+1) W2 W3→Q W3) :
  Calls Tryz.prog 145 #[.pointer (some ⟨T,0,none⟩),.agg (flC f),.int .i64 back,.int .i64 far,.int .i64 now] w fun r w' =>
   (ok=true∧r=.returned (.tuple #[.agg (bdC []),err 8])∧TC T P BB F N m ow ts bs w'∧Fr (TO T P BB F N) w w') ∨
   (ok=false∧fu=true∧r=.returned (.tuple #[.agg (bdC []),err 3])∧TC T P BB F N m ow' ts' bs w'∧Fr (TO T P BB F N) w w') ∨
   (ok=false∧fu=false∧r=.returned (.tuple #[.agg (bdC (mkb f n back far now)),.nilIface])∧Q w'):=by
 have HC:=ki (fun W=>bcheck f W)
 rw[hf,show ev (fe true)=.nilIface from rfl] at HC
 rw[Bool.and_eq_true,Bool.and_eq_true] at hr
 have H1:=ki (fun W=>bc4_any back W)
 have H2:=ki (fun W=>uptoW far W)
 have H3:=ki (fun W=>uptoT now W)
 rw[hr.1.1,show ev (fe true)=.nilIface from rfl] at H1
 rw[hr.1.2] at H2
 rw[hr.2] at H3
 have a:=ki (km_start f h)
 have HL:=ki hl
 have q:=ki htk
 have A:=ki hup
 have R:=ki hQ
 unfold zero23 at a
 clear hf hr h hl htk hup hQ
 go_enter Tryz.func145,Tryz.ntmps145
 go_upto_region 1 with fail
 generalize (w.alloc _).alloc _=W at a ⊢
 have E:=a.o.2.1.fl
 go_upto_region 9 with (first
  | (go_at_call 199;(with_reducible refine (HC.o _).mono ?_);rintro e w1 ⟨rfl,U⟩;replace a:=ki (a.o.kept U);clear U E)
  | (go_at_call 73;(with_reducible refine (H1.o _).mono ?_);rintro e w' ⟨rfl,rfl⟩)
  | (go_at_call 153;(with_reducible refine (H2.o _).mono ?_);rintro e w2 ⟨rfl,V⟩;replace a:=ki (a.o.kept V);clear V)
  | (go_at_call 153;(with_reducible refine (H3.o _).mono ?_);rintro e w3 ⟨rfl,X⟩;replace a:=ki (a.o.kept X);clear X))
 clear HC H1 H2 H3
 rename World=>wq
 have b:=ki (a.o.kept (show Below wq.heap.size wq wq.drew from (Below.refl _ _).drew))
 have B:=ki (a.o.kept (show Below wq.heap.size wq (wq.alloc (.cells zero23 95)).drew from (al_below wq _).drew))
 obtain ⟨w5,Y,p5,Z⟩:=(bd_zero' wq).held x
 have G:=ki (B.o.only Z (by have:=a.o.2.2.1.lt;omega))
 have k:=ki (show ∀ W',KM w T P BB F N m ow ts bs f W'→W'.cell? ⟨T,1,none⟩=some (.map (some F))∧(fload (.pointer (some ⟨w.heap.size,0,none⟩))).run Tryz.prog W'=.ok (.agg (flC f)) W'∧(flk (.map (some F)) (.agg (flC f)) true).run Tryz.prog W'=.ok (.tuple #[.agg (bdC x),.bool ok]) W' from fun W' h1=>⟨h1.1.1.c1,h1.2.1.fl,HL.o W' h1⟩)
 unfold zero23 at B Y
 clear Z p5 HL
 obtain ⟨c1,C,k2⟩:=k.o _ b.o
 go_cut [14,15] from 14 to 51 (fun u v wx=>(∃ D,u=.pointer (some ⟨D,0,none⟩))∧v=.bool ok∧Hid (KM w T P BB F N m ow ts bs f wx))
 case first =>
  go_region_held3 (fun W'=>W'.cell? ⟨T,1,none⟩=some (.map (some F))∧(fload (.pointer (some ⟨w.heap.size,0,none⟩))).run Tryz.prog W'=.ok (.agg (flC f)) W'∧(flk (.map (some F)) (.agg (flC f)) true).run Tryz.prog W'=.ok (.tuple #[.agg (bdC x),.bool ok]) W')
   (first
    | exact k.o _ b.o
    | exact k.o _ B.o
    | exact k.o _ G.o
    | go_keep)
   (fail)
  all_goals
   go_wp2_with fail
   go_meet
   exact ⟨⟨_,rfl⟩,rfl,G⟩
 case rest =>
  clear b B Y G k c1 C k2 a
  obtain ⟨⟨D0,rfl⟩,rfl,a⟩:=hcut
  cases ok
  ·cases fu
   ·have H:=ki (show ∀ W,KM w T P BB F N m ow ts bs f W→Calls Tryz.prog 200 #[.pointer (some ⟨P,0,none⟩),.agg (sixC (cli f))] W fun e w'=>e=.returned (.tuple #[.int .i64 n,.nilIface])∧KM w T P BB F N m ow' ts' bs f w' from fun W hW=>q.o rfl W hW)
    have HU:=ki (A.o rfl rfl)
    have HE:=ki (R.o rfl rfl)
    clear q A R
    go_upto_region 12 with fail
    replace a:=ki (a.o.kept (show Below wc.heap.size wc wc.drew from (Below.refl _ _).drew))
    have y:=a.o.1.1.c0
    have z:=a.o.2.1.hc
    go_region_held3 (fun w'=>w'.cell? ⟨T,0,none⟩=some (.pointer (some ⟨P,0,none⟩))∧(hload (.pointer (some ⟨w.heap.size,1,none⟩))).run Tryz.prog w'=.ok (.agg (sixC (cli f))) w')
     (first
      | exact ⟨a.o.1.1.c0,a.o.2.1.hc⟩
      | exact ⟨d.o.1.1.c0,d.o.2.1.hc⟩
      | go_keep)
     (first|(go_at_call 200;refine (H.o _ a.o).mono ?_;rintro e I ⟨rfl,s⟩;have d:=ki s;clear s y z;have y:=d.o.1.1.c0;have z:=d.o.2.1.hc))
    clear y z H a
    have g6:=d.o.2.1.fl
    have av:=bld_run f n back far now
    have HS:=ki (bd_zero I)
    unfold zero23 at HS
    go_upto_region 16 with (refine at_storeb rfl (.tmp 18) (.tmp 74) rfl rfl HS.o (mkb f n back far now) rfl ?_;intro S p7 aa;have J:=ki p7;have ab:=ki ((d.o.kept (al_below I _)).only aa (by have:=d.o.2.2.1.lt;omega));clear p7 aa)
    have HD:=ki (show w.heap.size+1 < I.heap.size from d.o.2.2.1.lt)
    generalize I.heap.size=D at J HD ⊢
    clear g6 av HS d
    go_frame
    have b:=ki (ab.o.kept (show Below S.heap.size S S.drew from (Below.refl _ _).drew))
    have K:=ki (show BdIn D (mkb f n back far now) S.drew from J.o)
    obtain ⟨W1,W2,ac,l,ad,o⟩:=HU.o _ b.o
    have HG:=ki (show T≠F∧T≠N∧F < w.heap.size∧N < w.heap.size from ⟨b.o.1.ne.1.2.2.1,b.o.1.ne.1.2.2.2,b.o.2.2.2.2 F (.inr (.inr (.inr (.inl rfl)))),b.o.2.2.2.2 N (.inr (.inr (.inr (.inr rfl))))⟩)
    have p:=ki (show TBl T P F N W1.drew∧FlIn w.heap.size f W1.drew∧BdIn (w.heap.size+1) [] W1.drew∧BdIn D (mkb f n back far now) W1.drew by
     obtain ⟨e1,e2,e3,e4⟩:=HG.o
     have:=HD.o
     exact ⟨(l.2.2.2.2 T e1).trans b.o.1.1,(l.2.2.2.2 _ (by omega)).trans b.o.2.1,(l.2.2.2.2 _ (by omega)).trans b.o.2.2.1,(l.2.2.2.2 _ (by omega)).trans K.o⟩)
    have ae:=ki (show TBl T P F N W2∧FlIn w.heap.size f W2∧BdIn (w.heap.size+1) [] W2∧BdIn D (mkb f n back far now) W2 by
     obtain ⟨e1,e2,e3,e4⟩:=HG.o
     have:=HD.o
     exact ⟨(o.2.2.2.2 T e2).trans p.o.1,(o.2.2.2.2 _ (by omega)).trans p.o.2.1,(o.2.2.2.2 _ (by omega)).trans p.o.2.2.1,(o.2.2.2.2 _ (by omega)).trans p.o.2.2.2⟩)
    have az:=ki (fun W3 (on3:Only (w.heap.size+1) W2 W3)=>HE.o _ _ _ W3 b.o ac l ad o on3)
    have k:=ki (show ∀ W',TBl T P F N W'∧FlIn w.heap.size f W'∧BdIn (w.heap.size+1) [] W'∧BdIn D (mkb f n back far now) W'→W'.cell? ⟨T,1,none⟩=some (.map (some F))∧W'.cell? ⟨T,2,none⟩=some (.map (some N))∧(fload (.pointer (some ⟨w.heap.size,0,none⟩))).run Tryz.prog W'=.ok (.agg (flC f)) W'∧(bload (.pointer (some ⟨D,0,none⟩))).run Tryz.prog W'=.ok (.agg (bdC (mkb f n back far now))) W' from fun W' h1=>⟨h1.1.c1,h1.1.c2,h1.2.1.fl,h1.2.2.2.bl⟩)
    have L:=ki (k.o _ ⟨b.o.1.1,b.o.2.1,b.o.2.2.1,K.o⟩)
    have M:=ki (show W1.cell? ⟨T,1,none⟩=some (.map (some F))∧W1.cell? ⟨T,2,none⟩=some (.map (some N))∧(fload (.pointer (some ⟨w.heap.size,0,none⟩))).run Tryz.prog W1=.ok (.agg (flC f)) W1∧(bload (.pointer (some ⟨D,0,none⟩))).run Tryz.prog W1=.ok (.agg (bdC (mkb f n back far now))) W1 from k.o _ p.o)
    obtain ⟨c1,c2,E,C⟩:=L.o
    clear HE HU ab J l o HG b K
    go_region_held3 (fun W'=>W'.cell? ⟨T,1,none⟩=some (.map (some F))∧W'.cell? ⟨T,2,none⟩=some (.map (some N))∧(fload (.pointer (some ⟨w.heap.size,0,none⟩))).run Tryz.prog W'=.ok (.agg (flC f)) W'∧(bload (.pointer (some ⟨D,0,none⟩))).run Tryz.prog W'=.ok (.agg (bdC (mkb f n back far now))) W')
     (first
      | exact L.o
      | exact M.o
      | go_keep)
     (fail)
    all_goals
     go_upto_region 17 with fail
     clear c1 c2 E C L M ac
     have O:=ki (k.o _ p.o)
     have af:=ki (k.o _ ae.o)
     obtain ⟨c1,c2,E,C⟩:=O.o
     go_region_held3 (fun W'=>W'.cell? ⟨T,1,none⟩=some (.map (some F))∧W'.cell? ⟨T,2,none⟩=some (.map (some N))∧(fload (.pointer (some ⟨w.heap.size,0,none⟩))).run Tryz.prog W'=.ok (.agg (flC f)) W'∧(bload (.pointer (some ⟨D,0,none⟩))).run Tryz.prog W'=.ok (.agg (bdC (mkb f n back far now))) W')
      (first
       | exact O.o
       | exact af.o
       | go_keep)
      (fail)
     all_goals
      clear c1 c2 E C O ad
      obtain ⟨-,-,-,C⟩:=af.o
      go_wp2_with (refine at_storeb rfl (.tmp 10) (.tmp 87) rfl rfl ae.o.2.2.1 (mkb f n back far now) rfl ?_;intro w8 i g;have a0:=ki (az.o w8 g);replace i:=ki i;clear g)
      try simp only[Exit.inBlock,Exit.then]
      refine bodyPost_ret (results_bd rfl _ _ (w.heap.size+1) (mkb f n back far now) rfl i.o) rfl ?_
      exact ⟨rfl,a0.o⟩
   ·have H:=ki (show ∀ W,KM w T P BB F N m ow ts bs f W→Calls Tryz.prog 200 #[.pointer (some ⟨P,0,none⟩),.agg (sixC (cli f))] W fun e w'=>e=.returned (.tuple #[.int .i64 n,.iface 28 (.int .i64 3)])∧KM w T P BB F N m ow' ts' bs f w' from fun W hW=>q.o rfl W hW)
    clear q A R
    go_upto_region 12 with fail
    replace a:=ki (a.o.kept (show Below wc.heap.size wc wc.drew from (Below.refl _ _).drew))
    have y:=a.o.1.1.c0
    have z:=a.o.2.1.hc
    go_region_held3 (fun w'=>w'.cell? ⟨T,0,none⟩=some (.pointer (some ⟨P,0,none⟩))∧(hload (.pointer (some ⟨w.heap.size,1,none⟩))).run Tryz.prog w'=.ok (.agg (sixC (cli f))) w')
     (first
      | exact ⟨a.o.1.1.c0,a.o.2.1.hc⟩
      | exact ⟨d.o.1.1.c0,d.o.2.1.hc⟩
      | go_keep)
     (first|(go_at_call 200;refine (H.o _ a.o).mono ?_;rintro e I ⟨rfl,s⟩;have d:=ki s;clear s y z;have y:=d.o.1.1.c0;have z:=d.o.2.1.hc))
    clear y z H a
    have a1:=bld_zero
    go_wp2_with (refine at_storeb rfl (.tmp 10) (.tmp 67) rfl rfl d.o.2.2.1 [] rfl ?_;intro w8 i g;have t:=ki (d.o.answer g);replace i:=ki i;clear g)
    try simp only[Exit.inBlock,Exit.then]
    refine bodyPost_ret (results_bd rfl _ _ (w.heap.size+1) [] rfl i.o) rfl ?_
    exact ⟨rfl,t.o.1,t.o.2⟩
  ·clear q A R
   have a1:=bld_zero
   go_wp2_with (refine at_storeb rfl (.tmp 10) (.tmp 53) rfl rfl a.o.2.2.1 [] rfl ?_;intro w8 i g;have t:=ki (a.o.answer g);replace i:=ki i;clear g)
   try simp only[Exit.inBlock,Exit.then]
   refine bodyPost_ret (results_bd rfl _ _ (w.heap.size+1) [] rfl i.o) rfl ?_
   exact ⟨rfl,t.o.1,t.o.2⟩
end
section
variable {f:List Int} {w:World}
theorem ins_perm (x:List Int) (bs:List (List Int)):(ins x bs).Perm (x::bs):=by
 obtain ⟨p,_,h,_⟩:=ins_form x bs
 rw[h,List.singleton_append]
 refine List.perm_middle.trans ?_
 rw[List.take_append_drop]
theorem KM.took {T P BB F N m:Nat} {ow ow':Nat→List Int} {ts ts':Nat→Bool} {bs:List (List Int)} {W W':World} (h:KM w T P BB F N m ow ts bs f W) (hp:BP P BB m ow' ts' W') (hf:Fr (fun g=>g=BB) W W'):KM w T P BB F N m ow' ts' bs f W':=by
 obtain ⟨a,d,i,k,l⟩:=h
 have n:=a.ne
 have hs:=k.2.2.2.1
 have o:=l BB (.inr (.inr (.inl rfl)))
 have b:∀ g,g < W.heap.size→g≠BB→W'.heap[g]? = W.heap[g]?:=fun g h1 h2=>hf.2.2.2.2 g h1 h2
 exact ⟨⟨(b T a.1.lt n.1.2.1).trans a.1,hp,a.2.2.1.same (b F a.2.2.1.lt (fun e=>n.2.2.1 e.symm)),a.2.2.2.1.same (b N a.2.2.2.1.lt (fun e=>n.2.2.2.1 e.symm)),a.2.2.2.2⟩,(b _ d.lt (by omega)).trans d,(b _ i.lt (by omega)).trans i,k.trans (hf.mono (fun _ e=>.inr (.inr (.inl e)))),l⟩
theorem MP.fnew {F:Nat} {bs:List (List Int)} (h:MP isF F (bs.map fE) w) (hk:fnd bs f=none) (n back far now:Int) :
  ∃ w',(fup (.map (some F)) (.agg (flC f)) (.agg (bdC (mkb f n back far now)))).run Tryz.prog w=.ok () w'∧MP isF F ((ins (mkb f n back far now) bs).map fE) w'∧Only F w w':=by
 obtain ⟨w',b,d,e⟩:=h.store_new kof Tryz.mapF (.agg (bdC (mkb f n back far now))) ⟨f,rfl⟩ (fndN hk)
 exact ⟨w',b,d.perm ((ins_perm (mkb f n back far now) bs).map fE).symm,e⟩
theorem MP.pnew {N:Nat} {bs:List (List Int)} (h:MP isI N (bs.map pE) w) {n:Int} (hk:∀ q ∈ bs.map pE,q.1≠.int .i64 n) (back far now:Int) :
  ∃ w',(pup (.map (some N)) (.int .i64 n) (.agg (flC f))).run Tryz.prog w=.ok () w'∧MP isI N ((ins (mkb f n back far now) bs).map pE) w'∧Only N w w':=by
 obtain ⟨w',a,b,d⟩:=h.store_new koi Tryz.mapI (.agg (flC f)) ⟨n,rfl⟩ hk
 exact ⟨w',a,b.perm ((ins_perm (mkb f n back far now) bs).map pE).symm,d⟩
theorem BI.unused {m:Nat} {ws:Nat→List Int} {ts:Nat→Bool} {bs:List (List Int)} (h:BI m ws ts bs) {i:Nat} (ht:ts i=false):∀ q ∈ bs.map pE,q.1≠.int .i64 (1024+(i:Int)):=by
 intro q d e
 obtain ⟨b,hb,rfl⟩:=List.mem_map.1 d
 obtain ⟨_,⟨j,_,f,a,_⟩,_⟩:=h.1 b hb
 unfold pE at e
 injection e with _ e
 have:j=i:=by omega
 subst this
 rw[ht] at a
 cases a
theorem tb_make:JMake TB:=by
 rintro v m ws ts bs O w f a b now x e X o s H hl hb I S
 have B:=I
 obtain ⟨T,P,BB,F,N,d,rfl,h,t,rfl⟩:=I
 have y:∀ W,KM w T P BB F N m d ts bs f W→MP isF F (bs.map fE) W:=fun W hW=>hW.1.2.2.1
 rcases S with ⟨k1,rfl,rfl,rfl,rfl,rfl⟩|⟨k1,k2,rfl,rfl,rfl,rfl,rfl⟩|⟨k1,k2,⟨k,k3⟩,rfl,rfl,rfl,rfl,rfl⟩|⟨k1,k2,k3,k4,rfl,rfl,rfl,rfl,rfl⟩|⟨k1,k2,k3,i,k4,rfl,rfl,rfl,rfl,rfl⟩
 ·exact (bmake_flow _ f a b now w k1).mono fun _ _ ⟨e1,l⟩=>⟨e1,TQ.of tb_kept B l⟩
 ·exact (bmake_range _ f a b now w k1 k2).mono fun _ _ ⟨e1,l⟩=>⟨e1,TQ.of tb_kept B l⟩
 ·refine (bmake_late T P BB F N m d o s f a b now (s.getD k []) true w h k1 k2 (fun W hW=>((y W hW).fyes k3).1) 0 true d o (fun e=>by cases e) (fun e=>by cases e) (fun _=>True) (fun e=>by cases e)).mono ?_
  rintro r J (⟨_,rfl,h1,h2⟩|⟨e,_⟩|⟨e,_⟩)
  ·exact ⟨rfl,_,⟨T,P,BB,F,N,d,rfl,h1,t,rfl⟩,h2,fun _ e=>.inl e⟩
  ·cases e
  ·cases e
 ·rcases tk_rm t (cli f) with ⟨_,hr⟩|⟨_,_,_,_,_,_,_,hr⟩
  ·refine (bmake_late T P BB F N m d o s f a b now [] false w h k1 k2 (fun W hW=>(y W hW).fno k3) 0 true d o (fun _ W hW=>(ptake_full P BB m d o (cli f) W hW.1.2.1 H (okf_cli k1) hr).mono fun _ _ ⟨e1,l⟩=>⟨e1,hW.kept l⟩) (fun _ e=>by cases e) (fun _=>True) (fun _ e=>by cases e)).mono ?_
   rintro r J (⟨e,_⟩|⟨_,_,rfl,h1,h2⟩|⟨_,e,_⟩)
   ·cases e
   ·exact ⟨rfl,_,⟨T,P,BB,F,N,d,rfl,h1,t,rfl⟩,h2,fun _ e=>.inl e⟩
   ·cases e
  ·rw[k4] at hr;cases hr
 ·rcases tk_rm t (cli f) with ⟨hr,_⟩|⟨k,j,hkm,hj,hmn,hr,hx,hr2⟩
  ·rw[k4] at hr;cases hr
  ·rw[k4] at hr2
   obtain rfl:i=8*k+j:=Option.some.inj hr2
   have q:=hb.unused (tk_free k4)
   refine (bmake_late T P BB F N m d ts bs f a b now [] false w h k1 k2 (fun W hW=>(y W hW).fno k3) (1024+((8*k+j:Nat):Int)) false (upd d k (cli f)) (upd ts (8*k+j) true) (fun _ W hW=>(ptake_ok P BB m d ts (cli f) k j W hW.1.2.1 H (okf_cli k1) hr hkm hx hj).mono fun _ _ ⟨e1,l,e3⟩=>⟨e1,hW.took l e3⟩)
    (fun _ _ W hW=>by
     obtain ⟨W1,C,K,A⟩:=hW.1.2.2.1.fnew k3 (1024+((8*k+j:Nat):Int)) a b now
     have D:MP isI N (bs.map pE) W1.drew:=hW.1.2.2.2.1.same (A.2.2.2.2 N (fun e=>hW.1.2.2.2.2 e.symm))
     obtain ⟨W2,E,L,M⟩:=D.pnew (f:=f) q a b now
     exact ⟨W1,W2,C,A,E,M⟩)
    (fun W'=>TQ TB (.pointer (some ⟨T,0,none⟩)) m (upd ws (8*k+j) (cli f)) (upd ts (8*k+j) true) (ins (mkb f (1024+((8*k+j:Nat):Int)) a b now) bs) (fun g=>g=T∨g=P∨g=BB∨g=F∨g=N) w W')
    (fun _ _ W W1 W2 W3 hW r1 o1 r2 o2 o3=>by
     obtain ⟨Q,C,K,A⟩:=hW.1.2.2.1.fnew k3 (1024+((8*k+j:Nat):Int)) a b now
     have e1:W1=Q:=by rw[C] at r1;injection r1 with _ r1;exact r1.symm
     subst e1
     have D:MP isI N (bs.map pE) W1.drew:=hW.1.2.2.2.1.same (A.2.2.2.2 N (fun e=>hW.1.2.2.2.2 e.symm))
     obtain ⟨R,E,L,M⟩:=D.pnew (f:=f) q a b now
     have l:W2=R:=by rw[E] at r2;injection r2 with _ r2;exact r2.symm
     subst l
     have n:=hW.1.ne
     have U:=hW.2.2.2.2
     have z:∀ g,TO T P BB F N g→W3.heap[g]? = W2.heap[g]?:=fun g hg=>o3.2.2.2.2 g (by have:=U g hg;omega)
     have G:∀ g,g≠F→g≠N→W2.heap[g]? = W.heap[g]?:=fun g h1 h2=>(o2.2.2.2.2 g h2).trans (o1.2.2.2.2 g h1)
     refine ⟨_,⟨T,P,BB,F,N,_,rfl,⟨?_,⟨?_,?_⟩,?_,?_,n.2.2.2.2⟩,t.take (cli f) k j hj hmn,rfl⟩,?_,fun _ e=>.inl e⟩
     ·exact ((z T (.inl rfl)).trans (G T n.1.2.2.1 n.1.2.2.2)).trans hW.1.1
     ·exact ((z P (.inr (.inl rfl))).trans (G P n.2.1.2.1 n.2.1.2.2)).trans hW.1.2.1.1
     ·exact hW.1.2.1.2.same ((z BB (.inr (.inr (.inl rfl)))).trans (G BB n.2.2.1 n.2.2.2.1))
     ·exact (K.same (o2.2.2.2.2 F n.2.2.2.2)).same (z F (.inr (.inr (.inr (.inl rfl)))))
     ·exact L.same (z N (.inr (.inr (.inr (.inr rfl)))))
     ·have f1:Fr (TO T P BB F N) W W1:=o1.fr (.inr (.inr (.inr (.inl rfl))))
      have V:Fr (TO T P BB F N) W1 W2:=Only.fr (w:=W1.drew) o2 (.inr (.inr (.inr (.inr rfl))))
      have p:=(hW.2.2.2.1.trans f1).trans V
      exact ⟨o3.1.trans p.1,o3.2.1.trans p.2.1,o3.2.2.1.trans p.2.2.1,by rw[o3.2.2.2.1];exact p.2.2.2.1,fun g hg hn=>(o3.2.2.2.2 g (by omega)).trans (p.2.2.2.2 g hg hn)⟩)).mono ?_
   rintro r J (⟨e,_⟩|⟨_,e,_⟩|⟨_,_,rfl,h1⟩)
   ·cases e
   ·cases e
   ·exact ⟨rfl,h1⟩
end
end Go.Proofs.YtgcojnlngchllaaGreatDoor
