import Derived.Test.YtgcojnlngchllaaGreatDoorJ21
namespace Go.Proofs.YtgcojnlngchllaaGreatDoor
open Go.RowKit Tryz
set_option linter.unusedVariables false
set_option maxRecDepth 100000
set_option maxHeartbeats 40000000
section
variable {k:Nat}{w:World}
theorem aJ.yx{D:Nat}{b:List Int}(p:aJ D b w)(now:Int):aJ D (bg b now) (w.setCell ⟨D,22,none⟩ (.int .i64 now))∧Only D w (w.setCell ⟨D,22,none⟩ (.int .i64 now)):=by rw[setCell_eq_setRow w D 22 _ 95 (0,0) (.int .i64 now) p];exact⟨setRow_heap w D _ _ 95 (0,0) p,dS _ _ _⟩
def qV(m k v:Value):Sem Unit:=Instr.mapUpdate 149 m k v
theorem G9(m k v:Value):Instr.mapUpdate 149 m k v=qV m k v:=rfl
def yA(m k v:Value):Sem Unit:=Instr.mapUpdate 150 m k v
theorem Q5(m k v:Value):Instr.mapUpdate 150 m k v=yA m k v:=rfl
theorem BD{α:Type}{l:List α}{d:α}(h:k<l.length):l[k]? = some (l.getD k d):=by rw[List.getD_eq_getElem?_getD,List.getElem?_eq_getElem h];rfl
theorem aY.used{F:Nat}{bs:List (List Int)}(h:aY iE F (bs.map dV) w)(hk:k<bs.length)(now:Int): ∃w',(qV (.map (some F)) (.agg (ak (bs.getD k []))) (.agg (ay (bg (bs.getD k []) now)))).run prog w=.ok () w'∧aY iE F ((bs.set k (bg (bs.getD k []) now)).map dV) w'∧Only F w w':=by have hp:=(yj bs k _ (BD (d:=[]) hk)).map dV;obtain⟨w',a,b,e⟩:=h.QI qU pY (.agg (ay (bg (bs.getD k []) now))) ⟨bs.getD k [],rfl⟩ hp;exact⟨w',a,b.perm (((ChangeMaps.set_perm bs k hk (bg (bs.getD k []) now)).map dV).symm),e⟩
theorem aY.Q6{N:Nat}{bs:List (List Int)}(h:aY iP N (bs.map gJ) w)(hk:k<bs.length)(now:Int):aY iP N ((bs.set k (bg (bs.getD k []) now)).map gJ) w :=
 h.perm (((yj bs k _ (BD (d:=[]) hk)).map gJ).trans ((ChangeMaps.set_perm bs k hk (bg (bs.getD k []) now)).map gJ).symm)
attribute [local go_sem ↓] gP gV yu GX oJ G9
theorem Q7(T P F N:Nat)(p now:Int)(w:World)(ht:eH T P F N w)(hl:(p8 (.map (some N)) (.int .i64 p) true).run prog w=.ok (.tuple #[.agg (ak []),.bool false]) w): Calls prog 103 #[.pointer (some ⟨T,0,none⟩),.int .i64 p,.int .i64 now] w fun r w'=>r=.returned (err 4)∧Below w.heap.size w w':=by
 have b:=ki (qh w);have c2:=ht.c2;unfold oK at b;clear ht;go_enter func103,ntmps103;go_wp2_with (refine qm rfl (.tmp 7) (.tmp 17) rfl rfl b.o [] rfl ?_;intro f d a;have e:=ki (bq _ a);clear d a)
 go_ret;exact⟨rfl,e.o⟩
theorem Q8(T P F N:Nat)(p now:Int)(f:List Int)(w:World)(ht:eH T P F N w)(hn:tc now=false)(hl:(p8 (.map (some N)) (.int .i64 p) true).run prog w=.ok (.tuple #[.agg (ak f),.bool true]) w): Calls prog 103 #[.pointer (some ⟨T,0,none⟩),.int .i64 p,.int .i64 now] w fun r w'=>r=.returned (err 1)∧Below w.heap.size w w':=by
 have g:=ki (qh w);have h:=ki (fun W=>sW now W);rw[hn] at h;have c2:=ht.c2;unfold oK at g;clear ht hn;go_enter func103,ntmps103;go_wp2_with (first|(refine qm rfl (.tmp 7) (.tmp 17) rfl rfl g.o f rfl ?_;intro k i a;have d:=ki (bq _ a);clear i a)|(go_at_call 153;(with_reducible refine(h.o _).mono ?_);rintro e l ⟨rfl,b⟩;replace d:=ki (bt d.o b);clear b))
 go_ret;exact⟨rfl,d.o⟩
theorem Q9(T P F N:Nat)(p now:Int)(b:List Int)(w:World)(ht:eH T P F N w)(He:T≠F)(Hf:F<w.heap.size)(hn:tc now=true)(hl:(p8 (.map (some N)) (.int .i64 p) true).run prog w=.ok (.tuple #[.agg (ak b),.bool true]) w)(hf:∀W,Below w.heap.size w W->(jy (.map (some F)) (.agg (ak b)) false).run prog W=.ok (.agg (ay b)) W)(hu:∀W,Below w.heap.size w W->∃W',(qV (.map (some F)) (.agg (ak b)) (.agg (ay (bg b now)))).run prog W=.ok () W'∧Only F W W')(Q:World->Prop)(hQ:∀W W',Below w.heap.size w W->(qV (.map (some F)) (.agg (ak b)) (.agg (ay (bg b now)))).run prog W=.ok () W'->Q W'): Calls prog 103 #[.pointer (some ⟨T,0,none⟩),.int .i64 p,.int .i64 now] w fun r w'=>(now<el b 22∧r=.returned (err 9)∧Below w.heap.size w w')∨(¬now<el b 22∧r=.returned .nilIface∧Q w'):=by
 have J:=ki (qh w);have K:=ki (fun W=>sW now W);rw[hn] at K;have c2:=ht.c2;have z:=ki (fun W (hb:Below w.heap.size w W)=>show eH T P F N W from(hb.block T ht.lt).trans ht);have O:=ki hf;have E:=ki hu;have R:=ki hQ;have A:=ki (And.intro He Hf);unfold oK at J;clear ht hn hf hu hQ He Hf;go_enter func103,ntmps103;go_upto_region 6 with(first|(refine qm rfl (.tmp 7) (.tmp 17) rfl rfl J.o b rfl ?_;intro B q h;have g:=ki (bq _ h);have d:=ki q;clear q h)|(go_at_call 153;(with_reducible refine(K.o _).mono ?_);rintro e Z ⟨rfl,s⟩;replace g:=ki (bt g.o s);replace d:=ki (d.o.kept s);clear s))
 generalize B.heap.size=e5;clear c2 hl J K B;rename World=>w1
 have t:=ki (show Below w.heap.size w w1.drew from g.o.drew);have a:=ki (show Below w.heap.size w (w1.alloc (.cells aV 95)).drew from(bt g.o (au w1 _)).drew);have f:=ki (show bn w.heap.size b (w1.alloc (.cells aV 95)).drew from d.o.kept (au w1 _).drew);obtain⟨B,l,q,h⟩:=(BA w1).held b;have v:=ki (h.below a.o g.o.size);have G:=ki q;have i:=ki (show ∀W',Below w.heap.size w W'->bn w.heap.size b W'->W'.cell? ⟨T,1,none⟩=some (.map (some F))∧(bO (.pointer (some ⟨w.heap.size,0,none⟩))).run prog W'=.ok (.agg (ak b)) W'∧(jy (.map (some F)) (.agg (ak b)) false).run prog W'=.ok (.agg (ay b)) W' from fun W' h1 h2=>⟨(z.o W' h1).c1,h2.fl,O.o W' h1⟩);have x:=ki (show bn w.heap.size b B from(h.2.2.2.2 _ (by have:=d.o.lt;omega)).trans f.o);have k:=ki (show w.heap.size<w1.heap.size from d.o.lt);unfold aV at a f l;clear h q O;obtain⟨c1,S,X⟩:=i.o _ t.o d.o;go_cut [9] from 9 to 33 (fun u wx=>∃D,u=.pointer (some ⟨D,0,none⟩)∧Hid (w.heap.size<D)∧Hid (Below w.heap.size w wx)∧Hid (bn w.heap.size b wx)∧Hid (aJ D b wx))
 case first =>
  go_region_held3 (fun W'=>W'.cell? ⟨T,1,none⟩=some (.map (some F))∧(bO (.pointer (some ⟨w.heap.size,0,none⟩))).run prog W'=.ok (.agg (ak b)) W'∧(jy (.map (some F)) (.agg (ak b)) false).run prog W'=.ok (.agg (ay b)) W')
   (first
    | exact i.o _ t.o d.o
    | exact i.o _ a.o f.o
    | exact i.o _ v.o x.o
    | go_keep)
   (fail)
  all_goals
   go_wp2_with fail
   go_meet
   exact⟨_,rfl,k,v,x,G⟩
 case rest =>
  clear t a f l v G x i c1 S X k g d;obtain⟨D,rfl,k,g,d,C⟩:=hcut;have kP:=C.o.cell 22 (by omega);have fz:wc.frozen? ⟨D,22,none⟩=false:=by have:=C.o;unfold aJ at this;simp[World.frozen?,this]
  obtain⟨y,hy⟩:∃y,el b 22=y:=⟨_,rfl⟩;rw[hy] at kP;have U:=ki hy;clear hy;by_cases hlt:now<y
  ·go_wp2;go_ret;exact .inl ⟨by rw[U.o];exact hlt,rfl,g.o⟩
  ·go_upto_region 10 with fail
   obtain⟨L,n⟩:=C.o.yx now;generalize wc.setCell _ _=wt at L n⊢;have a:=ki (show Below w.heap.size w wt.drew from(n.below g.o (Nat.le_of_lt k.o)).drew);have f:=ki (show bn w.heap.size b wt.drew from(n.2.2.2.2 _ (by have:=k.o;omega)).trans d.o);have H:=ki (show aJ D (bg b now) wt.drew from L);obtain⟨Y,l,o⟩:=E.o wt.drew a.o;have M:=ki (R.o _ _ a.o l);have i:=ki (show ∀W',eH T P F N W'->bn w.heap.size b W'->aJ D (bg b now) W'->W'.cell? ⟨T,1,none⟩=some (.map (some F))∧(bO (.pointer (some ⟨w.heap.size,0,none⟩))).run prog W'=.ok (.agg (ak b)) W'∧(iN (.pointer (some ⟨D,0,none⟩))).run prog W'=.ok (.agg (ay (bg b now))) W' from fun W' h1 h2 h3=>⟨h1.c1,h2.fl,h3.bl⟩);have I:=ki (i.o _ (z.o _ a.o) f.o H.o);have V:=ki (i.o Y ((o.2.2.2.2 T A.o.1).trans (z.o _ a.o)) ((o.2.2.2.2 _ (by have:=A.o.2;omega)).trans f.o) ((o.2.2.2.2 D (by have:=A.o.2;have:=k.o;omega)).trans H.o));obtain⟨c1,S,g3⟩:=I.o;clear L n o kP fz g d C i E R z A k;go_region_held3 (fun W'=>W'.cell? ⟨T,1,none⟩=some (.map (some F))∧(bO (.pointer (some ⟨w.heap.size,0,none⟩))).run prog W'=.ok (.agg (ak b)) W'∧(iN (.pointer (some ⟨D,0,none⟩))).run prog W'=.ok (.agg (ay (bg b now))) W')
    (first
     | exact I.o
     | exact V.o
     | go_keep)
    (fail)
   all_goals
    go_wp2_with fail
    go_ret;exact .inr ⟨by rw[U.o];exact hlt,rfl,M.o⟩
theorem Ra:Gp iX:=by
 rintro v m ws ts bs O w p now e D E hl hb t y;have d:=t;obtain⟨T,P,f,F,N,z,rfl,h,A,rfl⟩:=t;have i:=h.2.2.2.1;have l:=fun W (hW:Below w.heap.size w W)=>h.2.2.1.same (hW.block F h.2.2.1.lt)
 rcases y with⟨h1,rfl,rfl⟩|⟨k,h1,h2,rfl,rfl⟩|⟨k,h1,h2,h3,rfl,hbs⟩|⟨k,h1,h2,h3,rfl,hbs⟩
 ·exact(Q7 T P F N p now w h.1 (i.pno h1)).mono fun _ _ ⟨e1,e2⟩=>⟨e1,gH.of fZ d e2⟩
 ·exact(Q8 T P F N p now _ w h.1 h2 (i.yw h1)).mono fun _ _ ⟨e1,e2⟩=>⟨e1,gH.of fZ d e2⟩
 all_goals
  obtain⟨n,B,G⟩:=Bw h1;have a:=h.ne;have hc:=Q9 T P F N p now (bs.getD k []) w h.1 a.1.2.2.1 h.2.2.1.lt h2 (i.yw h1) (fun W hW=>(l W hW).G6 B) (fun W hW=>by obtain⟨W',o,_,b⟩:=(l W hW).used n now;exact⟨W',o,b⟩) (fun W'=>gH iX (.pointer (some ⟨T,0,none⟩)) m ws ts (bs.set k (bg (bs.getD k []) now)) (fun g=>g=T∨g=P∨g=f∨g=F∨g=N) w W') (fun W W' hW hr=>by
   obtain⟨x,o,C,b⟩:=(l W hW).used n now;have:W'=x:=by rw[o] at hr;injection hr with _ hr;exact hr.symm
   subst this;have hc:=h.kept hW;refine⟨_,⟨T,P,f,F,N,z,rfl,⟨(b.2.2.2.2 T a.1.2.2.1).trans hc.1,⟨(b.2.2.2.2 P a.2.1.2.1).trans hc.2.1.1,hc.2.1.2.same (b.2.2.2.2 f a.2.2.1)⟩,C,(hc.2.2.2.1.same (b.2.2.2.2 N (fun e=>a.2.2.2.2 e.symm))).Q6 n now,a.2.2.2.2⟩,A,rfl⟩,(Fr.of hW).trans (b.fr (.inr (.inr (.inr (.inl rfl))))),fun _ e=>.inl e⟩)
  refine hc.mono ?_;rintro r H (⟨q,rfl,s⟩|⟨q,rfl,s⟩)
  ·first
    | exact⟨rfl,by rw[hbs];exact gH.of fZ d s⟩
    | exact absurd q h3
  ·first
    | exact⟨rfl,by rw[hbs];exact s⟩
    | exact absurd h3 q
end
section
variable {f:List Int}{BB F N P T:Nat}{aC:Nat->List Int}{W W' w:World}
def TO(T P BB F N:Nat):Nat->Prop:=fun g=>g=T∨g=P∨g=BB∨g=F∨g=N
def gK(w:World)(T P BB F N m:Nat)(aC:Nat->List Int)(ts:Nat->Bool)(bs:List (List Int))(f:List Int)(W:World):Prop:=TC T P BB F N m aC ts bs W∧bn w.heap.size f W∧aJ (w.heap.size+1) [] W∧Fr (TO T P BB F N) w W∧∀g,TO T P BB F N g->g<w.heap.size
theorem gK.kept{m:Nat}{ts:Nat->Bool}{bs:List (List Int)}(h:gK w T P BB F N m aC ts bs f W)(hb:Below W.heap.size W W'):gK w T P BB F N m aC ts bs f W' :=
 ⟨h.1.kept hb,h.2.1.kept hb,h.2.2.1.kept hb,h.2.2.2.1.trans (Fr.of hb),h.2.2.2.2⟩
theorem Rb{m:Nat}{ts:Nat->Bool}{bs:List (List Int)}(f:List Int)(h:TC T P BB F N m aC ts bs w):gK w T P BB F N m aC ts bs f ((w.alloc (.cells (ak f) 89)).alloc (.cells aV 95)):=by have b:=au w (.cells (ak f) 89);have a:=au (w.alloc (.cells (ak f) 89)) (.cells aV 95);have d:=fu (w.alloc (.cells (ak f) 89));rw[World.size_alloc] at d;exact⟨(h.kept b).kept a,(iC f w).kept a,d,Fr.of (bt b a),fun g hg=>h.lt g hg⟩
theorem gK.only{m:Nat}{ts:Nat->Bool}{bs:List (List Int)}(h:gK w T P BB F N m aC ts bs f W){D:Nat}(on:Only D W W')(hD:w.heap.size+1<D):gK w T P BB F N m aC ts bs f W':=by obtain⟨d,e,i,a,b⟩:=h;refine⟨d.same fun g hg=>on.2.2.2.2 g (by have:=b g hg;omega),(on.2.2.2.2 _ (by omega)).trans e,(on.2.2.2.2 _ (by omega)).trans i,?_,b⟩;exact⟨on.1.trans a.1,on.2.1.trans a.2.1,on.2.2.1.trans a.2.2.1,by rw[on.2.2.2.1];exact a.2.2.2.1,fun g hg hn=>(on.2.2.2.2 g (by omega)).trans (a.2.2.2.2 g hg hn)⟩
theorem gK.answer{m:Nat}{ts:Nat->Bool}{bs:List (List Int)}(h:gK w T P BB F N m aC ts bs f W)(on:Only (w.heap.size+1) W W'):TC T P BB F N m aC ts bs W'∧Fr (TO T P BB F N) w W':=by obtain⟨b,e,i,a,d⟩:=h;refine⟨b.same fun g hg=>on.2.2.2.2 g (by have:=d g hg;omega),?_⟩;exact⟨on.1.trans a.1,on.2.1.trans a.2.1,on.2.2.1.trans a.2.2.1,by rw[on.2.2.2.1];exact a.2.2.2.1,fun g hg hn=>(on.2.2.2.2 g (by omega)).trans (a.2.2.2.2 g hg hn)⟩
theorem Hg(w:World):(Bc #[]).run prog w=.ok (.agg (ay [])) w:=by kernel_rfl
attribute [local go_sem ↓] gP gV gy yu oJ G9 Q5
theorem Rc(v:Value)(f:List Int)(back far now:Int)(w:World)(hf:aW f=false): Calls prog 145 #[v,.agg (ak f),.int .i64 back,.int .i64 far,.int .i64 now] w fun r w'=>r=.returned (.tuple #[.agg (ay []),err 1])∧Below w.heap.size w w':=by
 have h:=ki (fun W=>om f W);rw[hf,show ev (fe false)=err 1 from rfl] at h;unfold err at h;have a:=ki (bt (au w (.cells (ak f) 89)) (au _ (.cells aV 95)));have i:=ki (show bn w.heap.size f ((w.alloc (.cells (ak f) 89)).alloc (.cells aV 95)) from(iC f w).kept (au _ _));have b:=ki (show aJ (w.heap.size+1) [] ((w.alloc (.cells (ak f) 89)).alloc (.cells aV 95)) by have:=fu (w.alloc (.cells (ak f) 89));rw[World.size_alloc] at this;exact this);unfold aV at a i b;clear hf;go_enter func145,ntmps145;go_upto_region 1 with fail
 generalize (w.alloc _).alloc _=W at a i b⊢;have n:=i.o.fl;go_wp2_with (first|(go_at_call 199;(with_reducible refine(h.o _).mono ?_);rintro e o ⟨rfl,d⟩;replace a:=ki (bt a.o d);replace b:=ki (b.o.kept d);clear d n)|(refine fF rfl (.tmp 10) (.tmp 23) rfl rfl b.o [] rfl ?_;intro p k g;have l:=ki (g.below a.o (Nat.le_succ _));replace k:=ki k;clear g))
 try simp only[Exit.inBlock,Exit.then]
 refine bodyPost_ret (iW rfl _ _ (w.heap.size+1) [] rfl k.o) rfl ?_;exact⟨rfl,l.o⟩
theorem Rf(v:Value)(f:List Int)(back far now:Int)(w:World)(hf:aW f=true)(hr:(fr back && wd far && tc now)=false): Calls prog 145 #[v,.agg (ak f),.int .i64 back,.int .i64 far,.int .i64 now] w fun r w'=>r=.returned (.tuple #[.agg (ay []),err 1])∧Below w.heap.size w w':=by
 have p:=ki (fun W=>om f W);rw[hf,show ev (fe true)=.nilIface from rfl] at p;have a:=ki (bt (au w (.cells (ak f) 89)) (au _ (.cells aV 95)));have o:=ki (show bn w.heap.size f ((w.alloc (.cells (ak f) 89)).alloc (.cells aV 95)) from(iC f w).kept (au _ _));have b:=ki (show aJ (w.heap.size+1) [] ((w.alloc (.cells (ak f) 89)).alloc (.cells aV 95)) by have:=fu (w.alloc (.cells (ak f) 89));rw[World.size_alloc] at this;exact this);have h:=ki (fun W=>xu back W);have q:=ki (fun W=>GU far W);have s:=ki (fun W=>sW now W);generalize fr back=b1 at h hr;generalize wd far=b2 at q hr;generalize tc now=b3 at s hr;have hc:b1=false∨(b1=true∧b2=false)∨(b1=true∧b2=true∧b3=false):=by cases b1<;>cases b2<;>cases b3<;>simp_all
 unfold aV at a o b;clear hf hr;go_enter func145,ntmps145;go_upto_region 1 with fail
 generalize (w.alloc _).alloc _=W at a o b⊢;have t:=o.o.fl;go_upto_region 4 with(go_at_call 199;(with_reducible refine(p.o _).mono ?_);rintro e y ⟨rfl,i⟩;replace a:=ki (bt a.o i);replace b:=ki (b.o.kept i);clear i t)
 rcases hc with rfl|⟨rfl,rfl⟩|⟨rfl,rfl,rfl⟩
 ·rw[show ev (fe false)=err 1 from rfl] at h;unfold err at h;go_wp2_with (first|(go_at_call 73;(with_reducible refine(h.o _).mono ?_);rintro e w' ⟨rfl,rfl⟩)|(refine fF rfl (.tmp 10) (.tmp 29) rfl rfl b.o [] rfl ?_;intro x g d;have k:=ki (d.below a.o (Nat.le_succ _));replace g:=ki g;clear d))
  try simp only[Exit.inBlock,Exit.then]
  refine bodyPost_ret (iW rfl _ _ (w.heap.size+1) [] rfl g.o) rfl ?_;exact⟨rfl,k.o⟩
 all_goals
  rw[show ev (fe true)=.nilIface from rfl] at h;go_wp2_with (first|(go_at_call 73;(with_reducible refine(h.o _).mono ?_);rintro e w' ⟨rfl,rfl⟩)|(go_at_call 153;(with_reducible refine(q.o _).mono ?_);rintro e z ⟨rfl,l⟩;replace a:=ki (bt a.o l);replace b:=ki (b.o.kept l);clear l)|(go_at_call 153;(with_reducible refine(s.o _).mono ?_);rintro e A ⟨rfl,n⟩;replace a:=ki (bt a.o n);replace b:=ki (b.o.kept n);clear n)|(refine fF rfl (.tmp 10) (.tmp 41) rfl rfl b.o [] rfl ?_;intro x g d;have k:=ki (d.below a.o (Nat.le_succ _));replace g:=ki g;clear d))
  try simp only[Exit.inBlock,Exit.then]
  refine bodyPost_ret (iW rfl _ _ (w.heap.size+1) [] rfl g.o) rfl ?_;exact⟨rfl,k.o⟩
attribute [local go_sem ↓] F9
theorem BF(T P BB F N m:Nat)(aC:Nat->List Int)(ts:Nat->Bool)(bs:List (List Int))(f:List Int)(back far now:Int)(x:List Int)(ok:Bool)(w:World)(h:TC T P BB F N m aC ts bs w)(hf:aW f=true)(hr:(fr back && wd far && tc now)=true)(hl:∀W,gK w T P BB F N m aC ts bs f W->(jy (.map (some F)) (.agg (ak f)) true).run prog W=.ok (.tuple #[.agg (ay x),.bool ok]) W)(n:Int)(qW:Bool)(kQ:Nat->List Int)(ts':Nat->Bool)(htk:ok=false->∀W,gK w T P BB F N m aC ts bs f W->Calls prog 200 #[.pointer (some ⟨P,0,none⟩),.agg (av (cli f))] W fun e w'=>e=.returned (.tuple #[.int .i64 n,if qW=true then .iface 28 (.int .i64 3) else .nilIface])∧gK w T P BB F N m kQ ts' bs f w')(hup:ok=false->qW=false->∀W,gK w T P BB F N m kQ ts' bs f W->∃W1 W2,(qV (.map (some F)) (.agg (ak f)) (.agg (ay (bL f n back far now)))).run prog W=.ok () W1∧Only F W W1∧(yA (.map (some N)) (.int .i64 n) (.agg (ak f))).run prog W1.drew=.ok () W2∧Only N W1.drew W2)(Q:World->Prop)(hQ:ok=false->qW=false->∀W W1 W2 W3,gK w T P BB F N m kQ ts' bs f W->(qV (.map (some F)) (.agg (ak f)) (.agg (ay (bL f n back far now)))).run prog W=.ok () W1->Only F W W1->(yA (.map (some N)) (.int .i64 n) (.agg (ak f))).run prog W1.drew=.ok () W2->Only N W1.drew W2->Only (w.heap.size+1) W2 W3->Q W3): Calls prog 145 #[.pointer (some ⟨T,0,none⟩),.agg (ak f),.int .i64 back,.int .i64 far,.int .i64 now] w fun r w' => (ok=true∧r=.returned (.tuple #[.agg (ay []),err 8])∧TC T P BB F N m aC ts bs w'∧Fr (TO T P BB F N) w w') ∨ (ok=false∧qW=true∧r=.returned (.tuple #[.agg (ay []),err 3])∧TC T P BB F N m kQ ts' bs w'∧Fr (TO T P BB F N) w w') ∨ (ok=false∧qW=false∧r=.returned (.tuple #[.agg (ay (bL f n back far now)),.nilIface])∧Q w'):=by
 have HC:=ki (fun W=>om f W);rw[hf,show ev (fe true)=.nilIface from rfl] at HC;rw[Bool.and_eq_true,Bool.and_eq_true] at hr;have H1:=ki (fun W=>xu back W);have H2:=ki (fun W=>GU far W);have H3:=ki (fun W=>sW now W);rw[hr.1.1,show ev (fe true)=.nilIface from rfl] at H1;rw[hr.1.2] at H2;rw[hr.2] at H3;have a:=ki (Rb f h);have HL:=ki hl;have q:=ki htk;have A:=ki hup;have R:=ki hQ;unfold aV at a;clear hf hr h hl htk hup hQ;go_enter func145,ntmps145;go_upto_region 1 with fail
 generalize (w.alloc _).alloc _=W at a⊢;have E:=a.o.2.1.fl;go_upto_region 9 with(first|(go_at_call 199;(with_reducible refine(HC.o _).mono ?_);rintro e w1 ⟨rfl,U⟩;replace a:=ki (a.o.kept U);clear U E)|(go_at_call 73;(with_reducible refine(H1.o _).mono ?_);rintro e w' ⟨rfl,rfl⟩)|(go_at_call 153;(with_reducible refine(H2.o _).mono ?_);rintro e w2 ⟨rfl,V⟩;replace a:=ki (a.o.kept V);clear V)|(go_at_call 153;(with_reducible refine(H3.o _).mono ?_);rintro e w3 ⟨rfl,X⟩;replace a:=ki (a.o.kept X);clear X))
 clear HC H1 H2 H3;rename World=>wq
 have b:=ki (a.o.kept (show Below wq.heap.size wq wq.drew from(Below.refl _ _).drew));have B:=ki (a.o.kept (show Below wq.heap.size wq (wq.alloc (.cells aV 95)).drew from(au wq _).drew));obtain⟨w5,Y,p5,Z⟩:=(BA wq).held x;have G:=ki (B.o.only Z (by have:=a.o.2.2.1.lt;omega));have k:=ki (show ∀W',gK w T P BB F N m aC ts bs f W'->W'.cell? ⟨T,1,none⟩=some (.map (some F))∧(bO (.pointer (some ⟨w.heap.size,0,none⟩))).run prog W'=.ok (.agg (ak f)) W'∧(jy (.map (some F)) (.agg (ak f)) true).run prog W'=.ok (.tuple #[.agg (ay x),.bool ok]) W' from fun W' h1=>⟨h1.1.1.c1,h1.2.1.fl,HL.o W' h1⟩);unfold aV at B Y;clear Z p5 HL;obtain⟨c1,C,k2⟩:=k.o _ b.o;go_cut [14,15] from 14 to 51 (fun u v wx=>(∃D,u=.pointer (some ⟨D,0,none⟩))∧v=.bool ok∧Hid (gK w T P BB F N m aC ts bs f wx))
 case first =>
  go_region_held3 (fun W'=>W'.cell? ⟨T,1,none⟩=some (.map (some F))∧(bO (.pointer (some ⟨w.heap.size,0,none⟩))).run prog W'=.ok (.agg (ak f)) W'∧(jy (.map (some F)) (.agg (ak f)) true).run prog W'=.ok (.tuple #[.agg (ay x),.bool ok]) W')
   (first
    | exact k.o _ b.o
    | exact k.o _ B.o
    | exact k.o _ G.o
    | go_keep)
   (fail)
  all_goals
   go_wp2_with fail
   go_meet
   exact⟨⟨_,rfl⟩,rfl,G⟩
 case rest =>
  clear b B Y G k c1 C k2 a;obtain⟨⟨D0,rfl⟩,rfl,a⟩:=hcut;cases ok
  ·cases qW
   ·have H:=ki (show ∀W,gK w T P BB F N m aC ts bs f W->Calls prog 200 #[.pointer (some ⟨P,0,none⟩),.agg (av (cli f))] W fun e w'=>e=.returned (.tuple #[.int .i64 n,.nilIface])∧gK w T P BB F N m kQ ts' bs f w' from fun W hW=>q.o rfl W hW);have HU:=ki (A.o rfl rfl);have HE:=ki (R.o rfl rfl);clear q A R;go_upto_region 12 with fail
    replace a:=ki (a.o.kept (show Below wc.heap.size wc wc.drew from(Below.refl _ _).drew));have y:=a.o.1.1.c0;have z:=a.o.2.1.hc;go_region_held3 (fun w'=>w'.cell? ⟨T,0,none⟩=some (.pointer (some ⟨P,0,none⟩))∧(hload (.pointer (some ⟨w.heap.size,1,none⟩))).run prog w'=.ok (.agg (av (cli f))) w')
     (first
      | exact⟨a.o.1.1.c0,a.o.2.1.hc⟩
      | exact⟨d.o.1.1.c0,d.o.2.1.hc⟩
      | go_keep)
     (first|(go_at_call 200;refine(H.o _ a.o).mono ?_;rintro e I ⟨rfl,s⟩;have d:=ki s;clear s y z;have y:=d.o.1.1.c0;have z:=d.o.2.1.hc))
    clear y z H a;have g6:=d.o.2.1.fl;have dR:=Ga f n back far now;have HS:=ki (fu I);unfold aV at HS;go_upto_region 16 with(refine fF rfl (.tmp 18) (.tmp 74) rfl rfl HS.o (bL f n back far now) rfl ?_;intro S p7 aa;have J:=ki p7;have ab:=ki ((d.o.kept (au I _)).only aa (by have:=d.o.2.2.1.lt;omega));clear p7 aa)
    have HD:=ki (show w.heap.size+1<I.heap.size from d.o.2.2.1.lt);generalize I.heap.size=D at J HD⊢;clear g6 dR HS d;go_frame
    have b:=ki (ab.o.kept (show Below S.heap.size S S.drew from(Below.refl _ _).drew));have K:=ki (show aJ D (bL f n back far now) S.drew from J.o);obtain⟨W1,W2,ac,l,ad,o⟩:=HU.o _ b.o;have HG:=ki (show T≠F∧T≠N∧F<w.heap.size∧N<w.heap.size from⟨b.o.1.ne.1.2.2.1,b.o.1.ne.1.2.2.2,b.o.2.2.2.2 F (.inr (.inr (.inr (.inl rfl)))),b.o.2.2.2.2 N (.inr (.inr (.inr (.inr rfl))))⟩);have p:=ki (show eH T P F N W1.drew∧bn w.heap.size f W1.drew∧aJ (w.heap.size+1) [] W1.drew∧aJ D (bL f n back far now) W1.drew by obtain⟨e1,e2,e3,e4⟩:=HG.o;have:=HD.o;exact⟨(l.2.2.2.2 T e1).trans b.o.1.1,(l.2.2.2.2 _ (by omega)).trans b.o.2.1,(l.2.2.2.2 _ (by omega)).trans b.o.2.2.1,(l.2.2.2.2 _ (by omega)).trans K.o⟩);have ae:=ki (show eH T P F N W2∧bn w.heap.size f W2∧aJ (w.heap.size+1) [] W2∧aJ D (bL f n back far now) W2 by obtain⟨e1,e2,e3,e4⟩:=HG.o;have:=HD.o;exact⟨(o.2.2.2.2 T e2).trans p.o.1,(o.2.2.2.2 _ (by omega)).trans p.o.2.1,(o.2.2.2.2 _ (by omega)).trans p.o.2.2.1,(o.2.2.2.2 _ (by omega)).trans p.o.2.2.2⟩);have az:=ki (fun W3 (Rh:Only (w.heap.size+1) W2 W3)=>HE.o _ _ _ W3 b.o ac l ad o Rh);have k:=ki (show ∀W',eH T P F N W'∧bn w.heap.size f W'∧aJ (w.heap.size+1) [] W'∧aJ D (bL f n back far now) W'->W'.cell? ⟨T,1,none⟩=some (.map (some F))∧W'.cell? ⟨T,2,none⟩=some (.map (some N))∧(bO (.pointer (some ⟨w.heap.size,0,none⟩))).run prog W'=.ok (.agg (ak f)) W'∧(iN (.pointer (some ⟨D,0,none⟩))).run prog W'=.ok (.agg (ay (bL f n back far now))) W' from fun W' h1=>⟨h1.1.c1,h1.1.c2,h1.2.1.fl,h1.2.2.2.bl⟩);have L:=ki (k.o _ ⟨b.o.1.1,b.o.2.1,b.o.2.2.1,K.o⟩);have M:=ki (show W1.cell? ⟨T,1,none⟩=some (.map (some F))∧W1.cell? ⟨T,2,none⟩=some (.map (some N))∧(bO (.pointer (some ⟨w.heap.size,0,none⟩))).run prog W1=.ok (.agg (ak f)) W1∧(iN (.pointer (some ⟨D,0,none⟩))).run prog W1=.ok (.agg (ay (bL f n back far now))) W1 from k.o _ p.o);obtain⟨c1,c2,E,C⟩:=L.o;clear HE HU ab J l o HG b K;go_region_held3 (fun W'=>W'.cell? ⟨T,1,none⟩=some (.map (some F))∧W'.cell? ⟨T,2,none⟩=some (.map (some N))∧(bO (.pointer (some ⟨w.heap.size,0,none⟩))).run prog W'=.ok (.agg (ak f)) W'∧(iN (.pointer (some ⟨D,0,none⟩))).run prog W'=.ok (.agg (ay (bL f n back far now))) W')
     (first
      | exact L.o
      | exact M.o
      | go_keep)
     (fail)
    all_goals
     go_upto_region 17 with fail
     clear c1 c2 E C L M ac;have O:=ki (k.o _ p.o);have af:=ki (k.o _ ae.o);obtain⟨c1,c2,E,C⟩:=O.o;go_region_held3 (fun W'=>W'.cell? ⟨T,1,none⟩=some (.map (some F))∧W'.cell? ⟨T,2,none⟩=some (.map (some N))∧(bO (.pointer (some ⟨w.heap.size,0,none⟩))).run prog W'=.ok (.agg (ak f)) W'∧(iN (.pointer (some ⟨D,0,none⟩))).run prog W'=.ok (.agg (ay (bL f n back far now))) W')
      (first
       | exact O.o
       | exact af.o
       | go_keep)
      (fail)
     all_goals
      clear c1 c2 E C O ad;obtain⟨-,-,-,C⟩:=af.o;go_wp2_with (refine fF rfl (.tmp 10) (.tmp 87) rfl rfl ae.o.2.2.1 (bL f n back far now) rfl ?_;intro w8 i g;have a0:=ki (az.o w8 g);replace i:=ki i;clear g)
      try simp only[Exit.inBlock,Exit.then]
      refine bodyPost_ret (iW rfl _ _ (w.heap.size+1) (bL f n back far now) rfl i.o) rfl ?_;exact⟨rfl,a0.o⟩
   ·have H:=ki (show ∀W,gK w T P BB F N m aC ts bs f W->Calls prog 200 #[.pointer (some ⟨P,0,none⟩),.agg (av (cli f))] W fun e w'=>e=.returned (.tuple #[.int .i64 n,.iface 28 (.int .i64 3)])∧gK w T P BB F N m kQ ts' bs f w' from fun W hW=>q.o rfl W hW);clear q A R;go_upto_region 12 with fail
    replace a:=ki (a.o.kept (show Below wc.heap.size wc wc.drew from(Below.refl _ _).drew));have y:=a.o.1.1.c0;have z:=a.o.2.1.hc;go_region_held3 (fun w'=>w'.cell? ⟨T,0,none⟩=some (.pointer (some ⟨P,0,none⟩))∧(hload (.pointer (some ⟨w.heap.size,1,none⟩))).run prog w'=.ok (.agg (av (cli f))) w')
     (first
      | exact⟨a.o.1.1.c0,a.o.2.1.hc⟩
      | exact⟨d.o.1.1.c0,d.o.2.1.hc⟩
      | go_keep)
     (first|(go_at_call 200;refine(H.o _ a.o).mono ?_;rintro e I ⟨rfl,s⟩;have d:=ki s;clear s y z;have y:=d.o.1.1.c0;have z:=d.o.2.1.hc))
    clear y z H a;have a1:=Hg;go_wp2_with (refine fF rfl (.tmp 10) (.tmp 67) rfl rfl d.o.2.2.1 [] rfl ?_;intro w8 i g;have t:=ki (d.o.answer g);replace i:=ki i;clear g)
    try simp only[Exit.inBlock,Exit.then]
    refine bodyPost_ret (iW rfl _ _ (w.heap.size+1) [] rfl i.o) rfl ?_;exact⟨rfl,t.o.1,t.o.2⟩
  ·clear q A R;have a1:=Hg;go_wp2_with (refine fF rfl (.tmp 10) (.tmp 53) rfl rfl a.o.2.2.1 [] rfl ?_;intro w8 i g;have t:=ki (a.o.answer g);replace i:=ki i;clear g)
   try simp only[Exit.inBlock,Exit.then]
   refine bodyPost_ret (iW rfl _ _ (w.heap.size+1) [] rfl i.o) rfl ?_;exact⟨rfl,t.o.1,t.o.2⟩
end
section
variable {f:List Int}{w:World}
theorem Hl(x:List Int)(bs:List (List Int)):(ins x bs).Perm (x::bs):=by obtain⟨p,_,h,_⟩:=uX x bs;rw[h,List.singleton_append];refine List.perm_middle.trans ?_;rw[List.take_append_drop]
theorem gK.took{T P BB F N m:Nat}{aC kQ:Nat->List Int}{ts ts':Nat->Bool}{bs:List (List Int)}{W W':World}(h:gK w T P BB F N m aC ts bs f W)(hp:eZ P BB m kQ ts' W')(hf:Fr (fun g=>g=BB) W W'):gK w T P BB F N m kQ ts' bs f W':=by
 obtain⟨a,d,i,k,l⟩:=h;have n:=a.ne;have hs:=k.2.2.2.1;have o:=l BB (.inr (.inr (.inl rfl)));have b:∀g,g<W.heap.size->g≠BB->W'.heap[g]? = W.heap[g]?:=fun g h1 h2=>hf.2.2.2.2 g h1 h2
 exact⟨⟨(b T a.1.lt n.1.2.1).trans a.1,hp,a.2.2.1.same (b F a.2.2.1.lt (fun e=>n.2.2.1 e.symm)),a.2.2.2.1.same (b N a.2.2.2.1.lt (fun e=>n.2.2.2.1 e.symm)),a.2.2.2.2⟩,(b _ d.lt (by omega)).trans d,(b _ i.lt (by omega)).trans i,k.trans (hf.mono (fun _ e=>.inr (.inr (.inl e)))),l⟩
theorem aY.Ho{F:Nat}{bs:List (List Int)}(h:aY iE F (bs.map dV) w)(hk:bY bs f=none)(n back far now:Int): ∃w',(qV (.map (some F)) (.agg (ak f)) (.agg (ay (bL f n back far now)))).run prog w=.ok () w'∧aY iE F ((ins (bL f n back far now) bs).map dV) w'∧Only F w w':=by obtain⟨w',b,d,e⟩:=h.Bv qU pY (.agg (ay (bL f n back far now))) ⟨f,rfl⟩ (GV hk);exact⟨w',b,d.perm ((Hl (bL f n back far now) bs).map dV).symm,e⟩
theorem aY.Hq{N:Nat}{bs:List (List Int)}(h:aY iP N (bs.map gJ) w){n:Int}(hk:∀q∈bs.map gJ,q.1≠.int .i64 n)(back far now:Int): ∃w',(yA (.map (some N)) (.int .i64 n) (.agg (ak f))).run prog w=.ok () w'∧aY iP N ((ins (bL f n back far now) bs).map gJ) w'∧Only N w w':=by obtain⟨w',a,b,d⟩:=h.Bv ou yt (.agg (ak f)) ⟨n,rfl⟩ hk;exact⟨w',a,b.perm ((Hl (bL f n back far now) bs).map gJ).symm,d⟩
theorem dJ.unused{m:Nat}{ws:Nat->List Int}{ts:Nat->Bool}{bs:List (List Int)}(h:dJ m ws ts bs){i:Nat}(ht:ts i=false):∀q∈bs.map gJ,q.1≠.int .i64 (1024+(i:Int)):=by
 intro q d e;obtain⟨b,hb,rfl⟩:=List.mem_map.1 d;obtain⟨_,⟨j,_,f,a,_⟩,_⟩:=h.1 b hb;unfold gJ at e;injection e with _ e
 have:j=i:=by omega
 subst this;rw[ht] at a;cases a
theorem Ri:Gn iX:=by
 rintro v m ws ts bs O w f a b now x e Y p t I hl hb J U;have C:=J;obtain⟨T,P,d,F,N,l,rfl,h,y,rfl⟩:=J;have A:∀W,gK w T P d F N m l ts bs f W->aY iE F (bs.map dV) W:=fun W hW=>hW.1.2.2.1
 rcases U with⟨k1,rfl,rfl,rfl,rfl,rfl⟩|⟨k1,k2,rfl,rfl,rfl,rfl,rfl⟩|⟨k1,k2,⟨k,k3⟩,rfl,rfl,rfl,rfl,rfl⟩|⟨k1,k2,k3,k4,rfl,rfl,rfl,rfl,rfl⟩|⟨k1,k2,k3,i,k4,rfl,rfl,rfl,rfl,rfl⟩
 ·exact(Rc _ f a b now w k1).mono fun _ _ ⟨e1,o⟩=>⟨e1,gH.of fZ C o⟩
 ·exact(Rf _ f a b now w k1 k2).mono fun _ _ ⟨e1,o⟩=>⟨e1,gH.of fZ C o⟩
 ·refine(BF T P d F N m l p t f a b now (t.getD k []) true w h k1 k2 (fun W hW=>((A W hW).GY k3).1) 0 true l p (fun e=>by cases e) (fun e=>by cases e) (fun _=>True) (fun e=>by cases e)).mono ?_;rintro r K (⟨_,rfl,h1,h2⟩|⟨e,_⟩|⟨e,_⟩)
  ·exact⟨rfl,_,⟨T,P,d,F,N,l,rfl,h1,y,rfl⟩,h2,fun _ e=>.inl e⟩
  ·cases e
  ·cases e
 ·rcases GK y (cli f) with⟨_,hr⟩|⟨_,_,_,_,_,_,_,hr⟩
  ·refine(BF T P d F N m l p t f a b now [] false w h k1 k2 (fun W hW=>(A W hW).Bz k3) 0 true l p (fun _ W hW=>(Qw P d m l p (cli f) W hW.1.2.1 I (xV k1) hr).mono fun _ _ ⟨e1,o⟩=>⟨e1,hW.kept o⟩) (fun _ e=>by cases e) (fun _=>True) (fun _ e=>by cases e)).mono ?_;rintro r K (⟨e,_⟩|⟨_,_,rfl,h1,h2⟩|⟨_,e,_⟩)
   ·cases e
   ·exact⟨rfl,_,⟨T,P,d,F,N,l,rfl,h1,y,rfl⟩,h2,fun _ e=>.inl e⟩
   ·cases e
  ·rw[k4] at hr;cases hr
 ·rcases GK y (cli f) with⟨hr,_⟩|⟨k,j,hkm,hj,hmn,hr,hx,hr2⟩
  ·rw[k4] at hr;cases hr
  ·rw[k4] at hr2;obtain rfl:i=8*k+j:=Option.some.inj hr2;have s:=hb.unused (x9 k4);refine(BF T P d F N m l ts bs f a b now [] false w h k1 k2 (fun W hW=>(A W hW).Bz k3) (1024+((8*k+j:Nat):Int)) false (upd l k (cli f)) (upd ts (8*k+j) true) (fun _ W hW=>(Qx P d m l ts (cli f) k j W hW.1.2.1 I (xV k1) hr hkm hx hj).mono fun _ _ ⟨e1,o,e3⟩=>⟨e1,hW.took o e3⟩)
    (fun _ _ W hW=>by obtain⟨W1,D,L,B⟩:=hW.1.2.2.1.Ho k3 (1024+((8*k+j:Nat):Int)) a b now;have E:aY iP N (bs.map gJ) W1.drew:=hW.1.2.2.2.1.same (B.2.2.2.2 N (fun e=>hW.1.2.2.2.2 e.symm));obtain⟨W2,G,M,Q⟩:=E.Hq (f:=f) s a b now;exact⟨W1,W2,D,B,G,Q⟩)
    (fun W'=>gH iX (.pointer (some ⟨T,0,none⟩)) m (upd ws (8*k+j) (cli f)) (upd ts (8*k+j) true) (ins (bL f (1024+((8*k+j:Nat):Int)) a b now) bs) (fun g=>g=T∨g=P∨g=d∨g=F∨g=N) w W')
    (fun _ _ W W1 W2 W3 hW r1 o1 r2 o2 o3=>by
     obtain⟨R,D,L,B⟩:=hW.1.2.2.1.Ho k3 (1024+((8*k+j:Nat):Int)) a b now;have e1:W1=R:=by rw[D] at r1;injection r1 with _ r1;exact r1.symm
     subst e1;have E:aY iP N (bs.map gJ) W1.drew:=hW.1.2.2.2.1.same (B.2.2.2.2 N (fun e=>hW.1.2.2.2.2 e.symm));obtain⟨S,G,M,Q⟩:=E.Hq (f:=f) s a b now;have o:W2=S:=by rw[G] at r2;injection r2 with _ r2;exact r2.symm
     subst o;have n:=hW.1.ne;have V:=hW.2.2.2.2;have z:∀g,TO T P d F N g->W3.heap[g]? = W2.heap[g]?:=fun g hg=>o3.2.2.2.2 g (by have:=V g hg;omega)
     have H:∀g,g≠F->g≠N->W2.heap[g]? = W.heap[g]?:=fun g h1 h2=>(o2.2.2.2.2 g h2).trans (o1.2.2.2.2 g h1)
     refine⟨_,⟨T,P,d,F,N,_,rfl,⟨?_,⟨?_,?_⟩,?_,?_,n.2.2.2.2⟩,y.take (cli f) k j hj hmn,rfl⟩,?_,fun _ e=>.inl e⟩
     ·exact((z T (.inl rfl)).trans (H T n.1.2.2.1 n.1.2.2.2)).trans hW.1.1
     ·exact((z P (.inr (.inl rfl))).trans (H P n.2.1.2.1 n.2.1.2.2)).trans hW.1.2.1.1
     ·exact hW.1.2.1.2.same ((z d (.inr (.inr (.inl rfl)))).trans (H d n.2.2.1 n.2.2.2.1))
     ·exact(L.same (o2.2.2.2.2 F n.2.2.2.2)).same (z F (.inr (.inr (.inr (.inl rfl)))))
     ·exact M.same (z N (.inr (.inr (.inr (.inr rfl)))))
     ·have f1:Fr (TO T P d F N) W W1:=o1.fr (.inr (.inr (.inr (.inl rfl))));have X:Fr (TO T P d F N) W1 W2:=Only.fr (w:=W1.drew) o2 (.inr (.inr (.inr (.inr rfl))));have q:=(hW.2.2.2.1.trans f1).trans X;exact⟨o3.1.trans q.1,o3.2.1.trans q.2.1,o3.2.2.1.trans q.2.2.1,by rw[o3.2.2.2.1];exact q.2.2.2.1,fun g hg hn=>(o3.2.2.2.2 g (by omega)).trans (q.2.2.2.2 g hg hn)⟩)).mono ?_
   rintro r K (⟨e,_⟩|⟨_,e,_⟩|⟨_,_,rfl,h1⟩)
   ·cases e
   ·cases e
   ·exact⟨rfl,h1⟩
end
end Go.Proofs.YtgcojnlngchllaaGreatDoor
