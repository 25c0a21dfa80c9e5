import Derived.Test.YtgcojnlngchllaaGreatDoorJ38
namespace Go.Proofs.YtgcojnlngchllaaGreatDoor
open Go.RowKit Tryz
set_option linter.unusedVariables false
set_option maxRecDepth 100000
set_option maxHeartbeats 40000000
section
variable {g:GS}{β:Int->Nat}{G cap:Nat}{ah:Nat->Prop}{a:Option Addr}{tv v:Value}{w:World}
theorem aY.Vr{S:Value->Prop}{b:Nat}{l:List (Value×Value)}{t k el:TypeId}(K:pX k S)(ht:prog.underlying t=some (.map k el))(h:aY S b l w){x:Value}(hx:S x)(hm:∀p∈l,p.1≠x)(ty:TypeId): ∃w',(Builtin.delete_ #[t,k] ty #[.map (some b),x]).run prog w=.ok (.tuple #[]) w'∧aY S b l w'∧Only b w w':=by
 obtain⟨es,a,hb,hs,hp,d⟩:=h;rcases K.2.1 w x hx es.toList d with⟨h1,h2⟩|⟨j,e1,h1,h2,h3⟩
 ·refine⟨ChangeMaps.setBlock w b (.map es a),?_,⟨es,a,ChangeMaps.heap_setBlock_same hb _,hs,hp,d⟩,yh hb _⟩;simp[Builtin.delete_,run_underlying ht,MapKept.run_getObj_map hb,K.1 _ x w hx,h1,MapKept.run_setObj_map _ hb,Result.andThen,ChangeMaps.setBlock]
 ·exact absurd h3 (hm (en e1) (hp.mem_iff.1 (List.mem_map.2 ⟨e1,List.mem_of_getElem? h2,rfl⟩)))
theorem aY.nodup{S:Value->Prop}{b:Nat}{l:List (Value×Value)}(h:aY S b l w):(l.map Prod.fst).Nodup:=by obtain⟨es,a,hb,hs,hp,e⟩:=h;have d:=((MapKept.stamped_iff es a).1 hs).2.2;refine(hp.map Prod.fst).nodup_iff.1 ?_;rw[List.map_map];exact List.pairwise_map.2 d
def iR(p:Int)(ss:List (Int×List Int×Int×Bool×Bool)):List (Int×List Int×Int×Bool×Bool):=ss.filter fun x=>!decide (x.1=p)
theorem tN{p:Int}{ss:List (Int×List Int×Int×Bool×Bool)}{x:Int×List Int×Int×Bool×Bool}:x∈iR p ss↔x∈ss∧x.1≠p:=by unfold iR;rw[List.mem_filter];simp
theorem Vs{p:Int}{ss:List (Int×List Int×Int×Bool×Bool)}(h:∀x∈ss,x.1≠p):iR p ss=ss:=List.filter_eq_self.2 fun x hx=>by simp[h x hx]
theorem Jw(p:Int):∀ss:List (Int×List Int×Int×Bool×Bool),(ss.map (fun x=>x.1)).Nodup->∀x∈ss,x.1=p->ss.Perm (x::iR p ss)
 | [],_,_,h,_=>by simp at h
 | y::r,hn,x,h,e=>by
  rw[List.map_cons,List.nodup_cons] at hn;rcases List.mem_cons.1 h with rfl|h
  ·have:iR p (x::r)=r:=by
    unfold iR;rw[List.filter_cons_of_neg (by simp[e]),List.filter_eq_self];intro z b;have:z.1≠p:=fun e1=>hn.1 (List.mem_map.2 ⟨z,b,e1.trans e.symm⟩)
    simpa using this
   rw[this]
  ·have a:y.1≠p:=fun e1=>hn.1 (List.mem_map.2 ⟨x,h,e.trans e1.symm⟩)
   have:iR p (y::r)=y::iR p r:=by unfold iR;rw[List.filter_cons_of_pos (by simpa using a)]
   rw[this];exact((Jw p r hn.2 x h e).cons y).trans (List.Perm.swap x y _)
theorem je.nodup{S:Nat}{ss:List (Int×List Int×Int×Bool×Bool)}(h:je S β ss w):(ss.map (fun x=>x.1)).Nodup:=by
 have a:=h.1.nodup;rw[List.map_map] at a;rw[List.Nodup,List.pairwise_map] at a⊢;refine a.imp fun {x y} hne e=>hne ?_
 show Value.int .i64 x.1=Value.int .i64 y.1;rw[e]
def yT(ty:TypeId)(m k:Value):Sem Value:=Builtin.delete_ #[78,3] ty #[m,k]
theorem Jy(ty:TypeId)(m k:Value):Builtin.delete_ #[78,3] ty #[m,k]=yT ty m k:=rfl
theorem GC.strike{S:Nat}(h:GC G a cap tv S ah β g w)(p:Int)(ty:TypeId): ∃w',(yT ty (.map (some S)) (.int .i64 p)).run prog w=.ok (.tuple #[]) w'∧GC G a cap tv S ah β (g.str (iR p g.ss)) w'∧Only S w w':=by
 obtain⟨f,i,s⟩:=h.2.2.2.2;have b:∀k,SO S β (iR p g.ss) k->SO S β g.ss k:=fun k hk=>hk.imp id (fun ⟨x,hx,e⟩=>⟨x,(tN.1 hx).1,e⟩)
 have t:BX G a ah (SO S β (iR p g.ss)):=⟨⟨f.1,f.2.1,fun hs=>f.2.2 (b _ hs)⟩,fun k hk=>⟨(i k hk).1,fun hs=>(i k hk).2 (b _ hs)⟩,fun k hk hs=>s k hk (b _ hs)⟩;obtain⟨w',h1,h2,on⟩:∃w',(yT ty (.map (some S)) (.int .i64 p)).run prog w=.ok (.tuple #[]) w'∧aY iP S ((iR p g.ss).map (sE β)) w'∧Only S w w':=by
  by_cases hp:∀x∈g.ss,x.1≠p
  ·rw[Vs hp];refine h.2.2.2.1.1.Vr ou vG ⟨_,rfl⟩ (fun q hq=>?_) ty;obtain⟨x,hx,rfl⟩:=List.mem_map.1 hq;intro e;exact hp x hx (by injection e)
  ·obtain⟨x,hx,e⟩:∃x∈g.ss,x.1=p:=by
    refine Classical.byContradiction fun hn=>hp fun x hx e=>hn ⟨x,hx,e⟩
   have d:=(Jw p g.ss h.2.2.2.1.nodup x hx e).map (sE β);rw[List.map_cons] at d;exact h.2.2.2.1.1.strike ou vG (x:=.int .i64 p) ⟨_,rfl⟩ (by rw[<-e] at d⊢;exact d) ty
 have l:SO S β g.ss S:=.inl rfl;have A:∀a n c zs,aj w a n c zs->aj w' a n c zs:=fun _ _ _ _ r=>r.jh (fun j x=>h.2.2.2.1.1.nb j _) on
 have hs:∀k,k≠S->w'.heap[k]? = w.heap[k]?:=on.2.2.2.2;refine⟨w',h1,⟨h.1.same (hs G (fun e=>f.2.2 (by rw[e];exact l))),⟨h.2.1.1.same (fun k hk=>hs k (fun e=>(i k hk).2 (by rw[e];exact l))),fun k hk=>by rw[on.2.2.2.1];exact h.2.1.2.1 k hk,h.2.1.2.2⟩,(fZ _ _ _ _ _ _ _ h.2.2.1).2 w' (by rw[on.2.2.2.1];exact Nat.le_refl _) (fun k hk=>hs k (fun e=>s k hk (by rw[e];exact l))),⟨h2,fun y hy=>?_,fun y hy z hz e=>?_⟩,t⟩,on⟩
 ·have v:=(tN.1 hy).1;obtain⟨B,C,c1,o,D,E⟩:=h.2.2.2.1.2.1 y v;refine⟨B,C,c1,(hs _ (fun e=>?_)).trans o,A _ _ _ _ D,E⟩;rw[e] at o;exact h.2.2.2.1.1.nG o
 ·exact h.2.2.2.1.2.2 y (tN.1 hy).1 z (tN.1 hz).1 e
theorem GC.tick{S:Nat}(h:GC G a cap tv S ah β g w)(n:Int): GC G a cap tv S ah β (g.qc n) (w.setCell ⟨G,25,none⟩ (.int .i64 n))∧Only G w (w.setCell ⟨G,25,none⟩ (.int .i64 n)):=by
 obtain⟨d,i,l⟩:=h.2.2.2.2;obtain⟨p,b⟩:=h.1.TT n;have hs:∀k,k≠G->(w.setCell ⟨G,25,none⟩ (.int .i64 n)).heap[k]? = w.heap[k]?:=b.2.2.2.2;obtain⟨T,hT⟩:∃T,tv=.pointer (some ⟨T,0,none⟩):=by obtain⟨T,_,_,_,_,_,e,_⟩:=h.2.2.1;exact⟨T,e⟩
 have nb:∀j x,w.cell? ⟨G,j,none⟩≠some (.int .u8 x):=by have f:=h.1;unfold bU at f;rw[hT] at f;exact fun j x=>jO f (IG _ _ _ _ _ _ _ _) j x
 exact⟨⟨p,⟨h.2.1.1.same (fun k hk=>hs k (fun e=>d.1 (by rw[<-e];exact hk))),fun k hk=>by rw[b.2.2.2.1];exact h.2.1.2.1 k hk,h.2.1.2.2⟩,(fZ _ _ _ _ _ _ _ h.2.2.1).2 _ (by rw[b.2.2.2.1];exact Nat.le_refl _) (fun k hk=>hs k (fun e=>d.2.1 (by rw[<-e];exact hk))),h.2.2.2.1.same (fun k hk=>hs k (fun e=>d.2.2 (by rw[<-e];exact hk))) (fun _ _ _ _ r=>r.jh nb b),h.2.2.2.2⟩,b⟩
theorem GC.Vt{S:Nat}(h:GC G a cap tv S ah β g w)(j:Nat)(x:Int):w.cell? ⟨G,j,none⟩≠some (.int .u8 x):=by
 obtain⟨T,hT⟩:∃T,tv=.pointer (some ⟨T,0,none⟩):=by obtain⟨T,_,_,_,_,_,e,_⟩:=h.2.2.1;exact⟨T,e⟩
 have b:=h.1;unfold bU at b;rw[hT] at b;exact jO b (IG _ _ _ _ _ _ _ _) j x
theorem Vu{c:List Int}{inj:Bool}{n:Nat}{S:Nat}{now:Int}(p:bU G c inj a n cap tv S now w){off:Nat}{b:List Int}(h:w.rangeAt G off (ay b).toList):False:=by
 by_cases ho:off<=21
 ·have d:=yc h (21-off) (by omega);rw[show off+(21-off)=21 by omega,p.inj] at d;cases d
 ·have d:=yc h 22 (by omega);rw[p.cellAt,Array.getElem?_eq_none (by show 26<=off+22;omega)] at d;cases d
theorem dU.only{B:Nat}{w':World}{bs:List (List Int)}(h:dU 0 w v bs)(on:Only B w w')(hn:∀off b,¬w.rangeAt B off (ay b).toList):dU 0 w' v bs:=by
 obtain⟨a,d,e,l⟩:=h;refine⟨a,d,e,fun hp=>?_⟩;obtain⟨g,off,n,f,i⟩:=l hp;refine⟨g,off,n,⟨f.1,by rw[on.2.2.2.1];exact f.2⟩,fun k hk j u hu=>?_⟩;have o:g≠B:=fun e2=>hn _ _ (by rw[<-e2];exact i 0 hp)
 rw[<-i k hk j u hu];exact World.cell?_of_block (on.2.2.2.2 g o)
def sgo(gone:List (List Int))(ss:List (Int×List Int×Int×Bool×Bool)):List (Int×List Int×Int×Bool×Bool):=gone.foldl (fun ss b=>iR (el b 19) ss) ss
def eP(g:GS)(n:Int):Int×GS :=
 if 0<=n∧n<=1000∧g.now+n<=1099511627776 then (0,((g.tab g.ws (es (g.now+n) g.bs g.ts g.bs.length).2.2 (es (g.now+n) g.bs g.ts g.bs.length).2.1).qc (g.now+n)).str (sgo (es (g.now+n) g.bs g.ts g.bs.length).1 g.ss))
 else (1,g)
theorem Vv(gone:List (List Int))(ss:List (Int×List Int×Int×Bool×Bool))(k:Nat)(hk:k<gone.length):sgo (gone.take (k+1)) ss=iR (el (gone.getD k []) 19) (sgo (gone.take k) ss):=by unfold sgo;rw[take_succ gone k hk,List.foldl_append];rfl
theorem Jz(now:Int)(bs:List (List Int))(ts:Nat->Bool):(es now bs ts bs.length).1.length<=bs.length:=by rw[(qR now bs ts bs.length (Nat.le_refl _)).1,List.take_length];exact List.length_filter_le _ _
attribute [local go_sem ↓] Jy gV
theorem Vw(G:Nat)(a:Option Addr)(cap:Nat)(tv:Value)(S:Nat)(ah:Nat->Prop)(β:Int->Nat)(g:GS)(n:Int)(w:World)(h:GC G a cap tv S ah β g w)(hn:¬(0<=n∧n<=1000∧g.now+n<=1099511627776))(ht:tc g.now=true): Calls prog 53 #[.pointer (some ⟨G,0,none⟩),.int .i64 n] w fun e w'=>e=.returned (err 1)∧Below w.heap.size w w':=by
 have d:=ki (fun W=>Ck 1000 n W);have l:=ki h;unfold tc at ht;rw[Bool.and_eq_true,decide_eq_true_eq,decide_eq_true_eq] at ht;unfold err;clear h;by_cases hu:fB 1000 n=true
 ·have k:=(jT _ _).1 hu;have p:1099511627776<g.now+n:=by omega
  have r:IntKind.i64.wrap (g.now+n)=g.now+n:=by rw[IntKind.wrap_i64];omega
  rw[hu] at d;clear hn k hu ht;go_enter func53,ntmps53;go_wp2_with (go_at_call 71;refine(d.o _).mono ?_;rintro e o ⟨rfl,b⟩;have q:=(l.o.kept b).1.now;have i:=ki b;clear b)
  go_ret;exact⟨rfl,i.o⟩
 ·have f:fB 1000 n=false:=by cases hh:fB 1000 n;rfl;exact absurd hh hu
  rw[f] at d;clear hn hu f ht;go_enter func53,ntmps53;go_wp2_with (go_at_call 71;refine(d.o _).mono ?_;rintro e o ⟨rfl,b⟩;have i:=ki b;clear b)
  go_ret;exact⟨rfl,i.o⟩
theorem aL.only{O:Nat->Prop}{B:Nat}{w':World}(on:Only B w w')(hB:O B)(nb:∀j x,w.cell? ⟨B,j,none⟩≠some (.int .u8 x)):aL O w w' :=
 ⟨⟨on.1,on.2.1,on.2.2.1,Nat.le_of_eq on.2.2.2.1.symm,fun k _ hn=>on.2.2.2.2 k (fun e=>hn (by rw[e];exact hB))⟩,fun _ _ _ _ r=>r.jh nb on⟩
def oH(w:World)(G:Nat)(a:Option Addr)(cap:Nat)(tv:Value)(S:Nat)(ah bI:Nat->Prop)(β:Int->Nat)(g g1:GS)(v:Value)(gone:List (List Int))(k:Nat)(W:World):Prop:=GC G a cap tv S bI β (g1.str (sgo (gone.take k) g.ss)) W∧aL (GO G a ah (SO S β g.ss)) w W∧dU 0 W v gone
theorem oH.kept{S:Nat}{bI:Nat->Prop}{g1:GS}{gone:List (List Int)}{k:Nat}{W W':World}(h:oH w G a cap tv S ah bI β g g1 v gone k W)(hb:Below W.heap.size W W'):oH w G a cap tv S ah bI β g g1 v gone k W':=⟨h.1.kept hb,h.2.1.trans (aL.of (O:=fun _=>False) hb) (fun _ h=>h.elim),h.2.2.same hb⟩
theorem oH.next{S:Nat}{bI:Nat->Prop}{g1:GS}{gone:List (List Int)}{k:Nat}{W:World}(h:oH w G a cap tv S ah bI β g g1 v gone k W)(hk:k<gone.length)(ty:TypeId): ∃W',(yT ty (.map (some S)) (.int .i64 (el (gone.getD k []) 19))).run prog W=.ok (.tuple #[]) W'∧oH w G a cap tv S ah bI β g g1 v gone (k+1) W'∧Only S W W':=by
 obtain⟨W',e,f,d⟩:=h.1.strike (el (gone.getD k []) 19) ty;have hn:∀off b,¬W.rangeAt S off (ay b).toList:=fun off b hr=>h.1.2.2.2.1.1.nb (off+0) _ (yc hr 0 (by omega))
 refine⟨W',e,⟨?_,h.2.1.trans (aL.only (O:=fun k=>k=S) d rfl (fun j x=>h.1.2.2.2.1.1.nb j _)) (fun k hk=>.inl (.inr (.inr (.inr (.inl hk))))),h.2.2.only d hn⟩,d⟩;rw[Vv gone g.ss k hk];exact f
theorem Cm{gone:List (List Int)}{ss:List (Int×List Int×Int×Bool×Bool)}{x:Int×List Int×Int×Bool×Bool}:x∈sgo gone ss↔x∈ss∧∀b∈gone,x.1≠el b 19:=by
 induction gone generalizing ss with
 | nil=>simp[sgo]
 | cons b r ih =>
  show x∈sgo r (iR (el b 19) ss)↔_;rw[ih,tN];constructor
  ·rintro ⟨⟨d,a⟩,e⟩;refine⟨d,fun c hc=>?_⟩;rcases List.mem_cons.1 hc with rfl|hc
   ·exact a
   ·exact e c hc
  ·rintro ⟨d,a⟩;exact⟨⟨d,a b (List.mem_cons_self ..)⟩,fun c hc=>a c (List.mem_cons_of_mem _ hc)⟩
attribute [local go_sem ↓] Jy gV
theorem Vx(G:Nat)(a:Option Addr)(cap:Nat)(tv:Value)(S:Nat)(ah:Nat->Prop)(β:Int->Nat)(g:GS)(n:Int)(w:World)(h:GC G a cap tv S ah β g w)(hi:fJ g)(hn:0<=n∧n<=1000∧g.now+n<=1099511627776): Calls prog 53 #[.pointer (some ⟨G,0,none⟩),.int .i64 n] w fun e w'=>e=.returned .nilIface∧gu w G a cap tv S ah β g (eP g n).2 w':=by
 have Y:(eP g n).2=((g.tab g.ws (es (g.now+n) g.bs g.ts g.bs.length).2.2 (es (g.now+n) g.bs g.ts g.bs.length).2.1).qc (g.now+n)).str (sgo (es (g.now+n) g.bs g.ts g.bs.length).1 g.ss):=by unfold eP;rw[if_pos hn]
 rw[Y];have M:=hi.2.2.2.1;unfold tc at M;rw[Bool.and_eq_true,decide_eq_true_eq,decide_eq_true_eq] at M;have N:=ki (fun W=>Ck 1000 n W);rw[(jT 1000 n).2 ⟨hn.1,hn.2.1⟩] at N;have hw:IntKind.i64.wrap (g.now+n)=g.now+n:=by rw[IntKind.wrap_i64];omega
 have h2:¬1099511627776<g.now+n:=by omega
 have B:tc (g.now+n)=true:=by unfold tc;rw[Bool.and_eq_true,decide_eq_true_eq,decide_eq_true_eq];omega
 have o:=ki (fun W (hW:Below w.heap.size w W)=>(tu.2.2.2.2.2.2.2.1 tv g.m g.ws g.ts g.bs ah W (g.now+n) hi.1 hi.2.1 hi.2.2.1 (h.kept hW).2.2.1).2 B);have Z:=ki h;have aa:=Nat.le_trans (Jz (g.now+n) g.bs g.ts) hi.2.1;generalize (es (g.now+n) g.bs g.ts g.bs.length).1=gone at o aa⊢;generalize (es (g.now+n) g.bs g.ts g.bs.length).2.2=ts' at o⊢;generalize (es (g.now+n) g.bs g.ts g.bs.length).2.1=bs' at o⊢;have dO:(gone.length:Int)<=128:=by omega
 clear h hi hn M B Y;go_enter func53,ntmps53;go_upto_region 3 with(go_at_call 71;refine(N.o _).mono ?_;rintro e P ⟨rfl,p⟩;have q:=(Z.o.kept p).1.now;have HB:=ki p;clear p)
 clear q N;have C:Below P.heap.size P P.drew:=(Below.refl _ _).drew;have f:=ki (bt HB.o C);have d:=ki (Z.o.kept f.o);have Q:=d.o.1.table;have R:=d.o.1.now;have E:=ki (o.o _ f.o);clear C HB o;go_region_held3 (fun W'=>W'.cell? ⟨G,23,none⟩=some tv∧W'.cell? ⟨G,25,none⟩=some (.int .i64 g.now))
  (first
   | exact⟨d.o.1.table,d.o.1.now⟩
   | exact T.o
   | go_keep)
  (first|(go_at_call 106;refine E.o.mono ?_;rintro e w5 ⟨b5,rfl,r5,kI⟩;obtain⟨bI,v,k5,s5⟩:=d.o.tab kI;have i:=ki v;have F:=ki ((aL.of (O:=GO G a ah (SO S β g.ss)) f.o).trans k5 (fun _ hk=>.inl hk));have ai:=ki (show ∀k,bI k->ah k∨w.heap.size<=k from fun k hk=>(s5 k hk).imp id (fun h=>Nat.le_trans f.o.size h));have H:=ki r5;have T:=ki (show w5.cell? ⟨G,23,none⟩=some tv∧w5.cell? ⟨G,25,none⟩=some (.int .i64 g.now) from⟨v.1.table,v.1.now⟩);clear Q R v k5 s5 kI r5;obtain⟨Q,R⟩:=T.o))
 all_goals
  clear Q;have dB:=i.o.1.aZ 25;obtain⟨t6,r⟩:=i.o.tick (g.now+n);have l:=ki (show oH w G a cap tv S ah bI β g ((g.tab g.ws ts' bs').qc (g.now+n)) b5 gone 0 _ from⟨t6,F.o.trans (aL.only (O:=fun k=>k=G) r rfl i.o.Vt) (fun k hk=>.inl (.inl hk)),H.o.only r (fun off b hr=>Vu i.o.1 hr)⟩);clear t6 r;go_upto_region 7 with fail
  clear R dB hw h2 i F H T E d f;generalize World.setCell _ _ _=W6 at l⊢;obtain⟨a5,c5,rfl,-⟩:=l.o.2.2;go_wp2;go_loopw [50] (fun t wr=>∃k:Nat,k<=gone.length∧t=.int .i64 k∧Hid (oH w G a cap tv S ah bI β g ((g.tab g.ws ts' bs').qc (g.now+n)) (.slice a5 gone.length c5) gone k wr)) (fun t _=>gone.length-(intOf t).toNat)
  case atStart=>exact⟨0,by omega,rfl,l⟩
  case round =>
   clear l;obtain⟨k,hk,rfl,y⟩:=hrel;by_cases hlt:k<gone.length
   ·obtain⟨a6,c6,U,I⟩:=y.o.2.2;injection U with U e8 e7
    subst U;subst e7;clear e8;obtain⟨gg,off,rfl,-,z⟩:=I (by omega);have gx:=qp (z k hlt);have V:=ki (fun W (hW:oH w G a cap tv S ah bI β g ((g.tab g.ws ts' bs').qc (g.now+n)) (.slice (some ⟨gg,off,none⟩) gone.length c5) gone k W)=>hW.next hlt 0);generalize hbk:gone.getD k []=bk at gx V;clear z I hbk;have j1:(k:Int)<(gone.length:Int):=by omega
    have X:=ki (fu wr);unfold aV at X;go_upto_region 10 with(refine fF rfl (.tmp 8) (.tmp 53) rfl rfl X.o bk rfl ?_;intro A p7 J;have K:=ki (y.o.kept (bq _ J));have L:=ki p7;clear J p7)
    clear gx X y;generalize wr.heap.size=D at L⊢;have s:=ki (K.o.kept (show Below A.heap.size A A.drew from(Below.refl _ _).drew));have az:A.drew.cell? ⟨D,19,none⟩=some (.int .i64 (el bk 19)):=L.o.cell 19 (by omega);have a0:=s.o.1.1.streams;obtain⟨fK,tK,t9,ap⟩:=V.o _ s.o;have aq:=ki t9;clear t9 ap K s V;go_region
    all_goals
     go_wp2;go_roundw
     case rel=>exact⟨k+1,by omega,by go_num,aq⟩
     case measure=>simp[intOf];omega
   ·obtain rfl:gone.length=k:=by omega
    go_wp2;go_ret;have hT:=y.o;refine⟨rfl,bI,β,?_,hT.2.1,fun k hk=>?_⟩
    ·have:=hT.1;rw[List.take_length] at this;exact this
    ·rcases hk with h1|h1|h1|h1
     ·exact .inl (.inl h1)
     ·exact .inl (.inr (.inl h1))
     ·exact(ai.o k h1).imp (fun h=>.inr (.inr (.inl h))) id
     ·rcases h1 with h1|⟨x,z,e⟩
      ·exact .inl (.inr (.inr (.inr (.inl h1))))
      ·exact .inl (.inr (.inr (.inr (.inr ⟨x,(Cm.1 z).1,e⟩))))
theorem Vy(G:Nat)(a:Option Addr)(cap:Nat)(tv:Value)(S:Nat)(ah:Nat->Prop)(β:Int->Nat)(g:GS)(n:Int)(w:World)(h:GC G a cap tv S ah β g w)(hi:fJ g): Calls prog 53 #[.pointer (some ⟨G,0,none⟩),.int .i64 n] w fun e w'=>e=.returned (ev (eP g n).1)∧gu w G a cap tv S ah β g (eP g n).2 w':=by
 by_cases hn:0<=n∧n<=1000∧g.now+n<=1099511627776
 ·have e:(eP g n).1=0:=by unfold eP;rw[if_pos hn]
  rw[e,jW];exact Vx G a cap tv S ah β g n w h hi hn
 ·have e:eP g n=(1,g):=by unfold eP;rw[if_neg hn]
  rw[e,show ev ((1:Int),g).1=err 1 from iY (show(1:Int)≠0 by decide)];exact(Vw G a cap tv S ah β g n w h hn hi.2.2.2.1).mono fun r w' ⟨e1,e2⟩=>⟨e1,h.still e2⟩
end
end Go.Proofs.YtgcojnlngchllaaGreatDoor
