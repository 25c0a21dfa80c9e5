import Derived.Test.YtgcojnlngchllaaGreatDoorJ43
namespace Go.Proofs.YtgcojnlngchllaaGreatDoor
open Go.RowKit Tryz
set_option linter.unusedVariables false
set_option maxRecDepth 100000
set_option maxHeartbeats 40000000
section
variable {l rl:List (Int×Nat)}{rv:Value}{W w:World}
def stx(x:Int×Nat):Array Value:=#[.int .i64 x.1,.pointer (some ⟨x.2,0,none⟩)]
def Kc(x:Value):Sem Value:=Instr.loadAt 103 x
theorem Xc(x:Value):Instr.loadAt 103 x=Kc x:=rfl
theorem gD.sl{g n cap:Nat}(h:gD w (.slice (some ⟨g,0,none⟩) n cap) l)(k:Nat)(hk:k<l.length):(Kc (.pointer (some ⟨g,k*2,none⟩))).run prog w=.ok (.agg (stx (l.getD k (0,0)))) w :=
 run_loadAt_mid w g (k*2) 103 (stx (l.getD k (0,0))).toList _ (fun j v hv=>by
  have hj:j<2:=(List.getElem?_eq_some_iff.1 hv).1;rcases (by omega:j=0∨j=1) with rfl|rfl
  ·exact(h.cell k hk).1.trans hv
  ·exact(h.cell k hk).2.trans hv) underlying103 rfl (by kernel_rfl)
def zw(ps:Array (Nat×Value)):Sem Value:=Instr.buildSlice 52 1 ps
theorem CG(ps:Array (Nat×Value)):Instr.buildSlice 52 1 ps=zw ps:=rfl
theorem C8(x:Int×Nat)(w:World):(zw #[(0,.agg (stx x))]).run prog w=.ok (.slice (some ⟨w.heap.size,0,none⟩) 1 1) (w.alloc (.cells (stx x) 103)):=by kernel_rfl
theorem Da(x:Int×Nat)(w:World):∀j u,(sx [x])[j]? = some u->(w.alloc (.cells (stx x) 103)).cell? ((⟨w.heap.size,0,none⟩:Addr).add j)=some u:=by
 intro j u a;have b:j<2:=(List.getElem?_eq_some_iff.1 a).1;rw[jQ,Nat.zero_add,cell_of_row _ _ j _ _ _ (heap_alloc_new w _)];rcases (by omega:j=0∨j=1) with rfl|rfl
 ·exact a
 ·exact a
def oI(W1:World)(rv:Value)(rl:List (Int×Nat))(W:World):Prop:=gD W rv rl∧(∀k,rv.ownBlock=some k->W1.heap.size<=k)∧Below W1.heap.size W1 W
theorem oI.kept{W1 W':World}(h:oI W1 rv rl W)(hb:Below W.heap.size W W'):oI W1 rv rl W':=⟨h.1.same (fun k hk=>hb.block k (cO h.1.1 k hk).1),h.2.1,bt h.2.2 hb⟩
theorem oI.app{W1 W':World}{rv':Value}{rl':List (Int×Nat)}(h:oI W1 rv rl W)(o:gD W' rv' rl')(hg:W.grownBy W' rv.ownBlock)(hn:∀k,rv'.ownBlock=some k->rv.ownBlock=some k∨k=W.heap.size):oI W1 rv' rl' W' :=
 ⟨o,fun k hk=>(hn k hk).elim (h.2.1 k) (fun e=>by rw[e];exact h.2.2.size),Fr.below (O:=fun k=>some k=rv.ownBlock) ⟨hg.os,hg.tape,hg.output,hg.size,fun k hk hn=>hg.block k hk hn⟩ h.2.2 (fun k hk=>h.2.1 k hk.symm) h.2.2.size⟩
def vT(gone:List (List Int))(x:Int×Nat):Bool:=gone.any fun y=>el y 19 == x.1
def kX(gone:List (List Int))(l:List (Int×Nat)):List (Int×Nat):=l.filter fun x=>!vT gone x
theorem lN.rest{sv:Value}{ss:List (Int×List Int×Int×Bool×Bool)}(h:lN sv l ss w)(gone:List (List Int))(o:gD w rv (kX gone l)):lN rv (kX gone l) (sgo gone ss) w:=by
 refine⟨o,fun x hx=>?_,fun p st hp=>?_,List.Pairwise.filter _ h.2.2.2⟩
 ·obtain⟨f,a⟩:=List.mem_filter.1 hx;obtain⟨st,e,hs⟩:=h.2.1 x f;refine⟨st,?_,hs⟩;rw[y7 x.1 gone ss (fun y hy e=>?_),e];have:vT gone x=true:=List.any_eq_true.2 ⟨y,hy,by simpa using e⟩;rw[this] at a;cases a
 ·obtain⟨k,b⟩:=Cm.1 (jA hp);have d:bH ss p=some st:=by rw[<-y7 p gone ss (fun y hy e=>b y hy e.symm)];exact hp
  obtain⟨x,hx,e⟩:=h.2.2.1 p st d;refine⟨x,List.mem_filter.2 ⟨hx,?_⟩,e⟩;cases hs:vT gone x
  ·rfl
  ·obtain⟨y,hy,g⟩:=List.any_eq_true.1 hs;have i:el y 19=x.1:=by simpa using g
   exact absurd (show(p,st).1=el y 19 by rw[i];exact e.symm) (b y hy)
theorem drop_at{α:Type}(l:List α)(d:α)(i:Nat)(h:i<l.length):l.drop i=l.getD i d::l.drop (i+1):=by rw[List.drop_eq_getElem_cons h,List.getD_eq_getElem?_getD,List.getElem?_eq_getElem h];rfl
theorem bA.Xd{B:Nat}{a:Option Addr}{cap tb:Nat}{sv:Value}{ah:Nat->Prop}{g:GS}{gone:List (List Int)}(h:bA B a cap tb sv l ah g w)(T:oI w rv rl W)(e:rl=kX gone l): bA B a cap tb rv rl ah (g.str (sgo gone g.ss)) (W.setCell ⟨B,24,none⟩ rv)∧aL (GO B a ah (aO sv l)) w (W.setCell ⟨B,24,none⟩ rv)∧∀k,aO rv rl k->aO sv l k∨w.heap.size<=k:=by
 obtain⟨i,n,p⟩:=h.2.2.2.2;have b:∀k,aO rv rl k->aO sv l k∨w.heap.size<=k:=fun k hk=>by
  rcases hk with hk|⟨x,hx,ek⟩
  ·exact .inr (T.2.1 k hk)
  ·rw[e] at hx;exact .inl (.inr ⟨x,(List.mem_filter.1 hx).1,ek⟩)
 have d:=h.kept T.2.2;have o:=T.1;rw[e] at o;have f:=d.2.2.2.1.rest gone o;rw[<-e] at f;obtain⟨q,r⟩:=d.strs f (fun k hk=>by
  rcases b k hk with h1|h1
  ·exact⟨fun e=>i.2.2 (by rw[<-e];exact h1),fun h2=>(n k h2).2 h1,fun h2=>p k h2 h1⟩
  ·refine⟨fun e=>?_,fun h2=>?_,fun h2=>?_⟩
   ·have:=h.1.lt;omega
   ·have:=h.2.1.2.1 k h2;omega
   ·have:=h.2.2.1.lt k h2;omega)
 exact⟨q,(aL.of T.2.2).trans r (fun _ hk=>.inl hk),b⟩
attribute [local go_sem ↓] Xc CG
theorem Xe(B:Nat)(a:Option Addr)(cap tb:Nat)(sv:Value)(l:List (Int×Nat))(ah:Nat->Prop)(g:GS)(n:Int)(w:World)(h:bA B a cap tb sv l ah g w)(hm:g.m<=16)(hl:g.bs.length<=128)(hT:xY (8*g.m) g.bs)(ht:tc g.now=true)(hls:l.length<=1000)(hn:0<=n∧n<=1000∧g.now+n<=1099511627776): Calls prog 11 #[.pointer (some ⟨B,0,none⟩),.int .i64 n] w fun e w'=>e=.returned (.int .i64 0)∧rM w B (GO B a ah (aO sv l)) (eP g n).2 w':=by
 have hg:(eP g n).2=((g.tab g.ws (es (g.now+n) g.bs g.ts g.bs.length).2.2 (es (g.now+n) g.bs g.ts g.bs.length).2.1).qc (g.now+n)).str (sgo (es (g.now+n) g.bs g.ts g.bs.length).1 g.ss):=by unfold eP;rw[if_pos hn]
 rw[hg];unfold tc at ht;rw[Bool.and_eq_true,decide_eq_true_eq,decide_eq_true_eq] at ht;have hw:IntKind.i64.wrap (g.now+n)=g.now+n:=by rw[IntKind.wrap_i64];omega
 have h2:¬1099511627776<g.now+n:=by omega
 have h3:¬n<0:=by omega
 have h4:¬1000<n:=by omega
 have M:tc (g.now+n)=true:=by unfold tc;rw[Bool.and_eq_true,decide_eq_true_eq,decide_eq_true_eq];omega
 have C:=ki (fun W (hW:jw tb g.m g.ws g.ts g.bs ah W)=>WX hW hm hl hT M);obtain⟨sa,sc,rfl,-,-,N⟩:=h.2.2.2.1.1.shape;have bW:=ki N;have r:w.cell? ⟨B,25,none⟩=some (.int .i64 g.now):=(h.1.cellAt 25).trans rfl;have am:=h.1.aZ 25;obtain⟨t6,k6⟩:=h.tick (g.now+n);have f:=ki t6;have z:=ki k6;have bh:=ki (fun k=>h.lt (k:=k));have ap:=Nat.le_trans (Jz (g.now+n) g.bs g.ts) hl;generalize (es (g.now+n) g.bs g.ts g.bs.length).1=gone at C ap⊢;generalize (es (g.now+n) g.bs g.ts g.bs.length).2.2=ts' at C⊢;generalize (es (g.now+n) g.bs g.ts g.bs.length).2.1=bs' at C⊢;have bi:(gone.length:Int)<=128:=by omega
 have bj:(l.length:Int)<=1000:=by omega
 clear h hm hl hT hn ht M hg N t6 k6;go_enter func11,ntmps11;go_upto_region 4 with fail
 clear r am h2 h3 h4 hw;generalize World.setCell _ _ _=W1 at f z⊢;have D:Below W1.heap.size W1 W1.drew:=(Below.refl _ _).drew;replace z:=ki (z.o.trans (aL.of (O:=fun _=>False) D) (fun _ h=>h.elim));replace f:=ki (f.o.kept D);clear D;have E:W1.drew.cell? ⟨B,23,none⟩=some (.pointer (some ⟨tb,0,none⟩)):=(f.o.1.cellAt 23).trans rfl;have r:W1.drew.cell? ⟨B,25,none⟩=some (.int .i64 (g.now+n)):=(f.o.1.cellAt 25).trans rfl;have P:=ki (C.o _ f.o.2.2.1);clear C;go_region_held3 (fun W'=>W'.cell? ⟨B,23,none⟩=some (.pointer (some ⟨tb,0,none⟩))∧W'.cell? ⟨B,25,none⟩=some (.int .i64 (g.now+n)))
  (first
   | exact⟨(f.o.1.cellAt 23).trans rfl,(f.o.1.cellAt 25).trans rfl⟩
   | exact S5.o
   | go_keep)
  (first|(go_at_call 48;refine P.o.mono ?_;rintro e w5 ⟨b5,rfl,r5,kI⟩;obtain⟨Q,J,k5,s5⟩:=f.o.tab kI;have o:=ki J;have R:=ki (z.o.trans k5 (fun _ hk=>.inl hk));have S:=ki (show ∀k,Q k->ah k∨w.heap.size<=k from fun k hk=>(s5 k hk).imp id (fun h=>Nat.le_trans z.o.size h));have aw:=ki r5.weak;have S5:=ki (show w5.cell? ⟨B,23,none⟩=some (.pointer (some ⟨tb,0,none⟩))∧w5.cell? ⟨B,25,none⟩=some (.int .i64 (g.now+n)) from⟨(J.1.cellAt 23).trans rfl,(J.1.cellAt 25).trans rfl⟩);clear E r J k5 s5 kI r5;obtain⟨E,r⟩:=S5.o))
 all_goals
  clear E r S5 P f z;obtain⟨a5,c5,rfl,T⟩:=aw.o;have ax:=ki T;clear T;go_wp2;go_loopw [6,7] (fun v t wr=>∃(i:Nat) (rl:List (Int×Nat)) (ra:Option Addr) (rc:Nat),i<=l.length∧rl.length<=i∧t=.int .i64 i∧v=.slice ra rl.length rc∧Hid (rl++kX gone (l.drop i)=kX gone l)∧Hid (oI w5 (.slice ra rl.length rc) rl wr)) (fun _ t _=>l.length-(intOf t).toNat)
  case atStart=>exact⟨0,[],none,0,by omega,by simp,rfl,rfl,ki rfl,ki ⟨gD.nil _,fun k hk=>(by cases hk),Below.refl _ _⟩⟩
  case round =>
   obtain⟨i,rl,ra,rc,hi,bm,rfl,rfl,HR,d⟩:=hrel;have U:wr.cell? ⟨B,24,none⟩=some (.slice sa l.length sc):=((o.o.kept d.o.2.2).1.cellAt 24).trans rfl;by_cases hlt:i<l.length
   ·obtain⟨sg,rfl⟩:=bW.o (by omega);have j1:(i:Int)<(l.length:Int):=by omega
    obtain⟨x,hx⟩:∃x,l.getD i (0,0)=x:=⟨_,rfl⟩;have K:=ki (drop_at l (0,0) i hlt);have HC:=ki (fun W (hW:Below w5.heap.size w5 W)=>(o.o.kept hW).2.2.2.1.1.cell i hlt);have HL:=ki (fun W (hW:Below w5.heap.size w5 W)=>(o.o.kept hW).2.2.2.1.1.sl i hlt);rw[hx] at K HC HL;clear hx;obtain⟨xp,q⟩:=x;go_wp2;go_loopw [8,9] (fun u t wr=>∃(k:Nat) (b:Bool),k<=gone.length∧t=.int .i64 k∧u=.bool b∧Hid ((b || (gone.drop k).any fun y=>el y 19 == xp)=vT gone (xp,q))∧Hid (oI w5 (.slice ra rl.length rc) rl wr)) (fun _ t _=>gone.length-(intOf t).toNat)
    case atStart=>exact⟨0,false,by omega,rfl,rfl,ki rfl,d⟩
    case round =>
     clear d U;obtain⟨k,b,hk,rfl,rfl,L,d⟩:=hrel;have U:wr.cell? ⟨B,24,none⟩=some (.slice (some ⟨sg,0,none⟩) l.length sc):=((o.o.kept d.o.2.2).1.cellAt 24).trans rfl;by_cases hk2:k<gone.length
     ·obtain⟨gg,V,rfl,-,F⟩:=ax.o (by omega);have j2:(k:Int)<(gone.length:Int):=by omega
      have h0:=yc (F k hk2) 19 (by omega);have c19:wr.cell? ⟨gg,V+k*23+19,none⟩=some (.int .i64 (el (gone.getD k []) 19)):=by rw[d.o.2.2.cell (p:=⟨gg,V+k*23+19,none⟩) (uI h0)];exact h0
      have c1:=(HC.o _ d.o.2.2).1;have G:=ki (fun n=>d.o.kept (jN (Below.refl wr.heap.size wr) n));have A:=ki (show(b || ((el (gone.getD k []) 19 == xp) || (gone.drop (k+1)).any fun y=>el y 19 == xp))=vT gone (xp,q) by rw[<-L.o,drop_at gone [] k hk2];rfl);generalize el (gone.getD k []) 19=y at c19 A;clear F h0 L HC HL K;cases b;case true =>
       go_upto_region 13 with fail
       go_quiet (fail)
       go_wp2;go_roundw
       case rel=>exact⟨k+1,true,by omega,by go_num,rfl,ki A.o,ki (G.o _)⟩
       case measure=>simp[intOf];omega
      case false =>
       cases f1:(y == xp);case false =>
        rw[f1] at A;go_upto_region 13 with fail
        go_quiet (fail)
        go_wp2;go_roundw
        case rel=>exact⟨k+1,false,by omega,by go_num,rfl,ki A.o,ki (G.o _)⟩
        case measure=>simp[intOf];omega
       case true =>
        rw[f1] at A;go_upto_region 13 with fail
        go_quiet (fail)
        go_wp2;go_roundw
        case rel=>exact⟨k+1,true,by omega,by go_num,rfl,ki A.o,ki (G.o _)⟩
        case measure=>simp[intOf];omega
     ·obtain rfl:gone.length=k:=by omega
      have s:b=vT gone (xp,q):=by rw[<-L.o,List.drop_length];simp
      clear L hk hk2;cases b;case true =>
       have H:=ki (show rl++kX gone (l.drop (i+1))=kX gone l by rw[<-HR.o,K.o];unfold kX;rw[List.filter_cons_of_neg (by rw[<-s];decide)]);clear s;go_wp2;go_roundw
       case rel=>exact⟨i+1,rl,ra,rc,by omega,by omega,by go_num,rfl,H,d⟩
       case measure=>simp[intOf];omega
      case false =>
       have H:=ki (show(rl++[(xp,q)])++kX gone (l.drop (i+1))=kX gone l by rw[<-HR.o,K.o];unfold kX;rw[List.filter_cons_of_pos (by rw[<-s];rfl)];simp);have gx:=HL.o _ d.o.2.2;have sk:=C8 (xp,q);have X:=au wr (.cells (stx (xp,q)) 103);have I:=ki (d.o.kept X);have Y:=ki (Da (xp,q) wr);have Z:=ki I.o.1;have aa:=ki (show rl.length<=1000 by omega);clear X s;go_upto_region 8 with(at_builtin;(with_reducible refine Xb rfl (.tmp 77) (.tmp 85) rfl (.slice ra rl.length rc) rl rfl Z.o ⟨wr.heap.size,0,none⟩ 1 (xp,q) rfl Y.o aa.o ?_);intro g8 c8 w8 Ke ab n8;have a1:=ki (I.o.app Ke ab (fun k hk=>by cases hk;exact n8));clear Ke ab n8 I Y Z aa)
       clear gx sk;go_wp2;go_roundw
       case rel=>exact⟨i+1,rl++[(xp,q)],some ⟨g8,0,none⟩,c8,by omega,by rw[List.length_append];show rl.length+1<=i+1;omega,by go_num,by rw[List.length_append];rfl,H,ki (by rw[List.length_append];exact a1.o)⟩
       case measure=>simp[intOf];omega
   ·obtain rfl:l.length=i:=by omega
    have ac:rl=kX gone l:=by rw[<-HR.o,List.drop_length];simp[kX]
    have fT:=(o.o.kept d.o.2.2).1.aZ 24;obtain⟨s1,s2,s3⟩:=o.o.Xd d.o ac;have a6:=ki s1;have a7:=ki s2;have a8:=ki s3;clear s1 s2 s3 ac;go_wp2;go_ret;refine⟨rfl,a,cap,tb,_,rl,Q,a6.o,R.o.trans a7.o (fun k hk=>?_),fun k hk=>?_⟩
    ·rcases hk with h1|h1|h1|h1
     ·exact .inl (.inl h1)
     ·exact .inl (.inr (.inl h1))
     ·exact(S.o k h1).imp (fun h=>.inr (.inr (.inl h))) id
     ·exact .inl (.inr (.inr (.inr h1)))
    ·rcases hk with h1|h1|h1|h1
     ·exact .inl (.inl h1)
     ·exact .inl (.inr (.inl h1))
     ·exact(S.o k h1).imp (fun h=>.inr (.inr (.inl h))) id
     ·exact(a8.o k h1).imp (fun h=>.inr (.inr (.inr h))) (fun h=>Nat.le_trans R.o.size h)
end
section
theorem Xf(B:Nat)(a:Option Addr)(cap tb:Nat)(sv:Value)(l:List (Int×Nat))(ah:Nat->Prop)(g:GS)(n:Int)(w:World)(h:bA B a cap tb sv l ah g w)(ht:tc g.now=true)(hn:¬(0<=n∧n<=1000∧g.now+n<=1099511627776)): Calls prog 11 #[.pointer (some ⟨B,0,none⟩),.int .i64 n] w fun e w'=>e=.returned (.int .i64 1)∧w'=w:=by
 unfold tc at ht;rw[Bool.and_eq_true,decide_eq_true_eq,decide_eq_true_eq] at ht;have b:w.cell? ⟨B,25,none⟩=some (.int .i64 g.now):=(h.1.cellAt 25).trans rfl;clear h;generalize g.now=now at b ht hn;by_cases h3:n<0
 ·clear hn ht;go_enter func11,ntmps11;go_wp2;go_ret;exact⟨rfl,rfl⟩
 ·by_cases h4:1000<n
  ·clear hn ht;go_enter func11,ntmps11;go_wp2;go_ret;exact⟨rfl,rfl⟩
  ·have d:IntKind.i64.wrap (now+n)=now+n:=by rw[IntKind.wrap_i64];omega
   have f:1099511627776<now+n:=by omega
   clear hn ht;go_enter func11,ntmps11;go_wp2;go_ret;exact⟨rfl,rfl⟩
theorem Xg(B:Nat)(a:Option Addr)(cap tb:Nat)(sv:Value)(l:List (Int×Nat))(ah:Nat->Prop)(g:GS)(n:Int)(w:World)(h:bA B a cap tb sv l ah g w)(hi:fJ g)(hls:l.length<=1000): Calls prog 11 #[.pointer (some ⟨B,0,none⟩),.int .i64 n] w fun e w'=>e=.returned (.int .i64 (eP g n).1)∧rM w B (GO B a ah (aO sv l)) (eP g n).2 w':=by
 by_cases hn:0<=n∧n<=1000∧g.now+n<=1099511627776
 ·have e:(eP g n).1=0:=by unfold eP;rw[if_pos hn]
  rw[e];exact Xe B a cap tb sv l ah g n w h hi.1 hi.2.1 hi.2.2.1.P9 hi.2.2.2.1 hls hn
 ·have e:eP g n=(1,g):=by unfold eP;rw[if_neg hn]
  rw[e];refine(Xf B a cap tb sv l ah g n w h hi.2.2.2.1 hn).mono ?_;rintro e w' ⟨b,d⟩;rw[d];exact⟨b,h.still (Below.refl _ _)⟩
end
section
theorem Xh{w:World}{ops:Array Oper}{rest:List Oper}{o:Oper}{a:Act}{Q:Exit->Act->World->Prop}(hgd:o.guard=none)(s x:Operand)(ho:o.op=.call { callee:=.builtin .append,args:=#[s,x],argTypes:=#[24,24] })(ao:Option Addr)(cap:Nat)(bk:List (List Int))(hs:a.eval s=.slice none 0 0)(hx:a.eval x=.slice ao bk.length cap)(hb:fM ao bk w)(hl:bk.length<=1000)(ha:ao=none->bk=[]∧cap=0)(h:∀v' w',iD w.heap.size w' v' bk->Below w.heap.size w w'->wpList prog ops Q rest (a.put o.dst v') w'):wpList prog ops Q (o::rest) a w:=by
 cases ao with
 | none =>obtain⟨rfl,rfl⟩:=ha rfl;obtain⟨f,i,l,n,p⟩:=info_parts Aq;exact wpList_append_own_none hgd s x 24 ho w.heap.size 77 f 6 underlying24 i (.slice none 0 0) 0 [] hs (World.ownsRow_nil _ _ _ _) hx (h _ _ (iD.nil _ _) (Below.refl _ _))
 | some ad =>
  by_cases h0:bk=[]
  ·subst h0;exact Js hgd s x ho w.heap.size _ [] hs (iD.nil _ _) ad cap hx (by simp) (Nat.le_refl _) (fun v' w' h1 h2=>h v' w' h1 ((Below.refl _ _).grown h2 (Nat.le_refl _) (fun k e=>by cases e)))
  ·obtain⟨g,b,e,_,d⟩:=hb (List.length_pos_iff.2 h0);obtain rfl:ad=⟨g,b,none⟩:=Option.some.inj e;exact E8 hgd s x ho w.heap.size _ [] hs (iD.nil _ _) g b bk.length cap bk hx rfl d (by simp only[List.length_nil];omega) (Nat.le_refl _) (fun v' w' h1 h2=>h v' w' h1 ((Below.refl _ _).grown h2 (Nat.le_refl _) (fun k e=>by cases e)))
def Kg(ps:Array (Nat×Value)):Sem Value:=Instr.build 54 ps
theorem Xi(ps:Array (Nat×Value)):Instr.build 54 ps=Kg ps:=rfl
theorem Xj(c:List Int)(inj:Bool)(a:Option Addr)(n cap:Nat)(T:Nat)(w:World):(Kg #[(0,.agg (dh c inj a n cap)),(1,.pointer (some ⟨T,0,none⟩))]).run prog w=.ok (.agg (rJ c inj a n cap T (.slice none 0 0) 0)) w:=by kernel_rfl
attribute [local go_sem ↓] rU Xi
theorem Xk(c:List Int)(inj:Bool)(a:Option Addr)(cap:Nat)(bk:List (List Int))(m:Nat)(w:World)(hb:fM a bk w)(hl:bk.length<=1000)(ha:a=none->bk=[]∧cap=0)(hm:el c 20=m)(h2:m<=16): Calls prog 8 #[.agg (dh c inj a bk.length cap)] w fun e w'=>∃B a' cap' tb ah,e=.returned (.pointer (some ⟨B,0,none⟩))∧bA B a' cap' tb (.slice none 0 0) [] ah (gZ c inj bk m) w'∧(∀k,GO B a' ah (aO (.slice none 0 0) []) k->w.heap.size<=k)∧Below w.heap.size w w':=by
 have d:=ki (qw w c inj a bk.length cap);have i:=ki (au w (.cells (dh c inj a bk.length cap) 26));have t:=ki (hb.below i.o);have K:=ki (And.intro hl ha);have N:=ki (fun W=>P5 m W h2);clear hb hl ha h2;go_enter func8,ntmps8;go_upto_region 2 with fail
 generalize w.alloc _=W0 at d i t⊢;have y:=d.o.kP;go_upto_region 3 with(at_builtin;(with_reducible refine Xh rfl (.tmp 4) (.tmp 6) rfl a cap bk rfl rfl t.o K.o.1 K.o.2 ?_);intro v3 O Q v;obtain⟨f,c3,rfl,R,S,T,U⟩:=Q.Jv;have l:=ki (And.intro R (And.intro S (And.intro T U)));have F:=ki (show w.heap.size<W0.heap.size from d.o.lt);replace d:=ki (d.o.kept v);replace i:=ki (bt i.o v);clear v y Q R S T U)
 have C:=d.o.yx f bk.length c3;have z3:=d.o.kP;have z4:=d.o.aZ 22;have G:=C.2.2.2.2.1;have b:=ki (show bk.length<=c3∧c3<=maxLen∧lM f bk (O.setCell ⟨w.heap.size,22,none⟩ (.slice f bk.length c3))∧∀k,kH f k->W0.heap.size<=k∧k<(O.setCell ⟨w.heap.size,22,none⟩ (.slice f bk.length c3)).heap.size from⟨l.o.1,l.o.2.1,l.o.2.2.1.same (fun k hk=>C.2.2.2.2.2 k (by have:=(l.o.2.2.2 k hk).1;have:=F.o;omega)),fun k hk=>by rw[G];exact l.o.2.2.2 k hk⟩);have z:=ki C;clear C G l t K;go_upto_region 4 with fail
 clear z3 z4;replace i:=ki (z.o.2.below i.o (Nat.le_refl _));replace d:=ki z.o.1;clear z;generalize World.setCell _ _ _=W4 at d i b⊢;have b4:Below W4.heap.size W4 W4.drew:=(Below.refl _ _).drew;replace d:=ki (d.o.kept b4);replace i:=ki (bt i.o b4);replace b:=ki (show bk.length<=c3∧c3<=maxLen∧lM f bk W4.drew∧∀k,kH f k->W0.heap.size<=k∧k<W4.drew.heap.size from⟨b.o.1,b.o.2.1,b.o.2.2.1.same (fun k hk=>b4.block k (b.o.2.2.2 k hk).2),fun k hk=>⟨(b.o.2.2.2 k hk).1,Nat.lt_of_lt_of_le (b.o.2.2.2 k hk).2 b4.size⟩⟩);have L:=d.o.cl;have D:=d.o.c20;rw[hm] at D;clear b4;have V:=Xj c inj f bk.length c3;go_region_held3 (fun W'=>(tL (.pointer (some ⟨w.heap.size,0,none⟩))).run prog W'=.ok (.agg (dh c inj f bk.length c3)) W'∧W'.cell? ⟨w.heap.size,20,none⟩=some (.int .i64 m))
  (first
   | exact⟨d.o.cl,by rw[d.o.c20,hm]⟩
   | exact M.o
   | exact⟨(n.o.kept (au g _)).cl,((n.o.kept (au g _)).c20).trans (by rw[hm])⟩
   | go_keep)
  (first|(go_at_call 30;refine(N.o _).mono ?_;rintro e g ⟨tb,P,BW,BT,rfl,X,Y,o⟩;have n:=ki (d.o.kept o);have Z:=ki (bt i.o o);have H:=ki X;have I:=ki Y;have J:=ki o;have M:=ki (show(tL (.pointer (some ⟨w.heap.size,0,none⟩))).run prog g=.ok (.agg (dh c inj f bk.length c3)) g∧g.cell? ⟨w.heap.size,20,none⟩=some (.int .i64 m) from⟨n.o.cl,by rw[n.o.c20,hm]⟩);clear L D X Y o;obtain⟨L,D⟩:=M.o))
 all_goals
  obtain⟨ah,A,o6⟩:∃ah,jw tb m (fun _=>[]) (fun _=>false) [] ah g∧∀k,ah k->W4.drew.heap.size<=k∧k<g.heap.size:=by
   have A:jw tb m (fun _=>[]) (fun _=>false) [] _ g:=⟨P,BW,BT,_,H.o,rfl⟩;refine⟨_,A,fun k hk=>⟨?_,A.lt k hk⟩⟩;obtain⟨p1,p2,p3,p4⟩:=I.o;rcases hk with rfl|rfl|rfl|rfl|hk
   ·exact p1
   ·exact p2
   ·exact p3
   ·exact p4
   ·cases hk
  have aa:=ki A;have ab:=ki o6;clear A o6;have b6:=au g (.cells (rJ c inj f bk.length c3 tb (.slice none 0 0) 0) 54);have ad:=ki (show fQ g.heap.size c inj f bk.length c3 tb (.slice none 0 0) 0 _ from heap_alloc_new g (.cells (rJ c inj f bk.length c3 tb (.slice none 0 0) 0) 54));have q:=ki b6;clear b6 H I M L D V N;go_wp2;go_ret;have r:∀k,¬aO (.slice none 0 0) [] k:=fun k hk=>by
   rcases hk with hk|⟨x,hx,_⟩
   ·cases hk
   ·cases hx
  have ae:=J.o.size;have s:=b.o.2.2.2;have E:=ab.o;refine⟨g.heap.size,f,c3,tb,ah,rfl,⟨ad.o,⟨b.o.2.2.1.same (fun k hk=>(q.o.block k (by have:=(s k hk).2;omega)).trans (J.o.block k (s k hk).2)),fun k hk=>Nat.lt_of_lt_of_le (s k hk).2 (Nat.le_trans ae q.o.size),b.o.1,b.o.2.1⟩,aa.o.same (fun k hk=>q.o.block k (E k hk).2),⟨gD.nil _,fun x hx=>(by cases hx),fun p st hp=>(by cases hp),List.Pairwise.nil⟩,⟨fun h=>?_,fun h=>?_,r _⟩,fun k hk=>⟨fun h=>?_,r _⟩,fun k _=>r k⟩,fun k hk=>?_,bt Z.o q.o⟩
  ·have:=(s _ h).2;omega
  ·have:=(E _ h).2;omega
  ·have:=(s _ hk).2;have:=(E _ h).1;omega
  ·have hs:=i.o.size;have ap:=F.o;rcases hk with h|h|h|h
   ·omega
   ·have:=(s _ h).1;omega
   ·have:=(E _ h).1;omega
   ·exact absurd h (r _)
end
section
theorem Xl(a:Option Addr)(len cap:Nat)(zs:List Int)(w:World)(hr:aj w a len cap zs)(hcl:len<=cap)(hcm:cap<=maxLen): Calls prog 42 #[.slice a len cap] w fun e w'=>((¬P4.Good zs∧e=.returned (.tuple #[aF.iH,.int .i64 (e4 zs)]))∨(P4.Good zs∧∃a',e=.returned (.tuple #[aF.pk (P4.src zs) (P4.dst zs) (zs.getD 8 0) (zs.getD 9 0) (P4.wd zs 4) a' (len-20) (cap-20),.int .i64 0])∧aj w' a' (len-20) (cap-20) (zs.drop 20)))∧Below w.heap.size w w':=by
 have hl:=hr.1;by_cases hS:P4.ko zs
 ·have i:=hS;unfold P4.ko at i;obtain⟨g,d,rfl,_⟩:=hr.2.2.2.2 (by omega);have l:e4 zs=6:=by unfold e4;exact if_pos i
  classical
  have b:P4.wd zs 10=P4.jm zs↔decide (P4.wd zs 10=P4.jm zs)=true:=decide_eq_true_iff.symm;generalize decide (P4.wd zs 10=P4.jm zs)=r at b;refine(aF.WL g d len cap zs w hr hcl hcm hS r b).mono ?_;rintro e w' ⟨⟨rfl,h1⟩|⟨rfl,a',h1,f⟩,k⟩
  ·refine⟨.inl ⟨fun hG=>?_,by rw[l];exact h1⟩,k⟩;have:=b.1 hG.2;cases this
  ·exact⟨.inr ⟨⟨hS,b.2 rfl⟩,a',h1,f⟩,k⟩
 ·have n:e4 zs=5:=by unfold e4;exact if_neg hS
  rw[n];have hG:¬P4.Good zs:=fun h=>hS h.1
  by_cases hlen:len<20∨340<len
  ·exact(aF.BL a len cap w hlen hr.2.1).mono fun e w' ⟨h1,f⟩=>⟨.inl ⟨hG,h1⟩,f⟩
  ·obtain⟨g,d,rfl,_⟩:=hr.2.2.2.2 (by omega);exact(aF.SV g d len cap zs w hr (by omega) (by omega) hS).mono fun e w' ⟨h1,f⟩=>⟨.inl ⟨hG,h1⟩,f⟩
theorem Kh:∀{l:List (Int×Nat)},l.Pairwise (fun x y=>x.1≠y.1∧x.2≠y.2)->∀{x y:Int×Nat},x∈l->y∈l->x=y∨(x.1≠y.1∧x.2≠y.2)
 | [],_,_,_,hx,_=>by cases hx
 | z::r,h,x,y,hx,hy=>by
  rw[List.pairwise_cons] at h;rcases List.mem_cons.1 hx with ex|hx'
  ·rcases List.mem_cons.1 hy with ey|hy'
   ·exact .inl (ex.trans ey.symm)
   ·exact .inr (ex ▸ h.1 y hy')
  ·rcases List.mem_cons.1 hy with ey|hy'
   ·subst ey;exact .inr ⟨fun e=>(h.1 x hx').1 e.symm,fun e=>(h.1 x hx').2 e.symm⟩
   ·exact Kh h.2 hx' hy'
theorem bA.turn{B:Nat}{a:Option Addr}{cap tb:Nat}{sv:Value}{l:List (Int×Nat)}{ah:Nat->Prop}{g:GS}{w w':World}(h:bA B a cap tb sv l ah g w){x:Int×Nat}(hx:x∈l)(u:cK x.2 w w'){st:List Int×Int×Bool×Bool}(hst:ST 101 x.2 st.1 st.2.1 st.2.2.1 st.2.2.2 w'): bA B a cap tb sv l ah (g.str (sup x.1 st g.ss)) w'∧aL (GO B a ah (aO sv l)) w w':=by
 obtain⟨z,A,C⟩:=h.2.2.2.2;have f:aO sv l x.2:=.inr ⟨x,hx,rfl⟩;obtain⟨G,D,d⟩:=h.2.2.2.1.2.1 x hx;have E:∀a n c zs,aj w a n c zs->aj w' a n c zs:=fun _ _ _ _ r=>d.row u r
 have o:Fr (fun k=>k=x.2) w w':=⟨u.1,u.2.1,u.2.2.1,u.2.2.2.1,fun k hk hn=>u.2.2.2.2 k hk hn⟩;have i:∀k,sv.ownBlock=some k->k≠x.2:=fun k hk e=>by
  obtain⟨H,b⟩:=pV h.2.2.2.1.1.1 k hk;obtain⟨_,_,_,q,_⟩:=d;unfold dF at q;rw[e,q] at b;injection b with b
  injection b with _ b
  cases b
 refine⟨⟨h.1.same (u.2.2.2.2 B h.1.lt (fun e=>z.2.2 (e ▸ f))),⟨h.2.1.1.same (fun k hk=>u.2.2.2.2 k (h.2.1.2.1 k hk) (fun e=>(A k hk).2 (e ▸ f))),fun k hk=>Nat.lt_of_lt_of_le (h.2.1.2.1 k hk) u.2.2.2.1,h.2.1.2.2⟩,h.2.2.1.same (fun k hk=>u.2.2.2.2 k (h.2.2.1.lt k hk) (fun e=>C k hk (e ▸ f))),⟨h.2.2.2.1.1.same (fun k hk=>u.2.2.2.2 k (cO h.2.2.2.1.1.1 k hk).1 (i k hk)),fun y hy=>?_,fun p st' hp=>?_,h.2.2.2.1.2.2.2⟩,h.2.2.2.2⟩,o.mono (fun k hk=>.inr (.inr (.inr (by rw[hk];exact f)))),E⟩
 ·rcases Kh h.2.2.2.1.2.2.2 hy hx with rfl|hne
  ·exact⟨st,y5 _ st (jA D),hst⟩
  ·obtain⟨s,F,t⟩:=h.2.2.2.1.2.1 y hy;exact⟨s,(vS x.1 y.1 st hne.1 g.ss).trans F,d.other u t hne.2⟩
 ·by_cases e:p=x.1
  ·exact⟨x,hx,e.symm⟩
  ·have v:bH g.ss p=some st':=by
    rw[<-vS x.1 p st e g.ss];exact hp
   exact h.2.2.2.1.2.2.1 p st' v
end
end Go.Proofs.YtgcojnlngchllaaGreatDoor
