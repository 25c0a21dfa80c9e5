import Derived.Test.YtgcojnlngchllaaGreatDoorJ10
import Derived.Test.YtgcojnlngchllaaGreatDoorJ08
namespace Go.Proofs.YtgcojnlngchllaaGreatDoor
open Go.RowKit Tryz
set_option linter.unusedVariables false
set_option maxRecDepth 100000
set_option maxHeartbeats 40000000
section
variable {f:List Int}{B:Nat}{W w:World}
theorem mg(W:World)(x:Int):Ints W.heap.size [x] (W.alloc (.cells #[.int .i64 x] 3)):=jo W [x]
theorem Ints.al{l:List Int}(h:Ints B l W)(o:Obj):Ints B l (W.alloc o):=((au W o).block B (Array.getElem?_eq_some_iff.1 h).1).trans h
theorem sI(W:World)(o:Obj)(x:Int):Ints (W.heap.size+1) [x] ((W.alloc o).alloc (.cells #[.int .i64 x] 3)):=by have:=mg (W.alloc o) x;rwa [World.size_alloc] at this
theorem Az(W:World)(o p:Obj)(x:Int):Ints (W.heap.size+1+1) [x] (((W.alloc o).alloc p).alloc (.cells #[.int .i64 x] 3)):=by have:=mg ((W.alloc o).alloc p) x;rwa [World.size_alloc,World.size_alloc] at this
def fV(w:World)(B:Nat)(f:List Int)(W:World):Prop:=W.cell? ⟨B,0,none⟩=some (.int .i64 (el f 0))∧W.cell? ⟨B,9,none⟩=some (.int .i64 (el f 9))∧W.cell? ⟨B,18,none⟩=some (.int .i64 (el f 18))∧bn B f W∧Below w.heap.size w W
theorem xA(h:bn B f W)(hb:Below w.heap.size w W):fV w B f W:=⟨h.cell 0 (by omega),h.cell 9 (by omega),h.cell 18 (by omega),h,hb⟩
theorem fV.al(h:fV w B f W)(o:Obj):fV w B f (W.alloc o):=xA (h.2.2.2.1.kept (au W o)) (bt h.2.2.2.2 (au W o))
theorem Ints.dr{l:List Int}(h:Ints B l W):Ints B l W.drew:=h
theorem fV.dr(h:fV w B f W):fV w B f W.drew:=xA h.2.2.2.1 h.2.2.2.2.drew
theorem fV.un(h:fV w B f W.drew)(hb:Below w.heap.size w W):fV w B f W:=xA h.2.2.2.1 hb
theorem Nk{n:Nat}(h:Below n w W.drew):Below n w W:=⟨h.os,h.tape,h.output,h.size,h.block⟩
theorem fV.Nl(h:fV w B f W.drew)(o:Obj):fV w B f (W.alloc o).drew:=((h.un (Nk h.2.2.2.2)).al o).dr
theorem fV.bl(h:fV w B f W):Below w.heap.size w W:=h.2.2.2.2
theorem fV.cl(h:fV w B f W):W.rangeAt B 1 (av (cli f)).toList:=h.2.2.2.1.cli
theorem fV.ds(h:fV w B f W):W.rangeAt B 10 (av (dst f)).toList:=h.2.2.2.1.dst
theorem Fj(seed:Int)(f:List Int)(w:World)(hs:0<=seed∧seed<2147483648)(hf:aW f=true): Calls prog 195 #[.int .i64 seed,.agg (ak f)] w fun e w'=>e=.returned (.int .i64 (eX seed (nl f 19)))∧Below w.heap.size w w':=by
 have r:=ki (show fV w w.heap.size f (w.alloc (.cells (ak f) 89)) from xA (iC f w) (au _ _));have s:=ny hf 0 (by omega);have t:=ny hf 9 (by omega);have p:=ny hf 18 (by omega);have hc:s6 (cli f)=true∧s6 (dst f)=true:=by unfold aW at hf;simp only[Bool.and_eq_true] at hf;exact⟨hf.1.1.1.2,hf.1.1.2⟩
 have v:=xk (x:=seed) (n:=el f 0) hs.1 s.1;have A:∀x z,0<=x∧x<2147483648->s6 z=true->0<=l9 x z∧l9 x z<2147483648:=by
  intro x z G H;have b:=(fE z).1 H;refine qK G _ ?_;intro y F;simp only[List.mem_cons,List.not_mem_nil,or_false] at F;rcases F with rfl|rfl|rfl|rfl|rfl|rfl|rfl|rfl
  ·exact(b 0 (by omega)).1
  ·exact(b 1 (by omega)).1
  ·exact(b 2 (by omega)).1
  ·exact(b 3 (by omega)).1
  ·exact(b 4 (by omega)).1
  ·exact(b 5 (by omega)).1
  ·exact(b 6 (by omega)).1
  ·exact(b 7 (by omega)).1
 have C:=A _ _ v hc.1;have D:=xk (n:=el f 9) C.1 t.1;have e4:=A _ _ D hc.2;have g:=ki (show mx (l9 (mx (l9 (mx seed (el f 0)) (cli f)) (el f 9)) (dst f)) (el f 18)=eX seed (nl f 19) from rfl);have E:=ki (fun B W h=>xw seed (el f 0) B W hs s h);have o:=ki (fun B W h=>Fg (mx seed (el f 0)) (cli f) B 1 W v hc.1 h);have l:=ki (fun B W h=>xw (l9 (mx seed (el f 0)) (cli f)) (el f 9) B W C t h);have k:=ki (fun B W h=>Fg (mx (l9 (mx seed (el f 0)) (cli f)) (el f 9)) (dst f) B 10 W D hc.2 h);have i:=ki (fun B W h=>xw (l9 (mx (l9 (mx seed (el f 0)) (cli f)) (el f 9)) (dst f)) (el f 18) B W e4 p h);clear v C D e4 A hc s t p hs hf;generalize mx seed (el f 0)=x1 at E o l k i g;generalize l9 x1 (cli f)=x2 at o l k i g;generalize mx x2 (el f 9)=x3 at l k i g;generalize l9 x3 (dst f)=x4 at k i g;generalize mx x4 (el f 18)=x5 at i g;generalize eX seed (nl f 19)=x6 at g⊢;obtain rfl:=g.o;clear g;go_enter func195,ntmps195;go_upto_region 1 with fail
 generalize w.alloc _=W at r⊢;have q:=ki (show fV w w.heap.size f W.drew from r.o.dr);clear r;go_region_held3 (fun W'=>W'.cell? ⟨w.heap.size,0,none⟩=some (.int .i64 (el f 0))∧W'.cell? ⟨w.heap.size,9,none⟩=some (.int .i64 (el f 9))∧W'.cell? ⟨w.heap.size,18,none⟩=some (.int .i64 (el f 18))∧bn w.heap.size f W'∧Below w.heap.size w W')
  (first
   | exact q.o
   | assumption
   | (refine fV.Nl ?_ _;assumption))
  (first|(go_at_call 248;(with_reducible refine(E.o _ _ ?_).mono ?_);(first|exact(mg _ _).dr|exact(sI _ _ _).dr|exact(Az _ _ _ _).dr|exact((mg _ _).al _).dr|exact((sI _ _ _).al _).dr|exact(((mg _ _).al _).al _).dr);rintro e d ⟨rfl,a⟩;rw[a];clear a d)|(go_at_call 248;(with_reducible refine(o.o _ _ ?_).mono ?_);(refine fV.cl (w:=w) ?_;assumption);rintro e d ⟨rfl,a⟩;rw[a];clear a d)|(go_at_call 248;(with_reducible refine(l.o _ _ ?_).mono ?_);(first|exact(mg _ _).dr|exact(sI _ _ _).dr|exact(Az _ _ _ _).dr|exact((mg _ _).al _).dr|exact((sI _ _ _).al _).dr|exact(((mg _ _).al _).al _).dr);rintro e d ⟨rfl,a⟩;rw[a];clear a d)|(go_at_call 248;(with_reducible refine(k.o _ _ ?_).mono ?_);(refine fV.ds (w:=w) ?_;assumption);rintro e d ⟨rfl,a⟩;rw[a];clear a d)|(go_at_call 248;(with_reducible refine(i.o _ _ ?_).mono ?_);(first|exact(mg _ _).dr|exact(sI _ _ _).dr|exact(Az _ _ _ _).dr|exact((mg _ _).al _).dr|exact((sI _ _ _).al _).dr|exact(((mg _ _).al _).al _).dr);rintro e d ⟨rfl,a⟩;rw[a];clear a d))
 all_goals
  clear E o l k i q;go_wp2;go_ret;refine⟨rfl,fV.bl (B:=w.heap.size) (f:=f) ?_⟩;assumption
end
section
attribute [local go_sem ↓] sF
theorem AA:M7:=by
 intro a E bs w h hl T;have N:=ki h;have U:(bs.length:Int)<=9223372036854775807:=by unfold maxLen at hl;omega
 clear h hl;by_cases h8:8<bs.length
 ·have O:=ki (show dz bs=(0,3) by unfold dz;rw[if_pos h8]);have P:(8:Int)<(bs.length:Int):=by omega
  go_enter func74,ntmps74;go_wp2;go_ret2;exact⟨by rw[O.o];rfl,Below.refl _ _⟩
 ·have H:=ki (fun i hi h1 h2=>EZ (bs:=bs) (i:=i) h8 hi h1 h2);have I:=ki (fun h=>Ao (bs:=bs) h8 h);have P:¬(8:Int)<(bs.length:Int):=by omega
  have V:(bs.length:Int)<=8:=by omega
  have X:bs.length<=8:=by omega
  have J:=ki nO;unfold iy at J;clear h8;generalize dz bs=R at H I⊢;go_enter func74,ntmps74;go_wp2;go_loopw [13] (fun t wr=>∃k:Nat,k<=bs.length∧t=.int .i64 k∧Hid (∀j,j<k->(flt bs j != 0)=false)∧Hid (Below w.heap.size w wr)) (fun t _=>bs.length-(intOf t).toNat)
  case atStart=>exact⟨0,by omega,rfl,fun j h=>absurd h (by omega),Below.refl _ _⟩
  case round =>
   obtain⟨k,hk,rfl,HI,d⟩:=hrel;by_cases hlt:k<bs.length
   ·obtain⟨g,s,rfl,v,x⟩:=N.o (by omega);have K:=ki (show ∀W,Below w.heap.size w W->∀k,k<bs.length->W.rangeAt g (s+k*6) (bG (bs.getD k [])).toList from fun W hW k hk j u hu=>by rw[hW.cell (p:=⟨g,s+k*6+j,none⟩) v];exact x k hk j u hu);have Q:=ki v;have Y:(k:Int)<(bs.length:Int):=by omega
    have gk:=sG (K.o wr d.o k hlt);have l:=ki (show flt bs k=if iK (bs.getD k [])=true then (if hid bs k (el (bs.getD k []) 0)=true then 8 else 0) else 1 from rfl);have L:=ki (H.o k hlt);clear x v;obtain⟨b,hb⟩:∃b,bs.getD k []=b:=⟨_,rfl⟩;rw[hb] at gk l;clear hb;have n:=ki (fun W=>Nf b W);generalize iK b=ok at n l;go_upto_region 6 with(refine kC rfl (.tmp 5) (.tmp 17) rfl rfl (J.o wr) b rfl ?_;intro Z M F;replace d:=ki (bt d.o (bq _ F));have o:=ki M;clear F M)
    clear gk;generalize wr.heap.size=D at o⊢;have gk:=o.o.kl;cases ok
    ·have y:=ki (show R=((k:Int),1) by rw[L.o (by rw[l.o];rfl) HI.o,l.o];rfl);rw[show ev (fe false)=err 1 from rfl] at n;unfold err at n;go_wp2_with (go_at_call 129;(with_reducible refine(n.o _).mono ?_);rintro e B ⟨rfl,f⟩;replace d:=ki (bt d.o f);clear f)
     go_ret2;exact⟨by rw[y.o];rfl,d.o⟩
    ·rw[show ev (fe true)=.nilIface from rfl] at n;go_upto_region 9 with(go_at_call 129;(with_reducible refine(n.o _).mono ?_);rintro e B ⟨rfl,f⟩;replace d:=ki (bt d.o f);replace o:=ki (o.o.kept f);clear f)
     clear gk;have C:=ki (fun W (hW:Below w.heap.size w W)=>Ni g s k E bs (el b 0) W (by omega) (Nat.lt_of_lt_of_le Q.o hW.size) (fun j hj=>K.o W hW j (by omega)));generalize hid bs k (el b 0)=hh at C l;have q:=ki (show Below w.heap.size w B.drew from d.o.drew);have c0:=lC (show B.drew.rangeAt D 0 (bG b).toList from o.o.rng);generalize el b 0=x0 at C c0;have j2:(k:Int)<=(E:Int):=by omega
     have z:=ki c0;have S:=ki (show D<B.drew.heap.size from o.o.lt);go_region_held3 (fun W'=>W'.cell? ⟨D,0,none⟩=some (.int .i64 x0))
      (first
       | exact z.o
       | exact G.o
       | go_keep)
      (first|(go_at_call 130;(with_reducible refine(C.o _ q.o).mono ?_);rintro r w4 ⟨rfl,A⟩;have G:=ki ((A.cell (p:=⟨D,0,none⟩) S.o).trans z.o);replace d:=ki (q.o.trans (A.mono q.o.size));clear A))
     clear z G q C o n;cases hh
     ·have y:=ki (show(flt bs k != 0)=false by rw[l.o];rfl);go_wp2;go_roundw
      case rel=>exact⟨k+1,by omega,by go_num,fun j hj=>if e:j=k then by rw[e];exact y.o else HI.o j (by omega),d⟩
      case measure=>simp[intOf];omega
     ·have y:=ki (show R=((k:Int),8) by rw[L.o (by rw[l.o];rfl) HI.o,l.o];rfl);go_wp2;go_ret2;exact⟨by rw[y.o];rfl,d.o⟩
   ·obtain rfl:bs.length=k:=by omega
    go_wp2;go_ret2;exact⟨by rw[I.o HI.o];rfl,d.o⟩
end
section
def xB(w:World)(f:List Int)(W:World):Prop:=bn w.heap.size f W∧Below w.heap.size w W
theorem xB.kept{w:World}{f:List Int}{W W':World}(h:xB w f W)(hb:Below W.heap.size W W'):xB w f W':=⟨h.1.kept hb,bt h.2 hb⟩
theorem Nn(w:World)(f:List Int):xB w f (w.alloc (.cells (ak f) 89)):=⟨iC f w,au _ _⟩
attribute [local go_sem ↓] gP
theorem Fp:M8:=by
 intro seed f id w;have a:=ki (Nn w f);have i:=ki (fun W=>Ay 2147483647 seed W);have l:=ki (fun W=>Ay 65535 id W);have n:=ki (fun W=>om f W);have b:=ki (show fA seed f id=(fB 2147483647 seed && fB 65535 id && aW f) from rfl);have d:=ki (show sv seed f id=if fA seed f id=true then sc seed f id else 0 from rfl);cases hu:fB 2147483647 seed
 ·rw[hu] at i b;replace b:=ki (show fA seed f id=false from b.o);rw[b.o] at d⊢;replace d:=ki (show sv seed f id=0 from d.o);rw[d.o];clear b d hu l n;go_enter func194,ntmps194;go_upto_region 1 with fail
  generalize w.alloc _=W at a⊢;go_wp2_with (go_at_call 188;(with_reducible refine(i.o _).mono ?_);rintro e t ⟨rfl,g⟩;replace a:=ki (a.o.kept g);clear g)
  go_ret2;exact⟨rfl,a.o.2⟩
 ·cases hv:fB 65535 id
  ·rw[hu,hv] at b;rw[hu] at i;rw[hv] at l;replace b:=ki (show fA seed f id=false from b.o);rw[b.o] at d⊢;replace d:=ki (show sv seed f id=0 from d.o);rw[d.o];clear b d hu hv n;go_enter func194,ntmps194;go_upto_region 1 with fail
   generalize w.alloc _=W at a⊢;go_wp2_with (first|(go_at_call 188;(with_reducible refine(i.o _).mono ?_);rintro e t ⟨rfl,g⟩;replace a:=ki (a.o.kept g);clear g)|(go_at_call 188;(with_reducible refine(l.o _).mono ?_);rintro e A ⟨rfl,h⟩;replace a:=ki (a.o.kept h);clear h))
   go_ret2;exact⟨rfl,a.o.2⟩
  ·cases hf:aW f
   ·rw[hu,hv,hf] at b;rw[hu] at i;rw[hv] at l;rw[hf,show ev (fe false)=err 1 from rfl] at n;unfold err at n;replace b:=ki (show fA seed f id=false from b.o);rw[b.o] at d⊢;replace d:=ki (show sv seed f id=0 from d.o);rw[d.o];clear b d hu hv hf;go_enter func194,ntmps194;go_upto_region 1 with fail
    generalize w.alloc _=W at a⊢;go_upto_region 3 with(first|(go_at_call 188;(with_reducible refine(i.o _).mono ?_);rintro e t ⟨rfl,g⟩;replace a:=ki (a.o.kept g);clear g)|(go_at_call 188;(with_reducible refine(l.o _).mono ?_);rintro e A ⟨rfl,h⟩;replace a:=ki (a.o.kept h);clear h))
    have v:=a.o.1.fl;go_wp2_with (go_at_call 199;(with_reducible refine(n.o _).mono ?_);rintro e D ⟨rfl,k⟩;replace a:=ki (a.o.kept k);clear k)
    go_ret2;exact⟨rfl,a.o.2⟩
   ·rw[hu,hv,hf] at b;rw[hu] at i;rw[hv] at l;rw[hf,show ev (fe true)=.nilIface from rfl] at n;replace b:=ki (show fA seed f id=true from b.o);rw[b.o] at d⊢;replace d:=ki (show sv seed f id=sc seed f id from d.o);rw[d.o];have hs:=(jT _ _).1 hu;have hd:=(jT _ _).1 hv;have o:0<=seed∧seed<2147483648:=⟨hs.1,by omega⟩;have B:=ki (fun W=>Fj seed f W o hf);have p:=qK o (nl f 19) (fun x hx=>(xg (id:=id) b.o x (by unfold nums;exact List.mem_append_left _ hx)).1);have y:=ki (fun W=>Fh (eX seed (nl f 19)) id W p hd);have C:=ki (show sc seed f id=(mx (eX seed (nl f 19)) id).tdiv 256 by unfold sc nums;rw[xq]);rw[C.o];clear b d hu hv hf hs hd o p C;generalize eX seed (nl f 19)=z at B y⊢;generalize (mx z id).tdiv 256=s at y⊢;go_enter func194,ntmps194;go_upto_region 1 with fail
    generalize w.alloc _=W at a⊢;go_upto_region 3 with(first|(go_at_call 188;(with_reducible refine(i.o _).mono ?_);rintro e t ⟨rfl,g⟩;replace a:=ki (a.o.kept g);clear g)|(go_at_call 188;(with_reducible refine(l.o _).mono ?_);rintro e A ⟨rfl,h⟩;replace a:=ki (a.o.kept h);clear h))
    have v:=a.o.1.fl;go_upto_region 6 with(go_at_call 199;(with_reducible refine(n.o _).mono ?_);rintro e D ⟨rfl,k⟩;replace a:=ki (a.o.kept k);clear k v)
    have v:=a.o.1.fl;go_wp2_with (first|(go_at_call 195;(with_reducible refine(B.o _).mono ?_);rintro e E ⟨rfl,q⟩;replace a:=ki (a.o.kept q);clear q)|(go_at_call 197;(with_reducible refine(y.o _).mono ?_);rintro e F ⟨rfl,r⟩;replace a:=ki (a.o.kept r);clear r))
    go_ret2;exact⟨rfl,a.o.2⟩
end
section
variable {f:List Int}
def pJ(w:World)(f:List Int)(W:World):Prop:=bn w.heap.size f W∧dY (w.heap.size+1) [] W∧Below w.heap.size w W
theorem pJ.kept{w:World}{W W':World}(h:pJ w f W)(hb:Below W.heap.size W W'):pJ w f W':=⟨h.1.kept hb,h.2.1.kept hb,bt h.2.2 hb⟩
theorem pJ.only{w:World}{W W':World}{D:Nat}(h:pJ w f W)(hb:Only D W W')(hD:w.heap.size+1<D):pJ w f W' :=
 ⟨(hb.2.2.2.2 _ (by omega)).trans h.1,(hb.2.2.2.2 _ (by omega)).trans h.2.1,hb.below h.2.2 (by omega)⟩
theorem Fq(w:World)(f:List Int):pJ w f ((w.alloc (.cells (ak f) 89)).alloc (.cells iy 77)):=by have d:=au w (.cells (ak f) 89);have a:=au (w.alloc (.cells (ak f) 89)) (.cells iy 77);have b:=nO (w.alloc (.cells (ak f) 89));rw[World.size_alloc] at b;exact⟨(iC f w).kept a,b,bt d a⟩
def tp(o:Option Nat)(m:Int):Int:=match o with|none=>-1|some _=>m
def bo(o:Option Nat)(bs:List (List Int)):List Int:=match o with|none=>[] | some i=>bs.getD i []
theorem Np{seed:Int}{bs:List (List Int)}{k:Nat}(h:cand (bs.getD k [])=false):bZ seed f bs (k+1)=bZ seed f bs k:=by simp only[bZ];rw[if_neg (by rw[h];simp)]
theorem Nq{seed:Int}{bs:List (List Int)}{k:Nat}(h:cand (bs.getD k [])=true){o:Option Nat}{m:Int}(hp:bZ seed f bs k=(o,m)):bZ seed f bs (k+1)=if oh bs o m (pv seed f (bs.getD k [])) k=true then (some k,pv seed f (bs.getD k [])) else (o,m):=by simp only[bZ];rw[if_pos h,hp]
attribute [local go_sem ↓] gP sF
theorem Fu(seed:Int)(f:List Int)(a:Option Addr)(cap:Nat)(bs:List (List Int))(w:World)(h:fM a bs w)(hl:bs.length<=maxLen)(hcp:bs.length<=cap)(e:Int)(he:dW seed f bs=([],e))(hc:(dz bs).2≠0∨((dz bs).2=0∧fA seed f 0=false)): Calls prog 141 #[.int .i64 seed,.agg (ak f),.slice a bs.length cap] w fun r w'=>r=.returned (.tuple #[.agg (bG []),ev e])∧Below w.heap.size w w':=by
 have b:=ki (Fq w f);have l:=ki (fun W (hW:Below w.heap.size w W)=>AA a cap bs W (h.below hW) hl hcp);have n:=ki (fun W=>Fp seed f 0 W);have i:=ki he;unfold iy at b;unfold dW at i;clear h hl hcp he;generalize (dz bs).1=p at l;generalize (dz bs).2=e0 at l hc i;generalize fA seed f 0=so at n hc i;generalize sv seed f 0=s0 at n;rcases hc with hc|⟨rfl,rfl⟩
 ·have q:=ki (show e0=e by have:=i.o;rw[if_neg hc] at this;injection this);rw[show ev e0=.iface 28 (.int .i64 e0) by unfold ev;rw[if_neg hc];rfl] at l;have t:=ki (show ev e=.iface 28 (.int .i64 e0) by rw[<-q.o];unfold ev;rw[if_neg hc];rfl);rw[t.o];clear hc i q t;go_enter func141,ntmps141;go_upto_region 1 with fail
  generalize (w.alloc _).alloc _=W at b⊢;go_wp2_with (first|(go_at_call 74;refine(l.o _ b.o.2.2).mono ?_;rintro r v ⟨rfl,d⟩;replace b:=ki (b.o.kept d);clear d)|(refine kC rfl (.tmp 6) (.tmp 25) rfl rfl b.o.2.1 [] rfl ?_;intro x k g;have o:=ki (g.below b.o.2.2 (Nat.le_succ _));replace k:=ki k;clear g))
  try simp only[Exit.inBlock,Exit.then]
  refine bodyPost_ret (pI rfl _ _ (w.heap.size+1) [] rfl k.o) rfl ?_;exact⟨rfl,o.o⟩
 ·obtain rfl:(1:Int)=e:=by have:=i.o;rw[if_pos rfl,if_neg (by decide)] at this;injection this
  rw[show ev (fe false)=err 1 from rfl] at n;rw[show ev 0=.nilIface from rfl] at l;rw[show ev 1=err 1 from rfl];unfold err at n⊢;clear i;go_enter func141,ntmps141;go_upto_region 1 with fail
  generalize (w.alloc _).alloc _=W at b⊢;go_upto_region 4 with(go_at_call 74;refine(l.o _ b.o.2.2).mono ?_;rintro r v ⟨rfl,d⟩;replace b:=ki (b.o.kept d);clear d)
  have y:=b.o.1.fl;go_wp2_with (first|(go_at_call 194;refine(n.o _).mono ?_;rintro r z ⟨rfl,s⟩;replace b:=ki (b.o.kept s);clear s)|(refine kC rfl (.tmp 6) (.tmp 35) rfl rfl b.o.2.1 [] rfl ?_;intro x k g;have o:=ki (g.below b.o.2.2 (Nat.le_succ _));replace k:=ki k;clear g))
  try simp only[Exit.inBlock,Exit.then]
  refine bodyPost_ret (pI rfl _ _ (w.heap.size+1) [] rfl k.o) rfl ?_;exact⟨rfl,o.o⟩
end
section
def KB(w:World)(f:List Int)(D:Nat)(o:Option Nat)(bs:List (List Int))(W:World):Prop:=pJ w f W∧dY D (bo o bs) W
theorem KB.kept{w:World}{f:List Int}{D:Nat}{o:Option Nat}{bs:List (List Int)}{W W':World}(h:KB w f D o bs W)(hb:Below W.heap.size W W'):KB w f D o bs W':=⟨h.1.kept hb,h.2.kept hb⟩
attribute [local go_sem ↓] gP sF
theorem Nr(seed:Int)(f:List Int)(a:Option Addr)(cap:Nat)(bs:List (List Int))(w:World)(h:fM a bs w)(hl:bs.length<=maxLen)(hcp:bs.length<=cap)(hb:(dz bs).2=0)(hs:fA seed f 0=true): Calls prog 141 #[.int .i64 seed,.agg (ak f),.slice a bs.length cap] w fun r w'=>r=.returned (.tuple #[.agg (bG (lD (bZ seed f bs bs.length).1 bs).1),ev (lD (bZ seed f bs bs.length).1 bs).2])∧Below w.heap.size w w':=by
 have T:=uK hb;have n9:=T.1;have dO:=ki T.2;have j9:(bs.length:Int)<=8:=by omega
 have z:=ki (Fq w f);have HH:=ki h;have Y:=ki (fun W (hW:Below w.heap.size w W)=>AA a cap bs W (h.below hW) hl hcp);rw[hb,show ev 0=.nilIface from rfl] at Y;have Z:=ki (fun W=>Fp seed f 0 W);have bb:=ki (qJ.1 hs);rw[hs,show ev (fe true)=.nilIface from rfl] at Z;obtain⟨g1,g2,-,g4⟩:=qJ.1 hs;have U:0<=seed∧seed<2147483648:=⟨g1,by omega⟩;have HM:=ki (fun W=>Fj seed f W U g4);have ai:=qK U (nl f 19) (fun x hx=>(xg hs x (by unfold nums;exact List.mem_append_left _ hx)).1);have M:=ki (show ∀id,0<=id∧id<=65535->sv seed f id=(mx (eX seed (nl f 19)) id).tdiv 256 from fun id hd=>by have ho:fA seed f id=true:=qJ.2 ⟨g1,g2,(jH id).2 hd,g4⟩;unfold sv;rw[if_pos ho];unfold sc nums;rw[xq]);have HQ:=ki (fun id W (hd:0<=id∧id<=65535)=>Fh (eX seed (nl f 19)) id W ai hd);unfold iy at z;have bX:=ki nO;unfold iy at bX;clear h hl hcp hb hs T g1 g2 g4 U ai;generalize (dz bs).1=p at Y;generalize sv seed f 0=s0 at Z;generalize eX seed (nl f 19)=mm at HM M HQ;obtain⟨R,hR⟩:∃R,lD (bZ seed f bs bs.length).1 bs=R:=⟨_,rfl⟩;rw[hR];have HR:=ki hR;clear hR;go_enter func141,ntmps141;go_upto_region 1 with fail
 generalize (w.alloc _).alloc _=W at z⊢;go_upto_region 4 with(go_at_call 74;refine(Y.o _ z.o.2.2).mono ?_;rintro r w1 ⟨rfl,dB⟩;replace z:=ki (z.o.kept dB);clear dB)
 have gf:=z.o.1.fl;go_upto_region 7 with(go_at_call 194;refine(Z.o _).mono ?_;rintro r Q ⟨rfl,A⟩;replace z:=ki (z.o.kept A);clear A gf)
 have gf:=z.o.1.fl;go_upto_region 8 with(go_at_call 195;(with_reducible refine(HM.o _).mono ?_);rintro r S ⟨rfl,bW⟩;replace z:=ki (z.o.kept bW);clear bW gf)
 clear Y Z HM;have HD:=ki (show w.heap.size+1<S.heap.size from z.o.2.1.lt);have e:=ki (show KB w f S.heap.size none bs (S.alloc (.cells #[.int .i64 0,.int .i64 0,.int .i64 0,.int .i64 0,.bool false,.bool false] 77)) from⟨z.o.kept (au _ _),bX.o S⟩);clear z;go_upto_region 9 with fail
 generalize S.alloc _=W4 at e⊢;generalize S.heap.size=D at e HD⊢;go_wp2;go_loopw [14,42] (fun u t wr=>∃(k:Nat) (o:Option Nat) (m:Int),k<=bs.length∧t=.int .i64 k∧u=.int .i64 (tp o m)∧Hid (0<=m)∧Hid (bZ seed f bs k=(o,m))∧Hid (KB w f D o bs wr)) (fun _ t _=>bs.length-(intOf t).toNat)
 case atStart=>exact⟨0,none,0,by omega,rfl,rfl,ki (by omega),rfl,e⟩
 case round =>
  clear e;obtain⟨k,o,m,hk,rfl,rfl,Hm,HP,e⟩:=hrel;by_cases hlt:k<bs.length
  ·obtain⟨g,am,rfl,an,V⟩:=HH.o (by omega);have j1:(k:Int)<(bs.length:Int):=by omega
   have gk:=sG (show wr.rangeAt g (am+k*6) (bG (bs.getD k [])).toList from fun j u hu=>by rw[e.o.1.2.2.cell (p:=⟨g,am+k*6+j,none⟩) an];exact V k hlt j u hu);have d:=ki (show bZ seed f bs (k+1)=if cand (bs.getD k [])=true then (if oh bs o m (pv seed f (bs.getD k [])) k=true then (some k,pv seed f (bs.getD k [])) else (o,m)) else (o,m) by
    cases hcd:cand (bs.getD k [])
    ·rw[Np hcd,HP.o];rfl
    ·rw[Nq hcd HP.o];rfl)
   have I:=(dO.o k hlt).1;have C:=ki (show(0<=el (bs.getD k []) 0∧el (bs.getD k []) 0<=65535)∧0<=el (bs.getD k []) 3∧el (bs.getD k []) 3<=10 by unfold iK at I;simp only[Bool.and_eq_true,decide_eq_true_eq] at I;exact⟨(jH _).1 I.1.1.1,I.2⟩);have F:=ki (show pv seed f (bs.getD k [])=sv seed f (el (bs.getD k []) 0)*el (bs.getD k []) 3 from rfl);rw[M.o _ C.o.1] at F;have J:=ki (fun W=>HQ.o _ W C.o.1);have N:0<=(mx mm (el (bs.getD k []) 0)).tdiv 256∧(mx mm (el (bs.getD k []) 0)).tdiv 256<8388608:=by rw[<-M.o _ C.o.1];exact E9 _ _ _
   clear I V an;have O:=ki (show bo (some k) bs=bs.getD k [] from rfl);have P:=ki (show ∀i n,oh bs (some i) m n k=(decide (m<n) || ((n == m) && decide (el (bs.getD k []) 0<el (bo (some i) bs) 0))) from fun _ _=>rfl);obtain⟨b,hbk⟩:∃b,bs.getD k []=b:=⟨_,rfl⟩;rw[hbk] at gk d C F J N O P;clear hbk;have HT:=ki (fun W=>Nj b W);go_upto_region 13 with(refine kC rfl (.tmp 16) (.tmp 45) rfl rfl (bX.o wr) b rfl ?_;intro w1 p1 ao;replace e:=ki (e.o.kept (bq _ ao));have v:=ki p1;clear ao p1)
   clear gk;generalize wr.heap.size=E at v⊢;have gk:=v.o.kl;generalize cand b=cd at HT d;cases cd
   ·replace d:Hid (bZ seed f bs (k+1)=(o,m)):=d;go_wp2_with (go_at_call 196;(with_reducible refine(HT.o _).mono ?_);rintro r Q ⟨rfl,A⟩;replace e:=ki (e.o.kept A);clear A gk)
    go_roundw
    case rel=>exact⟨k+1,o,m,by omega,by go_num,rfl,Hm,d,e⟩
    case measure=>simp[intOf];omega
   ·replace d:Hid (bZ seed f bs (k+1)=if oh bs o m (pv seed f b) k=true then (some k,pv seed f b) else (o,m)):=d;go_upto_region 14 with(go_at_call 196;(with_reducible refine(HT.o _).mono ?_);rintro r Q ⟨rfl,A⟩;replace e:=ki (e.o.kept A);replace v:=ki (v.o.kept A);clear A gk)
    clear HT;have ap:=ki (show KB w f D o bs Q.drew from e.o.kept ((Below.refl _ _).drew));have H:=ki (show dY E b Q.drew from v.o);have G:=ki (show Q.drew.cell? ⟨E,3,none⟩=some (.int .i64 (el b 3))∧Q.drew.cell? ⟨E,0,none⟩=some (.int .i64 (el b 0)) from⟨by have:=lu H.o.rng 3 (by omega);rwa [Nat.zero_add] at this,lC H.o.rng⟩);clear e v;obtain⟨s,hsx⟩:∃s,(mx mm (el b 0)).tdiv 256=s:=⟨_,rfl⟩;rw[hsx] at F J N;clear hsx;obtain⟨x3,hx3⟩:∃x,el b 3=x:=⟨_,rfl⟩;rw[hx3] at G F C;have bc:=ki hx3;clear hx3;obtain⟨x0,hx0⟩:∃x,el b 0=x:=⟨_,rfl⟩;rw[hx0] at G J P;have bd:=ki hx0;clear hx0;have q0:x3*s=s*x3:=Int.mul_comm _ _;have q1:IntKind.i64.wrap (s*x3)=s*x3∧0<=s*x3:=by obtain⟨-,a1,a2⟩:=C.o;obtain⟨b1,b2⟩:=N;have p1:0<=s*x3:=Int.mul_nonneg b1 a1;have p2:s*x3<=s*10:=Int.mul_le_mul_of_nonneg_left a2 b1;exact⟨by rw[IntKind.wrap_i64];omega,p1⟩
    obtain⟨n,hn⟩:∃n,s*x3=n:=⟨_,rfl⟩;rw[hn] at q0 q1 F;have q2:IntKind.i64.wrap (x3*s)=n:=by rw[q0];exact q1.1
    have Hn:=ki q1.2;rw[F.o] at d;clear hn q0 q1 F N C;obtain⟨c3,c0⟩:=G.o;go_region_held3 (fun W'=>W'.cell? ⟨E,3,none⟩=some (.int .i64 x3)∧W'.cell? ⟨E,0,none⟩=some (.int .i64 x0))
     (first
      | exact G.o
      | exact X.o
      | go_keep)
     (first|(go_at_call 197;(with_reducible refine(J.o _).mono ?_);rintro r w4 ⟨rfl,K⟩;have X:=ki (And.intro ((K.cell (p:=⟨E,3,none⟩) H.o.lt).trans G.o.1) ((K.cell (p:=⟨E,0,none⟩) H.o.lt).trans G.o.2));have e:=ki (ap.o.kept K);have v:=ki (H.o.kept K);clear K c3 c0;obtain⟨c3,c0⟩:=X.o))
    clear G X ap H J c3 q2 HQ M;cases o with
    | none =>
     rw[show tp none m = -1 from rfl];replace d:Hid (bZ seed f bs (k+1)=(some k,n)):=d;have d1:(-1:Int)<n:=by have:=Hn.o;omega
     have gk:=v.o.kl;go_wp2_with (refine kC rfl (.tmp 13) (.tmp 71) rfl rfl e.o.2 b rfl ?_;intro L q l;have B:=ki (show KB w f D (some k) bs L from⟨e.o.1.only l HD.o,by rw[O.o];exact q⟩);clear l q)
     go_roundw
     case rel=>exact⟨k+1,some k,n,by omega,by go_num,rfl,Hn,d,B⟩
     case measure=>simp[intOf];omega
    | some i =>
     rw[show tp (some i) m=m from rfl];rw[P.o i n] at d;have cD:=lC e.o.2.rng;obtain⟨y0,hy0⟩:∃y,el (bo (some i) bs) 0=y:=⟨_,rfl⟩;rw[hy0] at d cD;clear hy0 P;by_cases h1:m<n
     ·replace d:Hid (bZ seed f bs (k+1)=(some k,n)):=by rw[d.o,decide_eq_true h1];exact ki rfl
      have gk:=v.o.kl;go_wp2_with (refine kC rfl (.tmp 13) (.tmp 71) rfl rfl e.o.2 b rfl ?_;intro L q l;have B:=ki (show KB w f D (some k) bs L from⟨e.o.1.only l HD.o,by rw[O.o];exact q⟩);clear l q)
      go_roundw
      case rel=>exact⟨k+1,some k,n,by omega,by go_num,rfl,Hn,d,B⟩
      case measure=>simp[intOf];omega
     ·rw[decide_eq_false h1] at d;cases h2:n == m
      ·replace d:Hid (bZ seed f bs (k+1)=(some i,m)):=by rw[d.o,h2];exact ki rfl
       go_wp2;go_roundw
       case rel=>exact⟨k+1,some i,m,by omega,by go_num,rfl,Hm,d,e⟩
       case measure=>simp[intOf];omega
      ·rw[h2] at d;by_cases h3:x0<y0
       ·replace d:Hid (bZ seed f bs (k+1)=(some k,n)):=by rw[d.o,decide_eq_true h3];exact ki rfl
        have gk:=v.o.kl;go_wp2_with (refine kC rfl (.tmp 13) (.tmp 71) rfl rfl e.o.2 b rfl ?_;intro L q l;have B:=ki (show KB w f D (some k) bs L from⟨e.o.1.only l HD.o,by rw[O.o];exact q⟩);clear l q)
        go_roundw
        case rel=>exact⟨k+1,some k,n,by omega,by go_num,rfl,Hn,d,B⟩
        case measure=>simp[intOf];omega
       ·replace d:Hid (bZ seed f bs (k+1)=(some i,m)):=by rw[d.o,decide_eq_false h3];exact ki rfl
        go_wp2;go_roundw
        case rel=>exact⟨k+1,some i,m,by omega,by go_num,rfl,Hm,d,e⟩
        case measure=>simp[intOf];omega
  ·obtain rfl:bs.length=k:=by omega
   cases o with
   | none =>
    rw[show tp none m = -1 from rfl];have v:=ki (show R=([],4) by rw[<-HR.o,HP.o];rfl);go_wp2_with (refine kC rfl (.tmp 6) (.tmp 76) rfl rfl e.o.1.2.1 [] rfl ?_;intro L q l;have B:=ki (l.below e.o.1.2.2 (Nat.le_succ _));replace q:=ki q;clear l)
    try simp only[Exit.inBlock,Exit.then]
    refine bodyPost_ret (pI rfl _ _ (w.heap.size+1) [] rfl q.o) rfl ?_;exact⟨by rw[v.o];rfl,B.o⟩
   | some i =>
    rw[show tp (some i) m=m from rfl];have v:=ki (show R=(bo (some i) bs,0) by rw[<-HR.o,HP.o];rfl);have gk:=e.o.2.kl;obtain⟨bi,hbi⟩:∃b,bo (some i) bs=b:=⟨_,rfl⟩;rw[hbi] at gk v;clear hbi;have j2:¬m<0:=by have:=Hm.o;omega
    go_wp2_with (refine kC rfl (.tmp 6) (.tmp 78) rfl rfl e.o.1.2.1 bi rfl ?_;intro L q l;have B:=ki (l.below e.o.1.2.2 (Nat.le_succ _));replace q:=ki q;clear l)
    try simp only[Exit.inBlock,Exit.then]
    refine bodyPost_ret (pI rfl _ _ (w.heap.size+1) bi rfl q.o) rfl ?_;exact⟨by rw[v.o];rfl,B.o⟩
theorem Ns:M9:=by
 intro seed f a d bs w h hl e;by_cases hb:(dz bs).2=0
 ·cases hs:fA seed f 0
  ·have b:dW seed f bs=([],1):=by unfold dW;rw[if_pos hb,hs];rfl
   rw[b];exact Fu seed f a d bs w h hl e 1 b (.inr ⟨hb,hs⟩)
  ·have b:dW seed f bs=lD (bZ seed f bs bs.length).1 bs:=by unfold dW;rw[if_pos hb,hs];rfl
   rw[b];exact Nr seed f a d bs w h hl e hb hs
 ·have b:dW seed f bs=([],(dz bs).2):=by unfold dW;rw[if_neg hb]
  rw[b];exact Fu seed f a d bs w h hl e _ b (.inl hb)
end
end Go.Proofs.YtgcojnlngchllaaGreatDoor
