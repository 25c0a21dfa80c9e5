import Derived.Test.YtgcojnlngchllaaGreatDoorJ17
import Derived.Stop.Asserts
namespace Go.Proofs.YtgcojnlngchllaaGreatDoor
open Go.RowKit Tryz
set_option linter.unusedVariables false
set_option maxRecDepth 100000
set_option maxHeartbeats 40000000
section
attribute [local go_sem ↓] gP gV gy Bb F9
theorem PS(B P BW BT m:Nat)(ws:Nat->List Int)(ts:Nat->Bool)(v:Value)(bs:List (List Int))(f:List Int)(back far now:Int)(w:World)(h:RT B P BW BT (8*m) ws ts v bs w)(hm:m<=16)(hl:bs.length<=1000)(hf:aW f=true)(hr:(fr back && wd far && tc now)=true)(hi:bY bs f=none)(i:Nat)(ht:tk ws ts (cli f) (8*m)=some i): Calls prog 36 #[.pointer (some ⟨B,0,none⟩),.agg (ak f),.int .i64 back,.int .i64 far,.int .i64 now] w fun e w'=>∃v',e=.returned (.tuple #[.agg (ay (bL f (1024+(i:Int)) back far now)),.int .i64 0])∧RT B P BW BT (8*m) (upd ws i (cli f)) (upd ts i true) v' (ins (bL f (1024+(i:Int)) back far now) bs) w'∧Fr (fun g=>g=B∨g=BW∨g=BT) w w'∧∀g,v'.ownBlock=some g->w.heap.size<=g:=by
 have o:=ki (Gf f h);have HF:=ki (fun W=>xU f W);rw[hf,show fe true=0 from rfl] at HF;rw[Bool.and_eq_true,Bool.and_eq_true] at hr;have H1:=ki (fun W=>xS back W);have H2:=ki (fun W=>oq far W);have H3:=ki (fun W=>Gb now W);rw[hr.1.1] at H1;rw[hr.1.2] at H2;rw[hr.2] at H3;have HN:=ki (fun W (hW:RT B P BW BT (8*m) ws ts v bs W)=>Bd B P BW BT (8*m) ws ts v bs f W hW hl);rw[hi,show ix none=(-1:Int) from rfl] at HN;have HT:=ki (fun W hW=>PN P BW BT m ws ts (cli f) i W hW hm (xV hf) ht);have bc:=Bg ht;have j0:(i:Int)<=128:=by omega
 have bx:=fun W=>Ga f (1024+(i:Int)) back far now W
 obtain⟨x,hx⟩:∃x,bL f (1024+(i:Int)) back far now=x:=⟨_,rfl⟩;have a3:=ki (show el x 19=1024+(i:Int) by rw[<-hx];rfl);rw[hx] at bx⊢;have HX:=ki hx;have sx:=xR x;obtain⟨ao,bm,rfl,-,-,hg⟩:=h.2.2.shape;have HG:=ki hg;have fT:(bs.length:Int)<=1000:=by omega
 unfold aV at o;clear h hf hr hi ht bc hx hg;go_enter func36,ntmps36;go_upto_region 1 with fail
 generalize (w.alloc _).alloc _=W at o⊢;have g1:=o.o.2.1.fl;go_upto_region 11 with(first|(go_at_call 83;(with_reducible refine(HF.o _).mono ?_);rintro e w1 ⟨rfl,an⟩;replace o:=ki (o.o.kept an);clear an g1;have g1:=o.o.2.1.fl)|(go_at_call 24;(with_reducible refine(H1.o _).mono ?_);rintro e w' ⟨rfl,rfl⟩)|(go_at_call 22;(with_reducible refine(H2.o _).mono ?_);rintro e w' ⟨rfl,rfl⟩)|(go_at_call 84;(with_reducible refine(H3.o _).mono ?_);rintro e w' ⟨rfl,rfl⟩)|(go_at_call 34;refine(HN.o _ o.o.1).mono ?_;rintro e w2 ⟨rfl,ap⟩;replace o:=ki (o.o.kept ap);clear ap))
 clear g1;replace o:=ki (o.o.kept (Below.refl _ _).drew);have l0:=o.o.1.lI;have gc:=o.o.2.1.hc;go_region_held3 (fun w'=>w'.cell? ⟨B,0,none⟩=some (.pointer (some ⟨P,0,none⟩))∧(hload (.pointer (some ⟨w.heap.size,1,none⟩))).run prog w'=.ok (.agg (av (cli f))) w')
  (first
   | go_keep
   | exact⟨o.o.1.lI,o.o.2.1.hc⟩)
  (first|(go_at_call 85;refine(HT.o _ o.o.1.2.1).mono ?_;rintro e w6 ⟨rfl,aq,ar⟩;replace o:=ki (o.o.took aq ar);clear aq ar l0 gc;have l0:=o.o.1.lI;have gc:=o.o.2.1.hc))
 clear l0 gc HF H1 H2 H3 HN HT;have g1:=o.o.2.1.fl;have bX:=ki (fu w6);unfold aV at bX;go_upto_region 15 with(refine fF rfl (.tmp 17) (.tmp 68) rfl rfl bX.o x rfl ?_;intro n X dZ;have dR:=bq _ dZ;have U:=ki (show w.heap.size+1<w6.heap.size∧w6.heap.size<n.heap.size from⟨o.o.2.2.1.lt,X.lt⟩);replace o:=ki (o.o.kept dR);replace X:=ki X;clear dZ dR bX g1)
 generalize w6.heap.size=D at X U⊢;clear bx;go_wp2;go_loopw [18,19,20] (fun PU d t wr=>∃k:Nat,k<=bs.length∧t=.int .i64 k∧d=.bool (st x bs k).2∧Hid (bQ n.heap.size wr PU (st x bs k).1)∧Hid (Below n.heap.size n wr)) (fun _ _ t _=>bs.length-(intOf t).toNat)
 case atStart=>exact⟨0,by omega,rfl,rfl,bQ.nil _ _,Below.refl _ _⟩
 case round =>
  obtain⟨k,hk,rfl,rfl,F,E⟩:=hrel;have aw:=ki (o.o.kept E.o);have V:=aw.o.1.all;have G:=ki (Bf x bs k);by_cases hlt:k<bs.length
  ·obtain⟨g,rfl⟩:=HG.o (by omega);have j1:(k:Int)<(bs.length:Int):=by omega
   have c19:=aw.o.1.2.2.cell k 19 hlt (by omega);have r:=ki (show st x bs (k+1)=if (!(st x bs k).2 && decide (el x 19<el (bs.getD k []) 19))=true then ((st x bs k).1++[x]++[bs.getD k []],true) else ((st x bs k).1++[bs.getD k []],(st x bs k).2) from rfl);rw[a3.o] at r;obtain⟨bk,hbk⟩:∃b,bs.getD k []=b:=⟨_,rfl⟩;rw[hbk] at c19 r;have ae:=ki hbk;obtain⟨y,hy⟩:∃y,el bk 19=y:=⟨_,rfl⟩;rw[hy] at c19 r;have sk:=xR bk;generalize st x bs k=s at F r G⊢;obtain⟨l,d⟩:=s;replace F:Hid (bQ n.heap.size wr _ l):=F;replace G:Hid (l.length<=k+1∧(d=false->l.length=k)):=G;replace r:Hid (st x bs (k+1)=if (!d && decide (1024+(i:Int)<y))=true then (l++[x]++[bk],true) else (l++[bk],d)):=r;clear hbk hy;obtain⟨M,N,rfl,-,-,-⟩:=F.o.shape;by_cases hp:d=false∧1024+(i:Int)<y
   ·obtain⟨rfl,hy⟩:=hp;replace r:Hid (st x bs (k+1)=(l++[x]++[bk],true)):=by rw[r.o,if_pos (by rw[decide_eq_true hy];rfl)];exact ki rfl
    have a:=au wr (.cells (ay x) 95);have p:=ki (show bQ n.heap.size (wr.alloc (.cells (ay x) 95)) _ l from ig F.o (fun g e=>a.block g (cO F.o g e).1));have z:=ki (nD x wr);have A:=ki (show l.length+1<=1000000 by have:=G.o.1;omega);have q:=ki (show n.heap.size<=(wr.alloc (.cells (ay x) 95)).heap.size from Nat.le_trans E.o.size a.size);have C:=ki (show Below n.heap.size n (wr.alloc (.cells (ay x) 95)) from E.o.trans (a.mono E.o.size));have Y:=ki (X.o.kept E.o);have gx:=Y.o.bl;clear a;go_upto_region 23 with(at_builtin;(with_reducible refine nC rfl (.tmp 92) (.tmp 94) rfl n.heap.size (.slice M l.length N) l rfl p.o ⟨wr.heap.size,0,none⟩ 1 1 [x] rfl rfl z.o A.o q.o ?_);intro v5 J L g5 n5;replace C:=ki (C.o.grown g5 q.o (fun k e=>(cO p.o k e).2));replace L:=ki L;clear g5 n5 p z A q)
    clear V c19 gx;have H:=ki (o.o.kept C.o);have l2:=H.o.1.all;have gk:(iN (.pointer (some ⟨g,k*23,none⟩))).run prog J=.ok (.agg (ay bk)) J:=by have:=H.o.1.2.2.bl k hlt;rw[ae.o] at this;exact this
    have a:=au J (.cells (ay bk) 95);have p:=ki (show bQ n.heap.size (J.alloc (.cells (ay bk) 95)) v5 (l++[x]) from ig L.o (fun g e=>a.block g (cO L.o g e).1));have z:=ki (nD bk J);have A:=ki (show(l++[x]).length+1<=1000000 by have:=G.o.1;rw[List.length_append,List.length_singleton];omega);have q:=ki (show n.heap.size<=(J.alloc (.cells (ay bk) 95)).heap.size from Nat.le_trans C.o.size a.size);have I:=ki (show Below n.heap.size n (J.alloc (.cells (ay bk) 95)) from C.o.trans (a.mono C.o.size));clear a H;go_wp2_with (at_builtin;(with_reducible refine nC rfl (.tmp 96) (.tmp 104) rfl n.heap.size v5 (l++[x]) rfl p.o ⟨J.heap.size,0,none⟩ 1 1 [bk] rfl rfl z.o A.o q.o ?_);intro v8 w8 O Z n8;replace I:=ki (I.o.grown Z q.o (fun k e=>(cO p.o k e).2));replace O:=ki O;clear Z n8 p z A q)
    go_roundw
    case rel=>exact⟨k+1,by omega,by go_num,by rw[r.o],by rw[r.o];exact O,I⟩
    case measure=>simp[intOf];omega
   ·replace r:Hid (st x bs (k+1)=(l++[bk],d)):=by
     rw[r.o,if_neg (fun e=>hp (by rw[Bool.and_eq_true,decide_eq_true_eq] at e;exact⟨by simpa using e.1,e.2⟩))];exact ki rfl
    cases d
    ·have hy:¬1024+(i:Int)<y:=fun e=>hp ⟨rfl,e⟩
     clear hp;go_upto_region 23 with fail
     clear V c19;have H:=ki (o.o.kept E.o);have l2:=H.o.1.all;have gk:(iN (.pointer (some ⟨g,k*23,none⟩))).run prog wr=.ok (.agg (ay bk)) wr:=by have:=H.o.1.2.2.bl k hlt;rw[ae.o] at this;exact this
     have a:=au wr (.cells (ay bk) 95);have p:=ki (show bQ n.heap.size (wr.alloc (.cells (ay bk) 95)) (.slice M l.length N) l from ig F.o (fun g e=>a.block g (cO F.o g e).1));have z:=ki (nD bk wr);have A:=ki (show l.length+1<=1000000 by have:=G.o.1;omega);have q:=ki (show n.heap.size<=(wr.alloc (.cells (ay bk) 95)).heap.size from Nat.le_trans E.o.size a.size);have I:=ki (show Below n.heap.size n (wr.alloc (.cells (ay bk) 95)) from E.o.trans (a.mono E.o.size));clear a H;go_wp2_with (at_builtin;(with_reducible refine nC rfl (.tmp 96) (.tmp 104) rfl n.heap.size (.slice M l.length N) l rfl p.o ⟨wr.heap.size,0,none⟩ 1 1 [bk] rfl rfl z.o A.o q.o ?_);intro v8 w8 O Z n8;replace I:=ki (I.o.grown Z q.o (fun k e=>(cO p.o k e).2));replace O:=ki O;clear Z n8 p z A q)
     go_roundw
     case rel=>exact⟨k+1,by omega,by go_num,by rw[r.o],by rw[r.o];exact O,I⟩
     case measure=>simp[intOf];omega
    ·clear hp;go_upto_region 23 with fail
     clear V c19;have H:=ki (o.o.kept E.o);have l2:=H.o.1.all;have gk:(iN (.pointer (some ⟨g,k*23,none⟩))).run prog wr=.ok (.agg (ay bk)) wr:=by have:=H.o.1.2.2.bl k hlt;rw[ae.o] at this;exact this
     have a:=au wr (.cells (ay bk) 95);have p:=ki (show bQ n.heap.size (wr.alloc (.cells (ay bk) 95)) (.slice M l.length N) l from ig F.o (fun g e=>a.block g (cO F.o g e).1));have z:=ki (nD bk wr);have A:=ki (show l.length+1<=1000000 by have:=G.o.1;omega);have q:=ki (show n.heap.size<=(wr.alloc (.cells (ay bk) 95)).heap.size from Nat.le_trans E.o.size a.size);have I:=ki (show Below n.heap.size n (wr.alloc (.cells (ay bk) 95)) from E.o.trans (a.mono E.o.size));clear a H;go_wp2_with (at_builtin;(with_reducible refine nC rfl (.tmp 96) (.tmp 104) rfl n.heap.size (.slice M l.length N) l rfl p.o ⟨wr.heap.size,0,none⟩ 1 1 [bk] rfl rfl z.o A.o q.o ?_);intro v8 w8 O Z n8;replace I:=ki (I.o.grown Z q.o (fun k e=>(cO p.o k e).2));replace O:=ki O;clear Z n8 p z A q)
     go_roundw
     case rel=>exact⟨k+1,by omega,by go_num,by rw[r.o],by rw[r.o];exact O,I⟩
     case measure=>simp[intOf];omega
  ·obtain rfl:bs.length=k:=by omega
   have aa:=ki (show ins x bs=if (st x bs bs.length).2=true then (st x bs bs.length).1 else (st x bs bs.length).1++[x] from rfl);generalize st x bs bs.length=s at F aa G⊢;obtain⟨l,d⟩:=s;replace F:Hid (bQ n.heap.size wr _ l):=F;replace G:Hid (l.length<=bs.length+1∧(d=false->l.length=bs.length)):=G;replace aa:Hid (ins x bs=if d=true then l else l++[x]):=aa;obtain⟨M,N,rfl,-,-,-⟩:=F.o.shape;have Y:=ki (X.o.kept E.o);have ax:D≠B:=by have:=U.o.1;have:=o.o.2.2.2.2.1;omega
   cases d
   ·have gx:=Y.o.bl;have a:=au wr (.cells (ay x) 95);have p:=ki (show bQ n.heap.size (wr.alloc (.cells (ay x) 95)) (.slice M l.length N) l from ig F.o (fun g e=>a.block g (cO F.o g e).1));have z:=ki (nD x wr);have A:=ki (show l.length+1<=1000000 by have:=G.o.1;omega);have q:=ki (show n.heap.size<=(wr.alloc (.cells (ay x) 95)).heap.size from Nat.le_trans E.o.size a.size);have C:=ki (show Below n.heap.size n (wr.alloc (.cells (ay x) 95)) from E.o.trans (a.mono E.o.size));clear a;go_upto_region 26 with(at_builtin;(with_reducible refine nC rfl (.tmp 108) (.tmp 110) rfl n.heap.size (.slice M l.length N) l rfl p.o ⟨wr.heap.size,0,none⟩ 1 1 [x] rfl rfl z.o A.o q.o ?_);intro v5 J L g5 n5;replace C:=ki (C.o.grown g5 q.o (fun k e=>(cO p.o k e).2));replace L:=ki (show bQ n.heap.size J v5 (ins x bs) from by rw[aa.o];exact L);clear g5 n5 p z A q;obtain⟨a5,c5,rfl,-,-,-⟩:=L.o.shape)
    clear gx V Y;have K:=ki (o.o.kept C.o);have ab:=ki (X.o.kept C.o);have V:=K.o.1.all;have f1:J.frozen? ⟨B,1,none⟩=false:=by simp[World.frozen?,K.o.1.1]
    have Q:=ki (K.o.uV L.o (by have:=U.o;omega));have ac:=ki (show aJ D x (J.setCell ⟨B,1,none⟩ (.slice a5 (ins x bs).length c5)) from(Below.heap_setCell J ⟨B,1,none⟩ (.slice a5 (ins x bs).length c5) D ax).trans ab.o);have lT:=ki (show ∀g,(.slice a5 (ins x bs).length c5:Value).ownBlock=some g->w.heap.size<=g from fun g e=>by have:=(cO L.o g e).2;have:=U.o;omega);go_upto_region 27 with fail
    clear V f1 K ab;generalize J.setCell _ _=fK at Q ac⊢;have gx:=ac.o.bl;go_wp2_with (refine fF rfl (.tmp 10) (.tmp 116) rfl rfl Q.o.2.2.1 x rfl ?_;intro bi R S;have T:=ki (Q.o.answer S);replace R:=ki R;clear S)
    try simp only[Exit.inBlock,Exit.then]
    refine bodyPost_ret (iW rfl _ _ (w.heap.size+1) x rfl R.o) rfl ?_;exact⟨rfl,_,T.o.1,T.o.2,lT.o⟩
   ·go_upto_region 26 with fail
    clear V Y;have C:=E;have L:=ki (show bQ n.heap.size wr (.slice M l.length N) (ins x bs) from by rw[aa.o];exact F.o);have K:=ki (o.o.kept C.o);have ab:=ki (X.o.kept C.o);have V:=K.o.1.all;have f1:wr.frozen? ⟨B,1,none⟩=false:=by simp[World.frozen?,K.o.1.1]
    have Q:=ki (K.o.uV L.o (by have:=U.o;omega));have ac:=ki (show aJ D x (wr.setCell ⟨B,1,none⟩ (.slice M l.length N)) from(Below.heap_setCell wr ⟨B,1,none⟩ (.slice M l.length N) D ax).trans ab.o);have lT:=ki (show ∀g,((.slice M l.length N):Value).ownBlock=some g->w.heap.size<=g from fun g e=>by have:=(cO L.o g e).2;have:=U.o;omega);go_upto_region 27 with fail
    clear V f1 K ab;generalize wr.setCell _ _=fK at Q ac⊢;have gx:=ac.o.bl;go_wp2_with (refine fF rfl (.tmp 10) (.tmp 116) rfl rfl Q.o.2.2.1 x rfl ?_;intro bi R S;have T:=ki (Q.o.answer S);replace R:=ki R;clear S)
    try simp only[Exit.inBlock,Exit.then]
    refine bodyPost_ret (iW rfl _ _ (w.heap.size+1) x rfl R.o) rfl ?_;exact⟨rfl,_,T.o.1,T.o.2,lT.o⟩
end
section
def bg(b:List Int)(now:Int):List Int:=[el b 0,el b 1,el b 2,el b 3,el b 4,el b 5,el b 6,el b 7,el b 8,el b 9,el b 10,el b 11,el b 12,el b 13,el b 14,el b 15,el b 16,el b 17,el b 18,el b 19,el b 20,el b 21,now]
theorem Gg(b:List Int)(now:Int)(j:Nat)(hj:j<23):el (bg b now) j=if j=22 then now else el b j:=by rcases (by omega:j=0∨j=1∨j=2∨j=3∨j=4∨j=5∨j=6∨j=7∨j=8∨j=9∨j=10∨j=11∨j=12∨j=13∨j=14∨j=15∨j=16∨j=17∨j=18∨j=19∨j=20∨j=21∨j=22) with rfl|rfl|rfl|rfl|rfl|rfl|rfl|rfl|rfl|rfl|rfl|rfl|rfl|rfl|rfl|rfl|rfl|rfl|rfl|rfl|rfl|rfl|rfl<;>rfl
theorem Dn{α:Type}(l:List α)(k q:Nat)(x d:α)(hk:k<l.length):(l.set k x).getD q d=if q=k then x else l.getD q d:=by
 simp only[List.getD_eq_getElem?_getD];by_cases e:q=k
 ·subst e;rw[if_pos rfl,List.getElem?_set_self hk];rfl
 ·rw[if_neg e,List.getElem?_set_ne (fun h=>e h.symm)]
theorem PV(bs:List (List Int))(k:Nat)(hk:k<bs.length)(now:Int):bv (bs.set k (bg (bs.getD k []) now))=(bv bs).set (k*23+22) (.int .i64 now):=by
 apply List.ext_getElem?;intro i;by_cases hi:i<bs.length*23
 ·have a:=uU (bs.set k (bg (bs.getD k []) now)) (i/23) (i%23) (by rw[List.length_set];omega) (by omega);have b:=uU bs (i/23) (i%23) (by omega) (by omega);rw[show i/23*23+i%23=i by omega] at a b;rw[a,Dn bs k (i/23) _ [] hk];by_cases e:i=k*23+22
  ·subst e;rw[List.getElem?_set_self (by rw[uT];omega),show(k*23+22)/23=k by omega,if_pos rfl,Gg _ _ _ (by omega),if_pos (by omega)]
  ·rw[List.getElem?_set_ne (fun h=>e h.symm),b];by_cases eq:i/23=k
   ·rw[if_pos eq,Gg _ _ _ (by omega),if_neg (by omega),eq]
   ·rw[if_neg eq]
 ·rw[List.getElem?_eq_none (by rw[uT,List.length_set];omega),List.getElem?_eq_none (by rw[List.length_set,uT];omega)]
theorem bQ.set{base:Nat}{w:World}{g cap:Nat}{bs:List (List Int)}(h:bQ base w (.slice (some ⟨g,0,none⟩) bs.length cap) bs)(k:Nat)(hk:k<bs.length)(now:Int):bQ base (w.setCell ⟨g,k*23+22,none⟩ (.int .i64 now)) (.slice (some ⟨g,0,none⟩) bs.length cap) (bs.set k (bg (bs.getD k []) now)):=by have a:w.ownsRow base 95 23 (.slice (some ⟨g,0,none⟩) bs.length cap) bs.length (bv bs):=h;have:=World.ownsRow.stored a (k*23+22) (.int .i64 now);unfold bQ;rw[PV bs k hk now,List.length_set];exact this.1
theorem RT.used{B P BW BT n:Nat}{ws:Nat->List Int}{ts:Nat->Bool}{g cap:Nat}{bs:List (List Int)}{w:World}(h:RT B P BW BT n ws ts (.slice (some ⟨g,0,none⟩) bs.length cap) bs w)(k:Nat)(hk:k<bs.length)(now:Int):RT B P BW BT n ws ts (.slice (some ⟨g,0,none⟩) bs.length cap) (bs.set k (bg (bs.getD k []) now)) (w.setCell ⟨g,k*23+22,none⟩ (.int .i64 now)):=by
 obtain⟨-,-,-,d,f,i,l⟩:=h.ne;have b:∀a,a≠g->(w.setCell ⟨g,k*23+22,none⟩ (.int .i64 now)).heap[a]? = w.heap[a]?:=fun a ha=>Below.heap_setCell w ⟨g,k*23+22,none⟩ _ a ha
 exact⟨(b B (fun e=>d (by rw[e];rfl))).trans h.1,⟨(b P (fun e=>f (by rw[e];rfl))).trans h.2.1.1,h.2.1.2.1.same (b BW (fun e=>i (by rw[e];rfl))),h.2.1.2.2.same (b BT (fun e=>l (by rw[e];rfl)))⟩,h.2.2.set k hk now⟩
theorem uW{bs:List (List Int)}{p:Int}{k:Nat}(h:prt bs p=some k):k<bs.length∧el (bs.getD k []) 19=p:=by unfold prt at h;rw[List.find?_range_eq_some] at h;exact⟨List.mem_range.1 h.2.1,by simpa using h.1⟩
end
section
variable {re:List (List Int)}{B BT BW P n:Nat}{v fO vr:Value}{W W' w:World}
def xp(now:Int)(b:List Int):Bool:=(el b 0 == 6 && decide (100<=now-el b 22)) || (el b 0 == 17 && decide (30<=now-el b 22))
def es(now:Int)(bs:List (List Int))(ts:Nat->Bool):Nat->List (List Int)×List (List Int)×(Nat->Bool)
 | 0=>([],[],ts)
 | k+1=>if xp now (bs.getD k [])=true then ((es now bs ts k).1++[bs.getD k []],(es now bs ts k).2.1,upd (es now bs ts k).2.2 (el (bs.getD k []) 19-1024).toNat false) else ((es now bs ts k).1,(es now bs ts k).2.1++[bs.getD k []],(es now bs ts k).2.2)
theorem Gh(now:Int)(bs:List (List Int))(ts:Nat->Bool)(k:Nat):(es now bs ts k).1.length+(es now bs ts k).2.1.length=k:=by
 induction k with
 | zero=>rfl
 | succ k ih =>
  simp only[es];split
  ·simp only[List.length_append,List.length_singleton];omega
  ·simp only[List.length_append,List.length_singleton];omega
theorem PW{ts:Nat->Bool}{i:Nat}{x:Bool}(h:ts i=x):upd ts i x=ts:=by
 funext j;unfold upd;by_cases e:j=i
 ·rw[if_pos e,e,h]
 ·rw[if_neg e]
theorem PX(B BW BT n:Nat)(ws:Nat->List Int)(ts:Nat->Bool)(i:Nat)(w:World)(h:dI B BW BT n ws ts w)(hn:n<=128)(hi:i<n): Calls prog 94 #[.pointer (some ⟨B,0,none⟩),.int .i64 (1024+(i:Int))] w fun e w'=>(∃x,e=.returned (.int .i64 x))∧dI B BW BT n ws (upd ts i false) w'∧Fr (fun g=>g=BT) w w':=by
 cases ht:ts i
 ·refine(OE B BW BT n ws ts (1024+(i:Int)) w h hn (by rw[A9 i hi];exact ht)).mono ?_;rintro e w' ⟨a,rfl⟩;rw[PW ht];exact⟨⟨4,a⟩,h,Fr.refl _ _⟩
 ·refine(OG B BW BT n ws ts i w h hn hi ht).mono ?_;rintro e w' ⟨a,b,d⟩;exact⟨⟨0,a⟩,b,d⟩
def Kx(w:World)(B P BW BT n:Nat)(ws:Nat->List Int)(ts:Nat->Bool)(v:Value)(bs:List (List Int))(fO:Value)(go:List (List Int))(vr:Value)(re:List (List Int))(W:World):Prop :=
 RT B P BW BT n ws ts v bs W∧bQ w.heap.size W fO go∧bQ w.heap.size W vr re∧(∀g,fO.ownBlock=some g->vr.ownBlock≠some g)∧Fr (fun g=>g=B∨g=BT) w W∧(B<w.heap.size∧P<w.heap.size∧BW<w.heap.size∧BT<w.heap.size)∧∀g,v.ownBlock=some g->g<w.heap.size
theorem Kx.kept{ws:Nat->List Int}{ts:Nat->Bool}{bs:List (List Int)}{go:List (List Int)}(h:Kx w B P BW BT n ws ts v bs fO go vr re W)(hb:Below W.heap.size W W'):Kx w B P BW BT n ws ts v bs fO go vr re W' :=
 ⟨h.1.kept hb,ig h.2.1 (fun g e=>hb.block g (cO h.2.1 g e).1),ig h.2.2.1 (fun g e=>hb.block g (cO h.2.2.1 g e).1),h.2.2.2.1,h.2.2.2.2.1.trans (Fr.of hb),h.2.2.2.2.2⟩
theorem PY{ws:Nat->List Int}{ts:Nat->Bool}{bs:List (List Int)}(h:RT B P BW BT n ws ts v bs w):Kx w B P BW BT n ws ts v bs (.slice none 0 0) [] (.slice none 0 0) [] w :=
 ⟨h,bQ.nil _ _,bQ.nil _ _,(fun g e=>by simp[Value.ownBlock] at e),Fr.refl _ _,⟨h.lt,h.2.1.lt,h.2.1.2.1.lt,h.2.1.2.2.lt⟩,fun g e=>(cO h.2.2 g e).1⟩
theorem Kx.given{ws:Nat->List Int}{ts:Nat->Bool}{bs:List (List Int)}{go:List (List Int)}{ts':Nat->Bool}(h:Kx w B P BW BT n ws ts v bs fO go vr re W)(hp:dI P BW BT n ws ts' W')(hf:Fr (fun g=>g=BT) W W'):Kx w B P BW BT n ws ts' v bs fO go vr re W':=by
 obtain⟨d,a,b,h4,f,i,k⟩:=h;have l:=d.ne.2.2.2.2.2.2;refine⟨d.took hp (hf.mono (fun _ e=>.inr e)),ig a (fun g e=>hf.2.2.2.2 g (cO a g e).1 (fun e'=>?_)),ig b (fun g e=>hf.2.2.2.2 g (cO b g e).1 (fun e'=>?_)),h4,f.trans (hf.mono (fun _ e=>.inr e)),i,k⟩
 ·have:=(cO a g e).2;omega
 ·have:=(cO b g e).2;omega
theorem RT.grown{w0:World}{ws:Nat->List Int}{ts:Nat->Bool}{bs:List (List Int)}(h:RT B P BW BT n ws ts v bs W)(hB:B<w0.heap.size∧P<w0.heap.size∧BW<w0.heap.size∧BT<w0.heap.size)(hv:∀g,v.ownBlock=some g->g<w0.heap.size){r:Option Nat}(hg:W.grownBy W' r)(hr:∀k,r=some k->w0.heap.size<=k):RT B P BW BT n ws ts v bs W':=by
 have a:∀g,g<w0.heap.size->some g≠r:=fun g hgl e=>by have:=hr g e.symm;omega
 have hl:=h.lt;have hp:=h.2.1.lt;have b:=h.2.1.2.1.lt;have d:=h.2.1.2.2.lt;exact⟨(hg.block _ hl (a B hB.1)).trans h.1,⟨(hg.block _ hp (a P hB.2.1)).trans h.2.1.1,h.2.1.2.1.same (hg.block _ b (a BW hB.2.2.1)),h.2.1.2.2.same (hg.block _ d (a BT hB.2.2.2))⟩,ig h.2.2 (fun g e=>hg.block g (cO h.2.2 g e).1 (a g (hv g e)))⟩
theorem Fr.grown{O:Nat->Prop}{w0:World}(h:Fr O w0 W){r:Option Nat}(hg:W.grownBy W' r)(hr:∀k,r=some k->w0.heap.size<=k):Fr O w0 W' :=
 ⟨hg.os.trans h.1,hg.tape.trans h.2.1,hg.output.trans h.2.2.1,Nat.le_trans h.2.2.2.1 hg.size,fun g hgl hO=>(hg.block g (Nat.lt_of_lt_of_le hgl h.2.2.2.1) (fun e=>by have:=hr g e.symm;omega)).trans (h.2.2.2.2 g hgl hO)⟩
theorem Kx.appG{ws:Nat->List Int}{ts:Nat->Bool}{bs:List (List Int)}{go:List (List Int)}{xW:Value}{go':List (List Int)}(h:Kx w B P BW BT n ws ts v bs fO go vr re W)(ho:bQ w.heap.size W' xW go')(hg:W.grownBy W' fO.ownBlock)(hn:xW.ownBlock=fO.ownBlock∨xW.ownBlock=some W.heap.size):Kx w B P BW BT n ws ts v bs xW go' vr re W':=by
 obtain⟨i,b,a,h4,l,d,f⟩:=h;refine⟨i.grown d f hg (fun k e=>(cO b k e).2),ho,ig a (fun g e=>hg.block g (cO a g e).1 (fun e'=>h4 g e'.symm e)),fun g e=>?_,l.grown hg (fun k e=>(cO b k e).2),d,f⟩;rcases hn with e' | e'
 ·exact h4 g (e'.symm.trans e)
 ·intro o;have:=(cO a g o).1;have:W.heap.size=g:=Option.some.inj (e'.symm.trans e);omega
theorem Kx.Gi{ws:Nat->List Int}{ts:Nat->Bool}{bs:List (List Int)}{go:List (List Int)}{xX:Value}{re':List (List Int)}(h:Kx w B P BW BT n ws ts v bs fO go vr re W)(ho:bQ w.heap.size W' xX re')(hg:W.grownBy W' vr.ownBlock)(hn:xX.ownBlock=vr.ownBlock∨xX.ownBlock=some W.heap.size):Kx w B P BW BT n ws ts v bs fO go xX re' W':=by
 obtain⟨i,a,b,h4,l,d,f⟩:=h;refine⟨i.grown d f hg (fun k e=>(cO b k e).2),ig a (fun g e=>hg.block g (cO a g e).1 (fun e'=>h4 g e e'.symm)),ho,fun g e=>?_,l.grown hg (fun k e=>(cO b k e).2),d,f⟩;rcases hn with e' | e'
 ·rw[e'];exact h4 g e
 ·rw[e'];intro o;have:=(cO a g e).1;have:W.heap.size=g:=Option.some.inj o;omega
theorem Kx.fin{ws:Nat->List Int}{ts:Nat->Bool}{bs:List (List Int)}{go:List (List Int)}(h:Kx w B P BW BT n ws ts v bs fO go vr re W):RT B P BW BT n ws ts vr re (W.setCell ⟨B,1,none⟩ vr)∧bQ w.heap.size (W.setCell ⟨B,1,none⟩ vr) fO go∧(∀g,fO.ownBlock=some g->vr.ownBlock≠some g)∧Fr (fun g=>g=B∨g=BT) w (W.setCell ⟨B,1,none⟩ vr)∧∀g,vr.ownBlock=some g->w.heap.size<=g:=by
 obtain⟨f,b,a,h4,i,l,o⟩:=h;have d:bQ 0 W vr re:=by
  refine⟨a.1,?_⟩;rcases a.2 with e2|⟨g,cap,cur,e,_,rest⟩
  ·exact .inl e2
  ·exact .inr ⟨g,cap,cur,e,Nat.zero_le _,rest⟩
 have k:∀g,g≠B->(W.setCell ⟨B,1,none⟩ vr).heap[g]? = W.heap[g]?:=fun g hg=>Below.heap_setCell W ⟨B,1,none⟩ vr g hg
 exact⟨f.uV d,ig b (fun g e=>k g (by have:=(cO b g e).2;omega)),h4,i.trans ((qN W B 1 vr).mono (fun _ e=>.inl e)),fun g e=>(cO a g e).2⟩
def xY(n:Nat)(bs:List (List Int)):Prop:=∀k,k<bs.length->(el (bs.getD k []) 0=6∨el (bs.getD k []) 0=17)∧(∃i:Nat,i<n∧el (bs.getD k []) 19=1024+(i:Int))∧tc (el (bs.getD k []) 22)=true
attribute [local go_sem ↓] gV Bb
theorem PZ(B P BW BT n:Nat)(ws:Nat->List Int)(ts:Nat->Bool)(v:Value)(bs:List (List Int))(now:Int)(w:World)(h:RT B P BW BT n ws ts v bs w)(hn:n<=128)(hl:bs.length<=1000)(hT:xY n bs)(ht:tc now=true): Calls prog 48 #[.pointer (some ⟨B,0,none⟩),.int .i64 now] w fun e w'=>∃fO vr,e=.returned fO∧RT B P BW BT n ws (es now bs ts bs.length).2.2 vr (es now bs ts bs.length).2.1 w'∧bQ w.heap.size w' fO (es now bs ts bs.length).1∧(∀g,fO.ownBlock=some g->vr.ownBlock≠some g)∧Fr (fun g=>g=B∨g=BT) w w'∧∀g,vr.ownBlock=some g->w.heap.size<=g:=by
 obtain⟨ao,Y,rfl,-,-,hg⟩:=h.2.2.shape;have o:=ki (PY h);have HG:=ki hg;have aw:=ki hT;have a3:(bs.length:Int)<=1000:=by omega
 have ag:0<=now∧now<=1099511627776:=by unfold tc at ht;rw[Bool.and_eq_true,decide_eq_true_eq,decide_eq_true_eq] at ht;exact ht
 obtain⟨a4,a5⟩:=ag;have HN:=ki hn;clear h hg hT ht hn;go_enter func48,ntmps48;go_wp2;go_loopw [5,6,7] (fun fO vr t wr=>∃k:Nat,k<=bs.length∧t=.int .i64 k∧Hid (Kx w B P BW BT n ws (es now bs ts k).2.2 (.slice ao bs.length Y) bs fO (es now bs ts k).1 vr (es now bs ts k).2.1 wr)) (fun _ _ t _=>bs.length-(intOf t).toNat)
 case atStart=>exact⟨0,by omega,rfl,o⟩
 case round =>
  clear o;obtain⟨k,hk,rfl,o⟩:=hrel;have U:=ki (Gh now bs ts k);by_cases hlt:k<bs.length
  ·obtain⟨g,rfl⟩:=HG.o (by omega);have l:=ki (show es now bs ts (k+1)=if xp now (bs.getD k [])=true then ((es now bs ts k).1++[bs.getD k []],(es now bs ts k).2.1,upd (es now bs ts k).2.2 (el (bs.getD k []) 19-1024).toNat false) else ((es now bs ts k).1,(es now bs ts k).2.1++[bs.getD k []],(es now bs ts k).2.2) from rfl);generalize es now bs ts k=s at o U l;obtain⟨go,G,F⟩:=s;replace o:Hid (Kx w B P BW BT n ws F (.slice (some ⟨g,0,none⟩) bs.length Y) bs _ go _ G wr):=o;replace U:Hid (go.length+G.length=k):=U;obtain⟨V,⟨i,hi,K⟩,H⟩:=aw.o k hlt;have l1:=o.o.1.all;have gk:=o.o.1.2.2.bl k hlt;obtain⟨bk,hbk⟩:∃b,bs.getD k []=b:=⟨_,rfl⟩;rw[hbk] at V K H gk l;replace l:Hid (es now bs ts (k+1)=if xp now bk=true then (go++[bk],G,upd F i false) else (go,G++[bk],F)):=by rw[l.o,K,show((1024:Int)+(i:Int)-1024).toNat=i by omega];exact ki rfl
   have ad:=ki (fun W hW=>PX P BW BT n ws F i W hW HN.o hi);have Z:=ki (show w.heap.size<=wr.heap.size from o.o.2.2.2.2.1.2.2.2.1);have HD:=ki (show ∀a,_=some a->a<wr.heap.size from fun a e=>(cO o.o.2.1 a e).1);obtain⟨oa,oc,rfl,-,-,-⟩:=o.o.2.1.shape;obtain⟨ra,rc,rfl,-,-,-⟩:=o.o.2.2.1.shape;have j1:(k:Int)<(bs.length:Int):=by omega
   have bX:=ki (fu wr);unfold aV at bX;have sk:=xR bk;have X:=ki (show go.length+1<=1000000∧G.length+1<=1000000 by have:=U.o;omega);have ae:0<=el bk 22∧el bk 22<=1099511627776:=by unfold tc at H;rw[Bool.and_eq_true,decide_eq_true_eq,decide_eq_true_eq] at H;exact H
   have L:=ki (show xp now bk=((el bk 0 == 6 && decide (100<=now-el bk 22)) || (el bk 0 == 17 && decide (30<=now-el bk 22))) from rfl);clear hbk H hi;go_upto_region 6 with(refine fF rfl (.tmp 8) (.tmp 24) rfl rfl bX.o bk rfl ?_;intro J M af;replace o:=ki (o.o.kept (bq _ af));replace M:=ki M;clear af bX)
   clear l1 gk;generalize wr.heap.size=D at M HD Z⊢;have c0:=M.o.cell 0 (by omega);have kP:=M.o.cell 22 (by omega);have E:=ki K;obtain⟨y,hy⟩:∃y,el bk 22=y:=⟨_,rfl⟩;rw[hy] at kP ae L;obtain⟨a6,a7⟩:=ae;have q1:IntKind.i64.wrap (now-y)=now-y:=by rw[IntKind.wrap_i64];omega
   clear K hy;rcases V with h6|eG
   ·rw[h6] at c0 L;clear h6;by_cases hd:100<=now-y
    ·replace l:Hid (es now bs ts (k+1)=(go++[bk],G,upd F i false)):=by rw[l.o,L.o,decide_eq_true hd];exact ki rfl
     have p:=au J (.cells (ay bk) 95);have d:=ki (o.o.kept p);have N:=ki (M.o.kept p);have r:=ki (nD bk J);have gx:=M.o.bl;have z:=ki d.o.2.1;have A:=ki X.o.1;have C:=ki d.o.2.2.2.2.1.2.2.2.1;clear p;go_upto_region 8 with(at_builtin;(with_reducible refine nC rfl (.tmp 49) (.tmp 51) rfl w.heap.size (.slice oa go.length oc) go rfl z.o ⟨J.heap.size,0,none⟩ 1 1 [bk] rfl rfl r.o A.o C.o ?_);intro v8 w8 O I Q;have f:=ki (d.o.appG O I Q);have q:=ki (show aJ D bk w8 from(I.block D N.o.lt (fun e=>by have:=HD.o D e.symm;omega)).trans N.o);clear O I Q d N r z A C)
     clear c0 kP gx;replace f:=ki (f.o.kept (Below.refl _ _).drew);replace q:=ki (q.o.kept (Below.refl _ _).drew);have l0:=f.o.1.lI;have c19:=q.o.cell 19 (by omega);rw[E.o] at c19;go_region_held3 (fun w'=>w'.cell? ⟨B,0,none⟩=some (.pointer (some ⟨P,0,none⟩))∧w'.cell? ⟨D,19,none⟩=some (.int .i64 (1024+(i:Int))))
      (first
       | go_keep
       | exact⟨f.o.1.lI,by have:=q.o.cell 19 (by omega);rw[E.o] at this;exact this⟩
       | exact⟨S.o.1.lI,by have:=ac.o.cell 19 (by omega);rw[E.o] at this;exact this⟩)
      (first|(go_at_call 94;refine(ad.o _ f.o.1.2.1).mono ?_;rintro e fK ⟨⟨x,rfl⟩,T,R⟩;have S:=ki (f.o.given T R);have ac:=ki (show aJ D bk fK from(R.2.2.2.2 D q.o.lt (fun e=>by have:=f.o.2.2.2.2.2.1.2.2.2;have:=Z.o;omega)).trans q.o);clear T R))
     go_wp2_with fail
     go_roundw
     case rel=>exact⟨k+1,by omega,by go_num,by rw[l.o];exact S⟩
     case measure=>simp[intOf];omega
    ·replace l:Hid (es now bs ts (k+1)=(go,G++[bk],F)):=by rw[l.o,L.o,decide_eq_false hd];exact ki rfl
     have p:=au J (.cells (ay bk) 95);have d:=ki (o.o.kept p);have r:=ki (nD bk J);have gx:=M.o.bl;have z:=ki d.o.2.2.1;have A:=ki X.o.2;have C:=ki d.o.2.2.2.2.1.2.2.2.1;clear p;go_wp2_with (at_builtin;(with_reducible refine nC rfl (.tmp 60) (.tmp 62) rfl w.heap.size (.slice ra G.length rc) G rfl z.o ⟨J.heap.size,0,none⟩ 1 1 [bk] rfl rfl r.o A.o C.o ?_);intro v8 w8 O I Q;have f:=ki (d.o.Gi O I Q);clear O I Q d r z A C)
     go_roundw
     case rel=>exact⟨k+1,by omega,by go_num,by rw[l.o];exact f⟩
     case measure=>simp[intOf];omega
   ·rw[eG] at c0 L;clear eG;by_cases hd:30<=now-y
    ·replace l:Hid (es now bs ts (k+1)=(go++[bk],G,upd F i false)):=by rw[l.o,L.o,decide_eq_true hd];exact ki rfl
     have p:=au J (.cells (ay bk) 95);have d:=ki (o.o.kept p);have N:=ki (M.o.kept p);have r:=ki (nD bk J);have gx:=M.o.bl;have z:=ki d.o.2.1;have A:=ki X.o.1;have C:=ki d.o.2.2.2.2.1.2.2.2.1;clear p;go_upto_region 8 with(at_builtin;(with_reducible refine nC rfl (.tmp 49) (.tmp 51) rfl w.heap.size (.slice oa go.length oc) go rfl z.o ⟨J.heap.size,0,none⟩ 1 1 [bk] rfl rfl r.o A.o C.o ?_);intro v8 w8 O I Q;have f:=ki (d.o.appG O I Q);have q:=ki (show aJ D bk w8 from(I.block D N.o.lt (fun e=>by have:=HD.o D e.symm;omega)).trans N.o);clear O I Q d N r z A C)
     clear c0 kP gx;replace f:=ki (f.o.kept (Below.refl _ _).drew);replace q:=ki (q.o.kept (Below.refl _ _).drew);have l0:=f.o.1.lI;have c19:=q.o.cell 19 (by omega);rw[E.o] at c19;go_region_held3 (fun w'=>w'.cell? ⟨B,0,none⟩=some (.pointer (some ⟨P,0,none⟩))∧w'.cell? ⟨D,19,none⟩=some (.int .i64 (1024+(i:Int))))
      (first
       | go_keep
       | exact⟨f.o.1.lI,by have:=q.o.cell 19 (by omega);rw[E.o] at this;exact this⟩
       | exact⟨S.o.1.lI,by have:=ac.o.cell 19 (by omega);rw[E.o] at this;exact this⟩)
      (first|(go_at_call 94;refine(ad.o _ f.o.1.2.1).mono ?_;rintro e fK ⟨⟨x,rfl⟩,T,R⟩;have S:=ki (f.o.given T R);have ac:=ki (show aJ D bk fK from(R.2.2.2.2 D q.o.lt (fun e=>by have:=f.o.2.2.2.2.2.1.2.2.2;have:=Z.o;omega)).trans q.o);clear T R))
     go_wp2_with fail
     go_roundw
     case rel=>exact⟨k+1,by omega,by go_num,by rw[l.o];exact S⟩
     case measure=>simp[intOf];omega
    ·replace l:Hid (es now bs ts (k+1)=(go,G++[bk],F)):=by rw[l.o,L.o,decide_eq_false hd];exact ki rfl
     have p:=au J (.cells (ay bk) 95);have d:=ki (o.o.kept p);have r:=ki (nD bk J);have gx:=M.o.bl;have z:=ki d.o.2.2.1;have A:=ki X.o.2;have C:=ki d.o.2.2.2.2.1.2.2.2.1;clear p;go_wp2_with (at_builtin;(with_reducible refine nC rfl (.tmp 60) (.tmp 62) rfl w.heap.size (.slice ra G.length rc) G rfl z.o ⟨J.heap.size,0,none⟩ 1 1 [bk] rfl rfl r.o A.o C.o ?_);intro v8 w8 O I Q;have f:=ki (d.o.Gi O I Q);clear O I Q d r z A C)
     go_roundw
     case rel=>exact⟨k+1,by omega,by go_num,by rw[l.o];exact f⟩
     case measure=>simp[intOf];omega
  ·obtain rfl:bs.length=k:=by omega
   have l1:=o.o.1.all;obtain⟨⟨go,G,F⟩,hes⟩:∃s,es now bs ts bs.length=s:=⟨_,rfl⟩;rw[hes] at o;have l:=ki hes;clear hes;replace o:Hid (Kx w B P BW BT n ws F (.slice ao bs.length Y) bs _ go _ G wr):=o;obtain⟨oa,oc,rfl,-,-,-⟩:=o.o.2.1.shape;obtain⟨ra,rc,rfl,-,-,-⟩:=o.o.2.2.1.shape;have f1:wr.frozen? ⟨B,1,none⟩=false:=by simp[World.frozen?,o.o.1.1]
   have HF:=ki (o.o.fin);clear o;go_wp2;go_ret;rw[l.o];exact⟨_,_,rfl,HF.o⟩
end
section
variable {v:Value}{w:World}
theorem P5(m:Nat)(w:World)(hm:m<=16): Calls prog 30 #[.int .i64 m] w fun e w'=>∃B P BW BT,e=.returned (.pointer (some ⟨B,0,none⟩))∧RT B P BW BT (8*m) (fun _=>[]) (fun _=>false) (.slice none 0 0) [] w'∧(w.heap.size<=B∧w.heap.size<=P∧w.heap.size<=BW∧w.heap.size<=BT)∧Below w.heap.size w w':=by
 have h:=ki (OM m w hm);go_enter func30,ntmps30;go_wp2_with (go_at_call 77;refine h.o.mono ?_;rintro e b ⟨P,BW,BT,rfl,hp,a,d,f,hb⟩;replace hp:=ki hp;replace a:=ki (And.intro a (And.intro d f));replace hb:=ki hb;clear d f)
 go_ret;have g:=au b (.cells #[.pointer (some ⟨P,0,none⟩),.slice none 0 0] 50);exact⟨_,P,BW,BT,rfl,⟨heap_alloc_new b _,hp.o.kept g,bQ.nil _ _⟩,⟨hb.o.size,a.o⟩,bt hb.o g⟩
def dU(base:Nat)(w:World)(v:Value)(bs:List (List Int)):Prop:=∃a cap,v=.slice a bs.length cap∧(0<bs.length->∃g off,a=some ⟨g,off,none⟩∧(base<=g∧g<w.heap.size)∧∀k,k<bs.length->w.rangeAt g (off+k*23) (ay (bs.getD k [])).toList)
theorem dU.same{base:Nat}{w':World}{bs:List (List Int)}(h:dU base w v bs)(hb:Below w.heap.size w w'):dU base w' v bs:=by obtain⟨a,f,rfl,hc⟩:=h;refine⟨a,f,rfl,fun hp=>?_⟩;obtain⟨g,d,e,b,i⟩:=hc hp;refine⟨g,d,e,⟨b.1,Nat.lt_of_lt_of_le b.2 hb.size⟩,fun k hk j u hu=>?_⟩;rw[hb.cell (p:=⟨g,d+k*23+j,none⟩) b.2];exact i k hk j u hu
theorem dU.fr{base:Nat}{O:Nat->Prop}{w':World}{bs:List (List Int)}(h:dU base w v bs)(hf:Fr O w w')(hO:∀g,base<=g->g<w.heap.size->¬O g):dU base w' v bs:=by obtain⟨a,d,rfl,hc⟩:=h;refine⟨a,d,rfl,fun hp=>?_⟩;obtain⟨g,f,e,b,i⟩:=hc hp;refine⟨g,f,e,⟨b.1,Nat.lt_of_lt_of_le b.2 hf.2.2.2.1⟩,fun k hk j u hu=>?_⟩;rw[<-i k hk j u hu];unfold World.cell?;rw[hf.2.2.2.2 g b.2 (hO g b.1 b.2)]
theorem bQ.xZ{base:Nat}{bs:List (List Int)}(h:bQ base w v bs):dU base w v bs:=by obtain⟨b,a,rfl,-,-,d⟩:=h.shape;refine⟨b,a,rfl,fun hp=>?_⟩;obtain⟨g,rfl⟩:=d hp;have hl:=cO h g rfl;exact⟨g,0,rfl,⟨hl.2,hl.1⟩,fun k hk=>by rw[Nat.zero_add];exact h.row k hk⟩
theorem P6(base:Nat)(w:World):dU base w (.slice none 0 0) []:=⟨none,0,rfl,fun h=>absurd h (by simp)⟩
theorem dU.weak{base:Nat}{bs:List (List Int)}(h:dU base w v bs):dU 0 w v bs:=by obtain⟨a,b,e,hc⟩:=h;refine⟨a,b,e,fun hp=>?_⟩;obtain⟨g,d,e,f,i⟩:=hc hp;exact⟨g,d,e,⟨Nat.zero_le _,f.2⟩,i⟩
theorem qp{g o:Nat}{b:List Int}(h:w.rangeAt g o (ay b).toList):(iN (.pointer (some ⟨g,o,none⟩))).run prog w=.ok (.agg (ay b)) w:=run_loadAt_mid w g o 95 _ _ h underlying95 rfl (by kernel_rfl)
attribute [local go_sem ↓] gV Py
theorem KT(v1 v2:Value)(b1 b2:Nat)(bs:List (List Int))(w:World)(h1:dU b1 w v1 bs)(h2:dU b2 w v2 bs)(hl:bs.length<=1000): Calls prog 16 #[v1,v2] w fun e w'=>e=.returned (.bool true)∧Below w.heap.size w w':=by
 obtain⟨a,F,rfl,r⟩:=h1;obtain⟨b,G,rfl,hb⟩:=h2;have o:=ki r;have q:=ki hb;generalize hn:bs.length=n at o q hl⊢;clear r hb hn;have E:(n:Int)<=1000:=by omega
 have H:((n:Int) != (n:Int))=false:=by simp
 go_enter func16,ntmps16;go_wp2;go_loopw [5] (fun t wr=>∃k:Nat,k<=n∧t=.int .i64 k∧Hid (Below w.heap.size w wr)) (fun t _=>n-(intOf t).toNat)
 case atStart=>exact⟨0,by omega,rfl,Below.refl _ _⟩
 case round =>
  obtain⟨k,I,rfl,d⟩:=hrel;by_cases hlt:k<n
  ·obtain⟨g,h,rfl,⟨-,s⟩,v⟩:=o.o (by omega);obtain⟨i,l,rfl,⟨-,y⟩,z⟩:=q.o (by omega);have J:(k:Int)<(n:Int):=by omega
   obtain⟨bk,hbk⟩:∃x,bs.getD k []=x:=⟨_,rfl⟩;have A:=ki (show ∀W,Below w.heap.size w W->W.rangeAt g (h+k*23) (ay bk).toList∧W.rangeAt i (l+k*23) (ay bk).toList from fun W hW=>⟨fun j u hu=>by rw[hW.cell (p:=⟨g,h+k*23+j,none⟩) s,v k hlt j u (by rw[hbk];exact hu)],fun j u hu=>by rw[hW.cell (p:=⟨i,l+k*23+j,none⟩) y,z k hlt j u (by rw[hbk];exact hu)]⟩);clear v z o q s y hbk;have B:=Pz bk bk;rw[PD] at B;go_upto_region 6 with fail
   replace d:=ki (bt d.o (show Below wr.heap.size wr wr.drew from(Below.refl _ _).drew));have f:=ki (show(iN (.pointer (some ⟨g,h+k*23,none⟩))).run prog wr.drew=.ok (.agg (ay bk)) wr.drew∧(iN (.pointer (some ⟨i,l+k*23,none⟩))).run prog wr.drew=.ok (.agg (ay bk)) wr.drew from⟨qp (A.o _ d.o).1,qp (A.o _ d.o).2⟩);obtain⟨C,D⟩:=f.o;go_region_held3 (fun w'=>(iN (.pointer (some ⟨g,h+k*23,none⟩))).run prog w'=.ok (.agg (ay bk)) w'∧(iN (.pointer (some ⟨i,l+k*23,none⟩))).run prog w'=.ok (.agg (ay bk)) w')
    (first
     | go_keep
     | exact f.o)
    (fail)
   clear C D f;generalize wr.drew=wq at d⊢;go_wp2_with fail
   go_roundw
   case rel=>exact⟨k+1,by omega,by go_num,d⟩
   case measure=>simp[intOf];omega
  ·obtain rfl:n=k:=by omega
   go_wp2;go_ret;exact⟨rfl,d.o⟩
end
section
def Bh(m:Nat)(ws:Nat->List Int)(ts:Nat->Bool)(b:List Int):Prop:=aW b=true∧(∃i:Nat,i<8*m∧el b 19=1024+(i:Int)∧ts i=true∧av (ws i)=av (cli b))∧tc (el b 22)=true∧fr (el b 20)=true∧wd (el b 21)=true
def dJ(m:Nat)(ws:Nat->List Int)(ts:Nat->Bool)(bs:List (List Int)):Prop:=(∀b∈bs,Bh m ws ts b)∧bs.Pairwise (fun a b=>el a 19<el b 19)∧bs.Pairwise (fun a b=>iV a b=false)∧∀i,i<8*m->ts i=true->∃b∈bs,el b 19=1024+(i:Int)
def Gj(m:Nat)(ws:Nat->List Int)(ts:Nat->Bool)(bs:List (List Int))(f:List Int)(back far now:Int)(x:List Int)(e:Int)(ws':Nat->List Int)(ts':Nat->Bool)(bs':List (List Int)):Prop :=
 (aW f=false∧x=[]∧e=1∧ws'=ws∧ts'=ts∧bs'=bs) ∨
 (aW f=true∧(fr back && wd far && tc now)=false∧x=[]∧e=1∧ws'=ws∧ts'=ts∧bs'=bs) ∨
 (aW f=true∧(fr back && wd far && tc now)=true∧(∃k,bY bs f=some k)∧x=[]∧e=8∧ws'=ws∧ts'=ts∧bs'=bs) ∨
 (aW f=true∧(fr back && wd far && tc now)=true∧bY bs f=none∧tk ws ts (cli f) (8*m)=none∧x=[]∧e=3∧ws'=ws∧ts'=ts∧bs'=bs) ∨
 (aW f=true∧(fr back && wd far && tc now)=true∧bY bs f=none∧∃i,tk ws ts (cli f) (8*m)=some i∧x=bL f (1024+(i:Int)) back far now∧e=0∧ws'=upd ws i (cli f)∧ts'=upd ts i true∧bs'=ins x bs)
def Gl(bs:List (List Int))(p now:Int)(e:Int)(bs':List (List Int)):Prop :=
 (prt bs p=none∧e=4∧bs'=bs)∨(∃k,prt bs p=some k∧tc now=false∧e=1∧bs'=bs)∨(∃k,prt bs p=some k∧tc now=true∧now<el (bs.getD k []) 22∧e=9∧bs'=bs)∨(∃k,prt bs p=some k∧tc now=true∧¬now<el (bs.getD k []) 22∧e=0∧bs'=bs.set k (bg (bs.getD k []) now))
def qP(bs:List (List Int))(kind p:Int)(x:List Int)(e:Int):Prop :=
 (prt bs p=none∧x=[]∧e=4)∨(∃k,prt bs p=some k∧(el (bs.getD k []) 0 == kind)=false∧x=[]∧e=4)∨(∃k,prt bs p=some k∧(el (bs.getD k []) 0 == kind)=true∧x=bs.getD k []∧e=0)
def Fd(bs:List (List Int))(f:List Int)(x:List Int)(e:Int):Prop :=
 (aW f=false∧x=[]∧e=1)∨(aW f=true∧bY bs f=none∧x=[]∧e=4)∨(aW f=true∧∃k,bY bs f=some k∧x=bs.getD k []∧e=0)
def gH(bM:Value->Nat->(Nat->List Int)->(Nat->Bool)->List (List Int)->(Nat->Prop)->World->Prop)(v:Value)(m:Nat)(ws:Nat->List Int)(ts:Nat->Bool)(bs:List (List Int))(O:Nat->Prop)(w w':World):Prop:=∃O',bM v m ws ts bs O' w'∧Fr O w w'∧∀g,O' g->O g∨w.heap.size<=g
def sV(bM:Value->Nat->(Nat->List Int)->(Nat->Bool)->List (List Int)->(Nat->Prop)->World->Prop):Prop:=∀v m ws ts bs O w,bM v m ws ts bs O w->(∀g,O g->g<w.heap.size)∧∀w',w.heap.size<=w'.heap.size->(∀g,O g->w'.heap[g]? = w.heap[g]?)->bM v m ws ts bs O w'
def P7:Prop:=∀f w,Calls prog 199 #[.agg (ak f)] w fun e w'=>e=.returned (ev (fe (aW f)))∧Below w.heap.size w w'
def Gm(bM:Value->Nat->(Nat->List Int)->(Nat->Bool)->List (List Int)->(Nat->Prop)->World->Prop):Prop :=
 (∀(b:Int)w,(b<1∨16<b)->Calls prog 28 #[.int .i64 b] w fun e w'=>(∃v,e=.returned (.tuple #[v,err 1]))∧Below w.heap.size w w') ∧
 (∀(m:Nat)w,1<=m->m<=16->Calls prog 28 #[.int .i64 m] w fun e w'=>∃v O,e=.returned (.tuple #[v,.nilIface])∧bM v m (fun _=>[]) (fun _=>false) [] O w'∧(∀g,O g->w.heap.size<=g)∧Below w.heap.size w w')
def Gn(bM:Value->Nat->(Nat->List Int)->(Nat->Bool)->List (List Int)->(Nat->Prop)->World->Prop):Prop:=∀v m ws ts bs O w f back far now x e ws' ts' bs',m<=16->bs.length<=128->dJ m ws ts bs->bM v m ws ts bs O w->Gj m ws ts bs f back far now x e ws' ts' bs' ->
 Calls prog 145 #[v,.agg (ak f),.int .i64 back,.int .i64 far,.int .i64 now] w fun r w'=>r=.returned (.tuple #[.agg (ay x),ev e])∧gH bM v m ws' ts' bs' O w w'
def Gp(bM:Value->Nat->(Nat->List Int)->(Nat->Bool)->List (List Int)->(Nat->Prop)->World->Prop):Prop:=∀v m ws ts bs O w p now e bs',m<=16->bs.length<=128->dJ m ws ts bs->bM v m ws ts bs O w->Gl bs p now e bs' ->
 Calls prog 103 #[v,.int .i64 p,.int .i64 now] w fun r w'=>r=.returned (ev e)∧gH bM v m ws ts bs' O w w'
def Gq(bM:Value->Nat->(Nat->List Int)->(Nat->Bool)->List (List Int)->(Nat->Prop)->World->Prop):Prop:=∀v m ws ts bs O w kind p x e,m<=16->bs.length<=128->dJ m ws ts bs->bM v m ws ts bs O w->qP bs kind p x e ->
 Calls prog 102 #[v,.int .i64 kind,.int .i64 p] w fun r w'=>r=.returned (.tuple #[.agg (ay x),ev e])∧gH bM v m ws ts bs O w w'
def Gr(bM:Value->Nat->(Nat->List Int)->(Nat->Bool)->List (List Int)->(Nat->Prop)->World->Prop):Prop:=∀v m ws ts bs O w f x e,m<=16->bs.length<=128->dJ m ws ts bs->bM v m ws ts bs O w->Fd bs f x e ->
 Calls prog 144 #[v,.agg (ak f)] w fun r w'=>r=.returned (.tuple #[.agg (ay x),ev e])∧gH bM v m ws ts bs O w w'
def Gs(bM:Value->Nat->(Nat->List Int)->(Nat->Bool)->List (List Int)->(Nat->Prop)->World->Prop):Prop:=∀v m ws ts bs O w now,m<=16->bs.length<=128->dJ m ws ts bs->bM v m ws ts bs O w ->
 (tc now=false->Calls prog 106 #[v,.int .i64 now] w fun r w'=>∃b,r=.returned (.tuple #[b,err 1])∧dU 0 w' b []∧gH bM v m ws ts bs O w w') ∧
 (tc now=true->Calls prog 106 #[v,.int .i64 now] w fun r w'=>∃b,r=.returned (.tuple #[b,.nilIface])∧dU 0 w' b (es now bs ts bs.length).1∧gH bM v m ws (es now bs ts bs.length).2.2 (es now bs ts bs.length).2.1 O w w')
def Gt(bM:Value->Nat->(Nat->List Int)->(Nat->Bool)->List (List Int)->(Nat->Prop)->World->Prop):Prop:=∀v m ws ts bs O w,m<=16->bs.length<=128->dJ m ws ts bs->bM v m ws ts bs O w ->
 Calls prog 57 #[v] w fun r w'=>∃b,r=.returned b∧dU 0 w' b bs∧gH bM v m ws ts bs O w w'
def P8(bM:Value->Nat->(Nat->List Int)->(Nat->Bool)->List (List Int)->(Nat->Prop)->World->Prop):Prop:=sV bM∧P7∧Gm bM∧Gn bM∧Gp bM∧Gq bM∧Gr bM∧Gs bM∧Gt bM
def jw(B:Nat)(m:Nat)(ws:Nat->List Int)(ts:Nat->Bool)(bs:List (List Int))(O:Nat->Prop)(w:World):Prop:=∃P BW BT v,RT B P BW BT (8*m) ws ts v bs w∧O=fun g=>g=B∨g=P∨g=BW∨g=BT∨v.ownBlock=some g
theorem jw.lt{B m:Nat}{ws:Nat->List Int}{ts:Nat->Bool}{bs:List (List Int)}{O:Nat->Prop}{w:World}(h:jw B m ws ts bs O w)(g:Nat)(hO:O g):g<w.heap.size:=by
 obtain⟨P,b,d,v,a,rfl⟩:=h;rcases hO with rfl|rfl|rfl|rfl|e
 ·exact a.lt
 ·exact a.2.1.lt
 ·exact a.2.1.2.1.lt
 ·exact a.2.1.2.2.lt
 ·exact(cO a.2.2 g e).1
theorem jw.same{B m:Nat}{ws:Nat->List Int}{ts:Nat->Bool}{bs:List (List Int)}{O:Nat->Prop}{w w':World}(h:jw B m ws ts bs O w)(hs:∀g,O g->w'.heap[g]? = w.heap[g]?):jw B m ws ts bs O w':=by obtain⟨P,b,d,v,a,rfl⟩:=h;exact⟨P,b,d,v,⟨(hs B (.inl rfl)).trans a.1,⟨(hs P (.inr (.inl rfl))).trans a.2.1.1,a.2.1.2.1.same (hs b (.inr (.inr (.inl rfl)))),a.2.1.2.2.same (hs d (.inr (.inr (.inr (.inl rfl)))))⟩,ig a.2.2 (fun g e=>hs g (.inr (.inr (.inr (.inr e)))))⟩,rfl⟩
theorem nE{bs:List (List Int)}{k:Nat}(hk:k<bs.length):bs.getD k []∈bs:=by rw[List.getD_eq_getElem?_getD,List.getElem?_eq_getElem hk];exact List.getElem_mem hk
theorem dJ.P9{m:Nat}{ws:Nat->List Int}{ts:Nat->Bool}{bs:List (List Int)}(h:dJ m ws ts bs):xY (8*m) bs:=by intro k a;obtain⟨b,⟨i,d,e,_⟩,f,_⟩:=h.1 _ (nE a);exact⟨AB b,⟨i,d,e⟩,f⟩
end
end Go.Proofs.YtgcojnlngchllaaGreatDoor
