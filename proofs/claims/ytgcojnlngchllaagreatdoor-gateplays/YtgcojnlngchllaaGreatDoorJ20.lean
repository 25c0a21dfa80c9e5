import Derived.Test.YtgcojnlngchllaaGreatDoorJ18
namespace Go.Proofs.YtgcojnlngchllaaGreatDoor
open Go.RowKit Tryz
set_option linter.unusedVariables false
set_option maxRecDepth 100000
set_option maxHeartbeats 40000000
section
variable {z:List Int}{B:Nat}{t:Nat->Bool}{w:World}
def fI(z:List Int)(t:Nat->Bool):Array Value:=#[.int .i64 (el z 0),.int .i64 (el z 1),.int .i64 (el z 2),.int .i64 (el z 3),.int .i64 (el z 4),.int .i64 (el z 5),.int .i64 (el z 6),.int .i64 (el z 7),.bool (t 0),.bool (t 1),.bool (t 2),.bool (t 3),.bool (t 4),.bool (t 5),.bool (t 6),.bool (t 7)]
def vg(t:Nat->Bool):Array Value:=#[.bool (t 0),.bool (t 1),.bool (t 2),.bool (t 3),.bool (t 4),.bool (t 5),.bool (t 6),.bool (t 7)]
theorem Gx(z:List Int)(t:Nat->Bool)(j:Nat)(hj:j<8):(fI z t)[j]? = some (.int .i64 (el z j)):=by rcases (by omega:j=0∨j=1∨j=2∨j=3∨j=4∨j=5∨j=6∨j=7) with rfl|rfl|rfl|rfl|rfl|rfl|rfl|rfl<;>rfl
theorem Bn(z:List Int)(t:Nat->Bool)(j:Nat)(hj:j<8):(fI z t)[8+j]? = some (.bool (t j)):=by rcases (by omega:j=0∨j=1∨j=2∨j=3∨j=4∨j=5∨j=6∨j=7) with rfl|rfl|rfl|rfl|rfl|rfl|rfl|rfl<;>rfl
theorem Qg(t:Nat->Bool)(j:Nat)(hj:j<8):(vg t)[j]? = some (.bool (t j)):=by rcases (by omega:j=0∨j=1∨j=2∨j=3∨j=4∨j=5∨j=6∨j=7) with rfl|rfl|rfl|rfl|rfl|rfl|rfl|rfl<;>rfl
def gI(B:Nat)(z:List Int)(t:Nat->Bool)(w:World):Prop:=w.heap[B]? = some (.cells (fI z t) 348 (0,0))
theorem gI.lt(p:gI B z t w):B<w.heap.size:=(Array.getElem?_eq_some_iff.1 p).1
theorem gI.kept{w':World}(p:gI B z t w)(hb:Below w.heap.size w w'):gI B z t w':=(hb.block B p.lt).trans p
theorem Bo(z:List Int)(t:Nat->Bool)(w:World):gI w.heap.size z t (w.alloc (.cells (fI z t) 348)):=heap_alloc_new w _
theorem gI.six(p:gI B z t w):w.rangeAt B 0 (av z).toList:=by intro j v hv;have a:j<8:=(List.getElem?_eq_some_iff.1 hv).1;rw[Nat.zero_add,cell_of_row w B j _ _ _ p,Gx z t j a,<-nY z j a];simpa using hv
theorem gI.boo(p:gI B z t w):w.rangeAt B 8 (vg t).toList:=by intro j v hv;have a:j<8:=(List.getElem?_eq_some_iff.1 hv).1;rw[cell_of_row w B (8+j) _ _ _ p,Bn z t j a,<-Qg t j a];simpa using hv
theorem gI.bit(p:gI B z t w)(j:Nat)(hj:j<8):w.cell? ⟨B,8+j,none⟩=some (.bool (t j)):=(cell_of_row w B (8+j) _ _ _ p).trans (Bn z t j hj)
def Gy(x:Value):Sem Value:=Instr.loadAt 348 x
theorem Bp(x:Value):Instr.loadAt 348 x=Gy x:=rfl
theorem gI.all(p:gI B z t w):w.rangeAt B 0 (fI z t).toList:=by intro j v hv;rw[Nat.zero_add,cell_of_row w B j _ _ _ p];simpa using hv
theorem gI.pl(p:gI B z t w):(Gy (.pointer (some ⟨B,0,none⟩))).run prog w=.ok (.agg (fI z t)) w :=
 run_loadAt_mid w B 0 348 (fI z t).toList _ p.all underlying348 rfl (by kernel_rfl)
theorem Qh{ops:Array Oper}{rest:List Oper}{o:Oper}{f:Act}{Q:Exit->Act->World->Prop}(hgd:o.guard=none)(x:Operand)(ho:o.op=.load 346 x){B:Nat}{z:List Int}{t:Nat->Bool}(hx:f.eval x=.pointer (some ⟨B,8,none⟩))(p:gI B z t w)(hK:wpList prog ops Q rest (f.put o.dst (.agg (vg t))) w):wpList prog ops Q (o::rest) f w :=
 wpList_load_mid hgd 346 x ho B 8 hx (vg t).toList _ p.boo underlying346 rfl (by kernel_rfl) hK
theorem Gz{ops:Array Oper}{rest:List Oper}{o:Oper}{f:Act}{Q:Exit->Act->World->Prop}(hgd:o.guard=none)(x:Operand)(ho:o.op=.load 23 x){B:Nat}{z:List Int}{t:Nat->Bool}(hx:f.eval x=.pointer (some ⟨B,0,none⟩))(p:gI B z t w)(hK:wpList prog ops Q rest (f.put o.dst (.agg (av z))) w):wpList prog ops Q (o::rest) f w :=
 wpList_load_mid hgd 23 x ho B 0 hx (av z).toList _ p.six underlying23 rfl (by kernel_rfl) hK
def jc(t:Nat->Bool):Bool:=!t 0 && !t 1 && !t 2 && !t 3 && !t 4 && !t 5 && !t 6 && !t 7
theorem vk(t:Nat->Bool):jc t=true↔∀j,j<8->t j=false:=by unfold jc;simp only[Bool.and_eq_true,Bool.not_eq_true'];refine⟨fun ⟨⟨⟨⟨⟨⟨⟨h0,h1⟩,h2⟩,h3⟩,h4⟩,h5⟩,h6⟩,h7⟩ j hj=>?_,fun h=>⟨⟨⟨⟨⟨⟨⟨h 0 (by omega),h 1 (by omega)⟩,h 2 (by omega)⟩,h 3 (by omega)⟩,h 4 (by omega)⟩,h 5 (by omega)⟩,h 6 (by omega)⟩,h 7 (by omega)⟩⟩;rcases (by omega:j=0∨j=1∨j=2∨j=3∨j=4∨j=5∨j=6∨j=7) with rfl|rfl|rfl|rfl|rfl|rfl|rfl|rfl<;>assumption
theorem Qi(x0 x1 x2 x3 x4 x5 x6 x7:Bool)(w:World):(Op.equalIn 10000 346 (.agg #[.bool x0,.bool x1,.bool x2,.bool x3,.bool x4,.bool x5,.bool x6,.bool x7]) (.agg #[.bool false,.bool false,.bool false,.bool false,.bool false,.bool false,.bool false,.bool false])).run prog w=.ok (!x0 && !x1 && !x2 && !x3 && !x4 && !x5 && !x6 && !x7) w:=by
 have a:=underlying4;have b:=isAgg4;have d:=sizeOf4;rw[show(10000:Nat)=9999+1 from rfl,Op.equalIn];simp only[Sem.run_bind,run_underlying underlying346,Result.andThen_ok];simp only[Std.Legacy.Range.forIn_eq_forIn_range',Std.Legacy.Range.size,Nat.sub_zero,Nat.add_sub_cancel,Nat.div_one,List.range'_succ,List.range'_zero,List.forIn_cons,List.forIn_nil];go_simp;cases x0;case true=>simp
 cases x1;case true=>simp
 cases x2;case true=>simp
 cases x3;case true=>simp
 cases x4;case true=>simp
 cases x5;case true=>simp
 cases x6;case true=>simp
 cases x7;case true=>simp
 simp
theorem Qj(t:Nat->Bool)(w:World):(Op.equalIn 10000 346 (.agg (vg t)) (.agg #[.bool false,.bool false,.bool false,.bool false,.bool false,.bool false,.bool false,.bool false])).run prog w=.ok (jc t) w:=Qi _ _ _ _ _ _ _ _ w
theorem Bq(z:List Int)(t:Nat->Bool)(w:World):Calls prog 264 #[.agg (fI z t)] w fun e w'=>e=.returned (.bool (jc t))∧Below w.heap.size w w':=by
 have a:=ki (au w (.cells (fI z t) 348));have b:=ki (Bo z t w);have q:=Qj t;go_enter func264,ntmps264;go_upto_region 1 with fail
 generalize w.alloc _=W at a b⊢;go_wp2_with (refine Qh rfl (.tmp 3) rfl rfl b.o ?_)
 go_ret;exact⟨rfl,a.o⟩
attribute [local go_sem ↓] Bp
theorem Qk(z:List Int)(t:Nat->Bool)(a:List Int)(w:World):Calls prog 291 #[.agg (fI z t),.agg (av a)] w fun e w'=>e=.returned (.bool (dn z a && !jc t))∧Below w.heap.size w w':=by
 have k:=au w (.cells (fI z t) 348);have h:=au (w.alloc (.cells (fI z t) 348)) (.cells (av a) 23);have d:=ki (bt k h);have f:=ki ((Bo z t w).kept h);have i:=ki (show aP (w.heap.size+1) a ((w.alloc (.cells (fI z t) 348)).alloc (.cells (av a) 23)) by have:=iT a (w.alloc (.cells (fI z t) 348));rw[World.size_alloc] at this;exact this);have l:=ki (Bq z t);have q:∀w,(Op.equalIn 10000 23 (.agg (av z)) (.agg (av a))).run prog w=.ok (dn z a) w:=xE z a;generalize dn z a=b at q⊢;clear k h;go_enter func291,ntmps291;go_upto_region 1 with fail
 generalize (w.alloc _).alloc _=W at d f i⊢;cases b
 ·go_wp2_with (first
   | (refine Gz rfl (.tmp 5) rfl rfl f.o ?_)
   | (refine jq rfl (.tmp 3) rfl rfl i.o ?_))
  go_ret;exact⟨rfl,d.o⟩
 ·have n:=f.o.pl;go_wp2_with (first|(refine Gz rfl (.tmp 5) rfl rfl f.o ?_)|(refine jq rfl (.tmp 3) rfl rfl i.o ?_)|(go_at_call 264;refine(l.o _).mono ?_;rintro e o ⟨rfl,g⟩;replace d:=ki (bt d.o g);clear g))
  go_ret;exact⟨rfl,d.o⟩
end
section
def fx(t:Nat->Bool):Option Nat:=(List.range 8).find? fun j=>!t j
def fi(o:Option Nat):Int:=match o with|some i=>i|none=>-1
theorem Ql{t:Nat->Bool}(h:∀j,j<8->t j=true):fx t=none:=nZ fun j hj=>by rw[h j hj];rfl
theorem GA{t:Nat->Bool}{i:Nat}(hi:i<8)(h3:t i=false)(h:∀j,j<i->t j=true):fx t=some i:=og hi (by rw[h3];rfl) fun j hj=>by rw[h j hj];rfl
theorem GD(g off:Nat)(t:Nat->Bool)(w:World)(hc:∀j,j<8->w.cell? ⟨g,off+j,none⟩=some (.bool (t j))):Calls prog 251 #[.slice (some ⟨g,off,none⟩) 8 8,.bool false] w fun e w'=>e=.returned (.int .i64 (fi (fx t)))∧w'=w:=by
 have a:=ki hc;clear hc;go_enter func251,ntmps251;go_wp2;go_loop [8] (fun v=>∃k:Nat,k<=8∧v=.int .i64 k∧Hid (∀j,j<k->t j=true)) (fun v=>8-(intOf v).toNat)
 case atStart=>exact⟨0,by omega,rfl,fun j h=>absurd h (by omega)⟩
 case round =>
  obtain⟨k,f,rfl,HI⟩:=hrel;by_cases hlt:k<8
  ·have c1:=a.o k hlt;have i:(k:Int)<8:=by omega
   cases ht:t k
   ·rw[ht] at c1;have b:=ki (GA hlt ht HI.o);clear ht;go_wp2;go_ret;rw[b.o];exact⟨rfl,rfl⟩
   ·rw[ht] at c1;have d:=ki ht;clear ht;go_wp2;go_round
    case rel=>exact⟨k+1,by omega,by go_num,fun j hj=>if e:j=k then by rw[e];exact d.o else HI.o j (by omega)⟩
    case measure=>simp[intOf];omega
  ·obtain rfl:k=8:=by omega
   go_wp2;go_ret;rw[Ql HI.o];exact⟨rfl,rfl⟩
theorem Qm(o:Option Nat):decide (0<=fi o)=o.isSome:=by
 cases o with
 | none=>rfl
 | some i=>unfold fi;simp
theorem Qn(g off:Nat)(t:Nat->Bool)(w:World)(hc:∀j,j<8->w.cell? ⟨g,off+j,none⟩=some (.bool (t j))):Calls prog 315 #[.slice (some ⟨g,off,none⟩) 8 8,.bool false] w fun e w'=>e=.returned (.bool (fx t).isSome)∧w'=w:=by
 have H:=ki (GD g off t w hc);have a:=Qm (fx t);clear hc;generalize fx t=o at H a⊢;generalize fi o=x at H a;go_enter func315,ntmps315;go_wp2_with (go_at_call 251;refine H.o.mono ?_;rintro e w' ⟨rfl,rfl⟩)
 go_ret;exact⟨by rw[<-a];rfl,rfl⟩
theorem Qo(z:List Int)(t:Nat->Bool)(w:World):Calls prog 292 #[.agg (fI z t)] w fun e w'=>e=.returned (.bool (fx t).isNone)∧Below w.heap.size w w':=by
 have a:=ki (au w (.cells (fI z t) 348));have b:=ki (Bo z t w);go_enter func292,ntmps292;go_upto_region 1 with fail
 generalize w.alloc _=W at a b⊢;go_wp2_with (go_at_call 315;refine(Qn w.heap.size 8 t _ (fun j hj=>b.o.bit j hj)).mono ?_;rintro e d ⟨rfl,rfl⟩)
 go_ret;exact⟨rfl,a.o⟩
end
section
variable {B BB:Nat}{aC:Nat->List Int}{w:World}
def sb(ts:Nat->Bool)(k:Nat):Nat->Bool:=fun j=>ts (8*k+j)
def iO(B m:Nat)(aC:Nat->List Int)(ts:Nat->Bool)(w:World):Prop:=∃cs:Array Value,w.heap[B]? = some (.cells cs 348 (0,0))∧cs.size=16*m∧∀k,k<m->∀j,j<8->cs[16*k+j]? = some (.int .i64 (el (aC k) j))∧cs[16*k+8+j]? = some (.bool (ts (8*k+j)))
theorem iO.lt{m:Nat}{ts:Nat->Bool}(h:iO B m aC ts w):B<w.heap.size:=by obtain⟨cs,h1,_⟩:=h;exact(Array.getElem?_eq_some_iff.1 h1).1
theorem iO.same{m:Nat}{ts:Nat->Bool}{w':World}(h:iO B m aC ts w)(e:w'.heap[B]? = w.heap[B]?):iO B m aC ts w':=by obtain⟨cs,h1,h2⟩:=h;exact⟨cs,e.trans h1,h2⟩
theorem iO.bit{m:Nat}{ts:Nat->Bool}(h:iO B m aC ts w)(k:Nat)(hk:k<m)(j:Nat)(hj:j<8):w.cell? ⟨B,16*k+8+j,none⟩=some (.bool (ts (8*k+j)))∧w.frozen? ⟨B,16*k+8+j,none⟩=false:=by obtain⟨d,a,e,b⟩:=h;exact⟨by rw[cell_of_row w B _ _ _ _ a];exact(b k hk j hj).2,by simp[World.frozen?,a]⟩
theorem iO.who{m:Nat}{ts:Nat->Bool}(h:iO B m aC ts w)(k:Nat)(hk:k<m):w.rangeAt B (16*k) (av (aC k)).toList:=by obtain⟨e,b,f,d⟩:=h;intro j v hv;have a:j<8:=(List.getElem?_eq_some_iff.1 hv).1;rw[cell_of_row w B (16*k+j) _ _ _ b,(d k hk j a).1,<-nY (aC k) j a];simpa using hv
theorem iO.all{m:Nat}{ts:Nat->Bool}(h:iO B m aC ts w)(k:Nat)(hk:k<m):w.rangeAt B (16*k) (fI (aC k) (sb ts k)).toList:=by
 obtain⟨e,d,f,b⟩:=h;intro j v hv;have g:j<16:=(List.getElem?_eq_some_iff.1 hv).1;have a:(fI (aC k) (sb ts k))[j]? = some v:=by simpa using hv
 rw[cell_of_row w B (16*k+j) _ _ _ d];by_cases h8:j<8
 ·rw[(b k hk j h8).1,<-a,Gx _ _ j h8]
 ·obtain⟨i,rfl⟩:∃i,j=8+i:=⟨j-8,by omega⟩;rw[<-Nat.add_assoc,(b k hk i (by omega)).2,<-a,Bn _ _ i (by omega)];rfl
theorem Br{ops:Array Oper}{rest:List Oper}{o:Oper}{f:Act}{Q:Exit->Act->World->Prop}(hgd:o.guard=none)(x:Operand)(ho:o.op=.load 348 x){B m:Nat}{aC:Nat->List Int}{ts:Nat->Bool}(k off:Nat)(hx:f.eval x=.pointer (some ⟨B,off,none⟩))(hoff:off=16*k)(hk:k<m)(p:iO B m aC ts w)(hK:wpList prog ops Q rest (f.put o.dst (.agg (fI (aC k) (sb ts k)))) w):wpList prog ops Q (o::rest) f w:=by subst hoff;exact wpList_load_mid hgd 348 x ho B (16*k) hx (fI (aC k) (sb ts k)).toList _ (p.all k hk) underlying348 rfl (by kernel_rfl) hK
theorem Qp(w:World):gI w.heap.size [] (fun _=>false) (w.alloc (.cells #[.int .i64 0,.int .i64 0,.int .i64 0,.int .i64 0,.int .i64 0,.int .i64 0,.int .i64 0,.int .i64 0,.bool false,.bool false,.bool false,.bool false,.bool false,.bool false,.bool false,.bool false] 348)):=heap_alloc_new w _
theorem gI.stored{z0:List Int}{t0:Nat->Bool}(p:gI B z0 t0 w)(z:List Int)(t:Nat->Bool):gI B z t (w.setRow B (fI z t)):=setRow_heap w B _ _ _ (0,0) p
theorem Qq{ops:Array Oper}{rest:List Oper}{o:Oper}{f:Act}{Q:Exit->Act->World->Prop}(hgd:o.guard=none)(x y:Operand)(ho:o.op=.store 348 x y){B:Nat}{z0:List Int}{t0:Nat->Bool}(hx:f.eval x=.pointer (some ⟨B,0,none⟩))(p:gI B z0 t0 w)(z:List Int)(t:Nat->Bool)(hy:f.eval y=.agg (fI z t))(hK:∀w',gI B z t w'->Only B w w'->wpList prog ops Q rest (f.put o.dst undef) w'):wpList prog ops Q (o::rest) f w :=
 wpList_store_row hgd 348 x y ho B _ hx hy 348 _ p (by kernel_rfl) rfl (by unfold fI;simp[Value.oneCell']) (hK _ (p.stored z t) (dS _ _ _))
def eZ(B BB m:Nat)(aC:Nat->List Int)(ts:Nat->Bool)(w:World):Prop:=w.heap[B]? = some (.cells #[.slice (some ⟨BB,0,none⟩) m m] 218 (0,0))∧iO BB m aC ts w
theorem eZ.lt{m:Nat}{ts:Nat->Bool}(h:eZ B BB m aC ts w):B<w.heap.size:=(Array.getElem?_eq_some_iff.1 h.1).1
theorem eZ.kept{m:Nat}{ts:Nat->Bool}{w':World}(h:eZ B BB m aC ts w)(hb:Below w.heap.size w w'):eZ B BB m aC ts w':=⟨(hb.block B h.lt).trans h.1,h.2.same (hb.block BB h.2.lt)⟩
theorem eZ.row{m:Nat}{ts:Nat->Bool}(h:eZ B BB m aC ts w):w.cell? ⟨B,0,none⟩=some (.slice (some ⟨BB,0,none⟩) m m):=cell_of_row w B 0 _ _ _ h.1
theorem eZ.ne{m:Nat}{ts:Nat->Bool}(h:eZ B BB m aC ts w):B≠BB:=by rintro rfl;obtain⟨b,d,a,_⟩:=h;rw[b] at a;cases a
def Kp(w:World)(B BB m:Nat)(aC:Nat->List Int)(ts:Nat->Bool)(z:List Int)(W:World):Prop:=eZ B BB m aC ts W∧aP w.heap.size z W∧Below w.heap.size w W
theorem Kp.kept{m:Nat}{ts:Nat->Bool}{z:List Int}{W W':World}(h:Kp w B BB m aC ts z W)(hb:Below W.heap.size W W'):Kp w B BB m aC ts z W':=⟨h.1.kept hb,h.2.1.kept hb,bt h.2.2 hb⟩
def mine(aC:Nat->List Int)(ts:Nat->Bool)(z:List Int)(k:Nat):Bool:=dn (aC k) z && !jc (sb ts k)
def r0(aC:Nat->List Int)(ts:Nat->Bool)(z:List Int)(k:Nat):Bool:=mine aC ts z k && (fx (sb ts k)).isSome
def r1(ts:Nat->Bool)(k:Nat):Bool:=jc (sb ts k)
def rm(aC:Nat->List Int)(ts:Nat->Bool)(z:List Int)(m:Nat):Option Nat:=((List.range m).find? (r0 aC ts z)).or ((List.range m).find? (r1 ts))
theorem Qr(f:Nat->Bool)(k:Nat):(List.range (k+1)).find? f=((List.range k).find? f).or (if f k=true then some k else none):=by rw[List.range_succ,List.find?_append,List.find?_singleton]
theorem Qs(o:Option Nat):decide (fi o<0)=o.isNone:=by
 cases o with
 | none=>rfl
 | some i=>unfold fi;simp
attribute [local go_sem ↓] Bp
theorem GH(B BB m:Nat)(aC:Nat->List Int)(ts:Nat->Bool)(z:List Int)(w:World)(h:eZ B BB m aC ts w)(hm:m<=16)(R:Option Nat)(hR:rm aC ts z m=R): Calls prog 250 #[.pointer (some ⟨B,0,none⟩),.agg (av z)] w fun e w'=>e=.returned (.int .i64 (fi R))∧Below w.heap.size w w':=by
 have G:=ki (show Kp w B BB m aC ts z (w.alloc (.cells (av z) 23)) from⟨h.kept (au _ _),iT z w,au _ _⟩);have J:=ki hR;have S:(m:Int)<=16:=by omega
 clear h hR;go_enter func250,ntmps250;go_upto_region 1 with fail
 generalize w.alloc _=W at G⊢;have P:=G.o.1.row;go_wp2;go_loopw [5,13] (fun v i wr=>∃k:Nat,k<=m∧i=.int .i64 k∧v=.int .i64 (fi ((List.range k).find? (r1 ts)))∧Hid (∀j,j<k->r0 aC ts z j=false)∧Hid (Kp w B BB m aC ts z wr)) (fun _ i _=>m-(intOf i).toNat)
 case atStart=>exact⟨0,by omega,rfl,rfl,fun j h=>absurd h (by omega),G⟩
 case round =>
  clear G P;obtain⟨k,T,rfl,rfl,HI,a⟩:=hrel;by_cases hlt:k<m
  ·have U:(k:Int)<(m:Int):=by omega
   have r:=ki (Qr (r1 ts) k);have C:=Qs ((List.range k).find? (r1 ts));have D:=ki (show fi ((List.range k).find? (r1 ts))<=16 by
    cases h9:(List.range k).find? (r1 ts) with
    | none=>show(-1:Int)<=16;omega
    | some i=>have:=List.mem_range.1 (List.mem_of_find?_eq_some h9);show((i:Nat):Int)<=16;omega)
   go_upto_region 5 with(first|(refine Br rfl (.tmp 16) rfl k _ rfl (by omega) hlt a.o.1.2 ?_;have K:=au wr (.cells #[.int .i64 0,.int .i64 0,.int .i64 0,.int .i64 0,.int .i64 0,.int .i64 0,.int .i64 0,.int .i64 0,.bool false,.bool false,.bool false,.bool false,.bool false,.bool false,.bool false,.bool false] 348);have L:=ki (Qp wr))|(refine Qq rfl (.tmp 7) (.tmp 17) rfl rfl L.o (aC k) (sb ts k) rfl ?_;intro V f H;replace a:=ki (a.o.kept (bq _ H));replace f:=ki f;clear H K L))
   generalize wr.heap.size=B2 at f⊢;have p:=ki (show r0 aC ts z k=((dn (aC k) z && !jc (sb ts k)) && !(fx (sb ts k)).isNone) by unfold r0 mine;cases fx (sb ts k)<;>rfl);have y:=ki (fun W=>Qk (aC k) (sb ts k) z W);have A:=ki (fun W=>Qo (aC k) (sb ts k) W);have q:=ki (fun W=>Bq (aC k) (sb ts k) W);have E:=ki (show r1 ts k=jc (sb ts k) from rfl);generalize (dn (aC k) z && !jc (sb ts k))=b at y p;generalize (fx (sb ts k)).isNone=c at A p;generalize jc (sb ts k)=d at q E;generalize (List.range k).find? (r1 ts)=o at C r D⊢;have X:=f.o.pl;cases b
   ·go_upto_region 7 with(first
     | (refine jq rfl (.tmp 3) rfl rfl a.o.2.1 ?_)
     | (go_at_call 291;refine(y.o _).mono ?_;rintro e M ⟨rfl,g⟩;replace a:=ki (a.o.kept g);replace f:=ki (f.o.kept g);have N:=f.o.pl;clear g)
     | (go_at_call 292;refine(A.o _).mono ?_;rintro e O ⟨rfl,l⟩;replace a:=ki (a.o.kept l);replace f:=ki (f.o.kept l);clear l))
    cases o with
    | none =>
     have s:fi none<0:=by decide
     generalize hxe:fi none=x at s D⊢;have t:=ki hxe;clear hxe C;have Q:=f.o.pl;cases d
     ·go_wp2_with (go_at_call 264;refine(q.o _).mono ?_;rintro e I ⟨rfl,n⟩;replace a:=ki (a.o.kept n);clear n)
      go_roundw
      case rel=>exact⟨k+1,by omega,by go_num,by rw[r.o,E.o,<-t.o];rfl,fun j hj=>if e:j=k then by rw[e,p.o];rfl else HI.o j (by omega),a⟩
      case measure=>simp[intOf];omega
     ·go_wp2_with (go_at_call 264;refine(q.o _).mono ?_;rintro e I ⟨rfl,n⟩;replace a:=ki (a.o.kept n);clear n)
      go_roundw
      case rel=>exact⟨k+1,by omega,by go_num,by rw[r.o,E.o];rfl,fun j hj=>if e:j=k then by rw[e,p.o];rfl else HI.o j (by omega),a⟩
      case measure=>simp[intOf];omega
    | some i =>
     have s:¬fi (some i)<0:=by rw[show fi (some i)=(i:Int) from rfl];omega
     have F:=ki (show(List.range (k+1)).find? (r1 ts)=some i by rw[r.o];rfl);generalize hxe:fi (some i)=x at s D⊢;have t:=ki hxe;clear hxe C;go_wp2;go_roundw
     case rel=>exact⟨k+1,by omega,by go_num,by rw[F.o,<-t.o],fun j hj=>if e:j=k then by rw[e,p.o];rfl else HI.o j (by omega),a⟩
     case measure=>simp[intOf];omega
   ·cases c
    ·go_wp2_with (first
     | (refine jq rfl (.tmp 3) rfl rfl a.o.2.1 ?_)
     | (go_at_call 291;refine(y.o _).mono ?_;rintro e M ⟨rfl,g⟩;replace a:=ki (a.o.kept g);replace f:=ki (f.o.kept g);have N:=f.o.pl;clear g)
     | (go_at_call 292;refine(A.o _).mono ?_;rintro e O ⟨rfl,l⟩;replace a:=ki (a.o.kept l);replace f:=ki (f.o.kept l);clear l))
     go_ret;refine⟨?_,a.o.2.2⟩;rw[<-J.o];unfold rm;rw[og hlt p.o HI.o];rfl
    ·go_upto_region 7 with(first
     | (refine jq rfl (.tmp 3) rfl rfl a.o.2.1 ?_)
     | (go_at_call 291;refine(y.o _).mono ?_;rintro e M ⟨rfl,g⟩;replace a:=ki (a.o.kept g);replace f:=ki (f.o.kept g);have N:=f.o.pl;clear g)
     | (go_at_call 292;refine(A.o _).mono ?_;rintro e O ⟨rfl,l⟩;replace a:=ki (a.o.kept l);replace f:=ki (f.o.kept l);clear l))
     cases o with
     | none =>
      have s:fi none<0:=by decide
      generalize hxe:fi none=x at s D⊢;have t:=ki hxe;clear hxe C;have Q:=f.o.pl;cases d
      ·go_wp2_with (go_at_call 264;refine(q.o _).mono ?_;rintro e I ⟨rfl,n⟩;replace a:=ki (a.o.kept n);clear n)
       go_roundw
       case rel=>exact⟨k+1,by omega,by go_num,by rw[r.o,E.o,<-t.o];rfl,fun j hj=>if e:j=k then by rw[e,p.o];rfl else HI.o j (by omega),a⟩
       case measure=>simp[intOf];omega
      ·go_wp2_with (go_at_call 264;refine(q.o _).mono ?_;rintro e I ⟨rfl,n⟩;replace a:=ki (a.o.kept n);clear n)
       go_roundw
       case rel=>exact⟨k+1,by omega,by go_num,by rw[r.o,E.o];rfl,fun j hj=>if e:j=k then by rw[e,p.o];rfl else HI.o j (by omega),a⟩
       case measure=>simp[intOf];omega
     | some i =>
      have s:¬fi (some i)<0:=by rw[show fi (some i)=(i:Int) from rfl];omega
      have F:=ki (show(List.range (k+1)).find? (r1 ts)=some i by rw[r.o];rfl);generalize hxe:fi (some i)=x at s D⊢;have t:=ki hxe;clear hxe C;go_wp2;go_roundw
      case rel=>exact⟨k+1,by omega,by go_num,by rw[F.o,<-t.o],fun j hj=>if e:j=k then by rw[e,p.o];rfl else HI.o j (by omega),a⟩
      case measure=>simp[intOf];omega
  ·obtain rfl:m=k:=by omega
   go_wp2;go_ret;refine⟨?_,a.o.2.2⟩;rw[<-J.o];unfold rm;rw[nZ HI.o];rfl
end
section
theorem Qt(B BB m:Nat)(aC:Nat->List Int)(ts:Nat->Bool)(k j:Nat)(w:World)(h:eZ B BB m aC ts w)(hm:m<=16)(hk:k<m)(hj:j<8): Calls prog 263 #[.pointer (some ⟨B,0,none⟩),.int .i64 (1024+((8*k+j:Nat):Int))] w fun e w'=>e=.returned (if ts (8*k+j)=true then .tuple #[.pointer (some ⟨BB,16*k,none⟩),.int .i64 j] else .tuple #[.pointer none,.int .i64 0])∧w'=w:=by
 have d:=h.row;have c1:=(h.2.bit k hk j hj).1;clear h;have a:(m:Int)<=16:=by omega
 obtain⟨x,hx⟩:∃x:Int,x=((8*k+j:Nat):Int):=⟨_,rfl⟩;rw[<-hx];have f:x.tdiv 8=(k:Int):=by rw[Int.tdiv_eq_ediv_of_nonneg (by omega)];omega
 have g:x.tmod 8=(j:Int):=by rw[Int.tmod_eq_emod_of_nonneg (by omega)];omega
 have i:IntKind.i64.wrap (1024+x-1024)=x:=by rw[IntKind.wrap_i64];omega
 have l:¬1024+x<1024:=by omega
 have n:¬1024+(m:Int)*8<=1024+x:=by omega
 have o:(k:Int)<(m:Int):=by omega
 have p:(j:Int)<8:=by omega
 have b:k*16=16*k:=by omega
 have q:=ki hx;clear hx;cases ht:ts (8*k+j)
 ·rw[ht] at c1;clear ht;go_enter func263,ntmps263;go_wp2;go_ret2;exact⟨rfl,rfl⟩
 ·rw[ht] at c1;clear ht;go_enter func263,ntmps263;go_wp2;go_ret2;exact⟨rfl,rfl⟩
end
section
variable {B:Nat}{aC:Nat->List Int}{w:World}
theorem Qu(B BB m:Nat)(aC:Nat->List Int)(ts:Nat->Bool)(k j:Nat)(w:World)(h:eZ B BB m aC ts w)(hm:m<=16)(hk:k<m)(hj:j<8)(ht:ts (8*k+j)=true): Calls prog 263 #[.pointer (some ⟨B,0,none⟩),.int .i64 (1024+((8*k+j:Nat):Int))] w fun e w'=>e=.returned (.tuple #[.pointer (some ⟨BB,16*k,none⟩),.int .i64 j])∧w'=w:=by have:=Qt B BB m aC ts k j w h hm hk hj;rw[ht] at this;exact this
theorem iO.set{m:Nat}{ts:Nat->Bool}(h:iO B m aC ts w)(k j:Nat)(hk:k<m)(hj:j<8)(x:Bool):iO B m aC (upd ts (8*k+j) x) (w.setCell ⟨B,16*k+8+j,none⟩ (.bool x)):=by
 obtain⟨d,a,f,b⟩:=h;refine⟨d.setIfInBounds (16*k+8+j) (.bool x),?_,by simpa using f,fun k' hk' j' hj'=>⟨?_,?_⟩⟩
 ·rw[setCell_eq_setRow w B _ _ 348 (0,0) (.bool x) a,setRow_heap w B _ _ 348 (0,0) a]
 ·rw[Array.getElem?_setIfInBounds_ne (by omega)];exact(b k' hk' j' hj').1
 ·unfold upd;by_cases e:8*k'+j'=8*k+j
  ·rw[if_pos e,show 16*k'+8+j'=16*k+8+j by omega,Array.getElem?_setIfInBounds_self_of_lt (by omega)]
  ·rw[if_neg e,Array.getElem?_setIfInBounds_ne (by omega)];exact(b k' hk' j' hj').2
theorem iO.held{m:Nat}{ts:Nat->Bool}(h:iO B m aC ts w)(k:Nat)(hk:k<m)(z:List Int): ∃w',(xM (.pointer (some ⟨B,16*k,none⟩)) (.agg (av z))).run prog w=.ok () w'∧iO B m (upd aC k z) ts w'∧Only B w w':=by
 obtain⟨i,a,l,b⟩:=h;refine⟨w.setCells B (16*k) (av z).toList,?_,?_,xL B _ _ w⟩
 ·exact run_storeAt_mid w B (16*k) 23 (av z) (fun j hj=>by have d:j<8:=hj;rw[cell_of_row w B (16*k+j) _ _ _ a,(b k hk j d).1];refine⟨rfl,by simp[World.frozen?,a]⟩) (by kernel_rfl) (by unfold av;simp[Value.oneCell'])
 ·obtain⟨f,n,o,g⟩:=xK B 348 (av z).toList (16*k) w i a;have hl:(av z).toList.length=8:=rfl;refine⟨f,n,o.trans l,fun k' hk' j hj=>⟨?_,?_⟩⟩
  ·rw[g (16*k'+j) (by omega)];unfold upd;by_cases e:k'=k
   ·subst e;rw[if_pos (by rw[hl];omega),if_pos rfl,show 16*k'+j-16*k'=j by omega,<-nY z j hj];simp
   ·rw[if_neg (by rw[hl];omega),if_neg e];exact(b k' hk' j hj).1
  ·rw[g (16*k'+8+j) (by omega),if_neg (by rw[hl];omega)];exact(b k' hk' j hj).2
theorem eZ.sQ{BB m:Nat}{ts:Nat->Bool}(h:eZ B BB m aC ts w)(k j:Nat)(hk:k<m)(hj:j<8)(x:Bool):eZ B BB m aC (upd ts (8*k+j) x) (w.setCell ⟨BB,16*k+8+j,none⟩ (.bool x)) :=
 ⟨(Below.heap_setCell w ⟨BB,_,none⟩ _ B h.ne).trans h.1,h.2.set k j hk hj x⟩
theorem eZ.only{BB m:Nat}{kQ:Nat->List Int}{ts:Nat->Bool}{w':World}(h:eZ B BB m aC ts w)(on:Only BB w w')(hw:iO BB m kQ ts w'):eZ B BB m kQ ts w':=⟨(on.2.2.2.2 B h.ne).trans h.1,hw⟩
def gv(aC:Nat->List Int)(ts:Nat->Bool)(k:Nat):Nat->List Int:=if jc (sb ts k)=true then upd aC k [] else aC
attribute [local go_sem ↓] Ba
theorem Qv(B BB m:Nat)(aC:Nat->List Int)(ts:Nat->Bool)(k j:Nat)(w:World)(h:eZ B BB m aC ts w)(hm:m<=16)(hk:k<m)(hj:j<8)(ht:ts (8*k+j)=true): Calls prog 221 #[.pointer (some ⟨B,0,none⟩),.int .i64 (1024+((8*k+j:Nat):Int))] w fun e w'=>e=.returned .nilIface∧eZ B BB m (gv aC (upd ts (8*k+j) false) k) (upd ts (8*k+j) false) w'∧Fr (fun g=>g=BB) w w':=by
 have o:=ki (Qu B BB m aC ts k j _ h hm hk hj ht);obtain⟨c1,c2⟩:=h.2.bit k hk j hj;have a:=ki (h.sQ k j hk hj false);have f:=ki (qN w BB (16*k+8+j) (.bool false));have i:=ki (show gv aC (upd ts (8*k+j) false) k=if jc (sb (upd ts (8*k+j) false) k)=true then upd aC k [] else aC from rfl);clear h ht;have v:(j:Int)<8:=by omega
 generalize upd ts (8*k+j) false=ts' at a i⊢;have q:=ki (Bq (aC k) (sb ts' k));generalize gv aC ts' k=kQ at i⊢;generalize 1024+((8*k+j:Nat):Int)=p at o⊢;go_enter func221,ntmps221;go_upto_region 5 with(go_at_call 263;refine o.o.mono ?_;rintro e w' ⟨rfl,rfl⟩)
 clear c1 c2 o;generalize w'.setCell _ _=w1 at a f⊢;generalize jc (sb ts' k)=b at q i;cases b
 ·go_wp2_with (first
   | (refine Br rfl (.tmp 22) rfl k _ rfl (by omega) hk a.o.2 ?_)
   | (go_at_call 264;refine(q.o _).mono ?_;rintro e s ⟨rfl,d⟩;replace a:=ki (a.o.kept d);replace f:=ki (f.o.trans (Fr.of d));clear d))
  go_ret;exact⟨rfl,by rw[i.o];exact a.o,f.o⟩
 ·go_upto_region 6 with(first
   | (refine Br rfl (.tmp 22) rfl k _ rfl (by omega) hk a.o.2 ?_)
   | (go_at_call 264;refine(q.o _).mono ?_;rintro e s ⟨rfl,d⟩;replace a:=ki (a.o.kept d);replace f:=ki (f.o.trans (Fr.of d));clear d))
  obtain⟨t,l,r,n⟩:=a.o.2.held k hk [];replace r:=ki (a.o.only n r);replace f:=ki (f.o.trans (n.fr rfl));clear n;replace l:(xM (.pointer (some ⟨BB,16*k,none⟩)) (.agg dH)).run prog s=.ok () t:=l;unfold dH at l;go_wp2;go_ret;exact⟨rfl,by rw[i.o];exact r.o,f.o⟩
end
section
theorem Qw(B BB m:Nat)(aC:Nat->List Int)(ts:Nat->Bool)(z:List Int)(w:World)(h:eZ B BB m aC ts w)(hm:m<=16)(hz:aH z)(hR:rm aC ts z m=none): Calls prog 200 #[.pointer (some ⟨B,0,none⟩),.agg (av z)] w fun e w'=>e=.returned (.tuple #[.int .i64 0,err 3])∧Below w.heap.size w w':=by
 have a:=ki (show Kp w B BB m aC ts z (w.alloc (.cells (av z) 23)) from⟨h.kept (au _ _),iT z w,au _ _⟩);have f:=ki (fun W=>Ar z W hz);have g:=ki (fun W hW=>GH B BB m aC ts z W hW hm none hR);clear h hR hz;go_enter func200,ntmps200;go_upto_region 1 with fail
 generalize w.alloc _=W at a⊢;go_wp2_with (first|(refine jq rfl (.tmp 3) rfl rfl a.o.2.1 ?_)|(go_at_call 70;refine(f.o _).mono ?_;rintro e i ⟨rfl,b⟩;replace a:=ki (a.o.kept b);clear b)|(go_at_call 250;refine(g.o _ a.o.1).mono ?_;rintro e k ⟨rfl,d⟩;replace a:=ki (a.o.kept d);clear d;rw[show fi none=(-1:Int) from rfl]))
 go_ret2;exact⟨rfl,a.o.2.2⟩
attribute [local go_sem ↓] Ba
theorem Qx(B BB m:Nat)(aC:Nat->List Int)(ts:Nat->Bool)(z:List Int)(k j:Nat)(w:World)(h:eZ B BB m aC ts w)(hm:m<=16)(hz:aH z)(hR:rm aC ts z m=some k)(hk:k<m)(hF:fx (sb ts k)=some j)(hj:j<8): Calls prog 200 #[.pointer (some ⟨B,0,none⟩),.agg (av z)] w fun e w'=>e=.returned (.tuple #[.int .i64 (1024+((8*k+j:Nat):Int)),.nilIface])∧eZ B BB m (upd aC k z) (upd ts (8*k+j) true) w'∧Fr (fun g=>g=BB) w w':=by
 have a:=ki (show Kp w B BB m aC ts z (w.alloc (.cells (av z) 23)) from⟨h.kept (au _ _),iT z w,au _ _⟩);have o:=ki (fun W=>Ar z W hz);have p:=ki (fun W hW=>GH B BB m aC ts z W hW hm (some k) hR);have HI:=ki (fun W (hW:eZ B BB m aC ts W)=>show Calls prog 251 #[.slice (some ⟨BB,16*k+8,none⟩) 8 8,.bool false] W fun e w'=>e=.returned (.int .i64 j)∧w'=W by have:=GD BB (16*k+8) (sb ts k) W (fun j hj=>(hW.2.bit k hk j hj).1);rw[hF] at this;exact this);have s:k*16=16*k:=by omega
 have v:(k:Int)<(m:Int):=by omega
 have x:(m:Int)<=16:=by omega
 have y:(j:Int)<8:=by omega
 have A:¬(k:Int)<0:=by omega
 clear h hR hz hF;go_enter func200,ntmps200;go_upto_region 1 with fail
 generalize w.alloc _=W at a⊢;go_upto_region 7 with(first|(refine jq rfl (.tmp 3) rfl rfl a.o.2.1 ?_)|(go_at_call 70;refine(o.o _).mono ?_;rintro e C ⟨rfl,d⟩;replace a:=ki (a.o.kept d);clear d)|(go_at_call 250;refine(p.o _ a.o.1).mono ?_;rintro e D ⟨rfl,f⟩;replace a:=ki (a.o.kept f);clear f;rw[show fi (some k)=(k:Int) from rfl]))
 have E:=a.o.1.row;go_upto_region 9 with(go_at_call 251;refine(HI.o _ a.o.1).mono ?_;rintro e F ⟨rfl,rfl⟩)
 obtain⟨q,t,l,b⟩:=a.o.1.2.held k hk z;have n:=ki (a.o.1.only b l);have i:=ki ((Fr.of (O:=fun g=>g=BB) a.o.2.2).trans (b.fr rfl));clear l b;go_upto_region 10 with(refine jq rfl (.tmp 3) rfl rfl a.o.2.1 ?_)
 obtain⟨c1,c2⟩:=n.o.2.bit k hk j hj;have r:=ki (n.o.sQ k j hk hj true);replace i:=ki (i.o.trans (qN q BB (16*k+8+j) (.bool true)));go_wp2;go_ret2;rw[show(1024:Int)+((8*k+j:Nat):Int)=1024+(k:Int)*8+(j:Int) by omega];exact⟨rfl,r.o,i.o⟩
end
section
theorem Kp.grown{w:World}{B BB m:Nat}{aC:Nat->List Int}{ts:Nat->Bool}{z:List Int}{W W':World}(h:Kp w B BB m aC ts z W)(hB:B<w.heap.size)(XU:BB<w.heap.size){r:Option Nat}(hg:W.grownBy W' r)(hr:∀k,r=some k->w.heap.size+1<=k):Kp w B BB m aC ts z W':=by
 have a:∀g,g<=w.heap.size->some g≠r:=fun g hgl e=>by have:=hr g e.symm;omega
 have hs:=h.2.2.size;have b:=h.2.1.lt;exact⟨⟨(hg.block _ (by omega) (a B (by omega))).trans h.1.1,h.1.2.same (hg.block _ (by omega) (a BB (by omega)))⟩,(hg.block _ b (a _ (Nat.le_refl _))).trans h.2.1,h.2.2.grown hg hs (fun k e=>by have:=hr k e;omega)⟩
attribute [local go_sem ↓] Bp
theorem Qy:(prog.info? 348).map (fun i=>(i.zero,i.size,i.bytes))=some (some (.agg (fI [] (fun _=>false))),16,72):=by kernel_rfl
theorem Qz(b:Nat)(_hb:b<=16):∃cs:Array Value,(∀w:World,(xO 216 (.int .i64 (b:Int)) (.int .i64 (b:Int))).run prog w=.ok (.slice (some ⟨w.heap.size,0,none⟩) b b) (w.alloc (.cells cs 348))) ∧ cs.size=16*b∧∀k,k<b->∀j,j<8->cs[16*k+j]? = some (.int .i64 (el [] j))∧cs[16*k+8+j]? = some (.bool false):=by
 obtain⟨g,i,d,e,f⟩:=info_parts Qy;refine⟨madeCells (fI [] (fun _=>false)) (16*b),fun w=>?_,size_madeCells _ _,fun k hk j hj=>⟨?_,?_⟩⟩
 ·have h:=run_make (P:=prog) w 216 348 g _ underlying216 i d .i64 .i64 (b:Int) (b:Int) (by omega) (by omega) (by rw[f];omega) (by omega);rw[e,show((b:Int)).toNat=b by omega,show b*16=16*b by omega] at h;exact h
 ·rw[xP _ _ _ (by omega)];have a:(16*k+j)%(fI [] (fun _=>false)).size=j:=(by show(16*k+j)%16=j;omega);rw[a];rcases (by omega:j=0∨j=1∨j=2∨j=3∨j=4∨j=5∨j=6∨j=7) with rfl|rfl|rfl|rfl|rfl|rfl|rfl|rfl<;>rfl
 ·rw[xP _ _ _ (by omega)];have a:(16*k+8+j)%(fI [] (fun _=>false)).size=8+j:=(by show(16*k+8+j)%16=8+j;omega);rw[a];rcases (by omega:j=0∨j=1∨j=2∨j=3∨j=4∨j=5∨j=6∨j=7) with rfl|rfl|rfl|rfl|rfl|rfl|rfl|rfl<;>rfl
theorem QA(w:World)(a b:Obj):((w.alloc a).alloc b).heap[w.heap.size]? = some a∧((w.alloc a).alloc b).heap[w.heap.size+1]? = some b∧Below w.heap.size w ((w.alloc a).alloc b):=by have f:(w.alloc a).heap.size=w.heap.size+1:=World.size_alloc _ _;have g:=au w a;have d:=au (w.alloc a) b;have h:(w.alloc a).heap[w.heap.size]? = some a:=heap_alloc_new w a;have e:=heap_alloc_new (w.alloc a) b;rw[f] at e;exact⟨by rw[d.block _ (by omega)];exact h,e,bt g d⟩
theorem QB(b:Int)(w:World)(hb:b<1∨16<b): Calls prog 76 #[.int .i64 b] w fun e w'=>e=.returned (.tuple #[.pointer none,err 1])∧w'=w:=by
 rcases hb with h1|h1
 ·go_enter func76,ntmps76;go_wp2;go_ret2;exact⟨rfl,rfl⟩
 ·have a:¬b<1:=by omega
  go_enter func76,ntmps76;go_wp2;go_ret2;exact⟨rfl,rfl⟩
attribute [local go_sem ↓] FY
theorem QC(b:Nat)(w:World)(h1:1<=b)(hb:b<=16): Calls prog 76 #[.int .i64 b] w fun e w'=>∃B BB,e=.returned (.tuple #[.pointer (some ⟨B,0,none⟩),.nilIface])∧eZ B BB b (fun _=>[]) (fun _=>false) w'∧w.heap.size<=B∧w.heap.size<=BB∧Below w.heap.size w w':=by
 obtain⟨a,k,sc,hc⟩:=Qz b hb;have d:=ki sc;have f:=ki hc;have l:¬(b:Int)<1:=by omega
 have n:¬16<(b:Int):=by omega
 clear sc hc;go_enter func76,ntmps76;go_wp2;go_ret2;obtain⟨g,h,i⟩:=QA w (.cells a 348) (.cells #[.slice (some ⟨w.heap.size,0,none⟩) b b] 218);exact⟨w.heap.size+1,rfl,w.heap.size,⟨h,a,g,d.o,f.o⟩,by omega,by omega,i⟩
end
section
variable {a b:List Int}{aC:Nat->List Int}
def mq(ws aC:Nat->List Int)(ts:Nat->Bool)(m:Nat):Prop:=∀k,k<m->∀j,j<8->ts (8*k+j)=true->av (ws (8*k+j))=av (aC k)
theorem pW(h:av a=av b)(j:Nat)(hj:j<8):el a j=el b j:=by
 have d:=nY a j hj;rw[h,nY b j hj] at d;injection d with d
 injection d with _ d
 exact d.symm
theorem QD(h:dn a b=true):av a=av b:=by have d:=(sJ a b).1 h;unfold av;rw[d 0 (by omega),d 1 (by omega),d 2 (by omega),d 3 (by omega),d 4 (by omega),d 5 (by omega),d 6 (by omega),d 7 (by omega)]
theorem QE(h:av a=av b)(z:List Int):dn a z=dn b z:=by unfold dn;rw[pW h 0 (by omega),pW h 1 (by omega),pW h 2 (by omega),pW h 3 (by omega),pW h 4 (by omega),pW h 5 (by omega),pW h 6 (by omega),pW h 7 (by omega)]
theorem GI(ts:Nat->Bool)(k:Nat):(jc (sb ts k)=true∧kD ts k=none)∨(jc (sb ts k)=false∧∃j,j<8∧ts (8*k+j)=true∧kD ts k=some (8*k+j)):=by
 cases h:kD ts k with
 | none =>refine .inl ⟨(vk _).2 fun j hj=>?_,rfl⟩;unfold kD at h;rw[List.find?_eq_none] at h;have:=h (8*k+j) (by rw[List.mem_range'_1];omega);unfold sb;simpa using this
 | some i =>
  unfold kD at h;have a:=List.find?_some h;have b:=List.mem_of_find?_eq_some h;rw[List.mem_range'_1] at b;obtain⟨j,rfl⟩:∃j,i=8*k+j:=⟨i-8*k,by omega⟩;refine .inr ⟨?_,j,by omega,a,rfl⟩;cases hn:jc (sb ts k)
  ·rfl
  ·have:=(vk _).1 hn j (by omega);unfold sb at this;rw[this] at a;cases a
theorem QF{ws:Nat->List Int}{ts:Nat->Bool}{m:Nat}(h:mq ws aC ts m)(z:List Int)(k:Nat)(hk:k<m):sS ws ts z k=mine aC ts z k:=by
 unfold sS mine;rcases GI ts k with⟨h1,h2⟩|⟨h1,j,hj,ht,h2⟩
 ·rw[h1,h2];simp[xJ]
 ·rw[h1,h2];show dn (ws (8*k+j)) z=_;rw[QE (h k hk j hj ht) z];simp
theorem QG{t:Nat->Bool}{j:Nat}(h:fx t=some j):j<8∧t j=false∧∀i,i<j->t i=true:=by unfold fx at h;rw[List.find?_range_eq_some] at h;obtain⟨a,b,d⟩:=h;exact⟨List.mem_range.1 b,by simpa using a,fun i hi=>by simpa using d i hi⟩
theorem QH{t:Nat->Bool}(h:fx t=none)(j:Nat)(hj:j<8):t j=true:=by unfold fx at h;rw[List.find?_eq_none] at h;simpa using h j (List.mem_range.2 hj)
theorem GJ(f:Nat->Bool)(a:Nat->Bool)(ts:Nat->Bool)(m:Nat)(hf:∀k,k<m->∀j,j<8->f (8*k+j)=(!ts (8*k+j) && a k)): ((List.range m).find? (fun k=>a k && (fx (sb ts k)).isSome)=none∧(List.range (8*m)).find? f=none) ∨ ∃k j,k<m∧j<8∧a k=true∧(List.range m).find? (fun k=>a k && (fx (sb ts k)).isSome)=some k∧fx (sb ts k)=some j∧(List.range (8*m)).find? f=some (8*k+j):=by
 have l:∀k,k<m->(a k && (fx (sb ts k)).isSome)=false->∀j,j<8->f (8*k+j)=false:=by
  intro k d h j g;rw[hf k d j g];cases ha:a k
  ·simp
  ·rw[ha] at h;cases hx:fx (sb ts k) with
   | none=>have:=QH hx j g;unfold sb at this;rw[this];rfl
   | some i=>rw[hx] at h;cases h
 cases h:(List.range m).find? (fun k=>a k && (fx (sb ts k)).isSome) with
 | none =>refine .inl ⟨rfl,nZ fun i hi=>?_⟩;rw[List.find?_eq_none] at h;have b:=h (i/8) (List.mem_range.2 (by omega));have:=l (i/8) (by omega) (by simpa using b) (i%8) (by omega);rwa [show 8*(i/8)+i%8=i by omega] at this
 | some k =>
  rw[List.find?_range_eq_some] at h;obtain⟨b,r,s⟩:=h;have d:=List.mem_range.1 r;rw[Bool.and_eq_true] at b;obtain⟨j,g⟩:=Option.isSome_iff_exists.1 b.2;obtain⟨o,p,t⟩:=QG g;refine .inr ⟨k,j,d,o,b.1,rfl,g,og (by omega) ?_ fun i hi=>?_⟩
  ·rw[hf k d j o,b.1];unfold sb at p;rw[p];rfl
  ·by_cases e:i/8=k
   ·have n:=t (i%8) (by omega);unfold sb at n;have q:=hf k d (i%8) (by omega);rw[show 8*k+i%8=i by omega] at n q;rw[q,n];rfl
   ·have h4:=s (i/8) (by omega);have:=l (i/8) (by omega) (by simpa only [Bool.not_eq_true'] using h4) (i%8) (by omega);rwa [show 8*(i/8)+i%8=i by omega] at this
theorem GK{ws:Nat->List Int}{ts:Nat->Bool}{m:Nat}(h:mq ws aC ts m)(z:List Int): (tk ws ts z (8*m)=none∧rm aC ts z m=none)∨∃k j,k<m∧j<8∧(mine aC ts z k=true∨jc (sb ts k)=true)∧rm aC ts z m=some k∧fx (sb ts k)=some j∧tk ws ts z (8*m)=some (8*k+j):=by
 have a:r0 aC ts z=fun k=>mine aC ts z k && (fx (sb ts k)).isSome:=rfl
 have b:r1 ts=fun k=>jc (sb ts k) && (fx (sb ts k)).isSome:=by
  funext k;unfold r1;cases hn:jc (sb ts k)
  ·rfl
  ·rw[GA (t:=sb ts k) (i:=0) (by omega) ((vk _).1 hn 0 (by omega)) (fun j hj=>absurd hj (by omega))];rfl
 have hd:∀k j:Nat,j<8->(8*k+j)/8=k:=fun k j hj=>by omega
 unfold tk rm;rw[a,b];rcases GJ (f0 ws ts z) (mine aC ts z) ts m (fun k hk j hj=>by unfold f0;rw[hd k j hj,QF h z k hk]) with⟨a1,a2⟩|⟨k,j,hk,hj,a0,a1,a2,a3⟩
 ·rw[a1,a2];rcases GJ (f1 ts) (fun k=>jc (sb ts k)) ts m (fun k hk j hj=>by unfold f1;rw[hd k j hj];rcases GI ts k with⟨h1,h2⟩|⟨h1,_,_,_,h2⟩<;>rw[h1,h2]<;>rfl) with⟨b1,b2⟩|⟨k,j,hk,hj,b0,b1,b2,b3⟩
  ·rw[b1,b2];exact .inl ⟨rfl,rfl⟩
  ·rw[b1,b3];exact .inr ⟨k,j,hk,hj,.inr b0,rfl,b2,rfl⟩
 ·rw[a1,a3];exact .inr ⟨k,j,hk,hj,.inl a0,rfl,a2,rfl⟩
theorem mq.take{ws:Nat->List Int}{ts:Nat->Bool}{m:Nat}(h:mq ws aC ts m)(z:List Int)(k j:Nat)(hj:j<8)(hm:mine aC ts z k=true∨jc (sb ts k)=true):mq (upd ws (8*k+j) z) (upd aC k z) (upd ts (8*k+j) true) m:=by
 intro b g f d a;unfold upd at a⊢;by_cases e:8*b+f=8*k+j
 ·have:b=k:=by omega
  rw[if_pos e,if_pos this]
 ·rw[if_neg e] at a⊢;have i:=h b g f d a;by_cases ek:b=k
  ·subst ek;rw[if_pos rfl,i];rcases hm with hm|hm
   ·unfold mine at hm;rw[Bool.and_eq_true] at hm;exact QD hm.1
   ·have:=(vk _).1 hm f d;unfold sb at this;rw[this] at a;cases a
  ·rw[if_neg ek];exact i
theorem mq.give{ws:Nat->List Int}{ts:Nat->Bool}{m:Nat}(h:mq ws aC ts m)(k j:Nat):mq ws (gv aC (upd ts (8*k+j) false) k) (upd ts (8*k+j) false) m:=by
 intro b g d f a;have i:ts (8*b+d)=true:=by
  unfold upd at a;by_cases e:8*b+d=8*k+j
  ·rw[if_pos e] at a;cases a
  ·rwa [if_neg e] at a
 rw[h b g d f i];unfold gv;split
 ·rename_i hn;by_cases ek:b=k
  ·subst ek;have:=(vk _).1 hn d f;unfold sb at this;rw[this] at a;cases a
  ·unfold upd;rw[if_neg ek]
 ·rfl
end
end Go.Proofs.YtgcojnlngchllaaGreatDoor
