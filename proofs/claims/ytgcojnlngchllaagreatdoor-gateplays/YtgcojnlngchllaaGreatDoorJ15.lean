import Derived.Test.YtgcojnlngchllaaGreatDoorJ08
import Derived.Test.YtgcojnlngchllaaGreatDoorJ12
namespace Go.Proofs.YtgcojnlngchllaaGreatDoor
open Go.RowKit Tryz
set_option linter.unusedVariables false
set_option maxRecDepth 100000
set_option maxHeartbeats 40000000
section
theorem AU(x0 x1 x2 x3 x4 x5 x6 x7 y0 y1 y2 y3 y4 jG y6 mR:Int)(w:World):(Op.equalIn 10000 23 (.agg #[.int .i64 x0,.int .i64 x1,.int .i64 x2,.int .i64 x3,.int .i64 x4,.int .i64 x5,.int .i64 x6,.int .i64 x7]) (.agg #[.int .i64 y0,.int .i64 y1,.int .i64 y2,.int .i64 y3,.int .i64 y4,.int .i64 jG,.int .i64 y6,.int .i64 mR])).run prog w=.ok (x0 == y0 && x1 == y1 && x2 == y2 && x3 == y3 && x4 == y4 && x5 == jG && x6 == y6 && x7 == mR) w:=by
 have a:=underlying3;have b:=isAgg3;have d:=sizeOf3;rw[show(10000:Nat)=9999+1 from rfl,Op.equalIn];simp only[Sem.run_bind,run_underlying underlying23,Result.andThen_ok];simp only[Std.Legacy.Range.forIn_eq_forIn_range',Std.Legacy.Range.size,Nat.sub_zero,Nat.add_sub_cancel,Nat.div_one,List.range'_succ,List.range'_zero,List.forIn_cons,List.forIn_nil];go_simp;by_cases h0:x0=y0;case neg=>simp[h0]
 by_cases h1:x1=y1;case neg=>simp[h0,h1]
 by_cases h2:x2=y2;case neg=>simp[h0,h1,h2]
 by_cases h3:x3=y3;case neg=>simp[h0,h1,h2,h3]
 by_cases h4:x4=y4;case neg=>simp[h0,h1,h2,h3,h4]
 by_cases h5:x5=jG;case neg=>simp[h0,h1,h2,h3,h4,h5]
 by_cases h6:x6=y6;case neg=>simp[h0,h1,h2,h3,h4,h5,h6]
 by_cases h7:x7=mR;case neg=>simp[h0,h1,h2,h3,h4,h5,h6,h7]
 simp[h0,h1,h2,h3,h4,h5,h6,h7]
theorem xE(a b:List Int)(w:World):(Op.equalIn 10000 23 (.agg #[.int .i64 (el a 0),.int .i64 (el a 1),.int .i64 (el a 2),.int .i64 (el a 3),.int .i64 (el a 4),.int .i64 (el a 5),.int .i64 (el a 6),.int .i64 (el a 7)]) (.agg #[.int .i64 (el b 0),.int .i64 (el b 1),.int .i64 (el b 2),.int .i64 (el b 3),.int .i64 (el b 4),.int .i64 (el b 5),.int .i64 (el b 6),.int .i64 (el b 7)])).run prog w=.ok (dn a b) w:=AU _ _ _ _ _ _ _ _ _ _ _ _ _ _ _ _ w
theorem uQ(n:Int)(w:World)(h:Word n):Calls prog 22 #[.int .i64 n] w fun e w'=>e=.returned (.bool true)∧w'=w:=by obtain⟨a,b⟩:=h;go_enter func22,ntmps22;go_wp2;go_ret;exact⟨rfl,rfl⟩
theorem uR(n:Int)(w:World)(h:¬Word n):Calls prog 22 #[.int .i64 n] w fun e w'=>e=.returned (.bool false)∧w'=w:=by
 by_cases h1:0<=n
 ·have h2:¬n<=65535:=fun h2=>h ⟨h1,h2⟩
  clear h;go_enter func22,ntmps22;go_wp2;go_ret;exact⟨rfl,rfl⟩
 ·clear h;go_enter func22,ntmps22;go_wp2;go_ret;exact⟨rfl,rfl⟩
theorem uS(z:List Int)(w:World):Calls prog 21 #[six z] w fun e w'=>((aH z∧e=.returned (.int .i64 0))∨(¬aH z∧e=.returned (.int .i64 1)))∧Below w.heap.size w w':=by
 have f:=iT z w;have b:Below w.heap.size w (w.alloc (.cells #[.int .i64 (el z 0),.int .i64 (el z 1),.int .i64 (el z 2),.int .i64 (el z 3),.int .i64 (el z 4),.int .i64 (el z 5),.int .i64 (el z 6),.int .i64 (el z 7)] 23)):=(Below.refl _ _).alloc (Nat.le_refl _) _;unfold six;go_enter func21,ntmps21;go_wp2;generalize w.alloc (.cells #[.int .i64 (el z 0),.int .i64 (el z 1),.int .i64 (el z 2),.int .i64 (el z 3),.int .i64 (el z 4),.int .i64 (el z 5),.int .i64 (el z 6),.int .i64 (el z 7)] 23)=W at f b⊢;go_loop [3] (fun t=>∃k:Nat,k<=8∧(∀j,j<k->Word (el z j))∧t=.int .i64 k) (fun t=>8-(intOf t).toNat)
 case atStart=>exact⟨0,by omega,fun i hi=>absurd hi (by omega),rfl⟩
 case round =>
  obtain⟨k,g,a,rfl⟩:=hrel;have HI:=ki a;clear a;by_cases hlt:k<8
  ·have hc:=(f.facts k hlt).1;by_cases hx:Word (el z k)
   ·have d:=ki hx;generalize el z k=x at hc hx;go_wp2_with (go_at_call 22;refine(uQ _ _ hx).mono ?_;rintro e w' ⟨rfl,rfl⟩)
    go_round
    case rel=>exact⟨k+1,by omega,fun i hi=>if h:i=k then by subst h;exact d.o else HI.o i (by omega),by go_num⟩
    case measure=>simp[intOf];omega
   ·have d:=ki hx;generalize el z k=x at hc hx;go_wp2_with (go_at_call 22;refine(uR _ _ hx).mono ?_;rintro e w' ⟨rfl,rfl⟩)
    go_ret;exact⟨.inr ⟨fun h=>d.o (h k hlt),rfl⟩,b⟩
  ·go_wp2;go_ret;obtain rfl:k=8:=by omega
   exact⟨.inl ⟨HI.o,rfl⟩,b⟩
theorem qM(z:List Int)(w:World)(h:aH z):Calls prog 21 #[.agg (av z)] w fun e w'=>e=.returned (.int .i64 0)∧Below w.heap.size w w' :=
 (uS z w).mono fun e w' ⟨hh,hb⟩=>by
  rcases hh with⟨_,he⟩|⟨hn,_⟩
  ·exact⟨he,hb⟩
  ·exact absurd h hn
theorem A8(z:List Int)(w:World)(h:¬aH z):Calls prog 21 #[.agg (av z)] w fun e w'=>e=.returned (.int .i64 1)∧Below w.heap.size w w' :=
 (uS z w).mono fun e w' ⟨hh,hb⟩=>by
  rcases hh with⟨hn,_⟩|⟨_,he⟩
  ·exact absurd hn h
  ·exact⟨he,hb⟩
end
section
variable {B BT BW n:Nat}{w w':World}
def jU(B n:Nat)(ws:Nat->List Int)(w:World):Prop:=∃cs:Array Value,w.heap[B]? = some (.cells cs 23 (0,0))∧cs.size=8*n∧∀i,i<n->∀j,j<8->cs[8*i+j]? = some (.int .i64 (el (ws i) j))
def lH(B n:Nat)(ts:Nat->Bool)(w:World):Prop:=∃cs:Array Value,w.heap[B]? = some (.cells cs 4 (0,0))∧cs.size=n∧∀i,i<n->cs[i]? = some (.bool (ts i))
theorem jU.lt{ws:Nat->List Int}(h:jU B n ws w):B<w.heap.size:=by obtain⟨cs,h1,_⟩:=h;exact(Array.getElem?_eq_some_iff.1 h1).1
theorem lH.lt{ts:Nat->Bool}(h:lH B n ts w):B<w.heap.size:=by obtain⟨cs,h1,_⟩:=h;exact(Array.getElem?_eq_some_iff.1 h1).1
theorem jU.same{ws:Nat->List Int}(h:jU B n ws w)(e:w'.heap[B]? = w.heap[B]?):jU B n ws w':=by obtain⟨cs,h1,h2⟩:=h;exact⟨cs,e.trans h1,h2⟩
theorem lH.same{ts:Nat->Bool}(h:lH B n ts w)(e:w'.heap[B]? = w.heap[B]?):lH B n ts w':=by obtain⟨cs,h1,h2⟩:=h;exact⟨cs,e.trans h1,h2⟩
theorem jU.ne{B' n':Nat}{ws:Nat->List Int}{ts:Nat->Bool}(h:jU B n ws w)(h':lH B' n' ts w):B≠B':=by rintro rfl;obtain⟨e,b,_⟩:=h;obtain⟨d,a,_⟩:=h';rw[b] at a;cases a
theorem jU.range{ws:Nat->List Int}(h:jU B n ws w)(i:Nat)(hi:i<n):w.rangeAt B (8*i) (av (ws i)).toList:=by obtain⟨e,b,f,d⟩:=h;intro j v hv;have a:j<8:=(List.getElem?_eq_some_iff.1 hv).1;rw[cell_of_row w B (8*i+j) _ _ _ b,d i hi j a,<-nY (ws i) j a];simpa using hv
theorem lH.cell{ts:Nat->Bool}(h:lH B n ts w)(i:Nat)(hi:i<n):w.cell? ⟨B,i,none⟩=some (.bool (ts i))∧w.frozen? ⟨B,i,none⟩=false:=by obtain⟨d,a,e,b⟩:=h;refine⟨by rw[cell_of_row w B i _ _ _ a];exact b i hi,by simp[World.frozen?,a]⟩
theorem Ox{ops:Array Oper}{rest:List Oper}{o:Oper}{f:Act}{Q:Exit->Act->World->Prop}(hgd:o.guard=none)(x:Operand)(ho:o.op=.load 23 x){B n:Nat}{ws:Nat->List Int}(i off:Nat)(hx:f.eval x=.pointer (some ⟨B,off,none⟩))(hoff:off=8*i)(hi:i<n)(p:jU B n ws w)(hK:wpList prog ops Q rest (f.put o.dst (.agg (av (ws i)))) w):wpList prog ops Q (o::rest) f w:=by subst hoff;exact wpList_load_mid hgd 23 x ho B (8*i) hx (av (ws i)).toList _ (p.range i hi) underlying23 rfl (by kernel_rfl) hK
theorem aP.stored{z0:List Int}(p:aP B z0 w)(z:List Int):aP B z (w.setRow B (av z)):=setRow_heap w B _ _ _ (0,0) p
theorem xI{ops:Array Oper}{rest:List Oper}{o:Oper}{f:Act}{Q:Exit->Act->World->Prop}(hgd:o.guard=none)(x y:Operand)(ho:o.op=.store 23 x y){B:Nat}{z0:List Int}(hx:f.eval x=.pointer (some ⟨B,0,none⟩))(p:aP B z0 w)(z:List Int)(hy:f.eval y=.agg (av z))(hK:∀w',aP B z w'->Only B w w'->wpList prog ops Q rest (f.put o.dst undef) w'):wpList prog ops Q (o::rest) f w :=
 wpList_store_row hgd 23 x y ho B _ hx hy 23 _ p (by kernel_rfl) rfl (by unfold av;simp[Value.oneCell']) (hK _ (p.stored z) (dS _ _ _))
def dH:Array Value:=#[.int .i64 0,.int .i64 0,.int .i64 0,.int .i64 0,.int .i64 0,.int .i64 0,.int .i64 0,.int .i64 0]
theorem FT(w:World):aP w.heap.size [] (w.alloc (.cells dH 23)):=um w
theorem FU{fn:Func}{p u:Tmp}(h:fn.results=#[.cell p 23,.tmp u])(tmps:Array Value)(w:World)(B:Nat)(z:List Int)(ht:tmps.getD p undef=.pointer (some ⟨B,0,none⟩))(hg:aP B z w): (results fn tmps).run prog w=.ok (.tuple #[.agg (av z),tmps.getD u undef]) w:=by rw[results_cell_tmp h,ht];have hl:=run_loadVar_row (P:=prog) w B 23 23 _ (0,0) _ hg underlying23 rfl (by kernel_rfl);simp[asAddr,hl]
def dI(B BW BT n:Nat)(ws:Nat->List Int)(ts:Nat->Bool)(w:World):Prop :=
 w.heap[B]? = some (.cells #[.slice (some ⟨BW,0,none⟩) n n,.slice (some ⟨BT,0,none⟩) n n] 222 (0,0))∧jU BW n ws w∧lH BT n ts w
theorem dI.lt{ws:Nat->List Int}{ts:Nat->Bool}(h:dI B BW BT n ws ts w):B<w.heap.size:=(Array.getElem?_eq_some_iff.1 h.1).1
theorem dI.kept{ws:Nat->List Int}{ts:Nat->Bool}(h:dI B BW BT n ws ts w)(hb:Below w.heap.size w w'):dI B BW BT n ws ts w' :=
 ⟨(hb.block B h.lt).trans h.1,h.2.1.same (hb.block BW h.2.1.lt),h.2.2.same (hb.block BT h.2.2.lt)⟩
theorem dI.who{ws:Nat->List Int}{ts:Nat->Bool}(h:dI B BW BT n ws ts w):w.cell? ⟨B,0,none⟩=some (.slice (some ⟨BW,0,none⟩) n n):=cell_of_row w B 0 _ _ _ h.1
theorem dI.taken{ws:Nat->List Int}{ts:Nat->Bool}(h:dI B BW BT n ws ts w):w.cell? ⟨B,1,none⟩=some (.slice (some ⟨BT,0,none⟩) n n):=cell_of_row w B 1 _ _ _ h.1
def kD(ts:Nat->Bool)(k:Nat):Option Nat:=(List.range' (8*k) 8).find? ts
def sP(ws:Nat->List Int)(o:Option Nat):List Int:=match o with|some i=>ws i|none=>[]
theorem Oy{ts:Nat->Bool}{k:Nat}(h:∀j,8*k<=j->j<8*k+8->ts j=false):kD ts k=none:=by unfold kD;rw[List.find?_eq_none];intro x a;rw[List.mem_range'_1] at a;rw[h x a.1 a.2];decide
theorem Oz{ts:Nat->Bool}{k i:Nat}(h1:8*k<=i)(h2:i<8*k+8)(h3:ts i=true)(h:∀j,8*k<=j->j<i->ts j=false):kD ts k=some i:=by
 unfold kD;rw[List.find?_eq_some_iff_append];refine⟨h3,List.range' (8*k) (i-8*k),List.range' (i+1) (8*k+8-(i+1)),?_,fun x hx=>?_⟩
 ·rw[show i::List.range' (i+1) (8*k+8-(i+1))=List.range' i (8*k+8-i) by rw[show 8*k+8-i=(8*k+8-(i+1))+1 by omega];rfl];have:=List.range'_append_1 (s:=8*k) (m:=i-8*k) (n:=8*k+8-i);rw[show 8*k+(i-8*k)=i by omega,show i-8*k+(8*k+8-i)=8 by omega] at this;exact this.symm
 ·rw[List.mem_range'_1] at hx;rw[h x hx.1 (by omega)];rfl
end
section
theorem OA(B BW BT n:Nat)(ws:Nat->List Int)(ts:Nat->Bool)(k:Nat)(w:World)(h:dI B BW BT n ws ts w)(hn:n<=128)(hk:8*k+8<=n)(R:Option Nat)(hR:kD ts k=R): Calls prog 133 #[.pointer (some ⟨B,0,none⟩),.int .i64 k] w fun e w'=>e=.returned (.tuple #[.agg (av (sP ws R)),.bool R.isSome])∧Below w.heap.size w w':=by
 have f:=ki (au w (.cells dH 23));have l:=ki (FT w);have d:=ki (h.kept f.o);have p:=ki hR;unfold dH at f l d;clear h hR;have v:(k:Int)<=128:=by omega
 have x:(0:Int)<=(k:Int):=by omega
 go_enter func133,ntmps133;go_upto_region 1 with fail
 generalize w.alloc _=W at f l d⊢;go_wp2;go_loop [6] (fun t=>∃i:Nat,8*k<=i∧i<=8*k+8∧Hid (∀j,8*k<=j->j<i->ts j=false)∧t=.int .i64 i) (fun t=>8*k+8-(intOf t).toNat)
 case atStart=>exact⟨8*k,by omega,by omega,fun j h1 h2=>absurd h1 (by omega),by go_num⟩
 case round =>
  obtain⟨i,q,y,HI,rfl⟩:=hrel;have z:=d.o.taken;have A:=d.o.who;by_cases hlt:i<8*k+8
  ·obtain⟨c1,c2⟩:=d.o.2.2.cell i (by omega);have C:(i:Int)<(n:Int):=by omega
   have D:(0:Int)<=(i:Int):=by omega
   have r:(i:Int)<((k:Int)+1)*8:=by omega
   cases ht:ts i
   ·rw[ht] at c1;go_wp2;go_round
    case rel=>exact⟨i+1,by omega,by omega,fun j h1 h2=>if e:j=i then by rw[e];exact ht else HI.o j h1 (by omega),by go_num⟩
    case measure=>simp[intOf];omega
   ·rw[ht] at c1;have o:=ki (show R=some i from p.o.symm.trans (Oz q (by omega) ht HI.o));clear ht;go_wp2_with (first|(refine Ox rfl (.tmp 28) rfl i _ rfl (by omega) (by omega) d.o.2.1 ?_)|(refine xI rfl (.tmp 4) (.tmp 29) rfl rfl l.o (ws i) rfl ?_;intro s b a;have g:=ki (a.below f.o (Nat.le_refl _));replace b:=ki b;clear a))
    try simp only[Exit.inBlock,Exit.then]
    refine bodyPost_ret (FU rfl _ _ w.heap.size (ws i) rfl b.o) rfl ?_;rw[o.o];exact⟨rfl,g.o⟩
  ·have r:¬(i:Int)<((k:Int)+1)*8:=by omega
   have o:=ki (show R=none from p.o.symm.trans (Oy (fun j h1 h2=>HI.o j h1 (by omega))));clear hlt;go_wp2_with (refine xI rfl (.tmp 4) (.tmp 30) rfl rfl l.o [] rfl ?_;intro s b a;have g:=ki (a.below f.o (Nat.le_refl _));replace b:=ki b;clear a)
   try simp only[Exit.inBlock,Exit.then]
   refine bodyPost_ret (FU rfl _ _ w.heap.size [] rfl b.o) rfl ?_;rw[o.o];exact⟨rfl,g.o⟩
end
section
variable {B n:Nat}{O:Nat->Prop}{w w':World}
def Fr(O:Nat->Prop)(w w':World):Prop:=w'.os=w.os∧w'.tape=w.tape∧w'.output=w.output∧w.heap.size<=w'.heap.size∧∀g,g<w.heap.size->¬O g->w'.heap[g]? = w.heap[g]?
theorem Fr.refl(O:Nat->Prop)(w:World):Fr O w w:=⟨rfl,rfl,rfl,Nat.le_refl _,fun _ _ _=>rfl⟩
theorem Fr.of(h:Below w.heap.size w w'):Fr O w w':=⟨h.os,h.tape,h.output,h.size,fun g hg _=>h.block g hg⟩
theorem Fr.trans{a b c:World}(h1:Fr O a b)(h2:Fr O b c):Fr O a c :=
 ⟨h2.1.trans h1.1,h2.2.1.trans h1.2.1,h2.2.2.1.trans h1.2.2.1,Nat.le_trans h1.2.2.2.1 h2.2.2.2.1,fun g hg hO=>(h2.2.2.2.2 g (Nat.lt_of_lt_of_le hg h1.2.2.2.1) hO).trans (h1.2.2.2.2 g hg hO)⟩
theorem Fr.mono{O':Nat->Prop}(h:Fr O w w')(hO:∀g,O g->O' g):Fr O' w w':=⟨h.1,h.2.1,h.2.2.1,h.2.2.2.1,fun g hg hn=>h.2.2.2.2 g hg (fun ho=>hn (hO g ho))⟩
theorem Fr.below{base:Nat}{w0:World}(h:Fr O w w')(hb:Below base w0 w)(hO:∀g,O g->base<=g)(hs:base<=w.heap.size):Below base w0 w' :=
 ⟨h.1.trans hb.os,h.2.1.trans hb.tape,h.2.2.1.trans hb.output,Nat.le_trans hb.size h.2.2.2.1,fun g hg=>(h.2.2.2.2 g (Nat.lt_of_lt_of_le hg hs) (fun ho=>absurd (hO g ho) (by omega))).trans (hb.block g hg)⟩
def upd{α:Type}(f:Nat->α)(i:Nat)(x:α):Nat->α:=fun j=>if j=i then x else f j
theorem lH.set{ts:Nat->Bool}(h:lH B n ts w)(i:Nat)(x:Bool):lH B n (upd ts i x) (w.setCell ⟨B,i,none⟩ (.bool x)):=by
 obtain⟨b,a,d,f⟩:=h;refine⟨b.setIfInBounds i (.bool x),?_,by simpa using d,fun j hj=>?_⟩
 ·rw[setCell_eq_setRow w B i _ 4 (0,0) (.bool x) a,setRow_heap w B _ _ 4 (0,0) a]
 ·unfold upd;by_cases e:j=i
  ·subst e;rw[if_pos rfl,Array.getElem?_setIfInBounds_self_of_lt (by omega)]
  ·rw[if_neg e,Array.getElem?_setIfInBounds_ne (fun h=>e h.symm)];exact f j hj
theorem dI.ne{BW BT:Nat}{ws:Nat->List Int}{ts:Nat->Bool}(h:dI B BW BT n ws ts w):B≠BW∧B≠BT∧BW≠BT:=by
 obtain⟨a,b,d⟩:=h;refine⟨?_,?_,b.ne d⟩
 ·rintro rfl;obtain⟨e,h,_⟩:=b;rw[a] at h;cases h
 ·rintro rfl;obtain⟨e,h,_⟩:=d;rw[a] at h;cases h
theorem qN(w:World)(B i:Nat)(v:Value):Fr (fun g=>g=B) w (w.setCell ⟨B,i,none⟩ v) :=
 ⟨rfl,rfl,rfl,by simp,fun g _ hg=>Below.heap_setCell w ⟨B,i,none⟩ v g hg⟩
theorem dI.sQ{BW BT:Nat}{ws:Nat->List Int}{ts:Nat->Bool}(h:dI B BW BT n ws ts w)(i:Nat)(x:Bool):dI B BW BT n ws (upd ts i x) (w.setCell ⟨BT,i,none⟩ (.bool x)):=by have hn:=h.ne;exact⟨(Below.heap_setCell w ⟨BT,i,none⟩ _ B hn.2.1).trans h.1,h.2.1.same (Below.heap_setCell w ⟨BT,i,none⟩ _ BW hn.2.2),h.2.2.set i x⟩
def hs(ts:Nat->Bool)(n:Nat)(p:Int):Bool:=decide (1024<=p) && (decide (p<1024+(n:Int)) && ts (p-1024).toNat)
theorem OB{ts:Nat->Bool}{p:Int}(h:p<1024):hs ts n p=false:=by unfold hs;rw[decide_eq_false (by omega)];rfl
theorem OC{ts:Nat->Bool}{p:Int}(h:1024+(n:Int)<=p):hs ts n p=false:=by unfold hs;rw[decide_eq_false (show ¬p<1024+(n:Int) by omega)];simp
theorem A9{ts:Nat->Bool}(i:Nat)(h:i<n):hs ts n (1024+(i:Int))=ts i:=by unfold hs;rw[decide_eq_true (show(1024:Int)<=1024+(i:Int) by omega),decide_eq_true (show(1024:Int)+(i:Int)<1024+(n:Int) by omega),show((1024:Int)+(i:Int)-1024).toNat=i by omega];simp
theorem OD(n:Nat)(p:Int):p<1024∨1024+(n:Int)<=p∨∃i:Nat,i<n∧p=1024+(i:Int):=by
 by_cases h1:p<1024
 ·exact .inl h1
 ·by_cases h2:1024+(n:Int)<=p
  ·exact .inr (.inl h2)
  ·exact .inr (.inr ⟨(p-1024).toNat,by omega,by omega⟩)
theorem FV(B BW BT n:Nat)(ws:Nat->List Int)(ts:Nat->Bool)(p:Int)(w:World)(h:dI B BW BT n ws ts w)(hn:n<=128): Calls prog 136 #[.pointer (some ⟨B,0,none⟩),.int .i64 p] w fun e w'=>e=.returned (.bool (hs ts n p))∧w'=w:=by
 have b:=h.taken;have a:(n:Int)<=128:=by omega
 rcases OD n p with h1|h1|⟨i,hi,rfl⟩
 ·rw[OB h1];clear h;go_enter func136,ntmps136;go_wp2;go_ret;exact⟨rfl,rfl⟩
 ·rw[OC h1];clear h;have d:¬p<1024+(n:Int):=by omega
  have f:1024<=p:=by omega
  clear h1;go_enter func136,ntmps136;go_wp2;go_ret;exact⟨rfl,rfl⟩
 ·rw[A9 i hi];have c1:=(h.2.2.cell i hi).1;clear h;have g:(i:Int)<(n:Int):=by omega
  have k:(1024:Int)+(i:Int)<1024+(n:Int):=by omega
  have l:(1024:Int)<=1024+(i:Int):=by omega
  have o:IntKind.i64.wrap ((1024:Int)+(i:Int)-1024)=(i:Int):=by rw[IntKind.wrap_i64];omega
  go_enter func136,ntmps136;go_wp2;go_ret;exact⟨rfl,rfl⟩
end
section
theorem OE(B BW BT n:Nat)(ws:Nat->List Int)(ts:Nat->Bool)(p:Int)(w:World)(h:dI B BW BT n ws ts w)(hn:n<=128)(hp:hs ts n p=false): Calls prog 94 #[.pointer (some ⟨B,0,none⟩),.int .i64 p] w fun e w'=>e=.returned (.int .i64 4)∧w'=w:=by
 have H:=ki (FV B BW BT n ws ts p w h hn);rw[hp] at H;clear h hp;go_enter func94,ntmps94;go_wp2_with (go_at_call 136;refine H.o.mono ?_;rintro e w' ⟨rfl,rfl⟩)
 go_ret;exact⟨rfl,rfl⟩
theorem OG(B BW BT n:Nat)(ws:Nat->List Int)(ts:Nat->Bool)(i:Nat)(w:World)(h:dI B BW BT n ws ts w)(hn:n<=128)(hi:i<n)(ht:ts i=true): Calls prog 94 #[.pointer (some ⟨B,0,none⟩),.int .i64 (1024+(i:Int))] w fun e w'=>e=.returned (.int .i64 0)∧dI B BW BT n ws (upd ts i false) w'∧Fr (fun g=>g=BT) w w':=by
 have H:=ki (FV B BW BT n ws ts (1024+(i:Int)) w h hn);rw[A9 i hi,ht] at H;have f:=h.taken;obtain⟨c1,c2⟩:=h.2.2.cell i hi;have a:=ki (h.sQ i false);have b:=ki (qN w BT i (.bool false));have d:(n:Int)<=128:=by omega
 have k:(i:Int)<(n:Int):=by omega
 have l:IntKind.i64.wrap ((1024:Int)+(i:Int)-1024)=(i:Int):=by rw[IntKind.wrap_i64];omega
 clear h ht;go_enter func94,ntmps94;go_wp2_with (go_at_call 136;refine H.o.mono ?_;rintro e w' ⟨rfl,rfl⟩)
 go_ret;exact⟨rfl,a.o,b.o⟩
end
section
def xJ(ws:Nat->List Int)(z:List Int)(o:Option Nat):Bool:=match o with|some i=>dn (ws i) z|none=>false
def sS(ws:Nat->List Int)(ts:Nat->Bool)(z:List Int)(k:Nat):Bool:=xJ ws z (kD ts k)
def bl(ws:Nat->List Int)(ts:Nat->Bool)(z:List Int):Nat->List Nat
 | 0=>[]
 | k+1=>bl ws ts z k++(if sS ws ts z k=true then [k] else [])
def Kb(w:World)(B BW BT n:Nat)(ws:Nat->List Int)(ts:Nat->Bool)(z:List Int)(W:World):Prop:=dI B BW BT n ws ts W∧aP w.heap.size z W∧Below w.heap.size w W∧B<w.heap.size∧BW<w.heap.size∧BT<w.heap.size
theorem Kb.kept{w:World}{B BW BT n:Nat}{ws:Nat->List Int}{ts:Nat->Bool}{z:List Int}{W W':World}(h:Kb w B BW BT n ws ts z W)(hb:Below W.heap.size W W'):Kb w B BW BT n ws ts z W':=⟨h.1.kept hb,h.2.1.kept hb,bt h.2.2.1 hb,h.2.2.2⟩
theorem Kb.grown{w:World}{B BW BT n:Nat}{ws:Nat->List Int}{ts:Nat->Bool}{z:List Int}{W W':World}(h:Kb w B BW BT n ws ts z W){r:Option Nat}(hg:W.grownBy W' r)(hr:∀k,r=some k->w.heap.size+1<=k):Kb w B BW BT n ws ts z W':=by
 have a:∀g,g<=w.heap.size->some g≠r:=fun g hgl e=>by have:=hr g e.symm;omega
 have hs:=h.2.2.1.size;have b:=h.2.1.lt;obtain⟨d,f,i⟩:=h.2.2.2;refine⟨⟨(hg.block _ (by omega) (a B (by omega))).trans h.1.1,h.1.2.1.same (hg.block _ (by omega) (a BW (by omega))),h.1.2.2.same (hg.block _ (by omega) (a BT (by omega)))⟩,(hg.block _ b (a _ (Nat.le_refl _))).trans h.2.1,h.2.2.1.grown hg hs (fun k e=>by have:=hr k e;omega),h.2.2.2⟩
attribute [local go_sem ↓] gy
end
section
theorem xK(b:Nat)(t:TypeId):∀(vs:List Value)(o:Nat)(w:World)(cs:Array Value),w.heap[b]? = some (.cells cs t (0,0)) -> ∃cs':Array Value,(w.setCells b o vs).heap[b]? = some (.cells cs' t (0,0))∧cs'.size=cs.size∧∀j,j<cs.size->cs'[j]? = if o<=j∧j<o+vs.length then vs[j-o]? else cs[j]?
 | [],o,w,cs,h=>⟨cs,h,rfl,fun j _=>by rw[if_neg (by simp)]⟩
 | v::r,o,w,cs,h=>by
  have h1:(w.setCell ⟨b,o,none⟩ v).heap[b]? = some (.cells (cs.setIfInBounds o v) t (0,0)):=by rw[setCell_eq_setRow w b o _ t (0,0) v h,setRow_heap w b _ _ t (0,0) h]
  obtain⟨cs',a,d,f⟩:=xK b t r (o+1) _ _ h1;refine⟨cs',a,by rw[d];simp,fun j hj=>?_⟩;rw[f j (by simpa using hj)];by_cases hjo:j=o
  ·subst hjo;rw[if_neg (by omega),if_pos (by simp),Nat.sub_self,Array.getElem?_setIfInBounds_self_of_lt hj];rfl
  ·rw[Array.getElem?_setIfInBounds_ne (fun e=>hjo e.symm)];by_cases hc:o+1<=j∧j<o+1+r.length
   ·rw[if_pos hc,if_pos (by simp only[List.length_cons];omega),show j-o=(j-(o+1))+1 by omega];rfl
   ·rw[if_neg hc,if_neg (by simp only[List.length_cons];omega)]
theorem xL(b:Nat):∀(vs:List Value)(o:Nat)(w:World),Only b w (w.setCells b o vs)
 | [],o,w=>⟨rfl,rfl,rfl,rfl,fun _ _=>rfl⟩
 | v::r,o,w=>by have h:=xL b r (o+1) (w.setCell ⟨b,o,none⟩ v);exact⟨h.1,h.2.1,h.2.2.1,h.2.2.2.1.trans (by simp),fun g hg=>(h.2.2.2.2 g hg).trans (Below.heap_setCell w ⟨b,o,none⟩ v g hg)⟩
def xM(x y:Value):Sem Unit:=Instr.storeAt 23 x y
theorem Ba(x y:Value):Instr.storeAt 23 x y=xM x y:=rfl
theorem jU.held{B n:Nat}{ws:Nat->List Int}{w:World}(h:jU B n ws w)(i:Nat)(hi:i<n)(z:List Int): ∃w',(xM (.pointer (some ⟨B,8*i,none⟩)) (.agg (av z))).run prog w=.ok () w'∧jU B n (upd ws i z) w'∧Only B w w':=by
 obtain⟨g,a,l,b⟩:=h;refine⟨w.setCells B (8*i) (av z).toList,?_,?_,xL B _ _ w⟩
 ·exact run_storeAt_mid w B (8*i) 23 (av z) (fun j hj=>by have d:j<8:=hj;rw[cell_of_row w B (8*i+j) _ _ _ a,b i hi j d];refine⟨rfl,by simp[World.frozen?,a]⟩) (by kernel_rfl) (by unfold av;simp[Value.oneCell'])
 ·obtain⟨f,o,p,q⟩:=xK B 23 (av z).toList (8*i) w g a;refine⟨f,o,p.trans l,fun k hk j hj=>?_⟩;rw[q (8*k+j) (by omega)];have hl:(av z).toList.length=8:=rfl;unfold upd;by_cases e:k=i
  ·subst e;rw[if_pos (by rw[hl];omega),if_pos rfl,show 8*k+j-8*k=j by omega,<-nY z j hj];simp
  ·rw[if_neg (by rw[hl];omega),if_neg e];exact b k hk j hj
def f0(ws:Nat->List Int)(ts:Nat->Bool)(z:List Int)(i:Nat):Bool:=!ts i && sS ws ts z (i/8)
def f1(ts:Nat->Bool)(i:Nat):Bool:=!ts i && (kD ts (i/8)).isNone
def tk(ws:Nat->List Int)(ts:Nat->Bool)(z:List Int)(n:Nat):Option Nat:=((List.range n).find? (f0 ws ts z)).or ((List.range n).find? (f1 ts))
end
section
variable {B:Nat}{w w':World}
theorem dI.setW{BW BT n:Nat}{ws:Nat->List Int}{ts:Nat->Bool}(h:dI B BW BT n ws ts w){ws':Nat->List Int}(on:Only BW w w')(hw:jU BW n ws' w'):dI B BW BT n ws' ts w':=by have hn:=h.ne;exact⟨(on.2.2.2.2 B hn.1).trans h.1,hw,h.2.2.same (on.2.2.2.2 BT (fun e=>hn.2.2 e.symm))⟩
theorem Only.fr(h:Only B w w'){O:Nat->Prop}(hO:O B):Fr O w w':=⟨h.1,h.2.1,h.2.2.1,by rw[h.2.2.2.1];exact Nat.le_refl _,fun g _ hg=>h.2.2.2.2 g (fun e=>hg (e ▸ hO))⟩
theorem Only.six{B':Nat}(h:Only B w w'){z:List Int}(p:aP B' z w)(hne:B'≠B):aP B' z w':=(h.2.2.2.2 B' hne).trans p
theorem FW{i n m:Nat}(hm:n=8*m)(hi:i<n):8*(i/8)+8<=n:=by omega
attribute [local go_sem ↓] gy Ba
theorem FX(B BW BT n m:Nat)(ws:Nat->List Int)(ts:Nat->Bool)(z:List Int)(w:World)(h:dI B BW BT n ws ts w)(hn:n<=128)(hm:n=8*m)(hz:aH z)(R:Option Nat)(hR:tk ws ts z n=R): Calls prog 85 #[.pointer (some ⟨B,0,none⟩),.agg (av z)] w fun e w' => (R=none∧e=.returned (.tuple #[.int .i64 0,.int .i64 3])∧dI B BW BT n ws ts w'∧Below w.heap.size w w') ∨ (∃i:Nat,R=some i∧i<n∧e=.returned (.tuple #[.int .i64 (1024+(i:Int)),.int .i64 0])∧dI B BW BT n (upd ws i z) (upd ts i true) w'∧Fr (fun g=>g=BW∨g=BT) w w'):=by
 have a:=ki (show Kb w B BW BT n ws ts z (w.alloc (.cells (av z) 23)) from⟨h.kept (au _ _),iT z w,au _ _,h.lt,h.2.1.lt,h.2.2.lt⟩);have U:=ki (fun W=>qM z W hz);have K:=ki (fun k W (hp:dI B BW BT n ws ts W) (hk:8*k+8<=n) R hR=>OA B BW BT n ws ts k W hp hn hk R hR);have M:=ki FT;unfold dH at M;have ac:(n:Int)<=128:=by omega
 have N:=ki hR;have S:=ki hm;clear h hz hR hm;go_enter func85,ntmps85;go_upto_region 1 with fail
 generalize w.alloc _=W at a⊢;go_upto_region 2 with(first|(refine jq rfl (.tmp 3) rfl rfl a.o.2.1 ?_)|(go_at_call 21;refine(U.o _).mono ?_;rintro e y ⟨rfl,p⟩;replace a:=ki (a.o.kept p);clear p))
 go_wp2;generalize y=wa at a⊢;go_loopw [7] (fun t wr=>∃u:Int,(u=0∨u=1∨u=2)∧t=.int .i64 u∧Hid (1<=u->∀j,j<n->f0 ws ts z j=false)∧Hid (2<=u->∀j,j<n->f1 ts j=false)∧Hid (Kb w B BW BT n ws ts z wr)) (fun t _=>2-(intOf t).toNat)
 case atStart=>exact⟨0,.inl rfl,rfl,fun h=>absurd h (by omega),fun h=>absurd h (by omega),a⟩
 case round =>
  clear a;obtain⟨u,V,rfl,E,T,a⟩:=hrel;rcases V with rfl|rfl|rfl
  ·go_wp2;go_loopw [8] (fun t wr=>∃i:Nat,i<=n∧t=.int .i64 i∧Hid (∀j,j<i->f0 ws ts z j=false)∧Hid (Kb w B BW BT n ws ts z wr)) (fun t _=>n-(intOf t).toNat)
   case atStart=>exact⟨0,by omega,rfl,fun j h=>absurd h (by omega),a⟩
   case round =>
    clear a;obtain⟨i,X,rfl,HI,a⟩:=hrel;have A:=a.o.1.taken;by_cases hlt:i<n
    ·have Y:(i:Int)<(n:Int):=by omega
     obtain⟨Q,hQ⟩:∃Q,kD ts (i/8)=Q:=⟨_,rfl⟩;have F:=ki (show ∀W,dI B BW BT n ws ts W->Calls prog 133 #[.pointer (some ⟨B,0,none⟩),.int .i64 ((i:Int)/8)] W fun e w'=>e=.returned (.tuple #[.agg (av (sP ws Q)),.bool Q.isSome])∧Below W.heap.size W w' from fun W hp=>by have h8:=K.o (i/8) W hp (FW S.o hlt) Q hQ;rwa [show((i/8:Nat):Int)=(i:Int)/8 by omega] at h8);have L:sS ws ts z (i/8)=xJ ws z Q:=by unfold sS;rw[hQ]
     have HQ:=ki hQ;clear hQ;have b:=ki (show f0 ws ts z i=(!ts i && xJ ws z Q) by unfold f0;rw[L]);clear L;go_upto_region 11 with(first|(go_at_call 133;refine(F.o _ a.o.1).mono ?_;rintro e y ⟨rfl,p⟩;replace a:=ki (a.o.kept p);clear p)|(refine xI rfl (.tmp 9) (.tmp 34) rfl rfl (M.o y) (sP ws Q) rfl ?_;intro C s v;have x:=bq _ v;replace a:=ki (a.o.kept x);replace s:=ki s;clear x v))
     generalize y.heap.size=B2 at s⊢;clear A;have A:=a.o.1.taken;obtain⟨c1,c2⟩:=a.o.1.2.2.cell i hlt;have G:=s.o.hl;have P:=a.o.2.1.hl;have H:=xE (sP ws Q) z;cases ht:ts i
     ·rw[ht] at c1 b;cases Q with
      | none =>
       have l:=ki (show f0 ws ts z i=false by rw[b.o];rfl);clear ht;go_wp2;go_roundw
       case rel=>exact⟨i+1,by omega,by go_num,fun j hj=>if e:j=i then by rw[e];exact l.o else HI.o j (by omega),a⟩
       case measure=>simp[intOf];omega
      | some q =>
       replace H:∀w,(Op.equalIn 10000 23 (.agg (av (ws q))) (.agg (av z))).run prog w=.ok (dn (ws q) z) w:=H;replace b:Hid (f0 ws ts z i=(!false && dn (ws q) z)):=b;replace G:(hload (.pointer (some ⟨B2,0,none⟩))).run prog C=.ok (.agg (av (ws q))) C:=G;cases hq:dn (ws q) z
       ·rw[hq] at H b;have l:=ki (show f0 ws ts z i=false by rw[b.o];rfl);clear hq ht;go_wp2;go_roundw
        case rel=>exact⟨i+1,by omega,by go_num,fun j hj=>if e:j=i then by rw[e];exact l.o else HI.o j (by omega),a⟩
        case measure=>simp[intOf];omega
       ·rw[hq] at H b;have l:=ki (show f0 ws ts z i=true by rw[b.o];rfl);clear hq ht;go_upto_region 13 with fail
        have d:=ki (a.o.1.sQ i true);have I:=a.o.2.2.2.2.2;have f:=ki (a.o.2.1.other ⟨BT,i,none⟩ (by show w.heap.size≠BT;omega) (.bool true));have o:=ki (((Fr.of (O:=fun g=>g=BW∨g=BT) a.o.2.2.1).trans ((qN C BT i (.bool true)).mono (fun g h=>.inr h))));clear A c1 c2 G P H I;generalize C.setCell ⟨BT,i,none⟩ (.bool true)=w3 at d f o⊢;replace d:=ki (d.o.kept (Below.refl _ _).drew);replace f:=ki (f.o.kept (Below.refl _ _).drew);replace o:=ki (o.o.trans (Fr.of (Below.refl _ _).drew));obtain⟨Z,J,D,r⟩:=d.o.2.1.held i hlt z;rw[Nat.mul_comm 8 i] at J;have l0:=d.o.who;have g3:=f.o.hl;replace D:=ki (d.o.setW r D);replace o:=ki (o.o.trans (r.fr (.inl rfl)));clear r;go_region
        all_goals
         go_wp2_with fail
         go_ret2;exact .inr ⟨i,by rw[<-N.o];unfold tk;rw[og hlt l.o HI.o];rfl,hlt,rfl,D.o,o.o⟩
     ·rw[ht] at c1 b;have l:=ki (show f0 ws ts z i=false by rw[b.o];rfl);clear ht;go_wp2;go_roundw
      case rel=>exact⟨i+1,by omega,by go_num,fun j hj=>if e:j=i then by rw[e];exact l.o else HI.o j (by omega),a⟩
      case measure=>simp[intOf];omega
    ·obtain rfl:n=i:=by omega
     go_wp2;go_roundw
     case rel=>exact⟨1,.inr (.inl rfl),rfl,fun _=>HI.o,fun h=>absurd h (by omega),a⟩
     case measure=>simp[intOf]
  ·go_wp2;go_loopw [8] (fun t wr=>∃i:Nat,i<=n∧t=.int .i64 i∧Hid (∀j,j<i->f1 ts j=false)∧Hid (Kb w B BW BT n ws ts z wr)) (fun t _=>n-(intOf t).toNat)
   case atStart=>exact⟨0,by omega,rfl,fun j h=>absurd h (by omega),a⟩
   case round =>
    clear a;obtain⟨i,X,rfl,HI,a⟩:=hrel;have A:=a.o.1.taken;by_cases hlt:i<n
    ·have Y:(i:Int)<(n:Int):=by omega
     obtain⟨Q,hQ⟩:∃Q,kD ts (i/8)=Q:=⟨_,rfl⟩;have F:=ki (show ∀W,dI B BW BT n ws ts W->Calls prog 133 #[.pointer (some ⟨B,0,none⟩),.int .i64 ((i:Int)/8)] W fun e w'=>e=.returned (.tuple #[.agg (av (sP ws Q)),.bool Q.isSome])∧Below W.heap.size W w' from fun W hp=>by have h8:=K.o (i/8) W hp (FW S.o hlt) Q hQ;rwa [show((i/8:Nat):Int)=(i:Int)/8 by omega] at h8);have b:=ki (show f1 ts i=(!ts i && Q.isNone) by unfold f1;rw[hQ]);clear hQ;go_upto_region 11 with(first|(go_at_call 133;refine(F.o _ a.o.1).mono ?_;rintro e y ⟨rfl,p⟩;replace a:=ki (a.o.kept p);clear p)|(refine xI rfl (.tmp 9) (.tmp 34) rfl rfl (M.o y) (sP ws Q) rfl ?_;intro C s v;have x:=bq _ v;replace a:=ki (a.o.kept x);replace s:=ki s;clear x v))
     generalize y.heap.size=B2 at s⊢;clear A;have A:=a.o.1.taken;obtain⟨c1,c2⟩:=a.o.1.2.2.cell i hlt;have G:=s.o.hl;have P:=a.o.2.1.hl;cases ht:ts i
     ·rw[ht] at c1 b;cases Q with
      | some q =>
       have l:=ki (show f1 ts i=false by rw[b.o];rfl);clear ht;go_wp2;go_roundw
       case rel=>exact⟨i+1,by omega,by go_num,fun j hj=>if e:j=i then by rw[e];exact l.o else HI.o j (by omega),a⟩
       case measure=>simp[intOf];omega
      | none =>
       have l:=ki (show f1 ts i=true by rw[b.o];rfl);clear ht;go_upto_region 13 with fail
       have d:=ki (a.o.1.sQ i true);have I:=a.o.2.2.2.2.2;have f:=ki (a.o.2.1.other ⟨BT,i,none⟩ (by show w.heap.size≠BT;omega) (.bool true));have o:=ki (((Fr.of (O:=fun g=>g=BW∨g=BT) a.o.2.2.1).trans ((qN C BT i (.bool true)).mono (fun g h=>.inr h))));clear A c1 c2 G P I;generalize C.setCell ⟨BT,i,none⟩ (.bool true)=w3 at d f o⊢;replace d:=ki (d.o.kept (Below.refl _ _).drew);replace f:=ki (f.o.kept (Below.refl _ _).drew);replace o:=ki (o.o.trans (Fr.of (Below.refl _ _).drew));obtain⟨Z,J,D,r⟩:=d.o.2.1.held i hlt z;rw[Nat.mul_comm 8 i] at J;have l0:=d.o.who;have g3:=f.o.hl;replace D:=ki (d.o.setW r D);replace o:=ki (o.o.trans (r.fr (.inl rfl)));clear r;go_region
       all_goals
        go_wp2_with fail
        go_ret2;exact .inr ⟨i,by rw[<-N.o];unfold tk;rw[nZ (E.o (by omega)),og hlt l.o HI.o];rfl,hlt,rfl,D.o,o.o⟩
     ·rw[ht] at c1 b;have l:=ki (show f1 ts i=false by rw[b.o];rfl);clear ht;go_wp2;go_roundw
      case rel=>exact⟨i+1,by omega,by go_num,fun j hj=>if e:j=i then by rw[e];exact l.o else HI.o j (by omega),a⟩
      case measure=>simp[intOf];omega
    ·obtain rfl:n=i:=by omega
     go_wp2;go_roundw
     case rel=>exact⟨2,.inr (.inr rfl),rfl,fun _=>E.o (by omega),fun _=>HI.o,a⟩
     case measure=>simp[intOf]
  ·go_wp2;go_ret2;exact .inl ⟨by rw[<-N.o];unfold tk;rw[nZ (E.o (by omega)),nZ (T.o (by omega))];rfl,rfl,a.o.1,a.o.2.2.1⟩
end
section
theorem OH:(prog.info? 23).map (fun i=>(i.zero,i.size,i.bytes))=some (some (.agg #[.int .i64 0,.int .i64 0,.int .i64 0,.int .i64 0,.int .i64 0,.int .i64 0,.int .i64 0,.int .i64 0]),8,64):=by kernel_rfl
theorem OI:(prog.info? 4).map (fun i=>(i.zero,i.size,i.bytes))=some (some (.bool false),1,1):=by kernel_rfl
def xO(t:TypeId)(l c:Value):Sem Value:=Instr.makeSlice t l c
theorem FY(t:TypeId)(l c:Value):Instr.makeSlice t l c=xO t l c:=rfl
theorem xP(z:Array Value)(n j:Nat)(hj:j<n):(madeCells z n)[j]? = some (z[j%z.size]!):=by unfold madeCells;simp[hj]
theorem OJ(b:Nat)(_hb:b<=16):∃cs:Array Value,(∀w:World,(xO 219 (.int .i64 ((b:Int)*8)) (.int .i64 ((b:Int)*8))).run prog w=.ok (.slice (some ⟨w.heap.size,0,none⟩) (8*b) (8*b)) (w.alloc (.cells cs 23))) ∧ cs.size=8*(8*b)∧∀i,i<8*b->∀j,j<8->cs[8*i+j]? = some (.int .i64 0):=by
 obtain⟨f,hi,a,d,e⟩:=info_parts OH;refine⟨madeCells #[.int .i64 0,.int .i64 0,.int .i64 0,.int .i64 0,.int .i64 0,.int .i64 0,.int .i64 0,.int .i64 0] (8*(8*b)),fun w=>?_,size_madeCells _ _,fun i hi j hj=>?_⟩
 ·have h:=run_make (P:=prog) w 219 23 f _ underlying219 hi a .i64 .i64 ((b:Int)*8) ((b:Int)*8) (by omega) (by omega) (by rw[e];omega) (by omega);rw[d,show((b:Int)*8).toNat=8*b by omega,show 8*b*8=8*(8*b) by omega] at h;exact h
 ·rw[xP _ _ _ (by omega)];have g:(8*i+j)%(#[Value.int .i64 0,.int .i64 0,.int .i64 0,.int .i64 0,.int .i64 0,.int .i64 0,.int .i64 0,.int .i64 0]:Array Value).size=j:=(by show(8*i+j)%8=j;omega);rw[g];rcases (by omega:j=0∨j=1∨j=2∨j=3∨j=4∨j=5∨j=6∨j=7) with rfl|rfl|rfl|rfl|rfl|rfl|rfl|rfl<;>rfl
theorem OL(b:Nat)(_hb:b<=16):∃cs:Array Value,(∀w:World,(xO 220 (.int .i64 ((b:Int)*8)) (.int .i64 ((b:Int)*8))).run prog w=.ok (.slice (some ⟨w.heap.size,0,none⟩) (8*b) (8*b)) (w.alloc (.cells cs 4))) ∧ cs.size=8*b∧∀i,i<8*b->cs[i]? = some (.bool false):=by
 obtain⟨f,hi,a,d,e⟩:=info_parts OI;refine⟨madeCells #[.bool false] (8*b),fun w=>?_,size_madeCells _ _,fun i hi=>?_⟩
 ·have h:=run_make (P:=prog) w 220 4 f _ underlying220 hi a .i64 .i64 ((b:Int)*8) ((b:Int)*8) (by omega) (by omega) (by rw[e];omega) (by omega);rw[d,show((b:Int)*8).toNat=8*b by omega,Nat.mul_one] at h;exact h
 ·rw[xP _ _ _ hi,show i%(#[Value.bool false]:Array Value).size=0 from Nat.mod_one i];rfl
theorem FZ(w:World)(B BW BT b:Nat)(c6 cb:Array Value)(hB:w.heap[B]? = some (.cells #[.slice (some ⟨BW,0,none⟩) (8*b) (8*b),.slice (some ⟨BT,0,none⟩) (8*b) (8*b)] 222 (0,0)))(hW:w.heap[BW]? = some (.cells c6 23 (0,0)))(hT:w.heap[BT]? = some (.cells cb 4 (0,0)))(s6:c6.size=8*(8*b))(sb:cb.size=8*b)(h6:∀i,i<8*b->∀j,j<8->c6[8*i+j]? = some (.int .i64 0))(hb:∀i,i<8*b->cb[i]? = some (.bool false)): dI B BW BT (8*b) (fun _=>[]) (fun _=>false) w:=⟨hB,⟨c6,hW,s6,h6⟩,⟨cb,hT,sb,hb⟩⟩
theorem F3(w:World)(a b c:Obj):(((w.alloc a).alloc b).alloc c).heap[w.heap.size]? = some a∧(((w.alloc a).alloc b).alloc c).heap[w.heap.size+1]? = some b∧(((w.alloc a).alloc b).alloc c).heap[w.heap.size+1+1]? = some c∧Below w.heap.size w (((w.alloc a).alloc b).alloc c):=by
 have e:(w.alloc a).heap.size=w.heap.size+1:=World.size_alloc _ _;have i:((w.alloc a).alloc b).heap.size=w.heap.size+1+1:=by rw[World.size_alloc,e]
 have k:=au w a;have f:=au (w.alloc a) b;have d:=au ((w.alloc a).alloc b) c;have l:(w.alloc a).heap[w.heap.size]? = some a:=heap_alloc_new w a;have g:=heap_alloc_new (w.alloc a) b;have h:=heap_alloc_new ((w.alloc a).alloc b) c;rw[e] at g;rw[i] at h;refine⟨?_,?_,h,bt (bt k f) d⟩
 ·rw[d.block _ (by omega),f.block _ (by omega)];exact l
 ·rw[d.block _ (by omega)];exact g
attribute [local go_sem ↓] FY
theorem OM(b:Nat)(w:World)(hb:b<=16): Calls prog 77 #[.int .i64 b] w fun e w'=>∃B BW BT,e=.returned (.pointer (some ⟨B,0,none⟩))∧dI B BW BT (8*b) (fun _=>[]) (fun _=>false) w'∧w.heap.size<=B∧w.heap.size<=BW∧w.heap.size<=BT∧Below w.heap.size w w':=by
 obtain⟨c6,r,s6,p⟩:=OJ b hb;obtain⟨a,s,sb,d⟩:=OL b hb;have f:=ki s6;have g:=ki sb;have h:=ki p;have i:=ki d;have q:IntKind.i64.wrap ((b:Int)*8)=(b:Int)*8:=by rw[IntKind.wrap_i64];omega
 clear s6 sb p d;go_enter func77,ntmps77;go_upto_region 1 with fail
 go_region
 all_goals
  go_wp2_with fail
  go_ret
 ·obtain⟨k,l,n,o⟩:=F3 w (.cells c6 23) (.cells a 4) (.cells #[.slice (some ⟨w.heap.size,0,none⟩) (8*b) (8*b),.slice (some ⟨w.heap.size+1,0,none⟩) (8*b) (8*b)] 222);exact⟨_,_,_,rfl,FZ _ _ _ _ b c6 a n k l f.o g.o h.o i.o,by omega,by omega,by omega,o.drew⟩
 ·obtain⟨k,l,n,o⟩:=F3 w (.cells a 4) (.cells c6 23) (.cells #[.slice (some ⟨w.heap.size+1,0,none⟩) (8*b) (8*b),.slice (some ⟨w.heap.size,0,none⟩) (8*b) (8*b)] 222);exact⟨_,_,_,rfl,FZ _ _ _ _ b c6 a n l k f.o g.o h.o i.o,by omega,by omega,by omega,o.drew⟩
end
end Go.Proofs.YtgcojnlngchllaaGreatDoor
