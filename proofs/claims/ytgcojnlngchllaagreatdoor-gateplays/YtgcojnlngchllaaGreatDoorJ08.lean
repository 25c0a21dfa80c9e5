import Derived.Lib.SliceRun
import Derived.Lib.AppendZerosOnto
import Derived.Test.YtgcojnlngchllaaGreatDoorJ05
namespace Go.Proofs.YtgcojnlngchllaaGreatDoor
open Go.RowKit Tryz
set_option linter.unusedVariables false
set_option maxRecDepth 100000
set_option maxHeartbeats 40000000
section
theorem ku(w:World):aj w none 0 0 []:=⟨rfl,by simp[maxLen],SM.kZ,fun _=>⟨rfl,rfl⟩,fun h=>by omega⟩
end
section
variable {V:Nat}{v1 v2:Value}{w:World}
theorem Mt(w:World):bN w (w.alloc (.cells #[] 5)) (.slice (some ⟨w.heap.size,0,none⟩) 0 0) [] :=
 ⟨⟨SM.kZ,World.ownsRow_made w #[] 0 (Nat.le_refl _) (Nat.zero_le _) rfl⟩,au _ _⟩
theorem EN(a:Option Addr)(len cap:Nat)(zs:List Int)(w:World)(hr:aj w a len cap zs)(hm:len<=1000000): Calls prog 253 #[.slice a len cap] w fun e w'=>∃v,e=.returned v∧bN w w' v zs:=by
 have q:=fun (w:World) (a:Option Addr) (n c n' c':Nat)=>Lib.run_eql_slice_nil (P:=prog) w 37 _ a n c n' c' underlying37
 cases a with
 | none =>obtain⟨rfl,rfl⟩:=hr.2.2.2.1 rfl;obtain rfl:zs=[]:=List.eq_nil_of_length_eq_zero hr.1;clear hr;go_enter func253,ntmps253;go_wp2;go_ret;exact⟨_,rfl,bN.nil w⟩
 | some ad =>
  have d:=ki (Mt w);have f:=ki (hr.below (au w (.cells #[] 5)));clear hr;go_enter func253,ntmps253;go_wp2_with (at_builtin;refine gF rfl (.tmp 5) (.tmp 6) rfl rfl d.o rfl f.o (by simp only[List.length_nil];omega) ?_;intro g w' b;replace b:=ki b)
  go_ret;exact⟨_,rfl,b.o⟩
theorem Mv(n:Nat)(w:World)(hn:n<=1000000):Calls prog 293 #[.slice none 0 0,.int .i64 n] w fun e w'=>∃v,e=.returned v∧bN w w' v []:=by
 by_cases h0:n=0
 ·subst h0;go_enter func293,ntmps293;go_wp2;go_ret;exact⟨_,rfl,bN.nil w⟩
 ·obtain⟨g,i,d,k,a⟩:=info_parts infoByte;have b:(Builtin.firstCells g.size 0 (.slice none 0 0)).run prog w.drew=.ok ([]:List Value).toArray w.drew:=run_firstCells_none w.drew g.size 0 0 0;obtain⟨G,hG⟩:∃G,G=grownCap w n 0 5:=⟨_,rfl⟩;obtain⟨W,hW⟩:∃W,W=w.drew.alloc (.cells (([]:List Value).toArray++Builtin.zeroCells (Value.int .u8 0).cells n++Builtin.zeroCells (Value.int .u8 0).cells (G-n)) 5):=⟨_,rfl⟩;have p:n<=G:=by rw[hG];exact grownCap_ge w _ _ _
  have f:G<=maxLen:=by rw[hG];exact grownCap_le_maxLen w n 0 5 (by unfold maxLen;omega)
  have l:∀ty,(Builtin.append_ #[37,3] ty #[.slice none 0 0,.int .i64 n]).run prog w=.ok (.slice (some ⟨w.heap.size,0,none⟩) n G) W:=fun ty=>by
   have h:=Lib.run_append_grow_zeros (P:=prog) w 37 3 ty 5 g (.int .u8 0) .i64 .i64 underlying37 underlying3 i d none 0 0 [] b n (by omega) (by omega) (by omega) (by omega)
    (by rw[a];omega) (by rw[Nat.zero_add];exact growslice_fits (by omega) (by rw[a];omega))
   rw[Nat.zero_add,<-hG,<-hW] at h;exact h
  have o:=ki (show bN w W (.slice (some ⟨w.heap.size,0,none⟩) 0 G) [] by rw[hW];refine⟨⟨SM.kZ,World.ownsRow_made w.drew _ G (Nat.le_refl _) f ?_⟩,((Below.refl _ w).drew).alloc (Nat.le_refl _) _⟩;simp[Builtin.zeroCells,Value.cells];omega);unfold maxLen at f;clear hW hG b i d k a;go_enter func293,ntmps293;go_wp2_with (at_builtin;refine Lib.wpList_append_run _ rfl _ _ _ _ rfl _ _ rfl rfl _ _ (l _) ?_)
  go_ret;exact⟨_,rfl,o.o⟩
def Two(V:Nat)(v1 v2:Value)(w:World):Prop:=w.heap[V]? = some (.cells #[v1,v2] 37 (0,0))
theorem Two.lt(h:Two V v1 v2 w):V<w.heap.size:=(Array.getElem?_eq_some_iff.1 h).1
theorem Two.kept{w':World}(h:Two V v1 v2 w)(hb:Below w.heap.size w w'):Two V v1 v2 w':=(hb.block V h.lt).trans h
theorem Two.c0(h:Two V v1 v2 w):w.cell? ⟨V,0,none⟩=some v1:=cell_of_row w V 0 _ _ _ h
theorem Two.c1(h:Two V v1 v2 w):w.cell? ⟨V,1,none⟩=some v2:=cell_of_row w V 1 _ _ _ h
theorem Mw(V:Nat)(a1 a2:Option Addr)(n1 n2 c1 c2:Nat)(xs ys:List Int)(w:World)(h:Two V (.slice a1 n1 c1) (.slice a2 n2 c2) w)(r1:aj w a1 n1 c1 xs)(r2:aj w a2 n2 c2 ys)(b1:n1<=1000)(b2:n2<=1000): Calls prog 256 #[.slice (some ⟨V,0,none⟩) 2 2] w fun e w'=>∃v,e=.returned v∧bN w w' v (xs++ys):=by
 have d:=ki h;have k:=ki r1;have l:=ki r2;have n:=ki r1.1;have s:=ki r2.1;have f:=h.c0;have g:=h.c1;clear h r1 r2;obtain⟨S,hS⟩:∃S,S=n1+n2:=⟨_,rfl⟩;have o:=ki (fun W=>Mv S W (by omega));have p:=ki (show(S:Int)=(n1:Int)+(n2:Int) by omega);have r:S<=2000:=by omega
 clear hS;go_enter func256,ntmps256;go_wp2;go_loop [3,11] (fun t i=>(t=.int .i64 0∧i=.int .i64 0)∨(t=.int .i64 n1∧i=.int .i64 1)∨(t=.int .i64 S∧i=.int .i64 2)) (fun _ i=>2-(intOf i).toNat)
 case atStart=>exact .inl ⟨rfl,rfl⟩
 case round =>
  rcases hrel with⟨rfl,rfl⟩|⟨rfl,rfl⟩|⟨rfl,rfl⟩
  ·go_wp2;go_round
   case rel=>exact .inr (.inl ⟨by go_num,rfl⟩)
   case measure=>simp[intOf]
  ·go_wp2;go_round
   case rel=>exact .inr (.inr ⟨by rw[p.o],rfl⟩)
   case measure=>simp[intOf]
  ·clear f g;go_upto_region 11 with(go_at_call 293;refine(o.o _).mono ?_;rintro e x ⟨y,rfl,b⟩;replace b:=ki b)
   go_loopw [6,27] (fun v i wr=>(i=.int .i64 0∧Hid (bN w wr v []))∨(i=.int .i64 1∧Hid (bN w wr v xs))∨(i=.int .i64 2∧Hid (bN w wr v (xs++ys)))) (fun _ i _=>2-(intOf i).toNat)
   case atStart=>exact .inl ⟨rfl,b⟩
   case round =>
    clear b;rcases hrel with⟨rfl,HO⟩|⟨rfl,HO⟩|⟨rfl,HO⟩
    ·have f:=(d.o.kept HO.o.2).c0;have R:=ki (k.o.below HO.o.2);go_wp2_with (at_builtin;refine gF rfl (.tmp 31) (.tmp 32) rfl rfl HO.o rfl R.o (by simp only[List.length_nil];omega) ?_;intro q w' a;replace a:=ki a)
     go_roundw
     case rel=>exact .inr (.inl ⟨rfl,a⟩)
     case measure=>simp[intOf]
    ·have g:=(d.o.kept HO.o.2).c1;have R:=ki (l.o.below HO.o.2);go_wp2_with (at_builtin;refine gF rfl (.tmp 31) (.tmp 32) rfl rfl HO.o rfl R.o (by rw[n.o];omega) ?_;intro q w' a;replace a:=ki a)
     go_roundw
     case rel=>exact .inr (.inr ⟨rfl,a⟩)
     case measure=>simp[intOf]
    ·go_wp2;go_ret;exact⟨_,rfl,HO.o⟩
end
section
variable {b h:Bool}{s:Int}{z zs:List Int}{B cap k l n:Nat}{a x:Option Addr}{T:TypeId}{W W' w w':World}
def iI(z:List Int)(q:Int):List Int:=[el z 0,el z 1,el z 2,q,el z 4,el z 5,el z 6]
def nV(z:List Int)(k:Int):List Int:=[el z 0,el z 1,el z 2,el z 3,k,el z 5,el z 6]
theorem aG.nW{len:Nat}(p:aG B z a len cap w)(q:Int):aG B (iI z q) a len cap (w.setCell ⟨B,3,none⟩ (.int .i64 q))∧Only B w (w.setCell ⟨B,3,none⟩ (.int .i64 q)):=by rw[setCell_eq_setRow w B 3 _ _ (0,0) _ p];exact⟨setRow_heap w B _ _ _ (0,0) p,dS _ _ _⟩
theorem aG.EO{len:Nat}(p:aG B z a len cap w)(q:Int):aG B (nV z q) a len cap (w.setCell ⟨B,4,none⟩ (.int .i64 q))∧Only B w (w.setCell ⟨B,4,none⟩ (.int .i64 q)):=by rw[setCell_eq_setRow w B 4 _ _ (0,0) _ p];exact⟨setRow_heap w B _ _ _ (0,0) p,dS _ _ _⟩
theorem aG.Aj{len:Nat}(p:aG B z a len cap w)(a':Option Addr)(n c:Nat):aG B z a' n c (w.setCell ⟨B,7,none⟩ (.slice a' n c))∧Only B w (w.setCell ⟨B,7,none⟩ (.slice a' n c)):=by rw[setCell_eq_setRow w B 7 _ _ (0,0) _ p];exact⟨setRow_heap w B _ _ _ (0,0) p,dS _ _ _⟩
def EP(a:Option Addr)(n c:Nat)(s:Int)(b h:Bool):Array Value:=#[.slice a n c,.int .i64 s,.bool b,.bool h]
def dF(T:TypeId)(B:Nat)(a:Option Addr)(n c:Nat)(s:Int)(b h:Bool)(w:World):Prop:=w.heap[B]? = some (.cells (EP a n c s b h) T (0,0))
theorem dF.lt{c:Nat}(p:dF T B a n c s b h w):B<w.heap.size:=(Array.getElem?_eq_some_iff.1 p).1
theorem dF.kept{c:Nat}(p:dF T B a n c s b h w)(hb:Below w.heap.size w w'):dF T B a n c s b h w':=(hb.block B p.lt).trans p
theorem dF.c0{c:Nat}(p:dF T B a n c s b h w):w.cell? ⟨B,0,none⟩=some (.slice a n c):=cell_of_row w B 0 _ _ _ p
theorem dF.c1{c:Nat}(p:dF T B a n c s b h w):w.cell? ⟨B,1,none⟩=some (.int .i64 s):=cell_of_row w B 1 _ _ _ p
theorem dF.c2{c:Nat}(p:dF T B a n c s b h w):w.cell? ⟨B,2,none⟩=some (.bool b):=cell_of_row w B 2 _ _ _ p
theorem dF.c3{c:Nat}(p:dF T B a n c s b h w):w.cell? ⟨B,3,none⟩=some (.bool h):=cell_of_row w B 3 _ _ _ p
theorem dF.aZ{c:Nat}(p:dF T B a n c s b h w)(j:Nat):w.frozen? ⟨B,j,none⟩=false:=by unfold dF at p;simp[World.frozen?,p]
theorem dF.set1{c:Nat}(p:dF T B a n c s b h w)(t:Int):dF T B a n c t b h (w.setCell ⟨B,1,none⟩ (.int .i64 t))∧Only B w (w.setCell ⟨B,1,none⟩ (.int .i64 t)):=by rw[setCell_eq_setRow w B 1 _ _ (0,0) _ p];exact⟨setRow_heap w B _ _ _ (0,0) p,dS _ _ _⟩
theorem dF.set2{c:Nat}(p:dF T B a n c s b h w)(t:Bool):dF T B a n c s t h (w.setCell ⟨B,2,none⟩ (.bool t))∧Only B w (w.setCell ⟨B,2,none⟩ (.bool t)):=by rw[setCell_eq_setRow w B 2 _ _ (0,0) _ p];exact⟨setRow_heap w B _ _ _ (0,0) p,dS _ _ _⟩
theorem dF.nW{c:Nat}(p:dF T B a n c s b h w)(t:Bool):dF T B a n c s b t (w.setCell ⟨B,3,none⟩ (.bool t))∧Only B w (w.setCell ⟨B,3,none⟩ (.bool t)):=by rw[setCell_eq_setRow w B 3 _ _ (0,0) _ p];exact⟨setRow_heap w B _ _ _ (0,0) p,dS _ _ _⟩
theorem dF.dP{c:Nat}(p:dF T B a n c s b h w)(j:Nat)(x:Int):w.cell? ⟨B,j,none⟩≠some (.int .u8 x):=by
 rw[cell_of_row w B j _ _ _ p];by_cases h:j<4
 ·rcases (by omega:j=0∨j=1∨j=2∨j=3) with rfl|rfl|rfl|rfl<;>intro h<;>cases h
 ·rw[Array.getElem?_eq_none (by show 4<=j;omega)];intro h;cases h
def cK(B:Nat)(w w':World):Prop:=w'.os=w.os∧w'.tape=w.tape∧w'.output=w.output∧w.heap.size<=w'.heap.size∧∀g,g<w.heap.size->g≠B->w'.heap[g]? = w.heap[g]?
theorem cK.of(h:Below w.heap.size w w'):cK B w w':=⟨h.os,h.tape,h.output,h.size,fun g hg _=>h.block g hg⟩
theorem cK.trans{w'':World}(h:cK B w w')(k:cK B w' w''):cK B w w'':=⟨k.1.trans h.1,k.2.1.trans h.2.1,k.2.2.1.trans h.2.2.1,Nat.le_trans h.2.2.2.1 k.2.2.2.1,fun g hg hn=>(k.2.2.2.2 g (Nat.lt_of_lt_of_le hg h.2.2.2.1) hn).trans (h.2.2.2.2 g hg hn)⟩
theorem Only.bu(h:Only B w w'):cK B w w':=⟨h.1,h.2.1,h.2.2.1,by rw[h.2.2.2.1];exact Nat.le_refl _,fun g _ hn=>h.2.2.2.2 g hn⟩
theorem Only.ER{B':Nat}{w0:World}(h:Only B' w w')(u:cK B w0 w)(hB:w0.heap.size<=B'):cK B w0 w':=⟨h.1.trans u.1,h.2.1.trans u.2.1,h.2.2.1.trans u.2.2.1,by rw[h.2.2.2.1];exact u.2.2.2.1,fun g hg hn=>(h.2.2.2.2 g (by omega)).trans (u.2.2.2.2 g hg hn)⟩
theorem cK.below{base:Nat}{w0:World}(u:cK B w w')(h:Below base w0 w)(hB:base<=B)(hs:base<=w0.heap.size):Below base w0 w' :=
 ⟨u.1.trans h.os,u.2.1.trans h.tape,u.2.2.1.trans h.output,Nat.le_trans h.size u.2.2.2.1,fun g hg=>(u.2.2.2.2 g (by have:=h.size;omega) (by omega)).trans (h.block g hg)⟩
theorem uI{g j:Nat}{v:Value}(h:w.cell? ⟨g,j,none⟩=some v):g<w.heap.size:=by
 by_cases hg:g<w.heap.size
 ·exact hg
 ·exfalso;have:w.heap[g]? = none:=Array.getElem?_eq_none (by omega);simp[World.cell?,this] at h
theorem aj.bu{c:Nat}(p:dF T B a n c s b h w)(u:cK B w w')(r:aj w x l k zs):aj w' x l k zs:=by
 refine⟨r.1,r.2.1,r.2.2.1,r.2.2.2.1,fun hp=>?_⟩;obtain⟨g,d,e,hc⟩:=r.2.2.2.2 hp;refine⟨g,d,e,fun i hi=>?_⟩;have h:=hc i hi;have f:g≠B:=by rintro rfl;exact p.dP _ _ h
 rw[<-h];exact World.cell?_of_block (u.2.2.2.2 g (uI h) f)
theorem aG.bu{c:Nat}(p:dF T B a n c s b h w)(u:cK B w w'){D:Nat}(q:aG D z x l k w):aG D z x l k w':=by
 refine(u.2.2.2.2 D q.lt ?_).trans q;rintro rfl;unfold dF EP at p;unfold aG aA at q;rw[p] at q;injection q with q
 injection q with q
 injection q with q
 injection q with q
 cases q
def ST(T:TypeId)(B:Nat)(hd:List Int)(s:Int)(b h:Bool)(w:World):Prop:=∃a n c,dF T B a n c s b h w∧aj w a n c hd∧n<=100
theorem ST.kept{hd:List Int}(p:ST T B hd s b h w)(hb:Below w.heap.size w w'):ST T B hd s b h w':=by obtain⟨a,n,c,d,e,f⟩:=p;exact⟨a,n,c,d.kept hb,e.below hb,f⟩
theorem ST.lt{hd:List Int}(p:ST T B hd s b h w):B<w.heap.size:=by obtain⟨a,n,c,d,e,f⟩:=p;exact d.lt
theorem ST.row{hd:List Int}(p:ST T B hd s b h w)(u:cK B w w')(r:aj w x l k zs):aj w' x l k zs:=by obtain⟨a,n,c,d,e,f⟩:=p;exact r.bu d u
theorem ST.sg{hd:List Int}(p:ST T B hd s b h w)(u:cK B w w'){D:Nat}(q:aG D z x l k w):aG D z x l k w':=by obtain⟨a,n,c,d,e,f⟩:=p;exact q.bu d u
theorem ST.other{T':TypeId}{B':Nat}{hd hd':List Int}{s':Int}{b' h':Bool}(p:ST T B hd s b h w)(u:cK B w w')(q:ST T' B' hd' s' b' h' w)(hne:B'≠B):ST T' B' hd' s' b' h' w':=by obtain⟨a,n,c,d,e,f⟩:=q;exact⟨a,n,c,(u.2.2.2.2 B' d.lt hne).trans d,p.row u e,f⟩
def md(n:Int):Int:=n%4294967296
theorem sD(n:Int):0<=md n∧md n<4294967296:=by unfold md;omega
theorem Ak(n:Int)(w:World)(h0:-4294967296<=n)(h1:n<=1000000000000):Calls prog 254 #[.int .i64 n] w fun e w'=>e=.returned (.int .i64 (md n))∧w'=w:=by have a:=ki (show(n+4294967296)%4294967296=md n by unfold md;omega);go_enter func254,ntmps254;go_wp2;go_ret;exact⟨by rw[a.o];rfl,rfl⟩
def nX(a b:Int):Bool:=decide (1<=md (b-a)∧md (b-a)<2147483648)
theorem Mx(a b:Int)(w:World)(a0:0<=a)(a1:a<4294967296)(b0:0<=b)(b1:b<4294967296):Calls prog 219 #[.int .i64 a,.int .i64 b] w fun e w'=>e=.returned (.bool (nX a b))∧w'=w:=by
 have d:=ki (fun W=>Ak (b-a) W (by omega) (by omega));have f:=sD (b-a);unfold nX;generalize md (b-a)=m at d f⊢;by_cases h1:1<=m
 ·by_cases h2:m<2147483648
  ·rw[decide_eq_true ⟨h1,h2⟩];go_enter func219,ntmps219;go_wp2_with (go_at_call 254;refine(d.o _).mono ?_;rintro e w' ⟨rfl,rfl⟩)
   go_ret;exact⟨rfl,rfl⟩
  ·rw[decide_eq_false (fun h=>h2 h.2)];go_enter func219,ntmps219;go_wp2_with (go_at_call 254;refine(d.o _).mono ?_;rintro e w' ⟨rfl,rfl⟩)
   go_ret;exact⟨by show Ending.returned (.bool (decide (m<2147483648)))=_;rw[decide_eq_false (by omega)],rfl⟩
 ·rw[decide_eq_false (fun h=>h1 h.1)];go_enter func219,ntmps219;go_wp2_with (go_at_call 254;refine(d.o _).mono ?_;rintro e w' ⟨rfl,rfl⟩)
  go_ret;exact⟨rfl,rfl⟩
def T2(w:World)(z:List Int)(a:Option Addr)(len cap:Nat)(W:World):Prop:=aG w.heap.size z a len cap W∧aG (w.heap.size+1) [] none 0 0 W∧Below w.heap.size w W
theorem T2.kept{len:Nat}(t:T2 w z a len cap W)(hb:Below W.heap.size W W'):T2 w z a len cap W':=⟨t.1.kept hb,t.2.1.kept hb,bt t.2.2 hb⟩
theorem T2.start(w:World)(z:List Int)(a:Option Addr)(len cap:Nat):T2 w z a len cap ((w.alloc (.cells (aA z a len cap) 39)).alloc (.cells aN 39)):=by have e:=au w (.cells (aA z a len cap) 39);have b:=au (w.alloc (.cells (aA z a len cap) 39)) (.cells aN 39);have d:=bR (w.alloc (.cells (aA z a len cap) 39));rw[World.size_alloc] at d;exact⟨(gG w z a len cap).kept b,d,bt e b⟩
theorem T2.turn{len:Nat}(t:T2 w z a len cap W){z':List Int}{a':Option Addr}{len' cap':Nat}(p:aG w.heap.size z' a' len' cap' W')(on:Only w.heap.size W W'):T2 w z' a' len' cap' W' :=
 ⟨p,on.sg t.2.1 (by omega),on.below t.2.2 (Nat.le_refl _)⟩
theorem T2.put{len:Nat}(t:T2 w z a len cap W)(on:Only (w.heap.size+1) W W'):Below w.heap.size w W':=on.below t.2.2 (Nat.le_succ _)
theorem aG.dP{len:Nat}(p:aG B z a len cap w)(j:Nat)(x:Int):w.cell? ⟨B,j,none⟩≠some (.int .u8 x):=by
 rw[p.cellAt];by_cases h:j<8
 ·rcases (by omega:j=0∨j=1∨j=2∨j=3∨j=4∨j=5∨j=6∨j=7) with rfl|rfl|rfl|rfl|rfl|rfl|rfl|rfl<;>intro h<;>cases h
 ·rw[Array.getElem?_eq_none (by show 8<=j;omega)];intro h;cases h
theorem aj.past(p:aG B z x l k w)(on:Only B w w'){c:Nat}(r:aj w a n c zs):aj w' a n c zs:=by
 refine⟨r.1,r.2.1,r.2.2.1,r.2.2.2.1,fun hp=>?_⟩;obtain⟨b,d,e,hc⟩:=r.2.2.2.2 hp;refine⟨b,d,e,fun i hi=>?_⟩;have h:=hc i hi;have f:b≠B:=by rintro rfl;exact p.dP _ _ h
 rw[<-h];exact World.cell?_of_block (on.2.2.2.2 b f)
theorem Al(z:List Int)(a:Option Addr)(len cap:Nat)(zs:List Int)(w:World)(hr:aj w a len cap zs)(hm:len<=1000000): Calls prog 206 #[.agg (aA z a len cap)] w fun e w'=>∃a' c',e=.returned (.agg (aA z a' len c'))∧aj w' a' len c' zs∧Below w.heap.size w w':=by
 have b:=ki (T2.start w z a len cap);unfold aN at b;have o:=ki (fun W (hb:Below w.heap.size w W)=>EN a len cap zs W (hr.below hb) hm);have p:=ki hr.1;clear hr;go_enter func206,ntmps206;go_upto_region 1 with fail
 generalize (World.alloc _ _).alloc _=W0 at b⊢;have k:=b.o.1.c7;go_upto_region 2 with(go_at_call 253;refine(o.o _ b.o.2.2).mono ?_;rintro e s ⟨t,rfl,l⟩;obtain⟨h,c1,rfl,f,-⟩:=l.1.dw;rw[p.o] at f⊢;replace b:=ki (b.o.kept l.2);clear k;have k:=b.o.1.c7;have q:=b.o.1.aZ 7;have i:=b.o.1.Aj h len c1;have d:=ki (f.past b.o.1 i.2);replace b:=ki (b.o.turn i.1 i.2);clear l f i)
 clear k q;generalize World.setCell _ _ _=W1 at b d⊢;go_wp2_with (first|(refine bB rfl (.tmp 1) rfl rfl b.o.1 ?_)|(refine aK rfl (.tmp 2) (.tmp 7) rfl rfl b.o.2.1 z h len c1 rfl ?_;intro v n g;have r:=ki (b.o.put g);replace d:=ki (d.o.past b.o.2.1 g);replace n:=ki n;clear g b))
 try simp only[Exit.inBlock,Exit.then]
 refine bodyPost_ret (wG rfl _ _ (w.heap.size+1) z h len c1 rfl n.o) rfl ?_;exact⟨h,c1,rfl,d.o,r.o⟩
def cf(z:List Int)(len:Nat):Int:=if sf z len=0∧el z 0≠6 then 2 else sf z len
theorem wW(z:List Int)(a:Option Addr)(len cap:Nat)(w:World)(hm:len<=maxLen): Calls prog 203 #[.agg (aA z a len cap)] w fun e w'=>e=.returned (ev (cf z len))∧Below w.heap.size w w':=by
 have g:=ki (fun W=>wJ z a len cap W hm);have d:=ki (au w (.cells (aA z a len cap) 39));have f:=ki (gG w z a len cap);obtain⟨E,hE⟩:∃E,E=ev (cf z len):=⟨_,rfl⟩;rw[<-hE];unfold cf at hE;generalize sf z len=F at g hE;by_cases hF:F=0
 ·subst hF;rw[show ev 0=.nilIface from rfl] at g;by_cases h6:el z 0=6
  ·have i:=ki (show E=.nilIface by rw[hE,if_neg (fun h=>h.2 h6)];rfl);have l:(el z 0 != 6)=false:=by rw[h6];rfl
   clear hE h6;go_enter func203,ntmps203;go_upto_region 1 with fail
   generalize w.alloc (.cells (aA z a len cap) 39)=W at d f⊢;go_upto_region 4 with(first|(refine bB rfl (.tmp 1) rfl rfl f.o ?_)|(go_at_call 207;refine(g.o _).mono ?_;rintro e k ⟨rfl,b⟩;replace d:=ki (bt d.o b);replace f:=ki (f.o.kept b);clear b))
   have n:=f.o.c0;go_wp2;go_ret;exact⟨by rw[i.o];rfl,d.o⟩
  ·have i:=ki (show E=err 2 by rw[hE,if_pos ⟨rfl,h6⟩];rfl);have l:(el z 0 != 6)=true:=by simpa using h6
   unfold err at i;clear hE h6;go_enter func203,ntmps203;go_upto_region 1 with fail
   generalize w.alloc (.cells (aA z a len cap) 39)=W at d f⊢;go_upto_region 4 with(first|(refine bB rfl (.tmp 1) rfl rfl f.o ?_)|(go_at_call 207;refine(g.o _).mono ?_;rintro e k ⟨rfl,b⟩;replace d:=ki (bt d.o b);replace f:=ki (f.o.kept b);clear b))
   have n:=f.o.c0;go_wp2;go_ret;exact⟨by rw[i.o];rfl,d.o⟩
 ·have i:=ki (show E=err F by rw[hE,if_neg (fun h=>hF h.1)];exact if_neg hF);rw[show ev F=err F from if_neg hF] at g;unfold err at i g;clear hE hF;go_enter func203,ntmps203;go_upto_region 1 with fail
  generalize w.alloc (.cells (aA z a len cap) 39)=W at d f⊢;go_wp2_with (first|(refine bB rfl (.tmp 1) rfl rfl f.o ?_)|(go_at_call 207;refine(g.o _).mono ?_;rintro e k ⟨rfl,b⟩;replace d:=ki (bt d.o b);clear b))
  go_ret;exact⟨by rw[i.o];rfl,d.o⟩
theorem ES(B:Nat)(x:Option Addr)(n c:Nat)(s:Int)(b h:Bool)(z:List Int)(a:Option Addr)(len cap:Nat)(zs:List Int)(w:World)(hS:dF 304 B x n c s b h w)(hn:n<=100)(hr:aj w a len cap zs)(h0:0<=el z 3)(h1:el z 3<4294967296): Calls prog 255 #[.pointer (some ⟨B,0,none⟩),.agg (aA z a len cap)] w fun e w'=>e=.returned (.agg (aA (iI z (md (el z 3-n))) a len cap))∧aj w' a len cap zs∧Below w.heap.size w w':=by
 have d:=ki (T2.start w z a len cap);unfold aN at d;have o:=ki (fun W=>Ak (el z 3-n) W (by omega) (by omega));have q:=ki (fun W (hb:Below w.heap.size w W)=>hS.kept hb);have r:=ki (fun W (hb:Below w.heap.size w W)=>hr.below hb);clear hS hr;have t:IntKind.i64.wrap (el z 3-(n:Int))=el z 3-n:=by rw[IntKind.wrap_i64];omega
 generalize md (el z 3-n)=M at o⊢;go_enter func255,ntmps255;go_upto_region 1 with fail
 generalize (World.alloc _ _).alloc _=W0 at d⊢;have v:=d.o.1.c3;have y:=(q.o _ d.o.2.2).c0;have A:=d.o.1.aZ 3;have g:=d.o.1.nW M;have i:=ki (((r.o _ d.o.2.2).past d.o.1 g.2).below (Below.refl _ _).drew);replace d:=ki ((d.o.turn g.1 g.2).kept (Below.refl _ _).drew);clear g;go_region_with (go_at_call 254;refine(o.o _).mono ?_;rintro e w' ⟨rfl,k⟩;rw[k];clear k w')
 all_goals
  clear v y A t;generalize World.drew _=W1 at d i⊢;go_wp2_with (first|(refine bB rfl (.tmp 3) rfl rfl d.o.1 ?_)|(refine aK rfl (.tmp 4) (.tmp 15) rfl rfl d.o.2.1 (iI z M) a len cap rfl ?_;intro D l f;have C:=ki (d.o.put f);have p:=ki (i.o.past d.o.2.1 f);replace l:=ki l;clear f d))
  try simp only[Exit.inBlock,Exit.then]
  refine bodyPost_ret (wG rfl _ _ (w.heap.size+1) (iI z M) a len cap rfl l.o) rfl ?_;exact⟨rfl,p.o,C.o⟩
end
section
variable {z:List Int}{B cap:Nat}{a:Option Addr}{W W' w:World}
def T3(B:Nat)(w:World)(z:List Int)(a:Option Addr)(len cap:Nat)(W:World):Prop:=aG w.heap.size z a len cap W∧aG (w.heap.size+1) [] none 0 0 W∧cK B w W
theorem T2.three{len:Nat}(t:T2 w z a len cap W):T3 B w z a len cap W:=⟨t.1,t.2.1,cK.of t.2.2⟩
theorem T3.kept{len:Nat}(t:T3 B w z a len cap W)(hb:Below W.heap.size W W'):T3 B w z a len cap W':=⟨t.1.kept hb,t.2.1.kept hb,t.2.2.trans (cK.of hb)⟩
theorem T3.turn{len:Nat}(t:T3 B w z a len cap W){T:TypeId}{x:Option Addr}{n c:Nat}{s:Int}{b h:Bool}(p:dF T B x n c s b h W)(u:cK B W W'):T3 B w z a len cap W':=⟨t.1.bu p u,t.2.1.bu p u,t.2.2.trans u⟩
theorem T3.put{len:Nat}(t:T3 B w z a len cap W)(on:Only (w.heap.size+1) W W'):cK B w W':=on.ER t.2.2 (Nat.le_succ _)
def jv(T:TypeId)(f:Int->Value)(B:Nat)(hd:List Int)(o:Int×List Int×List Int×Int×Bool×Bool)(w:World)(e:Ending)(w':World):Prop :=
 ∃a l c,e=.returned (.tuple #[.agg (aA o.2.1 a l c),f o.1])∧aj w' a l c o.2.2.1∧ST T B hd o.2.2.2.1 o.2.2.2.2.1 o.2.2.2.2.2 w'∧cK B w w'
def hh(b h:Bool)(s t:Int):Bool:=b && decide (s=t) && h
def iJ(hd:List Int)(s:Int)(b h:Bool)(z zs:List Int):Int×List Int×List Int×Int×Bool×Bool :=
 if 0<zs.length then (2,[],[],s,b,h) else (0,iI z (md (el z 3-hd.length)),[],md (el z 3+1),true,hh b h s (md (el z 3+1)))
def iZ(hd:List Int)(s:Int)(b h:Bool)(z zs:List Int):Int×List Int×List Int×Int×Bool×Bool :=
 if 300<hd.length+zs.length then (3,[],[],s,b,h) else (0,iI z (md (el z 3-hd.length)),hd++zs,s,b,h)
theorem MB(a:Option Addr)(len cap:Nat)(zs:List Int)(w:World)(h:len<=100)(hr:aj w a len cap zs):Calls prog 202 #[.slice a len cap] w fun e w'=>∃B,e=.returned (.tuple #[.pointer (some ⟨B,0,none⟩),.nilIface])∧ST 304 B zs 0 false false w'∧w.heap.size<=B∧Below w.heap.size w w':=by
 have i:=ki (EN a len cap zs w hr (by omega));have k:=ki hr.1;clear hr;go_enter func202,ntmps202;go_wp2_with (go_at_call 253;refine i.o.mono ?_;rintro e f ⟨o,rfl,d⟩;obtain⟨l,c1,rfl,b,-⟩:=d.1.dw;rw[k.o] at b⊢;have n:=ki b;have g:=ki d.2;clear b d)
 go_ret2;refine⟨f.heap.size,rfl,⟨l,len,c1,heap_alloc_new f _,n.o.below (au _ _),h⟩,g.o.size,bt g.o (au _ _)⟩
theorem MC(B:Nat)(hd:List Int)(s:Int)(b h:Bool)(z:List Int)(a:Option Addr)(len cap:Nat)(zs:List Int)(w:World)(hS:ST 304 B hd s b h w)(pG:h=true->b=true)(hr:aj w a len cap zs)(hm:len<=300)(h0:0<=el z 3)(h1:el z 3<4294967296): Calls prog 204 #[.pointer (some ⟨B,0,none⟩),.agg (aA z a len cap)] w (jv 304 ev B hd (iJ hd s b h z zs) w):=by
 have d:=ki (T2.start w z a len cap);unfold aN at d;obtain⟨x,n,c,p,l,hn⟩:=hS;have v:=hr.1;have y:=l.1;by_cases hl:0<len
 ·have i:=ki (show iJ hd s b h z zs=(2,[],[],s,b,h) from if_pos (by omega));generalize iJ hd s b h z zs=O at i⊢;have H:=ki (fun W (hb:Below w.heap.size w W)=>show ST 304 B hd s b h W from⟨x,n,c,p.kept hb,l.below hb,hn⟩);clear p l hr v y pG;go_enter func204,ntmps204;go_upto_region 1 with fail
  generalize (World.alloc _ _).alloc _=W0 at d⊢;have S:=d.o.1.c7;go_wp2_with (refine aK rfl (.tmp 4) (.tmp 11) rfl rfl d.o.2.1 [] none 0 0 rfl ?_;intro T o g;have U:=ki (d.o.put g);replace o:=ki o;clear g d)
  try simp only[Exit.inBlock,Exit.then]
  refine bodyPost_ret (bS rfl _ _ (w.heap.size+1) [] none 0 0 rfl o.o) rfl ?_;rw[i.o];exact⟨none,0,0,rfl,ku _,H.o _ U.o,cK.of U.o⟩
 ·obtain rfl:len=0:=by omega
  obtain rfl:zs=[]:=List.eq_nil_of_length_eq_zero v;have i:=ki (show iJ hd s b h z []=(0,iI z (md (el z 3-n)),[],md (el z 3+1),true,hh b h s (md (el z 3+1))) by rw[show iJ hd s b h z []=_ from if_neg (by simp),y]);generalize iJ hd s b h z []=O at i⊢;have J:=ki (fun W=>Ak (el z 3+1) W (by omega) (by omega));have X:=sD (el z 3+1);generalize md (el z 3+1)=t at J i X;have H:=ki (fun W (hb:Below w.heap.size w W)=>p.kept hb);have Y:=ki (fun W (hb:Below w.heap.size w W)=>hr.below hb);have Z:=ki (fun W (hb:Below w.heap.size w W)=>l.below hb);have HX:=ki (fun W (hb:aj W a 0 cap [])=>Al z a 0 cap [] W hb (by omega));have HQ:=ki (fun W s b h a cap (h1:dF 304 B x n c s b h W) (h2:aj W a 0 cap [])=>ES B x n c s b h z a 0 cap [] W h1 hn h2 (by omega) (by omega));generalize md (el z 3-n)=M at i HQ;have ab:=ki p.lt;clear p hr l v y;go_enter func204,ntmps204;go_upto_region 1 with fail
  generalize (World.alloc _ _).alloc _=W0 at d⊢;have S:=d.o.1.c7;have l3:=d.o.1.c3;go_upto_region 4 with(go_at_call 254;refine(J.o _).mono ?_;rintro e w' ⟨rfl,rfl⟩)
  clear S l3 J;have P:=ki (H.o _ d.o.2.2);have R:=ki (Y.o _ d.o.2.2);have D:=ki (Z.o _ d.o.2.2);have V:=ki (d.o.three (B:=B));clear d H Y Z;have K:=P.o.c1;have L:=P.o.c2;cases b;case' false =>
   have ac:h=false:=by cases h with|false=>rfl|true=>exact absurd (pG rfl) (by decide)
   subst ac;rw[show hh false false s t=false from rfl] at i;go_upto_region 6 with fail
  case' true =>
   by_cases hst:s=t;case' pos =>
    rw[show hh true h s t=h by rw[hst];simp[hh]] at i;have N:(s != t)=false:=by rw[hst];simp
    clear hst;go_upto_region 6 with fail
    clear N
   case' neg =>
    rw[show hh true h s t=false by simp[hh,hst]] at i;have N:(s != t)=true:=by simpa using hst
    clear hst;have k3:=P.o.c3;have f3:=P.o.aZ 3;go_upto_region 6 with fail
    have A:=P.o.nW false;replace V:=ki (V.o.turn P.o A.2.bu);replace R:=ki (R.o.bu P.o A.2.bu);replace D:=ki (D.o.bu P.o A.2.bu);replace P:=ki A.1;clear N k3 f3 A;generalize World.setCell _ _ _=W1 at V R D P⊢
  all_goals
   clear K L pG;have K:=P.o.c1;have L:=P.o.c2;have f2:=P.o.aZ 2;have C:=P.o.set2 true;have f:=ki (V.o.turn P.o C.2.bu);have E:=ki (R.o.bu P.o C.2.bu);have k:=ki (D.o.bu P.o C.2.bu);have P2:=ki C.1;have ad:=P2.o.c1;have f1:=P2.o.aZ 1;have F:=P2.o.set1 t;replace f:=ki (f.o.turn P2.o F.2.bu);replace E:=ki (E.o.bu P2.o F.2.bu);replace k:=ki (k.o.bu P2.o F.2.bu);replace P2:=ki F.1;clear C F V R D P;go_upto_region 7 with fail
   clear K L f2 ad f1;generalize World.setCell _ _ _=W2 at f E k P2⊢;go_wp2_with (first|(refine bB rfl (.tmp 3) rfl rfl f.o.1 ?_)|(go_at_call 206;refine(HX.o _ E.o).mono ?_;rintro e w3 ⟨Q,c3,rfl,I,q⟩;replace f:=ki (f.o.kept q);replace k:=ki (k.o.below q);replace P2:=ki (P2.o.kept q);replace I:=ki I;clear q E)|(go_at_call 255;refine(HQ.o _ _ _ _ _ _ P2.o I.o).mono ?_;rintro e w4 ⟨rfl,G,r⟩;replace f:=ki (f.o.kept r);replace k:=ki (k.o.below r);replace P2:=ki (P2.o.kept r);replace G:=ki G;clear r I)|(refine aK rfl (.tmp 4) (.tmp 42) rfl rfl f.o.2.1 (iI z M) Q 0 c3 rfl ?_;intro T o g;have HU:=ki (f.o.put g);replace G:=ki (G.o.past f.o.2.1 g);replace k:=ki (k.o.past f.o.2.1 g);replace P2:=ki (show dF _ _ _ _ _ _ _ _ T from(g.2.2.2.2 B (by have:=ab.o;omega)).trans P2.o);replace o:=ki o;clear g f))
   try simp only[Exit.inBlock,Exit.then]
   refine bodyPost_ret (bS rfl _ _ (w.heap.size+1) (iI z M) Q 0 c3 rfl o.o) rfl ?_;rw[i.o];exact⟨Q,0,c3,rfl,G.o,⟨x,n,c,P2.o,k.o,hn⟩,HU.o⟩
end
section
theorem ME(w:World)(v1 v2:Value):Two w.heap.size v1 v2 (w.alloc (.cells #[v1,v2] 37)).drew:=heap_alloc_new w _
theorem wX(B:Nat)(hd:List Int)(s:Int)(b h:Bool)(z:List Int)(a:Option Addr)(len cap:Nat)(zs:List Int)(w:World)(hS:ST 304 B hd s b h w)(hr:aj w a len cap zs)(hm:len<=300)(h0:0<=el z 3)(h1:el z 3<4294967296): Calls prog 205 #[.pointer (some ⟨B,0,none⟩),.agg (aA z a len cap)] w (jv 304 ev B hd (iZ hd s b h z zs) w):=by
 have d:=ki (T2.start w z a len cap);unfold aN at d;have D:=ki (fun W (hb:Below w.heap.size w W)=>hS.kept hb);obtain⟨x,n,c,p,f,hn⟩:=hS;have E:=hr.1;have k:=f.1;have v:=ki (fun W (hb:Below w.heap.size w W)=>p.kept hb);have T:=ki (fun W (hb:Below w.heap.size w W)=>hr.below hb);have U:=ki (fun W (hb:Below w.heap.size w W)=>f.below hb);have X:IntKind.i64.wrap ((n:Int)+(len:Int))=(n:Int)+len:=by rw[IntKind.wrap_i64];omega
 by_cases hl:300<n+len
 ·have g:=ki (show iZ hd s b h z zs=(3,[],[],s,b,h) from if_pos (by omega));generalize iZ hd s b h z zs=O at g⊢;have L:(300:Int)<(n:Int)+len:=by omega
  clear p f hr E k hl;go_enter func205,ntmps205;go_upto_region 1 with fail
  generalize (World.alloc _ _).alloc _=W0 at d⊢;have i:=d.o.1.c7;have y:=(v.o _ d.o.2.2).c0;replace d:=ki (d.o.kept (Below.refl _ _).drew);go_quiet (fail)
  go_wp2_with (refine aK rfl (.tmp 4) (.tmp 16) rfl rfl d.o.2.1 [] none 0 0 rfl ?_;intro Y I F;have l:=ki (d.o.put F);replace I:=ki I;clear F d)
  try simp only[Exit.inBlock,Exit.then]
  refine bodyPost_ret (bS rfl _ _ (w.heap.size+1) [] none 0 0 rfl I.o) rfl ?_;rw[g.o];exact⟨none,0,0,rfl,ku _,D.o _ l.o,cK.of l.o⟩
 ·have g:=ki (show iZ hd s b h z zs=(0,iI z (md (el z 3-n)),hd++zs,s,b,h) by rw[show iZ hd s b h z zs=_ from if_neg (by omega),k]);generalize iZ hd s b h z zs=O at g⊢;have N:=ki (fun W V (h1:Two V (.slice x n c) (.slice a len cap) W) (h2:aj W x n c hd) (h3:aj W a len cap zs)=>Mw V x a n len c cap hd zs W h1 h2 h3 (by omega) (by omega));have Q:=ki (fun W s b h a len cap zs (h1:dF 304 B x n c s b h W) (h2:aj W a len cap zs)=>ES B x n c s b h z a len cap zs W h1 hn h2 (by omega) (by omega));have Z:=ki (show(hd++zs).length=n+len by rw[List.length_append];omega);generalize md (el z 3-n)=M at g Q;have L:¬(300:Int)<(n:Int)+len:=by omega
  clear p f hr E k hl;go_enter func205,ntmps205;go_upto_region 1 with fail
  generalize (World.alloc _ _).alloc _=W0 at d⊢;have i:=d.o.1.c7;have y:=(v.o _ d.o.2.2).c0;have G:=ki (fun n=>d.o.kept (W':=W0.drewN n) ⟨rfl,rfl,rfl,Nat.le_refl _,fun _ _=>rfl⟩);clear d;go_quiet (fail)
  generalize hW:World.drewN _ _=W1;have d:Hid (T2 w z a len cap W1):=by rw[<-hW];exact G.o _
  clear hW G i y X L;go_upto_region 3 with fail
  have i:=d.o.1.c7;have y:=(v.o _ d.o.2.2).c0;have R:=(au W1 (.cells #[.slice x n c,.slice a len cap] 37)).drew;replace d:=ki (d.o.kept R);clear R;have S:=ki (N.o _ _ (ME W1 (.slice x n c) (.slice a len cap)) (U.o _ d.o.2.2) (T.o _ d.o.2.2));clear N;go_region_with (go_at_call 256;refine S.o.mono ?_;rintro e w3 ⟨v3,rfl,J⟩;obtain⟨A,c3,rfl,o,-⟩:=J.1.dw;rw[Z.o] at o⊢;replace d:=ki (d.o.kept J.2);clear i;have i:=d.o.1.c7;have f7:=d.o.1.aZ 7;have C:=d.o.1.Aj A (n+len) c3;have q:=ki (o.past d.o.1 C.2);replace d:=ki (d.o.turn C.1 C.2);clear J o C S)
  all_goals
   clear i f7 y;generalize World.setCell _ _ _=W4 at d q⊢;have P:=ki (v.o _ d.o.2.2);go_wp2_with (first|(refine bB rfl (.tmp 3) rfl rfl d.o.1 ?_)|(go_at_call 255;refine(Q.o _ _ _ _ _ _ _ _ P.o q.o).mono ?_;rintro e Y ⟨rfl,r,H⟩;replace d:=ki (d.o.kept H);replace r:=ki r;clear H q P)|(refine aK rfl (.tmp 4) (.tmp 29) rfl rfl d.o.2.1 (iI z M) A (n+len) c3 rfl ?_;intro w6 K t;have l:=ki (d.o.put t);replace r:=ki (r.o.past d.o.2.1 t);replace K:=ki K;clear t d))
   try simp only[Exit.inBlock,Exit.then]
   refine bodyPost_ret (bS rfl _ _ (w.heap.size+1) (iI z M) A (n+len) c3 rfl K.o) rfl ?_;rw[g.o];exact⟨A,n+len,c3,rfl,r.o,D.o _ l.o,cK.of l.o⟩
end
section
variable {z:List Int}
theorem ET:∀f:Fin 32,bits .and .i64 ((f.val:Nat):Int) 2=(if f.val/2%2=1 then 2 else 0)∧bits .and .i64 ((f.val:Nat):Int) 16=(if f.val/16%2=1 then 16 else 0):=by decide +kernel
theorem EU(n:Int)(h0:0<=n)(h1:n<=31):bits .and .i64 n 2=if n/2%2=1 then 2 else 0:=by
 obtain⟨k,rfl⟩:=Int.eq_ofNat_of_zero_le h0;have:=(ET ⟨k,by omega⟩).1;simp only at this;rw[this];by_cases h:k/2%2=1
 ·rw[if_pos h,if_pos (by omega)]
 ·rw[if_neg h,if_neg (by omega)]
theorem MF(n:Int)(h0:0<=n)(h1:n<=31):bits .and .i64 n 16=if n/16%2=1 then 16 else 0:=by
 obtain⟨k,rfl⟩:=Int.eq_ofNat_of_zero_le h0;have:=(ET ⟨k,by omega⟩).2;simp only at this;rw[this];by_cases h:k/16%2=1
 ·rw[if_pos h,if_pos (by omega)]
 ·rw[if_neg h,if_neg (by omega)]
theorem qI{len:Nat}(h:cf z len=0):el z 0=6∧len<=300∧(0<=el z 3∧el z 3<=4294967295)∧(0<=el z 4∧el z 4<=4294967295)∧(0<=el z 5∧el z 5<=31):=by
 unfold cf at h;split at h
 ·cases h
 ·rename_i h6;have a:=(l6 z len).1 h;have:el z 0=6:=Classical.byContradiction fun hn=>h6 ⟨h,hn⟩
  obtain⟨_,_,b,h4|h4⟩:=a
  ·exact⟨this,b,h4.2.1,h4.2.2.1,h4.2.2.2.1⟩
  ·omega
def dM(hd:List Int)(s:Int)(b h:Bool)(z zs:List Int):Int×List Int×List Int×Int×Bool×Bool :=
 if cf z zs.length≠0 then (cf z zs.length,[],[],s,b,h)
 else if el z 5/2%2=1 then iJ hd s b h z zs
 else if b=false then (9,[],[],s,b,h)
 else if el z 3=s∧h=false then iZ hd s b h z zs
 else (0,z,zs,s,b,h)
def eF(s:Int)(b h:Bool)(z zs:List Int):Int×List Int×List Int×Int×Bool×Bool :=
 if cf z zs.length≠0 then (cf z zs.length,[],[],s,b,h)
 else if b=false then (9,[],[],s,b,h)
 else if el z 5/16%2=0 then (0,z,zs,s,b,h)
 else if nX (el z 4) s=true then (0,nV z s,zs,s,b,h)
 else (0,z,zs,s,b,true)
theorem ST.only{T:TypeId}{B:Nat}{hd:List Int}{s:Int}{b h:Bool}{w w':World}(p:ST T B hd s b h w){D:Nat}{x:Option Addr}{l k:Nat}(q:aG D z x l k w)(on:Only D w w')(hne:B≠D):ST T B hd s b h w':=by obtain⟨a,n,c,d,e,f⟩:=p;exact⟨a,n,c,(on.2.2.2.2 B hne).trans d,e.past q on,f⟩
theorem T3.st{B:Nat}{w:World}{a:Option Addr}{len cap:Nat}{W W':World}(t:T3 B w z a len cap W){T:TypeId}{hd:List Int}{s:Int}{b h:Bool}(p:ST T B hd s b h W)(u:cK B W W'):T3 B w z a len cap W':=by obtain⟨_,_,_,d,_⟩:=p;exact t.turn d u
attribute [local go_sem ↓] jg
theorem MG(B:Nat)(hd:List Int)(s:Int)(b h:Bool)(z:List Int)(a:Option Addr)(len cap:Nat)(zs:List Int)(w:World)(hS:ST 304 B hd s b h w)(hr:aj w a len cap zs)(hF:cf z len≠0): Calls prog 147 #[.pointer (some ⟨B,0,none⟩),.agg (aA z a len cap)] w (jv 304 ev B hd (cf z len,[],[],s,b,h) w):=by
 have d:=ki (T2.start w z a len cap);unfold aN at d;have f:=ki (fun W=>wW z a len cap W hr.2.1);have n:=ki (fun W (hb:Below w.heap.size w W)=>hS.kept hb);clear hS hr;generalize cf z len=F at hF f⊢;have k:=ki (show ev F=err F from if_neg hF);rw[k.o] at f;unfold err at f k;clear hF;go_enter func147,ntmps147;go_upto_region 1 with fail
 generalize (World.alloc _ _).alloc _=W0 at d⊢;go_wp2_with (first|(refine bB rfl (.tmp 3) rfl rfl d.o.1 ?_)|(go_at_call 203;refine(f.o _).mono ?_;rintro e p ⟨rfl,g⟩;replace d:=ki (d.o.kept g);clear g)|(refine aK rfl (.tmp 4) (.tmp 11) rfl rfl d.o.2.1 [] none 0 0 rfl ?_;intro q l i;have o:=ki (d.o.put i);replace l:=ki l;clear i d))
 try simp only[Exit.inBlock,Exit.then]
 refine bodyPost_ret (bS rfl _ _ (w.heap.size+1) [] none 0 0 rfl l.o) rfl ?_;exact⟨none,0,0,by rw[k.o];rfl,ku _,n.o _ o.o,cK.of o.o⟩
theorem MH(B:Nat)(hd:List Int)(s:Int)(b h:Bool)(z:List Int)(a:Option Addr)(len cap:Nat)(zs:List Int)(w:World)(hS:ST 304 B hd s b h w)(pG:h=true->b=true)(hr:aj w a len cap zs)(hF:cf z len=0)(O:Int×List Int×List Int×Int×Bool×Bool)(hO:O=if el z 5/2%2=1 then iJ hd s b h z zs else if b=false then (9,[],[],s,b,h) else if el z 3=s∧h=false then iZ hd s b h z zs else (0,z,zs,s,b,h)): Calls prog 147 #[.pointer (some ⟨B,0,none⟩),.agg (aA z a len cap)] w (jv 304 ev B hd O w):=by
 have d:=ki (T2.start w z a len cap);unfold aN at d;have Q:=ki (fun W=>wW z a len cap W hr.2.1);rw[hF,show ev 0=.nilIface from rfl] at Q;obtain⟨-,hl,J,-,A⟩:=qI hF;have C:=ki (fun W (h1:ST 304 B hd s b h W) (h2:aj W a len cap zs)=>MC B hd s b h z a len cap zs W h1 pG h2 hl J.1 (by omega));have r:=ki (fun W (h1:ST 304 B hd s b h W) (h2:aj W a len cap zs)=>wX B hd s b h z a len cap zs W h1 h2 hl J.1 (by omega));have v:=ki (fun W (h2:aj W a len cap zs)=>Al z a len cap zs W h2 (by omega));have l:=ki (fun W (hb:Below w.heap.size w W)=>hS.kept hb);have D:=ki (fun W (hb:Below w.heap.size w W)=>hr.below hb);have G:=ki hS.lt;have T:=EU (el z 5) A.1 A.2;clear hS hr hF J A hl pG;go_enter func147,ntmps147;go_upto_region 1 with fail
 generalize (World.alloc _ _).alloc _=W0 at d⊢;go_upto_region 4 with(first|(refine bB rfl (.tmp 3) rfl rfl d.o.1 ?_)|(go_at_call 203;refine(Q.o _).mono ?_;rintro e w1 ⟨rfl,H⟩;replace d:=ki (d.o.kept H);clear H))
 have U:=d.o.1.c5;by_cases jS:el z 5/2%2=1
 ·rw[if_pos jS] at T hO;have q:=ki hO;clear hO jS r v;generalize iJ hd s b h z zs=O' at C q;have V:=ki (d.o.three (B:=B));have S:=ki (l.o _ d.o.2.2);have R:=ki (D.o _ d.o.2.2);clear d l D;go_wp2_with (first|(refine bB rfl (.tmp 3) rfl rfl V.o.1 ?_)|(go_at_call 204;refine(C.o _ S.o R.o).mono ?_;rintro e X ⟨o,t,c2,rfl,g,i,E⟩;replace V:=ki (V.o.st S.o E);replace i:=ki i;replace g:=ki g;clear E S R U)|(refine aK rfl (.tmp 4) (.tmp 20) rfl rfl V.o.2.1 O'.2.1 o t c2 rfl ?_;intro K k f;have L:=ki (V.o.put f);replace g:=ki (g.o.past V.o.2.1 f);replace i:=ki (i.o.only V.o.2.1 f (by have:=G.o;omega));replace k:=ki k;clear f V))
  try simp only[Exit.inBlock,Exit.then]
  refine bodyPost_ret (bS rfl _ _ (w.heap.size+1) O'.2.1 o t c2 rfl k.o) rfl ?_;rw[q.o];exact⟨o,t,c2,rfl,g.o,i.o,L.o⟩
 ·rw[if_neg jS] at T hO;clear C jS;have S:=ki (l.o _ d.o.2.2);obtain⟨x,n,c,p,-,-⟩:=S.o;have Z:=p.c2;have M:=p.c1;have N:=p.c3;clear p;cases b
  ·rw[if_pos rfl] at hO;have q:=ki hO;clear hO r v M N;go_wp2_with (refine aK rfl (.tmp 4) (.tmp 27) rfl rfl d.o.2.1 [] none 0 0 rfl ?_;intro K k f;have F:=ki (d.o.put f);replace k:=ki k;clear f d)
   try simp only[Exit.inBlock,Exit.then]
   refine bodyPost_ret (bS rfl _ _ (w.heap.size+1) [] none 0 0 rfl k.o) rfl ?_;rw[q.o];exact⟨none,0,0,rfl,ku _,l.o _ F.o,cK.of F.o⟩
  ·rw[if_neg (by decide)] at hO;have Y:=d.o.1.c3;go_upto_region 8 with fail
   have y:=ki (fun n=>d.o.kept (W':=World.drewN _ n) ⟨rfl,rfl,rfl,Nat.le_refl _,fun _ _=>rfl⟩);clear U Z S;by_cases kM:el z 3=s;case' pos =>
    have P:(el z 3 == s)=true:=by simpa using kM
    cases h
   case' pos.false =>
    rw[if_pos ⟨kM,rfl⟩] at hO;have q:=ki hO;clear hO kM v;generalize iZ hd s true false z zs=O' at r q;clear d;go_quiet (fail)
    generalize hW:World.drewN _ _=W1;have d:Hid (T2 w z a len cap W1):=by rw[<-hW];exact y.o _
    clear hW y M N Y P;have V:=ki (d.o.three (B:=B));have S:=ki (l.o _ d.o.2.2);have R:=ki (D.o _ d.o.2.2);clear d l D;go_wp2_with (first|(refine bB rfl (.tmp 3) rfl rfl V.o.1 ?_)|(go_at_call 205;refine(r.o _ S.o R.o).mono ?_;rintro e X ⟨o,t,c2,rfl,g,i,E⟩;replace V:=ki (V.o.st S.o E);replace i:=ki i;replace g:=ki g;clear E S R)|(refine aK rfl (.tmp 4) (.tmp 46) rfl rfl V.o.2.1 O'.2.1 o t c2 rfl ?_;intro K k f;have L:=ki (V.o.put f);replace g:=ki (g.o.past V.o.2.1 f);replace i:=ki (i.o.only V.o.2.1 f (by have:=G.o;omega));replace k:=ki k;clear f V))
    try simp only[Exit.inBlock,Exit.then]
    refine bodyPost_ret (bS rfl _ _ (w.heap.size+1) O'.2.1 o t c2 rfl k.o) rfl ?_;rw[q.o];exact⟨o,t,c2,rfl,g.o,i.o,L.o⟩
   case' neg =>have P:(el z 3 == s)=false:=by simpa using kM
   all_goals
    rw[if_neg (fun hx=>by first|exact kM hx.1|cases hx.2)] at hO;have q:=ki hO;clear hO kM r;clear d;go_quiet (fail)
    generalize hW:World.drewN _ _=W1;have d:Hid (T2 w z a len cap W1):=by rw[<-hW];exact y.o _
    clear hW y M N Y P;have R:=ki (D.o _ d.o.2.2);go_wp2_with (first|(refine bB rfl (.tmp 3) rfl rfl d.o.1 ?_)|(go_at_call 206;refine(v.o _ R.o).mono ?_;rintro e X ⟨o,c2,rfl,g,I⟩;replace d:=ki (d.o.kept I);replace g:=ki g;clear I R)|(refine aK rfl (.tmp 4) (.tmp 49) rfl rfl d.o.2.1 z o len c2 rfl ?_;intro K k f;have F:=ki (d.o.put f);replace g:=ki (g.o.past d.o.2.1 f);replace k:=ki k;clear f d))
    try simp only[Exit.inBlock,Exit.then]
    refine bodyPost_ret (bS rfl _ _ (w.heap.size+1) z o len c2 rfl k.o) rfl ?_;rw[q.o];exact⟨o,len,c2,rfl,g.o,l.o _ F.o,cK.of F.o⟩
theorem MI(B:Nat)(hd:List Int)(s:Int)(b h:Bool)(z:List Int)(a:Option Addr)(len cap:Nat)(zs:List Int)(w:World)(hS:ST 304 B hd s b h w)(pG:h=true->b=true)(hr:aj w a len cap zs): Calls prog 147 #[.pointer (some ⟨B,0,none⟩),.agg (aA z a len cap)] w (jv 304 ev B hd (dM hd s b h z zs) w):=by
 have hl:=hr.1;by_cases hF:cf z len=0
 ·exact MH B hd s b h z a len cap zs w hS pG hr hF _ (by unfold dM;rw[hl,if_neg (by rw[hF];decide)])
 ·have:=MG B hd s b h z a len cap zs w hS hr hF;rw[show dM hd s b h z zs=(cf z len,[],[],s,b,h) by unfold dM;rw[hl,if_pos hF]];exact this
end
end Go.Proofs.YtgcojnlngchllaaGreatDoor
