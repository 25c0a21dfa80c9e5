/- Which segments may be. bytes.Clone, slices.Grow and slices.Concat (of two), by contracts. Streams with a head as they lie in the heap; numbers of streams; shift's wrap, ahead, own, check and sooner, by contracts. Package shift: New, Begun, Heard, begin and first, by contracts. Package shift: first, and what goes up, by contracts. -/
import Derived.Lib.SliceRun
import Derived.Lib.AppendZerosOnto
import Derived.Test.YtgcojnlngchllaaGreatDoorK06
namespace Go.Proofs.YtgcojnlngchllaaGreatDoor
open Go.RowKit
set_option linter.unusedVariables false
set_option maxRecDepth 100000
set_option maxHeartbeats 40000000
section
theorem row_no (w:World):Row8 w none 0 0 []:=⟨rfl,by simp[maxLen],SM.oct_nil,fun _=>⟨rfl,rfl⟩,fun h=>by omega⟩
end
section
variable {V:Nat} {v1 v2:Value} {w:World}
theorem gr_empty (w:World):Gr w (w.alloc (.cells #[] 5)) (.slice (some ⟨w.heap.size,0,none⟩) 0 0) [] :=
 ⟨⟨SM.oct_nil,World.ownsRow_made w #[] 0 (Nat.le_refl _) (Nat.zero_le _) rfl⟩,al_below _ _⟩
theorem clone_any (a:Option Addr) (len cap:Nat) (zs:List Int) (w:World) (hr:Row8 w a len cap zs) (hm:len≤1000000) :
  Calls Tryz.prog 253 #[.slice a len cap] w fun e w'=>∃ v,e=.returned v∧Gr w w' v zs:=by
 have q:=fun (w:World) (a:Option Addr) (n c n' c':Nat)=>Lib.run_eql_slice_nil (P:=Tryz.prog) w 37 _ a n c n' c' Tryz.underlying37
 cases a with
 | none =>
  obtain ⟨rfl,rfl⟩:=hr.2.2.2.1 rfl
  obtain rfl:zs=[]:=List.eq_nil_of_length_eq_zero hr.1
  clear hr
  go_enter Tryz.func253,Tryz.ntmps253
  go_wp2
  go_ret
  exact ⟨_,rfl,Gr.nil w⟩
 | some ad =>
  have d:=ki (gr_empty w)
  have f:=ki (hr.below (al_below w (.cells #[] 5)))
  clear hr
  go_enter Tryz.func253,Tryz.ntmps253
  go_wp2_with (at_builtin;refine gr_app rfl (.tmp 5) (.tmp 6) rfl rfl d.o rfl f.o (by simp only[List.length_nil];omega) ?_;intro g w' b;replace b:=ki b)
  go_ret
  exact ⟨_,rfl,b.o⟩
theorem clone_last (ad:Addr) (len cap:Nat) (zs:List Int) (w:World) (hr:Row8 w (some ad) len cap zs) (hp:0 < len) (hm:len≤1000000) :
  Calls Tryz.prog 253 #[.slice (some ad) len cap] w fun e w'=>∃ c,e=.returned (.slice (some ⟨w'.heap.size - 1,0,none⟩) len c)∧0 < w'.heap.size∧Gr w w' (.slice (some ⟨w'.heap.size - 1,0,none⟩) len c) zs:=by
 have q:=fun (w:World) (a:Option Addr) (n c n' c':Nat)=>Lib.run_eql_slice_nil (P:=Tryz.prog) w 37 _ a n c n' c' Tryz.underlying37
 obtain ⟨C,s,f,g,i⟩:=info_parts Tryz.infoByte
 have D:=hr.below (al_below w (.cells #[] 5))
 obtain ⟨r1,E,t,F,x⟩:=D
 obtain ⟨y,b,r,k⟩:=x hp
 injection r with r
 subst r
 obtain ⟨G,hG⟩:∃ G,G=grownCap (w.alloc (.cells #[] 5)) len 0 5:=⟨_,rfl⟩
 obtain ⟨W,hW⟩:∃ W,W=(w.alloc (.cells #[] 5)).drew.alloc (.cells (([]:List Value).toArray++(zs.map (Value.int .u8)).toArray++Builtin.zeroCells (Value.int .u8 0).cells (G - len)) 5):=⟨_,rfl⟩
 have l:len≤G:=by rw[hG];exact grownCap_ge _ _ _ _
 have o:G≤maxLen:=by rw[hG];exact grownCap_le_maxLen _ len 0 5 (by unfold maxLen;omega)
 have d:(w.alloc (.cells #[] 5)).heap.size=w.heap.size+1:=World.size_alloc ..
 have z:W.heap.size=w.heap.size+2:=by
  rw[hW,World.size_alloc]
  show (w.alloc (.cells #[] 5)).heap.size+1=_
  omega
 have A:∀ ty,(Builtin.append_ #[37,37] ty #[.slice (some ⟨w.heap.size,0,none⟩) 0 0,.slice (some ⟨y,b,none⟩) len cap]).run Tryz.prog (w.alloc (.cells #[] 5))=.ok (.slice (some ⟨w.heap.size+1,0,none⟩) len G) W:=fun ty=>by
  have h:=run_append_grow (P:=Tryz.prog) (w:=w.alloc (.cells #[] 5)) 37 ty 5 C (.int .u8 0) Tryz.underlying37 s f ⟨w.heap.size,0,none⟩ 0 0 [] (by simp) (fun j v h=>by simp at h) ⟨y,b,none⟩ len cap (zs.map (Value.int .u8)) (by simp[r1,g]) (fun j u hu=>by
   have H:j < zs.length:=by have:=(List.getElem?_eq_some_iff.1 hu).1;simpa using this
   rw[add_pl,k j (by omega)]
   rw[List.getElem?_map] at hu
   simp[H] at hu ⊢
   exact hu) (by omega) (by omega) (by rw[i,Nat.zero_add];exact growslice_fits (by omega) (by omega))
  rw[Nat.zero_add,← hG,← hW,d] at h
  exact h
 have I:=ki (show Gr w W (.slice (some ⟨w.heap.size+1,0,none⟩) len G) zs by
  rw[hW]
  refine ⟨⟨t,?_⟩,?_⟩
  ·refine ⟨by simp,.inr ⟨w.heap.size+1,G,([]:List Value).toArray++(zs.map (Value.int .u8)).toArray++Builtin.zeroCells (Value.int .u8 0).cells (G - len),by rw[r1],by omega,?_,by rw[r1];exact l,o,?_,?_⟩⟩
   ·have:=heap_alloc_new (w.alloc (.cells #[] 5)).drew (.cells (([]:List Value).toArray++(zs.map (Value.int .u8)).toArray++Builtin.zeroCells (Value.int .u8 0).cells (G - len)) 5)
    rw[show (w.alloc (.cells #[] 5)).drew.heap.size=w.heap.size+1 from d] at this
    exact this
   ·simp[Builtin.zeroCells,Value.cells,r1]
    omega
   ·simp only[Nat.mul_one,Array.toList_append,List.nil_append]
    exact List.take_left' (by simp)
  ·exact bt (al_below w _) ((show Below (w.alloc (.cells #[] 5)).heap.size (w.alloc (.cells #[] 5)) (w.alloc (.cells #[] 5)).drew from (Below.refl _ _).drew).alloc (Nat.le_refl _) _))
 have p:W.heap.size - 1=w.heap.size+1:=by omega
 have B:0 < W.heap.size:=by omega
 clear hW hG l o hr r1 E t F x k s f g i d z
 go_enter Tryz.func253,Tryz.ntmps253
 go_wp2_with (at_builtin;refine Lib.wpList_append_run _ rfl _ _ _ _ rfl _ _ rfl rfl _ _ (A _) ?_)
 go_ret
 exact ⟨G,by rw[p];rfl,B,by rw[p];exact I.o⟩
theorem grow_any (n:Nat) (w:World) (hn:n≤1000000):Calls Tryz.prog 293 #[.slice none 0 0,.int .i64 n] w fun e w'=>∃ v,e=.returned v∧Gr w w' v []:=by
 by_cases h0:n=0
 ·subst h0
  go_enter Tryz.func293,Tryz.ntmps293
  go_wp2
  go_ret
  exact ⟨_,rfl,Gr.nil w⟩
 ·obtain ⟨g,i,d,k,a⟩:=info_parts Tryz.infoByte
  have b:(Builtin.firstCells g.size 0 (.slice none 0 0)).run Tryz.prog w.drew=.ok ([]:List Value).toArray w.drew:=run_firstCells_none w.drew g.size 0 0 0
  obtain ⟨G,hG⟩:∃ G,G=grownCap w n 0 5:=⟨_,rfl⟩
  obtain ⟨W,hW⟩:∃ W,W=w.drew.alloc (.cells (([]:List Value).toArray++Builtin.zeroCells (Value.int .u8 0).cells n++Builtin.zeroCells (Value.int .u8 0).cells (G - n)) 5):=⟨_,rfl⟩
  have p:n≤G:=by rw[hG];exact grownCap_ge w _ _ _
  have f:G≤maxLen:=by rw[hG];exact grownCap_le_maxLen w n 0 5 (by unfold maxLen;omega)
  have l:∀ ty,(Builtin.append_ #[37,3] ty #[.slice none 0 0,.int .i64 n]).run Tryz.prog w=.ok (.slice (some ⟨w.heap.size,0,none⟩) n G) W:=fun ty=>by
   have h:=Lib.run_append_grow_zeros (P:=Tryz.prog) w 37 3 ty 5 g (.int .u8 0) .i64 .i64 Tryz.underlying37 Tryz.underlying3 i d none 0 0 [] b n (by omega) (by omega) (by omega) (by omega)
    (by rw[a];omega) (by rw[Nat.zero_add];exact growslice_fits (by omega) (by rw[a];omega))
   rw[Nat.zero_add,← hG,← hW] at h
   exact h
  have o:=ki (show Gr w W (.slice (some ⟨w.heap.size,0,none⟩) 0 G) [] by
   rw[hW]
   refine ⟨⟨SM.oct_nil,World.ownsRow_made w.drew _ G (Nat.le_refl _) f ?_⟩,((Below.refl _ w).drew).alloc (Nat.le_refl _) _⟩
   simp[Builtin.zeroCells,Value.cells]
   omega)
  unfold maxLen at f
  clear hW hG b i d k a
  go_enter Tryz.func293,Tryz.ntmps293
  go_wp2_with (at_builtin;refine Lib.wpList_append_run _ rfl _ _ _ _ rfl _ _ rfl rfl _ _ (l _) ?_)
  go_ret
  exact ⟨_,rfl,o.o⟩
def Two (V:Nat) (v1 v2:Value) (w:World):Prop:=w.heap[V]? = some (.cells #[v1,v2] 37 (0,0))
theorem Two.lt (h:Two V v1 v2 w):V < w.heap.size:=(Array.getElem?_eq_some_iff.1 h).1
theorem Two.kept {w':World} (h:Two V v1 v2 w) (hb:Below w.heap.size w w'):Two V v1 v2 w':=(hb.block V h.lt).trans h
theorem Two.c0 (h:Two V v1 v2 w):w.cell? ⟨V,0,none⟩=some v1:=cell_of_row w V 0 _ _ _ h
theorem Two.c1 (h:Two V v1 v2 w):w.cell? ⟨V,1,none⟩=some v2:=cell_of_row w V 1 _ _ _ h
theorem concat_any (V:Nat) (a1 a2:Option Addr) (n1 n2 c1 c2:Nat) (xs ys:List Int) (w:World) (h:Two V (.slice a1 n1 c1) (.slice a2 n2 c2) w) (r1:Row8 w a1 n1 c1 xs) (r2:Row8 w a2 n2 c2 ys) (b1:n1≤1000) (b2:n2≤1000) :
  Calls Tryz.prog 256 #[.slice (some ⟨V,0,none⟩) 2 2] w fun e w'=>∃ v,e=.returned v∧Gr w w' v (xs++ys):=by
 have d:=ki h
 have k:=ki r1
 have l:=ki r2
 have n:=ki r1.1
 have s:=ki r2.1
 have f:=h.c0
 have g:=h.c1
 clear h r1 r2
 obtain ⟨S,hS⟩:∃ S,S=n1+n2:=⟨_,rfl⟩
 have o:=ki (fun W=>grow_any S W (by omega))
 have p:=ki (show (S:Int)=(n1:Int)+(n2:Int) by omega)
 have r:S≤2000:=by omega
 clear hS
 go_enter Tryz.func256,Tryz.ntmps256
 go_wp2
 go_loop [3,11] (fun t i=>(t=.int .i64 0∧i=.int .i64 0)∨(t=.int .i64 n1∧i=.int .i64 1)∨(t=.int .i64 S∧i=.int .i64 2)) (fun _ i=>2 - (intOf i).toNat)
 case atStart=>exact .inl ⟨rfl,rfl⟩
 case round =>
  rcases hrel with ⟨rfl,rfl⟩|⟨rfl,rfl⟩|⟨rfl,rfl⟩
  ·go_wp2
   go_round
   case rel=>exact .inr (.inl ⟨by go_num,rfl⟩)
   case measure=>simp[intOf]
  ·go_wp2
   go_round
   case rel=>exact .inr (.inr ⟨by rw[p.o],rfl⟩)
   case measure=>simp[intOf]
  ·clear f g
   go_upto_region 11 with (go_at_call 293;refine (o.o _).mono ?_;rintro e x ⟨y,rfl,b⟩;replace b:=ki b)
   go_loopw [6,27] (fun v i wr=>(i=.int .i64 0∧Hid (Gr w wr v []))∨(i=.int .i64 1∧Hid (Gr w wr v xs))∨(i=.int .i64 2∧Hid (Gr w wr v (xs++ys)))) (fun _ i _=>2 - (intOf i).toNat)
   case atStart=>exact .inl ⟨rfl,b⟩
   case round =>
    clear b
    rcases hrel with ⟨rfl,HO⟩|⟨rfl,HO⟩|⟨rfl,HO⟩
    ·have f:=(d.o.kept HO.o.2).c0
     have R:=ki (k.o.below HO.o.2)
     go_wp2_with (at_builtin;refine gr_app rfl (.tmp 31) (.tmp 32) rfl rfl HO.o rfl R.o (by simp only[List.length_nil];omega) ?_;intro q w' a;replace a:=ki a)
     go_roundw
     case rel=>exact .inr (.inl ⟨rfl,a⟩)
     case measure=>simp[intOf]
    ·have g:=(d.o.kept HO.o.2).c1
     have R:=ki (l.o.below HO.o.2)
     go_wp2_with (at_builtin;refine gr_app rfl (.tmp 31) (.tmp 32) rfl rfl HO.o rfl R.o (by rw[n.o];omega) ?_;intro q w' a;replace a:=ki a)
     go_roundw
     case rel=>exact .inr (.inr ⟨rfl,a⟩)
     case measure=>simp[intOf]
    ·go_wp2
     go_ret
     exact ⟨_,rfl,HO.o⟩
end
section
variable {b h:Bool} {s:Int} {z zs:List Int} {B cap k l n:Nat} {a x:Option Addr} {T:TypeId} {W W' w w':World}
def zq (z:List Int) (q:Int):List Int:=[el z 0,el z 1,el z 2,q,el z 4,el z 5,el z 6]
def za (z:List Int) (k:Int):List Int:=[el z 0,el z 1,el z 2,el z 3,k,el z 5,el z 6]
theorem SgIn.set3 {len:Nat} (p:SgIn B z a len cap w) (q:Int):SgIn B (zq z q) a len cap (w.setCell ⟨B,3,none⟩ (.int .i64 q))∧Only B w (w.setCell ⟨B,3,none⟩ (.int .i64 q)):=by
 rw[setCell_eq_setRow w B 3 _ _ (0,0) _ p]
 exact ⟨setRow_heap w B _ _ _ (0,0) p,only_setRow _ _ _⟩
theorem SgIn.set4 {len:Nat} (p:SgIn B z a len cap w) (q:Int):SgIn B (za z q) a len cap (w.setCell ⟨B,4,none⟩ (.int .i64 q))∧Only B w (w.setCell ⟨B,4,none⟩ (.int .i64 q)):=by
 rw[setCell_eq_setRow w B 4 _ _ (0,0) _ p]
 exact ⟨setRow_heap w B _ _ _ (0,0) p,only_setRow _ _ _⟩
theorem SgIn.set7 {len:Nat} (p:SgIn B z a len cap w) (a':Option Addr) (n c:Nat):SgIn B z a' n c (w.setCell ⟨B,7,none⟩ (.slice a' n c))∧Only B w (w.setCell ⟨B,7,none⟩ (.slice a' n c)):=by
 rw[setCell_eq_setRow w B 7 _ _ (0,0) _ p]
 exact ⟨setRow_heap w B _ _ _ (0,0) p,only_setRow _ _ _⟩
def stC (a:Option Addr) (n c:Nat) (s:Int) (b h:Bool):Array Value:=#[.slice a n c,.int .i64 s,.bool b,.bool h]
def StB (T:TypeId) (B:Nat) (a:Option Addr) (n c:Nat) (s:Int) (b h:Bool) (w:World):Prop:=w.heap[B]? = some (.cells (stC a n c s b h) T (0,0))
theorem StB.lt {c:Nat} (p:StB T B a n c s b h w):B < w.heap.size:=(Array.getElem?_eq_some_iff.1 p).1
theorem StB.kept {c:Nat} (p:StB T B a n c s b h w) (hb:Below w.heap.size w w'):StB T B a n c s b h w':=(hb.block B p.lt).trans p
theorem StB.c0 {c:Nat} (p:StB T B a n c s b h w):w.cell? ⟨B,0,none⟩=some (.slice a n c):=cell_of_row w B 0 _ _ _ p
theorem StB.c1 {c:Nat} (p:StB T B a n c s b h w):w.cell? ⟨B,1,none⟩=some (.int .i64 s):=cell_of_row w B 1 _ _ _ p
theorem StB.c2 {c:Nat} (p:StB T B a n c s b h w):w.cell? ⟨B,2,none⟩=some (.bool b):=cell_of_row w B 2 _ _ _ p
theorem StB.c3 {c:Nat} (p:StB T B a n c s b h w):w.cell? ⟨B,3,none⟩=some (.bool h):=cell_of_row w B 3 _ _ _ p
theorem StB.frz {c:Nat} (p:StB T B a n c s b h w) (j:Nat):w.frozen? ⟨B,j,none⟩=false:=by
 unfold StB at p
 simp[World.frozen?,p]
theorem StB.set1 {c:Nat} (p:StB T B a n c s b h w) (t:Int):StB T B a n c t b h (w.setCell ⟨B,1,none⟩ (.int .i64 t))∧Only B w (w.setCell ⟨B,1,none⟩ (.int .i64 t)):=by
 rw[setCell_eq_setRow w B 1 _ _ (0,0) _ p]
 exact ⟨setRow_heap w B _ _ _ (0,0) p,only_setRow _ _ _⟩
theorem StB.set2 {c:Nat} (p:StB T B a n c s b h w) (t:Bool):StB T B a n c s t h (w.setCell ⟨B,2,none⟩ (.bool t))∧Only B w (w.setCell ⟨B,2,none⟩ (.bool t)):=by
 rw[setCell_eq_setRow w B 2 _ _ (0,0) _ p]
 exact ⟨setRow_heap w B _ _ _ (0,0) p,only_setRow _ _ _⟩
theorem StB.set3 {c:Nat} (p:StB T B a n c s b h w) (t:Bool):StB T B a n c s b t (w.setCell ⟨B,3,none⟩ (.bool t))∧Only B w (w.setCell ⟨B,3,none⟩ (.bool t)):=by
 rw[setCell_eq_setRow w B 3 _ _ (0,0) _ p]
 exact ⟨setRow_heap w B _ _ _ (0,0) p,only_setRow _ _ _⟩
theorem StB.no8 {c:Nat} (p:StB T B a n c s b h w) (j:Nat) (x:Int):w.cell? ⟨B,j,none⟩≠some (.int .u8 x):=by
 rw[cell_of_row w B j _ _ _ p]
 by_cases h:j < 4
 ·rcases (by omega:j=0∨j=1∨j=2∨j=3) with rfl|rfl|rfl|rfl <;> intro h <;> cases h
 ·rw[Array.getElem?_eq_none (by show 4≤j;omega)];intro h;cases h
def Bu (B:Nat) (w w':World):Prop:=w'.os=w.os∧w'.tape=w.tape∧w'.output=w.output∧w.heap.size≤w'.heap.size∧∀ g,g < w.heap.size→g≠B→w'.heap[g]? = w.heap[g]?
theorem Bu.of (h:Below w.heap.size w w'):Bu B w w':=⟨h.os,h.tape,h.output,h.size,fun g hg _=>h.block g hg⟩
theorem Bu.trans {w'':World} (h:Bu B w w') (k:Bu B w' w''):Bu B w w'':=⟨k.1.trans h.1,k.2.1.trans h.2.1,k.2.2.1.trans h.2.2.1,Nat.le_trans h.2.2.2.1 k.2.2.2.1,fun g hg hn=>(k.2.2.2.2 g (Nat.lt_of_lt_of_le hg h.2.2.2.1) hn).trans (h.2.2.2.2 g hg hn)⟩
theorem Only.bu (h:Only B w w'):Bu B w w':=⟨h.1,h.2.1,h.2.2.1,by rw[h.2.2.2.1];exact Nat.le_refl _,fun g _ hn=>h.2.2.2.2 g hn⟩
theorem Only.bun {B':Nat} {w0:World} (h:Only B' w w') (u:Bu B w0 w) (hB:w0.heap.size≤B'):Bu B w0 w':=⟨h.1.trans u.1,h.2.1.trans u.2.1,h.2.2.1.trans u.2.2.1,by rw[h.2.2.2.1];exact u.2.2.2.1,fun g hg hn=>(h.2.2.2.2 g (by omega)).trans (u.2.2.2.2 g hg hn)⟩
theorem Bu.below {base:Nat} {w0:World} (u:Bu B w w') (h:Below base w0 w) (hB:base≤B) (hs:base≤w0.heap.size):Below base w0 w' :=
 ⟨u.1.trans h.os,u.2.1.trans h.tape,u.2.2.1.trans h.output,Nat.le_trans h.size u.2.2.2.1,fun g hg=>(u.2.2.2.2 g (by have:=h.size;omega) (by omega)).trans (h.block g hg)⟩
theorem cell_lt {g j:Nat} {v:Value} (h:w.cell? ⟨g,j,none⟩=some v):g < w.heap.size:=by
 by_cases hg:g < w.heap.size
 ·exact hg
 ·exfalso
  have:w.heap[g]? = none:=Array.getElem?_eq_none (by omega)
  simp[World.cell?,this] at h
theorem Row8.bu {c:Nat} (p:StB T B a n c s b h w) (u:Bu B w w') (r:Row8 w x l k zs):Row8 w' x l k zs:=by
 refine ⟨r.1,r.2.1,r.2.2.1,r.2.2.2.1,fun hp=>?_⟩
 obtain ⟨g,d,e,hc⟩:=r.2.2.2.2 hp
 refine ⟨g,d,e,fun i hi=>?_⟩
 have h:=hc i hi
 have f:g≠B:=by
  rintro rfl
  exact p.no8 _ _ h
 rw[← h]
 exact World.cell?_of_block (u.2.2.2.2 g (cell_lt h) f)
theorem SgIn.bu {c:Nat} (p:StB T B a n c s b h w) (u:Bu B w w') {D:Nat} (q:SgIn D z x l k w):SgIn D z x l k w':=by
 refine (u.2.2.2.2 D q.lt ?_).trans q
 rintro rfl
 unfold StB stC at p
 unfold SgIn sgC at q
 rw[p] at q
 injection q with q
 injection q with q
 injection q with q
 injection q with q
 cases q
def ST (T:TypeId) (B:Nat) (hd:List Int) (s:Int) (b h:Bool) (w:World):Prop:=∃ a n c,StB T B a n c s b h w∧Row8 w a n c hd∧n≤100∧(0 < n→0 < B∧∃ off,a=some ⟨B - 1,off,none⟩)
theorem ST.kept {hd:List Int} (p:ST T B hd s b h w) (hb:Below w.heap.size w w'):ST T B hd s b h w':=by
 obtain ⟨a,n,c,d,e,f⟩:=p
 exact ⟨a,n,c,d.kept hb,e.below hb,f⟩
theorem ST.lt {hd:List Int} (p:ST T B hd s b h w):B < w.heap.size:=by
 obtain ⟨a,n,c,d,e,f⟩:=p
 exact d.lt
theorem ST.row {hd:List Int} (p:ST T B hd s b h w) (u:Bu B w w') (r:Row8 w x l k zs):Row8 w' x l k zs:=by
 obtain ⟨a,n,c,d,e,f⟩:=p
 exact r.bu d u
theorem ST.sg {hd:List Int} (p:ST T B hd s b h w) (u:Bu B w w') {D:Nat} (q:SgIn D z x l k w):SgIn D z x l k w':=by
 obtain ⟨a,n,c,d,e,f⟩:=p
 exact q.bu d u
theorem ST.other {T':TypeId} {B':Nat} {hd hd':List Int} {s':Int} {b' h':Bool} (p:ST T B hd s b h w) (u:Bu B w w') (q:ST T' B' hd' s' b' h' w) (hne:B'≠B):ST T' B' hd' s' b' h' w':=by
 obtain ⟨a,n,c,d,e,f⟩:=q
 exact ⟨a,n,c,(u.2.2.2.2 B' d.lt hne).trans d,p.row u e,f⟩
def md (n:Int):Int:=n % 4294967296
theorem md_in (n:Int):0≤md n∧md n < 4294967296:=by unfold md;omega
theorem wrap_any (n:Int) (w:World) (h0:-4294967296≤n) (h1:n≤1000000000000):Calls Tryz.prog 254 #[.int .i64 n] w fun e w'=>e=.returned (.int .i64 (md n))∧w'=w:=by
 have a:=ki (show (n+4294967296) % 4294967296=md n by unfold md;omega)
 go_enter Tryz.func254,Tryz.ntmps254
 go_wp2
 go_ret
 exact ⟨by rw[a.o];rfl,rfl⟩
def ah (a b:Int):Bool:=decide (1≤md (b - a)∧md (b - a) < 2147483648)
theorem ahead_any (a b:Int) (w:World) (a0:0≤a) (a1:a < 4294967296) (b0:0≤b) (b1:b < 4294967296):Calls Tryz.prog 219 #[.int .i64 a,.int .i64 b] w fun e w'=>e=.returned (.bool (ah a b))∧w'=w:=by
 have d:=ki (fun W=>wrap_any (b - a) W (by omega) (by omega))
 have f:=md_in (b - a)
 unfold ah
 generalize md (b - a)=m at d f ⊢
 by_cases h1:1≤m
 ·by_cases h2:m < 2147483648
  ·rw[decide_eq_true ⟨h1,h2⟩]
   go_enter Tryz.func219,Tryz.ntmps219
   go_wp2_with (go_at_call 254;refine (d.o _).mono ?_;rintro e w' ⟨rfl,rfl⟩)
   go_ret
   exact ⟨rfl,rfl⟩
  ·rw[decide_eq_false (fun h=>h2 h.2)]
   go_enter Tryz.func219,Tryz.ntmps219
   go_wp2_with (go_at_call 254;refine (d.o _).mono ?_;rintro e w' ⟨rfl,rfl⟩)
   go_ret
   exact ⟨by show Ending.returned (.bool (decide (m < 2147483648)))=_;rw[decide_eq_false (by omega)],rfl⟩
 ·rw[decide_eq_false (fun h=>h1 h.1)]
  go_enter Tryz.func219,Tryz.ntmps219
  go_wp2_with (go_at_call 254;refine (d.o _).mono ?_;rintro e w' ⟨rfl,rfl⟩)
  go_ret
  exact ⟨rfl,rfl⟩
def T2 (w:World) (z:List Int) (a:Option Addr) (len cap:Nat) (W:World):Prop:=SgIn w.heap.size z a len cap W∧SgIn (w.heap.size+1) [] none 0 0 W∧Below w.heap.size w W
theorem T2.kept {len:Nat} (t:T2 w z a len cap W) (hb:Below W.heap.size W W'):T2 w z a len cap W':=⟨t.1.kept hb,t.2.1.kept hb,bt t.2.2 hb⟩
theorem T2.start (w:World) (z:List Int) (a:Option Addr) (len cap:Nat):T2 w z a len cap ((w.alloc (.cells (sgC z a len cap) 39)).alloc (.cells zero7 39)):=by
 have e:=al_below w (.cells (sgC z a len cap) 39)
 have b:=al_below (w.alloc (.cells (sgC z a len cap) 39)) (.cells zero7 39)
 have d:=zero_new (w.alloc (.cells (sgC z a len cap) 39))
 rw[World.size_alloc] at d
 exact ⟨(sg_new w z a len cap).kept b,d,bt e b⟩
theorem T2.turn {len:Nat} (t:T2 w z a len cap W) {z':List Int} {a':Option Addr} {len' cap':Nat} (p:SgIn w.heap.size z' a' len' cap' W') (on:Only w.heap.size W W'):T2 w z' a' len' cap' W' :=
 ⟨p,on.sg t.2.1 (by omega),on.below t.2.2 (Nat.le_refl _)⟩
theorem T2.put {len:Nat} (t:T2 w z a len cap W) (on:Only (w.heap.size+1) W W'):Below w.heap.size w W':=on.below t.2.2 (Nat.le_succ _)
theorem SgIn.no8 {len:Nat} (p:SgIn B z a len cap w) (j:Nat) (x:Int):w.cell? ⟨B,j,none⟩≠some (.int .u8 x):=by
 rw[p.cellAt]
 by_cases h:j < 8
 ·rcases (by omega:j=0∨j=1∨j=2∨j=3∨j=4∨j=5∨j=6∨j=7) with rfl|rfl|rfl|rfl|rfl|rfl|rfl|rfl <;> intro h <;> cases h
 ·rw[Array.getElem?_eq_none (by show 8≤j;omega)];intro h;cases h
theorem Row8.past (p:SgIn B z x l k w) (on:Only B w w') {c:Nat} (r:Row8 w a n c zs):Row8 w' a n c zs:=by
 refine ⟨r.1,r.2.1,r.2.2.1,r.2.2.2.1,fun hp=>?_⟩
 obtain ⟨b,d,e,hc⟩:=r.2.2.2.2 hp
 refine ⟨b,d,e,fun i hi=>?_⟩
 have h:=hc i hi
 have f:b≠B:=by
  rintro rfl
  exact p.no8 _ _ h
 rw[← h]
 exact World.cell?_of_block (on.2.2.2.2 b f)
theorem own_any (z:List Int) (a:Option Addr) (len cap:Nat) (zs:List Int) (w:World) (hr:Row8 w a len cap zs) (hm:len≤1000000) :
  Calls Tryz.prog 206 #[.agg (sgC z a len cap)] w fun e w'=>∃ a' c',e=.returned (.agg (sgC z a' len c'))∧Row8 w' a' len c' zs∧Below w.heap.size w w':=by
 have b:=ki (T2.start w z a len cap)
 unfold zero7 at b
 have o:=ki (fun W (hb:Below w.heap.size w W)=>clone_any a len cap zs W (hr.below hb) hm)
 have p:=ki hr.1
 clear hr
 go_enter Tryz.func206,Tryz.ntmps206
 go_upto_region 1 with fail
 generalize (World.alloc _ _).alloc _=W0 at b ⊢
 have k:=b.o.1.c7
 go_upto_region 2 with (go_at_call 253;refine (o.o _ b.o.2.2).mono ?_;rintro e s ⟨t,rfl,l⟩;obtain ⟨h,c1,rfl,f,-⟩:=l.1.row8;rw[p.o] at f ⊢;replace b:=ki (b.o.kept l.2);clear k;have k:=b.o.1.c7;have q:=b.o.1.frz 7;have i:=b.o.1.set7 h len c1;have d:=ki (f.past b.o.1 i.2);replace b:=ki (b.o.turn i.1 i.2);clear l f i)
 clear k q
 generalize World.setCell _ _ _=W1 at b d ⊢
 go_wp2_with (first
  | (refine at_load rfl (.tmp 1) rfl rfl b.o.1 ?_)
  | (refine at_store rfl (.tmp 2) (.tmp 7) rfl rfl b.o.2.1 z h len c1 rfl ?_;intro v n g;have r:=ki (b.o.put g);replace d:=ki (d.o.past b.o.2.1 g);replace n:=ki n;clear g b))
 try simp only[Exit.inBlock,Exit.then]
 refine bodyPost_ret (sg_result rfl _ _ (w.heap.size+1) z h len c1 rfl n.o) rfl ?_
 exact ⟨h,c1,rfl,d.o,r.o⟩
def cf (z:List Int) (len:Nat):Int:=if sf z len=0∧el z 0≠6 then 2 else sf z len
theorem scheck_any (z:List Int) (a:Option Addr) (len cap:Nat) (w:World) (hm:len≤maxLen) :
  Calls Tryz.prog 203 #[.agg (sgC z a len cap)] w fun e w'=>e=.returned (ev (cf z len))∧Below w.heap.size w w':=by
 have g:=ki (fun W=>chk_any z a len cap W hm)
 have d:=ki (al_below w (.cells (sgC z a len cap) 39))
 have f:=ki (sg_new w z a len cap)
 obtain ⟨E,hE⟩:∃ E,E=ev (cf z len):=⟨_,rfl⟩
 rw[← hE]
 unfold cf at hE
 generalize sf z len=F at g hE
 by_cases hF:F=0
 ·subst hF
  rw[show ev 0=.nilIface from rfl] at g
  by_cases h6:el z 0=6
  ·have i:=ki (show E=.nilIface by rw[hE,if_neg (fun h=>h.2 h6)];rfl)
   have l:(el z 0 != 6)=false:=by rw[h6];rfl
   clear hE h6
   go_enter Tryz.func203,Tryz.ntmps203
   go_upto_region 1 with fail
   generalize w.alloc (.cells (sgC z a len cap) 39)=W at d f ⊢
   go_upto_region 4 with (first
    | (refine at_load rfl (.tmp 1) rfl rfl f.o ?_)
    | (go_at_call 207;refine (g.o _).mono ?_;rintro e k ⟨rfl,b⟩;replace d:=ki (bt d.o b);replace f:=ki (f.o.kept b);clear b))
   have n:=f.o.c0
   go_wp2
   go_ret
   exact ⟨by rw[i.o];rfl,d.o⟩
  ·have i:=ki (show E=err 2 by rw[hE,if_pos ⟨rfl,h6⟩];rfl)
   have l:(el z 0 != 6)=true:=by simpa using h6
   unfold err at i
   clear hE h6
   go_enter Tryz.func203,Tryz.ntmps203
   go_upto_region 1 with fail
   generalize w.alloc (.cells (sgC z a len cap) 39)=W at d f ⊢
   go_upto_region 4 with (first
    | (refine at_load rfl (.tmp 1) rfl rfl f.o ?_)
    | (go_at_call 207;refine (g.o _).mono ?_;rintro e k ⟨rfl,b⟩;replace d:=ki (bt d.o b);replace f:=ki (f.o.kept b);clear b))
   have n:=f.o.c0
   go_wp2
   go_ret
   exact ⟨by rw[i.o];rfl,d.o⟩
 ·have i:=ki (show E=err F by rw[hE,if_neg (fun h=>hF h.1)];exact if_neg hF)
  rw[show ev F=err F from if_neg hF] at g
  unfold err at i g
  clear hE hF
  go_enter Tryz.func203,Tryz.ntmps203
  go_upto_region 1 with fail
  generalize w.alloc (.cells (sgC z a len cap) 39)=W at d f ⊢
  go_wp2_with (first
   | (refine at_load rfl (.tmp 1) rfl rfl f.o ?_)
   | (go_at_call 207;refine (g.o _).mono ?_;rintro e k ⟨rfl,b⟩;replace d:=ki (bt d.o b);clear b))
  go_ret
  exact ⟨by rw[i.o];rfl,d.o⟩
theorem sooner_any (B:Nat) (x:Option Addr) (n c:Nat) (s:Int) (b h:Bool) (z:List Int) (a:Option Addr) (len cap:Nat) (zs:List Int) (w:World) (hS:StB 304 B x n c s b h w) (hn:n≤100) (hr:Row8 w a len cap zs) (h0:0≤el z 3) (h1:el z 3 < 4294967296) :
  Calls Tryz.prog 255 #[.pointer (some ⟨B,0,none⟩),.agg (sgC z a len cap)] w fun e w'=>e=.returned (.agg (sgC (zq z (md (el z 3 - n))) a len cap))∧Row8 w' a len cap zs∧Below w.heap.size w w':=by
 have d:=ki (T2.start w z a len cap)
 unfold zero7 at d
 have o:=ki (fun W=>wrap_any (el z 3 - n) W (by omega) (by omega))
 have q:=ki (fun W (hb:Below w.heap.size w W)=>hS.kept hb)
 have r:=ki (fun W (hb:Below w.heap.size w W)=>hr.below hb)
 clear hS hr
 have hw:IntKind.i64.wrap (el z 3 - (n:Int))=el z 3 - n:=by rw[IntKind.wrap_i64];omega
 generalize md (el z 3 - n)=M at o ⊢
 go_enter Tryz.func255,Tryz.ntmps255
 go_upto_region 1 with fail
 generalize (World.alloc _ _).alloc _=W0 at d ⊢
 have t:=d.o.1.c3
 have v:=(q.o _ d.o.2.2).c0
 have y:=d.o.1.frz 3
 have g:=d.o.1.set3 M
 have i:=ki (((r.o _ d.o.2.2).past d.o.1 g.2).below (Below.refl _ _).drew)
 replace d:=ki ((d.o.turn g.1 g.2).kept (Below.refl _ _).drew)
 clear g
 go_region_with (go_at_call 254;refine (o.o _).mono ?_;rintro e w' ⟨rfl,k⟩;rw[k];clear k w')
 all_goals
  clear t v y hw
  generalize World.drew _=W1 at d i ⊢
  go_wp2_with (first
   | (refine at_load rfl (.tmp 3) rfl rfl d.o.1 ?_)
   | (refine at_store rfl (.tmp 4) (.tmp 15) rfl rfl d.o.2.1 (zq z M) a len cap rfl ?_;intro C l f;have A:=ki (d.o.put f);have p:=ki (i.o.past d.o.2.1 f);replace l:=ki l;clear f d))
  try simp only[Exit.inBlock,Exit.then]
  refine bodyPost_ret (sg_result rfl _ _ (w.heap.size+1) (zq z M) a len cap rfl l.o) rfl ?_
  exact ⟨rfl,p.o,A.o⟩
end
section
variable {z:List Int} {B cap:Nat} {a:Option Addr} {W W' w:World}
def T3 (B:Nat) (w:World) (z:List Int) (a:Option Addr) (len cap:Nat) (W:World):Prop:=SgIn w.heap.size z a len cap W∧SgIn (w.heap.size+1) [] none 0 0 W∧Bu B w W
theorem T2.three {len:Nat} (t:T2 w z a len cap W):T3 B w z a len cap W:=⟨t.1,t.2.1,Bu.of t.2.2⟩
theorem T3.kept {len:Nat} (t:T3 B w z a len cap W) (hb:Below W.heap.size W W'):T3 B w z a len cap W':=⟨t.1.kept hb,t.2.1.kept hb,t.2.2.trans (Bu.of hb)⟩
theorem T3.turn {len:Nat} (t:T3 B w z a len cap W) {T:TypeId} {x:Option Addr} {n c:Nat} {s:Int} {b h:Bool} (p:StB T B x n c s b h W) (u:Bu B W W'):T3 B w z a len cap W':=⟨t.1.bu p u,t.2.1.bu p u,t.2.2.trans u⟩
theorem T3.put {len:Nat} (t:T3 B w z a len cap W) (on:Only (w.heap.size+1) W W'):Bu B w W':=on.bun t.2.2 (Nat.le_succ _)
def UQ (T:TypeId) (f:Int→Value) (B:Nat) (hd:List Int) (o:Int×List Int×List Int×Int×Bool×Bool) (w:World) (e:Ending) (w':World):Prop :=
 ∃ a l c,e=.returned (.tuple #[.agg (sgC o.2.1 a l c),f o.1])∧Row8 w' a l c o.2.2.1∧ST T B hd o.2.2.2.1 o.2.2.2.2.1 o.2.2.2.2.2 w'∧Bu B w w'
def hh (b h:Bool) (s t:Int):Bool:=b && decide (s=t) && h
def bgo (hd:List Int) (s:Int) (b h:Bool) (z zs:List Int):Int×List Int×List Int×Int×Bool×Bool :=
 if 0 < zs.length then (2,[],[],s,b,h) else (0,zq z (md (el z 3 - hd.length)),[],md (el z 3+1),true,hh b h s (md (el z 3+1)))
def fio (hd:List Int) (s:Int) (b h:Bool) (z zs:List Int):Int×List Int×List Int×Int×Bool×Bool :=
 if 300 < hd.length+zs.length then (3,[],[],s,b,h) else (0,zq z (md (el z 3 - hd.length)),hd++zs,s,b,h)
theorem new_ok (a:Option Addr) (len cap:Nat) (zs:List Int) (w:World) (h:len≤100) (hr:Row8 w a len cap zs):Calls Tryz.prog 202 #[.slice a len cap] w fun e w'=>∃ B,e=.returned (.tuple #[.pointer (some ⟨B,0,none⟩),.nilIface])∧ST 304 B zs 0 false false w'∧w.heap.size≤B∧Below w.heap.size w w':=by
 have p:=ki hr.1
 by_cases hp:0 < len
 ·obtain ⟨ad,rfl⟩:∃ ad,a=some ad:=by obtain ⟨b,o,e,_⟩:=hr.2.2.2.2 hp;exact ⟨_,e⟩
  have k:=ki (clone_last ad len cap zs w hr hp (by omega))
  clear hr
  go_enter Tryz.func202,Tryz.ntmps202
  go_wp2_with (go_at_call 253;refine k.o.mono ?_;rintro e g ⟨c0,rfl,q,f⟩;obtain ⟨r,c1,l,d,-⟩:=f.1.row8;injection l with l e2 e3;clear e2;subst l e3;rw[p.o] at d;have n:=ki d;have i:=ki f.2;have s:=ki q;clear d f q)
  go_ret2
  exact ⟨g.heap.size,rfl,⟨_,len,_,heap_alloc_new g _,n.o.below (al_below _ _),h,fun _=>⟨s.o,0,rfl⟩⟩,i.o.size,bt i.o (al_below _ _)⟩
 ·have k:=ki (clone_any a len cap zs w hr (by omega))
  clear hr
  go_enter Tryz.func202,Tryz.ntmps202
  go_wp2_with (go_at_call 253;refine k.o.mono ?_;rintro e g ⟨t,rfl,f⟩;obtain ⟨r,c1,rfl,d,-⟩:=f.1.row8;rw[p.o] at d ⊢;have n:=ki d;have i:=ki f.2;clear d f)
  go_ret2
  exact ⟨g.heap.size,rfl,⟨r,len,c1,heap_alloc_new g _,n.o.below (al_below _ _),h,fun h1=>absurd h1 hp⟩,i.o.size,bt i.o (al_below _ _)⟩
theorem begin_any (B:Nat) (hd:List Int) (s:Int) (b h:Bool) (z:List Int) (a:Option Addr) (len cap:Nat) (zs:List Int) (w:World) (hS:ST 304 B hd s b h w) (hhb:h=true→b=true) (hr:Row8 w a len cap zs) (hm:len≤300) (h0:0≤el z 3) (h1:el z 3 < 4294967296) :
  Calls Tryz.prog 204 #[.pointer (some ⟨B,0,none⟩),.agg (sgC z a len cap)] w (UQ 304 ev B hd (bgo hd s b h z zs) w):=by
 have f:=ki (T2.start w z a len cap)
 unfold zero7 at f
 obtain ⟨x,n,c,p,o,hn⟩:=hS
 have y:=hr.1
 have A:=o.1
 by_cases hl:0 < len
 ·have k:=ki (show bgo hd s b h z zs=(2,[],[],s,b,h) from if_pos (by omega))
  generalize bgo hd s b h z zs=O at k ⊢
  have I:=ki (fun W (hb:Below w.heap.size w W)=>show ST 304 B hd s b h W from ⟨x,n,c,p.kept hb,o.below hb,hn⟩)
  clear p o hr y A hhb
  go_enter Tryz.func204,Tryz.ntmps204
  go_upto_region 1 with fail
  generalize (World.alloc _ _).alloc _=W0 at f ⊢
  have T:=f.o.1.c7
  go_wp2_with (refine at_store rfl (.tmp 4) (.tmp 11) rfl rfl f.o.2.1 [] none 0 0 rfl ?_;intro U q i;have X:=ki (f.o.put i);replace q:=ki q;clear i f)
  try simp only[Exit.inBlock,Exit.then]
  refine bodyPost_ret (results_sg rfl _ _ (w.heap.size+1) [] none 0 0 rfl q.o) rfl ?_
  rw[k.o]
  exact ⟨none,0,0,rfl,row_no _,I.o _ X.o,Bu.of X.o⟩
 ·obtain rfl:len=0:=by omega
  obtain rfl:zs=[]:=List.eq_nil_of_length_eq_zero y
  have k:=ki (show bgo hd s b h z []=(0,zq z (md (el z 3 - n)),[],md (el z 3+1),true,hh b h s (md (el z 3+1))) by rw[show bgo hd s b h z []=_ from if_neg (by simp),A])
  generalize bgo hd s b h z []=O at k ⊢
  have K:=ki (fun W=>wrap_any (el z 3+1) W (by omega) (by omega))
  have Y:=md_in (el z 3+1)
  generalize md (el z 3+1)=t at K k Y
  have I:=ki (fun W (hb:Below w.heap.size w W)=>p.kept hb)
  have Z:=ki (fun W (hb:Below w.heap.size w W)=>hr.below hb)
  have HD:=ki (fun W (hb:Below w.heap.size w W)=>o.below hb)
  have HX:=ki (fun W (hb:Row8 W a 0 cap [])=>own_any z a 0 cap [] W hb (by omega))
  have HQ:=ki (fun W s b h a cap (h1:StB 304 B x n c s b h W) (h2:Row8 W a 0 cap [])=>sooner_any B x n c s b h z a 0 cap [] W h1 hn.1 h2 (by omega) (by omega))
  generalize md (el z 3 - n)=M at k HQ
  have ac:=ki p.lt
  clear p hr o y A
  go_enter Tryz.func204,Tryz.ntmps204
  go_upto_region 1 with fail
  generalize (World.alloc _ _).alloc _=W0 at f ⊢
  have T:=f.o.1.c7
  have l3:=f.o.1.c3
  go_upto_region 4 with (go_at_call 254;refine (K.o _).mono ?_;rintro e w' ⟨rfl,rfl⟩)
  clear T l3 K
  have P:=ki (I.o _ f.o.2.2)
  have R:=ki (Z.o _ f.o.2.2)
  have D:=ki (HD.o _ f.o.2.2)
  have V:=ki (f.o.three (B:=B))
  clear f I Z HD
  have L:=P.o.c1
  have N:=P.o.c2
  cases b
  case' false =>
   have ad:h=false:=by cases h with|false=>rfl|true=>exact absurd (hhb rfl) (by decide)
   subst ad
   rw[show hh false false s t=false from rfl] at k
   go_upto_region 6 with fail
  case' true =>
   by_cases hst:s=t
   case' pos =>
    rw[show hh true h s t=h by rw[hst];simp[hh]] at k
    have Q:(s != t)=false:=by rw[hst];simp
    clear hst
    go_upto_region 6 with fail
    clear Q
   case' neg =>
    rw[show hh true h s t=false by simp[hh,hst]] at k
    have Q:(s != t)=true:=by simpa using hst
    clear hst
    have k3:=P.o.c3
    have f3:=P.o.frz 3
    go_upto_region 6 with fail
    have C:=P.o.set3 false
    replace V:=ki (V.o.turn P.o C.2.bu)
    replace R:=ki (R.o.bu P.o C.2.bu)
    replace D:=ki (D.o.bu P.o C.2.bu)
    replace P:=ki C.1
    clear Q k3 f3 C
    generalize World.setCell _ _ _=W1 at V R D P ⊢
  all_goals
   clear L N hhb
   have L:=P.o.c1
   have N:=P.o.c2
   have f2:=P.o.frz 2
   have E:=P.o.set2 true
   have g:=ki (V.o.turn P.o E.2.bu)
   have F:=ki (R.o.bu P.o E.2.bu)
   have l:=ki (D.o.bu P.o E.2.bu)
   have d:=ki E.1
   have ae:=d.o.c1
   have f1:=d.o.frz 1
   have G:=d.o.set1 t
   replace g:=ki (g.o.turn d.o G.2.bu)
   replace F:=ki (F.o.bu d.o G.2.bu)
   replace l:=ki (l.o.bu d.o G.2.bu)
   replace d:=ki G.1
   clear E G V R D P
   go_upto_region 7 with fail
   clear L N f2 ae f1
   generalize World.setCell _ _ _=W2 at g F l d ⊢
   go_wp2_with (first
    | (refine at_load rfl (.tmp 3) rfl rfl g.o.1 ?_)
    | (go_at_call 206;refine (HX.o _ F.o).mono ?_;rintro e w3 ⟨S,c3,rfl,J,r⟩;replace g:=ki (g.o.kept r);replace l:=ki (l.o.below r);replace d:=ki (d.o.kept r);replace J:=ki J;clear r F)
    | (go_at_call 255;refine (HQ.o _ _ _ _ _ _ d.o J.o).mono ?_;rintro e w4 ⟨rfl,H,v⟩;replace g:=ki (g.o.kept v);replace l:=ki (l.o.below v);replace d:=ki (d.o.kept v);replace H:=ki H;clear v J)
    | (refine at_store rfl (.tmp 4) (.tmp 42) rfl rfl g.o.2.1 (zq z M) S 0 c3 rfl ?_;intro U q i;have HU:=ki (g.o.put i);replace H:=ki (H.o.past g.o.2.1 i);replace l:=ki (l.o.past g.o.2.1 i);replace d:=ki (show StB _ _ _ _ _ _ _ _ U from (i.2.2.2.2 B (by have:=ac.o;omega)).trans d.o);replace q:=ki q;clear i g))
   try simp only[Exit.inBlock,Exit.then]
   refine bodyPost_ret (results_sg rfl _ _ (w.heap.size+1) (zq z M) S 0 c3 rfl q.o) rfl ?_
   rw[k.o]
   exact ⟨S,0,c3,rfl,H.o,⟨x,n,c,d.o,l.o,hn⟩,HU.o⟩
end
section
theorem two_new (w:World) (v1 v2:Value):Two w.heap.size v1 v2 (w.alloc (.cells #[v1,v2] 37)).drew:=heap_alloc_new w _
theorem first_any (B:Nat) (hd:List Int) (s:Int) (b h:Bool) (z:List Int) (a:Option Addr) (len cap:Nat) (zs:List Int) (w:World) (hS:ST 304 B hd s b h w) (hr:Row8 w a len cap zs) (hm:len≤300) (h0:0≤el z 3) (h1:el z 3 < 4294967296) :
  Calls Tryz.prog 205 #[.pointer (some ⟨B,0,none⟩),.agg (sgC z a len cap)] w (UQ 304 ev B hd (fio hd s b h z zs) w):=by
 have d:=ki (T2.start w z a len cap)
 unfold zero7 at d
 have D:=ki (fun W (hb:Below w.heap.size w W)=>hS.kept hb)
 obtain ⟨x,n,c,p,f,hn⟩:=hS
 have E:=hr.1
 have k:=f.1
 have v:=ki (fun W (hb:Below w.heap.size w W)=>p.kept hb)
 have T:=ki (fun W (hb:Below w.heap.size w W)=>hr.below hb)
 have U:=ki (fun W (hb:Below w.heap.size w W)=>f.below hb)
 have X:IntKind.i64.wrap ((n:Int)+(len:Int))=(n:Int)+len:=by rw[IntKind.wrap_i64];omega
 by_cases hl:300 < n+len
 ·have g:=ki (show fio hd s b h z zs=(3,[],[],s,b,h) from if_pos (by omega))
  generalize fio hd s b h z zs=O at g ⊢
  have L:(300:Int) < (n:Int)+len:=by omega
  clear p f hr E k hl
  go_enter Tryz.func205,Tryz.ntmps205
  go_upto_region 1 with fail
  generalize (World.alloc _ _).alloc _=W0 at d ⊢
  have i:=d.o.1.c7
  have y:=(v.o _ d.o.2.2).c0
  replace d:=ki (d.o.kept (Below.refl _ _).drew)
  go_quiet (fail)
  go_wp2_with (refine at_store rfl (.tmp 4) (.tmp 16) rfl rfl d.o.2.1 [] none 0 0 rfl ?_;intro Y I F;have l:=ki (d.o.put F);replace I:=ki I;clear F d)
  try simp only[Exit.inBlock,Exit.then]
  refine bodyPost_ret (results_sg rfl _ _ (w.heap.size+1) [] none 0 0 rfl I.o) rfl ?_
  rw[g.o]
  exact ⟨none,0,0,rfl,row_no _,D.o _ l.o,Bu.of l.o⟩
 ·have g:=ki (show fio hd s b h z zs=(0,zq z (md (el z 3 - n)),hd++zs,s,b,h) by rw[show fio hd s b h z zs=_ from if_neg (by omega),k])
  generalize fio hd s b h z zs=O at g ⊢
  have N:=ki (fun W V (h1:Two V (.slice x n c) (.slice a len cap) W) (h2:Row8 W x n c hd) (h3:Row8 W a len cap zs)=>concat_any V x a n len c cap hd zs W h1 h2 h3 (by omega) (by omega))
  have Q:=ki (fun W s b h a len cap zs (h1:StB 304 B x n c s b h W) (h2:Row8 W a len cap zs)=>sooner_any B x n c s b h z a len cap zs W h1 hn.1 h2 (by omega) (by omega))
  have Z:=ki (show (hd++zs).length=n+len by rw[List.length_append];omega)
  generalize md (el z 3 - n)=M at g Q
  have L:¬ (300:Int) < (n:Int)+len:=by omega
  clear p f hr E k hl
  go_enter Tryz.func205,Tryz.ntmps205
  go_upto_region 1 with fail
  generalize (World.alloc _ _).alloc _=W0 at d ⊢
  have i:=d.o.1.c7
  have y:=(v.o _ d.o.2.2).c0
  have G:=ki (fun n=>d.o.kept (W':=W0.drewN n) ⟨rfl,rfl,rfl,Nat.le_refl _,fun _ _=>rfl⟩)
  clear d
  go_quiet (fail)
  generalize hW:World.drewN _ _=W1
  have d:Hid (T2 w z a len cap W1):=by rw[← hW];exact G.o _
  clear hW G i y X L
  go_upto_region 3 with fail
  have i:=d.o.1.c7
  have y:=(v.o _ d.o.2.2).c0
  have R:=(al_below W1 (.cells #[.slice x n c,.slice a len cap] 37)).drew
  replace d:=ki (d.o.kept R)
  clear R
  have S:=ki (N.o _ _ (two_new W1 (.slice x n c) (.slice a len cap)) (U.o _ d.o.2.2) (T.o _ d.o.2.2))
  clear N
  go_region_with (go_at_call 256;refine S.o.mono ?_;rintro e w3 ⟨v3,rfl,J⟩;obtain ⟨A,c3,rfl,o,-⟩:=J.1.row8;rw[Z.o] at o ⊢;replace d:=ki (d.o.kept J.2);clear i;have i:=d.o.1.c7;have f7:=d.o.1.frz 7;have C:=d.o.1.set7 A (n+len) c3;have q:=ki (o.past d.o.1 C.2);replace d:=ki (d.o.turn C.1 C.2);clear J o C S)
  all_goals
   clear i f7 y
   generalize World.setCell _ _ _=W4 at d q ⊢
   have P:=ki (v.o _ d.o.2.2)
   go_wp2_with (first
    | (refine at_load rfl (.tmp 3) rfl rfl d.o.1 ?_)
    | (go_at_call 255;refine (Q.o _ _ _ _ _ _ _ _ P.o q.o).mono ?_;rintro e Y ⟨rfl,r,H⟩;replace d:=ki (d.o.kept H);replace r:=ki r;clear H q P)
    | (refine at_store rfl (.tmp 4) (.tmp 29) rfl rfl d.o.2.1 (zq z M) A (n+len) c3 rfl ?_;intro w6 K t;have l:=ki (d.o.put t);replace r:=ki (r.o.past d.o.2.1 t);replace K:=ki K;clear t d))
   try simp only[Exit.inBlock,Exit.then]
   refine bodyPost_ret (results_sg rfl _ _ (w.heap.size+1) (zq z M) A (n+len) c3 rfl K.o) rfl ?_
   rw[g.o]
   exact ⟨A,n+len,c3,rfl,r.o,D.o _ l.o,Bu.of l.o⟩
end
end Go.Proofs.YtgcojnlngchllaaGreatDoor
