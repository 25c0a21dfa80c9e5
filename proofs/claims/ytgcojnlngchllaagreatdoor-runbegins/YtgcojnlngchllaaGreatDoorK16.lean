/- Out by contracts. What Into and Out reckon, in numbers: the four's bytes stand where the document says, and come out again. -/
import Derived.Test.YtgcojnlngchllaaGreatDoorK15
namespace Go.Proofs.YtgcojnlngchllaaGreatDoor
open Go.RowKit
set_option linter.unusedVariables false
set_option maxRecDepth 100000
set_option maxHeartbeats 40000000
namespace Em
open Go.RowKit Go.Shelf
attribute [local go_sem] Oper.semAt_some
def otp (z:List Int) (q:Nat) (acc:Int) (i:Fin 4):Int:=bits .or .i64 (IntKind.i64.wrap (acc*256)) (byt z (pos q i.val))
def acc (z:List Int) (q:Nat) (pre:List (Fin 4)):Int:=pre.foldl (otp z q) 0
def eo (q:Nat) (pre:List (Fin 4)):Int:=pre.foldl (fun _ i=>(pos q i.val:Int)+1) 0
theorem acc_snoc (z:List Int) (q:Nat) (pre:List (Fin 4)) (i:Fin 4):acc z q (pre++[i])=otp z q (acc z q pre) i:=by simp[acc]
theorem eo_snoc (q:Nat) (pre:List (Fin 4)) (i:Fin 4):eo q (pre++[i])=(pos q i.val:Int)+1:=by simp[eo]
theorem shape_no (z:List Int) (q:Nat) (h8:byt z 8=0) (hall:∀ j,j < 16 - q→byt z (q+j)=0):shp z q=false:=by
 cases e:shp z q
 ·rfl
 ·unfold shp at e
  rw[List.any_eq_true] at e
  obtain ⟨i,a,hb⟩:=e
  rw[List.mem_range] at a
  simp only[Bool.and_eq_true,Bool.or_eq_true,beq_iff_eq,decide_eq_true_eq,bne_iff_ne,ne_eq] at hb
  rcases hb with ⟨rfl|hqi,hb⟩
  ·exact absurd h8 hb
  ·have:=hall (i - q) (by omega)
   rw[show q+(i - q)=i by omega] at this
   exact absurd this hb
theorem shape_yes (z:List Int) (q:Nat) (hq:q≤16) (hall:¬ ∀ j,j < 16 - q→byt z (q+j)=0):shp z q=true:=by
 cases e:shp z q
 ·exact absurd (fun j hj=>shp_no e (q+j) (by omega) (.inr (by omega))) hall
 ·rfl
theorem bys_own {β:Type} (z:List Int) (g:Nat):Own (fun (_:β) W=>Bys z g W):=fun _ _ _ _ hs hg hr i hi=>cell_kept (hs i hi) hg hr
theorem out_head (v:Value) (z:List Int) (q g:Nat) (w1:World) (hg:g < w1.heap.size) (hy:Bys z g w1):∃ W0,W0=(((w1.alloc (.cells #[v] 37)).alloc (.cells #[.int .i64 0] 3)).alloc (.cells #[.int .i64 0] 3)).alloc (.cells #[.int .i64 (8*q)] 3)∧Boxed W0 w1.heap.size 37 v∧Boxed W0 (w1.heap.size+1) 3 (.int .i64 (acc z q []))∧Boxed W0 (w1.heap.size+1+1) 3 (.int .i64 (eo q []))∧Boxed W0 (w1.heap.size+1+1+1) 3 (.int .i64 (8*q))∧Bys z g W0∧Below w1.heap.size w1 W0∧W0.heap.size=w1.heap.size+4:=by
 have d:=((Boxed.new w1 37 v).alloc (.cells #[.int .i64 0] 3)).alloc (.cells #[.int .i64 0] 3)
 have a:=(Boxed.new (w1.alloc (.cells #[v] 37)) 3 (.int .i64 0)).alloc (.cells #[.int .i64 0] 3)
 have b:=Boxed.new ((w1.alloc (.cells #[v] 37)).alloc (.cells #[.int .i64 0] 3)) 3 (.int .i64 0)
 have b4:=Boxed.new (((w1.alloc (.cells #[v] 37)).alloc (.cells #[.int .i64 0] 3)).alloc (.cells #[.int .i64 0] 3)) 3 (.int .i64 (8*q))
 have hb:Below w1.heap.size w1 ((((w1.alloc (.cells #[v] 37)).alloc (.cells #[.int .i64 0] 3)).alloc (.cells #[.int .i64 0] 3)).alloc (.cells #[.int .i64 (8*q)] 3)):=((((Below.refl _ _).alloc (Nat.le_refl _) _).alloc (by simp) _).alloc (by simp;omega) _).alloc (by simp;omega) _
 simp only[World.size_alloc] at a b b4
 exact ⟨_,rfl,d.alloc _,a.alloc _,b.alloc _,b4,fun i hi=>(hb.cell (p:=⟨g,i,none⟩) hg).trans (hy i hi),hb,by simp⟩
theorem out_long (z:List Int) (q:Nat) (w:World) (h:Ok6 z) (hn:LongP (8*q)) :
  Calls Tryz.prog 142 #[six z,.int .i64 (8*q)] w fun e w'=>e=.returned (if shp z (pos q 3+1) then .tuple #[.int .i64 0,.iface 28 (.int .i64 2)] else .tuple #[.int .i64 (acc z q four4),.nilIface])∧Below w.heap.size w w':=by
 have hC:=fun w=>bytes_ok z w h
 have S:q≤12:=by unfold LongP at hn;omega
 have HN:=ki hn
 have J:=ki h
 clear hn h
 obtain ⟨R,d⟩:∃ R,R=(if shp z (pos q 3+1) then Value.tuple #[.int .i64 0,.iface 28 (.int .i64 2)] else .tuple #[.int .i64 (acc z q four4),.nilIface]):=⟨_,rfl⟩
 rw[← d]
 have r:=ki d
 clear d
 unfold six at hC ⊢
 refine (callsIn_wide (n:=3)).1 ?_
 refine callsIn_of_wp_marks Tryz.func142 rfl trivial ?_ rfl
 simp only[Tryz.ntmps142,List.size_toArray,List.length_cons,List.length_nil,Nat.reduceAdd,Nat.reduceSub,Array.replicate_succ,Array.replicate_zero,List.push_toArray,List.append_toArray,List.nil_append,List.cons_append]
 gi_wp2_with (first
  | (refine ⟨trivial,?_⟩;gi_at_call 126;refine (callsIn_wide.2 (hC _)).mono ?_;rintro e a ⟨v,rfl,ho,L⟩;obtain ⟨g,f,rfl,av,X,hg,s⟩:=own_bys ho;have HB:=ki s;clear s ho;simp only[World.size_alloc] at X;have Y:=bt ((Below.refl w.heap.size w).alloc (Nat.le_refl _) _) L;clear L)
  | (refine ⟨trivial,?_⟩;gi_at_call 127;refine (callsIn_wide.2 (known_yes _ _ HN.out)).mono ?_;rintro e w2 ⟨rfl,rfl⟩)
  | (refine ⟨trivial,?_⟩;gi_at_call 198;refine (callsIn_wide.2 (places_any _ _)).mono ?_;rintro e w3 ⟨rfl,rfl⟩))
 have ay:w.heap.size≤a.heap.size:=Y.size
 obtain ⟨W0,Z,b1,b2,b3,b4,hy,M,N⟩:=out_head (.slice (some ⟨g,0,none⟩) 16 f) z q g a hg HB.out
 rw[← Z]
 clear Z
 have B:=bt Y M
 clear hC HB
 refine wpIn_rangeFunc_ownF rfl (by omega) (gf:=249) (lb:=#[.pointer (some ⟨a.heap.size+1+1+1,0,none⟩)]) rfl trivial (enters_of Tryz.func249 (by kernel_rfl) rfl)
  (places_stops _ (by omega) (a.heap.size+1+1+1) w.heap.size q S _ b4.lt b4.cell) belowK_t (belowK_b (by rw[N];omega)) (Below.refl _ _) (fun _=>rfl)
  (fun pre W=>(Boxed W a.heap.size 37 (.slice (some ⟨g,0,none⟩) 16 f)∧Boxed W (a.heap.size+1) 3 (.int .i64 (acc z q pre))∧Boxed W (a.heap.size+1+1) 3 (.int .i64 (eo q pre))∧Bys z g W)∧Below w.heap.size w W)
  (fun _ _ _=>False)
  (OwnFrom.and (OwnFrom.and (Own.from (boxed_own _ _ _) _) (OwnFrom.and (Own.from (boxed_own _ _ _) _) (OwnFrom.and (Own.from (boxed_own _ _ _) _) (Own.from (bys_own _ _) _)))) (ownFrom_below (Nat.le_refl _) (by rw[N];omega)))
  (fun _ _ _ _ _ hs _ _=>hs)
  ⟨⟨b1,b2,b3,hy⟩,B⟩
  (fun x=>{ tmps:=#[.agg #[.int .i64 (el z 0),.int .i64 (el z 1),.int .i64 (el z 2),.int .i64 (el z 3),.int .i64 (el z 4),.int .i64 (el z 5),.int .i64 (el z 6),.int .i64 (el z 7)],.int .i64 (8*q),.pointer (some ⟨w.heap.size,0,none⟩),undef,.int .i64 0,.nilIface,.pointer (some ⟨a.heap.size,0,none⟩),.nilIface,.pointer (some ⟨a.heap.size+1,0,none⟩),.pointer (some ⟨a.heap.size+1+1,0,none⟩),undef,.int .i64 (pos q x.val:Int),.tuple #[.slice (some ⟨g,0,none⟩) 16 f,.nilIface],.agg #[.int .i64 (el z 0),.int .i64 (el z 1),.int .i64 (el z 2),.int .i64 (el z 3),.int .i64 (el z 4),.int .i64 (el z 5),.int .i64 (el z 6),.int .i64 (el z 7)],.tuple #[.slice (some ⟨g,0,none⟩) 16 f,.nilIface],.slice (some ⟨g,0,none⟩) 16 f,.nilIface,.nilIface,.bool false,undef,.int .i64 (8*q),.bool true,.bool false,undef,.int .i64 (8*q),.func (.func 249) #[] #[.pointer (some ⟨a.heap.size+1+1+1,0,none⟩)],.int .i64 (x.val:Int),.int .i64 (pos q x.val:Int),undef,undef,undef,undef,undef,undef,undef,undef,undef,undef,undef,undef,undef,undef,undef,undef,undef,undef,undef,undef,undef,undef,undef],defers:=[] }) ?assign ?body ?done ?stop
 case assign =>
  intro l x W K hK
  dsimp only[encP]
  gi_wp2
  exact hK
 case body =>
  rintro l pre ⟨i,O⟩ W ⟨⟨hb,C,G,k⟩,s⟩ -
  clear b1 b2 b3 b4 hy M B
  have hP:=pos_lt S O
  have cb:=hb.cell
  have cf:=C.cell
  have ff:=C.frozen
  have T:=G.cell
  have fe:=G.frozen
  have cy:=k (pos q i) hP
  have aa:=byt_in z J.out (pos q i) hP
  have o:=ki (acc_snoc z q pre ⟨i,O⟩)
  have U:=ki (eo_snoc q pre ⟨i,O⟩)
  unfold otp at o
  dsimp only at o U ⊢
  generalize byt z (pos q i)=b at cy aa o
  generalize pos q i=P at hP cy U
  generalize acc z q pre=A at cf o
  generalize eo q pre=E at T
  obtain ⟨az,L⟩:=aa
  have a0:(P:Int) < 16:=by omega
  have gb:IntKind.i64.wrap b=b:=by rw[IntKind.wrap_i64];omega
  have a1:Tryz.prog.follows .mixedOrders=true:=by kernel_rfl
  have H:=ki (show KeepsOthers W ((W.setCell ⟨a.heap.size+1,0,none⟩ (.int .i64 (bits .or .i64 (IntKind.i64.wrap (A*256)) b))).setCell ⟨a.heap.size+1+1,0,none⟩ (.int .i64 ((P:Int)+1))).drew∧Below w.heap.size W ((W.setCell ⟨a.heap.size+1,0,none⟩ (.int .i64 (bits .or .i64 (IntKind.i64.wrap (A*256)) b))).setCell ⟨a.heap.size+1+1,0,none⟩ (.int .i64 ((P:Int)+1))).drew∧(Boxed ((W.setCell ⟨a.heap.size+1,0,none⟩ (.int .i64 (bits .or .i64 (IntKind.i64.wrap (A*256)) b))).setCell ⟨a.heap.size+1+1,0,none⟩ (.int .i64 ((P:Int)+1))).drew a.heap.size 37 (.slice (some ⟨g,0,none⟩) 16 f)∧Boxed ((W.setCell ⟨a.heap.size+1,0,none⟩ (.int .i64 (bits .or .i64 (IntKind.i64.wrap (A*256)) b))).setCell ⟨a.heap.size+1+1,0,none⟩ (.int .i64 ((P:Int)+1))).drew (a.heap.size+1) 3 (.int .i64 (acc z q (pre++[⟨i,O⟩])))∧Boxed ((W.setCell ⟨a.heap.size+1,0,none⟩ (.int .i64 (bits .or .i64 (IntKind.i64.wrap (A*256)) b))).setCell ⟨a.heap.size+1+1,0,none⟩ (.int .i64 ((P:Int)+1))).drew (a.heap.size+1+1) 3 (.int .i64 (eo q (pre++[⟨i,O⟩])))∧Bys z g ((W.setCell ⟨a.heap.size+1,0,none⟩ (.int .i64 (bits .or .i64 (IntKind.i64.wrap (A*256)) b))).setCell ⟨a.heap.size+1+1,0,none⟩ (.int .i64 ((P:Int)+1))).drew)∧Below w.heap.size w ((W.setCell ⟨a.heap.size+1,0,none⟩ (.int .i64 (bits .or .i64 (IntKind.i64.wrap (A*256)) b))).setCell ⟨a.heap.size+1+1,0,none⟩ (.int .i64 ((P:Int)+1))).drew from by
   rw[o.out,U.out]
   refine ⟨((KeepsOthers.setCell _ _ _).trans (KeepsOthers.setCell _ _ _)).trans (KeepsOthers.drew _),(((Below.refl w.heap.size W).setCell (by show w.heap.size≤a.heap.size+1;omega) _).setCell (by show w.heap.size≤a.heap.size+1+1;omega) _).drew,⟨?_,?_,?_,?_⟩,((s.setCell (by show w.heap.size≤a.heap.size+1;omega) _).setCell (by show w.heap.size≤a.heap.size+1+1;omega) _).drew⟩
   ·exact (Below.heap_setCell _ _ _ _ (by show a.heap.size≠a.heap.size+1+1;omega)).trans ((Below.heap_setCell _ _ _ _ (by show a.heap.size≠a.heap.size+1;omega)).trans hb)
   ·exact (Below.heap_setCell _ _ _ _ (by show a.heap.size+1≠a.heap.size+1+1;omega)).trans (C.set _)
   ·exact Boxed.set _ ((Below.heap_setCell _ _ _ _ (by show a.heap.size+1+1≠a.heap.size+1;omega)).trans G)
   ·intro j hj
    have am:((W.setCell ⟨a.heap.size+1,0,none⟩ (.int .i64 (bits .or .i64 (IntKind.i64.wrap (A*256)) b))).setCell ⟨a.heap.size+1+1,0,none⟩ (.int .i64 ((P:Int)+1))).heap[g]? = W.heap[g]?:=(Below.heap_setCell _ _ _ _ (by show g≠a.heap.size+1+1;omega)).trans (Below.heap_setCell _ _ _ _ (by show g≠a.heap.size+1;omega))
    have hc:=k j hj
    unfold World.cell? at hc ⊢
    show (match ((W.setCell ⟨a.heap.size+1,0,none⟩ (.int .i64 (bits .or .i64 (IntKind.i64.wrap (A*256)) b))).setCell ⟨a.heap.size+1+1,0,none⟩ (.int .i64 ((P:Int)+1))).heap[g]? with|some (.cells cs _ _)=>cs[j]? | _=>none)=_
    rw[am]
    exact hc)
  clear hb C G k s J HN o U
  gi_wp2
  refine wpIn_region_any (by assumption) ?_
  refine anyIn_out (F:=Fence.wide) (noDefer_spec (by kernel_rfl)) _ _ _ _ ?_
  change wpAnyIn _ _ _ _ _ _ _ _ _ (World.drew _)
  refine wpAnyIn_take (i:=3) (v:=?_) rfl rfl (by kernel_rfl) (by kernel_rfl) (by kernel_rfl) (fun _ _ _ h=>h) ⟨Or.inl ⟨by rfl,?_⟩,fun _=>rfl⟩ ?_
  rotate_left 1
  ·intro w;go_simp;try with_reducible rfl
  refine wpAnyIn_ready (rs:=[0,2]) (by kernel_rfl) (by simp) ?_
  refine AllReadyIn.cons rfl (fun K hK=>?_) (AllReadyIn.cons rfl (fun K hK=>?_) AllReadyIn.nil)
  ·go_simp
   refine hK _ _ ?_
   clear hK K
   refine wpAnyIn_take (i:=1) (v:=?_) rfl rfl (by kernel_rfl) (by kernel_rfl) (by kernel_rfl) (fun _ _ _ h=>h) ⟨Or.inl ⟨by rfl,?_⟩,fun _=>rfl⟩ ?_
   rotate_left 1
   ·intro w;go_simp;try with_reducible rfl
   refine wpAnyIn_ready (rs:=[2]) (by kernel_rfl) (by simp) ?_
   refine AllReadyIn.cons rfl (fun K hK=>?_) AllReadyIn.nil
   go_simp
   refine hK _ _ ?_
   clear hK K
   refine wpAnyIn_take (i:=4) (v:=?_) rfl rfl (by kernel_rfl) (by kernel_rfl) (by kernel_rfl) (fun _ _ _ h=>h) ⟨Or.inl ⟨by rfl,?_⟩,fun _=>rfl⟩ ?_
   rotate_left 1
   ·intro w;go_simp;try with_reducible rfl
   refine wpAnyIn_ready (rs:=[5]) (by kernel_rfl) (by simp) ?_
   refine AllReadyIn.cons rfl (fun K hK=>?_) AllReadyIn.nil
   go_simp
   refine hK _ _ ?_
   clear hK K
   refine wpAnyIn_take (i:=6) (v:=?_) rfl rfl (by kernel_rfl) (by kernel_rfl) (by kernel_rfl) (fun _ _ _ h=>h) ⟨Or.inl ⟨by rfl,?_⟩,fun _=>rfl⟩ ?_
   rotate_left 1
   ·intro w;go_simp;try with_reducible rfl
   refine wpAnyIn_take (i:=7) (v:=?_) rfl rfl (by kernel_rfl) (by kernel_rfl) (by kernel_rfl) (fun _ _ _ h=>h) ⟨Or.inl ⟨by rfl,?_⟩,fun _=>rfl⟩ ?_
   rotate_left 1
   ·intro w;go_simp;try with_reducible rfl
   refine wpAnyIn_ready (rs:=[8]) (by kernel_rfl) (by simp) ?_
   refine AllReadyIn.cons rfl (fun K hK=>?_) AllReadyIn.nil
   go_simp
   refine hK _ _ ?_
   clear hK K
   refine wpAnyIn_done (by kernel_rfl) ?_ _
   gi_wp2
   rw[← IntWalk.i64_left]
   exact H.out
  ·go_simp
   refine hK _ _ ?_
   clear hK K
   refine wpAnyIn_take (i:=4) (v:=?_) rfl rfl (by kernel_rfl) (by kernel_rfl) (by kernel_rfl) (fun _ _ _ h=>h) ⟨Or.inl ⟨by rfl,?_⟩,fun _=>rfl⟩ ?_
   rotate_left 1
   ·intro w;go_simp;try with_reducible rfl
   refine wpAnyIn_ready (rs:=[0,5]) (by kernel_rfl) (by simp) ?_
   refine AllReadyIn.cons rfl (fun K hK=>?_) (AllReadyIn.cons rfl (fun K hK=>?_) AllReadyIn.nil)
   ·go_simp
    refine hK _ _ ?_
    clear hK K
    refine wpAnyIn_take (i:=1) (v:=?_) rfl rfl (by kernel_rfl) (by kernel_rfl) (by kernel_rfl) (fun _ _ _ h=>h) ⟨Or.inl ⟨by rfl,?_⟩,fun _=>rfl⟩ ?_
    rotate_left 1
    ·intro w;go_simp;try with_reducible rfl
    refine wpAnyIn_ready (rs:=[5]) (by kernel_rfl) (by simp) ?_
    refine AllReadyIn.cons rfl (fun K hK=>?_) AllReadyIn.nil
    go_simp
    refine hK _ _ ?_
    clear hK K
    refine wpAnyIn_take (i:=6) (v:=?_) rfl rfl (by kernel_rfl) (by kernel_rfl) (by kernel_rfl) (fun _ _ _ h=>h) ⟨Or.inl ⟨by rfl,?_⟩,fun _=>rfl⟩ ?_
    rotate_left 1
    ·intro w;go_simp;try with_reducible rfl
    refine wpAnyIn_take (i:=7) (v:=?_) rfl rfl (by kernel_rfl) (by kernel_rfl) (by kernel_rfl) (fun _ _ _ h=>h) ⟨Or.inl ⟨by rfl,?_⟩,fun _=>rfl⟩ ?_
    rotate_left 1
    ·intro w;go_simp;try with_reducible rfl
    refine wpAnyIn_ready (rs:=[8]) (by kernel_rfl) (by simp) ?_
    refine AllReadyIn.cons rfl (fun K hK=>?_) AllReadyIn.nil
    go_simp
    refine hK _ _ ?_
    clear hK K
    refine wpAnyIn_done (by kernel_rfl) ?_ _
    gi_wp2
    rw[← IntWalk.i64_left]
    exact H.out
   ·go_simp
    refine hK _ _ ?_
    clear hK K
    refine wpAnyIn_take (i:=6) (v:=?_) rfl rfl (by kernel_rfl) (by kernel_rfl) (by kernel_rfl) (fun _ _ _ h=>h) ⟨Or.inl ⟨by rfl,?_⟩,fun _=>rfl⟩ ?_
    rotate_left 1
    ·intro w;go_simp;try with_reducible rfl
    refine wpAnyIn_ready (rs:=[0]) (by kernel_rfl) (by simp) ?_
    refine AllReadyIn.cons rfl (fun K hK=>?_) AllReadyIn.nil
    go_simp
    refine hK _ _ ?_
    clear hK K
    refine wpAnyIn_take (i:=1) (v:=?_) rfl rfl (by kernel_rfl) (by kernel_rfl) (by kernel_rfl) (fun _ _ _ h=>h) ⟨Or.inl ⟨by rfl,?_⟩,fun _=>rfl⟩ ?_
    rotate_left 1
    ·intro w;go_simp;try with_reducible rfl
    refine wpAnyIn_take (i:=7) (v:=?_) rfl rfl (by kernel_rfl) (by kernel_rfl) (by kernel_rfl) (fun _ _ _ h=>h) ⟨Or.inl ⟨by rfl,?_⟩,fun _=>rfl⟩ ?_
    rotate_left 1
    ·intro w;go_simp;try with_reducible rfl
    refine wpAnyIn_ready (rs:=[8]) (by kernel_rfl) (by simp) ?_
    refine AllReadyIn.cons rfl (fun K hK=>?_) AllReadyIn.nil
    go_simp
    refine hK _ _ ?_
    clear hK K
    refine wpAnyIn_done (by kernel_rfl) ?_ _
    gi_wp2
    rw[← IntWalk.i64_left]
    exact H.out
 case done =>
  rintro D ys W hD rfl ⟨⟨hb,C,G,k⟩,s⟩ hK
  have cb:=hb.cell
  have cf:=C.cell
  have T:=G.cell
  have c8:=k 8 (by omega)
  have Q:pos q 3+1≤16:=by have:=pos_lt S (show 3 < 4 by omega);omega
  rw[show eo q four4=((pos q 3+1:Nat):Int) from rfl] at T
  have HY:=ki k
  have V:=ki hK
  have I:=ki (s.trans (belowK_b (w:=w) (Nat.le_refl _) W D _ (.deferred none) (by rw[N] at hD;omega) hK rfl rfl))
  have p:=fun (h8:byt z 8=0)=>shape_no z (pos q 3+1) h8
  have t:=fun (hall:¬ ∀ j,j < 16 - (pos q 3+1)→byt z (pos q 3+1+j)=0)=>shape_yes z (pos q 3+1) Q hall
  have y:=fun (h8:byt z 8≠0)=>shp_yes (z:=z) (q:=pos q 3+1) 8 (by omega) (.inl rfl) h8
  have d:=r.out
  clear r
  generalize pos q 3+1=E at T Q p t y d
  clear hb C G k s hK hD b1 b2 b3 b4 hy M B X S J HN
  by_cases h8:byt z 8=0
  ·replace p:=p h8
   rw[h8] at c8
   by_cases hall:∀ j,j < 16 - E→byt z (E+j)=0
   ·rw[p hall] at d
    have r:=ki d
    clear d
    have o:=ki hall
    clear hall p t y h8
    by_cases ab:f=E
    ·obtain rfl:E=16:=by omega
     subst ab
     gi_wp2_with (refine ⟨trivial,?_⟩;gi_at_call 128;refine (callsIn_wide.2 (empty_yes g 0 0 _ (fun _=>0) _ (by omega) (fun j hj=>absurd hj (by omega)) (fun _ _=>rfl))).mono ?_;rintro e w2 ⟨rfl,rfl⟩)
     refine ⟨by simp,.inl ⟨_,_,rfl,run_takeDeferred V.out,?_⟩⟩
     refine ⟨.tuple #[.int .i64 (acc z q four4),.nilIface],by simp[results,Tryz.results142,go_sem],(by rw[r.out];rfl),I.out⟩
    ·gi_wp2_with (refine ⟨trivial,?_⟩;gi_at_call 128;refine (callsIn_wide.2 (empty_yes g E (16 - E) _ (fun j=>byt z (E+j)) _ (by omega) (fun j hj=>HY.out (E+j) (by omega)) o.out)).mono ?_;rintro e w2 ⟨rfl,rfl⟩)
     refine ⟨by simp,.inl ⟨_,_,rfl,run_takeDeferred V.out,?_⟩⟩
     refine ⟨.tuple #[.int .i64 (acc z q four4),.nilIface],by simp[results,Tryz.results142,go_sem],(by rw[r.out];rfl),I.out⟩
   ·rw[t hall] at d
    have r:=ki d
    clear d
    have o:=ki hall
    clear hall p t y h8
    have ab:¬ f=E:=fun e=>o.out (fun j hj=>absurd hj (by omega))
    gi_wp2_with (refine ⟨trivial,?_⟩;gi_at_call 128;refine (callsIn_wide.2 (empty_no g E (16 - E) _ (fun j=>byt z (E+j)) _ (by omega) (fun j hj=>HY.out (E+j) (by omega)) o.out)).mono ?_;rintro e w2 ⟨rfl,rfl⟩)
    refine ⟨by simp,.inl ⟨_,_,rfl,run_takeDeferred V.out,?_⟩⟩
    refine ⟨.tuple #[.int .i64 0,.iface 28 (.int .i64 2)],by simp[results,Tryz.results142,go_sem],(by rw[r.out];rfl),I.out⟩
  ·rw[y h8] at d
   have r:=ki d
   clear d
   have au:(byt z 8 == 0)=false:=by simpa using h8
   clear p t y
   generalize byt z 8=x at c8 au h8
   gi_wp2
   refine ⟨trivial,?_⟩
   gi_wp2
   refine ⟨by simp,.inl ⟨_,_,rfl,run_takeDeferred V.out,?_⟩⟩
   refine ⟨.tuple #[.int .i64 0,.iface 28 (.int .i64 2)],by simp[results,Tryz.results142,go_sem],(by rw[r.out];rfl),I.out⟩
 case stop =>
  rintro D c pre W _ _ h _
  exact h.elim
end Em
namespace Em
open Go.RowKit Go.Shelf
theorem or8 (a x:Nat) (ha:a < 16777216) (hx:x≤255):bits .or .i64 ((a*256:Nat):Int) (x:Int)=((a*256+x:Nat):Int):=by
 have d:(BitVec.ofInt 64 ((a*256:Nat):Int)).toNat=a*256:=by rw[BitVec.toNat_ofInt];omega
 have e:(BitVec.ofInt 64 ((x:Nat):Int)).toNat=x:=by rw[BitVec.toNat_ofInt];omega
 have b:(BitVec.ofInt 64 ((a*256:Nat):Int) ||| BitVec.ofInt 64 ((x:Nat):Int)).toNat=a*256+x:=by
  rw[BitVec.toNat_or,d,e]
  have:=Nat.shiftLeft_add_eq_or_of_lt (show x < 2 ^ 8 by omega) a
  rw[Nat.shiftLeft_eq] at this
  exact this.symm
 show IntKind.i64.wrap (((BitVec.ofInt 64 ((a*256:Nat):Int) ||| BitVec.ofInt 64 ((x:Nat):Int)).toNat:Nat):Int)=_
 rw[b,IntKind.wrap_i64]
 omega
theorem or_lo (a x:Int) (ha:0≤a) (ha2:a < 16777216) (hx:0≤x) (hx2:x < 256):bits .or .i64 (a*256) x=a*256+x:=by
 obtain ⟨m,rfl⟩:=Int.eq_ofNat_of_zero_le ha
 obtain ⟨k,rfl⟩:=Int.eq_ofNat_of_zero_le hx
 have:=or8 m k (by omega) (by omega)
 rw[show ((m*256:Nat):Int)=(m:Int)*256 by omega,show ((m*256+k:Nat):Int)=(m:Int)*256+(k:Int) by omega] at this
 exact this
theorem or_zero (y:Int) (hy:0≤y) (hy2:y < 65536):bits .or .i64 0 y=y:=by
 obtain ⟨k,rfl⟩:=Int.eq_ofNat_of_zero_le hy
 have b:(BitVec.ofInt 64 ((k:Nat):Int)).toNat=k:=by rw[BitVec.toNat_ofInt];omega
 have a:(BitVec.ofInt 64 0 ||| BitVec.ofInt 64 ((k:Nat):Int)).toNat=k:=by
  rw[BitVec.toNat_or,b];simp
 show IntKind.i64.wrap (((BitVec.ofInt 64 0 ||| BitVec.ofInt 64 ((k:Nat):Int)).toNat:Nat):Int)=_
 rw[a,IntKind.wrap_i64]
 omega
def gat (z:List Int) (q:Nat):Int:=((byt z (pos q 0)*256+byt z (pos q 1))*256+byt z (pos q 2))*256+byt z (pos q 3)
theorem acc_gat (z:List Int) (q:Nat) (h:Ok6 z) (hq:q≤12):acc z q four4=gat z q:=by
 have a:=byt_in z h (pos q 0) (pos_lt hq (by omega))
 have b:=byt_in z h (pos q 1) (pos_lt hq (by omega))
 have d:=byt_in z h (pos q 2) (pos_lt hq (by omega))
 have e:=byt_in z h (pos q 3) (pos_lt hq (by omega))
 show otp z q (otp z q (otp z q (otp z q 0 0) 1) 2) 3=_
 unfold otp gat
 rw[show ((0:Fin 4).val)=0 from rfl,show ((1:Fin 4).val)=1 from rfl,show ((2:Fin 4).val)=2 from rfl,show ((3:Fin 4).val)=3 from rfl]
 generalize byt z (pos q 0)=x0 at a ⊢
 generalize byt z (pos q 1)=x1 at b ⊢
 generalize byt z (pos q 2)=x2 at d ⊢
 generalize byt z (pos q 3)=x3 at e ⊢
 have f:IntKind.i64.wrap (0*256)=0:=by decide
 rw[f,or_zero x0 (by omega) (by omega)]
 rw[show IntKind.i64.wrap (x0*256)=x0*256 by rw[IntKind.wrap_i64];omega,or_lo x0 x1 (by omega) (by omega) (by omega) (by omega)]
 rw[show IntKind.i64.wrap ((x0*256+x1)*256)=(x0*256+x1)*256 by rw[IntKind.wrap_i64];omega,or_lo (x0*256+x1) x2 (by omega) (by omega) (by omega) (by omega)]
 rw[show IntKind.i64.wrap (((x0*256+x1)*256+x2)*256)=((x0*256+x1)*256+x2)*256 by rw[IntKind.wrap_i64];omega,or_lo ((x0*256+x1)*256+x2) x3 (by omega) (by omega) (by omega) (by omega)]
end Em
end Go.Proofs.YtgcojnlngchllaaGreatDoor
