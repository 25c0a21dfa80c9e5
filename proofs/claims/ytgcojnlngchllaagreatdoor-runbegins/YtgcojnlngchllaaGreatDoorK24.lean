/- Binds sorted by their ports: cmp.Compare, the closure, slices.SortFunc. those: the binds that are wanted, by their ports. All; a bind is dropped. What is old; the old ones are dropped one by one. Expire; the program's table is what is asked for. -/
import Derived.Test.YtgcojnlngchllaaGreatDoorShelf
import Derived.Shelf.Abstract
import Derived.Test.YtgcojnlngchllaaGreatDoorK23
namespace Go.Proofs.YtgcojnlngchllaaGreatDoor
open Go.RowKit
set_option linter.unusedVariables false
set_option maxRecDepth 100000
set_option maxHeartbeats 40000000
section
open Go.Sort (SWO PermIn SortedIn HoldsK flatK grow)
variable {g:Nat} {w:World}
def cpi (x y:Int):Int:=if x < y then -1 else if y < x then 1 else 0
theorem isnan_any (x:Int) (w:World):Calls Tryz.prog 227 #[.int .i64 x] w fun e w'=>e=.returned (.bool false)∧w'=w:=by
 have h:(x != x)=false:=by simp
 go_enter Tryz.func227,Tryz.ntmps227
 go_wp2
 go_ret
 exact ⟨rfl,rfl⟩
theorem compare_any (x y:Int) (w:World):Calls Tryz.prog 167 #[.int .i64 x,.int .i64 y] w fun e w'=>e=.returned (.int .i64 (cpi x y))∧w'=w:=by
 have H:=ki (fun z W=>isnan_any z W)
 have b:=ki (show cpi x y=if x < y then -1 else if y < x then 1 else 0 from rfl)
 generalize cpi x y=r at b ⊢
 by_cases h1:x < y
 ·have d:decide (x < y)=true:=decide_eq_true h1
  have a:=ki (show r = -1 by rw[b.o,if_pos h1])
  clear h1
  go_enter Tryz.func167,Tryz.ntmps167
  go_wp2_with (go_at_call 227;refine (H.o _ _).mono ?_;rintro e w' ⟨rfl,rfl⟩)
  go_ret
  exact ⟨by rw[a.o];rfl,rfl⟩
 ·have d:decide (x < y)=false:=decide_eq_false h1
  by_cases h2:y < x
  ·have f:decide (y < x)=true:=decide_eq_true h2
   have a:=ki (show r=1 by rw[b.o,if_neg h1,if_pos h2])
   clear h1 h2
   go_enter Tryz.func167,Tryz.ntmps167
   go_wp2_with (go_at_call 227;refine (H.o _ _).mono ?_;rintro e w' ⟨rfl,rfl⟩)
   go_ret
   exact ⟨by rw[a.o];rfl,rfl⟩
  ·have f:decide (y < x)=false:=decide_eq_false h2
   have a:=ki (show r=0 by rw[b.o,if_neg h1,if_neg h2])
   clear h1 h2
   go_enter Tryz.func167,Tryz.ntmps167
   go_wp2_with (go_at_call 227;refine (H.o _ _).mono ?_;rintro e w' ⟨rfl,rfl⟩)
   go_ret
   exact ⟨by rw[a.o];rfl,rfl⟩
def cfb (x y:List Int):Int:=cpi (el x 19) (el y 19)
theorem lt_cfb (x y:List Int):ltOf cfb x y=decide (el x 19 < el y 19):=by
 unfold ltOf cfb cpi
 by_cases h1:el x 19 < el y 19
 ·simp[h1]
 ·by_cases h2:el y 19 < el x 19 <;> simp[h1,h2]
theorem swo_cfb:SWO (ltOf cfb):={
 irrefl:=fun x=>by rw[lt_cfb];simp
 trans:=fun x y z h1 h2=>by rw[lt_cfb] at *;simp at *;omega
 ntrans:=fun x y z h1 h2=>by rw[lt_cfb] at *;simp at *;omega }
theorem closure_any (x y:List Int) (W:World):Calls Tryz.prog 166 #[.agg (bdC x),.agg (bdC y)] W fun e w'=>e=.returned (.int .i64 (cfb x y))∧∃ q os',w'=grow (W.drewN q) os':=by
 have H:=ki (fun w=>compare_any (el x 19) (el y 19) w)
 have f:=ki (show cfb x y=cpi (el x 19) (el y 19) from rfl)
 have g:=(bd_new x W).kept (al_below (W.alloc (.cells (bdC x) 95)) (.cells (bdC y) 95))
 have d:=bd_new y (W.alloc (.cells (bdC x) 95))
 rw[World.size_alloc] at d
 have c1:=g.cell 19 (by omega)
 have c2:=d.cell 19 (by omega)
 have h:=ki (show (W.alloc (.cells (bdC x) 95)).alloc (.cells (bdC y) 95)=grow (W.drewN 0) (#[.cells (bdC x) 95]++#[.cells (bdC y) 95]) by rw[Go.Sort.alloc_eq_grow,Go.Sort.alloc_eq_grow,Go.Sort.grow_grow];rfl)
 clear g d
 generalize cfb x y=r at f ⊢
 generalize el x 19=a at *
 generalize el y 19=b at *
 go_enter Tryz.func166,Tryz.ntmps166
 go_upto_region 1 with fail
 generalize (W.alloc _).alloc _=W2 at h c1 c2 ⊢
 go_wp2_with (go_at_call 167;refine (H.o _).mono ?_;rintro e w' ⟨rfl,rfl⟩)
 go_ret
 exact ⟨by rw[f.o];rfl,0,_,h.o⟩
def encB (b:List Int):List Value:=(bdC b).toList
theorem getA (l:List (List Int)) (i:Nat):(l.toArray)[i]! = l.getD i []:=by
 rw[List.getD_eq_getElem?_getD]
 simp
 rfl
theorem enc_at (b:List Int) (j:Nat) (hj:j < 23):(encB b)[j]! = .int .i64 (el b j):=by
 have h:=bdC_at b j hj
 unfold encB
 rw[List.getElem!_eq_getElem?_getD]
 rw[show (bdC b).toList[j]? = some (.int .i64 (el b j)) by simpa using h]
 rfl
theorem OwB.holds {base:Nat} {n cap:Nat} {l:List (List Int)} (h:OwB base w (.slice (some ⟨g,0,none⟩) n cap) l):HoldsK encB 23 w g 0 l.toArray:=by
 intro j a
 rw[Go.Sort.size_flatK] at a
 have hl:j < l.length*23:=by simpa using a
 refine ⟨?_,h.frozen _⟩
 rw[Go.Sort.get_flatK _ _ _ _ a,getA,enc_at _ _ (Nat.mod_lt _ (by omega)),Nat.zero_add]
 have:=h.cell (j / 23) (j % 23) (by omega) (by omega)
 rw[show j / 23*23+j % 23=j by omega] at this
 exact this
theorem holds_row {l:List (List Int)} (h:HoldsK encB 23 w g 0 l.toArray) (k:Nat) (hk:k < l.length):w.rangeAt g (0+k*23) (bdC (l.getD k [])).toList:=by
 intro j v hv
 have a:j < 23:=(List.getElem?_eq_some_iff.1 hv).1
 have b:=(Go.Sort.HoldsK.cell h (i:=k) (c:=j) (by simpa using hk) a).1
 rw[getA,enc_at _ _ a] at b
 rw[b,← bdC_at (l.getD k []) j a]
 simpa using hv
theorem sort_below {base:Nat} {n:Nat} {d:Array (List Int)} {os:Array Obj} (hb:base≤w.heap.size) (hg:base≤g):Below base w (sortWorldK encB 23 w g 0 n d os):=by
 refine ⟨rfl,rfl,rfl,?_,fun k hk=>?_⟩
 ·unfold sortWorldK Go.Sort.putRowK
  simp[Go.Sort.putRow,Go.Sort.mapBlock,Go.Sort.ahead,Go.Sort.grow]
 ·unfold sortWorldK Go.Sort.putRowK
  have a:g≠k:=by omega
  rw[Go.Sort.heap_grow_old _ _ (by simp[Go.Sort.putRow,Go.Sort.mapBlock,Go.Sort.ahead];omega)]
  simp[Go.Sort.putRow,Go.Sort.mapBlock,Go.Sort.ahead,Array.getElem?_modify,a]
theorem encB_len (b:List Int):(encB b).length=23:=rfl
theorem encB_one (b:List Int):∀ v ∈ encB b,v.oneCell'=true:=by
 intro v hv
 unfold encB bdC at hv
 simp at hv
 rcases hv with rfl|rfl|rfl|rfl|rfl|rfl|rfl|rfl|rfl|rfl|rfl|rfl|rfl|rfl|rfl|rfl|rfl|rfl|rfl|rfl|rfl|rfl|rfl <;> rfl
theorem sort_any (base:Nat) (v:Value) (l:List (List Int)) (w:World) (h:OwB base w v l) (hb:base≤w.heap.size) (hl:l.length≤1000) :
  Calls Tryz.prog 165 #[v,.func (.func 166) #[] #[]] w fun e w'=>e=.returned (.tuple #[])∧∃ l',l'.Perm l∧l'.Pairwise (fun a b=>¬ el b 19 < el a 19)∧BdRow base w' v l'∧Below base w w':=by
 cases l with
 | nil =>
  obtain ⟨t,p,rfl,_⟩:=h.shape
  have hc:=AnyF.slices_SortFunc_none (P:=Tryz.prog) (ρ:=Tryz.sortB_ren) { Tryz.sortB with } t p (.func (.func 166) #[] #[]) w
  refine hc.mono ?_
  rintro e w' ⟨rfl,rfl⟩
  exact ⟨rfl,[],List.Perm.refl _,List.Pairwise.nil,h.bdrow,Below.refl _ _⟩
 | cons b r =>
  have hd:=h
  obtain ⟨t,p,rfl,_,_,C⟩:=h.shape
  obtain ⟨g,rfl⟩:=C (by simp)
  have o:=owns_lt h g rfl
  have D:∀ args w,(callFunc 166 args).run Tryz.prog w=.ok (.enter 166 args) w:=enters_of Tryz.func166 (by kernel_rfl) rfl
  have hc:=AnyQ.slices_SortFunc Tryz.sortB 23 Tryz.isAgg95 Tryz.sizeOf95 encB encB_len encB_one cfb swo_cfb 166 #[] g 0 p (b::r).toArray w D (fun _ _ _ _ x y=>closure_any x y _) h.holds o.1 (by simp at hl ⊢;omega)
  refine Calls.mono (show Calls Tryz.prog 165 #[.slice (some ⟨g,0,none⟩) (b::r).length p,.func (.func 166) #[] #[]] w _ from hc) ?_
  rintro e w' ⟨rfl,f,n,os,hp,hs,rfl⟩
  have q:f.size=(b::r).length:=hp.1
  have z:f.toList.Perm (b::r):=by
   have:=hp.2.2
   rw[show (b::r).toArray.size=(b::r).length from rfl] at this
   have E:f.extract 0 (b::r).length=f:=by rw[← q];exact Array.extract_size
   have F:(b::r).toArray.extract 0 (b::r).length=(b::r).toArray:=Array.extract_size
   rw[E,F] at this
   exact this
  refine ⟨rfl,f.toList,z,?_,?_,sort_below hb o.2⟩
  ·rw[List.pairwise_iff_getElem]
   intro i j G A B
   have:=hs i j (Nat.zero_le _) B (by rw[show (b::r).toArray.size=(b::r).length from rfl,← q];simpa using A)
   rw[lt_cfb] at this
   have H:f[i]! = f.toList[i]:=by rw[getElem!_pos f i (by simpa using G)];simp
   have I:f[j]! = f.toList[j]:=by rw[getElem!_pos f j (by simpa using A)];simp
   rw[H,I] at this
   simpa using this
  ·have J:HoldsK encB 23 (sortWorldK encB 23 w g 0 n f os) g 0 f.toList.toArray:=by
    have:=holdsK_sortWorldK_c encB 23 w g 0 (b::r).toArray f n os h.holds o.1 q
    simpa using this
   have s:f.toList.length=(b::r).length:=by simpa using q
   refine ⟨some ⟨g,0,none⟩,p,by rw[s],fun _=>⟨g,0,rfl,⟨o.2,?_⟩,fun k hk=>holds_row J k hk⟩⟩
   exact Nat.lt_of_lt_of_le o.1 (sort_below (n:=n) (d:=f) (os:=os) hb o.2).size
end
section
variable {l rs:List (List Int)} {F N P T:Nat} {v:Value} {W W' w:World}
theorem map_cons {p:Value×Value} {rem:List (Value×Value)} (h:(rs.map fE).Perm (p::rem)):∃ b rs',rs.Perm (b::rs')∧p=fE b∧rem.Perm (rs'.map fE):=by
 obtain ⟨b,hb,rfl⟩:=List.mem_map.1 (h.mem_iff.2 (List.mem_cons_self ..))
 have hp:=List.perm_cons_erase hb
 refine ⟨b,rs.erase b,hp,rfl,?_⟩
 exact (h.symm.trans (hp.map fE)).cons_inv
def KT (w:World) (T P F N:Nat) (bs rs:List (List Int)) (v:Value) (l:List (List Int)) (W:World):Prop:=TBl T P F N W∧MR isF F w.heap.size (bs.map fE) (rs.map fE) W∧OwB (w.heap.size+1) W v l∧Below w.heap.size w W∧F < w.heap.size∧T < w.heap.size∧w.heap.size+1≤W.heap.size
theorem KT.kept {bs:List (List Int)} (h:KT w T P F N bs rs v l W) (hb:Below W.heap.size W W'):KT w T P F N bs rs v l W':=by
 obtain ⟨f,a,b,d,i,k,n⟩:=h
 have hs:=d.size
 exact ⟨(hb.block T (by omega)).trans f,a.same (hb.block F a.lt.1) (hb.block _ a.lt.2),owns_same b (fun g e=>hb.block g (owns_lt b g e).1),bt d hb,i,k,Nat.le_trans n hb.size⟩
theorem KT.grown {bs:List (List Int)} {v':Value} {l':List (List Int)} (h:KT w T P F N bs rs v l W) (hg:W.grownBy W' v.ownBlock) (ho:OwB (w.heap.size+1) W' v' l'):KT w T P F N bs rs v' l' W':=by
 obtain ⟨d,a,f,b,i,n,o⟩:=h
 have hs:=b.size
 have hv:∀ g,some g=v.ownBlock→w.heap.size+1≤g:=fun g e=>(owns_lt f g e.symm).2
 refine ⟨(hg.block T (by omega) (fun e=>by have:=hv T e;omega)).trans d,a.same (hg.block F a.lt.1 (fun e=>by have:=hv F e;omega)) (hg.block _ a.lt.2 (fun e=>by have:=hv _ e;omega)),ho,b.grown hg hs (fun k e=>by have:=hv k e.symm;omega),i,n,Nat.le_trans o hg.size⟩
theorem KT.next {bs rs':List (List Int)} {rem:List (Value×Value)} (h:KT w T P F N bs rs v l W) (on:Only w.heap.size W W') (hm:MR isF F w.heap.size (bs.map fE) rem W') (hp:rem.Perm (rs'.map fE)):KT w T P F N bs rs' v l W':=by
 obtain ⟨b,n,a,d,f,i,k⟩:=h
 exact ⟨(on.2.2.2.2 T (by omega)).trans b,hm.perm hp,owns_same a (fun g e=>on.2.2.2.2 g (by have:=(owns_lt a g e).2;omega)),on.below d (Nat.le_refl _),f,i,by rw[on.2.2.2.1];exact k⟩
attribute [local go_sem ↓] bload_shut bsl_shut
theorem those_any (T P F N:Nat) (bs:List (List Int)) (g:Nat) (lb:Array Value) (p:List Int→Bool) (w:World) (ht:TBl T P F N w) (hf:MP isF F (bs.map fE) w) (hl:bs.length≤128)
  (eg:∀ args w,(callFunc g args).run Tryz.prog w=.ok (.enter g args) w)
  (hp:∀ b ∈ bs,∀ W,Below w.heap.size w W→Calls Tryz.prog g (#[.agg (bdC b)]++lb) W fun e w'=>e=.returned (.bool (p b))∧Below W.heap.size W w') :
  Calls Tryz.prog 109 #[.pointer (some ⟨T,0,none⟩),.func (.func g) #[] lb] w fun e w'=>∃ v l,e=.returned v∧l.Perm (bs.filter p)∧l.Pairwise (fun a b=>¬ el b 19 < el a 19)∧BdRow (w.heap.size+1) w' v l∧Below w.heap.size w w':=by
 have c1:=ht.c1
 have E:=ki (show ∀ W,MR isF F w.heap.size (bs.map fE) (bs.map fE) W→Below w.heap.size w W→KT w T P F N bs bs (.slice none 0 0) [] W from fun W h1 h2=>⟨(h2.block T ht.lt).trans ht,h1,OwB.nil _ _,h2,hf.lt,ht.lt,h1.lt.2⟩)
 have h:=ki hf
 have U:=ki hp
 have V:=ki hl
 clear ht hf hp hl
 go_enter Tryz.func109,Tryz.ntmps109
 go_wp2_with (at_range;refine at_rng rfl (.tmp 11) 149 rfl _ _ Tryz.mapF F (bs.map fE) rfl h.o ?_;intro w0 r0 X;have d:=ki (E.o w0 r0 X);clear r0 X)
 go_frame
 clear c1 h E
 go_loopw [5] (fun v wr=>∃ ds rs l,Hid ((ds++rs).Perm bs)∧Hid (l=ds.filter p)∧Hid (KT w T P F N bs rs v l wr)) (fun _ wr=>wr.rangeLeft F w.heap.size)
 case atStart=>exact ⟨[],bs,[],ki (List.Perm.refl _),ki rfl,d⟩
 case round =>
  clear d
  obtain ⟨ds,rs,l,n,h,d⟩:=hrel
  go_wp2_with (at_next;refine at_nxt rfl (.tmp 12) rfl F w.heap.size (bs.map fE) (rs.map fE) rfl d.o.2.1 ?_ ?_)
  ·intro o
   have Y:rs=[]:=by first|exact o|exact List.map_eq_nil_iff.1 o
   subst Y
   clear o
   have HN:=ki (show l.length≤1000 by
    have h1:=n.o.length_eq
    have h2:=List.length_filter_le p ds
    rw[h.o]
    have:=V.o
    simp at h1
    omega)
   have y:=ki (sort_any (w.heap.size+1) u5 l wr d.o.2.2.1 d.o.2.2.2.2.2.2 HN.o)
   have HB:=ki d.o.2.2.2.1
   have Z:=ki (show l.Perm (bs.filter p) by rw[h.o];have:=n.o;rw[List.append_nil] at this;exact this.filter p)
   clear d n h U
   go_wp2_with (go_at_call 165;refine y.o.mono ?_;rintro e w5 ⟨rfl,l',q1,q2,q3,x⟩;have HE:=ki (And.intro (q1.trans Z.o) (And.intro q2 (And.intro q3 (HB.o.trans ⟨x.os,x.tape,x.output,x.size,fun k hk=>x.block k (by omega)⟩))));clear q1 q2 q3 x)
   go_ret
   exact ⟨u5,rfl,l',HE.o⟩
  ·intro a1 v0 ax w1 G H I ae
   obtain ⟨b,z,r,J,K⟩:=map_cons G
   unfold fE at J
   injection J with e1 e2
   subst e1 e2
   have L:=ki (d.o.next I H K)
   have HR:=ki r
   have M:=ki (show wr.rangeLeft F w.heap.size=rs.length by have:=d.o.2.1.left;simpa using this)
   have ag:=ki (show b ∈ bs from n.o.mem_iff.1 (List.mem_append_right _ (r.mem_iff.2 (List.mem_cons_self ..))))
   have O:=ki (show (ds++[b]++z).Perm bs by rw[List.append_assoc];exact ((r.append_left ds).symm).trans n.o)
   have ai:=ki (show l.length+1≤1000000 by
    have h1:=n.o.length_eq
    have h2:=List.length_filter_le p ds
    rw[h.o]
    have:=V.o
    simp at h1
    omega)
   have y:=ki (bd_zero w1)
   unfold zero23 at y
   clear d n G H I r K
   go_upto_region 5 with (refine at_storeb rfl (.tmp 7) (.tmp 16) rfl rfl y.o b rfl ?_;intro w2 q Q;have s:=ki (L.o.kept (new_below _ Q));replace q:=ki q;clear Q)
   clear ae y L
   generalize w1.heap.size=D at q ⊢
   have gb:=q.o.bl
   have A:=ki (U.o b ag.o w2 s.o.2.2.2.1)
   cases hpb:p b
   ·rw[hpb] at A
    have B:=ki (show l=(ds++[b]).filter p by rw[h.o,List.filter_append];simp[hpb])
    clear hpb
    go_wp2_with (go_at_fn g;refine A.o.mono ?_;rintro e C ⟨rfl,f⟩;have i:=ki (s.o.kept f);clear f)
    go_roundw
    case rel=>exact ⟨ds++[b],z,l,O,B,i⟩
    case measure =>
     have h1:=i.o.2.1.left
     have h2:=HR.o.length_eq
     rw[M.o,h1,h2]
     simp
   ·rw[hpb] at A
    have B:=ki (show l++[b]=(ds++[b]).filter p by rw[h.o,List.filter_append];simp[hpb])
    clear hpb
    go_upto_region 6 with (go_at_fn g;refine A.o.mono ?_;rintro e C ⟨rfl,f⟩;have i:=ki (s.o.kept f);replace q:=ki (q.o.kept f);clear f)
    clear gb A s
    have gx:=q.o.bl
    have a2:=bsl_run b C
    have R:=al_below C (.cells (bdC b) 95)
    have t:=ki (i.o.kept R)
    have H1:=ki (one_new b C)
    have H2:=ki t.o.2.2.1
    have H3:=ki t.o.2.2.2.2.2.2
    clear R i
    go_wp2_with (at_builtin;(with_reducible refine ap_B rfl (.tmp 20) (.tmp 22) rfl (w.heap.size+1) u5 l rfl H2.o ⟨C.heap.size,0,none⟩ 1 1 [b] rfl rfl H1.o ai.o H3.o ?_);intro v5 w5 o5 g5 n5;have S:=ki (t.o.grown g5 o5);clear o5 g5 n5 H1 H2 H3 t)
    go_roundw
    case rel=>exact ⟨ds++[b],z,l++[b],O,B,S⟩
    case measure =>
     have h1:=S.o.2.1.left
     have h2:=HR.o.length_eq
     rw[M.o,h1,h2]
     simp
end
section
variable {b:List Int} {w:World}
theorem sorted_one:∀ (bs l:List (List Int)),l.Perm bs→l.Pairwise (fun a b=>¬ el b 19 < el a 19)→bs.Pairwise (fun a b=>el a 19 < el b 19)→l=bs
 | [],l,hp,_,_=>hp.eq_nil
 | b::r,[],hp,_,_=>by have:=hp.length_eq;simp at this
 | b::r,a::l,hp,h1,h2=>by
  rw[List.pairwise_cons] at h1 h2
  rcases List.mem_cons.1 (hp.mem_iff.1 (List.mem_cons_self ..)) with rfl|ha
  ·rw[sorted_one r l hp.cons_inv h1.2 h2.2]
  ·rcases List.mem_cons.1 (hp.symm.mem_iff.1 (List.mem_cons_self ..)) with rfl|hb
   ·rw[sorted_one r l hp.cons_inv h1.2 h2.2]
   ·exact absurd (h2.1 a ha) (h1.1 b hb)
theorem yes_any (b:List Int) (W:World):Calls Tryz.prog 110 #[.agg (bdC b)] W fun e w'=>e=.returned (.bool true)∧Below W.heap.size W w':=by
 have a:=ki (al_below W (.cells (bdC b) 95))
 go_enter Tryz.func110,Tryz.ntmps110
 go_wp2
 go_ret
 exact ⟨rfl,a.o⟩
theorem tb_all:RAll TB:=by
 rintro v m ws ts bs O w i hl hb ⟨T,P,BB,F,N,q,rfl,h,k,rfl⟩
 have n:=ki (those_any T P F N bs 110 #[] (fun _=>true) w h.1 h.2.2.1 hl (enters_of Tryz.func110 (by kernel_rfl) rfl) (fun b _ W _=>yes_any b W))
 have o:=ki hb.2.1
 clear h k hb i hl
 go_enter Tryz.func57,Tryz.ntmps57
 go_wp2_with (go_at_call 109;refine n.o.mono ?_;rintro e d ⟨v,l,rfl,a,f,g,h4⟩;have p:=ki (show BdRow 0 d v bs∧Below w.heap.size w d by
  rw[show bs.filter (fun _=>true)=bs from List.filter_eq_self.2 (fun _ _=>rfl)] at a
  have:=sorted_one bs l a f o.o
  subst this
  exact ⟨g.weak,h4⟩);clear a f g h4)
 go_ret
 exact ⟨v,rfl,p.o⟩
def fdl (ty:TypeId) (m k:Value):Sem Value:=Builtin.delete_ #[149,89] ty #[m,k]
theorem fdl_shut (ty:TypeId) (m k:Value):Builtin.delete_ #[149,89] ty #[m,k]=fdl ty m k:=rfl
def pdl (ty:TypeId) (m k:Value):Sem Value:=Builtin.delete_ #[150,3] ty #[m,k]
theorem pdl_shut (ty:TypeId) (m k:Value):Builtin.delete_ #[150,3] ty #[m,k]=pdl ty m k:=rfl
theorem MP.fdel {F:Nat} {bs rs:List (List Int)} (h:MP isF F (bs.map fE) w) (hp:bs.Perm (b::rs)) (ty:TypeId):∃ w',(fdl ty (.map (some F)) (.agg (flC b))).run Tryz.prog w=.ok (.tuple #[]) w'∧MP isF F (rs.map fE) w'∧Only F w w' :=
 h.strike kof Tryz.mapF ⟨b,rfl⟩ (hp.map fE) ty
theorem MP.pdel {N:Nat} {bs rs:List (List Int)} (h:MP isI N (bs.map pE) w) (hp:bs.Perm (b::rs)) (ty:TypeId):∃ w',(pdl ty (.map (some N)) (.int .i64 (el b 19))).run Tryz.prog w=.ok (.tuple #[]) w'∧MP isI N (rs.map pE) w'∧Only N w w' :=
 h.strike koi Tryz.mapI ⟨_,rfl⟩ (hp.map pE) ty
theorem BdIn.ff {D:Nat} (p:BdIn D b w):(fload (.pointer (some ⟨D,0,none⟩))).run Tryz.prog w=.ok (.agg (flC b)) w :=
 row_fl (fun j v hv=>by rw[Nat.zero_add,cell_of_row w D j _ _ _ p];simpa using hv)
attribute [local go_sem ↓] fload_shut fdl_shut pdl_shut
theorem drop_any (T P BB F N m:Nat) (ow:Nat→List Int) (ts:Nat→Bool) (bs rs:List (List Int)) (b:List Int) (k j:Nat) (w:World) (h:TC T P BB F N m ow ts bs w) (hp:bs.Perm (b::rs)) (hm:m≤16) (hk:k < m) (hj:j < 8) (ht:ts (8*k+j)=true) (hn:el b 19=1024+((8*k+j:Nat):Int)) :
  Calls Tryz.prog 158 #[.pointer (some ⟨T,0,none⟩),.agg (bdC b)] w fun e w'=>e=.returned .nilIface∧TC T P BB F N m (gv ow (upd ts (8*k+j) false) k) (upd ts (8*k+j) false) rs w'∧Fr (TO T P BB F N) w w':=by
 have D:=al_below w (.cells (bdC b) 95)
 have n:=h.ne
 have lt:=h.lt
 have q:TC T P BB F N m ow ts bs (w.alloc (.cells (bdC b) 95)).drew:=h.kept D.drew
 have E:BdIn w.heap.size b (w.alloc (.cells (bdC b) 95)).drew:=bd_new b w
 have f0:Fr (TO T P BB F N) w (w.alloc (.cells (bdC b) 95)).drew:=Fr.of D.drew
 obtain ⟨v,J,K,r⟩:=q.2.2.1.fdel hp 0
 have C:MP isI N (bs.map pE) v.drew:=q.2.2.2.1.same (r.2.2.2.2 N (fun e=>n.2.2.2.2 e.symm))
 obtain ⟨d,G,H,s⟩:=C.pdel hp 0
 have U:=lt F (.inr (.inr (.inr (.inl rfl))))
 have V:=lt N (.inr (.inr (.inr (.inr rfl))))
 have A:TBl T P F N v.drew:=(r.2.2.2.2 T n.1.2.2.1).trans q.1
 have x:TBl T P F N d.drew:=(s.2.2.2.2 T n.1.2.2.2).trans A
 have B:BdIn w.heap.size b v.drew:=(r.2.2.2.2 _ (by omega)).trans E
 have z:BdIn w.heap.size b d.drew:=(s.2.2.2.2 _ (by omega)).trans B
 have L:BP P BB m ow ts d.drew:=⟨(s.2.2.2.2 P n.2.1.2.2).trans ((r.2.2.2.2 P n.2.1.2.1).trans q.2.1.1),q.2.1.2.same ((s.2.2.2.2 BB n.2.2.2.1).trans (r.2.2.2.2 BB n.2.2.1))⟩
 have f1:Fr (TO T P BB F N) w v.drew:=f0.trans (r.fr (.inr (.inr (.inr (.inl rfl)))))
 have M:Fr (TO T P BB F N) w d.drew:=f1.trans (s.fr (.inr (.inr (.inr (.inr rfl)))))
 have I:MP isF F (rs.map fE) d.drew:=K.same (s.2.2.2.2 F n.2.2.2.2)
 have O:=ki (pgive_yes P BB m ow ts k j d.drew L hm hk hj ht)
 have a:=ki (show ∀ W,TBl T P F N W→BdIn w.heap.size b W→W.cell? ⟨T,0,none⟩=some (.pointer (some ⟨P,0,none⟩))∧W.cell? ⟨T,1,none⟩=some (.map (some F))∧W.cell? ⟨T,2,none⟩=some (.map (some N))∧(fload (.pointer (some ⟨w.heap.size,0,none⟩))).run Tryz.prog W=.ok (.agg (flC b)) W∧W.cell? ⟨w.heap.size,19,none⟩=some (.int .i64 (el b 19)) from fun W h1 h2=>⟨h1.c0,h1.c1,h1.c2,h2.ff,h2.cell 19 (by omega)⟩)
 have f:=ki (a.o _ q.1 E)
 have i:=ki (a.o v A B)
 have o:=ki (a.o _ A B)
 have l:=ki (a.o d x z)
 have t:=ki (a.o _ x z)
 have X:=ki (show ∀ w3,BP P BB m (gv ow (upd ts (8*k+j) false) k) (upd ts (8*k+j) false) w3→Fr (fun g=>g=BB) d.drew w3→(TBl T P F N w3∧BdIn w.heap.size b w3)∧TC T P BB F N m (gv ow (upd ts (8*k+j) false) k) (upd ts (8*k+j) false) rs w3∧Fr (TO T P BB F N) w w3 from fun w3 h1 h2=>by
  have hk:∀ g,g < d.drew.heap.size→g≠BB→w3.heap[g]? = d.drew.heap[g]?:=fun g g1 g2=>h2.2.2.2.2 g g1 g2
  have Q:TBl T P F N w3:=(hk T x.lt n.1.2.1).trans x
  have Y:=lt BB (.inr (.inr (.inl rfl)))
  exact ⟨⟨Q,(hk _ z.lt (by omega)).trans z⟩,⟨Q,h1,I.same (hk F I.lt (fun e=>n.2.2.1 e.symm)),MP.same (w:=d.drew) H (hk N H.lt (fun e=>n.2.2.2.1 e.symm)),n.2.2.2.2⟩,M.trans (h2.mono (fun _ e=>.inr (.inr (.inl e))))⟩)
 rw[hn] at G a f i o l t
 generalize hy:1024+((8*k+j:Nat):Int)=y at G a f i o l t O
 clear hy hn h hp hm hk hj ht D n lt q E f0 K r C H s U V A x B z L f1 M I
 generalize hw:w.alloc (.cells (bdC b) 95)=W at J f
 go_enter Tryz.func158,Tryz.ntmps158
 go_upto_region 1 with fail
 clear hw
 obtain ⟨c0,c1,c2,g1,c19⟩:=f.o
 go_region_held3 (fun W'=>W'.cell? ⟨T,0,none⟩=some (.pointer (some ⟨P,0,none⟩))∧W'.cell? ⟨T,1,none⟩=some (.map (some F))∧W'.cell? ⟨T,2,none⟩=some (.map (some N))∧(fload (.pointer (some ⟨w.heap.size,0,none⟩))).run Tryz.prog W'=.ok (.agg (flC b)) W'∧W'.cell? ⟨w.heap.size,19,none⟩=some (.int .i64 y))
  (first
   | exact f.o
   | exact i.o
   | go_keep)
  (fail)
 all_goals
  go_upto_region 2 with fail
  clear c0 c1 c2 g1 c19 J f i
  obtain ⟨c0,c1,c2,g1,c19⟩:=o.o
  go_region_held3 (fun W'=>W'.cell? ⟨T,0,none⟩=some (.pointer (some ⟨P,0,none⟩))∧W'.cell? ⟨T,1,none⟩=some (.map (some F))∧W'.cell? ⟨T,2,none⟩=some (.map (some N))∧(fload (.pointer (some ⟨w.heap.size,0,none⟩))).run Tryz.prog W'=.ok (.agg (flC b)) W'∧W'.cell? ⟨w.heap.size,19,none⟩=some (.int .i64 y))
   (first
    | exact o.o
    | exact l.o
    | go_keep)
   (fail)
  all_goals
   go_upto_region 3 with fail
   clear c0 c1 c2 g1 c19 G o l
   obtain ⟨c0,c1,c2,g1,c19⟩:=t.o
   go_region_held3 (fun W'=>W'.cell? ⟨T,0,none⟩=some (.pointer (some ⟨P,0,none⟩))∧W'.cell? ⟨T,1,none⟩=some (.map (some F))∧W'.cell? ⟨T,2,none⟩=some (.map (some N))∧(fload (.pointer (some ⟨w.heap.size,0,none⟩))).run Tryz.prog W'=.ok (.agg (flC b)) W'∧W'.cell? ⟨w.heap.size,19,none⟩=some (.int .i64 y))
    (first
     | exact t.o
     | exact a.o _ p.o.1.1 p.o.1.2
     | go_keep)
    (first|(go_at_call 221;refine O.o.mono ?_;rintro e w3 ⟨rfl,R,S⟩;have p:=ki (X.o w3 R S);clear R S c0 c1 c2 g1 c19;obtain ⟨c0,c1,c2,g1,c19⟩:=a.o w3 p.o.1.1 p.o.1.2))
   all_goals
    clear c0 c1 c2 g1 c19
    go_wp2_with fail
    go_ret
    exact ⟨rfl,p.o.2⟩
end
section
variable {G:List (List Int)} {F N P T k:Nat} {a:Option Addr} {W w:World}
def px (now:Int) (b:List Int):Bool:=decide (lf (el b 0)≤now - el b 22)
theorem px_xp {now:Int} {b:List Int} (h:el b 0=6∨el b 0=17):px now b=xp now b:=by
 unfold px xp lf
 rcases h with h|h <;> rw[h] <;> simp
theorem tc_iff (n:Int):tc n=true↔0≤n∧n≤1099511627776:=by unfold tc;rw[Bool.and_eq_true,decide_eq_true_eq,decide_eq_true_eq]
theorem old_any (b:List Int) (B:Nat) (now:Int) (W:World) (hB:B < W.heap.size) (hc:W.cell? ⟨B,0,none⟩=some (.int .i64 now)) (h1:tc now=true) (h2:tc (el b 22)=true) :
  Calls Tryz.prog 156 #[.agg (bdC b),.pointer (some ⟨B,0,none⟩)] W fun e w'=>e=.returned (.bool (px now b))∧Below W.heap.size W w':=by
 have f:=ki (fun w=>life_any (el b 0) w)
 have a:=ki (show Below W.heap.size W (W.alloc (.cells (bdC b) 95)).drew from (al_below W _).drew)
 have c0:(W.alloc (.cells (bdC b) 95)).drew.cell? ⟨B,0,none⟩=some (.int .i64 now):=(a.o.cell (p:=⟨B,0,none⟩) hB).trans hc
 have p:=bd_new b W
 have c1:(W.alloc (.cells (bdC b) 95)).drew.cell? ⟨W.heap.size,22,none⟩=some (.int .i64 (el b 22)):=p.cell 22 (by omega)
 have c2:(W.alloc (.cells (bdC b) 95)).drew.cell? ⟨W.heap.size,0,none⟩=some (.int .i64 (el b 0)):=p.cell 0 (by omega)
 have d:=ki (show px now b=decide (lf (el b 0)≤now - el b 22) from rfl)
 rw[tc_iff] at h1 h2
 have g:IntKind.i64.wrap (now - el b 22)=now - el b 22:=by rw[IntKind.wrap_i64];omega
 generalize px now b=r at d ⊢
 generalize el b 22=y at *
 generalize el b 0=k at *
 generalize lf k=z at f d
 have i:=ki g
 clear g
 clear p hc h1 h2
 have h:=ki (And.intro c0 (And.intro c1 c2))
 generalize hw:W.alloc (.cells (bdC b) 95)=W2 at a h c0 c1 c2
 go_enter Tryz.func156,Tryz.ntmps156
 go_upto_region 1 with fail
 clear hw
 go_region_held3 (fun W'=>W'.cell? ⟨B,0,none⟩=some (.int .i64 now)∧W'.cell? ⟨W.heap.size,22,none⟩=some (.int .i64 y)∧W'.cell? ⟨W.heap.size,0,none⟩=some (.int .i64 k))
  (first
   | exact h.o
   | go_keep)
  (first|(go_at_call 157;refine (f.o _).mono ?_;rintro e w' ⟨rfl,rfl⟩))
 all_goals
  go_wp2_with fail
  go_ret
  refine ⟨?_,a.o⟩
  show Ending.returned (.bool (decide (z≤IntKind.i64.wrap (now - y))))=_
  rw[i.o,d.o]
def tsd (ts:Nat→Bool) (l:List (List Int)):Nat→Bool:=fun j=>ts j && !(l.any fun b=>(el b 19 - 1024).toNat == j)
theorem tsd_nil (ts:Nat→Bool):tsd ts []=ts:=by funext j;unfold tsd;simp
theorem tsd_snoc (ts:Nat→Bool) (l:List (List Int)) (b:List Int) (i:Nat) (h:(el b 19 - 1024).toNat=i):tsd ts (l++[b])=upd (tsd ts l) i false:=by
 funext j
 unfold tsd upd
 rw[List.any_append]
 by_cases e:j=i
 ·subst e;rw[if_pos rfl];simp[h]
 ·rw[if_neg e]
  have a:(i == j)=false:=by simpa using fun e':i=j=>e e'.symm
  simp[h,a]
theorem es_all (now:Int) (bs:List (List Int)) (ts:Nat→Bool):(es now bs ts bs.length).1=bs.filter (xp now)∧(es now bs ts bs.length).2.1=bs.filter (fun b=>!xp now b)∧(es now bs ts bs.length).2.2=tsd ts (bs.filter (xp now)):=by
 obtain ⟨d,e,f⟩:=es_form now bs ts bs.length (Nat.le_refl _)
 rw[List.take_length] at d e f
 refine ⟨d,e,?_⟩
 funext j
 rw[Bool.eq_iff_iff,f j]
 unfold tsd
 simp only[Bool.and_eq_true,Bool.not_eq_true',List.any_eq_false,List.mem_filter]
 constructor
 ·rintro ⟨a,c⟩
  refine ⟨a,fun x hx=>?_⟩
  have:=c x hx.1 hx.2
  simpa using this
 ·rintro ⟨a,c⟩
  refine ⟨a,fun x hx hxp=>?_⟩
  have:=c x ⟨hx,hxp⟩
  simpa using this
def RA (base:Nat) (a:Option Addr) (G:List (List Int)) (W:World):Prop:=0 < G.length→∃ g off,a=some ⟨g,off,none⟩∧(base≤g∧g < W.heap.size)∧∀ k,k < G.length→W.rangeAt g (off+k*23) (bdC (G.getD k [])).toList
theorem RA.row {base:Nat} (h:RA base a G W) (cap:Nat):BdRow base W (.slice a G.length cap) G:=⟨a,cap,rfl,h⟩
theorem RA.fr {base:Nat} {O:Nat→Prop} {w':World} (h:RA base a G w) (hf:Fr O w w') (hO:∀ g,base≤g→¬ O g):RA base a G w':=by
 intro hp
 obtain ⟨g,d,e,b,f⟩:=h hp
 refine ⟨g,d,e,⟨b.1,Nat.lt_of_lt_of_le b.2 hf.2.2.2.1⟩,fun k hk j u hu=>?_⟩
 rw[← f k hk j u hu]
 unfold World.cell?
 rw[hf.2.2.2.2 g b.2 (hO g b.1)]
def KX (w:World) (T P BB F N m:Nat) (ws:Nat→List Int) (ts:Nat→Bool) (bs G:List (List Int)) (a:Option Addr) (k:Nat) (W:World):Prop:=(∃ rs ow,(G.take k++rs).Perm bs∧TC T P BB F N m ow (tsd ts (G.take k)) rs W∧Ag ws ow (tsd ts (G.take k)) m)∧Fr (TO T P BB F N) w W∧RA w.heap.size a G W∧∀ g,TO T P BB F N g→g < w.heap.size
theorem KX.kept {BB m:Nat} {ws:Nat→List Int} {ts:Nat→Bool} {bs:List (List Int)} {W':World} (h:KX w T P BB F N m ws ts bs G a k W) (hb:Below W.heap.size W W'):KX w T P BB F N m ws ts bs G a k W':=by
 obtain ⟨⟨d,f,i,l,n⟩,h4,o,b⟩:=h
 exact ⟨⟨d,f,i,l.kept hb,n⟩,h4.trans (Fr.of hb),o.fr (O:=TO T P BB F N) (Fr.of hb) (fun g hg e=>by have:=b g e;omega),b⟩
theorem take_snoc (hk:k < G.length):G.take (k+1)=G.take k++[G.getD k []]:=by
 rw[List.take_add_one,at_getD (d:=[]) hk]
 rfl
theorem KX.drop {BB m:Nat} {ws:Nat→List Int} {ts:Nat→Bool} {bs:List (List Int)} (h:KX w T P BB F N m ws ts bs G a k W) (hk:k < G.length) (hm:m≤16) (hI:BI m ws ts bs) (hG:∀ b ∈ G,b ∈ bs) (hS:G.Pairwise (fun a b=>el a 19 < el b 19)) :
  Calls Tryz.prog 158 #[.pointer (some ⟨T,0,none⟩),.agg (bdC (G.getD k []))] W fun e w'=>e=.returned .nilIface∧KX w T P BB F N m ws ts bs G a (k+1) w':=by
 obtain ⟨⟨d,x,p,y,z⟩,h4,A,r⟩:=h
 obtain ⟨b,hb⟩:∃ b,G.getD k []=b:=⟨_,rfl⟩
 have f:b ∈ G:=by rw[← hb];exact mem_getD hk
 obtain ⟨-,⟨i,H,B,C,-⟩,-⟩:=hI.1 b (hG b f)
 have l:∀ c ∈ G.take k,el c 19 < el b 19:=by
  intro c hc
  obtain ⟨j,n,rfl⟩:=List.mem_iff_getElem.1 hc
  rw[List.length_take] at n
  rw[List.pairwise_iff_getElem] at hS
  have:=hS j k (by omega) hk (by omega)
  rw[List.getElem_take]
  rw[← hb,getD_at hk]
  exact this
 have o:b ∈ d:=by
  rcases List.mem_append.1 (p.mem_iff.2 (hG b f)) with h|h
  ·exact absurd (l b h) (by omega)
  ·exact h
 have hp:=List.perm_cons_erase o
 obtain ⟨q,j,hq,n,rfl⟩:∃ q j,q < m∧j < 8∧i=8*q+j:=⟨i / 8,i % 8,by omega,by omega,by omega⟩
 have s:tsd ts (G.take k) (8*q+j)=true:=by
  unfold tsd
  rw[C,Bool.true_and,Bool.not_eq_true',List.any_eq_false]
  intro c hc
  have:=l c hc
  obtain ⟨-,⟨I,_,E,-⟩,-⟩:=hI.1 c (hG c (List.mem_of_mem_take hc))
  have:(el c 19 - 1024).toNat≠8*q+j:=by omega
  simpa using this
 rw[hb]
 refine (drop_any T P BB F N m x (tsd ts (G.take k)) d (d.erase b) b q j W y hp hm hq n s B).mono ?_
 rintro e w' ⟨rfl,D,t⟩
 have v:tsd ts (G.take (k+1))=upd (tsd ts (G.take k)) (8*q+j) false:=by
  rw[take_snoc hk,hb]
  exact tsd_snoc ts _ b _ (by omega)
 refine ⟨rfl,⟨d.erase b,_,?_,by rw[v];exact D,by rw[v];exact z.give q j⟩,h4.trans t,A.fr t (fun g hg e=>by have:=r g e;omega),r⟩
 rw[take_snoc hk,hb,List.append_assoc]
 exact (hp.append_left _).symm.trans p
theorem filter_parts {bs rs:List (List Int)} (p:List Int→Bool) (h:(bs.filter p++rs).Perm bs):rs.Perm (bs.filter fun b=>!p b):=by
 have a:=List.filter_append_perm p bs
 exact (List.perm_append_left_iff _).1 (h.trans a.symm)
theorem TC.perm {BB m:Nat} {ow:Nat→List Int} {ts:Nat→Bool} {bs bs':List (List Int)} (h:TC T P BB F N m ow ts bs w) (hp:bs.Perm bs'):TC T P BB F N m ow ts bs' w:=⟨h.1,h.2.1,h.2.2.1.perm (hp.map fE),h.2.2.2.1.perm (hp.map pE),h.2.2.2.2⟩
end
section
theorem now_new (w:World) (now:Int):(w.alloc (.cells #[.int .i64 now] 3)).cell? ⟨w.heap.size,0,none⟩=some (.int .i64 now):=cell_of_row _ _ 0 _ _ _ (heap_alloc_new w (.cells #[.int .i64 now] 3))
theorem bexpire_bad (v:Value) (now:Int) (w:World) (ht:tc now=false) :
  Calls Tryz.prog 106 #[v,.int .i64 now] w fun r w'=>r=.returned (.tuple #[.slice none 0 0,err 1])∧Below w.heap.size w w':=by
 have d:=ki (fun W=>uptoT now W)
 rw[ht] at d
 have a:=ki (al_below w (.cells #[.int .i64 now] 3))
 have c0:=now_new w now
 clear ht
 go_enter Tryz.func106,Tryz.ntmps106
 go_upto_region 1 with fail
 generalize w.alloc _=W at a c0 ⊢
 go_wp2_with (go_at_call 153;(with_reducible refine (d.o _).mono ?_);rintro e f ⟨rfl,b⟩;replace a:=ki (bt a.o b);clear b)
 go_ret2
 exact ⟨rfl,a.o⟩
attribute [local go_sem ↓] bload_shut
theorem bexpire_ok (T P BB F N m:Nat) (ws ow:Nat→List Int) (ts:Nat→Bool) (bs:List (List Int)) (now:Int) (w:World) (h:TC T P BB F N m ow ts bs w) (ha:Ag ws ow ts m) (hm:m≤16) (hl:bs.length≤128) (hI:BI m ws ts bs) (ht:tc now=true) :
  Calls Tryz.prog 106 #[.pointer (some ⟨T,0,none⟩),.int .i64 now] w fun r w'=>∃ a cap,r=.returned (.tuple #[.slice a (bs.filter (xp now)).length cap,.nilIface])∧KX w T P BB F N m ws ts bs (bs.filter (xp now)) a (bs.filter (xp now)).length w':=by
 have K:=ki (fun W=>uptoT now W)
 rw[ht] at K
 have o:=ki (al_below w (.cells #[.int .i64 now] 3))
 have c0:=now_new w now
 have q:=ki (show ∀ W,w.heap.size+1≤W.heap.size→Below w.heap.size w W→W.cell? ⟨w.heap.size,0,none⟩=some (.int .i64 now)→Calls Tryz.prog 109 #[.pointer (some ⟨T,0,none⟩),.func (.func 156) #[] #[.pointer (some ⟨w.heap.size,0,none⟩)]] W fun e w'=>∃ a cap,e=.returned (.slice a (bs.filter (xp now)).length cap)∧KX w T P BB F N m ws ts bs (bs.filter (xp now)) a 0 w' by
  intro W hs hW hc
  have M:=h.kept hW
  refine (those_any T P F N bs 156 #[.pointer (some ⟨w.heap.size,0,none⟩)] (px now) W M.1 M.2.2.1 hl (enters_of Tryz.func156 (by kernel_rfl) rfl) (fun b hb W' hW'=>old_any b w.heap.size now W' (by have:=hW'.size;omega) ((hW'.cell (p:=⟨w.heap.size,0,none⟩) (by show w.heap.size < W.heap.size;omega)).trans hc) ht (hI.1 b hb).2.2.1)).mono ?_
  rintro e w' ⟨v,l,rfl,O,U,V,h4⟩
  have X:bs.filter (px now)=bs.filter (xp now):=List.filter_congr fun b hb=>px_xp (okf_kind (hI.1 b hb).1)
  rw[X] at O
  have Y:=sorted_one _ l O U (hI.2.1.filter _)
  subst Y
  obtain ⟨a,cap,rfl,Z⟩:=V
  have B:Below w.heap.size w w':=hW.trans (h4.mono hW.size)
  refine ⟨a,cap,rfl,⟨bs,ow,by simp,by rw[List.take_zero,tsd_nil];exact h.kept B,by rw[List.take_zero,tsd_nil];exact ha⟩,Fr.of B,fun hp=>?_,fun g hg=>h.lt g hg⟩
  obtain ⟨g,s,e,f,y⟩:=Z hp
  exact ⟨g,s,e,⟨by omega,f.2⟩,y⟩)
 have x:=ki (show (∀ b ∈ bs.filter (xp now),b ∈ bs)∧(bs.filter (xp now)).Pairwise (fun a b=>el a 19 < el b 19)∧(bs.filter (xp now)).length≤128 from ⟨fun b hb=>(List.mem_filter.1 hb).1,hI.2.1.filter _,Nat.le_trans (List.length_filter_le _ _) hl⟩)
 generalize bs.filter (xp now)=G at q x ⊢
 have HD:=ki (show ∀ a k W,k < G.length→KX w T P BB F N m ws ts bs G a k W→Calls Tryz.prog 158 #[.pointer (some ⟨T,0,none⟩),.agg (bdC (G.getD k []))] W fun e w'=>e=.returned .nilIface∧KX w T P BB F N m ws ts bs G a (k+1) w' from fun a k W hk hK=>hK.drop hk hm hI x.o.1 x.o.2.1)
 have ab:=x.o.2.2
 clear h ha hm hl hI ht x
 have ac:(G.length:Int)≤128:=by omega
 go_enter Tryz.func106,Tryz.ntmps106
 go_upto_region 1 with fail
 have n:=ki (show w.heap.size+1≤(w.alloc (.cells #[.int .i64 now] 3)).heap.size by rw[World.size_alloc];exact Nat.le_refl _)
 generalize w.alloc _=W at o c0 n ⊢
 have z:=ki c0
 go_upto_region 4 with (first
  | (go_at_call 153;(with_reducible refine (K.o _).mono ?_);rintro e w1 ⟨rfl,i⟩;replace o:=ki (bt o.o i);replace z:=ki ((i.cell (p:=⟨w.heap.size,0,none⟩) n.o).trans z.o);replace n:=ki (Nat.le_trans n.o i.size);clear i c0)
  | (go_at_call 109;refine (q.o _ n.o o.o z.o).mono ?_;rintro e w2 ⟨a,cap,rfl,C⟩;have d:=ki C;clear C))
 clear q n z K o
 go_wp2
 go_loopw [20] (fun t wr=>∃ k:Nat,k≤G.length∧t=.int .i64 k∧Hid (KX w T P BB F N m ws ts bs G a k wr)) (fun t _=>G.length - (intOf t).toNat)
 case atStart=>exact ⟨0,by omega,rfl,d⟩
 case round =>
  clear d
  obtain ⟨k,hk,rfl,d⟩:=hrel
  by_cases f:k < G.length
  ·have E:=d.o.2.2.1
   obtain ⟨g,s,rfl,-,y⟩:=E (by omega)
   have Q:=row_bl (y k f)
   have H:=ki (fun W hW=>HD.o (some ⟨g,s,none⟩) k W f hW)
   generalize hbk:G.getD k []=bk at Q H
   clear y E hbk
   have j1:(k:Int) < (G.length:Int):=by omega
   have L:=ki (bd_zero wr)
   unfold zero23 at L
   go_upto_region 7 with (refine at_storeb rfl (.tmp 8) (.tmp 23) rfl rfl L.o bk rfl ?_;intro w5 A I;have R:=ki (d.o.kept (new_below _ I));replace A:=ki A;clear I)
   clear Q L d
   generalize wr.heap.size=D at A ⊢
   have gb:=A.o.bl
   go_wp2_with (go_at_call 158;refine (H.o _ R.o).mono ?_;rintro e w6 ⟨rfl,J⟩;have S:=ki J;clear J)
   go_roundw
   case rel=>exact ⟨k+1,by omega,by go_num,S⟩
   case measure=>simp[intOf];omega
  ·obtain rfl:G.length=k:=by omega
   go_wp2
   go_ret2
   exact ⟨a,cap,rfl,d.o⟩
theorem tb_expire:JExpire TB:=by
 rintro v m ws ts bs O w now n hl o b
 have d:=b
 obtain ⟨T,P,BB,F,N,p,rfl,h,q,rfl⟩:=b
 refine ⟨fun ht=>(bexpire_bad _ now w ht).mono fun r w' ⟨e1,e2⟩=>⟨_,e1,bdrow_nil 0 w',TQ.of tb_kept d e2⟩,fun ht=>?_⟩
 obtain ⟨s,t,x⟩:=es_all now bs ts
 rw[s,t,x]
 refine (bexpire_ok T P BB F N m ws p ts bs now w h q n hl o ht).mono ?_
 rintro r w' ⟨a,f,rfl,⟨A,g,i,k,l⟩,y,z,B⟩
 rw[List.take_length] at i k l
 exact ⟨_,rfl,(z.row f).weak,_,⟨T,P,BB,F,N,g,rfl,k.perm (filter_parts _ i),l,rfl⟩,y,fun _ e=>.inl e⟩
theorem tb_jr:JR TB:=⟨tb_near,tb_find,tb_all⟩
theorem tb_ji:JI TB:=⟨tb_kept,bcheck,tb_new,tb_make,tb_use,RNear.j tb_kept tb_near,RFind.j tb_kept tb_find,tb_expire,RAll.j tb_kept tb_all⟩
end
end Go.Proofs.YtgcojnlngchllaaGreatDoor
