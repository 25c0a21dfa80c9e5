/- The range over places, by the iterator's own contract: the four places behind so many bytes, the ninth byte left out. Into by contracts. What Into and Out reckon, in numbers: the four's bytes stand where the document says, and come out again. -/
import Derived.Test.YtgcojnlngchllaaGreatDoorK40
namespace Go.Proofs.YtgcojnlngchllaaGreatDoor
open Go.RowKit
set_option linter.unusedVariables false
set_option maxRecDepth 100000
set_option maxHeartbeats 40000000
namespace Em2
open Go.RowKit Go.Shelf
attribute [local go_sem] Oper.semAt_some
theorem opIn_out {F:Fence} {l n:Nat} {P:Program} {o:Oper} {a:Act} {w:World} {K:Act→World→Prop} {Q:Exit→Act→World→Prop} (hd:∀ c,o.op≠.defer c) (h:o.wpIn F n P a w K Q):o.wpIn (F.inRound l) n P a w K Q:=by
 unfold Oper.wpIn at h ⊢
 rw[Oper.semAt_eq _ _ _ hd] at h ⊢
 refine ⟨h.1,?_⟩
 have b:=h.2
 generalize (execOp a.eval o).run P w=r at b ⊢
 cases r with
 | ok x w'=>cases x <;> exact b
 | halt x w'=>cases x <;> exact b
theorem anyIn_out {F:Fence} {l n:Nat} {P:Program} {md:Region.Mode} {ops:Array Oper} {Q:Exit→Act→World→Prop} (hops:∀ (i:Nat) o,ops[i]? = some o→∀ c,o.op≠.defer c) :
  ∀ (fuel:Nat) (listed:Array Bool) (a:Act) (w:World),wpAnyIn F n P md ops Q fuel listed a w→wpAnyIn (F.inRound l) n P md ops Q fuel listed a w:=by
 intro fuel
 induction fuel with
 | zero=>intro listed a w h;exact h
 | succ fuel ih =>
  intro listed a w h
  refine ⟨h.1,fun i hi=>?_⟩
  have b:=wpOpIn_mono (fun a w=>ih (listed.setIfInBounds i true) a w) (h.2 i hi)
  unfold wpOpIn at b ⊢
  split
  ·rename_i e;simpa [e] using b
  ·rename_i o ho
   simp only[ho] at b
   split
   ·rename_i hw;simp only[hw,if_true] at b;exact opIn_out (hops i o ho) b
   ·rename_i hw;simp only[hw] at b;exact b
def noDefer (ops:Array Oper):Bool:=ops.toList.all fun o=>match o.op with | .defer _=>false|_=>true
theorem noDefer_spec {ops:Array Oper} (h:noDefer ops=true):∀ (i:Nat) o,ops[i]? = some o→∀ c,o.op≠.defer c:=by
 intro i o a c e
 unfold noDefer at h
 rw[List.all_eq_true] at h
 have:=h o (Array.mem_toList_iff.2 (Array.mem_of_getElem? a))
 rw[e] at this
 cases this
def pos (q i:Nat):Nat:=if q≤8∧8≤q+i then q+i+1 else q+i
def top (q k:Nat):Nat:=if q≤8∧8 < q+k then q+k+1 else q+k
theorem top_eight {q k:Nat} (h:top q k=8):pos q k=9∧top q (k+1)=10:=by
 unfold top at h ⊢
 unfold pos
 split at h
 ·omega
 ·constructor
  ·rw[if_pos (by omega)];omega
  ·rw[if_pos (by omega)];omega
theorem top_other {q k:Nat} (h:top q k≠8):pos q k=top q k∧top q (k+1)=top q k+1:=by
 unfold top at h ⊢
 unfold pos
 by_cases h1:q≤8∧8 < q+k
 ·rw[if_pos h1] at h
  rw[if_pos (by omega),if_pos h1,if_pos (by omega)]
  omega
 ·rw[if_neg h1] at h
  rw[if_neg h1,if_neg (by omega),if_neg (by omega)]
  omega
theorem top_le (q k:Nat):top q k≤q+k+1:=by unfold top;split <;> omega
def encP (q:Nat) (x:Fin 4):Array Value:=#[.int .i64 (x.val:Int),.int .i64 (pos q x.val:Int)]
def four4:List (Fin 4):=[0,1,2,3]
def first4 (k:Nat):List (Fin 4):=four4.take k
theorem first4_succ (k:Nat) (h:k < 4):first4 (k+1)=first4 k++[⟨k,h⟩]:=by
 rcases (by omega:k=0∨k=1∨k=2∨k=3) with rfl|rfl|rfl|rfl <;> rfl
theorem first4_len (k:Nat) (h:k≤4):(first4 k).length=k:=by
 rcases (by omega:k=0∨k=1∨k=2∨k=3∨k=4) with rfl|rfl|rfl|rfl|rfl <;> rfl
theorem places_in (n:Nat) (l Bn n₀:Nat) (q:Nat) (hq:q≤12) (J Jx:List (Fin 4)→World→Prop) (hn:1≤n)
  (hY:∀ pre x W,J pre W→pre.length < 4→YieldAt Fence.wide (n - 1) Tryz.prog l (encP q x) W fun e W' =>
   (e=.returned (.bool true)∧J (pre++[x]) W'∧Below n₀ W W')∨(e=.returned (.bool false)∧Jx (pre++[x]) W'))
  (W:World) (hBn:W.cell? ⟨Bn,0,none⟩=some (.int .i64 (8*q))) (h0:J [] W) :
  CallsIn Fence.wide n Tryz.prog 249 #[.func (.yield l) #[] #[],.pointer (some ⟨Bn,0,none⟩)] W fun e W'=>(∃ v,e=.returned v) ∧
   ((∃ ys,ys=four4∧J ys W')∨(∃ pre,True∧Jx pre W')):=by
 have hd:(8*(q:Int)).tdiv 8=q:=by rw[Int.tdiv_eq_ediv_of_nonneg (by omega)];omega
 refine callsIn_of_wp Tryz.func249 rfl trivial ?_ rfl
 simp only[Tryz.ntmps249,List.size_toArray,List.length_cons,List.length_nil,Nat.reduceAdd,Nat.reduceSub,Array.replicate_succ,Array.replicate_zero,List.push_toArray,List.append_toArray,List.nil_append,List.cons_append]
 gi_wp2
 gi_loopw [3,7] (fun p i wr=>∃ (k P:Nat),k≤4∧P≤17∧Hid (P=top q k)∧p=.int .i64 P∧i=.int .i64 k∧Hid (J (first4 k) wr)) (fun _ i _=>4 - (intOf i).toNat)
 case atStart=>exact ⟨0,q,by omega,by omega,ki (by unfold top;rw[if_neg (by omega)];rfl),rfl,rfl,h0⟩
 case round =>
  obtain ⟨k,P,z,D,o,rfl,rfl,t⟩:=hrel
  clear hd hBn
  by_cases hlt:k < 4
  ·obtain ⟨E,A,w,body,r,s⟩:=hY (first4 k) ⟨k,hlt⟩ wr t.out (by rw[first4_len k z];exact hlt)
   dsimp only[encP] at r
   rw[← first4_succ k hlt] at s
   by_cases h8:P=8
   ·have b:=top_eight (o.out.symm.trans h8)
    have g:=ki b.2
    rw[b.1,show ((9:Nat):Int)=9 from rfl] at r
    subst h8
    clear b
    gi_wp2
    refine s.mono ?_
    rintro e B (⟨rfl,f,y⟩|⟨rfl,d⟩)
    ·have a:=ki f
     gi_wp2
     go_roundw
     case rel=>exact ⟨k+1,10,by omega,by omega,ki g.out.symm,by go_num,by go_num,a⟩
     case measure=>simp[intOf];omega
    ·have a:=ki d
     gi_wp2
     refine bodyPost_ret (results_none rfl _ _ _) rfl ?_
     exact ⟨⟨_,rfl⟩,.inr ⟨_,trivial,a.out⟩⟩
   ·have b:=top_other (fun h=>h8 (o.out.trans h))
    rw[← o.out] at b
    have g:=ki b.2
    rw[b.1] at r
    clear b
    have C:((P:Int) == 8)=false:=by rw[beq_eq_false_iff_ne];omega
    gi_wp2
    refine s.mono ?_
    rintro e B (⟨rfl,f,y⟩|⟨rfl,d⟩)
    ·have a:=ki f
     gi_wp2
     go_roundw
     case rel=>exact ⟨k+1,P+1,by omega,by have:=top_le q (k+1);rw[g.out] at this;omega,ki g.out.symm,by go_num,by go_num,a⟩
     case measure=>simp[intOf];omega
    ·have a:=ki d
     gi_wp2
     refine bodyPost_ret (results_none rfl _ _ _) rfl ?_
     exact ⟨⟨_,rfl⟩,.inr ⟨_,trivial,a.out⟩⟩
  ·obtain rfl:k=4:=by omega
   gi_wp2
   go_end0
   exact ⟨⟨_,rfl⟩,.inl ⟨_,rfl,t.out⟩⟩
theorem places_stops (n:Nat) (hn:1≤n) (Bn n₀ q:Nat) (hq:q≤12) (w:World) (hBn:Bn < w.heap.size) (hc:w.cell? ⟨Bn,0,none⟩=some (.int .i64 (8*q))) :
  SeqStopsK Fence.wide n Tryz.prog 249 #[.pointer (some ⟨Bn,0,none⟩)] (encP q) (Below n₀) (fun ys=>ys=four4) (fun _=>True) 4 w:=fun l J Jx W hW _ _ hY h0 =>
 places_in n l Bn n₀ q hq J Jx hn hY W ((hW.cell (p:=⟨Bn,0,none⟩) hBn).trans hc) h0
end Em2
namespace Em2
open Go.RowKit Go.Shelf
variable {z':List Int} {B:Nat} {w:World}
attribute [local go_sem] Oper.semAt_some
def fb (f:Int) (i:Nat):Int:=f / (2:Int) ^ (24 - 8*i) % 256
theorem pos_lt {q i:Nat} (hq:q≤12) (hi:i < 4):pos q i < 16:=by unfold pos;split <;> omega
def stp (q:Nat) (f:Int) (z:List Int) (i:Fin 4):List Int:=(List.range 8).map fun j=>if j=pos q i.val / 2 then bits .or .i64 (el z j) (if pos q i.val % 2=0 then fb f i.val*256 else fb f i.val) else el z j
def stz (q:Nat) (f:Int) (z:List Int) (pre:List (Fin 4)):List Int:=pre.foldl (stp q f) z
theorem el_stp (q:Nat) (f:Int) (z:List Int) (i:Fin 4) (j:Nat) (hj:j < 8):el (stp q f z i) j=if j=pos q i.val / 2 then bits .or .i64 (el z j) (if pos q i.val % 2=0 then fb f i.val*256 else fb f i.val) else el z j:=by
 simp[el,stp,List.getD,hj]
theorem stz_snoc (q:Nat) (f:Int) (z:List Int) (pre:List (Fin 4)) (i:Fin 4):stz q f z (pre++[i])=stp q f (stz q f z pre) i:=by simp[stz]
theorem six_own {β:Type} (B:Nat) (z:β→List Int):Own (fun s W=>SixIn B (z s) W):=fun s W W' row hs hg hr =>
 (hg.block B hs.lt (fun e=>by
  obtain ⟨o,ho,hc⟩:=hr B e.symm
  have hs':W.heap[B]? = some (.cells (sixC (z s)) 23 (0,0)):=hs
  rw[hs'] at ho
  cases ho
  simp[Obj.isCells] at hc)).trans hs
def W8 (w:World) (B:Nat) (z:List Int):World:=(((((((w.setCell ⟨B,0,none⟩ (.int .i64 (el z 0))).setCell ⟨B,1,none⟩ (.int .i64 (el z 1))).setCell ⟨B,2,none⟩ (.int .i64 (el z 2))).setCell ⟨B,3,none⟩ (.int .i64 (el z 3))).setCell ⟨B,4,none⟩ (.int .i64 (el z 4))).setCell ⟨B,5,none⟩ (.int .i64 (el z 5))).setCell ⟨B,6,none⟩ (.int .i64 (el z 6))).setCell ⟨B,7,none⟩ (.int .i64 (el z 7))
def mix (z z':List Int) (k:Nat):List Int:=(List.range 8).map fun j=>if j < k then el z j else el z' j
theorem el_mix (z z':List Int) (k j:Nat) (hj:j < 8):el (mix z z' k) j=if j < k then el z j else el z' j:=by
 simp[el,mix,List.getD,hj]
theorem SixIn.put1 {z:List Int} (k:Nat) (hk:k < 8) (h:SixIn B (mix z z' k) w):SixIn B (mix z z' (k+1)) (w.setCell ⟨B,k,none⟩ (.int .i64 (el z k))) :=
 h.set k hk (el z k) (mix z z' (k+1)) (fun j hj=>by
  rw[el_mix z z' (k+1) j hj,el_mix z z' k j hj]
  by_cases e:j=k
  ·subst e;rw[if_pos (by omega),if_pos rfl]
  ·rw[if_neg e]
   by_cases h:j < k
   ·rw[if_pos h,if_pos (by omega)]
   ·rw[if_neg h,if_neg (by omega)])
theorem sixC_congr {z:List Int} (h:∀ j,j < 8→el z j=el z' j):sixC z=sixC z':=by
 unfold sixC
 rw[h 0 (by omega),h 1 (by omega),h 2 (by omega),h 3 (by omega),h 4 (by omega),h 5 (by omega),h 6 (by omega),h 7 (by omega)]
theorem SixIn.put8 (h:SixIn B z' w) (z:List Int):SixIn B z (W8 w B z):=by
 have a:SixIn B (mix z z' 0) w:=by
  unfold SixIn at h ⊢
  rw[sixC_congr (fun j hj=>by rw[el_mix z z' 0 j hj,if_neg (by omega)]:∀ j,j < 8→el (mix z z' 0) j=el z' j)]
  exact h
 have h8:=(((((((a.put1 0 (by omega)).put1 1 (by omega)).put1 2 (by omega)).put1 3 (by omega)).put1 4 (by omega)).put1 5 (by omega)).put1 6 (by omega)).put1 7 (by omega)
 unfold SixIn at h8 ⊢
 rw[sixC_congr (fun j hj=>by rw[el_mix z z' (7+1) j hj,if_pos (by omega)]:∀ j,j < 8→el (mix z z' (7+1)) j=el z j)] at h8
 exact h8
theorem keeps8 (w:World) (B:Nat) (z:List Int):KeepsOthers w (W8 w B z) :=
 (((((((KeepsOthers.setCell _ _ _).trans (KeepsOthers.setCell _ _ _)).trans (KeepsOthers.setCell _ _ _)).trans (KeepsOthers.setCell _ _ _)).trans (KeepsOthers.setCell _ _ _)).trans (KeepsOthers.setCell _ _ _)).trans (KeepsOthers.setCell _ _ _)).trans (KeepsOthers.setCell _ _ _)
theorem below8 {n₀:Nat} {w0:World} (h:Below n₀ w0 w) (hB:n₀≤B) (z:List Int):Below n₀ w0 (W8 w B z) :=
 (((((((h.setCell hB _).setCell hB _).setCell hB _).setCell hB _).setCell hB _).setCell hB _).setCell hB _).setCell hB _
theorem i64_and255 (n:Int):bits .and .i64 n 255=n % 256:=by
 have h:(BitVec.ofInt 64 255).toNat=2 ^ 8 - 1:=by decide
 have a:(BitVec.ofInt 64 n &&& BitVec.ofInt 64 255).toNat=(n % ((2 ^ 64:Nat):Int)).toNat % 2 ^ 8:=by
  rw[BitVec.toNat_and,BitVec.toNat_ofInt,h,Nat.and_two_pow_sub_one_eq_mod]
 show IntKind.i64.wrap ((BitVec.ofInt 64 n &&& BitVec.ofInt 64 255).toNat:Nat)=n % 256
 rw[a,IntKind.wrap_i64]
 omega
theorem boxed_kept {W W':World} {t:TypeId} {v:Value} (h:Boxed W B t v) (hb:Below W.heap.size W W'):Boxed W' B t v:=(hb.block B h.lt).trans h
theorem into_ok (p:List Int) (q:Nat) (f:Int) (w:World) (h:Ok6 p) (hn:LongP (8*q)) (hs:shp p q=false) (hf:IsF f) :
  Calls Tryz.prog 238 #[six p,.int .i64 (8*q),.int .i64 f] w fun e w'=>e=.returned (.tuple #[six (stz q f p four4),.nilIface])∧Below w.heap.size w w':=by
 have R:=fun w=>echeck_shape p q w h hn
 rw[hs] at R
 have hq:q≤12:=by unfold LongP at hn;omega
 have HF:=ki hf
 clear hs hn h hf
 have T:=six_new p w
 have y:Below w.heap.size w (w.alloc (.cells #[.int .i64 (el p 0),.int .i64 (el p 1),.int .i64 (el p 2),.int .i64 (el p 3),.int .i64 (el p 4),.int .i64 (el p 5),.int .i64 (el p 6),.int .i64 (el p 7)] 23)):=(Below.refl _ _).alloc (Nat.le_refl _) _
 have U:=Boxed.new (w.alloc (.cells #[.int .i64 (el p 0),.int .i64 (el p 1),.int .i64 (el p 2),.int .i64 (el p 3),.int .i64 (el p 4),.int .i64 (el p 5),.int .i64 (el p 6),.int .i64 (el p 7)] 23)) 3 (.int .i64 f)
 have z:=y.alloc (y.size) (.cells #[.int .i64 f] 3)
 have V:=T.kept ((Below.refl _ _).alloc (Nat.le_refl _) (.cells #[.int .i64 f] 3))
 have b:=noughts_in ((w.alloc (.cells #[.int .i64 (el p 0),.int .i64 (el p 1),.int .i64 (el p 2),.int .i64 (el p 3),.int .i64 (el p 4),.int .i64 (el p 5),.int .i64 (el p 6),.int .i64 (el p 7)] 23)).alloc (.cells #[.int .i64 f] 3))
 have g:=z.alloc (z.size) (.cells #[.int .i64 0,.int .i64 0,.int .i64 0,.int .i64 0,.int .i64 0,.int .i64 0,.int .i64 0,.int .i64 0] 23)
 have A:=V.kept ((Below.refl _ _).alloc (Nat.le_refl _) (.cells #[.int .i64 0,.int .i64 0,.int .i64 0,.int .i64 0,.int .i64 0,.int .i64 0,.int .i64 0,.int .i64 0] 23))
 have k:=U.alloc (.cells #[.int .i64 0,.int .i64 0,.int .i64 0,.int .i64 0,.int .i64 0,.int .i64 0,.int .i64 0,.int .i64 0] 23)
 unfold noughts at b
 simp only[World.size_alloc] at b k
 clear T y U z V
 obtain ⟨W0,hW0⟩:∃ W0,W0=((w.alloc (.cells #[.int .i64 (el p 0),.int .i64 (el p 1),.int .i64 (el p 2),.int .i64 (el p 3),.int .i64 (el p 4),.int .i64 (el p 5),.int .i64 (el p 6),.int .i64 (el p 7)] 23)).alloc (.cells #[.int .i64 f] 3)).alloc (.cells #[.int .i64 0,.int .i64 0,.int .i64 0,.int .i64 0,.int .i64 0,.int .i64 0,.int .i64 0,.int .i64 0] 23):=⟨_,rfl⟩
 rw[← hW0] at b g A k
 have HW:=ki hW0
 clear hW0
 unfold six at R ⊢
 refine (callsIn_wide (n:=3)).1 ?_
 refine callsIn_of_wp_marks Tryz.func238 rfl trivial ?_ rfl
 simp only[Tryz.ntmps238,List.size_toArray,List.length_cons,List.length_nil,Nat.reduceAdd,Nat.reduceSub,Array.replicate_succ,Array.replicate_zero,List.push_toArray,List.append_toArray,List.nil_append,List.cons_append]
 gi_wp2_with (first
  | (refine ⟨trivial,?_⟩;gi_at_call 72;refine (callsIn_wide.2 (R _)).mono ?_;rintro e w1 ⟨rfl,a⟩;rw[← HW.out] at a;have B:=boxed_kept k a;have C:=A.kept a;have Z:=b.kept a;have aa:=g.trans (a.mono g.size);have cf:=B.cell;clear k A b g)
  | (refine ⟨trivial,?_⟩;gi_at_call 73;refine (callsIn_wide.2 (c4_ok _ _ HF.out)).mono ?_;rintro e E ⟨rfl,rfl⟩)
  | (refine ⟨trivial,?_⟩;gi_at_call 198;refine (callsIn_wide.2 (places_any _ _)).mono ?_;rintro e w3 ⟨rfl,rfl⟩))
 have bN:=Boxed.new E 3 (.int .i64 (8*q))
 have G:=C.kept ((Below.refl _ _).alloc (Nat.le_refl _) (.cells #[.int .i64 (8*q)] 3))
 have H:=Z.kept ((Below.refl _ _).alloc (Nat.le_refl _) (.cells #[.int .i64 (8*q)] 3))
 have I:=B.alloc (.cells #[.int .i64 (8*q)] 3)
 have J:=aa.alloc aa.size (.cells #[.int .i64 (8*q)] 3)
 have av:w.heap.size < E.heap.size:=C.lt
 clear C Z B cf a R HW W0
 refine wpIn_rangeFunc_ownF rfl (by omega) (gf:=249) (lb:=#[.pointer (some ⟨E.heap.size,0,none⟩)]) rfl trivial (enters_of Tryz.func249 (by kernel_rfl) rfl)
  (places_stops _ (by omega) E.heap.size w.heap.size q hq _ (by simp) bN.cell) belowK_t (belowK_b (by simp;omega)) (Below.refl _ _) (fun _=>rfl)
  (fun pre W=>(SixIn w.heap.size (stz q f p pre) W∧Boxed W (w.heap.size+1) 3 (.int .i64 f)∧SixIn (w.heap.size+1+1) [] W)∧Below w.heap.size w W)
  (fun _ _ _=>False)
  (OwnFrom.and (OwnFrom.and (Own.from (six_own _ _) _) (OwnFrom.and (Own.from (boxed_own _ _ _) _) (Own.from (six_own _ _) _))) (ownFrom_below (Nat.le_refl _) (by simp;omega)))
  (fun _ _ _ _ _ hs _ _=>hs)
  ⟨⟨G,I,H⟩,J⟩
  (fun x=>{ tmps:=#[.agg #[.int .i64 (el p 0),.int .i64 (el p 1),.int .i64 (el p 2),.int .i64 (el p 3),.int .i64 (el p 4),.int .i64 (el p 5),.int .i64 (el p 6),.int .i64 (el p 7)],.int .i64 (8*q),.int .i64 f,.pointer (some ⟨w.heap.size,0,none⟩),undef,.pointer (some ⟨w.heap.size+1,0,none⟩),.pointer (some ⟨w.heap.size+1+1,0,none⟩),.nilIface,.nilIface,.nilIface,.int .i64 (x.val:Int),.int .i64 (pos q x.val:Int),undef,.agg #[.int .i64 (el p 0),.int .i64 (el p 1),.int .i64 (el p 2),.int .i64 (el p 3),.int .i64 (el p 4),.int .i64 (el p 5),.int .i64 (el p 6),.int .i64 (el p 7)],.int .i64 (8*q),.nilIface,.nilIface,.bool false,undef,undef,.int .i64 f,.nilIface,.nilIface,.bool false,undef,undef,.int .i64 (8*q),.func (.func 249) #[] #[.pointer (some ⟨E.heap.size,0,none⟩)],.int .i64 (x.val:Int),.int .i64 (pos q x.val:Int),undef,undef,undef,undef,undef,undef,undef,undef,undef,undef,undef,undef,undef,undef,undef,undef,undef,undef,undef],defers:=[] }) ?assign ?body ?done ?stop
 case assign =>
  intro l x W K hK
  dsimp only[encP]
  gi_wp2
  exact hK
 case body =>
  rintro l pre ⟨i,hi⟩ W ⟨⟨L,M,t⟩,hB⟩ -
  have cf:=M.cell
  have S:=ki L
  have ab:=ki M
  have N:=ki t
  clear L M t G H I J bN
  have hP:=pos_lt hq hi
  dsimp only
  generalize hPx:pos q i=P at hP
  have HP:=ki hPx
  clear hPx
  have bm:Tryz.prog.follows .mixedOrders=true:=by kernel_rfl
  gi_wp2
  rw[i64_and255]
  have aj:0≤f / (2:Int) ^ (24 - 8*i) % 256:=Int.emod_nonneg _ (by decide)
  have ak:f / (2:Int) ^ (24 - 8*i) % 256 < 256:=Int.emod_lt_of_pos _ (by decide)
  generalize hXe:f / (2:Int) ^ (24 - 8*i) % 256=X at aj ak
  have HX:=ki (show fb f i=X from hXe)
  clear hXe
  have hc:=(S.out.facts (P / 2) (by omega)).1
  have an:=(S.out.facts (P / 2) (by omega)).2.1
  have d:=ki (show SixIn w.heap.size (stz q f p (pre++[⟨i,hi⟩])) (W.setCell ⟨w.heap.size,P / 2,none⟩ (.int .i64 (bits .or .i64 (el (stz q f p pre) (P / 2)) (if P % 2=0 then X*256 else X)))) from by
   rw[stz_snoc]
   refine S.out.set (P / 2) (by omega) _ _ (fun j hj=>?_)
   rw[el_stp q f _ _ j hj]
   dsimp only
   rw[HP.out,HX.out]
   by_cases e:j=P / 2
   ·subst e;rw[if_pos rfl]
   ·rw[if_neg e,if_neg e])
  generalize el (stz q f p pre) (P / 2)=Y at hc d
  have g0:IntKind.i64.wrap 0=0:=by decide
  have g1:IntKind.i64.wrap 1=1:=by decide
  have g2:IntKind.i64.wrap 2=2:=by decide
  have g3:IntKind.i64.wrap 3=3:=by decide
  have g4:IntKind.i64.wrap 4=4:=by decide
  have g5:IntKind.i64.wrap 5=5:=by decide
  have g6:IntKind.i64.wrap 6=6:=by decide
  have g7:IntKind.i64.wrap 7=7:=by decide
  have g8:IntKind.i64.wrap 8=8:=by decide
  have gx:IntKind.i64.wrap (X*256)=X*256:=by rw[IntKind.wrap_i64];omega
  have gy:IntKind.i64.wrap X=X:=by rw[IntKind.wrap_i64];omega
  have ao:=ki (show ∀ (o:Nat) v,Boxed (W.setCell ⟨w.heap.size,o,none⟩ v) (w.heap.size+1) 3 (.int .i64 f) from fun o v=>(Below.heap_setCell W ⟨w.heap.size,o,none⟩ v (w.heap.size+1) (by simp)).trans ab.out)
  have ap:=ki (show ∀ (o:Nat) v,SixIn (w.heap.size+1+1) [] (W.setCell ⟨w.heap.size,o,none⟩ v) from fun o v=>N.out.other ⟨w.heap.size,o,none⟩ (by simp;omega) v)
  clear S ab N HP HX
  rcases (by omega:P=0∨P=1∨P=2∨P=3∨P=4∨P=5∨P=6∨P=7∨P=8∨P=9∨P=10∨P=11∨P=12∨P=13∨P=14∨P=15) with rfl|rfl|rfl|rfl|rfl|rfl|rfl|rfl|rfl|rfl|rfl|rfl|rfl|rfl|rfl|rfl
  all_goals
   simp only[Nat.reduceDiv,Nat.reduceMod,reduceIte,Nat.one_ne_zero,Nat.zero_div,Nat.zero_mod] at hc an d
   refine wpIn_region_any (by assumption) ?_
   refine anyIn_out (F:=Fence.wide) (noDefer_spec (by kernel_rfl)) _ _ _ _ ?_
   change wpAnyIn _ _ _ _ _ _ _ _ _ (World.drew _)
   refine wpAnyIn_take (i:=0) (v:=?_) rfl rfl (by kernel_rfl) (by kernel_rfl) (by kernel_rfl) (fun _ _ _ h=>h) ⟨Or.inl ⟨by rfl,?_⟩,fun _=>rfl⟩ ?_
   rotate_left 1
   ·intro w;go_simp;try with_reducible rfl
   refine wpAnyIn_take (i:=1) (v:=?_) rfl rfl (by kernel_rfl) (by kernel_rfl) (by kernel_rfl) (fun _ _ _ h=>h) ⟨Or.inl ⟨by rfl,?_⟩,fun _=>rfl⟩ ?_
   rotate_left 1
   ·intro w;go_simp;try with_reducible rfl
   refine wpAnyIn_take (i:=2) (v:=?_) rfl rfl (by kernel_rfl) (by kernel_rfl) (by kernel_rfl) (fun _ _ _ h=>h) ⟨Or.inl ⟨by rfl,?_⟩,fun _=>rfl⟩ ?_
   rotate_left 1
   ·intro w;go_simp;try with_reducible rfl
   refine wpAnyIn_take (i:=4) (v:=?_) rfl rfl (by kernel_rfl) (by kernel_rfl) (by kernel_rfl) (fun _ _ _ h=>h) ⟨Or.inl ⟨by rfl,?_⟩,fun _=>rfl⟩ ?_
   rotate_left 1
   ·intro w;go_simp;try with_reducible rfl
   refine wpAnyIn_take (i:=5) (v:=?_) rfl rfl (by kernel_rfl) (by kernel_rfl) (by kernel_rfl) (fun _ _ _ h=>h) ⟨Or.inl ⟨by rfl,?_⟩,fun _=>rfl⟩ ?_
   rotate_left 1
   ·intro w;go_simp;try with_reducible rfl
   refine wpAnyIn_take (i:=6) (v:=?_) rfl rfl (by kernel_rfl) (by kernel_rfl) (by kernel_rfl) (fun _ _ _ h=>h) ⟨Or.inl ⟨by rfl,?_⟩,fun _=>rfl⟩ ?_
   rotate_left 1
   ·intro w;go_simp;try with_reducible rfl
   refine wpAnyIn_take (i:=7) (v:=?_) rfl rfl (by kernel_rfl) (by kernel_rfl) (by kernel_rfl) (fun _ _ _ h=>h) ⟨Or.inl ⟨by rfl,?_⟩,fun _=>rfl⟩ ?_
   rotate_left 1
   ·intro w;go_simp;try with_reducible rfl
   refine wpAnyIn_take (i:=8) (v:=?_) rfl rfl (by kernel_rfl) (by kernel_rfl) (by kernel_rfl) (fun _ _ _ h=>h) ⟨Or.inl ⟨by rfl,?_⟩,fun _=>rfl⟩ ?_
   rotate_left 1
   ·intro w;go_simp;try with_reducible rfl
   refine wpAnyIn_take (i:=9) (v:=?_) rfl rfl (by kernel_rfl) (by kernel_rfl) (by kernel_rfl) (fun _ _ _ h=>h) ⟨Or.inl ⟨by rfl,?_⟩,fun _=>rfl⟩ ?_
   rotate_left 1
   ·intro w;go_simp;try with_reducible rfl
   refine wpAnyIn_ready (rs:=[3]) (by kernel_rfl) (by simp) ?_
   refine AllReadyIn.cons rfl (fun K hK=>?_) AllReadyIn.nil
   go_simp
   refine hK _ _ ?_
   clear hK K
   refine wpAnyIn_take (i:=10) (v:=?_) rfl rfl (by kernel_rfl) (by kernel_rfl) (by kernel_rfl) (fun _ _ _ h=>h) ⟨Or.inl ⟨by rfl,?_⟩,fun _=>rfl⟩ ?_
   rotate_left 1
   ·intro w;go_simp;try with_reducible rfl
   refine wpAnyIn_take (i:=11) (v:=?_) rfl rfl (by kernel_rfl) (by kernel_rfl) (by kernel_rfl) (fun _ _ _ h=>h) ⟨Or.inl ⟨by rfl,?_⟩,fun _=>rfl⟩ ?_
   rotate_left 1
   ·intro w;go_simp;try with_reducible rfl
   refine wpAnyIn_ready (rs:=[12]) (by kernel_rfl) (by simp) ?_
   refine AllReadyIn.cons rfl (fun K hK=>?_) AllReadyIn.nil
   go_simp
   refine hK _ _ ?_
   clear hK K
   refine wpAnyIn_done (by kernel_rfl) ?_ _
   exact ⟨(KeepsOthers.setCell _ _ _).trans (KeepsOthers.drew _),((Below.refl w.heap.size W).setCell (Nat.le_refl _) _).drew,⟨d.out,ao.out _ _,ap.out _ _⟩,(hB.setCell (Nat.le_refl _) _).drew⟩
 case done =>
  rintro D ys W hD rfl ⟨⟨L,M,t⟩,hB⟩ hK
  obtain ⟨⟨q0,-,-⟩,⟨q1,-,-⟩,⟨q2,-,-⟩,⟨q3,-,-⟩,⟨q4,-,-⟩,⟨q5,-,-⟩,⟨q6,-,-⟩,⟨q7,-,-⟩⟩:=L.all
  obtain ⟨⟨c0,f0,-⟩,⟨c1,f1,-⟩,⟨c2,f2,-⟩,⟨c3,f3,-⟩,⟨c4,f4,-⟩,⟨c5,f5,-⟩,⟨c6,f6,-⟩,⟨c7,f7,-⟩⟩:=t.all
  have N:=ki t
  have HK:=ki hK
  clear L t M hK G H I J bN
  gi_wp2
  have h8:=N.out.put8 (stz q f p four4)
  have O:=keeps8 W (w.heap.size+1+1) (stz q f p four4)
  have Q:=below8 hB (Nat.le_trans (Nat.le_succ _) (Nat.le_succ _)) (stz q f p four4)
  unfold W8 at h8 O Q
  have r:=O.same D _ HK.out rfl
  have h9:=(six_own (β:=Unit) (w.heap.size+1+1) (fun _=>stz q f p four4)).putObj (s:=()) (.deferred none) h8 r rfl
  obtain ⟨⟨d0,-,-⟩,⟨d1,-,-⟩,⟨d2,-,-⟩,⟨d3,-,-⟩,⟨d4,-,-⟩,⟨d5,-,-⟩,⟨d6,-,-⟩,⟨d7,-,-⟩⟩:=h9.all
  refine ⟨by simp,.inl ⟨_,_,rfl,run_takeDeferred r,?_⟩⟩
  refine ⟨.tuple #[six (stz q f p four4),.nilIface],?_,rfl,Q.trans (belowK_b (w:=w) (Nat.le_refl _) _ D _ _ (by simp at hD;omega) r rfl rfl)⟩
  clear N HK h8 O Q r h9 q0 q1 q2 q3 q4 q5 q6 q7 c0 c1 c2 c3 c4 c5 c6 c7 f0 f1 f2 f3 f4 f5 f6 f7
  unfold six
  simp[results,Tryz.results238,go_sem,d0,d1,d2,d3,d4,d5,d6,d7]
 case stop =>
  rintro D c pre W _ _ h _
  exact h.elim
end Em2
namespace Em2
open Go.RowKit Go.Shelf
theorem or8 (a x:Nat) (ha:a < 16777216) (hx:x≤255):bits .or .i64 ((a*256:Nat):Int) (x:Int)=((a*256+x:Nat):Int):=by
 have d:(BitVec.ofInt 64 ((a*256:Nat):Int)).toNat=a*256:=by rw[BitVec.toNat_ofInt];omega
 have e:(BitVec.ofInt 64 ((x:Nat):Int)).toNat=x:=by rw[BitVec.toNat_ofInt];omega
 have b:(BitVec.ofInt 64 ((a*256:Nat):Int) ||| BitVec.ofInt 64 ((x:Nat):Int)).toNat=a*256+x:=by
  rw[BitVec.toNat_or,d,e]
  have:=Nat.shiftLeft_add_eq_or_of_lt (show x < 2 ^ 8 by omega) a
  rw[Nat.shiftLeft_eq] at this
  exact this.symm
 show IntKind.i64.wrap (((BitVec.ofInt 64 ((a*256:Nat):Int) ||| BitVec.ofInt 64 ((x:Nat):Int)).toNat:Nat):Int)=_
 rw[b,IntKind.wrap_i64]
 omega
theorem or_lo (a x:Int) (ha:0≤a) (ha2:a < 16777216) (hx:0≤x) (hx2:x < 256):bits .or .i64 (a*256) x=a*256+x:=by
 obtain ⟨m,rfl⟩:=Int.eq_ofNat_of_zero_le ha
 obtain ⟨k,rfl⟩:=Int.eq_ofNat_of_zero_le hx
 have:=or8 m k (by omega) (by omega)
 rw[show ((m*256:Nat):Int)=(m:Int)*256 by omega,show ((m*256+k:Nat):Int)=(m:Int)*256+(k:Int) by omega] at this
 exact this
theorem or_zero (y:Int) (hy:0≤y) (hy2:y < 65536):bits .or .i64 0 y=y:=by
 obtain ⟨k,rfl⟩:=Int.eq_ofNat_of_zero_le hy
 have b:(BitVec.ofInt 64 ((k:Nat):Int)).toNat=k:=by rw[BitVec.toNat_ofInt];omega
 have a:(BitVec.ofInt 64 0 ||| BitVec.ofInt 64 ((k:Nat):Int)).toNat=k:=by
  rw[BitVec.toNat_or,b];simp
 show IntKind.i64.wrap (((BitVec.ofInt 64 0 ||| BitVec.ofInt 64 ((k:Nat):Int)).toNat:Nat):Int)=_
 rw[a,IntKind.wrap_i64]
 omega
def nb (p:List Int) (q:Nat) (f:Int) (i:Nat):Int:=if i=pos q 0 then fb f 0 else if i=pos q 1 then fb f 1 else if i=pos q 2 then fb f 2 else if i=pos q 3 then fb f 3 else byt p i
def tw (p:List Int) (q:Nat) (f:Int) (j:Nat):Int:=nb p q f (2*j)*256+nb p q f (2*j+1)
theorem fb_in (f:Int) (i:Nat):0≤fb f i∧fb f i < 256:=⟨Int.emod_nonneg _ (by decide),Int.emod_lt_of_pos _ (by decide)⟩
theorem el_byt (p:List Int) (j:Nat):el p j=byt p (2*j)*256+byt p (2*j+1):=by
 unfold byt
 rw[if_pos (by omega),if_neg (by omega),show 2*j / 2=j by omega,show (2*j+1) / 2=j by omega]
 omega
theorem into4 (p:List Int) (f:Int) (hs:shp p 4=false):∀ j,j < 8→el (stz 4 f p four4) j=tw p 4 f j:=by
 intro j a
 have k:=shp_no hs 4 (by omega) (by omega)
 have l:=shp_no hs 5 (by omega) (by omega)
 have n:=shp_no hs 6 (by omega) (by omega)
 have z7:=shp_no hs 7 (by omega) (by omega)
 have o:=shp_no hs 8 (by omega) (by omega)
 have q:=shp_no hs 9 (by omega) (by omega)
 have b:=shp_no hs 10 (by omega) (by omega)
 have d:=shp_no hs 11 (by omega) (by omega)
 have e:=shp_no hs 12 (by omega) (by omega)
 have g:=shp_no hs 13 (by omega) (by omega)
 have h:=shp_no hs 14 (by omega) (by omega)
 have i:=shp_no hs 15 (by omega) (by omega)
 have r:((3:Fin 4).val)=3:=rfl
 have f0:=fb_in f 0
 have f1:=fb_in f 1
 have s:=fb_in f 2
 have t:=fb_in f 3
 have v:=or_zero (fb f 0) (by omega) (by omega)
 have w:=or_zero (fb f 0*256) (by omega) (by omega)
 have x:=or_zero (fb f 1) (by omega) (by omega)
 have y:=or_zero (fb f 1*256) (by omega) (by omega)
 have z:=or_zero (fb f 2) (by omega) (by omega)
 have A:=or_zero (fb f 2*256) (by omega) (by omega)
 have B:=or_zero (fb f 3) (by omega) (by omega)
 have C:=or_zero (fb f 3*256) (by omega) (by omega)
 have D:=or_lo (fb f 0) (fb f 1) (by omega) (by omega) (by omega) (by omega)
 have E:=or_lo (fb f 1) (fb f 2) (by omega) (by omega) (by omega) (by omega)
 have F:=or_lo (fb f 2) (fb f 3) (by omega) (by omega) (by omega) (by omega)
 show el (stp 4 f (stp 4 f (stp 4 f (stp 4 f p 0) 1) 2) 3) j=_
 rw[el_stp _ _ _ _ _ a,el_stp _ _ _ _ _ a,el_stp _ _ _ _ _ a,el_stp _ _ _ _ _ a,el_byt p j]
 unfold tw nb
 clear hs
 rcases (by omega:j=0∨j=1∨j=2∨j=3∨j=4∨j=5∨j=6∨j=7) with rfl|rfl|rfl|rfl|rfl|rfl|rfl|rfl <;> simp[pos, *]
theorem into5 (p:List Int) (f:Int) (h:Ok6 p) (hs:shp p 5=false):∀ j,j < 8→el (stz 5 f p four4) j=tw p 5 f j:=by
 intro j a
 have l:=shp_no hs 5 (by omega) (by omega)
 have n:=shp_no hs 6 (by omega) (by omega)
 have z7:=shp_no hs 7 (by omega) (by omega)
 have o:=shp_no hs 8 (by omega) (by omega)
 have q:=shp_no hs 9 (by omega) (by omega)
 have b:=shp_no hs 10 (by omega) (by omega)
 have d:=shp_no hs 11 (by omega) (by omega)
 have e:=shp_no hs 12 (by omega) (by omega)
 have g:=shp_no hs 13 (by omega) (by omega)
 have i:=shp_no hs 14 (by omega) (by omega)
 have k:=shp_no hs 15 (by omega) (by omega)
 have r:((3:Fin 4).val)=3:=rfl
 have f0:=fb_in f 0
 have f1:=fb_in f 1
 have s:=fb_in f 2
 have t:=fb_in f 3
 have v:=or_zero (fb f 0) (by omega) (by omega)
 have w:=or_zero (fb f 0*256) (by omega) (by omega)
 have x:=or_zero (fb f 1) (by omega) (by omega)
 have y:=or_zero (fb f 1*256) (by omega) (by omega)
 have z:=or_zero (fb f 2) (by omega) (by omega)
 have A:=or_zero (fb f 2*256) (by omega) (by omega)
 have B:=or_zero (fb f 3) (by omega) (by omega)
 have C:=or_zero (fb f 3*256) (by omega) (by omega)
 have D:=or_lo (fb f 0) (fb f 1) (by omega) (by omega) (by omega) (by omega)
 have E:=or_lo (fb f 1) (fb f 2) (by omega) (by omega) (by omega) (by omega)
 have F:=or_lo (fb f 2) (fb f 3) (by omega) (by omega) (by omega) (by omega)
 have G:=byt_in p h 4 (by omega)
 have H:=or_lo (byt p 4) (fb f 0) (by omega) (by omega) (by omega) (by omega)
 show el (stp 5 f (stp 5 f (stp 5 f (stp 5 f p 0) 1) 2) 3) j=_
 rw[el_stp _ _ _ _ _ a,el_stp _ _ _ _ _ a,el_stp _ _ _ _ _ a,el_stp _ _ _ _ _ a,el_byt p j]
 unfold tw nb
 clear hs
 rcases (by omega:j=0∨j=1∨j=2∨j=3∨j=4∨j=5∨j=6∨j=7) with rfl|rfl|rfl|rfl|rfl|rfl|rfl|rfl <;> simp[pos, *]
theorem into6 (p:List Int) (f:Int) (hs:shp p 6=false):∀ j,j < 8→el (stz 6 f p four4) j=tw p 6 f j:=by
 intro j a
 have k:=shp_no hs 6 (by omega) (by omega)
 have z7:=shp_no hs 7 (by omega) (by omega)
 have l:=shp_no hs 8 (by omega) (by omega)
 have n:=shp_no hs 9 (by omega) (by omega)
 have b:=shp_no hs 10 (by omega) (by omega)
 have d:=shp_no hs 11 (by omega) (by omega)
 have e:=shp_no hs 12 (by omega) (by omega)
 have g:=shp_no hs 13 (by omega) (by omega)
 have h:=shp_no hs 14 (by omega) (by omega)
 have i:=shp_no hs 15 (by omega) (by omega)
 have o:((3:Fin 4).val)=3:=rfl
 have f0:=fb_in f 0
 have f1:=fb_in f 1
 have q:=fb_in f 2
 have r:=fb_in f 3
 have s:=or_zero (fb f 0) (by omega) (by omega)
 have t:=or_zero (fb f 0*256) (by omega) (by omega)
 have v:=or_zero (fb f 1) (by omega) (by omega)
 have w:=or_zero (fb f 1*256) (by omega) (by omega)
 have x:=or_zero (fb f 2) (by omega) (by omega)
 have y:=or_zero (fb f 2*256) (by omega) (by omega)
 have z:=or_zero (fb f 3) (by omega) (by omega)
 have A:=or_zero (fb f 3*256) (by omega) (by omega)
 have B:=or_lo (fb f 0) (fb f 1) (by omega) (by omega) (by omega) (by omega)
 have C:=or_lo (fb f 1) (fb f 2) (by omega) (by omega) (by omega) (by omega)
 have D:=or_lo (fb f 2) (fb f 3) (by omega) (by omega) (by omega) (by omega)
 show el (stp 6 f (stp 6 f (stp 6 f (stp 6 f p 0) 1) 2) 3) j=_
 rw[el_stp _ _ _ _ _ a,el_stp _ _ _ _ _ a,el_stp _ _ _ _ _ a,el_stp _ _ _ _ _ a,el_byt p j]
 unfold tw nb
 clear hs
 rcases (by omega:j=0∨j=1∨j=2∨j=3∨j=4∨j=5∨j=6∨j=7) with rfl|rfl|rfl|rfl|rfl|rfl|rfl|rfl <;> simp[pos, *]
theorem into7 (p:List Int) (f:Int) (h:Ok6 p) (hs:shp p 7=false):∀ j,j < 8→el (stz 7 f p four4) j=tw p 7 f j:=by
 intro j a
 have z7:=shp_no hs 7 (by omega) (by omega)
 have l:=shp_no hs 8 (by omega) (by omega)
 have n:=shp_no hs 9 (by omega) (by omega)
 have b:=shp_no hs 10 (by omega) (by omega)
 have d:=shp_no hs 11 (by omega) (by omega)
 have e:=shp_no hs 12 (by omega) (by omega)
 have g:=shp_no hs 13 (by omega) (by omega)
 have i:=shp_no hs 14 (by omega) (by omega)
 have k:=shp_no hs 15 (by omega) (by omega)
 have o:((3:Fin 4).val)=3:=rfl
 have f0:=fb_in f 0
 have f1:=fb_in f 1
 have q:=fb_in f 2
 have r:=fb_in f 3
 have s:=or_zero (fb f 0) (by omega) (by omega)
 have t:=or_zero (fb f 0*256) (by omega) (by omega)
 have v:=or_zero (fb f 1) (by omega) (by omega)
 have w:=or_zero (fb f 1*256) (by omega) (by omega)
 have x:=or_zero (fb f 2) (by omega) (by omega)
 have y:=or_zero (fb f 2*256) (by omega) (by omega)
 have z:=or_zero (fb f 3) (by omega) (by omega)
 have A:=or_zero (fb f 3*256) (by omega) (by omega)
 have B:=or_lo (fb f 0) (fb f 1) (by omega) (by omega) (by omega) (by omega)
 have C:=or_lo (fb f 1) (fb f 2) (by omega) (by omega) (by omega) (by omega)
 have D:=or_lo (fb f 2) (fb f 3) (by omega) (by omega) (by omega) (by omega)
 have E:=byt_in p h 6 (by omega)
 have F:=or_lo (byt p 6) (fb f 0) (by omega) (by omega) (by omega) (by omega)
 show el (stp 7 f (stp 7 f (stp 7 f (stp 7 f p 0) 1) 2) 3) j=_
 rw[el_stp _ _ _ _ _ a,el_stp _ _ _ _ _ a,el_stp _ _ _ _ _ a,el_stp _ _ _ _ _ a,el_byt p j]
 unfold tw nb
 clear hs
 rcases (by omega:j=0∨j=1∨j=2∨j=3∨j=4∨j=5∨j=6∨j=7) with rfl|rfl|rfl|rfl|rfl|rfl|rfl|rfl <;> simp[pos, *]
theorem into8 (p:List Int) (f:Int) (hs:shp p 8=false):∀ j,j < 8→el (stz 8 f p four4) j=tw p 8 f j:=by
 intro j a
 have k:=shp_no hs 8 (by omega) (by omega)
 have l:=shp_no hs 9 (by omega) (by omega)
 have b:=shp_no hs 10 (by omega) (by omega)
 have d:=shp_no hs 11 (by omega) (by omega)
 have e:=shp_no hs 12 (by omega) (by omega)
 have g:=shp_no hs 13 (by omega) (by omega)
 have h:=shp_no hs 14 (by omega) (by omega)
 have i:=shp_no hs 15 (by omega) (by omega)
 have n:((3:Fin 4).val)=3:=rfl
 have f0:=fb_in f 0
 have f1:=fb_in f 1
 have o:=fb_in f 2
 have q:=fb_in f 3
 have r:=or_zero (fb f 0) (by omega) (by omega)
 have s:=or_zero (fb f 0*256) (by omega) (by omega)
 have t:=or_zero (fb f 1) (by omega) (by omega)
 have v:=or_zero (fb f 1*256) (by omega) (by omega)
 have w:=or_zero (fb f 2) (by omega) (by omega)
 have x:=or_zero (fb f 2*256) (by omega) (by omega)
 have y:=or_zero (fb f 3) (by omega) (by omega)
 have z:=or_zero (fb f 3*256) (by omega) (by omega)
 have A:=or_lo (fb f 0) (fb f 1) (by omega) (by omega) (by omega) (by omega)
 have B:=or_lo (fb f 1) (fb f 2) (by omega) (by omega) (by omega) (by omega)
 have C:=or_lo (fb f 2) (fb f 3) (by omega) (by omega) (by omega) (by omega)
 show el (stp 8 f (stp 8 f (stp 8 f (stp 8 f p 0) 1) 2) 3) j=_
 rw[el_stp _ _ _ _ _ a,el_stp _ _ _ _ _ a,el_stp _ _ _ _ _ a,el_stp _ _ _ _ _ a,el_byt p j]
 unfold tw nb
 clear hs
 rcases (by omega:j=0∨j=1∨j=2∨j=3∨j=4∨j=5∨j=6∨j=7) with rfl|rfl|rfl|rfl|rfl|rfl|rfl|rfl <;> simp[pos, *]
theorem into12 (p:List Int) (f:Int) (hs:shp p 12=false):∀ j,j < 8→el (stz 12 f p four4) j=tw p 12 f j:=by
 intro j a
 have h:=shp_no hs 8 (by omega) (by omega)
 have b:=shp_no hs 12 (by omega) (by omega)
 have d:=shp_no hs 13 (by omega) (by omega)
 have e:=shp_no hs 14 (by omega) (by omega)
 have g:=shp_no hs 15 (by omega) (by omega)
 have i:((3:Fin 4).val)=3:=rfl
 have f0:=fb_in f 0
 have f1:=fb_in f 1
 have k:=fb_in f 2
 have l:=fb_in f 3
 have n:=or_zero (fb f 0) (by omega) (by omega)
 have o:=or_zero (fb f 0*256) (by omega) (by omega)
 have q:=or_zero (fb f 1) (by omega) (by omega)
 have r:=or_zero (fb f 1*256) (by omega) (by omega)
 have s:=or_zero (fb f 2) (by omega) (by omega)
 have t:=or_zero (fb f 2*256) (by omega) (by omega)
 have v:=or_zero (fb f 3) (by omega) (by omega)
 have w:=or_zero (fb f 3*256) (by omega) (by omega)
 have x:=or_lo (fb f 0) (fb f 1) (by omega) (by omega) (by omega) (by omega)
 have y:=or_lo (fb f 1) (fb f 2) (by omega) (by omega) (by omega) (by omega)
 have z:=or_lo (fb f 2) (fb f 3) (by omega) (by omega) (by omega) (by omega)
 show el (stp 12 f (stp 12 f (stp 12 f (stp 12 f p 0) 1) 2) 3) j=_
 rw[el_stp _ _ _ _ _ a,el_stp _ _ _ _ _ a,el_stp _ _ _ _ _ a,el_stp _ _ _ _ _ a,el_byt p j]
 unfold tw nb
 clear hs
 rcases (by omega:j=0∨j=1∨j=2∨j=3∨j=4∨j=5∨j=6∨j=7) with rfl|rfl|rfl|rfl|rfl|rfl|rfl|rfl <;> simp[pos, *]
theorem into_el (p:List Int) (q:Nat) (f:Int) (h:Ok6 p) (hn:LongP (8*q)) (hs:shp p q=false) (j:Nat) (hj:j < 8):el (stz q f p four4) j=tw p q f j:=by
 have:q=4∨q=5∨q=6∨q=7∨q=8∨q=12:=by unfold LongP at hn;omega
 rcases this with rfl|rfl|rfl|rfl|rfl|rfl
 ·exact into4 p f hs j hj
 ·exact into5 p f h hs j hj
 ·exact into6 p f hs j hj
 ·exact into7 p f h hs j hj
 ·exact into8 p f hs j hj
 ·exact into12 p f hs j hj
theorem nb_in (p:List Int) (q:Nat) (f:Int) (h:Ok6 p) (i:Nat) (hi:i < 16):0≤nb p q f i∧nb p q f i < 256:=by
 unfold nb
 split
 ·exact fb_in f 0
 ·split
  ·exact fb_in f 1
  ·split
   ·exact fb_in f 2
   ·split
    ·exact fb_in f 3
    ·exact byt_in p h i hi
def tz (p:List Int) (q:Nat) (f:Int):List Int:=(List.range 8).map (tw p q f)
theorem el_tz (p:List Int) (q:Nat) (f:Int) (j:Nat) (hj:j < 8):el (tz p q f) j=tw p q f j:=by
 simp[el,tz,List.getD,hj]
theorem six_congr {z z':List Int} (h:∀ j,j < 8→el z j=el z' j):six z=six z':=by
 unfold six
 rw[h 0 (by omega),h 1 (by omega),h 2 (by omega),h 3 (by omega),h 4 (by omega),h 5 (by omega),h 6 (by omega),h 7 (by omega)]
theorem into_six (p:List Int) (q:Nat) (f:Int) (h:Ok6 p) (hn:LongP (8*q)) (hs:shp p q=false):six (stz q f p four4)=six (tz p q f) :=
 six_congr (fun j hj=>by rw[into_el p q f h hn hs j hj,el_tz p q f j hj])
theorem tz_ok (p:List Int) (q:Nat) (f:Int) (h:Ok6 p):Ok6 (tz p q f):=by
 intro j a
 rw[el_tz p q f j a]
 have b:=nb_in p q f h (2*j) (by omega)
 have d:=nb_in p q f h (2*j+1) (by omega)
 unfold Word tw
 omega
end Em2
end Go.Proofs.YtgcojnlngchllaaGreatDoor
