/- strconv.ParseUint at base 16 and 16 bits, as a caller has it. hexes and Print by contracts: of an address that is one, its text. Print by a contract: of an address that is one, its text. numbers by a contract: what stands between the marks, read one by one. read by a contract: what a text may be the address of. -/
import Derived.Test.YtgcojnlngchllaaGreatDoorK36
import Derived.WalkSmall
import Derived.Laws.CopyOwn
namespace Go.Proofs.YtgcojnlngchllaaGreatDoor
open Go.RowKit
set_option linter.unusedVariables false
set_option maxRecDepth 100000
set_option maxHeartbeats 40000000
namespace Ad
open Go.RowKit Go.Shelf
def Errs (w:World):Prop:=(∃ t p,w.cell? ⟨4,0,none⟩=some (.iface t p))∧∃ t p,w.cell? ⟨5,0,none⟩=some (.iface t p)
theorem Errs.below {w w':World} (h:Errs w) (hb:Below w.heap.size w w'):Errs w':=by
 obtain ⟨⟨t,p,a⟩,⟨d,e,b⟩⟩:=h
 exact ⟨⟨t,p,(hb.cell (p:=⟨4,0,none⟩) (lt_of_cell a)).trans a⟩,⟨d,e,(hb.cell (p:=⟨5,0,none⟩) (lt_of_cell b)).trans b⟩⟩
theorem toErr2 (s:ByteArray) (w:World) (hlim:s.size≤281474976710656) (h:Errs w) :
  Calls Tryz.prog 285 #[.string ⟨#[80,97,114,115,101,85,105,110,116]⟩,.string s,.int .i64 16,.int .i64 16,.iface 393 (.int .i64 2)] w fun e w'=>(∃ N,e=.returned (.iface 396 (.pointer (some ⟨N,0,none⟩))))∧Below w.heap.size w w':=by
 obtain ⟨⟨t,p,a⟩,_⟩:=h
 exact (AnyPu.strconv_toError_syntax (P:=Tryz.prog) (ρ:=Tryz.laysPu14_ren) { Tryz.laysPu14 with } ⟨#[80,97,114,115,101,85,105,110,116]⟩ s 16 16 _ w hlim a (.inr ⟨t,p,rfl⟩)).mono fun e w' ⟨N,he,_,_,hb⟩=>⟨⟨N,he⟩,hb⟩
theorem toErr1 (s:ByteArray) (w:World) (hlim:s.size≤281474976710656) (h:Errs w) :
  Calls Tryz.prog 285 #[.string ⟨#[80,97,114,115,101,85,105,110,116]⟩,.string s,.int .i64 16,.int .i64 16,.iface 393 (.int .i64 1)] w fun e w'=>(∃ N,e=.returned (.iface 396 (.pointer (some ⟨N,0,none⟩))))∧Below w.heap.size w w':=by
 obtain ⟨_,⟨t,p,a⟩⟩:=h
 exact (AnyPu.strconv_toError_range (P:=Tryz.prog) (ρ:=Tryz.laysPu14_ren) { Tryz.laysPu14 with } ⟨#[80,97,114,115,101,85,105,110,116]⟩ s 16 16 _ w hlim a (.inr ⟨t,p,rfl⟩)).mono fun e w' ⟨N,he,_,_,hb⟩=>⟨⟨N,he⟩,hb⟩
theorem iparse (t:ByteArray) (hmax:t.size≤281474976710656) (w:World) :
  Calls Tryz.prog 313 #[.string t,.int .i64 16,.int .i64 16] w fun e w' =>
   ((∃ n,AM.hxw t.data.toList=some n∧e=.returned (.tuple #[.int .u64 (n:Nat),.nilIface]))∨(AM.hxw t.data.toList=none∧(e=.returned (.tuple #[.int .u64 0,.iface 393 (.int .i64 2)])∨e=.returned (.tuple #[.int .u64 65535,.iface 393 (.int .i64 1)]))))∧Below w.heap.size w w':=by
 by_cases h0:t.size=0
 ·obtain rfl:t=⟨#[]⟩:=by
   obtain ⟨a⟩:=t
   have:a=#[]:=Array.eq_empty_of_size_eq_zero h0
   rw[this]
  exact (iparse0 w).mono fun e w' ⟨h1,h2⟩=>⟨.inr ⟨rfl,.inl h1⟩,by rw[h2];exact Below.refl _ _⟩
 ·have hl:t.data.toList≠[]:=by
   intro e
   apply h0
   rw[Lib.size_eq,e];rfl
  refine (iparse16 t h0 (by omega) w).mono fun e w' ⟨h1,h2⟩=>⟨?_,by rw[h2];exact Lib.bytesWorld_below _ _ _⟩
  unfold AM.hxw
  rw[if_neg hl]
  exact h1
theorem parse16_ok (t:ByteArray) (hmax:t.size≤281474976710656) (w:World) (n:Nat) (hn:AM.hxw t.data.toList=some n) :
  Calls Tryz.prog 287 #[.string t,.int .i64 16,.int .i64 16] w fun e w'=>e=.returned (.tuple #[.int .u64 (n:Nat),.nilIface])∧Below w.heap.size w w':=by
 have a:Calls Tryz.prog 313 #[.string t,.int .i64 16,.int .i64 16] w fun e w'=>e=.returned (.tuple #[.int .u64 (n:Nat),.nilIface])∧Below w.heap.size w w':=(iparse t hmax w).mono fun e w' ⟨h1,h2⟩=>by
  rcases h1 with ⟨m,hm,he⟩|⟨hm,_⟩
  ·rw[hn] at hm;cases hm;exact ⟨he,h2⟩
  ·rw[hn] at hm;cases hm
 go_enter Tryz.func287,Tryz.ntmps287
 go_wp2_with (go_at_call 313;refine a.mono ?_;rintro e w' ⟨rfl,b⟩)
 go_ret2
 exact ⟨rfl,b⟩
theorem parse16_no (t:ByteArray) (hmax:t.size≤281474976710656) (w:World) (hn:AM.hxw t.data.toList=none) (hE:Errs w) :
  Calls Tryz.prog 287 #[.string t,.int .i64 16,.int .i64 16] w fun e w'=>(∃ u N,e=.returned (.tuple #[.int .u64 u,.iface 396 (.pointer (some ⟨N,0,none⟩))]))∧Below w.heap.size w w':=by
 have d:Calls Tryz.prog 313 #[.string t,.int .i64 16,.int .i64 16] w fun e w'=>(e=.returned (.tuple #[.int .u64 0,.iface 393 (.int .i64 2)])∨e=.returned (.tuple #[.int .u64 65535,.iface 393 (.int .i64 1)]))∧Below w.heap.size w w':=(iparse t hmax w).mono fun e w' ⟨h1,h2⟩=>by
  rcases h1 with ⟨m,hm,he⟩|⟨_,hm⟩
  ·rw[hn] at hm;cases hm
  ·exact ⟨hm,h2⟩
 go_enter Tryz.func287,Tryz.ntmps287
 go_wp2_with (go_at_call 313;refine d.mono ?_;rintro e w' ⟨rfl|rfl,b⟩)
 ·go_wp2_with (go_at_call 285;refine (toErr2 t _ hmax (hE.below b)).mono ?_;rintro e f ⟨⟨N,rfl⟩,a⟩)
  go_ret2
  exact ⟨⟨_,N,rfl⟩,bt b a⟩
 ·go_wp2_with (go_at_call 285;refine (toErr1 t _ hmax (hE.below b)).mono ?_;rintro e f ⟨⟨N,rfl⟩,a⟩)
  go_ret2
  exact ⟨⟨_,N,rfl⟩,bt b a⟩
end Ad
namespace Ad
open Go.RowKit Go.Shelf
def Rowb (w:World) (B:Nat) (wr:World) (n:Nat) (done:List Value):Prop :=
 (∀ j,j < n→∃ v,wr.cell? ⟨B,j,none⟩=some v)∧(∀ (j:Nat) v,done[j]? = some v→wr.cell? ⟨B,j,none⟩=some v)∧(∀ j,wr.frozen? ⟨B,j,none⟩=false)∧Below B w wr∧B < wr.heap.size
theorem Rowb.kept {w:World} {B:Nat} {wr wr':World} {n:Nat} {done:List Value} (h:Rowb w B wr n done) (hb:Below wr.heap.size wr wr'):Rowb w B wr' n done:=by
 obtain ⟨b,d,e,h4,a⟩:=h
 refine ⟨fun j hj=>?_,fun j v hv=>?_,fun j=>?_,h4.trans (hb.mono (by omega)),Nat.lt_of_lt_of_le a hb.size⟩
 ·obtain ⟨v,hv⟩:=b j hj;exact ⟨v,(hb.cell (p:=⟨B,j,none⟩) a).trans hv⟩
 ·exact (hb.cell (p:=⟨B,j,none⟩) a).trans (d j v hv)
 ·exact (hb.frozen (p:=⟨B,j,none⟩) a).trans (e j)
theorem Rowb.store {w:World} {B:Nat} {wr:World} {n:Nat} {done:List Value} (h:Rowb w B wr n done) (hn:done.length < n) (x:Value):Rowb w B (wr.setCell ⟨B,done.length,none⟩ x) n (done++[x]):=by
 obtain ⟨d,g,i,h4,k⟩:=h
 have a:(wr.setCell ⟨B,done.length,none⟩ x).cell? ⟨B,done.length,none⟩=some x:=by
  obtain ⟨v,hv⟩:=d _ hn
  exact World.cell?_setCell_same _ _ _ hv
 have b:∀ j,j≠done.length→(wr.setCell ⟨B,done.length,none⟩ x).cell? ⟨B,j,none⟩=wr.cell? ⟨B,j,none⟩:=fun j hj=>World.cell?_setCell_other _ _ _ _ (fun e=>hj (by cases e;rfl))
 refine ⟨fun j hj=>?_,fun j v hv=>?_,fun j=>?_,h4.setCell (Nat.le_refl _) _,by simpa [World.setCell] using k⟩
 ·by_cases e:j=done.length
  ·subst e;exact ⟨_,a⟩
  ·rw[b j e];exact d j hj
 ·by_cases e:j=done.length
  ·subst e
   rw[List.getElem?_append_right (Nat.le_refl _)] at hv
   simp at hv;subst hv;exact a
  ·rw[b j e]
   have f:j < done.length:=by
    have:=(List.getElem?_eq_some_iff.1 hv).1
    simp at this;omega
   rw[List.getElem?_append_left f] at hv
   exact g j v hv
 ·rw[World.frozen?_setCell];exact i j
theorem Rowb.made (w:World) (z:Value) (n:Nat) (t:TypeId) (hz:z.cells=#[z]):Rowb w w.heap.size (w.alloc (.cells (madeCells z.cells n) t)) n []:=by
 refine ⟨fun j hj=>?_,fun j v hv=>by simp at hv,fun j=>World.frozen?_alloc_new _ _ _ _,(Below.refl _ _).alloc (Nat.le_refl _) _,by simp⟩
 rw[World.cell?_alloc_new,hz]
 refine ⟨z,?_⟩
 simp[madeCells,hj,Nat.mod_one]
theorem Tryz.infoStr:(Tryz.prog.info? 9).map (fun i=>(i.zero,i.size,i.bytes))=some (some (.string ⟨#[]⟩),1,16):=by kernel_rfl
theorem Tryz.infoInt:(Tryz.prog.info? 3).map (fun i=>(i.zero,i.size,i.bytes))=some (some (.int .i64 0),1,8):=by kernel_rfl
theorem make_str (w:World) (n:Nat) (hn:n≤1000000):(Instr.makeSlice 130 (.int .i64 n) (.int .i64 n)).run Tryz.prog w=.ok (.slice (some ⟨w.heap.size,0,none⟩) n n) (w.alloc (.cells (madeCells #[.string ⟨#[]⟩] n) 9)):=by
 obtain ⟨i,a,b,d,e⟩:=info_parts Tryz.infoStr
 have:=run_make (P:=Tryz.prog) w 130 9 i _ Tryz.underlying130 a b .i64 .i64 n n (by omega) (by omega) (by rw[e];omega) (by omega)
 rw[d] at this
 simpa [Value.cells] using this
theorem make_int (w:World) (n:Nat) (hn:n≤1000000):(Instr.makeSlice 168 (.int .i64 n) (.int .i64 n)).run Tryz.prog w=.ok (.slice (some ⟨w.heap.size,0,none⟩) n n) (w.alloc (.cells (madeCells #[.int .i64 0] n) 3)):=by
 obtain ⟨i,a,b,d,e⟩:=info_parts Tryz.infoInt
 have:=run_make (P:=Tryz.prog) w 168 3 i _ Tryz.underlying168 a b .i64 .i64 n n (by omega) (by omega) (by rw[e];omega) (by omega)
 rw[d] at this
 simpa [Value.cells] using this
def strv (l:List UInt8):Value:=.string ⟨l.toArray⟩
theorem join_row (c:UInt8) (w0 w:World) (B n:Nat) (ws:List (List UInt8)) (hl:ws.length=n) (hn:n≤1000) (hlen:(AM.jn c ws).length≤1000000) (hR:Rowb w0 B w n (ws.map strv)) :
  Calls Tryz.prog 241 #[.slice (some ⟨B,0,none⟩) n n,.string ⟨#[c]⟩] w fun e w'=>e=.returned (strv (AM.jn c ws))∧Below w.heap.size w w':=by
 have b:(ws.map fun l=>(⟨l.toArray⟩:ByteArray)).map (·.data.toList)=ws:=by
  rw[List.map_map]
  conv=>rhs;rw[← List.map_id ws]
  apply List.map_congr_left
  intro x _
  simp
 have h:=Tryz.strings_Join B 0 n (ws.map fun l=>⟨l.toArray⟩) ⟨#[c]⟩ w (fun j x hx=>by
   rw[Nat.zero_add]
   refine hR.2.1 j _ ?_
   rw[List.getElem?_map] at hx ⊢
   cases hw:ws[j]? with
   | none=>rw[hw] at hx;cases hx
   | some l=>rw[hw] at hx;simp at hx;subst hx;rfl) hR.2.2.2.2 (by rw[List.length_map];omega) (by rw[List.length_map];omega) (by
   rw[b]
   show (Lib.join ws [c]).length≤_
   rw[AM.jn_join];omega)
 rw[List.length_map,hl,b] at h
 have e:Lib.join ws (⟨#[c]⟩:ByteArray).data.toList=AM.jn c ws:=AM.jn_join c ws
 rw[e] at h
 exact h
theorem hexes_any (b off cap n i:Nat) (z:List Int) (w:World) (hz:Ok6 z) (hin:i+n≤8) (hb:b < w.heap.size) (hc:∀ j,j < n→w.cell? ⟨b,off+j,none⟩=some (.int .i64 (el z (i+j)))) (h4:Tab4 w) :
  Calls Tryz.prog 283 #[.slice (some ⟨b,off,none⟩) n cap] w fun e w'=>e=.returned (strv (AM.jn 58 (AM.hw z i n)))∧Below w.heap.size w w':=by
 have q:=make_str w n (by omega)
 have a:=Rowb.made w (.string ⟨#[]⟩) n 9 rfl
 simp only[Value.cells] at a
 generalize hw0:w.alloc (.cells (madeCells #[.string ⟨#[]⟩] n) 9)=w0 at q a
 clear hw0
 go_enter Tryz.func283,Tryz.ntmps283
 go_wp2
 go_loopw [11] (fun t wr=>∃ k:Nat,k≤n∧t=.int .i64 k∧Hid (Rowb w w.heap.size wr n ((AM.hw z i k).map strv))) (fun t _=>n - (intOf t).toNat)
 case atStart=>exact ⟨0,by omega,rfl,a⟩
 case round =>
  obtain ⟨k,F,rfl,d⟩:=hrel
  by_cases hlt:k < n
  ·have r:wr.cell? ⟨b,off+k,none⟩=some (.int .i64 (el z (i+k))):=by rw[d.out.2.2.2.1.cell (p:=⟨b,off+k,none⟩) hb];exact hc k hlt
   have s:=h4.below d.out.2.2.2.1
   have l:=hz (i+k) (by omega)
   have A:=ki (AM.hw_succ z i k)
   have f:((AM.hw z i k).map strv).length=k:=by rw[List.length_map,AM.hw_len]
   have x:=ki f
   clear hc f
   obtain ⟨u,hu⟩:∃ u:Nat,el z (i+k)=u:=⟨(el z (i+k)).toNat,by have:=l.1;omega⟩
   have y:u≤65535:=by have:=l.2;omega
   have B:=ki (show (el z (i+k)).toNat=u by omega)
   rw[hu] at r
   clear hu l
   go_wp2_with (go_at_call 306;refine (fmt16 u _ y s).mono ?_;rintro e C ⟨rfl,o⟩;have g:=ki (d.out.kept o);obtain ⟨v,hv⟩:=g.out.1 k hlt;have G:=g.out.2.2.1 k)
   have h:=ki (g.out.store (by rw[x.out];exact hlt) (strv (AM.hexL u)))
   rw[x.out] at h
   go_roundw
   case rel =>
    refine ⟨k+1,by omega,by go_num,?_⟩
    rw[A.out,B.out,List.map_append];exact h
   case measure=>simp[intOf];omega
  ·obtain rfl:k=n:=by omega
   have D:=join_row 58 w wr w.heap.size k (AM.hw z i k) (AM.hw_len z i k) (by omega) (by have:=AM.jn_hw_len hz hin;omega) d.out
   have E:=ki d.out.2.2.2.1
   go_wp2_with (go_at_call 241;refine D.mono ?_;rintro e C ⟨rfl,o⟩)
   go_ret
   exact ⟨rfl,bt E.out o⟩
end Ad
namespace Ad
open Go.RowKit Go.Shelf
theorem six_slice (B:Nat) (W:World):(Instr.sliceAt 23 (.pointer (some ⟨B,0,none⟩)) none none none).run Tryz.prog W=.ok (.slice (some ⟨B,0,none⟩) 8 8) W:=by kernel_rfl
theorem six_slice_h (B f:Nat) (hf:f≤8) (W:World):(Instr.sliceAt 23 (.pointer (some ⟨B,0,none⟩)) none (some (.int .i64 f)) none).run Tryz.prog W=.ok (.slice (some ⟨B,0,none⟩) f 8) W:=by
 rcases (by omega:f=0∨f=1∨f=2∨f=3∨f=4∨f=5∨f=6∨f=7∨f=8) with rfl|rfl|rfl|rfl|rfl|rfl|rfl|rfl|rfl <;> kernel_rfl
def off8 (f:Nat):Nat:=if f=8 then 0 else f
theorem six_slice_l (B f:Nat) (hf:f≤8) (W:World):(Instr.sliceAt 23 (.pointer (some ⟨B,0,none⟩)) (some (.int .i64 f)) none none).run Tryz.prog W=.ok (.slice (some ⟨B,off8 f,none⟩) (8 - f) (8 - f)) W:=by
 rcases (by omega:f=0∨f=1∨f=2∨f=3∨f=4∨f=5∨f=6∨f=7∨f=8) with rfl|rfl|rfl|rfl|rfl|rfl|rfl|rfl|rfl <;> kernel_rfl
def SixAt (B:Nat) (z:List Int) (w:World):Prop:=B < w.heap.size∧∀ j,j < 8→w.cell? ⟨B,j,none⟩=some (.int .i64 (el z j))
theorem SixAt.kept {B:Nat} {z:List Int} {w w':World} (h:SixAt B z w) (hb:Below w.heap.size w w'):SixAt B z w' :=
 ⟨Nat.lt_of_lt_of_le h.1 hb.size,fun j hj=>(hb.cell (p:=⟨B,j,none⟩) h.1).trans (h.2 j hj)⟩
theorem SixAt.new (z:List Int) (w:World):SixAt w.heap.size z (w.alloc (.cells (sixC z) 23)):=by
 refine ⟨by simp,fun j hj=>?_⟩
 rw[World.cell?_alloc_new]
 rcases (by omega:j=0∨j=1∨j=2∨j=3∨j=4∨j=5∨j=6∨j=7) with rfl|rfl|rfl|rfl|rfl|rfl|rfl|rfl <;> rfl
theorem bytes_app (a b:List UInt8):(⟨a.toArray⟩:ByteArray)++⟨b.toArray⟩=⟨(a++b).toArray⟩:=by
 apply ByteArray.ext
 simp
theorem bytes_app3 (t1 t2:List UInt8):(⟨(t1++58::58::t2).toArray⟩:ByteArray)=⟨t1.toArray⟩++⟨#[58,58]⟩++⟨t2.toArray⟩:=by
 have:(⟨#[58,58]⟩:ByteArray)=⟨([58,58]:List UInt8).toArray⟩:=rfl
 rw[this,bytes_app,bytes_app]
 simp
theorem print_ok (z:List Int) (w:World) (hz:Ok6 z) (h4:Tab4 w):Calls Tryz.prog 235 #[six z] w fun e w'=>e=.returned (.tuple #[strv (AM.tx z),.nilIface])∧Below w.heap.size w w':=by
 have h:=fun w=>check_ok z w hz
 have k:=fun w=>zeros_any z w
 have B:=(AM.zgood_fl z).1
 unfold six at h k ⊢
 have a:SixAt w.heap.size z (((w.alloc (.cells (sixC z) 23)).alloc (.cells (sixC z) 23)).alloc (.cells (sixC z) 23)) :=
  ((SixAt.new z w).kept ((Below.refl _ _).alloc (Nat.le_refl _) _)).kept ((Below.refl _ _).alloc (Nat.le_refl _) _)
 have b:Below w.heap.size w (((w.alloc (.cells (sixC z) 23)).alloc (.cells (sixC z) 23)).alloc (.cells (sixC z) 23)):=(((Below.refl _ _).alloc (Nat.le_refl _) _).alloc (by simp) _).alloc (by simp;omega) _
 unfold sixC at h k a b
 generalize hw3:((w.alloc (.cells #[.int .i64 (el z 0),.int .i64 (el z 1),.int .i64 (el z 2),.int .i64 (el z 3),.int .i64 (el z 4),.int .i64 (el z 5),.int .i64 (el z 6),.int .i64 (el z 7)] 23)).alloc (.cells #[.int .i64 (el z 0),.int .i64 (el z 1),.int .i64 (el z 2),.int .i64 (el z 3),.int .i64 (el z 4),.int .i64 (el z 5),.int .i64 (el z 6),.int .i64 (el z 7)] 23)).alloc (.cells #[.int .i64 (el z 0),.int .i64 (el z 1),.int .i64 (el z 2),.int .i64 (el z 3),.int .i64 (el z 4),.int .i64 (el z 5),.int .i64 (el z 6),.int .i64 (el z 7)] 23)=w3 at a b
 have s:=ki hw3
 clear hw3
 by_cases hl:AM.zlong z < 2
 ·have f:AM.tx z=AM.jn 58 (AM.hw z 0 8):=by unfold AM.tx;rw[if_pos hl]
  rw[f]
  clear f
  have hsl:=six_slice w.heap.size
  go_enter Tryz.func235,Tryz.ntmps235
  go_wp2_with (first
   | (go_at_call 70;refine (h _).mono ?_;rintro e l ⟨rfl,rfl⟩)
   | (go_at_call 282;refine (k _).mono ?_;rintro e l ⟨rfl,rfl⟩;rw[s.out])
   | (go_at_call 283;refine (hexes_any w.heap.size 0 8 8 0 z w3 hz (by omega) a.1 (fun j hj=>by simp only[Nat.zero_add];exact a.2 j hj) (h4.below b)).mono ?_;rintro e l ⟨rfl,hb⟩))
  go_ret2
  exact ⟨rfl,bt b hb⟩
 ·have f:AM.tx z=AM.jn 58 (AM.hw z 0 (AM.zfrom z))++58::58::AM.jn 58 (AM.hw z (AM.zfrom z+AM.zlong z) (8 - (AM.zfrom z+AM.zlong z))):=by unfold AM.tx;rw[if_neg hl]
  have r:=ki f
  clear f
  have A:=six_slice_h w.heap.size (AM.zfrom z) (by omega)
  have hsl:=six_slice_l w.heap.size (AM.zfrom z+AM.zlong z) (by omega)
  have d:∀ w4,Below w3.heap.size w3 w4→Calls Tryz.prog 283 #[.slice (some ⟨w.heap.size,0,none⟩) (AM.zfrom z) 8] w4 fun e w'=>e=.returned (strv (AM.jn 58 (AM.hw z 0 (AM.zfrom z))))∧Below w4.heap.size w4 w':=fun w4 hb4 =>
   hexes_any w.heap.size 0 8 (AM.zfrom z) 0 z w4 hz (by omega) (a.kept hb4).1 (fun j hj=>by simp only[Nat.zero_add];exact (a.kept hb4).2 j (by omega)) (h4.below (bt b hb4))
  have hx2:∀ w4,Below w3.heap.size w3 w4→Calls Tryz.prog 283 #[.slice (some ⟨w.heap.size,off8 (AM.zfrom z+AM.zlong z),none⟩) (8 - (AM.zfrom z+AM.zlong z)) (8 - (AM.zfrom z+AM.zlong z))] w4 fun e w'=>e=.returned (strv (AM.jn 58 (AM.hw z (AM.zfrom z+AM.zlong z) (8 - (AM.zfrom z+AM.zlong z)))))∧Below w4.heap.size w4 w':=fun w4 hb4 =>
   hexes_any w.heap.size (off8 (AM.zfrom z+AM.zlong z)) (8 - (AM.zfrom z+AM.zlong z)) (8 - (AM.zfrom z+AM.zlong z)) (AM.zfrom z+AM.zlong z) z w4 hz (by omega) (a.kept hb4).1 (fun j hj=>by
    have e:off8 (AM.zfrom z+AM.zlong z)=AM.zfrom z+AM.zlong z:=by unfold off8;rw[if_neg (by omega)]
    rw[e];exact (a.kept hb4).2 _ (by omega)) (h4.below (bt b hb4))
  have o:=AM.jn_hw_len (z:=z) hz (i:=0) (n:=AM.zfrom z) (by omega)
  have p:=AM.jn_hw_len (z:=z) hz (i:=AM.zfrom z+AM.zlong z) (n:=8 - (AM.zfrom z+AM.zlong z)) (by omega)
  generalize AM.jn 58 (AM.hw z 0 (AM.zfrom z))=t1 at r d o
  generalize AM.jn 58 (AM.hw z (AM.zfrom z+AM.zlong z) (8 - (AM.zfrom z+AM.zlong z)))=t2 at r hx2 p
  have t:(⟨t1.toArray⟩:ByteArray).size≤100:=by simp[ByteArray.size];omega
  have v:(⟨t2.toArray⟩:ByteArray).size≤100:=by simp[ByteArray.size];omega
  clear o p
  unfold strv at d hx2 ⊢
  have g:=ki (show (⟨(AM.tx z).toArray⟩:ByteArray)=⟨t1.toArray⟩++⟨#[58,58]⟩++⟨t2.toArray⟩ by rw[r.out];exact bytes_app3 t1 t2)
  generalize (⟨t1.toArray⟩:ByteArray)=s1 at d g t
  generalize (⟨t2.toArray⟩:ByteArray)=s2 at hx2 g v
  generalize off8 (AM.zfrom z+AM.zlong z)=o8 at hsl hx2
  generalize 8 - (AM.zfrom z+AM.zlong z)=n8 at hsl hx2
  have x:IntKind.i64.wrap ((AM.zfrom z:Int)+(AM.zlong z:Int))=((AM.zfrom z+AM.zlong z:Nat):Int):=by rw[IntKind.wrap_i64];omega
  generalize AM.zfrom z+AM.zlong z=k8 at hsl x
  go_enter Tryz.func235,Tryz.ntmps235
  go_wp2_with (first
   | (go_at_call 70;refine (h _).mono ?_;rintro e l ⟨rfl,rfl⟩)
   | (go_at_call 282;refine (k _).mono ?_;rintro e l ⟨rfl,rfl⟩;rw[s.out]))
  go_region_with (first
   | (go_at_call_of 283 (Value.slice (some ⟨w.heap.size,0,none⟩) (AM.zfrom z) 8);refine (d _ ?_).mono ?_;exact (Below.refl _ _).drew;rintro e C ⟨rfl,q⟩)
   | (go_at_call_of 283 (Value.slice (some ⟨w.heap.size,o8,none⟩) n8 n8);refine (hx2 _ ?_).mono ?_;exact Below.trans (Below.refl _ w3).drew q;rintro e D ⟨rfl,y⟩))
  all_goals
   go_wp2_with fail
   go_ret2
   refine ⟨(show Ending.returned (.tuple #[.string (s1++⟨#[58,58]⟩++s2),.nilIface])=_ by rw[g.out]),?_⟩
   exact bt b (bt (Below.trans (Below.refl _ w3).drew q) y)
end Ad
namespace Ad
open Go.RowKit Go.Shelf
def MaxL (w:World):Prop:=∃ m,w.cell? ⟨1,0,none⟩=some (.int .i64 m)
theorem MaxL.below {w w':World} (h:MaxL w) (hb:Below w.heap.size w w'):MaxL w':=by
 obtain ⟨m,h⟩:=h
 exact ⟨m,(hb.cell (p:=⟨1,0,none⟩) (lt_of_cell h)).trans h⟩
def IntsAt (base:Nat) (v:Value) (l:List Nat) (w:World):Prop :=
 ∃ ao,v=.slice ao l.length l.length∧(l≠[]→∃ B,ao=some ⟨B,0,none⟩∧base≤B∧B < w.heap.size∧∀ (j:Nat) x,l[j]? = some x→w.cell? ⟨B,j,none⟩=some (.int .i64 (x:Nat)))
theorem IntsAt.kept {base:Nat} {v:Value} {l:List Nat} {w w':World} (h:IntsAt base v l w) (hb:Below w.heap.size w w'):IntsAt base v l w':=by
 obtain ⟨b,d,h⟩:=h
 refine ⟨b,d,fun hl=>?_⟩
 obtain ⟨B,e,f,a,g⟩:=h hl
 exact ⟨B,e,f,Nat.lt_of_lt_of_le a hb.size,fun j x hx=>(hb.cell (p:=⟨B,j,none⟩) a).trans (g j x hx)⟩
def Reads (base size:Int) (f:List UInt8→Option Nat):Prop :=
 (∀ t n,f t=some n→n≤65535) ∧
 (∀ (t:ByteArray) (w:World) (n:Nat),t.size≤1000→f t.data.toList=some n→Calls Tryz.prog 287 #[.string t,.int .i64 base,.int .i64 size] w fun e w'=>e=.returned (.tuple #[.int .u64 (n:Nat),.nilIface])∧Below w.heap.size w w') ∧
 (∀ (t:ByteArray) (w:World),t.size≤1000→f t.data.toList=none→Errs w→Calls Tryz.prog 287 #[.string t,.int .i64 base,.int .i64 size] w fun e w'=>(∃ u N,e=.returned (.tuple #[.int .u64 u,.iface 396 (.pointer (some ⟨N,0,none⟩))]))∧Below w.heap.size w w')
theorem reads16:Reads 16 16 AM.hxw :=
 ⟨fun _ _ h=>AM.hxw_le h,fun t w n ht hn=>parse16_ok t (by omega) w n hn,fun t w ht hn hE=>parse16_no t (by omega) w hn hE⟩
theorem numbers_none (c:UInt8) (base size:Int) (w:World) :
  Calls Tryz.prog 239 #[.string ⟨#[]⟩,.string ⟨#[c]⟩,.int .i64 base,.int .i64 size] w fun e w'=>e=.returned (.tuple #[.slice none 0 0,.bool true])∧w'=w:=by
 go_enter Tryz.func239,Tryz.ntmps239
 go_wp2
 go_ret2
 exact ⟨rfl,rfl⟩
theorem numbers_any (c:UInt8) (base size:Int) (f:List UInt8→Option Nat) (hf:Reads base size f) (t:ByteArray) (w:World) (ht:t.size≤1000) (hne:t.data.toList≠[]) (hM:MaxL w) (hE:Errs w) :
  Calls Tryz.prog 239 #[.string t,.string ⟨#[c]⟩,.int .i64 base,.int .i64 size] w fun e w' =>
   ((∃ l v,AM.nums c f t.data.toList=some l∧e=.returned (.tuple #[v,.bool true])∧IntsAt w.heap.size v l w')∨(AM.nums c f t.data.toList=none∧e=.returned (.tuple #[.slice none 0 0,.bool false])))∧Below w.heap.size w w':=by
 obtain ⟨m,O⟩:=hM
 obtain ⟨f1,W,X⟩:=hf
 have r:=Tryz.strings_Split t ⟨#[c]⟩ m w (by omega) O (by simp[ByteArray.size])
 have P:=Lib.countB_le ⟨#[c]⟩ (by simp[ByteArray.size]) t.size t (Nat.le_refl _)
 have d:=Lib.splitB_all ⟨#[c]⟩ (by simp[ByteArray.size]) 0 _ t rfl
 have o:=AM.split_is c t
 have b:AM.nums c f t.data.toList=(AM.spl c t.data.toList).mapM f:=by unfold AM.nums;rw[if_neg hne]
 rw[← o] at b
 have y:∀ x ∈ Lib.splitB ⟨#[c]⟩ 0 (Lib.countB t ⟨#[c]⟩) t,x.size≤1000:=by
  intro x hx
  have:=AM.spl_len c t.data.toList x.data.toList (by rw[← o];exact List.mem_map.2 ⟨x,hx,rfl⟩)
  rw[← Lib.size_eq,← Lib.size_eq] at this
  omega
 generalize Lib.splitB ⟨#[c]⟩ 0 (Lib.countB t ⟨#[c]⟩) t=ws at r d b y
 clear o
 have Y:Lib.countB t ⟨#[c]⟩+1≤1001:=by omega
 generalize Lib.countB t ⟨#[c]⟩+1=N at r d Y
 have g:Below w.heap.size w (w.alloc (.cells (ws.map Value.string).toArray 9)):=(Below.refl _ _).alloc (Nat.le_refl _) _
 have s:∀ j (hj:j < ws.length),(w.alloc (.cells (ws.map Value.string).toArray 9)).cell? ⟨w.heap.size,j,none⟩=some (.string ws[j]):=fun j hj=>by
  rw[World.cell?_alloc_new];simp[hj]
 have F:w.heap.size < (w.alloc (.cells (ws.map Value.string).toArray 9)).heap.size:=by simp
 have G:=hE.below g
 generalize w.alloc (.cells (ws.map Value.string).toArray 9)=w1 at r g s F G
 have Q:=make_int w1 N (by omega)
 have z:=Rowb.made w1 (.int .i64 0) N 3 rfl
 simp only[Value.cells] at z
 generalize w1.alloc (.cells (madeCells #[.int .i64 0] N) 3)=w2 at Q z
 have ab:t.toList.isEmpty=false:=by
  rw[← decide_eq_emptyBytes]
  refine decide_eq_false (fun h=>hne (by rw[h];rfl))
 have R:=ki b
 have S:=ki d
 have Z:=ki y
 clear b d y O hne
 clear P
 go_enter Tryz.func239,Tryz.ntmps239
 go_wp2_with (go_at_call 112;refine r.mono ?_;rintro e w' ⟨rfl,ac⟩;subst w')
 go_loopw [26] (fun i wr=>∃ (k:Nat) (l:List Nat),k≤N∧i=.int .i64 k∧l.length=k∧Hid (∀ j (h1:j < ws.length) (h2:j < l.length),f ws[j].data.toList=some l[j])∧Hid (Rowb w1 w1.heap.size wr N (l.map fun x=>Value.int .i64 (x:Nat)))) (fun i _=>N - (intOf i).toNat)
 case atStart=>exact ⟨0,[],by omega,rfl,rfl,fun j h1 h2=>absurd h2 (by simp),z⟩
 case round =>
  obtain ⟨k,l,hk,rfl,H,T,q⟩:=hrel
  have a:=ki H
  clear H
  by_cases hlt:k < N
  ·have A:k < ws.length:=by rw[S.out];exact hlt
   have I:wr.cell? ⟨w.heap.size,k,none⟩=some (.string ws[k]):=by rw[q.out.2.2.2.1.cell (p:=⟨w.heap.size,k,none⟩) F];exact s k A
   have J:=Z.out ws[k] (List.getElem_mem A)
   have U:=G.below q.out.2.2.2.1
   have HW:=ki (show ∀ h:k < ws.length,ws[k]=ws[k] from fun _=>rfl)
   cases hfk:f ws[k].data.toList with
   | none =>
    have B:=X ws[k] wr J hfk U
    have L:=ki (show AM.nums c f t.data.toList=none by
     rw[R.out]
     exact AM.mapM_none f _ k (by simpa using A) (by simpa using hfk))
    have C:=ki (bt g q.out.2.2.2.1)
    generalize ws[k]=x at I B
    clear s hfk
    go_wp2_with (go_at_call 287;refine B.mono ?_;rintro e w3 ⟨⟨u,M,rfl⟩,D⟩)
    go_ret2
    exact ⟨.inr ⟨L.out,rfl⟩,bt C.out D⟩
   | some n =>
    have B:=W ws[k] wr n J hfk
    have hn:=f1 _ n hfk
    have V:=ki (show ∀ j (h1:j < ws.length) (h2:j < (l++[n]).length),f ws[j].data.toList=some (l++[n])[j] from fun j h1 h2=>by
     by_cases e:j=k
     ·subst e
      rw[List.getElem_append_right (by rw[a.out];omega)]
      simpa using hfk
     ·have:j < l.length:=by rw[a.out];simp[a.out] at h2;omega
      rw[List.getElem_append_left this]
      exact T.out j h1 this)
    generalize ws[k]=x at I B
    clear s hfk
    go_wp2_with (go_at_call 287;refine B.mono ?_;rintro e w3 ⟨rfl,D⟩;have E:=ki (q.out.kept D);obtain ⟨v,hv⟩:=E.out.1 k hlt;have ad:=E.out.2.2.1 k)
    have K:=ki (E.out.store (by rw[List.length_map,a.out];exact hlt) (Value.int .i64 (n:Nat)))
    rw[List.length_map,a.out] at K
    go_roundw
    case rel =>
     refine ⟨k+1,l++[n],by omega,by go_num,by simp[a.out],V,?_⟩
     rw[List.map_append]
     exact K
    case measure=>simp[intOf];omega
  ·obtain rfl:k=N:=by omega
   have L:=ki (show AM.nums c f t.data.toList=some l by
    rw[R.out]
    refine AM.mapM_all f _ l (by simp[S.out,a.out]) (fun j h1 h2=>?_)
    simp only[List.getElem_map]
    exact T.out j (by simpa using h1) h2)
   have C:=ki (bt g q.out.2.2.2.1)
   go_wp2
   go_ret2
   refine ⟨.inl ⟨l,_,L.out,rfl,some ⟨w1.heap.size,0,none⟩,?_,fun _=>⟨w1.heap.size,rfl,g.size,q.out.2.2.2.2,fun j x hx=>?_⟩⟩,C.out⟩
   ·rw[a.out];rfl
   ·exact q.out.2.1 j _ (by rw[List.getElem?_map,hx];rfl)
theorem numbers_all (c:UInt8) (base size:Int) (f:List UInt8→Option Nat) (hf:Reads base size f) (t:ByteArray) (w:World) (ht:t.size≤1000) (hM:MaxL w) (hE:Errs w) :
  Calls Tryz.prog 239 #[.string t,.string ⟨#[c]⟩,.int .i64 base,.int .i64 size] w fun e w' =>
   ((∃ l v,AM.nums c f t.data.toList=some l∧e=.returned (.tuple #[v,.bool true])∧IntsAt w.heap.size v l w')∨(AM.nums c f t.data.toList=none∧e=.returned (.tuple #[.slice none 0 0,.bool false])))∧Below w.heap.size w w':=by
 by_cases h0:t.data.toList=[]
 ·obtain rfl:t=⟨#[]⟩:=by
   obtain ⟨⟨a⟩⟩:=t
   simp at h0
   rw[h0]
  exact (numbers_none c base size w).mono fun e w' ⟨h1,h2⟩=>⟨.inl ⟨[],_,rfl,h1,none,rfl,fun h=>absurd rfl h⟩,by rw[h2];exact Below.refl _ _⟩
 ·exact numbers_any c base size f hf t w ht h0 hM hE
theorem numbers_ok (c:UInt8) (base size:Int) (f:List UInt8→Option Nat) (hf:Reads base size f) (t:ByteArray) (w:World) (ht:t.size≤1000) (hM:MaxL w) (hE:Errs w) (l:List Nat) (hl:AM.nums c f t.data.toList=some l) :
  Calls Tryz.prog 239 #[.string t,.string ⟨#[c]⟩,.int .i64 base,.int .i64 size] w fun e w' =>
   (∃ ao,e=.returned (.tuple #[.slice ao l.length l.length,.bool true])∧IntsAt w.heap.size (.slice ao l.length l.length) l w')∧Below w.heap.size w w' :=
 (numbers_all c base size f hf t w ht hM hE).mono fun e w' ⟨h1,h2⟩=>by
  rcases h1 with ⟨l',v,hl',he,ao,hv,hc⟩|⟨hl',_⟩
  ·rw[hl] at hl';cases hl'
   subst hv
   exact ⟨⟨ao,he,ao,rfl,hc⟩,h2⟩
  ·rw[hl] at hl';cases hl'
theorem numbers_no (c:UInt8) (base size:Int) (f:List UInt8→Option Nat) (hf:Reads base size f) (t:ByteArray) (w:World) (ht:t.size≤1000) (hM:MaxL w) (hE:Errs w) (hl:AM.nums c f t.data.toList=none) :
  Calls Tryz.prog 239 #[.string t,.string ⟨#[c]⟩,.int .i64 base,.int .i64 size] w fun e w' =>
   e=.returned (.tuple #[.slice none 0 0,.bool false])∧Below w.heap.size w w' :=
 (numbers_all c base size f hf t w ht hM hE).mono fun e w' ⟨h1,h2⟩=>by
  rcases h1 with ⟨l',v,hl',_⟩|⟨_,he⟩
  ·rw[hl] at hl';cases hl'
  ·exact ⟨he,h2⟩
end Ad
namespace Ad
open Go.RowKit Go.Shelf
variable {z:List Int} {B:Nat} {w:World}
def SixIn (B:Nat) (z:List Int) (w:World):Prop:=w.heap[B]? = some (.cells (sixC z) 23 (0,0))
theorem SixIn.lt (h:SixIn B z w):B < w.heap.size:=(Array.getElem?_eq_some_iff.1 h).1
theorem SixIn.kept {w':World} (h:SixIn B z w) (hb:Below w.heap.size w w'):SixIn B z w':=(hb.block B h.lt).trans h
theorem SixIn.facts (h:SixIn B z w) (j:Nat) (hj:j < 8):w.cell? ⟨B,j,none⟩=some (.int .i64 (el z j))∧w.frozen? ⟨B,j,none⟩=false∧w.setCell ⟨B,j,none⟩ (.int .i64 (el z j))=w:=by
 unfold SixIn at h
 have hc:(sixC z)[j]? = some (.int .i64 (el z j)):=by
  rcases (by omega:j=0∨j=1∨j=2∨j=3∨j=4∨j=5∨j=6∨j=7) with rfl|rfl|rfl|rfl|rfl|rfl|rfl|rfl <;> rfl
 refine ⟨by simp[World.cell?,h,hc],by simp[World.frozen?,h],?_⟩
 rw[setCell_eq_setRow w B j (sixC z) 23 (0,0) _ h]
 have:(sixC z).setIfInBounds j (.int .i64 (el z j))=sixC z:=by
  rcases (by omega:j=0∨j=1∨j=2∨j=3∨j=4∨j=5∨j=6∨j=7) with rfl|rfl|rfl|rfl|rfl|rfl|rfl|rfl <;> rfl
 rw[this]
 exact setRow_self w B (sixC z) _ _ h
def noughts (w:World):World:=w.alloc (.cells #[.int .i64 0,.int .i64 0,.int .i64 0,.int .i64 0,.int .i64 0,.int .i64 0,.int .i64 0,.int .i64 0] 23)
theorem noughts_in (w:World):SixIn w.heap.size [] (noughts w):=by
 unfold SixIn noughts
 show (w.heap.push _)[w.heap.size]? = _
 rw[Array.getElem?_push_size]
 rfl
theorem noughts_below (w:World):Below w.heap.size w (noughts w):=(Below.refl _ _).alloc (Nat.le_refl _) _
theorem six_nil:six []=.agg #[.int .i64 0,.int .i64 0,.int .i64 0,.int .i64 0,.int .i64 0,.int .i64 0,.int .i64 0,.int .i64 0]:=rfl
theorem read_long (s:ByteArray) (w:World) (h:39 < s.size):Calls Tryz.prog 234 #[.string s] w fun e w'=>e=.returned (.tuple #[six [],.bool false])∧Below w.heap.size w w':=by
 rw[six_nil]
 go_enter Tryz.func234,Tryz.ntmps234
 go_wp2
 exact bodyPost_ret (v:=.tuple #[.agg #[.int .i64 0,.int .i64 0,.int .i64 0,.int .i64 0,.int .i64 0,.int .i64 0,.int .i64 0,.int .i64 0],.bool false]) (by simp[results,Tryz.results234,go_sem]) rfl ⟨rfl,(Below.refl _ _).alloc (Nat.le_refl _) _⟩
def LaidA (w:World):Prop:=Tab4 w∧Errs w∧MaxL w
theorem LaidA.below {w':World} (h:LaidA w) (hb:Below w.heap.size w w'):LaidA w':=⟨h.1.below hb,h.2.1.below hb,h.2.2.below hb⟩
theorem take_le (s:ByteArray):(⟨(Lib.cut s.data.toList [58,58]).1.toArray⟩:ByteArray).size≤s.size∧(⟨(Lib.cut s.data.toList [58,58]).2.1.toArray⟩:ByteArray).size≤s.size:=by
 have h:(Lib.cut s.data.toList [58,58]).1.length≤s.data.toList.length∧(Lib.cut s.data.toList [58,58]).2.1.length≤s.data.toList.length:=by
  generalize s.data.toList=l
  unfold Lib.cut
  split
  ·exact ⟨by rw[List.length_take];omega,by rw[List.length_drop];omega⟩
  ·exact ⟨Nat.le_refl _,by simp⟩
 rw[Lib.size_eq s,Lib.size_eq,Lib.size_eq]
 exact h
theorem read_cut (s:ByteArray) (w:World) (h:s.size≤39) (hA:LaidA w):Calls Tryz.prog 281 #[.string s,.string ⟨#[58,58]⟩] (noughts w) fun e w' =>
  e=.returned (.tuple #[.string ⟨(Lib.cut s.data.toList [58,58]).1.toArray⟩,.string ⟨(Lib.cut s.data.toList [58,58]).2.1.toArray⟩,.bool (Lib.cut s.data.toList [58,58]).2.2])∧Below w.heap.size w w'∧SixIn w.heap.size [] w'∧LaidA w':=by
 have b:=hA.below (noughts_below w)
 obtain ⟨m,d⟩:=b.2.2
 refine (Tryz.strings_Cut s ⟨#[58,58]⟩ m (noughts w) (by omega) d).mono fun e w' ⟨he,n,hn⟩=>?_
 have hb:Below (noughts w).heap.size (noughts w) w':=by rw[hn];exact below_drewN (Below.refl _ _) n
 exact ⟨he,bt (noughts_below w) hb,(noughts_in w).kept hb,b.below hb⟩
def SixAll (B:Nat) (z:List Int) (w:World):Prop :=
 (w.cell? ⟨B,0,none⟩=some (.int .i64 (el z 0))∧w.frozen? ⟨B,0,none⟩=false∧w.setCell ⟨B,0,none⟩ (.int .i64 (el z 0))=w) ∧
 (w.cell? ⟨B,1,none⟩=some (.int .i64 (el z 1))∧w.frozen? ⟨B,1,none⟩=false∧w.setCell ⟨B,1,none⟩ (.int .i64 (el z 1))=w) ∧
 (w.cell? ⟨B,2,none⟩=some (.int .i64 (el z 2))∧w.frozen? ⟨B,2,none⟩=false∧w.setCell ⟨B,2,none⟩ (.int .i64 (el z 2))=w) ∧
 (w.cell? ⟨B,3,none⟩=some (.int .i64 (el z 3))∧w.frozen? ⟨B,3,none⟩=false∧w.setCell ⟨B,3,none⟩ (.int .i64 (el z 3))=w) ∧
 (w.cell? ⟨B,4,none⟩=some (.int .i64 (el z 4))∧w.frozen? ⟨B,4,none⟩=false∧w.setCell ⟨B,4,none⟩ (.int .i64 (el z 4))=w) ∧
 (w.cell? ⟨B,5,none⟩=some (.int .i64 (el z 5))∧w.frozen? ⟨B,5,none⟩=false∧w.setCell ⟨B,5,none⟩ (.int .i64 (el z 5))=w) ∧
 (w.cell? ⟨B,6,none⟩=some (.int .i64 (el z 6))∧w.frozen? ⟨B,6,none⟩=false∧w.setCell ⟨B,6,none⟩ (.int .i64 (el z 6))=w) ∧
 (w.cell? ⟨B,7,none⟩=some (.int .i64 (el z 7))∧w.frozen? ⟨B,7,none⟩=false∧w.setCell ⟨B,7,none⟩ (.int .i64 (el z 7))=w)
theorem SixIn.all (h:SixIn B z w):SixAll B z w :=
 ⟨h.facts 0 (by omega),h.facts 1 (by omega),h.facts 2 (by omega),h.facts 3 (by omega),h.facts 4 (by omega),h.facts 5 (by omega),h.facts 6 (by omega),h.facts 7 (by omega)⟩
theorem read_none (s:ByteArray) (w:World) (h:s.size≤39) (hA:LaidA w) (hn:AM.readF s.data.toList=none):Calls Tryz.prog 234 #[.string s] w fun e w'=>e=.returned (.tuple #[six [],.bool false])∧Below w.heap.size w w':=by
 have hcut:=read_cut s w h hA
 obtain ⟨o,p⟩:=take_le s
 have hR:AM.nums 58 AM.hxw (Lib.cut s.data.toList [58,58]).1=none∨AM.nums 58 AM.hxw (Lib.cut s.data.toList [58,58]).2.1=none∨∃ fr bk,AM.nums 58 AM.hxw (Lib.cut s.data.toList [58,58]).1=some fr∧AM.nums 58 AM.hxw (Lib.cut s.data.toList [58,58]).2.1=some bk∧(8 < fr.length+bk.length∨((Lib.cut s.data.toList [58,58]).2.2=false∧fr.length+bk.length < 8)):=by
  unfold AM.readF at hn
  rw[if_neg (by rw[← Lib.size_eq];omega)] at hn
  cases h1:AM.nums 58 AM.hxw (Lib.cut s.data.toList [58,58]).1 with
  | none=>exact .inl rfl
  | some fr =>
   cases h2:AM.nums 58 AM.hxw (Lib.cut s.data.toList [58,58]).2.1 with
   | none=>exact .inr (.inl rfl)
   | some bk =>
    simp only[h1,h2] at hn
    refine .inr (.inr ⟨fr,bk,rfl,rfl,?_⟩)
    by_cases hc:8 < fr.length+bk.length∨((Lib.cut s.data.toList [58,58]).2.2=false∧fr.length+bk.length < 8)
    ·exact hc
    ·rw[if_neg hc] at hn;cases hn
 have q:(⟨(Lib.cut s.data.toList [58,58]).1.toArray⟩:ByteArray).data.toList=(Lib.cut s.data.toList [58,58]).1:=by simp
 have r:(⟨(Lib.cut s.data.toList [58,58]).2.1.toArray⟩:ByteArray).data.toList=(Lib.cut s.data.toList [58,58]).2.1:=by simp
 rw[← q,← r] at hR
 clear q r hn
 generalize (⟨(Lib.cut s.data.toList [58,58]).1.toArray⟩:ByteArray)=tb at hcut o hR
 generalize (⟨(Lib.cut s.data.toList [58,58]).2.1.toArray⟩:ByteArray)=ta at hcut p hR
 generalize (Lib.cut s.data.toList [58,58]).2.2=sh at hcut hR
 unfold noughts at hcut
 have k:six []=.agg #[.int .i64 (el [] 0),.int .i64 (el [] 1),.int .i64 (el [] 2),.int .i64 (el [] 3),.int .i64 (el [] 4),.int .i64 (el [] 5),.int .i64 (el [] 6),.int .i64 (el [] 7)]:=rfl
 rw[k]
 clear k
 cases h1:AM.nums 58 AM.hxw tb.data.toList with
 | none =>
  have l:=ki h1
  clear h1 hR
  go_enter Tryz.func234,Tryz.ntmps234
  go_wp2_with (first
   | (go_at_call 281;refine hcut.mono ?_;rintro e t ⟨rfl,g,i,a⟩)
   | (go_at_call_of 239 (Value.string tb);refine (numbers_no 58 16 16 _ reads16 tb _ (by omega) a.2.2 a.2.1 l.out).mono ?_;rintro e x ⟨rfl,b⟩;have d:=a.below b)
   | (go_at_call_of 239 (Value.string ta);refine (numbers_all 58 16 16 _ reads16 ta _ (by omega) d.2.2 d.2.1).mono ?_;rintro e y ⟨⟨U,V,z,rfl,A,rfl,S⟩|⟨z,rfl⟩,f⟩ <;> obtain ⟨⟨c0,f0,B⟩,⟨c1,f1,C⟩,⟨c2,D,E⟩,⟨c3,F,G⟩,⟨c4,H,I⟩,⟨c5,J,K⟩,⟨c6,f6,s6⟩,⟨c7,L,M⟩⟩:=(i.kept (bt b f)).all))
  all_goals exact bodyPost_ret (v:=.tuple #[.agg #[.int .i64 (el [] 0),.int .i64 (el [] 1),.int .i64 (el [] 2),.int .i64 (el [] 3),.int .i64 (el [] 4),.int .i64 (el [] 5),.int .i64 (el [] 6),.int .i64 (el [] 7)],.bool false]) (by simp[results,Tryz.results234,go_sem,c0,c1,c2,c3,c4,c5,c6,c7]) rfl ⟨rfl,bt g (bt b f)⟩
 | some fr =>
  have N:=AM.nums_len h1
  rw[← Lib.size_eq] at N
  have l:=ki h1
  rw[h1] at hR
  clear h1
  cases h2:AM.nums 58 AM.hxw ta.data.toList with
  | none =>
   have n:=ki h2
   clear h2 hR
   go_enter Tryz.func234,Tryz.ntmps234
   go_wp2_with (first
    | (go_at_call 281;refine hcut.mono ?_;rintro e t ⟨rfl,g,i,a⟩)
    | (go_at_call_of 239 (Value.string tb);refine (numbers_ok 58 16 16 _ reads16 tb _ (by omega) a.2.2 a.2.1 fr l.out).mono ?_;rintro e x ⟨⟨O,rfl,P⟩,b⟩;have d:=a.below b)
    | (go_at_call_of 239 (Value.string ta);refine (numbers_no 58 16 16 _ reads16 ta _ (by omega) d.2.2 d.2.1 n.out).mono ?_;rintro e y ⟨rfl,f⟩;obtain ⟨⟨c0,f0,B⟩,⟨c1,f1,C⟩,⟨c2,D,E⟩,⟨c3,F,G⟩,⟨c4,H,I⟩,⟨c5,J,K⟩,⟨c6,f6,s6⟩,⟨c7,L,M⟩⟩:=(i.kept (bt b f)).all))
   all_goals exact bodyPost_ret (v:=.tuple #[.agg #[.int .i64 (el [] 0),.int .i64 (el [] 1),.int .i64 (el [] 2),.int .i64 (el [] 3),.int .i64 (el [] 4),.int .i64 (el [] 5),.int .i64 (el [] 6),.int .i64 (el [] 7)],.bool false]) (by simp[results,Tryz.results234,go_sem,c0,c1,c2,c3,c4,c5,c6,c7]) rfl ⟨rfl,bt g (bt b f)⟩
  | some bk =>
   have Q:=AM.nums_len h2
   rw[← Lib.size_eq] at Q
   have n:=ki h2
   rw[h2] at hR
   clear h2
   have R:8 < fr.length+bk.length∨(sh=false∧fr.length+bk.length < 8):=by
    rcases hR with hR|hR|⟨fr',bk',hf,hb,hc⟩
    ·cases hR
    ·cases hR
    ·cases hf;cases hb;exact hc
   clear hR
   rcases R with hc|⟨rfl,hc⟩
   all_goals
    go_enter Tryz.func234,Tryz.ntmps234
    go_wp2_with (first
     | (go_at_call 281;refine hcut.mono ?_;rintro e t ⟨rfl,g,i,a⟩)
     | (go_at_call_of 239 (Value.string tb);refine (numbers_ok 58 16 16 _ reads16 tb _ (by omega) a.2.2 a.2.1 fr l.out).mono ?_;rintro e x ⟨⟨O,rfl,P⟩,b⟩;have d:=a.below b)
     | (go_at_call_of 239 (Value.string ta);refine (numbers_ok 58 16 16 _ reads16 ta _ (by omega) d.2.2 d.2.1 bk n.out).mono ?_;rintro e y ⟨⟨A,rfl,T⟩,f⟩;obtain ⟨⟨c0,f0,B⟩,⟨c1,f1,C⟩,⟨c2,D,E⟩,⟨c3,F,G⟩,⟨c4,H,I⟩,⟨c5,J,K⟩,⟨c6,f6,s6⟩,⟨c7,L,M⟩⟩:=(i.kept (bt b f)).all))
    all_goals exact bodyPost_ret (v:=.tuple #[.agg #[.int .i64 (el [] 0),.int .i64 (el [] 1),.int .i64 (el [] 2),.int .i64 (el [] 3),.int .i64 (el [] 4),.int .i64 (el [] 5),.int .i64 (el [] 6),.int .i64 (el [] 7)],.bool false]) (by simp[results,Tryz.results234,go_sem,c0,c1,c2,c3,c4,c5,c6,c7]) rfl ⟨rfl,bt g (bt b f)⟩
end Ad
end Go.Proofs.YtgcojnlngchllaaGreatDoor
