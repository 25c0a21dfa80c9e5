/- read by a contract, where a text is one that may be an address's. Parse by a contract: the address whose text it is, or ErrSyntax. first and In by contracts: the first bits of two addresses, held side by side. Two addresses held side by side. The one text of each four, and what the readings make of it. Print4 and Parse4 by contracts. Parse4 by a contract: the four whose text it is, or ErrSyntax. What the card's listed variables give the walks, and what the world's shape gives. Package run, in plain words: names of errors; bytes in digits, there and back; numbers; words of a line. -/
import Derived.Test.YtgcojnlngchllaaGreatDoorK37
import Derived.Lib.ParseUintOr
import Derived.Test.YtgcojnlngchllaaGreatDoorRows
import Derived.Stop.LaidErr
import Derived.Lib.LaidTab
import Derived.Lay
import Derived.LaidSub
import Derived.Shelf.Vars
import Derived.Laws.AppendOwnNone
namespace Go.Proofs.YtgcojnlngchllaaGreatDoor
open Go.RowKit
set_option linter.unusedVariables false
set_option maxRecDepth 100000
set_option maxHeartbeats 40000000
namespace Ad
open Go.RowKit Go.Shelf
theorem splice_two (v0:Value) (F G:List Value) (h:F.length+G.length≤8):splice (splice (List.replicate 8 v0) 0 F) (8 - G.length) G=F++List.replicate (8 - (F.length+G.length)) v0++G:=by
 unfold splice
 have a:List.take 0 (List.replicate 8 v0)++(F++List.drop (0+F.length) (List.replicate 8 v0))=F++List.replicate (8 - F.length) v0:=by
  rw[Nat.zero_add,List.drop_replicate];rfl
 rw[a]
 have b:List.take (8 - G.length) (F++List.replicate (8 - F.length) v0)=F++List.replicate (8 - (F.length+G.length)) v0:=by
  rw[List.take_append,List.take_of_length_le (by omega),List.take_replicate]
  congr 2;omega
 have d:List.drop (8 - G.length+G.length) (F++List.replicate (8 - F.length) v0)=[]:=by
  apply List.drop_eq_nil_of_le
  simp;omega
 rw[b,d];simp
theorem sixC_map (z:List Int) (h:z.length=8):sixC z=(z.map (Value.int .i64)).toArray:=by
 match z,h with
 | [a,b,c,d,e,f,g,i],_=>rfl
theorem copy_run (w:World) (g off dLen base:Nat) (ao sp:Option Addr) (l:List Nat)
  (cur:List Value) (t:TypeId) (hg:w.heap[g]? = some (.cells cur.toArray t (0,0))) (hn:l.length≤dLen)
  (hao:0 < l.length→ao=some ⟨g,off,none⟩) (hI:IntsAt base (.slice sp l.length l.length) l w) (hfit:off+l.length≤cur.length) :
  ∃ w',(Builtin.copy_ #[168,168] 3 #[.slice ao dLen dLen,.slice sp l.length l.length]).run Tryz.prog w=.ok (goInt l.length) w'∧Hid (w'.heap[g]? = some (.cells (splice cur off (l.map fun x=>Value.int .i64 (x:Nat))).toArray t (0,0)))∧Hid (∀ B,B≤g→Below B w w')∧Hid (∀ k,k≠g→w'.heap[k]? = w.heap[k]?):=by
 have b:(Tryz.prog.info? 3).map (·.size)=some 1:=by kernel_rfl
 by_cases h0:l.length=0
 ·obtain rfl:l=[]:=List.eq_nil_of_length_eq_zero h0
  have:=run_copy_none (P:=Tryz.prog) w 168 168 3 3 ao sp dLen dLen 0 0 Tryz.underlying168 b (by simp)
  exact ⟨w,this,(show _=_ by simpa [splice] using hg),(fun B _=>Below.refl _ _),(fun _ _=>rfl)⟩
 ·have hl:l≠[]:=fun e=>h0 (by rw[e];rfl)
  obtain ⟨i,f,d⟩:=hI
  cases f
  obtain ⟨B,rfl,_,_,hc⟩:=d hl
  obtain rfl:=hao (by omega)
  have e:(l.map fun x:Nat=>Value.int .i64 (x:Nat)).length=l.length:=by simp
  have:=run_copy_row (P:=Tryz.prog) w 168 168 3 3 g off dLen dLen ⟨B,0,none⟩ l.length l.length cur.toArray t (l.map fun x=>Value.int .i64 (x:Nat)) Tryz.underlying168 b hg (by rw[e];exact (Nat.min_eq_left hn).symm) (fun j v hv=>by
   rw[Lib.add_plain,Nat.zero_add]
   rw[List.getElem?_map] at hv
   cases hj:l[j]? with
   | none=>rw[hj] at hv;cases hv
   | some x=>rw[hj] at hv;cases hv;exact hc j x hj) (by rw[e];simpa using hfit) (fun v hv=>by
   obtain ⟨x,_,rfl⟩:=List.mem_map.1 hv
   rfl)
  rw[e] at this
  refine ⟨_,this,?_,(fun B hB=>below_setRow (Below.refl _ _) hB _),(fun k hk=>setRow_other w g k _ hk)⟩
  show _=_
  have h:=setRow_heap w g cur.toArray (List.take off cur.toArray.toList++List.map (fun x=>Value.int IntKind.i64 (x:Nat)) l++List.drop (off+l.length) cur.toArray.toList).toArray t _ hg
  rw[h]
  simp[splice]
theorem IntsAt.moved {base g:Nat} {v:Value} {l:List Nat} {w w':World} (h:IntsAt base v l w) (hg:g < base) (hb:∀ B,B≤g→Below B w w') (hk:∀ k,k≠g→w'.heap[k]? = w.heap[k]?):IntsAt base v l w':=by
 obtain ⟨a,b,h⟩:=h
 refine ⟨a,b,fun hl=>?_⟩
 obtain ⟨B,d,f,i,n⟩:=h hl
 refine ⟨B,d,f,Nat.lt_of_lt_of_le i (hb 0 (Nat.zero_le _)).size,fun j x hx=>?_⟩
 have e:w'.cell? ⟨B,j,none⟩=w.cell? ⟨B,j,none⟩:=World.cell?_of_block (w:=w) (hk B (by omega))
 rw[e]
 exact n j x hx
theorem read_some (s:ByteArray) (w:World) (h:s.size≤39) (hA:LaidA w) (z:List Int) (hn:AM.readF s.data.toList=some z):Calls Tryz.prog 234 #[.string s] w fun e w'=>e=.returned (.tuple #[six z,.bool true])∧Below w.heap.size w w':=by
 have hcut:=read_cut s w h hA
 obtain ⟨L,M⟩:=take_le s
 have H:=(AM.read_ok hn).2
 obtain ⟨fr,bk,f,g,hc,hz⟩:∃ fr bk,AM.nums 58 AM.hxw (Lib.cut s.data.toList [58,58]).1=some fr∧AM.nums 58 AM.hxw (Lib.cut s.data.toList [58,58]).2.1=some bk∧¬ (8 < fr.length+bk.length∨((Lib.cut s.data.toList [58,58]).2.2=false∧fr.length+bk.length < 8))∧z=(fr++List.replicate (8 - (fr.length+bk.length)) 0++bk).map Int.ofNat:=by
  unfold AM.readF at hn
  rw[if_neg (by rw[← Lib.size_eq];omega)] at hn
  cases f:AM.nums 58 AM.hxw (Lib.cut s.data.toList [58,58]).1 with
  | none=>simp[f] at hn
  | some fr =>
   cases g:AM.nums 58 AM.hxw (Lib.cut s.data.toList [58,58]).2.1 with
   | none=>simp[f,g] at hn
   | some bk =>
    simp only[f,g] at hn
    split at hn
    ·cases hn
    ·rename_i hc
     exact ⟨fr,bk,rfl,rfl,hc,(Option.some.inj hn).symm⟩
 have N:(⟨(Lib.cut s.data.toList [58,58]).1.toArray⟩:ByteArray).data.toList=(Lib.cut s.data.toList [58,58]).1:=by simp
 have O:(⟨(Lib.cut s.data.toList [58,58]).2.1.toArray⟩:ByteArray).data.toList=(Lib.cut s.data.toList [58,58]).2.1:=by simp
 rw[← N] at f
 rw[← O] at g
 clear N O hn
 generalize (⟨(Lib.cut s.data.toList [58,58]).1.toArray⟩:ByteArray)=tb at hcut L f
 generalize (⟨(Lib.cut s.data.toList [58,58]).2.1.toArray⟩:ByteArray)=ta at hcut M g
 generalize (Lib.cut s.data.toList [58,58]).2.2=sh at hcut hc
 unfold noughts at hcut
 have P:(fr.map fun x=>Value.int .i64 (x:Nat)).length=fr.length:=List.length_map _
 have Q:(bk.map fun x=>Value.int .i64 (x:Nat)).length=bk.length:=List.length_map _
 have R:=ki (show sixC z=(splice (splice (List.replicate 8 (Value.int .i64 0)) 0 (fr.map fun x=>Value.int .i64 (x:Nat))) (8 - bk.length) (bk.map fun x=>Value.int .i64 (x:Nat))).toArray by
  have:=splice_two (Value.int .i64 0) (fr.map fun x=>Value.int .i64 (x:Nat)) (bk.map fun x=>Value.int .i64 (x:Nat)) (by rw[P,Q];omega)
  rw[P,Q] at this
  rw[this,sixC_map z H,hz]
  congr 1
  simp[List.map_append,List.map_replicate,Function.comp_def])
 clear hz H
 have S:=ki f
 have T:=ki g
 clear f g
 have aq:=six_slice w.heap.size
 have hsl:=six_slice_l w.heap.size (8 - bk.length) (by omega)
 have Y:fr.length≤8:=by omega
 have Z:bk.length≤8:=by omega
 have ar:(8:Int) - (bk.length:Int)=((8 - bk.length:Nat):Int):=by omega
 have aa:(Tryz.prog.info? 3).map (·.size)=some 1:=by kernel_rfl
 by_cases hsh:sh=true
 ·subst hsh
  have U:fr.length+bk.length≤8:=by omega
  clear hc
  go_enter Tryz.func234,Tryz.ntmps234
  go_wp2_with (first
   | (go_at_call 281;refine hcut.mono ?_;rintro e I ⟨rfl,p,i,b⟩)
   | (go_at_call_of 239 (Value.string tb);refine (numbers_ok 58 16 16 _ reads16 tb _ (by omega) b.2.2 b.2.1 fr S.out).mono ?_;rintro e q ⟨⟨r,rfl,t⟩,a⟩;have k:=b.below a)
   | (go_at_call_of 239 (Value.string ta);refine (numbers_ok 58 16 16 _ reads16 ta _ (by omega) k.2.2 k.2.1 bk T.out).mono ?_;rintro e J ⟨⟨y,rfl,A⟩,d⟩;have B:=ki (i.kept (bt a d));have C:=ki (bt p (bt a d));have D:=ki (t.kept d);have o:w.heap.size < q.heap.size:=Nat.lt_of_lt_of_le i.lt a.size;obtain ⟨K,V,E,l,F⟩:=copy_run J w.heap.size 0 8 I.heap.size (some ⟨w.heap.size,0,none⟩) r fr (List.replicate 8 (Value.int .i64 0)) 23 B.out (by omega) (fun _=>rfl) D.out (by simp;omega);obtain ⟨w5,W,n,G,X⟩:=copy_run K w.heap.size (8 - bk.length) (8 - (8 - bk.length)) q.heap.size (some ⟨w.heap.size,off8 (8 - bk.length),none⟩) y bk (splice (List.replicate 8 (Value.int .i64 0)) 0 (fr.map fun x=>Value.int .i64 (x:Nat))) 23 E.out (by omega) (fun hp=>by unfold off8;rw[if_neg (by omega)]) (IntsAt.moved A o l.out F.out) (by rw[length_splice _ _ _ (by simp;omega)];simp;omega);rw[← R.out] at n;obtain ⟨⟨c0,f0,s0⟩,⟨c1,f1,s1⟩,⟨c2,f2,s2⟩,⟨c3,f3,s3⟩,⟨c4,f4,s4⟩,⟨c5,f5,s5⟩,⟨c6,f6,s6⟩,⟨c7,f7,s7⟩⟩:=SixIn.all n.out))
  exact bodyPost_ret (v:=.tuple #[.agg #[.int .i64 (el z 0),.int .i64 (el z 1),.int .i64 (el z 2),.int .i64 (el z 3),.int .i64 (el z 4),.int .i64 (el z 5),.int .i64 (el z 6),.int .i64 (el z 7)],.bool true]) (by simp[results,Tryz.results234,go_sem,c0,c1,c2,c3,c4,c5,c6,c7]) rfl ⟨rfl,(C.out.trans (l.out _ (Nat.le_refl _))).trans (G.out _ (Nat.le_refl _))⟩
 ·obtain rfl:sh=false:=by simpa using hsh
  have U:fr.length+bk.length=8:=by
   have f:¬ 8 < fr.length+bk.length:=fun h=>hc (.inl h)
   have g:¬ fr.length+bk.length < 8:=fun h=>hc (.inr ⟨rfl,h⟩)
   omega
  clear hc hsh
  go_enter Tryz.func234,Tryz.ntmps234
  go_wp2_with (first
   | (go_at_call 281;refine hcut.mono ?_;rintro e I ⟨rfl,p,i,b⟩)
   | (go_at_call_of 239 (Value.string tb);refine (numbers_ok 58 16 16 _ reads16 tb _ (by omega) b.2.2 b.2.1 fr S.out).mono ?_;rintro e q ⟨⟨r,rfl,t⟩,a⟩;have k:=b.below a)
   | (go_at_call_of 239 (Value.string ta);refine (numbers_ok 58 16 16 _ reads16 ta _ (by omega) k.2.2 k.2.1 bk T.out).mono ?_;rintro e J ⟨⟨y,rfl,A⟩,d⟩;have B:=ki (i.kept (bt a d));have C:=ki (bt p (bt a d));have D:=ki (t.kept d);have o:w.heap.size < q.heap.size:=Nat.lt_of_lt_of_le i.lt a.size;obtain ⟨K,V,E,l,F⟩:=copy_run J w.heap.size 0 8 I.heap.size (some ⟨w.heap.size,0,none⟩) r fr (List.replicate 8 (Value.int .i64 0)) 23 B.out (by omega) (fun _=>rfl) D.out (by simp;omega);obtain ⟨w5,W,n,G,X⟩:=copy_run K w.heap.size (8 - bk.length) (8 - (8 - bk.length)) q.heap.size (some ⟨w.heap.size,off8 (8 - bk.length),none⟩) y bk (splice (List.replicate 8 (Value.int .i64 0)) 0 (fr.map fun x=>Value.int .i64 (x:Nat))) 23 E.out (by omega) (fun hp=>by unfold off8;rw[if_neg (by omega)]) (IntsAt.moved A o l.out F.out) (by rw[length_splice _ _ _ (by simp;omega)];simp;omega);rw[← R.out] at n;obtain ⟨⟨c0,f0,s0⟩,⟨c1,f1,s1⟩,⟨c2,f2,s2⟩,⟨c3,f3,s3⟩,⟨c4,f4,s4⟩,⟨c5,f5,s5⟩,⟨c6,f6,s6⟩,⟨c7,f7,s7⟩⟩:=SixIn.all n.out))
  exact bodyPost_ret (v:=.tuple #[.agg #[.int .i64 (el z 0),.int .i64 (el z 1),.int .i64 (el z 2),.int .i64 (el z 3),.int .i64 (el z 4),.int .i64 (el z 5),.int .i64 (el z 6),.int .i64 (el z 7)],.bool true]) (by simp[results,Tryz.results234,go_sem,c0,c1,c2,c3,c4,c5,c6,c7]) rfl ⟨rfl,(C.out.trans (l.out _ (Nat.le_refl _))).trans (G.out _ (Nat.le_refl _))⟩
end Ad
namespace Ad
open Go.RowKit Go.Shelf
def SixAll0 (B:Nat) (w:World):Prop :=
 (w.cell? ⟨B,0,none⟩=some (.int .i64 0)∧w.frozen? ⟨B,0,none⟩=false∧w.setCell ⟨B,0,none⟩ (.int .i64 0)=w) ∧
 (w.cell? ⟨B,1,none⟩=some (.int .i64 0)∧w.frozen? ⟨B,1,none⟩=false∧w.setCell ⟨B,1,none⟩ (.int .i64 0)=w) ∧
 (w.cell? ⟨B,2,none⟩=some (.int .i64 0)∧w.frozen? ⟨B,2,none⟩=false∧w.setCell ⟨B,2,none⟩ (.int .i64 0)=w) ∧
 (w.cell? ⟨B,3,none⟩=some (.int .i64 0)∧w.frozen? ⟨B,3,none⟩=false∧w.setCell ⟨B,3,none⟩ (.int .i64 0)=w) ∧
 (w.cell? ⟨B,4,none⟩=some (.int .i64 0)∧w.frozen? ⟨B,4,none⟩=false∧w.setCell ⟨B,4,none⟩ (.int .i64 0)=w) ∧
 (w.cell? ⟨B,5,none⟩=some (.int .i64 0)∧w.frozen? ⟨B,5,none⟩=false∧w.setCell ⟨B,5,none⟩ (.int .i64 0)=w) ∧
 (w.cell? ⟨B,6,none⟩=some (.int .i64 0)∧w.frozen? ⟨B,6,none⟩=false∧w.setCell ⟨B,6,none⟩ (.int .i64 0)=w) ∧
 (w.cell? ⟨B,7,none⟩=some (.int .i64 0)∧w.frozen? ⟨B,7,none⟩=false∧w.setCell ⟨B,7,none⟩ (.int .i64 0)=w)
theorem SixIn.all0 {B:Nat} {w:World} (h:SixIn B [] w):SixAll0 B w:=h.all
theorem str_ne {a b:ByteArray} (h:a≠b):(a.toList == b.toList)=false:=by
 rw[beq_eq_false_iff_ne]
 intro e
 rw[ByteArray.toList_eq,ByteArray.toList_eq] at e
 exact h (WideShapes.bytes_inj e)
theorem six_new (z:List Int) (w:World):SixIn w.heap.size z (w.alloc (.cells #[.int .i64 (el z 0),.int .i64 (el z 1),.int .i64 (el z 2),.int .i64 (el z 3),.int .i64 (el z 4),.int .i64 (el z 5),.int .i64 (el z 6),.int .i64 (el z 7)] 23)):=by
 unfold SixIn
 show (w.heap.push _)[w.heap.size]? = _
 rw[Array.getElem?_push_size]
 rfl
theorem read_no (s:ByteArray) (w:World) (hA:LaidA w) (hn:AM.readF s.data.toList=none):Calls Tryz.prog 234 #[.string s] w fun e w'=>e=.returned (.tuple #[six [],.bool false])∧Below w.heap.size w w':=by
 by_cases h:s.size≤39
 ·exact read_none s w h hA hn
 ·exact read_long s w (by omega)
theorem read_yes (s:ByteArray) (w:World) (hA:LaidA w) (z:List Int) (hn:AM.readF s.data.toList=some z):Calls Tryz.prog 234 #[.string s] w fun e w'=>e=.returned (.tuple #[six z,.bool true])∧Below w.heap.size w w':=by
 by_cases h:s.size≤39
 ·exact read_some s w h hA z hn
 ·unfold AM.readF at hn
  rw[if_pos (by rw[← Lib.size_eq];omega)] at hn
  cases hn
theorem parse_no1 (s:ByteArray) (w:World) (hA:LaidA w) (hn:AM.readF s.data.toList=none):Calls Tryz.prog 177 #[.string s] w fun e w'=>e=.returned (.tuple #[six [],.iface 28 (.int .i64 5)])∧Below w.heap.size w w':=by
 have b:=read_no s (noughts w) (hA.below (noughts_below w)) hn
 have d:=noughts_in w
 have f:=noughts_below w
 rw[six_nil] at b ⊢
 unfold noughts at b d f
 go_enter Tryz.func177,Tryz.ntmps177
 go_wp2_with (go_at_call 234;refine b.mono ?_;rintro e g ⟨rfl,a⟩;obtain ⟨⟨c0,f0,h⟩,⟨c1,f1,i⟩,⟨c2,k,l⟩,⟨c3,n,o⟩,⟨c4,p,q⟩,⟨c5,r,t⟩,⟨c6,f6,s6⟩,⟨c7,x,y⟩⟩:=(d.kept (bt a ((Below.refl _ g).alloc (Nat.le_refl _) (.cells #[.int .i64 0,.int .i64 0,.int .i64 0,.int .i64 0,.int .i64 0,.int .i64 0,.int .i64 0,.int .i64 0] 23)))).all0)
 exact bodyPost_ret (v:=.tuple #[.agg #[.int .i64 0,.int .i64 0,.int .i64 0,.int .i64 0,.int .i64 0,.int .i64 0,.int .i64 0,.int .i64 0],.iface 28 (.int .i64 5)]) (by simp[results,Tryz.results177,go_sem,c0,c1,c2,c3,c4,c5,c6,c7]) rfl ⟨rfl,bt f (bt a ((Below.refl _ g).alloc (Nat.le_refl _) _))⟩
theorem parse_no2 (s:ByteArray) (w:World) (hA:LaidA w) (z:List Int) (hn:AM.readF s.data.toList=some z) (ht:AM.tx z≠s.data.toList):Calls Tryz.prog 177 #[.string s] w fun e w'=>e=.returned (.tuple #[six [],.iface 28 (.int .i64 5)])∧Below w.heap.size w w':=by
 have i:=read_yes s (noughts w) (hA.below (noughts_below w)) z hn
 have d:=hA.below (noughts_below w)
 have b:=fun w h=>print_ok z w (AM.read_ok hn).1 h
 have l:=noughts_in w
 have n:=noughts_below w
 have f:(⟨(AM.tx z).toArray⟩:ByteArray)≠s:=fun e=>ht (by rw[← e])
 have o:=str_ne f
 clear ht
 unfold strv at b
 generalize (⟨(AM.tx z).toArray⟩:ByteArray)=tz at b f o
 rw[six_nil]
 unfold six at i b
 unfold noughts at i l n d
 go_enter Tryz.func177,Tryz.ntmps177
 go_wp2_with (first
  | (go_at_call 234;refine i.mono ?_;rintro e k ⟨rfl,a⟩;have p:=(d.below a).below ((Below.refl _ k).alloc (Nat.le_refl _) (.cells #[.int .i64 (el z 0),.int .i64 (el z 1),.int .i64 (el z 2),.int .i64 (el z 3),.int .i64 (el z 4),.int .i64 (el z 5),.int .i64 (el z 6),.int .i64 (el z 7)] 23));have q:=l.kept (bt a ((Below.refl _ k).alloc (Nat.le_refl _) (.cells #[.int .i64 (el z 0),.int .i64 (el z 1),.int .i64 (el z 2),.int .i64 (el z 3),.int .i64 (el z 4),.int .i64 (el z 5),.int .i64 (el z 6),.int .i64 (el z 7)] 23))))
  | (go_at_call 235;refine (b _ p.1).mono ?_;rintro e r ⟨rfl,g⟩;obtain ⟨⟨c0,f0,t⟩,⟨c1,f1,x⟩,⟨c2,y,A⟩,⟨c3,B,C⟩,⟨c4,D,E⟩,⟨c5,F,G⟩,⟨c6,f6,s6⟩,⟨c7,H,I⟩⟩:=(q.kept g).all0))
 exact bodyPost_ret (v:=.tuple #[.agg #[.int .i64 0,.int .i64 0,.int .i64 0,.int .i64 0,.int .i64 0,.int .i64 0,.int .i64 0,.int .i64 0],.iface 28 (.int .i64 5)]) (by simp[results,Tryz.results177,go_sem,c0,c1,c2,c3,c4,c5,c6,c7]) rfl ⟨rfl,bt n (bt (bt a ((Below.refl _ k).alloc (Nat.le_refl _) _)) g)⟩
theorem parse_no (s:ByteArray) (w:World) (hA:LaidA w) (hn:AM.parseF s.data.toList=none):Calls Tryz.prog 177 #[.string s] w fun e w'=>e=.returned (.tuple #[six [],.iface 28 (.int .i64 5)])∧Below w.heap.size w w':=by
 unfold AM.parseF at hn
 cases hr:AM.readF s.data.toList with
 | none=>exact parse_no1 s w hA hr
 | some z =>
  rw[hr] at hn
  refine parse_no2 s w hA z hr fun e=>?_
  simp[e] at hn
theorem parse_yes (s:ByteArray) (w:World) (hA:LaidA w) (z:List Int) (hn:AM.parseF s.data.toList=some z):Calls Tryz.prog 177 #[.string s] w fun e w'=>e=.returned (.tuple #[six z,.nilIface])∧Below w.heap.size w w':=by
 obtain ⟨n,hl,k⟩:=AM.parse_is hn
 have o:AM.readF s.data.toList=some z:=by rw[← k];exact AM.read_tx n hl
 have l:=read_yes s (noughts w) (hA.below (noughts_below w)) z o
 have g:=hA.below (noughts_below w)
 have f:=fun w h=>print_ok z w n h
 have p:=noughts_in w
 have q:=noughts_below w
 have i:(⟨(AM.tx z).toArray⟩:ByteArray)=s:=by rw[k]
 unfold strv at f
 rw[i] at f
 clear o k i hn
 unfold six at l f ⊢
 unfold noughts at l p q g
 go_enter Tryz.func177,Tryz.ntmps177
 go_wp2_with (first
  | (go_at_call 234;refine l.mono ?_;rintro e a ⟨rfl,b⟩;have r:=(g.below b).below ((Below.refl _ a).alloc (Nat.le_refl _) (.cells #[.int .i64 (el z 0),.int .i64 (el z 1),.int .i64 (el z 2),.int .i64 (el z 3),.int .i64 (el z 4),.int .i64 (el z 5),.int .i64 (el z 6),.int .i64 (el z 7)] 23));have t:=p.kept (bt b ((Below.refl _ a).alloc (Nat.le_refl _) (.cells #[.int .i64 (el z 0),.int .i64 (el z 1),.int .i64 (el z 2),.int .i64 (el z 3),.int .i64 (el z 4),.int .i64 (el z 5),.int .i64 (el z 6),.int .i64 (el z 7)] 23)));have x:SixIn a.heap.size z (a.alloc (.cells #[.int .i64 (el z 0),.int .i64 (el z 1),.int .i64 (el z 2),.int .i64 (el z 3),.int .i64 (el z 4),.int .i64 (el z 5),.int .i64 (el z 6),.int .i64 (el z 7)] 23)):=six_new z a)
  | (go_at_call 235;refine (f _ r.1).mono ?_;rintro e y ⟨rfl,d⟩;obtain ⟨⟨c0,f0,A⟩,⟨c1,f1,B⟩,⟨c2,C,D⟩,⟨c3,E,F⟩,⟨c4,G,H⟩,⟨c5,I,J⟩,⟨c6,f6,s6⟩,⟨c7,K,L⟩⟩:=(t.kept d).all0;obtain ⟨⟨M,-,-⟩,⟨N,-,-⟩,⟨O,-,-⟩,⟨P,-,-⟩,⟨Q,-,-⟩,⟨R,-,-⟩,⟨S,-,-⟩,⟨T,-,-⟩⟩:=(x.kept d).all))
 exact bodyPost_ret (v:=.tuple #[.agg #[.int .i64 (el z 0),.int .i64 (el z 1),.int .i64 (el z 2),.int .i64 (el z 3),.int .i64 (el z 4),.int .i64 (el z 5),.int .i64 (el z 6),.int .i64 (el z 7)],.nilIface]) (by simp[results,Tryz.results177,go_sem,c0,c1,c2,c3,c4,c5,c6,c7]) rfl ⟨rfl,(((((((((bt q (bt (bt b ((Below.refl _ a).alloc (Nat.le_refl _) _)) d)).setCell (Nat.le_refl _) _).setCell (Nat.le_refl _) _).setCell (Nat.le_refl _) _).setCell (Nat.le_refl _) _).setCell (Nat.le_refl _) _).setCell (Nat.le_refl _) _).setCell (Nat.le_refl _) _).setCell (Nat.le_refl _) _)⟩
end Ad
namespace Ad
open Go.RowKit Go.Shelf
def shf (n:Int) (k:Nat):Nat:=(16 - min (max (n - 16*(k:Int)) 0) 16).toNat
def fel (z:List Int) (n:Int) (k:Nat):Int:=el z k / (2:Int) ^ shf n k
def inF (a p:List Int) (n:Int):Bool:=(List.range 8).all fun j=>fel a n j == fel p n j
end Ad
namespace Ad
def eqz (a b:List Int):Bool:=el a 0 == el b 0 && el a 1 == el b 1 && el a 2 == el b 2 && el a 3 == el b 3 && el a 4 == el b 4 && el a 5 == el b 5 && el a 6 == el b 6 && el a 7 == el b 7
end Ad
namespace Ad
namespace AM
theorem dec_lt {n:Nat} (h:n < 10):Lib.decDigits n=[UInt8.ofNat (48+n)]:=by rw[Lib.decDigits,dif_pos h]
theorem dec_ge {n:Nat} (h:¬ n < 10):Lib.decDigits n=Lib.decDigits (n / 10)++[UInt8.ofNat (48+n % 10)]:=by rw[Lib.decDigits,dif_neg h]
theorem dec_len (k:Nat):∀ n:Nat,n < 10 ^ (k+1)→(Lib.decDigits n).length≤k+1:=by
 induction k with
 | zero=>intro n h;rw[dec_lt (by omega)];simp
 | succ k ih =>
  intro n h
  by_cases hn:n < 10
  ·rw[dec_lt hn];simp
  ·rw[dec_ge hn]
   have:=ih (n / 10) (by rw[Nat.pow_succ] at h;omega)
   simp;omega
theorem dec_len3 {n:Nat} (h:n≤255):(Lib.decDigits n).length≤3:=dec_len 2 n (by omega)
def dec8 (w:List UInt8):Option Nat:=match Lib.parseUintB 8 w with
 | .ok u=>some u
 | _=>none
theorem dec8_le {w:List UInt8} {u:Nat} (h:dec8 w=some u):u≤255:=by
 unfold dec8 at h
 split at h
 ·rename_i v hv
  cases h
  exact Lib.parseUintB_le hv
 ·cases h
def by4 (n:Nat):List Nat:=[n / 16777216,n / 65536 % 256,n / 256 % 256,n % 256]
def t4 (n:Nat):List UInt8:=jn 46 ((by4 n).map Lib.decDigits)
def of4:List Nat→Nat
 | [a,b,c,d]=>((a*256+b)*256+c)*256+d
 | _=>0
theorem by4_le {n:Nat} (h:n < 4294967296):∀ x ∈ by4 n,x≤255:=by
 intro x a
 simp[by4] at a
 omega
theorem by4_of4 {l:List Nat} (hl:l.length=4) (h:∀ x ∈ l,x≤255):by4 (of4 l)=l∧of4 l < 4294967296:=by
 match l,hl with
 | [a,b,c,d],_ =>
  have e:=h a (by simp);have hb:=h b (by simp);have hc:=h c (by simp);have hd:=h d (by simp)
  simp only[of4,by4]
  refine ⟨?_,by omega⟩
  congr 1
  ·omega
  ·congr 1
   ·omega
   ·congr 1
    ·omega
    ·congr 1;omega
theorem t4_len {n:Nat} (h:n < 4294967296):(t4 n).length≤15:=by
 have:=jn_len 46 3 ((by4 n).map Lib.decDigits) (fun x hx=>by
  obtain ⟨m,a,rfl⟩:=List.mem_map.1 hx
  exact dec_len3 (by4_le h m a))
 exact this
def read4 (s:List UInt8):Option (List Nat):=if 15 < s.length then none else match nums 46 dec8 s with
 | some l=>if l.length=4 then some l else none
 | none=>none
def parse4F (s:List UInt8):Option Nat:=match read4 s with
 | some l=>if t4 (of4 l)=s then some (of4 l) else none
 | none=>none
theorem nums8_le {t:List UInt8} {l:List Nat} (h:nums 46 dec8 t=some l):∀ x ∈ l,x≤255:=by
 unfold nums at h
 split at h
 ·cases h;simp
 ·generalize spl 46 t=ws at h
  induction ws generalizing l with
  | nil=>simp at h;subst h;simp
  | cons w ws ih =>
   rw[List.mapM_cons] at h
   cases hw:dec8 w with
   | none=>rw[hw] at h;simp at h
   | some n =>
    rw[hw] at h
    cases hr:ws.mapM dec8 with
    | none=>rw[hr] at h;simp at h
    | some r =>
     rw[hr] at h
     simp at h
     subst h
     intro x hx
     rcases List.mem_cons.1 hx with rfl|hx
     ·exact dec8_le hw
     ·exact ih hr x hx
theorem read4_ok {s:List UInt8} {l:List Nat} (h:read4 s=some l):l.length=4∧(∀ x ∈ l,x≤255)∧nums 46 dec8 s=some l∧s.length≤15:=by
 unfold read4 at h
 split at h
 ·cases h
 ·split at h
  ·rename_i hn
   split at h
   ·cases h
    exact ⟨by assumption,nums8_le hn,hn,by omega⟩
   ·cases h
  ·cases h
theorem parse4_is {s:List UInt8} {n:Nat} (h:parse4F s=some n):n < 4294967296∧t4 n=s:=by
 unfold parse4F at h
 split at h
 ·rename_i l hr
  split at h
  ·rename_i ht
   cases h
   obtain ⟨a,b,_⟩:=read4_ok hr
   exact ⟨(by4_of4 a b).2,ht⟩
  ·cases h
 ·cases h
end AM
end Ad
namespace Ad
open Go.RowKit Go.Shelf
def Pow10 (w:World):Prop:=Lib.TabIs Tryz.prog w (Rows.runAnswersRow.named.getD 6 "") .u64 Lib.pow10Tab
theorem Tryz.powNamed:Tryz.prog.globalNamed (Rows.runAnswersRow.named.getD 6 "") = some 6:=by kernel_rfl
theorem Pow10.lt {w:World} (h:Pow10 w):6 < w.heap.size:=by
 have:=Lib.TabIs.cell h Tryz.powNamed 0 (by decide)
 exact lt_of_cell this
theorem Pow10.below {w w':World} (h:Pow10 w) (hb:Below w.heap.size w w'):Pow10 w':=var?_below hb Tryz.powNamed h.lt h
theorem below_grow (w:World) (os:Array Obj):Below w.heap.size w (Sort.grow w os):=by
 refine ⟨rfl,rfl,rfl,by simp[Sort.grow],fun k hk=>?_⟩
 simp[Sort.grow,Array.getElem?_append,hk]
theorem itoa_any (n:Nat) (w:World) (hn:n≤1000000000000) (hP:Pow10 w):Calls Tryz.prog 237 #[.int .i64 (n:Nat)] w fun e w'=>e=.returned (strv (Lib.decDigits n))∧Below w.heap.size w w':=by
 refine (Any.strconv_Itoa Tryz.laysM171 (n:Int) (by omega) (by omega) w hP).mono fun e w' ⟨he,k,os,hw⟩=>⟨?_,?_⟩
 ·rw[he,Lib.itoa_nonneg];rfl
 ·rw[hw];exact Below.trans (below_drewN (Below.refl _ _) k) (below_grow (w.drewN k) os)
theorem i64_and255 (n:Int):bits .and .i64 n 255=n % 256:=by
 have h:(BitVec.ofInt 64 255).toNat=2 ^ 8 - 1:=by decide
 have a:(BitVec.ofInt 64 n &&& BitVec.ofInt 64 255).toNat=(n % ((2 ^ 64:Nat):Int)).toNat % 2 ^ 8:=by
  rw[BitVec.toNat_and,BitVec.toNat_ofInt,h,Nat.and_two_pow_sub_one_eq_mod]
 show IntKind.i64.wrap ((BitVec.ofInt 64 n &&& BitVec.ofInt 64 255).toNat:Nat)=n % 256
 rw[a,IntKind.wrap_i64]
 omega
theorem c4_ok (a:Int) (w:World) (h0:0≤a) (h1:a≤4294967295):Calls Tryz.prog 73 #[.int .i64 a] w fun e w'=>e=.returned .nilIface∧w'=w:=by
 go_enter Tryz.func73,Tryz.ntmps73
 go_wp2
 go_ret
 exact ⟨rfl,rfl⟩
theorem print4_ok (n:Nat) (w:World) (h:n≤4294967295) (hP:Pow10 w):Calls Tryz.prog 240 #[.int .i64 (n:Nat)] w fun e w'=>e=.returned (.tuple #[strv (AM.t4 n),.nilIface])∧Below w.heap.size w w':=by
 have x:(Instr.makeSlice 130 (.int .i64 4) (.int .i64 4)).run Tryz.prog w=.ok (.slice (some ⟨w.heap.size,0,none⟩) 4 4) (w.alloc (.cells (madeCells #[.string ⟨#[]⟩] 4) 9)):=make_str w 4 (by omega)
 have r:=Rowb.made w (.string ⟨#[]⟩) 4 9 rfl
 simp only[Value.cells] at r
 generalize w.alloc (.cells (madeCells #[.string ⟨#[]⟩] 4) 9)=w0 at x r
 go_enter Tryz.func240,Tryz.ntmps240
 go_wp2_with (go_at_call 73;refine (c4_ok _ _ (by omega) (by omega)).mono ?_;rintro e w1 ⟨rfl,hw⟩;rw[hw];clear hw w1)
 go_loopw [15] (fun t wr=>∃ k:Nat,k≤4∧t=.int .i64 k∧Hid (Rowb w w.heap.size wr 4 ((((AM.by4 n).map Lib.decDigits).take k).map strv))) (fun t _=>4 - (intOf t).toNat)
 case atStart=>exact ⟨0,by omega,rfl,r⟩
 case round =>
  obtain ⟨k,B,rfl,o⟩:=hrel
  have q:=hP.below o.out.2.2.2.1
  by_cases hlt:k < 4
  ·have l:∀ (m:Nat) (hm:m≤255) (w1:World),Pow10 w1→Calls Tryz.prog 237 #[.int .i64 (m:Nat)] w1 fun e w'=>e=.returned (strv (Lib.decDigits m))∧Below w1.heap.size w1 w':=fun m hm w1 hp=>itoa_any m w1 (by omega) hp
   rcases (by omega:k=0∨k=1∨k=2∨k=3) with rfl|rfl|rfl|rfl
   ·have p:bits .and .i64 ((n:Int) / 16777216) 255=((n / 16777216:Nat):Int):=by rw[i64_and255];omega
    have d:=l (n / 16777216) (by omega) wr q
    have f:=ki (show (((AM.by4 n).map Lib.decDigits).take 1).map strv=(((AM.by4 n).map Lib.decDigits).take 0).map strv++[strv (Lib.decDigits (n / 16777216))] from rfl)
    have g:=ki (show ((((AM.by4 n).map Lib.decDigits).take 0).map strv).length=0 from rfl)
    clear l
    unfold strv at d
    generalize n / 16777216=m at p d f
    go_wp2_with (go_at_call 237;refine d.mono ?_;rintro e w1 ⟨rfl,i⟩;have a:=ki (o.out.kept i);obtain ⟨v,hv⟩:=a.out.1 0 (by omega);have s:=a.out.2.2.1 0)
    have b:=ki (a.out.store (by rw[g.out];omega) (strv (Lib.decDigits m)))
    rw[g.out] at b
    go_roundw
    case rel =>
     refine ⟨1,by omega,rfl,?_⟩
     rw[f.out]
     exact b
    case measure=>simp[intOf]
   ·have p:bits .and .i64 ((n:Int) / 65536) 255=((n / 65536 % 256:Nat):Int):=by rw[i64_and255];omega
    have d:=l (n / 65536 % 256) (by omega) wr q
    have f:=ki (show (((AM.by4 n).map Lib.decDigits).take 2).map strv=(((AM.by4 n).map Lib.decDigits).take 1).map strv++[strv (Lib.decDigits (n / 65536 % 256))] from rfl)
    have g:=ki (show ((((AM.by4 n).map Lib.decDigits).take 1).map strv).length=1 from rfl)
    clear l
    unfold strv at d
    generalize n / 65536 % 256=m at p d f
    go_wp2_with (go_at_call 237;refine d.mono ?_;rintro e w1 ⟨rfl,i⟩;have a:=ki (o.out.kept i);obtain ⟨v,hv⟩:=a.out.1 1 (by omega);have s:=a.out.2.2.1 1)
    have b:=ki (a.out.store (by rw[g.out];omega) (strv (Lib.decDigits m)))
    rw[g.out] at b
    go_roundw
    case rel =>
     refine ⟨2,by omega,rfl,?_⟩
     rw[f.out]
     exact b
    case measure=>simp[intOf]
   ·have p:bits .and .i64 ((n:Int) / 256) 255=((n / 256 % 256:Nat):Int):=by rw[i64_and255];omega
    have d:=l (n / 256 % 256) (by omega) wr q
    have f:=ki (show (((AM.by4 n).map Lib.decDigits).take 3).map strv=(((AM.by4 n).map Lib.decDigits).take 2).map strv++[strv (Lib.decDigits (n / 256 % 256))] from rfl)
    have g:=ki (show ((((AM.by4 n).map Lib.decDigits).take 2).map strv).length=2 from rfl)
    clear l
    unfold strv at d
    generalize n / 256 % 256=m at p d f
    go_wp2_with (go_at_call 237;refine d.mono ?_;rintro e w1 ⟨rfl,i⟩;have a:=ki (o.out.kept i);obtain ⟨v,hv⟩:=a.out.1 2 (by omega);have s:=a.out.2.2.1 2)
    have b:=ki (a.out.store (by rw[g.out];omega) (strv (Lib.decDigits m)))
    rw[g.out] at b
    go_roundw
    case rel =>
     refine ⟨3,by omega,rfl,?_⟩
     rw[f.out]
     exact b
    case measure=>simp[intOf]
   ·have p:bits .and .i64 ((n:Int)) 255=((n % 256:Nat):Int):=by rw[i64_and255];omega
    have d:=l (n % 256) (by omega) wr q
    have f:=ki (show (((AM.by4 n).map Lib.decDigits).take 4).map strv=(((AM.by4 n).map Lib.decDigits).take 3).map strv++[strv (Lib.decDigits (n % 256))] from rfl)
    have g:=ki (show ((((AM.by4 n).map Lib.decDigits).take 3).map strv).length=3 from rfl)
    clear l
    unfold strv at d
    generalize n % 256=m at p d f
    go_wp2_with (go_at_call 237;refine d.mono ?_;rintro e w1 ⟨rfl,i⟩;have a:=ki (o.out.kept i);obtain ⟨v,hv⟩:=a.out.1 3 (by omega);have s:=a.out.2.2.1 3)
    have b:=ki (a.out.store (by rw[g.out];omega) (strv (Lib.decDigits m)))
    rw[g.out] at b
    go_roundw
    case rel =>
     refine ⟨4,by omega,rfl,?_⟩
     rw[f.out]
     exact b
    case measure=>simp[intOf]
  ·obtain rfl:k=4:=by omega
   have y:=join_row 46 w wr w.heap.size 4 ((AM.by4 n).map Lib.decDigits) rfl (by omega) (by have:=AM.t4_len (n:=n) (by omega);unfold AM.t4 at this;omega) o.out
   have z:Calls Tryz.prog 241 #[.slice (some ⟨w.heap.size,0,none⟩) 4 4,.string ⟨#[46]⟩] wr fun e w'=>e=.returned (strv (AM.t4 n))∧Below wr.heap.size wr w':=y
   have A:=ki o.out.2.2.2.1
   clear y
   go_wp2_with (go_at_call 241;refine z.mono ?_;rintro e w1 ⟨rfl,i⟩)
   go_ret2
   exact ⟨rfl,bt A.out i⟩
end Ad
namespace Ad
open Go.RowKit Go.Shelf
theorem reads10:Reads 10 8 AM.dec8:=by
 refine ⟨fun t n h=>by have:=AM.dec8_le h;omega,fun t w n ht hn=>?_,fun t w ht hn hE=>?_⟩
 ·have h:Lib.parseUintB 8 t.data.toList=.ok n:=by
   unfold AM.dec8 at hn
   split at hn
   ·rename_i u hu;cases hn;exact hu
   ·cases hn
  refine (Any.strconv_ParseUint_10_at8_ok Tryz.laysPu14 t (by omega) n h w).mono fun e w' ⟨he,hw⟩=>⟨he,?_⟩
  rcases hw with rfl|rfl
  ·exact Below.refl _ _
  ·exact Lib.bytesWorld_below _ _ _
 ·obtain ⟨⟨a,b,d⟩,⟨f,g,i⟩⟩:=hE
  cases h:Lib.parseUintB 8 t.data.toList
  ·unfold AM.dec8 at hn;rw[h] at hn;cases hn
  ·exact (Any.strconv_ParseUint_10_at8_syntax Tryz.laysPu14 t (by omega) h _ w d (.inr ⟨a,b,rfl⟩)).mono fun e w' ⟨N,he,_,_,hb⟩=>⟨⟨_,N,he⟩,hb⟩
  ·exact (Any.strconv_ParseUint_10_at8_range Tryz.laysPu14 t (by omega) h _ w i (.inr ⟨f,g,rfl⟩)).mono fun e w' ⟨N,he,_,_,hb⟩=>⟨⟨_,N,he⟩,hb⟩
theorem or8 (a x:Nat) (ha:a < 16777216) (hx:x≤255):bits .or .i64 ((a*256:Nat):Int) (x:Int)=((a*256+x:Nat):Int):=by
 have d:(BitVec.ofInt 64 ((a*256:Nat):Int)).toNat=a*256:=by rw[BitVec.toNat_ofInt];omega
 have e:(BitVec.ofInt 64 (x:Int)).toNat=x:=by rw[BitVec.toNat_ofInt];omega
 have b:(BitVec.ofInt 64 ((a*256:Nat):Int) ||| BitVec.ofInt 64 (x:Int)).toNat=a*256+x:=by
  rw[BitVec.toNat_or,d,e]
  have:=Nat.two_pow_add_eq_or_of_lt (i:=8) (show x < 2 ^ 8 by omega) a
  rw[show 2 ^ 8*a+x=a*256+x by omega,show 2 ^ 8*a=a*256 by omega] at this
  exact this.symm
 show IntKind.i64.wrap ((BitVec.ofInt 64 ((a*256:Nat):Int) ||| BitVec.ofInt 64 (x:Int)).toNat:Nat)=_
 rw[b,IntKind.wrap_i64]
 omega
theorem parse4_no1 (s:ByteArray) (w:World) (hM:MaxL w) (hE:Errs w) (hn:AM.read4 s.data.toList=none):Calls Tryz.prog 181 #[.string s] w fun e w'=>e=.returned (.tuple #[.int .i64 0,.iface 28 (.int .i64 5)])∧Below w.heap.size w w':=by
 by_cases hl:s.size≤15
 ·unfold AM.read4 at hn
  rw[if_neg (by rw[← Lib.size_eq];omega)] at hn
  cases h:AM.nums 46 AM.dec8 s.data.toList with
  | none =>
   have a:=numbers_no 46 10 8 _ reads10 s w (by omega) hM hE h
   clear h hn
   go_enter Tryz.func181,Tryz.ntmps181
   go_wp2_with (go_at_call 239;refine a.mono ?_;rintro e b ⟨rfl,hb⟩)
   go_ret2
   exact ⟨rfl,hb⟩
  | some l =>
   have a:=numbers_ok 46 10 8 _ reads10 s w (by omega) hM hE l h
   have h4:l.length≠4:=by
    intro e
    simp[h,e] at hn
   have d:((l.length:Int) == 4)=false:=by rw[beq_eq_false_iff_ne];omega
   clear h hn
   go_enter Tryz.func181,Tryz.ntmps181
   go_wp2_with (go_at_call 239;refine a.mono ?_;rintro e b ⟨⟨f,rfl,g⟩,hb⟩)
   go_ret2
   exact ⟨rfl,hb⟩
 ·go_enter Tryz.func181,Tryz.ntmps181
  go_wp2
  go_ret2
  exact ⟨rfl,Below.refl _ _⟩
def acc4 (l:List Nat):Nat→Nat
 | 0=>0
 | k+1=>acc4 l k*256+l.getD k 0
theorem acc4_lt (l:List Nat) (h:∀ k,l.getD k 0≤255) (k:Nat):acc4 l k < 256 ^ k:=by
 induction k with
 | zero=>simp[acc4]
 | succ k ih =>
  have:=h k
  simp only[acc4,Nat.pow_succ]
  omega
theorem acc4_of (l:List Nat) (hl:l.length=4):acc4 l 4=AM.of4 l:=by
 match l,hl with
 | [a,b,c,d],_=>simp[acc4,AM.of4]
theorem parse4_some (s:ByteArray) (w:World) (hM:MaxL w) (hE:Errs w) (hP:Pow10 w) (l:List Nat) (hn:AM.read4 s.data.toList=some l):Calls Tryz.prog 181 #[.string s] w fun e w' =>
  e=.returned (if AM.t4 (AM.of4 l)=s.data.toList then .tuple #[.int .i64 (AM.of4 l:Nat),.nilIface] else .tuple #[.int .i64 0,.iface 28 (.int .i64 5)])∧Below w.heap.size w w':=by
 obtain ⟨h4,d,t,hs⟩:=AM.read4_ok hn
 rw[← Lib.size_eq] at hs
 obtain ⟨r,hr⟩:∃ r:Value,r=if AM.t4 (AM.of4 l)=s.data.toList then .tuple #[.int .i64 (AM.of4 l:Nat),.nilIface] else .tuple #[.int .i64 0,.iface 28 (.int .i64 5)]:=⟨_,rfl⟩
 rw[← hr]
 have f:=ki hr
 clear hr
 have z:=numbers_ok 46 10 8 _ reads10 s w (by omega) hM hE l t
 have E:=(AM.by4_of4 h4 d).2
 have q:∀ k,l.getD k 0≤255:=fun k=>by
  by_cases A:k < l.length
  ·have:l.getD k 0=l[k]:=by simp[A]
   rw[this];exact d _ (List.getElem_mem A)
  ·simp[List.getD,List.getElem?_eq_none (by omega:l.length≤k)]
 have g:=acc4_of l h4
 clear t hn d
 rw[h4] at z
 go_enter Tryz.func181,Tryz.ntmps181
 go_wp2_with (go_at_call 239;refine z.mono ?_;rintro e M ⟨⟨N,rfl,F⟩,hb⟩)
 have HI:=ki F
 clear F z
 obtain ⟨G,H,v⟩:=HI.out
 have O:G=N:=by
  have:=H.symm
  simp at this
  exact this.1
 subst O
 obtain ⟨B,rfl,_,_,hc⟩:=v (fun e=>by rw[e] at h4;simp at h4)
 clear v H HI
 go_loop [6,30] (fun a i=>∃ k:Nat,k≤4∧a=.int .i64 (acc4 l k:Nat)∧i=.int .i64 k) (fun _ i=>4 - (intOf i).toNat)
 case atStart=>exact ⟨0,by omega,rfl,rfl⟩
 case round =>
  obtain ⟨k,A,rfl,rfl⟩:=hrel
  by_cases hlt4:k < 4
  ·have I:=hc k (l.getD k 0) (by simp[List.getD,List.getElem?_eq_getElem (show k < l.length by omega)])
   have J:=q k
   have K:=acc4_lt l q k
   have h:acc4 l k < 16777216:=by
    have:256 ^ k≤256 ^ 3:=Nat.pow_le_pow_right (by omega) (by omega)
    omega
   have o:=or8 (acc4 l k) (l.getD k 0) h J
   have C:=ki (show acc4 l (k+1)=acc4 l k*256+l.getD k 0 from rfl)
   clear hc q K g
   generalize l.getD k 0=x at I J o C
   generalize acc4 l k=a at h o C ⊢
   rw[show ((a*256:Nat):Int)=(a:Int)*256 by omega] at o
   go_wp2
   go_round
   case rel=>exact ⟨k+1,by omega,by rw[C.out];exact congrArg (Value.int .i64) (by omega),by go_num⟩
   case measure=>simp[intOf];omega
  ·obtain rfl:k=4:=by omega
   rw[g]
   have b:=print4_ok (AM.of4 l) M (by omega) (hP.below hb)
   generalize AM.of4 l=n at b E f ⊢
   clear g hc q
   unfold strv at b
   by_cases ht:AM.t4 n=s.data.toList
   ·have D:=ki (f.out.trans (if_pos ht))
    have e:(⟨(AM.t4 n).toArray⟩:ByteArray)=s:=by rw[ht]
    rw[e] at b
    clear ht e
    go_wp2_with (go_at_call 240;refine b.mono ?_;rintro e P ⟨rfl,p⟩)
    go_ret2
    exact ⟨congrArg _ D.out.symm,bt hb p⟩
   ·have D:=ki (f.out.trans (if_neg ht))
    have y:(⟨(AM.t4 n).toArray⟩:ByteArray)≠s:=fun e=>ht (by rw[← e])
    have L:=str_ne y
    clear ht
    generalize (⟨(AM.t4 n).toArray⟩:ByteArray)=tz at b y L
    go_wp2_with (go_at_call 240;refine b.mono ?_;rintro e P ⟨rfl,p⟩)
    go_ret2
    exact ⟨congrArg _ D.out.symm,bt hb p⟩
theorem parse4_no (s:ByteArray) (w:World) (hM:MaxL w) (hE:Errs w) (hP:Pow10 w) (hn:AM.parse4F s.data.toList=none):Calls Tryz.prog 181 #[.string s] w fun e w'=>e=.returned (.tuple #[.int .i64 0,.iface 28 (.int .i64 5)])∧Below w.heap.size w w':=by
 unfold AM.parse4F at hn
 cases hr:AM.read4 s.data.toList with
 | none=>exact parse4_no1 s w hM hE hr
 | some l =>
  rw[hr] at hn
  refine (parse4_some s w hM hE hP l hr).mono fun e w' ⟨he,hb⟩=>⟨?_,hb⟩
  rw[he,if_neg]
  intro e
  simp[e] at hn
theorem parse4_yes (s:ByteArray) (w:World) (hM:MaxL w) (hE:Errs w) (hP:Pow10 w) (n:Nat) (hn:AM.parse4F s.data.toList=some n):Calls Tryz.prog 181 #[.string s] w fun e w'=>e=.returned (.tuple #[.int .i64 (n:Nat),.nilIface])∧Below w.heap.size w w':=by
 unfold AM.parse4F at hn
 cases hr:AM.read4 s.data.toList with
 | none=>rw[hr] at hn;cases hn
 | some l =>
  rw[hr] at hn
  refine (parse4_some s w hM hE hP l hr).mono fun e w' ⟨he,hb⟩=>⟨?_,hb⟩
  by_cases ht:AM.t4 (AM.of4 l)=s.data.toList
  ·simp[ht] at hn
   rw[he,if_pos ht,hn]
  ·simp[ht] at hn
end Ad
namespace Ad
open Go.RowKit Go.Shelf
variable {W:World}
theorem pow_of (h:laidMetH Tryz.prog Rows.runAnswersRow.laid W):Pow10 W:=by
 have a:=h.filter (fun x=>x.1 == (Rows.runAnswersRow.named.getD 6 ""))
 have e:(Rows.runAnswersRow.laid.filter fun x=>x.1 == (Rows.runAnswersRow.named.getD 6 ""))=[((Rows.runAnswersRow.named.getD 6 ""),Lib.tabData .u64 Lib.pow10Tab)]:=by kernel_rfl
 rw[e,MakeChecks.laidMetH_plain _ _ _ (by kernel_rfl)] at a
 exact Lib.tabIs_of_head Tryz.powNamed (by kernel_rfl) Tryz.underlying420 Tryz.underlying368 (by kernel_rfl) (by kernel_rfl) a
def deB:List Int:=[0,1,56,2,57,49,28,3,61,58,42,50,38,29,17,4,62,47,59,36,45,43,51,22,53,39,33,30,24,18,12,5,63,55,48,27,60,41,37,16,46,35,44,21,52,32,23,11,54,26,40,15,34,20,31,10,25,14,19,9,13,8,7,6]
theorem Tryz.gDeB:Tryz.prog.globalNamed (Rows.runAnswersRow.named.getD 8 "") = some 8:=by kernel_rfl
theorem tab_of (h:laidMetH Tryz.prog Rows.runAnswersRow.laid W):Tab4 W:=by
 have a:=h.filter (fun x=>x.1 == (Rows.runAnswersRow.named.getD 8 ""))
 have e:(Rows.runAnswersRow.laid.filter fun x=>x.1 == (Rows.runAnswersRow.named.getD 8 ""))=[((Rows.runAnswersRow.named.getD 8 ""),Lib.tabData .u8 deB)]:=by kernel_rfl
 rw[e,MakeChecks.laidMetH_plain _ _ _ (by kernel_rfl)] at a
 have b:=Lib.tabIs_of_head Tryz.gDeB (by kernel_rfl) Tryz.underlying423 Tryz.underlying5 (by kernel_rfl) (by kernel_rfl) a
 exact Lib.TabIs.cell b Tryz.gDeB 15 (by decide)
theorem star:"*"++"errors.errorString" = "*errors.errorString":=by decide
theorem Tryz.rowErr (u:TypeId) (h:Tryz.prog.typeName? 3 u=some "*errors.errorString"):u=416 :=
 typeName_ptr_named (nm:="errors.errorString") (by rw[star];kernel_rfl) (by kernel_rfl) (by decide) u (by rw[star];exact h)
theorem Tryz.gES:Tryz.prog.globalNamed (Rows.runAnswersRow.named.getD 4 "") = some 4:=by kernel_rfl
theorem sent_ES (h:laidMetH Tryz.prog Rows.runAnswersRow.laid W):∃ t p,W.cell? ⟨4,0,none⟩=some (.iface t p):=by
 have a:=h.filter (fun x=>x.1 == (Rows.runAnswersRow.named.getD 4 ""))
 have e:(Rows.runAnswersRow.laid.filter fun x=>x.1 == (Rows.runAnswersRow.named.getD 4 ""))=[((Rows.runAnswersRow.named.getD 4 ""),.iface "*errors.errorString" (.ptr (.agg [.lit (.string [105,110,118,97,108,105,100,32,115,121,110,116,97,120])])))]:=by kernel_rfl
 rw[e,MakeChecks.laidMetH_plain _ _ _ (by kernel_rfl)] at a
 obtain ⟨f,g,b,-,-,-⟩:=laid_sentinel a Tryz.gES (by kernel_rfl) Tryz.underlying32 Tryz.rowErr Tryz.underlying416 Tryz.underlying418 rfl rfl Tryz.underlying9 (by kernel_rfl) (by kernel_rfl)
 exact ⟨_,_,by have d:=World.var?_cell Tryz.gES b 0;simpa using d⟩
theorem Tryz.gER:Tryz.prog.globalNamed (Rows.runAnswersRow.named.getD 5 "") = some 5:=by kernel_rfl
theorem sent_ER (h:laidMetH Tryz.prog Rows.runAnswersRow.laid W):∃ t p,W.cell? ⟨5,0,none⟩=some (.iface t p):=by
 have a:=h.filter (fun x=>x.1 == (Rows.runAnswersRow.named.getD 5 ""))
 have e:(Rows.runAnswersRow.laid.filter fun x=>x.1 == (Rows.runAnswersRow.named.getD 5 ""))=[((Rows.runAnswersRow.named.getD 5 ""),.iface "*errors.errorString" (.ptr (.agg [.lit (.string [118,97,108,117,101,32,111,117,116,32,111,102,32,114,97,110,103,101])])))]:=by kernel_rfl
 rw[e,MakeChecks.laidMetH_plain _ _ _ (by kernel_rfl)] at a
 obtain ⟨f,g,b,-,-,-⟩:=laid_sentinel a Tryz.gER (by kernel_rfl) Tryz.underlying32 Tryz.rowErr Tryz.underlying416 Tryz.underlying418 rfl rfl Tryz.underlying9 (by kernel_rfl) (by kernel_rfl)
 exact ⟨_,_,by have d:=World.var?_cell Tryz.gER b 0;simpa using d⟩
theorem maxl_of (h:W.ShapedOpen Tryz.prog):MaxL W :=
 cell_of_shapedOpen_int h (g:=1) (t:=3) (zero:=#[.int .i64 0]) (of_decide_eq_true (by kernel_rfl)) (by kernel_rfl) rfl (by kernel_rfl) (by kernel_rfl) Tryz.underlying3
theorem laidA_of (h:laidMetH Tryz.prog Rows.runAnswersRow.laid W) (hs:W.ShapedOpen Tryz.prog):LaidA W :=
 ⟨tab_of h,⟨sent_ES h,sent_ER h⟩,maxl_of hs⟩
end Ad
section
def enm (n:Int):List UInt8 :=
 if n=0 then [79,75] else if n=1 then [69,114,114,82,97,110,103,101] else if n=2 then [69,114,114,83,104,97,112,101] else if n=3 then [69,114,114,70,117,108,108] else if n=4 then [69,114,114,78,111,110,101] else if n=5 then [69,114,114,83,121,110,116,97,120] else if n=6 then [69,114,114,83,117,109] else if n=7 then [69,114,114,68,101,97,100] else if n=8 then [69,114,114,67,108,97,115,104] else if n=9 then [69,114,114,83,116,97,116,101] else [69,114,114,110,111]
theorem enm_len (n:Int):(enm n).length≤9:=by
 unfold enm
 repeat' split
 all_goals decide
def shw (t:List UInt8) (n:Int):List UInt8:=if n=0 then t else enm n
theorem shw_len (t:List UInt8) (n:Int):(shw t n).length≤t.length+9:=by
 unfold shw
 split
 ·omega
 ·have:=enm_len n
  omega
def hx2 (x:Int):List UInt8:=[Ad.AM.hexd (x.toNat / 16),Ad.AM.hexd (x.toNat % 16)]
def hxs (zs:List Int):List UInt8:=zs.flatMap hx2
theorem hxs_len (zs:List Int):(hxs zs).length=2*zs.length:=by
 induction zs with
 | nil=>rfl
 | cons x r ih=>simp only[hxs,List.flatMap_cons,List.length_append,List.length_cons] at ih ⊢;rw[ih];simp[hx2];omega
theorem hxs_snoc (zs:List Int) (x:Int):hxs (zs++[x])=hxs zs++hx2 x:=by simp[hxs]
def pr2 (l:List UInt8) (i:Nat):Option Int:=match Ad.AM.hv (l.getD (2*i) 0),Ad.AM.hv (l.getD (2*i+1) 0) with
 | some x,some y=>some ((x*16+y:Nat):Int)
 | _,_=>none
def rdB (l:List UInt8):Option (List Int):=if l.length % 2=0 then (List.range (l.length / 2)).mapM (pr2 l) else none
def bytesF (w:List UInt8):Option (List Int):=if w=[45] then some [] else rdB w
def numF (w:List UInt8):Option Nat :=
 if 9 < w.length then none else match Lib.atoiAll w with
  | .ok v=>if v < 0∨Lib.decDigits v.toNat≠w then none else some v.toNat
  | _=>none
def justF (k:Nat) (ws:List (List UInt8)):Bool:=ws.length == k && !ws.contains []
def badT:List UInt8:=[98,97,100]
end
end Go.Proofs.YtgcojnlngchllaaGreatDoor
