/- Addresses loaded; one block that has turned. Flows as values, and which may be. Own ints: append; the first of a range. Servers as values: four numbers and two bools; rows of them; the place of the first that is wrong. Rows of servers of the call's own: append, parts of a slice, what is built. A server's score for a flow, as a number. What is asked of package pick, whatever it is made of. Flows and fours looked at, by contracts. Package pick's small ones by contracts: upTo, with, score, takesNew, checkOne, has. -/
import Derived.Maps.AppendAt
import Derived.Test.YtgcojnlngchllaaGreatDoorK06
import Derived.Test.YtgcojnlngchllaaGreatDoorK05
namespace Go.Proofs.YtgcojnlngchllaaGreatDoor
open Go.RowKit
set_option linter.unusedVariables false
set_option maxRecDepth 100000
set_option maxHeartbeats 40000000
section
theorem sixC_at (z:List Int) (j:Nat) (hj:j < 8):(sixC z)[j]? = some (.int .i64 (el z j)):=by
 rcases (by omega:j=0∨j=1∨j=2∨j=3∨j=4∨j=5∨j=6∨j=7) with rfl|rfl|rfl|rfl|rfl|rfl|rfl|rfl <;> rfl
end
section
variable {f:List Int} {B:Nat} {w:World}
def flC (f:List Int):Array Value:=#[.int .i64 (el f 0),.int .i64 (el f 1),.int .i64 (el f 2),.int .i64 (el f 3),.int .i64 (el f 4),.int .i64 (el f 5),.int .i64 (el f 6),.int .i64 (el f 7),.int .i64 (el f 8),.int .i64 (el f 9),.int .i64 (el f 10),.int .i64 (el f 11),.int .i64 (el f 12),.int .i64 (el f 13),.int .i64 (el f 14),.int .i64 (el f 15),.int .i64 (el f 16),.int .i64 (el f 17),.int .i64 (el f 18)]
theorem flC_at (f:List Int) (j:Nat) (hj:j < 19):(flC f)[j]? = some (.int .i64 (el f j)):=by
 rcases (by omega:j=0∨j=1∨j=2∨j=3∨j=4∨j=5∨j=6∨j=7∨j=8∨j=9∨j=10∨j=11∨j=12∨j=13∨j=14∨j=15∨j=16∨j=17∨j=18) with rfl|rfl|rfl|rfl|rfl|rfl|rfl|rfl|rfl|rfl|rfl|rfl|rfl|rfl|rfl|rfl|rfl|rfl|rfl <;> rfl
def cli (f:List Int):List Int:=[el f 1,el f 2,el f 3,el f 4,el f 5,el f 6,el f 7,el f 8]
def dst (f:List Int):List Int:=[el f 10,el f 11,el f 12,el f 13,el f 14,el f 15,el f 16,el f 17]
theorem cli_el (f:List Int) (j:Nat) (hj:j < 8):el (cli f) j=el f (1+j):=by
 rcases (by omega:j=0∨j=1∨j=2∨j=3∨j=4∨j=5∨j=6∨j=7) with rfl|rfl|rfl|rfl|rfl|rfl|rfl|rfl <;> rfl
theorem dst_el (f:List Int) (j:Nat) (hj:j < 8):el (dst f) j=el f (10+j):=by
 rcases (by omega:j=0∨j=1∨j=2∨j=3∨j=4∨j=5∨j=6∨j=7) with rfl|rfl|rfl|rfl|rfl|rfl|rfl|rfl <;> rfl
def FlIn (B:Nat) (f:List Int) (w:World):Prop:=w.heap[B]? = some (.cells (flC f) 89 (0,0))
theorem FlIn.lt {b:List Int} (p:FlIn B b w):B < w.heap.size:=(Array.getElem?_eq_some_iff.1 p).1
theorem FlIn.kept {b:List Int} {w':World} (p:FlIn B b w) (hb:Below w.heap.size w w'):FlIn B b w':=(hb.block B p.lt).trans p
theorem fl_new (f:List Int) (w:World):FlIn w.heap.size f (w.alloc (.cells (flC f) 89)):=heap_alloc_new w _
theorem FlIn.cell (p:FlIn B f w) (j:Nat) (hj:j < 19):w.cell? ⟨B,j,none⟩=some (.int .i64 (el f j)):=(cell_of_row w B j _ _ _ p).trans (flC_at f j hj)
theorem FlIn.cli (p:FlIn B f w):w.rangeAt B 1 (sixC (cli f)).toList:=by
 intro j v hv
 have a:j < 8:=(List.getElem?_eq_some_iff.1 hv).1
 rw[p.cell (1+j) (by omega),← cli_el f j a,← sixC_at _ j a]
 simpa using hv
theorem FlIn.dst (p:FlIn B f w):w.rangeAt B 10 (sixC (dst f)).toList:=by
 intro j v hv
 have a:j < 8:=(List.getElem?_eq_some_iff.1 hv).1
 rw[p.cell (10+j) (by omega),← dst_el f j a,← sixC_at _ j a]
 simpa using hv
theorem FlIn.hc (p:FlIn B f w):(hload (.pointer (some ⟨B,1,none⟩))).run Tryz.prog w=.ok (.agg (sixC (Go.Proofs.YtgcojnlngchllaaGreatDoor.cli f))) w:=run_loadAt_mid w B 1 23 _ _ p.cli Tryz.underlying23 rfl (by kernel_rfl)
theorem FlIn.hd (p:FlIn B f w):(hload (.pointer (some ⟨B,10,none⟩))).run Tryz.prog w=.ok (.agg (sixC (Go.Proofs.YtgcojnlngchllaaGreatDoor.dst f))) w:=run_loadAt_mid w B 10 23 _ _ p.dst Tryz.underlying23 rfl (by kernel_rfl)
def fload (x:Value):Sem Value:=Instr.loadAt 89 x
theorem fload_shut (x:Value):Instr.loadAt 89 x=fload x:=rfl
theorem FlIn.fl (p:FlIn B f w):(fload (.pointer (some ⟨B,0,none⟩))).run Tryz.prog w=.ok (.agg (flC f)) w :=
 run_loadAt_mid w B 0 89 (flC f).toList _ (fun j v hv=>by rw[Nat.zero_add,cell_of_row w B j _ _ _ p];simpa using hv) Tryz.underlying89 rfl (by kernel_rfl)
def wd (n:Int):Bool:=decide (0≤n) && decide (n≤65535)
def fr (n:Int):Bool:=decide (0≤n) && decide (n≤4294967295)
theorem wd_iff (n:Int):wd n=true↔Word n:=by unfold wd Word;rw[Bool.and_eq_true,decide_eq_true_eq,decide_eq_true_eq]
def s6 (z:List Int):Bool:=wd (el z 0) && wd (el z 1) && wd (el z 2) && wd (el z 3) && wd (el z 4) && wd (el z 5) && wd (el z 6) && wd (el z 7)
theorem s6_iff (z:List Int):s6 z=true↔Ok6 z:=by
 unfold s6 Ok6
 simp only[Bool.and_eq_true,wd_iff]
 refine ⟨fun ⟨⟨⟨⟨⟨⟨⟨h0,h1⟩,h2⟩,h3⟩,h4⟩,h5⟩,h6⟩,h7⟩ j hj=>?_,fun h=>⟨⟨⟨⟨⟨⟨⟨h 0 (by omega),h 1 (by omega)⟩,h 2 (by omega)⟩,h 3 (by omega)⟩,h 4 (by omega)⟩,h 5 (by omega)⟩,h 6 (by omega)⟩,h 7 (by omega)⟩⟩
 rcases (by omega:j=0∨j=1∨j=2∨j=3∨j=4∨j=5∨j=6∨j=7) with rfl|rfl|rfl|rfl|rfl|rfl|rfl|rfl <;> assumption
def fe (b:Bool):Int:=if b=true then 0 else 1
def okf (f:List Int):Bool:=((el f 0 == 6) || (el f 0 == 17)) && s6 (cli f) && s6 (dst f) && wd (el f 9) && wd (el f 18)
end
section
theorem find_none {f:Nat→Bool} {n:Nat} (h:∀ j,j < n→f j=false):(List.range n).find? f=none:=by
 rw[List.find?_eq_none]
 intro x a
 rw[h x (List.mem_range.1 a)]
 decide
theorem find_some {f:Nat→Bool} {n i:Nat} (hi:i < n) (h3:f i=true) (h:∀ j,j < i→f j=false):(List.range n).find? f=some i:=by
 rw[List.find?_range_eq_some]
 exact ⟨h3,List.mem_range.2 hi,fun j hj=>by rw[h j hj];rfl⟩
theorem Tryz.infoInt:(Tryz.prog.info? 3).map (fun i=>(i.zero,i.size,i.bytes))=some (some (.int .i64 0),1,8):=by kernel_rfl
end
section
variable {b:List Int} {B g:Nat} {w:World}
def bkC (b:List Int):Array Value:=#[.int .i64 (el b 0),.int .i64 (el b 1),.int .i64 (el b 2),.int .i64 (el b 3),.bool (el b 4 == 1),.bool (el b 5 == 1)]
theorem bkC_int (b:List Int) (j:Nat) (hj:j < 4):(bkC b)[j]? = some (.int .i64 (el b j)):=by
 rcases (by omega:j=0∨j=1∨j=2∨j=3) with rfl|rfl|rfl|rfl <;> rfl
theorem bkC_up (b:List Int):(bkC b)[4]? = some (.bool (el b 4 == 1)):=rfl
theorem bkC_dr (b:List Int):(bkC b)[5]? = some (.bool (el b 5 == 1)):=rfl
def Bks (a:Option Addr) (bs:List (List Int)) (w:World):Prop:=0 < bs.length→∃ g off,a=some ⟨g,off,none⟩∧g < w.heap.size∧∀ k,k < bs.length→w.rangeAt g (off+k*6) (bkC (bs.getD k [])).toList
theorem Bks.below {a:Option Addr} {bs:List (List Int)} {w':World} (h:Bks a bs w) (hb:Below w.heap.size w w'):Bks a bs w':=by
 intro hp
 obtain ⟨g,b,e,d,f⟩:=h hp
 refine ⟨g,b,e,Nat.lt_of_lt_of_le d hb.size,fun k hk j u hu=>?_⟩
 rw[hb.cell (p:=⟨g,b+k*6+j,none⟩) d]
 exact f k hk j u hu
theorem rng_int {o:Nat} (h:w.rangeAt g o (bkC b).toList) (j:Nat) (hj:j < 4):w.cell? ⟨g,o+j,none⟩=some (.int .i64 (el b j)):=h j _ (by have:=bkC_int b j hj;simpa using this)
theorem rng_id {o:Nat} (h:w.rangeAt g o (bkC b).toList):w.cell? ⟨g,o,none⟩=some (.int .i64 (el b 0)):=rng_int h 0 (by omega)
theorem rng_up {o:Nat} (h:w.rangeAt g o (bkC b).toList):w.cell? ⟨g,o+4,none⟩=some (.bool (el b 4 == 1)):=h 4 _ (by have:=bkC_up b;simpa using this)
theorem rng_dr {o:Nat} (h:w.rangeAt g o (bkC b).toList):w.cell? ⟨g,o+5,none⟩=some (.bool (el b 5 == 1)):=h 5 _ (by have:=bkC_dr b;simpa using this)
def kload (x:Value):Sem Value:=Instr.loadAt 77 x
theorem kload_shut (x:Value):Instr.loadAt 77 x=kload x:=rfl
theorem rng_kl {o:Nat} (h:w.rangeAt g o (bkC b).toList):(kload (.pointer (some ⟨g,o,none⟩))).run Tryz.prog w=.ok (.agg (bkC b)) w:=run_loadAt_mid w g o 77 _ _ h Tryz.underlying77 rfl (by kernel_rfl)
def BkIn (B:Nat) (b:List Int) (w:World):Prop:=w.heap[B]? = some (.cells (bkC b) 77 (0,0))
theorem BkIn.lt (p:BkIn B b w):B < w.heap.size:=(Array.getElem?_eq_some_iff.1 p).1
theorem BkIn.kept {w':World} (p:BkIn B b w) (hb:Below w.heap.size w w'):BkIn B b w':=(hb.block B p.lt).trans p
def zero4b:Array Value:=#[.int .i64 0,.int .i64 0,.int .i64 0,.int .i64 0,.bool false,.bool false]
theorem bk_zero (w:World):BkIn w.heap.size [] (w.alloc (.cells zero4b 77)):=heap_alloc_new w _
theorem bk_new (b:List Int) (w:World):BkIn w.heap.size b (w.alloc (.cells (bkC b) 77)):=heap_alloc_new w _
theorem BkIn.rng (p:BkIn B b w):w.rangeAt B 0 (bkC b).toList:=fun j v hv=>by rw[Nat.zero_add,cell_of_row w B j _ _ _ p];simpa using hv
theorem BkIn.kl (p:BkIn B b w):(kload (.pointer (some ⟨B,0,none⟩))).run Tryz.prog w=.ok (.agg (bkC b)) w:=rng_kl p.rng
theorem BkIn.stored {b0:List Int} (p:BkIn B b0 w) (b:List Int):BkIn B b (w.setRow B (bkC b)):=setRow_heap w B _ _ _ (0,0) p
theorem at_storek {ops:Array Oper} {rest:List Oper} {o:Oper} {f:Act} {Q:Exit→Act→World→Prop} (hgd:o.guard=none) (x y:Operand) (ho:o.op=.store 77 x y)
  {B:Nat} {b0:List Int} (hx:f.eval x=.pointer (some ⟨B,0,none⟩)) (p:BkIn B b0 w) (b:List Int) (hy:f.eval y=.agg (bkC b))
  (hK:∀ w',BkIn B b w'→Only B w w'→wpList Tryz.prog ops Q rest (f.put o.dst undef) w'):wpList Tryz.prog ops Q (o::rest) f w :=
 wpList_store_row hgd 77 x y ho B _ hx hy 77 _ p (by kernel_rfl) rfl (by unfold bkC;simp[Value.oneCell']) (hK _ (p.stored b) (only_setRow _ _ _))
theorem results_bk {fn:Func} {p u:Tmp} (h:fn.results=#[.cell p 77,.tmp u]) (tmps:Array Value) (w:World) (B:Nat) (b:List Int)
  (ht:tmps.getD p undef=.pointer (some ⟨B,0,none⟩)) (hg:BkIn B b w) :
  (results fn tmps).run Tryz.prog w=.ok (.tuple #[.agg (bkC b),tmps.getD u undef]) w:=by
 rw[results_cell_tmp h,ht]
 have hl:=run_loadVar_row (P:=Tryz.prog) w B 77 77 _ (0,0) _ hg Tryz.underlying77 rfl (by kernel_rfl)
 simp[asAddr,hl]
def okb (b:List Int):Bool:=wd (el b 0) && wd (el b 2) && fr (el b 1) && (decide (0≤el b 3) && decide (el b 3≤10))
def sid (bs:List (List Int)) (i:Nat):Bool:=(List.range i).any fun k=>el (bs.getD k []) 0 == el (bs.getD i []) 0
def flt (bs:List (List Int)) (i:Nat):Int:=if okb (bs.getD i [])=true then (if sid bs i=true then 8 else 0) else 1
def bfo (o:Option Nat) (bs:List (List Int)):Int×Int:=match o with|some i=>((i:Int),flt bs i)|none=>(0,0)
def bf (bs:List (List Int)):Int×Int:=if 8 < bs.length then (0,3) else bfo ((List.range bs.length).find? fun i=>flt bs i != 0) bs
theorem bf_some {bs:List (List Int)} {i:Nat} (hl:¬ 8 < bs.length) (hi:i < bs.length) (h1:(flt bs i != 0)=true) (h:∀ j,j < i→(flt bs j != 0)=false):bf bs=((i:Int),flt bs i):=by
 unfold bf
 rw[if_neg hl,find_some hi h1 h]
 rfl
theorem bf_none {bs:List (List Int)} (hl:¬ 8 < bs.length) (h:∀ j,j < bs.length→(flt bs j != 0)=false):bf bs=(0,0):=by
 unfold bf
 rw[if_neg hl,find_none h]
 rfl
theorem bf_ok {bs:List (List Int)} (h:(bf bs).2=0):bs.length≤8∧∀ i,i < bs.length→okb (bs.getD i [])=true∧sid bs i=false:=by
 unfold bf at h
 split at h
 ·cases h
 ·rename_i hl
  refine ⟨by omega,fun i hi=>?_⟩
  cases ho:(List.range bs.length).find? fun i=>flt bs i != 0 with
  | some j =>
   rw[ho] at h
   have b:=List.find?_some ho
   have a:flt bs j=0:=h
   simp[a] at b
  | none =>
   rw[List.find?_eq_none] at ho
   have b:=ho i (List.mem_range.2 hi)
   have a:flt bs i=0:=by simpa using b
   unfold flt at a
   cases hk:okb (bs.getD i [])
   ·rw[hk] at a;simp at a
   ·rw[hk] at a
    cases hs:sid bs i
    ·exact ⟨rfl,rfl⟩
    ·rw[hs] at a;simp at a
end
section
variable {v:Value} {w:World}
theorem owns_same {w':World} {base:Nat} {e:TypeId} {size:Nat} {n:Nat} {xs:List Value} (h:w.ownsRow base e size v n xs) (hb:∀ g,v.ownBlock=some g→w'.heap[g]? = w.heap[g]?):w'.ownsRow base e size v n xs:=by
 refine ⟨h.1,?_⟩
 rcases h.2 with h2|⟨g,cap,cur,rfl,hb',hg,rest⟩
 ·exact .inl h2
 ·exact .inr ⟨g,cap,cur,rfl,hb',(hb g rfl).trans hg,rest⟩
theorem owns_lt {base:Nat} {e:TypeId} {size:Nat} {n:Nat} {xs:List Value} (h:w.ownsRow base e size v n xs) (g:Nat) (hg:v.ownBlock=some g):g < w.heap.size∧base≤g:=by
 rcases h.2 with ⟨rfl,_⟩|⟨g',cap,cur,rfl,hb',hgc,_⟩
 ·simp[Value.ownBlock] at hg
 ·have:g'=g:=by simpa [Value.ownBlock] using hg
  subst this
  exact ⟨(Array.getElem?_eq_some_iff.1 hgc).1,hb'⟩
def kvs (bs:List (List Int)):List Value:=bs.flatMap fun b=>(bkC b).toList
def OwK (base:Nat) (w:World) (v:Value) (bs:List (List Int)):Prop:=w.ownsRow base 77 6 v bs.length (kvs bs)
theorem OwK.nil (base:Nat) (w:World):OwK base w (.slice none 0 0) []:=World.ownsRow_nil _ _ _ _
theorem kvs_len (bs:List (List Int)):(kvs bs).length=bs.length*6:=by
 induction bs with
 | nil=>rfl
 | cons z r ih=>unfold kvs at ih ⊢;rw[List.flatMap_cons,List.length_append,ih,List.length_cons,show (bkC z).toList.length=6 from rfl];omega
theorem kvs_app (a b:List (List Int)):kvs (a++b)=kvs a++kvs b:=List.flatMap_append
theorem kvs_at (bs:List (List Int)) (k j:Nat) (h:k < bs.length) (hj:j < 6):(kvs bs)[k*6+j]? = (bkC (bs.getD k [])).toList[j]?:=by
 induction bs generalizing k with
 | nil=>exact absurd h (by simp)
 | cons z r ih =>
  unfold kvs at ih ⊢
  rw[List.flatMap_cons]
  have hl:(bkC z).toList.length=6:=rfl
  cases k with
  | zero =>
   rw[List.getElem?_append_left (by omega),Nat.zero_mul,Nat.zero_add]
   rfl
  | succ k =>
   rw[List.getElem?_append_right (by omega),hl,show (k+1)*6+j - 6=k*6+j by omega,ih k (by simpa using h)]
   rfl
theorem OwK.bks {base:Nat} {bs:List (List Int)} (h:OwK base w v bs):∃ a cap,v=.slice a bs.length cap∧bs.length≤cap∧Bks a bs w:=by
 have b:w.ownsRow base 77 6 v bs.length (kvs bs):=h
 rcases h.2 with ⟨rfl,hn⟩|⟨g,cap,cur,rfl,_,hg,hnc,_⟩
 ·exact ⟨none,0,by rw[hn],by omega,fun hp=>by omega⟩
 ·refine ⟨_,cap,rfl,hnc,fun _=>⟨g,0,rfl,(Array.getElem?_eq_some_iff.1 hg).1,fun k hk j v hv=>?_⟩⟩
  have d:j < 6:=(List.getElem?_eq_some_iff.1 hv).1
  rw[Nat.zero_add,World.ownsRow.cellAt b (k*6+j) (by omega),kvs_at bs k j hk d]
  exact hv
theorem Tryz.infoBack:(Tryz.prog.info? 77).map (fun i=>(i.zero,i.size,i.bytes))=some (some (.agg zero4b),6,40):=by kernel_rfl
theorem ap_K {ops:Array Oper} {rest:List Oper} {o:Oper} {a:Act} {Q:Exit→Act→World→Prop} (hgd:o.guard=none) (s x:Operand)
  (ho:o.op=.call { callee:=.builtin .append,args:=#[s,x],argTypes:=#[24,24] })
  (base:Nat) (v:Value) (l:List (List Int)) (hs:a.eval s=v) (hown:OwK base w v l) (g off m c:Nat) (l2:List (List Int)) (hx:a.eval x=.slice (some ⟨g,off,none⟩) m c) (hl:l2.length=m)
  (hc:∀ j,j < m→w.rangeAt g (off+j*6) (bkC (l2.getD j [])).toList) (hlen:l.length+m≤1000000) (hbase:base≤w.heap.size)
  (h:∀ v' w',OwK base w' v' (l++l2)→w.grownBy w' v.ownBlock→wpList Tryz.prog ops Q rest (a.put o.dst v') w'):wpList Tryz.prog ops Q (o::rest) a w:=by
 obtain ⟨n,p,f,i,k⟩:=info_parts Tryz.infoBack
 have e:w.ownsRow base 77 6 v l.length (kvs l):=hown
 refine wpList_append_own_at _ hgd s x 24 ho base 77 n _ 6 40 Tryz.underlying24 p f i k rfl (by decide) v l.length (kvs l) hs e ⟨g,off,none⟩ m c (kvs l2) hx (by rw[kvs_len,hl]) ?_ ?_ (by unfold maxLen;omega) (by omega) hbase ?_
 ·intro j u b
  have t:j < l2.length*6:=by have:=(List.getElem?_eq_some_iff.1 b).1;rwa [kvs_len] at this
  have h8:=kvs_at l2 (j / 6) (j % 6) (by omega) (by omega)
  rw[show j / 6*6+j % 6=j by omega,b] at h8
  have q:=hc (j / 6) (by omega) (j % 6) u h8.symm
  rw[add_pl,show off+j=off+j / 6*6+j % 6 by omega]
  exact q
 ·intro u b
  unfold kvs at b
  obtain ⟨z,_,d⟩:=List.mem_flatMap.1 b
  unfold bkC at d
  simp at d
  rcases d with rfl|rfl|rfl|rfl|rfl|rfl <;> rfl
 ·intro v' w' r d _ y
  refine h v' w' ?_ d
  unfold OwK
  rw[kvs_app,List.length_append,hl]
  exact r
def fbl (ps:Array (Nat×Value)):Sem Value:=Instr.build 89 ps
theorem fbl_shut (ps:Array (Nat×Value)):Instr.build 89 ps=fbl ps:=rfl
end
section
variable {id:Int} {f:List Int}
def sok (seed:Int) (f:List Int) (id:Int):Bool:=decide (0≤seed) && decide (seed≤2147483647) && wd id && okf f
theorem sok_iff {seed:Int}:sok seed f id=true↔0≤seed∧seed≤2147483647∧wd id=true∧okf f=true:=by
 unfold sok
 rw[Bool.and_eq_true,Bool.and_eq_true,Bool.and_eq_true,decide_eq_true_eq,decide_eq_true_eq]
 constructor
 ·rintro ⟨⟨⟨a,b⟩,c⟩,d⟩;exact ⟨a,b,c,d⟩
 ·rintro ⟨a,b,c,d⟩;exact ⟨⟨⟨a,b⟩,c⟩,d⟩
def nl (f:List Int) (n:Nat):List Int:=(List.range n).map (el f)
def nums (f:List Int) (id:Int):List Int:=nl f 19++[id]
theorem nl_len (f:List Int) (n:Nat):(nl f n).length=n:=by unfold nl;simp
theorem nums_len (f:List Int) (id:Int):(nums f id).length=20:=by unfold nums;rw[List.length_append,nl_len];rfl
theorem okf_el (h:okf f=true) (j:Nat) (hj:j < 19):0≤el f j∧el f j≤65535:=by
 unfold okf at h
 simp only[Bool.and_eq_true,Bool.or_eq_true,beq_iff_eq] at h
 obtain ⟨⟨⟨⟨k,d⟩,g⟩,i⟩,h4⟩:=h
 rw[wd_iff] at i h4
 rw[s6_iff] at d g
 rcases (by omega:j=0∨(1≤j∧j < 9)∨j=9∨(10≤j∧j < 18)∨j=18) with rfl|⟨a,b⟩|rfl|⟨a,b⟩|rfl
 ·rcases k with e|e <;> rw[e] <;> omega
 ·have:=d (j - 1) (by omega)
  rw[cli_el f _ (by omega),show 1+(j - 1)=j by omega] at this
  exact this
 ·exact i
 ·have:=g (j - 10) (by omega)
  rw[dst_el f _ (by omega),show 10+(j - 10)=j by omega] at this
  exact this
 ·exact h4
theorem nums_in {seed:Int} (h:sok seed f id=true):∀ x ∈ nums f id,0≤x∧x≤65535:=by
 obtain ⟨-,-,a,h4⟩:=sok_iff.1 h
 intro x hx
 unfold nums at hx
 rcases List.mem_append.1 hx with hx|hx
 ·unfold nl at hx
  obtain ⟨j,b,rfl⟩:=List.mem_map.1 hx
  exact okf_el h4 j (List.mem_range.1 b)
 ·rw[List.mem_singleton] at hx
  subst hx
  exact (wd_iff _).1 a
def mx (x n:Int):Int:=(x*69069+n+1).tmod 2147483648
theorem mx_in {x n:Int} (h1:0≤x) (h2:0≤n):0≤mx x n∧mx x n < 2147483648:=by
 unfold mx
 have h:0≤x*69069+n+1:=by omega
 rw[Int.tmod_eq_emod_of_nonneg h]
 omega
def mxs (seed:Int) (l:List Int):Int:=l.foldl mx seed
theorem mxs_snoc (seed:Int) (l:List Int) (n:Int):mxs seed (l++[n])=mx (mxs seed l) n:=by unfold mxs;rw[List.foldl_append];rfl
theorem mxs_in {seed:Int} (h0:0≤seed∧seed < 2147483648):∀ l:List Int,(∀ x ∈ l,0≤x)→0≤mxs seed l∧mxs seed l < 2147483648:=by
 intro l
 unfold mxs
 induction l generalizing seed with
 | nil=>intro _;exact h0
 | cons a r ih =>
  intro h
  rw[List.foldl_cons]
  exact ih (mx_in h0.1 (h a (List.mem_cons_self ..))) (fun x hx=>h x (List.mem_cons_of_mem _ hx))
def sc (seed:Int) (f:List Int) (id:Int):Int:=(mxs seed (nums f id)).tdiv 256
theorem sc_in {seed:Int} (h:sok seed f id=true):0≤sc seed f id∧sc seed f id < 8388608:=by
 obtain ⟨a,b,-,-⟩:=sok_iff.1 h
 have:=mxs_in (seed:=seed) ⟨a,by omega⟩ (nums f id) (fun x hx=>(nums_in h x hx).1)
 unfold sc
 rw[Int.tdiv_eq_ediv_of_nonneg this.1]
 omega
def sv (seed:Int) (f:List Int) (id:Int):Int:=if sok seed f id=true then sc seed f id else 0
theorem sv_in (seed:Int) (f:List Int) (id:Int):0≤sv seed f id∧sv seed f id < 8388608:=by
 unfold sv
 split
 ·rename_i h;exact sc_in h
 ·omega
def cand (b:List Int):Bool:=(el b 4 == 1) && !(el b 5 == 1) && !(el b 3 == 0)
def pv (seed:Int) (f:List Int) (b:List Int):Int:=sv seed f (el b 0)*el b 3
def btr (bs:List (List Int)) (o:Option Nat) (m n:Int) (k:Nat):Bool:=match o with|none=>true|some i=>decide (m < n) || ((n == m) && decide (el (bs.getD k []) 0 < el (bs.getD i []) 0))
def pst (seed:Int) (f:List Int) (bs:List (List Int)):Nat→Option Nat×Int
 | 0=>(none,0)
 | k+1=>if cand (bs.getD k [])=true then (if btr bs (pst seed f bs k).1 (pst seed f bs k).2 (pv seed f (bs.getD k [])) k=true then (some k,pv seed f (bs.getD k [])) else pst seed f bs k) else pst seed f bs k
theorem pst_lt (seed:Int) (f:List Int) (bs:List (List Int)):∀ k i,(pst seed f bs k).1=some i→i < k
 | 0,i,h=>by cases h
 | k+1,i,h=>by
  simp only[pst] at h
  split at h
  ·split at h
   ·injection h with h;omega
   ·have:=pst_lt seed f bs k i h;omega
  ·have:=pst_lt seed f bs k i h;omega
def pkr (o:Option Nat) (bs:List (List Int)):List Int×Int:=match o with|none=>([],4)|some i=>(bs.getD i [],0)
def pko (seed:Int) (f:List Int) (bs:List (List Int)):List Int×Int:=if (bf bs).2=0 then (if sok seed f 0=true then pkr (pst seed f bs bs.length).1 bs else ([],1)) else ([],(bf bs).2)
end
section
def JKc:Prop:=∀ (a:Option Addr) (cap:Nat) (bs:List (List Int)) (w:World),Bks a bs w→bs.length≤maxLen→bs.length≤cap →
 Calls Tryz.prog 74 #[.slice a bs.length cap] w fun e w'=>e=.returned (.tuple #[.int .i64 (bf bs).1,ev (bf bs).2])∧Below w.heap.size w w'
def JKs:Prop:=∀ (seed:Int) (f:List Int) (id:Int) (w:World),
 Calls Tryz.prog 194 #[.int .i64 seed,.agg (flC f),.int .i64 id] w fun e w'=>e=.returned (.tuple #[.int .i64 (sv seed f id),ev (fe (sok seed f id))])∧Below w.heap.size w w'
def JKp:Prop:=∀ (seed:Int) (f:List Int) (a:Option Addr) (cap:Nat) (bs:List (List Int)) (w:World),Bks a bs w→bs.length≤maxLen→bs.length≤cap →
 Calls Tryz.prog 141 #[.int .i64 seed,.agg (flC f),.slice a bs.length cap] w fun e w'=>e=.returned (.tuple #[.agg (bkC (pko seed f bs).1),ev (pko seed f bs).2])∧Below w.heap.size w w'
end
section
theorem pcheck_ok (z:List Int) (W:World) (hz:Ok6 z):Calls Tryz.prog 70 #[.agg (sixC z)] W fun e w'=>e=.returned .nilIface∧Below W.heap.size W w' :=
 (check_ok z W hz).mono fun e w' ⟨h1,h2⟩=>⟨h1,by rw[h2];exact al_below _ _⟩
theorem pcheck_bad (z:List Int) (W:World) (hz:¬ Ok6 z):Calls Tryz.prog 70 #[.agg (sixC z)] W fun e w'=>e=.returned (.iface 28 (.int .i64 1))∧Below W.heap.size W w' :=
 (check_bad z W hz).mono fun e w' ⟨h1,h2⟩=>⟨h1,by rw[h2];exact al_below _ _⟩
def um (m x:Int):Bool:=decide (0≤x) && decide (x≤m)
theorem um_iff (m x:Int):um m x=true↔0≤x∧x≤m:=by unfold um;rw[Bool.and_eq_true,decide_eq_true_eq,decide_eq_true_eq]
def bups (m:Int) (l:List Int):Bool:=l.all (um m)
theorem bups_iff (m:Int) (l:List Int):bups m l=true↔∀ i,i < l.length→um m (l.getD i 0)=true:=by
 unfold bups
 rw[List.all_eq_true]
 constructor
 ·intro h i a
  exact h _ (by simp[List.getD_eq_getElem?_getD,a])
 ·intro h x b
  obtain ⟨i,a,rfl⟩:=List.mem_iff_getElem.1 b
  have:=h i a
  simpa [List.getD_eq_getElem?_getD,a] using this
theorem bupto_any (m:Int) (B n:Nat) (l:List Int) (w:World) (hn:l.length=n) (hm:n≤1000) (hc:Ints B l w) :
  Calls Tryz.prog 153 #[.int .i64 m,.slice (some ⟨B,0,none⟩) n n] w fun e w'=>e=.returned (.bool (bups m l))∧w'=w:=by
 have a:=ki (bups_iff m l)
 have o:=ki hc
 have d:=ki hn
 clear hc
 generalize bups m l=u at a ⊢
 go_enter Tryz.func153,Tryz.ntmps153
 go_wp2
 go_loop [9] (fun t=>∃ k:Nat,k≤n∧Hid (∀ i,i < k→um m (l.getD i 0)=true)∧t=.int .i64 k) (fun t=>n - (intOf t).toNat)
 case atStart=>exact ⟨0,by omega,fun i hi=>absurd hi (by omega),rfl⟩
 case round =>
  obtain ⟨k,p,HI,rfl⟩:=hrel
  by_cases hlt:k < n
  ·have g:=o.o.cell k (by omega)
   generalize hzk:l.getD k 0=z at g
   have f:=ki hzk
   clear hzk hn
   by_cases hz0:z < 0
   ·go_wp2
    go_ret
    exact ⟨congrArg (fun b=>Ending.returned (.bool b)) (Eq.symm (Bool.eq_false_iff.2 fun h=>by have:=(um_iff _ _).1 (a.o.1 h k (by rw[d.o];exact hlt));rw[f.o] at this;omega)),rfl⟩
   ·by_cases hz1:m < z
    ·go_wp2
     go_ret
     exact ⟨congrArg (fun b=>Ending.returned (.bool b)) (Eq.symm (Bool.eq_false_iff.2 fun h=>by have:=(um_iff _ _).1 (a.o.1 h k (by rw[d.o];exact hlt));rw[f.o] at this;omega)),rfl⟩
    ·go_wp2
     go_round
     case rel=>exact ⟨k+1,by omega,fun i hi=>if h:i=k then by subst h;rw[f.o];exact (um_iff _ _).2 ⟨by omega,by omega⟩ else HI.o i (by omega),by go_num⟩
     case measure=>simp[intOf];omega
  ·go_wp2
   go_ret
   obtain rfl:k=n:=by omega
   exact ⟨congrArg (fun b=>Ending.returned (.bool b)) (Eq.symm (a.o.2 fun i hi=>HI.o i (by rw[← d.o];exact hi))),rfl⟩
theorem uptoWW (x y:Int) (W:World):Calls Tryz.prog 153 #[.int .i64 65535,.slice (some ⟨W.heap.size,0,none⟩) 2 2] (W.alloc (.cells #[.int .i64 x,.int .i64 y] 3)) fun e w'=>e=.returned (.bool (wd x && wd y))∧Below W.heap.size W w' :=
 (bupto_any 65535 W.heap.size 2 [x,y] _ rfl (by omega) (ints_new W [x,y])).mono fun e w' ⟨h1,h2⟩=>⟨h1.trans (by rw[show bups 65535 [x,y]=(wd x && wd y) by unfold bups um wd;simp]),by rw[h2];exact al_below _ _⟩
theorem pck (z:List Int) (W:World):Calls Tryz.prog 70 #[.agg (sixC z)] W fun e w'=>e=.returned (ev (fe (s6 z)))∧Below W.heap.size W w':=by
 cases h:s6 z
 ·exact pcheck_bad z W (fun h'=>by rw[(s6_iff z).2 h'] at h;cases h)
 ·exact pcheck_ok z W ((s6_iff z).1 h)
theorem bc4_any (a:Int) (w:World):Calls Tryz.prog 73 #[.int .i64 a] w fun e w'=>e=.returned (ev (fe (fr a)))∧w'=w:=by
 unfold fr
 by_cases h0:a < 0
 ·have hd:decide (0≤a)=false:=decide_eq_false (by omega)
  rw[hd]
  go_enter Tryz.func73,Tryz.ntmps73
  go_wp2
  go_ret
  exact ⟨rfl,rfl⟩
 ·have hd:decide (0≤a)=true:=decide_eq_true (by omega)
  rw[hd]
  by_cases h1:4294967295 < a
  ·have b:decide (a≤4294967295)=false:=decide_eq_false (by omega)
   rw[b]
   go_enter Tryz.func73,Tryz.ntmps73
   go_wp2
   go_ret
   exact ⟨rfl,rfl⟩
  ·have b:decide (a≤4294967295)=true:=decide_eq_true (by omega)
   rw[b]
   go_enter Tryz.func73,Tryz.ntmps73
   go_wp2
   go_ret
   exact ⟨rfl,rfl⟩
attribute [local go_sem ↓] hload_shut
theorem bcheck (f:List Int) (w:World):Calls Tryz.prog 199 #[.agg (flC f)] w fun e w'=>e=.returned (ev (fe (okf f)))∧Below w.heap.size w w':=by
 have a:=ki (al_below w (.cells (flC f) 89))
 have d:=ki (fl_new f w)
 have q:=ki (fun W=>uptoWW (el f 9) (el f 18) W)
 have i:=ki (fun W=>pck (cli f) W)
 have l:=ki (fun W=>pck (dst f) W)
 have g:=ki (show okf f=(((el f 0 == 6) || (el f 0 == 17)) && s6 (cli f) && s6 (dst f) && (wd (el f 9) && wd (el f 18))) by unfold okf;rw[Bool.and_assoc (_ && _)])
 generalize okf f=ok at g ⊢
 generalize (wd (el f 9) && wd (el f 18))=pp at q g
 generalize s6 (cli f)=sc at i g
 generalize s6 (dst f)=sd at l g
 obtain ⟨k,hk⟩:∃ x,el f 0=x:=⟨_,rfl⟩
 rw[hk] at g
 have n:=ki hk
 clear hk
 go_enter Tryz.func199,Tryz.ntmps199
 go_upto_region 1 with fail
 generalize w.alloc _=W at a d ⊢
 have c0:=d.o.cell 0 (by omega)
 have A:=d.o.hc
 rw[n.o] at c0
 clear n
 by_cases kk:k=6∨k=17
 ·have o:((k == 6) || (k == 17))=true:=by simpa using kk
  rw[o] at g
  clear o
  rcases kk with rfl|rfl
  all_goals
   cases sc
   ·rw[show ev (fe false)=err 1 from rfl] at i
    unfold err at i
    go_wp2_with (go_at_call 70;(with_reducible refine (i.o _).mono ?_);rintro e r ⟨rfl,b⟩;replace a:=ki (bt a.o b);clear b)
    go_ret
    exact ⟨by rw[g.o];rfl,a.o⟩
   ·rw[show ev (fe true)=.nilIface from rfl] at i
    cases sd
    ·rw[show ev (fe false)=err 1 from rfl] at l
     unfold err at l
     go_wp2_with (first
      | (go_at_call 70;(with_reducible refine (i.o _).mono ?_);rintro e r ⟨rfl,b⟩;replace a:=ki (bt a.o b);replace d:=ki (d.o.kept b);have t:=d.o.hd;clear b)
      | (go_at_call 70;(with_reducible refine (l.o _).mono ?_);rintro e v ⟨rfl,h⟩;replace a:=ki (bt a.o h);clear h))
     go_ret
     exact ⟨by rw[g.o];rfl,a.o⟩
    ·rw[show ev (fe true)=.nilIface from rfl] at l
     cases pp
     all_goals
      go_wp2_with (first
       | (go_at_call 70;(with_reducible refine (i.o _).mono ?_);rintro e r ⟨rfl,b⟩;replace a:=ki (bt a.o b);replace d:=ki (d.o.kept b);have t:=d.o.hd;clear b)
       | (go_at_call 70;(with_reducible refine (l.o _).mono ?_);rintro e v ⟨rfl,h⟩;replace a:=ki (bt a.o h);replace d:=ki (d.o.kept h);clear h;have B:=d.o.cell 9 (by omega);have c18:=d.o.cell 18 (by omega))
       | (go_at_call 153;(with_reducible refine (q.o _).mono ?_);rintro e C ⟨rfl,p⟩;replace a:=ki (bt a.o p);clear p))
      go_ret
      exact ⟨by rw[g.o];rfl,a.o⟩
 ·have y:(k != 6)=true:=by simpa using fun e=>kk (.inl e)
  have s:(k != 17)=true:=by simpa using fun e=>kk (.inr e)
  have z:=ki (show ok=false by rw[g.o,show (k == 6)=false by simpa using y,show (k == 17)=false by simpa using s];rfl)
  clear kk
  go_wp2
  go_ret
  exact ⟨by rw[z.o];rfl,a.o⟩
end
section
theorem kup_any (m:Int) (B n:Nat) (l:List Int) (w:World) (hn:l.length=n) (hm:n≤1000) (hc:Ints B l w) :
  Calls Tryz.prog 188 #[.int .i64 m,.slice (some ⟨B,0,none⟩) n n] w fun e w'=>e=.returned (.bool (bups m l))∧w'=w:=by
 have a:=ki (bups_iff m l)
 have o:=ki hc
 have d:=ki hn
 clear hc
 generalize bups m l=u at a ⊢
 go_enter Tryz.func188,Tryz.ntmps188
 go_wp2
 go_loop [9] (fun t=>∃ k:Nat,k≤n∧Hid (∀ i,i < k→um m (l.getD i 0)=true)∧t=.int .i64 k) (fun t=>n - (intOf t).toNat)
 case atStart=>exact ⟨0,by omega,fun i hi=>absurd hi (by omega),rfl⟩
 case round =>
  obtain ⟨k,p,HI,rfl⟩:=hrel
  by_cases hlt:k < n
  ·have g:=o.o.cell k (by omega)
   generalize hzk:l.getD k 0=z at g
   have f:=ki hzk
   clear hzk hn
   by_cases hz0:z < 0
   ·go_wp2
    go_ret
    exact ⟨congrArg (fun b=>Ending.returned (.bool b)) (Eq.symm (Bool.eq_false_iff.2 fun h=>by have:=(um_iff _ _).1 (a.o.1 h k (by rw[d.o];exact hlt));rw[f.o] at this;omega)),rfl⟩
   ·by_cases hz1:m < z
    ·go_wp2
     go_ret
     exact ⟨congrArg (fun b=>Ending.returned (.bool b)) (Eq.symm (Bool.eq_false_iff.2 fun h=>by have:=(um_iff _ _).1 (a.o.1 h k (by rw[d.o];exact hlt));rw[f.o] at this;omega)),rfl⟩
    ·go_wp2
     go_round
     case rel=>exact ⟨k+1,by omega,fun i hi=>if h:i=k then by subst h;rw[f.o];exact (um_iff _ _).2 ⟨by omega,by omega⟩ else HI.o i (by omega),by go_num⟩
     case measure=>simp[intOf];omega
  ·go_wp2
   go_ret
   obtain rfl:k=n:=by omega
   exact ⟨congrArg (fun b=>Ending.returned (.bool b)) (Eq.symm (a.o.2 fun i hi=>HI.o i (by rw[← d.o];exact hi))),rfl⟩
theorem kup1 (m x:Int) (W:World):Calls Tryz.prog 188 #[.int .i64 m,.slice (some ⟨W.heap.size,0,none⟩) 1 1] (W.alloc (.cells #[.int .i64 x] 3)) fun e w'=>e=.returned (.bool (um m x))∧Below W.heap.size W w' :=
 (kup_any m W.heap.size 1 [x] _ rfl (by omega) (ints_new W [x])).mono fun e w' ⟨h1,h2⟩=>⟨h1.trans (by rw[show bups m [x]=um m x by unfold bups;simp]),by rw[h2];exact al_below _ _⟩
theorem kup2 (x y:Int) (W:World):Calls Tryz.prog 188 #[.int .i64 65535,.slice (some ⟨W.heap.size,0,none⟩) 2 2] (W.alloc (.cells #[.int .i64 x,.int .i64 y] 3)) fun e w'=>e=.returned (.bool (wd x && wd y))∧Below W.heap.size W w' :=
 (kup_any 65535 W.heap.size 2 [x,y] _ rfl (by omega) (ints_new W [x,y])).mono fun e w' ⟨h1,h2⟩=>⟨h1.trans (by rw[show bups 65535 [x,y]=(wd x && wd y) by unfold bups um wd;simp]),by rw[h2];exact al_below _ _⟩
theorem cone (b:List Int) (w:World):Calls Tryz.prog 129 #[.agg (bkC b)] w fun e w'=>e=.returned (ev (fe (okb b)))∧Below w.heap.size w w':=by
 have d:=ki (al_below w (.cells (bkC b) 77))
 have f:=ki (bk_new b w)
 have i:=ki (fun W=>kup2 (el b 0) (el b 2) W)
 have n:=ki (fun W=>kup1 10 (el b 3) W)
 have h:=ki (fun W=>bc4_any (el b 1) W)
 have g:=ki (show okb b=((wd (el b 0) && wd (el b 2)) && fr (el b 1) && um 10 (el b 3)) from rfl)
 generalize okb b=ok at g ⊢
 generalize (wd (el b 0) && wd (el b 2))=pp at i g
 generalize fr (el b 1)=pf at h g
 generalize um 10 (el b 3)=pu at n g
 go_enter Tryz.func129,Tryz.ntmps129
 go_upto_region 1 with fail
 generalize w.alloc _=W at d f ⊢
 have c0:=rng_id f.o.rng
 have c2:=rng_int f.o.rng 2 (by omega)
 cases pp
 ·go_wp2_with (go_at_call 188;(with_reducible refine (i.o _).mono ?_);rintro e o ⟨rfl,a⟩;replace d:=ki (bt d.o a);clear a)
  go_ret
  exact ⟨by rw[g.o];rfl,d.o⟩
 ·cases pf
  ·rw[show ev (fe false)=err 1 from rfl] at h
   unfold err at h
   go_wp2_with (first
    | (go_at_call 188;(with_reducible refine (i.o _).mono ?_);rintro e o ⟨rfl,a⟩;replace d:=ki (bt d.o a);replace f:=ki (f.o.kept a);have c1:=rng_int f.o.rng 1 (by omega);clear a c0 c2)
    | (go_at_call 73;(with_reducible refine (h.o _).mono ?_);rintro e l ⟨rfl,hw⟩;rw[hw];clear hw l))
   go_ret
   exact ⟨by rw[g.o];rfl,d.o⟩
  ·rw[show ev (fe true)=.nilIface from rfl] at h
   cases pu
   all_goals
    go_wp2_with (first
     | (go_at_call 188;(with_reducible refine (i.o _).mono ?_);rintro e o ⟨rfl,a⟩;replace d:=ki (bt d.o a);replace f:=ki (f.o.kept a);have c1:=rng_int f.o.rng 1 (by omega);have c3:=rng_int f.o.rng 3 (by omega);clear a c0 c2)
     | (go_at_call 73;(with_reducible refine (h.o _).mono ?_);rintro e l ⟨rfl,hw⟩;rw[hw];clear hw l)
     | (go_at_call 188;(with_reducible refine (n.o _).mono ?_);rintro e p ⟨rfl,k⟩;replace d:=ki (bt d.o k);clear k))
    go_ret
    exact ⟨by rw[g.o];rfl,d.o⟩
def hid (bs:List (List Int)) (n:Nat) (id:Int):Bool:=(List.range n).any fun k=>el (bs.getD k []) 0 == id
theorem hid_no {bs:List (List Int)} {n:Nat} {id:Int} (h:∀ k,k < n→(el (bs.getD k []) 0 == id)=false):hid bs n id=false:=by
 unfold hid
 rw[List.any_eq_false]
 intro k a
 simpa using h k (List.mem_range.1 a)
theorem hid_yes {bs:List (List Int)} {n k:Nat} {id:Int} (hk:k < n) (h:(el (bs.getD k []) 0 == id)=true):hid bs n id=true:=by
 unfold hid
 rw[List.any_eq_true]
 exact ⟨k,List.mem_range.2 hk,h⟩
attribute [local go_sem ↓] kload_shut
theorem has_any (g off n cap:Nat) (bs:List (List Int)) (id:Int) (w:World) (hn:n≤1000) (hg:g < w.heap.size) (hrow:∀ k,k < n→w.rangeAt g (off+k*6) (bkC (bs.getD k [])).toList) :
  Calls Tryz.prog 130 #[.slice (some ⟨g,off,none⟩) n cap,.int .i64 id] w fun e w'=>e=.returned (.bool (hid bs n id))∧Below w.heap.size w w':=by
 have x:=ki (show ∀ W,Below w.heap.size w W→∀ k,k < n→W.rangeAt g (off+k*6) (bkC (bs.getD k [])).toList from fun W hW k hk j u hu=>by rw[hW.cell (p:=⟨g,off+k*6+j,none⟩) hg];exact hrow k hk j u hu)
 have l:=ki (fun h=>hid_no (bs:=bs) (n:=n) (id:=id) h)
 have o:=ki (fun k hk h=>hid_yes (bs:=bs) (n:=n) (k:=k) (id:=id) hk h)
 generalize hid bs n id=u at l o ⊢
 have q:=ki bk_zero
 unfold zero4b at q
 clear hrow hg
 go_enter Tryz.func130,Tryz.ntmps130
 go_wp2
 go_loopw [9] (fun t wr=>∃ k:Nat,k≤n∧t=.int .i64 k∧Hid (∀ j,j < k→(el (bs.getD j []) 0 == id)=false)∧Hid (Below w.heap.size w wr)) (fun t _=>n - (intOf t).toNat)
 case atStart=>exact ⟨0,by omega,rfl,fun j h=>absurd h (by omega),Below.refl _ _⟩
 case round =>
  obtain ⟨k,hk,rfl,HI,a⟩:=hrel
  by_cases hlt:k < n
  ·have y:(k:Int) < (n:Int):=by omega
   have r:=rng_kl (x.o wr a.o k hlt)
   have d:=ki (o.o k hlt)
   obtain ⟨b,hb⟩:∃ b,bs.getD k []=b:=⟨_,rfl⟩
   rw[hb] at r d
   have s:=ki hb
   clear hb
   go_upto_region 4 with (refine at_storek rfl (.tmp 6) (.tmp 12) rfl rfl (q.o wr) b rfl ?_;intro z v f;replace a:=ki (bt a.o (new_below _ f));have c0:=rng_id v.rng;clear f v)
   clear r
   cases he:el b 0 == id
   ·have i:=ki he
    go_wp2
    go_roundw
    case rel=>exact ⟨k+1,by omega,by go_num,fun j hj=>if e:j=k then by rw[e,s.o];exact i.o else HI.o j (by omega),a⟩
    case measure=>simp[intOf];omega
   ·have i:=ki (d.o he)
    go_wp2
    go_ret
    exact ⟨by rw[i.o];rfl,a.o⟩
  ·obtain rfl:n=k:=by omega
   go_wp2
   go_ret
   exact ⟨by rw[l.o HI.o];rfl,a.o⟩
theorem tn_any (b:List Int) (w:World):Calls Tryz.prog 196 #[.agg (bkC b)] w fun e w'=>e=.returned (.bool (cand b))∧Below w.heap.size w w':=by
 have d:=ki (al_below w (.cells (bkC b) 77))
 have f:=ki (bk_new b w)
 have a:=ki (show cand b=((el b 4 == 1) && !(el b 5 == 1) && !(el b 3 == 0)) from rfl)
 generalize cand b=ok at a ⊢
 go_enter Tryz.func196,Tryz.ntmps196
 go_upto_region 1 with fail
 generalize w.alloc _=W at d f ⊢
 have c3:=rng_int f.o.rng 3 (by omega)
 have c4:=rng_up f.o.rng
 have c5:=rng_dr f.o.rng
 generalize (el b 4 == 1)=up at c4 a
 generalize (el b 5 == 1)=dr at c5 a
 generalize el b 3=x3 at c3 a
 cases hz:x3 == 0
 all_goals
  have g:(x3 != 0) = !(x3 == 0):=rfl
  rw[hz] at a g
  cases up
  ·go_wp2
   go_ret
   exact ⟨by rw[a.o];rfl,d.o⟩
  ·cases dr
   ·go_wp2
    go_ret
    exact ⟨by rw[a.o];rfl,d.o⟩
   ·go_wp2
    go_ret
    exact ⟨by rw[a.o];rfl,d.o⟩
theorem with_any (x:Int) (B off n cap:Nat) (l:List Int) (w:World) (hn:l.length=n) (hm:n≤1000) (hx:0≤x∧x < 2147483648) (hl:∀ y ∈ l,0≤y∧y≤65535)
  (hc:∀ j,j < n→w.cell? ⟨B,off+j,none⟩=some (.int .i64 (l.getD j 0))) :
  Calls Tryz.prog 248 #[.int .i64 x,.slice (some ⟨B,off,none⟩) n cap] w fun e w'=>e=.returned (.int .i64 (mxs x l))∧w'=w:=by
 have i:=ki hc
 have g:=ki hl
 have o:=ki hx
 have h:=ki hn
 clear hc hl hx hn
 go_enter Tryz.func248,Tryz.ntmps248
 go_wp2
 go_loop [0,9] (fun u t=>∃ k:Nat,k≤n∧t=.int .i64 k∧u=.int .i64 (mxs x (l.take k))) (fun _ t=>n - (intOf t).toNat)
 case atStart=>exact ⟨0,by omega,rfl,rfl⟩
 case round =>
  obtain ⟨k,p,rfl,rfl⟩:=hrel
  by_cases hlt:k < n
  ·have q:(k:Int) < (n:Int):=by omega
   have a:k < l.length:=by rw[h.o];exact hlt
   have c1:=i.o k hlt
   have b:=ki (show mxs x (l.take (k+1))=mx (mxs x (l.take k)) (l.getD k 0) by
    rw[List.take_add_one,List.getElem?_eq_getElem a,List.getD_eq_getElem?_getD,List.getElem?_eq_getElem a]
    exact mxs_snoc _ _ _)
   have d:=mxs_in o.o (l.take k) (fun y hy=>(g.o y (List.mem_of_mem_take hy)).1)
   have f:=g.o (l.getD k 0) (by rw[List.getD_eq_getElem?_getD,List.getElem?_eq_getElem a];exact List.getElem_mem _)
   clear a
   generalize mxs x (l.take k)=z at b d
   generalize l.getD k 0=y at c1 b f
   have r:IntKind.i64.wrap (z*69069)=z*69069:=by rw[IntKind.wrap_i64];omega
   have s:IntKind.i64.wrap (z*69069+y)=z*69069+y:=by rw[IntKind.wrap_i64];omega
   have v:IntKind.i64.wrap (z*69069+y+1)=z*69069+y+1:=by rw[IntKind.wrap_i64];omega
   clear d f
   go_wp2
   go_round
   case rel=>exact ⟨k+1,by omega,by go_num,by rw[b.o];rfl⟩
   case measure=>simp[intOf];omega
  ·obtain rfl:k=n:=by omega
   have b:=ki (show mxs x l=mxs x (l.take k) by rw[List.take_of_length_le (by rw[h.o];exact Nat.le_refl _)])
   go_wp2
   go_ret
   exact ⟨by rw[b.o];rfl,rfl⟩
end
end Go.Proofs.YtgcojnlngchllaaGreatDoor
