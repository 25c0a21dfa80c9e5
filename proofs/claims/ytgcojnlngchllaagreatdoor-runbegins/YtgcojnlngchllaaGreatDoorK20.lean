/- The program's block of ports: who has it, and which of its ports are taken; isNobodys and isOf by contracts. The first port of a block that is not taken: Index, Contains and isFull by contracts. The program's ports as they lie in the heap: a row of blocks, and the block that holds it; roomFor by a contract. The program's find, Owner and Give of a port, by contracts. The program's Owner and Give of a port, by contracts. The program's Take and Free of ports, by contracts. The program's Blocks of somebody, and New, by contracts. -/
import Derived.Test.YtgcojnlngchllaaGreatDoorK18
namespace Go.Proofs.YtgcojnlngchllaaGreatDoor
open Go.RowKit
set_option linter.unusedVariables false
set_option maxRecDepth 100000
set_option maxHeartbeats 40000000
section
variable {z:List Int} {B:Nat} {t:Nat→Bool} {w:World}
def pbC (z:List Int) (t:Nat→Bool):Array Value:=#[.int .i64 (el z 0),.int .i64 (el z 1),.int .i64 (el z 2),.int .i64 (el z 3),.int .i64 (el z 4),.int .i64 (el z 5),.int .i64 (el z 6),.int .i64 (el z 7),.bool (t 0),.bool (t 1),.bool (t 2),.bool (t 3),.bool (t 4),.bool (t 5),.bool (t 6),.bool (t 7)]
def tbC (t:Nat→Bool):Array Value:=#[.bool (t 0),.bool (t 1),.bool (t 2),.bool (t 3),.bool (t 4),.bool (t 5),.bool (t 6),.bool (t 7)]
theorem pbC_six (z:List Int) (t:Nat→Bool) (j:Nat) (hj:j < 8):(pbC z t)[j]? = some (.int .i64 (el z j)):=by
 rcases (by omega:j=0∨j=1∨j=2∨j=3∨j=4∨j=5∨j=6∨j=7) with rfl|rfl|rfl|rfl|rfl|rfl|rfl|rfl <;> rfl
theorem pbC_boo (z:List Int) (t:Nat→Bool) (j:Nat) (hj:j < 8):(pbC z t)[8+j]? = some (.bool (t j)):=by
 rcases (by omega:j=0∨j=1∨j=2∨j=3∨j=4∨j=5∨j=6∨j=7) with rfl|rfl|rfl|rfl|rfl|rfl|rfl|rfl <;> rfl
theorem tbC_at (t:Nat→Bool) (j:Nat) (hj:j < 8):(tbC t)[j]? = some (.bool (t j)):=by
 rcases (by omega:j=0∨j=1∨j=2∨j=3∨j=4∨j=5∨j=6∨j=7) with rfl|rfl|rfl|rfl|rfl|rfl|rfl|rfl <;> rfl
def PbIn (B:Nat) (z:List Int) (t:Nat→Bool) (w:World):Prop:=w.heap[B]? = some (.cells (pbC z t) 348 (0,0))
theorem PbIn.lt (p:PbIn B z t w):B < w.heap.size:=(Array.getElem?_eq_some_iff.1 p).1
theorem PbIn.kept {w':World} (p:PbIn B z t w) (hb:Below w.heap.size w w'):PbIn B z t w':=(hb.block B p.lt).trans p
theorem pb_new (z:List Int) (t:Nat→Bool) (w:World):PbIn w.heap.size z t (w.alloc (.cells (pbC z t) 348)):=heap_alloc_new w _
theorem PbIn.six (p:PbIn B z t w):w.rangeAt B 0 (sixC z).toList:=by
 intro j v hv
 have a:j < 8:=(List.getElem?_eq_some_iff.1 hv).1
 rw[Nat.zero_add,cell_of_row w B j _ _ _ p,pbC_six z t j a,← sixC_at z j a]
 simpa using hv
theorem PbIn.boo (p:PbIn B z t w):w.rangeAt B 8 (tbC t).toList:=by
 intro j v hv
 have a:j < 8:=(List.getElem?_eq_some_iff.1 hv).1
 rw[cell_of_row w B (8+j) _ _ _ p,pbC_boo z t j a,← tbC_at t j a]
 simpa using hv
theorem PbIn.bit (p:PbIn B z t w) (j:Nat) (hj:j < 8):w.cell? ⟨B,8+j,none⟩=some (.bool (t j)):=(cell_of_row w B (8+j) _ _ _ p).trans (pbC_boo z t j hj)
def pload (x:Value):Sem Value:=Instr.loadAt 348 x
theorem pload_shut (x:Value):Instr.loadAt 348 x=pload x:=rfl
theorem PbIn.all (p:PbIn B z t w):w.rangeAt B 0 (pbC z t).toList:=by
 intro j v hv
 rw[Nat.zero_add,cell_of_row w B j _ _ _ p]
 simpa using hv
theorem PbIn.pl (p:PbIn B z t w):(pload (.pointer (some ⟨B,0,none⟩))).run Tryz.prog w=.ok (.agg (pbC z t)) w :=
 run_loadAt_mid w B 0 348 (pbC z t).toList _ p.all Tryz.underlying348 rfl (by kernel_rfl)
theorem at_pbT {ops:Array Oper} {rest:List Oper} {o:Oper} {f:Act} {Q:Exit→Act→World→Prop} (hgd:o.guard=none) (x:Operand) (ho:o.op=.load 346 x)
  {B:Nat} {z:List Int} {t:Nat→Bool} (hx:f.eval x=.pointer (some ⟨B,8,none⟩)) (p:PbIn B z t w)
  (hK:wpList Tryz.prog ops Q rest (f.put o.dst (.agg (tbC t))) w):wpList Tryz.prog ops Q (o::rest) f w :=
 wpList_load_mid hgd 346 x ho B 8 hx (tbC t).toList _ p.boo Tryz.underlying346 rfl (by kernel_rfl) hK
theorem at_pbW {ops:Array Oper} {rest:List Oper} {o:Oper} {f:Act} {Q:Exit→Act→World→Prop} (hgd:o.guard=none) (x:Operand) (ho:o.op=.load 23 x)
  {B:Nat} {z:List Int} {t:Nat→Bool} (hx:f.eval x=.pointer (some ⟨B,0,none⟩)) (p:PbIn B z t w)
  (hK:wpList Tryz.prog ops Q rest (f.put o.dst (.agg (sixC z))) w):wpList Tryz.prog ops Q (o::rest) f w :=
 wpList_load_mid hgd 23 x ho B 0 hx (sixC z).toList _ p.six Tryz.underlying23 rfl (by kernel_rfl) hK
def nob (t:Nat→Bool):Bool:=!t 0 && !t 1 && !t 2 && !t 3 && !t 4 && !t 5 && !t 6 && !t 7
theorem nob_iff (t:Nat→Bool):nob t=true↔∀ j,j < 8→t j=false:=by
 unfold nob
 simp only[Bool.and_eq_true,Bool.not_eq_true']
 refine ⟨fun ⟨⟨⟨⟨⟨⟨⟨h0,h1⟩,h2⟩,h3⟩,h4⟩,h5⟩,h6⟩,h7⟩ j hj=>?_,fun h=>⟨⟨⟨⟨⟨⟨⟨h 0 (by omega),h 1 (by omega)⟩,h 2 (by omega)⟩,h 3 (by omega)⟩,h 4 (by omega)⟩,h 5 (by omega)⟩,h 6 (by omega)⟩,h 7 (by omega)⟩⟩
 rcases (by omega:j=0∨j=1∨j=2∨j=3∨j=4∨j=5∨j=6∨j=7) with rfl|rfl|rfl|rfl|rfl|rfl|rfl|rfl <;> assumption
theorem eq_boo (x0 x1 x2 x3 x4 x5 x6 x7:Bool) (w:World):(Op.equalIn 10000 346 (.agg #[.bool x0,.bool x1,.bool x2,.bool x3,.bool x4,.bool x5,.bool x6,.bool x7]) (.agg #[.bool false,.bool false,.bool false,.bool false,.bool false,.bool false,.bool false,.bool false])).run Tryz.prog w=.ok (!x0 && !x1 && !x2 && !x3 && !x4 && !x5 && !x6 && !x7) w:=by
 have a:=Tryz.underlying4
 have b:=Tryz.isAgg4
 have d:=Tryz.sizeOf4
 rw[show (10000:Nat)=9999+1 from rfl,Op.equalIn]
 simp only[Sem.run_bind,run_underlying Tryz.underlying346,Result.andThen_ok]
 simp only[Std.Legacy.Range.forIn_eq_forIn_range',Std.Legacy.Range.size,Nat.sub_zero,Nat.add_sub_cancel,Nat.div_one,List.range'_succ,List.range'_zero,List.forIn_cons,List.forIn_nil]
 go_simp
 cases x0
 case true=>simp
 cases x1
 case true=>simp
 cases x2
 case true=>simp
 cases x3
 case true=>simp
 cases x4
 case true=>simp
 cases x5
 case true=>simp
 cases x6
 case true=>simp
 cases x7
 case true=>simp
 simp
theorem eq_tb (t:Nat→Bool) (w:World):(Op.equalIn 10000 346 (.agg (tbC t)) (.agg #[.bool false,.bool false,.bool false,.bool false,.bool false,.bool false,.bool false,.bool false])).run Tryz.prog w=.ok (nob t) w:=eq_boo _ _ _ _ _ _ _ _ w
theorem nob_any (z:List Int) (t:Nat→Bool) (w:World):Calls Tryz.prog 264 #[.agg (pbC z t)] w fun e w'=>e=.returned (.bool (nob t))∧Below w.heap.size w w':=by
 have a:=ki (al_below w (.cells (pbC z t) 348))
 have b:=ki (pb_new z t w)
 have q:=eq_tb t
 go_enter Tryz.func264,Tryz.ntmps264
 go_upto_region 1 with fail
 generalize w.alloc _=W at a b ⊢
 go_wp2_with (refine at_pbT rfl (.tmp 3) rfl rfl b.o ?_)
 go_ret
 exact ⟨rfl,a.o⟩
attribute [local go_sem ↓] pload_shut
theorem isof_any (z:List Int) (t:Nat→Bool) (a:List Int) (w:World):Calls Tryz.prog 291 #[.agg (pbC z t),.agg (sixC a)] w fun e w'=>e=.returned (.bool (eqz z a && !nob t))∧Below w.heap.size w w':=by
 have k:=al_below w (.cells (pbC z t) 348)
 have h:=al_below (w.alloc (.cells (pbC z t) 348)) (.cells (sixC a) 23)
 have d:=ki (bt k h)
 have f:=ki ((pb_new z t w).kept h)
 have i:=ki (show SixIn (w.heap.size+1) a ((w.alloc (.cells (pbC z t) 348)).alloc (.cells (sixC a) 23)) by have:=six_new a (w.alloc (.cells (pbC z t) 348));rw[World.size_alloc] at this;exact this)
 have l:=ki (nob_any z t)
 have q:∀ w,(Op.equalIn 10000 23 (.agg (sixC z)) (.agg (sixC a))).run Tryz.prog w=.ok (eqz z a) w:=eq_six z a
 generalize eqz z a=b at q ⊢
 clear k h
 go_enter Tryz.func291,Tryz.ntmps291
 go_upto_region 1 with fail
 generalize (w.alloc _).alloc _=W at d f i ⊢
 cases b
 ·go_wp2_with (first
   | (refine at_pbW rfl (.tmp 5) rfl rfl f.o ?_)
   | (refine at_load6 rfl (.tmp 3) rfl rfl i.o ?_))
  go_ret
  exact ⟨rfl,d.o⟩
 ·have n:=f.o.pl
  go_wp2_with (first
   | (refine at_pbW rfl (.tmp 5) rfl rfl f.o ?_)
   | (refine at_load6 rfl (.tmp 3) rfl rfl i.o ?_)
   | (go_at_call 264;refine (l.o _).mono ?_;rintro e o ⟨rfl,g⟩;replace d:=ki (bt d.o g);clear g))
  go_ret
  exact ⟨rfl,d.o⟩
end
section
def fx (t:Nat→Bool):Option Nat:=(List.range 8).find? fun j=>!t j
def fi (o:Option Nat):Int:=match o with|some i=>i|none=>-1
theorem fx_none {t:Nat→Bool} (h:∀ j,j < 8→t j=true):fx t=none:=find_none fun j hj=>by rw[h j hj];rfl
theorem fx_some {t:Nat→Bool} {i:Nat} (hi:i < 8) (h3:t i=false) (h:∀ j,j < i→t j=true):fx t=some i:=find_some hi (by rw[h3];rfl) fun j hj=>by rw[h j hj];rfl
theorem index_any (g off:Nat) (t:Nat→Bool) (w:World) (hc:∀ j,j < 8→w.cell? ⟨g,off+j,none⟩=some (.bool (t j))):Calls Tryz.prog 251 #[.slice (some ⟨g,off,none⟩) 8 8,.bool false] w fun e w'=>e=.returned (.int .i64 (fi (fx t)))∧w'=w:=by
 have a:=ki hc
 clear hc
 go_enter Tryz.func251,Tryz.ntmps251
 go_wp2
 go_loop [8] (fun v=>∃ k:Nat,k≤8∧v=.int .i64 k∧Hid (∀ j,j < k→t j=true)) (fun v=>8 - (intOf v).toNat)
 case atStart=>exact ⟨0,by omega,rfl,fun j h=>absurd h (by omega)⟩
 case round =>
  obtain ⟨k,f,rfl,HI⟩:=hrel
  by_cases hlt:k < 8
  ·have c1:=a.o k hlt
   have i:(k:Int) < 8:=by omega
   cases ht:t k
   ·rw[ht] at c1
    have b:=ki (fx_some hlt ht HI.o)
    clear ht
    go_wp2
    go_ret
    rw[b.o]
    exact ⟨rfl,rfl⟩
   ·rw[ht] at c1
    have d:=ki ht
    clear ht
    go_wp2
    go_round
    case rel=>exact ⟨k+1,by omega,by go_num,fun j hj=>if e:j=k then by rw[e];exact d.o else HI.o j (by omega)⟩
    case measure=>simp[intOf];omega
  ·obtain rfl:k=8:=by omega
   go_wp2
   go_ret
   rw[fx_none HI.o]
   exact ⟨rfl,rfl⟩
theorem fi_neg (o:Option Nat):decide (0≤fi o)=o.isSome:=by
 cases o with
 | none=>rfl
 | some i=>unfold fi;simp
theorem contains_any (g off:Nat) (t:Nat→Bool) (w:World) (hc:∀ j,j < 8→w.cell? ⟨g,off+j,none⟩=some (.bool (t j))):Calls Tryz.prog 315 #[.slice (some ⟨g,off,none⟩) 8 8,.bool false] w fun e w'=>e=.returned (.bool (fx t).isSome)∧w'=w:=by
 have H:=ki (index_any g off t w hc)
 have a:=fi_neg (fx t)
 clear hc
 generalize fx t=o at H a ⊢
 generalize fi o=x at H a
 go_enter Tryz.func315,Tryz.ntmps315
 go_wp2_with (go_at_call 251;refine H.o.mono ?_;rintro e w' ⟨rfl,rfl⟩)
 go_ret
 exact ⟨by rw[← a];rfl,rfl⟩
theorem isfull_any (z:List Int) (t:Nat→Bool) (w:World):Calls Tryz.prog 292 #[.agg (pbC z t)] w fun e w'=>e=.returned (.bool (fx t).isNone)∧Below w.heap.size w w':=by
 have a:=ki (al_below w (.cells (pbC z t) 348))
 have b:=ki (pb_new z t w)
 go_enter Tryz.func292,Tryz.ntmps292
 go_upto_region 1 with fail
 generalize w.alloc _=W at a b ⊢
 go_wp2_with (go_at_call 315;refine (contains_any w.heap.size 8 t _ (fun j hj=>b.o.bit j hj)).mono ?_;rintro e d ⟨rfl,rfl⟩)
 go_ret
 exact ⟨rfl,a.o⟩
end
section
variable {B:Nat} {ow:Nat→List Int} {w:World}
def sb (ts:Nat→Bool) (k:Nat):Nat→Bool:=fun j=>ts (8*k+j)
def BRow (B m:Nat) (ow:Nat→List Int) (ts:Nat→Bool) (w:World):Prop:=∃ cs:Array Value,w.heap[B]? = some (.cells cs 348 (0,0))∧cs.size=16*m∧∀ k,k < m→∀ j,j < 8→cs[16*k+j]? = some (.int .i64 (el (ow k) j))∧cs[16*k+8+j]? = some (.bool (ts (8*k+j)))
theorem BRow.lt {m:Nat} {ts:Nat→Bool} (h:BRow B m ow ts w):B < w.heap.size:=by obtain ⟨cs,h1,_⟩:=h;exact (Array.getElem?_eq_some_iff.1 h1).1
theorem BRow.same {m:Nat} {ts:Nat→Bool} {w':World} (h:BRow B m ow ts w) (e:w'.heap[B]? = w.heap[B]?):BRow B m ow ts w':=by obtain ⟨cs,h1,h2⟩:=h;exact ⟨cs,e.trans h1,h2⟩
theorem BRow.bit {m:Nat} {ts:Nat→Bool} (h:BRow B m ow ts w) (k:Nat) (hk:k < m) (j:Nat) (hj:j < 8):w.cell? ⟨B,16*k+8+j,none⟩=some (.bool (ts (8*k+j)))∧w.frozen? ⟨B,16*k+8+j,none⟩=false:=by
 obtain ⟨d,a,e,b⟩:=h
 exact ⟨by rw[cell_of_row w B _ _ _ _ a];exact (b k hk j hj).2,by simp[World.frozen?,a]⟩
theorem BRow.who {m:Nat} {ts:Nat→Bool} (h:BRow B m ow ts w) (k:Nat) (hk:k < m):w.rangeAt B (16*k) (sixC (ow k)).toList:=by
 obtain ⟨e,b,f,d⟩:=h
 intro j v hv
 have a:j < 8:=(List.getElem?_eq_some_iff.1 hv).1
 rw[cell_of_row w B (16*k+j) _ _ _ b,(d k hk j a).1,← sixC_at (ow k) j a]
 simpa using hv
theorem BRow.all {m:Nat} {ts:Nat→Bool} (h:BRow B m ow ts w) (k:Nat) (hk:k < m):w.rangeAt B (16*k) (pbC (ow k) (sb ts k)).toList:=by
 obtain ⟨e,d,f,b⟩:=h
 intro j v hv
 have g:j < 16:=(List.getElem?_eq_some_iff.1 hv).1
 have a:(pbC (ow k) (sb ts k))[j]? = some v:=by simpa using hv
 rw[cell_of_row w B (16*k+j) _ _ _ d]
 by_cases h8:j < 8
 ·rw[(b k hk j h8).1,← a,pbC_six _ _ j h8]
 ·obtain ⟨i,rfl⟩:∃ i,j=8+i:=⟨j - 8,by omega⟩
  rw[← Nat.add_assoc,(b k hk i (by omega)).2,← a,pbC_boo _ _ i (by omega)]
  rfl
theorem at_brow {ops:Array Oper} {rest:List Oper} {o:Oper} {f:Act} {Q:Exit→Act→World→Prop} (hgd:o.guard=none) (x:Operand) (ho:o.op=.load 348 x)
  {B m:Nat} {ow:Nat→List Int} {ts:Nat→Bool} (k off:Nat) (hx:f.eval x=.pointer (some ⟨B,off,none⟩)) (hoff:off=16*k) (hk:k < m) (p:BRow B m ow ts w)
  (hK:wpList Tryz.prog ops Q rest (f.put o.dst (.agg (pbC (ow k) (sb ts k)))) w):wpList Tryz.prog ops Q (o::rest) f w:=by
 subst hoff
 exact wpList_load_mid hgd 348 x ho B (16*k) hx (pbC (ow k) (sb ts k)).toList _ (p.all k hk) Tryz.underlying348 rfl (by kernel_rfl) hK
theorem pb_zero (w:World):PbIn w.heap.size [] (fun _=>false) (w.alloc (.cells #[.int .i64 0,.int .i64 0,.int .i64 0,.int .i64 0,.int .i64 0,.int .i64 0,.int .i64 0,.int .i64 0,.bool false,.bool false,.bool false,.bool false,.bool false,.bool false,.bool false,.bool false] 348)):=heap_alloc_new w _
theorem PbIn.stored {z0:List Int} {t0:Nat→Bool} (p:PbIn B z0 t0 w) (z:List Int) (t:Nat→Bool):PbIn B z t (w.setRow B (pbC z t)):=setRow_heap w B _ _ _ (0,0) p
theorem at_storepb {ops:Array Oper} {rest:List Oper} {o:Oper} {f:Act} {Q:Exit→Act→World→Prop} (hgd:o.guard=none) (x y:Operand) (ho:o.op=.store 348 x y)
  {B:Nat} {z0:List Int} {t0:Nat→Bool} (hx:f.eval x=.pointer (some ⟨B,0,none⟩)) (p:PbIn B z0 t0 w) (z:List Int) (t:Nat→Bool) (hy:f.eval y=.agg (pbC z t))
  (hK:∀ w',PbIn B z t w'→Only B w w'→wpList Tryz.prog ops Q rest (f.put o.dst undef) w'):wpList Tryz.prog ops Q (o::rest) f w :=
 wpList_store_row hgd 348 x y ho B _ hx hy 348 _ p (by kernel_rfl) rfl (by unfold pbC;simp[Value.oneCell']) (hK _ (p.stored z t) (only_setRow _ _ _))
def BP (B BB m:Nat) (ow:Nat→List Int) (ts:Nat→Bool) (w:World):Prop:=w.heap[B]? = some (.cells #[.slice (some ⟨BB,0,none⟩) m m] 218 (0,0))∧BRow BB m ow ts w
theorem BP.lt {BB m:Nat} {ts:Nat→Bool} (h:BP B BB m ow ts w):B < w.heap.size:=(Array.getElem?_eq_some_iff.1 h.1).1
theorem BP.kept {BB m:Nat} {ts:Nat→Bool} {w':World} (h:BP B BB m ow ts w) (hb:Below w.heap.size w w'):BP B BB m ow ts w':=⟨(hb.block B h.lt).trans h.1,h.2.same (hb.block BB h.2.lt)⟩
theorem BP.row {BB m:Nat} {ts:Nat→Bool} (h:BP B BB m ow ts w):w.cell? ⟨B,0,none⟩=some (.slice (some ⟨BB,0,none⟩) m m):=cell_of_row w B 0 _ _ _ h.1
theorem BP.ne {BB m:Nat} {ts:Nat→Bool} (h:BP B BB m ow ts w):B≠BB:=by
 rintro rfl
 obtain ⟨b,d,a,_⟩:=h
 rw[b] at a
 cases a
def Kp (w:World) (B BB m:Nat) (ow:Nat→List Int) (ts:Nat→Bool) (z:List Int) (W:World):Prop:=BP B BB m ow ts W∧SixIn w.heap.size z W∧Below w.heap.size w W
theorem Kp.kept {BB m:Nat} {ts:Nat→Bool} {z:List Int} {W W':World} (h:Kp w B BB m ow ts z W) (hb:Below W.heap.size W W'):Kp w B BB m ow ts z W':=⟨h.1.kept hb,h.2.1.kept hb,bt h.2.2 hb⟩
def mine (ow:Nat→List Int) (ts:Nat→Bool) (z:List Int) (k:Nat):Bool:=eqz (ow k) z && !nob (sb ts k)
def r0 (ow:Nat→List Int) (ts:Nat→Bool) (z:List Int) (k:Nat):Bool:=mine ow ts z k && (fx (sb ts k)).isSome
def r1 (ts:Nat→Bool) (k:Nat):Bool:=nob (sb ts k)
def rm (ow:Nat→List Int) (ts:Nat→Bool) (z:List Int) (m:Nat):Option Nat:=((List.range m).find? (r0 ow ts z)).or ((List.range m).find? (r1 ts))
theorem find_succ (f:Nat→Bool) (k:Nat):(List.range (k+1)).find? f=((List.range k).find? f).or (if f k=true then some k else none):=by
 rw[List.range_succ,List.find?_append,List.find?_singleton]
theorem fi_lt (o:Option Nat):decide (fi o < 0)=o.isNone:=by
 cases o with
 | none=>rfl
 | some i=>unfold fi;simp
attribute [local go_sem ↓] pload_shut
theorem room_any (B BB m:Nat) (ow:Nat→List Int) (ts:Nat→Bool) (z:List Int) (w:World) (h:BP B BB m ow ts w) (hm:m≤16) (R:Option Nat) (hR:rm ow ts z m=R) :
  Calls Tryz.prog 250 #[.pointer (some ⟨B,0,none⟩),.agg (sixC z)] w fun e w'=>e=.returned (.int .i64 (fi R))∧Below w.heap.size w w':=by
 have G:=ki (show Kp w B BB m ow ts z (w.alloc (.cells (sixC z) 23)) from ⟨h.kept (al_below _ _),six_new z w,al_below _ _⟩)
 have J:=ki hR
 have S:(m:Int)≤16:=by omega
 clear h hR
 go_enter Tryz.func250,Tryz.ntmps250
 go_upto_region 1 with fail
 generalize w.alloc _=W at G ⊢
 have P:=G.o.1.row
 go_wp2
 go_loopw [5,13] (fun v i wr=>∃ k:Nat,k≤m∧i=.int .i64 k∧v=.int .i64 (fi ((List.range k).find? (r1 ts)))∧Hid (∀ j,j < k→r0 ow ts z j=false)∧Hid (Kp w B BB m ow ts z wr)) (fun _ i _=>m - (intOf i).toNat)
 case atStart=>exact ⟨0,by omega,rfl,rfl,fun j h=>absurd h (by omega),G⟩
 case round =>
  clear G P
  obtain ⟨k,T,rfl,rfl,HI,a⟩:=hrel
  by_cases hlt:k < m
  ·have U:(k:Int) < (m:Int):=by omega
   have r:=ki (find_succ (r1 ts) k)
   have C:=fi_lt ((List.range k).find? (r1 ts))
   have D:=ki (show fi ((List.range k).find? (r1 ts))≤16 by
    cases h9:(List.range k).find? (r1 ts) with
    | none=>show (-1:Int)≤16;omega
    | some i=>have:=List.mem_range.1 (List.mem_of_find?_eq_some h9);show ((i:Nat):Int)≤16;omega)
   go_upto_region 5 with (first
    | (refine at_brow rfl (.tmp 16) rfl k _ rfl (by omega) hlt a.o.1.2 ?_;have K:=al_below wr (.cells #[.int .i64 0,.int .i64 0,.int .i64 0,.int .i64 0,.int .i64 0,.int .i64 0,.int .i64 0,.int .i64 0,.bool false,.bool false,.bool false,.bool false,.bool false,.bool false,.bool false,.bool false] 348);have L:=ki (pb_zero wr))
    | (refine at_storepb rfl (.tmp 7) (.tmp 17) rfl rfl L.o (ow k) (sb ts k) rfl ?_;intro V f H;replace a:=ki (a.o.kept (new_below _ H));replace f:=ki f;clear H K L))
   generalize wr.heap.size=B2 at f ⊢
   have p:=ki (show r0 ow ts z k=((eqz (ow k) z && !nob (sb ts k)) && !(fx (sb ts k)).isNone) by unfold r0 mine;cases fx (sb ts k) <;> rfl)
   have y:=ki (fun W=>isof_any (ow k) (sb ts k) z W)
   have A:=ki (fun W=>isfull_any (ow k) (sb ts k) W)
   have q:=ki (fun W=>nob_any (ow k) (sb ts k) W)
   have E:=ki (show r1 ts k=nob (sb ts k) from rfl)
   generalize (eqz (ow k) z && !nob (sb ts k))=b at y p
   generalize (fx (sb ts k)).isNone=c at A p
   generalize nob (sb ts k)=d at q E
   generalize (List.range k).find? (r1 ts)=o at C r D ⊢
   have X:=f.o.pl
   cases b
   ·go_upto_region 7 with (first
     | (refine at_load6 rfl (.tmp 3) rfl rfl a.o.2.1 ?_)
     | (go_at_call 291;refine (y.o _).mono ?_;rintro e M ⟨rfl,g⟩;replace a:=ki (a.o.kept g);replace f:=ki (f.o.kept g);have N:=f.o.pl;clear g)
     | (go_at_call 292;refine (A.o _).mono ?_;rintro e O ⟨rfl,l⟩;replace a:=ki (a.o.kept l);replace f:=ki (f.o.kept l);clear l))
    cases o with
    | none =>
     have s:fi none < 0:=by decide
     generalize hxe:fi none=x at s D ⊢
     have t:=ki hxe
     clear hxe C
     have Q:=f.o.pl
     cases d
     ·go_wp2_with (go_at_call 264;refine (q.o _).mono ?_;rintro e I ⟨rfl,n⟩;replace a:=ki (a.o.kept n);clear n)
      go_roundw
      case rel=>exact ⟨k+1,by omega,by go_num,by rw[r.o,E.o,← t.o];rfl,fun j hj=>if e:j=k then by rw[e,p.o];rfl else HI.o j (by omega),a⟩
      case measure=>simp[intOf];omega
     ·go_wp2_with (go_at_call 264;refine (q.o _).mono ?_;rintro e I ⟨rfl,n⟩;replace a:=ki (a.o.kept n);clear n)
      go_roundw
      case rel=>exact ⟨k+1,by omega,by go_num,by rw[r.o,E.o];rfl,fun j hj=>if e:j=k then by rw[e,p.o];rfl else HI.o j (by omega),a⟩
      case measure=>simp[intOf];omega
    | some i =>
     have s:¬ fi (some i) < 0:=by rw[show fi (some i)=(i:Int) from rfl];omega
     have F:=ki (show (List.range (k+1)).find? (r1 ts)=some i by rw[r.o];rfl)
     generalize hxe:fi (some i)=x at s D ⊢
     have t:=ki hxe
     clear hxe C
     go_wp2
     go_roundw
     case rel=>exact ⟨k+1,by omega,by go_num,by rw[F.o,← t.o],fun j hj=>if e:j=k then by rw[e,p.o];rfl else HI.o j (by omega),a⟩
     case measure=>simp[intOf];omega
   ·cases c
    ·go_wp2_with (first
     | (refine at_load6 rfl (.tmp 3) rfl rfl a.o.2.1 ?_)
     | (go_at_call 291;refine (y.o _).mono ?_;rintro e M ⟨rfl,g⟩;replace a:=ki (a.o.kept g);replace f:=ki (f.o.kept g);have N:=f.o.pl;clear g)
     | (go_at_call 292;refine (A.o _).mono ?_;rintro e O ⟨rfl,l⟩;replace a:=ki (a.o.kept l);replace f:=ki (f.o.kept l);clear l))
     go_ret
     refine ⟨?_,a.o.2.2⟩
     rw[← J.o]
     unfold rm
     rw[find_some hlt p.o HI.o]
     rfl
    ·go_upto_region 7 with (first
     | (refine at_load6 rfl (.tmp 3) rfl rfl a.o.2.1 ?_)
     | (go_at_call 291;refine (y.o _).mono ?_;rintro e M ⟨rfl,g⟩;replace a:=ki (a.o.kept g);replace f:=ki (f.o.kept g);have N:=f.o.pl;clear g)
     | (go_at_call 292;refine (A.o _).mono ?_;rintro e O ⟨rfl,l⟩;replace a:=ki (a.o.kept l);replace f:=ki (f.o.kept l);clear l))
     cases o with
     | none =>
      have s:fi none < 0:=by decide
      generalize hxe:fi none=x at s D ⊢
      have t:=ki hxe
      clear hxe C
      have Q:=f.o.pl
      cases d
      ·go_wp2_with (go_at_call 264;refine (q.o _).mono ?_;rintro e I ⟨rfl,n⟩;replace a:=ki (a.o.kept n);clear n)
       go_roundw
       case rel=>exact ⟨k+1,by omega,by go_num,by rw[r.o,E.o,← t.o];rfl,fun j hj=>if e:j=k then by rw[e,p.o];rfl else HI.o j (by omega),a⟩
       case measure=>simp[intOf];omega
      ·go_wp2_with (go_at_call 264;refine (q.o _).mono ?_;rintro e I ⟨rfl,n⟩;replace a:=ki (a.o.kept n);clear n)
       go_roundw
       case rel=>exact ⟨k+1,by omega,by go_num,by rw[r.o,E.o];rfl,fun j hj=>if e:j=k then by rw[e,p.o];rfl else HI.o j (by omega),a⟩
       case measure=>simp[intOf];omega
     | some i =>
      have s:¬ fi (some i) < 0:=by rw[show fi (some i)=(i:Int) from rfl];omega
      have F:=ki (show (List.range (k+1)).find? (r1 ts)=some i by rw[r.o];rfl)
      generalize hxe:fi (some i)=x at s D ⊢
      have t:=ki hxe
      clear hxe C
      go_wp2
      go_roundw
      case rel=>exact ⟨k+1,by omega,by go_num,by rw[F.o,← t.o],fun j hj=>if e:j=k then by rw[e,p.o];rfl else HI.o j (by omega),a⟩
      case measure=>simp[intOf];omega
  ·obtain rfl:m=k:=by omega
   go_wp2
   go_ret
   refine ⟨?_,a.o.2.2⟩
   rw[← J.o]
   unfold rm
   rw[find_none HI.o]
   rfl
end
section
theorem find_in (B BB m:Nat) (ow:Nat→List Int) (ts:Nat→Bool) (k j:Nat) (w:World) (h:BP B BB m ow ts w) (hm:m≤16) (hk:k < m) (hj:j < 8) :
  Calls Tryz.prog 263 #[.pointer (some ⟨B,0,none⟩),.int .i64 (1024+((8*k+j:Nat):Int))] w fun e w'=>e=.returned (if ts (8*k+j)=true then .tuple #[.pointer (some ⟨BB,16*k,none⟩),.int .i64 j] else .tuple #[.pointer none,.int .i64 0])∧w'=w:=by
 have d:=h.row
 have c1:=(h.2.bit k hk j hj).1
 clear h
 have a:(m:Int)≤16:=by omega
 obtain ⟨x,hx⟩:∃ x:Int,x=((8*k+j:Nat):Int):=⟨_,rfl⟩
 rw[← hx]
 have f:x.tdiv 8=(k:Int):=by rw[Int.tdiv_eq_ediv_of_nonneg (by omega)];omega
 have g:x.tmod 8=(j:Int):=by rw[Int.tmod_eq_emod_of_nonneg (by omega)];omega
 have i:IntKind.i64.wrap (1024+x - 1024)=x:=by rw[IntKind.wrap_i64];omega
 have l:¬ 1024+x < 1024:=by omega
 have n:¬ 1024+(m:Int)*8≤1024+x:=by omega
 have o:(k:Int) < (m:Int):=by omega
 have p:(j:Int) < 8:=by omega
 have b:k*16=16*k:=by omega
 have q:=ki hx
 clear hx
 cases ht:ts (8*k+j)
 ·rw[ht] at c1
  clear ht
  go_enter Tryz.func263,Tryz.ntmps263
  go_wp2
  go_ret2
  exact ⟨rfl,rfl⟩
 ·rw[ht] at c1
  clear ht
  go_enter Tryz.func263,Tryz.ntmps263
  go_wp2
  go_ret2
  exact ⟨rfl,rfl⟩
end
section
variable {B:Nat} {ow:Nat→List Int} {w:World}
theorem find_yes (B BB m:Nat) (ow:Nat→List Int) (ts:Nat→Bool) (k j:Nat) (w:World) (h:BP B BB m ow ts w) (hm:m≤16) (hk:k < m) (hj:j < 8) (ht:ts (8*k+j)=true) :
  Calls Tryz.prog 263 #[.pointer (some ⟨B,0,none⟩),.int .i64 (1024+((8*k+j:Nat):Int))] w fun e w'=>e=.returned (.tuple #[.pointer (some ⟨BB,16*k,none⟩),.int .i64 j])∧w'=w:=by
 have:=find_in B BB m ow ts k j w h hm hk hj
 rw[ht] at this
 exact this
theorem BRow.set {m:Nat} {ts:Nat→Bool} (h:BRow B m ow ts w) (k j:Nat) (hk:k < m) (hj:j < 8) (x:Bool):BRow B m ow (upd ts (8*k+j) x) (w.setCell ⟨B,16*k+8+j,none⟩ (.bool x)):=by
 obtain ⟨d,a,f,b⟩:=h
 refine ⟨d.setIfInBounds (16*k+8+j) (.bool x),?_,by simpa using f,fun k' hk' j' hj'=>⟨?_,?_⟩⟩
 ·rw[setCell_eq_setRow w B _ _ 348 (0,0) (.bool x) a,setRow_heap w B _ _ 348 (0,0) a]
 ·rw[Array.getElem?_setIfInBounds_ne (by omega)]
  exact (b k' hk' j' hj').1
 ·unfold upd
  by_cases e:8*k'+j'=8*k+j
  ·rw[if_pos e,show 16*k'+8+j'=16*k+8+j by omega,Array.getElem?_setIfInBounds_self_of_lt (by omega)]
  ·rw[if_neg e,Array.getElem?_setIfInBounds_ne (by omega)]
   exact (b k' hk' j' hj').2
theorem BRow.held {m:Nat} {ts:Nat→Bool} (h:BRow B m ow ts w) (k:Nat) (hk:k < m) (z:List Int) :
  ∃ w',(qstore (.pointer (some ⟨B,16*k,none⟩)) (.agg (sixC z))).run Tryz.prog w=.ok () w'∧BRow B m (upd ow k z) ts w'∧Only B w w':=by
 obtain ⟨i,a,l,b⟩:=h
 refine ⟨w.setCells B (16*k) (sixC z).toList,?_,?_,setCells_only B _ _ w⟩
 ·exact run_storeAt_mid w B (16*k) 23 (sixC z) (fun j hj=>by
   have d:j < 8:=hj
   rw[cell_of_row w B (16*k+j) _ _ _ a,(b k hk j d).1]
   refine ⟨rfl,by simp[World.frozen?,a]⟩) (by kernel_rfl) (by unfold sixC;simp[Value.oneCell'])
 ·obtain ⟨f,n,o,g⟩:=setCells_row B 348 (sixC z).toList (16*k) w i a
  have hl:(sixC z).toList.length=8:=rfl
  refine ⟨f,n,o.trans l,fun k' hk' j hj=>⟨?_,?_⟩⟩
  ·rw[g (16*k'+j) (by omega)]
   unfold upd
   by_cases e:k'=k
   ·subst e
    rw[if_pos (by rw[hl];omega),if_pos rfl,show 16*k'+j - 16*k'=j by omega,← sixC_at z j hj]
    simp
   ·rw[if_neg (by rw[hl];omega),if_neg e]
    exact (b k' hk' j hj).1
  ·rw[g (16*k'+8+j) (by omega),if_neg (by rw[hl];omega)]
   exact (b k' hk' j hj).2
theorem BP.setT {BB m:Nat} {ts:Nat→Bool} (h:BP B BB m ow ts w) (k j:Nat) (hk:k < m) (hj:j < 8) (x:Bool):BP B BB m ow (upd ts (8*k+j) x) (w.setCell ⟨BB,16*k+8+j,none⟩ (.bool x)) :=
 ⟨(Below.heap_setCell w ⟨BB,_,none⟩ _ B h.ne).trans h.1,h.2.set k j hk hj x⟩
theorem BP.only {BB m:Nat} {ow':Nat→List Int} {ts:Nat→Bool} {w':World} (h:BP B BB m ow ts w) (on:Only BB w w') (hw:BRow BB m ow' ts w'):BP B BB m ow' ts w':=⟨(on.2.2.2.2 B h.ne).trans h.1,hw⟩
def gv (ow:Nat→List Int) (ts:Nat→Bool) (k:Nat):Nat→List Int:=if nob (sb ts k)=true then upd ow k [] else ow
attribute [local go_sem ↓] qstore_shut
theorem pgive_yes (B BB m:Nat) (ow:Nat→List Int) (ts:Nat→Bool) (k j:Nat) (w:World) (h:BP B BB m ow ts w) (hm:m≤16) (hk:k < m) (hj:j < 8) (ht:ts (8*k+j)=true) :
  Calls Tryz.prog 221 #[.pointer (some ⟨B,0,none⟩),.int .i64 (1024+((8*k+j:Nat):Int))] w fun e w'=>e=.returned .nilIface∧BP B BB m (gv ow (upd ts (8*k+j) false) k) (upd ts (8*k+j) false) w'∧Fr (fun g=>g=BB) w w':=by
 have o:=ki (find_yes B BB m ow ts k j _ h hm hk hj ht)
 obtain ⟨c1,c2⟩:=h.2.bit k hk j hj
 have a:=ki (h.setT k j hk hj false)
 have f:=ki (setCell_fr w BB (16*k+8+j) (.bool false))
 have i:=ki (show gv ow (upd ts (8*k+j) false) k=if nob (sb (upd ts (8*k+j) false) k)=true then upd ow k [] else ow from rfl)
 clear h ht
 have v:(j:Int) < 8:=by omega
 generalize upd ts (8*k+j) false=ts' at a i ⊢
 have q:=ki (nob_any (ow k) (sb ts' k))
 generalize gv ow ts' k=ow' at i ⊢
 generalize 1024+((8*k+j:Nat):Int)=p at o ⊢
 go_enter Tryz.func221,Tryz.ntmps221
 go_upto_region 5 with (go_at_call 263;refine o.o.mono ?_;rintro e w' ⟨rfl,rfl⟩)
 clear c1 c2 o
 generalize w'.setCell _ _=w1 at a f ⊢
 generalize nob (sb ts' k)=b at q i
 cases b
 ·go_wp2_with (first
   | (refine at_brow rfl (.tmp 22) rfl k _ rfl (by omega) hk a.o.2 ?_)
   | (go_at_call 264;refine (q.o _).mono ?_;rintro e s ⟨rfl,d⟩;replace a:=ki (a.o.kept d);replace f:=ki (f.o.trans (Fr.of d));clear d))
  go_ret
  exact ⟨rfl,by rw[i.o];exact a.o,f.o⟩
 ·go_upto_region 6 with (first
   | (refine at_brow rfl (.tmp 22) rfl k _ rfl (by omega) hk a.o.2 ?_)
   | (go_at_call 264;refine (q.o _).mono ?_;rintro e s ⟨rfl,d⟩;replace a:=ki (a.o.kept d);replace f:=ki (f.o.trans (Fr.of d));clear d))
  obtain ⟨t,l,r,n⟩:=a.o.2.held k hk []
  replace r:=ki (a.o.only n r)
  replace f:=ki (f.o.trans (n.fr rfl))
  clear n
  replace l:(qstore (.pointer (some ⟨BB,16*k,none⟩)) (.agg zero6)).run Tryz.prog s=.ok () t:=l
  unfold zero6 at l
  go_wp2
  go_ret
  exact ⟨rfl,by rw[i.o];exact r.o,f.o⟩
end
section
theorem ptake_full (B BB m:Nat) (ow:Nat→List Int) (ts:Nat→Bool) (z:List Int) (w:World) (h:BP B BB m ow ts w) (hm:m≤16) (hz:Ok6 z) (hR:rm ow ts z m=none) :
  Calls Tryz.prog 200 #[.pointer (some ⟨B,0,none⟩),.agg (sixC z)] w fun e w'=>e=.returned (.tuple #[.int .i64 0,err 3])∧Below w.heap.size w w':=by
 have a:=ki (show Kp w B BB m ow ts z (w.alloc (.cells (sixC z) 23)) from ⟨h.kept (al_below _ _),six_new z w,al_below _ _⟩)
 have f:=ki (fun W=>pcheck_ok z W hz)
 have g:=ki (fun W hW=>room_any B BB m ow ts z W hW hm none hR)
 clear h hR hz
 go_enter Tryz.func200,Tryz.ntmps200
 go_upto_region 1 with fail
 generalize w.alloc _=W at a ⊢
 go_wp2_with (first
  | (refine at_load6 rfl (.tmp 3) rfl rfl a.o.2.1 ?_)
  | (go_at_call 70;refine (f.o _).mono ?_;rintro e i ⟨rfl,b⟩;replace a:=ki (a.o.kept b);clear b)
  | (go_at_call 250;refine (g.o _ a.o.1).mono ?_;rintro e k ⟨rfl,d⟩;replace a:=ki (a.o.kept d);clear d;rw[show fi none=(-1:Int) from rfl]))
 go_ret2
 exact ⟨rfl,a.o.2.2⟩
attribute [local go_sem ↓] qstore_shut
theorem ptake_ok (B BB m:Nat) (ow:Nat→List Int) (ts:Nat→Bool) (z:List Int) (k j:Nat) (w:World) (h:BP B BB m ow ts w) (hm:m≤16) (hz:Ok6 z) (hR:rm ow ts z m=some k) (hk:k < m) (hF:fx (sb ts k)=some j) (hj:j < 8) :
  Calls Tryz.prog 200 #[.pointer (some ⟨B,0,none⟩),.agg (sixC z)] w fun e w'=>e=.returned (.tuple #[.int .i64 (1024+((8*k+j:Nat):Int)),.nilIface])∧BP B BB m (upd ow k z) (upd ts (8*k+j) true) w'∧Fr (fun g=>g=BB) w w':=by
 have a:=ki (show Kp w B BB m ow ts z (w.alloc (.cells (sixC z) 23)) from ⟨h.kept (al_below _ _),six_new z w,al_below _ _⟩)
 have o:=ki (fun W=>pcheck_ok z W hz)
 have p:=ki (fun W hW=>room_any B BB m ow ts z W hW hm (some k) hR)
 have HI:=ki (fun W (hW:BP B BB m ow ts W)=>show Calls Tryz.prog 251 #[.slice (some ⟨BB,16*k+8,none⟩) 8 8,.bool false] W fun e w'=>e=.returned (.int .i64 j)∧w'=W by
  have:=index_any BB (16*k+8) (sb ts k) W (fun j hj=>(hW.2.bit k hk j hj).1)
  rw[hF] at this
  exact this)
 have s:k*16=16*k:=by omega
 have v:(k:Int) < (m:Int):=by omega
 have x:(m:Int)≤16:=by omega
 have y:(j:Int) < 8:=by omega
 have A:¬ (k:Int) < 0:=by omega
 clear h hR hz hF
 go_enter Tryz.func200,Tryz.ntmps200
 go_upto_region 1 with fail
 generalize w.alloc _=W at a ⊢
 go_upto_region 7 with (first
  | (refine at_load6 rfl (.tmp 3) rfl rfl a.o.2.1 ?_)
  | (go_at_call 70;refine (o.o _).mono ?_;rintro e C ⟨rfl,d⟩;replace a:=ki (a.o.kept d);clear d)
  | (go_at_call 250;refine (p.o _ a.o.1).mono ?_;rintro e D ⟨rfl,f⟩;replace a:=ki (a.o.kept f);clear f;rw[show fi (some k)=(k:Int) from rfl]))
 have E:=a.o.1.row
 go_upto_region 9 with (go_at_call 251;refine (HI.o _ a.o.1).mono ?_;rintro e F ⟨rfl,rfl⟩)
 obtain ⟨q,t,l,b⟩:=a.o.1.2.held k hk z
 have n:=ki (a.o.1.only b l)
 have i:=ki ((Fr.of (O:=fun g=>g=BB) a.o.2.2).trans (b.fr rfl))
 clear l b
 go_upto_region 10 with (refine at_load6 rfl (.tmp 3) rfl rfl a.o.2.1 ?_)
 obtain ⟨c1,c2⟩:=n.o.2.bit k hk j hj
 have r:=ki (n.o.setT k j hk hj true)
 replace i:=ki (i.o.trans (setCell_fr q BB (16*k+8+j) (.bool true)))
 go_wp2
 go_ret2
 rw[show (1024:Int)+((8*k+j:Nat):Int)=1024+(k:Int)*8+(j:Int) by omega]
 exact ⟨rfl,r.o,i.o⟩
end
section
theorem Kp.grown {w:World} {B BB m:Nat} {ow:Nat→List Int} {ts:Nat→Bool} {z:List Int} {W W':World} (h:Kp w B BB m ow ts z W) (hB:B < w.heap.size) (hBB:BB < w.heap.size) {r:Option Nat} (hg:W.grownBy W' r) (hr:∀ k,r=some k→w.heap.size+1≤k):Kp w B BB m ow ts z W':=by
 have a:∀ g,g≤w.heap.size→some g≠r:=fun g hgl e=>by have:=hr g e.symm;omega
 have hs:=h.2.2.size
 have b:=h.2.1.lt
 exact ⟨⟨(hg.block _ (by omega) (a B (by omega))).trans h.1.1,h.1.2.same (hg.block _ (by omega) (a BB (by omega)))⟩,(hg.block _ b (a _ (Nat.le_refl _))).trans h.2.1,h.2.2.grown hg hs (fun k e=>by have:=hr k e;omega)⟩
attribute [local go_sem ↓] pload_shut
theorem Tryz.infoBlk:(Tryz.prog.info? 348).map (fun i=>(i.zero,i.size,i.bytes))=some (some (.agg (pbC [] (fun _=>false))),16,72):=by kernel_rfl
theorem madeP (b:Nat) (_hb:b≤16):∃ cs:Array Value,(∀ w:World,(mkSl 216 (.int .i64 (b:Int)) (.int .i64 (b:Int))).run Tryz.prog w=.ok (.slice (some ⟨w.heap.size,0,none⟩) b b) (w.alloc (.cells cs 348))) ∧
  cs.size=16*b∧∀ k,k < b→∀ j,j < 8→cs[16*k+j]? = some (.int .i64 (el [] j))∧cs[16*k+8+j]? = some (.bool false):=by
 obtain ⟨g,i,d,e,f⟩:=info_parts Tryz.infoBlk
 refine ⟨madeCells (pbC [] (fun _=>false)) (16*b),fun w=>?_,size_madeCells _ _,fun k hk j hj=>⟨?_,?_⟩⟩
 ·have h:=run_make (P:=Tryz.prog) w 216 348 g _ Tryz.underlying216 i d .i64 .i64 (b:Int) (b:Int) (by omega) (by omega) (by rw[f];omega) (by omega)
  rw[e,show ((b:Int)).toNat=b by omega,show b*16=16*b by omega] at h
  exact h
 ·rw[made_at _ _ _ (by omega)]
  have a:(16*k+j) % (pbC [] (fun _=>false)).size=j:=(by show (16*k+j) % 16=j;omega)
  rw[a]
  rcases (by omega:j=0∨j=1∨j=2∨j=3∨j=4∨j=5∨j=6∨j=7) with rfl|rfl|rfl|rfl|rfl|rfl|rfl|rfl <;> rfl
 ·rw[made_at _ _ _ (by omega)]
  have a:(16*k+8+j) % (pbC [] (fun _=>false)).size=8+j:=(by show (16*k+8+j) % 16=8+j;omega)
  rw[a]
  rcases (by omega:j=0∨j=1∨j=2∨j=3∨j=4∨j=5∨j=6∨j=7) with rfl|rfl|rfl|rfl|rfl|rfl|rfl|rfl <;> rfl
theorem pbtwo_new (w:World) (a b:Obj):((w.alloc a).alloc b).heap[w.heap.size]? = some a∧((w.alloc a).alloc b).heap[w.heap.size+1]? = some b∧Below w.heap.size w ((w.alloc a).alloc b):=by
 have f:(w.alloc a).heap.size=w.heap.size+1:=World.size_alloc _ _
 have g:=al_below w a
 have d:=al_below (w.alloc a) b
 have h:(w.alloc a).heap[w.heap.size]? = some a:=heap_alloc_new w a
 have e:=heap_alloc_new (w.alloc a) b
 rw[f] at e
 exact ⟨by rw[d.block _ (by omega)];exact h,e,bt g d⟩
theorem pnew_bad (b:Int) (w:World) (hb:b < 1∨16 < b) :
  Calls Tryz.prog 76 #[.int .i64 b] w fun e w'=>e=.returned (.tuple #[.pointer none,err 1])∧w'=w:=by
 rcases hb with h1|h1
 ·go_enter Tryz.func76,Tryz.ntmps76
  go_wp2
  go_ret2
  exact ⟨rfl,rfl⟩
 ·have a:¬ b < 1:=by omega
  go_enter Tryz.func76,Tryz.ntmps76
  go_wp2
  go_ret2
  exact ⟨rfl,rfl⟩
attribute [local go_sem ↓] mkSl_shut
theorem pnew_any (b:Nat) (w:World) (h1:1≤b) (hb:b≤16) :
  Calls Tryz.prog 76 #[.int .i64 b] w fun e w'=>∃ B BB,e=.returned (.tuple #[.pointer (some ⟨B,0,none⟩),.nilIface])∧BP B BB b (fun _=>[]) (fun _=>false) w'∧w.heap.size≤B∧w.heap.size≤BB∧Below w.heap.size w w':=by
 obtain ⟨a,k,sc,hc⟩:=madeP b hb
 have d:=ki sc
 have f:=ki hc
 have l:¬ (b:Int) < 1:=by omega
 have n:¬ 16 < (b:Int):=by omega
 clear sc hc
 go_enter Tryz.func76,Tryz.ntmps76
 go_wp2
 go_ret2
 obtain ⟨g,h,i⟩:=pbtwo_new w (.cells a 348) (.cells #[.slice (some ⟨w.heap.size,0,none⟩) b b] 218)
 exact ⟨w.heap.size+1,rfl,w.heap.size,⟨h,a,g,d.o,f.o⟩,by omega,by omega,i⟩
end
end Go.Proofs.YtgcojnlngchllaaGreatDoor
