/- A packet of sixes as a value and in its block; loads and stores of all of it, of its addresses and of its numbers, as equations that a walk takes. Noughts. A packet of sixes stored, held shut. Package ip6: isByte, Check, and bytes.Equal, by contracts. Package ip6: Encode, by contracts. Package ip6: six, by a contract; the document's own SixAt. Bytes at a place; bytes kept where another block has turned. Package ip6: read, by a contract. Packets of sixes in numbers: bytes read as a packet and written again. -/
import Derived.Test.YtgcojnlngchllaaGreatDoorK04
namespace Go.Proofs.YtgcojnlngchllaaGreatDoor
open Go.RowKit
set_option linter.unusedVariables false
set_option maxRecDepth 100000
set_option maxHeartbeats 40000000
namespace V6
variable {h k:Int} {d s:List Int} {B cap:Nat} {a:Option Addr} {w:World}
def pkC (s d:List Int) (h k:Int) (a:Option Addr) (len cap:Nat):Array Value:=#[.int .i64 (el s 0),.int .i64 (el s 1),.int .i64 (el s 2),.int .i64 (el s 3),.int .i64 (el s 4),.int .i64 (el s 5),.int .i64 (el s 6),.int .i64 (el s 7),.int .i64 (el d 0),.int .i64 (el d 1),.int .i64 (el d 2),.int .i64 (el d 3),.int .i64 (el d 4),.int .i64 (el d 5),.int .i64 (el d 6),.int .i64 (el d 7),.int .i64 h,.int .i64 k,.slice a len cap]
def pk (s d:List Int) (h k:Int) (a:Option Addr) (len cap:Nat):Value:=.agg (pkC s d h k a len cap)
def PkIn (B:Nat) (s d:List Int) (h k:Int) (a:Option Addr) (len cap:Nat) (w:World):Prop:=w.heap[B]? = some (.cells (pkC s d h k a len cap) 83 (0,0))
theorem PkIn.lt {len:Nat} (p:PkIn B s d h k a len cap w):B < w.heap.size:=(Array.getElem?_eq_some_iff.1 p).1
theorem PkIn.kept {len:Nat} {w':World} (p:PkIn B s d h k a len cap w) (hb:Below w.heap.size w w'):PkIn B s d h k a len cap w':=(hb.block B p.lt).trans p
theorem PkIn.other {len:Nat} (p:PkIn B s d h k a len cap w) (q:Addr) (hq:B≠q.block) (v:Value):PkIn B s d h k a len cap (w.setCell q v):=(Below.heap_setCell w q v B hq).trans p
theorem PkIn.grown {len:Nat} {w':World} (p:PkIn B s d h k a len cap w) {r:Option Nat} (hg:w.grownBy w' r) (hr:some B≠r):PkIn B s d h k a len cap w':=(hg.block _ p.lt hr).trans p
theorem pk_new (w:World) (s d:List Int) (h k:Int) (a:Option Addr) (len cap:Nat):PkIn w.heap.size s d h k a len cap (w.alloc (.cells (pkC s d h k a len cap) 83)):=heap_alloc_new w _
theorem PkIn.cellAt {len:Nat} (p:PkIn B s d h k a len cap w) (j:Nat):w.cell? ⟨B,j,none⟩=(pkC s d h k a len cap)[j]?:=cell_of_row w B j _ _ _ p
theorem PkIn.load {len:Nat} (p:PkIn B s d h k a len cap w):(loadCellsFrom ⟨B,0,none⟩ 0 19 #[]).run Tryz.prog w=.ok (pkC s d h k a len cap) w :=
 run_loadCells_list (P:=Tryz.prog) w ⟨B,0,none⟩ (pkC s d h k a len cap).toList (fun j v hv=>by
  rw[add_at,Nat.zero_add,p.cellAt]
  simpa using hv)
theorem PkIn.dst {len:Nat} (p:PkIn B s d h k a len cap w):(loadCellsFrom ⟨B,8,none⟩ 0 8 #[]).run Tryz.prog w=.ok (sixC d) w :=
 run_loadCells_list (P:=Tryz.prog) w ⟨B,8,none⟩ (sixC d).toList (fun j v hv=>by
  rw[add_at,p.cellAt]
  have hj:j < 8:=(List.getElem?_eq_some_iff.1 hv).1
  rcases (by omega:j=0∨j=1∨j=2∨j=3∨j=4∨j=5∨j=6∨j=7) with rfl|rfl|rfl|rfl|rfl|rfl|rfl|rfl <;> exact hv)
theorem PkIn.hop {len:Nat} (p:PkIn B s d h k a len cap w):w.cell? ⟨B,16,none⟩=some (.int .i64 h):=p.cellAt 16
theorem PkIn.kind {len:Nat} (p:PkIn B s d h k a len cap w):w.cell? ⟨B,17,none⟩=some (.int .i64 k):=p.cellAt 17
theorem PkIn.body {len:Nat} (p:PkIn B s d h k a len cap w):w.cell? ⟨B,18,none⟩=some (.slice a len cap):=p.cellAt 18
theorem PkIn.store {s0 d0:List Int} {h0 k0:Int} {a0:Option Addr} {len0 cap0:Nat} (p:PkIn B s0 d0 h0 k0 a0 len0 cap0 w) (s d:List Int) (h k:Int) (a:Option Addr) (len cap:Nat):(storeCells ⟨B,0,none⟩ (pkC s d h k a len cap).toList 0).run Tryz.prog w=.ok () (w.setRow B (pkC s d h k a len cap)):=by
 have:=run_storeVar_row (P:=Tryz.prog) w B 83 83 _ (pkC s d h k a len cap) p (by kernel_rfl) rfl (by unfold pkC;simp[Value.oneCell'])
 have b:(Tryz.prog.info? 83).map (·.size)=some 19:=by kernel_rfl
 cases hq:Tryz.prog.info? 83 with
 | none=>rw[hq] at b;cases b
 | some i =>
  have hs:(pkC s d h k a len cap).size=i.size:=by rw[hq] at b;simp at b;rw[b];rfl
  simpa [storeVar,sizeOf,typeInfo,hq,Value.cells,hs] using this
theorem PkIn.stored {s0 d0:List Int} {h0 k0:Int} {a0:Option Addr} {len0 cap0:Nat} (p:PkIn B s0 d0 h0 k0 a0 len0 cap0 w) (s d:List Int) (h k:Int) (a:Option Addr) (len cap:Nat):PkIn B s d h k a len cap (w.setRow B (pkC s d h k a len cap)):=setRow_heap w B _ _ _ (0,0) p
theorem at_load {ops:Array Oper} {rest:List Oper} {o:Oper} {f:Act} {Q:Exit→Act→World→Prop} (hgd:o.guard=none) (x:Operand) (ho:o.op=.load 83 x)
  {B:Nat} {s d:List Int} {h k:Int} {a:Option Addr} {len cap:Nat} (hx:f.eval x=.pointer (some ⟨B,0,none⟩)) (p:PkIn B s d h k a len cap w)
  (hK:wpList Tryz.prog ops Q rest (f.put o.dst (.agg (pkC s d h k a len cap))) w):wpList Tryz.prog ops Q (o::rest) f w :=
 wpList_load_row hgd 83 x ho B hx 83 _ (0,0) _ p Tryz.underlying83 rfl (by kernel_rfl) hK
theorem at_src {ops:Array Oper} {rest:List Oper} {o:Oper} {f:Act} {Q:Exit→Act→World→Prop} (hgd:o.guard=none) (x:Operand) (ho:o.op=.load 23 x)
  {B:Nat} {s d:List Int} {h k:Int} {a:Option Addr} {len cap:Nat} (hx:f.eval x=.pointer (some ⟨B,0,none⟩)) (p:PkIn B s d h k a len cap w)
  (hK:wpList Tryz.prog ops Q rest (f.put o.dst (.agg (sixC s))) w):wpList Tryz.prog ops Q (o::rest) f w :=
 wpList_load_mid hgd 23 x ho B 0 hx (sixC s).toList _ (fun j v hv=>by
  rw[Nat.zero_add,p.cellAt]
  have hj:j < 8:=(List.getElem?_eq_some_iff.1 hv).1
  rcases (by omega:j=0∨j=1∨j=2∨j=3∨j=4∨j=5∨j=6∨j=7) with rfl|rfl|rfl|rfl|rfl|rfl|rfl|rfl <;> exact hv) Tryz.underlying23 rfl (by kernel_rfl) hK
theorem at_dst {ops:Array Oper} {rest:List Oper} {o:Oper} {f:Act} {Q:Exit→Act→World→Prop} (hgd:o.guard=none) (x:Operand) (ho:o.op=.load 23 x)
  {B:Nat} {s d:List Int} {h k:Int} {a:Option Addr} {len cap:Nat} (hx:f.eval x=.pointer (some ⟨B,8,none⟩)) (p:PkIn B s d h k a len cap w)
  (hK:wpList Tryz.prog ops Q rest (f.put o.dst (.agg (sixC d))) w):wpList Tryz.prog ops Q (o::rest) f w :=
 wpList_load_mid hgd 23 x ho B 8 hx (sixC d).toList _ (fun j v hv=>by
  rw[p.cellAt]
  have hj:j < 8:=(List.getElem?_eq_some_iff.1 hv).1
  rcases (by omega:j=0∨j=1∨j=2∨j=3∨j=4∨j=5∨j=6∨j=7) with rfl|rfl|rfl|rfl|rfl|rfl|rfl|rfl <;> exact hv) Tryz.underlying23 rfl (by kernel_rfl) hK
theorem at_store {ops:Array Oper} {rest:List Oper} {o:Oper} {f:Act} {Q:Exit→Act→World→Prop} (hgd:o.guard=none) (x y:Operand) (ho:o.op=.store 83 x y)
  {B:Nat} {s0 d0:List Int} {h0 k0:Int} {a0:Option Addr} {len0 cap0:Nat} (hx:f.eval x=.pointer (some ⟨B,0,none⟩)) (p:PkIn B s0 d0 h0 k0 a0 len0 cap0 w)
  (s d:List Int) (h k:Int) (a:Option Addr) (len cap:Nat) (hy:f.eval y=.agg (pkC s d h k a len cap))
  (hK:∀ w',PkIn B s d h k a len cap w'→Only B w w'→wpList Tryz.prog ops Q rest (f.put o.dst undef) w'):wpList Tryz.prog ops Q (o::rest) f w :=
 wpList_store_row hgd 83 x y ho B _ hx hy 83 _ p (by kernel_rfl) rfl (by unfold pkC;simp[Value.oneCell']) (hK _ (p.stored s d h k a len cap) (only_setRow _ _ _))
theorem results_pk {fn:Func} {p u:Tmp} (h:fn.results=#[.cell p 83,.tmp u]) (tmps:Array Value) (w:World) (B:Nat) (s d:List Int) (hp k:Int) (a:Option Addr) (len cap:Nat)
  (ht:tmps.getD p undef=.pointer (some ⟨B,0,none⟩)) (hg:PkIn B s d hp k a len cap w) :
  (results fn tmps).run Tryz.prog w=.ok (.tuple #[pk s d hp k a len cap,tmps.getD u undef]) w:=by
 rw[results_cell_tmp h,ht]
 have hl:=run_loadVar_row (P:=Tryz.prog) w B 83 83 _ (0,0) _ hg Tryz.underlying83 rfl (by kernel_rfl)
 simp[asAddr,hl,pk]
end V6
namespace V6
def zero6:Array Value:=#[.int .i64 0,.int .i64 0,.int .i64 0,.int .i64 0,.int .i64 0,.int .i64 0,.int .i64 0,.int .i64 0,.int .i64 0,.int .i64 0,.int .i64 0,.int .i64 0,.int .i64 0,.int .i64 0,.int .i64 0,.int .i64 0,.int .i64 0,.int .i64 0,.slice none 0 0]
theorem zero_new (w:World):PkIn w.heap.size [] [] 0 0 none 0 0 (w.alloc (.cells zero6 83)):=pk_new w [] [] 0 0 none 0 0
end V6
namespace V6
theorem pk_result {fn:Func} {p:Tmp} (h:fn.results=#[.cell p 83]) (tmps:Array Value) (w:World) (B:Nat) (s d:List Int) (hp k:Int) (a:Option Addr) (len cap:Nat)
  (ht:tmps.getD p undef=.pointer (some ⟨B,0,none⟩)) (hg:PkIn B s d hp k a len cap w):(results fn tmps).run Tryz.prog w=.ok (.agg (pkC s d hp k a len cap)) w :=
 results_cell_row h tmps w B 83 _ (0,0) _ ht hg Tryz.underlying83 rfl (by kernel_rfl)
def hstore (x y:Value):Sem Unit:=Instr.storeAt 83 x y
theorem hstore_shut (x y:Value):Instr.storeAt 83 x y=hstore x y:=rfl
theorem PkIn.held {B:Nat} {s0 d0:List Int} {h0 k0:Int} {a0:Option Addr} {len0 cap0:Nat} {w:World} (p:PkIn B s0 d0 h0 k0 a0 len0 cap0 w) (s d:List Int) (h k:Int) (a:Option Addr) (len cap:Nat) :
  ∃ w',(hstore (.pointer (some ⟨B,0,none⟩)) (.agg (pkC s d h k a len cap))).run Tryz.prog w=.ok () w'∧PkIn B s d h k a len cap w'∧Only B w w':=by
 refine ⟨w.setRow B (pkC s d h k a len cap),?_,p.stored s d h k a len cap,only_setRow _ _ _⟩
 unfold hstore
 simp only[Instr.storeAt,Instr.sureAddr,Sem.run_bind,Sem.run_pure,Result.andThen_ok]
 exact run_storeVar_row w B 83 83 _ (pkC s d h k a len cap) p (by kernel_rfl) rfl (by unfold pkC;simp[Value.oneCell'])
end V6
namespace V6
theorem isbyte_any (n:Int) (w:World):Calls Tryz.prog 262 #[.int .i64 n] w fun e w'=>e=.returned (.bool (up 255 n))∧w'=w:=by
 by_cases h0:0≤n
 ·by_cases h1:n≤255
  ·rw[show up 255 n=true from decide_eq_true ⟨h0,h1⟩]
   go_enter Tryz.func262,Tryz.ntmps262
   go_wp2
   go_ret
   exact ⟨rfl,rfl⟩
  ·rw[show up 255 n=false from decide_eq_false (fun h=>h1 h.2)]
   go_enter Tryz.func262,Tryz.ntmps262
   go_wp2
   go_ret
   exact ⟨rfl,rfl⟩
 ·rw[show up 255 n=false from decide_eq_false (fun h=>h0 h.1)]
  go_enter Tryz.func262,Tryz.ntmps262
  go_wp2
  go_ret
  exact ⟨rfl,rfl⟩
def c6v (b:Bool):Value:=if b then .nilIface else .iface 28 (.int .i64 1)
def ok6 (z:List Int):Bool:=up 65535 (el z 0) && up 65535 (el z 1) && up 65535 (el z 2) && up 65535 (el z 3) && up 65535 (el z 4) && up 65535 (el z 5) && up 65535 (el z 6) && up 65535 (el z 7)
theorem ok6_iff (z:List Int):ok6 z=true↔Ok6 z:=by
 unfold ok6
 simp only[Bool.and_eq_true]
 refine ⟨fun ⟨⟨⟨⟨⟨⟨⟨h0,h1⟩,h2⟩,h3⟩,h4⟩,h5⟩,h6⟩,h7⟩ j hj=>?_,fun h=>?_⟩
 ·rcases (by omega:j=0∨j=1∨j=2∨j=3∨j=4∨j=5∨j=6∨j=7) with rfl|rfl|rfl|rfl|rfl|rfl|rfl|rfl <;> exact up_true (by assumption)
 ·exact ⟨⟨⟨⟨⟨⟨⟨decide_eq_true (h 0 (by omega)),decide_eq_true (h 1 (by omega))⟩,decide_eq_true (h 2 (by omega))⟩,decide_eq_true (h 3 (by omega))⟩,decide_eq_true (h 4 (by omega))⟩,decide_eq_true (h 5 (by omega))⟩,decide_eq_true (h 6 (by omega))⟩,decide_eq_true (h 7 (by omega))⟩
theorem acheck_any (z:List Int) (w:World):Calls Tryz.prog 70 #[.agg (sixC z)] w fun e w'=>e=.returned (c6v (ok6 z))∧Below w.heap.size w w':=by
 refine (check_any z w).mono ?_
 rintro e w' ⟨hh,rfl⟩
 refine ⟨?_,al_below _ _⟩
 rcases hh with ⟨h,rfl⟩|⟨h,rfl⟩
 ·rw[(ok6_iff z).2 h];rfl
 ·rw[show ok6 z=false from Bool.eq_false_iff.2 (fun h'=>h ((ok6_iff z).1 h'))];rfl
def Okp (s d:List Int) (h k:Int):Prop:=Ok6 s∧Ok6 d∧(0≤h∧h≤255)∧(0≤k∧k≤255)
theorem chk_ok (s d:List Int) (h k:Int) (a:Option Addr) (len cap:Nat) (w:World) (ho:Okp s d h k) (hl:len≤320) :
  Calls Tryz.prog 220 #[pk s d h k a len cap] w fun e w'=>e=.returned .nilIface∧Below w.heap.size w w':=by
 obtain ⟨hs,hd,hh,l⟩:=ho
 have es:c6v (ok6 s)=.nilIface:=by rw[(ok6_iff s).2 hs];rfl
 have n:c6v (ok6 d)=.nilIface:=by rw[(ok6_iff d).2 hd];rfl
 replace hh:up 255 h=true:=decide_eq_true hh
 replace l:up 255 k=true:=decide_eq_true l
 clear hs hd
 have f:=ki (al_below w (.cells (pkC s d h k a len cap) 83))
 have b:=ki (pk_new w s d h k a len cap)
 unfold pk
 go_enter Tryz.func220,Tryz.ntmps220
 go_upto_region 1 with fail
 generalize w.alloc (.cells (pkC s d h k a len cap) 83)=W at f b ⊢
 go_upto_region 4 with (first
  | (refine at_src rfl (.tmp 5) rfl rfl b.o ?_)
  | (go_at_call 70;with_reducible refine (acheck_any _ _).mono ?_;rintro e o ⟨rfl,g⟩;replace f:=ki (bt f.o g);replace b:=ki (b.o.kept g);clear g))
 go_upto_region 7 with (first
  | (refine at_dst rfl (.tmp 11) rfl rfl b.o ?_)
  | (go_at_call 70;with_reducible refine (acheck_any _ _).mono ?_;rintro e p ⟨rfl,i⟩;replace f:=ki (bt f.o i);replace b:=ki (b.o.kept i);clear i))
 have q:=b.o.hop
 have r:=b.o.kind
 have t:=b.o.body
 go_wp2_with (go_at_call 262;refine (isbyte_any _ _).mono ?_;rintro e w' ⟨rfl,rfl⟩)
 go_ret
 exact ⟨rfl,f.o⟩
end V6
namespace V6
def Gr (W0 w:World) (v:Value) (zs:List Int):Prop:=Own W0.heap.size w v zs∧Below W0.heap.size W0 w
theorem Gr.below {W0 w w':World} {v:Value} {zs:List Int} (h:Gr W0 w v zs) (hb:Below w.heap.size w w'):Gr W0 w' v zs:=⟨h.1.kept hb,h.2.trans (hb.mono h.2.size)⟩
theorem Gr.nil (w:World):Gr w w (.slice none 0 0) []:=⟨Own.nil _ _,Below.refl _ _⟩
theorem gr_make (w:World) {ops:Array Oper} {rest:List Oper} {o:Oper} {a:Act} {Q:Exit→Act→World→Prop} (hg:o.guard=none) (l c:Operand) (hop:o.op=Op.makeSlice 37 l c)
  (C:Int) (n:Nat) (hl:a.eval l=.int .i64 0) (hc:a.eval c=.int .i64 C) (hC:C=(n:Int)) (b2:n≤1000000000)
  (hK:∀ b w',Gr w w' (.slice (some ⟨b,0,none⟩) 0 n) []→wpList Tryz.prog ops Q rest (a.put o.dst (.slice (some ⟨b,0,none⟩) 0 n)) w'):wpList Tryz.prog ops Q (o::rest) a w:=by
 obtain ⟨g,i,d,e,f⟩:=info_parts Tryz.infoByte
 refine wpList_make_own w hg l c 37 hop w.heap.size 5 g _ 1 Tryz.underlying37 i d e .i64 .i64 C n hl hc hC (by rw[f];omega) (by unfold maxLen;omega) (Nat.le_refl _) ?_
 intro w' p q
 exact hK _ w' ⟨⟨SM.oct_nil,p⟩,(Below.refl _ _).grown q (Nat.le_refl _) (fun k h=>by cases h)⟩
theorem gr_app {w:World} {ops:Array Oper} {rest:List Oper} {o:Oper} {a:Act} {Q:Exit→Act→World→Prop} (hgd:o.guard=none) (s x:Operand)
  (ho:o.op=.call { callee:=.builtin .append,args:=#[s,x],argTypes:=#[37,37] })
  {W0:World} {v:Value} {zs:List Int} (hs:a.eval s=v) (hg:Gr W0 w v zs) {ao:Option Addr} {len cap:Nat} {ys:List Int}
  (hx:a.eval x=.slice ao len cap) (hrow:Row8 w ao len cap ys) (hlen:zs.length+len≤1000000000)
  (h:∀ v' w',Gr W0 w' v' (zs++ys)→wpList Tryz.prog ops Q rest (a.put o.dst v') w'):wpList Tryz.prog ops Q (o::rest) a w :=
 wpList_app hgd s x ho W0.heap.size v zs hs hg.1 ao len cap ys hx hrow hlen hg.2.size (fun v' w' h1 h2=>h v' w' ⟨h1,hg.2.grown h2 hg.2.size (fun k e=>(hg.1.2.lt k e).1)⟩)
theorem oct_by16 (z:List Int) (h:Ok6 z) (n:Nat) (hn:n≤8):SM.Oct (by16 z n):=by
 induction n with
 | zero=>exact SM.oct_nil
 | succ n ih =>
  rw[by16_succ]
  refine SM.oct_append _ _ (ih (by omega)) ?_
  obtain ⟨a,b⟩:=h n (by omega)
  intro k
  match k with
  | 0=>show 0≤el z n / 256∧el z n / 256≤255;omega
  | 1=>show 0≤el z n % 256∧el z n % 256≤255;omega
  | k+2=>simp
theorem abytes_ok (z:List Int) (w:World) (hz:Ok6 z):Calls Tryz.prog 126 #[.agg (sixC z)] w fun e w'=>∃ a c,e=.returned (.tuple #[.slice a 16 c,.nilIface])∧Row8 w' a 16 c (by16 z 8)∧Below w.heap.size w w':=by
 refine (bytes_ok z w hz).mono ?_
 rintro e w' ⟨v,rfl,b,hb⟩
 have d:Own w.heap.size w' v (by16 z 8):=⟨oct_by16 z hz 8 (by omega),by
  unfold OwnG u8s at b
  rw[List.length_map] at b
  exact b⟩
 obtain ⟨a,c,rfl,f,_⟩:=d.row8
 rw[by16_len] at f
 exact ⟨a,c,by rw[by16_len],f,hb⟩
def h8 (n k h:Int):List Int:=[96,0,0,0,n / 256,n % 256,k,h]
def bys (s d:List Int) (h k:Int) (body:List Int):List Int:=((h8 body.length k h++by16 s 8)++by16 d 8)++body
theorem bys_len (s d:List Int) (h k:Int) (body:List Int):(bys s d h k body).length=40+body.length:=by
 unfold bys
 rw[List.length_append,List.length_append,List.length_append,by16_len,by16_len]
 show 8+_+_+_=_
 omega
theorem h8_oct (n k h:Int) (hn:0≤n∧n≤320) (hk:0≤k∧k≤255) (hh:0≤h∧h≤255):SM.Oct (h8 n k h):=by
 intro j
 unfold h8
 match j with
 | 0=>simp
 | 1=>simp
 | 2=>simp
 | 3=>simp
 | 4=>simp;omega
 | 5=>simp;omega
 | 6=>simpa using hk
 | 7=>simpa using hh
 | j+8=>simp
theorem row_h8 (w:World) (n k h:Int) (ho:SM.Oct (h8 n k h)):Row8 (w.alloc (.cells #[.int .u8 96,.int .u8 0,.int .u8 0,.int .u8 0,.int .u8 (n / 256),.int .u8 (n % 256),.int .u8 k,.int .u8 h] 5)) (some ⟨w.heap.size,0,none⟩) 8 8 (h8 n k h) :=
 (show Blk w.heap.size (h8 n k h) (w.alloc (.cells #[.int .u8 96,.int .u8 0,.int .u8 0,.int .u8 0,.int .u8 (n / 256),.int .u8 (n % 256),.int .u8 k,.int .u8 h] 5)) from blk_new w (h8 n k h)).row8 ho 8 8 rfl (by decide)
theorem encode_ok (s d:List Int) (h k:Int) (a:Option Addr) (len cap:Nat) (body:List Int) (w:World) (ho:Okp s d h k) (hl:len≤320) (hr:Row8 w a len cap body) :
  Calls Tryz.prog 155 #[pk s d h k a len cap] w fun e w'=>∃ v,e=.returned (.tuple #[v,.nilIface])∧Own w.heap.size w' v (bys s d h k body)∧Below w.heap.size w w':=by
 have f:=ki (al_below w (.cells (pkC s d h k a len cap) 83))
 have b:=ki (pk_new w s d h k a len cap)
 have C:=ki (fun w=>chk_ok s d h k a len cap w ho hl)
 have E:=ki (fun w=>abytes_ok s w ho.1)
 have F:=ki (fun w=>abytes_ok d w ho.2.1)
 have G:=hr.1
 have I:=ki (h8_oct len k h (by omega) ho.2.2.2 ho.2.2.1)
 have r:=ki (show bys s d h k body=((h8 len k h++by16 s 8)++by16 d 8)++body by unfold bys;rw[G])
 obtain ⟨-,-,⟨O,P⟩,⟨Q,R⟩⟩:=ho
 have t:=ki (by16_len s 8)
 have A:=ki (by16_len d 8)
 generalize by16 s 8=S at E r t
 generalize by16 d 8=D at F r A
 have J:=ki hr
 unfold pk at C ⊢
 clear hr
 go_enter Tryz.func155,Tryz.ntmps155
 go_upto_region 1 with fail
 generalize w.alloc (.cells (pkC s d h k a len cap) 83)=W at f b ⊢
 go_upto_region 4 with (first
  | (refine at_load rfl (.tmp 1) rfl rfl b.o ?_)
  | (go_at_call 220;refine (C.o _).mono ?_;rintro e T ⟨rfl,x⟩;replace f:=ki (bt f.o x);replace b:=ki (b.o.kept x);clear x))
 go_upto_region 7 with (first
  | (refine at_src rfl (.tmp 16) rfl rfl b.o ?_)
  | (go_at_call 126;with_reducible refine (E.o _).mono ?_;rintro e U ⟨V,c2,rfl,g,y⟩;replace f:=ki (bt f.o y);replace b:=ki (b.o.kept y);replace g:=ki g;clear y))
 go_upto_region 10 with (first
  | (refine at_dst rfl (.tmp 25) rfl rfl b.o ?_)
  | (go_at_call 126;with_reducible refine (F.o _).mono ?_;rintro e X ⟨Y,c3,rfl,z,n⟩;replace f:=ki (bt f.o n);replace b:=ki (b.o.kept n);replace g:=ki (g.o.below n);replace z:=ki z;clear n))
 have H:=b.o.body
 go_upto_region 12 with (refine gr_make _ rfl (.const (.int .i64 0)) (.tmp 37) rfl (40+(len:Int)) (40+len) rfl rfl (by omega) (by omega) ?_;intro b4 K i;replace i:=ki i;clear H)
 have B:=ki (b.o.kept i.o.2)
 have L:=B.o.hop
 have M:=B.o.kind
 clear C E F
 go_upto_region 13 with (at_builtin;refine gr_app rfl (.tmp 39) (.tmp 51) rfl rfl (i.o.below (al_below _ _)) rfl (row_h8 K len k h I.o) (by simp) ?_;intro Z w5 o;replace o:=ki o;clear i L M)
 go_upto_region 14 with (at_builtin;refine gr_app rfl (.tmp 53) (.tmp 54) rfl rfl o.o rfl (g.o.below o.o.2) (by simp[h8]) ?_;intro v6 w6 p;replace p:=ki p)
 go_upto_region 15 with (at_builtin;refine gr_app rfl (.tmp 56) (.tmp 57) rfl rfl p.o rfl (z.o.below p.o.2) (by simp[h8,t.o]) ?_;intro v7 w7 l;replace l:=ki l)
 have H:=(b.o.kept l.o.2).body
 go_wp2_with (at_builtin;refine gr_app rfl (.tmp 59) (.tmp 61) rfl rfl l.o rfl ((J.o.below f.o).below l.o.2) (by simp[h8,t.o,A.o];omega) ?_;intro N w8 q;replace q:=ki q)
 go_ret2
 exact ⟨N,rfl,r.o ▸ q.o.1.mono f.o.size,f.o.trans (q.o.2.mono f.o.size)⟩
end V6
section
variable {B:Nat} {w:World}
attribute [local go_sem ↓] Go.wp_at_zero Go.wp_at_succ
def mix (z z':List Int) (k:Nat):List Int:=(List.range 8).map fun j=>if j < k then el z j else el z' j
theorem el_mix (z z':List Int) (k j:Nat) (hj:j < 8):el (mix z z' k) j=if j < k then el z j else el z' j:=by
 simp[el,mix,List.getD,hj]
theorem SixIn.cput1 {z z':List Int} (k:Nat) (hk:k < 8) (h:SixIn B (mix z z' k) w):SixIn B (mix z z' (k+1)) (w.setCell ⟨B,k,none⟩ (.int .i64 (el z k))) :=
 h.set k hk (el z k) (mix z z' (k+1)) (fun j hj=>by
  rw[el_mix z z' (k+1) j hj,el_mix z z' k j hj]
  by_cases e:j=k
  ·subst e;rw[if_pos (by omega),if_pos rfl]
  ·rw[if_neg e]
   by_cases h:j < k
   ·rw[if_pos (by omega),if_pos h]
   ·rw[if_neg (by omega),if_neg h])
theorem sixC_congr {z z':List Int} (h:∀ j,j < 8→el z j=el z' j):sixC z=sixC z':=by
 unfold sixC
 rw[h 0 (by omega),h 1 (by omega),h 2 (by omega),h 3 (by omega),h 4 (by omega),h 5 (by omega),h 6 (by omega),h 7 (by omega)]
theorem SixIn.mix0 {Z:List Int} (h:SixIn B [] w):SixIn B (mix Z [] 0) w:=by
 unfold SixIn at h ⊢
 rw[sixC_congr (fun j hj=>by rw[el_mix Z [] 0 j hj,if_neg (by omega)]:∀ j,j < 8→el (mix Z [] 0) j=el [] j)]
 exact h
theorem SixIn.mix8 {Z:List Int} (h:SixIn B (mix Z [] 8) w):SixIn B Z w:=by
 unfold SixIn at h ⊢
 rw[sixC_congr (fun j hj=>by rw[el_mix Z [] 8 j hj,if_pos (by omega)]:∀ j,j < 8→el (mix Z [] 8) j=el Z j)] at h
 exact h
theorem cat_store6 {ops:Array Oper} {rest:List Oper} {o:Oper} {f:Act} {Q:Exit→Act→World→Prop} (hgd:o.guard=none) (x y:Operand) (ho:o.op=.store 23 x y)
  {B:Nat} {z0:List Int} (hx:f.eval x=.pointer (some ⟨B,0,none⟩)) (p:SixIn B z0 w) {z:List Int} (hy:f.eval y=.agg (sixC z))
  (hK:∀ w',SixIn B z w'→Only B w w'→wpList Tryz.prog ops Q rest (f.put o.dst undef) w'):wpList Tryz.prog ops Q (o::rest) f w :=
 wpList_store_row hgd 23 x y ho B _ hx hy 23 _ p (by kernel_rfl) rfl (by unfold sixC;simp[Value.oneCell']) (hK _ (setRow_heap w B _ _ _ (0,0) p) (only_setRow _ _ _))
def adr (zs:List Int) (o:Nat):List Int:=(List.range 8).map fun j=>zs.getD (o+2*j) 0*256+zs.getD (o+(2*j+1)) 0
theorem el_adr (zs:List Int) (o k:Nat) (hk:k < 8):el (adr zs o) k=zs.getD (o+2*k) 0*256+zs.getD (o+(2*k+1)) 0:=by
 simp[el,adr,List.getD,hk]
def nn (w:World):World:=(w.alloc (.cells #[.int .i64 0,.int .i64 0,.int .i64 0,.int .i64 0,.int .i64 0,.int .i64 0,.int .i64 0,.int .i64 0] 23)).alloc (.cells #[.int .i64 0,.int .i64 0,.int .i64 0,.int .i64 0,.int .i64 0,.int .i64 0,.int .i64 0,.int .i64 0] 23)
theorem nn_facts (w:World) (Z:List Int):Below w.heap.size w (nn w)∧SixIn w.heap.size [] (nn w)∧SixIn (w.heap.size+1) (mix Z [] 0) (nn w):=by
 refine ⟨((Below.refl _ _).alloc (Nat.le_refl _) _).alloc (by simp) _,(noughts_in w).kept ((Below.refl _ _).alloc (Nat.le_refl _) _),?_⟩
 have:=noughts_in (w.alloc (.cells #[.int .i64 0,.int .i64 0,.int .i64 0,.int .i64 0,.int .i64 0,.int .i64 0,.int .i64 0,.int .i64 0] 23))
 unfold noughts at this
 simp only[World.size_alloc] at this
 exact this.mix0
theorem six_result {fn:Func} {p:Tmp} (h:fn.results=#[.cell p 23]) (tmps:Array Value) (w:World) (B:Nat) (z:List Int) (ht:tmps.getD p undef=.pointer (some ⟨B,0,none⟩)) (hg:SixIn B z w):(results fn tmps).run Tryz.prog w=.ok (.agg (sixC z)) w :=
 results_cell_row h tmps w B 23 _ (0,0) _ ht hg Tryz.underlying23 rfl (by kernel_rfl)
theorem csix_any (g off cap:Nat) (zs:List Int) (w:World) (hr:Row8 w (some ⟨g,off,none⟩) 16 cap zs) :
  Calls Tryz.prog 243 #[.slice (some ⟨g,off,none⟩) 16 cap] w fun e w'=>e=.returned (.agg (sixC (adr zs 0)))∧Below w.heap.size w w':=by
 have h:=ki (el_adr zs 0)
 obtain ⟨i,l,f⟩:=nn_facts w (adr zs 0)
 unfold nn at i l f
 have d:=hr.2.2.1
 have v:=ki hr
 have O:g < w.heap.size:=by
  obtain ⟨-,-,-,-,n⟩:=hr
  obtain ⟨b,o,e,a⟩:=n (by omega)
  cases e
  exact World.block_lt_of_cell? w _ (a 0 (by omega))
 have P:w.heap.size+1≠g:=by omega
 have L:g≠w.heap.size+1:=by omega
 clear hr
 generalize adr zs 0=Z at h f ⊢
 go_enter Tryz.func243,Tryz.ntmps243
 go_wp2
 generalize (w.alloc (.cells #[.int .i64 0,.int .i64 0,.int .i64 0,.int .i64 0,.int .i64 0,.int .i64 0,.int .i64 0,.int .i64 0] 23)).alloc (.cells #[.int .i64 0,.int .i64 0,.int .i64 0,.int .i64 0,.int .i64 0,.int .i64 0,.int .i64 0,.int .i64 0] 23)=W at i l f ⊢
 go_loopw [4,5] (fun _ t wr=>∃ k:Nat,k≤8∧t=.int .i64 k∧Hid (SixIn (w.heap.size+1) (mix Z [] k) wr)∧Hid (SixIn w.heap.size [] wr)∧Hid (Below w.heap.size w wr)) (fun _ t _=>8 - (intOf t).toNat)
 case atStart=>exact ⟨0,by omega,rfl,f,l,i⟩
 case round =>
  obtain ⟨k,Q,rfl,s,E,A⟩:=hrel
  clear f l i
  by_cases hlt:k < 8
  ·have F:=v.o.below A.o
   obtain ⟨-,-,-,-,n⟩:=F
   obtain ⟨b,o,e,a⟩:=n (by omega)
   cases e
   have c1:=a (2*k) (by omega)
   have c2:=a (2*k+1) (by omega)
   clear n a
   have M:=(s.o.facts k hlt).1
   have R:=(s.o.facts k hlt).2.1
   have r:=ki (s.o.cput1 k hlt)
   rw[h.o k hlt,Nat.zero_add,Nat.zero_add] at r
   obtain ⟨B,G⟩:=d (2*k)
   obtain ⟨C,H⟩:=d (2*k+1)
   clear d
   generalize zs.getD (2*k) 0=x at c1 B G r
   generalize zs.getD (2*k+1) 0=y at c2 C H r
   generalize el (mix Z [] k) k=q at M
   have I:=ki (E.o.other ⟨w.heap.size+1,k,none⟩ (by simp) (.int .i64 (x*256+y)))
   have J:=ki ((A.o.setCell (p:=⟨w.heap.size+1,k,none⟩) (Nat.le_succ _) (.int .i64 (x*256+y))).drew)
   have S:IntKind.i64.wrap x=x:=by rw[IntKind.wrap_i64];omega
   have T:IntKind.i64.wrap y=y:=by rw[IntKind.wrap_i64];omega
   have U:IntKind.i64.wrap (x*256)=x*256:=by rw[IntKind.wrap_i64];omega
   have V:=or_lo x y B (by omega) C (by omega)
   have X:(0:Int)≤(k:Int):=by omega
   have Y:(k:Int) < 8:=by omega
   have i2:(2:Int)*(k:Int) < 16:=by omega
   have i3:(2:Int)*(k:Int)+1 < 16:=by omega
   have g2:IntKind.i64.wrap (2*(k:Int))=2*(k:Int):=by rw[IntKind.wrap_i64];omega
   have g3:IntKind.i64.wrap (2*(k:Int)+1)=2*(k:Int)+1:=by rw[IntKind.wrap_i64];omega
   have g4:(2*(k:Int)).toNat=2*k:=by omega
   have g5:(2*(k:Int)+1).toNat=2*k+1:=by omega
   have i4:(0:Int)≤2*(k:Int):=by omega
   have i5:(0:Int)≤2*(k:Int)+1:=by omega
   clear s E A h v
   go_wp2
   go_region_held3 (fun w'=>w'.cell? ⟨g,off+2*k,none⟩=some (.int .u8 x)∧w'.cell? ⟨g,off+(2*k+1),none⟩=some (.int .u8 y))
    (first|go_keep) (fail)
   go_wp2_with fail
   go_roundw
   case rel=>exact ⟨k+1,by omega,by go_num,r,I,J⟩
   case measure=>simp[intOf];omega
  ·obtain rfl:k=8:=by omega
   have N:=ki s.o.mix8
   clear s h v d
   go_wp2_with (first
    | (refine at_load6 rfl (.tmp 3) rfl rfl N.o ?_)
    | (refine cat_store6 rfl (.tmp 2) (.tmp 26) rfl rfl E.o rfl ?_;intro w5 z D;have K:=ki (D.below A.o (Nat.le_refl _));replace z:=ki z;clear D))
   try simp only[Exit.inBlock,Exit.then]
   refine bodyPost_ret (six_result rfl _ _ w.heap.size Z rfl z.o) rfl ?_
   exact ⟨rfl,K.o⟩
end
section
theorem Row8.at_ {w:World} {g off len cap:Nat} {zs:List Int} (h:Row8 w (some ⟨g,off,none⟩) len cap zs) (i:Nat) (hi:i < len):w.cell? ⟨g,off+i,none⟩=some (.int .u8 (zs.getD i 0)):=by
 obtain ⟨-,-,-,-,d⟩:=h
 obtain ⟨b,o,e,a⟩:=d (by omega)
 cases e
 exact a i hi
theorem Only.row {B:Nat} {w w':World} (h:Only B w w') {g off len cap:Nat} {zs:List Int} (r:Row8 w (some ⟨g,off,none⟩) len cap zs) (hg:g≠B):Row8 w' (some ⟨g,off,none⟩) len cap zs:=by
 obtain ⟨d,f,k,h4,l⟩:=r
 refine ⟨d,f,k,h4,fun hp=>?_⟩
 obtain ⟨b,o,e,hc⟩:=l hp
 cases e
 exact ⟨g,off,rfl,fun i hi=>(World.cell?_of_block (a:=⟨g,off+i,none⟩) (h.2.2.2.2 g hg)).trans (hc i hi)⟩
end
namespace V6
attribute [local go_sem ↓] Go.wp_at_zero Go.wp_at_succ
theorem adr_part (zs:List Int) (j:Nat):adr ((zs.drop j).take 16) 0=adr zs j:=by
 unfold adr
 refine List.map_congr_left fun k hk=>?_
 have hk:k < 8:=by simpa using hk
 rw[Nat.zero_add,Nat.zero_add,P4.getD_take (by omega),P4.getD_take (by omega),P4.getD_drop,P4.getD_drop]
theorem six_at (g off len cap:Nat) (zs:List Int) (w:World) (j c:Nat) (hr:Row8 w (some ⟨g,off,none⟩) len cap zs) (h1:j+16≤len) :
  Calls Tryz.prog 243 #[.slice (some ⟨g,off+j,none⟩) 16 c] w fun e w'=>e=.returned (.agg (sixC (adr zs j)))∧Below w.heap.size w w':=by
 have h:=hr.part j (j+16) (by omega) h1 (some ⟨g,off+j,none⟩) c (fun b o _ e=>by cases e;rfl) (fun e=>by cases e)
 rw[show j+16 - j=16 by omega] at h
 have:=csix_any g (off+j) c _ w h
 rw[adr_part] at this
 exact this
theorem step_app {w:World} {ops:Array Oper} {o:Oper} {a:Act} {K:Act→World→Prop} {Q:Exit→Act→World→Prop} {E:Prop} (hgd:o.guard=none) (s x:Operand)
  (ho:o.op=.call { callee:=.builtin .append,args:=#[s,x],argTypes:=#[37,37] })
  (base:Nat) (v:Value) (zs:List Int) (hs:a.eval s=v) (hown:Own base w v zs) (ao:Option Addr) (hao:∃ ad,ao=some ad) (len cap:Nat) (ys:List Int) (n:Nat) (hn:(zs++ys).length=n)
  (hx:a.eval x=.slice ao len cap) (hrow:Row8 w ao len cap ys) (hlen:zs.length+len≤1000000000) (hbase:base≤w.heap.size)
  (h:∀ a' c' w',Own base w' (.slice a' n c') (zs++ys)→w.grownBy w' v.ownBlock→K (a.put o.dst (.slice a' n c')) w'):if Region.wanted o (yielded ops a.tmps)=true then Oper.wp Tryz.prog o a w K Q else E:=by
 have hw:Region.wanted o (yielded ops a.tmps)=true:=by simp[Region.wanted,hgd]
 rw[if_pos hw]
 obtain ⟨ad,rfl⟩:=hao
 obtain ⟨l,p,g,i,k⟩:=info_parts Tryz.infoByte
 obtain ⟨r1,D,q,F,r⟩:=hrow
 refine wp_append_own w s x 37 ho base 5 l (.int .u8 0) 1 1 Tryz.underlying37 p g i k rfl (by decide) v zs.length _ hs hown.2 ad len cap (ys.map (Value.int .u8)) hx (by simp[r1]) ?_ (ints_oneCell .u8 ys) (by unfold maxLen;omega) (by omega) hbase ?_
 ·intro j u f
  have t:j < ys.length:=by
   have:=(List.getElem?_eq_some_iff.1 f).1
   simpa using this
  obtain ⟨b,d,y,z⟩:=r (by omega)
  have hc:=z j (by omega)
  obtain rfl:ad=⟨b,d,none⟩:=by simpa using y
  have e:(⟨b,d,none⟩:Addr).add j=⟨b,d+j,none⟩:=by unfold Addr.add;split <;> simp_all
  rw[e,hc]
  rw[List.getElem?_map] at f
  simp[t] at f ⊢
  exact f
 ·intro A w' B C _
  have ho:Own base w' A (zs++ys):=by
   refine ⟨SM.oct_append _ _ hown.1 q,?_⟩
   rw[List.map_append,List.length_append,r1]
   exact B
  obtain ⟨a',c',e,_,_⟩:=ho.row8
  rw[hn] at e
  rw[e] at ho ⊢
  exact h a' c' w' ho C
attribute [local go_sem ↓] hstore_shut
theorem read_raw (g off len cap:Nat) (zs:List Int) (w:World) (hr:Row8 w (some ⟨g,off,none⟩) len cap zs) (h40:40≤len) (h360:len≤360) (hcl:len≤cap) (hcm:cap≤maxLen) :
  Calls Tryz.prog 190 #[.slice (some ⟨g,off,none⟩) len cap] w fun e w'=>∃ a' c',e=.returned (.agg (pkC (adr zs 8) (adr zs 24) (zs.getD 7 0) (zs.getD 6 0) a' (len - 40) c'))∧Own w.heap.size w' (.slice a' (len - 40) c') (zs.drop 40)∧Below w.heap.size w w':=by
 unfold maxLen at hcm
 have Q:(len:Int)≤(cap:Int):=by omega
 have R:(40:Int)≤(len:Int):=by omega
 have aa:(6:Int) < (len:Int):=by omega
 have ab:(7:Int) < (len:Int):=by omega
 have T:(24:Int)≤(cap:Int):=by omega
 have U:(40:Int)≤(cap:Int):=by omega
 have ac:cap≠8:=by omega
 have V:cap≠24:=by omega
 have s:Below w.heap.size w (w.alloc (.cells zero6 83)).drew:=((Below.refl _ _).alloc (Nat.le_refl _) _).drew
 have a:=ki (hr.below s)
 have d:=ki (show PkIn w.heap.size [] [] 0 0 none 0 0 (w.alloc (.cells zero6 83)).drew from zero_new w)
 have p:∀ i,i < len→w.cell? ⟨g,off+i,none⟩=some (.int .u8 (zs.getD i 0)):=by
  obtain ⟨-,-,-,-,X⟩:=hr
  obtain ⟨b,o,e,v⟩:=X (by omega)
  cases e
  exact v
 have z:=p 6 (by omega)
 have G:=p 7 (by omega)
 clear p
 have x:=ki (fun W (h:Row8 W (some ⟨g,off,none⟩) len cap zs)=>show W.cell? ⟨g,off+6,none⟩=some (.int .u8 (zs.getD 6 0))∧W.cell? ⟨g,off+7,none⟩=some (.int .u8 (zs.getD 7 0)) from ⟨h.at_ 6 (by omega),h.at_ 7 (by omega)⟩)
 have H:=hr.2.2.1 6
 have I:=hr.2.2.1 7
 have t:∃ ad,(if cap=40 then some (⟨g,off,none⟩:Addr) else some ⟨g,off+40,none⟩)=some ad:=by split <;> exact ⟨_,rfl⟩
 have l:=fun W (h:Row8 W (some ⟨g,off,none⟩) len cap zs)=>(h.part 40 len h40 (Nat.le_refl _) (if cap=40 then some ⟨g,off,none⟩ else some ⟨g,off+40,none⟩) (cap - 40) (fun b o hlt e=>by cases e;rw[if_neg (by omega)]) (fun e=>by split at e <;> cases e)).congr (show (zs.drop 40).take (len - 40)=zs.drop 40 from List.take_of_length_le (by rw[List.length_drop,hr.1];exact Nat.le_refl _))
 obtain ⟨ao,hao⟩:∃ ao,(if cap=40 then some (⟨g,off,none⟩:Addr) else some ⟨g,off+40,none⟩)=ao:=⟨_,rfl⟩
 rw[hao] at l t
 have y:=ki l
 have J:=ki t
 clear l t
 have Y:=ki (show ([]++zs.drop 40).length=len - 40 by rw[List.nil_append,List.length_drop,hr.1])
 have A:=ki (show ([]:List Int).length+(len - 40)≤1000000000 by simp;omega)
 have f:=ki s
 have K:w.heap.size≠g:=World.new_ne w _ z
 have B:=ki (fun W c (h:Row8 W (some ⟨g,off,none⟩) len cap zs)=>six_at g off len cap zs W 8 c h (by omega))
 have C:=ki (fun W c (h:Row8 W (some ⟨g,off,none⟩) len cap zs)=>six_at g off len cap zs W 24 c h (by omega))
 unfold sixC at B C
 generalize adr zs 8=S at B ⊢
 generalize adr zs 24=D at C ⊢
 clear hr s
 generalize zs.getD 6 0=z6 at z H x ⊢
 generalize zs.getD 7 0=z7 at G I x ⊢
 have ae:IntKind.i64.wrap z6=z6:=by rw[IntKind.wrap_i64];omega
 have af:IntKind.i64.wrap z7=z7:=by rw[IntKind.wrap_i64];omega
 unfold zero6 at a d f
 go_enter Tryz.func190,Tryz.ntmps190
 go_upto_region 1 with fail
 go_region_held3 (fun w'=>w'.cell? ⟨g,off+6,none⟩=some (.int .u8 z6)∧w'.cell? ⟨g,off+7,none⟩=some (.int .u8 z7))
  (first
   | go_keep
   | exact x.o _ a.o
   | exact x.o _ L.o)
  (first
   | (go_at_call 243;with_reducible refine (B.o _ _ a.o).mono ?_;rintro e w1 ⟨rfl,q⟩;replace d:=ki (d.o.kept q);replace f:=ki (bt f.o q);replace a:=ki (a.o.below q);clear q)
   | (go_at_call 243;with_reducible refine (C.o _ _ a.o).mono ?_;rintro e w2 ⟨rfl,r⟩;replace d:=ki (d.o.kept r);replace f:=ki (bt f.o r);replace a:=ki (a.o.below r);clear r)
   | (refine step_app rfl (.const (.slice none 0 0)) (.tmp 18) rfl (w.heap.size+1) _ [] (by rfl) (Own.nil _ _) _ J.o (len - 40) (cap - 40) _ (len - 40) Y.o (by rfl) (y.o _ a.o) A.o d.o.lt ?_;intro M c5 w5 Z E;replace d:=ki (d.o.grown E (by intro e;cases e));replace f:=ki (f.o.grown E f.o.size (fun k h=>by cases h));replace a:=ki (a.o.grown E (fun _ _ _ e=>by cases e));obtain ⟨w6,N,F,n⟩:=d.o.held S D z7 z6 M (len - 40) c5;unfold pkC at N;replace F:=ki F;have L:=ki (n.row a.o K.symm);replace n:=ki n))
 have O:=ki (n.o.below f.o (Nat.le_refl _))
 have P:=ki (n.o.own Z (Nat.lt_succ_self _))
 go_wp2
 try simp only[Exit.inBlock,Exit.then]
 refine bodyPost_ret (pk_result rfl _ _ w.heap.size S D z7 z6 M (len - 40) c5 rfl F.o) rfl ?_
 exact ⟨_,_,rfl,by simpa using P.o.mono (Nat.le_succ _),O.o⟩
end V6
namespace V6
theorem ok6_adr (z:List Int) (ho:SM.Oct z) (o:Nat):Ok6 (adr z o):=fun k hk=>by
 rw[el_adr z o k hk]
 have h1:=ho (o+2*k)
 have h2:=ho (o+(2*k+1))
 exact ⟨by omega,by omega⟩
theorem by16_get (a:List Int) (i:Nat) (hi:i < 16):(by16 a 8).getD i 0=if i % 2=0 then el a (i / 2) / 256 else el a (i / 2) % 256:=by
 rcases (by omega:i=0∨i=1∨i=2∨i=3∨i=4∨i=5∨i=6∨i=7∨i=8∨i=9∨i=10∨i=11∨i=12∨i=13∨i=14∨i=15) with rfl|rfl|rfl|rfl|rfl|rfl|rfl|rfl|rfl|rfl|rfl|rfl|rfl|rfl|rfl|rfl <;> rfl
theorem by16_adr (z:List Int) (ho:SM.Oct z) (o:Nat) (h:o+16≤z.length):by16 (adr z o) 8=(z.drop o).take 16:=by
 refine P4.ext_getD (by rw[by16_len,List.length_take,List.length_drop];omega) fun i hi=>?_
 have a:i < 16:=by rw[List.length_take] at hi;omega
 rw[P4.getD_take a,P4.getD_drop,by16_get _ i a,el_adr z o (i / 2) (by omega)]
 have b:=ho (o+2*(i / 2))
 have d:=ho (o+(2*(i / 2)+1))
 by_cases hp:i % 2=0
 ·rw[if_pos hp]
  have e:o+2*(i / 2)=o+i:=by omega
  rw[e] at b ⊢
  omega
 ·rw[if_neg hp]
  have e:o+(2*(i / 2)+1)=o+i:=by omega
  rw[e] at d ⊢
  omega
def enc (z:List Int):List Int:=bys (adr z 8) (adr z 24) (z.getD 7 0) (z.getD 6 0) (z.drop 40)
theorem enc_len (z:List Int) (h:40≤z.length):(enc z).length=z.length:=by
 unfold enc
 rw[bys_len,List.length_drop]
 omega
def Good (z:List Int):Prop:=40≤z.length∧z.length≤360∧P4.wd z 0=24576∧P4.wd z 2=0∧P4.wd z 4=(z.length:Int) - 40
theorem parts (z:List Int):z=((z.take 8++(z.drop 8).take 16)++(z.drop 24).take 16)++z.drop 40:=by
 have a:z.take 8++(z.drop 8).take 16=z.take 24:=by rw[show 24=8+16 from rfl,List.take_add]
 have b:z.take 24++(z.drop 24).take 16=z.take 40:=by rw[show 40=24+16 from rfl,List.take_add]
 rw[a,b,List.take_append_drop]
theorem enc_parts (z:List Int) (ho:SM.Oct z) (h:40≤z.length):enc z=((h8 ((z.length:Int) - 40) (z.getD 6 0) (z.getD 7 0)++(z.drop 8).take 16)++(z.drop 24).take 16)++z.drop 40:=by
 unfold enc bys
 rw[by16_adr z ho 8 (by omega),by16_adr z ho 24 (by omega),show (((z.drop 40).length:Nat):Int)=(z.length:Int) - 40 by rw[List.length_drop];omega]
theorem same_iff (z:List Int) (ho:SM.Oct z) (h0:40≤z.length) (h1:z.length≤360):enc z=z↔Good z:=by
 have g0:=ho 0;have p:=ho 1;have q:=ho 2;have r:=ho 3;have g4:=ho 4;have s:=ho 5
 constructor
 ·intro e
  rw[enc_parts z ho h0] at e
  have a:=congrArg (fun l=>l.getD 0 0) e
  have b:=congrArg (fun l=>l.getD 1 0) e
  have d:=congrArg (fun l=>l.getD 2 0) e
  have f:=congrArg (fun l=>l.getD 3 0) e
  have e4:=congrArg (fun l=>l.getD 4 0) e
  have g:=congrArg (fun l=>l.getD 5 0) e
  replace a:96=z.getD 0 0:=a
  replace b:0=z.getD 1 0:=b
  replace d:0=z.getD 2 0:=d
  replace f:0=z.getD 3 0:=f
  replace e4:((z.length:Int) - 40) / 256=z.getD 4 0:=e4
  replace g:((z.length:Int) - 40) % 256=z.getD 5 0:=g
  refine ⟨h0,h1,?_,?_,?_⟩ <;> unfold P4.wd <;> simp only[Nat.reduceAdd] <;> omega
 ·rintro ⟨-,-,h,i,k⟩
  unfold P4.wd at h i k
  simp only[Nat.reduceAdd] at h i k
  rw[enc_parts z ho h0]
  have o:h8 ((z.length:Int) - 40) (z.getD 6 0) (z.getD 7 0)=z.take 8:=by
   refine P4.ext_getD (by rw[List.length_take];show 8=_;omega) fun j hj=>?_
   have n:j < 8:=by rw[List.length_take] at hj;omega
   rw[P4.getD_take n]
   rcases (by omega:j=0∨j=1∨j=2∨j=3∨j=4∨j=5∨j=6∨j=7) with rfl|rfl|rfl|rfl|rfl|rfl|rfl|rfl
   ·show 96=_;omega
   ·show 0=_;omega
   ·show 0=_;omega
   ·show 0=_;omega
   ·show ((z.length:Int) - 40) / 256=_;omega
   ·show ((z.length:Int) - 40) % 256=_;omega
   ·rfl
   ·rfl
  rw[o]
  exact (parts z).symm
theorem bys_oct (s d:List Int) (h k:Int) (body:List Int) (ho:Okp s d h k) (hl:body.length≤320) (hb:SM.Oct body):SM.Oct (bys s d h k body) :=
 SM.oct_append _ _ (SM.oct_append _ _ (SM.oct_append _ _ (h8_oct _ _ _ (by omega) ho.2.2.2 ho.2.2.1) (oct_by16 s ho.1 8 (by omega))) (oct_by16 d ho.2.1 8 (by omega))) hb
end V6
end Go.Proofs.YtgcojnlngchllaaGreatDoor
