/- A packet of fours as a value and in its block. A packet of fours loaded and stored whole, at a plain region's list. Package ip4's small ones by contracts: upTo, Check, number, and bytes.Equal. Package ip4: number, Check, header, checkOf and Encode, by contracts. Package ip4: Check and header, by contracts. Package ip4: header, by a contract. Package ip4: Encode, by contracts. Package ip4: read, by a contract. Package ip4: alike, by a contract. Package ip4: Decode, by contracts. Package ip4: Decode of bytes that are not too few and not too many, by contracts. -/
import Derived.Test.YtgcojnlngchllaaGreatDoorK04
namespace Go.Proofs.YtgcojnlngchllaaGreatDoor
open Go.RowKit
set_option linter.unusedVariables false
set_option maxRecDepth 100000
set_option maxHeartbeats 40000000
namespace V4
variable {d i k s t:Int} {B cap:Nat} {a:Option Addr} {w:World}
def pk (s d t k i:Int) (a:Option Addr) (len cap:Nat):Value:=.agg #[.int .i64 s,.int .i64 d,.int .i64 t,.int .i64 k,.int .i64 i,.slice a len cap]
def PkIn (B:Nat) (s d t k i:Int) (a:Option Addr) (len cap:Nat) (w:World):Prop:=w.heap[B]? = some (.cells #[.int .i64 s,.int .i64 d,.int .i64 t,.int .i64 k,.int .i64 i,.slice a len cap] 108 (0,0))
theorem PkIn.lt {len:Nat} (h:PkIn B s d t k i a len cap w):B < w.heap.size:=(Array.getElem?_eq_some_iff.1 h).1
theorem PkIn.kept {len:Nat} {w':World} (h:PkIn B s d t k i a len cap w) (hb:Below w.heap.size w w'):PkIn B s d t k i a len cap w':=(hb.block B h.lt).trans h
theorem PkIn.other {len:Nat} (h:PkIn B s d t k i a len cap w) (p:Addr) (hp:B≠p.block) (v:Value):PkIn B s d t k i a len cap (w.setCell p v):=(Below.heap_setCell w p v B hp).trans h
theorem pk_new (w:World) (s d t k i:Int) (a:Option Addr) (len cap:Nat):PkIn w.heap.size s d t k i a len cap (w.alloc (.cells #[.int .i64 s,.int .i64 d,.int .i64 t,.int .i64 k,.int .i64 i,.slice a len cap] 108)):=heap_alloc_new w _
theorem PkIn.all {len:Nat} (h:PkIn B s d t k i a len cap w) :
  w.cell? ⟨B,0,none⟩=some (.int .i64 s)∧w.cell? ⟨B,1,none⟩=some (.int .i64 d)∧w.cell? ⟨B,2,none⟩=some (.int .i64 t)∧w.cell? ⟨B,3,none⟩=some (.int .i64 k)∧w.cell? ⟨B,4,none⟩=some (.int .i64 i)∧w.cell? ⟨B,5,none⟩=some (.slice a len cap):=by
 unfold PkIn at h
 refine ⟨?_,?_,?_,?_,?_,?_⟩ <;> simp[World.cell?,h]
theorem load_pk {len:Nat} (h:PkIn B s d t k i a len cap w):(loadVar 108 ⟨B,0,none⟩).run Tryz.prog w=.ok (pk s d t k i a len cap) w :=
 run_loadVar_row w B 108 108 _ (0,0) _ h Tryz.underlying108 rfl (by kernel_rfl)
theorem results_cr {fn:Func} {p u:Tmp} (h:fn.results=#[.cell p 108,.tmp u]) (tmps:Array Value) (w:World) (B:Nat) (s d t k i:Int) (a:Option Addr) (len cap:Nat)
  (hp:tmps.getD p undef=.pointer (some ⟨B,0,none⟩)) (hg:PkIn B s d t k i a len cap w) :
  (results fn tmps).run Tryz.prog w=.ok (.tuple #[pk s d t k i a len cap,tmps.getD u undef]) w:=by
 rw[results_cell_tmp h,hp]
 simp[asAddr,load_pk hg]
end V4
namespace V4
variable {w:World}
theorem at_load {ops:Array Oper} {rest:List Oper} {o:Oper} {f:Act} {Q:Exit→Act→World→Prop} (hgd:o.guard=none) (x:Operand) (ho:o.op=.load 108 x)
  {B:Nat} {s d t k i:Int} {a:Option Addr} {len cap:Nat} (hx:f.eval x=.pointer (some ⟨B,0,none⟩)) (p:PkIn B s d t k i a len cap w)
  (hK:wpList Tryz.prog ops Q rest (f.put o.dst (pk s d t k i a len cap)) w):wpList Tryz.prog ops Q (o::rest) f w :=
 wpList_load_row hgd 108 x ho B hx 108 _ (0,0) _ p Tryz.underlying108 rfl (by kernel_rfl) hK
theorem PkIn.stored {B:Nat} {s0 d0 t0 k0 i0:Int} {a0:Option Addr} {len0 cap0:Nat} (p:PkIn B s0 d0 t0 k0 i0 a0 len0 cap0 w) (s d t k i:Int) (a:Option Addr) (len cap:Nat):PkIn B s d t k i a len cap (w.setRow B #[.int .i64 s,.int .i64 d,.int .i64 t,.int .i64 k,.int .i64 i,.slice a len cap]):=setRow_heap w B _ _ _ (0,0) p
theorem at_store {ops:Array Oper} {rest:List Oper} {o:Oper} {f:Act} {Q:Exit→Act→World→Prop} (hgd:o.guard=none) (x y:Operand) (ho:o.op=.store 108 x y)
  {B:Nat} {s0 d0 t0 k0 i0:Int} {a0:Option Addr} {len0 cap0:Nat} (hx:f.eval x=.pointer (some ⟨B,0,none⟩)) (p:PkIn B s0 d0 t0 k0 i0 a0 len0 cap0 w)
  (s d t k i:Int) (a:Option Addr) (len cap:Nat) (hy:f.eval y=pk s d t k i a len cap)
  (hK:∀ w',PkIn B s d t k i a len cap w'→Only B w w'→wpList Tryz.prog ops Q rest (f.put o.dst undef) w'):wpList Tryz.prog ops Q (o::rest) f w :=
 wpList_store_row hgd 108 x y ho B _ hx hy 108 _ p (by kernel_rfl) rfl (by simp[Value.oneCell']) (hK _ (p.stored s d t k i a len cap) (only_setRow _ _ _))
def pk0:Value:=pk 0 0 0 0 0 none 0 0
def zero4:Array Value:=#[.int .i64 0,.int .i64 0,.int .i64 0,.int .i64 0,.int .i64 0,.slice none 0 0]
theorem zero_new (w:World):PkIn w.heap.size 0 0 0 0 0 none 0 0 (w.alloc (.cells zero4 108)):=pk_new w 0 0 0 0 0 none 0 0
end V4
namespace V4
def IsF (f:Int):Prop:=0≤f∧f≤4294967295
def IsB (f:Int):Prop:=0≤f∧f≤255
theorem bt {a b c:World} (h1:Below a.heap.size a b) (h2:Below b.heap.size b c):Below a.heap.size a c:=h1.trans (h2.mono h1.size)
theorem upto_yes (m n:Int) (w:World) (h0:0≤n) (h1:n≤m):Calls Tryz.prog 260 #[.int .i64 m,.int .i64 n] w fun e w'=>e=.returned (.bool true)∧w'=w:=by
 go_enter Tryz.func260,Tryz.ntmps260
 go_wp2
 go_ret
 exact ⟨rfl,rfl⟩
theorem upto_no (m n:Int) (w:World) (h:¬ (0≤n∧n≤m)):Calls Tryz.prog 260 #[.int .i64 m,.int .i64 n] w fun e w'=>e=.returned (.bool false)∧w'=w:=by
 by_cases h0:0≤n
 ·have h1:¬ n≤m:=fun h1=>h ⟨h0,h1⟩
  clear h
  go_enter Tryz.func260,Tryz.ntmps260
  go_wp2
  go_ret
  exact ⟨rfl,rfl⟩
 ·clear h
  go_enter Tryz.func260,Tryz.ntmps260
  go_wp2
  go_ret
  exact ⟨rfl,rfl⟩
theorem c4_ok (a:Int) (w:World) (h:IsF a):Calls Tryz.prog 73 #[.int .i64 a] w fun e w'=>e=.returned .nilIface∧w'=w:=by
 obtain ⟨b,d⟩:=h
 go_enter Tryz.func73,Tryz.ntmps73
 go_wp2
 go_ret
 exact ⟨rfl,rfl⟩
theorem c4_bad (a:Int) (w:World) (h:¬ IsF a):Calls Tryz.prog 73 #[.int .i64 a] w fun e w'=>e=.returned (.iface 28 (.int .i64 1))∧w'=w:=by
 unfold IsF at h
 by_cases h1:a < 0
 ·clear h
  go_enter Tryz.func73,Tryz.ntmps73
  go_wp2
  go_ret
  exact ⟨rfl,rfl⟩
 ·have b:4294967295 < a:=by omega
  clear h
  go_enter Tryz.func73,Tryz.ntmps73
  go_wp2
  go_ret
  exact ⟨rfl,rfl⟩
theorem equal_any (a b:Option Addr) (la lb ca cb:Nat) (xs ys:List Int) (w:World) (ra:Row8 w a la ca xs) (rb:Row8 w b lb cb ys) (r:Bool) (hr:(xs=ys)↔r=true):Calls Tryz.prog 191 #[.slice a la ca,.slice b lb cb] w fun e w'=>e=.returned (.bool r)∧w'=w:=by
 have c1:=conv8 ra
 have c2:=conv8 rb
 have d:=str8_eq ra.2.2.1 rb.2.2.1 r hr
 clear hr ra rb
 go_enter Tryz.func191,Tryz.ntmps191
 go_wp2
 go_ret
 exact ⟨rfl,rfl⟩
end V4
namespace V4
theorem or8 (a x:Nat) (ha:a < 16777216) (hx:x≤255):bits .or .i64 ((a*256:Nat):Int) (x:Int)=((a*256+x:Nat):Int):=by
 have d:(BitVec.ofInt 64 ((a*256:Nat):Int)).toNat=a*256:=by rw[BitVec.toNat_ofInt];omega
 have e:(BitVec.ofInt 64 ((x:Nat):Int)).toNat=x:=by rw[BitVec.toNat_ofInt];omega
 have b:(BitVec.ofInt 64 ((a*256:Nat):Int) ||| BitVec.ofInt 64 ((x:Nat):Int)).toNat=a*256+x:=by
  rw[BitVec.toNat_or,d,e]
  have:=Nat.shiftLeft_add_eq_or_of_lt (show x < 2 ^ 8 by omega) a
  rw[Nat.shiftLeft_eq] at this
  exact this.symm
 show IntKind.i64.wrap (((BitVec.ofInt 64 ((a*256:Nat):Int) ||| BitVec.ofInt 64 ((x:Nat):Int)).toNat:Nat):Int)=_
 rw[b,IntKind.wrap_i64]
 omega
theorem or_lo (a x:Int) (ha:0≤a) (ha2:a < 16777216) (hx:0≤x) (hx2:x < 256):bits .or .i64 (a*256) x=a*256+x:=by
 obtain ⟨m,rfl⟩:=Int.eq_ofNat_of_zero_le ha
 obtain ⟨k,rfl⟩:=Int.eq_ofNat_of_zero_le hx
 have:=or8 m k (by omega) (by omega)
 rw[show ((m*256:Nat):Int)=(m:Int)*256 by omega,show ((m*256+k:Nat):Int)=(m:Int)*256+(k:Int) by omega] at this
 exact this
def num (zs:List Int):Nat→Int
 | 0=>0
 | k+1=>num zs k*256+zs.getD k 0
theorem num_bd (zs:List Int) (h:SM.Oct zs) (k:Nat) (hk:k < 4):0≤num zs k∧num zs k < 16777216:=by
 have a:=h 0;have b:=h 1;have d:=h 2
 rcases (by omega:k=0∨k=1∨k=2∨k=3) with rfl|rfl|rfl|rfl <;> simp only[num] <;> omega
theorem number_any (a:Option Addr) (len cap:Nat) (zs:List Int) (w:World) (hl:len≤4) (hp:0 < len) (w0:Row8 w a len cap zs) (r:Int) (hr:num zs len=r) :
  Calls Tryz.prog 261 #[.slice a len cap] w fun e w'=>e=.returned (.int .i64 r)∧w'=w:=by
 obtain ⟨q,s,d,_,g⟩:=w0
 obtain ⟨b,p,rfl,f⟩:=g hp
 have o:=ki hr
 clear g hr
 go_enter Tryz.func261,Tryz.ntmps261
 go_wp2
 go_loop [3,8] (fun t i=>∃ k:Nat,k≤len∧t=.int .i64 (num zs k)∧i=.int .i64 k) (fun _ i=>len - (intOf i).toNat)
 case atStart=>exact ⟨0,by omega,rfl,rfl⟩
 case round =>
  obtain ⟨k,v,rfl,rfl⟩:=hrel
  by_cases hlt:k < len
  ·have hb:=num_bd zs d k (by omega)
   have n:=f k hlt
   have h:=d k
   clear f
   have l:=ki (show num zs (k+1)=num zs k*256+zs.getD k 0 from rfl)
   clear d
   generalize zs.getD k 0=z at n h l
   generalize num zs k=t at hb l ⊢
   have x:=or_lo t z hb.1 hb.2 h.1 (by omega)
   go_wp2
   go_round
   case rel=>exact ⟨k+1,by omega,by rw[l.o],by go_num⟩
   case measure=>simp[intOf];omega
  ·obtain rfl:k=len:=by omega
   go_wp2
   go_ret
   exact ⟨by rw[o.o];rfl,rfl⟩
end V4
namespace V4
def Okp (s d t k i:Int):Prop:=IsF s∧IsF d∧IsB t∧IsB k∧Word i
def bx (w:World) (s d t k i:Int) (a:Option Addr) (len cap:Nat):World:=w.alloc (.cells #[.int .i64 s,.int .i64 d,.int .i64 t,.int .i64 k,.int .i64 i,.slice a len cap] 108)
theorem bx_below (w:World) (s d t k i:Int) (a:Option Addr) (len cap:Nat):Below w.heap.size w (bx w s d t k i a len cap):=(Below.refl _ _).alloc (Nat.le_refl _) _
def c4v (x:Int):Value:=if 0≤x∧x≤4294967295 then .nilIface else .iface 28 (.int .i64 1)
def up (m n:Int):Bool:=decide (0≤n∧n≤m)
theorem c4v_ok {x:Int} (h:IsF x):c4v x=.nilIface:=if_pos h
theorem c4v_bad {x:Int} (h:¬ IsF x):c4v x=.iface 28 (.int .i64 1):=if_neg h
theorem c4_any (x:Int) (w:World):Calls Tryz.prog 73 #[.int .i64 x] w fun e w'=>e=.returned (c4v x)∧w'=w:=by
 by_cases h:IsF x
 ·rw[c4v_ok h];exact c4_ok x w h
 ·rw[c4v_bad h];exact c4_bad x w h
theorem upto_any (m n:Int) (w:World):Calls Tryz.prog 260 #[.int .i64 m,.int .i64 n] w fun e w'=>e=.returned (.bool (up m n))∧w'=w:=by
 by_cases h:0≤n∧n≤m
 ·rw[show up m n=true from decide_eq_true h];exact upto_yes m n w h.1 h.2
 ·rw[show up m n=false from decide_eq_false h];exact upto_no m n w h
theorem check_ok (s d t k i:Int) (a:Option Addr) (len cap:Nat) (w:World) (h:Okp s d t k i) (hl:len≤320) :
  Calls Tryz.prog 214 #[pk s d t k i a len cap] w fun e w'=>e=.returned .nilIface∧Below w.heap.size w w':=by
 obtain ⟨hs,hd,b,f,g⟩:=h
 replace hs:=c4v_ok hs
 replace hd:=c4v_ok hd
 replace b:up 255 t=true:=decide_eq_true b
 replace f:up 255 k=true:=decide_eq_true f
 replace g:up 65535 i=true:=decide_eq_true g
 have l:=ki (bx_below w s d t k i a len cap)
 unfold bx at l
 unfold pk
 go_enter Tryz.func214,Tryz.ntmps214
 go_wp2_with (first
  | (go_at_call 73;refine (c4_any _ _).mono ?_;rintro e w' ⟨rfl,rfl⟩)
  | (go_at_call 260;refine (upto_any _ _ _).mono ?_;rintro e w' ⟨rfl,rfl⟩))
 go_ret
 exact ⟨rfl,l.o⟩
end V4
namespace V4
variable {zs:List Int} {B:Nat} {w:World}
theorem okp_okh {s d t k i:Int} {len:Nat} (h:Okp s d t k i) (hl:len≤320):P4.Okh s d t k i (20+len):=by
 obtain ⟨hs,hd,a,b,e⟩:=h
 exact ⟨hs,hd,a,b,e,by omega,by omega⟩
def Blk (B:Nat) (zs:List Int) (w:World):Prop:=w.heap[B]? = some (.cells (zs.map (Value.int .u8)).toArray 5 (0,0))
theorem Blk.lt (h:Blk B zs w):B < w.heap.size:=(Array.getElem?_eq_some_iff.1 h).1
theorem Blk.kept {w':World} (h:Blk B zs w) (hb:Below w.heap.size w w'):Blk B zs w':=(hb.block B h.lt).trans h
theorem blk_new (w:World) (zs:List Int):Blk w.heap.size zs (w.alloc (.cells (zs.map (Value.int .u8)).toArray 5)):=heap_alloc_new w _
theorem Blk.cell (h:Blk B zs w) (j:Nat) (hj:j < zs.length):w.cell? ⟨B,j,none⟩=some (.int .u8 (zs.getD j 0)):=by
 unfold Blk at h
 simp[World.cell?,h,hj]
theorem Blk.frozen (h:Blk B zs w) (j:Nat):w.frozen? ⟨B,j,none⟩=false:=by
 unfold Blk at h
 simp[World.frozen?,h]
theorem Blk.set (h:Blk B zs w) (j:Nat) (v:Int):Blk B (zs.set j v) (w.setCell ⟨B,j,none⟩ (.int .u8 v)):=by
 unfold Blk at h ⊢
 rw[setCell_eq_setRow w B j _ 5 (0,0) (.int .u8 v) h,setRow_heap w B _ _ 5 (0,0) h]
 simp[List.map_set]
theorem Blk.row8 (h:Blk B zs w) (ho:SM.Oct zs) (n cap:Nat) (hn:zs.length=n) (hm:n≤maxLen):Row8 w (some ⟨B,0,none⟩) n cap zs :=
 ⟨hn,hm,ho,(fun e=>by cases e),fun _=>⟨B,0,rfl,fun i hi=>by rw[Nat.zero_add];exact h.cell i (by omega)⟩⟩
theorem Blk.own (h:Blk B zs w) (ho:SM.Oct zs) (base n:Nat) (hn:zs.length=n) (hm:n≤maxLen) (hb:base≤B):Own base w (.slice (some ⟨B,0,none⟩) n n) zs:=by
 subst hn
 exact ⟨ho,by simp,.inr ⟨B,zs.length,_,rfl,hb,h,Nat.le_refl _,hm,by simp,by simp[← List.map_take]⟩⟩
theorem header_ok (s d t k i:Int) (a:Option Addr) (len cap:Nat) (w:World) (h:Okp s d t k i) (hl:len≤320) :
  Calls Tryz.prog 215 #[pk s d t k i a len cap] w fun e w'=>∃ B,e=.returned (.slice (some ⟨B,0,none⟩) 20 20)∧B=w.heap.size+1∧Blk B (P4.hd s d t k i (20+len) 0) w'∧Below w.heap.size w w':=by
 obtain ⟨hs,hd,b,f,g⟩:=h
 obtain ⟨l,n⟩:=hs
 obtain ⟨o,p⟩:=hd
 obtain ⟨q,r⟩:=b
 obtain ⟨v,x⟩:=f
 obtain ⟨y,z⟩:=g
 have hb:=bx_below w s d t k i a len cap
 unfold bx at hb
 unfold pk
 go_enter Tryz.func215,Tryz.ntmps215
 go_wp2
 go_ret
 refine ⟨_,rfl,?_,?_,?_⟩
 ·simp
 ·have e:=blk_new (w.alloc (.cells #[.int .i64 s,.int .i64 d,.int .i64 t,.int .i64 k,.int .i64 i,.slice a len cap] 108)) (P4.hd s d t k i (20+len) 0)
  rw[World.size_alloc] at e
  exact e
 ·exact hb.alloc (by simp) _
theorem checkof_ok (a:Option Addr) (len cap:Nat) (zs:List Int) (w:World) (w0:Row8 w a len cap zs) (h:len≤2000) (r:Int) (hr:65535 - SM.fold (SM.tot zs len)=r) :
  Calls Tryz.prog 216 #[.slice a len cap] w fun e w'=>e=.returned (.tuple #[.int .i64 r,.nilIface])∧Below w.heap.size w w':=by
 have b:=ki (of_ok a len cap zs w w0 h)
 have hb:=SM.tot_bd zs w0.2.2.1 len
 have hw:Word (SM.fold (SM.tot zs len)):=SM.fold_bd _ hb.1
 have d:=ki (not_ok _ w hw)
 have f:=ki hr
 clear hb hw w0 hr h
 generalize SM.fold (SM.tot zs len)=x at b d f
 go_enter Tryz.func216,Tryz.ntmps216
 go_wp2_with (first
  | (go_at_call 244;refine (unhide b).mono ?_;rintro e w' ⟨rfl,rfl⟩)
  | (go_at_call 259;refine (unhide d).mono ?_;rintro e w' ⟨rfl,hb⟩))
 go_ret2
 exact ⟨by rw[← f.o];rfl,hb⟩
end V4
namespace V4
def bys (s d t k i:Int) (body:List Int):List Int:=P4.hd s d t k i (20+body.length) (P4.ck s d t k i (20+body.length))++body
theorem encode_ok (s d t k i:Int) (a:Option Addr) (len cap:Nat) (body:List Int) (w:World) (h:Okp s d t k i) (hl:len≤320) (hr:Row8 w a len cap body) :
  Calls Tryz.prog 151 #[pk s d t k i a len cap] w fun e w'=>∃ v,e=.returned (.tuple #[v,.nilIface])∧Own w.heap.size w' v (bys s d t k i body)∧Below w.heap.size w w':=by
 have f:=ki (bx_below w s d t k i a len cap)
 have g:=ki (pk_new w s d t k i a len cap)
 have I:=ki (fun w=>check_ok s d t k i a len cap w h hl)
 have J:=ki (fun w=>header_ok s d t k i a len cap w h hl)
 have F:=ki (okp_okh h hl)
 have G:=hr.1
 have z:=P4.ck_in _ _ _ _ _ _ F.o
 have K:=ki (show 65535 - SM.fold (SM.tot (P4.hd s d t k i (20+len) 0) 20)=P4.ck s d t k i (20+len) from rfl)
 have L:=ki (P4.hd_oct s d t k i (20+len) 0 F.o (by omega))
 have A:=ki (P4.hd_oct s d t k i (20+len) _ F.o z)
 have C:=ki (show bys s d t k i body=P4.hd s d t k i (20+len) (P4.ck s d t k i (20+len))++body by unfold bys;rw[G])
 have Q:=ki hr
 generalize P4.ck s d t k i (20+(len:Int))=c at z K A C
 clear h hr
 unfold bx at f
 unfold pk at I J ⊢
 go_enter Tryz.func151,Tryz.ntmps151
 go_upto_region 8 with (first
  | (go_at_call 214;refine (I.o _).mono ?_;rintro e U ⟨rfl,o⟩;replace g:=ki (g.o.kept o);replace f:=ki (bt f.o o);clear o;obtain ⟨c0,c1,c2,c3,c4,c5⟩:=g.o.all)
  | (go_at_call 215;refine (J.o _).mono ?_;rintro e V ⟨B,rfl,R,b,q⟩;clear c0 c1 c2 c3 c4 c5;have l:=ki (show w.heap.size < B by have:=f.o.size;omega);replace b:=ki b;replace g:=ki (g.o.kept q);replace f:=ki (bt f.o q);clear q R)
  | (go_at_call 216;refine (checkof_ok _ 20 20 _ _ (b.o.row8 L.o 20 20 rfl (by decide)) (by omega) c K.o).mono ?_;rintro e y ⟨rfl,n⟩;replace b:=ki (b.o.kept n);replace g:=ki (g.o.kept n);replace f:=ki (bt f.o n);clear n))
 have r:=b.o.cell 10 (show 10 < 20 by omega)
 have x:=b.o.cell 11 (show 11 < 20 by omega)
 have M:=b.o.frozen 10
 have N:=b.o.frozen 11
 replace r:y.cell? ⟨B,10,none⟩=some (.int .u8 0):=r
 replace x:y.cell? ⟨B,11,none⟩=some (.int .u8 0):=x
 go_upto_region 9 with fail
 have D:=ki (show Blk B (P4.hd s d t k i (20+len) c) ((y.setCell ⟨B,10,none⟩ (.int .u8 (c / 256))).setCell ⟨B,11,none⟩ (.int .u8 (c % 256))) from (b.o.set 10 (c / 256)).set 11 (c % 256))
 replace g:=ki ((g.o.other ⟨B,10,none⟩ (Nat.ne_of_lt l.o) (.int .u8 (c / 256))).other ⟨B,11,none⟩ (Nat.ne_of_lt l.o) (.int .u8 (c % 256)))
 replace f:=ki ((f.o.setCell (p:=⟨B,10,none⟩) (Nat.le_of_lt l.o) (.int .u8 (c / 256))).setCell (p:=⟨B,11,none⟩) (Nat.le_of_lt l.o) (.int .u8 (c % 256)))
 clear r x M N b
 generalize (y.setCell ⟨B,10,none⟩ (.int .u8 (c / 256))).setCell ⟨B,11,none⟩ (.int .u8 (c % 256))=w4 at D g f ⊢
 obtain ⟨-,-,-,-,-,c5⟩:=g.o.all
 have E:=ki (D.o.own A.o w.heap.size 20 rfl (by decide) (Nat.le_of_lt l.o))
 have O:=ki (show (P4.hd s d t k i (20+len) c).length+len≤1000000000 by rw[P4.hd_len];omega)
 go_wp2_with (at_builtin;refine wpList_app rfl (.tmp 32) (.tmp 34) rfl _ _ _ rfl E.o a len cap body rfl (Q.o.below f.o) O.o f.o.size ?_;intro S W H T;replace H:=ki H;have P:=ki (f.o.grown T f.o.size (fun k h=>(E.o.2.lt k h).1)))
 go_ret2
 exact ⟨S,rfl,C.o ▸ H.o,P.o⟩
end V4
namespace V4
variable {B:Nat} {w:World}
attribute [local go_sem ↓] Go.wp_at_zero Go.wp_at_succ
theorem num_congr (xs ys:List Int) (n:Nat) (h:∀ j,j < n→xs.getD j 0=ys.getD j 0):num xs n=num ys n:=by
 induction n with
 | zero=>rfl
 | succ n ih=>simp only[num];rw[ih (fun j hj=>h j (by omega)),h n (by omega)]
theorem number_at (g off len cap:Nat) (zs:List Int) (w:World) (j n c:Nat) (hr:Row8 w (some ⟨g,off,none⟩) len cap zs) (h1:j+n≤len) (h2:n≤4) (h3:0 < n) :
  Calls Tryz.prog 261 #[.slice (some ⟨g,off+j,none⟩) n c] w fun e w'=>e=.returned (.int .i64 (num (zs.drop j) n))∧w'=w:=by
 have h:=hr.part j (j+n) (by omega) h1 (some ⟨g,off+j,none⟩) c (fun b o _ e=>by cases e;rfl) (fun e=>by cases e)
 rw[show j+n - j=n by omega] at h
 exact number_any _ n c _ w h2 h3 h _ (num_congr _ _ n fun i hi=>P4.getD_take hi)
theorem step_app {ops:Array Oper} {o:Oper} {a:Act} {K:Act→World→Prop} {Q:Exit→Act→World→Prop} {E:Prop} (hgd:o.guard=none) (s x:Operand)
  (ho:o.op=.call { callee:=.builtin .append,args:=#[s,x],argTypes:=#[37,37] })
  (base:Nat) (v:Value) (zs:List Int) (hs:a.eval s=v) (hown:Own base w v zs) (ao:Option Addr) (hao:∃ ad,ao=some ad) (len cap:Nat) (ys:List Int) (n:Nat) (hn:(zs++ys).length=n)
  (hx:a.eval x=.slice ao len cap) (hrow:Row8 w ao len cap ys) (hlen:zs.length+len≤1000000000) (hbase:base≤w.heap.size)
  (h:∀ a' c' w',Own base w' (.slice a' n c') (zs++ys)→w.grownBy w' v.ownBlock→K (a.put o.dst (.slice a' n c')) w'):if Region.wanted o (yielded ops a.tmps)=true then Oper.wp Tryz.prog o a w K Q else E:=by
 have hw:Region.wanted o (yielded ops a.tmps)=true:=by simp[Region.wanted,hgd]
 rw[if_pos hw]
 obtain ⟨ad,rfl⟩:=hao
 obtain ⟨l,p,g,i,k⟩:=info_parts Tryz.infoByte
 obtain ⟨r1,D,q,F,r⟩:=hrow
 refine wp_append_own w s x 37 ho base 5 l (.int .u8 0) 1 1 Tryz.underlying37 p g i k rfl (by decide) v zs.length _ hs hown.2 ad len cap (ys.map (Value.int .u8)) hx (by simp[r1]) ?_ (ints_oneCell .u8 ys) (by unfold maxLen;omega) (by omega) hbase ?_
 ·intro j u f
  have t:j < ys.length:=by
   have:=(List.getElem?_eq_some_iff.1 f).1
   simpa using this
  obtain ⟨b,d,y,z⟩:=r (by omega)
  have hc:=z j (by omega)
  obtain rfl:ad=⟨b,d,none⟩:=by simpa using y
  have e:(⟨b,d,none⟩:Addr).add j=⟨b,d+j,none⟩:=by unfold Addr.add;split <;> simp_all
  rw[e,hc]
  rw[List.getElem?_map] at f
  simp[t] at f ⊢
  exact f
 ·intro A w' B C _
  have ho:Own base w' A (zs++ys):=by
   refine ⟨SM.oct_append _ _ hown.1 q,?_⟩
   rw[List.map_append,List.length_append,r1]
   exact B
  obtain ⟨a',c',e,_,_⟩:=ho.row8
  rw[hn] at e
  rw[e] at ho ⊢
  exact h a' c' w' ho C
theorem PkIn.frz {s d t k i:Int} {a:Option Addr} {len cap:Nat} (h:PkIn B s d t k i a len cap w) :
  w.frozen? ⟨B,0,none⟩=false∧w.frozen? ⟨B,1,none⟩=false∧w.frozen? ⟨B,2,none⟩=false∧w.frozen? ⟨B,3,none⟩=false∧w.frozen? ⟨B,4,none⟩=false∧w.frozen? ⟨B,5,none⟩=false:=by
 unfold PkIn at h
 refine ⟨?_,?_,?_,?_,?_,?_⟩ <;> simp[World.frozen?,h]
def put6 (w:World) (B:Nat) (s d t k i:Int) (a:Option Addr) (len cap:Nat):World:=(((((w.setCell ⟨B,0,none⟩ (.int .i64 s)).setCell ⟨B,1,none⟩ (.int .i64 d)).setCell ⟨B,2,none⟩ (.int .i64 t)).setCell ⟨B,3,none⟩ (.int .i64 k)).setCell ⟨B,4,none⟩ (.int .i64 i)).setCell ⟨B,5,none⟩ (.slice a len cap)
theorem put6_below {base:Nat} {w0:World} (h:Below base w0 w) (hB:base≤B) (s d t k i:Int) (a:Option Addr) (len cap:Nat):Below base w0 (put6 w B s d t k i a len cap) :=
 (((((h.setCell (p:=⟨B,0,none⟩) hB _).setCell (p:=⟨B,1,none⟩) hB _).setCell (p:=⟨B,2,none⟩) hB _).setCell (p:=⟨B,3,none⟩) hB _).setCell (p:=⟨B,4,none⟩) hB _).setCell (p:=⟨B,5,none⟩) hB _
theorem put6_heap (w:World) (B g:Nat) (hg:g≠B) (s d t k i:Int) (a:Option Addr) (len cap:Nat):(put6 w B s d t k i a len cap).heap[g]? = w.heap[g]?:=by
 unfold put6
 rw[Below.heap_setCell _ _ _ g hg,Below.heap_setCell _ _ _ g hg,Below.heap_setCell _ _ _ g hg,Below.heap_setCell _ _ _ g hg,Below.heap_setCell _ _ _ g hg,Below.heap_setCell _ _ _ g hg]
theorem setCell_heap_same (w:World) (B j:Nat) (cs:Array Value) (t:TypeId) (v:Value) (h:w.heap[B]? = some (.cells cs t (0,0))):(w.setCell ⟨B,j,none⟩ v).heap[B]? = some (.cells (cs.setIfInBounds j v) t (0,0)):=by
 rw[setCell_eq_setRow w B j _ t (0,0) v h,setRow_heap w B _ _ t (0,0) h]
theorem put6_pk {s0 d0 t0 k0 i0:Int} {a0:Option Addr} {len0 cap0:Nat} (h:PkIn B s0 d0 t0 k0 i0 a0 len0 cap0 w) (s d t k i:Int) (a:Option Addr) (len cap:Nat):PkIn B s d t k i a len cap (put6 w B s d t k i a len cap) :=
 setCell_heap_same _ B 5 _ _ _ (setCell_heap_same _ B 4 _ _ _ (setCell_heap_same _ B 3 _ _ _ (setCell_heap_same _ B 2 _ _ _ (setCell_heap_same _ B 1 _ _ _ (setCell_heap_same _ B 0 _ _ _ h)))))
theorem Own.heap {base:Nat} {w':World} {v:Value} {zs:List Int} (h:Own base w v zs) (he:∀ g,base≤g→g < w.heap.size→w'.heap[g]? = w.heap[g]?):Own base w' v zs:=by
 refine ⟨h.1,h.2.1,?_⟩
 rcases h.2.2 with h2|⟨g,cap,cur,rfl,hb',hg,rest⟩
 ·exact .inl h2
 ·exact .inr ⟨g,cap,cur,rfl,hb',by rw[he g hb' (Array.getElem?_eq_some_iff.1 hg).1];exact hg,rest⟩
theorem Own.mono {base base':Nat} {v:Value} {zs:List Int} (h:Own base w v zs) (hb:base'≤base):Own base' w v zs:=by
 refine ⟨h.1,h.2.1,?_⟩
 rcases h.2.2 with h2|⟨g,cap,cur,rfl,hb',hg,rest⟩
 ·exact .inl h2
 ·exact .inr ⟨g,cap,cur,rfl,by omega,hg,rest⟩
theorem PkIn.grown {s d t k i:Int} {a:Option Addr} {len cap:Nat} {w':World} (h:PkIn B s d t k i a len cap w) (hg:w.grownBy w' none):PkIn B s d t k i a len cap w':=(hg.block _ h.lt (fun e=>by cases e)).trans h
theorem read_raw (g off len cap:Nat) (zs:List Int) (w:World) (hr:Row8 w (some ⟨g,off,none⟩) len cap zs) (h20:20≤len) (h340:len≤340) (hcl:len≤cap) (hcm:cap≤maxLen) :
  Calls Tryz.prog 217 #[.slice (some ⟨g,off,none⟩) len cap] w fun e w'=>∃ v,e=.returned (.agg #[.int .i64 (num (zs.drop 12) 4),.int .i64 (num (zs.drop 16) 4),.int .i64 (zs.getD 8 0),.int .i64 (zs.getD 9 0),.int .i64 (num (zs.drop 4) 2),v])∧Own w.heap.size w' v (zs.drop 20)∧Below w.heap.size w w':=by
 unfold maxLen at hcm
 have F:(len:Int)≤(cap:Int):=by omega
 have G:(20:Int)≤(len:Int):=by omega
 have O:(8:Int) < (len:Int):=by omega
 have P:(9:Int) < (len:Int):=by omega
 have Q:(6:Int)≤(cap:Int):=by omega
 have H:(16:Int)≤(cap:Int):=by omega
 have I:(20:Int)≤(cap:Int):=by omega
 have J:cap≠12:=by omega
 have K:cap≠16:=by omega
 have R:cap≠4:=by omega
 have l:Below w.heap.size w (w.alloc (.cells #[.int .i64 0,.int .i64 0,.int .i64 0,.int .i64 0,.int .i64 0,.slice none 0 0] 108)).drew:=((Below.refl _ _).alloc (Nat.le_refl _) _).drew
 have r:=ki (hr.below l)
 have a:=ki (show PkIn w.heap.size 0 0 0 0 0 none 0 0 (w.alloc (.cells #[.int .i64 0,.int .i64 0,.int .i64 0,.int .i64 0,.int .i64 0,.slice none 0 0] 108)).drew from pk_new w 0 0 0 0 0 none 0 0)
 have s:w.cell? ⟨g,off+8,none⟩=some (.int .u8 (zs.getD 8 0)):=by
  obtain ⟨-,-,-,-,x⟩:=hr
  obtain ⟨b,o,e,d⟩:=x (by omega)
  cases e
  exact d 8 (by omega)
 have A:w.cell? ⟨g,off+9,none⟩=some (.int .u8 (zs.getD 9 0)):=by
  obtain ⟨-,-,-,-,x⟩:=hr
  obtain ⟨b,o,e,d⟩:=x (by omega)
  cases e
  exact d 9 (by omega)
 have B:=hr.2.2.1 8
 have C:=hr.2.2.1 9
 have f:=(r.o.part 20 len h20 (Nat.le_refl _) (if cap=20 then some ⟨g,off,none⟩ else some ⟨g,off+20,none⟩) (cap - 20) (fun b o hlt e=>by cases e;rw[if_neg (by omega)]) (fun e=>by split at e <;> cases e))
 have n:∃ ad,(if cap=20 then some (⟨g,off,none⟩:Addr) else some ⟨g,off+20,none⟩)=some ad:=by split <;> exact ⟨_,rfl⟩
 obtain ⟨ao,hao⟩:∃ ao,(if cap=20 then some (⟨g,off,none⟩:Addr) else some ⟨g,off+20,none⟩)=ao:=⟨_,rfl⟩
 rw[hao] at f n
 have p:=ki (f.congr (show (zs.drop 20).take (len - 20)=zs.drop 20 from List.take_of_length_le (by rw[List.length_drop,hr.1];exact Nat.le_refl _)))
 have D:=ki n
 clear f n
 have L:=ki (show ([]++zs.drop 20).length=len - 20 by rw[List.nil_append,List.length_drop,hr.1])
 have y:=ki (show ([]:List Int).length+(len - 20)≤1000000000 by simp;omega)
 have i:=ki l
 have E:=ki (show w.heap.size+1≤(w.alloc (.cells #[.int .i64 0,.int .i64 0,.int .i64 0,.int .i64 0,.int .i64 0,.slice none 0 0] 108)).drew.heap.size by simp)
 have S:w.heap.size≠g:=World.new_ne w _ s
 clear hr l
 generalize zs.getD 8 0=z8 at s B ⊢
 generalize zs.getD 9 0=z9 at A C ⊢
 have T:IntKind.i64.wrap z8=z8:=by rw[IntKind.wrap_i64];omega
 have U:IntKind.i64.wrap z9=z9:=by rw[IntKind.wrap_i64];omega
 go_enter Tryz.func217,Tryz.ntmps217
 go_upto_region 1 with fail
 go_region_held3 (fun w'=>w'.cell? ⟨g,off+8,none⟩=some (.int .u8 z8)∧w'.cell? ⟨g,off+9,none⟩=some (.int .u8 z9))
  (first
   | go_keep
   | (go_split_ands;exact ⟨q.cell (by simp[*]) (by intro e;cases e),q.cell (by simp[*]) (by intro e;cases e)⟩))
  (first
   | (go_at_call 261;refine (number_at g off len cap zs _ _ _ _ r.o (by omega) (by omega) (by omega)).mono ?_;rintro e w' ⟨rfl,rfl⟩)
   | (refine step_app rfl (.const (.slice none 0 0)) (.tmp 21) rfl (w.heap.size+1) _ [] (by rfl) (Own.nil _ _) _ D.o (len - 20) (cap - 20) _ (len - 20) L.o (by rfl) p.o y.o E.o ?_;intro z c5 M N q;replace a:=ki (a.o.grown q);obtain ⟨f0,f1,V,W,X,Y⟩:=a.o.all;obtain ⟨Z,k1,k2,k3,k4,k5⟩:=a.o.frz))
 replace i:=ki (put6_below (i.o.grown q i.o.size (fun k h=>by cases h)) (Nat.le_refl _) (num (zs.drop 12) 4) (num (zs.drop 16) 4) z8 z9 (num (zs.drop 4) 2) z (len - 20) c5)
 have t:=ki ((N.heap (fun g hg _=>put6_heap M w.heap.size g (by omega) (num (zs.drop 12) 4) (num (zs.drop 16) 4) z8 z9 (num (zs.drop 4) 2) z (len - 20) c5)).mono (Nat.le_succ _))
 replace a:=ki (put6_pk a.o (num (zs.drop 12) 4) (num (zs.drop 16) 4) z8 z9 (num (zs.drop 4) 2) z (len - 20) c5)
 unfold put6 at i t a
 go_wp2
 try simp only[Exit.inBlock,Exit.then]
 refine bodyPost_ret (results_cell_row rfl _ _ w.heap.size 108 _ (0,0) _ rfl a.o Tryz.underlying108 rfl (by kernel_rfl)) rfl ?_
 exact ⟨_,rfl,by simpa using t.o,i.o⟩
end V4
namespace V4
variable {zs:List Int} {cap:Nat} {w:World}
theorem Row8.drewN {a:Option Addr} {len:Nat} (h:Row8 w a len cap zs) (n:Nat):Row8 (w.drewN n) a len cap zs:=h.below ((Below.refl _ _).trans ⟨rfl,rfl,rfl,Nat.le_refl _,fun _ _=>rfl⟩)
theorem row_take {g off len:Nat} (h:Row8 w (some ⟨g,off,none⟩) len cap zs) (n c:Nat) (hn:n≤len):Row8 w (some ⟨g,off,none⟩) n c (zs.take n):=by
 have:=h.part 0 n (by omega) hn (some ⟨g,off,none⟩) c (fun b o _ e=>by cases e;rfl) (fun e=>by cases e)
 simpa using this
theorem row_drop {g off len:Nat} (h:Row8 w (some ⟨g,off,none⟩) len cap zs) (n c:Nat) (hn:n≤len):Row8 w (some ⟨g,off+n,none⟩) (len - n) c (zs.drop n):=by
 have:=h.part n len hn (Nat.le_refl _) (some ⟨g,off+n,none⟩) c (fun b o _ e=>by cases e;rfl) (fun e=>by cases e)
 exact this.congr (List.take_of_length_le (by rw[List.length_drop,h.1];exact Nat.le_refl _))
theorem alike_any (gx ox lx cx gz oz lz cz:Nat) (xs zs:List Int) (w:World) (rx:Row8 w (some ⟨gx,ox,none⟩) lx cx xs) (rz:Row8 w (some ⟨gz,oz,none⟩) lz cz zs) (hx:20≤lx) (hz:20≤lz) (hxc:lx≤cx) (hzc:lz≤cz) (hxm:cx≤maxLen) (hzm:cz≤maxLen)
  (r:Bool) (hr:(xs.take 10=zs.take 10∧xs.drop 12=zs.drop 12)↔r=true) :
  Calls Tryz.prog 218 #[.slice (some ⟨gx,ox,none⟩) lx cx,.slice (some ⟨gz,oz,none⟩) lz cz] w fun e w'=>e=.returned (.bool r)∧∃ n,w'=w.drewN n:=by
 have f:=fun n=>row_take (rx.drewN n) 10 cx (by omega)
 have g:=fun n=>row_take (rz.drewN n) 10 cz (by omega)
 have h:=fun n=>row_drop (rx.drewN n) 12 (cx - 12) (by omega)
 have i:=fun n=>row_drop (rz.drewN n) 12 (cz - 12) (by omega)
 have b:=ki (fun r hr n=>equal_any _ _ _ _ _ _ _ _ _ (f n) (g n) r hr)
 have d:=ki (fun r hr n=>equal_any _ _ _ _ _ _ _ _ _ (h n) (i n) r hr)
 clear f g h i rx rz
 unfold maxLen at hxm hzm
 have o:(10:Int)≤(cx:Int):=by omega
 have p:(10:Int)≤(cz:Int):=by omega
 have q:(12:Int)≤(lx:Int):=by omega
 have s:(12:Int)≤(lz:Int):=by omega
 have t:(lx:Int)≤(cx:Int):=by omega
 have v:(lz:Int)≤(cz:Int):=by omega
 have x:cx≠12:=by omega
 have y:cz≠12:=by omega
 by_cases h1:xs.take 10=zs.take 10
 ·have a:=ki (b.o true (by simp[h1]))
  have k:=ki (d.o r (by rw[← hr];simp[h1]))
  clear b d h1 hr
  go_enter Tryz.func218,Tryz.ntmps218
  go_upto_region 1 with fail
  go_quiet (first
   | (go_at_call 191;with_reducible refine Calls.quiet_of_same (a.o _))
   | (go_at_call 191;with_reducible refine Calls.quiet_of_same (k.o _)))
  go_wp2
  go_ret
  exact ⟨rfl,_,rfl⟩
 ·have a:=ki (b.o false (by simp[h1]))
  have l:r=false:=by
   cases r
   ·rfl
   ·exact absurd (hr.2 rfl).1 h1
  subst l
  clear b d h1 hr
  go_enter Tryz.func218,Tryz.ntmps218
  go_upto_region 1 with fail
  go_quiet (first|(go_at_call 191;with_reducible refine Calls.quiet_of_same (a.o _)))
  go_wp2
  go_ret
  exact ⟨rfl,_,rfl⟩
end V4
namespace V4
theorem Own.form {base:Nat} {w:World} {v:Value} {zs:List Int} (h:Own base w v zs) (hp:0 < zs.length):∃ g cap,v=.slice (some ⟨g,0,none⟩) zs.length cap∧zs.length≤cap∧cap≤maxLen∧base≤g∧g < w.heap.size∧Row8 w (some ⟨g,0,none⟩) zs.length cap zs:=by
 obtain ⟨a,d,hv,b,e⟩:=h.row8
 rcases h.2.2 with ⟨rfl,hn⟩|⟨g,cap,cur,rfl,hb',hg,h1,h2,rest⟩
 ·omega
 ·injection hv with e1 _ e3
  subst e1
  subst e3
  exact ⟨g,_,rfl,h1,h2,hb',(Array.getElem?_eq_some_iff.1 hg).1,b⟩
theorem num_src (zs:List Int):num (zs.drop 12) 4=P4.src zs:=by
 simp only[num,P4.getD_drop,Nat.reduceAdd]
 unfold P4.src P4.wd
 simp only[Nat.reduceAdd]
 omega
theorem num_dst (zs:List Int):num (zs.drop 16) 4=P4.dst zs:=by
 simp only[num,P4.getD_drop,Nat.reduceAdd]
 unfold P4.dst P4.wd
 simp only[Nat.reduceAdd]
 omega
theorem num_wd (zs:List Int):num (zs.drop 4) 2=P4.wd zs 4:=by
 simp only[num,P4.getD_drop,Nat.reduceAdd]
 unfold P4.wd
 simp only[Nat.reduceAdd]
 omega
theorem read_ok (g off len cap:Nat) (zs:List Int) (w:World) (hr:Row8 w (some ⟨g,off,none⟩) len cap zs) (h20:20≤len) (h340:len≤340) (hcl:len≤cap) (hcm:cap≤maxLen) :
  Calls Tryz.prog 217 #[.slice (some ⟨g,off,none⟩) len cap] w fun e w'=>∃ a' c',e=.returned (pk (P4.src zs) (P4.dst zs) (zs.getD 8 0) (zs.getD 9 0) (P4.wd zs 4) a' (len - 20) c')∧Row8 w' a' (len - 20) c' (zs.drop 20)∧Own w.heap.size w' (.slice a' (len - 20) c') (zs.drop 20)∧Below w.heap.size w w':=by
 refine (read_raw g off len cap zs w hr h20 h340 hcl hcm).mono ?_
 rintro e w' ⟨v,rfl,b,hb⟩
 rw[num_src,num_dst,num_wd]
 have hl:(zs.drop 20).length=len - 20:=by rw[List.length_drop,hr.1]
 obtain ⟨a',c',hv,a,_⟩:=b.row8
 rw[hl] at hv a
 subst hv
 exact ⟨a',c',rfl,a,b,hb⟩
theorem okp_read (zs:List Int) (ho:SM.Oct zs) (hl:zs.length≤340):Okp (P4.src zs) (P4.dst zs) (zs.getD 8 0) (zs.getD 9 0) (P4.wd zs 4):=by
 obtain ⟨a,b,d,h4,e,_⟩:=P4.okh_len zs ho hl
 exact ⟨a,b,d,h4,e⟩
theorem bys_enc (zs:List Int) (h:20≤zs.length):bys (P4.src zs) (P4.dst zs) (zs.getD 8 0) (zs.getD 9 0) (P4.wd zs 4) (zs.drop 20)=P4.enc zs:=by
 unfold bys P4.enc P4.ckz
 have e:(20:Int)+((zs.drop 20).length:Nat)=(zs.length:Int):=by rw[List.length_drop];omega
 rw[e]
def err (k:Int):Value:=.iface 28 (.int .i64 k)
theorem decode_len (a:Option Addr) (len cap:Nat) (w:World) (h:len < 20∨340 < len) (hm:len≤maxLen) :
  Calls Tryz.prog 152 #[.slice a len cap] w fun e w'=>e=.returned (.tuple #[pk0,err 5])∧Below w.heap.size w w':=by
 unfold maxLen at hm
 have b:=ki (bx_below w 0 0 0 0 0 none 0 0)
 have d:=ki (pk_new w 0 0 0 0 0 none 0 0)
 unfold bx at b
 rcases h with h|h
 ·go_enter Tryz.func152,Tryz.ntmps152
  go_wp2
  try simp only[Exit.inBlock,Exit.then]
  refine bodyPost_ret (results_cr rfl _ _ w.heap.size 0 0 0 0 0 none 0 0 rfl d.o) rfl ?_
  exact ⟨rfl,b.o⟩
 ·have f:¬ len < 20:=by omega
  go_enter Tryz.func152,Tryz.ntmps152
  go_wp2
  try simp only[Exit.inBlock,Exit.then]
  refine bodyPost_ret (results_cr rfl _ _ w.heap.size 0 0 0 0 0 none 0 0 rfl d.o) rfl ?_
  exact ⟨rfl,b.o⟩
end V4
namespace V4
theorem Own.toRow {base:Nat} {w:World} {a:Option Addr} {n c:Nat} {zs:List Int} (h:Own base w (.slice a n c) zs):Row8 w a n c zs:=by
 obtain ⟨d,f,e,b,_⟩:=h.row8
 injection e with e1 e2 e3
 subst e1 e2 e3
 exact b
theorem decode_raw (g off len cap:Nat) (zs:List Int) (w:World) (hr:Row8 w (some ⟨g,off,none⟩) len cap zs) (h20:20≤len) (h340:len≤340) (hcl:len≤cap) (hcm:cap≤maxLen)
  (r1 r2:Bool) (h1:P4.Syn zs↔r1=true) (h2:(P4.enc zs=zs)↔r2=true) :
  Calls Tryz.prog 152 #[.slice (some ⟨g,off,none⟩) len cap] w fun e w'=>((r1=false∧e=.returned (.tuple #[pk0,err 5]))∨(r1=true∧r2=false∧e=.returned (.tuple #[pk0,err 6])) ∨
   (r1=true∧r2=true∧∃ a' c',e=.returned (.tuple #[pk (P4.src zs) (P4.dst zs) (zs.getD 8 0) (zs.getD 9 0) (P4.wd zs 4) a' (len - 20) c',.nilIface])∧(Row8 w' a' (len - 20) c' (zs.drop 20)∧len - 20≤c'∧c'≤maxLen)))∧Below w.heap.size w w':=by
 have V:=hr.1
 have D:=hr.2.2.1
 have A:=ki (bx_below w 0 0 0 0 0 none 0 0)
 have y:=ki (pk_new w 0 0 0 0 0 none 0 0)
 unfold bx at A
 have f:=ki (hr.below A.o)
 have l:=ki (fun W (h:Row8 W (some ⟨g,off,none⟩) len cap zs)=>read_ok g off len cap zs W h h20 h340 hcl hcm)
 have B:=ki (okp_read zs D (by omega))
 have p:=ki (bys_enc zs (by omega))
 have P:=ki ((P4.enc_len zs (by omega)).trans V)
 have M:=ki ((P4.like_iff zs D (by omega) (by omega)).trans h1)
 have N:=ki h2
 generalize P4.src zs=s at l B p ⊢
 generalize P4.dst zs=d at l B p ⊢
 generalize zs.getD 8 0=t at l B p ⊢
 generalize zs.getD 9 0=k at l B p ⊢
 generalize P4.wd zs 4=i at l B p ⊢
 have r:=ki (fun a' c' W (h:Row8 W a' (len - 20) c' (zs.drop 20))=>encode_ok s d t k i a' (len - 20) c' (zs.drop 20) W B.o (by omega) h)
 rw[p.o] at r
 have X:=hcm
 unfold maxLen at X
 unfold pk at l r
 clear hr D h1 h2 p
 go_enter Tryz.func152,Tryz.ntmps152
 go_upto_region 4 with (go_at_call 217;refine (l.o _ f.o).mono ?_;rintro e F ⟨x,c1,rfl,b,a,E⟩;replace a:=ki a;replace A:=ki (bt A.o E);replace y:=ki (y.o.kept E);replace f:=ki (f.o.below E);replace b:=ki b;clear E)
 have C:Below F.heap.size F (F.alloc (.cells #[.int .i64 s,.int .i64 d,.int .i64 t,.int .i64 k,.int .i64 i,.slice x (len - 20) c1] 108)):=(Below.refl _ _).alloc (Nat.le_refl _) _
 have G:=ki (pk_new F s d t k i x (len - 20) c1)
 replace A:=ki (bt A.o C)
 replace y:=ki (y.o.kept C)
 replace f:=ki (f.o.below C)
 replace b:=ki (b.o.below C)
 replace a:=ki (a.o.kept C)
 rw[World.size_alloc] at a
 clear C
 have Z:=y.o.lt
 generalize F.alloc (.cells #[.int .i64 s,.int .i64 d,.int .i64 t,.int .i64 k,.int .i64 i,.slice x (len - 20) c1] 108)=W at G A y f b a Z ⊢
 obtain ⟨c0,Q,c2,c3,c4,c5⟩:=G.o.all
 go_upto_region 5 with (go_at_call 151;refine (r.o x c1 _ b.o).mono ?_;rintro e H ⟨v,rfl,R,z⟩;obtain ⟨gE,cE,rfl,S,T,-,-,q⟩:=R.form (by rw[P.o];omega);rw[P.o] at S q ⊢;replace A:=ki (bt A.o z);replace y:=ki (y.o.kept z);replace G:=ki (G.o.kept z);replace f:=ki (f.o.below z);replace b:=ki (b.o.below z);replace a:=ki (a.o.kept z);replace q:=ki q;clear z R c0 Q c2 c3 c4 c5)
 have I:=ki (alike_any gE 0 len cE g off len cap _ _ H q.o f.o h20 h20 S hcl T hcm r1 M.o)
 have U:=ki (fun n=>equal_any _ _ _ _ _ _ _ _ _ (q.o.drewN n) (f.o.drewN n) r2 N.o)
 have Y:=T
 unfold maxLen at Y
 obtain ⟨c0,Q,c2,c3,c4,c5⟩:=y.o.all
 obtain ⟨k0,k1,k2,k3,k4,k5⟩:=y.o.frz
 have J:=ki (fun n=>show PkIn w.heap.size 0 0 0 0 0 none 0 0 (H.drewN n) from y.o)
 have K:=ki (fun n=>show Below w.heap.size w (H.drewN n) from A.o.trans ⟨rfl,rfl,rfl,Nat.le_refl _,fun _ _=>rfl⟩)
 cases r1
 ·go_wp2_with (go_at_call 218;refine I.o.mono ?_;rintro e O ⟨rfl,n,rfl⟩)
  try simp only[Exit.inBlock,Exit.then]
  refine bodyPost_ret (results_cr rfl _ _ w.heap.size 0 0 0 0 0 none 0 0 rfl (put6_pk (J.o n) 0 0 0 0 0 none 0 0)) rfl ?_
  have o:=put6_below (K.o n) (Nat.le_refl _) 0 0 0 0 0 none 0 0
  first
  | exact ⟨rfl,o⟩
  | exact ⟨.inl ⟨rfl,rfl⟩,o⟩
 ·cases r2
  ·go_wp2_with (first
    | (go_at_call 218;refine I.o.mono ?_;rintro e O ⟨rfl,n,rfl⟩)
    | (go_at_call 191;refine (U.o _).mono ?_;rintro e O ⟨rfl,rfl⟩))
   try simp only[Exit.inBlock,Exit.then]
   refine bodyPost_ret (results_cr rfl _ _ w.heap.size 0 0 0 0 0 none 0 0 rfl (put6_pk (J.o n) 0 0 0 0 0 none 0 0)) rfl ?_
   have o:=put6_below (K.o n) (Nat.le_refl _) 0 0 0 0 0 none 0 0
   first
   | exact ⟨rfl,o⟩
   | exact ⟨.inr (.inl ⟨rfl,rfl,rfl⟩),o⟩
  ·obtain ⟨e0,e1,e2,e3,e4,e5⟩:=G.o.all
   go_wp2_with (first
    | (go_at_call 218;refine I.o.mono ?_;rintro e O ⟨rfl,n,rfl⟩)
    | (go_at_call 191;refine (U.o _).mono ?_;rintro e O ⟨rfl,rfl⟩))
   try simp only[Exit.inBlock,Exit.then]
   refine bodyPost_ret (results_cr rfl _ _ w.heap.size s d t k i x (len - 20) c1 rfl (put6_pk (J.o n) s d t k i x (len - 20) c1)) rfl ?_
   have o:=put6_below (K.o n) (Nat.le_refl _) s d t k i x (len - 20) c1
   have L:Row8 (put6 (H.drewN n) w.heap.size s d t k i x (len - 20) c1) x (len - 20) c1 (zs.drop 20):=(a.o.heap (fun g hg _=>put6_heap (H.drewN n) w.heap.size g (by omega) s d t k i x (len - 20) c1)).toRow
   first
   | exact ⟨⟨x,c1,rfl,L,⟨by have h9:=a.o.caps.1;omega,a.o.caps.2⟩⟩,o⟩
   | exact ⟨.inr (.inr ⟨rfl,rfl,x,c1,rfl,L,⟨by have h9:=a.o.caps.1;omega,a.o.caps.2⟩⟩),o⟩
end V4
end Go.Proofs.YtgcojnlngchllaaGreatDoor
