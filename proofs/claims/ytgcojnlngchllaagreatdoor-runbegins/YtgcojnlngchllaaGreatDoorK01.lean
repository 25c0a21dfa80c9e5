/- Plain facts on numbers and lists: what folding to 16 bits leaves, and totals of bytes in pairs. Packets of fours in numbers: the head's twenty bytes, its check, and what a turned bit does to it. Packets of fours in numbers, second part: bytes read as a packet and written again; letters of bytes. An address of eight numbers as a value of the program's, and Check by a contract; slices of bytes that the call itself has made; Bytes by contracts. A slice of bytes that the call itself has made, and append onto it, as laws for a walk; string(b) of bytes, and parts of slices. How much room an own slice of bytes has. -/
import Derived.Test.YtgcojnlngchllaaGreatDoorProg
import Derived.OpenShut
import Derived.WalkKit
import Derived.LaidEql
import Derived.BigQuiet
import Derived.Laws.AppendOwnNone
import Derived.Deep.RegionLaw
import Derived.Lib.Bytes
namespace Go.Proofs.YtgcojnlngchllaaGreatDoor
open Go.RowKit
set_option linter.unusedVariables false
set_option maxRecDepth 100000
set_option maxHeartbeats 40000000
section
namespace SM
def fold (n:Int):Int:=if n=0 then 0 else (n - 1) % 65535+1
theorem fold_small (n:Int) (_h0:0≤n) (_h:n≤65535):fold n=n:=by
 unfold fold;split <;> omega
theorem fold_bd (n:Int) (_h0:0≤n):0≤fold n∧fold n≤65535:=by
 unfold fold;split <;> omega
theorem fold_step (n:Int) (_h:65535 < n):fold (n / 65536+n % 65536)=fold n:=by
 unfold fold
 rw[if_neg (by omega),if_neg (by omega)];omega
def tot (zs:List Int):Nat→Int
 | 0=>0
 | k+1=>tot zs k+if k % 2=0 then zs.getD k 0*256 else zs.getD k 0
def Oct (zs:List Int):Prop:=∀ k:Nat,0≤zs.getD k 0∧zs.getD k 0≤255
theorem tot_bd (zs:List Int) (h:Oct zs) (k:Nat):0≤tot zs k∧tot zs k≤65280*(k:Int):=by
 induction k with
 | zero=>simp[tot]
 | succ k ih =>
  have a:=h k
  simp only[tot]
  split <;> omega
theorem tot_even (zs:List Int) (k:Nat) (h:k % 2=0):tot zs (k+1)=tot zs k+zs.getD k 0*256:=by
 simp only[tot];rw[if_pos h]
theorem tot_odd (zs:List Int) (k:Nat) (h:k % 2=1):tot zs (k+1)=tot zs k+zs.getD k 0:=by
 simp only[tot];rw[if_neg (by omega)]
theorem tot_set (zs:List Int) (i:Nat) (v:Int) (hi:i < zs.length) (k:Nat):tot (zs.set i v) k=tot zs k+if i < k then (v - zs.getD i 0)*(if i % 2=0 then 256 else 1) else 0:=by
 induction k with
 | zero=>simp[tot]
 | succ k ih =>
  simp only[tot]
  rw[ih]
  by_cases h:i=k
  ·subst h
   have e:(zs.set i v).getD i 0=v:=by simp[hi]
   rw[e,if_neg (show ¬ i < i by omega),if_pos (show i < i+1 by omega)]
   split <;> omega
  ·have e:(zs.set i v).getD k 0=zs.getD k 0:=by simp[h]
   rw[e]
   by_cases h2:i < k
   ·rw[if_pos h2,if_pos (show i < k+1 by omega)];omega
   ·rw[if_neg h2,if_neg (show ¬ i < k+1 by omega)];omega
theorem oct_nil:Oct []:=fun k=>by simp
theorem oct_set (zs:List Int) (h:Oct zs) (i:Nat) (v:Int) (h0:0≤v) (h1:v≤255):Oct (zs.set i v):=by
 intro k
 have a:=h k
 simp only[List.getD_eq_getElem?_getD,List.getElem?_set] at a ⊢
 split
 ·split <;> simp <;> omega
 ·exact a
theorem oct_append (xs ys:List Int) (hx:Oct xs) (hy:Oct ys):Oct (xs++ys):=by
 intro k
 have a:=hx k
 have b:=hy (k - xs.length)
 simp only[List.getD_eq_getElem?_getD,List.getElem?_append] at a b ⊢
 split
 ·exact a
 ·exact b
theorem oct_take (xs:List Int) (hx:Oct xs) (n:Nat):Oct (xs.take n):=by
 intro k
 have a:=hx k
 simp only[List.getD_eq_getElem?_getD,List.getElem?_take] at a ⊢
 split
 ·exact a
 ·simp
end SM
def Row8 (w:World) (a:Option Addr) (len cap:Nat) (zs:List Int):Prop :=
 zs.length=len∧len≤maxLen∧SM.Oct zs∧(a=none→len=0∧cap=0)∧(0 < len→∃ b off,a=some ⟨b,off,none⟩∧∀ i,i < len→w.cell? ⟨b,off+i,none⟩=some (.int .u8 (zs.getD i 0)))
theorem Row8.below {w w':World} {a:Option Addr} {len cap:Nat} {zs:List Int} (h:Row8 w a len cap zs) (hb:Below w.heap.size w w'):Row8 w' a len cap zs:=by
 obtain ⟨f,g,k,h4,l⟩:=h
 refine ⟨f,g,k,h4,fun hp=>?_⟩
 obtain ⟨b,d,n,o⟩:=l hp
 refine ⟨b,d,n,fun i hi=>?_⟩
 have hc:=o i hi
 have e:b < w.heap.size:=World.block_lt_of_cell? w _ hc
 rw[hb.cell (p:=⟨b,d+i,none⟩) e];exact hc
theorem Row8.grown {w w':World} {a:Option Addr} {len cap:Nat} {zs:List Int} {row:Option Nat} (h:Row8 w a len cap zs) (hb:w.grownBy w' row) (hne:∀ b off,a=some ⟨b,off,none⟩→some b≠row):Row8 w' a len cap zs:=by
 obtain ⟨e,f,g,h4,k⟩:=h
 refine ⟨e,f,g,h4,fun hp=>?_⟩
 obtain ⟨b,off,d,l⟩:=k hp
 exact ⟨b,off,d,fun i hi=>hb.cell (l i hi) (hne b off d)⟩
end
section
namespace P4
open SM
def hd (s d t k i n c:Int):List Int:=[69,0,n / 256,n % 256,i / 256,i % 256,64,0,t,k,c / 256,c % 256,s / 16777216,s / 65536 % 256,s / 256 % 256,s % 256,d / 16777216,d / 65536 % 256,d / 256 % 256,d % 256]
def Okh (s d t k i n:Int):Prop:=(0≤s∧s≤4294967295)∧(0≤d∧d≤4294967295)∧(0≤t∧t≤255)∧(0≤k∧k≤255)∧(0≤i∧i≤65535)∧(0≤n∧n≤65535)
theorem hd_len (s d t k i n c:Int):(hd s d t k i n c).length=20:=rfl
theorem hd_oct (s d t k i n c:Int) (h:Okh s d t k i n) (hc:0≤c∧c≤65535):Oct (hd s d t k i n c):=by
 obtain ⟨hs,hd,a,b,e,hn⟩:=h
 intro j
 rcases Nat.lt_or_ge j 20 with hj|hj
 ·rcases (by omega:j=0∨j=1∨j=2∨j=3∨j=4∨j=5∨j=6∨j=7∨j=8∨j=9∨j=10∨j=11∨j=12∨j=13∨j=14∨j=15∨j=16∨j=17∨j=18∨j=19) with rfl|rfl|rfl|rfl|rfl|rfl|rfl|rfl|rfl|rfl|rfl|rfl|rfl|rfl|rfl|rfl|rfl|rfl|rfl|rfl <;> simp only[P4.hd,List.getD_cons_zero,List.getD_cons_succ] <;> omega
 ·rw[List.getD_eq_getElem?_getD,List.getElem?_eq_none (by rw[hd_len];omega)]
  simp
def ck (s d t k i n:Int):Int:=65535 - fold (tot (hd s d t k i n 0) 20)
theorem ck_in (s d t k i n:Int) (h:Okh s d t k i n):0≤ck s d t k i n∧ck s d t k i n≤65535:=by
 have a:=tot_bd (hd s d t k i n 0) (hd_oct s d t k i n 0 h (by omega)) 20
 have b:=fold_bd _ a.1
 unfold ck
 omega
def wd (z:List Int) (j:Nat):Int:=256*z.getD j 0+z.getD (j+1) 0
def src (z:List Int):Int:=65536*wd z 12+wd z 14
def dst (z:List Int):Int:=65536*wd z 16+wd z 18
def Syn (z:List Int):Prop:=20≤z.length∧z.length≤340∧wd z 0=69*256∧wd z 2=z.length∧wd z 6=64*256
theorem okh_of (z:List Int) (ho:Oct z) (h:Syn z):Okh (src z) (dst z) (z.getD 8 0) (z.getD 9 0) (wd z 4) z.length:=by
 have h4:=ho 4;have k:=ho 5;have h8:=ho 8;have l:=ho 9
 have h12:=ho 12;have a:=ho 13;have b:=ho 14;have d:=ho 15
 have e:=ho 16;have f:=ho 17;have g:=ho 18;have i:=ho 19
 obtain ⟨n,o,_,_,_⟩:=h
 unfold Okh src dst wd
 simp only[Nat.reduceAdd]
 omega
theorem hd_of (z:List Int) (ho:Oct z) (h:Syn z) (j:Nat) (hj:j < 20):z.getD j 0=(hd (src z) (dst z) (z.getD 8 0) (z.getD 9 0) (wd z 4) z.length (wd z 10)).getD j 0:=by
 have n:=ho 0;have o:=ho 1;have p:=ho 2;have q:=ho 3;have h4:=ho 4;have r:=ho 5;have s:=ho 6;have t:=ho 7
 have a:=ho 10;have b:=ho 11
 have h12:=ho 12;have d:=ho 13;have e:=ho 14;have f:=ho 15
 have g:=ho 16;have i:=ho 17;have k:=ho 18;have l:=ho 19
 obtain ⟨v,w,x,y,A⟩:=h
 unfold src dst
 unfold wd at *
 simp only[Nat.reduceAdd] at *
 rcases (by omega:j=0∨j=1∨j=2∨j=3∨j=4∨j=5∨j=6∨j=7∨j=8∨j=9∨j=10∨j=11∨j=12∨j=13∨j=14∨j=15∨j=16∨j=17∨j=18∨j=19) with rfl|rfl|rfl|rfl|rfl|rfl|rfl|rfl|rfl|rfl|rfl|rfl|rfl|rfl|rfl|rfl|rfl|rfl|rfl|rfl <;> simp only[P4.hd,List.getD_cons_zero,List.getD_cons_succ] <;> omega
theorem list_of (z:List Int) (ho:Oct z) (h:Syn z):z=hd (src z) (dst z) (z.getD 8 0) (z.getD 9 0) (wd z 4) z.length (wd z 10)++z.drop 20:=by
 have hl:=h.1
 apply List.ext_getElem?
 intro j
 rcases Nat.lt_or_ge j 20 with hj|hj
 ·rw[List.getElem?_append_left (by rw[hd_len];exact hj)]
  have:=hd_of z ho h j hj
  rw[List.getD_eq_getElem?_getD,List.getD_eq_getElem?_getD,List.getElem?_eq_getElem (by omega),List.getElem?_eq_getElem (by rw[hd_len];exact hj)] at this
  rw[List.getElem?_eq_getElem (by omega),List.getElem?_eq_getElem (by rw[hd_len];exact hj)]
  exact congrArg some this
 ·rw[List.getElem?_append_right (by rw[hd_len];exact hj),hd_len,List.getElem?_drop,show 20+(j - 20)=j by omega]
theorem fold_full (T:Int) (h0:0≤T) (h:fold T=65535):0 < T∧T % 65535=0:=by
 unfold fold at h
 split at h <;> omega
theorem turned (z:List Int) (ho:Oct z) (hl:20≤z.length) (hz:fold (tot z 20)=65535) (j:Nat) (hj:j < 20) (v:Int) (hv:0≤v∧v≤255) (hne:v≠z.getD j 0):fold (tot (z.set j v) 20)≠65535:=by
 intro h
 have d:=fold_full _ (tot_bd z ho 20).1 hz
 have e:=fold_full _ (tot_bd _ (oct_set z ho j v hv.1 hv.2) 20).1 h
 have b:=tot_set z j v (by omega) 20
 rw[if_pos hj] at b
 have f:=ho j
 generalize tot (z.set j v) 20=T' at e b
 generalize tot z 20=T at d b
 generalize z.getD j 0=x at f hne b
 split at b <;> omega
end P4
end
section
namespace P4
open SM
theorem ext_getD {xs ys:List Int} (hl:xs.length=ys.length) (h:∀ j,j < ys.length→xs.getD j 0=ys.getD j 0):xs=ys:=by
 apply List.ext_getElem hl
 intro j b a
 have:=h j a
 simpa [List.getD_eq_getElem?_getD,List.getElem?_eq_getElem b,List.getElem?_eq_getElem a] using this
theorem getD_take {xs:List Int} {n j:Nat} (h:j < n):(xs.take n).getD j 0=xs.getD j 0:=by
 simp[List.getD_eq_getElem?_getD,h]
theorem getD_drop {xs:List Int} {n j:Nat}:(xs.drop n).getD j 0=xs.getD (n+j) 0:=by
 simp[List.getD_eq_getElem?_getD,List.getElem?_drop]
theorem oct_drop (xs:List Int) (h:Oct xs) (n:Nat):Oct (xs.drop n):=fun j=>by rw[getD_drop];exact h _
theorem okh_len (z:List Int) (ho:Oct z) (l1:z.length≤340):Okh (src z) (dst z) (z.getD 8 0) (z.getD 9 0) (wd z 4) z.length:=by
 have h4:=ho 4;have i:=ho 5;have h8:=ho 8;have k:=ho 9
 have h12:=ho 12;have a:=ho 13;have b:=ho 14;have d:=ho 15
 have e:=ho 16;have f:=ho 17;have g:=ho 18;have h:=ho 19
 unfold Okh src dst wd
 simp only[Nat.reduceAdd]
 omega
def ckz (z:List Int):Int:=ck (src z) (dst z) (z.getD 8 0) (z.getD 9 0) (wd z 4) z.length
def enc (z:List Int):List Int:=hd (src z) (dst z) (z.getD 8 0) (z.getD 9 0) (wd z 4) z.length (ckz z)++z.drop 20
theorem enc_len (z:List Int) (h:20≤z.length):(enc z).length=z.length:=by
 unfold enc
 rw[List.length_append,hd_len,List.length_drop]
 omega
theorem enc_lo (z:List Int) (j:Nat) (hj:j < 20):(enc z).getD j 0=(hd (src z) (dst z) (z.getD 8 0) (z.getD 9 0) (wd z 4) z.length (ckz z)).getD j 0:=by
 unfold enc
 generalize hH:hd (src z) (dst z) (z.getD 8 0) (z.getD 9 0) (wd z 4) z.length (ckz z)=H
 have hl:H.length=20:=by rw[← hH];rfl
 rw[List.getD_eq_getElem?_getD,List.getD_eq_getElem?_getD,List.getElem?_append_left (by omega)]
theorem enc_hi (z:List Int) (ho:Oct z) (j:Nat) (hj:12≤j):(enc z).getD j 0=z.getD j 0:=by
 rcases Nat.lt_or_ge j 20 with h|h
 ·rw[enc_lo z j h]
  have h12:=ho 12;have a:=ho 13;have b:=ho 14;have d:=ho 15
  have e:=ho 16;have f:=ho 17;have g:=ho 18;have i:=ho 19
  unfold src dst wd
  simp only[Nat.reduceAdd]
  rcases (by omega:j=12∨j=13∨j=14∨j=15∨j=16∨j=17∨j=18∨j=19) with rfl|rfl|rfl|rfl|rfl|rfl|rfl|rfl <;> simp only[P4.hd,List.getD_cons_zero,List.getD_cons_succ] <;> omega
 ·unfold enc
  generalize hH:hd (src z) (dst z) (z.getD 8 0) (z.getD 9 0) (wd z 4) z.length (ckz z)=H
  have hl:H.length=20:=by rw[← hH];rfl
  rw[List.getD_eq_getElem?_getD,List.getD_eq_getElem?_getD,List.getElem?_append_right (by omega),hl,List.getElem?_drop,show 20+(j - 20)=j by omega]
theorem like_iff (z:List Int) (ho:Oct z) (l0:20≤z.length) (l1:z.length≤340):((enc z).take 10=z.take 10∧(enc z).drop 12=z.drop 12)↔Syn z:=by
 constructor
 ·rintro ⟨h,_⟩
  have g:∀ j,j < 10→(hd (src z) (dst z) (z.getD 8 0) (z.getD 9 0) (wd z 4) z.length (ckz z)).getD j 0=z.getD j 0:=fun j hj=>by
   rw[← enc_lo z j (by omega),← getD_take (xs:=enc z) hj,h,getD_take hj]
  have g0:=g 0 (by omega);have d:=g 1 (by omega);have e:=g 2 (by omega);have f:=g 3 (by omega);have g6:=g 6 (by omega);have i:=g 7 (by omega)
  simp only[P4.hd,List.getD_cons_zero,List.getD_cons_succ] at g0 d e f g6 i
  refine ⟨l0,l1,?_,?_,?_⟩ <;> unfold wd <;> simp only[Nat.reduceAdd] <;> omega
 ·intro h
  have k:=hd_of z ho h
  constructor
  ·apply ext_getD (by rw[List.length_take,List.length_take,enc_len z l0])
   intro j hj
   rw[List.length_take] at hj
   have b:j < 10:=by omega
   rw[getD_take b,getD_take b,k j (by omega),enc_lo z j (by omega)]
   rcases (by omega:j=0∨j=1∨j=2∨j=3∨j=4∨j=5∨j=6∨j=7∨j=8∨j=9) with rfl|rfl|rfl|rfl|rfl|rfl|rfl|rfl|rfl|rfl <;> rfl
  ·apply ext_getD (by rw[List.length_drop,List.length_drop,enc_len z l0])
   intro j _
   rw[getD_drop,getD_drop,enc_hi z ho _ (by omega)]
theorem same_iff (z:List Int) (ho:Oct z) (h:Syn z):enc z=z↔wd z 10=ckz z:=by
 have b:=ck_in _ _ _ _ _ _ (okh_of z ho h)
 have d:0≤ckz z∧ckz z≤65535:=b
 constructor
 ·intro e
  have g0:=enc_lo z 10 (by omega)
  have a:=enc_lo z 11 (by omega)
  rw[e] at g0 a
  simp only[P4.hd,List.getD_cons_zero,List.getD_cons_succ] at g0 a
  unfold wd
  simp only[Nat.reduceAdd]
  omega
 ·intro e
  have:=list_of z ho h
  rw[e] at this
  exact this.symm
def Good (z:List Int):Prop:=Syn z∧wd z 10=ckz z
theorem good_enc (z:List Int) (ho:Oct z) (h:Good z):enc z=z:=(same_iff z ho h.1).2 h.2
def str8 (zs:List Int):ByteArray:=⟨(zs.map fun x=>UInt8.ofNat x.toNat).toArray⟩
theorem u8_inj {a b:Int} (ha:0≤a∧a≤255) (hb:0≤b∧b≤255) (h:UInt8.ofNat a.toNat=UInt8.ofNat b.toNat):a=b:=by
 have:=congrArg UInt8.toNat h
 simp only[UInt8.toNat_ofNat'] at this
 omega
theorem str8_inj {xs ys:List Int} (hx:Oct xs) (hy:Oct ys) (h:str8 xs=str8 ys):xs=ys:=by
 have d:(xs.map fun x=>UInt8.ofNat x.toNat)=ys.map fun x=>UInt8.ofNat x.toNat:=by
  unfold str8 at h
  simpa using h
 have hl:xs.length=ys.length:=by simpa using congrArg List.length d
 apply ext_getD hl
 intro j e
 have:=congrArg (fun l=>l[j]?) d
 simp only[List.getElem?_map,List.getElem?_eq_getElem e,List.getElem?_eq_getElem (show j < xs.length by omega),Option.map_some] at this
 have a:=hx j
 have b:=hy j
 simp only[List.getD_eq_getElem?_getD,List.getElem?_eq_getElem e,List.getElem?_eq_getElem (show j < xs.length by omega),Option.getD_some] at a b ⊢
 exact u8_inj a b (Option.some.inj this)
end P4
end
end Go.Proofs.YtgcojnlngchllaaGreatDoor
namespace Go.RowKit
theorem Hid.o{p:Prop}(h:Hid p):p:=h
end Go.RowKit
namespace Go.Proofs.YtgcojnlngchllaaGreatDoor
open Go.RowKit
set_option linter.unusedVariables false
set_option maxRecDepth 100000
set_option maxHeartbeats 40000000
section
variable {z:List Int} {B:Nat} {e:TypeId} {v:Value} {w w':World}
theorem add_pl (b o j:Nat):(⟨b,o,none⟩:Addr).add j=⟨b,o+j,none⟩:=by simp[Addr.add]
def el (z:List Int) (k:Nat):Int:=z.getD k 0
theorem ki {p:Prop} (h:p):Hid p:=h
theorem unhide {p:Prop} (h:Hid p):p:=h.o
theorem bt {a b c:World} (h1:Below a.heap.size a b) (h2:Below b.heap.size b c):Below a.heap.size a c:=h1.trans (h2.mono h1.size)
def six (z:List Int):Value:=.agg #[.int .i64 (el z 0),.int .i64 (el z 1),.int .i64 (el z 2),.int .i64 (el z 3),.int .i64 (el z 4),.int .i64 (el z 5),.int .i64 (el z 6),.int .i64 (el z 7)]
def sixC (z:List Int):Array Value:=#[.int .i64 (el z 0),.int .i64 (el z 1),.int .i64 (el z 2),.int .i64 (el z 3),.int .i64 (el z 4),.int .i64 (el z 5),.int .i64 (el z 6),.int .i64 (el z 7)]
theorem six_index (z:List Int) (k:Nat) (hk:k < 8) (w:World):(Instr.index 23 (six z) (.int .i64 k)).run Tryz.prog w=.ok (.int .i64 (el z k)) w:=by
 rcases (by omega:k=0∨k=1∨k=2∨k=3∨k=4∨k=5∨k=6∨k=7) with rfl|rfl|rfl|rfl|rfl|rfl|rfl|rfl <;> kernel_rfl
def Word (n:Int):Prop:=0≤n∧n≤65535
def Ok6 (z:List Int):Prop:=∀ k,k < 8→Word (el z k)
theorem check_any (z:List Int) (w:World):Calls Tryz.prog 70 #[six z] w fun e w'=>((Ok6 z∧e=.returned .nilIface)∨(¬ Ok6 z∧e=.returned (.iface 28 (.int .i64 1))))∧w'=w.alloc (.cells (sixC z) 23):=by
 unfold six
 go_enter Tryz.func70,Tryz.ntmps70
 go_wp2
 go_loop [6] (fun t=>∃ k:Nat,k≤8∧(∀ j,j < k→Word (el z j))∧t=.int .i64 k) (fun t=>8 - (intOf t).toNat)
 case atStart=>exact ⟨0,by omega,fun i hi=>absurd hi (by omega),rfl⟩
 case round =>
  obtain ⟨k,d,a,rfl⟩:=hrel
  have HI:=ki a
  clear a
  by_cases hlt:k < 8
  ·have hi:=fun w=>six_index z k hlt w
   unfold six at hi
   generalize hzk:el z k=x at hi
   have b:=ki hzk
   clear hzk
   by_cases hz0:x < 0
   ·go_wp2
    go_ret
    exact ⟨.inr ⟨fun h=>absurd (h k hlt).1 (by rw[b.o];omega),rfl⟩,rfl⟩
   ·by_cases hz1:65535 < x
    ·go_wp2
     go_ret
     exact ⟨.inr ⟨fun h=>absurd (h k hlt).2 (by rw[b.o];omega),rfl⟩,rfl⟩
    ·go_wp2
     go_round
     case rel=>exact ⟨k+1,by omega,fun i hi=>if h:i=k then by subst h;rw[b.o];exact ⟨by omega,by omega⟩ else HI.o i (by omega),by go_num⟩
     case measure=>simp[intOf];omega
  ·go_wp2
   go_ret
   obtain rfl:k=8:=by omega
   exact ⟨.inl ⟨HI.o,rfl⟩,rfl⟩
theorem check_ok (z:List Int) (w:World) (h:Ok6 z):Calls Tryz.prog 70 #[six z] w fun e w'=>e=.returned .nilIface∧w'=w.alloc (.cells (sixC z) 23) :=
 (check_any z w).mono fun e w' hh=>by
  rcases hh with ⟨⟨_,he⟩|⟨hn,_⟩,hw⟩
  ·exact ⟨he,hw⟩
  ·exact absurd h hn
theorem check_bad (z:List Int) (w:World) (h:¬ Ok6 z):Calls Tryz.prog 70 #[six z] w fun e w'=>e=.returned (.iface 28 (.int .i64 1))∧w'=w.alloc (.cells (sixC z) 23) :=
 (check_any z w).mono fun e w' hh=>by
  rcases hh with ⟨⟨hn,_⟩|⟨_,he⟩,hw⟩
  ·exact absurd hn h
  ·exact ⟨he,hw⟩
def SixIn (B:Nat) (z:List Int) (w:World):Prop:=w.heap[B]? = some (.cells (sixC z) 23 (0,0))
theorem SixIn.lt (h:SixIn B z w):B < w.heap.size:=(Array.getElem?_eq_some_iff.1 h).1
theorem SixIn.kept (h:SixIn B z w) (hb:Below w.heap.size w w'):SixIn B z w':=(hb.block B h.lt).trans h
theorem SixIn.facts (h:SixIn B z w) (j:Nat) (hj:j < 8):w.cell? ⟨B,j,none⟩=some (.int .i64 (el z j))∧w.frozen? ⟨B,j,none⟩=false∧w.setCell ⟨B,j,none⟩ (.int .i64 (el z j))=w:=by
 unfold SixIn at h
 have hc:(sixC z)[j]? = some (.int .i64 (el z j)):=by
  rcases (by omega:j=0∨j=1∨j=2∨j=3∨j=4∨j=5∨j=6∨j=7) with rfl|rfl|rfl|rfl|rfl|rfl|rfl|rfl <;> rfl
 refine ⟨by simp[World.cell?,h,hc],by simp[World.frozen?,h],?_⟩
 rw[setCell_eq_setRow w B j (sixC z) 23 (0,0) _ h]
 have:(sixC z).setIfInBounds j (.int .i64 (el z j))=sixC z:=by
  rcases (by omega:j=0∨j=1∨j=2∨j=3∨j=4∨j=5∨j=6∨j=7) with rfl|rfl|rfl|rfl|rfl|rfl|rfl|rfl <;> rfl
 rw[this]
 exact setRow_self w B (sixC z) _ _ h
def noughts (w:World):World:=w.alloc (.cells #[.int .i64 0,.int .i64 0,.int .i64 0,.int .i64 0,.int .i64 0,.int .i64 0,.int .i64 0,.int .i64 0] 23)
theorem noughts_in (w:World):SixIn w.heap.size [] (noughts w):=by
 unfold SixIn noughts
 show (w.heap.push _)[w.heap.size]? = _
 rw[Array.getElem?_push_size]
 rfl
theorem noughts_below (w:World):Below w.heap.size w (noughts w):=(Below.refl _ _).alloc (Nat.le_refl _) _
theorem six_nil:six []=.agg #[.int .i64 0,.int .i64 0,.int .i64 0,.int .i64 0,.int .i64 0,.int .i64 0,.int .i64 0,.int .i64 0]:=rfl
def SixAll (B:Nat) (z:List Int) (w:World):Prop :=
 (w.cell? ⟨B,0,none⟩=some (.int .i64 (el z 0))∧w.frozen? ⟨B,0,none⟩=false∧w.setCell ⟨B,0,none⟩ (.int .i64 (el z 0))=w) ∧
 (w.cell? ⟨B,1,none⟩=some (.int .i64 (el z 1))∧w.frozen? ⟨B,1,none⟩=false∧w.setCell ⟨B,1,none⟩ (.int .i64 (el z 1))=w) ∧
 (w.cell? ⟨B,2,none⟩=some (.int .i64 (el z 2))∧w.frozen? ⟨B,2,none⟩=false∧w.setCell ⟨B,2,none⟩ (.int .i64 (el z 2))=w) ∧
 (w.cell? ⟨B,3,none⟩=some (.int .i64 (el z 3))∧w.frozen? ⟨B,3,none⟩=false∧w.setCell ⟨B,3,none⟩ (.int .i64 (el z 3))=w) ∧
 (w.cell? ⟨B,4,none⟩=some (.int .i64 (el z 4))∧w.frozen? ⟨B,4,none⟩=false∧w.setCell ⟨B,4,none⟩ (.int .i64 (el z 4))=w) ∧
 (w.cell? ⟨B,5,none⟩=some (.int .i64 (el z 5))∧w.frozen? ⟨B,5,none⟩=false∧w.setCell ⟨B,5,none⟩ (.int .i64 (el z 5))=w) ∧
 (w.cell? ⟨B,6,none⟩=some (.int .i64 (el z 6))∧w.frozen? ⟨B,6,none⟩=false∧w.setCell ⟨B,6,none⟩ (.int .i64 (el z 6))=w) ∧
 (w.cell? ⟨B,7,none⟩=some (.int .i64 (el z 7))∧w.frozen? ⟨B,7,none⟩=false∧w.setCell ⟨B,7,none⟩ (.int .i64 (el z 7))=w)
theorem SixIn.all (h:SixIn B z w):SixAll B z w :=
 ⟨h.facts 0 (by omega),h.facts 1 (by omega),h.facts 2 (by omega),h.facts 3 (by omega),h.facts 4 (by omega),h.facts 5 (by omega),h.facts 6 (by omega),h.facts 7 (by omega)⟩
theorem six_new (z:List Int) (w:World):SixIn w.heap.size z (w.alloc (.cells #[.int .i64 (el z 0),.int .i64 (el z 1),.int .i64 (el z 2),.int .i64 (el z 3),.int .i64 (el z 4),.int .i64 (el z 5),.int .i64 (el z 6),.int .i64 (el z 7)] 23)):=by
 unfold SixIn
 show (w.heap.push _)[w.heap.size]? = _
 rw[Array.getElem?_push_size]
 rfl
theorem SixIn.set (h:SixIn B z w) (k:Nat) (hk:k < 8) (v:Int) (z':List Int) (hz:∀ j,j < 8→el z' j=if j=k then v else el z j):SixIn B z' (w.setCell ⟨B,k,none⟩ (.int .i64 v)):=by
 have e:=setCell_eq_setRow w B k (sixC z) 23 (0,0) (.int .i64 v) h
 have a:=setRow_heap w B (sixC z) ((sixC z).setIfInBounds k (.int .i64 v)) 23 (0,0) h
 unfold SixIn
 rw[e,a]
 congr 2
 have b:=hz 0 (by omega);have d:=hz 1 (by omega);have f:=hz 2 (by omega);have g:=hz 3 (by omega);have h4:=hz 4 (by omega);have i:=hz 5 (by omega);have l:=hz 6 (by omega);have n:=hz 7 (by omega)
 unfold sixC
 rcases (by omega:k=0∨k=1∨k=2∨k=3∨k=4∨k=5∨k=6∨k=7) with rfl|rfl|rfl|rfl|rfl|rfl|rfl|rfl <;> simp[b,d,f,g,h4,i,l,n]
theorem SixIn.other (h:SixIn B z w) (p:Addr) (hp:B≠p.block) (v:Value):SixIn B z (w.setCell p v):=(Below.heap_setCell w p v B hp).trans h
def OwnG (e:TypeId) (base:Nat) (w:World) (v:Value) (xs:List Value):Prop:=w.ownsRow base e 1 v xs.length xs
theorem OwnG.nil (e:TypeId) (base:Nat) (w:World):OwnG e base w (.slice none 0 0) []:=World.ownsRow_nil _ _ _ _
theorem OwnG.parts {base:Nat} {xs:List Value} (h:OwnG e base w v xs):∃ ao cap,v=.slice ao xs.length cap∧(xs≠[]→∃ g,ao=some ⟨g,0,none⟩∧base≤g∧g < w.heap.size∧∀ (j:Nat) x,xs[j]? = some x→w.cell? ⟨g,j,none⟩=some x):=by
 have a:w.ownsRow base e 1 v xs.length xs:=h
 obtain ⟨d,b⟩:=h
 rcases b with ⟨rfl,hn⟩|⟨g,cap,cur,rfl,hb,hg,rest⟩
 ·have:xs=[]:=List.eq_nil_of_length_eq_zero hn
  subst this
  exact ⟨none,0,rfl,fun h=>absurd rfl h⟩
 ·refine ⟨_,cap,rfl,fun _=>⟨g,rfl,hb,(Array.getElem?_eq_some_iff.1 hg).1,fun j x hx=>?_⟩⟩
  have:=a.cellAt j (by have:=(List.getElem?_eq_some_iff.1 hx).1;omega)
  rw[this,hx]
theorem OwnG.base {base:Nat} {xs:List Value} (h:OwnG e base w v xs):∀ k,v.ownBlock=some k→base≤k:=by
 intro k a
 rcases h.2 with ⟨rfl,_⟩|⟨g,cap,cur,rfl,hb,_⟩
 ·simp[Value.ownBlock] at a
 ·have:g=k:=by simpa [Value.ownBlock] using a
  omega
theorem OwnG.kept {base:Nat} {xs:List Value} (h:OwnG e base w v xs) (hb:Below w.heap.size w w'):OwnG e base w' v xs:=by
 refine ⟨h.1,?_⟩
 rcases h.2 with h2|⟨g,cap,cur,rfl,hb',hg,rest⟩
 ·exact .inl h2
 ·exact .inr ⟨g,cap,cur,rfl,hb',by rw[hb.block g (Array.getElem?_eq_some_iff.1 hg).1];exact hg,rest⟩
theorem OwnG.other {base:Nat} {xs:List Value} (h:OwnG e base w v xs) {row:Option Nat} (hg:w.grownBy w' row) (hne:v.ownBlock=none∨v.ownBlock≠row):OwnG e base w' v xs:=World.ownsRow.kept h hg hne
theorem Tryz.infoByte:(Tryz.prog.info? 5).map (fun i=>(i.zero,i.size,i.bytes))=some (some (.int .u8 0),1,1):=by kernel_rfl
theorem app_byte {ops:Array Oper} {rest:List Oper} {o:Oper} {a:Act} {Q:Exit→Act→World→Prop} (hgd:o.guard=none) (s x:Operand)
  (ho:o.op=.call { callee:=.builtin .append,args:=#[s,x],argTypes:=#[37,37] })
  (base:Nat) (v:Value) (xs:List Value) (hs:a.eval s=v) (hown:OwnG 5 base w v xs) (B m:Nat) (ys:List Value) (hx:a.eval x=.slice (some ⟨B,0,none⟩) m m) (hm:ys.length=m)
  (hc:∀ (j:Nat) u,ys[j]? = some u→w.cell? ⟨B,j,none⟩=some u) (h1:∀ u ∈ ys,u.oneCell'=true) (hlen:xs.length+m≤4000000) (hbase:base≤w.heap.size)
  (h:∀ v' w',OwnG 5 base w' v' (xs++ys)→w.grownBy w' v.ownBlock→wpList Tryz.prog ops Q rest (a.put o.dst v') w'):wpList Tryz.prog ops Q (o::rest) a w:=by
 obtain ⟨f,g,b,d,e⟩:=info_parts Tryz.infoByte
 refine wpList_append_own _ hgd s x 37 ho base 5 f (.int .u8 0) 1 1 Tryz.underlying37 g b d e rfl (by decide) v xs.length xs hs hown ⟨B,0,none⟩ m m ys hx (by omega) ?_ h1 (by unfold maxLen;omega) (by omega) hbase ?_
 ·intro j u i
  rw[add_pl,Nat.zero_add]
  exact hc j u i
 ·intro v' w' k l _
  refine h v' w' ?_ l
  unfold OwnG
  rw[List.length_append,hm]
  exact k
def by16 (z:List Int) (k:Nat):List Int:=(List.range k).flatMap fun j=>[el z j / 256,el z j % 256]
theorem by16_succ (z:List Int) (k:Nat):by16 z (k+1)=by16 z k++[el z k / 256,el z k % 256]:=by
 simp[by16,List.range_succ]
theorem by16_len (z:List Int) (k:Nat):(by16 z k).length=2*k:=by
 induction k with
 | zero=>rfl
 | succ k ih=>rw[by16_succ];simp[ih];omega
def u8s (l:List Int):List Value:=l.map (Value.int .u8)
theorem bytes_bad (z:List Int) (w:World) (h:¬ Ok6 z):Calls Tryz.prog 126 #[six z] w fun e w'=>e=.returned (.tuple #[.slice none 0 0,.iface 28 (.int .i64 1)])∧Below w.heap.size w w':=by
 have a:=fun w=>check_bad z w h
 unfold six sixC at a
 unfold six
 go_enter Tryz.func126,Tryz.ntmps126
 go_wp2_with (go_at_call 70;refine (a _).mono ?_;rintro e b ⟨rfl,rfl⟩)
 go_ret2
 exact ⟨rfl,((Below.refl _ _).alloc (Nat.le_refl _) _).alloc (by simp) _⟩
theorem bytes_ok (z:List Int) (w:World) (hz:Ok6 z):Calls Tryz.prog 126 #[six z] w fun e w'=>∃ v,e=.returned (.tuple #[v,.nilIface])∧OwnG 5 w.heap.size w' v (u8s (by16 z 8))∧Below w.heap.size w w':=by
 have r:=fun w=>check_ok z w hz
 unfold six sixC at r
 unfold six
 have a:Below w.heap.size w ((w.alloc (.cells #[.int .i64 (el z 0),.int .i64 (el z 1),.int .i64 (el z 2),.int .i64 (el z 3),.int .i64 (el z 4),.int .i64 (el z 5),.int .i64 (el z 6),.int .i64 (el z 7)] 23)).alloc (.cells #[.int .i64 (el z 0),.int .i64 (el z 1),.int .i64 (el z 2),.int .i64 (el z 3),.int .i64 (el z 4),.int .i64 (el z 5),.int .i64 (el z 6),.int .i64 (el z 7)] 23)):=((Below.refl _ _).alloc (Nat.le_refl _) _).alloc (by simp) _
 have b:=(six_new z w).kept ((Below.refl _ _).alloc (Nat.le_refl _) (.cells #[.int .i64 (el z 0),.int .i64 (el z 1),.int .i64 (el z 2),.int .i64 (el z 3),.int .i64 (el z 4),.int .i64 (el z 5),.int .i64 (el z 6),.int .i64 (el z 7)] 23))
 obtain ⟨W,hW⟩:∃ W,W=(w.alloc (.cells #[.int .i64 (el z 0),.int .i64 (el z 1),.int .i64 (el z 2),.int .i64 (el z 3),.int .i64 (el z 4),.int .i64 (el z 5),.int .i64 (el z 6),.int .i64 (el z 7)] 23)).alloc (.cells #[.int .i64 (el z 0),.int .i64 (el z 1),.int .i64 (el z 2),.int .i64 (el z 3),.int .i64 (el z 4),.int .i64 (el z 5),.int .i64 (el z 6),.int .i64 (el z 7)] 23):=⟨_,rfl⟩
 rw[← hW] at a b
 obtain ⟨L,M,s,t,y⟩:=info_parts Tryz.infoByte
 obtain ⟨A,g,q,l⟩:=run_make_own (P:=Tryz.prog) W w.heap.size 37 5 L _ 1 Tryz.underlying37 M s t .i64 .i64 16 (by rw[y];omega) (by simp[maxLen]) a.size
 have B:=a.grown l a.size (fun k h=>by cases h)
 have C:SixIn w.heap.size z A:=(l.block _ b.lt (by simp)).trans b
 have N:(Instr.makeSlice 37 (.int .i64 0) (.int .i64 16)).run Tryz.prog W=.ok (.slice (some ⟨W.heap.size,0,none⟩) 0 16) A:=g
 have O:=ki hW
 have Q:=fun j hj=>(C.facts j hj).1
 clear hW g
 go_enter Tryz.func126,Tryz.ntmps126
 go_wp2_with (go_at_call 70;refine (r _).mono ?_;rintro e T ⟨rfl,rfl⟩;rw[← O.o])
 go_loopw [5,15] (fun v i wr=>∃ k:Nat,k≤8∧i=.int .i64 k∧Hid (OwnG 5 w.heap.size wr v (u8s (by16 z k)))∧Hid (Below w.heap.size w wr)) (fun _ i _=>8 - (intOf i).toNat)
 case atStart=>exact ⟨0,by omega,rfl,q,B⟩
 case round =>
  obtain ⟨k,U,rfl,D,E⟩:=hrel
  clear Q
  by_cases hlt:k < 8
  ·have n:=six_index z k hlt
   unfold six at n
   have F:=hz k hlt
   have G:=ki (by16_succ z k)
   have d:=by16_len z k
   have H:=ki (show (u8s (by16 z k)).length=2*k by unfold u8s;rw[List.length_map,d])
   clear d
   generalize el z k=x at n F G
   obtain ⟨R,S⟩:=F
   have o:Below wr.heap.size wr (wr.alloc (.cells #[.int .u8 (x / 256),.int .u8 (x % 256)] 5)):=(Below.refl _ _).alloc (Nat.le_refl _) _
   have p:=ki (D.o.kept o)
   have f:=ki (bt E.o o)
   go_wp2_with (at_builtin;refine app_byte rfl (.tmp 18) (.tmp 24) rfl w.heap.size _ (u8s (by16 z k)) rfl p.o wr.heap.size 2 [.int .u8 (x / 256),.int .u8 (x % 256)] rfl rfl (fun j u hu=>by match j with|0=>simp at hu;subst hu;simp|1=>simp at hu;subst hu;simp|j+2=>simp at hu) (fun u hu=>by simp at hu;rcases hu with rfl|rfl <;> rfl) (by rw[H.o];omega) f.o.size ?_;intro V w' I J)
   have K:=ki (f.o.grown J f.o.size (p.o.base))
   go_roundw
   case rel =>
    refine ⟨k+1,by omega,by go_num,?_,K⟩
    rw[G.o]
    unfold u8s
    rw[List.map_append]
    exact I
   case measure=>simp[intOf];omega
  ·obtain rfl:k=8:=by omega
   go_wp2
   go_ret2
   exact ⟨_,rfl,D.o,E.o⟩
end
section
variable {zs:List Int} {B cap:Nat} {v:Value} {w w':World}
def Own (base:Nat) (w:World) (v:Value) (zs:List Int):Prop :=
 SM.Oct zs∧w.ownsRow base 5 1 v zs.length (zs.map (Value.int .u8))
theorem Own.nil (base:Nat) (w:World):Own base w (.slice none 0 0) []:=⟨SM.oct_nil,World.ownsRow_nil _ _ _ _⟩
theorem Own.row8 {base:Nat} (h:Own base w v zs):∃ a cap,v=.slice a zs.length cap∧Row8 w a zs.length cap zs∧∀ b off,a=some ⟨b,off,none⟩→base≤b∧b < w.heap.size∧v.ownBlock=some b∧off=0:=by
 obtain ⟨d,f,k⟩:=h
 rcases k with ⟨rfl,hn⟩|⟨g,cap,cur,rfl,hb,hg,hnc,hcm,hcs,htake⟩
 ·have:zs=[]:=List.eq_nil_of_length_eq_zero hn
  subst this
  exact ⟨none,0,rfl,⟨rfl,by simp[maxLen],d,fun _=>⟨rfl,rfl⟩,fun hp=>absurd hp (by simp)⟩,fun b off h=>by cases h⟩
 ·refine ⟨_,cap,rfl,⟨rfl,by omega,d,fun h=>by (cases h),fun hp=>⟨g,0,rfl,fun i hi=>?_⟩⟩,fun b off h=>?_⟩
  ·have hc:=(World.ownsRow.cellAt (w:=w) (base:=base) (e:=5) (size:=1) (g:=g) (n:=zs.length) (cap:=cap) (xs:=zs.map (Value.int .u8)) ⟨f,.inr ⟨g,cap,cur,rfl,hb,hg,hnc,hcm,hcs,htake⟩⟩ i (by omega))
   rw[Nat.zero_add,hc]
   simp[hi]
  ·simp at h
   obtain ⟨rfl,rfl⟩:=h
   exact ⟨hb,(Array.getElem?_eq_some_iff.1 hg).1,rfl,rfl⟩
theorem Own.kept {base:Nat} (h:Own base w v zs) (hb:Below w.heap.size w w'):Own base w' v zs:=by
 refine ⟨h.1,h.2.1,?_⟩
 rcases h.2.2 with h2|⟨g,cap,cur,rfl,hb',hg,rest⟩
 ·exact .inl h2
 ·exact .inr ⟨g,cap,cur,rfl,hb',by rw[hb.block g (Array.getElem?_eq_some_iff.1 hg).1];exact hg,rest⟩
theorem Own.other {base:Nat} (h:Own base w v zs) {row:Option Nat} (hg:w.grownBy w' row) (hne:v.ownBlock=none∨v.ownBlock≠row):Own base w' v zs :=
 ⟨h.1,h.2.kept hg hne⟩
theorem wpList_app {ops:Array Oper} {rest:List Oper} {o:Oper} {a:Act} {Q:Exit→Act→World→Prop} (hgd:o.guard=none) (s x:Operand)
  (ho:o.op=.call { callee:=.builtin .append,args:=#[s,x],argTypes:=#[37,37] })
  (base:Nat) (v:Value) (zs:List Int) (hs:a.eval s=v) (hown:Own base w v zs) (ao:Option Addr) (len cap:Nat) (ys:List Int)
  (hx:a.eval x=.slice ao len cap) (hrow:Row8 w ao len cap ys) (hlen:zs.length+len≤1000000000) (hbase:base≤w.heap.size)
  (h:∀ v' w',Own base w' v' (zs++ys)→w.grownBy w' v.ownBlock→wpList Tryz.prog ops Q rest (a.put o.dst v') w'):wpList Tryz.prog ops Q (o::rest) a w:=by
 obtain ⟨g,i,k,l,n⟩:=info_parts Tryz.infoByte
 obtain ⟨r1,C,p,q,r⟩:=hrow
 cases ao with
 | none =>
  obtain ⟨rfl,rfl⟩:=q rfl
  have:ys=[]:=List.eq_nil_of_length_eq_zero r1
  subst this
  refine wpList_append_own_none hgd s x 37 ho base 5 g 1 Tryz.underlying37 i v zs.length _ hs hown.2 hx ?_
  exact h v w (by simpa using hown) (World.grownBy.refl _ _)
 | some ad =>
  refine wpList_append_own _ hgd s x 37 ho base 5 g (.int .u8 0) 1 1 Tryz.underlying37 i k l n rfl (by decide) v zs.length _ hs hown.2 ad len cap (ys.map (Value.int .u8)) hx (by simp[r1]) ?_ (ints_oneCell .u8 ys) (by unfold maxLen;omega) (by omega) hbase ?_
  ·intro j u f
   have t:j < ys.length:=by
    have:=(List.getElem?_eq_some_iff.1 f).1
    simpa using this
   obtain ⟨b,d,y,z⟩:=r (by omega)
   have hc:=z j (by omega)
   obtain rfl:ad=⟨b,d,none⟩:=by simpa using y
   have e:(⟨b,d,none⟩:Addr).add j=⟨b,d+j,none⟩:=by unfold Addr.add;split <;> simp_all
   rw[e,hc]
   rw[List.getElem?_map] at f
   simp[t] at f ⊢
   exact f
  ·intro v' w' A B _
   refine h v' w' ⟨SM.oct_append _ _ hown.1 p,?_⟩ B
   rw[List.map_append,List.length_append,r1]
   exact A
theorem conv8 {a:Option Addr} {len:Nat} (h:Row8 w a len cap zs):(convert 37 9 (.slice a len cap)).run Tryz.prog w=.ok (.string (P4.str8 zs)) w:=by
 obtain ⟨d,g,i,h4,f⟩:=h
 by_cases hp:0 < len
 ·obtain ⟨b,e,rfl,hc⟩:=f hp
  exact run_convert_bytes_arg w 37 5 Tryz.underlying37 Tryz.underlying5 b e len cap zs d hc 9 Tryz.underlying9
 ·obtain rfl:len=0:=by omega
  obtain rfl:zs=[]:=List.eq_nil_of_length_eq_zero d
  cases a with
  | none=>exact run_convert_bytes_nil w 37 5 Tryz.underlying37 Tryz.underlying5 0 cap 9 Tryz.underlying9
  | some ad =>
   have:=run_convert_bytes_string w 37 9 5 (some ad) 0 cap Tryz.underlying37 Tryz.underlying5 Tryz.underlying9
   rw[this]
   rfl
theorem str8_list (xs:List Int):(P4.str8 xs).toList=Lib.bytesOf xs:=Lib.strOfNums_toList xs
theorem str8_eq {xs ys:List Int} (hx:SM.Oct xs) (hy:SM.Oct ys) (r:Bool) (hr:(xs=ys)↔r=true):((P4.str8 xs).toList == (P4.str8 ys).toList)=r:=by
 rw[str8_list,str8_list]
 cases r
 ·have hn:¬ Lib.bytesOf xs=Lib.bytesOf ys:=fun h=>by
   have:=hr.1 (P4.str8_inj hx hy (by unfold P4.str8;exact congrArg (fun l=>ByteArray.mk (List.toArray l)) h))
   cases this
  simpa using hn
 ·rw[hr.2 rfl]
  simp
theorem Row8.part {a:Option Addr} {len:Nat} (h:Row8 w a len cap zs) (lo hi:Nat) (hlo:lo≤hi) (hhi:hi≤len) (a':Option Addr) (cap':Nat) (ha:∀ b off,lo < hi→a=some ⟨b,off,none⟩→a'=some ⟨b,off+lo,none⟩) (hn:a'=none→hi=lo∧cap'=0):Row8 w a' (hi - lo) cap' ((zs.drop lo).take (hi - lo)):=by
 obtain ⟨g,k,d,h4,f⟩:=h
 refine ⟨by simp;omega,by omega,SM.oct_take _ (P4.oct_drop _ d _) _,fun e=>?_,fun hp=>?_⟩
 ·have:=hn e
  exact ⟨by omega,this.2⟩
 ·obtain ⟨b,off,rfl,hc⟩:=f (by omega)
  refine ⟨b,off+lo,ha b off (by omega) rfl,fun i hi'=>?_⟩
  have:=hc (lo+i) (by omega)
  rw[P4.getD_take hi',P4.getD_drop,Nat.add_assoc]
  exact this
theorem Row8.congr {a:Option Addr} {len:Nat} {ys:List Int} (h:Row8 w a len cap zs) (e:zs=ys):Row8 w a len cap ys:=e ▸ h
def Blk (B:Nat) (zs:List Int) (w:World):Prop:=w.heap[B]? = some (.cells (zs.map (Value.int .u8)).toArray 5 (0,0))
theorem Blk.lt (h:Blk B zs w):B < w.heap.size:=(Array.getElem?_eq_some_iff.1 h).1
theorem Blk.kept (h:Blk B zs w) (hb:Below w.heap.size w w'):Blk B zs w':=(hb.block B h.lt).trans h
theorem blk_new (w:World) (zs:List Int):Blk w.heap.size zs (w.alloc (.cells (zs.map (Value.int .u8)).toArray 5)):=heap_alloc_new w _
theorem Blk.cell (h:Blk B zs w) (j:Nat) (hj:j < zs.length):w.cell? ⟨B,j,none⟩=some (.int .u8 (zs.getD j 0)):=by
 unfold Blk at h
 simp[World.cell?,h,hj]
theorem Blk.frozen (h:Blk B zs w) (j:Nat):w.frozen? ⟨B,j,none⟩=false:=by
 unfold Blk at h
 simp[World.frozen?,h]
theorem Blk.set (h:Blk B zs w) (j:Nat) (v:Int):Blk B (zs.set j v) (w.setCell ⟨B,j,none⟩ (.int .u8 v)):=by
 unfold Blk at h ⊢
 rw[setCell_eq_setRow w B j _ 5 (0,0) (.int .u8 v) h,setRow_heap w B _ _ 5 (0,0) h]
 simp[List.map_set]
theorem Blk.row8 (h:Blk B zs w) (ho:SM.Oct zs) (n cap:Nat) (hn:zs.length=n) (hm:n≤maxLen):Row8 w (some ⟨B,0,none⟩) n cap zs :=
 ⟨hn,hm,ho,(fun e=>by cases e),fun _=>⟨B,0,rfl,fun i hi=>by rw[Nat.zero_add];exact h.cell i (by omega)⟩⟩
theorem Blk.own (h:Blk B zs w) (ho:SM.Oct zs) (base n:Nat) (hn:zs.length=n) (hm:n≤maxLen) (hb:base≤B):Own base w (.slice (some ⟨B,0,none⟩) n n) zs:=by
 subst hn
 exact ⟨ho,by simp,.inr ⟨B,zs.length,_,rfl,hb,h,Nat.le_refl _,hm,by simp,by simp[← List.map_take]⟩⟩
theorem Own.heap {base:Nat} (h:Own base w v zs) (he:∀ g,base≤g→g < w.heap.size→w'.heap[g]? = w.heap[g]?):Own base w' v zs:=by
 refine ⟨h.1,h.2.1,?_⟩
 rcases h.2.2 with h2|⟨g,cap,cur,rfl,hb',hg,rest⟩
 ·exact .inl h2
 ·exact .inr ⟨g,cap,cur,rfl,hb',by rw[he g hb' (Array.getElem?_eq_some_iff.1 hg).1];exact hg,rest⟩
theorem Own.mono {base base':Nat} (h:Own base w v zs) (hb:base'≤base):Own base' w v zs:=by
 refine ⟨h.1,h.2.1,?_⟩
 rcases h.2.2 with h2|⟨g,cap,cur,rfl,hb',hg,rest⟩
 ·exact .inl h2
 ·exact .inr ⟨g,cap,cur,rfl,by omega,hg,rest⟩
theorem setCell_heap_same (w:World) (B j:Nat) (cs:Array Value) (t:TypeId) (v:Value) (h:w.heap[B]? = some (.cells cs t (0,0))):(w.setCell ⟨B,j,none⟩ v).heap[B]? = some (.cells (cs.setIfInBounds j v) t (0,0)):=by
 rw[setCell_eq_setRow w B j _ t (0,0) v h,setRow_heap w B _ _ t (0,0) h]
theorem Own.form {base:Nat} (h:Own base w v zs) (hp:0 < zs.length):∃ g cap,v=.slice (some ⟨g,0,none⟩) zs.length cap∧zs.length≤cap∧cap≤maxLen∧base≤g∧g < w.heap.size∧Row8 w (some ⟨g,0,none⟩) zs.length cap zs:=by
 obtain ⟨a,d,hv,b,e⟩:=h.row8
 rcases h.2.2 with ⟨rfl,hn⟩|⟨g,cap,cur,rfl,hb',hg,h1,h2,rest⟩
 ·omega
 ·injection hv with e1 _ e3
  subst e1
  subst e3
  exact ⟨g,_,rfl,h1,h2,hb',(Array.getElem?_eq_some_iff.1 hg).1,b⟩
theorem Own.toRow {base:Nat} {a:Option Addr} {n c:Nat} (h:Own base w (.slice a n c) zs):Row8 w a n c zs:=by
 obtain ⟨d,f,e,b,_⟩:=h.row8
 injection e with e1 e2 e3
 subst e1 e2 e3
 exact b
theorem Row8.drewN {a:Option Addr} {len:Nat} (h:Row8 w a len cap zs) (n:Nat):Row8 (w.drewN n) a len cap zs:=h.below ((Below.refl _ _).trans ⟨rfl,rfl,rfl,Nat.le_refl _,fun _ _=>rfl⟩)
theorem row_take {g off len:Nat} (h:Row8 w (some ⟨g,off,none⟩) len cap zs) (n c:Nat) (hn:n≤len):Row8 w (some ⟨g,off,none⟩) n c (zs.take n):=by
 have:=h.part 0 n (by omega) hn (some ⟨g,off,none⟩) c (fun b o _ e=>by cases e;rfl) (fun e=>by cases e)
 simpa using this
theorem row_drop {g off len:Nat} (h:Row8 w (some ⟨g,off,none⟩) len cap zs) (n c:Nat) (hn:n≤len):Row8 w (some ⟨g,off+n,none⟩) (len - n) c (zs.drop n):=by
 have:=h.part n len hn (Nat.le_refl _) (some ⟨g,off+n,none⟩) c (fun b o _ e=>by cases e;rfl) (fun e=>by cases e)
 exact this.congr (List.take_of_length_le (by rw[List.length_drop,h.1];exact Nat.le_refl _))
end
section
theorem Own.caps {base:Nat} {w:World} {a:Option Addr} {n c:Nat} {zs:List Int} (h:Own base w (.slice a n c) zs):n≤c∧c≤maxLen:=by
 rcases h.2.2 with ⟨e,hn⟩|⟨g,cap,cur,e,_,_,h1,h2,_⟩
 ·injection e with e1 e2 e3
  exact ⟨by omega,by unfold maxLen;omega⟩
 ·injection e with e1 e2 e3
  subst e3
  exact ⟨by omega,h2⟩
end
end Go.Proofs.YtgcojnlngchllaaGreatDoor
