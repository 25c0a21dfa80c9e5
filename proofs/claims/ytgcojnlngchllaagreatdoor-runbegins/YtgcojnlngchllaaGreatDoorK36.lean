/- Plain facts on the texts of addresses: digits, words with a mark between, and the one text of each address. The one text of each address, and what the readings make of it. An address of eight numbers as a value of the program's, and Check, zeros and first by contracts. strconv.FormatInt and strconv.ParseUint at base 16, of numbers of 16 bits, by contracts. strconv.ParseUint at base 16 and 16 bits, by a contract: the number of the digits, or some error. -/
import Derived.Test.YtgcojnlngchllaaGreatDoorProg
import Derived.Lib.SplitLaws
import Derived.Lib.Join
import Derived.Lib.ItoaNum
import Derived.WalkKit
import Derived.LaidEql
import Derived.BigQuiet
import Derived.Test.YtgcojnlngchllaaGreatDoorShelfA
import Derived.Lib.ParseIntBMem
import Derived.Lib.Walk
import Derived.Lib.Hide
import Derived.Lib.AtoiErrMem
namespace Go.Proofs.YtgcojnlngchllaaGreatDoor
open Go.RowKit
set_option linter.unusedVariables false
set_option maxRecDepth 100000
set_option maxHeartbeats 40000000
namespace Ad
namespace AM
def hexd (d:Nat):UInt8:=UInt8.ofNat (if d < 10 then 48+d else 87+d)
def hexL (n:Nat):List UInt8:=if _h:n < 16 then [hexd n] else have:n / 16 < n:=(by omega);hexL (n / 16)++[hexd (n % 16)]
theorem hexL_lt {n:Nat} (h:n < 16):hexL n=[hexd n]:=by rw[hexL,dif_pos h]
theorem hexL_ge {n:Nat} (h:¬ n < 16):hexL n=hexL (n / 16)++[hexd (n % 16)]:=by rw[hexL,dif_neg h]
def hv (c:UInt8):Option Nat:=if 48≤c.toNat∧c.toNat≤57 then some (c.toNat - 48) else if 97≤c.toNat∧c.toNat≤102 then some (c.toNat - 87) else none
def hvl (c:UInt8):Option Nat:=if 48≤c.toNat∧c.toNat≤57 then some (c.toNat - 48) else if 97≤c.toNat∧c.toNat≤102 then some (c.toNat - 87) else if 65≤c.toNat∧c.toNat≤70 then some (c.toNat - 55) else none
theorem hexd_toNat (d:Nat) (h:d < 16):(hexd d).toNat=if d < 10 then 48+d else 87+d:=by
 unfold hexd
 rw[UInt8.toNat_ofNat']
 split <;> omega
theorem hvl_hexd (d:Nat) (h:d < 16):hvl (hexd d)=some d:=by
 unfold hvl;rw[hexd_toNat d h]
 by_cases hd:d < 10
 ·rw[if_pos hd,if_pos (by omega)];congr 1;omega
 ·rw[if_neg hd,if_neg (by omega),if_pos (by omega)];congr 1;omega
theorem hv_lt {c:UInt8} {d:Nat} (h:hv c=some d):d < 16:=by
 unfold hv at h
 split at h
 ·cases h;omega
 ·split at h
  ·cases h;omega
  ·cases h
theorem hexL_ne (n:Nat):hexL n≠[]:=by
 by_cases h:n < 16
 ·rw[hexL_lt h];simp
 ·rw[hexL_ge h];simp
theorem hexL_len (k:Nat):∀ n:Nat,n < 16 ^ (k+1)→(hexL n).length≤k+1:=by
 induction k with
 | zero=>intro n h;rw[hexL_lt (by omega)];simp
 | succ k ih =>
  intro n h
  by_cases hn:n < 16
  ·rw[hexL_lt hn];simp
  ·rw[hexL_ge hn]
   have:=ih (n / 16) (by rw[Nat.pow_succ] at h;omega)
   simp;omega
theorem hexL_len4 {n:Nat} (h:n≤65535):(hexL n).length≤4:=hexL_len 3 n (by omega)
theorem hexL_all (n:Nat):∀ c ∈ hexL n,∃ d,d < 16∧c=hexd d:=by
 induction n using Nat.strongRecOn with
 | ind n ih =>
  by_cases hn:n < 16
  ·rw[hexL_lt hn];intro c hc;exact ⟨n,hn,by simpa using hc⟩
  ·rw[hexL_ge hn]
   intro c hc
   rcases List.mem_append.1 hc with h|h
   ·exact ih (n / 16) (by omega) c h
   ·exact ⟨n % 16,by omega,by simpa using h⟩
theorem hexd_ne58 {d:Nat} (h:d < 16):hexd d≠58:=by
 intro e
 have:=congrArg UInt8.toNat e
 rw[hexd_toNat d h] at this
 change _=58 at this
 split at this <;> omega
theorem hexL_no58 (n:Nat):∀ c ∈ hexL n,c≠58:=by
 intro c hc
 obtain ⟨d,hd,rfl⟩:=hexL_all n c hc
 exact hexd_ne58 hd
def hx16:Nat→List UInt8→Option Nat
 | acc,[]=>some acc
 | acc,c::r=>match hvl c with
  | none=>none
  | some d=>if 65535 < acc*16+d then none else hx16 (acc*16+d) r
def hxw (l:List UInt8):Option Nat:=if l=[] then none else hx16 0 l
theorem hx16_hexL (n:Nat):n≤65535→∀ r,hx16 0 (hexL n++r)=hx16 n r:=by
 induction n using Nat.strongRecOn with
 | ind n ih =>
  intro h r
  by_cases hn:n < 16
  ·rw[hexL_lt hn]
   simp[hx16,hvl_hexd n hn];omega
  ·rw[hexL_ge hn,List.append_assoc,ih (n / 16) (by omega) (by omega)]
   have e:n / 16*16+n % 16=n:=by omega
   simp[hx16,hvl_hexd (n % 16) (by omega),e];omega
theorem hxw_hexL {n:Nat} (h:n≤65535):hxw (hexL n)=some n:=by
 unfold hxw
 rw[if_neg (hexL_ne n)]
 have:=hx16_hexL n h []
 rw[List.append_nil] at this
 rw[this];rfl
theorem hx16_le:∀ (l:List UInt8) (acc n:Nat),acc≤65535→hx16 acc l=some n→n≤65535
 | [],acc,n,ha,h=>by simp[hx16] at h;omega
 | c::r,acc,n,ha,h=>by
  unfold hx16 at h
  split at h
  ·cases h
  ·rename_i d _
   split at h
   ·cases h
   ·exact hx16_le r _ n (by omega) h
theorem hxw_le {l:List UInt8} {n:Nat} (h:hxw l=some n):n≤65535:=by
 unfold hxw at h
 split at h
 ·cases h
 ·exact hx16_le l 0 n (by omega) h
def jn (c:UInt8):List (List UInt8)→List UInt8
 | []=>[]
 | [x]=>x
 | x::y::r=>x++c::jn c (y::r)
theorem jn_join (c:UInt8):∀ ws:List (List UInt8),Lib.join ws [c]=jn c ws
 | []=>rfl
 | [x]=>by rw[Lib.join_one];rfl
 | x::y::r=>by
  have h:=jn_join c (y::r)
  rw[Lib.join_cons] at h ⊢
  rw[jn,← h]
  simp[Lib.joinTail]
theorem jn_cons (c:UInt8) (x:List UInt8) (ws:List (List UInt8)) (h:ws≠[]):jn c (x::ws)=x++c::jn c ws:=by
 cases ws with
 | nil=>exact absurd rfl h
 | cons y r=>rfl
theorem jn_ne (c:UInt8):∀ ws:List (List UInt8),ws≠[]→(∀ x ∈ ws,x≠[])→jn c ws≠[]
 | [],h,_=>absurd rfl h
 | [x],_,h=>h x (by simp)
 | x::y::r,_,_=>by simp[jn]
theorem jn_len (c:UInt8) (m:Nat):∀ ws:List (List UInt8),(∀ x ∈ ws,x.length≤m)→(jn c ws).length≤(m+1)*ws.length - 1
 | [],_=>by simp[jn]
 | [x],h=>by have:=h x (by simp);simp[jn];omega
 | x::y::r,h=>by
  have:=h x (by simp)
  have ih:=jn_len c m (y::r) (fun z hz=>h z (by simp[hz]))
  rw[jn_cons c x (y::r) (by simp)]
  have h2:(m+1)*(y::r).length ≥ m+1:=Nat.le_mul_of_pos_right _ (by simp)
  have h3:(m+1)*(x::y::r).length=(m+1)*(y::r).length+(m+1):=by rw[List.length_cons (a:=x),Nat.mul_succ]
  rw[List.length_append,List.length_cons (a:=c)]
  omega
def spl (c:UInt8):List UInt8→List (List UInt8)
 | []=>[[]]
 | b::r=>if b=c then []::spl c r else match spl c r with
  | []=>[[b]]
  | x::ws=>(b::x)::ws
theorem spl_word (c:UInt8):∀ x:List UInt8,(∀ b ∈ x,b≠c)→spl c x=[x]
 | [],_=>rfl
 | b::r,h=>by
  unfold spl
  rw[if_neg (h b (by simp)),spl_word c r (fun z hz=>h z (by simp[hz]))]
theorem spl_app (c:UInt8) (s:List UInt8):∀ x:List UInt8,(∀ b ∈ x,b≠c)→spl c (x++c::s)=x::spl c s
 | [],_=>by simp[spl]
 | b::r,h=>by
  rw[List.cons_append,spl,if_neg (h b (by simp)),spl_app c s r (fun z hz=>h z (by simp[hz]))]
theorem spl_jn (c:UInt8):∀ ws:List (List UInt8),ws≠[]→(∀ x ∈ ws,∀ b ∈ x,b≠c)→spl c (jn c ws)=ws
 | [],h,_=>absurd rfl h
 | [x],_,h=>spl_word c x (h x (by simp))
 | x::y::r,_,h=>by
  rw[jn_cons c x (y::r) (by simp),spl_app c _ x (h x (by simp)),spl_jn c (y::r) (by simp) (fun z hz=>h z (by simp[hz]))]
theorem index_hit (c:UInt8) (s:List UInt8):∀ x:List UInt8,(∀ b ∈ x,b≠c)→Lib.index (x++c::s) [c]=x.length
 | [],_=>by simp[Lib.index,List.isPrefixOf]
 | b::r,h=>by
  have hp:([c]:List UInt8).isPrefixOf (b::(r++c::s))=false:=by simp[List.isPrefixOf,Ne.symm (h b (by simp))]
  rw[List.cons_append,Lib.index,hp,index_hit c s r (fun z hz=>h z (by simp[hz]))]
  have:(((r.length:Nat):Int) == -1)=false:=by rw[beq_eq_false_iff_ne];omega
  simp[this]
theorem spl_parts (c:UInt8) (s:List UInt8):(∀ b ∈ s,b≠c)∨∃ x r,s=x++c::r∧∀ b ∈ x,b≠c:=by
 induction s with
 | nil=>exact .inl (by simp)
 | cons b r ih =>
  by_cases h:b=c
  ·subst h;exact .inr ⟨[],r,rfl,by simp⟩
  ·rcases ih with h1|⟨x,y,rfl,h1⟩
   ·refine .inl fun z hz=>?_
    rcases List.mem_cons.1 hz with rfl|hz
    ·exact h
    ·exact h1 z hz
   ·refine .inr ⟨b::x,y,rfl,fun z hz=>?_⟩
    rcases List.mem_cons.1 hz with rfl|hz
    ·exact h
    ·exact h1 z hz
theorem split_spl (c:UInt8):∀ (k:Nat) (s:List UInt8),s.count c=k→Lib.splitK [c] 0 k s=spl c s
 | 0,s,h=>by
  rcases spl_parts c s with h1|⟨x,r,rfl,_⟩
  ·rw[spl_word c s h1];rfl
  ·simp at h
 | k+1,s,h=>by
  rcases spl_parts c s with h1|⟨x,r,rfl,h1⟩
  ·rw[List.count_eq_zero_of_not_mem (fun hm=>h1 c hm rfl)] at h;cases h
  ·have hx:x.count c=0:=List.count_eq_zero_of_not_mem (fun hm=>h1 c hm rfl)
   have hr:r.count c=k:=by simp[hx] at h;omega
   rw[spl_app c r x h1,Lib.splitK,index_hit c r x h1]
   have:(((x.length:Nat):Int) == -1)=false:=by rw[beq_eq_false_iff_ne];omega
   have e:List.drop (x.length+1) (x++c::r)=r:=by rw[← List.drop_drop];simp
   simp[this,e,split_spl c k r hr]
theorem split_is (c:UInt8) (s:ByteArray):(Lib.splitB ⟨#[c]⟩ 0 (Lib.countB s ⟨#[c]⟩) s).map (·.data.toList)=spl c s.data.toList:=by
 rw[Lib.splitB_data]
 exact split_spl c _ _ (Lib.count_one c _).symm
theorem spl_len (c:UInt8):∀ s:List UInt8,∀ x ∈ spl c s,x.length≤s.length
 | [],x,h=>by simp[spl] at h;subst h;simp
 | b::r,x,h=>by
  have ih:=spl_len c r
  unfold spl at h
  split at h
  ·rcases List.mem_cons.1 h with rfl|h
   ·simp
   ·have:=ih x h;simp;omega
  ·split at h
   ·simp at h;subst h;simp
   ·rename_i y ws hs
    rcases List.mem_cons.1 h with rfl|h
    ·have:=ih y (by rw[hs];simp);simp;omega
    ·have:=ih x (by rw[hs];simp[h]);simp;omega
theorem mapM_all {α β:Type} (f:α→Option β):∀ (ws:List α) (l:List β),ws.length=l.length→(∀ j (h1:j < ws.length) (h2:j < l.length),f ws[j]=some l[j])→ws.mapM f=some l
 | [],[],_,_=>rfl
 | [],_::_,h,_=>by simp at h
 | _::_,[],h,_=>by simp at h
 | w::ws,x::l,h,hh=>by
  have h0:=hh 0 (by simp) (by simp)
  have ih:=mapM_all f ws l (by simpa using h) (fun j h1 h2=>by have:=hh (j+1) (by simp;omega) (by simp;omega);simpa using this)
  simp only[List.getElem_cons_zero] at h0
  rw[List.mapM_cons,h0,ih];rfl
theorem mapM_none {α β:Type} (f:α→Option β):∀ (ws:List α) (j:Nat) (h:j < ws.length),f ws[j]=none→ws.mapM f=none
 | [],j,h,_=>by simp at h
 | w::ws,0,_,hn=>by
  simp only[List.getElem_cons_zero] at hn
  rw[List.mapM_cons,hn];rfl
 | w::ws,j+1,h,hn=>by
  have ih:=mapM_none f ws j (by simpa using h) (by simpa using hn)
  rw[List.mapM_cons,ih]
  cases f w <;> rfl
def nd:List UInt8→Prop
 | []=>True
 | [b]=>b≠58
 | b::b'::r=>¬ (b=58∧b'=58)∧nd (b'::r)
theorem index_dd (y:List UInt8):∀ x:List UInt8,nd x→Lib.index (x++58::58::y) [58,58]=x.length
 | [],_=>by simp[Lib.index,List.isPrefixOf]
 | [b],h=>by
  have hb:(58:UInt8)≠b:=fun e=>h e.symm
  simp[Lib.index,List.isPrefixOf,hb]
 | b::b'::r,h=>by
  have ih:=index_dd y (b'::r) h.2
  have hp:([58,58]:List UInt8).isPrefixOf (b::b'::(r++58::58::y))=false:=by
   have a:=h.1
   rw[Bool.eq_false_iff]
   intro hh
   simp[List.isPrefixOf] at hh
   exact a ⟨hh.1.symm,hh.2.symm⟩
  rw[List.cons_append] at ih
  rw[List.cons_append,List.cons_append,Lib.index,hp,ih]
  simp;intro;omega
theorem index_nd:∀ x:List UInt8,nd x→Lib.index x [58,58] = -1
 | [],_=>rfl
 | [b],h=>by
  have hb:(58:UInt8)≠b:=fun e=>h e.symm
  simp[Lib.index,List.isPrefixOf]
 | b::b'::r,h=>by
  have ih:=index_nd (b'::r) h.2
  have hp:([58,58]:List UInt8).isPrefixOf (b::b'::r)=false:=by
   have a:=h.1
   rw[Bool.eq_false_iff]
   intro hh
   simp[List.isPrefixOf] at hh
   exact a ⟨hh.1.symm,hh.2.symm⟩
  rw[Lib.index,hp,ih];rfl
theorem cut_nd {x:List UInt8} (h:nd x):Lib.cut x [58,58]=(x,[],false):=by
 unfold Lib.cut;rw[index_nd x h];rfl
theorem cut_dd {x:List UInt8} (y:List UInt8) (h:nd x):Lib.cut (x++58::58::y) [58,58]=(x,y,true):=by
 unfold Lib.cut;rw[index_dd y x h,if_pos (by omega)]
 have e:List.drop (x.length+2) (x++58::58::y)=y:=by rw[← List.drop_drop];simp
 simp[e]
theorem nd_word:∀ x:List UInt8,(∀ b ∈ x,b≠58)→nd x
 | [],_=>trivial
 | [b],h=>h b (by simp)
 | b::b'::r,h=>⟨fun hh=>h b (by simp) hh.1,nd_word (b'::r) (fun z hz=>h z (by simp[hz]))⟩
theorem nd_app (r:List UInt8) (hr:nd r) (hh:r.head?≠some 58) (hne:r≠[]):∀ x:List UInt8,x≠[]→(∀ b ∈ x,b≠58)→nd (x++58::r)
 | [],h,_=>absurd rfl h
 | [b],_,h=>by
  cases r with
  | nil=>exact absurd rfl hne
  | cons c r =>
   refine ⟨fun hb=>h b (by simp) hb.1,⟨fun hb=>hh (by rw[hb.2];rfl),hr⟩⟩
 | b::b'::x,_,h=>⟨fun hb=>h b (by simp) hb.1,nd_app r hr hh hne (b'::x) (by simp) (fun z hz=>h z (by simp[hz]))⟩
theorem nd_jn:∀ ws:List (List UInt8),(∀ x ∈ ws,x≠[]∧∀ b ∈ x,b≠58)→nd (jn 58 ws)∧(jn 58 ws).head?≠some 58
 | [],_=>⟨trivial,by simp[jn]⟩
 | [x],h=>by
  obtain ⟨h1,h2⟩:=h x (by simp)
  refine ⟨nd_word x h2,fun hh=>?_⟩
  exact h2 58 (List.mem_of_mem_head? hh) rfl
 | x::y::r,h=>by
  obtain ⟨h1,h2⟩:=h x (by simp)
  have ih:=nd_jn (y::r) (fun z hz=>h z (by simp[hz]))
  rw[jn_cons 58 x (y::r) (by simp)]
  refine ⟨nd_app _ ih.1 ih.2 (jn_ne 58 (y::r) (by simp) (fun z hz=>(h z (by simp[hz])).1)) x h1 h2,fun hh=>?_⟩
  cases x with
  | nil=>exact h1 rfl
  | cons b x=>exact h2 b (by simp) (by simpa using hh)
end AM
end Ad
namespace Ad
def el (z:List Int) (k:Nat):Int:=z.getD k 0
namespace AM
def zst (st:Nat×Nat×Nat) (i:Nat) (b:Bool):Nat×Nat×Nat :=
 if b then (if st.2.2 < st.1+1 then (st.1+1,i - st.1,st.1+1) else (st.1+1,st.2.1,st.2.2)) else (0,st.2.1,st.2.2)
def zrun (l:List Bool):Nat→Nat×Nat×Nat
 | 0=>(0,0,0)
 | k+1=>zst (zrun l k) k (l.getD k false)
def fl (z:List Int):List Bool:=[el z 0 == 0,el z 1 == 0,el z 2 == 0,el z 3 == 0,el z 4 == 0,el z 5 == 0,el z 6 == 0,el z 7 == 0]
theorem fl_at (z:List Int) (k:Nat) (h:k < 8):(fl z).getD k false=(el z k == 0):=by
 rcases (by omega:k=0∨k=1∨k=2∨k=3∨k=4∨k=5∨k=6∨k=7) with rfl|rfl|rfl|rfl|rfl|rfl|rfl|rfl <;> rfl
theorem zrun_le (l:List Bool) (k:Nat):(zrun l k).1≤k∧(zrun l k).2.2≤k∧(zrun l k).2.1≤k:=by
 induction k with
 | zero=>simp[zrun]
 | succ k ih =>
  unfold zrun zst
  split
  ·split
   ·simp;omega
   ·simp;omega
  ·simp;omega
def zfrom (z:List Int):Nat:=(zrun (fl z) 8).2.1
def zlong (z:List Int):Nat:=(zrun (fl z) 8).2.2
def zgood (l:List Bool):Bool:=decide ((zrun l 8).2.1+(zrun l 8).2.2≤8) && (List.range 8).all fun i=>!(decide ((zrun l 8).2.1≤i) && decide (i < (zrun l 8).2.1+(zrun l 8).2.2)) || l.getD i false
theorem zgood_all:∀ b0 b1 b2 b3 b4 b5 b6 b7:Bool,zgood [b0,b1,b2,b3,b4,b5,b6,b7]=true:=by decide +kernel
theorem zgood_fl (z:List Int):zfrom z+zlong z≤8∧∀ i,zfrom z≤i→i < zfrom z+zlong z→el z i=0:=by
 have h:zgood (fl z)=true:=zgood_all _ _ _ _ _ _ _ _
 unfold zgood at h
 rw[Bool.and_eq_true] at h
 have b:zfrom z+zlong z≤8:=of_decide_eq_true h.1
 refine ⟨b,fun i hi hj=>?_⟩
 have a:=List.all_eq_true.1 h.2 i (List.mem_range.2 (by omega))
 rw[fl_at z i (by omega)] at a
 simp only[zfrom,zlong] at hi hj
 simpa [hi,hj] using a
def hw (z:List Int) (i n:Nat):List (List UInt8):=(List.range n).map fun j=>hexL (el z (i+j)).toNat
theorem hw_len (z:List Int) (i n:Nat):(hw z i n).length=n:=by simp[hw]
theorem hw_succ (z:List Int) (i n:Nat):hw z i (n+1)=hw z i n++[hexL (el z (i+n)).toNat]:=by
 simp[hw,List.range_succ]
theorem hw_mem {z:List Int} {i n:Nat} {x:List UInt8} (h:x ∈ hw z i n):∃ j,j < n∧x=hexL (el z (i+j)).toNat:=by
 simp[hw] at h
 obtain ⟨j,a,b⟩:=h
 exact ⟨j,a,b.symm⟩
theorem hw_ne {z:List Int} {i n:Nat}:∀ x ∈ hw z i n,x≠[]∧∀ b ∈ x,b≠58:=by
 intro x a
 obtain ⟨j,_,rfl⟩:=hw_mem a
 exact ⟨hexL_ne _,hexL_no58 _⟩
def tx (z:List Int):List UInt8 :=
 if zlong z < 2 then jn 58 (hw z 0 8) else jn 58 (hw z 0 (zfrom z))++58::58::jn 58 (hw z (zfrom z+zlong z) (8 - (zfrom z+zlong z)))
def okz (z:List Int):Prop:=∀ k,k < 8→0≤el z k∧el z k≤65535
theorem hw_len4 {z:List Int} (h:okz z) {i n:Nat} (hin:i+n≤8):∀ x ∈ hw z i n,x.length≤4:=by
 intro x a
 obtain ⟨j,b,rfl⟩:=hw_mem a
 have:=h (i+j) (by omega)
 exact hexL_len4 (by omega)
theorem jn_hw_len {z:List Int} (h:okz z) {i n:Nat} (hin:i+n≤8):(jn 58 (hw z i n)).length≤5*n - 1:=by
 have:=jn_len 58 4 (hw z i n) (hw_len4 h hin)
 rw[hw_len] at this;exact this
theorem tx_len {z:List Int} (h:okz z):(tx z).length≤39:=by
 unfold tx
 split
 ·exact jn_hw_len h (by omega)
 ·have a:=(zgood_fl z).1
  have b:=jn_hw_len h (i:=0) (n:=zfrom z) (by omega)
  have d:=jn_hw_len h (i:=zfrom z+zlong z) (n:=8 - (zfrom z+zlong z)) (by omega)
  simp only[List.length_append,List.length_cons]
  omega
def nums (c:UInt8) (f:List UInt8→Option Nat) (t:List UInt8):Option (List Nat):=if t=[] then some [] else (spl c t).mapM f
theorem mapM_map {α β γ:Type} (f:β→Option γ) (g:α→β) (h:α→γ):∀ l:List α,(∀ x ∈ l,f (g x)=some (h x))→(l.map g).mapM f=some (l.map h)
 | [],_=>rfl
 | x::r,hh=>by
  have ih:=mapM_map f g h r (fun y hy=>hh y (by simp[hy]))
  simp only[List.map_cons,List.mapM_cons,hh x (by simp),ih]
  rfl
theorem spl_count (c:UInt8):∀ s:List UInt8,(spl c s).length≤s.length+1
 | []=>by simp[spl]
 | b::r=>by
  have ih:=spl_count c r
  unfold spl
  split
  ·simp;omega
  ·split
   ·simp
   ·rename_i y ws hs
    rw[hs] at ih
    simp at ih ⊢;omega
theorem mapM_len {α β:Type} (f:α→Option β):∀ (ws:List α) (l:List β),ws.mapM f=some l→l.length=ws.length
 | [],l,h=>by simp at h;subst h;rfl
 | w::ws,l,h=>by
  rw[List.mapM_cons] at h
  cases hf:f w with
  | none=>rw[hf] at h;simp at h
  | some x =>
   rw[hf] at h
   cases hr:ws.mapM f with
   | none=>rw[hr] at h;simp at h
   | some r =>
    rw[hr] at h
    simp at h
    subst h
    simp[mapM_len f ws r hr]
theorem nums_len {c:UInt8} {f:List UInt8→Option Nat} {t:List UInt8} {l:List Nat} (h:nums c f t=some l):l.length≤t.length+1:=by
 unfold nums at h
 split at h
 ·cases h;simp
 ·have:=mapM_len f _ l h
  have:=spl_count c t
  omega
theorem nums_hw {z:List Int} (h:okz z) {i n:Nat} (hin:i+n≤8):nums 58 hxw (jn 58 (hw z i n))=some ((List.range n).map fun j=>(el z (i+j)).toNat):=by
 unfold nums
 cases n with
 | zero=>rfl
 | succ n =>
  have a:hw z i (n+1)≠[]:=by intro e;have:=congrArg List.length e;rw[hw_len] at this;simp at this
  rw[if_neg (jn_ne 58 _ a (fun x hx=>(hw_ne x hx).1)),spl_jn 58 _ a (fun x hx=>(hw_ne x hx).2)]
  unfold hw
  refine mapM_map hxw _ _ _ fun j hj=>?_
  have:=h (i+j) (by have:=List.mem_range.1 hj;omega)
  exact hxw_hexL (by omega)
def readF (s:List UInt8):Option (List Int) :=
 if 39 < s.length then none else
 match nums 58 hxw (Lib.cut s [58,58]).1,nums 58 hxw (Lib.cut s [58,58]).2.1 with
 | some fr,some bk =>
  if 8 < fr.length+bk.length∨((Lib.cut s [58,58]).2.2=false∧fr.length+bk.length < 8) then none
  else some ((fr++List.replicate (8 - (fr.length+bk.length)) 0++bk).map Int.ofNat)
 | _,_=>none
theorem map_range_el (z:List Int) (hz:okz z) (hl:z.length=8) (f c:Nat) (hfc:f+c≤8) (h0:∀ i,f≤i→i < f+c→el z i=0) :
  (((List.range f).map fun j=>(el z (0+j)).toNat)++List.replicate c 0++((List.range (8 - (f+c))).map fun j=>(el z (f+c+j)).toNat)).map Int.ofNat=z:=by
 apply List.ext_getElem
 ·simp;omega
 ·intro i b a
  have d:el z i=z[i]:=by simp[el,a]
  have g:=hz i (by omega)
  simp only[List.getElem_map,List.getElem_append,List.length_map,List.length_range,List.length_append,List.length_replicate,List.getElem_replicate,List.getElem_range,Nat.zero_add]
  split
  ·split
   ·simp;omega
   ·have:=h0 i (by omega) (by omega)
    simp;omega
  ·have e:f+c+(i - (f+c))=i:=by omega
   rw[e];simp;omega
theorem read_tx {z:List Int} (hz:okz z) (hl:z.length=8):readF (tx z)=some z:=by
 obtain ⟨a,b⟩:=zgood_fl z
 unfold readF
 rw[if_neg (by have:=tx_len hz;omega)]
 unfold tx
 by_cases hc:zlong z < 2
 ·rw[if_pos hc,cut_nd (nd_jn _ hw_ne).1]
  simp only[nums_hw hz (i:=0) (n:=8) (by omega)]
  have e:nums 58 hxw []=some []:=rfl
  simp only[e]
  have:=map_range_el z hz hl 8 0 (by omega) (fun i h1 h2=>by omega)
  rw[if_neg (by simp)]
  congr 1
 ·rw[if_neg hc,cut_dd _ (nd_jn _ hw_ne).1]
  simp only[nums_hw hz (i:=0) (n:=zfrom z) (by omega),nums_hw hz (i:=zfrom z+zlong z) (n:=8 - (zfrom z+zlong z)) (by omega)]
  rw[if_neg (by simp;omega)]
  congr 1
  have:=map_range_el z hz hl (zfrom z) (zlong z) a b
  have e:8 - (zfrom z+(8 - (zfrom z+zlong z)))=zlong z:=by omega
  simp only[List.length_map,List.length_range,e]
  exact this
theorem nums_le {c:UInt8}:∀ {t:List UInt8} {l:List Nat},nums c hxw t=some l→∀ x ∈ l,x≤65535:=by
 intro t l h
 unfold nums at h
 split at h
 ·cases h;simp
 ·generalize spl c t=ws at h
  induction ws generalizing l with
  | nil=>simp at h;subst h;simp
  | cons w ws ih =>
   rw[List.mapM_cons] at h
   cases hw:hxw w with
   | none=>rw[hw] at h;simp at h
   | some n =>
    rw[hw] at h
    cases hr:ws.mapM hxw with
    | none=>rw[hr] at h;simp at h
    | some r =>
     rw[hr] at h
     simp at h
     subst h
     intro x hx
     rcases List.mem_cons.1 hx with rfl|hx
     ·exact hxw_le hw
     ·exact ih hr x hx
theorem read_ok {s:List UInt8} {z:List Int} (h:readF s=some z):okz z∧z.length=8:=by
 unfold readF at h
 split at h
 ·cases h
 ·split at h
  ·rename_i fr bk h1 h2
   split at h
   ·cases h
   ·rename_i hn
    cases h
    have d:=nums_le h1
    have f:=nums_le h2
    refine ⟨fun k hk=>?_,by simp;omega⟩
    have a:k < (List.map Int.ofNat (fr++List.replicate (8 - (fr.length+bk.length)) 0++bk)).length:=by simp;omega
    have b:el (List.map Int.ofNat (fr++List.replicate (8 - (fr.length+bk.length)) 0++bk)) k ∈ List.map Int.ofNat (fr++List.replicate (8 - (fr.length+bk.length)) 0++bk):=by
     have e:el (List.map Int.ofNat (fr++List.replicate (8 - (fr.length+bk.length)) 0++bk)) k=(List.map Int.ofNat (fr++List.replicate (8 - (fr.length+bk.length)) 0++bk))[k]:=by simp only[el,List.getD_eq_getElem?_getD,List.getElem?_eq_getElem a,Option.getD_some]
     rw[e];exact List.getElem_mem a
    generalize el (List.map Int.ofNat (fr++List.replicate (8 - (fr.length+bk.length)) 0++bk)) k=x at b
    obtain ⟨n,hn2,rfl⟩:=List.mem_map.1 b
    rcases List.mem_append.1 hn2 with hn2|hn2
    ·rcases List.mem_append.1 hn2 with hn2|hn2
     ·have:=d n hn2;simp;omega
     ·have:=List.eq_of_mem_replicate hn2;simp;omega
    ·have:=f n hn2;simp;omega
  ·cases h
def parseF (s:List UInt8):Option (List Int):=match readF s with
 | some z=>if tx z=s then some z else none
 | none=>none
theorem parse_is {s:List UInt8} {z:List Int} (h:parseF s=some z):okz z∧z.length=8∧tx z=s:=by
 unfold parseF at h
 split at h
 ·rename_i z' hr
  split at h
  ·rename_i ht
   cases h
   exact ⟨(read_ok hr).1,(read_ok hr).2,ht⟩
  ·cases h
 ·cases h
end AM
end Ad
namespace Ad
theorem ki {p:Prop} (h:p):Hid p:=h
theorem bt {a b c:World} (h1:Below a.heap.size a b) (h2:Below b.heap.size b c):Below a.heap.size a c:=h1.trans (h2.mono h1.size)
def six (z:List Int):Value:=.agg #[.int .i64 (el z 0),.int .i64 (el z 1),.int .i64 (el z 2),.int .i64 (el z 3),.int .i64 (el z 4),.int .i64 (el z 5),.int .i64 (el z 6),.int .i64 (el z 7)]
def sixC (z:List Int):Array Value:=#[.int .i64 (el z 0),.int .i64 (el z 1),.int .i64 (el z 2),.int .i64 (el z 3),.int .i64 (el z 4),.int .i64 (el z 5),.int .i64 (el z 6),.int .i64 (el z 7)]
theorem six_index (z:List Int) (k:Nat) (hk:k < 8) (w:World):(Instr.index 23 (six z) (.int .i64 k)).run Tryz.prog w=.ok (.int .i64 (el z k)) w:=by
 rcases (by omega:k=0∨k=1∨k=2∨k=3∨k=4∨k=5∨k=6∨k=7) with rfl|rfl|rfl|rfl|rfl|rfl|rfl|rfl <;> kernel_rfl
def Word (n:Int):Prop:=0≤n∧n≤65535
def Ok6 (z:List Int):Prop:=∀ k,k < 8→Word (el z k)
theorem check_any (z:List Int) (w:World):Calls Tryz.prog 70 #[six z] w fun e w'=>((Ok6 z∧e=.returned .nilIface)∨(¬ Ok6 z∧e=.returned (.iface 28 (.int .i64 1))))∧w'=w.alloc (.cells (sixC z) 23):=by
 unfold six
 go_enter Tryz.func70,Tryz.ntmps70
 go_wp2
 go_loop [6] (fun t=>∃ k:Nat,k≤8∧(∀ j,j < k→Word (el z j))∧t=.int .i64 k) (fun t=>8 - (intOf t).toNat)
 case atStart=>exact ⟨0,by omega,fun i hi=>absurd hi (by omega),rfl⟩
 case round =>
  obtain ⟨k,d,a,rfl⟩:=hrel
  have HI:=ki a
  clear a
  by_cases hlt:k < 8
  ·have hi:=fun w=>six_index z k hlt w
   unfold six at hi
   generalize hzk:el z k=x at hi
   have b:=ki hzk
   clear hzk
   by_cases hz0:x < 0
   ·go_wp2
    go_ret
    exact ⟨.inr ⟨fun h=>absurd (h k hlt).1 (by rw[b.out];omega),rfl⟩,rfl⟩
   ·by_cases hz1:65535 < x
    ·go_wp2
     go_ret
     exact ⟨.inr ⟨fun h=>absurd (h k hlt).2 (by rw[b.out];omega),rfl⟩,rfl⟩
    ·go_wp2
     go_round
     case rel=>exact ⟨k+1,by omega,fun i hi=>if h:i=k then by subst h;rw[b.out];exact ⟨by omega,by omega⟩ else HI.out i (by omega),by go_num⟩
     case measure=>simp[intOf];omega
  ·go_wp2
   go_ret
   obtain rfl:k=8:=by omega
   exact ⟨.inl ⟨HI.out,rfl⟩,rfl⟩
theorem check_ok (z:List Int) (w:World) (h:Ok6 z):Calls Tryz.prog 70 #[six z] w fun e w'=>e=.returned .nilIface∧w'=w.alloc (.cells (sixC z) 23) :=
 (check_any z w).mono fun e w' hh=>by
  rcases hh with ⟨⟨_,he⟩|⟨hn,_⟩,hw⟩
  ·exact ⟨he,hw⟩
  ·exact absurd h hn
theorem zst_int (l:List Bool) (k:Nat) (b:Bool) (h:l.getD k false=b):AM.zrun l (k+1)=AM.zst (AM.zrun l k) k b:=by
 rw[AM.zrun,h]
theorem zeros_any (z:List Int) (w:World):Calls Tryz.prog 282 #[six z] w fun e w'=>e=.returned (.tuple #[.int .i64 (AM.zfrom z),.int .i64 (AM.zlong z)])∧w'=w.alloc (.cells (sixC z) 23):=by
 unfold six
 go_enter Tryz.func282,Tryz.ntmps282
 go_wp2
 go_loop [2,3,4,8] (fun f c r t=>∃ k:Nat,k≤8∧f=.int .i64 ((AM.zrun (AM.fl z) k).2.1:Nat)∧c=.int .i64 ((AM.zrun (AM.fl z) k).2.2:Nat)∧r=.int .i64 ((AM.zrun (AM.fl z) k).1:Nat)∧t=.int .i64 k) (fun _ _ _ t=>8 - (intOf t).toNat)
 case atStart=>exact ⟨0,by omega,rfl,rfl,rfl,rfl⟩
 case round =>
  obtain ⟨k,g,rfl,rfl,rfl,rfl⟩:=hrel
  by_cases hlt:k < 8
  ·have d:=fun w=>six_index z k hlt w
   unfold six at d
   have hb:=AM.zrun_le (AM.fl z) k
   by_cases hx:el z k=0
   ·have b:=ki (zst_int (AM.fl z) k true (by rw[AM.fl_at z k hlt,hx];rfl))
    generalize AM.zrun (AM.fl z) k=st at b hb ⊢
    obtain ⟨r,f,c⟩:=st
    simp only at hb
    rw[hx] at d
    clear hx
    by_cases hc:c < r+1
    ·have a:=ki (show AM.zrun (AM.fl z) (k+1)=(r+1,k - r,r+1) by rw[b.out];simp[AM.zst,hc])
     clear b
     go_wp2
     go_round
     case rel=>exact ⟨k+1,by omega,by rw[a.out];exact congrArg _ (by simp;omega),by rw[a.out];go_num,by rw[a.out];go_num,by go_num⟩
     case measure=>simp[intOf];omega
    ·have a:=ki (show AM.zrun (AM.fl z) (k+1)=(r+1,f,c) by rw[b.out];simp[AM.zst,hc])
     clear b
     go_wp2
     go_round
     case rel=>exact ⟨k+1,by omega,by rw[a.out],by rw[a.out],by rw[a.out];go_num,by go_num⟩
     case measure=>simp[intOf];omega
   ·have hx2:(el z k == 0)=false:=by simpa using hx
    have b:=ki (zst_int (AM.fl z) k false (by rw[AM.fl_at z k hlt,hx2]))
    generalize AM.zrun (AM.fl z) k=st at b hb ⊢
    obtain ⟨r,f,c⟩:=st
    simp only at hb
    generalize el z k=x at d hx hx2
    have a:=ki (show AM.zrun (AM.fl z) (k+1)=(0,f,c) by rw[b.out];simp[AM.zst])
    clear b
    go_wp2
    go_round
    case rel=>exact ⟨k+1,by omega,by rw[a.out],by rw[a.out],by rw[a.out];rfl,by go_num⟩
    case measure=>simp[intOf];omega
  ·obtain rfl:k=8:=by omega
   go_wp2
   go_ret2
   exact ⟨rfl,rfl⟩
end Ad
namespace Ad
open Go.RowKit Go.Shelf
variable {w:World}
def Tab4 (w:World):Prop:=w.cell? ⟨8,15,none⟩=some (.int .u8 4)
theorem lt_of_cell {p:Addr} {v:Value} (h:w.cell? p=some v):p.block < w.heap.size:=by
 rcases Nat.lt_or_ge p.block w.heap.size with h1|h1
 ·exact h1
 ·simp[World.cell?,Array.getElem?_eq_none h1] at h
theorem Tab4.below {w':World} (h:Tab4 w) (hb:Below w.heap.size w w'):Tab4 w':=by
 have:=hb.cell (p:=⟨8,15,none⟩) (lt_of_cell h)
 unfold Tab4;rw[this];exact h
theorem tz16 (w:World) (hb:Tab4 w) :
  Calls Tryz.prog 330 #[.int .u64 16] w fun e w'=>e=.returned (.int .i64 4)∧w'=w:=by
 have a:IntKind.u64.wrap (-16)=18446744073709551600:=by rw[IntKind.wrap_u64];rfl
 have b:bits BinOp.and IntKind.u64 16 18446744073709551600=16:=by decide +kernel
 unfold Tab4 at hb
 go_enter Tryz.func330,Tryz.ntmps330
 go_wp2
 go_ret
 exact ⟨rfl,rfl⟩
theorem pow16 (w:World):Calls Tryz.prog 329 #[.int .i64 16] w fun e w'=>e=.returned (.bool true)∧w'=w:=by
 have a:bits BinOp.and IntKind.i64 16 15=0:=by decide +kernel
 go_enter Tryz.func329,Tryz.ntmps329
 go_wp2
 go_ret
 exact ⟨rfl,rfl⟩
def Buf (w:World) (B:Nat) (wr:World) (i:Nat) (L:List UInt8):Prop :=
 i+L.length=65∧(∀ j,j < 65→∃ x:Int,wr.cell? ⟨B,j,none⟩=some (.int .u8 x))∧(∀ j (hj:j < L.length),wr.cell? ⟨B,i+j,none⟩=some (.int .u8 (L[j].toNat:Int)))∧(∀ j,wr.frozen? ⟨B,j,none⟩=false)∧Below B w wr
theorem Buf.store {B:Nat} {wr:World} {i:Nat} {L:List UInt8} (h:Buf w B wr (i+1) L) (c:UInt8):Buf w B (wr.setCell ⟨B,i,none⟩ (.int .u8 (c.toNat:Int))) i (c::L):=by
 obtain ⟨l,d,f,h4,g⟩:=h
 have a:(wr.setCell ⟨B,i,none⟩ (.int .u8 (c.toNat:Int))).cell? ⟨B,i,none⟩=some (.int .u8 (c.toNat:Int)):=by
  obtain ⟨x,k⟩:=d i (by omega)
  exact World.cell?_setCell_same _ _ _ k
 have b:∀ j,j≠i→(wr.setCell ⟨B,i,none⟩ (.int .u8 (c.toNat:Int))).cell? ⟨B,j,none⟩=wr.cell? ⟨B,j,none⟩:=fun j hj=>World.cell?_setCell_other _ _ _ _ (fun e=>hj (by cases e;rfl))
 refine ⟨by simp;omega,fun j hj=>?_,fun j hj=>?_,fun j=>?_,g.setCell (Nat.le_refl _) _⟩
 ·by_cases e:j=i
  ·subst e;exact ⟨_,a⟩
  ·rw[b j e];exact d j hj
 ·cases j with
  | zero=>exact a
  | succ j =>
   rw[b _ (by omega)]
   have:=f j (by simpa using hj)
   rw[show i+(j+1)=i+1+j by omega]
   exact this
 ·rw[World.frozen?_setCell];exact h4 j
theorem digit_at (k:Nat) (h:k < 16) (w:World):(Instr.index 9 (.string ⟨#[48,49,50,51,52,53,54,55,56,57,97,98,99,100,101,102,103,104,105,106,107,108,109,110,111,112,113,114,115,116,117,118,119,120,121,122]⟩) (.int .u64 k)).run Tryz.prog w=.ok (.int .u8 ((AM.hexd k).toNat:Int)) w:=by
 rcases (by omega:k=0∨k=1∨k=2∨k=3∨k=4∨k=5∨k=6∨k=7∨k=8∨k=9∨k=10∨k=11∨k=12∨k=13∨k=14∨k=15) with rfl|rfl|rfl|rfl|rfl|rfl|rfl|rfl|rfl|rfl|rfl|rfl|rfl|rfl|rfl|rfl <;> kernel_rfl
theorem and15 (u:Nat):bits .and .u64 (u:Int) 15=((u % 16:Nat):Int):=by
 have h:(BitVec.ofInt 64 15).toNat=2 ^ 4 - 1:=by decide
 have a:(BitVec.ofInt 64 (u:Int) &&& BitVec.ofInt 64 15).toNat=((u:Int) % ((2 ^ 64:Nat):Int)).toNat % 2 ^ 4:=by
  rw[BitVec.toNat_and,BitVec.toNat_ofInt,h,Nat.and_two_pow_sub_one_eq_mod]
 show IntKind.u64.wrap ((BitVec.ofInt 64 (u:Int) &&& BitVec.ofInt 64 15).toNat:Nat)=_
 rw[a,IntKind.wrap_u64]
 omega
theorem slice65 (B k:Nat) (hk:k < 65) (W:World):(Instr.sliceAt 421 (.pointer (some ⟨B,0,none⟩)) (some (.int .i64 k)) none none).run Tryz.prog W=.ok (.slice (some ⟨B,k,none⟩) (65 - k) (65 - k)) W:=by
 have a:Tryz.prog.arrayLen 421 = 65:=by kernel_rfl
 have b:Tryz.prog.elem 421 = 5:=by kernel_rfl
 have d:(sizeOf 5).run Tryz.prog W=.ok 1 W:=by kernel_rfl
 rw[run_sliceAt_array_l W 421 ⟨B,0,none⟩ (by kernel_rfl) .i64 (k:Int) (by omega) (by rw[a];omega),a,b,d]
 unfold slicedAt
 simp only[Result.andThen]
 rw[if_neg (by omega)]
 simp[Addr.add]
 exact fun h=>h.symm
theorem formatBits16 (u:Nat) (w:World) (h:u≤65535) (hb:Tab4 w) :
  Calls Tryz.prog 323 #[.slice none 0 0,.int .u64 u,.int .i64 16,.bool false,.bool false] w fun e w'=>e=.returned (.tuple #[.slice none 0 0,.string ⟨(AM.hexL u).toArray⟩])∧Below w.heap.size w w':=by
 have q:Tab4 (w.alloc (.cells Tryz.zeroCells421 421)):=hb.below ((Below.refl _ _).alloc (Nat.le_refl _) _)
 go_enter Tryz.func323,Tryz.ntmps323
 go_wp2_with (first
  | (go_at_call 329;refine (pow16 _).mono ?_;rintro e w' ⟨rfl,rfl⟩)
  | (go_at_call 330;refine (tz16 _ q).mono ?_;rintro e w' ⟨rfl,rfl⟩))
 go_loopw [1,13] (fun a b wr=>∃ (v i:Nat) (L:List UInt8),a=.int .u64 v∧b=.int .i64 i∧v≤65535∧Hid (AM.hexL u=AM.hexL v++L)∧i≤65∧Hid (62≤i∧(v < 16∨63≤i∧(v < 256∨64≤i∧(v < 4096∨i=65))))∧Hid (Buf w w.heap.size wr i L)) (fun a _ _=>(intOf a).toNat)
 case atStart =>
  refine ⟨u,65,[],rfl,rfl,h,ki (by simp),by omega,ki (by omega),rfl,fun j hj=>⟨0,?_⟩,fun j hj=>absurd hj (by simp),fun j=>World.frozen?_alloc_new _ _ _ _,(Below.refl _ _).alloc (Nat.le_refl _) _⟩
  have t:Tryz.zeroCells421 = Array.replicate 65 (.int .u8 0):=by kernel_rfl
  rw[World.cell?_alloc_new,t]
  simp[hj]
 case round =>
  obtain ⟨v,i,L,rfl,rfl,hv,n,y,p,g⟩:=hrel
  obtain ⟨z,o⟩:=p.out
  by_cases hlt:16≤v
  ·obtain ⟨k,rfl⟩:∃ k,i=k+1:=⟨i - 1,by omega⟩
   have r:=ki (show 62≤k∧(v / 16 < 16∨63≤k∧(v / 16 < 256∨64≤k∧(v / 16 < 4096∨k=65))) by omega)
   have A:=and15 v
   have hd:=digit_at (v % 16) (by omega)
   have f:=ki (show AM.hexL u=AM.hexL (v / 16)++AM.hexd (v % 16)::L by rw[n.out,AM.hexL_ge (by omega)];simp)
   generalize v % 16=d at A hd f
   obtain ⟨x,B⟩:=g.out.2.1 k (by omega)
   have s:=g.out.2.2.2.1 k
   have l:=ki (g.out.store (AM.hexd d))
   clear o p g n
   go_wp2
   go_roundw
   case rel=>exact ⟨v / 16,k,AM.hexd d::L,by go_num,by go_num,by omega,f,by omega,r,l⟩
   case measure=>simp[intOf];omega
  ·obtain ⟨k,rfl⟩:∃ k,i=k+1:=⟨i - 1,by omega⟩
   have hd:=digit_at v (by omega)
   have f:=ki (show AM.hexL u=AM.hexd v::L by rw[n.out,AM.hexL_lt (by omega)];simp)
   obtain ⟨x,B⟩:=g.out.2.1 k (by omega)
   have s:=g.out.2.2.2.1 k
   have l:=ki (g.out.store (AM.hexd v))
   clear o p g n
   have hsl:=slice65 w.heap.size k (by omega)
   have E:(convert 37 9 (.slice (some ⟨w.heap.size,k,none⟩) (65 - k) (65 - k))).run Tryz.prog (wr.setCell ⟨w.heap.size,k,none⟩ (.int .u8 ((AM.hexd v).toNat:Int)))=.ok (.string ⟨(AM.hexL u).toArray⟩) (wr.setCell ⟨w.heap.size,k,none⟩ (.int .u8 ((AM.hexd v).toNat:Int))):=by
    have C:(AM.hexL u).length=65 - k:=by rw[f.out];have:=l.out.1;simp at this ⊢;omega
    have h:=run_convert_bytes_back (P:=Tryz.prog) (wr.setCell ⟨w.heap.size,k,none⟩ (.int .u8 ((AM.hexd v).toNat:Int))) 37 9 5 ⟨w.heap.size,k,none⟩ (65 - k) (AM.hexL u) Tryz.underlying37 Tryz.underlying5 Tryz.underlying9 (fun j hj=>by
     rw[Lib.add_plain]
     have:=l.out.2.2.1 j (by rw[← f.out];exact hj)
     rw[this,List.getElem_of_eq f.out hj])
    rw[C] at h
    exact h
   have D:=l.out.2.2.2.2
   go_wp2
   go_ret2
   exact ⟨rfl,D⟩
theorem ifmt16 (u:Nat) (w:World) (h:u≤65535) (hb:Tab4 w) :
  Calls Tryz.prog 312 #[.int .i64 u,.int .i64 16] w fun e w'=>e=.returned (.string ⟨(AM.hexL u).toArray⟩)∧Below w.heap.size w w':=by
 go_enter Tryz.func312,Tryz.ntmps312
 go_wp2_with (go_at_call 323;refine (formatBits16 u _ h hb).mono ?_;rintro e w' ⟨rfl,a⟩)
 go_ret
 exact ⟨rfl,a⟩
theorem fmt16 (u:Nat) (w:World) (h:u≤65535) (hb:Tab4 w) :
  Calls Tryz.prog 306 #[.int .i64 u,.int .i64 16] w fun e w'=>e=.returned (.string ⟨(AM.hexL u).toArray⟩)∧Below w.heap.size w w':=by
 go_enter Tryz.func306,Tryz.ntmps306
 go_wp2_with (go_at_call 312;refine (ifmt16 u _ h hb).mono ?_;rintro e w' ⟨rfl,a⟩)
 go_ret
 exact ⟨rfl,a⟩
theorem lower_any (c:Int) (w:World):Calls Tryz.prog 324 #[.int .u8 c] w fun e w'=>e=.returned (.int .u8 (bits .or .u8 c 32))∧w'=w:=by
 go_enter Tryz.func324,Tryz.ntmps324
 go_wp2
 go_ret
 exact ⟨rfl,rfl⟩
def lowOk (c:Fin 256):Bool :=
 let l:=bits .or .u8 (c.val:Int) 32
 decide (0≤l) && decide (l≤255) &&
 (if 48≤c.val∧c.val≤57 then true
  else if 97≤c.val∧c.val≤102 then decide (l=c.val) else if 65≤c.val∧c.val≤70 then decide (l=(c.val:Int)+32)
  else decide (l < 97) || decide (102 < l))
theorem lowOk_all:∀ c:Fin 256,lowOk c=true:=by decide +kernel
theorem low_cases (c:UInt8):0≤bits .or .u8 (c.toNat:Int) 32∧bits .or .u8 (c.toNat:Int) 32≤255∧((48≤c.toNat∧c.toNat≤57∧AM.hvl c=some (c.toNat - 48))∨(¬ (48≤c.toNat∧c.toNat≤57)∧∃ d:Nat,d < 6∧bits .or .u8 (c.toNat:Int) 32=97+(d:Int)∧AM.hvl c=some (10+d))∨(¬ (48≤c.toNat∧c.toNat≤57)∧AM.hvl c=none∧(bits .or .u8 (c.toNat:Int) 32 < 97∨102 < bits .or .u8 (c.toNat:Int) 32))):=by
 have h:=lowOk_all ⟨c.toNat,c.toNat_lt⟩
 unfold lowOk at h
 simp only at h
 generalize bits .or .u8 (c.toNat:Int) 32=l at h ⊢
 rw[Bool.and_eq_true,Bool.and_eq_true] at h
 obtain ⟨⟨b,e⟩,a⟩:=h
 refine ⟨of_decide_eq_true b,of_decide_eq_true e,?_⟩
 unfold AM.hvl
 by_cases c1:48≤c.toNat∧c.toNat≤57
 ·exact .inl ⟨c1.1,c1.2,by rw[if_pos c1]⟩
 ·rw[if_neg c1] at a ⊢
  by_cases c2:97≤c.toNat∧c.toNat≤102
  ·rw[if_pos c2] at a ⊢
   have:=of_decide_eq_true a
   exact .inr (.inl ⟨c1,c.toNat - 97,by omega,by omega,by congr 1;omega⟩)
  ·rw[if_neg c2] at a ⊢
   by_cases c3:65≤c.toNat∧c.toNat≤70
   ·rw[if_pos c3] at a ⊢
    have:=of_decide_eq_true a
    exact .inr (.inl ⟨c1,c.toNat - 65,by omega,by omega,by congr 1;omega⟩)
   ·rw[if_neg c3] at a ⊢
    refine .inr (.inr ⟨c1,rfl,?_⟩)
    rcases Bool.or_eq_true _ _ ▸ a with h|h
    ·exact .inl (of_decide_eq_true h)
    ·exact .inr (of_decide_eq_true h)
end Ad
namespace Ad
open Go.RowKit Go.Shelf
theorem iparse0 (w:World):Calls Tryz.prog 313 #[.string ⟨#[]⟩,.int .i64 16,.int .i64 16] w fun e w'=>e=.returned (.tuple #[.int .u64 0,.iface 393 (.int .i64 2)])∧w'=w:=by
 go_enter Tryz.func313,Tryz.ntmps313
 go_wp2
 go_ret2
 exact ⟨rfl,rfl⟩
theorem iparse16 (t:ByteArray) (hne:t.size≠0) (hmax:t.size≤9223372036854775806) (w:World) :
  Calls Tryz.prog 313 #[.string t,.int .i64 16,.int .i64 16] w fun e w' =>
   ((∃ n,AM.hx16 0 t.data.toList=some n∧e=.returned (.tuple #[.int .u64 (n:Nat),.nilIface]))∨(AM.hx16 0 t.data.toList=none∧(e=.returned (.tuple #[.int .u64 0,.iface 393 (.int .i64 2)])∨e=.returned (.tuple #[.int .u64 65535,.iface 393 (.int .i64 1)]))))∧w'=Lib.bytesWorld w 5 t:=by
 have D:t.toList.isEmpty=false:=by
  rw[← decide_eq_emptyBytes]
  exact decide_eq_false (fun h=>hne (by rw[h];rfl))
 have z:=Lib.run_convert_string_bytes (P:=Tryz.prog) w 9 37 5 t (u:=.string) Tryz.underlying9 Tryz.underlying37 Tryz.underlying5
 have q:∀ j,j < t.size→(Lib.bytesWorld w 5 t).cell? ⟨w.heap.size,j,none⟩=some (.int .u8 (t.data.toList.getD j 0).toNat):=fun j hj=>Lib.bytesWorld_cell w 5 t j hj
 obtain ⟨W1,hW1⟩:∃ W1,W1=Lib.bytesWorld w 5 t:=⟨_,rfl⟩
 rw[← hW1] at z q ⊢
 clear hW1
 obtain ⟨bs,hL⟩:∃ bs,bs=t.data.toList:=⟨_,rfl⟩
 have G:bs.length=t.size:=by rw[hL,Lib.size_eq]
 rw[← hL] at q ⊢
 clear hL
 have H:IntKind.u64.wrap (IntKind.u64.wrap 65536 - 1)=65535:=by
  rw[IntKind.wrap_u64,IntKind.wrap_u64]
  decide
 go_enter Tryz.func313,Tryz.ntmps313
 go_wp2
 go_loop [12,13,101] (fun vu vn vi=>∃ (k acc:Nat) (a:Int),vu=.bool false∧vn=.int .u64 a∧vi=.int .i64 k∧k≤t.size∧Hid (a=(acc:Int)∧acc≤65535∧AM.hx16 0 bs=AM.hx16 acc (bs.drop k)))
  (fun _ _ vi=>t.size - (intOf vi).toNat)
 case atStart=>exact ⟨0,0,0,rfl,rfl,rfl,by omega,rfl,by omega,rfl⟩
 case round =>
  obtain ⟨k,acc,a,rfl,rfl,rfl,I,hh⟩:=hrel
  obtain ⟨l,f,b⟩:=hh.out
  clear hh
  have E:0≤a:=by omega
  have F:a≤65535:=by omega
  by_cases hkn:k < t.size
  ·have hc:=q k hkn
   have i:bs.drop k=bs[k]'(by omega)::bs.drop (k+1):=List.drop_eq_getElem_cons (by omega)
   have o:bs.getD k 0=bs[k]'(by omega):=by simp[List.getD,List.getElem?_eq_getElem (show k < bs.length by omega)]
   rw[i] at b
   rw[o] at hc
   generalize bs[k]'(by omega)=c at hc b
   have B:c.toNat < 256:=c.toNat_lt
   clear q i o
   obtain ⟨s,v,r⟩:=low_cases c
   have x:bits .or .u8 95 32=127:=by decide +kernel
   rcases r with ⟨hd0,hd1,hvc⟩|⟨hd,d,hd6,hlo,hvc⟩|⟨hd,hvc,hlo⟩
   ·-- a decimal digit
    clear s v
    by_cases hov:65535 < acc*16+(c.toNat - 48)
    ·have g:=ki (show AM.hx16 0 bs=none by rw[b,AM.hx16,hvc];simp[hov])
     have p:65535 < a*16+((c.toNat:Int) - 48):=by omega
     clear f hov l b hvc
     go_wp2
     go_ret2
     exact ⟨.inr ⟨g.out,.inr rfl⟩,rfl⟩
    ·have y:Hid (a*16+((c.toNat:Int) - 48)=((acc*16+(c.toNat - 48):Nat):Int)∧acc*16+(c.toNat - 48)≤65535∧AM.hx16 0 bs=AM.hx16 (acc*16+(c.toNat - 48)) (bs.drop (k+1))):=Lib.hid ⟨by omega,by omega,by rw[b,AM.hx16,hvc];simp[hov]⟩
     have p:a*16+((c.toNat:Int) - 48)≤65535:=by omega
     clear f hov b l hvc
     go_wp2
     refine ⟨⟨k+1,acc*16+(c.toNat - 48),a*16+((c.toNat:Int) - 48),rfl,(by first|rfl|(congr 1;omega)),(by first|rfl|(congr 1;omega)),by omega,y⟩,by simp[intOf];omega⟩
   ·-- a letter
    clear s v
    have C:¬ (c.toNat:Int)=95:=by intro e;rw[e,x] at hlo;omega
    by_cases hov:65535 < acc*16+(10+d)
    ·have g:=ki (show AM.hx16 0 bs=none by rw[b,AM.hx16,hvc];simp[hov])
     have p:65535 < a*16+(10+(d:Int)):=by omega
     clear f hov l b hvc
     go_wp2_with (go_at_call 324;refine (lower_any _ _).mono ?_;rintro e w' ⟨rfl,rfl⟩)
     all_goals go_ret2
     all_goals exact ⟨.inr ⟨g.out,.inr rfl⟩,rfl⟩
    ·have y:Hid (a*16+(10+(d:Int))=((acc*16+(10+d):Nat):Int)∧acc*16+(10+d)≤65535∧AM.hx16 0 bs=AM.hx16 (acc*16+(10+d)) (bs.drop (k+1))):=Lib.hid ⟨by omega,by omega,by rw[b,AM.hx16,hvc];simp[hov]⟩
     have p:a*16+(10+(d:Int))≤65535:=by omega
     clear f hov b l hvc
     go_wp2_with (go_at_call 324;refine (lower_any _ _).mono ?_;rintro e w' ⟨rfl,rfl⟩)
     all_goals refine ⟨⟨k+1,acc*16+(10+d),a*16+(10+(d:Int)),rfl,(by first|rfl|(congr 1;omega)),(by first|rfl|(congr 1;omega)),by omega,y⟩,by simp[intOf];omega⟩
   ·-- no digit
    have g:=ki (show AM.hx16 0 bs=none by rw[b,AM.hx16,hvc])
    clear f l b hvc
    go_wp2_with (go_at_call 324;refine (lower_any _ _).mono ?_;rintro e w' ⟨rfl,rfl⟩)
    all_goals go_ret2
    all_goals exact ⟨.inr ⟨g.out,.inl rfl⟩,rfl⟩
  ·have A:k=t.size:=by omega
   subst A
   have g:=ki (show AM.hx16 0 bs=some acc by rw[b,List.drop_eq_nil_of_le (by omega)];rfl)
   subst l
   clear f E F b
   go_wp2
   go_ret2
   exact ⟨.inl ⟨acc,g.out,rfl⟩,rfl⟩
end Ad
end Go.Proofs.YtgcojnlngchllaaGreatDoor
