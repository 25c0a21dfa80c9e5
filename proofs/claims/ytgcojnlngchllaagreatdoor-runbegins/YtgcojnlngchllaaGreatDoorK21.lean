/- Whose the blocks are, and which port is next. -/
import Derived.Test.YtgcojnlngchllaaGreatDoorK20
namespace Go.Proofs.YtgcojnlngchllaaGreatDoor
open Go.RowKit
set_option linter.unusedVariables false
section
variable {a b:List Int} {ow:Nat→List Int}
def Ag (ws ow:Nat→List Int) (ts:Nat→Bool) (m:Nat):Prop:=∀ k,k < m→∀ j,j < 8→ts (8*k+j)=true→sixC (ws (8*k+j))=sixC (ow k)
theorem six_el (h:sixC a=sixC b) (j:Nat) (hj:j < 8):el a j=el b j:=by
 have d:=sixC_at a j hj
 rw[h,sixC_at b j hj] at d
 injection d with d
 injection d with _ d
 exact d.symm
theorem eqz_six (h:eqz a b=true):sixC a=sixC b:=by
 have d:=(eqz_iff a b).1 h
 unfold sixC
 rw[d 0 (by omega),d 1 (by omega),d 2 (by omega),d 3 (by omega),d 4 (by omega),d 5 (by omega),d 6 (by omega),d 7 (by omega)]
theorem eqz_congr (h:sixC a=sixC b) (z:List Int):eqz a z=eqz b z:=by
 unfold eqz
 rw[six_el h 0 (by omega),six_el h 1 (by omega),six_el h 2 (by omega),six_el h 3 (by omega),six_el h 4 (by omega),six_el h 5 (by omega),six_el h 6 (by omega),six_el h 7 (by omega)]
theorem fo_cases (ts:Nat→Bool) (k:Nat):(nob (sb ts k)=true∧pofo ts k=none)∨(nob (sb ts k)=false∧∃ j,j < 8∧ts (8*k+j)=true∧pofo ts k=some (8*k+j)):=by
 cases h:pofo ts k with
 | none =>
  refine .inl ⟨(nob_iff _).2 fun j hj=>?_,rfl⟩
  unfold pofo at h
  rw[List.find?_eq_none] at h
  have:=h (8*k+j) (by rw[List.mem_range'_1];omega)
  unfold sb
  simpa using this
 | some i =>
  unfold pofo at h
  have a:=List.find?_some h
  have b:=List.mem_of_find?_eq_some h
  rw[List.mem_range'_1] at b
  obtain ⟨j,rfl⟩:∃ j,i=8*k+j:=⟨i - 8*k,by omega⟩
  refine .inr ⟨?_,j,by omega,a,rfl⟩
  cases hn:nob (sb ts k)
  ·rfl
  ·have:=(nob_iff _).1 hn j (by omega)
   unfold sb at this
   rw[this] at a
   cases a
theorem om_mine {ws:Nat→List Int} {ts:Nat→Bool} {m:Nat} (h:Ag ws ow ts m) (z:List Int) (k:Nat) (hk:k < m):om ws ts z k=mine ow ts z k:=by
 unfold om mine
 rcases fo_cases ts k with ⟨h1,h2⟩|⟨h1,j,hj,ht,h2⟩
 ·rw[h1,h2];simp[ome]
 ·rw[h1,h2]
  show eqz (ws (8*k+j)) z=_
  rw[eqz_congr (h k hk j hj ht) z]
  simp
theorem fx_spec {t:Nat→Bool} {j:Nat} (h:fx t=some j):j < 8∧t j=false∧∀ i,i < j→t i=true:=by
 unfold fx at h
 rw[List.find?_range_eq_some] at h
 obtain ⟨a,b,d⟩:=h
 exact ⟨List.mem_range.1 b,by simpa using a,fun i hi=>by simpa using d i hi⟩
theorem fx_spec0 {t:Nat→Bool} (h:fx t=none) (j:Nat) (hj:j < 8):t j=true:=by
 unfold fx at h
 rw[List.find?_eq_none] at h
 simpa using h j (List.mem_range.2 hj)
theorem find_blocks (f:Nat→Bool) (a:Nat→Bool) (ts:Nat→Bool) (m:Nat) (hf:∀ k,k < m→∀ j,j < 8→f (8*k+j)=(!ts (8*k+j) && a k)) :
  ((List.range m).find? (fun k=>a k && (fx (sb ts k)).isSome)=none∧(List.range (8*m)).find? f=none) ∨
  ∃ k j,k < m∧j < 8∧a k=true∧(List.range m).find? (fun k=>a k && (fx (sb ts k)).isSome)=some k∧fx (sb ts k)=some j∧(List.range (8*m)).find? f=some (8*k+j):=by
 have l:∀ k,k < m→(a k && (fx (sb ts k)).isSome)=false→∀ j,j < 8→f (8*k+j)=false:=by
  intro k d h j g
  rw[hf k d j g]
  cases ha:a k
  ·simp
  ·rw[ha] at h
   cases hx:fx (sb ts k) with
   | none=>have:=fx_spec0 hx j g;unfold sb at this;rw[this];rfl
   | some i=>rw[hx] at h;cases h
 cases h:(List.range m).find? (fun k=>a k && (fx (sb ts k)).isSome) with
 | none =>
  refine .inl ⟨rfl,find_none fun i hi=>?_⟩
  rw[List.find?_eq_none] at h
  have b:=h (i / 8) (List.mem_range.2 (by omega))
  have:=l (i / 8) (by omega) (by simpa using b) (i % 8) (by omega)
  rwa [show 8*(i / 8)+i % 8=i by omega] at this
 | some k =>
  rw[List.find?_range_eq_some] at h
  obtain ⟨b,r,s⟩:=h
  have d:=List.mem_range.1 r
  rw[Bool.and_eq_true] at b
  obtain ⟨j,g⟩:=Option.isSome_iff_exists.1 b.2
  obtain ⟨o,p,t⟩:=fx_spec g
  refine .inr ⟨k,j,d,o,b.1,rfl,g,find_some (by omega) ?_ fun i hi=>?_⟩
  ·rw[hf k d j o,b.1]
   unfold sb at p
   rw[p]
   rfl
  ·by_cases e:i / 8=k
   ·have n:=t (i % 8) (by omega)
    unfold sb at n
    have q:=hf k d (i % 8) (by omega)
    rw[show 8*k+i % 8=i by omega] at n q
    rw[q,n]
    rfl
   ·have h4:=s (i / 8) (by omega)
    have:=l (i / 8) (by omega) (by simpa only [Bool.not_eq_true'] using h4) (i % 8) (by omega)
    rwa [show 8*(i / 8)+i % 8=i by omega] at this
theorem tk_rm {ws:Nat→List Int} {ts:Nat→Bool} {m:Nat} (h:Ag ws ow ts m) (z:List Int) :
  (tk ws ts z (8*m)=none∧rm ow ts z m=none)∨∃ k j,k < m∧j < 8∧(mine ow ts z k=true∨nob (sb ts k)=true)∧rm ow ts z m=some k∧fx (sb ts k)=some j∧tk ws ts z (8*m)=some (8*k+j):=by
 have a:r0 ow ts z=fun k=>mine ow ts z k && (fx (sb ts k)).isSome:=rfl
 have b:r1 ts=fun k=>nob (sb ts k) && (fx (sb ts k)).isSome:=by
  funext k
  unfold r1
  cases hn:nob (sb ts k)
  ·rfl
  ·rw[fx_some (t:=sb ts k) (i:=0) (by omega) ((nob_iff _).1 hn 0 (by omega)) (fun j hj=>absurd hj (by omega))]
   rfl
 have hd:∀ k j:Nat,j < 8→(8*k+j) / 8=k:=fun k j hj=>by omega
 unfold tk rm
 rw[a,b]
 rcases find_blocks (f0 ws ts z) (mine ow ts z) ts m (fun k hk j hj=>by unfold f0;rw[hd k j hj,om_mine h z k hk]) with ⟨a1,a2⟩|⟨k,j,hk,hj,a0,a1,a2,a3⟩
 ·rw[a1,a2]
  rcases find_blocks (f1 ts) (fun k=>nob (sb ts k)) ts m (fun k hk j hj=>by
   unfold f1
   rw[hd k j hj]
   rcases fo_cases ts k with ⟨h1,h2⟩|⟨h1,_,_,_,h2⟩ <;> rw[h1,h2] <;> rfl) with ⟨b1,b2⟩|⟨k,j,hk,hj,b0,b1,b2,b3⟩
  ·rw[b1,b2];exact .inl ⟨rfl,rfl⟩
  ·rw[b1,b3]
   exact .inr ⟨k,j,hk,hj,.inr b0,rfl,b2,rfl⟩
 ·rw[a1,a3]
  exact .inr ⟨k,j,hk,hj,.inl a0,rfl,a2,rfl⟩
theorem Ag.take {ws:Nat→List Int} {ts:Nat→Bool} {m:Nat} (h:Ag ws ow ts m) (z:List Int) (k j:Nat) (hj:j < 8) (hm:mine ow ts z k=true∨nob (sb ts k)=true):Ag (upd ws (8*k+j) z) (upd ow k z) (upd ts (8*k+j) true) m:=by
 intro b g f d a
 unfold upd at a ⊢
 by_cases e:8*b+f=8*k+j
 ·have:b=k:=by omega
  rw[if_pos e,if_pos this]
 ·rw[if_neg e] at a ⊢
  have i:=h b g f d a
  by_cases ek:b=k
  ·subst ek
   rw[if_pos rfl,i]
   rcases hm with hm|hm
   ·unfold mine at hm
    rw[Bool.and_eq_true] at hm
    exact eqz_six hm.1
   ·have:=(nob_iff _).1 hm f d
    unfold sb at this
    rw[this] at a
    cases a
  ·rw[if_neg ek];exact i
theorem Ag.give {ws:Nat→List Int} {ts:Nat→Bool} {m:Nat} (h:Ag ws ow ts m) (k j:Nat):Ag ws (gv ow (upd ts (8*k+j) false) k) (upd ts (8*k+j) false) m:=by
 intro b g d f a
 have i:ts (8*b+d)=true:=by
  unfold upd at a
  by_cases e:8*b+d=8*k+j
  ·rw[if_pos e] at a;cases a
  ·rwa [if_neg e] at a
 rw[h b g d f i]
 unfold gv
 split
 ·rename_i hn
  by_cases ek:b=k
  ·subst ek
   have:=(nob_iff _).1 hn d f
   unfold sb at this
   rw[this] at a
   cases a
  ·unfold upd;rw[if_neg ek]
 ·rfl
end
end Go.Proofs.YtgcojnlngchllaaGreatDoor
