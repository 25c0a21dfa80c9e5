/- What a gate answers to packets that were written so: of numbers and bytes alone. What holds of a gate behind each step: of numbers alone. Package gate: New, whatever the config. Package gangplanktop: plain, by a contract. Package gangplanktop: the one known fact: a packet goes on, and back. Package gangplanktop: one, by a contract. Who is picked: the best of all, whatever their order, and with one of them gone. Two gates side by side. TopMoves, whatever comes. What holds of a gate behind Tick, Probe and Drain; calls on a gate. What is sent by a step that answers a bind. A step played on a gate. A step played on a gate: what holds of it goes on to hold. TopStream: of numbers and bytes alone; parts of slices; what is kept. GateRefuses: binds in a row of their own; what an error tells; what is kept. -/
import Derived.Test.YtgcojnlngchllaaGreatDoorK34
import Derived.Deep.Fields
namespace Go.Proofs.YtgcojnlngchllaaGreatDoor
open Go.RowKit
set_option linter.unusedVariables false
set_option maxRecDepth 100000
set_option maxHeartbeats 40000000
section
def z7 (z:List Int):List Int:=[el z 0,el z 1,el z 2,el z 3,el z 4,el z 5,el z 6]
theorem eb_le {z D:List Int} (h:Okg z D.length) (over:Int):(eb z over D).length≤320:=by
 rw[eb_len]
 have:=hn_le (el z 0)
 have:=h.2.2.1
 omega
theorem okp6 {s d:List Int} {t:Int} {z:List Int} {n:Nat} (hs:Ok6 s) (hd:Ok6 d) (ht:up 255 t=true) (hz:Okg z n):V6.Okp s d t (el z 0):=⟨hs,hd,up_true ht,up_true (okg_kind hz)⟩
def g6s (g:GS) (f:List Int) (hop:Int) (z D:List Int):Int×List Int×GS :=
 if (ldo g.c f).1≠0 then (4,[],g)
 else if tell g.c g.inj f=true∧el z 5 / 2 % 2=1∧0 < D.length then (2,[],g)
 else if (bdo g f (el z 5) (whr g f (ldo g.c f).2)).1≠0 then ((bdo g f (el z 5) (whr g f (ldo g.c f).2)).1,[],(bdo g f (el z 5) (whr g f (ldo g.c f).2)).2.2)
 else g6b (bdo g f (el z 5) (whr g f (ldo g.c f).2)).2.2 (bdo g f (el z 5) (whr g f (ldo g.c f).2)).2.1 hop z D
end
section
variable {g:GS} {z zs:List Int}
theorem rising_len:∀ (l:List Int) (a n:Int),0≤n→l.Pairwise (fun x y=>x < y)→(∀ x ∈ l,a≤x∧x < a+n)→(l.length:Int)≤n
 | [],_,n,hn,_,_=>by simpa using hn
 | x::r,a,n,hn,hp,hb=>by
  rw[List.pairwise_cons] at hp
  have hx:=hb x (List.mem_cons_self ..)
  have h1:=rising_len r (x+1) (a+n - (x+1)) (by omega) hp.2 (fun y hy=>⟨by have:=hp.1 y hy;omega,by have:=(hb y (List.mem_cons_of_mem _ hy)).2;omega⟩)
  rw[List.length_cons]
  omega
theorem BI.len {m:Nat} {ws:Nat→List Int} {ts:Nat→Bool} {bs:List (List Int)} (h:BI m ws ts bs):bs.length≤8*m:=by
 have a:=rising_len (bs.map (fun b=>el b 19)) 1024 ((8*m:Nat):Int) (by omega) (List.pairwise_map.2 h.2.1) (fun x hx=>by
  obtain ⟨b,hb,rfl⟩:=List.mem_map.1 hx
  obtain ⟨_,⟨i,a,d,_⟩,_⟩:=h.1 b hb
  show 1024≤el b 19∧el b 19 < 1024+((8*m:Nat):Int)
  omega)
 rw[List.length_map] at a
 omega
theorem ins_mem {x b:List Int} {bs:List (List Int)} (h:b ∈ ins x bs):b=x∨b ∈ bs:=by
 obtain ⟨p,_,e,_⟩:=ins_form x bs
 rw[e] at h
 rcases List.mem_append.1 h with h|h
 ·exact .inr (List.mem_of_mem_take h)
 ·rcases List.mem_append.1 h with h|h
  ·exact .inl (List.mem_singleton.1 h)
  ·exact .inr (List.mem_of_mem_drop h)
theorem bdo_ti {f:List Int} {flags:Int} {wr:Int×Int×Int} (hi:TI g) (hf:okf f=true) (hw:wr.2.2=0→fr wr.1=true∧wd wr.2.1=true):TI (bdo g f flags wr).2.2:=by
 obtain ⟨l,n,a,t4,d⟩:=hi
 cases hn:fnd g.bs f with
 | some k =>
  rw[bdo_some hn]
  obtain ⟨r,q,_⟩:=fndY hn
  have s:=a.use (p:=el (g.bs.getD k []) 19) (now:=g.now) (e:=0) (.inr (.inr (.inr ⟨k,prt_self a.2.1 r,t4,by have:=d _ q;omega,rfl,rfl⟩)))
  refine ⟨l,?_,s.1,t4,fun b hb=>?_⟩
  ·show (g.bs.set k _).length≤128
   rw[List.length_set]
   exact n
  ·rcases List.mem_or_eq_of_mem_set hb with h|rfl
   ·exact d b h
   ·exact Int.le_refl _
 | none =>
  rw[bdo_none hn]
  split
  ·exact ⟨l,n,a,t4,d⟩
  ·split
   ·exact ⟨l,n,a,t4,d⟩
   ·rename_i h2
    split
    ·exact ⟨l,n,a,t4,d⟩
    ·rename_i i ht
     have o:=hw (Classical.not_not.1 h2)
     have hb:=a.made (back:=wr.1) (far:=wr.2.1) (now:=g.now) hf (by rw[o.1,o.2,t4];rfl) hn ht
     refine ⟨l,Nat.le_trans hb.len (by show 8*g.m≤128;omega),hb,t4,fun b hb=>?_⟩
     rcases ins_mem hb with rfl|hb
     ·exact Int.le_refl _
     ·exact d b hb
theorem guo_ti (hi:TI g) (b z D:List Int):TI (guo g b z D).2.2.2:=by
 unfold guo
 split <;> exact hi
theorem gdo_ti (hi:TI g) (b z D:List Int):TI (gdo g b z D).2.2.2:=by
 unfold gdo
 split <;> exact hi
def Sv (st:Int×Bool×Bool):Prop:=(st.2.2=true→st.2.1=true)∧0≤st.1∧st.1 < 4294967296
theorem upo_sv {hd:List Int} {s:Int} {b h:Bool} (i:Sv (s,b,h)):Sv (upo hd s b h z zs).2.2.2:=by
 unfold upo
 split
 ·exact i
 ·split
  ·unfold bgo
   split
   ·exact i
   ·have:=md_in (el z 3+1)
    exact ⟨fun _=>rfl,this.1,this.2⟩
  ·split
   ·exact i
   ·split
    ·unfold fio
     split <;> exact i
    ·exact i
theorem dno_sv {s:Int} {b h:Bool} (i:Sv (s,b,h)):Sv (dno s b h z zs).2.2.2:=by
 unfold dno
 split
 ·exact i
 ·split
  ·exact i
  ·rename_i hb
   have a:b=true:=by cases b;exact absurd rfl hb;rfl
   split
   ·exact i
   ·split
    ·exact i
    ·exact ⟨fun _=>a,i.2⟩
theorem SI.stf (h:SI g) (b:List Int):∀ x ∈ (stf g b).1,Sv x.2.2:=by
 intro x hx
 unfold Go.Proofs.YtgcojnlngchllaaGreatDoor.stf at hx
 split at hx
 ·exact h x hx
 ·rcases List.mem_cons.1 hx with rfl|hx
  ·exact ⟨fun e=>(by cases e),Int.le_refl 0,(by decide:(0:Int) < 4294967296)⟩
  ·exact h x hx
theorem guo_si (h:SI g) (b z D:List Int):SI (guo g b z D).2.2.2:=by
 unfold guo
 split
 ·intro x d
  obtain ⟨y,e,i,⟨f,a⟩|⟨f,a⟩⟩:=sup_mem d
  ·rw[a]
   exact upo_sv (stf_si h b)
  ·rw[a]
   exact h.stf b y e
 ·exact h
theorem gdo_si (h:SI g) (b z D:List Int):SI (gdo g b z D).2.2.2:=by
 unfold gdo
 split
 ·rename_i st hst
  intro x d
  obtain ⟨y,e,i,⟨f,a⟩|⟨f,a⟩⟩:=sup_mem d
  ·rw[a]
   exact dno_sv (h _ (sfd_some hst))
  ·rw[a]
   exact h y e
 ·exact h
def IG (g:GS):Prop:=TI g∧SI g∧CI g
def Sm (g g':GS):Prop:=g'.c=g.c∧g'.inj=g.inj∧g'.bk=g.bk∧g'.m=g.m∧g'.now=g.now
theorem Sm.refl (g:GS):Sm g g:=⟨rfl,rfl,rfl,rfl,rfl⟩
theorem Sm.trans {a b c:GS} (h:Sm a b) (k:Sm b c):Sm a c:=⟨k.1.trans h.1,k.2.1.trans h.2.1,k.2.2.1.trans h.2.2.1,k.2.2.2.1.trans h.2.2.2.1,k.2.2.2.2.trans h.2.2.2.2⟩
theorem Sm.ci {g':GS} (h:Sm g g') (c:CI g):CI g':=by
 unfold CI at c ⊢
 rw[h.1,h.2.2.1]
 exact c
theorem bdo_sm (g:GS) (f:List Int) (flags:Int) (wr:Int×Int×Int):Sm g (bdo g f flags wr).2.2:=by
 obtain ⟨_,a,b,h4,d,e⟩:=bdo_ss g f flags wr
 exact ⟨a,b,h4,e,d⟩
theorem guo_sm (g:GS) (b z D:List Int):Sm g (guo g b z D).2.2.2:=by
 unfold guo
 split <;> exact Sm.refl _
theorem gdo_sm (g:GS) (b z D:List Int):Sm g (gdo g b z D).2.2.2:=by
 unfold gdo
 split <;> exact Sm.refl _
theorem g6b_st (g:GS) (b:List Int) (hop:Int) (z D:List Int):(g6b g b hop z D).2.2=(guo g b z D).2.2.2:=by
 unfold g6b
 split <;> rfl
theorem g4b_st (g:GS) (b:List Int) (ttl:Int) (z D:List Int):(g4b g b ttl z D).2.2=(gdo g b z D).2.2.2:=by
 unfold g4b
 split <;> rfl
theorem g6s_ig (h:IG g) {f:List Int} (hop:Int) {D:List Int} (hf:okf f=true) (hd:Ok6 (dst f)):IG (g6s g f hop z D).2.2∧Sm g (g6s g f hop z D).2.2:=by
 unfold g6s
 split
 ·exact ⟨h,Sm.refl _⟩
 ·rename_i hl
  split
  ·exact ⟨h,Sm.refl _⟩
  ·have e:=bdo_ti (flags:=el z 5) h.1 hf (fun h0=>whr_ok h.2.2 hf hd (Classical.not_not.1 hl) h0)
   have hs:=bdo_sm g f (el z 5) (whr g f (ldo g.c f).2)
   have i:=(bdo_ss g f (el z 5) (whr g f (ldo g.c f).2)).1
   have b:SI (bdo g f (el z 5) (whr g f (ldo g.c f).2)).2.2:=by have:=h.2.1;unfold SI at this ⊢;rw[i];exact this
   split
   ·exact ⟨⟨e,b,hs.ci h.2.2⟩,hs⟩
   ·rw[g6b_st]
    have d:=hs.trans (guo_sm (bdo g f (el z 5) (whr g f (ldo g.c f).2)).2.2 (bdo g f (el z 5) (whr g f (ldo g.c f).2)).2.1 z D)
    exact ⟨⟨guo_ti e _ _ _,guo_si b _ _ _,d.ci h.2.2⟩,d⟩
theorem g6_ig (h:IG g) (ho:SM.Oct zs):IG (g6 g zs).2.2∧Sm g (g6 g zs).2.2:=by
 by_cases hG:V6.Good zs
 ·by_cases hE:(o6s zs).1=0
  ·have e:g6 g zs=g6s g (f6 zs) (zs.getD 7 0) (o6s zs).2.1 (o6s zs).2.2:=by
    unfold g6 g6s
    rw[if_neg (fun h=>h hG),if_neg (fun h=>h hE)]
   rw[e]
   have b:=oso_ok hE
   have h8:=V6.ok6_adr zs ho 8
   have a:=V6.ok6_adr zs ho 24
   exact g6s_ig h _ (fl5_ok b.1 h8 a) (fl5_dst a)
  ·have e:g6 g zs=((o6s zs).1,[],g):=by unfold g6;rw[if_neg (fun h=>h hG),if_pos hE]
   rw[e]
   exact ⟨h,Sm.refl _⟩
 ·have e:g6 g zs=(5,[],g):=by unfold g6;exact if_pos hG
  rw[e]
  exact ⟨h,Sm.refl _⟩
theorem use_ti (hi:TI g) {k:Nat} (hk:k < g.bs.length):TI (g.tab g.ws g.ts (g.bs.set k (usd (g.bs.getD k []) g.now))):=by
 obtain ⟨i,l,d,t4,f⟩:=hi
 have a:=mem_getD hk
 have n:=d.use (p:=el (g.bs.getD k []) 19) (now:=g.now) (e:=0) (.inr (.inr (.inr ⟨k,prt_self d.2.1 hk,t4,by have:=f _ a;omega,rfl,rfl⟩)))
 refine ⟨i,?_,n.1,t4,fun b hb=>?_⟩
 ·show (g.bs.set k _).length≤128
  rw[List.length_set]
  exact l
 ·rcases List.mem_or_eq_of_mem_set hb with h|rfl
  ·exact f b h
  ·exact Int.le_refl _
theorem g4s_ig (h:IG g) (s d ttl kind:Int) (z D:List Int):IG (g4s g s d ttl kind z D).2.2∧Sm g (g4s g s d ttl kind z D).2.2:=by
 unfold g4s
 split
 ·exact ⟨h,Sm.refl _⟩
 ·rename_i k hk
  split
  ·rw[g4b_st]
   have a:=(prt_lt (nrk_some hk).2).1
   have hs:Sm g (gdo (g.tab g.ws g.ts (g.bs.set k (usd (g.bs.getD k []) g.now))) (g.bs.getD k []) z D).2.2.2:=Sm.trans (b:=g.tab g.ws g.ts (g.bs.set k (usd (g.bs.getD k []) g.now))) (Sm.refl g) (gdo_sm _ _ _ _)
   exact ⟨⟨gdo_ti (use_ti h.1 a) _ _ _,gdo_si (g:=g.tab g.ws g.ts (g.bs.set k (usd (g.bs.getD k []) g.now))) h.2.1 _ _ _,hs.ci h.2.2⟩,hs⟩
  ·exact ⟨h,Sm.refl _⟩
theorem g4_ig (h:IG g) (zs:List Int):IG (g4 g zs).2.2∧Sm g (g4 g zs).2.2:=by
 unfold g4
 split
 ·exact ⟨h,Sm.refl _⟩
 ·split
  ·exact ⟨h,Sm.refl _⟩
  ·exact g4s_ig h _ _ _ _ _ _
theorem gz0_ig {c:List Int} {inj:Bool} {bk:List (List Int)} {m:Nat} (hm:m≤16) (hp:Em.PF (pfx c) (el c 17) 0) (h:cko c bk 0=0):IG (gz0 c inj bk m):=⟨gz0_ti _ _ _ _ hm,gz0_si _ _ _ _,gz0_ci hp h⟩
end
section
def NG (W:World) (c:List Int) (inj:Bool) (bk:List (List Int)) (m:Nat) (e:Ending) (w':World):Prop:=∃ G a' cap' tv S Ot,e=.returned (.tuple #[.pointer (some ⟨G,0,none⟩),.nilIface])∧GC G a' cap' tv S Ot (fun _=>0) (gz0 c inj bk m) w'∧(∀ k,GO G a' Ot (SO S (fun _=>0) []) k→W.heap.size≤k)∧Below W.heap.size W w'
end
section
def c0:List Int:=[1,0,0,0,0,0,0,0,80,2,0,0,0,0,0,0,0,32,9,0,2]
def cbu (ps:Array (Nat×Value)):Sem Value:=Instr.build 26 ps
theorem cbu_shut (ps:Array (Nat×Value)):Instr.build 26 ps=cbu ps:=rfl
attribute [local go_sem ↓] cbu_shut
end
section
theorem p6o_oct {s d:List Int} {t:Int} {z D:List Int} (hs:Ok6 s) (hd:Ok6 d) (ht:up 255 t=true) (hz:Okg z D.length) (ho:SM.Oct D):SM.Oct (p6o s d t z D):=V6.bys_oct _ _ _ _ _ (okp6 hs hd ht hz) (eb_le hz _) (eb_oct _ _ _ ho (o6_in _ _ _ _ hs hd))
end
section
theorem p6o_len {s d:List Int} {t:Int} {z D:List Int}:0 < (p6o s d t z D).length:=bys_pos _ _ _ _ _
def OG (w:World) (G:Nat) (a:Option Addr) (cap:Nat) (tv:Value) (S:Nat) (Ot:Nat→Prop) (β:Int→Nat) (g:GS) (W:World):Prop:=GC G a cap tv S Ot β g W∧(∀ k,GO G a Ot (SO S β g.ss) k→w.heap.size≤k)∧Below w.heap.size w W
theorem OG.kept {w:World} {G:Nat} {a:Option Addr} {cap:Nat} {tv:Value} {S:Nat} {Ot:Nat→Prop} {β:Int→Nat} {g:GS} {W W':World} (h:OG w G a cap tv S Ot β g W) (hb:Below W.heap.size W W'):OG w G a cap tv S Ot β g W':=⟨h.1.kept hb,h.2.1,bt h.2.2 hb⟩
attribute [local go_sem ↓] hload_shut
end
section
def OKs (bs:List (List Int)):Prop:=bs.length≤8∧(∀ b ∈ bs,okb b=true)∧bs.Pairwise (fun a b=>el a 0≠el b 0)
theorem oks_of {bs:List (List Int)} (h:(bf bs).2=0):OKs bs:=by
 obtain ⟨h8,a⟩:=bf_ok h
 refine ⟨h8,fun b hb=>?_,List.pairwise_iff_getElem.2 fun i j hi hj hij=>?_⟩
 ·obtain ⟨i,hi,rfl⟩:=List.mem_iff_getElem.1 hb
  have:=(a i hi).1
  rwa [getD_at hi] at this
 ·have:=(a j hj).2
  unfold sid at this
  rw[List.any_eq_false] at this
  have d:=this i (List.mem_range.2 hij)
  rw[getD_at hi,getD_at hj] at d
  simpa using d
theorem oks_bf {bs:List (List Int)} (h:OKs bs):(bf bs).2=0:=by
 rw[bf_none (by have:=h.1;omega) fun j hj=>?_]
 have b:okb (bs.getD j [])=true:=by rw[getD_at hj];exact h.2.1 _ (List.getElem_mem hj)
 have d:sid bs j=false:=by
  unfold sid
  rw[List.any_eq_false]
  intro i e
  have a:=List.mem_range.1 e
  have:=List.pairwise_iff_getElem.1 h.2.2 i j (by omega) hj a
  rw[getD_at (by omega),getD_at hj]
  simpa using this
 unfold flt
 rw[b,d]
 rfl
end
section
variable {g:GS} {G:Nat} {O:Nat→Prop} {W w:World}
theorem GC.apart {a:Option Addr} {cap:Nat} {tv:Value} {S:Nat} {Ot:Nat→Prop} {β:Int→Nat} {w':World} (h:GC G a cap tv S Ot β g w) (hs:w.heap.size≤w'.heap.size) (hk:∀ k,GO G a Ot (SO S β g.ss) k→w'.heap[k]? = w.heap[k]?) (hr:∀ a n c zs,Row8 w a n c zs→Row8 w' a n c zs):GC G a cap tv S Ot β g w' :=
 ⟨h.1.same (hk G (.inl rfl)),⟨h.2.1.1.same (fun k q=>hk k (.inr (.inl q))),fun k q=>Nat.lt_of_lt_of_le (h.2.1.2.1 k q) hs,h.2.1.2.2⟩,(tb_kept _ _ _ _ _ _ _ h.2.2.1).2 w' hs (fun k q=>hk k (.inr (.inr (.inl q)))),h.2.2.2.1.same (fun k q=>hk k (.inr (.inr (.inr q)))) hr,h.2.2.2.2⟩
def GH (w:World) (G:Nat) (g:GS) (O:Nat→Prop) (W:World):Prop:=∃ a cap tv S Ot β,O=GO G a Ot (SO S β g.ss)∧OG w G a cap tv S Ot β g W
theorem GH.kept {W':World} (h:GH w G g O W) (hb:Below W.heap.size W W'):GH w G g O W':=by
 obtain ⟨a,b,d,S,f,β,e,h⟩:=h
 exact ⟨a,b,d,S,f,β,e,h.kept hb⟩
theorem GH.lt (h:GH w G g O W) {k:Nat} (hk:O k):k < W.heap.size:=by
 obtain ⟨a,b,d,S,e,β,rfl,h⟩:=h
 exact h.1.lt hk
theorem GH.below (h:GH w G g O W):Below w.heap.size w W:=by
 obtain ⟨a,b,d,S,e,β,rfl,h⟩:=h
 exact h.2.2
def GN (w:World) (G:Nat) (g':GS) (O:Nat→Prop) (W W':World):Prop:=∃ O',GH w G g' O' W'∧(∀ k,O' k→O k∨W.heap.size≤k)∧Kpt O W W'
theorem GH.call {g':GS} (h:GH w G g O W) {F:Nat} {xs:Array Value} {R:Ending→World→Prop}
  (hc:∀ a cap tv S Ot β,GC G a cap tv S Ot β g W→Calls Tryz.prog F xs W fun e w'=>R e w'∧GQ W G a cap tv S Ot β g g' w') :
  Calls Tryz.prog F xs W fun e w'=>R e w'∧GN w G g' O W w':=by
 obtain ⟨a,cap,tv,S,Ot,β,rfl,h⟩:=h
 refine (hc a cap tv S Ot β h.1).mono ?_
 rintro e w' ⟨i,b,β',l,d,f⟩
 have hs:=h.2.2.size
 exact ⟨i,_,⟨a,cap,tv,S,b,β',rfl,l,fun k hk=>(f k hk).elim (h.2.1 k) (fun h=>by omega),d.below h.2.2 h.2.1 hs⟩,f,d⟩
theorem GH.apart {P:Nat→Prop} {W':World} (h:GH w G g O W) (q:Kpt P W W') (hb:Below w.heap.size w W') (hd:∀ k,O k→¬ P k):GH w G g O W':=by
 obtain ⟨a,b,d,S,e,β,rfl,h⟩:=h
 exact ⟨a,b,d,S,e,β,rfl,h.1.apart q.size (fun k hk=>q.1.2.2.2.2 k (h.1.lt hk) (hd k hk)) q.2,h.2.1,hb⟩
theorem NG.gh {w':World} {c:List Int} {inj:Bool} {bk:List (List Int)} {m:Nat} {e:Ending} (h:NG W c inj bk m e w') (hb:Below w.heap.size w W):∃ G O,e=.returned (.tuple #[.pointer (some ⟨G,0,none⟩),.nilIface])∧GH w G (gz0 c inj bk m) O w'∧(∀ k,O k→W.heap.size≤k)∧Below W.heap.size W w':=by
 obtain ⟨G,a,b,f,S,g,i,l,d,e4⟩:=h
 exact ⟨G,_,i,⟨a,b,f,S,g,_,rfl,l,fun k hk=>Nat.le_trans hb.size (d k hk),bt hb e4⟩,d,e4⟩
end
section
theorem in6_gh {g:GS} (hg:IG g) (zs:List Int):∀ w G O W b l k,GH w G g O W→Row8 W b l k zs→l≤k→k≤maxLen→Calls Tryz.prog 51 #[.pointer (some ⟨G,0,none⟩),.slice b l k] W fun e w'=>(∃ a2 l2 c2,e=.returned (.tuple #[.slice a2 l2 c2,ev (g6 g zs).1])∧Row8 w' a2 l2 c2 (g6 g zs).2.1∧l2≤c2∧c2≤maxLen)∧GN w G (g6 g zs).2.2 O W w' :=
 fun w G O W b l k h r e1 e2=>h.call (R:=fun e w'=>∃ a2 l2 c2,e=.returned (.tuple #[.slice a2 l2 c2,ev (g6 g zs).1])∧Row8 w' a2 l2 c2 (g6 g zs).2.1∧l2≤c2∧c2≤maxLen) fun a cap tv S Ot β hG=>(in6_any G a cap tv S Ot β g b l k zs W hG hg.1 hg.2.1 hg.2.2 r e1 e2).mono fun e w' ⟨a2,l2,c2,e3,e4,e5⟩=>⟨⟨a2,l2,c2,e3,e4⟩,e5⟩
end
section
variable {g:GS}
theorem sgo_sub (gone:List (List Int)):∀ {ss:List (Int×List Int×Int×Bool×Bool)} {x:Int×List Int×Int×Bool×Bool},x ∈ sgo gone ss→x ∈ ss:=by
 unfold sgo
 induction gone with
 | nil=>exact fun h=>h
 | cons b r ih=>exact fun h=>(sdl_mem.1 (ih h)).1
theorem gtk_ig (h:IG g) (n:Int):IG (gtk g n).2:=by
 unfold gtk
 split
 ·rename_i hn
  obtain ⟨⟨f,i,k,t4,l⟩,hs,hc⟩:=h
  have d:=k.expire (g.now+n)
  refine ⟨⟨f,Nat.le_trans d.2.1 i,d.1,?_,fun b hb=>?_⟩,fun x hx=>hs x (sgo_sub _ hx),hc⟩
  ·have e:=t4
   unfold tc at e ⊢
   simp only[Bool.and_eq_true,decide_eq_true_eq] at e ⊢
   show 0≤g.now+n∧g.now+n≤_
   omega
  ·have a:b ∈ (es (g.now+n) g.bs g.ts g.bs.length).2.1:=hb
   rw[(es_form (g.now+n) g.bs g.ts g.bs.length (Nat.le_refl _)).2.1,List.take_length] at a
   have:=l b (List.mem_filter.1 a).1
   show el b 22≤g.now+n
   omega
 ·exact h
theorem oks_set {bk:List (List Int)} (h:OKs bk) {i:Nat} (hi:i < bk.length) {y:List Int} (h1:okb y=okb (bk.getD i [])) (h2:el y 0=el (bk.getD i []) 0):OKs (bk.set i y):=by
 obtain ⟨e,d,f⟩:=h
 refine ⟨by rw[List.length_set];exact e,fun b hb=>?_,?_⟩
 ·rcases List.mem_or_eq_of_mem_set hb with hb|rfl
  ·exact d b hb
  ·rw[h1,getD_at hi]
   exact d _ (List.getElem_mem hi)
 ·have h4:(bk.map (fun b=>el b 0)).Pairwise (fun a b=>a≠b):=List.pairwise_map.2 f
  have g:(bk.set i y).map (fun b=>el b 0)=bk.map (fun b=>el b 0):=by
   apply List.ext_getElem?
   intro j
   rw[List.getElem?_map,List.getElem?_map,List.getElem?_set]
   by_cases h:i=j
   ·subst h
    rw[if_pos rfl,if_pos hi,List.getElem?_eq_getElem hi]
    show some (el y 0)=some (el bk[i] 0)
    rw[h2,getD_at hi]
   ·rw[if_neg h]
  rw[← g] at h4
  exact List.pairwise_map.1 h4
theorem gmk_ig (h:IG g) (id:Int) {f:List Int→List Int} (h1:∀ x,okb (f x)=okb x) (h2:∀ x,el (f x) 0=el x 0):IG (gmk g id f).2:=by
 unfold gmk
 split
 ·exact h
 ·rename_i i hi
  exact ⟨h.1,h.2.1,h.2.2.1,h.2.2.2.1,h.2.2.2.2.1,h.2.2.2.2.2.1,oks_bf (oks_set (oks_of h.2.2.2.2.2.2) (svk_lt hi) (h1 _) (h2 _))⟩
theorem in4_gh (hg:IG g) (zs:List Int):∀ w G O W b l k,GH w G g O W→Row8 W b l k zs→l≤k→k≤maxLen→Calls Tryz.prog 52 #[.pointer (some ⟨G,0,none⟩),.slice b l k] W fun e w'=>(∃ a2 l2 c2,e=.returned (.tuple #[.slice a2 l2 c2,ev (g4 g zs).1])∧Row8 w' a2 l2 c2 (g4 g zs).2.1∧l2≤c2∧c2≤maxLen)∧GN w G (g4 g zs).2.2 O W w' :=
 fun w G O W b l k h r e1 e2=>h.call (R:=fun e w'=>∃ a2 l2 c2,e=.returned (.tuple #[.slice a2 l2 c2,ev (g4 g zs).1])∧Row8 w' a2 l2 c2 (g4 g zs).2.1∧l2≤c2∧c2≤maxLen) fun a cap tv S Ot β hG=>(in4_any G a cap tv S Ot β g b l k zs W hG hg.1 hg.2.1 r e1 e2).mono fun e w' ⟨a2,l2,c2,e3,e4,e5⟩=>⟨⟨a2,l2,c2,e3,e4⟩,e5⟩
theorem tick_gh (hg:IG g) (n:Int):∀ w G O W,GH w G g O W→Calls Tryz.prog 53 #[.pointer (some ⟨G,0,none⟩),.int .i64 n] W fun e w'=>e=.returned (ev (gtk g n).1)∧GN w G (gtk g n).2 O W w' :=
 fun w G O W h=>h.call (R:=fun e _=>e=.returned (ev (gtk g n).1)) fun a cap tv S Ot β hG=>gtick_any G a cap tv S Ot β g n W hG hg.1
theorem probe_gh (hl:g.bk.length≤1000) (id:Int) (u:Bool):∀ w G O W,GH w G g O W→Calls Tryz.prog 54 #[.pointer (some ⟨G,0,none⟩),.int .i64 id,.bool u] W fun e w'=>e=.returned (ev (gmk g id (fun x=>bup x u)).1)∧GN w G (gmk g id (fun x=>bup x u)).2 O W w' :=
 fun w G O W h=>h.call (R:=fun e _=>e=.returned (ev (gmk g id (fun x=>bup x u)).1)) fun a cap tv S Ot β hG=>probe_any G a cap tv S Ot β g id u W hG hl
theorem drain_gh (hl:g.bk.length≤1000) (id:Int) (u:Bool):∀ w G O W,GH w G g O W→Calls Tryz.prog 55 #[.pointer (some ⟨G,0,none⟩),.int .i64 id,.bool u] W fun e w'=>e=.returned (ev (gmk g id (fun x=>bdr x u)).1)∧GN w G (gmk g id (fun x=>bdr x u)).2 O W w' :=
 fun w G O W h=>h.call (R:=fun e _=>e=.returned (ev (gmk g id (fun x=>bdr x u)).1)) fun a cap tv S Ot β hG=>drain_any G a cap tv S Ot β g id u W hG hl
end
section
theorem SgIn.put {B:Nat} {z:List Int} {a:Option Addr} {len cap:Nat} {w:World} (p:SgIn B z a len cap w) (j:Nat) (hj:j < 7) (v:Int):SgIn B ((z7 z).set j v) a len cap (w.setCell ⟨B,j,none⟩ (.int .i64 v))∧Only B w (w.setCell ⟨B,j,none⟩ (.int .i64 v)):=by
 rw[setCell_eq_setRow w B j _ _ (0,0) _ p]
 have h:=setRow_heap w B _ ((sgC z a len cap).setIfInBounds j (.int .i64 v)) _ (0,0) p
 refine ⟨?_,only_setRow _ _ _⟩
 rcases (by omega:j=0∨j=1∨j=2∨j=3∨j=4∨j=5∨j=6) with rfl|rfl|rfl|rfl|rfl|rfl|rfl <;> exact h
attribute [local go_sem ↓] gload_shut hload_shut bload_shut
end
section
def stl (x:Value):Sem Value:=Instr.loadAt 41 x
theorem stl_shut (x:Value):Instr.loadAt 41 x=stl x:=rfl
theorem GN.pre {w:World} {G:Nat} {g':GS} {O:Nat→Prop} {W W1 W':World} (h:GN w G g' O W1 W') (hb:Below W.heap.size W W1):GN w G g' O W W':=by
 obtain ⟨a,b,d,e⟩:=h
 have hs:=hb.size
 exact ⟨a,b,fun k hk=>(d k hk).elim .inl (fun h=>.inr (by omega)),Kpt.trans (Kpt.of hb) e (fun k hk=>.inl hk)⟩
attribute [local go_sem ↓] stl_shut cload_shut
end
section
theorem IG.len {g:GS} (h:IG g):g.bk.length≤8:=(oks_of h.2.2.2.2.2.2).1
end
section
theorem GN.beside {w:World} {G:Nat} {g':GS} {O:Nat→Prop} {W W':World} (h:GN w G g' O W W') {B:Nat} (hB:B < W.heap.size) (hn:¬ O B):W'.heap[B]? = W.heap[B]?∧∃ O',GH w G g' O' W'∧¬ O' B:=by
 obtain ⟨O',a,b,d⟩:=h
 exact ⟨d.1.2.2.2.2 B hB hn,O',a,fun ho=>(b B ho).elim hn (fun q=>by omega)⟩
end
section
theorem all_new (v:Value) (m:Nat) (ws:Nat→List Int) (ts:Nat→Bool) (bs:List (List Int)) (O:Nat→Prop) (w:World) (hl:bs.length≤128) (hb:BI m ws ts bs) (ht:TB v m ws ts bs O w) :
  Calls Tryz.prog 57 #[v] w fun r w'=>∃ b,r=.returned b∧BdRow w.heap.size w' b bs∧Below w.heap.size w w':=by
 obtain ⟨T,P,BB,F,N,B,rfl,h,o,rfl⟩:=ht
 have p:=ki (those_any T P F N bs 110 #[] (fun _=>true) w h.1 h.2.2.1 hl (enters_of Tryz.func110 (by kernel_rfl) rfl) (fun b _ W _=>yes_any b W))
 have q:=ki hb.2.1
 clear h o hb hl
 go_enter Tryz.func57,Tryz.ntmps57
 go_wp2_with (go_at_call 109;refine p.o.mono ?_;rintro e w' ⟨v,l,rfl,d,f,i,h4⟩;have s:=ki (show BdRow w.heap.size w' v bs∧Below w.heap.size w w' by
  rw[show bs.filter (fun _=>true)=bs from List.filter_eq_self.2 (fun _ _=>rfl)] at d
  have:=sorted_one bs l d f q.o
  subst this
  obtain ⟨a,k,t,x⟩:=i
  refine ⟨⟨a,k,t,fun hp=>?_⟩,h4⟩
  obtain ⟨g,n,y,z,A⟩:=x hp
  exact ⟨g,n,y,⟨by omega,z.2⟩,A⟩);clear d f i h4)
 go_ret
 exact ⟨v,rfl,s.o⟩
theorem binds_new {w:World} {G:Nat} {g:GS} {O:Nat→Prop} {W:World} (hi:IG g) (h:GH w G g O W):Calls Tryz.prog 17 #[.pointer (some ⟨G,0,none⟩)] W fun e w'=>∃ v,e=.returned v∧BdRow W.heap.size w' v g.bs∧Below W.heap.size W w':=by
 obtain ⟨a,o,f,S,i,β,rfl,h⟩:=h
 have y:=h.1.1.table
 have k:=ki (all_new f g.m g.ws g.ts g.bs i W hi.1.2.1 hi.1.2.2.1 h.1.2.2.1)
 clear h hi
 go_enter Tryz.func17,Tryz.ntmps17
 go_wp2_with (go_at_call 57;refine k.o.mono ?_;rintro e p ⟨q,rfl,b,d⟩;have l:=ki d;have n:=ki b;clear d b)
 go_ret
 exact ⟨_,rfl,n.o,l.o⟩
theorem GN.row {w:World} {G:Nat} {g g':GS} {O:Nat→Prop} {W W':World} (h:GN w G g' O W W') {base:Nat} {v:Value} {bs:List (List Int)} (r:BdRow base W v bs) (hO:∀ k,O k→k < base):BdRow base W' v bs:=by
 obtain ⟨d,e,f,b⟩:=h
 exact r.fr b.1 (fun k hk _ ho=>by have:=hO k ho;omega)
end
end Go.Proofs.YtgcojnlngchllaaGreatDoor
