/- Package gate: what goes down, by a contract. A gate and a client's packet, as numbers and bytes: what goes on, and what comes of the gate. -/
import Derived.Test.YtgcojnlngchllaaGreatDoorK30
namespace Go.Proofs.YtgcojnlngchllaaGreatDoor
open Go.RowKit
set_option linter.unusedVariables false
set_option maxRecDepth 100000
set_option maxHeartbeats 40000000
section
attribute [local go_sem ↓] slk_shut gload_shut
theorem gdown_no (G:Nat) (a:Option Addr) (cap:Nat) (tv:Value) (S:Nat) (Ot:Nat→Prop) (β:Int→Nat) (g:GS) (b z:List Int) (a1:Option Addr) (l1 c1:Nat) (D:List Int) (w:World) (h:GC G a cap tv S Ot β g w) (hr:Row8 w a1 l1 c1 D) (ht:sfd g.ss (el b 19)=none) :
  Calls Tryz.prog 104 #[.pointer (some ⟨G,0,none⟩),.agg (bdC b),.agg (sgC z a1 l1 c1)] w fun e w'=>∃ a2 l2 c2,e=.returned (.tuple #[.agg (sgC (gdo g b z D).2.1 a2 l2 c2),ev (gdo g b z D).1])∧Row8 w' a2 l2 c2 (gdo g b z D).2.2.1∧GQ w G a cap tv S Ot β g (gdo g b z D).2.2.2 w':=by
 rw[show gdo g b z D=(0,z,D,g) by unfold gdo;rw[ht]]
 obtain ⟨r,hb⟩:=UK.start w b z a1 l1 c1 D hr
 have d:=ki r
 have f:=ki hb
 unfold zero7 at d f
 have p:=ki h
 have t:=ki (sfd_none ht)
 clear h hr ht r hb
 go_enter Tryz.func104,Tryz.ntmps104
 go_upto_region 1 with fail
 generalize ((World.alloc _ _).alloc _).alloc _=W at d f ⊢
 have v:=(p.o.kept f.o).1.streams
 have x:=d.o.1.cell 19 (by omega)
 have y:=fun k=>SS.no (w:=W.drewN k) ((p.o.kept (drn f.o k)).2.2.2.1) t.o
 have l:=ki (fun n=>d.o.kept (W':=World.drewN W n) ⟨rfl,rfl,rfl,Nat.le_refl _,fun _ _=>rfl⟩)
 have o:=ki (fun n=>drn f.o n)
 clear d f
 go_quiet (fail)
 clear v x y
 generalize hW:World.drewN _ _=W1
 have d:Hid (UK w b z a1 l1 c1 D W1):=by rw[← hW];exact l.o _
 have f:Hid (Below w.heap.size w W1):=by rw[← hW];exact o.o _
 clear hW l o
 go_wp2_with (first
  | (refine at_load rfl (.tmp 5) rfl rfl d.o.2.1 ?_)
  | (refine at_store rfl (.tmp 6) (.tmp 22) rfl rfl d.o.2.2.1 z a1 l1 c1 rfl ?_;intro B q i;have s:=ki (i.below f.o (by omega));have A:=ki (d.o.2.2.2.1.past d.o.2.2.1 i);replace q:=ki q;clear i))
 try simp only[Exit.inBlock,Exit.then]
 refine bodyPost_ret (results_sg rfl _ _ (w.heap.size+2) z a1 l1 c1 rfl q.o) rfl ?_
 exact ⟨a1,l1,c1,rfl,A.o,p.o.still s.o⟩
theorem gdown_yes (G:Nat) (a:Option Addr) (cap:Nat) (tv:Value) (S:Nat) (Ot:Nat→Prop) (β:Int→Nat) (g:GS) (b z:List Int) (a1:Option Addr) (l1 c1:Nat) (D:List Int) (st:List Int×Int×Bool×Bool) (w:World) (h:GC G a cap tv S Ot β g w) (hs:SI g) (hr:Row8 w a1 l1 c1 D) (ht:sfd g.ss (el b 19)=some st) :
  Calls Tryz.prog 104 #[.pointer (some ⟨G,0,none⟩),.agg (bdC b),.agg (sgC z a1 l1 c1)] w fun e w'=>∃ a2 l2 c2,e=.returned (.tuple #[.agg (sgC (gdo g b z D).2.1 a2 l2 c2),ev (gdo g b z D).1])∧Row8 w' a2 l2 c2 (gdo g b z D).2.2.1∧GQ w G a cap tv S Ot β g (gdo g b z D).2.2.2 w':=by
 rw[show gdo g b z D=((dno st.2.1 st.2.2.1 st.2.2.2 z D).1,(dno st.2.1 st.2.2.1 st.2.2.2 z D).2.1,(dno st.2.1 st.2.2.1 st.2.2.2 z D).2.2.1,g.str (sup (el b 19) (st.1,(dno st.2.1 st.2.2.1 st.2.2.2 z D).2.2.2) g.ss)) by unfold gdo;rw[ht]]
 obtain ⟨hk,hb⟩:=UK.start w b z a1 l1 c1 D hr
 have d:=ki hk
 have f:=ki hb
 unfold zero7 at d f
 have i:=ki h
 have q:=ki (sfd_some ht)
 have s:=(hs _ (sfd_some ht)).2
 have K:=ki (fun W B (p:ST 304 B st.1 st.2.1 st.2.2.1 st.2.2.2 W) (r:Row8 W a1 l1 c1 D)=>down_any B st.1 st.2.1 st.2.2.1 st.2.2.2 z a1 l1 c1 D W p s r)
 generalize dno st.2.1 st.2.2.1 st.2.2.2 z D=O at K ⊢
 clear h hr ht hk hb hs s
 go_enter Tryz.func104,Tryz.ntmps104
 go_upto_region 1 with fail
 generalize ((World.alloc _ _).alloc _).alloc _=W at d f ⊢
 have T:=(i.o.kept f.o).1.streams
 have U:=d.o.1.cell 19 (by omega)
 have V:=fun k=>SS.yes (w:=W.drewN k) ((i.o.kept (drn f.o k)).2.2.2.1) q.o
 have t:=ki (fun n=>d.o.kept (W':=World.drewN W n) ⟨rfl,rfl,rfl,Nat.le_refl _,fun _ _=>rfl⟩)
 have v:=ki (fun n=>drn f.o n)
 clear d f
 go_quiet (fail)
 clear T U V
 generalize hW:World.drewN _ _=W1
 have d:Hid (UK w b z a1 l1 c1 D W1):=by rw[← hW];exact t.o _
 have f:Hid (Below w.heap.size w W1):=by rw[← hW];exact v.o _
 clear hW t v
 have C:=ki (i.o.kept f.o)
 have y:=ki (C.o.2.2.2.1.2.1 _ q.o)
 go_wp2_with (first
  | (refine at_load rfl (.tmp 5) rfl rfl d.o.2.1 ?_)
  | (go_at_call 154;refine (K.o _ _ y.o d.o.2.2.2.1).mono ?_;rintro e X ⟨E,F,c3,rfl,H,A,I⟩;obtain ⟨L,M⟩:=C.o.turn q.o I A;have l:=ki (show SgIn (w.heap.size+2) [] none 0 0 X from (I.2.2.2.2 _ (by have:=d.o.2.2.2.2;omega) (fun e=>by have:=i.o.2.2.2.1.lt (.inr ⟨_,q.o,e⟩);omega)).trans d.o.2.2.1);have N:=ki L;have P:=ki ((Kpt.of (O:=GO G a Ot (SO S β g.ss)) f.o).trans M (fun k hk=>.inl hk));have H:=ki H;clear L M A I d C y)
  | (refine at_store rfl (.tmp 6) (.tmp 26) rfl rfl l.o O.2.1 E F c3 rfl ?_;intro w5 J o;have Y:=ki (H.o.past l.o o);have Z:=ki (show ¬ GO G a Ot (SO S β (g.str (sup (el b 19) (st.1,O.2.2.2) g.ss)).ss) (w.heap.size+2) by rintro (h1|h1|h1|h1);exact absurd i.o.1.lt (by omega);exact absurd (i.o.2.1.2.1 _ h1) (by omega);exact absurd (i.o.ot h1) (by omega);exact absurd (i.o.2.2.2.1.lt ((sup_so _ _ _ _ _ _).1 h1)) (by omega));have Q:=ki (N.o.other o Z.o (fun j x=>l.o.no8 j x));have R:=ki (P.o.own o (by omega) (fun j x=>l.o.no8 j x));replace J:=ki J;clear o))
 try simp only[Exit.inBlock,Exit.then]
 refine bodyPost_ret (results_sg rfl _ _ (w.heap.size+2) O.2.1 E F c3 rfl J.o) rfl ?_
 refine ⟨E,F,c3,rfl,Y.o,Ot,β,Q.o,R.o,?_⟩
 rintro k (h1|h1|h1|h1)
 ·exact .inl (.inl h1)
 ·exact .inl (.inr (.inl h1))
 ·exact .inl (.inr (.inr (.inl h1)))
 ·exact .inl (.inr (.inr (.inr ((sup_so _ _ _ _ _ _).1 h1))))
end
section
variable {g:GS} {q:Int} {D z:List Int} {n:Nat}
def fl5 (k:Int) (s:List Int) (p:Int) (d:List Int) (q:Int):List Int:=[k,el s 0,el s 1,el s 2,el s 3,el s 4,el s 5,el s 6,el s 7,p,el d 0,el d 1,el d 2,el d 3,el d 4,el d 5,el d 6,el d 7,q]
def zft (z:List Int) (f t:Int):List Int:=[el z 0,f,t,el z 3,el z 4,el z 5,el z 6]
def whr (g:GS) (f:List Int) (l:Bool×Int):Int×Int×Int:=if l.1=true then (el (pko (el g.c 19) f g.bk).1 1,el (pko (el g.c 19) f g.bk).1 2,(pko (el g.c 19) f g.bk).2) else (l.2,el f 18,0)
def f6 (zs:List Int):List Int:=fl5 (el (o6s zs).2.1 0) (adr zs 8) (el (o6s zs).2.1 1) (adr zs 24) (el (o6s zs).2.1 2)
def g6b (g:GS) (b:List Int) (hop:Int) (z D:List Int):Int×List Int×GS :=
 if (guo g b z D).1≠0 then ((guo g b z D).1,[],(guo g b z D).2.2.2)
 else (0,p4o (el g.c 18) (el b 20) (hop - 1) (zft (guo g b z D).2.1 (el b 19) (el b 21)) (guo g b z D).2.2.1,(guo g b z D).2.2.2)
def g6 (g:GS) (zs:List Int):Int×List Int×GS :=
 if ¬ (40≤zs.length∧zs.length≤360∧P4.wd zs 0=24576∧P4.wd zs 2=0∧P4.wd zs 4=(zs.length:Int) - 40) then (5,[],g)
 else if (o6s zs).1≠0 then ((o6s zs).1,[],g)
 else if (ldo g.c (f6 zs)).1≠0 then (4,[],g)
 else if tell g.c g.inj (f6 zs)=true∧el (o6s zs).2.1 5 / 2 % 2=1∧0 < (o6s zs).2.2.length then (2,[],g)
 else if (bdo g (f6 zs) (el (o6s zs).2.1 5) (whr g (f6 zs) (ldo g.c (f6 zs)).2)).1≠0 then ((bdo g (f6 zs) (el (o6s zs).2.1 5) (whr g (f6 zs) (ldo g.c (f6 zs)).2)).1,[],(bdo g (f6 zs) (el (o6s zs).2.1 5) (whr g (f6 zs) (ldo g.c (f6 zs)).2)).2.2)
 else g6b (bdo g (f6 zs) (el (o6s zs).2.1 5) (whr g (f6 zs) (ldo g.c (f6 zs)).2)).2.2 (bdo g (f6 zs) (el (o6s zs).2.1 5) (whr g (f6 zs) (ldo g.c (f6 zs)).2)).2.1 (zs.getD 7 0) (o6s zs).2.1 (o6s zs).2.2
def CI (g:GS):Prop:=Ok6 (vip g.c)∧Ok6 (pfx g.c)∧Em.LongP (el g.c 17)∧up 4294967295 (el g.c 18)=true∧(bf g.bk).2=0
theorem oso_ok {k over steps:Int} {zs:List Int} (h:(oso k over steps zs).1=0):Okg (oso k over steps zs).2.1 (oso k over steps zs).2.2.length∧el (oso k over steps zs).2.1 0=k∧eb (oso k over steps zs).2.1 over (oso k over steps zs).2.2=zs∧2≤steps:=by
 unfold oso at h ⊢
 split at h
 ·cases h
 ·split at h
  ·rename_i h1 h2
   exact absurd h h2
  ·split at h
   ·cases h
   ·rename_i h1 h2 h3
    rw[if_neg h1,if_neg h2,if_neg h3]
    obtain ⟨a,b,d⟩:=sdo_ok h
    exact ⟨a,b,d,by omega⟩
theorem zft_ok (h:Okg z n) {f t:Int} (hf:0≤f∧f≤65535) (ht:0≤t∧t≤65535):Okg (zft z f t) n:=⟨hf,ht,h.2.2.1,h.2.2.2⟩
theorem zq_ok (h:Okg z n) (h6:el z 0=6) (hq:0≤q∧q < 4294967296) {m:Nat} (hm:m≤300):Okg (zq z q) m:=by
 obtain ⟨a,b,_,h4|h4⟩:=h
 ·exact ⟨a,b,hm,.inl ⟨h6,⟨hq.1,by show q≤4294967295;omega⟩,h4.2.2⟩⟩
 ·omega
theorem za_ok (h:Okg z n) (h6:el z 0=6) (hq:0≤q∧q < 4294967296):Okg (za z q) n:=by
 obtain ⟨a,b,d,h4|h4⟩:=h
 ·exact ⟨a,b,d,.inl ⟨h6,h4.2.1,⟨hq.1,by show q≤4294967295;omega⟩,h4.2.2.2⟩⟩
 ·omega
theorem upo_ok {hd:List Int} {s:Int} {b hh:Bool} (h:Okg z D.length) (h0:(upo hd s b hh z D).1=0):Okg (upo hd s b hh z D).2.1 (upo hd s b hh z D).2.2.1.length∧el (upo hd s b hh z D).2.1 0=el z 0:=by
 unfold upo at h0 ⊢
 by_cases hc:cf z D.length≠0
 ·rw[if_pos hc] at h0
  exact absurd h0 hc
 ·rw[if_neg hc] at h0 ⊢
  have a:=(cf_ok (Classical.not_not.1 hc)).1
  by_cases h2:el z 5 / 2 % 2=1
  ·rw[if_pos h2] at h0 ⊢
   unfold bgo at h0 ⊢
   by_cases h3:0 < D.length
   ·rw[if_pos h3] at h0
    cases h0
   ·rw[if_neg h3]
    exact ⟨zq_ok h a (md_in _) (Nat.zero_le _),rfl⟩
  ·rw[if_neg h2] at h0 ⊢
   by_cases h3:b=false
   ·rw[if_pos h3] at h0
    cases h0
   ·rw[if_neg h3] at h0 ⊢
    by_cases h4:el z 3=s∧hh=false
    ·rw[if_pos h4] at h0 ⊢
     unfold fio at h0 ⊢
     by_cases h5:300 < hd.length+D.length
     ·rw[if_pos h5] at h0
      cases h0
     ·rw[if_neg h5]
      exact ⟨zq_ok h a (md_in _) (by rw[List.length_append];omega),rfl⟩
    ·rw[if_neg h4]
     exact ⟨h,rfl⟩
theorem dno_ok {s:Int} {b hh:Bool} (h:Okg z D.length) (hs:0≤s∧s < 4294967296) (h0:(dno s b hh z D).1=0):Okg (dno s b hh z D).2.1 (dno s b hh z D).2.2.1.length∧el (dno s b hh z D).2.1 0=el z 0:=by
 unfold dno at h0 ⊢
 by_cases hc:cf z D.length≠0
 ·rw[if_pos hc] at h0
  exact absurd h0 hc
 ·rw[if_neg hc] at h0 ⊢
  have a:=(cf_ok (Classical.not_not.1 hc)).1
  by_cases h3:b=false
  ·rw[if_pos h3] at h0
   cases h0
  ·rw[if_neg h3] at h0 ⊢
   by_cases h4:el z 5 / 16 % 2=0
   ·rw[if_pos h4]
    exact ⟨h,rfl⟩
   ·rw[if_neg h4]
    by_cases h5:ah (el z 4) s=true
    ·rw[if_pos h5]
     exact ⟨za_ok h a hs,rfl⟩
    ·rw[if_neg h5]
     exact ⟨h,rfl⟩
theorem guo_ok {b:List Int} (h:Okg z D.length) (h0:(guo g b z D).1=0):Okg (guo g b z D).2.1 (guo g b z D).2.2.1.length∧el (guo g b z D).2.1 0=el z 0:=by
 unfold guo at h0 ⊢
 split at h0
 ·rename_i ht
  rw[if_pos ht]
  exact upo_ok h h0
 ·rename_i ht
  rw[if_neg ht]
  exact ⟨h,rfl⟩
theorem gdo_ok {b:List Int} (hs:SI g) (h:Okg z D.length) (h0:(gdo g b z D).1=0):Okg (gdo g b z D).2.1 (gdo g b z D).2.2.1.length∧el (gdo g b z D).2.1 0=el z 0:=by
 unfold gdo at h0 ⊢
 split at h0
 ·rename_i st hst
  exact dno_ok h (hs _ (sfd_some hst)).2 h0
 ·exact ⟨h,rfl⟩
theorem guo_c (g:GS) (b z D:List Int):(guo g b z D).2.2.2.c=g.c∧(guo g b z D).2.2.2.now=g.now∧(guo g b z D).2.2.2.bs=g.bs:=by
 unfold guo
 split <;> exact ⟨rfl,rfl,rfl⟩
theorem fl5_ok {s d:List Int} (h:Okg z n) (hs:Ok6 s) (hd:Ok6 d):okf (fl5 (el z 0) s (el z 1) d (el z 2))=true:=by
 have a:s6 (cli (fl5 (el z 0) s (el z 1) d (el z 2)))=true:=(s6_iff _).2 fun k hk=>by
  rcases (by omega:k=0∨k=1∨k=2∨k=3∨k=4∨k=5∨k=6∨k=7) with rfl|rfl|rfl|rfl|rfl|rfl|rfl|rfl <;> exact hs _ (by omega)
 have b:s6 (dst (fl5 (el z 0) s (el z 1) d (el z 2)))=true:=(s6_iff _).2 fun k hk=>by
  rcases (by omega:k=0∨k=1∨k=2∨k=3∨k=4∨k=5∨k=6∨k=7) with rfl|rfl|rfl|rfl|rfl|rfl|rfl|rfl <;> exact hd _ (by omega)
 have e:wd (el z 1)=true:=(wd_iff _).2 h.1
 have h4:wd (el z 2)=true:=(wd_iff _).2 h.2.1
 have f:((el z 0 == 6) || (el z 0 == 17))=true:=by
  obtain ⟨_,_,_,h|h⟩:=h
  ·rw[h.1];rfl
  ·rw[h.1];rfl
 unfold okf
 rw[a,b]
 show (((el z 0 == 6) || (el z 0 == 17)) && true && true && wd (el z 1) && wd (el z 2))=true
 rw[e,h4,f]
 rfl
theorem fl5_dst {k:Int} {s:List Int} {p:Int} {d:List Int} (hd:Ok6 d):Ok6 (dst (fl5 k s p d q)):=fun k hk=>by
 rcases (by omega:k=0∨k=1∨k=2∨k=3∨k=4∨k=5∨k=6∨k=7) with rfl|rfl|rfl|rfl|rfl|rfl|rfl|rfl <;> exact hd _ (by omega)
theorem pko_in {seed:Int} {f:List Int} {bk:List (List Int)} (h:(pko seed f bk).2=0):∃ i,i < bk.length∧(pko seed f bk).1=bk.getD i []∧(bf bk).2=0:=by
 unfold pko at h ⊢
 by_cases h1:(bf bk).2=0
 ·rw[if_pos h1] at h ⊢
  by_cases h2:sok seed f 0=true
  ·rw[if_pos h2] at h ⊢
   unfold pkr at h ⊢
   cases hp:(pst seed f bk bk.length).1 with
   | none=>rw[hp] at h;cases h
   | some i=>exact ⟨i,pst_lt seed f bk _ i hp,rfl,h1⟩
  ·rw[if_neg h2] at h
   cases h
 ·rw[if_neg h1] at h
  exact absurd h h1
theorem gat_in (z:List Int) (h:Ok6 z) (q:Nat) (hq:q≤12):0≤Em.gat z q∧Em.gat z q≤4294967295:=by
 have hp:∀ k,k < 4→Em.pos q k < 16:=fun k hk=>Em.pos_lt hq hk
 have a:=Em.byt_in z h _ (hp 0 (by omega))
 have b:=Em.byt_in z h _ (hp 1 (by omega))
 have d:=Em.byt_in z h _ (hp 2 (by omega))
 have e:=Em.byt_in z h _ (hp 3 (by omega))
 unfold Em.gat
 omega
theorem whr_ok (hc:CI g) {f:List Int} (hf:okf f=true) (hd:Ok6 (dst f)) (hl:(ldo g.c f).1=0) (h:(whr g f (ldo g.c f).2).2.2=0):fr (whr g f (ldo g.c f).2).1=true∧wd (whr g f (ldo g.c f).2).2.1=true:=by
 unfold whr at h ⊢
 by_cases hv:(ldo g.c f).2.1=true
 ·rw[if_pos hv] at h ⊢
  obtain ⟨i,b,e,hb⟩:=pko_in h
  have a:=(bf_ok hb).2 i b
  dsimp only
  rw[e]
  have:=a.1
  unfold okb at this
  simp only[Bool.and_eq_true] at this
  exact ⟨this.1.2,this.1.1.2⟩
 ·rw[if_neg hv]
  refine ⟨?_,?_⟩
  ·unfold ldo at hl hv ⊢
   split at hl
   ·rename_i h1
    rw[if_pos h1] at hv
    exact absurd rfl hv
   ·rename_i h1
    rw[if_neg h1]
    split at hl
    ·rename_i h2
     rw[if_pos h2]
     show fr (oto (dst f) (el g.c 17)).1=true
     unfold oto
     have d:(el g.c 17 / 8).toNat≤12:=by have:=hc.2.2.1;unfold Em.LongP at this;omega
     have k:=gat_in (dst f) hd _ d
     split
     ·rfl
     ·unfold fr
      rw[Bool.and_eq_true,decide_eq_true_eq,decide_eq_true_eq]
      exact k
    ·cases hl
  ·unfold okf at hf
   simp only[Bool.and_eq_true] at hf
   exact hf.2
theorem bdo_gb {f:List Int} {flags:Int} {wr:Int×Int×Int} (hi:TI g) (hf:okf f=true) (hw:wr.2.2=0→fr wr.1=true∧wd wr.2.1=true) (h:(bdo g f flags wr).1=0):okf (bdo g f flags wr).2.1=true∧(0≤el (bdo g f flags wr).2.1 19∧el (bdo g f flags wr).2.1 19≤65535)∧fr (el (bdo g f flags wr).2.1 20)=true∧wd (el (bdo g f flags wr).2.1 21)=true∧flC (bdo g f flags wr).2.1=flC f:=by
 cases hn:fnd g.bs f with
 | some k =>
  rw[bdo_some hn]
  obtain ⟨_,d,a⟩:=fndY hn
  obtain ⟨e,⟨i,p,q,_⟩,_,l,n⟩:=hi.2.2.1.1 _ d
  have:=hi.1
  refine ⟨e,⟨?_,?_⟩,l,n,a⟩
  ·show 0≤el (g.bs.getD k []) 19
   omega
  ·show el (g.bs.getD k []) 19≤65535
   omega
 | none =>
  rw[bdo_none hn] at h ⊢
  split at h
  ·cases h
  ·rename_i d
   rw[if_neg d]
   split at h
   ·rename_i a
    exact absurd h a
   ·rename_i a
    rw[if_neg a]
    have b:=hw (Classical.not_not.1 a)
    split at h
    ·cases h
    ·rename_i i ht
     have o:i < 8*g.m:=by
      unfold tk at ht
      rcases Option.or_eq_some_iff.1 ht with h3|⟨_,h3⟩ <;> exact List.mem_range.1 (List.mem_of_find?_eq_some h3)
     have:=hi.1
     refine ⟨hf,⟨?_,?_⟩,b.1,b.2,rfl⟩
     ·show 0≤1024+(i:Int)
      omega
     ·show 1024+(i:Int)≤65535
      omega
theorem bdo_ss (g:GS) (f:List Int) (flags:Int) (wr:Int×Int×Int):(bdo g f flags wr).2.2.ss=g.ss∧(bdo g f flags wr).2.2.c=g.c∧(bdo g f flags wr).2.2.inj=g.inj∧(bdo g f flags wr).2.2.bk=g.bk∧(bdo g f flags wr).2.2.now=g.now∧(bdo g f flags wr).2.2.m=g.m:=by
 unfold bdo
 split
 ·exact ⟨rfl,rfl,rfl,rfl,rfl,rfl⟩
 ·split
  ·exact ⟨rfl,rfl,rfl,rfl,rfl,rfl⟩
  ·split
   ·exact ⟨rfl,rfl,rfl,rfl,rfl,rfl⟩
   ·split <;> exact ⟨rfl,rfl,rfl,rfl,rfl,rfl⟩
end
end Go.Proofs.YtgcojnlngchllaaGreatDoor
