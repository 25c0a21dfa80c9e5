/- A segment's packet, of fours and of sixes, as bytes. Segments read of bytes, whatever they are: what is wrong, and what they hold; seg.Decode and seg.Size so, by contracts. Package gate: openSeg, by a contract. A gate as it lies in the heap; frames: which blocks may have turned, and that none of them holds bytes; a flow of a packet. A gate's state as numbers; the gate as it lies in the heap, all of it; what is kept. Package gate: open6 and open4, by contracts. -/
import Derived.Test.YtgcojnlngchllaaGreatDoorK27
import Derived.Test.YtgcojnlngchllaaGreatDoorK24
import Derived.Test.YtgcojnlngchllaaGreatDoorK26
import Derived.Test.YtgcojnlngchllaaGreatDoorK07
import Derived.Test.YtgcojnlngchllaaGreatDoorK09
namespace Go.Proofs.YtgcojnlngchllaaGreatDoor
open Go.RowKit
set_option linter.unusedVariables false
set_option maxRecDepth 100000
set_option maxHeartbeats 40000000
section
def p4o (s d t:Int) (z D:List Int):List Int:=V4.bys s d t (el z 0) 0 (eb z (o4 s d (el z 0) ((hn (el z 0):Nat)+(D.length:Int))) D)
def p6o (s d:List Int) (t:Int) (z D:List Int):List Int:=V6.bys s d t (el z 0) (eb z (o6 s d (el z 0) ((hn (el z 0):Nat)+(D.length:Int))) D)
end
section
theorem gt_no (w:World):Row8 w none 0 0 []:=⟨rfl,by simp[maxLen],SM.oct_nil,fun _=>⟨rfl,rfl⟩,fun h=>by omega⟩
def sdo (k over:Int) (zs:List Int):Int×List Int×List Int :=
 if zs.length < hn k∨hn k+300 < zs.length then (5,[],[])
 else if sf (rdz k zs) (zs.length - hn k)≠0 then (5,[],[])
 else if ¬ ((eb (rdz k zs) over (zs.drop (hn k))).take (cn k)=zs.take (cn k)∧(eb (rdz k zs) over (zs.drop (hn k))).drop (cn k+2)=zs.drop (cn k+2)) then (5,[],[])
 else if ¬ eb (rdz k zs) over (zs.drop (hn k))=zs then (6,[],[])
 else (0,rdz k zs,zs.drop (hn k))
theorem ev_err {n:Int} (h:n≠0):ev n=err n:=if_neg h
theorem ev_nil:ev 0=.nilIface:=rfl
theorem sdec_any (k over:Int) (a:Option Addr) (len cap:Nat) (zs:List Int) (w:World) (hr:Row8 w a len cap zs) (hcl:len≤cap) (hcm:cap≤maxLen) (hk:kn k=true) (ho:up 65535 over=true) :
  Calls Tryz.prog 193 #[.int .i64 k,.slice a len cap,.int .i64 over] w fun e w'=>∃ a' l c,e=.returned (.tuple #[.agg (sgC (sdo k over zs).2.1 a' l c),ev (sdo k over zs).1])∧Row8 w' a' l c (sdo k over zs).2.2∧Below w.heap.size w w':=by
 have hl:=hr.1
 unfold sdo
 by_cases h1:zs.length < hn k∨hn k+300 < zs.length
 ·rw[if_pos h1]
  exact (dec_len k over a len cap w hk ho (by omega) hr.2.1).mono fun e w' ⟨e1,d⟩=>⟨none,0,0,e1,gt_no _,d⟩
 ·rw[if_neg h1]
  have h8:=hn_pos k
  obtain ⟨g,b,rfl,-⟩:=hr.2.2.2.2 (by omega)
  by_cases h2:sf (rdz k zs) (zs.length - hn k)≠0
  ·rw[if_pos h2]
   exact (dec_encbad k over g b len cap zs w hr hk ho (by omega) (by omega) hcl hcm (by rw[← hl];exact h2)).mono fun e w' ⟨e1,d⟩=>⟨none,0,0,e1,gt_no _,d⟩
  ·rw[if_neg h2]
   have f:sf (rdz k zs) (len - hn k)=0:=by rw[← hl];exact Classical.not_not.1 h2
   by_cases h3:(eb (rdz k zs) over (zs.drop (hn k))).take (cn k)=zs.take (cn k)∧(eb (rdz k zs) over (zs.drop (hn k))).drop (cn k+2)=zs.drop (cn k+2)
   ·rw[if_neg (fun h=>h h3)]
    by_cases h4:eb (rdz k zs) over (zs.drop (hn k))=zs
    ·rw[if_neg (fun h=>h h4)]
     refine (dec_raw k over g b len cap zs w hr hk ho (by omega) (by omega) hcl hcm f true true ⟨fun _=>rfl,fun _=>h3⟩ ⟨fun _=>rfl,fun _=>h4⟩).mono ?_
     rintro e w' ⟨h|h|⟨_,_,a',i,e1,d⟩,hb⟩
     ·cases h.1
     ·cases h.2.1
     ·exact ⟨a',_,i,e1,d,hb⟩
    ·rw[if_pos h4]
     refine (dec_raw k over g b len cap zs w hr hk ho (by omega) (by omega) hcl hcm f true false ⟨fun _=>rfl,fun _=>h3⟩ ⟨fun h=>absurd h h4,fun h=>by cases h⟩).mono ?_
     rintro e w' ⟨h|⟨_,_,e1⟩|h,hb⟩
     ·cases h.1
     ·exact ⟨none,0,0,e1,gt_no _,hb⟩
     ·cases h.2.1
   ·rw[if_pos h3]
    refine (dec_raw k over g b len cap zs w hr hk ho (by omega) (by omega) hcl hcm f false (decide (eb (rdz k zs) over (zs.drop (hn k))=zs)) ⟨fun h=>absurd h h3,fun h=>by cases h⟩ (by rw[decide_eq_true_eq])).mono ?_
    rintro e w' ⟨⟨_,e1⟩|h|h,hb⟩
    ·exact ⟨none,0,0,e1,gt_no _,hb⟩
    ·cases h.1
    ·cases h.1
theorem sdo_ok {k over:Int} {zs:List Int} (h:(sdo k over zs).1=0):Okg (sdo k over zs).2.1 (sdo k over zs).2.2.length∧el (sdo k over zs).2.1 0=k∧eb (sdo k over zs).2.1 over (sdo k over zs).2.2=zs:=by
 unfold sdo at h ⊢
 split at h
 ·cases h
 ·split at h
  ·cases h
  ·split at h
   ·cases h
   ·split at h
    ·cases h
    ·rename_i h1 h2 h3 h4
     rw[if_neg h1,if_neg h2,if_neg h3,if_neg h4]
     refine ⟨(sf_iff _ _).1 ?_,?_,Classical.not_not.1 h4⟩
     ·rw[List.length_drop]
      exact Classical.not_not.1 h2
     ·unfold rdz
      split <;> rfl
theorem size_ok (z:List Int) (a:Option Addr) (len cap:Nat) (w:World) (h:Okg z len) :
  Calls Tryz.prog 148 #[.agg (sgC z a len cap)] w fun e w'=>e=.returned (.tuple #[.int .i64 ((hn (el z 0):Nat)+(len:Int)),.nilIface])∧Below w.heap.size w w':=by
 have hl:=h.2.2.1
 have g:=ki (fun W=>chk_any z a len cap W (by unfold maxLen;omega))
 rw[(sf_iff _ _).2 h,show ev 0=.nilIface from rfl] at g
 have f:=ki (al_below w (.cells (sgC z a len cap) 39))
 have b:=ki (sg_new w z a len cap)
 have i:=ki (fun W=>head_any (el z 0) W)
 have k:=hn_le (el z 0)
 generalize hn (el z 0)=H at i k ⊢
 have o:=ki h
 clear h
 go_enter Tryz.func148,Tryz.ntmps148
 go_upto_region 1 with fail
 generalize w.alloc (.cells (sgC z a len cap) 39)=W at f b ⊢
 go_upto_region 4 with (first
  | (refine at_load rfl (.tmp 1) rfl rfl b.o ?_)
  | (go_at_call 207;refine (g.o _).mono ?_;rintro e p ⟨rfl,d⟩;replace f:=ki (bt f.o d);replace b:=ki (b.o.kept d);clear d))
 have q:=b.o.c0
 have r:=b.o.c7
 have l:=ki (fun n=>bt f.o (show Below _ _ (World.drewN _ n) from ⟨rfl,rfl,rfl,Nat.le_refl _,fun _ _=>rfl⟩))
 go_quiet (first|(go_at_call 208;refine Calls.quiet_of_same (i.o _)))
 go_wp2
 go_ret2
 exact ⟨rfl,l.o _⟩
end
section
def oso (k over steps:Int) (zs:List Int):Int×List Int×List Int :=
 if kn k=false then (2,[],[]) else if (sdo k over zs).1≠0 then ((sdo k over zs).1,[],[]) else if steps < 2 then (7,[],[]) else sdo k over zs
theorem openseg_any (k over steps:Int) (a:Option Addr) (len cap:Nat) (zs:List Int) (w:World) (hr:Row8 w a len cap zs) (hcl:len≤cap) (hcm:cap≤maxLen) (ho:up 65535 over=true) :
  Calls Tryz.prog 139 #[.int .i64 k,.slice a len cap,.int .i64 over,.int .i64 steps] w fun e w'=>∃ a' l c,e=.returned (.tuple #[.agg (sgC (oso k over steps zs).2.1 a' l c),ev (oso k over steps zs).1])∧Row8 w' a' l c (oso k over steps zs).2.2∧Below w.heap.size w w':=by
 have d:=ki (zero_new w)
 have b:=ki (al_below w (.cells zero7 39))
 unfold zero7 at d b
 by_cases hk:kn k=true
 ·have t:=ki (fun W (hb:Below w.heap.size w W)=>sdec_any k over a len cap zs W (hr.below hb) hcl hcm hk ho)
  have x:oso k over steps zs=if (sdo k over zs).1≠0 then ((sdo k over zs).1,[],[]) else if steps < 2 then (7,[],[]) else sdo k over zs:=if_neg (by rw[hk];decide)
  rw[x]
  clear x hr ho hcl hcm
  generalize sdo k over zs=O at t ⊢
  have z:=ki (fun W=>zero_new W)
  unfold zero7 at z
  by_cases hE:O.1=0
  ·rw[if_neg (fun h=>h hE)]
   rw[hE,ev_nil] at t
   by_cases hs:steps < 2
   ·rw[if_pos hs]
    rcases (kn_iff k).1 hk with rfl|rfl
    all_goals
     clear hk
     go_enter Tryz.func139,Tryz.ntmps139
     go_upto_region 1 with fail
     generalize w.alloc _=W at d b ⊢
     go_upto_region 4 with (first
      | (go_at_call 193;refine (t.o _ b.o).mono ?_;rintro e y ⟨q,r,c1,rfl,r1,i⟩;replace d:=ki (d.o.kept i);replace b:=ki (bt b.o i);have s:=ki (z.o y);clear i r1)
      | (refine at_store rfl (.tmp 10) (.tmp 25) rfl rfl s.o O.2.1 q r c1 rfl ?_;intro B v f;replace d:=ki (d.o.kept (new_below _ f));replace b:=ki (bt b.o (new_below _ f));clear f v))
     go_wp2_with (refine at_store rfl (.tmp 8) (.tmp 33) rfl rfl d.o [] none 0 0 rfl ?_;intro A n g;have o:=ki (g.below b.o (Nat.le_refl _));replace n:=ki n;clear g)
     try simp only[Exit.inBlock,Exit.then]
     refine bodyPost_ret (results_sg rfl _ _ w.heap.size [] none 0 0 rfl n.o) rfl ?_
     exact ⟨none,0,0,rfl,gt_no _,o.o⟩
   ·rw[if_neg hs,hE,ev_nil]
    rcases (kn_iff k).1 hk with rfl|rfl
    all_goals
     clear hk
     go_enter Tryz.func139,Tryz.ntmps139
     go_upto_region 1 with fail
     generalize w.alloc _=W at d b ⊢
     go_upto_region 4 with (first
      | (go_at_call 193;refine (t.o _ b.o).mono ?_;rintro e y ⟨q,r,c1,rfl,r1,i⟩;replace d:=ki (d.o.kept i);replace b:=ki (bt b.o i);have s:=ki (z.o y);replace r1:=ki r1;clear i)
      | (refine at_store rfl (.tmp 10) (.tmp 25) rfl rfl s.o O.2.1 q r c1 rfl ?_;intro B v f;replace d:=ki (d.o.kept (new_below _ f));replace b:=ki (bt b.o (new_below _ f));replace r1:=ki (r1.o.below (new_below _ f));replace v:=ki v;clear f))
     go_wp2_with (first
      | (refine at_load rfl (.tmp 10) rfl rfl v.o ?_)
      | (refine at_store rfl (.tmp 8) (.tmp 35) rfl rfl d.o O.2.1 q r c1 rfl ?_;intro A n g;have o:=ki (g.below b.o (Nat.le_refl _));have C:=ki (r1.o.past d.o g);replace n:=ki n;clear g))
     try simp only[Exit.inBlock,Exit.then]
     refine bodyPost_ret (results_sg rfl _ _ w.heap.size O.2.1 q r c1 rfl n.o) rfl ?_
     exact ⟨q,r,c1,rfl,C.o,o.o⟩
  ·rw[if_pos hE]
   rw[ev_err hE] at t ⊢
   unfold err at t ⊢
   rcases (kn_iff k).1 hk with rfl|rfl
   all_goals
    clear hk
    go_enter Tryz.func139,Tryz.ntmps139
    go_upto_region 1 with fail
    generalize w.alloc _=W at d b ⊢
    go_upto_region 4 with (first
     | (go_at_call 193;refine (t.o _ b.o).mono ?_;rintro e y ⟨q,r,c1,rfl,r1,i⟩;replace d:=ki (d.o.kept i);replace b:=ki (bt b.o i);have s:=ki (z.o y);clear i r1)
     | (refine at_store rfl (.tmp 10) (.tmp 25) rfl rfl s.o O.2.1 q r c1 rfl ?_;intro B v f;replace d:=ki (d.o.kept (new_below _ f));replace b:=ki (bt b.o (new_below _ f));clear f v))
    go_wp2_with (refine at_store rfl (.tmp 8) (.tmp 29) rfl rfl d.o [] none 0 0 rfl ?_;intro A n g;have o:=ki (g.below b.o (Nat.le_refl _));replace n:=ki n;clear g)
    try simp only[Exit.inBlock,Exit.then]
    refine bodyPost_ret (results_sg rfl _ _ w.heap.size [] none 0 0 rfl n.o) rfl ?_
    exact ⟨none,0,0,rfl,gt_no _,o.o⟩
 ·have p:kn k=false:=by simpa using hk
  have x:oso k over steps zs=(2,[],[]):=if_pos p
  rw[x]
  have E:(k != 6)=true:=by simp only[kn,Bool.or_eq_false_iff] at p;simpa using p.1
  have D:(k != 17)=true:=by simp only[kn,Bool.or_eq_false_iff] at p;simpa using p.2
  clear hk p x hr hcl hcm ho
  go_enter Tryz.func139,Tryz.ntmps139
  go_upto_region 1 with fail
  generalize w.alloc _=W at d b ⊢
  go_wp2_with (refine at_store rfl (.tmp 8) (.tmp 18) rfl rfl d.o [] none 0 0 rfl ?_;intro A n g;have o:=ki (g.below b.o (Nat.le_refl _));replace n:=ki n;clear g)
  try simp only[Exit.inBlock,Exit.then]
  refine bodyPost_ret (results_sg rfl _ _ w.heap.size [] none 0 0 rfl n.o) rfl ?_
  exact ⟨none,0,0,rfl,gt_no _,o.o⟩
end
section
variable {G cap n:Nat} {O:Nat→Prop} {a:Option Addr} {tv:Value} {w w':World}
def gtC (c:List Int) (inj:Bool) (a:Option Addr) (n cap:Nat) (tv:Value) (S:Nat) (now:Int):Array Value:=#[.int .i64 (el c 0),.int .i64 (el c 1),.int .i64 (el c 2),.int .i64 (el c 3),.int .i64 (el c 4),.int .i64 (el c 5),.int .i64 (el c 6),.int .i64 (el c 7),.int .i64 (el c 8),.int .i64 (el c 9),.int .i64 (el c 10),.int .i64 (el c 11),.int .i64 (el c 12),.int .i64 (el c 13),.int .i64 (el c 14),.int .i64 (el c 15),.int .i64 (el c 16),.int .i64 (el c 17),.int .i64 (el c 18),.int .i64 (el c 19),.int .i64 (el c 20),.bool inj,.slice a n cap,tv,.map (some S),.int .i64 now]
def cfC (c:List Int) (inj:Bool) (a:Option Addr) (n cap:Nat):Array Value:=#[.int .i64 (el c 0),.int .i64 (el c 1),.int .i64 (el c 2),.int .i64 (el c 3),.int .i64 (el c 4),.int .i64 (el c 5),.int .i64 (el c 6),.int .i64 (el c 7),.int .i64 (el c 8),.int .i64 (el c 9),.int .i64 (el c 10),.int .i64 (el c 11),.int .i64 (el c 12),.int .i64 (el c 13),.int .i64 (el c 14),.int .i64 (el c 15),.int .i64 (el c 16),.int .i64 (el c 17),.int .i64 (el c 18),.int .i64 (el c 19),.int .i64 (el c 20),.bool inj,.slice a n cap]
def vip (c:List Int):List Int:=[el c 0,el c 1,el c 2,el c 3,el c 4,el c 5,el c 6,el c 7]
def pfx (c:List Int):List Int:=[el c 9,el c 10,el c 11,el c 12,el c 13,el c 14,el c 15,el c 16]
def GtIn (G:Nat) (c:List Int) (inj:Bool) (a:Option Addr) (n cap:Nat) (tv:Value) (S:Nat) (now:Int) (w:World):Prop:=w.heap[G]? = some (.cells (gtC c inj a n cap tv S now) 80 (0,0))
theorem GtIn.lt {c:List Int} {inj:Bool} {S:Nat} {now:Int} (p:GtIn G c inj a n cap tv S now w):G < w.heap.size:=(Array.getElem?_eq_some_iff.1 p).1
theorem GtIn.same {c:List Int} {inj:Bool} {S:Nat} {now:Int} (p:GtIn G c inj a n cap tv S now w) (e:w'.heap[G]? = w.heap[G]?):GtIn G c inj a n cap tv S now w':=e.trans p
theorem GtIn.kept {c:List Int} {inj:Bool} {S:Nat} {now:Int} (p:GtIn G c inj a n cap tv S now w) (hb:Below w.heap.size w w'):GtIn G c inj a n cap tv S now w':=p.same (hb.block G p.lt)
theorem GtIn.cellAt {c:List Int} {inj:Bool} {S:Nat} {now:Int} (p:GtIn G c inj a n cap tv S now w) (j:Nat):w.cell? ⟨G,j,none⟩=(gtC c inj a n cap tv S now)[j]?:=cell_of_row w G j _ _ _ p
theorem GtIn.door {c:List Int} {inj:Bool} {S:Nat} {now:Int} (p:GtIn G c inj a n cap tv S now w):w.cell? ⟨G,8,none⟩=some (.int .i64 (el c 8)):=p.cellAt 8
theorem GtIn.len {c:List Int} {inj:Bool} {S:Nat} {now:Int} (p:GtIn G c inj a n cap tv S now w):w.cell? ⟨G,17,none⟩=some (.int .i64 (el c 17)):=p.cellAt 17
theorem GtIn.near {c:List Int} {inj:Bool} {S:Nat} {now:Int} (p:GtIn G c inj a n cap tv S now w):w.cell? ⟨G,18,none⟩=some (.int .i64 (el c 18)):=p.cellAt 18
theorem GtIn.seed {c:List Int} {inj:Bool} {S:Nat} {now:Int} (p:GtIn G c inj a n cap tv S now w):w.cell? ⟨G,19,none⟩=some (.int .i64 (el c 19)):=p.cellAt 19
theorem GtIn.inj {c:List Int} {inj:Bool} {S:Nat} {now:Int} (p:GtIn G c inj a n cap tv S now w):w.cell? ⟨G,21,none⟩=some (.bool inj):=p.cellAt 21
theorem GtIn.backs {c:List Int} {inj:Bool} {S:Nat} {now:Int} (p:GtIn G c inj a n cap tv S now w):w.cell? ⟨G,22,none⟩=some (.slice a n cap):=p.cellAt 22
theorem GtIn.table {c:List Int} {inj:Bool} {S:Nat} {now:Int} (p:GtIn G c inj a n cap tv S now w):w.cell? ⟨G,23,none⟩=some tv:=p.cellAt 23
theorem GtIn.streams {c:List Int} {inj:Bool} {S:Nat} {now:Int} (p:GtIn G c inj a n cap tv S now w):w.cell? ⟨G,24,none⟩=some (.map (some S)):=p.cellAt 24
theorem GtIn.now {c:List Int} {inj:Bool} {S:Nat} {now:Int} (p:GtIn G c inj a n cap tv S now w):w.cell? ⟨G,25,none⟩=some (.int .i64 now):=p.cellAt 25
theorem GtIn.frz {c:List Int} {inj:Bool} {S:Nat} {now:Int} (p:GtIn G c inj a n cap tv S now w) (j:Nat):w.frozen? ⟨G,j,none⟩=false:=by
 unfold GtIn at p
 simp[World.frozen?,p]
theorem GtIn.set25 {c:List Int} {inj:Bool} {S:Nat} {now:Int} (p:GtIn G c inj a n cap tv S now w) (t:Int):GtIn G c inj a n cap tv S t (w.setCell ⟨G,25,none⟩ (.int .i64 t))∧Only G w (w.setCell ⟨G,25,none⟩ (.int .i64 t)):=by
 rw[setCell_eq_setRow w G 25 _ _ (0,0) _ p]
 exact ⟨setRow_heap w G _ _ _ (0,0) p,only_setRow _ _ _⟩
theorem GtIn.hv {c:List Int} {inj:Bool} {S:Nat} {now:Int} (p:GtIn G c inj a n cap tv S now w):(hload (.pointer (some ⟨G,0,none⟩))).run Tryz.prog w=.ok (.agg (sixC (vip c))) w :=
 run_loadAt_mid w G 0 23 _ _ (fun j v hv=>by
  have hj:j < 8:=(List.getElem?_eq_some_iff.1 hv).1
  rw[Nat.zero_add,p.cellAt]
  rcases (by omega:j=0∨j=1∨j=2∨j=3∨j=4∨j=5∨j=6∨j=7) with rfl|rfl|rfl|rfl|rfl|rfl|rfl|rfl <;> exact hv) Tryz.underlying23 rfl (by kernel_rfl)
theorem GtIn.hp {c:List Int} {inj:Bool} {S:Nat} {now:Int} (p:GtIn G c inj a n cap tv S now w):(hload (.pointer (some ⟨G,9,none⟩))).run Tryz.prog w=.ok (.agg (sixC (pfx c))) w :=
 run_loadAt_mid w G 9 23 _ _ (fun j v hv=>by
  have hj:j < 8:=(List.getElem?_eq_some_iff.1 hv).1
  rw[p.cellAt]
  rcases (by omega:j=0∨j=1∨j=2∨j=3∨j=4∨j=5∨j=6∨j=7) with rfl|rfl|rfl|rfl|rfl|rfl|rfl|rfl <;> exact hv) Tryz.underlying23 rfl (by kernel_rfl)
def NB (O:Nat→Prop) (w:World):Prop:=∀ g,O g→∀ j x,w.cell? ⟨g,j,none⟩≠some (.int .u8 x)
theorem Row8.fr {c:Nat} {zs:List Int} (r:Row8 w a n c zs) (f:Fr O w w') (nb:NB O w):Row8 w' a n c zs:=by
 refine ⟨r.1,r.2.1,r.2.2.1,r.2.2.2.1,fun hp=>?_⟩
 obtain ⟨g,b,e,hc⟩:=r.2.2.2.2 hp
 refine ⟨g,b,e,fun i hi=>?_⟩
 have h:=hc i hi
 rw[← h]
 exact World.cell?_of_block (f.2.2.2.2 g (cell_lt h) (fun ho=>nb g ho _ _ h))
theorem ST.fr {T:TypeId} {B:Nat} {hd:List Int} {s:Int} {b h:Bool} (p:ST T B hd s b h w) (f:Fr O w w') (nb:NB O w) (hB:¬ O B):ST T B hd s b h w':=by
 obtain ⟨a,n,c,d,e,g⟩:=p
 exact ⟨a,n,c,(f.2.2.2.2 B d.lt hB).trans d,e.fr f nb,g⟩
theorem nb_map {b:Nat} {es:Array MapEntry} {k:Nat} (h:w.heap[b]? = some (.map es k)) (j:Nat) (x:Value):w.cell? ⟨b,j,none⟩≠some x:=by
 simp[World.cell?,h]
theorem MP.nb {S:Value→Prop} {b:Nat} {l:List (Value×Value)} (h:MP S b l w) (j:Nat) (x:Value):w.cell? ⟨b,j,none⟩≠some x:=by
 obtain ⟨es,k,a,_⟩:=h
 exact nb_map a j x
def nob8 (cs:Array Value):Prop:=∀ (j:Nat) (x:Int),cs[j]?≠some (.int .u8 x)
theorem nb_row {g:Nat} {cs:Array Value} {t:TypeId} (h:w.heap[g]? = some (.cells cs t (0,0))) (hn:nob8 cs) (j:Nat) (x:Int):w.cell? ⟨g,j,none⟩≠some (.int .u8 x):=by
 rw[cell_of_row w g j _ _ _ h]
 exact hn j x
theorem gt_nob (c:List Int) (inj:Bool) (a:Option Addr) (n cap:Nat) (T:Nat) (S:Nat) (now:Int):nob8 (gtC c inj a n cap (.pointer (some ⟨T,0,none⟩)) S now):=by
 intro j x h
 by_cases hj:j < 26
 ·rcases (by omega:j=0∨j=1∨j=2∨j=3∨j=4∨j=5∨j=6∨j=7∨j=8∨j=9∨j=10∨j=11∨j=12∨j=13∨j=14∨j=15∨j=16∨j=17∨j=18∨j=19∨j=20∨j=21∨j=22∨j=23∨j=24∨j=25) with rfl|rfl|rfl|rfl|rfl|rfl|rfl|rfl|rfl|rfl|rfl|rfl|rfl|rfl|rfl|rfl|rfl|rfl|rfl|rfl|rfl|rfl|rfl|rfl|rfl|rfl <;> cases h
 ·rw[Array.getElem?_eq_none (by show 26≤j;omega)] at h
  cases h
theorem brow_nob {cs:Array Value} {m:Nat} {ow:Nat→List Int} {ts:Nat→Bool} (e2:cs.size=16*m) (e3:∀ k,k < m→∀ j,j < 8→cs[16*k+j]? = some (.int .i64 (el (ow k) j))∧cs[16*k+8+j]? = some (.bool (ts (8*k+j)))):nob8 cs:=by
 intro j x h
 by_cases hj:j < 16*m
 ·have b:j / 16 < m:=by omega
  by_cases h8:j % 16 < 8
  ·have a:=(e3 (j / 16) b (j % 16) h8).1
   rw[show 16*(j / 16)+j % 16=j by omega,h] at a
   cases a
  ·have a:=(e3 (j / 16) b (j % 16 - 8) (by omega)).2
   rw[show 16*(j / 16)+8+(j % 16 - 8)=j by omega,h] at a
   cases a
 ·rw[Array.getElem?_eq_none (by omega)] at h
  cases h
theorem TB.nb {v:Value} {m:Nat} {ws:Nat→List Int} {ts:Nat→Bool} {bs:List (List Int)} (h:TB v m ws ts bs O w):NB O w:=by
 obtain ⟨T,P,BB,F,N,n,rfl,⟨a,⟨b,d⟩,h4,e,o⟩,_,rfl⟩:=h
 intro g f j x
 rcases f with rfl|rfl|rfl|rfl|rfl
 ·refine nb_row a ?_ j x
  intro j x h
  match j with
  | 0=>cases h
  | 1=>cases h
  | 2=>cases h
  | j+3=>simp at h
 ·refine nb_row b ?_ j x
  intro j x h
  match j with
  | 0=>cases h
  | j+1=>simp at h
 ·obtain ⟨p,i,k,l⟩:=d
  exact nb_row i (brow_nob k l) j x
 ·exact h4.nb j _
 ·exact e.nb j _
end
section
def GS:Type:=(List Int×Bool×List (List Int))×(Nat×(Nat→List Int)×(Nat→Bool)×List (List Int))×List (Int×List Int×Int×Bool×Bool)×Int
variable {g:GS} {β:Int→Nat} {G S cap k:Nat} {O Ot:Nat→Prop} {tv:Value} {w w':World}
def GS.c (g:GS):List Int:=g.1.1
def GS.inj (g:GS):Bool:=g.1.2.1
def GS.bk (g:GS):List (List Int):=g.1.2.2
def GS.m (g:GS):Nat:=g.2.1.1
def GS.ws (g:GS):Nat→List Int:=g.2.1.2.1
def GS.ts (g:GS):Nat→Bool:=g.2.1.2.2.1
def GS.bs (g:GS):List (List Int):=g.2.1.2.2.2
def GS.ss (g:GS):List (Int×List Int×Int×Bool×Bool):=g.2.2.1
def GS.now (g:GS):Int:=g.2.2.2
def GS.tab (g:GS) (ws:Nat→List Int) (ts:Nat→Bool) (bs:List (List Int)):GS:=(g.1,(g.m,ws,ts,bs),g.2.2)
def GS.str (g:GS) (ss:List (Int×List Int×Int×Bool×Bool)):GS:=(g.1,g.2.1,ss,g.now)
def GS.tic (g:GS) (n:Int):GS:=(g.1,g.2.1,g.ss,n)
def GS.srv (g:GS) (bk:List (List Int)):GS:=((g.c,g.inj,bk),g.2)
def Kpt (O:Nat→Prop) (w w':World):Prop:=Fr O w w'∧∀ a n c zs,Row8 w a n c zs→Row8 w' a n c zs
theorem Kpt.refl (O:Nat→Prop) (w:World):Kpt O w w:=⟨Fr.refl _ _,fun _ _ _ _ h=>h⟩
theorem Kpt.of (h:Below w.heap.size w w'):Kpt O w w':=⟨Fr.of h,fun _ _ _ _ r=>r.below h⟩
theorem Kpt.mono {O':Nat→Prop} (h:Kpt O w w') (hO:∀ g,O g→O' g):Kpt O' w w':=⟨h.1.mono hO,h.2⟩
theorem Kpt.size (h:Kpt O w w'):w.heap.size≤w'.heap.size:=h.1.2.2.2.1
theorem Kpt.trans {O':Nat→Prop} {a b c:World} (h1:Kpt O a b) (h2:Kpt O' b c) (hO:∀ g,O' g→O g∨a.heap.size≤g):Kpt O a c :=
 ⟨⟨h2.1.1.trans h1.1.1,h2.1.2.1.trans h1.1.2.1,h2.1.2.2.1.trans h1.1.2.2.1,Nat.le_trans h1.size h2.size,fun g hg hn=>(h2.1.2.2.2.2 g (Nat.lt_of_lt_of_le hg h1.size) (fun ho=>by rcases hO g ho with h|h;exact hn h;omega)).trans (h1.1.2.2.2.2 g hg hn)⟩,fun x n c zs r=>h2.2 x n c zs (h1.2 x n c zs r)⟩
theorem Kpt.below {base:Nat} {w0:World} (h:Kpt O w w') (hb:Below base w0 w) (hO:∀ g,O g→base≤g) (hs:base≤w.heap.size):Below base w0 w':=h.1.below hb hO hs
def sE (β:Int→Nat) (x:Int×List Int×Int×Bool×Bool):Value×Value:=(.int .i64 x.1,.pointer (some ⟨β x.1,0,none⟩))
def SS (S:Nat) (β:Int→Nat) (ss:List (Int×List Int×Int×Bool×Bool)) (w:World):Prop :=
 MP isI S (ss.map (sE β)) w∧(∀ x ∈ ss,ST 304 (β x.1) x.2.1 x.2.2.1 x.2.2.2.1 x.2.2.2.2 w)∧∀ x ∈ ss,∀ y ∈ ss,β x.1=β y.1→x.1=y.1
def SO (S:Nat) (β:Int→Nat) (ss:List (Int×List Int×Int×Bool×Bool)) (k:Nat):Prop:=k=S∨∃ x ∈ ss,k=β x.1
theorem SS.lt {ss:List (Int×List Int×Int×Bool×Bool)} (h:SS S β ss w) (hk:SO S β ss k):k < w.heap.size:=by
 rcases hk with rfl|⟨x,hx,rfl⟩
 ·exact h.1.lt
 ·exact (h.2.1 x hx).lt
theorem SS.nb {ss:List (Int×List Int×Int×Bool×Bool)} (h:SS S β ss w):NB (SO S β ss) w:=by
 intro k b j x
 rcases b with rfl|⟨y,hy,rfl⟩
 ·exact h.1.nb j _
 ·obtain ⟨a,n,c,p,_⟩:=h.2.1 y hy
  exact p.no8 j x
theorem SS.same {ss:List (Int×List Int×Int×Bool×Bool)} (h:SS S β ss w) (hs:∀ k,SO S β ss k→w'.heap[k]? = w.heap[k]?) (hr:∀ a n c zs,Row8 w a n c zs→Row8 w' a n c zs):SS S β ss w':=by
 refine ⟨h.1.same (hs S (.inl rfl)),fun x hx=>?_,h.2.2⟩
 obtain ⟨a,n,c,b,d,e⟩:=h.2.1 x hx
 exact ⟨a,n,c,(hs _ (.inr ⟨x,hx,rfl⟩)).trans b,hr _ _ _ _ d,e⟩
def BkR (a:Option Addr) (bk:List (List Int)) (w:World):Prop:=0 < bk.length→∃ K cs t,a=some ⟨K,0,none⟩∧w.heap[K]? = some (.cells cs t (0,0))∧∀ k,k < bk.length→∀ j,j < 6→cs[6*k+j]? = (bkC (bk.getD k []))[j]?
def KOa (a:Option Addr) (k:Nat):Prop:=∃ off,a=some ⟨k,off,none⟩
theorem BkR.same {a:Option Addr} {bk:List (List Int)} (h:BkR a bk w) (hs:∀ k,KOa a k→w'.heap[k]? = w.heap[k]?):BkR a bk w':=fun hp=>by
 obtain ⟨K,cs,t,rfl,h1,h2⟩:=h hp
 exact ⟨K,cs,t,rfl,(hs K ⟨0,rfl⟩).trans h1,h2⟩
theorem BkR.bks {a:Option Addr} {bk:List (List Int)} (h:BkR a bk w):Bks a bk w:=fun hp=>by
 obtain ⟨K,cs,t,rfl,h1,h2⟩:=h hp
 refine ⟨K,0,rfl,(Array.getElem?_eq_some_iff.1 h1).1,fun k hk j v hv=>?_⟩
 have hj:j < 6:=(List.getElem?_eq_some_iff.1 hv).1
 rw[cell_of_row w K _ _ _ _ h1,show 0+k*6+j=6*k+j by omega,h2 k hk j hj]
 simpa using hv
def DJ (G:Nat) (a:Option Addr) (Ot:Nat→Prop) (So:Nat→Prop):Prop:=(¬ KOa a G∧¬ Ot G∧¬ So G)∧(∀ k,KOa a k→¬ Ot k∧¬ So k)∧∀ k,Ot k→¬ So k
def GC (G:Nat) (a:Option Addr) (cap:Nat) (tv:Value) (S:Nat) (Ot:Nat→Prop) (β:Int→Nat) (g:GS) (w:World):Prop :=
 GtIn G g.c g.inj a g.bk.length cap tv S g.now w∧(BkR a g.bk w∧(∀ k,KOa a k→k < w.heap.size)∧g.bk.length≤cap∧cap≤maxLen)∧TB tv g.m g.ws g.ts g.bs Ot w∧SS S β g.ss w∧DJ G a Ot (SO S β g.ss)
def GO (G:Nat) (a:Option Addr) (Ot:Nat→Prop) (So:Nat→Prop) (k:Nat):Prop:=k=G∨KOa a k∨Ot k∨So k
theorem GC.ot {a:Option Addr} (h:GC G a cap tv S Ot β g w) (hk:Ot k):k < w.heap.size:=(tb_kept _ _ _ _ _ _ _ h.2.2.1).1 k hk
theorem GC.lt {a:Option Addr} (h:GC G a cap tv S Ot β g w) (hk:GO G a Ot (SO S β g.ss) k):k < w.heap.size:=by
 rcases hk with rfl|hk|hk|hk
 ·exact h.1.lt
 ·exact h.2.1.2.1 k hk
 ·exact h.ot hk
 ·exact h.2.2.2.1.lt hk
theorem GC.kept {a:Option Addr} (h:GC G a cap tv S Ot β g w) (hb:Below w.heap.size w w'):GC G a cap tv S Ot β g w' :=
 ⟨h.1.kept hb,⟨h.2.1.1.same (fun k hk=>hb.block k (h.2.1.2.1 k hk)),fun k hk=>Nat.lt_of_lt_of_le (h.2.1.2.1 k hk) hb.size,h.2.1.2.2⟩,(tb_kept _ _ _ _ _ _ _ h.2.2.1).2 w' hb.size (fun k hk=>hb.block k (h.ot hk)),h.2.2.2.1.same (fun k hk=>hb.block k (h.2.2.2.1.lt hk)) (fun _ _ _ _ r=>r.below hb),h.2.2.2.2⟩
theorem GC.tab {a:Option Addr} (h:GC G a cap tv S Ot β g w) {ws:Nat→List Int} {ts:Nat→Bool} {bs:List (List Int)} (q:TQ TB tv g.m ws ts bs Ot w w') :
  ∃ Ot',GC G a cap tv S Ot' β (g.tab ws ts bs) w'∧Kpt (GO G a Ot (SO S β g.ss)) w w'∧∀ k,Ot' k→Ot k∨w.heap.size≤k:=by
 obtain ⟨Ot',o,b,d⟩:=q
 obtain ⟨e,f,i⟩:=h.2.2.2.2
 have l:∀ a n c zs,Row8 w a n c zs→Row8 w' a n c zs:=fun _ _ _ _ r=>r.fr b h.2.2.1.nb
 have hk:Kpt (GO G a Ot (SO S β g.ss)) w w':=⟨b.mono (fun k hk=>.inr (.inr (.inl hk))),l⟩
 have p:=h.1.lt
 refine ⟨Ot',⟨h.1.same (b.2.2.2.2 G p e.2.1),⟨h.2.1.1.same (fun k hk=>b.2.2.2.2 k (h.2.1.2.1 k hk) (f k hk).1),fun k hk=>Nat.lt_of_lt_of_le (h.2.1.2.1 k hk) b.2.2.2.1,h.2.1.2.2⟩,o,h.2.2.2.1.same (fun k hk=>b.2.2.2.2 k (h.2.2.2.1.lt hk) (fun ho=>i k ho hk)) l,⟨e.1,fun ho=>?_,e.2.2⟩,fun k hk=>⟨fun ho=>?_,(f k hk).2⟩,fun k ho hs=>?_⟩,hk,d⟩
 ·rcases d G ho with h1|h1
  ·exact e.2.1 h1
  ·omega
 ·rcases d k ho with h1|h1
  ·exact (f k hk).1 h1
  ·have:=h.2.1.2.1 k hk
   omega
 ·rcases d k ho with h1|h1
  ·exact i k h1 hs
  ·have:=h.2.2.2.1.lt hs
   omega
def sup (p:Int) (st:List Int×Int×Bool×Bool) (ss:List (Int×List Int×Int×Bool×Bool)):List (Int×List Int×Int×Bool×Bool):=ss.map fun x=>if x.1=p then (x.1,st) else x
theorem sup_keys (β:Int→Nat) (p:Int) (st:List Int×Int×Bool×Bool) (ss:List (Int×List Int×Int×Bool×Bool)):(sup p st ss).map (sE β)=ss.map (sE β):=by
 unfold sup
 rw[List.map_map]
 refine List.map_congr_left fun x _=>?_
 show sE β (if x.1=p then (x.1,st) else x)=sE β x
 split <;> rfl
theorem sup_mem {p:Int} {st:List Int×Int×Bool×Bool} {ss:List (Int×List Int×Int×Bool×Bool)} {y:Int×List Int×Int×Bool×Bool} (h:y ∈ sup p st ss):∃ x ∈ ss,y.1=x.1∧(x.1=p∧y.2=st∨x.1≠p∧y=x):=by
 obtain ⟨x,a,e⟩:=List.mem_map.1 h
 refine ⟨x,a,?_⟩
 by_cases hp:x.1=p
 ·rw[if_pos hp] at e;subst e;exact ⟨rfl,.inl ⟨hp,rfl⟩⟩
 ·rw[if_neg hp] at e;subst e;exact ⟨rfl,.inr ⟨hp,rfl⟩⟩
theorem sup_so (S:Nat) (β:Int→Nat) (p:Int) (st:List Int×Int×Bool×Bool) (ss:List (Int×List Int×Int×Bool×Bool)) (k:Nat):SO S β (sup p st ss) k↔SO S β ss k:=by
 unfold SO
 refine or_congr Iff.rfl ⟨fun ⟨y,hy,e⟩=>?_,fun ⟨x,a,e⟩=>?_⟩
 ·obtain ⟨x,a,b,_⟩:=sup_mem hy
  exact ⟨x,a,by rw[e,b]⟩
 ·refine ⟨_,List.mem_map.2 ⟨x,a,rfl⟩,?_⟩
  rw[e]
  split <;> rfl
theorem GC.turn {a:Option Addr} (h:GC G a cap tv S Ot β g w) {x:Int×List Int×Int×Bool×Bool} (hx:x ∈ g.ss) (u:Bu (β x.1) w w') {s:Int} {b hh:Bool} (st:ST 304 (β x.1) x.2.1 s b hh w') :
  GC G a cap tv S Ot β (g.str (sup x.1 (x.2.1,s,b,hh) g.ss)) w'∧Kpt (GO G a Ot (SO S β g.ss)) w w':=by
 obtain ⟨i,o,v⟩:=h.2.2.2.2
 have l:SO S β g.ss (β x.1):=.inr ⟨x,hx,rfl⟩
 have d:=h.2.2.2.1.2.1 x hx
 have E:∀ a n c zs,Row8 w a n c zs→Row8 w' a n c zs:=fun _ _ _ _ r=>d.row u r
 have A:Fr (fun k=>k=β x.1) w w':=⟨u.1,u.2.1,u.2.2.1,u.2.2.2.1,fun k hk hn=>u.2.2.2.2 k hk hn⟩
 have B:S≠β x.1:=by
  intro e
  obtain ⟨_,_,_,p,_⟩:=d
  rw[← e] at p
  exact h.2.2.2.1.1.notcells p
 refine ⟨⟨h.1.same (u.2.2.2.2 G h.1.lt (fun e=>i.2.2 (e ▸ l))),⟨h.2.1.1.same (fun k hk=>u.2.2.2.2 k (h.2.1.2.1 k hk) (fun e=>(o k hk).2 (e ▸ l))),fun k hk=>Nat.lt_of_lt_of_le (h.2.1.2.1 k hk) u.2.2.2.1,h.2.1.2.2⟩,(tb_kept _ _ _ _ _ _ _ h.2.2.1).2 w' u.2.2.2.1 (fun k hk=>u.2.2.2.2 k (h.ot hk) (fun e=>v k hk (e ▸ l))),⟨?_,fun y hy=>?_,fun y hy z hz e=>?_⟩,⟨i.1,i.2.1,fun hs=>i.2.2 ((sup_so _ _ _ _ _ _).1 hs)⟩,fun k hk=>⟨(o k hk).1,fun hs=>(o k hk).2 ((sup_so _ _ _ _ _ _).1 hs)⟩,fun k hk hs=>v k hk ((sup_so _ _ _ _ _ _).1 hs)⟩,A.mono (fun k hk=>.inr (.inr (.inr (by rw[hk];exact l)))),E⟩
 ·show MP isI S ((sup x.1 _ g.ss).map (sE β)) w'
  rw[sup_keys]
  exact h.2.2.2.1.1.same (u.2.2.2.2 S h.2.2.2.1.1.lt B)
 ·obtain ⟨z,hz,q,⟨f,t⟩|⟨f,t⟩⟩:=sup_mem hy
  ·rw[q,f,t]
   exact st
  ·subst t
   refine d.other u (h.2.2.2.1.2.1 y hz) (fun e=>f (h.2.2.2.1.2.2 y hz x hx e))
 ·obtain ⟨F,C,q,_⟩:=sup_mem hy
  obtain ⟨H,D,f,_⟩:=sup_mem hz
  rw[q,f] at e ⊢
  exact h.2.2.2.1.2.2 F C H D e
end
section
variable {k:Int} {B cap:Nat} {a:Option Addr} {w:World}
theorem results_p6 {fn:Func} {p q u:Tmp} (h:fn.results=#[.cell p 83,.cell q 39,.tmp u]) (tmps:Array Value) (w:World) (B C:Nat) (s d:List Int) (hp k:Int) (a:Option Addr) (len cap:Nat) (z:List Int) (a2:Option Addr) (l2 c2:Nat)
  (ht:tmps.getD p undef=.pointer (some ⟨B,0,none⟩)) (ht2:tmps.getD q undef=.pointer (some ⟨C,0,none⟩)) (hg:V6.PkIn B s d hp k a len cap w) (hg2:SgIn C z a2 l2 c2 w) :
  (results fn tmps).run Tryz.prog w=.ok (.tuple #[.agg (V6.pkC s d hp k a len cap),.agg (sgC z a2 l2 c2),tmps.getD u undef]) w:=by
 have hl:=run_loadVar_row (P:=Tryz.prog) w B 83 83 _ (0,0) _ hg Tryz.underlying83 rfl (by kernel_rfl)
 have b:=run_loadVar_row (P:=Tryz.prog) w C 39 39 _ (0,0) _ hg2 Tryz.underlying39 rfl (by kernel_rfl)
 rw[Array.getD_eq_getD_getElem?] at ht ht2
 simp only[results,h]
 simp[Result.andThen,ht,ht2,asAddr,hl,b]
theorem results_p4 {fn:Func} {p q u:Tmp} (h:fn.results=#[.cell p 108,.cell q 39,.tmp u]) (tmps:Array Value) (w:World) (B C:Nat) (s d t k i:Int) (a:Option Addr) (len cap:Nat) (z:List Int) (a2:Option Addr) (l2 c2:Nat)
  (ht:tmps.getD p undef=.pointer (some ⟨B,0,none⟩)) (ht2:tmps.getD q undef=.pointer (some ⟨C,0,none⟩)) (hg:V4.PkIn B s d t k i a len cap w) (hg2:SgIn C z a2 l2 c2 w) :
  (results fn tmps).run Tryz.prog w=.ok (.tuple #[V4.pk s d t k i a len cap,.agg (sgC z a2 l2 c2),tmps.getD u undef]) w:=by
 have hl:=V4.load_pk hg
 have b:=run_loadVar_row (P:=Tryz.prog) w C 39 39 _ (0,0) _ hg2 Tryz.underlying39 rfl (by kernel_rfl)
 rw[Array.getD_eq_getD_getElem?] at ht ht2
 simp only[results,h]
 simp[Result.andThen,ht,ht2,asAddr,hl,b]
def pload6 (x:Value):Sem Value:=Instr.loadAt 83 x
theorem pload6_shut (x:Value):Instr.loadAt 83 x=pload6 x:=rfl
theorem pl6 {s d:List Int} {h:Int} {len:Nat} (p:V6.PkIn B s d h k a len cap w):(pload6 (.pointer (some ⟨B,0,none⟩))).run Tryz.prog w=.ok (.agg (V6.pkC s d h k a len cap)) w :=
 run_loadAt_mid w B 0 83 (V6.pkC s d h k a len cap).toList _ (fun j v hv=>by
  rw[Nat.zero_add,p.cellAt]
  simpa using hv) Tryz.underlying83 rfl (by kernel_rfl)
def pload4 (x:Value):Sem Value:=Instr.loadAt 108 x
theorem pload4_shut (x:Value):Instr.loadAt 108 x=pload4 x:=rfl
theorem pl4 {s d t i:Int} {len:Nat} (p:V4.PkIn B s d t k i a len cap w):(pload4 (.pointer (some ⟨B,0,none⟩))).run Tryz.prog w=.ok (V4.pk s d t k i a len cap) w :=
 run_loadAt_mid w B 0 108 [.int .i64 s,.int .i64 d,.int .i64 t,.int .i64 k,.int .i64 i,.slice a len cap] _ (fun j v hv=>by
  rw[Nat.zero_add,cell_of_row w B j _ _ _ p]
  simpa using hv) Tryz.underlying108 rfl (by kernel_rfl)
def pstore4 (x y:Value):Sem Unit:=Instr.storeAt 108 x y
theorem pstore4_shut (x y:Value):Instr.storeAt 108 x y=pstore4 x y:=rfl
theorem held4 {s0 d0 t0 k0 i0:Int} {a0:Option Addr} {len0 cap0:Nat} (p:V4.PkIn B s0 d0 t0 k0 i0 a0 len0 cap0 w) (s d t k i:Int) (a:Option Addr) (len cap:Nat) :
  ∃ w',(pstore4 (.pointer (some ⟨B,0,none⟩)) (V4.pk s d t k i a len cap)).run Tryz.prog w=.ok () w'∧V4.PkIn B s d t k i a len cap w'∧Only B w w':=by
 refine ⟨w.setRow B #[.int .i64 s,.int .i64 d,.int .i64 t,.int .i64 k,.int .i64 i,.slice a len cap],?_,p.stored s d t k i a len cap,only_setRow _ _ _⟩
 unfold pstore4
 simp only[Instr.storeAt,Instr.sureAddr,Sem.run_bind,Sem.run_pure,Result.andThen_ok]
 exact run_storeVar_row w B 108 108 _ #[.int .i64 s,.int .i64 d,.int .i64 t,.int .i64 k,.int .i64 i,.slice a len cap] p (by kernel_rfl) rfl (by simp[Value.oneCell'])
theorem no6 {s d:List Int} {h:Int} {len:Nat} (p:V6.PkIn B s d h k a len cap w) (j:Nat) (x:Int):w.cell? ⟨B,j,none⟩≠some (.int .u8 x):=by
 rw[p.cellAt]
 by_cases h:j < 19
 ·rcases (by omega:j=0∨j=1∨j=2∨j=3∨j=4∨j=5∨j=6∨j=7∨j=8∨j=9∨j=10∨j=11∨j=12∨j=13∨j=14∨j=15∨j=16∨j=17∨j=18) with rfl|rfl|rfl|rfl|rfl|rfl|rfl|rfl|rfl|rfl|rfl|rfl|rfl|rfl|rfl|rfl|rfl|rfl|rfl <;> intro h <;> cases h
 ·rw[Array.getElem?_eq_none (by show 19≤j;omega)];intro h;cases h
theorem no4 {s d t i:Int} {len:Nat} (p:V4.PkIn B s d t k i a len cap w) (j:Nat) (x:Int):w.cell? ⟨B,j,none⟩≠some (.int .u8 x):=by
 rw[cell_of_row w B j _ _ _ p]
 by_cases h:j < 6
 ·rcases (by omega:j=0∨j=1∨j=2∨j=3∨j=4∨j=5) with rfl|rfl|rfl|rfl|rfl|rfl <;> intro h <;> cases h
 ·rw[Array.getElem?_eq_none (by show 6≤j;omega)];intro h;cases h
theorem Row8.pastn {w':World} (hn:∀ j x,w.cell? ⟨B,j,none⟩≠some (.int .u8 x)) (on:Only B w w') {n c:Nat} {zs:List Int} (r:Row8 w a n c zs):Row8 w' a n c zs:=by
 refine ⟨r.1,r.2.1,r.2.2.1,r.2.2.2.1,fun hp=>?_⟩
 obtain ⟨b,d,e,hc⟩:=r.2.2.2.2 hp
 refine ⟨b,d,e,fun i hi=>?_⟩
 have h:=hc i hi
 have f:b≠B:=by
  rintro rfl
  exact hn _ _ h
 rw[← h]
 exact World.cell?_of_block (on.2.2.2.2 b f)
def R6 (w W:World):Prop:=V6.PkIn w.heap.size [] [] 0 0 none 0 0 W∧SgIn (w.heap.size+1) [] none 0 0 W∧Below w.heap.size w W
theorem R6.start (w:World):R6 w ((w.alloc (.cells V6.zero6 83)).alloc (.cells zero7 39)):=by
 have d:=al_below w (.cells V6.zero6 83)
 have a:=al_below (w.alloc (.cells V6.zero6 83)) (.cells zero7 39)
 have b:=zero_new (w.alloc (.cells V6.zero6 83))
 rw[World.size_alloc] at b
 exact ⟨(V6.zero_new w).kept a,b,bt d a⟩
theorem R6.kept {W W':World} (h:R6 w W) (hb:Below W.heap.size W W'):R6 w W':=⟨h.1.kept hb,h.2.1.kept hb,bt h.2.2 hb⟩
def o6s (zs:List Int):Int×List Int×List Int:=oso (zs.getD 6 0) (o6 (adr zs 8) (adr zs 24) (zs.getD 6 0) ((zs.drop 40).length:Nat)) (zs.getD 7 0) (zs.drop 40)
theorem up255 {zs:List Int} (h:SM.Oct zs) (j:Nat):up 255 (zs.getD j 0)=true:=decide_eq_true (h j)
theorem open6_bad (a:Option Addr) (len cap:Nat) (zs:List Int) (w:World) (hr:Row8 w a len cap zs) (hcl:len≤cap) (hcm:cap≤maxLen) (hG:¬ V6.Good zs) :
  Calls Tryz.prog 95 #[.slice a len cap] w fun e w'=>e=.returned (.tuple #[.agg (V6.pkC [] [] 0 0 none 0 0),.agg (sgC [] none 0 0),err 5])∧Below w.heap.size w w':=by
 have b:=ki (R6.start w)
 unfold V6.zero6 zero7 at b
 have o:=ki (show ∀ W,Below w.heap.size w W→Calls Tryz.prog 137 #[.slice a len cap] W fun e w'=>e=.returned (.tuple #[.agg (V6.pkC [] [] 0 0 none 0 0),err 5])∧Below W.heap.size W w' from fun W hb=>(V6.decode_any a len cap zs W (hr.below hb) hcl hcm).mono fun e w' ⟨h,hb'⟩=>by
  rcases h with ⟨_,h⟩|⟨h,_⟩
  ·exact ⟨h,hb'⟩
  ·exact absurd h hG)
 unfold err at o ⊢
 have p:=ki (fun W=>V6.zero_new W)
 unfold V6.zero6 at p
 clear hr hG hcl hcm
 go_enter Tryz.func95,Tryz.ntmps95
 go_upto_region 1 with fail
 generalize (World.alloc _ _).alloc _=W0 at b ⊢
 go_upto_region 3 with (first
  | (go_at_call 137;refine (o.o _ b.o.2.2).mono ?_;rintro e r ⟨rfl,i⟩;replace b:=ki (b.o.kept i);have q:=ki (p.o r);clear i)
  | (refine V6.at_store rfl (.tmp 5) (.tmp 12) rfl rfl q.o [] [] 0 0 none 0 0 rfl ?_;intro x s k;replace b:=ki (b.o.kept (new_below _ k));clear k s))
 go_wp2_with (first
  | (refine V6.at_store rfl (.tmp 2) (.tmp 16) rfl rfl b.o.1 [] [] 0 0 none 0 0 rfl ?_;intro y d f;have t:=ki (f.sg b.o.2.1 (by omega));have l:=ki (f.below b.o.2.2 (Nat.le_refl _));replace d:=ki d;clear f b)
  | (refine at_store rfl (.tmp 3) (.tmp 17) rfl rfl t.o [] none 0 0 rfl ?_;intro v n g;replace l:=ki (g.below l.o (Nat.le_succ _));replace d:=ki (show V6.PkIn _ _ _ _ _ _ _ _ v from (g.2.2.2.2 _ (by omega)).trans d.o);replace n:=ki n;clear g))
 try simp only[Exit.inBlock,Exit.then]
 refine bodyPost_ret (results_p6 rfl _ _ w.heap.size (w.heap.size+1) [] [] 0 0 none 0 0 [] none 0 0 rfl rfl d.o n.o) rfl ?_
 exact ⟨rfl,l.o⟩
attribute [local go_sem ↓] pload6_shut gload_shut V6.hstore_shut gstore_shut
theorem open6_good (a:Option Addr) (len cap:Nat) (zs:List Int) (w:World) (hr:Row8 w a len cap zs) (hcl:len≤cap) (hcm:cap≤maxLen) (hG:V6.Good zs) :
  Calls Tryz.prog 95 #[.slice a len cap] w fun e w'=>∃ a1 l1 c1 a2 l2 c2,e=.returned (.tuple #[.agg (V6.pkC (adr zs 8) (adr zs 24) (zs.getD 7 0) (zs.getD 6 0) a1 l1 c1),.agg (sgC (o6s zs).2.1 a2 l2 c2),ev (o6s zs).1])∧Row8 w' a2 l2 c2 (o6s zs).2.2∧Below w.heap.size w w':=by
 have b:=ki (R6.start w)
 unfold V6.zero6 zero7 at b
 have hl:=hr.1
 obtain ⟨n,rfl⟩:∃ n,len=n+40:=⟨len - 40,by have:=hG.1;omega⟩
 have ad:n≤320:=by have:=hG.2.1;omega
 have L:(zs.drop 40).length=n:=by rw[List.length_drop];omega
 have v:=ki (show ∀ W,Below w.heap.size w W→Calls Tryz.prog 137 #[.slice a (n+40) cap] W fun e w'=>∃ a' c',e=.returned (.tuple #[.agg (V6.pkC (adr zs 8) (adr zs 24) (zs.getD 7 0) (zs.getD 6 0) a' n c'),.nilIface])∧Row8 w' a' n c' (zs.drop 40)∧n≤c'∧c'≤maxLen∧Below W.heap.size W w' from fun W hb=>(V6.decode_any a (n+40) cap zs W (hr.below hb) hcl hcm).mono fun e w' ⟨h,hb'⟩=>by
  rcases h with ⟨h,_⟩|⟨_,a',c',e1,e2,e3,e4⟩
  ·exact absurd hG h
  ·rw[Nat.add_sub_cancel] at e1 e2 e3
   exact ⟨a',c',e1,e2,e3,e4,hb'⟩)
 have D:=hr.2.2.1
 have hs:=V6.ok6_adr zs D 8
 have hd:=V6.ok6_adr zs D 24
 have M:=up255 D 6
 unfold o6s
 rw[L]
 have l:=ki (fun W=>over6_ok (adr zs 8) (adr zs 24) (zs.getD 6 0) n W hs hd M (decide_eq_true ⟨by omega,by omega⟩))
 have x:=o6_in (adr zs 8) (adr zs 24) (zs.getD 6 0) n hs hd
 clear hr hG hcl hcm hs hd M D
 generalize o6 (adr zs 8) (adr zs 24) (zs.getD 6 0) n=ov at l x ⊢
 generalize adr zs 8=s at v l ⊢
 generalize adr zs 24=d at v l ⊢
 generalize zs.getD 7 0=h at v ⊢
 generalize zs.getD 6 0=k at v l ⊢
 have G:=ki (fun W a' c' (r:Row8 W a' n c' (zs.drop 40)) (h1:n≤c') (h2:c'≤maxLen)=>openseg_any k ov h a' n c' (zs.drop 40) W r h1 h2 x)
 generalize oso k ov h (zs.drop 40)=O at G ⊢
 have N:=ki (fun W=>V6.zero_new W)
 have H:=ki (fun W=>zero_new W)
 unfold V6.zero6 at N
 unfold zero7 at H
 clear x
 go_enter Tryz.func95,Tryz.ntmps95
 go_upto_region 1 with fail
 generalize (World.alloc _ _).alloc _=W0 at b ⊢
 go_upto_region 4 with (first
  | (go_at_call 137;refine (v.o _ b.o.2.2).mono ?_;rintro e P ⟨a1,c1,rfl,r1,X,Y,I⟩;replace b:=ki (b.o.kept I);have J:=ki (N.o P);replace r1:=ki r1;clear I)
  | (refine V6.at_store rfl (.tmp 5) (.tmp 12) rfl rfl J.o s d h k a1 n c1 rfl ?_;intro w2 f y;replace b:=ki (b.o.kept (new_below _ y));replace r1:=ki (r1.o.below (new_below _ y));replace f:=ki f;clear y))
 clear J
 generalize P.heap.size=B1 at f ⊢
 have z:=f.o.kind
 have A:=f.o.body
 go_upto_region 7 with (first
  | (refine V6.at_src rfl (.tmp 20) rfl rfl f.o ?_)
  | (refine V6.at_dst rfl (.tmp 22) rfl rfl f.o ?_)
  | (go_at_call 138;refine (l.o _).mono ?_;rintro e w3 ⟨rfl,p⟩;replace b:=ki (b.o.kept p);replace r1:=ki (r1.o.below p);replace f:=ki (f.o.kept p);clear p z A))
 have Q:=f.o.hop
 have z:=f.o.kind
 have A:=f.o.body
 go_upto_region 8 with (first
  | (go_at_call 139;refine (G.o _ a1 c1 r1.o X Y).mono ?_;rintro e R ⟨E,F,c4,rfl,B,C⟩;replace b:=ki (b.o.kept C);replace f:=ki (f.o.kept C);have K:=ki (H.o R);replace B:=ki B;clear C Q z A r1)
  | (refine at_store rfl (.tmp 8) (.tmp 46) rfl rfl K.o O.2.1 E F c4 rfl ?_;intro g o q;replace b:=ki (b.o.kept (new_below _ q));replace B:=ki (B.o.below (new_below _ q));replace f:=ki (f.o.kept (new_below _ q));replace o:=ki o;clear q))
 clear K
 generalize R.heap.size=C1 at o ⊢
 have q1:=pl6 (w:=g.drew) f.o
 have q2:=SgIn.gl (w:=g.drew) o.o
 obtain ⟨wa,ha,S,i⟩:=V6.PkIn.held (w:=g.drew) b.o.1 s d h k a1 n c1
 have T:C1≠w.heap.size:=by
  rintro rfl
  have h1:g.heap[w.heap.size]? = _:=o.o
  rw[show g.heap[w.heap.size]? = _ from b.o.1] at h1
  injection h1 with h1
  injection h1 with _ h2
  exact absurd h2 (by decide)
 have U:=i.sg (w:=g.drew) o.o T
 have ae:=U.gl
 obtain ⟨wb,hb,V,t⟩:=(i.sg (w:=g.drew) b.o.2.1 (by omega)).held O.2.1 E F c4
 have Z:=ki (show V6.PkIn w.heap.size s d h k a1 n c1 wb from (t.2.2.2.2 _ (by omega)).trans S)
 have HS:=ki V
 have HB:=ki (t.below (i.below (b.o.2.2.drew) (Nat.le_refl _)) (Nat.le_succ _))
 have HR:=ki (((B.o.below (w':=g.drew) ⟨rfl,rfl,rfl,Nat.le_refl _,fun _ _=>rfl⟩).pastn (no6 (w:=g.drew) b.o.1) i).past (i.sg (w:=g.drew) b.o.2.1 (by omega)) t)
 clear S i V t U T b f o
 go_region
 all_goals
  go_wp2
  try simp only[Exit.inBlock,Exit.then]
  refine bodyPost_ret (results_p6 rfl _ _ w.heap.size (w.heap.size+1) s d h k a1 n c1 O.2.1 E F c4 rfl rfl Z.o HS.o) rfl ?_
  exact ⟨a1,n,c1,E,F,c4,rfl,HR.o,HB.o⟩
end
end Go.Proofs.YtgcojnlngchllaaGreatDoor
