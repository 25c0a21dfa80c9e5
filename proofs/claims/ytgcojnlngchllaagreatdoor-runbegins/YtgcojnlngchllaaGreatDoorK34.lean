/- Package gate: upTo and Check of a config, by contracts. Package gate: New, by contracts; slices.Clone of servers. Package gate: New, by a contract that gives the gate whole. Package gate: Tick, by a contract. -/
import Derived.Test.YtgcojnlngchllaaGreatDoorK33
namespace Go.Proofs.YtgcojnlngchllaaGreatDoor
open Go.RowKit
set_option linter.unusedVariables false
set_option maxRecDepth 100000
set_option maxHeartbeats 40000000
section
variable {B cap:Nat} {a:Option Addr} {w:World}
theorem gupto_any (m:Int) (B n:Nat) (l:List Int) (w:World) (hn:l.length=n) (hm:n≤1000) (hc:Ints B l w) :
  Calls Tryz.prog 71 #[.int .i64 m,.slice (some ⟨B,0,none⟩) n n] w fun e w'=>e=.returned (.bool (bups m l))∧w'=w:=by
 have a:=ki (bups_iff m l)
 have o:=ki hc
 have d:=ki hn
 clear hc
 generalize bups m l=u at a ⊢
 go_enter Tryz.func71,Tryz.ntmps71
 go_wp2
 go_loop [9] (fun t=>∃ k:Nat,k≤n∧Hid (∀ i,i < k→um m (l.getD i 0)=true)∧t=.int .i64 k) (fun t=>n - (intOf t).toNat)
 case atStart=>exact ⟨0,by omega,fun i hi=>absurd hi (by omega),rfl⟩
 case round =>
  obtain ⟨k,p,HI,rfl⟩:=hrel
  by_cases hlt:k < n
  ·have g:=o.o.cell k (by omega)
   generalize hzk:l.getD k 0=z at g
   have f:=ki hzk
   clear hzk hn
   by_cases hz0:z < 0
   ·go_wp2
    go_ret
    exact ⟨congrArg (fun b=>Ending.returned (.bool b)) (Eq.symm (Bool.eq_false_iff.2 fun h=>by have:=(um_iff _ _).1 (a.o.1 h k (by rw[d.o];exact hlt));rw[f.o] at this;omega)),rfl⟩
   ·by_cases hz1:m < z
    ·go_wp2
     go_ret
     exact ⟨congrArg (fun b=>Ending.returned (.bool b)) (Eq.symm (Bool.eq_false_iff.2 fun h=>by have:=(um_iff _ _).1 (a.o.1 h k (by rw[d.o];exact hlt));rw[f.o] at this;omega)),rfl⟩
    ·go_wp2
     go_round
     case rel=>exact ⟨k+1,by omega,fun i hi=>if h:i=k then by subst h;rw[f.o];exact (um_iff _ _).2 ⟨by omega,by omega⟩ else HI.o i (by omega),by go_num⟩
     case measure=>simp[intOf];omega
  ·go_wp2
   go_ret
   obtain rfl:k=n:=by omega
   exact ⟨congrArg (fun b=>Ending.returned (.bool b)) (Eq.symm (a.o.2 fun i hi=>HI.o i (by rw[← d.o];exact hi))),rfl⟩
theorem ev_err' {n:Int} (h:n≠0):ev n=err n:=if_neg h
theorem gup1 (m x:Int) (W:World):Calls Tryz.prog 71 #[.int .i64 m,.slice (some ⟨W.heap.size,0,none⟩) 1 1] (W.alloc (.cells #[.int .i64 x] 3)) fun e w'=>e=.returned (.bool (um m x))∧Below W.heap.size W w' :=
 (gupto_any m W.heap.size 1 [x] _ rfl (by omega) (ints_new W [x])).mono fun e w' ⟨h1,h2⟩=>⟨h1.trans (by rw[show bups m [x]=um m x by unfold bups;simp]),by rw[h2];exact al_below _ _⟩
def cko (c:List Int) (bk:List (List Int)) (pf:Int):Int :=
 if s6 (vip c)=false then 1 else if wd (el c 8)=false then 1 else if pf≠0 then pf else if fr (el c 18)=false then 1
 else if ¬ (um 2147483647 (el c 19)=true∧1≤el c 20∧el c 20≤16) then 1 else if (bf bk).2≠0 then (bf bk).2
 else if Em.inF (vip c) (pfx c) (el c 17)=true then 2 else 0
def CfIn (B:Nat) (c:List Int) (inj:Bool) (a:Option Addr) (n cap:Nat) (w:World):Prop:=w.heap[B]? = some (.cells (cfC c inj a n cap) 26 (0,0))
theorem CfIn.lt {c:List Int} {inj:Bool} {n:Nat} (p:CfIn B c inj a n cap w):B < w.heap.size:=(Array.getElem?_eq_some_iff.1 p).1
theorem CfIn.kept {c:List Int} {inj:Bool} {n:Nat} {w':World} (p:CfIn B c inj a n cap w) (hb:Below w.heap.size w w'):CfIn B c inj a n cap w':=(hb.block B p.lt).trans p
theorem cf_new (w:World) (c:List Int) (inj:Bool) (a:Option Addr) (n cap:Nat):CfIn w.heap.size c inj a n cap (w.alloc (.cells (cfC c inj a n cap) 26)):=heap_alloc_new w _
theorem CfIn.cellAt {c:List Int} {inj:Bool} {n:Nat} (p:CfIn B c inj a n cap w) (j:Nat):w.cell? ⟨B,j,none⟩=(cfC c inj a n cap)[j]?:=cell_of_row w B j _ _ _ p
theorem CfIn.c8 {c:List Int} {inj:Bool} {n:Nat} (p:CfIn B c inj a n cap w):w.cell? ⟨B,8,none⟩=some (.int .i64 (el c 8)):=p.cellAt 8
theorem CfIn.c17 {c:List Int} {inj:Bool} {n:Nat} (p:CfIn B c inj a n cap w):w.cell? ⟨B,17,none⟩=some (.int .i64 (el c 17)):=p.cellAt 17
theorem CfIn.c18 {c:List Int} {inj:Bool} {n:Nat} (p:CfIn B c inj a n cap w):w.cell? ⟨B,18,none⟩=some (.int .i64 (el c 18)):=p.cellAt 18
theorem CfIn.c19 {c:List Int} {inj:Bool} {n:Nat} (p:CfIn B c inj a n cap w):w.cell? ⟨B,19,none⟩=some (.int .i64 (el c 19)):=p.cellAt 19
theorem CfIn.c20 {c:List Int} {inj:Bool} {n:Nat} (p:CfIn B c inj a n cap w):w.cell? ⟨B,20,none⟩=some (.int .i64 (el c 20)):=p.cellAt 20
theorem CfIn.c22 {c:List Int} {inj:Bool} {n:Nat} (p:CfIn B c inj a n cap w):w.cell? ⟨B,22,none⟩=some (.slice a n cap):=p.cellAt 22
theorem CfIn.hv {c:List Int} {inj:Bool} {n:Nat} (p:CfIn B c inj a n cap w):(hload (.pointer (some ⟨B,0,none⟩))).run Tryz.prog w=.ok (.agg (sixC (vip c))) w :=
 run_loadAt_mid w B 0 23 _ _ (fun j v hv=>by
  have hj:j < 8:=(List.getElem?_eq_some_iff.1 hv).1
  rw[Nat.zero_add,p.cellAt]
  rcases (by omega:j=0∨j=1∨j=2∨j=3∨j=4∨j=5∨j=6∨j=7) with rfl|rfl|rfl|rfl|rfl|rfl|rfl|rfl <;> exact hv) Tryz.underlying23 rfl (by kernel_rfl)
theorem CfIn.hp {c:List Int} {inj:Bool} {n:Nat} (p:CfIn B c inj a n cap w):(hload (.pointer (some ⟨B,9,none⟩))).run Tryz.prog w=.ok (.agg (sixC (pfx c))) w :=
 run_loadAt_mid w B 9 23 _ _ (fun j v hv=>by
  have hj:j < 8:=(List.getElem?_eq_some_iff.1 hv).1
  rw[p.cellAt]
  rcases (by omega:j=0∨j=1∨j=2∨j=3∨j=4∨j=5∨j=6∨j=7) with rfl|rfl|rfl|rfl|rfl|rfl|rfl|rfl <;> exact hv) Tryz.underlying23 rfl (by kernel_rfl)
theorem echk (p:List Int) (n k:Int) (w:World) (h:Em.PF p n k):Calls Tryz.prog 72 #[.agg (sixC p),.int .i64 n] w fun e w'=>e=.returned (ev k)∧Below w.heap.size w w':=Em.echeck_any p n k w h
theorem ain2 (a p:List Int) (n:Int) (w:World) (ha:Ok6 a) (hp:Ok6 p) (h0:0≤n) (h1:n≤128):Calls Tryz.prog 75 #[.agg (sixC a),.agg (sixC p),.int .i64 n] w fun e w'=>e=.returned (.tuple #[.bool (Em.inF a p n),.nilIface])∧Below w.heap.size w w':=Em.in_ok a p n w ha hp h0 h1
theorem pf_zero {p:List Int} {n:Int} (h:Em.PF p n 0):Ok6 p∧0≤n∧n≤128∧Em.LongP n:=by
 rcases h with ⟨_,h⟩|⟨_,_,h⟩|⟨_,_,_,h⟩|⟨h1,h2,_,_⟩
 ·cases h
 ·cases h
 ·cases h
 ·refine ⟨h1,?_,?_,h2⟩ <;> unfold Em.LongP at h2 <;> omega
attribute [local go_sem ↓] hload_shut
theorem gcheck_any (c:List Int) (inj:Bool) (a:Option Addr) (cap:Nat) (bk:List (List Int)) (pf:Int) (w:World) (hb:Bks a bk w) (hl:bk.length≤maxLen) (hc:bk.length≤cap) (hp:Em.PF (pfx c) (el c 17) pf) :
  Calls Tryz.prog 27 #[.agg (cfC c inj a bk.length cap)] w fun e w'=>e=.returned (ev (cko c bk pf))∧Below w.heap.size w w':=by
 have f:=ki (cf_new w c inj a bk.length cap)
 have b:=ki (al_below w (.cells (cfC c inj a bk.length cap) 26))
 have B:=ki (fun W=>pck (vip c) W)
 have o:=ki (fun x m W=>gup1 m x W)
 have v:=ki (fun W=>echk (pfx c) (el c 17) pf W hp)
 have t:=ki (fun W=>bc4_any (el c 18) W)
 have k:=ki (fun W (hW:Below w.heap.size w W)=>kcheck a cap bk W (hb.below hW) hl hc)
 have l:=ki (fun (h1:s6 (vip c)=true) (h0:pf=0) W=>ain2 (vip c) (pfx c) (el c 17) W ((s6_iff _).1 h1) (pf_zero (h0 ▸ hp)).1 (pf_zero (h0 ▸ hp)).2.1 (pf_zero (h0 ▸ hp)).2.2.1)
 obtain ⟨R,hR⟩:∃ R,R=cko c bk pf:=⟨_,rfl⟩
 rw[← hR]
 unfold cko at hR
 clear hb hl hc hp
 go_enter Tryz.func27,Tryz.ntmps27
 go_upto_region 1 with fail
 generalize w.alloc _=W0 at f b ⊢
 have y:=f.o.hv
 cases hs:s6 (vip c)
 ·rw[hs,show ev (fe false)=err 1 from rfl] at B
  rw[if_pos hs] at hR
  have g:=ki hR
  unfold err at B
  clear hR o v t k l
  go_wp2_with (go_at_call 70;refine (B.o _).mono ?_;rintro e H ⟨rfl,p⟩;replace b:=ki (bt b.o p);clear p)
  go_ret
  exact ⟨by rw[g.o];rfl,b.o⟩
 rw[hs,show ev (fe true)=.nilIface from rfl] at B
 rw[if_neg (by rw[hs];decide)] at hR
 replace l:=ki (l.o hs)
 have d:=ki hR
 clear hs hR
 go_upto_region 4 with (go_at_call 70;refine (B.o _).mono ?_;rintro e H ⟨rfl,p⟩;replace f:=ki (f.o.kept p);replace b:=ki (bt b.o p);clear p y)
 clear B
 have y:=f.o.c8
 have z:um 65535 (el c 8)=wd (el c 8):=rfl
 cases hd:wd (el c 8)
 ·rw[hd] at z
  have g:=ki (show R=1 by rw[d.o,if_pos hd])
  clear d v t k l hd
  go_wp2_with (go_at_call 71;refine (o.o (el c 8) 65535 _).mono ?_;rintro e I ⟨rfl,q⟩;replace b:=ki (bt b.o q);rw[z];clear q y)
  go_ret
  exact ⟨by rw[g.o];rfl,b.o⟩
 rw[hd] at z
 replace d:=ki (show R=_ by rw[d.o,if_neg (by rw[hd];decide)])
 clear hd
 go_upto_region 6 with (go_at_call 71;refine (o.o (el c 8) 65535 _).mono ?_;rintro e I ⟨rfl,q⟩;replace f:=ki (f.o.kept q);replace b:=ki (bt b.o q);rw[z];clear q y)
 clear z
 have y:=f.o.hp
 have n:=f.o.c17
 by_cases hpf:pf=0
 case neg =>
  have g:=ki (show R=pf by rw[d.o,if_pos hpf])
  have F:=ki (ev_err' hpf)
  rw[ev_err' hpf] at v
  unfold err at v
  clear d o t k l hpf
  go_wp2_with (go_at_call 72;refine (v.o _).mono ?_;rintro e J ⟨rfl,r⟩;replace b:=ki (bt b.o r);clear r y n)
  go_ret
  exact ⟨by rw[g.o,F.o];rfl,b.o⟩
 replace d:=ki (show R=_ by rw[d.o,if_neg (fun h=>h hpf)])
 replace l:=ki (l.o hpf)
 rw[hpf,show ev 0=.nilIface from rfl] at v
 clear hpf
 go_upto_region 9 with (go_at_call 72;refine (v.o _).mono ?_;rintro e J ⟨rfl,r⟩;replace f:=ki (f.o.kept r);replace b:=ki (bt b.o r);clear r y n)
 clear v
 have y:=f.o.c18
 cases hn:fr (el c 18)
 ·rw[hn,show ev (fe false)=err 1 from rfl] at t
  have g:=ki (show R=1 by rw[d.o,if_pos hn])
  unfold err at t
  clear d o k l hn
  go_wp2_with (go_at_call 73;refine (t.o _).mono ?_;rintro e K ⟨rfl,rfl⟩)
  go_ret
  exact ⟨by rw[g.o];rfl,b.o⟩
 rw[hn,show ev (fe true)=.nilIface from rfl] at t
 replace d:=ki (show R=_ by rw[d.o,if_neg (by rw[hn];decide)])
 clear hn
 go_upto_region 12 with (go_at_call 73;refine (t.o _).mono ?_;rintro e K ⟨rfl,rfl⟩)
 clear t y
 have y:=f.o.c19
 have n:=f.o.c20
 by_cases hq:um 2147483647 (el c 19)=true∧1≤el c 20∧el c 20≤16
 case neg =>
  have g:=ki (show R=1 by rw[d.o,if_pos hq])
  clear d k l
  cases A:um 2147483647 (el c 19)
  ·clear hq
   go_wp2_with (go_at_call 71;refine (o.o (el c 19) 2147483647 _).mono ?_;rintro e G ⟨rfl,i⟩;replace b:=ki (bt b.o i);rw[A];clear i)
   go_ret
   exact ⟨by rw[g.o];rfl,b.o⟩
  ·by_cases h1:el c 20 < 1
   ·clear hq
    go_wp2_with (go_at_call 71;refine (o.o (el c 19) 2147483647 _).mono ?_;rintro e G ⟨rfl,i⟩;replace f:=ki (f.o.kept i);replace b:=ki (bt b.o i);rw[A];clear i y n;have n:=f.o.c20)
    go_ret
    exact ⟨by rw[g.o];rfl,b.o⟩
   ·have N:16 < el c 20:=Classical.byContradiction fun h=>hq ⟨A,by omega,by omega⟩
    clear hq
    go_wp2_with (go_at_call 71;refine (o.o (el c 19) 2147483647 _).mono ?_;rintro e G ⟨rfl,i⟩;replace f:=ki (f.o.kept i);replace b:=ki (bt b.o i);rw[A];clear i y n;have n:=f.o.c20)
    go_ret
    exact ⟨by rw[g.o];rfl,b.o⟩
 obtain ⟨A,C,D⟩:=hq
 replace d:=ki (show R=_ by rw[d.o,if_neg (fun h=>h ⟨A,C,D⟩)])
 go_upto_region 14 with (go_at_call 71;refine (o.o (el c 19) 2147483647 _).mono ?_;rintro e G ⟨rfl,i⟩;replace f:=ki (f.o.kept i);replace b:=ki (bt b.o i);rw[A];clear i y n;have n:=f.o.c20)
 clear A C D o n
 have y:=f.o.c22
 generalize bf bk=Q at k d
 by_cases hk:Q.2=0
 case neg =>
  have g:=ki (show R=Q.2 by rw[d.o,if_pos hk])
  have F:=ki (ev_err' hk)
  rw[ev_err' hk] at k
  unfold err at k
  clear d l hk
  go_wp2_with (go_at_call 74;refine (k.o _ b.o).mono ?_;rintro e L ⟨rfl,s⟩;replace b:=ki (bt b.o s);clear s y)
  go_ret
  exact ⟨by rw[g.o,F.o];rfl,b.o⟩
 replace d:=ki (show R=_ by rw[d.o,if_neg (fun h=>h hk)])
 rw[hk,show ev 0=.nilIface from rfl] at k
 clear hk
 go_upto_region 17 with (go_at_call 74;refine (k.o _ b.o).mono ?_;rintro e L ⟨rfl,s⟩;replace f:=ki (f.o.kept s);replace b:=ki (bt b.o s);clear s y)
 clear k
 have y:=f.o.hv
 have n:=f.o.hp
 have M:=f.o.c17
 cases hI:Em.inF (vip c) (pfx c) (el c 17)
 all_goals
  rw[hI] at l
  have g:=ki (show R=_ by rw[d.o,hI])
  clear d hI
  go_wp2_with (go_at_call 75;refine (l.o _).mono ?_;rintro e O ⟨rfl,E⟩;replace b:=ki (bt b.o E);clear E y n M)
  go_ret
  exact ⟨by rw[g.o];rfl,b.o⟩
end
section
variable {B cap n:Nat} {w:World}
theorem kempty (w:World):OwK w.heap.size (w.alloc (.cells #[] 77)) (.slice (some ⟨w.heap.size,0,none⟩) 0 0) []:=World.ownsRow_made w #[] 0 (Nat.le_refl _) (Nat.zero_le _) rfl
theorem ap_K0 {ops:Array Oper} {rest:List Oper} {o:Oper} {a:Act} {Q:Exit→Act→World→Prop} (hgd:o.guard=none) (s x:Operand)
  (ho:o.op=.call { callee:=.builtin .append,args:=#[s,x],argTypes:=#[24,24] })
  (base:Nat) (v:Value) (l:List (List Int)) (hs:a.eval s=v) (hown:OwK base w v l) (ad:Addr) (c:Nat) (hx:a.eval x=.slice (some ad) 0 c) (hlen:l.length≤1000000) (hbase:base≤w.heap.size)
  (h:∀ v' w',OwK base w' v' l→w.grownBy w' v.ownBlock→wpList Tryz.prog ops Q rest (a.put o.dst v') w'):wpList Tryz.prog ops Q (o::rest) a w:=by
 obtain ⟨i,k,e,f,g⟩:=info_parts Tryz.infoBack
 have b:w.ownsRow base 77 6 v l.length (kvs l):=hown
 refine wpList_append_own_at _ hgd s x 24 ho base 77 i _ 6 40 Tryz.underlying24 k e f g rfl (by decide) v l.length (kvs l) hs b ad 0 c [] hx rfl ?_ ?_ (by unfold maxLen;omega) (by omega) hbase ?_
 ·intro j u d
  simp at d
 ·intro u d
  simp at d
 ·intro v' w' n p _ q
  refine h v' w' ?_ p
  unfold OwK
  simpa using n
def cload (x:Value):Sem Value:=Instr.loadAt 26 x
theorem cload_shut (x:Value):Instr.loadAt 26 x=cload x:=rfl
theorem CfIn.cl {c:List Int} {inj:Bool} {a:Option Addr} (p:CfIn B c inj a n cap w):(cload (.pointer (some ⟨B,0,none⟩))).run Tryz.prog w=.ok (.agg (cfC c inj a n cap)) w :=
 run_loadAt_mid w B 0 26 (cfC c inj a n cap).toList _ (fun j v hv=>by
  rw[Nat.zero_add,p.cellAt]
  simpa using hv) Tryz.underlying26 rfl (by kernel_rfl)
def gbu (ps:Array (Nat×Value)):Sem Value:=Instr.build 80 ps
theorem gbu_shut (ps:Array (Nat×Value)):Instr.build 80 ps=gbu ps:=rfl
theorem gbu_run (c:List Int) (inj:Bool) (a:Option Addr) (n cap:Nat) (tv:Value) (ht:∃ T,tv=.pointer (some ⟨T,0,none⟩)) (S:Nat) (w:World):(gbu #[(0,.agg (cfC c inj a n cap)),(1,tv),(2,.map (some S))]).run Tryz.prog w=.ok (.agg (gtC c inj a n cap tv S 0)) w:=by
 obtain ⟨T,rfl⟩:=ht
 kernel_rfl
theorem CfIn.frz {c:List Int} {inj:Bool} {a:Option Addr} (p:CfIn B c inj a n cap w) (j:Nat):w.frozen? ⟨B,j,none⟩=false:=by
 unfold CfIn at p
 simp[World.frozen?,p]
theorem CfIn.set22 {c:List Int} {inj:Bool} {a:Option Addr} (p:CfIn B c inj a n cap w) (a':Option Addr) (n' cap':Nat):CfIn B c inj a' n' cap' (w.setCell ⟨B,22,none⟩ (.slice a' n' cap'))∧Only B w (w.setCell ⟨B,22,none⟩ (.slice a' n' cap')):=by
 rw[setCell_eq_setRow w B 22 _ _ (0,0) _ p]
 exact ⟨setRow_heap w B _ _ _ (0,0) p,only_setRow _ _ _⟩
attribute [local go_sem ↓] cload_shut gbu_shut
end
section
theorem OwK.bkr {base:Nat} {w:World} {v:Value} {bs:List (List Int)} (h:OwK base w v bs):∃ a cap,v=.slice a bs.length cap∧bs.length≤cap∧cap≤maxLen∧BkR a bs w∧∀ k,KOa a k→base≤k∧k < w.heap.size:=by
 have f:w.ownsRow base 77 6 v bs.length (kvs bs):=h
 rcases h.2 with ⟨rfl,hn⟩|⟨g,cap,cur,rfl,h1,hg,hnc,hcm,_⟩
 ·exact ⟨none,0,by rw[hn],by omega,Nat.zero_le _,fun hp=>by omega,fun k hk=>by obtain ⟨b,e⟩:=hk;cases e⟩
 ·refine ⟨_,cap,rfl,hnc,hcm,fun _=>⟨g,cur,_,rfl,hg,fun k hk j hj=>?_⟩,fun k hk=>?_⟩
  ·have d:=World.ownsRow.cellAt f (k*6+j) (by omega)
   rw[kvs_at bs k j hk hj,cell_of_row w g _ _ _ _ hg] at d
   rw[Nat.mul_comm]
   rw[d]
   simp
  ·obtain ⟨b,e⟩:=hk
   injection e with e
   injection e with e _
   subst e
   exact ⟨h1,(Array.getElem?_eq_some_iff.1 hg).1⟩
def gz0 (c:List Int) (inj:Bool) (bk:List (List Int)) (m:Nat):GS:=((c,inj,bk),(m,fun _=>[],fun _=>false,[]),[],0)
theorem kclone2 (a:Option Addr) (cap:Nat) (bk:List (List Int)) (w:World) (hb:Bks a bk w) (hl:bk.length≤1000) (ha:a=none→bk=[]∧cap=0) :
  Calls Tryz.prog 29 #[.slice a bk.length cap] w fun e w'=>∃ v,e=.returned v∧OwK w.heap.size w' v bk∧Below w.heap.size w w':=by
 have q:=fun (w:World) (a:Option Addr) (n c n' c':Nat)=>Lib.run_eql_slice_nil (P:=Tryz.prog) w 24 _ a n c n' c' Tryz.underlying24
 cases a with
 | none =>
  obtain ⟨rfl,rfl⟩:=ha rfl
  clear hb hl ha
  rw[List.length_nil]
  go_enter Tryz.func29,Tryz.ntmps29
  go_wp2
  go_ret
  exact ⟨_,rfl,OwK.nil _ _,Below.refl _ _⟩
 | some ad =>
  have l:=ki (kempty w)
  have b:=ki (al_below w (.cells #[] 77))
  by_cases h0:bk=[]
  ·subst h0
   clear hb hl ha
   rw[List.length_nil]
   go_enter Tryz.func29,Tryz.ntmps29
   go_wp2_with (at_builtin;refine ap_K0 rfl (.tmp 5) (.tmp 6) rfl w.heap.size _ [] rfl l.o ad cap rfl (by simp) (by simp) ?_;intro o w' d f;have p:=ki (show OwK w.heap.size w' o [] from d);have r:=ki (b.o.grown f b.o.size (fun k e=>(owns_lt l.o k e).2));clear d f)
   go_ret
   exact ⟨_,rfl,p.o,r.o⟩
  ·have h:0 < bk.length:=List.length_pos_iff.2 h0
   obtain ⟨g,i,e,_⟩:=hb h
   obtain rfl:ad=⟨g,i,none⟩:=Option.some.inj e
   have s:=ki (show ∀ j,j < bk.length→(w.alloc (.cells #[] 77)).rangeAt g (i+j*6) (bkC (bk.getD j [])).toList from fun j hj=>by
    obtain ⟨y,t,e,_,x⟩:=(hb.below (al_below w (.cells #[] 77))) (by omega)
    injection e with e
    injection e with e1 e2
    subst e1 e2
    exact x j hj)
   clear hb ha h0 h e
   go_enter Tryz.func29,Tryz.ntmps29
   go_wp2_with (at_builtin;refine ap_K rfl (.tmp 5) (.tmp 6) rfl w.heap.size _ [] rfl l.o g i bk.length cap bk rfl rfl s.o (by simp only[List.length_nil];omega) (by simp) ?_;intro o w' d f;have p:=ki (show OwK w.heap.size w' o bk from d);have r:=ki (b.o.grown f b.o.size (fun k e=>(owns_lt l.o k e).2));clear d f)
   go_ret
   exact ⟨_,rfl,p.o,r.o⟩
attribute [local go_sem ↓] cload_shut gbu_shut
theorem gnew_gc (c:List Int) (inj:Bool) (a:Option Addr) (cap:Nat) (bk:List (List Int)) (m:Nat) (w:World) (hb:Bks a bk w) (hl:bk.length≤1000) (hc:bk.length≤cap) (ha:a=none→bk=[]∧cap=0) (hp:Em.PF (pfx c) (el c 17) 0) (hR:cko c bk 0=0) (hm:el c 20=m) (h1:1≤m) (h2:m≤16) :
  Calls Tryz.prog 7 #[.agg (cfC c inj a bk.length cap)] w fun e w'=>∃ G a' cap' tv S Ot,e=.returned (.tuple #[.pointer (some ⟨G,0,none⟩),.nilIface])∧GC G a' cap' tv S Ot (fun _=>0) (gz0 c inj bk m) w'∧(∀ k,GO G a' Ot (SO S (fun _=>0) []) k→w.heap.size≤k)∧Below w.heap.size w w':=by
 have b:=ki (cf_new w c inj a bk.length cap)
 have f:=ki (al_below w (.cells (cfC c inj a bk.length cap) 26))
 have B:=ki (fun W (hW:Below w.heap.size w W)=>gcheck_any c inj a cap bk 0 W (hb.below hW) (by unfold maxLen;omega) hc hp)
 rw[hR,show ev 0=.nilIface from rfl] at B
 have I:=ki (fun W=>tb_ji.2.2.1.2 m W h1 h2)
 have J:=ki (fun W (hW:Below w.heap.size w W)=>kclone2 a cap bk W (hb.below hW) hl ha)
 clear hb hl hc hp hR ha h1 h2
 go_enter Tryz.func7,Tryz.ntmps7
 go_upto_region 1 with fail
 generalize w.alloc _=W0 at b f ⊢
 have y:=b.o.cl
 go_upto_region 4 with (go_at_call 27;refine (B.o _ f.o).mono ?_;rintro e w1 ⟨rfl,q⟩;replace b:=ki (b.o.kept q);replace f:=ki (bt f.o q);clear q y)
 clear B
 have y:=b.o.c20
 rw[hm] at y
 have K:=ki b.o.lt
 go_upto_region 7 with (go_at_call 28;refine (I.o _).mono ?_;rintro e C ⟨tv,Ot,rfl,D,L,r⟩;replace b:=ki (b.o.kept r);replace f:=ki (bt f.o r);have t:=ki D;have v:=ki (show ∀ k,Ot k→w.heap.size < k∧k < C.heap.size from fun k hk=>⟨Nat.lt_of_lt_of_le K.o (L k hk),(tb_kept _ _ _ _ _ _ _ D).1 k hk⟩);clear r y D L)
 clear I K
 have y:=b.o.c22
 go_upto_region 8 with (go_at_call 29;refine (J.o _ f.o).mono ?_;rintro e E ⟨v3,rfl,M,n⟩;obtain ⟨g,c3,rfl,N,O,P,Q⟩:=M.bkr;have l:=ki (And.intro N (And.intro O (And.intro P Q)));have z:=ki (show w.heap.size < C.heap.size from b.o.lt);replace b:=ki (b.o.kept n);replace f:=ki (bt f.o n);replace t:=ki ((tb_kept _ _ _ _ _ _ _ t.o).2 E n.size (fun k hk=>n.block k (v.o k hk).2));have p:=b.o.set22 g bk.length c3;have Z:=b.o.c22;have z4:=b.o.frz 22;clear n y M N O P Q)
 have s:=p.2.2.2.2.1
 have o:=ki ((tb_kept _ _ _ _ _ _ _ t.o).2 _ (Nat.le_of_eq s.symm) (fun k hk=>p.2.2.2.2.2 k (by have:=(v.o k hk).1;omega)))
 have d:=ki (show bk.length≤c3∧c3≤maxLen∧BkR g bk (E.setCell ⟨w.heap.size,22,none⟩ (.slice g bk.length c3))∧∀ k,KOa g k→C.heap.size≤k∧k < (E.setCell ⟨w.heap.size,22,none⟩ (.slice g bk.length c3)).heap.size from ⟨l.o.1,l.o.2.1,l.o.2.2.1.same (fun k hk=>p.2.2.2.2.2 k (by have:=(l.o.2.2.2 k hk).1;have:=z.o;omega)),fun k hk=>by rw[s];exact l.o.2.2.2 k hk⟩)
 replace f:=ki (p.2.below f.o (Nat.le_refl _))
 replace b:=ki p.1
 clear p s l t
 clear Z z4 J
 generalize World.setCell _ _ _=W4 at b f o d ⊢
 have y:=b.o.cl
 have ae:=@run_makeMap Tryz.prog
 obtain ⟨T,hT⟩:∃ T,tv=.pointer (some ⟨T,0,none⟩):=by obtain ⟨T,_,_,_,_,_,e,_⟩:=o.o;exact ⟨T,e⟩
 subst hT
 have af:=fun S W=>gbu_run c inj g bk.length c3 (.pointer (some ⟨T,0,none⟩)) ⟨T,rfl⟩ S W
 have F:=al_below W4 (.map #[] 0)
 have R:=ki (b.o.kept F)
 have y2:=R.o.cl
 have H:=al_below (W4.alloc (.map #[] 0)) (.cells (gtC c inj g bk.length c3 (.pointer (some ⟨T,0,none⟩)) W4.heap.size 0) 80)
 have HG:=ki (show GtIn (W4.heap.size+1) c inj g bk.length c3 (.pointer (some ⟨T,0,none⟩)) W4.heap.size 0 ((W4.alloc (.map #[] 0)).alloc (.cells (gtC c inj g bk.length c3 (.pointer (some ⟨T,0,none⟩)) W4.heap.size 0) 80)) by have:=heap_alloc_new (W4.alloc (.map #[] 0)) (.cells (gtC c inj g bk.length c3 (.pointer (some ⟨T,0,none⟩)) W4.heap.size 0) 80);rw[World.size_alloc] at this;exact this)
 have i:=bt F H
 have U:=ki ((tb_kept _ _ _ _ _ _ _ o.o).2 _ i.size (fun k hk=>i.block k ((tb_kept _ _ _ _ _ _ _ o.o).1 k hk)))
 have V:=ki ((mp_new isI W4).same (H.block _ (by rw[World.size_alloc];omega)))
 have X:=ki (show BkR g bk _ from d.o.2.2.1.same (fun k hk=>i.block k (d.o.2.2.2 k hk).2))
 have Y:=ki (bt f.o i)
 have HZ:=ki (show w.heap.size≤W4.heap.size from f.o.size)
 have HW:=ki (show W4.heap.size < ((W4.alloc (.map #[] 0)).alloc (.cells (gtC c inj g bk.length c3 (.pointer (some ⟨T,0,none⟩)) W4.heap.size 0) 80)).heap.size from by rw[World.size_alloc,World.size_alloc];omega)
 have A:=ki (show ∀ k,Ot k→k < W4.heap.size from fun k hk=>(tb_kept _ _ _ _ _ _ _ o.o).1 k hk)
 clear F H i
 go_wp2
 go_ret2
 refine ⟨_,g,c3,_,W4.heap.size,Ot,rfl,⟨HG.o,⟨X.o,fun k hk=>Nat.lt_trans (d.o.2.2.2 k hk).2 HW.o,d.o.1,d.o.2.1⟩,U.o,⟨V.o,fun x hx=>absurd hx (by simp[GS.ss,gz0]),fun x hx=>absurd hx (by simp[GS.ss,gz0])⟩,⟨fun h=>?_,fun h=>?_,?_⟩,fun k hk=>⟨fun h=>?_,?_⟩,fun k hk=>?_⟩,?_,Y.o⟩
 ·have:=(d.o.2.2.2 _ h).2;omega
 ·have:=A.o _ h;omega
 ·rintro (h|⟨x,hx,_⟩)
  ·omega
  ·exact absurd hx (by simp[GS.ss,gz0])
 ·have:=(d.o.2.2.2 _ hk).1
  have:=(v.o _ h).2
  omega
 ·rintro (h|⟨x,hx,_⟩)
  ·have:=(d.o.2.2.2 _ hk).2;omega
  ·exact absurd hx (by simp[GS.ss,gz0])
 ·rintro (h|⟨x,hx,_⟩)
  ·have:=A.o _ hk;omega
  ·exact absurd hx (by simp[GS.ss,gz0])
 ·have hz:=HZ.o
  rintro k (h|h|h|h|⟨x,hx,_⟩)
  ·omega
  ·have:=(d.o.2.2.2 _ h).1
   have:=z.o
   omega
  ·have:=(v.o _ h).1;omega
  ·omega
  ·exact absurd hx (by simp)
theorem gz0_ti (c:List Int) (inj:Bool) (bk:List (List Int)) (m:Nat) (hm:m≤16):TI (gz0 c inj bk m):=⟨hm,Nat.zero_le _,BI.start m,rfl,fun b hb=>absurd hb (by simp[GS.bs,gz0])⟩
theorem gz0_si (c:List Int) (inj:Bool) (bk:List (List Int)) (m:Nat):SI (gz0 c inj bk m):=fun x hx=>absurd hx (by simp[GS.ss,gz0])
theorem gz0_ci {c:List Int} {inj:Bool} {bk:List (List Int)} {m:Nat} (hp:Em.PF (pfx c) (el c 17) 0) (h:cko c bk 0=0):CI (gz0 c inj bk m):=by
 have b:=pf_zero hp
 unfold cko at h
 split at h
 ·cases h
 rename_i h1
 split at h
 ·cases h
 split at h
 ·rename_i h4;exact absurd rfl h4
 split at h
 ·cases h
 rename_i h5
 split at h
 ·cases h
 split at h
 ·rename_i h6;exact absurd h h6
 rename_i h6
 have d:s6 (vip c)=true:=by cases hh:s6 (vip c);exact absurd hh h1;rfl
 have a:fr (el c 18)=true:=by cases hh:fr (el c 18);exact absurd hh h5;rfl
 refine ⟨(s6_iff _).1 d,b.1,b.2.2.2,?_,Classical.not_not.1 h6⟩
 unfold fr at a
 rw[Bool.and_eq_true,decide_eq_true_eq,decide_eq_true_eq] at a
 exact decide_eq_true a
end
section
variable {g:GS} {β:Int→Nat} {G cap:Nat} {Ot:Nat→Prop} {a:Option Addr} {tv v:Value} {w:World}
theorem MP.strike_no {S:Value→Prop} {b:Nat} {l:List (Value×Value)} {t k el:TypeId} (K:KO k S) (ht:Tryz.prog.underlying t=some (.map k el)) (h:MP S b l w) {x:Value} (hx:S x) (hm:∀ p ∈ l,p.1≠x) (ty:TypeId) :
  ∃ w',(Builtin.delete_ #[t,k] ty #[.map (some b),x]).run Tryz.prog w=.ok (.tuple #[]) w'∧MP S b l w'∧Only b w w':=by
 obtain ⟨es,a,hb,hs,hp,d⟩:=h
 rcases K.2.1 w x hx es.toList d with ⟨h1,h2⟩|⟨j,e1,h1,h2,h3⟩
 ·refine ⟨ChangeMaps.setBlock w b (.map es a),?_,⟨es,a,ChangeMaps.heap_setBlock_same hb _,hs,hp,d⟩,only_block hb _⟩
  simp[Builtin.delete_,run_underlying ht,MapKept.run_getObj_map hb,K.1 _ x w hx,h1,MapKept.run_setObj_map _ hb,Result.andThen,ChangeMaps.setBlock]
 ·exact absurd h3 (hm (en e1) (hp.mem_iff.1 (List.mem_map.2 ⟨e1,List.mem_of_getElem? h2,rfl⟩)))
theorem MP.nodup {S:Value→Prop} {b:Nat} {l:List (Value×Value)} (h:MP S b l w):(l.map Prod.fst).Nodup:=by
 obtain ⟨es,a,hb,hs,hp,e⟩:=h
 have d:=((MapKept.stamped_iff es a).1 hs).2.2
 refine (hp.map Prod.fst).nodup_iff.1 ?_
 rw[List.map_map]
 exact List.pairwise_map.2 d
def sdl (p:Int) (ss:List (Int×List Int×Int×Bool×Bool)):List (Int×List Int×Int×Bool×Bool):=ss.filter fun x=>!decide (x.1=p)
theorem sdl_mem {p:Int} {ss:List (Int×List Int×Int×Bool×Bool)} {x:Int×List Int×Int×Bool×Bool}:x ∈ sdl p ss↔x ∈ ss∧x.1≠p:=by
 unfold sdl
 rw[List.mem_filter]
 simp
theorem sdl_none {p:Int} {ss:List (Int×List Int×Int×Bool×Bool)} (h:∀ x ∈ ss,x.1≠p):sdl p ss=ss:=List.filter_eq_self.2 fun x hx=>by simp[h x hx]
theorem sdl_perm (p:Int):∀ ss:List (Int×List Int×Int×Bool×Bool),(ss.map (fun x=>x.1)).Nodup→∀ x ∈ ss,x.1=p→ss.Perm (x::sdl p ss)
 | [],_,_,h,_=>by simp at h
 | y::r,hn,x,h,e=>by
  rw[List.map_cons,List.nodup_cons] at hn
  rcases List.mem_cons.1 h with rfl|h
  ·have:sdl p (x::r)=r:=by
    unfold sdl
    rw[List.filter_cons_of_neg (by simp[e]),List.filter_eq_self]
    intro z b
    have:z.1≠p:=fun e1=>hn.1 (List.mem_map.2 ⟨z,b,e1.trans e.symm⟩)
    simpa using this
   rw[this]
  ·have a:y.1≠p:=fun e1=>hn.1 (List.mem_map.2 ⟨x,h,e.trans e1.symm⟩)
   have:sdl p (y::r)=y::sdl p r:=by unfold sdl;rw[List.filter_cons_of_pos (by simpa using a)]
   rw[this]
   exact ((sdl_perm p r hn.2 x h e).cons y).trans (List.Perm.swap x y _)
theorem SS.nodup {S:Nat} {ss:List (Int×List Int×Int×Bool×Bool)} (h:SS S β ss w):(ss.map (fun x=>x.1)).Nodup:=by
 have a:=h.1.nodup
 rw[List.map_map] at a
 rw[List.Nodup,List.pairwise_map] at a ⊢
 refine a.imp fun {x y} hne e=>hne ?_
 show Value.int .i64 x.1=Value.int .i64 y.1
 rw[e]
def sdx (ty:TypeId) (m k:Value):Sem Value:=Builtin.delete_ #[78,3] ty #[m,k]
theorem sdx_shut (ty:TypeId) (m k:Value):Builtin.delete_ #[78,3] ty #[m,k]=sdx ty m k:=rfl
theorem GC.strike {S:Nat} (h:GC G a cap tv S Ot β g w) (p:Int) (ty:TypeId) :
  ∃ w',(sdx ty (.map (some S)) (.int .i64 p)).run Tryz.prog w=.ok (.tuple #[]) w'∧GC G a cap tv S Ot β (g.str (sdl p g.ss)) w'∧Only S w w':=by
 obtain ⟨f,i,s⟩:=h.2.2.2.2
 have b:∀ k,SO S β (sdl p g.ss) k→SO S β g.ss k:=fun k hk=>hk.imp id (fun ⟨x,hx,e⟩=>⟨x,(sdl_mem.1 hx).1,e⟩)
 have t:DJ G a Ot (SO S β (sdl p g.ss)):=⟨⟨f.1,f.2.1,fun hs=>f.2.2 (b _ hs)⟩,fun k hk=>⟨(i k hk).1,fun hs=>(i k hk).2 (b _ hs)⟩,fun k hk hs=>s k hk (b _ hs)⟩
 obtain ⟨w',h1,h2,on⟩:∃ w',(sdx ty (.map (some S)) (.int .i64 p)).run Tryz.prog w=.ok (.tuple #[]) w'∧MP isI S ((sdl p g.ss).map (sE β)) w'∧Only S w w':=by
  by_cases hp:∀ x ∈ g.ss,x.1≠p
  ·rw[sdl_none hp]
   refine h.2.2.2.1.1.strike_no koi Tryz.mapS ⟨_,rfl⟩ (fun q hq=>?_) ty
   obtain ⟨x,hx,rfl⟩:=List.mem_map.1 hq
   intro e
   exact hp x hx (by injection e)
  ·obtain ⟨x,hx,e⟩:∃ x ∈ g.ss,x.1=p:=by
    refine Classical.byContradiction fun hn=>hp fun x hx e=>hn ⟨x,hx,e⟩
   have d:=(sdl_perm p g.ss h.2.2.2.1.nodup x hx e).map (sE β)
   rw[List.map_cons] at d
   exact h.2.2.2.1.1.strike koi Tryz.mapS (x:=.int .i64 p) ⟨_,rfl⟩ (by rw[← e] at d ⊢;exact d) ty
 have l:SO S β g.ss S:=.inl rfl
 have A:∀ a n c zs,Row8 w a n c zs→Row8 w' a n c zs:=fun _ _ _ _ r=>r.pastn (fun j x=>h.2.2.2.1.1.nb j _) on
 have hs:∀ k,k≠S→w'.heap[k]? = w.heap[k]?:=on.2.2.2.2
 refine ⟨w',h1,⟨h.1.same (hs G (fun e=>f.2.2 (by rw[e];exact l))),⟨h.2.1.1.same (fun k hk=>hs k (fun e=>(i k hk).2 (by rw[e];exact l))),fun k hk=>by rw[on.2.2.2.1];exact h.2.1.2.1 k hk,h.2.1.2.2⟩,(tb_kept _ _ _ _ _ _ _ h.2.2.1).2 w' (by rw[on.2.2.2.1];exact Nat.le_refl _) (fun k hk=>hs k (fun e=>s k hk (by rw[e];exact l))),⟨h2,fun y hy=>?_,fun y hy z hz e=>?_⟩,t⟩,on⟩
 ·have v:=(sdl_mem.1 hy).1
  obtain ⟨B,C,c1,o,D,E⟩:=h.2.2.2.1.2.1 y v
  refine ⟨B,C,c1,(hs _ (fun e=>?_)).trans o,A _ _ _ _ D,E⟩
  rw[e] at o
  exact h.2.2.2.1.1.notcells o
 ·exact h.2.2.2.1.2.2 y (sdl_mem.1 hy).1 z (sdl_mem.1 hz).1 e
theorem GC.tick {S:Nat} (h:GC G a cap tv S Ot β g w) (n:Int) :
  GC G a cap tv S Ot β (g.tic n) (w.setCell ⟨G,25,none⟩ (.int .i64 n))∧Only G w (w.setCell ⟨G,25,none⟩ (.int .i64 n)):=by
 obtain ⟨d,i,l⟩:=h.2.2.2.2
 obtain ⟨p,b⟩:=h.1.set25 n
 have hs:∀ k,k≠G→(w.setCell ⟨G,25,none⟩ (.int .i64 n)).heap[k]? = w.heap[k]?:=b.2.2.2.2
 obtain ⟨T,hT⟩:∃ T,tv=.pointer (some ⟨T,0,none⟩):=by obtain ⟨T,_,_,_,_,_,e,_⟩:=h.2.2.1;exact ⟨T,e⟩
 have nb:∀ j x,w.cell? ⟨G,j,none⟩≠some (.int .u8 x):=by
  have f:=h.1
  unfold GtIn at f
  rw[hT] at f
  exact fun j x=>nb_row f (gt_nob _ _ _ _ _ _ _ _) j x
 exact ⟨⟨p,⟨h.2.1.1.same (fun k hk=>hs k (fun e=>d.1 (by rw[← e];exact hk))),fun k hk=>by rw[b.2.2.2.1];exact h.2.1.2.1 k hk,h.2.1.2.2⟩,(tb_kept _ _ _ _ _ _ _ h.2.2.1).2 _ (by rw[b.2.2.2.1];exact Nat.le_refl _) (fun k hk=>hs k (fun e=>d.2.1 (by rw[← e];exact hk))),h.2.2.2.1.same (fun k hk=>hs k (fun e=>d.2.2 (by rw[← e];exact hk))) (fun _ _ _ _ r=>r.pastn nb b),h.2.2.2.2⟩,b⟩
theorem GC.nbG {S:Nat} (h:GC G a cap tv S Ot β g w) (j:Nat) (x:Int):w.cell? ⟨G,j,none⟩≠some (.int .u8 x):=by
 obtain ⟨T,hT⟩:∃ T,tv=.pointer (some ⟨T,0,none⟩):=by obtain ⟨T,_,_,_,_,_,e,_⟩:=h.2.2.1;exact ⟨T,e⟩
 have b:=h.1
 unfold GtIn at b
 rw[hT] at b
 exact nb_row b (gt_nob _ _ _ _ _ _ _ _) j x
theorem bdrow_neG {c:List Int} {inj:Bool} {n:Nat} {S:Nat} {now:Int} (p:GtIn G c inj a n cap tv S now w) {off:Nat} {b:List Int} (h:w.rangeAt G off (bdC b).toList):False:=by
 by_cases ho:off≤21
 ·have d:=row_cell h (21 - off) (by omega)
  rw[show off+(21 - off)=21 by omega,p.inj] at d
  cases d
 ·have d:=row_cell h 22 (by omega)
  rw[p.cellAt,Array.getElem?_eq_none (by show 26≤off+22;omega)] at d
  cases d
theorem BdRow.only {B:Nat} {w':World} {bs:List (List Int)} (h:BdRow 0 w v bs) (on:Only B w w') (hn:∀ off b,¬ w.rangeAt B off (bdC b).toList):BdRow 0 w' v bs:=by
 obtain ⟨a,d,e,l⟩:=h
 refine ⟨a,d,e,fun hp=>?_⟩
 obtain ⟨g,off,n,f,i⟩:=l hp
 refine ⟨g,off,n,⟨f.1,by rw[on.2.2.2.1];exact f.2⟩,fun k hk j u hu=>?_⟩
 have o:g≠B:=fun e2=>hn _ _ (by rw[← e2];exact i 0 hp)
 rw[← i k hk j u hu]
 exact World.cell?_of_block (on.2.2.2.2 g o)
def sgo (gone:List (List Int)) (ss:List (Int×List Int×Int×Bool×Bool)):List (Int×List Int×Int×Bool×Bool):=gone.foldl (fun ss b=>sdl (el b 19) ss) ss
def gtk (g:GS) (n:Int):Int×GS :=
 if 0≤n∧n≤1000∧g.now+n≤1099511627776 then (0,((g.tab g.ws (es (g.now+n) g.bs g.ts g.bs.length).2.2 (es (g.now+n) g.bs g.ts g.bs.length).2.1).tic (g.now+n)).str (sgo (es (g.now+n) g.bs g.ts g.bs.length).1 g.ss))
 else (1,g)
theorem sgo_step (gone:List (List Int)) (ss:List (Int×List Int×Int×Bool×Bool)) (k:Nat) (hk:k < gone.length):sgo (gone.take (k+1)) ss=sdl (el (gone.getD k []) 19) (sgo (gone.take k) ss):=by
 unfold sgo
 rw[take_succ gone k hk,List.foldl_append]
 rfl
theorem esl (now:Int) (bs:List (List Int)) (ts:Nat→Bool):(es now bs ts bs.length).1.length≤bs.length:=by
 rw[(es_form now bs ts bs.length (Nat.le_refl _)).1,List.take_length]
 exact List.length_filter_le _ _
attribute [local go_sem ↓] sdx_shut bload_shut
theorem tick_bad (G:Nat) (a:Option Addr) (cap:Nat) (tv:Value) (S:Nat) (Ot:Nat→Prop) (β:Int→Nat) (g:GS) (n:Int) (w:World) (h:GC G a cap tv S Ot β g w) (hn:¬ (0≤n∧n≤1000∧g.now+n≤1099511627776)) (ht:tc g.now=true) :
  Calls Tryz.prog 53 #[.pointer (some ⟨G,0,none⟩),.int .i64 n] w fun e w'=>e=.returned (err 1)∧Below w.heap.size w w':=by
 have d:=ki (fun W=>gup1 1000 n W)
 have l:=ki h
 unfold tc at ht
 rw[Bool.and_eq_true,decide_eq_true_eq,decide_eq_true_eq] at ht
 unfold err
 clear h
 by_cases hu:um 1000 n=true
 ·have k:=(um_iff _ _).1 hu
  have p:1099511627776 < g.now+n:=by omega
  have hw:IntKind.i64.wrap (g.now+n)=g.now+n:=by rw[IntKind.wrap_i64];omega
  rw[hu] at d
  clear hn k hu ht
  go_enter Tryz.func53,Tryz.ntmps53
  go_wp2_with (go_at_call 71;refine (d.o _).mono ?_;rintro e o ⟨rfl,b⟩;have q:=(l.o.kept b).1.now;have i:=ki b;clear b)
  go_ret
  exact ⟨rfl,i.o⟩
 ·have f:um 1000 n=false:=by cases hh:um 1000 n;rfl;exact absurd hh hu
  rw[f] at d
  clear hn hu f ht
  go_enter Tryz.func53,Tryz.ntmps53
  go_wp2_with (go_at_call 71;refine (d.o _).mono ?_;rintro e o ⟨rfl,b⟩;have i:=ki b;clear b)
  go_ret
  exact ⟨rfl,i.o⟩
theorem Kpt.only {O:Nat→Prop} {B:Nat} {w':World} (on:Only B w w') (hB:O B) (nb:∀ j x,w.cell? ⟨B,j,none⟩≠some (.int .u8 x)):Kpt O w w' :=
 ⟨⟨on.1,on.2.1,on.2.2.1,Nat.le_of_eq on.2.2.2.1.symm,fun k _ hn=>on.2.2.2.2 k (fun e=>hn (by rw[e];exact hB))⟩,fun _ _ _ _ r=>r.pastn nb on⟩
def TK (w:World) (G:Nat) (a:Option Addr) (cap:Nat) (tv:Value) (S:Nat) (Ot Ot':Nat→Prop) (β:Int→Nat) (g g1:GS) (v:Value) (gone:List (List Int)) (k:Nat) (W:World):Prop:=GC G a cap tv S Ot' β (g1.str (sgo (gone.take k) g.ss)) W∧Kpt (GO G a Ot (SO S β g.ss)) w W∧BdRow 0 W v gone
theorem TK.kept {S:Nat} {Ot':Nat→Prop} {g1:GS} {gone:List (List Int)} {k:Nat} {W W':World} (h:TK w G a cap tv S Ot Ot' β g g1 v gone k W) (hb:Below W.heap.size W W'):TK w G a cap tv S Ot Ot' β g g1 v gone k W':=⟨h.1.kept hb,h.2.1.trans (Kpt.of (O:=fun _=>False) hb) (fun _ h=>h.elim),h.2.2.same hb⟩
theorem TK.next {S:Nat} {Ot':Nat→Prop} {g1:GS} {gone:List (List Int)} {k:Nat} {W:World} (h:TK w G a cap tv S Ot Ot' β g g1 v gone k W) (hk:k < gone.length) (ty:TypeId) :
  ∃ W',(sdx ty (.map (some S)) (.int .i64 (el (gone.getD k []) 19))).run Tryz.prog W=.ok (.tuple #[]) W'∧TK w G a cap tv S Ot Ot' β g g1 v gone (k+1) W'∧Only S W W':=by
 obtain ⟨W',e,f,d⟩:=h.1.strike (el (gone.getD k []) 19) ty
 have hn:∀ off b,¬ W.rangeAt S off (bdC b).toList:=fun off b hr=>h.1.2.2.2.1.1.nb (off+0) _ (row_cell hr 0 (by omega))
 refine ⟨W',e,⟨?_,h.2.1.trans (Kpt.only (O:=fun k=>k=S) d rfl (fun j x=>h.1.2.2.2.1.1.nb j _)) (fun k hk=>.inl (.inr (.inr (.inr (.inl hk))))),h.2.2.only d hn⟩,d⟩
 rw[sgo_step gone g.ss k hk]
 exact f
theorem sgo_mem {gone:List (List Int)} {ss:List (Int×List Int×Int×Bool×Bool)} {x:Int×List Int×Int×Bool×Bool}:x ∈ sgo gone ss↔x ∈ ss∧∀ b ∈ gone,x.1≠el b 19:=by
 induction gone generalizing ss with
 | nil=>simp[sgo]
 | cons b r ih =>
  show x ∈ sgo r (sdl (el b 19) ss)↔_
  rw[ih,sdl_mem]
  constructor
  ·rintro ⟨⟨d,a⟩,e⟩
   refine ⟨d,fun c hc=>?_⟩
   rcases List.mem_cons.1 hc with rfl|hc
   ·exact a
   ·exact e c hc
  ·rintro ⟨d,a⟩
   exact ⟨⟨d,a b (List.mem_cons_self ..)⟩,fun c hc=>a c (List.mem_cons_of_mem _ hc)⟩
attribute [local go_sem ↓] sdx_shut bload_shut
theorem tick_ok (G:Nat) (a:Option Addr) (cap:Nat) (tv:Value) (S:Nat) (Ot:Nat→Prop) (β:Int→Nat) (g:GS) (n:Int) (w:World) (h:GC G a cap tv S Ot β g w) (hi:TI g) (hn:0≤n∧n≤1000∧g.now+n≤1099511627776) :
  Calls Tryz.prog 53 #[.pointer (some ⟨G,0,none⟩),.int .i64 n] w fun e w'=>e=.returned .nilIface∧GQ w G a cap tv S Ot β g (gtk g n).2 w':=by
 have Y:(gtk g n).2=((g.tab g.ws (es (g.now+n) g.bs g.ts g.bs.length).2.2 (es (g.now+n) g.bs g.ts g.bs.length).2.1).tic (g.now+n)).str (sgo (es (g.now+n) g.bs g.ts g.bs.length).1 g.ss):=by unfold gtk;rw[if_pos hn]
 rw[Y]
 have M:=hi.2.2.2.1
 unfold tc at M
 rw[Bool.and_eq_true,decide_eq_true_eq,decide_eq_true_eq] at M
 have N:=ki (fun W=>gup1 1000 n W)
 rw[(um_iff 1000 n).2 ⟨hn.1,hn.2.1⟩] at N
 have hw:IntKind.i64.wrap (g.now+n)=g.now+n:=by rw[IntKind.wrap_i64];omega
 have h2:¬ 1099511627776 < g.now+n:=by omega
 have B:tc (g.now+n)=true:=by unfold tc;rw[Bool.and_eq_true,decide_eq_true_eq,decide_eq_true_eq];omega
 have o:=ki (fun W (hW:Below w.heap.size w W)=>(tb_ji.2.2.2.2.2.2.2.1 tv g.m g.ws g.ts g.bs Ot W (g.now+n) hi.1 hi.2.1 hi.2.2.1 (h.kept hW).2.2.1).2 B)
 have Z:=ki h
 have aa:=Nat.le_trans (esl (g.now+n) g.bs g.ts) hi.2.1
 generalize (es (g.now+n) g.bs g.ts g.bs.length).1=gone at o aa ⊢
 generalize (es (g.now+n) g.bs g.ts g.bs.length).2.2=ts' at o ⊢
 generalize (es (g.now+n) g.bs g.ts g.bs.length).2.1=bs' at o ⊢
 have ax:(gone.length:Int)≤128:=by omega
 clear h hi hn M B Y
 go_enter Tryz.func53,Tryz.ntmps53
 go_upto_region 3 with (go_at_call 71;refine (N.o _).mono ?_;rintro e P ⟨rfl,p⟩;have q:=(Z.o.kept p).1.now;have HB:=ki p;clear p)
 clear q N
 have C:Below P.heap.size P P.drew:=(Below.refl _ _).drew
 have f:=ki (bt HB.o C)
 have d:=ki (Z.o.kept f.o)
 have Q:=d.o.1.table
 have R:=d.o.1.now
 have E:=ki (o.o _ f.o)
 clear C HB o
 go_region_held3 (fun W'=>W'.cell? ⟨G,23,none⟩=some tv∧W'.cell? ⟨G,25,none⟩=some (.int .i64 g.now))
  (first
   | exact ⟨d.o.1.table,d.o.1.now⟩
   | exact T.o
   | go_keep)
  (first
   | (go_at_call 106;refine E.o.mono ?_;rintro e w5 ⟨b5,rfl,r5,tq⟩;obtain ⟨Ot',v,k5,s5⟩:=d.o.tab tq;have i:=ki v;have F:=ki ((Kpt.of (O:=GO G a Ot (SO S β g.ss)) f.o).trans k5 (fun _ hk=>.inl hk));have ai:=ki (show ∀ k,Ot' k→Ot k∨w.heap.size≤k from fun k hk=>(s5 k hk).imp id (fun h=>Nat.le_trans f.o.size h));have H:=ki r5;have T:=ki (show w5.cell? ⟨G,23,none⟩=some tv∧w5.cell? ⟨G,25,none⟩=some (.int .i64 g.now) from ⟨v.1.table,v.1.now⟩);clear Q R v k5 s5 tq r5;obtain ⟨Q,R⟩:=T.o))
 all_goals
  clear Q
  have aj:=i.o.1.frz 25
  obtain ⟨t6,r⟩:=i.o.tick (g.now+n)
  have l:=ki (show TK w G a cap tv S Ot Ot' β g ((g.tab g.ws ts' bs').tic (g.now+n)) b5 gone 0 _ from ⟨t6,F.o.trans (Kpt.only (O:=fun k=>k=G) r rfl i.o.nbG) (fun k hk=>.inl (.inl hk)),H.o.only r (fun off b hr=>bdrow_neG i.o.1 hr)⟩)
  clear t6 r
  go_upto_region 7 with fail
  clear R aj hw h2 i F H T E d f
  generalize World.setCell _ _ _=W6 at l ⊢
  obtain ⟨a5,c5,rfl,-⟩:=l.o.2.2
  go_wp2
  go_loopw [50] (fun t wr=>∃ k:Nat,k≤gone.length∧t=.int .i64 k∧Hid (TK w G a cap tv S Ot Ot' β g ((g.tab g.ws ts' bs').tic (g.now+n)) (.slice a5 gone.length c5) gone k wr)) (fun t _=>gone.length - (intOf t).toNat)
  case atStart=>exact ⟨0,by omega,rfl,l⟩
  case round =>
   clear l
   obtain ⟨k,hk,rfl,y⟩:=hrel
   by_cases hlt:k < gone.length
   ·obtain ⟨a6,c6,U,I⟩:=y.o.2.2
    injection U with U e8 e7
    subst U
    subst e7
    clear e8
    obtain ⟨gg,off,rfl,-,z⟩:=I (by omega)
    have gx:=row_bl (z k hlt)
    have V:=ki (fun W (hW:TK w G a cap tv S Ot Ot' β g ((g.tab g.ws ts' bs').tic (g.now+n)) (.slice (some ⟨gg,off,none⟩) gone.length c5) gone k W)=>hW.next hlt 0)
    generalize hbk:gone.getD k []=bk at gx V
    clear z I hbk
    have j1:(k:Int) < (gone.length:Int):=by omega
    have X:=ki (bd_zero wr)
    unfold zero23 at X
    go_upto_region 10 with (refine at_storeb rfl (.tmp 8) (.tmp 53) rfl rfl X.o bk rfl ?_;intro A p7 J;have K:=ki (y.o.kept (new_below _ J));have L:=ki p7;clear J p7)
    clear gx X y
    generalize wr.heap.size=D at L ⊢
    have s:=ki (K.o.kept (show Below A.heap.size A A.drew from (Below.refl _ _).drew))
    have ay:A.drew.cell? ⟨D,19,none⟩=some (.int .i64 (el bk 19)):=L.o.cell 19 (by omega)
    have az:=s.o.1.1.streams
    obtain ⟨w9,r9,t9,ap⟩:=V.o _ s.o
    have aq:=ki t9
    clear t9 ap K s V
    go_region
    all_goals
     go_wp2
     go_roundw
     case rel=>exact ⟨k+1,by omega,by go_num,aq⟩
     case measure=>simp[intOf];omega
   ·obtain rfl:gone.length=k:=by omega
    go_wp2
    go_ret
    have hT:=y.o
    refine ⟨rfl,Ot',β,?_,hT.2.1,fun k hk=>?_⟩
    ·have:=hT.1
     rw[List.take_length] at this
     exact this
    ·rcases hk with h1|h1|h1|h1
     ·exact .inl (.inl h1)
     ·exact .inl (.inr (.inl h1))
     ·exact (ai.o k h1).imp (fun h=>.inr (.inr (.inl h))) id
     ·rcases h1 with h1|⟨x,z,e⟩
      ·exact .inl (.inr (.inr (.inr (.inl h1))))
      ·exact .inl (.inr (.inr (.inr (.inr ⟨x,(sgo_mem.1 z).1,e⟩))))
theorem gtick_any (G:Nat) (a:Option Addr) (cap:Nat) (tv:Value) (S:Nat) (Ot:Nat→Prop) (β:Int→Nat) (g:GS) (n:Int) (w:World) (h:GC G a cap tv S Ot β g w) (hi:TI g) :
  Calls Tryz.prog 53 #[.pointer (some ⟨G,0,none⟩),.int .i64 n] w fun e w'=>e=.returned (ev (gtk g n).1)∧GQ w G a cap tv S Ot β g (gtk g n).2 w':=by
 by_cases hn:0≤n∧n≤1000∧g.now+n≤1099511627776
 ·have e:(gtk g n).1=0:=by unfold gtk;rw[if_pos hn]
  rw[e,ev_nil]
  exact tick_ok G a cap tv S Ot β g n w h hi hn
 ·have e:gtk g n=(1,g):=by unfold gtk;rw[if_neg hn]
  rw[e,show ev ((1:Int),g).1=err 1 from ev_err (show (1:Int)≠0 by decide)]
  exact (tick_bad G a cap tv S Ot β g n w h hn hi.2.2.2.1).mono fun r w' ⟨e1,e2⟩=>⟨e1,h.still e2⟩
end
end Go.Proofs.YtgcojnlngchllaaGreatDoor
