/- Package seg: number and read, by contracts. Package seg: alike, by contracts. Package seg: Decode, by contracts. Segments in numbers: their bytes, what is read from them, what they add up to. Encode and Decode of segments that may be. -/
import Derived.Test.YtgcojnlngchllaaGreatDoorK03
namespace Go.Proofs.YtgcojnlngchllaaGreatDoor
open Go.RowKit
set_option linter.unusedVariables false
set_option maxRecDepth 100000
set_option maxHeartbeats 40000000
section
variable {z:List Int} {B:Nat} {a:Option Addr} {w:World}
attribute [local go_sem ↓] Go.wp_at_zero Go.wp_at_succ
theorem or8 (a x:Nat) (ha:a < 16777216) (hx:x≤255):bits .or .i64 ((a*256:Nat):Int) (x:Int)=((a*256+x:Nat):Int):=by
 have d:(BitVec.ofInt 64 ((a*256:Nat):Int)).toNat=a*256:=by rw[BitVec.toNat_ofInt];omega
 have e:(BitVec.ofInt 64 ((x:Nat):Int)).toNat=x:=by rw[BitVec.toNat_ofInt];omega
 have b:(BitVec.ofInt 64 ((a*256:Nat):Int) ||| BitVec.ofInt 64 ((x:Nat):Int)).toNat=a*256+x:=by
  rw[BitVec.toNat_or,d,e]
  have:=Nat.shiftLeft_add_eq_or_of_lt (show x < 2 ^ 8 by omega) a
  rw[Nat.shiftLeft_eq] at this
  exact this.symm
 show IntKind.i64.wrap (((BitVec.ofInt 64 ((a*256:Nat):Int) ||| BitVec.ofInt 64 ((x:Nat):Int)).toNat:Nat):Int)=_
 rw[b,IntKind.wrap_i64]
 omega
theorem or_lo (a x:Int) (ha:0≤a) (ha2:a < 16777216) (hx:0≤x) (hx2:x < 256):bits .or .i64 (a*256) x=a*256+x:=by
 obtain ⟨m,rfl⟩:=Int.eq_ofNat_of_zero_le ha
 obtain ⟨k,rfl⟩:=Int.eq_ofNat_of_zero_le hx
 have:=or8 m k (by omega) (by omega)
 rw[show ((m*256:Nat):Int)=(m:Int)*256 by omega,show ((m*256+k:Nat):Int)=(m:Int)*256+(k:Int) by omega] at this
 exact this
def num (zs:List Int):Nat→Int
 | 0=>0
 | k+1=>num zs k*256+zs.getD k 0
theorem num_bd (zs:List Int) (h:SM.Oct zs) (k:Nat) (hk:k < 4):0≤num zs k∧num zs k < 16777216:=by
 have a:=h 0;have b:=h 1;have d:=h 2
 rcases (by omega:k=0∨k=1∨k=2∨k=3) with rfl|rfl|rfl|rfl <;> simp only[num] <;> omega
theorem number_any (a:Option Addr) (len cap:Nat) (zs:List Int) (w:World) (hl:len≤4) (hp:0 < len) (w0:Row8 w a len cap zs) (r:Int) (hr:num zs len=r) :
  Calls Tryz.prog 290 #[.slice a len cap] w fun e w'=>e=.returned (.int .i64 r)∧w'=w:=by
 obtain ⟨q,s,d,_,g⟩:=w0
 obtain ⟨b,p,rfl,f⟩:=g hp
 have o:=ki hr
 clear g hr
 go_enter Tryz.func290,Tryz.ntmps290
 go_wp2
 go_loop [3,8] (fun t i=>∃ k:Nat,k≤len∧t=.int .i64 (num zs k)∧i=.int .i64 k) (fun _ i=>len - (intOf i).toNat)
 case atStart=>exact ⟨0,by omega,rfl,rfl⟩
 case round =>
  obtain ⟨k,v,rfl,rfl⟩:=hrel
  by_cases hlt:k < len
  ·have hb:=num_bd zs d k (by omega)
   have n:=f k hlt
   have h:=d k
   clear f
   have l:=ki (show num zs (k+1)=num zs k*256+zs.getD k 0 from rfl)
   clear d
   generalize zs.getD k 0=z at n h l
   generalize num zs k=t at hb l ⊢
   have x:=or_lo t z hb.1 hb.2 h.1 (by omega)
   go_wp2
   go_round
   case rel=>exact ⟨k+1,by omega,by rw[l.o],by go_num⟩
   case measure=>simp[intOf];omega
  ·obtain rfl:k=len:=by omega
   go_wp2
   go_ret
   exact ⟨by rw[o.o];rfl,rfl⟩
theorem num_congr (xs ys:List Int) (n:Nat) (h:∀ j,j < n→xs.getD j 0=ys.getD j 0):num xs n=num ys n:=by
 induction n with
 | zero=>rfl
 | succ n ih=>simp only[num];rw[ih (fun j hj=>h j (by omega)),h n (by omega)]
theorem number_at (g off len cap:Nat) (zs:List Int) (w:World) (j n c:Nat) (hr:Row8 w (some ⟨g,off,none⟩) len cap zs) (h1:j+n≤len) (h2:n≤4) (h3:0 < n) :
  Calls Tryz.prog 290 #[.slice (some ⟨g,off+j,none⟩) n c] w fun e w'=>e=.returned (.int .i64 (num (zs.drop j) n))∧w'=w:=by
 have h:=hr.part j (j+n) (by omega) h1 (some ⟨g,off+j,none⟩) c (fun b o _ e=>by cases e;rfl) (fun e=>by cases e)
 rw[show j+n - j=n by omega] at h
 exact number_any _ n c _ w h2 h3 h _ (num_congr _ _ n fun i hi=>P4.getD_take hi)
theorem number_at0 (g off len cap:Nat) (zs:List Int) (w:World) (n c:Nat) (hr:Row8 w (some ⟨g,off,none⟩) len cap zs) (h1:n≤len) (h2:n≤4) (h3:0 < n) :
  Calls Tryz.prog 290 #[.slice (some ⟨g,off,none⟩) n c] w fun e w'=>e=.returned (.int .i64 (num zs n))∧w'=w:=by
 have:=number_at g off len cap zs w 0 n c hr (by omega) h2 h3
 exact this
theorem SgIn.ne {len cap:Nat} (h:SgIn B z a len cap w) {base:Nat} {v:Value} {zs:List Int} (o:Own base w v zs):v.ownBlock≠some B:=by
 intro e
 rcases o.2.2 with ⟨rfl,_⟩|⟨g,cap,cur,rfl,_,hg,_⟩
 ·cases e
 ·have:g=B:=by simpa [Value.ownBlock] using e
  subst this
  unfold SgIn at h
  rw[h] at hg
  injection hg with hg
  injection hg with _ hg
  cases hg
theorem Own.only {base:Nat} {w':World} (h:Only B w w') {v:Value} {zs:List Int} (o:Own base w v zs) (hB:v.ownBlock≠some B):Own base w' v zs:=by
 refine ⟨o.1,o.2.1,?_⟩
 rcases o.2.2 with h2|⟨g,cap,cur,rfl,hb',hg,rest⟩
 ·exact .inl h2
 ·exact .inr ⟨g,cap,cur,rfl,hb',by rw[h.2.2.2.2 g (fun e=>hB (by rw[e];rfl))];exact hg,rest⟩
theorem only_setCell (w:World) (B j:Nat) (cs:Array Value) (t:TypeId) (v:Value) (h:w.heap[B]? = some (.cells cs t (0,0))):Only B w (w.setCell ⟨B,j,none⟩ v):=by
 rw[setCell_eq_setRow w B j cs t (0,0) v h]
 exact only_setRow _ _ _
def Rd (w:World) (B:Nat) (z:List Int) (a:Option Addr) (n c:Nat) (D:List Int) (W:World):Prop:=SgIn B z a n c W∧Own w.heap.size W (.slice a n c) D∧SgIn w.heap.size [] none 0 0 W∧w.heap.size≠B∧w.heap.size≤B∧Below w.heap.size w W
theorem Rd.only {n c:Nat} {D:List Int} {W W':World} (h:Rd w B z a n c D W) (z':List Int) (ho:Only B W W') (hs:SgIn B z' a n c W'):Rd w B z' a n c D W' :=
 ⟨hs,h.2.1.only ho (h.1.ne h.2.1),ho.sg h.2.2.1 h.2.2.2.1,h.2.2.2.1,h.2.2.2.2.1,ho.below h.2.2.2.2.2 h.2.2.2.2.1⟩
theorem Rd.set {n c:Nat} {D:List Int} {W:World} (h:Rd w B z a n c D W) (j:Nat) (x:Int) (z':List Int) (hz:(sgC z a n c).setIfInBounds j (.int .i64 x)=sgC z' a n c):Rd w B z' a n c D (W.setCell ⟨B,j,none⟩ (.int .i64 x)):=by
 refine h.only z' (only_setCell _ _ _ _ _ _ h.1) ?_
 have:=setCell_heap_same W B j _ _ (.int .i64 x) h.1
 rw[hz] at this
 exact this
theorem SgIn.frz {len cap:Nat} (p:SgIn B z a len cap w) (j:Nat):w.frozen? ⟨B,j,none⟩=false:=by
 unfold SgIn at p
 simp[World.frozen?,p]
theorem SgIn.held7 {z0:List Int} {a0:Option Addr} {len0 cap0:Nat} (p:SgIn B z0 a0 len0 cap0 w) (k f t:Int) (a:Option Addr) (len cap:Nat) :
  ∃ w',(gstore (.pointer (some ⟨B,0,none⟩)) (.agg #[.int .i64 k,.int .i64 f,.int .i64 t,.int .i64 0,.int .i64 0,.int .i64 0,.int .i64 0,.slice a len cap])).run Tryz.prog w=.ok () w'∧SgIn B [k,f,t,0,0,0,0] a len cap w'∧Only B w w':=p.held [k,f,t,0,0,0,0] a len cap
def zero7:Array Value:=#[.int .i64 0,.int .i64 0,.int .i64 0,.int .i64 0,.int .i64 0,.int .i64 0,.int .i64 0,.slice none 0 0]
theorem zero_new (w:World):SgIn w.heap.size [] none 0 0 (w.alloc (.cells zero7 39)):=sg_new w [] none 0 0
attribute [local go_sem ↓] gstore_shut
theorem read_tcp (k:Int) (g off len cap:Nat) (zs:List Int) (w:World) (hr:Row8 w (some ⟨g,off,none⟩) len cap zs) (hk:k=6) (hH:20≤len) (hM:len≤320) (hcl:len≤cap) (hcm:cap≤maxLen) :
  Calls Tryz.prog 246 #[.int .i64 k,.slice (some ⟨g,off,none⟩) len cap] w fun e w'=>∃ a' c',e=.returned (.agg (sgC [k,num zs 2,num (zs.drop 2) 2,num (zs.drop 4) 4,num (zs.drop 8) 4,num (zs.drop 13) 1,num (zs.drop 14) 2] a' (len - 20) c'))∧Own w.heap.size w' (.slice a' (len - 20) c') (zs.drop 20)∧Below w.heap.size w w':=by
 unfold maxLen at hcm
 have an:(len:Int)≤(cap:Int):=by omega
 have av:(20:Int)≤(len:Int):=by omega
 have aw:(20:Int)≤(cap:Int):=by omega
 have ax:(2:Int)≤(cap:Int):=by omega
 have ay:(4:Int)≤(cap:Int):=by omega
 have az:cap≠2:=by omega
 have D:Below w.heap.size w (w.alloc (.cells zero7 39)).drew:=((Below.refl _ _).alloc (Nat.le_refl _) _).drew
 have l:=ki (hr.below D)
 have E:=ki (show SgIn w.heap.size [] none 0 0 (w.alloc (.cells zero7 39)).drew from zero_new w)
 have F:Below (w.alloc (.cells zero7 39)).drew.heap.size (w.alloc (.cells zero7 39)).drew ((w.alloc (.cells zero7 39)).alloc (.cells zero7 39)).drew:=al_below (w.alloc (.cells zero7 39)).drew (.cells zero7 39)
 have r:=ki D
 have s:=ki (bt D F)
 have t:=ki (l.o.below F)
 have G:=ki (E.o.kept F)
 have H:=ki (show SgIn (w.heap.size+1) [] none 0 0 ((w.alloc (.cells zero7 39)).alloc (.cells zero7 39)).drew by
  have:=zero_new (w.alloc (.cells zero7 39)).drew
  rw[show (w.alloc (.cells zero7 39)).drew.heap.size=w.heap.size+1 by simp] at this
  exact this)
 have S:=ki (fun n c W (h:Row8 W (some ⟨g,off,none⟩) len cap zs) h1 h2 h3=>number_at0 g off len cap zs W n c h h1 h2 h3)
 have P:=ki (fun j n c W (h:Row8 W (some ⟨g,off,none⟩) len cap zs) h1 h2 h3=>number_at g off len cap zs W j n c h h1 h2 h3)
 have T:=ki (fun c W (h:Row8 W (some ⟨g,off,none⟩) len cap zs)=>number_at g off len cap zs W 2 2 c h (by omega) (by omega) (by omega))
 have Z:=ki (fun W=>head_any k W)
 rw[show hn k=20 by unfold hn;rw[if_pos hk]] at Z
 have I:∃ ad,(if cap=20 then some (⟨g,off,none⟩:Addr) else some ⟨g,off+20,none⟩)=some ad:=by split <;> exact ⟨_,rfl⟩
 have p:=fun W (h:Row8 W (some ⟨g,off,none⟩) len cap zs)=>(h.part 20 len hH (Nat.le_refl _) (if cap=20 then some ⟨g,off,none⟩ else some ⟨g,off+20,none⟩) (cap - 20) (fun b o hlt e=>by cases e;rw[if_neg (by omega)]) (fun e=>by split at e <;> cases e)).congr (show (zs.drop 20).take (len - 20)=zs.drop 20 from List.take_of_length_le (by rw[List.length_drop,hr.1];exact Nat.le_refl _))
 obtain ⟨ao,hao⟩:∃ ao,(if cap=20 then some (⟨g,off,none⟩:Addr) else some ⟨g,off+20,none⟩)=ao:=⟨_,rfl⟩
 rw[hao] at p I
 have q:=ki p
 have J:=ki I
 clear p I
 have HL:=ki (show ([]++zs.drop 20).length=len - 20 by rw[List.nil_append,List.length_drop,hr.1])
 have K:=ki (show ([]:List Int).length+(len - 20)≤1000000000 by simp;omega)
 have z:=ki (show w.heap.size≤(w.alloc (.cells zero7 39)).drew.heap.size from r.o.size)
 have A:=ki s.o.size
 have Q:=ki hr
 have ek:(k == 6)=true:=by simpa using hk
 clear hr D F hk
 unfold zero7 at l E r s t G H z A
 go_enter Tryz.func246,Tryz.ntmps246
 go_upto_region 1 with fail
 go_cut [5] from 6 to 18 (fun v5 W=>∃ B a5 c5,v5=.pointer (some ⟨B,0,none⟩)∧Hid (Rd w B [k,num zs 2,num (zs.drop 2) 2,0,0,0,0] a5 (len - 20) c5 (zs.drop 20) W))
 case first =>
  go_region_held3 (fun _=>True)
   (trivial)
   (first
    | (go_at_call 290;(with_reducible refine (S.o _ _ _ l.o (by omega) (by omega) (by omega)).mono ?_);rintro e w' ⟨rfl,rfl⟩)
    | (go_at_call 290;(with_reducible refine (S.o _ _ _ t.o (by omega) (by omega) (by omega)).mono ?_);rintro e w' ⟨rfl,rfl⟩)
    | (go_at_call 290;(with_reducible refine (T.o _ _ l.o).mono ?_);rintro e w' ⟨rfl,rfl⟩)
    | (go_at_call 290;(with_reducible refine (T.o _ _ t.o).mono ?_);rintro e w' ⟨rfl,rfl⟩)
    | (go_at_call 208;refine (Z.o _).mono ?_;rintro e w' ⟨rfl,rfl⟩)
    | (refine step_app rfl (.const (.slice none 0 0)) (.tmp 16) rfl w.heap.size _ [] (by rfl) (Own.nil _ _) _ J.o (len - 20) (cap - 20) _ (len - 20) HL.o (by rfl) (q.o _ l.o) K.o z.o ?_;intro a5 c5 R C v;have x:=r.o.grown v r.o.size (fun k h=>by cases h);have d:=E.o.grown v (by intro e;cases e);have y:=al_below R (.cells #[.int .i64 0,.int .i64 0,.int .i64 0,.int .i64 0,.int .i64 0,.int .i64 0,.int .i64 0,.slice none 0 0] 39);have i:=zero_new R;unfold zero7 at i;obtain ⟨w6,aj,L,f⟩:=i.held7 k (num zs 2) (num (zs.drop 2) 2) a5 (len - 20) c5;have a:=ki (show Rd w R.heap.size [k,num zs 2,num (zs.drop 2) 2,0,0,0,0] a5 (len - 20) c5 (zs.drop 20) w6 from ⟨L,(C.kept y).only f (i.ne (C.kept y)),f.sg (d.kept y) (Nat.ne_of_lt d.lt),Nat.ne_of_lt d.lt,Nat.le_of_lt d.lt,f.below (bt x y) (Nat.le_of_lt d.lt)⟩);clear L f i y d x C v)
    | (refine step_app rfl (.const (.slice none 0 0)) (.tmp 16) rfl w.heap.size _ [] (by rfl) (Own.nil _ _) _ J.o (len - 20) (cap - 20) _ (len - 20) HL.o (by rfl) (q.o _ t.o) K.o A.o ?_;intro a5 c5 R C v;have x:=s.o.grown v s.o.size (fun k h=>by cases h);have d:=G.o.grown v (by intro e;cases e);have i:=H.o.grown v (by intro e;cases e);obtain ⟨w6,aj,L,f⟩:=i.held7 k (num zs 2) (num (zs.drop 2) 2) a5 (len - 20) c5;have a:=ki (show Rd w (w.heap.size+1) [k,num zs 2,num (zs.drop 2) 2,0,0,0,0] a5 (len - 20) c5 (zs.drop 20) w6 from ⟨L,C.only f (i.ne C),f.sg d (Nat.ne_of_lt (Nat.lt_succ_self _)),Nat.ne_of_lt (Nat.lt_succ_self _),Nat.le_succ _,f.below x (Nat.le_succ _)⟩);clear L f i d x C v))
  all_goals
   go_wp2_with fail
   go_meet
   exact ⟨_,_,_,rfl,a⟩
 case rest =>
  obtain ⟨B,a5,c5,rfl,a⟩:=hcut
  clear l t E G H r s z A J q hao Z
  have j8:(8:Int)≤(cap:Int):=by omega
  have a0:(12:Int)≤(cap:Int):=by omega
  have a1:(14:Int)≤(cap:Int):=by omega
  have a2:(16:Int)≤(cap:Int):=by omega
  have k4:cap≠4:=by omega
  have k8:cap≠8:=by omega
  have a3:cap≠13:=by omega
  have a4:cap≠14:=by omega
  go_upto_region 3 with fail
  have x3:=a.o.1.cellAt 3
  have y3:=a.o.1.frz 3
  replace x3:_=some (Value.int .i64 0):=x3
  have U:=ki (Q.o.below a.o.2.2.2.2.2)
  go_upto_region 4 with (go_at_call 290;refine (P.o 4 4 _ _ U.o (by omega) (by omega) (by omega)).mono ?_;rintro e w' ⟨rfl,rfl⟩)
  replace a:=ki (a.o.set 3 (num (zs.drop 4) 4) [k,num zs 2,num (zs.drop 2) 2,num (zs.drop 4) 4,0,0,0] rfl)
  generalize World.setCell _ _ _=W3 at a ⊢
  clear x3 y3 U
  have x4:=a.o.1.cellAt 4
  have y4:=a.o.1.frz 4
  replace x4:_=some (Value.int .i64 0):=x4
  have V:=ki (Q.o.below a.o.2.2.2.2.2)
  go_upto_region 5 with (go_at_call 290;refine (P.o 8 4 _ _ V.o (by omega) (by omega) (by omega)).mono ?_;rintro e w' ⟨rfl,rfl⟩)
  replace a:=ki (a.o.set 4 (num (zs.drop 8) 4) [k,num zs 2,num (zs.drop 2) 2,num (zs.drop 4) 4,num (zs.drop 8) 4,0,0] rfl)
  generalize World.setCell _ _ _=W4 at a ⊢
  clear x4 y4 V
  have x5:=a.o.1.cellAt 5
  have y5:=a.o.1.frz 5
  replace x5:_=some (Value.int .i64 0):=x5
  have X:=ki (Q.o.below a.o.2.2.2.2.2)
  go_upto_region 6 with (go_at_call 290;refine (P.o 13 1 _ _ X.o (by omega) (by omega) (by omega)).mono ?_;rintro e w' ⟨rfl,rfl⟩)
  replace a:=ki (a.o.set 5 (num (zs.drop 13) 1) [k,num zs 2,num (zs.drop 2) 2,num (zs.drop 4) 4,num (zs.drop 8) 4,num (zs.drop 13) 1,0] rfl)
  generalize World.setCell _ _ _=W5 at a ⊢
  clear x5 y5 X
  have x6:=a.o.1.cellAt 6
  have y6:=a.o.1.frz 6
  replace x6:_=some (Value.int .i64 0):=x6
  have Y:=ki (Q.o.below a.o.2.2.2.2.2)
  go_upto_region 7 with (go_at_call 290;refine (P.o 14 2 _ _ Y.o (by omega) (by omega) (by omega)).mono ?_;rintro e w' ⟨rfl,rfl⟩)
  replace a:=ki (a.o.set 6 (num (zs.drop 14) 2) [k,num zs 2,num (zs.drop 2) 2,num (zs.drop 4) 4,num (zs.drop 8) 4,num (zs.drop 13) 1,num (zs.drop 14) 2] rfl)
  generalize World.setCell _ _ _=W6 at a ⊢
  clear x6 y6 Y
  have M:=ki (a.o.2.2.2.2.2)
  have N:=ki (a.o.2.1)
  have ak:=ki a.o.2.2.1
  have am:=ki (a.o.2.2.1.ne a.o.2.1)
  go_wp2_with (first
   | (refine at_load rfl (.tmp 5) rfl rfl a.o.1 ?_)
   | (refine at_store rfl (.tmp 4) (.tmp 37) rfl rfl ak.o [k,num zs 2,num (zs.drop 2) 2,num (zs.drop 4) 4,num (zs.drop 8) 4,num (zs.drop 13) 1,num (zs.drop 14) 2] a5 (len - 20) c5 rfl ?_;intro w7 p7 O;replace M:=ki (O.below M.o (Nat.le_refl _));replace N:=ki (N.o.only O am.o);replace p7:=ki p7;clear O))
  try simp only[Exit.inBlock,Exit.then]
  refine bodyPost_ret (sg_result rfl _ _ w.heap.size [k,num zs 2,num (zs.drop 2) 2,num (zs.drop 4) 4,num (zs.drop 8) 4,num (zs.drop 13) 1,num (zs.drop 14) 2] a5 (len - 20) c5 rfl p7.o) rfl ?_
  exact ⟨a5,c5,rfl,N.o,M.o⟩
attribute [local go_sem ↓] gstore_shut
theorem read_udp (k:Int) (g off len cap:Nat) (zs:List Int) (w:World) (hr:Row8 w (some ⟨g,off,none⟩) len cap zs) (hk:¬ k=6) (hH:8≤len) (hM:len≤320) (hcl:len≤cap) (hcm:cap≤maxLen) :
  Calls Tryz.prog 246 #[.int .i64 k,.slice (some ⟨g,off,none⟩) len cap] w fun e w'=>∃ a' c',e=.returned (.agg (sgC [k,num zs 2,num (zs.drop 2) 2,0,0,0,0] a' (len - 8) c'))∧Own w.heap.size w' (.slice a' (len - 8) c') (zs.drop 8)∧Below w.heap.size w w':=by
 unfold maxLen at hcm
 have aa:(len:Int)≤(cap:Int):=by omega
 have ab:(8:Int)≤(len:Int):=by omega
 have ac:(8:Int)≤(cap:Int):=by omega
 have ae:(2:Int)≤(cap:Int):=by omega
 have af:(4:Int)≤(cap:Int):=by omega
 have ag:cap≠2:=by omega
 have D:Below w.heap.size w (w.alloc (.cells zero7 39)).drew:=((Below.refl _ _).alloc (Nat.le_refl _) _).drew
 have l:=ki (hr.below D)
 have E:=ki (show SgIn w.heap.size [] none 0 0 (w.alloc (.cells zero7 39)).drew from zero_new w)
 have F:Below (w.alloc (.cells zero7 39)).drew.heap.size (w.alloc (.cells zero7 39)).drew ((w.alloc (.cells zero7 39)).alloc (.cells zero7 39)).drew:=al_below (w.alloc (.cells zero7 39)).drew (.cells zero7 39)
 have r:=ki D
 have s:=ki (bt D F)
 have t:=ki (l.o.below F)
 have G:=ki (E.o.kept F)
 have H:=ki (show SgIn (w.heap.size+1) [] none 0 0 ((w.alloc (.cells zero7 39)).alloc (.cells zero7 39)).drew by
  have:=zero_new (w.alloc (.cells zero7 39)).drew
  rw[show (w.alloc (.cells zero7 39)).drew.heap.size=w.heap.size+1 by simp] at this
  exact this)
 have Q:=ki (fun n c W (h:Row8 W (some ⟨g,off,none⟩) len cap zs) h1 h2 h3=>number_at0 g off len cap zs W n c h h1 h2 h3)
 have HN:=ki (fun j n c W (h:Row8 W (some ⟨g,off,none⟩) len cap zs) h1 h2 h3=>number_at g off len cap zs W j n c h h1 h2 h3)
 have R:=ki (fun c W (h:Row8 W (some ⟨g,off,none⟩) len cap zs)=>number_at g off len cap zs W 2 2 c h (by omega) (by omega) (by omega))
 have S:=ki (fun W=>head_any k W)
 rw[show hn k=8 by unfold hn;rw[if_neg hk]] at S
 have I:∃ ad,(if cap=8 then some (⟨g,off,none⟩:Addr) else some ⟨g,off+8,none⟩)=some ad:=by split <;> exact ⟨_,rfl⟩
 have p:=fun W (h:Row8 W (some ⟨g,off,none⟩) len cap zs)=>(h.part 8 len hH (Nat.le_refl _) (if cap=8 then some ⟨g,off,none⟩ else some ⟨g,off+8,none⟩) (cap - 8) (fun b o hlt e=>by cases e;rw[if_neg (by omega)]) (fun e=>by split at e <;> cases e)).congr (show (zs.drop 8).take (len - 8)=zs.drop 8 from List.take_of_length_le (by rw[List.length_drop,hr.1];exact Nat.le_refl _))
 obtain ⟨ao,hao⟩:∃ ao,(if cap=8 then some (⟨g,off,none⟩:Addr) else some ⟨g,off+8,none⟩)=ao:=⟨_,rfl⟩
 rw[hao] at p I
 have q:=ki p
 have J:=ki I
 clear p I
 have V:=ki (show ([]++zs.drop 8).length=len - 8 by rw[List.nil_append,List.length_drop,hr.1])
 have K:=ki (show ([]:List Int).length+(len - 8)≤1000000000 by simp;omega)
 have z:=ki (show w.heap.size≤(w.alloc (.cells zero7 39)).drew.heap.size from r.o.size)
 have A:=ki s.o.size
 have HR:=ki hr
 have ek:(k == 6)=false:=by simpa using hk
 clear hr D F hk
 unfold zero7 at l E r s t G H z A
 go_enter Tryz.func246,Tryz.ntmps246
 go_upto_region 1 with fail
 go_cut [5] from 6 to 18 (fun v5 W=>∃ B a5 c5,v5=.pointer (some ⟨B,0,none⟩)∧Hid (Rd w B [k,num zs 2,num (zs.drop 2) 2,0,0,0,0] a5 (len - 8) c5 (zs.drop 8) W))
 case first =>
  go_region_held3 (fun _=>True)
   (trivial)
   (first
    | (go_at_call 290;(with_reducible refine (Q.o _ _ _ l.o (by omega) (by omega) (by omega)).mono ?_);rintro e w' ⟨rfl,rfl⟩)
    | (go_at_call 290;(with_reducible refine (Q.o _ _ _ t.o (by omega) (by omega) (by omega)).mono ?_);rintro e w' ⟨rfl,rfl⟩)
    | (go_at_call 290;(with_reducible refine (R.o _ _ l.o).mono ?_);rintro e w' ⟨rfl,rfl⟩)
    | (go_at_call 290;(with_reducible refine (R.o _ _ t.o).mono ?_);rintro e w' ⟨rfl,rfl⟩)
    | (go_at_call 208;refine (S.o _).mono ?_;rintro e w' ⟨rfl,rfl⟩)
    | (refine step_app rfl (.const (.slice none 0 0)) (.tmp 16) rfl w.heap.size _ [] (by rfl) (Own.nil _ _) _ J.o (len - 8) (cap - 8) _ (len - 8) V.o (by rfl) (q.o _ l.o) K.o z.o ?_;intro a5 c5 P C v;have x:=r.o.grown v r.o.size (fun k h=>by cases h);have a:=E.o.grown v (by intro e;cases e);have y:=al_below P (.cells #[.int .i64 0,.int .i64 0,.int .i64 0,.int .i64 0,.int .i64 0,.int .i64 0,.int .i64 0,.slice none 0 0] 39);have i:=zero_new P;unfold zero7 at i;obtain ⟨T,X,L,d⟩:=i.held7 k (num zs 2) (num (zs.drop 2) 2) a5 (len - 8) c5;have f:=ki (show Rd w P.heap.size [k,num zs 2,num (zs.drop 2) 2,0,0,0,0] a5 (len - 8) c5 (zs.drop 8) T from ⟨L,(C.kept y).only d (i.ne (C.kept y)),d.sg (a.kept y) (Nat.ne_of_lt a.lt),Nat.ne_of_lt a.lt,Nat.le_of_lt a.lt,d.below (bt x y) (Nat.le_of_lt a.lt)⟩);clear L d i y a x C v)
    | (refine step_app rfl (.const (.slice none 0 0)) (.tmp 16) rfl w.heap.size _ [] (by rfl) (Own.nil _ _) _ J.o (len - 8) (cap - 8) _ (len - 8) V.o (by rfl) (q.o _ t.o) K.o A.o ?_;intro a5 c5 P C v;have x:=s.o.grown v s.o.size (fun k h=>by cases h);have a:=G.o.grown v (by intro e;cases e);have i:=H.o.grown v (by intro e;cases e);obtain ⟨T,X,L,d⟩:=i.held7 k (num zs 2) (num (zs.drop 2) 2) a5 (len - 8) c5;have f:=ki (show Rd w (w.heap.size+1) [k,num zs 2,num (zs.drop 2) 2,0,0,0,0] a5 (len - 8) c5 (zs.drop 8) T from ⟨L,C.only d (i.ne C),d.sg a (Nat.ne_of_lt (Nat.lt_succ_self _)),Nat.ne_of_lt (Nat.lt_succ_self _),Nat.le_succ _,d.below x (Nat.le_succ _)⟩);clear L d i a x C v))
  all_goals
   go_wp2_with fail
   go_meet
   exact ⟨_,_,_,rfl,f⟩
 case rest =>
  obtain ⟨B,a5,c5,rfl,f⟩:=hcut
  clear l t E G H r s z A J q hao S
  have M:=ki (f.o.2.2.2.2.2)
  have N:=ki (f.o.2.1)
  have Y:=ki f.o.2.2.1
  have Z:=ki (f.o.2.2.1.ne f.o.2.1)
  go_wp2_with (first
   | (refine at_load rfl (.tmp 5) rfl rfl f.o.1 ?_)
   | (refine at_store rfl (.tmp 4) (.tmp 37) rfl rfl Y.o [k,num zs 2,num (zs.drop 2) 2,0,0,0,0] a5 (len - 8) c5 rfl ?_;intro w7 U O;replace M:=ki (O.below M.o (Nat.le_refl _));replace N:=ki (N.o.only O Z.o);replace U:=ki U;clear O))
  try simp only[Exit.inBlock,Exit.then]
  refine bodyPost_ret (sg_result rfl _ _ w.heap.size [k,num zs 2,num (zs.drop 2) 2,0,0,0,0] a5 (len - 8) c5 rfl U.o) rfl ?_
  exact ⟨a5,c5,rfl,N.o,M.o⟩
end
section
theorem Row8.behind {w:World} {g off len cap:Nat} {zs:List Int} (h:Row8 w (some ⟨g,off,none⟩) len cap zs) (n:Nat) (hn:n≤len) (hc:len≤cap) (ao:Option Addr) (hao:(if cap=n then some (⟨g,off,none⟩:Addr) else some ⟨g,off+n,none⟩)=ao):Row8 w ao (len - n) (cap - n) (zs.drop n):=by
 have:=h.part n len hn (Nat.le_refl _) ao (cap - n) (fun b o hlt e=>by cases e;rw[← hao,if_neg (by omega)]) (fun e=>by rw[e] at hao;split at hao <;> cases hao)
 exact this.congr (List.take_of_length_le (by rw[List.length_drop,h.1];exact Nat.le_refl _))
theorem alike_tcp (k:Int) (hk:k=6) (gx ox lx cx gz oz lz cz:Nat) (xs zs:List Int) (w:World) (rx:Row8 w (some ⟨gx,ox,none⟩) lx cx xs) (rz:Row8 w (some ⟨gz,oz,none⟩) lz cz zs) (hx:18≤lx) (hz:18≤lz) (hxc:lx≤cx) (hzc:lz≤cz) (hxm:cx≤maxLen) (hzm:cz≤maxLen)
  (r:Bool) (hr:(xs.take 16=zs.take 16∧xs.drop 18=zs.drop 18)↔r=true) :
  Calls Tryz.prog 247 #[.int .i64 k,.slice (some ⟨gx,ox,none⟩) lx cx,.slice (some ⟨gz,oz,none⟩) lz cz] w fun e w'=>e=.returned (.bool r)∧∃ n,w'=w.drewN n:=by
 obtain ⟨ax,hax⟩:∃ ao,(if cx=18 then some (⟨gx,ox,none⟩:Addr) else some ⟨gx,ox+18,none⟩)=ao:=⟨_,rfl⟩
 obtain ⟨az,haz⟩:∃ ao,(if cz=18 then some (⟨gz,oz,none⟩:Addr) else some ⟨gz,oz+18,none⟩)=ao:=⟨_,rfl⟩
 have g:=fun n=>row_take (rx.drewN n) 16 cx (by omega)
 have h:=fun n=>row_take (rz.drewN n) 16 cz (by omega)
 have i:=fun n=>(rx.drewN n).behind 18 hx hxc ax hax
 have l:=fun n=>(rz.drewN n).behind 18 hz hzc az haz
 have b:=ki (fun r hr n=>equal_any _ _ _ _ _ _ _ _ _ (g n) (h n) r hr)
 have d:=ki (fun r hr n=>equal_any _ _ _ _ _ _ _ _ _ (i n) (l n) r hr)
 have f:=ki (fun W=>checkat_any k W)
 rw[show cn k=16 by unfold cn;rw[if_pos hk]] at f
 clear g h i l rx rz hk
 unfold maxLen at hxm hzm
 have q:(16:Int)≤(cx:Int):=by omega
 have s:(16:Int)≤(cz:Int):=by omega
 have t:(18:Int)≤(lx:Int):=by omega
 have v:(18:Int)≤(lz:Int):=by omega
 have x:(lx:Int)≤(cx:Int):=by omega
 have y:(lz:Int)≤(cz:Int):=by omega
 by_cases h1:xs.take 16=zs.take 16
 ·have a:=ki (b.o true (by simp[h1]))
  have o:=ki (d.o r (by rw[← hr];simp[h1]))
  clear b d h1 hr
  go_enter Tryz.func247,Tryz.ntmps247
  go_upto_region 3 with (go_at_call 213;refine (f.o _).mono ?_;rintro e w' ⟨rfl,hw⟩;rw[hw];clear hw w')
  go_quiet (first
   | (go_at_call 191;with_reducible refine Calls.quiet_of_same (a.o _))
   | (go_at_call 191;with_reducible refine Calls.quiet_of_same (o.o _)))
  go_wp2
  go_ret
  exact ⟨rfl,_,rfl⟩
 ·have a:=ki (b.o false (by simp[h1]))
  have p:r=false:=by
   cases r
   ·rfl
   ·exact absurd (hr.2 rfl).1 h1
  subst p
  clear b d h1 hr
  go_enter Tryz.func247,Tryz.ntmps247
  go_upto_region 3 with (go_at_call 213;refine (f.o _).mono ?_;rintro e w' ⟨rfl,hw⟩;rw[hw];clear hw w')
  go_quiet (first|(go_at_call 191;with_reducible refine Calls.quiet_of_same (a.o _)))
  go_wp2
  go_ret
  exact ⟨rfl,_,rfl⟩
theorem alike_udp (k:Int) (hk:¬ k=6) (gx ox lx cx gz oz lz cz:Nat) (xs zs:List Int) (w:World) (rx:Row8 w (some ⟨gx,ox,none⟩) lx cx xs) (rz:Row8 w (some ⟨gz,oz,none⟩) lz cz zs) (hx:8≤lx) (hz:8≤lz) (hxc:lx≤cx) (hzc:lz≤cz) (hxm:cx≤maxLen) (hzm:cz≤maxLen)
  (r:Bool) (hr:(xs.take 6=zs.take 6∧xs.drop 8=zs.drop 8)↔r=true) :
  Calls Tryz.prog 247 #[.int .i64 k,.slice (some ⟨gx,ox,none⟩) lx cx,.slice (some ⟨gz,oz,none⟩) lz cz] w fun e w'=>e=.returned (.bool r)∧∃ n,w'=w.drewN n:=by
 obtain ⟨ax,hax⟩:∃ ao,(if cx=8 then some (⟨gx,ox,none⟩:Addr) else some ⟨gx,ox+8,none⟩)=ao:=⟨_,rfl⟩
 obtain ⟨az,haz⟩:∃ ao,(if cz=8 then some (⟨gz,oz,none⟩:Addr) else some ⟨gz,oz+8,none⟩)=ao:=⟨_,rfl⟩
 have g:=fun n=>row_take (rx.drewN n) 6 cx (by omega)
 have h:=fun n=>row_take (rz.drewN n) 6 cz (by omega)
 have i:=fun n=>(rx.drewN n).behind 8 hx hxc ax hax
 have l:=fun n=>(rz.drewN n).behind 8 hz hzc az haz
 have b:=ki (fun r hr n=>equal_any _ _ _ _ _ _ _ _ _ (g n) (h n) r hr)
 have d:=ki (fun r hr n=>equal_any _ _ _ _ _ _ _ _ _ (i n) (l n) r hr)
 have f:=ki (fun W=>checkat_any k W)
 rw[show cn k=6 by unfold cn;rw[if_neg hk]] at f
 clear g h i l rx rz hk
 unfold maxLen at hxm hzm
 have q:(6:Int)≤(cx:Int):=by omega
 have s:(6:Int)≤(cz:Int):=by omega
 have t:(8:Int)≤(lx:Int):=by omega
 have v:(8:Int)≤(lz:Int):=by omega
 have x:(lx:Int)≤(cx:Int):=by omega
 have y:(lz:Int)≤(cz:Int):=by omega
 by_cases h1:xs.take 6=zs.take 6
 ·have a:=ki (b.o true (by simp[h1]))
  have o:=ki (d.o r (by rw[← hr];simp[h1]))
  clear b d h1 hr
  go_enter Tryz.func247,Tryz.ntmps247
  go_upto_region 3 with (go_at_call 213;refine (f.o _).mono ?_;rintro e w' ⟨rfl,hw⟩;rw[hw];clear hw w')
  go_quiet (first
   | (go_at_call 191;with_reducible refine Calls.quiet_of_same (a.o _))
   | (go_at_call 191;with_reducible refine Calls.quiet_of_same (o.o _)))
  go_wp2
  go_ret
  exact ⟨rfl,_,rfl⟩
 ·have a:=ki (b.o false (by simp[h1]))
  have p:r=false:=by
   cases r
   ·rfl
   ·exact absurd (hr.2 rfl).1 h1
  subst p
  clear b d h1 hr
  go_enter Tryz.func247,Tryz.ntmps247
  go_upto_region 3 with (go_at_call 213;refine (f.o _).mono ?_;rintro e w' ⟨rfl,hw⟩;rw[hw];clear hw w')
  go_quiet (first|(go_at_call 191;with_reducible refine Calls.quiet_of_same (a.o _)))
  go_wp2
  go_ret
  exact ⟨rfl,_,rfl⟩
theorem alike_any (k:Int) (gx ox lx cx gz oz lz cz:Nat) (xs zs:List Int) (w:World) (rx:Row8 w (some ⟨gx,ox,none⟩) lx cx xs) (rz:Row8 w (some ⟨gz,oz,none⟩) lz cz zs) (hx:hn k≤lx) (hz:hn k≤lz) (hxc:lx≤cx) (hzc:lz≤cz) (hxm:cx≤maxLen) (hzm:cz≤maxLen)
  (r:Bool) (hr:(xs.take (cn k)=zs.take (cn k)∧xs.drop (cn k+2)=zs.drop (cn k+2))↔r=true) :
  Calls Tryz.prog 247 #[.int .i64 k,.slice (some ⟨gx,ox,none⟩) lx cx,.slice (some ⟨gz,oz,none⟩) lz cz] w fun e w'=>e=.returned (.bool r)∧Below w.heap.size w w':=by
 have a:∀ n,Below w.heap.size w (w.drewN n):=fun n=>⟨rfl,rfl,rfl,Nat.le_refl _,fun _ _=>rfl⟩
 by_cases hk:k=6
 ·have b:cn k=16:=by unfold cn;rw[if_pos hk]
  have d:hn k=20:=by unfold hn;rw[if_pos hk]
  rw[b] at hr
  exact (alike_tcp k hk gx ox lx cx gz oz lz cz xs zs w rx rz (by omega) (by omega) hxc hzc hxm hzm r hr).mono fun e w' ⟨h1,n,h2⟩=>⟨h1,by rw[h2];exact a n⟩
 ·have b:cn k=6:=by unfold cn;rw[if_neg hk]
  have d:hn k=8:=by unfold hn;rw[if_neg hk]
  rw[b] at hr
  exact (alike_udp k hk gx ox lx cx gz oz lz cz xs zs w rx rz (by omega) (by omega) hxc hzc hxm hzm r hr).mono fun e w' ⟨h1,n,h2⟩=>⟨h1,by rw[h2];exact a n⟩
def rdz (k:Int) (zs:List Int):List Int:=if k=6 then [k,num zs 2,num (zs.drop 2) 2,num (zs.drop 4) 4,num (zs.drop 8) 4,num (zs.drop 13) 1,num (zs.drop 14) 2] else [k,num zs 2,num (zs.drop 2) 2,0,0,0,0]
theorem read_any (k:Int) (g off len cap:Nat) (zs:List Int) (w:World) (hr:Row8 w (some ⟨g,off,none⟩) len cap zs) (hH:hn k≤len) (hM:len≤320) (hcl:len≤cap) (hcm:cap≤maxLen) :
  Calls Tryz.prog 246 #[.int .i64 k,.slice (some ⟨g,off,none⟩) len cap] w fun e w'=>∃ a' c',e=.returned (.agg (sgC (rdz k zs) a' (len - hn k) c'))∧Own w.heap.size w' (.slice a' (len - hn k) c') (zs.drop (hn k))∧Below w.heap.size w w':=by
 by_cases hk:k=6
 ·have a:hn k=20:=by unfold hn;rw[if_pos hk]
  have b:rdz k zs=[k,num zs 2,num (zs.drop 2) 2,num (zs.drop 4) 4,num (zs.drop 8) 4,num (zs.drop 13) 1,num (zs.drop 14) 2]:=if_pos hk
  rw[a,b]
  exact read_tcp k g off len cap zs w hr hk (by omega) hM hcl hcm
 ·have a:hn k=8:=by unfold hn;rw[if_neg hk]
  have b:rdz k zs=[k,num zs 2,num (zs.drop 2) 2,0,0,0,0]:=if_neg hk
  rw[a,b]
  exact read_udp k g off len cap zs w hr hk (by omega) hM hcl hcm
end
section
def sg0:Value:=.agg (sgC [] none 0 0)
theorem dec_len (k over:Int) (a:Option Addr) (len cap:Nat) (w:World) (hk:kn k=true) (ho:up 65535 over=true) (h:len < hn k∨hn k+300 < len) (_hm:len≤maxLen) :
  Calls Tryz.prog 193 #[.int .i64 k,.slice a len cap,.int .i64 over] w fun e w'=>e=.returned (.tuple #[sg0,err 5])∧Below w.heap.size w w':=by
 unfold maxLen at _hm
 have b:=ki (al_below w (.cells zero7 39))
 have d:=ki (zero_new w)
 unfold zero7 at b d
 have l:=ki (fun W=>head_any k W)
 have hh:=hn_le k
 generalize hn k=H at l hh h
 have o:(H:Int)≤20:=by omega
 rcases h with h|h
 case' inl=>have n:(len:Int) < (H:Int):=by omega
 case' inr =>
  have n:¬ (len:Int) < (H:Int):=by omega
  have p:(H:Int)+300 < (len:Int):=by omega
 all_goals
  clear h
  go_enter Tryz.func193,Tryz.ntmps193
  go_upto_region 1 with fail
  generalize w.alloc _=W at b d ⊢
  go_upto_region 3 with (first
   | (go_at_call 245;refine (known_any _ _).mono ?_;rintro e w' ⟨rfl,rfl⟩)
   | (go_at_call 210;(with_reducible refine (upto1b _ _ _).mono ?_);rintro e q ⟨rfl,f⟩;replace b:=ki (bt b.o f);replace d:=ki (d.o.kept f);clear f))
  go_wp2_with (first
   | (go_at_call 208;refine (l.o _).mono ?_;rintro e w' ⟨rfl,rfl⟩)
   | (refine at_store rfl (.tmp 6) (.tmp 35) rfl rfl d.o [] none 0 0 rfl ?_;intro r i g;replace b:=ki (g.below b.o (Nat.le_refl _));replace i:=ki i;clear g))
  try simp only[Exit.inBlock,Exit.then]
  refine bodyPost_ret (results_sg rfl _ _ w.heap.size [] none 0 0 rfl i.o) rfl ?_
  exact ⟨rfl,b.o⟩
theorem dec_encbad (k over:Int) (g off len cap:Nat) (zs:List Int) (w:World) (hr:Row8 w (some ⟨g,off,none⟩) len cap zs) (hk:kn k=true) (ho:up 65535 over=true) (h1:hn k≤len) (h2:len≤hn k+300) (hcl:len≤cap) (hcm:cap≤maxLen) (hs:sf (rdz k zs) (len - hn k)≠0) :
  Calls Tryz.prog 193 #[.int .i64 k,.slice (some ⟨g,off,none⟩) len cap,.int .i64 over] w fun e w'=>e=.returned (.tuple #[sg0,err 5])∧Below w.heap.size w w':=by
 have a:=ki (al_below w (.cells zero7 39))
 have d:=ki (zero_new w)
 have v:=ki zero_new
 unfold zero7 at a d v
 have A:=ki (fun W=>head_any k W)
 have hh:=hn_le k
 have x:=ki hr
 have b:=ki (fun W (h:Row8 W (some ⟨g,off,none⟩) len cap zs)=>read_any k g off len cap zs W h h1 (by omega) hcl hcm)
 have i:=ki (fun a' c' W=>enc_err (rdz k zs) a' (len - hn k) c' over W (by unfold maxLen at *;omega) _ rfl hs)
 unfold err at i
 generalize sf (rdz k zs) (len - hn k)=E at i hs
 generalize hn k=H at A hh h1 h2 b i
 generalize rdz k zs=Z at b i
 have y:=hcm
 unfold maxLen at y
 have D:(H:Int)≤20:=by omega
 have F:¬ (len:Int) < (H:Int):=by omega
 have G:¬ (H:Int)+300 < (len:Int):=by omega
 clear hr hs
 go_enter Tryz.func193,Tryz.ntmps193
 go_upto_region 1 with fail
 generalize w.alloc _=W0 at a d ⊢
 go_upto_region 3 with (first
  | (go_at_call 245;refine (known_any _ _).mono ?_;rintro e w' ⟨rfl,rfl⟩)
  | (go_at_call 210;(with_reducible refine (upto1b _ _ _).mono ?_);rintro e B ⟨rfl,l⟩;replace a:=ki (bt a.o l);replace d:=ki (d.o.kept l);clear l))
 go_upto_region 5 with (go_at_call 208;refine (A.o _).mono ?_;rintro e w' ⟨rfl,rfl⟩)
 go_upto_region 6 with (first
  | (go_at_call 246;refine (b.o _ (x.o.below a.o)).mono ?_;rintro e n ⟨C,c1,rfl,r,o⟩;replace a:=ki (bt a.o o);replace d:=ki (d.o.kept o);clear o r)
  | (refine at_store rfl (.tmp 8) (.tmp 39) rfl rfl (v.o n) Z C (len - H) c1 rfl ?_;intro B s f;replace s:=ki s;replace f:=ki f))
 have p:Below n.heap.size n B:=f.o.below (al_below n _) (Nat.le_refl _)
 replace a:=ki (bt a.o p)
 replace d:=ki (d.o.kept p)
 clear p f v b
 generalize n.heap.size=B1 at s ⊢
 go_upto_region 7 with (first
  | (refine at_load rfl (.tmp 8) rfl rfl s.o ?_)
  | (go_at_call 150;refine (i.o C c1 _).mono ?_;rintro e I ⟨rfl,q⟩;replace a:=ki (bt a.o q);replace d:=ki (d.o.kept q);clear q))
 go_wp2_with (first|(refine at_store rfl (.tmp 6) (.tmp 55) rfl rfl d.o [] none 0 0 rfl ?_;intro J z t;replace a:=ki (t.below a.o (Nat.le_refl _));replace z:=ki z;clear t))
 try simp only[Exit.inBlock,Exit.then]
 refine bodyPost_ret (results_sg rfl _ _ w.heap.size [] none 0 0 rfl z.o) rfl ?_
 exact ⟨rfl,a.o⟩
theorem dec_raw (k over:Int) (g off len cap:Nat) (zs:List Int) (w:World) (hr:Row8 w (some ⟨g,off,none⟩) len cap zs) (hk:kn k=true) (ho:up 65535 over=true) (h1:hn k≤len) (h2:len≤hn k+300) (hcl:len≤cap) (hcm:cap≤maxLen) (hs:sf (rdz k zs) (len - hn k)=0)
  (r1 r2:Bool) (hr1:((eb (rdz k zs) over (zs.drop (hn k))).take (cn k)=zs.take (cn k)∧(eb (rdz k zs) over (zs.drop (hn k))).drop (cn k+2)=zs.drop (cn k+2))↔r1=true) (hr2:eb (rdz k zs) over (zs.drop (hn k))=zs↔r2=true) :
  Calls Tryz.prog 193 #[.int .i64 k,.slice (some ⟨g,off,none⟩) len cap,.int .i64 over] w fun e w'=>((r1=false∧e=.returned (.tuple #[sg0,err 5]))∨(r1=true∧r2=false∧e=.returned (.tuple #[sg0,err 6])) ∨
   (r1=true∧r2=true∧∃ a' c',e=.returned (.tuple #[.agg (sgC (rdz k zs) a' (len - hn k) c'),.nilIface])∧Row8 w' a' (len - hn k) c' (zs.drop (hn k))))∧Below w.heap.size w w':=by
 have M:=hr.1
 have b:=ki (al_below w (.cells zero7 39))
 have f:=ki (zero_new w)
 have N:=ki zero_new
 unfold zero7 at b f N
 have P:=ki (fun W=>head_any k W)
 have hh:=hn_le k
 have hp:8≤hn k:=by unfold hn;split <;> omega
 have p:=ki hr
 have l:=ki (fun W (h:Row8 W (some ⟨g,off,none⟩) len cap zs)=>read_any k g off len cap zs W h h1 (by omega) hcl hcm)
 have y:=ki (fun a' c' W (h:Row8 W a' (len - hn k) c' (zs.drop (hn k)))=>enc_ok (rdz k zs) a' (len - hn k) c' over (zs.drop (hn k)) W hs ho h)
 have I:el (rdz k zs) 0=k:=by unfold rdz;split <;> rfl
 have z:=ki (show (eb (rdz k zs) over (zs.drop (hn k))).length=len by rw[eb_len,I,List.length_drop,M];omega)
 have A:=ki (fun gx cx W rx rz hc hm=>alike_any k gx 0 len cx g off len cap (eb (rdz k zs) over (zs.drop (hn k))) zs W rx rz h1 h1 hc hcl hm hcm r1 hr1)
 have s:=ki hr2
 clear hr hr1 hr2 hs I
 generalize eb (rdz k zs) over (zs.drop (hn k))=EB at y z A s
 generalize zs.drop (hn k)=D at l y ⊢
 generalize hn k=H at P hh h1 h2 l y hp ⊢
 generalize rdz k zs=Z at l y ⊢
 have O:=hcm
 unfold maxLen at O
 have U:(H:Int)≤20:=by omega
 have X:¬ (len:Int) < (H:Int):=by omega
 have Y:¬ (H:Int)+300 < (len:Int):=by omega
 go_enter Tryz.func193,Tryz.ntmps193
 go_upto_region 1 with fail
 generalize w.alloc _=W0 at b f ⊢
 go_upto_region 3 with (first
  | (go_at_call 245;refine (known_any _ _).mono ?_;rintro e w' ⟨rfl,rfl⟩)
  | (go_at_call 210;(with_reducible refine (upto1b _ _ _).mono ?_);rintro e Q ⟨rfl,B⟩;replace b:=ki (bt b.o B);replace f:=ki (f.o.kept B);clear B))
 go_upto_region 5 with (go_at_call 208;refine (P.o _).mono ?_;rintro e w' ⟨rfl,rfl⟩)
 have V:=ki f.o.lt
 go_upto_region 6 with (first
  | (go_at_call 246;refine (l.o _ (p.o.below b.o)).mono ?_;rintro e C ⟨E,c1,rfl,a,F⟩;replace b:=ki (bt b.o F);replace f:=ki (f.o.kept F);replace a:=ki a;clear F)
  | (refine at_store rfl (.tmp 8) (.tmp 39) rfl rfl (N.o C) Z E (len - H) c1 rfl ?_;intro Q q t;replace q:=ki q;replace t:=ki t))
 have x:Below C.heap.size C Q:=t.o.below (al_below C _) (Nat.le_refl _)
 replace b:=ki (bt b.o x)
 replace f:=ki (f.o.kept x)
 replace a:=ki (a.o.kept x)
 clear x t N l
 generalize C.heap.size=B1 at q ⊢
 go_upto_region 7 with (first
  | (refine at_load rfl (.tmp 8) rfl rfl q.o ?_)
  | (go_at_call 150;refine (y.o E c1 _ a.o.toRow).mono ?_;rintro e w3 ⟨v,rfl,J,r⟩;obtain ⟨gE,cE,hv,G,K,-,-,d⟩:=J.form (by rw[z.o];omega);rw[z.o] at G d hv;subst hv;replace b:=ki (bt b.o r);replace f:=ki (f.o.kept r);replace q:=ki (q.o.kept r);replace a:=ki (a.o.kept r);replace d:=ki d;clear r J))
 cases r1
 ·go_wp2_with (first
   | (go_at_call 247;refine (A.o _ _ _ d.o (p.o.below b.o) G K).mono ?_;rintro e S ⟨rfl,i⟩;replace b:=ki (bt b.o i);replace f:=ki (f.o.kept i);clear i)
   | (refine at_store rfl (.tmp 6) (.tmp 55) rfl rfl f.o [] none 0 0 rfl ?_;intro R o n;replace b:=ki (n.below b.o (Nat.le_refl _));replace o:=ki o;clear n))
  try simp only[Exit.inBlock,Exit.then]
  refine bodyPost_ret (results_sg rfl _ _ w.heap.size [] none 0 0 rfl o.o) rfl ?_
  exact ⟨rfl,b.o⟩
 ·go_upto_region 9 with (go_at_call 247;refine (A.o _ _ _ d.o (p.o.below b.o) G K).mono ?_;rintro e S ⟨rfl,i⟩;replace b:=ki (bt b.o i);replace f:=ki (f.o.kept i);replace q:=ki (q.o.kept i);replace a:=ki (a.o.kept i);replace d:=ki (d.o.below i);clear i)
  have L:=ki (equal_any _ _ _ _ _ _ _ _ _ d.o (p.o.below b.o) r2 s.o)
  cases r2
  ·go_wp2_with (first
    | (go_at_call 191;refine L.o.mono ?_;rintro e T ⟨rfl,rfl⟩)
    | (refine at_store rfl (.tmp 6) (.tmp 61) rfl rfl f.o [] none 0 0 rfl ?_;intro R o n;replace b:=ki (n.below b.o (Nat.le_refl _));replace o:=ki o;clear n))
   try simp only[Exit.inBlock,Exit.then]
   refine bodyPost_ret (results_sg rfl _ _ w.heap.size [] none 0 0 rfl o.o) rfl ?_
   exact ⟨rfl,b.o⟩
  ·go_wp2_with (first
    | (go_at_call 191;refine L.o.mono ?_;rintro e T ⟨rfl,rfl⟩)
    | (refine at_load rfl (.tmp 8) rfl rfl q.o ?_)
    | (refine at_store rfl (.tmp 6) (.tmp 63) rfl rfl f.o Z E (len - H) c1 rfl ?_;intro R o n;replace b:=ki (n.below b.o (Nat.le_refl _));replace a:=ki (a.o.only n (f.o.ne a.o));replace o:=ki o;clear n))
   try simp only[Exit.inBlock,Exit.then]
   refine bodyPost_ret (results_sg rfl _ _ w.heap.size Z E (len - H) c1 rfl o.o) rfl ?_
   exact ⟨⟨E,c1,rfl,a.o.toRow⟩,b.o⟩
end
section
theorem up_iff (m n:Int):up m n=true↔0≤n∧n≤m:=by unfold up;simp
theorem ups2 (m x y:Int):ups m [x,y]=true↔(0≤x∧x≤m)∧(0≤y∧y≤m):=by simp[ups,up_iff]
theorem ups4 (m x y u v:Int):ups m [x,y,u,v]=true↔(0≤x∧x≤m)∧(0≤y∧y≤m)∧(0≤u∧u≤m)∧(0≤v∧v≤m):=by simp[ups,up_iff]
theorem os_iff (z:List Int):os z=true↔((0≤el z 3∧el z 3≤4294967295)∧(0≤el z 4∧el z 4≤4294967295))∧(0≤el z 5∧el z 5≤31)∧(0≤el z 6∧el z 6≤65535):=by
 unfold os
 simp only[Bool.and_eq_true,ups2,up_iff,and_assoc]
theorem kn_iff (k:Int):kn k=true↔k=6∨k=17:=by simp[kn]
def Okg (z:List Int) (len:Nat):Prop:=(0≤el z 1∧el z 1≤65535)∧(0≤el z 2∧el z 2≤65535)∧len≤300 ∧
 ((el z 0=6∧(0≤el z 3∧el z 3≤4294967295)∧(0≤el z 4∧el z 4≤4294967295)∧(0≤el z 5∧el z 5≤31)∧(0≤el z 6∧el z 6≤65535)) ∨
  (el z 0=17∧el z 3=0∧el z 4=0∧el z 5=0∧el z 6=0))
theorem sf_iff (z:List Int) (len:Nat):sf z len=0↔Okg z len:=by
 unfold sf Okg
 by_cases h1:kn (el z 0)=true∧ups 65535 [el z 1,el z 2]=true
 ·rw[if_neg (by simp[h1])]
  have k:=(kn_iff _).1 h1.1
  have l:=(ups2 _ _ _).1 h1.2
  by_cases h6:el z 0=6
  ·rw[if_pos h6]
   have f:=os_iff z
   cases hos:os z
   ·rw[hos] at f
    simp only[if_true]
    refine ⟨fun h=>by omega,fun ⟨_,_,_,h⟩=>?_⟩
    rcases h with ⟨_,a,b,c,d⟩|⟨e,_⟩
    ·exact absurd (f.2 ⟨⟨a,b⟩,c,d⟩) (by decide)
    ·omega
   ·have g:=f.1 hos
    simp only[Bool.true_eq_false,if_false]
    split <;> omega
  ·rw[if_neg h6]
   have hn:=ups4 0 (el z 3) (el z 4) (el z 5) (el z 6)
   cases hun:ups 0 [el z 3,el z 4,el z 5,el z 6]
   ·rw[hun] at hn
    simp only[if_true]
    refine ⟨fun h=>by omega,fun ⟨_,_,_,h⟩=>?_⟩
    rcases h with ⟨e,_⟩|⟨_,a,b,c,d⟩
    ·exact absurd e h6
    ·exact absurd (hn.2 (by omega)) (by decide)
   ·have i:=hn.1 hun
    simp only[Bool.true_eq_false,if_false]
    split <;> omega
 ·rw[if_pos (by
   cases h2:kn (el z 0)
   ·rfl
   ·cases h3:ups 65535 [el z 1,el z 2]
    ·rfl
    ·exact absurd ⟨h2,h3⟩ h1)]
  refine ⟨fun h=>by omega,fun ⟨a,b,_,h⟩=>absurd ⟨(kn_iff _).2 (by omega),(ups2 _ _ _).2 ⟨a,b⟩⟩ h1⟩
end
section
theorem enc_form (z:List Int) (a:Option Addr) (len cap:Nat) (over:Int) (data:List Int) (w:World) (h:Okg z len) (ho:up 65535 over=true) (hr:Row8 w a len cap data) :
  Calls Tryz.prog 150 #[.agg (sgC z a len cap),.int .i64 over] w fun e w'=>∃ g c,e=.returned (.tuple #[.slice (some ⟨g,0,none⟩) (hn (el z 0)+len) c,.nilIface])∧hn (el z 0)+len≤c∧c≤maxLen∧w.heap.size≤g∧Row8 w' (some ⟨g,0,none⟩) (hn (el z 0)+len) c (eb z over data)∧Below w.heap.size w w':=by
 refine (enc_ok z a len cap over data w ((sf_iff _ _).2 h) ho hr).mono ?_
 rintro e w' ⟨v,rfl,b,hb⟩
 have d:(eb z over data).length=hn (el z 0)+len:=by rw[eb_len,hr.1]
 have hp:0 < hn (el z 0):=by unfold hn;split <;> omega
 obtain ⟨g,c,rfl,f,i,k,_,h4⟩:=b.form (by omega)
 rw[d] at f h4 ⊢
 exact ⟨g,c,rfl,f,i,k,h4,hb⟩
theorem eb_oct (z:List Int) (over:Int) (data:List Int) (hd:SM.Oct data) (ho:up 65535 over=true):SM.Oct (eb z over data):=by
 have hc:=sck_in z over data hd ho
 exact SM.oct_set _ (SM.oct_set _ (ub_oct z data hd) _ _ (by omega) (by omega)) _ _ (by omega) (by omega)
end
end Go.Proofs.YtgcojnlngchllaaGreatDoor
