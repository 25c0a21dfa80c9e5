/- An address of eight numbers as a value of the program's, and Check by a contract; slices of bytes that the call itself has made; Bytes by contracts. In by contracts: the first bits of two addresses, held side by side; two addresses held side by side. Package embed's small ones by contracts: known, empty, Check; Check4 of package addr; where a four's bytes stand. The range over places, by the iterator's own contract: the four places behind so many bytes, the ninth byte left out. Into by contracts. -/
import Derived.Test.YtgcojnlngchllaaGreatDoorProg
import Derived.WalkKit
import Derived.LaidEql
import Derived.Laws.AppendOwnNone
import Derived.Laws.CopyOwn
import Derived.RangeFuncNested
import Derived.RangeFuncBound
import Derived.Shelf.RegionOpen
import Derived.OwnWalkIn
import Derived.LoopNIn
import Derived.LoopIn
namespace Go.Proofs.YtgcojnlngchllaaGreatDoor
open Go.RowKit
set_option linter.unusedVariables false
set_option maxRecDepth 100000
set_option maxHeartbeats 40000000
namespace Em
open Go.RowKit Go.Shelf
variable {z:List Int} {B:Nat} {e:TypeId} {v:Value} {w w':World}
theorem add_pl (b o j:Nat):(⟨b,o,none⟩:Addr).add j=⟨b,o+j,none⟩:=by simp[Addr.add]
def el (z:List Int) (k:Nat):Int:=z.getD k 0
theorem ki {p:Prop} (h:p):Hid p:=h
theorem bt {a b c:World} (h1:Below a.heap.size a b) (h2:Below b.heap.size b c):Below a.heap.size a c:=h1.trans (h2.mono h1.size)
def six (z:List Int):Value:=.agg #[.int .i64 (el z 0),.int .i64 (el z 1),.int .i64 (el z 2),.int .i64 (el z 3),.int .i64 (el z 4),.int .i64 (el z 5),.int .i64 (el z 6),.int .i64 (el z 7)]
def sixC (z:List Int):Array Value:=#[.int .i64 (el z 0),.int .i64 (el z 1),.int .i64 (el z 2),.int .i64 (el z 3),.int .i64 (el z 4),.int .i64 (el z 5),.int .i64 (el z 6),.int .i64 (el z 7)]
theorem six_index (z:List Int) (k:Nat) (hk:k < 8) (w:World):(Instr.index 23 (six z) (.int .i64 k)).run Tryz.prog w=.ok (.int .i64 (el z k)) w:=by
 rcases (by omega:k=0∨k=1∨k=2∨k=3∨k=4∨k=5∨k=6∨k=7) with rfl|rfl|rfl|rfl|rfl|rfl|rfl|rfl <;> kernel_rfl
def Word (n:Int):Prop:=0≤n∧n≤65535
def Ok6 (z:List Int):Prop:=∀ k,k < 8→Word (el z k)
theorem check_any (z:List Int) (w:World):Calls Tryz.prog 70 #[six z] w fun e w'=>((Ok6 z∧e=.returned .nilIface)∨(¬ Ok6 z∧e=.returned (.iface 28 (.int .i64 1))))∧w'=w.alloc (.cells (sixC z) 23):=by
 unfold six
 go_enter Tryz.func70,Tryz.ntmps70
 go_wp2
 go_loop [6] (fun t=>∃ k:Nat,k≤8∧(∀ j,j < k→Word (el z j))∧t=.int .i64 k) (fun t=>8 - (intOf t).toNat)
 case atStart=>exact ⟨0,by omega,fun i hi=>absurd hi (by omega),rfl⟩
 case round =>
  obtain ⟨k,d,a,rfl⟩:=hrel
  have HI:=ki a
  clear a
  by_cases hlt:k < 8
  ·have hi:=fun w=>six_index z k hlt w
   unfold six at hi
   generalize hzk:el z k=x at hi
   have b:=ki hzk
   clear hzk
   by_cases hz0:x < 0
   ·go_wp2
    go_ret
    exact ⟨.inr ⟨fun h=>absurd (h k hlt).1 (by rw[b.out];omega),rfl⟩,rfl⟩
   ·by_cases hz1:65535 < x
    ·go_wp2
     go_ret
     exact ⟨.inr ⟨fun h=>absurd (h k hlt).2 (by rw[b.out];omega),rfl⟩,rfl⟩
    ·go_wp2
     go_round
     case rel=>exact ⟨k+1,by omega,fun i hi=>if h:i=k then by subst h;rw[b.out];exact ⟨by omega,by omega⟩ else HI.out i (by omega),by go_num⟩
     case measure=>simp[intOf];omega
  ·go_wp2
   go_ret
   obtain rfl:k=8:=by omega
   exact ⟨.inl ⟨HI.out,rfl⟩,rfl⟩
theorem check_ok (z:List Int) (w:World) (h:Ok6 z):Calls Tryz.prog 70 #[six z] w fun e w'=>e=.returned .nilIface∧w'=w.alloc (.cells (sixC z) 23) :=
 (check_any z w).mono fun e w' hh=>by
  rcases hh with ⟨⟨_,he⟩|⟨hn,_⟩,hw⟩
  ·exact ⟨he,hw⟩
  ·exact absurd h hn
theorem check_bad (z:List Int) (w:World) (h:¬ Ok6 z):Calls Tryz.prog 70 #[six z] w fun e w'=>e=.returned (.iface 28 (.int .i64 1))∧w'=w.alloc (.cells (sixC z) 23) :=
 (check_any z w).mono fun e w' hh=>by
  rcases hh with ⟨⟨hn,_⟩|⟨_,he⟩,hw⟩
  ·exact absurd hn h
  ·exact ⟨he,hw⟩
def SixIn (B:Nat) (z:List Int) (w:World):Prop:=w.heap[B]? = some (.cells (sixC z) 23 (0,0))
theorem SixIn.lt (h:SixIn B z w):B < w.heap.size:=(Array.getElem?_eq_some_iff.1 h).1
theorem SixIn.kept (h:SixIn B z w) (hb:Below w.heap.size w w'):SixIn B z w':=(hb.block B h.lt).trans h
theorem SixIn.facts (h:SixIn B z w) (j:Nat) (hj:j < 8):w.cell? ⟨B,j,none⟩=some (.int .i64 (el z j))∧w.frozen? ⟨B,j,none⟩=false∧w.setCell ⟨B,j,none⟩ (.int .i64 (el z j))=w:=by
 unfold SixIn at h
 have hc:(sixC z)[j]? = some (.int .i64 (el z j)):=by
  rcases (by omega:j=0∨j=1∨j=2∨j=3∨j=4∨j=5∨j=6∨j=7) with rfl|rfl|rfl|rfl|rfl|rfl|rfl|rfl <;> rfl
 refine ⟨by simp[World.cell?,h,hc],by simp[World.frozen?,h],?_⟩
 rw[setCell_eq_setRow w B j (sixC z) 23 (0,0) _ h]
 have:(sixC z).setIfInBounds j (.int .i64 (el z j))=sixC z:=by
  rcases (by omega:j=0∨j=1∨j=2∨j=3∨j=4∨j=5∨j=6∨j=7) with rfl|rfl|rfl|rfl|rfl|rfl|rfl|rfl <;> rfl
 rw[this]
 exact setRow_self w B (sixC z) _ _ h
def noughts (w:World):World:=w.alloc (.cells #[.int .i64 0,.int .i64 0,.int .i64 0,.int .i64 0,.int .i64 0,.int .i64 0,.int .i64 0,.int .i64 0] 23)
theorem noughts_in (w:World):SixIn w.heap.size [] (noughts w):=by
 unfold SixIn noughts
 show (w.heap.push _)[w.heap.size]? = _
 rw[Array.getElem?_push_size]
 rfl
def SixAll (B:Nat) (z:List Int) (w:World):Prop :=
 (w.cell? ⟨B,0,none⟩=some (.int .i64 (el z 0))∧w.frozen? ⟨B,0,none⟩=false∧w.setCell ⟨B,0,none⟩ (.int .i64 (el z 0))=w) ∧
 (w.cell? ⟨B,1,none⟩=some (.int .i64 (el z 1))∧w.frozen? ⟨B,1,none⟩=false∧w.setCell ⟨B,1,none⟩ (.int .i64 (el z 1))=w) ∧
 (w.cell? ⟨B,2,none⟩=some (.int .i64 (el z 2))∧w.frozen? ⟨B,2,none⟩=false∧w.setCell ⟨B,2,none⟩ (.int .i64 (el z 2))=w) ∧
 (w.cell? ⟨B,3,none⟩=some (.int .i64 (el z 3))∧w.frozen? ⟨B,3,none⟩=false∧w.setCell ⟨B,3,none⟩ (.int .i64 (el z 3))=w) ∧
 (w.cell? ⟨B,4,none⟩=some (.int .i64 (el z 4))∧w.frozen? ⟨B,4,none⟩=false∧w.setCell ⟨B,4,none⟩ (.int .i64 (el z 4))=w) ∧
 (w.cell? ⟨B,5,none⟩=some (.int .i64 (el z 5))∧w.frozen? ⟨B,5,none⟩=false∧w.setCell ⟨B,5,none⟩ (.int .i64 (el z 5))=w) ∧
 (w.cell? ⟨B,6,none⟩=some (.int .i64 (el z 6))∧w.frozen? ⟨B,6,none⟩=false∧w.setCell ⟨B,6,none⟩ (.int .i64 (el z 6))=w) ∧
 (w.cell? ⟨B,7,none⟩=some (.int .i64 (el z 7))∧w.frozen? ⟨B,7,none⟩=false∧w.setCell ⟨B,7,none⟩ (.int .i64 (el z 7))=w)
theorem SixIn.all (h:SixIn B z w):SixAll B z w :=
 ⟨h.facts 0 (by omega),h.facts 1 (by omega),h.facts 2 (by omega),h.facts 3 (by omega),h.facts 4 (by omega),h.facts 5 (by omega),h.facts 6 (by omega),h.facts 7 (by omega)⟩
theorem six_new (z:List Int) (w:World):SixIn w.heap.size z (w.alloc (.cells #[.int .i64 (el z 0),.int .i64 (el z 1),.int .i64 (el z 2),.int .i64 (el z 3),.int .i64 (el z 4),.int .i64 (el z 5),.int .i64 (el z 6),.int .i64 (el z 7)] 23)):=by
 unfold SixIn
 show (w.heap.push _)[w.heap.size]? = _
 rw[Array.getElem?_push_size]
 rfl
theorem SixIn.set (h:SixIn B z w) (k:Nat) (hk:k < 8) (v:Int) (z':List Int) (hz:∀ j,j < 8→el z' j=if j=k then v else el z j):SixIn B z' (w.setCell ⟨B,k,none⟩ (.int .i64 v)):=by
 have e:=setCell_eq_setRow w B k (sixC z) 23 (0,0) (.int .i64 v) h
 have a:=setRow_heap w B (sixC z) ((sixC z).setIfInBounds k (.int .i64 v)) 23 (0,0) h
 unfold SixIn
 rw[e,a]
 congr 2
 have b:=hz 0 (by omega);have d:=hz 1 (by omega);have f:=hz 2 (by omega);have g:=hz 3 (by omega);have h4:=hz 4 (by omega);have i:=hz 5 (by omega);have l:=hz 6 (by omega);have n:=hz 7 (by omega)
 unfold sixC
 rcases (by omega:k=0∨k=1∨k=2∨k=3∨k=4∨k=5∨k=6∨k=7) with rfl|rfl|rfl|rfl|rfl|rfl|rfl|rfl <;> simp[b,d,f,g,h4,i,l,n]
theorem SixIn.other (h:SixIn B z w) (p:Addr) (hp:B≠p.block) (v:Value):SixIn B z (w.setCell p v):=(Below.heap_setCell w p v B hp).trans h
def OwnG (e:TypeId) (base:Nat) (w:World) (v:Value) (xs:List Value):Prop:=w.ownsRow base e 1 v xs.length xs
theorem OwnG.nil (e:TypeId) (base:Nat) (w:World):OwnG e base w (.slice none 0 0) []:=World.ownsRow_nil _ _ _ _
theorem OwnG.base {base:Nat} {xs:List Value} (h:OwnG e base w v xs):∀ k,v.ownBlock=some k→base≤k:=by
 intro k a
 rcases h.2 with ⟨rfl,_⟩|⟨g,cap,cur,rfl,hb,_⟩
 ·simp[Value.ownBlock] at a
 ·have:g=k:=by simpa [Value.ownBlock] using a
  omega
theorem OwnG.kept {base:Nat} {xs:List Value} (h:OwnG e base w v xs) (hb:Below w.heap.size w w'):OwnG e base w' v xs:=by
 refine ⟨h.1,?_⟩
 rcases h.2 with h2|⟨g,cap,cur,rfl,hb',hg,rest⟩
 ·exact .inl h2
 ·exact .inr ⟨g,cap,cur,rfl,hb',by rw[hb.block g (Array.getElem?_eq_some_iff.1 hg).1];exact hg,rest⟩
theorem OwnG.other {base:Nat} {xs:List Value} (h:OwnG e base w v xs) {row:Option Nat} (hg:w.grownBy w' row) (hne:v.ownBlock=none∨v.ownBlock≠row):OwnG e base w' v xs:=World.ownsRow.kept h hg hne
theorem Tryz.infoByte:(Tryz.prog.info? 5).map (fun i=>(i.zero,i.size,i.bytes))=some (some (.int .u8 0),1,1):=by kernel_rfl
theorem app_byte {ops:Array Oper} {rest:List Oper} {o:Oper} {a:Act} {Q:Exit→Act→World→Prop} (hgd:o.guard=none) (s x:Operand)
  (ho:o.op=.call { callee:=.builtin .append,args:=#[s,x],argTypes:=#[37,37] })
  (base:Nat) (v:Value) (xs:List Value) (hs:a.eval s=v) (hown:OwnG 5 base w v xs) (B m:Nat) (ys:List Value) (hx:a.eval x=.slice (some ⟨B,0,none⟩) m m) (hm:ys.length=m)
  (hc:∀ (j:Nat) u,ys[j]? = some u→w.cell? ⟨B,j,none⟩=some u) (h1:∀ u ∈ ys,u.oneCell'=true) (hlen:xs.length+m≤4000000) (hbase:base≤w.heap.size)
  (h:∀ v' w',OwnG 5 base w' v' (xs++ys)→w.grownBy w' v.ownBlock→wpList Tryz.prog ops Q rest (a.put o.dst v') w'):wpList Tryz.prog ops Q (o::rest) a w:=by
 obtain ⟨f,g,b,d,e⟩:=info_parts Tryz.infoByte
 refine wpList_append_own _ hgd s x 37 ho base 5 f (.int .u8 0) 1 1 Tryz.underlying37 g b d e rfl (by decide) v xs.length xs hs hown ⟨B,0,none⟩ m m ys hx (by omega) ?_ h1 (by unfold maxLen;omega) (by omega) hbase ?_
 ·intro j u i
  rw[add_pl,Nat.zero_add]
  exact hc j u i
 ·intro v' w' k l _
  refine h v' w' ?_ l
  unfold OwnG
  rw[List.length_append,hm]
  exact k
def by16 (z:List Int) (k:Nat):List Int:=(List.range k).flatMap fun j=>[el z j / 256,el z j % 256]
theorem by16_succ (z:List Int) (k:Nat):by16 z (k+1)=by16 z k++[el z k / 256,el z k % 256]:=by
 simp[by16,List.range_succ]
theorem by16_len (z:List Int) (k:Nat):(by16 z k).length=2*k:=by
 induction k with
 | zero=>rfl
 | succ k ih=>rw[by16_succ];simp[ih];omega
def u8s (l:List Int):List Value:=l.map (Value.int .u8)
theorem bytes_bad (z:List Int) (w:World) (h:¬ Ok6 z):Calls Tryz.prog 126 #[six z] w fun e w'=>e=.returned (.tuple #[.slice none 0 0,.iface 28 (.int .i64 1)])∧Below w.heap.size w w':=by
 have a:=fun w=>check_bad z w h
 unfold six sixC at a
 unfold six
 go_enter Tryz.func126,Tryz.ntmps126
 go_wp2_with (go_at_call 70;refine (a _).mono ?_;rintro e b ⟨rfl,rfl⟩)
 go_ret2
 exact ⟨rfl,((Below.refl _ _).alloc (Nat.le_refl _) _).alloc (by simp) _⟩
theorem bytes_ok (z:List Int) (w:World) (hz:Ok6 z):Calls Tryz.prog 126 #[six z] w fun e w'=>∃ v,e=.returned (.tuple #[v,.nilIface])∧OwnG 5 w.heap.size w' v (u8s (by16 z 8))∧Below w.heap.size w w':=by
 have r:=fun w=>check_ok z w hz
 unfold six sixC at r
 unfold six
 have a:Below w.heap.size w ((w.alloc (.cells #[.int .i64 (el z 0),.int .i64 (el z 1),.int .i64 (el z 2),.int .i64 (el z 3),.int .i64 (el z 4),.int .i64 (el z 5),.int .i64 (el z 6),.int .i64 (el z 7)] 23)).alloc (.cells #[.int .i64 (el z 0),.int .i64 (el z 1),.int .i64 (el z 2),.int .i64 (el z 3),.int .i64 (el z 4),.int .i64 (el z 5),.int .i64 (el z 6),.int .i64 (el z 7)] 23)):=((Below.refl _ _).alloc (Nat.le_refl _) _).alloc (by simp) _
 have b:=(six_new z w).kept ((Below.refl _ _).alloc (Nat.le_refl _) (.cells #[.int .i64 (el z 0),.int .i64 (el z 1),.int .i64 (el z 2),.int .i64 (el z 3),.int .i64 (el z 4),.int .i64 (el z 5),.int .i64 (el z 6),.int .i64 (el z 7)] 23))
 obtain ⟨W,hW⟩:∃ W,W=(w.alloc (.cells #[.int .i64 (el z 0),.int .i64 (el z 1),.int .i64 (el z 2),.int .i64 (el z 3),.int .i64 (el z 4),.int .i64 (el z 5),.int .i64 (el z 6),.int .i64 (el z 7)] 23)).alloc (.cells #[.int .i64 (el z 0),.int .i64 (el z 1),.int .i64 (el z 2),.int .i64 (el z 3),.int .i64 (el z 4),.int .i64 (el z 5),.int .i64 (el z 6),.int .i64 (el z 7)] 23):=⟨_,rfl⟩
 rw[← hW] at a b
 obtain ⟨L,M,s,t,y⟩:=info_parts Tryz.infoByte
 obtain ⟨A,g,q,l⟩:=run_make_own (P:=Tryz.prog) W w.heap.size 37 5 L _ 1 Tryz.underlying37 M s t .i64 .i64 16 (by rw[y];omega) (by simp[maxLen]) a.size
 have B:=a.grown l a.size (fun k h=>by cases h)
 have C:SixIn w.heap.size z A:=(l.block _ b.lt (by simp)).trans b
 have N:(Instr.makeSlice 37 (.int .i64 0) (.int .i64 16)).run Tryz.prog W=.ok (.slice (some ⟨W.heap.size,0,none⟩) 0 16) A:=g
 have O:=ki hW
 have Q:=fun j hj=>(C.facts j hj).1
 clear hW g
 go_enter Tryz.func126,Tryz.ntmps126
 go_wp2_with (go_at_call 70;refine (r _).mono ?_;rintro e T ⟨rfl,rfl⟩;rw[← O.out])
 go_loopw [5,15] (fun v i wr=>∃ k:Nat,k≤8∧i=.int .i64 k∧Hid (OwnG 5 w.heap.size wr v (u8s (by16 z k)))∧Hid (Below w.heap.size w wr)) (fun _ i _=>8 - (intOf i).toNat)
 case atStart=>exact ⟨0,by omega,rfl,q,B⟩
 case round =>
  obtain ⟨k,U,rfl,D,E⟩:=hrel
  clear Q
  by_cases hlt:k < 8
  ·have n:=six_index z k hlt
   unfold six at n
   have F:=hz k hlt
   have G:=ki (by16_succ z k)
   have d:=by16_len z k
   have H:=ki (show (u8s (by16 z k)).length=2*k by unfold u8s;rw[List.length_map,d])
   clear d
   generalize el z k=x at n F G
   obtain ⟨R,S⟩:=F
   have o:Below wr.heap.size wr (wr.alloc (.cells #[.int .u8 (x / 256),.int .u8 (x % 256)] 5)):=(Below.refl _ _).alloc (Nat.le_refl _) _
   have p:=ki (D.out.kept o)
   have f:=ki (bt E.out o)
   go_wp2_with (at_builtin;refine app_byte rfl (.tmp 18) (.tmp 24) rfl w.heap.size _ (u8s (by16 z k)) rfl p.out wr.heap.size 2 [.int .u8 (x / 256),.int .u8 (x % 256)] rfl rfl (fun j u hu=>by match j with|0=>simp at hu;subst hu;simp|1=>simp at hu;subst hu;simp|j+2=>simp at hu) (fun u hu=>by simp at hu;rcases hu with rfl|rfl <;> rfl) (by rw[H.out];omega) f.out.size ?_;intro V w' I J)
   have K:=ki (f.out.grown J f.out.size (p.out.base))
   go_roundw
   case rel =>
    refine ⟨k+1,by omega,by go_num,?_,K⟩
    rw[G.out]
    unfold u8s
    rw[List.map_append]
    exact I
   case measure=>simp[intOf];omega
  ·obtain rfl:k=8:=by omega
   go_wp2
   go_ret2
   exact ⟨_,rfl,D.out,E.out⟩
end Em
namespace Em
open Go.RowKit Go.Shelf
theorem eq_agg (x0 x1 x2 x3 x4 x5 x6 x7 y0 y1 y2 y3 y4 y5 y6 y7:Int) (w:World):(Op.equalIn 10000 23 (.agg #[.int .i64 x0,.int .i64 x1,.int .i64 x2,.int .i64 x3,.int .i64 x4,.int .i64 x5,.int .i64 x6,.int .i64 x7]) (.agg #[.int .i64 y0,.int .i64 y1,.int .i64 y2,.int .i64 y3,.int .i64 y4,.int .i64 y5,.int .i64 y6,.int .i64 y7])).run Tryz.prog w=.ok (x0 == y0 && x1 == y1 && x2 == y2 && x3 == y3 && x4 == y4 && x5 == y5 && x6 == y6 && x7 == y7) w:=by
 have a:=Tryz.underlying3
 have b:=Tryz.isAgg3
 have d:=Tryz.sizeOf3
 rw[show (10000:Nat)=9999+1 from rfl,Op.equalIn]
 simp only[Sem.run_bind,run_underlying Tryz.underlying23,Result.andThen_ok]
 simp only[Std.Legacy.Range.forIn_eq_forIn_range',Std.Legacy.Range.size,Nat.sub_zero,Nat.add_sub_cancel,Nat.div_one,List.range'_succ,List.range'_zero,List.forIn_cons,List.forIn_nil]
 go_simp
 by_cases h0:x0=y0
 case neg=>simp[h0]
 by_cases h1:x1=y1
 case neg=>simp[h0,h1]
 by_cases h2:x2=y2
 case neg=>simp[h0,h1,h2]
 by_cases h3:x3=y3
 case neg=>simp[h0,h1,h2,h3]
 by_cases h4:x4=y4
 case neg=>simp[h0,h1,h2,h3,h4]
 by_cases h5:x5=y5
 case neg=>simp[h0,h1,h2,h3,h4,h5]
 by_cases h6:x6=y6
 case neg=>simp[h0,h1,h2,h3,h4,h5,h6]
 by_cases h7:x7=y7
 case neg=>simp[h0,h1,h2,h3,h4,h5,h6,h7]
 simp[h0,h1,h2,h3,h4,h5,h6,h7]
def eqz (a b:List Int):Bool:=el a 0 == el b 0 && el a 1 == el b 1 && el a 2 == el b 2 && el a 3 == el b 3 && el a 4 == el b 4 && el a 5 == el b 5 && el a 6 == el b 6 && el a 7 == el b 7
theorem eqz_iff (a b:List Int):eqz a b=true↔∀ j,j < 8→el a j=el b j:=by
 unfold eqz
 simp only[Bool.and_eq_true,beq_iff_eq]
 refine ⟨fun ⟨⟨⟨⟨⟨⟨⟨h0,h1⟩,h2⟩,h3⟩,h4⟩,h5⟩,h6⟩,h7⟩ j hj=>?_,fun h=>⟨⟨⟨⟨⟨⟨⟨h 0 (by omega),h 1 (by omega)⟩,h 2 (by omega)⟩,h 3 (by omega)⟩,h 4 (by omega)⟩,h 5 (by omega)⟩,h 6 (by omega)⟩,h 7 (by omega)⟩⟩
 rcases (by omega:j=0∨j=1∨j=2∨j=3∨j=4∨j=5∨j=6∨j=7) with rfl|rfl|rfl|rfl|rfl|rfl|rfl|rfl <;> assumption
theorem eq_six (a b:List Int) (w:World):(Op.equalIn 10000 23 (.agg #[.int .i64 (el a 0),.int .i64 (el a 1),.int .i64 (el a 2),.int .i64 (el a 3),.int .i64 (el a 4),.int .i64 (el a 5),.int .i64 (el a 6),.int .i64 (el a 7)]) (.agg #[.int .i64 (el b 0),.int .i64 (el b 1),.int .i64 (el b 2),.int .i64 (el b 3),.int .i64 (el b 4),.int .i64 (el b 5),.int .i64 (el b 6),.int .i64 (el b 7)])).run Tryz.prog w=.ok (eqz a b) w:=eq_agg _ _ _ _ _ _ _ _ _ _ _ _ _ _ _ _ w
theorem clamp16 (a:Int):(if 16 < if a < 0 then 0 else a then 16 else if a < 0 then 0 else a)=min (max a 0) 16:=by
 split <;> split at*<;> omega
def shf (n:Int) (k:Nat):Nat:=(16 - min (max (n - 16*(k:Int)) 0) 16).toNat
def fel (z:List Int) (n:Int) (k:Nat):Int:=el z k / (2:Int) ^ shf n k
def fz (z:List Int) (n:Int) (k:Nat):List Int:=(List.range 8).map fun j=>if j < k then fel z n j else el z j
theorem el_fz (z:List Int) (n:Int) (k j:Nat) (hj:j < 8):el (fz z n k) j=if j < k then fel z n j else el z j:=by
 simp[el,fz,List.getD,hj]
theorem first_any (z:List Int) (n:Int) (w:World) (h0:0≤n) (h1:n≤128) (hz:Ok6 z):Calls Tryz.prog 131 #[six z,.int .i64 n] w fun e w'=>e=.returned (six (fz z n 8))∧Below w.heap.size w w':=by
 unfold six
 go_enter Tryz.func131,Tryz.ntmps131
 go_wp2
 go_loopw [7] (fun t wr=>∃ k:Nat,k≤8∧t=.int .i64 k∧Hid (SixIn w.heap.size (fz z n k) wr)∧Hid (SixIn (w.heap.size+1) [] wr)∧Below w.heap.size w wr) (fun t _=>8 - (intOf t).toNat)
 case atStart =>
  refine ⟨0,by omega,rfl,?_,?_,?_⟩
  ·have e:SixIn w.heap.size (fz z n 0) ((w.alloc (.cells (sixC z) 23)).alloc (.cells #[.int .i64 0,.int .i64 0,.int .i64 0,.int .i64 0,.int .i64 0,.int .i64 0,.int .i64 0,.int .i64 0] 23)):=by
    have h8:SixIn w.heap.size z (w.alloc (.cells (sixC z) 23)):=by
     unfold SixIn
     show (w.heap.push _)[w.heap.size]? = _
     rw[Array.getElem?_push_size]
    have i:=h8.kept ((Below.refl _ _).alloc (Nat.le_refl _) (.cells #[.int .i64 0,.int .i64 0,.int .i64 0,.int .i64 0,.int .i64 0,.int .i64 0,.int .i64 0,.int .i64 0] 23))
    have o:sixC (fz z n 0)=sixC z:=by
     unfold sixC
     simp[el_fz]
    unfold SixIn at i ⊢
    rw[o];exact i
   exact e
  ·have:=noughts_in (w.alloc (.cells (sixC z) 23))
   unfold noughts at this
   simp only[World.size_alloc] at this
   exact this
  ·exact ((Below.refl _ _).alloc (Nat.le_refl _) _).alloc (by simp) _
 case round =>
  obtain ⟨k,r,rfl,f,g,l⟩:=hrel
  by_cases hlt:k < 8
  ·have hc:=(f.out.facts k hlt).1
   rw[el_fz z n k k hlt,if_neg (by omega)] at hc
   have s:=(f.out.facts k hlt).2.1
   have q:=hz k hlt
   have a:=ki (f.out.set k hlt (fel z n k) (fz z n (k+1)) (fun j hj=>by
    rw[el_fz z n (k+1) j hj,el_fz z n k j hj]
    by_cases e:j=k
    ·subst e;rw[if_pos (by omega),if_pos rfl]
    ·rw[if_neg e]
     by_cases h:j < k
     ·rw[if_pos h,if_pos (by omega)]
     ·rw[if_neg h,if_neg (by omega)]))
   have b:=ki (g.out.other ⟨w.heap.size,k,none⟩ (by simp) (.int .i64 (fel z n k)))
   have d:=l.setCell (p:=⟨w.heap.size,k,none⟩) (Nat.le_refl _) (.int .i64 (fel z n k))
   unfold fel shf at a b d
   rw[← clamp16] at a b d
   generalize el z k=x at hc q a b d
   go_wp2
   go_roundw
   case rel=>exact ⟨k+1,by omega,by go_num,a,b,d⟩
   case measure=>simp[intOf];omega
  ·obtain rfl:k=8:=by omega
   obtain ⟨⟨y,-,-⟩,⟨A,-,-⟩,⟨B,-,-⟩,⟨C,-,-⟩,⟨D,-,-⟩,⟨E,-,-⟩,⟨F,-,-⟩,⟨G,-,-⟩⟩:=f.out.all
   obtain ⟨⟨c0,f0,-⟩,⟨c1,f1,-⟩,⟨c2,H,-⟩,⟨c3,I,-⟩,⟨c4,J,-⟩,⟨c5,K,-⟩,⟨c6,f6,-⟩,⟨c7,L,-⟩⟩:=g.out.all
   clear f g
   go_wp2
   refine bodyPost_ret (v:=.agg #[.int .i64 (el (fz z n 8) 0),.int .i64 (el (fz z n 8) 1),.int .i64 (el (fz z n 8) 2),.int .i64 (el (fz z n 8) 3),.int .i64 (el (fz z n 8) 4),.int .i64 (el (fz z n 8) 5),.int .i64 (el (fz z n 8) 6),.int .i64 (el (fz z n 8) 7)]) (by simp[results,Tryz.results131,go_sem,c0,c1,c2,c3,c4,c5,c6,c7]) rfl ⟨rfl,?_⟩
   exact (((((((l.setCell (Nat.le_succ _) _).setCell (Nat.le_succ _) _).setCell (Nat.le_succ _) _).setCell (Nat.le_succ _) _).setCell (Nat.le_succ _) _).setCell (Nat.le_succ _) _).setCell (Nat.le_succ _) _).setCell (Nat.le_succ _) _
def inF (a p:List Int) (n:Int):Bool:=(List.range 8).all fun j=>fel a n j == fel p n j
theorem eq_inF (a p:List Int) (n:Int):eqz (fz a n 8) (fz p n 8)=inF a p n:=by
 rw[Bool.eq_iff_iff,eqz_iff]
 unfold inF
 rw[List.all_eq_true]
 constructor
 ·intro h j b
  have:=h j (List.mem_range.1 b)
  rw[el_fz a n 8 j (List.mem_range.1 b),el_fz p n 8 j (List.mem_range.1 b),if_pos (List.mem_range.1 b),if_pos (List.mem_range.1 b)] at this
  simpa using this
 ·intro h j b
  have:=h j (List.mem_range.2 b)
  rw[el_fz a n 8 j b,el_fz p n 8 j b,if_pos b,if_pos b]
  simpa using this
theorem in_ok (a p:List Int) (n:Int) (w:World) (ha:Ok6 a) (hp:Ok6 p) (h0:0≤n) (h1:n≤128):Calls Tryz.prog 75 #[six a,six p,.int .i64 n] w fun e w'=>e=.returned (.tuple #[.bool (inF a p n),.nilIface])∧Below w.heap.size w w':=by
 have d:=fun w=>check_ok a w ha
 have f:=fun w=>check_ok p w hp
 have g:=fun w=>first_any a n w h0 h1 ha
 have h:=fun w=>first_any p n w h0 h1 hp
 have q:SixIn (w.heap.size+1) p ((((w.alloc (.cells #[.int .i64 (el a 0),.int .i64 (el a 1),.int .i64 (el a 2),.int .i64 (el a 3),.int .i64 (el a 4),.int .i64 (el a 5),.int .i64 (el a 6),.int .i64 (el a 7)] 23)).alloc (.cells #[.int .i64 (el p 0),.int .i64 (el p 1),.int .i64 (el p 2),.int .i64 (el p 3),.int .i64 (el p 4),.int .i64 (el p 5),.int .i64 (el p 6),.int .i64 (el p 7)] 23)).alloc (.cells #[.int .i64 (el a 0),.int .i64 (el a 1),.int .i64 (el a 2),.int .i64 (el a 3),.int .i64 (el a 4),.int .i64 (el a 5),.int .i64 (el a 6),.int .i64 (el a 7)] 23)).alloc (.cells #[.int .i64 (el p 0),.int .i64 (el p 1),.int .i64 (el p 2),.int .i64 (el p 3),.int .i64 (el p 4),.int .i64 (el p 5),.int .i64 (el p 6),.int .i64 (el p 7)] 23)) :=
  ((by have:=six_new p (w.alloc (.cells #[.int .i64 (el a 0),.int .i64 (el a 1),.int .i64 (el a 2),.int .i64 (el a 3),.int .i64 (el a 4),.int .i64 (el a 5),.int .i64 (el a 6),.int .i64 (el a 7)] 23));simp only[World.size_alloc] at this;exact this:SixIn (w.heap.size+1) p ((w.alloc (.cells #[.int .i64 (el a 0),.int .i64 (el a 1),.int .i64 (el a 2),.int .i64 (el a 3),.int .i64 (el a 4),.int .i64 (el a 5),.int .i64 (el a 6),.int .i64 (el a 7)] 23)).alloc (.cells #[.int .i64 (el p 0),.int .i64 (el p 1),.int .i64 (el p 2),.int .i64 (el p 3),.int .i64 (el p 4),.int .i64 (el p 5),.int .i64 (el p 6),.int .i64 (el p 7)] 23))).kept ((Below.refl _ _).alloc (Nat.le_refl _) _)).kept ((Below.refl _ _).alloc (Nat.le_refl _) _)
 have s:Below w.heap.size w ((((w.alloc (.cells #[.int .i64 (el a 0),.int .i64 (el a 1),.int .i64 (el a 2),.int .i64 (el a 3),.int .i64 (el a 4),.int .i64 (el a 5),.int .i64 (el a 6),.int .i64 (el a 7)] 23)).alloc (.cells #[.int .i64 (el p 0),.int .i64 (el p 1),.int .i64 (el p 2),.int .i64 (el p 3),.int .i64 (el p 4),.int .i64 (el p 5),.int .i64 (el p 6),.int .i64 (el p 7)] 23)).alloc (.cells #[.int .i64 (el a 0),.int .i64 (el a 1),.int .i64 (el a 2),.int .i64 (el a 3),.int .i64 (el a 4),.int .i64 (el a 5),.int .i64 (el a 6),.int .i64 (el a 7)] 23)).alloc (.cells #[.int .i64 (el p 0),.int .i64 (el p 1),.int .i64 (el p 2),.int .i64 (el p 3),.int .i64 (el p 4),.int .i64 (el p 5),.int .i64 (el p 6),.int .i64 (el p 7)] 23)):=((((Below.refl _ _).alloc (Nat.le_refl _) _).alloc (by simp) _).alloc (by simp;omega) _).alloc (by simp;omega) _
 have i:=eq_six (fz a n 8) (fz p n 8)
 have k:eqz (fz a n 8) (fz p n 8)=inF a p n:=eq_inF a p n
 rw[k] at i
 clear k
 generalize inF a p n=r at i ⊢
 unfold six sixC at d f
 unfold six at g h ⊢
 go_enter Tryz.func75,Tryz.ntmps75
 go_wp2_with (first
  | (go_at_call_of 70 (Value.agg #[.int .i64 (el a 0),.int .i64 (el a 1),.int .i64 (el a 2),.int .i64 (el a 3),.int .i64 (el a 4),.int .i64 (el a 5),.int .i64 (el a 6),.int .i64 (el a 7)]);refine (d _).mono ?_;rintro e t ⟨rfl,rfl⟩)
  | (go_at_call_of 70 (Value.agg #[.int .i64 (el p 0),.int .i64 (el p 1),.int .i64 (el p 2),.int .i64 (el p 3),.int .i64 (el p 4),.int .i64 (el p 5),.int .i64 (el p 6),.int .i64 (el p 7)]);refine (f _).mono ?_;rintro e t ⟨rfl,rfl⟩))
 go_region_with (first
  | (go_at_call_of 131 (Value.agg #[.int .i64 (el a 0),.int .i64 (el a 1),.int .i64 (el a 2),.int .i64 (el a 3),.int .i64 (el a 4),.int .i64 (el a 5),.int .i64 (el a 6),.int .i64 (el a 7)]);refine (g _).mono ?_;rintro e v ⟨rfl,l⟩;have b:=Below.trans ((Below.refl _ _).drew) l;obtain ⟨⟨x,-,-⟩,⟨y,-,-⟩,⟨z,-,-⟩,⟨A,-,-⟩,⟨B,-,-⟩,⟨C,-,-⟩,⟨D,-,-⟩,⟨E,-,-⟩⟩:=(q.kept b).all)
  | (go_at_call_of 131 (Value.agg #[.int .i64 (el p 0),.int .i64 (el p 1),.int .i64 (el p 2),.int .i64 (el p 3),.int .i64 (el p 4),.int .i64 (el p 5),.int .i64 (el p 6),.int .i64 (el p 7)]);refine (h _).mono ?_;rintro e F ⟨rfl,o⟩))
 all_goals
  go_wp2_with fail
  go_ret2
  exact ⟨rfl,bt s (bt b o)⟩
end Em
namespace Em
open Go.RowKit Go.Shelf
variable {z:List Int}
def LongP (n:Int):Prop:=n=32∨n=40∨n=48∨n=56∨n=64∨n=96
theorem known_yes (n:Int) (w:World) (h:LongP n):Calls Tryz.prog 127 #[.int .i64 n] w fun e w'=>e=.returned (.bool true)∧w'=w:=by
 rcases h with rfl|rfl|rfl|rfl|rfl|rfl
 all_goals
  go_enter Tryz.func127,Tryz.ntmps127
  go_wp2
  go_ret
  exact ⟨rfl,rfl⟩
theorem known_no (n:Int) (w:World) (h:¬ LongP n):Calls Tryz.prog 127 #[.int .i64 n] w fun e w'=>e=.returned (.bool false)∧w'=w:=by
 have a:(n == 32)=false:=by simpa using fun e=>h (.inl e)
 have b:(n == 40)=false:=by simpa using fun e=>h (.inr (.inl e))
 have d:(n == 48)=false:=by simpa using fun e=>h (.inr (.inr (.inl e)))
 have h4:(n == 56)=false:=by simpa using fun e=>h (.inr (.inr (.inr (.inl e))))
 have f:(n == 64)=false:=by simpa using fun e=>h (.inr (.inr (.inr (.inr (.inl e)))))
 have g:(n == 96)=false:=by simpa using fun e=>h (.inr (.inr (.inr (.inr (.inr e)))))
 clear h
 go_enter Tryz.func127,Tryz.ntmps127
 go_wp2
 go_ret
 exact ⟨rfl,rfl⟩
theorem empty_any (g o m c:Nat) (f:Nat→Int) (w:World) (hm:m≤16) (hc:∀ j,j < m→w.cell? ⟨g,o+j,none⟩=some (.int .u8 (f j))) :
  Calls Tryz.prog 128 #[.slice (some ⟨g,o,none⟩) m c] w fun e w'=>(((∀ j,j < m→f j=0)∧e=.returned (.bool true))∨((∃ j,j < m∧f j≠0)∧e=.returned (.bool false)))∧w'=w:=by
 go_enter Tryz.func128,Tryz.ntmps128
 go_wp2
 go_loop [7] (fun t=>∃ k:Nat,k≤m∧Hid (∀ j,j < k→f j=0)∧t=.int .i64 k) (fun t=>m - (intOf t).toNat)
 case atStart=>exact ⟨0,by omega,ki (fun i hi=>absurd hi (by omega)),rfl⟩
 case round =>
  obtain ⟨k,n,HI,rfl⟩:=hrel
  by_cases hlt:k < m
  ·have a:=hc k hlt
   clear hc
   generalize hzk:f k=z at a
   have b:Hid (f k=z):=hzk
   clear hzk
   by_cases hz:z=0
   ·subst hz
    go_wp2
    go_round
    case rel=>exact ⟨k+1,by omega,ki (fun i hi=>if h:i=k then by subst h;exact b.out else HI.out i (by omega)),by go_num⟩
    case measure=>simp[intOf];omega
   ·have l:(z == 0)=false:=by simpa using hz
    have d:=ki hz
    clear hz
    go_wp2
    go_ret
    exact ⟨.inr ⟨⟨k,hlt,by rw[b.out];exact d.out⟩,rfl⟩,rfl⟩
  ·go_wp2
   go_ret
   obtain rfl:k=m:=by omega
   exact ⟨.inl ⟨HI.out,rfl⟩,rfl⟩
def byt (z:List Int) (i:Nat):Int:=if i % 2=0 then el z (i / 2) / 256 else el z (i / 2) % 256
theorem by16_at (z:List Int) (i:Nat) (hi:i < 16):(by16 z 8)[i]? = some (byt z i):=by
 rcases (by omega:i=0∨i=1∨i=2∨i=3∨i=4∨i=5∨i=6∨i=7∨i=8∨i=9∨i=10∨i=11∨i=12∨i=13∨i=14∨i=15) with rfl|rfl|rfl|rfl|rfl|rfl|rfl|rfl|rfl|rfl|rfl|rfl|rfl|rfl|rfl|rfl <;> rfl
theorem byt_in (z:List Int) (hz:Ok6 z) (i:Nat) (hi:i < 16):0≤byt z i∧byt z i < 256:=by
 have h:=hz (i / 2) (by omega)
 unfold Word at h
 unfold byt
 split <;> omega
def Bys (z:List Int) (g:Nat) (w:World):Prop:=∀ i,i < 16→w.cell? ⟨g,i,none⟩=some (.int .u8 (byt z i))
theorem own_bys {base:Nat} {w:World} {v:Value} (h:OwnG 5 base w v (u8s (by16 z 8))):∃ g cap,v=.slice (some ⟨g,0,none⟩) 16 cap∧16≤cap∧base≤g∧g < w.heap.size∧Bys z g w:=by
 have b:w.ownsRow base 5 1 v (u8s (by16 z 8)).length (u8s (by16 z 8)):=h
 have a:(u8s (by16 z 8)).length=16:=rfl
 obtain ⟨e,d⟩:=h
 rcases d with ⟨rfl,hn⟩|⟨g,cap,cur,rfl,hb,hg,hcap,rest⟩
 ·rw[a] at hn;omega
 ·rw[a] at hcap
  refine ⟨g,cap,by rw[a],hcap,hb,(Array.getElem?_eq_some_iff.1 hg).1,fun i hi=>?_⟩
  have:=b.cellAt i (by omega)
  rw[this]
  unfold u8s
  rw[List.getElem?_map,by16_at z i hi]
  rfl
def shp (z:List Int) (q:Nat):Bool:=(List.range 16).any fun i=>(i == 8 || decide (q≤i)) && byt z i != 0
theorem shp_no {q:Nat} (h:shp z q=false) (i:Nat) (hi:i < 16) (hq:i=8∨q≤i):byt z i=0:=by
 unfold shp at h
 rw[List.any_eq_false] at h
 have:=h i (List.mem_range.2 hi)
 simp only[Bool.and_eq_true,Bool.or_eq_true,beq_iff_eq,decide_eq_true_eq,bne_iff_ne,ne_eq,not_and,Decidable.not_not] at this
 exact this hq
theorem shp_yes {q:Nat} (i:Nat) (hi:i < 16) (hq:i=8∨q≤i) (hb:byt z i≠0):shp z q=true:=by
 unfold shp
 rw[List.any_eq_true]
 exact ⟨i,List.mem_range.2 hi,by simpa using ⟨hq,hb⟩⟩
def PF (p:List Int) (n:Int) (k:Int):Prop :=
 (¬ Ok6 p∧k=1)∨(Ok6 p∧¬ LongP n∧k=1)∨(Ok6 p∧LongP n∧shp p (n / 8).toNat=true∧k=2)∨(Ok6 p∧LongP n∧shp p (n / 8).toNat=false∧k=0)
def errv (k:Int):Value:=if k=0 then .nilIface else .iface 28 (.int .i64 k)
theorem echeck_bad1 (p:List Int) (n:Int) (w:World) (h:¬ Ok6 p):Calls Tryz.prog 72 #[six p,.int .i64 n] w fun e w'=>e=.returned (.iface 28 (.int .i64 1))∧Below w.heap.size w w':=by
 have a:=fun w=>bytes_bad p w h
 unfold six at a ⊢
 go_enter Tryz.func72,Tryz.ntmps72
 go_wp2_with (go_at_call 126;refine (a _).mono ?_;rintro e d ⟨rfl,b⟩)
 go_ret
 exact ⟨rfl,bt ((Below.refl _ _).alloc (Nat.le_refl _) _) b⟩
theorem echeck_bad2 (p:List Int) (n:Int) (w:World) (h:Ok6 p) (hn:¬ LongP n):Calls Tryz.prog 72 #[six p,.int .i64 n] w fun e w'=>e=.returned (.iface 28 (.int .i64 1))∧Below w.heap.size w w':=by
 have a:=fun w=>bytes_ok p w h
 unfold six at a ⊢
 go_enter Tryz.func72,Tryz.ntmps72
 go_wp2_with (first
  | (go_at_call 126;refine (a _).mono ?_;rintro e d ⟨v,rfl,-,b⟩)
  | (go_at_call 127;refine (known_no _ _ hn).mono ?_;rintro e f ⟨rfl,rfl⟩))
 go_ret
 exact ⟨rfl,bt ((Below.refl _ _).alloc (Nat.le_refl _) _) b⟩
theorem empty_yes (g o m c:Nat) (f:Nat→Int) (w:World) (hm:m≤16) (hc:∀ j,j < m→w.cell? ⟨g,o+j,none⟩=some (.int .u8 (f j))) (h:∀ j,j < m→f j=0) :
  Calls Tryz.prog 128 #[.slice (some ⟨g,o,none⟩) m c] w fun e w'=>e=.returned (.bool true)∧w'=w :=
 (empty_any g o m c f w hm hc).mono fun e w' ⟨hh,hw⟩=>by
  rcases hh with ⟨_,he⟩|⟨⟨j,hj,hn⟩,_⟩
  ·exact ⟨he,hw⟩
  ·exact absurd (h j hj) hn
theorem empty_no (g o m c:Nat) (f:Nat→Int) (w:World) (hm:m≤16) (hc:∀ j,j < m→w.cell? ⟨g,o+j,none⟩=some (.int .u8 (f j))) (h:¬ ∀ j,j < m→f j=0) :
  Calls Tryz.prog 128 #[.slice (some ⟨g,o,none⟩) m c] w fun e w'=>e=.returned (.bool false)∧w'=w :=
 (empty_any g o m c f w hm hc).mono fun e w' ⟨hh,hw⟩=>by
  rcases hh with ⟨hn,_⟩|⟨_,he⟩
  ·exact absurd hn h
  ·exact ⟨he,hw⟩
theorem echeck_shape (p:List Int) (q:Nat) (w:World) (h:Ok6 p) (hn:LongP (8*q)):Calls Tryz.prog 72 #[six p,.int .i64 (8*q)] w fun e w'=>e=.returned (if shp p q then .iface 28 (.int .i64 2) else .nilIface)∧Below w.heap.size w w':=by
 have k:=fun w=>bytes_ok p w h
 have C:q≤12:=by unfold LongP at hn;omega
 have hd:(8*(q:Int)).tdiv 8=q:=by rw[Int.tdiv_eq_ediv_of_nonneg (by omega)];omega
 have r:=ki hn
 clear hn
 unfold six at k ⊢
 by_cases h8:byt p 8=0
 ·by_cases hall:∀ j,j < 16 - q→byt p (q+j)=0
  ·have hs:shp p q=false:=by
    cases e:shp p q
    ·rfl
    ·unfold shp at e
     rw[List.any_eq_true] at e
     obtain ⟨i,A,hb⟩:=e
     rw[List.mem_range] at A
     simp only[Bool.and_eq_true,Bool.or_eq_true,beq_iff_eq,decide_eq_true_eq,bne_iff_ne,ne_eq] at hb
     rcases hb with ⟨rfl|hqi,hb⟩
     ·exact absurd h8 hb
     ·have:=hall (i - q) (by omega)
      rw[show q+(i - q)=i by omega] at this
      exact absurd this hb
   rw[hs]
   have s:=ki hall
   clear hall
   go_enter Tryz.func72,Tryz.ntmps72
   go_wp2_with (first
    | (go_at_call 126;refine (k _).mono ?_;rintro e t ⟨v,rfl,d,a⟩;obtain ⟨g,n,rfl,f,o,y,b⟩:=own_bys d;have c8:=b 8 (by omega);rw[h8] at c8)
    | (go_at_call 127;refine (known_yes _ _ r.out).mono ?_;rintro e l ⟨rfl,rfl⟩)
    | (go_at_call 128;refine (empty_yes g q (16 - q) _ (fun j=>byt p (q+j)) _ (by omega) (fun j hj=>b (q+j) (by omega)) s.out).mono ?_;rintro e l ⟨rfl,rfl⟩))
   go_ret
   exact ⟨rfl,bt ((Below.refl _ _).alloc (Nat.le_refl _) _) a⟩
  ·have hs:shp p q=true:=by
    cases e:shp p q
    ·exact absurd (fun j hj=>shp_no e (q+j) (by omega) (.inr (by omega))) hall
    ·rfl
   rw[hs]
   have s:=ki hall
   clear hall
   go_enter Tryz.func72,Tryz.ntmps72
   go_wp2_with (first
    | (go_at_call 126;refine (k _).mono ?_;rintro e t ⟨v,rfl,d,a⟩;obtain ⟨g,n,rfl,f,o,y,b⟩:=own_bys d;have c8:=b 8 (by omega);rw[h8] at c8)
    | (go_at_call 127;refine (known_yes _ _ r.out).mono ?_;rintro e l ⟨rfl,rfl⟩)
    | (go_at_call 128;refine (empty_no g q (16 - q) _ (fun j=>byt p (q+j)) _ (by omega) (fun j hj=>b (q+j) (by omega)) s.out).mono ?_;rintro e l ⟨rfl,rfl⟩))
   go_ret
   exact ⟨rfl,bt ((Below.refl _ _).alloc (Nat.le_refl _) _) a⟩
 ·have hs:shp p q=true:=shp_yes 8 (by omega) (.inl rfl) h8
  rw[hs]
  have z:(byt p 8 == 0)=false:=by simpa using h8
  generalize hx:byt p 8=x at h8 z
  have B:=ki hx
  clear hx
  go_enter Tryz.func72,Tryz.ntmps72
  go_wp2_with (first
   | (go_at_call 126;refine (k _).mono ?_;rintro e t ⟨v,rfl,d,a⟩;obtain ⟨g,n,rfl,f,o,y,b⟩:=own_bys d;have c8:=b 8 (by omega);rw[B.out] at c8)
   | (go_at_call 127;refine (known_yes _ _ r.out).mono ?_;rintro e l ⟨rfl,rfl⟩))
  go_ret
  exact ⟨rfl,bt ((Below.refl _ _).alloc (Nat.le_refl _) _) a⟩
theorem long_q {n:Int} (h:LongP n):∃ q:Nat,n=8*q∧(n / 8).toNat=q∧4≤q∧q≤12:=⟨(n / 8).toNat,by unfold LongP at h;omega,rfl,by unfold LongP at h;omega,by unfold LongP at h;omega⟩
theorem echeck_any (p:List Int) (n k:Int) (w:World) (h:PF p n k):Calls Tryz.prog 72 #[six p,.int .i64 n] w fun e w'=>e=.returned (errv k)∧Below w.heap.size w w':=by
 rcases h with ⟨h1,rfl⟩|⟨h1,h2,rfl⟩|⟨h1,h2,h3,rfl⟩|⟨h1,h2,h3,rfl⟩
 ·exact echeck_bad1 p n w h1
 ·exact echeck_bad2 p n w h1 h2
 ·obtain ⟨q,rfl,e,_,_⟩:=long_q h2
  rw[e] at h3
  have:=echeck_shape p q w h1 h2
  rw[h3] at this
  exact this
 ·obtain ⟨q,rfl,e,_,_⟩:=long_q h2
  rw[e] at h3
  have:=echeck_shape p q w h1 h2
  rw[h3] at this
  exact this
theorem places_any (n:Int) (w:World):Calls Tryz.prog 198 #[.int .i64 n] w fun e w'=>e=.returned (.func (.func 249) #[] #[.pointer (some ⟨w.heap.size,0,none⟩)])∧w'=w.alloc (.cells #[.int .i64 n] 3):=by
 go_enter Tryz.func198,Tryz.ntmps198
 go_wp2
 go_ret
 exact ⟨rfl,rfl⟩
end Em
namespace Em
open Go.RowKit Go.Shelf
attribute [local go_sem] Oper.semAt_some
theorem opIn_out {F:Fence} {l n:Nat} {P:Program} {o:Oper} {a:Act} {w:World} {K:Act→World→Prop} {Q:Exit→Act→World→Prop} (hd:∀ c,o.op≠.defer c) (h:o.wpIn F n P a w K Q):o.wpIn (F.inRound l) n P a w K Q:=by
 unfold Oper.wpIn at h ⊢
 rw[Oper.semAt_eq _ _ _ hd] at h ⊢
 refine ⟨h.1,?_⟩
 have b:=h.2
 generalize (execOp a.eval o).run P w=r at b ⊢
 cases r with
 | ok x w'=>cases x <;> exact b
 | halt x w'=>cases x <;> exact b
theorem anyIn_out {F:Fence} {l n:Nat} {P:Program} {md:Region.Mode} {ops:Array Oper} {Q:Exit→Act→World→Prop} (hops:∀ (i:Nat) o,ops[i]? = some o→∀ c,o.op≠.defer c) :
  ∀ (fuel:Nat) (listed:Array Bool) (a:Act) (w:World),wpAnyIn F n P md ops Q fuel listed a w→wpAnyIn (F.inRound l) n P md ops Q fuel listed a w:=by
 intro fuel
 induction fuel with
 | zero=>intro listed a w h;exact h
 | succ fuel ih =>
  intro listed a w h
  refine ⟨h.1,fun i hi=>?_⟩
  have b:=wpOpIn_mono (fun a w=>ih (listed.setIfInBounds i true) a w) (h.2 i hi)
  unfold wpOpIn at b ⊢
  split
  ·rename_i e;simpa [e] using b
  ·rename_i o ho
   simp only[ho] at b
   split
   ·rename_i hw;simp only[hw,if_true] at b;exact opIn_out (hops i o ho) b
   ·rename_i hw;simp only[hw] at b;exact b
def noDefer (ops:Array Oper):Bool:=ops.toList.all fun o=>match o.op with | .defer _=>false|_=>true
theorem noDefer_spec {ops:Array Oper} (h:noDefer ops=true):∀ (i:Nat) o,ops[i]? = some o→∀ c,o.op≠.defer c:=by
 intro i o a c e
 unfold noDefer at h
 rw[List.all_eq_true] at h
 have:=h o (Array.mem_toList_iff.2 (Array.mem_of_getElem? a))
 rw[e] at this
 cases this
def pos (q i:Nat):Nat:=if q≤8∧8≤q+i then q+i+1 else q+i
def top (q k:Nat):Nat:=if q≤8∧8 < q+k then q+k+1 else q+k
theorem top_eight {q k:Nat} (h:top q k=8):pos q k=9∧top q (k+1)=10:=by
 unfold top at h ⊢
 unfold pos
 split at h
 ·omega
 ·constructor
  ·rw[if_pos (by omega)];omega
  ·rw[if_pos (by omega)];omega
theorem top_other {q k:Nat} (h:top q k≠8):pos q k=top q k∧top q (k+1)=top q k+1:=by
 unfold top at h ⊢
 unfold pos
 by_cases h1:q≤8∧8 < q+k
 ·rw[if_pos h1] at h
  rw[if_pos (by omega),if_pos h1,if_pos (by omega)]
  omega
 ·rw[if_neg h1] at h
  rw[if_neg h1,if_neg (by omega),if_neg (by omega)]
  omega
theorem top_le (q k:Nat):top q k≤q+k+1:=by unfold top;split <;> omega
def encP (q:Nat) (x:Fin 4):Array Value:=#[.int .i64 (x.val:Int),.int .i64 (pos q x.val:Int)]
def four4:List (Fin 4):=[0,1,2,3]
def first4 (k:Nat):List (Fin 4):=four4.take k
theorem first4_succ (k:Nat) (h:k < 4):first4 (k+1)=first4 k++[⟨k,h⟩]:=by
 rcases (by omega:k=0∨k=1∨k=2∨k=3) with rfl|rfl|rfl|rfl <;> rfl
theorem first4_len (k:Nat) (h:k≤4):(first4 k).length=k:=by
 rcases (by omega:k=0∨k=1∨k=2∨k=3∨k=4) with rfl|rfl|rfl|rfl|rfl <;> rfl
theorem places_in (n:Nat) (l Bn n₀:Nat) (q:Nat) (hq:q≤12) (J Jx:List (Fin 4)→World→Prop) (hn:1≤n)
  (hY:∀ pre x W,J pre W→pre.length < 4→YieldAt Fence.wide (n - 1) Tryz.prog l (encP q x) W fun e W' =>
   (e=.returned (.bool true)∧J (pre++[x]) W'∧Below n₀ W W')∨(e=.returned (.bool false)∧Jx (pre++[x]) W'))
  (W:World) (hBn:W.cell? ⟨Bn,0,none⟩=some (.int .i64 (8*q))) (h0:J [] W) :
  CallsIn Fence.wide n Tryz.prog 249 #[.func (.yield l) #[] #[],.pointer (some ⟨Bn,0,none⟩)] W fun e W'=>(∃ v,e=.returned v) ∧
   ((∃ ys,ys=four4∧J ys W')∨(∃ pre,True∧Jx pre W')):=by
 have hd:(8*(q:Int)).tdiv 8=q:=by rw[Int.tdiv_eq_ediv_of_nonneg (by omega)];omega
 refine callsIn_of_wp Tryz.func249 rfl trivial ?_ rfl
 simp only[Tryz.ntmps249,List.size_toArray,List.length_cons,List.length_nil,Nat.reduceAdd,Nat.reduceSub,Array.replicate_succ,Array.replicate_zero,List.push_toArray,List.append_toArray,List.nil_append,List.cons_append]
 gi_wp2
 gi_loopw [3,7] (fun p i wr=>∃ (k P:Nat),k≤4∧P≤17∧Hid (P=top q k)∧p=.int .i64 P∧i=.int .i64 k∧Hid (J (first4 k) wr)) (fun _ i _=>4 - (intOf i).toNat)
 case atStart=>exact ⟨0,q,by omega,by omega,ki (by unfold top;rw[if_neg (by omega)];rfl),rfl,rfl,h0⟩
 case round =>
  obtain ⟨k,P,z,D,o,rfl,rfl,t⟩:=hrel
  clear hd hBn
  by_cases hlt:k < 4
  ·obtain ⟨E,A,w,body,r,s⟩:=hY (first4 k) ⟨k,hlt⟩ wr t.out (by rw[first4_len k z];exact hlt)
   dsimp only[encP] at r
   rw[← first4_succ k hlt] at s
   by_cases h8:P=8
   ·have b:=top_eight (o.out.symm.trans h8)
    have g:=ki b.2
    rw[b.1,show ((9:Nat):Int)=9 from rfl] at r
    subst h8
    clear b
    gi_wp2
    refine s.mono ?_
    rintro e B (⟨rfl,f,y⟩|⟨rfl,d⟩)
    ·have a:=ki f
     gi_wp2
     go_roundw
     case rel=>exact ⟨k+1,10,by omega,by omega,ki g.out.symm,by go_num,by go_num,a⟩
     case measure=>simp[intOf];omega
    ·have a:=ki d
     gi_wp2
     refine bodyPost_ret (results_none rfl _ _ _) rfl ?_
     exact ⟨⟨_,rfl⟩,.inr ⟨_,trivial,a.out⟩⟩
   ·have b:=top_other (fun h=>h8 (o.out.trans h))
    rw[← o.out] at b
    have g:=ki b.2
    rw[b.1] at r
    clear b
    have C:((P:Int) == 8)=false:=by rw[beq_eq_false_iff_ne];omega
    gi_wp2
    refine s.mono ?_
    rintro e B (⟨rfl,f,y⟩|⟨rfl,d⟩)
    ·have a:=ki f
     gi_wp2
     go_roundw
     case rel=>exact ⟨k+1,P+1,by omega,by have:=top_le q (k+1);rw[g.out] at this;omega,ki g.out.symm,by go_num,by go_num,a⟩
     case measure=>simp[intOf];omega
    ·have a:=ki d
     gi_wp2
     refine bodyPost_ret (results_none rfl _ _ _) rfl ?_
     exact ⟨⟨_,rfl⟩,.inr ⟨_,trivial,a.out⟩⟩
  ·obtain rfl:k=4:=by omega
   gi_wp2
   go_end0
   exact ⟨⟨_,rfl⟩,.inl ⟨_,rfl,t.out⟩⟩
theorem places_stops (n:Nat) (hn:1≤n) (Bn n₀ q:Nat) (hq:q≤12) (w:World) (hBn:Bn < w.heap.size) (hc:w.cell? ⟨Bn,0,none⟩=some (.int .i64 (8*q))) :
  SeqStopsK Fence.wide n Tryz.prog 249 #[.pointer (some ⟨Bn,0,none⟩)] (encP q) (Below n₀) (fun ys=>ys=four4) (fun _=>True) 4 w:=fun l J Jx W hW _ _ hY h0 =>
 places_in n l Bn n₀ q hq J Jx hn hY W ((hW.cell (p:=⟨Bn,0,none⟩) hBn).trans hc) h0
end Em
namespace Em
open Go.RowKit Go.Shelf
attribute [local go_sem] Oper.semAt_some
theorem pos_lt {q i:Nat} (hq:q≤12) (hi:i < 4):pos q i < 16:=by unfold pos;split <;> omega
end Em
end Go.Proofs.YtgcojnlngchllaaGreatDoor
