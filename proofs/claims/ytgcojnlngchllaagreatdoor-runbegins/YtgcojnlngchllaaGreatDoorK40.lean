/- An address of eight numbers as a value of the program's, and Check by a contract; slices of bytes that the call itself has made; Bytes by contracts. Package embed's small ones by contracts: known, empty, Check; Check4 of package addr; where a four's bytes stand. -/
import Derived.Test.YtgcojnlngchllaaGreatDoorProg
import Derived.WalkKit
import Derived.LaidEql
import Derived.Laws.AppendOwnNone
import Derived.Laws.CopyOwn
import Derived.RangeFuncNested
import Derived.RangeFuncBound
import Derived.Shelf.RegionOpen
import Derived.OwnWalkIn
import Derived.LoopNIn
import Derived.LoopIn
namespace Go.Proofs.YtgcojnlngchllaaGreatDoor
open Go.RowKit
set_option linter.unusedVariables false
set_option maxRecDepth 100000
set_option maxHeartbeats 40000000
namespace Em2
open Go.RowKit Go.Shelf
variable {z:List Int} {B:Nat} {e:TypeId} {v:Value} {w w':World}
theorem add_pl (b o j:Nat):(⟨b,o,none⟩:Addr).add j=⟨b,o+j,none⟩:=by simp[Addr.add]
def el (z:List Int) (k:Nat):Int:=z.getD k 0
theorem ki {p:Prop} (h:p):Hid p:=h
theorem bt {a b c:World} (h1:Below a.heap.size a b) (h2:Below b.heap.size b c):Below a.heap.size a c:=h1.trans (h2.mono h1.size)
def six (z:List Int):Value:=.agg #[.int .i64 (el z 0),.int .i64 (el z 1),.int .i64 (el z 2),.int .i64 (el z 3),.int .i64 (el z 4),.int .i64 (el z 5),.int .i64 (el z 6),.int .i64 (el z 7)]
def sixC (z:List Int):Array Value:=#[.int .i64 (el z 0),.int .i64 (el z 1),.int .i64 (el z 2),.int .i64 (el z 3),.int .i64 (el z 4),.int .i64 (el z 5),.int .i64 (el z 6),.int .i64 (el z 7)]
theorem six_index (z:List Int) (k:Nat) (hk:k < 8) (w:World):(Instr.index 23 (six z) (.int .i64 k)).run Tryz.prog w=.ok (.int .i64 (el z k)) w:=by
 rcases (by omega:k=0∨k=1∨k=2∨k=3∨k=4∨k=5∨k=6∨k=7) with rfl|rfl|rfl|rfl|rfl|rfl|rfl|rfl <;> kernel_rfl
def Word (n:Int):Prop:=0≤n∧n≤65535
def Ok6 (z:List Int):Prop:=∀ k,k < 8→Word (el z k)
theorem check_any (z:List Int) (w:World):Calls Tryz.prog 70 #[six z] w fun e w'=>((Ok6 z∧e=.returned .nilIface)∨(¬ Ok6 z∧e=.returned (.iface 28 (.int .i64 1))))∧w'=w.alloc (.cells (sixC z) 23):=by
 unfold six
 go_enter Tryz.func70,Tryz.ntmps70
 go_wp2
 go_loop [6] (fun t=>∃ k:Nat,k≤8∧(∀ j,j < k→Word (el z j))∧t=.int .i64 k) (fun t=>8 - (intOf t).toNat)
 case atStart=>exact ⟨0,by omega,fun i hi=>absurd hi (by omega),rfl⟩
 case round =>
  obtain ⟨k,d,a,rfl⟩:=hrel
  have HI:=ki a
  clear a
  by_cases hlt:k < 8
  ·have hi:=fun w=>six_index z k hlt w
   unfold six at hi
   generalize hzk:el z k=x at hi
   have b:=ki hzk
   clear hzk
   by_cases hz0:x < 0
   ·go_wp2
    go_ret
    exact ⟨.inr ⟨fun h=>absurd (h k hlt).1 (by rw[b.out];omega),rfl⟩,rfl⟩
   ·by_cases hz1:65535 < x
    ·go_wp2
     go_ret
     exact ⟨.inr ⟨fun h=>absurd (h k hlt).2 (by rw[b.out];omega),rfl⟩,rfl⟩
    ·go_wp2
     go_round
     case rel=>exact ⟨k+1,by omega,fun i hi=>if h:i=k then by subst h;rw[b.out];exact ⟨by omega,by omega⟩ else HI.out i (by omega),by go_num⟩
     case measure=>simp[intOf];omega
  ·go_wp2
   go_ret
   obtain rfl:k=8:=by omega
   exact ⟨.inl ⟨HI.out,rfl⟩,rfl⟩
theorem check_ok (z:List Int) (w:World) (h:Ok6 z):Calls Tryz.prog 70 #[six z] w fun e w'=>e=.returned .nilIface∧w'=w.alloc (.cells (sixC z) 23) :=
 (check_any z w).mono fun e w' hh=>by
  rcases hh with ⟨⟨_,he⟩|⟨hn,_⟩,hw⟩
  ·exact ⟨he,hw⟩
  ·exact absurd h hn
def SixIn (B:Nat) (z:List Int) (w:World):Prop:=w.heap[B]? = some (.cells (sixC z) 23 (0,0))
theorem SixIn.lt (h:SixIn B z w):B < w.heap.size:=(Array.getElem?_eq_some_iff.1 h).1
theorem SixIn.kept (h:SixIn B z w) (hb:Below w.heap.size w w'):SixIn B z w':=(hb.block B h.lt).trans h
theorem SixIn.facts (h:SixIn B z w) (j:Nat) (hj:j < 8):w.cell? ⟨B,j,none⟩=some (.int .i64 (el z j))∧w.frozen? ⟨B,j,none⟩=false∧w.setCell ⟨B,j,none⟩ (.int .i64 (el z j))=w:=by
 unfold SixIn at h
 have hc:(sixC z)[j]? = some (.int .i64 (el z j)):=by
  rcases (by omega:j=0∨j=1∨j=2∨j=3∨j=4∨j=5∨j=6∨j=7) with rfl|rfl|rfl|rfl|rfl|rfl|rfl|rfl <;> rfl
 refine ⟨by simp[World.cell?,h,hc],by simp[World.frozen?,h],?_⟩
 rw[setCell_eq_setRow w B j (sixC z) 23 (0,0) _ h]
 have:(sixC z).setIfInBounds j (.int .i64 (el z j))=sixC z:=by
  rcases (by omega:j=0∨j=1∨j=2∨j=3∨j=4∨j=5∨j=6∨j=7) with rfl|rfl|rfl|rfl|rfl|rfl|rfl|rfl <;> rfl
 rw[this]
 exact setRow_self w B (sixC z) _ _ h
def noughts (w:World):World:=w.alloc (.cells #[.int .i64 0,.int .i64 0,.int .i64 0,.int .i64 0,.int .i64 0,.int .i64 0,.int .i64 0,.int .i64 0] 23)
theorem noughts_in (w:World):SixIn w.heap.size [] (noughts w):=by
 unfold SixIn noughts
 show (w.heap.push _)[w.heap.size]? = _
 rw[Array.getElem?_push_size]
 rfl
def SixAll (B:Nat) (z:List Int) (w:World):Prop :=
 (w.cell? ⟨B,0,none⟩=some (.int .i64 (el z 0))∧w.frozen? ⟨B,0,none⟩=false∧w.setCell ⟨B,0,none⟩ (.int .i64 (el z 0))=w) ∧
 (w.cell? ⟨B,1,none⟩=some (.int .i64 (el z 1))∧w.frozen? ⟨B,1,none⟩=false∧w.setCell ⟨B,1,none⟩ (.int .i64 (el z 1))=w) ∧
 (w.cell? ⟨B,2,none⟩=some (.int .i64 (el z 2))∧w.frozen? ⟨B,2,none⟩=false∧w.setCell ⟨B,2,none⟩ (.int .i64 (el z 2))=w) ∧
 (w.cell? ⟨B,3,none⟩=some (.int .i64 (el z 3))∧w.frozen? ⟨B,3,none⟩=false∧w.setCell ⟨B,3,none⟩ (.int .i64 (el z 3))=w) ∧
 (w.cell? ⟨B,4,none⟩=some (.int .i64 (el z 4))∧w.frozen? ⟨B,4,none⟩=false∧w.setCell ⟨B,4,none⟩ (.int .i64 (el z 4))=w) ∧
 (w.cell? ⟨B,5,none⟩=some (.int .i64 (el z 5))∧w.frozen? ⟨B,5,none⟩=false∧w.setCell ⟨B,5,none⟩ (.int .i64 (el z 5))=w) ∧
 (w.cell? ⟨B,6,none⟩=some (.int .i64 (el z 6))∧w.frozen? ⟨B,6,none⟩=false∧w.setCell ⟨B,6,none⟩ (.int .i64 (el z 6))=w) ∧
 (w.cell? ⟨B,7,none⟩=some (.int .i64 (el z 7))∧w.frozen? ⟨B,7,none⟩=false∧w.setCell ⟨B,7,none⟩ (.int .i64 (el z 7))=w)
theorem SixIn.all (h:SixIn B z w):SixAll B z w :=
 ⟨h.facts 0 (by omega),h.facts 1 (by omega),h.facts 2 (by omega),h.facts 3 (by omega),h.facts 4 (by omega),h.facts 5 (by omega),h.facts 6 (by omega),h.facts 7 (by omega)⟩
theorem six_new (z:List Int) (w:World):SixIn w.heap.size z (w.alloc (.cells #[.int .i64 (el z 0),.int .i64 (el z 1),.int .i64 (el z 2),.int .i64 (el z 3),.int .i64 (el z 4),.int .i64 (el z 5),.int .i64 (el z 6),.int .i64 (el z 7)] 23)):=by
 unfold SixIn
 show (w.heap.push _)[w.heap.size]? = _
 rw[Array.getElem?_push_size]
 rfl
theorem SixIn.set (h:SixIn B z w) (k:Nat) (hk:k < 8) (v:Int) (z':List Int) (hz:∀ j,j < 8→el z' j=if j=k then v else el z j):SixIn B z' (w.setCell ⟨B,k,none⟩ (.int .i64 v)):=by
 have e:=setCell_eq_setRow w B k (sixC z) 23 (0,0) (.int .i64 v) h
 have a:=setRow_heap w B (sixC z) ((sixC z).setIfInBounds k (.int .i64 v)) 23 (0,0) h
 unfold SixIn
 rw[e,a]
 congr 2
 have b:=hz 0 (by omega);have d:=hz 1 (by omega);have f:=hz 2 (by omega);have g:=hz 3 (by omega);have h4:=hz 4 (by omega);have i:=hz 5 (by omega);have l:=hz 6 (by omega);have n:=hz 7 (by omega)
 unfold sixC
 rcases (by omega:k=0∨k=1∨k=2∨k=3∨k=4∨k=5∨k=6∨k=7) with rfl|rfl|rfl|rfl|rfl|rfl|rfl|rfl <;> simp[b,d,f,g,h4,i,l,n]
theorem SixIn.other (h:SixIn B z w) (p:Addr) (hp:B≠p.block) (v:Value):SixIn B z (w.setCell p v):=(Below.heap_setCell w p v B hp).trans h
def OwnG (e:TypeId) (base:Nat) (w:World) (v:Value) (xs:List Value):Prop:=w.ownsRow base e 1 v xs.length xs
theorem OwnG.nil (e:TypeId) (base:Nat) (w:World):OwnG e base w (.slice none 0 0) []:=World.ownsRow_nil _ _ _ _
theorem OwnG.base {base:Nat} {xs:List Value} (h:OwnG e base w v xs):∀ k,v.ownBlock=some k→base≤k:=by
 intro k a
 rcases h.2 with ⟨rfl,_⟩|⟨g,cap,cur,rfl,hb,_⟩
 ·simp[Value.ownBlock] at a
 ·have:g=k:=by simpa [Value.ownBlock] using a
  omega
theorem OwnG.kept {base:Nat} {xs:List Value} (h:OwnG e base w v xs) (hb:Below w.heap.size w w'):OwnG e base w' v xs:=by
 refine ⟨h.1,?_⟩
 rcases h.2 with h2|⟨g,cap,cur,rfl,hb',hg,rest⟩
 ·exact .inl h2
 ·exact .inr ⟨g,cap,cur,rfl,hb',by rw[hb.block g (Array.getElem?_eq_some_iff.1 hg).1];exact hg,rest⟩
theorem OwnG.other {base:Nat} {xs:List Value} (h:OwnG e base w v xs) {row:Option Nat} (hg:w.grownBy w' row) (hne:v.ownBlock=none∨v.ownBlock≠row):OwnG e base w' v xs:=World.ownsRow.kept h hg hne
theorem Tryz.infoByte:(Tryz.prog.info? 5).map (fun i=>(i.zero,i.size,i.bytes))=some (some (.int .u8 0),1,1):=by kernel_rfl
theorem app_byte {ops:Array Oper} {rest:List Oper} {o:Oper} {a:Act} {Q:Exit→Act→World→Prop} (hgd:o.guard=none) (s x:Operand)
  (ho:o.op=.call { callee:=.builtin .append,args:=#[s,x],argTypes:=#[37,37] })
  (base:Nat) (v:Value) (xs:List Value) (hs:a.eval s=v) (hown:OwnG 5 base w v xs) (B m:Nat) (ys:List Value) (hx:a.eval x=.slice (some ⟨B,0,none⟩) m m) (hm:ys.length=m)
  (hc:∀ (j:Nat) u,ys[j]? = some u→w.cell? ⟨B,j,none⟩=some u) (h1:∀ u ∈ ys,u.oneCell'=true) (hlen:xs.length+m≤4000000) (hbase:base≤w.heap.size)
  (h:∀ v' w',OwnG 5 base w' v' (xs++ys)→w.grownBy w' v.ownBlock→wpList Tryz.prog ops Q rest (a.put o.dst v') w'):wpList Tryz.prog ops Q (o::rest) a w:=by
 obtain ⟨f,g,b,d,e⟩:=info_parts Tryz.infoByte
 refine wpList_append_own _ hgd s x 37 ho base 5 f (.int .u8 0) 1 1 Tryz.underlying37 g b d e rfl (by decide) v xs.length xs hs hown ⟨B,0,none⟩ m m ys hx (by omega) ?_ h1 (by unfold maxLen;omega) (by omega) hbase ?_
 ·intro j u i
  rw[add_pl,Nat.zero_add]
  exact hc j u i
 ·intro v' w' k l _
  refine h v' w' ?_ l
  unfold OwnG
  rw[List.length_append,hm]
  exact k
def by16 (z:List Int) (k:Nat):List Int:=(List.range k).flatMap fun j=>[el z j / 256,el z j % 256]
theorem by16_succ (z:List Int) (k:Nat):by16 z (k+1)=by16 z k++[el z k / 256,el z k % 256]:=by
 simp[by16,List.range_succ]
theorem by16_len (z:List Int) (k:Nat):(by16 z k).length=2*k:=by
 induction k with
 | zero=>rfl
 | succ k ih=>rw[by16_succ];simp[ih];omega
def u8s (l:List Int):List Value:=l.map (Value.int .u8)
theorem bytes_ok (z:List Int) (w:World) (hz:Ok6 z):Calls Tryz.prog 126 #[six z] w fun e w'=>∃ v,e=.returned (.tuple #[v,.nilIface])∧OwnG 5 w.heap.size w' v (u8s (by16 z 8))∧Below w.heap.size w w':=by
 have r:=fun w=>check_ok z w hz
 unfold six sixC at r
 unfold six
 have a:Below w.heap.size w ((w.alloc (.cells #[.int .i64 (el z 0),.int .i64 (el z 1),.int .i64 (el z 2),.int .i64 (el z 3),.int .i64 (el z 4),.int .i64 (el z 5),.int .i64 (el z 6),.int .i64 (el z 7)] 23)).alloc (.cells #[.int .i64 (el z 0),.int .i64 (el z 1),.int .i64 (el z 2),.int .i64 (el z 3),.int .i64 (el z 4),.int .i64 (el z 5),.int .i64 (el z 6),.int .i64 (el z 7)] 23)):=((Below.refl _ _).alloc (Nat.le_refl _) _).alloc (by simp) _
 have b:=(six_new z w).kept ((Below.refl _ _).alloc (Nat.le_refl _) (.cells #[.int .i64 (el z 0),.int .i64 (el z 1),.int .i64 (el z 2),.int .i64 (el z 3),.int .i64 (el z 4),.int .i64 (el z 5),.int .i64 (el z 6),.int .i64 (el z 7)] 23))
 obtain ⟨W,hW⟩:∃ W,W=(w.alloc (.cells #[.int .i64 (el z 0),.int .i64 (el z 1),.int .i64 (el z 2),.int .i64 (el z 3),.int .i64 (el z 4),.int .i64 (el z 5),.int .i64 (el z 6),.int .i64 (el z 7)] 23)).alloc (.cells #[.int .i64 (el z 0),.int .i64 (el z 1),.int .i64 (el z 2),.int .i64 (el z 3),.int .i64 (el z 4),.int .i64 (el z 5),.int .i64 (el z 6),.int .i64 (el z 7)] 23):=⟨_,rfl⟩
 rw[← hW] at a b
 obtain ⟨L,M,s,t,y⟩:=info_parts Tryz.infoByte
 obtain ⟨A,g,q,l⟩:=run_make_own (P:=Tryz.prog) W w.heap.size 37 5 L _ 1 Tryz.underlying37 M s t .i64 .i64 16 (by rw[y];omega) (by simp[maxLen]) a.size
 have B:=a.grown l a.size (fun k h=>by cases h)
 have C:SixIn w.heap.size z A:=(l.block _ b.lt (by simp)).trans b
 have N:(Instr.makeSlice 37 (.int .i64 0) (.int .i64 16)).run Tryz.prog W=.ok (.slice (some ⟨W.heap.size,0,none⟩) 0 16) A:=g
 have O:=ki hW
 have Q:=fun j hj=>(C.facts j hj).1
 clear hW g
 go_enter Tryz.func126,Tryz.ntmps126
 go_wp2_with (go_at_call 70;refine (r _).mono ?_;rintro e T ⟨rfl,rfl⟩;rw[← O.out])
 go_loopw [5,15] (fun v i wr=>∃ k:Nat,k≤8∧i=.int .i64 k∧Hid (OwnG 5 w.heap.size wr v (u8s (by16 z k)))∧Hid (Below w.heap.size w wr)) (fun _ i _=>8 - (intOf i).toNat)
 case atStart=>exact ⟨0,by omega,rfl,q,B⟩
 case round =>
  obtain ⟨k,U,rfl,D,E⟩:=hrel
  clear Q
  by_cases hlt:k < 8
  ·have n:=six_index z k hlt
   unfold six at n
   have F:=hz k hlt
   have G:=ki (by16_succ z k)
   have d:=by16_len z k
   have H:=ki (show (u8s (by16 z k)).length=2*k by unfold u8s;rw[List.length_map,d])
   clear d
   generalize el z k=x at n F G
   obtain ⟨R,S⟩:=F
   have o:Below wr.heap.size wr (wr.alloc (.cells #[.int .u8 (x / 256),.int .u8 (x % 256)] 5)):=(Below.refl _ _).alloc (Nat.le_refl _) _
   have p:=ki (D.out.kept o)
   have f:=ki (bt E.out o)
   go_wp2_with (at_builtin;refine app_byte rfl (.tmp 18) (.tmp 24) rfl w.heap.size _ (u8s (by16 z k)) rfl p.out wr.heap.size 2 [.int .u8 (x / 256),.int .u8 (x % 256)] rfl rfl (fun j u hu=>by match j with|0=>simp at hu;subst hu;simp|1=>simp at hu;subst hu;simp|j+2=>simp at hu) (fun u hu=>by simp at hu;rcases hu with rfl|rfl <;> rfl) (by rw[H.out];omega) f.out.size ?_;intro V w' I J)
   have K:=ki (f.out.grown J f.out.size (p.out.base))
   go_roundw
   case rel =>
    refine ⟨k+1,by omega,by go_num,?_,K⟩
    rw[G.out]
    unfold u8s
    rw[List.map_append]
    exact I
   case measure=>simp[intOf];omega
  ·obtain rfl:k=8:=by omega
   go_wp2
   go_ret2
   exact ⟨_,rfl,D.out,E.out⟩
end Em2
namespace Em2
open Go.RowKit Go.Shelf
variable {z:List Int}
def LongP (n:Int):Prop:=n=32∨n=40∨n=48∨n=56∨n=64∨n=96
theorem known_yes (n:Int) (w:World) (h:LongP n):Calls Tryz.prog 127 #[.int .i64 n] w fun e w'=>e=.returned (.bool true)∧w'=w:=by
 rcases h with rfl|rfl|rfl|rfl|rfl|rfl
 all_goals
  go_enter Tryz.func127,Tryz.ntmps127
  go_wp2
  go_ret
  exact ⟨rfl,rfl⟩
theorem empty_any (g o m c:Nat) (f:Nat→Int) (w:World) (hm:m≤16) (hc:∀ j,j < m→w.cell? ⟨g,o+j,none⟩=some (.int .u8 (f j))) :
  Calls Tryz.prog 128 #[.slice (some ⟨g,o,none⟩) m c] w fun e w'=>(((∀ j,j < m→f j=0)∧e=.returned (.bool true))∨((∃ j,j < m∧f j≠0)∧e=.returned (.bool false)))∧w'=w:=by
 go_enter Tryz.func128,Tryz.ntmps128
 go_wp2
 go_loop [7] (fun t=>∃ k:Nat,k≤m∧Hid (∀ j,j < k→f j=0)∧t=.int .i64 k) (fun t=>m - (intOf t).toNat)
 case atStart=>exact ⟨0,by omega,ki (fun i hi=>absurd hi (by omega)),rfl⟩
 case round =>
  obtain ⟨k,n,HI,rfl⟩:=hrel
  by_cases hlt:k < m
  ·have a:=hc k hlt
   clear hc
   generalize hzk:f k=z at a
   have b:Hid (f k=z):=hzk
   clear hzk
   by_cases hz:z=0
   ·subst hz
    go_wp2
    go_round
    case rel=>exact ⟨k+1,by omega,ki (fun i hi=>if h:i=k then by subst h;exact b.out else HI.out i (by omega)),by go_num⟩
    case measure=>simp[intOf];omega
   ·have l:(z == 0)=false:=by simpa using hz
    have d:=ki hz
    clear hz
    go_wp2
    go_ret
    exact ⟨.inr ⟨⟨k,hlt,by rw[b.out];exact d.out⟩,rfl⟩,rfl⟩
  ·go_wp2
   go_ret
   obtain rfl:k=m:=by omega
   exact ⟨.inl ⟨HI.out,rfl⟩,rfl⟩
def byt (z:List Int) (i:Nat):Int:=if i % 2=0 then el z (i / 2) / 256 else el z (i / 2) % 256
theorem by16_at (z:List Int) (i:Nat) (hi:i < 16):(by16 z 8)[i]? = some (byt z i):=by
 rcases (by omega:i=0∨i=1∨i=2∨i=3∨i=4∨i=5∨i=6∨i=7∨i=8∨i=9∨i=10∨i=11∨i=12∨i=13∨i=14∨i=15) with rfl|rfl|rfl|rfl|rfl|rfl|rfl|rfl|rfl|rfl|rfl|rfl|rfl|rfl|rfl|rfl <;> rfl
theorem byt_in (z:List Int) (hz:Ok6 z) (i:Nat) (hi:i < 16):0≤byt z i∧byt z i < 256:=by
 have h:=hz (i / 2) (by omega)
 unfold Word at h
 unfold byt
 split <;> omega
def Bys (z:List Int) (g:Nat) (w:World):Prop:=∀ i,i < 16→w.cell? ⟨g,i,none⟩=some (.int .u8 (byt z i))
theorem own_bys {base:Nat} {w:World} {v:Value} (h:OwnG 5 base w v (u8s (by16 z 8))):∃ g cap,v=.slice (some ⟨g,0,none⟩) 16 cap∧16≤cap∧base≤g∧g < w.heap.size∧Bys z g w:=by
 have b:w.ownsRow base 5 1 v (u8s (by16 z 8)).length (u8s (by16 z 8)):=h
 have a:(u8s (by16 z 8)).length=16:=rfl
 obtain ⟨e,d⟩:=h
 rcases d with ⟨rfl,hn⟩|⟨g,cap,cur,rfl,hb,hg,hcap,rest⟩
 ·rw[a] at hn;omega
 ·rw[a] at hcap
  refine ⟨g,cap,by rw[a],hcap,hb,(Array.getElem?_eq_some_iff.1 hg).1,fun i hi=>?_⟩
  have:=b.cellAt i (by omega)
  rw[this]
  unfold u8s
  rw[List.getElem?_map,by16_at z i hi]
  rfl
def shp (z:List Int) (q:Nat):Bool:=(List.range 16).any fun i=>(i == 8 || decide (q≤i)) && byt z i != 0
theorem shp_no {q:Nat} (h:shp z q=false) (i:Nat) (hi:i < 16) (hq:i=8∨q≤i):byt z i=0:=by
 unfold shp at h
 rw[List.any_eq_false] at h
 have:=h i (List.mem_range.2 hi)
 simp only[Bool.and_eq_true,Bool.or_eq_true,beq_iff_eq,decide_eq_true_eq,bne_iff_ne,ne_eq,not_and,Decidable.not_not] at this
 exact this hq
theorem shp_yes {q:Nat} (i:Nat) (hi:i < 16) (hq:i=8∨q≤i) (hb:byt z i≠0):shp z q=true:=by
 unfold shp
 rw[List.any_eq_true]
 exact ⟨i,List.mem_range.2 hi,by simpa using ⟨hq,hb⟩⟩
theorem empty_yes (g o m c:Nat) (f:Nat→Int) (w:World) (hm:m≤16) (hc:∀ j,j < m→w.cell? ⟨g,o+j,none⟩=some (.int .u8 (f j))) (h:∀ j,j < m→f j=0) :
  Calls Tryz.prog 128 #[.slice (some ⟨g,o,none⟩) m c] w fun e w'=>e=.returned (.bool true)∧w'=w :=
 (empty_any g o m c f w hm hc).mono fun e w' ⟨hh,hw⟩=>by
  rcases hh with ⟨_,he⟩|⟨⟨j,hj,hn⟩,_⟩
  ·exact ⟨he,hw⟩
  ·exact absurd (h j hj) hn
theorem empty_no (g o m c:Nat) (f:Nat→Int) (w:World) (hm:m≤16) (hc:∀ j,j < m→w.cell? ⟨g,o+j,none⟩=some (.int .u8 (f j))) (h:¬ ∀ j,j < m→f j=0) :
  Calls Tryz.prog 128 #[.slice (some ⟨g,o,none⟩) m c] w fun e w'=>e=.returned (.bool false)∧w'=w :=
 (empty_any g o m c f w hm hc).mono fun e w' ⟨hh,hw⟩=>by
  rcases hh with ⟨hn,_⟩|⟨_,he⟩
  ·exact absurd hn h
  ·exact ⟨he,hw⟩
theorem echeck_shape (p:List Int) (q:Nat) (w:World) (h:Ok6 p) (hn:LongP (8*q)):Calls Tryz.prog 72 #[six p,.int .i64 (8*q)] w fun e w'=>e=.returned (if shp p q then .iface 28 (.int .i64 2) else .nilIface)∧Below w.heap.size w w':=by
 have k:=fun w=>bytes_ok p w h
 have C:q≤12:=by unfold LongP at hn;omega
 have hd:(8*(q:Int)).tdiv 8=q:=by rw[Int.tdiv_eq_ediv_of_nonneg (by omega)];omega
 have r:=ki hn
 clear hn
 unfold six at k ⊢
 by_cases h8:byt p 8=0
 ·by_cases hall:∀ j,j < 16 - q→byt p (q+j)=0
  ·have hs:shp p q=false:=by
    cases e:shp p q
    ·rfl
    ·unfold shp at e
     rw[List.any_eq_true] at e
     obtain ⟨i,A,hb⟩:=e
     rw[List.mem_range] at A
     simp only[Bool.and_eq_true,Bool.or_eq_true,beq_iff_eq,decide_eq_true_eq,bne_iff_ne,ne_eq] at hb
     rcases hb with ⟨rfl|hqi,hb⟩
     ·exact absurd h8 hb
     ·have:=hall (i - q) (by omega)
      rw[show q+(i - q)=i by omega] at this
      exact absurd this hb
   rw[hs]
   have s:=ki hall
   clear hall
   go_enter Tryz.func72,Tryz.ntmps72
   go_wp2_with (first
    | (go_at_call 126;refine (k _).mono ?_;rintro e t ⟨v,rfl,d,a⟩;obtain ⟨g,n,rfl,f,o,y,b⟩:=own_bys d;have c8:=b 8 (by omega);rw[h8] at c8)
    | (go_at_call 127;refine (known_yes _ _ r.out).mono ?_;rintro e l ⟨rfl,rfl⟩)
    | (go_at_call 128;refine (empty_yes g q (16 - q) _ (fun j=>byt p (q+j)) _ (by omega) (fun j hj=>b (q+j) (by omega)) s.out).mono ?_;rintro e l ⟨rfl,rfl⟩))
   go_ret
   exact ⟨rfl,bt ((Below.refl _ _).alloc (Nat.le_refl _) _) a⟩
  ·have hs:shp p q=true:=by
    cases e:shp p q
    ·exact absurd (fun j hj=>shp_no e (q+j) (by omega) (.inr (by omega))) hall
    ·rfl
   rw[hs]
   have s:=ki hall
   clear hall
   go_enter Tryz.func72,Tryz.ntmps72
   go_wp2_with (first
    | (go_at_call 126;refine (k _).mono ?_;rintro e t ⟨v,rfl,d,a⟩;obtain ⟨g,n,rfl,f,o,y,b⟩:=own_bys d;have c8:=b 8 (by omega);rw[h8] at c8)
    | (go_at_call 127;refine (known_yes _ _ r.out).mono ?_;rintro e l ⟨rfl,rfl⟩)
    | (go_at_call 128;refine (empty_no g q (16 - q) _ (fun j=>byt p (q+j)) _ (by omega) (fun j hj=>b (q+j) (by omega)) s.out).mono ?_;rintro e l ⟨rfl,rfl⟩))
   go_ret
   exact ⟨rfl,bt ((Below.refl _ _).alloc (Nat.le_refl _) _) a⟩
 ·have hs:shp p q=true:=shp_yes 8 (by omega) (.inl rfl) h8
  rw[hs]
  have z:(byt p 8 == 0)=false:=by simpa using h8
  generalize hx:byt p 8=x at h8 z
  have B:=ki hx
  clear hx
  go_enter Tryz.func72,Tryz.ntmps72
  go_wp2_with (first
   | (go_at_call 126;refine (k _).mono ?_;rintro e t ⟨v,rfl,d,a⟩;obtain ⟨g,n,rfl,f,o,y,b⟩:=own_bys d;have c8:=b 8 (by omega);rw[B.out] at c8)
   | (go_at_call 127;refine (known_yes _ _ r.out).mono ?_;rintro e l ⟨rfl,rfl⟩))
  go_ret
  exact ⟨rfl,bt ((Below.refl _ _).alloc (Nat.le_refl _) _) a⟩
def IsF (a:Int):Prop:=0≤a∧a≤4294967295
theorem c4_ok (a:Int) (w:World) (h:IsF a):Calls Tryz.prog 73 #[.int .i64 a] w fun e w'=>e=.returned .nilIface∧w'=w:=by
 obtain ⟨b,d⟩:=h
 go_enter Tryz.func73,Tryz.ntmps73
 go_wp2
 go_ret
 exact ⟨rfl,rfl⟩
theorem places_any (n:Int) (w:World):Calls Tryz.prog 198 #[.int .i64 n] w fun e w'=>e=.returned (.func (.func 249) #[] #[.pointer (some ⟨w.heap.size,0,none⟩)])∧w'=w.alloc (.cells #[.int .i64 n] 3):=by
 go_enter Tryz.func198,Tryz.ntmps198
 go_wp2
 go_ret
 exact ⟨rfl,rfl⟩
end Em2
end Go.Proofs.YtgcojnlngchllaaGreatDoor
