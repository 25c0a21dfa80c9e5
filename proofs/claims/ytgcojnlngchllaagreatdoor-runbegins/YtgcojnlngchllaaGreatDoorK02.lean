/- Package sum by contracts (fold, check16, Of, Add, Not); bytes.Equal; a slice that the call has made, and append onto it. Package seg: known, head, checkAt, upTo, write and number, by contracts. Package seg: overOf, Over4 and Over6, by contracts. seg.Over6, by contracts. A segment as a value and in its block; loads and stores of all of it and of its numbers. -/
import Derived.Test.YtgcojnlngchllaaGreatDoorK01
import Derived.Deep.CutBlock
import Derived.Deep.RegionHeld3
import Derived.Deep.DrawnRows
namespace Go.Proofs.YtgcojnlngchllaaGreatDoor
open Go.RowKit
set_option linter.unusedVariables false
set_option maxRecDepth 100000
set_option maxHeartbeats 40000000
section
variable {w w':World}
theorem i64_and65535 (n:Int):bits .and .i64 n 65535=n % 65536:=by
 have h:(BitVec.ofInt 64 65535).toNat=2 ^ 16 - 1:=by decide
 have a:(BitVec.ofInt 64 n &&& BitVec.ofInt 64 65535).toNat=(n % ((2 ^ 64:Nat):Int)).toNat % 2 ^ 16:=by
  rw[BitVec.toNat_and,BitVec.toNat_ofInt,h,Nat.and_two_pow_sub_one_eq_mod]
 show IntKind.i64.wrap ((BitVec.ofInt 64 n &&& BitVec.ofInt 64 65535).toNat:Nat)=n % 65536
 rw[a,IntKind.wrap_i64]
 omega
theorem ret_int {k:IntKind} {a b:Int} (h:a=b):Ending.returned (.int k a)=.returned (.int k b):=by rw[h]
theorem fold_any (n:Int) (w:World) (h0:0≤n) (h1:n≤1000000000000) :
  Calls Tryz.prog 289 #[.int .i64 n] w fun e w'=>e=.returned (.int .i64 (SM.fold n))∧w'=w:=by
 go_enter Tryz.func289,Tryz.ntmps289
 go_wp2
 go_loop [0] (fun t=>∃ m:Int,0≤m∧m≤1000000000000∧SM.fold m=SM.fold n∧t=.int .i64 m) (fun t=>(intOf t).toNat)
 case atStart=>exact ⟨n,h0,h1,rfl,rfl⟩
 case round =>
  obtain ⟨m,a,f,b,rfl⟩:=hrel
  have H:Hid (SM.fold m=SM.fold n):=b
  clear b
  by_cases hlt:65535 < m
  ·have hs:=SM.fold_step m hlt
   have d:Hid (SM.fold (m / 65536+m % 65536)=SM.fold m):=hs
   clear hs
   go_wp2
   go_round
   case rel=>exact ⟨m / 65536+m % 65536,by omega,by omega,d.o.trans H.o,by rw[i64_and65535,IntWalk.wrap64_in _ (by omega)]⟩
   case measure=>rw[i64_and65535,IntWalk.wrap64_in _ (by omega)];simp only[intOf];omega
  ·go_wp2
   go_ret
   exact ⟨ret_int ((SM.fold_small m a (by omega)).symm.trans H.o),rfl⟩
def AllIn (zs:List Int) (n:Nat):Prop:=∀ i,i < n→0≤zs.getD i 0∧zs.getD i 0≤65535
theorem check16_any (b n:Nat) (zs:List Int) (w:World) (hn:n≤1000) (hc:∀ i,i < n→w.cell? ⟨b,i,none⟩=some (.int .i64 (zs.getD i 0))) :
  Calls Tryz.prog 294 #[.slice (some ⟨b,0,none⟩) n n] w fun e w'=>((AllIn zs n∧e=.returned .nilIface)∨(¬ AllIn zs n∧e=.returned (.iface 28 (.int .i64 1))))∧w'=w:=by
 go_enter Tryz.func294,Tryz.ntmps294
 go_wp2
 go_loop [7] (fun t=>∃ k:Nat,k≤n∧AllIn zs k∧t=.int .i64 k) (fun t=>n - (intOf t).toNat)
 case atStart=>exact ⟨0,by omega,fun i hi=>absurd hi (by omega),rfl⟩
 case round =>
  obtain ⟨k,g,a,rfl⟩:=hrel
  have HI:Hid (AllIn zs k):=a
  clear a
  by_cases hlt:k < n
  ·have f:=hc k hlt
   clear hc
   generalize hzk:zs.getD k 0=z at f
   have d:Hid (zs.getD k 0=z):=hzk
   clear hzk
   by_cases hz0:z < 0
   ·go_wp2
    go_ret
    exact ⟨.inr ⟨fun h=>absurd (h k hlt).1 (by rw[d.o];omega),rfl⟩,rfl⟩
   ·by_cases hz1:65535 < z
    ·go_wp2
     go_ret
     exact ⟨.inr ⟨fun h=>absurd (h k hlt).2 (by rw[d.o];omega),rfl⟩,rfl⟩
    ·go_wp2
     go_round
     case rel=>exact ⟨k+1,by omega,fun i hi=>if h:i=k then by subst h;rw[d.o];omega else HI.o i (by omega),by go_num⟩
     case measure=>simp[intOf];omega
  ·go_wp2
   go_ret
   obtain rfl:k=n:=by omega
   exact ⟨.inl ⟨HI.o,rfl⟩,rfl⟩
theorem of_ok (a:Option Addr) (len cap:Nat) (zs:List Int) (w:World) (w0:Row8 w a len cap zs) (h:len≤2000) :
  Calls Tryz.prog 244 #[.slice a len cap] w fun e w'=>e=.returned (.tuple #[.int .i64 (SM.fold (SM.tot zs len)),.nilIface])∧w'=w:=by
 obtain ⟨v,x,d,_,g⟩:=w0
 by_cases hp:0 < len
 ·obtain ⟨b,s,rfl,f⟩:=g hp
  clear g
  go_enter Tryz.func244,Tryz.ntmps244
  go_wp2
  go_loop [4,13] (fun t i=>∃ k:Nat,k≤len∧t=.int .i64 (SM.tot zs k)∧i=.int .i64 k) (fun _ i=>len - (intOf i).toNat)
  case atStart=>exact ⟨0,by omega,rfl,rfl⟩
  case round =>
   obtain ⟨k,y,rfl,rfl⟩:=hrel
   have hb:=SM.tot_bd zs d k
   by_cases hlt:k < len
   ·have o:=f k (by omega)
    have p:=d k
    clear f
    have q:=SM.tot_even zs k
    have r:=SM.tot_odd zs k
    have l:Hid (k % 2=0→SM.tot zs (k+1)=SM.tot zs k+zs.getD k 0*256):=q
    have n:Hid (k % 2=1→SM.tot zs (k+1)=SM.tot zs k+zs.getD k 0):=r
    clear q r d
    generalize zs.getD k 0=z at o p l n
    generalize SM.tot zs k=t at hb l n ⊢
    by_cases hpar:k % 2=0
    ·go_wp2
     go_round
     case rel=>exact ⟨k+1,by omega,by rw[l.o hpar],by go_num⟩
     case measure=>simp[intOf];omega
    ·go_wp2
     go_round
     case rel=>exact ⟨k+1,by omega,by rw[n.o (by omega)],by go_num⟩
     case measure=>simp[intOf];omega
   ·obtain rfl:k=len:=by omega
    go_wp2_with (go_at_call 289;refine (fold_any _ _ (by omega) (by omega)).mono ?_;rintro e w' ⟨rfl,rfl⟩)
    go_ret2
    exact ⟨rfl,rfl⟩
 ·obtain rfl:len=0:=by omega
  go_enter Tryz.func244,Tryz.ntmps244
  go_wp2
  refine wp_loop_rounds 1 ?_
  rw[rounds_succ]
  go_wp2_with (go_at_call 289;refine (fold_any _ _ (by omega) (by omega)).mono ?_;rintro e w' ⟨rfl,rfl⟩)
  go_ret2
  exact ⟨rfl,rfl⟩
theorem check16_ok (b n:Nat) (zs:List Int) (w:World) (hn:n≤1000) (hc:∀ i,i < n→w.cell? ⟨b,i,none⟩=some (.int .i64 (zs.getD i 0))) (hin:AllIn zs n) :
  Calls Tryz.prog 294 #[.slice (some ⟨b,0,none⟩) n n] w fun e w'=>e=.returned .nilIface∧w'=w :=
 (check16_any b n zs w hn hc).mono fun e w' h=>by
  rcases h with ⟨⟨_,h⟩|⟨h,_⟩,hw⟩
  ·exact ⟨h,hw⟩
  ·exact absurd hin h
theorem allIn1 (x:Int):AllIn [x] 1↔Word x :=
 ⟨fun h=>h 0 (by omega),fun h i hi=>by rw[show i=0 by omega];exact h⟩
theorem cells1 (x:Int) (w:World):∀ i,i < 1→(w.alloc (.cells #[.int .i64 x] 3)).cell? ⟨w.heap.size,i,none⟩=some (.int .i64 ([x].getD i 0)):=by
 intro i a
 obtain rfl:i=0:=by omega
 simp
theorem not_ok (x:Int) (w:World) (h:Word x):Calls Tryz.prog 259 #[.int .i64 x] w fun e w'=>e=.returned (.tuple #[.int .i64 (65535 - x),.nilIface])∧Below w.heap.size w w':=by
 have hc:=cells1 x w
 have a:=check16_ok _ 1 _ _ (by omega) hc ((allIn1 x).2 h)
 have b:=h.1
 have d:=h.2
 clear hc
 have H:=ki a
 clear a
 go_enter Tryz.func259,Tryz.ntmps259
 go_wp2_with (go_at_call 294;refine (unhide H).mono ?_;rintro e w' ⟨rfl,rfl⟩)
 go_ret2
 exact ⟨rfl,(Below.refl _ _).alloc (Nat.le_refl _) _⟩
theorem allIn2 (x y:Int):AllIn [x,y] 2↔Word x∧Word y :=
 ⟨fun h=>⟨h 0 (by omega),h 1 (by omega)⟩,fun ⟨h1,h2⟩ i hi=>by
  rcases (by omega:i=0∨i=1) with rfl|rfl
  ·exact h1
  ·exact h2⟩
theorem cells2 (x y:Int) (w:World):∀ i,i < 2→(w.alloc (.cells #[.int .i64 x,.int .i64 y] 3)).cell? ⟨w.heap.size,i,none⟩=some (.int .i64 ([x,y].getD i 0)):=by
 intro i a
 rcases (by omega:i=0∨i=1) with rfl|rfl <;> simp
theorem add_ok (x y:Int) (w:World) (h:Word x∧Word y):Calls Tryz.prog 258 #[.int .i64 x,.int .i64 y] w fun e w'=>e=.returned (.tuple #[.int .i64 (SM.fold (x+y)),.nilIface])∧Below w.heap.size w w':=by
 have hc:=cells2 x y w
 have H:=ki (check16_ok _ 2 _ _ (by omega) hc ((allIn2 x y).2 h))
 obtain ⟨⟨a,b⟩,d,h4⟩:=h
 clear hc
 go_enter Tryz.func258,Tryz.ntmps258
 go_wp2_with (first|(go_at_call 294;refine (unhide H).mono ?_;rintro e w' ⟨rfl,rfl⟩)|(go_at_call 289;refine (fold_any _ _ (by omega) (by omega)).mono ?_;rintro e w' ⟨rfl,rfl⟩))
 go_ret2
 exact ⟨rfl,(Below.refl _ _).alloc (Nat.le_refl _) _⟩
theorem al_below (w:World) (o:Obj):Below w.heap.size w (w.alloc o):=(Below.refl _ _).alloc (Nat.le_refl _) _
theorem add_at (b o j:Nat):(⟨b,o,none⟩:Addr).add j=⟨b,o+j,none⟩:=by unfold Addr.add;split <;> simp_all
def Only (B:Nat) (w w':World):Prop:=w'.os=w.os∧w'.tape=w.tape∧w'.output=w.output∧w'.heap.size=w.heap.size∧∀ g,g≠B→w'.heap[g]? = w.heap[g]?
theorem Only.below {B base:Nat} {w0:World} (h:Only B w w') (hb:Below base w0 w) (hB:base≤B):Below base w0 w' :=
 ⟨h.1.trans hb.os,h.2.1.trans hb.tape,h.2.2.1.trans hb.output,by rw[h.2.2.2.1];exact hb.size,fun g hg=>(h.2.2.2.2 g (by omega)).trans (hb.block g hg)⟩
theorem Only.own {B base:Nat} (h:Only B w w') {v:Value} {zs:List Int} (o:Own base w v zs) (hB:B < base):Own base w' v zs:=o.heap (fun g hg _=>h.2.2.2.2 g (by omega))
theorem only_setRow (w:World) (B:Nat) (cs:Array Value):Only B w (w.setRow B cs):=⟨rfl,rfl,rfl,setRow_size w B cs,fun g hg=>setRow_other w B g cs hg⟩
def up (m n:Int):Bool:=decide (0≤n∧n≤m)
theorem up_true {m n:Int} (h:up m n=true):0≤n∧n≤m:=of_decide_eq_true h
theorem equal_any (a b:Option Addr) (la lb ca cb:Nat) (xs ys:List Int) (w:World) (ra:Row8 w a la ca xs) (rb:Row8 w b lb cb ys) (r:Bool) (hr:(xs=ys)↔r=true):Calls Tryz.prog 191 #[.slice a la ca,.slice b lb cb] w fun e w'=>e=.returned (.bool r)∧w'=w:=by
 have c1:=conv8 ra
 have c2:=conv8 rb
 have d:=str8_eq ra.2.2.1 rb.2.2.1 r hr
 clear hr ra rb
 go_enter Tryz.func191,Tryz.ntmps191
 go_wp2
 go_ret
 exact ⟨rfl,rfl⟩
def Gr (W0 w:World) (v:Value) (zs:List Int):Prop:=Own W0.heap.size w v zs∧Below W0.heap.size W0 w
theorem Gr.below {W0:World} {v:Value} {zs:List Int} (h:Gr W0 w v zs) (hb:Below w.heap.size w w'):Gr W0 w' v zs:=⟨h.1.kept hb,h.2.trans (hb.mono h.2.size)⟩
theorem Gr.nil (w:World):Gr w w (.slice none 0 0) []:=⟨Own.nil _ _,Below.refl _ _⟩
theorem gr_make (w:World) {ops:Array Oper} {rest:List Oper} {o:Oper} {a:Act} {Q:Exit→Act→World→Prop} (hg:o.guard=none) (l c:Operand) (hop:o.op=Op.makeSlice 37 l c)
  (C:Int) (n:Nat) (hl:a.eval l=.int .i64 0) (hc:a.eval c=.int .i64 C) (hC:C=(n:Int)) (b2:n≤1000000000)
  (hK:∀ b w',Gr w w' (.slice (some ⟨b,0,none⟩) 0 n) []→wpList Tryz.prog ops Q rest (a.put o.dst (.slice (some ⟨b,0,none⟩) 0 n)) w'):wpList Tryz.prog ops Q (o::rest) a w:=by
 obtain ⟨g,i,d,e,f⟩:=info_parts Tryz.infoByte
 refine wpList_make_own w hg l c 37 hop w.heap.size 5 g _ 1 Tryz.underlying37 i d e .i64 .i64 C n hl hc hC (by rw[f];omega) (by unfold maxLen;omega) (Nat.le_refl _) ?_
 intro w' p q
 exact hK _ w' ⟨⟨SM.oct_nil,p⟩,(Below.refl _ _).grown q (Nat.le_refl _) (fun k h=>by cases h)⟩
theorem gr_app {ops:Array Oper} {rest:List Oper} {o:Oper} {a:Act} {Q:Exit→Act→World→Prop} (hgd:o.guard=none) (s x:Operand)
  (ho:o.op=.call { callee:=.builtin .append,args:=#[s,x],argTypes:=#[37,37] })
  {W0:World} {v:Value} {zs:List Int} (hs:a.eval s=v) (hg:Gr W0 w v zs) {ao:Option Addr} {len cap:Nat} {ys:List Int}
  (hx:a.eval x=.slice ao len cap) (hrow:Row8 w ao len cap ys) (hlen:zs.length+len≤1000000000)
  (h:∀ v' w',Gr W0 w' v' (zs++ys)→wpList Tryz.prog ops Q rest (a.put o.dst v') w'):wpList Tryz.prog ops Q (o::rest) a w :=
 wpList_app hgd s x ho W0.heap.size v zs hs hg.1 ao len cap ys hx hrow hlen hg.2.size (fun v' w' h1 h2=>h v' w' ⟨h1,hg.2.grown h2 hg.2.size (fun k e=>(hg.1.2.lt k e).1)⟩)
theorem oct_by16 (z:List Int) (h:Ok6 z) (n:Nat) (hn:n≤8):SM.Oct (by16 z n):=by
 induction n with
 | zero=>exact SM.oct_nil
 | succ n ih =>
  rw[by16_succ]
  refine SM.oct_append _ _ (ih (by omega)) ?_
  obtain ⟨a,b⟩:=h n (by omega)
  intro k
  match k with
  | 0=>show 0≤el z n / 256∧el z n / 256≤255;omega
  | 1=>show 0≤el z n % 256∧el z n % 256≤255;omega
  | k+2=>simp
theorem abytes_ok (z:List Int) (w:World) (hz:Ok6 z):Calls Tryz.prog 126 #[.agg (sixC z)] w fun e w'=>∃ a c,e=.returned (.tuple #[.slice a 16 c,.nilIface])∧Row8 w' a 16 c (by16 z 8)∧Below w.heap.size w w':=by
 refine (bytes_ok z w hz).mono ?_
 rintro e w' ⟨v,rfl,b,hb⟩
 have d:Own w.heap.size w' v (by16 z 8):=⟨oct_by16 z hz 8 (by omega),by
  unfold OwnG u8s at b
  rw[List.length_map] at b
  exact b⟩
 obtain ⟨a,c,rfl,f,_⟩:=d.row8
 rw[by16_len] at f
 exact ⟨a,c,by rw[by16_len],f,hb⟩
end
section
variable {l:List Int} {B:Nat} {w:World}
def Ints (B:Nat) (l:List Int) (w:World):Prop:=w.heap[B]? = some (.cells (l.map (Value.int .i64)).toArray 3 (0,0))
theorem Ints.lt (h:Ints B l w):B < w.heap.size:=(Array.getElem?_eq_some_iff.1 h).1
theorem Ints.kept {w':World} (h:Ints B l w) (hb:Below w.heap.size w w'):Ints B l w':=(hb.block B h.lt).trans h
theorem ints_new (w:World) (l:List Int):Ints w.heap.size l (w.alloc (.cells (l.map (Value.int .i64)).toArray 3)):=heap_alloc_new w _
theorem Ints.cell (h:Ints B l w) (j:Nat) (hj:j < l.length):w.cell? ⟨B,j,none⟩=some (.int .i64 (l.getD j 0)):=by
 unfold Ints at h
 simp[World.cell?,h,hj]
theorem Ints.ne (h:Ints B l w) {base:Nat} {v:Value} {zs:List Int} (o:Own base w v zs):some B≠v.ownBlock:=by
 intro e
 rcases o.2.2 with ⟨rfl,_⟩|⟨g,cap,cur,rfl,_,hg,_⟩
 ·cases e
 ·have:B=g:=by simpa [Value.ownBlock] using e
  subst this
  unfold Ints at h
  rw[h] at hg
  injection hg with hg
  injection hg with _ hg
  cases hg
theorem Ints.grown {w':World} (h:Ints B l w) {base:Nat} {v:Value} {zs:List Int} (o:Own base w v zs) (hg:w.grownBy w' v.ownBlock):Ints B l w':=(hg.block _ h.lt (h.ne o)).trans h
def kn (k:Int):Bool:=k == 6 || k == 17
theorem known_any (k:Int) (w:World):Calls Tryz.prog 245 #[.int .i64 k] w fun e w'=>e=.returned (.bool (kn k))∧w'=w:=by
 by_cases h0:k=6
 ·subst h0
  go_enter Tryz.func245,Tryz.ntmps245
  go_wp2
  go_ret
  exact ⟨rfl,rfl⟩
 ·have e:(k == 6)=false:=by simpa using h0
  rw[show kn k=(k == 17) by unfold kn;rw[e];rfl]
  go_enter Tryz.func245,Tryz.ntmps245
  go_wp2
  go_ret
  exact ⟨rfl,rfl⟩
def hn (k:Int):Nat:=if k=6 then 20 else 8
def cn (k:Int):Nat:=if k=6 then 16 else 6
theorem head_any (k:Int) (w:World):Calls Tryz.prog 208 #[.int .i64 k] w fun e w'=>e=.returned (.int .i64 (hn k))∧w'=w:=by
 by_cases h0:k=6
 ·subst h0
  go_enter Tryz.func208,Tryz.ntmps208
  go_wp2
  go_ret
  exact ⟨rfl,rfl⟩
 ·have e:(k == 6)=false:=by simpa using h0
  rw[show hn k=8 by unfold hn;rw[if_neg h0]]
  go_enter Tryz.func208,Tryz.ntmps208
  go_wp2
  go_ret
  exact ⟨rfl,rfl⟩
theorem checkat_any (k:Int) (w:World):Calls Tryz.prog 213 #[.int .i64 k] w fun e w'=>e=.returned (.int .i64 (cn k))∧w'=w:=by
 by_cases h0:k=6
 ·subst h0
  go_enter Tryz.func213,Tryz.ntmps213
  go_wp2
  go_ret
  exact ⟨rfl,rfl⟩
 ·have e:(k == 6)=false:=by simpa using h0
  rw[show cn k=6 by unfold cn;rw[if_neg h0]]
  go_enter Tryz.func213,Tryz.ntmps213
  go_wp2
  go_ret
  exact ⟨rfl,rfl⟩
def ups (m:Int) (l:List Int):Bool:=l.all (up m)
theorem ups_iff (m:Int) (l:List Int):ups m l=true↔∀ i,i < l.length→up m (l.getD i 0)=true:=by
 unfold ups
 rw[List.all_eq_true]
 constructor
 ·intro h i a
  exact h _ (by simp[List.getD_eq_getElem?_getD,a])
 ·intro h x b
  obtain ⟨i,a,rfl⟩:=List.mem_iff_getElem.1 b
  have:=h i a
  simpa [List.getD_eq_getElem?_getD,a] using this
theorem upto_any (m:Int) (B n:Nat) (l:List Int) (w:World) (hn:l.length=n) (hm:n≤1000) (hc:Ints B l w) :
  Calls Tryz.prog 210 #[.int .i64 m,.slice (some ⟨B,0,none⟩) n n] w fun e w'=>e=.returned (.bool (ups m l))∧w'=w:=by
 have a:=ki (ups_iff m l)
 have o:=ki hc
 have d:=ki hn
 clear hc
 generalize ups m l=u at a ⊢
 go_enter Tryz.func210,Tryz.ntmps210
 go_wp2
 go_loop [9] (fun t=>∃ k:Nat,k≤n∧Hid (∀ i,i < k→up m (l.getD i 0)=true)∧t=.int .i64 k) (fun t=>n - (intOf t).toNat)
 case atStart=>exact ⟨0,by omega,fun i hi=>absurd hi (by omega),rfl⟩
 case round =>
  obtain ⟨k,p,HI,rfl⟩:=hrel
  by_cases hlt:k < n
  ·have g:=o.o.cell k (by omega)
   generalize hzk:l.getD k 0=z at g
   have f:=ki hzk
   clear hzk hn
   by_cases hz0:z < 0
   ·go_wp2
    go_ret
    exact ⟨congrArg (fun b=>Ending.returned (.bool b)) (Eq.symm (Bool.eq_false_iff.2 fun h=>by have:=up_true (a.o.1 h k (by rw[d.o];exact hlt));rw[f.o] at this;omega)),rfl⟩
   ·by_cases hz1:m < z
    ·go_wp2
     go_ret
     exact ⟨congrArg (fun b=>Ending.returned (.bool b)) (Eq.symm (Bool.eq_false_iff.2 fun h=>by have:=up_true (a.o.1 h k (by rw[d.o];exact hlt));rw[f.o] at this;omega)),rfl⟩
    ·go_wp2
     go_round
     case rel=>exact ⟨k+1,by omega,fun i hi=>if h:i=k then by subst h;rw[f.o];exact decide_eq_true ⟨by omega,by omega⟩ else HI.o i (by omega),by go_num⟩
     case measure=>simp[intOf];omega
  ·go_wp2
   go_ret
   obtain rfl:k=n:=by omega
   exact ⟨congrArg (fun b=>Ending.returned (.bool b)) (Eq.symm (a.o.2 fun i hi=>HI.o i (by rw[← d.o];exact hi))),rfl⟩
def nb:Nat→Int→List Int
 | 0,_=>[]
 | k+1,n=>n / 256 ^ k % 256::nb k n
theorem nb_len (k:Nat) (n:Int):(nb k n).length=k:=by
 induction k with
 | zero=>rfl
 | succ k ih=>simp[nb,ih]
theorem nb_oct (k:Nat) (n:Int):SM.Oct (nb k n):=by
 induction k with
 | zero=>exact SM.oct_nil
 | succ k ih =>
  intro j
  match j with
  | 0=>show 0≤n / 256 ^ k % 256∧n / 256 ^ k % 256≤255;omega
  | j+1=>exact ih j
def wsn (s:Nat) (l:List Int):Nat→List Int
 | 0=>[]
 | k+1=>wsn s l k++nb s (l.getD k 0)
theorem wsn_len (s:Nat) (l:List Int) (k:Nat):(wsn s l k).length=k*s:=by
 induction k with
 | zero=>simp[wsn]
 | succ k ih=>simp only[wsn,List.length_append,ih,nb_len,Nat.succ_mul]
theorem row_one (w:World) (x:Int) (hx:0≤x∧x≤255):Row8 (w.alloc (.cells #[.int .u8 x] 5)) (some ⟨w.heap.size,0,none⟩) 1 1 [x]:=by
 refine ⟨rfl,by simp[maxLen],?_,(fun h=>by cases h),fun _=>⟨w.heap.size,0,rfl,fun i hi=>?_⟩⟩
 ·intro k
  match k with
  | 0=>simpa using hx
  | k+1=>simp
 ·obtain rfl:i=0:=by omega
  simp
theorem gr_appi {ops:Array Oper} {rest:List Oper} {o:Oper} {a:Act} {Q:Exit→Act→World→Prop} (hgd:o.guard=none) (s x:Operand)
  (ho:o.op=.call { callee:=.builtin .append,args:=#[s,x],argTypes:=#[37,37] })
  {W0:World} {v:Value} {zs:List Int} (hs:a.eval s=v) (hg:Gr W0 w v zs) {B:Nat} {l:List Int} (hi:Ints B l w) {ao:Option Addr} {len cap:Nat} {ys:List Int}
  (hx:a.eval x=.slice ao len cap) (hrow:Row8 w ao len cap ys) (hlen:zs.length+len≤1000000000)
  (h:∀ v' w',Gr W0 w' v' (zs++ys)→Ints B l w'→wpList Tryz.prog ops Q rest (a.put o.dst v') w'):wpList Tryz.prog ops Q (o::rest) a w :=
 wpList_app hgd s x ho W0.heap.size v zs hs hg.1 ao len cap ys hx hrow hlen hg.2.size (fun v' w' h1 h2=>h v' w' ⟨h1,hg.2.grown h2 hg.2.size (fun k e=>(hg.1.2.lt k e).1)⟩ (hi.grown hg.1 h2))
theorem write_any (W0:World) (v:Value) (zs:List Int) (s B n:Nat) (l:List Int) (w:World) (hg:Gr W0 w v zs) (hl:Ints B l w) (hn:l.length=n) (hs:s≤4) (hm:n≤100) (hz:zs.length≤1000000) :
  Calls Tryz.prog 209 #[v,.int .i64 s,.slice (some ⟨B,0,none⟩) n n] w fun e w'=>∃ v',e=.returned v'∧Gr W0 w' v' (zs++wsn s l n):=by
 have D:=ki hg
 have E:=ki hl
 have G:=ki hn
 clear hg hl hn
 go_enter Tryz.func209,Tryz.ntmps209
 go_wp2
 go_loopw [0,12] (fun v i wr=>∃ k:Nat,k≤n∧i=.int .i64 k∧Hid (Gr W0 wr v (zs++wsn s l k))∧Hid (Ints B l wr)) (fun _ i _=>n - (intOf i).toNat)
 case atStart=>exact ⟨0,by omega,rfl,by simpa [wsn] using D,E⟩
 case round =>
  obtain ⟨k,H,rfl,p,HI⟩:=hrel
  clear D E
  by_cases hlt:k < n
  ·have r:=HI.o.cell k (by rw[G.o];exact hlt)
   have t:=ki (wsn_len s l k)
   have y:=ki (show k*s≤400 from Nat.le_trans (Nat.mul_le_mul H hs) (by omega))
   have C:=ki (show wsn s l (k+1)=wsn s l k++nb s (l.getD k 0) from rfl)
   generalize l.getD k 0=x at r C
   have z:=ki (show (zs++wsn s l k).length≤1000400 by rw[List.length_append,t.o];have:=y.o;omega)
   have A:=ki (show zs++wsn s l (k+1)=(zs++wsn s l k)++nb s x by rw[C.o,List.append_assoc])
   generalize zs++wsn s l k=Z at p z A
   clear t y C
   go_wp2
   go_loopw [0,9] (fun v i wq=>∃ (j:Nat) (P:List Int),j≤s∧i=.int .i64 ((j:Int) - 1)∧Hid (Gr W0 wq v (Z++P))∧Hid (Ints B l wq)∧Hid (P++nb j x=nb s x)) (fun _ i _=>(intOf i+1).toNat)
   case atStart=>exact ⟨s,[],Nat.le_refl _,rfl,by rw[List.append_nil];exact p,HI,rfl⟩
   case round =>
    obtain ⟨j,P,J,rfl,g,o,q⟩:=hrel
    clear p HI r
    have f:=ki (show (Z++P).length≤1000404 by
     have I:=congrArg List.length q.o
     rw[List.length_append,nb_len,nb_len] at I
     have K:=z.o
     rw[List.length_append]
     omega)
    by_cases hj0:0 < j
    ·obtain ⟨m,rfl⟩:∃ m,j=m+1:=⟨j - 1,by omega⟩
     have d:=ki (show (P++[x / 256 ^ m % 256])++nb m x=nb s x by rw[List.append_assoc];exact q.o)
     clear q
     rcases (by omega:m=0∨m=1∨m=2∨m=3) with rfl|rfl|rfl|rfl
     ·replace d:=ki (show (P++[x % 256])++nb 0 x=nb s x by have h:=d.o;simpa only [Int.reducePow,Int.pow_zero,Int.ediv_one] using h)
      go_wp2_with (at_builtin;refine gr_appi rfl (.tmp 22) (.tmp 28) rfl rfl (g.o.below (al_below _ _)) (o.o.kept (al_below _ _)) rfl (row_one wr (x % 256) (by omega)) (by have:=f.o;omega) ?_;intro v' w' a b;replace a:=ki a;replace b:=ki b)
      go_roundw
      case rel=>exact ⟨0,_,by omega,rfl,List.append_assoc _ _ _ ▸ a,b,d⟩
      case measure=>simp[intOf]
     ·replace d:=ki (show (P++[x / 256 % 256])++nb 1 x=nb s x by have h:=d.o;simpa only [Int.reducePow,Int.pow_zero,Int.ediv_one] using h)
      go_wp2_with (at_builtin;refine gr_appi rfl (.tmp 22) (.tmp 28) rfl rfl (g.o.below (al_below _ _)) (o.o.kept (al_below _ _)) rfl (row_one wr (x / 256 % 256) (by omega)) (by have:=f.o;omega) ?_;intro v' w' a b;replace a:=ki a;replace b:=ki b)
      go_roundw
      case rel=>exact ⟨1,_,by omega,rfl,List.append_assoc _ _ _ ▸ a,b,d⟩
      case measure=>simp[intOf]
     ·replace d:=ki (show (P++[x / 65536 % 256])++nb 2 x=nb s x by have h:=d.o;simpa only [Int.reducePow,Int.pow_zero,Int.ediv_one] using h)
      go_wp2_with (at_builtin;refine gr_appi rfl (.tmp 22) (.tmp 28) rfl rfl (g.o.below (al_below _ _)) (o.o.kept (al_below _ _)) rfl (row_one wr (x / 65536 % 256) (by omega)) (by have:=f.o;omega) ?_;intro v' w' a b;replace a:=ki a;replace b:=ki b)
      go_roundw
      case rel=>exact ⟨2,_,by omega,rfl,List.append_assoc _ _ _ ▸ a,b,d⟩
      case measure=>simp[intOf]
     ·replace d:=ki (show (P++[x / 16777216 % 256])++nb 3 x=nb s x by have h:=d.o;simpa only [Int.reducePow,Int.pow_zero,Int.ediv_one] using h)
      go_wp2_with (at_builtin;refine gr_appi rfl (.tmp 22) (.tmp 28) rfl rfl (g.o.below (al_below _ _)) (o.o.kept (al_below _ _)) rfl (row_one wr (x / 16777216 % 256) (by omega)) (by have:=f.o;omega) ?_;intro v' w' a b;replace a:=ki a;replace b:=ki b)
      go_roundw
      case rel=>exact ⟨3,_,by omega,rfl,List.append_assoc _ _ _ ▸ a,b,d⟩
      case measure=>simp[intOf]
    ·obtain rfl:j=0:=by omega
     have F:=ki (show Z++P=zs++wsn s l (k+1) by rw[A.o,← q.o];simp[nb])
     go_wp2
     go_roundw
     case rel=>exact ⟨k+1,by omega,by go_num,F.o ▸ g.o,o⟩
     case measure=>simp[intOf];omega
  ·obtain rfl:k=n:=by omega
   go_wp2
   go_ret
   exact ⟨_,rfl,p.o⟩
end
section
theorem upto1 (m x:Int) (B:Nat) (w:World) (h:Ints B [x] w):Calls Tryz.prog 210 #[.int .i64 m,.slice (some ⟨B,0,none⟩) 1 1] w fun e w'=>e=.returned (.bool (up m x))∧w'=w:=by
 have h:=upto_any m B 1 [x] w rfl (by omega) h
 rw[show ups m [x]=up m x by simp[ups]] at h
 exact h
theorem ints_al (w:World) (o:Obj) (l:List Int):Ints (w.heap.size+1) l ((w.alloc o).alloc (.cells (l.map (Value.int .i64)).toArray 3)):=by
 have:=ints_new (w.alloc o) l
 rw[World.size_alloc] at this
 exact this
theorem write22 (W0:World) (v:Value) (zs:List Int) (x y:Int) (B:Nat) (w:World) (hg:Gr W0 w v zs) (hl:Ints B [x,y] w) (hz:zs.length≤1000000) :
  Calls Tryz.prog 209 #[v,.int .i64 2,.slice (some ⟨B,0,none⟩) 2 2] w fun e w'=>∃ v',e=.returned v'∧Gr W0 w' v' (zs++wsn 2 [x,y] 2) :=
 write_any W0 v zs 2 B 2 [x,y] w hg hl rfl (by omega) (by omega) hz
theorem write24 (W0:World) (v:Value) (zs:List Int) (x y:Int) (B:Nat) (w:World) (hg:Gr W0 w v zs) (hl:Ints B [x,y] w) (hz:zs.length≤1000000) :
  Calls Tryz.prog 209 #[v,.int .i64 4,.slice (some ⟨B,0,none⟩) 2 2] w fun e w'=>∃ v',e=.returned v'∧Gr W0 w' v' (zs++wsn 4 [x,y] 2) :=
 write_any W0 v zs 4 B 2 [x,y] w hg hl rfl (by omega) (by omega) hz
theorem ints2 (w:World) (x y:Int):Ints w.heap.size [x,y] (w.alloc (.cells #[.int .i64 x,.int .i64 y] 3)):=ints_new w [x,y]
def err (n:Int):Value:=.iface 28 (.int .i64 n)
def ovs (zs:List Int) (k n:Int):Int:=SM.fold (SM.tot (zs++wsn 2 [k,n] 2) (zs.length+4))
theorem overof_ok (W0 w:World) (v:Value) (zs:List Int) (k n:Int) (hg:Gr W0 w v zs) (hz:zs.length≤40) (hk:up 255 k=true) (hn:up 320 n=true) :
  Calls Tryz.prog 192 #[v,.int .i64 k,.int .i64 n] w fun e w'=>e=.returned (.tuple #[.int .i64 (ovs zs k n),.nilIface])∧Below W0.heap.size W0 w':=by
 have d:=al_below w (.cells #[.int .i64 k] 3)
 have f:=bt d (al_below _ (.cells #[.int .i64 n] 3))
 have i:=ki (hg.below f)
 have l:=ki (show ovs zs k n=SM.fold (SM.tot (zs++wsn 2 [k,n] 2) (zs.length+4)) from rfl)
 have g:=ki (show (zs++wsn 2 [k,n] 2).length=zs.length+4 by rw[List.length_append,wsn_len])
 obtain ⟨N,hN⟩:∃ N,N=zs.length+4:=⟨_,rfl⟩
 have p:=ki (show (zs++wsn 2 [k,n] 2).length=N by rw[hN];exact g.o)
 have o:=ki (show N≤2000 by omega)
 rw[← hN] at l
 have q:=ki hz
 have r:=ki (show Ints w.heap.size [k] (w.alloc (.cells #[.int .i64 k] 3)) from ints_new w [k])
 have s:=ki (show Ints (w.heap.size+1) [n] ((w.alloc (.cells #[.int .i64 k] 3)).alloc (.cells #[.int .i64 n] 3)) from ints_al w _ [n])
 clear d f hg hz hN g
 go_enter Tryz.func192,Tryz.ntmps192
 go_upto_region 3 with (first|(go_at_call 210;with_reducible refine (upto1 _ _ _ _ r.o).mono ?_;rintro e w' ⟨rfl,rfl⟩)|(go_at_call 210;with_reducible refine (upto1 _ _ _ _ s.o).mono ?_;rintro e w' ⟨rfl,rfl⟩))
 generalize (w.alloc (.cells #[.int .i64 k] 3)).alloc (.cells #[.int .i64 n] 3)=W at i ⊢
 go_wp2_with (first
  | (go_at_call 209;refine (write22 W0 v zs k n W.heap.size _ (i.o.below (al_below _ _)) (ints2 W k n) (by have:=q.o;omega)).mono ?_;rintro e t ⟨x,rfl,a⟩;obtain ⟨y,c1,h,b,-⟩:=a.1.row8;rw[p.o] at h b;subst h;replace a:=ki a;replace b:=ki b)
  | (go_at_call 244;with_reducible refine (of_ok _ _ _ _ _ b.o o.o).mono ?_;rintro e z ⟨rfl,rfl⟩))
 go_ret2
 exact ⟨by rw[l.o];rfl,a.o.2⟩
def c4v (x:Int):Value:=if up 4294967295 x=true then .nilIface else err 1
theorem c4_any (x:Int) (w:World):Calls Tryz.prog 73 #[.int .i64 x] w fun e w'=>e=.returned (c4v x)∧w'=w:=by
 by_cases h0:x < 0
 ·rw[show c4v x=err 1 from if_neg (fun h=>by have:=(up_true h).1;omega)]
  unfold err
  go_enter Tryz.func73,Tryz.ntmps73
  go_wp2
  go_ret
  exact ⟨rfl,rfl⟩
 ·by_cases h1:4294967295 < x
  ·rw[show c4v x=err 1 from if_neg (fun h=>by have:=(up_true h).2;omega)]
   unfold err
   go_enter Tryz.func73,Tryz.ntmps73
   go_wp2
   go_ret
   exact ⟨rfl,rfl⟩
  ·rw[show c4v x=.nilIface from if_pos (decide_eq_true ⟨by omega,by omega⟩)]
   go_enter Tryz.func73,Tryz.ntmps73
   go_wp2
   go_ret
   exact ⟨rfl,rfl⟩
theorem c4v_ok {x:Int} (h:up 4294967295 x=true):c4v x=.nilIface:=if_pos h
theorem c4v_bad {x:Int} (h:up 4294967295 x=false):c4v x=.iface 28 (.int .i64 1):=if_neg (by rw[h];decide)
theorem over4_ok (s d k n:Int) (w:World) (hs:up 4294967295 s=true) (hd:up 4294967295 d=true) (hk:up 255 k=true) (hn:up 320 n=true) :
  Calls Tryz.prog 149 #[.int .i64 s,.int .i64 d,.int .i64 k,.int .i64 n] w fun e w'=>e=.returned (.tuple #[.int .i64 (ovs (wsn 4 [s,d] 2) k n),.nilIface])∧Below w.heap.size w w':=by
 have es:=c4v_ok hs
 have o:=c4v_ok hd
 have g:=ki (show (wsn 4 [s,d] 2).length≤40 by rw[wsn_len];omega)
 have f:=ki (fun W B h hi=>write24 w (.slice none 0 0) [] s d B W h hi (by simp))
 have i:=ki (fun W v h hz=>overof_ok w W v (wsn 4 [s,d] 2) k n h hz hk hn)
 simp only[List.nil_append] at f
 have l:=ki ((Gr.nil w).below (al_below w (.cells #[.int .i64 s,.int .i64 d] 3)))
 clear hs hd hk hn
 generalize wsn 4 [s,d] 2=Z at g f i ⊢
 go_enter Tryz.func149,Tryz.ntmps149
 go_wp2_with (first
  | (go_at_call 73;refine (c4_any _ _).mono ?_;rintro e w' ⟨rfl,rfl⟩)
  | (go_at_call 209;refine (f.o _ _ l.o (ints2 _ s d)).mono ?_;rintro e p ⟨q,rfl,a⟩;replace a:=ki a)
  | (go_at_call 192;refine (i.o _ _ a.o g.o).mono ?_;rintro e r ⟨rfl,b⟩;replace b:=ki b))
 go_ret2
 exact ⟨rfl,b.o⟩
end
section
variable {w:World}
attribute [local go_sem ↓] Go.wp_at_zero Go.wp_at_succ
theorem at_load6 {ops:Array Oper} {rest:List Oper} {o:Oper} {f:Act} {Q:Exit→Act→World→Prop} (hgd:o.guard=none) (x:Operand) (ho:o.op=.load 23 x)
  {B:Nat} {z:List Int} (hx:f.eval x=.pointer (some ⟨B,0,none⟩)) (p:SixIn B z w)
  (hK:wpList Tryz.prog ops Q rest (f.put o.dst (.agg (sixC z))) w):wpList Tryz.prog ops Q (o::rest) f w :=
 wpList_load_row hgd 23 x ho B hx 23 _ (0,0) _ p Tryz.underlying23 rfl (by kernel_rfl) hK
theorem step_app {ops:Array Oper} {o:Oper} {a:Act} {K:Act→World→Prop} {Q:Exit→Act→World→Prop} {E:Prop} (hgd:o.guard=none) (s x:Operand)
  (ho:o.op=.call { callee:=.builtin .append,args:=#[s,x],argTypes:=#[37,37] })
  (base:Nat) (v:Value) (zs:List Int) (hs:a.eval s=v) (hown:Own base w v zs) (ao:Option Addr) (hao:∃ ad,ao=some ad) (len cap:Nat) (ys:List Int) (n:Nat) (hn:(zs++ys).length=n)
  (hx:a.eval x=.slice ao len cap) (hrow:Row8 w ao len cap ys) (hlen:zs.length+len≤1000000000) (hbase:base≤w.heap.size)
  (h:∀ a' c' w',Own base w' (.slice a' n c') (zs++ys)→w.grownBy w' v.ownBlock→K (a.put o.dst (.slice a' n c')) w'):if Region.wanted o (yielded ops a.tmps)=true then Oper.wp Tryz.prog o a w K Q else E:=by
 have hw:Region.wanted o (yielded ops a.tmps)=true:=by simp[Region.wanted,hgd]
 rw[if_pos hw]
 obtain ⟨ad,rfl⟩:=hao
 obtain ⟨l,p,g,i,k⟩:=info_parts Tryz.infoByte
 obtain ⟨r1,D,q,F,r⟩:=hrow
 refine wp_append_own w s x 37 ho base 5 l (.int .u8 0) 1 1 Tryz.underlying37 p g i k rfl (by decide) v zs.length _ hs hown.2 ad len cap (ys.map (Value.int .u8)) hx (by simp[r1]) ?_ (ints_oneCell .u8 ys) (by unfold maxLen;omega) (by omega) hbase ?_
 ·intro j u f
  have t:j < ys.length:=by
   have:=(List.getElem?_eq_some_iff.1 f).1
   simpa using this
  obtain ⟨b,d,y,z⟩:=r (by omega)
  have hc:=z j (by omega)
  obtain rfl:ad=⟨b,d,none⟩:=by simpa using y
  have e:(⟨b,d,none⟩:Addr).add j=⟨b,d+j,none⟩:=by unfold Addr.add;split <;> simp_all
  rw[e,hc]
  rw[List.getElem?_map] at f
  simp[t] at f ⊢
  exact f
 ·intro A w' B C _
  have ho:Own base w' A (zs++ys):=by
   refine ⟨SM.oct_append _ _ hown.1 q,?_⟩
   rw[List.map_append,List.length_append,r1]
   exact B
  obtain ⟨a',c',e,_,_⟩:=ho.row8
  rw[hn] at e
  rw[e] at ho ⊢
  exact h a' c' w' ho C
def hload (x:Value):Sem Value:=Instr.loadAt 23 x
theorem hload_shut (x:Value):Instr.loadAt 23 x=hload x:=rfl
theorem six_al (z:List Int) (w:World):SixIn w.heap.size z (w.alloc (.cells (sixC z) 23)):=six_new z w
theorem six_al2 (z:List Int) (w:World) (o:Obj):SixIn (w.heap.size+1) z ((w.alloc o).alloc (.cells (sixC z) 23)):=by
 have:=six_al z (w.alloc o)
 rw[World.size_alloc] at this
 exact this
theorem abytes_own (z:List Int) (w:World) (hz:Ok6 z):Calls Tryz.prog 126 #[.agg (sixC z)] w fun e w'=>∃ a c,e=.returned (.tuple #[.slice a 16 c,.nilIface])∧Gr w w' (.slice a 16 c) (by16 z 8):=by
 refine (bytes_ok z w hz).mono ?_
 rintro e w' ⟨v,rfl,d,hb⟩
 have b:Own w.heap.size w' v (by16 z 8):=⟨oct_by16 z hz 8 (by omega),by
  unfold OwnG u8s at d
  rw[List.length_map] at d
  exact d⟩
 obtain ⟨a,c,hv,f,_⟩:=b.row8
 rw[by16_len] at hv
 subst hv
 exact ⟨a,c,rfl,b,hb⟩
theorem over6_any (s d:List Int) (k n:Int) (w:World) (hs:Ok6 s) (hd:Ok6 d) (R:Int) (E:Value) (hO:∀ W0 W v,Gr W0 W v (by16 s 8++by16 d 8)→Calls Tryz.prog 192 #[v,.int .i64 k,.int .i64 n] W fun e w'=>e=.returned (.tuple #[.int .i64 R,E])∧Below W0.heap.size W0 w') :
  Calls Tryz.prog 138 #[.agg (sixC s),.agg (sixC d),.int .i64 k,.int .i64 n] w fun e w'=>e=.returned (.tuple #[.int .i64 R,E])∧Below w.heap.size w w':=by
 have q:=ki (fun w=>abytes_own s w hs)
 have r:=ki (fun w=>abytes_own d w hd)
 have o:=ki hO
 have i:=ki (by16_len s 8)
 clear hs hd hO
 generalize by16 s 8=S at q o i
 generalize by16 d 8=D at r o
 have t:=al_below w (.cells (sixC s) 23)
 have p:=al_below (w.alloc (.cells (sixC s) 23)) (.cells (sixC d) 23)
 have f:=ki (bt t p)
 have x:=ki ((six_al s w).kept p)
 have h:=ki (six_al2 d w (.cells (sixC s) 23))
 clear t p
 go_enter Tryz.func138,Tryz.ntmps138
 go_upto_region 1 with fail
 generalize (w.alloc (.cells (sixC s) 23)).alloc (.cells (sixC d) 23)=W at f x h ⊢
 go_upto_region 4 with (first
  | (refine at_load6 rfl (.tmp 4) rfl rfl x.o ?_)
  | (go_at_call 126;(with_reducible refine (q.o _).mono ?_);rintro e y ⟨z,c1,rfl,a⟩;replace a:=ki a))
 replace h:=ki (h.o.kept a.o.2)
 go_upto_region 7 with (first
  | (refine at_load6 rfl (.tmp 5) rfl rfl h.o ?_)
  | (go_at_call 126;(with_reducible refine (r.o _).mono ?_);rintro e A ⟨B,c2,rfl,b⟩;replace a:=ki (a.o.below b.2);replace b:=ki b))
 go_wp2_with (first
  | (at_builtin;refine gr_app rfl (.tmp 29) (.tmp 30) rfl rfl a.o rfl b.o.1.toRow (by rw[i.o];omega) ?_;intro C F g;replace g:=ki g)
  | (go_at_call 192;refine (o.o _ _ _ g.o).mono ?_;rintro e G ⟨rfl,l⟩;replace f:=ki (f.o.trans (l.mono f.o.size));clear l))
 go_ret2
 exact ⟨rfl,f.o⟩
theorem SixIn.hl {B:Nat} {z:List Int} (p:SixIn B z w):(hload (.pointer (some ⟨B,0,none⟩))).run Tryz.prog w=.ok (.agg (sixC z)) w :=
 run_loadAt_mid w B 0 23 (sixC z).toList _ (fun j v hv=>by
  rw[Nat.zero_add]
  have hj:j < 8:=(List.getElem?_eq_some_iff.1 hv).1
  rw[(p.facts j hj).1]
  rcases (by omega:j=0∨j=1∨j=2∨j=3∨j=4∨j=5∨j=6∨j=7) with rfl|rfl|rfl|rfl|rfl|rfl|rfl|rfl <;> exact hv) Tryz.underlying23 rfl (by kernel_rfl)
end
section
variable {z:List Int} {B cap:Nat} {a:Option Addr} {w w':World}
def sgC (z:List Int) (a:Option Addr) (len cap:Nat):Array Value:=#[.int .i64 (el z 0),.int .i64 (el z 1),.int .i64 (el z 2),.int .i64 (el z 3),.int .i64 (el z 4),.int .i64 (el z 5),.int .i64 (el z 6),.slice a len cap]
def SgIn (B:Nat) (z:List Int) (a:Option Addr) (len cap:Nat) (w:World):Prop:=w.heap[B]? = some (.cells (sgC z a len cap) 39 (0,0))
theorem SgIn.lt {len:Nat} (p:SgIn B z a len cap w):B < w.heap.size:=(Array.getElem?_eq_some_iff.1 p).1
theorem SgIn.kept {len:Nat} (p:SgIn B z a len cap w) (hb:Below w.heap.size w w'):SgIn B z a len cap w':=(hb.block B p.lt).trans p
theorem SgIn.grown {len:Nat} (p:SgIn B z a len cap w) {r:Option Nat} (hg:w.grownBy w' r) (hr:some B≠r):SgIn B z a len cap w':=(hg.block _ p.lt hr).trans p
theorem sg_new (w:World) (z:List Int) (a:Option Addr) (len cap:Nat):SgIn w.heap.size z a len cap (w.alloc (.cells (sgC z a len cap) 39)):=heap_alloc_new w _
theorem SgIn.cellAt {len:Nat} (p:SgIn B z a len cap w) (j:Nat):w.cell? ⟨B,j,none⟩=(sgC z a len cap)[j]?:=cell_of_row w B j _ _ _ p
theorem SgIn.c0 {len:Nat} (p:SgIn B z a len cap w):w.cell? ⟨B,0,none⟩=some (.int .i64 (el z 0)):=p.cellAt 0
theorem SgIn.c1 {len:Nat} (p:SgIn B z a len cap w):w.cell? ⟨B,1,none⟩=some (.int .i64 (el z 1)):=p.cellAt 1
theorem SgIn.c2 {len:Nat} (p:SgIn B z a len cap w):w.cell? ⟨B,2,none⟩=some (.int .i64 (el z 2)):=p.cellAt 2
theorem SgIn.c3 {len:Nat} (p:SgIn B z a len cap w):w.cell? ⟨B,3,none⟩=some (.int .i64 (el z 3)):=p.cellAt 3
theorem SgIn.c4 {len:Nat} (p:SgIn B z a len cap w):w.cell? ⟨B,4,none⟩=some (.int .i64 (el z 4)):=p.cellAt 4
theorem SgIn.c5 {len:Nat} (p:SgIn B z a len cap w):w.cell? ⟨B,5,none⟩=some (.int .i64 (el z 5)):=p.cellAt 5
theorem SgIn.c6 {len:Nat} (p:SgIn B z a len cap w):w.cell? ⟨B,6,none⟩=some (.int .i64 (el z 6)):=p.cellAt 6
theorem SgIn.c7 {len:Nat} (p:SgIn B z a len cap w):w.cell? ⟨B,7,none⟩=some (.slice a len cap):=p.cellAt 7
theorem Only.sg {B':Nat} (h:Only B w w') {len:Nat} (p:SgIn B' z a len cap w) (hne:B'≠B):SgIn B' z a len cap w':=(h.2.2.2.2 B' hne).trans p
theorem at_load {ops:Array Oper} {rest:List Oper} {o:Oper} {f:Act} {Q:Exit→Act→World→Prop} (hgd:o.guard=none) (x:Operand) (ho:o.op=.load 39 x)
  {B:Nat} {z:List Int} {a:Option Addr} {len cap:Nat} (hx:f.eval x=.pointer (some ⟨B,0,none⟩)) (p:SgIn B z a len cap w)
  (hK:wpList Tryz.prog ops Q rest (f.put o.dst (.agg (sgC z a len cap))) w):wpList Tryz.prog ops Q (o::rest) f w :=
 wpList_load_row hgd 39 x ho B hx 39 _ (0,0) _ p Tryz.underlying39 rfl (by kernel_rfl) hK
theorem SgIn.stored {z0:List Int} {a0:Option Addr} {len0 cap0:Nat} (p:SgIn B z0 a0 len0 cap0 w) (z:List Int) (a:Option Addr) (len cap:Nat):SgIn B z a len cap (w.setRow B (sgC z a len cap)):=setRow_heap w B _ _ _ (0,0) p
theorem at_store {ops:Array Oper} {rest:List Oper} {o:Oper} {f:Act} {Q:Exit→Act→World→Prop} (hgd:o.guard=none) (x y:Operand) (ho:o.op=.store 39 x y)
  {B:Nat} {z0:List Int} {a0:Option Addr} {len0 cap0:Nat} (hx:f.eval x=.pointer (some ⟨B,0,none⟩)) (p:SgIn B z0 a0 len0 cap0 w)
  (z:List Int) (a:Option Addr) (len cap:Nat) (hy:f.eval y=.agg (sgC z a len cap))
  (hK:∀ w',SgIn B z a len cap w'→Only B w w'→wpList Tryz.prog ops Q rest (f.put o.dst undef) w'):wpList Tryz.prog ops Q (o::rest) f w :=
 wpList_store_row hgd 39 x y ho B _ hx hy 39 _ p (by kernel_rfl) rfl (by unfold sgC;simp[Value.oneCell']) (hK _ (p.stored z a len cap) (only_setRow _ _ _))
theorem results_sg {fn:Func} {p u:Tmp} (h:fn.results=#[.cell p 39,.tmp u]) (tmps:Array Value) (w:World) (B:Nat) (z:List Int) (a:Option Addr) (len cap:Nat)
  (ht:tmps.getD p undef=.pointer (some ⟨B,0,none⟩)) (hg:SgIn B z a len cap w) :
  (results fn tmps).run Tryz.prog w=.ok (.tuple #[.agg (sgC z a len cap),tmps.getD u undef]) w:=by
 rw[results_cell_tmp h,ht]
 have hl:=run_loadVar_row (P:=Tryz.prog) w B 39 39 _ (0,0) _ hg Tryz.underlying39 rfl (by kernel_rfl)
 simp[asAddr,hl]
theorem sg_result {fn:Func} {p:Tmp} (h:fn.results=#[.cell p 39]) (tmps:Array Value) (w:World) (B:Nat) (z:List Int) (a:Option Addr) (len cap:Nat)
  (ht:tmps.getD p undef=.pointer (some ⟨B,0,none⟩)) (hg:SgIn B z a len cap w):(results fn tmps).run Tryz.prog w=.ok (.agg (sgC z a len cap)) w :=
 results_cell_row h tmps w B 39 _ (0,0) _ ht hg Tryz.underlying39 rfl (by kernel_rfl)
def gload (x:Value):Sem Value:=Instr.loadAt 39 x
theorem gload_shut (x:Value):Instr.loadAt 39 x=gload x:=rfl
theorem SgIn.gl {len:Nat} (p:SgIn B z a len cap w):(gload (.pointer (some ⟨B,0,none⟩))).run Tryz.prog w=.ok (.agg (sgC z a len cap)) w :=
 run_loadAt_mid w B 0 39 (sgC z a len cap).toList _ (fun j v hv=>by
  rw[Nat.zero_add,p.cellAt]
  simpa using hv) Tryz.underlying39 rfl (by kernel_rfl)
def gstore (x y:Value):Sem Unit:=Instr.storeAt 39 x y
theorem gstore_shut (x y:Value):Instr.storeAt 39 x y=gstore x y:=rfl
theorem SgIn.held {z0:List Int} {a0:Option Addr} {len0 cap0:Nat} (p:SgIn B z0 a0 len0 cap0 w) (z:List Int) (a:Option Addr) (len cap:Nat) :
  ∃ w',(gstore (.pointer (some ⟨B,0,none⟩)) (.agg (sgC z a len cap))).run Tryz.prog w=.ok () w'∧SgIn B z a len cap w'∧Only B w w':=by
 refine ⟨w.setRow B (sgC z a len cap),?_,p.stored z a len cap,only_setRow _ _ _⟩
 unfold gstore
 simp only[Instr.storeAt,Instr.sureAddr,Sem.run_bind,Sem.run_pure,Result.andThen_ok]
 exact run_storeVar_row w B 39 39 _ (sgC z a len cap) p (by kernel_rfl) rfl (by unfold sgC;simp[Value.oneCell'])
theorem upto1b (m x:Int) (W:World):Calls Tryz.prog 210 #[.int .i64 m,.slice (some ⟨W.heap.size,0,none⟩) 1 1] (W.alloc (.cells #[.int .i64 x] 3)) fun e w'=>e=.returned (.bool (up m x))∧Below W.heap.size W w' :=
 (upto1 m x W.heap.size _ (ints_new W [x])).mono fun e w' ⟨h1,h2⟩=>⟨h1,by rw[h2];exact al_below _ _⟩
theorem upto2b (m x y:Int) (W:World):Calls Tryz.prog 210 #[.int .i64 m,.slice (some ⟨W.heap.size,0,none⟩) 2 2] (W.alloc (.cells #[.int .i64 x,.int .i64 y] 3)) fun e w'=>e=.returned (.bool (ups m [x,y]))∧Below W.heap.size W w' :=
 (upto_any m W.heap.size 2 [x,y] _ rfl (by omega) (ints_new W [x,y])).mono fun e w' ⟨h1,h2⟩=>⟨h1,by rw[h2];exact al_below _ _⟩
theorem upto4b (m x y u v:Int) (W:World):Calls Tryz.prog 210 #[.int .i64 m,.slice (some ⟨W.heap.size,0,none⟩) 4 4] (W.alloc (.cells #[.int .i64 x,.int .i64 y,.int .i64 u,.int .i64 v] 3)) fun e w'=>e=.returned (.bool (ups m [x,y,u,v]))∧Below W.heap.size W w' :=
 (upto_any m W.heap.size 4 [x,y,u,v] _ rfl (by omega) (ints_new W [x,y,u,v])).mono fun e w' ⟨h1,h2⟩=>⟨h1,by rw[h2];exact al_below _ _⟩
def os (z:List Int):Bool:=ups 4294967295 [el z 3,el z 4] && up 31 (el z 5) && up 65535 (el z 6)
theorem stream_any (z:List Int) (a:Option Addr) (len cap:Nat) (w:World) :
  Calls Tryz.prog 257 #[.agg (sgC z a len cap)] w fun e w'=>e=.returned (.bool (os z))∧Below w.heap.size w w':=by
 have d:=ki (al_below w (.cells (sgC z a len cap) 39))
 have b:=ki (sg_new w z a len cap)
 have f:=ki (show os z=(ups 4294967295 [el z 3,el z 4] && up 31 (el z 5) && up 65535 (el z 6)) from rfl)
 generalize os z=O at f ⊢
 generalize h1:ups 4294967295 [el z 3,el z 4]=u1 at f
 generalize h2:up 31 (el z 5)=u2 at f
 generalize h3:up 65535 (el z 6)=u3 at f
 go_enter Tryz.func257,Tryz.ntmps257
 go_upto_region 1 with fail
 generalize w.alloc (.cells (sgC z a len cap) 39)=W at d b ⊢
 have l:=b.o.c3
 have n:=b.o.c4
 have i:=b.o.c5
 have k:=b.o.c6
 cases u1
 case' true=>cases u2
 all_goals
  go_wp2_with (first
   | (go_at_call 210;(with_reducible refine (upto2b _ _ _ _).mono ?_);rintro e o ⟨rfl,g⟩;replace d:=ki (bt d.o g);replace b:=ki (b.o.kept g);clear g l n i k;have i:=b.o.c5;have k:=b.o.c6)
   | (go_at_call 210;(with_reducible refine (upto1b _ _ _).mono ?_);rintro e p ⟨rfl,h⟩;replace d:=ki (bt d.o h);replace b:=ki (b.o.kept h);clear h i k;have i:=b.o.c5;have k:=b.o.c6))
  go_ret
  exact ⟨by rw[f.o];rfl,d.o⟩
end
end Go.Proofs.YtgcojnlngchllaaGreatDoor
