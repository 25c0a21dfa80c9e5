/- A gate and a builder side by side, line by line. What a line leaves of a gate; a text's lines; the config. The config of a session. Run, by a contract: a text of at most 3000 bytes is answered line by line. What a text's first lines are answered; one text's answer, reckoned. The first lines' answers are the beginning of all. -/
import Derived.Test.YtgcojnlngchllaaGreatDoorK47
namespace Go.Proofs.YtgcojnlngchllaaGreatDoor
open Go.RowKit
set_option linter.unusedVariables false
set_option maxRecDepth 100000
set_option maxHeartbeats 40000000
section
set_option linter.unusedSimpArgs false
variable {g:GS} {l:List Int} {G b:Nat} {Ox:Nat→Prop} {W X w w':World}
theorem SS.past {S:Nat} {β:Int→Nat} {ss:List (Int×List Int×Int×Bool×Bool)} (h:SS S β ss w) (hs:∀ k,SO S β ss k→w'.heap[k]? = w.heap[k]?) (hh:∀ k,SO S β ss (k+1)→w'.heap[k]? = w.heap[k]?):SS S β ss w':=by
 refine ⟨h.1.same (hs S (.inl rfl)),fun x hx=>?_,h.2.2⟩
 obtain ⟨a,n,c,l,p,q,f⟩:=h.2.1 x hx
 refine ⟨a,n,c,(hs _ (.inr ⟨x,hx,rfl⟩)).trans l,?_,q,f⟩
 obtain ⟨r1,r,s,t,v⟩:=p
 refine ⟨r1,r,s,t,fun hp=>?_⟩
 obtain ⟨y,g,rfl⟩:=f hp
 have e:=hh (β x.1 - 1) (.inr ⟨x,hx,by omega⟩)
 obtain ⟨b,o,d,hc⟩:=v hp
 injection d with d
 injection d with e2 e3
 subst e2 e3
 exact ⟨_,_,rfl,fun i hi=>(World.cell?_of_block (a:=⟨β x.1 - 1,g+i,none⟩) e).trans (hc i hi)⟩
theorem GH.past {O:Nat→Prop} {W':World} (h:GH w G g O W) (hs:W.heap.size≤W'.heap.size) (hk:∀ k,O k→W'.heap[k]? = W.heap[k]?) (hh:∀ k,O (k+1)→W'.heap[k]? = W.heap[k]?) (hb:Below w.heap.size w W'):GH w G g O W':=by
 obtain ⟨a,d,e,S,f,β,rfl,b,i,-⟩:=h
 exact ⟨a,d,e,S,f,β,rfl,⟨b.1.same (hk G (.inl rfl)),⟨b.2.1.1.same (fun k q=>hk k (.inr (.inl q))),fun k q=>Nat.lt_of_lt_of_le (b.2.1.2.1 k q) hs,b.2.1.2.2⟩,(tb_kept _ _ _ _ _ _ _ b.2.2.1).2 W' hs (fun k q=>hk k (.inr (.inr (.inl q)))),SS.past b.2.2.2.1 (fun k q=>hk k (.inr (.inr (.inr q)))) (fun k q=>hh k (.inr (.inr (.inr q)))),b.2.2.2.2⟩,i,hb⟩
theorem own_blk {base:Nat} {v:Value} {zs:List Int} (h:Own base w v zs) (he:∀ g,v.ownBlock=some g→w'.heap[g]? = w.heap[g]?):Own base w' v zs:=by
 refine ⟨h.1,h.2.1,?_⟩
 rcases h.2.2 with h2|⟨g,cap,cur,rfl,hb',hg,rest⟩
 ·exact .inl h2
 ·exact .inr ⟨g,cap,cur,rfl,hb',(he g rfl).trans hg,rest⟩
def RS (w:World) (G b:Nat) (X:World) (Ox:Nat→Prop) (g:GS) (l:List Int) (W:World):Prop:=∃ O v p,GH w G g O W∧(∀ k,O k→Ox k∨X.heap.size≤k)∧(∀ k,k < X.heap.size→¬ Ox k→k≠b→W.heap[k]? = X.heap[k]?)∧X.heap.size≤W.heap.size∧BB b v p W∧(p=.pointer none∨p=.pointer (some ⟨b,0,none⟩))∧Own X.heap.size W v l∧¬ O b∧¬ O (b+1)∧∀ k,v.ownBlock=some k→¬ O k∧¬ O (k+1)
theorem RS.answer (h:RS w G b X Ox g l W) (hbX:b < X.heap.size) (hg:OB g) (t:List UInt8) (ht:t.length≤70000) (hA:LA w) :
  Calls Tryz.prog 62 #[ssn G,Ad.strv t] W fun e w'=>e=.returned (Ad.strv (ansF g t).1)∧RS w G b X Ox (ansF g t).2 l w':=by
 obtain ⟨O,v,p,r,n,s,h4,o,x,i,h8,y,a⟩:=h
 refine (answer_gh hg t ht w G O W r hA).mono ?_
 rintro e w' ⟨rfl,z,A,d,f⟩
 have hb:=(Array.getElem?_eq_some_iff.1 o).1
 refine ⟨rfl,z,v,p,A,fun k hk=>(d k hk).elim (fun q=>n k q) (fun q=>.inr (by omega)),fun k hk hn hne=>(f.1.2.2.2.2 k (by omega) (fun ho=>(n k ho).elim hn (fun q=>by omega))).trans (s k hk hn hne),Nat.le_trans h4 f.size,(f.1.2.2.2.2 b hb h8).trans o,x,own_blk i (fun g hg=>f.1.2.2.2.2 g (i.2.lt g hg).2 (a g hg).1),fun ho=>(d b ho).elim h8 (fun q=>by omega),fun ho=>(d _ ho).elim y (fun q=>by omega),fun k hk=>?_⟩
 have B:=(i.2.lt k hk).2
 exact ⟨fun ho=>(d k ho).elim (a k hk).1 (fun q=>by omega),fun ho=>(d _ ho).elim (a k hk).2 (fun q=>by omega)⟩
theorem RS.turn {O:Nat→Prop} {v:Value} (hbw:w.heap.size≤b) (hbX:b < X.heap.size) (h1:GH w G g O W) (h2:∀ k,O k→Ox k∨X.heap.size≤k) (h3:∀ k,k < X.heap.size→¬ Ox k→k≠b→W.heap[k]? = X.heap[k]?) (h4:X.heap.size≤W.heap.size)
  (hv:∀ k,v.ownBlock=some k→X.heap.size≤k∧k < W.heap.size) (h8:¬ O b) (h9:¬ O (b+1)) (h10:∀ k,v.ownBlock=some k→¬ O k∧¬ O (k+1)) (q:BW b v X.heap.size W w' l):RS w G b X Ox g l w':=by
 obtain ⟨o,p,r,s,t,x,y,i,f⟩:=q
 have h:∀ k,O k→k≠b∧some k≠v.ownBlock:=fun k hk=>⟨fun e=>h8 (e ▸ hk),fun e=>(h10 k e.symm).1 hk⟩
 have d:∀ k,O (k+1)→k≠b∧some k≠v.ownBlock:=fun k hk=>⟨fun e=>h9 (e ▸ hk),fun e=>(h10 k e.symm).2 hk⟩
 have a:=h1.below
 have n:Below w.heap.size w w':=⟨t.trans a.os,x.trans a.tape,y.trans a.output,Nat.le_trans a.size i,fun k hk=>(f k (Nat.lt_of_lt_of_le hk a.size) (by omega) (fun e=>by have:=(hv k e.symm).1;omega)).trans (a.block k hk)⟩
 refine ⟨O,o,_,h1.past i (fun k hk=>f k (h1.lt hk) (h k hk).1 (h k hk).2) (fun k hk=>f k (by have:=h1.lt hk;omega) (d k hk).1 (d k hk).2) n,h2,fun k hk hn hkb=>(f k (by omega) hkb (fun e=>by have:=(hv k e.symm).1;omega)).trans (h3 k hk hn hkb),Nat.le_trans h4 i,p,.inr rfl,r,h8,h9,fun k hk=>?_⟩
 rcases s with e|⟨B1,e,hB1⟩
 ·exact h10 k (e ▸ hk)
 ·rw[e] at hk
  injection hk with hk
  subst hk
  exact ⟨fun ho=>by have:=h1.lt ho;omega,fun ho=>by have:=h1.lt ho;omega⟩
theorem RS.told (h:RS w G b X Ox g l W) (hbw:w.heap.size≤b) (hbX:b < X.heap.size) (s:List UInt8) (hl:l.length+s.length≤1000000000) :
  Calls Tryz.prog 61 #[.pointer (some ⟨b,0,none⟩),Ad.strv s] W fun e w'=>(∃ u,e=.returned u)∧RS w G b X Ox g (l++byI s) w'∧∃ v,BB b v (.pointer (some ⟨b,0,none⟩)) w':=by
 obtain ⟨O,v,p,f,i,n,h4,o,r,a,h8,t,d⟩:=h
 refine (ws_own b v p l W X.heap.size o r a hbX h4 s hl).mono ?_
 rintro e w' ⟨x,q⟩
 exact ⟨x,RS.turn hbw hbX f i n h4 (fun k hk=>a.2.lt k hk) h8 t d q,by obtain ⟨y,z,-⟩:=q;exact ⟨y,z⟩⟩
theorem RS.wb (h:RS w G b X Ox g l W) (hp:∃ v,BB b v (.pointer (some ⟨b,0,none⟩)) W) (hbw:w.heap.size≤b) (hbX:b < X.heap.size) (hl:l.length+1≤1000000000) :
  Calls Tryz.prog 63 #[.pointer (some ⟨b,0,none⟩),.int .u8 10] W fun e w'=>e=.returned .nilIface∧RS w G b X Ox g (l++[10]) w':=by
 obtain ⟨O,v,p,n,o,r,h4,d,y,f,h8,s,i⟩:=h
 obtain ⟨z,hp⟩:=hp
 have e:=d.symm.trans hp
 simp only[Option.some.injEq,Obj.cells.injEq,and_true] at e
 have t:p=.pointer (some ⟨b,0,none⟩):=by
  have:=congrArg (fun a=>a.getD 0 undef) e
  simpa using this
 subst t
 refine (wb_own b v l W X.heap.size d f hbX h4 hl).mono ?_
 rintro e w' ⟨x,q⟩
 exact ⟨x,RS.turn hbw hbX n o r h4 (fun k hk=>f.2.lt k hk) h8 s i q⟩
end
section
set_option linter.unusedSimpArgs false
variable {g:GS}
theorem mapM_mem {f:Nat→Option Int}:∀ (l:List Nat) {r:List Int} ,l.mapM f=some r→∀ x ∈ r,∃ i ∈ l,f i=some x
 | [],r,h=>by simp at h;subst h;intro x hx;cases hx
 | y::l,r,h=>by
  rw[List.mapM_cons] at h
  cases hy:f y with
  | none=>rw[hy] at h;cases h
  | some z =>
   rw[hy] at h
   cases hl:l.mapM f with
   | none=>rw[hl] at h;cases h
   | some t =>
    rw[hl] at h
    have e:r=z::t:=by cases h;rfl
    subst e
    intro x hx
    rcases List.mem_cons.1 hx with rfl|hx
    ·exact ⟨y,by simp,hy⟩
    ·obtain ⟨i,hi,e⟩:=mapM_mem l hl x hx
     exact ⟨i,by simp[hi],e⟩
theorem hv_lt' (c:UInt8) (d:Nat) (h:Ad.AM.hv c=some d):d < 16:=hv_lt ⟨c.toNat,c.toNat_lt⟩ d (by rw[of_fin];exact h)
theorem bytes_oct {w:List UInt8} {zs:List Int} (h:bytesF w=some zs):SM.Oct zs:=by
 have b:∀ x ∈ zs,0≤x∧x≤255:=by
  unfold bytesF at h
  split at h
  ·cases h;intro x a;cases a
  ·unfold rdB at h
   split at h
   ·intro x a
    obtain ⟨i,_,e⟩:=mapM_mem _ h x a
    unfold pr2 at e
    split at e
    ·rename_i p q hp hq
     have d:=hv_lt' _ _ hp
     have f:=hv_lt' _ _ hq
     injection e with e
     omega
    ·cases e
   ·cases h
 intro k
 rw[List.getD_eq_getElem?_getD]
 cases hk:zs[k]? with
 | none=>simp
 | some x=>exact b x (List.mem_of_getElem? hk)
theorem OB.sm {g':GS} (h:OB g) (hi:IG g') (hs:Sm g g'):OB g':=⟨hi,by rw[hs.1];exact h.2.1,by rw[hs.2.2.1];exact h.2.2⟩
theorem ob_snd (h:OB g) {s d z D:List Int} (hs:Ok6 s) (hd:Ok6 d) (hD:SM.Oct D):OB (snd g s d z D).2.2:=by
 unfold snd
 by_cases hz:sf z D.length=0
 ·rw[if_pos hz]
  have:=g6_ig h.1 (p6o_oct (t:=64) hs hd (by decide) ((sf_iff _ _).1 hz) hD)
  exact h.sm this.1 this.2
 ·rw[if_neg hz];exact h
theorem gtk_cb (g:GS) (n:Int):(gtk g n).2.c=g.c∧(gtk g n).2.bk=g.bk:=by
 unfold gtk
 split
 ·exact ⟨rfl,rfl⟩
 ·exact ⟨rfl,rfl⟩
theorem gmk_cb (g:GS) (n:Int) (f:List Int→List Int):(gmk g n f).2.c=g.c∧(gmk g n f).2.bk.length=g.bk.length:=by
 unfold gmk
 split
 ·exact ⟨rfl,rfl⟩
 ·exact ⟨rfl,List.length_set ..⟩
theorem ob_ch (h:OB g) (v:List UInt8) (n:Int):OB (chF g v n).2:=by
 unfold chF
 split
 ·have e:=gtk_cb g n
  exact ⟨gtk_ig h.1 n,by rw[e.1];exact h.2.1,by rw[e.2];exact h.2.2⟩
 ·split
  ·have e:=gmk_cb g n (fun x=>bdr x true)
   exact ⟨gmk_ig h.1 n (fun x=>rfl) (fun x=>rfl),by rw[e.1];exact h.2.1,by rw[e.2];exact h.2.2⟩
  ·have e:=gmk_cb g n (fun x=>bup x (v == vUp))
   exact ⟨gmk_ig h.1 n (fun x=>rfl) (fun x=>rfl),by rw[e.1];exact h.2.1,by rw[e.2];exact h.2.2⟩
theorem ob_line (h:OB g) (l:List UInt8) {r:List UInt8×GS} (hr:obF g l=some r):OB r.2:=by
 unfold obF at hr
 split at hr
 ·cases hr
 ·rename_i v q _
  split at hr
  ·unfold sixF at hr
   split at hr
   ·rename_i zs _ hz
    cases hr
    have:=g6_ig h.1 (bytes_oct hz)
    exact h.sm this.1 this.2
   ·cases hr
  ·split at hr
   ·unfold fourF at hr
    split at hr
    ·rename_i zs _ hz
     cases hr
     have:=g4_ig h.1 zs
     exact h.sm this.1 this.2
    ·cases hr
   ·split at hr
    ·unfold sayF at hr
     split at hr
     ·unfold sayF_of at hr
      split at hr
      ·rename_i z n hz _
       cases hr
       exact ob_snd h (rd6_ok hz) h.2.1.1 (oct_byI _)
      ·cases hr
     ·cases hr
    ·split at hr
     ·unfold callF at hr
      split at hr
      ·unfold callF_of at hr
       split at hr
       ·rename_i z n f d hz _ _ _
        cases hr
        exact ob_snd h (rd6_ok hz) (toz_ok h.2.1 _) SM.oct_nil
       ·cases hr
      ·cases hr
     ·split at hr
      ·unfold chgF at hr
       split at hr
       ·unfold chgF_of at hr
        split at hr
        ·cases hr
         exact ob_ch h _ _
        ·cases hr
       ·cases hr
      ·split at hr
       ·unfold bindsF at hr
        split at hr
        ·cases hr;exact h
        ·cases hr
       ·split at hr
        ·unfold inF' at hr
         split at hr
         ·cases hr;exact h
         ·cases hr
        ·cases hr;exact h
theorem ob_ans (h:OB g) (l:List UInt8):OB (ansF g l).2:=by
 unfold ansF
 split
 ·rename_i r hr
  exact ob_line h l hr
 ·exact h
theorem spl_ne' (c:UInt8):∀ l:List UInt8,Ad.AM.spl c l≠[]
 | []=>by simp[Ad.AM.spl]
 | b::r=>by
  unfold Ad.AM.spl
  split
  ·simp
  ·split <;> simp
def linL (l:List UInt8):List (List UInt8):=if (Ad.AM.spl 10 l).getD ((Ad.AM.spl 10 l).length - 1) []=[] then (Ad.AM.spl 10 l).take ((Ad.AM.spl 10 l).length - 1) else Ad.AM.spl 10 l
theorem lines_run (l:List UInt8) (hl:l.length≤90000) (w:World) (hM:Ad.MaxL w) :
  Calls Tryz.prog 60 #[Ad.strv l] w fun e w'=>(∃ v,e=.returned v∧Wds v (linL l) w'∧FrV w.heap.size v)∧Below w.heap.size w w':=by
 have s:=ki (split_run 10 l (by omega) w hM)
 have k:1≤(Ad.AM.spl 10 l).length:=by
  cases h:Ad.AM.spl 10 l with
  | nil=>exact absurd h (spl_ne' 10 l)
  | cons a b=>simp
 have p:(Ad.AM.spl 10 l).length≤100000:=by have:=spl_ll 10 l;omega
 have f:=ki (show linL l=if (Ad.AM.spl 10 l).getD ((Ad.AM.spl 10 l).length - 1) []=[] then (Ad.AM.spl 10 l).take ((Ad.AM.spl 10 l).length - 1) else Ad.AM.spl 10 l from rfl)
 generalize Ad.AM.spl 10 l=ws at s k p f
 generalize linL l=L at f ⊢
 unfold Ad.strv at s ⊢
 go_enter Tryz.func60,Tryz.ntmps60
 go_upto_region 2 with (go_at_call 112;refine s.out.mono ?_;rintro e y ⟨⟨v,rfl,⟨a,c,rfl,F,G,z⟩,r⟩,q⟩;have A:=ki q;clear q)
 obtain ⟨b,o,rfl,hc⟩:=z (by omega)
 have d:=hc (ws.length - 1) (by omega)
 obtain ⟨n,hn⟩:∃ n,n+1=ws.length:=⟨ws.length - 1,by omega⟩
 rw[show ws.length - 1=n by omega] at d f
 have g:=ki hc
 have i:=ki r
 clear hc r z k
 obtain ⟨x,hx⟩:∃ x,ws.getD n []=x:=⟨_,rfl⟩
 rw[hx] at d f
 unfold Ad.strv at d
 rw[← hn] at F p G ⊢
 rw[← hn] at g
 have B:∀ m,FrV w.heap.size (.slice (some ⟨b,o,none⟩) m c):=fun m b' o' l' c' e=>i.out b' o' _ c (by injection e with t _ _;rw[t])
 have C:=ki (show Wds (.slice (some ⟨b,o,none⟩) n c) (ws.take n) y from by
  have D:(ws.take n).length=n:=by rw[List.length_take];omega
  refine ⟨some ⟨b,o,none⟩,c,by rw[D],by omega,by omega,fun _=>⟨b,o,rfl,fun j hj=>?_⟩⟩
  rw[D] at hj
  rw[show (ws.take n).getD j []=ws.getD j [] by simp[List.getD_eq_getElem?_getD,hj]]
  exact g.out j (by omega))
 have E:=ki (show Wds (.slice (some ⟨b,o,none⟩) (n+1) c) ws y from ⟨some ⟨b,o,none⟩,c,by rw[hn],by omega,by omega,fun _=>⟨b,o,rfl,fun j hj=>g.out j (by omega)⟩⟩)
 replace i:=ki B
 clear B hn hx g
 have H:IntKind.i64.wrap (((n+1:Nat):Int) - 1)=(n:Int):=by rw[IntKind.wrap_i64];omega
 by_cases hx0:x=[]
 ·subst hx0
  rw[if_pos rfl] at f
  go_wp2_with fail
  go_ret
  exact ⟨⟨_,rfl,by rw[f.out];exact C.out,i.out n⟩,A.out⟩
 ·rw[if_neg hx0] at f
  have t:(⟨x.toArray⟩:ByteArray).toList.isEmpty=false:=by
   simp only[ByteArray.toList_eq]
   simpa using hx0
  generalize (⟨x.toArray⟩:ByteArray)=sx at d t
  go_wp2_with fail
  go_ret
  exact ⟨⟨_,rfl,by rw[f.out];exact E.out,i.out (n+1)⟩,A.out⟩
end
section
set_option linter.unusedSimpArgs false
def c0L:List Int:=[8193,3512,0,0,0,0,0,1,80,100,65435,0,0,0,0,0,0,96,167772161,7,4]
def b0L:List (List Int):=[[1,167772417,8080,1,1,0],[2,167772418,8080,1,1,0]]
def cbl (t:TypeId) (ps:Array (Nat×Value)):Sem Value:=Instr.build t ps
theorem cbl_shut (t:TypeId) (ps:Array (Nat×Value)):Instr.build t ps=cbl t ps:=rfl
def csl (t:TypeId) (n:Nat) (ps:Array (Nat×Value)):Sem Value:=Instr.buildSlice t n ps
theorem csl_shut (t:TypeId) (n:Nat) (ps:Array (Nat×Value)):Instr.buildSlice t n ps=csl t n ps:=rfl
def cst (x y:Value):Sem Unit:=Instr.storeAt 26 x y
theorem cst_shut (x y:Value):Instr.storeAt 26 x y=cst x y:=rfl
attribute [local go_sem ↓] cbl_shut csl_shut cst_shut
theorem cst_run {B:Nat} {cs:Array Value} {w:World} (p:w.heap[B]? = some (.cells cs 26 (0,0))) (hs:cs.size=23) (a:Option Addr):∃ w',(cst (.pointer (some ⟨B,0,none⟩)) (.agg (cfC c0L true a 2 2))).run Tryz.prog w=.ok () w'∧w'.heap[B]? = some (.cells (cfC c0L true a 2 2) 26 (0,0))∧Only B w w':=by
 refine ⟨_,?_,setRow_heap w B _ _ _ (0,0) p,only_setRow _ _ _⟩
 unfold cst
 simp only[Instr.storeAt,Instr.sureAddr,Sem.run_bind,Sem.run_pure,Result.andThen_ok]
 exact run_storeVar_row w B 26 26 _ (cfC c0L true a 2 2) p (by kernel_rfl) (by rw[hs];rfl) (by unfold cfC;simp[Value.oneCell'])
theorem config_run (w:World):Calls Tryz.prog 58 #[] w fun e w'=>(∃ a,e=.returned (.agg (cfC c0L true a 2 2))∧Bks a b0L w'∧a≠none)∧Below w.heap.size w w':=by
 have t:∀ W,(cbl 23 #[(0,.int .i64 8193),(1,.int .i64 3512),(7,.int .i64 1)]).run Tryz.prog W=.ok (.agg (sixC (vip c0L))) W:=fun W=>by kernel_rfl
 have x:∀ W,(cbl 23 #[(0,.int .i64 100),(1,.int .i64 65435)]).run Tryz.prog W=.ok (.agg (sixC (pfx c0L))) W:=fun W=>by kernel_rfl
 have y:∀ W,(cbl 77 #[(0,.int .i64 1),(1,.int .i64 167772417),(2,.int .i64 8080),(3,.int .i64 1),(4,.bool true)]).run Tryz.prog W=.ok (.agg (bkC [1,167772417,8080,1,1,0])) W:=fun W=>by kernel_rfl
 have h4:∀ W,(cbl 77 #[(0,.int .i64 2),(1,.int .i64 167772418),(2,.int .i64 8080),(3,.int .i64 1),(4,.bool true)]).run Tryz.prog W=.ok (.agg (bkC [2,167772418,8080,1,1,0])) W:=fun W=>by kernel_rfl
 have z:∀ W,(csl 24 2 #[(0,.agg (bkC [1,167772417,8080,1,1,0])),(1,.agg (bkC [2,167772418,8080,1,1,0]))]).run Tryz.prog W=.ok (.slice (some ⟨W.heap.size,0,none⟩) 2 2) (W.alloc (.cells (bkC [1,167772417,8080,1,1,0]++bkC [2,167772418,8080,1,1,0]) 77)):=fun W=>by kernel_rfl
 have A:∀ a W,(cbl 26 #[(0,.agg (sixC (vip c0L))),(1,.int .i64 80),(2,.agg (sixC (pfx c0L))),(3,.int .i64 96),(4,.int .i64 167772161),(5,.int .i64 7),(6,.int .i64 4),(7,.bool true),(8,.slice a 2 2)]).run Tryz.prog W=.ok (.agg (cfC c0L true a 2 2)) W:=fun a W=>by kernel_rfl
 have g:=heap_alloc_new w (.cells #[.int .i64 0,.int .i64 0,.int .i64 0,.int .i64 0,.int .i64 0,.int .i64 0,.int .i64 0,.int .i64 0,.int .i64 0,.int .i64 0,.int .i64 0,.int .i64 0,.int .i64 0,.int .i64 0,.int .i64 0,.int .i64 0,.int .i64 0,.int .i64 0,.int .i64 0,.int .i64 0,.int .i64 0,.bool false,.slice none 0 0] 26)
 have b:=al_below w (.cells #[.int .i64 0,.int .i64 0,.int .i64 0,.int .i64 0,.int .i64 0,.int .i64 0,.int .i64 0,.int .i64 0,.int .i64 0,.int .i64 0,.int .i64 0,.int .i64 0,.int .i64 0,.int .i64 0,.int .i64 0,.int .i64 0,.int .i64 0,.int .i64 0,.int .i64 0,.int .i64 0,.int .i64 0,.bool false,.slice none 0 0] 26)
 go_enter Tryz.func58,Tryz.ntmps58
 go_upto_region 1 with fail
 generalize World.alloc _ _=W0 at g b ⊢
 have d:=al_below W0 (.cells (bkC [1,167772417,8080,1,1,0]++bkC [2,167772418,8080,1,1,0]) 77)
 have l:=heap_alloc_new W0 (.cells (bkC [1,167772417,8080,1,1,0]++bkC [2,167772418,8080,1,1,0]) 77)
 obtain ⟨f,B,hh,i⟩:=cst_run ((d.block _ (Array.getElem?_eq_some_iff.1 g).1).trans g) rfl (some ⟨W0.heap.size,0,none⟩)
 have n:=(Array.getElem?_eq_some_iff.1 g).1
 have p:=ki (show Bks (some ⟨W0.heap.size,0,none⟩) b0L f from fun _=>⟨_,_,rfl,by rw[i.2.2.2.1,World.size_alloc];omega,fun k hk=>by
  have o:f.heap[W0.heap.size]? = _:=(i.2.2.2.2 W0.heap.size (by omega)).trans l
  intro j v hv
  show f.cell? ⟨W0.heap.size,0+k*6+j,none⟩=_
  rw[cell_of_row f _ _ _ _ _ o]
  rcases (show k=0∨k=1 by have:k < 2:=hk;omega) with rfl|rfl
  ·have q:j < 6:=(List.getElem?_eq_some_iff.1 hv).1
   rw[← hv]
   rcases (by omega:j=0∨j=1∨j=2∨j=3∨j=4∨j=5) with rfl|rfl|rfl|rfl|rfl|rfl <;> rfl
  ·have q:j < 6:=(List.getElem?_eq_some_iff.1 hv).1
   rw[← hv]
   rcases (by omega:j=0∨j=1∨j=2∨j=3∨j=4∨j=5) with rfl|rfl|rfl|rfl|rfl|rfl <;> rfl⟩)
 have r:=ki (show Below w.heap.size w f from by
  have h:=bt b d
  exact i.below h (Nat.le_refl _))
 have s:=ki hh
 clear b d l hh i n
 go_wp2_with fail
 refine bodyPost_ret (results_cell_row rfl _ _ w.heap.size 26 _ (0,0) _ rfl s.out Tryz.underlying26 rfl (by kernel_rfl)) rfl ?_
 exact ⟨⟨_,rfl,p.out,by simp⟩,r.out⟩
end
section
set_option linter.unusedSimpArgs false
variable {g:GS} {G b:Nat} {X w:World}
def g0L:GS:=gz0 c0L true b0L 4
theorem c0_pf:Em.PF (pfx c0L) (el c0L 17) 0:=.inr (.inr (.inr ⟨(s6_iff _).1 (by decide +kernel),by show Em.LongP 96;unfold Em.LongP;omega,by decide +kernel,rfl⟩))
theorem c0_ck:cko c0L b0L 0=0:=by decide +kernel
theorem g0_ob:OB g0L:=⟨gz0_ig (by decide) c0_pf c0_ck,⟨(s6_iff _).1 (by decide +kernel),(s6_iff _).1 (by decide +kernel),rfl,by decide +kernel⟩,by decide⟩
def runL:GS→List (List UInt8)→List UInt8
 | _,[]=>[]
 | g,l::r=>(ansF g l).1++10::runL (ansF g l).2 r
def stL (g:GS) (ls:List (List UInt8)) (i:Nat):List UInt8×GS:=(ls.take i).foldl (fun p l=>(p.1++(ansF p.2 l).1++[10],(ansF p.2 l).2)) ([],g)
theorem stL_zero (g:GS) (ls:List (List UInt8)):stL g ls 0=([],g):=rfl
theorem stL_succ (g:GS) (ls:List (List UInt8)) (i:Nat) (hi:i < ls.length):stL g ls (i+1)=((stL g ls i).1++(ansF (stL g ls i).2 (ls.getD i [])).1++[10],(ansF (stL g ls i).2 (ls.getD i [])).2):=by
 unfold stL
 rw[List.take_add_one,List.getElem?_eq_getElem hi,List.foldl_append]
 rw[List.getD_eq_getElem?_getD,List.getElem?_eq_getElem hi]
 rfl
theorem stL_run (g:GS):∀ (ls:List (List UInt8)) (acc:List UInt8),(ls.foldl (fun p l=>(p.1++(ansF p.2 l).1++[10],(ansF p.2 l).2)) (acc,g)).1=acc++runL g ls:=fun ls=>by
 induction ls generalizing g with
 | nil=>intro acc;simp[runL]
 | cons l r ih=>intro acc;rw[List.foldl_cons,ih];simp[runL]
theorem stL_all (g:GS) (ls:List (List UInt8)):(stL g ls ls.length).1=runL g ls:=by
 unfold stL
 rw[List.take_length,stL_run]
 rfl
theorem ob_st (h:OB g) (ls:List (List UInt8)):∀ i,i≤ls.length→OB (stL g ls i).2
 | 0,_=>h
 | i+1,hi=>by rw[stL_succ g ls i (by omega)];exact ob_ans (ob_st h ls i (by omega)) _
theorem jn_len (c:UInt8) (n:Nat):∀ ws:List (List UInt8),(∀ x ∈ ws,x.length≤n)→(Ad.AM.jn c ws).length≤ws.length*(n+1)
 | [],_=>by simp[Ad.AM.jn]
 | [x],h=>by have:=h x (by simp);simp[Ad.AM.jn];omega
 | x::y::r,h=>by
  have h1:=h x (by simp)
  have ih:=jn_len c n (y::r) (fun z hz=>h z (by simp[hz]))
  simp only[Ad.AM.jn,List.length_append,List.length_cons] at ih ⊢
  rw[Nat.add_mul]
  omega
theorem port_le (hg:IG g):(portF g.bs).length≤1000:=by
 have a:=hg.1.2.1
 unfold portF
 split
 ·simp
 ·have:=jn_len 32 5 (g.bs.map prtD) (fun x hx=>by
   obtain ⟨b,hb,rfl⟩:=List.mem_map.1 hx
   obtain ⟨-,⟨i,d,e,-⟩,-⟩:=hg.1.2.2.1.1 b hb
   have:=hg.1.1
   exact prtD_len (by omega))
  rw[List.length_map] at this
  omega
theorem ins_le {c a:List Int} (ha:Ok6 a) (hc:el c 17=96):(insF c a).length≤1000:=by
 have b:=oto_fr a (el c 17) ha (by rw[hc];unfold Em.LongP;omega)
 unfold insF
 split
 ·simp
 ·split
  ·split
   ·have:=Ad.AM.t4_len (n:=(oto a (el c 17)).1.toNat) (by omega)
    omega
   ·simp
  ·simp
theorem shw_le {t:List UInt8} {n:Int} {m:Nat} (h:t.length≤m):(shw t n).length≤m+9:=Nat.le_trans (shw_len t n) (by omega)
theorem line_le (h:OB g) (l:List UInt8) {r:List UInt8×GS} (hr:obF g l=some r):r.1.length≤2000:=by
 unfold obF at hr
 split at hr
 ·cases hr
 ·rename_i v q _
  split at hr
  ·unfold sixF at hr
   split at hr
   ·rename_i zs _ hz
    cases hr
    exact Nat.le_trans (shw_le (m:=800) (by rw[hxs_len];have:=g6_len g zs;omega)) (by omega)
   ·cases hr
  ·split at hr
   ·unfold fourF at hr
    split at hr
    ·rename_i zs _ hz
     cases hr
     exact Nat.le_trans (shw_le (m:=800) (by rw[hxs_len];have:=g4_len h.1.2.1 zs;omega)) (by omega)
    ·cases hr
   ·split at hr
    ·unfold sayF at hr
     split at hr
     ·unfold sayF_of at hr
      split at hr
      ·rename_i z n hz _
       cases hr
       exact Nat.le_trans (shw_le (m:=800) (by rw[hxs_len];have:=snd_len g z (vip g.c) [17,((n:Nat):Int),el g.c 8,0,0,0,0] (byI (q.getD 2 []));omega)) (by omega)
      ·cases hr
     ·cases hr
    ·split at hr
     ·unfold callF at hr
      split at hr
      ·unfold callF_of at hr
       split at hr
       ·rename_i z n f d hz _ _ _
        cases hr
        exact Nat.le_trans (shw_le (m:=800) (by rw[hxs_len];have:=snd_len g z (toz g.c ((f:Nat):Int)) [6,((n:Nat):Int),((d:Nat):Int),0,0,2,0] [];omega)) (by omega)
       ·cases hr
      ·cases hr
     ·split at hr
      ·unfold chgF at hr
       split at hr
       ·unfold chgF_of at hr
        split at hr
        ·cases hr
         exact Nat.le_trans (shw_le (m:=2) (by simp)) (by omega)
        ·cases hr
       ·cases hr
      ·split at hr
       ·unfold bindsF at hr
        split at hr
        ·cases hr;exact Nat.le_trans (port_le h.1) (by omega)
        ·cases hr
       ·split at hr
        ·unfold inF' at hr
         split at hr
         ·rename_i z _ hz
          cases hr;exact Nat.le_trans (ins_le (rd6_ok hz) h.2.1.2.2.1) (by omega)
         ·cases hr
        ·cases hr;simp[badT]
theorem ans_le (h:OB g) (l:List UInt8):(ansF g l).1.length≤2000:=by
 unfold ansF
 split
 ·rename_i r hr
  exact line_le h l hr
 ·simp[badT]
theorem st_le (h:OB g) (ls:List (List UInt8)):∀ i,i≤ls.length→(stL g ls i).1.length≤i*2001
 | 0,_=>by simp[stL_zero]
 | i+1,hi=>by
  rw[stL_succ g ls i (by omega)]
  have h1:=st_le h ls i (by omega)
  have h2:=ans_le (ob_st h ls i (by omega)) (ls.getD i [])
  simp only[List.length_append,List.length_singleton]
  omega
theorem lin_le (t:List UInt8):(linL t).length≤t.length+1:=by
 have:=spl_ll 10 t
 unfold linL
 split
 ·rw[List.length_take];omega
 ·exact this
theorem lin_mem (t:List UInt8):∀ x ∈ linL t,x.length≤t.length:=fun x hx=>by
 unfold linL at hx
 split at hx
 ·exact Ad.AM.spl_len 10 t x (List.mem_of_mem_take hx)
 ·exact Ad.AM.spl_len 10 t x hx
theorem byI_app (a b:List UInt8):byI (a++b)=byI a++byI b:=by simp[byI]
theorem RS.start {O:Nat→Prop} (h:GH w G g O X) (hb:BB b (.slice none 0 0) (.pointer none) X) (hO:∀ k,O k→k < b):RS w G b X O g [] X :=
 ⟨O,_,_,h,fun k hk=>.inl hk,fun _ _ _ _=>rfl,Nat.le_refl _,hb,.inl rfl,Own.nil _ _,fun ho=>by have:=hO b ho;omega,fun ho=>by have:=hO _ ho;omega,fun k hk=>by cases hk⟩
theorem RS.cell {Ox:Nat→Prop} {l:List Int} {W:World} (h:RS w G b X Ox g l W) {p:Addr} {v:Value} (hp:X.cell? p=some v) (h1:¬ Ox p.block) (h2:p.block≠b):W.cell? p=some v:=by
 obtain ⟨O,d,e,-,-,a,-⟩:=h
 rw[World.cell?_of_block (a p.block (World.block_lt_of_cell? X p hp) h1 h2)]
 exact hp
theorem RS.out {Ox:Nat→Prop} {l:List UInt8} {W:World} (h:RS w G b X Ox g (byI l) W) (hbX:b < X.heap.size) (hwb:w.heap.size≤b):Calls Tryz.prog 64 #[.pointer (some ⟨b,0,none⟩)] W fun e w'=>e=.returned (Ad.strv l)∧Below w.heap.size w w':=by
 obtain ⟨O,v,p,o,-,-,h4,i,q,k,-⟩:=h
 have n:(byI l).map (Value.int .u8)=Lib.byteCells l:=by simp[Lib.byteCells,byI,Function.comp_def]
 have f:(byI l).length=(Lib.byteCells l).length:=by rw[byI_len,Lib.byteCells_length]
 have a:W.ownsRow b 5 1 v (Lib.byteCells l).length (Lib.byteCells l):=by
  have:=k.2
  rw[n,f] at this
  refine ⟨this.1,this.2.imp id (fun ⟨g,cap,cur,e1,e2,e3⟩=>⟨g,cap,cur,e1,by omega,e3⟩)⟩
 have d:v.ownBlock≠some b:=fun e=>by have:=(k.2.lt b e).1;omega
 have r:Bl b b l W:=by
  rcases q with rfl|rfl
  ·exact .inl ⟨Nat.le_refl _,v,i,a,d⟩
  ·exact .inr ⟨Nat.le_refl _,v,i,a,d⟩
 refine (bs_any b b l W r (by omega)).mono ?_
 rintro e w' ⟨s,hb⟩
 exact ⟨s,o.below.trans (hb.mono hwb)⟩
theorem run_run (t:List UInt8) (ht:t.length≤3000) (W:World) (hA:LA W):Calls Tryz.prog 19 #[Ad.strv t] W fun e w'=>e=.returned (Ad.strv (runL g0L (linL t)))∧Below W.heap.size W w':=by
 have a3:(⟨t.toArray⟩:ByteArray).size=t.length:=by simp[ByteArray.size]
 have ad:=ki (config_run W)
 have E:=ki (fun (W1:World) a (h0:Below W.heap.size W W1) (hb:Bks a b0L W1) (ha:a≠none)=>show Calls Tryz.prog 7 #[.agg (cfC c0L true a 2 2)] W1 fun e w'=>∃ G O,e=.returned (.tuple #[.pointer (some ⟨G,0,none⟩),.nilIface])∧GH W G g0L O w'∧(∀ k,O k→W1.heap.size≤k)∧Below W1.heap.size W1 w' from (gnew_gc c0L true a 2 b0L 4 W1 hb (by decide) (by decide) (fun e=>absurd e ha) c0_pf c0_ck rfl (by decide) (by decide)).mono (fun e w' h=>NG.gh (W:=W1) h h0))
 have z:=ki (fun W1 (hM:Ad.MaxL W1)=>lines_run t (by omega) W1 hM)
 have F:=ki hA
 have T:=ki ht
 have U:=ki (stL_all g0L (linL t))
 have h3:((3000:Int) < (t.length:Int))=False:=by simp;omega
 unfold Ad.strv at z ⊢
 clear hA
 go_enter Tryz.func19,Tryz.ntmps19
 go_upto_region 6 with (first
  | (go_at_call 58;refine ad.out.mono ?_;rintro e w1 ⟨⟨a,rfl,hb,ha⟩,w⟩;have ae:=ki (E.out w1 a w hb ha);have af:=ki w;clear hb ha w)
  | (go_at_call 7;refine ae.out.mono ?_;rintro e b ⟨G,O,rfl,V,k2,k3⟩;have x:=ki V;have l:=ki (bt af.out k3);have ai:=ki (show W.heap.size≤b.heap.size from V.below.size);clear V k2 k3))
 go_upto_region 8 with fail
 have Y:=al_below b (.cells #[.pointer (some ⟨G,0,none⟩)] 126)
 have b4:=al_below (b.alloc (.cells #[.pointer (some ⟨G,0,none⟩)] 126)) (.cells #[.pointer none,.slice none 0 0] 129)
 have d:=heap_alloc_new (b.alloc (.cells #[.pointer (some ⟨G,0,none⟩)] 126)) (.cells #[.pointer none,.slice none 0 0] 129)
 rw[World.size_alloc] at d
 have H:((b.alloc (.cells #[.pointer (some ⟨G,0,none⟩)] 126)).alloc (.cells #[.pointer none,.slice none 0 0] 129)).heap.size=b.heap.size+2:=by rw[World.size_alloc,World.size_alloc]
 have n:=(sn_new G b).kept b4
 have A:∀ k,O k→k < b.heap.size:=fun k hk=>x.out.lt hk
 replace x:=ki (x.out.kept (bt Y b4))
 replace l:=ki (bt l.out (bt Y b4))
 have aj:W.heap.size≤b.heap.size:=ai.out
 generalize (b.alloc (.cells #[.pointer (some ⟨G,0,none⟩)] 126)).alloc (.cells #[.pointer none,.slice none 0 0] 129)=W3 at d H n x l ⊢
 generalize b.heap.size=Sb at d H n A aj ⊢
 have I:=ki n
 have J:=ki d
 have B:=ki A
 have C:=ki (z.out W3 (F.out.below l.out).1.2.2)
 clear Y b4 d n A z E
 have g:=lin_mem t
 have Z:=lin_le t
 have ak:=U
 obtain ⟨ls,o⟩:∃ ls,ls=linL t:=⟨_,rfl⟩
 rw[← o] at C U g Z
 replace o:=ki o
 clear ak
 go_wp2_with (go_at_call 60;refine C.out.mono ?_;rintro e X ⟨⟨v,rfl,⟨a0,c0,rfl,h1,h2,h4⟩,K⟩,q⟩)
 have hX:Sb+2≤X.heap.size:=by have:=q.size;omega
 have am:=ki (show RS W G (Sb+1) X O g0L [] X from RS.start (x.out.kept q) ((q.block (Sb+1) (by omega)).trans J.out) (fun k hk=>by have:=B.out k hk;omega))
 have an:=ki (show SnIn Sb G X from I.out.kept q)
 have ao:=ki (show 0 < ls.length→∃ L off,a0=some ⟨L,off,none⟩∧Sb+2≤L∧∀ j,j < ls.length→X.cell? ⟨L,off+j,none⟩=some (.string ⟨(ls.getD j []).toArray⟩) from fun hp=>by
  obtain ⟨L,off,rfl,hc⟩:=h4 hp
  exact ⟨L,off,rfl,by have:=K L off _ _ rfl;omega,hc⟩)
 have ap:=ki (fun k (hk:k≤ls.length)=>ob_st g0_ob ls k hk)
 have aq:=ki (fun k (hk:k≤ls.length)=>st_le g0_ob ls k hk)
 have ar:=ki (fun k (hk:k < ls.length)=>stL_succ g0L ls k hk)
 have HM:=ki (fun k (hk:k < ls.length)=>g (ls.getD k []) (by rw[List.getD_eq_getElem?_getD,List.getElem?_eq_getElem hk];exact List.getElem_mem _))
 clear q h4 K g x J I C
 go_loopw [27] (fun i wr=>∃ k:Nat,k≤ls.length∧i=.int .i64 k∧Hid (RS W G (Sb+1) X O (stL g0L ls k).2 (byI (stL g0L ls k).1) wr)) (fun i _=>ls.length - (intOf i).toNat)
 case atStart=>exact ⟨0,Nat.zero_le _,rfl,am⟩
 case round =>
  obtain ⟨k,hk,rfl,y⟩:=hrel
  by_cases hlt:k < ls.length
  ·obtain ⟨L,off,rfl,hL,p⟩:=ao.out (by omega)
   have c1:=y.out.cell (p k hlt) (fun ho=>by have:=B.out _ ho;simp only at this;omega) (by simp only;omega)
   have c2:=y.out.cell an.out.cell (fun ho=>by have:=B.out _ ho;simp only at this;omega) (by simp only;omega)
   have r:=ap.out k hk
   have hsl:=aq.out k hk
   have M:=HM.out k hlt
   have f:=ar.out k hlt
   clear p
   have D:=ki (y.out.answer (by omega) r (ls.getD k []) (by have:=T.out;omega) F.out)
   have s:=ans_le r (ls.getD k [])
   generalize stL g0L ls k=S0 at y D r hsl f s
   generalize ls.getD k []=ln at c1 M D f s
   generalize ansF S0.2 ln=An at D f s
   unfold Ad.strv ssn at D
   have N:W.heap.size≤Sb+1:=by omega
   have P:Sb+1 < X.heap.size:=by omega
   have Q:(byI S0.1).length+An.1.length≤1000000000:=by rw[byI_len];have:=T.out;omega
   have R:(byI S0.1++byI An.1).length+1≤1000000000:=by rw[List.length_append,byI_len,byI_len];have:=T.out;omega
   have S:=ki (fun w4 (q:RS W G (Sb+1) X O An.2 (byI S0.1) w4)=>q.told N P An.1 Q)
   unfold Ad.strv at S
   have au:=ki (fun w5 (q:RS W G (Sb+1) X O An.2 (byI S0.1++byI An.1) w5) hp=>q.wb hp N P R)
   have aa:=ki f
   clear r hsl M f s Q R y
   go_upto_region 12 with (first
    | (go_at_call 62;refine D.out.mono ?_;rintro e w4 ⟨rfl,q⟩;have av:=ki (S.out w4 q);clear q)
    | (go_at_call 61;refine av.out.mono ?_;rintro e w5 ⟨⟨u,rfl⟩,w,q2⟩;have ax:=ki (au.out w5 w q2);clear w q2))
   go_wp2_with (go_at_call 63;refine ax.out.mono ?_;rintro e w6 ⟨rfl,q⟩;have HE:=ki q;clear q)
   go_roundw
   case rel=>exact ⟨k+1,by omega,by go_num,ki (by rw[aa.out,byI_app,byI_app];exact HE.out)⟩
   case measure=>simp[intOf];omega
  ·obtain rfl:k=ls.length:=by omega
   have HO:=ki (RS.out y.out (by omega) (by omega))
   rw[U.out] at HO
   unfold Ad.strv at HO
   go_wp2_with (go_at_call 64;refine HO.out.mono ?_;rintro e w4 ⟨rfl,q⟩;have HE:=ki q;clear q)
   go_ret
   refine ⟨?_,HE.out⟩
   show Ending.returned (.string ⟨(runL g0L ls).toArray⟩)=_
   rw[← o.out]
end
section
set_option linter.unusedSimpArgs false
theorem spl_mid (c:UInt8) (y:List UInt8):∀ x:List UInt8,Ad.AM.spl c (x++c::y)=Ad.AM.spl c x++Ad.AM.spl c y
 | []=>by simp[Ad.AM.spl]
 | b::r=>by
  have ih:=spl_mid c y r
  simp only[List.cons_append,Ad.AM.spl]
  split
  ·rw[ih,List.cons_append]
  ·rw[ih]
   cases h:Ad.AM.spl c r with
   | nil=>exact absurd h (spl_ne' c r)
   | cons v q=>rfl
theorem lin_nil:linL []=[]:=by
 unfold linL
 simp[Ad.AM.spl]
theorem lin_mid (x y:List UInt8):linL (x++10::y)=Ad.AM.spl 10 x++linL y:=by
 have f:1≤(Ad.AM.spl 10 y).length:=by
  cases h:Ad.AM.spl 10 y with
  | nil=>exact absurd h (spl_ne' 10 y)
  | cons a b=>simp
 have d:((Ad.AM.spl 10 x++Ad.AM.spl 10 y).length - 1)=(Ad.AM.spl 10 x).length+((Ad.AM.spl 10 y).length - 1):=by rw[List.length_append];omega
 have e:(Ad.AM.spl 10 x++Ad.AM.spl 10 y).getD ((Ad.AM.spl 10 x).length+((Ad.AM.spl 10 y).length - 1)) []=(Ad.AM.spl 10 y).getD ((Ad.AM.spl 10 y).length - 1) []:=by
  rw[List.getD_eq_getElem?_getD,List.getElem?_append_right (by omega),List.getD_eq_getElem?_getD]
  congr 2
  omega
 unfold linL
 rw[spl_mid,d,e]
 split
 ·rw[List.take_append,Nat.add_sub_cancel_left,List.take_of_length_le (by omega)]
 ·rfl
theorem runL_app (g:GS):∀ (A B:List (List UInt8)),∃ r,runL g (A++B)=runL g A++r:=fun A=>by
 induction A generalizing g with
 | nil=>intro B;exact ⟨_,rfl⟩
 | cons l A ih =>
  intro B
  obtain ⟨r,h⟩:=ih (ansF g l).2 B
  exact ⟨r,by simp only[List.cons_append,runL,h,List.append_assoc]⟩
theorem run_begin (g:GS) (s:List UInt8) (a:Nat) (ha:a≤s.length) (h:a=0∨s.getD (a - 1) 0=10∧0 < a):∃ r,runL g (linL s)=runL g (linL (s.take a))++r:=by
 rcases h with rfl|⟨h,h0⟩
 ·rw[List.take_zero,lin_nil];exact ⟨_,rfl⟩
 ·have e:s=s.take (a - 1)++10::s.drop a:=by
   conv=>lhs;rw[← List.take_append_drop (a - 1) s]
   congr 1
   rw[List.drop_eq_getElem_cons (by omega),show a - 1+1=a by omega]
   rw[List.getD_eq_getElem?_getD,List.getElem?_eq_getElem (by omega)] at h
   exact congrArg (·::_) h
  have b:s.take a=s.take (a - 1)++10::[]:=by
   rw[show a=(a - 1)+1 by omega,List.take_add_one,List.getElem?_eq_getElem (by omega),show a - 1+1 - 1=a - 1 by omega]
   rw[List.getD_eq_getElem?_getD,List.getElem?_eq_getElem (by omega)] at h
   rw[show s[a - 1]=10 from h]
   rfl
  rw[b,lin_mid,lin_nil,List.append_nil]
  conv=>enter [1,r,1];rw[e]
  rw[lin_mid]
  exact runL_app g _ _
theorem hx_64:Ad.AM.hexL 100=[54,52]:=by rw[Ad.AM.hexL_ge (by decide),Ad.AM.hexL_lt (by decide)];decide
theorem hx_ff9b:Ad.AM.hexL 65435=[102,102,57,98]:=by rw[Ad.AM.hexL_ge (by decide),Ad.AM.hexL_ge (by decide),Ad.AM.hexL_ge (by decide),Ad.AM.hexL_lt (by decide)];decide
theorem hx_a00:Ad.AM.hexL 2560=[97,48,48]:=by rw[Ad.AM.hexL_ge (by decide),Ad.AM.hexL_ge (by decide),Ad.AM.hexL_lt (by decide)];decide
theorem hx_1:Ad.AM.hexL 1=[49]:=by rw[Ad.AM.hexL_lt (by decide)];decide
def zIn:List Int:=[100,65435,0,0,0,0,2560,1]
def tIn:List UInt8:=[54,52,58,102,102,57,98,58,58,97,48,48,58,49]
theorem tx_in:Ad.AM.tx zIn=tIn:=by
 have a:Ad.AM.zfrom zIn=2:=by decide +kernel
 have b:Ad.AM.zlong zIn=4:=by decide +kernel
 unfold Ad.AM.tx
 rw[a,b,if_neg (by decide)]
 simp[Ad.AM.hw,List.range_succ,List.range_zero,Ad.AM.jn,zIn,Ad.el,hx_64,hx_ff9b,hx_a00,hx_1,tIn]
theorem parse_in:Ad.AM.parseF tIn=some zIn:=by
 unfold Ad.AM.parseF
 rw[show Ad.AM.readF tIn=some zIn by decide +kernel]
 exact if_pos tx_in
theorem ins_in:insF c0L zIn=[49,48,46,48,46,48,46,49]:=by
 have a:Lib.decDigits 10=[49,48]:=by rw[Lib.decDigits,dif_neg (by decide),Lib.decDigits,dif_pos (by decide)];rfl
 have b:Lib.decDigits 0=[48]:=by rw[Lib.decDigits,dif_pos (by decide)];rfl
 have d:Lib.decDigits 1=[49]:=by rw[Lib.decDigits,dif_pos (by decide)];rfl
 have e:eqz zIn (vip c0L)=false:=by decide +kernel
 have f:Em.inF zIn (pfx c0L) (el c0L 17)=true:=by decide +kernel
 have g:oto zIn (el c0L 17)=(167772161,0):=by decide +kernel
 unfold insF
 rw[e,f,g]
 simp[Ad.AM.t4,Ad.AM.by4,Ad.AM.jn,a,b,d]
def fT:List UInt8:=[98,105,110,100,115,10,105,110,32,54,52,58,102,102,57,98,58,58,97,48,48,58,49,10,102,108,121]
def fA:List UInt8:=[45,10,49,48,46,48,46,48,46,49,10,98,97,100,10]
theorem fact_run:runL g0L (linL fT)=fA:=by
 have hl:linL fT=[[98,105,110,100,115],[105,110,32,54,52,58,102,102,57,98,58,58,97,48,48,58,49],[102,108,121]]:=by decide +kernel
 have a:ansF g0L [98,105,110,100,115]=([45],g0L):=by kernel_rfl
 have b:ansF g0L [102,108,121]=(badT,g0L):=by kernel_rfl
 have d:ansF g0L [105,110,32,54,52,58,102,102,57,98,58,58,97,48,48,58,49]=([49,48,46,48,46,48,46,49],g0L):=by
  have:obF g0L [105,110,32,54,52,58,102,102,57,98,58,58,97,48,48,58,49]=some ([49,48,46,48,46,48,46,49],g0L):=by
   unfold obF
   rw[show Ad.AM.spl 32 [105,110,32,54,52,58,102,102,57,98,58,58,97,48,48,58,49]=[[105,110],tIn] by decide +kernel]
   dsimp only
   rw[if_neg (by decide),if_neg (by decide),if_neg (by decide),if_neg (by decide),if_neg (by decide),if_neg (by decide),if_pos rfl]
   unfold inF'
   rw[show justF 1 [tIn]=true by decide +kernel]
   show (match true,Ad.AM.parseF tIn with|true,some z=>some (insF g0L.c z,g0L)|_,_=>none)=_
   rw[parse_in]
   show some (insF c0L zIn,g0L)=_
   rw[ins_in]
  unfold ansF
  rw[this]
 rw[hl]
 simp only[runL,a,d,b]
 rfl
end
section
set_option linter.unusedSimpArgs false
theorem bext (l:List UInt8) (a:Nat):(⟨l.toArray⟩:ByteArray).extract 0 a=⟨(l.take a).toArray⟩:=by
 apply ByteArray.ext
 simp[ByteArray.data_extract]
theorem bidx (l:List UInt8) (a:Nat) (h:a < (⟨l.toArray⟩:ByteArray).size):((⟨l.toArray⟩:ByteArray)[a]'h)=l.getD a 0:=by
 have hl:a < l.length:=by simpa [ByteArray.size] using h
 show l.toArray[a]'(by simpa using hl)=_
 rw[List.getD_eq_getElem?_getD,List.getElem?_eq_getElem hl]
 simp
theorem begins_walk (l:List UInt8) (n:Int) (hn:n≤9223372036854775807) (W:World) (hA:LA W):Calls Tryz.prog 5 #[.string ⟨l.toArray⟩,.int .i64 n] W fun e w'=>e=.returned (.bool true)∧Below W.heap.size W w':=by
 have y:(⟨l.toArray⟩:ByteArray).size=l.length:=by simp[ByteArray.size]
 have p:=ki (fun (t:List UInt8) (ht:t.length≤3000) (W1:World) (hb:Below W.heap.size W W1)=>show Calls Tryz.prog 19 #[.string ⟨t.toArray⟩] W1 fun e w'=>e=.returned (.string ⟨(runL g0L (linL t)).toArray⟩)∧Below W1.heap.size W1 w' from run_run t ht W1 (hA.below hb))
 have z:=ki (show Calls Tryz.prog 19 #[.string ⟨#[98,105,110,100,115,10,105,110,32,54,52,58,102,102,57,98,58,58,97,48,48,58,49,10,102,108,121]⟩] W fun e w'=>e=.returned (.string ⟨#[45,10,49,48,46,48,46,48,46,49,10,98,97,100,10]⟩)∧Below W.heap.size W w' from by
  have h:=p.out fT (by decide) W (Below.refl _ _)
  rw[fact_run] at h
  exact h)
 clear hA
 go_enter Tryz.func5,Tryz.ntmps5
 go_upto_region 4 with (go_at_call 19;refine z.out.mono ?_;rintro e P ⟨rfl,q⟩;have s:=ki q;clear q)
 by_cases hs:3000 < l.length
 ·go_wp2_with fail
  go_ret
  exact ⟨rfl,s.out⟩
 ·by_cases h0:n < 0
  ·go_wp2_with fail
   go_ret
   exact ⟨rfl,s.out⟩
  ·have L:decide ((3000:Int) < (l.length:Int))=false:=by simp;omega
   go_wp2_with fail
   go_loopw [1,6] (fun u v wr=>∃ (m:Int) (a:Nat),a≤l.length∧u=.int .i64 m∧v=.int .i64 a∧0≤m∧m≤n∧Hid (m=0→a=0∨l.getD (a - 1) 0=10∧0 < a)∧Hid (Below W.heap.size W wr)) (fun _ v _=>l.length - (intOf v).toNat)
   case atStart=>exact ⟨n,0,Nat.zero_le _,rfl,rfl,by omega,Int.le_refl _,ki (fun _=>.inl rfl),s⟩
   case round =>
    obtain ⟨m,a,D,rfl,rfl,M,N,E,b⟩:=hrel
    have F:=b.out.size
    have O:IntKind.i64.wrap (m - 1)=m - 1:=by rw[IntKind.wrap_i64];omega
    have f:=ki (fun W1 (hb:Below W.heap.size W W1)=>p.out l (by omega) W1 hb)
    have w:=fun W1 (hb:Below W.heap.size W W1)=>p.out (l.take a) (by rw[List.length_take];omega) W1 hb
    rw[← bext] at w
    have g:=ki w
    clear w
    by_cases hm:0 < m
    ·by_cases hlt:a < l.length
     ·have k:a < (⟨l.toArray⟩:ByteArray).size:=by rw[y];exact hlt
      by_cases hb:l.getD a 0=10
      ·have A:((((⟨l.toArray⟩:ByteArray)[a]'(k)).toNat:Int) == 10)=true:=by rw[bidx,hb];rfl
       go_wp2_with fail
       go_roundw
       case rel=>exact ⟨m - 1,a+1,by omega,rfl,by go_num,by omega,by omega,ki (fun _=>.inr ⟨by rw[Nat.add_sub_cancel];exact hb,by omega⟩),b⟩
       case measure=>simp[intOf];omega
      ·have A:((((⟨l.toArray⟩:ByteArray)[a]'(k)).toNat:Int) == 10)=false:=by
        rw[bidx]
        have Q:(l.getD a 0).toNat≠10:=fun e=>hb (UInt8.toNat_inj.1 e)
        have G:(((l.getD a 0).toNat:Nat):Int)≠10:=by omega
        exact beq_eq_false_iff_ne.2 G
       go_wp2_with fail
       go_roundw
       case rel=>exact ⟨m,a+1,by omega,rfl,by go_num,by omega,by omega,ki (fun e=>absurd e (by omega)),b⟩
       case measure=>simp[intOf];omega
     ·obtain rfl:a=l.length:=by omega
      have H:=ki (show runL g0L (linL (l.take l.length))=runL g0L (linL l) by rw[List.take_length])
      rw[H.out] at g
      generalize runL g0L (linL l)=T at f g
      go_upto_region 12 with (go_at_call 19;refine (f.out _ b.out).mono ?_;rintro e I ⟨rfl,q⟩;have d:=ki (bt b.out q);clear q)
      go_upto_region 13 with (go_at_call 19;refine (g.out _ d.out).mono ?_;rintro e J ⟨rfl,q⟩;have i:=ki (bt d.out q);clear q)
      go_wp2_with fail
      go_ret
      exact ⟨rfl,i.out⟩
    ·obtain rfl:m=0:=by omega
     obtain ⟨r,K⟩:=run_begin g0L l a D (E.out rfl)
     rw[K] at f
     generalize runL g0L (linL (l.take a))=U at f g
     have B:(⟨(U++r).toArray⟩:ByteArray).size=U.length+r.length:=by simp[ByteArray.size]
     have C:(⟨U.toArray⟩:ByteArray).size=U.length:=by simp[ByteArray.size]
     have x:(⟨(U++r).toArray⟩:ByteArray).extract 0 U.length=⟨U.toArray⟩:=by rw[bext,List.take_left' rfl]
     generalize (⟨(U++r).toArray⟩:ByteArray)=TB at f B x
     generalize (⟨U.toArray⟩:ByteArray)=UB at f g C x
     have o:U.length≤U.length+r.length:=Nat.le_add_right _ _
     generalize U.length+r.length=nT at B o
     generalize U.length=nU at C x o
     have R:(nU:Int)≤(nT:Int):=by omega
     go_upto_region 12 with (go_at_call 19;refine (f.out _ b.out).mono ?_;rintro e I ⟨rfl,q⟩;have d:=ki (bt b.out q);clear q)
     go_upto_region 13 with (go_at_call 19;refine (g.out _ d.out).mono ?_;rintro e J ⟨rfl,q⟩;have i:=ki (bt d.out q);clear q)
     go_upto_region 15 with fail
     go_wp2_with fail
     go_ret
     exact ⟨rfl,i.out⟩
end
end Go.Proofs.YtgcojnlngchllaaGreatDoor
