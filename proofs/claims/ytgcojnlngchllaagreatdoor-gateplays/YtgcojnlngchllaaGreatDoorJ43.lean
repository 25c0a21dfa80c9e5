import Derived.Test.YtgcojnlngchllaaGreatDoorJ42
import Derived.Deep.AppendLies
namespace Go.Proofs.YtgcojnlngchllaaGreatDoor
open Go.RowKit Tryz
set_option linter.unusedVariables false
set_option maxRecDepth 100000
set_option maxHeartbeats 40000000
section
variable {k over:Int}{zs:List Int}
theorem Ct(h:(zs.length<hn k∨hn k+300<zs.length)∨sf (aR k zs) (zs.length-hn k)≠0∨¬((eb (aR k zs) over (zs.drop (hn k))).take (cn k)=zs.take (cn k)∧(eb (aR k zs) over (zs.drop (hn k))).drop (cn k+2)=zs.drop (cn k+2))):dX k over zs=(5,[],[]):=by
 unfold dX;by_cases h1:zs.length<hn k∨hn k+300<zs.length
 ·rw[if_pos h1]
 ·rw[if_neg h1];by_cases h2:sf (aR k zs) (zs.length-hn k)≠0
  ·rw[if_pos h2]
  ·rw[if_neg h2];rcases h with h|h|h
   ·exact absurd h h1
   ·exact absurd h h2
   ·rw[if_pos h]
theorem J3(h1:¬(zs.length<hn k∨hn k+300<zs.length))(h2:sf (aR k zs) (zs.length-hn k)=0)(h3:(eb (aR k zs) over (zs.drop (hn k))).take (cn k)=zs.take (cn k)∧(eb (aR k zs) over (zs.drop (hn k))).drop (cn k+2)=zs.drop (cn k+2)){r:Bool}(h4:eb (aR k zs) over (zs.drop (hn k))=zs↔r=true): dX k over zs=if r=true then (0,aR k zs,zs.drop (hn k)) else (6,[],[]):=by
 unfold dX;rw[if_neg h1,if_neg (fun h=>h h2),if_neg (fun h=>h h3)];cases r
 ·rw[if_pos (fun h=>by cases h4.1 h),if_neg (by decide)]
 ·rw[if_neg (fun h=>h (h4.2 rfl)),if_pos rfl]
theorem J4(k over:Int)(a:Option Addr)(len cap:Nat)(zs:List Int)(w:World)(hr:aj w a len cap zs)(hcl:len<=cap)(hcm:cap<=maxLen)(hk:kn k=true)(ho:up 65535 over=true): Calls prog 81 #[.int .i64 k,.slice a len cap,.int .i64 over] w fun r W'=>∃a1 l1 c1,r=.returned (.tuple #[.agg (aA (dX k over zs).2.1 a1 l1 c1),.int .i64 (dX k over zs).1])∧aj W' a1 l1 c1 (dX k over zs).2.2∧Below w.heap.size w W':=by
 have hl:=hr.1;have b:=hr.2.2.1;by_cases hlen:len<hn k∨hn k+300<len
 ·rw[Ct (.inl (by rw[hl];exact hlen))];exact(Sd k over a len cap w hk ho hlen hr.2.1).mono fun e w' ⟨h1,f⟩=>⟨none,0,0,h1,dL w',f⟩
 ·have hp:8<=hn k:=by unfold hn;split<;>omega
  obtain⟨g,p,rfl,_⟩:=hr.2.2.2.2 (by omega);have A:hn k<=len:=by omega
  have B:len<=hn k+300:=by omega
  have q:¬(zs.length<hn k∨hn k+300<zs.length):=by rw[hl];exact hlen
  clear hlen;rcases (jR k).1 hk with rfl|rfl
  ·have n:20<=len:=A;have o:len<=320:=B;by_cases hs:zs.getD 12 0=80∧zs.getD 13 0<=31∧P4.wd zs 18=0
   ·have s:sf (aR 6 zs) (zs.length-hn 6)=0:=(l6 _ _).2 ((wN zs b _ (by have:hn 6=20:=rfl;omega)).2 hs.2.1);have d:=Im zs over b (by omega) (by omega) hs.2.1;have l:=Sq zs over b (by omega) (by omega) ho hs;classical
    have i:P4.wd zs 16=bV (aR 6 zs) over (zs.drop 20)↔decide (P4.wd zs 16=bV (aR 6 zs) over (zs.drop 20))=true:=decide_eq_true_iff.symm;generalize decide (P4.wd zs 16=bV (aR 6 zs) over (zs.drop 20))=r at i;rw[J3 q s (d.2 hs) (l.trans i)];refine(Sl over g p len cap zs w hr ho n o hcl hcm hs r i).mono ?_;rintro e w' ⟨⟨t,h1⟩|⟨v,x,y,h1,z⟩,f⟩
    ·rw[t,if_neg (by decide)];exact⟨none,0,0,h1,dL w',f⟩
    ·rw[v,if_pos rfl];exact⟨x,_,y,h1,z,f⟩
   ·rw[Ct (.inr (by
     by_cases q8:zs.getD 13 0<=31
     ·exact .inr (fun h=>hs ((Im zs over b (by omega) (by omega) q8).1 h))
     ·exact .inl (fun h=>q8 ((wN zs b _ (by have:hn 6=20:=rfl;omega)).1 ((l6 _ _).1 h)))))]
    exact(Sj over g p len cap zs w hr ho n o hcl hcm hs).mono fun e w' ⟨h1,f⟩=>⟨none,0,0,h1,dL w',f⟩
  ·have n:8<=len:=A;have o:len<=308:=B;have s:sf (aR 17 zs) (zs.length-hn 17)=0:=(l6 _ _).2 (Ab zs b _ (by have:hn 17=8:=rfl;omega));have d:=Sm zs over b (by omega) (by omega);rw[hl] at d;by_cases hs:P4.wd zs 4=(len:Int)
   ·have l:=Sn zs over b (by omega) (by omega) ho (by rw[hl];exact hs);classical
    have i:P4.wd zs 6=bV (aR 17 zs) over (zs.drop 8)↔decide (P4.wd zs 6=bV (aR 17 zs) over (zs.drop 8))=true:=decide_eq_true_iff.symm;generalize decide (P4.wd zs 6=bV (aR 17 zs) over (zs.drop 8))=r at i;rw[J3 q s (d.2 hs) (l.trans i)];refine(Si over g p len cap zs w hr ho n o hcl hcm hs r i).mono ?_;rintro e w' ⟨⟨t,h1⟩|⟨v,x,y,h1,z⟩,f⟩
    ·rw[t,if_neg (by decide)];exact⟨none,0,0,h1,dL w',f⟩
    ·rw[v,if_pos rfl];exact⟨x,_,y,h1,z,f⟩
   ·rw[Ct (k:=17) (over:=over) (zs:=zs) (.inr (.inr (fun h=>hs (d.1 h))))];exact(Sg over g p len cap zs w hr ho n o hcl hcm hs).mono fun e w' ⟨h1,f⟩=>⟨none,0,0,h1,dL w',f⟩
def iw(k over:Int)(zs:List Int):Int×List Int×List Int:=if kn k=false then (2,[],[]) else if (dX k over zs).1≠0 then ((dX k over zs).1,[],[]) else dX k over zs
theorem J5(k over steps:Int)(zs:List Int):iQ k over steps zs=if (iw k over zs).1≠0 then ((iw k over zs).1,[],[]) else if steps<2 then (7,[],[]) else iw k over zs:=by
 unfold iQ iw;by_cases h1:kn k=false
 ·rw[if_pos h1,if_pos h1,if_pos (by decide)]
 ·rw[if_neg h1,if_neg h1];by_cases h2:(dX k over zs).1≠0
  ·rw[if_pos h2,if_pos h2,if_pos h2]
  ·rw[if_neg h2,if_neg h2,if_neg h2]
theorem WS(h:(dX k over zs).1≠0):(dX k over zs).2=([],[]):=by
 unfold dX at h⊢;split
 ·rfl
 ·split
  ·rfl
  ·split
   ·rfl
   ·split
    ·rfl
    ·rename_i h1 h2 h3 h4;rw[if_neg h1,if_neg h2,if_neg h3,if_neg h4] at h;exact absurd rfl h
theorem Cu(hk:kn k=true):iw k over zs=dX k over zs:=by
 unfold iw;rw[if_neg (by rw[hk];decide)];by_cases h:(dX k over zs).1≠0
 ·rw[if_pos h];have:=WS h;exact Prod.ext rfl (by rw[this])
 ·rw[if_neg h]
theorem WT(s d:List Int)(h k:Int)(a:Option Addr)(len cap:Nat)(zs:List Int)(w:World)(hr:aj w a len cap zs)(hcl:len<=cap)(hcm:cap<=maxLen)(ho:aB.iB s d h k)(hl:len<=320): Calls prog 32 #[aB.pk s d h k a len cap] w fun r W'=>∃a1 l1 c1,r=.returned (.tuple #[.agg (aA (iw k (o6 s d k len) zs).2.1 a1 l1 c1),.int .i64 (iw k (o6 s d k len) zs).1])∧aj W' a1 l1 c1 (iw k (o6 s d k len) zs).2.2∧Below w.heap.size w W':=by
 cases hk:kn k
 ·have e:iw k (o6 s d k len) zs=(2,[],[]):=if_pos hk;rw[e];exact(SB s d h k a len cap w hk).mono fun e w' ⟨h1,h2⟩=>⟨none,0,0,h1,dL w',h2⟩
 ·rw[Cu hk];exact SC s d h k a len cap w hk ho hl _ _ _ (fun W hb=>J4 k (o6 s d k len) a len cap zs W (hr.below hb) hcl hcm hk (wO s d k len ho.1 ho.2.1))
theorem WU(s d t k i:Int)(a:Option Addr)(len cap:Nat)(zs:List Int)(w:World)(hr:aj w a len cap zs)(hcl:len<=cap)(hcm:cap<=maxLen)(ho:aF.iB s d t k i)(hl:len<=320): Calls prog 43 #[aF.pk s d t k i a len cap] w fun r W'=>∃a1 l1 c1,r=.returned (.tuple #[.agg (aA (iw k (o4 s d k len) zs).2.1 a1 l1 c1),.int .i64 (iw k (o4 s d k len) zs).1])∧aj W' a1 l1 c1 (iw k (o4 s d k len) zs).2.2∧Below w.heap.size w W':=by
 cases hk:kn k
 ·have e:iw k (o4 s d k len) zs=(2,[],[]):=if_pos hk;rw[e];exact(SE s d t k i a len cap w hk).mono fun e w' ⟨h1,h2⟩=>⟨none,0,0,h1,dL w',h2⟩
 ·rw[Cu hk];exact SF s d t k i a len cap w hk ho hl _ _ _ (fun W hb=>J4 k (o4 s d k len) a len cap zs W (hr.below hb) hcl hcm hk (wP s d k len))
theorem WV(a:Option Addr)(len cap:Nat)(zs:List Int)(w:World)(hr:aj w a len cap zs)(hcl:len<=cap)(hcm:cap<=maxLen): Calls prog 31 #[.slice a len cap] w fun e w'=>((¬aB.Good zs∧e=.returned (.tuple #[aB.iH,.int .i64 5]))∨(aB.Good zs∧∃a',e=.returned (.tuple #[aB.pk (bf zs 8) (bf zs 24) (zs.getD 7 0) (zs.getD 6 0) a' (len-40) (cap-40),.int .i64 0])∧aj w' a' (len-40) (cap-40) (zs.drop 40)))∧Below w.heap.size w w':=by
 have hl:=hr.1;by_cases hG:aB.Good zs
 ·have d:=hG;unfold aB.Good at d;obtain⟨g,b,rfl,_⟩:=hr.2.2.2.2 (by omega);exact(aB.WK g b len cap zs w hr hcl hcm hG).mono fun e w' ⟨a',h1,h2,h3⟩=>⟨.inr ⟨hG,a',h1,h2⟩,h3⟩
 ·by_cases hlen:len<40∨360<len
  ·exact(aB.BL a len cap w hlen hr.2.1).mono fun e w' ⟨h1,h2⟩=>⟨.inl ⟨hG,h1⟩,h2⟩
  ·obtain⟨g,b,rfl,_⟩:=hr.2.2.2.2 (by omega);exact(aB.SS g b len cap zs w hr (by omega) (by omega) hG).mono fun e w' ⟨h1,h2⟩=>⟨.inl ⟨hG,h1⟩,h2⟩
end
section
variable {l:List (Int×Nat)}{B cap k tb:Nat}{O ah:Nat->Prop}{a:Option Addr}{w w':World}
def rJ(c:List Int)(inj:Bool)(a:Option Addr)(n cap:Nat)(tb:Nat)(sv:Value)(now:Int):Array Value:=#[.int .i64 (el c 0),.int .i64 (el c 1),.int .i64 (el c 2),.int .i64 (el c 3),.int .i64 (el c 4),.int .i64 (el c 5),.int .i64 (el c 6),.int .i64 (el c 7),.int .i64 (el c 8),.int .i64 (el c 9),.int .i64 (el c 10),.int .i64 (el c 11),.int .i64 (el c 12),.int .i64 (el c 13),.int .i64 (el c 14),.int .i64 (el c 15),.int .i64 (el c 16),.int .i64 (el c 17),.int .i64 (el c 18),.int .i64 (el c 19),.int .i64 (el c 20),.bool inj,.slice a n cap,.pointer (some ⟨tb,0,none⟩),sv,.int .i64 now]
def fQ(B:Nat)(c:List Int)(inj:Bool)(a:Option Addr)(n cap:Nat)(tb:Nat)(sv:Value)(now:Int)(w:World):Prop:=w.heap[B]? = some (.cells (rJ c inj a n cap tb sv now) 54 (0,0))
theorem fQ.lt{c:List Int}{inj:Bool}{n:Nat}{sv:Value}{now:Int}(p:fQ B c inj a n cap tb sv now w):B<w.heap.size:=(Array.getElem?_eq_some_iff.1 p).1
theorem fQ.same{c:List Int}{inj:Bool}{n:Nat}{sv:Value}{now:Int}(p:fQ B c inj a n cap tb sv now w)(e:w'.heap[B]? = w.heap[B]?):fQ B c inj a n cap tb sv now w':=e.trans p
theorem fQ.cellAt{c:List Int}{inj:Bool}{n:Nat}{sv:Value}{now:Int}(p:fQ B c inj a n cap tb sv now w)(j:Nat):w.cell? ⟨B,j,none⟩=(rJ c inj a n cap tb sv now)[j]?:=cell_of_row w B j _ _ _ p
theorem fQ.aZ{c:List Int}{inj:Bool}{n:Nat}{sv:Value}{now:Int}(p:fQ B c inj a n cap tb sv now w)(j:Nat):w.frozen? ⟨B,j,none⟩=false:=by unfold fQ at p;simp[World.frozen?,p]
theorem fQ.hv{c:List Int}{inj:Bool}{n:Nat}{sv:Value}{now:Int}(p:fQ B c inj a n cap tb sv now w):(hload (.pointer (some ⟨B,0,none⟩))).run prog w=.ok (.agg (av (dA c))) w :=
 run_loadAt_mid w B 0 23 _ _ (fun j v hv=>by have hj:j<8:=(List.getElem?_eq_some_iff.1 hv).1;rw[Nat.zero_add,p.cellAt];rcases (by omega:j=0∨j=1∨j=2∨j=3∨j=4∨j=5∨j=6∨j=7) with rfl|rfl|rfl|rfl|rfl|rfl|rfl|rfl<;>exact hv) underlying23 rfl (by kernel_rfl)
theorem fQ.hp{c:List Int}{inj:Bool}{n:Nat}{sv:Value}{now:Int}(p:fQ B c inj a n cap tb sv now w):(hload (.pointer (some ⟨B,9,none⟩))).run prog w=.ok (.agg (av (pfx c))) w :=
 run_loadAt_mid w B 9 23 _ _ (fun j v hv=>by have hj:j<8:=(List.getElem?_eq_some_iff.1 hv).1;rw[p.cellAt];rcases (by omega:j=0∨j=1∨j=2∨j=3∨j=4∨j=5∨j=6∨j=7) with rfl|rfl|rfl|rfl|rfl|rfl|rfl|rfl<;>exact hv) underlying23 rfl (by kernel_rfl)
def sx(l:List (Int×Nat)):List Value:=l.flatMap fun x=>[.int .i64 x.1,.pointer (some ⟨x.2,0,none⟩)]
theorem WW(l m:List (Int×Nat)):sx (l++m)=sx l++sx m:=by unfold sx;rw[List.flatMap_append]
theorem J6(l:List (Int×Nat))(k:Nat)(hk:k<l.length):(sx l)[k*2]? = some (.int .i64 (l.getD k (0,0)).1)∧(sx l)[k*2+1]? = some (.pointer (some ⟨(l.getD k (0,0)).2,0,none⟩)):=by
 induction l generalizing k with
 | nil=>exact absurd hk (by simp)
 | cons x r ih =>
  have e:sx (x::r)=[.int .i64 x.1,.pointer (some ⟨x.2,0,none⟩)]++sx r:=rfl;cases k with
  | zero=>exact⟨rfl,rfl⟩
  | succ j =>have:=ih j (by simpa using hk);rw[show(j+1)*2=j*2+1+1 by omega];exact⟨(List.getElem?_cons_succ (a:=Value.int .i64 x.1)).trans (List.getElem?_cons_succ.trans this.1),(List.getElem?_cons_succ (a:=Value.int .i64 x.1)).trans (List.getElem?_cons_succ.trans this.2)⟩
def gD(w:World)(v:Value)(l:List (Int×Nat)):Prop:=w.ownsRow 0 103 2 v l.length (sx l)∧NB (fun k=>v.ownBlock=some k) w
theorem gD.nil(w:World):gD w (.slice none 0 0) []:=⟨World.ownsRow_nil _ _ _ _,fun k hk=>by cases hk⟩
theorem gD.same{v:Value}(h:gD w v l)(hs:∀k,v.ownBlock=some k->w'.heap[k]? = w.heap[k]?):gD w' v l :=
 ⟨ig h.1 hs,fun k hk j x=>by rw[World.cell?_of_block (a:=⟨k,j,none⟩) (hs k hk)];exact h.2 k hk j x⟩
def aO(sv:Value)(l:List (Int×Nat))(k:Nat):Prop:=sv.ownBlock=some k∨∃x∈l,k=x.2
def lN(sv:Value)(l:List (Int×Nat))(ss:List (Int×List Int×Int×Bool×Bool))(w:World):Prop :=
 gD w sv l∧(∀x∈l,∃st,bH ss x.1=some st∧ST 101 x.2 st.1 st.2.1 st.2.2.1 st.2.2.2 w)∧(∀p st,bH ss p=some st->∃x∈l,x.1=p)∧l.Pairwise (fun x y=>x.1≠y.1∧x.2≠y.2)
def bA(B:Nat)(a:Option Addr)(cap:Nat)(tb:Nat)(sv:Value)(l:List (Int×Nat))(ah:Nat->Prop)(g:GS)(w:World):Prop :=
 fQ B g.c g.inj a g.bk.length cap tb sv g.now w∧(lM a g.bk w∧(∀k,kH a k->k<w.heap.size)∧g.bk.length<=cap∧cap<=maxLen)∧jw tb g.m g.ws g.ts g.bs ah w∧lN sv l g.ss w∧BX B a ah (aO sv l)
theorem lN.lt{sv:Value}{ss:List (Int×List Int×Int×Bool×Bool)}(h:lN sv l ss w)(hk:aO sv l k):k<w.heap.size:=by
 rcases hk with hk|⟨x,hx,rfl⟩
 ·exact(cO h.1.1 k hk).1
 ·obtain⟨st,_,hs⟩:=h.2.1 x hx;exact hs.lt
theorem lN.same{sv:Value}{ss:List (Int×List Int×Int×Bool×Bool)}(h:lN sv l ss w)(hs:∀k,aO sv l k->w'.heap[k]? = w.heap[k]?)(hr:∀a n c zs,aj w a n c zs->aj w' a n c zs):lN sv l ss w':=by refine⟨h.1.same (fun g e=>hs g (.inl e)),fun x hx=>?_,h.2.2⟩;obtain⟨st,e,a,n,c,b,d,f⟩:=h.2.1 x hx;exact⟨st,e,a,n,c,(hs _ (.inr ⟨x,hx,rfl⟩)).trans b,hr _ _ _ _ d,f⟩
theorem bA.lt{sv:Value}{g:GS}(h:bA B a cap tb sv l ah g w)(hk:GO B a ah (aO sv l) k):k<w.heap.size:=by
 rcases hk with rfl|hk|hk|hk
 ·exact h.1.lt
 ·exact h.2.1.2.1 k hk
 ·exact h.2.2.1.lt k hk
 ·exact h.2.2.2.1.lt hk
theorem bA.apart{sv:Value}{g:GS}(h:bA B a cap tb sv l ah g w)(hs:w.heap.size<=w'.heap.size)(hk:∀k,GO B a ah (aO sv l) k->w'.heap[k]? = w.heap[k]?)(hr:∀a n c zs,aj w a n c zs->aj w' a n c zs):bA B a cap tb sv l ah g w' :=
 ⟨h.1.same (hk B (.inl rfl)),⟨h.2.1.1.same (fun k q=>hk k (.inr (.inl q))),fun k q=>Nat.lt_of_lt_of_le (h.2.1.2.1 k q) hs,h.2.1.2.2⟩,h.2.2.1.same (fun k q=>hk k (.inr (.inr (.inl q)))),h.2.2.2.1.same (fun k q=>hk k (.inr (.inr (.inr q)))) hr,h.2.2.2.2⟩
theorem bA.kept{sv:Value}{g:GS}(h:bA B a cap tb sv l ah g w)(hb:Below w.heap.size w w'):bA B a cap tb sv l ah g w' :=
 h.apart hb.size (fun k hk=>hb.block k (h.lt hk)) (fun _ _ _ _ r=>r.below hb)
theorem RT.nb{P BW BT n:Nat}{ws:Nat->List Int}{ts:Nat->Bool}{v:Value}{bs:List (List Int)}(h:RT B P BW BT n ws ts v bs w):NB (fun g=>g=B∨g=BW∨g=BT) w:=by
 intro k l j x;rcases l with rfl|rfl|rfl
 ·refine jO h.1 ?_ j x;intro j x hc;match j with
  | 0=>cases hc
  | 1 =>
   have b:some v=some (.int .u8 x):=hc;rcases h.2.2.2 with⟨e,_⟩|⟨g,cap,cur,e,_⟩
   ·rw[e] at b;cases b
   ·rw[e] at b;cases b
  | j+2=>simp at hc
 ·obtain⟨o,f,p,i⟩:=h.2.1.2.1;refine jO f ?_ j x;intro j x hc;by_cases hj:j<8*n
  ·have d:=i (j/8) (by omega) (j%8) (by omega);rw[show 8*(j/8)+j%8=j by omega,hc] at d;cases d
  ·rw[Array.getElem?_eq_none (by omega)] at hc;cases hc
 ·obtain⟨o,f,p,i⟩:=h.2.1.2.2;refine jO f ?_ j x;intro j x hc;by_cases hj:j<n
  ·have d:=i j hj;rw[hc] at d;cases d
  ·rw[Array.getElem?_eq_none (by omega)] at hc;cases hc
def mQ(B:Nat)(m:Nat)(ws:Nat->List Int)(ts:Nat->Bool)(bs:List (List Int))(O:Nat->Prop)(w w':World):Prop:=∃O',jw B m ws ts bs O' w'∧aL O w w'∧∀g,O' g->O g∨w.heap.size<=g
theorem mQ.of{m:Nat}{ws:Nat->List Int}{ts:Nat->Bool}{bs:List (List Int)}(h:jw B m ws ts bs O w)(hb:Below w.heap.size w w'):mQ B m ws ts bs O w w' :=
 ⟨O,h.same (fun g hO=>hb.block g (h.lt g hO)),aL.of hb,fun _ e=>.inl e⟩
theorem Ky{m:Nat}{ws:Nat->List Int}{ts:Nat->Bool}{bs:List (List Int)}(h:jw B m ws ts bs O w)(hm:m<=16)(hl:bs.length<=128){f:List Int}{back far now:Int}(hf:aW f=true)(hr:(fr back && wd far && tc now)=true)(hi:bY bs f=none): Calls prog 36 #[.pointer (some ⟨B,0,none⟩),.agg (ak f),.int .i64 back,.int .i64 far,.int .i64 now] w fun r w'=>(tk ws ts (cli f) (8*m)=none∧r=.returned (.tuple #[.agg (ay []),.int .i64 3])∧mQ B m ws ts bs O w w')∨(∃i,tk ws ts (cli f) (8*m)=some i∧r=.returned (.tuple #[.agg (ay (bL f (1024+(i:Int)) back far now)),.int .i64 0])∧mQ B m (upd ws i (cli f)) (upd ts i true) (ins (bL f (1024+(i:Int)) back far now) bs) O w w'):=by
 obtain⟨P,b,d,v,k,rfl⟩:=h;cases ht:tk ws ts (cli f) (8*m) with
 | none =>refine(PO B P b d m ws ts v bs f back far now w k hm (by omega) hf hr hi ht).mono ?_;rintro r w' ⟨l,n,a⟩;exact .inl ⟨rfl,l,_,⟨P,b,d,v,n,rfl⟩,⟨a.mono (fun g e=>by rcases e with e|e|e;exact .inl e;exact .inr (.inr (.inl e));exact .inr (.inr (.inr (.inl e)))),fun _ _ _ _ r=>r.fr a k.nb⟩,fun _ e=>.inl e⟩
 | some i =>
  refine(PS B P b d m ws ts v bs f back far now w k hm (by omega) hf hr hi i ht).mono ?_;rintro r w' ⟨o,l,n,a,e4⟩;refine .inr ⟨i,rfl,l,_,⟨P,b,d,o,n,rfl⟩,⟨a.mono (fun g e=>by rcases e with e|e|e;exact .inl e;exact .inr (.inr (.inl e));exact .inr (.inr (.inr (.inl e)))),fun _ _ _ _ r=>r.fr a k.nb⟩,fun g e=>?_⟩;rcases e with e|e|e|e|e
  ·exact .inl (.inl e)
  ·exact .inl (.inr (.inl e))
  ·exact .inl (.inr (.inr (.inl e)))
  ·exact .inl (.inr (.inr (.inr (.inl e))))
  ·exact .inr (e4 g e)
theorem WX{m:Nat}{ws:Nat->List Int}{ts:Nat->Bool}{bs:List (List Int)}(h:jw B m ws ts bs O w)(hm:m<=16)(hl:bs.length<=128)(hT:xY (8*m) bs){now:Int}(ht:tc now=true): Calls prog 48 #[.pointer (some ⟨B,0,none⟩),.int .i64 now] w fun r w'=>∃fO,r=.returned fO∧dU w.heap.size w' fO (es now bs ts bs.length).1∧mQ B m ws (es now bs ts bs.length).2.2 (es now bs ts bs.length).2.1 O w w':=by
 obtain⟨P,a,b,v,d,rfl⟩:=h;refine(PZ B P a b (8*m) ws ts v bs now w d (by omega) (by omega) hT ht).mono ?_;rintro r w' ⟨fO,f,i,k,l,_,e4,n⟩;refine⟨fO,i,l.xZ,_,⟨P,a,b,f,k,rfl⟩,⟨e4.mono (fun g e=>by rcases e with e|e;exact .inl e;exact .inr (.inr (.inr (.inl e)))),fun _ _ _ _ r=>r.fr e4 (fun g hg=>d.nb g (by rcases hg with e|e;exact .inl e;exact .inr (.inr e)))⟩,fun g e=>?_⟩;rcases e with e|e|e|e|e
 ·exact .inl (.inl e)
 ·exact .inl (.inr (.inl e))
 ·exact .inl (.inr (.inr (.inl e)))
 ·exact .inl (.inr (.inr (.inr (.inl e))))
 ·exact .inr (n g e)
theorem CS{m:Nat}{ws:Nat->List Int}{ts:Nat->Bool}{bs:List (List Int)}(h:jw B m ws ts bs O w)(hl:bs.length<=128)(f:List Int): Calls prog 34 #[.pointer (some ⟨B,0,none⟩),.agg (ak f)] w fun e w'=>e=.returned (.int .i64 (ix (bY bs f)))∧Below w.heap.size w w':=by obtain⟨P,a,b,v,d,rfl⟩:=h;exact Bd B P a b (8*m) ws ts v bs f w d (by omega)
theorem WY{m:Nat}{ws:Nat->List Int}{ts:Nat->Bool}{bs:List (List Int)}(h:jw B m ws ts bs O w)(hl:bs.length<=128)(p:Int): Calls prog 44 #[.pointer (some ⟨B,0,none⟩),.int .i64 p] w fun e w'=>e=.returned (.int .i64 (ix (prt bs p)))∧w'=w:=by obtain⟨P,a,b,v,d,rfl⟩:=h;exact PI B P a b (8*m) ws ts v bs p w d (by omega)
theorem aj.WZ{g j:Nat}{n:Int}(hc:w.cell? ⟨g,j,none⟩=some (.int .i64 n))(v:Value){len:Nat}{zs:List Int}(r:aj w a len cap zs):aj (w.setCell ⟨g,j,none⟩ v) a len cap zs:=by
 refine⟨r.1,r.2.1,r.2.2.1,r.2.2.2.1,fun hp=>?_⟩;obtain⟨b,d,e,h⟩:=r.2.2.2.2 hp;refine⟨b,d,e,fun i hi=>?_⟩;have f:=h i hi;by_cases hb:b=g
 ·subst hb;by_cases hj:d+i=j
  ·rw[hj,hc] at f;cases f
  ·exact(World.cell?_setCell_other (w:=w) (a:=⟨b,j,none⟩) (b:=⟨b,d+i,none⟩) (v:=v) (fun e=>hj (by injection e with _ e2;exact e2.symm))).trans f
 ·exact(World.cell?_of_block (a:=⟨b,d+i,none⟩) (Below.heap_setCell w ⟨g,j,none⟩ v b hb)).trans f
theorem wh{m:Nat}{ws:Nat->List Int}{ts:Nat->Bool}{bs:List (List Int)}(h:jw B m ws ts bs O w)(hk:k<bs.length): ∃g cap,w.cell? ⟨B,1,none⟩=some (.slice (some ⟨g,0,none⟩) bs.length cap)∧bs.length<=cap∧cap<=maxLen∧O g∧(∃n,w.cell? ⟨g,k*23+22,none⟩=some (.int .i64 n))∧w.frozen? ⟨g,k*23+22,none⟩=false∧w.rangeAt g (k*23) (ay (bs.getD k [])).toList ∧ ∀now,jw B m ws ts (bs.set k (bg (bs.getD k []) now)) O (w.setCell ⟨g,k*23+22,none⟩ (.int .i64 now))∧aL O w (w.setCell ⟨g,k*23+22,none⟩ (.int .i64 now)):=by
 obtain⟨P,l,o,v,d,rfl⟩:=h;rcases d.2.2.2 with⟨e,he⟩|⟨g,cap,cur,e,hg0,hg,hn,hm,hs,htk⟩
 ·exact absurd hk (by rw[he];exact Nat.not_lt_zero _)
 ·subst e;have f:=d.2.2.cells (g:=g) rfl;have b:∀j,j<23->w.cell? ⟨g,k*23+j,none⟩=some (.int .i64 (el (bs.getD k []) j)):=fun j hj=>by have:=f (k*23+j) (.int .i64 (el (bs.getD k []) j)) (by exact uU bs k j hk hj);rw[jQ] at this;rw[Nat.zero_add] at this;exact this
  refine⟨g,cap,?_,hn,hm,.inr (.inr (.inr (.inr rfl))),⟨_,b 22 (by omega)⟩,?_,?_,fun now=>⟨⟨P,l,o,_,d.used k hk now,rfl⟩,?_⟩⟩
  ·rw[cell_of_row w B 1 _ _ _ d.1];rfl
  ·simp[World.frozen?,hg]
  ·intro j u i;have hj:j<23:=(List.getElem?_eq_some_iff.1 i).1;rw[b j hj,<-i];have:=pU (bs.getD k []) j hj;simpa using this.symm
  ·refine⟨⟨rfl,rfl,rfl,by simp,fun q hq hne=>?_⟩,fun _ _ _ _ r=>r.WZ (b 22 (by omega)) _⟩;exact Below.heap_setCell w ⟨g,k*23+22,none⟩ _ q (fun e=>hne (.inr (.inr (.inr (.inr (by rw[e];rfl))))))
theorem bA.tab{sv:Value}{g:GS}(h:bA B a cap tb sv l ah g w){ws:Nat->List Int}{ts:Nat->Bool}{bs:List (List Int)}(q:mQ tb g.m ws ts bs ah w w'): ∃bI,bA B a cap tb sv l bI (g.tab ws ts bs) w'∧aL (GO B a ah (aO sv l)) w w'∧∀k,bI k->ah k∨w.heap.size<=k:=by
 obtain⟨bI,n,b,d⟩:=q;obtain⟨e,f,i⟩:=h.2.2.2.2;have o:=h.1.lt;refine⟨bI,⟨h.1.same (b.1.2.2.2.2 B o e.2.1),⟨h.2.1.1.same (fun k hk=>b.1.2.2.2.2 k (h.2.1.2.1 k hk) (f k hk).1),fun k hk=>Nat.lt_of_lt_of_le (h.2.1.2.1 k hk) b.size,h.2.1.2.2⟩,n,h.2.2.2.1.same (fun k hk=>b.1.2.2.2.2 k (h.2.2.2.1.lt hk) (fun ho=>i k ho hk)) b.2,⟨e.1,fun ho=>?_,e.2.2⟩,fun k hk=>⟨fun ho=>?_,(f k hk).2⟩,fun k ho hs=>?_⟩,b.mono (fun k hk=>.inr (.inr (.inl hk))),d⟩
 ·rcases d B ho with h1|h1
  ·exact e.2.1 h1
  ·omega
 ·rcases d k ho with h1|h1
  ·exact(f k hk).1 h1
  ·have:=h.2.1.2.1 k hk;omega
 ·rcases d k ho with h1|h1
  ·exact i k h1 hs
  ·have:=h.2.2.2.1.lt hs;omega
end
section
variable {l:List (Int×Nat)}{cap:Nat}{w:World}
theorem gD.shape{v:Value}(h:gD w v l):∃ao cap,v=.slice ao l.length cap∧l.length<=cap∧cap<=maxLen∧(0<l.length->∃g,ao=some ⟨g,0,none⟩):=by
 rcases h.1.2 with⟨rfl,hn⟩|⟨g,cap,cur,rfl,_,_,h1,h2,_⟩
 ·exact⟨none,0,by rw[hn],by omega,by unfold maxLen;omega,fun h=>by omega⟩
 ·exact⟨_,cap,rfl,h1,h2,fun _=>⟨g,rfl⟩⟩
theorem gD.cell{g n:Nat}(h:gD w (.slice (some ⟨g,0,none⟩) n cap) l)(k:Nat)(hk:k<l.length):w.cell? ⟨g,k*2,none⟩=some (.int .i64 (l.getD k (0,0)).1)∧w.cell? ⟨g,k*2+1,none⟩=some (.pointer (some ⟨(l.getD k (0,0)).2,0,none⟩)):=by have hc:=h.1.cells (g:=g) rfl;have a:=hc (k*2) _ (J6 l k hk).1;have b:=hc (k*2+1) _ (J6 l k hk).2;rw[jQ,Nat.zero_add] at a b;exact⟨a,b⟩
theorem Dt(B:Nat)(a:Option Addr)(cap tb:Nat)(sv:Value)(l:List (Int×Nat))(ah:Nat->Prop)(g:GS)(p:Int)(w:World)(h:bA B a cap tb sv l ah g w)(hl:l.length<=1000): Calls prog 38 #[.pointer (some ⟨B,0,none⟩),.int .i64 p] w fun e w'=>((bH g.ss p=none∧e=.returned (.pointer none))∨∃x∈l,x.1=p∧e=.returned (.pointer (some ⟨x.2,0,none⟩)))∧w'=w:=by
 obtain⟨n,o,rfl,-,-,f⟩:=h.2.2.2.1.1.shape;have i:=ki h;have q:=ki f;have D:w.cell? ⟨B,24,none⟩=some (.slice n l.length o):=(h.1.cellAt 24).trans rfl;clear h f;have C:(l.length:Int)<=1000:=by omega
 go_enter func38,ntmps38;go_wp2;go_loop [5] (fun t=>∃k:Nat,k<=l.length∧t=.int .i64 k∧Hid (∀j,j<k->((l.getD j (0,0)).1 == p)=false)) (fun t=>l.length-(intOf t).toNat)
 case atStart=>exact⟨0,by omega,rfl,fun j h=>absurd h (by omega)⟩
 case round =>
  obtain⟨k,E,rfl,HI⟩:=hrel;by_cases hlt:k<l.length
  ·obtain⟨G,rfl⟩:=q.o (by omega);have F:(k:Int)<(l.length:Int):=by omega
   obtain⟨c1,c2⟩:=i.o.2.2.2.1.1.cell k hlt;obtain⟨x,b⟩:∃x,l.getD k (0,0)=x:=⟨_,rfl⟩;have d:x∈l:=by rw[<-b,List.getD_eq_getElem?_getD,List.getElem?_eq_getElem hlt];exact List.getElem_mem hlt
   rw[b] at c1 c2;have r:=ki b;have s:=ki d;clear b d;obtain⟨y,z⟩:=x;cases hq:y == p
   ·have v:=ki (show((l.getD k (0,0)).1 == p)=false by rw[r.o];exact hq);go_wp2;go_round
    case rel=>exact⟨k+1,by omega,by go_num,fun j hj=>if e:j=k then by rw[e];exact v.o else HI.o j (by omega)⟩
    case measure=>simp[intOf];omega
   ·go_wp2;go_ret;exact⟨.inr ⟨_,_,s.o,by simpa using hq,rfl⟩,rfl⟩
  ·obtain rfl:l.length=k:=by omega
   go_wp2;go_ret;refine⟨.inl ⟨?_,rfl⟩,rfl⟩;cases hs:bH g.ss p with
   | none=>rfl
   | some st =>obtain⟨x,b,e⟩:=i.o.2.2.2.1.2.2.1 p st hs;obtain⟨j,hj,A⟩:=List.mem_iff_getElem.1 b;have:=HI.o j hj;rw[List.getD_eq_getElem?_getD,List.getElem?_eq_getElem hj] at this;simp[A,e] at this
def rM(w:World)(B:Nat)(O:Nat->Prop)(g':GS)(w':World):Prop:=∃a cap tb sv l ah,bA B a cap tb sv l ah g' w'∧aL O w w'∧∀k,GO B a ah (aO sv l) k->O k∨w.heap.size<=k
theorem bA.still{B:Nat}{a:Option Addr}{tb:Nat}{sv:Value}{ah:Nat->Prop}{g:GS}{w':World}(h:bA B a cap tb sv l ah g w)(hb:Below w.heap.size w w'):rM w B (GO B a ah (aO sv l)) g w' :=
 ⟨a,cap,tb,sv,l,ah,h.kept hb,aL.of hb,fun _ hk=>.inl hk⟩
theorem bA.mark{B K:Nat}{tb:Nat}{sv:Value}{ah:Nat->Prop}{g:GS}(h:bA B (some ⟨K,0,none⟩) cap tb sv l ah g w){i j:Nat}(hi:i<g.bk.length)(hj:j<6)(b:Bool)(x:List Int)(h4:4<=j)(hx:∀m,(bG x)[m]? = if m=j then some (.bool b) else (bG (g.bk.getD i []))[m]?): (∃b0,w.cell? ⟨K,i*6+j,none⟩=some (.bool b0))∧w.frozen? ⟨K,i*6+j,none⟩=false∧bA B (some ⟨K,0,none⟩) cap tb sv l ah (g.mI (g.bk.set i x)) (w.setCell ⟨K,i*6+j,none⟩ (.bool b))∧aL (GO B (some ⟨K,0,none⟩) ah (aO sv l)) w (w.setCell ⟨K,i*6+j,none⟩ (.bool b)):=by
 obtain⟨E,A,I⟩:=h.2.2.2.2;obtain⟨F,f,t,e,hp,o⟩:=h.2.1.1 (by omega);obtain rfl:K=F:=by injection e with e;injection e
 have d:f[i*6+j]? = (bG (g.bk.getD i []))[j]?:=by rw[Nat.mul_comm];exact o i hi j hj
 have hb:∀y,f[i*6+j]?≠some (.int .u8 y):=fun y hy=>by rw[d] at hy;rcases (by omega:j=4∨j=5) with rfl|rfl<;>cases hy
 have C:∃b0,w.cell? ⟨K,i*6+j,none⟩=some (.bool b0):=by rw[cell_of_row w K _ _ _ _ hp,d];rcases (by omega:j=4∨j=5) with rfl|rfl<;>exact⟨_,rfl⟩
 have D:w.frozen? ⟨K,i*6+j,none⟩=false:=by simp[World.frozen?,hp]
 have H:i*6+j<f.size:=by
  rcases Nat.lt_or_ge (i*6+j) f.size with h1|h1
  ·exact h1
  ·rw[Array.getElem?_eq_none h1] at d;rcases (by omega:j=4∨j=5) with rfl|rfl<;>cases d
 have q:∀a n c zs,aj w a n c zs->aj (w.setCell ⟨K,i*6+j,none⟩ (.bool b)) a n c zs:=fun _ _ _ _ r=>r.Jm _ hp hb
 have G:=setCell_eq_setRow w K (i*6+j) f t (0,0) (.bool b) hp;rw[G] at q⊢;have v:=setRow_heap w K f (f.setIfInBounds (i*6+j) (.bool b)) t (0,0) hp;have p:=dS w K (f.setIfInBounds (i*6+j) (.bool b));refine⟨C,D,?_⟩;generalize w.setRow K _=w' at q v p⊢;have s:kH (some ⟨K,0,none⟩) K:=⟨0,rfl⟩;have hs:∀k,k≠K->w'.heap[k]? = w.heap[k]?:=p.2.2.2.2;refine⟨⟨?_,⟨fun _=>⟨K,_,t,rfl,v,fun k hk m hm=>?_⟩,fun k hk=>by rw[p.2.2.2.1];exact h.2.1.2.1 k hk,?_⟩,h.2.2.1.same (fun k hk=>hs k (fun e=>(A K s).1 (e ▸ hk))),h.2.2.2.1.same (fun k hk=>hs k (fun e=>(A K s).2 (e ▸ hk))) q,h.2.2.2.2⟩,⟨p.1,p.2.1,p.2.2.1,by rw[p.2.2.2.1];exact Nat.le_refl _,fun k _ hn=>hs k (fun e=>hn (.inr (.inl (by rw[e];exact s))))⟩,q⟩
 ·have:=h.1.same (hs B (fun e=>E.1 (by rw[e];exact s)));have el:(g.mI (g.bk.set i x)).bk.length=g.bk.length:=List.length_set ..;rw[el];exact this
 ·have el:(g.mI (g.bk.set i x)).bk=g.bk.set i x:=rfl;rw[el] at hk⊢;rw[List.length_set] at hk;rw[Array.getElem?_setIfInBounds];by_cases hki:k=i
  ·subst hki;have z:(g.bk.set k x).getD k []=x:=by simp[List.getD_eq_getElem?_getD,hi]
   rw[z,hx m];by_cases vN:m=j
   ·subst vN;rw[if_pos (by omega),if_pos rfl,if_pos (by omega)]
   ·rw[if_neg (by omega),if_neg vN];exact o k hi m hm
  ·have z:(g.bk.set i x).getD k []=g.bk.getD k []:=by simp[List.getD_eq_getElem?_getD,List.getElem?_set_ne (fun e=>hki e.symm)]
   rw[z,if_neg (by omega)];exact o k hk m hm
 ·have el:(g.mI (g.bk.set i x)).bk.length=g.bk.length:=List.length_set ..;rw[el];exact h.2.1.2.2
theorem W9(B:Nat)(a:Option Addr)(cap tb:Nat)(sv:Value)(l:List (Int×Nat))(ah:Nat->Prop)(g:GS)(id what:Int)(u:Bool)(w:World)(h:bA B a cap tb sv l ah g w)(hl:g.bk.length<=1000)(f:List Int->List Int)(hw:(what=0∧f=fun x=>ji x u)∨(what=1∧f=fun x=>jk x u)): Calls prog 12 #[.pointer (some ⟨B,0,none⟩),.int .i64 id,.int .i64 what,.bool u] w fun e w'=>e=.returned (.int .i64 (eB g id f).1)∧rM w B (GO B a ah (aO sv l)) (eB g id f).2 w':=by
 have n:=ki h;have s:=ki hw;have hn:=h.2.1.2.2.1;have D:=h.2.1.2.2.2;have E:w.cell? ⟨B,22,none⟩=some (.slice a g.bk.length cap):=(h.1.cellAt 22).trans rfl;clear h hw;have C:(g.bk.length:Int)<=1000:=by omega
 go_enter func12,ntmps12;go_wp2;go_loop [9] (fun t=>∃k:Nat,k<=g.bk.length∧t=.int .i64 k∧Hid (∀j,j<k->decide (el (g.bk.getD j []) 0=id)=false)) (fun t=>g.bk.length-(intOf t).toNat)
 case atStart=>exact⟨0,by omega,rfl,fun j h=>absurd h (by omega)⟩
 case round =>
  obtain⟨k,hk,rfl,HI⟩:=hrel;by_cases hlt:k<g.bk.length
  ·obtain⟨K,F,t,rfl,hp,b⟩:=n.o.2.1.1 (by omega);have G:(k:Int)<(g.bk.length:Int):=by omega
   have c1:w.cell? ⟨K,k*6,none⟩=some (.int .i64 (el (g.bk.getD k []) 0)):=by rw[cell_of_row w K _ _ _ _ hp,show k*6=6*k+0 by omega,b k hlt 0 (by omega)];rfl
   clear hp b;obtain⟨x,hx⟩:∃x,el (g.bk.getD k []) 0=x:=⟨_,rfl⟩;rw[hx] at c1;have r:=ki hx;clear hx;cases hq:x != id
   ·have o:=ki (Jh hlt HI.o (decide_eq_true (by rw[r.o];simpa using hq)));rcases s.o with⟨rfl,rfl⟩|⟨rfl,rfl⟩
    ·obtain⟨⟨v,y⟩,z,d,i⟩:=n.o.mark hlt (by omega:4<6) u (ji (g.bk.getD k []) u) (by omega) (Jp (g.bk.getD k []) u);have p:=ki d;have q:=ki i;clear d i;go_wp2;go_ret;unfold eB;rw[o.o];exact⟨rfl,_,cap,tb,sv,l,ah,p.o,q.o,fun _ hk=>.inl hk⟩
    ·obtain⟨⟨v,y⟩,z,d,i⟩:=n.o.mark hlt (by omega:5<6) u (jk (g.bk.getD k []) u) (by omega) (Jq (g.bk.getD k []) u);have p:=ki d;have q:=ki i;clear d i;go_wp2;go_ret;unfold eB;rw[o.o];exact⟨rfl,_,cap,tb,sv,l,ah,p.o,q.o,fun _ hk=>.inl hk⟩
   ·have A:=ki (show decide (el (g.bk.getD k []) 0=id)=false by rw[r.o];simpa using hq);go_wp2;go_round
    case rel=>exact⟨k+1,by omega,by go_num,fun j hj=>if e:j=k then by rw[e];exact A.o else HI.o j (by omega)⟩
    case measure=>simp[intOf];omega
  ·obtain rfl:g.bk.length=k:=by omega
   have o:=ki (Ji HI.o);go_wp2;go_ret;unfold eB;rw[o.o];exact⟨rfl,n.o.still (Below.refl _ _)⟩
end
section
variable {g:GS}{l:List (Int×Nat)}{B cap tb:Nat}{ah:Nat->Prop}{w:World}
theorem Xa:(prog.info? 103).map (fun i=>(i.zero,i.size,i.bytes))=some (some (.agg #[.int .i64 0,.pointer none]),2,16):=by kernel_rfl
theorem rP{cs:Array Value}(h:∀u∈cs,∀x,u≠.int .u8 x):vF cs:=fun j x e=>h _ (Array.mem_of_getElem? e) x rfl
theorem J7(n:Nat):∀u∈Builtin.zeroCells #[Value.int .i64 0,.pointer none] n,∀x,u≠.int .u8 x:=by intro u b x e;unfold Builtin.zeroCells at b;obtain⟨i,_,a⟩:=Array.mem_map.1 b;have:i%(#[Value.int .i64 0,.pointer none]:Array Value).size=0∨i%(#[Value.int .i64 0,.pointer none]:Array Value).size=1:=Nat.mod_two_eq_zero_or_one i;rw[e] at a;rcases this with h|h<;>rw[h] at a<;>cases a
theorem y9(l:List (Int×Nat)):∀u∈sx l,∀x,u≠.int .u8 x:=by intro u a x e;unfold sx at a;obtain⟨y,_,h⟩:=List.mem_flatMap.1 a;rw[e] at h;simp at h
theorem J8(l:List (Int×Nat)):∀u∈sx l,u.oneCell'=true:=by intro u a;unfold sx at a;obtain⟨y,_,h⟩:=List.mem_flatMap.1 a;simp at h;rcases h with rfl|rfl<;>rfl
theorem Df(w:World)(ty:TypeId)(v:Value)(l:List (Int×Nat))(hown:gD w v l)(ad:Addr)(c:Nat)(x:Int×Nat)(hc:∀j u,(sx [x])[j]? = some u->w.cell? (ad.add j)=some u)(hlen:l.length<=1000): ∃g cap w',(Builtin.append_ #[52,52] ty #[v,.slice (some ad) 1 c]).run prog w=.ok (.slice (some ⟨g,0,none⟩) (l.length+1) cap) w'∧gD w' (.slice (some ⟨g,0,none⟩) (l.length+1) cap) (l++[x])∧w.grownBy w' v.ownBlock∧(v.ownBlock=some g∨g=w.heap.size):=by
 obtain⟨o,p,i,d,n⟩:=info_parts Xa;obtain⟨g,cap,w',q,s,t,h4,A⟩:=run_append_lies w 52 ty 0 103 o _ 2 16 underlying52 p i d n rfl (by decide) v l.length (sx l) hown.1 ad 1 c (sx [x]) rfl hc (J8 _) (by decide) (by unfold maxLen;omega) (by omega) (Nat.zero_le _) _ rfl;refine⟨g,cap,w',q,⟨?_,?_⟩,t,h4⟩
 ·rw[WW,List.length_append];exact s
 ·rcases hown.1.2 with⟨rfl,hn⟩|⟨b,cp,cur,rfl,_,hb,hnc,hcm,hcs,htake⟩
  ·have f:=run_append_nil (P:=prog) w 52 ty 103 o _ underlying52 p i ad 1 c (sx [x]) (by rw[d];rfl) hc (by decide) (by decide) (by rw[n];decide);have e:=q.symm.trans f;injection e with e1 e2
   injection e1 with e1
   injection e1 with e1
   injection e1 with e1
   subst e2;intro k a;injection a with a
   have h:k=w.heap.size:=a.symm.trans e1;rw[h];refine fun j y=>jO (heap_alloc_new w.drew _) (rP fun u hu=>?_) j y
   rcases Array.mem_append.1 hu with hu|hu
   ·exact y9 _ u (by simpa using hu)
   ·exact J7 _ u hu
  ·by_cases hroom:l.length+1<=cp
   ·have f:=run_append_room (P:=prog) w 52 ty 103 o underlying52 p b l.length cp cur hb ad 1 c (sx [x]) (by rw[d];rfl) hc (J8 _) hroom (by rw[d,hcs];show l.length*2+2<=_;omega);have e:=q.symm.trans f;injection e with e1 e2
    injection e1 with e1
    injection e1 with e1
    injection e1 with e1
    subst e2;intro k a;injection a with a
    have h:k=b:=a.symm.trans e1;rw[h];refine fun j y=>jO (setRow_heap w b cur _ _ _ hb) (rP fun u hu=>?_) j y
    have r:u∈cur.toList->∀x,u≠.int .u8 x:=fun hu x e=>by obtain⟨j,z⟩:=Array.getElem?_of_mem (Array.mem_toList_iff.1 hu);exact hown.2 b rfl j x (by rw[cell_of_row w b j _ _ _ hb,z,e])
    rcases List.mem_append.1 (List.mem_toArray.1 hu) with hu|hu
    ·rcases List.mem_append.1 hu with hu|hu
     ·exact r (List.mem_of_mem_take hu)
     ·exact y9 _ u hu
    ·exact r (List.mem_of_mem_drop hu)
   ·have f:=run_append_grow (P:=prog) w 52 ty 103 o _ underlying52 p i ⟨b,0,none⟩ l.length cp (sx l) (by rw[d];exact hown.1.1) (hown.1.cells (g:=b) rfl) ad 1 c (sx [x]) (by rw[d];rfl) hc (by omega) (by omega) (growslice_fits (by omega) (by rw[n];omega));have e:=q.symm.trans f;injection e with e1 e2
    injection e1 with e1
    injection e1 with e1
    injection e1 with e1
    subst e2;intro k a;injection a with a
    have h:k=w.heap.size:=a.symm.trans e1;rw[h];refine fun j y=>jO (heap_alloc_new w.drew _) (rP fun u hu=>?_) j y
    rcases Array.mem_append.1 hu with hu|hu
    ·rcases Array.mem_append.1 hu with hu|hu
     ·exact y9 _ u (by simpa using hu)
     ·exact y9 _ u (by simpa using hu)
    ·exact J7 _ u hu
theorem Xb{ops:Array Oper}{rest:List Oper}{o:Oper}{a:Act}{Q:Exit->Act->World->Prop}(hgd:o.guard=none)(s y:Operand)(ho:o.op=.call { callee:=.builtin .append,args:=#[s,y],argTypes:=#[52,52] })(v:Value)(l:List (Int×Nat))(hs:a.eval s=v)(hown:gD w v l)(ad:Addr)(c:Nat)(x:Int×Nat)(hx:a.eval y=.slice (some ad) 1 c)(hc:∀j u,(sx [x])[j]? = some u->w.cell? (ad.add j)=some u)(hlen:l.length<=1000)(h:∀g cap w',gD w' (.slice (some ⟨g,0,none⟩) (l.length+1) cap) (l++[x])->w.grownBy w' v.ownBlock->(v.ownBlock=some g∨g=w.heap.size)->wpList prog ops Q rest (a.put o.dst (.slice (some ⟨g,0,none⟩) (l.length+1) cap)) w'):wpList prog ops Q (o::rest) a w:=by
 obtain⟨g,cap,w',b,d,e,h4⟩:=Df w o.type v l hown ad c x hc hlen;refine wpList_plain hgd fun _ hK=>?_
 unfold Oper.wp execOp;simp only[ho,resolve,invoke,builtin,Sem.run_bind,Sem.run_pure,Result.andThen_ok,List.map_toArray,List.map_cons,List.map_nil,hs,hx,b];exact hK _ _ (h g cap w' d e h4)
theorem J9(c:List Int)(inj:Bool)(a:Option Addr)(n cap:Nat)(tb:Nat)(s:Option Addr)(m k:Nat)(now:Int):vF (rJ c inj a n cap tb (.slice s m k) now):=rP fun u hu x e=>by unfold rJ at hu;rw[e] at hu;simp at hu
theorem bA.Ka{a:Option Addr}{sv:Value}(h:bA B a cap tb sv l ah g w)(j:Nat)(x:Int):w.cell? ⟨B,j,none⟩≠some (.int .u8 x):=by obtain⟨d,f,e,_⟩:=h.2.2.2.1.1.shape;have b:=h.1;unfold fQ at b;rw[e] at b;exact jO b (J9 _ _ _ _ _ _ _ _ _ _) j x
theorem bA.tick{a:Option Addr}{sv:Value}(h:bA B a cap tb sv l ah g w)(n:Int): bA B a cap tb sv l ah (g.qc n) (w.setCell ⟨B,25,none⟩ (.int .i64 n))∧aL (GO B a ah (aO sv l)) w (w.setCell ⟨B,25,none⟩ (.int .i64 n)):=by
 obtain⟨d,i,o⟩:=h.2.2.2.2;have nb:=h.Ka;obtain⟨p,b⟩:fQ B g.c g.inj a g.bk.length cap tb sv n (w.setCell ⟨B,25,none⟩ (.int .i64 n))∧Only B w (w.setCell ⟨B,25,none⟩ (.int .i64 n)):=by have q:=h.1;unfold fQ at q;rw[setCell_eq_setRow w B 25 _ _ (0,0) _ q];exact⟨setRow_heap w B _ _ _ (0,0) q,dS _ _ _⟩
 generalize w.setCell ⟨B,25,none⟩ (.int .i64 n)=w' at p b⊢;have hs:∀k,k≠B->w'.heap[k]? = w.heap[k]?:=b.2.2.2.2;have f:∀a n c zs,aj w a n c zs->aj w' a n c zs:=fun _ _ _ _ r=>r.jh nb b
 exact⟨⟨p,⟨h.2.1.1.same (fun k hk=>hs k (fun e=>d.1 (by rw[<-e];exact hk))),fun k hk=>by rw[b.2.2.2.1];exact h.2.1.2.1 k hk,h.2.1.2.2⟩,h.2.2.1.same (fun k hk=>hs k (fun e=>d.2.1 (by rw[<-e];exact hk))),h.2.2.2.1.same (fun k hk=>hs k (fun e=>d.2.2 (by rw[<-e];exact hk))) f,h.2.2.2.2⟩,⟨b.1,b.2.1,b.2.2.1,by rw[b.2.2.2.1];exact Nat.le_refl _,fun k _ hn=>hs k (fun e=>hn (.inl e))⟩,f⟩
theorem bA.strs{a:Option Addr}{sv:Value}(h:bA B a cap tb sv l ah g w){gB:Value}{l':List (Int×Nat)}{ss':List (Int×List Int×Int×Bool×Bool)}(hS:lN gB l' ss' w)(hd:∀k,aO gB l' k->k≠B∧¬kH a k∧¬ah k): bA B a cap tb gB l' ah (g.str ss') (w.setCell ⟨B,24,none⟩ gB)∧aL (GO B a ah (aO sv l)) w (w.setCell ⟨B,24,none⟩ gB):=by
 obtain⟨d,i,o⟩:=h.2.2.2.2;have nb:=h.Ka;obtain⟨p,b⟩:fQ B g.c g.inj a g.bk.length cap tb gB g.now (w.setCell ⟨B,24,none⟩ gB)∧Only B w (w.setCell ⟨B,24,none⟩ gB):=by have q:=h.1;unfold fQ at q;rw[setCell_eq_setRow w B 24 _ _ (0,0) _ q];exact⟨setRow_heap w B _ _ _ (0,0) q,dS _ _ _⟩
 generalize w.setCell ⟨B,24,none⟩ gB=w' at p b⊢;have hs:∀k,k≠B->w'.heap[k]? = w.heap[k]?:=b.2.2.2.2;have f:∀a n c zs,aj w a n c zs->aj w' a n c zs:=fun _ _ _ _ r=>r.jh nb b
 exact⟨⟨p,⟨h.2.1.1.same (fun k hk=>hs k (fun e=>d.1 (by rw[<-e];exact hk))),fun k hk=>by rw[b.2.2.2.1];exact h.2.1.2.1 k hk,h.2.1.2.2⟩,h.2.2.1.same (fun k hk=>hs k (fun e=>d.2.1 (by rw[<-e];exact hk))),hS.same (fun k hk=>hs k (hd k hk).1) f,⟨d.1,d.2.1,fun hk=>(hd B hk).1 rfl⟩,fun k hk=>⟨(i k hk).1,fun hk'=>(hd k hk').2.1 hk⟩,fun k hk hk'=>(hd k hk').2.2 hk⟩,⟨b.1,b.2.1,b.2.2.1,by rw[b.2.2.2.1];exact Nat.le_refl _,fun k _ hn=>hs k (fun e=>hn (.inl e))⟩,f⟩
end
end Go.Proofs.YtgcojnlngchllaaGreatDoor
