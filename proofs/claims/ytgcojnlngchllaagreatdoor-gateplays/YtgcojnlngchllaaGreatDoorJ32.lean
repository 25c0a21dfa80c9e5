import Derived.Test.YtgcojnlngchllaaGreatDoorJ28
import Derived.Test.YtgcojnlngchllaaGreatDoorJ27
import Derived.Deep.Fields
namespace Go.Proofs.YtgcojnlngchllaaGreatDoor
open Go.RowKit Tryz
set_option linter.unusedVariables false
set_option maxRecDepth 100000
set_option maxHeartbeats 40000000
section
variable {zs:List Int}{cap:Nat}{a:Option Addr}{w:World}
def kS(k:IntKind)(w:World)(a:Option Addr)(len cap:Nat)(zs:List Int):Prop :=
 (a=none∧len=0∧cap=0∧zs=[]) ∨
 ∃x,a=some x∧len<=cap∧cap<=maxLen∧zs.length=cap∧(∀i,i<zs.length->w.cell? (x.add i)=some (.int k (zs.getD i 0)))∧∀n∈zs,(Lit.int k n).wf=true
theorem kS.TI{k:IntKind}{len:Nat}(h:kS k w a len cap zs):len<=cap∧zs.length=cap:=by
 rcases h with⟨_,rfl,rfl,rfl⟩|⟨_,_,h1,_,h2,_,_⟩
 ·simp
 ·exact⟨h1,h2⟩
theorem kS.TJ{len:Nat}(h:kS .u8 w a len cap zs):SM.Oct zs:=by
 rcases h with⟨_,_,_,rfl⟩|⟨_,_,_,_,_,_,h⟩
 ·intro k;simp
 ·intro k;have:=Go.range_u8 h k;rw[List.getD_eq_getElem?_getD];exact this
theorem kS.opened{k:IntKind}{len:Nat}(h:kS k w a len cap zs)(hp:0<len): ∃b off,a=some ⟨b,off,none⟩∧len<=cap∧cap<=maxLen∧zs.length=cap∧∀i,i<cap->w.cell? ⟨b,off+i,none⟩=some (.int k (zs.getD i 0)):=by
 rcases h with⟨_,rfl,_,_⟩|⟨x,rfl,h1,h2,h3,hc,_⟩
 ·exact absurd hp (by omega)
 ·obtain⟨b,off,e⟩:=x;have f:=hc 0 (by omega);have d:e=none:=by simpa [Addr.add] using World.cell?_spot f
  subst d;exact⟨b,off,rfl,h1,h2,h3,fun i hi=>by by_cases h0:i=0<;>simpa [Addr.add,h0] using hc i (by omega)⟩
theorem kS.below{k:IntKind}{w':World}{len:Nat}(h:kS k w a len cap zs)(hb:Below w.heap.size w w'):kS k w' a len cap zs:=by
 rcases h with h|⟨x,h0,h1,h2,h3,hc,h4⟩
 ·exact .inl h
 ·refine .inr ⟨x,h0,h1,h2,h3,fun i hi=>?_,h4⟩;have b:=hc i hi;have d:(x.add i).block<w.heap.size:=by
   rcases Nat.lt_or_ge (x.add i).block w.heap.size with h|h
   ·exact h
   ·simp[World.cell?,Array.getElem?_eq_none h] at b
  rw[hb.cell d];exact b
theorem kS.dw{len:Nat}(h:kS .u8 w a len cap zs):aj w a len cap (zs.take len):=by
 have hl:=h.TI;have g:=h.TJ;refine⟨by simp;omega,?_,SM.DL _ g _,?_,fun hp=>?_⟩
 ·rcases h with⟨_,rfl,_,_⟩|⟨_,_,d,e,_⟩
  ·exact Nat.zero_le _
  ·omega
 ·rintro rfl;rcases h with⟨_,d,e,_⟩|⟨_,d,_⟩
  ·exact⟨d,e⟩
  ·cases d
 ·obtain⟨b,f,k,d,e,l,h4⟩:=h.opened hp;refine⟨b,f,k,fun i hi=>?_⟩;rw[h4 i (by omega)];simp[hi]
end
section
open Go.ChangeShapes Go.WideShapes Go.Deep Go.RowKit
theorem Iz{H:Type}{enc:TypeId×Value->H}{P:Program}{w:World}{base:Nat}{spare:Nat->Bool}{held:Bool}{t e:TypeId}{n:Nat}{c:Value}{y:DataW H×List MemPlace}(ht:P.underlying t=some (.slice e))(he:P.underlying e=some (.int .u8))(hc:P.cellsOf e=1)(hsp:∀b,spare b=true)(h:DataW.trod enc P w base spare held n t [c]=some y):∃a len cap zs,c=.slice a len cap∧kS .u8 w a len cap zs:=by
 rcases open_ints ht he hc h with⟨hcs,_⟩|⟨x,l,cp,zs,hcs,_,hl,hm,hz,_,hcell,hwz⟩
 ·simp at hcs;subst hcs;exact⟨none,0,0,[],rfl,.inl ⟨rfl,rfl,rfl,rfl⟩⟩
 ·simp at hcs;subst hcs;rw[hsp,if_pos rfl] at hz;exact⟨some x,l,cp,zs,rfl,.inr ⟨x,rfl,hl,hm,hz,hcell,hwz⟩⟩
end
section
open Go.ChangeShapes Go.WideShapes Go.Deep Go.RowKit
variable {o:Nat}
theorem Dx{w w':World}{g:Nat}{vs:List Value}(h:w.rangeAt g o vs)(hb:Below w.heap.size w w'):w'.rangeAt g o vs:=fun j v hv=>by have hc:=h j v hv;rw[hb.cell (p:=⟨g,o+j,none⟩) (uI hc)];exact hc
theorem TK:(prog.underlying 39).map (fun d=>match d with | .struct fs=>fs.toList.map (fun f=>(f.offset,f.type))|_=>[])=some [(0,3),(1,3),(2,3),(3,3),(4,3),(5,3),(6,3),(7,37)]:=by kernel_rfl
theorem TL{α:Type}{x:Option α}{l:List α}{i:Nat}(h:x=l[i]?)(hi:i<l.length):∃y,x=some y:=⟨l[i],h.trans (List.getElem?_eq_getElem hi)⟩
theorem jL{H:Type}{enc:TypeId×Value->H}{W:World}{base:Nat}{spare:Nat->Bool}{held:Bool}{fs:Array Field}{n k:Nat}{cs:List Value}{xs:List (DataW H×List MemPlace)}{L:List (Nat×TypeId)}(hL:fs.toList.map (fun f=>(f.offset,f.type))=L)(hx:xs.length=fs.size)(hall:∀(i:Nat)(f:Field),fs[i]? = some f->DataW.trod enc prog W base spare held n f.type ((cs.drop f.offset).take (prog.cellsOf f.type))=xs[i]?)(o:Nat)(t:TypeId)(hk:L[k]? = some (o,t)): ∃y,DataW.trod enc prog W base spare held n t ((cs.drop o).take (prog.cellsOf t))=some y:=by
 rw[<-hL,List.getElem?_map] at hk;obtain⟨f,d,e⟩:=Option.map_eq_some_iff.1 hk;have b:fs[k]? = some f:=by simpa using d
 have h:k<fs.size:=(Array.getElem?_eq_some_iff.1 b).1;obtain⟨y,g⟩:=TL (hall k f b) (by omega);injection e with e1 e2
 subst e1;subst e2;exact⟨y,g⟩
theorem kT{cs:List Value}{v:Value}(h:(cs.drop o).take 1=[v]):cs[o]? = some v:=by
 have a:((cs.drop o).take 1)[0]? = some v:=by rw[h];rfl
 rw[List.getElem?_take_of_lt (by omega),List.getElem?_drop,Nat.add_zero] at a;exact a
theorem IB{cs:List Value}(h:o<cs.length):∃v,(cs.drop o).take 1=[v]:=by refine⟨cs[o],?_⟩;rw[List.drop_eq_getElem_cons h];rfl
theorem TM{H:Type}{enc:TypeId×Value->H}{W:World}{base:Nat}{held:Bool}{n:Nat}{cs:List Value}{y:DataW H×List MemPlace}(h:DataW.trod enc prog W base (fun _=>true) held n 39 cs=some y):∃z x l c zs,cs=(aA z x l c).toList∧aj W x l c zs:=by
 have p:=underlying39;obtain⟨P,m,_,_,hl,e,b⟩:=DataW.trod_struct p h;have d:=TK;rw[p] at d;replace d:=Option.some.inj d;have c1:prog.cellsOf 3 = 1:=by kernel_rfl
 have A:prog.cellsOf 37 = 1:=by kernel_rfl
 have c8:prog.cellsOf 39 = 8:=by kernel_rfl
 rw[c8] at hl;obtain⟨Q,g0⟩:=jL (k:=0) d e b _ _ rfl;obtain⟨R,q⟩:=jL (k:=1) d e b _ _ rfl;obtain⟨S,r⟩:=jL (k:=2) d e b _ _ rfl;obtain⟨T,s⟩:=jL (k:=3) d e b _ _ rfl;obtain⟨U,g4⟩:=jL (k:=4) d e b _ _ rfl;obtain⟨V,t⟩:=jL (k:=5) d e b _ _ rfl;obtain⟨X,g6⟩:=jL (k:=6) d e b _ _ rfl;obtain⟨Y,f⟩:=jL (k:=7) d e b _ _ rfl;rw[c1] at g0 q r s g4 t g6;rw[A] at f;obtain⟨B,C,_,_⟩:=DataW.trod_int underlying3 g0;obtain⟨D,E,_,_⟩:=DataW.trod_int underlying3 q;obtain⟨F,G,_,_⟩:=DataW.trod_int underlying3 r;obtain⟨I,J,_,_⟩:=DataW.trod_int underlying3 s;obtain⟨K,e4,_,_⟩:=DataW.trod_int underlying3 g4;obtain⟨L,M,_,_⟩:=DataW.trod_int underlying3 t;obtain⟨N,O,_,_⟩:=DataW.trod_int underlying3 g6;obtain⟨Z,v⟩:=IB (cs:=cs) (o:=7) (by omega);rw[v] at f;obtain⟨a,len,w,zs,rfl,g⟩:=Iz underlying37 underlying5 (by kernel_rfl) (fun _=>rfl) f;refine⟨[B,D,F,I,K,L,N],a,len,w,zs.take len,List.ext_getElem? fun i=>?_,g.dw⟩;by_cases hi:i<8
 ·rcases (by omega:i=0∨i=1∨i=2∨i=3∨i=4∨i=5∨i=6∨i=7) with rfl|rfl|rfl|rfl|rfl|rfl|rfl|rfl
  ·exact kT C
  ·exact kT E
  ·exact kT G
  ·exact kT J
  ·exact kT e4
  ·exact kT M
  ·exact kT O
  ·exact kT v
 ·rw[List.getElem?_eq_none (by omega),List.getElem?_eq_none (by show 8<=i;omega)]
end
section
open Go.ChangeShapes Go.WideShapes Go.Deep Go.RowKit
variable {spare:Nat->Bool}{W:World}
theorem TN{α:Type}{x:Option α}{l:List α}{i:Nat}(h:x=l[i]?)(hi:i<l.length):∃y,x=some y:=⟨l[i],h.trans (List.getElem?_eq_getElem hi)⟩
theorem TP:(prog.underlying 77).map (fun d=>match d with | .struct fs=>fs.toList.map (fun f=>(f.offset,f.type))|_=>[])=some [(0,3),(1,3),(2,3),(3,3),(4,4),(5,4)]:=by kernel_rfl
theorem p9{H:Type}{enc:TypeId×Value->H}{base:Nat}{held:Bool}{fs:Array Field}{n k:Nat}{cs:List Value}{xs:List (DataW H×List MemPlace)}{L:List (Nat×TypeId)}(hL:fs.toList.map (fun f=>(f.offset,f.type))=L)(hx:xs.length=fs.size)(hall:∀(i:Nat)(f:Field),fs[i]? = some f->DataW.trod enc prog W base spare held n f.type ((cs.drop f.offset).take (prog.cellsOf f.type))=xs[i]?)(o:Nat)(t:TypeId)(hk:L[k]? = some (o,t)): ∃y,DataW.trod enc prog W base spare held n t ((cs.drop o).take (prog.cellsOf t))=some y:=by
 rw[<-hL,List.getElem?_map] at hk;obtain⟨f,d,e⟩:=Option.map_eq_some_iff.1 hk;have b:fs[k]? = some f:=by simpa using d
 have h:k<fs.size:=(Array.getElem?_eq_some_iff.1 b).1;obtain⟨y,g⟩:=TN (hall k f b) (by omega);injection e with e1 e2
 subst e1;subst e2;exact⟨y,g⟩
theorem rC{cs:List Value}{o:Nat}{v:Value}(h:(cs.drop o).take 1=[v]):cs[o]? = some v:=by
 have a:((cs.drop o).take 1)[0]? = some v:=by rw[h];rfl
 rw[List.getElem?_take_of_lt (by omega),List.getElem?_drop,Nat.add_zero] at a;exact a
theorem TQ{H:Type}{enc:TypeId×Value->H}{base:Nat}{held:Bool}{n:Nat}{cs:List Value}{y:DataW H×List MemPlace}(h:DataW.trod enc prog W base spare held n 77 cs=some y):∃b:List Int,cs=(bG b).toList:=by
 have f:=underlying77;obtain⟨E,m,_,_,hl,e,a⟩:=DataW.trod_struct f h;have d:=TP;rw[f] at d;replace d:=Option.some.inj d;have c1:prog.cellsOf 3 = 1:=by kernel_rfl
 have s:prog.cellsOf 4 = 1:=by kernel_rfl
 have c6:prog.cellsOf 77 = 6:=by kernel_rfl
 rw[c6] at hl;obtain⟨F,g0⟩:=p9 (k:=0) d e a _ _ rfl;obtain⟨G,g⟩:=p9 (k:=1) d e a _ _ rfl;obtain⟨I,l⟩:=p9 (k:=2) d e a _ _ rfl;obtain⟨J,o⟩:=p9 (k:=3) d e a _ _ rfl;obtain⟨K,g4⟩:=p9 (k:=4) d e a _ _ rfl;obtain⟨L,p⟩:=p9 (k:=5) d e a _ _ rfl;rw[c1] at g0 g l o;rw[s] at g4 p;obtain⟨t,v,_,_⟩:=DataW.trod_int underlying3 g0;obtain⟨w,x,_,_⟩:=DataW.trod_int underlying3 g;obtain⟨z,A,_,_⟩:=DataW.trod_int underlying3 l;obtain⟨B,C,_,_⟩:=DataW.trod_int underlying3 o;obtain⟨q,e4,_⟩:=DataW.trod_bool underlying4 g4;obtain⟨r,D,_⟩:=DataW.trod_bool underlying4 p;refine⟨[t,w,z,B,if q=true then 1 else 0,if r=true then 1 else 0],List.ext_getElem? fun i=>?_⟩;by_cases hi:i<6
 ·rcases (by omega:i=0∨i=1∨i=2∨i=3∨i=4∨i=5) with rfl|rfl|rfl|rfl|rfl|rfl
  ·exact rC v
  ·exact rC x
  ·exact rC A
  ·exact rC C
  ·rw[rC e4];cases q<;>rfl
  ·rw[rC D];cases r<;>rfl
 ·rw[List.getElem?_eq_none (by omega),List.getElem?_eq_none (by show 6<=i;omega)]
theorem TR{H:Type}{enc:TypeId×Value->H}{base:Nat}{held:Bool}{b0:Nat}{v:Value}{x:DataW H}{p:List MemPlace}(h:Value.okWide prog W .any b0 24 v)(ht:DataW.Trod enc prog W base spare held 24 v x p): ∃a bs cap,v=.slice a (List.length bs) cap∧bs.length<=cap∧cap<=maxLen∧fM a bs W:=by
 obtain⟨a,len,cap,rfl⟩:=okWide_slice underlying24 h;obtain⟨o,q⟩:=ht;rcases open_slice underlying24 q with⟨hcs,_⟩|⟨a',len',cap',m,n,D,Pl,hcs,hb,hl,hm,hmm,_,hx⟩
 ·simp[Value.cells] at hcs;obtain⟨rfl,rfl,rfl⟩:=hcs;exact⟨none,[],0,rfl,Nat.zero_le _,Nat.zero_le _,fun h=>absurd h (by simp)⟩
 ·simp[Value.cells] at hcs;obtain⟨rfl,rfl,rfl⟩:=hcs;have c6:prog.cellsOf 77 = 6:=by kernel_rfl
  rw[c6] at hx;have z:len<=m:=by rw[hmm];split<;>omega
  have hc:∀i,∃s:List Int,i<len->W.cells? base (a'.add (i*6)) 6=some (bG s).toList:=fun i=>by
   by_cases hi:i<len
   ·obtain⟨A,r,t⟩:=hx i (by omega);obtain⟨s,rfl⟩:=TQ t;exact⟨s,fun _=>r⟩
   ·exact⟨[],fun h=>absurd h hi⟩
  obtain⟨f,hs⟩:=Classical.axiomOfChoice hc;have d:((List.range len).map f).length=len:=by simp
  refine⟨some a',(List.range len).map f,cap,by rw[d],by rw[d];exact hl,hm,fun hp=>?_⟩;rw[d] at hp;obtain⟨b,g,k⟩:=a';have g0:W.cell? ((⟨b,g,k⟩:Addr).add (0*6+0))=some (.int .i64 (el (f 0) 0)):=by obtain⟨_,_,e⟩:=World.cells?_some (hs 0 hp);have:=e 0 (by omega);rw[add_add] at this;rw[this];rfl
  have l:k=none:=by simpa [Addr.add] using World.cell?_spot g0
  subst l;refine⟨b,g,rfl,World.block_lt_of_cell? W _ (by simpa [Addr.add] using g0),fun i hi j v hv=>?_⟩;rw[d] at hi;have w:((List.range len).map f).getD i []=f i:=by simp[List.getD_eq_getElem?_getD,hi]
  rw[w] at hv;obtain⟨_,_,e⟩:=World.cells?_some (hs i hi);have y:j<6:=(List.getElem?_eq_some_iff.1 hv).1;have:=e j y;rw[add_add,jQ,hv] at this;rw[show g+i*6+j=g+(i*6+j) by omega];exact this
end
end Go.Proofs.YtgcojnlngchllaaGreatDoor
