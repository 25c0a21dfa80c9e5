import Derived.Test.YtgcojnlngchllaaGreatDoorJ18
namespace Go.Proofs.YtgcojnlngchllaaGreatDoor
open Go.RowKit Tryz
set_option linter.unusedVariables false
section
variable {f:List Int}
theorem dJ.start(m:Nat):dJ m (fun _=>[]) (fun _=>false) []:=⟨fun b h=>absurd h (by simp),List.Pairwise.nil,List.Pairwise.nil,fun i _ h=>by cases h⟩
theorem take_succ(bs:List (List Int))(k:Nat)(hk:k<bs.length):bs.take (k+1)=bs.take k++[bs.getD k []]:=by rw[List.take_add_one,List.getElem?_eq_getElem hk,List.getD_eq_getElem?_getD,List.getElem?_eq_getElem hk];rfl
theorem Qa(x:List Int)(bs:List (List Int))(k:Nat)(hk:k<=bs.length): (st x bs k=(bs.take k,false)∧∀j,j<k->¬el x 19<el (bs.getD j []) 19) ∨ ∃p,p<k∧st x bs k=(bs.take p++[x]++(bs.take k).drop p,true)∧el x 19<el (bs.getD p []) 19∧∀j,j<p->¬el x 19<el (bs.getD j []) 19:=by
 induction k with
 | zero=>exact .inl ⟨rfl,fun j h=>absurd h (by omega)⟩
 | succ k ih =>
  have a:st x bs (k+1)=if (!(st x bs k).2 && decide (el x 19<el (bs.getD k []) 19))=true then ((st x bs k).1++[x]++[bs.getD k []],true) else ((st x bs k).1++[bs.getD k []],(st x bs k).2):=rfl
  rcases ih (by omega) with⟨h1,h2⟩|⟨p,hp,h1,h2,h3⟩
  ·rw[h1] at a;by_cases hx:el x 19<el (bs.getD k []) 19
   ·refine .inr ⟨k,by omega,?_,hx,h2⟩;rw[a,if_pos (by rw[decide_eq_true hx];rfl),take_succ bs k (by omega)];rw[List.drop_append_of_le_length (by rw[List.length_take];omega),List.drop_of_length_le (by rw[List.length_take];omega)];rfl
   ·refine .inl ⟨?_,fun j hj=>if e:j=k then by rw[e];exact hx else h2 j (by omega)⟩;rw[a,if_neg (by rw[decide_eq_false hx];simp),take_succ bs k (by omega)]
  ·rw[h1] at a;refine .inr ⟨p,by omega,?_,h2,h3⟩;rw[a,if_neg (by simp),take_succ bs k (by omega),List.drop_append_of_le_length (by rw[List.length_take];omega)];simp
theorem uX(x:List Int)(bs:List (List Int)):∃p,p<=bs.length∧ins x bs=bs.take p++([x]++bs.drop p)∧(∀j,j<p->¬el x 19<el (bs.getD j []) 19)∧(p<bs.length->el x 19<el (bs.getD p []) 19):=by
 unfold ins;rcases Qa x bs bs.length (Nat.le_refl _) with⟨h1,h2⟩|⟨p,hp,h1,h2,h3⟩
 ·refine⟨bs.length,Nat.le_refl _,?_,h2,fun h=>absurd h (by omega)⟩;rw[h1];simp
 ·refine⟨p,by omega,?_,h3,fun _=>h2⟩;rw[h1];simp
theorem Gu{bs:List (List Int)}(h:bs.Pairwise (fun a b=>el a 19<el b 19)){a b:List Int}(ha:a∈bs)(hb:b∈bs)(e:el a 19=el b 19):a=b:=by
 obtain⟨i,d,rfl⟩:=List.getElem_of_mem ha;obtain⟨j,f,rfl⟩:=List.getElem_of_mem hb;have hp:=List.pairwise_iff_getElem.1 h;rcases (by omega:i=j∨i<j∨j<i) with rfl|hij|hij
 ·rfl
 ·exact absurd (hp i j d f hij) (by omega)
 ·exact absurd (hp j i f d hij) (by omega)
theorem x9{ws:Nat->List Int}{ts:Nat->Bool}{z:List Int}{n i:Nat}(h:tk ws ts z n=some i):ts i=false:=by
 unfold tk at h;rcases Option.or_eq_some_iff.1 h with h|⟨_,h⟩
 ·have a:=List.find?_some h;unfold f0 at a;simp only[Bool.and_eq_true,Bool.not_eq_true'] at a;exact a.1
 ·have a:=List.find?_some h;unfold f1 at a;simp only[Bool.and_eq_true,Bool.not_eq_true'] at a;exact a.1
theorem Bj{bs:List (List Int)}(h:bY bs f=none){b:List Int}(hb:b∈bs):iV b f=false:=by obtain⟨i,a,rfl⟩:=List.getElem_of_mem hb;unfold bY at h;rw[List.find?_eq_none] at h;have:=h i (List.mem_range.2 a);rw[List.getD_eq_getElem?_getD,List.getElem?_eq_getElem a] at this;simpa using this
theorem qQ(a b:List Int):iV a b=false↔ak a≠ak b:=by rw[<-Bool.not_eq_true,mh]
theorem dJ.made{m:Nat}{ws:Nat->List Int}{ts:Nat->Bool}{bs:List (List Int)}(h:dJ m ws ts bs){back far now:Int}(h1:aW f=true)(h2:(fr back && wd far && tc now)=true)(h3:bY bs f=none){i:Nat}(h4:tk ws ts (cli f) (8*m)=some i):dJ m (upd ws i (cli f)) (upd ts i true) (ins (bL f (1024+(i:Int)) back far now) bs):=by
 obtain⟨x,hx⟩:∃x,bL f (1024+(i:Int)) back far now=x:=⟨_,rfl⟩;have y:el x 19=1024+(i:Int):=by rw[<-hx];rfl
 have z:ak x=ak f:=by rw[<-hx];rfl
 have n:=x9 h4;have A:=Bg h4;simp only[Bool.and_eq_true] at h2;have G:Bh m (upd ws i (cli f)) (upd ts i true) x:=by rw[<-hx];exact⟨h1,⟨i,A,rfl,if_pos rfl,by rw[show upd ws i (cli f) i=cli f from if_pos rfl];rfl⟩,h2.2,h2.1.1,h2.1.2⟩
 rw[hx];obtain⟨B,o,v,b4⟩:=h;obtain⟨p,hp,e,C,D⟩:=uX x bs;have E:∀b∈bs,el b 19≠el x 19:=fun b hb e=>by
  obtain⟨_,⟨j,_,q,r,_⟩,_⟩:=B b hb;have:i=j:=by omega
  rw[this,r] at n;cases n
 have s:∀b∈bs,Bh m (upd ws i (cli f)) (upd ts i true) b:=fun b hb=>by
  obtain⟨H,⟨j,hj,q,r,I⟩,J⟩:=B b hb;have w:j≠i:=fun e=>by rw[e,n] at r;cases r
  exact⟨H,⟨j,hj,q,by unfold upd;rw[if_neg w];exact r,by unfold upd;rw[if_neg w];exact I⟩,J⟩
 have d:bs.take p++bs.drop p=bs:=List.take_append_drop p bs;have g:∀b,b∈bs.take p->b∈bs:=fun b hb=>List.mem_of_mem_take hb
 have k:∀b,b∈bs.drop p->b∈bs:=fun b hb=>List.mem_of_mem_drop hb
 have K:∀b∈bs.take p,el b 19<el x 19:=fun b hb=>by obtain⟨j,hj,rfl⟩:=List.getElem_of_mem hb;rw[List.length_take] at hj;have l:=C j (by omega);rw[List.getD_eq_getElem?_getD,List.getElem?_eq_getElem (by omega)] at l;have L:=E _ (g _ hb);rw[List.getElem_take] at L⊢;simp only[Option.getD_some] at l;omega
 have M:∀b∈bs.drop p,el x 19<el b 19:=fun b hb=>by
  have t:p<bs.length:=by
   rcases Nat.lt_or_ge p bs.length with h|h
   ·exact h
   ·rw[List.drop_of_length_le h] at hb;exact absurd hb (by simp)
  have l:=D t;obtain⟨j,hj,rfl⟩:=List.getElem_of_mem hb;rw[List.length_drop] at hj;rw[List.getElem_drop];rw[List.getD_eq_getElem?_getD,List.getElem?_eq_getElem t] at l;simp only[Option.getD_some] at l;by_cases e0:j=0
  ·subst e0;exact l
  ·have:=List.pairwise_iff_getElem.1 o p (p+j) t (by omega) (by omega);omega
 rw[e];refine⟨fun b hb=>?_,?_,?_,fun j hj ht=>?_⟩
 ·rw[List.mem_append,List.mem_append,List.mem_singleton] at hb;rcases hb with hb|rfl|hb
  ·exact s b (g b hb)
  ·exact G
  ·exact s b (k b hb)
 ·rw[<-d,List.pairwise_append] at o;rw[List.pairwise_append];refine⟨o.1,?_,fun a ha b hb=>?_⟩
  ·rw[List.singleton_append,List.pairwise_cons];exact⟨M,o.2.1⟩
  ·rw[List.mem_append,List.mem_singleton] at hb;rcases hb with rfl|hb
   ·exact K a ha
   ·exact o.2.2 a ha b hb
 ·have F:∀b∈bs,ak b≠ak x:=fun b hb=>by rw[z];exact(qQ b f).1 (Bj h3 hb)
  rw[<-d,List.pairwise_append] at v;rw[List.pairwise_append];refine⟨v.1,?_,fun a ha b hb=>?_⟩
  ·rw[List.singleton_append,List.pairwise_cons];exact⟨fun b hb=>(qQ x b).2 (fun e=>F b (k b hb) e.symm),v.2.1⟩
  ·rw[List.mem_append,List.mem_singleton] at hb;rcases hb with rfl|hb
   ·exact(qQ a b).2 (F a (g a ha))
   ·exact v.2.2 a ha b hb
 ·unfold upd at ht;by_cases q:j=i
  ·exact⟨x,by simp,by rw[q];exact y⟩
  ·rw[if_neg q] at ht;obtain⟨b,hb,eb⟩:=b4 j hj ht;refine⟨b,?_,eb⟩;rw[<-d,List.mem_append] at hb;rw[List.mem_append,List.mem_append];rcases hb with hb|hb
   ·exact .inl hb
   ·exact .inr (.inr hb)
theorem dJ.make{m:Nat}{ws:Nat->List Int}{ts:Nat->Bool}{bs:List (List Int)}(h:dJ m ws ts bs){back far now:Int}{x:List Int}{e:Int}{ws':Nat->List Int}{ts':Nat->Bool}{bs':List (List Int)}(hk:Gj m ws ts bs f back far now x e ws' ts' bs'):dJ m ws' ts' bs'∧bs'.length<=bs.length+1:=by
 rcases hk with⟨_,_,_,rfl,rfl,rfl⟩|⟨_,_,_,_,rfl,rfl,rfl⟩|⟨_,_,_,_,_,rfl,rfl,rfl⟩|⟨_,_,_,_,_,_,rfl,rfl,rfl⟩|⟨k1,k2,k3,i,k4,rfl,_,rfl,rfl,rfl⟩
 ·exact⟨h,by omega⟩
 ·exact⟨h,by omega⟩
 ·exact⟨h,by omega⟩
 ·exact⟨h,by omega⟩
 ·exact⟨h.made k1 k2 k3 k4,PK _ _⟩
theorem Gv{α β:Type}(l:List α)(k:Nat)(x:α)(g:α->β)(hk:k<l.length)(he:g x=g l[k]):(l.set k x).map g=l.map g:=by
 apply List.ext_getElem
 ·simp
 ·intro i a b;simp only[List.getElem_map,List.getElem_set];split
  ·rename_i e;subst e;exact he
  ·rfl
theorem dJ.use{m:Nat}{ws:Nat->List Int}{ts:Nat->Bool}{bs:List (List Int)}(h:dJ m ws ts bs){p now e:Int}{bs':List (List Int)}(hk:Gl bs p now e bs'):dJ m ws ts bs'∧bs'.length=bs.length:=by
 rcases hk with⟨_,_,rfl⟩|⟨_,_,_,_,rfl⟩|⟨_,_,_,_,_,rfl⟩|⟨k,k1,k2,_,_,rfl⟩
 ·exact⟨h,rfl⟩
 ·exact⟨h,rfl⟩
 ·exact⟨h,rfl⟩
 ·have hk:=(uW k1).1;have d:bs.getD k []=bs[k]:=by rw[List.getD_eq_getElem?_getD,List.getElem?_eq_getElem hk];rfl
  obtain⟨g,l,n,b4⟩:=h;have en:(bs.set k (bg (bs.getD k []) now)).map (fun b=>el b 19)=bs.map (fun b=>el b 19):=Gv bs k _ _ hk (by rw[d];rfl);have o:(bs.set k (bg (bs.getD k []) now)).map ak=bs.map ak:=Gv bs k _ _ hk (by rw[d];rfl);refine⟨⟨fun b hb=>?_,?_,?_,fun j hj ht=>?_⟩,by rw[List.length_set]⟩
  ·rcases List.mem_or_eq_of_mem_set hb with hb|rfl
   ·exact g b hb
   ·obtain⟨q,r,v,g4⟩:=g _ (nE hk);exact⟨q,r,k2,g4⟩
  ·have:=(List.pairwise_map (f:=fun b=>el b 19) (R:=(· < ·))).2 l;rw[<-en] at this;exact(List.pairwise_map (f:=fun b=>el b 19) (R:=(· < ·))).1 this
  ·have:=(List.pairwise_map (f:=ak) (R:=(·≠·))).2 (n.imp (fun {a b} h=>(qQ a b).1 h));rw[<-o] at this;exact((List.pairwise_map (f:=ak) (R:=(·≠·))).1 this).imp (fun {a b} h=>(qQ a b).2 h)
  ·obtain⟨b,hb,eb⟩:=b4 j hj ht;have:el b 19∈bs.map (fun b=>el b 19):=List.mem_map.2 ⟨b,hb,rfl⟩;rw[<-en] at this;obtain⟨s,i,t⟩:=List.mem_map.1 this;exact⟨s,i,t.trans eb⟩
theorem qR(now:Int)(bs:List (List Int))(ts:Nat->Bool)(k:Nat)(hk:k<=bs.length):(es now bs ts k).1=(bs.take k).filter (xp now)∧(es now bs ts k).2.1=(bs.take k).filter (fun b=>!xp now b)∧∀j,(es now bs ts k).2.2 j=true↔ts j=true∧∀b∈bs.take k,xp now b=true->(el b 19-1024).toNat≠j:=by
 induction k with
 | zero=>exact⟨rfl,rfl,fun j=>⟨fun h=>⟨h,fun b hb=>absurd hb (by simp)⟩,fun h=>h.1⟩⟩
 | succ k ih =>
  obtain⟨a,d,f⟩:=ih (by omega);simp only[es];rw[take_succ bs k (by omega),List.filter_append,List.filter_append];generalize bs.getD k []=b;cases hx:xp now b
  ·rw[if_neg (by simp)];refine⟨by simp[a,hx],by simp[d,hx],fun j=>?_⟩;rw[f j];refine⟨fun ⟨a1,a2⟩=>⟨a1,fun c hc hcx=>?_⟩,fun ⟨a1,a2⟩=>⟨a1,fun c hc=>a2 c (List.mem_append.2 (.inl hc))⟩⟩;rcases List.mem_append.1 hc with hc|hc
   ·exact a2 c hc hcx
   ·rw[List.mem_singleton] at hc;rw[hc,hx] at hcx;cases hcx
  ·rw[if_pos rfl];refine⟨by simp[a,hx],by simp[d,hx],fun j=>?_⟩;show(if j=(el b 19-1024).toNat then false else (es now bs ts k).2.2 j)=true↔_;by_cases e:j=(el b 19-1024).toNat
   ·rw[if_pos e];refine⟨(fun h=>by cases h),fun ⟨_,a2⟩=>absurd e.symm (a2 b (by simp) hx)⟩
   ·rw[if_neg e,f j];refine⟨fun ⟨a1,a2⟩=>⟨a1,fun c hc hcx=>?_⟩,fun ⟨a1,a2⟩=>⟨a1,fun c hc=>a2 c (List.mem_append.2 (.inl hc))⟩⟩;rcases List.mem_append.1 hc with hc|hc
    ·exact a2 c hc hcx
    ·rw[List.mem_singleton] at hc;rw[hc];exact fun e'=>e e'.symm
theorem dJ.expire{m:Nat}{ws:Nat->List Int}{ts:Nat->Bool}{bs:List (List Int)}(h:dJ m ws ts bs)(now:Int):dJ m ws (es now bs ts bs.length).2.2 (es now bs ts bs.length).2.1∧(es now bs ts bs.length).2.1.length<=bs.length∧(es now bs ts bs.length).1.length<=bs.length:=by
 obtain⟨n,g,d⟩:=qR now bs ts bs.length (Nat.le_refl _);rw[List.take_length] at n g;have hl:=Gh now bs ts bs.length;refine⟨?_,by omega,by omega⟩;obtain⟨k,l,o,b4⟩:=h;generalize hts:(es now bs ts bs.length).2.2=ts' at d;rw[g];have a:∀b∈bs,∃i:Nat,i<8*m∧el b 19=1024+(i:Int):=fun b hb=>by obtain⟨_,⟨i,e,f,_⟩,_⟩:=k b hb;exact⟨i,e,f⟩
 refine⟨fun b hb=>?_,l.filter _,o.filter _,fun j hj ht=>?_⟩
 ·rw[List.mem_filter] at hb;obtain⟨p,⟨i,e,f,q,ci⟩,r⟩:=k b hb.1;refine⟨p,⟨i,e,f,(d i).2 ⟨q,fun c hc hcx e'=>?_⟩,ci⟩,r⟩;rw[List.take_length] at hc;obtain⟨w,_,v⟩:=a c hc;have:c=b:=Gu l hc hb.1 (by omega);rw[this] at hcx;rw[hcx] at hb;simp at hb
 ·obtain⟨s,t⟩:=(d j).1 ht;obtain⟨b,hb,eb⟩:=b4 j hj s;refine⟨b,?_,eb⟩;rw[List.mem_filter];refine⟨hb,?_⟩;cases hx:xp now b
  ·rfl
  ·exact absurd (show(el b 19-1024).toNat=j by omega) (t b (by rw[List.take_length];exact hb) hx)
end
section
theorem RT.other{B P BW BT n:Nat}{ws:Nat->List Int}{ts:Nat->Bool}{v:Value}{bs:List (List Int)}{O Gw:Nat->Prop}{W W':World}(h:RT B P BW BT n ws ts v bs W)(Qb:Gw=fun g=>g=B∨g=P∨g=BW∨g=BT∨v.ownBlock=some g)(hf:Fr O W W')(hO:∀g,O g->¬Gw g):RT B P BW BT n ws ts v bs W':=by
 subst Qb;have hs:∀g,g<W.heap.size->(g=B∨g=P∨g=BW∨g=BT∨v.ownBlock=some g)->W'.heap[g]? = W.heap[g]?:=fun g hg e=>hf.2.2.2.2 g hg (fun Qc=>hO g Qc e)
 exact⟨(hs B h.lt (.inl rfl)).trans h.1,⟨(hs P h.2.1.lt (.inr (.inl rfl))).trans h.2.1.1,h.2.1.2.1.same (hs BW h.2.1.2.1.lt (.inr (.inr (.inl rfl)))),h.2.1.2.2.same (hs BT h.2.1.2.2.lt (.inr (.inr (.inr (.inl rfl)))))⟩,ig h.2.2 (fun g e=>hs g (cO h.2.2 g e).1 (.inr (.inr (.inr (.inr e)))))⟩
end
section
variable {k:Nat}
theorem getD_at{bs:List (List Int)}(hk:k<bs.length):bs.getD k []=bs[k]:=by rw[List.getD_eq_getElem?_getD,List.getElem?_eq_getElem hk];rfl
theorem dJ.Qd{m:Nat}{ws:Nat->List Int}{ts:Nat->Bool}{bs:List (List Int)}(h:dJ m ws ts bs)(hk:k<bs.length):bY bs (bs.getD k [])=some k:=by
 unfold bY;refine og hk ((mh _ _).2 rfl) fun j hj=>?_
 rw[getD_at (by omega),getD_at hk];exact List.pairwise_iff_getElem.1 h.2.2.1 j k (by omega) hk hj
theorem dJ.fd{m:Nat}{ws:Nat->List Int}{ts:Nat->Bool}{bs:List (List Int)}(h:dJ m ws ts bs)(hk:k<bs.length):Fd bs (bs.getD k []) (bs.getD k []) 0:=.inr (.inr ⟨(h.1 _ (nE hk)).1,k,h.Qd hk,rfl,rfl⟩)
theorem dJ.gone{m:Nat}{ws:Nat->List Int}{ts:Nat->Bool}{bs:List (List Int)}(h:dJ m ws ts bs)(now:Int){b:List Int}(hb:b∈(es now bs ts bs.length).1):Fd (es now bs ts bs.length).2.1 b [] 4∧30<=now-el b 22∧tc (el b 22)=true:=by
 obtain⟨l,n,_⟩:=qR now bs ts bs.length (Nat.le_refl _);rw[List.take_length] at l n;rw[l,List.mem_filter] at hb;rw[n];have o:=h.1 b hb.1;refine⟨.inr (.inl ⟨o.1,?_,rfl,rfl⟩),?_,o.2.2.1⟩
 ·unfold bY;rw[List.find?_eq_none];intro i w;have a:=List.mem_range.1 w;rw[getD_at a];have f:=List.getElem_mem a;rw[List.mem_filter] at f;intro e;have r:=(mh _ _).1 e;have s:(bs.filter (fun b=>!xp now b))[i]=b:=by
   obtain⟨p,hp,g⟩:=List.getElem_of_mem f.1;obtain⟨q,t,k⟩:=List.getElem_of_mem hb.1;have d:=List.pairwise_iff_getElem.1 h.2.2.1;rcases (by omega:p=q∨p<q∨q<p) with rfl|hpq|hpq
   ·rw[<-g,<-k]
   ·have:=(qQ _ _).1 (d p q hp t hpq);rw[g,k] at this;exact absurd r this
   ·have:=(qQ _ _).1 (d q p t hp hpq);rw[g,k] at this;exact absurd r.symm this
  have v:=f.2;rw[s,hb.2] at v;cases v
 ·have:=hb.2;unfold xp at this;simp only[Bool.or_eq_true,Bool.and_eq_true,decide_eq_true_eq] at this;rcases this with⟨_,h⟩|⟨_,h⟩
  ·omega
  ·exact h
end
section
variable {w:World}
theorem gH.of{bM:Value->Nat->(Nat->List Int)->(Nat->Bool)->List (List Int)->(Nat->Prop)->World->Prop}(I:sV bM){v:Value}{m:Nat}{ws:Nat->List Int}{ts:Nat->Bool}{bs:List (List Int)}{O:Nat->Prop}{w':World}(h:bM v m ws ts bs O w)(hb:Below w.heap.size w w'):gH bM v m ws ts bs O w w':=by have k:=I v m ws ts bs O w h;exact⟨O,k.2 w' hb.size (fun g hg=>hb.block g (k.1 g hg)),Fr.of hb,fun _ e=>.inl e⟩
def uY(bM:Value->Nat->(Nat->List Int)->(Nat->Bool)->List (List Int)->(Nat->Prop)->World->Prop):Prop:=∀v m ws ts bs O w kind p x e,m<=16->bs.length<=128->dJ m ws ts bs->bM v m ws ts bs O w->qP bs kind p x e ->
 Calls prog 102 #[v,.int .i64 kind,.int .i64 p] w fun r w'=>r=.returned (.tuple #[.agg (ay x),ev e])∧Below w.heap.size w w'
def uZ(bM:Value->Nat->(Nat->List Int)->(Nat->Bool)->List (List Int)->(Nat->Prop)->World->Prop):Prop:=∀v m ws ts bs O w f x e,m<=16->bs.length<=128->dJ m ws ts bs->bM v m ws ts bs O w->Fd bs f x e ->
 Calls prog 144 #[v,.agg (ak f)] w fun r w'=>r=.returned (.tuple #[.agg (ay x),ev e])∧Below w.heap.size w w'
def RAll(bM:Value->Nat->(Nat->List Int)->(Nat->Bool)->List (List Int)->(Nat->Prop)->World->Prop):Prop:=∀v m ws ts bs O w,m<=16->bs.length<=128->dJ m ws ts bs->bM v m ws ts bs O w ->
 Calls prog 57 #[v] w fun r w'=>∃b,r=.returned b∧dU 0 w' b bs∧Below w.heap.size w w'
def Qe(bM:Value->Nat->(Nat->List Int)->(Nat->Bool)->List (List Int)->(Nat->Prop)->World->Prop):Prop:=uY bM∧uZ bM∧RAll bM
theorem uY.j{bM:Value->Nat->(Nat->List Int)->(Nat->Bool)->List (List Int)->(Nat->Prop)->World->Prop}(I:sV bM)(h:uY bM):Gq bM:=fun v m ws ts bs O w kind p x e h1 h2 h3 h4 h5=>(h v m ws ts bs O w kind p x e h1 h2 h3 h4 h5).mono fun _ _ ⟨e1,e2⟩=>⟨e1,gH.of I h4 e2⟩
theorem uZ.j{bM:Value->Nat->(Nat->List Int)->(Nat->Bool)->List (List Int)->(Nat->Prop)->World->Prop}(I:sV bM)(h:uZ bM):Gr bM:=fun v m ws ts bs O w f x e h1 h2 h3 h4 h5=>(h v m ws ts bs O w f x e h1 h2 h3 h4 h5).mono fun _ _ ⟨e1,e2⟩=>⟨e1,gH.of I h4 e2⟩
theorem RAll.j{bM:Value->Nat->(Nat->List Int)->(Nat->Bool)->List (List Int)->(Nat->Prop)->World->Prop}(I:sV bM)(h:RAll bM):Gt bM:=fun v m ws ts bs O w h1 h2 h3 h4=>(h v m ws ts bs O w h1 h2 h3 h4).mono fun _ _ ⟨b,e1,e2,e3⟩=>⟨b,e1,e2,gH.of I h4 e3⟩
def Bl(x y:Value):Sem Unit:=Instr.storeAt 95 x y
theorem oJ(x y:Value):Instr.storeAt 95 x y=Bl x y:=rfl
theorem aJ.held{B:Nat}{b0:List Int}(p:aJ B b0 w)(b:List Int):∃w',(Bl (.pointer (some ⟨B,0,none⟩)) (.agg (ay b))).run prog w=.ok () w'∧aJ B b w'∧Only B w w':=by
 refine⟨w.setCells B 0 (ay b).toList,?_,?_,xL B _ _ w⟩
 ·exact run_storeAt_mid w B 0 95 (ay b) (fun j hj=>by have d:j<23:=hj;rw[Nat.zero_add,p.cell j d];refine⟨rfl,by unfold aJ at p;simp[World.frozen?,p]⟩) (by kernel_rfl) (by unfold ay;simp[Value.oneCell'])
 ·obtain⟨e,g,h,k⟩:=xK B 95 (ay b).toList 0 w _ p;have a:(ay b0).size=23:=rfl;have f:(ay b).size=23:=rfl;have hl:(ay b).toList.length=23:=rfl;have l:e=ay b:=by
   apply Array.ext_getElem?;intro i;by_cases hi:i<23
   ·rw[k i (by rw[a];exact hi),if_pos (by rw[hl];omega),Nat.sub_zero];simp
   ·rw[Array.getElem?_eq_none (by rw[h,a];omega),Array.getElem?_eq_none (by rw[f];omega)]
  unfold aJ;rw[g,l]
theorem Qf{g o:Nat}{b:List Int}(h:w.rangeAt g o (ay b).toList):(bO (.pointer (some ⟨g,o,none⟩))).run prog w=.ok (.agg (ak b)) w :=
 run_loadAt_mid w g o 89 (ak b).toList _ (fun j v hv=>by
  have hj:j<19:=(List.getElem?_eq_some_iff.1 hv).1;have h1:(ak b)[j]? = some v:=by simpa using hv
  rw[uJ b j hj] at h1;refine h j v ?_;have h2:=pU b j (by omega);rw[h1] at h2;simpa using h2) underlying89 rfl (by kernel_rfl)
theorem yc{g o:Nat}{b:List Int}(h:w.rangeAt g o (ay b).toList)(j:Nat)(hj:j<23):w.cell? ⟨g,o+j,none⟩=some (.int .i64 (el b j)):=h j _ (by have:=pU b j hj;simpa using this)
end
end Go.Proofs.YtgcojnlngchllaaGreatDoor
