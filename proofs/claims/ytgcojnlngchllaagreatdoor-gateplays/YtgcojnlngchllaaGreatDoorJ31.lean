import Derived.Test.YtgcojnlngchllaaGreatDoorJ14
import Derived.Deep.CutBlock
namespace Go.Proofs.YtgcojnlngchllaaGreatDoor
open Go.RowKit Tryz
set_option linter.unusedVariables false
set_option maxRecDepth 100000
set_option maxHeartbeats 40000000
namespace aQ
open Go.RowKit Go.Shelf Tryz
theorem uQ(n:Int)(w:World)(h:Word n):Calls prog 22 #[.int .i64 n] w fun e w'=>e=.returned (.bool true)∧w'=w:=by obtain⟨a,b⟩:=h;go_enter func22,ntmps22;go_wp2;go_ret;exact⟨rfl,rfl⟩
theorem uR(n:Int)(w:World)(h:¬Word n):Calls prog 22 #[.int .i64 n] w fun e w'=>e=.returned (.bool false)∧w'=w:=by
 by_cases h1:0<=n
 ·have h2:¬n<=65535:=fun h2=>h ⟨h1,h2⟩
  clear h;go_enter func22,ntmps22;go_wp2;go_ret;exact⟨rfl,rfl⟩
 ·clear h;go_enter func22,ntmps22;go_wp2;go_ret;exact⟨rfl,rfl⟩
theorem uS(z:List Int)(w:World):Calls prog 21 #[six z] w fun e w'=>((aH z∧e=.returned (.int .i64 0))∨(¬aH z∧e=.returned (.int .i64 1)))∧Below w.heap.size w w':=by
 have f:=iT z w;have b:Below w.heap.size w (w.alloc (.cells #[.int .i64 (el z 0),.int .i64 (el z 1),.int .i64 (el z 2),.int .i64 (el z 3),.int .i64 (el z 4),.int .i64 (el z 5),.int .i64 (el z 6),.int .i64 (el z 7)] 23)):=(Below.refl _ _).alloc (Nat.le_refl _) _;unfold six;go_enter func21,ntmps21;go_wp2;generalize w.alloc (.cells #[.int .i64 (el z 0),.int .i64 (el z 1),.int .i64 (el z 2),.int .i64 (el z 3),.int .i64 (el z 4),.int .i64 (el z 5),.int .i64 (el z 6),.int .i64 (el z 7)] 23)=W at f b⊢;go_loop [3] (fun t=>∃k:Nat,k<=8∧(∀j,j<k->Word (el z j))∧t=.int .i64 k) (fun t=>8-(intOf t).toNat)
 case atStart=>exact⟨0,by omega,fun i hi=>absurd hi (by omega),rfl⟩
 case round =>
  obtain⟨k,g,a,rfl⟩:=hrel;have HI:=ki a;clear a;by_cases hlt:k<8
  ·have hc:=(f.facts k hlt).1;by_cases hx:Word (el z k)
   ·have d:=ki hx;generalize el z k=x at hc hx;go_wp2_with (go_at_call 22;refine(uQ _ _ hx).mono ?_;rintro e w' ⟨rfl,rfl⟩)
    go_round
    case rel=>exact⟨k+1,by omega,fun i hi=>if h:i=k then by subst h;exact d.out else HI.out i (by omega),by go_num⟩
    case measure=>simp[intOf];omega
   ·have d:=ki hx;generalize el z k=x at hc hx;go_wp2_with (go_at_call 22;refine(uR _ _ hx).mono ?_;rintro e w' ⟨rfl,rfl⟩)
    go_ret;exact⟨.inr ⟨fun h=>d.out (h k hlt),rfl⟩,b⟩
  ·go_wp2;go_ret;obtain rfl:k=8:=by omega
   exact⟨.inl ⟨HI.out,rfl⟩,b⟩
theorem qM(z:List Int)(w:World)(h:aH z):Calls prog 21 #[six z] w fun e w'=>e=.returned (.int .i64 0)∧Below w.heap.size w w' :=
 (uS z w).mono fun e w' ⟨hh,hb⟩=>by
  rcases hh with⟨_,he⟩|⟨hn,_⟩
  ·exact⟨he,hb⟩
  ·exact absurd h hn
theorem A8(z:List Int)(w:World)(h:¬aH z):Calls prog 21 #[six z] w fun e w'=>e=.returned (.int .i64 1)∧Below w.heap.size w w' :=
 (uS z w).mono fun e w' ⟨hh,hb⟩=>by
  rcases hh with⟨hn,_⟩|⟨_,he⟩
  ·exact absurd hn h
  ·exact⟨he,hb⟩
theorem AL{w:World}{ops:Array Oper}{o:Oper}{a:Act}{K:Act->World->Prop}{Q:Exit->Act->World->Prop}{E:Prop}(hgd:o.guard=none)(s x:Operand)(ho:o.op=.call { callee:=.builtin .append,args:=#[s,x],argTypes:=#[37,37] })(base:Nat)(v:Value)(xs:List Value)(hs:a.eval s=v)(hown:bJ 5 base w v xs)(B m:Nat)(ys:List Value)(hx:a.eval x=.slice (some ⟨B,0,none⟩) m m)(hm:ys.length=m)(hc:∀(j:Nat)u,ys[j]? = some u->w.cell? ⟨B,j,none⟩=some u)(h1:∀u∈ys,u.oneCell'=true)(hlen:xs.length+m<=4000000)(hbase:base<=w.heap.size)(h:∀v' w',bJ 5 base w' v' (xs++ys)->w.grownBy w' v.ownBlock->K (a.put o.dst v') w'):if Region.wanted o (yielded ops a.tmps)=true then Oper.wp prog o a w K Q else E:=by
 have f:Region.wanted o (yielded ops a.tmps)=true:=by simp[Region.wanted,hgd]
 rw[if_pos f];obtain⟨g,i,b,d,e⟩:=info_parts infoByte;refine wp_append_own w s x 37 ho base 5 g (.int .u8 0) 1 1 underlying37 i b d e rfl (by decide) v xs.length xs hs hown ⟨B,0,none⟩ m m ys hx (by omega) ?_ h1 (by unfold maxLen;omega) (by omega) hbase ?_
 ·intro j u k;rw[jQ,Nat.zero_add];exact hc j u k
 ·intro v' w' l n _;refine h v' w' ?_ n;unfold bJ;rw[List.length_append,hm];exact l
theorem qL(z:List Int)(w:World)(hz:aH z):Calls prog 69 #[six z] w fun e w'=>∃v,e=.returned v∧bJ 5 (w.heap.size+1) w' v (dG (aS z 8))∧Below w.heap.size w w':=by
 have q:=iT z w;have r:Below w.heap.size w (w.alloc (.cells #[.int .i64 (el z 0),.int .i64 (el z 1),.int .i64 (el z 2),.int .i64 (el z 3),.int .i64 (el z 4),.int .i64 (el z 5),.int .i64 (el z 6),.int .i64 (el z 7)] 23)):=(Below.refl _ _).alloc (Nat.le_refl _) _;have g:w.heap.size+1<=(w.alloc (.cells #[.int .i64 (el z 0),.int .i64 (el z 1),.int .i64 (el z 2),.int .i64 (el z 3),.int .i64 (el z 4),.int .i64 (el z 5),.int .i64 (el z 6),.int .i64 (el z 7)] 23)).heap.size:=by simp
 unfold six;go_enter func69,ntmps69;go_wp2;generalize w.alloc (.cells #[.int .i64 (el z 0),.int .i64 (el z 1),.int .i64 (el z 2),.int .i64 (el z 3),.int .i64 (el z 4),.int .i64 (el z 5),.int .i64 (el z 6),.int .i64 (el z 7)] 23)=W at q r g⊢;go_loopw [3,4] (fun v i wr=>∃k:Nat,k<=8∧i=.int .i64 k∧Hid (bJ 5 (w.heap.size+1) wr v (dG (aS z k)))∧Hid (aP w.heap.size z wr)∧Hid (Below (w.heap.size+1) W wr)) (fun _ i _=>8-(intOf i).toNat)
 case atStart=>exact⟨0,by omega,rfl,bJ.nil _ _ _,q,Below.refl _ _⟩
 case round =>
  obtain⟨k,K,rfl,s,h,o⟩:=hrel;by_cases hlt:k<8
  ·have t:=(h.out.facts k hlt).1;have y:=hz k hlt;have A:=ki (mV z k);have B:=ki (show(dG (aS z k)).length=2*k by unfold dG;rw[List.length_map,eD z k]);generalize el z k=x at t y A;obtain⟨l,J⟩:=y;have b:w.heap.size+1<=wr.heap.size:=Nat.le_trans g o.out.size;have L:IntKind.i64.wrap (x.tdiv 256)=x/256:=by rw[Int.tdiv_eq_ediv_of_nonneg l,IntKind.wrap_i64];omega
   have M:IntKind.u8.wrap (x/256)=x/256:=by rw[IntKind.wrap_u8];omega
   have N:x.tmod 256=x%256:=Int.tmod_eq_emod_of_nonneg l;have O:IntKind.u8.wrap (x%256)=x%256:=by rw[IntKind.wrap_u8];omega
   have a:Below wr.heap.size wr (wr.alloc (.cells #[.int .u8 (x/256),.int .u8 (x%256)] 5)).drew:=((Below.refl _ _).alloc (Nat.le_refl _) _).drew;have d:=ki (s.out.kept a);have C:=ki (o.out.trans (a.mono b));have f:=ki (h.out.kept a);have I:=ki (show ∀(j:Nat)u,[Value.int .u8 (x/256),Value.int .u8 (x%256)][j]? = some u->(wr.alloc (.cells #[.int .u8 (x/256),.int .u8 (x%256)] 5)).drew.cell? ⟨wr.heap.size,j,none⟩=some u from fun j u hu=>by match j with|0=>simp at hu;subst hu;simp|1=>simp at hu;subst hu;simp|j+2=>simp at hu);have D:=ki (show(dG (aS z k)).length+2<=4000000 by rw[B.out];omega);have E:=ki (show w.heap.size+1<=(wr.alloc (.cells #[.int .u8 (x/256),.int .u8 (x%256)] 5)).drew.heap.size from Nat.le_trans b a.size);have F:=ki (show ∀u∈[Value.int .u8 (x/256),Value.int .u8 (x%256)],u.oneCell'=true from fun u hu=>by simp at hu;rcases hu with rfl|rfl<;>rfl);go_wp2;go_region_law (refine AL rfl (.tmp 9) (.tmp 20) rfl (w.heap.size+1) _ (dG (aS z k)) (by simp[Act.eval]) d.out wr.heap.size 2 [.int .u8 (x/256),.int .u8 (x%256)] (by simp[Act.eval]) rfl I.out F.out D.out E.out ?_;intro P w' G n)
   all_goals
    have H:=ki (C.out.grown n (Nat.le_trans b a.size) (d.out.base));have p:=ki (show aP w.heap.size z w' from(n.block _ f.out.lt (fun e=>by have:=d.out.base _ e.symm;omega)).trans f.out);go_wp2_with fail
    go_roundw
    case rel =>refine⟨k+1,by omega,by go_num,?_,p,H⟩;rw[A.out];unfold dG;rw[List.map_append];exact G
    case measure=>simp[intOf];omega
  ·obtain rfl:k=8:=by omega
   go_wp2;go_ret;exact⟨_,rfl,s.out,r.trans (o.out.mono (Nat.le_succ _))⟩
end aQ
namespace aQ
open Go.RowKit Go.Shelf Tryz
theorem Tv(n:Int)(w:World)(h:eY n):Calls prog 68 #[.int .i64 n] w fun e w'=>e=.returned (.bool true)∧w'=w:=by
 rcases h with rfl|rfl|rfl|rfl|rfl|rfl;all_goals
  go_enter func68,ntmps68;go_wp2;go_ret;exact⟨rfl,rfl⟩
theorem Tw(n:Int)(w:World)(h:¬eY n):Calls prog 68 #[.int .i64 n] w fun e w'=>e=.returned (.bool false)∧w'=w:=by
 have a:(n == 32)=false:=by simpa using fun e=>h (.inl e)
 have b:(n == 40)=false:=by simpa using fun e=>h (.inr (.inl e))
 have d:(n == 48)=false:=by simpa using fun e=>h (.inr (.inr (.inl e)))
 have h4:(n == 56)=false:=by simpa using fun e=>h (.inr (.inr (.inr (.inl e))))
 have f:(n == 64)=false:=by simpa using fun e=>h (.inr (.inr (.inr (.inr (.inl e)))))
 have g:(n == 96)=false:=by simpa using fun e=>h (.inr (.inr (.inr (.inr (.inr e)))))
 clear h;go_enter func68,ntmps68;go_wp2;go_ret;exact⟨rfl,rfl⟩
theorem Tx(p:List Int)(n:Int)(w:World)(h:¬aH p):Calls prog 23 #[six p,.int .i64 n] w fun e w'=>e=.returned (.int .i64 1)∧Below w.heap.size w w':=by
 have a:=fun w=>A8 p w h
 unfold six at a⊢;go_enter func23,ntmps23;go_wp2_with (go_at_call 21;refine(a _).mono ?_;rintro e d ⟨rfl,b⟩)
 go_ret;exact⟨rfl,bt ((Below.refl _ _).alloc (Nat.le_refl _) _) b⟩
theorem Tz(p:List Int)(n:Int)(w:World)(h:aH p)(hn:¬eY n):Calls prog 23 #[six p,.int .i64 n] w fun e w'=>e=.returned (.int .i64 1)∧Below w.heap.size w w':=by
 have a:=fun w=>qM p w h
 unfold six at a⊢;go_enter func23,ntmps23;go_wp2_with (first|(go_at_call 21;refine(a _).mono ?_;rintro e d ⟨rfl,b⟩)|(go_at_call 68;refine(Tw _ _ hn).mono ?_;rintro e f ⟨rfl,rfl⟩))
 go_ret;exact⟨rfl,bt ((Below.refl _ _).alloc (Nat.le_refl _) _) b⟩
theorem Iy(p:List Int)(q:Nat)(w:World)(h:aH p)(hn:eY (8*q)):Calls prog 23 #[six p,.int .i64 (8*q)] w fun e w'=>e=.returned (.int .i64 (if fH p q then 2 else 0))∧Below w.heap.size w w':=by
 have r:=fun w=>qM p w h
 have s:=fun w=>qL p w h
 have A:=iT p w;have S:q<=12:=by unfold eY at hn;omega
 obtain⟨R,hR⟩:∃R:Int,R=(if fH p q then 2 else 0):=⟨_,rfl⟩;rw[<-hR];have y:=ki hR;have G:=ki hn;clear hn hR;unfold six at r s⊢;go_enter func23,ntmps23;go_wp2_with (first|(go_at_call 21;refine(r _).mono ?_;rintro e T ⟨rfl,d⟩;have B:=ki (bt ((Below.refl w.heap.size w).alloc (Nat.le_refl _) _) d);obtain⟨⟨H,-,-⟩,⟨I,-,-⟩,⟨J,-,-⟩,⟨K,-,-⟩,⟨L,-,-⟩,⟨M,-,-⟩,⟨N,-,-⟩,⟨O,-,-⟩⟩:=(A.kept d).all;clear d A)|(go_at_call 68;refine(Tv _ _ G.out).mono ?_;rintro e U ⟨rfl,rfl⟩)|(go_at_call 69;refine(s _).mono ?_;rintro e V ⟨v,rfl,C,l⟩;have f:=ki (bt B.out l);obtain⟨g,Q,rfl,P,D,W,z⟩:=sO C;clear l C D H I J K L M N O))
 clear r s;go_loop [8] (fun t=>∃k:Nat,k<=16∧Hid (∀j,j<k->(j=8∨q<=j)->bK p j=0)∧t=.int .i64 k) (fun t=>16-(intOf t).toNat)
 case atStart=>exact⟨0,by omega,ki (fun i hi=>absurd hi (by omega)),rfl⟩
 case round =>
  obtain⟨k,X,HI,rfl⟩:=hrel;by_cases hlt:k<16
  ·have n:=z k hlt;have Y:=ki z;clear z;by_cases h8:k=8∨q<=k
   ·by_cases hz:bK p k=0
    ·have a:=ki (show ∀j,j<k+1->(j=8∨q<=j)->bK p j=0 from fun j hj hh=>if e:j=k then by rw[e];exact hz else HI.out j (by omega) hh);rw[hz] at n;clear hz;by_cases h9:k=8
     ·have b:((k:Int) == 8)=true:=by rw[beq_iff_eq];omega
      clear h8 h9;go_wp2;go_round
      case rel=>exact⟨k+1,by omega,a,by go_num⟩
      case measure=>simp[intOf];omega
     ·have b:((k:Int) == 8)=false:=by rw[beq_eq_false_iff_ne];omega
      have o:(8*(q:Int))<=8*(k:Int):=by omega
      clear h8 h9;go_wp2;go_round
      case rel=>exact⟨k+1,by omega,a,by go_num⟩
      case measure=>simp[intOf];omega
    ·have E:=ki (uO k hlt h8 hz);have F:(bK p k == 0)=false:=by simpa using hz
     generalize bK p k=x at n hz F;by_cases h9:k=8
     ·have b:((k:Int) == 8)=true:=by rw[beq_iff_eq];omega
      clear h8 h9;go_wp2;go_ret;exact⟨by rw[y.out,E.out];rfl,f.out⟩
     ·have b:((k:Int) == 8)=false:=by rw[beq_eq_false_iff_ne];omega
      have o:(8*(q:Int))<=8*(k:Int):=by omega
      clear h8 h9;go_wp2;go_ret;exact⟨by rw[y.out,E.out];rfl,f.out⟩
   ·have a:=ki (show ∀j,j<k+1->(j=8∨q<=j)->bK p j=0 from fun j hj hh=>if e:j=k then absurd (by rw[<-e];exact hh) h8 else HI.out j (by omega) hh);have b:((k:Int) == 8)=false:=by rw[beq_eq_false_iff_ne];omega
    have o:¬(8*(q:Int))<=8*(k:Int):=by omega
    clear h8;go_wp2;go_round
    case rel=>exact⟨k+1,by omega,a,by go_num⟩
    case measure=>simp[intOf];omega
  ·obtain rfl:k=16:=by omega
   go_wp2;go_ret;refine⟨?_,f.out⟩;have:fH p q=false:=AY p q (HI.out 8 (by omega) (.inl rfl)) (fun j hj=>HI.out (q+j) (by omega) (.inr (by omega)));rw[y.out,this];rfl
theorem TA(p:List Int)(n k:Int)(w:World)(h:PF p n k):Calls prog 23 #[six p,.int .i64 n] w fun e w'=>e=.returned (.int .i64 k)∧Below w.heap.size w w':=by
 rcases h with⟨h1,rfl⟩|⟨h1,h2,rfl⟩|⟨h1,h2,h3,rfl⟩|⟨h1,h2,h3,rfl⟩
 ·exact Tx p n w h1
 ·exact Tz p n w h1 h2
 ·obtain⟨q,rfl,e,_,_⟩:=qo h2;rw[e] at h3;have:=Iy p q w h1 h2;rw[h3] at this;exact this
 ·obtain⟨q,rfl,e,_,_⟩:=qo h2;rw[e] at h3;have:=Iy p q w h1 h2;rw[h3] at this;exact this
end aQ
namespace aQ
theorem below_drewN{w W:World}{b:Nat}(h:Below b w W)(n:Nat):Below b w (W.drewN n):=h.trans ⟨rfl,rfl,rfl,Nat.le_refl _,fun _ _=>rfl⟩
theorem TB(a p:List Int)(n:Int)(w:World)(ha:aH a)(hp:aH p)(h0:0<=n)(h1:n<=128):Calls prog 26 #[six a,six p,.int .i64 n] w fun e w'=>e=.returned (.bool (eT a p n))∧Below w.heap.size w w':=by
 have l:=(iT a w).kept ((Below.refl _ _).alloc (Nat.le_refl _) (.cells #[.int .i64 (el p 0),.int .i64 (el p 1),.int .i64 (el p 2),.int .i64 (el p 3),.int .i64 (el p 4),.int .i64 (el p 5),.int .i64 (el p 6),.int .i64 (el p 7)] 23));have f:=iT p (w.alloc (.cells #[.int .i64 (el a 0),.int .i64 (el a 1),.int .i64 (el a 2),.int .i64 (el a 3),.int .i64 (el a 4),.int .i64 (el a 5),.int .i64 (el a 6),.int .i64 (el a 7)] 23));simp only[World.size_alloc] at f;have z:Below w.heap.size w ((w.alloc (.cells #[.int .i64 (el a 0),.int .i64 (el a 1),.int .i64 (el a 2),.int .i64 (el a 3),.int .i64 (el a 4),.int .i64 (el a 5),.int .i64 (el a 6),.int .i64 (el a 7)] 23)).alloc (.cells #[.int .i64 (el p 0),.int .i64 (el p 1),.int .i64 (el p 2),.int .i64 (el p 3),.int .i64 (el p 4),.int .i64 (el p 5),.int .i64 (el p 6),.int .i64 (el p 7)] 23)):=((Below.refl _ _).alloc (Nat.le_refl _) _).alloc (by simp) _;obtain⟨r,hr⟩:∃r,r=eT a p n:=⟨_,rfl⟩;have D:=ki hr;rw[<-hr];clear hr;unfold six;go_enter func26,ntmps26;go_wp2;generalize (w.alloc (.cells #[.int .i64 (el a 0),.int .i64 (el a 1),.int .i64 (el a 2),.int .i64 (el a 3),.int .i64 (el a 4),.int .i64 (el a 5),.int .i64 (el a 6),.int .i64 (el a 7)] 23)).alloc (.cells #[.int .i64 (el p 0),.int .i64 (el p 1),.int .i64 (el p 2),.int .i64 (el p 3),.int .i64 (el p 4),.int .i64 (el p 5),.int .i64 (el p 6),.int .i64 (el p 7)] 23)=W at l f z⊢;go_loopw [7] (fun t wr=>∃k q:Nat,k<=8∧t=.int .i64 k∧Hid (∀j,j<k->iq a n j=iq p n j)∧wr=W.drewN q) (fun t _=>8-(intOf t).toNat)
 case atStart=>exact⟨0,0,by omega,rfl,fun j hj=>absurd hj (by omega),by rw[World.drewN_zero]⟩
 case round =>
  obtain⟨k,q,M,rfl,HI,rfl⟩:=hrel;by_cases hlt:k<8
  ·have F:=(l.facts k hlt).1;have G:=(f.facts k hlt).1;have B:=ha k hlt;have C:=hp k hlt;have s:=ki (show ∀m:Nat,sM n k=m->(iq a n k=el a k/(2:Int) ^ m∧iq p n k=el p k/(2:Int) ^ m) from fun m hm=>by unfold iq;rw[hm];exact⟨rfl,rfl⟩);have o:=ki (show iq a n k≠iq p n k->r=false from fun hne=>by rw[D.out];unfold eT;rw[List.all_eq_false];exact⟨k,List.mem_range.2 hlt,by simpa using hne⟩);have d:=ki (show iq a n k=iq p n k->∀j,j<k+1->iq a n j=iq p n j from fun he j hj=>if h:j=k then by subst h;exact he else HI.out j (by omega));generalize el a k=x at F B s;generalize el p k=y at G C s;obtain⟨I,J⟩:=B;obtain⟨K,L⟩:=C;by_cases hd0:n-16*(k:Int)<0
   ·obtain⟨g,i⟩:=s.out 16 (by unfold sM;omega);have E:x/2 ^ 16=0:=by omega
    have e4:y/2 ^ 16=0:=by omega
    have v:=ki (d.out (by rw[g,i,E,e4]));clear g i E e4 s o d l f HI;go_wp2;go_quiet (fail)
    go_wp2_with fail
    go_roundw
    case rel=>exact⟨k+1,q+nq,by omega,by go_num,v,rfl⟩
    case measure=>simp[intOf];omega
   ·by_cases hd1:16<n-16*(k:Int)
    ·obtain⟨g,i⟩:=s.out (0) (by unfold sM;omega);by_cases he:x=y
     ·have hb:(x == y)=true:=by simpa using he
      have v:=ki (d.out (by rw[g,i];simpa using he));clear g i s o d l f HI he;go_wp2;go_quiet (fail)
      go_wp2_with fail
      go_roundw
      case rel=>exact⟨k+1,q+nq,by omega,by go_num,v,rfl⟩
      case measure=>simp[intOf];omega
     ·have hb:(x == y)=false:=by simpa using he
      have A:=ki (o.out (by rw[g,i];simpa using he));clear g i s o d l f HI he;go_wp2;go_quiet (fail)
      go_wp2_with fail
      go_ret;exact⟨congrArg (fun b=>Ending.returned (.bool b)) A.out.symm,by first|exact below_drewN z (q+nq)|exact below_drewN (below_drewN z q) nq⟩
    ·obtain⟨g,i⟩:=s.out ((16-(n-16*(k:Int))).toNat) (by unfold sM;omega);by_cases he:x/2 ^ (16-(n-16*(k:Int))).toNat=y/2 ^ (16-(n-16*(k:Int))).toNat
     ·have hb:(x/2 ^ (16-(n-16*(k:Int))).toNat == y/2 ^ (16-(n-16*(k:Int))).toNat)=true:=by simpa using he
      have v:=ki (d.out (by rw[g,i];simpa using he));clear g i s o d l f HI he;go_wp2;go_quiet (fail)
      go_wp2_with fail
      go_roundw
      case rel=>exact⟨k+1,q+nq,by omega,by go_num,v,rfl⟩
      case measure=>simp[intOf];omega
     ·have hb:(x/2 ^ (16-(n-16*(k:Int))).toNat == y/2 ^ (16-(n-16*(k:Int))).toNat)=false:=by simpa using he
      have A:=ki (o.out (by rw[g,i];simpa using he));clear g i s o d l f HI he;go_wp2;go_quiet (fail)
      go_wp2_with fail
      go_ret;exact⟨congrArg (fun b=>Ending.returned (.bool b)) A.out.symm,by first|exact below_drewN z (q+nq)|exact below_drewN (below_drewN z q) nq⟩
  ·obtain rfl:k=8:=by omega
   have H:=ki (show r=true by rw[D.out];unfold eT;rw[List.all_eq_true];intro j hj;simpa using HI.out j (List.mem_range.1 hj));go_wp2;go_ret;exact⟨congrArg (fun b=>Ending.returned (.bool b)) H.out.symm,below_drewN z q⟩
end aQ
namespace aQ
open Go.RowKit Go.Shelf Tryz
theorem TD(q k:Nat):pos q k≠8:=by have:=AZ q k;omega
theorem BR(q k:Nat):(q<=8∧8<q+k∧top q k=q+k+1)∨((8<q∨q+k<=8)∧top q k=q+k):=by unfold top;split<;>omega
end aQ
namespace aQ
open Go.RowKit Go.Shelf Tryz
def gk(z:List Int)(q:Nat):Nat->Int
 | 0=>0
 | k+1=>gk z q k*256+bK z (pos q k)
theorem TF(z:List Int)(q:Nat):gk z q 4=lG z q:=by show((((0*256+bK z (pos q 0))*256+bK z (pos q 1))*256+bK z (pos q 2))*256+bK z (pos q 3))=_;unfold lG;omega
theorem TG(z:List Int)(q:Nat)(h:aH z)(hq:q<=12)(k:Nat)(hk:k<4):0<=gk z q k∧gk z q k<16777216:=by have a:=kN z h (pos q 0) (mo hq (by omega));have b:=kN z h (pos q 1) (mo hq (by omega));have d:=kN z h (pos q 2) (mo hq (by omega));have e:gk z q 1=0*256+bK z (pos q 0):=rfl;have f:gk z q 2=gk z q 1*256+bK z (pos q 1):=rfl;have g:gk z q 3=gk z q 2*256+bK z (pos q 2):=rfl;have g0:gk z q 0=0:=rfl;rcases (by omega:k=0∨k=1∨k=2∨k=3) with rfl|rfl|rfl|rfl<;>omega
theorem TH(z:List Int)(q:Nat)(w:World)(h:aH z)(hn:eY (8*q)):Calls prog 33 #[six z,.int .i64 (8*q)] w fun e w'=>e=.returned (if fH z (pos q 3+1) then .tuple #[.int .i64 0,.int .i64 2] else .tuple #[.int .i64 (lG z q),.int .i64 0])∧Below w.heap.size w w':=by
 have E:=fun w=>qL z w h
 have H:q<=12:=by unfold eY at hn;omega
 have hd:(8*(q:Int)).tdiv 8=q:=by rw[Int.tdiv_eq_ediv_of_nonneg (by omega)];omega
 obtain⟨R,hR⟩:∃R,R=(if fH z (pos q 3+1) then Value.tuple #[.int .i64 0,.int .i64 2] else .tuple #[.int .i64 (lG z q),.int .i64 0]):=⟨_,rfl⟩;rw[<-hR];have F:=ki hR;have y:=ki h;clear hR hn h;unfold six at E⊢;go_enter func33,ntmps33;go_wp2_with (go_at_call 69;refine(E _).mono ?_;rintro e U ⟨v,rfl,I,B⟩;have n:=ki (bt ((Below.refl w.heap.size w).alloc (Nat.le_refl _) _) B);obtain⟨g,S,rfl,Q,J,V,K⟩:=sO I;have L:=ki K;clear B I J K)
 clear E hd;go_loop [7,8,9] (fun a b c=>∃(k i:Nat),k<=4∧i<=16∧a=.int .i64 (gk z q k)∧b=.int .i64 k∧c=.int .i64 i∧Hid (k<4->i=top q k∨i=pos q k)∧Hid (k=4->pos q 3<i∧∀j,pos q 3<j->j<i->j≠8->bK z j=0)) (fun _ _ c=>17-(intOf c).toNat)
 case atStart=>exact⟨0,q,by omega,by omega,rfl,rfl,rfl,ki (fun _=>.inl (by have:=BR q 0;omega)),ki (fun e=>absurd e (by omega))⟩
 case round =>
  obtain⟨k,i,W,X,rfl,rfl,rfl,HI,f⟩:=hrel;by_cases BS:i<16
  ·have t:=L.out i BS;by_cases h8:i=8
   ·subst h8;have C:=TD q k;have o:=ki (show k<4->9=top q k∨9=pos q k from fun h4=>.inr (by
     rcases HI.out h4 with e|e
     ·exact(FQ e.symm).1.symm
     ·exact absurd e.symm C))
    have l:=ki (show k=4->pos q 3<9∧∀j,pos q 3<j->j<9->j≠8->bK z j=0 from fun h4=>⟨by have:=(f.out h4).1;omega,fun j h1 h2 h3=>(f.out h4).2 j h1 (by omega) h3⟩);clear C t;obtain⟨A,hA⟩:∃A,A=gk z q k:=⟨_,rfl⟩;rw[<-hA];have G:=ki hA;clear hA;go_wp2;go_round
    case rel=>exact⟨k,9,by omega,by omega,by rw[G.out],rfl,by go_num,o,l⟩
    case measure=>simp[intOf]
   ·have T:((i:Int) == 8)=false:=by rw[beq_eq_false_iff_ne];omega
    by_cases hk4:k<4
    ·have D:i=pos q k:=by
      rcases HI.out hk4 with e|e
      ·exact e.trans (FR (fun h=>h8 (e.trans h))).1.symm
      ·exact e
     obtain⟨M,N⟩:=TG z q y.out H k hk4;obtain⟨O,P⟩:=kN z y.out i BS;have p:=ki (show gk z q k*256+bK z i=gk z q (k+1) by rw[D];rfl);have o:=ki (show k+1<4->i+1=top q (k+1)∨i+1=pos q (k+1) from fun _=>.inl (by have:=AZ q k;have:=BR q (k+1);omega));have l:=ki (show k+1=4->pos q 3<i+1∧∀j,pos q 3<j->j<i+1->j≠8->bK z j=0 from fun h4=>by
      obtain rfl:k=3:=by omega
      exact⟨by omega,fun j h1 h2 _=>absurd h2 (by omega)⟩)
     generalize gk z q k=A at M N p⊢;generalize bK z i=b at O P p t;clear D HI f h8;go_wp2;go_round
     case rel=>exact⟨k+1,i+1,by omega,by omega,by rw[<-p.out],by go_num,by go_num,o,l⟩
     case measure=>simp[intOf];omega
    ·obtain rfl:k=4:=by omega
     obtain⟨hp,d⟩:=f.out rfl;obtain⟨A,hA⟩:∃A,A=gk z q 4:=⟨_,rfl⟩;rw[<-hA];have G:=ki hA;clear hA;by_cases hz:bK z i=0
     ·have l:=ki (show 4=4->pos q 3<i+1∧∀j,pos q 3<j->j<i+1->j≠8->bK z j=0 from fun _=>⟨by omega,fun j h1 h2 h3=>if e:j=i then by rw[e];exact hz else d j h1 (by omega) h3⟩);rw[hz] at t;clear hz d hp HI f h8;go_wp2;go_round
      case rel=>exact⟨4,i+1,by omega,by omega,by rw[G.out],rfl,by go_num,ki (fun h=>absurd h (by omega)),l⟩
      case measure=>simp[intOf];omega
     ·have r:=ki (uO (z:=z) (q:=pos q 3+1) i BS (.inr (by omega)) hz);have s:(bK z i == 0)=false:=by simpa using hz
      generalize bK z i=x at t hz s;clear d hp HI f h8;go_wp2;go_ret2;exact⟨by rw[F.out,r.out];rfl,n.out⟩
  ·obtain rfl:i=16:=by omega
   obtain rfl:k=4:=by
    rcases Nat.lt_or_ge k 4 with h4|h4
    ·have h1:=mo H h4;have h2:=HI.out h4;have h3:=AZ q k;have Y:=BR q k;omega
    ·omega
   obtain⟨hp,d⟩:=f.out rfl;have c8:=L.out 8 (by omega);rw[TF];by_cases hz:bK z 8=0
   ·have r:=ki (AY z (pos q 3+1) hz (fun j hj=>if e:pos q 3+1+j=8 then by rw[e];exact hz else d (pos q 3+1+j) (by omega) (by omega) e));rw[hz] at c8;generalize hgt:lG z q=A;have p:=ki hgt;clear d hp HI f hz hgt;go_wp2;go_ret2;exact⟨by rw[F.out,r.out,p.out];rfl,n.out⟩
   ·have r:=ki (uO (z:=z) (q:=pos q 3+1) 8 (by omega) (.inl rfl) hz);have s:(bK z 8 == 0)=false:=by simpa using hz
    generalize bK z 8=x at c8 hz s;generalize lG z q=A;clear d hp HI f;go_wp2;go_ret2;exact⟨by rw[F.out,r.out];rfl,n.out⟩
end aQ
end Go.Proofs.YtgcojnlngchllaaGreatDoor
