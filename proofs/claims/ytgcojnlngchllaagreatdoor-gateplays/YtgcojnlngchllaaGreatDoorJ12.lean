import Derived.Test.YtgcojnlngchllaaGreatDoorJ10
import Derived.Lib.SlBytesConst
import Derived.Lib.AppendStr
namespace Go.Proofs.YtgcojnlngchllaaGreatDoor
open Go.RowKit Tryz
set_option linter.unusedVariables false
set_option maxRecDepth 100000
set_option maxHeartbeats 40000000
section
def dn(a b:List Int):Bool:=el a 0 == el b 0 && el a 1 == el b 1 && el a 2 == el b 2 && el a 3 == el b 3 && el a 4 == el b 4 && el a 5 == el b 5 && el a 6 == el b 6 && el a 7 == el b 7
theorem sJ(a b:List Int):dn a b=true↔∀j,j<8->el a j=el b j:=by unfold dn;simp only[Bool.and_eq_true,beq_iff_eq];refine⟨fun ⟨⟨⟨⟨⟨⟨⟨h0,h1⟩,h2⟩,h3⟩,h4⟩,h5⟩,h6⟩,h7⟩ j hj=>?_,fun h=>⟨⟨⟨⟨⟨⟨⟨h 0 (by omega),h 1 (by omega)⟩,h 2 (by omega)⟩,h 3 (by omega)⟩,h 4 (by omega)⟩,h 5 (by omega)⟩,h 6 (by omega)⟩,h 7 (by omega)⟩⟩;rcases (by omega:j=0∨j=1∨j=2∨j=3∨j=4∨j=5∨j=6∨j=7) with rfl|rfl|rfl|rfl|rfl|rfl|rfl|rfl<;>assumption
def iV(a b:List Int):Bool:=el a 0 == el b 0 && dn (cli a) (cli b) && el a 9 == el b 9 && dn (dst a) (dst b) && el a 18 == el b 18
theorem mh(a b:List Int):iV a b=true↔ak a=ak b:=by
 unfold iV;simp only[Bool.and_eq_true,beq_iff_eq,sJ];constructor
 ·rintro ⟨⟨⟨⟨g,d⟩,i⟩,l⟩,h4⟩;have k:∀j,j<8->el a (1+j)=el b (1+j):=fun j hj=>by have:=d j hj;rcases (by omega:j=0∨j=1∨j=2∨j=3∨j=4∨j=5∨j=6∨j=7) with rfl|rfl|rfl|rfl|rfl|rfl|rfl|rfl<;>exact this
  have f:∀j,j<8->el a (10+j)=el b (10+j):=fun j hj=>by have:=l j hj;rcases (by omega:j=0∨j=1∨j=2∨j=3∨j=4∨j=5∨j=6∨j=7) with rfl|rfl|rfl|rfl|rfl|rfl|rfl|rfl<;>exact this
  unfold ak;rw[g,k 0 (by omega),k 1 (by omega),k 2 (by omega),k 3 (by omega),k 4 (by omega),k 5 (by omega),k 6 (by omega),k 7 (by omega),i,f 0 (by omega),f 1 (by omega),f 2 (by omega),f 3 (by omega),f 4 (by omega),f 5 (by omega),f 6 (by omega),f 7 (by omega),h4]
 ·intro h;have e:∀j,j<19->el a j=el b j:=fun j hj=>by
   have d:=uJ a j hj;rw[h,uJ b j hj] at d;injection d with d
   injection d with _ d
   exact d.symm
  refine⟨⟨⟨⟨e 0 (by omega),fun j hj=>?_⟩,e 9 (by omega)⟩,fun j hj=>?_⟩,e 18 (by omega)⟩
  ·rw[wY a j hj,wY b j hj];exact e _ (by omega)
  ·rw[wZ a j hj,wZ b j hj];exact e _ (by omega)
theorem Fv(n:Nat)(a b:List Int)(w:World):(Op.equalIn (n+2) 23 (.agg (av a)) (.agg (av b))).run prog w=.ok (dn a b) w:=by
 unfold av dn;have d:=underlying3;have e:=isAgg3;have f:=sizeOf3;rw[show n+2=(n+1)+1 from rfl,Op.equalIn];simp only[Sem.run_bind,run_underlying underlying23,Result.andThen_ok];simp only[Std.Legacy.Range.forIn_eq_forIn_range',Std.Legacy.Range.size,Nat.sub_zero,Nat.add_sub_cancel,Nat.div_one,List.range'_succ,List.range'_zero,List.forIn_cons,List.forIn_nil];go_simp;by_cases h0:el a 0=el b 0;case neg=>simp[h0]
 by_cases h1:el a 1=el b 1;case neg=>simp[h0,h1]
 by_cases h2:el a 2=el b 2;case neg=>simp[h0,h1,h2]
 by_cases h3:el a 3=el b 3;case neg=>simp[h0,h1,h2,h3]
 by_cases h4:el a 4=el b 4;case neg=>simp[h0,h1,h2,h3,h4]
 by_cases h5:el a 5=el b 5;case neg=>simp[h0,h1,h2,h3,h4,h5]
 by_cases h6:el a 6=el b 6;case neg=>simp[h0,h1,h2,h3,h4,h5,h6]
 by_cases h7:el a 7=el b 7;case neg=>simp[h0,h1,h2,h3,h4,h5,h6,h7]
 simp[h0,h1,h2,h3,h4,h5,h6,h7]
theorem Nt(f:List Int)(w:World):(part 3 (ak f) 0).run prog w=.ok (.int .i64 (el f 0)) w:=by kernel_rfl
theorem Nu(f:List Int)(w:World):(part 23 (ak f) 1).run prog w=.ok (.agg (av (cli f))) w:=by kernel_rfl
theorem Nv(f:List Int)(w:World):(part 3 (ak f) 9).run prog w=.ok (.int .i64 (el f 9)) w:=by kernel_rfl
theorem Nw(f:List Int)(w:World):(part 23 (ak f) 10).run prog w=.ok (.agg (av (dst f))) w:=by kernel_rfl
theorem Ny(f:List Int)(w:World):(part 3 (ak f) 18).run prog w=.ok (.int .i64 (el f 18)) w:=by kernel_rfl
theorem Fw(n:Nat)(x y:Int)(w:World):(Op.equalIn (n+1) 3 (.int .i64 x) (.int .i64 y)).run prog w=.ok (x == y) w:=run_equalIn_int w n 3 .i64 .i64 x y underlying3
theorem Nz:(prog.fieldsOf 89).toList.map (fun f=>(f.name == "_",f.type,f.offset))=[(false,3,0),(false,23,1),(false,3,9),(false,23,10),(false,3,18)]:=by kernel_rfl
def sK(d:Nat)(xs ys:Array Value):List (Bool×TypeId×Nat)->Sem Bool
 | []=>pure true
 | (u,t,o)::r=>if u=true then sK d xs ys r else do
   let a <-part t xs o
   let b <-part t ys o
   let e <-Op.equalIn d t a b
   if (!e)=true then pure false else sK d xs ys r
theorem Fx(d:Nat)(xs ys:Array Value)(fs:List Field):Op.eqFields d xs ys fs=sK d xs ys (fs.map (fun f=>(f.name == "_",f.type,f.offset))):=by
 induction fs with
 | nil=>rfl
 | cons f r ih =>
  unfold Op.eqFields;simp only[List.map_cons,sK];by_cases h:f.name = "_"
  ·rw[if_neg (by simpa using h),if_pos (by simpa using h),ih]
  ·rw[if_pos (by simpa using h),if_neg (by simpa using h)];simp only[ih]
theorem Fy(n:Nat)(a b:List Int)(w:World):(Op.equalIn (n+3) 89 (.agg (ak a)) (.agg (ak b))).run prog w=.ok (iV a b) w:=by rw[show n+3=(n+2)+1 from rfl,run_equalIn_struct w (n+2) _ _ _ (by kernel_rfl) (by kernel_rfl),Fx,Nz];unfold iV;simp only[sK,Sem.run_bind,Nt,Nu,Nv,Nw,Ny,Fv,Fw,Result.andThen_ok,Bool.false_eq_true,if_false,Sem.run_ite,Sem.run_pure];cases el a 0 == el b 0<;>cases dn (cli a) (cli b)<;>cases el a 9 == el b 9<;>cases dn (dst a) (dst b)<;>cases el a 18 == el b 18<;>rfl
theorem Fz(a b:List Int)(w:World):(Op.equalIn 10000 89 (.agg (ak a)) (.agg (ak b))).run prog w=.ok (iV a b) w:=Fy 9997 a b w
def FB(x y:Value):Sem Bool:=Op.equalIn 10000 89 x y
theorem NA(x y:Value):Op.equalIn 10000 89 x y=FB x y:=rfl
theorem NC(a b:List Int)(w:World):(FB (.agg (ak a)) (.agg (ak b))).run prog w=.ok (iV a b) w:=Fz a b w
end
section
variable {f:List Int}
def hd(k:Int):List Int:=[13,10,13,10,0,13,10,81,85,73,84,10,33,k,0,36]
def kd(f:List Int):Int:=if el f 0=17 then 34 else 33
def lF(f:List Int):List Int:=[el f 9/256,el f 9%256,el f 18/256,el f 18%256]
def hb(f:List Int):List Int:=hd (kd f)++aS (cli f) 8++aS (dst f) 8++lF f
theorem zx(f:List Int):(hb f).length=52:=rfl
theorem AB(h:aW f=true):el f 0=6∨el f 0=17:=by unfold aW at h;simp only[Bool.and_eq_true,Bool.or_eq_true,beq_iff_eq] at h;exact h.1.1.1.1
theorem AJ(h:aW f=true):aH (cli f)∧aH (dst f):=by unfold aW at h;simp only[Bool.and_eq_true,Bool.or_eq_true,beq_iff_eq] at h;exact⟨(fE _).1 h.1.1.1.2,(fE _).1 h.1.1.2⟩
theorem xC{z:List Int}(h:aH z):∀k,k<=8->SM.Oct (aS z k)
 | 0,_=>SM.kZ
 | k+1,hk=>by
  rw[mV];refine SM.jl _ _ (xC h k (by omega)) fun j=>?_
  have:=h k (by omega);obtain⟨h0,h1⟩:=this;rcases (by omega:j=0∨j=1∨2<=j) with rfl|rfl|hj
  ·show 0<=el z k/256∧el z k/256<=255;omega
  ·show 0<=el z k%256∧el z k%256<=255;omega
  ·rw[List.getD_eq_getElem?_getD,List.getElem?_eq_none (by simpa using hj)];exact⟨by simp,by simp⟩
theorem rY{k:Int}(h0:0<=k)(h1:k<=255):SM.Oct (hd k):=by
 intro j;by_cases hj:j<16
 ·rcases (by omega:j=0∨j=1∨j=2∨j=3∨j=4∨j=5∨j=6∨j=7∨j=8∨j=9∨j=10∨j=11∨j=12∨j=13∨j=14∨j=15) with rfl|rfl|rfl|rfl|rfl|rfl|rfl|rfl|rfl|rfl|rfl|rfl|rfl|rfl|rfl|rfl;all_goals first|exact⟨h0,h1⟩|(constructor<;>simp[hd])
 ·rw[List.getD_eq_getElem?_getD,List.getElem?_eq_none (by show 16<=j;omega)];exact⟨by simp,by simp⟩
theorem FC(h:aW f=true):SM.Oct (lF f):=by
 have b:=ny h 9 (by omega);have a:=ny h 18 (by omega);intro j;by_cases hj:j<4
 ·rcases (by omega:j=0∨j=1∨j=2∨j=3) with rfl|rfl|rfl|rfl
  ·show 0<=el f 9/256∧el f 9/256<=255;omega
  ·show 0<=el f 9%256∧el f 9%256<=255;omega
  ·show 0<=el f 18/256∧el f 18/256<=255;omega
  ·show 0<=el f 18%256∧el f 18%256<=255;omega
 ·rw[List.getD_eq_getElem?_getD,List.getElem?_eq_none (by show 4<=j;omega)];exact⟨by simp,by simp⟩
theorem FD(f:List Int):0<=kd f∧kd f<=255:=by unfold kd;split<;>omega
end
section
attribute [local go_sem ↓] Go.wp_at_zero Go.wp_at_succ
theorem AL{w:World}{ops:Array Oper}{o:Oper}{a:Act}{K:Act->World->Prop}{Q:Exit->Act->World->Prop}{E:Prop}(hgd:o.guard=none)(s x:Operand)(ho:o.op=.call { callee:=.builtin .append,args:=#[s,x],argTypes:=#[37,37] })(base:Nat)(v:Value)(xs:List Value)(hs:a.eval s=v)(hown:bJ 5 base w v xs)(B m:Nat)(ys:List Value)(hx:a.eval x=.slice (some ⟨B,0,none⟩) m m)(hm:ys.length=m)(hc:∀(j:Nat)u,ys[j]? = some u->w.cell? ⟨B,j,none⟩=some u)(h1:∀u∈ys,u.oneCell'=true)(hlen:xs.length+m<=4000000)(hbase:base<=w.heap.size)(h:∀v' w',bJ 5 base w' v' (xs++ys)->w.grownBy w' v.ownBlock->K (a.put o.dst v') w'):if Region.wanted o (yielded ops a.tmps)=true then Oper.wp prog o a w K Q else E:=by
 have f:Region.wanted o (yielded ops a.tmps)=true:=by simp[Region.wanted,hgd]
 rw[if_pos f];obtain⟨g,i,b,d,e⟩:=info_parts infoByte;refine wp_append_own w s x 37 ho base 5 g (.int .u8 0) 1 1 underlying37 i b d e rfl (by decide) v xs.length xs hs hown ⟨B,0,none⟩ m m ys hx (by omega) ?_ h1 (by unfold maxLen;omega) (by omega) hbase ?_
 ·intro j u k;rw[jQ,Nat.zero_add];exact hc j u k
 ·intro v' w' l n _;refine h v' w' ?_ n;unfold bJ;rw[List.length_append,hm];exact l
theorem qL(z:List Int)(w:World)(hz:aH z):Calls prog 69 #[six z] w fun e w'=>∃v,e=.returned v∧bJ 5 (w.heap.size+1) w' v (dG (aS z 8))∧Below w.heap.size w w':=by
 have q:=iT z w;have r:Below w.heap.size w (w.alloc (.cells #[.int .i64 (el z 0),.int .i64 (el z 1),.int .i64 (el z 2),.int .i64 (el z 3),.int .i64 (el z 4),.int .i64 (el z 5),.int .i64 (el z 6),.int .i64 (el z 7)] 23)):=(Below.refl _ _).alloc (Nat.le_refl _) _;have g:w.heap.size+1<=(w.alloc (.cells #[.int .i64 (el z 0),.int .i64 (el z 1),.int .i64 (el z 2),.int .i64 (el z 3),.int .i64 (el z 4),.int .i64 (el z 5),.int .i64 (el z 6),.int .i64 (el z 7)] 23)).heap.size:=by simp
 unfold six;go_enter func69,ntmps69;go_wp2;generalize w.alloc (.cells #[.int .i64 (el z 0),.int .i64 (el z 1),.int .i64 (el z 2),.int .i64 (el z 3),.int .i64 (el z 4),.int .i64 (el z 5),.int .i64 (el z 6),.int .i64 (el z 7)] 23)=W at q r g⊢;go_loopw [3,4] (fun v i wr=>∃k:Nat,k<=8∧i=.int .i64 k∧Hid (bJ 5 (w.heap.size+1) wr v (dG (aS z k)))∧Hid (aP w.heap.size z wr)∧Hid (Below (w.heap.size+1) W wr)) (fun _ i _=>8-(intOf i).toNat)
 case atStart=>exact⟨0,by omega,rfl,bJ.nil _ _ _,q,Below.refl _ _⟩
 case round =>
  obtain⟨k,K,rfl,s,h,o⟩:=hrel;by_cases hlt:k<8
  ·have t:=(h.o.facts k hlt).1;have y:=hz k hlt;have A:=ki (mV z k);have B:=ki (show(dG (aS z k)).length=2*k by unfold dG;rw[List.length_map,eD z k]);generalize el z k=x at t y A;obtain⟨l,J⟩:=y;have b:w.heap.size+1<=wr.heap.size:=Nat.le_trans g o.o.size;have L:IntKind.i64.wrap (x.tdiv 256)=x/256:=by rw[Int.tdiv_eq_ediv_of_nonneg l,IntKind.wrap_i64];omega
   have M:IntKind.u8.wrap (x/256)=x/256:=by rw[IntKind.wrap_u8];omega
   have N:x.tmod 256=x%256:=Int.tmod_eq_emod_of_nonneg l;have O:IntKind.u8.wrap (x%256)=x%256:=by rw[IntKind.wrap_u8];omega
   have a:Below wr.heap.size wr (wr.alloc (.cells #[.int .u8 (x/256),.int .u8 (x%256)] 5)).drew:=((Below.refl _ _).alloc (Nat.le_refl _) _).drew;have d:=ki (s.o.kept a);have C:=ki (o.o.trans (a.mono b));have f:=ki (h.o.kept a);have I:=ki (show ∀(j:Nat)u,[Value.int .u8 (x/256),Value.int .u8 (x%256)][j]? = some u->(wr.alloc (.cells #[.int .u8 (x/256),.int .u8 (x%256)] 5)).drew.cell? ⟨wr.heap.size,j,none⟩=some u from fun j u hu=>by match j with|0=>simp at hu;subst hu;simp|1=>simp at hu;subst hu;simp|j+2=>simp at hu);have D:=ki (show(dG (aS z k)).length+2<=4000000 by rw[B.o];omega);have E:=ki (show w.heap.size+1<=(wr.alloc (.cells #[.int .u8 (x/256),.int .u8 (x%256)] 5)).drew.heap.size from Nat.le_trans b a.size);have F:=ki (show ∀u∈[Value.int .u8 (x/256),Value.int .u8 (x%256)],u.oneCell'=true from fun u hu=>by simp at hu;rcases hu with rfl|rfl<;>rfl);go_wp2;go_region_law (refine AL rfl (.tmp 9) (.tmp 20) rfl (w.heap.size+1) _ (dG (aS z k)) (by simp[Act.eval]) d.o wr.heap.size 2 [.int .u8 (x/256),.int .u8 (x%256)] (by simp[Act.eval]) rfl I.o F.o D.o E.o ?_;intro P w' G n)
   all_goals
    have H:=ki (C.o.grown n (Nat.le_trans b a.size) (d.o.base));have p:=ki (show aP w.heap.size z w' from(n.block _ f.o.lt (fun e=>by have:=d.o.base _ e.symm;omega)).trans f.o);go_wp2_with fail
    go_roundw
    case rel =>refine⟨k+1,by omega,by go_num,?_,p,H⟩;rw[A.o];unfold dG;rw[List.map_append];exact G
    case measure=>simp[intOf];omega
  ·obtain rfl:k=8:=by omega
   go_wp2;go_ret;exact⟨_,rfl,s.o,r.trans (o.o.mono (Nat.le_succ _))⟩
end
section
variable {f zs:List Int}{B:Nat}{W w:World}
theorem Own.of{base:Nat}{v:Value}(ho:SM.Oct zs)(h:bJ 5 base w v (dG zs)):Own base w v zs:=by refine⟨ho,?_⟩;have a:w.ownsRow base 5 1 v (dG zs).length (dG zs):=h;unfold dG at a;rw[List.length_map] at a;exact a
def hsl(ps:Array (Nat×Value)):Sem Value:=Instr.buildSlice 37 16 ps
theorem ND(ps:Array (Nat×Value)):Instr.buildSlice 37 16 ps=hsl ps:=rfl
theorem NG(w:World):(hsl #[(0,.int .u8 13),(1,.int .u8 10),(2,.int .u8 13),(3,.int .u8 10),(4,.int .u8 0),(5,.int .u8 13),(6,.int .u8 10),(7,.int .u8 81),(8,.int .u8 85),(9,.int .u8 73),(10,.int .u8 84),(11,.int .u8 10),(12,.int .u8 33),(13,.int .u8 33),(14,.int .u8 0),(15,.int .u8 36)]).run prog w=.ok (.slice (some ⟨w.heap.size,0,none⟩) 16 16) (w.alloc (.cells ((hd 33).map (Value.int .u8)).toArray 5)):=by kernel_rfl
def AO(ps:Array (Nat×Value)):Sem Value:=Instr.buildSlice 37 4 ps
theorem FE(ps:Array (Nat×Value)):Instr.buildSlice 37 4 ps=AO ps:=rfl
theorem AP(f:List Int)(w:World):(AO #[(0,.int .u8 (el f 9/256)),(1,.int .u8 (el f 9%256)),(2,.int .u8 (el f 18/256)),(3,.int .u8 (el f 18%256))]).run prog w=.ok (.slice (some ⟨w.heap.size,0,none⟩) 4 4) (w.alloc (.cells ((lF f).map (Value.int .u8)).toArray 5)):=by kernel_rfl
theorem FH{ops:Array Oper}{rest:List Oper}{o:Oper}{a:Act}{Q:Exit->Act->World->Prop}(hgd:o.guard=none)(s x:Operand)(ho:o.op=.call { callee:=.builtin .append,args:=#[s,x],argTypes:=#[37,37] })(g off n cap:Nat)(zs:List Int)(hs:a.eval s=.slice (some ⟨g,off,none⟩) n cap)(hr:aj w (some ⟨g,off,none⟩) n cap zs)(ao:Option Addr)(len c:Nat)(ys:List Int)(hx:a.eval x=.slice ao len c)(hrow:aj w ao len c ys)(hfull:cap<n+len)(hp:0<len)(hlen:n+len<=1000000000)(h:∀v' w',Own w.heap.size w' v' (zs++ys)->w.grownBy w' none->wpList prog ops Q rest (a.put o.dst v') w'):wpList prog ops Q (o::rest) a w:=by
 obtain⟨t,v,k,l,p⟩:=info_parts infoByte;obtain⟨q,G,y,H,z⟩:=hr;obtain⟨r1,I,A,J,B⟩:=hrow;obtain⟨C,f,rfl,r⟩:=B hp;refine wpList_append_grows w hgd s x 37 ho 5 t (.int .u8 0) 1 1 underlying37 v k l p rfl (by decide) (some ⟨g,off,none⟩) n cap (zs.map (Value.int .u8)) hs (fun e=>by cases e) (by simp[q]) ?_ ⟨C,f,none⟩ len c (ys.map (Value.int .u8)) hx (by simp[r1]) ?_ (ints_oneCell .u8 ys) hfull (by unfold maxLen;omega) (by omega) ?_
 ·intro b e j u d;cases e;have i:j<zs.length:=by have:=(List.getElem?_eq_some_iff.1 d).1;simpa using this
  obtain⟨K,L,D,hc⟩:=z (by omega);cases D;rw[jQ,hc j (by omega)];rw[List.getElem?_map] at d;simp[i] at d⊢;exact d
 ·intro j u d;have i:j<ys.length:=by have:=(List.getElem?_eq_some_iff.1 d).1;simpa using this
  rw[jQ,r j (by omega)];rw[List.getElem?_map] at d;simp[i] at d⊢;exact d
 ·intro v' w' E F;refine h v' w' ⟨SM.jl _ _ y A,?_⟩ F;rw[List.map_append,List.length_append,q,r1];exact E
def iM(B:Nat)(zs:List Int)(w:World):Prop:=w.heap[B]? = some (.cells (zs.map (Value.int .u8)).toArray 5 (16,17))
theorem NH(w:World)(zs:List Int):iM w.heap.size zs (w.alloc (.cells (zs.map (Value.int .u8)).toArray 5 (16,17))):=heap_alloc_new w _
theorem iM.lt(h:iM B zs w):B<w.heap.size:=(Array.getElem?_eq_some_iff.1 h).1
theorem iM.kept{w':World}(h:iM B zs w)(hb:Below w.heap.size w w'):iM B zs w':=(hb.block B h.lt).trans h
theorem iM.cell(h:iM B zs w)(j:Nat)(hj:j<zs.length):w.cell? ⟨B,j,none⟩=some (.int .u8 (zs.getD j 0)):=by unfold iM at h;simp[World.cell?,h,hj]
theorem iM.frozen(h:iM B zs w)(j:Nat)(hj:j<16):w.frozen? ⟨B,j,none⟩=false:=by unfold iM at h;simp[World.frozen?,h];omega
theorem iM.set(h:iM B zs w)(j:Nat)(v:Int):iM B (zs.set j v) (w.setCell ⟨B,j,none⟩ (.int .u8 v)):=by unfold iM at h⊢;rw[setCell_eq_setRow w B j _ 5 (16,17) (.int .u8 v) h,setRow_heap w B _ _ 5 (16,17) h];simp[List.map_set]
theorem iM.dw(h:iM B zs w)(ho:SM.Oct zs)(n cap:Nat)(hn:zs.length=n)(hm:n<=maxLen):aj w (some ⟨B,0,none⟩) n cap zs :=
 ⟨hn,hm,ho,(fun e=>by cases e),fun _=>⟨B,0,rfl,fun i hi=>by rw[Nat.zero_add];exact h.cell i (by omega)⟩⟩
def HI(w:World)(f:List Int)(W:World):Prop:=bn w.heap.size f W∧Below w.heap.size w W
theorem HI.kept{W':World}(h:HI w f W)(hb:Below W.heap.size W W'):HI w f W':=⟨h.1.kept hb,bt h.2 hb⟩
theorem HI.gr{W':World}(h:HI w f W){row:Option Nat}(hg:W.grownBy W' row)(hv:∀k,row=some k->w.heap.size+1<=k):HI w f W':=by have hs:w.heap.size<W.heap.size:=h.1.lt;refine⟨?_,h.2.grown hg h.2.size (fun k e=>by have:=hv k e;omega)⟩;show W'.heap[w.heap.size]? = _;rw[hg.block w.heap.size hs (fun e=>by have:=hv _ e.symm;omega)];exact h.1
theorem HI.set(h:HI w f W)(hB:w.heap.size<B)(j:Nat)(v:Value):HI w f (W.setCell ⟨B,j,none⟩ v) :=
 ⟨(((Below.refl B W).setCell (p:=⟨B,j,none⟩) (Nat.le_refl _) v).block w.heap.size hB).trans h.1,h.2.setCell (p:=⟨B,j,none⟩) (Nat.le_of_lt hB) v⟩
theorem Own.bl{base:Nat}{v:Value}(h:Own base w v zs):∀k,v.ownBlock=some k->base<=k:=by
 intro k e;rcases h.2.2 with⟨rfl,_⟩|⟨g,cap,cur,rfl,hb,_⟩
 ·simp[Value.ownBlock] at e
 ·have:g=k:=by simpa [Value.ownBlock] using e
  omega
attribute [local go_sem ↓] gy ND FE
theorem KD(f:List Int)(w:World)(ho:aW f=true): Calls prog 37 #[.agg (ak f)] w fun e w'=>∃v,e=.returned v∧Own (w.heap.size+1) w' v (hb f)∧Below w.heap.size w w':=by
 have x:=ki (show HI w f (w.alloc (.cells (ak f) 89)) from⟨iC f w,au _ _⟩);have bW:=AB ho;have I:=ki (AJ ho);have T:=ny ho 9 (by omega);have J:=ny ho 18 (by omega);have hs:=NG;have U:=ki (show hb f=hd (kd f)++aS (cli f) 8++aS (dst f) 8++lF f from rfl);have V:=ki (xC I.o.1 8 (Nat.le_refl _));have X:=ki (xC I.o.2 8 (Nat.le_refl _));have Y:=ki (FC ho);have K:=ki (eD (cli f) 8);have L:=ki (eD (dst f) 8);have Z:=ki (fun W=>qL (cli f) W I.o.1);have aa:=ki (fun W=>qL (dst f) W I.o.2);clear ho;go_enter func37,ntmps37;go_upto_region 1 with fail
 generalize w.alloc _=W at x⊢;have kc:=fun (w:World) (C:Array Value) (n c:Nat)=>Lib.run_convert_bytes_const (P:=prog) w 37 5 C n c underlying37 underlying5
 go_upto_region 2 with fail
 have ab:=ki (show w.heap.size<W.heap.size from x.o.1.lt);have b:=ki (show iM W.heap.size (hd 33) (W.alloc (.cells ((hd 33).map (Value.int .u8)).toArray 5 ((hd 33).length,(hd 33).length+1))) from NH W (hd 33));replace x:=ki (x.o.kept (au W (.cells ((hd 33).map (Value.int .u8)).toArray 5 ((hd 33).length,(hd 33).length+1))));clear kc;generalize W.alloc _=W1 at x b⊢;generalize W.heap.size=B at ab b⊢;have c0:=x.o.1.cell 0 (by omega);have y:=ki (show ∀k,(hd k++aS (cli f) 8).length+2*8<=1000000000 from fun k=>by rw[List.length_append,K.o];show 16+_+_<=_;omega);have z:=ki (show ∀k,(hd k++aS (cli f) 8++aS (dst f) 8).length+4<=1000000000 from fun k=>by rw[List.length_append,List.length_append,K.o,L.o];show 16+_+_+_<=_;omega);rcases bW with h6|eG
 ·have M:=ki (show kd f=33 by unfold kd;rw[h6];rfl);rw[h6] at c0;clear h6;replace y:=ki (y.o 33);replace z:=ki (z.o 33);go_upto_region 4 with fail
  clear c0 hs;have N:=ki (rY (k:=33) (by decide) (by decide));have a:=x;clear x;have F:=a.o.1.hc;go_upto_region 5 with(first|(go_at_call 69;refine(Z.o _).mono ?_;rintro r w3 ⟨v3,rfl,A,i⟩;replace A:=ki (Own.of V.o A);replace a:=ki (a.o.kept i);replace b:=ki (b.o.kept i);clear i F;obtain⟨a3,c3,rfl,l,-⟩:=A.o.dw;replace l:=ki l;rw[K.o] at l⊢)|(at_builtin;(with_reducible refine FH rfl (.tmp 11) (.tmp 14) rfl B 0 16 16 (hd 33) rfl (b.o.dw N.o 16 16 rfl (by decide)) a3 (2*8) c3 (aS (cli f) 8) rfl l.o (by decide) (by decide) (by decide) ?_);intro v4 w4 o4 g4;replace o4:=ki (o4.mono (show w.heap.size+1<=w3.heap.size from a.o.1.lt));replace a:=ki (a.o.gr g4 (fun k e=>by cases e));clear g4 b l A))
  have F:=a.o.1.hd;go_upto_region 6 with(first|(go_at_call 69;refine(aa.o _).mono ?_;rintro r w5 ⟨v5,rfl,D,o⟩;replace D:=ki (Own.of X.o D);replace a:=ki (a.o.kept o);replace o4:=ki (o4.o.kept o);clear o F;obtain⟨a5,c5,rfl,q,-⟩:=D.o.dw;replace q:=ki q;rw[L.o] at q⊢;have g:=ki (show w.heap.size+1<=w5.heap.size from a.o.1.lt))|(at_builtin;(with_reducible refine lX rfl (.tmp 16) (.tmp 19) rfl (w.heap.size+1) v4 (hd 33++aS (cli f) 8) rfl o4.o a5 (2*8) c5 (aS (dst f) 8) rfl q.o y.o g.o ?_);intro v6 E o6 g6;replace a:=ki (a.o.gr g6 o4.o.bl);replace o6:=ki o6;clear g6 o4 q D g))
  have c9:=a.o.1.cell 9 (by omega);have c18:=a.o.1.cell 18 (by omega);have h:=ki (au E (.cells ((lF f).map (Value.int .u8)).toArray 5));have s:=ki (a.o.kept h.o);have t:=ki (o6.o.kept h.o);have O:=ki ((qB E (lF f)).dw Y.o 4 4 rfl (by decide));have g:=ki (Nat.le_trans (show w.heap.size+1<=E.heap.size from a.o.1.lt) h.o.size);clear h;have hl:=AP f;generalize el f 9=p at T c9 hl;generalize el f 18=d at J c18 hl;obtain⟨Q,p1⟩:=T;obtain⟨R,d1⟩:=J;have q1:IntKind.i64.wrap (p.tdiv 256)=p/256:=by rw[Int.tdiv_eq_ediv_of_nonneg Q,IntKind.wrap_i64];omega
  have q2:IntKind.u8.wrap (p/256)=p/256:=by rw[IntKind.wrap_u8];omega
  have q3:p.tmod 256=p%256:=Int.tmod_eq_emod_of_nonneg Q;have q4:IntKind.u8.wrap (p%256)=p%256:=by rw[IntKind.wrap_u8];omega
  have q5:IntKind.i64.wrap (d.tdiv 256)=d/256:=by rw[Int.tdiv_eq_ediv_of_nonneg R,IntKind.wrap_i64];omega
  have q6:IntKind.u8.wrap (d/256)=d/256:=by rw[IntKind.wrap_u8];omega
  have q7:d.tmod 256=d%256:=Int.tmod_eq_emod_of_nonneg R;have AQ:IntKind.u8.wrap (d%256)=d%256:=by rw[IntKind.wrap_u8];omega
  go_wp2_with (at_builtin;(with_reducible refine lX rfl (.tmp 21) (.tmp 38) rfl (w.heap.size+1) v6 (hd 33++aS (cli f) 8++aS (dst f) 8) rfl t.o (some ⟨E.heap.size,0,none⟩) 4 4 (lF f) rfl O.o z.o g.o ?_);intro v7 w7 G S;replace s:=ki (s.o.gr S t.o.bl);replace G:=ki G;clear S t O)
  go_ret;refine⟨_,rfl,?_,s.o.2⟩;rw[U.o,M.o];exact G.o
 ·have M:=ki (show kd f=34 by unfold kd;rw[eG];rfl);rw[eG] at c0;clear eG;replace y:=ki (y.o 34);replace z:=ki (z.o 34);have am:=b.o.cell 13 (by decide);have an:=b.o.frozen 13 (by decide);have H:=ki (b.o.set 13 34);have a:=ki (x.o.set ab.o 13 (.int .u8 34));go_upto_region 4 with fail
  clear c0 am an hs b x;generalize W1.setCell _ _=W2 at H a⊢;have N:=ki (rY (k:=34) (by decide) (by decide));have b:=ki (show iM B (hd 34) W2 from H.o);clear H;have F:=a.o.1.hc;go_upto_region 5 with(first|(go_at_call 69;refine(Z.o _).mono ?_;rintro r w3 ⟨v3,rfl,A,i⟩;replace A:=ki (Own.of V.o A);replace a:=ki (a.o.kept i);replace b:=ki (b.o.kept i);clear i F;obtain⟨a3,c3,rfl,l,-⟩:=A.o.dw;replace l:=ki l;rw[K.o] at l⊢)|(at_builtin;(with_reducible refine FH rfl (.tmp 11) (.tmp 14) rfl B 0 16 16 (hd 34) rfl (b.o.dw N.o 16 16 rfl (by decide)) a3 (2*8) c3 (aS (cli f) 8) rfl l.o (by decide) (by decide) (by decide) ?_);intro v4 w4 o4 g4;replace o4:=ki (o4.mono (show w.heap.size+1<=w3.heap.size from a.o.1.lt));replace a:=ki (a.o.gr g4 (fun k e=>by cases e));clear g4 b l A))
  have F:=a.o.1.hd;go_upto_region 6 with(first|(go_at_call 69;refine(aa.o _).mono ?_;rintro r w5 ⟨v5,rfl,D,o⟩;replace D:=ki (Own.of X.o D);replace a:=ki (a.o.kept o);replace o4:=ki (o4.o.kept o);clear o F;obtain⟨a5,c5,rfl,q,-⟩:=D.o.dw;replace q:=ki q;rw[L.o] at q⊢;have g:=ki (show w.heap.size+1<=w5.heap.size from a.o.1.lt))|(at_builtin;(with_reducible refine lX rfl (.tmp 16) (.tmp 19) rfl (w.heap.size+1) v4 (hd 34++aS (cli f) 8) rfl o4.o a5 (2*8) c5 (aS (dst f) 8) rfl q.o y.o g.o ?_);intro v6 E o6 g6;replace a:=ki (a.o.gr g6 o4.o.bl);replace o6:=ki o6;clear g6 o4 q D g))
  have c9:=a.o.1.cell 9 (by omega);have c18:=a.o.1.cell 18 (by omega);have h:=ki (au E (.cells ((lF f).map (Value.int .u8)).toArray 5));have s:=ki (a.o.kept h.o);have t:=ki (o6.o.kept h.o);have O:=ki ((qB E (lF f)).dw Y.o 4 4 rfl (by decide));have g:=ki (Nat.le_trans (show w.heap.size+1<=E.heap.size from a.o.1.lt) h.o.size);clear h;have hl:=AP f;generalize el f 9=p at T c9 hl;generalize el f 18=d at J c18 hl;obtain⟨Q,p1⟩:=T;obtain⟨R,d1⟩:=J;have q1:IntKind.i64.wrap (p.tdiv 256)=p/256:=by rw[Int.tdiv_eq_ediv_of_nonneg Q,IntKind.wrap_i64];omega
  have q2:IntKind.u8.wrap (p/256)=p/256:=by rw[IntKind.wrap_u8];omega
  have q3:p.tmod 256=p%256:=Int.tmod_eq_emod_of_nonneg Q;have q4:IntKind.u8.wrap (p%256)=p%256:=by rw[IntKind.wrap_u8];omega
  have q5:IntKind.i64.wrap (d.tdiv 256)=d/256:=by rw[Int.tdiv_eq_ediv_of_nonneg R,IntKind.wrap_i64];omega
  have q6:IntKind.u8.wrap (d/256)=d/256:=by rw[IntKind.wrap_u8];omega
  have q7:d.tmod 256=d%256:=Int.tmod_eq_emod_of_nonneg R;have AQ:IntKind.u8.wrap (d%256)=d%256:=by rw[IntKind.wrap_u8];omega
  go_wp2_with (at_builtin;(with_reducible refine lX rfl (.tmp 21) (.tmp 38) rfl (w.heap.size+1) v6 (hd 34++aS (cli f) 8++aS (dst f) 8) rfl t.o (some ⟨E.heap.size,0,none⟩) 4 4 (lF f) rfl O.o z.o g.o ?_);intro v7 w7 G S;replace s:=ki (s.o.gr S t.o.bl);replace G:=ki G;clear S t O)
  go_ret;refine⟨_,rfl,?_,s.o.2⟩;rw[U.o,M.o];exact G.o
end
section
def NI:Prop:=∀(f:List Int)(w:World),Calls prog 201 #[.agg (ak f)] w fun e w'=>∃v,e=.returned (.tuple #[v,ev (fe (aW f))])∧(aW f=true->Own w.heap.size w' v (hb f))∧(aW f=false->v=.slice none 0 0)∧Below w.heap.size w w'
end
section
def h12:List Int:=[13,10,13,10,0,13,10,81,85,73,84,10]
theorem NJ:SM.Oct h12:=by
 intro j;by_cases hj:j<12
 ·rcases (by omega:j=0∨j=1∨j=2∨j=3∨j=4∨j=5∨j=6∨j=7∨j=8∨j=9∨j=10∨j=11) with rfl|rfl|rfl|rfl|rfl|rfl|rfl|rfl|rfl|rfl|rfl|rfl<;>decide
 ·rw[List.getD_eq_getElem?_getD,List.getElem?_eq_none (by show 12<=j;omega)];exact⟨by simp,by simp⟩
def h4(k:Int):List Int:=[33,k,0,36]
theorem NK{k:Int}(h0:0<=k)(h1:k<=255):SM.Oct (h4 k):=by
 intro j;by_cases hj:j<4
 ·rcases (by omega:j=0∨j=1∨j=2∨j=3) with rfl|rfl|rfl|rfl;all_goals first|exact⟨h0,h1⟩|(constructor<;>simp[h4])
 ·rw[List.getD_eq_getElem?_getD,List.getElem?_eq_none (by show 4<=j;omega)];exact⟨by simp,by simp⟩
def xD:ByteArray:={ data:=#[13,10,13,10,0,13,10,81,85,73,84,10] }
theorem NM:Lib.strCells xD=h12.map (Value.int .u8):=by kernel_rfl
theorem NP{w:World}{ops:Array Oper}{rest:List Oper}{o:Oper}{a:Act}{Q:Exit->Act->World->Prop}(hgd:o.guard=none)(s x:Operand)(ho:o.op=.call { callee:=.builtin .append,args:=#[s,x],argTypes:=#[37,9] }){W0:World}{v:Value}(hs:a.eval s=v)(hg:bN W0 w v [])(hx:a.eval x=.string xD)(h:∀v' w',bN W0 w' v' h12->wpList prog ops Q rest (a.put o.dst v') w'):wpList prog ops Q (o::rest) a w:=by obtain⟨i,l,b,d,f⟩:=info_parts infoByte;refine Lib.wpList_append_own_string w hgd s x 37 9 ho W0.heap.size 5 i underlying37 underlying9 l b d f v 0 [] hs hg.1.2 xD hx (by decide) (by decide) hg.2.size ?_;intro v' w' g n _;refine h v' w' ⟨⟨NJ,?_⟩,hg.2.grown n hg.2.size (fun k e=>(hg.1.2.lt k e).1)⟩;rw[NM] at g;exact g
theorem NQ(f:List Int)(w:World):Calls prog 252 #[.int .i64 (el f 0)] w fun e w'=>e=.returned (.int .u8 (kd f))∧w'=w:=by
 by_cases h:el f 0=17
 ·rw[show kd f=34 by unfold kd;rw[if_pos h],h];go_enter func252,ntmps252;go_wp2;go_ret;exact⟨rfl,rfl⟩
 ·rw[show kd f=33 by unfold kd;rw[if_neg h]];have a:(el f 0 == 17)=false:=by simpa using h
  generalize el f 0=k at h a;go_enter func252,ntmps252;go_wp2;go_ret;exact⟨rfl,rfl⟩
theorem NR(k:Int)(w:World):(AO #[(0,.int .u8 33),(1,.int .u8 k),(2,.int .u8 0),(3,.int .u8 36)]).run prog w=.ok (.slice (some ⟨w.heap.size,0,none⟩) 4 4) (w.alloc (.cells ((h4 k).map (Value.int .u8)).toArray 5)):=by kernel_rfl
theorem FI(z:List Int)(w:World)(hz:aH z):Calls prog 126 #[.agg (av z)] w fun e w'=>∃a c,e=.returned (.tuple #[.slice a 16 c,.nilIface])∧aj w' a 16 c (aS z 8)∧Below w.heap.size w w':=by refine(o8 z w hz).mono ?_;rintro e w' ⟨v,rfl,d,hb⟩;obtain⟨a,c,rfl,b,_⟩:=(Own.of (xC hz 8 (Nat.le_refl _)) d).dw;rw[eD] at b;exact⟨a,c,by rw[eD],b,hb⟩
attribute [local go_sem ↓] gy FE gP
theorem NS(f:List Int)(w:World)(ho:aW f=false): Calls prog 201 #[.agg (ak f)] w fun e w'=>e=.returned (.tuple #[.slice none 0 0,err 1])∧Below w.heap.size w w':=by
 have a:=ki (show HI w f (w.alloc (.cells (ak f) 89)) from⟨iC f w,au _ _⟩);have d:=ki (fun W=>om f W);rw[ho,show ev (fe false)=err 1 from rfl] at d;unfold err at d;clear ho;go_enter func201,ntmps201;go_upto_region 1 with fail
 generalize w.alloc _=W at a⊢;have g:=a.o.1.fl;go_wp2_with (go_at_call 199;(with_reducible refine(d.o _).mono ?_);rintro e h ⟨rfl,b⟩;replace a:=ki (a.o.kept b);clear b g)
 go_ret2;exact⟨rfl,a.o.2⟩
theorem NT(f:List Int)(w:World)(ho:aW f=true): Calls prog 201 #[.agg (ak f)] w fun e w'=>∃v,e=.returned (.tuple #[v,.nilIface])∧Own w.heap.size w' v (hb f)∧Below w.heap.size w w':=by
 have a:=ki (show HI w f (w.alloc (.cells (ak f) 89)) from⟨iC f w,au _ _⟩);have F:=ki (fun W=>om f W);rw[ho,show ev (fe true)=.nilIface from rfl] at F;have G:=ki (fun W=>FI (cli f) W (AJ ho).1);have H:=ki (fun W=>FI (dst f) W (AJ ho).2);have x:=ki (fun W=>NQ f W);have I:=NR (kd f);have J:=ki (NK (FD f).1 (FD f).2);have K:=ny ho 9 (by omega);have y:=ny ho 18 (by omega);have L:=ki (FC ho);have hl:=AP f;have b:=ki (show hb f=(((h12++h4 (kd f))++aS (cli f) 8)++aS (dst f) 8)++lF f from rfl);have i:=ki (eD (cli f) 8);have z:=ki (eD (dst f) 8);generalize aS (cli f) 8=S at G b i;generalize aS (dst f) 8=D at H b z;generalize kd f=kk at x I J b;clear ho;go_enter func201,ntmps201;go_upto_region 1 with fail
 generalize w.alloc _=W at a⊢;have k:=a.o.1.fl;go_upto_region 4 with(go_at_call 199;(with_reducible refine(F.o _).mono ?_);rintro e Y ⟨rfl,A⟩;replace a:=ki (a.o.kept A);clear A k)
 have k:=a.o.1.hc;go_upto_region 7 with(go_at_call 126;(with_reducible refine(G.o _).mono ?_);rintro e Z ⟨a2,c2,rfl,h,B⟩;replace a:=ki (a.o.kept B);replace h:=ki h;clear B k)
 have k:=a.o.1.hd;go_upto_region 10 with(go_at_call 126;(with_reducible refine(H.o _).mono ?_);rintro e w3 ⟨a3,c3,rfl,t,l⟩;replace a:=ki (a.o.kept l);replace h:=ki (h.o.below l);replace t:=ki t;clear l k)
 clear F G H;go_upto_region 11 with(refine zM _ rfl (.const (.int .i64 0)) (.const (.int .i64 52)) rfl 52 52 rfl rfl rfl (by decide) ?_;intro b4 w4 n;replace n:=ki n)
 go_upto_region 12 with(at_builtin;(with_reducible refine NP rfl (.tmp 33) (.const (.string xD)) rfl rfl n.o rfl ?_);intro v5 w5 o;replace o:=ki o;clear n)
 have C:=ki (a.o.kept o.o.2);have c0:=C.o.1.cell 0 (by omega);go_upto_region 13 with(first|(go_at_call 252;(with_reducible refine(x.o _).mono ?_);rintro e w6 ⟨rfl,rfl⟩)|(at_builtin;(with_reducible refine gF rfl (.tmp 35) (.tmp 39) rfl rfl (o.o.below (au _ _)) rfl ((qB _ (h4 kk)).dw J.o 4 4 rfl (by decide)) (by decide) ?_);intro v7 w7 q;replace q:=ki q;clear o c0 C))
 have M:=ki (h.o.below q.o.2);have N:=ki (show(h12++h4 kk).length+16<=1000000000 by show 16+16<=_;omega);go_upto_region 14 with(at_builtin;(with_reducible refine gF rfl (.tmp 41) (.tmp 42) rfl rfl q.o rfl M.o N.o ?_);intro v8 w8 r;replace r:=ki r;clear q h M)
 have O:=ki (t.o.below r.o.2);have R:=ki (show(h12++h4 kk++S).length+16<=1000000000 by rw[List.length_append,i.o];show 16+_+_<=_;omega);go_upto_region 15 with(at_builtin;(with_reducible refine gF rfl (.tmp 44) (.tmp 45) rfl rfl r.o rfl O.o R.o ?_);intro v9 T s;replace s:=ki s;clear r t O)
 have U:=ki (show(h12++h4 kk++S++D).length+4<=1000000000 by rw[List.length_append,List.length_append,i.o,z.o];show 16+_+_+_<=_;omega);have E:=ki (a.o.kept s.o.2);have V:=E.o.1.cell 9 (by omega);have c18:=E.o.1.cell 18 (by omega);have P:=ki ((qB T (lF f)).dw L.o 4 4 rfl (by decide));generalize el f 9=p at K V hl;generalize el f 18=d at y c18 hl;obtain⟨p0,p1⟩:=K;obtain⟨d0,d1⟩:=y;have q1:IntKind.u8.wrap (p/256)=p/256:=by rw[IntKind.wrap_u8];omega
 have q2:IntKind.u8.wrap p=p%256:=by rw[IntKind.wrap_u8]
 have q3:IntKind.u8.wrap (d/256)=d/256:=by rw[IntKind.wrap_u8];omega
 have n:IntKind.u8.wrap d=d%256:=by rw[IntKind.wrap_u8]
 go_wp2_with (at_builtin;(with_reducible refine gF rfl (.tmp 47) (.tmp 62) rfl rfl (s.o.below (au _ _)) rfl P.o U.o ?_);intro Q X g;replace g:=ki g;clear s P)
 go_ret2;exact⟨Q,rfl,b.o ▸ g.o.1.mono a.o.2.size,a.o.2.trans (g.o.2.mono a.o.2.size)⟩
theorem NU:NI:=by
 intro f w;cases h:aW f
 ·refine(NS f w h).mono ?_;rintro e a ⟨rfl,hb⟩;exact⟨_,rfl,(fun e=>by cases e),fun _=>rfl,hb⟩
 ·refine(NT f w h).mono ?_;rintro e a ⟨v,rfl,b,hb⟩;exact⟨v,rfl,(fun _=>b),(fun e=>by cases e),hb⟩
end
section
def kc(c:Int):Int:=if c=33 then 6 else if c=34 then 17 else 0
end
section
def pf(zs:List Int):List Int:=kc (zs.getD 13 0)::(bf zs 16++[P4.wd zs 48]++bf zs 32++[P4.wd zs 50])
def g0(k p q:Int):List Int:=[k,0,0,0,0,0,0,0,0,p,0,0,0,0,0,0,0,0,q]
attribute [local go_sem ↓] MW gP
end
end Go.Proofs.YtgcojnlngchllaaGreatDoor
