/- When two flows are one. A flow's bytes, and the flow of bytes. The document's own BytesOf and SixAt. The document's own HeadOf. What is asked of package proxy, whatever it is made of. Package proxy: codeOf and Encode, by contracts. Package proxy: number, kindOf and read, by contracts. Package proxy: read, by a contract. -/
import Derived.Test.YtgcojnlngchllaaGreatDoorK12
import Derived.Lib.SlBytesConst
import Derived.Lib.AppendStr
namespace Go.Proofs.YtgcojnlngchllaaGreatDoor
open Go.RowKit
set_option linter.unusedVariables false
set_option maxRecDepth 100000
set_option maxHeartbeats 40000000
section
def eqz (a b:List Int):Bool:=el a 0 == el b 0 && el a 1 == el b 1 && el a 2 == el b 2 && el a 3 == el b 3 && el a 4 == el b 4 && el a 5 == el b 5 && el a 6 == el b 6 && el a 7 == el b 7
theorem eqz_iff (a b:List Int):eqz a b=true↔∀ j,j < 8→el a j=el b j:=by
 unfold eqz
 simp only[Bool.and_eq_true,beq_iff_eq]
 refine ⟨fun ⟨⟨⟨⟨⟨⟨⟨h0,h1⟩,h2⟩,h3⟩,h4⟩,h5⟩,h6⟩,h7⟩ j hj=>?_,fun h=>⟨⟨⟨⟨⟨⟨⟨h 0 (by omega),h 1 (by omega)⟩,h 2 (by omega)⟩,h 3 (by omega)⟩,h 4 (by omega)⟩,h 5 (by omega)⟩,h 6 (by omega)⟩,h 7 (by omega)⟩⟩
 rcases (by omega:j=0∨j=1∨j=2∨j=3∨j=4∨j=5∨j=6∨j=7) with rfl|rfl|rfl|rfl|rfl|rfl|rfl|rfl <;> assumption
def eqf (a b:List Int):Bool:=el a 0 == el b 0 && eqz (cli a) (cli b) && el a 9 == el b 9 && eqz (dst a) (dst b) && el a 18 == el b 18
theorem eqf_iff (a b:List Int):eqf a b=true↔flC a=flC b:=by
 unfold eqf
 simp only[Bool.and_eq_true,beq_iff_eq,eqz_iff]
 constructor
 ·rintro ⟨⟨⟨⟨g,d⟩,i⟩,l⟩,h4⟩
  have k:∀ j,j < 8→el a (1+j)=el b (1+j):=fun j hj=>by
   have:=d j hj
   rcases (by omega:j=0∨j=1∨j=2∨j=3∨j=4∨j=5∨j=6∨j=7) with rfl|rfl|rfl|rfl|rfl|rfl|rfl|rfl <;> exact this
  have f:∀ j,j < 8→el a (10+j)=el b (10+j):=fun j hj=>by
   have:=l j hj
   rcases (by omega:j=0∨j=1∨j=2∨j=3∨j=4∨j=5∨j=6∨j=7) with rfl|rfl|rfl|rfl|rfl|rfl|rfl|rfl <;> exact this
  unfold flC
  rw[g,k 0 (by omega),k 1 (by omega),k 2 (by omega),k 3 (by omega),k 4 (by omega),k 5 (by omega),k 6 (by omega),k 7 (by omega),i,f 0 (by omega),f 1 (by omega),f 2 (by omega),f 3 (by omega),f 4 (by omega),f 5 (by omega),f 6 (by omega),f 7 (by omega),h4]
 ·intro h
  have e:∀ j,j < 19→el a j=el b j:=fun j hj=>by
   have d:=flC_at a j hj
   rw[h,flC_at b j hj] at d
   injection d with d
   injection d with _ d
   exact d.symm
  refine ⟨⟨⟨⟨e 0 (by omega),fun j hj=>?_⟩,e 9 (by omega)⟩,fun j hj=>?_⟩,e 18 (by omega)⟩
  ·rw[cli_el a j hj,cli_el b j hj];exact e _ (by omega)
  ·rw[dst_el a j hj,dst_el b j hj];exact e _ (by omega)
theorem eq_aggn (n:Nat) (a b:List Int) (w:World):(Op.equalIn (n+2) 23 (.agg (sixC a)) (.agg (sixC b))).run Tryz.prog w=.ok (eqz a b) w:=by
 unfold sixC eqz
 have d:=Tryz.underlying3
 have e:=Tryz.isAgg3
 have f:=Tryz.sizeOf3
 rw[show n+2=(n+1)+1 from rfl,Op.equalIn]
 simp only[Sem.run_bind,run_underlying Tryz.underlying23,Result.andThen_ok]
 simp only[Std.Legacy.Range.forIn_eq_forIn_range',Std.Legacy.Range.size,Nat.sub_zero,Nat.add_sub_cancel,Nat.div_one,List.range'_succ,List.range'_zero,List.forIn_cons,List.forIn_nil]
 go_simp
 by_cases h0:el a 0=el b 0
 case neg=>simp[h0]
 by_cases h1:el a 1=el b 1
 case neg=>simp[h0,h1]
 by_cases h2:el a 2=el b 2
 case neg=>simp[h0,h1,h2]
 by_cases h3:el a 3=el b 3
 case neg=>simp[h0,h1,h2,h3]
 by_cases h4:el a 4=el b 4
 case neg=>simp[h0,h1,h2,h3,h4]
 by_cases h5:el a 5=el b 5
 case neg=>simp[h0,h1,h2,h3,h4,h5]
 by_cases h6:el a 6=el b 6
 case neg=>simp[h0,h1,h2,h3,h4,h5,h6]
 by_cases h7:el a 7=el b 7
 case neg=>simp[h0,h1,h2,h3,h4,h5,h6,h7]
 simp[h0,h1,h2,h3,h4,h5,h6,h7]
theorem fpart0 (f:List Int) (w:World):(part 3 (flC f) 0).run Tryz.prog w=.ok (.int .i64 (el f 0)) w:=by kernel_rfl
theorem fpart1 (f:List Int) (w:World):(part 23 (flC f) 1).run Tryz.prog w=.ok (.agg (sixC (cli f))) w:=by kernel_rfl
theorem fpart9 (f:List Int) (w:World):(part 3 (flC f) 9).run Tryz.prog w=.ok (.int .i64 (el f 9)) w:=by kernel_rfl
theorem fpart10 (f:List Int) (w:World):(part 23 (flC f) 10).run Tryz.prog w=.ok (.agg (sixC (dst f))) w:=by kernel_rfl
theorem fpart18 (f:List Int) (w:World):(part 3 (flC f) 18).run Tryz.prog w=.ok (.int .i64 (el f 18)) w:=by kernel_rfl
theorem eq_ints (n:Nat) (x y:Int) (w:World):(Op.equalIn (n+1) 3 (.int .i64 x) (.int .i64 y)).run Tryz.prog w=.ok (x == y) w:=run_equalIn_int w n 3 .i64 .i64 x y Tryz.underlying3
theorem Tryz.flowL:(Tryz.prog.fieldsOf 89).toList.map (fun f=>(f.name == "_",f.type,f.offset))=[(false,3,0),(false,23,1),(false,3,9),(false,23,10),(false,3,18)]:=by kernel_rfl
def eqL (d:Nat) (xs ys:Array Value):List (Bool×TypeId×Nat)→Sem Bool
 | []=>pure true
 | (u,t,o)::r=>if u=true then eqL d xs ys r else do
   let a ← part t xs o
   let b ← part t ys o
   let e ← Op.equalIn d t a b
   if (!e)=true then pure false else eqL d xs ys r
theorem eqL_of (d:Nat) (xs ys:Array Value) (fs:List Field):Op.eqFields d xs ys fs=eqL d xs ys (fs.map (fun f=>(f.name == "_",f.type,f.offset))):=by
 induction fs with
 | nil=>rfl
 | cons f r ih =>
  unfold Op.eqFields
  simp only[List.map_cons,eqL]
  by_cases h:f.name = "_"
  ·rw[if_neg (by simpa using h),if_pos (by simpa using h),ih]
  ·rw[if_pos (by simpa using h),if_neg (by simpa using h)]
   simp only[ih]
theorem eq_flowsn (n:Nat) (a b:List Int) (w:World):(Op.equalIn (n+3) 89 (.agg (flC a)) (.agg (flC b))).run Tryz.prog w=.ok (eqf a b) w:=by
 rw[show n+3=(n+2)+1 from rfl,run_equalIn_struct w (n+2) _ _ _ (by kernel_rfl) (by kernel_rfl),eqL_of,Tryz.flowL]
 unfold eqf
 simp only[eqL,Sem.run_bind,fpart0,fpart1,fpart9,fpart10,fpart18,eq_aggn,eq_ints,Result.andThen_ok,Bool.false_eq_true,if_false,Sem.run_ite,Sem.run_pure]
 cases el a 0 == el b 0 <;> cases eqz (cli a) (cli b) <;> cases el a 9 == el b 9 <;> cases eqz (dst a) (dst b) <;> cases el a 18 == el b 18 <;> rfl
theorem eq_flows (a b:List Int) (w:World):(Op.equalIn 10000 89 (.agg (flC a)) (.agg (flC b))).run Tryz.prog w=.ok (eqf a b) w:=eq_flowsn 9997 a b w
def feq (x y:Value):Sem Bool:=Op.equalIn 10000 89 x y
theorem feq_shut (x y:Value):Op.equalIn 10000 89 x y=feq x y:=rfl
end
section
variable {f:List Int}
def hd (k:Int):List Int:=[13,10,13,10,0,13,10,81,85,73,84,10,33,k,0,36]
def kd (f:List Int):Int:=if el f 0=17 then 34 else 33
def lst (f:List Int):List Int:=[el f 9 / 256,el f 9 % 256,el f 18 / 256,el f 18 % 256]
def hb (f:List Int):List Int:=hd (kd f)++by16 (cli f) 8++by16 (dst f) 8++lst f
theorem hb_len (f:List Int):(hb f).length=52:=rfl
theorem okf_kind (h:okf f=true):el f 0=6∨el f 0=17:=by
 unfold okf at h
 simp only[Bool.and_eq_true,Bool.or_eq_true,beq_iff_eq] at h
 exact h.1.1.1.1
theorem okf_six (h:okf f=true):Ok6 (cli f)∧Ok6 (dst f):=by
 unfold okf at h
 simp only[Bool.and_eq_true,Bool.or_eq_true,beq_iff_eq] at h
 exact ⟨(s6_iff _).1 h.1.1.1.2,(s6_iff _).1 h.1.1.2⟩
theorem by16_oct {z:List Int} (h:Ok6 z):∀ k,k≤8→SM.Oct (by16 z k)
 | 0,_=>SM.oct_nil
 | k+1,hk=>by
  rw[by16_succ]
  refine SM.oct_append _ _ (by16_oct h k (by omega)) fun j=>?_
  have:=h k (by omega)
  obtain ⟨h0,h1⟩:=this
  rcases (by omega:j=0∨j=1∨2≤j) with rfl|rfl|hj
  ·show 0≤el z k / 256∧el z k / 256≤255
   omega
  ·show 0≤el z k % 256∧el z k % 256≤255
   omega
  ·rw[List.getD_eq_getElem?_getD,List.getElem?_eq_none (by simpa using hj)]
   exact ⟨by simp,by simp⟩
theorem lst_oct (h:okf f=true):SM.Oct (lst f):=by
 have b:=okf_el h 9 (by omega)
 have a:=okf_el h 18 (by omega)
 intro j
 by_cases hj:j < 4
 ·rcases (by omega:j=0∨j=1∨j=2∨j=3) with rfl|rfl|rfl|rfl
  ·show 0≤el f 9 / 256∧el f 9 / 256≤255;omega
  ·show 0≤el f 9 % 256∧el f 9 % 256≤255;omega
  ·show 0≤el f 18 / 256∧el f 18 / 256≤255;omega
  ·show 0≤el f 18 % 256∧el f 18 % 256≤255;omega
 ·rw[List.getD_eq_getElem?_getD,List.getElem?_eq_none (by show 4≤j;omega)]
  exact ⟨by simp,by simp⟩
theorem kd_in (f:List Int):0≤kd f∧kd f≤255:=by unfold kd;split <;> omega
end
section
attribute [local go_sem ↓] Go.wp_at_zero Go.wp_at_succ
theorem SixIn.put1 {B:Nat} {z z':List Int} {w:World} (k:Nat) (hk:k < 8) (h:SixIn B (mix z z' k) w):SixIn B (mix z z' (k+1)) (w.setCell ⟨B,k,none⟩ (.int .i64 (el z k))) :=
 h.set k hk (el z k) (mix z z' (k+1)) (fun j hj=>by
  rw[el_mix z z' (k+1) j hj,el_mix z z' k j hj]
  by_cases e:j=k
  ·subst e;rw[if_pos (by omega),if_pos rfl]
  ·rw[if_neg e]
   by_cases h:j < k
   ·rw[if_pos (by omega),if_pos h]
   ·rw[if_neg (by omega),if_neg h])
end
section
variable {w:World}
theorem Own.of {base:Nat} {v:Value} {zs:List Int} (ho:SM.Oct zs) (h:OwnG 5 base w v (u8s zs)):Own base w v zs:=by
 refine ⟨ho,?_⟩
 have a:w.ownsRow base 5 1 v (u8s zs).length (u8s zs):=h
 unfold u8s at a
 rw[List.length_map] at a
 exact a
def hsl (ps:Array (Nat×Value)):Sem Value:=Instr.buildSlice 37 16 ps
theorem hsl_shut (ps:Array (Nat×Value)):Instr.buildSlice 37 16 ps=hsl ps:=rfl
def h4l (ps:Array (Nat×Value)):Sem Value:=Instr.buildSlice 37 4 ps
theorem h4l_shut (ps:Array (Nat×Value)):Instr.buildSlice 37 4 ps=h4l ps:=rfl
theorem h4l_run (f:List Int) (w:World):(h4l #[(0,.int .u8 (el f 9 / 256)),(1,.int .u8 (el f 9 % 256)),(2,.int .u8 (el f 18 / 256)),(3,.int .u8 (el f 18 % 256))]).run Tryz.prog w=.ok (.slice (some ⟨w.heap.size,0,none⟩) 4 4) (w.alloc (.cells ((lst f).map (Value.int .u8)).toArray 5)):=by kernel_rfl
def HI (w:World) (f:List Int) (W:World):Prop:=FlIn w.heap.size f W∧Below w.heap.size w W
theorem HI.kept {f:List Int} {W W':World} (h:HI w f W) (hb:Below W.heap.size W W'):HI w f W':=⟨h.1.kept hb,bt h.2 hb⟩
theorem HI.set {f:List Int} {W:World} (h:HI w f W) {B:Nat} (hB:w.heap.size < B) (j:Nat) (v:Value):HI w f (W.setCell ⟨B,j,none⟩ v) :=
 ⟨(((Below.refl B W).setCell (p:=⟨B,j,none⟩) (Nat.le_refl _) v).block w.heap.size hB).trans h.1,h.2.setCell (p:=⟨B,j,none⟩) (Nat.le_of_lt hB) v⟩
theorem Own.bl {base:Nat} {v:Value} {zs:List Int} (h:Own base w v zs):∀ k,v.ownBlock=some k→base≤k:=by
 intro k e
 rcases h.2.2 with ⟨rfl,_⟩|⟨g,cap,cur,rfl,hb,_⟩
 ·simp[Value.ownBlock] at e
 ·have:g=k:=by simpa [Value.ownBlock] using e
  omega
attribute [local go_sem ↓] hload_shut hsl_shut h4l_shut
end
section
def JYe:Prop:=∀ (f:List Int) (w:World),Calls Tryz.prog 201 #[.agg (flC f)] w fun e w'=>∃ v,e=.returned (.tuple #[v,ev (fe (okf f))])∧(okf f=true→Own w.heap.size w' v (hb f))∧(okf f=false→v=.slice none 0 0)∧Below w.heap.size w w'
end
section
def h12:List Int:=[13,10,13,10,0,13,10,81,85,73,84,10]
theorem h12_oct:SM.Oct h12:=by
 intro j
 by_cases hj:j < 12
 ·rcases (by omega:j=0∨j=1∨j=2∨j=3∨j=4∨j=5∨j=6∨j=7∨j=8∨j=9∨j=10∨j=11) with rfl|rfl|rfl|rfl|rfl|rfl|rfl|rfl|rfl|rfl|rfl|rfl <;> decide
 ·rw[List.getD_eq_getElem?_getD,List.getElem?_eq_none (by show 12≤j;omega)]
  exact ⟨by simp,by simp⟩
def h4 (k:Int):List Int:=[33,k,0,36]
theorem h4_oct {k:Int} (h0:0≤k) (h1:k≤255):SM.Oct (h4 k):=by
 intro j
 by_cases hj:j < 4
 ·rcases (by omega:j=0∨j=1∨j=2∨j=3) with rfl|rfl|rfl|rfl
  all_goals first|exact ⟨h0,h1⟩|(constructor <;> simp[h4])
 ·rw[List.getD_eq_getElem?_getD,List.getElem?_eq_none (by show 4≤j;omega)]
  exact ⟨by simp,by simp⟩
def hs12:ByteArray:={ data:=#[13,10,13,10,0,13,10,81,85,73,84,10] }
theorem hs12_cells:Lib.strCells hs12=h12.map (Value.int .u8):=by kernel_rfl
theorem gr_str {w:World} {ops:Array Oper} {rest:List Oper} {o:Oper} {a:Act} {Q:Exit→Act→World→Prop} (hgd:o.guard=none) (s x:Operand)
  (ho:o.op=.call { callee:=.builtin .append,args:=#[s,x],argTypes:=#[37,9] })
  {W0:World} {v:Value} (hs:a.eval s=v) (hg:Gr W0 w v []) (hx:a.eval x=.string hs12)
  (h:∀ v' w',Gr W0 w' v' h12→wpList Tryz.prog ops Q rest (a.put o.dst v') w'):wpList Tryz.prog ops Q (o::rest) a w:=by
 obtain ⟨i,l,b,d,f⟩:=info_parts Tryz.infoByte
 refine Lib.wpList_append_own_string w hgd s x 37 9 ho W0.heap.size 5 i Tryz.underlying37 Tryz.underlying9 l b d f v 0 [] hs hg.1.2 hs12 hx (by decide) (by decide) hg.2.size ?_
 intro v' w' g n _
 refine h v' w' ⟨⟨h12_oct,?_⟩,hg.2.grown n hg.2.size (fun k e=>(hg.1.2.lt k e).1)⟩
 rw[hs12_cells] at g
 exact g
theorem codeof_any (f:List Int) (w:World):Calls Tryz.prog 252 #[.int .i64 (el f 0)] w fun e w'=>e=.returned (.int .u8 (kd f))∧w'=w:=by
 by_cases h:el f 0=17
 ·rw[show kd f=34 by unfold kd;rw[if_pos h],h]
  go_enter Tryz.func252,Tryz.ntmps252
  go_wp2
  go_ret
  exact ⟨rfl,rfl⟩
 ·rw[show kd f=33 by unfold kd;rw[if_neg h]]
  have a:(el f 0 == 17)=false:=by simpa using h
  generalize el f 0=k at h a
  go_enter Tryz.func252,Tryz.ntmps252
  go_wp2
  go_ret
  exact ⟨rfl,rfl⟩
theorem k4_run (k:Int) (w:World):(h4l #[(0,.int .u8 33),(1,.int .u8 k),(2,.int .u8 0),(3,.int .u8 36)]).run Tryz.prog w=.ok (.slice (some ⟨w.heap.size,0,none⟩) 4 4) (w.alloc (.cells ((h4 k).map (Value.int .u8)).toArray 5)):=by kernel_rfl
theorem yabytes_ok (z:List Int) (w:World) (hz:Ok6 z):Calls Tryz.prog 126 #[.agg (sixC z)] w fun e w'=>∃ a c,e=.returned (.tuple #[.slice a 16 c,.nilIface])∧Row8 w' a 16 c (by16 z 8)∧Below w.heap.size w w':=by
 refine (bytes_ok z w hz).mono ?_
 rintro e w' ⟨v,rfl,d,hb⟩
 obtain ⟨a,c,rfl,b,_⟩:=(Own.of (by16_oct hz 8 (Nat.le_refl _)) d).row8
 rw[by16_len] at b
 exact ⟨a,c,by rw[by16_len],b,hb⟩
attribute [local go_sem ↓] hload_shut h4l_shut fload_shut
theorem yenc_bad (f:List Int) (w:World) (ho:okf f=false) :
  Calls Tryz.prog 201 #[.agg (flC f)] w fun e w'=>e=.returned (.tuple #[.slice none 0 0,err 1])∧Below w.heap.size w w':=by
 have a:=ki (show HI w f (w.alloc (.cells (flC f) 89)) from ⟨fl_new f w,al_below _ _⟩)
 have d:=ki (fun W=>bcheck f W)
 rw[ho,show ev (fe false)=err 1 from rfl] at d
 unfold err at d
 clear ho
 go_enter Tryz.func201,Tryz.ntmps201
 go_upto_region 1 with fail
 generalize w.alloc _=W at a ⊢
 have g:=a.o.1.fl
 go_wp2_with (go_at_call 199;(with_reducible refine (d.o _).mono ?_);rintro e h ⟨rfl,b⟩;replace a:=ki (a.o.kept b);clear b g)
 go_ret2
 exact ⟨rfl,a.o.2⟩
theorem yenc_ok (f:List Int) (w:World) (ho:okf f=true) :
  Calls Tryz.prog 201 #[.agg (flC f)] w fun e w'=>∃ v,e=.returned (.tuple #[v,.nilIface])∧Own w.heap.size w' v (hb f)∧Below w.heap.size w w':=by
 have a:=ki (show HI w f (w.alloc (.cells (flC f) 89)) from ⟨fl_new f w,al_below _ _⟩)
 have F:=ki (fun W=>bcheck f W)
 rw[ho,show ev (fe true)=.nilIface from rfl] at F
 have G:=ki (fun W=>yabytes_ok (cli f) W (okf_six ho).1)
 have H:=ki (fun W=>yabytes_ok (dst f) W (okf_six ho).2)
 have x:=ki (fun W=>codeof_any f W)
 have I:=k4_run (kd f)
 have J:=ki (h4_oct (kd_in f).1 (kd_in f).2)
 have K:=okf_el ho 9 (by omega)
 have y:=okf_el ho 18 (by omega)
 have L:=ki (lst_oct ho)
 have hl:=h4l_run f
 have b:=ki (show hb f=(((h12++h4 (kd f))++by16 (cli f) 8)++by16 (dst f) 8)++lst f from rfl)
 have i:=ki (by16_len (cli f) 8)
 have z:=ki (by16_len (dst f) 8)
 generalize by16 (cli f) 8=S at G b i
 generalize by16 (dst f) 8=D at H b z
 generalize kd f=kk at x I J b
 clear ho
 go_enter Tryz.func201,Tryz.ntmps201
 go_upto_region 1 with fail
 generalize w.alloc _=W at a ⊢
 have k:=a.o.1.fl
 go_upto_region 4 with (go_at_call 199;(with_reducible refine (F.o _).mono ?_);rintro e Y ⟨rfl,A⟩;replace a:=ki (a.o.kept A);clear A k)
 have k:=a.o.1.hc
 go_upto_region 7 with (go_at_call 126;(with_reducible refine (G.o _).mono ?_);rintro e Z ⟨a2,c2,rfl,h,B⟩;replace a:=ki (a.o.kept B);replace h:=ki h;clear B k)
 have k:=a.o.1.hd
 go_upto_region 10 with (go_at_call 126;(with_reducible refine (H.o _).mono ?_);rintro e w3 ⟨a3,c3,rfl,t,l⟩;replace a:=ki (a.o.kept l);replace h:=ki (h.o.below l);replace t:=ki t;clear l k)
 clear F G H
 go_upto_region 11 with (refine gr_make _ rfl (.const (.int .i64 0)) (.const (.int .i64 52)) rfl 52 52 rfl rfl rfl (by decide) ?_;intro b4 w4 n;replace n:=ki n)
 go_upto_region 12 with (at_builtin;(with_reducible refine gr_str rfl (.tmp 33) (.const (.string hs12)) rfl rfl n.o rfl ?_);intro v5 w5 o;replace o:=ki o;clear n)
 have C:=ki (a.o.kept o.o.2)
 have c0:=C.o.1.cell 0 (by omega)
 go_upto_region 13 with (first
  | (go_at_call 252;(with_reducible refine (x.o _).mono ?_);rintro e w6 ⟨rfl,rfl⟩)
  | (at_builtin;(with_reducible refine gr_app rfl (.tmp 35) (.tmp 39) rfl rfl (o.o.below (al_below _ _)) rfl ((blk_new _ (h4 kk)).row8 J.o 4 4 rfl (by decide)) (by decide) ?_);intro v7 w7 q;replace q:=ki q;clear o c0 C))
 have M:=ki (h.o.below q.o.2)
 have N:=ki (show (h12++h4 kk).length+16≤1000000000 by show 16+16≤_;omega)
 go_upto_region 14 with (at_builtin;(with_reducible refine gr_app rfl (.tmp 41) (.tmp 42) rfl rfl q.o rfl M.o N.o ?_);intro v8 w8 r;replace r:=ki r;clear q h M)
 have O:=ki (t.o.below r.o.2)
 have R:=ki (show (h12++h4 kk++S).length+16≤1000000000 by rw[List.length_append,i.o];show 16+_+_≤_;omega)
 go_upto_region 15 with (at_builtin;(with_reducible refine gr_app rfl (.tmp 44) (.tmp 45) rfl rfl r.o rfl O.o R.o ?_);intro v9 T s;replace s:=ki s;clear r t O)
 have U:=ki (show (h12++h4 kk++S++D).length+4≤1000000000 by rw[List.length_append,List.length_append,i.o,z.o];show 16+_+_+_≤_;omega)
 have E:=ki (a.o.kept s.o.2)
 have V:=E.o.1.cell 9 (by omega)
 have c18:=E.o.1.cell 18 (by omega)
 have P:=ki ((blk_new T (lst f)).row8 L.o 4 4 rfl (by decide))
 generalize el f 9=p at K V hl
 generalize el f 18=d at y c18 hl
 obtain ⟨p0,p1⟩:=K
 obtain ⟨d0,d1⟩:=y
 have q1:IntKind.u8.wrap (p / 256)=p / 256:=by rw[IntKind.wrap_u8];omega
 have q2:IntKind.u8.wrap p=p % 256:=by rw[IntKind.wrap_u8]
 have q3:IntKind.u8.wrap (d / 256)=d / 256:=by rw[IntKind.wrap_u8];omega
 have n:IntKind.u8.wrap d=d % 256:=by rw[IntKind.wrap_u8]
 go_wp2_with (at_builtin;(with_reducible refine gr_app rfl (.tmp 47) (.tmp 62) rfl rfl (s.o.below (al_below _ _)) rfl P.o U.o ?_);intro Q X g;replace g:=ki g;clear s P)
 go_ret2
 exact ⟨Q,rfl,b.o ▸ g.o.1.mono a.o.2.size,a.o.2.trans (g.o.2.mono a.o.2.size)⟩
theorem yencode:JYe:=by
 intro f w
 cases h:okf f
 ·refine (yenc_bad f w h).mono ?_
  rintro e a ⟨rfl,hb⟩
  exact ⟨_,rfl,(fun e=>by cases e),fun _=>rfl,hb⟩
 ·refine (yenc_ok f w h).mono ?_
  rintro e a ⟨v,rfl,b,hb⟩
  exact ⟨v,rfl,(fun _=>b),(fun e=>by cases e),hb⟩
end
section
def kc (c:Int):Int:=if c=33 then 6 else if c=34 then 17 else 0
end
section
def pf (zs:List Int):List Int:=kc (zs.getD 13 0)::(adr zs 16++[P4.wd zs 48]++adr zs 32++[P4.wd zs 50])
def g0 (k p q:Int):List Int:=[k,0,0,0,0,0,0,0,0,p,0,0,0,0,0,0,0,0,q]
attribute [local go_sem ↓] fbl_shut fload_shut
end
end Go.Proofs.YtgcojnlngchllaaGreatDoor
