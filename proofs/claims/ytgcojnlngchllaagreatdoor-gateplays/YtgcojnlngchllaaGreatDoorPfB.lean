import Derived.Test.YtgcojnlngchllaaGreatDoorJ46
import Derived.Test.YtgcojnlngchllaaGreatDoorTie
import Derived.Test.YtgcojnlngchllaaGreatDoorCards
import Derived.ProofKit
import Derived.LaidMore
import Derived.SevenTiedAt
namespace Go.Proofs.YtgcojnlngchllaaGreatDoor
open Go.ChangeShapes Go.WideShapes Go.ChangeAt Go.RowKit
set_option linter.unusedVariables false
set_option maxRecDepth 100000
set_option maxHeartbeats 40000000
theorem Cx:laidOutB Tryz.prog=true:=by kernel_rfl
theorem et:Tryz.prog.globalNamed "errors.errorType" = some 0:=by kernel_rfl
theorem XC:((List.range 450).filter fun t=>Tryz.prog.rowNamed t [101,114,114,111,114])=[32]:=by kernel_rfl
theorem XD:Tryz.prog.types.size=450:=by kernel_rfl
theorem XE{W:World}(h:laidMetH Tryz.prog Rows.gatePlaysRow.laid W):kg W:=by
 have f:laidMet Tryz.prog [] W∧handlesMet Tryz.prog Rows.gatePlaysRow.laid W:=h;obtain⟨b,u,g,i,k,l,e4,d⟩:=f.2 _ (List.mem_singleton.2 rfl);have en:b=[101,114,114,111,114]:=(Option.some.inj i).symm;subst en;obtain rfl:u=315:=Option.some.inj (k.symm.trans (by kernel_rfl));have e:g∈(List.range 450).filter fun t=>Tryz.prog.rowNamed t [101,114,114,111,114]:=List.mem_filter.2 ⟨List.mem_range.2 (by rw[<-XD];exact l),e4⟩
 rw[XC] at e;obtain rfl:=List.mem_singleton.1 e;have hh:typeHandle Tryz.prog 32 = .pointer (some ⟨9,32,none⟩):=by kernel_rfl
 rw[hh] at d;exact by simpa [kg] using World.var?_cell et d 0
def qXA:Prop:=∀(c:List Int)(inj:Bool)(ka:Option Addr)(kc:Nat)(bk:List (List Int))(la:Option Addr)(ln lc:Nat)(w:World),kg w->fM ka bk w->bk.length<=kc->kc<=maxLen->(ka=none->bk=[]∧kc=0)->rV la ln w->ln<=maxLen->Calls Tryz.prog 3 #[.agg (dh c inj ka bk.length kc),.slice la ln lc] w fun e w'=>e=.returned (.bool true)∧Below w.heap.size w w'
theorem XG(hA:qXA)(os:Os)(started:os.Started)(H:Type)(enc:TypeId×Value->H): ReturnsInHanded {} Tryz.checked os 3 .any (fun w args=>(Rows.gatePlaysSpec.pre enc Tryz.prog Tryz.f3 [] false w args∧laidMetH Tryz.prog Rows.gatePlaysRow.laid w)∧sizedMet enc Tryz.prog Tryz.f3 (OpenSpec.ofChange Rows.gatePlaysSpec) false w args) (Rows.gatePlaysSpec.post enc Tryz.prog Tryz.f3 false true false false):=by
 refine returnsInHanded_of_change_and (C:=Tryz.checked) (X:=fun w _=>laidMetH Tryz.prog Rows.gatePlaysRow.laid w) (fun _ _ _ hh h=>h.of_heap hh) (by kernel_rfl) started (by kernel_rfl) Tryz.func3
  (ChangeSpec.witness_shaped (enc:=enc) (C:=Tryz.checked) (os:=os) (X:=fun w _=>laidMetH Tryz.prog Rows.gatePlaysRow.laid w) false (World.doorLaid Tryz.prog 400 os) #[.agg #[.int .i64 0,.int .i64 0,.int .i64 0,.int .i64 0,.int .i64 0,.int .i64 0,.int .i64 0,.int .i64 0,.int .i64 0,.int .i64 0,.int .i64 0,.int .i64 0,.int .i64 0,.int .i64 0,.int .i64 0,.int .i64 0,.int .i64 0,.int .i64 0,.int .i64 0,.int .i64 0,.int .i64 0,.bool false,.slice none 0 0],.slice none 0 0] 16 rfl (World.shaped_of_RefB (by kernel_rfl) (by kernel_rfl)) (by kernel_rfl) (by kernel_rfl) (by kernel_rfl) (laidMetH_of_parts (laidMet_nil _ _) (by kernel_rfl))) ?_
 intro W base args ds i s b y _ _ T _;have a:∀(j:Nat)t v,Tryz.f3.params[j]? = some t->args[j]? = some v->Value.okWide Tryz.prog W .any base t v:=b;have z:=y;obtain⟨p,q,d,A,rfl,ac,ad⟩:=y;have B:DataW.TrodAll enc Tryz.prog W 0 (fun _=>true) true Tryz.f3.params.toList args.toList ds p:=d;have D:DataW.TrodVars enc Tryz.prog W (fun _=>true) [] i q:=A;rw[Tryz.params3] at B a;obtain⟨E,ae,d0,af,p0,q0,S,rfl,rfl,F,r0⟩:=trodAll_cons B;obtain⟨G,ag,d1,ai,p1,q1,rfl,rfl,rfl,I,r1⟩:=trodAll_cons r0;obtain⟨rfl,rfl,rfl⟩:=trodAll_nil r1;obtain rfl:args=#[E,G]:=by cases args;simp_all
 obtain⟨rfl,rfl⟩:i=[]∧q=[]:=by
  cases i with
  | nil=>exact⟨rfl,D⟩
  | cons g r=>exact absurd D (by intro h;cases h)
 have J:=F;have K:∀x∈p0,x.block<W.heap.size:=by obtain⟨m,k⟩:=J;exact DataW.trod_lt m _ _ _ k
 obtain⟨c0,U,V,Y,l,rfl,L,M,Z,N⟩:=VZ (a 0 26 E rfl rfl) F;have O:=I;have P:∀x∈p1,x.block<W.heap.size:=by obtain⟨m,k⟩:=O;exact DataW.trod_lt m _ _ _ k
 obtain⟨a1,n,o,rfl,Q,R⟩:=Wq (a 1 27 G rfl rfl) I;have hg:=XE T;clear d b;refine(hA c0 U V l Y a1 n o W hg Z L M N R Q).mono fun e W' ⟨he,Cy⟩=>?_
 subst he;exact⟨_,rfl,_,_,_,[],_,[],z,trodAll_mk1 (shut_bool Tryz.underlying4 _),(trodAll_cons_mk (Below.trod Cx (by kernel_rfl) (of_decide_eq_true (by kernel_rfl)) J Cy K) (trodAll_cons_mk (Below.trod Cx (by kernel_rfl) (of_decide_eq_true (by kernel_rfl)) O Cy P) trodAll_mk0)),rfl,Cy.frame _,fun h=>by cases h⟩
theorem XH:mapsRowed Tryz.prog=true:=by kernel_rfl
theorem XI:(Rows.gatePlaysRow.inPlace == Tryz.prog.inPlace 3)=true:=by kernel_rfl
theorem XJ:(Rows.gatePlaysRow.unfollowed == Tryz.prog.unfollowed 3)=true:=by kernel_rfl
theorem XK:(Rows.gatePlaysRow.recurses == Tryz.prog.recurses 3)=true:=by kernel_rfl
theorem XL:(Rows.gatePlaysRow.named == Tryz.prog.varsNamed 3)=true:=by kernel_rfl
theorem XM:(Rows.gatePlaysRow.plainKeys == Tryz.prog.plainKeys)=true:=by kernel_rfl
theorem XO:joinedFacts Tryz.prog 3 Tryz.f3 Rows.gatePlaysSpec Rows.gatePlaysRow=true:=by unfold joinedFacts;simp only[Cx,XH,XI,XJ,XK,XL,XM,Bool.and_true];kernel_rfl
theorem XP(hA:qXA):Rows.GatePlaysSaid :=
 OpenClaim.holds_of_wide 3 Tryz.f3 rfl rfl rfl rfl rfl rfl rfl ⟨rfl,rfl,rfl,rfl,rfl⟩ rfl rfl rfl rfl rfl (by kernel_rfl) Tryz.func3 XO
  (of_decide_eq_true (by kernel_rfl)) (by unfold Func.isWrapper;first|(rw[if_pos (by decide +kernel)];kernel_rfl)|(rw[if_neg (by decide +kernel)];exact⟨rfl,rfl⟩))
  (fun os started H enc _=>XG hA os started H enc)
theorem XQ(hA:qXA):Rows.GatePlaysCardSaid :=
 Claim7.holds_tied_plain_at .later [] _ _ _ _
  (XP hA) (fun _ h=>by cases h) (by kernel_rfl) (fun _ h=>by cases h) gatePlays_row_tie rfl ⟨rfl,rfl⟩ (by kernel_rfl) rfl
  (fun f fn hf hfn=>by
   obtain rfl:f=3:=Option.some.inj ((show Tryz.prog.funcNamed Rows.gatePlaysRow.func=some 3 by kernel_rfl).symm.trans hf) |>.symm;obtain rfl:fn=Tryz.f3:=(Option.some.inj (Tryz.func3.symm.trans hfn)).symm;exact⟨by kernel_rfl,fun j t ht=>by
    rw[Tryz.params3] at ht;have hm:t∈[26,27]:=by simpa using Array.mem_of_getElem? ht
    have hall:([26,27].all fun u=>!Tryz.prog.wantsStandIn u)=true:=by kernel_rfl
    exact(show Tryz.prog.wantsStandIn t=false by simpa using List.all_eq_true.1 hall t hm)⟩)
  (by kernel_rfl)
end Go.Proofs.YtgcojnlngchllaaGreatDoor
