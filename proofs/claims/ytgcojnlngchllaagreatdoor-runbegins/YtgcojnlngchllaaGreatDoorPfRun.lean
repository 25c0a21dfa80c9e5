/- For every text and every number the Go function RunBegins returns true, and its arguments read as they did (the row, ahead of its tie). -/
import Derived.Test.YtgcojnlngchllaaGreatDoorK48
import Derived.Test.YtgcojnlngchllaaGreatDoorTie
import Derived.Test.YtgcojnlngchllaaGreatDoorCards
import Derived.ProofKit
import Derived.LaidMore
import Derived.SevenTiedAt
namespace Go.Proofs.YtgcojnlngchllaaGreatDoor
open Go.RowKit
set_option linter.unusedVariables false
set_option maxRecDepth 100000
set_option maxHeartbeats 40000000
section
open Go.ChangeShapes Go.WideShapes Go.ChangeAt Go.RowKit Go.ChangeMaps
theorem rbOwn:ownKnob Tryz.prog.godebug=none:=by kernel_rfl
theorem rbLaid:laidOutB Tryz.prog=true:=by kernel_rfl
theorem Tryz.rbEt:Tryz.prog.globalNamed "errors.errorType" = some 0:=by kernel_rfl
theorem Tryz.rbRow:((List.range 450).filter fun t=>Tryz.prog.rowNamed t [101,114,114,111,114])=[32]:=by kernel_rfl
theorem Tryz.rbTypes:Tryz.prog.types.size=450:=by kernel_rfl
theorem rbHandle {W:World} (h:laidMetH Tryz.prog Rows.runBeginsRow.laid W):Laid0 W:=by
 have d:=h.filter (fun x=>x.1 == "errors.errorType")
 have e:(Rows.runBeginsRow.laid.filter fun x=>x.1 == "errors.errorType")=[("errors.errorType",Rows.laid_errors_errorType)]:=by kernel_rfl
 rw[e] at d
 have i:laidMet Tryz.prog [] W∧handlesMet Tryz.prog [("errors.errorType",Rows.laid_errors_errorType)] W:=d
 obtain ⟨b,u,k,l,n,o,e4,f⟩:=i.2 _ (List.mem_singleton.2 rfl)
 have en:b=[101,114,114,111,114]:=(Option.some.inj l).symm
 subst en
 obtain rfl:u=315:=Option.some.inj (n.symm.trans (by kernel_rfl))
 have g:k ∈ (List.range 450).filter fun t=>Tryz.prog.rowNamed t [101,114,114,111,114]:=List.mem_filter.2 ⟨List.mem_range.2 (by rw[← Tryz.rbTypes];exact o),e4⟩
 rw[Tryz.rbRow] at g
 obtain rfl:=List.mem_singleton.1 g
 have hh:typeHandle Tryz.prog 32 = .pointer (some ⟨9,32,none⟩):=by kernel_rfl
 rw[hh] at f
 exact by simpa [Laid0] using World.var?_cell Tryz.rbEt f 0
theorem rbReturns {H:Type} {enc:TypeId×Value→H} {a:Assume} {C:Checked} {os:Os} {f:FuncId} {fn:Func} {s:ChangeSpec} {conds:List PathCond} {apart fresh handsOn again:Bool} {X:World→Array Value→Prop}
  (hX:∀ (w w':World) (args:Array Value),w.heap=w'.heap→X w args→X w' args)
  (own:ownKnob C.prog.godebug=none) (started:os.Started) (noInit:C.prog.inits.idxOf? f=none) (hfn:C.prog.funcs[f]? = some fn)
  (witness:∃ (w:World) (tape:Tape) (i:Input),w.os=os∧(w.forCall tape i).Shaped C.prog∧i.vars=[]∧Input.okWide C.prog (w.forCall tape i) .any w.heap.size f i ∧
   ((s.pre enc C.prog fn conds apart (w.forCall tape i).memory i.args∧X (w.forCall tape i).memory i.args)∧sizedMet enc C.prog fn (OpenSpec.ofChange s) apart (w.forCall tape i).memory i.args)∧a.holds C.prog (lone (Frame.enter C.prog f i.args .normal) [] (w.forCall tape i)))
  (contract:∀ (W:World) (base:Nat) (args:Array Value) (ds gs:List (DataW H)) (before:List MemPlace),
   (∀ (j:Nat) t v,fn.params[j]? = some t→args[j]? = some v→Value.okWide C.prog W .any base t v) →
   DataW.Whole enc C.prog fn.params.toList s.vars apart W args.toList ds gs before→W.ShapedOpen C.prog→X W args →
   Calls C.prog f args W fun e W'=>∃ v,e=.returned v∧s.post enc C.prog fn apart fresh handsOn again W args v W') :
  ReturnsInHanded a C os f .any (fun w args=>(s.pre enc C.prog fn conds apart w args∧X w args)∧sizedMet enc C.prog fn (OpenSpec.ofChange s) apart w args) (s.post enc C.prog fn apart fresh handsOn again):=by
 refine returnsInHanded_of_calls own started noInit witness ?_
 intro w tape i _ h _ k b _
 obtain ⟨_,_,_,l,d,_,_,_,_,g⟩:=k
 obtain rfl:l=fn:=Option.some.inj (d.symm.trans hfn)
 obtain ⟨⟨⟨ds,gs,before,hw,_⟩,n⟩,_⟩:=b
 refine (contract (w.forCall tape i) w.heap.size i.args ds gs before g (DataW.Whole.of_heap (w':=w.forCall tape i) (by rfl) hw) h (hX _ _ _ (by rfl) n)).mono fun e W' ⟨v,he,hp⟩=>?_
 subst he
 exact ChangeSpec.post_blind hp
def rbArgs:Array Value:=#[.string ⟨#[]⟩,.int .i64 0]
def rbPlain:List (String×DataW Unit):=Rows.runBeginsRow.laid.filter fun x=>x.2.handleName?.isNone
theorem rbOs (os:Os):(((World.holding Tryz.prog os ⟨#[],#[],[]⟩).setCell ⟨0,0,none⟩ (.iface 315 (.agg #[.pointer (some ⟨9,32,none⟩)]))).layVars Tryz.prog rbPlain).os=os:=(World.layVars_os _ _ _).trans rfl
theorem rbMet (os:Os):laidMetH Tryz.prog Rows.runBeginsRow.laid ((((World.holding Tryz.prog os ⟨#[],#[],[]⟩).setCell ⟨0,0,none⟩ (.iface 315 (.agg #[.pointer (some ⟨9,32,none⟩)]))).layVars Tryz.prog rbPlain).forCall (fun _ _=>0) ⟨#[],rbArgs,[]⟩).memory:=by
 refine laidMetH_of_parts ?_ (by kernel_rfl)
 have a:(List.filter (fun x=>(rbPlain.map (·.1)).contains x.1) (List.filter (fun x=>x.2.handleName?.isNone) Rows.runBeginsRow.laid))=rbPlain:=by kernel_rfl
 have b:(List.filter (fun x=>!(rbPlain.map (·.1)).contains x.1) (List.filter (fun x=>x.2.handleName?.isNone) Rows.runBeginsRow.laid))=[]:=by kernel_rfl
 exact laidMet_layVars (w0:=((World.holding Tryz.prog os ⟨#[],#[],[]⟩).setCell ⟨0,0,none⟩ (.iface 315 (.agg #[.pointer (some ⟨9,32,none⟩)])))) (rbPlain.map (·.1)) [] (congrArg (fun l=>(((World.holding Tryz.prog os ⟨#[],#[],[]⟩).setCell ⟨0,0,none⟩ (.iface 315 (.agg #[.pointer (some ⟨9,32,none⟩)]))).layVars Tryz.prog l).heap) a.symm) (by rw[a];kernel_rfl) (by rw[a];kernel_rfl) (by rw[b];exact LaidIn.none)
theorem rbLifted (os:Os) (started:os.Started) (H:Type) (enc:TypeId×Value→H) :
  ReturnsInHanded {} Tryz.checked os 5 .any (fun w args=>(Rows.runBeginsSpec.pre enc Tryz.prog Tryz.f5 [] false w args∧laidMetH Tryz.prog Rows.runBeginsRow.laid w)∧sizedMet enc Tryz.prog Tryz.f5 (OpenSpec.ofChange Rows.runBeginsSpec) false w args)
   (Rows.runBeginsSpec.post enc Tryz.prog Tryz.f5 false true false false):=by
 refine rbReturns (C:=Tryz.checked) (X:=fun w _=>laidMetH Tryz.prog Rows.runBeginsRow.laid w) (fun _ _ _ hh h=>h.of_heap hh) rbOwn started (by kernel_rfl) Tryz.func5
  (ChangeSpec.witness_shaped (enc:=enc) (C:=Tryz.checked) (os:=os) (X:=fun w _=>laidMetH Tryz.prog Rows.runBeginsRow.laid w) false (((World.holding Tryz.prog os ⟨#[],#[],[]⟩).setCell ⟨0,0,none⟩ (.iface 315 (.agg #[.pointer (some ⟨9,32,none⟩)]))).layVars Tryz.prog rbPlain) rbArgs 16 (rbOs os) (World.shaped_of_ZipB (by kernel_rfl) (by kernel_rfl)) (by kernel_rfl) (by kernel_rfl) (by kernel_rfl) (rbMet os)) ?_
 intro W base args ds i l b n o k
 have a:∀ (j:Nat) t v,Tryz.f5.params[j]? = some t→args[j]? = some v→Value.okWide Tryz.prog W .any base t v:=b
 have s:=n
 obtain ⟨p,q,d,x,rfl,N,O⟩:=n
 have y:DataW.TrodAll enc Tryz.prog W 0 (fun _=>true) true Tryz.f5.params.toList args.toList ds p:=d
 have z:DataW.TrodVars enc Tryz.prog W (fun _=>true) [] i q:=x
 rw[Tryz.params5] at y a
 obtain ⟨A,P,T,Q,U,V,I,rfl,rfl,J,r0⟩:=trodAll_cons y
 obtain ⟨B,R,Y,S,Z,q1,rfl,rfl,rfl,K,r1⟩:=trodAll_cons r0
 obtain ⟨rfl,rfl,rfl⟩:=trodAll_nil r1
 obtain rfl:args=#[A,B]:=by cases args;simp_all
 obtain ⟨rfl,rfl⟩:i=[]∧q=[]:=by
  cases i with
  | nil=>exact ⟨rfl,z⟩
  | cons g r=>exact absurd z (by intro h;cases h)
 obtain ⟨L,rfl,rfl,rfl,M⟩:=open_string Tryz.underlying9 (a 0 9 A rfl rfl) J
 obtain ⟨D,rfl,rfl,rfl,E⟩:=open_int Tryz.underlying3 (a 1 3 B rfl rfl) K
 have F:D≤9223372036854775807:=by
  have:=E
  simp[Lit.wf] at this
  have e2:IntKind.i64.max=9223372036854775807:=by decide
  omega
 have G:LA W:=⟨Ad.laidA_of k o,Ad.pow_of k,rbHandle k⟩
 clear d b
 refine (begins_walk L.data.toList D F W G).mono fun e W' ⟨he,bel⟩=>?_
 subst he
 exact ⟨_,rfl,_,_,_,[],_,[],s,trodAll_mk1 (shut_bool Tryz.underlying4 _),(trodAll_cons_mk (shut_string Tryz.underlying9 M) (trodAll_cons_mk (shut_int Tryz.underlying3 E) trodAll_mk0)),rfl,bel.frame _,fun h=>by cases h⟩
theorem rbA:mapsRowed Tryz.prog=true:=by kernel_rfl
theorem rbB:(Rows.runBeginsRow.inPlace == Tryz.prog.inPlace 5)=true:=by kernel_rfl
theorem rbC:(Rows.runBeginsRow.unfollowed == Tryz.prog.unfollowed 5)=true:=by kernel_rfl
theorem rbD:(Rows.runBeginsRow.recurses == Tryz.prog.recurses 5)=true:=by kernel_rfl
theorem rbE:(Rows.runBeginsRow.named == Tryz.prog.varsNamed 5)=true:=by kernel_rfl
theorem rbF:(Rows.runBeginsRow.plainKeys == Tryz.prog.plainKeys)=true:=by kernel_rfl
theorem rbZ:joinedFacts Tryz.prog 5 Tryz.f5 Rows.runBeginsSpec Rows.runBeginsRow=true:=by
 unfold joinedFacts
 simp only[rbLaid,rbA,rbB,rbC,rbD,rbE,rbF,Bool.and_true]
 kernel_rfl
theorem rbOver:Rows.RunBeginsSaid :=
 OpenClaim.holds_of_wide 5 Tryz.f5 rfl rfl rfl rfl rfl rfl rfl ⟨rfl,rfl,rfl,rfl,rfl⟩ rfl rfl rfl rfl rfl (by kernel_rfl) Tryz.func5 rbZ
  (of_decide_eq_true (by kernel_rfl)) (by unfold Func.isWrapper;first|(rw[if_pos (by decide +kernel)];kernel_rfl)|(rw[if_neg (by decide +kernel)];exact ⟨rfl,rfl⟩))
  (fun os started H enc _=>rbLifted os started H enc)
end
end Go.Proofs.YtgcojnlngchllaaGreatDoor
