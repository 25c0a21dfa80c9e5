/- Calls of the program's table that only read; what is kept while BindApart plays. -/
import Derived.Test.YtgcojnlngchllaaGreatDoorK18
namespace Go.Proofs.YtgcojnlngchllaaGreatDoor
open Go.RowKit
set_option linter.unusedVariables false
section
variable {w:World}
theorem TQ.of {TP:Value→Nat→(Nat→List Int)→(Nat→Bool)→List (List Int)→(Nat→Prop)→World→Prop} (I:JKept TP) {v:Value} {m:Nat} {ws:Nat→List Int} {ts:Nat→Bool} {bs:List (List Int)} {O:Nat→Prop} {w':World} (h:TP v m ws ts bs O w) (hb:Below w.heap.size w w'):TQ TP v m ws ts bs O w w':=by
 have k:=I v m ws ts bs O w h
 exact ⟨O,k.2 w' hb.size (fun g hg=>hb.block g (k.1 g hg)),Fr.of hb,fun _ e=>.inl e⟩
def RNear (TP:Value→Nat→(Nat→List Int)→(Nat→Bool)→List (List Int)→(Nat→Prop)→World→Prop):Prop:=∀ v m ws ts bs O w kind p x e,m≤16→bs.length≤128→BI m ws ts bs→TP v m ws ts bs O w→Nr bs kind p x e →
 Calls Tryz.prog 102 #[v,.int .i64 kind,.int .i64 p] w fun r w'=>r=.returned (.tuple #[.agg (bdC x),ev e])∧Below w.heap.size w w'
def RFind (TP:Value→Nat→(Nat→List Int)→(Nat→Bool)→List (List Int)→(Nat→Prop)→World→Prop):Prop:=∀ v m ws ts bs O w f x e,m≤16→bs.length≤128→BI m ws ts bs→TP v m ws ts bs O w→Fd bs f x e →
 Calls Tryz.prog 144 #[v,.agg (flC f)] w fun r w'=>r=.returned (.tuple #[.agg (bdC x),ev e])∧Below w.heap.size w w'
def RAll (TP:Value→Nat→(Nat→List Int)→(Nat→Bool)→List (List Int)→(Nat→Prop)→World→Prop):Prop:=∀ v m ws ts bs O w,m≤16→bs.length≤128→BI m ws ts bs→TP v m ws ts bs O w →
 Calls Tryz.prog 57 #[v] w fun r w'=>∃ b,r=.returned b∧BdRow 0 w' b bs∧Below w.heap.size w w'
def JR (TP:Value→Nat→(Nat→List Int)→(Nat→Bool)→List (List Int)→(Nat→Prop)→World→Prop):Prop:=RNear TP∧RFind TP∧RAll TP
theorem RNear.j {TP:Value→Nat→(Nat→List Int)→(Nat→Bool)→List (List Int)→(Nat→Prop)→World→Prop} (I:JKept TP) (h:RNear TP):JNear TP:=fun v m ws ts bs O w kind p x e h1 h2 h3 h4 h5=>(h v m ws ts bs O w kind p x e h1 h2 h3 h4 h5).mono fun _ _ ⟨e1,e2⟩=>⟨e1,TQ.of I h4 e2⟩
theorem RFind.j {TP:Value→Nat→(Nat→List Int)→(Nat→Bool)→List (List Int)→(Nat→Prop)→World→Prop} (I:JKept TP) (h:RFind TP):JFind TP:=fun v m ws ts bs O w f x e h1 h2 h3 h4 h5=>(h v m ws ts bs O w f x e h1 h2 h3 h4 h5).mono fun _ _ ⟨e1,e2⟩=>⟨e1,TQ.of I h4 e2⟩
theorem RAll.j {TP:Value→Nat→(Nat→List Int)→(Nat→Bool)→List (List Int)→(Nat→Prop)→World→Prop} (I:JKept TP) (h:RAll TP):JAll TP:=fun v m ws ts bs O w h1 h2 h3 h4=>(h v m ws ts bs O w h1 h2 h3 h4).mono fun _ _ ⟨b,e1,e2,e3⟩=>⟨b,e1,e2,TQ.of I h4 e3⟩
def bstore (x y:Value):Sem Unit:=Instr.storeAt 95 x y
theorem bstore_shut (x y:Value):Instr.storeAt 95 x y=bstore x y:=rfl
theorem BdIn.held {B:Nat} {b0:List Int} (p:BdIn B b0 w) (b:List Int):∃ w',(bstore (.pointer (some ⟨B,0,none⟩)) (.agg (bdC b))).run Tryz.prog w=.ok () w'∧BdIn B b w'∧Only B w w':=by
 refine ⟨w.setCells B 0 (bdC b).toList,?_,?_,setCells_only B _ _ w⟩
 ·exact run_storeAt_mid w B 0 95 (bdC b) (fun j hj=>by
   have d:j < 23:=hj
   rw[Nat.zero_add,p.cell j d]
   refine ⟨rfl,by unfold BdIn at p;simp[World.frozen?,p]⟩) (by kernel_rfl) (by unfold bdC;simp[Value.oneCell'])
 ·obtain ⟨e,g,h,k⟩:=setCells_row B 95 (bdC b).toList 0 w _ p
  have a:(bdC b0).size=23:=rfl
  have f:(bdC b).size=23:=rfl
  have hl:(bdC b).toList.length=23:=rfl
  have l:e=bdC b:=by
   apply Array.ext_getElem?
   intro i
   by_cases hi:i < 23
   ·rw[k i (by rw[a];exact hi),if_pos (by rw[hl];omega),Nat.sub_zero]
    simp
   ·rw[Array.getElem?_eq_none (by rw[h,a];omega),Array.getElem?_eq_none (by rw[f];omega)]
  unfold BdIn
  rw[g,l]
theorem row_fl {g o:Nat} {b:List Int} (h:w.rangeAt g o (bdC b).toList):(fload (.pointer (some ⟨g,o,none⟩))).run Tryz.prog w=.ok (.agg (flC b)) w :=
 run_loadAt_mid w g o 89 (flC b).toList _ (fun j v hv=>by
  have hj:j < 19:=(List.getElem?_eq_some_iff.1 hv).1
  have h1:(flC b)[j]? = some v:=by simpa using hv
  rw[flC_at b j hj] at h1
  refine h j v ?_
  have h2:=bdC_at b j (by omega)
  rw[h1] at h2
  simpa using h2) Tryz.underlying89 rfl (by kernel_rfl)
theorem row_cell {g o:Nat} {b:List Int} (h:w.rangeAt g o (bdC b).toList) (j:Nat) (hj:j < 23):w.cell? ⟨g,o+j,none⟩=some (.int .i64 (el b j)):=h j _ (by have:=bdC_at b j hj;simpa using this)
end
end Go.Proofs.YtgcojnlngchllaaGreatDoor
