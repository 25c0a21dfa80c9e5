/- Package ip4: Decode of whatever bytes, by one contract; the statements' own question whether two packets are the same. What the statement Pack4Back asks of Encode and Decode, in the forms in which its walk takes them. -/
import Derived.Test.YtgcojnlngchllaaGreatDoorK08
namespace Go.Proofs.YtgcojnlngchllaaGreatDoor
open Go.RowKit
set_option linter.unusedVariables false
namespace V4
theorem decode_any (a:Option Addr) (len cap:Nat) (zs:List Int) (w:World) (hr:Row8 w a len cap zs) (hcl:len≤cap) (hcm:cap≤maxLen) :
  Calls Tryz.prog 152 #[.slice a len cap] w fun e w'=>((¬ P4.Syn zs∧e=.returned (.tuple #[pk0,err 5]))∨(P4.Syn zs∧¬ P4.Good zs∧e=.returned (.tuple #[pk0,err 6])) ∨
   (P4.Good zs∧∃ a' c',e=.returned (.tuple #[pk (P4.src zs) (P4.dst zs) (zs.getD 8 0) (zs.getD 9 0) (P4.wd zs 4) a' (len - 20) c',.nilIface])∧(Row8 w' a' (len - 20) c' (zs.drop 20)∧len - 20≤c'∧c'≤maxLen)))∧Below w.heap.size w w':=by
 have hl:=hr.1
 by_cases hlen:len < 20∨340 < len
 ·refine (decode_len a len cap w hlen hr.2.1).mono ?_
  rintro e w' ⟨rfl,hb⟩
  refine ⟨.inl ⟨fun h=>?_,rfl⟩,hb⟩
  have b:=h.1
  have d:=h.2.1
  omega
 ·obtain ⟨g,f,rfl,_⟩:=hr.2.2.2.2 (by omega)
  classical
  refine (decode_raw g f len cap zs w hr (by omega) (by omega) hcl hcm (decide (P4.Syn zs)) (decide (P4.enc zs=zs)) (by simp) (by simp)).mono ?_
  rintro e w' ⟨hh,hb⟩
  refine ⟨?_,hb⟩
  rcases hh with ⟨b,d⟩|⟨b,d,h3⟩|⟨b,d,h3⟩
  ·exact .inl ⟨of_decide_eq_false b,d⟩
  ·have hs:=of_decide_eq_true b
   exact .inr (.inl ⟨hs,fun hg=>of_decide_eq_false d (P4.good_enc zs hr.2.2.1 hg),h3⟩)
  ·have hs:=of_decide_eq_true b
   exact .inr (.inr ⟨⟨hs,(P4.same_iff zs hr.2.2.1 hs).1 (of_decide_eq_true d)⟩,h3⟩)
end V4
namespace V4
theorem Own.set {base:Nat} {w:World} {g n c:Nat} {zs:List Int} (h:Own base w (.slice (some ⟨g,0,none⟩) n c) zs) (j:Nat) (v:Int) (hv:0≤v∧v≤255):Own base (w.setCell ⟨g,j,none⟩ (.int .u8 v)) (.slice (some ⟨g,0,none⟩) n c) (zs.set j v):=by
 refine ⟨SM.oct_set _ h.1 j v hv.1 hv.2,by simp,?_⟩
 rcases h.2.2 with ⟨e,_⟩|⟨g',cap,cur,e,hb,hg,h1,h2,h3,h4⟩
 ·cases e
 ·injection e with e1 e2 e3
  cases e1
  subst e3
  refine .inr ⟨g,c,cur.setIfInBounds j (.int .u8 v),by rw[e2,List.length_set],hb,?_,by rw[List.length_set];exact h1,h2,by simpa using h3,?_⟩
  ·rw[setCell_eq_setRow w g j _ 5 (0,0) (.int .u8 v) hg,setRow_heap w g _ _ 5 (0,0) hg]
  ·rw[List.length_set,Array.toList_setIfInBounds,List.map_set,← h4,List.take_set]
theorem Own.cell {base:Nat} {w:World} {g n c:Nat} {zs:List Int} (h:Own base w (.slice (some ⟨g,0,none⟩) n c) zs) (j:Nat) (hj:j < n):w.cell? ⟨g,j,none⟩=some (.int .u8 (zs.getD j 0))∧w.frozen? ⟨g,j,none⟩=false:=by
 constructor
 ·obtain ⟨_,_,_,_,a⟩:=h.toRow
  obtain ⟨b,o,e,hc⟩:=a (by omega)
  cases e
  have:=hc j hj
  rwa [Nat.zero_add] at this
 ·rcases h.2.2 with ⟨e,_⟩|⟨g',cap,cur,e,hb,hg,h1,h2,h3,h4⟩
  ·cases e
  ·injection e with e1 e2 e3
   cases e1
   simp[World.frozen?,hg]
end V4
end Go.Proofs.YtgcojnlngchllaaGreatDoor
