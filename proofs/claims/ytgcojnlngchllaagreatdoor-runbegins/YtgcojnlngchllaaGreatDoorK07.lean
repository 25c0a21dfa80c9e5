/- Package ip6: Decode, by contracts. -/
import Derived.Test.YtgcojnlngchllaaGreatDoorK06
namespace Go.Proofs.YtgcojnlngchllaaGreatDoor
open Go.RowKit
set_option linter.unusedVariables false
set_option maxRecDepth 100000
set_option maxHeartbeats 40000000
namespace V6
def pk0:Value:=.agg (pkC [] [] 0 0 none 0 0)
def err (k:Int):Value:=.iface 28 (.int .i64 k)
theorem decode_len (a:Option Addr) (len cap:Nat) (w:World) (h:len < 40∨360 < len) (hm:len≤maxLen) :
  Calls Tryz.prog 137 #[.slice a len cap] w fun e w'=>e=.returned (.tuple #[pk0,err 5])∧Below w.heap.size w w':=by
 unfold maxLen at hm
 have b:=ki (al_below w (.cells zero6 83))
 have g:=ki (zero_new w)
 unfold zero6 at b g
 rcases h with h|h
 ·go_enter Tryz.func137,Tryz.ntmps137
  go_upto_region 1 with fail
  generalize w.alloc _=W at b g ⊢
  go_wp2_with (first|(refine at_store rfl (.tmp 2) (.tmp 15) rfl rfl g.o [] [] 0 0 none 0 0 rfl ?_;intro i f d;replace b:=ki (d.below b.o (Nat.le_refl _));replace f:=ki f;clear d))
  try simp only[Exit.inBlock,Exit.then]
  refine bodyPost_ret (results_pk rfl _ _ w.heap.size [] [] 0 0 none 0 0 rfl f.o) rfl ?_
  exact ⟨rfl,b.o⟩
 ·have k:¬ len < 40:=by omega
  go_enter Tryz.func137,Tryz.ntmps137
  go_upto_region 1 with fail
  generalize w.alloc _=W at b g ⊢
  go_wp2_with (first|(refine at_store rfl (.tmp 2) (.tmp 15) rfl rfl g.o [] [] 0 0 none 0 0 rfl ?_;intro i f d;replace b:=ki (d.below b.o (Nat.le_refl _));replace f:=ki f;clear d))
  try simp only[Exit.inBlock,Exit.then]
  refine bodyPost_ret (results_pk rfl _ _ w.heap.size [] [] 0 0 none 0 0 rfl f.o) rfl ?_
  exact ⟨rfl,b.o⟩
theorem decode_raw (g off len cap:Nat) (zs:List Int) (w:World) (hr:Row8 w (some ⟨g,off,none⟩) len cap zs) (h40:40≤len) (h360:len≤360) (hcl:len≤cap) (hcm:cap≤maxLen) (r:Bool) (h1:(enc zs=zs)↔r=true) :
  Calls Tryz.prog 137 #[.slice (some ⟨g,off,none⟩) len cap] w fun e w'=>((r=false∧e=.returned (.tuple #[pk0,err 5])) ∨
   (r=true∧∃ a' c',e=.returned (.tuple #[pk (adr zs 8) (adr zs 24) (zs.getD 7 0) (zs.getD 6 0) a' (len - 40) c',.nilIface])∧(Row8 w' a' (len - 40) c' (zs.drop 40)∧len - 40≤c'∧c'≤maxLen)))∧Below w.heap.size w w':=by
 have M:=hr.1
 have p:=hr.2.2.1
 have b:=ki (al_below w (.cells zero6 83))
 have n:=ki (zero_new w)
 unfold zero6 at b n
 have E:=ki hr
 have f:=ki (fun W (h:Row8 W (some ⟨g,off,none⟩) len cap zs)=>read_raw g off len cap zs W h h40 h360 hcl hcm)
 have x:=ki (show Okp (adr zs 8) (adr zs 24) (zs.getD 7 0) (zs.getD 6 0) from ⟨ok6_adr zs p 8,ok6_adr zs p 24,p 7,p 6⟩)
 have J:=ki ((enc_len zs (by omega)).trans M)
 have I:=ki h1
 have i:=ki (show bys (adr zs 8) (adr zs 24) (zs.getD 7 0) (zs.getD 6 0) (zs.drop 40)=enc zs from rfl)
 generalize adr zs 8=s at f x i ⊢
 generalize adr zs 24=d at f x i ⊢
 generalize zs.getD 7 0=t at f x i ⊢
 generalize zs.getD 6 0=k at f x i ⊢
 have l:=ki (fun a' c' W (h:Row8 W a' (len - 40) c' (zs.drop 40))=>encode_ok s d t k a' (len - 40) c' (zs.drop 40) W x.o (by omega) h)
 rw[i.o] at l
 have N:=hcm
 unfold maxLen at N
 unfold pk at l
 clear hr p h1 i
 go_enter Tryz.func137,Tryz.ntmps137
 go_upto_region 1 with fail
 generalize w.alloc _=W0 at b n ⊢
 have P:=n.o.lt
 have O:=ki (fun W=>zero_new W)
 unfold zero6 at O
 go_upto_region 4 with (first
  | (go_at_call 190;refine (f.o _ (E.o.below b.o)).mono ?_;rintro e F ⟨D,c1,rfl,a,G⟩;replace b:=ki (bt b.o G);replace n:=ki (n.o.kept G);replace a:=ki a;clear G)
  | (refine at_store rfl (.tmp 4) (.tmp 18) rfl rfl (O.o F) s d t k D (len - 40) c1 rfl ?_;intro R z B;replace z:=ki z;replace B:=ki B))
 have H:=(al_below F (.cells zero6 83))
 unfold zero6 at H
 have C:Below F.heap.size F R:=B.o.below H (Nat.le_refl _)
 replace b:=ki (bt b.o C)
 replace n:=ki (n.o.kept C)
 replace a:=ki (a.o.kept C)
 clear H C B O f
 generalize F.heap.size=B1 at z ⊢
 go_upto_region 5 with (first
  | (refine at_load rfl (.tmp 4) rfl rfl z.o ?_)
  | (go_at_call 155;refine (l.o D c1 _ a.o.toRow).mono ?_;rintro e Y ⟨v,rfl,K,y⟩;obtain ⟨Z,cE,rfl,Q,V,-,-,o⟩:=K.form (by rw[J.o];omega);rw[J.o] at Q o ⊢;replace b:=ki (bt b.o y);replace n:=ki (n.o.kept y);replace z:=ki (z.o.kept y);replace a:=ki (a.o.kept y);replace o:=ki o;clear y K))
 have L:=ki (equal_any _ _ _ _ _ _ _ _ _ o.o (E.o.below b.o) r I.o)
 have X:=n.o.lt
 cases r
 ·go_wp2_with (first
   | (go_at_call 191;refine L.o.mono ?_;rintro e S ⟨rfl,rfl⟩)
   | (refine at_store rfl (.tmp 2) (.tmp 32) rfl rfl n.o [] [] 0 0 none 0 0 rfl ?_;intro T A q;replace b:=ki (q.below b.o (Nat.le_refl _));replace A:=ki A;clear q))
  try simp only[Exit.inBlock,Exit.then]
  refine bodyPost_ret (results_pk rfl _ _ w.heap.size [] [] 0 0 none 0 0 rfl A.o) rfl ?_
  first
  | exact ⟨rfl,b.o⟩
  | exact ⟨.inl ⟨rfl,rfl⟩,b.o⟩
 ·go_wp2_with (first
   | (go_at_call 191;refine L.o.mono ?_;rintro e S ⟨rfl,rfl⟩)
   | (refine at_load rfl (.tmp 4) rfl rfl z.o ?_)
   | (refine at_store rfl (.tmp 2) (.tmp 34) rfl rfl n.o s d t k D (len - 40) c1 rfl ?_;intro T A q;replace b:=ki (q.below b.o (Nat.le_refl _));replace a:=ki (q.own a.o P);replace A:=ki A;clear q))
  try simp only[Exit.inBlock,Exit.then]
  refine bodyPost_ret (results_pk rfl _ _ w.heap.size s d t k D (len - 40) c1 rfl A.o) rfl ?_
  first
  | exact ⟨⟨D,c1,rfl,a.o.toRow,⟨by have U:=a.o.caps.1;omega,a.o.caps.2⟩⟩,b.o⟩
  | exact ⟨.inr ⟨rfl,D,c1,rfl,a.o.toRow,⟨by have U:=a.o.caps.1;omega,a.o.caps.2⟩⟩,b.o⟩
theorem decode_any (a:Option Addr) (len cap:Nat) (zs:List Int) (w:World) (hr:Row8 w a len cap zs) (hcl:len≤cap) (hcm:cap≤maxLen) :
  Calls Tryz.prog 137 #[.slice a len cap] w fun e w'=>((¬ Good zs∧e=.returned (.tuple #[pk0,err 5])) ∨
   (Good zs∧∃ a' c',e=.returned (.tuple #[pk (adr zs 8) (adr zs 24) (zs.getD 7 0) (zs.getD 6 0) a' (len - 40) c',.nilIface])∧(Row8 w' a' (len - 40) c' (zs.drop 40)∧len - 40≤c'∧c'≤maxLen)))∧Below w.heap.size w w':=by
 have hl:=hr.1
 by_cases hlen:len < 40∨360 < len
 ·refine (decode_len a len cap w hlen hr.2.1).mono ?_
  rintro e w' ⟨rfl,hb⟩
  refine ⟨.inl ⟨fun h=>?_,rfl⟩,hb⟩
  have b:=h.1
  have d:=h.2.1
  omega
 ·obtain ⟨g,f,rfl,_⟩:=hr.2.2.2.2 (by omega)
  classical
  refine (decode_raw g f len cap zs w hr (by omega) (by omega) hcl hcm (decide (enc zs=zs)) (by simp)).mono ?_
  rintro e w' ⟨hh,hb⟩
  refine ⟨?_,hb⟩
  have hs:=same_iff zs hr.2.2.1 (by omega) (by omega)
  rcases hh with ⟨b,d⟩|⟨b,h3⟩
  ·exact .inl ⟨fun h=>of_decide_eq_false b (hs.2 h),d⟩
  ·exact .inr ⟨hs.1 (of_decide_eq_true b),h3⟩
end V6
end Go.Proofs.YtgcojnlngchllaaGreatDoor
