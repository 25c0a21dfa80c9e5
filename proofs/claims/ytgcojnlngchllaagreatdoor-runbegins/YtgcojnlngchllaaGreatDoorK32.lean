/- Package gate: a client's packet, by a contract. Package gate: a server's packet, by a contract. -/
import Derived.Test.YtgcojnlngchllaaGreatDoorK31
namespace Go.Proofs.YtgcojnlngchllaaGreatDoor
open Go.RowKit
set_option linter.unusedVariables false
set_option maxRecDepth 100000
set_option maxHeartbeats 40000000
section
variable {z:List Int} {w:World}
theorem in6_stop (G:Nat) (b:Option Addr) (len bcap:Nat) (E:Int) (w:World)
  (hO:Calls Tryz.prog 95 #[.slice b len bcap] w fun e w'=>(∃ s d h k a1 l1 c1 z a2 l2 c2,e=.returned (.tuple #[.agg (V6.pkC s d h k a1 l1 c1),.agg (sgC z a2 l2 c2),err E]))∧Below w.heap.size w w') :
  Calls Tryz.prog 51 #[.pointer (some ⟨G,0,none⟩),.slice b len bcap] w fun e w'=>e=.returned (.tuple #[.slice none 0 0,err E])∧Below w.heap.size w w':=by
 have n:=ki hO
 have o:=ki (fun W=>R6.start W)
 unfold V6.zero6 zero7 at o
 unfold err at n ⊢
 clear hO
 go_enter Tryz.func51,Tryz.ntmps51
 go_wp2_with (first
  | (go_at_call 95;refine n.o.mono ?_;rintro e r ⟨⟨s,d,h,k,a1,l1,c1,z,a2,l2,c2,rfl⟩,f⟩;have i:=ki (o.o r);have l:=ki f;clear f)
  | (refine V6.at_store rfl (.tmp 6) (.tmp 15) rfl rfl i.o.1 s d h k a1 l1 c1 rfl ?_;intro y t a;have v:=ki (a.sg i.o.2.1 (by omega));have p:=ki (a.below (bt l.o i.o.2.2) l.o.size);clear t a)
  | (refine at_store rfl (.tmp 7) (.tmp 16) rfl rfl v.o z a2 l2 c2 rfl ?_;intro A x g;have q:=ki (g.below p.o (Nat.le_succ_of_le l.o.size));clear x g))
 go_ret2
 exact ⟨rfl,q.o⟩
def IK (w:World) (P Q F:Nat) (s d:List Int) (h k:Int) (a1:Option Addr) (l1 c1:Nat) (z:List Int) (a2:Option Addr) (l2 c2:Nat) (D f:List Int) (W:World):Prop:=V6.PkIn P s d h k a1 l1 c1 W∧SgIn Q z a2 l2 c2 W∧FlIn F f W∧Row8 W a2 l2 c2 D∧w.heap.size≤P∧w.heap.size≤Q∧w.heap.size≤F
theorem IK.kpt {P Q F:Nat} {s d:List Int} {h k:Int} {a1:Option Addr} {l1 c1:Nat} {a2:Option Addr} {l2 c2:Nat} {D f:List Int} {W W':World} (i:IK w P Q F s d h k a1 l1 c1 z a2 l2 c2 D f W) {O:Nat→Prop} (kp:Kpt O W W') (hO:¬ O P∧¬ O Q∧¬ O F):IK w P Q F s d h k a1 l1 c1 z a2 l2 c2 D f W':=by
 obtain ⟨a,b,e,g,l,n,o⟩:=i
 exact ⟨(kp.1.2.2.2.2 P a.lt hO.1).trans a,(kp.1.2.2.2.2 Q b.lt hO.2.1).trans b,(kp.1.2.2.2.2 F e.lt hO.2.2).trans e,kp.2 _ _ _ _ g,l,n,o⟩
theorem IK.kept {P Q F:Nat} {s d:List Int} {h k:Int} {a1:Option Addr} {l1 c1:Nat} {a2:Option Addr} {l2 c2:Nat} {D f:List Int} {W W':World} (i:IK w P Q F s d h k a1 l1 c1 z a2 l2 c2 D f W) (hb:Below W.heap.size W W'):IK w P Q F s d h k a1 l1 c1 z a2 l2 c2 D f W':=i.kpt (Kpt.of (O:=fun _=>False) hb) ⟨id,id,id⟩
theorem leadof_any (G:Nat) (a:Option Addr) (cap:Nat) (tv:Value) (S:Nat) (Ot:Nat→Prop) (β:Int→Nat) (g:GS) (f:List Int) (w:World) (h:GC G a cap tv S Ot β g w) (hc:CI g) (hd:Ok6 (dst f)) :
  Calls Tryz.prog 96 #[.pointer (some ⟨G,0,none⟩),.agg (flC f)] w fun e w'=>(((ldo g.c f).1≠0∧(ldo g.c f).1=4∧∃ v,e=.returned (.tuple #[v,err 4]))∨((ldo g.c f).1=0∧∃ v,e=.returned (.tuple #[v,.nilIface])∧LV G f (ldo g.c f).2 v w'))∧Below w.heap.size w w':=by
 by_cases hv:eqz (dst f) (vip g.c)=true∧el f 18=el g.c 8
 ·have e:ldo g.c f=(0,true,0):=if_pos hv
  rw[e]
  exact (leadof_vip G g.c g.inj a g.bk.length cap tv S g.now f w h.1 hv.1 hv.2).mono fun r w' ⟨v,e1,e2,e3⟩=>⟨.inr ⟨rfl,v,e1,e2⟩,e3⟩
 ·exact leadof_out G g.c g.inj a g.bk.length cap tv S g.now f w h.1 hv hd hc.2.1 hc.2.2.1
theorem bindof_any (G:Nat) (a:Option Addr) (cap:Nat) (tv:Value) (S:Nat) (Ot:Nat→Prop) (β:Int→Nat) (g:GS) (f:List Int) (flags:Int) (v:Value) (w:World) (h:GC G a cap tv S Ot β g w) (hi:TI g) (hc:CI g) (hf:okf f=true) (hd:Ok6 (dst f)) (hfl:0≤flags∧flags≤31) (hl:(ldo g.c f).1=0) (hv:LV G f (ldo g.c f).2 v w) :
  Calls Tryz.prog 98 #[.pointer (some ⟨G,0,none⟩),.agg (flC f),.int .i64 flags,v] w fun e w'=>e=.returned (.tuple #[.agg (bdC (bdo g f flags (whr g f (ldo g.c f).2)).2.1),ev (bdo g f flags (whr g f (ldo g.c f).2)).1])∧BQ w w.heap.size G a cap tv S Ot β g (bdo g f flags (whr g f (ldo g.c f).2)).2.2 w':=by
 cases hn:fnd g.bs f with
 | some k =>
  rw[bdo_some hn]
  exact bindof_has G a cap tv S Ot β g f flags v k w h hi hf hn
 | none =>
  have hw:=fun h0=>whr_ok hc hf hd hl h0
  rcases hv with ⟨hb,B,F,rfl,hp,hF⟩|⟨hb,B,F,rfl,hp,hF⟩
  ·refine bindof_new G a cap tv S Ot β g f flags _ _ _ w h hi hf hfl hn (enters_of Tryz.func140 (by kernel_rfl) rfl) (fun W hW=>?_) hw
   have b:=h.kept hW
   have e:whr g f (ldo g.c f).2=(el (pko (el g.c 19) f g.bk).1 1,el (pko (el g.c 19) f g.bk).1 2,(pko (el g.c 19) f g.bk).2):=if_pos hb
   rw[e]
   exact wh1_any B F G g.c g.inj a cap tv S g.now f g.bk W (hp.kept hW) (hF.kept hW) b.1 b.2.1.1.bks (Nat.le_trans b.2.1.2.2.1 b.2.1.2.2.2) b.2.1.2.2.1
  ·refine bindof_new G a cap tv S Ot β g f flags _ _ _ w h hi hf hfl hn (enters_of Tryz.func143 (by kernel_rfl) rfl) (fun W hW=>?_) hw
   have e:whr g f (ldo g.c f).2=((ldo g.c f).2.2,el f 18,0):=if_neg (by rw[hb];decide)
   rw[e]
   exact wh2_any B F _ f W (hp.kept hW) (hF.kept hW)
def fbu (ps:Array (Nat×Value)):Sem Value:=Instr.build 89 ps
theorem fbu_shut (ps:Array (Nat×Value)):Instr.build 89 ps=fbu ps:=rfl
theorem fbu_run (k:Int) (s:List Int) (p:Int) (d:List Int) (q:Int) (w:World):(fbu #[(0,.int .i64 k),(1,.agg (sixC s)),(2,.int .i64 p),(3,.agg (sixC d)),(4,.int .i64 q)]).run Tryz.prog w=.ok (.agg (flC (fl5 k s p d q))) w:=by kernel_rfl
theorem SgIn.set12 {B:Nat} {a:Option Addr} {len cap:Nat} (p:SgIn B z a len cap w) (f t:Int):SgIn B (zft z f t) a len cap ((w.setCell ⟨B,1,none⟩ (.int .i64 f)).setCell ⟨B,2,none⟩ (.int .i64 t))∧Only B w ((w.setCell ⟨B,1,none⟩ (.int .i64 f)).setCell ⟨B,2,none⟩ (.int .i64 t)):=by
 have b:SgIn B [el z 0,f,el z 2,el z 3,el z 4,el z 5,el z 6] a len cap (w.setCell ⟨B,1,none⟩ (.int .i64 f))∧Only B w (w.setCell ⟨B,1,none⟩ (.int .i64 f)):=by
  rw[setCell_eq_setRow w B 1 _ _ (0,0) _ p]
  exact ⟨setRow_heap w B _ _ _ (0,0) p,only_setRow _ _ _⟩
 generalize w.setCell ⟨B,1,none⟩ (.int .i64 f)=w1 at b ⊢
 have d:SgIn B (zft z f t) a len cap (w1.setCell ⟨B,2,none⟩ (.int .i64 t))∧Only B w1 (w1.setCell ⟨B,2,none⟩ (.int .i64 t)):=by
  rw[setCell_eq_setRow w1 B 2 _ _ (0,0) _ b.1]
  exact ⟨setRow_heap w1 B _ _ _ (0,0) b.1,only_setRow _ _ _⟩
 refine ⟨d.1,d.2.1.trans b.2.1,d.2.2.1.trans b.2.2.1,d.2.2.2.1.trans b.2.2.2.1,d.2.2.2.2.1.trans b.2.2.2.2.1,fun k hk=>(d.2.2.2.2.2 k hk).trans (b.2.2.2.2.2 k hk)⟩
theorem gup_any (G:Nat) (a:Option Addr) (cap:Nat) (tv:Value) (S:Nat) (Ot:Nat→Prop) (β:Int→Nat) (g:GS) (b z:List Int) (a1:Option Addr) (l1 c1:Nat) (D:List Int) (w:World) (h:GC G a cap tv S Ot β g w) (hs:SI g) (hf:okf b=true) (hr:Row8 w a1 l1 c1 D) :
  Calls Tryz.prog 99 #[.pointer (some ⟨G,0,none⟩),.agg (bdC b),.agg (sgC z a1 l1 c1)] w fun e w'=>∃ a2 l2 c2,e=.returned (.tuple #[.agg (sgC (guo g b z D).2.1 a2 l2 c2),ev (guo g b z D).1])∧Row8 w' a2 l2 c2 (guo g b z D).2.2.1∧GQ w G a cap tv S Ot β g (guo g b z D).2.2.2 w':=by
 cases ht:tell g.c g.inj b
 ·exact gup_no G a cap tv S Ot β g b z a1 l1 c1 D w h hr ht
 ·exact gup_yes G a cap tv S Ot β g b z a1 l1 c1 D w h hs hf hr ht
attribute [local go_sem ↓] gload_shut fload_shut bload_shut fbu_shut
theorem in6_go (G:Nat) (a:Option Addr) (cap:Nat) (tv:Value) (S:Nat) (Ot:Nat→Prop) (β:Int→Nat) (g:GS) (b:Option Addr) (len bcap:Nat) (s d:List Int) (hop k:Int) (z D:List Int) (w:World) (h:GC G a cap tv S Ot β g w) (hi:TI g) (hs:SI g) (hc:CI g) (hz:Okg z D.length) (h1:Ok6 s) (h2:Ok6 d) (hh:2≤hop∧hop≤255)
  (hO:Calls Tryz.prog 95 #[.slice b len bcap] w fun e w'=>∃ a1 l1 c1 a2 l2 c2,e=.returned (.tuple #[.agg (V6.pkC s d hop k a1 l1 c1),.agg (sgC z a2 l2 c2),.nilIface])∧Row8 w' a2 l2 c2 D∧Below w.heap.size w w') (f:List Int) (hf:f=fl5 (el z 0) s (el z 1) d (el z 2)) (R:Int×List Int×GS)
  (hR:R=if (ldo g.c f).1≠0 then (4,[],g) else if tell g.c g.inj f=true∧el z 5 / 2 % 2=1∧0 < D.length then (2,[],g) else if (bdo g f (el z 5) (whr g f (ldo g.c f).2)).1≠0 then ((bdo g f (el z 5) (whr g f (ldo g.c f).2)).1,[],(bdo g f (el z 5) (whr g f (ldo g.c f).2)).2.2) else g6b (bdo g f (el z 5) (whr g f (ldo g.c f).2)).2.2 (bdo g f (el z 5) (whr g f (ldo g.c f).2)).2.1 hop z D) :
  Calls Tryz.prog 51 #[.pointer (some ⟨G,0,none⟩),.slice b len bcap] w fun e w'=>∃ a2 l2 c2,e=.returned (.tuple #[.slice a2 l2 c2,ev R.1])∧(Row8 w' a2 l2 c2 R.2.1∧l2≤c2∧c2≤maxLen)∧GQ w G a cap tv S Ot β g R.2.2 w':=by
 have HO:=ki hO
 have H0:=ki h
 have HZ:=ki (fun W=>R6.start W)
 have bw:=ki (fun W=>fl_zero W)
 have ad:=ki (fun W=>bd_zero W)
 unfold V6.zero6 zero7 at HZ
 unfold zero19 at bw
 unfold zero23 at ad
 have ay:okf f=true:=by rw[hf];exact fl5_ok hz h1 h2
 have a9:Ok6 (dst f):=by rw[hf];exact fl5_dst h2
 have bz:=ki hf
 clear hO
 go_enter Tryz.func51,Tryz.ntmps51
 go_upto_region 4 with (first
  | (go_at_call 95;refine HO.o.mono ?_;rintro e w1 ⟨a1,l1,c1,a2,l2,c2,rfl,r1,cx⟩;have HR:=ki (HZ.o w1);have o:=ki cx;have R1:=ki r1;clear cx r1)
  | (refine V6.at_store rfl (.tmp 6) (.tmp 15) rfl rfl HR.o.1 s d hop k a1 l1 c1 rfl ?_;intro w2 p2 b0;have HS:=ki (b0.sg HR.o.2.1 (by omega));have cy:=ki (b0.below HR.o.2.2 (Nat.le_refl _));have P2:=ki p2;clear p2 b0)
  | (refine at_store rfl (.tmp 7) (.tmp 16) rfl rfl HS.o z a2 l2 c2 rfl ?_;intro w3 p3 b2;have b3:=ki (b2.below cy.o (Nat.le_succ _));have P3:=ki (show V6.PkIn _ _ _ _ _ _ _ _ w3 from (b2.2.2.2.2 _ (by omega)).trans P2.o);have S3:=ki p3;clear p3 b2 P2 HS cy))
 clear HO HZ HR
 have hP:=ki o.o.size
 replace R1:=ki (R1.o.below b3.o)
 replace o:=ki (bt o.o b3.o)
 clear b3
 generalize hPP:w1.heap.size=P at P3 S3 hP ⊢
 clear hPP
 have x0:=S3.o.c0
 have x1:=S3.o.c1
 have x2:=S3.o.c2
 have bu:=fun W=>fbu_run (el z 0) s (el z 1) d (el z 2) W
 go_upto_region 5 with (first
  | (refine V6.at_src rfl (.tmp 23) rfl rfl P3.o ?_)
  | (refine V6.at_dst rfl (.tmp 27) rfl rfl P3.o ?_)
  | (refine at_storef rfl (.tmp 9) (.tmp 31) rfl rfl (bw.o w3) (fl5 (el z 0) s (el z 1) d (el z 2)) rfl ?_;intro w5 p5 ar;rw[← bz.o] at p5;have HI:=ki (show IK w P (P+1) w3.heap.size s d hop k a1 l1 c1 z a2 l2 c2 D f w5 from ⟨P3.o.kept (new_below _ ar),S3.o.kept (new_below _ ar),p5,R1.o.below (new_below _ ar),hP.o,Nat.le_succ_of_le hP.o,o.o.size⟩);have ej:=ki (show P+1 < w3.heap.size from S3.o.lt);replace o:=ki (bt o.o (new_below _ ar));clear p5 ar))
 clear x0 x1 x2 P3 S3 R1 bw hP bu
 generalize hFF:w3.heap.size=F at HI ej ⊢
 clear hFF
 have ba:=ki (fun W (hW:Below w.heap.size w W)=>leadof_any G a cap tv S Ot β g f W (h.kept hW) hc a9)
 have x9:=HI.o.2.2.1.fl
 by_cases hl:(ldo g.c f).1=0
 case neg =>
  have ae:=ki (show R=(4,[],g) by rw[hR,if_pos hl])
  have cz:=ki (show ∀ W,Below w.heap.size w W→Calls Tryz.prog 96 #[.pointer (some ⟨G,0,none⟩),.agg (flC f)] W fun e w'=>(∃ v,e=.returned (.tuple #[v,err 4]))∧Below W.heap.size W w' from fun W hW=>(ba.o W hW).mono fun e w' ⟨hh,hb⟩=>by
   rcases hh with ⟨_,_,hh⟩|⟨hh,_⟩
   ·exact ⟨hh,hb⟩
   ·exact absurd hh hl)
  unfold err at cz
  clear ba hl hR h hi hs hc hz h1 h2 hh hf ay a9 ad
  go_wp2_with (go_at_call 96;refine (cz.o _ o.o).mono ?_;rintro e w6 ⟨⟨v6,rfl⟩,af⟩;replace o:=ki (bt o.o af);clear af)
  go_ret2
  rw[ae.o]
  exact ⟨none,0,0,rfl,⟨gt_no _,Nat.le_refl _,by unfold maxLen;omega⟩,H0.o.still o.o⟩
 have c9:=ki (show ∀ W,Below w.heap.size w W→Calls Tryz.prog 96 #[.pointer (some ⟨G,0,none⟩),.agg (flC f)] W fun e w'=>(∃ v,e=.returned (.tuple #[v,.nilIface])∧LV G f (ldo g.c f).2 v w')∧Below W.heap.size W w' from fun W hW=>(ba.o W hW).mono fun e w' ⟨hh,hb⟩=>by
  rcases hh with ⟨hh,_⟩|⟨_,hh⟩
  ·exact absurd hl hh
  ·exact ⟨hh,hb⟩)
 rw[if_neg (fun h=>h hl)] at hR
 have Hi:=ki hi
 have Hs:=ki hs
 have Hc:=ki hc
 have Hz:=ki hz
 have Hh:=ki hh
 have Hl:=ki hl
 have ae:=ki hR
 have au:=ki ay
 have bb:=ki a9
 clear h hi hs hc hz h1 h2 hh hl hR ay a9 hf
 go_upto_region 8 with (go_at_call 96;refine (c9.o _ o.o).mono ?_;rintro e w6 ⟨⟨v6,rfl,da⟩,af⟩;replace HI:=ki (HI.o.kept af);replace o:=ki (bt o.o af);have HV:=ki da;clear af da x9)
 clear ba c9
 have x9:=HI.o.2.2.1.fl
 have x5:=HI.o.2.1.c5
 have x7:=HI.o.2.1.c7
 have ek:=HI.o.2.2.2.1.1
 have av:0≤el z 5∧el z 5≤31:=by
  obtain ⟨_,_,_,hz|hz⟩:=Hz.o
  ·exact hz.2.2.2.1
  ·omega
 have ha:=and2 (el z 5) av.1 av.2
 have HT:=ki (fun W (hW:Below w.heap.size w W)=>tells_any G g.c g.inj a g.bk.length cap tv S g.now f W (H0.o.1.kept hW))
 obtain ⟨X,hX⟩:∃ X:Bool,X=decide (tell g.c g.inj f=true∧el z 5 / 2 % 2=1∧0 < D.length):=⟨_,rfl⟩
 have HX:=ki hX
 clear hX
 go_cut [55] from 41 to 55 (fun u wx=>u=.bool X∧Hid (IK w P (P+1) F s d hop k a1 l1 c1 z a2 l2 c2 D f wx∧Below w.heap.size w wx∧LV G f (ldo g.c f).2 v6 wx))
 case first =>
  cases hT:tell g.c g.inj f
  ·rw[hT] at HT HX
   have q:=ki (show X=false by rw[HX.o];simp)
   go_wp2_with (go_at_call 97;refine (HT.o _ o.o).mono ?_;rintro e I ⟨rfl,l⟩;have p:=ki (And.intro (HI.o.kept l) (And.intro (bt o.o l) (HV.o.kept l)));clear l)
   go_meet
   exact ⟨by rw[q.o],p⟩
  ·rw[hT] at HT HX
   by_cases hy:el z 5 / 2 % 2=1
   ·rw[if_pos hy] at ha
    by_cases hD:0 < D.length
    ·have q:=ki (show X=true by rw[HX.o];simp[hy,hD])
     have em:(0:Int) < (l2:Int):=by omega
     go_wp2_with (go_at_call 97;refine (HT.o _ o.o).mono ?_;rintro e I ⟨rfl,l⟩;have p:=ki (And.intro (HI.o.kept l) (And.intro (bt o.o l) (HV.o.kept l)));replace HI:=ki (HI.o.kept l);clear x9 x5 x7;have x5:=HI.o.2.1.c5;have x7:=HI.o.2.1.c7;clear l)
     go_meet
     exact ⟨(by first|(rw[q.o];done)|(rw[q.o];simp;done)|(rw[q.o];simp;omega)),p⟩
    ·have q:=ki (show X=false by rw[HX.o];simp[hD])
     have em:(l2:Int)=0:=by omega
     go_wp2_with (go_at_call 97;refine (HT.o _ o.o).mono ?_;rintro e I ⟨rfl,l⟩;have p:=ki (And.intro (HI.o.kept l) (And.intro (bt o.o l) (HV.o.kept l)));replace HI:=ki (HI.o.kept l);clear x9 x5 x7;have x5:=HI.o.2.1.c5;have x7:=HI.o.2.1.c7;clear l)
     go_meet
     exact ⟨(by first|(rw[q.o];done)|(rw[q.o];simp;done)|(rw[q.o];simp;omega)),p⟩
   ·rw[if_neg hy] at ha
    have q:=ki (show X=false by rw[HX.o];simp[hy])
    go_wp2_with (go_at_call 97;refine (HT.o _ o.o).mono ?_;rintro e I ⟨rfl,l⟩;have p:=ki (And.intro (HI.o.kept l) (And.intro (bt o.o l) (HV.o.kept l)));replace HI:=ki (HI.o.kept l);clear x9 x5 x7;have x5:=HI.o.2.1.c5;have x7:=HI.o.2.1.c7;clear l)
    go_meet
    exact ⟨by rw[q.o],p⟩
 case rest =>
  obtain ⟨rfl,p⟩:=hcut
  clear HI o HV x9 x5 x7 ha HT ek
  cases X
  case true =>
   have ep:=ki (show R=(2,[],g) by rw[ae.o,if_pos (of_decide_eq_true HX.o.symm)])
   clear ae HX Hi Hs Hc Hz Hh Hl au bb ad bz av
   go_wp2
   go_ret2
   rw[ep.o]
   exact ⟨none,0,0,rfl,⟨gt_no _,Nat.le_refl _,by unfold maxLen;omega⟩,H0.o.still p.o.2.1⟩
  case false =>
   have aw:=ki (show R=if (bdo g f (el z 5) (whr g f (ldo g.c f).2)).1≠0 then ((bdo g f (el z 5) (whr g f (ldo g.c f).2)).1,[],(bdo g f (el z 5) (whr g f (ldo g.c f).2)).2.2) else g6b (bdo g f (el z 5) (whr g f (ldo g.c f).2)).2.2 (bdo g f (el z 5) (whr g f (ldo g.c f).2)).2.1 hop z D by rw[ae.o,if_neg (of_decide_eq_false HX.o.symm)])
   have N:=ki (fun W (hW:Below w.heap.size w W) (hv:LV G f (ldo g.c f).2 v6 W)=>bindof_any G a cap tv S Ot β g f (el z 5) v6 W (H0.o.kept hW) Hi.o Hc.o au.o bb.o av Hl.o hv)
   have bc:=ki (fun h0=>bdo_gb (flags:=el z 5) (wr:=whr g f (ldo g.c f).2) Hi.o au.o (fun h=>whr_ok Hc.o au.o bb.o Hl.o h) h0)
   have Q:=ki (bdo_ss g f (el z 5) (whr g f (ldo g.c f).2))
   generalize bdo g f (el z 5) (whr g f (ldo g.c f).2)=B at N bc Q aw
   clear ae HX Hi Hl au bb bz av
   have x9:=p.o.1.2.2.1.fl
   have x5:=p.o.1.2.1.c5
   by_cases hB:B.1=0
   case neg =>
    have E:=ki (show R=(B.1,[],B.2.2) by rw[aw.o,if_pos hB])
    have b9:=ki (ev_err hB)
    rw[ev_err hB] at N
    unfold err at N
    clear aw hB bc Hs Hc Hz Hh
    go_wp2_with (first
     | (go_at_call 98;refine (N.o _ p.o.2.1 p.o.2.2).mono ?_;rintro e I ⟨rfl,q7⟩;have HQ:=ki (q7.gq Q.o.1);have bd:=ki (ad.o I);clear q7 x9 x5)
     | (refine at_storeb rfl (.tmp 11) (.tmp 64) rfl rfl bd.o B.2.1 rfl ?_;intro w8 p8 ax;replace HQ:=ki (HQ.o.kept (new_below _ ax));clear p8 ax))
    go_ret2
    rw[E.o]
    exact ⟨none,0,0,by rw[b9.o];rfl,⟨gt_no _,Nat.le_refl _,by unfold maxLen;omega⟩,GQ.trans (Kpt.of p.o.2.1) (fun _ hk=>.inl hk) HQ.o⟩
   case pos =>
    have E:=ki (show R=g6b B.2.2 B.2.1 hop z D by rw[aw.o,if_neg (fun h=>h hB)])
    have HG:=ki (bc.o hB)
    rw[hB,ev_nil] at N
    clear aw hB bc
    go_upto_region 13 with (first
     | (go_at_call 98;refine (N.o _ p.o.2.1 p.o.2.2).mono ?_;rintro e I ⟨rfl,q7⟩;have HQ:=ki q7;have bd:=ki (ad.o I);clear q7 x9 x5)
     | (refine at_storeb rfl (.tmp 11) (.tmp 64) rfl rfl bd.o B.2.1 rfl ?_;intro w8 p8 ax;have ag:=ki p8;have be:=ki (new_below _ ax);clear p8 ax))
    obtain ⟨Ot',g7,k7,s7⟩:=HQ.o
    have a6:∀ k,GO G a Ot (SO S β g.ss) k→k < w.heap.size:=fun k hk=>H0.o.lt hk
    have hN:∀ k,GO G a Ot' (SO S β B.2.2.ss) k→GO G a Ot (SO S β g.ss) k∨wc.heap.size≤k:=by
     rw[Q.o.1]
     rintro k (h1|h1|h1|h1)
     ·exact .inl (.inl h1)
     ·exact .inl (.inr (.inl h1))
     ·exact (s7 k h1).imp (fun h=>.inr (.inr (.inl h))) id
     ·exact .inl (.inr (.inr (.inr h1)))
    have bg:∀ k,w.heap.size≤k→k < wc.heap.size→¬ GO G a Ot' (SO S β B.2.2.ss) k:=fun k h1 h2 h3=>by
     rcases hN k h3 with h4|h4
     ·have:=a6 k h4;omega
     ·omega
    have ap:∀ k,w.heap.size≤k→¬ GO G a Ot (SO S β g.ss) k:=fun k h1 h2=>by have:=a6 k h2;omega
    obtain ⟨i1,i2,i3,i4,i5,i6,i7⟩:=p.o.1
    have T:=ki (show ¬ GO G a Ot' (SO S β B.2.2.ss) P∧¬ GO G a Ot' (SO S β B.2.2.ss) (P+1)∧¬ GO G a Ot' (SO S β B.2.2.ss) F∧¬ GO G a Ot' (SO S β B.2.2.ss) I.heap.size from ⟨bg P i5 i1.lt,bg _ i6 i2.lt,bg F i7 i3.lt,fun hk=>by have:=g7.lt hk;omega⟩)
    have M:=ki (((p.o.1).kpt k7 ⟨ap P i5,ap _ i6,ap F i7⟩).kept be.o)
    have db:=ki (g7.kept be.o)
    have eu:wc.heap.size≤I.heap.size:=k7.size
    have dc:=ki (show Kpt (GO G a Ot (SO S β g.ss)) w w8 from ((Kpt.of p.o.2.1).trans k7 (fun _ hk=>.inl hk)).trans (Kpt.of (O:=fun _=>False) be.o) (fun _ h=>h.elim))
    have cb:=ki (show ∀ k,GO G a Ot' (SO S β B.2.2.ss) k→GO G a Ot (SO S β g.ss) k∨w.heap.size≤k from fun k hk=>(hN k hk).imp id (fun h=>Nat.le_trans p.o.2.1.size h))
    have y:=ki (show P+1 < w8.heap.size∧P≠P+1∧I.heap.size < w8.heap.size∧P+1 < I.heap.size∧w.heap.size≤P∧w.heap.size≤I.heap.size from ⟨M.o.2.1.lt,by omega,ag.o.lt,by have:=i2.lt;omega,i5,by have:=p.o.2.1.size;omega⟩)
    have cc:=ki (fun W (hW:GC G a cap tv S Ot' β B.2.2 W) (r:Row8 W a2 l2 c2 D)=>gup_any G a cap tv S Ot' β B.2.2 B.2.1 z a2 l2 c2 D W hW (by have:=Hs.o;unfold SI at this ⊢;rw[Q.o.1];exact this) HG.o.1 r)
    have bh:=ki (fun h0=>guo_ok (g:=B.2.2) (b:=B.2.1) Hz.o h0)
    unfold g6b at E
    rw[Q.o.2.1] at E
    have dd:=ki (show (guo B.2.2 B.2.1 z D).2.2.2.c=g.c from (guo_c B.2.2 B.2.1 z D).1.trans Q.o.2.1)
    generalize guo B.2.2 B.2.1 z D=U at cc bh E dd
    have ew:=ki (show ∀ W O β',GC G a cap tv S O β' U.2.2.2 W→W.cell? ⟨G,18,none⟩=some (.int .i64 (el g.c 18)) from fun W O β' h=>by have h1:=h.1.near;rw[dd.o] at h1;exact h1)
    clear hN bg ap a6 i1 i2 i3 i4 i5 i6 i7 g7 k7 s7 eu HQ p bd ad N be
    generalize I.heap.size=Db at ag T y ⊢
    have ex:=ag.o.bl
    go_upto_region 14 with (first
     | (refine at_load rfl (.tmp 7) rfl rfl M.o.2.1 ?_)
     | (go_at_call 99;refine (cc.o _ db.o M.o.2.2.2.1).mono ?_;rintro e w9 ⟨a3,l3,c3,rfl,r9,q9⟩;obtain ⟨ai,β2,g9,k9,s9⟩:=q9;have de:=ki g9;have bi:=ki s9;have R9:=ki r9;have df:=ki (dc.o.trans k9 cb.o);have P9:=ki (show V6.PkIn _ _ _ _ _ _ _ _ w9 from (k9.1.2.2.2.2 P M.o.1.lt T.o.1).trans M.o.1);have S9:=ki (show SgIn _ _ _ _ _ w9 from (k9.1.2.2.2.2 (P+1) M.o.2.1.lt T.o.2.1).trans M.o.2.1);have D9:=ki (show BdIn _ _ w9 from (k9.1.2.2.2.2 Db ag.o.lt T.o.2.2.2).trans ag.o);clear g9 k9 s9 r9 ex)
     | (refine at_store rfl (.tmp 7) (.tmp 74) rfl rfl S9.o U.2.1 a3 l3 c3 rfl ?_;intro dg dh J;have aq:=ki (show ¬ GO G a ai (SO S β2 U.2.2.2.ss) (P+1) from fun hk=>by rcases bi.o _ hk with h1|h1;exact T.o.2.1 h1;have:=y.o.1;omega);have a7:=ki (de.o.other J aq.o (fun j x=>S9.o.no8 j x));have a8:=ki (df.o.own J (by have:=y.o.2.2.2.2.1;omega) (fun j x=>S9.o.no8 j x));have di:=ki (R9.o.past S9.o J);have dj:=ki (show V6.PkIn _ _ _ _ _ _ _ _ dg from (J.2.2.2.2 P y.o.2.1).trans P9.o);have bj:=ki (show BdIn _ _ dg from (J.2.2.2.2 Db (by have:=y.o;omega)).trans D9.o);have H:=ki dh;clear dh J))
    have cg:=ki (show ∀ k,GO G a ai (SO S β2 U.2.2.2.ss) k→GO G a Ot (SO S β g.ss) k∨w.heap.size≤k from fun k hk=>by
     rcases bi.o k hk with h1|h1
     ·exact cb.o k h1
     ·have:=y.o
      exact .inr (by omega))
    clear de df R9 P9 S9 D9 M db dc ag cc
    by_cases hU:U.1=0
    case neg =>
     have bm:=ki (show R=(U.1,[],U.2.2.2) by rw[E.o,if_pos hU])
     have b9:=ki (ev_err hU)
     rw[ev_err hU]
     unfold err
     clear E hU bh HG Hs Hc Hz Hh
     go_wp2
     go_ret2
     rw[bm.o]
     exact ⟨none,0,0,by rw[b9.o];rfl,⟨gt_no _,Nat.le_refl _,by unfold maxLen;omega⟩,ai,β2,a7.o,a8.o,cg.o⟩
    case pos =>
     have bm:=ki (show R=(0,p4o (el g.c 18) (el B.2.1 20) (hop - 1) (zft U.2.1 (el B.2.1 19) (el B.2.1 21)) U.2.2.1,U.2.2.2) by rw[E.o,if_neg (fun h=>h hU)])
     have dk:=ki (bh.o hU)
     rw[hU,ev_nil]
     clear E hU bh
     have x1:=H.o.c1
     have x2:=H.o.c2
     have y1:=H.o.frz 1
     have y2:=H.o.frz 2
     have e5:=bj.o.cell 19 (by omega)
     have e6:=bj.o.cell 21 (by omega)
     obtain ⟨dl,K⟩:=H.o.set12 (el B.2.1 19) (el B.2.1 21)
     have aq:=ki (show ¬ GO G a ai (SO S β2 U.2.2.2.ss) (P+1) from fun hk=>by rcases bi.o _ hk with h1|h1;exact T.o.2.1 h1;have:=y.o.1;omega)
     have A:=ki (a7.o.other K aq.o (fun j x=>H.o.no8 j x))
     have V:=ki (a8.o.own K (by have:=y.o.2.2.2.2.1;omega) (fun j x=>H.o.no8 j x))
     have aj:=ki (di.o.past H.o K)
     have ak:=ki (show V6.PkIn P s d hop k a1 l1 c1 _ from (K.2.2.2.2 P y.o.2.1).trans dj.o)
     have am:=ki (show BdIn Db B.2.1 _ from (K.2.2.2.2 Db (by have:=y.o;omega)).trans bj.o)
     have Z:=ki dl
     clear dl K a7 a8 di dj bj H
     go_upto_region 16 with fail
     go_region
     clear x1 x2 y1 y2 e5 e6
     generalize (World.setCell _ _ _).setCell _ _=w11 at A V aj ak am Z ⊢
     go_upto_region 17 with fail
     have C:Below w11.heap.size w11 w11.drew:=(Below.refl _ _).drew
     replace A:=ki (A.o.kept C)
     replace V:=ki (V.o.trans (Kpt.of (O:=fun _=>False) C) (fun _ h=>h.elim))
     replace aj:=ki (aj.o.below C)
     replace ak:=ki (ak.o.kept C)
     replace am:=ki (am.o.kept C)
     replace Z:=ki (Z.o.kept C)
     clear C
     generalize w11.drew=w12 at A V aj ak am Z ⊢
     have e7:=aj.o.1
     subst e7
     have hh:=Hh.o
     have dm:=ki (show Okg (zft U.2.1 (el B.2.1 19) (el B.2.1 21)) U.2.2.1.length from zft_ok dk.o.1 HG.o.2.1 ((wd_iff _).1 HG.o.2.2.2.1))
     have bn:=ki (fun W (r:Row8 W a3 U.2.2.1.length c3 U.2.2.1)=>close4_ok (el g.c 18) (el B.2.1 20) (hop - 1) (zft U.2.1 (el B.2.1 19) (el B.2.1 21)) a3 U.2.2.1.length c3 U.2.2.1 W Hc.o.2.2.2.1 (by have:=HG.o.2.2.1;unfold fr at this;rw[Bool.and_eq_true,decide_eq_true_eq,decide_eq_true_eq] at this;exact decide_eq_true this) (decide_eq_true ⟨by omega,by omega⟩) dm.o r)
     have ch:=ki (show p4o (el g.c 18) (el B.2.1 20) (hop - 1) (zft U.2.1 (el B.2.1 19) (el B.2.1 21)) U.2.2.1=V4.bys (el g.c 18) (el B.2.1 20) (hop - 1) (el (zft U.2.1 (el B.2.1 19) (el B.2.1 21)) 0) 0 (eb (zft U.2.1 (el B.2.1 19) (el B.2.1 21)) (o4 (el g.c 18) (el B.2.1 20) (el (zft U.2.1 (el B.2.1 19) (el B.2.1 21)) 0) ((hn (el (zft U.2.1 (el B.2.1 19) (el B.2.1 21)) 0):Nat)+(U.2.2.1.length:Int))) U.2.2.1) from rfl)
     rw[← ch.o] at bn
     have dn:=ki (show 0 < (p4o (el g.c 18) (el B.2.1 20) (hop - 1) (zft U.2.1 (el B.2.1 19) (el B.2.1 21)) U.2.2.1).length by rw[ch.o];unfold V4.bys;rw[List.length_append,show ∀ s d t k i n c,(P4.hd s d t k i n c).length=20 from fun _ _ _ _ _ _ _=>rfl];omega)
     generalize p4o (el g.c 18) (el B.2.1 20) (hop - 1) (zft U.2.1 (el B.2.1 19) (el B.2.1 21)) U.2.2.1=Y at bn dn bm
     generalize zft U.2.1 (el B.2.1 19) (el B.2.1 21)=zz at bn Z
     have fs:IntKind.i64.wrap (hop - 1)=hop - 1:=by rw[IntKind.wrap_i64];omega
     clear ch dm HG Hs Hz dk Hc Hh aq T y bi cb Q
     have HQ:=ki (show ∀ W',GC G a cap tv S ai β2 U.2.2.2 W'→V6.PkIn P s d hop k a1 l1 c1 W'→BdIn Db B.2.1 W'→SgIn (P+1) zz a3 U.2.2.1.length c3 W'→W'.cell? ⟨G,18,none⟩=some (.int .i64 (el g.c 18))∧W'.cell? ⟨Db,20,none⟩=some (.int .i64 (el B.2.1 20))∧W'.cell? ⟨P,16,none⟩=some (.int .i64 hop)∧W'.cell? ⟨P+1,0,none⟩=some (.int .i64 (el zz 0))∧(gload (.pointer (some ⟨P+1,0,none⟩))).run Tryz.prog W'=.ok (.agg (sgC zz a3 U.2.2.1.length c3)) W' from fun W' h1 h2 h3 h4=>⟨ew.o W' _ _ h1,h3.cell 20 (by omega),h2.hop,h4.c0,h4.gl⟩)
     have aa:Below w12.heap.size w12 w12.drew:=(Below.refl _ _).drew
     have dp:=ki (HQ.o w12.drew (A.o.kept aa) (ak.o.kept aa) (am.o.kept aa) (Z.o.kept aa))
     have e8:=ki (aj.o.below aa)
     have d6:=ki aa
     clear aa
     obtain ⟨q1,q2,q3,q4,q5⟩:=dp.o
     go_region_held3 (fun W'=>W'.cell? ⟨G,18,none⟩=some (.int .i64 (el g.c 18))∧W'.cell? ⟨Db,20,none⟩=some (.int .i64 (el B.2.1 20))∧W'.cell? ⟨P,16,none⟩=some (.int .i64 hop)∧W'.cell? ⟨P+1,0,none⟩=some (.int .i64 (el zz 0))∧(gload (.pointer (some ⟨P+1,0,none⟩))).run Tryz.prog W'=.ok (.agg (sgC zz a3 U.2.2.1.length c3)) W')
      (first
       | exact dp.o
       | exact dq.o
       | go_keep)
      (first
       | (go_at_call 100;refine (bn.o _ e8.o).mono ?_;rintro e e9 ⟨ft,rfl,dt,cj⟩;have L:=bt d6.o cj;obtain ⟨fu,fv,rfl,k1,k2,-,-,du⟩:=dt.form dn.o;have dq:=ki (HQ.o e9 (A.o.kept L) (ak.o.kept L) (am.o.kept L) (Z.o.kept L));have cm:=ki L;have HF:=ki (And.intro du (And.intro k1 k2));clear cj L dt du k1 k2 q1 q2 q3 q4 q5;obtain ⟨q1,q2,q3,q4,q5⟩:=dq.o))
     all_goals
      clear q1 q2 q3 q4 q5
      go_wp2
      go_ret2
      rw[bm.o]
      exact ⟨_,_,_,rfl,HF.o,ai,β2,A.o.kept cm.o,V.o.trans (Kpt.of (O:=fun _=>False) cm.o) (fun _ h=>h.elim),cg.o⟩
theorem in6_any (G:Nat) (a:Option Addr) (cap:Nat) (tv:Value) (S:Nat) (Ot:Nat→Prop) (β:Int→Nat) (g:GS) (b:Option Addr) (len bcap:Nat) (zs:List Int) (w:World) (h:GC G a cap tv S Ot β g w) (hi:TI g) (hs:SI g) (hc:CI g) (hr:Row8 w b len bcap zs) (hcl:len≤bcap) (hcm:bcap≤maxLen) :
  Calls Tryz.prog 51 #[.pointer (some ⟨G,0,none⟩),.slice b len bcap] w fun e w'=>∃ a2 l2 c2,e=.returned (.tuple #[.slice a2 l2 c2,ev (g6 g zs).1])∧(Row8 w' a2 l2 c2 (g6 g zs).2.1∧l2≤c2∧c2≤maxLen)∧GQ w G a cap tv S Ot β g (g6 g zs).2.2 w':=by
 by_cases hG:V6.Good zs
 ·by_cases hE:(o6s zs).1=0
  ·have f:=hr.2.2.1
   have i:=oso_ok hE
   have h8:=V6.ok6_adr zs f 8
   have k:=V6.ok6_adr zs f 24
   refine in6_go G a cap tv S Ot β g b len bcap (adr zs 8) (adr zs 24) (zs.getD 7 0) (zs.getD 6 0) (o6s zs).2.1 (o6s zs).2.2 w h hi hs hc i.1 h8 k ⟨i.2.2.2,(f 7).2⟩ ?_ (f6 zs) rfl (g6 g zs) ?_
   ·have d:=open6_good b len bcap zs w hr hcl hcm hG
    rw[hE,ev_nil] at d
    exact d
   ·unfold g6
    rw[if_neg (fun h=>h hG),if_neg (fun h=>h hE)]
  ·have e:g6 g zs=((o6s zs).1,[],g):=by unfold g6;rw[if_neg (fun h=>h hG),if_pos hE]
   rw[e]
   refine (in6_stop G b len bcap (o6s zs).1 w ?_).mono fun r w' ⟨e1,e2⟩=>⟨none,0,0,by rw[e1,ev_err hE],⟨gt_no _,Nat.le_refl _,by unfold maxLen;omega⟩,h.still e2⟩
   have d:=open6_good b len bcap zs w hr hcl hcm hG
   rw[ev_err hE] at d
   exact d.mono fun r w' ⟨a1,l1,c1,a2,l2,c2,e1,_,e3⟩=>⟨⟨_,_,_,_,_,_,_,_,_,_,_,e1⟩,e3⟩
 ·have e:g6 g zs=(5,[],g):=by unfold g6;exact if_pos hG
  rw[e]
  refine (in6_stop G b len bcap 5 w ?_).mono fun r w' ⟨e1,e2⟩=>⟨none,0,0,e1,⟨gt_no _,Nat.le_refl _,by unfold maxLen;omega⟩,h.still e2⟩
  exact (open6_bad b len bcap zs w hr hcl hcm hG).mono fun r w' ⟨e1,e3⟩=>⟨⟨_,_,_,_,_,_,_,_,_,_,_,e1⟩,e3⟩
end
section
def nrk (bs:List (List Int)) (kind p:Int):Option Nat:=match prt bs p with
 | none=>none
 | some k=>if el (bs.getD k []) 0=kind then some k else none
def g4b (g:GS) (b:List Int) (ttl:Int) (z D:List Int):Int×List Int×GS :=
 if (gdo g b z D).1≠0 then ((gdo g b z D).1,[],(gdo g b z D).2.2.2)
 else (0,p6o (dst b) (cli b) (ttl - 1) (zft (gdo g b z D).2.1 (el b 18) (el b 9)) (gdo g b z D).2.2.1,(gdo g b z D).2.2.2)
def g4s (g:GS) (s d ttl kind:Int) (z D:List Int):Int×List Int×GS:=match nrk g.bs kind (el z 2) with
 | none=>(4,[],g)
 | some k=>if d=el g.c 18∧s=el (g.bs.getD k []) 20∧el z 1=el (g.bs.getD k []) 21 then g4b (g.tab g.ws g.ts (g.bs.set k (usd (g.bs.getD k []) g.now))) (g.bs.getD k []) ttl z D else (4,[],g)
def g4 (g:GS) (zs:List Int):Int×List Int×GS :=
 if ¬ ((20≤zs.length∧zs.length≤340∧P4.wd zs 0=69*256∧P4.wd zs 2=zs.length∧P4.wd zs 6=64*256)∧P4.wd zs 10=P4.ckz zs) then (e4 zs,[],g)
 else if (o4s zs).1≠0 then ((o4s zs).1,[],g)
 else g4s g (P4.src zs) (P4.dst zs) (zs.getD 8 0) (zs.getD 9 0) (o4s zs).2.1 (o4s zs).2.2
theorem nrk_none {bs:List (List Int)} {kind p:Int} (h:nrk bs kind p=none):Nr bs kind p [] 4:=by
 unfold nrk at h
 unfold Nr
 cases hp:prt bs p with
 | none=>exact .inl ⟨rfl,rfl,rfl⟩
 | some k =>
  rw[hp] at h
  dsimp only at h
  by_cases hk:el (bs.getD k []) 0=kind
  ·rw[if_pos hk] at h;cases h
  ·exact .inr (.inl ⟨k,rfl,beq_eq_false_iff_ne.2 hk,rfl,rfl⟩)
theorem nrk_some {bs:List (List Int)} {kind p:Int} {k:Nat} (h:nrk bs kind p=some k):Nr bs kind p (bs.getD k []) 0∧prt bs p=some k:=by
 unfold nrk at h
 unfold Nr
 cases hp:prt bs p with
 | none=>rw[hp] at h;cases h
 | some j =>
  rw[hp] at h
  dsimp only at h
  by_cases hk:el (bs.getD j []) 0=kind
  ·rw[if_pos hk] at h
   obtain rfl:=Option.some.inj h
   exact ⟨.inr (.inr ⟨j,rfl,beq_iff_eq.2 hk,rfl,rfl⟩),rfl⟩
  ·rw[if_neg hk] at h;cases h
theorem gdown_any (G:Nat) (a:Option Addr) (cap:Nat) (tv:Value) (S:Nat) (Ot:Nat→Prop) (β:Int→Nat) (g:GS) (b z:List Int) (a1:Option Addr) (l1 c1:Nat) (D:List Int) (w:World) (h:GC G a cap tv S Ot β g w) (hs:SI g) (hr:Row8 w a1 l1 c1 D) :
  Calls Tryz.prog 104 #[.pointer (some ⟨G,0,none⟩),.agg (bdC b),.agg (sgC z a1 l1 c1)] w fun e w'=>∃ a2 l2 c2,e=.returned (.tuple #[.agg (sgC (gdo g b z D).2.1 a2 l2 c2),ev (gdo g b z D).1])∧Row8 w' a2 l2 c2 (gdo g b z D).2.2.1∧GQ w G a cap tv S Ot β g (gdo g b z D).2.2.2 w':=by
 cases ht:sfd g.ss (el b 19) with
 | none=>exact gdown_no G a cap tv S Ot β g b z a1 l1 c1 D w h hr ht
 | some st=>exact gdown_yes G a cap tv S Ot β g b z a1 l1 c1 D st w h hs hr ht
theorem in4_stop (G:Nat) (b:Option Addr) (len bcap:Nat) (E:Int) (w:World)
  (hO:Calls Tryz.prog 101 #[.slice b len bcap] w fun e w'=>(∃ s d t k i a1 l1 c1 z a2 l2 c2,e=.returned (.tuple #[V4.pk s d t k i a1 l1 c1,.agg (sgC z a2 l2 c2),err E]))∧Below w.heap.size w w') :
  Calls Tryz.prog 52 #[.pointer (some ⟨G,0,none⟩),.slice b len bcap] w fun e w'=>e=.returned (.tuple #[.slice none 0 0,err E])∧Below w.heap.size w w':=by
 have o:=ki hO
 have p:=ki (fun W=>R4.start W)
 unfold V4.zero4 zero7 at p
 unfold err at o ⊢
 clear hO
 go_enter Tryz.func52,Tryz.ntmps52
 go_wp2_with (first
  | (go_at_call 101;refine o.o.mono ?_;rintro e v ⟨⟨s,d,h,k,i,a1,l1,c1,z,a2,l2,c2,rfl⟩,f⟩;have l:=ki (p.o v);have n:=ki f;clear f)
  | (refine V4.at_store rfl (.tmp 6) (.tmp 14) rfl rfl l.o.1 s d h k i a1 l1 c1 rfl ?_;intro B x a;have y:=ki (a.sg l.o.2.1 (by omega));have q:=ki (a.below (bt n.o l.o.2.2) n.o.size);clear x a)
  | (refine at_store rfl (.tmp 7) (.tmp 15) rfl rfl y.o z a2 l2 c2 rfl ?_;intro C A g;have r:=ki (g.below q.o (Nat.le_succ_of_le n.o.size));clear A g))
 go_ret2
 exact ⟨rfl,r.o⟩
end
end Go.Proofs.YtgcojnlngchllaaGreatDoor
