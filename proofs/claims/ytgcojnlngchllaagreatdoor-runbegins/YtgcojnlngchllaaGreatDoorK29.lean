/- Package gate: open4, by a contract. Package gate: close4 and Close6, by contracts. Package gate: tells, and where a flow is led, by contracts. Package gate: what a lead answers, by contracts. Package gate: the bind of a flow, by a contract. -/
import Derived.Test.YtgcojnlngchllaaGreatDoorK28
import Derived.Test.YtgcojnlngchllaaGreatDoorK16
import Derived.Test.YtgcojnlngchllaaGreatDoorK13
namespace Go.Proofs.YtgcojnlngchllaaGreatDoor
open Go.RowKit
set_option linter.unusedVariables false
set_option maxRecDepth 100000
set_option maxHeartbeats 40000000
section
def R4 (w W:World):Prop:=V4.PkIn w.heap.size 0 0 0 0 0 none 0 0 W∧SgIn (w.heap.size+1) [] none 0 0 W∧Below w.heap.size w W
theorem R4.start (w:World):R4 w ((w.alloc (.cells V4.zero4 108)).alloc (.cells zero7 39)):=by
 have d:=al_below w (.cells V4.zero4 108)
 have a:=al_below (w.alloc (.cells V4.zero4 108)) (.cells zero7 39)
 have b:=zero_new (w.alloc (.cells V4.zero4 108))
 rw[World.size_alloc] at b
 exact ⟨(V4.zero_new w).kept a,b,bt d a⟩
theorem R4.kept {w W W':World} (h:R4 w W) (hb:Below W.heap.size W W'):R4 w W':=⟨h.1.kept hb,h.2.1.kept hb,bt h.2.2 hb⟩
def e4 (zs:List Int):Int:=if 20≤zs.length∧zs.length≤340∧P4.wd zs 0=69*256∧P4.wd zs 2=zs.length∧P4.wd zs 6=64*256 then 6 else 5
theorem e4_pos (zs:List Int):e4 zs≠0:=by unfold e4;split <;> decide
def o4s (zs:List Int):Int×List Int×List Int:=oso (zs.getD 9 0) (o4 (P4.src zs) (P4.dst zs) (zs.getD 9 0) ((zs.drop 20).length:Nat)) (zs.getD 8 0) (zs.drop 20)
theorem open4_bad (a:Option Addr) (len cap:Nat) (zs:List Int) (w:World) (hr:Row8 w a len cap zs) (hcl:len≤cap) (hcm:cap≤maxLen) (hG:¬ P4.Good zs) :
  Calls Tryz.prog 101 #[.slice a len cap] w fun e w'=>e=.returned (.tuple #[V4.pk 0 0 0 0 0 none 0 0,.agg (sgC [] none 0 0),err (e4 zs)])∧Below w.heap.size w w':=by
 have b:=ki (R4.start w)
 unfold V4.zero4 zero7 at b
 have l:=ki (show ∀ W,Below w.heap.size w W→Calls Tryz.prog 152 #[.slice a len cap] W fun e w'=>e=.returned (.tuple #[V4.pk 0 0 0 0 0 none 0 0,err (e4 zs)])∧Below W.heap.size W w' from fun W hb=>(V4.decode_any a len cap zs W (hr.below hb) hcl hcm).mono fun e w' ⟨h,hb'⟩=>by
  rcases h with ⟨h1,h⟩|⟨h1,_,h⟩|⟨h,_⟩
  ·rw[show e4 zs=5 from if_neg h1];exact ⟨h,hb'⟩
  ·rw[show e4 zs=6 from if_pos h1];exact ⟨h,hb'⟩
  ·exact absurd h hG)
 generalize e4 zs=E at l ⊢
 unfold err at l ⊢
 have p:=ki (fun W=>V4.zero_new W)
 unfold V4.zero4 at p
 clear hr hG hcl hcm
 go_enter Tryz.func101,Tryz.ntmps101
 go_upto_region 1 with fail
 generalize (World.alloc _ _).alloc _=W0 at b ⊢
 go_upto_region 3 with (first
  | (go_at_call 152;refine (l.o _ b.o.2.2).mono ?_;rintro e r ⟨rfl,i⟩;replace b:=ki (b.o.kept i);have q:=ki (p.o r);clear i)
  | (refine V4.at_store rfl (.tmp 5) (.tmp 12) rfl rfl q.o 0 0 0 0 0 none 0 0 rfl ?_;intro x s k;replace b:=ki (b.o.kept (new_below _ k));clear k s))
 go_wp2_with (first
  | (refine V4.at_store rfl (.tmp 2) (.tmp 16) rfl rfl b.o.1 0 0 0 0 0 none 0 0 rfl ?_;intro y d f;have t:=ki (f.sg b.o.2.1 (by omega));have n:=ki (f.below b.o.2.2 (Nat.le_refl _));replace d:=ki d;clear f b)
  | (refine at_store rfl (.tmp 3) (.tmp 17) rfl rfl t.o [] none 0 0 rfl ?_;intro v o g;replace n:=ki (g.below n.o (Nat.le_succ _));replace d:=ki (show V4.PkIn _ _ _ _ _ _ _ _ _ v from (g.2.2.2.2 _ (by omega)).trans d.o);replace o:=ki o;clear g))
 try simp only[Exit.inBlock,Exit.then]
 refine bodyPost_ret (results_p4 rfl _ _ w.heap.size (w.heap.size+1) 0 0 0 0 0 none 0 0 [] none 0 0 rfl rfl d.o o.o) rfl ?_
 exact ⟨rfl,n.o⟩
attribute [local go_sem ↓] pload4_shut gload_shut pstore4_shut gstore_shut
theorem open4_good (a:Option Addr) (len cap:Nat) (zs:List Int) (w:World) (hr:Row8 w a len cap zs) (hcl:len≤cap) (hcm:cap≤maxLen) (hG:P4.Good zs) :
  Calls Tryz.prog 101 #[.slice a len cap] w fun e w'=>∃ a1 l1 c1 a2 l2 c2,e=.returned (.tuple #[V4.pk (P4.src zs) (P4.dst zs) (zs.getD 8 0) (zs.getD 9 0) (P4.wd zs 4) a1 l1 c1,.agg (sgC (o4s zs).2.1 a2 l2 c2),ev (o4s zs).1])∧Row8 w' a2 l2 c2 (o4s zs).2.2∧Below w.heap.size w w':=by
 have b:=ki (R4.start w)
 unfold V4.zero4 zero7 at b
 have hl:=hr.1
 obtain ⟨n,rfl⟩:∃ n,len=n+20:=⟨len - 20,by have:=hG.1.1;omega⟩
 have af:n≤320:=by have:=hG.1.2.1;omega
 have P:(zs.drop 20).length=n:=by rw[List.length_drop];omega
 have x:=ki (show ∀ W,Below w.heap.size w W→Calls Tryz.prog 152 #[.slice a (n+20) cap] W fun e w'=>∃ a' c',e=.returned (.tuple #[V4.pk (P4.src zs) (P4.dst zs) (zs.getD 8 0) (zs.getD 9 0) (P4.wd zs 4) a' n c',.nilIface])∧Row8 w' a' n c' (zs.drop 20)∧n≤c'∧c'≤maxLen∧Below W.heap.size W w' from fun W hb=>(V4.decode_any a (n+20) cap zs W (hr.below hb) hcl hcm).mono fun e w' ⟨h,hb'⟩=>by
  rcases h with ⟨h,_⟩|⟨_,h,_⟩|⟨_,a',c',e1,e2,e3,e4⟩
  ·exact absurd hG.1 h
  ·exact absurd hG h
  ·rw[Nat.add_sub_cancel] at e1 e2 e3
   exact ⟨a',c',e1,e2,e3,e4,hb'⟩)
 have K:=hr.2.2.1
 have y:=V4.okp_read zs K (by omega)
 have Q:=up255 K 9
 unfold o4s
 rw[P]
 have o:=ki (fun W=>over4_o (P4.src zs) (P4.dst zs) (zs.getD 9 0) n W (decide_eq_true y.1) (decide_eq_true y.2.1) Q (decide_eq_true ⟨by omega,by omega⟩))
 have z:=o4_in (P4.src zs) (P4.dst zs) (zs.getD 9 0) n
 clear hr hG hcl hcm y Q K
 generalize o4 (P4.src zs) (P4.dst zs) (zs.getD 9 0) n=ov at o z ⊢
 generalize P4.src zs=s at x o ⊢
 generalize P4.dst zs=d at x o ⊢
 generalize zs.getD 8 0=h at x ⊢
 generalize zs.getD 9 0=k at x o ⊢
 generalize P4.wd zs 4=i at x ⊢
 have F:=ki (fun W a' c' (r:Row8 W a' n c' (zs.drop 20)) (h1:n≤c') (h2:c'≤maxLen)=>openseg_any k ov h a' n c' (zs.drop 20) W r h1 h2 z)
 generalize oso k ov h (zs.drop 20)=O at F ⊢
 have R:=ki (fun W=>V4.zero_new W)
 have G:=ki (fun W=>zero_new W)
 unfold V4.zero4 at R
 unfold zero7 at G
 clear z
 go_enter Tryz.func101,Tryz.ntmps101
 go_upto_region 1 with fail
 generalize (World.alloc _ _).alloc _=W0 at b ⊢
 go_upto_region 4 with (first
  | (go_at_call 152;refine (x.o _ b.o.2.2).mono ?_;rintro e S ⟨a1,c1,rfl,r1,Z,k2,H⟩;replace b:=ki (b.o.kept H);have I:=ki (R.o S);replace r1:=ki r1;clear H)
  | (refine V4.at_store rfl (.tmp 5) (.tmp 12) rfl rfl I.o s d h k i a1 n c1 rfl ?_;intro w2 f A;replace b:=ki (b.o.kept (new_below _ A));replace r1:=ki (r1.o.below (new_below _ A));replace f:=ki f;clear A))
 clear I
 generalize S.heap.size=B1 at f ⊢
 obtain ⟨L,l1,l2,M,-,N⟩:=f.o.all
 go_upto_region 7 with (first
  | (go_at_call 149;refine (o.o _).mono ?_;rintro e w3 ⟨rfl,q⟩;replace b:=ki (b.o.kept q);replace r1:=ki (r1.o.below q);replace f:=ki (f.o.kept q);clear q L l1 l2 M N))
 obtain ⟨L,l1,l2,M,-,N⟩:=f.o.all
 go_upto_region 8 with (first
  | (go_at_call 139;refine (F.o _ a1 c1 r1.o Z k2).mono ?_;rintro e T ⟨D,E,c4,rfl,B,C⟩;replace b:=ki (b.o.kept C);replace f:=ki (f.o.kept C);have J:=ki (G.o T);replace B:=ki B;clear C L l1 l2 M N r1)
  | (refine at_store rfl (.tmp 8) (.tmp 46) rfl rfl J.o O.2.1 D E c4 rfl ?_;intro g p t;replace b:=ki (b.o.kept (new_below _ t));replace B:=ki (B.o.below (new_below _ t));replace f:=ki (f.o.kept (new_below _ t));replace p:=ki p;clear t))
 clear J
 generalize T.heap.size=C1 at p ⊢
 have q1:=pl4 (w:=g.drew) f.o
 have q2:=SgIn.gl (w:=g.drew) p.o
 obtain ⟨wa,ha,U,l⟩:=held4 (w:=g.drew) b.o.1 s d h k i a1 n c1
 have V:C1≠w.heap.size:=by
  rintro rfl
  have h1:g.heap[w.heap.size]? = _:=p.o
  rw[show g.heap[w.heap.size]? = _ from b.o.1] at h1
  injection h1 with h1
  injection h1 with _ h2
  exact absurd h2 (by decide)
 have X:=l.sg (w:=g.drew) p.o V
 have ag:=X.gl
 obtain ⟨wb,hb,Y,v⟩:=(l.sg (w:=g.drew) b.o.2.1 (by omega)).held O.2.1 D E c4
 have HP:=ki (show V4.PkIn w.heap.size s d h k i a1 n c1 wb from (v.2.2.2.2 _ (by omega)).trans U)
 have HS:=ki Y
 have HB:=ki (v.below (l.below (b.o.2.2.drew) (Nat.le_refl _)) (Nat.le_succ _))
 have HR:=ki (((B.o.below (w':=g.drew) ⟨rfl,rfl,rfl,Nat.le_refl _,fun _ _=>rfl⟩).pastn (no4 (w:=g.drew) b.o.1) l).past (l.sg (w:=g.drew) b.o.2.1 (by omega)) v)
 clear U l Y v X V b f p
 go_region
 all_goals
  go_wp2
  try simp only[Exit.inBlock,Exit.then]
  refine bodyPost_ret (results_p4 rfl _ _ w.heap.size (w.heap.size+1) s d h k i a1 n c1 O.2.1 D E c4 rfl rfl HP.o HS.o) rfl ?_
  exact ⟨a1,n,c1,D,E,c4,rfl,HR.o,HB.o⟩
end
section
theorem okg_len {z:List Int} {n:Nat} (h:Okg z n):up 320 ((hn (el z 0):Nat)+(n:Int))=true:=by
 have a:=hn_le (el z 0)
 have b:=h.2.2.1
 exact decide_eq_true ⟨by omega,by omega⟩
theorem okg_kind {z:List Int} {n:Nat} (h:Okg z n):up 255 (el z 0)=true:=by
 obtain ⟨_,_,_,h|h⟩:=h
 ·exact decide_eq_true ⟨by omega,by omega⟩
 ·exact decide_eq_true ⟨by omega,by omega⟩
def q4b (ps:Array (Nat×Value)):Sem Value:=Instr.build 108 ps
theorem q4b_shut (ps:Array (Nat×Value)):Instr.build 108 ps=q4b ps:=rfl
theorem q4b_run (s d t k:Int) (a:Option Addr) (n c:Nat) (w:World):(q4b #[(0,.int .i64 s),(1,.int .i64 d),(2,.int .i64 t),(3,.int .i64 k),(5,.slice a n c)]).run Tryz.prog w=.ok (V4.pk s d t k 0 a n c) w:=by kernel_rfl
def q6b (ps:Array (Nat×Value)):Sem Value:=Instr.build 83 ps
theorem q6b_shut (ps:Array (Nat×Value)):Instr.build 83 ps=q6b ps:=rfl
theorem q6b_run (s d:List Int) (t k:Int) (a:Option Addr) (n c:Nat) (w:World):(q6b #[(0,.agg (sixC s)),(1,.agg (sixC d)),(2,.int .i64 t),(3,.int .i64 k),(4,.slice a n c)]).run Tryz.prog w=.ok (.agg (V6.pkC s d t k a n c)) w:=by kernel_rfl
attribute [local go_sem ↓] q4b_shut q6b_shut
theorem close4_ok (s d t:Int) (z:List Int) (a:Option Addr) (len cap:Nat) (D:List Int) (w:World) (hs:up 4294967295 s=true) (hd:up 4294967295 d=true) (ht:up 255 t=true) (hz:Okg z len) (hr:Row8 w a len cap D) :
  Calls Tryz.prog 100 #[.int .i64 s,.int .i64 d,.int .i64 t,.agg (sgC z a len cap)] w fun e w'=>∃ v,e=.returned (.tuple #[v,.nilIface])∧Own w.heap.size w' v (V4.bys s d t (el z 0) 0 (eb z (o4 s d (el z 0) ((hn (el z 0):Nat)+(len:Int))) D))∧Below w.heap.size w w':=by
 have K:=okg_kind hz
 have M:=okg_len hz
 have y:=ki (fun W=>size_ok z a len cap W hz)
 have o:=ki (fun W=>over4_o s d (el z 0) ((hn (el z 0):Nat)+(len:Int)) W hs hd K M)
 have L:=o4_in s d (el z 0) ((hn (el z 0):Nat)+(len:Int))
 generalize o4 s d (el z 0) ((hn (el z 0):Nat)+(len:Int))=ov at o L ⊢
 have p:=ki (fun W (r:Row8 W a len cap D)=>enc_form z a len cap ov D W hz L r)
 have C:=hn_le (el z 0)
 have Q:=hz.2.2.1
 have F:V4.Okp s d t (el z 0) 0:=⟨up_true hs,up_true hd,up_true ht,up_true K,by unfold Word;omega⟩
 have h:=ki (fun W g l c (hl:l=hn (el z 0)+len) (r:Row8 W (some ⟨g,0,none⟩) l c (eb z ov D))=>V4.encode_ok s d t (el z 0) 0 (some ⟨g,0,none⟩) l c (eb z ov D) W F (by omega) r)
 have G:=fun a n c W=>q4b_run s d t (el z 0) a n c W
 unfold V4.pk at h G
 generalize eb z ov D=E at p h ⊢
 have f:=ki (sg_new w z a len cap)
 have b:=ki (al_below w (.cells (sgC z a len cap) 39))
 have i:=ki (hr.below b.o)
 generalize hek:el z 0=k at y o p h b f i C G ⊢
 have I:=ki hek
 clear hek
 generalize hH:hn k=H at y o p h C ⊢
 clear hz hr F hs hd ht K M L hH
 go_enter Tryz.func100,Tryz.ntmps100
 go_upto_region 1 with fail
 generalize World.alloc _ _=W0 at f b i ⊢
 go_upto_region 4 with (first
  | (refine at_load rfl (.tmp 7) rfl rfl f.o ?_)
  | (go_at_call 148;refine (y.o _).mono ?_;rintro e T ⟨rfl,q⟩;replace f:=ki (f.o.kept q);replace b:=ki (bt b.o q);replace i:=ki (i.o.below q);clear q))
 have A:=f.o.c0
 rw[I.o] at A
 go_upto_region 7 with (go_at_call 149;refine (o.o _).mono ?_;rintro e U ⟨rfl,x⟩;replace f:=ki (f.o.kept x);replace b:=ki (bt b.o x);replace i:=ki (i.o.below x);clear x)
 clear A
 go_upto_region 10 with (first
  | (refine at_load rfl (.tmp 7) rfl rfl f.o ?_)
  | (go_at_call 150;refine (p.o _ i.o).mono ?_;rintro e V ⟨R,c3,rfl,X,Y,-,N,B⟩;replace f:=ki (f.o.kept B);replace b:=ki (bt b.o B);have O:=ki N;clear B N i))
 have A:=f.o.c0
 rw[I.o] at A
 have HI:=ki (h.o _ R (H+len) c3 rfl O.o)
 go_wp2_with (first
  | (go_at_call 151;refine HI.o.mono ?_;rintro e Z ⟨v5,rfl,P,J⟩;have S:=ki (P.mono b.o.size);replace b:=ki (bt b.o J);clear P J A))
 go_ret2
 exact ⟨_,rfl,S.o,b.o⟩
theorem close6_ok (s d:List Int) (t:Int) (z:List Int) (a:Option Addr) (len cap:Nat) (D:List Int) (w:World) (hs:Ok6 s) (hd:Ok6 d) (ht:up 255 t=true) (hz:Okg z len) (hr:Row8 w a len cap D) :
  Calls Tryz.prog 105 #[.agg (sixC s),.agg (sixC d),.int .i64 t,.agg (sgC z a len cap)] w fun e w'=>∃ v,e=.returned (.tuple #[v,.nilIface])∧Own w.heap.size w' v (V6.bys s d t (el z 0) (eb z (o6 s d (el z 0) ((hn (el z 0):Nat)+(len:Int))) D))∧Below w.heap.size w w':=by
 have M:=okg_kind hz
 have R:=okg_len hz
 have C:=ki (fun W=>size_ok z a len cap W hz)
 have A:=ki (fun W=>over6_ok s d (el z 0) ((hn (el z 0):Nat)+(len:Int)) W hs hd M R)
 have N:=o6_in s d (el z 0) ((hn (el z 0):Nat)+(len:Int)) hs hd
 generalize o6 s d (el z 0) ((hn (el z 0):Nat)+(len:Int))=ov at A N ⊢
 have B:=ki (fun W (r:Row8 W a len cap D)=>enc_form z a len cap ov D W hz N r)
 have I:=hn_le (el z 0)
 have Z:=hz.2.2.1
 have J:V6.Okp s d t (el z 0):=⟨hs,hd,up_true ht,up_true M⟩
 have q:=ki (fun W g l c (hl:l=hn (el z 0)+len) (r:Row8 W (some ⟨g,0,none⟩) l c (eb z ov D))=>V6.encode_ok s d t (el z 0) (some ⟨g,0,none⟩) l c (eb z ov D) W J (by omega) r)
 have S:=fun a n c W=>q6b_run s d t (el z 0) a n c W
 unfold V6.pk at q
 generalize eb z ov D=E at B q ⊢
 have T:=al_below w (.cells (sixC s) 23)
 have O:=al_below (w.alloc (.cells (sixC s) 23)) (.cells (sixC d) 23)
 have G:=al_below ((w.alloc (.cells (sixC s) 23)).alloc (.cells (sixC d) 23)) (.cells (sgC z a len cap) 39)
 have U:=six_al s w
 have P:=six_al d (w.alloc (.cells (sixC s) 23))
 have Q:=sg_new ((w.alloc (.cells (sixC s) 23)).alloc (.cells (sixC d) 23)) z a len cap
 rw[World.size_alloc] at P
 rw[World.size_alloc,World.size_alloc] at Q
 have h:=ki ((U.kept O).kept G)
 have i:=ki (P.kept G)
 have f:=ki Q
 have b:=ki (bt (bt T O) G)
 have x:=ki (hr.below b.o)
 clear T O G U P Q
 generalize hek:el z 0=k at C A B q h i b f x I S ⊢
 have K:=ki hek
 clear hek
 generalize hH:hn k=H at C A B q I ⊢
 clear hz hr J hs hd ht M R N hH
 go_enter Tryz.func105,Tryz.ntmps105
 go_upto_region 1 with fail
 generalize ((World.alloc _ _).alloc _).alloc _=W0 at h i f b x ⊢
 go_upto_region 4 with (first
  | (refine at_load rfl (.tmp 7) rfl rfl f.o ?_)
  | (go_at_call 148;refine (C.o _).mono ?_;rintro e w1 ⟨rfl,o⟩;replace h:=ki (h.o.kept o);replace i:=ki (i.o.kept o);replace f:=ki (f.o.kept o);replace b:=ki (bt b.o o);replace x:=ki (x.o.below o);clear o))
 have F:=f.o.c0
 rw[K.o] at F
 go_upto_region 7 with (first
  | (refine at_load6 rfl (.tmp 4) rfl rfl h.o ?_)
  | (refine at_load6 rfl (.tmp 5) rfl rfl i.o ?_)
  | (go_at_call 138;refine (A.o _).mono ?_;rintro e w2 ⟨rfl,p⟩;replace h:=ki (h.o.kept p);replace i:=ki (i.o.kept p);replace f:=ki (f.o.kept p);replace b:=ki (bt b.o p);replace x:=ki (x.o.below p);clear p))
 clear F
 go_upto_region 10 with (first
  | (refine at_load rfl (.tmp 7) rfl rfl f.o ?_)
  | (go_at_call 150;refine (B.o _ x.o).mono ?_;rintro e w3 ⟨g3,c3,rfl,k1,k2,-,V,y⟩;replace h:=ki (h.o.kept y);replace i:=ki (i.o.kept y);replace f:=ki (f.o.kept y);replace b:=ki (bt b.o y);have X:=ki V;clear y V x))
 have F:=f.o.c0
 rw[K.o] at F
 have HI:=ki (q.o _ g3 (H+len) c3 rfl X.o)
 go_wp2_with (first
  | (refine at_load6 rfl (.tmp 4) rfl rfl h.o ?_)
  | (refine at_load6 rfl (.tmp 5) rfl rfl i.o ?_)
  | (go_at_call 155;refine HI.o.mono ?_;rintro e w5 ⟨v5,rfl,Y,L⟩;have HO:=ki (Y.mono b.o.size);replace b:=ki (bt b.o L);clear Y L F))
 go_ret2
 exact ⟨_,rfl,HO.o,b.o⟩
end
section
variable {x:Int} {f:List Int} {B G:Nat} {W w w':World}
def tell (c:List Int) (inj:Bool) (f:List Int):Bool:=inj && (el f 0 == 6) && eqz (dst f) (vip c)
def oto (z:List Int) (n:Int):Int×Int:=if Em.shp z (Em.pos (n / 8).toNat 3+1)=true then (0,2) else (Em.gat z (n / 8).toNat,0)
theorem eout (z:List Int) (n:Int) (w:World) (h:Ok6 z) (hn:Em.LongP n):Calls Tryz.prog 142 #[.agg (sixC z),.int .i64 n] w fun e w'=>e=.returned (.tuple #[.int .i64 (oto z n).1,ev (oto z n).2])∧Below w.heap.size w w':=by
 obtain ⟨q,rfl,a,_,h12⟩:=Em.long_q hn
 refine (Em.out_long z q w h hn).mono ?_
 rintro e w' ⟨rfl,hb⟩
 refine ⟨?_,hb⟩
 unfold oto
 rw[a,Em.acc_gat z q h h12]
 split <;> rfl
theorem ain (a p:List Int) (n:Int) (w:World) (ha:Ok6 a) (hp:Ok6 p) (h0:0≤n) (h1:n≤128):Calls Tryz.prog 75 #[.agg (sixC a),.agg (sixC p),.int .i64 n] w fun e w'=>e=.returned (.tuple #[.bool (Em.inF a p n),.nilIface])∧Below w.heap.size w w':=Em.in_ok a p n w ha hp h0 h1
def ldo (c:List Int) (f:List Int):Int×Bool×Int :=
 if eqz (dst f) (vip c)=true∧el f 18=el c 8 then (0,true,0)
 else if Em.inF (dst f) (pfx c) (el c 17)=true∧(oto (dst f) (el c 17)).2=0 then (0,false,(oto (dst f) (el c 17)).1) else (4,false,0)
theorem seq_run (a b:List Int) (w:World):(Op.equalIn 10000 23 (.agg (sixC a)) (.agg (sixC b))).run Tryz.prog w=.ok (eqz a b) w:=eq_aggn 9998 a b w
theorem drn {b:Nat} (h:Below b w W) (n:Nat):Below b w (W.drewN n):=h.trans ⟨rfl,rfl,rfl,Nat.le_refl _,fun _ _=>rfl⟩
attribute [local go_sem ↓] hload_shut
theorem tells_any (G:Nat) (c:List Int) (inj:Bool) (a:Option Addr) (n cap:Nat) (tv:Value) (S:Nat) (now:Int) (f:List Int) (w:World) (hG:GtIn G c inj a n cap tv S now w) :
  Calls Tryz.prog 97 #[.pointer (some ⟨G,0,none⟩),.agg (flC f)] w fun e w'=>e=.returned (.bool (tell c inj f))∧Below w.heap.size w w':=by
 have g:=al_below w (.cells (flC f) 89)
 have h:=fl_new f w
 have o:=(hG.kept g).inj
 have gv:=fun k=>GtIn.hv (w:=(w.alloc (.cells (flC f) 89)).drewN k) (hG.kept (drn g k))
 have f0:=h.cell 0 (by omega)
 have fd:=fun k=>FlIn.hd (w:=(w.alloc (.cells (flC f) 89)).drewN k) h
 have l:=fun W=>seq_run (dst f) (vip c) W
 have d:=ki (fun n=>drn g n)
 clear hG h g
 generalize hT:tell c inj f=T
 unfold tell at hT
 cases inj
 ·have b:=ki (show T=false by rw[← hT];rfl)
  clear hT
  go_enter Tryz.func97,Tryz.ntmps97
  go_upto_region 1 with fail
  go_quiet (fail)
  go_wp2
  go_ret
  exact ⟨by rw[b.o];rfl,d.o _⟩
 ·by_cases h6:el f 0=6
  ·have i:(el f 0 == 6)=true:=by simpa using h6
   rw[i] at hT
   have b:=ki (show T=eqz (dst f) (vip c) by rw[← hT];simp)
   clear hT h6
   generalize eqz (dst f) (vip c)=Q at l b
   go_enter Tryz.func97,Tryz.ntmps97
   go_upto_region 1 with fail
   go_quiet (fail)
   go_wp2
   go_ret
   exact ⟨by rw[b.o];rfl,d.o _⟩
  ·have i:(el f 0 == 6)=false:=by simpa using h6
   rw[i] at hT
   have b:=ki (show T=false by rw[← hT];simp)
   clear hT h6
   go_enter Tryz.func97,Tryz.ntmps97
   go_upto_region 1 with fail
   go_quiet (fail)
   go_wp2
   go_ret
   exact ⟨by rw[b.o];rfl,d.o _⟩
def PtIn (B G:Nat) (w:World):Prop:=w.heap[B]? = some (.cells #[.pointer (some ⟨G,0,none⟩)] 30 (0,0))
theorem PtIn.lt (p:PtIn B G w):B < w.heap.size:=(Array.getElem?_eq_some_iff.1 p).1
theorem PtIn.kept (p:PtIn B G w) (hb:Below w.heap.size w w'):PtIn B G w':=(hb.block B p.lt).trans p
theorem PtIn.cell (p:PtIn B G w):w.cell? ⟨B,0,none⟩=some (.pointer (some ⟨G,0,none⟩)):=cell_of_row w B 0 _ _ _ p
def InIn (B:Nat) (x:Int) (w:World):Prop:=w.heap[B]? = some (.cells #[.int .i64 x] 3 (0,0))
theorem InIn.lt (p:InIn B x w):B < w.heap.size:=(Array.getElem?_eq_some_iff.1 p).1
theorem InIn.kept (p:InIn B x w) (hb:Below w.heap.size w w'):InIn B x w':=(hb.block B p.lt).trans p
theorem InIn.cell (p:InIn B x w):w.cell? ⟨B,0,none⟩=some (.int .i64 x):=cell_of_row w B 0 _ _ _ p
theorem InIn.frz (p:InIn B x w):w.frozen? ⟨B,0,none⟩=false:=by
 unfold InIn at p
 simp[World.frozen?,p]
theorem InIn.set (p:InIn B x w) (y:Int):InIn B y (w.setCell ⟨B,0,none⟩ (.int .i64 y))∧Only B w (w.setCell ⟨B,0,none⟩ (.int .i64 y)):=by
 rw[setCell_eq_setRow w B 0 _ _ (0,0) _ p]
 exact ⟨setRow_heap w B _ _ _ (0,0) p,only_setRow _ _ _⟩
theorem in_new (x:Int) (w:World):InIn w.heap.size x (w.alloc (.cells #[.int .i64 x] 3)):=heap_alloc_new w _
def LV (G:Nat) (f:List Int) (l:Bool×Int) (v:Value) (w:World):Prop :=
 (l.1=true∧∃ B F,v=.func (.func 140) #[] #[.pointer (some ⟨B,0,none⟩),.pointer (some ⟨F,0,none⟩)]∧PtIn B G w∧FlIn F f w) ∨
 (l.1=false∧∃ B F,v=.func (.func 143) #[] #[.pointer (some ⟨B,0,none⟩),.pointer (some ⟨F,0,none⟩)]∧InIn B l.2 w∧FlIn F f w)
theorem LV.kept {l:Bool×Int} {v:Value} (h:LV G f l v w) (hb:Below w.heap.size w w'):LV G f l v w':=by
 rcases h with ⟨h1,B,F,rfl,h2,h3⟩|⟨h1,B,F,rfl,h2,h3⟩
 ·exact .inl ⟨h1,B,F,rfl,h2.kept hb,h3.kept hb⟩
 ·exact .inr ⟨h1,B,F,rfl,h2.kept hb,h3.kept hb⟩
def LK (w:World) (G:Nat) (c:List Int) (inj:Bool) (a:Option Addr) (n cap:Nat) (tv:Value) (S:Nat) (now:Int) (f:List Int) (W:World):Prop:=GtIn G c inj a n cap tv S now W∧PtIn w.heap.size G W∧FlIn (w.heap.size+1) f W∧Below w.heap.size w W
theorem LK.kept {c:List Int} {inj:Bool} {a:Option Addr} {n cap:Nat} {tv:Value} {S:Nat} {now:Int} {W':World} (h:LK w G c inj a n cap tv S now f W) (hb:Below W.heap.size W W'):LK w G c inj a n cap tv S now f W':=⟨h.1.kept hb,h.2.1.kept hb,h.2.2.1.kept hb,bt h.2.2.2 hb⟩
theorem LK.only {c:List Int} {inj:Bool} {a:Option Addr} {n cap:Nat} {tv:Value} {S:Nat} {now:Int} {W':World} (h:LK w G c inj a n cap tv S now f W) {D:Nat} (on:Only D W W') (hD:G < D∧w.heap.size+1 < D):LK w G c inj a n cap tv S now f W':=⟨h.1.same (on.2.2.2.2 G (by omega)),(on.2.2.2.2 _ (by omega)).trans h.2.1,(on.2.2.2.2 _ (by omega)).trans h.2.2.1,on.below h.2.2.2 (by omega)⟩
theorem LK.start (G:Nat) (c:List Int) (inj:Bool) (a:Option Addr) (n cap:Nat) (tv:Value) (S:Nat) (now:Int) (f:List Int) (w:World) (hG:GtIn G c inj a n cap tv S now w):LK w G c inj a n cap tv S now f ((w.alloc (.cells #[.pointer (some ⟨G,0,none⟩)] 30)).alloc (.cells (flC f) 89)):=by
 have d:=al_below w (.cells #[.pointer (some ⟨G,0,none⟩)] 30)
 have b:=al_below (w.alloc (.cells #[.pointer (some ⟨G,0,none⟩)] 30)) (.cells (flC f) 89)
 have g:PtIn w.heap.size G (w.alloc (.cells #[.pointer (some ⟨G,0,none⟩)] 30)):=heap_alloc_new w _
 have e:=fl_new f (w.alloc (.cells #[.pointer (some ⟨G,0,none⟩)] 30))
 rw[World.size_alloc] at e
 exact ⟨(hG.kept d).kept b,g.kept b,e,bt d b⟩
theorem leadof_vip (G:Nat) (c:List Int) (inj:Bool) (a:Option Addr) (n cap:Nat) (tv:Value) (S:Nat) (now:Int) (f:List Int) (w:World) (hG:GtIn G c inj a n cap tv S now w) (hv:eqz (dst f) (vip c)=true) (hd:el f 18=el c 8) :
  Calls Tryz.prog 96 #[.pointer (some ⟨G,0,none⟩),.agg (flC f)] w fun e w'=>∃ v,e=.returned (.tuple #[v,.nilIface])∧LV G f (true,0) v w'∧Below w.heap.size w w':=by
 have b:=ki (LK.start G c inj a n cap tv S now f w hG)
 have h:=fun W=>seq_run (dst f) (vip c) W
 rw[hv] at h
 have o:(el f 18 == el c 8)=true:=by simpa using hd
 clear hG hv hd
 go_enter Tryz.func96,Tryz.ntmps96
 go_upto_region 1 with fail
 generalize (World.alloc _ _).alloc _=W at b ⊢
 have fd:=fun k=>FlIn.hd (w:=W.drewN k) b.o.2.2.1
 have g:=b.o.2.2.1.cell 18 (by omega)
 have gv:=fun k=>GtIn.hv (w:=W.drewN k) b.o.1
 have i:=b.o.1.door
 have l:=b.o.2.1.cell
 have d:=ki (fun n=>b.o.kept (W':=World.drewN W n) ⟨rfl,rfl,rfl,Nat.le_refl _,fun _ _=>rfl⟩)
 clear b
 go_quiet (fail)
 clear fd g gv i l
 go_wp2
 go_ret2
 exact ⟨_,rfl,.inl ⟨rfl,_,_,rfl,(d.o _).2.1,(d.o _).2.2.1⟩,(d.o _).2.2.2⟩
theorem leadof_out (G:Nat) (c:List Int) (inj:Bool) (a:Option Addr) (n cap:Nat) (tv:Value) (S:Nat) (now:Int) (f:List Int) (w:World) (hG:GtIn G c inj a n cap tv S now w) (hv:¬ (eqz (dst f) (vip c)=true∧el f 18=el c 8)) (h1:Ok6 (dst f)) (h2:Ok6 (pfx c)) (h3:Em.LongP (el c 17)) :
  Calls Tryz.prog 96 #[.pointer (some ⟨G,0,none⟩),.agg (flC f)] w fun e w'=>(((ldo c f).1≠0∧(ldo c f).1=4∧∃ v,e=.returned (.tuple #[v,err 4]))∨((ldo c f).1=0∧∃ v,e=.returned (.tuple #[v,.nilIface])∧LV G f (ldo c f).2 v w'))∧Below w.heap.size w w':=by
 have p:=ki (LK.start G c inj a n cap tv S now f w hG)
 have X:=fun W=>seq_run (dst f) (vip c) W
 have R:0≤el c 17∧el c 17≤128:=by unfold Em.LongP at h3;omega
 have B:=ki (fun W=>ain (dst f) (pfx c) (el c 17) W h1 h2 R.1 R.2)
 have b:=ki (fun W=>eout (dst f) (el c 17) W h1 h3)
 have r:=ki (show ldo c f=if Em.inF (dst f) (pfx c) (el c 17)=true∧(oto (dst f) (el c 17)).2=0 then (0,false,(oto (dst f) (el c 17)).1) else (4,false,0) from if_neg hv)
 generalize ldo c f=L at r ⊢
 generalize Em.inF (dst f) (pfx c) (el c 17)=I at B r
 generalize oto (dst f) (el c 17)=T at b r
 have l:=ki (show ∀ W',LK w G c inj a n cap tv S now f W'→(hload (.pointer (some ⟨w.heap.size+1,10,none⟩))).run Tryz.prog W'=.ok (.agg (sixC (dst f))) W'∧W'.cell? ⟨w.heap.size,0,none⟩=some (.pointer (some ⟨G,0,none⟩))∧(hload (.pointer (some ⟨G,9,none⟩))).run Tryz.prog W'=.ok (.agg (sixC (pfx c))) W'∧W'.cell? ⟨G,17,none⟩=some (.int .i64 (el c 17)) from fun W' h=>⟨h.2.2.1.hd,h.2.1.cell,h.1.hp,h.1.len⟩)
 have J:(eqz (dst f) (vip c)=false)∨(eqz (dst f) (vip c)=true∧(el f 18 == el c 8)=false):=by
  cases hq:eqz (dst f) (vip c)
  ·exact .inl rfl
  ·exact .inr ⟨rfl,by simpa using fun h=>hv ⟨hq,h⟩⟩
 clear hG hv h1 h2 h3 R
 rcases J with hq|⟨hq,e18⟩
 all_goals
  rw[hq] at X
  clear hq
  go_enter Tryz.func96,Tryz.ntmps96
  go_upto_region 1 with fail
  generalize (World.alloc _ _).alloc _=W at p ⊢
  have fd:=fun k=>FlIn.hd (w:=W.drewN k) p.o.2.2.1
  have Y:=p.o.2.2.1.cell 18 (by omega)
  have gv:=fun k=>GtIn.hv (w:=W.drewN k) p.o.1
  have g8:=p.o.1.door
  have gp:=p.o.2.1.cell
  have N:=ki (fun n=>p.o.kept (W':=World.drewN W n) ⟨rfl,rfl,rfl,Nat.le_refl _,fun _ _=>rfl⟩)
  clear p
  go_quiet (fail)
  clear fd Y gv g8 gp X
  generalize hW:World.drewN _ _=W1
  have p:Hid (LK w G c inj a n cap tv S now f W1):=by rw[← hW];exact N.o _
  clear hW N
  go_upto_region 3 with fail
  have z:=ki (p.o.kept (show Below W1.heap.size W1 W1.drew from (Below.refl _ _).drew))
  obtain ⟨s,t,x,y⟩:=l.o _ z.o
  go_region_held3 (fun W'=>(hload (.pointer (some ⟨w.heap.size+1,10,none⟩))).run Tryz.prog W'=.ok (.agg (sixC (dst f))) W'∧W'.cell? ⟨w.heap.size,0,none⟩=some (.pointer (some ⟨G,0,none⟩))∧(hload (.pointer (some ⟨G,9,none⟩))).run Tryz.prog W'=.ok (.agg (sixC (pfx c))) W'∧W'.cell? ⟨G,17,none⟩=some (.int .i64 (el c 17)))
   (first
    | exact l.o _ z.o
    | exact l.o _ d.o
    | go_keep)
   (first|(go_at_call 75;refine (B.o _).mono ?_;rintro e o ⟨rfl,O⟩;have d:=ki (z.o.kept O);clear O s t x y;obtain ⟨s,t,x,y⟩:=l.o _ d.o))
  clear z p B
  cases I
  ·have g:=ki (show L=(4,false,0) by rw[r.o];simp)
   clear r b
   go_wp2
   go_ret2
   exact ⟨.inl ⟨by rw[g.o];decide,by rw[g.o],_,rfl⟩,d.o.2.2.2⟩
  ·go_upto_region 6 with fail
   have HD:=ki (show G < o.heap.size∧w.heap.size+1 < o.heap.size from ⟨d.o.1.lt,d.o.2.2.1.lt⟩)
   have A:=ki (d.o.kept (show Below o.heap.size o o.drew from (Below.refl _ _).drew))
   have C:=ki (d.o.kept (show Below o.heap.size o (o.alloc (.cells #[.int .i64 0] 3)).drew from (al_below o _).drew))
   have P:=ki (show InIn o.heap.size 0 (o.alloc (.cells #[.int .i64 0] 3)).drew from in_new 0 o)
   clear s t x y
   obtain ⟨s,t,x,y⟩:=l.o _ A.o
   clear d
   obtain ⟨E,hE⟩:∃ E,E=ev T.2:=⟨_,rfl⟩
   have U:=ki hE
   have Z:(T.2=0∧E=.nilIface)∨(T.2≠0∧E=err T.2):=by
    rw[hE]
    by_cases h:T.2=0
    ·exact .inl ⟨h,by rw[h];rfl⟩
    ·exact .inr ⟨h,ev_err h⟩
   rw[← hE] at b
   clear hE
   go_cut [7,8] from 7 to 66 (fun u v wx=>u=E∧∃ D,v=.pointer (some ⟨D,0,none⟩)∧Hid (InIn D T.1 wx∧LK w G c inj a n cap tv S now f wx))
   case first =>
    go_region_held3 (fun W'=>(hload (.pointer (some ⟨w.heap.size+1,10,none⟩))).run Tryz.prog W'=.ok (.agg (sixC (dst f))) W'∧W'.cell? ⟨w.heap.size,0,none⟩=some (.pointer (some ⟨G,0,none⟩))∧(hload (.pointer (some ⟨G,9,none⟩))).run Tryz.prog W'=.ok (.agg (sixC (pfx c))) W'∧W'.cell? ⟨G,17,none⟩=some (.int .i64 (el c 17)))
     (first
      | exact l.o _ A.o
      | exact l.o _ C.o
      | exact l.o _ i.o
      | exact l.o _ Q.o
      | exact l.o _ F.o
      | go_keep)
     (first
      | (go_at_call 142;refine (b.o _).mono ?_;rintro e K ⟨rfl,q⟩;have i:=ki (A.o.kept q);have Q:=ki (i.o.kept (al_below K (.cells #[.int .i64 0] 3)));have F:=ki (i.o.kept (al_below K (.cells #[.int .i64 T.1] 3)));have HF:=ki (in_new T.1 K);clear q s t x y;obtain ⟨s,t,x,y⟩:=l.o _ i.o)
      | (go_at_call 142;refine (b.o _).mono ?_;rintro e K ⟨rfl,q⟩;have i:=ki (C.o.kept q);have H:=ki (P.o.kept q);have Q:=i;have x5:=H.o.cell;have y5:=H.o.frz;have V:=H.o.set T.1;have HF:=ki V.1;have F:=ki (i.o.only V.2 HD.o);clear q V s t x y;obtain ⟨s,t,x,y⟩:=l.o _ i.o))
    all_goals
     go_wp2_with fail
     go_meet
     exact ⟨by first|rfl|exact U.o.symm,_,rfl,ki ⟨HF.o,F.o⟩⟩
   case rest =>
    obtain ⟨rfl,D,rfl,M⟩:=hcut
    clear A C P s t x y b
    rcases Z with ⟨h0,rfl⟩|⟨h0,rfl⟩
    ·have g:=ki (show L=(0,false,T.1) by rw[r.o,if_pos ⟨rfl,h0⟩])
     clear U r
     go_wp2
     go_ret2
     refine ⟨.inr ⟨by rw[g.o],_,rfl,?_⟩,M.o.2.2.2.2⟩
     rw[g.o]
     exact .inr ⟨rfl,_,_,rfl,M.o.1,M.o.2.2.2.1⟩
    ·have g:=ki (show L=(4,false,0) by rw[r.o,if_neg (fun h=>h0 h.2)])
     clear U r
     unfold err
     go_wp2
     go_ret2
     exact ⟨.inl ⟨by rw[g.o];decide,by rw[g.o],_,rfl⟩,M.o.2.2.2.2⟩
end
section
variable {B:Nat} {w:World}
def kst (x y:Value):Sem Unit:=Instr.storeAt 77 x y
theorem kst_shut (x y:Value):Instr.storeAt 77 x y=kst x y:=rfl
theorem BkIn.held {b0:List Int} (p:BkIn B b0 w) (b:List Int):∃ w',(kst (.pointer (some ⟨B,0,none⟩)) (.agg (bkC b))).run Tryz.prog w=.ok () w'∧BkIn B b w'∧Only B w w':=by
 refine ⟨w.setRow B (bkC b),?_,p.stored b,only_setRow _ _ _⟩
 unfold kst
 simp only[Instr.storeAt,Instr.sureAddr,Sem.run_bind,Sem.run_pure,Result.andThen_ok]
 exact run_storeVar_row w B 77 77 _ (bkC b) p (by kernel_rfl) rfl (by unfold bkC;simp[Value.oneCell'])
theorem BkIn.c1 {b:List Int} (p:BkIn B b w):w.cell? ⟨B,1,none⟩=some (.int .i64 (el b 1)):=cell_of_row w B 1 _ _ _ p
theorem BkIn.c2 {b:List Int} (p:BkIn B b w):w.cell? ⟨B,2,none⟩=some (.int .i64 (el b 2)):=cell_of_row w B 2 _ _ _ p
attribute [local go_sem ↓] fload_shut kst_shut
theorem wh1_any (B F G:Nat) (c:List Int) (inj:Bool) (a:Option Addr) (cap:Nat) (tv:Value) (S:Nat) (now:Int) (f:List Int) (bk:List (List Int)) (w:World) (hp:PtIn B G w) (hf:FlIn F f w) (hG:GtIn G c inj a bk.length cap tv S now w) (hb:Bks a bk w) (h1:bk.length≤maxLen) (h2:bk.length≤cap) :
  Calls Tryz.prog 140 #[.pointer (some ⟨B,0,none⟩),.pointer (some ⟨F,0,none⟩)] w fun e w'=>e=.returned (.tuple #[.int .i64 (el (pko (el c 19) f bk).1 1),.int .i64 (el (pko (el c 19) f bk).1 2),ev (pko (el c 19) f bk).2])∧Below w.heap.size w w':=by
 have z:=ki (fun W (hw:Below w.heap.size w W)=>kpick (el c 19) f a cap bk W (hb.below hw) h1 h2)
 generalize pko (el c 19) f bk=R at z ⊢
 have g:=ki (show ∀ W',Below w.heap.size w W'→W'.cell? ⟨B,0,none⟩=some (.pointer (some ⟨G,0,none⟩))∧(fload (.pointer (some ⟨F,0,none⟩))).run Tryz.prog W'=.ok (.agg (flC f)) W'∧W'.cell? ⟨G,19,none⟩=some (.int .i64 (el c 19))∧W'.cell? ⟨G,22,none⟩=some (.slice a bk.length cap) from fun W' h=>⟨(hp.kept h).cell,(hf.kept h).fl,(hG.kept h).seed,(hG.kept h).backs⟩)
 clear hp hf hG hb h1 h2
 have i:=ki ((Below.refl w.heap.size w).drew)
 have k:=ki (show Below w.heap.size w (w.alloc (.cells zero4b 77)).drew from (al_below w _).drew)
 have o:=ki (show BkIn w.heap.size [] (w.alloc (.cells zero4b 77)).drew from bk_zero w)
 have A:=ki (fun W=>bk_zero W)
 unfold zero4b at k o A
 obtain ⟨p,q,r,s⟩:=g.o _ i.o
 go_enter Tryz.func140,Tryz.ntmps140
 go_upto_region 1 with fail
 go_cut [5,6] from 5 to 26 (fun u v wx=>(∃ D,u=.pointer (some ⟨D,0,none⟩)∧Hid (BkIn D R.1 wx))∧v=ev R.2∧Hid (Below w.heap.size w wx))
 case first =>
  go_region_held3 (fun W'=>W'.cell? ⟨B,0,none⟩=some (.pointer (some ⟨G,0,none⟩))∧(fload (.pointer (some ⟨F,0,none⟩))).run Tryz.prog W'=.ok (.agg (flC f)) W'∧W'.cell? ⟨G,19,none⟩=some (.int .i64 (el c 19))∧W'.cell? ⟨G,22,none⟩=some (.slice a bk.length cap))
   (first
    | exact g.o _ i.o
    | exact g.o _ k.o
    | exact g.o _ b.o
    | exact g.o _ t.o
    | exact g.o _ x.o
    | go_keep)
   (first
    | (go_at_call 141;refine (z.o _ i.o).mono ?_;rintro e C ⟨rfl,d⟩;have b:=ki (bt i.o d);have t:=ki (bt b.o (al_below C (.cells #[.int .i64 0,.int .i64 0,.int .i64 0,.int .i64 0,.bool false,.bool false] 77)));obtain ⟨K,L,y,l⟩:=(A.o C).held R.1;have x:=ki (l.below t.o b.o.size);have H:=ki y;clear d p q r s y l;obtain ⟨p,q,r,s⟩:=g.o _ b.o)
    | (go_at_call 141;refine (z.o _ k.o).mono ?_;rintro e C ⟨rfl,d⟩;have b:=ki (bt k.o d);have t:=b;obtain ⟨K,L,y,l⟩:=(o.o.kept d).held R.1;have x:=ki (l.below b.o (Nat.le_refl _));have H:=ki y;clear d p q r s y l;obtain ⟨p,q,r,s⟩:=g.o _ b.o))
  all_goals
   go_wp2_with fail
   go_meet
   exact ⟨⟨_,rfl,H⟩,rfl,x⟩
 case rest =>
  obtain ⟨⟨D,rfl,E⟩,rfl,I⟩:=hcut
  clear i k o A g z p q r s
  have M:=E.o.c1
  have N:=E.o.c2
  have J:=ki (fun n=>drn I.o n)
  clear E I
  go_upto_region 2 with fail
  go_quiet (fail)
  go_wp2
  refine bodyPost_ret (results_tmp3 rfl _ _ _) rfl ?_
  exact ⟨rfl,J.o _⟩
theorem wh2_any (B F:Nat) (x:Int) (f:List Int) (w:World) (hp:InIn B x w) (hf:FlIn F f w) :
  Calls Tryz.prog 143 #[.pointer (some ⟨B,0,none⟩),.pointer (some ⟨F,0,none⟩)] w fun e w'=>e=.returned (.tuple #[.int .i64 x,.int .i64 (el f 18),.nilIface])∧Below w.heap.size w w':=by
 have b:=hp.cell
 have d:=hf.cell 18 (by omega)
 have a:=ki (fun n=>drn (Below.refl w.heap.size w) n)
 clear hp hf
 go_enter Tryz.func143,Tryz.ntmps143
 go_upto_region 1 with fail
 go_quiet (fail)
 go_wp2
 refine bodyPost_ret (results_tmp3 rfl _ _ _) rfl ?_
 exact ⟨rfl,a.o _⟩
end
section
variable {g:GS} {β:Int→Nat} {f:List Int} {D G S cap:Nat} {Ot:Nat→Prop} {a:Option Addr} {tv:Value} {W W' w:World}
def TI (g:GS):Prop:=g.m≤16∧g.bs.length≤128∧BI g.m g.ws g.ts g.bs∧tc g.now=true∧∀ b ∈ g.bs,el b 22≤g.now
def bdo (g:GS) (f:List Int) (flags:Int) (wr:Int×Int×Int):Int×List Int×GS :=
 match fnd g.bs f with
 | some k=>(0,g.bs.getD k [],g.tab g.ws g.ts (g.bs.set k (usd (g.bs.getD k []) g.now)))
 | none=>if el f 0=6∧¬ (flags / 2 % 2=1∧flags / 16 % 2=0) then (9,[],g)
  else if wr.2.2≠0 then (wr.2.2,[],g)
  else match tk g.ws g.ts (cli f) (8*g.m) with
   | none=>(3,[],g)
   | some i=>(0,mkb f (1024+(i:Int)) wr.1 wr.2.1 g.now,g.tab (upd g.ws i (cli f)) (upd g.ts i true) (ins (mkb f (1024+(i:Int)) wr.1 wr.2.1 g.now) g.bs))
theorem and18_all:∀ f:Fin 32,(bits .and .i64 ((f.val:Nat):Int) 18 != 2)=decide (¬ (f.val / 2 % 2=1∧f.val / 16 % 2=0)):=by decide +kernel
theorem and18 (n:Int) (h0:0≤n) (h1:n≤31):(bits .and .i64 n 18 != 2)=decide (¬ (n / 2 % 2=1∧n / 16 % 2=0)):=by
 obtain ⟨k,rfl⟩:=Int.eq_ofNat_of_zero_le h0
 have h:=and18_all ⟨k,by omega⟩
 simp only at h
 rw[h]
 by_cases h2:k / 2 % 2=1∧k / 16 % 2=0
 ·rw[decide_eq_false (fun h=>h h2),decide_eq_false (fun h=>h (by omega))]
 ·rw[decide_eq_true h2,decide_eq_true (by omega)]
theorem BdIn.no8 {B:Nat} {b:List Int} (p:BdIn B b w) (j:Nat) (x:Int):w.cell? ⟨B,j,none⟩≠some (.int .u8 x):=by
 by_cases h:j < 23
 ·rw[p.cell j h];intro h;cases h
 ·rw[cell_of_row w B j _ _ _ p,Array.getElem?_eq_none (by show 23≤j;omega)];intro h;cases h
theorem Kpt.own {O:Nat→Prop} {w1 w2:World} (h:Kpt O w w1) (on:Only D w1 w2) (hD:w.heap.size≤D) (nb:∀ j x,w1.cell? ⟨D,j,none⟩≠some (.int .u8 x)):Kpt O w w2 :=
 ⟨⟨on.1.trans h.1.1,on.2.1.trans h.1.2.1,on.2.2.1.trans h.1.2.2.1,by rw[on.2.2.2.1];exact h.size,fun g hg hn=>(on.2.2.2.2 g (by omega)).trans (h.1.2.2.2.2 g hg hn)⟩,fun a n c zs r=>(h.2 a n c zs r).pastn nb on⟩
theorem GC.other {w':World} (h:GC G a cap tv S Ot β g w) (on:Only D w w') (hD:¬ GO G a Ot (SO S β g.ss) D) (nb:∀ j x,w.cell? ⟨D,j,none⟩≠some (.int .u8 x)):GC G a cap tv S Ot β g w':=by
 have hs:∀ k,GO G a Ot (SO S β g.ss) k→w'.heap[k]? = w.heap[k]?:=fun k hk=>on.2.2.2.2 k (fun e=>hD (e ▸ hk))
 exact ⟨h.1.same (hs G (.inl rfl)),⟨h.2.1.1.same (fun k hk=>hs k (.inr (.inl hk))),fun k hk=>by rw[on.2.2.2.1];exact h.2.1.2.1 k hk,h.2.1.2.2⟩,(tb_kept _ _ _ _ _ _ _ h.2.2.1).2 w' (by rw[on.2.2.2.1];exact Nat.le_refl _) (fun k hk=>hs k (.inr (.inr (.inl hk)))),h.2.2.2.1.same (fun k hk=>hs k (.inr (.inr (.inr hk)))) (fun _ _ _ _ r=>r.pastn nb on),h.2.2.2.2⟩
def BK (w:World) (G:Nat) (a:Option Addr) (cap:Nat) (tv:Value) (S:Nat) (Ot:Nat→Prop) (β:Int→Nat) (g:GS) (f:List Int) (W:World):Prop:=GC G a cap tv S Ot β g W∧FlIn w.heap.size f W∧BdIn (w.heap.size+1) [] W∧Below w.heap.size w W
theorem BK.kept (h:BK w G a cap tv S Ot β g f W) (hb:Below W.heap.size W W'):BK w G a cap tv S Ot β g f W':=⟨h.1.kept hb,h.2.1.kept hb,h.2.2.1.kept hb,bt h.2.2.2 hb⟩
theorem BK.only (h:BK w G a cap tv S Ot β g f W) (h0:GC G a cap tv S Ot β g w) (on:Only D W W') (hD:w.heap.size+1 < D):BK w G a cap tv S Ot β g f W':=by
 have hb:Below w.heap.size w W':=on.below h.2.2.2 (by omega)
 exact ⟨h0.kept hb,(on.2.2.2.2 _ (by omega)).trans h.2.1,(on.2.2.2.2 _ (by omega)).trans h.2.2.1,hb⟩
theorem BK.start (f:List Int) (h:GC G a cap tv S Ot β g w):BK w G a cap tv S Ot β g f ((w.alloc (.cells (flC f) 89)).alloc (.cells zero23 95)):=by
 have d:=al_below w (.cells (flC f) 89)
 have b:=al_below (w.alloc (.cells (flC f) 89)) (.cells zero23 95)
 have e:=bd_zero (w.alloc (.cells (flC f) 89))
 rw[World.size_alloc] at e
 exact ⟨(h.kept d).kept b,(fl_new f w).kept b,e,bt d b⟩
def BQ (w:World) (n:Nat) (G:Nat) (a:Option Addr) (cap:Nat) (tv:Value) (S:Nat) (Ot:Nat→Prop) (β:Int→Nat) (g g':GS) (w':World):Prop:=∃ Ot',GC G a cap tv S Ot' β g' w'∧Kpt (GO G a Ot (SO S β g.ss)) w w'∧∀ k,Ot' k→Ot k∨n≤k
theorem BK.tab (h:BK w G a cap tv S Ot β g f W) (h0:GC G a cap tv S Ot β g w) {ws:Nat→List Int} {ts:Nat→Bool} {bs:List (List Int)} (q:TQ TB tv g.m ws ts bs Ot W W'):BQ w W.heap.size G a cap tv S Ot β g (g.tab ws ts bs) W'∧BdIn (w.heap.size+1) [] W'∧FlIn w.heap.size f W'∧W.heap.size≤W'.heap.size∧∀ D b,BdIn D b W→w.heap.size≤D→BdIn D b W':=by
 obtain ⟨i,l,e,n⟩:=h.1.tab q
 have hs:=h.2.2.2.size
 have d:∀ D,w.heap.size≤D→D < W.heap.size→W'.heap[D]? = W.heap[D]?:=fun D h1 h2=>e.1.2.2.2.2 D h2 (fun ho=>by have:=h0.lt ho;omega)
 exact ⟨⟨i,l,(Kpt.of h.2.2.2).trans e (fun k hk=>.inl hk),n⟩,(d _ (by omega) h.2.2.1.lt).trans h.2.2.1,(d _ (by omega) h.2.1.lt).trans h.2.1,e.size,fun D b hb hD=>(d D hD hb.lt).trans hb⟩
theorem BQ.put {n:Nat} {g':GS} (h:BQ w n G a cap tv S Ot β g g' W) (hss:g'.ss=g.ss) (h0:GC G a cap tv S Ot β g w) {b:List Int} (p:BdIn D b W) (on:Only D W W') (hD:w.heap.size≤D) (hn:D < n):BQ w n G a cap tv S Ot β g g' W':=by
 obtain ⟨d,f,i,e⟩:=h
 refine ⟨d,f.other on ?_ p.no8,i.own on hD p.no8,e⟩
 rintro (h1|h1|h1|h1)
 ·have:=h0.1.lt;omega
 ·have:=h0.2.1.2.1 D h1;omega
 ·rcases e D h1 with h2|h2
  ·have:=h0.ot h2;omega
  ·omega
 ·rw[hss] at h1
  have:=h0.2.2.2.1.lt h1
  omega
theorem BQ.end {n:Nat} {g':GS} (h:BQ w n G a cap tv S Ot β g g' W) (hn:w.heap.size≤n):BQ w w.heap.size G a cap tv S Ot β g g' W:=by
 obtain ⟨b,d,e,f⟩:=h
 exact ⟨b,d,e,fun k hk=>(f k hk).imp id (fun h=>by omega)⟩
theorem BK.still (h0:GC G a cap tv S Ot β g w) (hb:Below w.heap.size w W):BQ w w.heap.size G a cap tv S Ot β g g W:=⟨Ot,h0.kept hb,Kpt.of hb,fun _ hk=>.inl hk⟩
theorem prt_self {bs:List (List Int)} (h:bs.Pairwise (fun a b=>el a 19 < el b 19)) {k:Nat} (hk:k < bs.length):prt bs (el (bs.getD k []) 19)=some k:=by
 unfold prt
 rw[List.find?_range_eq_some]
 refine ⟨by simp,List.mem_range.2 hk,fun j hj=>?_⟩
 have f:=List.pairwise_iff_getElem.1 h j k (by omega) hk hj
 have d:bs.getD j []=bs[j]:=by rw[List.getD_eq_getElem?_getD,List.getElem?_eq_getElem (by omega)];rfl
 have e:bs.getD k []=bs[k]:=by rw[List.getD_eq_getElem?_getD,List.getElem?_eq_getElem hk];rfl
 rw[d,e]
 simp
 omega
end
end Go.Proofs.YtgcojnlngchllaaGreatDoor
