/- say, by a contract: a client's word to the VIP. say, by a contract. call, by a contract: a client begins to talk to a four. change, by a contract: the time, or a server. -/
import Derived.Test.YtgcojnlngchllaaGreatDoorK42
import Derived.Test.YtgcojnlngchllaaGreatDoorK41
namespace Go.Proofs.YtgcojnlngchllaaGreatDoor
open Go.RowKit
set_option linter.unusedVariables false
set_option maxRecDepth 100000
set_option maxHeartbeats 40000000
section
variable {G:Nat} {w:World}
def nload (x:Value):Sem Value:=Instr.loadAt 126 x
theorem nload_shut (x:Value):Instr.loadAt 126 x=nload x:=rfl
theorem SnIn.hl {B:Nat} (p:SnIn B G w):(nload (.pointer (some ⟨B,0,none⟩))).run Tryz.prog w=.ok (ssn G) w:=by
 unfold nload
 exact run_loadAt_mid w B 0 126 [.pointer (some ⟨G,0,none⟩)] _ (fun j v hv=>by
  have a:j < 1:=(List.getElem?_eq_some_iff.1 hv).1
  obtain rfl:j=0:=by omega
  rw[p.cell]
  exact hv) Tryz.underlying126 rfl (by kernel_rfl)
def GCf (G:Nat) (c:List Int) (w:World):Prop:=∃ inj a n cap tv S now,GtIn G c inj a n cap tv S now w
theorem GH.cf {g:GS} {O:Nat→Prop} {W:World} (h:GH w G g O W):GCf G g.c W:=by
 obtain ⟨a,b,d,S,e,β,-,h⟩:=h
 exact ⟨_,_,_,_,_,_,_,h.1.1⟩
theorem GCf.kept {c:List Int} {w':World} (h:GCf G c w) (hb:Below w.heap.size w w'):GCf G c w':=by
 obtain ⟨inj,a,n,b,d,S,now,h⟩:=h
 exact ⟨_,_,_,_,_,_,_,h.kept hb⟩
def byI (l:List UInt8):List Int:=l.map fun b=>(b.toNat:Int)
theorem byI_len (l:List UInt8):(byI l).length=l.length:=List.length_map ..
theorem conv_run (l:List UInt8) (W:World):(convert 9 37 (Ad.strv l)).run Tryz.prog W=.ok (.slice (some ⟨W.heap.size,0,none⟩) l.length (grownCap W l.length 0 5)) (Lib.bytesWorld W 5 ⟨l.toArray⟩):=by
 have:=Lib.run_convert_string_bytes (P:=Tryz.prog) W 9 37 5 ⟨l.toArray⟩ Tryz.underlying9 Tryz.underlying37 Tryz.underlying5
 rw[show (⟨l.toArray⟩:ByteArray).size=l.length by simp[ByteArray.size]] at this
 exact this
theorem conv_row (l:List UInt8) (hl:l.length≤100000) (W:World) (c:Nat):Row8 (Lib.bytesWorld W 5 ⟨l.toArray⟩) (some ⟨W.heap.size,0,none⟩) l.length c (byI l):=by
 refine ⟨byI_len l,by unfold maxLen;omega,fun k=>?_,fun h=>absurd h (by simp),fun _=>⟨W.heap.size,0,rfl,fun i hi=>?_⟩⟩
 ·unfold byI
  rw[List.getD_eq_getElem?_getD,List.getElem?_map]
  cases h:l[k]? with
  | none=>simp
  | some b =>
   have:=b.toNat_lt
   simp
   omega
 ·have:=Lib.bytesWorld_cell W 5 ⟨l.toArray⟩ i (by simpa [ByteArray.size] using hi)
  rw[Nat.zero_add,this]
  unfold byI
  simp[List.getD_eq_getElem?_getD,hi]
end
section
set_option linter.unusedSimpArgs false
attribute [local go_sem ↓] hload_shut nload_shut
theorem GCf.hv {G:Nat} {c:List Int} {w:World} (h:GCf G c w):(hload (.pointer (some ⟨G,0,none⟩))).run Tryz.prog w=.ok (.agg (sixC (vip c))) w:=by
 obtain ⟨inj,a,n,b,d,S,now,h⟩:=h
 exact h.hv
theorem GCf.door {G:Nat} {c:List Int} {w:World} (h:GCf G c w):w.cell? ⟨G,8,none⟩=some (.int .i64 (el c 8)):=by
 obtain ⟨inj,a,n,b,d,S,now,h⟩:=h
 exact h.door
theorem snd_c (g:GS) (s d z D:List Int) (hg:IG g) (hs:Ok6 s) (hd:Ok6 d) (hD:SM.Oct D):(snd g s d z D).2.2.c=g.c∧IG (snd g s d z D).2.2:=by
 unfold snd
 by_cases h:sf z D.length=0
 ·rw[if_pos h]
  have:=g6_ig hg (p6o_oct (t:=64) hs hd (by decide) ((sf_iff _ _).1 h) hD)
  exact ⟨this.2.1,this.1⟩
 ·rw[if_neg h];exact ⟨rfl,hg⟩
theorem say_gh {g:GS} (hg:IG g) (s:List Int) (port:Int) (l:List UInt8) (hs:Ok6 s) (hv:Ok6 (vip g.c)) (hl:l.length≤100000):∀ w G O W,GH w G g O W →
  Calls Tryz.prog 175 #[ssn G,.agg (sixC s),.int .i64 port,Ad.strv l] W fun e w'=>GoW w G O W w' (snd g s (vip g.c) [17,port,el g.c 8,0,0,0,0] (byI l)) e:=by
 intro w G O W x
 have t:=ki (fun W1 a len cap (h:GH w G g O W1) (r:Row8 W1 a len cap (byI l))=>show Calls Tryz.prog 233 #[ssn G,.agg (sixC s),.agg (sixC (vip g.c)),.agg #[.int .i64 17,.int .i64 port,.int .i64 (el g.c 8),.int .i64 0,.int .i64 0,.int .i64 0,.int .i64 0,.slice a len cap]] W1 fun e w'=>GoW w G O W1 w' (snd g s (vip g.c) [17,port,el g.c 8,0,0,0,0] (byI l)) e from send_gh hg s (vip g.c) [17,port,el g.c 8,0,0,0,0] (byI l) hs hv w G O W1 a len cap h r)
 have aj:=conv_run l
 have I:=ki (fun W c=>conv_row l hl W c)
 have A:=ki ((snd_c g s (vip g.c) [17,port,el g.c 8,0,0,0,0] (byI l) hg hs hv (conv_row l hl W 0).2.2.1).1)
 generalize snd g s (vip g.c) [17,port,el g.c 8,0,0,0,0] (byI l)=R at t A
 have J:=al_below W (.cells #[.pointer (some ⟨G,0,none⟩)] 126)
 have C:=al_below (W.alloc (.cells #[.pointer (some ⟨G,0,none⟩)] 126)) (.cells (sixC s) 23)
 have L:=sn_new G W
 have D:=six_al s (W.alloc (.cells #[.pointer (some ⟨G,0,none⟩)] 126))
 rw[World.size_alloc] at D
 have y:=ki (L.kept C)
 have E:=ki D
 have z:=ki (bt J C)
 have Y:=ki x
 have Z:=ki (x.cf)
 generalize hd:el g.c 8=dr at t
 clear J C L D
 unfold ssn
 go_enter Tryz.func175,Tryz.ntmps175
 go_upto_region 1 with fail
 generalize (World.alloc _ _).alloc _=W0 at y E z ⊢
 have M:=ki (show ∀ W1,Below W0.heap.size W0 W1→(nload (.pointer (some ⟨W.heap.size,0,none⟩))).run Tryz.prog W1=.ok (ssn G) W1∧(hload (.pointer (some ⟨W.heap.size+1,0,none⟩))).run Tryz.prog W1=.ok (.agg (sixC s)) W1∧W1.cell? ⟨W.heap.size,0,none⟩=some (.pointer (some ⟨G,0,none⟩))∧(hload (.pointer (some ⟨G,0,none⟩))).run Tryz.prog W1=.ok (.agg (sixC (vip g.c))) W1∧W1.cell? ⟨G,8,none⟩=some (.int .i64 dr) from fun W1 hb=>by
  have hc:=Z.out.kept (bt z.out hb)
  exact ⟨(y.out.kept hb).hl,(E.out.kept hb).hl,(y.out.kept hb).cell,hc.hv,by rw[← hd];exact hc.door⟩)
 have N:=ki (show ∀ k,O k→k < W.heap.size from fun k hk=>x.lt hk)
 have P:=ki (show ∀ W2 w1,Below W0.heap.size W0 W2→GN w G R.2.2 O W2 w1→(nload (.pointer (some ⟨W.heap.size,0,none⟩))).run Tryz.prog w1=.ok (ssn G) w1∧(hload (.pointer (some ⟨W.heap.size+1,0,none⟩))).run Tryz.prog w1=.ok (.agg (sixC s)) w1∧w1.cell? ⟨W.heap.size,0,none⟩=some (.pointer (some ⟨G,0,none⟩))∧(hload (.pointer (some ⟨G,0,none⟩))).run Tryz.prog w1=.ok (.agg (sixC (vip g.c))) w1∧w1.cell? ⟨G,8,none⟩=some (.int .i64 dr) from fun W2 w1 hb hgn=>by
  have Q:=y.out.kept hb
  have T:=E.out.kept hb
  have U:=(hgn.beside Q.lt (fun ho=>Nat.lt_irrefl _ (N.out _ ho))).1.trans Q
  have e2:=(hgn.beside T.lt (fun ho=>by have:=N.out _ ho;omega)).1.trans T
  obtain ⟨O',h',-⟩:=hgn
  have hc:=h'.cf
  rw[A.out] at hc
  exact ⟨SnIn.hl U,SixIn.hl e2,SnIn.cell U,hc.hv,by rw[← hd];exact hc.door⟩)
 have V:=ki (fun W1 (hb:Below W0.heap.size W0 W1)=>hb.trans ((Lib.bytesWorld_below W1 5 ⟨l.toArray⟩).mono hb.size))
 have B:=ki (show Below W0.heap.size W0 W0.drew from (Below.refl _ _).drew)
 have p:=ki (V.out W0.drew B.out)
 clear x
 obtain ⟨q1,q2,q3,q4,q5⟩:=M.out _ B.out
 refine wp_region_held_drew (S:=(fun W'=>(nload (.pointer (some ⟨W.heap.size,0,none⟩))).run Tryz.prog W'=.ok (ssn G) W'∧(hload (.pointer (some ⟨W.heap.size+1,0,none⟩))).run Tryz.prog W'=.ok (.agg (sixC s)) W'∧W'.cell? ⟨W.heap.size,0,none⟩=some (.pointer (some ⟨G,0,none⟩))∧(hload (.pointer (some ⟨G,0,none⟩))).run Tryz.prog W'=.ok (.agg (sixC (vip g.c))) W'∧W'.cell? ⟨G,8,none⟩=some (.int .i64 dr))) (by kernel_rfl) ⟨q1,q2,q3,q4,q5⟩ (fun hHeld=>?_)
 (refine wpAnyH_take (i:=0) (v:=(ssn G)) rfl (by kernel_rfl) (by kernel_rfl) (by kernel_rfl) (fun _ _ _ h=>h) (Or.inl ⟨by rfl,fun w hSw=>by (obtain ⟨b,d,f,n,o⟩:=hSw;go_simp)⟩) hHeld ?_);(try simp only[Act.put,List.setIfInBounds_toArray,List.set_cons_zero,List.set_cons_succ])
 (refine wpAnyH_take (i:=1) (v:=(.agg (sixC s))) rfl (by kernel_rfl) (by kernel_rfl) (by kernel_rfl) (fun _ _ _ h=>h) (Or.inl ⟨by rfl,fun w hSw=>by (obtain ⟨b,d,f,n,o⟩:=hSw;go_simp)⟩) hHeld ?_);(try simp only[Act.put,List.setIfInBounds_toArray,List.set_cons_zero,List.set_cons_succ])
 (refine wpAnyH_take (i:=2) (v:=(.pointer (some ⟨W.heap.size,0,none⟩))) rfl (by kernel_rfl) (by kernel_rfl) (by kernel_rfl) (fun _ _ _ h=>h) (Or.inl ⟨by rfl,fun w hSw=>by (obtain ⟨b,d,f,n,o⟩:=hSw;go_simp)⟩) hHeld ?_);(try simp only[Act.put,List.setIfInBounds_toArray,List.set_cons_zero,List.set_cons_succ])
 (refine wpAnyH_take (i:=3) (v:=(.pointer (some ⟨G,0,none⟩))) rfl (by kernel_rfl) (by kernel_rfl) (by kernel_rfl) (fun _ _ _ h=>h) (Or.inl ⟨by rfl,fun w hSw=>by (obtain ⟨b,d,f,n,o⟩:=hSw;go_simp)⟩) hHeld ?_);(try simp only[Act.put,List.setIfInBounds_toArray,List.set_cons_zero,List.set_cons_succ])
 (refine wpAnyH_take (i:=4) (v:=(.pointer (some ⟨G,0,none⟩))) rfl (by kernel_rfl) (by kernel_rfl) (by kernel_rfl) (fun _ _ _ h=>h) (Or.inl ⟨by rfl,fun w hSw=>by (obtain ⟨b,d,f,n,o⟩:=hSw;go_simp)⟩) hHeld ?_);(try simp only[Act.put,List.setIfInBounds_toArray,List.set_cons_zero,List.set_cons_succ])
 (refine wpAnyH_take (i:=5) (v:=(.pointer (some ⟨G,0,none⟩))) rfl (by kernel_rfl) (by kernel_rfl) (by kernel_rfl) (fun _ _ _ h=>h) (Or.inl ⟨by rfl,fun w hSw=>by (obtain ⟨b,d,f,n,o⟩:=hSw;go_simp)⟩) hHeld ?_);(try simp only[Act.put,List.setIfInBounds_toArray,List.set_cons_zero,List.set_cons_succ])
 (refine wpAnyH_take (i:=6) (v:=(.pointer (some ⟨G,0,none⟩))) rfl (by kernel_rfl) (by kernel_rfl) (by kernel_rfl) (fun _ _ _ h=>h) (Or.inl ⟨by rfl,fun w hSw=>by (obtain ⟨b,d,f,n,o⟩:=hSw;go_simp)⟩) hHeld ?_);(try simp only[Act.put,List.setIfInBounds_toArray,List.set_cons_zero,List.set_cons_succ])
 (refine wpAnyH_take (i:=7) (v:=(.agg (sixC (vip g.c)))) rfl (by kernel_rfl) (by kernel_rfl) (by kernel_rfl) (fun _ _ _ h=>h) (Or.inl ⟨by rfl,fun w hSw=>by (obtain ⟨b,d,f,n,o⟩:=hSw;go_simp)⟩) hHeld ?_);(try simp only[Act.put,List.setIfInBounds_toArray,List.set_cons_zero,List.set_cons_succ])
 (refine wpAnyH_take (i:=8) (v:=(.int .i64 port)) rfl (by kernel_rfl) (by kernel_rfl) (by kernel_rfl) (fun _ _ _ h=>h) (Or.inl ⟨by rfl,fun w hSw=>by (obtain ⟨b,d,f,n,o⟩:=hSw;go_simp)⟩) hHeld ?_);(try simp only[Act.put,List.setIfInBounds_toArray,List.set_cons_zero,List.set_cons_succ])
 (refine wpAnyH_take (i:=9) (v:=(.pointer (some ⟨W.heap.size,0,none⟩))) rfl (by kernel_rfl) (by kernel_rfl) (by kernel_rfl) (fun _ _ _ h=>h) (Or.inl ⟨by rfl,fun w hSw=>by (obtain ⟨b,d,f,n,o⟩:=hSw;go_simp)⟩) hHeld ?_);(try simp only[Act.put,List.setIfInBounds_toArray,List.set_cons_zero,List.set_cons_succ])
 (refine wpAnyH_take (i:=10) (v:=(.pointer (some ⟨G,0,none⟩))) rfl (by kernel_rfl) (by kernel_rfl) (by kernel_rfl) (fun _ _ _ h=>h) (Or.inl ⟨by rfl,fun w hSw=>by (obtain ⟨b,d,f,n,o⟩:=hSw;go_simp)⟩) hHeld ?_);(try simp only[Act.put,List.setIfInBounds_toArray,List.set_cons_zero,List.set_cons_succ])
 (refine wpAnyH_take (i:=11) (v:=(.pointer (some ⟨G,0,none⟩))) rfl (by kernel_rfl) (by kernel_rfl) (by kernel_rfl) (fun _ _ _ h=>h) (Or.inl ⟨by rfl,fun w hSw=>by (obtain ⟨b,d,f,n,o⟩:=hSw;go_simp)⟩) hHeld ?_);(try simp only[Act.put,List.setIfInBounds_toArray,List.set_cons_zero,List.set_cons_succ])
 (refine wpAnyH_take (i:=12) (v:=(.pointer (some ⟨G,0,none⟩))) rfl (by kernel_rfl) (by kernel_rfl) (by kernel_rfl) (fun _ _ _ h=>h) (Or.inl ⟨by rfl,fun w hSw=>by (obtain ⟨b,d,f,n,o⟩:=hSw;go_simp)⟩) hHeld ?_);(try simp only[Act.put,List.setIfInBounds_toArray,List.set_cons_zero,List.set_cons_succ])
 (refine wpAnyH_take (i:=13) (v:=(.pointer (some ⟨G,8,none⟩))) rfl (by kernel_rfl) (by kernel_rfl) (by kernel_rfl) (fun _ _ _ h=>h) (Or.inl ⟨by rfl,fun w hSw=>by (obtain ⟨b,d,f,n,o⟩:=hSw;go_simp)⟩) hHeld ?_);(try simp only[Act.put,List.setIfInBounds_toArray,List.set_cons_zero,List.set_cons_succ])
 (refine wpAnyH_take (i:=14) (v:=(.int .i64 dr)) rfl (by kernel_rfl) (by kernel_rfl) (by kernel_rfl) (fun _ _ _ h=>h) (Or.inl ⟨by rfl,fun w hSw=>by (obtain ⟨b,d,f,n,o⟩:=hSw;go_simp)⟩) hHeld ?_);(try simp only[Act.put,List.setIfInBounds_toArray,List.set_cons_zero,List.set_cons_succ])
 (refine wpAnyH_take (i:=15) (v:=(Ad.strv l)) rfl (by kernel_rfl) (by kernel_rfl) (by kernel_rfl) (fun _ _ _ h=>h) (Or.inl ⟨by rfl,fun w hSw=>by (obtain ⟨b,d,f,n,o⟩:=hSw;go_simp)⟩) hHeld ?_);(try simp only[Act.put,List.setIfInBounds_toArray,List.set_cons_zero,List.set_cons_succ])
 refine wpAnyH_ready (rs:=[16]) (by kernel_rfl) (by simp) (AllReadyH.cons rfl (fun K hK=>?_) AllReadyH.nil)
 go_simp
 refine hK.out _ _ (M.out _ p.out) (fun hHeld=>?_)
 clear hK K
 (try simp only[Act.put,List.setIfInBounds_toArray,List.set_cons_zero,List.set_cons_succ])
 (refine wpAnyH_take (i:=17) (v:=(.agg #[.int .i64 17,.int .i64 port,.int .i64 dr,.int .i64 0,.int .i64 0,.int .i64 0,.int .i64 0,.slice (some ⟨W0.heap.size,0,none⟩) l.length (grownCap W0.drew l.length 0 5)])) rfl (by kernel_rfl) (by kernel_rfl) (by kernel_rfl) (fun _ _ _ h=>h) (Or.inl ⟨by rfl,fun w hSw=>by (obtain ⟨b,d,f,n,o⟩:=hSw;go_simp)⟩) hHeld ?_);(try simp only[Act.put,List.setIfInBounds_toArray,List.set_cons_zero,List.set_cons_succ])
 refine wpAnyH_ready (rs:=[18]) (by kernel_rfl) (by simp) (AllReadyH.cons rfl (fun K hK=>?_) AllReadyH.nil)
 go_simp
 go_at_call 233
 refine (t.out _ _ _ _ (Y.out.kept (bt z.out p.out)) (I.out _ _)).mono ?_
 rintro e w1 ⟨⟨F,H,c2,rfl,q⟩,hgn⟩
 have HA:=ki q
 have X:=ki (hgn.pre (bt z.out p.out))
 refine hK.out _ _ (P.out _ _ p.out hgn) (fun hHeld=>?_)
 clear hK K q hgn
 (try simp only[Act.put,List.setIfInBounds_toArray,List.set_cons_zero,List.set_cons_succ])
 (refine wpAnyH_take (i:=19) (v:=(.slice F H c2)) rfl (by kernel_rfl) (by kernel_rfl) (by kernel_rfl) (fun _ _ _ h=>h) (Or.inl ⟨by rfl,fun w hSw=>by (obtain ⟨b,d,f,n,o⟩:=hSw;go_simp)⟩) hHeld ?_);(try simp only[Act.put,List.setIfInBounds_toArray,List.set_cons_zero,List.set_cons_succ])
 (refine wpAnyH_take (i:=20) (v:=(ev R.1)) rfl (by kernel_rfl) (by kernel_rfl) (by kernel_rfl) (fun _ _ _ h=>h) (Or.inl ⟨by rfl,fun w hSw=>by (obtain ⟨b,d,f,n,o⟩:=hSw;go_simp)⟩) hHeld ?_);(try simp only[Act.put,List.setIfInBounds_toArray,List.set_cons_zero,List.set_cons_succ])
 (refine wpAnyH_take (i:=21) (v:=(.slice F H c2)) rfl (by kernel_rfl) (by kernel_rfl) (by kernel_rfl) (fun _ _ _ h=>h) (Or.inl ⟨by rfl,fun w hSw=>by (obtain ⟨b,d,f,n,o⟩:=hSw;go_simp)⟩) hHeld ?_);(try simp only[Act.put,List.setIfInBounds_toArray,List.set_cons_zero,List.set_cons_succ])
 (refine wpAnyH_take (i:=22) (v:=(ev R.1)) rfl (by kernel_rfl) (by kernel_rfl) (by kernel_rfl) (fun _ _ _ h=>h) (Or.inl ⟨by rfl,fun w hSw=>by (obtain ⟨b,d,f,n,o⟩:=hSw;go_simp)⟩) hHeld ?_);(try simp only[Act.put,List.setIfInBounds_toArray,List.set_cons_zero,List.set_cons_succ])
 refine wpAnyH_done (by kernel_rfl) ?_ _
 simp only[List.getElem_toArray,List.getElem_cons_succ,List.getElem_cons_zero,List.set_cons_succ,List.set_cons_zero]
 go_wp2
 go_ret2
 exact ⟨⟨F,H,c2,rfl,HA.out⟩,X.out⟩
end
section
set_option linter.unusedSimpArgs false
variable {w:World}
def sstore (x y:Value):Sem Unit:=Instr.storeAt 23 x y
theorem sstore_shut (x y:Value):Instr.storeAt 23 x y=sstore x y:=rfl
theorem SixIn.sts {B:Nat} {z0:List Int} (p:SixIn B z0 w) (z:List Int):∃ w',(sstore (.pointer (some ⟨B,0,none⟩)) (.agg (sixC z))).run Tryz.prog w=.ok () w'∧SixIn B z w'∧Only B w w':=by
 refine ⟨_,?_,setRow_heap w B _ _ _ (0,0) p,only_setRow _ _ _⟩
 unfold sstore
 simp only[Instr.storeAt,Instr.sureAddr,Sem.run_bind,Sem.run_pure,Result.andThen_ok]
 exact run_storeVar_row w B 23 23 _ (sixC z) p (by kernel_rfl) rfl (by unfold sixC;simp[Value.oneCell'])
attribute [local go_sem ↓] hload_shut nload_shut sstore_shut
theorem GCf.hp {G:Nat} {c:List Int} (h:GCf G c w):(hload (.pointer (some ⟨G,9,none⟩))).run Tryz.prog w=.ok (.agg (sixC (pfx c))) w:=by
 obtain ⟨inj,a,n,b,d,S,now,h⟩:=h
 exact h.hp
theorem GCf.len {G:Nat} {c:List Int} (h:GCf G c w):w.cell? ⟨G,17,none⟩=some (.int .i64 (el c 17)):=by
 obtain ⟨inj,a,n,b,d,S,now,h⟩:=h
 exact h.len
def CK (c:List Int):Prop:=Ok6 (vip c)∧Ok6 (pfx c)∧el c 17=96∧Em2.shp (pfx c) 12=false
def toz (c:List Int) (f:Int):List Int:=Em2.tz (pfx c) 12 f
theorem toz_ok {c:List Int} (h:CK c) (f:Int):Ok6 (toz c f):=Em2.tz_ok (pfx c) 12 f h.2.1
theorem into_run {c:List Int} (h:CK c) (f:Int) (h0:0≤f) (h1:f≤4294967295) (W:World):Calls Tryz.prog 238 #[.agg (sixC (pfx c)),.int .i64 96,.int .i64 f] W fun e w'=>e=.returned (.tuple #[.agg (sixC (toz c f)),.nilIface])∧Below W.heap.size W w':=by
 refine (Em2.into_ok (pfx c) 12 f W h.2.1 (by unfold Em2.LongP;omega) h.2.2.2 ⟨h0,h1⟩).mono ?_
 rintro e w' ⟨a,hb⟩
 refine ⟨?_,hb⟩
 rw[a,Em2.into_six (pfx c) 12 f h.2.1 (by unfold Em2.LongP;omega) h.2.2.2]
 rfl
theorem at_loadn {ops:Array Oper} {rest:List Oper} {o:Oper} {f:Act} {Q:Exit→Act→World→Prop} (hgd:o.guard=none) (x:Operand) (ho:o.op=.load 126 x)
  {B G:Nat} (hx:f.eval x=.pointer (some ⟨B,0,none⟩)) (p:SnIn B G w)
  (hK:wpList Tryz.prog ops Q rest (f.put o.dst (ssn G)) w):wpList Tryz.prog ops Q (o::rest) f w :=
 wpList_load_row hgd 126 x ho B hx 126 _ (0,0) _ p Tryz.underlying126 rfl (by kernel_rfl) hK
theorem call_gh {g:GS} (hg:IG g) (s:List Int) (port f door:Int) (hs:Ok6 s) (hc:CK g.c) (h0:0≤f) (h1:f≤4294967295):∀ w G O W,GH w G g O W →
  Calls Tryz.prog 180 #[ssn G,.agg (sixC s),.int .i64 port,.int .i64 f,.int .i64 door] W fun e w'=>GoW w G O W w' (snd g s (toz g.c f) [6,port,door,0,0,2,0] []) e:=by
 intro w G O W H
 have y:=ki (fun W1 (h:GH w G g O W1)=>show Calls Tryz.prog 233 #[ssn G,.agg (sixC s),.agg (sixC (toz g.c f)),.agg #[.int .i64 6,.int .i64 port,.int .i64 door,.int .i64 0,.int .i64 0,.int .i64 2,.int .i64 0,.slice none 0 0]] W1 fun e w'=>GoW w G O W1 w' (snd g s (toz g.c f) [6,port,door,0,0,2,0] []) e from send_gh hg s (toz g.c f) [6,port,door,0,0,2,0] [] hs (toz_ok hc f) w G O W1 none 0 0 h (row8_nil _))
 have t:=ki (fun W1=>into_run hc f h0 h1 W1)
 generalize snd g s (toz g.c f) [6,port,door,0,0,2,0] []=R at y
 generalize toz g.c f=Z at y t
 have Q:=al_below W (.cells #[.pointer (some ⟨G,0,none⟩)] 126)
 have I:=al_below (W.alloc (.cells #[.pointer (some ⟨G,0,none⟩)] 126)) (.cells (sixC s) 23)
 have T:=sn_new G W
 have J:=six_al s (W.alloc (.cells #[.pointer (some ⟨G,0,none⟩)] 126))
 rw[World.size_alloc] at J
 have A:=ki (T.kept I)
 have L:=ki J
 have B:=ki (bt Q I)
 have HG:=ki H
 have U:=ki (H.cf)
 have E:=hc.2.2.1
 clear Q I T J H
 unfold ssn
 go_enter Tryz.func180,Tryz.ntmps180
 go_upto_region 1 with fail
 generalize (World.alloc _ _).alloc _=W0 at A L B ⊢
 have p:=ki (show ∀ W1,Below W0.heap.size W0 W1→(hload (.pointer (some ⟨G,9,none⟩))).run Tryz.prog W1=.ok (.agg (sixC (pfx g.c))) W1∧W1.cell? ⟨W.heap.size,0,none⟩=some (.pointer (some ⟨G,0,none⟩))∧W1.cell? ⟨G,17,none⟩=some (.int .i64 96) from fun W1 hb=>by
  have V:=U.out.kept (bt B.out hb)
  exact ⟨V.hp,(A.out.kept hb).cell,by rw[← E];exact V.len⟩)
 clear E hc h0 h1 hs hg
 have x:=ki (show Below W0.heap.size W0 W0.drew from (Below.refl _ _).drew)
 go_cut [12,13] from 12 to 30 (fun u v wx=>(∃ D,u=.pointer (some ⟨D,0,none⟩)∧Hid (SixIn D Z wx))∧v=.nilIface∧Hid (Below W0.heap.size W0 wx))
 case first =>
  refine wp_region_held_drew (S:=(fun W'=>(hload (.pointer (some ⟨G,9,none⟩))).run Tryz.prog W'=.ok (.agg (sixC (pfx g.c))) W'∧W'.cell? ⟨W.heap.size,0,none⟩=some (.pointer (some ⟨G,0,none⟩))∧W'.cell? ⟨G,17,none⟩=some (.int .i64 96))) (by kernel_rfl) (p.out _ x.out) (fun hHeld=>?_)
  (refine wpAnyH_take (i:=0) (v:=(.pointer (some ⟨W.heap.size,0,none⟩))) rfl (by kernel_rfl) (by kernel_rfl) (by kernel_rfl) (fun _ _ _ h=>h) (Or.inl ⟨by rfl,fun w hSw=>by (obtain ⟨a,b,d⟩:=hSw;go_simp)⟩) hHeld ?_);(try simp only[Act.put,List.setIfInBounds_toArray,List.set_cons_zero,List.set_cons_succ,List.getElem_toArray,List.getElem_cons_succ,List.getElem_cons_zero])
  (refine wpAnyH_take (i:=1) (v:=(.pointer (some ⟨G,0,none⟩))) rfl (by kernel_rfl) (by kernel_rfl) (by kernel_rfl) (fun _ _ _ h=>h) (Or.inl ⟨by rfl,fun w hSw=>by (obtain ⟨a,b,d⟩:=hSw;go_simp)⟩) hHeld ?_);(try simp only[Act.put,List.setIfInBounds_toArray,List.set_cons_zero,List.set_cons_succ,List.getElem_toArray,List.getElem_cons_succ,List.getElem_cons_zero])
  (refine wpAnyH_take (i:=2) (v:=(.pointer (some ⟨G,0,none⟩))) rfl (by kernel_rfl) (by kernel_rfl) (by kernel_rfl) (fun _ _ _ h=>h) (Or.inl ⟨by rfl,fun w hSw=>by (obtain ⟨a,b,d⟩:=hSw;go_simp)⟩) hHeld ?_);(try simp only[Act.put,List.setIfInBounds_toArray,List.set_cons_zero,List.set_cons_succ,List.getElem_toArray,List.getElem_cons_succ,List.getElem_cons_zero])
  (refine wpAnyH_take (i:=3) (v:=(.pointer (some ⟨G,0,none⟩))) rfl (by kernel_rfl) (by kernel_rfl) (by kernel_rfl) (fun _ _ _ h=>h) (Or.inl ⟨by rfl,fun w hSw=>by (obtain ⟨a,b,d⟩:=hSw;go_simp)⟩) hHeld ?_);(try simp only[Act.put,List.setIfInBounds_toArray,List.set_cons_zero,List.set_cons_succ,List.getElem_toArray,List.getElem_cons_succ,List.getElem_cons_zero])
  (refine wpAnyH_take (i:=4) (v:=(.pointer (some ⟨G,9,none⟩))) rfl (by kernel_rfl) (by kernel_rfl) (by kernel_rfl) (fun _ _ _ h=>h) (Or.inl ⟨by rfl,fun w hSw=>by (obtain ⟨a,b,d⟩:=hSw;go_simp)⟩) hHeld ?_);(try simp only[Act.put,List.setIfInBounds_toArray,List.set_cons_zero,List.set_cons_succ,List.getElem_toArray,List.getElem_cons_succ,List.getElem_cons_zero])
  (refine wpAnyH_take (i:=5) (v:=(.agg (sixC (pfx g.c)))) rfl (by kernel_rfl) (by kernel_rfl) (by kernel_rfl) (fun _ _ _ h=>h) (Or.inl ⟨by rfl,fun w hSw=>by (obtain ⟨a,b,d⟩:=hSw;go_simp)⟩) hHeld ?_);(try simp only[Act.put,List.setIfInBounds_toArray,List.set_cons_zero,List.set_cons_succ,List.getElem_toArray,List.getElem_cons_succ,List.getElem_cons_zero])
  (refine wpAnyH_take (i:=6) (v:=(.pointer (some ⟨W.heap.size,0,none⟩))) rfl (by kernel_rfl) (by kernel_rfl) (by kernel_rfl) (fun _ _ _ h=>h) (Or.inl ⟨by rfl,fun w hSw=>by (obtain ⟨a,b,d⟩:=hSw;go_simp)⟩) hHeld ?_);(try simp only[Act.put,List.setIfInBounds_toArray,List.set_cons_zero,List.set_cons_succ,List.getElem_toArray,List.getElem_cons_succ,List.getElem_cons_zero])
  (refine wpAnyH_take (i:=7) (v:=(.pointer (some ⟨G,0,none⟩))) rfl (by kernel_rfl) (by kernel_rfl) (by kernel_rfl) (fun _ _ _ h=>h) (Or.inl ⟨by rfl,fun w hSw=>by (obtain ⟨a,b,d⟩:=hSw;go_simp)⟩) hHeld ?_);(try simp only[Act.put,List.setIfInBounds_toArray,List.set_cons_zero,List.set_cons_succ,List.getElem_toArray,List.getElem_cons_succ,List.getElem_cons_zero])
  (refine wpAnyH_take (i:=8) (v:=(.pointer (some ⟨G,0,none⟩))) rfl (by kernel_rfl) (by kernel_rfl) (by kernel_rfl) (fun _ _ _ h=>h) (Or.inl ⟨by rfl,fun w hSw=>by (obtain ⟨a,b,d⟩:=hSw;go_simp)⟩) hHeld ?_);(try simp only[Act.put,List.setIfInBounds_toArray,List.set_cons_zero,List.set_cons_succ,List.getElem_toArray,List.getElem_cons_succ,List.getElem_cons_zero])
  (refine wpAnyH_take (i:=9) (v:=(.pointer (some ⟨G,0,none⟩))) rfl (by kernel_rfl) (by kernel_rfl) (by kernel_rfl) (fun _ _ _ h=>h) (Or.inl ⟨by rfl,fun w hSw=>by (obtain ⟨a,b,d⟩:=hSw;go_simp)⟩) hHeld ?_);(try simp only[Act.put,List.setIfInBounds_toArray,List.set_cons_zero,List.set_cons_succ,List.getElem_toArray,List.getElem_cons_succ,List.getElem_cons_zero])
  (refine wpAnyH_take (i:=10) (v:=(.pointer (some ⟨G,17,none⟩))) rfl (by kernel_rfl) (by kernel_rfl) (by kernel_rfl) (fun _ _ _ h=>h) (Or.inl ⟨by rfl,fun w hSw=>by (obtain ⟨a,b,d⟩:=hSw;go_simp)⟩) hHeld ?_);(try simp only[Act.put,List.setIfInBounds_toArray,List.set_cons_zero,List.set_cons_succ,List.getElem_toArray,List.getElem_cons_succ,List.getElem_cons_zero])
  (refine wpAnyH_take (i:=11) (v:=(.int .i64 96)) rfl (by kernel_rfl) (by kernel_rfl) (by kernel_rfl) (fun _ _ _ h=>h) (Or.inl ⟨by rfl,fun w hSw=>by (obtain ⟨a,b,d⟩:=hSw;go_simp)⟩) hHeld ?_);(try simp only[Act.put,List.setIfInBounds_toArray,List.set_cons_zero,List.set_cons_succ,List.getElem_toArray,List.getElem_cons_succ,List.getElem_cons_zero])
  (refine wpAnyH_take (i:=12) (v:=(.int .i64 f)) rfl (by kernel_rfl) (by kernel_rfl) (by kernel_rfl) (fun _ _ _ h=>h) (Or.inl ⟨by rfl,fun w hSw=>by (obtain ⟨a,b,d⟩:=hSw;go_simp)⟩) hHeld ?_);(try simp only[Act.put,List.setIfInBounds_toArray,List.set_cons_zero,List.set_cons_succ,List.getElem_toArray,List.getElem_cons_succ,List.getElem_cons_zero])
  refine wpAnyH_ready (rs:=[13,17]) (by kernel_rfl) (by simp) (AllReadyH.cons rfl (fun K hK=>?_) (AllReadyH.cons rfl (fun K hK=>?_) AllReadyH.nil))
  ·go_simp
   go_at_call 238
   refine (t.out _).mono ?_
   rintro e M ⟨rfl,n⟩
   have k:=ki (x.out.trans (n.mono x.out.size))
   refine hK.out _ _ (p.out _ k.out) (fun hHeld=>?_)
   clear hK K n
   (try simp only[Act.put,List.setIfInBounds_toArray,List.set_cons_zero,List.set_cons_succ,List.getElem_toArray,List.getElem_cons_succ,List.getElem_cons_zero])
   (refine wpAnyH_take (i:=14) (v:=(.tuple #[.agg (sixC Z),.nilIface])) rfl (by kernel_rfl) (by kernel_rfl) (by kernel_rfl) (fun _ _ _ h=>h) (Or.inl ⟨by rfl,fun w hSw=>by (obtain ⟨a,b,d⟩:=hSw;go_simp)⟩) hHeld ?_);(try simp only[Act.put,List.setIfInBounds_toArray,List.set_cons_zero,List.set_cons_succ,List.getElem_toArray,List.getElem_cons_succ,List.getElem_cons_zero])
   (refine wpAnyH_take (i:=15) (v:=(.agg (sixC Z))) rfl (by kernel_rfl) (by kernel_rfl) (by kernel_rfl) (fun _ _ _ h=>h) (Or.inl ⟨by rfl,fun w hSw=>by (obtain ⟨a,b,d⟩:=hSw;go_simp)⟩) hHeld ?_);(try simp only[Act.put,List.setIfInBounds_toArray,List.set_cons_zero,List.set_cons_succ,List.getElem_toArray,List.getElem_cons_succ,List.getElem_cons_zero])
   (refine wpAnyH_take (i:=16) (v:=.nilIface) rfl (by kernel_rfl) (by kernel_rfl) (by kernel_rfl) (fun _ _ _ h=>h) (Or.inl ⟨by rfl,fun w hSw=>by (obtain ⟨a,b,d⟩:=hSw;go_simp)⟩) hHeld ?_);(try simp only[Act.put,List.setIfInBounds_toArray,List.set_cons_zero,List.set_cons_succ,List.getElem_toArray,List.getElem_cons_succ,List.getElem_cons_zero])
   refine wpAnyH_ready (rs:=[17]) (by kernel_rfl) (by simp) (AllReadyH.cons rfl (fun K hK=>?_) AllReadyH.nil)
   go_simp
   have l:=ki (show Below W0.heap.size W0 (M.alloc (.cells #[.int .i64 0,.int .i64 0,.int .i64 0,.int .i64 0,.int .i64 0,.int .i64 0,.int .i64 0,.int .i64 0] 23)) from k.out.alloc k.out.size _)
   refine hK.out _ _ (p.out _ l.out) (fun hHeld=>?_)
   clear hK K
   (try simp only[Act.put,List.setIfInBounds_toArray,List.set_cons_zero,List.set_cons_succ,List.getElem_toArray,List.getElem_cons_succ,List.getElem_cons_zero])
   obtain ⟨w5,X,z,o⟩:=SixIn.sts (noughts_in M) Z
   unfold noughts at X o
   have r:=ki (o.below l.out k.out.size)
   have N:=ki z
   clear z o
   refine wpAnyH_ready (rs:=[18]) (by kernel_rfl) (by simp) (AllReadyH.cons rfl (fun K hK=>?_) AllReadyH.nil)
   go_simp
   refine hK.out _ _ (p.out _ r.out) (fun hHeld=>?_)
   clear hK K
   (try simp only[Act.put,List.setIfInBounds_toArray,List.set_cons_zero,List.set_cons_succ,List.getElem_toArray,List.getElem_cons_succ,List.getElem_cons_zero])
   (refine wpAnyH_take (i:=19) (v:=.nilIface) rfl (by kernel_rfl) (by kernel_rfl) (by kernel_rfl) (fun _ _ _ h=>h) (Or.inl ⟨by rfl,fun w hSw=>by (obtain ⟨a,b,d⟩:=hSw;go_simp)⟩) hHeld ?_);(try simp only[Act.put,List.setIfInBounds_toArray,List.set_cons_zero,List.set_cons_succ,List.getElem_toArray,List.getElem_cons_succ,List.getElem_cons_zero])
   refine wpAnyH_done (by kernel_rfl) ?_ _
   go_wp2_with fail
   go_meet
   exact ⟨⟨_,rfl,N⟩,rfl,r⟩
  ·go_simp
   have l:=ki (show Below W0.heap.size W0 (W0.alloc (.cells #[.int .i64 0,.int .i64 0,.int .i64 0,.int .i64 0,.int .i64 0,.int .i64 0,.int .i64 0,.int .i64 0] 23)).drew from ((Below.refl _ _).alloc (Nat.le_refl _) _).drew)
   have P:=(noughts_in W0)
   unfold noughts at P
   have Y:=ki (show SixIn W0.heap.size [] (W0.alloc (.cells #[.int .i64 0,.int .i64 0,.int .i64 0,.int .i64 0,.int .i64 0,.int .i64 0,.int .i64 0,.int .i64 0] 23)).drew from P)
   clear P
   refine hK.out _ _ (p.out _ l.out) (fun hHeld=>?_)
   clear hK K
   generalize World.drew (W0.alloc _)=W5 at l Y hHeld ⊢
   (try simp only[Act.put,List.setIfInBounds_toArray,List.set_cons_zero,List.set_cons_succ,List.getElem_toArray,List.getElem_cons_succ,List.getElem_cons_zero])
   refine wpAnyH_ready (rs:=[13]) (by kernel_rfl) (by simp) (AllReadyH.cons rfl (fun K hK=>?_) AllReadyH.nil)
   go_simp
   go_at_call 238
   refine (t.out _).mono ?_
   rintro e M ⟨rfl,n⟩
   have k:=ki (l.out.trans (n.mono l.out.size))
   have N4:=ki (Y.out.kept n)
   refine hK.out _ _ (p.out _ k.out) (fun hHeld=>?_)
   clear hK K n
   (try simp only[Act.put,List.setIfInBounds_toArray,List.set_cons_zero,List.set_cons_succ,List.getElem_toArray,List.getElem_cons_succ,List.getElem_cons_zero])
   (refine wpAnyH_take (i:=14) (v:=(.tuple #[.agg (sixC Z),.nilIface])) rfl (by kernel_rfl) (by kernel_rfl) (by kernel_rfl) (fun _ _ _ h=>h) (Or.inl ⟨by rfl,fun w hSw=>by (obtain ⟨a,b,d⟩:=hSw;go_simp)⟩) hHeld ?_);(try simp only[Act.put,List.setIfInBounds_toArray,List.set_cons_zero,List.set_cons_succ,List.getElem_toArray,List.getElem_cons_succ,List.getElem_cons_zero])
   (refine wpAnyH_take (i:=15) (v:=(.agg (sixC Z))) rfl (by kernel_rfl) (by kernel_rfl) (by kernel_rfl) (fun _ _ _ h=>h) (Or.inl ⟨by rfl,fun w hSw=>by (obtain ⟨a,b,d⟩:=hSw;go_simp)⟩) hHeld ?_);(try simp only[Act.put,List.setIfInBounds_toArray,List.set_cons_zero,List.set_cons_succ,List.getElem_toArray,List.getElem_cons_succ,List.getElem_cons_zero])
   (refine wpAnyH_take (i:=16) (v:=.nilIface) rfl (by kernel_rfl) (by kernel_rfl) (by kernel_rfl) (fun _ _ _ h=>h) (Or.inl ⟨by rfl,fun w hSw=>by (obtain ⟨a,b,d⟩:=hSw;go_simp)⟩) hHeld ?_);(try simp only[Act.put,List.setIfInBounds_toArray,List.set_cons_zero,List.set_cons_succ,List.getElem_toArray,List.getElem_cons_succ,List.getElem_cons_zero])
   obtain ⟨w5,X,z,o⟩:=SixIn.sts N4.out Z
   have r:=ki (o.below k.out (Nat.le_refl _))
   have N:=ki z
   clear z o
   refine wpAnyH_ready (rs:=[18]) (by kernel_rfl) (by simp) (AllReadyH.cons rfl (fun K hK=>?_) AllReadyH.nil)
   go_simp
   refine hK.out _ _ (p.out _ r.out) (fun hHeld=>?_)
   clear hK K
   (try simp only[Act.put,List.setIfInBounds_toArray,List.set_cons_zero,List.set_cons_succ,List.getElem_toArray,List.getElem_cons_succ,List.getElem_cons_zero])
   (refine wpAnyH_take (i:=19) (v:=.nilIface) rfl (by kernel_rfl) (by kernel_rfl) (by kernel_rfl) (fun _ _ _ h=>h) (Or.inl ⟨by rfl,fun w hSw=>by (obtain ⟨a,b,d⟩:=hSw;go_simp)⟩) hHeld ?_);(try simp only[Act.put,List.setIfInBounds_toArray,List.set_cons_zero,List.set_cons_succ,List.getElem_toArray,List.getElem_cons_succ,List.getElem_cons_zero])
   refine wpAnyH_done (by kernel_rfl) ?_ _
   go_wp2_with fail
   go_meet
   exact ⟨⟨_,rfl,N⟩,rfl,r⟩
 case rest =>
  obtain ⟨⟨D,rfl,HZ⟩,rfl,C⟩:=hcut
  have aa:=ki (A.out.kept C.out)
  have ab:=ki (L.out.kept C.out)
  have ac:=ki (HG.out.kept (bt B.out C.out))
  clear t p x A L U
  go_wp2_with (first
   | (refine at_loadn rfl (.tmp 5) rfl rfl aa.out ?_)
   | (refine at_load6 rfl (.tmp 6) rfl rfl ab.out ?_)
   | (refine at_load6 rfl (.tmp 12) rfl rfl HZ.out ?_)
   | (go_at_call 233;refine (y.out _ ac.out).mono ?_;rintro e w1 ⟨⟨a2,l2,c2,rfl,q⟩,F⟩;have HA:=ki q;have ad:=ki (F.pre (bt B.out C.out));clear q F))
  go_ret2
  exact ⟨⟨a2,l2,c2,rfl,HA.out⟩,ad.out⟩
end
section
def vTick:List UInt8:=[116,105,99,107]
def vDrain:List UInt8:=[100,114,97,105,110]
def vUp:List UInt8:=[117,112]
def chF (g:GS) (v:List UInt8) (n:Int):Int×GS:=if v=vTick then gtk g n else if v=vDrain then gmk g n (fun x=>bdr x true) else gmk g n (fun x=>bup x (v == vUp))
theorem str_is (l m:List UInt8):((⟨l.toArray⟩:ByteArray).toList == m)=(l == m):=by
 simp only[ByteArray.toList_eq]
theorem change_gh {g:GS} (hg:IG g) (hl:g.bk.length≤1000) (v:List UInt8) (n:Int):∀ w G O W,GH w G g O W →
  Calls Tryz.prog 182 #[ssn G,Ad.strv v,.int .i64 n] W fun e w'=>e=.returned (ev (chF g v n).1)∧GN w G (chF g v n).2 O W w':=by
 intro w G O W t
 have hb:=al_below W (.cells #[.pointer (some ⟨G,0,none⟩)] 126)
 have f:=ki (sn_new G W)
 have i:=ki hb
 have k:=ki (t.kept hb)
 have a:=str_is v vTick
 have d:=str_is v vDrain
 have r:=str_is v vUp
 have l:chF g v n=if v=vTick then gtk g n else if v=vDrain then gmk g n (fun x=>bdr x true) else gmk g n (fun x=>bup x (v == vUp)):=rfl
 unfold ssn Ad.strv
 clear hb t
 by_cases h1:v=vTick
 ·rw[beq_iff_eq.2 h1] at a
  have o:=ki (show chF g v n=gtk g n by rw[l,if_pos h1])
  have p:=ki (fun W1 (h:GH w G g O W1)=>tick_gh hg n w G O W1 h)
  clear l h1 d r
  unfold vTick at a
  generalize (⟨v.toArray⟩:ByteArray)=s at a
  go_enter Tryz.func182,Tryz.ntmps182
  go_upto_region 1 with fail
  generalize World.alloc _ _=W0 at f i k ⊢
  have c1:=f.out.cell
  go_wp2_with (go_at_call 53;refine (p.out _ k.out).mono ?_;rintro e y ⟨rfl,q⟩;have b:=ki (q.pre i.out);clear q)
  go_ret
  rw[o.out]
  exact ⟨rfl,b.out⟩
 ·rw[show (v == vTick)=false by simpa using h1] at a
  by_cases h2:v=vDrain
  ·rw[beq_iff_eq.2 h2] at d
   have o:=ki (show chF g v n=gmk g n (fun x=>bdr x true) by rw[l,if_neg h1,if_pos h2])
   have p:=ki (fun W1 (h:GH w G g O W1)=>drain_gh (g:=g) hl n true w G O W1 h)
   clear l h1 h2 r
   unfold vTick at a
   unfold vDrain at d
   generalize (⟨v.toArray⟩:ByteArray)=s at a d
   go_enter Tryz.func182,Tryz.ntmps182
   go_upto_region 1 with fail
   generalize World.alloc _ _=W0 at f i k ⊢
   have c1:=f.out.cell
   go_wp2_with (go_at_call 55;refine (p.out _ k.out).mono ?_;rintro e y ⟨rfl,q⟩;have b:=ki (q.pre i.out);clear q)
   go_ret
   rw[o.out]
   exact ⟨rfl,b.out⟩
  ·rw[show (v == vDrain)=false by simpa using h2] at d
   have o:=ki (show chF g v n=gmk g n (fun x=>bup x (v == vUp)) by rw[l,if_neg h1,if_neg h2])
   have p:=ki (fun W1 (h:GH w G g O W1)=>probe_gh (g:=g) hl n (v == vUp) w G O W1 h)
   generalize (v == vUp)=u at r o p
   clear l h1 h2
   unfold vTick at a
   unfold vDrain at d
   unfold vUp at r
   generalize (⟨v.toArray⟩:ByteArray)=s at a d r
   go_enter Tryz.func182,Tryz.ntmps182
   go_upto_region 1 with fail
   generalize World.alloc _ _=W0 at f i k ⊢
   have c1:=f.out.cell
   go_wp2_with (go_at_call 54;refine (p.out _ k.out).mono ?_;rintro e y ⟨rfl,q⟩;have b:=ki (q.pre i.out);clear q)
   go_ret
   rw[o.out]
   exact ⟨rfl,b.out⟩
end
end Go.Proofs.YtgcojnlngchllaaGreatDoor
