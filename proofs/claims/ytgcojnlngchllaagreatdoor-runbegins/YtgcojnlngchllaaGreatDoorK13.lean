/- Package pick's score and Score by contracts. Package pick's mixFlow by a contract: every order that the model allows. Package pick's Check by a contract. Package pick's Score by a contract. Package pick's Pick by a contract. Package pick's Pick by a contract, where nothing is wrong. -/
import Derived.Test.YtgcojnlngchllaaGreatDoorK12
import Derived.Test.YtgcojnlngchllaaGreatDoorK11
namespace Go.Proofs.YtgcojnlngchllaaGreatDoor
open Go.RowKit
set_option linter.unusedVariables false
set_option maxRecDepth 100000
set_option maxHeartbeats 40000000
section
theorem with1 (x y:Int) (B:Nat) (W:World) (hx:0≤x∧x < 2147483648) (hy:0≤y∧y≤65535) (h:Ints B [y] W) :
  Calls Tryz.prog 248 #[.int .i64 x,.slice (some ⟨B,0,none⟩) 1 1] W fun e w'=>e=.returned (.int .i64 (mx x y))∧w'=W :=
 with_any x B 0 1 1 [y] W rfl (by omega) hx (fun z hz=>by rw[List.mem_singleton] at hz;rw[hz];exact hy) (fun j hj=>by rw[Nat.zero_add];exact h.cell j hj)
def mx8 (x:Int) (z:List Int):Int:=mxs x [el z 0,el z 1,el z 2,el z 3,el z 4,el z 5,el z 6,el z 7]
theorem with8 (x:Int) (z:List Int) (B off:Nat) (W:World) (hx:0≤x∧x < 2147483648) (hz:s6 z=true) (h:W.rangeAt B off (sixC z).toList) :
  Calls Tryz.prog 248 #[.int .i64 x,.slice (some ⟨B,off,none⟩) 8 8] W fun e w'=>e=.returned (.int .i64 (mx8 x z))∧w'=W:=by
 have a:=(s6_iff z).1 hz
 refine with_any x B off 8 8 [el z 0,el z 1,el z 2,el z 3,el z 4,el z 5,el z 6,el z 7] W rfl (by omega) hx ?_ ?_
 ·intro y b
  simp only[List.mem_cons,List.not_mem_nil,or_false] at b
  rcases b with rfl|rfl|rfl|rfl|rfl|rfl|rfl|rfl
  ·exact a 0 (by omega)
  ·exact a 1 (by omega)
  ·exact a 2 (by omega)
  ·exact a 3 (by omega)
  ·exact a 4 (by omega)
  ·exact a 5 (by omega)
  ·exact a 6 (by omega)
  ·exact a 7 (by omega)
 ·intro j d
  refine h j _ ?_
  rcases (by omega:j=0∨j=1∨j=2∨j=3∨j=4∨j=5∨j=6∨j=7) with rfl|rfl|rfl|rfl|rfl|rfl|rfl|rfl <;> rfl
theorem score_any (x id:Int) (w:World) (hx:0≤x∧x < 2147483648) (hd:0≤id∧id≤65535) :
  Calls Tryz.prog 197 #[.int .i64 x,.int .i64 id] w fun e w'=>e=.returned (.int .i64 ((mx x id).tdiv 256))∧Below w.heap.size w w':=by
 have b:=ki (with1 x id w.heap.size (w.alloc (.cells #[.int .i64 id] 3)) hx hd (ints_new w [id]))
 have d:=ki (al_below w (.cells #[.int .i64 id] 3))
 have a:=mx_in (x:=x) (n:=id) hx.1 hd.1
 clear hx hd
 generalize mx x id=z at b a ⊢
 have f:=ki (show z.tdiv 256=z / 256 from Int.tdiv_eq_ediv_of_nonneg a.1)
 go_enter Tryz.func197,Tryz.ntmps197
 go_wp2_with (go_at_call 248;(with_reducible refine b.o.mono ?_);rintro e g ⟨rfl,hw⟩;rw[hw];clear hw g)
 go_ret
 exact ⟨by rw[f.o];rfl,d.o⟩
end
section
variable {f:List Int} {B:Nat} {W w:World}
theorem ia1 (W:World) (x:Int):Ints W.heap.size [x] (W.alloc (.cells #[.int .i64 x] 3)):=ints_new W [x]
theorem Ints.al {l:List Int} (h:Ints B l W) (o:Obj):Ints B l (W.alloc o):=((al_below W o).block B (Array.getElem?_eq_some_iff.1 h).1).trans h
theorem ia2 (W:World) (o:Obj) (x:Int):Ints (W.heap.size+1) [x] ((W.alloc o).alloc (.cells #[.int .i64 x] 3)):=by
 have:=ia1 (W.alloc o) x
 rwa [World.size_alloc] at this
theorem ia3 (W:World) (o p:Obj) (x:Int):Ints (W.heap.size+1+1) [x] (((W.alloc o).alloc p).alloc (.cells #[.int .i64 x] 3)):=by
 have:=ia1 ((W.alloc o).alloc p) x
 rwa [World.size_alloc,World.size_alloc] at this
def MF (w:World) (B:Nat) (f:List Int) (W:World):Prop:=W.cell? ⟨B,0,none⟩=some (.int .i64 (el f 0))∧W.cell? ⟨B,9,none⟩=some (.int .i64 (el f 9))∧W.cell? ⟨B,18,none⟩=some (.int .i64 (el f 18))∧FlIn B f W∧Below w.heap.size w W
theorem mf_of (h:FlIn B f W) (hb:Below w.heap.size w W):MF w B f W:=⟨h.cell 0 (by omega),h.cell 9 (by omega),h.cell 18 (by omega),h,hb⟩
theorem MF.al (h:MF w B f W) (o:Obj):MF w B f (W.alloc o):=mf_of (h.2.2.2.1.kept (al_below W o)) (bt h.2.2.2.2 (al_below W o))
theorem Ints.dr {l:List Int} (h:Ints B l W):Ints B l W.drew:=h
theorem MF.dr (h:MF w B f W):MF w B f W.drew:=mf_of h.2.2.2.1 h.2.2.2.2.drew
theorem MF.un (h:MF w B f W.drew) (hb:Below w.heap.size w W):MF w B f W:=mf_of h.2.2.2.1 hb
theorem below_un {n:Nat} (h:Below n w W.drew):Below n w W:=⟨h.os,h.tape,h.output,h.size,h.block⟩
theorem MF.ald (h:MF w B f W.drew) (o:Obj):MF w B f (W.alloc o).drew:=((h.un (below_un h.2.2.2.2)).al o).dr
theorem MF.bl (h:MF w B f W):Below w.heap.size w W:=h.2.2.2.2
theorem MF.cl (h:MF w B f W):W.rangeAt B 1 (sixC (cli f)).toList:=h.2.2.2.1.cli
theorem MF.ds (h:MF w B f W):W.rangeAt B 10 (sixC (dst f)).toList:=h.2.2.2.1.dst
theorem mixflow_any (seed:Int) (f:List Int) (w:World) (hs:0≤seed∧seed < 2147483648) (hf:okf f=true) :
  Calls Tryz.prog 195 #[.int .i64 seed,.agg (flC f)] w fun e w'=>e=.returned (.int .i64 (mxs seed (nl f 19)))∧Below w.heap.size w w':=by
 have q:=ki (show MF w w.heap.size f (w.alloc (.cells (flC f) 89)) from mf_of (fl_new f w) (al_below _ _))
 have r:=okf_el hf 0 (by omega)
 have s:=okf_el hf 9 (by omega)
 have o:=okf_el hf 18 (by omega)
 have hc:s6 (cli f)=true∧s6 (dst f)=true:=by unfold okf at hf;simp only[Bool.and_eq_true] at hf;exact ⟨hf.1.1.1.2,hf.1.1.2⟩
 have t:=mx_in (x:=seed) (n:=el f 0) hs.1 r.1
 have v:∀ x z,0≤x∧x < 2147483648→s6 z=true→0≤mx8 x z∧mx8 x z < 2147483648:=by
  intro x z F G
  have a:=(s6_iff z).1 G
  refine mxs_in F _ ?_
  intro y E
  simp only[List.mem_cons,List.not_mem_nil,or_false] at E
  rcases E with rfl|rfl|rfl|rfl|rfl|rfl|rfl|rfl
  ·exact (a 0 (by omega)).1
  ·exact (a 1 (by omega)).1
  ·exact (a 2 (by omega)).1
  ·exact (a 3 (by omega)).1
  ·exact (a 4 (by omega)).1
  ·exact (a 5 (by omega)).1
  ·exact (a 6 (by omega)).1
  ·exact (a 7 (by omega)).1
 have A:=v _ _ t hc.1
 have C:=mx_in (n:=el f 9) A.1 s.1
 have e4:=v _ _ C hc.2
 have d:=ki (show mx (mx8 (mx (mx8 (mx seed (el f 0)) (cli f)) (el f 9)) (dst f)) (el f 18)=mxs seed (nl f 19) from rfl)
 have D:=ki (fun B W h=>with1 seed (el f 0) B W hs r h)
 have l:=ki (fun B W h=>with8 (mx seed (el f 0)) (cli f) B 1 W t hc.1 h)
 have k:=ki (fun B W h=>with1 (mx8 (mx seed (el f 0)) (cli f)) (el f 9) B W A s h)
 have i:=ki (fun B W h=>with8 (mx (mx8 (mx seed (el f 0)) (cli f)) (el f 9)) (dst f) B 10 W C hc.2 h)
 have g:=ki (fun B W h=>with1 (mx8 (mx (mx8 (mx seed (el f 0)) (cli f)) (el f 9)) (dst f)) (el f 18) B W e4 o h)
 clear t A C e4 v hc r s o hs hf
 generalize mx seed (el f 0)=x1 at D l k i g d
 generalize mx8 x1 (cli f)=x2 at l k i g d
 generalize mx x2 (el f 9)=x3 at k i g d
 generalize mx8 x3 (dst f)=x4 at i g d
 generalize mx x4 (el f 18)=x5 at g d
 generalize mxs seed (nl f 19)=x6 at d ⊢
 obtain rfl:=d.o
 clear d
 go_enter Tryz.func195,Tryz.ntmps195
 go_upto_region 1 with fail
 generalize w.alloc _=W at q ⊢
 have p:=ki (show MF w w.heap.size f W.drew from q.o.dr)
 clear q
 go_region_held3 (fun W'=>W'.cell? ⟨w.heap.size,0,none⟩=some (.int .i64 (el f 0))∧W'.cell? ⟨w.heap.size,9,none⟩=some (.int .i64 (el f 9))∧W'.cell? ⟨w.heap.size,18,none⟩=some (.int .i64 (el f 18))∧FlIn w.heap.size f W'∧Below w.heap.size w W')
  (first
   | exact p.o
   | assumption
   | (refine MF.ald ?_ _;assumption))
  (first
   | (go_at_call 248;(with_reducible refine (D.o _ _ ?_).mono ?_);(first|exact (ia1 _ _).dr|exact (ia2 _ _ _).dr|exact (ia3 _ _ _ _).dr|exact ((ia1 _ _).al _).dr|exact ((ia2 _ _ _).al _).dr|exact (((ia1 _ _).al _).al _).dr);rintro e b ⟨rfl,hw⟩;rw[hw];clear hw b)
   | (go_at_call 248;(with_reducible refine (l.o _ _ ?_).mono ?_);(refine MF.cl (w:=w) ?_;assumption);rintro e b ⟨rfl,hw⟩;rw[hw];clear hw b)
   | (go_at_call 248;(with_reducible refine (k.o _ _ ?_).mono ?_);(first|exact (ia1 _ _).dr|exact (ia2 _ _ _).dr|exact (ia3 _ _ _ _).dr|exact ((ia1 _ _).al _).dr|exact ((ia2 _ _ _).al _).dr|exact (((ia1 _ _).al _).al _).dr);rintro e b ⟨rfl,hw⟩;rw[hw];clear hw b)
   | (go_at_call 248;(with_reducible refine (i.o _ _ ?_).mono ?_);(refine MF.ds (w:=w) ?_;assumption);rintro e b ⟨rfl,hw⟩;rw[hw];clear hw b)
   | (go_at_call 248;(with_reducible refine (g.o _ _ ?_).mono ?_);(first|exact (ia1 _ _).dr|exact (ia2 _ _ _).dr|exact (ia3 _ _ _ _).dr|exact ((ia1 _ _).al _).dr|exact ((ia2 _ _ _).al _).dr|exact (((ia1 _ _).al _).al _).dr);rintro e b ⟨rfl,hw⟩;rw[hw];clear hw b))
 all_goals
  clear D l k i g p
  go_wp2
  go_ret
  refine ⟨rfl,MF.bl (B:=w.heap.size) (f:=f) ?_⟩
  assumption
end
section
attribute [local go_sem ↓] kload_shut
theorem kcheck:JKc:=by
 intro a F bs w h hl U
 have O:=ki h
 have V:(bs.length:Int)≤9223372036854775807:=by unfold maxLen at hl;omega
 clear h hl
 by_cases h8:8 < bs.length
 ·have P:=ki (show bf bs=(0,3) by unfold bf;rw[if_pos h8])
  have Q:(8:Int) < (bs.length:Int):=by omega
  go_enter Tryz.func74,Tryz.ntmps74
  go_wp2
  go_ret2
  exact ⟨by rw[P.o];rfl,Below.refl _ _⟩
 ·have I:=ki (fun i hi h1 h2=>bf_some (bs:=bs) (i:=i) h8 hi h1 h2)
  have J:=ki (fun h=>bf_none (bs:=bs) h8 h)
  have Q:¬ (8:Int) < (bs.length:Int):=by omega
  have X:(bs.length:Int)≤8:=by omega
  have Y:bs.length≤8:=by omega
  have K:=ki bk_zero
  unfold zero4b at K
  clear h8
  generalize bf bs=R at I J ⊢
  go_enter Tryz.func74,Tryz.ntmps74
  go_wp2
  go_loopw [13] (fun t wr=>∃ k:Nat,k≤bs.length∧t=.int .i64 k∧Hid (∀ j,j < k→(flt bs j != 0)=false)∧Hid (Below w.heap.size w wr)) (fun t _=>bs.length - (intOf t).toNat)
  case atStart=>exact ⟨0,by omega,rfl,fun j h=>absurd h (by omega),Below.refl _ _⟩
  case round =>
   obtain ⟨k,hk,rfl,HI,d⟩:=hrel
   by_cases hlt:k < bs.length
   ·obtain ⟨g,s,rfl,v,x⟩:=O.o (by omega)
    have L:=ki (show ∀ W,Below w.heap.size w W→∀ k,k < bs.length→W.rangeAt g (s+k*6) (bkC (bs.getD k [])).toList from fun W hW k hk j u hu=>by rw[hW.cell (p:=⟨g,s+k*6+j,none⟩) v];exact x k hk j u hu)
    have S:=ki v
    have Z:(k:Int) < (bs.length:Int):=by omega
    have B:=rng_kl (L.o wr d.o k hlt)
    have l:=ki (show flt bs k=if okb (bs.getD k [])=true then (if hid bs k (el (bs.getD k []) 0)=true then 8 else 0) else 1 from rfl)
    have M:=ki (I.o k hlt)
    clear x v
    obtain ⟨b,hb⟩:∃ b,bs.getD k []=b:=⟨_,rfl⟩
    rw[hb] at B l
    clear hb
    have n:=ki (fun W=>cone b W)
    generalize okb b=ok at n l
    go_upto_region 6 with (refine at_storek rfl (.tmp 5) (.tmp 17) rfl rfl (K.o wr) b rfl ?_;intro w1 N G;replace d:=ki (bt d.o (new_below _ G));have o:=ki N;clear G N)
    clear B
    generalize wr.heap.size=D at o ⊢
    have B:=o.o.kl
    cases ok
    ·have y:=ki (show R=((k:Int),1) by rw[M.o (by rw[l.o];rfl) HI.o,l.o];rfl)
     rw[show ev (fe false)=err 1 from rfl] at n
     unfold err at n
     go_wp2_with (go_at_call 129;(with_reducible refine (n.o _).mono ?_);rintro e C ⟨rfl,f⟩;replace d:=ki (bt d.o f);clear f)
     go_ret2
     exact ⟨by rw[y.o];rfl,d.o⟩
    ·rw[show ev (fe true)=.nilIface from rfl] at n
     go_upto_region 9 with (go_at_call 129;(with_reducible refine (n.o _).mono ?_);rintro e C ⟨rfl,f⟩;replace d:=ki (bt d.o f);replace o:=ki (o.o.kept f);clear f)
     clear B
     have E:=ki (fun W (hW:Below w.heap.size w W)=>has_any g s k F bs (el b 0) W (by omega) (Nat.lt_of_lt_of_le S.o hW.size) (fun j hj=>L.o W hW j (by omega)))
     generalize hid bs k (el b 0)=hh at E l
     have q:=ki (show Below w.heap.size w C.drew from d.o.drew)
     have c0:=rng_id (show C.drew.rangeAt D 0 (bkC b).toList from o.o.rng)
     generalize el b 0=x0 at E c0
     have j2:(k:Int)≤(F:Int):=by omega
     have z:=ki c0
     have T:=ki (show D < C.drew.heap.size from o.o.lt)
     go_region_held3 (fun W'=>W'.cell? ⟨D,0,none⟩=some (.int .i64 x0))
      (first
       | exact z.o
       | exact H.o
       | go_keep)
      (first|(go_at_call 130;(with_reducible refine (E.o _ q.o).mono ?_);rintro r w4 ⟨rfl,A⟩;have H:=ki ((A.cell (p:=⟨D,0,none⟩) T.o).trans z.o);replace d:=ki (q.o.trans (A.mono q.o.size));clear A))
     clear z H q E o n
     cases hh
     ·have y:=ki (show (flt bs k != 0)=false by rw[l.o];rfl)
      go_wp2
      go_roundw
      case rel=>exact ⟨k+1,by omega,by go_num,fun j hj=>if e:j=k then by rw[e];exact y.o else HI.o j (by omega),d⟩
      case measure=>simp[intOf];omega
     ·have y:=ki (show R=((k:Int),8) by rw[M.o (by rw[l.o];rfl) HI.o,l.o];rfl)
      go_wp2
      go_ret2
      exact ⟨by rw[y.o];rfl,d.o⟩
   ·obtain rfl:bs.length=k:=by omega
    go_wp2
    go_ret2
    exact ⟨by rw[J.o HI.o];rfl,d.o⟩
end
section
def KF (w:World) (f:List Int) (W:World):Prop:=FlIn w.heap.size f W∧Below w.heap.size w W
theorem KF.kept {w:World} {f:List Int} {W W':World} (h:KF w f W) (hb:Below W.heap.size W W'):KF w f W':=⟨h.1.kept hb,bt h.2 hb⟩
theorem kf_new (w:World) (f:List Int):KF w f (w.alloc (.cells (flC f) 89)):=⟨fl_new f w,al_below _ _⟩
attribute [local go_sem ↓] fload_shut
theorem kscore:JKs:=by
 intro seed f id w
 have a:=ki (kf_new w f)
 have i:=ki (fun W=>kup1 2147483647 seed W)
 have l:=ki (fun W=>kup1 65535 id W)
 have n:=ki (fun W=>bcheck f W)
 have b:=ki (show sok seed f id=(um 2147483647 seed && um 65535 id && okf f) from rfl)
 have d:=ki (show sv seed f id=if sok seed f id=true then sc seed f id else 0 from rfl)
 cases hu:um 2147483647 seed
 ·rw[hu] at i b
  replace b:=ki (show sok seed f id=false from b.o)
  rw[b.o] at d ⊢
  replace d:=ki (show sv seed f id=0 from d.o)
  rw[d.o]
  clear b d hu l n
  go_enter Tryz.func194,Tryz.ntmps194
  go_upto_region 1 with fail
  generalize w.alloc _=W at a ⊢
  go_wp2_with (go_at_call 188;(with_reducible refine (i.o _).mono ?_);rintro e t ⟨rfl,g⟩;replace a:=ki (a.o.kept g);clear g)
  go_ret2
  exact ⟨rfl,a.o.2⟩
 ·cases hv:um 65535 id
  ·rw[hu,hv] at b
   rw[hu] at i
   rw[hv] at l
   replace b:=ki (show sok seed f id=false from b.o)
   rw[b.o] at d ⊢
   replace d:=ki (show sv seed f id=0 from d.o)
   rw[d.o]
   clear b d hu hv n
   go_enter Tryz.func194,Tryz.ntmps194
   go_upto_region 1 with fail
   generalize w.alloc _=W at a ⊢
   go_wp2_with (first
    | (go_at_call 188;(with_reducible refine (i.o _).mono ?_);rintro e t ⟨rfl,g⟩;replace a:=ki (a.o.kept g);clear g)
    | (go_at_call 188;(with_reducible refine (l.o _).mono ?_);rintro e A ⟨rfl,h⟩;replace a:=ki (a.o.kept h);clear h))
   go_ret2
   exact ⟨rfl,a.o.2⟩
  ·cases hf:okf f
   ·rw[hu,hv,hf] at b
    rw[hu] at i
    rw[hv] at l
    rw[hf,show ev (fe false)=err 1 from rfl] at n
    unfold err at n
    replace b:=ki (show sok seed f id=false from b.o)
    rw[b.o] at d ⊢
    replace d:=ki (show sv seed f id=0 from d.o)
    rw[d.o]
    clear b d hu hv hf
    go_enter Tryz.func194,Tryz.ntmps194
    go_upto_region 1 with fail
    generalize w.alloc _=W at a ⊢
    go_upto_region 3 with (first
     | (go_at_call 188;(with_reducible refine (i.o _).mono ?_);rintro e t ⟨rfl,g⟩;replace a:=ki (a.o.kept g);clear g)
     | (go_at_call 188;(with_reducible refine (l.o _).mono ?_);rintro e A ⟨rfl,h⟩;replace a:=ki (a.o.kept h);clear h))
    have v:=a.o.1.fl
    go_wp2_with (go_at_call 199;(with_reducible refine (n.o _).mono ?_);rintro e D ⟨rfl,k⟩;replace a:=ki (a.o.kept k);clear k)
    go_ret2
    exact ⟨rfl,a.o.2⟩
   ·rw[hu,hv,hf] at b
    rw[hu] at i
    rw[hv] at l
    rw[hf,show ev (fe true)=.nilIface from rfl] at n
    replace b:=ki (show sok seed f id=true from b.o)
    rw[b.o] at d ⊢
    replace d:=ki (show sv seed f id=sc seed f id from d.o)
    rw[d.o]
    have hs:=(um_iff _ _).1 hu
    have hd:=(um_iff _ _).1 hv
    have o:0≤seed∧seed < 2147483648:=⟨hs.1,by omega⟩
    have B:=ki (fun W=>mixflow_any seed f W o hf)
    have p:=mxs_in o (nl f 19) (fun x hx=>(nums_in (id:=id) b.o x (by unfold nums;exact List.mem_append_left _ hx)).1)
    have y:=ki (fun W=>score_any (mxs seed (nl f 19)) id W p hd)
    have C:=ki (show sc seed f id=(mx (mxs seed (nl f 19)) id).tdiv 256 by unfold sc nums;rw[mxs_snoc])
    rw[C.o]
    clear b d hu hv hf hs hd o p C
    generalize mxs seed (nl f 19)=z at B y ⊢
    generalize (mx z id).tdiv 256=s at y ⊢
    go_enter Tryz.func194,Tryz.ntmps194
    go_upto_region 1 with fail
    generalize w.alloc _=W at a ⊢
    go_upto_region 3 with (first
     | (go_at_call 188;(with_reducible refine (i.o _).mono ?_);rintro e t ⟨rfl,g⟩;replace a:=ki (a.o.kept g);clear g)
     | (go_at_call 188;(with_reducible refine (l.o _).mono ?_);rintro e A ⟨rfl,h⟩;replace a:=ki (a.o.kept h);clear h))
    have v:=a.o.1.fl
    go_upto_region 6 with (go_at_call 199;(with_reducible refine (n.o _).mono ?_);rintro e D ⟨rfl,k⟩;replace a:=ki (a.o.kept k);clear k v)
    have v:=a.o.1.fl
    go_wp2_with (first
     | (go_at_call 195;(with_reducible refine (B.o _).mono ?_);rintro e E ⟨rfl,q⟩;replace a:=ki (a.o.kept q);clear q)
     | (go_at_call 197;(with_reducible refine (y.o _).mono ?_);rintro e F ⟨rfl,r⟩;replace a:=ki (a.o.kept r);clear r))
    go_ret2
    exact ⟨rfl,a.o.2⟩
end
section
variable {f:List Int}
def KQ (w:World) (f:List Int) (W:World):Prop:=FlIn w.heap.size f W∧BkIn (w.heap.size+1) [] W∧Below w.heap.size w W
theorem KQ.kept {w:World} {W W':World} (h:KQ w f W) (hb:Below W.heap.size W W'):KQ w f W':=⟨h.1.kept hb,h.2.1.kept hb,bt h.2.2 hb⟩
theorem KQ.only {w:World} {W W':World} {D:Nat} (h:KQ w f W) (hb:Only D W W') (hD:w.heap.size+1 < D):KQ w f W' :=
 ⟨(hb.2.2.2.2 _ (by omega)).trans h.1,(hb.2.2.2.2 _ (by omega)).trans h.2.1,hb.below h.2.2 (by omega)⟩
theorem kq_new (w:World) (f:List Int):KQ w f ((w.alloc (.cells (flC f) 89)).alloc (.cells zero4b 77)):=by
 have d:=al_below w (.cells (flC f) 89)
 have a:=al_below (w.alloc (.cells (flC f) 89)) (.cells zero4b 77)
 have b:=bk_zero (w.alloc (.cells (flC f) 89))
 rw[World.size_alloc] at b
 exact ⟨(fl_new f w).kept a,b,bt d a⟩
def tp (o:Option Nat) (m:Int):Int:=match o with|none=>-1|some _=>m
def bo (o:Option Nat) (bs:List (List Int)):List Int:=match o with|none=>[] | some i=>bs.getD i []
theorem kst_skip {seed:Int} {bs:List (List Int)} {k:Nat} (h:cand (bs.getD k [])=false):pst seed f bs (k+1)=pst seed f bs k:=by
 simp only[pst]
 rw[if_neg (by rw[h];simp)]
theorem kst_take {seed:Int} {bs:List (List Int)} {k:Nat} (h:cand (bs.getD k [])=true) {o:Option Nat} {m:Int} (hp:pst seed f bs k=(o,m)):pst seed f bs (k+1)=if btr bs o m (pv seed f (bs.getD k [])) k=true then (some k,pv seed f (bs.getD k [])) else (o,m):=by
 simp only[pst]
 rw[if_pos h,hp]
attribute [local go_sem ↓] fload_shut kload_shut
theorem kpick_bad (seed:Int) (f:List Int) (a:Option Addr) (cap:Nat) (bs:List (List Int)) (w:World) (h:Bks a bs w) (hl:bs.length≤maxLen) (hcp:bs.length≤cap) (e:Int) (he:pko seed f bs=([],e)) (hc:(bf bs).2≠0∨((bf bs).2=0∧sok seed f 0=false)) :
  Calls Tryz.prog 141 #[.int .i64 seed,.agg (flC f),.slice a bs.length cap] w fun r w'=>r=.returned (.tuple #[.agg (bkC []),ev e])∧Below w.heap.size w w':=by
 have b:=ki (kq_new w f)
 have l:=ki (fun W (hW:Below w.heap.size w W)=>kcheck a cap bs W (h.below hW) hl hcp)
 have n:=ki (fun W=>kscore seed f 0 W)
 have i:=ki he
 unfold zero4b at b
 unfold pko at i
 clear h hl hcp he
 generalize (bf bs).1=p at l
 generalize (bf bs).2=e0 at l hc i
 generalize sok seed f 0=so at n hc i
 generalize sv seed f 0=s0 at n
 rcases hc with hc|⟨rfl,rfl⟩
 ·have q:=ki (show e0=e by have:=i.o;rw[if_neg hc] at this;injection this)
  rw[show ev e0=.iface 28 (.int .i64 e0) by unfold ev;rw[if_neg hc];rfl] at l
  have t:=ki (show ev e=.iface 28 (.int .i64 e0) by rw[← q.o];unfold ev;rw[if_neg hc];rfl)
  rw[t.o]
  clear hc i q t
  go_enter Tryz.func141,Tryz.ntmps141
  go_upto_region 1 with fail
  generalize (w.alloc _).alloc _=W at b ⊢
  go_wp2_with (first
   | (go_at_call 74;refine (l.o _ b.o.2.2).mono ?_;rintro r v ⟨rfl,d⟩;replace b:=ki (b.o.kept d);clear d)
   | (refine at_storek rfl (.tmp 6) (.tmp 25) rfl rfl b.o.2.1 [] rfl ?_;intro x k g;have o:=ki (g.below b.o.2.2 (Nat.le_succ _));replace k:=ki k;clear g))
  try simp only[Exit.inBlock,Exit.then]
  refine bodyPost_ret (results_bk rfl _ _ (w.heap.size+1) [] rfl k.o) rfl ?_
  exact ⟨rfl,o.o⟩
 ·obtain rfl:(1:Int)=e:=by have:=i.o;rw[if_pos rfl,if_neg (by decide)] at this;injection this
  rw[show ev (fe false)=err 1 from rfl] at n
  rw[show ev 0=.nilIface from rfl] at l
  rw[show ev 1=err 1 from rfl]
  unfold err at n ⊢
  clear i
  go_enter Tryz.func141,Tryz.ntmps141
  go_upto_region 1 with fail
  generalize (w.alloc _).alloc _=W at b ⊢
  go_upto_region 4 with (go_at_call 74;refine (l.o _ b.o.2.2).mono ?_;rintro r v ⟨rfl,d⟩;replace b:=ki (b.o.kept d);clear d)
  have y:=b.o.1.fl
  go_wp2_with (first
   | (go_at_call 194;refine (n.o _).mono ?_;rintro r z ⟨rfl,s⟩;replace b:=ki (b.o.kept s);clear s)
   | (refine at_storek rfl (.tmp 6) (.tmp 35) rfl rfl b.o.2.1 [] rfl ?_;intro x k g;have o:=ki (g.below b.o.2.2 (Nat.le_succ _));replace k:=ki k;clear g))
  try simp only[Exit.inBlock,Exit.then]
  refine bodyPost_ret (results_bk rfl _ _ (w.heap.size+1) [] rfl k.o) rfl ?_
  exact ⟨rfl,o.o⟩
end
section
def KB (w:World) (f:List Int) (D:Nat) (o:Option Nat) (bs:List (List Int)) (W:World):Prop:=KQ w f W∧BkIn D (bo o bs) W
theorem KB.kept {w:World} {f:List Int} {D:Nat} {o:Option Nat} {bs:List (List Int)} {W W':World} (h:KB w f D o bs W) (hb:Below W.heap.size W W'):KB w f D o bs W':=⟨h.1.kept hb,h.2.kept hb⟩
attribute [local go_sem ↓] fload_shut kload_shut
theorem kpick_ok (seed:Int) (f:List Int) (a:Option Addr) (cap:Nat) (bs:List (List Int)) (w:World) (h:Bks a bs w) (hl:bs.length≤maxLen) (hcp:bs.length≤cap) (hb:(bf bs).2=0) (hs:sok seed f 0=true) :
  Calls Tryz.prog 141 #[.int .i64 seed,.agg (flC f),.slice a bs.length cap] w fun r w'=>r=.returned (.tuple #[.agg (bkC (pkr (pst seed f bs bs.length).1 bs).1),ev (pkr (pst seed f bs bs.length).1 bs).2])∧Below w.heap.size w w':=by
 have U:=bf_ok hb
 have n9:=U.1
 have az:=ki U.2
 have j9:(bs.length:Int)≤8:=by omega
 have z:=ki (kq_new w f)
 have HH:=ki h
 have Z:=ki (fun W (hW:Below w.heap.size w W)=>kcheck a cap bs W (h.below hW) hl hcp)
 rw[hb,show ev 0=.nilIface from rfl] at Z
 have HS:=ki (fun W=>kscore seed f 0 W)
 have bc:=ki (sok_iff.1 hs)
 rw[hs,show ev (fe true)=.nilIface from rfl] at HS
 obtain ⟨g1,g2,-,g4⟩:=sok_iff.1 hs
 have V:0≤seed∧seed < 2147483648:=⟨g1,by omega⟩
 have HM:=ki (fun W=>mixflow_any seed f W V g4)
 have aj:=mxs_in V (nl f 19) (fun x hx=>(nums_in hs x (by unfold nums;exact List.mem_append_left _ hx)).1)
 have N:=ki (show ∀ id,0≤id∧id≤65535→sv seed f id=(mx (mxs seed (nl f 19)) id).tdiv 256 from fun id hd=>by
  have ho:sok seed f id=true:=sok_iff.2 ⟨g1,g2,(wd_iff id).2 hd,g4⟩
  unfold sv
  rw[if_pos ho]
  unfold sc nums
  rw[mxs_snoc])
 have HQ:=ki (fun id W (hd:0≤id∧id≤65535)=>score_any (mxs seed (nl f 19)) id W aj hd)
 unfold zero4b at z
 have HZ:=ki bk_zero
 unfold zero4b at HZ
 clear h hl hcp hb hs U g1 g2 g4 V aj
 generalize (bf bs).1=p at Z
 generalize sv seed f 0=s0 at HS
 generalize mxs seed (nl f 19)=mm at HM N HQ
 obtain ⟨R,hR⟩:∃ R,pkr (pst seed f bs bs.length).1 bs=R:=⟨_,rfl⟩
 rw[hR]
 have HR:=ki hR
 clear hR
 go_enter Tryz.func141,Tryz.ntmps141
 go_upto_region 1 with fail
 generalize (w.alloc _).alloc _=W at z ⊢
 go_upto_region 4 with (go_at_call 74;refine (Z.o _ z.o.2.2).mono ?_;rintro r w1 ⟨rfl,ak⟩;replace z:=ki (z.o.kept ak);clear ak)
 have gf:=z.o.1.fl
 go_upto_region 7 with (go_at_call 194;refine (HS.o _).mono ?_;rintro r S ⟨rfl,A⟩;replace z:=ki (z.o.kept A);clear A gf)
 have gf:=z.o.1.fl
 go_upto_region 8 with (go_at_call 195;(with_reducible refine (HM.o _).mono ?_);rintro r T ⟨rfl,am⟩;replace z:=ki (z.o.kept am);clear am gf)
 clear Z HS HM
 have HD:=ki (show w.heap.size+1 < T.heap.size from z.o.2.1.lt)
 have e:=ki (show KB w f T.heap.size none bs (T.alloc (.cells #[.int .i64 0,.int .i64 0,.int .i64 0,.int .i64 0,.bool false,.bool false] 77)) from ⟨z.o.kept (al_below _ _),HZ.o T⟩)
 clear z
 go_upto_region 9 with fail
 generalize T.alloc _=W4 at e ⊢
 generalize T.heap.size=D at e HD ⊢
 go_wp2
 go_loopw [14,42] (fun u t wr=>∃ (k:Nat) (o:Option Nat) (m:Int),k≤bs.length∧t=.int .i64 k∧u=.int .i64 (tp o m)∧Hid (0≤m)∧Hid (pst seed f bs k=(o,m))∧Hid (KB w f D o bs wr)) (fun _ t _=>bs.length - (intOf t).toNat)
 case atStart=>exact ⟨0,none,0,by omega,rfl,rfl,ki (by omega),rfl,e⟩
 case round =>
  clear e
  obtain ⟨k,o,m,hk,rfl,rfl,Hm,HP,e⟩:=hrel
  by_cases hlt:k < bs.length
  ·obtain ⟨g,an,rfl,ao,X⟩:=HH.o (by omega)
   have j1:(k:Int) < (bs.length:Int):=by omega
   have H:=rng_kl (show wr.rangeAt g (an+k*6) (bkC (bs.getD k [])).toList from fun j u hu=>by rw[e.o.1.2.2.cell (p:=⟨g,an+k*6+j,none⟩) ao];exact X k hlt j u hu)
   have d:=ki (show pst seed f bs (k+1)=if cand (bs.getD k [])=true then (if btr bs o m (pv seed f (bs.getD k [])) k=true then (some k,pv seed f (bs.getD k [])) else (o,m)) else (o,m) by
    cases hcd:cand (bs.getD k [])
    ·rw[kst_skip hcd,HP.o];rfl
    ·rw[kst_take hcd HP.o];rfl)
   have J:=(az.o k hlt).1
   have C:=ki (show (0≤el (bs.getD k []) 0∧el (bs.getD k []) 0≤65535)∧0≤el (bs.getD k []) 3∧el (bs.getD k []) 3≤10 by
    unfold okb at J
    simp only[Bool.and_eq_true,decide_eq_true_eq] at J
    exact ⟨(wd_iff _).1 J.1.1.1,J.2⟩)
   have F:=ki (show pv seed f (bs.getD k [])=sv seed f (el (bs.getD k []) 0)*el (bs.getD k []) 3 from rfl)
   rw[N.o _ C.o.1] at F
   have K:=ki (fun W=>HQ.o _ W C.o.1)
   have O:0≤(mx mm (el (bs.getD k []) 0)).tdiv 256∧(mx mm (el (bs.getD k []) 0)).tdiv 256 < 8388608:=by
    rw[← N.o _ C.o.1];exact sv_in _ _ _
   clear J X ao
   have P:=ki (show bo (some k) bs=bs.getD k [] from rfl)
   have Q:=ki (show ∀ i n,btr bs (some i) m n k=(decide (m < n) || ((n == m) && decide (el (bs.getD k []) 0 < el (bo (some i) bs) 0))) from fun _ _=>rfl)
   obtain ⟨b,hbk⟩:∃ b,bs.getD k []=b:=⟨_,rfl⟩
   rw[hbk] at H d C F K O P Q
   clear hbk
   have HT:=ki (fun W=>tn_any b W)
   go_upto_region 13 with (refine at_storek rfl (.tmp 16) (.tmp 45) rfl rfl (HZ.o wr) b rfl ?_;intro w1 p1 ap;replace e:=ki (e.o.kept (new_below _ ap));have v:=ki p1;clear ap p1)
   clear H
   generalize wr.heap.size=E at v ⊢
   have H:=v.o.kl
   generalize cand b=cd at HT d
   cases cd
   ·replace d:Hid (pst seed f bs (k+1)=(o,m)):=d
    go_wp2_with (go_at_call 196;(with_reducible refine (HT.o _).mono ?_);rintro r S ⟨rfl,A⟩;replace e:=ki (e.o.kept A);clear A H)
    go_roundw
    case rel=>exact ⟨k+1,o,m,by omega,by go_num,rfl,Hm,d,e⟩
    case measure=>simp[intOf];omega
   ·replace d:Hid (pst seed f bs (k+1)=if btr bs o m (pv seed f b) k=true then (some k,pv seed f b) else (o,m)):=d
    go_upto_region 14 with (go_at_call 196;(with_reducible refine (HT.o _).mono ?_);rintro r S ⟨rfl,A⟩;replace e:=ki (e.o.kept A);replace v:=ki (v.o.kept A);clear A H)
    clear HT
    have aq:=ki (show KB w f D o bs S.drew from e.o.kept ((Below.refl _ _).drew))
    have I:=ki (show BkIn E b S.drew from v.o)
    have G:=ki (show S.drew.cell? ⟨E,3,none⟩=some (.int .i64 (el b 3))∧S.drew.cell? ⟨E,0,none⟩=some (.int .i64 (el b 0)) from ⟨by have:=rng_int I.o.rng 3 (by omega);rwa [Nat.zero_add] at this,rng_id I.o.rng⟩)
    clear e v
    obtain ⟨s,hsx⟩:∃ s,(mx mm (el b 0)).tdiv 256=s:=⟨_,rfl⟩
    rw[hsx] at F K O
    clear hsx
    obtain ⟨x3,hx3⟩:∃ x,el b 3=x:=⟨_,rfl⟩
    rw[hx3] at G F C
    have bd:=ki hx3
    clear hx3
    obtain ⟨x0,hx0⟩:∃ x,el b 0=x:=⟨_,rfl⟩
    rw[hx0] at G K Q
    have be:=ki hx0
    clear hx0
    have q0:x3*s=s*x3:=Int.mul_comm _ _
    have q1:IntKind.i64.wrap (s*x3)=s*x3∧0≤s*x3:=by
     obtain ⟨-,a1,a2⟩:=C.o
     obtain ⟨b1,b2⟩:=O
     have p1:0≤s*x3:=Int.mul_nonneg b1 a1
     have p2:s*x3≤s*10:=Int.mul_le_mul_of_nonneg_left a2 b1
     exact ⟨by rw[IntKind.wrap_i64];omega,p1⟩
    obtain ⟨n,hn⟩:∃ n,s*x3=n:=⟨_,rfl⟩
    rw[hn] at q0 q1 F
    have q2:IntKind.i64.wrap (x3*s)=n:=by rw[q0];exact q1.1
    have Hn:=ki q1.2
    rw[F.o] at d
    clear hn q0 q1 F O C
    obtain ⟨c3,c0⟩:=G.o
    go_region_held3 (fun W'=>W'.cell? ⟨E,3,none⟩=some (.int .i64 x3)∧W'.cell? ⟨E,0,none⟩=some (.int .i64 x0))
     (first
      | exact G.o
      | exact Y.o
      | go_keep)
     (first|(go_at_call 197;(with_reducible refine (K.o _).mono ?_);rintro r w4 ⟨rfl,L⟩;have Y:=ki (And.intro ((L.cell (p:=⟨E,3,none⟩) I.o.lt).trans G.o.1) ((L.cell (p:=⟨E,0,none⟩) I.o.lt).trans G.o.2));have e:=ki (aq.o.kept L);have v:=ki (I.o.kept L);clear L c3 c0;obtain ⟨c3,c0⟩:=Y.o))
    clear G Y aq I K c3 q2 HQ N
    cases o with
    | none =>
     rw[show tp none m = -1 from rfl]
     replace d:Hid (pst seed f bs (k+1)=(some k,n)):=d
     have d1:(-1:Int) < n:=by have:=Hn.o;omega
     have H:=v.o.kl
     go_wp2_with (refine at_storek rfl (.tmp 13) (.tmp 71) rfl rfl e.o.2 b rfl ?_;intro M q l;have B:=ki (show KB w f D (some k) bs M from ⟨e.o.1.only l HD.o,by rw[P.o];exact q⟩);clear l q)
     go_roundw
     case rel=>exact ⟨k+1,some k,n,by omega,by go_num,rfl,Hn,d,B⟩
     case measure=>simp[intOf];omega
    | some i =>
     rw[show tp (some i) m=m from rfl]
     rw[Q.o i n] at d
     have cD:=rng_id e.o.2.rng
     obtain ⟨y0,hy0⟩:∃ y,el (bo (some i) bs) 0=y:=⟨_,rfl⟩
     rw[hy0] at d cD
     clear hy0 Q
     by_cases h1:m < n
     ·replace d:Hid (pst seed f bs (k+1)=(some k,n)):=by rw[d.o,decide_eq_true h1];exact ki rfl
      have H:=v.o.kl
      go_wp2_with (refine at_storek rfl (.tmp 13) (.tmp 71) rfl rfl e.o.2 b rfl ?_;intro M q l;have B:=ki (show KB w f D (some k) bs M from ⟨e.o.1.only l HD.o,by rw[P.o];exact q⟩);clear l q)
      go_roundw
      case rel=>exact ⟨k+1,some k,n,by omega,by go_num,rfl,Hn,d,B⟩
      case measure=>simp[intOf];omega
     ·rw[decide_eq_false h1] at d
      cases h2:n == m
      ·replace d:Hid (pst seed f bs (k+1)=(some i,m)):=by rw[d.o,h2];exact ki rfl
       go_wp2
       go_roundw
       case rel=>exact ⟨k+1,some i,m,by omega,by go_num,rfl,Hm,d,e⟩
       case measure=>simp[intOf];omega
      ·rw[h2] at d
       by_cases h3:x0 < y0
       ·replace d:Hid (pst seed f bs (k+1)=(some k,n)):=by rw[d.o,decide_eq_true h3];exact ki rfl
        have H:=v.o.kl
        go_wp2_with (refine at_storek rfl (.tmp 13) (.tmp 71) rfl rfl e.o.2 b rfl ?_;intro M q l;have B:=ki (show KB w f D (some k) bs M from ⟨e.o.1.only l HD.o,by rw[P.o];exact q⟩);clear l q)
        go_roundw
        case rel=>exact ⟨k+1,some k,n,by omega,by go_num,rfl,Hn,d,B⟩
        case measure=>simp[intOf];omega
       ·replace d:Hid (pst seed f bs (k+1)=(some i,m)):=by rw[d.o,decide_eq_false h3];exact ki rfl
        go_wp2
        go_roundw
        case rel=>exact ⟨k+1,some i,m,by omega,by go_num,rfl,Hm,d,e⟩
        case measure=>simp[intOf];omega
  ·obtain rfl:bs.length=k:=by omega
   cases o with
   | none =>
    rw[show tp none m = -1 from rfl]
    have v:=ki (show R=([],4) by rw[← HR.o,HP.o];rfl)
    go_wp2_with (refine at_storek rfl (.tmp 6) (.tmp 76) rfl rfl e.o.1.2.1 [] rfl ?_;intro M q l;have B:=ki (l.below e.o.1.2.2 (Nat.le_succ _));replace q:=ki q;clear l)
    try simp only[Exit.inBlock,Exit.then]
    refine bodyPost_ret (results_bk rfl _ _ (w.heap.size+1) [] rfl q.o) rfl ?_
    exact ⟨by rw[v.o];rfl,B.o⟩
   | some i =>
    rw[show tp (some i) m=m from rfl]
    have v:=ki (show R=(bo (some i) bs,0) by rw[← HR.o,HP.o];rfl)
    have H:=e.o.2.kl
    obtain ⟨bi,hbi⟩:∃ b,bo (some i) bs=b:=⟨_,rfl⟩
    rw[hbi] at H v
    clear hbi
    have j2:¬ m < 0:=by have:=Hm.o;omega
    go_wp2_with (refine at_storek rfl (.tmp 6) (.tmp 78) rfl rfl e.o.1.2.1 bi rfl ?_;intro M q l;have B:=ki (l.below e.o.1.2.2 (Nat.le_succ _));replace q:=ki q;clear l)
    try simp only[Exit.inBlock,Exit.then]
    refine bodyPost_ret (results_bk rfl _ _ (w.heap.size+1) bi rfl q.o) rfl ?_
    exact ⟨by rw[v.o];rfl,B.o⟩
theorem kpick:JKp:=by
 intro seed f a d bs w h hl e
 by_cases hb:(bf bs).2=0
 ·cases hs:sok seed f 0
  ·have b:pko seed f bs=([],1):=by unfold pko;rw[if_pos hb,hs];rfl
   rw[b]
   exact kpick_bad seed f a d bs w h hl e 1 b (.inr ⟨hb,hs⟩)
  ·have b:pko seed f bs=pkr (pst seed f bs bs.length).1 bs:=by unfold pko;rw[if_pos hb,hs];rfl
   rw[b]
   exact kpick_ok seed f a d bs w h hl e hb hs
 ·have b:pko seed f bs=([],(bf bs).2):=by unfold pko;rw[if_neg hb]
  rw[b]
  exact kpick_bad seed f a d bs w h hl e _ b (.inl hb)
end
end Go.Proofs.YtgcojnlngchllaaGreatDoor
