/- ports, by a contract. inside, by a contract: what an address is to the gate. obey, by contracts: first the words of a line. how long what goes on is. obey of six, by a contract. -/
import Derived.Test.YtgcojnlngchllaaGreatDoorK43
namespace Go.Proofs.YtgcojnlngchllaaGreatDoor
open Go.RowKit
set_option linter.unusedVariables false
set_option maxRecDepth 100000
set_option maxHeartbeats 40000000
section
theorem app_str {w:World} {ops:Array Oper} {rest:List Oper} {o:Oper} {a:Act} {Q:Exit→Act→World→Prop} (hgd:o.guard=none) (s x:Operand)
  (ho:o.op=.call { callee:=.builtin .append,args:=#[s,x],argTypes:=#[130,130] })
  (base:Nat) (v:Value) (xs:List Value) (hs:a.eval s=v) (hown:OwnG 9 base w v xs) (B m:Nat) (ys:List Value) (hx:a.eval x=.slice (some ⟨B,0,none⟩) m m) (hm:ys.length=m)
  (hc:∀ (j:Nat) u,ys[j]? = some u→w.cell? ⟨B,j,none⟩=some u) (h1:∀ u ∈ ys,u.oneCell'=true) (hlen:xs.length+m≤4000000) (hbase:base≤w.heap.size)
  (h:∀ v' w',OwnG 9 base w' v' (xs++ys)→w.grownBy w' v.ownBlock→wpList Tryz.prog ops Q rest (a.put o.dst v') w'):wpList Tryz.prog ops Q (o::rest) a w:=by
 obtain ⟨f,g,b,d,e⟩:=info_parts Ad.Tryz.infoStr
 refine wpList_append_own _ hgd s x 130 ho base 9 f (.string ⟨#[]⟩) 1 16 Tryz.underlying130 g b d e rfl (by decide) v xs.length xs hs hown ⟨B,0,none⟩ m m ys hx (by omega) ?_ h1 (by unfold maxLen;omega) (by omega) hbase ?_
 ·intro j u i
  rw[Lib.add_plain,Nat.zero_add]
  exact hc j u i
 ·intro v' w' k l _
  refine h v' w' ?_ l
  unfold OwnG
  rw[List.length_append,hm]
  exact k
def prtD (b:List Int):List UInt8:=Lib.decDigits (el b 19).toNat
def portF (bs:List (List Int)):List UInt8:=if bs=[] then [45] else Ad.AM.jn 32 (bs.map prtD)
theorem prtD_len {b:List Int} (h:el b 19≤65535):(prtD b).length≤5:=Ad.AM.dec_len 4 _ (by omega)
theorem one_str (s:Value) (w:World):∀ (j:Nat) u,([s]:List Value)[j]? = some u→(w.alloc (.cells #[s] 9)).cell? ⟨w.heap.size,j,none⟩=some u:=by
 intro j u a
 have b:j < 1:=(List.getElem?_eq_some_iff.1 a).1
 obtain rfl:j=0:=by omega
 rw[World.cell?_alloc_new]
 exact a
theorem join_at (c:UInt8) (B cap:Nat) (ws:List (List UInt8)) (w:World) (hc:ws.length≤cap) (hn:ws.length≤1000) (hlen:(Ad.AM.jn c ws).length≤1000000) (hB:B < w.heap.size) (hR:∀ (j:Nat) x,ws[j]? = some x→w.cell? ⟨B,j,none⟩=some (Ad.strv x)) :
  Calls Tryz.prog 241 #[.slice (some ⟨B,0,none⟩) ws.length cap,.string ⟨#[c]⟩] w fun e w'=>e=.returned (Ad.strv (Ad.AM.jn c ws))∧Below w.heap.size w w':=by
 have b:(ws.map fun l=>(⟨l.toArray⟩:ByteArray)).map (·.data.toList)=ws:=by
  rw[List.map_map]
  conv=>rhs;rw[← List.map_id ws]
  apply List.map_congr_left
  intro x _
  simp
 have h:=Tryz.strings_Join B 0 cap (ws.map fun l=>⟨l.toArray⟩) ⟨#[c]⟩ w (fun j x hx=>by
   rw[Nat.zero_add]
   rw[List.getElem?_map] at hx
   cases hw:ws[j]? with
   | none=>rw[hw] at hx;cases hx
   | some l=>rw[hw] at hx;simp at hx;subst hx;exact hR j l hw) hB (by rw[List.length_map];omega) (by rw[List.length_map];omega) (by
   rw[b]
   show (Lib.join ws [c]).length≤_
   rw[Ad.AM.jn_join];omega)
 rw[List.length_map,b] at h
 have e:Lib.join ws (⟨#[c]⟩:ByteArray).data.toList=Ad.AM.jn c ws:=Ad.AM.jn_join c ws
 rw[e] at h
 exact h
attribute [local go_sem ↓] bload_shut
theorem ports_gh {g:GS} (hg:IG g):∀ w G O W,GH w G g O W→LA W →
  Calls Tryz.prog 183 #[ssn G] W fun e w'=>e=.returned (Ad.strv (portF g.bs))∧Below W.heap.size W w':=by
 intro w G O W Z hA
 have hb:=al_below W (.cells #[.pointer (some ⟨G,0,none⟩)] 126)
 have P:=ki (sn_new G W)
 have Q:=ki hb
 have R:=ki (Z.kept hb)
 have ac:=ki hA
 have E:=ki (fun W1 (h:GH w G g O W1)=>binds_new hg h)
 have S:=hg.1.2.1
 have T:=ki (show ∀ b ∈ g.bs,0≤el b 19∧el b 19≤65535 from fun b hb=>by
  obtain ⟨-,⟨i,h1,h2,-⟩,-⟩:=hg.1.2.2.1.1 b hb
  have:=hg.1.1
  omega)
 unfold ssn
 clear hb Z hA hg
 go_enter Tryz.func183,Tryz.ntmps183
 go_upto_region 1 with fail
 generalize World.alloc _ _=W0 at P Q R ⊢
 have c1:=P.out.cell
 go_upto_region 3 with (go_at_call 17;refine (E.out _ R.out).mono ?_;rintro e d ⟨vb,rfl,hr,F⟩;have HR:=ki hr;obtain ⟨ab,cb,rfl,-⟩:=hr;have o:=ki (bt Q.out F);clear F)
 have hF:portF g.bs=if g.bs=[] then [45] else Ad.AM.jn 32 (g.bs.map prtD):=rfl
 have p:=ki hF
 clear E R P Q c1 hF
 generalize hbs:g.bs=bs at HR T p S
 have HE:=ki (show portF g.bs=portF bs by rw[hbs])
 go_loopw [3,10] (fun v t wr=>∃ k:Nat,k≤bs.length∧t=.int .i64 k∧Hid (OwnG 9 d.heap.size wr v ((bs.take k).map fun b=>Ad.strv (prtD b)))∧Hid (Below d.heap.size d wr)) (fun _ t _=>bs.length - (intOf t).toNat)
 case atStart=>exact ⟨0,Nat.zero_le _,rfl,OwnG.nil _ _ _,Below.refl _ _⟩
 case round =>
  obtain ⟨k,hk,rfl,C,r⟩:=hrel
  by_cases hlt:k < bs.length
  ·have ai:=HR.out.same r.out
   obtain ⟨a6,c6,U,H⟩:=ai
   injection U with U e8 e7
   subst U
   subst e7
   clear e8
   obtain ⟨gg,a5,rfl,-,hx⟩:=H (by omega)
   have gx:=row_bl (hx k hlt)
   obtain ⟨ak,am⟩:=T.out (bs.getD k []) (by rw[List.getD_eq_getElem?_getD,List.getElem?_eq_getElem hlt];exact List.getElem_mem hlt)
   have HX:=ki (show (bs.take (k+1)).map (fun b=>Ad.strv (prtD b))=(bs.take k).map (fun b=>Ad.strv (prtD b))++[Ad.strv (prtD (bs.getD k []))] by
    rw[List.take_add_one,List.map_append,List.getD_eq_getElem?_getD,List.getElem?_eq_getElem hlt]
    rfl)
   generalize bs.getD k []=bk at gx ak am HX
   clear hx H
   obtain ⟨n,hn⟩:∃ n:Nat,el bk 19=n:=⟨(el bk 19).toNat,by omega⟩
   have ap:=ki (show prtD bk=Lib.decDigits n by unfold prtD;rw[hn];rfl)
   have j1:(k:Int) < (bs.length:Int):=by omega
   have V:=ki (bd_zero wr)
   unfold zero23 at V
   have aq:=r.out.size
   have HI:=ki (fun (W1:World) (h:Ad.Pow10 W1)=>itoa_any n W1 (by omega) h)
   unfold Ad.strv at HI
   go_upto_region 5 with (refine at_storeb rfl (.tmp 5) (.tmp 13) rfl rfl V.out bk rfl ?_;intro w7 p7 s;have y:=ki (show Below d.heap.size d w7 from r.out.trans ((new_below _ s).mono aq));have au:=ki (C.out.kept (new_below _ s));have I:=ki p7;clear s p7)
   clear gx V
   generalize wr.heap.size=D at I ⊢
   have av:=I.out.cell 19 (by omega)
   rw[hn] at av
   have a7:((bs.take k).map fun b=>Ad.strv (prtD b)).length≤128:=by rw[List.length_map,List.length_take];omega
   go_wp2_with (first
    | (go_at_call 237;refine (HI.out _ (ac.out.below (bt o.out y.out)).2.1).mono ?_;rintro e X ⟨rfl,z⟩;have f:=ki (y.out.trans (z.mono y.out.size));have J:=ki (au.out.kept z);clear z)
    | (at_builtin;refine app_str rfl (.tmp 14) (.tmp 18) rfl d.heap.size _ _ rfl (J.out.kept (al_below X (.cells #[.string ⟨(Lib.decDigits n).toArray⟩] 9))) X.heap.size 1 [.string ⟨(Lib.decDigits n).toArray⟩] rfl rfl (one_str _ X) (fun u hu=>by rw[List.mem_singleton.1 hu];rfl) (by omega) (by have:=f.out.size;simp;omega) ?_;intro v9 w9 K L;have aw:=ki K;have ax:=ki ((f.out.alloc f.out.size (.cells #[.string ⟨(Lib.decDigits n).toArray⟩] 9)).grown L (by have:=f.out.size;simp;omega) (fun q e=>J.out.base q e));clear K L))
   refine ⟨⟨k+1,by omega,by go_num,by rw[HX.out,ap.out];exact aw,ax⟩,by simp[intOf];omega⟩
  ·obtain rfl:k=bs.length:=by omega
   have l:=ki (show OwnG 9 d.heap.size wr _ (bs.map fun b=>Ad.strv (prtD b)) by have:=C.out;rwa [List.take_length] at this)
   obtain ⟨ao,ay,hv,a⟩:=l.out.parts
   rw[List.length_map] at hv
   subst hv
   by_cases hnil:bs=[]
   ·have A:=ki (show portF bs=[45] by rw[p.out,if_pos hnil])
    subst hnil
    clear hbs
    have B:=ki (bt o.out r.out)
    clear a C l p
    go_wp2
    go_ret
    exact ⟨by rw[HE.out,A.out];rfl,B.out⟩
   ·have A:=ki (show portF bs=Ad.AM.jn 32 (bs.map prtD) by rw[p.out,if_neg hnil])
    obtain ⟨gB,rfl,a8,az,M⟩:=a (by simpa using hnil)
    have Y:(Ad.AM.jn 32 (bs.map prtD)).length≤1000000:=by
     have:=Ad.AM.jn_len 32 5 (bs.map prtD) (fun x hx=>by
      obtain ⟨b,hb,rfl⟩:=List.mem_map.1 hx
      exact prtD_len (T.out b hb).2)
     rw[List.length_map] at this
     omega
    have HJ:=ki (join_at 32 gB ay (bs.map prtD) wr (by rw[List.length_map];exact l.out.2.elim (fun h=>absurd h.1 (by simp)) (fun ⟨g,c,cur,e,_,_,h,_⟩=>by injection e with e1 e2 e3;omega)) (by rw[List.length_map];omega) Y az (fun j x hx=>M j _ (by rw[List.getElem?_map] at hx ⊢;cases hb:bs[j]? with
     | none=>rw[hb] at hx;cases hx
     | some b=>rw[hb] at hx;simp at hx;subst hx;rfl)))
    rw[List.length_map] at HJ
    have a9:0 < bs.length:=List.length_pos_iff.2 hnil
    have ba:((bs.length:Nat):Int)≠0:=by omega
    have B:=ki (bt o.out r.out)
    clear a C l p M
    go_wp2_with (go_at_call 241;refine HJ.out.mono ?_;rintro e w9 ⟨rfl,N⟩;have a1:=ki (bt B.out N);clear N)
    go_ret
    exact ⟨by rw[HE.out,A.out];rfl,a1.out⟩
end
section
attribute [local go_sem ↓] hload_shut nload_shut
def insF (c a:List Int):List UInt8 :=
 if eqz a (vip c)=true then [118,105,112] else if Em.inF a (pfx c) (el c 17)=true then
  (if (oto a (el c 17)).2=0 then Ad.AM.t4 (oto a (el c 17)).1.toNat else [45]) else [45]
theorem oto_fr (a:List Int) (n:Int) (h:Ok6 a) (hn:Em.LongP n):0≤(oto a n).1∧(oto a n).1≤4294967295:=by
 unfold oto
 split
 ·decide
 ·have b:(n / 8).toNat≤12:=by unfold Em.LongP at hn;omega
  generalize (n / 8).toNat=q at b
  have hp:∀ i,i < 4→Em.pos q i < 16:=fun i hi=>by unfold Em.pos;split <;> omega
  have d:=Em.byt_in a h (Em.pos q 0) (hp 0 (by omega))
  have e:=Em.byt_in a h (Em.pos q 1) (hp 1 (by omega))
  have f:=Em.byt_in a h (Em.pos q 2) (hp 2 (by omega))
  have g:=Em.byt_in a h (Em.pos q 3) (hp 3 (by omega))
  show 0≤Em.gat a q∧Em.gat a q≤4294967295
  unfold Em.gat
  omega
theorem inside_gh {g:GS} (hg:IG g) (a:List Int) (ha:Ok6 a):∀ w G O W,GH w G g O W→LA W →
  Calls Tryz.prog 184 #[ssn G,.agg (sixC a)] W fun e w'=>e=.returned (.tuple #[Ad.strv (insF g.c a),.nilIface])∧Below W.heap.size W w':=by
 intro w G O W U V
 have X:=al_below W (.cells #[.pointer (some ⟨G,0,none⟩)] 126)
 have R:=al_below (W.alloc (.cells #[.pointer (some ⟨G,0,none⟩)] 126)) (.cells (sixC a) 23)
 have Y:=sn_new G W
 have S:=six_al a (W.alloc (.cells #[.pointer (some ⟨G,0,none⟩)] 126))
 rw[World.size_alloc] at S
 have Z:=ki (Y.kept R)
 have HP:=ki S
 have A:=ki (bt X R)
 have HC:=ki (U.cf)
 have ab:=ki V
 have hl:=hg.2.2.2.2.1
 have B:0≤el g.c 17∧el g.c 17≤128:=by unfold Em.LongP at hl;omega
 have y:=ki (fun W1=>ain a (pfx g.c) (el g.c 17) W1 ha hg.2.2.2.1 B.1 B.2)
 have f:=ki (fun W1=>eout a (el g.c 17) W1 ha hl)
 have K:=oto_fr a (el g.c 17) ha hl
 have ac:=ki (fun W1=>seq_run a (vip g.c) W1)
 have hF:insF g.c a=if eqz a (vip g.c)=true then [118,105,112] else if Em.inF a (pfx g.c) (el g.c 17)=true then (if (oto a (el g.c 17)).2=0 then Ad.AM.t4 (oto a (el g.c 17)).1.toNat else [45]) else [45]:=rfl
 have H:=ki hF
 clear X R Y S U V hg ha hl B hF
 unfold ssn
 go_enter Tryz.func184,Tryz.ntmps184
 go_upto_region 1 with fail
 generalize (World.alloc _ _).alloc _=W0 at Z HP A ⊢
 have d:=ki (show ∀ W1,Below W0.heap.size W0 W1→(hload (.pointer (some ⟨W.heap.size+1,0,none⟩))).run Tryz.prog W1=.ok (.agg (sixC a)) W1∧W1.cell? ⟨W.heap.size,0,none⟩=some (.pointer (some ⟨G,0,none⟩))∧(hload (.pointer (some ⟨G,0,none⟩))).run Tryz.prog W1=.ok (.agg (sixC (vip g.c))) W1∧(hload (.pointer (some ⟨G,9,none⟩))).run Tryz.prog W1=.ok (.agg (sixC (pfx g.c))) W1∧W1.cell? ⟨G,17,none⟩=some (.int .i64 (el g.c 17)) from fun W1 hb=>by
  have T:=HC.out.kept (bt A.out hb)
  exact ⟨(HP.out.kept hb).hl,(Z.out.kept hb).cell,T.hv,T.hp,T.len⟩)
 have r1:=fun n=>(d.out (W0.drewN n) (Below.refl _ _ |>.trans ⟨rfl,rfl,rfl,Nat.le_refl _,fun _ _=>rfl⟩)).1
 have r2:=fun n=>(d.out (W0.drewN n) (Below.refl _ _ |>.trans ⟨rfl,rfl,rfl,Nat.le_refl _,fun _ _=>rfl⟩)).2.2.1
 have r3:=(d.out W0 (Below.refl _ _)).2.1
 have he:=ac.out
 generalize hq:eqz a (vip g.c)=q at he H
 have M:=ki (show ∀ n,Below W0.heap.size W0 (W0.drewN n) from fun n=>⟨rfl,rfl,rfl,Nat.le_refl _,fun _ _=>rfl⟩)
 go_quiet (fail)
 clear r1 r2 r3
 generalize hW1:World.drewN _ _=W1
 have C:=ki (show Below W0.heap.size W0 W1 by rw[← hW1];exact M.out _)
 clear hW1 M he
 cases q
 case true =>
  have k:=ki (show insF g.c a=[118,105,112] by rw[H.out];rfl)
  go_wp2
  go_ret2
  exact ⟨by rw[k.out];rfl,bt A.out C.out⟩
 case false =>
  have l:=ki (show insF g.c a=if Em.inF a (pfx g.c) (el g.c 17)=true then (if (oto a (el g.c 17)).2=0 then Ad.AM.t4 (oto a (el g.c 17)).1.toNat else [45]) else [45] by rw[H.out];rfl)
  clear H hq
  go_upto_region 3 with fail
  have b:=ki (show Below W0.heap.size W0 W1.drew from C.out.drew)
  obtain ⟨r,s,t,x,o⟩:=d.out _ b.out
  generalize hI:Em.inF a (pfx g.c) (el g.c 17)=I at y l
  generalize hO:oto a (el g.c 17)=OT at f l K
  generalize hL:el g.c 17=L at d o y f
  go_cut [6,7] from 6 to 33 (fun u v wx=>u=.bool I∧v=.nilIface∧Hid (Below W0.heap.size W0 wx))
  case first =>
   go_region_held3 (fun W'=>(hload (.pointer (some ⟨W.heap.size+1,0,none⟩))).run Tryz.prog W'=.ok (.agg (sixC a)) W'∧W'.cell? ⟨W.heap.size,0,none⟩=some (.pointer (some ⟨G,0,none⟩))∧(hload (.pointer (some ⟨G,0,none⟩))).run Tryz.prog W'=.ok (.agg (sixC (vip g.c))) W'∧(hload (.pointer (some ⟨G,9,none⟩))).run Tryz.prog W'=.ok (.agg (sixC (pfx g.c))) W'∧W'.cell? ⟨G,17,none⟩=some (.int .i64 L))
    (first
     | exact d.out _ b.out
     | exact d.out _ i.out
     | go_keep)
    (first
     | (go_at_call 75;refine (y.out _).mono ?_;rintro e w4 ⟨rfl,p⟩;have i:=ki (b.out.trans (p.mono b.out.size));clear p r s t x o;obtain ⟨r,s,t,x,o⟩:=d.out _ i.out))
   all_goals
    go_wp2_with fail
    go_meet
    exact ⟨rfl,rfl,i⟩
  case rest =>
   obtain ⟨rfl,rfl,z⟩:=hcut
   clear C b r s t x o y
   cases I
   case false =>
    have k:=ki (show insF g.c a=[45] by rw[l.out];rfl)
    go_wp2
    go_ret2
    exact ⟨by rw[k.out];rfl,bt A.out z.out⟩
   case true =>
    have k:=ki (show insF g.c a=if OT.2=0 then Ad.AM.t4 OT.1.toNat else [45] by rw[l.out];rfl)
    clear l
    go_upto_region 8 with fail
    generalize hwc:wc=W2 at z ⊢
    clear hwc
    have b:=ki (show Below W0.heap.size W0 W2.drew from z.out.drew)
    obtain ⟨r,s,t,x,o⟩:=d.out _ b.out
    obtain ⟨E,hE⟩:∃ E,E=ev OT.2:=⟨_,rfl⟩
    rw[← hE] at f
    have J:=ki hE
    clear hE
    go_cut [8,7] from 7 to 49 (fun u v wx=>u=.int .i64 OT.1∧v=E∧Hid (Below W0.heap.size W0 wx))
    case first =>
     go_region_held3 (fun W'=>(hload (.pointer (some ⟨W.heap.size+1,0,none⟩))).run Tryz.prog W'=.ok (.agg (sixC a)) W'∧W'.cell? ⟨W.heap.size,0,none⟩=some (.pointer (some ⟨G,0,none⟩))∧(hload (.pointer (some ⟨G,0,none⟩))).run Tryz.prog W'=.ok (.agg (sixC (vip g.c))) W'∧(hload (.pointer (some ⟨G,9,none⟩))).run Tryz.prog W'=.ok (.agg (sixC (pfx g.c))) W'∧W'.cell? ⟨G,17,none⟩=some (.int .i64 L))
      (first
       | exact d.out _ b.out
       | exact d.out _ i.out
       | go_keep)
      (first
       | (go_at_call 142;refine (f.out _).mono ?_;rintro e w4 ⟨rfl,p⟩;have i:=ki (b.out.trans (p.mono b.out.size));clear p r s t x o;obtain ⟨r,s,t,x,o⟩:=d.out _ i.out))
     all_goals
      go_wp2_with fail
      go_meet
      exact ⟨rfl,rfl,i⟩
    case rest =>
     obtain ⟨rfl,hv,N⟩:=hcut
     clear z b r s t x o f d
     obtain ⟨n,hn⟩:∃ n:Nat,OT.1=n:=⟨OT.1.toNat,by omega⟩
     by_cases h0:OT.2=0
     ·have D:=ki (show insF g.c a=Ad.AM.t4 n by rw[k.out,if_pos h0,hn];rfl)
      have F:=hv.trans (show E=.nilIface by rw[J.out,h0];rfl)
      subst F
      rw[hn] at K ⊢
      have af:=ki (fun W4 (h:Ad.Pow10 W4)=>Ad.print4_ok n W4 (by omega) h)
      have P:=ki (bt A.out N.out)
      clear J hv
      go_wp2_with (go_at_call 240;refine (af.out _ (ab.out.below P.out).2.1).mono ?_;rintro e w5 ⟨rfl,Q⟩;have ag:=ki (bt P.out Q);clear Q)
      go_ret2
      exact ⟨by rw[D.out];rfl,ag.out⟩
     ·have D:=ki (show insF g.c a=[45] by rw[k.out,if_neg h0])
      have F:=hv.trans (show E=err OT.2 by rw[J.out];exact ev_err h0)
      subst F
      unfold err
      clear J hv
      go_wp2
      go_ret2
      exact ⟨by rw[D.out];rfl,bt A.out N.out⟩
end
section
theorem spl_ll (c:UInt8):∀ l:List UInt8,(Ad.AM.spl c l).length≤l.length+1
 | []=>by simp[Ad.AM.spl]
 | b::r=>by
  have ih:=spl_ll c r
  unfold Ad.AM.spl
  split
  ·simp only[List.length_cons];omega
  ·split <;> rename_i h <;> simp only[h,List.length_cons,List.length_nil] at ih ⊢ <;> omega
def FrV (n:Nat) (v:Value):Prop:=∀ b o l c,v=.slice (some ⟨b,o,none⟩) l c→n≤b
theorem split_run (c:UInt8) (l:List UInt8) (hl:l.length≤99999) (w:World) (hM:Ad.MaxL w) :
  Calls Tryz.prog 112 #[Ad.strv l,.string ⟨#[c]⟩] w fun e w'=>(∃ v,e=.returned v∧Wds v (Ad.AM.spl c l) w'∧FrV w.heap.size v)∧Below w.heap.size w w':=by
 obtain ⟨m,i⟩:=hM
 have k:(⟨l.toArray⟩:ByteArray).size=l.length:=by simp[ByteArray.size]
 have a:=Tryz.strings_Split ⟨l.toArray⟩ ⟨#[c]⟩ m w (by omega) i (by simp[ByteArray.size])
 have f:=Lib.splitB_all ⟨#[c]⟩ (by simp[ByteArray.size]) 0 _ ⟨l.toArray⟩ rfl
 have d:=Ad.AM.split_is c ⟨l.toArray⟩
 have p:=spl_ll c l
 generalize Lib.splitB ⟨#[c]⟩ 0 (Lib.countB ⟨l.toArray⟩ ⟨#[c]⟩) ⟨l.toArray⟩=ws at a f d
 generalize Lib.countB ⟨l.toArray⟩ ⟨#[c]⟩+1=n at a f
 have hd:ws.map (·.data.toList)=Ad.AM.spl c l:=d
 have hn:(Ad.AM.spl c l).length=n:=by rw[← hd,List.length_map,f]
 have g:Below w.heap.size w (w.alloc (.cells (ws.map Value.string).toArray 9)):=(Below.refl _ _).alloc (Nat.le_refl _) _
 refine a.mono ?_
 rintro e w' ⟨rfl,rfl⟩
 refine ⟨⟨_,rfl,⟨some ⟨w.heap.size,0,none⟩,n,by rw[hn],by omega,by omega,fun _=>⟨w.heap.size,0,rfl,fun j hj=>?_⟩⟩,fun b o l c e=>by injection e with e1;injection e1 with e2;injection e2 with e3;omega⟩,g⟩
 rw[World.cell?_alloc_new,Nat.zero_add,← hd]
 have h:j < ws.length:=by omega
 simp only[List.getElem?_toArray,List.getElem?_map,List.getElem?_eq_getElem h,Option.map_some,List.getD_eq_getElem?_getD,Option.getD_some]
 rfl
theorem GN.held {w:World} {G:Nat} {g':GS} {O:Nat→Prop} {W W':World} (h:GN w G g' O W W') {p:Addr} {v:Value} (hv:W.cell? p=some v) (hn:¬ O p.block):W'.cell? p=some v:=by
 obtain ⟨a,_,_,k⟩:=h
 have hl:=Ad.lt_of_cell hv
 have e:=k.1.2.2.2.2 p.block hl hn
 rw[← hv]
 unfold World.cell?
 rw[e]
end
section
theorem v4_len (s d t k i:Int) (body:List Int):(V4.bys s d t k i body).length=20+body.length:=by unfold V4.bys;rw[List.length_append];rfl
theorem p4o_le {s d t:Int} {z D:List Int} (h:D.length≤300):(p4o s d t z D).length≤340:=by
 unfold p4o
 rw[v4_len,eb_len]
 have:=hn_le (el z 0)
 omega
theorem g6_len (g:GS) (zs:List Int):(g6 g zs).2.1.length≤400:=by
 unfold g6
 split
 ·exact Nat.zero_le _
 ·split
  ·exact Nat.zero_le _
  ·rename_i _ h0
   split
   ·exact Nat.zero_le _
   ·split
    ·exact Nat.zero_le _
    ·split
     ·exact Nat.zero_le _
     ·unfold g6b
      have a:(o6s zs).1=0:=Classical.byContradiction fun h=>h0 h
      split
      ·exact Nat.zero_le _
      ·rename_i _ h2
       have b:Okg (o6s zs).2.1 (o6s zs).2.2.length:=(oso_ok a).1
       have d:=(guo_ok b (Classical.byContradiction fun h=>h2 h)).1.2.2.1
       exact Nat.le_trans (p4o_le d) (by omega)
theorem p6o_le {s d:List Int} {t:Int} {z D:List Int} (h:D.length≤300):(p6o s d t z D).length≤360:=by
 unfold p6o
 rw[V6.bys_len,eb_len]
 have:=hn_le (el z 0)
 omega
theorem g4_len {g:GS} (hs:SI g) (zs:List Int):(g4 g zs).2.1.length≤400:=by
 unfold g4
 split
 ·exact Nat.zero_le _
 ·split
  ·exact Nat.zero_le _
  ·rename_i _ h0
   have a:(o4s zs).1=0:=Classical.byContradiction fun h=>h0 h
   unfold g4s
   split
   ·exact Nat.zero_le _
   ·split
    ·unfold g4b
     split
     ·exact Nat.zero_le _
     ·rename_i _ h2
      have b:Okg (o4s zs).2.1 (o4s zs).2.2.length:=(oso_ok a).1
      have d:=(gdo_ok (g:=g.tab g.ws g.ts (g.bs.set _ (usd (g.bs.getD _ []) g.now))) hs b (Classical.byContradiction fun h=>h2 h)).1.2.2.1
      exact Nat.le_trans (p6o_le d) (by omega)
    ·exact Nat.zero_le _
end
section
set_option linter.unusedSimpArgs false
attribute [local go_sem ↓] hload_shut nload_shut
section
variable {P:Program} {md:Region.Mode} {ops:Array Oper} {Q:Exit→Act→World→Prop} {S:World→Prop} {fuel:Nat} {listed:Array Bool} {a:Act} {w:World}
theorem wtq (i:Nat) {oi:Oper} {v:Value} (hy:∀ w,S w→(execOp a.eval oi).run P w=.ok (.value v) w) (hS:S w) (h:wpAnyH P md ops Q S fuel (listed.setIfInBounds i true) (a.put oi.dst v) w) (hi:ops[i]? = some oi:=by rfl) (hs:Region.noSelect ops=true:=by kernel_rfl) (hf:Region.free md ops listed i=true:=by kernel_rfl) (hr:(Region.ready md ops listed).contains i=true:=by kernel_rfl) (hQ:∀ c a w,Q (.panic c) (a.put oi.dst v) w→Q (.panic c) a w:=by exact fun _ _ _ h=>h) (hg:Region.wanted oi (yielded ops a.tmps)=true:=by rfl):wpAnyH P md ops Q S (fuel+1) listed a w:=wpAnyH_take hi hs hf hr hQ (.inl ⟨hg,hy⟩) hS h
end
def OB (g:GS):Prop:=IG g∧CK g.c∧g.bk.length≤1000
def ObW (w:World) (G:Nat) (O:Nat→Prop) (W W':World) (R:Option (List UInt8×GS)) (e:Ending):Prop:=match R with
 | some r=>e=.returned (Ad.strv r.1)∧GN w G r.2 O W W'
 | none=>e=.panicked unread∧Below W.heap.size W W'
theorem mapM_len {f:Nat→Option Int}:∀ (l:List Nat) {r:List Int},l.mapM f=some r→r.length=l.length
 | [],r,h=>by simp at h;subst h;rfl
 | x::l,r,h=>by
  rw[List.mapM_cons] at h
  cases hx:f x with
  | none=>rw[hx] at h;cases h
  | some y =>
   rw[hx] at h
   cases hl:l.mapM f with
   | none=>rw[hl] at h;cases h
   | some z =>
    rw[hl] at h
    have:=mapM_len l hl
    have e:r=y::z:=by cases h;rfl
    rw[e,List.length_cons,List.length_cons,this]
theorem bytesF_len {w:List UInt8} {zs:List Int} (h:bytesF w=some zs):zs.length≤w.length:=by
 unfold bytesF at h
 split at h
 ·cases h;exact Nat.zero_le _
 ·unfold rdB at h
  split at h
  ·have:=mapM_len _ h
   rw[List.length_range] at this
   omega
  ·cases h
def sixF (g:GS) (r:List (List UInt8)):Option (List UInt8×GS):=match justF 1 r,bytesF (r.getD 0 []) with
 | true,some zs=>some (shw (hxs (g6 g zs).2.1) (g6 g zs).1,(g6 g zs).2.2)
 | _,_=>none
theorem obey_six {g:GS} (hg:OB g) (l:List UInt8) (hl:l.length≤70000) (r:List (List UInt8)) (hs:Ad.AM.spl 32 l=[115,105,120]::r):∀ w G O W,GH w G g O W→LA w →
  Calls Tryz.prog 115 #[ssn G,Ad.strv l] W fun e w'=>ObW w G O W w' (sixF g r) e:=by
 intro w G O W U V
 have b1:=al_below W (.cells #[.pointer (some ⟨G,0,none⟩)] 126)
 have HN:=ki (sn_new G W)
 have C:=ki b1
 have X:=ki U
 have af:=ki V
 have ag:=ki (V.below U.below)
 have Y:=ki (fun W1 h=>split_run 32 l (by omega) W1 h)
 rw[hs] at Y
 unfold Ad.strv at Y ⊢
 clear b1 U V
 unfold ssn
 go_enter Tryz.func115,Tryz.ntmps115
 go_upto_region 1 with fail
 generalize World.alloc _ _=W0 at HN C ⊢
 go_upto_region 2 with (go_at_call 112;refine (Y.out _ (ag.out.below C.out).1.2.2).mono ?_;rintro e L ⟨⟨v,rfl,⟨a,c,rfl,h1,h2,h3⟩,P⟩,q⟩;have z:=ki q;clear q)
 obtain ⟨b,d,rfl,hc⟩:=h3 (by simp)
 have ax:W.heap.size≤b:=Nat.le_trans C.out.size (P _ _ _ _ rfl)
 clear P
 have hh:L.cell? ⟨b,d,none⟩=some (.string ⟨#[115,105,120]⟩):=hc 0 (by simp)
 go_region
 go_upto_region 5 with fail
 have F:=ki (show Wds (.slice (if c=1 then some ⟨b,d,none⟩ else some ⟨b,d+1,none⟩) r.length (c - 1)) r L.drew from ⟨_,_,rfl,by simp at h1;omega,by simp at h2;omega,fun hp=>⟨b,d+1,by simp at h1;rw[if_neg (by omega)],fun j hj=>by
  have:=hc (j+1) (by simp;omega)
  rw[show d+1+j=d+(j+1) by omega]
  exact this⟩⟩)
 replace z:=ki (show Below W0.heap.size W0 L.drew from z.out.drew)
 generalize hwd:L.drew=wd at F z ⊢
 clear hwd hh hc h3
 obtain ⟨rv,hrv⟩:∃ rv:Value,rv=.slice (if c=1 then some ⟨b,d,none⟩ else some ⟨b,d+1,none⟩) r.length (c - 1):=⟨_,rfl⟩
 rw[← hrv] at F
 have H:∀ b' o',(if c=1 then some (⟨b,d,none⟩:Addr) else some ⟨b,d+1,none⟩)=some ⟨b',o',none⟩→W.heap.size≤b':=by
  intro b' o' e
  split at e <;> (injection e with e;injection e with e;omega)
 generalize (if c=1 then some (⟨b,d,none⟩:Addr) else some ⟨b,d+1,none⟩)=ra at hrv H ⊢
 generalize c - 1=rc at hrv ⊢
 subst hrv
 have M:=ki (fun W1 (h:Wds (.slice ra r.length rc) r W1)=>just_run 1 _ r W1 (by omega) h)
 by_cases hj:justF 1 r=true
 ·rw[hj] at M
  obtain ⟨x,rfl⟩:∃ x,r=[x]:=by
   unfold justF at hj
   simp only[Bool.and_eq_true,beq_iff_eq] at hj
   exact List.length_eq_one_iff.1 hj.1
  have hx:x.length≤100000:=by
   have:=Ad.AM.spl_len 32 l x (by rw[hs];simp)
   omega
  have y:=ki (show sixF g [x]=match bytesF x with|some zs=>some (shw (hxs (g6 g zs).2.1) (g6 g zs).1,(g6 g zs).2.2)|none=>none by unfold sixF;rw[hj];show (match true,bytesF x with|true,some zs=>some (shw (hxs (g6 g zs).2.1) (g6 g zs).1,(g6 g zs).2.2)|_,_=>none)=_;cases bytesF x <;> rfl)
  have N:=ki (fun W1=>bytesof_run x hx W1)
  have aj:=ki (HN.out.kept z.out)
  go_upto_region 6 with (first
   | (go_at_call 171;refine (M.out _ F.out).mono ?_;rintro e w2 ⟨rfl,rfl⟩)
   | (go_at_call 170;refine (mustw_ok _ _).mono ?_;rintro e A ⟨rfl,rfl⟩))
  obtain ⟨a0,c0,e0,k1,k2,k3⟩:=F.out
  injection e0 with e01 e02 e03
  subst e01 e03
  obtain ⟨k,n,rfl,kc⟩:=k3 (by simp)
  have am:=H _ _ rfl
  clear H
  have kx:A.cell? ⟨k,n,none⟩=some (.string ⟨x.toArray⟩):=kc 0 (by simp)
  clear k1 k2 k3 kc e02
  have s:=ki (show Below A.heap.size A A.drew from (Below.refl _ _).drew)
  have t:=ki (show ∀ W1,Below A.heap.size A W1→W1.cell? ⟨W.heap.size,0,none⟩=some (.pointer (some ⟨G,0,none⟩))∧W1.cell? ⟨k,n,none⟩=some (.string ⟨x.toArray⟩) from fun W1 hb=>⟨(aj.out.kept hb).cell,(hb.cell (p:=⟨k,n,none⟩) (Ad.lt_of_cell kx)).trans kx⟩)
  cases hby:bytesF x with
  | none =>
   rw[hby] at y N
   refine wp_region_held_drew (S:=fun W'=>W'.cell? ⟨W.heap.size,0,none⟩=some (.pointer (some ⟨G,0,none⟩))∧W'.cell? ⟨k,n,none⟩=some (.string ⟨x.toArray⟩)) (by kernel_rfl) (t.out _ s.out) (fun hHeld=>?_)
   refine wtq (v:=(.pointer (some ⟨W.heap.size,0,none⟩))) 0 ?_ hHeld ?_
   (intro w hw;obtain ⟨f,i⟩:=hw;go_simp <;> with_reducible rfl)
   refine wtq (v:=(.pointer (some ⟨G,0,none⟩))) 1 ?_ hHeld ?_
   (intro w hw;obtain ⟨f,i⟩:=hw;go_simp <;> with_reducible rfl)
   refine wtq (v:=(.slice (some ⟨k,n,none⟩) 1 rc)) 2 ?_ hHeld ?_
   (intro w hw;obtain ⟨f,i⟩:=hw;go_simp <;> with_reducible rfl)
   refine wtq (v:=(.pointer (some ⟨k,n,none⟩))) 3 ?_ hHeld ?_
   (intro w hw;obtain ⟨f,i⟩:=hw;go_simp <;> with_reducible rfl)
   refine wtq (v:=(.string ⟨x.toArray⟩)) 4 ?_ hHeld ?_
   (intro w hw;obtain ⟨f,i⟩:=hw;go_simp <;> with_reducible rfl)
   (try simp only[Act.put,List.setIfInBounds_toArray,List.set_cons_zero,List.set_cons_succ,List.getElem_toArray,List.getElem_cons_succ,List.getElem_cons_zero])
   refine wpAnyH_ready (rs:=[5]) (by kernel_rfl) (by simp) (AllReadyH.cons rfl (fun K hK=>?_) AllReadyH.nil)
   go_simp
   go_at_call 174
   refine (N.out _).mono ?_
   rintro e w4 ⟨rfl,I⟩
   have o:=ki (s.out.trans (I.mono s.out.size))
   refine hK.out _ _ (t.out _ o.out) (fun hHeld=>?_)
   clear hK K
   (try simp only[Act.put,List.setIfInBounds_toArray,List.set_cons_zero,List.set_cons_succ,List.getElem_toArray,List.getElem_cons_succ,List.getElem_cons_zero])
   refine wtq (v:=(.slice none 0 0)) 6 ?_ hHeld ?_
   (intro w hw;obtain ⟨f,i⟩:=hw;go_simp <;> with_reducible rfl)
   refine wtq (v:=(err 5)) 7 ?_ hHeld ?_
   (intro w hw;obtain ⟨f,i⟩:=hw;go_simp <;> with_reducible rfl)
   (try simp only[Act.put,List.setIfInBounds_toArray,List.set_cons_zero,List.set_cons_succ,List.getElem_toArray,List.getElem_cons_succ,List.getElem_cons_zero])
   refine wpAnyH_ready (rs:=[8]) (by kernel_rfl) (by simp) (AllReadyH.cons rfl (fun K hK=>?_) AllReadyH.nil)
   go_simp
   go_at_call 173
   refine (mustb_no _ 5 _).mono ?_
   rintro e w5 ⟨rfl,rfl⟩
   exact ⟨rfl,by rw[y.out];exact ⟨rfl,bt C.out (bt z.out o.out)⟩⟩
  | some zs =>
   rw[hby] at y N
   have HI:=ki (fun W1 (hw:Below W.heap.size W W1) a2 l2 c2 r h1 h2=>in6_gh hg.1 zs w G O W1 a2 l2 c2 (X.out.kept hw) r h1 h2)
   have ao:=g6_len g zs
   replace y:=ki (show sixF g [x]=some (shw (hxs (g6 g zs).2.1) (g6 g zs).1,(g6 g zs).2.2) from y.out)
   generalize g6 g zs=R6 at HI y ao
   refine wp_region_held_drew (S:=fun W'=>W'.cell? ⟨W.heap.size,0,none⟩=some (.pointer (some ⟨G,0,none⟩))∧W'.cell? ⟨k,n,none⟩=some (.string ⟨x.toArray⟩)) (by kernel_rfl) (t.out _ s.out) (fun hHeld=>?_)
   refine wtq (v:=(.pointer (some ⟨W.heap.size,0,none⟩))) 0 ?_ hHeld ?_
   (intro w hw;obtain ⟨f,i⟩:=hw;go_simp <;> with_reducible rfl)
   refine wtq (v:=(.pointer (some ⟨G,0,none⟩))) 1 ?_ hHeld ?_
   (intro w hw;obtain ⟨f,i⟩:=hw;go_simp <;> with_reducible rfl)
   refine wtq (v:=(.slice (some ⟨k,n,none⟩) 1 rc)) 2 ?_ hHeld ?_
   (intro w hw;obtain ⟨f,i⟩:=hw;go_simp <;> with_reducible rfl)
   refine wtq (v:=(.pointer (some ⟨k,n,none⟩))) 3 ?_ hHeld ?_
   (intro w hw;obtain ⟨f,i⟩:=hw;go_simp <;> with_reducible rfl)
   refine wtq (v:=(.string ⟨x.toArray⟩)) 4 ?_ hHeld ?_
   (intro w hw;obtain ⟨f,i⟩:=hw;go_simp <;> with_reducible rfl)
   (try simp only[Act.put,List.setIfInBounds_toArray,List.set_cons_zero,List.set_cons_succ,List.getElem_toArray,List.getElem_cons_succ,List.getElem_cons_zero])
   refine wpAnyH_ready (rs:=[5]) (by kernel_rfl) (by simp) (AllReadyH.cons rfl (fun K hK=>?_) AllReadyH.nil)
   go_simp
   go_at_call 174
   refine (N.out _).mono ?_
   rintro e w4 ⟨⟨a4,rfl,r4⟩,I⟩
   have o:=ki (s.out.trans (I.mono s.out.size))
   have R4:=ki r4
   refine hK.out _ _ (t.out _ o.out) (fun hHeld=>?_)
   clear hK K
   (try simp only[Act.put,List.setIfInBounds_toArray,List.set_cons_zero,List.set_cons_succ,List.getElem_toArray,List.getElem_cons_succ,List.getElem_cons_zero])
   refine wtq (v:=(.slice a4 zs.length zs.length)) 6 ?_ hHeld ?_
   (intro w hw;obtain ⟨f,i⟩:=hw;go_simp <;> with_reducible rfl)
   refine wtq (v:=.nilIface) 7 ?_ hHeld ?_
   (intro w hw;obtain ⟨f,i⟩:=hw;go_simp <;> with_reducible rfl)
   (try simp only[Act.put,List.setIfInBounds_toArray,List.set_cons_zero,List.set_cons_succ,List.getElem_toArray,List.getElem_cons_succ,List.getElem_cons_zero])
   refine wpAnyH_ready (rs:=[8]) (by kernel_rfl) (by simp) (AllReadyH.cons rfl (fun K hK=>?_) AllReadyH.nil)
   go_simp
   go_at_call 173
   refine (mustb_ok _ _).mono ?_
   rintro e w5 ⟨rfl,rfl⟩
   refine hK.out _ _ (t.out _ o.out) (fun hHeld=>?_)
   clear hK K
   (try simp only[Act.put,List.setIfInBounds_toArray,List.set_cons_zero,List.set_cons_succ,List.getElem_toArray,List.getElem_cons_succ,List.getElem_cons_zero])
   have Q:=ki (bt C.out (bt z.out o.out))
   obtain ⟨D,E⟩:=t.out _ o.out
   (try simp only[Act.put,List.setIfInBounds_toArray,List.set_cons_zero,List.set_cons_succ,List.getElem_toArray,List.getElem_cons_succ,List.getElem_cons_zero])
   refine wpAnyH_ready (rs:=[9]) (by kernel_rfl) (by simp) (AllReadyH.cons rfl (fun K hK=>?_) AllReadyH.nil)
   go_simp
   go_at_call 51
   refine (HI.out _ Q.out _ _ _ R4.out (Nat.le_refl _) (by have:=bytesF_len hby;unfold maxLen;omega)).mono ?_
   rintro e Z ⟨⟨a2,l2,c2,rfl,r6,ap,ba⟩,J⟩
   have aq:=ki r6
   have bb:=r6.1
   have R:=ki (show Z.cell? ⟨W.heap.size,0,none⟩=some (.pointer (some ⟨G,0,none⟩))∧Z.cell? ⟨k,n,none⟩=some (.string ⟨x.toArray⟩) from ⟨J.held D (fun h=>Nat.lt_irrefl _ (X.out.lt h)),J.held E (fun h=>Nat.lt_irrefl _ (Nat.lt_of_lt_of_le (X.out.lt h) am))⟩)
   have ab:=ki (show LA Z by obtain ⟨O6,ar,_⟩:=J;exact af.out.below ar.below)
   have au:=ki (J.pre Q.out)
   clear D E r6 J
   refine hK.out _ _ R.out (fun hHeld=>?_)
   clear hK K
   (try simp only[Act.put,List.setIfInBounds_toArray,List.set_cons_zero,List.set_cons_succ,List.getElem_toArray,List.getElem_cons_succ,List.getElem_cons_zero])
   refine wtq (v:=(.slice a2 l2 c2)) 10 ?_ hHeld ?_
   (intro w hw;obtain ⟨f,i⟩:=hw;go_simp <;> with_reducible rfl)
   refine wtq (v:=(ev R6.1)) 11 ?_ hHeld ?_
   (intro w hw;obtain ⟨f,i⟩:=hw;go_simp <;> with_reducible rfl)
   (try simp only[Act.put,List.setIfInBounds_toArray,List.set_cons_zero,List.set_cons_succ,List.getElem_toArray,List.getElem_cons_succ,List.getElem_cons_zero])
   refine wpAnyH_ready (rs:=[12]) (by kernel_rfl) (by simp) (AllReadyH.cons rfl (fun K hK=>?_) AllReadyH.nil)
   go_simp
   go_at_call 172
   refine (packet_any a2 l2 c2 R6.2.1 R6.1 _ aq.out (by omega) ap ab.out.2.2).mono ?_
   rintro e w7 ⟨rfl,B⟩
   have ac:=ki (au.out.after B)
   obtain ⟨D,E⟩:=R.out
   have aw:=ki (show w7.cell? ⟨W.heap.size,0,none⟩=some (.pointer (some ⟨G,0,none⟩))∧w7.cell? ⟨k,n,none⟩=some (.string ⟨x.toArray⟩) from ⟨(B.cell (p:=⟨W.heap.size,0,none⟩) (Ad.lt_of_cell D)).trans D,(B.cell (p:=⟨k,n,none⟩) (Ad.lt_of_cell E)).trans E⟩)
   clear D E B
   refine hK.out _ _ aw.out (fun hHeld=>?_)
   clear hK K
   (try simp only[Act.put,List.setIfInBounds_toArray,List.set_cons_zero,List.set_cons_succ,List.getElem_toArray,List.getElem_cons_succ,List.getElem_cons_zero])
   refine wtq (v:=(Ad.strv (shw (hxs R6.2.1) R6.1))) 13 ?_ hHeld ?_
   (intro w hw;obtain ⟨f,i⟩:=hw;go_simp <;> with_reducible rfl)
   refine wpAnyH_done (by kernel_rfl) ?_ _
   go_wp2_with fail
   go_ret
   rw[y.out]
   exact ⟨rfl,ac.out⟩
 ·have T:justF 1 r=false:=by simpa using hj
  rw[T] at M
  have y:=ki (show sixF g r=none by unfold sixF;rw[T])
  go_wp2_with (first
   | (go_at_call 171;refine (M.out _ F.out).mono ?_;rintro e w2 ⟨rfl,rfl⟩)
   | (go_at_call 170;refine (mustw_no _ 5 _).mono ?_;rintro e A ⟨rfl,rfl⟩))
  exact ⟨rfl,by rw[y.out];exact ⟨rfl,bt C.out z.out⟩⟩
end
end Go.Proofs.YtgcojnlngchllaaGreatDoor
