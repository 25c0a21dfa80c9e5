/- strings.Builder in plain words; packet, by a contract. bytesOf, by a contract. number, just and must, by contracts. just and must, by contracts; a row of words. Close6 of whatever segment, by a contract. send, by a contract: a client's packet at the gate of a session. -/
import Derived.Test.YtgcojnlngchllaaGreatDoorK39
import Derived.WalkLawsBesides
import Derived.Test.YtgcojnlngchllaaGreatDoorK35
namespace Go.Proofs.YtgcojnlngchllaaGreatDoor
open Go.RowKit
set_option linter.unusedVariables false
set_option maxRecDepth 100000
set_option maxHeartbeats 40000000
section
def Bl (B b:Nat) (l:List UInt8) (w:World):Prop:=Lib.IsBuilder 129 5 B b (Lib.byteCells l) w
theorem bl_new (w:World):Bl w.heap.size w.heap.size [] (w.alloc (.cells #[.pointer none,.slice none 0 0] 129)):=Lib.fresh_isBuilder _ _ w
theorem wb_any (B b:Nat) (l:List UInt8) (c:UInt8) (w:World) (h:Bl B b l w) (hl:l.length+1≤140737488355328) (hB:B≤w.heap.size) :
  Calls Tryz.prog 63 #[.pointer (some ⟨b,0,none⟩),.int .u8 (c.toNat:Nat)] w fun e w'=>e=.returned .nilIface∧Bl B b (l++[c]) w'∧Below B w w':=by
 refine (Tryz.Builder_WriteByte B b (Lib.byteCells l) (c.toNat:Nat) w h (by rw[Lib.byteCells_length];exact hl) hB).mono ?_
 rintro e w' ⟨a,d,f⟩
 refine ⟨a,.inr ?_,f⟩
 rw[show Lib.byteCells (l++[c])=Lib.byteCells l++[.int .u8 (c.toNat:Nat)] by simp[Lib.byteCells]]
 exact d
theorem bs_any (B b:Nat) (l:List UInt8) (w:World) (h:Bl B b l w) (hB:B≤w.heap.size) :
  Calls Tryz.prog 64 #[.pointer (some ⟨b,0,none⟩)] w fun e w'=>e=.returned (Ad.strv l)∧Below B w w' :=
 Tryz.Builder_String_any B b l w h hB
theorem dg_and:∀ n:Fin 256,bits .and .u8 (n.val:Int) 15=((n.val % 16:Nat):Int):=by decide +kernel
theorem dgx (k:Nat) (h:k < (⟨#[48,49,50,51,52,53,54,55,56,57,97,98,99,100,101,102]⟩:ByteArray).size):((⟨#[48,49,50,51,52,53,54,55,56,57,97,98,99,100,101,102]⟩:ByteArray)[k]'h).toNat=(Ad.AM.hexd k).toNat:=by
 have a:k < 16:=h
 rcases (by omega:k=0∨k=1∨k=2∨k=3∨k=4∨k=5∨k=6∨k=7∨k=8∨k=9∨k=10∨k=11∨k=12∨k=13∨k=14∨k=15) with rfl|rfl|rfl|rfl|rfl|rfl|rfl|rfl|rfl|rfl|rfl|rfl|rfl|rfl|rfl|rfl <;> rfl
theorem packet_any (a:Option Addr) (len cap:Nat) (zs:List Int) (n:Int) (w:World) (hr:Row8 w a len cap zs) (hl:len≤1000000) (hc:len≤cap) (hg:Laid0 w) :
  Calls Tryz.prog 172 #[.slice a len cap,ev n] w fun e w'=>e=.returned (Ad.strv (shw (hxs zs) n))∧Below w.heap.size w w':=by
 have q:=ki hr.1
 have Q:=ki hr
 have R:=ki hg
 have v:=ki (bl_new w)
 have x:=ki (al_below w (.cells #[.pointer none,.slice none 0 0] 129))
 have S:=ki hr.2.2.1
 have y:=ki (fun (W:World) (g:Laid0 W)=>shown_any (hxs zs) n W g)
 generalize ev n=E at y
 clear hr hg
 go_enter Tryz.func172,Tryz.ntmps172
 go_upto_region 2 with fail
 generalize World.alloc _ _=W0 at v x ⊢
 go_upto_region 3 with fail
 go_loopw [10] (fun i wr=>∃ k:Nat,k≤len∧i=.int .i64 k∧Hid (Bl w.heap.size w.heap.size (hxs (zs.take k)) wr)∧Hid (Below w.heap.size w wr)) (fun i _=>len - (intOf i).toNat)
 case atStart=>exact ⟨0,Nat.zero_le _,rfl,v,x⟩
 case round =>
  obtain ⟨k,hk,rfl,r,l⟩:=hrel
  have s:=l.out.size
  by_cases hlt:k < len
  ·obtain ⟨b,z,T,f⟩:=Q.out.2.2.2.2 (by omega)
   subst T
   have A:=(l.out.cell (p:=⟨b,z+k,none⟩) (Ad.lt_of_cell (f k hlt))).trans (f k hlt)
   obtain ⟨U,V⟩:=S.out k
   obtain ⟨m,hm⟩:∃ m:Nat,zs.getD k 0=m:=⟨(zs.getD k 0).toNat,by omega⟩
   rw[hm] at A U V
   have B:m < 256:=by omega
   have X:bits .and .u8 (m:Int) 15=((m % 16:Nat):Int):=dg_and ⟨m,B⟩
   clear f
   have Y:=ki (show hxs (zs.take (k+1))=(hxs (zs.take k)++[Ad.AM.hexd (m / 16)])++[Ad.AM.hexd (m % 16)] by
    rw[List.take_add_one,show zs[k]?.toList=[(m:Int)] by rw[List.getElem?_eq_getElem (by rw[q.out];exact hlt)];rw[List.getD_eq_getElem?_getD,List.getElem?_eq_getElem (by rw[q.out];exact hlt)] at hm;rw[show zs[k]'(by rw[q.out];exact hlt)=(m:Int) from hm];rfl]
    rw[hxs_snoc,List.append_assoc]
    rfl)
   have t:=hxs_len (zs.take k)
   have C:(zs.take k).length≤k:=by rw[List.length_take];omega
   have D:=ki (wb_any w.heap.size w.heap.size (hxs (zs.take k)) (Ad.AM.hexd (m / 16)) wr r.out (by omega) s)
   have F:=ki (fun W=>wb_any w.heap.size w.heap.size (hxs (zs.take k)++[Ad.AM.hexd (m / 16)]) (Ad.AM.hexd (m % 16)) W)
   have G:(hxs (zs.take k)++[Ad.AM.hexd (m / 16)]).length+1≤140737488355328:=by rw[List.length_append,List.length_singleton];omega
   clear hm t C
   go_upto_region 6 with (go_at_call 63;rw[dgx];refine D.out.mono ?_;rintro e H ⟨rfl,o,d⟩;have I:=ki o;have J:=ki d;clear o d)
   have h:=ki (l.out.trans J.out)
   have K:=ki (F.out H I.out G h.out.size)
   go_wp2_with (go_at_call 63;rw[dgx];refine K.out.mono ?_;rintro e Z ⟨rfl,o,d⟩;have L:=ki o;have M:=ki d;clear o d)
   go_roundw
   case rel=>exact ⟨k+1,by omega,by go_num,by rw[Y.out];exact L,h.out.trans M.out⟩
   case measure=>simp[intOf];omega
  ·obtain rfl:k=len:=by omega
   have N:=ki (show Bl w.heap.size w.heap.size (hxs zs) wr by have:=r.out;rwa [List.take_of_length_le (by rw[q.out];exact Nat.le_refl _)] at this)
   have O:=ki (bs_any w.heap.size w.heap.size (hxs zs) wr N.out s)
   go_wp2_with (first
    | (go_at_call 64;refine O.out.mono ?_;rintro e H ⟨rfl,d⟩;have h:=ki (l.out.trans d);clear d)
    | (go_at_call 59;refine (y.out _ (R.out.below h.out)).mono ?_;rintro e Z ⟨rfl,d⟩;have P:=ki (bt h.out d);clear d))
   go_ret
   exact ⟨rfl,P.out⟩
end
section
theorem ix_dg:∀ n:Fin 256,Lib.indexByte [48,49,50,51,52,53,54,55,56,57,97,98,99,100,101,102] (UInt8.ofNat n.val)=match Ad.AM.hv (UInt8.ofNat n.val) with
  | some d=>(d:Int)
  | none=>-1:=by decide +kernel
theorem hv_lt:∀ n:Fin 256,∀ d,Ad.AM.hv (UInt8.ofNat n.val)=some d→d < 16:=by
 intro n d h
 have:∀ n:Fin 256,(match Ad.AM.hv (UInt8.ofNat n.val) with|some d=>decide (d < 16)|none=>true)=true:=by decide +kernel
 have:=this n
 rw[h] at this
 simpa using this
theorem of_fin (c:UInt8):UInt8.ofNat (⟨c.toNat,c.toNat_lt⟩:Fin 256).val=c:=by simp
theorem or_nib:∀ x y:Fin 16,bits .or .i64 ((x.val:Int)*16) (y.val:Int) % 256=((x.val*16+y.val:Nat):Int):=by decide +kernel
theorem Tryz.infoU8:(Tryz.prog.info? 5).map (fun i=>(i.zero,i.size,i.bytes))=some (some (.int .u8 0),1,1):=by kernel_rfl
theorem make_u8 (w:World) (n:Nat) (hn:n≤1000000):(Instr.makeSlice 37 (.int .i64 n) (.int .i64 n)).run Tryz.prog w=.ok (.slice (some ⟨w.heap.size,0,none⟩) n n) (w.alloc (.cells (madeCells #[.int .u8 0] n) 5)):=by
 obtain ⟨i,a,b,d,e⟩:=info_parts Tryz.infoU8
 have:=run_make (P:=Tryz.prog) w 37 5 i _ Tryz.underlying37 a b .i64 .i64 n n (by omega) (by omega) (by rw[e];omega) (by omega)
 rw[d] at this
 simpa [Value.cells] using this
theorem ib_any (c:UInt8) (w:World):Calls Tryz.prog 232 #[.string ⟨#[48,49,50,51,52,53,54,55,56,57,97,98,99,100,101,102]⟩,.int .u8 (c.toNat:Nat)] w fun e w'=>e=.returned (.int .i64 (match Ad.AM.hv c with|some d=>(d:Int)|none=>-1))∧w'=w:=by
 refine (Tryz.strings_IndexByte ⟨#[48,49,50,51,52,53,54,55,56,57,97,98,99,100,101,102]⟩ (c.toNat:Nat) w).mono ?_
 rintro e w' ⟨a,hw⟩
 refine ⟨?_,hw⟩
 rw[a]
 have:=ix_dg ⟨c.toNat,c.toNat_lt⟩
 rw[of_fin] at this
 rw[← this]
 simp
def BysW (w':World) (o:Option (List Int)) (e:Ending):Prop:=match o with
 | some zs=>∃ a,e=.returned (.tuple #[.slice a zs.length zs.length,.nilIface])∧Row8 w' a zs.length zs.length zs
 | none=>e=.returned (.tuple #[.slice none 0 0,err 5])
theorem bytesof_run (l:List UInt8) (hl:l.length≤100000) (w:World) :
  Calls Tryz.prog 174 #[Ad.strv l] w fun e w'=>BysW w' (bytesF l) e∧Below w.heap.size w w':=by
 have q:(⟨l.toArray⟩:ByteArray).size=l.length:=by simp[ByteArray.size]
 unfold Ad.strv
 by_cases h1:l=[45]
 ·subst h1
  go_enter Tryz.func174,Tryz.ntmps174
  go_wp2
  go_ret2
  exact ⟨⟨none,rfl,by simp[Row8,SM.Oct,maxLen]⟩,Below.refl _ _⟩
 obtain ⟨s,hs,hsl,hget⟩:∃ s:ByteArray,s=⟨l.toArray⟩∧s.size=l.length∧∀ (i:Nat) (h:i < s.size),(s[i]'h)=l.getD i 0:=⟨_,rfl,q,fun i h=>by
  have h2:i < l.length:=by rw[q] at h;exact h
  rw[List.getD_eq_getElem?_getD,List.getElem?_eq_getElem h2]
  rfl⟩
 have ab:(s.toList == [45])=false:=by
  rw[hs]
  simpa [ByteArray.toList_eq] using h1
 rw[← hs]
 have r:=ki (show bytesF l=rdB l from if_neg h1)
 have L:=ki hget
 clear hget hs q
 by_cases h2:l.length % 2=0
 ·obtain ⟨N,hN⟩:∃ N,l.length=2*N:=⟨l.length / 2,by omega⟩
  have H:bytesF l=(List.range N).mapM (pr2 l):=by rw[r.out];unfold rdB;rw[if_pos h2,show l.length / 2=N by omega]
  have b:=ki H
  have M:=make_u8 w N (by omega)
  have f:=Ad.Rowb.made w (.int .u8 0) N 5 rfl
  simp only[Value.cells] at f
  generalize w.alloc (.cells (madeCells #[.int .u8 0] N) 5)=w2 at M f
  have X:((l.length:Nat):Int).tdiv 2=(N:Nat):=by rw[Int.tdiv_eq_ediv_of_nonneg (by omega)];omega
  rw[hN] at hsl X
  have O:=ki f
  clear f r H
  go_enter Tryz.func174,Tryz.ntmps174
  go_upto_region 7 with fail
  go_loopw [21] (fun i wr=>∃ (k:Nat) (zs:List Int),k≤N∧i=.int .i64 k∧zs.length=k∧Hid (∀ j (h:j < zs.length),pr2 l j=some zs[j])∧Hid (SM.Oct zs)∧Hid (Ad.Rowb w w.heap.size wr N (zs.map (Value.int .u8)))) (fun i _=>N - (intOf i).toNat)
  case atStart=>exact ⟨0,[],Nat.zero_le _,rfl,rfl,fun j h=>absurd h (by simp),fun j=>by simp,O.out⟩
  case round =>
   obtain ⟨k,zs,hk,rfl,I,P,Q,p⟩:=hrel
   have a:=ki I
   clear I
   by_cases hlt:k < N
   ·have R:2*k < s.size:=by omega
    have hx2:2*k+1 < s.size:=by omega
    have t:=ki (fun W=>ib_any (l.getD (2*k) 0) W)
    have z:=ki (fun W=>ib_any (l.getD (2*k+1) 0) W)
    have E:=hv_lt ⟨(l.getD (2*k) 0).toNat,UInt8.toNat_lt _⟩
    have F:=hv_lt ⟨(l.getD (2*k+1) 0).toNat,UInt8.toNat_lt _⟩
    rw[of_fin] at E F
    have hp:pr2 l k=match Ad.AM.hv (l.getD (2*k) 0),Ad.AM.hv (l.getD (2*k+1) 0) with
     | some x,some y=>some ((x*16+y:Nat):Int)
     | _,_=>none:=rfl
    have A:=L.out (2*k) R
    have B:=L.out (2*k+1) hx2
    generalize l.getD (2*k) 0=c1 at t E hp A
    generalize l.getD (2*k+1) 0=c2 at z F hp B
    have S:=ki A
    have T:=ki B
    clear A B
    have g:=ki p.out.2.2.2.1
    generalize hv1:(match Ad.AM.hv c1 with|some d=>(d:Int)|none=>-1)=v1 at t
    generalize hv2:(match Ad.AM.hv c2 with|some d=>(d:Int)|none=>-1)=v2 at z
    have n:=ki hv1
    have o:=ki hv2
    have C:=ki hp
    have J:=ki E
    have K:=ki F
    clear hv1 hv2 hp E F
    go_upto_region 10 with (go_at_call 232;rw[S.out];refine (t.out _).mono ?_;rintro e Y ⟨rfl,rfl⟩)
    go_upto_region 11 with (go_at_call 232;rw[T.out];refine (z.out _).mono ?_;rintro e Y ⟨rfl,rfl⟩)
    by_cases hbad:v1 < 0∨v2 < 0
    ·have G:=ki (show bytesF l=none by
      rw[b.out]
      refine Ad.AM.mapM_none _ _ k (by simpa using hlt) ?_
      rw[List.getElem_range,C.out]
      have h1:=n.out
      have h2:=o.out
      cases e1:Ad.AM.hv c1 with
      | none=>rfl
      | some x =>
       cases e2:Ad.AM.hv c2 with
       | none=>rfl
       | some y=>rw[e1] at h1;rw[e2] at h2;simp only at h1 h2;omega)
     by_cases hb1:v1 < 0
     ·go_wp2
      go_ret2
      exact ⟨by rw[G.out];rfl,g.out⟩
     ·have ac:v2 < 0:=by omega
      go_wp2
      go_ret2
      exact ⟨by rw[G.out];rfl,g.out⟩
    ·obtain ⟨x,y,e1,e2⟩:∃ x y:Nat,Ad.AM.hv c1=some x∧Ad.AM.hv c2=some y:=by
      have h1:=n.out
      have h2:=o.out
      cases e1:Ad.AM.hv c1 with
      | none=>rw[e1] at h1;simp only at h1;omega
      | some x =>
       cases e2:Ad.AM.hv c2 with
       | none=>rw[e2] at h2;simp only at h2;omega
       | some y=>exact ⟨x,y,rfl,rfl⟩
     have Z:=J.out x e1
     have hy:=K.out y e2
     obtain rfl:v1=(x:Int):=by rw[← n.out,e1]
     obtain rfl:v2=(y:Int):=by rw[← o.out,e2]
     have hp:pr2 l k=some ((x*16+y:Nat):Int):=by rw[C.out,e1,e2]
     have ad:bits .or .i64 ((x:Int)*16) (y:Int) % 256=((x*16+y:Nat):Int):=or_nib ⟨x,Z⟩ ⟨y,hy⟩
     obtain ⟨v,hv⟩:=p.out.1 k hlt
     have ae:=p.out.2.2.1 k
     have D:=ki (p.out.store (by rw[List.length_map,a.out];exact hlt) (Value.int .u8 ((x*16+y:Nat):Int)))
     rw[List.length_map,a.out] at D
     have U:=ki (show SM.Oct (zs++[((x*16+y:Nat):Int)]) by
      intro j
      rcases Nat.lt_or_ge j zs.length with h|h
      ·rw[List.getD_eq_getElem?_getD,List.getElem?_append_left h,← List.getD_eq_getElem?_getD];exact Q.out j
      ·rw[List.getD_eq_getElem?_getD,List.getElem?_append_right h]
       cases hj:j - zs.length with
       | zero=>simp;omega
       | succ i=>simp)
     have V:=ki (show ∀ j (h:j < (zs++[((x*16+y:Nat):Int)]).length),pr2 l j=some (zs++[((x*16+y:Nat):Int)])[j] from fun j h=>by
      by_cases e:j=k
      ·subst e
       rw[List.getElem_append_right (by rw[a.out];exact Nat.le_refl _)]
       simpa using hp
      ·have:j < zs.length:=by rw[a.out];simp[a.out] at h;omega
       rw[List.getElem_append_left this]
       exact P.out j this)
     clear hp e1 e2 n o C J K hbad
     go_wp2
     refine ⟨⟨k+1,zs++[((x*16+y:Nat):Int)],by omega,by go_num,by simp[a.out],V,U,?_⟩,by simp[intOf];omega⟩
     have e:((x*16+y:Nat):Int)=(x:Int)*16+y:=by omega
     rw[List.map_append]
     rw[e] at D ⊢
     exact D
   ·obtain rfl:k=N:=by omega
    have G:=ki (show bytesF l=some zs by
     rw[b.out]
     refine Ad.AM.mapM_all _ _ zs (by rw[List.length_range,a.out]) (fun j h1 h2=>?_)
     rw[List.getElem_range]
     exact P.out j h2)
    have g:=ki p.out.2.2.2.1
    go_wp2
    go_ret2
    refine ⟨?_,g.out⟩
    rw[G.out]
    refine ⟨some ⟨w.heap.size,0,none⟩,by rw[a.out];rfl,rfl,by unfold maxLen;rw[a.out];omega,Q.out,(fun h=>absurd h (by simp)),fun _=>⟨w.heap.size,0,rfl,fun j hj=>?_⟩⟩
    rw[Nat.zero_add]
    refine p.out.2.1 j _ ?_
    rw[List.getElem?_map,List.getD_eq_getElem?_getD,List.getElem?_eq_getElem hj]
    rfl
 ·have b:=ki (show bytesF l=none by rw[r.out];exact if_neg h2)
  go_enter Tryz.func174,Tryz.ntmps174
  go_wp2
  go_ret2
  exact ⟨by rw[b.out];rfl,Below.refl _ _⟩
end
section
def LA (w:World):Prop:=Ad.LaidA w∧Ad.Pow10 w∧Laid0 w
theorem LA.below {w w':World} (h:LA w) (hb:Below w.heap.size w w'):LA w':=⟨h.1.below hb,h.2.1.below hb,h.2.2.below hb⟩
theorem itoa_any (n:Nat) (w:World) (hn:n≤9223372036854775807) (hP:Ad.Pow10 w):Calls Tryz.prog 237 #[.int .i64 (n:Nat)] w fun e w'=>e=.returned (Ad.strv (Lib.decDigits n))∧Below w.heap.size w w':=by
 refine (Any.strconv_Itoa Tryz.laysM171 (n:Int) (by omega) (by omega) w hP).mono fun e w' ⟨he,k,os,hw⟩=>⟨?_,?_⟩
 ·rw[he,Lib.itoa_nonneg];rfl
 ·rw[hw];exact Below.trans (below_drewN (Below.refl _ _) k) (Ad.below_grow (w.drewN k) os)
def NumW (o:Option Nat) (e:Ending):Prop:=match o with
 | some n=>e=.returned (.tuple #[.int .i64 (n:Nat),.nilIface])
 | none=>e=.returned (.tuple #[.int .i64 0,err 5])
theorem str_eq (a b:List UInt8):((⟨a.toArray⟩:ByteArray).toList == (⟨b.toArray⟩:ByteArray).toList)=decide (a=b):=by
 simp only[ByteArray.toList_eq]
 by_cases h:a=b
 ·simp[h]
 ·simp[h]
theorem number_run (l:List UInt8) (hl:l.length≤100000) (w:World) (hA:LA w) :
  Calls Tryz.prog 179 #[Ad.strv l] w fun e w'=>NumW (numF l) e∧Below w.heap.size w w':=by
 have i:(⟨l.toArray⟩:ByteArray).size=l.length:=by simp[ByteArray.size]
 unfold Ad.strv
 by_cases h9:9 < l.length
 ·have f:=ki (show numF l=none from if_pos h9)
  generalize (⟨l.toArray⟩:ByteArray)=s at i
  go_enter Tryz.func179,Tryz.ntmps179
  go_wp2
  go_ret2
  exact ⟨by rw[f.out];rfl,Below.refl _ _⟩
 ·obtain ⟨⟨C,D,o⟩,⟨E,F,p⟩⟩:=hA.1.2.1
  have b:numF l=match Lib.atoiAll l with
   | .ok v=>if v < 0∨Lib.decDigits v.toNat≠l then none else some v.toNat
   | _=>none:=if_neg h9
  cases ha:Lib.atoiAll l with
  | «syntax» =>
   rw[ha] at b
   have f:=ki b
   have d:=ki (Tryz.strconv_Atoi_syntax ⟨l.toArray⟩ (by omega) ha (.iface C D) w o (.inr ⟨C,D,rfl⟩))
   generalize (⟨l.toArray⟩:ByteArray)=s at i d
   clear b ha hA o p
   go_enter Tryz.func179,Tryz.ntmps179
   go_wp2_with (go_at_call 236;refine d.out.mono ?_;rintro e y ⟨N,rfl,A,B,a⟩;have g:=ki a;clear A B a)
   go_ret2
   exact ⟨by rw[f.out];rfl,g.out⟩
  | range =>
   rw[ha] at b
   have f:=ki b
   have d:=ki (Tryz.strconv_Atoi_range ⟨l.toArray⟩ (by omega) ha (.iface E F) w p (.inr ⟨E,F,rfl⟩))
   generalize Lib.atoiSat _=S at d
   generalize (⟨l.toArray⟩:ByteArray)=s at i d
   clear b ha hA o p
   go_enter Tryz.func179,Tryz.ntmps179
   go_wp2_with (go_at_call 236;refine d.out.mono ?_;rintro e y ⟨N,rfl,A,B,a⟩;have g:=ki a;clear A B a)
   go_ret2
   exact ⟨by rw[f.out];rfl,g.out⟩
  | ok v =>
   rw[ha] at b
   replace b:numF l=if v < 0∨Lib.decDigits v.toNat≠l then none else some v.toNat:=b
   have hv:=Lib.atoiAll_bounds ha
   have d:=ki (show Calls Tryz.prog 236 #[.string ⟨l.toArray⟩] w fun e w'=>e=.returned (.tuple #[.int .i64 v,.nilIface])∧Below w.heap.size w w' from (Tryz.strconv_Atoi_ok ⟨l.toArray⟩ (by omega) v ha w).mono fun e w' ⟨he,hw⟩=>⟨he,by
    rcases hw with rfl|⟨t,rfl⟩
    ·exact Below.refl _ _
    ·exact Lib.bytesWorld_below w _ t⟩)
   have z:=ki hA
   clear hA o p ha
   by_cases hneg:v < 0
   ·have f:=ki (show numF l=none by rw[b];exact if_pos (.inl hneg))
    generalize (⟨l.toArray⟩:ByteArray)=s at i d
    clear b
    go_enter Tryz.func179,Tryz.ntmps179
    go_wp2_with (go_at_call 236;refine d.out.mono ?_;rintro e y ⟨rfl,a⟩;have g:=ki a;clear a)
    go_ret2
    exact ⟨by rw[f.out];rfl,g.out⟩
   ·obtain ⟨n,rfl⟩:∃ n:Nat,v=n:=⟨v.toNat,by omega⟩
    rw[Int.toNat_natCast] at b
    have q:numF l=if Lib.decDigits n=l then some n else none:=by
     rw[b]
     by_cases h:Lib.decDigits n=l
     ·rw[if_pos h,if_neg (by simp[h])]
     ·rw[if_neg h,if_pos (.inr h)]
    have HI:=ki (fun (W:World) (h:Ad.Pow10 W)=>itoa_any n W (by omega) h)
    have k:=str_eq (Lib.decDigits n) l
    clear b
    unfold Ad.strv at HI
    by_cases hd:Lib.decDigits n=l
    ·have f:=ki (show numF l=some n by rw[q,if_pos hd])
     rw[decide_eq_true hd] at k
     clear hd q
     generalize (⟨(Lib.decDigits n).toArray⟩:ByteArray)=r at k HI
     generalize (⟨l.toArray⟩:ByteArray)=s at i d k
     go_enter Tryz.func179,Tryz.ntmps179
     go_wp2_with (first
      | (go_at_call 236;refine d.out.mono ?_;rintro e y ⟨rfl,a⟩;have g:=ki a;clear a)
      | (go_at_call 237;refine (HI.out _ (z.out.below g.out).2.1).mono ?_;rintro e G ⟨rfl,a⟩;have x:=ki (bt g.out a);clear a))
     go_ret2
     exact ⟨by rw[f.out];rfl,x.out⟩
    ·have f:=ki (show numF l=none by rw[q,if_neg hd])
     rw[decide_eq_false hd] at k
     clear hd q
     generalize (⟨(Lib.decDigits n).toArray⟩:ByteArray)=r at k HI
     generalize (⟨l.toArray⟩:ByteArray)=s at i d k
     go_enter Tryz.func179,Tryz.ntmps179
     go_wp2_with (first
      | (go_at_call 236;refine d.out.mono ?_;rintro e y ⟨rfl,a⟩;have g:=ki a;clear a)
      | (go_at_call 237;refine (HI.out _ (z.out.below g.out).2.1).mono ?_;rintro e G ⟨rfl,a⟩;have x:=ki (bt g.out a);clear a))
     go_ret2
     exact ⟨by rw[f.out];rfl,x.out⟩
end
section
def Wds (v:Value) (ws:List (List UInt8)) (w:World):Prop:=∃ a c,v=.slice a ws.length c∧ws.length≤c∧ws.length≤100000∧(0 < ws.length→∃ b off,a=some ⟨b,off,none⟩∧∀ j,j < ws.length→w.cell? ⟨b,off+j,none⟩=some (Ad.strv (ws.getD j [])))
theorem Wds.below {v:Value} {ws:List (List UInt8)} {w w':World} (h:Wds v ws w) (hb:Below w.heap.size w w'):Wds v ws w':=by
 obtain ⟨a,c,f,g,i,h4⟩:=h
 refine ⟨a,c,f,g,i,fun hp=>?_⟩
 obtain ⟨b,d,e,q⟩:=h4 hp
 exact ⟨b,d,e,fun j hj=>(hb.cell (p:=⟨b,d+j,none⟩) (Ad.lt_of_cell (q j hj))).trans (q j hj)⟩
theorem hasno_any (v:Value) (ws:List (List UInt8)) (w:World) (h:Wds v ws w):Calls Tryz.prog 231 #[v,.string ⟨#[]⟩] w fun e w'=>e=.returned (.bool (ws.contains []))∧w'=w:=by
 obtain ⟨a,c,rfl,k,n,h4⟩:=h
 cases ws with
 | nil=>exact Tryz.slices_Contains_string_empty a c ⟨#[]⟩ w
 | cons x r =>
  obtain ⟨b,f,rfl,q⟩:=h4 (by simp)
  have hc:=Tryz.slices_Contains_string b f (x::r).length c ((x::r).map fun l=>⟨l.toArray⟩) ⟨#[]⟩ w (by simp) (by omega) (fun j hj=>by
   rw[List.length_map] at hj
   rw[q j hj]
   simp only[Ad.strv,List.getD_eq_getElem?_getD,List.getElem?_map,List.getElem?_eq_getElem hj]
   rfl)
  refine hc.mono ?_
  rintro e w' ⟨g,hw⟩
  refine ⟨?_,hw⟩
  rw[g]
  have i:Lib.containsS (((x::r).map fun l=>(⟨l.toArray⟩:ByteArray)).take (x::r).length) ⟨#[]⟩=(x::r).contains []:=by
   rw[List.take_of_length_le (by simp)]
   rw[Bool.eq_iff_iff,Lib.containsS_iff,List.contains_iff_mem]
   constructor
   ·intro d
    obtain ⟨l,hl,e⟩:=List.mem_map.1 d
    have:l=[]:=by
     have:=congrArg (fun z:ByteArray=>z.data.toList) e
     simpa using this
    rw[← this];exact hl
   ·intro d
    exact List.mem_map.2 ⟨[],d,rfl⟩
  rw[i]
def JustW (b:Bool) (v:Value) (e:Ending):Prop:=match b with
 | true=>e=.returned (.tuple #[v,.nilIface])
 | false=>e=.returned (.tuple #[.slice none 0 0,err 5])
theorem just_run (k:Nat) (v:Value) (ws:List (List UInt8)) (w:World) (hk:k≤100) (h:Wds v ws w):Calls Tryz.prog 171 #[.int .i64 (k:Nat),v] w fun e w'=>JustW (justF k ws) v e∧w'=w:=by
 have b:=ki (hasno_any v ws w h)
 have f:justF k ws=(ws.length == k && !ws.contains []):=rfl
 obtain ⟨a,c,rfl,l,o,h4⟩:=h
 generalize ws.contains []=B at b f
 generalize hn:ws.length=n at l o h4 b f
 have g:=ki f
 clear h4 f hn
 by_cases hnk:n=k
 ·subst hnk
  cases B
  ·have d:=ki (show justF n ws=true by rw[g.out];simp)
   go_enter Tryz.func171,Tryz.ntmps171
   go_wp2_with (go_at_call 231;refine b.out.mono ?_;rintro e i ⟨rfl,rfl⟩)
   go_ret2
   exact ⟨by rw[d.out];rfl,rfl⟩
  ·have d:=ki (show justF n ws=false by rw[g.out];simp)
   go_enter Tryz.func171,Tryz.ntmps171
   go_wp2_with (go_at_call 231;refine b.out.mono ?_;rintro e i ⟨rfl,rfl⟩)
   go_ret2
   exact ⟨by rw[d.out];rfl,rfl⟩
 ·have d:=ki (show justF k ws=false by rw[g.out];simp[hnk])
  go_enter Tryz.func171,Tryz.ntmps171
  go_wp2_with (go_at_call 231;refine b.out.mono ?_;rintro e i ⟨rfl,rfl⟩)
  go_ret2
  exact ⟨by rw[d.out];rfl,rfl⟩
def unread:List PanicEntry:=[{ v:=.iface 196 (.agg #[]),recovered:=false }]
theorem mustw_ok (v:Value) (w:World):Calls Tryz.prog 170 #[v,.nilIface] w fun e w'=>e=.returned v∧w'=w:=by
 go_enter Tryz.func170,Tryz.ntmps170
 go_wp2
 go_ret
 exact ⟨rfl,rfl⟩
theorem mustw_no (v:Value) (n:Int) (w:World):Calls Tryz.prog 170 #[v,err n] w fun e w'=>e=.panicked unread∧w'=w:=by
 unfold err unread
 go_enter Tryz.func170,Tryz.ntmps170
 go_wp2
 exact ⟨rfl,rfl,rfl⟩
theorem mustb_ok (v:Value) (w:World):Calls Tryz.prog 173 #[v,.nilIface] w fun e w'=>e=.returned v∧w'=w:=by
 go_enter Tryz.func173,Tryz.ntmps173
 go_wp2
 go_ret
 exact ⟨rfl,rfl⟩
theorem mustb_no (v:Value) (n:Int) (w:World):Calls Tryz.prog 173 #[v,err n] w fun e w'=>e=.panicked unread∧w'=w:=by
 unfold err unread
 go_enter Tryz.func173,Tryz.ntmps173
 go_wp2
 exact ⟨rfl,rfl,rfl⟩
theorem musti_ok (v:Value) (w:World):Calls Tryz.prog 178 #[v,.nilIface] w fun e w'=>e=.returned v∧w'=w:=by
 go_enter Tryz.func178,Tryz.ntmps178
 go_wp2
 go_ret
 exact ⟨rfl,rfl⟩
theorem musti_no (v:Value) (n:Int) (w:World):Calls Tryz.prog 178 #[v,err n] w fun e w'=>e=.panicked unread∧w'=w:=by
 unfold err unread
 go_enter Tryz.func178,Tryz.ntmps178
 go_wp2
 exact ⟨rfl,rfl,rfl⟩
theorem musts_ok (z:List Int) (w:World):Calls Tryz.prog 176 #[.agg (sixC z),.nilIface] w fun e w'=>e=.returned (.agg (sixC z))∧Below w.heap.size w w':=by
 have k:=al_below w (.cells (sixC z) 23)
 have b:Below _ _ (noughts (w.alloc (.cells (sixC z) 23))):=al_below (w.alloc (.cells (sixC z) 23)) _
 have d:=ki ((six_al z w).kept b)
 have f:=noughts_in (w.alloc (.cells (sixC z) 23))
 rw[World.size_alloc] at f
 have g:=ki f
 have h:=ki (bt k b)
 unfold noughts at d g h
 clear k b f
 go_enter Tryz.func176,Tryz.ntmps176
 go_upto_region 1 with fail
 generalize (World.alloc _ _).alloc _=W0 at d g h ⊢
 go_wp2_with (first
  | (refine at_load6 rfl (.tmp 2) rfl rfl d.out ?_)
  | (refine cat_store6 rfl (.tmp 4) (.tmp 9) rfl rfl g.out rfl ?_;intro n i a;have l:=ki (a.below h.out (Nat.le_succ _));replace i:=ki i;clear a))
 try simp only[Exit.inBlock,Exit.then]
 refine bodyPost_ret (six_result rfl _ _ (w.heap.size+1) z rfl i.out) rfl ?_
 exact ⟨rfl,l.out⟩
theorem musts_no (z:List Int) (n:Int) (w:World):Calls Tryz.prog 176 #[.agg (sixC z),err n] w fun e w'=>e=.panicked unread∧Below w.heap.size w w':=by
 have b:=al_below w (.cells (sixC z) 23)
 have d:Below _ _ (noughts (w.alloc (.cells (sixC z) 23))):=al_below (w.alloc (.cells (sixC z) 23)) _
 have a:=ki (bt b d)
 unfold noughts at a
 unfold err unread
 clear b d
 go_enter Tryz.func176,Tryz.ntmps176
 go_upto_region 1 with fail
 generalize (World.alloc _ _).alloc _=W0 at a ⊢
 go_wp2
 exact ⟨rfl,rfl,a.out⟩
end
section
theorem size_bad (z:List Int) (a:Option Addr) (len cap:Nat) (w:World) (hl:len≤maxLen) (h:sf z len≠0) :
  Calls Tryz.prog 148 #[.agg (sgC z a len cap)] w fun e w'=>e=.returned (.tuple #[.int .i64 0,err (sf z len)])∧Below w.heap.size w w':=by
 have b:=ki (fun W=>chk_any z a len cap W hl)
 rw[ev_err h] at b
 generalize sf z len=n at b
 have d:=ki (al_below w (.cells (sgC z a len cap) 39))
 have g:=ki (sg_new w z a len cap)
 clear h
 unfold err at b ⊢
 go_enter Tryz.func148,Tryz.ntmps148
 go_upto_region 1 with fail
 generalize w.alloc (.cells (sgC z a len cap) 39)=W at d g ⊢
 go_wp2_with (first
  | (refine at_load rfl (.tmp 1) rfl rfl g.out ?_)
  | (go_at_call 207;refine (b.out _).mono ?_;rintro e i ⟨rfl,f⟩;replace d:=ki (bt d.out f);clear f))
 go_ret2
 exact ⟨rfl,d.out⟩
theorem close6_bad (s d:List Int) (t:Int) (z:List Int) (a:Option Addr) (len cap:Nat) (w:World) (hl:len≤maxLen) (h:sf z len≠0) :
  Calls Tryz.prog 105 #[.agg (sixC s),.agg (sixC d),.int .i64 t,.agg (sgC z a len cap)] w fun e w'=>e=.returned (.tuple #[.slice none 0 0,err (sf z len)])∧Below w.heap.size w w':=by
 have b:=ki (fun W=>size_bad z a len cap W hl h)
 generalize sf z len=n at b
 have k:=al_below w (.cells (sixC s) 23)
 have l:=al_below (w.alloc (.cells (sixC s) 23)) (.cells (sixC d) 23)
 have o:=al_below ((w.alloc (.cells (sixC s) 23)).alloc (.cells (sixC d) 23)) (.cells (sgC z a len cap) 39)
 have i:=sg_new ((w.alloc (.cells (sixC s) 23)).alloc (.cells (sixC d) 23)) z a len cap
 rw[World.size_alloc,World.size_alloc] at i
 have p:=ki i
 have f:=ki (bt (bt k l) o)
 clear k l o i h
 unfold err at b ⊢
 go_enter Tryz.func105,Tryz.ntmps105
 go_upto_region 1 with fail
 generalize ((World.alloc _ _).alloc _).alloc _=W0 at p f ⊢
 go_wp2_with (first
  | (refine at_load rfl (.tmp 7) rfl rfl p.out ?_)
  | (go_at_call 148;refine (b.out _).mono ?_;rintro e q ⟨rfl,g⟩;replace f:=ki (bt f.out g);clear g))
 go_ret2
 exact ⟨rfl,f.out⟩
def cl6 (s d:List Int) (z D:List Int):List Int:=V6.bys s d 64 (el z 0) (eb z (o6 s d (el z 0) ((hn (el z 0):Nat)+(D.length:Int))) D)
def ClW (w w':World) (n:Int) (zs:List Int) (e:Ending):Prop:=(n=0∧∃ v,e=.returned (.tuple #[v,.nilIface])∧Own w.heap.size w' v zs)∨(n≠0∧e=.returned (.tuple #[.slice none 0 0,err n]))
theorem close6_any (s d:List Int) (z:List Int) (a:Option Addr) (len cap:Nat) (D:List Int) (w:World) (hs:Ok6 s) (hd:Ok6 d) (hr:Row8 w a len cap D) :
  Calls Tryz.prog 105 #[.agg (sixC s),.agg (sixC d),.int .i64 64,.agg (sgC z a len cap)] w fun e w'=>ClW w w' (sf z D.length) (cl6 s d z D) e∧Below w.heap.size w w':=by
 have f:=hr.1
 unfold cl6
 rw[f]
 by_cases h:sf z len=0
 ·refine (close6_ok s d 64 z a len cap D w hs hd (by decide) ((sf_iff _ _).1 h) hr).mono ?_
  rintro e w' ⟨v,b,g,hb⟩
  exact ⟨.inl ⟨h,v,b,g⟩,hb⟩
 ·refine (close6_bad s d 64 z a len cap w hr.2.1 h).mono ?_
  rintro e w' ⟨b,hb⟩
  exact ⟨.inr ⟨h,b⟩,hb⟩
end
section
variable {g:GS} {B G:Nat} {w:World}
theorem GN.still {O:Nat→Prop} {W W':World} (h:GH w G g O W) (hb:Below W.heap.size W W'):GN w G g O W W':=⟨O,h.kept hb,fun _ hk=>.inl hk,Kpt.of hb⟩
theorem GN.after {O:Nat→Prop} {W W1 W':World} (h:GN w G g O W W1) (hb:Below W1.heap.size W1 W'):GN w G g O W W':=by
 obtain ⟨a,b,d,e⟩:=h
 exact ⟨a,b.kept hb,d,e.trans (Kpt.of hb) (fun k hk=>hk)⟩
def ssn (G:Nat):Value:=.agg #[.pointer (some ⟨G,0,none⟩)]
def SnIn (B G:Nat) (w:World):Prop:=w.heap[B]? = some (.cells #[.pointer (some ⟨G,0,none⟩)] 126 (0,0))
theorem SnIn.lt (p:SnIn B G w):B < w.heap.size:=(Array.getElem?_eq_some_iff.1 p).1
theorem SnIn.kept {w':World} (p:SnIn B G w) (hb:Below w.heap.size w w'):SnIn B G w':=(hb.block B p.lt).trans p
theorem SnIn.cell (p:SnIn B G w):w.cell? ⟨B,0,none⟩=some (.pointer (some ⟨G,0,none⟩)):=cell_of_row w B 0 _ _ _ p
theorem sn_new (G:Nat) (w:World):SnIn w.heap.size G (w.alloc (.cells #[.pointer (some ⟨G,0,none⟩)] 126)):=heap_alloc_new w _
def GoW (w:World) (G:Nat) (O:Nat→Prop) (W W':World) (r:Int×List Int×GS) (e:Ending):Prop :=
 (∃ a2 l2 c2,e=.returned (.tuple #[.slice a2 l2 c2,ev r.1])∧Row8 W' a2 l2 c2 r.2.1∧l2≤c2∧c2≤maxLen)∧GN w G r.2.2 O W W'
def snd (g:GS) (s d z D:List Int):Int×List Int×GS:=if sf z D.length=0 then g6 g (p6o s d 64 z D) else (sf z D.length,[],g)
theorem row8_nil (w:World):Row8 w none 0 0 []:=⟨rfl,Nat.zero_le _,SM.oct_nil,fun _=>⟨rfl,rfl⟩,fun h=>absurd h (Nat.lt_irrefl _)⟩
theorem send_gh (hg:IG g) (s d z D:List Int) (hs:Ok6 s) (hd:Ok6 d):∀ w G O W a len cap,GH w G g O W→Row8 W a len cap D →
  Calls Tryz.prog 233 #[ssn G,.agg (sixC s),.agg (sixC d),.agg (sgC z a len cap)] W fun e w'=>GoW w G O W w' (snd g s d z D) e:=by
 intro w G O W a len cap J K
 have i:=ki (fun W1 (r:Row8 W1 a len cap D)=>close6_any s d z a len cap D W1 hs hd r)
 have HI:=ki (fun W1 b l k (h:GH w G g O W1) (r:Row8 W1 b l k (p6o s d 64 z D)) (h1:l≤k) (h2:k≤maxLen)=>in6_gh hg (p6o s d 64 z D) w G O W1 b l k h r h1 h2)
 have p:0 < (p6o s d 64 z D).length:=p6o_len
 have hp:cl6 s d z D=p6o s d 64 z D:=rfl
 rw[hp] at i
 have o:snd g s d z D=if sf z D.length=0 then g6 g (p6o s d 64 z D) else (sf z D.length,[],g):=rfl
 generalize p6o s d 64 z D=zs at i HI p o
 generalize sf z D.length=n at i o
 generalize snd g s d z D=R at o
 generalize g6 g zs=R6 at HI o
 have x:=ki o
 have L:=al_below W (.cells #[.pointer (some ⟨G,0,none⟩)] 126)
 have C:=al_below (W.alloc (.cells #[.pointer (some ⟨G,0,none⟩)] 126)) (.cells (sixC s) 23)
 have y:=al_below ((W.alloc (.cells #[.pointer (some ⟨G,0,none⟩)] 126)).alloc (.cells (sixC s) 23)) (.cells (sixC d) 23)
 have b4:=al_below (((W.alloc (.cells #[.pointer (some ⟨G,0,none⟩)] 126)).alloc (.cells (sixC s) 23)).alloc (.cells (sixC d) 23)) (.cells (sgC z a len cap) 39)
 have M:=sn_new G W
 have E:=six_al s (W.alloc (.cells #[.pointer (some ⟨G,0,none⟩)] 126))
 have F:=six_al d ((W.alloc (.cells #[.pointer (some ⟨G,0,none⟩)] 126)).alloc (.cells (sixC s) 23))
 have H:=sg_new (((W.alloc (.cells #[.pointer (some ⟨G,0,none⟩)] 126)).alloc (.cells (sixC s) 23)).alloc (.cells (sixC d) 23)) z a len cap
 rw[World.size_alloc] at E
 rw[World.size_alloc,World.size_alloc] at F
 rw[World.size_alloc,World.size_alloc,World.size_alloc] at H
 have A:=ki (((M.kept C).kept y).kept b4)
 have N:=ki ((E.kept y).kept b4)
 have P:=ki (F.kept b4)
 have Q:=ki H
 have f:=ki (bt (bt (bt L C) y) b4)
 have S:=ki (K.below f.out)
 have T:=ki J
 clear L C y b4 M E F H J K o hp
 unfold ssn
 go_enter Tryz.func233,Tryz.ntmps233
 go_upto_region 1 with fail
 generalize (((World.alloc _ _).alloc _).alloc _).alloc _=W0 at A N P Q f S ⊢
 go_upto_region 2 with (first
  | (refine at_load6 rfl (.tmp 5) rfl rfl N.out ?_)
  | (refine at_load6 rfl (.tmp 6) rfl rfl P.out ?_)
  | (refine at_load rfl (.tmp 7) rfl rfl Q.out ?_)
  | (go_at_call 105;refine (i.out _ S.out).mono ?_;rintro e w1 ⟨B,q⟩;replace A:=ki (A.out.kept q);replace f:=ki (bt f.out q);have U:=ki B;clear q B;rcases U.out with ⟨hn,v,rfl,ho⟩|⟨hn,rfl⟩))
 ·obtain ⟨g3,c3,rfl,V,X,-,-,Y⟩:=ho.form p
  have hN:=A.out.cell
  have Z:=ki (HI.out w1 _ _ _ (T.out.kept f.out) Y V X)
  have I:=ki (show R=R6 by rw[x.out,if_pos hn])
  clear ho V X Y i HI x
  go_wp2_with (go_at_call 51;refine Z.out.mono ?_;rintro e w2 ⟨⟨a2,l2,c2,rfl,q1,q2,q3⟩,q4⟩;have HA:=ki (And.intro q1 (And.intro q2 q3));have ae:=ki q4;clear q1 q2 q3 q4)
  go_ret2
  rw[I.out]
  exact ⟨⟨a2,l2,c2,rfl,HA.out⟩,ae.out.pre f.out⟩
 ·have I:=ki (show R=(n,[],g) by rw[x.out,if_neg hn])
  have t:ev n=err n:=if_neg hn
  unfold err at t ⊢
  have HE:=ki t
  clear t i HI x
  go_wp2
  go_ret2
  rw[I.out]
  refine ⟨⟨none,0,0,?_,row8_nil _,Nat.le_refl _,Nat.zero_le _⟩,GN.still T.out f.out⟩
  show _=Ending.returned (.tuple #[_,ev n])
  rw[HE.out]
  rfl
end
end Go.Proofs.YtgcojnlngchllaaGreatDoor
