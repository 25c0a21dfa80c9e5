/- Package shift: what goes up and what goes down, by contracts. Package shift: what goes down, by a contract. -/
import Derived.Test.YtgcojnlngchllaaGreatDoorK10
namespace Go.Proofs.YtgcojnlngchllaaGreatDoor
open Go.RowKit
set_option linter.unusedVariables false
set_option maxRecDepth 100000
set_option maxHeartbeats 40000000
section
variable {z:List Int}
theorem and2_all:∀ f:Fin 32,bits .and .i64 ((f.val:Nat):Int) 2=(if f.val / 2 % 2=1 then 2 else 0)∧bits .and .i64 ((f.val:Nat):Int) 16=(if f.val / 16 % 2=1 then 16 else 0):=by decide +kernel
theorem and2 (n:Int) (h0:0≤n) (h1:n≤31):bits .and .i64 n 2=if n / 2 % 2=1 then 2 else 0:=by
 obtain ⟨k,rfl⟩:=Int.eq_ofNat_of_zero_le h0
 have:=(and2_all ⟨k,by omega⟩).1
 simp only at this
 rw[this]
 by_cases h:k / 2 % 2=1
 ·rw[if_pos h,if_pos (by omega)]
 ·rw[if_neg h,if_neg (by omega)]
theorem and16 (n:Int) (h0:0≤n) (h1:n≤31):bits .and .i64 n 16=if n / 16 % 2=1 then 16 else 0:=by
 obtain ⟨k,rfl⟩:=Int.eq_ofNat_of_zero_le h0
 have:=(and2_all ⟨k,by omega⟩).2
 simp only at this
 rw[this]
 by_cases h:k / 16 % 2=1
 ·rw[if_pos h,if_pos (by omega)]
 ·rw[if_neg h,if_neg (by omega)]
theorem cf_ok {len:Nat} (h:cf z len=0):el z 0=6∧len≤300∧(0≤el z 3∧el z 3≤4294967295)∧(0≤el z 4∧el z 4≤4294967295)∧(0≤el z 5∧el z 5≤31):=by
 unfold cf at h
 split at h
 ·cases h
 ·rename_i h6
  have a:=(sf_iff z len).1 h
  have:el z 0=6:=Classical.byContradiction fun hn=>h6 ⟨h,hn⟩
  obtain ⟨_,_,b,h4|h4⟩:=a
  ·exact ⟨this,b,h4.2.1,h4.2.2.1,h4.2.2.2.1⟩
  ·omega
def upo (hd:List Int) (s:Int) (b h:Bool) (z zs:List Int):Int×List Int×List Int×Int×Bool×Bool :=
 if cf z zs.length≠0 then (cf z zs.length,[],[],s,b,h)
 else if el z 5 / 2 % 2=1 then bgo hd s b h z zs
 else if b=false then (9,[],[],s,b,h)
 else if el z 3=s∧h=false then fio hd s b h z zs
 else (0,z,zs,s,b,h)
def dno (s:Int) (b h:Bool) (z zs:List Int):Int×List Int×List Int×Int×Bool×Bool :=
 if cf z zs.length≠0 then (cf z zs.length,[],[],s,b,h)
 else if b=false then (9,[],[],s,b,h)
 else if el z 5 / 16 % 2=0 then (0,z,zs,s,b,h)
 else if ah (el z 4) s=true then (0,za z s,zs,s,b,h)
 else (0,z,zs,s,b,true)
theorem ST.only {T:TypeId} {B:Nat} {hd:List Int} {s:Int} {b h:Bool} {w w':World} (p:ST T B hd s b h w) {D:Nat} {x:Option Addr} {l k:Nat} (q:SgIn D z x l k w) (on:Only D w w') (hne:B≠D):ST T B hd s b h w':=by
 obtain ⟨a,n,c,d,e,f⟩:=p
 exact ⟨a,n,c,(on.2.2.2.2 B hne).trans d,e.past q on,f⟩
theorem T3.st {B:Nat} {w:World} {a:Option Addr} {len cap:Nat} {W W':World} (t:T3 B w z a len cap W) {T:TypeId} {hd:List Int} {s:Int} {b h:Bool} (p:ST T B hd s b h W) (u:Bu B W W'):T3 B w z a len cap W':=by
 obtain ⟨_,_,_,d,_⟩:=p
 exact t.turn d u
attribute [local go_sem ↓] gload_shut
theorem up_bad (B:Nat) (hd:List Int) (s:Int) (b h:Bool) (z:List Int) (a:Option Addr) (len cap:Nat) (zs:List Int) (w:World) (hS:ST 304 B hd s b h w) (hr:Row8 w a len cap zs) (hF:cf z len≠0) :
  Calls Tryz.prog 147 #[.pointer (some ⟨B,0,none⟩),.agg (sgC z a len cap)] w (UQ 304 ev B hd (cf z len,[],[],s,b,h) w):=by
 have d:=ki (T2.start w z a len cap)
 unfold zero7 at d
 have f:=ki (fun W=>scheck_any z a len cap W hr.2.1)
 have n:=ki (fun W (hb:Below w.heap.size w W)=>hS.kept hb)
 clear hS hr
 generalize cf z len=F at hF f ⊢
 have k:=ki (show ev F=err F from if_neg hF)
 rw[k.o] at f
 unfold err at f k
 clear hF
 go_enter Tryz.func147,Tryz.ntmps147
 go_upto_region 1 with fail
 generalize (World.alloc _ _).alloc _=W0 at d ⊢
 go_wp2_with (first
  | (refine at_load rfl (.tmp 3) rfl rfl d.o.1 ?_)
  | (go_at_call 203;refine (f.o _).mono ?_;rintro e p ⟨rfl,g⟩;replace d:=ki (d.o.kept g);clear g)
  | (refine at_store rfl (.tmp 4) (.tmp 11) rfl rfl d.o.2.1 [] none 0 0 rfl ?_;intro q l i;have o:=ki (d.o.put i);replace l:=ki l;clear i d))
 try simp only[Exit.inBlock,Exit.then]
 refine bodyPost_ret (results_sg rfl _ _ (w.heap.size+1) [] none 0 0 rfl l.o) rfl ?_
 exact ⟨none,0,0,by rw[k.o];rfl,row_no _,n.o _ o.o,Bu.of o.o⟩
theorem up_ok (B:Nat) (hd:List Int) (s:Int) (b h:Bool) (z:List Int) (a:Option Addr) (len cap:Nat) (zs:List Int) (w:World) (hS:ST 304 B hd s b h w) (hhb:h=true→b=true) (hr:Row8 w a len cap zs) (hF:cf z len=0) (O:Int×List Int×List Int×Int×Bool×Bool) (hO:O=if el z 5 / 2 % 2=1 then bgo hd s b h z zs else if b=false then (9,[],[],s,b,h) else if el z 3=s∧h=false then fio hd s b h z zs else (0,z,zs,s,b,h)) :
  Calls Tryz.prog 147 #[.pointer (some ⟨B,0,none⟩),.agg (sgC z a len cap)] w (UQ 304 ev B hd O w):=by
 have d:=ki (T2.start w z a len cap)
 unfold zero7 at d
 have Q:=ki (fun W=>scheck_any z a len cap W hr.2.1)
 rw[hF,show ev 0=.nilIface from rfl] at Q
 obtain ⟨-,hl,J,-,A⟩:=cf_ok hF
 have C:=ki (fun W (h1:ST 304 B hd s b h W) (h2:Row8 W a len cap zs)=>begin_any B hd s b h z a len cap zs W h1 hhb h2 hl J.1 (by omega))
 have r:=ki (fun W (h1:ST 304 B hd s b h W) (h2:Row8 W a len cap zs)=>first_any B hd s b h z a len cap zs W h1 h2 hl J.1 (by omega))
 have v:=ki (fun W (h2:Row8 W a len cap zs)=>own_any z a len cap zs W h2 (by omega))
 have l:=ki (fun W (hb:Below w.heap.size w W)=>hS.kept hb)
 have D:=ki (fun W (hb:Below w.heap.size w W)=>hr.below hb)
 have G:=ki hS.lt
 have T:=and2 (el z 5) A.1 A.2
 clear hS hr hF J A hl hhb
 go_enter Tryz.func147,Tryz.ntmps147
 go_upto_region 1 with fail
 generalize (World.alloc _ _).alloc _=W0 at d ⊢
 go_upto_region 4 with (first
  | (refine at_load rfl (.tmp 3) rfl rfl d.o.1 ?_)
  | (go_at_call 203;refine (Q.o _).mono ?_;rintro e w1 ⟨rfl,H⟩;replace d:=ki (d.o.kept H);clear H))
 have U:=d.o.1.c5
 by_cases hsyn:el z 5 / 2 % 2=1
 ·rw[if_pos hsyn] at T hO
  have q:=ki hO
  clear hO hsyn r v
  generalize bgo hd s b h z zs=O' at C q
  have V:=ki (d.o.three (B:=B))
  have S:=ki (l.o _ d.o.2.2)
  have R:=ki (D.o _ d.o.2.2)
  clear d l D
  go_wp2_with (first
   | (refine at_load rfl (.tmp 3) rfl rfl V.o.1 ?_)
   | (go_at_call 204;refine (C.o _ S.o R.o).mono ?_;rintro e X ⟨o,t,c2,rfl,g,i,E⟩;replace V:=ki (V.o.st S.o E);replace i:=ki i;replace g:=ki g;clear E S R U)
   | (refine at_store rfl (.tmp 4) (.tmp 20) rfl rfl V.o.2.1 O'.2.1 o t c2 rfl ?_;intro K k f;have L:=ki (V.o.put f);replace g:=ki (g.o.past V.o.2.1 f);replace i:=ki (i.o.only V.o.2.1 f (by have:=G.o;omega));replace k:=ki k;clear f V))
  try simp only[Exit.inBlock,Exit.then]
  refine bodyPost_ret (results_sg rfl _ _ (w.heap.size+1) O'.2.1 o t c2 rfl k.o) rfl ?_
  rw[q.o]
  exact ⟨o,t,c2,rfl,g.o,i.o,L.o⟩
 ·rw[if_neg hsyn] at T hO
  clear C hsyn
  have S:=ki (l.o _ d.o.2.2)
  obtain ⟨x,n,c,p,-,-⟩:=S.o
  have Z:=p.c2
  have M:=p.c1
  have N:=p.c3
  clear p
  cases b
  ·rw[if_pos rfl] at hO
   have q:=ki hO
   clear hO r v M N
   go_wp2_with (refine at_store rfl (.tmp 4) (.tmp 27) rfl rfl d.o.2.1 [] none 0 0 rfl ?_;intro K k f;have F:=ki (d.o.put f);replace k:=ki k;clear f d)
   try simp only[Exit.inBlock,Exit.then]
   refine bodyPost_ret (results_sg rfl _ _ (w.heap.size+1) [] none 0 0 rfl k.o) rfl ?_
   rw[q.o]
   exact ⟨none,0,0,rfl,row_no _,l.o _ F.o,Bu.of F.o⟩
  ·rw[if_neg (by decide)] at hO
   have Y:=d.o.1.c3
   go_upto_region 8 with fail
   have y:=ki (fun n=>d.o.kept (W':=World.drewN _ n) ⟨rfl,rfl,rfl,Nat.le_refl _,fun _ _=>rfl⟩)
   clear U Z S
   by_cases hqs:el z 3=s
   case' pos =>
    have P:(el z 3 == s)=true:=by simpa using hqs
    cases h
   case' pos.false =>
    rw[if_pos ⟨hqs,rfl⟩] at hO
    have q:=ki hO
    clear hO hqs v
    generalize fio hd s true false z zs=O' at r q
    clear d
    go_quiet (fail)
    generalize hW:World.drewN _ _=W1
    have d:Hid (T2 w z a len cap W1):=by rw[← hW];exact y.o _
    clear hW y M N Y P
    have V:=ki (d.o.three (B:=B))
    have S:=ki (l.o _ d.o.2.2)
    have R:=ki (D.o _ d.o.2.2)
    clear d l D
    go_wp2_with (first
     | (refine at_load rfl (.tmp 3) rfl rfl V.o.1 ?_)
     | (go_at_call 205;refine (r.o _ S.o R.o).mono ?_;rintro e X ⟨o,t,c2,rfl,g,i,E⟩;replace V:=ki (V.o.st S.o E);replace i:=ki i;replace g:=ki g;clear E S R)
     | (refine at_store rfl (.tmp 4) (.tmp 46) rfl rfl V.o.2.1 O'.2.1 o t c2 rfl ?_;intro K k f;have L:=ki (V.o.put f);replace g:=ki (g.o.past V.o.2.1 f);replace i:=ki (i.o.only V.o.2.1 f (by have:=G.o;omega));replace k:=ki k;clear f V))
    try simp only[Exit.inBlock,Exit.then]
    refine bodyPost_ret (results_sg rfl _ _ (w.heap.size+1) O'.2.1 o t c2 rfl k.o) rfl ?_
    rw[q.o]
    exact ⟨o,t,c2,rfl,g.o,i.o,L.o⟩
   case' neg =>
    have P:(el z 3 == s)=false:=by simpa using hqs
   all_goals
    rw[if_neg (fun hx=>by first|exact hqs hx.1|cases hx.2)] at hO
    have q:=ki hO
    clear hO hqs r
    clear d
    go_quiet (fail)
    generalize hW:World.drewN _ _=W1
    have d:Hid (T2 w z a len cap W1):=by rw[← hW];exact y.o _
    clear hW y M N Y P
    have R:=ki (D.o _ d.o.2.2)
    go_wp2_with (first
     | (refine at_load rfl (.tmp 3) rfl rfl d.o.1 ?_)
     | (go_at_call 206;refine (v.o _ R.o).mono ?_;rintro e X ⟨o,c2,rfl,g,I⟩;replace d:=ki (d.o.kept I);replace g:=ki g;clear I R)
     | (refine at_store rfl (.tmp 4) (.tmp 49) rfl rfl d.o.2.1 z o len c2 rfl ?_;intro K k f;have F:=ki (d.o.put f);replace g:=ki (g.o.past d.o.2.1 f);replace k:=ki k;clear f d))
    try simp only[Exit.inBlock,Exit.then]
    refine bodyPost_ret (results_sg rfl _ _ (w.heap.size+1) z o len c2 rfl k.o) rfl ?_
    rw[q.o]
    exact ⟨o,len,c2,rfl,g.o,l.o _ F.o,Bu.of F.o⟩
theorem up_any (B:Nat) (hd:List Int) (s:Int) (b h:Bool) (z:List Int) (a:Option Addr) (len cap:Nat) (zs:List Int) (w:World) (hS:ST 304 B hd s b h w) (hhb:h=true→b=true) (hr:Row8 w a len cap zs) :
  Calls Tryz.prog 147 #[.pointer (some ⟨B,0,none⟩),.agg (sgC z a len cap)] w (UQ 304 ev B hd (upo hd s b h z zs) w):=by
 have hl:=hr.1
 by_cases hF:cf z len=0
 ·exact up_ok B hd s b h z a len cap zs w hS hhb hr hF _ (by unfold upo;rw[hl,if_neg (by rw[hF];decide)])
 ·have:=up_bad B hd s b h z a len cap zs w hS hr hF
  rw[show upo hd s b h z zs=(cf z len,[],[],s,b,h) by unfold upo;rw[hl,if_pos hF]]
  exact this
end
section
theorem T2.all {w:World} {z:List Int} {a:Option Addr} {len cap:Nat} {W W':World} (t:T2 w z a len cap W) {z':List Int} {a':Option Addr} {len' cap':Nat} (p:SgIn w.heap.size z' a' len' cap' W') (on:Only w.heap.size W W'):T2 w z' a' len' cap' W':=t.turn p on
attribute [local go_sem ↓] gload_shut
theorem down_bad (B:Nat) (hd:List Int) (s:Int) (b h:Bool) (z:List Int) (a:Option Addr) (len cap:Nat) (zs:List Int) (w:World) (hS:ST 304 B hd s b h w) (hr:Row8 w a len cap zs) (hF:cf z len≠0) :
  Calls Tryz.prog 154 #[.pointer (some ⟨B,0,none⟩),.agg (sgC z a len cap)] w (UQ 304 ev B hd (cf z len,[],[],s,b,h) w):=by
 have d:=ki (T2.start w z a len cap)
 unfold zero7 at d
 have f:=ki (fun W=>scheck_any z a len cap W hr.2.1)
 have n:=ki (fun W (hb:Below w.heap.size w W)=>hS.kept hb)
 clear hS hr
 generalize cf z len=F at hF f ⊢
 have k:=ki (show ev F=err F from if_neg hF)
 rw[k.o] at f
 unfold err at f k
 clear hF
 go_enter Tryz.func154,Tryz.ntmps154
 go_upto_region 1 with fail
 generalize (World.alloc _ _).alloc _=W0 at d ⊢
 go_wp2_with (first
  | (refine at_load rfl (.tmp 3) rfl rfl d.o.1 ?_)
  | (go_at_call 203;refine (f.o _).mono ?_;rintro e p ⟨rfl,g⟩;replace d:=ki (d.o.kept g);clear g)
  | (refine at_store rfl (.tmp 4) (.tmp 11) rfl rfl d.o.2.1 [] none 0 0 rfl ?_;intro q l i;have o:=ki (d.o.put i);replace l:=ki l;clear i d))
 try simp only[Exit.inBlock,Exit.then]
 refine bodyPost_ret (results_sg rfl _ _ (w.heap.size+1) [] none 0 0 rfl l.o) rfl ?_
 exact ⟨none,0,0,by rw[k.o];rfl,row_no _,n.o _ o.o,Bu.of o.o⟩
theorem down_ok (B:Nat) (hd:List Int) (s:Int) (b h:Bool) (z:List Int) (a:Option Addr) (len cap:Nat) (zs:List Int) (w:World) (hS:ST 304 B hd s b h w) (hs:0≤s∧s < 4294967296) (hr:Row8 w a len cap zs) (hF:cf z len=0) (O:Int×List Int×List Int×Int×Bool×Bool) (hO:O=if b=false then (9,[],[],s,b,h) else if el z 5 / 16 % 2=0 then (0,z,zs,s,b,h) else if ah (el z 4) s=true then (0,za z s,zs,s,b,h) else (0,z,zs,s,b,true)) :
  Calls Tryz.prog 154 #[.pointer (some ⟨B,0,none⟩),.agg (sgC z a len cap)] w (UQ 304 ev B hd O w):=by
 have d:=ki (T2.start w z a len cap)
 unfold zero7 at d
 have M:=ki (fun W=>scheck_any z a len cap W hr.2.1)
 rw[hF,show ev 0=.nilIface from rfl] at M
 obtain ⟨-,hl,-,U,r⟩:=cf_ok hF
 have t:=ki (fun W (h2:Row8 W a len cap zs)=>own_any z a len cap zs W h2 (by omega))
 have v:=ki (fun W=>ahead_any (el z 4) s W U.1 (by omega) hs.1 hs.2)
 have l:=ki (fun W (hb:Below w.heap.size w W)=>hS.kept hb)
 have HR:=ki (fun W (hb:Below w.heap.size w W)=>hr.below hb)
 have X:=ki hS.lt
 have F:=and16 (el z 5) r.1 r.2
 have y:el z 5 / 16 % 2=0∨el z 5 / 16 % 2=1:=by omega
 clear hS hr hF U r hl hs
 go_enter Tryz.func154,Tryz.ntmps154
 go_upto_region 1 with fail
 generalize (World.alloc _ _).alloc _=W0 at d ⊢
 go_upto_region 4 with (first
  | (refine at_load rfl (.tmp 3) rfl rfl d.o.1 ?_)
  | (go_at_call 203;refine (M.o _).mono ?_;rintro e w1 ⟨rfl,H⟩;replace d:=ki (d.o.kept H);clear H))
 have S:=ki (l.o _ d.o.2.2)
 obtain ⟨x,n,c,p,-,-⟩:=S.o
 have k2:=p.c2
 clear p
 cases b
 ·rw[if_pos rfl] at hO
  have q:=ki hO
  clear hO t v y F
  go_wp2_with (refine at_store rfl (.tmp 4) (.tmp 18) rfl rfl d.o.2.1 [] none 0 0 rfl ?_;intro N i f;have o:=ki (d.o.put f);replace i:=ki i;clear f d)
  try simp only[Exit.inBlock,Exit.then]
  refine bodyPost_ret (results_sg rfl _ _ (w.heap.size+1) [] none 0 0 rfl i.o) rfl ?_
  rw[q.o]
  exact ⟨none,0,0,rfl,row_no _,l.o _ o.o,Bu.of o.o⟩
 ·rw[if_neg (by decide)] at hO
  have R:=ki (HR.o _ d.o.2.2)
  clear S
  go_upto_region 7 with (first
   | (refine at_load rfl (.tmp 3) rfl rfl d.o.1 ?_)
   | (go_at_call 206;refine (t.o _ R.o).mono ?_;rintro e w2 ⟨k,c2,rfl,g,I⟩;replace d:=ki (d.o.kept I);replace g:=ki g;clear I R k2)
   | (refine at_store rfl (.tmp 3) (.tmp 21) rfl rfl d.o.1 z k len c2 rfl ?_;intro w3 Y C;replace g:=ki (g.o.past d.o.1 C);replace d:=ki (d.o.all Y C);clear C Y))
  clear M t
  have l5:=d.o.1.c5
  rcases y with h16|h16
  ·rw[if_neg (by omega)] at F
   rw[if_pos h16] at hO
   have q:=ki hO
   clear hO h16 v
   go_wp2_with (first
    | (refine at_load rfl (.tmp 3) rfl rfl d.o.1 ?_)
    | (refine at_store rfl (.tmp 4) (.tmp 26) rfl rfl d.o.2.1 z k len c2 rfl ?_;intro N i f;have o:=ki (d.o.put f);replace g:=ki (g.o.past d.o.2.1 f);replace i:=ki i;clear f d))
   try simp only[Exit.inBlock,Exit.then]
   refine bodyPost_ret (results_sg rfl _ _ (w.heap.size+1) z k len c2 rfl i.o) rfl ?_
   rw[q.o]
   exact ⟨k,len,c2,rfl,g.o,l.o _ o.o,Bu.of o.o⟩
  ·rw[if_pos h16] at F
   rw[if_neg (by omega)] at hO
   clear h16
   go_upto_region 9 with fail
   clear l5 F
   have S:=ki (l.o _ d.o.2.2)
   obtain ⟨x,n,c,p,-,-⟩:=S.o
   have Q:=p.c1
   have T:=d.o.1.c4
   have J:=ki (fun n=>d.o.kept (W':=World.drewN _ n) ⟨rfl,rfl,rfl,Nat.le_refl _,fun _ _=>rfl⟩)
   have K:=ki (fun n=>g.o.below (w':=World.drewN _ n) ⟨rfl,rfl,rfl,Nat.le_refl _,fun _ _=>rfl⟩)
   generalize ah (el z 4) s=A at hO v
   clear p S d g
   go_quiet (first|(go_at_call 219;refine Calls.quiet_of_same (v.o _)))
   generalize hW:World.drewN _ _=W1
   have d:Hid (T2 w z k len c2 W1):=by rw[← hW];exact J.o _
   have g:Hid (Row8 W1 k len c2 zs):=by rw[← hW];exact K.o _
   clear hW J K Q T v
   have S:=ki (l.o _ d.o.2.2)
   obtain ⟨x,n,c,p,L,hn⟩:=S.o
   have P:=ki p
   have D:=ki L
   clear p L S
   cases A
   ·rw[if_neg (by decide)] at hO
    have q:=ki hO
    have k3:=P.o.c3
    have f3:=P.o.frz 3
    have E:=P.o.set3 true
    have V:=ki ((d.o.three (B:=B)).turn P.o E.2.bu)
    replace g:=ki (g.o.bu P.o E.2.bu)
    replace D:=ki (D.o.bu P.o E.2.bu)
    replace P:=ki E.1
    clear E hO d
    go_upto_region 13 with fail
    clear k3 f3
    generalize World.setCell _ _ _=W2 at V g D P ⊢
    go_wp2_with (first
     | (refine at_load rfl (.tmp 3) rfl rfl V.o.1 ?_)
     | (refine at_store rfl (.tmp 4) (.tmp 43) rfl rfl V.o.2.1 z k len c2 rfl ?_;intro N i f;have HU:=ki (V.o.put f);replace g:=ki (g.o.past V.o.2.1 f);have Z:=ki ((show ST 304 B hd s true true _ from ⟨x,n,c,P.o,D.o,hn⟩).only V.o.2.1 f (by have:=X.o;omega));replace i:=ki i;clear f V))
    try simp only[Exit.inBlock,Exit.then]
    refine bodyPost_ret (results_sg rfl _ _ (w.heap.size+1) z k len c2 rfl i.o) rfl ?_
    rw[q.o]
    exact ⟨k,len,c2,rfl,g.o,Z.o,HU.o⟩
   ·rw[if_pos rfl] at hO
    have q:=ki hO
    have Q:=P.o.c1
    have T:=d.o.1.c4
    have f4:=d.o.1.frz 4
    have G:=d.o.1.set4 s
    replace g:=ki (g.o.past d.o.1 G.2)
    replace d:=ki (d.o.turn G.1 G.2)
    clear G hO P D
    go_upto_region 11 with fail
    clear Q T f4
    generalize World.setCell _ _ _=W2 at d g ⊢
    go_wp2_with (first
     | (refine at_load rfl (.tmp 3) rfl rfl d.o.1 ?_)
     | (refine at_store rfl (.tmp 4) (.tmp 39) rfl rfl d.o.2.1 (za z s) k len c2 rfl ?_;intro N i f;have o:=ki (d.o.put f);replace g:=ki (g.o.past d.o.2.1 f);replace i:=ki i;clear f d))
    try simp only[Exit.inBlock,Exit.then]
    refine bodyPost_ret (results_sg rfl _ _ (w.heap.size+1) (za z s) k len c2 rfl i.o) rfl ?_
    rw[q.o]
    exact ⟨k,len,c2,rfl,g.o,l.o _ o.o,Bu.of o.o⟩
theorem down_any (B:Nat) (hd:List Int) (s:Int) (b h:Bool) (z:List Int) (a:Option Addr) (len cap:Nat) (zs:List Int) (w:World) (hS:ST 304 B hd s b h w) (hs:0≤s∧s < 4294967296) (hr:Row8 w a len cap zs) :
  Calls Tryz.prog 154 #[.pointer (some ⟨B,0,none⟩),.agg (sgC z a len cap)] w (UQ 304 ev B hd (dno s b h z zs) w):=by
 have hl:=hr.1
 by_cases hF:cf z len=0
 ·exact down_ok B hd s b h z a len cap zs w hS hs hr hF _ (by unfold dno;rw[hl,if_neg (by rw[hF];decide)])
 ·have:=down_bad B hd s b h z a len cap zs w hS hr hF
  rw[show dno s b h z zs=(cf z len,[],[],s,b,h) by unfold dno;rw[hl,if_pos hF]]
  exact this
end
end Go.Proofs.YtgcojnlngchllaaGreatDoor
