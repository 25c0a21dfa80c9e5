import Derived.Test.YtgcojnlngchllaaGreatDoorJ28
namespace Go.Proofs.YtgcojnlngchllaaGreatDoor
open Go.RowKit Tryz
set_option linter.unusedVariables false
set_option maxRecDepth 100000
set_option maxHeartbeats 40000000
section
theorem Tc(B:Nat)(hd:List Int)(s:Int)(b h:Bool)(z:List Int)(a:Option Addr)(len cap:Nat)(zs:List Int)(w:World)(hS:ST 101 B hd s b h w)(hr:aj w a len cap zs)(hF:cf z len=0)(jS:¬el z 5/2%2=1)(O:Int×List Int×List Int×Int×Bool×Bool)(hO:O=if b=false then (9,[],[],s,b,h) else if el z 3=s∧h=false then iZ hd s b h z zs else (0,z,zs,s,b,h)): Calls prog 39 #[.pointer (some ⟨B,0,none⟩),.agg (aA z a len cap)] w (jv 101 (Value.int .i64) B hd O w):=by
 have d:=ki (T2.start w z a len cap);unfold aN at d;have HC:=ki (fun W=>nI z a len cap W hr.2.1);rw[BN hF] at HC;obtain⟨h6,hl,hq,-,dR⟩:=qI hF;have e6:(el z 0 != 6)=false:=by rw[h6];rfl
 have t:=ki (fun W (hb:Below w.heap.size w W)=>hS.kept hb);have S:=ki (fun W (hb:Below w.heap.size w W)=>hr.below hb);obtain⟨x,n,c,p,E,hn⟩:=hS;have F:=ki hr.1;have o:=ki E.1;have HS:=ki (fun W (hb:Below w.heap.size w W)=>p.kept hb);have HD:=ki (fun W (hb:Below w.heap.size w W)=>E.below hb);have es:(el z 5/2%2 == 1)=false:=by simpa using jS
 have HW:=ki (fun W=>BM (el z 3) n W hq.1 (by omega) (by omega) (by omega));have v:=ki (show 300<n+len->iZ hd s b h z zs=(3,[],[],s,b,h) from fun hx=>if_pos (by rw[F.o,o.o];exact hx));have q:=ki (show ¬300<n+len->iZ hd s b h z zs=(0,iI z (md (el z 3-n)),hd++zs,s,b,h) from fun hx=>by rw[show iZ hd s b h z zs=_ from if_neg (by rw[F.o,o.o];exact hx),o.o]);generalize md (el z 3-n)=M at HW q;clear p hr E h6 hF jS;go_enter func39,ntmps39;go_upto_region 1 with fail
 generalize (World.alloc _ _).alloc _=W0 at d⊢;go_upto_region 4 with(first|(refine bB rfl (.tmp 3) rfl rfl d.o.1 ?_)|(go_at_call 50;refine(HC.o _).mono ?_;rintro e w1 ⟨rfl,T⟩;replace d:=ki (d.o.kept T);clear T))
 have P:=ki (HS.o _ d.o.2.2);have l0:=d.o.1.c0;have nP:=d.o.1.c5;have r:=d.o.1.c7;have X:=P.o.c0;go_upto_region 17 with fail
 clear l0 nP X;have k2:=P.o.c2;cases b
 ·rw[if_pos rfl] at hO;have C:=ki hO;clear hO P r;go_wp2_with (refine aK rfl (.tmp 4) (.tmp 80) rfl rfl d.o.2.1 [] none 0 0 rfl ?_;intro Y g f;have i:=ki (d.o.put f);replace g:=ki g;clear f d)
  try simp only[Exit.inBlock,Exit.then]
  refine bodyPost_ret (bS rfl _ _ (w.heap.size+1) [] none 0 0 rfl g.o) rfl ?_;rw[C.o];exact⟨none,0,0,rfl,ku _,t.o _ i.o,cK.of i.o⟩
 ·rw[if_neg (by decide)] at hO;go_upto_region 19 with fail
  have J:=d.o.1.c3;have k1:=P.o.c1;have k3:=P.o.c3;have A:=ki (fun n=>d.o.kept (W':=World.drewN _ n) ⟨rfl,rfl,rfl,Nat.le_refl _,fun _ _=>rfl⟩);clear k2 P r;by_cases kM:el z 3=s;case' pos =>
   have Z:(el z 3 != s)=false:=by rw[kM];simp
   cases h
  case' pos.false =>
   rw[if_pos ⟨kM,rfl⟩] at hO;have C:=ki hO;clear hO kM d;go_quiet (fail)
   generalize hW:World.drewN _ _=W1;have d:Hid (T2 w z a len cap W1):=by rw[<-hW];exact A.o _
   clear hW A k1 k3 J Z;have r:=d.o.1.c7;by_cases hfull:300<n+len
   ·have G:=ki (v.o hfull);have j1:(300:Int)<(n:Int)+(len:Int):=by omega
    clear v q hfull;go_wp2_with (refine aK rfl (.tmp 4) (.tmp 101) rfl rfl d.o.2.1 [] none 0 0 rfl ?_;intro Y g f;have i:=ki (d.o.put f);replace g:=ki g;clear f d)
    try simp only[Exit.inBlock,Exit.then]
    refine bodyPost_ret (bS rfl _ _ (w.heap.size+1) [] none 0 0 rfl g.o) rfl ?_;rw[C.o,G.o];exact⟨none,0,0,rfl,ku _,t.o _ i.o,cK.of i.o⟩
   ·have G:=ki (q.o hfull);have j1:¬(300:Int)<(n:Int)+(len:Int):=by omega
    have X:=(HS.o _ d.o.2.2).c0;have D:=ki (HD.o _ d.o.2.2);have G0:=ki (bN.nil W1);clear v q hfull;go_upto_region 25 with(at_builtin;refine gF rfl (.tmp 102) (.tmp 106) rfl rfl G0.o rfl D.o (by simp only[List.length_nil];omega) ?_;intro v9 fK H;replace H:=ki H)
    have U:=d;replace d:=ki (d.o.kept H.o.2);clear r X D G0 j1;have r:=d.o.1.c7;have R:=ki (S.o _ d.o.2.2);go_upto_region 26 with(at_builtin;refine gF rfl (.tmp 108) (.tmp 110) rfl rfl H.o rfl R.o (by rw[List.nil_append,o.o];omega) ?_;intro aw ax k;replace k:=ki k)
    replace d:=ki (U.o.kept k.o.2);rw[List.nil_append] at k;obtain⟨y,K,hv,I,-⟩:=k.o.1.dw;rw[List.length_append,o.o,F.o] at hv I;subst hv;clear r R H k U;have r:=d.o.1.c7;have f7:=d.o.1.aZ 7;have L:=d.o.1.Aj y (n+len) K;have BO:=ki (I.past d.o.1 L.2);replace d:=ki (d.o.turn L.1 L.2);clear L I;go_upto_region 27 with fail
    clear r f7;generalize World.setCell _ _ _=W2 at d BO⊢;have J:=d.o.1.c3;have f3:=d.o.1.aZ 3;have N:=d.o.1.nW M;have Q:=ki (BO.o.past d.o.1 N.2);have l:=ki (d.o.turn N.1 N.2);clear N;go_upto_region 28 with(go_at_call 86;refine(HW.o _).mono ?_;rintro e w' ⟨rfl,V⟩;rw[V];clear V w')
    clear J f3 d BO;generalize World.setCell _ _ _=W3 at l Q⊢;go_wp2_with (first|(refine bB rfl (.tmp 3) rfl rfl l.o.1 ?_)|(refine aK rfl (.tmp 4) (.tmp 119) rfl rfl l.o.2.1 (iI z M) y (n+len) K rfl ?_;intro Y g f;have i:=ki (l.o.put f);replace Q:=ki (Q.o.past l.o.2.1 f);replace g:=ki g;clear f l))
    try simp only[Exit.inBlock,Exit.then]
    refine bodyPost_ret (bS rfl _ _ (w.heap.size+1) (iI z M) y (n+len) K rfl g.o) rfl ?_;rw[C.o,G.o];exact⟨y,n+len,K,rfl,Q.o,t.o _ i.o,cK.of i.o⟩
  case' neg =>have Z:(el z 3 != s)=true:=by simpa using kM
  all_goals
   rw[if_neg (fun hx=>by first|exact kM hx.1|cases hx.2)] at hO;have C:=ki hO;clear hO kM v q d;go_quiet (fail)
   generalize hW:World.drewN _ _=W1;have d:Hid (T2 w z a len cap W1):=by rw[<-hW];exact A.o _
   clear hW A k1 k3 J Z;have R:=ki (S.o _ d.o.2.2);go_wp2_with (first|(refine bB rfl (.tmp 3) rfl rfl d.o.1 ?_)|(refine aK rfl (.tmp 4) (.tmp 94) rfl rfl d.o.2.1 z a len cap rfl ?_;intro Y g f;have i:=ki (d.o.put f);replace R:=ki (R.o.past d.o.2.1 f);replace g:=ki g;clear f d))
   try simp only[Exit.inBlock,Exit.then]
   refine bodyPost_ret (bS rfl _ _ (w.heap.size+1) z a len cap rfl g.o) rfl ?_;rw[C.o];exact⟨a,len,cap,rfl,R.o,t.o _ i.o,cK.of i.o⟩
theorem KF(B:Nat)(hd:List Int)(s:Int)(b h:Bool)(z:List Int)(a:Option Addr)(len cap:Nat)(zs:List Int)(w:World)(hS:ST 101 B hd s b h w)(hr:aj w a len cap zs): Calls prog 39 #[.pointer (some ⟨B,0,none⟩),.agg (aA z a len cap)] w (jv 101 (Value.int .i64) B hd (dM hd s b h z zs) w):=by
 have hl:=hr.1;by_cases hF:cf z len=0
 ·have e:dM hd s b h z zs=if el z 5/2%2=1 then iJ hd s b h z zs else if b=false then (9,[],[],s,b,h) else if el z 3=s∧h=false then iZ hd s b h z zs else (0,z,zs,s,b,h):=by unfold dM;rw[hl,if_neg (by rw[hF];decide)]
  by_cases jS:el z 5/2%2=1
  ·rw[e,if_pos jS];exact S9 B hd s b h z a len cap zs w hS hr hF jS
  ·rw[if_neg jS] at e;exact Tc B hd s b h z a len cap zs w hS hr hF jS _ e
 ·rw[show dM hd s b h z zs=(cf z len,[],[],s,b,h) by unfold dM;rw[hl,if_pos hF]];by_cases hs:sf z len=0
  ·have h6:el z 0≠6:=fun h6=>hF (by unfold cf;rw[if_neg (fun hx=>hx.2 h6)];exact hs)
   rw[show cf z len=2 from if_pos ⟨hs,h6⟩];exact SY B hd s b h z a len cap w hS hr.2.1 hs h6
  ·rw[show cf z len=sf z len from if_neg (fun hx=>hs hx.1)];exact SX B hd s b h z a len cap w hS hr.2.1 hs
end
section
theorem Td(B:Nat)(hd:List Int)(s:Int)(b h:Bool)(z:List Int)(a:Option Addr)(len cap:Nat)(w:World)(hS:ST 101 B hd s b h w)(hm:len<=maxLen)(hF:sf z len≠0): Calls prog 45 #[.pointer (some ⟨B,0,none⟩),.agg (aA z a len cap)] w (jv 101 (Value.int .i64) B hd (sf z len,[],[],s,b,h) w):=by
 have d:=ki (T2.start w z a len cap);unfold aN at d;have k:=ki (fun W=>nI z a len cap W hm);have l:=ki (fun W (hb:Below w.heap.size w W)=>hS.kept hb);clear hS;generalize sf z len=E at hF k⊢;have o:(E != 0)=true:=by simpa using hF
 clear hF;go_enter func45,ntmps45;go_upto_region 1 with fail
 generalize (World.alloc _ _).alloc _=W0 at d⊢;go_wp2_with (first|(refine bB rfl (.tmp 3) rfl rfl d.o.1 ?_)|(go_at_call 50;refine(k.o _).mono ?_;rintro e p ⟨rfl,f⟩;replace d:=ki (d.o.kept f);clear f)|(refine aK rfl (.tmp 4) (.tmp 12) rfl rfl d.o.2.1 [] none 0 0 rfl ?_;intro q i g;have n:=ki (d.o.put g);replace i:=ki i;clear g d))
 try simp only[Exit.inBlock,Exit.then]
 refine bodyPost_ret (bS rfl _ _ (w.heap.size+1) [] none 0 0 rfl i.o) rfl ?_;exact⟨none,0,0,rfl,ku _,l.o _ n.o,cK.of n.o⟩
theorem Te(B:Nat)(hd:List Int)(s:Int)(b h:Bool)(z:List Int)(a:Option Addr)(len cap:Nat)(w:World)(hS:ST 101 B hd s b h w)(hm:len<=maxLen)(hF:sf z len=0)(h6:el z 0≠6): Calls prog 45 #[.pointer (some ⟨B,0,none⟩),.agg (aA z a len cap)] w (jv 101 (Value.int .i64) B hd (2,[],[],s,b,h) w):=by
 have d:=ki (T2.start w z a len cap);unfold aN at d;have k:=ki (fun W=>nI z a len cap W hm);rw[hF] at k;have l:=ki (fun W (hb:Below w.heap.size w W)=>hS.kept hb);have o:(el z 0 != 6)=true:=by simpa using h6
 clear hS hF h6;go_enter func45,ntmps45;go_upto_region 1 with fail
 generalize (World.alloc _ _).alloc _=W0 at d⊢;go_upto_region 4 with(first|(refine bB rfl (.tmp 3) rfl rfl d.o.1 ?_)|(go_at_call 50;refine(k.o _).mono ?_;rintro e p ⟨rfl,f⟩;replace d:=ki (d.o.kept f);clear f))
 have q:=d.o.1.c0;go_wp2_with (refine aK rfl (.tmp 4) (.tmp 17) rfl rfl d.o.2.1 [] none 0 0 rfl ?_;intro r i g;have n:=ki (d.o.put g);replace i:=ki i;clear g d)
 try simp only[Exit.inBlock,Exit.then]
 refine bodyPost_ret (bS rfl _ _ (w.heap.size+1) [] none 0 0 rfl i.o) rfl ?_;exact⟨none,0,0,rfl,ku _,l.o _ n.o,cK.of n.o⟩
theorem Tf(B:Nat)(hd:List Int)(s:Int)(b h:Bool)(z:List Int)(a:Option Addr)(len cap:Nat)(zs:List Int)(w:World)(hS:ST 101 B hd s b h w)(hs:0<=s∧s<4294967296)(hr:aj w a len cap zs)(hF:cf z len=0)(O:Int×List Int×List Int×Int×Bool×Bool)(hO:O=if b=false then (9,[],[],s,b,h) else if el z 5/16%2=0 then (0,z,zs,s,b,h) else if nX (el z 4) s=true then (0,nV z s,zs,s,b,h) else (0,z,zs,s,b,true)): Calls prog 45 #[.pointer (some ⟨B,0,none⟩),.agg (aA z a len cap)] w (jv 101 (Value.int .i64) B hd O w):=by
 have d:=ki (T2.start w z a len cap);unfold aN at d;have L:=ki (fun W=>nI z a len cap W hr.2.1);rw[BN hF] at L;obtain⟨M,hl,-,N,ai⟩:=qI hF;have e6:(el z 0 != 6)=false:=by rw[M];rfl
 have q:=ki (fun W=>BM s (el z 4) W hs.1 hs.2 N.1 (by omega));have k:=ki (fun W (hb:Below w.heap.size w W)=>hS.kept hb);have C:=ki (fun W (hb:Below w.heap.size w W)=>hr.below hb);have Q:=ki hS.lt;have r:el z 5/16%2=0∨el z 5/16%2=1:=by omega
 have i:=ki (show nX (el z 4) s=true↔(1<=md (s-el z 4)∧md (s-el z 4)<2147483648) from decide_eq_true_iff);have t:=sD (s-el z 4);generalize md (s-el z 4)=m at q i t;generalize nX (el z 4) s=A at hO i;clear hS hr hF N hl hs M;go_enter func45,ntmps45;go_upto_region 1 with fail
 generalize (World.alloc _ _).alloc _=W0 at d⊢;go_upto_region 4 with(first|(refine bB rfl (.tmp 3) rfl rfl d.o.1 ?_)|(go_at_call 50;refine(L.o _).mono ?_;rintro e w1 ⟨rfl,E⟩;replace d:=ki (d.o.kept E);clear E))
 have S:=ki (k.o _ d.o.2.2);obtain⟨x,n,c,p,-,-⟩:=S.o;have Z:=p.c2;have I:=p.c1;have l0:=d.o.1.c0;have nP:=d.o.1.c5;clear p S;cases b
 ·rw[if_pos rfl] at hO;have o:=ki hO;clear hO q r i t;go_wp2_with (refine aK rfl (.tmp 4) (.tmp 23) rfl rfl d.o.2.1 [] none 0 0 rfl ?_;intro J g f;have l:=ki (d.o.put f);replace g:=ki g;clear f d)
  try simp only[Exit.inBlock,Exit.then]
  refine bodyPost_ret (bS rfl _ _ (w.heap.size+1) [] none 0 0 rfl g.o) rfl ?_;rw[o.o];exact⟨none,0,0,rfl,ku _,k.o _ l.o,cK.of l.o⟩
 ·rw[if_neg (by decide)] at hO;rcases r with h16|h16
  ·rw[if_pos h16] at hO;have o:=ki hO;have F:(el z 5/16%2 == 0)=true:=by rw[h16];rfl
   have R:=ki (C.o _ d.o.2.2);clear hO h16 q i t;go_wp2_with (first|(refine bB rfl (.tmp 3) rfl rfl d.o.1 ?_)|(refine aK rfl (.tmp 4) (.tmp 29) rfl rfl d.o.2.1 z a len cap rfl ?_;intro J g f;have l:=ki (d.o.put f);replace R:=ki (R.o.past d.o.2.1 f);replace g:=ki g;clear f d))
   try simp only[Exit.inBlock,Exit.then]
   refine bodyPost_ret (bS rfl _ _ (w.heap.size+1) z a len cap rfl g.o) rfl ?_;rw[o.o];exact⟨a,len,cap,rfl,R.o,k.o _ l.o,cK.of l.o⟩
  ·rw[if_neg (by omega)] at hO;have F:(el z 5/16%2 == 0)=false:=by rw[h16];rfl
   clear h16;go_upto_region 10 with fail
   clear nP l0 Z F;have K:=d.o.1.c4;have G:=ki (fun n=>d.o.kept (W':=World.drewN _ n) ⟨rfl,rfl,rfl,Nat.le_refl _,fun _ _=>rfl⟩);clear d;go_quiet (first|(go_at_call 86;refine Calls.quiet_of_same (q.o _)))
   generalize hW:World.drewN _ _=W1;have d:Hid (T2 w z a len cap W1):=by rw[<-hW];exact G.o _
   clear hW G I K q;have R:=ki (C.o _ d.o.2.2);have S:=ki (k.o _ d.o.2.2);obtain⟨x,n,c,p,H,hn⟩:=S.o;have P:=ki p;have D:=ki H;clear p H S;cases A
   ·rw[if_neg (by decide)] at hO;have o:=ki hO;have k3:=P.o.c3;have f3:=P.o.aZ 3;have v:=P.o.nW true;have V:=ki ((d.o.three (B:=B)).turn P.o v.2.bu);replace R:=ki (R.o.bu P.o v.2.bu);replace D:=ki (D.o.bu P.o v.2.bu);replace P:=ki v.1;have T:¬(1<=m∧m<2147483648):=fun hx=>by have:=i.o.2 hx;cases this
    clear v hO d i;rcases (by omega:m<1∨2147483648<=m) with hm1|hm1;case' inl =>have U:¬1<=m:=by omega
    case' inr =>
     have U:1<=m:=by omega
     have j2:¬m<=2147483647:=by omega
    all_goals
     clear T hm1;go_upto_region 14 with fail
     clear k3 f3;generalize World.setCell _ _ _=W2 at V R D P⊢;go_wp2_with (first|(refine bB rfl (.tmp 3) rfl rfl V.o.1 ?_)|(refine aK rfl (.tmp 4) (.tmp 51) rfl rfl V.o.2.1 z a len cap rfl ?_;intro J g f;have HU:=ki (V.o.put f);replace R:=ki (R.o.past V.o.2.1 f);have X:=ki ((show ST 101 B hd s true true _ from⟨x,n,c,P.o,D.o,hn⟩).only V.o.2.1 f (by have:=Q.o;omega));replace g:=ki g;clear f V))
     try simp only[Exit.inBlock,Exit.then]
     refine bodyPost_ret (bS rfl _ _ (w.heap.size+1) z a len cap rfl g.o) rfl ?_;rw[o.o];exact⟨a,len,cap,rfl,R.o,X.o,HU.o⟩
   ·rw[if_pos rfl] at hO;have o:=ki hO;obtain⟨U,Y⟩:=i.o.1 rfl;have j2:m<=2147483647:=by omega
    have I:=P.o.c1;have K:=d.o.1.c4;have f4:=d.o.1.aZ 4;have y:=d.o.1.EO s;replace R:=ki (R.o.past d.o.1 y.2);replace d:=ki (d.o.turn y.1 y.2);clear y hO P D i Y;go_upto_region 14 with fail
    clear I K f4;generalize World.setCell _ _ _=W2 at d R⊢;go_wp2_with (first|(refine bB rfl (.tmp 3) rfl rfl d.o.1 ?_)|(refine aK rfl (.tmp 4) (.tmp 51) rfl rfl d.o.2.1 (nV z s) a len cap rfl ?_;intro J g f;have l:=ki (d.o.put f);replace R:=ki (R.o.past d.o.2.1 f);replace g:=ki g;clear f d))
    try simp only[Exit.inBlock,Exit.then]
    refine bodyPost_ret (bS rfl _ _ (w.heap.size+1) (nV z s) a len cap rfl g.o) rfl ?_;rw[o.o];exact⟨a,len,cap,rfl,R.o,k.o _ l.o,cK.of l.o⟩
theorem Tg(B:Nat)(hd:List Int)(s:Int)(b h:Bool)(z:List Int)(a:Option Addr)(len cap:Nat)(zs:List Int)(w:World)(hS:ST 101 B hd s b h w)(hs:0<=s∧s<4294967296)(hr:aj w a len cap zs): Calls prog 45 #[.pointer (some ⟨B,0,none⟩),.agg (aA z a len cap)] w (jv 101 (Value.int .i64) B hd (eF s b h z zs) w):=by
 have hl:=hr.1;by_cases hF:cf z len=0
 ·exact Tf B hd s b h z a len cap zs w hS hs hr hF _ (by unfold eF;rw[hl,if_neg (by rw[hF];decide)])
 ·rw[show eF s b h z zs=(cf z len,[],[],s,b,h) by unfold eF;rw[hl,if_pos hF]];by_cases hsf:sf z len=0
  ·have h6:el z 0≠6:=fun h6=>hF (by unfold cf;rw[if_neg (fun hx=>hx.2 h6)];exact hsf)
   rw[show cf z len=2 from if_pos ⟨hsf,h6⟩];exact Te B hd s b h z a len cap w hS hr.2.1 hsf h6
  ·rw[show cf z len=sf z len from if_neg (fun hx=>hsf hx.1)];exact Td B hd s b h z a len cap w hS hr.2.1 hsf
end
end Go.Proofs.YtgcojnlngchllaaGreatDoor
