import Derived.Test.YtgcojnlngchllaaGreatDoorJ08
namespace Go.Proofs.YtgcojnlngchllaaGreatDoor
open Go.RowKit Tryz
set_option linter.unusedVariables false
set_option maxRecDepth 100000
set_option maxHeartbeats 40000000
section
theorem T2.all{w:World}{z:List Int}{a:Option Addr}{len cap:Nat}{W W':World}(t:T2 w z a len cap W){z':List Int}{a':Option Addr}{len' cap':Nat}(p:aG w.heap.size z' a' len' cap' W')(on:Only w.heap.size W W'):T2 w z' a' len' cap' W':=t.turn p on
attribute [local go_sem ↓] jg
theorem MJ(B:Nat)(hd:List Int)(s:Int)(b h:Bool)(z:List Int)(a:Option Addr)(len cap:Nat)(zs:List Int)(w:World)(hS:ST 304 B hd s b h w)(hr:aj w a len cap zs)(hF:cf z len≠0): Calls prog 154 #[.pointer (some ⟨B,0,none⟩),.agg (aA z a len cap)] w (jv 304 ev B hd (cf z len,[],[],s,b,h) w):=by
 have d:=ki (T2.start w z a len cap);unfold aN at d;have f:=ki (fun W=>wW z a len cap W hr.2.1);have n:=ki (fun W (hb:Below w.heap.size w W)=>hS.kept hb);clear hS hr;generalize cf z len=F at hF f⊢;have k:=ki (show ev F=err F from if_neg hF);rw[k.o] at f;unfold err at f k;clear hF;go_enter func154,ntmps154;go_upto_region 1 with fail
 generalize (World.alloc _ _).alloc _=W0 at d⊢;go_wp2_with (first|(refine bB rfl (.tmp 3) rfl rfl d.o.1 ?_)|(go_at_call 203;refine(f.o _).mono ?_;rintro e p ⟨rfl,g⟩;replace d:=ki (d.o.kept g);clear g)|(refine aK rfl (.tmp 4) (.tmp 11) rfl rfl d.o.2.1 [] none 0 0 rfl ?_;intro q l i;have o:=ki (d.o.put i);replace l:=ki l;clear i d))
 try simp only[Exit.inBlock,Exit.then]
 refine bodyPost_ret (bS rfl _ _ (w.heap.size+1) [] none 0 0 rfl l.o) rfl ?_;exact⟨none,0,0,by rw[k.o];rfl,ku _,n.o _ o.o,cK.of o.o⟩
theorem MK(B:Nat)(hd:List Int)(s:Int)(b h:Bool)(z:List Int)(a:Option Addr)(len cap:Nat)(zs:List Int)(w:World)(hS:ST 304 B hd s b h w)(hs:0<=s∧s<4294967296)(hr:aj w a len cap zs)(hF:cf z len=0)(O:Int×List Int×List Int×Int×Bool×Bool)(hO:O=if b=false then (9,[],[],s,b,h) else if el z 5/16%2=0 then (0,z,zs,s,b,h) else if nX (el z 4) s=true then (0,nV z s,zs,s,b,h) else (0,z,zs,s,b,true)): Calls prog 154 #[.pointer (some ⟨B,0,none⟩),.agg (aA z a len cap)] w (jv 304 ev B hd O w):=by
 have d:=ki (T2.start w z a len cap);unfold aN at d;have M:=ki (fun W=>wW z a len cap W hr.2.1);rw[hF,show ev 0=.nilIface from rfl] at M;obtain⟨-,hl,-,U,r⟩:=qI hF;have t:=ki (fun W (h2:aj W a len cap zs)=>Al z a len cap zs W h2 (by omega));have v:=ki (fun W=>Mx (el z 4) s W U.1 (by omega) hs.1 hs.2);have l:=ki (fun W (hb:Below w.heap.size w W)=>hS.kept hb);have HR:=ki (fun W (hb:Below w.heap.size w W)=>hr.below hb);have X:=ki hS.lt;have F:=MF (el z 5) r.1 r.2;have y:el z 5/16%2=0∨el z 5/16%2=1:=by omega
 clear hS hr hF U r hl hs;go_enter func154,ntmps154;go_upto_region 1 with fail
 generalize (World.alloc _ _).alloc _=W0 at d⊢;go_upto_region 4 with(first|(refine bB rfl (.tmp 3) rfl rfl d.o.1 ?_)|(go_at_call 203;refine(M.o _).mono ?_;rintro e w1 ⟨rfl,H⟩;replace d:=ki (d.o.kept H);clear H))
 have S:=ki (l.o _ d.o.2.2);obtain⟨x,n,c,p,-,-⟩:=S.o;have k2:=p.c2;clear p;cases b
 ·rw[if_pos rfl] at hO;have q:=ki hO;clear hO t v y F;go_wp2_with (refine aK rfl (.tmp 4) (.tmp 18) rfl rfl d.o.2.1 [] none 0 0 rfl ?_;intro N i f;have o:=ki (d.o.put f);replace i:=ki i;clear f d)
  try simp only[Exit.inBlock,Exit.then]
  refine bodyPost_ret (bS rfl _ _ (w.heap.size+1) [] none 0 0 rfl i.o) rfl ?_;rw[q.o];exact⟨none,0,0,rfl,ku _,l.o _ o.o,cK.of o.o⟩
 ·rw[if_neg (by decide)] at hO;have R:=ki (HR.o _ d.o.2.2);clear S;go_upto_region 7 with(first|(refine bB rfl (.tmp 3) rfl rfl d.o.1 ?_)|(go_at_call 206;refine(t.o _ R.o).mono ?_;rintro e w2 ⟨k,c2,rfl,g,I⟩;replace d:=ki (d.o.kept I);replace g:=ki g;clear I R k2)|(refine aK rfl (.tmp 3) (.tmp 21) rfl rfl d.o.1 z k len c2 rfl ?_;intro w3 Y C;replace g:=ki (g.o.past d.o.1 C);replace d:=ki (d.o.all Y C);clear C Y))
  clear M t;have nP:=d.o.1.c5;rcases y with h16|h16
  ·rw[if_neg (by omega)] at F;rw[if_pos h16] at hO;have q:=ki hO;clear hO h16 v;go_wp2_with (first|(refine bB rfl (.tmp 3) rfl rfl d.o.1 ?_)|(refine aK rfl (.tmp 4) (.tmp 26) rfl rfl d.o.2.1 z k len c2 rfl ?_;intro N i f;have o:=ki (d.o.put f);replace g:=ki (g.o.past d.o.2.1 f);replace i:=ki i;clear f d))
   try simp only[Exit.inBlock,Exit.then]
   refine bodyPost_ret (bS rfl _ _ (w.heap.size+1) z k len c2 rfl i.o) rfl ?_;rw[q.o];exact⟨k,len,c2,rfl,g.o,l.o _ o.o,cK.of o.o⟩
  ·rw[if_pos h16] at F;rw[if_neg (by omega)] at hO;clear h16;go_upto_region 9 with fail
   clear nP F;have S:=ki (l.o _ d.o.2.2);obtain⟨x,n,c,p,-,-⟩:=S.o;have Q:=p.c1;have T:=d.o.1.c4;have J:=ki (fun n=>d.o.kept (W':=World.drewN _ n) ⟨rfl,rfl,rfl,Nat.le_refl _,fun _ _=>rfl⟩);have K:=ki (fun n=>g.o.below (w':=World.drewN _ n) ⟨rfl,rfl,rfl,Nat.le_refl _,fun _ _=>rfl⟩);generalize nX (el z 4) s=A at hO v;clear p S d g;go_quiet (first|(go_at_call 219;refine Calls.quiet_of_same (v.o _)))
   generalize hW:World.drewN _ _=W1;have d:Hid (T2 w z k len c2 W1):=by rw[<-hW];exact J.o _
   have g:Hid (aj W1 k len c2 zs):=by rw[<-hW];exact K.o _
   clear hW J K Q T v;have S:=ki (l.o _ d.o.2.2);obtain⟨x,n,c,p,L,hn⟩:=S.o;have P:=ki p;have D:=ki L;clear p L S;cases A
   ·rw[if_neg (by decide)] at hO;have q:=ki hO;have k3:=P.o.c3;have f3:=P.o.aZ 3;have E:=P.o.nW true;have V:=ki ((d.o.three (B:=B)).turn P.o E.2.bu);replace g:=ki (g.o.bu P.o E.2.bu);replace D:=ki (D.o.bu P.o E.2.bu);replace P:=ki E.1;clear E hO d;go_upto_region 13 with fail
    clear k3 f3;generalize World.setCell _ _ _=W2 at V g D P⊢;go_wp2_with (first|(refine bB rfl (.tmp 3) rfl rfl V.o.1 ?_)|(refine aK rfl (.tmp 4) (.tmp 43) rfl rfl V.o.2.1 z k len c2 rfl ?_;intro N i f;have HU:=ki (V.o.put f);replace g:=ki (g.o.past V.o.2.1 f);have Z:=ki ((show ST 304 B hd s true true _ from⟨x,n,c,P.o,D.o,hn⟩).only V.o.2.1 f (by have:=X.o;omega));replace i:=ki i;clear f V))
    try simp only[Exit.inBlock,Exit.then]
    refine bodyPost_ret (bS rfl _ _ (w.heap.size+1) z k len c2 rfl i.o) rfl ?_;rw[q.o];exact⟨k,len,c2,rfl,g.o,Z.o,HU.o⟩
   ·rw[if_pos rfl] at hO;have q:=ki hO;have Q:=P.o.c1;have T:=d.o.1.c4;have f4:=d.o.1.aZ 4;have G:=d.o.1.EO s;replace g:=ki (g.o.past d.o.1 G.2);replace d:=ki (d.o.turn G.1 G.2);clear G hO P D;go_upto_region 11 with fail
    clear Q T f4;generalize World.setCell _ _ _=W2 at d g⊢;go_wp2_with (first|(refine bB rfl (.tmp 3) rfl rfl d.o.1 ?_)|(refine aK rfl (.tmp 4) (.tmp 39) rfl rfl d.o.2.1 (nV z s) k len c2 rfl ?_;intro N i f;have o:=ki (d.o.put f);replace g:=ki (g.o.past d.o.2.1 f);replace i:=ki i;clear f d))
    try simp only[Exit.inBlock,Exit.then]
    refine bodyPost_ret (bS rfl _ _ (w.heap.size+1) (nV z s) k len c2 rfl i.o) rfl ?_;rw[q.o];exact⟨k,len,c2,rfl,g.o,l.o _ o.o,cK.of o.o⟩
theorem ML(B:Nat)(hd:List Int)(s:Int)(b h:Bool)(z:List Int)(a:Option Addr)(len cap:Nat)(zs:List Int)(w:World)(hS:ST 304 B hd s b h w)(hs:0<=s∧s<4294967296)(hr:aj w a len cap zs): Calls prog 154 #[.pointer (some ⟨B,0,none⟩),.agg (aA z a len cap)] w (jv 304 ev B hd (eF s b h z zs) w):=by
 have hl:=hr.1;by_cases hF:cf z len=0
 ·exact MK B hd s b h z a len cap zs w hS hs hr hF _ (by unfold eF;rw[hl,if_neg (by rw[hF];decide)])
 ·have:=MJ B hd s b h z a len cap zs w hS hr hF;rw[show eF s b h z zs=(cf z len,[],[],s,b,h) by unfold eF;rw[hl,if_pos hF]];exact this
end
end Go.Proofs.YtgcojnlngchllaaGreatDoor
