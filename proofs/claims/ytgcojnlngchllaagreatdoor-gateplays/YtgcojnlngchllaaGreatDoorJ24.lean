import Derived.Test.YtgcojnlngchllaaGreatDoorJ03
namespace Go.Proofs.YtgcojnlngchllaaGreatDoor
open Go.RowKit Tryz
set_option linter.unusedVariables false
section
theorem aj.only{B:Nat}{w w':World}(h:Only B w w'){g n c:Nat}{zs:List Int}(hg:g≠B)(r:aj w (some ⟨g,0,none⟩) n c zs):aj w' (some ⟨g,0,none⟩) n c zs:=by
 refine⟨r.1,r.2.1,r.2.2.1,r.2.2.2.1,fun hp=>?_⟩;obtain⟨b,a,e,hc⟩:=r.2.2.2.2 hp;refine⟨b,a,e,fun i hi=>?_⟩;injection e with e;injection e with e1 e2
 have:=hc i hi;rw[<-this];unfold World.cell?;rw[h.2.2.2.2 b (by rw[<-e1];exact hg)]
end
section
theorem wz(xs:List Int)(hx:SM.Oct xs)(n:Nat):SM.Oct (xs.drop n):=by
 intro i;have:(xs.drop n).getD i 0=xs.getD (n+i) 0:=by simp only[List.getD_eq_getElem?_getD,List.getElem?_drop]
 rw[this];exact hx _
theorem RJ(k:Int):8<=hn k:=by unfold hn;split<;>omega
end
end Go.Proofs.YtgcojnlngchllaaGreatDoor
