/- The statement's function ProxyBack returns true, whatever the flows and the bytes (no more than a slice that comes in may hold), if package proxy keeps what is asked of it. -/
import Derived.Test.YtdeofopandobhaaDoorYkP
import Derived.Test.YtdeofopandobhaaDoorYkG
import Derived.Test.YtdeofopandobhaaDoorYkK
import Derived.Test.YtdeofopandobhaaDoorPkT
namespace Go.Proofs.YtdeofopandobhaaDoor
open Go.RowKit

/-- what is kept. -/
def KB (w : World) (f g : List Int) (a : Option Addr) (len cap : Nat) (zs : List Int) (W : World) : Prop := Laid0 W ∧ FlIn w.heap.size f W ∧ FlIn (w.heap.size + 1) g W ∧ Row8 W a len cap zs ∧ Below w.heap.size w W
theorem KB.kept {w : World} {f g : List Int} {a : Option Addr} {len cap : Nat} {zs : List Int} {W W' : World} (h : KB w f g a len cap zs W) (hb : Below W.heap.size W W') : KB w f g a len cap zs W' := ⟨h.1.below hb, h.2.1.kept hb, h.2.2.1.kept hb, h.2.2.2.1.below hb, bt h.2.2.2.2 hb⟩
theorem kb_new {w : World} (f g : List Int) {a : Option Addr} {len cap : Nat} {zs : List Int} (hg : Laid0 w) (h : Row8 w a len cap zs) : KB w f g a len cap zs ((w.alloc (.cells (flC f) 25)).alloc (.cells (flC g) 25)) := by
  have b1 := al_below w (.cells (flC f) 25)
  have b2 := al_below (w.alloc (.cells (flC f) 25)) (.cells (flC g) 25)
  have hz := fl_new g (w.alloc (.cells (flC f) 25))
  rw [World.size_alloc] at hz
  exact ⟨(hg.below b1).below b2, (fl_new f w).kept b2, hz, (h.below b1).below b2, bt b1 b2⟩
def fB : List Int := [6, 0, 0, 0, 0, 0, 0, 0, 0, 258]
theorem fblB (w : World) : (fbl #[(0, .int .i64 6), (2, .int .i64 258)]).run Tryd.prog w = .ok (.agg (flC fB)) w := by kernel_rfl
theorem okB : okf fB = true := by decide
theorem eqf_self (f : List Int) : eqf f f = true := (eqf_iff f f).2 rfl
theorem headS (g n ca q : Nat) (hq : q ≤ ca) (w : World) : (slq 26 (.slice (some ⟨g, 0, none⟩) n ca) none (some (.int .i64 (q : Int))) none).run Tryd.prog w = .ok (.slice (some ⟨g, 0, none⟩) q ca) w := by
  have j1 : (q : Int) ≤ (ca : Int) := by omega
  have u := Tryd.underlying26
  have z := Tryd.sizeOf5
  unfold slq
  go_simp
/-- append(v, x...) where v is the call's own, of as many bytes as a slice may come in with. -/
theorem wpList_appx {w : World} {ops : Array Oper} {rest : List Oper} {o : Oper} {a : Act} {Q : Exit → Act → World → Prop} (hgd : o.guard = none) (s x : Operand)
    (ho : o.op = .call { callee := .builtin .append, args := #[s, x], argTypes := #[26, 26] })
    (base : Nat) (v : Value) (zs : List Int) (hs : a.eval s = v) (hown : Own base w v zs) (ao : Option Addr) (len cap : Nat) (ys : List Int)
    (hx : a.eval x = .slice ao len cap) (hrow : Row8 w ao len cap ys) (hlen : zs.length + len ≤ 140737488355328) (hbase : base ≤ w.heap.size)
    (h : ∀ v' w', Own base w' v' (zs ++ ys) → w.grownBy w' v.ownBlock → wpList Tryd.prog ops Q rest (a.put o.dst v') w') : wpList Tryd.prog ops Q (o :: rest) a w := by
  obtain ⟨i0, hi, hz0, hz1, hz2⟩ := info_parts Tryd.infoByte
  obtain ⟨r1, r2, r3, r4, r5⟩ := hrow
  cases ao with
  | none =>
    obtain ⟨rfl, rfl⟩ := r4 rfl
    have : ys = [] := List.eq_nil_of_length_eq_zero r1
    subst this
    refine wpList_append_own_none hgd s x 26 ho base 5 i0 1 Tryd.underlying26 hi v zs.length _ hs hown.2 hx ?_
    exact h v w (by simpa using hown) (World.grownBy.refl _ _)
  | some ad =>
    refine wpList_append_own _ hgd s x 26 ho base 5 i0 (.int .u8 0) 1 1 Tryd.underlying26 hi hz0 hz1 hz2 rfl (by decide) v zs.length _ hs hown.2 ad len cap (ys.map (Value.int .u8)) hx (by simp [r1]) ?_ (ints_oneCell .u8 ys) (by unfold maxLen; omega) (by omega) hbase ?_
    · intro j u hu
      have hj : j < ys.length := by have := (List.getElem?_eq_some_iff.1 hu).1; simpa using this
      obtain ⟨b, off, h6, h7⟩ := r5 (by omega)
      have hc := h7 j (by omega)
      obtain rfl : ad = ⟨b, off, none⟩ := by simpa using h6
      rw [add_pl, hc]
      rw [List.getElem?_map] at hu
      simp [hj] at hu ⊢
      exact hu
    · intro v' w' h1 h2 _
      refine h v' w' ⟨SM.oct_append _ _ hown.1 r3, ?_⟩ h2
      rw [List.map_append, List.length_append, r1]
      exact h1
attribute [local go_sem ↓] fload_shut feq_shut slq_shut fbl_shut
set_option maxRecDepth 100000 in
set_option maxHeartbeats 8000000 in
theorem proxyback_walk (hE : JYe) (hD : JYd) (f g : List Int) (a : Option Addr) (len cap : Nat) (zs : List Int) (cut : Int) (w : World) (hg : Laid0 w) (hr : Row8 w a len cap zs) (hlen : len ≤ 140737488351232) (hc0 : -9223372036854775808 ≤ cut) (hc1 : cut ≤ 9223372036854775807) :
    Calls Tryd.prog 4 #[.agg (flC f), .agg (flC g), .slice a len cap, .int .i64 cut] w fun e w' => e = .returned (.bool true) ∧ Below w.heap.size w w' := by
  have HK := hide (kb_new f g hg hr)
  have PB := hide (fun W => hE fB W)
  rw [okB, show fe true = 0 from rfl, show ev 0 = .nilIface from rfl] at PB
  have Pf := hide (fun W => hE f W)
  have Pg := hide (fun W => hE g W)
  have HDd := hide hD
  have fb := fblB
  have HZ := hide fl_zero
  unfold zero19 at HZ
  clear hE hD hg hr
  go_enter Tryd.func4, Tryd.ntmps4
  go_upto_region 1 with fail
  generalize (w.alloc _).alloc _ = W at HK ⊢
  go_upto_region 2 with (go_at_call 7; refine (PB.out _).mono ?_; rintro r w1 ⟨v1, rfl, o1, -, hb1⟩; replace HK := hide (HK.out.kept hb1); obtain ⟨b1, k1, rfl, -, -, -, -, r1⟩ := (o1 (by simp)).form (by rw [hb_len]; decide); rw [hb_len] at r1 ⊢; clear o1 hb1)
  have HR1 := hide (show ∀ j, j < 52 → w1.cell? ⟨b1, 0 + j, none⟩ = some (.int .u8 ((hb fB).getD j 0)) by obtain ⟨b, o, e, hc⟩ := r1.2.2.2.2 (by decide); cases e; exact hc)
  have c0 : w1.cell? ⟨b1, 0, none⟩ = some (.int .u8 13) := HR1.out 0 (by decide)
  have c48 : w1.cell? ⟨b1, 48, none⟩ = some (.int .u8 1) := HR1.out 48 (by decide)
  have c49 : w1.cell? ⟨b1, 49, none⟩ = some (.int .u8 2) := HR1.out 49 (by decide)
  clear r1 HR1 PB fb
  go_upto_region 4 with fail
  clear c0 c48 c49
  have g1 := HK.out.2.1.fl
  cases hf : okf f
  case false =>
    rw [hf, show ev (fe false) = .iface 27 (.int .i64 1) from rfl] at Pf
    go_wp2_with (go_at_call 7; refine (Pf.out _).mono ?_; rintro r w2 ⟨v2, rfl, -, h2, hb2⟩; replace HK := hide (HK.out.kept hb2); clear h2 hb2 g1)
    go_ret
    exact ⟨rfl, HK.out.2.2.2.2⟩
  case true =>
    rw [hf, show ev (fe true) = .nilIface from rfl] at Pf
    go_upto_region 7 with (go_at_call 7; refine (Pf.out _).mono ?_; rintro r w2 ⟨v2, rfl, o2, -, hb2⟩; replace HK := hide (HK.out.kept hb2); obtain ⟨b2, k2, rfl, kl, km, -, -, r2⟩ := (o2 (by simp)).form (by rw [hb_len]; decide); rw [hb_len] at r2 kl ⊢; replace r2 := hide r2; clear o2 hb2 g1)
    clear Pf
    have g1 := HK.out.2.2.1.fl
    have HX := hide (hb_oct hf)
    have HL := hide (hb_len f)
    have HYa := hide (ydo_hb hf zs)
    have HYc := hide (fun q (hq : q < 52) => ydo_cut f hq)
    have HGo := hide (fun h => hb_oct (f := g) h)
    have HIn := hide (fun h => hb_inj hf (g := g) h)
    have HLg := hide (hb_len g)
    clear hf
    generalize hb f = X at r2 HX HL HYa HYc HIn
    generalize hb g = Z at Pg HGo HIn HLg
    generalize okf g = ok at Pg HGo HIn
    cases ok
    case' false =>
      rw [show ev (fe false) = .iface 27 (.int .i64 1) from rfl] at Pg
      go_upto_region 8 with (go_at_call 7; refine (Pg.out _).mono ?_; rintro r w3 ⟨v3, rfl, -, h3, hb3⟩; obtain rfl := h3 (by simp); replace HK := hide (HK.out.kept hb3); replace r2 := hide (r2.out.below hb3); clear hb3 g1)
      clear Pg HGo HIn HLg
      have HKn := hide (show ∀ n, KB w f g a len cap zs (w3.drewN n) ∧ Row8 (w3.drewN n) (some ⟨b2, 0, none⟩) 52 k2 X from fun n => ⟨HK.out.kept ⟨rfl, rfl, rfl, Nat.le_refl _, fun _ _ => rfl⟩, r2.out.drewN n⟩)
      clear HK r2
      go_quiet (fail)
      obtain ⟨HK, r2⟩ := HKn.out nq
      replace HK := hide HK
      replace r2 := hide r2
      generalize w3.drewN nq = w4 at HK r2 ⊢
      clear HKn
      go_upto_region 11 with fail
    case' true =>
      rw [show ev (fe true) = .nilIface from rfl] at Pg
      go_upto_region 8 with (go_at_call 7; refine (Pg.out _).mono ?_; rintro r w3 ⟨v3, rfl, o3, -, hb3⟩; replace HK := hide (HK.out.kept hb3); replace r2 := hide (r2.out.below hb3); obtain ⟨b3, k3, rfl, -, -, -, -, r3⟩ := (o3 (by simp)).form (by rw [HLg.out]; decide); rw [HLg.out] at r3 ⊢; clear o3 hb3 g1)
      have hq := str8_eq HX.out (HGo.out (by simp)) (eqf f g) (HIn.out (by simp))
      have qk := feq_run f g
      generalize eqf f g = bb at hq qk
      have qb : (bb != bb) = false := by cases bb <;> rfl
      have v1 := fun n => conv8 (r2.out.drewN n)
      have v2 := fun n => conv8 (r3.drewN n)
      have l1 := fun n => (show FlIn w.heap.size f (w3.drewN n) from HK.out.2.1).fl
      have l2 := fun n => (show FlIn (w.heap.size + 1) g (w3.drewN n) from HK.out.2.2.1).fl
      clear Pg HGo HIn HLg r3
      have HKn := hide (show ∀ n, KB w f g a len cap zs (w3.drewN n) ∧ Row8 (w3.drewN n) (some ⟨b2, 0, none⟩) 52 k2 X from fun n => ⟨HK.out.kept ⟨rfl, rfl, rfl, Nat.le_refl _, fun _ _ => rfl⟩, r2.out.drewN n⟩)
      clear HK r2
      go_quiet (fail)
      obtain ⟨HK, r2⟩ := HKn.out nq
      replace HK := hide HK
      replace r2 := hide r2
      clear v1 v2 l1 l2 qk hq
      generalize w3.drewN nq = w4 at HK r2 ⊢
      clear HKn
      go_upto_region 11 with fail
    all_goals
      have HB := hide (Below.refl w4.heap.size w4)
      have HL1 := hide (show ([] : List Int).length + 52 ≤ 1000000000 by decide)
      have HL2 := hide (show X.length + len ≤ 140737488355328 by rw [HL.out]; omega)
      go_upto_region 12 with (at_builtin; (with_reducible refine wpList_app rfl (.tmp 74) (.tmp 75) rfl w4.heap.size (.slice none 0 0) [] rfl (Own.nil _ _) (some ⟨b2, 0, none⟩) 52 k2 X rfl r2.out HL1.out (Nat.le_refl _) ?_); intro v5 w5 o5 g5; replace HB := hide (HB.out.grown g5 (Nat.le_refl _) (fun k e => by simp [Value.ownBlock] at e)); replace o5 := hide (show Own w4.heap.size w5 v5 X from o5); clear g5 HL1)
      have HR5 := hide (HK.out.2.2.2.1.below HB.out)
      go_upto_region 13 with (at_builtin; (with_reducible refine wpList_appx rfl (.tmp 77) (.tmp 78) rfl w4.heap.size v5 X rfl o5.out a len cap zs rfl HR5.out HL2.out HB.out.size ?_); intro v6 w6 o6 g6; replace HB := hide (HB.out.grown g6 HB.out.size o5.out.bl); replace o6 := hide o6; clear g6 o5 HR5 HL2)
      replace HK := hide (HK.out.kept HB.out)
      replace r2 := hide (r2.out.below HB.out)
      obtain ⟨b6, k6, rfl, kl6, km6, -, -, r6⟩ := o6.out.form (by rw [List.length_append, HL.out]; omega)
      obtain ⟨G, hy, hG⟩ := HYa.out
      have P2 := hide (show ∀ W, Row8 W (some ⟨b6, 0, none⟩) (X ++ zs).length k6 (X ++ zs) → Calls Tryd.prog 10 #[.slice (some ⟨b6, 0, none⟩) (X ++ zs).length k6] W fun e w' => e = .returned (.tuple #[.agg (flC f), .int .i64 52, .nilIface]) ∧ Below W.heap.size W w' from fun W hW => by
        have := HDd.out _ _ _ _ W hW kl6 km6
        rw [hy] at this
        rw [← hG]
        exact this)
      clear kl6 km6 hy hG o6 HB HYa
      replace r6 := hide r6
      generalize (X ++ zs).length = n6 at P2 r6 ⊢
      generalize X ++ zs = A6 at P2 r6
      go_upto_region 14 with (first
        | (go_at_call 10; refine (P2.out _ r6.out).mono ?_; rintro r w7 ⟨rfl, hb7⟩; replace HK := hide (HK.out.kept hb7); replace r2 := hide (r2.out.below hb7); clear hb7 r6)
        | (refine at_storef rfl (.tmp 15) (.tmp 83) rfl rfl (HZ.out w7) f rfl ?_; intro w8 p8 on8; have hb8 := new_below _ on8; replace HK := hide (HK.out.kept hb8); replace r2 := hide (r2.out.below hb8); replace p8 := hide p8; clear on8 hb8))
      generalize w7.heap.size = D1 at p8 ⊢
      have l1 := p8.out.fl
      have l2 := HK.out.2.1.fl
      have qk := feq_run f f
      rw [eqf_self] at qk
      go_upto_region 16 with fail
      clear l1 l2 qk p8 P2
      have P3 := hide (show ∀ m W, m < 52 → Row8 W (some ⟨b2, 0, none⟩) 52 k2 X → Calls Tryd.prog 10 #[.slice (some ⟨b2, 0, none⟩) m k2] W fun e w' => e = .returned (.tuple #[.agg (flC []), .int .i64 0, ev 5]) ∧ Below W.heap.size W w' from fun m W hm hW => by
        have := HDd.out _ _ _ _ W (row_take hW m k2 (by omega)) (by omega) km
        rw [HYc.out m hm] at this
        exact this)
      have T5 := hide (tells_ev 5)
      generalize ev 5 = v9 at P3 T5
      have HHs := hide (fun m (hm : m < 52) => headS b2 52 k2 m (by omega))
      go_upto_region 17 with (first
        | (go_at_call 11; refine (pick_any cut 52 _ hc0 hc1 (by decide) (by decide)).mono ?_; rintro r wp ⟨m, hm, rfl, rfl⟩; have hS := HHs.out m hm)
        | (go_at_call 10; refine (P3.out m _ hm r2.out).mono ?_; rintro r w9 ⟨rfl, hb9⟩; replace HK := hide (HK.out.kept hb9); clear hb9 hS))
      go_wp2_with (go_at_call 8; refine (T5.out _ HK.out.1).mono ?_; rintro r w10 ⟨rfl, hb10⟩; replace HK := hide (HK.out.kept hb10); clear hb10)
      go_ret
      exact ⟨rfl, HK.out.2.2.2.2⟩
end Go.Proofs.YtdeofopandobhaaDoor
