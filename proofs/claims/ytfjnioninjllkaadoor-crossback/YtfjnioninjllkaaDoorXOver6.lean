/- seg.Over6, by contracts. -/
import Derived.Test.YtfjnioninjllkaaDoorSgOver
import Derived.Deep.RegionHeld3
import Derived.Deep.DrawnRows
namespace Go.Proofs.YtfjnioninjllkaaDoor
open Go.RowKit
attribute [local go_sem ↓] Go.wp_at_zero Go.wp_at_succ
theorem at_load6 {ops : Array Oper} {rest : List Oper} {o : Oper} {f : Act} {w : World} {Q : Exit → Act → World → Prop} (hgd : o.guard = none) (x : Operand) (ho : o.op = .load 23 x)
    {B : Nat} {z : List Int} (hx : f.eval x = .pointer (some ⟨B, 0, none⟩)) (p : SixIn B z w)
    (hK : wpList Tryd.prog ops Q rest (f.put o.dst (.agg (sixC z))) w) : wpList Tryd.prog ops Q (o :: rest) f w :=
  wpList_load_row hgd 23 x ho B hx 23 _ (0, 0) _ p Tryd.underlying23 rfl (by kernel_rfl) hK
/-- append onto a slice of bytes of the call's own, as a step of a region that draws its order. -/
theorem step_app {w : World} {ops : Array Oper} {o : Oper} {a : Act} {K : Act → World → Prop} {Q : Exit → Act → World → Prop} {E : Prop} (hgd : o.guard = none) (s x : Operand)
    (ho : o.op = .call { callee := .builtin .append, args := #[s, x], argTypes := #[24, 24] })
    (base : Nat) (v : Value) (zs : List Int) (hs : a.eval s = v) (hown : Own base w v zs) (ao : Option Addr) (hao : ∃ ad, ao = some ad) (len cap : Nat) (ys : List Int) (n : Nat) (hn : (zs ++ ys).length = n)
    (hx : a.eval x = .slice ao len cap) (hrow : Row8 w ao len cap ys) (hlen : zs.length + len ≤ 1000000000) (hbase : base ≤ w.heap.size)
    (h : ∀ a' c' w', Own base w' (.slice a' n c') (zs ++ ys) → w.grownBy w' v.ownBlock → K (a.put o.dst (.slice a' n c')) w') : if Region.wanted o (yielded ops a.tmps) = true then Oper.wp Tryd.prog o a w K Q else E := by
  have hw : Region.wanted o (yielded ops a.tmps) = true := by simp [Region.wanted, hgd]
  rw [if_pos hw]
  obtain ⟨ad, rfl⟩ := hao
  obtain ⟨i0, hi, hz0, hz1, hz2⟩ := info_parts Tryd.infoByte
  obtain ⟨r1, r2, r3, r4, r5⟩ := hrow
  refine wp_append_own w s x 24 ho base 5 i0 (.int .u8 0) 1 1 Tryd.underlying24 hi hz0 hz1 hz2 rfl (by decide) v zs.length _ hs hown.2 ad len cap (ys.map (Value.int .u8)) hx (by simp [r1]) ?_ (ints_oneCell .u8 ys) (by unfold maxLen; omega) (by omega) hbase ?_
  · intro j u hu
    have hj : j < ys.length := by
      have := (List.getElem?_eq_some_iff.1 hu).1
      simpa using this
    obtain ⟨b, off, h6, h7⟩ := r5 (by omega)
    have hc := h7 j (by omega)
    obtain rfl : ad = ⟨b, off, none⟩ := by simpa using h6
    have e : (⟨b, off, none⟩ : Addr).add j = ⟨b, off + j, none⟩ := by unfold Addr.add; split <;> simp_all
    rw [e, hc]
    rw [List.getElem?_map] at hu
    simp [hj] at hu ⊢
    exact hu
  · intro v' w' h1 h2 _
    have ho : Own base w' v' (zs ++ ys) := by
      refine ⟨SM.oct_append _ _ hown.1 r3, ?_⟩
      rw [List.map_append, List.length_append, r1]
      exact h1
    obtain ⟨a', c', e, _, _⟩ := ho.row8
    rw [hn] at e
    rw [e] at ho ⊢
    exact h a' c' w' ho h2
/-- an address's load, held shut for a walk. -/
def hload (x : Value) : Sem Value := Instr.loadAt 23 x
theorem hload_shut (x : Value) : Instr.loadAt 23 x = hload x := rfl
theorem nb2 (x : Int) (h0 : 0 ≤ x) (h1 : x ≤ 65535) : nb 2 x = [x / 256, x % 256] := by
  show [x / 256 ^ 1 % 256, x / 256 ^ 0 % 256] = _
  rw [show x / 256 ^ 1 % 256 = x / 256 by omega, show x / 256 ^ 0 % 256 = x % 256 by omega]
theorem six_al (z : List Int) (w : World) : SixIn w.heap.size z (w.alloc (.cells (sixC z) 23)) := six_new z w
theorem six_al2 (z : List Int) (w : World) (o : Obj) : SixIn (w.heap.size + 1) z ((w.alloc o).alloc (.cells (sixC z) 23)) := by
  have := six_al z (w.alloc o)
  rw [World.size_alloc] at this
  exact this
theorem abytes_own (z : List Int) (w : World) (hz : Ok6 z) : Calls Tryd.prog 29 #[.agg (sixC z)] w fun e w' => ∃ a c, e = .returned (.tuple #[.slice a 16 c, .nilIface]) ∧ Gr w w' (.slice a 16 c) (by16 z 8) := by
  refine (bytes_ok z w hz).mono ?_
  rintro e w' ⟨v, rfl, ho, hb⟩
  have ho' : Own w.heap.size w' v (by16 z 8) := ⟨oct_by16 z hz 8 (by omega), by
    unfold OwnG u8s at ho
    rw [List.length_map] at ho
    exact ho⟩
  obtain ⟨a, c, hv, hr, _⟩ := ho'.row8
  rw [by16_len] at hv
  subst hv
  exact ⟨a, c, rfl, ho', hb⟩
theorem abytes_bad (z : List Int) (w : World) (hz : ¬ Ok6 z) : Calls Tryd.prog 29 #[.agg (sixC z)] w fun e w' => e = .returned (.tuple #[.slice none 0 0, .iface 29 (.int .i64 1)]) ∧ Below w.heap.size w w' := bytes_bad z w hz
set_option maxRecDepth 100000 in
set_option maxHeartbeats 2000000 in
theorem over6_any (s d : List Int) (k n : Int) (w : World) (hs : Ok6 s) (hd : Ok6 d) (R : Int) (E : Value) (hO : ∀ W0 W v, Gr W0 W v (by16 s 8 ++ by16 d 8) → Calls Tryd.prog 30 #[v, .int .i64 k, .int .i64 n] W fun e w' => e = .returned (.tuple #[.int .i64 R, E]) ∧ Below W0.heap.size W0 w') :
    Calls Tryd.prog 12 #[.agg (sixC s), .agg (sixC d), .int .i64 k, .int .i64 n] w fun e w' => e = .returned (.tuple #[.int .i64 R, E]) ∧ Below w.heap.size w w' := by
  have HS := hide (fun w => abytes_own s w hs)
  have HD := hide (fun w => abytes_own d w hd)
  have HO := hide hO
  have HLs := hide (by16_len s 8)
  clear hs hd hO
  generalize by16 s 8 = S at HS HO HLs
  generalize by16 d 8 = D at HD HO
  have b1 := al_below w (.cells (sixC s) 23)
  have b2 := al_below (w.alloc (.cells (sixC s) 23)) (.cells (sixC d) 23)
  have HB := hide (bt b1 b2)
  have P1 := hide ((six_al s w).kept b2)
  have P2 := hide (six_al2 d w (.cells (sixC s) 23))
  clear b1 b2
  go_enter Tryd.func12, Tryd.ntmps12
  go_upto_region 1 with fail
  generalize (w.alloc (.cells (sixC s) 23)).alloc (.cells (sixC d) 23) = W at HB P1 P2 ⊢
  go_upto_region 4 with (first
    | (refine at_load6 rfl (.tmp 4) rfl rfl P1.out ?_)
    | (go_at_call 29; (with_reducible refine (HS.out _).mono ?_); rintro e w1 ⟨a1, c1, rfl, hg1⟩; replace hg1 := hide hg1))
  replace P2 := hide (P2.out.kept hg1.out.2)
  go_upto_region 7 with (first
    | (refine at_load6 rfl (.tmp 5) rfl rfl P2.out ?_)
    | (go_at_call 29; (with_reducible refine (HD.out _).mono ?_); rintro e w2 ⟨a2, c2, rfl, hg2⟩; replace hg1 := hide (hg1.out.below hg2.2); replace hg2 := hide hg2))
  go_wp2_with (first
    | (at_builtin; refine gr_app rfl (.tmp 29) (.tmp 30) rfl rfl hg1.out rfl hg2.out.1.toRow (by rw [HLs.out]; omega) ?_; intro v3 w3 hg3; replace hg3 := hide hg3)
    | (go_at_call 30; refine (HO.out _ _ _ hg3.out).mono ?_; rintro e w4 ⟨rfl, hb4⟩; replace HB := hide (HB.out.trans (hb4.mono HB.out.size)); clear hb4))
  go_ret2
  exact ⟨rfl, HB.out⟩
set_option maxRecDepth 100000 in
set_option maxHeartbeats 2000000 in
theorem over6_bad (s d : List Int) (k n : Int) (w : World) (h : ¬ (Ok6 s ∧ Ok6 d)) :
    Calls Tryd.prog 12 #[.agg (sixC s), .agg (sixC d), .int .i64 k, .int .i64 n] w fun e w' => e = .returned (.tuple #[.int .i64 0, err 1]) ∧ Below w.heap.size w w' := by
  unfold err
  have b1 := al_below w (.cells (sixC s) 23)
  have b2 := al_below (w.alloc (.cells (sixC s) 23)) (.cells (sixC d) 23)
  have HB := hide (bt b1 b2)
  have P1 := hide ((six_al s w).kept b2)
  have P2 := hide (six_al2 d w (.cells (sixC s) 23))
  clear b1 b2
  by_cases hs : Ok6 s
  · have hd : ¬ Ok6 d := fun hd => h ⟨hs, hd⟩
    have HS := hide (fun w => abytes_own s w hs)
    have HD := hide (fun w => abytes_bad d w hd)
    clear hs hd h
    generalize by16 s 8 = S at HS
    go_enter Tryd.func12, Tryd.ntmps12
    go_upto_region 1 with fail
    generalize (w.alloc (.cells (sixC s) 23)).alloc (.cells (sixC d) 23) = W at HB P1 P2 ⊢
    go_upto_region 4 with (first
      | (refine at_load6 rfl (.tmp 4) rfl rfl P1.out ?_)
      | (go_at_call 29; (with_reducible refine (HS.out _).mono ?_); rintro e w1 ⟨a1, c1, rfl, hg1⟩; replace hg1 := hide hg1))
    replace P2 := hide (P2.out.kept hg1.out.2)
    replace HB := hide (bt HB.out hg1.out.2)
    go_wp2_with (first
      | (refine at_load6 rfl (.tmp 5) rfl rfl P2.out ?_)
      | (go_at_call 29; (with_reducible refine (HD.out _).mono ?_); rintro e w2 ⟨rfl, hb2⟩; replace HB := hide (bt HB.out hb2); clear hb2))
    go_ret2
    exact ⟨rfl, HB.out⟩
  · have HS := hide (fun w => abytes_bad s w hs)
    clear hs h
    go_enter Tryd.func12, Tryd.ntmps12
    go_upto_region 1 with fail
    generalize (w.alloc (.cells (sixC s) 23)).alloc (.cells (sixC d) 23) = W at HB P1 P2 ⊢
    go_wp2_with (first
      | (refine at_load6 rfl (.tmp 4) rfl rfl P1.out ?_)
      | (go_at_call 29; (with_reducible refine (HS.out _).mono ?_); rintro e w1 ⟨rfl, hb1⟩; replace HB := hide (bt HB.out hb1); clear hb1))
    go_ret2
    exact ⟨rfl, HB.out⟩
theorem SixIn.hl {B : Nat} {z : List Int} {w : World} (p : SixIn B z w) : (hload (.pointer (some ⟨B, 0, none⟩))).run Tryd.prog w = .ok (.agg (sixC z)) w :=
  run_loadAt_mid w B 0 23 (sixC z).toList _ (fun j v hv => by
    rw [Nat.zero_add]
    have hj : j < 8 := (List.getElem?_eq_some_iff.1 hv).1
    rw [(p.facts j hj).1]
    rcases (by omega : j = 0 ∨ j = 1 ∨ j = 2 ∨ j = 3 ∨ j = 4 ∨ j = 5 ∨ j = 6 ∨ j = 7) with rfl | rfl | rfl | rfl | rfl | rfl | rfl | rfl <;> exact hv) Tryd.underlying23 rfl (by kernel_rfl)
end Go.Proofs.YtfjnioninjllkaaDoor
