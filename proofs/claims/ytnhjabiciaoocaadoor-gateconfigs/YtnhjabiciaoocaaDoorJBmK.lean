/- those: the binds that are wanted, by their ports. All; a bind is dropped. -/
import Derived.Test.YtnhjabiciaoocaaDoorJSgEnc
import Derived.Test.YtnhjabiciaoocaaDoorJBmD
import Derived.Test.YtnhjabiciaoocaaDoorBmJ
import Derived.Deep.MidRow
import Derived.Laws.ResultCell
import Derived.Deep.CutBlock
import Derived.Deep.QuietTactic
import Derived.OwnWalk
import Derived.Deep.RegionHeld3
import Derived.Deep.DrawnRows
import Derived.Laws.StructEq
import Derived.Laws.AppendOwnNone
import Derived.Maps.AppendAt
import Derived.Maps.RangeWalk
import Derived.Test.YtnhjabiciaoocaaDoorProg
import Derived.WalkKit
import Derived.LaidEql
import Derived.Stop.Asserts
import Derived.RowKitTokens
import Derived.Test.YtnhjabiciaoocaaDoorShelf
import Derived.Shelf.Abstract
import Derived.BigQuiet
import Derived.Below
import Derived.Laws.MakeOwn
import Derived.Deep.RegionLaw
namespace Go.Proofs.YtnhjabiciaoocaaDoor
open Go.RowKit
theorem map_cons {rs : List (List Int)} {p : Value × Value} {rem : List (Value × Value)} (h : (rs.map fE).Perm (p :: rem)) : ∃ b rs', rs.Perm (b :: rs') ∧ p = fE b ∧ rem.Perm (rs'.map fE) := by
  obtain ⟨b, hb, rfl⟩ := List.mem_map.1 (h.mem_iff.2 (List.mem_cons_self ..))
  have hp := List.perm_cons_erase hb
  refine ⟨b, rs.erase b, hp, rfl, ?_⟩
  exact (h.symm.trans (hp.map fE)).cons_inv
/-- what is kept in the loop. -/
def KT (w : World) (T P F N : Nat) (bs rs : List (List Int)) (v : Value) (l : List (List Int)) (W : World) : Prop := TBl T P F N W ∧ MR isF F w.heap.size (bs.map fE) (rs.map fE) W ∧ OwB (w.heap.size + 1) W v l ∧ Below w.heap.size w W ∧ F < w.heap.size ∧ T < w.heap.size ∧ w.heap.size + 1 ≤ W.heap.size
theorem KT.kept {w : World} {T P F N : Nat} {bs rs : List (List Int)} {v : Value} {l : List (List Int)} {W W' : World} (h : KT w T P F N bs rs v l W) (hb : Below W.heap.size W W') : KT w T P F N bs rs v l W' := by
  obtain ⟨k1, k2, k3, k4, k5, k6, k7⟩ := h
  have hs := k4.size
  exact ⟨(hb.block T (by omega)).trans k1, k2.same (hb.block F k2.lt.1) (hb.block _ k2.lt.2), owns_same k3 (fun g e => hb.block g (owns_lt k3 g e).1), bt k4 hb, k5, k6, Nat.le_trans k7 hb.size⟩
theorem KT.grown {w : World} {T P F N : Nat} {bs rs : List (List Int)} {v v' : Value} {l l' : List (List Int)} {W W' : World} (h : KT w T P F N bs rs v l W) (hg : W.grownBy W' v.ownBlock) (ho : OwB (w.heap.size + 1) W' v' l') : KT w T P F N bs rs v' l' W' := by
  obtain ⟨k1, k2, k3, k4, k5, k6, k7⟩ := h
  have hs := k4.size
  have hv : ∀ g, some g = v.ownBlock → w.heap.size + 1 ≤ g := fun g e => (owns_lt k3 g e.symm).2
  refine ⟨(hg.block T (by omega) (fun e => by have := hv T e; omega)).trans k1, k2.same (hg.block F k2.lt.1 (fun e => by have := hv F e; omega)) (hg.block _ k2.lt.2 (fun e => by have := hv _ e; omega)), ho, k4.grown hg hs (fun k e => by have := hv k e.symm; omega), k5, k6, Nat.le_trans k7 hg.size⟩
theorem KT.next {w : World} {T P F N : Nat} {bs rs rs' : List (List Int)} {v : Value} {l : List (List Int)} {W W' : World} {rem : List (Value × Value)} (h : KT w T P F N bs rs v l W) (on : Only w.heap.size W W') (hm : MR isF F w.heap.size (bs.map fE) rem W') (hp : rem.Perm (rs'.map fE)) : KT w T P F N bs rs' v l W' := by
  obtain ⟨k1, k2, k3, k4, k5, k6, k7⟩ := h
  exact ⟨(on.2.2.2.2 T (by omega)).trans k1, hm.perm hp, owns_same k3 (fun g e => on.2.2.2.2 g (by have := (owns_lt k3 g e).2; omega)), on.below k4 (Nat.le_refl _), k5, k6, by rw [on.2.2.2.1]; exact k7⟩
attribute [local go_sem ↓] bload_shut bsl_shut
set_option maxRecDepth 100000 in
set_option maxHeartbeats 4000000 in
theorem those_any (T P F N : Nat) (bs : List (List Int)) (g : Nat) (lb : Array Value) (p : List Int → Bool) (w : World) (ht : TBl T P F N w) (hf : MP isF F (bs.map fE) w) (hl : bs.length ≤ 128)
    (eg : ∀ args w, (callFunc g args).run Tryd.prog w = .ok (.enter g args) w)
    (hp : ∀ b ∈ bs, ∀ W, Below w.heap.size w W → Calls Tryd.prog g (#[.agg (bdC b)] ++ lb) W fun e w' => e = .returned (.bool (p b)) ∧ Below W.heap.size W w') :
    Calls Tryd.prog 36 #[.pointer (some ⟨T, 0, none⟩), .func (.func g) #[] lb] w fun e w' => ∃ v l, e = .returned v ∧ l.Perm (bs.filter p) ∧ l.Pairwise (fun a b => ¬ el b 19 < el a 19) ∧ BdRow (w.heap.size + 1) w' v l ∧ Below w.heap.size w w' := by
  have c1 := ht.c1
  have HK0 := hide (show ∀ W, MR isF F w.heap.size (bs.map fE) (bs.map fE) W → Below w.heap.size w W → KT w T P F N bs bs (.slice none 0 0) [] W from fun W h1 h2 => ⟨(h2.block T ht.lt).trans ht, h1, OwB.nil _ _, h2, hf.lt, ht.lt, h1.lt.2⟩)
  have HF := hide hf
  have HP := hide hp
  have HL := hide hl
  clear ht hf hp hl
  go_enter Tryd.func36, Tryd.ntmps36
  go_wp2_with (at_range; refine at_rng rfl (.tmp 11) 79 rfl _ _ Tryd.mapF F (bs.map fE) rfl HF.out ?_; intro w0 r0 b0; have HK := hide (HK0.out w0 r0 b0); clear r0 b0)
  go_frame
  clear c1 HF HK0
  go_loopw [5] (fun v wr => ∃ ds rs l, Hid ((ds ++ rs).Perm bs) ∧ Hid (l = ds.filter p) ∧ Hid (KT w T P F N bs rs v l wr)) (fun _ wr => wr.rangeLeft F w.heap.size)
  case atStart => exact ⟨[], bs, [], hide (List.Perm.refl _), hide rfl, HK⟩
  case round =>
    clear HK
    obtain ⟨ds, rs, l, HD, HF, HK⟩ := hrel
    go_wp2_with (at_next; refine at_nxt rfl (.tmp 12) rfl F w.heap.size (bs.map fE) (rs.map fE) rfl HK.out.2.1 ?_ ?_)
    · intro hnil
      have hrs : rs = [] := by first | exact hnil | exact List.map_eq_nil_iff.1 hnil
      subst hrs
      clear hnil
      have HN := hide (show l.length ≤ 1000 by
        have h1 := HD.out.length_eq
        have h2 := List.length_filter_le p ds
        rw [HF.out]
        have := HL.out
        simp at h1
        omega)
      have HS := hide (sort_any (w.heap.size + 1) u5 l wr HK.out.2.2.1 HK.out.2.2.2.2.2.2 HN.out)
      have HB := hide HK.out.2.2.2.1
      have HPm := hide (show l.Perm (bs.filter p) by rw [HF.out]; have := HD.out; rw [List.append_nil] at this; exact this.filter p)
      clear HK HD HF HP
      go_wp2_with (go_at_call 43; refine HS.out.mono ?_; rintro e w5 ⟨rfl, l', q1, q2, q3, q4⟩; have HE := hide (And.intro (q1.trans HPm.out) (And.intro q2 (And.intro q3 (HB.out.trans ⟨q4.os, q4.tape, q4.output, q4.size, fun k hk => q4.block k (by omega)⟩)))); clear q1 q2 q3 q4)
      go_ret
      exact ⟨u5, rfl, l', HE.out⟩
    · intro key v0 rem' w1 hpm hmr hon hen
      obtain ⟨b, rs', hp1, hp2, hp3⟩ := map_cons hpm
      unfold fE at hp2
      injection hp2 with e1 e2
      subst e1 e2
      have HK1 := hide (HK.out.next hon hmr hp3)
      have HR := hide hp1
      have HLf := hide (show wr.rangeLeft F w.heap.size = rs.length by have := HK.out.2.1.left; simpa using this)
      have HMb := hide (show b ∈ bs from HD.out.mem_iff.1 (List.mem_append_right _ (hp1.mem_iff.2 (List.mem_cons_self ..))))
      have HPd := hide (show (ds ++ [b] ++ rs').Perm bs by rw [List.append_assoc]; exact ((hp1.append_left ds).symm).trans HD.out)
      have HLn := hide (show l.length + 1 ≤ 1000000 by
        have h1 := HD.out.length_eq
        have h2 := List.length_filter_le p ds
        rw [HF.out]
        have := HL.out
        simp at h1
        omega)
      have HS := hide (bd_zero w1)
      unfold zero23 at HS
      clear HK HD hpm hmr hon hp1 hp3
      go_upto_region 5 with (refine at_storeb rfl (.tmp 7) (.tmp 16) rfl rfl HS.out b rfl ?_; intro w2 p2 on2; have HK2 := hide (HK1.out.kept (new_below _ on2)); replace p2 := hide p2; clear on2)
      clear hen HS HK1
      generalize w1.heap.size = D at p2 ⊢
      have gb := p2.out.bl
      have HC := hide (HP.out b HMb.out w2 HK2.out.2.2.2.1)
      cases hpb : p b
      · rw [hpb] at HC
        have HFl := hide (show l = (ds ++ [b]).filter p by rw [HF.out, List.filter_append]; simp [hpb])
        clear hpb
        go_wp2_with (go_at_fn g; refine HC.out.mono ?_; rintro e w3 ⟨rfl, hb3⟩; have HK3 := hide (HK2.out.kept hb3); clear hb3)
        go_roundw
        case rel => exact ⟨ds ++ [b], rs', l, HPd, HFl, HK3⟩
        case measure =>
          have h1 := HK3.out.2.1.left
          have h2 := HR.out.length_eq
          rw [HLf.out, h1, h2]
          simp
      · rw [hpb] at HC
        have HFl := hide (show l ++ [b] = (ds ++ [b]).filter p by rw [HF.out, List.filter_append]; simp [hpb])
        clear hpb
        go_upto_region 6 with (go_at_fn g; refine HC.out.mono ?_; rintro e w3 ⟨rfl, hb3⟩; have HK3 := hide (HK2.out.kept hb3); replace p2 := hide (p2.out.kept hb3); clear hb3)
        clear gb HC HK2
        have gx := p2.out.bl
        have hbs := bsl_run b w3
        have hb4 := al_below w3 (.cells (bdC b) 87)
        have HK4 := hide (HK3.out.kept hb4)
        have H1 := hide (one_new b w3)
        have H2 := hide HK4.out.2.2.1
        have H3 := hide HK4.out.2.2.2.2.2.2
        clear hb4 HK3
        go_wp2_with (at_builtin; (with_reducible refine ap_B rfl (.tmp 20) (.tmp 22) rfl (w.heap.size + 1) u5 l rfl H2.out ⟨w3.heap.size, 0, none⟩ 1 1 [b] rfl rfl H1.out HLn.out H3.out ?_); intro v5 w5 o5 g5 n5; have HK5 := hide (HK4.out.grown g5 o5); clear o5 g5 n5 H1 H2 H3 HK4)
        go_roundw
        case rel => exact ⟨ds ++ [b], rs', l ++ [b], HPd, HFl, HK5⟩
        case measure =>
          have h1 := HK5.out.2.1.left
          have h2 := HR.out.length_eq
          rw [HLf.out, h1, h2]
          simp
end Go.Proofs.YtnhjabiciaoocaaDoor

namespace Go.Proofs.YtnhjabiciaoocaaDoor
open Go.RowKit
theorem sorted_one : ∀ (bs l : List (List Int)), l.Perm bs → l.Pairwise (fun a b => ¬ el b 19 < el a 19) → bs.Pairwise (fun a b => el a 19 < el b 19) → l = bs
  | [], l, hp, _, _ => hp.eq_nil
  | b :: r, [], hp, _, _ => by have := hp.length_eq; simp at this
  | b :: r, a :: l, hp, h1, h2 => by
    rw [List.pairwise_cons] at h1 h2
    rcases List.mem_cons.1 (hp.mem_iff.1 (List.mem_cons_self ..)) with rfl | ha
    · rw [sorted_one r l hp.cons_inv h1.2 h2.2]
    · rcases List.mem_cons.1 (hp.symm.mem_iff.1 (List.mem_cons_self ..)) with rfl | hb
      · rw [sorted_one r l hp.cons_inv h1.2 h2.2]
      · exact absurd (h2.1 a ha) (h1.1 b hb)
set_option maxRecDepth 100000 in
theorem yes_any (b : List Int) (W : World) : Calls Tryd.prog 37 #[.agg (bdC b)] W fun e w' => e = .returned (.bool true) ∧ Below W.heap.size W w' := by
  have HB := hide (al_below W (.cells (bdC b) 87))
  go_enter Tryd.func37, Tryd.ntmps37
  go_wp2
  go_ret
  exact ⟨rfl, HB.out⟩
set_option maxRecDepth 100000 in
theorem tb_all : RAll TB := by
  rintro v m ws ts bs O w hm hl hb ⟨T, P, BB, F, N, ow, rfl, h, ha, rfl⟩
  have HT := hide (those_any T P F N bs 37 #[] (fun _ => true) w h.1 h.2.2.1 hl (enters_of Tryd.func37 (by kernel_rfl) rfl) (fun b _ W _ => yes_any b W))
  have HS := hide hb.2.1
  clear h ha hb hm hl
  go_enter Tryd.func25, Tryd.ntmps25
  go_wp2_with (go_at_call 36; refine HT.out.mono ?_; rintro e w' ⟨v, l, rfl, h1, h2, h3, h4⟩; have HE := hide (show BdRow 0 w' v bs ∧ Below w.heap.size w w' by
    rw [show bs.filter (fun _ => true) = bs from List.filter_eq_self.2 (fun _ _ => rfl)] at h1
    have := sorted_one bs l h1 h2 HS.out
    subst this
    exact ⟨h3.weak, h4⟩); clear h1 h2 h3 h4)
  go_ret
  exact ⟨v, rfl, HE.out⟩
/-- strikes, held shut for a walk. -/
def fdl (ty : TypeId) (m k : Value) : Sem Value := Builtin.delete_ #[79, 85] ty #[m, k]
theorem fdl_shut (ty : TypeId) (m k : Value) : Builtin.delete_ #[79, 85] ty #[m, k] = fdl ty m k := rfl
def pdl (ty : TypeId) (m k : Value) : Sem Value := Builtin.delete_ #[80, 3] ty #[m, k]
theorem pdl_shut (ty : TypeId) (m k : Value) : Builtin.delete_ #[80, 3] ty #[m, k] = pdl ty m k := rfl
attribute [local go_sem ↓] fload_shut fdl_shut pdl_shut
end Go.Proofs.YtnhjabiciaoocaaDoor
