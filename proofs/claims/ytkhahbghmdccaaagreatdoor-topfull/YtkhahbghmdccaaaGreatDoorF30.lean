/- Binds sorted by their ports: cmp.Compare, the closure, slices.SortFunc. those: the binds that are wanted, by their ports. All; a bind is dropped. -/
import Derived.Test.YtkhahbghmdccaaaGreatDoorF23
import Derived.Deep.MidRow
import Derived.Laws.ResultCell
import Derived.Deep.CutBlock
import Derived.Deep.QuietTactic
import Derived.OwnWalk
import Derived.Deep.RegionHeld3
import Derived.Deep.DrawnRows
import Derived.Laws.StructEq
import Derived.Laws.AppendOwnNone
import Derived.Maps.AppendAt
import Derived.Maps.RangeWalk
import Derived.Test.YtkhahbghmdccaaaGreatDoorProg
import Derived.WalkKit
import Derived.LaidEql
import Derived.Stop.Asserts
import Derived.RowKitTokens
import Derived.Test.YtkhahbghmdccaaaGreatDoorShelf
import Derived.BigQuiet
import Derived.Below
import Derived.Laws.MakeOwn
import Derived.Deep.RegionLaw
import Derived.Test.YtkhahbghmdccaaaGreatDoorF27
import Derived.Shelf.Abstract
import Derived.Test.YtkhahbghmdccaaaGreatDoorF29
namespace Go.Proofs.YtkhahbghmdccaaaGreatDoor
open Go.RowKit
open Go.Sort (SWO PermIn SortedIn HoldsK flatK grow)
def cpi (x y : Int) : Int := if x < y then -1 else if y < x then 1 else 0
theorem isnan_any (x : Int) (w : World) : Calls Tryz.prog 199 #[.int .i64 x] w fun e w' => e = .returned (.bool false) ∧ w' = w := by
  have h : (x != x) = false := by simp
  go_enter Tryz.func199, Tryz.ntmps199
  go_wp2
  go_ret
  exact ⟨rfl, rfl⟩
set_option maxRecDepth 100000 in
theorem compare_any (x y : Int) (w : World) : Calls Tryz.prog 164 #[.int .i64 x, .int .i64 y] w fun e w' => e = .returned (.int .i64 (cpi x y)) ∧ w' = w := by
  have H := hide (fun z W => isnan_any z W)
  have HC := hide (show cpi x y = if x < y then -1 else if y < x then 1 else 0 from rfl)
  generalize cpi x y = r at HC ⊢
  by_cases h1 : x < y
  · have d1 : decide (x < y) = true := decide_eq_true h1
    have HX := hide (show r = -1 by rw [HC.out, if_pos h1])
    clear h1
    go_enter Tryz.func164, Tryz.ntmps164
    go_wp2_with (go_at_call 199; refine (H.out _ _).mono ?_; rintro e w' ⟨rfl, rfl⟩)
    go_ret
    exact ⟨by rw [HX.out]; rfl, rfl⟩
  · have d1 : decide (x < y) = false := decide_eq_false h1
    by_cases h2 : y < x
    · have d2 : decide (y < x) = true := decide_eq_true h2
      have HX := hide (show r = 1 by rw [HC.out, if_neg h1, if_pos h2])
      clear h1 h2
      go_enter Tryz.func164, Tryz.ntmps164
      go_wp2_with (go_at_call 199; refine (H.out _ _).mono ?_; rintro e w' ⟨rfl, rfl⟩)
      go_ret
      exact ⟨by rw [HX.out]; rfl, rfl⟩
    · have d2 : decide (y < x) = false := decide_eq_false h2
      have HX := hide (show r = 0 by rw [HC.out, if_neg h1, if_neg h2])
      clear h1 h2
      go_enter Tryz.func164, Tryz.ntmps164
      go_wp2_with (go_at_call 199; refine (H.out _ _).mono ?_; rintro e w' ⟨rfl, rfl⟩)
      go_ret
      exact ⟨by rw [HX.out]; rfl, rfl⟩
def cfb (x y : List Int) : Int := cpi (el x 19) (el y 19)
theorem lt_cfb (x y : List Int) : ltOf cfb x y = decide (el x 19 < el y 19) := by
  unfold ltOf cfb cpi
  by_cases h1 : el x 19 < el y 19
  · simp [h1]
  · by_cases h2 : el y 19 < el x 19 <;> simp [h1, h2]
theorem swo_cfb : SWO (ltOf cfb) := {
  irrefl := fun x => by rw [lt_cfb]; simp
  trans := fun x y z h1 h2 => by rw [lt_cfb] at *; simp at *; omega
  ntrans := fun x y z h1 h2 => by rw [lt_cfb] at *; simp at *; omega }
set_option maxRecDepth 100000 in
set_option maxHeartbeats 1000000 in
theorem closure_any (x y : List Int) (W : World) : Calls Tryz.prog 163 #[.agg (bdC x), .agg (bdC y)] W fun e w' => e = .returned (.int .i64 (cfb x y)) ∧ ∃ q os', w' = grow (W.drewN q) os' := by
  have H := hide (fun w => compare_any (el x 19) (el y 19) w)
  have HX := hide (show cfb x y = cpi (el x 19) (el y 19) from rfl)
  have p1 := (bd_new x W).kept (al_below (W.alloc (.cells (bdC x) 75)) (.cells (bdC y) 75))
  have p2 := bd_new y (W.alloc (.cells (bdC x) 75))
  rw [World.size_alloc] at p2
  have c1 := p1.cell 19 (by omega)
  have c2 := p2.cell 19 (by omega)
  have HW := hide (show (W.alloc (.cells (bdC x) 75)).alloc (.cells (bdC y) 75) = grow (W.drewN 0) (#[.cells (bdC x) 75] ++ #[.cells (bdC y) 75]) by rw [Go.Sort.alloc_eq_grow, Go.Sort.alloc_eq_grow, Go.Sort.grow_grow]; rfl)
  clear p1 p2
  generalize cfb x y = r at HX ⊢
  generalize el x 19 = a at *
  generalize el y 19 = b at *
  go_enter Tryz.func163, Tryz.ntmps163
  go_upto_region 1 with fail
  generalize (W.alloc _).alloc _ = W2 at HW c1 c2 ⊢
  go_wp2_with (go_at_call 164; refine (H.out _).mono ?_; rintro e w' ⟨rfl, rfl⟩)
  go_ret
  exact ⟨by rw [HX.out]; rfl, 0, _, HW.out⟩
def encB (b : List Int) : List Value := (bdC b).toList
theorem getA (l : List (List Int)) (i : Nat) : (l.toArray)[i]! = l.getD i [] := by
  rw [List.getD_eq_getElem?_getD]
  simp
  rfl
theorem enc_at (b : List Int) (j : Nat) (hj : j < 23) : (encB b)[j]! = .int .i64 (el b j) := by
  have h := bdC_at b j hj
  unfold encB
  rw [List.getElem!_eq_getElem?_getD]
  rw [show (bdC b).toList[j]? = some (.int .i64 (el b j)) by simpa using h]
  rfl
theorem OwB.holds {base : Nat} {w : World} {g n cap : Nat} {l : List (List Int)} (h : OwB base w (.slice (some ⟨g, 0, none⟩) n cap) l) : HoldsK encB 23 w g 0 l.toArray := by
  intro j hj
  rw [Go.Sort.size_flatK] at hj
  have hl : j < l.length * 23 := by simpa using hj
  refine ⟨?_, h.frozen _⟩
  rw [Go.Sort.get_flatK _ _ _ _ hj, getA, enc_at _ _ (Nat.mod_lt _ (by omega)), Nat.zero_add]
  have := h.cell (j / 23) (j % 23) (by omega) (by omega)
  rw [show j / 23 * 23 + j % 23 = j by omega] at this
  exact this
theorem holds_row {w : World} {g : Nat} {l : List (List Int)} (h : HoldsK encB 23 w g 0 l.toArray) (k : Nat) (hk : k < l.length) : w.rangeAt g (0 + k * 23) (bdC (l.getD k [])).toList := by
  intro j v hv
  have hj : j < 23 := (List.getElem?_eq_some_iff.1 hv).1
  have h1 := (Go.Sort.HoldsK.cell h (i := k) (c := j) (by simpa using hk) hj).1
  rw [getA, enc_at _ _ hj] at h1
  rw [h1, ← bdC_at (l.getD k []) j hj]
  simpa using hv
theorem sort_below {base : Nat} {w : World} {g n : Nat} {d : Array (List Int)} {os : Array Obj} (hb : base ≤ w.heap.size) (hg : base ≤ g) : Below base w (sortWorldK encB 23 w g 0 n d os) := by
  refine ⟨rfl, rfl, rfl, ?_, fun k hk => ?_⟩
  · unfold sortWorldK Go.Sort.putRowK
    simp [Go.Sort.putRow, Go.Sort.mapBlock, Go.Sort.ahead, Go.Sort.grow]
  · unfold sortWorldK Go.Sort.putRowK
    have hne : g ≠ k := by omega
    rw [Go.Sort.heap_grow_old _ _ (by simp [Go.Sort.putRow, Go.Sort.mapBlock, Go.Sort.ahead]; omega)]
    simp [Go.Sort.putRow, Go.Sort.mapBlock, Go.Sort.ahead, Array.getElem?_modify, hne]
theorem encB_len (b : List Int) : (encB b).length = 23 := rfl
theorem encB_one (b : List Int) : ∀ v ∈ encB b, v.oneCell' = true := by
  intro v hv
  unfold encB bdC at hv
  simp at hv
  rcases hv with rfl | rfl | rfl | rfl | rfl | rfl | rfl | rfl | rfl | rfl | rfl | rfl | rfl | rfl | rfl | rfl | rfl | rfl | rfl | rfl | rfl | rfl | rfl <;> rfl
theorem sort_any (base : Nat) (v : Value) (l : List (List Int)) (w : World) (h : OwB base w v l) (hb : base ≤ w.heap.size) (hl : l.length ≤ 1000) :
    Calls Tryz.prog 162 #[v, .func (.func 163) #[] #[]] w fun e w' => e = .returned (.tuple #[]) ∧ ∃ l', l'.Perm l ∧ l'.Pairwise (fun a b => ¬ el b 19 < el a 19) ∧ BdRow base w' v l' ∧ Below base w w' := by
  cases l with
  | nil =>
    obtain ⟨ao, cap, rfl, _⟩ := h.shape
    have hc := AnyF.slices_SortFunc_none (P := Tryz.prog) (ρ := Tryz.sortB_ren) { Tryz.sortB with } ao cap (.func (.func 163) #[] #[]) w
    refine hc.mono ?_
    rintro e w' ⟨rfl, rfl⟩
    exact ⟨rfl, [], List.Perm.refl _, List.Pairwise.nil, h.bdrow, Below.refl _ _⟩
  | cons b r =>
    have hd := h
    obtain ⟨ao, cap, rfl, _, _, hg⟩ := h.shape
    obtain ⟨g, rfl⟩ := hg (by simp)
    have hlt := owns_lt h g rfl
    have eg : ∀ args w, (callFunc 163 args).run Tryz.prog w = .ok (.enter 163 args) w := enters_of Tryz.func163 (by kernel_rfl) rfl
    have hc := AnyQ.slices_SortFunc Tryz.sortB 23 Tryz.isAgg75 Tryz.sizeOf75 encB encB_len encB_one cfb swo_cfb 163 #[] g 0 cap (b :: r).toArray w eg (fun _ _ _ _ x y => closure_any x y _) h.holds hlt.1 (by simp at hl ⊢; omega)
    refine Calls.mono (show Calls Tryz.prog 162 #[.slice (some ⟨g, 0, none⟩) (b :: r).length cap, .func (.func 163) #[] #[]] w _ from hc) ?_
    rintro e w' ⟨rfl, d', n, os, hp, hs, rfl⟩
    have hsz : d'.size = (b :: r).length := hp.1
    have hpm : d'.toList.Perm (b :: r) := by
      have := hp.2.2
      rw [show (b :: r).toArray.size = (b :: r).length from rfl] at this
      have e1 : d'.extract 0 (b :: r).length = d' := by rw [← hsz]; exact Array.extract_size
      have e2 : (b :: r).toArray.extract 0 (b :: r).length = (b :: r).toArray := Array.extract_size
      rw [e1, e2] at this
      exact this
    refine ⟨rfl, d'.toList, hpm, ?_, ?_, sort_below hb hlt.2⟩
    · rw [List.pairwise_iff_getElem]
      intro i j hi hj hij
      have := hs i j (Nat.zero_le _) hij (by rw [show (b :: r).toArray.size = (b :: r).length from rfl, ← hsz]; simpa using hj)
      rw [lt_cfb] at this
      have g1 : d'[i]! = d'.toList[i] := by rw [getElem!_pos d' i (by simpa using hi)]; simp
      have g2 : d'[j]! = d'.toList[j] := by rw [getElem!_pos d' j (by simpa using hj)]; simp
      rw [g1, g2] at this
      simpa using this
    · have hH : HoldsK encB 23 (sortWorldK encB 23 w g 0 n d' os) g 0 d'.toList.toArray := by
        have := holdsK_sortWorldK_c encB 23 w g 0 (b :: r).toArray d' n os h.holds hlt.1 hsz
        simpa using this
      have hlen : d'.toList.length = (b :: r).length := by simpa using hsz
      refine ⟨some ⟨g, 0, none⟩, cap, by rw [hlen], fun _ => ⟨g, 0, rfl, ⟨hlt.2, ?_⟩, fun k hk => holds_row hH k hk⟩⟩
      exact Nat.lt_of_lt_of_le hlt.1 (sort_below (n := n) (d := d') (os := os) hb hlt.2).size
end Go.Proofs.YtkhahbghmdccaaaGreatDoor

namespace Go.Proofs.YtkhahbghmdccaaaGreatDoor
open Go.RowKit
theorem map_cons {rs : List (List Int)} {p : Value × Value} {rem : List (Value × Value)} (h : (rs.map fE).Perm (p :: rem)) : ∃ b rs', rs.Perm (b :: rs') ∧ p = fE b ∧ rem.Perm (rs'.map fE) := by
  obtain ⟨b, hb, rfl⟩ := List.mem_map.1 (h.mem_iff.2 (List.mem_cons_self ..))
  have hp := List.perm_cons_erase hb
  refine ⟨b, rs.erase b, hp, rfl, ?_⟩
  exact (h.symm.trans (hp.map fE)).cons_inv
def KT (w : World) (T P F N : Nat) (bs rs : List (List Int)) (v : Value) (l : List (List Int)) (W : World) : Prop := TBl T P F N W ∧ MR isF F w.heap.size (bs.map fE) (rs.map fE) W ∧ OwB (w.heap.size + 1) W v l ∧ Below w.heap.size w W ∧ F < w.heap.size ∧ T < w.heap.size ∧ w.heap.size + 1 ≤ W.heap.size
theorem KT.kept {w : World} {T P F N : Nat} {bs rs : List (List Int)} {v : Value} {l : List (List Int)} {W W' : World} (h : KT w T P F N bs rs v l W) (hb : Below W.heap.size W W') : KT w T P F N bs rs v l W' := by
  obtain ⟨k1, k2, k3, k4, k5, k6, k7⟩ := h
  have hs := k4.size
  exact ⟨(hb.block T (by omega)).trans k1, k2.same (hb.block F k2.lt.1) (hb.block _ k2.lt.2), owns_same k3 (fun g e => hb.block g (owns_lt k3 g e).1), bt k4 hb, k5, k6, Nat.le_trans k7 hb.size⟩
theorem KT.grown {w : World} {T P F N : Nat} {bs rs : List (List Int)} {v v' : Value} {l l' : List (List Int)} {W W' : World} (h : KT w T P F N bs rs v l W) (hg : W.grownBy W' v.ownBlock) (ho : OwB (w.heap.size + 1) W' v' l') : KT w T P F N bs rs v' l' W' := by
  obtain ⟨k1, k2, k3, k4, k5, k6, k7⟩ := h
  have hs := k4.size
  have hv : ∀ g, some g = v.ownBlock → w.heap.size + 1 ≤ g := fun g e => (owns_lt k3 g e.symm).2
  refine ⟨(hg.block T (by omega) (fun e => by have := hv T e; omega)).trans k1, k2.same (hg.block F k2.lt.1 (fun e => by have := hv F e; omega)) (hg.block _ k2.lt.2 (fun e => by have := hv _ e; omega)), ho, k4.grown hg hs (fun k e => by have := hv k e.symm; omega), k5, k6, Nat.le_trans k7 hg.size⟩
theorem KT.next {w : World} {T P F N : Nat} {bs rs rs' : List (List Int)} {v : Value} {l : List (List Int)} {W W' : World} {rem : List (Value × Value)} (h : KT w T P F N bs rs v l W) (on : Only w.heap.size W W') (hm : MR isF F w.heap.size (bs.map fE) rem W') (hp : rem.Perm (rs'.map fE)) : KT w T P F N bs rs' v l W' := by
  obtain ⟨k1, k2, k3, k4, k5, k6, k7⟩ := h
  exact ⟨(on.2.2.2.2 T (by omega)).trans k1, hm.perm hp, owns_same k3 (fun g e => on.2.2.2.2 g (by have := (owns_lt k3 g e).2; omega)), on.below k4 (Nat.le_refl _), k5, k6, by rw [on.2.2.2.1]; exact k7⟩
attribute [local go_sem ↓] bload_shut bsl_shut
set_option maxRecDepth 100000 in
set_option maxHeartbeats 4000000 in
theorem those_any (T P F N : Nat) (bs : List (List Int)) (g : Nat) (lb : Array Value) (p : List Int → Bool) (w : World) (ht : TBl T P F N w) (hf : MP isF F (bs.map fE) w) (hl : bs.length ≤ 128)
    (eg : ∀ args w, (callFunc g args).run Tryz.prog w = .ok (.enter g args) w)
    (hp : ∀ b ∈ bs, ∀ W, Below w.heap.size w W → Calls Tryz.prog g (#[.agg (bdC b)] ++ lb) W fun e w' => e = .returned (.bool (p b)) ∧ Below W.heap.size W w') :
    Calls Tryz.prog 114 #[.pointer (some ⟨T, 0, none⟩), .func (.func g) #[] lb] w fun e w' => ∃ v l, e = .returned v ∧ l.Perm (bs.filter p) ∧ l.Pairwise (fun a b => ¬ el b 19 < el a 19) ∧ BdRow (w.heap.size + 1) w' v l ∧ Below w.heap.size w w' := by
  have c1 := ht.c1
  have HK0 := hide (show ∀ W, MR isF F w.heap.size (bs.map fE) (bs.map fE) W → Below w.heap.size w W → KT w T P F N bs bs (.slice none 0 0) [] W from fun W h1 h2 => ⟨(h2.block T ht.lt).trans ht, h1, OwB.nil _ _, h2, hf.lt, ht.lt, h1.lt.2⟩)
  have HF := hide hf
  have HP := hide hp
  have HL := hide hl
  clear ht hf hp hl
  go_enter Tryz.func114, Tryz.ntmps114
  go_wp2_with (at_range; refine at_rng rfl (.tmp 11) 177 rfl _ _ Tryz.mapF F (bs.map fE) rfl HF.out ?_; intro w0 r0 b0; have HK := hide (HK0.out w0 r0 b0); clear r0 b0)
  go_frame
  clear c1 HF HK0
  go_loopw [5] (fun v wr => ∃ ds rs l, Hid ((ds ++ rs).Perm bs) ∧ Hid (l = ds.filter p) ∧ Hid (KT w T P F N bs rs v l wr)) (fun _ wr => wr.rangeLeft F w.heap.size)
  case atStart => exact ⟨[], bs, [], hide (List.Perm.refl _), hide rfl, HK⟩
  case round =>
    clear HK
    obtain ⟨ds, rs, l, HD, HF, HK⟩ := hrel
    go_wp2_with (at_next; refine at_nxt rfl (.tmp 12) rfl F w.heap.size (bs.map fE) (rs.map fE) rfl HK.out.2.1 ?_ ?_)
    · intro hnil
      have hrs : rs = [] := by first | exact hnil | exact List.map_eq_nil_iff.1 hnil
      subst hrs
      clear hnil
      have HN := hide (show l.length ≤ 1000 by
        have h1 := HD.out.length_eq
        have h2 := List.length_filter_le p ds
        rw [HF.out]
        have := HL.out
        simp at h1
        omega)
      have HS := hide (sort_any (w.heap.size + 1) u5 l wr HK.out.2.2.1 HK.out.2.2.2.2.2.2 HN.out)
      have HB := hide HK.out.2.2.2.1
      have HPm := hide (show l.Perm (bs.filter p) by rw [HF.out]; have := HD.out; rw [List.append_nil] at this; exact this.filter p)
      clear HK HD HF HP
      go_wp2_with (go_at_call 162; refine HS.out.mono ?_; rintro e w5 ⟨rfl, l', q1, q2, q3, q4⟩; have HE := hide (And.intro (q1.trans HPm.out) (And.intro q2 (And.intro q3 (HB.out.trans ⟨q4.os, q4.tape, q4.output, q4.size, fun k hk => q4.block k (by omega)⟩)))); clear q1 q2 q3 q4)
      go_ret
      exact ⟨u5, rfl, l', HE.out⟩
    · intro key v0 rem' w1 hpm hmr hon hen
      obtain ⟨b, rs', hp1, hp2, hp3⟩ := map_cons hpm
      unfold fE at hp2
      injection hp2 with e1 e2
      subst e1 e2
      have HK1 := hide (HK.out.next hon hmr hp3)
      have HR := hide hp1
      have HLf := hide (show wr.rangeLeft F w.heap.size = rs.length by have := HK.out.2.1.left; simpa using this)
      have HMb := hide (show b ∈ bs from HD.out.mem_iff.1 (List.mem_append_right _ (hp1.mem_iff.2 (List.mem_cons_self ..))))
      have HPd := hide (show (ds ++ [b] ++ rs').Perm bs by rw [List.append_assoc]; exact ((hp1.append_left ds).symm).trans HD.out)
      have HLn := hide (show l.length + 1 ≤ 1000000 by
        have h1 := HD.out.length_eq
        have h2 := List.length_filter_le p ds
        rw [HF.out]
        have := HL.out
        simp at h1
        omega)
      have HS := hide (bd_zero w1)
      unfold zero23 at HS
      clear HK HD hpm hmr hon hp1 hp3
      go_upto_region 5 with (refine at_storeb rfl (.tmp 7) (.tmp 16) rfl rfl HS.out b rfl ?_; intro w2 p2 on2; have HK2 := hide (HK1.out.kept (new_below _ on2)); replace p2 := hide p2; clear on2)
      clear hen HS HK1
      generalize w1.heap.size = D at p2 ⊢
      have gb := p2.out.bl
      have HC := hide (HP.out b HMb.out w2 HK2.out.2.2.2.1)
      cases hpb : p b
      · rw [hpb] at HC
        have HFl := hide (show l = (ds ++ [b]).filter p by rw [HF.out, List.filter_append]; simp [hpb])
        clear hpb
        go_wp2_with (go_at_fn g; refine HC.out.mono ?_; rintro e w3 ⟨rfl, hb3⟩; have HK3 := hide (HK2.out.kept hb3); clear hb3)
        go_roundw
        case rel => exact ⟨ds ++ [b], rs', l, HPd, HFl, HK3⟩
        case measure =>
          have h1 := HK3.out.2.1.left
          have h2 := HR.out.length_eq
          rw [HLf.out, h1, h2]
          simp
      · rw [hpb] at HC
        have HFl := hide (show l ++ [b] = (ds ++ [b]).filter p by rw [HF.out, List.filter_append]; simp [hpb])
        clear hpb
        go_upto_region 6 with (go_at_fn g; refine HC.out.mono ?_; rintro e w3 ⟨rfl, hb3⟩; have HK3 := hide (HK2.out.kept hb3); replace p2 := hide (p2.out.kept hb3); clear hb3)
        clear gb HC HK2
        have gx := p2.out.bl
        have hbs := bsl_run b w3
        have hb4 := al_below w3 (.cells (bdC b) 75)
        have HK4 := hide (HK3.out.kept hb4)
        have H1 := hide (one_new b w3)
        have H2 := hide HK4.out.2.2.1
        have H3 := hide HK4.out.2.2.2.2.2.2
        clear hb4 HK3
        go_wp2_with (at_builtin; (with_reducible refine ap_B rfl (.tmp 20) (.tmp 22) rfl (w.heap.size + 1) u5 l rfl H2.out ⟨w3.heap.size, 0, none⟩ 1 1 [b] rfl rfl H1.out HLn.out H3.out ?_); intro v5 w5 o5 g5 n5; have HK5 := hide (HK4.out.grown g5 o5); clear o5 g5 n5 H1 H2 H3 HK4)
        go_roundw
        case rel => exact ⟨ds ++ [b], rs', l ++ [b], HPd, HFl, HK5⟩
        case measure =>
          have h1 := HK5.out.2.1.left
          have h2 := HR.out.length_eq
          rw [HLf.out, h1, h2]
          simp
end Go.Proofs.YtkhahbghmdccaaaGreatDoor

namespace Go.Proofs.YtkhahbghmdccaaaGreatDoor
open Go.RowKit
theorem sorted_one : ∀ (bs l : List (List Int)), l.Perm bs → l.Pairwise (fun a b => ¬ el b 19 < el a 19) → bs.Pairwise (fun a b => el a 19 < el b 19) → l = bs
  | [], l, hp, _, _ => hp.eq_nil
  | b :: r, [], hp, _, _ => by have := hp.length_eq; simp at this
  | b :: r, a :: l, hp, h1, h2 => by
    rw [List.pairwise_cons] at h1 h2
    rcases List.mem_cons.1 (hp.mem_iff.1 (List.mem_cons_self ..)) with rfl | ha
    · rw [sorted_one r l hp.cons_inv h1.2 h2.2]
    · rcases List.mem_cons.1 (hp.symm.mem_iff.1 (List.mem_cons_self ..)) with rfl | hb
      · rw [sorted_one r l hp.cons_inv h1.2 h2.2]
      · exact absurd (h2.1 a ha) (h1.1 b hb)
set_option maxRecDepth 100000 in
theorem yes_any (b : List Int) (W : World) : Calls Tryz.prog 115 #[.agg (bdC b)] W fun e w' => e = .returned (.bool true) ∧ Below W.heap.size W w' := by
  have HB := hide (al_below W (.cells (bdC b) 75))
  go_enter Tryz.func115, Tryz.ntmps115
  go_wp2
  go_ret
  exact ⟨rfl, HB.out⟩
set_option maxRecDepth 100000 in
theorem tb_all : RAll TB := by
  rintro v m ws ts bs O w hm hl hb ⟨T, P, BB, F, N, ow, rfl, h, ha, rfl⟩
  have HT := hide (those_any T P F N bs 115 #[] (fun _ => true) w h.1 h.2.2.1 hl (enters_of Tryz.func115 (by kernel_rfl) rfl) (fun b _ W _ => yes_any b W))
  have HS := hide hb.2.1
  clear h ha hb hm hl
  go_enter Tryz.func61, Tryz.ntmps61
  go_wp2_with (go_at_call 114; refine HT.out.mono ?_; rintro e w' ⟨v, l, rfl, h1, h2, h3, h4⟩; have HE := hide (show BdRow 0 w' v bs ∧ Below w.heap.size w w' by
    rw [show bs.filter (fun _ => true) = bs from List.filter_eq_self.2 (fun _ _ => rfl)] at h1
    have := sorted_one bs l h1 h2 HS.out
    subst this
    exact ⟨h3.weak, h4⟩); clear h1 h2 h3 h4)
  go_ret
  exact ⟨v, rfl, HE.out⟩
def fdl (ty : TypeId) (m k : Value) : Sem Value := Builtin.delete_ #[177, 73] ty #[m, k]
theorem fdl_shut (ty : TypeId) (m k : Value) : Builtin.delete_ #[177, 73] ty #[m, k] = fdl ty m k := rfl
def pdl (ty : TypeId) (m k : Value) : Sem Value := Builtin.delete_ #[178, 3] ty #[m, k]
theorem pdl_shut (ty : TypeId) (m k : Value) : Builtin.delete_ #[178, 3] ty #[m, k] = pdl ty m k := rfl
theorem MP.fdel {F : Nat} {bs rs : List (List Int)} {b : List Int} {w : World} (h : MP isF F (bs.map fE) w) (hp : bs.Perm (b :: rs)) (ty : TypeId) : ∃ w', (fdl ty (.map (some F)) (.agg (flC b))).run Tryz.prog w = .ok (.tuple #[]) w' ∧ MP isF F (rs.map fE) w' ∧ Only F w w' :=
  h.strike kof Tryz.mapF ⟨b, rfl⟩ (hp.map fE) ty
theorem MP.pdel {N : Nat} {bs rs : List (List Int)} {b : List Int} {w : World} (h : MP isI N (bs.map pE) w) (hp : bs.Perm (b :: rs)) (ty : TypeId) : ∃ w', (pdl ty (.map (some N)) (.int .i64 (el b 19))).run Tryz.prog w = .ok (.tuple #[]) w' ∧ MP isI N (rs.map pE) w' ∧ Only N w w' :=
  h.strike koi Tryz.mapI ⟨_, rfl⟩ (hp.map pE) ty
theorem BdIn.ff {D : Nat} {b : List Int} {w : World} (p : BdIn D b w) : (fload (.pointer (some ⟨D, 0, none⟩))).run Tryz.prog w = .ok (.agg (flC b)) w :=
  row_fl (fun j v hv => by rw [Nat.zero_add, cell_of_row w D j _ _ _ p]; simpa using hv)
attribute [local go_sem ↓] fload_shut fdl_shut pdl_shut
set_option maxRecDepth 100000 in
set_option maxHeartbeats 2000000 in
theorem drop_any (T P BB F N m : Nat) (ow : Nat → List Int) (ts : Nat → Bool) (bs rs : List (List Int)) (b : List Int) (k j : Nat) (w : World) (h : TC T P BB F N m ow ts bs w) (hp : bs.Perm (b :: rs)) (hm : m ≤ 16) (hk : k < m) (hj : j < 8) (ht : ts (8 * k + j) = true) (hn : el b 19 = 1024 + ((8 * k + j : Nat) : Int)) :
    Calls Tryz.prog 148 #[.pointer (some ⟨T, 0, none⟩), .agg (bdC b)] w fun e w' => e = .returned .nilIface ∧ TC T P BB F N m (gv ow (upd ts (8 * k + j) false) k) (upd ts (8 * k + j) false) rs w' ∧ Fr (TO T P BB F N) w w' := by
  have b0 := al_below w (.cells (bdC b) 75)
  have n := h.ne
  have lt := h.lt
  have h0 : TC T P BB F N m ow ts bs (w.alloc (.cells (bdC b) 75)).drew := h.kept b0.drew
  have p0 : BdIn w.heap.size b (w.alloc (.cells (bdC b) 75)).drew := bd_new b w
  have f0 : Fr (TO T P BB F N) w (w.alloc (.cells (bdC b) 75)).drew := Fr.of b0.drew
  obtain ⟨W1, d1, m1, o1⟩ := h0.2.2.1.fdel hp 0
  have hN1 : MP isI N (bs.map pE) W1.drew := h0.2.2.2.1.same (o1.2.2.2.2 N (fun e => n.2.2.2.2 e.symm))
  obtain ⟨W2, d2, m2, o2⟩ := hN1.pdel hp 0
  have lF := lt F (.inr (.inr (.inr (.inl rfl))))
  have lN := lt N (.inr (.inr (.inr (.inr rfl))))
  have t1 : TBl T P F N W1.drew := (o1.2.2.2.2 T n.1.2.2.1).trans h0.1
  have t2 : TBl T P F N W2.drew := (o2.2.2.2.2 T n.1.2.2.2).trans t1
  have p1 : BdIn w.heap.size b W1.drew := (o1.2.2.2.2 _ (by omega)).trans p0
  have p2 : BdIn w.heap.size b W2.drew := (o2.2.2.2.2 _ (by omega)).trans p1
  have q2 : BP P BB m ow ts W2.drew := ⟨(o2.2.2.2.2 P n.2.1.2.2).trans ((o1.2.2.2.2 P n.2.1.2.1).trans h0.2.1.1), h0.2.1.2.same ((o2.2.2.2.2 BB n.2.2.2.1).trans (o1.2.2.2.2 BB n.2.2.1))⟩
  have f1 : Fr (TO T P BB F N) w W1.drew := f0.trans (o1.fr (.inr (.inr (.inr (.inl rfl)))))
  have f2 : Fr (TO T P BB F N) w W2.drew := f1.trans (o2.fr (.inr (.inr (.inr (.inr rfl)))))
  have mF : MP isF F (rs.map fE) W2.drew := m1.same (o2.2.2.2.2 F n.2.2.2.2)
  have HG := hide (pgive_yes P BB m ow ts k j W2.drew q2 hm hk hj ht)
  have HS0 := hide (show ∀ W, TBl T P F N W → BdIn w.heap.size b W → W.cell? ⟨T, 0, none⟩ = some (.pointer (some ⟨P, 0, none⟩)) ∧ W.cell? ⟨T, 1, none⟩ = some (.map (some F)) ∧ W.cell? ⟨T, 2, none⟩ = some (.map (some N)) ∧ (fload (.pointer (some ⟨w.heap.size, 0, none⟩))).run Tryz.prog W = .ok (.agg (flC b)) W ∧ W.cell? ⟨w.heap.size, 19, none⟩ = some (.int .i64 (el b 19)) from fun W h1 h2 => ⟨h1.c0, h1.c1, h1.c2, h2.ff, h2.cell 19 (by omega)⟩)
  have HS1 := hide (HS0.out _ h0.1 p0)
  have HS1' := hide (HS0.out W1 t1 p1)
  have HS2 := hide (HS0.out _ t1 p1)
  have HS2' := hide (HS0.out W2 t2 p2)
  have HS3 := hide (HS0.out _ t2 p2)
  have HE := hide (show ∀ w3, BP P BB m (gv ow (upd ts (8 * k + j) false) k) (upd ts (8 * k + j) false) w3 → Fr (fun g => g = BB) W2.drew w3 → (TBl T P F N w3 ∧ BdIn w.heap.size b w3) ∧ TC T P BB F N m (gv ow (upd ts (8 * k + j) false) k) (upd ts (8 * k + j) false) rs w3 ∧ Fr (TO T P BB F N) w w3 from fun w3 h1 h2 => by
    have hk : ∀ g, g < W2.drew.heap.size → g ≠ BB → w3.heap[g]? = W2.drew.heap[g]? := fun g g1 g2 => h2.2.2.2.2 g g1 g2
    have t3 : TBl T P F N w3 := (hk T t2.lt n.1.2.1).trans t2
    have lB := lt BB (.inr (.inr (.inl rfl)))
    exact ⟨⟨t3, (hk _ p2.lt (by omega)).trans p2⟩, ⟨t3, h1, mF.same (hk F mF.lt (fun e => n.2.2.1 e.symm)), MP.same (w := W2.drew) m2 (hk N m2.lt (fun e => n.2.2.2.1 e.symm)), n.2.2.2.2⟩, f2.trans (h2.mono (fun _ e => .inr (.inr (.inl e))))⟩)
  rw [hn] at d2 HS0 HS1 HS1' HS2 HS2' HS3
  generalize hy : 1024 + ((8 * k + j : Nat) : Int) = y at d2 HS0 HS1 HS1' HS2 HS2' HS3 HG
  clear hy hn h hp hm hk hj ht b0 n lt h0 p0 f0 m1 o1 hN1 m2 o2 lF lN t1 t2 p1 p2 q2 f1 f2 mF
  generalize hw : w.alloc (.cells (bdC b) 75) = W at d1 HS1
  go_enter Tryz.func148, Tryz.ntmps148
  go_upto_region 1 with fail
  clear hw
  obtain ⟨c0, c1, c2, g1, c19⟩ := HS1.out
  go_region_held3 (fun W' => W'.cell? ⟨T, 0, none⟩ = some (.pointer (some ⟨P, 0, none⟩)) ∧ W'.cell? ⟨T, 1, none⟩ = some (.map (some F)) ∧ W'.cell? ⟨T, 2, none⟩ = some (.map (some N)) ∧ (fload (.pointer (some ⟨w.heap.size, 0, none⟩))).run Tryz.prog W' = .ok (.agg (flC b)) W' ∧ W'.cell? ⟨w.heap.size, 19, none⟩ = some (.int .i64 y))
    (first
      | exact HS1.out
      | exact HS1'.out
      | go_keep)
    (fail)
  all_goals
    go_upto_region 2 with fail
    clear c0 c1 c2 g1 c19 d1 HS1 HS1'
    obtain ⟨c0, c1, c2, g1, c19⟩ := HS2.out
    go_region_held3 (fun W' => W'.cell? ⟨T, 0, none⟩ = some (.pointer (some ⟨P, 0, none⟩)) ∧ W'.cell? ⟨T, 1, none⟩ = some (.map (some F)) ∧ W'.cell? ⟨T, 2, none⟩ = some (.map (some N)) ∧ (fload (.pointer (some ⟨w.heap.size, 0, none⟩))).run Tryz.prog W' = .ok (.agg (flC b)) W' ∧ W'.cell? ⟨w.heap.size, 19, none⟩ = some (.int .i64 y))
      (first
        | exact HS2.out
        | exact HS2'.out
        | go_keep)
      (fail)
    all_goals
      go_upto_region 3 with fail
      clear c0 c1 c2 g1 c19 d2 HS2 HS2'
      obtain ⟨c0, c1, c2, g1, c19⟩ := HS3.out
      go_region_held3 (fun W' => W'.cell? ⟨T, 0, none⟩ = some (.pointer (some ⟨P, 0, none⟩)) ∧ W'.cell? ⟨T, 1, none⟩ = some (.map (some F)) ∧ W'.cell? ⟨T, 2, none⟩ = some (.map (some N)) ∧ (fload (.pointer (some ⟨w.heap.size, 0, none⟩))).run Tryz.prog W' = .ok (.agg (flC b)) W' ∧ W'.cell? ⟨w.heap.size, 19, none⟩ = some (.int .i64 y))
        (first
          | exact HS3.out
          | exact HS0.out _ HE3.out.1.1 HE3.out.1.2
          | go_keep)
        (first | (go_at_call 192; refine HG.out.mono ?_; rintro e w3 ⟨rfl, a1, a2⟩; have HE3 := hide (HE.out w3 a1 a2); clear a1 a2 c0 c1 c2 g1 c19; obtain ⟨c0, c1, c2, g1, c19⟩ := HS0.out w3 HE3.out.1.1 HE3.out.1.2))
      all_goals
        clear c0 c1 c2 g1 c19
        go_wp2_with fail
        go_ret
        exact ⟨rfl, HE3.out.2⟩
end Go.Proofs.YtkhahbghmdccaaaGreatDoor
