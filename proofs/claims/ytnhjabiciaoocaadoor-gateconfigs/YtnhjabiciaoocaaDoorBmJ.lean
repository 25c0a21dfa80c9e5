/- Binds sorted by their ports: cmp.Compare, the closure, slices.SortFunc. -/
import Derived.Test.YtnhjabiciaoocaaDoorJBdH
import Derived.Deep.MidRow
import Derived.Laws.ResultCell
import Derived.Deep.CutBlock
import Derived.Deep.QuietTactic
import Derived.OwnWalk
import Derived.Deep.RegionHeld3
import Derived.Deep.DrawnRows
import Derived.Laws.StructEq
import Derived.Laws.AppendOwnNone
import Derived.Maps.AppendAt
import Derived.Maps.RangeWalk
import Derived.Test.YtnhjabiciaoocaaDoorProg
import Derived.WalkKit
import Derived.LaidEql
import Derived.Stop.Asserts
import Derived.RowKitTokens
import Derived.Test.YtnhjabiciaoocaaDoorShelf
import Derived.BigQuiet
import Derived.Below
import Derived.Laws.MakeOwn
import Derived.Deep.RegionLaw
namespace Go.Proofs.YtnhjabiciaoocaaDoor
open Go.RowKit
open Go.Sort (SWO PermIn SortedIn HoldsK flatK grow)
/-- less, more, or neither. -/
def cpi (x y : Int) : Int := if x < y then -1 else if y < x then 1 else 0
theorem isnan_any (x : Int) (w : World) : Calls Tryd.prog 51 #[.int .i64 x] w fun e w' => e = .returned (.bool false) ∧ w' = w := by
  have h : (x != x) = false := by simp
  go_enter Tryd.func51, Tryd.ntmps51
  go_wp2
  go_ret
  exact ⟨rfl, rfl⟩
set_option maxRecDepth 100000 in
theorem compare_any (x y : Int) (w : World) : Calls Tryd.prog 45 #[.int .i64 x, .int .i64 y] w fun e w' => e = .returned (.int .i64 (cpi x y)) ∧ w' = w := by
  have H := hide (fun z W => isnan_any z W)
  have HC := hide (show cpi x y = if x < y then -1 else if y < x then 1 else 0 from rfl)
  generalize cpi x y = r at HC ⊢
  by_cases h1 : x < y
  · have d1 : decide (x < y) = true := decide_eq_true h1
    have HX := hide (show r = -1 by rw [HC.out, if_pos h1])
    clear h1
    go_enter Tryd.func45, Tryd.ntmps45
    go_wp2_with (go_at_call 51; refine (H.out _ _).mono ?_; rintro e w' ⟨rfl, rfl⟩)
    go_ret
    exact ⟨by rw [HX.out]; rfl, rfl⟩
  · have d1 : decide (x < y) = false := decide_eq_false h1
    by_cases h2 : y < x
    · have d2 : decide (y < x) = true := decide_eq_true h2
      have HX := hide (show r = 1 by rw [HC.out, if_neg h1, if_pos h2])
      clear h1 h2
      go_enter Tryd.func45, Tryd.ntmps45
      go_wp2_with (go_at_call 51; refine (H.out _ _).mono ?_; rintro e w' ⟨rfl, rfl⟩)
      go_ret
      exact ⟨by rw [HX.out]; rfl, rfl⟩
    · have d2 : decide (y < x) = false := decide_eq_false h2
      have HX := hide (show r = 0 by rw [HC.out, if_neg h1, if_neg h2])
      clear h1 h2
      go_enter Tryd.func45, Tryd.ntmps45
      go_wp2_with (go_at_call 51; refine (H.out _ _).mono ?_; rintro e w' ⟨rfl, rfl⟩)
      go_ret
      exact ⟨by rw [HX.out]; rfl, rfl⟩
/-- by their ports. -/
def cfb (x y : List Int) : Int := cpi (el x 19) (el y 19)
theorem lt_cfb (x y : List Int) : ltOf cfb x y = decide (el x 19 < el y 19) := by
  unfold ltOf cfb cpi
  by_cases h1 : el x 19 < el y 19
  · simp [h1]
  · by_cases h2 : el y 19 < el x 19 <;> simp [h1, h2]
theorem swo_cfb : SWO (ltOf cfb) := {
  irrefl := fun x => by rw [lt_cfb]; simp
  trans := fun x y z h1 h2 => by rw [lt_cfb] at *; simp at *; omega
  ntrans := fun x y z h1 h2 => by rw [lt_cfb] at *; simp at *; omega }
set_option maxRecDepth 100000 in
set_option maxHeartbeats 1000000 in
theorem closure_any (x y : List Int) (W : World) : Calls Tryd.prog 44 #[.agg (bdC x), .agg (bdC y)] W fun e w' => e = .returned (.int .i64 (cfb x y)) ∧ ∃ q os', w' = grow (W.drewN q) os' := by
  have H := hide (fun w => compare_any (el x 19) (el y 19) w)
  have HX := hide (show cfb x y = cpi (el x 19) (el y 19) from rfl)
  have p1 := (bd_new x W).kept (al_below (W.alloc (.cells (bdC x) 87)) (.cells (bdC y) 87))
  have p2 := bd_new y (W.alloc (.cells (bdC x) 87))
  rw [World.size_alloc] at p2
  have c1 := p1.cell 19 (by omega)
  have c2 := p2.cell 19 (by omega)
  have HW := hide (show (W.alloc (.cells (bdC x) 87)).alloc (.cells (bdC y) 87) = grow (W.drewN 0) (#[.cells (bdC x) 87] ++ #[.cells (bdC y) 87]) by rw [Go.Sort.alloc_eq_grow, Go.Sort.alloc_eq_grow, Go.Sort.grow_grow]; rfl)
  clear p1 p2
  generalize cfb x y = r at HX ⊢
  generalize el x 19 = a at *
  generalize el y 19 = b at *
  go_enter Tryd.func44, Tryd.ntmps44
  go_upto_region 1 with fail
  generalize (W.alloc _).alloc _ = W2 at HW c1 c2 ⊢
  go_wp2_with (go_at_call 45; refine (H.out _).mono ?_; rintro e w' ⟨rfl, rfl⟩)
  go_ret
  exact ⟨by rw [HX.out]; rfl, 0, _, HW.out⟩
/-- a bind's cells. -/
def encB (b : List Int) : List Value := (bdC b).toList
theorem getA (l : List (List Int)) (i : Nat) : (l.toArray)[i]! = l.getD i [] := by
  rw [List.getD_eq_getElem?_getD]
  simp
  rfl
theorem enc_at (b : List Int) (j : Nat) (hj : j < 23) : (encB b)[j]! = .int .i64 (el b j) := by
  have h := bdC_at b j hj
  unfold encB
  rw [List.getElem!_eq_getElem?_getD]
  rw [show (bdC b).toList[j]? = some (.int .i64 (el b j)) by simpa using h]
  rfl
theorem OwB.holds {base : Nat} {w : World} {g n cap : Nat} {l : List (List Int)} (h : OwB base w (.slice (some ⟨g, 0, none⟩) n cap) l) : HoldsK encB 23 w g 0 l.toArray := by
  intro j hj
  rw [Go.Sort.size_flatK] at hj
  have hl : j < l.length * 23 := by simpa using hj
  refine ⟨?_, h.frozen _⟩
  rw [Go.Sort.get_flatK _ _ _ _ hj, getA, enc_at _ _ (Nat.mod_lt _ (by omega)), Nat.zero_add]
  have := h.cell (j / 23) (j % 23) (by omega) (by omega)
  rw [show j / 23 * 23 + j % 23 = j by omega] at this
  exact this
theorem holds_row {w : World} {g : Nat} {l : List (List Int)} (h : HoldsK encB 23 w g 0 l.toArray) (k : Nat) (hk : k < l.length) : w.rangeAt g (0 + k * 23) (bdC (l.getD k [])).toList := by
  intro j v hv
  have hj : j < 23 := (List.getElem?_eq_some_iff.1 hv).1
  have h1 := (Go.Sort.HoldsK.cell h (i := k) (c := j) (by simpa using hk) hj).1
  rw [getA, enc_at _ _ hj] at h1
  rw [h1, ← bdC_at (l.getD k []) j hj]
  simpa using hv
theorem sort_below {base : Nat} {w : World} {g n : Nat} {d : Array (List Int)} {os : Array Obj} (hb : base ≤ w.heap.size) (hg : base ≤ g) : Below base w (sortWorldK encB 23 w g 0 n d os) := by
  refine ⟨rfl, rfl, rfl, ?_, fun k hk => ?_⟩
  · unfold sortWorldK Go.Sort.putRowK
    simp [Go.Sort.putRow, Go.Sort.mapBlock, Go.Sort.ahead, Go.Sort.grow]
  · unfold sortWorldK Go.Sort.putRowK
    have hne : g ≠ k := by omega
    rw [Go.Sort.heap_grow_old _ _ (by simp [Go.Sort.putRow, Go.Sort.mapBlock, Go.Sort.ahead]; omega)]
    simp [Go.Sort.putRow, Go.Sort.mapBlock, Go.Sort.ahead, Array.getElem?_modify, hne]
theorem encB_len (b : List Int) : (encB b).length = 23 := rfl
theorem encB_one (b : List Int) : ∀ v ∈ encB b, v.oneCell' = true := by
  intro v hv
  unfold encB bdC at hv
  simp at hv
  rcases hv with rfl | rfl | rfl | rfl | rfl | rfl | rfl | rfl | rfl | rfl | rfl | rfl | rfl | rfl | rfl | rfl | rfl | rfl | rfl | rfl | rfl | rfl | rfl <;> rfl
/-- sorted: the same ones, rising, in the same slice. -/
theorem sort_any (base : Nat) (v : Value) (l : List (List Int)) (w : World) (h : OwB base w v l) (hb : base ≤ w.heap.size) (hl : l.length ≤ 1000) :
    Calls Tryd.prog 43 #[v, .func (.func 44) #[] #[]] w fun e w' => e = .returned (.tuple #[]) ∧ ∃ l', l'.Perm l ∧ l'.Pairwise (fun a b => ¬ el b 19 < el a 19) ∧ BdRow base w' v l' ∧ Below base w w' := by
  cases l with
  | nil =>
    obtain ⟨ao, cap, rfl, _⟩ := h.shape
    have hc := AnyF.slices_SortFunc_none (P := Tryd.prog) (ρ := Tryd.sortB_ren) { Tryd.sortB with } ao cap (.func (.func 44) #[] #[]) w
    refine hc.mono ?_
    rintro e w' ⟨rfl, rfl⟩
    exact ⟨rfl, [], List.Perm.refl _, List.Pairwise.nil, h.bdrow, Below.refl _ _⟩
  | cons b r =>
    have hd := h
    obtain ⟨ao, cap, rfl, _, _, hg⟩ := h.shape
    obtain ⟨g, rfl⟩ := hg (by simp)
    have hlt := owns_lt h g rfl
    have eg : ∀ args w, (callFunc 44 args).run Tryd.prog w = .ok (.enter 44 args) w := enters_of Tryd.func44 (by kernel_rfl) rfl
    have hc := AnyQ.slices_SortFunc Tryd.sortB 23 Tryd.isAgg87 Tryd.sizeOf87 encB encB_len encB_one cfb swo_cfb 44 #[] g 0 cap (b :: r).toArray w eg (fun _ _ _ _ x y => closure_any x y _) h.holds hlt.1 (by simp at hl ⊢; omega)
    refine Calls.mono (show Calls Tryd.prog 43 #[.slice (some ⟨g, 0, none⟩) (b :: r).length cap, .func (.func 44) #[] #[]] w _ from hc) ?_
    rintro e w' ⟨rfl, d', n, os, hp, hs, rfl⟩
    have hsz : d'.size = (b :: r).length := hp.1
    have hpm : d'.toList.Perm (b :: r) := by
      have := hp.2.2
      rw [show (b :: r).toArray.size = (b :: r).length from rfl] at this
      have e1 : d'.extract 0 (b :: r).length = d' := by rw [← hsz]; exact Array.extract_size
      have e2 : (b :: r).toArray.extract 0 (b :: r).length = (b :: r).toArray := Array.extract_size
      rw [e1, e2] at this
      exact this
    refine ⟨rfl, d'.toList, hpm, ?_, ?_, sort_below hb hlt.2⟩
    · rw [List.pairwise_iff_getElem]
      intro i j hi hj hij
      have := hs i j (Nat.zero_le _) hij (by rw [show (b :: r).toArray.size = (b :: r).length from rfl, ← hsz]; simpa using hj)
      rw [lt_cfb] at this
      have g1 : d'[i]! = d'.toList[i] := by rw [getElem!_pos d' i (by simpa using hi)]; simp
      have g2 : d'[j]! = d'.toList[j] := by rw [getElem!_pos d' j (by simpa using hj)]; simp
      rw [g1, g2] at this
      simpa using this
    · have hH : HoldsK encB 23 (sortWorldK encB 23 w g 0 n d' os) g 0 d'.toList.toArray := by
        have := holdsK_sortWorldK_c encB 23 w g 0 (b :: r).toArray d' n os h.holds hlt.1 hsz
        simpa using this
      have hlen : d'.toList.length = (b :: r).length := by simpa using hsz
      refine ⟨some ⟨g, 0, none⟩, cap, by rw [hlen], fun _ => ⟨g, 0, rfl, ⟨hlt.2, ?_⟩, fun k hk => holds_row hH k hk⟩⟩
      exact Nat.lt_of_lt_of_le hlt.1 (sort_below (n := n) (d := d') (os := os) hb hlt.2).size
end Go.Proofs.YtnhjabiciaoocaaDoor
