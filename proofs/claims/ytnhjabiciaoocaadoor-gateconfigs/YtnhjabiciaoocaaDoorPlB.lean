/- Package pick's small ones by contracts: upTo, with, score, takesNew, checkOne, has. -/
import Derived.Test.YtnhjabiciaoocaaDoorJS6Own
import Derived.Test.YtnhjabiciaoocaaDoorJSgEnc
import Derived.Test.YtnhjabiciaoocaaDoorJPkF
import Derived.Test.YtnhjabiciaoocaaDoorJPkS
import Derived.Below
import Derived.OpenShut
import Derived.Test.YtnhjabiciaoocaaDoorProg
import Derived.WalkKit
import Derived.LaidEql
import Derived.BigQuiet
import Derived.Laws.AppendOwnNone
import Derived.Laws.MakeOwn
import Derived.Deep.RegionLaw
import Derived.Lib.Bytes
import Derived.Deep.MidRow
import Derived.Laws.ResultCell
import Derived.Deep.CutBlock
import Derived.Deep.QuietTactic
import Derived.OwnWalk
import Derived.Deep.RegionHeld3
import Derived.Deep.DrawnRows
import Derived.Maps.AppendAt
import Derived.Laws.StructEq
namespace Go.Proofs.YtnhjabiciaoocaaDoor
open Go.RowKit
set_option maxHeartbeats 400000 in
theorem kup_any (m : Int) (B n : Nat) (l : List Int) (w : World) (hn : l.length = n) (hm : n ≤ 1000) (hc : Ints B l w) :
    Calls Tryd.prog 42 #[.int .i64 m, .slice (some ⟨B, 0, none⟩) n n] w fun e w' => e = .returned (.bool (bups m l)) ∧ w' = w := by
  have HU := hide (bups_iff m l)
  have HC := hide hc
  have HN := hide hn
  clear hc
  generalize bups m l = u at HU ⊢
  go_enter Tryd.func42, Tryd.ntmps42
  go_wp2
  go_loop [9] (fun t => ∃ k : Nat, k ≤ n ∧ Hid (∀ i, i < k → um m (l.getD i 0) = true) ∧ t = .int .i64 k) (fun t => n - (intOf t).toNat)
  case atStart => exact ⟨0, by omega, fun i hi => absurd hi (by omega), rfl⟩
  case round =>
    obtain ⟨k, hk, HI, rfl⟩ := hrel
    by_cases hlt : k < n
    · have hck := HC.out.cell k (by omega)
      generalize hzk : l.getD k 0 = z at hck
      have HZ := hide hzk
      clear hzk hn
      by_cases hz0 : z < 0
      · go_wp2
        go_ret
        exact ⟨congrArg (fun b => Ending.returned (.bool b)) (Eq.symm (Bool.eq_false_iff.2 fun h => by have := (um_iff _ _).1 (HU.out.1 h k (by rw [HN.out]; exact hlt)); rw [HZ.out] at this; omega)), rfl⟩
      · by_cases hz1 : m < z
        · go_wp2
          go_ret
          exact ⟨congrArg (fun b => Ending.returned (.bool b)) (Eq.symm (Bool.eq_false_iff.2 fun h => by have := (um_iff _ _).1 (HU.out.1 h k (by rw [HN.out]; exact hlt)); rw [HZ.out] at this; omega)), rfl⟩
        · go_wp2
          go_round
          case rel => exact ⟨k + 1, by omega, fun i hi => if h : i = k then by subst h; rw [HZ.out]; exact (um_iff _ _).2 ⟨by omega, by omega⟩ else HI.out i (by omega), by go_num⟩
          case measure => simp [intOf]; omega
    · go_wp2
      go_ret
      obtain rfl : k = n := by omega
      exact ⟨congrArg (fun b => Ending.returned (.bool b)) (Eq.symm (HU.out.2 fun i hi => HI.out i (by rw [← HN.out]; exact hi))), rfl⟩
theorem kup1 (m x : Int) (W : World) : Calls Tryd.prog 42 #[.int .i64 m, .slice (some ⟨W.heap.size, 0, none⟩) 1 1] (W.alloc (.cells #[.int .i64 x] 3)) fun e w' => e = .returned (.bool (um m x)) ∧ Below W.heap.size W w' :=
  (kup_any m W.heap.size 1 [x] _ rfl (by omega) (ints_new W [x])).mono fun e w' ⟨h1, h2⟩ => ⟨h1.trans (by rw [show bups m [x] = um m x by unfold bups; simp]), by rw [h2]; exact al_below _ _⟩
theorem kup2 (x y : Int) (W : World) : Calls Tryd.prog 42 #[.int .i64 65535, .slice (some ⟨W.heap.size, 0, none⟩) 2 2] (W.alloc (.cells #[.int .i64 x, .int .i64 y] 3)) fun e w' => e = .returned (.bool (wd x && wd y)) ∧ Below W.heap.size W w' :=
  (kup_any 65535 W.heap.size 2 [x, y] _ rfl (by omega) (ints_new W [x, y])).mono fun e w' ⟨h1, h2⟩ => ⟨h1.trans (by rw [show bups 65535 [x, y] = (wd x && wd y) by unfold bups um wd; simp]), by rw [h2]; exact al_below _ _⟩
set_option maxRecDepth 100000 in
set_option maxHeartbeats 1000000 in
theorem cone (b : List Int) (w : World) : Calls Tryd.prog 32 #[.agg (bkC b)] w fun e w' => e = .returned (ev (fe (okb b))) ∧ Below w.heap.size w w' := by
  have HB := hide (al_below w (.cells (bkC b) 60))
  have HP := hide (bk_new b w)
  have HU := hide (fun W => kup2 (el b 0) (el b 2) W)
  have HV := hide (fun W => kup1 10 (el b 3) W)
  have HC := hide (fun W => bc4_any (el b 1) W)
  have HO := hide (show okb b = ((wd (el b 0) && wd (el b 2)) && fr (el b 1) && um 10 (el b 3)) from rfl)
  generalize okb b = ok at HO ⊢
  generalize (wd (el b 0) && wd (el b 2)) = pp at HU HO
  generalize fr (el b 1) = pf at HC HO
  generalize um 10 (el b 3) = pu at HV HO
  go_enter Tryd.func32, Tryd.ntmps32
  go_upto_region 1 with fail
  generalize w.alloc _ = W at HB HP ⊢
  have c0 := rng_id HP.out.rng
  have c2 := rng_int HP.out.rng 2 (by omega)
  cases pp
  · go_wp2_with (go_at_call 42; (with_reducible refine (HU.out _).mono ?_); rintro e w2 ⟨rfl, hb2⟩; replace HB := hide (bt HB.out hb2); clear hb2)
    go_ret
    exact ⟨by rw [HO.out]; rfl, HB.out⟩
  · cases pf
    · rw [show ev (fe false) = err 1 from rfl] at HC
      unfold err at HC
      go_wp2_with (first
        | (go_at_call 42; (with_reducible refine (HU.out _).mono ?_); rintro e w2 ⟨rfl, hb2⟩; replace HB := hide (bt HB.out hb2); replace HP := hide (HP.out.kept hb2); have c1 := rng_int HP.out.rng 1 (by omega); clear hb2 c0 c2)
        | (go_at_call 20; (with_reducible refine (HC.out _).mono ?_); rintro e w3 ⟨rfl, hw⟩; rw [hw]; clear hw w3))
      go_ret
      exact ⟨by rw [HO.out]; rfl, HB.out⟩
    · rw [show ev (fe true) = .nilIface from rfl] at HC
      cases pu
      all_goals
        go_wp2_with (first
          | (go_at_call 42; (with_reducible refine (HU.out _).mono ?_); rintro e w2 ⟨rfl, hb2⟩; replace HB := hide (bt HB.out hb2); replace HP := hide (HP.out.kept hb2); have c1 := rng_int HP.out.rng 1 (by omega); have c3 := rng_int HP.out.rng 3 (by omega); clear hb2 c0 c2)
          | (go_at_call 20; (with_reducible refine (HC.out _).mono ?_); rintro e w3 ⟨rfl, hw⟩; rw [hw]; clear hw w3)
          | (go_at_call 42; (with_reducible refine (HV.out _).mono ?_); rintro e w4 ⟨rfl, hb4⟩; replace HB := hide (bt HB.out hb4); clear hb4))
        go_ret
        exact ⟨by rw [HO.out]; rfl, HB.out⟩
/-- is one of the first ones of that number? -/
def hid (bs : List (List Int)) (n : Nat) (id : Int) : Bool := (List.range n).any fun k => el (bs.getD k []) 0 == id
theorem hid_no {bs : List (List Int)} {n : Nat} {id : Int} (h : ∀ k, k < n → (el (bs.getD k []) 0 == id) = false) : hid bs n id = false := by
  unfold hid
  rw [List.any_eq_false]
  intro k hk
  simpa using h k (List.mem_range.1 hk)
theorem hid_yes {bs : List (List Int)} {n k : Nat} {id : Int} (hk : k < n) (h : (el (bs.getD k []) 0 == id) = true) : hid bs n id = true := by
  unfold hid
  rw [List.any_eq_true]
  exact ⟨k, List.mem_range.2 hk, h⟩
attribute [local go_sem ↓] kload_shut
set_option maxRecDepth 100000 in
set_option maxHeartbeats 1000000 in
theorem has_any (g off n cap : Nat) (bs : List (List Int)) (id : Int) (w : World) (hn : n ≤ 1000) (hg : g < w.heap.size) (hrow : ∀ k, k < n → w.rangeAt g (off + k * 6) (bkC (bs.getD k [])).toList) :
    Calls Tryd.prog 33 #[.slice (some ⟨g, off, none⟩) n cap, .int .i64 id] w fun e w' => e = .returned (.bool (hid bs n id)) ∧ Below w.heap.size w w' := by
  have HR := hide (show ∀ W, Below w.heap.size w W → ∀ k, k < n → W.rangeAt g (off + k * 6) (bkC (bs.getD k [])).toList from fun W hW k hk j u hu => by rw [hW.cell (p := ⟨g, off + k * 6 + j, none⟩) hg]; exact hrow k hk j u hu)
  have HN := hide (fun h => hid_no (bs := bs) (n := n) (id := id) h)
  have HY := hide (fun k hk h => hid_yes (bs := bs) (n := n) (k := k) (id := id) hk h)
  generalize hid bs n id = u at HN HY ⊢
  have HZ := hide bk_zero
  unfold zero4b at HZ
  clear hrow hg
  go_enter Tryd.func33, Tryd.ntmps33
  go_wp2
  go_loopw [9] (fun t wr => ∃ k : Nat, k ≤ n ∧ t = .int .i64 k ∧ Hid (∀ j, j < k → (el (bs.getD j []) 0 == id) = false) ∧ Hid (Below w.heap.size w wr)) (fun t _ => n - (intOf t).toNat)
  case atStart => exact ⟨0, by omega, rfl, fun j h => absurd h (by omega), Below.refl _ _⟩
  case round =>
    obtain ⟨k, hk, rfl, HI, HW⟩ := hrel
    by_cases hlt : k < n
    · have j1 : (k : Int) < (n : Int) := by omega
      have gk := rng_kl (HR.out wr HW.out k hlt)
      have HYk := hide (HY.out k hlt)
      obtain ⟨b, hb⟩ : ∃ b, bs.getD k [] = b := ⟨_, rfl⟩
      rw [hb] at gk HYk
      have HBk := hide hb
      clear hb
      go_upto_region 4 with (refine at_storek rfl (.tmp 6) (.tmp 12) rfl rfl (HZ.out wr) b rfl ?_; intro w1 p1 on1; replace HW := hide (bt HW.out (new_below _ on1)); have c0 := rng_id p1.rng; clear on1 p1)
      clear gk
      cases he : el b 0 == id
      · have HE := hide he
        go_wp2
        go_roundw
        case rel => exact ⟨k + 1, by omega, by go_num, fun j hj => if e : j = k then by rw [e, HBk.out]; exact HE.out else HI.out j (by omega), HW⟩
        case measure => simp [intOf]; omega
      · have HE := hide (HYk.out he)
        go_wp2
        go_ret
        exact ⟨by rw [HE.out]; rfl, HW.out⟩
    · obtain rfl : n = k := by omega
      go_wp2
      go_ret
      exact ⟨by rw [HN.out HI.out]; rfl, HW.out⟩
end Go.Proofs.YtnhjabiciaoocaaDoor
