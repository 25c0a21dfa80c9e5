/- The first port of a block that is not taken: Index, Contains and isFull by contracts. -/
import Derived.Test.YtjkkonpangcnjaaDoorPbA
namespace Go.Proofs.YtjkkonpangcnjaaDoor
open Go.RowKit

/-- the first that is not taken. -/
def fx (t : Nat → Bool) : Option Nat := (List.range 8).find? fun j => !t j
def fi (o : Option Nat) : Int := match o with | some i => i | none => -1
theorem fx_none {t : Nat → Bool} (h : ∀ j, j < 8 → t j = true) : fx t = none := find_none fun j hj => by rw [h j hj]; rfl
theorem fx_some {t : Nat → Bool} {i : Nat} (hi : i < 8) (h3 : t i = false) (h : ∀ j, j < i → t j = true) : fx t = some i := find_some hi (by rw [h3]; rfl) fun j hj => by rw [h j hj]; rfl
set_option maxRecDepth 100000 in
set_option maxHeartbeats 1000000 in
theorem index_any (g off : Nat) (t : Nat → Bool) (w : World) (hc : ∀ j, j < 8 → w.cell? ⟨g, off + j, none⟩ = some (.bool (t j))) : Calls Tryd.prog 43 #[.slice (some ⟨g, off, none⟩) 8 8, .bool false] w fun e w' => e = .returned (.int .i64 (fi (fx t))) ∧ w' = w := by
  have HC := hide hc
  clear hc
  go_enter Tryd.func43, Tryd.ntmps43
  go_wp2
  go_loop [8] (fun v => ∃ k : Nat, k ≤ 8 ∧ v = .int .i64 k ∧ Hid (∀ j, j < k → t j = true)) (fun v => 8 - (intOf v).toNat)
  case atStart => exact ⟨0, by omega, rfl, fun j h => absurd h (by omega)⟩
  case round =>
    obtain ⟨k, hk, rfl, HI⟩ := hrel
    by_cases hlt : k < 8
    · have c1 := HC.out k hlt
      have j1 : (k : Int) < 8 := by omega
      cases ht : t k
      · rw [ht] at c1
        have HE := hide (fx_some hlt ht HI.out)
        clear ht
        go_wp2
        go_ret
        rw [HE.out]
        exact ⟨rfl, rfl⟩
      · rw [ht] at c1
        have HT := hide ht
        clear ht
        go_wp2
        go_round
        case rel => exact ⟨k + 1, by omega, by go_num, fun j hj => if e : j = k then by rw [e]; exact HT.out else HI.out j (by omega)⟩
        case measure => simp [intOf]; omega
    · obtain rfl : k = 8 := by omega
      go_wp2
      go_ret
      rw [fx_none HI.out]
      exact ⟨rfl, rfl⟩
theorem fi_neg (o : Option Nat) : decide (0 ≤ fi o) = o.isSome := by
  cases o with
  | none => rfl
  | some i => unfold fi; simp
set_option maxRecDepth 100000 in
set_option maxHeartbeats 1000000 in
theorem contains_any (g off : Nat) (t : Nat → Bool) (w : World) (hc : ∀ j, j < 8 → w.cell? ⟨g, off + j, none⟩ = some (.bool (t j))) : Calls Tryd.prog 63 #[.slice (some ⟨g, off, none⟩) 8 8, .bool false] w fun e w' => e = .returned (.bool (fx t).isSome) ∧ w' = w := by
  have H := hide (index_any g off t w hc)
  have hf := fi_neg (fx t)
  clear hc
  generalize fx t = o at H hf ⊢
  generalize fi o = x at H hf
  go_enter Tryd.func63, Tryd.ntmps63
  go_wp2_with (go_at_call 43; refine H.out.mono ?_; rintro e w' ⟨rfl, rfl⟩)
  go_ret
  exact ⟨by rw [← hf]; rfl, rfl⟩
set_option maxRecDepth 100000 in
set_option maxHeartbeats 1000000 in
theorem isfull_any (z : List Int) (t : Nat → Bool) (w : World) : Calls Tryd.prog 54 #[.agg (pbC z t)] w fun e w' => e = .returned (.bool (fx t).isNone) ∧ Below w.heap.size w w' := by
  have HB := hide (al_below w (.cells (pbC z t) 103))
  have HP := hide (pb_new z t w)
  go_enter Tryd.func54, Tryd.ntmps54
  go_upto_region 1 with fail
  generalize w.alloc _ = W at HB HP ⊢
  go_wp2_with (go_at_call 63; refine (contains_any w.heap.size 8 t _ (fun j hj => HP.out.bit j hj)).mono ?_; rintro e w1 ⟨rfl, rfl⟩)
  go_ret
  exact ⟨rfl, HB.out⟩
end Go.Proofs.YtjkkonpangcnjaaDoor
