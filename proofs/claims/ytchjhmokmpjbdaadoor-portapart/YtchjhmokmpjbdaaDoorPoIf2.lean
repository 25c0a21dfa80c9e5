/- Two rows of ints held side by side; what both sides tell of a port's owner and of somebody's blocks. -/
import Derived.Test.YtchjhmokmpjbdaaDoorPoIf
namespace Go.Proofs.YtchjhmokmpjbdaaDoor
open Go.RowKit

theorem IntRow.same {base : Nat} {w w' : World} {v : Value} {l : List Nat} (h : IntRow base w v l) (hb : Below w.heap.size w w') : IntRow base w' v l := by
  obtain ⟨a, cap, rfl, hc⟩ := h
  refine ⟨a, cap, rfl, fun hp => ?_⟩
  obtain ⟨g, off, e, hlt, hx⟩ := hc hp
  exact ⟨g, off, e, ⟨hlt.1, Nat.lt_of_lt_of_le hlt.2 hb.size⟩, fun i hi => by rw [hb.cell (p := ⟨g, off + i, none⟩) hlt.2]; exact hx i hi⟩
theorem IntRow.fr {base : Nat} {O : Nat → Prop} {w w' : World} {v : Value} {l : List Nat} (h : IntRow base w v l) (hf : Fr O w w') (hO : ∀ g, O g → g < base) : IntRow base w' v l := by
  obtain ⟨a, cap, rfl, hc⟩ := h
  refine ⟨a, cap, rfl, fun hp => ?_⟩
  obtain ⟨g, off, e, hlt, hx⟩ := hc hp
  refine ⟨g, off, e, ⟨hlt.1, Nat.lt_of_lt_of_le hlt.2 hf.2.2.2.1⟩, fun i hi => ?_⟩
  rw [← hx i hi]
  unfold World.cell?
  rw [hf.2.2.2.2 g hlt.2 (fun e => absurd (hO g e) (by omega))]
theorem OwnG.ints {base : Nat} {w : World} {v : Value} {l : List Nat} (h : OwnG 3 base w v (iv l)) : IntRow base w v l := by
  obtain ⟨ao, cap, rfl, hc⟩ := h.parts
  have hl : (iv l).length = l.length := by unfold iv; rw [List.length_map]
  rw [hl]
  refine ⟨ao, cap, rfl, fun hp => ?_⟩
  obtain ⟨g, rfl, hbs, hlt, hx⟩ := hc (fun e => by rw [e] at hl; simp at hl; omega)
  refine ⟨g, 0, rfl, ⟨hbs, hlt⟩, fun i hi => ?_⟩
  rw [Nat.zero_add]
  refine hx i _ ?_
  unfold iv
  rw [List.getElem?_map, List.getElem?_eq_getElem hi]
  simp [List.getD_eq_getElem?_getD, hi]
set_option maxRecDepth 100000 in
set_option maxHeartbeats 1000000 in
theorem ints_same (v1 v2 : Value) (b1 b2 : Nat) (l : List Nat) (w : World) (h1 : IntRow b1 w v1 l) (h2 : IntRow b2 w v2 l) (hl : l.length ≤ 1000) :
    Calls Tryd.prog 19 #[v1, v2] w fun e w' => e = .returned (.bool true) ∧ Below w.heap.size w w' := by
  obtain ⟨a, ca, rfl, ha⟩ := h1
  obtain ⟨b, cb, rfl, hb⟩ := h2
  have HA := hide ha
  have HB := hide hb
  generalize hn : l.length = n at HA HB hl ⊢
  clear ha hb
  have hn' : (n : Int) ≤ 1000 := by omega
  have q1 : ((n : Int) != (n : Int)) = false := by simp
  go_enter Tryd.func19, Tryd.ntmps19
  go_wp2
  go_loopw [5] (fun t wr => ∃ k : Nat, k ≤ n ∧ t = .int .i64 k ∧ Hid (Below w.heap.size w wr)) (fun t _ => n - (intOf t).toNat)
  case atStart => exact ⟨0, by omega, rfl, Below.refl _ _⟩
  case round =>
    obtain ⟨k, hk, rfl, HW⟩ := hrel
    by_cases hlt : k < n
    · obtain ⟨ga, oa, rfl, ⟨-, la⟩, xa⟩ := HA.out (by omega)
      obtain ⟨gb, ob, rfl, ⟨-, lb⟩, xb⟩ := HB.out (by omega)
      have c1 : wr.cell? ⟨ga, oa + k, none⟩ = some (.int .i64 ((l.getD k 0 : Nat) : Int)) := by rw [HW.out.cell (p := ⟨ga, oa + k, none⟩) la]; exact xa k hlt
      have c2 : wr.cell? ⟨gb, ob + k, none⟩ = some (.int .i64 ((l.getD k 0 : Nat) : Int)) := by rw [HW.out.cell (p := ⟨gb, ob + k, none⟩) lb]; exact xb k hlt
      have j1 : (k : Int) < (n : Int) := by omega
      clear xa xb HA HB la lb
      generalize ((l.getD k 0 : Nat) : Int) = x at c1 c2
      have q2 : (x != x) = false := by simp
      go_upto_region 6 with fail
      go_quiet (fail)
      replace HW := hide (bt HW.out (show Below wr.heap.size wr (wr.drewN nq) from ⟨rfl, rfl, rfl, Nat.le_refl _, fun _ _ => rfl⟩))
      clear c1 c2
      generalize wr.drewN nq = wq at HW ⊢
      go_wp2_with fail
      go_roundw
      case rel => exact ⟨k + 1, by omega, by go_num, HW⟩
      case measure => simp [intOf]; omega
    · obtain rfl : n = k := by omega
      go_wp2
      go_ret
      exact ⟨rfl, HW.out⟩
theorem tellO {PP : Value → Nat → (Nat → List Int) → (Nat → Bool) → (Nat → Prop) → World → Prop} (I : PI PP) (m : Nat) (hm : m ≤ 16) (p : Int) (ws : Nat → List Int) (ts : Nat → Bool) : ∃ (E : Int) (Z : List Int),
    ((hs ts (8 * m) p = false ∧ E = 4 ∧ Z = []) ∨ ∃ i : Nat, i < 8 * m ∧ p = 1024 + (i : Int) ∧ ts i = true ∧ E = 0 ∧ Z = ws i) ∧
    (∀ v O W, PP v (8 * m) ws ts O W → Calls Tryd.prog 15 #[v, .int .i64 p] W fun r W' => r = .returned (.tuple #[.agg (sixC Z), ev E]) ∧ PQ PP v (8 * m) ws ts O W W') := by
  cases hp : hs ts (8 * m) p
  · exact ⟨4, [], .inl ⟨rfl, rfl, rfl⟩, fun v O W h => (I.2.2.2.2.1 v m ws ts O W hm h).1 p hp⟩
  · obtain ⟨i, hi, rfl, ht⟩ := hs_cases hp
    exact ⟨0, ws i, .inr ⟨i, hi, rfl, ht, rfl, rfl⟩, fun v O W h => (I.2.2.2.2.1 v m ws ts O W hm h).2 i hi ht⟩
theorem introw_nil (base : Nat) (w : World) : IntRow base w (.slice none 0 0) [] := ⟨none, 0, rfl, fun h => absurd h (by simp)⟩
theorem tellB {PP : Value → Nat → (Nat → List Int) → (Nat → Bool) → (Nat → Prop) → World → Prop} (I : PI PP) (m : Nat) (hm : m ≤ 16) (z : List Int) (ws : Nat → List Int) (ts : Nat → Bool) : ∃ (E : Int) (L : List Nat),
    ((E = 0 ∧ ∀ B BW BT W, RP B BW BT (8 * m) ws ts W → Calls Tryd.prog 17 #[.pointer (some ⟨B, 0, none⟩), .agg (sixC z)] W fun r W' => ∃ b, r = .returned b ∧ IntRow (W.heap.size + 1) W' b L ∧ Below W.heap.size W W') ∨ ((E == 0) = false ∧ L = [])) ∧ L.length ≤ 1000 ∧
    (∀ W, Calls Tryd.prog 16 #[.agg (sixC z)] W fun r W' => r = .returned (.int .i64 E) ∧ Below W.heap.size W W') ∧
    (∀ v O W, PP v (8 * m) ws ts O W → Calls Tryd.prog 18 #[v, .agg (sixC z)] W fun r W' => ∃ b, r = .returned (.tuple #[b, ev E]) ∧ IntRow 0 W' b L ∧ PQ PP v (8 * m) ws ts O W W') := by
  by_cases hz : Ok6 z
  · refine ⟨0, bl ws ts z m, .inl ⟨rfl, fun B BW BT W h => (rblocks_any B BW BT (8 * m) m ws ts z W h (by omega) rfl).mono ?_⟩, Nat.le_trans (bl_len ws ts z m) (by omega), fun W => fault_ok z W hz, fun v O W h => (I.2.2.2.2.2.1 v m ws ts O z W hm h).2 hz⟩
    rintro r W' ⟨b, h1, h2, h3⟩
    exact ⟨b, h1, h2.ints, h3⟩
  · refine ⟨1, [], .inr ⟨rfl, rfl⟩, by simp, fun W => fault_bad z W hz, fun v O W h => ((I.2.2.2.2.2.1 v m ws ts O z W hm h).1 hz).mono ?_⟩
    rintro r W' ⟨h1, h2⟩
    exact ⟨_, h1, introw_nil 0 W', h2⟩
end Go.Proofs.YtchjhmokmpjbdaaDoor
