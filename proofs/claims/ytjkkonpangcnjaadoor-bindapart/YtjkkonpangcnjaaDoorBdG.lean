/- The document's own Use of a bind, by contracts. -/
import Derived.Test.YtjkkonpangcnjaaDoorBdE
namespace Go.Proofs.YtjkkonpangcnjaaDoor
open Go.RowKit

/-- a bind that was used. -/
def usd (b : List Int) (now : Int) : List Int := [el b 0, el b 1, el b 2, el b 3, el b 4, el b 5, el b 6, el b 7, el b 8, el b 9, el b 10, el b 11, el b 12, el b 13, el b 14, el b 15, el b 16, el b 17, el b 18, el b 19, el b 20, el b 21, now]
theorem usd_at (b : List Int) (now : Int) (j : Nat) (hj : j < 23) : el (usd b now) j = if j = 22 then now else el b j := by
  rcases (by omega : j = 0 ∨ j = 1 ∨ j = 2 ∨ j = 3 ∨ j = 4 ∨ j = 5 ∨ j = 6 ∨ j = 7 ∨ j = 8 ∨ j = 9 ∨ j = 10 ∨ j = 11 ∨ j = 12 ∨ j = 13 ∨ j = 14 ∨ j = 15 ∨ j = 16 ∨ j = 17 ∨ j = 18 ∨ j = 19 ∨ j = 20 ∨ j = 21 ∨ j = 22) with rfl | rfl | rfl | rfl | rfl | rfl | rfl | rfl | rfl | rfl | rfl | rfl | rfl | rfl | rfl | rfl | rfl | rfl | rfl | rfl | rfl | rfl | rfl <;> rfl
theorem getD_set {α : Type} (l : List α) (k q : Nat) (x d : α) (hk : k < l.length) : (l.set k x).getD q d = if q = k then x else l.getD q d := by
  simp only [List.getD_eq_getElem?_getD]
  by_cases e : q = k
  · subst e; rw [if_pos rfl, List.getElem?_set_self hk]; rfl
  · rw [if_neg e, List.getElem?_set_ne (fun h => e h.symm)]
theorem bv_set (bs : List (List Int)) (k : Nat) (hk : k < bs.length) (now : Int) : bv (bs.set k (usd (bs.getD k []) now)) = (bv bs).set (k * 23 + 22) (.int .i64 now) := by
  apply List.ext_getElem?
  intro i
  by_cases hi : i < bs.length * 23
  · have h1 := bv_at (bs.set k (usd (bs.getD k []) now)) (i / 23) (i % 23) (by rw [List.length_set]; omega) (by omega)
    have h2 := bv_at bs (i / 23) (i % 23) (by omega) (by omega)
    rw [show i / 23 * 23 + i % 23 = i by omega] at h1 h2
    rw [h1, getD_set bs k (i / 23) _ [] hk]
    by_cases e : i = k * 23 + 22
    · subst e
      rw [List.getElem?_set_self (by rw [bv_len]; omega), show (k * 23 + 22) / 23 = k by omega, if_pos rfl, usd_at _ _ _ (by omega), if_pos (by omega)]
    · rw [List.getElem?_set_ne (fun h => e h.symm), h2]
      by_cases eq : i / 23 = k
      · rw [if_pos eq, usd_at _ _ _ (by omega), if_neg (by omega), eq]
      · rw [if_neg eq]
  · rw [List.getElem?_eq_none (by rw [bv_len, List.length_set]; omega), List.getElem?_eq_none (by rw [List.length_set, bv_len]; omega)]
theorem OwB.set {base : Nat} {w : World} {g cap : Nat} {bs : List (List Int)} (h : OwB base w (.slice (some ⟨g, 0, none⟩) bs.length cap) bs) (k : Nat) (hk : k < bs.length) (now : Int) : OwB base (w.setCell ⟨g, k * 23 + 22, none⟩ (.int .i64 now)) (.slice (some ⟨g, 0, none⟩) bs.length cap) (bs.set k (usd (bs.getD k []) now)) := by
  have h' : w.ownsRow base 41 23 (.slice (some ⟨g, 0, none⟩) bs.length cap) bs.length (bv bs) := h
  have := World.ownsRow.stored h' (k * 23 + 22) (.int .i64 now)
  unfold OwB
  rw [bv_set bs k hk now, List.length_set]
  exact this.1
theorem RT.used {B P BW BT n : Nat} {ws : Nat → List Int} {ts : Nat → Bool} {g cap : Nat} {bs : List (List Int)} {w : World} (h : RT B P BW BT n ws ts (.slice (some ⟨g, 0, none⟩) bs.length cap) bs w) (k : Nat) (hk : k < bs.length) (now : Int) : RT B P BW BT n ws ts (.slice (some ⟨g, 0, none⟩) bs.length cap) (bs.set k (usd (bs.getD k []) now)) (w.setCell ⟨g, k * 23 + 22, none⟩ (.int .i64 now)) := by
  obtain ⟨-, -, -, n4, n5, n6, n7⟩ := h.ne
  have hk' : ∀ a, a ≠ g → (w.setCell ⟨g, k * 23 + 22, none⟩ (.int .i64 now)).heap[a]? = w.heap[a]? := fun a ha => Below.heap_setCell w ⟨g, k * 23 + 22, none⟩ _ a ha
  exact ⟨(hk' B (fun e => n4 (by rw [e]; rfl))).trans h.1, ⟨(hk' P (fun e => n5 (by rw [e]; rfl))).trans h.2.1.1, h.2.1.2.1.same (hk' BW (fun e => n6 (by rw [e]; rfl))), h.2.1.2.2.same (hk' BT (fun e => n7 (by rw [e]; rfl)))⟩, h.2.2.set k hk now⟩
set_option maxRecDepth 100000 in
set_option maxHeartbeats 1000000 in
theorem ruse_none (B P BW BT n : Nat) (ws : Nat → List Int) (ts : Nat → Bool) (v : Value) (bs : List (List Int)) (p now : Int) (w : World) (h : RT B P BW BT n ws ts v bs w) (hl : bs.length ≤ 1000) (hp : prt bs p = none) :
    Calls Tryd.prog 12 #[.pointer (some ⟨B, 0, none⟩), .int .i64 p, .int .i64 now] w fun e w' => e = .returned (.int .i64 4) ∧ w' = w := by
  have HP := hide (rport_any B P BW BT n ws ts v bs p w h hl)
  rw [hp, show ix none = (-1 : Int) from rfl] at HP
  clear h hp
  go_enter Tryd.func12, Tryd.ntmps12
  go_wp2_with (go_at_call 18; refine HP.out.mono ?_; rintro e w' ⟨rfl, rfl⟩)
  go_ret
  exact ⟨rfl, rfl⟩
set_option maxRecDepth 100000 in
set_option maxHeartbeats 1000000 in
theorem ruse_range (B P BW BT n : Nat) (ws : Nat → List Int) (ts : Nat → Bool) (v : Value) (bs : List (List Int)) (p now : Int) (k : Nat) (w : World) (h : RT B P BW BT n ws ts v bs w) (hl : bs.length ≤ 1000) (hp : prt bs p = some k) (ht : tc now = false) :
    Calls Tryd.prog 12 #[.pointer (some ⟨B, 0, none⟩), .int .i64 p, .int .i64 now] w fun e w' => e = .returned (.int .i64 1) ∧ w' = w := by
  have HP := hide (rport_any B P BW BT n ws ts v bs p w h hl)
  rw [hp, show ix (some k) = (k : Int) from rfl] at HP
  have HT := hide (tick_any now w)
  rw [ht] at HT
  have j1 : ¬ (k : Int) < 0 := by omega
  clear h hp ht
  go_enter Tryd.func12, Tryd.ntmps12
  go_wp2_with (first
    | (go_at_call 18; refine HP.out.mono ?_; rintro e w' ⟨rfl, rfl⟩)
    | (go_at_call 14; refine HT.out.mono ?_; rintro e w' ⟨rfl, rfl⟩))
  go_ret
  exact ⟨rfl, rfl⟩
theorem prt_lt {bs : List (List Int)} {p : Int} {k : Nat} (h : prt bs p = some k) : k < bs.length ∧ el (bs.getD k []) 19 = p := by
  unfold prt at h
  rw [List.find?_range_eq_some] at h
  exact ⟨List.mem_range.1 h.2.1, by simpa using h.1⟩
set_option maxRecDepth 100000 in
set_option maxHeartbeats 1000000 in
theorem ruse_state (B P BW BT n : Nat) (ws : Nat → List Int) (ts : Nat → Bool) (v : Value) (bs : List (List Int)) (p now : Int) (k : Nat) (w : World) (h : RT B P BW BT n ws ts v bs w) (hl : bs.length ≤ 1000) (hp : prt bs p = some k) (ht : tc now = true) (hs : now < el (bs.getD k []) 22) :
    Calls Tryd.prog 12 #[.pointer (some ⟨B, 0, none⟩), .int .i64 p, .int .i64 now] w fun e w' => e = .returned (.int .i64 9) ∧ w' = w := by
  have HP := hide (rport_any B P BW BT n ws ts v bs p w h hl)
  have hk := (prt_lt hp).1
  rw [hp, show ix (some k) = (k : Int) from rfl] at HP
  have HT := hide (tick_any now w)
  rw [ht] at HT
  have j1 : ¬ (k : Int) < 0 := by omega
  obtain ⟨ao, cap, rfl, -, -, hg⟩ := h.2.2.shape
  obtain ⟨g, rfl⟩ := hg (by omega)
  have l1 := h.all
  have c1 := h.2.2.cell k 22 hk (by omega)
  generalize el (bs.getD k []) 22 = y at c1 hs
  have j2 : (k : Int) < (bs.length : Int) := by omega
  clear h hp ht hg
  go_enter Tryd.func12, Tryd.ntmps12
  go_wp2_with (first
    | (go_at_call 18; refine HP.out.mono ?_; rintro e w' ⟨rfl, rfl⟩)
    | (go_at_call 14; refine HT.out.mono ?_; rintro e w' ⟨rfl, rfl⟩))
  go_ret
  exact ⟨rfl, rfl⟩
set_option maxRecDepth 100000 in
set_option maxHeartbeats 1000000 in
theorem ruse_ok (B P BW BT n : Nat) (ws : Nat → List Int) (ts : Nat → Bool) (v : Value) (bs : List (List Int)) (p now : Int) (k : Nat) (w : World) (h : RT B P BW BT n ws ts v bs w) (hl : bs.length ≤ 1000) (hp : prt bs p = some k) (ht : tc now = true) (hs : ¬ now < el (bs.getD k []) 22) :
    Calls Tryd.prog 12 #[.pointer (some ⟨B, 0, none⟩), .int .i64 p, .int .i64 now] w fun e w' => e = .returned (.int .i64 0) ∧ RT B P BW BT n ws ts v (bs.set k (usd (bs.getD k []) now)) w' ∧ Fr (fun g => v.ownBlock = some g) w w' := by
  have HP := hide (rport_any B P BW BT n ws ts v bs p w h hl)
  have hk := (prt_lt hp).1
  rw [hp, show ix (some k) = (k : Int) from rfl] at HP
  have HT := hide (tick_any now w)
  rw [ht] at HT
  have j1 : ¬ (k : Int) < 0 := by omega
  obtain ⟨ao, cap, rfl, -, -, hg⟩ := h.2.2.shape
  obtain ⟨g, rfl⟩ := hg (by omega)
  have l1 := h.all
  have c1 := h.2.2.cell k 22 hk (by omega)
  have f1 := h.2.2.frozen (k * 23 + 22)
  have HU := hide (h.used k hk now)
  have HFr := hide (show Fr (fun a => (Value.slice (some ⟨g, 0, none⟩) bs.length cap).ownBlock = some a) w (w.setCell ⟨g, k * 23 + 22, none⟩ (.int .i64 now)) from (setCell_fr w g (k * 23 + 22) _).mono (fun a e => by rw [e]; rfl))
  have j2 : (k : Int) < (bs.length : Int) := by omega
  generalize bs.set k (usd (bs.getD k []) now) = bs' at HU ⊢
  generalize el (bs.getD k []) 22 = y at c1 hs
  clear h hp ht hg
  go_enter Tryd.func12, Tryd.ntmps12
  go_wp2_with (first
    | (go_at_call 18; refine HP.out.mono ?_; rintro e w' ⟨rfl, rfl⟩)
    | (go_at_call 14; refine HT.out.mono ?_; rintro e w' ⟨rfl, rfl⟩))
  go_ret
  exact ⟨rfl, HU.out, HFr.out⟩
end Go.Proofs.YtjkkonpangcnjaaDoor
