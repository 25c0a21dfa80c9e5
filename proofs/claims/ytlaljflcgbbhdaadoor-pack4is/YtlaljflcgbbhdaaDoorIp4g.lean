/- Package ip4: alike, by a contract. -/
import Derived.Test.YtlaljflcgbbhdaaDoorIp4a
import Derived.Deep.CutBlock
import Derived.Deep.QuietTactic
namespace Go.Proofs.YtlaljflcgbbhdaaDoor
open Go.RowKit

theorem Row8.drewN {w : World} {a : Option Addr} {len cap : Nat} {zs : List Int} (h : Row8 w a len cap zs) (n : Nat) : Row8 (w.drewN n) a len cap zs := h.below ((Below.refl _ _).trans ⟨rfl, rfl, rfl, Nat.le_refl _, fun _ _ => rfl⟩)
theorem row_take {w : World} {g off len cap : Nat} {zs : List Int} (h : Row8 w (some ⟨g, off, none⟩) len cap zs) (n c : Nat) (hn : n ≤ len) : Row8 w (some ⟨g, off, none⟩) n c (zs.take n) := by
  have := h.part 0 n (by omega) hn (some ⟨g, off, none⟩) c (fun b o _ e => by cases e; rfl) (fun e => by cases e)
  simpa using this
theorem row_drop {w : World} {g off len cap : Nat} {zs : List Int} (h : Row8 w (some ⟨g, off, none⟩) len cap zs) (n c : Nat) (hn : n ≤ len) : Row8 w (some ⟨g, off + n, none⟩) (len - n) c (zs.drop n) := by
  have := h.part n len hn (Nat.le_refl _) (some ⟨g, off + n, none⟩) c (fun b o _ e => by cases e; rfl) (fun e => by cases e)
  exact this.congr (List.take_of_length_le (by rw [List.length_drop, h.1]; exact Nat.le_refl _))

set_option maxRecDepth 100000 in
set_option maxHeartbeats 4000000 in
theorem alike_any (gx ox lx cx gz oz lz cz : Nat) (xs zs : List Int) (w : World) (rx : Row8 w (some ⟨gx, ox, none⟩) lx cx xs) (rz : Row8 w (some ⟨gz, oz, none⟩) lz cz zs) (hx : 20 ≤ lx) (hz : 20 ≤ lz) (hxc : lx ≤ cx) (hzc : lz ≤ cz) (hxm : cx ≤ maxLen) (hzm : cz ≤ maxLen)
    (r : Bool) (hr : (xs.take 10 = zs.take 10 ∧ xs.drop 12 = zs.drop 12) ↔ r = true) :
    Calls Tryd.prog 24 #[.slice (some ⟨gx, ox, none⟩) lx cx, .slice (some ⟨gz, oz, none⟩) lz cz] w fun e w' => e = .returned (.bool r) ∧ ∃ n, w' = w.drewN n := by
  have a1 := fun n => row_take (rx.drewN n) 10 cx (by omega)
  have a2 := fun n => row_take (rz.drewN n) 10 cz (by omega)
  have b1 := fun n => row_drop (rx.drewN n) 12 (cx - 12) (by omega)
  have b2 := fun n => row_drop (rz.drewN n) 12 (cz - 12) (by omega)
  have H1 := hide (fun r hr n => equal_any _ _ _ _ _ _ _ _ _ (a1 n) (a2 n) r hr)
  have H2 := hide (fun r hr n => equal_any _ _ _ _ _ _ _ _ _ (b1 n) (b2 n) r hr)
  clear a1 a2 b1 b2 rx rz
  unfold maxLen at hxm hzm
  have i1 : (10 : Int) ≤ (cx : Int) := by omega
  have i2 : (10 : Int) ≤ (cz : Int) := by omega
  have i3 : (12 : Int) ≤ (lx : Int) := by omega
  have i4 : (12 : Int) ≤ (lz : Int) := by omega
  have i5 : (lx : Int) ≤ (cx : Int) := by omega
  have i6 : (lz : Int) ≤ (cz : Int) := by omega
  have i7 : cx ≠ 12 := by omega
  have i8 : cz ≠ 12 := by omega
  by_cases h1 : xs.take 10 = zs.take 10
  · have H1' := hide (H1.out true (by simp [h1]))
    have H2' := hide (H2.out r (by rw [← hr]; simp [h1]))
    clear H1 H2 h1 hr
    go_enter Tryd.func24, Tryd.ntmps24
    go_upto_region 1 with fail
    go_quiet (first
      | (go_at_call 25; with_reducible refine Calls.quiet_of_same (H1'.out _))
      | (go_at_call 25; with_reducible refine Calls.quiet_of_same (H2'.out _)))
    go_wp2
    go_ret
    exact ⟨rfl, _, rfl⟩
  · have H1' := hide (H1.out false (by simp [h1]))
    have hf : r = false := by
      cases r
      · rfl
      · exact absurd (hr.2 rfl).1 h1
    subst hf
    clear H1 H2 h1 hr
    go_enter Tryd.func24, Tryd.ntmps24
    go_upto_region 1 with fail
    go_quiet (first | (go_at_call 25; with_reducible refine Calls.quiet_of_same (H1'.out _)))
    go_wp2
    go_ret
    exact ⟨rfl, _, rfl⟩
end Go.Proofs.YtlaljflcgbbhdaaDoor
