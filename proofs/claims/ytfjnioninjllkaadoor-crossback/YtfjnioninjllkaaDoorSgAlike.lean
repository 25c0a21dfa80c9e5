/- Package seg: alike, by contracts. -/
import Derived.Test.YtfjnioninjllkaaDoorSgRead
namespace Go.Proofs.YtfjnioninjllkaaDoor
open Go.RowKit

/-- the part behind a place, at whatever address the language gives it. -/
theorem Row8.behind {w : World} {g off len cap : Nat} {zs : List Int} (h : Row8 w (some ⟨g, off, none⟩) len cap zs) (n : Nat) (hn : n ≤ len) (hc : len ≤ cap) (ao : Option Addr) (hao : (if cap = n then some (⟨g, off, none⟩ : Addr) else some ⟨g, off + n, none⟩) = ao) : Row8 w ao (len - n) (cap - n) (zs.drop n) := by
  have := h.part n len hn (Nat.le_refl _) ao (cap - n) (fun b o hlt e => by cases e; rw [← hao, if_neg (by omega)]) (fun e => by rw [e] at hao; split at hao <;> cases hao)
  exact this.congr (List.take_of_length_le (by rw [List.length_drop, h.1]; exact Nat.le_refl _))

set_option maxRecDepth 100000 in
set_option maxHeartbeats 4000000 in
theorem alike_tcp (k : Int) (hk : k = 6) (gx ox lx cx gz oz lz cz : Nat) (xs zs : List Int) (w : World) (rx : Row8 w (some ⟨gx, ox, none⟩) lx cx xs) (rz : Row8 w (some ⟨gz, oz, none⟩) lz cz zs) (hx : 18 ≤ lx) (hz : 18 ≤ lz) (hxc : lx ≤ cx) (hzc : lz ≤ cz) (hxm : cx ≤ maxLen) (hzm : cz ≤ maxLen)
    (r : Bool) (hr : (xs.take 16 = zs.take 16 ∧ xs.drop 18 = zs.drop 18) ↔ r = true) :
    Calls Tryd.prog 71 #[.int .i64 k, .slice (some ⟨gx, ox, none⟩) lx cx, .slice (some ⟨gz, oz, none⟩) lz cz] w fun e w' => e = .returned (.bool r) ∧ ∃ n, w' = w.drewN n := by
  obtain ⟨ax, hax⟩ : ∃ ao, (if cx = 18 then some (⟨gx, ox, none⟩ : Addr) else some ⟨gx, ox + 18, none⟩) = ao := ⟨_, rfl⟩
  obtain ⟨az, haz⟩ : ∃ ao, (if cz = 18 then some (⟨gz, oz, none⟩ : Addr) else some ⟨gz, oz + 18, none⟩) = ao := ⟨_, rfl⟩
  have a1 := fun n => row_take (rx.drewN n) 16 cx (by omega)
  have a2 := fun n => row_take (rz.drewN n) 16 cz (by omega)
  have b1 := fun n => (rx.drewN n).behind 18 hx hxc ax hax
  have b2 := fun n => (rz.drewN n).behind 18 hz hzc az haz
  have H1 := hide (fun r hr n => equal_any _ _ _ _ _ _ _ _ _ (a1 n) (a2 n) r hr)
  have H2 := hide (fun r hr n => equal_any _ _ _ _ _ _ _ _ _ (b1 n) (b2 n) r hr)
  have HC := hide (fun W => checkat_any k W)
  rw [show cn k = 16 by unfold cn; rw [if_pos hk]] at HC
  clear a1 a2 b1 b2 rx rz hk
  unfold maxLen at hxm hzm
  have i1 : (16 : Int) ≤ (cx : Int) := by omega
  have i2 : (16 : Int) ≤ (cz : Int) := by omega
  have i3 : (18 : Int) ≤ (lx : Int) := by omega
  have i4 : (18 : Int) ≤ (lz : Int) := by omega
  have i5 : (lx : Int) ≤ (cx : Int) := by omega
  have i6 : (lz : Int) ≤ (cz : Int) := by omega
  by_cases h1 : xs.take 16 = zs.take 16
  · have H1' := hide (H1.out true (by simp [h1]))
    have H2' := hide (H2.out r (by rw [← hr]; simp [h1]))
    clear H1 H2 h1 hr
    go_enter Tryd.func71, Tryd.ntmps71
    go_upto_region 3 with (go_at_call 35; refine (HC.out _).mono ?_; rintro e w' ⟨rfl, hw⟩; rw [hw]; clear hw w')
    go_quiet (first
      | (go_at_call 40; with_reducible refine Calls.quiet_of_same (H1'.out _))
      | (go_at_call 40; with_reducible refine Calls.quiet_of_same (H2'.out _)))
    go_wp2
    go_ret
    exact ⟨rfl, _, rfl⟩
  · have H1' := hide (H1.out false (by simp [h1]))
    have hf : r = false := by
      cases r
      · rfl
      · exact absurd (hr.2 rfl).1 h1
    subst hf
    clear H1 H2 h1 hr
    go_enter Tryd.func71, Tryd.ntmps71
    go_upto_region 3 with (go_at_call 35; refine (HC.out _).mono ?_; rintro e w' ⟨rfl, hw⟩; rw [hw]; clear hw w')
    go_quiet (first | (go_at_call 40; with_reducible refine Calls.quiet_of_same (H1'.out _)))
    go_wp2
    go_ret
    exact ⟨rfl, _, rfl⟩

set_option maxRecDepth 100000 in
set_option maxHeartbeats 4000000 in
theorem alike_udp (k : Int) (hk : ¬ k = 6) (gx ox lx cx gz oz lz cz : Nat) (xs zs : List Int) (w : World) (rx : Row8 w (some ⟨gx, ox, none⟩) lx cx xs) (rz : Row8 w (some ⟨gz, oz, none⟩) lz cz zs) (hx : 8 ≤ lx) (hz : 8 ≤ lz) (hxc : lx ≤ cx) (hzc : lz ≤ cz) (hxm : cx ≤ maxLen) (hzm : cz ≤ maxLen)
    (r : Bool) (hr : (xs.take 6 = zs.take 6 ∧ xs.drop 8 = zs.drop 8) ↔ r = true) :
    Calls Tryd.prog 71 #[.int .i64 k, .slice (some ⟨gx, ox, none⟩) lx cx, .slice (some ⟨gz, oz, none⟩) lz cz] w fun e w' => e = .returned (.bool r) ∧ ∃ n, w' = w.drewN n := by
  obtain ⟨ax, hax⟩ : ∃ ao, (if cx = 8 then some (⟨gx, ox, none⟩ : Addr) else some ⟨gx, ox + 8, none⟩) = ao := ⟨_, rfl⟩
  obtain ⟨az, haz⟩ : ∃ ao, (if cz = 8 then some (⟨gz, oz, none⟩ : Addr) else some ⟨gz, oz + 8, none⟩) = ao := ⟨_, rfl⟩
  have a1 := fun n => row_take (rx.drewN n) 6 cx (by omega)
  have a2 := fun n => row_take (rz.drewN n) 6 cz (by omega)
  have b1 := fun n => (rx.drewN n).behind 8 hx hxc ax hax
  have b2 := fun n => (rz.drewN n).behind 8 hz hzc az haz
  have H1 := hide (fun r hr n => equal_any _ _ _ _ _ _ _ _ _ (a1 n) (a2 n) r hr)
  have H2 := hide (fun r hr n => equal_any _ _ _ _ _ _ _ _ _ (b1 n) (b2 n) r hr)
  have HC := hide (fun W => checkat_any k W)
  rw [show cn k = 6 by unfold cn; rw [if_neg hk]] at HC
  clear a1 a2 b1 b2 rx rz hk
  unfold maxLen at hxm hzm
  have i1 : (6 : Int) ≤ (cx : Int) := by omega
  have i2 : (6 : Int) ≤ (cz : Int) := by omega
  have i3 : (8 : Int) ≤ (lx : Int) := by omega
  have i4 : (8 : Int) ≤ (lz : Int) := by omega
  have i5 : (lx : Int) ≤ (cx : Int) := by omega
  have i6 : (lz : Int) ≤ (cz : Int) := by omega
  by_cases h1 : xs.take 6 = zs.take 6
  · have H1' := hide (H1.out true (by simp [h1]))
    have H2' := hide (H2.out r (by rw [← hr]; simp [h1]))
    clear H1 H2 h1 hr
    go_enter Tryd.func71, Tryd.ntmps71
    go_upto_region 3 with (go_at_call 35; refine (HC.out _).mono ?_; rintro e w' ⟨rfl, hw⟩; rw [hw]; clear hw w')
    go_quiet (first
      | (go_at_call 40; with_reducible refine Calls.quiet_of_same (H1'.out _))
      | (go_at_call 40; with_reducible refine Calls.quiet_of_same (H2'.out _)))
    go_wp2
    go_ret
    exact ⟨rfl, _, rfl⟩
  · have H1' := hide (H1.out false (by simp [h1]))
    have hf : r = false := by
      cases r
      · rfl
      · exact absurd (hr.2 rfl).1 h1
    subst hf
    clear H1 H2 h1 hr
    go_enter Tryd.func71, Tryd.ntmps71
    go_upto_region 3 with (go_at_call 35; refine (HC.out _).mono ?_; rintro e w' ⟨rfl, hw⟩; rw [hw]; clear hw w')
    go_quiet (first | (go_at_call 40; with_reducible refine Calls.quiet_of_same (H1'.out _)))
    go_wp2
    go_ret
    exact ⟨rfl, _, rfl⟩
/-- alike, of whatever kind. -/
theorem alike_any (k : Int) (gx ox lx cx gz oz lz cz : Nat) (xs zs : List Int) (w : World) (rx : Row8 w (some ⟨gx, ox, none⟩) lx cx xs) (rz : Row8 w (some ⟨gz, oz, none⟩) lz cz zs) (hx : hn k ≤ lx) (hz : hn k ≤ lz) (hxc : lx ≤ cx) (hzc : lz ≤ cz) (hxm : cx ≤ maxLen) (hzm : cz ≤ maxLen)
    (r : Bool) (hr : (xs.take (cn k) = zs.take (cn k) ∧ xs.drop (cn k + 2) = zs.drop (cn k + 2)) ↔ r = true) :
    Calls Tryd.prog 71 #[.int .i64 k, .slice (some ⟨gx, ox, none⟩) lx cx, .slice (some ⟨gz, oz, none⟩) lz cz] w fun e w' => e = .returned (.bool r) ∧ Below w.heap.size w w' := by
  have hdr : ∀ n, Below w.heap.size w (w.drewN n) := fun n => ⟨rfl, rfl, rfl, Nat.le_refl _, fun _ _ => rfl⟩
  by_cases hk : k = 6
  · have e1 : cn k = 16 := by unfold cn; rw [if_pos hk]
    have e2 : hn k = 20 := by unfold hn; rw [if_pos hk]
    rw [e1] at hr
    exact (alike_tcp k hk gx ox lx cx gz oz lz cz xs zs w rx rz (by omega) (by omega) hxc hzc hxm hzm r hr).mono fun e w' ⟨h1, n, h2⟩ => ⟨h1, by rw [h2]; exact hdr n⟩
  · have e1 : cn k = 6 := by unfold cn; rw [if_neg hk]
    have e2 : hn k = 8 := by unfold hn; rw [if_neg hk]
    rw [e1] at hr
    exact (alike_udp k hk gx ox lx cx gz oz lz cz xs zs w rx rz (by omega) (by omega) hxc hzc hxm hzm r hr).mono fun e w' ⟨h1, n, h2⟩ => ⟨h1, by rw [h2]; exact hdr n⟩
/-- what is read out of bytes. -/
def rdz (k : Int) (zs : List Int) : List Int := if k = 6 then [k, num zs 2, num (zs.drop 2) 2, num (zs.drop 4) 4, num (zs.drop 8) 4, num (zs.drop 13) 1, num (zs.drop 14) 2] else [k, num zs 2, num (zs.drop 2) 2, 0, 0, 0, 0]
/-- read, of whatever kind. -/
theorem read_any (k : Int) (g off len cap : Nat) (zs : List Int) (w : World) (hr : Row8 w (some ⟨g, off, none⟩) len cap zs) (hH : hn k ≤ len) (hM : len ≤ 320) (hcl : len ≤ cap) (hcm : cap ≤ maxLen) :
    Calls Tryd.prog 70 #[.int .i64 k, .slice (some ⟨g, off, none⟩) len cap] w fun e w' => ∃ a' c', e = .returned (.agg (sgC (rdz k zs) a' (len - hn k) c')) ∧ Own w.heap.size w' (.slice a' (len - hn k) c') (zs.drop (hn k)) ∧ Below w.heap.size w w' := by
  by_cases hk : k = 6
  · have e2 : hn k = 20 := by unfold hn; rw [if_pos hk]
    have e3 : rdz k zs = [k, num zs 2, num (zs.drop 2) 2, num (zs.drop 4) 4, num (zs.drop 8) 4, num (zs.drop 13) 1, num (zs.drop 14) 2] := if_pos hk
    rw [e2, e3]
    exact read_tcp k g off len cap zs w hr hk (by omega) hM hcl hcm
  · have e2 : hn k = 8 := by unfold hn; rw [if_neg hk]
    have e3 : rdz k zs = [k, num zs 2, num (zs.drop 2) 2, 0, 0, 0, 0] := if_neg hk
    rw [e2, e3]
    exact read_udp k g off len cap zs w hr hk (by omega) hM hcl hcm
end Go.Proofs.YtfjnioninjllkaaDoor
