/- Segments in numbers, third part: when bytes that are read and written anew are the same. -/
import Derived.Test.YtfjnioninjllkaaDoorSgSo3
namespace Go.Proofs.YtfjnioninjllkaaDoor
open Go.RowKit

theorem mix_getD (h zs : List Int) (H : Nat) (hl : h.length = H) (j : Nat) : (h ++ zs.drop H).getD j 0 = if j < H then h.getD j 0 else zs.getD j 0 := by
  split
  · rename_i hj; exact getD_app _ _ _ (by omega)
  · rename_i hj
    rw [List.getD_eq_getElem?_getD, List.getElem?_append_right (by omega), ← List.getD_eq_getElem?_getD, P4.getD_drop, hl, show H + (j - H) = j by omega]
theorem mix_len (h zs : List Int) (H : Nat) (hl : h.length = H) (hz : H ≤ zs.length) : (h ++ zs.drop H).length = zs.length := by
  rw [List.length_append, List.length_drop]
  omega
theorem mix_take (h zs : List Int) (H c : Nat) (hl : h.length = H) (hz : H ≤ zs.length) (hc : c ≤ H) : (h ++ zs.drop H).take c = zs.take c ↔ ∀ j, j < c → h.getD j 0 = zs.getD j 0 := by
  constructor
  · intro e j hj
    have g := congrArg (fun l => l.getD j 0) e
    simp only [P4.getD_take hj, mix_getD h zs H hl] at g
    rw [if_pos (by omega)] at g
    exact g
  · intro e
    apply P4.ext_getD (by rw [List.length_take, List.length_take, mix_len h zs H hl hz])
    intro j hj
    rw [List.length_take] at hj
    rw [P4.getD_take (by omega), P4.getD_take (by omega), mix_getD h zs H hl, if_pos (by omega)]
    exact e j (by omega)
theorem mix_drop (h zs : List Int) (H c : Nat) (hl : h.length = H) (hz : H ≤ zs.length) : (h ++ zs.drop H).drop c = zs.drop c ↔ ∀ j, c ≤ j → j < H → h.getD j 0 = zs.getD j 0 := by
  constructor
  · intro e j hj hj2
    have g := congrArg (fun l => l.getD (j - c) 0) e
    simp only [P4.getD_drop, mix_getD h zs H hl] at g
    rw [show c + (j - c) = j by omega, if_pos hj2] at g
    exact g
  · intro e
    apply P4.ext_getD (by rw [List.length_drop, List.length_drop, mix_len h zs H hl hz])
    intro j _
    rw [P4.getD_drop, P4.getD_drop, mix_getD h zs H hl]
    split
    · exact e _ (by omega) (by assumption)
    · rfl
theorem mix_same (h zs : List Int) (H : Nat) (hl : h.length = H) (hz : H ≤ zs.length) : h ++ zs.drop H = zs ↔ ∀ j, j < H → h.getD j 0 = zs.getD j 0 := by
  have := mix_drop h zs H 0 hl hz
  simp only [List.drop_zero, Nat.zero_le, true_implies] at this
  exact this
theorem udp_eb (zs : List Int) (over : Int) (ho : SM.Oct zs) (h1 : 8 ≤ zs.length) (h2 : zs.length ≤ 308) : eb (rdz 17 zs) over (zs.drop 8) = hdU (zs.getD 0 0 * 256 + zs.getD 1 0) (zs.getD 2 0 * 256 + zs.getD 3 0) zs.length (sck (rdz 17 zs) over (zs.drop 8)) ++ zs.drop 8 := by
  obtain ⟨e0, e1, e2, -⟩ := rdz_udp zs
  have hd : (zs.drop 8).length = zs.length - 8 := List.length_drop
  rw [eb_udp _ _ _ (okg_udp zs ho _ (by omega)) (by rw [e0]; decide), e1, e2, hd, show (8 : Int) + ((zs.length - 8 : Nat) : Int) = (zs.length : Int) by omega]
theorem udp_like (zs : List Int) (over : Int) (ho : SM.Oct zs) (h1 : 8 ≤ zs.length) (h2 : zs.length ≤ 308) : ((eb (rdz 17 zs) over (zs.drop 8)).take 6 = zs.take 6 ∧ (eb (rdz 17 zs) over (zs.drop 8)).drop 8 = zs.drop 8) ↔ P4.wd zs 4 = (zs.length : Int) := by
  rw [udp_eb zs over ho h1 h2]
  generalize sck (rdz 17 zs) over (zs.drop 8) = C
  rw [mix_take _ zs 8 6 rfl h1 (by omega), mix_drop _ zs 8 8 rfl h1]
  have o0 := ho 0; have o1 := ho 1; have o2 := ho 2; have o3 := ho 3; have o4 := ho 4; have o5 := ho 5
  constructor
  · rintro ⟨e, -⟩
    have e4 := e 4 (by omega)
    have e5 := e 5 (by omega)
    simp only [hdU, List.getD_cons_zero, List.getD_cons_succ] at e4 e5
    unfold P4.wd
    simp only [Nat.reduceAdd]
    omega
  · intro e
    unfold P4.wd at e
    simp only [Nat.reduceAdd] at e
    refine ⟨fun j hj => ?_, fun j _ _ => by omega⟩
    rcases (by omega : j = 0 ∨ j = 1 ∨ j = 2 ∨ j = 3 ∨ j = 4 ∨ j = 5) with rfl | rfl | rfl | rfl | rfl | rfl <;> simp only [hdU, List.getD_cons_zero, List.getD_cons_succ] <;> omega
theorem udp_same (zs : List Int) (over : Int) (ho : SM.Oct zs) (h1 : 8 ≤ zs.length) (h2 : zs.length ≤ 308) (hov : up 65535 over = true) (he : P4.wd zs 4 = (zs.length : Int)) : eb (rdz 17 zs) over (zs.drop 8) = zs ↔ P4.wd zs 6 = sck (rdz 17 zs) over (zs.drop 8) := by
  rw [udp_eb zs over ho h1 h2]
  have hC := sck_in (rdz 17 zs) over (zs.drop 8) (P4.oct_drop _ ho _) hov
  generalize sck (rdz 17 zs) over (zs.drop 8) = C at hC
  rw [mix_same _ zs 8 rfl h1]
  have o0 := ho 0; have o1 := ho 1; have o2 := ho 2; have o3 := ho 3; have o4 := ho 4; have o5 := ho 5; have o6 := ho 6; have o7 := ho 7
  unfold P4.wd at he ⊢
  simp only [Nat.reduceAdd] at he ⊢
  constructor
  · intro e
    have e6 := e 6 (by omega)
    have e7 := e 7 (by omega)
    simp only [hdU, List.getD_cons_zero, List.getD_cons_succ] at e6 e7
    omega
  · intro e j hj
    rcases (by omega : j = 0 ∨ j = 1 ∨ j = 2 ∨ j = 3 ∨ j = 4 ∨ j = 5 ∨ j = 6 ∨ j = 7) with rfl | rfl | rfl | rfl | rfl | rfl | rfl | rfl <;> simp only [hdU, List.getD_cons_zero, List.getD_cons_succ] <;> omega
theorem tcp_eb (zs : List Int) (over : Int) (ho : SM.Oct zs) (h1 : 20 ≤ zs.length) (h2 : zs.length ≤ 320) (h13 : zs.getD 13 0 ≤ 31) : eb (rdz 6 zs) over (zs.drop 20) = hdT (zs.getD 0 0 * 256 + zs.getD 1 0) (zs.getD 2 0 * 256 + zs.getD 3 0) (((zs.getD 4 0 * 256 + zs.getD 5 0) * 256 + zs.getD 6 0) * 256 + zs.getD 7 0) (((zs.getD 8 0 * 256 + zs.getD 9 0) * 256 + zs.getD 10 0) * 256 + zs.getD 11 0) (zs.getD 13 0) (zs.getD 14 0 * 256 + zs.getD 15 0) (sck (rdz 6 zs) over (zs.drop 20)) ++ zs.drop 20 := by
  obtain ⟨e0, e1, e2, e3, e4, e5, e6⟩ := rdz_tcp zs
  have hd : (zs.drop 20).length = zs.length - 20 := List.length_drop
  rw [eb_tcp _ _ _ ((okg_tcp zs ho _ (by omega)).2 h13) e0, e1, e2, e3, e4, e5, e6]
theorem tcp_like (zs : List Int) (over : Int) (ho : SM.Oct zs) (h1 : 20 ≤ zs.length) (h2 : zs.length ≤ 320) (h13 : zs.getD 13 0 ≤ 31) : ((eb (rdz 6 zs) over (zs.drop 20)).take 16 = zs.take 16 ∧ (eb (rdz 6 zs) over (zs.drop 20)).drop 18 = zs.drop 18) ↔ zs.getD 12 0 = 80 ∧ zs.getD 13 0 ≤ 31 ∧ P4.wd zs 18 = 0 := by
  rw [tcp_eb zs over ho h1 h2 h13]
  generalize sck (rdz 6 zs) over (zs.drop 20) = C
  rw [mix_take _ zs 20 16 rfl h1 (by omega), mix_drop _ zs 20 18 rfl h1]
  have o0 := ho 0; have o1 := ho 1; have o2 := ho 2; have o3 := ho 3; have o4 := ho 4; have o5 := ho 5; have o6 := ho 6; have o7 := ho 7
  have o8 := ho 8; have o9 := ho 9; have o10 := ho 10; have o11 := ho 11; have o12 := ho 12; have o13 := ho 13; have o14 := ho 14; have o15 := ho 15; have o18 := ho 18; have o19 := ho 19
  unfold P4.wd
  simp only [Nat.reduceAdd]
  constructor
  · rintro ⟨e, e'⟩
    have e12 := e 12 (by omega)
    have e18 := e' 18 (by omega) (by omega)
    have e19 := e' 19 (by omega) (by omega)
    simp only [hdT, List.getD_cons_zero, List.getD_cons_succ] at e12 e18 e19
    omega
  · intro e
    refine ⟨fun j hj => ?_, fun j hj hj2 => ?_⟩
    · rcases (by omega : j = 0 ∨ j = 1 ∨ j = 2 ∨ j = 3 ∨ j = 4 ∨ j = 5 ∨ j = 6 ∨ j = 7 ∨ j = 8 ∨ j = 9 ∨ j = 10 ∨ j = 11 ∨ j = 12 ∨ j = 13 ∨ j = 14 ∨ j = 15) with rfl | rfl | rfl | rfl | rfl | rfl | rfl | rfl | rfl | rfl | rfl | rfl | rfl | rfl | rfl | rfl <;> simp only [hdT, List.getD_cons_zero, List.getD_cons_succ] <;> omega
    · rcases (by omega : j = 18 ∨ j = 19) with rfl | rfl <;> simp only [hdT, List.getD_cons_zero, List.getD_cons_succ] <;> omega
theorem tcp_same (zs : List Int) (over : Int) (ho : SM.Oct zs) (h1 : 20 ≤ zs.length) (h2 : zs.length ≤ 320) (hov : up 65535 over = true) (he : zs.getD 12 0 = 80 ∧ zs.getD 13 0 ≤ 31 ∧ P4.wd zs 18 = 0) : eb (rdz 6 zs) over (zs.drop 20) = zs ↔ P4.wd zs 16 = sck (rdz 6 zs) over (zs.drop 20) := by
  rw [tcp_eb zs over ho h1 h2 he.2.1]
  have hC := sck_in (rdz 6 zs) over (zs.drop 20) (P4.oct_drop _ ho _) hov
  generalize sck (rdz 6 zs) over (zs.drop 20) = C at hC
  rw [mix_same _ zs 20 rfl h1]
  have o0 := ho 0; have o1 := ho 1; have o2 := ho 2; have o3 := ho 3; have o4 := ho 4; have o5 := ho 5; have o6 := ho 6; have o7 := ho 7
  have o8 := ho 8; have o9 := ho 9; have o10 := ho 10; have o11 := ho 11; have o12 := ho 12; have o13 := ho 13; have o14 := ho 14; have o15 := ho 15; have o16 := ho 16; have o17 := ho 17; have o18 := ho 18; have o19 := ho 19
  unfold P4.wd at he ⊢
  simp only [Nat.reduceAdd] at he ⊢
  constructor
  · intro e
    have e16 := e 16 (by omega)
    have e17 := e 17 (by omega)
    simp only [hdT, List.getD_cons_zero, List.getD_cons_succ] at e16 e17
    omega
  · intro e j hj
    rcases (by omega : j = 0 ∨ j = 1 ∨ j = 2 ∨ j = 3 ∨ j = 4 ∨ j = 5 ∨ j = 6 ∨ j = 7 ∨ j = 8 ∨ j = 9 ∨ j = 10 ∨ j = 11 ∨ j = 12 ∨ j = 13 ∨ j = 14 ∨ j = 15 ∨ j = 16 ∨ j = 17 ∨ j = 18 ∨ j = 19) with rfl | rfl | rfl | rfl | rfl | rfl | rfl | rfl | rfl | rfl | rfl | rfl | rfl | rfl | rfl | rfl | rfl | rfl | rfl | rfl <;> simp only [hdT, List.getD_cons_zero, List.getD_cons_succ] <;> omega
end Go.Proofs.YtfjnioninjllkaaDoor
