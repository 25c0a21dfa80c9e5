/- Package seg: overOf, Over4 and Over6, by contracts. -/
import Derived.Test.YtfjnioninjllkaaDoorSgUp
namespace Go.Proofs.YtfjnioninjllkaaDoor
open Go.RowKit

theorem upto1 (m x : Int) (B : Nat) (w : World) (h : Ints B [x] w) : Calls Tryd.prog 32 #[.int .i64 m, .slice (some ⟨B, 0, none⟩) 1 1] w fun e w' => e = .returned (.bool (up m x)) ∧ w' = w := by
  have h := upto_any m B 1 [x] w rfl (by omega) h
  rw [show ups m [x] = up m x by simp [ups]] at h
  exact h
theorem ints_al (w : World) (o : Obj) (l : List Int) : Ints (w.heap.size + 1) l ((w.alloc o).alloc (.cells (l.map (Value.int .i64)).toArray 3)) := by
  have := ints_new (w.alloc o) l
  rw [World.size_alloc] at this
  exact this
/-- two numbers, of two bytes each. -/
theorem write22 (W0 : World) (v : Value) (zs : List Int) (x y : Int) (B : Nat) (w : World) (hg : Gr W0 w v zs) (hl : Ints B [x, y] w) (hz : zs.length ≤ 1000000) :
    Calls Tryd.prog 51 #[v, .int .i64 2, .slice (some ⟨B, 0, none⟩) 2 2] w fun e w' => ∃ v', e = .returned v' ∧ Gr W0 w' v' (zs ++ wsn 2 [x, y] 2) :=
  write_any W0 v zs 2 B 2 [x, y] w hg hl rfl (by omega) (by omega) hz
/-- two numbers, of four bytes each. -/
theorem write24 (W0 : World) (v : Value) (zs : List Int) (x y : Int) (B : Nat) (w : World) (hg : Gr W0 w v zs) (hl : Ints B [x, y] w) (hz : zs.length ≤ 1000000) :
    Calls Tryd.prog 51 #[v, .int .i64 4, .slice (some ⟨B, 0, none⟩) 2 2] w fun e w' => ∃ v', e = .returned v' ∧ Gr W0 w' v' (zs ++ wsn 4 [x, y] 2) :=
  write_any W0 v zs 4 B 2 [x, y] w hg hl rfl (by omega) (by omega) hz
theorem ints2 (w : World) (x y : Int) : Ints w.heap.size [x, y] (w.alloc (.cells #[.int .i64 x, .int .i64 y] 3)) := ints_new w [x, y]
/-- an error's value. -/
def err (n : Int) : Value := .iface 29 (.int .i64 n)
/-- the sum of what stands over a segment. -/
def ovs (zs : List Int) (k n : Int) : Int := SM.fold (SM.tot (zs ++ wsn 2 [k, n] 2) (zs.length + 4))

theorem overof_bad (W0 w : World) (v : Value) (zs : List Int) (k n : Int) (hg : Gr W0 w v zs) (h : up 255 k = false ∨ up 320 n = false) :
    Calls Tryd.prog 30 #[v, .int .i64 k, .int .i64 n] w fun e w' => e = .returned (.tuple #[.int .i64 0, err 1]) ∧ Below W0.heap.size W0 w' := by
  have HG := hide hg
  unfold err
  clear hg
  generalize hk : up 255 k = uk at h
  have hb1 := hide (al_below w (.cells #[.int .i64 k] 3))
  have hb2 := hide (bt hb1.out (al_below _ (.cells #[.int .i64 n] 3)))
  have I1 := hide (show Ints w.heap.size [k] (w.alloc (.cells #[.int .i64 k] 3)) from ints_new w [k])
  have I2 := hide (show Ints (w.heap.size + 1) [n] ((w.alloc (.cells #[.int .i64 k] 3)).alloc (.cells #[.int .i64 n] 3)) from ints_al w _ [n])
  cases uk
  · clear h
    go_enter Tryd.func30, Tryd.ntmps30
    go_wp2_with (first | (go_at_call 32; with_reducible refine (upto1 _ _ _ _ I1.out).mono ?_; rintro e w' ⟨rfl, rfl⟩) | (go_at_call 32; with_reducible refine (upto1 _ _ _ _ I2.out).mono ?_; rintro e w' ⟨rfl, rfl⟩))
    go_ret2
    exact ⟨rfl, HG.out.2.trans (hb1.out.mono HG.out.2.size)⟩
  · have hn : up 320 n = false := by simpa using h
    clear h
    go_enter Tryd.func30, Tryd.ntmps30
    go_wp2_with (first | (go_at_call 32; with_reducible refine (upto1 _ _ _ _ I1.out).mono ?_; rintro e w' ⟨rfl, rfl⟩) | (go_at_call 32; with_reducible refine (upto1 _ _ _ _ I2.out).mono ?_; rintro e w' ⟨rfl, rfl⟩))
    go_ret2
    exact ⟨rfl, HG.out.2.trans (hb2.out.mono HG.out.2.size)⟩
set_option maxHeartbeats 2000000 in
theorem overof_ok (W0 w : World) (v : Value) (zs : List Int) (k n : Int) (hg : Gr W0 w v zs) (hz : zs.length ≤ 40) (hk : up 255 k = true) (hn : up 320 n = true) :
    Calls Tryd.prog 30 #[v, .int .i64 k, .int .i64 n] w fun e w' => e = .returned (.tuple #[.int .i64 (ovs zs k n), .nilIface]) ∧ Below W0.heap.size W0 w' := by
  have hb1 := al_below w (.cells #[.int .i64 k] 3)
  have hb2 := bt hb1 (al_below _ (.cells #[.int .i64 n] 3))
  have HG := hide (hg.below hb2)
  have HO := hide (show ovs zs k n = SM.fold (SM.tot (zs ++ wsn 2 [k, n] 2) (zs.length + 4)) from rfl)
  have HL0 := hide (show (zs ++ wsn 2 [k, n] 2).length = zs.length + 4 by rw [List.length_append, wsn_len])
  obtain ⟨N, hN⟩ : ∃ N, N = zs.length + 4 := ⟨_, rfl⟩
  have HL := hide (show (zs ++ wsn 2 [k, n] 2).length = N by rw [hN]; exact HL0.out)
  have HN2 := hide (show N ≤ 2000 by omega)
  rw [← hN] at HO
  have HZ := hide hz
  have I1 := hide (show Ints w.heap.size [k] (w.alloc (.cells #[.int .i64 k] 3)) from ints_new w [k])
  have I2 := hide (show Ints (w.heap.size + 1) [n] ((w.alloc (.cells #[.int .i64 k] 3)).alloc (.cells #[.int .i64 n] 3)) from ints_al w _ [n])
  clear hb1 hb2 hg hz hN HL0
  go_enter Tryd.func30, Tryd.ntmps30
  go_upto_region 3 with (first | (go_at_call 32; with_reducible refine (upto1 _ _ _ _ I1.out).mono ?_; rintro e w' ⟨rfl, rfl⟩) | (go_at_call 32; with_reducible refine (upto1 _ _ _ _ I2.out).mono ?_; rintro e w' ⟨rfl, rfl⟩))
  generalize (w.alloc (.cells #[.int .i64 k] 3)).alloc (.cells #[.int .i64 n] 3) = W at HG ⊢
  go_wp2_with (first
    | (go_at_call 51; refine (write22 W0 v zs k n W.heap.size _ (HG.out.below (al_below _ _)) (ints2 W k n) (by have := HZ.out; omega)).mono ?_; rintro e w1 ⟨v1, rfl, hg1⟩; obtain ⟨a1, c1, hv1, hr1, -⟩ := hg1.1.row8; rw [HL.out] at hv1 hr1; subst hv1; replace hg1 := hide hg1; replace hr1 := hide hr1)
    | (go_at_call 56; with_reducible refine (of_ok _ _ _ _ _ hr1.out HN2.out).mono ?_; rintro e w2 ⟨rfl, rfl⟩))
  go_ret2
  exact ⟨by rw [HO.out]; rfl, hg1.out.2⟩

def c4v (x : Int) : Value := if up 4294967295 x = true then .nilIface else err 1
theorem c4_any (x : Int) (w : World) : Calls Tryd.prog 50 #[.int .i64 x] w fun e w' => e = .returned (c4v x) ∧ w' = w := by
  by_cases h0 : x < 0
  · rw [show c4v x = err 1 from if_neg (fun h => by have := (up_true h).1; omega)]
    unfold err
    go_enter Tryd.func50, Tryd.ntmps50
    go_wp2
    go_ret
    exact ⟨rfl, rfl⟩
  · by_cases h1 : 4294967295 < x
    · rw [show c4v x = err 1 from if_neg (fun h => by have := (up_true h).2; omega)]
      unfold err
      go_enter Tryd.func50, Tryd.ntmps50
      go_wp2
      go_ret
      exact ⟨rfl, rfl⟩
    · rw [show c4v x = .nilIface from if_pos (decide_eq_true ⟨by omega, by omega⟩)]
      go_enter Tryd.func50, Tryd.ntmps50
      go_wp2
      go_ret
      exact ⟨rfl, rfl⟩
theorem c4v_ok {x : Int} (h : up 4294967295 x = true) : c4v x = .nilIface := if_pos h
theorem c4v_bad {x : Int} (h : up 4294967295 x = false) : c4v x = .iface 29 (.int .i64 1) := if_neg (by rw [h]; decide)
set_option maxHeartbeats 2000000 in
theorem over4_ok (s d k n : Int) (w : World) (hs : up 4294967295 s = true) (hd : up 4294967295 d = true) (hk : up 255 k = true) (hn : up 320 n = true) :
    Calls Tryd.prog 21 #[.int .i64 s, .int .i64 d, .int .i64 k, .int .i64 n] w fun e w' => e = .returned (.tuple #[.int .i64 (ovs (wsn 4 [s, d] 2) k n), .nilIface]) ∧ Below w.heap.size w w' := by
  have es := c4v_ok hs
  have ed := c4v_ok hd
  have HL := hide (show (wsn 4 [s, d] 2).length ≤ 40 by rw [wsn_len]; omega)
  have HW := hide (fun W B h hi => write24 w (.slice none 0 0) [] s d B W h hi (by simp))
  have HO := hide (fun W v h hz => overof_ok w W v (wsn 4 [s, d] 2) k n h hz hk hn)
  simp only [List.nil_append] at HW
  have HG := hide ((Gr.nil w).below (al_below w (.cells #[.int .i64 s, .int .i64 d] 3)))
  clear hs hd hk hn
  generalize wsn 4 [s, d] 2 = Z at HL HW HO ⊢
  go_enter Tryd.func21, Tryd.ntmps21
  go_wp2_with (first
    | (go_at_call 50; refine (c4_any _ _).mono ?_; rintro e w' ⟨rfl, rfl⟩)
    | (go_at_call 51; refine (HW.out _ _ HG.out (ints2 _ s d)).mono ?_; rintro e w1 ⟨v1, rfl, hg1⟩; replace hg1 := hide hg1)
    | (go_at_call 30; refine (HO.out _ _ hg1.out HL.out).mono ?_; rintro e w2 ⟨rfl, hb2⟩; replace hb2 := hide hb2))
  go_ret2
  exact ⟨rfl, hb2.out⟩
set_option maxHeartbeats 2000000 in
theorem over4_bad (s d k n : Int) (w : World) (h : ¬ (up 4294967295 s = true ∧ up 4294967295 d = true ∧ up 255 k = true ∧ up 320 n = true)) :
    Calls Tryd.prog 21 #[.int .i64 s, .int .i64 d, .int .i64 k, .int .i64 n] w fun e w' => e = .returned (.tuple #[.int .i64 0, err 1]) ∧ Below w.heap.size w w' := by
  unfold err
  generalize hs : up 4294967295 s = us at h
  generalize hd : up 4294967295 d = ud at h
  cases us
  · have es := c4v_bad hs
    clear hs hd h
    go_enter Tryd.func21, Tryd.ntmps21
    go_wp2_with (go_at_call 50; refine (c4_any _ _).mono ?_; rintro e w' ⟨rfl, rfl⟩)
    go_ret2
    exact ⟨rfl, Below.refl _ _⟩
  · have es := c4v_ok hs
    cases ud
    · have ed := c4v_bad hd
      clear hs hd h
      go_enter Tryd.func21, Tryd.ntmps21
      go_wp2_with (go_at_call 50; refine (c4_any _ _).mono ?_; rintro e w' ⟨rfl, rfl⟩)
      go_ret2
      exact ⟨rfl, Below.refl _ _⟩
    · have ed := c4v_ok hd
      have hb : up 255 k = false ∨ up 320 n = false := by
        cases hk : up 255 k
        · exact .inl rfl
        · cases hn : up 320 n
          · exact .inr rfl
          · exact absurd ⟨rfl, rfl, hk, hn⟩ h
      have HW := hide (fun W B h hi => write24 w (.slice none 0 0) [] s d B W h hi (by simp))
      have HO := hide (fun W v h => overof_bad w W v (wsn 4 [s, d] 2) k n h hb)
      simp only [List.nil_append] at HW
      have HG := hide ((Gr.nil w).below (al_below w (.cells #[.int .i64 s, .int .i64 d] 3)))
      unfold err at HO
      clear hs hd h hb
      generalize wsn 4 [s, d] 2 = Z at HW HO
      go_enter Tryd.func21, Tryd.ntmps21
      go_wp2_with (first
        | (go_at_call 50; refine (c4_any _ _).mono ?_; rintro e w' ⟨rfl, rfl⟩)
        | (go_at_call 51; refine (HW.out _ _ HG.out (ints2 _ s d)).mono ?_; rintro e w1 ⟨v1, rfl, hg1⟩; replace hg1 := hide hg1)
        | (go_at_call 30; refine (HO.out _ _ hg1.out).mono ?_; rintro e w2 ⟨rfl, hb2⟩; replace hb2 := hide hb2))
      go_ret2
      exact ⟨rfl, hb2.out⟩
end Go.Proofs.YtfjnioninjllkaaDoor
