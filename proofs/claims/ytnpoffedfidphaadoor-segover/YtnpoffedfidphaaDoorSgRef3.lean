/- The document's own OverOf, Over4 and Over6, and the program's Over6, by contracts. -/
import Derived.Test.YtnpoffedfidphaaDoorSgRef2
namespace Go.Proofs.YtnpoffedfidphaaDoor
open Go.RowKit
attribute [local go_sem ↓] Go.wp_at_zero Go.wp_at_succ

theorem row_none (w : World) : Row8 w none 0 0 [] := ⟨rfl, by simp [maxLen], SM.oct_nil, fun _ => ⟨rfl, rfl⟩, fun h => by omega⟩
theorem up_bd {m n : Int} (h : up m n = true) : 0 ≤ n ∧ n ≤ m := up_true h
theorem up_no {m n : Int} (h : up m n = false) : n < 0 ∨ m < n := by
  have := of_decide_eq_false h
  omega
set_option maxHeartbeats 2000000 in
theorem roverof_ok (a1 : Option Addr) (l1 c1 : Nat) (xs : List Int) (a2 : Option Addr) (l2 c2 : Nat) (ys : List Int) (k n : Int) (w : World) (r1 : Row8 w a1 l1 c1 xs) (r2 : Row8 w a2 l2 c2 ys) (hz : (xs ++ ys).length ≤ 40) (hk : up 255 k = true) (hn : up 320 n = true) :
    Calls Tryd.prog 38 #[.slice a1 l1 c1, .slice a2 l2 c2, .int .i64 k, .int .i64 n] w fun e w' => e = .returned (.tuple #[.int .i64 (ovs (xs ++ ys) k n), .int .i64 0]) ∧ Below w.heap.size w w' := by
  obtain ⟨hk0, hk1⟩ := up_bd hk
  obtain ⟨hn0, hn1⟩ := up_bd hn
  have R1 := hide r1
  have R2 := hide r2
  have HL1 := hide (show ([] : List Int).length + l1 ≤ 1000000000 by have := r1.1; rw [List.length_append] at hz; simp; omega)
  have HL2 := hide (show xs.length + l2 ≤ 1000000000 by have := r2.1; rw [List.length_append] at hz; omega)
  obtain ⟨R, hR⟩ : ∃ R, R = ovs (xs ++ ys) k n := ⟨_, rfl⟩
  rw [← hR]
  have HO := hide (show R = SM.fold (SM.tot ((xs ++ ys) ++ wsn 2 [k, n] 2) ((xs ++ ys).length + 4)) from hR)
  have HL0 := hide (show ((xs ++ ys) ++ wsn 2 [k, n] 2).length = (xs ++ ys).length + 4 by rw [List.length_append, wsn_len])
  obtain ⟨N, hN⟩ : ∃ N, N = (xs ++ ys).length + 4 := ⟨_, rfl⟩
  have HL := hide (show ((xs ++ ys) ++ wsn 2 [k, n] 2).length = N by rw [hN]; exact HL0.out)
  have HN2 := hide (show N ≤ 2000 by omega)
  rw [← hN] at HO
  have HZ := hide hz
  have HG := hide (Gr.nil w)
  have HW := hide (fun W B v hg hi => words_any w v (xs ++ ys) B 2 [k, n] W hg hi rfl (by omega) (by have := HZ.out; omega) (fun j hj => by
    rcases (by omega : j = 0 ∨ j = 1) with rfl | rfl
    · show 0 ≤ k ∧ k ≤ 65535; omega
    · show 0 ≤ n ∧ n ≤ 65535; omega))
  clear r1 r2 hz hN HL0 hR
  go_enter Tryd.func38, Tryd.ntmps38
  go_upto_region 5 with (go_at_call 51; refine (risbyte_any _ _).mono ?_; rintro e w' ⟨rfl, hw⟩; rw [hw]; clear hw w')
  go_upto_region 6 with (at_builtin; refine gr_app rfl (.tmp 24) (.tmp 25) rfl rfl HG.out rfl R1.out HL1.out ?_; intro v1 w1 hg1; rw [List.nil_append] at hg1; replace hg1 := hide hg1)
  go_upto_region 7 with (at_builtin; refine gr_app rfl (.tmp 27) (.tmp 28) rfl rfl hg1.out rfl (R2.out.below hg1.out.2) HL2.out ?_; intro v2 w2 hg2; replace hg2 := hide hg2)
  generalize xs ++ ys = Z at HW HO HL hg2
  go_wp2_with (first
    | (go_at_call 26; refine (HW.out _ _ _ (hg2.out.below (al_below _ _)) (ints2 w2 k n)).mono ?_; rintro e w3 ⟨v3, rfl, hg3⟩; obtain ⟨a3, c3, hv3, hr3, -⟩ := hg3.1.row8; rw [HL.out] at hv3 hr3; subst hv3; replace hg3 := hide hg3; replace hr3 := hide hr3)
    | (go_at_call 28; refine (rsumof_any _ _ _ _ _ hr3.out HN2.out).mono ?_; rintro e w4 ⟨rfl, rfl⟩))
  go_ret2
  exact ⟨by rw [HO.out]; rfl, hg3.out.2⟩
set_option maxHeartbeats 2000000 in
theorem roverof_bad (a1 : Option Addr) (l1 c1 : Nat) (a2 : Option Addr) (l2 c2 : Nat) (k n : Int) (w : World) (h : up 255 k = false ∨ up 320 n = false) :
    Calls Tryd.prog 38 #[.slice a1 l1 c1, .slice a2 l2 c2, .int .i64 k, .int .i64 n] w fun e w' => e = .returned (.tuple #[.int .i64 0, .int .i64 1]) ∧ w' = w := by
  generalize hk : up 255 k = uk at h
  cases uk
  · clear h
    go_enter Tryd.func38, Tryd.ntmps38
    go_wp2_with (go_at_call 51; refine (risbyte_any _ _).mono ?_; rintro e w' ⟨rfl, rfl⟩)
    go_ret2
    exact ⟨rfl, rfl⟩
  · have hn := up_no (show up 320 n = false by simpa using h)
    clear h
    by_cases h0 : n < 0
    · clear hn
      go_enter Tryd.func38, Tryd.ntmps38
      go_wp2_with (go_at_call 51; refine (risbyte_any _ _).mono ?_; rintro e w' ⟨rfl, rfl⟩)
      go_ret2
      exact ⟨rfl, rfl⟩
    · have hn1 : 320 < n := by omega
      clear hn
      go_enter Tryd.func38, Tryd.ntmps38
      go_wp2_with (go_at_call 51; refine (risbyte_any _ _).mono ?_; rintro e w' ⟨rfl, rfl⟩)
      go_ret2
      exact ⟨rfl, rfl⟩
theorem b4_nb (x : Int) (h0 : 0 ≤ x) (h1 : x ≤ 4294967295) : b4 x = nb 4 x := by
  show _ = [x / 256 ^ 3 % 256, x / 256 ^ 2 % 256, x / 256 ^ 1 % 256, x / 256 ^ 0 % 256]
  unfold b4
  rw [show x / 256 ^ 3 % 256 = x / 16777216 by omega, show x / 256 ^ 2 % 256 = x / 65536 % 256 by omega, show x / 256 ^ 1 % 256 = x / 256 % 256 by omega, show x / 256 ^ 0 % 256 = x % 256 by omega]
set_option maxHeartbeats 2000000 in
theorem rover4_ok (s d k n : Int) (w : World) (hs : up 4294967295 s = true) (hd : up 4294967295 d = true) (hk : up 255 k = true) (hn : up 320 n = true) :
    Calls Tryd.prog 16 #[.int .i64 s, .int .i64 d, .int .i64 k, .int .i64 n] w fun e w' => e = .returned (.tuple #[.int .i64 (ovs (wsn 4 [s, d] 2) k n), .int .i64 0]) ∧ Below w.heap.size w w' := by
  have HS := hide (fun W => rfour_row s W (up_true hs))
  have HD := hide (fun W => rfour_row d W (up_true hd))
  have e : b4 s ++ b4 d = wsn 4 [s, d] 2 := by rw [b4_nb s (up_true hs).1 (up_true hs).2, b4_nb d (up_true hd).1 (up_true hd).2]; rfl
  rw [← e]
  have HO := hide (fun W a1 a2 r1 r2 => roverof_ok a1 4 4 (b4 s) a2 4 4 (b4 d) k n W r1 r2 (by simp [b4]) hk hn)
  clear hk hn e
  generalize b4 s = S at HS HO ⊢
  generalize b4 d = D at HD HO ⊢
  go_enter Tryd.func16, Tryd.ntmps16
  go_upto_region 5 with (go_at_call 37; refine (isfour_any _ _).mono ?_; rintro e w' ⟨rfl, hw⟩; rw [hw]; clear hw w')
  go_wp2_with (first
    | (go_at_call 39; with_reducible refine (HS.out _).mono ?_; rintro e w1 ⟨B1, rfl, hr1, hb1⟩; replace hr1 := hide hr1; replace hb1 := hide hb1)
    | (go_at_call 39; with_reducible refine (HD.out _).mono ?_; rintro e w2 ⟨B2, rfl, hr2, hb2⟩; replace hr2 := hide hr2; replace hr1 := hide (hr1.out.below hb2); replace hb1 := hide (bt hb1.out hb2); clear hb2)
    | (go_at_call 38; refine (HO.out _ _ _ hr1.out hr2.out).mono ?_; rintro e w3 ⟨rfl, hb3⟩; replace hb1 := hide (bt hb1.out hb3); clear hb3))
  go_ret2
  exact ⟨rfl, hb1.out⟩
set_option maxHeartbeats 2000000 in
theorem rover4_bad (s d k n : Int) (w : World) (h : ¬ (up 4294967295 s = true ∧ up 4294967295 d = true ∧ up 255 k = true ∧ up 320 n = true)) :
    Calls Tryd.prog 16 #[.int .i64 s, .int .i64 d, .int .i64 k, .int .i64 n] w fun e w' => e = .returned (.tuple #[.int .i64 0, .int .i64 1]) ∧ Below w.heap.size w w' := by
  generalize hs : up 4294967295 s = us at h
  generalize hd : up 4294967295 d = ud at h
  cases us
  · clear h
    go_enter Tryd.func16, Tryd.ntmps16
    go_wp2_with (go_at_call 37; refine (isfour_any _ _).mono ?_; rintro e w' ⟨rfl, rfl⟩)
    go_ret2
    exact ⟨rfl, Below.refl _ _⟩
  · cases ud
    · clear h
      go_enter Tryd.func16, Tryd.ntmps16
      go_wp2_with (go_at_call 37; refine (isfour_any _ _).mono ?_; rintro e w' ⟨rfl, rfl⟩)
      go_ret2
      exact ⟨rfl, Below.refl _ _⟩
    · have hb : up 255 k = false ∨ up 320 n = false := by
        cases hk : up 255 k
        · exact .inl rfl
        · cases hn : up 320 n
          · exact .inr rfl
          · exact absurd ⟨rfl, rfl, hk, hn⟩ h
      have HS := hide (fun W => rfour_row s W (up_true hs))
      have HD := hide (fun W => rfour_row d W (up_true hd))
      have HO := hide (fun W a1 a2 => roverof_bad a1 4 4 a2 4 4 k n W hb)
      clear h hb
      go_enter Tryd.func16, Tryd.ntmps16
      go_upto_region 5 with (go_at_call 37; refine (isfour_any _ _).mono ?_; rintro e w' ⟨rfl, hw⟩; rw [hw]; clear hw w')
      go_wp2_with (first
        | (go_at_call 39; with_reducible refine (HS.out _).mono ?_; rintro e w1 ⟨B1, rfl, -, hb1⟩; replace hb1 := hide hb1)
        | (go_at_call 39; with_reducible refine (HD.out _).mono ?_; rintro e w2 ⟨B2, rfl, -, hb2⟩; replace hb1 := hide (bt hb1.out hb2); clear hb2)
        | (go_at_call 38; refine (HO.out _ _ _).mono ?_; rintro e w3 ⟨rfl, rfl⟩))
      go_ret2
      exact ⟨rfl, hb1.out⟩
end Go.Proofs.YtnpoffedfidphaaDoor
