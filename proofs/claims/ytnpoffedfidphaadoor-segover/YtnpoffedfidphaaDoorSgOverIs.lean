/- The walk of the statement SegOver: whatever the addresses and the numbers, the Go text returns true and writes nothing that was there. -/
import Derived.Test.YtnpoffedfidphaaDoorSgOver6
import Derived.Test.YtnpoffedfidphaaDoorTold
namespace Go.Proofs.YtnpoffedfidphaaDoor
open Go.RowKit

/-- what the statement's question answers of an error and the number told. -/
def Tells (ev : Value) (e : Int) : Prop := ∀ W, Laid0 W → Calls Tryd.prog 7 #[ev, .int .i64 e] W fun r W' => r = .returned (.bool true) ∧ Below W.heap.size W W'
theorem tells_nil : Tells .nilIface 0 := fun W _ => (error_nil W).mono fun e W' ⟨h1, h2⟩ => ⟨h1, by rw [h2]; exact Below.refl _ _⟩
theorem tells_err (e : Int) : Tells (err e) e := fun W h => error_err e W h
/-- what stands over a segment between fours: program and document tell the same. -/
theorem tell4 (s d k n : Int) : ∃ (x e : Int) (ev : Value),
    (∀ W, Calls Tryd.prog 16 #[.int .i64 s, .int .i64 d, .int .i64 k, .int .i64 n] W fun r W' => r = .returned (.tuple #[.int .i64 x, .int .i64 e]) ∧ Below W.heap.size W W') ∧
    (∀ W, Calls Tryd.prog 17 #[.int .i64 s, .int .i64 d, .int .i64 k, .int .i64 n] W fun r W' => r = .returned (.tuple #[.int .i64 x, ev]) ∧ Below W.heap.size W W') ∧ Tells ev e := by
  by_cases h : up 4294967295 s = true ∧ up 4294967295 d = true ∧ up 255 k = true ∧ up 320 n = true
  · obtain ⟨h1, h2, h3, h4⟩ := h
    exact ⟨_, 0, .nilIface, fun W => rover4_ok s d k n W h1 h2 h3 h4, fun W => over4_ok s d k n W h1 h2 h3 h4, tells_nil⟩
  · exact ⟨0, 1, err 1, fun W => rover4_bad s d k n W h, fun W => over4_bad s d k n W h, tells_err 1⟩
/-- and between sixes. -/
theorem tell6 (s d : List Int) (k n : Int) : ∃ (x e : Int) (ev : Value),
    (∀ W, Calls Tryd.prog 18 #[.agg (sixC s), .agg (sixC d), .int .i64 k, .int .i64 n] W fun r W' => r = .returned (.tuple #[.int .i64 x, .int .i64 e]) ∧ Below W.heap.size W W') ∧
    (∀ W, Calls Tryd.prog 19 #[.agg (sixC s), .agg (sixC d), .int .i64 k, .int .i64 n] W fun r W' => r = .returned (.tuple #[.int .i64 x, ev]) ∧ Below W.heap.size W W') ∧ Tells ev e := by
  by_cases h : Ok6 s ∧ Ok6 d
  · have hl : (by16 s 8 ++ by16 d 8).length ≤ 40 := by rw [List.length_append, by16_len, by16_len]; omega
    by_cases h2 : up 255 k = true ∧ up 320 n = true
    · obtain ⟨h3, h4⟩ := h2
      exact ⟨_, 0, .nilIface, fun W => rover6_any s d k n W h.1 h.2 _ 0 (fun W a1 c1 a2 c2 r1 r2 => roverof_ok a1 16 c1 _ a2 16 c2 _ k n W r1 r2 hl h3 h4), fun W => over6_any s d k n W h.1 h.2 _ _ (fun W0 W v hg => overof_ok W0 W v _ k n hg hl h3 h4), tells_nil⟩
    · have hb : up 255 k = false ∨ up 320 n = false := by
        cases hk : up 255 k
        · exact .inl rfl
        · cases hn : up 320 n
          · exact .inr rfl
          · exact absurd ⟨hk, hn⟩ h2
      exact ⟨0, 1, err 1, fun W => rover6_any s d k n W h.1 h.2 0 1 (fun W a1 c1 a2 c2 _ _ => (roverof_bad a1 16 c1 a2 16 c2 k n W hb).mono fun e w' ⟨h1, h2⟩ => ⟨h1, by rw [h2]; exact Below.refl _ _⟩), fun W => over6_any s d k n W h.1 h.2 0 _ (fun W0 W v hg => overof_bad W0 W v _ k n hg hb), tells_err 1⟩
  · exact ⟨0, 1, err 1, fun W => rover6_bad s d k n W h, fun W => over6_bad s d k n W h, tells_err 1⟩

set_option maxRecDepth 100000 in
set_option maxHeartbeats 4000000 in
theorem over_walk (s d : Int) (a b : List Int) (k n : Int) (w : World) (hg : Laid0 w) :
    Calls Tryd.prog 4 #[.int .i64 s, .int .i64 d, .agg (sixC a), .agg (sixC b), .int .i64 k, .int .i64 n] w fun e w' => e = .returned (.bool true) ∧ Below w.heap.size w w' := by
  obtain ⟨x, e, ev, hR, hP, hT⟩ := tell4 s d k n
  obtain ⟨x6, e6, ev6, hR6, hP6, hT6⟩ := tell6 a b k n
  have HG := hide hg
  replace hR := hide hR
  replace hP := hide hP
  replace hT := hide hT
  replace hR6 := hide hR6
  replace hP6 := hide hP6
  replace hT6 := hide hT6
  have b1 := al_below w (.cells (sixC a) 43)
  have b2 := al_below (w.alloc (.cells (sixC a) 43)) (.cells (sixC b) 43)
  have HB := hide (bt b1 b2)
  have P1 := hide ((six_al a w).kept b2)
  have P2 := hide (six_al2 b w (.cells (sixC a) 43))
  have qx : (x == x) = true := by simp
  have qx6 : (x6 == x6) = true := by simp
  clear b1 b2 hg
  go_enter Tryd.func4, Tryd.ntmps4
  go_upto_region 1 with fail
  generalize (w.alloc (.cells (sixC a) 43)).alloc (.cells (sixC b) 43) = W at HB P1 P2 ⊢
  go_upto_region 6 with (first
    | (go_at_call 16; refine (hR.out _).mono ?_; rintro r w1 ⟨rfl, hb1⟩; replace HB := hide (bt HB.out hb1); replace P1 := hide (P1.out.kept hb1); replace P2 := hide (P2.out.kept hb1); clear hb1)
    | (go_at_call 17; refine (hP.out _).mono ?_; rintro r w2 ⟨rfl, hb2⟩; replace HB := hide (bt HB.out hb2); replace P1 := hide (P1.out.kept hb2); replace P2 := hide (P2.out.kept hb2); clear hb2)
    | (go_at_call 7; refine (hT.out _ (HG.out.below HB.out)).mono ?_; rintro r w3 ⟨rfl, hb3⟩; replace HB := hide (bt HB.out hb3); replace P1 := hide (P1.out.kept hb3); replace P2 := hide (P2.out.kept hb3); clear hb3))
  go_wp2_with (first
    | (refine at_load6 rfl (.tmp 8) rfl rfl P1.out ?_)
    | (refine at_load6 rfl (.tmp 9) rfl rfl P2.out ?_)
    | (go_at_call 18; refine (hR6.out _).mono ?_; rintro r w4 ⟨rfl, hb4⟩; replace HB := hide (bt HB.out hb4); replace P1 := hide (P1.out.kept hb4); replace P2 := hide (P2.out.kept hb4); clear hb4)
    | (go_at_call 19; refine (hP6.out _).mono ?_; rintro r w5 ⟨rfl, hb5⟩; replace HB := hide (bt HB.out hb5); replace P1 := hide (P1.out.kept hb5); replace P2 := hide (P2.out.kept hb5); clear hb5)
    | (go_at_call 7; refine (hT6.out _ (HG.out.below HB.out)).mono ?_; rintro r w6 ⟨rfl, hb6⟩; replace HB := hide (bt HB.out hb6); clear hb6))
  go_ret
  exact ⟨rfl, HB.out⟩
end Go.Proofs.YtnpoffedfidphaaDoor
