/- What To4 gives, and what comes back from it; the one packet that is known. -/
import Derived.Test.YtfjnioninjllkaaDoorXDi
import Derived.Test.YtfjnioninjllkaaDoorJTo6
namespace Go.Proofs.YtfjnioninjllkaaDoor
open Go.RowKit

theorem getD_set_off (l : List Int) (i j : Nat) (v : Int) (h : j ≠ i) : (l.set i v).getD j 0 = l.getD j 0 := getD_set_ne l i j v (fun e => h e.symm)
/-- of a body nothing changes but the check. -/
theorem eb_same (z : List Int) (p q : Int) (D : List Int) (j : Nat) (h1 : j ≠ cn (el z 0)) (h2 : j ≠ cn (el z 0) + 1) : (eb z p D).getD j 0 = (eb z q D).getD j 0 := by
  unfold eb
  rw [getD_set_off _ _ _ _ h2, getD_set_off _ _ _ _ h1, getD_set_off _ _ _ _ h2, getD_set_off _ _ _ _ h1]
theorem okp4 {s d : List Int} {h k src dst : Int} (ho : V6.Okp s d h k) (h1 : up 4294967295 src = true) (h2 : up 4294967295 dst = true) (hh : 2 ≤ h) : V4.Okp src dst (h - 1) k 0 := by
  refine ⟨up_true h1, up_true h2, ?_, ho.2.2.2, ?_⟩
  · have := ho.2.2.1
    unfold V4.IsB
    omega
  · unfold Word; omega
/-- what crossed comes back. -/
theorem back_ok (s d : List Int) (h k src dst : Int) (len : Nat) (zs z D : List Int) (ho : V6.Okp s d h k) (hl : len ≤ 320) (h1 : up 4294967295 src = true) (h2 : up 4294967295 dst = true) (hh : 3 ≤ h) (B : Body k (o6 s d k len) len zs z D)
    (a : Option Addr) (cap : Nat) (w : World) (hr : Row8 w a len cap (eb z (o4 src dst k len) D)) (hcl : len ≤ cap) (hcm : cap ≤ maxLen) :
    Calls Tryd.prog 10 #[V4.pk src dst (h - 1) k 0 a len cap, .agg (sixC s), .agg (sixC d)] w fun e w' => ∃ a1 c1, e = .returned (.tuple #[V6.pk s d (h - 2) k a1 len c1, .nilIface]) ∧ Row8 w' a1 len c1 zs ∧ Below w.heap.size w w' := by
  have B4 : Body k (o4 src dst k len) len (eb z (o4 src dst k len) D) z D := B.other
  have hpos := hn_pos k
  have hsz := B.size
  refine (to6_ok src dst (h - 1) k 0 a len cap s d w (okp4 ho h1 h2 (by omega)) hl ho.1 ho.2.1 (by omega) _ _ (by omega) (fun W hb => B4.und (o4_in _ _ _ _) (o6_in s d k len ho.1 ho.2.1) a cap W (hr.below hb) hcl hcm)).mono ?_
  rintro e w' ⟨g, c, h3, _, _, h4, h5⟩
  rw [B.bytes] at h4
  rw [show h - 1 - 1 = h - 2 by omega] at h3
  exact ⟨_, c, h3, h4, h5⟩
theorem back_dead (s d : List Int) (h k src dst : Int) (len : Nat) (zs z D : List Int) (ho : V6.Okp s d h k) (hl : len ≤ 320) (h1 : up 4294967295 src = true) (h2 : up 4294967295 dst = true) (hh : 2 ≤ h) (hd : h < 3) (B : Body k (o6 s d k len) len zs z D)
    (a : Option Addr) (cap : Nat) (w : World) (hr : Row8 w a len cap (eb z (o4 src dst k len) D)) (hcl : len ≤ cap) (hcm : cap ≤ maxLen) :
    Calls Tryd.prog 10 #[V4.pk src dst (h - 1) k 0 a len cap, .agg (sixC s), .agg (sixC d)] w fun e w' => e = .returned (.tuple #[V6.pk0, err 7]) ∧ Below w.heap.size w w' := by
  have B4 : Body k (o4 src dst k len) len (eb z (o4 src dst k len) D) z D := B.other
  exact to6_dead src dst (h - 1) k 0 a len cap s d w (okp4 ho h1 h2 hh) hl ho.1 ho.2.1 (by omega) _ _ (fun W hb => B4.und (o4_in _ _ _ _) (o6_in s d k len ho.1 ho.2.1) a cap W (hr.below hb) hcl hcm)
theorem ok1 : Ok6 [1] := by intro j hj; rcases (by omega : j = 0 ∨ j = 1 ∨ j = 2 ∨ j = 3 ∨ j = 4 ∨ j = 5 ∨ j = 6 ∨ j = 7) with rfl | rfl | rfl | rfl | rfl | rfl | rfl | rfl <;> exact ⟨by decide, by decide⟩
theorem ok2 : Ok6 [2] := by intro j hj; rcases (by omega : j = 0 ∨ j = 1 ∨ j = 2 ∨ j = 3 ∨ j = 4 ∨ j = 5 ∨ j = 6 ∨ j = 7) with rfl | rfl | rfl | rfl | rfl | rfl | rfl | rfl <;> exact ⟨by decide, by decide⟩
theorem okf : Okg [17, 1, 2] 0 := ⟨⟨by decide, by decide⟩, ⟨by decide, by decide⟩, by decide, .inr ⟨rfl, rfl, rfl, rfl, rfl⟩⟩
theorem fact1 (w : World) : Calls Tryd.prog 12 #[.agg #[.int .i64 1, .int .i64 0, .int .i64 0, .int .i64 0, .int .i64 0, .int .i64 0, .int .i64 0, .int .i64 0], .agg #[.int .i64 2, .int .i64 0, .int .i64 0, .int .i64 0, .int .i64 0, .int .i64 0, .int .i64 0, .int .i64 0], .int .i64 17, .int .i64 8] w
    fun e w' => e = .returned (.tuple #[.int .i64 (o6 [1] [2] 17 8), .nilIface]) ∧ Below w.heap.size w w' := over6_ok [1] [2] 17 8 w ok1 ok2 rfl rfl
theorem fact2 (w : World) : Calls Tryd.prog 13 #[.agg #[.int .i64 17, .int .i64 1, .int .i64 2, .int .i64 0, .int .i64 0, .int .i64 0, .int .i64 0, .slice none 0 0], .int .i64 (o6 [1] [2] 17 8)] w
    fun e w' => ∃ g c, e = .returned (.tuple #[.slice (some ⟨g, 0, none⟩) 8 c, .nilIface]) ∧ 8 ≤ c ∧ c ≤ maxLen ∧ Row8 w' (some ⟨g, 0, none⟩) 8 c (eb [17, 1, 2] (o6 [1] [2] 17 8) []) ∧ Below w.heap.size w w' := by
  refine (enc_form [17, 1, 2] none 0 0 (o6 [1] [2] 17 8) [] w okf (o6_in [1] [2] 17 8 ok1 ok2) ⟨rfl, by simp [maxLen], SM.oct_nil, fun _ => ⟨rfl, rfl⟩, fun h => by omega⟩).mono ?_
  rintro e w' ⟨g, c, h1, h2, h3, _, h4, h5⟩
  exact ⟨g, c, h1, h2, h3, h4, h5⟩
theorem fact3 (g c : Nat) (w : World) (hc : 8 ≤ c) (hm : c ≤ maxLen) (hr : Row8 w (some ⟨g, 0, none⟩) 8 c (eb [17, 1, 2] (o6 [1] [2] 17 8) [])) :
    Calls Tryd.prog 6 #[.agg #[.int .i64 1, .int .i64 0, .int .i64 0, .int .i64 0, .int .i64 0, .int .i64 0, .int .i64 0, .int .i64 0, .int .i64 2, .int .i64 0, .int .i64 0, .int .i64 0, .int .i64 0, .int .i64 0, .int .i64 0, .int .i64 0, .int .i64 9, .int .i64 17, .slice (some ⟨g, 0, none⟩) 8 c], .int .i64 5, .int .i64 6] w
    fun e w' => ∃ a1 c1, e = .returned (.tuple #[.agg #[.int .i64 5, .int .i64 6, .int .i64 8, .int .i64 17, .int .i64 0, .slice a1 8 c1], .nilIface]) ∧ Below w.heap.size w w' := by
  have B : Body 17 (o6 [1] [2] 17 (8 : Nat)) 8 (eb [17, 1, 2] (o6 [1] [2] 17 8) []) [17, 1, 2] [] := ⟨okf, rfl, rfl, SM.oct_nil, rfl⟩
  refine (to4_ok [1] [2] 9 17 (some ⟨g, 0, none⟩) 8 c 5 6 w ⟨ok1, ok2, ⟨by decide, by decide⟩, ⟨by decide, by decide⟩⟩ (by omega) rfl rfl (by omega) _ 8 (by omega) (fun W hb => B.und (o6_in [1] [2] 17 8 ok1 ok2) (o4_in 5 6 17 8) (some ⟨g, 0, none⟩) c W (hr.below hb) hc hm)).mono ?_
  rintro e w' ⟨g1, c1, h1, _, _, _, h5⟩
  exact ⟨_, c1, h1, h5⟩
end Go.Proofs.YtfjnioninjllkaaDoor
