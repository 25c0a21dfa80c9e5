/- The program's Take and Free of ports, by contracts. -/
import Derived.Test.YtjkkonpangcnjaaDoorPbE
namespace Go.Proofs.YtjkkonpangcnjaaDoor
open Go.RowKit

theorem pcheck_ok (z : List Int) (W : World) (hz : Ok6 z) : Calls Tryd.prog 28 #[.agg (sixC z)] W fun e w' => e = .returned .nilIface ∧ Below W.heap.size W w' :=
  (check_ok z W hz).mono fun e w' ⟨h1, h2⟩ => ⟨h1, by rw [h2]; exact al_below _ _⟩
theorem pcheck_bad (z : List Int) (W : World) (hz : ¬ Ok6 z) : Calls Tryd.prog 28 #[.agg (sixC z)] W fun e w' => e = .returned (.iface 29 (.int .i64 1)) ∧ Below W.heap.size W w' :=
  (check_bad z W hz).mono fun e w' ⟨h1, h2⟩ => ⟨h1, by rw [h2]; exact al_below _ _⟩
set_option maxRecDepth 100000 in
set_option maxHeartbeats 1000000 in
theorem ptake_bad (v : Value) (z : List Int) (w : World) (hz : ¬ Ok6 z) :
    Calls Tryd.prog 33 #[v, .agg (sixC z)] w fun e w' => e = .returned (.tuple #[.int .i64 0, err 1]) ∧ Below w.heap.size w w' := by
  have HB := hide (al_below w (.cells (sixC z) 33))
  have HZ := hide (show SixIn w.heap.size z (w.alloc (.cells (sixC z) 33)) from six_new z w)
  have HC := hide (fun W => pcheck_bad z W hz)
  clear hz
  go_enter Tryd.func33, Tryd.ntmps33
  go_upto_region 1 with fail
  generalize w.alloc _ = W at HB HZ ⊢
  go_wp2_with (first
    | (refine at_load6 rfl (.tmp 3) rfl rfl HZ.out ?_)
    | (go_at_call 28; refine (HC.out _).mono ?_; rintro e w1 ⟨rfl, hb1⟩; replace HB := hide (bt HB.out hb1); clear hb1))
  go_ret2
  exact ⟨rfl, HB.out⟩
set_option maxRecDepth 100000 in
set_option maxHeartbeats 1000000 in
theorem ptake_full (B BB m : Nat) (ow : Nat → List Int) (ts : Nat → Bool) (z : List Int) (w : World) (h : BP B BB m ow ts w) (hm : m ≤ 16) (hz : Ok6 z) (hR : rm ow ts z m = none) :
    Calls Tryd.prog 33 #[.pointer (some ⟨B, 0, none⟩), .agg (sixC z)] w fun e w' => e = .returned (.tuple #[.int .i64 0, err 3]) ∧ Below w.heap.size w w' := by
  have HK := hide (show Kp w B BB m ow ts z (w.alloc (.cells (sixC z) 33)) from ⟨h.kept (al_below _ _), six_new z w, al_below _ _⟩)
  have HC := hide (fun W => pcheck_ok z W hz)
  have HR := hide (fun W hW => room_any B BB m ow ts z W hW hm none hR)
  clear h hR hz
  go_enter Tryd.func33, Tryd.ntmps33
  go_upto_region 1 with fail
  generalize w.alloc _ = W at HK ⊢
  go_wp2_with (first
    | (refine at_load6 rfl (.tmp 3) rfl rfl HK.out.2.1 ?_)
    | (go_at_call 28; refine (HC.out _).mono ?_; rintro e w1 ⟨rfl, hb1⟩; replace HK := hide (HK.out.kept hb1); clear hb1)
    | (go_at_call 42; refine (HR.out _ HK.out.1).mono ?_; rintro e w2 ⟨rfl, hb2⟩; replace HK := hide (HK.out.kept hb2); clear hb2; rw [show fi none = (-1 : Int) from rfl]))
  go_ret2
  exact ⟨rfl, HK.out.2.2⟩
attribute [local go_sem ↓] qstore_shut
set_option maxRecDepth 100000 in
set_option maxHeartbeats 1000000 in
theorem ptake_ok (B BB m : Nat) (ow : Nat → List Int) (ts : Nat → Bool) (z : List Int) (k j : Nat) (w : World) (h : BP B BB m ow ts w) (hm : m ≤ 16) (hz : Ok6 z) (hR : rm ow ts z m = some k) (hk : k < m) (hF : fx (sb ts k) = some j) (hj : j < 8) :
    Calls Tryd.prog 33 #[.pointer (some ⟨B, 0, none⟩), .agg (sixC z)] w fun e w' => e = .returned (.tuple #[.int .i64 (1024 + ((8 * k + j : Nat) : Int)), .nilIface]) ∧ BP B BB m (upd ow k z) (upd ts (8 * k + j) true) w' ∧ Fr (fun g => g = BB) w w' := by
  have HK := hide (show Kp w B BB m ow ts z (w.alloc (.cells (sixC z) 33)) from ⟨h.kept (al_below _ _), six_new z w, al_below _ _⟩)
  have HC := hide (fun W => pcheck_ok z W hz)
  have HR := hide (fun W hW => room_any B BB m ow ts z W hW hm (some k) hR)
  have HI := hide (fun W (hW : BP B BB m ow ts W) => show Calls Tryd.prog 43 #[.slice (some ⟨BB, 16 * k + 8, none⟩) 8 8, .bool false] W fun e w' => e = .returned (.int .i64 j) ∧ w' = W by
    have := index_any BB (16 * k + 8) (sb ts k) W (fun j hj => (hW.2.bit k hk j hj).1)
    rw [hF] at this
    exact this)
  have e16 : k * 16 = 16 * k := by omega
  have j1 : (k : Int) < (m : Int) := by omega
  have j2 : (m : Int) ≤ 16 := by omega
  have j3 : (j : Int) < 8 := by omega
  have j4 : ¬ (k : Int) < 0 := by omega
  clear h hR hz hF
  go_enter Tryd.func33, Tryd.ntmps33
  go_upto_region 1 with fail
  generalize w.alloc _ = W at HK ⊢
  go_upto_region 7 with (first
    | (refine at_load6 rfl (.tmp 3) rfl rfl HK.out.2.1 ?_)
    | (go_at_call 28; refine (HC.out _).mono ?_; rintro e w1 ⟨rfl, hb1⟩; replace HK := hide (HK.out.kept hb1); clear hb1)
    | (go_at_call 42; refine (HR.out _ HK.out.1).mono ?_; rintro e w2 ⟨rfl, hb2⟩; replace HK := hide (HK.out.kept hb2); clear hb2; rw [show fi (some k) = (k : Int) from rfl]))
  have l1 := HK.out.1.row
  go_upto_region 9 with (go_at_call 43; refine (HI.out _ HK.out.1).mono ?_; rintro e w3 ⟨rfl, rfl⟩)
  obtain ⟨w5, hst, p5, on5⟩ := HK.out.1.2.held k hk z
  have HP := hide (HK.out.1.only on5 p5)
  have HF := hide ((Fr.of (O := fun g => g = BB) HK.out.2.2).trans (on5.fr rfl))
  clear p5 on5
  go_upto_region 10 with (refine at_load6 rfl (.tmp 3) rfl rfl HK.out.2.1 ?_)
  obtain ⟨c1, c2⟩ := HP.out.2.bit k hk j hj
  have HS := hide (HP.out.setT k j hk hj true)
  replace HF := hide (HF.out.trans (setCell_fr w5 BB (16 * k + 8 + j) (.bool true)))
  go_wp2
  go_ret2
  rw [show (1024 : Int) + ((8 * k + j : Nat) : Int) = 1024 + (k : Int) * 8 + (j : Int) by omega]
  exact ⟨rfl, HS.out, HF.out⟩
end Go.Proofs.YtjkkonpangcnjaaDoor
