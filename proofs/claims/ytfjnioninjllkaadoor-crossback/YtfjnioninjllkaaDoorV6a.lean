/- Package ip6: isByte, Check, and bytes.Equal, by contracts. -/
import Derived.Test.YtfjnioninjllkaaDoorJV6
import Derived.Deep.CutBlock
import Derived.Deep.QuietTactic
namespace Go.Proofs.YtfjnioninjllkaaDoor.V6
open Go.RowKit

theorem isbyte_any (n : Int) (w : World) : Calls Tryd.prog 49 #[.int .i64 n] w fun e w' => e = .returned (.bool (up 255 n)) ∧ w' = w := by
  by_cases h0 : 0 ≤ n
  · by_cases h1 : n ≤ 255
    · rw [show up 255 n = true from decide_eq_true ⟨h0, h1⟩]
      go_enter Tryd.func49, Tryd.ntmps49
      go_wp2
      go_ret
      exact ⟨rfl, rfl⟩
    · rw [show up 255 n = false from decide_eq_false (fun h => h1 h.2)]
      go_enter Tryd.func49, Tryd.ntmps49
      go_wp2
      go_ret
      exact ⟨rfl, rfl⟩
  · rw [show up 255 n = false from decide_eq_false (fun h => h0 h.1)]
    go_enter Tryd.func49, Tryd.ntmps49
    go_wp2
    go_ret
    exact ⟨rfl, rfl⟩
/-- addr.Check's answer. -/
def c6v (b : Bool) : Value := if b then .nilIface else .iface 29 (.int .i64 1)
def ok6 (z : List Int) : Bool := up 65535 (el z 0) && up 65535 (el z 1) && up 65535 (el z 2) && up 65535 (el z 3) && up 65535 (el z 4) && up 65535 (el z 5) && up 65535 (el z 6) && up 65535 (el z 7)
theorem ok6_iff (z : List Int) : ok6 z = true ↔ Ok6 z := by
  unfold ok6
  simp only [Bool.and_eq_true]
  refine ⟨fun ⟨⟨⟨⟨⟨⟨⟨h0, h1⟩, h2⟩, h3⟩, h4⟩, h5⟩, h6⟩, h7⟩ j hj => ?_, fun h => ?_⟩
  · rcases (by omega : j = 0 ∨ j = 1 ∨ j = 2 ∨ j = 3 ∨ j = 4 ∨ j = 5 ∨ j = 6 ∨ j = 7) with rfl | rfl | rfl | rfl | rfl | rfl | rfl | rfl <;> exact up_true (by assumption)
  · exact ⟨⟨⟨⟨⟨⟨⟨decide_eq_true (h 0 (by omega)), decide_eq_true (h 1 (by omega))⟩, decide_eq_true (h 2 (by omega))⟩, decide_eq_true (h 3 (by omega))⟩, decide_eq_true (h 4 (by omega))⟩, decide_eq_true (h 5 (by omega))⟩, decide_eq_true (h 6 (by omega))⟩, decide_eq_true (h 7 (by omega))⟩
theorem acheck_any (z : List Int) (w : World) : Calls Tryd.prog 48 #[.agg (sixC z)] w fun e w' => e = .returned (c6v (ok6 z)) ∧ Below w.heap.size w w' := by
  refine (check_any z w).mono ?_
  rintro e w' ⟨hh, rfl⟩
  refine ⟨?_, al_below _ _⟩
  rcases hh with ⟨h, rfl⟩ | ⟨h, rfl⟩
  · rw [(ok6_iff z).2 h]; rfl
  · rw [show ok6 z = false from Bool.eq_false_iff.2 (fun h' => h ((ok6_iff z).1 h'))]; rfl
/-- the numbers of a packet that may be. -/
def Okp (s d : List Int) (h k : Int) : Prop := Ok6 s ∧ Ok6 d ∧ (0 ≤ h ∧ h ≤ 255) ∧ (0 ≤ k ∧ k ≤ 255)
def okp (s d : List Int) (h k : Int) : Bool := ok6 s && ok6 d && up 255 h && up 255 k
theorem okp_iff (s d : List Int) (h k : Int) : okp s d h k = true ↔ Okp s d h k := by
  unfold okp
  simp only [Bool.and_eq_true, ok6_iff]
  exact ⟨fun ⟨⟨⟨h1, h2⟩, h3⟩, h4⟩ => ⟨h1, h2, up_true h3, up_true h4⟩, fun ⟨h1, h2, h3, h4⟩ => ⟨⟨⟨h1, h2⟩, decide_eq_true h3⟩, decide_eq_true h4⟩⟩

set_option maxRecDepth 100000 in
set_option maxHeartbeats 1000000 in
theorem chk_ok (s d : List Int) (h k : Int) (a : Option Addr) (len cap : Nat) (w : World) (ho : Okp s d h k) (hl : len ≤ 320) :
    Calls Tryd.prog 20 #[pk s d h k a len cap] w fun e w' => e = .returned .nilIface ∧ Below w.heap.size w w' := by
  obtain ⟨hs, hd, hh, hk⟩ := ho
  have es : c6v (ok6 s) = .nilIface := by rw [(ok6_iff s).2 hs]; rfl
  have ed : c6v (ok6 d) = .nilIface := by rw [(ok6_iff d).2 hd]; rfl
  replace hh : up 255 h = true := decide_eq_true hh
  replace hk : up 255 k = true := decide_eq_true hk
  clear hs hd
  have HB := hide (al_below w (.cells (pkC s d h k a len cap) 26))
  have HP := hide (pk_new w s d h k a len cap)
  unfold pk
  go_enter Tryd.func20, Tryd.ntmps20
  go_upto_region 1 with fail
  generalize w.alloc (.cells (pkC s d h k a len cap) 26) = W at HB HP ⊢
  go_upto_region 4 with (first
    | (refine at_src rfl (.tmp 5) rfl rfl HP.out ?_)
    | (go_at_call 48; with_reducible refine (acheck_any _ _).mono ?_; rintro e w1 ⟨rfl, hb1⟩; replace HB := hide (bt HB.out hb1); replace HP := hide (HP.out.kept hb1); clear hb1))
  go_upto_region 7 with (first
    | (refine at_dst rfl (.tmp 11) rfl rfl HP.out ?_)
    | (go_at_call 48; with_reducible refine (acheck_any _ _).mono ?_; rintro e w2 ⟨rfl, hb2⟩; replace HB := hide (bt HB.out hb2); replace HP := hide (HP.out.kept hb2); clear hb2))
  have l3 := HP.out.hop
  have l4 := HP.out.kind
  have l5 := HP.out.body
  go_wp2_with (go_at_call 49; refine (isbyte_any _ _).mono ?_; rintro e w' ⟨rfl, rfl⟩)
  go_ret
  exact ⟨rfl, HB.out⟩
set_option maxRecDepth 100000 in
set_option maxHeartbeats 1000000 in
theorem chk_full (s d : List Int) (h k : Int) (a : Option Addr) (len cap : Nat) (w : World) (ho : Okp s d h k) (hl : 320 < len) (hm : len ≤ maxLen) :
    Calls Tryd.prog 20 #[pk s d h k a len cap] w fun e w' => e = .returned (.iface 29 (.int .i64 3)) ∧ Below w.heap.size w w' := by
  obtain ⟨hs, hd, hh, hk⟩ := ho
  have es : c6v (ok6 s) = .nilIface := by rw [(ok6_iff s).2 hs]; rfl
  have ed : c6v (ok6 d) = .nilIface := by rw [(ok6_iff d).2 hd]; rfl
  replace hh : up 255 h = true := decide_eq_true hh
  replace hk : up 255 k = true := decide_eq_true hk
  clear hs hd
  unfold maxLen at hm
  have HB := hide (al_below w (.cells (pkC s d h k a len cap) 26))
  have HP := hide (pk_new w s d h k a len cap)
  unfold pk
  go_enter Tryd.func20, Tryd.ntmps20
  go_upto_region 1 with fail
  generalize w.alloc (.cells (pkC s d h k a len cap) 26) = W at HB HP ⊢
  go_upto_region 4 with (first
    | (refine at_src rfl (.tmp 5) rfl rfl HP.out ?_)
    | (go_at_call 48; with_reducible refine (acheck_any _ _).mono ?_; rintro e w1 ⟨rfl, hb1⟩; replace HB := hide (bt HB.out hb1); replace HP := hide (HP.out.kept hb1); clear hb1))
  go_upto_region 7 with (first
    | (refine at_dst rfl (.tmp 11) rfl rfl HP.out ?_)
    | (go_at_call 48; with_reducible refine (acheck_any _ _).mono ?_; rintro e w2 ⟨rfl, hb2⟩; replace HB := hide (bt HB.out hb2); replace HP := hide (HP.out.kept hb2); clear hb2))
  have l3 := HP.out.hop
  have l4 := HP.out.kind
  have l5 := HP.out.body
  go_wp2_with (go_at_call 49; refine (isbyte_any _ _).mono ?_; rintro e w' ⟨rfl, rfl⟩)
  go_ret
  exact ⟨rfl, HB.out⟩
set_option maxRecDepth 100000 in
set_option maxHeartbeats 1000000 in
theorem chk_bad (s d : List Int) (h k : Int) (a : Option Addr) (len cap : Nat) (w : World) (ho : ¬ Okp s d h k) :
    Calls Tryd.prog 20 #[pk s d h k a len cap] w fun e w' => e = .returned (.iface 29 (.int .i64 1)) ∧ Below w.heap.size w w' := by
  have hu : ¬ (ok6 s = true ∧ ok6 d = true ∧ up 255 h = true ∧ up 255 k = true) := fun ⟨h1, h2, h3, h4⟩ => ho ⟨(ok6_iff s).1 h1, (ok6_iff d).1 h2, up_true h3, up_true h4⟩
  clear ho
  generalize hs : ok6 s = us at hu
  generalize hd : ok6 d = ud at hu
  generalize hh : up 255 h = uh at hu
  generalize hk : up 255 k = uk at hu
  cases us
  · clear hu
    have es : c6v (ok6 s) = .iface 29 (.int .i64 1) := by rw [hs]; rfl
    clear hs
    have HB := hide (al_below w (.cells (pkC s d h k a len cap) 26))
    have HP := hide (pk_new w s d h k a len cap)
    unfold pk
    go_enter Tryd.func20, Tryd.ntmps20
    go_upto_region 1 with fail
    generalize w.alloc (.cells (pkC s d h k a len cap) 26) = W at HB HP ⊢
    go_wp2_with (first
      | (refine at_src rfl (.tmp 5) rfl rfl HP.out ?_)
      | (go_at_call 48; with_reducible refine (acheck_any _ _).mono ?_; rintro e w1 ⟨rfl, hb1⟩; replace HB := hide (bt HB.out hb1); replace HP := hide (HP.out.kept hb1); clear hb1))
    go_ret
    exact ⟨rfl, HB.out⟩
  · have es : c6v (ok6 s) = .nilIface := by rw [hs]; rfl
    clear hs
    cases ud
    · clear hu
      have ed : c6v (ok6 d) = .iface 29 (.int .i64 1) := by rw [hd]; rfl
      clear hd
      have HB := hide (al_below w (.cells (pkC s d h k a len cap) 26))
      have HP := hide (pk_new w s d h k a len cap)
      unfold pk
      go_enter Tryd.func20, Tryd.ntmps20
      go_upto_region 1 with fail
      generalize w.alloc (.cells (pkC s d h k a len cap) 26) = W at HB HP ⊢
      go_upto_region 4 with (first
        | (refine at_src rfl (.tmp 5) rfl rfl HP.out ?_)
        | (go_at_call 48; with_reducible refine (acheck_any _ _).mono ?_; rintro e w1 ⟨rfl, hb1⟩; replace HB := hide (bt HB.out hb1); replace HP := hide (HP.out.kept hb1); clear hb1))
      go_wp2_with (first
        | (refine at_dst rfl (.tmp 11) rfl rfl HP.out ?_)
        | (go_at_call 48; with_reducible refine (acheck_any _ _).mono ?_; rintro e w2 ⟨rfl, hb2⟩; replace HB := hide (bt HB.out hb2); replace HP := hide (HP.out.kept hb2); clear hb2))
      go_ret
      exact ⟨rfl, HB.out⟩
    · have ed : c6v (ok6 d) = .nilIface := by rw [hd]; rfl
      clear hd
      cases uh
      · clear hu
        have HB := hide (al_below w (.cells (pkC s d h k a len cap) 26))
        have HP := hide (pk_new w s d h k a len cap)
        unfold pk
        go_enter Tryd.func20, Tryd.ntmps20
        go_upto_region 1 with fail
        generalize w.alloc (.cells (pkC s d h k a len cap) 26) = W at HB HP ⊢
        go_upto_region 4 with (first
          | (refine at_src rfl (.tmp 5) rfl rfl HP.out ?_)
          | (go_at_call 48; with_reducible refine (acheck_any _ _).mono ?_; rintro e w1 ⟨rfl, hb1⟩; replace HB := hide (bt HB.out hb1); replace HP := hide (HP.out.kept hb1); clear hb1))
        go_upto_region 7 with (first
          | (refine at_dst rfl (.tmp 11) rfl rfl HP.out ?_)
          | (go_at_call 48; with_reducible refine (acheck_any _ _).mono ?_; rintro e w2 ⟨rfl, hb2⟩; replace HB := hide (bt HB.out hb2); replace HP := hide (HP.out.kept hb2); clear hb2))
        have l3 := HP.out.hop
        have l4 := HP.out.kind
        have l5 := HP.out.body
        go_wp2_with (go_at_call 49; refine (isbyte_any _ _).mono ?_; rintro e w' ⟨rfl, rfl⟩)
        go_ret
        exact ⟨rfl, HB.out⟩
      · cases uk
        · clear hu
          have HB := hide (al_below w (.cells (pkC s d h k a len cap) 26))
          have HP := hide (pk_new w s d h k a len cap)
          unfold pk
          go_enter Tryd.func20, Tryd.ntmps20
          go_upto_region 1 with fail
          generalize w.alloc (.cells (pkC s d h k a len cap) 26) = W at HB HP ⊢
          go_upto_region 4 with (first
            | (refine at_src rfl (.tmp 5) rfl rfl HP.out ?_)
            | (go_at_call 48; with_reducible refine (acheck_any _ _).mono ?_; rintro e w1 ⟨rfl, hb1⟩; replace HB := hide (bt HB.out hb1); replace HP := hide (HP.out.kept hb1); clear hb1))
          go_upto_region 7 with (first
            | (refine at_dst rfl (.tmp 11) rfl rfl HP.out ?_)
            | (go_at_call 48; with_reducible refine (acheck_any _ _).mono ?_; rintro e w2 ⟨rfl, hb2⟩; replace HB := hide (bt HB.out hb2); replace HP := hide (HP.out.kept hb2); clear hb2))
          have l3 := HP.out.hop
          have l4 := HP.out.kind
          have l5 := HP.out.body
          go_wp2_with (go_at_call 49; refine (isbyte_any _ _).mono ?_; rintro e w' ⟨rfl, rfl⟩)
          go_ret
          exact ⟨rfl, HB.out⟩
        · exact absurd ⟨rfl, rfl, rfl, rfl⟩ hu
end Go.Proofs.YtfjnioninjllkaaDoor.V6
