/- Package ip4: Decode of whatever bytes, by one contract; the statements' own question whether two packets are the same. -/
import Derived.Test.YtlaljflcgbbhdaaDoorIp4i
namespace Go.Proofs.YtlaljflcgbbhdaaDoor
open Go.RowKit

theorem decode_any (a : Option Addr) (len cap : Nat) (zs : List Int) (w : World) (hr : Row8 w a len cap zs) (hcl : len ≤ cap) (hcm : cap ≤ maxLen) :
    Calls Tryd.prog 10 #[.slice a len cap] w fun e w' => ((¬ P4.Syn zs ∧ e = .returned (.tuple #[pk0, err 5])) ∨ (P4.Syn zs ∧ ¬ P4.Good zs ∧ e = .returned (.tuple #[pk0, err 6])) ∨
      (P4.Good zs ∧ ∃ a' c', e = .returned (.tuple #[pk (P4.src zs) (P4.dst zs) (zs.getD 8 0) (zs.getD 9 0) (P4.wd zs 4) a' (len - 20) c', .nilIface]) ∧ Row8 w' a' (len - 20) c' (zs.drop 20))) ∧ Below w.heap.size w w' := by
  have hl := hr.1
  by_cases hlen : len < 20 ∨ 340 < len
  · refine (decode_len a len cap w hlen hr.2.1).mono ?_
    rintro e w' ⟨rfl, hb⟩
    refine ⟨.inl ⟨fun h => ?_, rfl⟩, hb⟩
    have h1 := h.1
    have h2 := h.2.1
    omega
  · obtain ⟨g, off, rfl, _⟩ := hr.2.2.2.2 (by omega)
    classical
    refine (decode_raw g off len cap zs w hr (by omega) (by omega) hcl hcm (decide (P4.Syn zs)) (decide (P4.enc zs = zs)) (by simp) (by simp)).mono ?_
    rintro e w' ⟨hh, hb⟩
    refine ⟨?_, hb⟩
    rcases hh with ⟨h1, h2⟩ | ⟨h1, h2, h3⟩ | ⟨h1, h2, h3⟩
    · exact .inl ⟨of_decide_eq_false h1, h2⟩
    · have hs := of_decide_eq_true h1
      exact .inr (.inl ⟨hs, fun hg => of_decide_eq_false h2 (P4.good_enc zs hr.2.2.1 hg), h3⟩)
    · have hs := of_decide_eq_true h1
      exact .inr (.inr ⟨⟨hs, (P4.same_iff zs hr.2.2.1 hs).1 (of_decide_eq_true h2)⟩, h3⟩)

set_option maxHeartbeats 2000000 in
theorem pack4s_same (s d t k i : Int) (a1 a2 : Option Addr) (l1 l2 c1 c2 : Nat) (body : List Int) (w : World) (r1 : Row8 w a1 l1 c1 body) (r2 : Row8 w a2 l2 c2 body) :
    Calls Tryd.prog 11 #[pk s d t k i a1 l1 c1, pk s d t k i a2 l2 c2] w fun e w' => e = .returned (.bool true) ∧ Below w.heap.size w w' := by
  have HB := hide (((Below.refl w.heap.size w).alloc (Nat.le_refl _) (.cells #[.int .i64 s, .int .i64 d, .int .i64 t, .int .i64 k, .int .i64 i, .slice a1 l1 c1] 24)).alloc (by simp) (.cells #[.int .i64 s, .int .i64 d, .int .i64 t, .int .i64 k, .int .i64 i, .slice a2 l2 c2] 24))
  have v1 := conv8 (r1.below HB.out)
  have v2 := conv8 (r2.below HB.out)
  have q := str8_eq r1.2.2.1 r2.2.2.1 true (by simp)
  have qs : (s == s) = true := by simp
  have qd : (d == d) = true := by simp
  have qt : (t == t) = true := by simp
  have qk : (k == k) = true := by simp
  have qi : (i == i) = true := by simp
  clear r1 r2
  unfold pk
  go_enter Tryd.func11, Tryd.ntmps11
  go_wp2
  go_ret
  exact ⟨rfl, HB.out⟩
end Go.Proofs.YtlaljflcgbbhdaaDoor
