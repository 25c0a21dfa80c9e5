/- What program and document tell of a packet of sixes, and of bytes: the same, in one bundle each. -/
import Derived.Test.YtkgiocofmhnfhaaDoorR6c
import Derived.Test.YtkgiocofmhnfhaaDoorTold
namespace Go.Proofs.YtkgiocofmhnfhaaDoor
open Go.RowKit

/-- what the statement's question answers of an error and the number told. -/
def Tells (ev : Value) (e : Int) : Prop := ∀ W, Laid0 W → Calls Tryd.prog 6 #[ev, .int .i64 e] W fun r W' => r = .returned (.bool true) ∧ Below W.heap.size W W'
theorem tells_nil : Tells .nilIface 0 := fun W _ => (error_nil W).mono fun e W' ⟨h1, h2⟩ => ⟨h1, by rw [h2]; exact Below.refl _ _⟩
theorem tells_err (e : Int) : Tells (err e) e := fun W h => error_err e W h
theorem row_none (w : World) : Row8 w none 0 0 [] := ⟨rfl, by simp [maxLen], SM.oct_nil, fun _ => ⟨rfl, rfl⟩, fun h => by omega⟩

theorem tellP (s d : List Int) (h k : Int) (a : Option Addr) (len cap : Nat) (body : List Int) (w : World) (hr : Row8 w a len cap body) : ∃ (e : Int) (ev : Value) (X : List Int),
    (∀ W, Calls Tryd.prog 5 #[pk s d h k a len cap] W fun r W' => r = .returned (.int .i64 e) ∧ Below W.heap.size W W') ∧
    (∀ W, Calls Tryd.prog 7 #[pk s d h k a len cap] W fun r W' => r = .returned ev ∧ Below W.heap.size W W') ∧ Tells ev e ∧
    (∀ W, Below w.heap.size w W → Calls Tryd.prog 9 #[pk s d h k a len cap] W fun r W' => ∃ a1 l1 c1, r = .returned (.tuple #[.slice a1 l1 c1, ev]) ∧ Row8 W' a1 l1 c1 X ∧ Below W.heap.size W W') ∧
    ((e = 0 ∧ ∀ W, Below w.heap.size w W → Calls Tryd.prog 8 #[pk s d h k a len cap] W fun r W' => ∃ a1 l1 c1, r = .returned (.slice a1 l1 c1) ∧ Row8 W' a1 l1 c1 X ∧ Below W.heap.size W W') ∨ (e ≠ 0 ∧ X = [])) := by
  by_cases ho : Okp s d h k
  · by_cases hl : len ≤ 320
    · refine ⟨0, .nilIface, bys s d h k body, fun W => rfault_ok s d h k a len cap W ho hl, fun W => chk_ok s d h k a len cap W ho hl, tells_nil, fun W hb => ?_, .inl ⟨rfl, fun W hb => ?_⟩⟩
      · refine (encode_ok s d h k a len cap body W ho hl (hr.below hb)).mono ?_
        rintro e w' ⟨v, rfl, hown, hb'⟩
        obtain ⟨a2, c2, rfl, hr2, _⟩ := hown.row8
        exact ⟨a2, _, c2, rfl, hr2, hb'⟩
      · refine (encoded_any s d h k a len cap body W ho hl (hr.below hb)).mono ?_
        rintro e w' ⟨v, rfl, hown, hb'⟩
        obtain ⟨a2, c2, rfl, hr2, _⟩ := hown.row8
        exact ⟨a2, _, c2, rfl, hr2, hb'⟩
    · refine ⟨3, err 3, [], fun W => rfault_full s d h k a len cap W ho (by omega) hr.2.1, fun W => chk_full s d h k a len cap W ho (by omega) hr.2.1, tells_err 3, fun W hb => ?_, .inr ⟨by decide, rfl⟩⟩
      exact (encode_full s d h k a len cap W ho (by omega) hr.2.1).mono fun e w' ⟨h1, h2⟩ => ⟨none, 0, 0, h1, row_none w', h2⟩
  · refine ⟨1, err 1, [], fun W => rfault_bad s d h k a len cap W ho, fun W => chk_bad s d h k a len cap W ho, tells_err 1, fun W hb => ?_, .inr ⟨by decide, rfl⟩⟩
    exact (encode_bad s d h k a len cap W ho).mono fun e w' ⟨h1, h2⟩ => ⟨none, 0, 0, h1, row_none w', h2⟩

theorem tellB (a : Option Addr) (len cap : Nat) (zs : List Int) (w : World) (hr : Row8 w a len cap zs) (hcl : len ≤ cap) (hcm : cap ≤ maxLen) : ∃ (e : Int) (ev : Value) (s d : List Int) (h k : Int) (body : List Int),
    (∀ W, Below w.heap.size w W → Calls Tryd.prog 10 #[.slice a len cap] W fun r W' => ∃ a1 l1 c1, r = .returned (.tuple #[pk s d h k a1 l1 c1, .int .i64 e]) ∧ Row8 W' a1 l1 c1 body ∧ Below W.heap.size W W') ∧
    (∀ W, Below w.heap.size w W → Calls Tryd.prog 11 #[.slice a len cap] W fun r W' => ∃ a1 l1 c1, r = .returned (.tuple #[pk s d h k a1 l1 c1, ev]) ∧ Row8 W' a1 l1 c1 body ∧ Below W.heap.size W W') ∧ Tells ev e := by
  have hlen := hr.1
  by_cases hg : Good zs
  · have hp : 40 ≤ len := by have := hg.1; omega
    obtain ⟨g, off, rfl, _⟩ := hr.2.2.2.2 (by omega)
    refine ⟨0, .nilIface, adr zs 8, adr zs 24, zs.getD 7 0, zs.getD 6 0, zs.drop 40, fun W hb => ?_, fun W hb => ?_, tells_nil⟩
    · refine (rdecode_good g off len cap zs W (hr.below hb) hcl hcm hg).mono ?_
      rintro e w' ⟨a', c', h1, h2, h3⟩
      exact ⟨a', _, c', h1, h2, h3⟩
    · refine (decode_any _ len cap zs W (hr.below hb) hcl hcm).mono ?_
      rintro e w' ⟨h1 | ⟨_, a', c', h1, h2⟩, h3⟩
      · exact absurd hg h1.1
      · exact ⟨a', _, c', h1, h2, h3⟩
  · refine ⟨5, err 5, [], [], 0, 0, [], fun W hb => ?_, fun W hb => ?_, tells_err 5⟩
    · by_cases hl : len < 40 ∨ 360 < len
      · exact (rdecode_len a len cap W hl hr.2.1).mono fun e w' ⟨h1, h2⟩ => ⟨none, 0, 0, h1, row_none w', h2⟩
      · obtain ⟨g, off, rfl, _⟩ := hr.2.2.2.2 (by omega)
        exact (rdecode_bad g off len cap zs W (hr.below hb) (by omega) (by omega) hg).mono fun e w' ⟨h1, h2⟩ => ⟨none, 0, 0, h1, row_none w', h2⟩
    · refine (decode_any a len cap zs W (hr.below hb) hcl hcm).mono ?_
      rintro e w' ⟨h1 | h1, h3⟩
      · exact ⟨none, 0, 0, h1.2, row_none w', h3⟩
      · exact absurd h1.1 hg
end Go.Proofs.YtkgiocofmhnfhaaDoor
