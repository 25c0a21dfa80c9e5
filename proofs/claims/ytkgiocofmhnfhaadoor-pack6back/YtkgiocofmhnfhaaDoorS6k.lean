/- What the statement Pack6Back asks of Encode, Decode and Pick, in the forms in which its walk takes them. -/
import Derived.Test.YtkgiocofmhnfhaaDoorS6f
import Derived.Test.YtkgiocofmhnfhaaDoorTold
namespace Go.Proofs.YtkgiocofmhnfhaaDoor
open Go.RowKit

/-- what the statement's question answers of an error and the number told. -/
def Tells (ev : Value) (e : Int) : Prop := ∀ W, Laid0 W → Calls Tryd.prog 6 #[ev, .int .i64 e] W fun r W' => r = .returned (.bool true) ∧ Below W.heap.size W W'
theorem tells_nil : Tells .nilIface 0 := fun W _ => (error_nil W).mono fun e W' ⟨h1, h2⟩ => ⟨h1, by rw [h2]; exact Below.refl _ _⟩
theorem tells_err (e : Int) : Tells (err e) e := fun W h => error_err e W h
theorem row_none (w : World) : Row8 w none 0 0 [] := ⟨rfl, by simp [maxLen], SM.oct_nil, fun _ => ⟨rfl, rfl⟩, fun h => by omega⟩
theorem decode_err (a : Option Addr) (len cap : Nat) (zs : List Int) (w : World) (hr : Row8 w a len cap zs) (hcl : len ≤ cap) (hcm : cap ≤ maxLen) (h : ¬ Good zs) :
    Calls Tryd.prog 11 #[.slice a len cap] w fun e w' => e = .returned (.tuple #[pk0, err 5]) ∧ Below w.heap.size w w' :=
  (decode_any a len cap zs w hr hcl hcm).mono fun e w' ⟨hh, hb⟩ => by
    rcases hh with ⟨_, h2⟩ | ⟨h1, _⟩
    · exact ⟨h2, hb⟩
    · exact absurd h1 h
theorem decode_good (a : Option Addr) (len cap : Nat) (zs : List Int) (w : World) (hr : Row8 w a len cap zs) (hcl : len ≤ cap) (hcm : cap ≤ maxLen) (h : Good zs) :
    Calls Tryd.prog 11 #[.slice a len cap] w fun e w' => ∃ a' c', e = .returned (.tuple #[pk (adr zs 8) (adr zs 24) (zs.getD 7 0) (zs.getD 6 0) a' (len - 40) c', .nilIface]) ∧ Row8 w' a' (len - 40) c' (zs.drop 40) ∧ Below w.heap.size w w' :=
  (decode_any a len cap zs w hr hcl hcm).mono fun e w' ⟨hh, hb⟩ => by
    rcases hh with ⟨h1, _⟩ | ⟨_, a', c', h2, h3⟩
    · exact absurd h h1
    · exact ⟨a', c', h2, h3, hb⟩
theorem decode_bys (a : Option Addr) (len cap : Nat) (s d : List Int) (h k : Int) (body : List Int) (w : World) (hr : Row8 w a len cap (bys s d h k body)) (hcl : len ≤ cap) (hcm : cap ≤ maxLen) (ho : Okp s d h k) (hl : body.length ≤ 320) :
    Calls Tryd.prog 11 #[.slice a len cap] w fun e w' => ∃ a' l' c', e = .returned (.tuple #[pk s d h k a' l' c', .nilIface]) ∧ Row8 w' a' l' c' body ∧ Below w.heap.size w w' := by
  refine (decode_good a len cap _ w hr hcl hcm (bys_good s d h k body hl)).mono ?_
  rintro e w' ⟨a', c', rfl, h2, h3⟩
  obtain ⟨e1, e2⟩ := adr_bys s d h k body ho
  rw [bys_drop] at h2
  refine ⟨a', _, c', ?_, h2, h3⟩
  unfold pk
  rw [pkC_congr e1 e2]
  rfl
/-- what was read is written again as it was. -/
theorem encode_read (zs : List Int) (a' : Option Addr) (l' c' : Nat) (w : World) (ho : SM.Oct zs) (h : Good zs) (hr : Row8 w a' l' c' (zs.drop 40)) :
    Calls Tryd.prog 9 #[pk (adr zs 8) (adr zs 24) (zs.getD 7 0) (zs.getD 6 0) a' l' c'] w fun e w' => ∃ a2 l2 c2, e = .returned (.tuple #[.slice a2 l2 c2, .nilIface]) ∧ Row8 w' a2 l2 c2 zs ∧ Below w.heap.size w w' := by
  have h1 := h.1
  have h2 := h.2.1
  have hl := hr.1
  rw [List.length_drop] at hl
  have := encode_ok _ _ _ _ a' l' c' (zs.drop 40) w (show Okp (adr zs 8) (adr zs 24) (zs.getD 7 0) (zs.getD 6 0) from ⟨ok6_adr zs ho 8, ok6_adr zs ho 24, ho 7, ho 6⟩) (by omega) hr
  have e : bys (adr zs 8) (adr zs 24) (zs.getD 7 0) (zs.getD 6 0) (zs.drop 40) = zs := good_enc zs ho h
  rw [e] at this
  refine this.mono ?_
  rintro e w' ⟨v, rfl, hown, hb⟩
  obtain ⟨a2, c2, rfl, hr2, _⟩ := hown.row8
  exact ⟨a2, _, c2, rfl, hr2, hb⟩
/-- a packet's bytes, as Encode hands them out. -/
theorem encode_form (s d : List Int) (h k : Int) (a : Option Addr) (len cap : Nat) (body : List Int) (w : World) (ho : Okp s d h k) (hl : len ≤ 320) (hr : Row8 w a len cap body) :
    Calls Tryd.prog 9 #[pk s d h k a len cap] w fun e w' => ∃ g c, e = .returned (.tuple #[.slice (some ⟨g, 0, none⟩) (40 + len) c, .nilIface]) ∧ 40 + len ≤ c ∧ c ≤ maxLen ∧ Row8 w' (some ⟨g, 0, none⟩) (40 + len) c (bys s d h k body) ∧ Below w.heap.size w w' := by
  refine (encode_ok s d h k a len cap body w ho hl hr).mono ?_
  rintro e w' ⟨v, rfl, hown, hb⟩
  have hlen : (bys s d h k body).length = 40 + len := by rw [bys_len, hr.1]
  obtain ⟨g, c, rfl, h1, h2, h3, _, h4⟩ := hown.form (by omega)
  rw [hlen] at h1 h4 ⊢
  exact ⟨g, c, rfl, h1, h2, h4, hb⟩
theorem encode_err (s d : List Int) (h k : Int) (a : Option Addr) (len cap : Nat) (w : World) (hm : len ≤ maxLen) (hn : ¬ (Okp s d h k ∧ len ≤ 320)) :
    Calls Tryd.prog 9 #[pk s d h k a len cap] w fun e w' => ∃ j, e = .returned (.tuple #[.slice none 0 0, err j]) ∧ Below w.heap.size w w' := by
  by_cases ho : Okp s d h k
  · exact (encode_full s d h k a len cap w ho (by have : ¬ len ≤ 320 := fun hl => hn ⟨ho, hl⟩; omega) hm).mono fun e w' ⟨h1, h2⟩ => ⟨3, h1, h2⟩
  · exact (encode_bad s d h k a len cap w ho).mono fun e w' ⟨h1, h2⟩ => ⟨1, h1, h2⟩
/-- other bytes of the same head, but not of as many, are none. -/
theorem not_good (X Y : List Int) (hX : Good X) (h4 : P4.wd Y 4 = P4.wd X 4) (hl : Y.length ≠ X.length) : ¬ Good Y := by
  rintro ⟨_, _, _, _, e⟩
  have := hX.2.2.2.2
  omega
theorem cut_bad (X : List Int) (hX : Good X) (m : Nat) (hm : m < X.length) : ¬ Good (X.take m) := by
  intro hg
  have h40 := hg.1
  rw [List.length_take] at h40
  refine not_good X (X.take m) hX ?_ (by rw [List.length_take]; omega) hg
  unfold P4.wd
  rw [P4.getD_take (by omega), P4.getD_take (by omega)]
theorem more_bad (X : List Int) (hX : Good X) (m : Int) : ¬ Good (X ++ [m]) := by
  have h40 := hX.1
  refine not_good X _ hX ?_ (by rw [List.length_append]; simp)
  unfold P4.wd
  rw [get_left _ _ _ (by omega), get_left _ _ _ (by omega)]
theorem pick_any (c : Int) (n : Nat) (w : World) (h0 : -9223372036854775808 ≤ c) (h1 : c ≤ 9223372036854775807) (hn : 0 < n) (hm : n ≤ 1000) :
    Calls Tryd.prog 13 #[.int .i64 c, .int .i64 n] w fun e w' => ∃ m : Nat, m < n ∧ e = .returned (.int .i64 m) ∧ w' = w := by
  have hz : ((n : Int) == 0) = false := by rw [beq_eq_false_iff_ne]; omega
  have hn1 : (n : Int) ≠ -1 := by omega
  have hn0 : ¬ (n : Int) = 0 := by omega
  by_cases hc : c < 0
  · have e1 : IntKind.i64.wrap (c + 1) = c + 1 := by rw [IntKind.wrap_i64]; omega
    have e2 : IntKind.i64.wrap (-(c + 1)) = -(c + 1) := by rw [IntKind.wrap_i64]; omega
    obtain ⟨q, hq⟩ := Int.eq_ofNat_of_zero_le (show 0 ≤ -(c + 1) by omega)
    have e3 : (-(c + 1)).tmod (n : Int) = ((q % n : Nat) : Int) := by rw [hq, Int.tmod_eq_emod_of_nonneg (by omega)]; omega
    have hlt : q % n < n := Nat.mod_lt _ hn
    have HL := hide hlt
    generalize q % n = m at e3 HL
    clear hq hlt
    go_enter Tryd.func13, Tryd.ntmps13
    go_wp2
    go_ret
    exact ⟨m, HL.out, rfl, rfl⟩
  · obtain ⟨q, rfl⟩ := Int.eq_ofNat_of_zero_le (show 0 ≤ c by omega)
    have e3 : (q : Int).tmod (n : Int) = ((q % n : Nat) : Int) := by rw [Int.tmod_eq_emod_of_nonneg (by omega)]; omega
    have hlt : q % n < n := Nat.mod_lt _ hn
    have HL := hide hlt
    generalize q % n = m at e3 HL
    clear hlt
    go_enter Tryd.func13, Tryd.ntmps13
    go_wp2
    go_ret
    exact ⟨m, HL.out, rfl, rfl⟩
theorem row_one (w : World) (m : Int) (h : 0 ≤ m ∧ m ≤ 255) : Row8 (w.alloc (.cells #[.int .u8 m] 5)) (some ⟨w.heap.size, 0, none⟩) 1 1 [m] :=
  (show Blk w.heap.size [m] (w.alloc (.cells #[.int .u8 m] 5)) from blk_new w [m]).row8 (fun k => by match k with | 0 => simpa using h | k + 1 => simp) 1 1 rfl (by decide)
end Go.Proofs.YtkgiocofmhnfhaaDoor
