/- Encode and Decode of segments that may be. -/
import Derived.Test.YtfjnioninjllkaaSgMath2
namespace Go.Proofs.Ytfjnioninjllkaa
open Go.RowKit
theorem okg_kn {z : List Int} {len : Nat} (h : Okg z len) : kn (el z 0) = true := (kn_iff _).2 (by obtain ⟨_, _, _, h | h⟩ := h <;> omega)
/-- a segment's bytes, as Encode hands them out. -/
theorem enc_form (z : List Int) (a : Option Addr) (len cap : Nat) (over : Int) (data : List Int) (w : World) (h : Okg z len) (ho : up 65535 over = true) (hr : Row8 w a len cap data) :
    Calls Try.prog 19 #[.agg (sgC z a len cap), .int .i64 over] w fun e w' => ∃ g c, e = .returned (.tuple #[.slice (some ⟨g, 0, none⟩) (hn (el z 0) + len) c, .nilIface]) ∧ hn (el z 0) + len ≤ c ∧ c ≤ maxLen ∧ w.heap.size ≤ g ∧ Row8 w' (some ⟨g, 0, none⟩) (hn (el z 0) + len) c (eb z over data) ∧ Below w.heap.size w w' := by
  refine (enc_ok z a len cap over data w ((sf_iff _ _).2 h) ho hr).mono ?_
  rintro e w' ⟨v, rfl, hown, hb⟩
  have hlen : (eb z over data).length = hn (el z 0) + len := by rw [eb_len, hr.1]
  have hp : 0 < hn (el z 0) := by unfold hn; split <;> omega
  obtain ⟨g, c, rfl, h1, h2, h3, _, h4⟩ := hown.form (by omega)
  rw [hlen] at h1 h4 ⊢
  exact ⟨g, c, rfl, h1, h2, h3, h4, hb⟩
theorem eb_oct (z : List Int) (over : Int) (data : List Int) (hd : SM.Oct data) (ho : up 65535 over = true) : SM.Oct (eb z over data) := by
  have hc := sck_in z over data hd ho
  exact SM.oct_set _ (SM.oct_set _ (ub_oct z data hd) _ _ (by omega) (by omega)) _ _ (by omega) (by omega)
/-- what was written is read. -/
theorem dec_own (z : List Int) (g off n cap : Nat) (over : Int) (data : List Int) (w : World) (h : Okg z data.length) (ho : up 65535 over = true) (hr : Row8 w (some ⟨g, off, none⟩) n cap (eb z over data)) (hcl : n ≤ cap) (hcm : cap ≤ maxLen) :
    Calls Try.prog 18 #[.int .i64 (el z 0), .slice (some ⟨g, off, none⟩) n cap, .int .i64 over] w fun e w' => ∃ a' l' c', e = .returned (.tuple #[.agg (sgC z a' l' c'), .nilIface]) ∧ Row8 w' a' l' c' data ∧ Below w.heap.size w w' := by
  have hlen := hr.1
  rw [eb_len] at hlen
  have hz := fun j hj => rd_eb z over data h j hj
  have hd := drop_eb z over data h
  have e2 : n - hn (el z 0) = data.length := by omega
  have hl := h.2.2.1
  have he := eb_congr _ _ hz over data
  have hraw := dec_raw (el z 0) over g off n cap (eb z over data) w hr (okg_kn h) ho (by omega) (by omega) hcl hcm (by rw [e2, sf_congr _ _ hz]; exact (sf_iff _ _).2 h) true true (by rw [hd, he]; simp) (by rw [hd, he]; simp)
  refine hraw.mono ?_
  rintro e w' ⟨hh, hb⟩
  rcases hh with ⟨h1, _⟩ | ⟨_, h1, _⟩ | ⟨_, _, a', c', h1, h2⟩
  · cases h1
  · cases h1
  · rw [sgC_congr _ _ hz] at h1
    rw [hd] at h2
    exact ⟨a', _, c', h1, h2, hb⟩
theorem fold_mod (n : Int) (h : 0 ≤ n) (h2 : SM.fold n = 65535) : n % 65535 = 0 := by
  have := fold_spec n h
  omega
theorem take_eb (z : List Int) (over other : Int) (data : List Int) : (eb z other data).take (cn (el z 0)) = (eb z over data).take (cn (el z 0)) ∧ (eb z other data).drop (cn (el z 0) + 2) = (eb z over data).drop (cn (el z 0) + 2) := by
  unfold eb
  generalize sck z over data = C
  generalize sck z other data = C'
  constructor
  · apply List.ext_getElem?
    intro j
    simp only [List.getElem?_take, List.getElem?_set]
    split
    · rw [if_neg (by omega), if_neg (by omega), if_neg (by omega), if_neg (by omega)]
    · rfl
  · apply List.ext_getElem?
    intro j
    simp only [List.getElem?_drop, List.getElem?_set]
    rw [if_neg (by omega), if_neg (by omega), if_neg (by omega), if_neg (by omega)]
theorem getD_set_self (l : List Int) (j : Nat) (v : Int) (h : j < l.length) : (l.set j v).getD j 0 = v := by simp [h]
theorem getD_set_ne (l : List Int) (i j : Nat) (v : Int) (h : i ≠ j) : (l.set i v).getD j 0 = l.getD j 0 := by
  rw [List.getD_eq_getElem?_getD, List.getElem?_set_ne h, ← List.getD_eq_getElem?_getD]
theorem eb_at (z : List Int) (over : Int) (data : List Int) : (eb z over data).getD (cn (el z 0)) 0 = sck z over data / 256 ∧ (eb z over data).getD (cn (el z 0) + 1) 0 = sck z over data % 256 := by
  have hu := ub_len z data
  have hc := cn_lt (el z 0)
  unfold eb
  exact ⟨(getD_set_ne _ _ _ _ (by omega)).trans (getD_set_self _ _ _ (by omega)), getD_set_self _ _ _ (by rw [List.length_set]; omega)⟩
end Go.Proofs.Ytfjnioninjllkaa
