/- What the statement Pack4Back asks of Encode and Decode, in the forms in which its walk takes them. -/
import Derived.Test.YtlaljflcgbbhdaaIp4j
namespace Go.Proofs.Ytlaljflcgbbhdaa
open Go.RowKit

theorem decode_err (a : Option Addr) (len cap : Nat) (zs : List Int) (w : World) (hr : Row8 w a len cap zs) (hcl : len ≤ cap) (hcm : cap ≤ maxLen) (h : ¬ P4.Good zs) :
    Calls Try.prog 5 #[.slice a len cap] w fun e w' => ∃ k, e = .returned (.tuple #[pk0, err k]) ∧ Below w.heap.size w w' :=
  (decode_any a len cap zs w hr hcl hcm).mono fun e w' ⟨hh, hb⟩ => by
    rcases hh with ⟨_, h2⟩ | ⟨_, _, h2⟩ | ⟨h1, _⟩
    · exact ⟨5, h2, hb⟩
    · exact ⟨6, h2, hb⟩
    · exact absurd h1 h
theorem decode_good (a : Option Addr) (len cap : Nat) (zs : List Int) (w : World) (hr : Row8 w a len cap zs) (hcl : len ≤ cap) (hcm : cap ≤ maxLen) (h : P4.Good zs) :
    Calls Try.prog 5 #[.slice a len cap] w fun e w' => ∃ a' c', e = .returned (.tuple #[pk (P4.src zs) (P4.dst zs) (zs.getD 8 0) (zs.getD 9 0) (P4.wd zs 4) a' (len - 20) c', .nilIface]) ∧ Row8 w' a' (len - 20) c' (zs.drop 20) ∧ Below w.heap.size w w' :=
  (decode_any a len cap zs w hr hcl hcm).mono fun e w' ⟨hh, hb⟩ => by
    rcases hh with ⟨h1, _⟩ | ⟨_, h1, _⟩ | ⟨_, a', c', h2, h3⟩
    · exact absurd h.1 h1
    · exact absurd h h1
    · exact ⟨a', c', h2, h3, hb⟩
theorem bys_good (s d t k i : Int) (body : List Int) (h : Okp s d t k i) (hl : body.length ≤ 320) : P4.Good (bys s d t k i body) :=
  P4.good_hd s d t k i (20 + body.length) body (okp_okh h hl) rfl hl
theorem bys_oct (s d t k i : Int) (body : List Int) (h : Okp s d t k i) (hl : body.length ≤ 320) (ho : SM.Oct body) : SM.Oct (bys s d t k i body) :=
  SM.oct_append _ _ (P4.hd_oct _ _ _ _ _ _ _ (okp_okh h hl) (P4.ck_in _ _ _ _ _ _ (okp_okh h hl))) ho
theorem decode_bys (a : Option Addr) (len cap : Nat) (s d t k i : Int) (body : List Int) (w : World) (hr : Row8 w a len cap (bys s d t k i body)) (hcl : len ≤ cap) (hcm : cap ≤ maxLen) (h : Okp s d t k i) (hl : body.length ≤ 320) :
    Calls Try.prog 5 #[.slice a len cap] w fun e w' => ∃ a' l' c', e = .returned (.tuple #[pk s d t k i a' l' c', .nilIface]) ∧ Row8 w' a' l' c' body ∧ Below w.heap.size w w' := by
  have hd := decode_good a len cap _ w hr hcl hcm (bys_good s d t k i body h hl)
  obtain ⟨_, h2, h3, h4, h5, h6, _, h8⟩ := P4.read_hd s d t k i (20 + body.length) (P4.ck s d t k i (20 + body.length)) body (okp_okh h hl) rfl hl
  have e : bys s d t k i body = P4.hd s d t k i (20 + body.length) (P4.ck s d t k i (20 + body.length)) ++ body := rfl
  rw [← e] at h2 h3 h4 h5 h6 h8
  rw [h2, h3, h4, h5, h6, h8] at hd
  exact hd.mono fun e w' ⟨a', c', h1, h2, h3⟩ => ⟨a', _, c', h1, h2, h3⟩
/-- what was read is written again as it was. -/
theorem encode_read (zs : List Int) (a' : Option Addr) (l' c' : Nat) (w : World) (ho : SM.Oct zs) (h : P4.Good zs) (hr : Row8 w a' l' c' (zs.drop 20)) :
    Calls Try.prog 4 #[pk (P4.src zs) (P4.dst zs) (zs.getD 8 0) (zs.getD 9 0) (P4.wd zs 4) a' l' c'] w fun e w' => ∃ a2 l2 c2, e = .returned (.tuple #[.slice a2 l2 c2, .nilIface]) ∧ Row8 w' a2 l2 c2 zs ∧ Below w.heap.size w w' := by
  have h1 := h.1.1
  have h2 := h.1.2.1
  have hl := hr.1
  rw [List.length_drop] at hl
  have := encode_ok _ _ _ _ _ a' l' c' (zs.drop 20) w (okp_read zs ho h2) (by omega) hr
  rw [bys_enc zs h1, P4.good_enc zs ho h] at this
  refine this.mono ?_
  rintro e w' ⟨v, rfl, hown, hb⟩
  obtain ⟨a2, c2, rfl, hr2, _⟩ := hown.row8
  exact ⟨a2, _, c2, rfl, hr2, hb⟩
/-- a packet's bytes, as Encode hands them out. -/
theorem encode_form (s d t k i : Int) (a : Option Addr) (len cap : Nat) (body : List Int) (w : World) (h : Okp s d t k i) (hl : len ≤ 320) (hr : Row8 w a len cap body) :
    Calls Try.prog 4 #[pk s d t k i a len cap] w fun e w' => ∃ g c, e = .returned (.tuple #[.slice (some ⟨g, 0, none⟩) (20 + len) c, .nilIface]) ∧ 20 + len ≤ c ∧ c ≤ maxLen ∧ w.heap.size ≤ g ∧ Row8 w' (some ⟨g, 0, none⟩) (20 + len) c (bys s d t k i body) ∧ Below w.heap.size w w' := by
  refine (encode_ok s d t k i a len cap body w h hl hr).mono ?_
  rintro e w' ⟨v, rfl, hown, hb⟩
  have hlen : (bys s d t k i body).length = 20 + len := by rw [bys_len, hr.1]
  obtain ⟨g, c, rfl, h1, h2, h3, _, h4⟩ := hown.form (by omega)
  rw [hlen] at h1 h4 ⊢
  exact ⟨g, c, rfl, h1, h2, h3, h4, hb⟩
theorem sum20 (s d t k i : Int) (body : List Int) (h : Okp s d t k i) (hl : body.length ≤ 320) (ho : SM.Oct body) : SM.fold (SM.tot ((bys s d t k i body).take 20) 20) = 65535 := by
  rw [SM.tot_congr ((bys s d t k i body).take 20) (bys s d t k i body) 20 (fun j hj => P4.getD_take hj)]
  exact P4.good_sum _ (bys_oct s d t k i body h hl ho) (bys_good s d t k i body h hl)
/-- with a byte of the head turned the bytes are none. -/
theorem turned_bad (s d t k i : Int) (body : List Int) (h : Okp s d t k i) (hl : body.length ≤ 320) (ho : SM.Oct body) (j : Nat) (hj : j < 20) (v : Int) (hv : 0 ≤ v ∧ v ≤ 255) (hne : v ≠ (bys s d t k i body).getD j 0) : ¬ P4.Good ((bys s d t k i body).set j v) := by
  intro hg
  have o := bys_oct s d t k i body h hl ho
  exact P4.turned _ o (by rw [bys_len]; omega) (P4.good_sum _ o (bys_good s d t k i body h hl)) j hj v hv hne (P4.good_sum _ (SM.oct_set _ o j v hv.1 hv.2) hg)
theorem Own.set {base : Nat} {w : World} {g n c : Nat} {zs : List Int} (h : Own base w (.slice (some ⟨g, 0, none⟩) n c) zs) (j : Nat) (v : Int) (hv : 0 ≤ v ∧ v ≤ 255) : Own base (w.setCell ⟨g, j, none⟩ (.int .u8 v)) (.slice (some ⟨g, 0, none⟩) n c) (zs.set j v) := by
  refine ⟨SM.oct_set _ h.1 j v hv.1 hv.2, by simp, ?_⟩
  rcases h.2.2 with ⟨e, _⟩ | ⟨g', cap, cur, e, hb, hg, h1, h2, h3, h4⟩
  · cases e
  · injection e with e1 e2 e3
    cases e1
    subst e3
    refine .inr ⟨g, c, cur.setIfInBounds j (.int .u8 v), by rw [e2, List.length_set], hb, ?_, by rw [List.length_set]; exact h1, h2, by simpa using h3, ?_⟩
    · rw [setCell_eq_setRow w g j _ 5 (0, 0) (.int .u8 v) hg, setRow_heap w g _ _ 5 (0, 0) hg]
    · rw [List.length_set, Array.toList_setIfInBounds, List.map_set, ← h4, List.take_set]
theorem Own.cell {base : Nat} {w : World} {g n c : Nat} {zs : List Int} (h : Own base w (.slice (some ⟨g, 0, none⟩) n c) zs) (j : Nat) (hj : j < n) : w.cell? ⟨g, j, none⟩ = some (.int .u8 (zs.getD j 0)) ∧ w.frozen? ⟨g, j, none⟩ = false := by
  constructor
  · obtain ⟨_, _, _, _, h5⟩ := h.toRow
    obtain ⟨b, o, e, hc⟩ := h5 (by omega)
    cases e
    have := hc j hj
    rwa [Nat.zero_add] at this
  · rcases h.2.2 with ⟨e, _⟩ | ⟨g', cap, cur, e, hb, hg, h1, h2, h3, h4⟩
    · cases e
    · injection e with e1 e2 e3
      cases e1
      simp [World.frozen?, hg]
end Go.Proofs.Ytlaljflcgbbhdaa
