/- What the program's Decode and the document's own SegOf tell, the same letters in both; what the question on an error answers. -/
import Derived.Test.YtfjnioninjllkaaDoorSgMath3
import Derived.Test.YtfjnioninjllkaaDoorJSgm
import Derived.Test.YtfjnioninjllkaaDoorJTold
namespace Go.Proofs.YtfjnioninjllkaaDoor
open Go.RowKit

/-- what the statement's question answers of an error and the number told. -/
def Tells (ev : Value) (e : Int) : Prop := ∀ W, Laid0 W → Calls Tryd.prog 7 #[ev, .int .i64 e] W fun r W' => r = .returned (.bool true) ∧ Below W.heap.size W W'
theorem tells_nil : Tells .nilIface 0 := fun W _ => (error_nil W).mono fun e W' ⟨h1, h2⟩ => ⟨h1, by rw [h2]; exact Below.refl _ _⟩
theorem tells_err (e : Int) : Tells (err e) e := fun W h => error_err e W h
theorem tells_ev (e : Int) : Tells (ev e) e := by
  unfold ev
  split
  · rename_i h; rw [h]; exact tells_nil
  · exact tells_err e
theorem row_no (w : World) : Row8 w none 0 0 [] := ⟨rfl, by simp [maxLen], SM.oct_nil, fun _ => ⟨rfl, rfl⟩, fun h => by omega⟩
theorem tellX (k over : Int) (a : Option Addr) (len cap : Nat) (zs : List Int) (w : World) (hr : Row8 w a len cap zs) (hcl : len ≤ cap) (hcm : cap ≤ maxLen) : ∃ (e : Int) (z : List Int) (D : List Int),
    (∀ W, Below w.heap.size w W → Calls Tryd.prog 43 #[.int .i64 k, .slice a len cap, .int .i64 over] W fun r W' => ∃ a1 l1 c1, r = .returned (.tuple #[.agg (sgC z a1 l1 c1), .int .i64 e]) ∧ Row8 W' a1 l1 c1 D ∧ Below W.heap.size W W') ∧
    (∀ W, Below w.heap.size w W → Calls Tryd.prog 52 #[.int .i64 k, .slice a len cap, .int .i64 over] W fun r W' => ∃ a1 l1 c1, r = .returned (.tuple #[.agg (sgC z a1 l1 c1), ev e]) ∧ Row8 W' a1 l1 c1 D ∧ Below W.heap.size W W') ∧ ((e = 0 ∧ Okg z D.length ∧ el z 0 = k ∧ eb z over D = zs) ∨ (e == 0) = false) := by
  have hl := hr.1
  have hoct := hr.2.2.1
  by_cases h0 : kn k = false ∨ up 65535 over = false
  · exact ⟨1, [], [], fun W _ => (rseg_range k over a len cap W h0).mono fun e w' ⟨h1, h2⟩ => ⟨none, 0, 0, h1, row_no w', h2⟩, fun W _ => (dec_range k over a len cap W h0).mono fun e w' ⟨h1, h2⟩ => ⟨none, 0, 0, h1, row_no w', h2⟩, .inr rfl⟩
  · have hk : kn k = true := by
      cases h : kn k
      · exact absurd (.inl h) h0
      · rfl
    have ho : up 65535 over = true := by
      cases h : up 65535 over
      · exact absurd (.inr h) h0
      · rfl
    clear h0
    by_cases hlen : len < hn k ∨ hn k + 300 < len
    · exact ⟨5, [], [], fun W _ => (rseg_len k over a len cap W hk ho hlen hr.2.1).mono fun e w' ⟨h1, h2⟩ => ⟨none, 0, 0, h1, row_no w', h2⟩, fun W _ => (dec_len k over a len cap W hk ho hlen hr.2.1).mono fun e w' ⟨h1, h2⟩ => ⟨none, 0, 0, h1, row_no w', h2⟩, .inr rfl⟩
    · have hp : 8 ≤ hn k := by unfold hn; split <;> omega
      obtain ⟨g, off, rfl, _⟩ := hr.2.2.2.2 (by omega)
      have b1 : hn k ≤ len := by omega
      have b2 : len ≤ hn k + 300 := by omega
      clear hlen
      rcases (kn_iff k).1 hk with rfl | rfl
      · have b1' : 20 ≤ len := b1
        have b2' : len ≤ 320 := b2
        by_cases hs : zs.getD 12 0 = 80 ∧ zs.getD 13 0 ≤ 31 ∧ P4.wd zs 18 = 0
        · have hz : sf (rdz 6 zs) (len - hn 6) = 0 := (sf_iff _ _).2 ((okg_tcp zs hoct _ (by have : hn 6 = 20 := rfl; omega)).2 hs.2.1)
          have hlike := tcp_like zs over hoct (by omega) (by omega) hs.2.1
          have hsame := tcp_same zs over hoct (by omega) (by omega) ho hs
          classical
          have hrr : P4.wd zs 16 = sck (rdz 6 zs) over (zs.drop 20) ↔ decide (P4.wd zs 16 = sck (rdz 6 zs) over (zs.drop 20)) = true := decide_eq_true_iff.symm
          generalize decide (P4.wd zs 16 = sck (rdz 6 zs) over (zs.drop 20)) = r at hrr
          have hD := fun W hb => dec_raw 6 over g off len cap zs W (hr.below hb) hk ho b1 b2 hcl hcm hz true r ⟨fun _ => rfl, fun _ => hlike.2 hs⟩ (hsame.trans hrr)
          have hS := fun W hb => rseg_tcp_ok over g off len cap zs W (hr.below hb) ho b1' b2' hcl hcm hs r hrr
          cases r
          · refine ⟨6, [], [], fun W hb => (hS W hb).mono ?_, fun W hb => (hD W hb).mono ?_, .inr rfl⟩
            · rintro e w' ⟨⟨_, h1⟩ | ⟨h1, _⟩, h2⟩
              · exact ⟨none, 0, 0, h1, row_no w', h2⟩
              · cases h1
            · rintro e w' ⟨⟨h1, _⟩ | ⟨_, _, h1⟩ | ⟨_, h1, _⟩, h2⟩
              · cases h1
              · exact ⟨none, 0, 0, h1, row_no w', h2⟩
              · cases h1
          · refine ⟨0, rdz 6 zs, zs.drop 20, fun W hb => (hS W hb).mono ?_, fun W hb => (hD W hb).mono ?_, .inl ⟨rfl, (by rw [List.length_drop, hl]; exact (sf_iff _ _).1 hz), rfl, (hsame.trans hrr).2 rfl⟩⟩
            · rintro e w' ⟨⟨h1, _⟩ | ⟨_, a', c', h1, h3⟩, h2⟩
              · cases h1
              · exact ⟨a', _, c', h1, h3, h2⟩
            · rintro e w' ⟨⟨h1, _⟩ | ⟨_, h1, _⟩ | ⟨_, _, a', c', h1, h3⟩, h2⟩
              · cases h1
              · cases h1
              · exact ⟨a', _, c', h1, h3, h2⟩
        · refine ⟨5, [], [], fun W hb => (rseg_tcp_bad over g off len cap zs W (hr.below hb) ho b1' b2' hcl hcm hs).mono fun e w' ⟨h1, h2⟩ => ⟨none, 0, 0, h1, row_no w', h2⟩, fun W hb => ?_, .inr rfl⟩
          by_cases h13 : zs.getD 13 0 ≤ 31
          · have hz : sf (rdz 6 zs) (len - hn 6) = 0 := (sf_iff _ _).2 ((okg_tcp zs hoct _ (by have : hn 6 = 20 := rfl; omega)).2 h13)
            have hlike := tcp_like zs over hoct (by omega) (by omega) h13
            classical
            refine (dec_raw 6 over g off len cap zs W (hr.below hb) hk ho b1 b2 hcl hcm hz false (decide _) ⟨fun h => absurd (hlike.1 h) hs, fun h => by cases h⟩ decide_eq_true_iff.symm).mono ?_
            rintro e w' ⟨⟨_, h1⟩ | ⟨h1, _⟩ | ⟨h1, _⟩, h2⟩
            · exact ⟨none, 0, 0, h1, row_no w', h2⟩
            · cases h1
            · cases h1
          · have hz : sf (rdz 6 zs) (len - hn 6) ≠ 0 := fun h => h13 ((okg_tcp zs hoct _ (by have : hn 6 = 20 := rfl; omega)).1 ((sf_iff _ _).1 h))
            exact (dec_encbad 6 over g off len cap zs W (hr.below hb) hk ho b1 b2 hcl hcm hz).mono fun e w' ⟨h1, h2⟩ => ⟨none, 0, 0, h1, row_no w', h2⟩
      · have b1' : 8 ≤ len := b1
        have b2' : len ≤ 308 := b2
        have hz : sf (rdz 17 zs) (len - hn 17) = 0 := (sf_iff _ _).2 (okg_udp zs hoct _ (by have : hn 17 = 8 := rfl; omega))
        have hlike := udp_like zs over hoct (by omega) (by omega)
        rw [hl] at hlike
        by_cases hs : P4.wd zs 4 = (len : Int)
        · have hsame := udp_same zs over hoct (by omega) (by omega) ho (by rw [hl]; exact hs)
          classical
          have hrr : P4.wd zs 6 = sck (rdz 17 zs) over (zs.drop 8) ↔ decide (P4.wd zs 6 = sck (rdz 17 zs) over (zs.drop 8)) = true := decide_eq_true_iff.symm
          generalize decide (P4.wd zs 6 = sck (rdz 17 zs) over (zs.drop 8)) = r at hrr
          have hD := fun W hb => dec_raw 17 over g off len cap zs W (hr.below hb) hk ho b1 b2 hcl hcm hz true r ⟨fun _ => rfl, fun _ => hlike.2 hs⟩ (hsame.trans hrr)
          have hS := fun W hb => rseg_udp_ok over g off len cap zs W (hr.below hb) ho b1' b2' hcl hcm hs r hrr
          cases r
          · refine ⟨6, [], [], fun W hb => (hS W hb).mono ?_, fun W hb => (hD W hb).mono ?_, .inr rfl⟩
            · rintro e w' ⟨⟨_, h1⟩ | ⟨h1, _⟩, h2⟩
              · exact ⟨none, 0, 0, h1, row_no w', h2⟩
              · cases h1
            · rintro e w' ⟨⟨h1, _⟩ | ⟨_, _, h1⟩ | ⟨_, h1, _⟩, h2⟩
              · cases h1
              · exact ⟨none, 0, 0, h1, row_no w', h2⟩
              · cases h1
          · refine ⟨0, rdz 17 zs, zs.drop 8, fun W hb => (hS W hb).mono ?_, fun W hb => (hD W hb).mono ?_, .inl ⟨rfl, (by rw [List.length_drop, hl]; exact (sf_iff _ _).1 hz), rfl, (hsame.trans hrr).2 rfl⟩⟩
            · rintro e w' ⟨⟨h1, _⟩ | ⟨_, a', c', h1, h3⟩, h2⟩
              · cases h1
              · exact ⟨a', _, c', h1, h3, h2⟩
            · rintro e w' ⟨⟨h1, _⟩ | ⟨_, h1, _⟩ | ⟨_, _, a', c', h1, h3⟩, h2⟩
              · cases h1
              · cases h1
              · exact ⟨a', _, c', h1, h3, h2⟩
        · refine ⟨5, [], [], fun W hb => (rseg_udp_bad over g off len cap zs W (hr.below hb) ho b1' b2' hcl hcm hs).mono fun e w' ⟨h1, h2⟩ => ⟨none, 0, 0, h1, row_no w', h2⟩, fun W hb => ?_, .inr rfl⟩
          classical
          refine (dec_raw 17 over g off len cap zs W (hr.below hb) hk ho b1 b2 hcl hcm hz false (decide _) ⟨fun h => absurd (hlike.1 h) hs, fun h => by cases h⟩ decide_eq_true_iff.symm).mono ?_
          rintro e w' ⟨⟨_, h1⟩ | ⟨h1, _⟩ | ⟨h1, _⟩, h2⟩
          · exact ⟨none, 0, 0, h1, row_no w', h2⟩
          · cases h1
          · cases h1
end Go.Proofs.YtfjnioninjllkaaDoor
