/- What crosses, told by the program and by the document's own, the same letters in both; the statement's function CrossIs returns true, whatever the packets and the addresses. -/
import Derived.Test.YtfjnioninjllkaaDoorXTell
import Derived.Test.YtfjnioninjllkaaDoorXDi
import Derived.Test.YtfjnioninjllkaaDoorJTo6
import Derived.Test.YtfjnioninjllkaaDoorXCr4
import Derived.Test.YtfjnioninjllkaaDoorXCr6
import Derived.Test.YtfjnioninjllkaaDoorJV4
import Derived.Test.YtfjnioninjllkaaDoorJV6
namespace Go.Proofs.YtfjnioninjllkaaDoor
open Go.RowKit

theorem ev_err {e : Int} (h : (e == 0) = false) : ev e = err e := if_neg (by simpa using h)
theorem tellX4 (s d : List Int) (h k : Int) (a : Option Addr) (len cap : Nat) (zs : List Int) (src dst : Int) (w : World) (hr : Row8 w a len cap zs) (hcl : len ≤ cap) (hcm : cap ≤ maxLen) : ∃ (e s' d' t' k' i' : Int) (X : List Int),
    (∀ W, Below w.heap.size w W → Calls Tryd.prog 5 #[V6.pk s d h k a len cap, .int .i64 src, .int .i64 dst] W fun r W' => ∃ a1 l1 c1, r = .returned (.tuple #[V4.pk s' d' t' k' i' a1 l1 c1, .int .i64 e]) ∧ Row8 W' a1 l1 c1 X ∧ Below W.heap.size W W') ∧
    (∀ W, Below w.heap.size w W → Calls Tryd.prog 6 #[V6.pk s d h k a len cap, .int .i64 src, .int .i64 dst] W fun r W' => ∃ a1 l1 c1, r = .returned (.tuple #[V4.pk s' d' t' k' i' a1 l1 c1, ev e]) ∧ Row8 W' a1 l1 c1 X ∧ Below W.heap.size W W') := by
  have none4 : ∀ (F : Nat) (args : Array Value) (v : Value) (W : World), (Calls Tryd.prog F args W fun e w' => e = .returned (.tuple #[V4.pk0, v]) ∧ Below W.heap.size W w') → Calls Tryd.prog F args W fun r W' => ∃ a1 l1 c1, r = .returned (.tuple #[V4.pk 0 0 0 0 0 a1 l1 c1, v]) ∧ Row8 W' a1 l1 c1 [] ∧ Below W.heap.size W W' :=
    fun _ _ _ _ hc => hc.mono fun _ W' ⟨h1, h2⟩ => ⟨none, 0, 0, h1, row_no W', h2⟩
  by_cases ho : V6.Okp s d h k
  case neg => exact ⟨1, 0, 0, 0, 0, 0, [], fun W _ => none4 _ _ _ _ (crossed4_chk s d h k a len cap src dst W 1 rfl (fun W => V6.rfault_bad s d h k a len cap W ho)), fun W _ => none4 _ _ _ _ (to4_chk s d h k a len cap src dst W 1 (fun W => V6.chk_bad s d h k a len cap W ho))⟩
  by_cases hl : len ≤ 320
  case neg => exact ⟨3, 0, 0, 0, 0, 0, [], fun W _ => none4 _ _ _ _ (crossed4_chk s d h k a len cap src dst W 3 rfl (fun W => V6.rfault_full s d h k a len cap W ho (by omega) hr.2.1)), fun W _ => none4 _ _ _ _ (to4_chk s d h k a len cap src dst W 3 (fun W => V6.chk_full s d h k a len cap W ho (by omega) hr.2.1))⟩
  by_cases hf : up 4294967295 src = true ∧ up 4294967295 dst = true
  case neg => exact ⟨1, 0, 0, 0, 0, 0, [], fun W _ => none4 _ _ _ _ (crossed4_four s d h k a len cap src dst W ho hl hf), fun W _ => none4 _ _ _ _ (to4_four s d h k a len cap src dst W ho hl hf)⟩
  obtain ⟨f1, f2⟩ := hf
  have i6 := o6_in s d k len ho.1 ho.2.1
  have i4 := o4_in src dst k len
  cases hk : kn k
  · refine ⟨2, 0, 0, 0, 0, 0, [], fun W hb => none4 _ _ _ _ (crossed4_seg s d h k a len cap src dst W ho hl f1 f2 [] [] 2 rfl (fun W' _ => (seg6_shape s d h k a len cap W' hk).mono ?_)), fun W hb => none4 _ _ _ _ (to4_und s d h k a len cap src dst W ho hl f1 f2 2 (fun W' _ => und_shape k _ _ a len cap W' hk))⟩
    rintro r W'' ⟨h1, h2⟩
    exact ⟨none, 0, 0, h1, row_no W'', h2⟩
  · obtain ⟨e, z, D, hS, hD, hcase⟩ := tellX k (o6 s d k len) a len cap zs w hr hcl hcm
    rcases hcase with ⟨rfl, b1, b2, b3⟩ | he
    · have B := body_of b1 b2 b3 hr.1 hr.2.2.1
      have hU := fun W (hb : Below w.heap.size w W) => B.und i6 i4 a cap W (hr.below hb) hcl hcm
      have hG := fun W (hb : Below w.heap.size w W) => seg6_any s d h k a len cap W hk ho hl z D 0 (fun W' hb' => hS W' (bt hb hb'))
      by_cases hd : h < 2
      · exact ⟨7, 0, 0, 0, 0, 0, [], fun W hb => none4 _ _ _ _ (crossed4_dead s d h k a len cap src dst W ho hl f1 f2 z D hd (fun W' hb' => hG W' (bt hb hb'))), fun W hb => none4 _ _ _ _ (to4_dead s d h k a len cap src dst W ho hl f1 f2 hd _ _ (fun W' hb' => hU W' (bt hb hb')))⟩
      · have hpos := hn_pos k
        have hsz := B.size
        refine ⟨0, src, dst, h - 1, k, 0, eb z (o4 src dst k len) D, fun W hb => (crossed4_ok s d h k a len cap src dst W ho hl f1 f2 z D (by omega) b1 b2 hsz (fun W' hb' => hG W' (bt hb hb'))).mono ?_, fun W hb => (to4_ok s d h k a len cap src dst W ho hl f1 f2 (by omega) _ _ (by omega) (fun W' hb' => hU W' (bt hb hb'))).mono ?_⟩
        · rintro r W' ⟨a1, c1, h1, h2, h3⟩
          exact ⟨a1, len, c1, h1, h2, h3⟩
        · rintro r W' ⟨g, c1, h1, _, _, h2, h3⟩
          exact ⟨some ⟨g, 0, none⟩, len, c1, h1, h2, h3⟩
    · refine ⟨e, 0, 0, 0, 0, 0, [], fun W hb => none4 _ _ _ _ (crossed4_seg s d h k a len cap src dst W ho hl f1 f2 z D e he (fun W' hb' => seg6_any s d h k a len cap W' hk ho hl z D e (fun W'' hb'' => hS W'' (bt (bt hb hb') hb'')))), fun W hb => ?_⟩
      rw [ev_err he] at hD ⊢
      refine none4 _ _ _ _ (to4_und s d h k a len cap src dst W ho hl f1 f2 e (fun W' hb' => und_bad k _ _ a len cap W' hk e ((hD W' (bt hb hb')).mono ?_)))
      rintro r W'' ⟨a1, l1, c1, h1, _, h2⟩
      exact ⟨⟨z, a1, l1, c1, h1⟩, h2⟩
theorem tellX6 (s d t k i : Int) (a : Option Addr) (len cap : Nat) (zs : List Int) (x y : List Int) (w : World) (hr : Row8 w a len cap zs) (hcl : len ≤ cap) (hcm : cap ≤ maxLen) : ∃ (e : Int) (x' y' : List Int) (t' k' : Int) (X : List Int),
    (∀ W, Below w.heap.size w W → Calls Tryd.prog 9 #[V4.pk s d t k i a len cap, .agg (sixC x), .agg (sixC y)] W fun r W' => ∃ a1 l1 c1, r = .returned (.tuple #[V6.pk x' y' t' k' a1 l1 c1, .int .i64 e]) ∧ Row8 W' a1 l1 c1 X ∧ Below W.heap.size W W') ∧
    (∀ W, Below w.heap.size w W → Calls Tryd.prog 10 #[V4.pk s d t k i a len cap, .agg (sixC x), .agg (sixC y)] W fun r W' => ∃ a1 l1 c1, r = .returned (.tuple #[V6.pk x' y' t' k' a1 l1 c1, ev e]) ∧ Row8 W' a1 l1 c1 X ∧ Below W.heap.size W W') := by
  have none6 : ∀ (F : Nat) (args : Array Value) (v : Value) (W : World), (Calls Tryd.prog F args W fun e w' => e = .returned (.tuple #[V6.pk0, v]) ∧ Below W.heap.size W w') → Calls Tryd.prog F args W fun r W' => ∃ a1 l1 c1, r = .returned (.tuple #[V6.pk [] [] 0 0 a1 l1 c1, v]) ∧ Row8 W' a1 l1 c1 [] ∧ Below W.heap.size W W' :=
    fun _ _ _ _ hc => hc.mono fun _ W' ⟨h1, h2⟩ => ⟨none, 0, 0, h1, row_no W', h2⟩
  by_cases ho : V4.Okp s d t k i
  case neg => exact ⟨1, [], [], 0, 0, [], fun W _ => none6 _ _ _ _ (crossed6_chk s d t k i a len cap x y W 1 rfl (fun W => V4.rfault_bad s d t k i a len cap W ho)), fun W _ => none6 _ _ _ _ (to6_chk s d t k i a len cap x y W 1 (fun W => V4.check_bad s d t k i a len cap W ho))⟩
  by_cases hl : len ≤ 320
  case neg => exact ⟨3, [], [], 0, 0, [], fun W _ => none6 _ _ _ _ (crossed6_chk s d t k i a len cap x y W 3 rfl (fun W => V4.rfault_full s d t k i a len cap W ho (by omega) hr.2.1)), fun W _ => none6 _ _ _ _ (to6_chk s d t k i a len cap x y W 3 (fun W => V4.check_full s d t k i a len cap W ho (by omega) hr.2.1))⟩
  by_cases hf : Ok6 x ∧ Ok6 y
  case neg => exact ⟨1, [], [], 0, 0, [], fun W _ => none6 _ _ _ _ (crossed6_six s d t k i a len cap x y W ho hl hf), fun W _ => none6 _ _ _ _ (to6_six s d t k i a len cap x y W ho hl hf)⟩
  obtain ⟨f1, f2⟩ := hf
  have i6 := o6_in x y k len f1 f2
  have i4 := o4_in s d k len
  cases hk : kn k
  · refine ⟨2, [], [], 0, 0, [], fun W hb => none6 _ _ _ _ (crossed6_seg s d t k i a len cap x y W ho hl f1 f2 [] [] 2 rfl (fun W' _ => (seg4_shape s d t k i a len cap W' hk).mono ?_)), fun W hb => none6 _ _ _ _ (to6_und s d t k i a len cap x y W ho hl f1 f2 2 (fun W' _ => und_shape k _ _ a len cap W' hk))⟩
    rintro r W'' ⟨h1, h2⟩
    exact ⟨none, 0, 0, h1, row_no W'', h2⟩
  · obtain ⟨e, z, D, hS, hD, hcase⟩ := tellX k (o4 s d k len) a len cap zs w hr hcl hcm
    rcases hcase with ⟨rfl, b1, b2, b3⟩ | he
    · have B := body_of b1 b2 b3 hr.1 hr.2.2.1
      have hU := fun W (hb : Below w.heap.size w W) => B.und i4 i6 a cap W (hr.below hb) hcl hcm
      have hG := fun W (hb : Below w.heap.size w W) => seg4_any s d t k i a len cap W hk ho hl z D 0 (fun W' hb' => hS W' (bt hb hb'))
      by_cases hd : t < 2
      · exact ⟨7, [], [], 0, 0, [], fun W hb => none6 _ _ _ _ (crossed6_dead s d t k i a len cap x y W ho hl f1 f2 z D hd (fun W' hb' => hG W' (bt hb hb'))), fun W hb => none6 _ _ _ _ (to6_dead s d t k i a len cap x y W ho hl f1 f2 hd _ _ (fun W' hb' => hU W' (bt hb hb')))⟩
      · have hpos := hn_pos k
        have hsz := B.size
        refine ⟨0, x, y, t - 1, k, eb z (o6 x y k len) D, fun W hb => (crossed6_ok s d t k i a len cap x y W ho hl f1 f2 z D (by omega) b1 b2 hsz (fun W' hb' => hG W' (bt hb hb'))).mono ?_, fun W hb => (to6_ok s d t k i a len cap x y W ho hl f1 f2 (by omega) _ _ (by omega) (fun W' hb' => hU W' (bt hb hb'))).mono ?_⟩
        · rintro r W' ⟨a1, c1, h1, h2, h3⟩
          exact ⟨a1, len, c1, h1, h2, h3⟩
        · rintro r W' ⟨g, c1, h1, _, _, h2, h3⟩
          exact ⟨some ⟨g, 0, none⟩, len, c1, h1, h2, h3⟩
    · refine ⟨e, [], [], 0, 0, [], fun W hb => none6 _ _ _ _ (crossed6_seg s d t k i a len cap x y W ho hl f1 f2 z D e he (fun W' hb' => seg4_any s d t k i a len cap W' hk ho hl z D e (fun W'' hb'' => hS W'' (bt (bt hb hb') hb'')))), fun W hb => ?_⟩
      rw [ev_err he] at hD ⊢
      refine none6 _ _ _ _ (to6_und s d t k i a len cap x y W ho hl f1 f2 e (fun W' hb' => und_bad k _ _ a len cap W' hk e ((hD W' (bt hb hb')).mono ?_)))
      rintro r W'' ⟨a1, l1, c1, h1, _, h2⟩
      exact ⟨⟨z, a1, l1, c1, h1⟩, h2⟩
end Go.Proofs.YtfjnioninjllkaaDoor
