/- cross.To4 of whatever packet: it tells of an error, or what crosses is this. -/
import Derived.Test.YtfjnioninjllkaaDoorXTo4
namespace Go.Proofs.YtfjnioninjllkaaDoor
open Go.RowKit

theorem oct_drop (xs : List Int) (hx : SM.Oct xs) (n : Nat) : SM.Oct (xs.drop n) := by
  intro i
  have : (xs.drop n).getD i 0 = xs.getD (n + i) 0 := by simp only [List.getD_eq_getElem?_getD, List.getElem?_drop]
  rw [this]; exact hx _
theorem hn_pos (k : Int) : 8 ≤ hn k := by unfold hn; split <;> omega
/-- what a body is that may cross: the segment's bytes, under what stands over it. -/
def Body (k over : Int) (len : Nat) (zs z D : List Int) : Prop := Okg z D.length ∧ el z 0 = k ∧ eb z over D = zs ∧ SM.Oct D ∧ hn k + D.length = len
theorem Body.okg {k over : Int} {len : Nat} {zs z D : List Int} (B : Body k over len zs z D) : Okg z D.length := B.1
theorem Body.kind {k over : Int} {len : Nat} {zs z D : List Int} (B : Body k over len zs z D) : el z 0 = k := B.2.1
theorem Body.bytes {k over : Int} {len : Nat} {zs z D : List Int} (B : Body k over len zs z D) : eb z over D = zs := B.2.2.1
theorem Body.oct {k over : Int} {len : Nat} {zs z D : List Int} (B : Body k over len zs z D) : SM.Oct D := B.2.2.2.1
theorem Body.size {k over : Int} {len : Nat} {zs z D : List Int} (B : Body k over len zs z D) : hn k + D.length = len := B.2.2.2.2
theorem body_of {k over : Int} {len : Nat} {zs z D : List Int} (h1 : Okg z D.length) (h2 : el z 0 = k) (h3 : eb z over D = zs) (hl : zs.length = len) (ho : SM.Oct zs) : Body k over len zs z D := by
  refine ⟨h1, h2, h3, ?_, ?_⟩
  · have := drop_eb z over D h1
    rw [h3] at this
    rw [← this]; exact oct_drop _ ho _
  · have := eb_len z over D
    rw [h3, hl, h2] at this
    omega
/-- Decode and then Encode under something else. -/
theorem Body.und {k p q : Int} {len : Nat} {zs z D : List Int} (B : Body k p len zs z D) (hp : up 65535 p = true) (hq : up 65535 q = true) (a : Option Addr) (cap : Nat) (w : World) (hr : Row8 w a len cap zs) (hcl : len ≤ cap) (hcm : cap ≤ maxLen) :
    Calls Tryd.prog 22 #[.int .i64 k, .slice a len cap, .int .i64 p, .int .i64 q] w fun e' w' => ∃ g c, e' = .returned (.tuple #[.slice (some ⟨g, 0, none⟩) len c, .nilIface]) ∧ len ≤ c ∧ c ≤ maxLen ∧ Row8 w' (some ⟨g, 0, none⟩) len c (eb z q D) ∧ Below w.heap.size w w' := by
  have hpos := hn_pos k
  have hsz := B.size
  obtain ⟨g, off, rfl, _⟩ := hr.2.2.2.2 (by omega)
  have hd := dec_own z g off len cap p D w B.okg hp (by rw [B.bytes]; exact hr) hcl hcm
  rw [B.kind] at hd
  refine und_ok k p q _ len cap z D w B.okg hq B.kind len hsz (hd.mono ?_)
  rintro r w' ⟨a1, l1, c1, h1, h2, h3⟩
  exact ⟨a1, l1, c1, h1, h2, h3⟩
theorem Body.other {k p q : Int} {len : Nat} {zs z D : List Int} (B : Body k p len zs z D) : Body k q len (eb z q D) z D := ⟨B.okg, B.kind, rfl, B.oct, B.size⟩
theorem to4_dich (s d : List Int) (h k : Int) (a : Option Addr) (len cap : Nat) (zs : List Int) (src dst : Int) (w : World) (hr : Row8 w a len cap zs) (hcl : len ≤ cap) (hcm : cap ≤ maxLen) :
    (∃ j, ∀ W, Below w.heap.size w W → Calls Tryd.prog 6 #[V6.pk s d h k a len cap, .int .i64 src, .int .i64 dst] W fun e w' => e = .returned (.tuple #[V4.pk0, err j]) ∧ Below W.heap.size W w') ∨
    (∃ z D, V6.Okp s d h k ∧ len ≤ 320 ∧ up 4294967295 src = true ∧ up 4294967295 dst = true ∧ 2 ≤ h ∧ Body k (o6 s d k len) len zs z D ∧
      ∀ W, Below w.heap.size w W → Calls Tryd.prog 6 #[V6.pk s d h k a len cap, .int .i64 src, .int .i64 dst] W fun e w' => ∃ g c, e = .returned (.tuple #[V4.pk src dst (h - 1) k 0 (some ⟨g, 0, none⟩) len c, .nilIface]) ∧ len ≤ c ∧ c ≤ maxLen ∧ Row8 w' (some ⟨g, 0, none⟩) len c (eb z (o4 src dst k len) D) ∧ Below W.heap.size W w') := by
  classical
  by_cases ho : V6.Okp s d h k
  case neg => exact .inl ⟨1, fun W _ => to4_chk s d h k a len cap src dst W 1 (fun W => V6.chk_bad s d h k a len cap W ho)⟩
  by_cases hl : len ≤ 320
  case neg => exact .inl ⟨3, fun W _ => to4_chk s d h k a len cap src dst W 3 (fun W => V6.chk_full s d h k a len cap W ho (by omega) hr.2.1)⟩
  by_cases hf : up 4294967295 src = true ∧ up 4294967295 dst = true
  case neg => exact .inl ⟨1, fun W _ => to4_four s d h k a len cap src dst W ho hl hf⟩
  obtain ⟨f1, f2⟩ := hf
  have i6 := o6_in s d k len ho.1 ho.2.1
  have i4 := o4_in src dst k len
  cases hk : kn k
  · exact .inl ⟨2, fun W hb => to4_und s d h k a len cap src dst W ho hl f1 f2 2 (fun W' _ => und_shape k _ _ a len cap W' hk)⟩
  · rcases dec_dich k (o6 s d k len) a len cap zs w hr hcl hcm hk i6 with ⟨z, D, b1, b2, b3⟩ | ⟨e, he⟩
    · have B := body_of b1 b2 b3 hr.1 hr.2.2.1
      have hU := fun W (hb : Below w.heap.size w W) => B.und i6 i4 a cap W (hr.below hb) hcl hcm
      by_cases hd : h < 2
      · exact .inl ⟨7, fun W hb => to4_dead s d h k a len cap src dst W ho hl f1 f2 hd _ _ (fun W' hb' => hU W' (bt hb hb'))⟩
      · refine .inr ⟨z, D, ho, hl, f1, f2, by omega, B, fun W hb => ?_⟩
        have hpos := hn_pos k
        have hsz := B.size
        exact to4_ok s d h k a len cap src dst W ho hl f1 f2 (by omega) _ _ (by omega) (fun W' hb' => hU W' (bt hb hb'))
    · refine .inl ⟨e, fun W hb => to4_und s d h k a len cap src dst W ho hl f1 f2 e (fun W' hb' => und_bad k _ _ a len cap W' hk e ((he W' (bt hb hb')).mono ?_))⟩
      rintro r w' ⟨h1, h2⟩
      exact ⟨⟨[], none, 0, 0, h1⟩, h2⟩
end Go.Proofs.YtfjnioninjllkaaDoor
