/- The walk of the statement Pack4Back: whatever the packet, the bit and the bytes, the Go text returns true and writes nothing that was there. -/
import Derived.Test.YtlaljflcgbbhdaaIp4k
namespace Go.Proofs.Ytlaljflcgbbhdaa
open Go.RowKit

/-- what lasts while the statement runs. -/
def VB (w : World) (s d t k i : Int) (a : Option Addr) (len cap : Nat) (W : World) : Prop := PkIn w.heap.size s d t k i a len cap W ∧ Below w.heap.size w W
theorem VB.kept {w : World} {s d t k i : Int} {a : Option Addr} {len cap : Nat} {W W' : World} (h : VB w s d t k i a len cap W) (hb : Below W.heap.size W W') : VB w s d t k i a len cap W' := ⟨h.1.kept hb, bt h.2 hb⟩
theorem VB.start (w : World) (s d t k i : Int) (a : Option Addr) (len cap : Nat) : VB w s d t k i a len cap (w.alloc (.cells #[.int .i64 s, .int .i64 d, .int .i64 t, .int .i64 k, .int .i64 i, .slice a len cap] 24)) := ⟨pk_new w s d t k i a len cap, bx_below w s d t k i a len cap⟩
theorem row_nil (w : World) : Row8 w none 0 0 [] := ⟨rfl, by simp [maxLen], SM.oct_nil, fun _ => ⟨rfl, rfl⟩, fun h => by omega⟩
theorem al_below (w : World) (o : Obj) : Below w.heap.size w (w.alloc o) := (Below.refl _ _).alloc (Nat.le_refl _) _

theorem xor_all : ∀ n : Fin 256, ∀ r : Fin 8, (0 ≤ bits .xor .u8 (n.val : Int) ((2 : Int) ^ r.val % 256) ∧ bits .xor .u8 (n.val : Int) ((2 : Int) ^ r.val % 256) ≤ 255) ∧ bits .xor .u8 (n.val : Int) ((2 : Int) ^ r.val % 256) ≠ (n.val : Int) := by decide +kernel
/-- a bit of a byte turned. -/
theorem xor_turn (z : Int) (hz : 0 ≤ z ∧ z ≤ 255) (r : Nat) (hr : r < 8) : (0 ≤ bits .xor .u8 z ((2 : Int) ^ r % 256) ∧ bits .xor .u8 z ((2 : Int) ^ r % 256) ≤ 255) ∧ bits .xor .u8 z ((2 : Int) ^ r % 256) ≠ z := by
  obtain ⟨n, rfl⟩ := Int.eq_ofNat_of_zero_le hz.1
  exact xor_all ⟨n, by omega⟩ ⟨r, hr⟩
theorem encode_err (s d t k i : Int) (a : Option Addr) (len cap : Nat) (w : World) (hm : len ≤ maxLen) (h : ¬ (Okp s d t k i ∧ len ≤ 320)) :
    Calls Try.prog 4 #[pk s d t k i a len cap] w fun e w' => ∃ j, e = .returned (.tuple #[.slice none 0 0, err j]) ∧ Below w.heap.size w w' := by
  by_cases ho : Okp s d t k i
  · exact (encode_full s d t k i a len cap w ho (by have : ¬ len ≤ 320 := fun hl => h ⟨ho, hl⟩; omega) hm).mono fun e w' ⟨h1, h2⟩ => ⟨3, h1, h2⟩
  · exact (encode_bad s d t k i a len cap w ho).mono fun e w' ⟨h1, h2⟩ => ⟨1, h1, h2⟩
set_option maxRecDepth 100000 in
set_option maxHeartbeats 8000000 in
theorem back_walk (s d t k i : Int) (a : Option Addr) (len cap : Nat) (body : List Int) (bit : Int) (b : Option Addr) (lb cb : Nat) (zs : List Int) (w : World) (hp : Row8 w a len cap body) (hb : Row8 w b lb cb zs) (hlb : lb ≤ cb) (hcb : cb ≤ maxLen) :
    Calls Try.prog 3 #[pk s d t k i a len cap, .int .i64 bit, .slice b lb cb] w fun e w' => e = .returned (.bool true) ∧ Below w.heap.size w w' := by
  have HV := hide (VB.start w s d t k i a len cap)
  have HF := hide (fun W => encode_form 0 0 1 17 0 none 0 0 [] W ⟨⟨by omega, by omega⟩, ⟨by omega, by omega⟩, ⟨by omega, by omega⟩, ⟨by omega, by omega⟩, ⟨by omega, by omega⟩⟩ (by omega) (row_nil W))
  have HRP := hide (fun W (h : VB w s d t k i a len cap W) => hp.below h.2)
  have HRB := hide (fun W (h : VB w s d t k i a len cap W) => hb.below h.2)
  have hm : len ≤ maxLen := hp.2.1
  have hop := hp.2.2.1
  have hlen := hp.1
  have hob := hb.2.2.1
  clear hp hb
  unfold pk at HF ⊢
  go_enter Try.func3, Try.ntmps3
  go_upto_region 2 with (go_at_call 4; refine (HF.out _).mono ?_; rintro e w1 ⟨g1, c1, rfl, h1, h2, -, hr1, hb1⟩; replace HV := hide (HV.out.kept hb1); clear hb1)
  have x0 : w1.cell? ⟨g1, 0, none⟩ = some (.int .u8 69) := by
    obtain ⟨_, _, _, _, h5⟩ := hr1
    obtain ⟨b', o', e', hc⟩ := h5 (by omega)
    cases e'
    exact hc 0 (by omega)
  clear hr1 HF
  go_upto_region 4 with fail
  clear x0
  by_cases hg : P4.Good zs
  case' pos =>
    have HD := hide (fun W (h : VB w s d t k i a len cap W) => decode_good b lb cb zs W (HRB.out W h) hlb hcb hg)
    have HE := hide (fun a' l' c' W h => encode_read zs a' l' c' W hob hg h)
    have hq := str8_eq hob hob true (by simp)
    generalize P4.src zs = s1 at HD HE
    generalize P4.dst zs = d1 at HD HE
    generalize zs.getD 8 0 = t1 at HD HE
    generalize zs.getD 9 0 = k1 at HD HE
    generalize P4.wd zs 4 = i1 at HD HE
    unfold pk at HD HE
    go_upto_region 7 with (first
      | (go_at_call 5; refine (HD.out _ HV.out).mono ?_; rintro e w2 ⟨a2, c2, rfl, hr2, hb2⟩; replace HV := hide ((HV.out.kept hb2).kept (al_below _ (.cells #[.int .i64 s1, .int .i64 d1, .int .i64 t1, .int .i64 k1, .int .i64 i1, .slice a2 (lb - 20) c2] 24))); replace hr2 := hide (hr2.below (al_below _ (.cells #[.int .i64 s1, .int .i64 d1, .int .i64 t1, .int .i64 k1, .int .i64 i1, .slice a2 (lb - 20) c2] 24))); clear hb2)
      | (go_at_call 4; refine (HE.out _ _ _ _ hr2.out).mono ?_; rintro e w3 ⟨a3, l3, c3, rfl, hr3, hb3⟩; replace HV := hide (HV.out.kept hb3); clear hb3))
    have v1 := conv8 hr3
    have v2 := conv8 (HRB.out _ HV.out)
    clear hr3 HD HE
    go_upto_region 9 with fail
    clear v1 v2 hq
  case' neg =>
    have HD := hide (fun W (h : VB w s d t k i a len cap W) => decode_err b lb cb zs W (HRB.out W h) hlb hcb hg)
    unfold pk0 pk err at HD
    go_upto_region 9 with (go_at_call 5; refine (HD.out _ HV.out).mono ?_; rintro e w2 ⟨k2, rfl, hb2⟩; replace HV := hide ((HV.out.kept hb2).kept (al_below _ (.cells #[.int .i64 0, .int .i64 0, .int .i64 0, .int .i64 0, .int .i64 0, .slice none 0 0] 24))); clear hb2)
    clear HD
    generalize w2.alloc (.cells #[.int .i64 0, .int .i64 0, .int .i64 0, .int .i64 0, .int .i64 0, .slice none 0 0] 24) = W2 at HV ⊢
  all_goals
    clear HRB hg
    obtain ⟨p0, p1, p2, p3, p4, p5⟩ := HV.out.1.all
    by_cases hk : Okp s d t k i ∧ len ≤ 320
    · obtain ⟨hk, hl⟩ := hk
      have HE := hide (fun W h => encode_form s d t k i a len cap body W hk hl h)
      have HD := hide (fun a' l' c' W h h1 h2 => decode_bys a' l' c' s d t k i body W h h1 h2 hk (by omega))
      have HS := hide (fun W a1 a2 l1 l2 c1 c2 r1 r2 => pack4s_same s d t k i a1 a2 l1 l2 c1 c2 body W r1 r2)
      have H20 := hide (sum20 s d t k i body hk (by omega) hop)
      have HT := hide (turned_bad s d t k i body hk (by omega) hop)
      have HLX := hide (show (bys s d t k i body).length = 20 + len by rw [bys_len, hlen])
      have HOX := hide (bys_oct s d t k i body hk (by omega) hop)
      generalize bys s d t k i body = X at HE HD H20 HT HLX HOX
      unfold pk at HE HD HS
      go_upto_region 12 with (go_at_call 4; refine (HE.out _ (HRP.out _ HV.out)).mono ?_; rintro e w4 ⟨g4, c4, rfl, hc4, hm4, -, hr4, hb4⟩; replace HV := hide (HV.out.kept hb4); replace hr4 := hide hr4; clear hb4 p0 p1 p2 p3 p4 p5)
      go_upto_region 13 with (go_at_call 5; refine (HD.out _ _ _ _ hr4.out hc4 hm4).mono ?_; rintro e w5 ⟨a5, l5, c5, rfl, hr5, hb5⟩; replace HV := hide (HV.out.kept hb5); replace hr4 := hide (hr4.out.below hb5); replace hr5 := hide hr5; clear hb5)
      have hb6 := al_below w5 (.cells #[.int .i64 s, .int .i64 d, .int .i64 t, .int .i64 k, .int .i64 i, .slice a5 l5 c5] 24)
      have HY := hide (pk_new w5 s d t k i a5 l5 c5)
      replace HV := hide (HV.out.kept hb6)
      replace hr4 := hide (hr4.out.below hb6)
      replace hr5 := hide (hr5.out.below hb6)
      clear hb6 HE HD
      generalize w5.alloc (.cells #[.int .i64 s, .int .i64 d, .int .i64 t, .int .i64 k, .int .i64 i, .slice a5 l5 c5] 24) = W6 at HV HY hr4 hr5 ⊢
      obtain ⟨p0, p1, p2, p3, p4, p5⟩ := HV.out.1.all
      obtain ⟨y0, y1, y2, y3, y4, y5⟩ := HY.out.all
      have hm4' := hm4
      unfold maxLen at hm4'
      have i4 : (20 : Int) ≤ (c4 : Int) := by omega
      have HOF := hide (fun W (h : Row8 W (some ⟨g4, 0, none⟩) (20 + len) c4 X) => of_ok _ 20 c4 _ W (row_take h 20 c4 (by omega)) (by omega))
      rw [H20.out] at HOF
      go_upto_region 17 with (first
        | (go_at_call 6; refine (HS.out _ _ _ _ _ _ _ hr5.out (HRP.out _ HV.out)).mono ?_; rintro e w7 ⟨rfl, hb7⟩; replace HV := hide (HV.out.kept hb7); replace hr4 := hide (hr4.out.below hb7); clear hb7 p0 p1 p2 p3 p4 p5 y0 y1 y2 y3 y4 y5 HY hr5)
        | (go_at_call 7; refine (HOF.out _ hr4.out).mono ?_; rintro e w8 ⟨rfl, rfl⟩))
      by_cases hb0 : bit < 0
      · go_wp2
        go_ret
        exact ⟨rfl, HV.out.2⟩
      · by_cases hb1 : 160 ≤ bit
        · go_wp2
          go_ret
          exact ⟨rfl, HV.out.2⟩
        · obtain ⟨m, rfl⟩ := Int.eq_ofNat_of_zero_le (show 0 ≤ bit by omega)
          have hm160 : m < 160 := by omega
          have HV8 := HV
          have HL9 := hide (show ([] : List Int).length + (20 + len) ≤ 1000000000 by simp; omega)
          go_upto_region 21 with (at_builtin; refine wpList_app rfl (.tmp 100) (.tmp 101) rfl w8.heap.size _ [] rfl (Own.nil _ _) _ (20 + len) c4 X rfl hr4.out HL9.out (Nat.le_refl _) ?_; intro v9 w9 o9 g9; replace o9 : Own w8.heap.size w9 v9 X := o9; have hb9 := (Below.refl _ _).grown g9 (Nat.le_refl _) (fun k h => by cases h); replace HV := hide (HV.out.kept hb9); clear hb9 g9; obtain ⟨g9, c9, rfl, h91, h92, hg9, -, -⟩ := o9.form (by rw [HLX.out]; omega); rw [HLX.out] at h91 o9 ⊢; replace o9 := hide o9)
          have hj : m / 8 < 20 := by omega
          obtain ⟨z1, z2⟩ := o9.out.cell (m / 8) (by omega)
          have hz := HOX.out (m / 8)
          have HT' := hide (HT.out (m / 8) hj)
          generalize hzz : X.getD (m / 8) 0 = z at z1 hz HT'
          have hx := xor_turn z hz (m % 8) (by omega)
          go_upto_region 22 with fail
          generalize bits .xor .u8 z ((2 : Int) ^ (m % 8) % 256) = v at hx ⊢
          have ow := o9.out.set (m / 8) v hx.1
          have HD := hide (decode_err _ _ _ _ _ ow.toRow h91 h92 (HT'.out v hx.1 hx.2))
          have HB9 := hide (HV.out.2.setCell (p := ⟨g9, m / 8, none⟩) (show w.heap.size ≤ g9 by have := HV8.out.2.size; omega) (.int .u8 v))
          generalize w9.setCell ⟨g9, m / 8, none⟩ (.int .u8 v) = W9 at HD HB9 ⊢
          unfold pk0 pk err at HD
          go_wp2_with (go_at_call 5; refine HD.out.mono ?_; rintro e w10 ⟨k10, rfl, hb10⟩; replace HB9 := hide (bt HB9.out hb10); clear hb10)
          go_ret
          exact ⟨rfl, HB9.out⟩
    · have HE := hide (fun W => encode_err s d t k i a len cap W hm hk)
      unfold pk err at HE
      go_wp2_with (go_at_call 4; refine (HE.out _).mono ?_; rintro e w4 ⟨j4, rfl, hb4⟩; replace HV := hide (HV.out.kept hb4); clear hb4)
      go_ret
      exact ⟨rfl, HV.out.2⟩
end Go.Proofs.Ytlaljflcgbbhdaa
