/- The document's own Encoded4, by a contract. -/
import Derived.Test.YtlaljflcgbbhdaaDoorR4c
namespace Go.Proofs.YtlaljflcgbbhdaaDoor
open Go.RowKit
attribute [local go_sem ↓] Go.wp_at_zero Go.wp_at_succ

theorem bytes4_form (s d t k i : Int) (a : Option Addr) (len cap : Nat) (c : Int) (w : World) (h : Okp s d t k i) (hl : len ≤ 320) (hc : 0 ≤ c ∧ c ≤ 65535) :
    Calls Tryd.prog 18 #[pk s d t k i a len cap, .int .i64 c] w fun e w' => ∃ g c', e = .returned (.slice (some ⟨g, 0, none⟩) 20 c') ∧ Row8 w' (some ⟨g, 0, none⟩) 20 c' (P4.hd s d t k i (20 + len) c) ∧ Own w.heap.size w' (.slice (some ⟨g, 0, none⟩) 20 c') (P4.hd s d t k i (20 + len) c) ∧ Below w.heap.size w w' := by
  refine (bytes4_any s d t k i a len cap c w h hl hc).mono ?_
  rintro e w' ⟨v, rfl, ho, hb⟩
  obtain ⟨g, c', rfl, _, _, _, _, hr⟩ := ho.form (by rw [P4.hd_len]; omega)
  rw [P4.hd_len] at hr ho ⊢
  exact ⟨g, c', rfl, hr, ho, hb⟩

set_option maxRecDepth 100000 in
set_option maxHeartbeats 4000000 in
theorem encoded4_any (s d t k i : Int) (a : Option Addr) (len cap : Nat) (body : List Int) (w : World) (h : Okp s d t k i) (hl : len ≤ 320) (hr : Row8 w a len cap body) :
    Calls Tryd.prog 7 #[pk s d t k i a len cap] w fun e w' => ∃ v, e = .returned v ∧ Own w.heap.size w' v (bys s d t k i body) ∧ Below w.heap.size w w' := by
  have HO := hide (okp_okh h hl)
  have hck := P4.ck_in _ _ _ _ _ _ HO.out
  have hlen := hr.1
  have HB1 := hide (fun W => bytes4_form s d t k i a len cap 0 W h hl (by omega))
  have HB2 := hide (fun W => bytes4_form s d t k i a len cap _ W h hl hck)
  have HSum := hide (fun g c' W (h : Row8 W (some ⟨g, 0, none⟩) 20 c' (P4.hd s d t k i (20 + len) 0)) => rsumof_any _ 20 c' _ W h (by omega))
  have hq : 65535 - SM.fold (SM.tot (P4.hd s d t k i (20 + len) 0) 20) = P4.ck s d t k i (20 + len) := rfl
  have HBY := hide (show bys s d t k i body = P4.hd s d t k i (20 + len) (P4.ck s d t k i (20 + len)) ++ body by unfold bys; rw [hlen])
  have HLN := hide (show (P4.hd s d t k i (20 + len) (P4.ck s d t k i (20 + len))).length + len ≤ 1000000000 by rw [P4.hd_len]; omega)
  generalize P4.ck s d t k i (20 + (len : Int)) = c at hck HB2 hq HBY HLN
  generalize SM.fold (SM.tot (P4.hd s d t k i (20 + (len : Int)) 0) 20) = x at HSum hq
  have hq2 : IntKind.i64.wrap (65535 - x) = c := by rw [IntKind.wrap_i64]; omega
  have HQ := hide hq
  have HR := hide hr
  have HB0 := hide (show Below w.heap.size w (w.alloc (.cells #[.int .i64 s, .int .i64 d, .int .i64 t, .int .i64 k, .int .i64 i, .slice a len cap] 24)).drew from (bx_below w s d t k i a len cap).drew)
  have HP := hide (show PkIn w.heap.size s d t k i a len cap (w.alloc (.cells #[.int .i64 s, .int .i64 d, .int .i64 t, .int .i64 k, .int .i64 i, .slice a len cap] 24)).drew from pk_new w s d t k i a len cap)
  clear h hr hq
  unfold pk at HB1 HB2 ⊢
  go_enter Tryd.func7, Tryd.ntmps7
  go_upto_region 1 with fail
  go_region_held3 (fun w' => w'.cell? ⟨w.heap.size, 0, none⟩ = some (.int .i64 s) ∧ w'.cell? ⟨w.heap.size, 1, none⟩ = some (.int .i64 d) ∧ w'.cell? ⟨w.heap.size, 2, none⟩ = some (.int .i64 t) ∧ w'.cell? ⟨w.heap.size, 3, none⟩ = some (.int .i64 k) ∧ w'.cell? ⟨w.heap.size, 4, none⟩ = some (.int .i64 i) ∧ w'.cell? ⟨w.heap.size, 5, none⟩ = some (.slice a len cap))
    (first
      | exact HP.out.all
      | go_keep)
    (first
      | (go_at_call 18; with_reducible refine (HB1.out _).mono ?_; rintro e w1 ⟨g1, c1, rfl, hr1, -, hb1⟩; replace HP := hide (HP.out.kept hb1); replace HB0 := hide (bt HB0.out hb1); replace hr1 := hide hr1; clear hb1)
      | (go_at_call 19; refine (HSum.out _ _ _ hr1.out).mono ?_; rintro e w2 ⟨rfl, rfl⟩)
      | (go_at_call 18; with_reducible refine (HB2.out _).mono ?_; rintro e w3 ⟨g3, c3, rfl, -, o3, hb3⟩; replace o3 := hide (o3.mono HP.out.lt); replace HP := hide (HP.out.kept hb3); replace HB0 := hide (bt HB0.out hb3); clear hb3))
  obtain ⟨-, -, -, -, -, p5⟩ := HP.out.all
  go_wp2_with (at_builtin; refine wpList_app rfl (.tmp 10) (.tmp 12) rfl (w.heap.size + 1) _ _ rfl o3.out a len cap body rfl (HR.out.below HB0.out) HLN.out HP.out.lt ?_; intro v5 w5 o5 g5; replace o5 := hide o5; replace HB0 := hide (HB0.out.grown g5 HB0.out.size (fun g h => Nat.le_of_succ_le (o3.out.2.lt g h).1)))
  go_ret
  exact ⟨_, rfl, HBY.out ▸ o5.out.mono (Nat.le_succ _), HB0.out⟩

/-- the document's own word at a place. -/
theorem word_at (g off len cap : Nat) (zs : List Int) (w : World) (x : Int) (hr : Row8 w (some ⟨g, off, none⟩) len cap zs) (h0 : 0 ≤ x) (h1 : x + 1 < len) :
    Calls Tryd.prog 22 #[.slice (some ⟨g, off, none⟩) len cap, .int .i64 x] w fun e w' => e = .returned (.int .i64 (P4.wd zs x.toNat)) ∧ ∃ n, w' = w.drewN n := by
  obtain ⟨j, rfl⟩ := Int.eq_ofNat_of_zero_le h0
  obtain ⟨hz, hm, hoct, _, hcs⟩ := hr
  obtain ⟨b, o, e, hcell⟩ := hcs (by omega)
  cases e
  have c0 := hcell j (by omega)
  have c1 := hcell (j + 1) (by omega)
  have b0 := hoct j
  have b1 := hoct (j + 1)
  have HW := hide (show P4.wd zs (Int.toNat (j : Int)) = 256 * zs.getD j 0 + zs.getD (j + 1) 0 from rfl)
  clear hcell hcs hoct
  generalize zs.getD j 0 = y0 at c0 b0 HW
  generalize zs.getD (j + 1) 0 = y1 at c1 b1 HW
  unfold maxLen at hm
  have i0 : (0 : Int) ≤ (j : Int) := by omega
  have i1 : (j : Int) < (len : Int) := by omega
  have i2 : (j : Int) + 1 < (len : Int) := by omega
  have q0 : IntKind.i64.wrap ((j : Int) + 1) = (j : Int) + 1 := by rw [IntKind.wrap_i64]; omega
  have q1 : IntKind.i64.wrap y0 = y0 := by rw [IntKind.wrap_i64]; omega
  have q2 : IntKind.i64.wrap y1 = y1 := by rw [IntKind.wrap_i64]; omega
  have q3 : IntKind.i64.wrap (256 * y0) = 256 * y0 := by rw [IntKind.wrap_i64]; omega
  have q4 : IntKind.i64.wrap (256 * y0 + y1) = 256 * y0 + y1 := by rw [IntKind.wrap_i64]; omega
  clear h0 h1
  go_enter Tryd.func22, Tryd.ntmps22
  go_upto_region 1 with fail
  go_quiet (fail)
  go_wp2
  go_ret
  exact ⟨by rw [HW.out]; rfl, _, rfl⟩
end Go.Proofs.YtlaljflcgbbhdaaDoor
