/- Package ip4: Decode of bytes that are not too few and not too many, by contracts. -/
import Derived.Test.YtlaljflcgbbhdaaDoorIp4h
namespace Go.Proofs.YtlaljflcgbbhdaaDoor
open Go.RowKit

theorem Own.toRow {base : Nat} {w : World} {a : Option Addr} {n c : Nat} {zs : List Int} (h : Own base w (.slice a n c) zs) : Row8 w a n c zs := by
  obtain ⟨a', c', e, hr, _⟩ := h.row8
  injection e with e1 e2 e3
  subst e1 e2 e3
  exact hr
set_option maxRecDepth 100000 in
set_option maxHeartbeats 8000000 in
theorem decode_raw (g off len cap : Nat) (zs : List Int) (w : World) (hr : Row8 w (some ⟨g, off, none⟩) len cap zs) (h20 : 20 ≤ len) (h340 : len ≤ 340) (hcl : len ≤ cap) (hcm : cap ≤ maxLen)
    (r1 r2 : Bool) (h1 : P4.Syn zs ↔ r1 = true) (h2 : (P4.enc zs = zs) ↔ r2 = true) :
    Calls Tryd.prog 10 #[.slice (some ⟨g, off, none⟩) len cap] w fun e w' => ((r1 = false ∧ e = .returned (.tuple #[pk0, err 5])) ∨ (r1 = true ∧ r2 = false ∧ e = .returned (.tuple #[pk0, err 6])) ∨
      (r1 = true ∧ r2 = true ∧ ∃ a' c', e = .returned (.tuple #[pk (P4.src zs) (P4.dst zs) (zs.getD 8 0) (zs.getD 9 0) (P4.wd zs 4) a' (len - 20) c', .nilIface]) ∧ Row8 w' a' (len - 20) c' (zs.drop 20))) ∧ Below w.heap.size w w' := by
  have hlen := hr.1
  have hoct := hr.2.2.1
  have HB := hide (bx_below w 0 0 0 0 0 none 0 0)
  have HP := hide (pk_new w 0 0 0 0 0 none 0 0)
  unfold bx at HB
  have HRow := hide (hr.below HB.out)
  have HRead := hide (fun W (h : Row8 W (some ⟨g, off, none⟩) len cap zs) => read_ok g off len cap zs W h h20 h340 hcl hcm)
  have HOk := hide (okp_read zs hoct (by omega))
  have HEnc := hide (bys_enc zs (by omega))
  have HEL := hide ((P4.enc_len zs (by omega)).trans hlen)
  have HLike := hide ((P4.like_iff zs hoct (by omega) (by omega)).trans h1)
  have HSame := hide h2
  generalize P4.src zs = s at HRead HOk HEnc ⊢
  generalize P4.dst zs = d at HRead HOk HEnc ⊢
  generalize zs.getD 8 0 = t at HRead HOk HEnc ⊢
  generalize zs.getD 9 0 = k at HRead HOk HEnc ⊢
  generalize P4.wd zs 4 = i at HRead HOk HEnc ⊢
  have HEncode := hide (fun a' c' W (h : Row8 W a' (len - 20) c' (zs.drop 20)) => encode_ok s d t k i a' (len - 20) c' (zs.drop 20) W HOk.out (by omega) h)
  rw [HEnc.out] at HEncode
  have hcm' := hcm
  unfold maxLen at hcm'
  unfold pk at HRead HEncode
  clear hr hoct h1 h2 HEnc
  go_enter Tryd.func10, Tryd.ntmps10
  go_upto_region 4 with (go_at_call 23; refine (HRead.out _ HRow.out).mono ?_; rintro e w1 ⟨a1, c1, rfl, hrow1, hown1, hb1⟩; replace hown1 := hide hown1; replace HB := hide (bt HB.out hb1); replace HP := hide (HP.out.kept hb1); replace HRow := hide (HRow.out.below hb1); replace hrow1 := hide hrow1; clear hb1)
  have hbn : Below w1.heap.size w1 (w1.alloc (.cells #[.int .i64 s, .int .i64 d, .int .i64 t, .int .i64 k, .int .i64 i, .slice a1 (len - 20) c1] 24)) := (Below.refl _ _).alloc (Nat.le_refl _) _
  have HQ := hide (pk_new w1 s d t k i a1 (len - 20) c1)
  replace HB := hide (bt HB.out hbn)
  replace HP := hide (HP.out.kept hbn)
  replace HRow := hide (HRow.out.below hbn)
  replace hrow1 := hide (hrow1.out.below hbn)
  replace hown1 := hide (hown1.out.kept hbn)
  rw [World.size_alloc] at hown1
  clear hbn
  have hlt := HP.out.lt
  generalize w1.alloc (.cells #[.int .i64 s, .int .i64 d, .int .i64 t, .int .i64 k, .int .i64 i, .slice a1 (len - 20) c1] 24) = W at HQ HB HP HRow hrow1 hown1 hlt ⊢
  obtain ⟨c0, c1', c2, c3, c4, c5⟩ := HQ.out.all
  go_upto_region 5 with (go_at_call 8; refine (HEncode.out a1 c1 _ hrow1.out).mono ?_; rintro e w2 ⟨v, rfl, ho2, hb2⟩; obtain ⟨gE, cE, rfl, hE1, hE2, -, -, hrowE⟩ := ho2.form (by rw [HEL.out]; omega); rw [HEL.out] at hE1 hrowE ⊢; replace HB := hide (bt HB.out hb2); replace HP := hide (HP.out.kept hb2); replace HQ := hide (HQ.out.kept hb2); replace HRow := hide (HRow.out.below hb2); replace hrow1 := hide (hrow1.out.below hb2); replace hown1 := hide (hown1.out.kept hb2); replace hrowE := hide hrowE; clear hb2 ho2 c0 c1' c2 c3 c4 c5)
  have HAl := hide (alike_any gE 0 len cE g off len cap _ _ w2 hrowE.out HRow.out h20 h20 hE1 hcl hE2 hcm r1 HLike.out)
  have HEq := hide (fun n => equal_any _ _ _ _ _ _ _ _ _ (hrowE.out.drewN n) (HRow.out.drewN n) r2 HSame.out)
  have hE2' := hE2
  unfold maxLen at hE2'
  obtain ⟨c0, c1', c2, c3, c4, c5⟩ := HP.out.all
  obtain ⟨k0, k1, k2, k3, k4, k5⟩ := HP.out.frz
  have HPn := hide (fun n => show PkIn w.heap.size 0 0 0 0 0 none 0 0 (w2.drewN n) from HP.out)
  have HBn := hide (fun n => show Below w.heap.size w (w2.drewN n) from HB.out.trans ⟨rfl, rfl, rfl, Nat.le_refl _, fun _ _ => rfl⟩)
  cases r1
  · go_wp2_with (go_at_call 24; refine HAl.out.mono ?_; rintro e w3 ⟨rfl, n, rfl⟩)
    try simp only [Exit.inBlock, Exit.then]
    refine bodyPost_ret (results_cr rfl _ _ w.heap.size 0 0 0 0 0 none 0 0 rfl (put6_pk (HPn.out n) 0 0 0 0 0 none 0 0)) rfl ?_
    have hfin := put6_below (HBn.out n) (Nat.le_refl _) 0 0 0 0 0 none 0 0
    first
    | exact ⟨rfl, hfin⟩
    | exact ⟨.inl ⟨rfl, rfl⟩, hfin⟩
  · cases r2
    · go_wp2_with (first
        | (go_at_call 24; refine HAl.out.mono ?_; rintro e w3 ⟨rfl, n, rfl⟩)
        | (go_at_call 25; refine (HEq.out _).mono ?_; rintro e w3 ⟨rfl, rfl⟩))
      try simp only [Exit.inBlock, Exit.then]
      refine bodyPost_ret (results_cr rfl _ _ w.heap.size 0 0 0 0 0 none 0 0 rfl (put6_pk (HPn.out n) 0 0 0 0 0 none 0 0)) rfl ?_
      have hfin := put6_below (HBn.out n) (Nat.le_refl _) 0 0 0 0 0 none 0 0
      first
      | exact ⟨rfl, hfin⟩
      | exact ⟨.inr (.inl ⟨rfl, rfl, rfl⟩), hfin⟩
    · obtain ⟨e0, e1, e2, e3, e4, e5⟩ := HQ.out.all
      go_wp2_with (first
        | (go_at_call 24; refine HAl.out.mono ?_; rintro e w3 ⟨rfl, n, rfl⟩)
        | (go_at_call 25; refine (HEq.out _).mono ?_; rintro e w3 ⟨rfl, rfl⟩))
      try simp only [Exit.inBlock, Exit.then]
      refine bodyPost_ret (results_cr rfl _ _ w.heap.size s d t k i a1 (len - 20) c1 rfl (put6_pk (HPn.out n) s d t k i a1 (len - 20) c1)) rfl ?_
      have hfin := put6_below (HBn.out n) (Nat.le_refl _) s d t k i a1 (len - 20) c1
      have hrow : Row8 (put6 (w2.drewN n) w.heap.size s d t k i a1 (len - 20) c1) a1 (len - 20) c1 (zs.drop 20) := (hown1.out.heap (fun g hg _ => put6_heap (w2.drewN n) w.heap.size g (by omega) s d t k i a1 (len - 20) c1)).toRow
      first
      | exact ⟨⟨a1, c1, rfl, hrow⟩, hfin⟩
      | exact ⟨.inr (.inr ⟨rfl, rfl, a1, c1, rfl, hrow⟩), hfin⟩
end Go.Proofs.YtlaljflcgbbhdaaDoor
