/- Package ip4: alike, by a contract. Package ip4: Decode, by contracts. Package ip4: Decode of bytes that are not too few and not too many, by contracts. Package ip4: Decode of whatever bytes, by one contract; the statements' own question whether two packets are the same. What the statement Pack4Back asks of Encode and Decode, in the forms in which its walk takes them. -/
import Derived.Test.YtkhahbghmdccaaaGreatDoorF06
import Derived.Test.YtkhahbghmdccaaaGreatDoorF10
import Derived.Below
import Derived.OpenShut
import Derived.Test.YtkhahbghmdccaaaGreatDoorProg
import Derived.WalkKit
import Derived.LaidEql
import Derived.BigQuiet
import Derived.Laws.AppendOwnNone
import Derived.Laws.MakeOwn
import Derived.Deep.RegionLaw
import Derived.Lib.Bytes
import Derived.Deep.MidRow
import Derived.Laws.ResultCell
import Derived.Deep.CutBlock
import Derived.Deep.QuietTactic
import Derived.OwnWalk
import Derived.Deep.RegionHeld3
import Derived.Deep.DrawnRows
import Derived.Test.YtkhahbghmdccaaaGreatDoorF02
namespace Go.Proofs.YtkhahbghmdccaaaGreatDoor.V4
open Go.RowKit
theorem Row8.drewN {w : World} {a : Option Addr} {len cap : Nat} {zs : List Int} (h : Row8 w a len cap zs) (n : Nat) : Row8 (w.drewN n) a len cap zs := h.below ((Below.refl _ _).trans ⟨rfl, rfl, rfl, Nat.le_refl _, fun _ _ => rfl⟩)
theorem row_take {w : World} {g off len cap : Nat} {zs : List Int} (h : Row8 w (some ⟨g, off, none⟩) len cap zs) (n c : Nat) (hn : n ≤ len) : Row8 w (some ⟨g, off, none⟩) n c (zs.take n) := by
  have := h.part 0 n (by omega) hn (some ⟨g, off, none⟩) c (fun b o _ e => by cases e; rfl) (fun e => by cases e)
  simpa using this
theorem row_drop {w : World} {g off len cap : Nat} {zs : List Int} (h : Row8 w (some ⟨g, off, none⟩) len cap zs) (n c : Nat) (hn : n ≤ len) : Row8 w (some ⟨g, off + n, none⟩) (len - n) c (zs.drop n) := by
  have := h.part n len hn (Nat.le_refl _) (some ⟨g, off + n, none⟩) c (fun b o _ e => by cases e; rfl) (fun e => by cases e)
  exact this.congr (List.take_of_length_le (by rw [List.length_drop, h.1]; exact Nat.le_refl _))
set_option maxRecDepth 100000 in
set_option maxHeartbeats 4000000 in
theorem alike_any (gx ox lx cx gz oz lz cz : Nat) (xs zs : List Int) (w : World) (rx : Row8 w (some ⟨gx, ox, none⟩) lx cx xs) (rz : Row8 w (some ⟨gz, oz, none⟩) lz cz zs) (hx : 20 ≤ lx) (hz : 20 ≤ lz) (hxc : lx ≤ cx) (hzc : lz ≤ cz) (hxm : cx ≤ maxLen) (hzm : cz ≤ maxLen)
    (r : Bool) (hr : (xs.take 10 = zs.take 10 ∧ xs.drop 12 = zs.drop 12) ↔ r = true) :
    Calls Tryz.prog 71 #[.slice (some ⟨gx, ox, none⟩) lx cx, .slice (some ⟨gz, oz, none⟩) lz cz] w fun e w' => e = .returned (.bool r) ∧ ∃ n, w' = w.drewN n := by
  have a1 := fun n => row_take (rx.drewN n) 10 cx (by omega)
  have a2 := fun n => row_take (rz.drewN n) 10 cz (by omega)
  have b1 := fun n => row_drop (rx.drewN n) 12 (cx - 12) (by omega)
  have b2 := fun n => row_drop (rz.drewN n) 12 (cz - 12) (by omega)
  have H1 := hide (fun r hr n => equal_any _ _ _ _ _ _ _ _ _ (a1 n) (a2 n) r hr)
  have H2 := hide (fun r hr n => equal_any _ _ _ _ _ _ _ _ _ (b1 n) (b2 n) r hr)
  clear a1 a2 b1 b2 rx rz
  unfold maxLen at hxm hzm
  have i1 : (10 : Int) ≤ (cx : Int) := by omega
  have i2 : (10 : Int) ≤ (cz : Int) := by omega
  have i3 : (12 : Int) ≤ (lx : Int) := by omega
  have i4 : (12 : Int) ≤ (lz : Int) := by omega
  have i5 : (lx : Int) ≤ (cx : Int) := by omega
  have i6 : (lz : Int) ≤ (cz : Int) := by omega
  have i7 : cx ≠ 12 := by omega
  have i8 : cz ≠ 12 := by omega
  by_cases h1 : xs.take 10 = zs.take 10
  · have H1' := hide (H1.out true (by simp [h1]))
    have H2' := hide (H2.out r (by rw [← hr]; simp [h1]))
    clear H1 H2 h1 hr
    go_enter Tryz.func71, Tryz.ntmps71
    go_upto_region 1 with fail
    go_quiet (first
      | (go_at_call 72; with_reducible refine Calls.quiet_of_same (H1'.out _))
      | (go_at_call 72; with_reducible refine Calls.quiet_of_same (H2'.out _)))
    go_wp2
    go_ret
    exact ⟨rfl, _, rfl⟩
  · have H1' := hide (H1.out false (by simp [h1]))
    have hf : r = false := by
      cases r
      · rfl
      · exact absurd (hr.2 rfl).1 h1
    subst hf
    clear H1 H2 h1 hr
    go_enter Tryz.func71, Tryz.ntmps71
    go_upto_region 1 with fail
    go_quiet (first | (go_at_call 72; with_reducible refine Calls.quiet_of_same (H1'.out _)))
    go_wp2
    go_ret
    exact ⟨rfl, _, rfl⟩
end Go.Proofs.YtkhahbghmdccaaaGreatDoor.V4

namespace Go.Proofs.YtkhahbghmdccaaaGreatDoor.V4
open Go.RowKit
theorem Own.form {base : Nat} {w : World} {v : Value} {zs : List Int} (h : Own base w v zs) (hp : 0 < zs.length) : ∃ g cap, v = .slice (some ⟨g, 0, none⟩) zs.length cap ∧ zs.length ≤ cap ∧ cap ≤ maxLen ∧ base ≤ g ∧ g < w.heap.size ∧ Row8 w (some ⟨g, 0, none⟩) zs.length cap zs := by
  obtain ⟨a, cap0, hv, hrow, hlt⟩ := h.row8
  rcases h.2.2 with ⟨rfl, hn⟩ | ⟨g, cap, cur, rfl, hb', hg, h1, h2, rest⟩
  · omega
  · injection hv with e1 _ e3
    subst e1
    subst e3
    exact ⟨g, _, rfl, h1, h2, hb', (Array.getElem?_eq_some_iff.1 hg).1, hrow⟩
theorem num_src (zs : List Int) : num (zs.drop 12) 4 = P4.src zs := by
  simp only [num, P4.getD_drop, Nat.reduceAdd]
  unfold P4.src P4.wd
  simp only [Nat.reduceAdd]
  omega
theorem num_dst (zs : List Int) : num (zs.drop 16) 4 = P4.dst zs := by
  simp only [num, P4.getD_drop, Nat.reduceAdd]
  unfold P4.dst P4.wd
  simp only [Nat.reduceAdd]
  omega
theorem num_wd (zs : List Int) : num (zs.drop 4) 2 = P4.wd zs 4 := by
  simp only [num, P4.getD_drop, Nat.reduceAdd]
  unfold P4.wd
  simp only [Nat.reduceAdd]
  omega
theorem read_ok (g off len cap : Nat) (zs : List Int) (w : World) (hr : Row8 w (some ⟨g, off, none⟩) len cap zs) (h20 : 20 ≤ len) (h340 : len ≤ 340) (hcl : len ≤ cap) (hcm : cap ≤ maxLen) :
    Calls Tryz.prog 69 #[.slice (some ⟨g, off, none⟩) len cap] w fun e w' => ∃ a' c', e = .returned (pk (P4.src zs) (P4.dst zs) (zs.getD 8 0) (zs.getD 9 0) (P4.wd zs 4) a' (len - 20) c') ∧ Row8 w' a' (len - 20) c' (zs.drop 20) ∧ Own w.heap.size w' (.slice a' (len - 20) c') (zs.drop 20) ∧ Below w.heap.size w w' := by
  refine (read_raw g off len cap zs w hr h20 h340 hcl hcm).mono ?_
  rintro e w' ⟨v, rfl, ho, hb⟩
  rw [num_src, num_dst, num_wd]
  have hl : (zs.drop 20).length = len - 20 := by rw [List.length_drop, hr.1]
  obtain ⟨a', c', hv, hrow, _⟩ := ho.row8
  rw [hl] at hv hrow
  subst hv
  exact ⟨a', c', rfl, hrow, ho, hb⟩
theorem okp_read (zs : List Int) (ho : SM.Oct zs) (hl : zs.length ≤ 340) : Okp (P4.src zs) (P4.dst zs) (zs.getD 8 0) (zs.getD 9 0) (P4.wd zs 4) := by
  obtain ⟨h1, h2, h3, h4, h5, _⟩ := P4.okh_len zs ho hl
  exact ⟨h1, h2, h3, h4, h5⟩
theorem bys_enc (zs : List Int) (h : 20 ≤ zs.length) : bys (P4.src zs) (P4.dst zs) (zs.getD 8 0) (zs.getD 9 0) (P4.wd zs 4) (zs.drop 20) = P4.enc zs := by
  unfold bys P4.enc P4.ckz
  have e : (20 : Int) + ((zs.drop 20).length : Nat) = (zs.length : Int) := by rw [List.length_drop]; omega
  rw [e]
def err (k : Int) : Value := .iface 28 (.int .i64 k)
set_option maxHeartbeats 2000000 in
theorem decode_len (a : Option Addr) (len cap : Nat) (w : World) (h : len < 20 ∨ 340 < len) (hm : len ≤ maxLen) :
    Calls Tryz.prog 22 #[.slice a len cap] w fun e w' => e = .returned (.tuple #[pk0, err 5]) ∧ Below w.heap.size w w' := by
  unfold maxLen at hm
  have HB := hide (bx_below w 0 0 0 0 0 none 0 0)
  have HP := hide (pk_new w 0 0 0 0 0 none 0 0)
  unfold bx at HB
  rcases h with h | h
  · go_enter Tryz.func22, Tryz.ntmps22
    go_wp2
    try simp only [Exit.inBlock, Exit.then]
    refine bodyPost_ret (results_cr rfl _ _ w.heap.size 0 0 0 0 0 none 0 0 rfl HP.out) rfl ?_
    exact ⟨rfl, HB.out⟩
  · have h' : ¬ len < 20 := by omega
    go_enter Tryz.func22, Tryz.ntmps22
    go_wp2
    try simp only [Exit.inBlock, Exit.then]
    refine bodyPost_ret (results_cr rfl _ _ w.heap.size 0 0 0 0 0 none 0 0 rfl HP.out) rfl ?_
    exact ⟨rfl, HB.out⟩
end Go.Proofs.YtkhahbghmdccaaaGreatDoor.V4

namespace Go.Proofs.YtkhahbghmdccaaaGreatDoor.V4
open Go.RowKit
theorem Own.toRow {base : Nat} {w : World} {a : Option Addr} {n c : Nat} {zs : List Int} (h : Own base w (.slice a n c) zs) : Row8 w a n c zs := by
  obtain ⟨a', c', e, hr, _⟩ := h.row8
  injection e with e1 e2 e3
  subst e1 e2 e3
  exact hr
set_option maxRecDepth 100000 in
set_option maxHeartbeats 8000000 in
theorem decode_raw (g off len cap : Nat) (zs : List Int) (w : World) (hr : Row8 w (some ⟨g, off, none⟩) len cap zs) (h20 : 20 ≤ len) (h340 : len ≤ 340) (hcl : len ≤ cap) (hcm : cap ≤ maxLen)
    (r1 r2 : Bool) (h1 : P4.Syn zs ↔ r1 = true) (h2 : (P4.enc zs = zs) ↔ r2 = true) :
    Calls Tryz.prog 22 #[.slice (some ⟨g, off, none⟩) len cap] w fun e w' => ((r1 = false ∧ e = .returned (.tuple #[pk0, err 5])) ∨ (r1 = true ∧ r2 = false ∧ e = .returned (.tuple #[pk0, err 6])) ∨
      (r1 = true ∧ r2 = true ∧ ∃ a' c', e = .returned (.tuple #[pk (P4.src zs) (P4.dst zs) (zs.getD 8 0) (zs.getD 9 0) (P4.wd zs 4) a' (len - 20) c', .nilIface]) ∧ (Row8 w' a' (len - 20) c' (zs.drop 20) ∧ len - 20 ≤ c' ∧ c' ≤ maxLen))) ∧ Below w.heap.size w w' := by
  have hlen := hr.1
  have hoct := hr.2.2.1
  have HB := hide (bx_below w 0 0 0 0 0 none 0 0)
  have HP := hide (pk_new w 0 0 0 0 0 none 0 0)
  unfold bx at HB
  have HRow := hide (hr.below HB.out)
  have HRead := hide (fun W (h : Row8 W (some ⟨g, off, none⟩) len cap zs) => read_ok g off len cap zs W h h20 h340 hcl hcm)
  have HOk := hide (okp_read zs hoct (by omega))
  have HEnc := hide (bys_enc zs (by omega))
  have HEL := hide ((P4.enc_len zs (by omega)).trans hlen)
  have HLike := hide ((P4.like_iff zs hoct (by omega) (by omega)).trans h1)
  have HSame := hide h2
  generalize P4.src zs = s at HRead HOk HEnc ⊢
  generalize P4.dst zs = d at HRead HOk HEnc ⊢
  generalize zs.getD 8 0 = t at HRead HOk HEnc ⊢
  generalize zs.getD 9 0 = k at HRead HOk HEnc ⊢
  generalize P4.wd zs 4 = i at HRead HOk HEnc ⊢
  have HEncode := hide (fun a' c' W (h : Row8 W a' (len - 20) c' (zs.drop 20)) => encode_ok s d t k i a' (len - 20) c' (zs.drop 20) W HOk.out (by omega) h)
  rw [HEnc.out] at HEncode
  have hcm' := hcm
  unfold maxLen at hcm'
  unfold pk at HRead HEncode
  clear hr hoct h1 h2 HEnc
  go_enter Tryz.func22, Tryz.ntmps22
  go_upto_region 4 with (go_at_call 69; refine (HRead.out _ HRow.out).mono ?_; rintro e w1 ⟨a1, c1, rfl, hrow1, hown1, hb1⟩; replace hown1 := hide hown1; replace HB := hide (bt HB.out hb1); replace HP := hide (HP.out.kept hb1); replace HRow := hide (HRow.out.below hb1); replace hrow1 := hide hrow1; clear hb1)
  have hbn : Below w1.heap.size w1 (w1.alloc (.cells #[.int .i64 s, .int .i64 d, .int .i64 t, .int .i64 k, .int .i64 i, .slice a1 (len - 20) c1] 65)) := (Below.refl _ _).alloc (Nat.le_refl _) _
  have HQ := hide (pk_new w1 s d t k i a1 (len - 20) c1)
  replace HB := hide (bt HB.out hbn)
  replace HP := hide (HP.out.kept hbn)
  replace HRow := hide (HRow.out.below hbn)
  replace hrow1 := hide (hrow1.out.below hbn)
  replace hown1 := hide (hown1.out.kept hbn)
  rw [World.size_alloc] at hown1
  clear hbn
  have hlt := HP.out.lt
  generalize w1.alloc (.cells #[.int .i64 s, .int .i64 d, .int .i64 t, .int .i64 k, .int .i64 i, .slice a1 (len - 20) c1] 65) = W at HQ HB HP HRow hrow1 hown1 hlt ⊢
  obtain ⟨c0, c1', c2, c3, c4, c5⟩ := HQ.out.all
  go_upto_region 5 with (go_at_call 70; refine (HEncode.out a1 c1 _ hrow1.out).mono ?_; rintro e w2 ⟨v, rfl, ho2, hb2⟩; obtain ⟨gE, cE, rfl, hE1, hE2, -, -, hrowE⟩ := ho2.form (by rw [HEL.out]; omega); rw [HEL.out] at hE1 hrowE ⊢; replace HB := hide (bt HB.out hb2); replace HP := hide (HP.out.kept hb2); replace HQ := hide (HQ.out.kept hb2); replace HRow := hide (HRow.out.below hb2); replace hrow1 := hide (hrow1.out.below hb2); replace hown1 := hide (hown1.out.kept hb2); replace hrowE := hide hrowE; clear hb2 ho2 c0 c1' c2 c3 c4 c5)
  have HAl := hide (alike_any gE 0 len cE g off len cap _ _ w2 hrowE.out HRow.out h20 h20 hE1 hcl hE2 hcm r1 HLike.out)
  have HEq := hide (fun n => equal_any _ _ _ _ _ _ _ _ _ (hrowE.out.drewN n) (HRow.out.drewN n) r2 HSame.out)
  have hE2' := hE2
  unfold maxLen at hE2'
  obtain ⟨c0, c1', c2, c3, c4, c5⟩ := HP.out.all
  obtain ⟨k0, k1, k2, k3, k4, k5⟩ := HP.out.frz
  have HPn := hide (fun n => show PkIn w.heap.size 0 0 0 0 0 none 0 0 (w2.drewN n) from HP.out)
  have HBn := hide (fun n => show Below w.heap.size w (w2.drewN n) from HB.out.trans ⟨rfl, rfl, rfl, Nat.le_refl _, fun _ _ => rfl⟩)
  cases r1
  · go_wp2_with (go_at_call 71; refine HAl.out.mono ?_; rintro e w3 ⟨rfl, n, rfl⟩)
    try simp only [Exit.inBlock, Exit.then]
    refine bodyPost_ret (results_cr rfl _ _ w.heap.size 0 0 0 0 0 none 0 0 rfl (put6_pk (HPn.out n) 0 0 0 0 0 none 0 0)) rfl ?_
    have hfin := put6_below (HBn.out n) (Nat.le_refl _) 0 0 0 0 0 none 0 0
    first
    | exact ⟨rfl, hfin⟩
    | exact ⟨.inl ⟨rfl, rfl⟩, hfin⟩
  · cases r2
    · go_wp2_with (first
        | (go_at_call 71; refine HAl.out.mono ?_; rintro e w3 ⟨rfl, n, rfl⟩)
        | (go_at_call 72; refine (HEq.out _).mono ?_; rintro e w3 ⟨rfl, rfl⟩))
      try simp only [Exit.inBlock, Exit.then]
      refine bodyPost_ret (results_cr rfl _ _ w.heap.size 0 0 0 0 0 none 0 0 rfl (put6_pk (HPn.out n) 0 0 0 0 0 none 0 0)) rfl ?_
      have hfin := put6_below (HBn.out n) (Nat.le_refl _) 0 0 0 0 0 none 0 0
      first
      | exact ⟨rfl, hfin⟩
      | exact ⟨.inr (.inl ⟨rfl, rfl, rfl⟩), hfin⟩
    · obtain ⟨e0, e1, e2, e3, e4, e5⟩ := HQ.out.all
      go_wp2_with (first
        | (go_at_call 71; refine HAl.out.mono ?_; rintro e w3 ⟨rfl, n, rfl⟩)
        | (go_at_call 72; refine (HEq.out _).mono ?_; rintro e w3 ⟨rfl, rfl⟩))
      try simp only [Exit.inBlock, Exit.then]
      refine bodyPost_ret (results_cr rfl _ _ w.heap.size s d t k i a1 (len - 20) c1 rfl (put6_pk (HPn.out n) s d t k i a1 (len - 20) c1)) rfl ?_
      have hfin := put6_below (HBn.out n) (Nat.le_refl _) s d t k i a1 (len - 20) c1
      have hrow : Row8 (put6 (w2.drewN n) w.heap.size s d t k i a1 (len - 20) c1) a1 (len - 20) c1 (zs.drop 20) := (hown1.out.heap (fun g hg _ => put6_heap (w2.drewN n) w.heap.size g (by omega) s d t k i a1 (len - 20) c1)).toRow
      first
      | exact ⟨⟨a1, c1, rfl, hrow, ⟨by have h9 := hown1.out.caps.1; omega, hown1.out.caps.2⟩⟩, hfin⟩
      | exact ⟨.inr (.inr ⟨rfl, rfl, a1, c1, rfl, hrow, ⟨by have h9 := hown1.out.caps.1; omega, hown1.out.caps.2⟩⟩), hfin⟩
end Go.Proofs.YtkhahbghmdccaaaGreatDoor.V4

namespace Go.Proofs.YtkhahbghmdccaaaGreatDoor.V4
open Go.RowKit
theorem decode_any (a : Option Addr) (len cap : Nat) (zs : List Int) (w : World) (hr : Row8 w a len cap zs) (hcl : len ≤ cap) (hcm : cap ≤ maxLen) :
    Calls Tryz.prog 22 #[.slice a len cap] w fun e w' => ((¬ P4.Syn zs ∧ e = .returned (.tuple #[pk0, err 5])) ∨ (P4.Syn zs ∧ ¬ P4.Good zs ∧ e = .returned (.tuple #[pk0, err 6])) ∨
      (P4.Good zs ∧ ∃ a' c', e = .returned (.tuple #[pk (P4.src zs) (P4.dst zs) (zs.getD 8 0) (zs.getD 9 0) (P4.wd zs 4) a' (len - 20) c', .nilIface]) ∧ (Row8 w' a' (len - 20) c' (zs.drop 20) ∧ len - 20 ≤ c' ∧ c' ≤ maxLen))) ∧ Below w.heap.size w w' := by
  have hl := hr.1
  by_cases hlen : len < 20 ∨ 340 < len
  · refine (decode_len a len cap w hlen hr.2.1).mono ?_
    rintro e w' ⟨rfl, hb⟩
    refine ⟨.inl ⟨fun h => ?_, rfl⟩, hb⟩
    have h1 := h.1
    have h2 := h.2.1
    omega
  · obtain ⟨g, off, rfl, _⟩ := hr.2.2.2.2 (by omega)
    classical
    refine (decode_raw g off len cap zs w hr (by omega) (by omega) hcl hcm (decide (P4.Syn zs)) (decide (P4.enc zs = zs)) (by simp) (by simp)).mono ?_
    rintro e w' ⟨hh, hb⟩
    refine ⟨?_, hb⟩
    rcases hh with ⟨h1, h2⟩ | ⟨h1, h2, h3⟩ | ⟨h1, h2, h3⟩
    · exact .inl ⟨of_decide_eq_false h1, h2⟩
    · have hs := of_decide_eq_true h1
      exact .inr (.inl ⟨hs, fun hg => of_decide_eq_false h2 (P4.good_enc zs hr.2.2.1 hg), h3⟩)
    · have hs := of_decide_eq_true h1
      exact .inr (.inr ⟨⟨hs, (P4.same_iff zs hr.2.2.1 hs).1 (of_decide_eq_true h2)⟩, h3⟩)
end Go.Proofs.YtkhahbghmdccaaaGreatDoor.V4

namespace Go.Proofs.YtkhahbghmdccaaaGreatDoor.V4
open Go.RowKit
theorem bys_good (s d t k i : Int) (body : List Int) (h : Okp s d t k i) (hl : body.length ≤ 320) : P4.Good (bys s d t k i body) :=
  P4.good_hd s d t k i (20 + body.length) body (okp_okh h hl) rfl hl
theorem Own.set {base : Nat} {w : World} {g n c : Nat} {zs : List Int} (h : Own base w (.slice (some ⟨g, 0, none⟩) n c) zs) (j : Nat) (v : Int) (hv : 0 ≤ v ∧ v ≤ 255) : Own base (w.setCell ⟨g, j, none⟩ (.int .u8 v)) (.slice (some ⟨g, 0, none⟩) n c) (zs.set j v) := by
  refine ⟨SM.oct_set _ h.1 j v hv.1 hv.2, by simp, ?_⟩
  rcases h.2.2 with ⟨e, _⟩ | ⟨g', cap, cur, e, hb, hg, h1, h2, h3, h4⟩
  · cases e
  · injection e with e1 e2 e3
    cases e1
    subst e3
    refine .inr ⟨g, c, cur.setIfInBounds j (.int .u8 v), by rw [e2, List.length_set], hb, ?_, by rw [List.length_set]; exact h1, h2, by simpa using h3, ?_⟩
    · rw [setCell_eq_setRow w g j _ 5 (0, 0) (.int .u8 v) hg, setRow_heap w g _ _ 5 (0, 0) hg]
    · rw [List.length_set, Array.toList_setIfInBounds, List.map_set, ← h4, List.take_set]
theorem Own.cell {base : Nat} {w : World} {g n c : Nat} {zs : List Int} (h : Own base w (.slice (some ⟨g, 0, none⟩) n c) zs) (j : Nat) (hj : j < n) : w.cell? ⟨g, j, none⟩ = some (.int .u8 (zs.getD j 0)) ∧ w.frozen? ⟨g, j, none⟩ = false := by
  constructor
  · obtain ⟨_, _, _, _, h5⟩ := h.toRow
    obtain ⟨b, o, e, hc⟩ := h5 (by omega)
    cases e
    have := hc j hj
    rwa [Nat.zero_add] at this
  · rcases h.2.2 with ⟨e, _⟩ | ⟨g', cap, cur, e, hb, hg, h1, h2, h3, h4⟩
    · cases e
    · injection e with e1 e2 e3
      cases e1
      simp [World.frozen?, hg]
end Go.Proofs.YtkhahbghmdccaaaGreatDoor.V4
