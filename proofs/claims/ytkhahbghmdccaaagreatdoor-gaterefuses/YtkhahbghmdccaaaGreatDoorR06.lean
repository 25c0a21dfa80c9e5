/- Package ip6: Decode, by contracts. -/
import Derived.Test.YtkhahbghmdccaaaGreatDoorR01
import Derived.Test.YtkhahbghmdccaaaGreatDoorR05
import Derived.Test.YtkhahbghmdccaaaGreatDoorProg
import Derived.OwnWalk
import Derived.Deep.RegionHeld3
import Derived.Deep.DrawnRows
import Derived.WalkKit
import Derived.LaidEql
import Derived.BigQuiet
import Derived.Below
import Derived.Laws.AppendOwnNone
import Derived.Laws.MakeOwn
import Derived.Deep.RegionLaw
namespace Go.Proofs.YtkhahbghmdccaaaGreatDoor.V6
open Go.RowKit
def pk0 : Value := .agg (pkC [] [] 0 0 none 0 0)
def err (k : Int) : Value := .iface 28 (.int .i64 k)
set_option maxRecDepth 100000 in
set_option maxHeartbeats 2000000 in
theorem decode_len (a : Option Addr) (len cap : Nat) (w : World) (h : len < 40 ∨ 360 < len) (hm : len ≤ maxLen) :
    Calls Tryz.prog 116 #[.slice a len cap] w fun e w' => e = .returned (.tuple #[pk0, err 5]) ∧ Below w.heap.size w w' := by
  unfold maxLen at hm
  have HB := hide (al_below w (.cells zero6 101))
  have HP := hide (zero_new w)
  unfold zero6 at HB HP
  rcases h with h | h
  · go_enter Tryz.func116, Tryz.ntmps116
    go_upto_region 1 with fail
    generalize w.alloc _ = W at HB HP ⊢
    go_wp2_with (first | (refine at_store rfl (.tmp 2) (.tmp 15) rfl rfl HP.out [] [] 0 0 none 0 0 rfl ?_; intro w5 p5 on5; replace HB := hide (on5.below HB.out (Nat.le_refl _)); replace p5 := hide p5; clear on5))
    try simp only [Exit.inBlock, Exit.then]
    refine bodyPost_ret (results_pk rfl _ _ w.heap.size [] [] 0 0 none 0 0 rfl p5.out) rfl ?_
    exact ⟨rfl, HB.out⟩
  · have h' : ¬ len < 40 := by omega
    go_enter Tryz.func116, Tryz.ntmps116
    go_upto_region 1 with fail
    generalize w.alloc _ = W at HB HP ⊢
    go_wp2_with (first | (refine at_store rfl (.tmp 2) (.tmp 15) rfl rfl HP.out [] [] 0 0 none 0 0 rfl ?_; intro w5 p5 on5; replace HB := hide (on5.below HB.out (Nat.le_refl _)); replace p5 := hide p5; clear on5))
    try simp only [Exit.inBlock, Exit.then]
    refine bodyPost_ret (results_pk rfl _ _ w.heap.size [] [] 0 0 none 0 0 rfl p5.out) rfl ?_
    exact ⟨rfl, HB.out⟩
set_option maxRecDepth 100000 in
set_option maxHeartbeats 8000000 in
theorem decode_raw (g off len cap : Nat) (zs : List Int) (w : World) (hr : Row8 w (some ⟨g, off, none⟩) len cap zs) (h40 : 40 ≤ len) (h360 : len ≤ 360) (hcl : len ≤ cap) (hcm : cap ≤ maxLen) (r : Bool) (h1 : (enc zs = zs) ↔ r = true) :
    Calls Tryz.prog 116 #[.slice (some ⟨g, off, none⟩) len cap] w fun e w' => ((r = false ∧ e = .returned (.tuple #[pk0, err 5])) ∨
      (r = true ∧ ∃ a' c', e = .returned (.tuple #[pk (adr zs 8) (adr zs 24) (zs.getD 7 0) (zs.getD 6 0) a' (len - 40) c', .nilIface]) ∧ (Row8 w' a' (len - 40) c' (zs.drop 40) ∧ len - 40 ≤ c' ∧ c' ≤ maxLen))) ∧ Below w.heap.size w w' := by
  have hlen := hr.1
  have hoct := hr.2.2.1
  have HB := hide (al_below w (.cells zero6 101))
  have HP := hide (zero_new w)
  unfold zero6 at HB HP
  have HRow := hide hr
  have HRead := hide (fun W (h : Row8 W (some ⟨g, off, none⟩) len cap zs) => read_raw g off len cap zs W h h40 h360 hcl hcm)
  have HOk := hide (show Okp (adr zs 8) (adr zs 24) (zs.getD 7 0) (zs.getD 6 0) from ⟨ok6_adr zs hoct 8, ok6_adr zs hoct 24, hoct 7, hoct 6⟩)
  have HEL := hide ((enc_len zs (by omega)).trans hlen)
  have HSame := hide h1
  have HEnc := hide (show bys (adr zs 8) (adr zs 24) (zs.getD 7 0) (zs.getD 6 0) (zs.drop 40) = enc zs from rfl)
  generalize adr zs 8 = s at HRead HOk HEnc ⊢
  generalize adr zs 24 = d at HRead HOk HEnc ⊢
  generalize zs.getD 7 0 = t at HRead HOk HEnc ⊢
  generalize zs.getD 6 0 = k at HRead HOk HEnc ⊢
  have HEncode := hide (fun a' c' W (h : Row8 W a' (len - 40) c' (zs.drop 40)) => encode_ok s d t k a' (len - 40) c' (zs.drop 40) W HOk.out (by omega) h)
  rw [HEnc.out] at HEncode
  have hcm' := hcm
  unfold maxLen at hcm'
  unfold pk at HEncode
  clear hr hoct h1 HEnc
  go_enter Tryz.func116, Tryz.ntmps116
  go_upto_region 1 with fail
  generalize w.alloc _ = W0 at HB HP ⊢
  have hlW := HP.out.lt
  have HZ := hide (fun W => zero_new W)
  unfold zero6 at HZ
  go_upto_region 4 with (first
    | (go_at_call 165; refine (HRead.out _ (HRow.out.below HB.out)).mono ?_; rintro e w1 ⟨a1, c1, rfl, hown1, hb1⟩; replace HB := hide (bt HB.out hb1); replace HP := hide (HP.out.kept hb1); replace hown1 := hide hown1; clear hb1)
    | (refine at_store rfl (.tmp 4) (.tmp 18) rfl rfl (HZ.out w1) s d t k a1 (len - 40) c1 rfl ?_; intro w2 p2 on2; replace p2 := hide p2; replace on2 := hide on2))
  have hb2 := (al_below w1 (.cells zero6 101))
  unfold zero6 at hb2
  have hB2 : Below w1.heap.size w1 w2 := on2.out.below hb2 (Nat.le_refl _)
  replace HB := hide (bt HB.out hB2)
  replace HP := hide (HP.out.kept hB2)
  replace hown1 := hide (hown1.out.kept hB2)
  clear hb2 hB2 on2 HZ HRead
  generalize w1.heap.size = B1 at p2 ⊢
  go_upto_region 5 with (first
    | (refine at_load rfl (.tmp 4) rfl rfl p2.out ?_)
    | (go_at_call 90; refine (HEncode.out a1 c1 _ hown1.out.toRow).mono ?_; rintro e w3 ⟨v, rfl, ho3, hb3⟩; obtain ⟨gE, cE, rfl, hE1, hE2, -, -, hrowE⟩ := ho3.form (by rw [HEL.out]; omega); rw [HEL.out] at hE1 hrowE ⊢; replace HB := hide (bt HB.out hb3); replace HP := hide (HP.out.kept hb3); replace p2 := hide (p2.out.kept hb3); replace hown1 := hide (hown1.out.kept hb3); replace hrowE := hide hrowE; clear hb3 ho3))
  have HEq := hide (equal_any _ _ _ _ _ _ _ _ _ hrowE.out (HRow.out.below HB.out) r HSame.out)
  have hlt := HP.out.lt
  cases r
  · go_wp2_with (first
      | (go_at_call 72; refine HEq.out.mono ?_; rintro e w4 ⟨rfl, rfl⟩)
      | (refine at_store rfl (.tmp 2) (.tmp 32) rfl rfl HP.out [] [] 0 0 none 0 0 rfl ?_; intro w5 p5 on5; replace HB := hide (on5.below HB.out (Nat.le_refl _)); replace p5 := hide p5; clear on5))
    try simp only [Exit.inBlock, Exit.then]
    refine bodyPost_ret (results_pk rfl _ _ w.heap.size [] [] 0 0 none 0 0 rfl p5.out) rfl ?_
    first
    | exact ⟨rfl, HB.out⟩
    | exact ⟨.inl ⟨rfl, rfl⟩, HB.out⟩
  · go_wp2_with (first
      | (go_at_call 72; refine HEq.out.mono ?_; rintro e w4 ⟨rfl, rfl⟩)
      | (refine at_load rfl (.tmp 4) rfl rfl p2.out ?_)
      | (refine at_store rfl (.tmp 2) (.tmp 34) rfl rfl HP.out s d t k a1 (len - 40) c1 rfl ?_; intro w5 p5 on5; replace HB := hide (on5.below HB.out (Nat.le_refl _)); replace hown1 := hide (on5.own hown1.out hlW); replace p5 := hide p5; clear on5))
    try simp only [Exit.inBlock, Exit.then]
    refine bodyPost_ret (results_pk rfl _ _ w.heap.size s d t k a1 (len - 40) c1 rfl p5.out) rfl ?_
    first
    | exact ⟨⟨a1, c1, rfl, hown1.out.toRow, ⟨by have h9 := hown1.out.caps.1; omega, hown1.out.caps.2⟩⟩, HB.out⟩
    | exact ⟨.inr ⟨rfl, a1, c1, rfl, hown1.out.toRow, ⟨by have h9 := hown1.out.caps.1; omega, hown1.out.caps.2⟩⟩, HB.out⟩
theorem decode_any (a : Option Addr) (len cap : Nat) (zs : List Int) (w : World) (hr : Row8 w a len cap zs) (hcl : len ≤ cap) (hcm : cap ≤ maxLen) :
    Calls Tryz.prog 116 #[.slice a len cap] w fun e w' => ((¬ Good zs ∧ e = .returned (.tuple #[pk0, err 5])) ∨
      (Good zs ∧ ∃ a' c', e = .returned (.tuple #[pk (adr zs 8) (adr zs 24) (zs.getD 7 0) (zs.getD 6 0) a' (len - 40) c', .nilIface]) ∧ (Row8 w' a' (len - 40) c' (zs.drop 40) ∧ len - 40 ≤ c' ∧ c' ≤ maxLen))) ∧ Below w.heap.size w w' := by
  have hl := hr.1
  by_cases hlen : len < 40 ∨ 360 < len
  · refine (decode_len a len cap w hlen hr.2.1).mono ?_
    rintro e w' ⟨rfl, hb⟩
    refine ⟨.inl ⟨fun h => ?_, rfl⟩, hb⟩
    have h1 := h.1
    have h2 := h.2.1
    omega
  · obtain ⟨g, off, rfl, _⟩ := hr.2.2.2.2 (by omega)
    classical
    refine (decode_raw g off len cap zs w hr (by omega) (by omega) hcl hcm (decide (enc zs = zs)) (by simp)).mono ?_
    rintro e w' ⟨hh, hb⟩
    refine ⟨?_, hb⟩
    have hs := same_iff zs hr.2.2.1 (by omega) (by omega)
    rcases hh with ⟨h1, h2⟩ | ⟨h1, h3⟩
    · exact .inl ⟨fun h => of_decide_eq_false h1 (hs.2 h), h2⟩
    · exact .inr ⟨hs.1 (of_decide_eq_true h1), h3⟩
end Go.Proofs.YtkhahbghmdccaaaGreatDoor.V6
