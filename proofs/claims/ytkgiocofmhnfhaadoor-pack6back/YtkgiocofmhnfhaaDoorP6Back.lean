/- The walk of the statement Pack6Back: whatever the packet, the numbers and the bytes, the Go text returns true and writes nothing that was there. -/
import Derived.Test.YtkgiocofmhnfhaaDoorS6k
namespace Go.Proofs.YtkgiocofmhnfhaaDoor
open Go.RowKit

/-- what lasts while the statement runs. -/
def VB (w : World) (s d : List Int) (h k : Int) (a : Option Addr) (len cap : Nat) (W : World) : Prop := PkIn w.heap.size s d h k a len cap W ∧ Below w.heap.size w W
theorem VB.kept {w : World} {s d : List Int} {h k : Int} {a : Option Addr} {len cap : Nat} {W W' : World} (v : VB w s d h k a len cap W) (hb : Below W.heap.size W W') : VB w s d h k a len cap W' := ⟨v.1.kept hb, bt v.2 hb⟩
theorem VB.start (w : World) (s d : List Int) (h k : Int) (a : Option Addr) (len cap : Nat) : VB w s d h k a len cap (w.alloc (.cells (pkC s d h k a len cap) 26)) := ⟨pk_new w s d h k a len cap, al_below _ _⟩
/-- a new packet that is stored at once. -/
theorem new_below {w w' : World} (o : Obj) (h : Only w.heap.size (w.alloc o) w') : Below w.heap.size w w' := h.below (al_below w o) (Nat.le_refl _)

set_option maxRecDepth 100000 in
set_option maxHeartbeats 8000000 in
theorem back_walk (s d : List Int) (h k : Int) (a : Option Addr) (len cap : Nat) (body : List Int) (cut more : Int) (b : Option Addr) (lb cb : Nat) (zs : List Int) (w : World) (hgl : Laid0 w) (hp : Row8 w a len cap body) (hb : Row8 w b lb cb zs) (hlb : lb ≤ cb) (hcb : cb ≤ maxLen)
    (hc0 : -9223372036854775808 ≤ cut) (hc1 : cut ≤ 9223372036854775807) (hm0 : 0 ≤ more ∧ more ≤ 255) :
    Calls Tryd.prog 4 #[pk s d h k a len cap, .int .i64 cut, .int .u8 more, .slice b lb cb] w fun e w' => e = .returned (.bool true) ∧ Below w.heap.size w w' := by
  have HV := hide (VB.start w s d h k a len cap)
  have HG := hide hgl
  have HF := hide (fun W => encode_form [] [] 1 17 none 0 0 [] W ⟨fun _ _ => ⟨by simp [el], by simp [el]⟩, fun _ _ => ⟨by simp [el], by simp [el]⟩, ⟨by omega, by omega⟩, ⟨by omega, by omega⟩⟩ (by omega) (row_none W))
  have HRP := hide (fun W (v : VB w s d h k a len cap W) => hp.below v.2)
  have HRB := hide (fun W (v : VB w s d h k a len cap W) => hb.below v.2)
  have HM := hide hm0
  have HZ := hide zero_new
  have hm : len ≤ maxLen := hp.2.1
  have hop := hp.2.2.1
  have hlen := hp.1
  have hob := hb.2.2.1
  clear hp hb hm0 hgl
  unfold zero6 at HZ
  unfold pk pkC el at HF
  unfold pk
  go_enter Tryd.func4, Tryd.ntmps4
  go_upto_region 1 with fail
  generalize w.alloc _ = W0 at HV ⊢
  go_upto_region 2 with (go_at_call 9; refine (HF.out _).mono ?_; rintro e w1 ⟨g1, c1, rfl, h1, h2, hr1, hb1⟩; replace HV := hide (HV.out.kept hb1); clear hb1)
  have x0 : w1.cell? ⟨g1, 0, none⟩ = some (.int .u8 96) := hr1.at_ 0 (by omega)
  clear hr1 HF
  go_upto_region 4 with fail
  clear x0
  by_cases hg : Good zs
  case' pos =>
    have HD := hide (fun W (v : VB w s d h k a len cap W) => decode_good b lb cb zs W (HRB.out W v) hlb hcb hg)
    have HE := hide (fun a' l' c' W h => encode_read zs a' l' c' W hob hg h)
    generalize adr zs 8 = s2 at HD HE
    generalize adr zs 24 = d2 at HD HE
    generalize zs.getD 7 0 = h2' at HD HE
    generalize zs.getD 6 0 = k2 at HD HE
    unfold pk at HD HE
    have hq := str8_eq hob hob true (by simp)
    go_upto_region 5 with (first
      | (go_at_call 11; refine (HD.out _ HV.out).mono ?_; rintro e w2 ⟨a2, c2, rfl, hr2, hb2⟩; replace HV := hide (HV.out.kept hb2); replace hr2 := hide hr2; clear hb2)
      | (refine at_store rfl (.tmp 11) (.tmp 45) rfl rfl (HZ.out w2) s2 d2 h2' k2 a2 (lb - 40) c2 rfl ?_; intro w3 p3 on3; have hb3 := new_below _ on3; replace HV := hide (HV.out.kept hb3); replace hr2 := hide (hr2.out.below hb3); replace p3 := hide p3; clear hb3 on3))
    go_upto_region 7 with (first
      | (refine at_load rfl (.tmp 11) rfl rfl p3.out ?_)
      | (go_at_call 9; refine (HE.out _ _ _ _ hr2.out).mono ?_; rintro e w4 ⟨a4, l4, c4, rfl, hr4, hb4⟩; replace HV := hide (HV.out.kept hb4); clear hb4))
    have v1 := conv8 hr4
    have v2 := conv8 (HRB.out _ HV.out)
    clear hr4 HD HE p3 hr2
    go_upto_region 9 with fail
    clear v1 v2 hq
  case' neg =>
    have HD := hide (fun W (v : VB w s d h k a len cap W) => decode_err b lb cb zs W (HRB.out W v) hlb hcb hg)
    unfold pk0 err at HD
    go_upto_region 9 with (first
      | (go_at_call 11; refine (HD.out _ HV.out).mono ?_; rintro e w2 ⟨rfl, hb2⟩; replace HV := hide (HV.out.kept hb2); clear hb2)
      | (refine at_store rfl (.tmp 11) (.tmp 45) rfl rfl (HZ.out w2) [] [] 0 0 none 0 0 rfl ?_; intro w4 p3 on3; have hb3 := new_below _ on3; replace HV := hide (HV.out.kept hb3); clear hb3 on3 p3))
    clear HD
  all_goals
    clear HRB hg
    by_cases hk : Okp s d h k ∧ len ≤ 320
    · obtain ⟨hk, hl⟩ := hk
      have HE := hide (fun W h' => encode_form s d h k a len cap body W hk hl h')
      have HD := hide (fun a' l' c' W h' h1 h2 => decode_bys a' l' c' s d h k body W h' h1 h2 hk (by omega))
      have HS := hide (fun W a1 a2 l1 l2 c1 c2 r1 r2 => pack6s_same s d h k a1 a2 l1 l2 c1 c2 body W r1 r2)
      have HLX := hide (show (bys s d h k body).length = 40 + len by rw [bys_len, hlen])
      have HGX := hide (bys_good s d h k body (by omega))
      generalize bys s d h k body = X at HE HD HLX HGX
      obtain ⟨L, hL⟩ : ∃ L, 40 + len = L := ⟨_, rfl⟩
      rw [hL] at HE HLX
      have hL0 : 0 < L := by omega
      have hL1 : L ≤ 360 := by omega
      replace hL := hide hL
      unfold pk at HE HD HS
      go_upto_region 12 with (first
        | (refine at_load rfl (.tmp 4) rfl rfl HV.out.1 ?_)
        | (go_at_call 9; refine (HE.out _ (HRP.out _ HV.out)).mono ?_; rintro e w5 ⟨g5, c5, rfl, hc5, hm5, hr5, hb5⟩; replace HV := hide (HV.out.kept hb5); replace hr5 := hide hr5; clear hb5))
      go_upto_region 13 with (first
        | (go_at_call 11; refine (HD.out _ _ _ _ hr5.out hc5 hm5).mono ?_; rintro e w6 ⟨a6, l6, c6, rfl, hr6, hb6⟩; replace HV := hide (HV.out.kept hb6); replace hr5 := hide (hr5.out.below hb6); replace hr6 := hide hr6; clear hb6)
        | (refine at_store rfl (.tmp 16) (.tmp 73) rfl rfl (HZ.out w6) s d h k a6 l6 c6 rfl ?_; intro w7 p7 on7; have hb7 := new_below _ on7; replace HV := hide (HV.out.kept hb7); replace hr5 := hide (hr5.out.below hb7); replace hr6 := hide (hr6.out.below hb7); replace p7 := hide p7; clear hb7 on7))
      clear HE HD
      go_upto_region 16 with (first
        | (refine at_load rfl (.tmp 16) rfl rfl p7.out ?_)
        | (refine at_load rfl (.tmp 4) rfl rfl HV.out.1 ?_)
        | (go_at_call 12; refine (HS.out _ _ _ _ _ _ _ hr6.out (HRP.out _ HV.out)).mono ?_; rintro e w8 ⟨rfl, hb8⟩; replace HV := hide (HV.out.kept hb8); replace hr5 := hide (hr5.out.below hb8); clear hb8 p7 hr6))
      clear HS
      have hm5' := hm5
      unfold maxLen at hm5'
      have HDX := hide (fun m c W (h' : Row8 W (some ⟨g5, 0, none⟩) m c (X.take m)) h1 h2 h3 => decode_err _ m c _ W h' h1 h2 (cut_bad X HGX.out m h3))
      have HDY := hide (fun a' l' c' W h' h1 h2 => decode_err a' l' c' (X ++ [more]) W h' h1 h2 (more_bad X HGX.out more))
      have HT := hide (tells_err 5)
      unfold pk0 err at HDX HDY
      unfold err at HT
      have HV8 := HV
      go_upto_region 17 with (first
        | (go_at_call 13; refine (pick_any cut L _ hc0 hc1 hL0 (by omega)).mono ?_; rintro e w9 ⟨m, hmL, rfl, rfl⟩; have im0 : (0 : Int) ≤ (m : Int) := (by omega); have im1 : (m : Int) ≤ (c5 : Int) := (by omega))
        | (go_at_call 11; refine (HDX.out m c5 _ (row_take hr5.out m c5 (by omega)) (by omega) hm5 (by rw [HLX.out]; exact hmL)).mono ?_; rintro e w10 ⟨rfl, hb10⟩; replace HV := hide (HV.out.kept hb10); replace hr5 := hide (hr5.out.below hb10); clear hb10))
      clear HV8
      have HL18 := hide (show ([] : List Int).length + L ≤ 1000000000 by simp; omega)
      go_upto_region 19 with (at_builtin; refine gr_app rfl (.tmp 94) (.tmp 95) rfl rfl (Gr.nil w10) rfl hr5.out HL18.out ?_; intro v11 w11 hg11; replace hg11 : Gr w10 w11 v11 X := hg11; replace hg11 := hide hg11)
      have HL19 := hide (show X.length + 1 ≤ 1000000000 by rw [HLX.out]; omega)
      have HLY := hide (show (X ++ [more]).length = L + 1 by rw [List.length_append, HLX.out]; rfl)
      go_upto_region 20 with (at_builtin; refine gr_app rfl (.tmp 97) (.tmp 99) rfl rfl (hg11.out.below (al_below _ _)) rfl (row_one w11 more HM.out) HL19.out ?_; intro v12 w12 hg12; obtain ⟨g12, c12, rfl, h121, h122, -, -, hr12⟩ := hg12.1.form (by rw [HLY.out]; omega); rw [HLY.out] at h121 hr12 ⊢; replace HV := hide (HV.out.kept hg12.2); replace hr12 := hide hr12; clear hg12)
      go_upto_region 21 with (first
        | (go_at_call 11; refine (HDY.out _ _ _ _ hr12.out h121 h122).mono ?_; rintro e w13 ⟨rfl, hb13⟩; replace HV := hide (HV.out.kept hb13); clear hb13)
        | (refine at_store rfl (.tmp 20) (.tmp 104) rfl rfl (HZ.out w13) [] [] 0 0 none 0 0 rfl ?_; intro w14 p14 on14; have hb14 := new_below _ on14; replace HV := hide (HV.out.kept hb14); clear hb14 on14 p14))
      go_wp2_with (go_at_call 6; refine (HT.out _ (HG.out.below HV.out.2)).mono ?_; rintro e w15 ⟨rfl, hb15⟩; replace HV := hide (HV.out.kept hb15); clear hb15)
      go_ret
      exact ⟨rfl, HV.out.2⟩
    · have HE := hide (fun W => encode_err s d h k a len cap W hm hk)
      unfold pk err at HE
      go_wp2_with (first
        | (refine at_load rfl (.tmp 4) rfl rfl HV.out.1 ?_)
        | (go_at_call 9; refine (HE.out _).mono ?_; rintro e w4 ⟨j4, rfl, hb4⟩; replace HV := hide (HV.out.kept hb4); clear hb4))
      go_ret
      exact ⟨rfl, HV.out.2⟩
end Go.Proofs.YtkgiocofmhnfhaaDoor
