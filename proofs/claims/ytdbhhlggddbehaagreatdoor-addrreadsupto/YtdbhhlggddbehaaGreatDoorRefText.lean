/- The document's own SixText by a contract: the one text of an address. -/
import Derived.Test.YtdbhhlggddbehaaGreatDoorRef6
import Derived.Test.YtdbhhlggddbehaaGreatDoorRefMath
namespace Go.Proofs.YtdbhhlggddbehaaGreatDoor
open Go.RowKit Go.Shelf

/-- a byte of a text. -/
theorem str_at (S : ByteArray) (k : Nat) (hk : k < S.size) (i : Int) (hi : i = (k : Int)) (W : World) : (Instr.index 9 (.string S) (.int .i64 i)).run Tryz.prog W = .ok (.int .u8 ((S.data.toList.getD k 0).toNat : Int)) W := by
  subst hi
  rw [run_index_string W 9 S .i64 (k : Int) Tryz.underlying9, dif_pos ⟨by omega, by omega⟩]
  congr 3
  have h2 : k < S.data.toList.length := by rw [← Lib.size_eq]; exact hk
  simp only [List.getD_eq_getElem?_getD, List.getElem?_eq_getElem h2, Option.getD_some]
  rfl
/-- what the writing asks of the text so far. -/
theorem sep_cases (S : ByteArray) (l : List UInt8) (h : S = ⟨l.toArray⟩) : (AM.sep l = true ∧ 0 < S.size ∧ ∃ c : Int, (∀ W, (Instr.index 9 (.string S) (.int .i64 ((S.size : Int) - 1))).run Tryz.prog W = .ok (.int .u8 c) W) ∧ (c == 58) = false) ∨ (AM.sep l = false ∧ (S.size = 0 ∨ (0 < S.size ∧ ∀ W, (Instr.index 9 (.string S) (.int .i64 ((S.size : Int) - 1))).run Tryz.prog W = .ok (.int .u8 58) W))) := by
  have hd : S.data.toList = l := by rw [h]
  have hsz : S.size = l.length := by rw [Lib.size_eq, hd]
  by_cases h0 : S.size = 0
  · refine .inr ⟨?_, .inl h0⟩
    unfold AM.sep
    rw [decide_eq_false (by omega)]; rfl
  · have hx := str_at S (S.size - 1) (by omega) ((S.size : Int) - 1) (by omega)
    rw [hd] at hx
    by_cases hc : l.getD (l.length - 1) 0 = 58
    · refine .inr ⟨?_, .inr ⟨by omega, ?_⟩⟩
      · unfold AM.sep
        rw [hc]; simp
      · rw [hsz, hc] at hx
        rw [hsz]; exact hx
    · refine .inl ⟨?_, by omega, _, hx, ?_⟩
      · unfold AM.sep
        rw [decide_eq_true (by omega)]
        simpa using hc
      · rw [hsz, beq_eq_false_iff_ne]
        intro e
        apply hc
        apply UInt8.toNat_inj.1
        show _ = 58
        omega

set_option maxHeartbeats 4000000 in
set_option maxRecDepth 100000 in
theorem sixtext_any (z : List Int) (w : World) (hz : Ok6 z) : Calls Tryz.prog 5 #[six z] w fun e w' => e = .returned (strv (AM.tx z)) ∧ Below w.heap.size w w' := by
  have hS := six_new z w
  have hB : Below w.heap.size w (w.alloc (.cells #[.int .i64 (el z 0), .int .i64 (el z 1), .int .i64 (el z 2), .int .i64 (el z 3), .int .i64 (el z 4), .int .i64 (el z 5), .int .i64 (el z 6), .int .i64 (el z 7)] 23)) := (Below.refl _ _).alloc (Nat.le_refl _) _
  unfold six
  go_enter Tryz.func5, Tryz.ntmps5
  go_wp2
  generalize w.alloc (.cells #[.int .i64 (el z 0), .int .i64 (el z 1), .int .i64 (el z 2), .int .i64 (el z 3), .int .i64 (el z 4), .int .i64 (el z 5), .int .i64 (el z 6), .int .i64 (el z 7)] 23) = W at hS hB ⊢
  have hc := fun k hk => (hS.facts k hk).1
  clear hS
  go_loop [3, 4, 5] (fun f c i => ∃ k : Nat, k ≤ 8 ∧ f = .int .i64 (AM.rst (AM.fl z) k).1 ∧ c = .int .i64 ((AM.rst (AM.fl z) k).2 : Nat) ∧ i = .int .i64 k) (fun _ _ i => 8 - (intOf i).toNat)
  case atStart => exact ⟨0, by omega, rfl, rfl, rfl⟩
  case round =>
    obtain ⟨k, hk, rfl, rfl, rfl⟩ := hrel
    have hr := AM.rst_le (AM.fl z) k
    by_cases hlt : k < 8
    · have HS := hide (show AM.rst (AM.fl z) (k + 1) = if (AM.rst (AM.fl z) k).2 < AM.rl (AM.fl z) k then ((k : Int), AM.rl (AM.fl z) k) else AM.rst (AM.fl z) k from rfl)
      generalize AM.rst (AM.fl z) k = st at HS hr ⊢
      obtain ⟨f, c⟩ := st
      simp only at hr
      go_wp2
      go_loop [6] (fun t => ∃ n : Nat, k + n ≤ 8 ∧ t = .int .i64 n ∧ Hid (AM.rl (AM.fl z) k = n + AM.rlen (AM.fl z) (8 - (k + n)) (k + n))) (fun t => 8 - (intOf t).toNat)
      case atStart => exact ⟨0, by omega, rfl, hide (by simp [AM.rl])⟩
      case round =>
        obtain ⟨n, hn, rfl, HN⟩ := hrel
        by_cases hlt2 : k + n < 8
        · have hck := hc (k + n) hlt2
          have hfl := AM.fl_at z (k + n) hlt2
          by_cases hx : el z (k + n) = 0
          · have HN2 := hide (show AM.rl (AM.fl z) k = n + 1 + AM.rlen (AM.fl z) (8 - (k + (n + 1))) (k + (n + 1)) by
              rw [HN.out, show 8 - (k + n) = 8 - (k + (n + 1)) + 1 by omega, AM.rlen_yes _ _ _ (by rw [hfl, hx]; rfl)]
              rw [show k + (n + 1) = k + n + 1 by omega]
              omega)
            rw [hx] at hck
            clear HN hfl hx hc
            go_wp2
            go_round
            case rel => exact ⟨n + 1, by omega, by go_num, HN2⟩
            case measure => simp [intOf]; omega
          · have hx2 : (el z (k + n) == 0) = false := by simpa using hx
            have HE := hide (show AM.rl (AM.fl z) k = n by
              rw [HN.out, AM.rlen_no _ _ _ (by rw [hfl, hx2])]; rfl)
            rw [HE.out] at HS
            generalize el z (k + n) = x at hck hx hx2
            clear HN hfl hc
            by_cases hcn : c < n
            · have HS2 := hide (HS.out.trans (if_pos hcn))
              go_wp2
              go_round
              case rel => exact ⟨k + 1, by omega, by rw [HS2.out], by rw [HS2.out], by go_num⟩
              case measure => simp [intOf]; omega
            · have HS2 := hide (HS.out.trans (if_neg hcn))
              go_wp2
              go_round
              case rel => exact ⟨k + 1, by omega, by rw [HS2.out], by rw [HS2.out], by go_num⟩
              case measure => simp [intOf]; omega
        · have hn8 : k + n = 8 := by omega
          have HE := hide (show AM.rl (AM.fl z) k = n by
            rw [HN.out, hn8]; rfl)
          rw [HE.out] at HS
          clear HN hc
          by_cases hcn : c < n
          · have HS2 := hide (HS.out.trans (if_pos hcn))
            go_wp2
            go_round
            case rel => exact ⟨k + 1, by omega, by rw [HS2.out], by rw [HS2.out], by go_num⟩
            case measure => simp [intOf]; omega
          · have HS2 := hide (HS.out.trans (if_neg hcn))
            go_wp2
            go_round
            case rel => exact ⟨k + 1, by omega, by rw [HS2.out], by rw [HS2.out], by go_num⟩
            case measure => simp [intOf]; omega
    · obtain rfl : k = 8 := by omega
      have hg := (AM.zgood_fl z).1
      rw [AM.rst_fl z]
      clear hr
      by_cases hl : AM.zlong z < 2
      · rw [if_pos hl]
        go_wp2
        go_loop [7, 8] (fun s i => ∃ (k : Nat) (S : ByteArray), k ≤ 8 ∧ i = .int .i64 k ∧ s = .string S ∧ Hid (S = ⟨(AM.txp z k).toArray⟩)) (fun _ i => 8 - (intOf i).toNat)
        case atStart => exact ⟨0, ⟨#[]⟩, by omega, rfl, rfl, hide (by unfold AM.txp; rw [if_pos (.inl hl)]; rfl)⟩
        case round =>
          obtain ⟨k, S, hk, rfl, rfl, HS⟩ := hrel
          by_cases hlt : k < 8
          · have hck := hc k hlt
            have hx := hz k hlt
            have HT := hide (AM.txp_succ z k (.inl hl))
            obtain ⟨u, hu⟩ : ∃ u : Nat, el z k = u := ⟨(el z k).toNat, by have := hx.1; omega⟩
            have hu2 : u ≤ 65535 := by have := hx.2; omega
            rw [show (el z k).toNat = u by omega] at HT
            rw [hu] at hck
            have hH := fun W => rhex_any u W hu2
            unfold strv at hH
            clear hu hx hc
            have hsz : S.size ≤ 100 := by rw [HS.out, Lib.size_eq]; have := AM.txp_len (z := z) hz (i := k) (by omega); simpa using this
            have hsD : (⟨(AM.hexL u).toArray⟩ : ByteArray).size ≤ 4 := by rw [Lib.size_eq]; have := AM.hexL_len4 hu2; simpa using this
            rcases sep_cases S _ HS.out with ⟨hsp, hp, c, hix, hcb⟩ | ⟨hsp, h0 | ⟨hp, hix⟩⟩
            · rw [hsp, if_pos rfl] at HT
              have HT2 := hide (show S ++ ⟨#[58]⟩ ++ ⟨(AM.hexL u).toArray⟩ = ⟨(AM.txp z (k + 1)).toArray⟩ by
                rw [HT.out, HS.out]
                have : (⟨#[58]⟩ : ByteArray) = ⟨([58] : List UInt8).toArray⟩ := rfl
                rw [this, bytes_app, bytes_app])
              generalize (⟨(AM.hexL u).toArray⟩ : ByteArray) = D at hH HT2 hsD
              have hs2 : (S ++ ⟨#[58]⟩).size = S.size + 1 := by rw [ByteArray.size_append]; rfl
              clear HS HT hsp
              go_wp2_with (go_at_call 21; refine (hH _).mono ?_; rintro e w' ⟨rfl, rfl⟩)
              go_round
              case rel => exact ⟨k + 1, _, by omega, by go_num, rfl, HT2⟩
              case measure => simp [intOf]; omega
            · rw [hsp] at HT
              have HT2 := hide (show S ++ ⟨(AM.hexL u).toArray⟩ = ⟨(AM.txp z (k + 1)).toArray⟩ by
                rw [HT.out, HS.out, if_neg (by decide), bytes_app])
              generalize (⟨(AM.hexL u).toArray⟩ : ByteArray) = D at hH HT2 hsD
              clear HS HT hsp
              go_wp2_with (go_at_call 21; refine (hH _).mono ?_; rintro e w' ⟨rfl, rfl⟩)
              go_round
              case rel => exact ⟨k + 1, _, by omega, by go_num, rfl, HT2⟩
              case measure => simp [intOf]; omega
            · rw [hsp] at HT
              have HT2 := hide (show S ++ ⟨(AM.hexL u).toArray⟩ = ⟨(AM.txp z (k + 1)).toArray⟩ by
                rw [HT.out, HS.out, if_neg (by decide), bytes_app])
              generalize (⟨(AM.hexL u).toArray⟩ : ByteArray) = D at hH HT2 hsD
              clear HS HT hsp
              go_wp2_with (go_at_call 21; refine (hH _).mono ?_; rintro e w' ⟨rfl, rfl⟩)
              go_round
              case rel => exact ⟨k + 1, _, by omega, by go_num, rfl, HT2⟩
              case measure => simp [intOf]; omega
          · obtain rfl : k = 8 := by omega
            go_wp2
            go_ret
            refine ⟨?_, hB⟩
            rw [← AM.txp_8]
            exact congrArg (fun s => Ending.returned (.string s)) HS.out
      · rw [if_neg hl]
        have hgf : AM.zfrom z + AM.zlong z ≤ 8 := hg
        have hge2 : 2 ≤ AM.zlong z := by omega
        go_wp2
        go_loop [7, 8] (fun s i => ∃ (k : Nat) (S : ByteArray), k ≤ 8 ∧ i = .int .i64 k ∧ s = .string S ∧ Hid (S = ⟨(AM.txp z k).toArray⟩) ∧ (k ≤ AM.zfrom z ∨ AM.zfrom z + AM.zlong z ≤ k)) (fun _ i => 8 - (intOf i).toNat)
        case atStart => exact ⟨0, ⟨#[]⟩, by omega, rfl, rfl, hide (by unfold AM.txp; rw [if_pos (.inr (by omega))]; rfl), by omega⟩
        case round =>
          obtain ⟨k, S, hk, rfl, rfl, HS, hpos⟩ := hrel
          by_cases hlt : k < 8
          · by_cases hkf : k = AM.zfrom z
            · have hsz : S.size ≤ 100 := by rw [HS.out, Lib.size_eq]; have := AM.txp_len (z := z) hz (i := k) (by omega); simpa using this
              have HT2 := hide (show S ++ ⟨#[58, 58]⟩ = ⟨(AM.txp z (AM.zfrom z + AM.zlong z)).toArray⟩ by
                rw [HS.out, AM.txp_run z hl, hkf]
                have : (⟨#[58, 58]⟩ : ByteArray) = ⟨([58, 58] : List UInt8).toArray⟩ := rfl
                rw [this, bytes_app])
              generalize AM.zfrom z = f at hgf hpos hkf HT2 ⊢
              generalize AM.zlong z = c at hgf hge2 hpos HT2 ⊢
              subst hkf
              clear HS hc
              go_wp2
              go_round
              case rel => exact ⟨k + c, _, by omega, by go_num, rfl, HT2, by omega⟩
              case measure => simp [intOf]; omega
            · have hck := hc k hlt
              have hx := hz k hlt
              have hkf2 : ((k : Int) == (AM.zfrom z : Int)) = false := by rw [beq_eq_false_iff_ne]; omega
              have HT := hide (AM.txp_succ z k (by omega))
              obtain ⟨u, hu⟩ : ∃ u : Nat, el z k = u := ⟨(el z k).toNat, by have := hx.1; omega⟩
              have hu2 : u ≤ 65535 := by have := hx.2; omega
              rw [show (el z k).toNat = u by omega] at HT
              rw [hu] at hck
              have hH := fun W => rhex_any u W hu2
              unfold strv at hH
              clear hu hx hc
              have hsz : S.size ≤ 100 := by rw [HS.out, Lib.size_eq]; have := AM.txp_len (z := z) hz (i := k) (by omega); simpa using this
              have hsD : (⟨(AM.hexL u).toArray⟩ : ByteArray).size ≤ 4 := by rw [Lib.size_eq]; have := AM.hexL_len4 hu2; simpa using this
              rcases sep_cases S _ HS.out with ⟨hsp, hp, c, hix, hcb⟩ | ⟨hsp, h0 | ⟨hp, hix⟩⟩
              · rw [hsp, if_pos rfl] at HT
                have HT2 := hide (show S ++ ⟨#[58]⟩ ++ ⟨(AM.hexL u).toArray⟩ = ⟨(AM.txp z (k + 1)).toArray⟩ by
                  rw [HT.out, HS.out]
                  have : (⟨#[58]⟩ : ByteArray) = ⟨([58] : List UInt8).toArray⟩ := rfl
                  rw [this, bytes_app, bytes_app])
                generalize (⟨(AM.hexL u).toArray⟩ : ByteArray) = D at hH HT2 hsD
                have hs2 : (S ++ ⟨#[58]⟩).size = S.size + 1 := by rw [ByteArray.size_append]; rfl
                clear HS HT hsp
                go_wp2_with (go_at_call 21; refine (hH _).mono ?_; rintro e w' ⟨rfl, rfl⟩)
                go_round
                case rel => exact ⟨k + 1, _, by omega, by go_num, rfl, HT2, by omega⟩
                case measure => simp [intOf]; omega
              · rw [hsp] at HT
                have HT2 := hide (show S ++ ⟨(AM.hexL u).toArray⟩ = ⟨(AM.txp z (k + 1)).toArray⟩ by
                  rw [HT.out, HS.out, if_neg (by decide), bytes_app])
                generalize (⟨(AM.hexL u).toArray⟩ : ByteArray) = D at hH HT2 hsD
                clear HS HT hsp
                go_wp2_with (go_at_call 21; refine (hH _).mono ?_; rintro e w' ⟨rfl, rfl⟩)
                go_round
                case rel => exact ⟨k + 1, _, by omega, by go_num, rfl, HT2, by omega⟩
                case measure => simp [intOf]; omega
              · rw [hsp] at HT
                have HT2 := hide (show S ++ ⟨(AM.hexL u).toArray⟩ = ⟨(AM.txp z (k + 1)).toArray⟩ by
                  rw [HT.out, HS.out, if_neg (by decide), bytes_app])
                generalize (⟨(AM.hexL u).toArray⟩ : ByteArray) = D at hH HT2 hsD
                clear HS HT hsp
                go_wp2_with (go_at_call 21; refine (hH _).mono ?_; rintro e w' ⟨rfl, rfl⟩)
                go_round
                case rel => exact ⟨k + 1, _, by omega, by go_num, rfl, HT2, by omega⟩
                case measure => simp [intOf]; omega
          · obtain rfl : k = 8 := by omega
            go_wp2
            go_ret
            refine ⟨?_, hB⟩
            rw [← AM.txp_8]
            exact congrArg (fun s => Ending.returned (.string s)) HS.out
end Go.Proofs.YtdbhhlggddbehaaGreatDoor
