/- The document's own FourOf by a contract: the four whose text it is, or ErrSyntax. -/
import Derived.Test.YtdbhhlggddbehaaGreatDoorOwnG
namespace Go.Proofs.YtdbhhlggddbehaaGreatDoor
open Go.RowKit Go.Shelf
namespace AM

/-- digits one by one, three at most. -/
def dv : Nat → Nat → List UInt8 → Option Nat
  | _, acc, [] => some acc
  | k, acc, c :: r => if 48 ≤ c.toNat ∧ c.toNat ≤ 57 ∧ k ≤ 2 then dv (k + 1) (acc * 10 + (c.toNat - 48)) r else none
def d8 (w : List UInt8) : Option Nat := match dv 0 0 w with
  | some n => if n ≤ 255 ∧ Lib.decDigits n = w then some n else none
  | none => none
theorem dv_dec (n : Nat) : ∀ (k : Nat) (r : List UInt8), (Lib.decDigits n).length + k ≤ 3 → dv k 0 (Lib.decDigits n ++ r) = dv (k + (Lib.decDigits n).length) n r := by
  induction n using Nat.strongRecOn with
  | ind n ih =>
    intro k r h
    by_cases hn : n < 10
    · rw [dec_lt hn] at h ⊢
      have := decd_toNat hn
      simp at h
      rw [List.singleton_append, dv, this, if_pos (by omega)]
      simp
    · rw [dec_ge hn] at h ⊢
      simp at h
      have := decd_toNat (show n % 10 < 10 by omega)
      rw [List.append_assoc, ih (n / 10) (by omega) k _ (by omega), List.singleton_append, dv, this, if_pos (by omega)]
      simp
      congr 1
      omega
theorem d8_dec {n : Nat} (h : n ≤ 255) : d8 (Lib.decDigits n) = some n := by
  have := dv_dec n 0 [] (by have := dec_len3 h; omega)
  rw [List.append_nil] at this
  unfold d8
  rw [this]
  simp [dv, h]
theorem d8_is {w : List UInt8} {n : Nat} (h : d8 w = some n) : n ≤ 255 ∧ Lib.decDigits n = w := by
  unfold d8 at h
  split at h
  · split at h
    · rename_i hh; cases h; exact hh
    · cases h
  · cases h
/-- the four of a text, as the document's answer finds it. -/
theorem four_yes {s : List UInt8} {ds : List Nat} (hl : ds.length = 4) (hs : (spl 46 s).length = 4) (h : ∀ j (h1 : j < (spl 46 s).length) (h2 : j < ds.length), d8 (spl 46 s)[j] = some ds[j]) : parse4F s = some (of4 ds) := by
  have hle : ∀ x ∈ ds, x ≤ 255 := by
    intro x hx
    obtain ⟨j, hj, rfl⟩ := List.getElem_of_mem hx
    exact (d8_is (h j (by omega) hj)).1
  have hw : spl 46 s = ds.map Lib.decDigits := by
    apply List.ext_getElem
    · rw [List.length_map]; omega
    · intro j h1 h2
      rw [List.getElem_map]
      exact (d8_is (h j h1 (by simpa using h2))).2.symm
  have ht : t4 (of4 ds) = s := by
    unfold t4
    rw [(by4_of4 hl hle).1, ← hw, jn_spl]
  rw [← ht, parse4_t4 (by4_of4 hl hle).2]
theorem four_len {s : List UInt8} (h : (spl 46 s).length ≠ 4) : parse4F s = none := by
  cases hp : parse4F s with
  | none => rfl
  | some n =>
    exfalso
    apply h
    rw [← (parse4_is hp).2, spl_t4]; rfl
theorem four_no {s : List UInt8} {j : Nat} (hj : j < (spl 46 s).length) (h : d8 (spl 46 s)[j] = none) : parse4F s = none := by
  cases hp : parse4F s with
  | none => rfl
  | some n =>
    exfalso
    obtain ⟨hn, ht⟩ := parse4_is hp
    have hw : spl 46 s = (by4 n).map Lib.decDigits := by rw [← ht, spl_t4]
    have : d8 (spl 46 s)[j] = some ((by4 n)[j]'(by rw [hw, List.length_map] at hj; exact hj)) := by
      rw [List.getElem_of_eq hw hj, List.getElem_map]
      exact d8_dec (by4_le hn _ (List.getElem_mem _))
    rw [h] at this
    cases this
end AM

theorem acc4_app (ds : List Nat) (n : Nat) : ∀ k, k ≤ ds.length → acc4 (ds ++ [n]) k = acc4 ds k
  | 0, _ => rfl
  | k + 1, h => by
    have ih := acc4_app ds n k (by omega)
    simp only [acc4, ih]
    congr 1
    simp [List.getElem?_append_left (show k < ds.length by omega)]
theorem acc4_snoc (ds : List Nat) (n k : Nat) (h : ds.length = k) : acc4 (ds ++ [n]) (k + 1) = acc4 ds k * 256 + n := by
  subst h
  simp only [acc4]
  rw [acc4_app ds n _ (Nat.le_refl _)]
  simp
theorem acc4_bd (ds : List Nat) (h : ∀ x ∈ ds, x ≤ 255) (k : Nat) (hk : k ≤ 4) : acc4 ds k < 4294967296 := by
  have := acc4_lt ds (fun j => by
    by_cases hj : j < ds.length
    · have e : ds.getD j 0 = ds[j] := by simp [hj]
      rw [e]; exact h _ (List.getElem_mem hj)
    · simp [List.getD, List.getElem?_eq_none (by omega : ds.length ≤ j)]) k
  have h2 : 256 ^ k ≤ 256 ^ 4 := Nat.pow_le_pow_right (by omega) hk
  omega

set_option maxHeartbeats 8000000 in
set_option maxRecDepth 100000 in
theorem fourof_any (s : ByteArray) (w : World) (hs : s.size ≤ 1048576) : Calls Tryz.prog 18 #[.string s] w fun e w' =>
    ((∃ n, AM.parse4F s.data.toList = some n ∧ e = .returned (.tuple #[.int .i64 (n : Nat), .int .i64 0])) ∨ (AM.parse4F s.data.toList = none ∧ e = .returned (.tuple #[.int .i64 0, .int .i64 5]))) ∧ Below w.heap.size w w' := by
  have hsp := rsplit_any 46 s w hs
  have h46 : ((46 : UInt8).toNat : Int) = 46 := rfl
  rw [h46] at hsp
  go_enter Tryz.func18, Tryz.ntmps18
  go_wp2_with (go_at_call 32; refine hsp.mono ?_; rintro e w1 ⟨v, WS, rfl, hO, hW, hB⟩; obtain ⟨ao, cap, rfl, hcell⟩ := hO.parts; refine Hid.out ?_)
  refine Lib.hid ?_
  rw [List.length_map] at *
  have hlen : (AM.spl 46 s.data.toList).length = WS.length := by rw [← hW, List.length_map]
  by_cases h4 : WS.length = 4
  · obtain ⟨g, rfl, _, hgl, hcs⟩ := hcell (fun e => by have := congrArg List.length e; simp at this; rw [this] at h4; simp at h4)
    have hc : ∀ k (hk : k < WS.length), w1.cell? ⟨g, k, none⟩ = some (.string WS[k]) := fun k hk => hcs k _ (by rw [List.getElem?_map, List.getElem?_eq_getElem hk]; rfl)
    have HW := hide (show ∀ k (hk : k < WS.length) (hk2 : k < (AM.spl 46 s.data.toList).length), WS[k].data.toList = (AM.spl 46 s.data.toList)[k] from fun k hk hk2 => by
      have := List.getElem_of_eq hW (i := k) (by simpa using hk)
      rw [← this]; simp)
    have HLN := hide hlen
    have HSZ := hide (show ∀ k (hk : k < WS.length), WS[k].size ≤ 1048576 from fun k hk => by
      have hk2 : k < (AM.spl 46 s.data.toList).length := by rw [hlen]; exact hk
      have := AM.spl_len 46 s.data.toList _ (List.getElem_mem hk2)
      rw [← HW.out k hk hk2, ← Lib.size_eq, ← Lib.size_eq] at this
      omega)
    rw [h4]
    have H4 := hide h4
    clear hW hO hcell hcs hlen h4
    go_wp2
    go_loopw [5, 6] (fun a i wr => ∃ (k q : Nat) (ds : List Nat), k ≤ 4 ∧ ds.length = k ∧ a = .int .i64 (acc4 ds k : Nat) ∧ i = .int .i64 k ∧ acc4 ds k < 4294967296 ∧ Hid (∀ x ∈ ds, x ≤ 255) ∧ Hid (∀ j (h1 : j < (AM.spl 46 s.data.toList).length) (h2 : j < ds.length), AM.d8 (AM.spl 46 s.data.toList)[j] = some ds[j]) ∧ wr = w1.drewN q) (fun _ i _ => 4 - (intOf i).toNat)
    case atStart => exact ⟨0, 0, [], by omega, rfl, rfl, rfl, by simp [acc4], fun x hx => by simp at hx, fun j h1 h2 => absurd h2 (by simp), by rw [World.drewN_zero]⟩
    case round =>
      obtain ⟨k, q, ds, hk, hdl, rfl, rfl, hab, HLE, HD, rfl⟩ := hrel
      have HDL := hide hdl
      clear hdl
      by_cases hlt : k < 4
      · have hkw : k < WS.length := by rw [H4.out]; exact hlt
        have hkl : k < (AM.spl 46 s.data.toList).length := by rw [HLN.out]; exact hkw
        have hck := hc k hkw
        have hPs := HSZ.out k hkw
        have HPL := hide (HW.out k hkw hkl)
        have HNO := hide (show AM.d8 WS[k].data.toList = none → AM.parse4F s.data.toList = none from fun h => AM.four_no hkl (by rw [← HPL.out]; exact h))
        have HYES := hide (show ∀ n, AM.d8 WS[k].data.toList = some n → n ≤ 255 ∧ (∀ x ∈ ds ++ [n], x ≤ 255) ∧ ∀ j (h1 : j < (AM.spl 46 s.data.toList).length) (h2 : j < (ds ++ [n]).length), AM.d8 (AM.spl 46 s.data.toList)[j] = some (ds ++ [n])[j] from fun n hn => by
          refine ⟨(AM.d8_is hn).1, fun x hx => ?_, fun j h1 h2 => ?_⟩
          · rcases List.mem_append.1 hx with hx | hx
            · exact HLE.out x hx
            · simp at hx; subst hx; exact (AM.d8_is hn).1
          · by_cases e : j = k
            · subst e
              rw [List.getElem_append_right (by rw [HDL.out]; omega), ← HPL.out, hn]
              simp
            · have : j < ds.length := by rw [HDL.out]; simp [HDL.out] at h2; omega
              rw [List.getElem_append_left this]
              exact HD.out j h1 this)
        generalize WS[k] = P at hck hPs HNO HYES
        clear hc HPL hkl hkw
        have hsl : P.data.toList.length = P.size := (Lib.size_eq P).symm
        go_wp2
        go_loop [7, 8] (fun a i => ∃ j acc : Nat, a = .int .i64 acc ∧ i = .int .i64 j ∧ j ≤ P.size ∧ j ≤ 3 ∧ acc ≤ 999 ∧ Hid (acc < 10 ^ j) ∧ Hid (AM.dv 0 0 P.data.toList = AM.dv j acc (P.data.toList.drop j))) (fun _ i => P.size - (intOf i).toNat)
        case atStart => exact ⟨0, 0, rfl, rfl, by omega, by omega, by omega, hide (by decide), rfl⟩
        case round =>
          obtain ⟨j, acc, rfl, rfl, hj, hj3, hacc, HA, HV⟩ := hrel
          by_cases hjl : j < P.size
          · have hix := str_at P j hjl (j : Int) rfl
            have hdr : P.data.toList.drop j = P.data.toList.getD j 0 :: P.data.toList.drop (j + 1) := by
              rw [List.drop_eq_getElem_cons (by rw [hsl]; exact hjl)]
              simp [List.getElem?_eq_getElem (show j < P.data.toList.length by rw [hsl]; exact hjl)]
            have hV := HV.out
            rw [hdr] at hV
            generalize P.data.toList.getD j 0 = c at hix hV
            have hc256 : c.toNat < 256 := c.toNat_lt
            by_cases hd : 48 ≤ c.toNat ∧ c.toNat ≤ 57 ∧ j ≤ 2
            · have HV2 := hide (show AM.dv 0 0 P.data.toList = AM.dv (j + 1) (acc * 10 + (c.toNat - 48)) (P.data.toList.drop (j + 1)) by rw [hV, AM.dv, if_pos hd])
              have HA2 := hide (show acc * 10 + (c.toNat - 48) < 10 ^ (j + 1) by have := HA.out; rw [Nat.pow_succ]; omega)
              have hb2 : acc * 10 + (c.toNat - 48) ≤ 999 := by
                have h1 := HA2.out
                have h2 : 10 ^ (j + 1) ≤ 10 ^ 3 := Nat.pow_le_pow_right (by omega) (by omega)
                omega
              obtain ⟨d1, d2, d3⟩ := hd
              clear hV hdr HV HA
              go_wp2
              go_round
              case rel =>
                refine ⟨_, _, _, _, ⟨j + 1, acc * 10 + (c.toNat - 48), ?_, ?_, by omega, by omega, hb2, HA2, HV2⟩, rfl, rfl, rfl, rfl⟩
                · exact congrArg (Value.int .i64) (by omega)
                · go_num
              case measure => simp [intOf]; omega
            · have HF := hide (HNO.out (by unfold AM.d8; rw [hV, AM.dv, if_neg hd]))
              clear hV hdr HV HA
              by_cases d1 : c.toNat < 48
              · go_wp2
                go_ret2
                exact ⟨.inr ⟨HF.out, rfl⟩, below_drewN hB q⟩
              · by_cases d2 : 57 < c.toNat
                · go_wp2
                  go_ret2
                  exact ⟨.inr ⟨HF.out, rfl⟩, below_drewN hB q⟩
                · have d3 : 2 < j := by omega
                  go_wp2
                  go_ret2
                  exact ⟨.inr ⟨HF.out, rfl⟩, below_drewN hB q⟩
          · obtain rfl : j = P.size := by omega
            have hV : AM.dv 0 0 P.data.toList = some acc := by
              rw [HV.out, List.drop_eq_nil_of_le (by rw [hsl]; exact Nat.le_refl _)]; rfl
            clear HV HA hsl
            by_cases h255 : 255 < acc
            · have HF := hide (HNO.out (by unfold AM.d8; rw [hV]; simp; omega))
              have hdc : decide ((255 : Int) < (acc : Int)) = true := decide_eq_true (by omega)
              clear hV
              go_wp2
              go_quiet (fail)
              go_wp2_with fail
              go_ret2
              exact ⟨.inr ⟨HF.out, rfl⟩, by first | exact below_drewN hB (q + nq) | exact below_drewN (below_drewN hB q) nq⟩
            · have hDec := fun W => rdec_any acc W (by omega)
              have hdc : decide ((255 : Int) < (acc : Int)) = false := decide_eq_false (by omega)
              unfold strv at hDec
              by_cases heq : Lib.decDigits acc = P.data.toList
              · have h8 : AM.d8 P.data.toList = some acc := by unfold AM.d8; rw [hV]; simp [heq]; omega
                obtain ⟨hy1, HY2, HY3⟩ := HYES.out acc h8
                have HY2 := hide HY2
                have HY3 := hide HY3
                have e : (⟨(Lib.decDigits acc).toArray⟩ : ByteArray) = P := by rw [heq]
                rw [e] at hDec
                have HAC := hide (acc4_snoc ds acc k HDL.out)
                have HBD := hide (acc4_bd (ds ++ [acc]) HY2.out (k + 1) (by omega))
                clear hV h8 heq e
                generalize acc4 ds k = A at hab HAC ⊢
                go_wp2
                go_region_with (go_at_call 28; refine (hDec _).mono ?_; rintro e w' ⟨rfl, rfl⟩)
                all_goals
                  go_wp2_with fail
                  go_roundw
                  case rel => exact ⟨k + 1, q + 1, ds ++ [acc], by omega, by simp [HDL.out], by rw [HAC.out]; exact congrArg (Value.int .i64) (by omega), by go_num, HBD.out, HY2, HY3, rfl⟩
                  case measure => simp [intOf]; omega
              · have HF := hide (HNO.out (by unfold AM.d8; rw [hV]; simp [heq]))
                have hne : (⟨(Lib.decDigits acc).toArray⟩ : ByteArray) ≠ P := fun e => heq (by rw [← e])
                have hbe := str_ne hne
                generalize (⟨(Lib.decDigits acc).toArray⟩ : ByteArray) = tz at hDec hne hbe
                clear hV heq
                go_wp2
                go_region_with (go_at_call 28; refine (hDec _).mono ?_; rintro e w' ⟨rfl, rfl⟩)
                all_goals
                  go_wp2_with fail
                  go_ret2
                  exact ⟨.inr ⟨HF.out, rfl⟩, below_drewN hB (q + 1)⟩
      · obtain rfl : k = 4 := by omega
        have HF := hide (AM.four_yes (s := s.data.toList) (ds := ds) HDL.out (by rw [HLN.out, H4.out]) HD.out)
        have HAC := hide (acc4_of ds HDL.out)
        go_wp2
        go_ret2
        exact ⟨.inl ⟨_, HF.out, by rw [← HAC.out]; rfl⟩, below_drewN hB q⟩
  · have HF := hide (AM.four_len (s := s.data.toList) (by rw [hlen]; exact h4))
    have hb4 : ((WS.length : Int) == 4) = false := by rw [beq_eq_false_iff_ne]; omega
    clear hW hO hcell
    go_wp2
    go_ret2
    exact ⟨.inr ⟨HF.out, rfl⟩, hB⟩
end Go.Proofs.YtdbhhlggddbehaaGreatDoor
