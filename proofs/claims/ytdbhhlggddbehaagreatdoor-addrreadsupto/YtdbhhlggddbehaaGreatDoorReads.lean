/- The walk of the statement AddrReads: whatever the addresses, the numbers and the texts (of at most 1048576 letters), the Go text returns true and writes nothing that was there. -/
import Derived.Test.YtdbhhlggddbehaaGreatDoorReadsMath
import Derived.Deep.CutBlock
import Derived.Deep.QuietTactic
import Derived.Deep.RegionWith
namespace Go.Proofs.YtdbhhlggddbehaaGreatDoor
open Go.RowKit Go.Shelf

/-- what lasts while the statement runs. -/
def VR (w : World) (a p : List Int) (W : World) : Prop := LaidA W ∧ Pow10 W ∧ Laid0 W ∧ SixIn w.heap.size a W ∧ SixIn (w.heap.size + 1) p W ∧ Below w.heap.size w W
theorem VR.kept {w : World} {a p : List Int} {W W' : World} (h : VR w a p W) (hb : Below W.heap.size W W') : VR w a p W' :=
  ⟨h.1.below hb, h.2.1.below hb, h.2.2.1.below hb, h.2.2.2.1.kept hb, h.2.2.2.2.1.kept hb, bt h.2.2.2.2.2 hb⟩
theorem VR.ca {w : World} {a p : List Int} {W : World} (h : VR w a p W) (j : Nat) (hj : j < 8) : W.cell? ⟨w.heap.size, j, none⟩ = some (.int .i64 (el a j)) := (h.2.2.2.1.facts j hj).1
theorem VR.cp {w : World} {a p : List Int} {W : World} (h : VR w a p W) (j : Nat) (hj : j < 8) : W.cell? ⟨w.heap.size + 1, j, none⟩ = some (.int .i64 (el p j)) := (h.2.2.2.2.1.facts j hj).1
theorem VR.start (w : World) (a p : List Int) (hA : LaidA w) (hP : Pow10 w) (h0 : Laid0 w) : VR w a p ((w.alloc (.cells #[.int .i64 (el a 0), .int .i64 (el a 1), .int .i64 (el a 2), .int .i64 (el a 3), .int .i64 (el a 4), .int .i64 (el a 5), .int .i64 (el a 6), .int .i64 (el a 7)] 23)).alloc (.cells #[.int .i64 (el p 0), .int .i64 (el p 1), .int .i64 (el p 2), .int .i64 (el p 3), .int .i64 (el p 4), .int .i64 (el p 5), .int .i64 (el p 6), .int .i64 (el p 7)] 23)) := by
  have h1 : Below w.heap.size w (w.alloc (.cells #[.int .i64 (el a 0), .int .i64 (el a 1), .int .i64 (el a 2), .int .i64 (el a 3), .int .i64 (el a 4), .int .i64 (el a 5), .int .i64 (el a 6), .int .i64 (el a 7)] 23)) := (Below.refl _ _).alloc (Nat.le_refl _) _
  have h2 : Below (w.alloc (.cells #[.int .i64 (el a 0), .int .i64 (el a 1), .int .i64 (el a 2), .int .i64 (el a 3), .int .i64 (el a 4), .int .i64 (el a 5), .int .i64 (el a 6), .int .i64 (el a 7)] 23)).heap.size (w.alloc (.cells #[.int .i64 (el a 0), .int .i64 (el a 1), .int .i64 (el a 2), .int .i64 (el a 3), .int .i64 (el a 4), .int .i64 (el a 5), .int .i64 (el a 6), .int .i64 (el a 7)] 23)) ((w.alloc (.cells #[.int .i64 (el a 0), .int .i64 (el a 1), .int .i64 (el a 2), .int .i64 (el a 3), .int .i64 (el a 4), .int .i64 (el a 5), .int .i64 (el a 6), .int .i64 (el a 7)] 23)).alloc (.cells #[.int .i64 (el p 0), .int .i64 (el p 1), .int .i64 (el p 2), .int .i64 (el p 3), .int .i64 (el p 4), .int .i64 (el p 5), .int .i64 (el p 6), .int .i64 (el p 7)] 23)) := (Below.refl _ _).alloc (Nat.le_refl _) _
  refine ⟨hA.below (bt h1 h2), hP.below (bt h1 h2), h0.below (bt h1 h2), (six_new a w).kept h2, ?_, bt h1 h2⟩
  have := six_new p (w.alloc (.cells #[.int .i64 (el a 0), .int .i64 (el a 1), .int .i64 (el a 2), .int .i64 (el a 3), .int .i64 (el a 4), .int .i64 (el a 5), .int .i64 (el a 6), .int .i64 (el a 7)] 23))
  simp only [World.size_alloc] at this
  exact this
/-- which error is told of two addresses and a number of bits. -/
theorem eb_is (ea ep k e1 eb : Int) (kb : Bool) (he1 : e1 = if ea = 0 then ep else ea) (hkb : kb = decide (e1 = 0 ∧ (k < 0 ∨ 128 < k)))
    (heb : eb = (if ea = 0 then (if ep = 0 then (if k < 0 ∨ 128 < k then 1 else 0) else ep) else ea)) : eb = if kb then 1 else e1 := by
  subst he1 hkb heb
  by_cases h1 : ea = 0 <;> by_cases h2 : ep = 0 <;> by_cases h3 : k < 0 ∨ 128 < k <;> simp [h1, h2, h3]

set_option maxHeartbeats 16000000 in
set_option maxRecDepth 100000 in
theorem reads_walk (a p : List Int) (s t : ByteArray) (n k : Int) (w : World) (hA : LaidA w) (hP : Pow10 w) (h0 : Laid0 w) (hs : s.size ≤ 1048576) (ht : t.size ≤ 1048576) :
    Calls Tryz.prog 3 #[six a, .string s, .int .i64 n, .string t, six p, .int .i64 k] w fun e w' => e = .returned (.bool true) ∧ Below w.heap.size w w' := by
  obtain ⟨ea, eva, ua, la, hea, hea', hTa, hFa, hXa, hYa, hCa, hPa, hBa⟩ := tellA a
  obtain ⟨ep, evp, up, lp, hep, hep', hTp, hFp, -, -, -, -, -⟩ := tellA p
  obtain ⟨evi, bi, hTi, hIn, hSt, hbi⟩ := tellIn a p k ea ep hea (fun h => ⟨(hea' h).1, (hea' h).2.1⟩) hep (fun h => ⟨(hep' h).1, (hep' h).2.1⟩)
  obtain ⟨z, es, evs, hTs, hSo, hPs⟩ := tellS s hs
  obtain ⟨bn, en, un, evn, hTn, hbn, hbn', hIs, hFt, hP4⟩ := tellN n
  obtain ⟨vt, et, evt, hTt, hFo, hR4⟩ := tellT t ht
  obtain ⟨eb, heb⟩ : ∃ eb : Int, eb = (if ea = 0 then (if ep = 0 then (if k < 0 ∨ 128 < k then 1 else 0) else ep) else ea) := ⟨_, rfl⟩
  rw [← heb] at hTi hSt hbi
  have HEB := hide heb
  have HEA := hide hea'
  have HBI := hide hbi
  have HBN := hide hbn
  have HBN' := hide hbn'
  have HV := hide (VR.start w a p hA hP h0)
  have hEz := eq_six z z
  rw [(eqz_iff z z).2 (fun _ _ => rfl)] at hEz
  unfold Tells at hTa hTi hTs hTn hTt
  unfold six at hFa hXa hYa hCa hPa hBa hFp hIn hSt hSo hPs ⊢
  clear hea hea' hep hep' hTp heb hbi hbn hbn' hA hP h0 hs ht
  go_enter Tryz.func3, Tryz.ntmps3
  go_upto_if 31 with (go_at_call 4; refine (hFa _).mono ?_; rintro e w1 ⟨rfl, hb1⟩; replace HV := hide (HV.out.kept hb1); clear hb1)
  go_cut [14, 15] from 28 (fun v14 v15 W => v14 = .string ua ∧ v15 = .string ⟨la.toArray⟩ ∧ Hid (VR w a p W))
  case first =>
    have ca := HV.out.ca
    by_cases h : ea = 0
    · have hz : (ea == 0) = true := by rw [beq_iff_eq]; exact h
      have hXa := hXa h
      have hYa := hYa h
      clear h
      go_wp2_with (first
        | (go_at_call 5; refine (hXa _).mono ?_; rintro e w2 ⟨rfl, hb2⟩; replace HV := hide (HV.out.kept hb2); clear hb2; clear ca; have ca := HV.out.ca)
        | (go_at_call 6; refine (hYa _).mono ?_; rintro e w3 ⟨v3, rfl, ho3, hb3⟩; replace HV := hide (HV.out.kept hb3); clear hb3; clear ca; have hcv := conv_own ho3; clear ho3))
      go_meet
      exact ⟨rfl, rfl, HV⟩
    · have hz : (ea == 0) = false := by rw [beq_eq_false_iff_ne]; exact h
      obtain ⟨-, -, rfl, rfl⟩ := HEA.out h
      clear h
      go_wp2_with fail
      go_meet
      exact ⟨rfl, rfl, HV⟩
  case rest =>
    obtain ⟨rfl, rfl, HV⟩ := hcut
    have ca := HV.out.ca
    clear hXa hYa
    go_upto_if 79 with (first
      | (go_at_call 8; refine (hCa _).mono ?_; rintro e w4 ⟨rfl, hb4⟩; replace HV := hide (HV.out.kept hb4); clear hb4; clear ca; have ca := HV.out.ca)
      | (go_at_call 9; refine (hPa _ HV.out.1.1).mono ?_; rintro e w5 ⟨rfl, hb5⟩; replace HV := hide (HV.out.kept hb5); clear hb5; clear ca; have ca := HV.out.ca)
      | (go_at_call 10; refine (hBa _).mono ?_; rintro e w6 ⟨v6, rfl, ho6, hb6⟩; replace HV := hide (HV.out.kept hb6); clear hb6; clear ca; have ca := HV.out.ca; have HO := hide ho6; clear ho6)
      | (go_at_call 7; refine (hTa _ HV.out.2.2.1).mono ?_; rintro e w7 ⟨rfl, hb7⟩; replace HV := hide (HV.out.kept hb7); (try (have hcv := conv_own (HO.out.kept hb7))); clear hb7; clear ca; have ca := HV.out.ca))
    go_cut [13] from 28 (fun v13 W => v13 = .int .i64 (if ea = 0 then ep else ea) ∧ Hid (VR w a p W))
    case first =>
      clear ca
      have cp := HV.out.cp
      by_cases h : ea = 0
      · have hz : (ea == 0) = true := by rw [beq_iff_eq]; exact h
        have HH := hide h
        clear h
        go_wp2_with (go_at_call 4; refine (hFp _).mono ?_; rintro e w8 ⟨rfl, hb8⟩; replace HV := hide (HV.out.kept hb8); clear hb8; clear cp)
        go_meet
        exact ⟨by rw [if_pos HH.out], HV⟩
      · have hz : (ea == 0) = false := by rw [beq_eq_false_iff_ne]; exact h
        have HH := hide h
        clear h
        go_wp2_with fail
        go_meet
        exact ⟨by rw [if_neg HH.out], HV⟩
    case rest =>
      obtain ⟨rfl, HV⟩ := hcut
      obtain ⟨e1, he1⟩ : ∃ e1 : Int, e1 = if ea = 0 then ep else ea := ⟨_, rfl⟩
      rw [← he1]
      obtain ⟨kb, hkb⟩ : ∃ kb : Bool, kb = decide (e1 = 0 ∧ (k < 0 ∨ 128 < k)) := ⟨_, rfl⟩
      have HKB := hide hkb
      have HE1 := hide (eb_is ea ep k e1 eb kb he1 hkb HEB.out)
      clear he1 hkb HEB ca
      (try clear hcv HO)
      go_upto_region 16 with fail
      go_cut [91] from 28 (fun v91 W => v91 = .bool kb ∧ Hid (VR w a p W))
      case first =>
        by_cases h : e1 = 0
        · have hz : (e1 == 0) = true := by rw [beq_iff_eq]; exact h
          by_cases h1 : k < 0
          · have hd : true = kb := by rw [HKB.out]; simp [h, h1]
            have HD := hide hd
            clear h hd
            go_wp2_with fail
            go_meet
            exact ⟨congrArg Value.bool HD.out, HV⟩
          · by_cases h2 : 128 < k
            · have hd : true = kb := by rw [HKB.out]; simp [h, h2]
              have HD := hide hd
              clear h hd
              go_wp2_with fail
              go_meet
              exact ⟨congrArg Value.bool HD.out, HV⟩
            · have hd : false = kb := by rw [HKB.out]; simp [h1, h2]
              have HD := hide hd
              clear h hd
              go_wp2_with fail
              go_meet
              exact ⟨congrArg Value.bool HD.out, HV⟩
        · have hz : (e1 == 0) = false := by rw [beq_eq_false_iff_ne]; exact h
          have hd : false = kb := by rw [HKB.out]; simp [h]
          have HD := hide hd
          clear h hd
          go_wp2_with fail
          go_meet
          exact ⟨congrArg Value.bool HD.out, HV⟩
      case rest =>
        obtain ⟨rfl, HV⟩ := hcut
        clear HKB
        go_upto_if 91 with fail
        go_cut [13] from 28 (fun v13 W => v13 = .int .i64 eb ∧ Hid (VR w a p W))
        case first =>
          cases kb
          · have HD := hide (show e1 = eb by rw [HE1.out]; rfl)
            go_wp2_with fail
            go_meet
            exact ⟨congrArg (Value.int .i64) HD.out, HV⟩
          · have HD := hide (show 1 = eb by rw [HE1.out]; rfl)
            go_wp2_with fail
            go_meet
            exact ⟨congrArg (Value.int .i64) HD.out, HV⟩
        case rest =>
          obtain ⟨rfl, HV⟩ := hcut
          clear HE1
          have ca := HV.out.ca
          have cp := HV.out.cp
          go_upto_region 20 with (first
            | (go_at_call 11; refine (hIn _).mono ?_; rintro e w9 ⟨rfl, hb9⟩; replace HV := hide (HV.out.kept hb9); clear hb9; clear ca cp; have ca := HV.out.ca; have cp := HV.out.cp)
            | (go_at_call 7; refine (hTi _ HV.out.2.2.1).mono ?_; rintro e w10 ⟨rfl, hb10⟩; replace HV := hide (HV.out.kept hb10); clear hb10; clear ca cp; have ca := HV.out.ca; have cp := HV.out.cp))
          go_cut [115] from 28 (fun v115 W => v115 = .bool false ∧ Hid (VR w a p W))
          case first =>
            by_cases h : eb = 0
            · have hz : (eb == 0) = true := by rw [beq_iff_eq]; exact h
              have hSt := hSt h
              clear h
              go_wp2_with (go_at_call 12; refine (hSt _).mono ?_; rintro e w11 ⟨rfl, hb11⟩; replace HV := hide (HV.out.kept hb11); clear hb11; clear ca cp)
              go_meet
              exact ⟨by simp, HV⟩
            · have hz : (eb == 0) = false := by rw [beq_eq_false_iff_ne]; exact h
              obtain rfl := HBI.out h
              clear h
              go_wp2_with fail
              go_meet
              exact ⟨by simp, HV⟩
          case rest =>
            obtain ⟨rfl, HV⟩ := hcut
            clear ca cp hSt hIn hTi
            go_upto_if 138 with (first
              | (go_at_call 13; refine (hSo _).mono ?_; rintro e w12 ⟨rfl, hb12⟩; replace HV := hide (HV.out.kept hb12); clear hb12; have hX := six_new z w12; have hb13 : Below w12.heap.size w12 (w12.alloc (.cells #[.int .i64 (el z 0), .int .i64 (el z 1), .int .i64 (el z 2), .int .i64 (el z 3), .int .i64 (el z 4), .int .i64 (el z 5), .int .i64 (el z 6), .int .i64 (el z 7)] 23)) := (Below.refl _ _).alloc (Nat.le_refl _) _; replace HV := hide (HV.out.kept hb13); have HX := hide hX; clear hX hb13)
              | (go_at_call 14; refine (hPs _ HV.out.1).mono ?_; rintro e w14 ⟨rfl, hb14⟩; replace HV := hide (HV.out.kept hb14); replace HX := hide (HX.out.kept hb14); clear hb14; have hY := six_new z w14; have hb15 : Below w14.heap.size w14 (w14.alloc (.cells #[.int .i64 (el z 0), .int .i64 (el z 1), .int .i64 (el z 2), .int .i64 (el z 3), .int .i64 (el z 4), .int .i64 (el z 5), .int .i64 (el z 6), .int .i64 (el z 7)] 23)) := (Below.refl _ _).alloc (Nat.le_refl _) _; replace HV := hide (HV.out.kept hb15); replace HX := hide (HX.out.kept hb15); have HY := hide hY; clear hY hb15)
              | (go_at_call 7; refine (hTs _ HV.out.2.2.1).mono ?_; rintro e w16 ⟨rfl, hb16⟩; replace HV := hide (HV.out.kept hb16); replace HX := hide (HX.out.kept hb16); replace HY := hide (HY.out.kept hb16); clear hb16; have cx := fun j hj => (SixIn.facts HX.out j hj).1; have cy := fun j hj => (SixIn.facts HY.out j hj).1)
              | (go_at_call 15; refine (hIs _).mono ?_; rintro e w17 ⟨rfl, hb17⟩; replace HV := hide (HV.out.kept hb17); clear hb17; clear cx cy))
            go_cut [13, 14] from 28 (fun v13 v14 W => v13 = .int .i64 en ∧ v14 = .string un ∧ Hid (VR w a p W))
            case first =>
              cases bn
              · obtain ⟨rfl, rfl⟩ := HBN.out rfl
                go_wp2_with fail
                go_meet
                exact ⟨rfl, rfl, HV⟩
              · obtain rfl := HBN'.out rfl
                have hFt := hFt rfl
                go_wp2_with (go_at_call 16; refine (hFt _).mono ?_; rintro e w18 ⟨rfl, hb18⟩; replace HV := hide (HV.out.kept hb18); clear hb18)
                go_meet
                exact ⟨rfl, rfl, HV⟩
            case rest =>
              obtain ⟨rfl, rfl, HV⟩ := hcut
              go_wp2_with (first
                | (go_at_call 17; refine (hP4 _ HV.out.2.1).mono ?_; rintro e w19 ⟨rfl, hb19⟩; replace HV := hide (HV.out.kept hb19); clear hb19)
                | (go_at_call_of 7 evn; refine (hTn _ HV.out.2.2.1).mono ?_; rintro e w20 ⟨rfl, hb20⟩; replace HV := hide (HV.out.kept hb20); clear hb20)
                | (go_at_call 18; refine (hFo _).mono ?_; rintro e w21 ⟨rfl, hb21⟩; replace HV := hide (HV.out.kept hb21); clear hb21)
                | (go_at_call 19; refine (hR4 _ HV.out.1 HV.out.2.1).mono ?_; rintro e w22 ⟨rfl, hb22⟩; replace HV := hide (HV.out.kept hb22); clear hb22)
                | (go_at_call_of 7 evt; refine (hTt _ HV.out.2.2.1).mono ?_; rintro e w23 ⟨rfl, hb23⟩; replace HV := hide (HV.out.kept hb23); clear hb23))
              go_ret
              exact ⟨rfl, HV.out.2.2.2.2.2⟩
end Go.Proofs.YtdbhhlggddbehaaGreatDoor
