/- The document's own SixOf by a contract: the address whose text it is, or ErrSyntax. -/
import Derived.Test.YtdbhhlggddbehaaGreatDoorRef6c
import Derived.Test.YtdbhhlggddbehaaGreatDoorRefText
import Derived.Test.YtdbhhlggddbehaaGreatDoorSixMath
import Derived.Deep.CutBlock
import Derived.Deep.LoopGhost
namespace Go.Proofs.YtdbhhlggddbehaaGreatDoor
open Go.RowKit Go.Shelf

def ints (l : List Nat) : List Value := l.map fun x => Value.int .i64 (x : Nat)
theorem ints_app (l : List Nat) (n : Nat) : ints (l ++ [n]) = ints l ++ [.int .i64 (n : Nat)] := by simp [ints]
theorem ints_len (l : List Nat) : (ints l).length = l.length := by simp [ints]
/-- the numbers ahead of the gap and those behind it, as the call's own slices. -/
def SxSt (W0 : World) (h t : List Nat) (hv tv : Value) (wr : World) : Prop :=
  Below W0.heap.size W0 wr ∧ OwnG 3 W0.heap.size wr hv (ints h) ∧ ∃ bs, W0.heap.size ≤ bs ∧ bs ≤ wr.heap.size ∧ (∀ k, hv.ownBlock = some k → k < bs) ∧ OwnG 3 bs wr tv (ints t)
theorem SxSt.start (W0 : World) : SxSt W0 [] [] (.slice none 0 0) (.slice none 0 0) W0 := ⟨Below.refl _ _, OwnG.nil _ _ _, W0.heap.size, Nat.le_refl _, Nat.le_refl _, fun k hk => by simp [Value.ownBlock] at hk, OwnG.nil _ _ _⟩
theorem SxSt.below {W0 : World} {h t : List Nat} {hv tv : Value} {wr wr' : World} (hS : SxSt W0 h t hv tv wr) (hb : Below wr.heap.size wr wr') : SxSt W0 h t hv tv wr' := by
  obtain ⟨h1, h2, bs, h3, h4, h5, h6⟩ := hS
  exact ⟨bt h1 hb, h2.kept hb, bs, h3, Nat.le_trans h4 hb.size, h5, h6.kept hb⟩
theorem OwnG.lt {e : TypeId} {base : Nat} {w : World} {v : Value} {xs : List Value} (h : OwnG e base w v xs) : ∀ k, v.ownBlock = some k → k < w.heap.size := fun k hk => (World.ownsRow.lt h k hk).2
theorem SxSt.head {W0 : World} {h : List Nat} {hv v' : Value} {wr w' : World} {n : Nat} (hS : SxSt W0 h [] hv (.slice none 0 0) wr) (hO : OwnG 3 W0.heap.size w' v' (ints h ++ [.int .i64 (n : Nat)])) (hg : wr.grownBy w' hv.ownBlock) : SxSt W0 (h ++ [n]) [] v' (.slice none 0 0) w' := by
  obtain ⟨h1, h2, bs, h3, h4, h5, h6⟩ := hS
  have hB := h1.grown hg h1.size h2.base
  rw [← ints_app] at hO
  exact ⟨hB, hO, w'.heap.size, hB.size, Nat.le_refl _, hO.lt, OwnG.nil _ _ _⟩
theorem SxSt.tail {W0 : World} {h t : List Nat} {hv tv v' : Value} {wr w' : World} {n bs : Nat} (h1 : Below W0.heap.size W0 wr) (h2 : OwnG 3 W0.heap.size wr hv (ints h)) (h3 : W0.heap.size ≤ bs) (h4 : bs ≤ wr.heap.size) (h5 : ∀ k, hv.ownBlock = some k → k < bs) (h6 : OwnG 3 bs wr tv (ints t)) (hO : OwnG 3 bs w' v' (ints t ++ [.int .i64 (n : Nat)])) (hg : wr.grownBy w' tv.ownBlock) : SxSt W0 h (t ++ [n]) hv v' w' := by
  have hB := h1.grown hg h1.size (fun k hk => Nat.le_trans h3 (h6.base k hk))
  rw [← ints_app] at hO
  refine ⟨hB, h2.other hg ?_, bs, h3, ?_, h5, hO⟩
  · cases hk : hv.ownBlock with
    | none => exact .inl rfl
    | some k =>
      refine .inr fun e => ?_
      have := h5 k hk
      have := h6.base k e.symm
      omega
  · have := (Below.refl wr.heap.size wr).size
    exact Nat.le_trans h4 hg.size

/-- eight numbers, place by place. -/
def zz (F : Nat → Int) : List Int := (List.range 8).map F
theorem el_zz (F : Nat → Int) (j : Nat) (hj : j < 8) : el (zz F) j = F j := by simp [el, zz, List.getD, hj]
theorem zz_len (F : Nat → Int) : (zz F).length = 8 := by simp [zz]
def z1 (h : List Nat) (k : Nat) : List Int := zz fun j => if j < k then ((h.getD j 0 : Nat) : Int) else 0
def z2 (h t : List Nat) (k : Nat) : List Int := zz fun j => if j < h.length then ((h.getD j 0 : Nat) : Int) else if 8 - t.length ≤ j ∧ j < 8 - t.length + k then ((t.getD (j - (8 - t.length)) 0 : Nat) : Int) else 0
theorem z2_all {h t : List Nat} (hl : h.length + t.length ≤ 8) : (h ++ List.replicate (8 - (h.length + t.length)) 0 ++ t).map Int.ofNat = z2 h t t.length := by
  apply List.ext_getElem
  · rw [z2, zz_len]; simp; omega
  · intro i h1 h2
    rw [z2, zz_len] at h2
    have e : (z2 h t t.length)[i]'(by rw [z2, zz_len]; exact h2) = el (z2 h t t.length) i := by
      simp only [el, List.getD_eq_getElem?_getD, List.getElem?_eq_getElem (show i < (z2 h t t.length).length by rw [z2, zz_len]; exact h2), Option.getD_some]
    rw [e, z2, el_zz _ i h2]
    simp only [List.getElem_map, List.getElem_append, List.length_append, List.length_replicate, List.getElem_replicate]
    by_cases c1 : i < h.length
    · rw [dif_pos (by omega), dif_pos c1, if_pos c1]
      simp [c1]
    · rw [if_neg c1]
      by_cases c2 : i < 8 - t.length
      · rw [dif_pos (by omega), dif_neg c1, if_neg (by omega)]; rfl
      · rw [dif_neg (by omega), if_pos (by omega)]
        have c3 : i - (8 - t.length) < t.length := by omega
        have e2 : i - (h.length + (8 - (h.length + t.length))) = i - (8 - t.length) := by omega
        simp [e2, c3]
theorem getD_le {l : List Nat} (h : ∀ x ∈ l, x ≤ 65535) (j : Nat) : l.getD j 0 ≤ 65535 := by
  by_cases hj : j < l.length
  · have e : l.getD j 0 = l[j] := by simp [hj]
    rw [e]; exact h _ (List.getElem_mem hj)
  · simp [List.getD, List.getElem?_eq_none (by omega : l.length ≤ j)]
theorem z2_ok {h t : List Nat} (hle : ∀ x ∈ h ++ t, x ≤ 65535) (k : Nat) : Ok6 (z2 h t k) := by
  intro j hj
  rw [z2, el_zz _ j hj]
  have h1 := getD_le (l := h) (fun x hx => hle x (by simp [hx])) j
  have h2 := getD_le (l := t) (fun x hx => hle x (by simp [hx])) (j - (8 - t.length))
  unfold Word
  split
  · omega
  · split <;> omega
set_option maxHeartbeats 8000000 in
set_option maxRecDepth 100000 in
theorem sixof_any (s : ByteArray) (w : World) (hs : s.size ≤ 1048576) : Calls Tryz.prog 13 #[.string s] w fun e w' =>
    ((∃ z, AM.parseF s.data.toList = some z ∧ e = .returned (.tuple #[six z, .int .i64 0])) ∨ (AM.parseF s.data.toList = none ∧ e = .returned (.tuple #[six [], .int .i64 5]))) ∧ Below w.heap.size w w' := by
  have hS := noughts_in w
  have hB := noughts_below w
  unfold noughts at hS hB
  have hsl : s.data.toList.length = s.size := (Lib.size_eq s).symm
  obtain ⟨G, hG⟩ : ∃ G : Bool, G = decide (1 < s.data.toList.length ∧ s.data.toList.getD 0 0 = 58 ∧ s.data.toList.getD 1 0 = 58) := ⟨_, rfl⟩
  have HG := hide hG
  clear hG
  have HLEN := hide hsl
  clear hsl
  have HS := hide hS
  have HB := hide hB
  clear hS hB
  have HNO := hide (show AM.g0 s.data.toList = none → AM.parseF s.data.toList = none from fun h => by
    cases hp : AM.parseF s.data.toList with
    | none => rfl
    | some z =>
      obtain ⟨h1, h2, h3⟩ := AM.parse_is hp
      obtain ⟨x, t, h4, _⟩ := AM.g0_tx h1 h2
      rw [h3, h] at h4
      cases h4)
  go_enter Tryz.func13, Tryz.ntmps13
  go_upto_region 4 with fail
  generalize w.alloc (.cells #[.int .i64 0, .int .i64 0, .int .i64 0, .int .i64 0, .int .i64 0, .int .i64 0, .int .i64 0, .int .i64 0] 23) = W0 at HS HB ⊢
  go_cut [25] from 13 to 25 (fun c wx => c = .bool G ∧ W0 = wx)
  case first =>
    by_cases h1 : 1 < s.size
    · have i0 := str_at s 0 (by omega) (0 : Int) rfl
      have i1 := str_at s 1 (by omega) (1 : Int) rfl
      have HG2 := hide (show G = (decide (s.data.toList.getD 0 0 = 58) && decide (s.data.toList.getD 1 0 = 58)) by rw [HG.out, HLEN.out]; simp [h1, -List.getD_eq_getElem?_getD])
      generalize s.data.toList.getD 0 0 = c0 at i0 HG2
      generalize s.data.toList.getD 1 0 = c1 at i1 HG2
      have e0 : ((c0.toNat : Int) == 58) = decide (c0 = 58) := by rw [Bool.eq_iff_iff]; simp [← UInt8.toNat_inj]; omega
      have e1 : ((c1.toNat : Int) == 58) = decide (c1 = 58) := by rw [Bool.eq_iff_iff]; simp [← UInt8.toNat_inj]; omega
      generalize decide (c0 = 58) = b0 at e0 HG2
      generalize decide (c1 = 58) = b1 at e1 HG2
      cases b0
      · go_wp2
        go_meet
        exact ⟨congrArg Value.bool (by rw [HG2.out]; simp), rfl⟩
      · cases b1
        · go_wp2
          go_meet
          exact ⟨congrArg Value.bool (by rw [HG2.out]; simp), rfl⟩
        · go_wp2
          go_meet
          exact ⟨congrArg Value.bool (by rw [HG2.out]; simp), rfl⟩
    · have HG2 := hide (show G = false by rw [HG.out, HLEN.out]; simp [h1])
      go_wp2
      go_meet
      exact ⟨congrArg Value.bool HG2.out.symm, rfl⟩
  case rest =>
    obtain ⟨rfl, rfl⟩ := hcut
    go_upto_if 25 with fail
    go_cut [6, 7] from 13 to 25 (fun g a wx => g = .bool G ∧ (∃ a0 : Nat, a = .int .i64 a0 ∧ a0 ≤ s.size ∧ Hid (AM.grp (s.data.toList.length + 9) G [] [] (s.data.toList.drop a0) = AM.g0 s.data.toList)) ∧ W0 = wx)
    case first =>
      cases G
      · have HR := hide (show AM.grp (s.data.toList.length + 9) false [] [] (s.data.toList.drop 0) = AM.g0 s.data.toList by
          unfold AM.g0
          rw [if_neg (by have := HG.out; simpa [-List.getD_eq_getElem?_getD] using this)]; rfl)
        go_wp2
        go_meet
        exact ⟨rfl, ⟨0, rfl, by omega, HR⟩, rfl⟩
      · have hh := of_decide_eq_true HG.out.symm
        have HR := hide (show AM.grp (s.data.toList.length + 9) true [] [] (s.data.toList.drop 2) = AM.g0 s.data.toList by
          unfold AM.g0
          rw [if_pos hh])
        have h2 : 2 ≤ s.size := by have := hh.1; rw [HLEN.out] at this; omega
        clear hh
        go_wp2
        go_meet
        exact ⟨rfl, ⟨2, rfl, h2, HR⟩, rfl⟩
    case rest =>
      obtain ⟨rfl, ⟨a0, rfl, ha0, HR⟩, rfl⟩ := hcut
      go_upto_block 0 with fail
      go_cut [4, 5] from 26 to 97 (fun hv tv wx => ∃ h t : List Nat, h.length + t.length ≤ s.size ∧ Hid (AM.g0 s.data.toList = some (h, t)) ∧ Hid (∀ x ∈ h ++ t, x ≤ 65535) ∧ Hid (SxSt W0 h t hv tv wx))
      case first =>
        go_wp2_with fail
        go_loopg [4, 5, 6, 7] (s.size - a0) (fun gk hv tv gp at_ wr => ∃ (a f : Nat) (g : Bool) (h t : List Nat), a ≤ s.size ∧ gk = s.size - a ∧ gp = .bool g ∧ at_ = .int .i64 a ∧ h.length + t.length ≤ a ∧ Hid (s.size - a ≤ f) ∧ Hid (AM.grp (f + 1) g h t (s.data.toList.drop a) = AM.g0 s.data.toList) ∧ Hid (g = false → t = [] ∧ tv = .slice none 0 0) ∧ Hid (∀ x ∈ h ++ t, x ≤ 65535) ∧ Hid (SxSt W0 h t hv tv wr))
        case atStart => exact ⟨a0, s.data.toList.length + 8, G, [], [], ha0, rfl, rfl, rfl, by simp, hide (by rw [HLEN.out]; omega), HR, fun _ => ⟨rfl, rfl⟩, hide (by simp), SxSt.start _⟩
        case round =>
          obtain ⟨a, f, g, h, t, ha, rfl, rfl, rfl, hht, HF, HGR, HNG, HLE, HST⟩ := hrel
          clear HR ha0 HG
          by_cases hlt : a < s.size
          · go_upto_block 2 with fail
            go_cut [7, 8, 9] from 26 to 97 (fun at_ n k wx => ∃ p j x : Nat, j ≤ 5 ∧ p ≤ s.size ∧ at_ = .int .i64 p ∧ n = .int .i64 x ∧ k = .int .i64 j ∧ x ≤ 1048575 ∧ Hid (p = a + j) ∧ Hid (x < 16 ^ j) ∧ Hid (AM.hrun 5 0 (s.data.toList.drop a) = (x, s.data.toList.drop p)) ∧ wr = wx)
            case first =>
              go_wp2_with fail
              go_loopg [7, 8, 9] 5 (fun gj at_ n k wx => ∃ p j x : Nat, j ≤ 5 ∧ gj = 5 - j ∧ p ≤ s.size ∧ at_ = .int .i64 p ∧ n = .int .i64 x ∧ k = .int .i64 j ∧ x ≤ 1048575 ∧ Hid (p = a + j) ∧ Hid (x < 16 ^ j) ∧ Hid (AM.hrun 5 0 (s.data.toList.drop a) = AM.hrun (5 - j) x (s.data.toList.drop p)) ∧ wr = wx)
              case atStart => exact ⟨a, 0, 0, by omega, rfl, by omega, rfl, rfl, rfl, by omega, rfl, hide (by decide), hide rfl, rfl⟩
              case round =>
                obtain ⟨p, j, x, hj, rfl, hp, rfl, rfl, rfl, hx, HP, HX, HH, rfl⟩ := hrel
                clear HGR HNG HLE HST HF HNO HS HB
                by_cases h1 : p < s.size
                · have hix := str_at s p h1 (p : Int) rfl
                  by_cases h2 : j < 5
                  · have hDig := fun W => rdigit_any (s.data.toList.getD p 0) W
                    have HDR := hide (show s.data.toList.drop p = s.data.toList.getD p 0 :: s.data.toList.drop (p + 1) by
                      rw [List.drop_eq_getElem_cons (by rw [HLEN.out]; exact h1)]
                      simp [List.getElem?_eq_getElem (show p < s.data.toList.length by rw [HLEN.out]; exact h1)])
                    generalize s.data.toList.getD p 0 = c at hix hDig HDR
                    cases hv : AM.hv c with
                    | some d =>
                      have hd := AM.hv_lt hv
                      simp only [hv] at hDig
                      have HH2 := hide (show AM.hrun 5 0 (s.data.toList.drop a) = AM.hrun (5 - (j + 1)) (x * 16 + d) (s.data.toList.drop (p + 1)) by
                        rw [HH.out, HDR.out, show 5 - j = (5 - (j + 1)) + 1 by omega, AM.hrun, hv])
                      have HX2 := hide (show x * 16 + d < 16 ^ (j + 1) by have := HX.out; rw [Nat.pow_succ]; omega)
                      have HP2 := hide (show p + 1 = a + (j + 1) by have := HP.out; omega)
                      have hb2 : x * 16 + d ≤ 1048575 := by
                        have h1 := HX2.out
                        have h2 : 16 ^ (j + 1) ≤ 16 ^ 5 := Nat.pow_le_pow_right (by omega) (by omega)
                        omega
                      clear HX HH HDR hv HP
                      go_wp2_with (go_at_call 26; refine (hDig _).mono ?_; rintro e w' ⟨rfl, rfl⟩)
                      go_roundg (5 - (j + 1))
                      case measure => omega
                      case rel => exact ⟨p + 1, j + 1, x * 16 + d, by omega, rfl, by omega, by go_num, by go_num, by go_num, hb2, HP2, HX2, HH2, rfl⟩
                    | none =>
                      simp only [hv] at hDig
                      have HH2 := hide (show AM.hrun 5 0 (s.data.toList.drop a) = (x, s.data.toList.drop p) by
                        rw [HH.out, HDR.out, show 5 - j = (5 - (j + 1)) + 1 by omega, AM.hrun, hv])
                      clear HH HDR hv
                      go_wp2_with (go_at_call 26; refine (hDig _).mono ?_; rintro e w' ⟨rfl, rfl⟩)
                      go_meet
                      exact ⟨p, j, x, hj, hp, rfl, rfl, rfl, hx, HP, HX, HH2, rfl⟩
                  · obtain rfl : j = 5 := by omega
                    have HH2 := hide (show AM.hrun 5 0 (s.data.toList.drop a) = (x, s.data.toList.drop p) by rw [HH.out, AM.hrun])
                    clear HH
                    go_wp2
                    go_meet
                    exact ⟨p, 5, x, hj, hp, rfl, rfl, rfl, hx, HP, HX, HH2, rfl⟩
                · have HH2 := hide (show AM.hrun 5 0 (s.data.toList.drop a) = (x, s.data.toList.drop p) by
                    rw [HH.out, List.drop_eq_nil_of_le (by rw [HLEN.out]; omega)]
                    cases 5 - j <;> rfl)
                  have h1' : s.size ≤ p := by omega
                  clear HH
                  go_wp2
                  go_meet
                  exact ⟨p, j, x, hj, hp, rfl, rfl, rfl, hx, HP, HX, HH2, rfl⟩
            case rest =>
              obtain ⟨p, j, x, hj, hp, rfl, rfl, rfl, hx, HP, HX, HH, rfl⟩ := hcut
              have HA := hide (show a < s.data.toList.length by rw [HLEN.out]; exact hlt)
              have HK := hide (show a + j ≤ s.data.toList.length by rw [HLEN.out, ← HP.out]; exact hp)
              have HRN := hide (show AM.hrun 5 0 (s.data.toList.drop a) = (x, s.data.toList.drop (a + j)) by rw [← HP.out]; exact HH.out)
              clear HH
              by_cases hk : j < 1 ∨ 4 < j
              · have HE := hide (HNO.out (by rw [← HGR.out]; exact AM.grp_k HA.out HK.out HRN.out hk))
                clear HGR HRN HX HLE HNG
                obtain ⟨⟨c0, f0, s0⟩, ⟨c1, f1, s1⟩, ⟨c2, f2, s2⟩, ⟨c3, f3, s3⟩, ⟨c4, f4, s4⟩, ⟨c5, f5, s5⟩, ⟨c6, f6, s6⟩, ⟨c7, f7, s7⟩⟩ := (HS.out.kept HST.out.1).all0
                rcases hk with hk | hk
                · go_wp2
                  exact bodyPost_ret (v := .tuple #[.agg #[.int .i64 0, .int .i64 0, .int .i64 0, .int .i64 0, .int .i64 0, .int .i64 0, .int .i64 0, .int .i64 0], .int .i64 5]) (by simp [results, Tryz.results13, go_sem, c0, c1, c2, c3, c4, c5, c6, c7]) rfl ⟨.inr ⟨HE.out, rfl⟩, bt HB.out HST.out.1⟩
                · go_wp2
                  exact bodyPost_ret (v := .tuple #[.agg #[.int .i64 0, .int .i64 0, .int .i64 0, .int .i64 0, .int .i64 0, .int .i64 0, .int .i64 0, .int .i64 0], .int .i64 5]) (by simp [results, Tryz.results13, go_sem, c0, c1, c2, c3, c4, c5, c6, c7]) rfl ⟨.inr ⟨HE.out, rfl⟩, bt HB.out HST.out.1⟩
              · have hk1 : 1 ≤ j := by omega
                have hk4 : j ≤ 4 := by omega
                have HKK := hide hk
                clear hk
                have HX4 := hide (show x ≤ 65535 by
                  have h1 := HX.out
                  have h2 : 16 ^ j ≤ 16 ^ 4 := Nat.pow_le_pow_right (by omega) hk4
                  omega)
                obtain ⟨f, rfl⟩ : ∃ i, f = i + 1 := ⟨f - 1, by have := HF.out; omega⟩
                have HLE2 := hide (show ∀ y ∈ (if g then h else h ++ [x]) ++ (if g then t ++ [x] else t), y ≤ 65535 from fun y hy => by
                  cases g
                  · simp at hy
                    rcases hy with hy | rfl | hy
                    · exact HLE.out y (by simp [hy])
                    · exact HX4.out
                    · exact HLE.out y (by simp [hy])
                  · simp at hy
                    rcases hy with hy | hy | rfl
                    · exact HLE.out y (by simp [hy])
                    · exact HLE.out y (by simp [hy])
                    · exact HX4.out)
                have HHT := hide (show (if g then h else h ++ [x]).length + (if g then t ++ [x] else t).length = h.length + t.length + 1 by cases g <;> simp <;> omega)
                clear HX
                go_upto_if 63 with fail
                go_cut [4, 5] from 26 to 97 (fun hv' tv' wx => Hid (SxSt W0 (if g then h else h ++ [x]) (if g then t ++ [x] else t) hv' tv' wx) ∧ Hid (g = false → t = [] ∧ tv' = .slice none 0 0))
                case first =>
                  have hb1 : Below wr.heap.size wr (wr.alloc (.cells #[.int .i64 x] 3)) := (Below.refl _ _).alloc (Nat.le_refl _) _
                  have HST2 := hide (HST.out.below hb1)
                  cases g
                  · obtain ⟨rfl, rfl⟩ := HNG.out rfl
                    clear HGR HRN HLE HNG HLE2 HHT
                    go_wp2_with (at_builtin; refine app_int rfl (.tmp 68) (.tmp 70) rfl W0.heap.size _ (ints h) rfl HST2.out.2.1 wr.heap.size 1 [.int .i64 x] rfl rfl (fun j u hu => by cases j with | zero => simp at hu; subst hu; simp | succ j => simp at hu) (fun u hu => by simp at hu; subst hu; rfl) (by rw [ints_len]; first | omega | (simp at hht; omega)) HST2.out.1.size ?_; intro v' w' HO3 hg3)
                    go_meet
                    exact ⟨HST2.out.head HO3 hg3, hide (by simp)⟩
                  · obtain ⟨q1, q2, bs, q3, q4, q5, q6⟩ := HST2.out
                    have Q1 := hide q1
                    have Q2 := hide q2
                    have Q5 := hide q5
                    have Q6 := hide q6
                    clear HGR HRN HLE HNG HLE2 HHT q1 q2 q5 q6
                    go_wp2_with (at_builtin; refine app_int rfl (.tmp 64) (.tmp 66) rfl bs _ (ints t) rfl Q6.out wr.heap.size 1 [.int .i64 x] rfl rfl (fun j u hu => by cases j with | zero => simp at hu; subst hu; simp | succ j => simp at hu) (fun u hu => by simp at hu; subst hu; rfl) (by rw [ints_len]; first | omega | (simp at hht; omega)) q4 ?_; intro v' w' HO3 hg3)
                    go_meet
                    exact ⟨SxSt.tail Q1.out Q2.out q3 q4 Q5.out Q6.out HO3 hg3, hide (by simp)⟩
                case rest =>
                  obtain ⟨HST2, HNG2⟩ := hcut
                  clear HST HNG HLE
                  by_cases hp1 : p = s.size
                  · have HE := hide (show AM.g0 s.data.toList = some (if g then h else h ++ [x], if g then t ++ [x] else t) by rw [← HGR.out]; exact AM.grp_end HA.out HK.out HRN.out HKK.out (by rw [HLEN.out, ← HP.out]; exact hp1))
                    have hpb : ((p : Int) == (s.size : Int)) = true := by rw [beq_iff_eq]; omega
                    clear HGR HRN
                    have hle : h.length + t.length + 1 ≤ s.size := by have := HP.out; omega
                    subst hp1
                    go_wp2
                    go_meet
                    exact ⟨_, _, by rw [HHT.out]; exact hle, HE, HLE2, HST2⟩
                  · have hp2 : p < s.size := by omega
                    have hpb : ((p : Int) == (s.size : Int)) = false := by rw [beq_eq_false_iff_ne]; omega
                    have hix := str_at s p hp2 (p : Int) rfl
                    by_cases hc : s.data.toList.getD p 0 = 58
                    · rw [hc] at hix
                      have h58 : (((58 : UInt8).toNat : Nat) : Int) = 58 := rfl
                      rw [h58] at hix
                      clear h58
                      by_cases hp3 : p + 1 = s.size
                      · have HE := hide (HNO.out (by rw [← HGR.out]; exact AM.grp_one HA.out HK.out HRN.out HKK.out (by rw [HLEN.out, ← HP.out]; exact hp3)))
                        have hqb : (((p : Int) + 1) == (s.size : Int)) = true := by rw [beq_iff_eq]; omega
                        clear HGR HRN hc
                        obtain ⟨⟨c0, f0, s0⟩, ⟨c1, f1, s1⟩, ⟨c2, f2, s2⟩, ⟨c3, f3, s3⟩, ⟨c4, f4, s4⟩, ⟨c5, f5, s5⟩, ⟨c6, f6, s6⟩, ⟨c7, f7, s7⟩⟩ := (HS.out.kept HST2.out.1).all0
                        go_wp2
                        exact bodyPost_ret (v := .tuple #[.agg #[.int .i64 0, .int .i64 0, .int .i64 0, .int .i64 0, .int .i64 0, .int .i64 0, .int .i64 0, .int .i64 0], .int .i64 5]) (by simp [results, Tryz.results13, go_sem, c0, c1, c2, c3, c4, c5, c6, c7]) rfl ⟨.inr ⟨HE.out, rfl⟩, bt HB.out HST2.out.1⟩
                      · have hp4 : p + 1 < s.size := by omega
                        have hqb : (((p : Int) + 1) == (s.size : Int)) = false := by rw [beq_eq_false_iff_ne]; omega
                        have hix2 := str_at s (p + 1) hp4 ((p : Int) + 1) (by omega)
                        have HA2 := hide (show a + j + 1 < s.data.toList.length by rw [HLEN.out, ← HP.out]; exact hp4)
                        have HC := hide (show s.data.toList.getD (a + j) 0 = 58 by rw [← HP.out]; exact hc)
                        clear hc
                        by_cases hc2 : s.data.toList.getD (p + 1) 0 = 58
                        · rw [hc2] at hix2
                          have h58 : (((58 : UInt8).toNat : Nat) : Int) = 58 := rfl
                          rw [h58] at hix2
                          clear h58
                          have HDD := hide (AM.grp_dd (f := f + 1) (g := g) (h := h) (t := t) HA.out HK.out HRN.out HKK.out HA2.out HC.out (by rw [← HP.out]; exact hc2))
                          clear hc2
                          cases g
                          · have HG2 := hide (show AM.grp (f + 1) true (h ++ [x]) t (s.data.toList.drop (p + 2)) = AM.g0 s.data.toList by
                              rw [← HGR.out, HDD.out, HP.out]; rfl)
                            obtain ⟨rfl, rfl⟩ := HNG2.out rfl
                            have HF2 := hide (show s.size - (p + 2) ≤ f by have := HF.out; have := HP.out; omega)
                            have HM := hide (show p + 2 > a by have := HP.out; omega)
                            have HL := hide (show (h ++ [x]).length + ([] : List Nat).length ≤ p + 2 by have := HHT.out; have := HP.out; simp at hht ⊢; omega)
                            clear HDD HGR HRN HF HHT
                            go_wp2
                            go_roundg (s.size - (p + 2))
                            case measure => have := HM.out; omega
                            case rel => exact ⟨p + 2, f, true, h ++ [x], [], by omega, rfl, rfl, by go_num, HL.out, HF2, HG2, hide (by simp), HLE2, HST2⟩
                          · have HE := hide (HNO.out (by rw [← HGR.out, HDD.out]; rfl))
                            clear HDD HGR HRN
                            obtain ⟨⟨c0, f0, s0⟩, ⟨c1, f1, s1⟩, ⟨c2, f2, s2⟩, ⟨c3, f3, s3⟩, ⟨c4, f4, s4⟩, ⟨c5, f5, s5⟩, ⟨c6, f6, s6⟩, ⟨c7, f7, s7⟩⟩ := (HS.out.kept HST2.out.1).all0
                            go_wp2
                            exact bodyPost_ret (v := .tuple #[.agg #[.int .i64 0, .int .i64 0, .int .i64 0, .int .i64 0, .int .i64 0, .int .i64 0, .int .i64 0, .int .i64 0], .int .i64 5]) (by simp [results, Tryz.results13, go_sem, c0, c1, c2, c3, c4, c5, c6, c7]) rfl ⟨.inr ⟨HE.out, rfl⟩, bt HB.out HST2.out.1⟩
                        · have HON := hide (AM.grp_on (f := f + 1) (g := g) (h := h) (t := t) HA.out HK.out HRN.out HKK.out HA2.out HC.out (by rw [← HP.out]; exact hc2))
                          have HG2 := hide (show AM.grp (f + 1) g (if g then h else h ++ [x]) (if g then t ++ [x] else t) (s.data.toList.drop (p + 1)) = AM.g0 s.data.toList by
                              rw [← HGR.out, HON.out, HP.out])
                          have hcb : (((s.data.toList.getD (p + 1) 0).toNat : Int) == 58) = false := by
                            rw [beq_eq_false_iff_ne]
                            intro e
                            exact hc2 (UInt8.toNat_inj.1 (by show _ = 58; omega))
                          generalize ((s.data.toList.getD (p + 1) 0).toNat : Int) = v at hix2 hcb
                          have HF2 := hide (show s.size - (p + 1) ≤ f by have := HF.out; have := HP.out; omega)
                          have HM := hide (show p + 1 > a by have := HP.out; omega)
                          have HL := hide (show (if g then h else h ++ [x]).length + (if g then t ++ [x] else t).length ≤ p + 1 by rw [HHT.out]; have := HP.out; omega)
                          have HNG3 := hide (show g = false → (if g then t ++ [x] else t) = [] ∧ u5 = .slice none 0 0 from fun e => by have := HNG2.out e; subst e; simpa using this)
                          clear HON HGR HRN HF HHT hc2 HNG2
                          go_wp2
                          go_roundg (s.size - (p + 1))
                          case measure => have := HM.out; omega
                          case rel => exact ⟨p + 1, f, g, _, _, by omega, rfl, rfl, by go_num, HL.out, HF2, HG2, HNG3, HLE2, HST2⟩
                    · have HE := hide (HNO.out (by rw [← HGR.out]; exact AM.grp_x HA.out HK.out HRN.out HKK.out (by rw [HLEN.out, ← HP.out]; exact hp2) (by rw [← HP.out]; exact hc)))
                      have hcb : (((s.data.toList.getD p 0).toNat : Int) == 58) = false := by
                        rw [beq_eq_false_iff_ne]
                        intro e
                        exact hc (UInt8.toNat_inj.1 (by show _ = 58; omega))
                      generalize ((s.data.toList.getD p 0).toNat : Int) = v at hix hcb
                      clear HGR HRN hc
                      obtain ⟨⟨c0, f0, s0⟩, ⟨c1, f1, s1⟩, ⟨c2, f2, s2⟩, ⟨c3, f3, s3⟩, ⟨c4, f4, s4⟩, ⟨c5, f5, s5⟩, ⟨c6, f6, s6⟩, ⟨c7, f7, s7⟩⟩ := (HS.out.kept HST2.out.1).all0
                      go_wp2
                      exact bodyPost_ret (v := .tuple #[.agg #[.int .i64 0, .int .i64 0, .int .i64 0, .int .i64 0, .int .i64 0, .int .i64 0, .int .i64 0, .int .i64 0], .int .i64 5]) (by simp [results, Tryz.results13, go_sem, c0, c1, c2, c3, c4, c5, c6, c7]) rfl ⟨.inr ⟨HE.out, rfl⟩, bt HB.out HST2.out.1⟩
          · obtain rfl : a = s.size := by omega
            have HE := hide (show AM.g0 s.data.toList = some (h, t) by rw [← HGR.out, List.drop_eq_nil_of_le (by rw [HLEN.out]; exact Nat.le_refl _), AM.grp])
            go_wp2
            go_meet
            exact ⟨h, t, hht, HE, HLE, HST⟩
      case rest =>
        obtain ⟨h, t, hlen, HGT, HLE, HST⟩ := hcut
        clear HR HG
        obtain ⟨Q1, Q2, bs, Q3, Q4, Q5, Q6⟩ := HST.out
        have HB1 := hide Q1
        have HO1 := hide Q2
        have HO2 := hide Q6
        obtain ⟨ao, cap, hu4, hc4⟩ := Q2.parts
        obtain ⟨ao', cap', hu5, hc5⟩ := Q6.parts
        rw [ints_len] at hu4 hu5
        have HC4 := hide hc4
        have HC5 := hide hc5
        subst hu4 hu5
        clear Q1 Q2 Q3 Q4 Q5 Q6 hc4 hc5
        by_cases h8 : 8 < h.length + t.length
        · have HE := hide (show AM.parseF s.data.toList = none by
            cases hp : AM.parseF s.data.toList with
            | none => rfl
            | some z =>
              exfalso
              obtain ⟨p1, p2, p3⟩ := AM.parse_is hp
              obtain ⟨x, y, p4, p5, _⟩ := AM.g0_tx p1 p2
              rw [p3, HGT.out] at p4
              cases p4
              omega)
          clear HNO HGT HC4 HC5 HO1 HO2 HLE
          obtain ⟨⟨c0, f0, s0⟩, ⟨c1, f1, s1⟩, ⟨c2, f2, s2⟩, ⟨c3, f3, s3⟩, ⟨c4, f4, s4⟩, ⟨c5, f5, s5⟩, ⟨c6, f6, s6⟩, ⟨c7, f7, s7⟩⟩ := (HS.out.kept HST.out.1).all0
          go_wp2
          exact bodyPost_ret (v := .tuple #[.agg #[.int .i64 0, .int .i64 0, .int .i64 0, .int .i64 0, .int .i64 0, .int .i64 0, .int .i64 0, .int .i64 0], .int .i64 5]) (by simp [results, Tryz.results13, go_sem, c0, c1, c2, c3, c4, c5, c6, c7]) rfl ⟨.inr ⟨HE.out, rfl⟩, bt HB.out HST.out.1⟩
        · have h8' : h.length + t.length ≤ 8 := by omega
          have HZ := hide (show ∀ z, AM.parseF s.data.toList = some z → z = z2 h t t.length from fun z hp => by
            obtain ⟨p1, p2, p3⟩ := AM.parse_is hp
            obtain ⟨x, y, p4, p5, p6⟩ := AM.g0_tx p1 p2
            rw [p3, HGT.out] at p4
            cases p4
            rw [← p6, z2_all h8'])
          have HOK := hide (z2_ok HLE.out t.length)
          clear HNO HGT
          go_wp2
          have HN := hide (noughts_in wc)
          have HNB := hide (noughts_below wc)
          unfold noughts at HN HNB
          go_loopg [11] h.length (fun gk i wx => ∃ k : Nat, k ≤ h.length ∧ gk = h.length - k ∧ i = .int .i64 k ∧ Hid (SixIn wc.heap.size (z1 h k) wx) ∧ Hid (Below wc.heap.size wc wx))
          case atStart => exact ⟨0, by omega, rfl, rfl, HN, HNB⟩
          case round =>
            obtain ⟨k, hk, rfl, rfl, HI, HBX⟩ := hrel
            clear HN HNB
            by_cases hlt : k < h.length
            · obtain ⟨gb, rfl, _, hgl, hcs⟩ := HC4.out (fun e => by have := congrArg List.length e; rw [ints_len, List.length_nil] at this; omega)
              have hck : wr.cell? ⟨gb, k, none⟩ = some (.int .i64 ((h.getD k 0 : Nat) : Int)) := by
                have e : wr.cell? ⟨gb, k, none⟩ = wc.cell? ⟨gb, k, none⟩ := World.cell?_of_block (w := wc) (HBX.out.block gb hgl)
                rw [e]
                refine hcs k _ ?_
                simp [ints, List.getElem?_eq_getElem hlt]
              have hf := (HI.out.facts k (by omega)).2.1
              have hcc := (HI.out.facts k (by omega)).1
              have HI2 := hide (HI.out.set k (by omega) ((h.getD k 0 : Nat) : Int) (z1 h (k + 1)) (fun j hj => by
                rw [z1, el_zz _ j hj, z1, el_zz _ j hj]
                by_cases e : j = k
                · subst e; rw [if_pos (by omega), if_pos rfl]
                · rw [if_neg e]
                  by_cases hx : j < k
                  · rw [if_pos hx, if_pos (by omega)]
                  · rw [if_neg hx, if_neg (by omega)]))
              have HB2 := hide (HBX.out.setCell (p := ⟨wc.heap.size, k, none⟩) (Nat.le_refl _) (.int .i64 ((h.getD k 0 : Nat) : Int)))
              generalize el (z1 h k) k = y at hcc
              generalize ((h.getD k 0 : Nat) : Int) = x at hck HI2 HB2
              clear hcs HI HBX HC4 HC5 HZ HOK HO1 HO2 HLE HS HB HST
              go_wp2
              go_roundg (h.length - (k + 1))
              case measure => omega
              case rel => exact ⟨k + 1, by omega, rfl, by go_num, HI2, HB2⟩
            · obtain rfl : k = h.length := by omega
              have HI0 := hide (show SixIn wc.heap.size (z2 h t 0) wr by
                have e : z2 h t 0 = z1 h h.length := by
                  unfold z1 z2 zz
                  apply List.map_congr_left
                  intro j _
                  split
                  · rfl
                  · rw [if_neg (by omega)]
                rw [e]; exact HI.out)
              clear HI
              go_wp2
              go_loopg [12] t.length (fun gk i wx => ∃ k : Nat, k ≤ t.length ∧ gk = t.length - k ∧ i = .int .i64 k ∧ Hid (SixIn wc.heap.size (z2 h t k) wx) ∧ Hid (Below wc.heap.size wc wx))
              case atStart => exact ⟨0, by omega, rfl, rfl, HI0, HBX⟩
              case round =>
                obtain ⟨k, hk, rfl, rfl, HI, HBY⟩ := hrel
                clear HI0 HBX
                by_cases hlt : k < t.length
                · obtain ⟨gb, rfl, _, hgl, hcs⟩ := HC5.out (fun e => by have := congrArg List.length e; rw [ints_len, List.length_nil] at this; omega)
                  have hck : wr.cell? ⟨gb, k, none⟩ = some (.int .i64 ((t.getD k 0 : Nat) : Int)) := by
                    have e : wr.cell? ⟨gb, k, none⟩ = wc.cell? ⟨gb, k, none⟩ := World.cell?_of_block (w := wc) (HBY.out.block gb hgl)
                    rw [e]
                    refine hcs k _ ?_
                    simp [ints, List.getElem?_eq_getElem hlt]
                  obtain ⟨m, hm⟩ : ∃ m : Nat, m = 8 - t.length + k := ⟨_, rfl⟩
                  have hmi : (8 : Int) - (t.length : Int) + (k : Int) = (m : Int) := by omega
                  have hm8 : m < 8 := by omega
                  have HM := hide hm
                  have hf := (HI.out.facts m hm8).2.1
                  have hcc := (HI.out.facts m hm8).1
                  have HI2 := hide (HI.out.set m hm8 ((t.getD k 0 : Nat) : Int) (z2 h t (k + 1)) (fun j hj => by
                    rw [z2, el_zz _ j hj, z2, el_zz _ j hj]
                    by_cases e : j = m
                    · rw [if_pos e, if_neg (by omega), if_pos (by omega), show j - (8 - t.length) = k by omega]
                    · rw [if_neg e]
                      by_cases hx : j < h.length
                      · rw [if_pos hx, if_pos hx]
                      · rw [if_neg hx, if_neg hx]
                        by_cases hy : 8 - t.length ≤ j ∧ j < 8 - t.length + k
                        · rw [if_pos hy, if_pos (by omega)]
                        · rw [if_neg hy, if_neg (by omega)]))
                  have HB2 := hide (HBY.out.setCell (p := ⟨wc.heap.size, m, none⟩) (Nat.le_refl _) (.int .i64 ((t.getD k 0 : Nat) : Int)))
                  generalize el (z2 h t k) m = y at hcc
                  generalize ((t.getD k 0 : Nat) : Int) = x at hck HI2 HB2
                  clear hm hcs HI HBY HC4 HC5 HZ HOK HO1 HO2 HLE HS HB HST
                  go_wp2
                  go_roundg (t.length - (k + 1))
                  case measure => omega
                  case rel => exact ⟨k + 1, by omega, rfl, by go_num, HI2, HB2⟩
                · obtain rfl : k = t.length := by omega
                  clear HC4 HC5 HO1 HO2
                  have HW := hide (bt HST.out.1 HBY.out)
                  have HS2 := hide (HS.out.kept HW.out)
                  have hT := fun W => sixtext_any (z2 h t t.length) W HOK.out
                  have HL8 := hide (show (z2 h t t.length).length = 8 from zz_len _)
                  generalize z2 h t t.length = zf at HI hT HZ HOK HL8
                  obtain ⟨⟨q0, -, -⟩, ⟨q1, -, -⟩, ⟨q2, -, -⟩, ⟨q3, -, -⟩, ⟨q4, -, -⟩, ⟨q5, -, -⟩, ⟨q6, -, -⟩, ⟨q7, -, -⟩⟩ := HI.out.all
                  unfold six strv at hT
                  by_cases heq : AM.tx zf = s.data.toList
                  · have HE := hide (show AM.parseF s.data.toList = some zf by rw [← heq]; exact AM.parse_tx HOK.out HL8.out)
                    have e : (⟨(AM.tx zf).toArray⟩ : ByteArray) = s := by rw [heq]
                    rw [e] at hT
                    clear heq e
                    go_wp2_with (go_at_call 5; refine (hT _).mono ?_; rintro e w3 ⟨rfl, hB3⟩; obtain ⟨⟨c0, f0, s0⟩, ⟨c1, f1, s1⟩, ⟨c2, f2, s2⟩, ⟨c3, f3, s3⟩, ⟨c4, f4, s4⟩, ⟨c5, f5, s5⟩, ⟨c6, f6, s6⟩, ⟨c7, f7, s7⟩⟩ := (HS2.out.kept hB3).all0; obtain ⟨⟨p0, -, -⟩, ⟨p1, -, -⟩, ⟨p2, -, -⟩, ⟨p3, -, -⟩, ⟨p4, -, -⟩, ⟨p5, -, -⟩, ⟨p6, -, -⟩, ⟨p7, -, -⟩⟩ := (HI.out.kept hB3).all)
                    exact bodyPost_ret (v := .tuple #[.agg #[.int .i64 (el zf 0), .int .i64 (el zf 1), .int .i64 (el zf 2), .int .i64 (el zf 3), .int .i64 (el zf 4), .int .i64 (el zf 5), .int .i64 (el zf 6), .int .i64 (el zf 7)], .int .i64 0]) (by simp [results, Tryz.results13, go_sem, c0, c1, c2, c3, c4, c5, c6, c7]) rfl ⟨.inl ⟨zf, HE.out, rfl⟩, (((((((((bt HB.out (bt HW.out hB3)).setCell (Nat.le_refl _) _).setCell (Nat.le_refl _) _).setCell (Nat.le_refl _) _).setCell (Nat.le_refl _) _).setCell (Nat.le_refl _) _).setCell (Nat.le_refl _) _).setCell (Nat.le_refl _) _).setCell (Nat.le_refl _) _)⟩
                  · have HE := hide (show AM.parseF s.data.toList = none by
                      cases hp : AM.parseF s.data.toList with
                      | none => rfl
                      | some z => exact absurd (by rw [← HZ.out z hp]; exact (AM.parse_is hp).2.2) heq)
                    have hne : (⟨(AM.tx zf).toArray⟩ : ByteArray) ≠ s := fun e => heq (by rw [← e])
                    have hbe := str_ne hne
                    generalize (⟨(AM.tx zf).toArray⟩ : ByteArray) = tz at hT hne hbe
                    clear heq
                    go_wp2_with (go_at_call 5; refine (hT _).mono ?_; rintro e w3 ⟨rfl, hB3⟩; obtain ⟨⟨c0, f0, s0⟩, ⟨c1, f1, s1⟩, ⟨c2, f2, s2⟩, ⟨c3, f3, s3⟩, ⟨c4, f4, s4⟩, ⟨c5, f5, s5⟩, ⟨c6, f6, s6⟩, ⟨c7, f7, s7⟩⟩ := (HS2.out.kept hB3).all0)
                    exact bodyPost_ret (v := .tuple #[.agg #[.int .i64 0, .int .i64 0, .int .i64 0, .int .i64 0, .int .i64 0, .int .i64 0, .int .i64 0, .int .i64 0], .int .i64 5]) (by simp [results, Tryz.results13, go_sem, c0, c1, c2, c3, c4, c5, c6, c7]) rfl ⟨.inr ⟨HE.out, rfl⟩, bt HB.out (bt HW.out hB3)⟩
end Go.Proofs.YtdbhhlggddbehaaGreatDoor
