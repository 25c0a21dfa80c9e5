/- The walk of the statement SegBack: whatever the segment, what stands over it, the bit and the other number, the Go text returns true and writes nothing that was there. -/
import Derived.Test.YtnpoffedfidphaaDoorSgBk
namespace Go.Proofs.YtnpoffedfidphaaDoor
open Go.RowKit

/-- what lasts while the statement runs. -/
def VB (w : World) (z : List Int) (a : Option Addr) (len cap : Nat) (W : World) : Prop := SgIn w.heap.size z a len cap W ∧ Below w.heap.size w W
theorem VB.kept {w : World} {z : List Int} {a : Option Addr} {len cap : Nat} {W W' : World} (v : VB w z a len cap W) (hb : Below W.heap.size W W') : VB w z a len cap W' := ⟨v.1.kept hb, bt v.2 hb⟩
theorem VB.start (w : World) (z : List Int) (a : Option Addr) (len cap : Nat) : VB w z a len cap (w.alloc (.cells (sgC z a len cap) 24)) := ⟨sg_new w z a len cap, al_below _ _⟩
/-- a new segment that is stored at once. -/
theorem new_below {w w' : World} (o : Obj) (h : Only w.heap.size (w.alloc o) w') : Below w.heap.size w w' := h.below (al_below w o) (Nat.le_refl _)
theorem row_nil (w : World) : Row8 w none 0 0 [] := ⟨rfl, by simp [maxLen], SM.oct_nil, fun _ => ⟨rfl, rfl⟩, fun h => by omega⟩
theorem xor_all : ∀ n : Fin 256, ∀ r : Fin 8, (0 ≤ bits .xor .u8 (n.val : Int) ((2 : Int) ^ r.val % 256) ∧ bits .xor .u8 (n.val : Int) ((2 : Int) ^ r.val % 256) ≤ 255) ∧ bits .xor .u8 (n.val : Int) ((2 : Int) ^ r.val % 256) ≠ (n.val : Int) := by decide +kernel
/-- a bit of a byte turned. -/
theorem xor_turn (z : Int) (hz : 0 ≤ z ∧ z ≤ 255) (r : Nat) (hr : r < 8) : (0 ≤ bits .xor .u8 z ((2 : Int) ^ r % 256) ∧ bits .xor .u8 z ((2 : Int) ^ r % 256) ≤ 255) ∧ bits .xor .u8 z ((2 : Int) ^ r % 256) ≠ z := by
  obtain ⟨n, rfl⟩ := Int.eq_ofNat_of_zero_le hz.1
  exact xor_all ⟨n, by omega⟩ ⟨r, hr⟩
theorem enc_fact (w : World) : Calls Tryd.prog 12 #[.agg #[.int .i64 17, .int .i64 1, .int .i64 2, .int .i64 0, .int .i64 0, .int .i64 0, .int .i64 0, .slice none 0 0], .int .i64 0] w fun e w' => ∃ g c, e = .returned (.tuple #[.slice (some ⟨g, 0, none⟩) 8 c, .nilIface]) ∧ Row8 w' (some ⟨g, 0, none⟩) 8 c [0, 1, 0, 2, 0, 8, 255, 244] ∧ Below w.heap.size w w' := by
  have h := enc_form [17, 1, 2, 0, 0, 0, 0] none 0 0 0 [] w ⟨⟨by decide, by decide⟩, ⟨by decide, by decide⟩, by decide, .inr ⟨by decide, by decide, by decide, by decide, by decide⟩⟩ (by decide) (row_nil w)
  rw [fact_eb] at h
  exact h.mono fun e w' ⟨g, c, h1, _, _, _, h2, h3⟩ => ⟨g, c, h1, h2, h3⟩
theorem Row8.at_ {w : World} {g off len cap : Nat} {zs : List Int} (h : Row8 w (some ⟨g, off, none⟩) len cap zs) (i : Nat) (hi : i < len) : w.cell? ⟨g, off + i, none⟩ = some (.int .u8 (zs.getD i 0)) := by
  obtain ⟨-, -, -, -, h5⟩ := h
  obtain ⟨b, o, e, hcell⟩ := h5 (by omega)
  cases e
  exact hcell i hi

set_option maxRecDepth 100000 in
set_option maxHeartbeats 8000000 in
theorem back_walk (z : List Int) (a : Option Addr) (len cap : Nat) (data : List Int) (over bit other : Int) (w : World) (hg : Laid0 w) (hp : Row8 w a len cap data) :
    Calls Tryd.prog 5 #[.agg (sgC z a len cap), .int .i64 over, .int .i64 bit, .int .i64 other] w fun e w' => e = .returned (.bool true) ∧ Below w.heap.size w w' := by
  have HV := hide (VB.start w z a len cap)
  have HF := hide enc_fact
  have HG := hide hg
  have HRP := hide (fun W (h : VB w z a len cap W) => hp.below h.2)
  have hm : len ≤ maxLen := hp.2.1
  have hop := hp.2.2.1
  have hlen := hp.1
  clear hp hg
  go_enter Tryd.func5, Tryd.ntmps5
  go_upto_region 1 with fail
  generalize w.alloc _ = W0 at HV ⊢
  go_upto_region 2 with (go_at_call 12; refine (HF.out _).mono ?_; rintro e w1 ⟨g1, c1, rfl, hr1, hb1⟩; replace HV := hide (HV.out.kept hb1); clear hb1)
  have x5 : w1.cell? ⟨g1, 5, none⟩ = some (.int .u8 8) := hr1.at_ 5 (by omega)
  have x6 : w1.cell? ⟨g1, 6, none⟩ = some (.int .u8 255) := hr1.at_ 6 (by omega)
  have x7 : w1.cell? ⟨g1, 7, none⟩ = some (.int .u8 244) := hr1.at_ 7 (by omega)
  clear hr1 HF
  go_upto_region 4 with fail
  clear x5 x6 x7
  by_cases hk : Okg z len ∧ up 65535 over = true
  · obtain ⟨hk, ho⟩ := hk
    subst hlen
    have hov := up_true ho
    have HE := hide (fun W h => enc_form z a data.length cap over data W hk ho h)
    have HD := hide (fun g off n c W h h1 h2 => dec_own z g off n c over data W hk ho h h1 h2)
    have HS := hide (fun W a1 a2 l1 l2 c1 c2 r1 r2 => segs_same z a1 a2 l1 l2 c1 c2 data W r1 r2)
    have HOth := hide (fun g off n c W h1 h2 hne hr hcl hcm => dec_other z g off n c over other data W hk hop h1 h2 hne hr hcl hcm)
    have hlX : (eb z over data).length = hn (el z 0) + data.length := eb_len z over data
    have hsum := eb_sum z over data hk hop hov
    have hh := hn_le (el z 0)
    have hp8 : 8 ≤ hn (el z 0) := by unfold hn; split <;> omega
    have hl300 := hk.2.2.1
    have HT := hide (fun g n c W j hj v hv hne hn' hr hcl hcm => dec_turned z g 0 n c over data W hk hop ho j hj v hv hne hn' hr hcl hcm)
    obtain ⟨N, hN⟩ : ∃ N, N = hn (el z 0) + data.length := ⟨_, rfl⟩
    rw [← hN] at HE hlX
    rw [hlX] at hsum
    have HN := hide hN.symm
    have HOX := hide (eb_oct z over data hop ho)
    have hN8 : 8 ≤ N := by omega
    have hN2 : N ≤ 320 := by omega
    have hT := SM.fold_bd _ (SM.tot_bd _ HOX.out N).1
    have hTT := (SM.tot_bd _ HOX.out N).1
    have HOF := hide (fun g c W (h : Row8 W (some ⟨g, 0, none⟩) N c (eb z over data)) => of_ok _ N c _ W h (by omega))
    have hfa : SM.fold (SM.fold (SM.tot (eb z over data) N) + over) = 65535 := by
      have h1 := SM.fold_add (SM.tot (eb z over data) N) over hTT hov.1
      rw [SM.fold_small over hov.1 hov.2] at h1
      rw [h1]
      exact hsum
    have HADD := hide (fun W => add_ok (SM.fold (SM.tot (eb z over data) N)) over W ⟨hT, hov⟩)
    rw [hfa] at HADD
    generalize SM.fold (SM.tot (eb z over data) N) = T at HOF HADD
    generalize eb z over data = X at HE HD HOth HT HOX HOF hlX
    clear hsum hT hTT hfa hN hp8 hh
    go_upto_region 7 with (first
      | (refine at_load rfl (.tmp 4) rfl rfl HV.out.1 ?_)
      | (go_at_call 12; refine (HE.out _ (HRP.out _ HV.out)).mono ?_; rintro e w4 ⟨g4, c4, rfl, hc4, hm4, -, hr4, hb4⟩; replace HV := hide (HV.out.kept hb4); replace hr4 := hide hr4; clear hb4))
    have l0 := HV.out.1.c0
    have HZ := hide zero_new
    unfold zero7 at HZ
    go_upto_region 8 with (first
      | (go_at_call 14; refine (HD.out _ _ _ _ _ hr4.out hc4 hm4).mono ?_; rintro e w5 ⟨a5, l5, c5, rfl, hr5, hb5⟩; replace HV := hide (HV.out.kept hb5); replace hr4 := hide (hr4.out.below hb5); replace hr5 := hide hr5; clear hb5 l0)
      | (refine at_store rfl (.tmp 13) (.tmp 66) rfl rfl (HZ.out w5) z a5 l5 c5 rfl ?_; intro w6 p6 on6; have hb6 := new_below _ on6; replace HV := hide (HV.out.kept hb6); replace hr4 := hide (hr4.out.below hb6); replace hr5 := hide (hr5.out.below hb6); replace p6 := hide p6; clear hb6 on6))
    generalize w5.heap.size = B5 at p6 ⊢
    go_upto_region 13 with (first
      | (refine at_load rfl (.tmp 13) rfl rfl p6.out ?_)
      | (refine at_load rfl (.tmp 4) rfl rfl HV.out.1 ?_)
      | (go_at_call 15; refine (HS.out _ _ _ _ _ _ _ hr5.out (HRP.out _ HV.out)).mono ?_; rintro e w7 ⟨rfl, hb7⟩; replace HV := hide (HV.out.kept hb7); replace hr4 := hide (hr4.out.below hb7); clear hb7 p6 hr5)
      | (go_at_call 20; refine (HOF.out _ _ _ hr4.out).mono ?_; rintro e w8 ⟨rfl, rfl⟩)
      | (go_at_call 21; refine (HADD.out _).mono ?_; rintro e w9 ⟨rfl, hb9⟩; replace HV := hide (HV.out.kept hb9); replace hr4 := hide (hr4.out.below hb9); clear hb9))
    clear HD HS HOF HADD HE HZ
    obtain ⟨ob, hob⟩ : ∃ b : Bool, b = decide (0 ≤ other ∧ other < 65535 ∧ over < 65535 ∧ other ≠ over) := ⟨_, rfl⟩
    go_cut [114] from 22 (fun v W => v = .bool ob ∧ Hid (VB w z a data.length cap W) ∧ Hid (Row8 W (some ⟨g4, 0, none⟩) N c4 X))
    case first =>
      by_cases o1 : 0 ≤ other
      · by_cases o2 : other < 65535
        · by_cases o3 : over < 65535
          · have HD := hide (show (other != over) = ob by rw [hob]; by_cases e : other = over <;> simp [e, o1, o2, o3] <;> omega)
            clear hob
            go_wp2_with fail
            go_meet
            exact ⟨congrArg Value.bool HD.out, HV, hr4⟩
          · have HD := hide (show false = ob by rw [hob]; simp [o3])
            clear hob
            go_wp2_with fail
            go_meet
            exact ⟨congrArg Value.bool HD.out, HV, hr4⟩
        · have HD := hide (show false = ob by rw [hob]; simp [o2])
          clear hob
          go_wp2_with fail
          go_meet
          exact ⟨congrArg Value.bool HD.out, HV, hr4⟩
      · have HD := hide (show false = ob by rw [hob]; simp [o1])
        clear hob
        go_wp2_with fail
        go_meet
        exact ⟨congrArg Value.bool HD.out, HV, hr4⟩
    case rest =>
      obtain ⟨rfl, HV, hr4⟩ := hcut
      go_upto_if 114 with fail
      go_cut [14, 20] from 22 (fun v14 v20 W => Hid (VB w z a data.length cap W) ∧ Hid (Row8 W (some ⟨g4, 0, none⟩) N c4 X))
      case first =>
        cases ob
        · clear hob
          go_wp2_with fail
          go_meet
          exact ⟨HV, hr4⟩
        · obtain ⟨o1, o2, o3, o4⟩ := of_decide_eq_true hob.symm
          clear hob
          have l0 := HV.out.1.c0
          have HO' := hide (fun W hr => HOth.out g4 0 N c4 W ⟨hov.1, o3⟩ ⟨o1, o2⟩ o4 hr hc4 hm4)
          unfold sg0 err at HO'
          have HTl := hide (fun W (h : Laid0 W) => error_err 6 W h)
          go_wp2_with (first
            | (go_at_call 14; refine (HO'.out _ hr4.out).mono ?_; rintro e w10 ⟨rfl, hb10⟩; replace HV := hide (HV.out.kept hb10); replace hr4 := hide (hr4.out.below hb10); clear hb10 l0)
            | (go_at_call 7; refine (HTl.out _ (HG.out.below HV.out.2)).mono ?_; rintro e w11 ⟨rfl, hb11⟩; replace HV := hide (HV.out.kept hb11); replace hr4 := hide (hr4.out.below hb11); clear hb11))
          go_meet
          exact ⟨HV, hr4⟩
      case rest =>
        obtain ⟨HV, hr4⟩ := hcut
        clear HOth hob
        by_cases hb0 : bit < 0
        · go_wp2
          go_ret
          exact ⟨rfl, HV.out.2⟩
        · by_cases hb1 : 8 * (N : Int) ≤ bit
          · go_wp2
            go_ret
            exact ⟨rfl, HV.out.2⟩
          · obtain ⟨m, rfl⟩ := Int.eq_ofNat_of_zero_le (show 0 ≤ bit by omega)
            have hmN : m < 8 * N := by omega
            have hmb : ¬ 8 * (N : Int) ≤ (m : Int) := by omega
            have HV8 := HV
            have HL9 := hide (show ([] : List Int).length + N ≤ 1000000000 by simp; omega)
            go_upto_region 22 with (at_builtin; refine wpList_app rfl (.tmp 136) (.tmp 137) rfl wc.heap.size _ [] rfl (Own.nil _ _) _ N c4 X rfl hr4.out HL9.out (Nat.le_refl _) ?_; intro v9 w9 o9 g9; replace o9 : Own wc.heap.size w9 v9 X := o9; have hb9 := (Below.refl _ _).grown g9 (Nat.le_refl _) (fun k h => by cases h); replace HV := hide (HV.out.kept hb9); clear hb9 g9; obtain ⟨g9, c9, hv9, h91, h92, hg9, -, -⟩ := o9.form (by omega); rw [hlX] at h91 hv9; subst hv9; replace o9 := hide o9)
            have hj : m / 8 < N := by omega
            obtain ⟨z1, z2⟩ := o9.out.cell (m / 8) hj
            have hz := HOX.out (m / 8)
            have HT' := hide (fun v hv hne c W hr hcl hcm => HT.out g9 N c W (m / 8) hj v hv hne HN.out hr hcl hcm)
            generalize hzz : X.getD (m / 8) 0 = zz at z1 hz HT'
            have hx := xor_turn zz hz (m % 8) (by omega)
            clear HT
            go_upto_region 23 with fail
            generalize bits .xor .u8 zz ((2 : Int) ^ (m % 8) % 256) = v at hx ⊢
            have ow := o9.out.set (m / 8) v hx.1
            have HD := hide (HT'.out v hx.1 hx.2 _ _ ow.toRow h91 h92)
            have hge : w.heap.size ≤ g9 := Nat.le_trans HV8.out.2.size hg9
            have HV9 := hide (show VB w z a data.length cap (w9.setCell ⟨g9, m / 8, none⟩ (.int .u8 v)) from ⟨(Below.heap_setCell w9 ⟨g9, m / 8, none⟩ (.int .u8 v) w.heap.size (by have := HV8.out.1.lt; show w.heap.size ≠ g9; omega)).trans HV.out.1, HV.out.2.setCell (p := ⟨g9, m / 8, none⟩) hge (.int .u8 v)⟩)
            generalize w9.setCell ⟨g9, m / 8, none⟩ (.int .u8 v) = W9 at HD HV9 ⊢
            unfold sg0 err at HD
            have l0 := HV9.out.1.c0
            go_wp2_with (go_at_call 14; refine HD.out.mono ?_; rintro e w10 ⟨k10, rfl, hb10⟩; replace HV9 := hide (HV9.out.kept hb10); clear hb10)
            go_ret
            exact ⟨rfl, HV9.out.2⟩
  · have HE := hide (fun W => enc_bad z a len cap over W hm hk)
    unfold err at HE
    go_wp2_with (first
      | (refine at_load rfl (.tmp 4) rfl rfl HV.out.1 ?_)
      | (go_at_call 12; refine (HE.out _).mono ?_; rintro e w4 ⟨j4, rfl, hb4⟩; replace HV := hide (HV.out.kept hb4); clear hb4))
    go_ret
    exact ⟨rfl, HV.out.2⟩
end Go.Proofs.YtnpoffedfidphaaDoor
