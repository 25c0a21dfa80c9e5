/- The walk of the statement ShiftTold: whatever the head, the number that it begins with and the segments, the Go text returns true and writes nothing that was there. -/
import Derived.Test.YtbbbcfihnjidaaaShO
import Derived.Lib.SlBytesConst
namespace Go.Proofs.Ytbbbcfihnjidaaa
open Go.RowKit

/-- bytes of a constant text. -/
theorem row_hi (w : World) (m : Nat × Nat) : Row8 (w.alloc (.cells #[.int .u8 104, .int .u8 105] 5 m)) (some ⟨w.heap.size, 0, none⟩) 2 2 [104, 105] := by
  refine ⟨rfl, by simp [maxLen], ?_, (fun h => by cases h), fun _ => ⟨w.heap.size, 0, rfl, fun i hi => ?_⟩⟩
  · intro k
    match k with
    | 0 => decide
    | 1 => decide
    | k + 2 => simp
  · rw [cell_of_row (w.alloc _) w.heap.size _ _ _ m (heap_alloc_new w _)]
    rcases (by omega : i = 0 ∨ i = 1) with rfl | rfl <;> rfl
/-- the stream that the statement plays with, in a block of its own. -/
def TV (w : World) (B : Nat) (hd : List Int) (s : Int) (b h : Bool) (W : World) : Prop := ST 40 B hd s b h W ∧ w.heap.size ≤ B ∧ Below w.heap.size w W
theorem TV.kept {w : World} {B : Nat} {hd : List Int} {s : Int} {b h : Bool} {W W' : World} (t : TV w B hd s b h W) (hb : Below W.heap.size W W') : TV w B hd s b h W' := ⟨t.1.kept hb, t.2.1, bt t.2.2 hb⟩
theorem TV.bu {w : World} {B : Nat} {hd : List Int} {s : Int} {b h : Bool} {W W' : World} (t : TV w B hd s b h W) (u : Bu B W W') {s' : Int} {b' h' : Bool} (p : ST 40 B hd s' b' h' W') : TV w B hd s' b' h' W' := ⟨p, t.2.1, u.below t.2.2 t.2.1 (Nat.le_refl _)⟩
theorem hi_up : upo [104, 105] 0 false false [6, 0, 0, 9, 0, 2, 0] [] = (0, [6, 0, 0, 7, 0, 2, 0], [], 10, true, false) := by decide +kernel
theorem hi_dn : dno 10 true false [6, 0, 0, 0, 9, 16, 0] [] = (0, [6, 0, 0, 0, 10, 16, 0], [], 10, true, false) := by decide +kernel
theorem cf_in {z : List Int} {len : Nat} (h6 : el z 0 = 6) (h1 : el z 1 = 0) (h2 : el z 2 = 0) (h3 : 0 ≤ el z 3 ∧ el z 3 ≤ 4294967295) (h4 : 0 ≤ el z 4 ∧ el z 4 ≤ 4294967295) (h5 : 0 ≤ el z 5 ∧ el z 5 ≤ 31) (h7 : el z 6 = 0) (hl : len ≤ 300) : cf z len = 0 := by
  have : sf z len = 0 := (sf_iff z len).2 ⟨by omega, by omega, hl, .inl ⟨h6, h3, h4, h5, by omega⟩⟩
  unfold cf
  rw [if_neg (fun h => h.2 h6)]
  exact this
/-- a stream begins. -/
theorem syn_up (hd : List Int) (n : Int) (h0 : 0 ≤ n) (h1 : n < 4294967296) : upo hd 0 false false [6, 0, 0, n, 0, 2, 0] [] = (0, [6, 0, 0, md (n - hd.length), 0, 2, 0], [], md (n + 1), true, false) := by
  unfold upo
  rw [if_neg (by rw [cf_in (z := [6, 0, 0, n, 0, 2, 0]) rfl rfl rfl ⟨h0, by show n ≤ _; omega⟩ (show (0 : Int) ≤ 0 ∧ (0 : Int) ≤ 4294967295 by decide) (show (0 : Int) ≤ 2 ∧ (2 : Int) ≤ 31 by decide) rfl (by simp)]; decide), if_pos (by rfl)]
  rfl
/-- what goes on. -/
def UK (B : Nat) (hd z d : List Int) (s : Int) (b h : Bool) (w : World) (e : Ending) (w' : World) : Prop := ∃ a l c, e = .returned (.tuple #[.agg (sgC z a l c), .nilIface]) ∧ Row8 w' a l c d ∧ ST 40 B hd s b h w' ∧ Bu B w w'
/-- what is refused. -/
def UE (B : Nat) (hd : List Int) (n : Int) (s : Int) (b h : Bool) (w : World) (e : Ending) (w' : World) : Prop := ∃ a l c, e = .returned (.tuple #[.agg (sgC [] a l c), err n]) ∧ Row8 w' a l c [] ∧ ST 40 B hd s b h w' ∧ Bu B w w'
theorem uq_ok {B : Nat} {hd z d : List Int} {s : Int} {b h : Bool} {w : World} {e : Ending} {w' : World} (q : UQ 40 ev B hd (0, z, d, s, b, h) w e w') : UK B hd z d s b h w e w' := q
theorem uq_err {B : Nat} {hd : List Int} {n : Int} (hn : n ≠ 0) {s : Int} {b h : Bool} {w : World} {e : Ending} {w' : World} (q : UQ 40 ev B hd (n, [], [], s, b, h) w e w') : UE B hd n s b h w e w' := by
  obtain ⟨a, l, c, h1, h2⟩ := q
  exact ⟨a, l, c, by rw [h1]; show _ = _; rw [show ev n = err n from if_neg hn], h2⟩
theorem up_is {B : Nat} {hd : List Int} {s : Int} {b h : Bool} {z : List Int} {a : Option Addr} {len cap : Nat} {zs : List Int} {w : World} (hS : ST 40 B hd s b h w) (hhb : h = true → b = true) (hr : Row8 w a len cap zs) {z' d : List Int} {s' : Int} {b' h' : Bool} (hO : upo hd s b h z zs = (0, z', d, s', b', h')) :
    Calls Try.prog 6 #[.pointer (some ⟨B, 0, none⟩), .agg (sgC z a len cap)] w (UK B hd z' d s' b' h' w) := by
  have := up_any B hd s b h z a len cap zs w hS hhb hr
  rw [hO] at this
  exact this.mono fun e w' q => uq_ok q
theorem down_is {B : Nat} {hd : List Int} {s : Int} {b h : Bool} {z : List Int} {a : Option Addr} {len cap : Nat} {zs : List Int} {w : World} (hS : ST 40 B hd s b h w) (hs : 0 ≤ s ∧ s < 4294967296) (hr : Row8 w a len cap zs) {z' d : List Int} {s' : Int} {b' h' : Bool} (hO : dno s b h z zs = (0, z', d, s', b', h')) :
    Calls Try.prog 7 #[.pointer (some ⟨B, 0, none⟩), .agg (sgC z a len cap)] w (UK B hd z' d s' b' h' w) := by
  have := down_any B hd s b h z a len cap zs w hS hs hr
  rw [hO] at this
  exact this.mono fun e w' q => uq_ok q
theorem down_no {B : Nat} {hd : List Int} {s : Int} {b h : Bool} {z : List Int} {a : Option Addr} {len cap : Nat} {zs : List Int} {w : World} (hS : ST 40 B hd s b h w) (hs : 0 ≤ s ∧ s < 4294967296) (hr : Row8 w a len cap zs) {n : Int} (hn : n ≠ 0) (hO : dno s b h z zs = (n, [], [], s, b, h)) :
    Calls Try.prog 7 #[.pointer (some ⟨B, 0, none⟩), .agg (sgC z a len cap)] w (UE B hd n s b h w) := by
  have := down_any B hd s b h z a len cap zs w hS hs hr
  rw [hO] at this
  exact this.mono fun e w' q => uq_err hn q
/-- what goes down of a stream that has begun. -/
theorem dn_cases (S : Int) (hS : 0 ≤ S ∧ S < 4294967296) (h : Bool) (z zs : List Int) : (∃ n, n ≠ 0 ∧ dno S true h z zs = (n, [], [], S, true, h)) ∨
    (dno S true h z zs = (0, z, zs, S, true, h) ∧ (0 ≤ el z 5 ∧ el z 5 ≤ 31) ∧ (el z 5 / 16 % 2 == 0) = true) ∨
    (∃ z' h', dno S true h z zs = (0, z', zs, S, true, h') ∧ el z' 3 = el z 3 ∧ (0 ≤ el z' 5 ∧ el z' 5 ≤ 31) ∧ (el z' 5 / 16 % 2 == 0) = false ∧ (0 ≤ el z' 4 ∧ el z' 4 < 4294967296) ∧ ((S - el z' 4 + 4294967296) % 4294967296 < 1 ∨ 2147483648 ≤ (S - el z' 4 + 4294967296) % 4294967296)) := by
  by_cases hF : cf z zs.length = 0
  · obtain ⟨_, _, hq, hk, hfl⟩ := cf_ok hF
    have e0 : dno S true h z zs = if el z 5 / 16 % 2 = 0 then (0, z, zs, S, true, h) else if ah (el z 4) S = true then (0, za z S, zs, S, true, h) else (0, z, zs, S, true, true) := by
      unfold dno
      rw [if_neg (by rw [hF]; decide), if_neg (by decide)]
    by_cases h16 : el z 5 / 16 % 2 = 0
    · exact .inr (.inl ⟨by rw [e0, if_pos h16], hfl, by simpa using h16⟩)
    · rw [if_neg h16] at e0
      refine .inr (.inr ?_)
      cases hA : ah (el z 4) S
      · rw [hA, if_neg (by decide)] at e0
        refine ⟨z, true, e0, rfl, hfl, by simpa using h16, ⟨hk.1, by omega⟩, ?_⟩
        have := of_decide_eq_false hA
        unfold md at this
        omega
      · rw [hA, if_pos rfl] at e0
        exact ⟨za z S, h, e0, rfl, hfl, by simpa [za, el] using h16, hS, by show (S - S + 4294967296) % 4294967296 < 1 ∨ _; omega⟩
  · exact .inl ⟨cf z zs.length, hF, by unfold dno; rw [if_pos hF]⟩
theorem zero_at (w : World) : SgIn w.heap.size [] none 0 0 (w.alloc (.cells #[.int .i64 0, .int .i64 0, .int .i64 0, .int .i64 0, .int .i64 0, .int .i64 0, .int .i64 0, .slice none 0 0] 30)) := zero_new w
attribute [local go_sem ↓] gload_shut
set_option maxRecDepth 100000 in
set_option maxHeartbeats 8000000 in
theorem told_walk (a : Option Addr) (len cap : Nat) (hd : List Int) (isn : Int) (b : Option Addr) (lb cb : Nat) (w : World) (hr : Row8 w a len cap hd) (hb : Sgs b lb w) (hlb : lb ≤ maxLen) :
    Calls Try.prog 4 #[.slice a len cap, .int .i64 isn, .slice b lb cb] w fun e w' => e = .returned (.bool true) ∧ Below w.heap.size w w' := by
  unfold maxLen at hlb
  have HR := hide (fun W (h : Below w.heap.size w W) => hr.below h)
  have HS := hide hb
  have hlen := hr.1
  have hmx := hr.2.1
  unfold maxLen at hmx
  have HH := hide (new_ok _ 2 2 [104, 105] _ (by omega) (row_hi w (2, 3)))
  have HU := hide (fun B W (h : ST 40 B [104, 105] 0 false false W) => up_is (a := none) (len := 0) (cap := 0) h (by decide) (row_no W) hi_up)
  have HD := hide (fun B W (h : ST 40 B [104, 105] 10 true false W) => down_is (a := none) (len := 0) (cap := 0) h (by decide) (row_no W) hi_dn)
  have HB0 := hide (al_below w (.cells #[.int .u8 104, .int .u8 105] 5 (2, 3)))
  have kc := fun (w : World) (C : Array Value) (n c : Nat) => Lib.run_convert_bytes_const (P := Try.prog) w 22 5 C n c Try.underlying22 Try.underlying5
  clear hr hb
  go_enter Try.func4, Try.ntmps4
  go_upto_region 4 with (go_at_call 5; refine HH.out.mono ?_; rintro e w1 ⟨B1, rfl, st1, hB1, hb1⟩; have HT := hide (show TV w B1 [104, 105] 0 false false w1 from ⟨st1, Nat.le_trans HB0.out.size hB1, bt HB0.out hb1⟩); clear st1 hB1 hb1 HB0 HH)
  clear kc
  go_upto_region 5 with (go_at_call 6; refine (HU.out _ _ HT.out.1).mono ?_; rintro e w2 ⟨a2, l2, c2, rfl, -, st2, u2⟩; replace HT := hide (HT.out.bu u2 st2); clear st2 u2)
  go_upto_region 6 with (first
    | (go_at_call 7; refine (HD.out _ _ HT.out.1).mono ?_; rintro e w3 ⟨a3, l3, c3, rfl, -, st3, u3⟩; replace HT := hide (HT.out.bu u3 st3); clear st3 u3)
    | (refine at_store rfl (.tmp 9) (.tmp 34) rfl rfl (zero_at _) [6, 0, 0, 0, 10, 16, 0] a3 l3 c3 rfl ?_; intro w4 p4 on4; replace HT := hide (HT.out.kept (new_below _ on4)); replace p4 := hide p4; clear on4))
  clear HU HD
  generalize Array.size (World.heap _) = D at p4 ⊢
  have q4 := show w4.cell? ⟨D, 4, none⟩ = some (.int .i64 10) from p4.out.c4
  have HHd := hide (fun W h => heard_any B1 [104, 105] 10 true false W h)
  go_upto_region 8 with (go_at_call 8; refine (HHd.out _ HT.out.1).mono ?_; rintro e w5 ⟨rfl, rfl⟩)
  have HB := hide HT.out.2.2
  clear HT p4 q4 HHd
  by_cases hl : 100 < len
  · have HN := hide (fun W => new_bad a len cap W hl (by unfold maxLen; omega))
    unfold err at HN
    go_wp2_with (go_at_call 5; refine (HN.out _).mono ?_; rintro e w6 ⟨rfl, rfl⟩)
    go_ret
    exact ⟨rfl, HB.out⟩
  · have HN := hide (fun W (h : Below w.heap.size w W) => new_ok a len cap hd W (by omega) (HR.out W h))
    go_upto_region 9 with (go_at_call 5; refine (HN.out _ HB.out).mono ?_; rintro e w6 ⟨B6, rfl, st6, hB6, hb6⟩; have HT := hide (show TV w B6 hd 0 false false w6 from ⟨st6, Nat.le_trans HB.out.size hB6, bt HB.out hb6⟩); clear st6 hB6 hb6 HB)
    by_cases h0 : isn < 0
    · go_wp2
      go_ret
      exact ⟨rfl, HT.out.2.2⟩
    · by_cases h1 : 4294967296 ≤ isn
      · go_wp2
        go_ret
        exact ⟨rfl, HT.out.2.2⟩
      · have HU := hide (fun B W (h : ST 40 B hd 0 false false W) => up_is (a := none) (len := 0) (cap := 0) h (by decide) (row_no W) (syn_up hd isn (by omega) (by omega)))
        have hS := md_in (isn + 1)
        have HM := hide (show (isn + 1) % 4294967296 = md (isn + 1) from rfl)
        generalize md (isn + 1) = S at HU hS HM
        generalize md (isn - hd.length) = M at HU
        go_upto_region 15 with (first
          | (go_at_call 6; refine (HU.out _ _ HT.out.1).mono ?_; rintro e w7 ⟨a7, l7, c7, rfl, -, st7, u7⟩; replace HT := hide (HT.out.bu u7 st7); clear st7 u7)
          | (refine at_store rfl (.tmp 12) (.tmp 67) rfl rfl (zero_at _) [6, 0, 0, M, 0, 2, 0] a7 l7 c7 rfl ?_; intro w8 p8 on8; replace HT := hide (HT.out.kept (new_below _ on8)); clear on8 p8))
        rw [HM.out]
        generalize w7.heap.size = D7
        clear HU HM h0 h1 HN HR hlen hmx hl
        go_wp2
        go_loopw [15] (fun i wr => ∃ (k : Nat) (h : Bool), k ≤ 40 ∧ i = .int .i64 k ∧ Hid (TV w B6 hd S true h wr)) (fun i _ => 40 - (intOf i).toNat)
        case atStart => exact ⟨0, false, by omega, rfl, HT⟩
        case round =>
          obtain ⟨k, h, hk, rfl, HV⟩ := hrel
          clear HT
          by_cases hlt : k < lb
          · by_cases h40 : k < 40
            · obtain ⟨g, off, rfl, hx⟩ := HS.out (by omega)
              obtain ⟨z, x, l, c, zs, hrg, hrow⟩ := hx k hlt
              have HG := hide (fun W (hb : Below w.heap.size w W) => rng_below hrg hb)
              have HZ := hide (fun W (hb : Below w.heap.size w W) => hrow.below hb)
              have HO8 := hide hrow.2.2.1
              have HC := hide (dn_cases S hS h z zs)
              have HDn := hide (fun (n : Int) (hn : n ≠ 0) (hO : dno S true h z zs = (n, [], [], S, true, h)) W (h1 : ST 40 B6 hd S true h W) (h2 : Row8 W x l c zs) => down_no h1 hS h2 hn hO)
              have HDi := hide (fun z' h' (hO : dno S true h z zs = (0, z', zs, S, true, h')) W (h1 : ST 40 B6 hd S true h W) (h2 : Row8 W x l c zs) => down_is h1 hS h2 hO)
              clear hx hrg hrow
              go_upto_region 18 with fail
              rcases HC.out with ⟨n, hn, hO⟩ | ⟨hO, h5, hf⟩ | ⟨z', h', hO, h3, h5, hf, h4, hmd⟩
              · have HD := hide (HDn.out n hn hO)
                clear HDn HDi HC hn hO
                unfold UE err at HD
                go_wp2_with (first
                  | (refine at_loadr rfl (.tmp 88) rfl rfl (HG.out _ HV.out.2.2) ?_)
                  | (go_at_call 7; refine (HD.out _ HV.out.1 (HZ.out _ HV.out.2.2)).mono ?_; rintro e w10 ⟨a10, l10, c10, rfl, -, st10, u10⟩; have HV2 := hide (HV.out.bu u10 st10); clear st10 u10)
                  | (refine at_store rfl (.tmp 16) (.tmp 91) rfl rfl (zero_at _) [] a10 l10 c10 rfl ?_; intro w11 p11 on11; replace HV2 := hide (HV2.out.kept (new_below _ on11)); clear on11 p11))
                go_roundw
                case rel => exact ⟨k + 1, h, by omega, by go_num, HV2⟩
                case measure => simp [intOf]; omega
              · have HD := hide (HDi.out z h hO)
                clear HDn HDi HC hO
                unfold UK at HD
                go_upto_region 19 with (first
                  | (refine at_loadr rfl (.tmp 88) rfl rfl (HG.out _ HV.out.2.2) ?_)
                  | (go_at_call 7; refine (HD.out _ HV.out.1 (HZ.out _ HV.out.2.2)).mono ?_; rintro e w10 ⟨a10, l10, c10, rfl, -, st10, u10⟩; have HV2 := hide (HV.out.bu u10 st10); clear st10 u10)
                  | (refine at_store rfl (.tmp 16) (.tmp 91) rfl rfl (zero_at _) z a10 l10 c10 rfl ?_; intro w11 p11 on11; replace HV2 := hide (HV2.out.kept (new_below _ on11)); replace p11 := hide p11; clear on11))
                generalize w10.heap.size = D10 at p11 ⊢
                have q5 := p11.out.c5
                go_wp2
                go_roundw
                case rel => exact ⟨k + 1, h, by omega, by go_num, HV2⟩
                case measure => simp [intOf]; omega
              · have HD := hide (HDi.out z' h' hO)
                have H3 := hide h3
                clear HDn HDi HC hO h3
                unfold UK at HD
                go_upto_region 19 with (first
                  | (refine at_loadr rfl (.tmp 88) rfl rfl (HG.out _ HV.out.2.2) ?_)
                  | (go_at_call 7; refine (HD.out _ HV.out.1 (HZ.out _ HV.out.2.2)).mono ?_; rintro e w10 ⟨a10, l10, c10, rfl, r10, st10, u10⟩; have HV2 := hide (HV.out.bu u10 st10); replace r10 := hide r10; clear st10 u10)
                  | (refine at_store rfl (.tmp 16) (.tmp 91) rfl rfl (zero_at _) z' a10 l10 c10 rfl ?_; intro w11 p11 on11; have hb11 := new_below _ on11; replace HV2 := hide (HV2.out.kept hb11); replace r10 := hide (r10.out.below hb11); replace p11 := hide p11; clear on11 hb11))
                generalize w10.heap.size = D10 at p11 ⊢
                have q5 := p11.out.c5
                have q4 := p11.out.c4
                generalize el z' 4 = K at q4 h4 hmd
                go_upto_region 21 with fail
                clear q5 q4 hf h5 HV
                have v1 := fun n => conv8 (r10.out.drewN n)
                have v2 := fun n => conv8 ((HZ.out _ HV2.out.2.2).drewN n)
                have q := str8_eq HO8.out HO8.out true (by simp)
                have q7 := p11.out.c7
                have q3 := p11.out.c3
                rw [H3.out] at q3
                have y7 := rng_sg (HG.out _ HV2.out.2.2) 7 (.slice x l c) rfl
                have y3 := rng_sg (HG.out _ HV2.out.2.2) 3 (.int .i64 (el z 3)) rfl
                have y0 : (el z 3 != el z 3) = false := by simp
                have HV3 := hide (fun n => HV2.out.kept (W' := World.drewN _ n) ⟨rfl, rfl, rfl, Nat.le_refl _, fun _ _ => rfl⟩)
                generalize hm : (S - K + 4294967296) % 4294967296 = m at hmd ⊢
                have hm0 : 0 ≤ m := by omega
                clear hm
                rcases hmd with hmd | hmd
                case' inl =>
                  obtain rfl : m = 0 := by omega
                case' inr =>
                  have d1 : decide (1 ≤ m) = true := decide_eq_true (by omega)
                  have d2 : decide (m < 2147483648) = false := decide_eq_false (by omega)
                all_goals
                  clear hmd hm0
                  go_quiet (fail)
                  generalize hW : World.drewN _ _ = W1
                  have HV4 : Hid (TV w B6 hd S true h' W1) := by rw [← hW]; exact HV3.out _
                  clear hW HV3 v1 v2 q q7 q3 y7 y3 y0
                  go_wp2
                  go_roundw
                  case rel => exact ⟨k + 1, h', by omega, by go_num, HV4⟩
                  case measure => simp [intOf]; omega
            · have j1 : (k : Int) < (lb : Int) := by omega
              have j2 : ¬ (k : Int) < 40 := by omega
              go_wp2
              go_ret
              exact ⟨rfl, HV.out.2.2⟩
          · have j1 : ¬ (k : Int) < (lb : Int) := by omega
            go_wp2
            go_ret
            exact ⟨rfl, HV.out.2.2⟩
end Go.Proofs.Ytbbbcfihnjidaaa
