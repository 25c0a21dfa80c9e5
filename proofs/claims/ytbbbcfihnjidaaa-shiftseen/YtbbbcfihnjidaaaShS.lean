/- The walk of the statement ShiftSeen: whatever the head, the number that it begins with, the data, which parts of it are sent and what is heard between, the Go text returns true and writes nothing that was there. -/
import Derived.Test.YtbbbcfihnjidaaaShM
namespace Go.Proofs.Ytbbbcfihnjidaaa
open Go.RowKit

theorem row_x (w : World) (m : Nat × Nat) : Row8 (w.alloc (.cells #[.int .u8 120] 5 m)) (some ⟨w.heap.size, 0, none⟩) 1 1 [120] := by
  refine ⟨rfl, by simp [maxLen], ?_, (fun h => by cases h), fun _ => ⟨w.heap.size, 0, rfl, fun i hi => ?_⟩⟩
  · intro k
    match k with
    | 0 => decide
    | k + 1 => simp
  · rw [cell_of_row (w.alloc _) w.heap.size _ _ _ m (heap_alloc_new w _)]
    obtain rfl : i = 0 := by omega
    rfl
theorem Own.room {base : Nat} {w : World} {a : Option Addr} {n c : Nat} {zs : List Int} (h : Own base w (.slice a n c) zs) : n ≤ c ∧ c ≤ maxLen ∧ (a = none → c = 0) := by
  rcases h.2.2 with ⟨e, hn⟩ | ⟨g, cap, cur, e, hb, hg, h1, h2, rest⟩
  · injection e with e1 e2 e3
    subst e1 e2 e3
    exact ⟨Nat.le_refl _, Nat.zero_le _, fun _ => rfl⟩
  · injection e with e1 e2 e3
    subst e1 e3
    exact ⟨by omega, h2, fun e => by cases e⟩
/-- the stream, and all that the server is to see. -/
def SV (w : World) (B : Nat) (hd : List Int) (s : Int) (h : Bool) (x : Option Addr) (l c : Nat) (L : List Int) (W : World) : Prop := TV w B hd s true h W ∧ Row8 W x l c L
theorem SV.kept {w : World} {B : Nat} {hd : List Int} {s : Int} {h : Bool} {x : Option Addr} {l c : Nat} {L : List Int} {W W' : World} (t : SV w B hd s h x l c L W) (hb : Below W.heap.size W W') : SV w B hd s h x l c L W' := ⟨t.1.kept hb, t.2.below hb⟩
theorem SV.bu {w : World} {B : Nat} {hd : List Int} {s : Int} {h : Bool} {x : Option Addr} {l c : Nat} {L : List Int} {W W' : World} (t : SV w B hd s h x l c L W) (u : Bu B W W') {h' : Bool} (p : ST 40 B hd s true h' W') : SV w B hd s h' x l c L W' := ⟨t.1.bu u p, t.1.1.row u t.2⟩
theorem ST.ne {T : TypeId} {B : Nat} {hd : List Int} {s : Int} {b h : Bool} {w : World} (p : ST T B hd s b h w) {D : Nat} {z : List Int} {x : Option Addr} {l k : Nat} (q : SgIn D z x l k w) : B ≠ D := by
  rintro rfl
  obtain ⟨_, _, _, p, _⟩ := p
  unfold StB stC at p
  unfold SgIn sgC at q
  rw [p] at q
  injection q with q
  injection q with q
  injection q with q
  injection q with q
  cases q
theorem SV.only {w : World} {B : Nat} {hd : List Int} {s : Int} {h : Bool} {x : Option Addr} {l c : Nat} {L : List Int} {W W' : World} (t : SV w B hd s h x l c L W) {D : Nat} {z : List Int} {y : Option Addr} {n k : Nat} (q : SgIn D z y n k W) (on : Only D W W') (hD : w.heap.size ≤ D) : SV w B hd s h x l c L W' := ⟨⟨t.1.1.only q on (t.1.1.ne q), t.1.2.1, on.below t.1.2.2 hD⟩, t.2.past q on⟩
attribute [local go_sem ↓] gload_shut slq_shut
set_option maxRecDepth 100000 in
set_option maxHeartbeats 16000000 in
theorem seen_walk (a : Option Addr) (len cap : Nat) (hd : List Int) (isn : Int) (b : Option Addr) (lb cb : Nat) (ds : List Int) (f : Option Addr) (lf cf : Nat) (o : Option Addr) (lo co : Nat) (k : Option Addr) (lk ck : Nat) (w : World) (hr : Row8 w a len cap hd) (hb : Row8 w b lb cb ds) (hbc : lb ≤ cb) (hcm : cb ≤ maxLen)
    (hf : Ir f lf w) (hlf : lf ≤ maxLen) (ho : Ir o lo w) (hlo : lo ≤ maxLen) (hk : Ir k lk w) (hlk : lk ≤ maxLen) :
    Calls Try.prog 3 #[.slice a len cap, .int .i64 isn, .slice b lb cb, .slice f lf cf, .slice o lo co, .slice k lk ck] w fun e w' => e = .returned (.bool true) ∧ Below w.heap.size w w' := by
  have hmb := hb.2.1
  have hmx := hr.2.1
  unfold maxLen at hlf hlo hlk hmb hmx
  have HR := hide (fun W (h : Below w.heap.size w W) => hr.below h)
  have HRB := hide (fun W (h : Below w.heap.size w W) => hb.below h)
  have HIF := hide hf
  have HIO := hide ho
  have HIK := hide hk
  have HLn := hide hr.1
  have HLb := hide hb.1
  have HPB := hide (fun A N (h : A + N ≤ lb) => part_run b lb cb hbc hcm (fun e => (hb.2.2.2.1 e).2) A N h)
  have HH := hide (new_ok _ 2 2 [104, 105] _ (by omega) (row_hi w (2, 3)))
  have HU := hide (fun B W (h : ST 40 B [104, 105] 0 false false W) => up_is (a := none) (len := 0) (cap := 0) h (by decide) (row_no W) hi_up)
  have HX := hide (fun B W (h : ST 40 B [104, 105] 10 true false W) => up_is (h.kept (al_below W (.cells #[.int .u8 120] 5 (1, 2)))) (by decide) (row_x W (1, 2)) x_up)
  have HB0 := hide (al_below w (.cells #[.int .u8 104, .int .u8 105] 5 (2, 3)))
  have kc := fun (w : World) (C : Array Value) (n c : Nat) => Lib.run_convert_bytes_const (P := Try.prog) w 22 5 C n c Try.underlying22 Try.underlying5
  clear hr hb hf ho hk hbc hcm
  go_enter Try.func3, Try.ntmps3
  go_upto_region 4 with (go_at_call 5; refine HH.out.mono ?_; rintro e w1 ⟨B1, rfl, st1, hB1, hb1⟩; have HT := hide (show TV w B1 [104, 105] 0 false false w1 from ⟨st1, Nat.le_trans HB0.out.size hB1, bt HB0.out hb1⟩); clear st1 hB1 hb1 HB0 HH)
  go_upto_region 5 with (go_at_call 6; refine (HU.out _ _ HT.out.1).mono ?_; rintro e w2 ⟨a2, l2, c2, rfl, -, st2, u2⟩; replace HT := hide (HT.out.bu u2 st2); clear st2 u2)
  go_upto_region 6 with (first
    | (go_at_call 6; refine (HX.out _ _ HT.out.1).mono ?_; rintro e w3 ⟨a3, l3, c3, rfl, r3, st3, u3⟩; replace HT := hide ((HT.out.kept (al_below _ _)).bu u3 st3); replace r3 := hide r3; clear st3 u3)
    | (refine at_store rfl (.tmp 15) (.tmp 47) rfl rfl (zero_at _) [6, 0, 0, 8, 0, 0, 0] a3 l3 c3 rfl ?_; intro w4 p4 on4; replace HT := hide (HT.out.kept (new_below _ on4)); replace r3 := hide (r3.out.below (new_below _ on4)); replace p4 := hide p4; clear on4))
  clear HU HX kc
  generalize Array.size (World.heap _) = D at p4 ⊢
  have q4 := show w4.cell? ⟨D, 3, none⟩ = some (.int .i64 8) from p4.out.c3
  have q7 := p4.out.c7
  have v7 := show (convert 22 9 (.slice a3 l3 c3)).run Try.prog w4 = .ok (.string ⟨#[104, 105, 120]⟩) w4 from conv8 r3.out
  go_upto_region 8 with fail
  have HB := hide HT.out.2.2
  clear HT p4 q4 q7 v7 r3
  by_cases hl : 100 < len
  · have HN := hide (fun W => new_bad a len cap W hl (by unfold maxLen; omega))
    unfold err at HN
    go_wp2_with (go_at_call 5; refine (HN.out _).mono ?_; rintro e w6 ⟨rfl, rfl⟩)
    go_ret
    exact ⟨rfl, HB.out⟩
  have HN := hide (fun W (h : Below w.heap.size w W) => new_ok a len cap hd W (by omega) (HR.out W h))
  go_upto_region 9 with (go_at_call 5; refine (HN.out _ HB.out).mono ?_; rintro e w6 ⟨B6, rfl, st6, hB6, hb6⟩; have HT := hide (show TV w B6 hd 0 false false w6 from ⟨st6, Nat.le_trans HB.out.size hB6, bt HB.out hb6⟩); clear st6 hB6 hb6 HB)
  by_cases h0 : isn < 0
  · go_wp2
    go_ret
    exact ⟨rfl, HT.out.2.2⟩
  by_cases h1 : 4294967296 ≤ isn
  · go_wp2
    go_ret
    exact ⟨rfl, HT.out.2.2⟩
  by_cases hl2 : 150 < lb
  · go_wp2
    go_ret
    exact ⟨rfl, HT.out.2.2⟩
  have HU := hide (fun B W (h : ST 40 B hd 0 false false W) => up_is (a := none) (len := 0) (cap := 0) h (by decide) (row_no W) (syn_up hd isn (by omega) (by omega)))
  rw [HLn.out] at HU
  have HSU := hide (fun h A N (hA : A + N ≤ lb) => seen_up hd ds isn h A N (by omega) (by omega) (by rw [HLn.out]; omega) (by rw [HLb.out]; exact hA) (by rw [HLb.out]; omega))
  rw [HLn.out, HLb.out] at HSU
  have HSD := hide (fun h C (hC : C ≤ len + lb) => seen_dn len isn h C (by omega) (by omega) (by omega) (by omega))
  obtain ⟨F, hF⟩ : ∃ F, F = (md (isn - len) + 1) % 4294967296 := ⟨_, rfl⟩
  have HF := hide hF
  have hF0 : 0 ≤ F ∧ F < 4294967296 := by omega
  rw [← hF] at HSU HSD
  have hS := md_in (isn + 1)
  generalize md (isn + 1) = S at HU hS HSU HSD
  clear hF
  go_upto_region 14 with (first
    | (go_at_call 6; refine (HU.out _ _ HT.out.1).mono ?_; rintro e w7 ⟨a7, l7, c7, rfl, -, st7, u7⟩; replace HT := hide (HT.out.bu u7 st7); clear st7 u7)
    | (refine at_store rfl (.tmp 18) (.tmp 87) rfl rfl (zero_at _) [6, 0, 0, md (isn - len), 0, 2, 0] a7 l7 c7 rfl ?_; intro w8 p8 on8; replace HT := hide (HT.out.kept (new_below _ on8)); replace p8 := hide p8; clear on8))
  generalize w7.heap.size = D7 at p8 ⊢
  have q3 := show w8.cell? ⟨D7, 3, none⟩ = some (.int .i64 (md (isn - len))) from p8.out.c3
  have hmd := md_in (isn - len)
  generalize md (isn - len) = M at HF q3 hmd
  go_upto_region 15 with fail
  rw [← HF.out]
  clear q3 p8 HF HU HN hmd
  have RH := hide (HR.out _ HT.out.2.2)
  have RD := hide (HRB.out _ HT.out.2.2)
  have G0 := hide (Gr.nil w8)
  go_upto_region 17 with (at_builtin; refine gr_app rfl (.tmp 95) (.tmp 96) rfl rfl G0.out rfl RH.out (by simp only [List.length_nil]; omega) ?_; intro v9 w9 g9; replace g9 := hide g9)
  have RD2 := hide (RD.out.below g9.out.2)
  go_upto_region 18 with (at_builtin; refine gr_app rfl (.tmp 98) (.tmp 99) rfl rfl g9.out rfl RD2.out (by rw [List.nil_append, HLn.out]; omega) ?_; intro v10 w10 g10; replace g10 := hide g10)
  rw [List.nil_append] at g10
  obtain ⟨x, l, c, hv, hrx, hrm⟩ : ∃ x l c, v10 = .slice x l c ∧ Row8 w10 x l c (hd ++ ds) ∧ (l ≤ c ∧ c ≤ maxLen ∧ (x = none → c = 0)) := by
    obtain ⟨x, c, e, hr, -⟩ := g10.out.1.row8
    refine ⟨x, _, c, e, hr, ?_⟩
    have := g10.out.1
    rw [e] at this
    exact this.room
  have HV0 := hide (show SV w B6 hd S false x l c (hd ++ ds) w10 from ⟨HT.out.kept g10.out.2, hrx⟩)
  have hll : l = len + lb := by rw [← hrx.1, List.length_append, HLn.out, HLb.out]
  have HPA := hide (fun A N (h : A + N ≤ l) => part_run x l c hrm.1 hrm.2.1 hrm.2.2 A N h)
  have hl3 : l ≤ 250 := by omega
  have HLL := hide hll
  subst hv
  clear g9 g10 G0 RH RD RD2 HT hrx hrm hll HR
  go_wp2
  go_loopw [22] (fun i wr => ∃ (m : Nat) (h : Bool), m ≤ 40 ∧ i = .int .i64 m ∧ Hid (SV w B6 hd S h x l c (hd ++ ds) wr)) (fun i _ => 40 - (intOf i).toNat)
  case atStart => exact ⟨0, false, by omega, rfl, HV0⟩
  case round =>
    obtain ⟨m, h, hm, rfl, HV⟩ := hrel
    clear HV0
    by_cases hlt : m < lf
    case neg =>
      have j1 : ¬ (m : Int) < (lf : Int) := by omega
      go_wp2
      go_ret
      exact ⟨rfl, HV.out.1.2.2⟩
    by_cases h40 : m < 40
    case neg =>
      have j1 : (m : Int) < (lf : Int) := by omega
      have j2 : ¬ (m : Int) < 40 := by omega
      go_wp2
      go_ret
      exact ⟨rfl, HV.out.1.2.2⟩
    obtain ⟨g1, o1, rfl, hx1⟩ := HIF.out (by omega)
    obtain ⟨ax, ha1⟩ := hx1 m hlt
    have ha2 := hide (fun W (hb : Below w.heap.size w W) => (hb.cell (p := ⟨g1, o1 + m, none⟩) (cell_lt ha1)).trans ha1)
    clear hx1 ha1
    have k1 := ha2.out _ HV.out.1.2.2
    have j1 : (m : Int) < (lf : Int) := by omega
    go_upto_if 118 with fail
    clear k1
    go_cut [24] from 101 to 246 (fun u wx => (∃ n : Int, u = .int .i64 n) ∧ Hid (SV w B6 hd S h x l c (hd ++ ds) wx))
    case first =>
      by_cases hlo2 : m < lo
      · obtain ⟨g2, o2, rfl, hx2⟩ := HIO.out (by omega)
        obtain ⟨n, hn⟩ := hx2 m hlo2
        have k2 := (HV.out.1.2.2.cell (p := ⟨g2, o2 + m, none⟩) (cell_lt hn)).trans hn
        have j3 : (m : Int) < (lo : Int) := by omega
        clear hx2 hn
        go_wp2
        go_meet
        exact ⟨⟨n, rfl⟩, HV⟩
      · have j3 : ¬ (m : Int) < (lo : Int) := by omega
        go_wp2
        go_meet
        exact ⟨⟨0, rfl⟩, HV⟩
    case rest =>
      clear HV
      obtain ⟨⟨n, rfl⟩, HV⟩ := hcut
      by_cases c1 : ax < 0
      · go_wp2
        go_roundw
        case rel => exact ⟨m + 1, h, by omega, by go_num, HV⟩
        case measure => simp [intOf]; omega
      by_cases c2 : (lb : Int) < ax
      · go_wp2
        go_roundw
        case rel => exact ⟨m + 1, h, by omega, by go_num, HV⟩
        case measure => simp [intOf]; omega
      by_cases c3 : n < 0
      · go_wp2
        go_roundw
        case rel => exact ⟨m + 1, h, by omega, by go_num, HV⟩
        case measure => simp [intOf]; omega
      by_cases c4 : (lb : Int) - ax < n
      · go_wp2
        go_roundw
        case rel => exact ⟨m + 1, h, by omega, by go_num, HV⟩
        case measure => simp [intOf]; omega
      obtain ⟨A, rfl⟩ := Int.eq_ofNat_of_zero_le (show 0 ≤ ax by omega)
      obtain ⟨N, rfl⟩ := Int.eq_ofNat_of_zero_le (show 0 ≤ n by omega)
      have hAN : A + N ≤ lb := by omega
      obtain ⟨y, hrun, hp1, hp2⟩ := HPB.out A N hAN
      obtain ⟨q, d, At, hO, hq, hAt, hle, hdr, hd3⟩ := HSU.out h A N hAN
      have HRP := hide (fun W (hb : Below w.heap.size w W) => (HRB.out W hb).part A (A + N) (by omega) hAN y (cb - A) (fun b off _ e => hp1 b off (by omega) e) (fun e => ⟨by have := (hp2 e).1; omega, (hp2 e).2⟩))
      rw [Nat.add_sub_cancel_left] at HRP
      have HUp := hide (fun W (h1 : ST 40 B6 hd S true h W) (h2 : Row8 W y N (cb - A) ((ds.drop A).take N)) => up_is h1 (fun _ => rfl) h2 hO)
      have HAt := hide hAt
      have HDr := hide hdr
      have HLe := hide hle
      clear hp1 hp2 hO hAt hdr hle hd3
      unfold UK at HUp
      go_upto_region 29 with (first
        | (go_at_call 6; refine (HUp.out _ HV.out.1.1 (HRP.out _ HV.out.1.2.2)).mono ?_; rintro e w11 ⟨a11, l11, c11, rfl, r11, st11, u11⟩; have HV2 := hide (HV.out.bu u11 st11); have hD11 := hide HV2.out.1.2.2.size; replace r11 := hide r11; clear st11 u11)
        | (refine at_store rfl (.tmp 25) (.tmp 158) rfl rfl (zero_at _) [6, 0, 0, q, 0, 16, 0] a11 l11 c11 rfl ?_; intro w12 p12 on12; have hb12 := new_below _ on12; replace HV2 := hide (HV2.out.kept hb12); replace r11 := hide (r11.out.below hb12); replace p12 := hide p12; clear on12 hb12))
      generalize w11.heap.size = D11 at p12 hD11 ⊢
      have q3 := show w12.cell? ⟨D11, 3, none⟩ = some (.int .i64 q) from p12.out.c3
      go_upto_region 30 with fail
      rw [HAt.out]
      clear q3 HUp HRP hrun HV
      have hl11 : d.length = l11 := r11.out.1
      rw [hl11] at HDr HLe
      have hle : At + l11 ≤ l := by rw [HLL.out]; exact HLe.out
      obtain ⟨y2, hrun2, hp1, hp2⟩ := HPA.out At l11 hle
      have HRA := hide (fun W (hb : Row8 W x l c (hd ++ ds)) => hb.part At (At + l11) (by omega) hle y2 (c - At) (fun b off _ e => hp1 b off (by omega) e) (fun e => ⟨by have := (hp2 e).1; omega, (hp2 e).2⟩))
      rw [Nat.add_sub_cancel_left, HDr.out] at HRA
      have v1 := fun n => conv8 ((HRA.out _ HV2.out.2).drewN n)
      have v2 := fun n => conv8 (r11.out.drewN n)
      have qq := str8_eq r11.out.2.2.1 r11.out.2.2.1 true (by simp)
      have q7 := p12.out.c7
      have d1 : decide ((l : Int) < (At : Int) + (l11 : Int)) = false := decide_eq_false (by omega)
      have d2 : ¬ ((l : Int) < (At : Int) + (l11 : Int)) := by omega
      have d3 : IntKind.i64.wrap ((At : Int) + (l11 : Int)) = (At : Int) + (l11 : Int) := by rw [IntKind.wrap_i64]; omega
      have HV3 := hide (fun n => HV2.out.kept (W' := World.drewN _ n) ⟨rfl, rfl, rfl, Nat.le_refl _, fun _ _ => rfl⟩)
      have P3 := hide (fun n => p12.out.kept (w' := World.drewN _ n) ⟨rfl, rfl, rfl, Nat.le_refl _, fun _ _ => rfl⟩)
      clear hp1 hp2 HAt HDr HLe hl11
      go_quiet (fail)
      generalize hW : World.drewN _ _ = W1
      have HV4 : Hid (SV w B6 hd S h x l c (hd ++ ds) W1) := by rw [← hW]; exact HV3.out _
      have P4 : Hid (SgIn D11 [6, 0, 0, q, 0, 16, 0] a11 l11 c11 W1) := by rw [← hW]; exact P3.out _
      clear hW HV3 P3 v1 v2 qq q7 d1 d2 d3 hrun2 HRA HV2 p12 r11
      go_upto_region 32 with fail
      by_cases hk1 : m < lk
      case neg =>
        have j5 : ¬ (m : Int) < (lk : Int) := by omega
        go_wp2
        go_roundw
        case rel => exact ⟨m + 1, h, by omega, by go_num, HV4⟩
        case measure => simp [intOf]; omega
      obtain ⟨g5, o5, rfl, hx5⟩ := HIK.out (by omega)
      obtain ⟨cx, hc1⟩ := hx5 m hk1
      have hc2 := hide (fun W (hb : Below w.heap.size w W) => (hb.cell (p := ⟨g5, o5 + m, none⟩) (cell_lt hc1)).trans hc1)
      clear hx5 hc1
      have k5 := hc2.out _ HV4.out.1.2.2
      have j5 : (m : Int) < (lk : Int) := by omega
      by_cases c5 : cx < 0
      case pos =>
        go_wp2
        go_roundw
        case rel => exact ⟨m + 1, h, by omega, by go_num, HV4⟩
        case measure => simp [intOf]; omega
      by_cases c6 : (l : Int) < cx
      case pos =>
        go_wp2
        go_roundw
        case rel => exact ⟨m + 1, h, by omega, by go_num, HV4⟩
        case measure => simp [intOf]; omega
      obtain ⟨C, rfl⟩ := Int.eq_ofNat_of_zero_le (show 0 ≤ cx by omega)
      obtain ⟨K, h', hO, hK, hk⟩ := HSD.out h C (by rw [← HLL.out]; omega)
      have HDn := hide (fun W (h1 : ST 40 B6 hd S true h W) => down_is (a := none) (len := 0) (cap := 0) h1 hS (row_no W) hO)
      have Hk := hide hk
      unfold UK at HDn
      clear hO hk HPA HPB HSU HSD HRB HIO
      go_upto_region 34 with (first
        | (go_at_call 7; refine (HDn.out _ HV4.out.1.1).mono ?_; rintro e w13 ⟨a13, l13, c13, rfl, -, st13, u13⟩; have P5 := hide (HV4.out.1.1.sg u13 P4.out); have HV5 := hide (HV4.out.bu u13 st13); clear st13 u13 k5 P4)
        | (refine at_store rfl (.tmp 25) (.tmp 222) rfl rfl P5.out [6, 0, 0, 0, K, 16, 0] a13 l13 c13 rfl ?_; intro w14 p14 on14; replace HV5 := hide (HV5.out.only P5.out on14 hD11.out); replace p14 := hide p14; clear on14 P5))
      have q4 := show w14.cell? ⟨D11, 4, none⟩ = some (.int .i64 K) from p14.out.c4
      have k5 := hc2.out _ HV5.out.1.2.2
      clear HDn HV4
      by_cases hlt2 : (C : Int) < (len : Int)
      · rw [if_pos hlt2] at Hk
        go_upto_region 38 with fail
        rw [Hk.out]
        clear q4 k5
        go_wp2
        go_roundw
        case rel => exact ⟨m + 1, h', by omega, by go_num, HV5⟩
        case measure => simp [intOf]; omega
      · rw [if_neg hlt2] at Hk
        go_upto_region 38 with fail
        rw [Hk.out]
        have e0 : ((C : Int) - (len : Int) != (C : Int) - (len : Int)) = false := by simp
        clear q4 k5
        go_wp2
        go_roundw
        case rel => exact ⟨m + 1, h', by omega, by go_num, HV5⟩
        case measure => simp [intOf]; omega
end Go.Proofs.Ytbbbcfihnjidaaa
