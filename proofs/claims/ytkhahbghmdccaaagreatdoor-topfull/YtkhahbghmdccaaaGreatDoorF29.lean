/- Make, way by way. Make as it is asked for. -/
import Derived.Test.YtkhahbghmdccaaaGreatDoorF28
import Derived.Deep.MidRow
import Derived.Laws.ResultCell
import Derived.Deep.CutBlock
import Derived.Deep.QuietTactic
import Derived.OwnWalk
import Derived.Deep.RegionHeld3
import Derived.Deep.DrawnRows
import Derived.Laws.StructEq
import Derived.Laws.AppendOwnNone
import Derived.Maps.AppendAt
import Derived.Maps.RangeWalk
import Derived.Test.YtkhahbghmdccaaaGreatDoorProg
import Derived.WalkKit
import Derived.LaidEql
import Derived.Stop.Asserts
import Derived.RowKitTokens
import Derived.BigQuiet
import Derived.Below
import Derived.Laws.MakeOwn
import Derived.Deep.RegionLaw
import Derived.Test.YtkhahbghmdccaaaGreatDoorF24
import Derived.Test.YtkhahbghmdccaaaGreatDoorF26
namespace Go.Proofs.YtkhahbghmdccaaaGreatDoor
open Go.RowKit
def TO (T P BB F N : Nat) : Nat → Prop := fun g => g = T ∨ g = P ∨ g = BB ∨ g = F ∨ g = N
def KM (w : World) (T P BB F N m : Nat) (ow : Nat → List Int) (ts : Nat → Bool) (bs : List (List Int)) (f : List Int) (W : World) : Prop := TC T P BB F N m ow ts bs W ∧ FlIn w.heap.size f W ∧ BdIn (w.heap.size + 1) [] W ∧ Fr (TO T P BB F N) w W ∧ ∀ g, TO T P BB F N g → g < w.heap.size
theorem KM.kept {w : World} {T P BB F N m : Nat} {ow : Nat → List Int} {ts : Nat → Bool} {bs : List (List Int)} {f : List Int} {W W' : World} (h : KM w T P BB F N m ow ts bs f W) (hb : Below W.heap.size W W') : KM w T P BB F N m ow ts bs f W' :=
  ⟨h.1.kept hb, h.2.1.kept hb, h.2.2.1.kept hb, h.2.2.2.1.trans (Fr.of hb), h.2.2.2.2⟩
theorem km_start {w : World} {T P BB F N m : Nat} {ow : Nat → List Int} {ts : Nat → Bool} {bs : List (List Int)} (f : List Int) (h : TC T P BB F N m ow ts bs w) : KM w T P BB F N m ow ts bs f ((w.alloc (.cells (flC f) 73)).alloc (.cells zero23 75)) := by
  have b1 := al_below w (.cells (flC f) 73)
  have b2 := al_below (w.alloc (.cells (flC f) 73)) (.cells zero23 75)
  have hz := bd_zero (w.alloc (.cells (flC f) 73))
  rw [World.size_alloc] at hz
  exact ⟨(h.kept b1).kept b2, (fl_new f w).kept b2, hz, Fr.of (bt b1 b2), fun g hg => h.lt g hg⟩
theorem KM.only {w : World} {T P BB F N m : Nat} {ow : Nat → List Int} {ts : Nat → Bool} {bs : List (List Int)} {f : List Int} {W W' : World} (h : KM w T P BB F N m ow ts bs f W) {D : Nat} (on : Only D W W') (hD : w.heap.size + 1 < D) : KM w T P BB F N m ow ts bs f W' := by
  obtain ⟨k1, k2, k3, k4, k5⟩ := h
  refine ⟨k1.same fun g hg => on.2.2.2.2 g (by have := k5 g hg; omega), (on.2.2.2.2 _ (by omega)).trans k2, (on.2.2.2.2 _ (by omega)).trans k3, ?_, k5⟩
  exact ⟨on.1.trans k4.1, on.2.1.trans k4.2.1, on.2.2.1.trans k4.2.2.1, by rw [on.2.2.2.1]; exact k4.2.2.2.1, fun g hg hn => (on.2.2.2.2 g (by omega)).trans (k4.2.2.2.2 g hg hn)⟩
theorem KM.answer {w : World} {T P BB F N m : Nat} {ow : Nat → List Int} {ts : Nat → Bool} {bs : List (List Int)} {f : List Int} {W W' : World} (h : KM w T P BB F N m ow ts bs f W) (on : Only (w.heap.size + 1) W W') : TC T P BB F N m ow ts bs W' ∧ Fr (TO T P BB F N) w W' := by
  obtain ⟨k1, k2, k3, k4, k5⟩ := h
  refine ⟨k1.same fun g hg => on.2.2.2.2 g (by have := k5 g hg; omega), ?_⟩
  exact ⟨on.1.trans k4.1, on.2.1.trans k4.2.1, on.2.2.1.trans k4.2.2.1, by rw [on.2.2.2.1]; exact k4.2.2.2.1, fun g hg hn => (on.2.2.2.2 g (by omega)).trans (k4.2.2.2.2 g hg hn)⟩
theorem bld_zero (w : World) : (bld #[]).run Tryz.prog w = .ok (.agg (bdC [])) w := by kernel_rfl
attribute [local go_sem ↓] fload_shut bload_shut hload_shut flk_shut bstore_shut fup_shut pup_shut
set_option maxRecDepth 100000 in
set_option maxHeartbeats 2000000 in
theorem bmake_flow (v : Value) (f : List Int) (back far now : Int) (w : World) (hf : okf f = false) :
    Calls Tryz.prog 123 #[v, .agg (flC f), .int .i64 back, .int .i64 far, .int .i64 now] w fun r w' => r = .returned (.tuple #[.agg (bdC []), err 1]) ∧ Below w.heap.size w w' := by
  have HC := hide (fun W => bcheck f W)
  rw [hf, show ev (fe false) = err 1 from rfl] at HC
  unfold err at HC
  have HB := hide (bt (al_below w (.cells (flC f) 73)) (al_below _ (.cells zero23 75)))
  have HF := hide (show FlIn w.heap.size f ((w.alloc (.cells (flC f) 73)).alloc (.cells zero23 75)) from (fl_new f w).kept (al_below _ _))
  have HZ := hide (show BdIn (w.heap.size + 1) [] ((w.alloc (.cells (flC f) 73)).alloc (.cells zero23 75)) by have := bd_zero (w.alloc (.cells (flC f) 73)); rw [World.size_alloc] at this; exact this)
  unfold zero23 at HB HF HZ
  clear hf
  go_enter Tryz.func123, Tryz.ntmps123
  go_upto_region 1 with fail
  generalize (w.alloc _).alloc _ = W at HB HF HZ ⊢
  have g1 := HF.out.fl
  go_wp2_with (first
    | (go_at_call 171; (with_reducible refine (HC.out _).mono ?_); rintro e w1 ⟨rfl, hb1⟩; replace HB := hide (bt HB.out hb1); replace HZ := hide (HZ.out.kept hb1); clear hb1 g1)
    | (refine at_storeb rfl (.tmp 10) (.tmp 23) rfl rfl HZ.out [] rfl ?_; intro w5 p5 on5; have HB5 := hide (on5.below HB.out (Nat.le_succ _)); replace p5 := hide p5; clear on5))
  try simp only [Exit.inBlock, Exit.then]
  refine bodyPost_ret (results_bd rfl _ _ (w.heap.size + 1) [] rfl p5.out) rfl ?_
  exact ⟨rfl, HB5.out⟩
set_option maxRecDepth 100000 in
set_option maxHeartbeats 2000000 in
theorem bmake_range (v : Value) (f : List Int) (back far now : Int) (w : World) (hf : okf f = true) (hr : (fr back && wd far && tc now) = false) :
    Calls Tryz.prog 123 #[v, .agg (flC f), .int .i64 back, .int .i64 far, .int .i64 now] w fun r w' => r = .returned (.tuple #[.agg (bdC []), err 1]) ∧ Below w.heap.size w w' := by
  have HC := hide (fun W => bcheck f W)
  rw [hf, show ev (fe true) = .nilIface from rfl] at HC
  have HB := hide (bt (al_below w (.cells (flC f) 73)) (al_below _ (.cells zero23 75)))
  have HF := hide (show FlIn w.heap.size f ((w.alloc (.cells (flC f) 73)).alloc (.cells zero23 75)) from (fl_new f w).kept (al_below _ _))
  have HZ := hide (show BdIn (w.heap.size + 1) [] ((w.alloc (.cells (flC f) 73)).alloc (.cells zero23 75)) by have := bd_zero (w.alloc (.cells (flC f) 73)); rw [World.size_alloc] at this; exact this)
  have H1 := hide (fun W => bc4_any back W)
  have H2 := hide (fun W => uptoW far W)
  have H3 := hide (fun W => uptoT now W)
  generalize fr back = b1 at H1 hr
  generalize wd far = b2 at H2 hr
  generalize tc now = b3 at H3 hr
  have hc : b1 = false ∨ (b1 = true ∧ b2 = false) ∨ (b1 = true ∧ b2 = true ∧ b3 = false) := by cases b1 <;> cases b2 <;> cases b3 <;> simp_all
  unfold zero23 at HB HF HZ
  clear hf hr
  go_enter Tryz.func123, Tryz.ntmps123
  go_upto_region 1 with fail
  generalize (w.alloc _).alloc _ = W at HB HF HZ ⊢
  have g1 := HF.out.fl
  go_upto_region 4 with (go_at_call 171; (with_reducible refine (HC.out _).mono ?_); rintro e w1 ⟨rfl, hb1⟩; replace HB := hide (bt HB.out hb1); replace HZ := hide (HZ.out.kept hb1); clear hb1 g1)
  rcases hc with rfl | ⟨rfl, rfl⟩ | ⟨rfl, rfl, rfl⟩
  · rw [show ev (fe false) = err 1 from rfl] at H1
    unfold err at H1
    go_wp2_with (first
      | (go_at_call 97; (with_reducible refine (H1.out _).mono ?_); rintro e w' ⟨rfl, rfl⟩)
      | (refine at_storeb rfl (.tmp 10) (.tmp 29) rfl rfl HZ.out [] rfl ?_; intro w5 p5 on5; have HB5 := hide (on5.below HB.out (Nat.le_succ _)); replace p5 := hide p5; clear on5))
    try simp only [Exit.inBlock, Exit.then]
    refine bodyPost_ret (results_bd rfl _ _ (w.heap.size + 1) [] rfl p5.out) rfl ?_
    exact ⟨rfl, HB5.out⟩
  all_goals
    rw [show ev (fe true) = .nilIface from rfl] at H1
    go_wp2_with (first
      | (go_at_call 97; (with_reducible refine (H1.out _).mono ?_); rintro e w' ⟨rfl, rfl⟩)
      | (go_at_call 134; (with_reducible refine (H2.out _).mono ?_); rintro e w2 ⟨rfl, hb2⟩; replace HB := hide (bt HB.out hb2); replace HZ := hide (HZ.out.kept hb2); clear hb2)
      | (go_at_call 134; (with_reducible refine (H3.out _).mono ?_); rintro e w3 ⟨rfl, hb3⟩; replace HB := hide (bt HB.out hb3); replace HZ := hide (HZ.out.kept hb3); clear hb3)
      | (refine at_storeb rfl (.tmp 10) (.tmp 41) rfl rfl HZ.out [] rfl ?_; intro w5 p5 on5; have HB5 := hide (on5.below HB.out (Nat.le_succ _)); replace p5 := hide p5; clear on5))
    try simp only [Exit.inBlock, Exit.then]
    refine bodyPost_ret (results_bd rfl _ _ (w.heap.size + 1) [] rfl p5.out) rfl ?_
    exact ⟨rfl, HB5.out⟩
attribute [local go_sem ↓] bld_shut
set_option maxRecDepth 100000 in
set_option maxHeartbeats 4000000 in
theorem bmake_late (T P BB F N m : Nat) (ow : Nat → List Int) (ts : Nat → Bool) (bs : List (List Int)) (f : List Int) (back far now : Int) (x : List Int) (ok : Bool) (w : World) (h : TC T P BB F N m ow ts bs w) (hf : okf f = true) (hr : (fr back && wd far && tc now) = true)
    (hl : ∀ W, KM w T P BB F N m ow ts bs f W → (flk (.map (some F)) (.agg (flC f)) true).run Tryz.prog W = .ok (.tuple #[.agg (bdC x), .bool ok]) W)
    (n : Int) (fu : Bool) (ow' : Nat → List Int) (ts' : Nat → Bool)
    (htk : ok = false → ∀ W, KM w T P BB F N m ow ts bs f W → Calls Tryz.prog 172 #[.pointer (some ⟨P, 0, none⟩), .agg (sixC (cli f))] W fun e w' => e = .returned (.tuple #[.int .i64 n, if fu = true then .iface 28 (.int .i64 3) else .nilIface]) ∧ KM w T P BB F N m ow' ts' bs f w')
    (hup : ok = false → fu = false → ∀ W, KM w T P BB F N m ow' ts' bs f W → ∃ W1 W2, (fup (.map (some F)) (.agg (flC f)) (.agg (bdC (mkb f n back far now)))).run Tryz.prog W = .ok () W1 ∧ Only F W W1 ∧ (pup (.map (some N)) (.int .i64 n) (.agg (flC f))).run Tryz.prog W1.drew = .ok () W2 ∧ Only N W1.drew W2)
    (Q : World → Prop) (hQ : ok = false → fu = false → ∀ W W1 W2 W3, KM w T P BB F N m ow' ts' bs f W → (fup (.map (some F)) (.agg (flC f)) (.agg (bdC (mkb f n back far now)))).run Tryz.prog W = .ok () W1 → Only F W W1 → (pup (.map (some N)) (.int .i64 n) (.agg (flC f))).run Tryz.prog W1.drew = .ok () W2 → Only N W1.drew W2 → Only (w.heap.size + 1) W2 W3 → Q W3) :
    Calls Tryz.prog 123 #[.pointer (some ⟨T, 0, none⟩), .agg (flC f), .int .i64 back, .int .i64 far, .int .i64 now] w fun r w' =>
      (ok = true ∧ r = .returned (.tuple #[.agg (bdC []), err 8]) ∧ TC T P BB F N m ow ts bs w' ∧ Fr (TO T P BB F N) w w') ∨
      (ok = false ∧ fu = true ∧ r = .returned (.tuple #[.agg (bdC []), err 3]) ∧ TC T P BB F N m ow' ts' bs w' ∧ Fr (TO T P BB F N) w w') ∨
      (ok = false ∧ fu = false ∧ r = .returned (.tuple #[.agg (bdC (mkb f n back far now)), .nilIface]) ∧ Q w') := by
  have HC := hide (fun W => bcheck f W)
  rw [hf, show ev (fe true) = .nilIface from rfl] at HC
  rw [Bool.and_eq_true, Bool.and_eq_true] at hr
  have H1 := hide (fun W => bc4_any back W)
  have H2 := hide (fun W => uptoW far W)
  have H3 := hide (fun W => uptoT now W)
  rw [hr.1.1, show ev (fe true) = .nilIface from rfl] at H1
  rw [hr.1.2] at H2
  rw [hr.2] at H3
  have HK := hide (km_start f h)
  have HL := hide hl
  have HTk := hide htk
  have HUp := hide hup
  have HQ := hide hQ
  unfold zero23 at HK
  clear hf hr h hl htk hup hQ
  go_enter Tryz.func123, Tryz.ntmps123
  go_upto_region 1 with fail
  generalize (w.alloc _).alloc _ = W at HK ⊢
  have g1 := HK.out.2.1.fl
  go_upto_region 9 with (first
    | (go_at_call 171; (with_reducible refine (HC.out _).mono ?_); rintro e w1 ⟨rfl, hb1⟩; replace HK := hide (HK.out.kept hb1); clear hb1 g1)
    | (go_at_call 97; (with_reducible refine (H1.out _).mono ?_); rintro e w' ⟨rfl, rfl⟩)
    | (go_at_call 134; (with_reducible refine (H2.out _).mono ?_); rintro e w2 ⟨rfl, hb2⟩; replace HK := hide (HK.out.kept hb2); clear hb2)
    | (go_at_call 134; (with_reducible refine (H3.out _).mono ?_); rintro e w3 ⟨rfl, hb3⟩; replace HK := hide (HK.out.kept hb3); clear hb3))
  clear HC H1 H2 H3
  rename World => wq
  have HK1 := hide (HK.out.kept (show Below wq.heap.size wq wq.drew from (Below.refl _ _).drew))
  have HK2 := hide (HK.out.kept (show Below wq.heap.size wq (wq.alloc (.cells zero23 75)).drew from (al_below wq _).drew))
  obtain ⟨w5, hst, p5, on5⟩ := (bd_zero' wq).held x
  have HK5 := hide (HK2.out.only on5 (by have := HK.out.2.2.1.lt; omega))
  have HR := hide (show ∀ W', KM w T P BB F N m ow ts bs f W' → W'.cell? ⟨T, 1, none⟩ = some (.map (some F)) ∧ (fload (.pointer (some ⟨w.heap.size, 0, none⟩))).run Tryz.prog W' = .ok (.agg (flC f)) W' ∧ (flk (.map (some F)) (.agg (flC f)) true).run Tryz.prog W' = .ok (.tuple #[.agg (bdC x), .bool ok]) W' from fun W' h1 => ⟨h1.1.1.c1, h1.2.1.fl, HL.out W' h1⟩)
  unfold zero23 at HK2 hst
  clear on5 p5 HL
  obtain ⟨c1, g2, k2⟩ := HR.out _ HK1.out
  go_cut [14, 15] from 14 to 51 (fun u v wx => (∃ D, u = .pointer (some ⟨D, 0, none⟩)) ∧ v = .bool ok ∧ Hid (KM w T P BB F N m ow ts bs f wx))
  case first =>
    go_region_held3 (fun W' => W'.cell? ⟨T, 1, none⟩ = some (.map (some F)) ∧ (fload (.pointer (some ⟨w.heap.size, 0, none⟩))).run Tryz.prog W' = .ok (.agg (flC f)) W' ∧ (flk (.map (some F)) (.agg (flC f)) true).run Tryz.prog W' = .ok (.tuple #[.agg (bdC x), .bool ok]) W')
      (first
        | exact HR.out _ HK1.out
        | exact HR.out _ HK2.out
        | exact HR.out _ HK5.out
        | go_keep)
      (fail)
    all_goals
      go_wp2_with fail
      go_meet
      exact ⟨⟨_, rfl⟩, rfl, HK5⟩
  case rest =>
    clear HK1 HK2 hst HK5 HR c1 g2 k2 HK
    obtain ⟨⟨D0, rfl⟩, rfl, HK⟩ := hcut
    cases ok
    · cases fu
      · have HT := hide (show ∀ W, KM w T P BB F N m ow ts bs f W → Calls Tryz.prog 172 #[.pointer (some ⟨P, 0, none⟩), .agg (sixC (cli f))] W fun e w' => e = .returned (.tuple #[.int .i64 n, .nilIface]) ∧ KM w T P BB F N m ow' ts' bs f w' from fun W hW => HTk.out rfl W hW)
        have HU := hide (HUp.out rfl rfl)
        have HE := hide (HQ.out rfl rfl)
        clear HTk HUp HQ
        go_upto_region 12 with fail
        replace HK := hide (HK.out.kept (show Below wc.heap.size wc wc.drew from (Below.refl _ _).drew))
        have l0 := HK.out.1.1.c0
        have gc := HK.out.2.1.hc
        go_region_held3 (fun w' => w'.cell? ⟨T, 0, none⟩ = some (.pointer (some ⟨P, 0, none⟩)) ∧ (hload (.pointer (some ⟨w.heap.size, 1, none⟩))).run Tryz.prog w' = .ok (.agg (sixC (cli f))) w')
          (first
            | exact ⟨HK.out.1.1.c0, HK.out.2.1.hc⟩
            | exact ⟨HK6.out.1.1.c0, HK6.out.2.1.hc⟩
            | go_keep)
          (first | (go_at_call 172; refine (HT.out _ HK.out).mono ?_; rintro e w6 ⟨rfl, hk6⟩; have HK6 := hide hk6; clear hk6 l0 gc; have l0 := HK6.out.1.1.c0; have gc := HK6.out.2.1.hc))
        clear l0 gc HT HK
        have g6 := HK6.out.2.1.fl
        have hbd := bld_run f n back far now
        have HS := hide (bd_zero w6)
        unfold zero23 at HS
        go_upto_region 16 with (refine at_storeb rfl (.tmp 18) (.tmp 74) rfl rfl HS.out (mkb f n back far now) rfl ?_; intro w7 p7 on7; have HP7 := hide p7; have HK7 := hide ((HK6.out.kept (al_below w6 _)).only on7 (by have := HK6.out.2.2.1.lt; omega)); clear p7 on7)
        have HD := hide (show w.heap.size + 1 < w6.heap.size from HK6.out.2.2.1.lt)
        generalize w6.heap.size = D at HP7 HD ⊢
        clear g6 hbd HS HK6
        go_frame
        have HK1 := hide (HK7.out.kept (show Below w7.heap.size w7 w7.drew from (Below.refl _ _).drew))
        have HP1 := hide (show BdIn D (mkb f n back far now) w7.drew from HP7.out)
        obtain ⟨W1, W2, hu1, on1, hu2, on2⟩ := HU.out _ HK1.out
        have HG := hide (show T ≠ F ∧ T ≠ N ∧ F < w.heap.size ∧ N < w.heap.size from ⟨HK1.out.1.ne.1.2.2.1, HK1.out.1.ne.1.2.2.2, HK1.out.2.2.2.2 F (.inr (.inr (.inr (.inl rfl)))), HK1.out.2.2.2.2 N (.inr (.inr (.inr (.inr rfl))))⟩)
        have HA1 := hide (show TBl T P F N W1.drew ∧ FlIn w.heap.size f W1.drew ∧ BdIn (w.heap.size + 1) [] W1.drew ∧ BdIn D (mkb f n back far now) W1.drew by
          obtain ⟨e1, e2, e3, e4⟩ := HG.out
          have := HD.out
          exact ⟨(on1.2.2.2.2 T e1).trans HK1.out.1.1, (on1.2.2.2.2 _ (by omega)).trans HK1.out.2.1, (on1.2.2.2.2 _ (by omega)).trans HK1.out.2.2.1, (on1.2.2.2.2 _ (by omega)).trans HP1.out⟩)
        have HA2 := hide (show TBl T P F N W2 ∧ FlIn w.heap.size f W2 ∧ BdIn (w.heap.size + 1) [] W2 ∧ BdIn D (mkb f n back far now) W2 by
          obtain ⟨e1, e2, e3, e4⟩ := HG.out
          have := HD.out
          exact ⟨(on2.2.2.2.2 T e2).trans HA1.out.1, (on2.2.2.2.2 _ (by omega)).trans HA1.out.2.1, (on2.2.2.2.2 _ (by omega)).trans HA1.out.2.2.1, (on2.2.2.2.2 _ (by omega)).trans HA1.out.2.2.2⟩)
        have HE2 := hide (fun W3 (on3 : Only (w.heap.size + 1) W2 W3) => HE.out _ _ _ W3 HK1.out hu1 on1 hu2 on2 on3)
        have HR := hide (show ∀ W', TBl T P F N W' ∧ FlIn w.heap.size f W' ∧ BdIn (w.heap.size + 1) [] W' ∧ BdIn D (mkb f n back far now) W' → W'.cell? ⟨T, 1, none⟩ = some (.map (some F)) ∧ W'.cell? ⟨T, 2, none⟩ = some (.map (some N)) ∧ (fload (.pointer (some ⟨w.heap.size, 0, none⟩))).run Tryz.prog W' = .ok (.agg (flC f)) W' ∧ (bload (.pointer (some ⟨D, 0, none⟩))).run Tryz.prog W' = .ok (.agg (bdC (mkb f n back far now))) W' from fun W' h1 => ⟨h1.1.c1, h1.1.c2, h1.2.1.fl, h1.2.2.2.bl⟩)
        have HA0 := hide (HR.out _ ⟨HK1.out.1.1, HK1.out.2.1, HK1.out.2.2.1, HP1.out⟩)
        have HA0' := hide (show W1.cell? ⟨T, 1, none⟩ = some (.map (some F)) ∧ W1.cell? ⟨T, 2, none⟩ = some (.map (some N)) ∧ (fload (.pointer (some ⟨w.heap.size, 0, none⟩))).run Tryz.prog W1 = .ok (.agg (flC f)) W1 ∧ (bload (.pointer (some ⟨D, 0, none⟩))).run Tryz.prog W1 = .ok (.agg (bdC (mkb f n back far now))) W1 from HR.out _ HA1.out)
        obtain ⟨c1, c2, g1, g2⟩ := HA0.out
        clear HE HU HK7 HP7 on1 on2 HG HK1 HP1
        go_region_held3 (fun W' => W'.cell? ⟨T, 1, none⟩ = some (.map (some F)) ∧ W'.cell? ⟨T, 2, none⟩ = some (.map (some N)) ∧ (fload (.pointer (some ⟨w.heap.size, 0, none⟩))).run Tryz.prog W' = .ok (.agg (flC f)) W' ∧ (bload (.pointer (some ⟨D, 0, none⟩))).run Tryz.prog W' = .ok (.agg (bdC (mkb f n back far now))) W')
          (first
            | exact HA0.out
            | exact HA0'.out
            | go_keep)
          (fail)
        all_goals
          go_upto_region 17 with fail
          clear c1 c2 g1 g2 HA0 HA0' hu1
          have HB1 := hide (HR.out _ HA1.out)
          have HB2 := hide (HR.out _ HA2.out)
          obtain ⟨c1, c2, g1, g2⟩ := HB1.out
          go_region_held3 (fun W' => W'.cell? ⟨T, 1, none⟩ = some (.map (some F)) ∧ W'.cell? ⟨T, 2, none⟩ = some (.map (some N)) ∧ (fload (.pointer (some ⟨w.heap.size, 0, none⟩))).run Tryz.prog W' = .ok (.agg (flC f)) W' ∧ (bload (.pointer (some ⟨D, 0, none⟩))).run Tryz.prog W' = .ok (.agg (bdC (mkb f n back far now))) W')
            (first
              | exact HB1.out
              | exact HB2.out
              | go_keep)
            (fail)
          all_goals
            clear c1 c2 g1 g2 HB1 hu2
            obtain ⟨-, -, -, g2⟩ := HB2.out
            go_wp2_with (refine at_storeb rfl (.tmp 10) (.tmp 87) rfl rfl HA2.out.2.2.1 (mkb f n back far now) rfl ?_; intro w8 p8 on8; have HE8 := hide (HE2.out w8 on8); replace p8 := hide p8; clear on8)
            try simp only [Exit.inBlock, Exit.then]
            refine bodyPost_ret (results_bd rfl _ _ (w.heap.size + 1) (mkb f n back far now) rfl p8.out) rfl ?_
            exact ⟨rfl, HE8.out⟩
      · have HT := hide (show ∀ W, KM w T P BB F N m ow ts bs f W → Calls Tryz.prog 172 #[.pointer (some ⟨P, 0, none⟩), .agg (sixC (cli f))] W fun e w' => e = .returned (.tuple #[.int .i64 n, .iface 28 (.int .i64 3)]) ∧ KM w T P BB F N m ow' ts' bs f w' from fun W hW => HTk.out rfl W hW)
        clear HTk HUp HQ
        go_upto_region 12 with fail
        replace HK := hide (HK.out.kept (show Below wc.heap.size wc wc.drew from (Below.refl _ _).drew))
        have l0 := HK.out.1.1.c0
        have gc := HK.out.2.1.hc
        go_region_held3 (fun w' => w'.cell? ⟨T, 0, none⟩ = some (.pointer (some ⟨P, 0, none⟩)) ∧ (hload (.pointer (some ⟨w.heap.size, 1, none⟩))).run Tryz.prog w' = .ok (.agg (sixC (cli f))) w')
          (first
            | exact ⟨HK.out.1.1.c0, HK.out.2.1.hc⟩
            | exact ⟨HK6.out.1.1.c0, HK6.out.2.1.hc⟩
            | go_keep)
          (first | (go_at_call 172; refine (HT.out _ HK.out).mono ?_; rintro e w6 ⟨rfl, hk6⟩; have HK6 := hide hk6; clear hk6 l0 gc; have l0 := HK6.out.1.1.c0; have gc := HK6.out.2.1.hc))
        clear l0 gc HT HK
        have hb0 := bld_zero
        go_wp2_with (refine at_storeb rfl (.tmp 10) (.tmp 67) rfl rfl HK6.out.2.2.1 [] rfl ?_; intro w8 p8 on8; have HK8 := hide (HK6.out.answer on8); replace p8 := hide p8; clear on8)
        try simp only [Exit.inBlock, Exit.then]
        refine bodyPost_ret (results_bd rfl _ _ (w.heap.size + 1) [] rfl p8.out) rfl ?_
        exact ⟨rfl, HK8.out.1, HK8.out.2⟩
    · clear HTk HUp HQ
      have hb0 := bld_zero
      go_wp2_with (refine at_storeb rfl (.tmp 10) (.tmp 53) rfl rfl HK.out.2.2.1 [] rfl ?_; intro w8 p8 on8; have HK8 := hide (HK.out.answer on8); replace p8 := hide p8; clear on8)
      try simp only [Exit.inBlock, Exit.then]
      refine bodyPost_ret (results_bd rfl _ _ (w.heap.size + 1) [] rfl p8.out) rfl ?_
      exact ⟨rfl, HK8.out.1, HK8.out.2⟩
end Go.Proofs.YtkhahbghmdccaaaGreatDoor

namespace Go.Proofs.YtkhahbghmdccaaaGreatDoor
open Go.RowKit
theorem ins_perm (x : List Int) (bs : List (List Int)) : (ins x bs).Perm (x :: bs) := by
  obtain ⟨p, _, h, _⟩ := ins_form x bs
  rw [h, List.singleton_append]
  refine List.perm_middle.trans ?_
  rw [List.take_append_drop]
theorem KM.took {w : World} {T P BB F N m : Nat} {ow ow' : Nat → List Int} {ts ts' : Nat → Bool} {bs : List (List Int)} {f : List Int} {W W' : World} (h : KM w T P BB F N m ow ts bs f W) (hp : BP P BB m ow' ts' W') (hf : Fr (fun g => g = BB) W W') : KM w T P BB F N m ow' ts' bs f W' := by
  obtain ⟨k1, k2, k3, k4, k5⟩ := h
  have n := k1.ne
  have hs := k4.2.2.2.1
  have hBB := k5 BB (.inr (.inr (.inl rfl)))
  have hk : ∀ g, g < W.heap.size → g ≠ BB → W'.heap[g]? = W.heap[g]? := fun g h1 h2 => hf.2.2.2.2 g h1 h2
  exact ⟨⟨(hk T k1.1.lt n.1.2.1).trans k1.1, hp, k1.2.2.1.same (hk F k1.2.2.1.lt (fun e => n.2.2.1 e.symm)), k1.2.2.2.1.same (hk N k1.2.2.2.1.lt (fun e => n.2.2.2.1 e.symm)), k1.2.2.2.2⟩, (hk _ k2.lt (by omega)).trans k2, (hk _ k3.lt (by omega)).trans k3, k4.trans (hf.mono (fun _ e => .inr (.inr (.inl e)))), k5⟩
theorem MP.fnew {F : Nat} {bs : List (List Int)} {w : World} (h : MP isF F (bs.map fE) w) {f : List Int} (hk : fnd bs f = none) (n back far now : Int) :
    ∃ w', (fup (.map (some F)) (.agg (flC f)) (.agg (bdC (mkb f n back far now)))).run Tryz.prog w = .ok () w' ∧ MP isF F ((ins (mkb f n back far now) bs).map fE) w' ∧ Only F w w' := by
  obtain ⟨w', h1, h2, h3⟩ := h.store_new kof Tryz.mapF (.agg (bdC (mkb f n back far now))) ⟨f, rfl⟩ (fndN hk)
  exact ⟨w', h1, h2.perm ((ins_perm (mkb f n back far now) bs).map fE).symm, h3⟩
theorem MP.pnew {N : Nat} {bs : List (List Int)} {w : World} (h : MP isI N (bs.map pE) w) {f : List Int} {n : Int} (hk : ∀ q ∈ bs.map pE, q.1 ≠ .int .i64 n) (back far now : Int) :
    ∃ w', (pup (.map (some N)) (.int .i64 n) (.agg (flC f))).run Tryz.prog w = .ok () w' ∧ MP isI N ((ins (mkb f n back far now) bs).map pE) w' ∧ Only N w w' := by
  obtain ⟨w', h1, h2, h3⟩ := h.store_new koi Tryz.mapI (.agg (flC f)) ⟨n, rfl⟩ hk
  exact ⟨w', h1, h2.perm ((ins_perm (mkb f n back far now) bs).map pE).symm, h3⟩
theorem BI.unused {m : Nat} {ws : Nat → List Int} {ts : Nat → Bool} {bs : List (List Int)} (h : BI m ws ts bs) {i : Nat} (ht : ts i = false) : ∀ q ∈ bs.map pE, q.1 ≠ .int .i64 (1024 + (i : Int)) := by
  intro q hq e
  obtain ⟨b, hb, rfl⟩ := List.mem_map.1 hq
  obtain ⟨_, ⟨j, _, h2, h3, _⟩, _⟩ := h.1 b hb
  unfold pE at e
  injection e with _ e
  have : j = i := by omega
  subst this
  rw [ht] at h3
  cases h3
set_option maxRecDepth 100000 in
theorem tb_make : JMake TB := by
  rintro v m ws ts bs O w f back far now x e ws' ts' bs' hm hl hb hT hk
  have hT0 := hT
  obtain ⟨T, P, BB, F, N, ow, rfl, h, ha, rfl⟩ := hT
  have hlk : ∀ W, KM w T P BB F N m ow ts bs f W → MP isF F (bs.map fE) W := fun W hW => hW.1.2.2.1
  rcases hk with ⟨k1, rfl, rfl, rfl, rfl, rfl⟩ | ⟨k1, k2, rfl, rfl, rfl, rfl, rfl⟩ | ⟨k1, k2, ⟨k, k3⟩, rfl, rfl, rfl, rfl, rfl⟩ | ⟨k1, k2, k3, k4, rfl, rfl, rfl, rfl, rfl⟩ | ⟨k1, k2, k3, i, k4, rfl, rfl, rfl, rfl, rfl⟩
  · exact (bmake_flow _ f back far now w k1).mono fun _ _ ⟨e1, e2⟩ => ⟨e1, TQ.of tb_kept hT0 e2⟩
  · exact (bmake_range _ f back far now w k1 k2).mono fun _ _ ⟨e1, e2⟩ => ⟨e1, TQ.of tb_kept hT0 e2⟩
  · refine (bmake_late T P BB F N m ow ts' bs' f back far now (bs'.getD k []) true w h k1 k2 (fun W hW => ((hlk W hW).fyes k3).1) 0 true ow ts' (fun e => by cases e) (fun e => by cases e) (fun _ => True) (fun e => by cases e)).mono ?_
    rintro r w' (⟨_, rfl, h1, h2⟩ | ⟨e, _⟩ | ⟨e, _⟩)
    · exact ⟨rfl, _, ⟨T, P, BB, F, N, ow, rfl, h1, ha, rfl⟩, h2, fun _ e => .inl e⟩
    · cases e
    · cases e
  · rcases tk_rm ha (cli f) with ⟨_, hr⟩ | ⟨_, _, _, _, _, _, _, hr⟩
    · refine (bmake_late T P BB F N m ow ts' bs' f back far now [] false w h k1 k2 (fun W hW => (hlk W hW).fno k3) 0 true ow ts' (fun _ W hW => (ptake_full P BB m ow ts' (cli f) W hW.1.2.1 hm (okf_cli k1) hr).mono fun _ _ ⟨e1, e2⟩ => ⟨e1, hW.kept e2⟩) (fun _ e => by cases e) (fun _ => True) (fun _ e => by cases e)).mono ?_
      rintro r w' (⟨e, _⟩ | ⟨_, _, rfl, h1, h2⟩ | ⟨_, e, _⟩)
      · cases e
      · exact ⟨rfl, _, ⟨T, P, BB, F, N, ow, rfl, h1, ha, rfl⟩, h2, fun _ e => .inl e⟩
      · cases e
    · rw [k4] at hr; cases hr
  · rcases tk_rm ha (cli f) with ⟨hr, _⟩ | ⟨k, j, hkm, hj, hmn, hr, hx, hr2⟩
    · rw [k4] at hr; cases hr
    · rw [k4] at hr2
      obtain rfl : i = 8 * k + j := Option.some.inj hr2
      have hfree := hb.unused (tk_free k4)
      refine (bmake_late T P BB F N m ow ts bs f back far now [] false w h k1 k2 (fun W hW => (hlk W hW).fno k3) (1024 + ((8 * k + j : Nat) : Int)) false (upd ow k (cli f)) (upd ts (8 * k + j) true) (fun _ W hW => (ptake_ok P BB m ow ts (cli f) k j W hW.1.2.1 hm (okf_cli k1) hr hkm hx hj).mono fun _ _ ⟨e1, e2, e3⟩ => ⟨e1, hW.took e2 e3⟩)
        (fun _ _ W hW => by
          obtain ⟨W1, a1, a2, a3⟩ := hW.1.2.2.1.fnew k3 (1024 + ((8 * k + j : Nat) : Int)) back far now
          have hN : MP isI N (bs.map pE) W1.drew := hW.1.2.2.2.1.same (a3.2.2.2.2 N (fun e => hW.1.2.2.2.2 e.symm))
          obtain ⟨W2, b1, b2, b3⟩ := hN.pnew (f := f) hfree back far now
          exact ⟨W1, W2, a1, a3, b1, b3⟩)
        (fun W' => TQ TB (.pointer (some ⟨T, 0, none⟩)) m (upd ws (8 * k + j) (cli f)) (upd ts (8 * k + j) true) (ins (mkb f (1024 + ((8 * k + j : Nat) : Int)) back far now) bs) (fun g => g = T ∨ g = P ∨ g = BB ∨ g = F ∨ g = N) w W')
        (fun _ _ W W1 W2 W3 hW r1 o1 r2 o2 o3 => by
          obtain ⟨W1', a1, a2, a3⟩ := hW.1.2.2.1.fnew k3 (1024 + ((8 * k + j : Nat) : Int)) back far now
          have e1 : W1 = W1' := by rw [a1] at r1; injection r1 with _ r1; exact r1.symm
          subst e1
          have hN : MP isI N (bs.map pE) W1.drew := hW.1.2.2.2.1.same (a3.2.2.2.2 N (fun e => hW.1.2.2.2.2 e.symm))
          obtain ⟨W2', b1, b2, b3⟩ := hN.pnew (f := f) hfree back far now
          have e2 : W2 = W2' := by rw [b1] at r2; injection r2 with _ r2; exact r2.symm
          subst e2
          have n := hW.1.ne
          have l5 := hW.2.2.2.2
          have z : ∀ g, TO T P BB F N g → W3.heap[g]? = W2.heap[g]? := fun g hg => o3.2.2.2.2 g (by have := l5 g hg; omega)
          have z2 : ∀ g, g ≠ F → g ≠ N → W2.heap[g]? = W.heap[g]? := fun g h1 h2 => (o2.2.2.2.2 g h2).trans (o1.2.2.2.2 g h1)
          refine ⟨_, ⟨T, P, BB, F, N, _, rfl, ⟨?_, ⟨?_, ?_⟩, ?_, ?_, n.2.2.2.2⟩, ha.take (cli f) k j hj hmn, rfl⟩, ?_, fun _ e => .inl e⟩
          · exact ((z T (.inl rfl)).trans (z2 T n.1.2.2.1 n.1.2.2.2)).trans hW.1.1
          · exact ((z P (.inr (.inl rfl))).trans (z2 P n.2.1.2.1 n.2.1.2.2)).trans hW.1.2.1.1
          · exact hW.1.2.1.2.same ((z BB (.inr (.inr (.inl rfl)))).trans (z2 BB n.2.2.1 n.2.2.2.1))
          · exact (a2.same (o2.2.2.2.2 F n.2.2.2.2)).same (z F (.inr (.inr (.inr (.inl rfl)))))
          · exact b2.same (z N (.inr (.inr (.inr (.inr rfl)))))
          · have f1 : Fr (TO T P BB F N) W W1 := o1.fr (.inr (.inr (.inr (.inl rfl))))
            have f2 : Fr (TO T P BB F N) W1 W2 := Only.fr (w := W1.drew) o2 (.inr (.inr (.inr (.inr rfl))))
            have f12 := (hW.2.2.2.1.trans f1).trans f2
            exact ⟨o3.1.trans f12.1, o3.2.1.trans f12.2.1, o3.2.2.1.trans f12.2.2.1, by rw [o3.2.2.2.1]; exact f12.2.2.2.1, fun g hg hn => (o3.2.2.2.2 g (by omega)).trans (f12.2.2.2.2 g hg hn)⟩)).mono ?_
      rintro r w' (⟨e, _⟩ | ⟨_, e, _⟩ | ⟨_, _, rfl, h1⟩)
      · cases e
      · cases e
      · exact ⟨rfl, h1⟩
end Go.Proofs.YtkhahbghmdccaaaGreatDoor
