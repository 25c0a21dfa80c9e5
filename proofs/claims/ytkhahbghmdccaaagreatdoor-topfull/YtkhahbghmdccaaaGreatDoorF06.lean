/- Package seg: number and read, by contracts. Package seg: alike, by contracts. -/
import Derived.Test.YtkhahbghmdccaaaGreatDoorF05
import Derived.Below
import Derived.OpenShut
import Derived.Test.YtkhahbghmdccaaaGreatDoorProg
import Derived.WalkKit
import Derived.LaidEql
import Derived.BigQuiet
import Derived.Laws.AppendOwnNone
import Derived.Laws.MakeOwn
import Derived.Deep.RegionLaw
import Derived.Lib.Bytes
import Derived.Deep.MidRow
import Derived.Laws.ResultCell
import Derived.Deep.CutBlock
import Derived.Deep.QuietTactic
import Derived.OwnWalk
import Derived.Deep.RegionHeld3
import Derived.Deep.DrawnRows
namespace Go.Proofs.YtkhahbghmdccaaaGreatDoor
open Go.RowKit
attribute [local go_sem ↓] Go.wp_at_zero Go.wp_at_succ
theorem or8 (a x : Nat) (ha : a < 16777216) (hx : x ≤ 255) : bits .or .i64 ((a * 256 : Nat) : Int) (x : Int) = ((a * 256 + x : Nat) : Int) := by
  have e1 : (BitVec.ofInt 64 ((a * 256 : Nat) : Int)).toNat = a * 256 := by rw [BitVec.toNat_ofInt]; omega
  have e2 : (BitVec.ofInt 64 ((x : Nat) : Int)).toNat = x := by rw [BitVec.toNat_ofInt]; omega
  have key : (BitVec.ofInt 64 ((a * 256 : Nat) : Int) ||| BitVec.ofInt 64 ((x : Nat) : Int)).toNat = a * 256 + x := by
    rw [BitVec.toNat_or, e1, e2]
    have := Nat.shiftLeft_add_eq_or_of_lt (show x < 2 ^ 8 by omega) a
    rw [Nat.shiftLeft_eq] at this
    exact this.symm
  show IntKind.i64.wrap (((BitVec.ofInt 64 ((a * 256 : Nat) : Int) ||| BitVec.ofInt 64 ((x : Nat) : Int)).toNat : Nat) : Int) = _
  rw [key, IntKind.wrap_i64]
  omega
theorem or_lo (a x : Int) (ha : 0 ≤ a) (ha2 : a < 16777216) (hx : 0 ≤ x) (hx2 : x < 256) : bits .or .i64 (a * 256) x = a * 256 + x := by
  obtain ⟨m, rfl⟩ := Int.eq_ofNat_of_zero_le ha
  obtain ⟨k, rfl⟩ := Int.eq_ofNat_of_zero_le hx
  have := or8 m k (by omega) (by omega)
  rw [show ((m * 256 : Nat) : Int) = (m : Int) * 256 by omega, show ((m * 256 + k : Nat) : Int) = (m : Int) * 256 + (k : Int) by omega] at this
  exact this
def num (zs : List Int) : Nat → Int
  | 0 => 0
  | k + 1 => num zs k * 256 + zs.getD k 0
theorem num_bd (zs : List Int) (h : SM.Oct zs) (k : Nat) (hk : k < 4) : 0 ≤ num zs k ∧ num zs k < 16777216 := by
  have h0 := h 0; have h1 := h 1; have h2 := h 2
  rcases (by omega : k = 0 ∨ k = 1 ∨ k = 2 ∨ k = 3) with rfl | rfl | rfl | rfl <;> simp only [num] <;> omega
set_option maxHeartbeats 400000 in
theorem number_any (a : Option Addr) (len cap : Nat) (zs : List Int) (w : World) (hl : len ≤ 4) (hp : 0 < len) (w0 : Row8 w a len cap zs) (r : Int) (hr : num zs len = r) :
    Calls Tryz.prog 212 #[.slice a len cap] w fun e w' => e = .returned (.int .i64 r) ∧ w' = w := by
  obtain ⟨hz, hm, hoct, _, hcs⟩ := w0
  obtain ⟨b, off, rfl, hcell⟩ := hcs hp
  have HR := hide hr
  clear hcs hr
  go_enter Tryz.func212, Tryz.ntmps212
  go_wp2
  go_loop [3, 8] (fun t i => ∃ k : Nat, k ≤ len ∧ t = .int .i64 (num zs k) ∧ i = .int .i64 k) (fun _ i => len - (intOf i).toNat)
  case atStart => exact ⟨0, by omega, rfl, rfl⟩
  case round =>
    obtain ⟨k, hk, rfl, rfl⟩ := hrel
    by_cases hlt : k < len
    · have hb := num_bd zs hoct k (by omega)
      have hck := hcell k hlt
      have hok := hoct k
      clear hcell
      have HS := hide (show num zs (k + 1) = num zs k * 256 + zs.getD k 0 from rfl)
      clear hoct
      generalize zs.getD k 0 = z at hck hok HS
      generalize num zs k = t at hb HS ⊢
      have ho := or_lo t z hb.1 hb.2 hok.1 (by omega)
      go_wp2
      go_round
      case rel => exact ⟨k + 1, by omega, by rw [HS.out], by go_num⟩
      case measure => simp [intOf]; omega
    · obtain rfl : k = len := by omega
      go_wp2
      go_ret
      exact ⟨by rw [HR.out]; rfl, rfl⟩
theorem num_congr (xs ys : List Int) (n : Nat) (h : ∀ j, j < n → xs.getD j 0 = ys.getD j 0) : num xs n = num ys n := by
  induction n with
  | zero => rfl
  | succ n ih => simp only [num]; rw [ih (fun j hj => h j (by omega)), h n (by omega)]
theorem number_at (g off len cap : Nat) (zs : List Int) (w : World) (j n c : Nat) (hr : Row8 w (some ⟨g, off, none⟩) len cap zs) (h1 : j + n ≤ len) (h2 : n ≤ 4) (h3 : 0 < n) :
    Calls Tryz.prog 212 #[.slice (some ⟨g, off + j, none⟩) n c] w fun e w' => e = .returned (.int .i64 (num (zs.drop j) n)) ∧ w' = w := by
  have h := hr.part j (j + n) (by omega) h1 (some ⟨g, off + j, none⟩) c (fun b o _ e => by cases e; rfl) (fun e => by cases e)
  rw [show j + n - j = n by omega] at h
  exact number_any _ n c _ w h2 h3 h _ (num_congr _ _ n fun i hi => P4.getD_take hi)
theorem number_at0 (g off len cap : Nat) (zs : List Int) (w : World) (n c : Nat) (hr : Row8 w (some ⟨g, off, none⟩) len cap zs) (h1 : n ≤ len) (h2 : n ≤ 4) (h3 : 0 < n) :
    Calls Tryz.prog 212 #[.slice (some ⟨g, off, none⟩) n c] w fun e w' => e = .returned (.int .i64 (num zs n)) ∧ w' = w := by
  have := number_at g off len cap zs w 0 n c hr (by omega) h2 h3
  exact this
theorem SgIn.ne {B : Nat} {z : List Int} {a : Option Addr} {len cap : Nat} {w : World} (h : SgIn B z a len cap w) {base : Nat} {v : Value} {zs : List Int} (o : Own base w v zs) : v.ownBlock ≠ some B := by
  intro e
  rcases o.2.2 with ⟨rfl, _⟩ | ⟨g, cap, cur, rfl, _, hg, _⟩
  · cases e
  · have : g = B := by simpa [Value.ownBlock] using e
    subst this
    unfold SgIn at h
    rw [h] at hg
    injection hg with hg
    injection hg with _ hg
    cases hg
theorem Own.only {B base : Nat} {w w' : World} (h : Only B w w') {v : Value} {zs : List Int} (o : Own base w v zs) (hB : v.ownBlock ≠ some B) : Own base w' v zs := by
  refine ⟨o.1, o.2.1, ?_⟩
  rcases o.2.2 with h2 | ⟨g, cap, cur, rfl, hb', hg, rest⟩
  · exact .inl h2
  · exact .inr ⟨g, cap, cur, rfl, hb', by rw [h.2.2.2.2 g (fun e => hB (by rw [e]; rfl))]; exact hg, rest⟩
theorem only_setCell (w : World) (B j : Nat) (cs : Array Value) (t : TypeId) (v : Value) (h : w.heap[B]? = some (.cells cs t (0, 0))) : Only B w (w.setCell ⟨B, j, none⟩ v) := by
  rw [setCell_eq_setRow w B j cs t (0, 0) v h]
  exact only_setRow _ _ _
def Rd (w : World) (B : Nat) (z : List Int) (a : Option Addr) (n c : Nat) (D : List Int) (W : World) : Prop := SgIn B z a n c W ∧ Own w.heap.size W (.slice a n c) D ∧ SgIn w.heap.size [] none 0 0 W ∧ w.heap.size ≠ B ∧ w.heap.size ≤ B ∧ Below w.heap.size w W
theorem Rd.only {w : World} {B : Nat} {z : List Int} {a : Option Addr} {n c : Nat} {D : List Int} {W W' : World} (h : Rd w B z a n c D W) (z' : List Int) (ho : Only B W W') (hs : SgIn B z' a n c W') : Rd w B z' a n c D W' :=
  ⟨hs, h.2.1.only ho (h.1.ne h.2.1), ho.sg h.2.2.1 h.2.2.2.1, h.2.2.2.1, h.2.2.2.2.1, ho.below h.2.2.2.2.2 h.2.2.2.2.1⟩
theorem Rd.set {w : World} {B : Nat} {z : List Int} {a : Option Addr} {n c : Nat} {D : List Int} {W : World} (h : Rd w B z a n c D W) (j : Nat) (x : Int) (z' : List Int) (hz : (sgC z a n c).setIfInBounds j (.int .i64 x) = sgC z' a n c) : Rd w B z' a n c D (W.setCell ⟨B, j, none⟩ (.int .i64 x)) := by
  refine h.only z' (only_setCell _ _ _ _ _ _ h.1) ?_
  have := setCell_heap_same W B j _ _ (.int .i64 x) h.1
  rw [hz] at this
  exact this
theorem SgIn.frz {B : Nat} {z : List Int} {a : Option Addr} {len cap : Nat} {w : World} (p : SgIn B z a len cap w) (j : Nat) : w.frozen? ⟨B, j, none⟩ = false := by
  unfold SgIn at p
  simp [World.frozen?, p]
theorem SgIn.held7 {B : Nat} {z0 : List Int} {a0 : Option Addr} {len0 cap0 : Nat} {w : World} (p : SgIn B z0 a0 len0 cap0 w) (k f t : Int) (a : Option Addr) (len cap : Nat) :
    ∃ w', (gstore (.pointer (some ⟨B, 0, none⟩)) (.agg #[.int .i64 k, .int .i64 f, .int .i64 t, .int .i64 0, .int .i64 0, .int .i64 0, .int .i64 0, .slice a len cap])).run Tryz.prog w = .ok () w' ∧ SgIn B [k, f, t, 0, 0, 0, 0] a len cap w' ∧ Only B w w' := p.held [k, f, t, 0, 0, 0, 0] a len cap
def zero7 : Array Value := #[.int .i64 0, .int .i64 0, .int .i64 0, .int .i64 0, .int .i64 0, .int .i64 0, .int .i64 0, .slice none 0 0]
theorem zero_new (w : World) : SgIn w.heap.size [] none 0 0 (w.alloc (.cells zero7 39)) := sg_new w [] none 0 0
attribute [local go_sem ↓] gstore_shut
set_option maxRecDepth 100000 in
set_option maxHeartbeats 8000000 in
theorem read_tcp (k : Int) (g off len cap : Nat) (zs : List Int) (w : World) (hr : Row8 w (some ⟨g, off, none⟩) len cap zs) (hk : k = 6) (hH : 20 ≤ len) (hM : len ≤ 320) (hcl : len ≤ cap) (hcm : cap ≤ maxLen) :
    Calls Tryz.prog 187 #[.int .i64 k, .slice (some ⟨g, off, none⟩) len cap] w fun e w' => ∃ a' c', e = .returned (.agg (sgC [k, num zs 2, num (zs.drop 2) 2, num (zs.drop 4) 4, num (zs.drop 8) 4, num (zs.drop 13) 1, num (zs.drop 14) 2] a' (len - 20) c')) ∧ Own w.heap.size w' (.slice a' (len - 20) c') (zs.drop 20) ∧ Below w.heap.size w w' := by
  unfold maxLen at hcm
  have hcl' : (len : Int) ≤ (cap : Int) := by omega
  have hH' : (20 : Int) ≤ (len : Int) := by omega
  have hHc : (20 : Int) ≤ (cap : Int) := by omega
  have h2c : (2 : Int) ≤ (cap : Int) := by omega
  have h4c : (4 : Int) ≤ (cap : Int) := by omega
  have hn2 : cap ≠ 2 := by omega
  have hb0 : Below w.heap.size w (w.alloc (.cells zero7 39)).drew := ((Below.refl _ _).alloc (Nat.le_refl _) _).drew
  have HA0 := hide (hr.below hb0)
  have HP0 := hide (show SgIn w.heap.size [] none 0 0 (w.alloc (.cells zero7 39)).drew from zero_new w)
  have hb1 : Below (w.alloc (.cells zero7 39)).drew.heap.size (w.alloc (.cells zero7 39)).drew ((w.alloc (.cells zero7 39)).alloc (.cells zero7 39)).drew := al_below (w.alloc (.cells zero7 39)).drew (.cells zero7 39)
  have HB0 := hide hb0
  have HB1 := hide (bt hb0 hb1)
  have HA1 := hide (HA0.out.below hb1)
  have HP1 := hide (HP0.out.kept hb1)
  have HQ1 := hide (show SgIn (w.heap.size + 1) [] none 0 0 ((w.alloc (.cells zero7 39)).alloc (.cells zero7 39)).drew by
    have := zero_new (w.alloc (.cells zero7 39)).drew
    rw [show (w.alloc (.cells zero7 39)).drew.heap.size = w.heap.size + 1 by simp] at this
    exact this)
  have HN0 := hide (fun n c W (h : Row8 W (some ⟨g, off, none⟩) len cap zs) h1 h2 h3 => number_at0 g off len cap zs W n c h h1 h2 h3)
  have HN := hide (fun j n c W (h : Row8 W (some ⟨g, off, none⟩) len cap zs) h1 h2 h3 => number_at g off len cap zs W j n c h h1 h2 h3)
  have HN2 := hide (fun c W (h : Row8 W (some ⟨g, off, none⟩) len cap zs) => number_at g off len cap zs W 2 2 c h (by omega) (by omega) (by omega))
  have HH := hide (fun W => head_any k W)
  rw [show hn k = 20 by unfold hn; rw [if_pos hk]] at HH
  have had : ∃ ad, (if cap = 20 then some (⟨g, off, none⟩ : Addr) else some ⟨g, off + 20, none⟩) = some ad := by split <;> exact ⟨_, rfl⟩
  have hpart := fun W (h : Row8 W (some ⟨g, off, none⟩) len cap zs) => (h.part 20 len hH (Nat.le_refl _) (if cap = 20 then some ⟨g, off, none⟩ else some ⟨g, off + 20, none⟩) (cap - 20) (fun b o hlt e => by cases e; rw [if_neg (by omega)]) (fun e => by split at e <;> cases e)).congr (show (zs.drop 20).take (len - 20) = zs.drop 20 from List.take_of_length_le (by rw [List.length_drop, hr.1]; exact Nat.le_refl _))
  obtain ⟨ao, hao⟩ : ∃ ao, (if cap = 20 then some (⟨g, off, none⟩ : Addr) else some ⟨g, off + 20, none⟩) = ao := ⟨_, rfl⟩
  rw [hao] at hpart had
  have HPart := hide hpart
  have HAD := hide had
  clear hpart had
  have HL := hide (show ([] ++ zs.drop 20).length = len - 20 by rw [List.nil_append, List.length_drop, hr.1])
  have HLen := hide (show ([] : List Int).length + (len - 20) ≤ 1000000000 by simp; omega)
  have HSZ0 := hide (show w.heap.size ≤ (w.alloc (.cells zero7 39)).drew.heap.size from HB0.out.size)
  have HSZ1 := hide HB1.out.size
  have HR := hide hr
  have ek : (k == 6) = true := by simpa using hk
  clear hr hb0 hb1 hk
  unfold zero7 at HA0 HP0 HB0 HB1 HA1 HP1 HQ1 HSZ0 HSZ1
  go_enter Tryz.func187, Tryz.ntmps187
  go_upto_region 1 with fail
  go_cut [5] from 6 to 18 (fun v5 W => ∃ B a5 c5, v5 = .pointer (some ⟨B, 0, none⟩) ∧ Hid (Rd w B [k, num zs 2, num (zs.drop 2) 2, 0, 0, 0, 0] a5 (len - 20) c5 (zs.drop 20) W))
  case first =>
    go_region_held3 (fun _ => True)
      (trivial)
      (first
        | (go_at_call 212; (with_reducible refine (HN0.out _ _ _ HA0.out (by omega) (by omega) (by omega)).mono ?_); rintro e w' ⟨rfl, rfl⟩)
        | (go_at_call 212; (with_reducible refine (HN0.out _ _ _ HA1.out (by omega) (by omega) (by omega)).mono ?_); rintro e w' ⟨rfl, rfl⟩)
        | (go_at_call 212; (with_reducible refine (HN2.out _ _ HA0.out).mono ?_); rintro e w' ⟨rfl, rfl⟩)
        | (go_at_call 212; (with_reducible refine (HN2.out _ _ HA1.out).mono ?_); rintro e w' ⟨rfl, rfl⟩)
        | (go_at_call 179; refine (HH.out _).mono ?_; rintro e w' ⟨rfl, rfl⟩)
        | (refine step_app rfl (.const (.slice none 0 0)) (.tmp 16) rfl w.heap.size _ [] (by rfl) (Own.nil _ _) _ HAD.out (len - 20) (cap - 20) _ (len - 20) HL.out (by rfl) (HPart.out _ HA0.out) HLen.out HSZ0.out ?_; intro a5 c5 w5 o5 g5; have hB5 := HB0.out.grown g5 HB0.out.size (fun k h => by cases h); have hP5 := HP0.out.grown g5 (by intro e; cases e); have hbw := al_below w5 (.cells #[.int .i64 0, .int .i64 0, .int .i64 0, .int .i64 0, .int .i64 0, .int .i64 0, .int .i64 0, .slice none 0 0] 39); have hq5 := zero_new w5; unfold zero7 at hq5; obtain ⟨w6, hst, p6, on6⟩ := hq5.held7 k (num zs 2) (num (zs.drop 2) 2) a5 (len - 20) c5; have HRd := hide (show Rd w w5.heap.size [k, num zs 2, num (zs.drop 2) 2, 0, 0, 0, 0] a5 (len - 20) c5 (zs.drop 20) w6 from ⟨p6, (o5.kept hbw).only on6 (hq5.ne (o5.kept hbw)), on6.sg (hP5.kept hbw) (Nat.ne_of_lt hP5.lt), Nat.ne_of_lt hP5.lt, Nat.le_of_lt hP5.lt, on6.below (bt hB5 hbw) (Nat.le_of_lt hP5.lt)⟩); clear p6 on6 hq5 hbw hP5 hB5 o5 g5)
        | (refine step_app rfl (.const (.slice none 0 0)) (.tmp 16) rfl w.heap.size _ [] (by rfl) (Own.nil _ _) _ HAD.out (len - 20) (cap - 20) _ (len - 20) HL.out (by rfl) (HPart.out _ HA1.out) HLen.out HSZ1.out ?_; intro a5 c5 w5 o5 g5; have hB5 := HB1.out.grown g5 HB1.out.size (fun k h => by cases h); have hP5 := HP1.out.grown g5 (by intro e; cases e); have hq5 := HQ1.out.grown g5 (by intro e; cases e); obtain ⟨w6, hst, p6, on6⟩ := hq5.held7 k (num zs 2) (num (zs.drop 2) 2) a5 (len - 20) c5; have HRd := hide (show Rd w (w.heap.size + 1) [k, num zs 2, num (zs.drop 2) 2, 0, 0, 0, 0] a5 (len - 20) c5 (zs.drop 20) w6 from ⟨p6, o5.only on6 (hq5.ne o5), on6.sg hP5 (Nat.ne_of_lt (Nat.lt_succ_self _)), Nat.ne_of_lt (Nat.lt_succ_self _), Nat.le_succ _, on6.below hB5 (Nat.le_succ _)⟩); clear p6 on6 hq5 hP5 hB5 o5 g5))
    all_goals
      go_wp2_with fail
      go_meet
      exact ⟨_, _, _, rfl, HRd⟩
  case rest =>
    obtain ⟨B, a5, c5, rfl, HRd⟩ := hcut
    clear HA0 HA1 HP0 HP1 HQ1 HB0 HB1 HSZ0 HSZ1 HAD HPart hao HH
    have j8 : (8 : Int) ≤ (cap : Int) := by omega
    have j12 : (12 : Int) ≤ (cap : Int) := by omega
    have j14 : (14 : Int) ≤ (cap : Int) := by omega
    have j16 : (16 : Int) ≤ (cap : Int) := by omega
    have k4 : cap ≠ 4 := by omega
    have k8 : cap ≠ 8 := by omega
    have k13 : cap ≠ 13 := by omega
    have k14 : cap ≠ 14 := by omega
    go_upto_region 3 with fail
    have x3 := HRd.out.1.cellAt 3
    have y3 := HRd.out.1.frz 3
    replace x3 : _ = some (Value.int .i64 0) := x3
    have HR3 := hide (HR.out.below HRd.out.2.2.2.2.2)
    go_upto_region 4 with (go_at_call 212; refine (HN.out 4 4 _ _ HR3.out (by omega) (by omega) (by omega)).mono ?_; rintro e w' ⟨rfl, rfl⟩)
    replace HRd := hide (HRd.out.set 3 (num (zs.drop 4) 4) [k, num zs 2, num (zs.drop 2) 2, num (zs.drop 4) 4, 0, 0, 0] rfl)
    generalize World.setCell _ _ _ = W3 at HRd ⊢
    clear x3 y3 HR3
    have x4 := HRd.out.1.cellAt 4
    have y4 := HRd.out.1.frz 4
    replace x4 : _ = some (Value.int .i64 0) := x4
    have HR4 := hide (HR.out.below HRd.out.2.2.2.2.2)
    go_upto_region 5 with (go_at_call 212; refine (HN.out 8 4 _ _ HR4.out (by omega) (by omega) (by omega)).mono ?_; rintro e w' ⟨rfl, rfl⟩)
    replace HRd := hide (HRd.out.set 4 (num (zs.drop 8) 4) [k, num zs 2, num (zs.drop 2) 2, num (zs.drop 4) 4, num (zs.drop 8) 4, 0, 0] rfl)
    generalize World.setCell _ _ _ = W4 at HRd ⊢
    clear x4 y4 HR4
    have x5 := HRd.out.1.cellAt 5
    have y5 := HRd.out.1.frz 5
    replace x5 : _ = some (Value.int .i64 0) := x5
    have HR5 := hide (HR.out.below HRd.out.2.2.2.2.2)
    go_upto_region 6 with (go_at_call 212; refine (HN.out 13 1 _ _ HR5.out (by omega) (by omega) (by omega)).mono ?_; rintro e w' ⟨rfl, rfl⟩)
    replace HRd := hide (HRd.out.set 5 (num (zs.drop 13) 1) [k, num zs 2, num (zs.drop 2) 2, num (zs.drop 4) 4, num (zs.drop 8) 4, num (zs.drop 13) 1, 0] rfl)
    generalize World.setCell _ _ _ = W5 at HRd ⊢
    clear x5 y5 HR5
    have x6 := HRd.out.1.cellAt 6
    have y6 := HRd.out.1.frz 6
    replace x6 : _ = some (Value.int .i64 0) := x6
    have HR6 := hide (HR.out.below HRd.out.2.2.2.2.2)
    go_upto_region 7 with (go_at_call 212; refine (HN.out 14 2 _ _ HR6.out (by omega) (by omega) (by omega)).mono ?_; rintro e w' ⟨rfl, rfl⟩)
    replace HRd := hide (HRd.out.set 6 (num (zs.drop 14) 2) [k, num zs 2, num (zs.drop 2) 2, num (zs.drop 4) 4, num (zs.drop 8) 4, num (zs.drop 13) 1, num (zs.drop 14) 2] rfl)
    generalize World.setCell _ _ _ = W6 at HRd ⊢
    clear x6 y6 HR6
    have HB7 := hide (HRd.out.2.2.2.2.2)
    have HD7 := hide (HRd.out.2.1)
    have HZ7 := hide HRd.out.2.2.1
    have HNE := hide (HRd.out.2.2.1.ne HRd.out.2.1)
    go_wp2_with (first
      | (refine at_load rfl (.tmp 5) rfl rfl HRd.out.1 ?_)
      | (refine at_store rfl (.tmp 4) (.tmp 37) rfl rfl HZ7.out [k, num zs 2, num (zs.drop 2) 2, num (zs.drop 4) 4, num (zs.drop 8) 4, num (zs.drop 13) 1, num (zs.drop 14) 2] a5 (len - 20) c5 rfl ?_; intro w7 p7 on7; replace HB7 := hide (on7.below HB7.out (Nat.le_refl _)); replace HD7 := hide (HD7.out.only on7 HNE.out); replace p7 := hide p7; clear on7))
    try simp only [Exit.inBlock, Exit.then]
    refine bodyPost_ret (sg_result rfl _ _ w.heap.size [k, num zs 2, num (zs.drop 2) 2, num (zs.drop 4) 4, num (zs.drop 8) 4, num (zs.drop 13) 1, num (zs.drop 14) 2] a5 (len - 20) c5 rfl p7.out) rfl ?_
    exact ⟨a5, c5, rfl, HD7.out, HB7.out⟩
attribute [local go_sem ↓] gstore_shut
set_option maxRecDepth 100000 in
set_option maxHeartbeats 8000000 in
theorem read_udp (k : Int) (g off len cap : Nat) (zs : List Int) (w : World) (hr : Row8 w (some ⟨g, off, none⟩) len cap zs) (hk : ¬ k = 6) (hH : 8 ≤ len) (hM : len ≤ 320) (hcl : len ≤ cap) (hcm : cap ≤ maxLen) :
    Calls Tryz.prog 187 #[.int .i64 k, .slice (some ⟨g, off, none⟩) len cap] w fun e w' => ∃ a' c', e = .returned (.agg (sgC [k, num zs 2, num (zs.drop 2) 2, 0, 0, 0, 0] a' (len - 8) c')) ∧ Own w.heap.size w' (.slice a' (len - 8) c') (zs.drop 8) ∧ Below w.heap.size w w' := by
  unfold maxLen at hcm
  have hcl' : (len : Int) ≤ (cap : Int) := by omega
  have hH' : (8 : Int) ≤ (len : Int) := by omega
  have hHc : (8 : Int) ≤ (cap : Int) := by omega
  have h2c : (2 : Int) ≤ (cap : Int) := by omega
  have h4c : (4 : Int) ≤ (cap : Int) := by omega
  have hn2 : cap ≠ 2 := by omega
  have hb0 : Below w.heap.size w (w.alloc (.cells zero7 39)).drew := ((Below.refl _ _).alloc (Nat.le_refl _) _).drew
  have HA0 := hide (hr.below hb0)
  have HP0 := hide (show SgIn w.heap.size [] none 0 0 (w.alloc (.cells zero7 39)).drew from zero_new w)
  have hb1 : Below (w.alloc (.cells zero7 39)).drew.heap.size (w.alloc (.cells zero7 39)).drew ((w.alloc (.cells zero7 39)).alloc (.cells zero7 39)).drew := al_below (w.alloc (.cells zero7 39)).drew (.cells zero7 39)
  have HB0 := hide hb0
  have HB1 := hide (bt hb0 hb1)
  have HA1 := hide (HA0.out.below hb1)
  have HP1 := hide (HP0.out.kept hb1)
  have HQ1 := hide (show SgIn (w.heap.size + 1) [] none 0 0 ((w.alloc (.cells zero7 39)).alloc (.cells zero7 39)).drew by
    have := zero_new (w.alloc (.cells zero7 39)).drew
    rw [show (w.alloc (.cells zero7 39)).drew.heap.size = w.heap.size + 1 by simp] at this
    exact this)
  have HN0 := hide (fun n c W (h : Row8 W (some ⟨g, off, none⟩) len cap zs) h1 h2 h3 => number_at0 g off len cap zs W n c h h1 h2 h3)
  have HN := hide (fun j n c W (h : Row8 W (some ⟨g, off, none⟩) len cap zs) h1 h2 h3 => number_at g off len cap zs W j n c h h1 h2 h3)
  have HN2 := hide (fun c W (h : Row8 W (some ⟨g, off, none⟩) len cap zs) => number_at g off len cap zs W 2 2 c h (by omega) (by omega) (by omega))
  have HH := hide (fun W => head_any k W)
  rw [show hn k = 8 by unfold hn; rw [if_neg hk]] at HH
  have had : ∃ ad, (if cap = 8 then some (⟨g, off, none⟩ : Addr) else some ⟨g, off + 8, none⟩) = some ad := by split <;> exact ⟨_, rfl⟩
  have hpart := fun W (h : Row8 W (some ⟨g, off, none⟩) len cap zs) => (h.part 8 len hH (Nat.le_refl _) (if cap = 8 then some ⟨g, off, none⟩ else some ⟨g, off + 8, none⟩) (cap - 8) (fun b o hlt e => by cases e; rw [if_neg (by omega)]) (fun e => by split at e <;> cases e)).congr (show (zs.drop 8).take (len - 8) = zs.drop 8 from List.take_of_length_le (by rw [List.length_drop, hr.1]; exact Nat.le_refl _))
  obtain ⟨ao, hao⟩ : ∃ ao, (if cap = 8 then some (⟨g, off, none⟩ : Addr) else some ⟨g, off + 8, none⟩) = ao := ⟨_, rfl⟩
  rw [hao] at hpart had
  have HPart := hide hpart
  have HAD := hide had
  clear hpart had
  have HL := hide (show ([] ++ zs.drop 8).length = len - 8 by rw [List.nil_append, List.length_drop, hr.1])
  have HLen := hide (show ([] : List Int).length + (len - 8) ≤ 1000000000 by simp; omega)
  have HSZ0 := hide (show w.heap.size ≤ (w.alloc (.cells zero7 39)).drew.heap.size from HB0.out.size)
  have HSZ1 := hide HB1.out.size
  have HR := hide hr
  have ek : (k == 6) = false := by simpa using hk
  clear hr hb0 hb1 hk
  unfold zero7 at HA0 HP0 HB0 HB1 HA1 HP1 HQ1 HSZ0 HSZ1
  go_enter Tryz.func187, Tryz.ntmps187
  go_upto_region 1 with fail
  go_cut [5] from 6 to 18 (fun v5 W => ∃ B a5 c5, v5 = .pointer (some ⟨B, 0, none⟩) ∧ Hid (Rd w B [k, num zs 2, num (zs.drop 2) 2, 0, 0, 0, 0] a5 (len - 8) c5 (zs.drop 8) W))
  case first =>
    go_region_held3 (fun _ => True)
      (trivial)
      (first
        | (go_at_call 212; (with_reducible refine (HN0.out _ _ _ HA0.out (by omega) (by omega) (by omega)).mono ?_); rintro e w' ⟨rfl, rfl⟩)
        | (go_at_call 212; (with_reducible refine (HN0.out _ _ _ HA1.out (by omega) (by omega) (by omega)).mono ?_); rintro e w' ⟨rfl, rfl⟩)
        | (go_at_call 212; (with_reducible refine (HN2.out _ _ HA0.out).mono ?_); rintro e w' ⟨rfl, rfl⟩)
        | (go_at_call 212; (with_reducible refine (HN2.out _ _ HA1.out).mono ?_); rintro e w' ⟨rfl, rfl⟩)
        | (go_at_call 179; refine (HH.out _).mono ?_; rintro e w' ⟨rfl, rfl⟩)
        | (refine step_app rfl (.const (.slice none 0 0)) (.tmp 16) rfl w.heap.size _ [] (by rfl) (Own.nil _ _) _ HAD.out (len - 8) (cap - 8) _ (len - 8) HL.out (by rfl) (HPart.out _ HA0.out) HLen.out HSZ0.out ?_; intro a5 c5 w5 o5 g5; have hB5 := HB0.out.grown g5 HB0.out.size (fun k h => by cases h); have hP5 := HP0.out.grown g5 (by intro e; cases e); have hbw := al_below w5 (.cells #[.int .i64 0, .int .i64 0, .int .i64 0, .int .i64 0, .int .i64 0, .int .i64 0, .int .i64 0, .slice none 0 0] 39); have hq5 := zero_new w5; unfold zero7 at hq5; obtain ⟨w6, hst, p6, on6⟩ := hq5.held7 k (num zs 2) (num (zs.drop 2) 2) a5 (len - 8) c5; have HRd := hide (show Rd w w5.heap.size [k, num zs 2, num (zs.drop 2) 2, 0, 0, 0, 0] a5 (len - 8) c5 (zs.drop 8) w6 from ⟨p6, (o5.kept hbw).only on6 (hq5.ne (o5.kept hbw)), on6.sg (hP5.kept hbw) (Nat.ne_of_lt hP5.lt), Nat.ne_of_lt hP5.lt, Nat.le_of_lt hP5.lt, on6.below (bt hB5 hbw) (Nat.le_of_lt hP5.lt)⟩); clear p6 on6 hq5 hbw hP5 hB5 o5 g5)
        | (refine step_app rfl (.const (.slice none 0 0)) (.tmp 16) rfl w.heap.size _ [] (by rfl) (Own.nil _ _) _ HAD.out (len - 8) (cap - 8) _ (len - 8) HL.out (by rfl) (HPart.out _ HA1.out) HLen.out HSZ1.out ?_; intro a5 c5 w5 o5 g5; have hB5 := HB1.out.grown g5 HB1.out.size (fun k h => by cases h); have hP5 := HP1.out.grown g5 (by intro e; cases e); have hq5 := HQ1.out.grown g5 (by intro e; cases e); obtain ⟨w6, hst, p6, on6⟩ := hq5.held7 k (num zs 2) (num (zs.drop 2) 2) a5 (len - 8) c5; have HRd := hide (show Rd w (w.heap.size + 1) [k, num zs 2, num (zs.drop 2) 2, 0, 0, 0, 0] a5 (len - 8) c5 (zs.drop 8) w6 from ⟨p6, o5.only on6 (hq5.ne o5), on6.sg hP5 (Nat.ne_of_lt (Nat.lt_succ_self _)), Nat.ne_of_lt (Nat.lt_succ_self _), Nat.le_succ _, on6.below hB5 (Nat.le_succ _)⟩); clear p6 on6 hq5 hP5 hB5 o5 g5))
    all_goals
      go_wp2_with fail
      go_meet
      exact ⟨_, _, _, rfl, HRd⟩
  case rest =>
    obtain ⟨B, a5, c5, rfl, HRd⟩ := hcut
    clear HA0 HA1 HP0 HP1 HQ1 HB0 HB1 HSZ0 HSZ1 HAD HPart hao HH
    have HB7 := hide (HRd.out.2.2.2.2.2)
    have HD7 := hide (HRd.out.2.1)
    have HZ7 := hide HRd.out.2.2.1
    have HNE := hide (HRd.out.2.2.1.ne HRd.out.2.1)
    go_wp2_with (first
      | (refine at_load rfl (.tmp 5) rfl rfl HRd.out.1 ?_)
      | (refine at_store rfl (.tmp 4) (.tmp 37) rfl rfl HZ7.out [k, num zs 2, num (zs.drop 2) 2, 0, 0, 0, 0] a5 (len - 8) c5 rfl ?_; intro w7 p7 on7; replace HB7 := hide (on7.below HB7.out (Nat.le_refl _)); replace HD7 := hide (HD7.out.only on7 HNE.out); replace p7 := hide p7; clear on7))
    try simp only [Exit.inBlock, Exit.then]
    refine bodyPost_ret (sg_result rfl _ _ w.heap.size [k, num zs 2, num (zs.drop 2) 2, 0, 0, 0, 0] a5 (len - 8) c5 rfl p7.out) rfl ?_
    exact ⟨a5, c5, rfl, HD7.out, HB7.out⟩
end Go.Proofs.YtkhahbghmdccaaaGreatDoor

namespace Go.Proofs.YtkhahbghmdccaaaGreatDoor
open Go.RowKit
theorem Row8.behind {w : World} {g off len cap : Nat} {zs : List Int} (h : Row8 w (some ⟨g, off, none⟩) len cap zs) (n : Nat) (hn : n ≤ len) (hc : len ≤ cap) (ao : Option Addr) (hao : (if cap = n then some (⟨g, off, none⟩ : Addr) else some ⟨g, off + n, none⟩) = ao) : Row8 w ao (len - n) (cap - n) (zs.drop n) := by
  have := h.part n len hn (Nat.le_refl _) ao (cap - n) (fun b o hlt e => by cases e; rw [← hao, if_neg (by omega)]) (fun e => by rw [e] at hao; split at hao <;> cases hao)
  exact this.congr (List.take_of_length_le (by rw [List.length_drop, h.1]; exact Nat.le_refl _))
set_option maxRecDepth 100000 in
set_option maxHeartbeats 4000000 in
theorem alike_tcp (k : Int) (hk : k = 6) (gx ox lx cx gz oz lz cz : Nat) (xs zs : List Int) (w : World) (rx : Row8 w (some ⟨gx, ox, none⟩) lx cx xs) (rz : Row8 w (some ⟨gz, oz, none⟩) lz cz zs) (hx : 18 ≤ lx) (hz : 18 ≤ lz) (hxc : lx ≤ cx) (hzc : lz ≤ cz) (hxm : cx ≤ maxLen) (hzm : cz ≤ maxLen)
    (r : Bool) (hr : (xs.take 16 = zs.take 16 ∧ xs.drop 18 = zs.drop 18) ↔ r = true) :
    Calls Tryz.prog 188 #[.int .i64 k, .slice (some ⟨gx, ox, none⟩) lx cx, .slice (some ⟨gz, oz, none⟩) lz cz] w fun e w' => e = .returned (.bool r) ∧ ∃ n, w' = w.drewN n := by
  obtain ⟨ax, hax⟩ : ∃ ao, (if cx = 18 then some (⟨gx, ox, none⟩ : Addr) else some ⟨gx, ox + 18, none⟩) = ao := ⟨_, rfl⟩
  obtain ⟨az, haz⟩ : ∃ ao, (if cz = 18 then some (⟨gz, oz, none⟩ : Addr) else some ⟨gz, oz + 18, none⟩) = ao := ⟨_, rfl⟩
  have a1 := fun n => row_take (rx.drewN n) 16 cx (by omega)
  have a2 := fun n => row_take (rz.drewN n) 16 cz (by omega)
  have b1 := fun n => (rx.drewN n).behind 18 hx hxc ax hax
  have b2 := fun n => (rz.drewN n).behind 18 hz hzc az haz
  have H1 := hide (fun r hr n => equal_any _ _ _ _ _ _ _ _ _ (a1 n) (a2 n) r hr)
  have H2 := hide (fun r hr n => equal_any _ _ _ _ _ _ _ _ _ (b1 n) (b2 n) r hr)
  have HC := hide (fun W => checkat_any k W)
  rw [show cn k = 16 by unfold cn; rw [if_pos hk]] at HC
  clear a1 a2 b1 b2 rx rz hk
  unfold maxLen at hxm hzm
  have i1 : (16 : Int) ≤ (cx : Int) := by omega
  have i2 : (16 : Int) ≤ (cz : Int) := by omega
  have i3 : (18 : Int) ≤ (lx : Int) := by omega
  have i4 : (18 : Int) ≤ (lz : Int) := by omega
  have i5 : (lx : Int) ≤ (cx : Int) := by omega
  have i6 : (lz : Int) ≤ (cz : Int) := by omega
  by_cases h1 : xs.take 16 = zs.take 16
  · have H1' := hide (H1.out true (by simp [h1]))
    have H2' := hide (H2.out r (by rw [← hr]; simp [h1]))
    clear H1 H2 h1 hr
    go_enter Tryz.func188, Tryz.ntmps188
    go_upto_region 3 with (go_at_call 144; refine (HC.out _).mono ?_; rintro e w' ⟨rfl, hw⟩; rw [hw]; clear hw w')
    go_quiet (first
      | (go_at_call 72; with_reducible refine Calls.quiet_of_same (H1'.out _))
      | (go_at_call 72; with_reducible refine Calls.quiet_of_same (H2'.out _)))
    go_wp2
    go_ret
    exact ⟨rfl, _, rfl⟩
  · have H1' := hide (H1.out false (by simp [h1]))
    have hf : r = false := by
      cases r
      · rfl
      · exact absurd (hr.2 rfl).1 h1
    subst hf
    clear H1 H2 h1 hr
    go_enter Tryz.func188, Tryz.ntmps188
    go_upto_region 3 with (go_at_call 144; refine (HC.out _).mono ?_; rintro e w' ⟨rfl, hw⟩; rw [hw]; clear hw w')
    go_quiet (first | (go_at_call 72; with_reducible refine Calls.quiet_of_same (H1'.out _)))
    go_wp2
    go_ret
    exact ⟨rfl, _, rfl⟩
set_option maxRecDepth 100000 in
set_option maxHeartbeats 4000000 in
theorem alike_udp (k : Int) (hk : ¬ k = 6) (gx ox lx cx gz oz lz cz : Nat) (xs zs : List Int) (w : World) (rx : Row8 w (some ⟨gx, ox, none⟩) lx cx xs) (rz : Row8 w (some ⟨gz, oz, none⟩) lz cz zs) (hx : 8 ≤ lx) (hz : 8 ≤ lz) (hxc : lx ≤ cx) (hzc : lz ≤ cz) (hxm : cx ≤ maxLen) (hzm : cz ≤ maxLen)
    (r : Bool) (hr : (xs.take 6 = zs.take 6 ∧ xs.drop 8 = zs.drop 8) ↔ r = true) :
    Calls Tryz.prog 188 #[.int .i64 k, .slice (some ⟨gx, ox, none⟩) lx cx, .slice (some ⟨gz, oz, none⟩) lz cz] w fun e w' => e = .returned (.bool r) ∧ ∃ n, w' = w.drewN n := by
  obtain ⟨ax, hax⟩ : ∃ ao, (if cx = 8 then some (⟨gx, ox, none⟩ : Addr) else some ⟨gx, ox + 8, none⟩) = ao := ⟨_, rfl⟩
  obtain ⟨az, haz⟩ : ∃ ao, (if cz = 8 then some (⟨gz, oz, none⟩ : Addr) else some ⟨gz, oz + 8, none⟩) = ao := ⟨_, rfl⟩
  have a1 := fun n => row_take (rx.drewN n) 6 cx (by omega)
  have a2 := fun n => row_take (rz.drewN n) 6 cz (by omega)
  have b1 := fun n => (rx.drewN n).behind 8 hx hxc ax hax
  have b2 := fun n => (rz.drewN n).behind 8 hz hzc az haz
  have H1 := hide (fun r hr n => equal_any _ _ _ _ _ _ _ _ _ (a1 n) (a2 n) r hr)
  have H2 := hide (fun r hr n => equal_any _ _ _ _ _ _ _ _ _ (b1 n) (b2 n) r hr)
  have HC := hide (fun W => checkat_any k W)
  rw [show cn k = 6 by unfold cn; rw [if_neg hk]] at HC
  clear a1 a2 b1 b2 rx rz hk
  unfold maxLen at hxm hzm
  have i1 : (6 : Int) ≤ (cx : Int) := by omega
  have i2 : (6 : Int) ≤ (cz : Int) := by omega
  have i3 : (8 : Int) ≤ (lx : Int) := by omega
  have i4 : (8 : Int) ≤ (lz : Int) := by omega
  have i5 : (lx : Int) ≤ (cx : Int) := by omega
  have i6 : (lz : Int) ≤ (cz : Int) := by omega
  by_cases h1 : xs.take 6 = zs.take 6
  · have H1' := hide (H1.out true (by simp [h1]))
    have H2' := hide (H2.out r (by rw [← hr]; simp [h1]))
    clear H1 H2 h1 hr
    go_enter Tryz.func188, Tryz.ntmps188
    go_upto_region 3 with (go_at_call 144; refine (HC.out _).mono ?_; rintro e w' ⟨rfl, hw⟩; rw [hw]; clear hw w')
    go_quiet (first
      | (go_at_call 72; with_reducible refine Calls.quiet_of_same (H1'.out _))
      | (go_at_call 72; with_reducible refine Calls.quiet_of_same (H2'.out _)))
    go_wp2
    go_ret
    exact ⟨rfl, _, rfl⟩
  · have H1' := hide (H1.out false (by simp [h1]))
    have hf : r = false := by
      cases r
      · rfl
      · exact absurd (hr.2 rfl).1 h1
    subst hf
    clear H1 H2 h1 hr
    go_enter Tryz.func188, Tryz.ntmps188
    go_upto_region 3 with (go_at_call 144; refine (HC.out _).mono ?_; rintro e w' ⟨rfl, hw⟩; rw [hw]; clear hw w')
    go_quiet (first | (go_at_call 72; with_reducible refine Calls.quiet_of_same (H1'.out _)))
    go_wp2
    go_ret
    exact ⟨rfl, _, rfl⟩
theorem alike_any (k : Int) (gx ox lx cx gz oz lz cz : Nat) (xs zs : List Int) (w : World) (rx : Row8 w (some ⟨gx, ox, none⟩) lx cx xs) (rz : Row8 w (some ⟨gz, oz, none⟩) lz cz zs) (hx : hn k ≤ lx) (hz : hn k ≤ lz) (hxc : lx ≤ cx) (hzc : lz ≤ cz) (hxm : cx ≤ maxLen) (hzm : cz ≤ maxLen)
    (r : Bool) (hr : (xs.take (cn k) = zs.take (cn k) ∧ xs.drop (cn k + 2) = zs.drop (cn k + 2)) ↔ r = true) :
    Calls Tryz.prog 188 #[.int .i64 k, .slice (some ⟨gx, ox, none⟩) lx cx, .slice (some ⟨gz, oz, none⟩) lz cz] w fun e w' => e = .returned (.bool r) ∧ Below w.heap.size w w' := by
  have hdr : ∀ n, Below w.heap.size w (w.drewN n) := fun n => ⟨rfl, rfl, rfl, Nat.le_refl _, fun _ _ => rfl⟩
  by_cases hk : k = 6
  · have e1 : cn k = 16 := by unfold cn; rw [if_pos hk]
    have e2 : hn k = 20 := by unfold hn; rw [if_pos hk]
    rw [e1] at hr
    exact (alike_tcp k hk gx ox lx cx gz oz lz cz xs zs w rx rz (by omega) (by omega) hxc hzc hxm hzm r hr).mono fun e w' ⟨h1, n, h2⟩ => ⟨h1, by rw [h2]; exact hdr n⟩
  · have e1 : cn k = 6 := by unfold cn; rw [if_neg hk]
    have e2 : hn k = 8 := by unfold hn; rw [if_neg hk]
    rw [e1] at hr
    exact (alike_udp k hk gx ox lx cx gz oz lz cz xs zs w rx rz (by omega) (by omega) hxc hzc hxm hzm r hr).mono fun e w' ⟨h1, n, h2⟩ => ⟨h1, by rw [h2]; exact hdr n⟩
def rdz (k : Int) (zs : List Int) : List Int := if k = 6 then [k, num zs 2, num (zs.drop 2) 2, num (zs.drop 4) 4, num (zs.drop 8) 4, num (zs.drop 13) 1, num (zs.drop 14) 2] else [k, num zs 2, num (zs.drop 2) 2, 0, 0, 0, 0]
theorem read_any (k : Int) (g off len cap : Nat) (zs : List Int) (w : World) (hr : Row8 w (some ⟨g, off, none⟩) len cap zs) (hH : hn k ≤ len) (hM : len ≤ 320) (hcl : len ≤ cap) (hcm : cap ≤ maxLen) :
    Calls Tryz.prog 187 #[.int .i64 k, .slice (some ⟨g, off, none⟩) len cap] w fun e w' => ∃ a' c', e = .returned (.agg (sgC (rdz k zs) a' (len - hn k) c')) ∧ Own w.heap.size w' (.slice a' (len - hn k) c') (zs.drop (hn k)) ∧ Below w.heap.size w w' := by
  by_cases hk : k = 6
  · have e2 : hn k = 20 := by unfold hn; rw [if_pos hk]
    have e3 : rdz k zs = [k, num zs 2, num (zs.drop 2) 2, num (zs.drop 4) 4, num (zs.drop 8) 4, num (zs.drop 13) 1, num (zs.drop 14) 2] := if_pos hk
    rw [e2, e3]
    exact read_tcp k g off len cap zs w hr hk (by omega) hM hcl hcm
  · have e2 : hn k = 8 := by unfold hn; rw [if_neg hk]
    have e3 : rdz k zs = [k, num zs 2, num (zs.drop 2) 2, 0, 0, 0, 0] := if_neg hk
    rw [e2, e3]
    exact read_udp k g off len cap zs w hr hk (by omega) hM hcl hcm
end Go.Proofs.YtkhahbghmdccaaaGreatDoor
