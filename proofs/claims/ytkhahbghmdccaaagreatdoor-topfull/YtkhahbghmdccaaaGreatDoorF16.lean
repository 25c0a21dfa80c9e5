/- Package pick's small ones by contracts: upTo, with, score, takesNew, checkOne, has. Package pick's score and Score by contracts. Package pick's mixFlow by a contract: every order that the model allows. Package pick's Check by a contract. Package pick's Score by a contract. -/
import Derived.Test.YtkhahbghmdccaaaGreatDoorF07
import Derived.Test.YtkhahbghmdccaaaGreatDoorF15
import Derived.Below
import Derived.OpenShut
import Derived.Test.YtkhahbghmdccaaaGreatDoorProg
import Derived.WalkKit
import Derived.LaidEql
import Derived.BigQuiet
import Derived.Laws.AppendOwnNone
import Derived.Laws.MakeOwn
import Derived.Deep.RegionLaw
import Derived.Lib.Bytes
import Derived.Deep.MidRow
import Derived.Laws.ResultCell
import Derived.Deep.CutBlock
import Derived.Deep.QuietTactic
import Derived.OwnWalk
import Derived.Deep.RegionHeld3
import Derived.Deep.DrawnRows
import Derived.Maps.AppendAt
import Derived.Laws.StructEq
import Derived.Test.YtkhahbghmdccaaaGreatDoorF13
namespace Go.Proofs.YtkhahbghmdccaaaGreatDoor
open Go.RowKit
set_option maxHeartbeats 400000 in
theorem kup_any (m : Int) (B n : Nat) (l : List Int) (w : World) (hn : l.length = n) (hm : n ≤ 1000) (hc : Ints B l w) :
    Calls Tryz.prog 193 #[.int .i64 m, .slice (some ⟨B, 0, none⟩) n n] w fun e w' => e = .returned (.bool (bups m l)) ∧ w' = w := by
  have HU := hide (bups_iff m l)
  have HC := hide hc
  have HN := hide hn
  clear hc
  generalize bups m l = u at HU ⊢
  go_enter Tryz.func193, Tryz.ntmps193
  go_wp2
  go_loop [9] (fun t => ∃ k : Nat, k ≤ n ∧ Hid (∀ i, i < k → um m (l.getD i 0) = true) ∧ t = .int .i64 k) (fun t => n - (intOf t).toNat)
  case atStart => exact ⟨0, by omega, fun i hi => absurd hi (by omega), rfl⟩
  case round =>
    obtain ⟨k, hk, HI, rfl⟩ := hrel
    by_cases hlt : k < n
    · have hck := HC.out.cell k (by omega)
      generalize hzk : l.getD k 0 = z at hck
      have HZ := hide hzk
      clear hzk hn
      by_cases hz0 : z < 0
      · go_wp2
        go_ret
        exact ⟨congrArg (fun b => Ending.returned (.bool b)) (Eq.symm (Bool.eq_false_iff.2 fun h => by have := (um_iff _ _).1 (HU.out.1 h k (by rw [HN.out]; exact hlt)); rw [HZ.out] at this; omega)), rfl⟩
      · by_cases hz1 : m < z
        · go_wp2
          go_ret
          exact ⟨congrArg (fun b => Ending.returned (.bool b)) (Eq.symm (Bool.eq_false_iff.2 fun h => by have := (um_iff _ _).1 (HU.out.1 h k (by rw [HN.out]; exact hlt)); rw [HZ.out] at this; omega)), rfl⟩
        · go_wp2
          go_round
          case rel => exact ⟨k + 1, by omega, fun i hi => if h : i = k then by subst h; rw [HZ.out]; exact (um_iff _ _).2 ⟨by omega, by omega⟩ else HI.out i (by omega), by go_num⟩
          case measure => simp [intOf]; omega
    · go_wp2
      go_ret
      obtain rfl : k = n := by omega
      exact ⟨congrArg (fun b => Ending.returned (.bool b)) (Eq.symm (HU.out.2 fun i hi => HI.out i (by rw [← HN.out]; exact hi))), rfl⟩
theorem kup1 (m x : Int) (W : World) : Calls Tryz.prog 193 #[.int .i64 m, .slice (some ⟨W.heap.size, 0, none⟩) 1 1] (W.alloc (.cells #[.int .i64 x] 3)) fun e w' => e = .returned (.bool (um m x)) ∧ Below W.heap.size W w' :=
  (kup_any m W.heap.size 1 [x] _ rfl (by omega) (ints_new W [x])).mono fun e w' ⟨h1, h2⟩ => ⟨h1.trans (by rw [show bups m [x] = um m x by unfold bups; simp]), by rw [h2]; exact al_below _ _⟩
theorem kup2 (x y : Int) (W : World) : Calls Tryz.prog 193 #[.int .i64 65535, .slice (some ⟨W.heap.size, 0, none⟩) 2 2] (W.alloc (.cells #[.int .i64 x, .int .i64 y] 3)) fun e w' => e = .returned (.bool (wd x && wd y)) ∧ Below W.heap.size W w' :=
  (kup_any 65535 W.heap.size 2 [x, y] _ rfl (by omega) (ints_new W [x, y])).mono fun e w' ⟨h1, h2⟩ => ⟨h1.trans (by rw [show bups 65535 [x, y] = (wd x && wd y) by unfold bups um wd; simp]), by rw [h2]; exact al_below _ _⟩
set_option maxRecDepth 100000 in
set_option maxHeartbeats 1000000 in
theorem cone (b : List Int) (w : World) : Calls Tryz.prog 151 #[.agg (bkC b)] w fun e w' => e = .returned (ev (fe (okb b))) ∧ Below w.heap.size w w' := by
  have HB := hide (al_below w (.cells (bkC b) 95))
  have HP := hide (bk_new b w)
  have HU := hide (fun W => kup2 (el b 0) (el b 2) W)
  have HV := hide (fun W => kup1 10 (el b 3) W)
  have HC := hide (fun W => bc4_any (el b 1) W)
  have HO := hide (show okb b = ((wd (el b 0) && wd (el b 2)) && fr (el b 1) && um 10 (el b 3)) from rfl)
  generalize okb b = ok at HO ⊢
  generalize (wd (el b 0) && wd (el b 2)) = pp at HU HO
  generalize fr (el b 1) = pf at HC HO
  generalize um 10 (el b 3) = pu at HV HO
  go_enter Tryz.func151, Tryz.ntmps151
  go_upto_region 1 with fail
  generalize w.alloc _ = W at HB HP ⊢
  have c0 := rng_id HP.out.rng
  have c2 := rng_int HP.out.rng 2 (by omega)
  cases pp
  · go_wp2_with (go_at_call 193; (with_reducible refine (HU.out _).mono ?_); rintro e w2 ⟨rfl, hb2⟩; replace HB := hide (bt HB.out hb2); clear hb2)
    go_ret
    exact ⟨by rw [HO.out]; rfl, HB.out⟩
  · cases pf
    · rw [show ev (fe false) = err 1 from rfl] at HC
      unfold err at HC
      go_wp2_with (first
        | (go_at_call 193; (with_reducible refine (HU.out _).mono ?_); rintro e w2 ⟨rfl, hb2⟩; replace HB := hide (bt HB.out hb2); replace HP := hide (HP.out.kept hb2); have c1 := rng_int HP.out.rng 1 (by omega); clear hb2 c0 c2)
        | (go_at_call 97; (with_reducible refine (HC.out _).mono ?_); rintro e w3 ⟨rfl, hw⟩; rw [hw]; clear hw w3))
      go_ret
      exact ⟨by rw [HO.out]; rfl, HB.out⟩
    · rw [show ev (fe true) = .nilIface from rfl] at HC
      cases pu
      all_goals
        go_wp2_with (first
          | (go_at_call 193; (with_reducible refine (HU.out _).mono ?_); rintro e w2 ⟨rfl, hb2⟩; replace HB := hide (bt HB.out hb2); replace HP := hide (HP.out.kept hb2); have c1 := rng_int HP.out.rng 1 (by omega); have c3 := rng_int HP.out.rng 3 (by omega); clear hb2 c0 c2)
          | (go_at_call 97; (with_reducible refine (HC.out _).mono ?_); rintro e w3 ⟨rfl, hw⟩; rw [hw]; clear hw w3)
          | (go_at_call 193; (with_reducible refine (HV.out _).mono ?_); rintro e w4 ⟨rfl, hb4⟩; replace HB := hide (bt HB.out hb4); clear hb4))
        go_ret
        exact ⟨by rw [HO.out]; rfl, HB.out⟩
def hid (bs : List (List Int)) (n : Nat) (id : Int) : Bool := (List.range n).any fun k => el (bs.getD k []) 0 == id
theorem hid_no {bs : List (List Int)} {n : Nat} {id : Int} (h : ∀ k, k < n → (el (bs.getD k []) 0 == id) = false) : hid bs n id = false := by
  unfold hid
  rw [List.any_eq_false]
  intro k hk
  simpa using h k (List.mem_range.1 hk)
theorem hid_yes {bs : List (List Int)} {n k : Nat} {id : Int} (hk : k < n) (h : (el (bs.getD k []) 0 == id) = true) : hid bs n id = true := by
  unfold hid
  rw [List.any_eq_true]
  exact ⟨k, List.mem_range.2 hk, h⟩
attribute [local go_sem ↓] kload_shut
set_option maxRecDepth 100000 in
set_option maxHeartbeats 1000000 in
theorem has_any (g off n cap : Nat) (bs : List (List Int)) (id : Int) (w : World) (hn : n ≤ 1000) (hg : g < w.heap.size) (hrow : ∀ k, k < n → w.rangeAt g (off + k * 6) (bkC (bs.getD k [])).toList) :
    Calls Tryz.prog 152 #[.slice (some ⟨g, off, none⟩) n cap, .int .i64 id] w fun e w' => e = .returned (.bool (hid bs n id)) ∧ Below w.heap.size w w' := by
  have HR := hide (show ∀ W, Below w.heap.size w W → ∀ k, k < n → W.rangeAt g (off + k * 6) (bkC (bs.getD k [])).toList from fun W hW k hk j u hu => by rw [hW.cell (p := ⟨g, off + k * 6 + j, none⟩) hg]; exact hrow k hk j u hu)
  have HN := hide (fun h => hid_no (bs := bs) (n := n) (id := id) h)
  have HY := hide (fun k hk h => hid_yes (bs := bs) (n := n) (k := k) (id := id) hk h)
  generalize hid bs n id = u at HN HY ⊢
  have HZ := hide bk_zero
  unfold zero4b at HZ
  clear hrow hg
  go_enter Tryz.func152, Tryz.ntmps152
  go_wp2
  go_loopw [9] (fun t wr => ∃ k : Nat, k ≤ n ∧ t = .int .i64 k ∧ Hid (∀ j, j < k → (el (bs.getD j []) 0 == id) = false) ∧ Hid (Below w.heap.size w wr)) (fun t _ => n - (intOf t).toNat)
  case atStart => exact ⟨0, by omega, rfl, fun j h => absurd h (by omega), Below.refl _ _⟩
  case round =>
    obtain ⟨k, hk, rfl, HI, HW⟩ := hrel
    by_cases hlt : k < n
    · have j1 : (k : Int) < (n : Int) := by omega
      have gk := rng_kl (HR.out wr HW.out k hlt)
      have HYk := hide (HY.out k hlt)
      obtain ⟨b, hb⟩ : ∃ b, bs.getD k [] = b := ⟨_, rfl⟩
      rw [hb] at gk HYk
      have HBk := hide hb
      clear hb
      go_upto_region 4 with (refine at_storek rfl (.tmp 6) (.tmp 12) rfl rfl (HZ.out wr) b rfl ?_; intro w1 p1 on1; replace HW := hide (bt HW.out (new_below _ on1)); have c0 := rng_id p1.rng; clear on1 p1)
      clear gk
      cases he : el b 0 == id
      · have HE := hide he
        go_wp2
        go_roundw
        case rel => exact ⟨k + 1, by omega, by go_num, fun j hj => if e : j = k then by rw [e, HBk.out]; exact HE.out else HI.out j (by omega), HW⟩
        case measure => simp [intOf]; omega
      · have HE := hide (HYk.out he)
        go_wp2
        go_ret
        exact ⟨by rw [HE.out]; rfl, HW.out⟩
    · obtain rfl : n = k := by omega
      go_wp2
      go_ret
      exact ⟨by rw [HN.out HI.out]; rfl, HW.out⟩
set_option maxRecDepth 100000 in
set_option maxHeartbeats 1000000 in
theorem tn_any (b : List Int) (w : World) : Calls Tryz.prog 168 #[.agg (bkC b)] w fun e w' => e = .returned (.bool (cand b)) ∧ Below w.heap.size w w' := by
  have HB := hide (al_below w (.cells (bkC b) 95))
  have HP := hide (bk_new b w)
  have HO := hide (show cand b = ((el b 4 == 1) && !(el b 5 == 1) && !(el b 3 == 0)) from rfl)
  generalize cand b = ok at HO ⊢
  go_enter Tryz.func168, Tryz.ntmps168
  go_upto_region 1 with fail
  generalize w.alloc _ = W at HB HP ⊢
  have c3 := rng_int HP.out.rng 3 (by omega)
  have c4 := rng_up HP.out.rng
  have c5 := rng_dr HP.out.rng
  generalize (el b 4 == 1) = up at c4 HO
  generalize (el b 5 == 1) = dr at c5 HO
  generalize el b 3 = x3 at c3 HO
  cases hz : x3 == 0
  all_goals
    have hz' : (x3 != 0) = !(x3 == 0) := rfl
    rw [hz] at HO hz'
    cases up
    · go_wp2
      go_ret
      exact ⟨by rw [HO.out]; rfl, HB.out⟩
    · cases dr
      · go_wp2
        go_ret
        exact ⟨by rw [HO.out]; rfl, HB.out⟩
      · go_wp2
        go_ret
        exact ⟨by rw [HO.out]; rfl, HB.out⟩
set_option maxRecDepth 100000 in
set_option maxHeartbeats 1000000 in
theorem with_any (x : Int) (B off n cap : Nat) (l : List Int) (w : World) (hn : l.length = n) (hm : n ≤ 1000) (hx : 0 ≤ x ∧ x < 2147483648) (hl : ∀ y ∈ l, 0 ≤ y ∧ y ≤ 65535)
    (hc : ∀ j, j < n → w.cell? ⟨B, off + j, none⟩ = some (.int .i64 (l.getD j 0))) :
    Calls Tryz.prog 201 #[.int .i64 x, .slice (some ⟨B, off, none⟩) n cap] w fun e w' => e = .returned (.int .i64 (mxs x l)) ∧ w' = w := by
  have HC := hide hc
  have HL := hide hl
  have HX := hide hx
  have HN := hide hn
  clear hc hl hx hn
  go_enter Tryz.func201, Tryz.ntmps201
  go_wp2
  go_loop [0, 9] (fun u t => ∃ k : Nat, k ≤ n ∧ t = .int .i64 k ∧ u = .int .i64 (mxs x (l.take k))) (fun _ t => n - (intOf t).toNat)
  case atStart => exact ⟨0, by omega, rfl, rfl⟩
  case round =>
    obtain ⟨k, hk, rfl, rfl⟩ := hrel
    by_cases hlt : k < n
    · have j1 : (k : Int) < (n : Int) := by omega
      have hkl : k < l.length := by rw [HN.out]; exact hlt
      have c1 := HC.out k hlt
      have HT := hide (show mxs x (l.take (k + 1)) = mx (mxs x (l.take k)) (l.getD k 0) by
        rw [List.take_add_one, List.getElem?_eq_getElem hkl, List.getD_eq_getElem?_getD, List.getElem?_eq_getElem hkl]
        exact mxs_snoc _ _ _)
      have hin := mxs_in HX.out (l.take k) (fun y hy => (HL.out y (List.mem_of_mem_take hy)).1)
      have hnn := HL.out (l.getD k 0) (by rw [List.getD_eq_getElem?_getD, List.getElem?_eq_getElem hkl]; exact List.getElem_mem _)
      clear hkl
      generalize mxs x (l.take k) = z at HT hin
      generalize l.getD k 0 = y at c1 HT hnn
      have q1 : IntKind.i64.wrap (z * 69069) = z * 69069 := by rw [IntKind.wrap_i64]; omega
      have q2 : IntKind.i64.wrap (z * 69069 + y) = z * 69069 + y := by rw [IntKind.wrap_i64]; omega
      have q3 : IntKind.i64.wrap (z * 69069 + y + 1) = z * 69069 + y + 1 := by rw [IntKind.wrap_i64]; omega
      clear hin hnn
      go_wp2
      go_round
      case rel => exact ⟨k + 1, by omega, by go_num, by rw [HT.out]; rfl⟩
      case measure => simp [intOf]; omega
    · obtain rfl : k = n := by omega
      have HT := hide (show mxs x l = mxs x (l.take k) by rw [List.take_of_length_le (by rw [HN.out]; exact Nat.le_refl _)])
      go_wp2
      go_ret
      exact ⟨by rw [HT.out]; rfl, rfl⟩
end Go.Proofs.YtkhahbghmdccaaaGreatDoor

namespace Go.Proofs.YtkhahbghmdccaaaGreatDoor
open Go.RowKit
theorem with1 (x y : Int) (B : Nat) (W : World) (hx : 0 ≤ x ∧ x < 2147483648) (hy : 0 ≤ y ∧ y ≤ 65535) (h : Ints B [y] W) :
    Calls Tryz.prog 201 #[.int .i64 x, .slice (some ⟨B, 0, none⟩) 1 1] W fun e w' => e = .returned (.int .i64 (mx x y)) ∧ w' = W :=
  with_any x B 0 1 1 [y] W rfl (by omega) hx (fun z hz => by rw [List.mem_singleton] at hz; rw [hz]; exact hy) (fun j hj => by rw [Nat.zero_add]; exact h.cell j hj)
def mx8 (x : Int) (z : List Int) : Int := mxs x [el z 0, el z 1, el z 2, el z 3, el z 4, el z 5, el z 6, el z 7]
theorem with8 (x : Int) (z : List Int) (B off : Nat) (W : World) (hx : 0 ≤ x ∧ x < 2147483648) (hz : s6 z = true) (h : W.rangeAt B off (sixC z).toList) :
    Calls Tryz.prog 201 #[.int .i64 x, .slice (some ⟨B, off, none⟩) 8 8] W fun e w' => e = .returned (.int .i64 (mx8 x z)) ∧ w' = W := by
  have hok := (s6_iff z).1 hz
  refine with_any x B off 8 8 [el z 0, el z 1, el z 2, el z 3, el z 4, el z 5, el z 6, el z 7] W rfl (by omega) hx ?_ ?_
  · intro y hy
    simp only [List.mem_cons, List.not_mem_nil, or_false] at hy
    rcases hy with rfl | rfl | rfl | rfl | rfl | rfl | rfl | rfl
    · exact hok 0 (by omega)
    · exact hok 1 (by omega)
    · exact hok 2 (by omega)
    · exact hok 3 (by omega)
    · exact hok 4 (by omega)
    · exact hok 5 (by omega)
    · exact hok 6 (by omega)
    · exact hok 7 (by omega)
  · intro j hj
    refine h j _ ?_
    rcases (by omega : j = 0 ∨ j = 1 ∨ j = 2 ∨ j = 3 ∨ j = 4 ∨ j = 5 ∨ j = 6 ∨ j = 7) with rfl | rfl | rfl | rfl | rfl | rfl | rfl | rfl <;> rfl
set_option maxRecDepth 100000 in
set_option maxHeartbeats 1000000 in
theorem score_any (x id : Int) (w : World) (hx : 0 ≤ x ∧ x < 2147483648) (hd : 0 ≤ id ∧ id ≤ 65535) :
    Calls Tryz.prog 169 #[.int .i64 x, .int .i64 id] w fun e w' => e = .returned (.int .i64 ((mx x id).tdiv 256)) ∧ Below w.heap.size w w' := by
  have HW := hide (with1 x id w.heap.size (w.alloc (.cells #[.int .i64 id] 3)) hx hd (ints_new w [id]))
  have HB := hide (al_below w (.cells #[.int .i64 id] 3))
  have hin := mx_in (x := x) (n := id) hx.1 hd.1
  clear hx hd
  generalize mx x id = z at HW hin ⊢
  have HT := hide (show z.tdiv 256 = z / 256 from Int.tdiv_eq_ediv_of_nonneg hin.1)
  go_enter Tryz.func169, Tryz.ntmps169
  go_wp2_with (go_at_call 201; (with_reducible refine HW.out.mono ?_); rintro e w2 ⟨rfl, hw⟩; rw [hw]; clear hw w2)
  go_ret
  exact ⟨by rw [HT.out]; rfl, HB.out⟩
end Go.Proofs.YtkhahbghmdccaaaGreatDoor

namespace Go.Proofs.YtkhahbghmdccaaaGreatDoor
open Go.RowKit
theorem ia1 (W : World) (x : Int) : Ints W.heap.size [x] (W.alloc (.cells #[.int .i64 x] 3)) := ints_new W [x]
theorem Ints.al {B : Nat} {l : List Int} {W : World} (h : Ints B l W) (o : Obj) : Ints B l (W.alloc o) := ((al_below W o).block B (Array.getElem?_eq_some_iff.1 h).1).trans h
theorem ia2 (W : World) (o : Obj) (x : Int) : Ints (W.heap.size + 1) [x] ((W.alloc o).alloc (.cells #[.int .i64 x] 3)) := by
  have := ia1 (W.alloc o) x
  rwa [World.size_alloc] at this
theorem ia3 (W : World) (o p : Obj) (x : Int) : Ints (W.heap.size + 1 + 1) [x] (((W.alloc o).alloc p).alloc (.cells #[.int .i64 x] 3)) := by
  have := ia1 ((W.alloc o).alloc p) x
  rwa [World.size_alloc, World.size_alloc] at this
def MF (w : World) (B : Nat) (f : List Int) (W : World) : Prop := W.cell? ⟨B, 0, none⟩ = some (.int .i64 (el f 0)) ∧ W.cell? ⟨B, 9, none⟩ = some (.int .i64 (el f 9)) ∧ W.cell? ⟨B, 18, none⟩ = some (.int .i64 (el f 18)) ∧ FlIn B f W ∧ Below w.heap.size w W
theorem mf_of {w W : World} {B : Nat} {f : List Int} (h : FlIn B f W) (hb : Below w.heap.size w W) : MF w B f W := ⟨h.cell 0 (by omega), h.cell 9 (by omega), h.cell 18 (by omega), h, hb⟩
theorem MF.al {w W : World} {B : Nat} {f : List Int} (h : MF w B f W) (o : Obj) : MF w B f (W.alloc o) := mf_of (h.2.2.2.1.kept (al_below W o)) (bt h.2.2.2.2 (al_below W o))
theorem Ints.dr {B : Nat} {l : List Int} {W : World} (h : Ints B l W) : Ints B l W.drew := h
theorem MF.dr {w W : World} {B : Nat} {f : List Int} (h : MF w B f W) : MF w B f W.drew := mf_of h.2.2.2.1 h.2.2.2.2.drew
theorem MF.un {w W : World} {B : Nat} {f : List Int} (h : MF w B f W.drew) (hb : Below w.heap.size w W) : MF w B f W := mf_of h.2.2.2.1 hb
theorem below_un {n : Nat} {w W : World} (h : Below n w W.drew) : Below n w W := ⟨h.os, h.tape, h.output, h.size, h.block⟩
theorem MF.ald {w W : World} {B : Nat} {f : List Int} (h : MF w B f W.drew) (o : Obj) : MF w B f (W.alloc o).drew := ((h.un (below_un h.2.2.2.2)).al o).dr
theorem MF.bl {w W : World} {B : Nat} {f : List Int} (h : MF w B f W) : Below w.heap.size w W := h.2.2.2.2
theorem MF.cl {w W : World} {B : Nat} {f : List Int} (h : MF w B f W) : W.rangeAt B 1 (sixC (cli f)).toList := h.2.2.2.1.cli
theorem MF.ds {w W : World} {B : Nat} {f : List Int} (h : MF w B f W) : W.rangeAt B 10 (sixC (dst f)).toList := h.2.2.2.1.dst
set_option maxRecDepth 100000 in
set_option maxHeartbeats 4000000 in
theorem mixflow_any (seed : Int) (f : List Int) (w : World) (hs : 0 ≤ seed ∧ seed < 2147483648) (hf : okf f = true) :
    Calls Tryz.prog 167 #[.int .i64 seed, .agg (flC f)] w fun e w' => e = .returned (.int .i64 (mxs seed (nl f 19))) ∧ Below w.heap.size w w' := by
  have HM := hide (show MF w w.heap.size f (w.alloc (.cells (flC f) 73)) from mf_of (fl_new f w) (al_below _ _))
  have h0 := okf_el hf 0 (by omega)
  have h9 := okf_el hf 9 (by omega)
  have h18 := okf_el hf 18 (by omega)
  have hc : s6 (cli f) = true ∧ s6 (dst f) = true := by unfold okf at hf; simp only [Bool.and_eq_true] at hf; exact ⟨hf.1.1.1.2, hf.1.1.2⟩
  have e1 := mx_in (x := seed) (n := el f 0) hs.1 h0.1
  have e8 : ∀ x z, 0 ≤ x ∧ x < 2147483648 → s6 z = true → 0 ≤ mx8 x z ∧ mx8 x z < 2147483648 := by
    intro x z hx hz
    have hok := (s6_iff z).1 hz
    refine mxs_in hx _ ?_
    intro y hy
    simp only [List.mem_cons, List.not_mem_nil, or_false] at hy
    rcases hy with rfl | rfl | rfl | rfl | rfl | rfl | rfl | rfl
    · exact (hok 0 (by omega)).1
    · exact (hok 1 (by omega)).1
    · exact (hok 2 (by omega)).1
    · exact (hok 3 (by omega)).1
    · exact (hok 4 (by omega)).1
    · exact (hok 5 (by omega)).1
    · exact (hok 6 (by omega)).1
    · exact (hok 7 (by omega)).1
  have e2 := e8 _ _ e1 hc.1
  have e3 := mx_in (n := el f 9) e2.1 h9.1
  have e4 := e8 _ _ e3 hc.2
  have HR := hide (show mx (mx8 (mx (mx8 (mx seed (el f 0)) (cli f)) (el f 9)) (dst f)) (el f 18) = mxs seed (nl f 19) from rfl)
  have H1 := hide (fun B W h => with1 seed (el f 0) B W hs h0 h)
  have H2 := hide (fun B W h => with8 (mx seed (el f 0)) (cli f) B 1 W e1 hc.1 h)
  have H3 := hide (fun B W h => with1 (mx8 (mx seed (el f 0)) (cli f)) (el f 9) B W e2 h9 h)
  have H4 := hide (fun B W h => with8 (mx (mx8 (mx seed (el f 0)) (cli f)) (el f 9)) (dst f) B 10 W e3 hc.2 h)
  have H5 := hide (fun B W h => with1 (mx8 (mx (mx8 (mx seed (el f 0)) (cli f)) (el f 9)) (dst f)) (el f 18) B W e4 h18 h)
  clear e1 e2 e3 e4 e8 hc h0 h9 h18 hs hf
  generalize mx seed (el f 0) = x1 at H1 H2 H3 H4 H5 HR
  generalize mx8 x1 (cli f) = x2 at H2 H3 H4 H5 HR
  generalize mx x2 (el f 9) = x3 at H3 H4 H5 HR
  generalize mx8 x3 (dst f) = x4 at H4 H5 HR
  generalize mx x4 (el f 18) = x5 at H5 HR
  generalize mxs seed (nl f 19) = x6 at HR ⊢
  obtain rfl := HR.out
  clear HR
  go_enter Tryz.func167, Tryz.ntmps167
  go_upto_region 1 with fail
  generalize w.alloc _ = W at HM ⊢
  have HM0 := hide (show MF w w.heap.size f W.drew from HM.out.dr)
  clear HM
  go_region_held3 (fun W' => W'.cell? ⟨w.heap.size, 0, none⟩ = some (.int .i64 (el f 0)) ∧ W'.cell? ⟨w.heap.size, 9, none⟩ = some (.int .i64 (el f 9)) ∧ W'.cell? ⟨w.heap.size, 18, none⟩ = some (.int .i64 (el f 18)) ∧ FlIn w.heap.size f W' ∧ Below w.heap.size w W')
    (first
      | exact HM0.out
      | assumption
      | (refine MF.ald ?_ _; assumption))
    (first
      | (go_at_call 201; (with_reducible refine (H1.out _ _ ?_).mono ?_); (first | exact (ia1 _ _).dr | exact (ia2 _ _ _).dr | exact (ia3 _ _ _ _).dr | exact ((ia1 _ _).al _).dr | exact ((ia2 _ _ _).al _).dr | exact (((ia1 _ _).al _).al _).dr); rintro e w1 ⟨rfl, hw⟩; rw [hw]; clear hw w1)
      | (go_at_call 201; (with_reducible refine (H2.out _ _ ?_).mono ?_); (refine MF.cl (w := w) ?_; assumption); rintro e w1 ⟨rfl, hw⟩; rw [hw]; clear hw w1)
      | (go_at_call 201; (with_reducible refine (H3.out _ _ ?_).mono ?_); (first | exact (ia1 _ _).dr | exact (ia2 _ _ _).dr | exact (ia3 _ _ _ _).dr | exact ((ia1 _ _).al _).dr | exact ((ia2 _ _ _).al _).dr | exact (((ia1 _ _).al _).al _).dr); rintro e w1 ⟨rfl, hw⟩; rw [hw]; clear hw w1)
      | (go_at_call 201; (with_reducible refine (H4.out _ _ ?_).mono ?_); (refine MF.ds (w := w) ?_; assumption); rintro e w1 ⟨rfl, hw⟩; rw [hw]; clear hw w1)
      | (go_at_call 201; (with_reducible refine (H5.out _ _ ?_).mono ?_); (first | exact (ia1 _ _).dr | exact (ia2 _ _ _).dr | exact (ia3 _ _ _ _).dr | exact ((ia1 _ _).al _).dr | exact ((ia2 _ _ _).al _).dr | exact (((ia1 _ _).al _).al _).dr); rintro e w1 ⟨rfl, hw⟩; rw [hw]; clear hw w1))
  all_goals
    clear H1 H2 H3 H4 H5 HM0
    go_wp2
    go_ret
    refine ⟨rfl, MF.bl (B := w.heap.size) (f := f) ?_⟩
    assumption
end Go.Proofs.YtkhahbghmdccaaaGreatDoor

namespace Go.Proofs.YtkhahbghmdccaaaGreatDoor
open Go.RowKit
attribute [local go_sem ↓] kload_shut
set_option maxRecDepth 100000 in
set_option maxHeartbeats 4000000 in
theorem kcheck : JKc := by
  intro a cap bs w h hl hcp
  have HH := hide h
  have hl' : (bs.length : Int) ≤ 9223372036854775807 := by unfold maxLen at hl; omega
  clear h hl
  by_cases h8 : 8 < bs.length
  · have HB := hide (show bf bs = (0, 3) by unfold bf; rw [if_pos h8])
    have j8 : (8 : Int) < (bs.length : Int) := by omega
    go_enter Tryz.func98, Tryz.ntmps98
    go_wp2
    go_ret2
    exact ⟨by rw [HB.out]; rfl, Below.refl _ _⟩
  · have HS := hide (fun i hi h1 h2 => bf_some (bs := bs) (i := i) h8 hi h1 h2)
    have HN := hide (fun h => bf_none (bs := bs) h8 h)
    have j8 : ¬ (8 : Int) < (bs.length : Int) := by omega
    have j9 : (bs.length : Int) ≤ 8 := by omega
    have n9 : bs.length ≤ 8 := by omega
    have HZ := hide bk_zero
    unfold zero4b at HZ
    clear h8
    generalize bf bs = R at HS HN ⊢
    go_enter Tryz.func98, Tryz.ntmps98
    go_wp2
    go_loopw [13] (fun t wr => ∃ k : Nat, k ≤ bs.length ∧ t = .int .i64 k ∧ Hid (∀ j, j < k → (flt bs j != 0) = false) ∧ Hid (Below w.heap.size w wr)) (fun t _ => bs.length - (intOf t).toNat)
    case atStart => exact ⟨0, by omega, rfl, fun j h => absurd h (by omega), Below.refl _ _⟩
    case round =>
      obtain ⟨k, hk, rfl, HI, HW⟩ := hrel
      by_cases hlt : k < bs.length
      · obtain ⟨g, off, rfl, hgl, hrow⟩ := HH.out (by omega)
        have HR := hide (show ∀ W, Below w.heap.size w W → ∀ k, k < bs.length → W.rangeAt g (off + k * 6) (bkC (bs.getD k [])).toList from fun W hW k hk j u hu => by rw [hW.cell (p := ⟨g, off + k * 6 + j, none⟩) hgl]; exact hrow k hk j u hu)
        have HG := hide hgl
        have j1 : (k : Int) < (bs.length : Int) := by omega
        have gk := rng_kl (HR.out wr HW.out k hlt)
        have HT := hide (show flt bs k = if okb (bs.getD k []) = true then (if hid bs k (el (bs.getD k []) 0) = true then 8 else 0) else 1 from rfl)
        have HF := hide (HS.out k hlt)
        clear hrow hgl
        obtain ⟨b, hb⟩ : ∃ b, bs.getD k [] = b := ⟨_, rfl⟩
        rw [hb] at gk HT
        clear hb
        have HC := hide (fun W => cone b W)
        generalize okb b = ok at HC HT
        go_upto_region 6 with (refine at_storek rfl (.tmp 5) (.tmp 17) rfl rfl (HZ.out wr) b rfl ?_; intro w1 p1 on1; replace HW := hide (bt HW.out (new_below _ on1)); have HP := hide p1; clear on1 p1)
        clear gk
        generalize wr.heap.size = D at HP ⊢
        have gk := HP.out.kl
        cases ok
        · have HE := hide (show R = ((k : Int), 1) by rw [HF.out (by rw [HT.out]; rfl) HI.out, HT.out]; rfl)
          rw [show ev (fe false) = err 1 from rfl] at HC
          unfold err at HC
          go_wp2_with (go_at_call 151; (with_reducible refine (HC.out _).mono ?_); rintro e w2 ⟨rfl, hb2⟩; replace HW := hide (bt HW.out hb2); clear hb2)
          go_ret2
          exact ⟨by rw [HE.out]; rfl, HW.out⟩
        · rw [show ev (fe true) = .nilIface from rfl] at HC
          go_upto_region 9 with (go_at_call 151; (with_reducible refine (HC.out _).mono ?_); rintro e w2 ⟨rfl, hb2⟩; replace HW := hide (bt HW.out hb2); replace HP := hide (HP.out.kept hb2); clear hb2)
          clear gk
          have HX := hide (fun W (hW : Below w.heap.size w W) => has_any g off k cap bs (el b 0) W (by omega) (Nat.lt_of_lt_of_le HG.out hW.size) (fun j hj => HR.out W hW j (by omega)))
          generalize hid bs k (el b 0) = hh at HX HT
          have HWd := hide (show Below w.heap.size w w2.drew from HW.out.drew)
          have c0 := rng_id (show w2.drew.rangeAt D 0 (bkC b).toList from HP.out.rng)
          generalize el b 0 = x0 at HX c0
          have j2 : (k : Int) ≤ (cap : Int) := by omega
          have HC0 := hide c0
          have HD := hide (show D < w2.drew.heap.size from HP.out.lt)
          go_region_held3 (fun W' => W'.cell? ⟨D, 0, none⟩ = some (.int .i64 x0))
            (first
              | exact HC0.out
              | exact HC1.out
              | go_keep)
            (first | (go_at_call 152; (with_reducible refine (HX.out _ HWd.out).mono ?_); rintro r w4 ⟨rfl, hb4⟩; have HC1 := hide ((hb4.cell (p := ⟨D, 0, none⟩) HD.out).trans HC0.out); replace HW := hide (HWd.out.trans (hb4.mono HWd.out.size)); clear hb4))
          clear HC0 HC1 HWd HX HP HC
          cases hh
          · have HE := hide (show (flt bs k != 0) = false by rw [HT.out]; rfl)
            go_wp2
            go_roundw
            case rel => exact ⟨k + 1, by omega, by go_num, fun j hj => if e : j = k then by rw [e]; exact HE.out else HI.out j (by omega), HW⟩
            case measure => simp [intOf]; omega
          · have HE := hide (show R = ((k : Int), 8) by rw [HF.out (by rw [HT.out]; rfl) HI.out, HT.out]; rfl)
            go_wp2
            go_ret2
            exact ⟨by rw [HE.out]; rfl, HW.out⟩
      · obtain rfl : bs.length = k := by omega
        go_wp2
        go_ret2
        exact ⟨by rw [HN.out HI.out]; rfl, HW.out⟩
end Go.Proofs.YtkhahbghmdccaaaGreatDoor

namespace Go.Proofs.YtkhahbghmdccaaaGreatDoor
open Go.RowKit
def KF (w : World) (f : List Int) (W : World) : Prop := FlIn w.heap.size f W ∧ Below w.heap.size w W
theorem KF.kept {w : World} {f : List Int} {W W' : World} (h : KF w f W) (hb : Below W.heap.size W W') : KF w f W' := ⟨h.1.kept hb, bt h.2 hb⟩
theorem kf_new (w : World) (f : List Int) : KF w f (w.alloc (.cells (flC f) 73)) := ⟨fl_new f w, al_below _ _⟩
attribute [local go_sem ↓] fload_shut
set_option maxRecDepth 100000 in
set_option maxHeartbeats 4000000 in
theorem kscore : JKs := by
  intro seed f id w
  have HK := hide (kf_new w f)
  have HU := hide (fun W => kup1 2147483647 seed W)
  have HV := hide (fun W => kup1 65535 id W)
  have HC := hide (fun W => bcheck f W)
  have HO := hide (show sok seed f id = (um 2147483647 seed && um 65535 id && okf f) from rfl)
  have HS := hide (show sv seed f id = if sok seed f id = true then sc seed f id else 0 from rfl)
  cases hu : um 2147483647 seed
  · rw [hu] at HU HO
    replace HO := hide (show sok seed f id = false from HO.out)
    rw [HO.out] at HS ⊢
    replace HS := hide (show sv seed f id = 0 from HS.out)
    rw [HS.out]
    clear HO HS hu HV HC
    go_enter Tryz.func166, Tryz.ntmps166
    go_upto_region 1 with fail
    generalize w.alloc _ = W at HK ⊢
    go_wp2_with (go_at_call 193; (with_reducible refine (HU.out _).mono ?_); rintro e w2 ⟨rfl, hb2⟩; replace HK := hide (HK.out.kept hb2); clear hb2)
    go_ret2
    exact ⟨rfl, HK.out.2⟩
  · cases hv : um 65535 id
    · rw [hu, hv] at HO
      rw [hu] at HU
      rw [hv] at HV
      replace HO := hide (show sok seed f id = false from HO.out)
      rw [HO.out] at HS ⊢
      replace HS := hide (show sv seed f id = 0 from HS.out)
      rw [HS.out]
      clear HO HS hu hv HC
      go_enter Tryz.func166, Tryz.ntmps166
      go_upto_region 1 with fail
      generalize w.alloc _ = W at HK ⊢
      go_wp2_with (first
        | (go_at_call 193; (with_reducible refine (HU.out _).mono ?_); rintro e w2 ⟨rfl, hb2⟩; replace HK := hide (HK.out.kept hb2); clear hb2)
        | (go_at_call 193; (with_reducible refine (HV.out _).mono ?_); rintro e w3 ⟨rfl, hb3⟩; replace HK := hide (HK.out.kept hb3); clear hb3))
      go_ret2
      exact ⟨rfl, HK.out.2⟩
    · cases hf : okf f
      · rw [hu, hv, hf] at HO
        rw [hu] at HU
        rw [hv] at HV
        rw [hf, show ev (fe false) = err 1 from rfl] at HC
        unfold err at HC
        replace HO := hide (show sok seed f id = false from HO.out)
        rw [HO.out] at HS ⊢
        replace HS := hide (show sv seed f id = 0 from HS.out)
        rw [HS.out]
        clear HO HS hu hv hf
        go_enter Tryz.func166, Tryz.ntmps166
        go_upto_region 1 with fail
        generalize w.alloc _ = W at HK ⊢
        go_upto_region 3 with (first
          | (go_at_call 193; (with_reducible refine (HU.out _).mono ?_); rintro e w2 ⟨rfl, hb2⟩; replace HK := hide (HK.out.kept hb2); clear hb2)
          | (go_at_call 193; (with_reducible refine (HV.out _).mono ?_); rintro e w3 ⟨rfl, hb3⟩; replace HK := hide (HK.out.kept hb3); clear hb3))
        have gf := HK.out.1.fl
        go_wp2_with (go_at_call 171; (with_reducible refine (HC.out _).mono ?_); rintro e w4 ⟨rfl, hb4⟩; replace HK := hide (HK.out.kept hb4); clear hb4)
        go_ret2
        exact ⟨rfl, HK.out.2⟩
      · rw [hu, hv, hf] at HO
        rw [hu] at HU
        rw [hv] at HV
        rw [hf, show ev (fe true) = .nilIface from rfl] at HC
        replace HO := hide (show sok seed f id = true from HO.out)
        rw [HO.out] at HS ⊢
        replace HS := hide (show sv seed f id = sc seed f id from HS.out)
        rw [HS.out]
        have hs := (um_iff _ _).1 hu
        have hd := (um_iff _ _).1 hv
        have hs2 : 0 ≤ seed ∧ seed < 2147483648 := ⟨hs.1, by omega⟩
        have HM := hide (fun W => mixflow_any seed f W hs2 hf)
        have hin := mxs_in hs2 (nl f 19) (fun x hx => (nums_in (id := id) HO.out x (by unfold nums; exact List.mem_append_left _ hx)).1)
        have HQ := hide (fun W => score_any (mxs seed (nl f 19)) id W hin hd)
        have HR := hide (show sc seed f id = (mx (mxs seed (nl f 19)) id).tdiv 256 by unfold sc nums; rw [mxs_snoc])
        rw [HR.out]
        clear HO HS hu hv hf hs hd hs2 hin HR
        generalize mxs seed (nl f 19) = z at HM HQ ⊢
        generalize (mx z id).tdiv 256 = s at HQ ⊢
        go_enter Tryz.func166, Tryz.ntmps166
        go_upto_region 1 with fail
        generalize w.alloc _ = W at HK ⊢
        go_upto_region 3 with (first
          | (go_at_call 193; (with_reducible refine (HU.out _).mono ?_); rintro e w2 ⟨rfl, hb2⟩; replace HK := hide (HK.out.kept hb2); clear hb2)
          | (go_at_call 193; (with_reducible refine (HV.out _).mono ?_); rintro e w3 ⟨rfl, hb3⟩; replace HK := hide (HK.out.kept hb3); clear hb3))
        have gf := HK.out.1.fl
        go_upto_region 6 with (go_at_call 171; (with_reducible refine (HC.out _).mono ?_); rintro e w4 ⟨rfl, hb4⟩; replace HK := hide (HK.out.kept hb4); clear hb4 gf)
        have gf := HK.out.1.fl
        go_wp2_with (first
          | (go_at_call 167; (with_reducible refine (HM.out _).mono ?_); rintro e w5 ⟨rfl, hb5⟩; replace HK := hide (HK.out.kept hb5); clear hb5)
          | (go_at_call 169; (with_reducible refine (HQ.out _).mono ?_); rintro e w6 ⟨rfl, hb6⟩; replace HK := hide (HK.out.kept hb6); clear hb6))
        go_ret2
        exact ⟨rfl, HK.out.2⟩
end Go.Proofs.YtkhahbghmdccaaaGreatDoor
