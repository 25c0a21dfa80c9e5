/- Package pick's Check by a contract. When two flows are one. A flow's bytes, and the flow of bytes. The document's own HeadOf. Package proxy: codeOf and Encode, by contracts. Package proxy: number, kindOf and read, by contracts. Package proxy: read, by a contract. -/
import Derived.Test.YtnhjabiciaoocaaDoorJSgEnc
import Derived.Test.YtnhjabiciaoocaaDoorJPkS
import Derived.Test.YtnhjabiciaoocaaDoorPlB
import Derived.Below
import Derived.OpenShut
import Derived.Test.YtnhjabiciaoocaaDoorProg
import Derived.WalkKit
import Derived.LaidEql
import Derived.BigQuiet
import Derived.Laws.AppendOwnNone
import Derived.Laws.MakeOwn
import Derived.Deep.RegionLaw
import Derived.Lib.Bytes
import Derived.Deep.MidRow
import Derived.Laws.ResultCell
import Derived.Deep.CutBlock
import Derived.Deep.QuietTactic
import Derived.OwnWalk
import Derived.Deep.RegionHeld3
import Derived.Deep.DrawnRows
import Derived.Maps.AppendAt
import Derived.Laws.StructEq
import Derived.Test.YtnhjabiciaoocaaDoorJPkF
import Derived.ArgAppend
import Derived.Lib.SlBytesConst
import Derived.Lib.AppendStr
import Derived.Test.YtnhjabiciaoocaaDoorJPkN
namespace Go.Proofs.YtnhjabiciaoocaaDoor
open Go.RowKit
attribute [local go_sem ↓] kload_shut
set_option maxRecDepth 100000 in
set_option maxHeartbeats 4000000 in
theorem kcheck : JKc := by
  intro a cap bs w h hl hcp
  have HH := hide h
  have hl' : (bs.length : Int) ≤ 9223372036854775807 := by unfold maxLen at hl; omega
  clear h hl
  by_cases h8 : 8 < bs.length
  · have HB := hide (show bf bs = (0, 3) by unfold bf; rw [if_pos h8])
    have j8 : (8 : Int) < (bs.length : Int) := by omega
    go_enter Tryd.func21, Tryd.ntmps21
    go_wp2
    go_ret2
    exact ⟨by rw [HB.out]; rfl, Below.refl _ _⟩
  · have HS := hide (fun i hi h1 h2 => bf_some (bs := bs) (i := i) h8 hi h1 h2)
    have HN := hide (fun h => bf_none (bs := bs) h8 h)
    have j8 : ¬ (8 : Int) < (bs.length : Int) := by omega
    have j9 : (bs.length : Int) ≤ 8 := by omega
    have n9 : bs.length ≤ 8 := by omega
    have HZ := hide bk_zero
    unfold zero4b at HZ
    clear h8
    generalize bf bs = R at HS HN ⊢
    go_enter Tryd.func21, Tryd.ntmps21
    go_wp2
    go_loopw [13] (fun t wr => ∃ k : Nat, k ≤ bs.length ∧ t = .int .i64 k ∧ Hid (∀ j, j < k → (flt bs j != 0) = false) ∧ Hid (Below w.heap.size w wr)) (fun t _ => bs.length - (intOf t).toNat)
    case atStart => exact ⟨0, by omega, rfl, fun j h => absurd h (by omega), Below.refl _ _⟩
    case round =>
      obtain ⟨k, hk, rfl, HI, HW⟩ := hrel
      by_cases hlt : k < bs.length
      · obtain ⟨g, off, rfl, hgl, hrow⟩ := HH.out (by omega)
        have HR := hide (show ∀ W, Below w.heap.size w W → ∀ k, k < bs.length → W.rangeAt g (off + k * 6) (bkC (bs.getD k [])).toList from fun W hW k hk j u hu => by rw [hW.cell (p := ⟨g, off + k * 6 + j, none⟩) hgl]; exact hrow k hk j u hu)
        have HG := hide hgl
        have j1 : (k : Int) < (bs.length : Int) := by omega
        have gk := rng_kl (HR.out wr HW.out k hlt)
        have HT := hide (show flt bs k = if okb (bs.getD k []) = true then (if hid bs k (el (bs.getD k []) 0) = true then 8 else 0) else 1 from rfl)
        have HF := hide (HS.out k hlt)
        clear hrow hgl
        obtain ⟨b, hb⟩ : ∃ b, bs.getD k [] = b := ⟨_, rfl⟩
        rw [hb] at gk HT
        clear hb
        have HC := hide (fun W => cone b W)
        generalize okb b = ok at HC HT
        go_upto_region 6 with (refine at_storek rfl (.tmp 5) (.tmp 17) rfl rfl (HZ.out wr) b rfl ?_; intro w1 p1 on1; replace HW := hide (bt HW.out (new_below _ on1)); have HP := hide p1; clear on1 p1)
        clear gk
        generalize wr.heap.size = D at HP ⊢
        have gk := HP.out.kl
        cases ok
        · have HE := hide (show R = ((k : Int), 1) by rw [HF.out (by rw [HT.out]; rfl) HI.out, HT.out]; rfl)
          rw [show ev (fe false) = err 1 from rfl] at HC
          unfold err at HC
          go_wp2_with (go_at_call 32; (with_reducible refine (HC.out _).mono ?_); rintro e w2 ⟨rfl, hb2⟩; replace HW := hide (bt HW.out hb2); clear hb2)
          go_ret2
          exact ⟨by rw [HE.out]; rfl, HW.out⟩
        · rw [show ev (fe true) = .nilIface from rfl] at HC
          go_upto_region 9 with (go_at_call 32; (with_reducible refine (HC.out _).mono ?_); rintro e w2 ⟨rfl, hb2⟩; replace HW := hide (bt HW.out hb2); replace HP := hide (HP.out.kept hb2); clear hb2)
          clear gk
          have HX := hide (fun W (hW : Below w.heap.size w W) => has_any g off k cap bs (el b 0) W (by omega) (Nat.lt_of_lt_of_le HG.out hW.size) (fun j hj => HR.out W hW j (by omega)))
          generalize hid bs k (el b 0) = hh at HX HT
          have HWd := hide (show Below w.heap.size w w2.drew from HW.out.drew)
          have c0 := rng_id (show w2.drew.rangeAt D 0 (bkC b).toList from HP.out.rng)
          generalize el b 0 = x0 at HX c0
          have j2 : (k : Int) ≤ (cap : Int) := by omega
          have HC0 := hide c0
          have HD := hide (show D < w2.drew.heap.size from HP.out.lt)
          go_region_held3 (fun W' => W'.cell? ⟨D, 0, none⟩ = some (.int .i64 x0))
            (first
              | exact HC0.out
              | exact HC1.out
              | go_keep)
            (first | (go_at_call 33; (with_reducible refine (HX.out _ HWd.out).mono ?_); rintro r w4 ⟨rfl, hb4⟩; have HC1 := hide ((hb4.cell (p := ⟨D, 0, none⟩) HD.out).trans HC0.out); replace HW := hide (HWd.out.trans (hb4.mono HWd.out.size)); clear hb4))
          clear HC0 HC1 HWd HX HP HC
          cases hh
          · have HE := hide (show (flt bs k != 0) = false by rw [HT.out]; rfl)
            go_wp2
            go_roundw
            case rel => exact ⟨k + 1, by omega, by go_num, fun j hj => if e : j = k then by rw [e]; exact HE.out else HI.out j (by omega), HW⟩
            case measure => simp [intOf]; omega
          · have HE := hide (show R = ((k : Int), 8) by rw [HF.out (by rw [HT.out]; rfl) HI.out, HT.out]; rfl)
            go_wp2
            go_ret2
            exact ⟨by rw [HE.out]; rfl, HW.out⟩
      · obtain rfl : bs.length = k := by omega
        go_wp2
        go_ret2
        exact ⟨by rw [HN.out HI.out]; rfl, HW.out⟩
end Go.Proofs.YtnhjabiciaoocaaDoor

namespace Go.Proofs.YtnhjabiciaoocaaDoor
open Go.RowKit
/-- are two addresses one? -/
def eqz (a b : List Int) : Bool := el a 0 == el b 0 && el a 1 == el b 1 && el a 2 == el b 2 && el a 3 == el b 3 && el a 4 == el b 4 && el a 5 == el b 5 && el a 6 == el b 6 && el a 7 == el b 7
theorem eqz_iff (a b : List Int) : eqz a b = true ↔ ∀ j, j < 8 → el a j = el b j := by
  unfold eqz
  simp only [Bool.and_eq_true, beq_iff_eq]
  refine ⟨fun ⟨⟨⟨⟨⟨⟨⟨h0, h1⟩, h2⟩, h3⟩, h4⟩, h5⟩, h6⟩, h7⟩ j hj => ?_, fun h => ⟨⟨⟨⟨⟨⟨⟨h 0 (by omega), h 1 (by omega)⟩, h 2 (by omega)⟩, h 3 (by omega)⟩, h 4 (by omega)⟩, h 5 (by omega)⟩, h 6 (by omega)⟩, h 7 (by omega)⟩⟩
  rcases (by omega : j = 0 ∨ j = 1 ∨ j = 2 ∨ j = 3 ∨ j = 4 ∨ j = 5 ∨ j = 6 ∨ j = 7) with rfl | rfl | rfl | rfl | rfl | rfl | rfl | rfl <;> assumption
/-- are two flows one? are two binds? -/
def eqf (a b : List Int) : Bool := el a 0 == el b 0 && eqz (cli a) (cli b) && el a 9 == el b 9 && eqz (dst a) (dst b) && el a 18 == el b 18
/-- the question whether two are one, held shut for a walk. -/
def feq (x y : Value) : Sem Bool := Op.equalIn 10000 85 x y
theorem feq_shut (x y : Value) : Op.equalIn 10000 85 x y = feq x y := rfl
end Go.Proofs.YtnhjabiciaoocaaDoor

namespace Go.Proofs.YtnhjabiciaoocaaDoor
open Go.RowKit
/-- what stands ahead. -/
def hd (k : Int) : List Int := [13, 10, 13, 10, 0, 13, 10, 81, 85, 73, 84, 10, 33, k, 0, 36]
def kd (f : List Int) : Int := if el f 0 = 17 then 34 else 33
def lst (f : List Int) : List Int := [el f 9 / 256, el f 9 % 256, el f 18 / 256, el f 18 % 256]
/-- a flow's bytes. -/
def hb (f : List Int) : List Int := hd (kd f) ++ by16 (cli f) 8 ++ by16 (dst f) 8 ++ lst f
end Go.Proofs.YtnhjabiciaoocaaDoor

namespace Go.Proofs.YtnhjabiciaoocaaDoor
open Go.RowKit
theorem Own.of {base : Nat} {w : World} {v : Value} {zs : List Int} (ho : SM.Oct zs) (h : OwnG 5 base w v (u8s zs)) : Own base w v zs := by
  refine ⟨ho, ?_⟩
  have h' : w.ownsRow base 5 1 v (u8s zs).length (u8s zs) := h
  unfold u8s at h'
  rw [List.length_map] at h'
  exact h'
/-- slices of bytes made, held shut. -/
def hsl (ps : Array (Nat × Value)) : Sem Value := Instr.buildSlice 64 16 ps
theorem hsl_shut (ps : Array (Nat × Value)) : Instr.buildSlice 64 16 ps = hsl ps := rfl
def h4l (ps : Array (Nat × Value)) : Sem Value := Instr.buildSlice 64 4 ps
theorem h4l_shut (ps : Array (Nat × Value)) : Instr.buildSlice 64 4 ps = h4l ps := rfl
def HI (w : World) (f : List Int) (W : World) : Prop := FlIn w.heap.size f W ∧ Below w.heap.size w W
theorem HI.kept {w : World} {f : List Int} {W W' : World} (h : HI w f W) (hb : Below W.heap.size W W') : HI w f W' := ⟨h.1.kept hb, bt h.2 hb⟩
theorem HI.set {w : World} {f : List Int} {W : World} (h : HI w f W) {B : Nat} (hB : w.heap.size < B) (j : Nat) (v : Value) : HI w f (W.setCell ⟨B, j, none⟩ v) :=
  ⟨(((Below.refl B W).setCell (p := ⟨B, j, none⟩) (Nat.le_refl _) v).block w.heap.size hB).trans h.1, h.2.setCell (p := ⟨B, j, none⟩) (Nat.le_of_lt hB) v⟩
theorem Own.bl {base : Nat} {w : World} {v : Value} {zs : List Int} (h : Own base w v zs) : ∀ k, v.ownBlock = some k → base ≤ k := by
  intro k e
  rcases h.2.2 with ⟨rfl, _⟩ | ⟨g, cap, cur, rfl, hb, _⟩
  · simp [Value.ownBlock] at e
  · have : g = k := by simpa [Value.ownBlock] using e
    omega
attribute [local go_sem ↓] hload_shut hsl_shut h4l_shut
end Go.Proofs.YtnhjabiciaoocaaDoor

namespace Go.Proofs.YtnhjabiciaoocaaDoor
open Go.RowKit
/-- what stands ahead of every head. -/
def h12 : List Int := [13, 10, 13, 10, 0, 13, 10, 81, 85, 73, 84, 10]
def h4 (k : Int) : List Int := [33, k, 0, 36]
attribute [local go_sem ↓] hload_shut h4l_shut fload_shut
end Go.Proofs.YtnhjabiciaoocaaDoor

namespace Go.Proofs.YtnhjabiciaoocaaDoor
open Go.RowKit
/-- the kind of a code. -/
def kc (c : Int) : Int := if c = 33 then 6 else if c = 34 then 17 else 0
end Go.Proofs.YtnhjabiciaoocaaDoor

namespace Go.Proofs.YtnhjabiciaoocaaDoor
open Go.RowKit
/-- the flow that is read of bytes, whatever they are. -/
def pf (zs : List Int) : List Int := kc (zs.getD 13 0) :: (adr zs 16 ++ [P4.wd zs 48] ++ adr zs 32 ++ [P4.wd zs 50])
attribute [local go_sem ↓] fbl_shut fload_shut
end Go.Proofs.YtnhjabiciaoocaaDoor
