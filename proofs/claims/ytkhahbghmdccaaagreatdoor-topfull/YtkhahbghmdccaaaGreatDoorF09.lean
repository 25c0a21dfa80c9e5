/- Bytes at a place; bytes kept where another block has turned. Package ip6: read, by a contract. Packets of sixes in numbers: bytes read as a packet and written again. Package ip6: Decode, by contracts. -/
import Derived.Test.YtkhahbghmdccaaaGreatDoorF02
import Derived.Test.YtkhahbghmdccaaaGreatDoorProg
import Derived.OwnWalk
import Derived.Deep.RegionHeld3
import Derived.Deep.DrawnRows
import Derived.WalkKit
import Derived.LaidEql
import Derived.BigQuiet
import Derived.Below
import Derived.Laws.AppendOwnNone
import Derived.Laws.MakeOwn
import Derived.Deep.RegionLaw
import Derived.Test.YtkhahbghmdccaaaGreatDoorF08
namespace Go.Proofs.YtkhahbghmdccaaaGreatDoor
open Go.RowKit
theorem Row8.at_ {w : World} {g off len cap : Nat} {zs : List Int} (h : Row8 w (some ⟨g, off, none⟩) len cap zs) (i : Nat) (hi : i < len) : w.cell? ⟨g, off + i, none⟩ = some (.int .u8 (zs.getD i 0)) := by
  obtain ⟨-, -, -, -, h5⟩ := h
  obtain ⟨b, o, e, hcell⟩ := h5 (by omega)
  cases e
  exact hcell i hi
theorem Only.row {B : Nat} {w w' : World} (h : Only B w w') {g off len cap : Nat} {zs : List Int} (r : Row8 w (some ⟨g, off, none⟩) len cap zs) (hg : g ≠ B) : Row8 w' (some ⟨g, off, none⟩) len cap zs := by
  obtain ⟨h1, h2, h3, h4, h5⟩ := r
  refine ⟨h1, h2, h3, h4, fun hp => ?_⟩
  obtain ⟨b, o, e, hc⟩ := h5 hp
  cases e
  exact ⟨g, off, rfl, fun i hi => (World.cell?_of_block (a := ⟨g, off + i, none⟩) (h.2.2.2.2 g hg)).trans (hc i hi)⟩
end Go.Proofs.YtkhahbghmdccaaaGreatDoor

namespace Go.Proofs.YtkhahbghmdccaaaGreatDoor.V6
open Go.RowKit
attribute [local go_sem ↓] Go.wp_at_zero Go.wp_at_succ
theorem adr_part (zs : List Int) (j : Nat) : adr ((zs.drop j).take 16) 0 = adr zs j := by
  unfold adr
  refine List.map_congr_left fun k hk => ?_
  have hk : k < 8 := by simpa using hk
  rw [Nat.zero_add, Nat.zero_add, P4.getD_take (by omega), P4.getD_take (by omega), P4.getD_drop, P4.getD_drop]
theorem six_at (g off len cap : Nat) (zs : List Int) (w : World) (j c : Nat) (hr : Row8 w (some ⟨g, off, none⟩) len cap zs) (h1 : j + 16 ≤ len) :
    Calls Tryz.prog 200 #[.slice (some ⟨g, off + j, none⟩) 16 c] w fun e w' => e = .returned (.agg (sixC (adr zs j))) ∧ Below w.heap.size w w' := by
  have h := hr.part j (j + 16) (by omega) h1 (some ⟨g, off + j, none⟩) c (fun b o _ e => by cases e; rfl) (fun e => by cases e)
  rw [show j + 16 - j = 16 by omega] at h
  have := csix_any g (off + j) c _ w h
  rw [adr_part] at this
  exact this
theorem step_app {w : World} {ops : Array Oper} {o : Oper} {a : Act} {K : Act → World → Prop} {Q : Exit → Act → World → Prop} {E : Prop} (hgd : o.guard = none) (s x : Operand)
    (ho : o.op = .call { callee := .builtin .append, args := #[s, x], argTypes := #[37, 37] })
    (base : Nat) (v : Value) (zs : List Int) (hs : a.eval s = v) (hown : Own base w v zs) (ao : Option Addr) (hao : ∃ ad, ao = some ad) (len cap : Nat) (ys : List Int) (n : Nat) (hn : (zs ++ ys).length = n)
    (hx : a.eval x = .slice ao len cap) (hrow : Row8 w ao len cap ys) (hlen : zs.length + len ≤ 1000000000) (hbase : base ≤ w.heap.size)
    (h : ∀ a' c' w', Own base w' (.slice a' n c') (zs ++ ys) → w.grownBy w' v.ownBlock → K (a.put o.dst (.slice a' n c')) w') : if Region.wanted o (yielded ops a.tmps) = true then Oper.wp Tryz.prog o a w K Q else E := by
  have hw : Region.wanted o (yielded ops a.tmps) = true := by simp [Region.wanted, hgd]
  rw [if_pos hw]
  obtain ⟨ad, rfl⟩ := hao
  obtain ⟨i0, hi, hz0, hz1, hz2⟩ := info_parts Tryz.infoByte
  obtain ⟨r1, r2, r3, r4, r5⟩ := hrow
  refine wp_append_own w s x 37 ho base 5 i0 (.int .u8 0) 1 1 Tryz.underlying37 hi hz0 hz1 hz2 rfl (by decide) v zs.length _ hs hown.2 ad len cap (ys.map (Value.int .u8)) hx (by simp [r1]) ?_ (ints_oneCell .u8 ys) (by unfold maxLen; omega) (by omega) hbase ?_
  · intro j u hu
    have hj : j < ys.length := by
      have := (List.getElem?_eq_some_iff.1 hu).1
      simpa using this
    obtain ⟨b, off, h6, h7⟩ := r5 (by omega)
    have hc := h7 j (by omega)
    obtain rfl : ad = ⟨b, off, none⟩ := by simpa using h6
    have e : (⟨b, off, none⟩ : Addr).add j = ⟨b, off + j, none⟩ := by unfold Addr.add; split <;> simp_all
    rw [e, hc]
    rw [List.getElem?_map] at hu
    simp [hj] at hu ⊢
    exact hu
  · intro v' w' h1 h2 _
    have ho : Own base w' v' (zs ++ ys) := by
      refine ⟨SM.oct_append _ _ hown.1 r3, ?_⟩
      rw [List.map_append, List.length_append, r1]
      exact h1
    obtain ⟨a', c', e, _, _⟩ := ho.row8
    rw [hn] at e
    rw [e] at ho ⊢
    exact h a' c' w' ho h2
attribute [local go_sem ↓] hstore_shut
set_option maxRecDepth 100000 in
set_option maxHeartbeats 4000000 in
theorem read_raw (g off len cap : Nat) (zs : List Int) (w : World) (hr : Row8 w (some ⟨g, off, none⟩) len cap zs) (h40 : 40 ≤ len) (h360 : len ≤ 360) (hcl : len ≤ cap) (hcm : cap ≤ maxLen) :
    Calls Tryz.prog 165 #[.slice (some ⟨g, off, none⟩) len cap] w fun e w' => ∃ a' c', e = .returned (.agg (pkC (adr zs 8) (adr zs 24) (zs.getD 7 0) (zs.getD 6 0) a' (len - 40) c')) ∧ Own w.heap.size w' (.slice a' (len - 40) c') (zs.drop 40) ∧ Below w.heap.size w w' := by
  unfold maxLen at hcm
  have hcl' : (len : Int) ≤ (cap : Int) := by omega
  have h40' : (40 : Int) ≤ (len : Int) := by omega
  have h6' : (6 : Int) < (len : Int) := by omega
  have h7' : (7 : Int) < (len : Int) := by omega
  have h24' : (24 : Int) ≤ (cap : Int) := by omega
  have h40c : (40 : Int) ≤ (cap : Int) := by omega
  have hn8 : cap ≠ 8 := by omega
  have hn24 : cap ≠ 24 := by omega
  have hb0 : Below w.heap.size w (w.alloc (.cells zero6 101)).drew := ((Below.refl _ _).alloc (Nat.le_refl _) _).drew
  have HR0 := hide (hr.below hb0)
  have HPK := hide (show PkIn w.heap.size [] [] 0 0 none 0 0 (w.alloc (.cells zero6 101)).drew from zero_new w)
  have hcel : ∀ i, i < len → w.cell? ⟨g, off + i, none⟩ = some (.int .u8 (zs.getD i 0)) := by
    obtain ⟨-, -, -, -, h5⟩ := hr
    obtain ⟨b, o, e, hcell⟩ := h5 (by omega)
    cases e
    exact hcell
  have hx6 := hcel 6 (by omega)
  have hx7 := hcel 7 (by omega)
  clear hcel
  have HK := hide (fun W (h : Row8 W (some ⟨g, off, none⟩) len cap zs) => show W.cell? ⟨g, off + 6, none⟩ = some (.int .u8 (zs.getD 6 0)) ∧ W.cell? ⟨g, off + 7, none⟩ = some (.int .u8 (zs.getD 7 0)) from ⟨h.at_ 6 (by omega), h.at_ 7 (by omega)⟩)
  have hw6 := hr.2.2.1 6
  have hw7 := hr.2.2.1 7
  have had : ∃ ad, (if cap = 40 then some (⟨g, off, none⟩ : Addr) else some ⟨g, off + 40, none⟩) = some ad := by split <;> exact ⟨_, rfl⟩
  have hpart := fun W (h : Row8 W (some ⟨g, off, none⟩) len cap zs) => (h.part 40 len h40 (Nat.le_refl _) (if cap = 40 then some ⟨g, off, none⟩ else some ⟨g, off + 40, none⟩) (cap - 40) (fun b o hlt e => by cases e; rw [if_neg (by omega)]) (fun e => by split at e <;> cases e)).congr (show (zs.drop 40).take (len - 40) = zs.drop 40 from List.take_of_length_le (by rw [List.length_drop, hr.1]; exact Nat.le_refl _))
  obtain ⟨ao, hao⟩ : ∃ ao, (if cap = 40 then some (⟨g, off, none⟩ : Addr) else some ⟨g, off + 40, none⟩) = ao := ⟨_, rfl⟩
  rw [hao] at hpart had
  have HPart := hide hpart
  have HAD := hide had
  clear hpart had
  have HL := hide (show ([] ++ zs.drop 40).length = len - 40 by rw [List.nil_append, List.length_drop, hr.1])
  have HLen := hide (show ([] : List Int).length + (len - 40) ≤ 1000000000 by simp; omega)
  have HB0 := hide hb0
  have hge : w.heap.size ≠ g := World.new_ne w _ hx6
  have HS := hide (fun W c (h : Row8 W (some ⟨g, off, none⟩) len cap zs) => six_at g off len cap zs W 8 c h (by omega))
  have HD := hide (fun W c (h : Row8 W (some ⟨g, off, none⟩) len cap zs) => six_at g off len cap zs W 24 c h (by omega))
  unfold sixC at HS HD
  generalize adr zs 8 = S at HS ⊢
  generalize adr zs 24 = D at HD ⊢
  clear hr hb0
  generalize zs.getD 6 0 = z6 at hx6 hw6 HK ⊢
  generalize zs.getD 7 0 = z7 at hx7 hw7 HK ⊢
  have hz6 : IntKind.i64.wrap z6 = z6 := by rw [IntKind.wrap_i64]; omega
  have hz7 : IntKind.i64.wrap z7 = z7 := by rw [IntKind.wrap_i64]; omega
  unfold zero6 at HR0 HPK HB0
  go_enter Tryz.func165, Tryz.ntmps165
  go_upto_region 1 with fail
  go_region_held3 (fun w' => w'.cell? ⟨g, off + 6, none⟩ = some (.int .u8 z6) ∧ w'.cell? ⟨g, off + 7, none⟩ = some (.int .u8 z7))
    (first
      | go_keep
      | exact HK.out _ HR0.out
      | exact HK.out _ HR6.out)
    (first
      | (go_at_call 200; with_reducible refine (HS.out _ _ HR0.out).mono ?_; rintro e w1 ⟨rfl, hb1⟩; replace HPK := hide (HPK.out.kept hb1); replace HB0 := hide (bt HB0.out hb1); replace HR0 := hide (HR0.out.below hb1); clear hb1)
      | (go_at_call 200; with_reducible refine (HD.out _ _ HR0.out).mono ?_; rintro e w2 ⟨rfl, hb2⟩; replace HPK := hide (HPK.out.kept hb2); replace HB0 := hide (bt HB0.out hb2); replace HR0 := hide (HR0.out.below hb2); clear hb2)
      | (refine step_app rfl (.const (.slice none 0 0)) (.tmp 18) rfl (w.heap.size + 1) _ [] (by rfl) (Own.nil _ _) _ HAD.out (len - 40) (cap - 40) _ (len - 40) HL.out (by rfl) (HPart.out _ HR0.out) HLen.out HPK.out.lt ?_; intro a5 c5 w5 o5 g5; replace HPK := hide (HPK.out.grown g5 (by intro e; cases e)); replace HB0 := hide (HB0.out.grown g5 HB0.out.size (fun k h => by cases h)); replace HR0 := hide (HR0.out.grown g5 (fun _ _ _ e => by cases e)); obtain ⟨w6, hst, p6, on6⟩ := HPK.out.held S D z7 z6 a5 (len - 40) c5; unfold pkC at hst; replace p6 := hide p6; have HR6 := hide (on6.row HR0.out hge.symm); replace on6 := hide on6))
  have HB1 := hide (on6.out.below HB0.out (Nat.le_refl _))
  have HO1 := hide (on6.out.own o5 (Nat.lt_succ_self _))
  go_wp2
  try simp only [Exit.inBlock, Exit.then]
  refine bodyPost_ret (pk_result rfl _ _ w.heap.size S D z7 z6 a5 (len - 40) c5 rfl p6.out) rfl ?_
  exact ⟨_, _, rfl, by simpa using HO1.out.mono (Nat.le_succ _), HB1.out⟩
end Go.Proofs.YtkhahbghmdccaaaGreatDoor.V6

namespace Go.Proofs.YtkhahbghmdccaaaGreatDoor.V6
open Go.RowKit
theorem ok6_adr (z : List Int) (ho : SM.Oct z) (o : Nat) : Ok6 (adr z o) := fun k hk => by
  rw [el_adr z o k hk]
  have h1 := ho (o + 2 * k)
  have h2 := ho (o + (2 * k + 1))
  exact ⟨by omega, by omega⟩
theorem by16_get (a : List Int) (i : Nat) (hi : i < 16) : (by16 a 8).getD i 0 = if i % 2 = 0 then el a (i / 2) / 256 else el a (i / 2) % 256 := by
  rcases (by omega : i = 0 ∨ i = 1 ∨ i = 2 ∨ i = 3 ∨ i = 4 ∨ i = 5 ∨ i = 6 ∨ i = 7 ∨ i = 8 ∨ i = 9 ∨ i = 10 ∨ i = 11 ∨ i = 12 ∨ i = 13 ∨ i = 14 ∨ i = 15) with rfl | rfl | rfl | rfl | rfl | rfl | rfl | rfl | rfl | rfl | rfl | rfl | rfl | rfl | rfl | rfl <;> rfl
theorem by16_adr (z : List Int) (ho : SM.Oct z) (o : Nat) (h : o + 16 ≤ z.length) : by16 (adr z o) 8 = (z.drop o).take 16 := by
  refine P4.ext_getD (by rw [by16_len, List.length_take, List.length_drop]; omega) fun i hi => ?_
  have hi16 : i < 16 := by rw [List.length_take] at hi; omega
  rw [P4.getD_take hi16, P4.getD_drop, by16_get _ i hi16, el_adr z o (i / 2) (by omega)]
  have h1 := ho (o + 2 * (i / 2))
  have h2 := ho (o + (2 * (i / 2) + 1))
  by_cases hp : i % 2 = 0
  · rw [if_pos hp]
    have e : o + 2 * (i / 2) = o + i := by omega
    rw [e] at h1 ⊢
    omega
  · rw [if_neg hp]
    have e : o + (2 * (i / 2) + 1) = o + i := by omega
    rw [e] at h2 ⊢
    omega
def enc (z : List Int) : List Int := bys (adr z 8) (adr z 24) (z.getD 7 0) (z.getD 6 0) (z.drop 40)
theorem enc_len (z : List Int) (h : 40 ≤ z.length) : (enc z).length = z.length := by
  unfold enc
  rw [bys_len, List.length_drop]
  omega
def Good (z : List Int) : Prop := 40 ≤ z.length ∧ z.length ≤ 360 ∧ P4.wd z 0 = 24576 ∧ P4.wd z 2 = 0 ∧ P4.wd z 4 = (z.length : Int) - 40
theorem parts (z : List Int) : z = ((z.take 8 ++ (z.drop 8).take 16) ++ (z.drop 24).take 16) ++ z.drop 40 := by
  have e1 : z.take 8 ++ (z.drop 8).take 16 = z.take 24 := by rw [show 24 = 8 + 16 from rfl, List.take_add]
  have e2 : z.take 24 ++ (z.drop 24).take 16 = z.take 40 := by rw [show 40 = 24 + 16 from rfl, List.take_add]
  rw [e1, e2, List.take_append_drop]
theorem enc_parts (z : List Int) (ho : SM.Oct z) (h : 40 ≤ z.length) : enc z = ((h8 ((z.length : Int) - 40) (z.getD 6 0) (z.getD 7 0) ++ (z.drop 8).take 16) ++ (z.drop 24).take 16) ++ z.drop 40 := by
  unfold enc bys
  rw [by16_adr z ho 8 (by omega), by16_adr z ho 24 (by omega), show (((z.drop 40).length : Nat) : Int) = (z.length : Int) - 40 by rw [List.length_drop]; omega]
theorem same_iff (z : List Int) (ho : SM.Oct z) (h0 : 40 ≤ z.length) (h1 : z.length ≤ 360) : enc z = z ↔ Good z := by
  have g0 := ho 0; have g1 := ho 1; have g2 := ho 2; have g3 := ho 3; have g4 := ho 4; have g5 := ho 5
  constructor
  · intro e
    rw [enc_parts z ho h0] at e
    have e0 := congrArg (fun l => l.getD 0 0) e
    have e1 := congrArg (fun l => l.getD 1 0) e
    have e2 := congrArg (fun l => l.getD 2 0) e
    have e3 := congrArg (fun l => l.getD 3 0) e
    have e4 := congrArg (fun l => l.getD 4 0) e
    have e5 := congrArg (fun l => l.getD 5 0) e
    replace e0 : 96 = z.getD 0 0 := e0
    replace e1 : 0 = z.getD 1 0 := e1
    replace e2 : 0 = z.getD 2 0 := e2
    replace e3 : 0 = z.getD 3 0 := e3
    replace e4 : ((z.length : Int) - 40) / 256 = z.getD 4 0 := e4
    replace e5 : ((z.length : Int) - 40) % 256 = z.getD 5 0 := e5
    refine ⟨h0, h1, ?_, ?_, ?_⟩ <;> unfold P4.wd <;> simp only [Nat.reduceAdd] <;> omega
  · rintro ⟨-, -, w0, w2, w4⟩
    unfold P4.wd at w0 w2 w4
    simp only [Nat.reduceAdd] at w0 w2 w4
    rw [enc_parts z ho h0]
    have e8 : h8 ((z.length : Int) - 40) (z.getD 6 0) (z.getD 7 0) = z.take 8 := by
      refine P4.ext_getD (by rw [List.length_take]; show 8 = _; omega) fun j hj => ?_
      have hj8 : j < 8 := by rw [List.length_take] at hj; omega
      rw [P4.getD_take hj8]
      rcases (by omega : j = 0 ∨ j = 1 ∨ j = 2 ∨ j = 3 ∨ j = 4 ∨ j = 5 ∨ j = 6 ∨ j = 7) with rfl | rfl | rfl | rfl | rfl | rfl | rfl | rfl
      · show 96 = _; omega
      · show 0 = _; omega
      · show 0 = _; omega
      · show 0 = _; omega
      · show ((z.length : Int) - 40) / 256 = _; omega
      · show ((z.length : Int) - 40) % 256 = _; omega
      · rfl
      · rfl
    rw [e8]
    exact (parts z).symm
theorem bys_oct (s d : List Int) (h k : Int) (body : List Int) (ho : Okp s d h k) (hl : body.length ≤ 320) (hb : SM.Oct body) : SM.Oct (bys s d h k body) :=
  SM.oct_append _ _ (SM.oct_append _ _ (SM.oct_append _ _ (h8_oct _ _ _ (by omega) ho.2.2.2 ho.2.2.1) (oct_by16 s ho.1 8 (by omega))) (oct_by16 d ho.2.1 8 (by omega))) hb
theorem bys_good (s d : List Int) (h k : Int) (body : List Int) (hl : body.length ≤ 320) : Good (bys s d h k body) := by
  have hlen := bys_len s d h k body
  refine ⟨by omega, by omega, ?_, ?_, ?_⟩
  · show (256 * 96 + 0 : Int) = _; omega
  · show (256 * 0 + 0 : Int) = _; omega
  · show (256 * ((body.length : Int) / 256) + (body.length : Int) % 256 : Int) = _
    rw [hlen]
    omega
theorem get_right (xs ys : List Int) (n i : Nat) (h : xs.length = n) : (xs ++ ys).getD (n + i) 0 = ys.getD i 0 := by
  subst h
  simp [List.getD_eq_getElem?_getD, List.getElem?_append_right]
theorem get_left (xs ys : List Int) (i : Nat) (h : i < xs.length) : (xs ++ ys).getD i 0 = xs.getD i 0 := by
  simp [List.getD_eq_getElem?_getD, List.getElem?_append_left h]
theorem bys_get (s d : List Int) (h k : Int) (body : List Int) (i : Nat) (hi : i < 16) : (bys s d h k body).getD (8 + i) 0 = (by16 s 8).getD i 0 ∧ (bys s d h k body).getD (24 + i) 0 = (by16 d 8).getD i 0 := by
  unfold bys
  have l1 := by16_len s 8
  have l2 := by16_len d 8
  have l8 : (h8 (body.length : Int) k h).length = 8 := rfl
  constructor
  · rw [List.append_assoc, List.append_assoc, get_right _ _ 8 i l8, get_left _ _ i (by omega)]
  · rw [List.append_assoc, get_right _ _ 24 i (by rw [List.length_append]; omega), get_left _ _ i (by omega)]
theorem adr_bys (s d : List Int) (h k : Int) (body : List Int) (ho : Okp s d h k) : (∀ j, j < 8 → el (adr (bys s d h k body) 8) j = el s j) ∧ (∀ j, j < 8 → el (adr (bys s d h k body) 24) j = el d j) := by
  constructor <;> intro j hj
  · rw [el_adr _ 8 j hj, (bys_get s d h k body (2 * j) (by omega)).1, (bys_get s d h k body (2 * j + 1) (by omega)).1, by16_get s _ (by omega), by16_get s _ (by omega), if_pos (by omega), if_neg (by omega), show 2 * j / 2 = j by omega, show (2 * j + 1) / 2 = j by omega]
    have := ho.1 j hj
    omega
  · rw [el_adr _ 24 j hj, (bys_get s d h k body (2 * j) (by omega)).2, (bys_get s d h k body (2 * j + 1) (by omega)).2, by16_get d _ (by omega), by16_get d _ (by omega), if_pos (by omega), if_neg (by omega), show 2 * j / 2 = j by omega, show (2 * j + 1) / 2 = j by omega]
    have := ho.2.1 j hj
    omega
theorem bys_drop (s d : List Int) (h k : Int) (body : List Int) : (bys s d h k body).drop 40 = body := by
  unfold bys
  have l1 := by16_len s 8
  have l2 := by16_len d 8
  have l8 : (h8 (body.length : Int) k h).length = 8 := rfl
  exact List.drop_left' (by rw [List.length_append, List.length_append]; omega)
theorem pkC_congr {s d s' d' : List Int} (h1 : ∀ j, j < 8 → el s j = el s' j) (h2 : ∀ j, j < 8 → el d j = el d' j) (h k : Int) (a : Option Addr) (len cap : Nat) : pkC s d h k a len cap = pkC s' d' h k a len cap := by
  unfold pkC
  rw [h1 0 (by omega), h1 1 (by omega), h1 2 (by omega), h1 3 (by omega), h1 4 (by omega), h1 5 (by omega), h1 6 (by omega), h1 7 (by omega), h2 0 (by omega), h2 1 (by omega), h2 2 (by omega), h2 3 (by omega), h2 4 (by omega), h2 5 (by omega), h2 6 (by omega), h2 7 (by omega)]
end Go.Proofs.YtkhahbghmdccaaaGreatDoor.V6

namespace Go.Proofs.YtkhahbghmdccaaaGreatDoor.V6
open Go.RowKit
def pk0 : Value := .agg (pkC [] [] 0 0 none 0 0)
def err (k : Int) : Value := .iface 28 (.int .i64 k)
set_option maxRecDepth 100000 in
set_option maxHeartbeats 2000000 in
theorem decode_len (a : Option Addr) (len cap : Nat) (w : World) (h : len < 40 ∨ 360 < len) (hm : len ≤ maxLen) :
    Calls Tryz.prog 116 #[.slice a len cap] w fun e w' => e = .returned (.tuple #[pk0, err 5]) ∧ Below w.heap.size w w' := by
  unfold maxLen at hm
  have HB := hide (al_below w (.cells zero6 101))
  have HP := hide (zero_new w)
  unfold zero6 at HB HP
  rcases h with h | h
  · go_enter Tryz.func116, Tryz.ntmps116
    go_upto_region 1 with fail
    generalize w.alloc _ = W at HB HP ⊢
    go_wp2_with (first | (refine at_store rfl (.tmp 2) (.tmp 15) rfl rfl HP.out [] [] 0 0 none 0 0 rfl ?_; intro w5 p5 on5; replace HB := hide (on5.below HB.out (Nat.le_refl _)); replace p5 := hide p5; clear on5))
    try simp only [Exit.inBlock, Exit.then]
    refine bodyPost_ret (results_pk rfl _ _ w.heap.size [] [] 0 0 none 0 0 rfl p5.out) rfl ?_
    exact ⟨rfl, HB.out⟩
  · have h' : ¬ len < 40 := by omega
    go_enter Tryz.func116, Tryz.ntmps116
    go_upto_region 1 with fail
    generalize w.alloc _ = W at HB HP ⊢
    go_wp2_with (first | (refine at_store rfl (.tmp 2) (.tmp 15) rfl rfl HP.out [] [] 0 0 none 0 0 rfl ?_; intro w5 p5 on5; replace HB := hide (on5.below HB.out (Nat.le_refl _)); replace p5 := hide p5; clear on5))
    try simp only [Exit.inBlock, Exit.then]
    refine bodyPost_ret (results_pk rfl _ _ w.heap.size [] [] 0 0 none 0 0 rfl p5.out) rfl ?_
    exact ⟨rfl, HB.out⟩
set_option maxRecDepth 100000 in
set_option maxHeartbeats 8000000 in
theorem decode_raw (g off len cap : Nat) (zs : List Int) (w : World) (hr : Row8 w (some ⟨g, off, none⟩) len cap zs) (h40 : 40 ≤ len) (h360 : len ≤ 360) (hcl : len ≤ cap) (hcm : cap ≤ maxLen) (r : Bool) (h1 : (enc zs = zs) ↔ r = true) :
    Calls Tryz.prog 116 #[.slice (some ⟨g, off, none⟩) len cap] w fun e w' => ((r = false ∧ e = .returned (.tuple #[pk0, err 5])) ∨
      (r = true ∧ ∃ a' c', e = .returned (.tuple #[pk (adr zs 8) (adr zs 24) (zs.getD 7 0) (zs.getD 6 0) a' (len - 40) c', .nilIface]) ∧ (Row8 w' a' (len - 40) c' (zs.drop 40) ∧ len - 40 ≤ c' ∧ c' ≤ maxLen))) ∧ Below w.heap.size w w' := by
  have hlen := hr.1
  have hoct := hr.2.2.1
  have HB := hide (al_below w (.cells zero6 101))
  have HP := hide (zero_new w)
  unfold zero6 at HB HP
  have HRow := hide hr
  have HRead := hide (fun W (h : Row8 W (some ⟨g, off, none⟩) len cap zs) => read_raw g off len cap zs W h h40 h360 hcl hcm)
  have HOk := hide (show Okp (adr zs 8) (adr zs 24) (zs.getD 7 0) (zs.getD 6 0) from ⟨ok6_adr zs hoct 8, ok6_adr zs hoct 24, hoct 7, hoct 6⟩)
  have HEL := hide ((enc_len zs (by omega)).trans hlen)
  have HSame := hide h1
  have HEnc := hide (show bys (adr zs 8) (adr zs 24) (zs.getD 7 0) (zs.getD 6 0) (zs.drop 40) = enc zs from rfl)
  generalize adr zs 8 = s at HRead HOk HEnc ⊢
  generalize adr zs 24 = d at HRead HOk HEnc ⊢
  generalize zs.getD 7 0 = t at HRead HOk HEnc ⊢
  generalize zs.getD 6 0 = k at HRead HOk HEnc ⊢
  have HEncode := hide (fun a' c' W (h : Row8 W a' (len - 40) c' (zs.drop 40)) => encode_ok s d t k a' (len - 40) c' (zs.drop 40) W HOk.out (by omega) h)
  rw [HEnc.out] at HEncode
  have hcm' := hcm
  unfold maxLen at hcm'
  unfold pk at HEncode
  clear hr hoct h1 HEnc
  go_enter Tryz.func116, Tryz.ntmps116
  go_upto_region 1 with fail
  generalize w.alloc _ = W0 at HB HP ⊢
  have hlW := HP.out.lt
  have HZ := hide (fun W => zero_new W)
  unfold zero6 at HZ
  go_upto_region 4 with (first
    | (go_at_call 165; refine (HRead.out _ (HRow.out.below HB.out)).mono ?_; rintro e w1 ⟨a1, c1, rfl, hown1, hb1⟩; replace HB := hide (bt HB.out hb1); replace HP := hide (HP.out.kept hb1); replace hown1 := hide hown1; clear hb1)
    | (refine at_store rfl (.tmp 4) (.tmp 18) rfl rfl (HZ.out w1) s d t k a1 (len - 40) c1 rfl ?_; intro w2 p2 on2; replace p2 := hide p2; replace on2 := hide on2))
  have hb2 := (al_below w1 (.cells zero6 101))
  unfold zero6 at hb2
  have hB2 : Below w1.heap.size w1 w2 := on2.out.below hb2 (Nat.le_refl _)
  replace HB := hide (bt HB.out hB2)
  replace HP := hide (HP.out.kept hB2)
  replace hown1 := hide (hown1.out.kept hB2)
  clear hb2 hB2 on2 HZ HRead
  generalize w1.heap.size = B1 at p2 ⊢
  go_upto_region 5 with (first
    | (refine at_load rfl (.tmp 4) rfl rfl p2.out ?_)
    | (go_at_call 90; refine (HEncode.out a1 c1 _ hown1.out.toRow).mono ?_; rintro e w3 ⟨v, rfl, ho3, hb3⟩; obtain ⟨gE, cE, rfl, hE1, hE2, -, -, hrowE⟩ := ho3.form (by rw [HEL.out]; omega); rw [HEL.out] at hE1 hrowE ⊢; replace HB := hide (bt HB.out hb3); replace HP := hide (HP.out.kept hb3); replace p2 := hide (p2.out.kept hb3); replace hown1 := hide (hown1.out.kept hb3); replace hrowE := hide hrowE; clear hb3 ho3))
  have HEq := hide (equal_any _ _ _ _ _ _ _ _ _ hrowE.out (HRow.out.below HB.out) r HSame.out)
  have hlt := HP.out.lt
  cases r
  · go_wp2_with (first
      | (go_at_call 72; refine HEq.out.mono ?_; rintro e w4 ⟨rfl, rfl⟩)
      | (refine at_store rfl (.tmp 2) (.tmp 32) rfl rfl HP.out [] [] 0 0 none 0 0 rfl ?_; intro w5 p5 on5; replace HB := hide (on5.below HB.out (Nat.le_refl _)); replace p5 := hide p5; clear on5))
    try simp only [Exit.inBlock, Exit.then]
    refine bodyPost_ret (results_pk rfl _ _ w.heap.size [] [] 0 0 none 0 0 rfl p5.out) rfl ?_
    first
    | exact ⟨rfl, HB.out⟩
    | exact ⟨.inl ⟨rfl, rfl⟩, HB.out⟩
  · go_wp2_with (first
      | (go_at_call 72; refine HEq.out.mono ?_; rintro e w4 ⟨rfl, rfl⟩)
      | (refine at_load rfl (.tmp 4) rfl rfl p2.out ?_)
      | (refine at_store rfl (.tmp 2) (.tmp 34) rfl rfl HP.out s d t k a1 (len - 40) c1 rfl ?_; intro w5 p5 on5; replace HB := hide (on5.below HB.out (Nat.le_refl _)); replace hown1 := hide (on5.own hown1.out hlW); replace p5 := hide p5; clear on5))
    try simp only [Exit.inBlock, Exit.then]
    refine bodyPost_ret (results_pk rfl _ _ w.heap.size s d t k a1 (len - 40) c1 rfl p5.out) rfl ?_
    first
    | exact ⟨⟨a1, c1, rfl, hown1.out.toRow, ⟨by have h9 := hown1.out.caps.1; omega, hown1.out.caps.2⟩⟩, HB.out⟩
    | exact ⟨.inr ⟨rfl, a1, c1, rfl, hown1.out.toRow, ⟨by have h9 := hown1.out.caps.1; omega, hown1.out.caps.2⟩⟩, HB.out⟩
theorem decode_any (a : Option Addr) (len cap : Nat) (zs : List Int) (w : World) (hr : Row8 w a len cap zs) (hcl : len ≤ cap) (hcm : cap ≤ maxLen) :
    Calls Tryz.prog 116 #[.slice a len cap] w fun e w' => ((¬ Good zs ∧ e = .returned (.tuple #[pk0, err 5])) ∨
      (Good zs ∧ ∃ a' c', e = .returned (.tuple #[pk (adr zs 8) (adr zs 24) (zs.getD 7 0) (zs.getD 6 0) a' (len - 40) c', .nilIface]) ∧ (Row8 w' a' (len - 40) c' (zs.drop 40) ∧ len - 40 ≤ c' ∧ c' ≤ maxLen))) ∧ Below w.heap.size w w' := by
  have hl := hr.1
  by_cases hlen : len < 40 ∨ 360 < len
  · refine (decode_len a len cap w hlen hr.2.1).mono ?_
    rintro e w' ⟨rfl, hb⟩
    refine ⟨.inl ⟨fun h => ?_, rfl⟩, hb⟩
    have h1 := h.1
    have h2 := h.2.1
    omega
  · obtain ⟨g, off, rfl, _⟩ := hr.2.2.2.2 (by omega)
    classical
    refine (decode_raw g off len cap zs w hr (by omega) (by omega) hcl hcm (decide (enc zs = zs)) (by simp)).mono ?_
    rintro e w' ⟨hh, hb⟩
    refine ⟨?_, hb⟩
    have hs := same_iff zs hr.2.2.1 (by omega) (by omega)
    rcases hh with ⟨h1, h2⟩ | ⟨h1, h3⟩
    · exact .inl ⟨fun h => of_decide_eq_false h1 (hs.2 h), h2⟩
    · exact .inr ⟨hs.1 (of_decide_eq_true h1), h3⟩
end Go.Proofs.YtkhahbghmdccaaaGreatDoor.V6
