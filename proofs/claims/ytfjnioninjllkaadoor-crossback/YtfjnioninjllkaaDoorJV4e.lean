/- Package ip4: header, by a contract. Package ip4: Encode, by contracts. -/
import Derived.Test.YtfjnioninjllkaaDoorJV4c
import Derived.Deep.CutBlock
namespace Go.Proofs.YtfjnioninjllkaaDoor.V4
open Go.RowKit

theorem okp_okh {s d t k i : Int} {len : Nat} (h : Okp s d t k i) (hl : len ≤ 320) : P4.Okh s d t k i (20 + len) := by
  obtain ⟨hs, hd, ht, hk, hi⟩ := h
  exact ⟨hs, hd, ht, hk, hi, by omega, by omega⟩
/-- a block of bytes, all of it. -/
def Blk (B : Nat) (zs : List Int) (w : World) : Prop := w.heap[B]? = some (.cells (zs.map (Value.int .u8)).toArray 5 (0, 0))
theorem Blk.lt {B : Nat} {zs : List Int} {w : World} (h : Blk B zs w) : B < w.heap.size := (Array.getElem?_eq_some_iff.1 h).1
theorem Blk.kept {B : Nat} {zs : List Int} {w w' : World} (h : Blk B zs w) (hb : Below w.heap.size w w') : Blk B zs w' := (hb.block B h.lt).trans h
theorem blk_new (w : World) (zs : List Int) : Blk w.heap.size zs (w.alloc (.cells (zs.map (Value.int .u8)).toArray 5)) := heap_alloc_new w _
theorem Blk.cell {B : Nat} {zs : List Int} {w : World} (h : Blk B zs w) (j : Nat) (hj : j < zs.length) : w.cell? ⟨B, j, none⟩ = some (.int .u8 (zs.getD j 0)) := by
  unfold Blk at h
  simp [World.cell?, h, hj]
theorem Blk.frozen {B : Nat} {zs : List Int} {w : World} (h : Blk B zs w) (j : Nat) : w.frozen? ⟨B, j, none⟩ = false := by
  unfold Blk at h
  simp [World.frozen?, h]
theorem Blk.set {B : Nat} {zs : List Int} {w : World} (h : Blk B zs w) (j : Nat) (v : Int) : Blk B (zs.set j v) (w.setCell ⟨B, j, none⟩ (.int .u8 v)) := by
  unfold Blk at h ⊢
  rw [setCell_eq_setRow w B j _ 5 (0, 0) (.int .u8 v) h, setRow_heap w B _ _ 5 (0, 0) h]
  simp [List.map_set]
theorem Blk.row8 {B : Nat} {zs : List Int} {w : World} (h : Blk B zs w) (ho : SM.Oct zs) (n cap : Nat) (hn : zs.length = n) (hm : n ≤ maxLen) : Row8 w (some ⟨B, 0, none⟩) n cap zs :=
  ⟨hn, hm, ho, (fun e => by cases e), fun _ => ⟨B, 0, rfl, fun i hi => by rw [Nat.zero_add]; exact h.cell i (by omega)⟩⟩
theorem Blk.own {B : Nat} {zs : List Int} {w : World} (h : Blk B zs w) (ho : SM.Oct zs) (base n : Nat) (hn : zs.length = n) (hm : n ≤ maxLen) (hb : base ≤ B) : Own base w (.slice (some ⟨B, 0, none⟩) n n) zs := by
  subst hn
  exact ⟨ho, by simp, .inr ⟨B, zs.length, _, rfl, hb, h, Nat.le_refl _, hm, by simp, by simp [← List.map_take]⟩⟩
set_option maxHeartbeats 2000000 in
theorem header_ok (s d t k i : Int) (a : Option Addr) (len cap : Nat) (w : World) (h : Okp s d t k i) (hl : len ≤ 320) :
    Calls Tryd.prog 36 #[pk s d t k i a len cap] w fun e w' => ∃ B, e = .returned (.slice (some ⟨B, 0, none⟩) 20 20) ∧ B = w.heap.size + 1 ∧ Blk B (P4.hd s d t k i (20 + len) 0) w' ∧ Below w.heap.size w w' := by
  obtain ⟨hs, hd, ht, hk, hi⟩ := h
  obtain ⟨hs0, hs1⟩ := hs
  obtain ⟨hd0, hd1⟩ := hd
  obtain ⟨ht0, ht1⟩ := ht
  obtain ⟨hk0, hk1⟩ := hk
  obtain ⟨hi0, hi1⟩ := hi
  have hb := bx_below w s d t k i a len cap
  unfold bx at hb
  unfold pk
  go_enter Tryd.func36, Tryd.ntmps36
  go_wp2
  go_ret
  refine ⟨_, rfl, ?_, ?_, ?_⟩
  · simp
  · have e := blk_new (w.alloc (.cells #[.int .i64 s, .int .i64 d, .int .i64 t, .int .i64 k, .int .i64 i, .slice a len cap] 28)) (P4.hd s d t k i (20 + len) 0)
    rw [World.size_alloc] at e
    exact e
  · exact hb.alloc (by simp) _

theorem checkof_ok (a : Option Addr) (len cap : Nat) (zs : List Int) (w : World) (w0 : Row8 w a len cap zs) (h : len ≤ 2000) (r : Int) (hr : 65535 - SM.fold (SM.tot zs len) = r) :
    Calls Tryd.prog 37 #[.slice a len cap] w fun e w' => e = .returned (.tuple #[.int .i64 r, .nilIface]) ∧ Below w.heap.size w w' := by
  have H1 := hide (of_ok a len cap zs w w0 h)
  have hb := SM.tot_bd zs w0.2.2.1 len
  have hw : Word (SM.fold (SM.tot zs len)) := SM.fold_bd _ hb.1
  have H2 := hide (not_ok _ w hw)
  have HR := hide hr
  clear hb hw w0 hr h
  generalize SM.fold (SM.tot zs len) = x at H1 H2 HR
  go_enter Tryd.func37, Tryd.ntmps37
  go_wp2_with (first
    | (go_at_call 56; refine (unhide H1).mono ?_; rintro e w' ⟨rfl, rfl⟩)
    | (go_at_call 61; refine (unhide H2).mono ?_; rintro e w' ⟨rfl, hb⟩))
  go_ret2
  exact ⟨by rw [← HR.out]; rfl, hb⟩
end Go.Proofs.YtfjnioninjllkaaDoor.V4

namespace Go.Proofs.YtfjnioninjllkaaDoor.V4
open Go.RowKit

/-- a packet's bytes. -/
def bys (s d t k i : Int) (body : List Int) : List Int := P4.hd s d t k i (20 + body.length) (P4.ck s d t k i (20 + body.length)) ++ body
theorem bys_len (s d t k i : Int) (body : List Int) : (bys s d t k i body).length = 20 + body.length := by unfold bys; rw [List.length_append]; rfl
theorem hd_set (s d t k i n c : Int) : ((P4.hd s d t k i n 0).set 10 (c / 256)).set 11 (c % 256) = P4.hd s d t k i n c := rfl

set_option maxHeartbeats 2000000 in
theorem encode_bad (s d t k i : Int) (a : Option Addr) (len cap : Nat) (w : World) (h : ¬ Okp s d t k i) :
    Calls Tryd.prog 14 #[pk s d t k i a len cap] w fun e w' => e = .returned (.tuple #[.slice none 0 0, .iface 29 (.int .i64 1)]) ∧ Below w.heap.size w w' := by
  have HB := hide (bx_below w s d t k i a len cap)
  have HC := hide (fun w => check_bad s d t k i a len cap w h)
  unfold bx at HB
  unfold pk at HC ⊢
  clear h
  go_enter Tryd.func14, Tryd.ntmps14
  go_wp2_with (go_at_call 28; refine (HC.out _).mono ?_; rintro e w1 ⟨rfl, hb1⟩; replace hb1 := hide hb1)
  go_ret2
  exact ⟨rfl, bt HB.out hb1.out⟩
set_option maxHeartbeats 2000000 in
theorem encode_full (s d t k i : Int) (a : Option Addr) (len cap : Nat) (w : World) (h : Okp s d t k i) (hl : 320 < len) (hm : len ≤ maxLen) :
    Calls Tryd.prog 14 #[pk s d t k i a len cap] w fun e w' => e = .returned (.tuple #[.slice none 0 0, .iface 29 (.int .i64 3)]) ∧ Below w.heap.size w w' := by
  have HB := hide (bx_below w s d t k i a len cap)
  have HC := hide (fun w => check_full s d t k i a len cap w h hl hm)
  unfold bx at HB
  unfold pk at HC ⊢
  clear h hl hm
  go_enter Tryd.func14, Tryd.ntmps14
  go_wp2_with (go_at_call 28; refine (HC.out _).mono ?_; rintro e w1 ⟨rfl, hb1⟩; replace hb1 := hide hb1)
  go_ret2
  exact ⟨rfl, bt HB.out hb1.out⟩
set_option maxHeartbeats 4000000 in
theorem encode_ok (s d t k i : Int) (a : Option Addr) (len cap : Nat) (body : List Int) (w : World) (h : Okp s d t k i) (hl : len ≤ 320) (hr : Row8 w a len cap body) :
    Calls Tryd.prog 14 #[pk s d t k i a len cap] w fun e w' => ∃ v, e = .returned (.tuple #[v, .nilIface]) ∧ Own w.heap.size w' v (bys s d t k i body) ∧ Below w.heap.size w w' := by
  have HB := hide (bx_below w s d t k i a len cap)
  have HP := hide (pk_new w s d t k i a len cap)
  have HC := hide (fun w => check_ok s d t k i a len cap w h hl)
  have HH := hide (fun w => header_ok s d t k i a len cap w h hl)
  have HO := hide (okp_okh h hl)
  have hlen := hr.1
  have hck := P4.ck_in _ _ _ _ _ _ HO.out
  have HQ := hide (show 65535 - SM.fold (SM.tot (P4.hd s d t k i (20 + len) 0) 20) = P4.ck s d t k i (20 + len) from rfl)
  have HOC := hide (P4.hd_oct s d t k i (20 + len) 0 HO.out (by omega))
  have HOD := hide (P4.hd_oct s d t k i (20 + len) _ HO.out hck)
  have HBY := hide (show bys s d t k i body = P4.hd s d t k i (20 + len) (P4.ck s d t k i (20 + len)) ++ body by unfold bys; rw [hlen])
  have HR := hide hr
  generalize P4.ck s d t k i (20 + (len : Int)) = c at hck HQ HOD HBY
  clear h hr
  unfold bx at HB
  unfold pk at HC HH ⊢
  go_enter Tryd.func14, Tryd.ntmps14
  go_upto_region 8 with (first
    | (go_at_call 28; refine (HC.out _).mono ?_; rintro e w1 ⟨rfl, hb1⟩; replace HP := hide (HP.out.kept hb1); replace HB := hide (bt HB.out hb1); clear hb1; obtain ⟨c0, c1, c2, c3, c4, c5⟩ := HP.out.all)
    | (go_at_call 36; refine (HH.out _).mono ?_; rintro e w2 ⟨B, rfl, hB, hblk, hb2⟩; clear c0 c1 c2 c3 c4 c5; have HBW := hide (show w.heap.size < B by have := HB.out.size; omega); replace hblk := hide hblk; replace HP := hide (HP.out.kept hb2); replace HB := hide (bt HB.out hb2); clear hb2 hB)
    | (go_at_call 37; refine (checkof_ok _ 20 20 _ _ (hblk.out.row8 HOC.out 20 20 rfl (by decide)) (by omega) c HQ.out).mono ?_; rintro e w3 ⟨rfl, hb3⟩; replace hblk := hide (hblk.out.kept hb3); replace HP := hide (HP.out.kept hb3); replace HB := hide (bt HB.out hb3); clear hb3))
  have x10 := hblk.out.cell 10 (show 10 < 20 by omega)
  have x11 := hblk.out.cell 11 (show 11 < 20 by omega)
  have y10 := hblk.out.frozen 10
  have y11 := hblk.out.frozen 11
  replace x10 : w3.cell? ⟨B, 10, none⟩ = some (.int .u8 0) := x10
  replace x11 : w3.cell? ⟨B, 11, none⟩ = some (.int .u8 0) := x11
  go_upto_region 9 with fail
  have HBF := hide (show Blk B (P4.hd s d t k i (20 + len) c) ((w3.setCell ⟨B, 10, none⟩ (.int .u8 (c / 256))).setCell ⟨B, 11, none⟩ (.int .u8 (c % 256))) from (hblk.out.set 10 (c / 256)).set 11 (c % 256))
  replace HP := hide ((HP.out.other ⟨B, 10, none⟩ (Nat.ne_of_lt HBW.out) (.int .u8 (c / 256))).other ⟨B, 11, none⟩ (Nat.ne_of_lt HBW.out) (.int .u8 (c % 256)))
  replace HB := hide ((HB.out.setCell (p := ⟨B, 10, none⟩) (Nat.le_of_lt HBW.out) (.int .u8 (c / 256))).setCell (p := ⟨B, 11, none⟩) (Nat.le_of_lt HBW.out) (.int .u8 (c % 256)))
  clear x10 x11 y10 y11 hblk
  generalize (w3.setCell ⟨B, 10, none⟩ (.int .u8 (c / 256))).setCell ⟨B, 11, none⟩ (.int .u8 (c % 256)) = w4 at HBF HP HB ⊢
  obtain ⟨-, -, -, -, -, c5⟩ := HP.out.all
  have HOW := hide (HBF.out.own HOD.out w.heap.size 20 rfl (by decide) (Nat.le_of_lt HBW.out))
  have HLN := hide (show (P4.hd s d t k i (20 + len) c).length + len ≤ 1000000000 by rw [P4.hd_len]; omega)
  go_wp2_with (at_builtin; refine wpList_app rfl (.tmp 32) (.tmp 34) rfl _ _ _ rfl HOW.out a len cap body rfl (HR.out.below HB.out) HLN.out HB.out.size ?_; intro v5 w5 o5 g5; replace o5 := hide o5; have HB5 := hide (HB.out.grown g5 HB.out.size (fun k h => (HOW.out.2.lt k h).1)))
  go_ret2
  exact ⟨v5, rfl, HBY.out ▸ o5.out, HB5.out⟩
end Go.Proofs.YtfjnioninjllkaaDoor.V4
