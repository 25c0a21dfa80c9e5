/- Package ip4: header, by a contract. -/
import Derived.Test.YtlaljflcgbbhdaaDoorIp4c
namespace Go.Proofs.YtlaljflcgbbhdaaDoor
open Go.RowKit

theorem okp_okh {s d t k i : Int} {len : Nat} (h : Okp s d t k i) (hl : len ≤ 320) : P4.Okh s d t k i (20 + len) := by
  obtain ⟨hs, hd, ht, hk, hi⟩ := h
  exact ⟨hs, hd, ht, hk, hi, by omega, by omega⟩
/-- a block of bytes, all of it. -/
def Blk (B : Nat) (zs : List Int) (w : World) : Prop := w.heap[B]? = some (.cells (zs.map (Value.int .u8)).toArray 5 (0, 0))
theorem Blk.lt {B : Nat} {zs : List Int} {w : World} (h : Blk B zs w) : B < w.heap.size := (Array.getElem?_eq_some_iff.1 h).1
theorem Blk.kept {B : Nat} {zs : List Int} {w w' : World} (h : Blk B zs w) (hb : Below w.heap.size w w') : Blk B zs w' := (hb.block B h.lt).trans h
theorem blk_new (w : World) (zs : List Int) : Blk w.heap.size zs (w.alloc (.cells (zs.map (Value.int .u8)).toArray 5)) := heap_alloc_new w _
theorem Blk.cell {B : Nat} {zs : List Int} {w : World} (h : Blk B zs w) (j : Nat) (hj : j < zs.length) : w.cell? ⟨B, j, none⟩ = some (.int .u8 (zs.getD j 0)) := by
  unfold Blk at h
  simp [World.cell?, h, hj]
theorem Blk.frozen {B : Nat} {zs : List Int} {w : World} (h : Blk B zs w) (j : Nat) : w.frozen? ⟨B, j, none⟩ = false := by
  unfold Blk at h
  simp [World.frozen?, h]
theorem Blk.set {B : Nat} {zs : List Int} {w : World} (h : Blk B zs w) (j : Nat) (v : Int) : Blk B (zs.set j v) (w.setCell ⟨B, j, none⟩ (.int .u8 v)) := by
  unfold Blk at h ⊢
  rw [setCell_eq_setRow w B j _ 5 (0, 0) (.int .u8 v) h, setRow_heap w B _ _ 5 (0, 0) h]
  simp [List.map_set]
theorem Blk.row8 {B : Nat} {zs : List Int} {w : World} (h : Blk B zs w) (ho : SM.Oct zs) (n cap : Nat) (hn : zs.length = n) (hm : n ≤ maxLen) : Row8 w (some ⟨B, 0, none⟩) n cap zs :=
  ⟨hn, hm, ho, (fun e => by cases e), fun _ => ⟨B, 0, rfl, fun i hi => by rw [Nat.zero_add]; exact h.cell i (by omega)⟩⟩
theorem Blk.own {B : Nat} {zs : List Int} {w : World} (h : Blk B zs w) (ho : SM.Oct zs) (base n : Nat) (hn : zs.length = n) (hm : n ≤ maxLen) (hb : base ≤ B) : Own base w (.slice (some ⟨B, 0, none⟩) n n) zs := by
  subst hn
  exact ⟨ho, by simp, .inr ⟨B, zs.length, _, rfl, hb, h, Nat.le_refl _, hm, by simp, by simp [← List.map_take]⟩⟩
/-- a packet's block. -/
def PkIn (B : Nat) (s d t k i : Int) (a : Option Addr) (len cap : Nat) (w : World) : Prop := w.heap[B]? = some (.cells #[.int .i64 s, .int .i64 d, .int .i64 t, .int .i64 k, .int .i64 i, .slice a len cap] 24 (0, 0))
theorem PkIn.lt {B : Nat} {s d t k i : Int} {a : Option Addr} {len cap : Nat} {w : World} (h : PkIn B s d t k i a len cap w) : B < w.heap.size := (Array.getElem?_eq_some_iff.1 h).1
theorem PkIn.kept {B : Nat} {s d t k i : Int} {a : Option Addr} {len cap : Nat} {w w' : World} (h : PkIn B s d t k i a len cap w) (hb : Below w.heap.size w w') : PkIn B s d t k i a len cap w' := (hb.block B h.lt).trans h
theorem PkIn.other {B : Nat} {s d t k i : Int} {a : Option Addr} {len cap : Nat} {w : World} (h : PkIn B s d t k i a len cap w) (p : Addr) (hp : B ≠ p.block) (v : Value) : PkIn B s d t k i a len cap (w.setCell p v) := (Below.heap_setCell w p v B hp).trans h
theorem pk_new (w : World) (s d t k i : Int) (a : Option Addr) (len cap : Nat) : PkIn w.heap.size s d t k i a len cap (w.alloc (.cells #[.int .i64 s, .int .i64 d, .int .i64 t, .int .i64 k, .int .i64 i, .slice a len cap] 24)) := heap_alloc_new w _
theorem PkIn.all {B : Nat} {s d t k i : Int} {a : Option Addr} {len cap : Nat} {w : World} (h : PkIn B s d t k i a len cap w) :
    w.cell? ⟨B, 0, none⟩ = some (.int .i64 s) ∧ w.cell? ⟨B, 1, none⟩ = some (.int .i64 d) ∧ w.cell? ⟨B, 2, none⟩ = some (.int .i64 t) ∧ w.cell? ⟨B, 3, none⟩ = some (.int .i64 k) ∧ w.cell? ⟨B, 4, none⟩ = some (.int .i64 i) ∧ w.cell? ⟨B, 5, none⟩ = some (.slice a len cap) := by
  unfold PkIn at h
  refine ⟨?_, ?_, ?_, ?_, ?_, ?_⟩ <;> simp [World.cell?, h]

set_option maxHeartbeats 2000000 in
theorem header_ok (s d t k i : Int) (a : Option Addr) (len cap : Nat) (w : World) (h : Okp s d t k i) (hl : len ≤ 320) :
    Calls Tryd.prog 20 #[pk s d t k i a len cap] w fun e w' => ∃ B, e = .returned (.slice (some ⟨B, 0, none⟩) 20 20) ∧ B = w.heap.size + 1 ∧ Blk B (P4.hd s d t k i (20 + len) 0) w' ∧ Below w.heap.size w w' := by
  obtain ⟨hs, hd, ht, hk, hi⟩ := h
  obtain ⟨hs0, hs1⟩ := hs
  obtain ⟨hd0, hd1⟩ := hd
  obtain ⟨ht0, ht1⟩ := ht
  obtain ⟨hk0, hk1⟩ := hk
  obtain ⟨hi0, hi1⟩ := hi
  have hb := bx_below w s d t k i a len cap
  unfold bx at hb
  unfold pk
  go_enter Tryd.func20, Tryd.ntmps20
  go_wp2
  go_ret
  refine ⟨_, rfl, ?_, ?_, ?_⟩
  · simp
  · have e := blk_new (w.alloc (.cells #[.int .i64 s, .int .i64 d, .int .i64 t, .int .i64 k, .int .i64 i, .slice a len cap] 24)) (P4.hd s d t k i (20 + len) 0)
    rw [World.size_alloc] at e
    exact e
  · exact hb.alloc (by simp) _

theorem checkof_ok (a : Option Addr) (len cap : Nat) (zs : List Int) (w : World) (w0 : Row8 w a len cap zs) (h : len ≤ 2000) (r : Int) (hr : 65535 - SM.fold (SM.tot zs len) = r) :
    Calls Tryd.prog 21 #[.slice a len cap] w fun e w' => e = .returned (.tuple #[.int .i64 r, .nilIface]) ∧ Below w.heap.size w w' := by
  have H1 := hide (of_ok a len cap zs w w0 h)
  have hb := SM.tot_bd zs w0.2.2.1 len
  have hw : Word (SM.fold (SM.tot zs len)) := SM.fold_bd _ hb.1
  have H2 := hide (not_ok _ w hw)
  have HR := hide hr
  clear hb hw w0 hr h
  generalize SM.fold (SM.tot zs len) = x at H1 H2 HR
  go_enter Tryd.func21, Tryd.ntmps21
  go_wp2_with (first
    | (go_at_call 30; refine (unhide H1).mono ?_; rintro e w' ⟨rfl, rfl⟩)
    | (go_at_call 31; refine (unhide H2).mono ?_; rintro e w' ⟨rfl, hb⟩))
  go_ret2
  exact ⟨by rw [← HR.out]; rfl, hb⟩
end Go.Proofs.YtlaljflcgbbhdaaDoor
