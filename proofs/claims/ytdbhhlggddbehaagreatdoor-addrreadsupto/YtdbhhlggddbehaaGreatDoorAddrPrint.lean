/- hexes and Print by contracts: of an address that is one, its text. -/
import Derived.Test.YtdbhhlggddbehaaGreatDoorHex3
import Derived.Laws.MakeOwn
import Derived.Deep.RegionWith
import Derived.WalkSmall
namespace Go.Proofs.YtdbhhlggddbehaaGreatDoor
open Go.RowKit Go.Shelf

/-- a row of the call's own, of n places, the first ones laid. -/
def Rowb (w : World) (B : Nat) (wr : World) (n : Nat) (done : List Value) : Prop :=
  (∀ j, j < n → ∃ v, wr.cell? ⟨B, j, none⟩ = some v) ∧ (∀ (j : Nat) v, done[j]? = some v → wr.cell? ⟨B, j, none⟩ = some v) ∧ (∀ j, wr.frozen? ⟨B, j, none⟩ = false) ∧ Below B w wr ∧ B < wr.heap.size
theorem Rowb.kept {w : World} {B : Nat} {wr wr' : World} {n : Nat} {done : List Value} (h : Rowb w B wr n done) (hb : Below wr.heap.size wr wr') : Rowb w B wr' n done := by
  obtain ⟨h1, h2, h3, h4, h5⟩ := h
  refine ⟨fun j hj => ?_, fun j v hv => ?_, fun j => ?_, h4.trans (hb.mono (by omega)), Nat.lt_of_lt_of_le h5 hb.size⟩
  · obtain ⟨v, hv⟩ := h1 j hj; exact ⟨v, (hb.cell (p := ⟨B, j, none⟩) h5).trans hv⟩
  · exact (hb.cell (p := ⟨B, j, none⟩) h5).trans (h2 j v hv)
  · exact (hb.frozen (p := ⟨B, j, none⟩) h5).trans (h3 j)
theorem Rowb.store {w : World} {B : Nat} {wr : World} {n : Nat} {done : List Value} (h : Rowb w B wr n done) (hn : done.length < n) (x : Value) : Rowb w B (wr.setCell ⟨B, done.length, none⟩ x) n (done ++ [x]) := by
  obtain ⟨h1, h2, h3, h4, h5⟩ := h
  have hsame : (wr.setCell ⟨B, done.length, none⟩ x).cell? ⟨B, done.length, none⟩ = some x := by
    obtain ⟨v, hv⟩ := h1 _ hn
    exact World.cell?_setCell_same _ _ _ hv
  have hoth : ∀ j, j ≠ done.length → (wr.setCell ⟨B, done.length, none⟩ x).cell? ⟨B, j, none⟩ = wr.cell? ⟨B, j, none⟩ := fun j hj => World.cell?_setCell_other _ _ _ _ (fun e => hj (by cases e; rfl))
  refine ⟨fun j hj => ?_, fun j v hv => ?_, fun j => ?_, h4.setCell (Nat.le_refl _) _, by simpa [World.setCell] using h5⟩
  · by_cases e : j = done.length
    · subst e; exact ⟨_, hsame⟩
    · rw [hoth j e]; exact h1 j hj
  · by_cases e : j = done.length
    · subst e
      rw [List.getElem?_append_right (Nat.le_refl _)] at hv
      simp at hv; subst hv; exact hsame
    · rw [hoth j e]
      have hlt : j < done.length := by
        have := (List.getElem?_eq_some_iff.1 hv).1
        simp at this; omega
      rw [List.getElem?_append_left hlt] at hv
      exact h2 j v hv
  · rw [World.frozen?_setCell]; exact h3 j
/-- a new row. -/
theorem Rowb.made (w : World) (z : Value) (n : Nat) (t : TypeId) (hz : z.cells = #[z]) : Rowb w w.heap.size (w.alloc (.cells (madeCells z.cells n) t)) n [] := by
  refine ⟨fun j hj => ?_, fun j v hv => by simp at hv, fun j => World.frozen?_alloc_new _ _ _ _, (Below.refl _ _).alloc (Nat.le_refl _) _, by simp⟩
  rw [World.cell?_alloc_new, hz]
  refine ⟨z, ?_⟩
  simp [madeCells, hj, Nat.mod_one]

theorem Tryz.infoStr : (Tryz.prog.info? 9).map (fun i => (i.zero, i.size, i.bytes)) = some (some (.string ⟨#[]⟩), 1, 16) := by kernel_rfl
theorem Tryz.infoInt : (Tryz.prog.info? 3).map (fun i => (i.zero, i.size, i.bytes)) = some (some (.int .i64 0), 1, 8) := by kernel_rfl
theorem make_str (w : World) (n : Nat) (hn : n ≤ 1000000) : (Instr.makeSlice 63 (.int .i64 n) (.int .i64 n)).run Tryz.prog w = .ok (.slice (some ⟨w.heap.size, 0, none⟩) n n) (w.alloc (.cells (madeCells #[.string ⟨#[]⟩] n) 9)) := by
  obtain ⟨i, hi, h1, h2, h3⟩ := info_parts Tryz.infoStr
  have := run_make (P := Tryz.prog) w 63 9 i _ Tryz.underlying63 hi h1 .i64 .i64 n n (by omega) (by omega) (by rw [h3]; omega) (by omega)
  rw [h2] at this
  simpa [Value.cells] using this
theorem make_int (w : World) (n : Nat) (hn : n ≤ 1000000) : (Instr.makeSlice 56 (.int .i64 n) (.int .i64 n)).run Tryz.prog w = .ok (.slice (some ⟨w.heap.size, 0, none⟩) n n) (w.alloc (.cells (madeCells #[.int .i64 0] n) 3)) := by
  obtain ⟨i, hi, h1, h2, h3⟩ := info_parts Tryz.infoInt
  have := run_make (P := Tryz.prog) w 56 3 i _ Tryz.underlying56 hi h1 .i64 .i64 n n (by omega) (by omega) (by rw [h3]; omega) (by omega)
  rw [h2] at this
  simpa [Value.cells] using this

def strv (l : List UInt8) : Value := .string ⟨l.toArray⟩

/-- strings.Join over a row of the call's own. -/
theorem join_row (c : UInt8) (w0 w : World) (B n : Nat) (ws : List (List UInt8)) (hl : ws.length = n) (hn : n ≤ 1000) (hlen : (AM.jn c ws).length ≤ 1000000) (hR : Rowb w0 B w n (ws.map strv)) :
    Calls Tryz.prog 31 #[.slice (some ⟨B, 0, none⟩) n n, .string ⟨#[c]⟩] w fun e w' => e = .returned (strv (AM.jn c ws)) ∧ Below w.heap.size w w' := by
  have hmap : (ws.map fun l => (⟨l.toArray⟩ : ByteArray)).map (·.data.toList) = ws := by
    rw [List.map_map]
    conv => rhs; rw [← List.map_id ws]
    apply List.map_congr_left
    intro x _
    simp
  have h := Tryz.strings_Join B 0 n (ws.map fun l => ⟨l.toArray⟩) ⟨#[c]⟩ w (fun j x hx => by
      rw [Nat.zero_add]
      refine hR.2.1 j _ ?_
      rw [List.getElem?_map] at hx ⊢
      cases hw : ws[j]? with
      | none => rw [hw] at hx; cases hx
      | some l => rw [hw] at hx; simp at hx; subst hx; rfl) hR.2.2.2.2 (by rw [List.length_map]; omega) (by rw [List.length_map]; omega) (by
      rw [hmap]
      show (Lib.join ws [c]).length ≤ _
      rw [AM.jn_join]; omega)
  rw [List.length_map, hl, hmap] at h
  have e : Lib.join ws (⟨#[c]⟩ : ByteArray).data.toList = AM.jn c ws := AM.jn_join c ws
  rw [e] at h
  exact h

set_option maxHeartbeats 2000000 in
theorem hexes_any (b off cap n i : Nat) (z : List Int) (w : World) (hz : Ok6 z) (hin : i + n ≤ 8) (hb : b < w.heap.size) (hc : ∀ j, j < n → w.cell? ⟨b, off + j, none⟩ = some (.int .i64 (el z (i + j)))) (h4 : Tab4 w) :
    Calls Tryz.prog 24 #[.slice (some ⟨b, off, none⟩) n cap] w fun e w' => e = .returned (strv (AM.jn 58 (AM.hw z i n))) ∧ Below w.heap.size w w' := by
  have hmk := make_str w n (by omega)
  have hR0 := Rowb.made w (.string ⟨#[]⟩) n 9 rfl
  simp only [Value.cells] at hR0
  generalize hw0 : w.alloc (.cells (madeCells #[.string ⟨#[]⟩] n) 9) = w0 at hmk hR0
  clear hw0
  go_enter Tryz.func24, Tryz.ntmps24
  go_wp2
  go_loopw [11] (fun t wr => ∃ k : Nat, k ≤ n ∧ t = .int .i64 k ∧ Hid (Rowb w w.heap.size wr n ((AM.hw z i k).map strv))) (fun t _ => n - (intOf t).toNat)
  case atStart => exact ⟨0, by omega, rfl, hR0⟩
  case round =>
    obtain ⟨k, hk, rfl, HR⟩ := hrel
    by_cases hlt : k < n
    · have hck : wr.cell? ⟨b, off + k, none⟩ = some (.int .i64 (el z (i + k))) := by rw [HR.out.2.2.2.1.cell (p := ⟨b, off + k, none⟩) hb]; exact hc k hlt
      have h4r := h4.below HR.out.2.2.2.1
      have hx := hz (i + k) (by omega)
      have HS := hide (AM.hw_succ z i k)
      have hlen : ((AM.hw z i k).map strv).length = k := by rw [List.length_map, AM.hw_len]
      have HL := hide hlen
      clear hc hlen
      obtain ⟨u, hu⟩ : ∃ u : Nat, el z (i + k) = u := ⟨(el z (i + k)).toNat, by have := hx.1; omega⟩
      have hu2 : u ≤ 65535 := by have := hx.2; omega
      have HU := hide (show (el z (i + k)).toNat = u by omega)
      rw [hu] at hck
      clear hu hx
      go_wp2_with (go_at_call 35; refine (fmt16 u _ hu2 h4r).mono ?_; rintro e w1 ⟨rfl, hB⟩; have HR1 := hide (HR.out.kept hB); obtain ⟨v, hv⟩ := HR1.out.1 k hlt; have hf := HR1.out.2.2.1 k)
      have HR2 := hide (HR1.out.store (by rw [HL.out]; exact hlt) (strv (AM.hexL u)))
      rw [HL.out] at HR2
      go_roundw
      case rel =>
        refine ⟨k + 1, by omega, by go_num, ?_⟩
        rw [HS.out, HU.out, List.map_append]; exact HR2
      case measure => simp [intOf]; omega
    · obtain rfl : k = n := by omega
      have hJ := join_row 58 w wr w.heap.size k (AM.hw z i k) (AM.hw_len z i k) (by omega) (by have := AM.jn_hw_len hz hin; omega) HR.out
      have HB := hide HR.out.2.2.2.1
      go_wp2_with (go_at_call 31; refine hJ.mono ?_; rintro e w1 ⟨rfl, hB⟩)
      go_ret
      exact ⟨rfl, bt HB.out hB⟩
end Go.Proofs.YtdbhhlggddbehaaGreatDoor
