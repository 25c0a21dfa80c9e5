/- numbers by a contract: what stands between the marks, read one by one. -/
import Derived.Test.YtdbhhlggddbehaaGreatDoorAddrPrint2
namespace Go.Proofs.YtdbhhlggddbehaaGreatDoor
open Go.RowKit Go.Shelf

/-- the variable of the library's that a search reads: some number. -/
def MaxL (w : World) : Prop := ∃ m, w.cell? ⟨2, 0, none⟩ = some (.int .i64 m)
theorem MaxL.below {w w' : World} (h : MaxL w) (hb : Below w.heap.size w w') : MaxL w' := by
  obtain ⟨m, h⟩ := h
  exact ⟨m, (hb.cell (p := ⟨2, 0, none⟩) (lt_of_cell h)).trans h⟩

/-- a slice of numbers (nil, if there is none). -/
def IntsAt (base : Nat) (v : Value) (l : List Nat) (w : World) : Prop :=
  ∃ ao, v = .slice ao l.length l.length ∧ (l ≠ [] → ∃ B, ao = some ⟨B, 0, none⟩ ∧ base ≤ B ∧ B < w.heap.size ∧ ∀ (j : Nat) x, l[j]? = some x → w.cell? ⟨B, j, none⟩ = some (.int .i64 (x : Nat)))
theorem IntsAt.kept {base : Nat} {v : Value} {l : List Nat} {w w' : World} (h : IntsAt base v l w) (hb : Below w.heap.size w w') : IntsAt base v l w' := by
  obtain ⟨ao, h0, h⟩ := h
  refine ⟨ao, h0, fun hl => ?_⟩
  obtain ⟨B, h1, hB, h2, h3⟩ := h hl
  exact ⟨B, h1, hB, Nat.lt_of_lt_of_le h2 hb.size, fun j x hx => (hb.cell (p := ⟨B, j, none⟩) h2).trans (h3 j x hx)⟩

/-- how one word is read. -/
def Reads (base size : Int) (f : List UInt8 → Option Nat) : Prop :=
  (∀ t n, f t = some n → n ≤ 65535) ∧
  (∀ (t : ByteArray) (w : World) (n : Nat), t.size ≤ 1000 → f t.data.toList = some n → Calls Tryz.prog 42 #[.string t, .int .i64 base, .int .i64 size] w fun e w' => e = .returned (.tuple #[.int .u64 (n : Nat), .nilIface]) ∧ Below w.heap.size w w') ∧
  (∀ (t : ByteArray) (w : World), t.size ≤ 1000 → f t.data.toList = none → Errs w → Calls Tryz.prog 42 #[.string t, .int .i64 base, .int .i64 size] w fun e w' => (∃ u N, e = .returned (.tuple #[.int .u64 u, .iface 124 (.pointer (some ⟨N, 0, none⟩))])) ∧ Below w.heap.size w w')
theorem reads16 : Reads 16 16 AM.hxw :=
  ⟨fun _ _ h => AM.hxw_le h, fun t w n ht hn => parse16_ok t (by omega) w n hn, fun t w ht hn hE => parse16_no t (by omega) w hn hE⟩

theorem numbers_none (c : UInt8) (base size : Int) (w : World) :
    Calls Tryz.prog 33 #[.string ⟨#[]⟩, .string ⟨#[c]⟩, .int .i64 base, .int .i64 size] w fun e w' => e = .returned (.tuple #[.slice none 0 0, .bool true]) ∧ w' = w := by
  go_enter Tryz.func33, Tryz.ntmps33
  go_wp2
  go_ret2
  exact ⟨rfl, rfl⟩

set_option maxHeartbeats 4000000 in
set_option maxRecDepth 100000 in
theorem numbers_any (c : UInt8) (base size : Int) (f : List UInt8 → Option Nat) (hf : Reads base size f) (t : ByteArray) (w : World) (ht : t.size ≤ 1000) (hne : t.data.toList ≠ []) (hM : MaxL w) (hE : Errs w) :
    Calls Tryz.prog 33 #[.string t, .string ⟨#[c]⟩, .int .i64 base, .int .i64 size] w fun e w' =>
      ((∃ l v, AM.nums c f t.data.toList = some l ∧ e = .returned (.tuple #[v, .bool true]) ∧ IntsAt w.heap.size v l w') ∨ (AM.nums c f t.data.toList = none ∧ e = .returned (.tuple #[.slice none 0 0, .bool false]))) ∧ Below w.heap.size w w' := by
  obtain ⟨m, hm⟩ := hM
  obtain ⟨f1, f2, f3⟩ := hf
  have hsp := Tryz.strings_Split t ⟨#[c]⟩ m w (by omega) hm (by simp [ByteArray.size])
  have hN0 := Lib.countB_le ⟨#[c]⟩ (by simp [ByteArray.size]) t.size t (Nat.le_refl _)
  have hlen := Lib.splitB_all ⟨#[c]⟩ (by simp [ByteArray.size]) 0 _ t rfl
  have hdat := AM.split_is c t
  have hnums : AM.nums c f t.data.toList = (AM.spl c t.data.toList).mapM f := by unfold AM.nums; rw [if_neg hne]
  rw [← hdat] at hnums
  have hle : ∀ x ∈ Lib.splitB ⟨#[c]⟩ 0 (Lib.countB t ⟨#[c]⟩) t, x.size ≤ 1000 := by
    intro x hx
    have := AM.spl_len c t.data.toList x.data.toList (by rw [← hdat]; exact List.mem_map.2 ⟨x, hx, rfl⟩)
    rw [← Lib.size_eq, ← Lib.size_eq] at this
    omega
  generalize Lib.splitB ⟨#[c]⟩ 0 (Lib.countB t ⟨#[c]⟩) t = ws at hsp hlen hnums hle
  clear hdat
  have hN : Lib.countB t ⟨#[c]⟩ + 1 ≤ 1001 := by omega
  generalize Lib.countB t ⟨#[c]⟩ + 1 = N at hsp hlen hN
  have hB1 : Below w.heap.size w (w.alloc (.cells (ws.map Value.string).toArray 9)) := (Below.refl _ _).alloc (Nat.le_refl _) _
  have hc1 : ∀ j (hj : j < ws.length), (w.alloc (.cells (ws.map Value.string).toArray 9)).cell? ⟨w.heap.size, j, none⟩ = some (.string ws[j]) := fun j hj => by
    rw [World.cell?_alloc_new]; simp [hj]
  have hs1 : w.heap.size < (w.alloc (.cells (ws.map Value.string).toArray 9)).heap.size := by simp
  have hE1 := hE.below hB1
  generalize w.alloc (.cells (ws.map Value.string).toArray 9) = w1 at hsp hB1 hc1 hs1 hE1
  have hmk := make_int w1 N (by omega)
  have hR0 := Rowb.made w1 (.int .i64 0) N 3 rfl
  simp only [Value.cells] at hR0
  generalize w1.alloc (.cells (madeCells #[.int .i64 0] N) 3) = w2 at hmk hR0
  have hem : t.toList.isEmpty = false := by
    rw [← decide_eq_emptyBytes]
    refine decide_eq_false (fun h => hne (by rw [h]; rfl))
  have HN := hide hnums
  have HL := hide hlen
  have HE := hide hle
  clear hnums hlen hle hm hne
  clear hN0
  go_enter Tryz.func33, Tryz.ntmps33
  go_wp2_with (go_at_call 41; refine hsp.mono ?_; rintro e w' ⟨rfl, hww⟩; subst w')
  go_loopw [26] (fun i wr => ∃ (k : Nat) (l : List Nat), k ≤ N ∧ i = .int .i64 k ∧ l.length = k ∧ Hid (∀ j (h1 : j < ws.length) (h2 : j < l.length), f ws[j].data.toList = some l[j]) ∧ Hid (Rowb w1 w1.heap.size wr N (l.map fun x => Value.int .i64 (x : Nat)))) (fun i _ => N - (intOf i).toNat)
  case atStart => exact ⟨0, [], by omega, rfl, rfl, fun j h1 h2 => absurd h2 (by simp), hR0⟩
  case round =>
    obtain ⟨k, l, hk, rfl, hlk, HA, HR⟩ := hrel
    have HLK := hide hlk
    clear hlk
    by_cases hlt : k < N
    · have hkw : k < ws.length := by rw [HL.out]; exact hlt
      have hck : wr.cell? ⟨w.heap.size, k, none⟩ = some (.string ws[k]) := by rw [HR.out.2.2.2.1.cell (p := ⟨w.heap.size, k, none⟩) hs1]; exact hc1 k hkw
      have hsz := HE.out ws[k] (List.getElem_mem hkw)
      have hEr := hE1.below HR.out.2.2.2.1
      have HW := hide (show ∀ h : k < ws.length, ws[k] = ws[k] from fun _ => rfl)
      cases hfk : f ws[k].data.toList with
      | none =>
        have hP := f3 ws[k] wr hsz hfk hEr
        have HF := hide (show AM.nums c f t.data.toList = none by
          rw [HN.out]
          exact AM.mapM_none f _ k (by simpa using hkw) (by simpa using hfk))
        have HBr := hide (bt hB1 HR.out.2.2.2.1)
        generalize ws[k] = x at hck hP
        clear hc1 hfk
        go_wp2_with (go_at_call 42; refine hP.mono ?_; rintro e w3 ⟨⟨u, M, rfl⟩, hB3⟩)
        go_ret2
        exact ⟨.inr ⟨HF.out, rfl⟩, bt HBr.out hB3⟩
      | some n =>
        have hP := f2 ws[k] wr n hsz hfk
        have hn := f1 _ n hfk
        have HA2 := hide (show ∀ j (h1 : j < ws.length) (h2 : j < (l ++ [n]).length), f ws[j].data.toList = some (l ++ [n])[j] from fun j h1 h2 => by
          by_cases e : j = k
          · subst e
            rw [List.getElem_append_right (by rw [HLK.out]; omega)]
            simpa using hfk
          · have : j < l.length := by rw [HLK.out]; simp [HLK.out] at h2; omega
            rw [List.getElem_append_left this]
            exact HA.out j h1 this)
        generalize ws[k] = x at hck hP
        clear hc1 hfk
        go_wp2_with (go_at_call 42; refine hP.mono ?_; rintro e w3 ⟨rfl, hB3⟩; have HR1 := hide (HR.out.kept hB3); obtain ⟨v, hv⟩ := HR1.out.1 k hlt; have hfz := HR1.out.2.2.1 k)
        have HR2 := hide (HR1.out.store (by rw [List.length_map, HLK.out]; exact hlt) (Value.int .i64 (n : Nat)))
        rw [List.length_map, HLK.out] at HR2
        go_roundw
        case rel =>
          refine ⟨k + 1, l ++ [n], by omega, by go_num, by simp [HLK.out], HA2, ?_⟩
          rw [List.map_append]
          exact HR2
        case measure => simp [intOf]; omega
    · obtain rfl : k = N := by omega
      have HF := hide (show AM.nums c f t.data.toList = some l by
        rw [HN.out]
        refine AM.mapM_all f _ l (by simp [HL.out, HLK.out]) (fun j h1 h2 => ?_)
        simp only [List.getElem_map]
        exact HA.out j (by simpa using h1) h2)
      have HBr := hide (bt hB1 HR.out.2.2.2.1)
      go_wp2
      go_ret2
      refine ⟨.inl ⟨l, _, HF.out, rfl, some ⟨w1.heap.size, 0, none⟩, ?_, fun _ => ⟨w1.heap.size, rfl, hB1.size, HR.out.2.2.2.2, fun j x hx => ?_⟩⟩, HBr.out⟩
      · rw [HLK.out]; rfl
      · exact HR.out.2.1 j _ (by rw [List.getElem?_map, hx]; rfl)

theorem numbers_all (c : UInt8) (base size : Int) (f : List UInt8 → Option Nat) (hf : Reads base size f) (t : ByteArray) (w : World) (ht : t.size ≤ 1000) (hM : MaxL w) (hE : Errs w) :
    Calls Tryz.prog 33 #[.string t, .string ⟨#[c]⟩, .int .i64 base, .int .i64 size] w fun e w' =>
      ((∃ l v, AM.nums c f t.data.toList = some l ∧ e = .returned (.tuple #[v, .bool true]) ∧ IntsAt w.heap.size v l w') ∨ (AM.nums c f t.data.toList = none ∧ e = .returned (.tuple #[.slice none 0 0, .bool false]))) ∧ Below w.heap.size w w' := by
  by_cases h0 : t.data.toList = []
  · obtain rfl : t = ⟨#[]⟩ := by
      obtain ⟨⟨a⟩⟩ := t
      simp at h0
      rw [h0]
    exact (numbers_none c base size w).mono fun e w' ⟨h1, h2⟩ => ⟨.inl ⟨[], _, rfl, h1, none, rfl, fun h => absurd rfl h⟩, by rw [h2]; exact Below.refl _ _⟩
  · exact numbers_any c base size f hf t w ht h0 hM hE
theorem numbers_ok (c : UInt8) (base size : Int) (f : List UInt8 → Option Nat) (hf : Reads base size f) (t : ByteArray) (w : World) (ht : t.size ≤ 1000) (hM : MaxL w) (hE : Errs w) (l : List Nat) (hl : AM.nums c f t.data.toList = some l) :
    Calls Tryz.prog 33 #[.string t, .string ⟨#[c]⟩, .int .i64 base, .int .i64 size] w fun e w' =>
      (∃ ao, e = .returned (.tuple #[.slice ao l.length l.length, .bool true]) ∧ IntsAt w.heap.size (.slice ao l.length l.length) l w') ∧ Below w.heap.size w w' :=
  (numbers_all c base size f hf t w ht hM hE).mono fun e w' ⟨h1, h2⟩ => by
    rcases h1 with ⟨l', v, hl', he, ao, hv, hc⟩ | ⟨hl', _⟩
    · rw [hl] at hl'; cases hl'
      subst hv
      exact ⟨⟨ao, he, ao, rfl, hc⟩, h2⟩
    · rw [hl] at hl'; cases hl'
theorem numbers_no (c : UInt8) (base size : Int) (f : List UInt8 → Option Nat) (hf : Reads base size f) (t : ByteArray) (w : World) (ht : t.size ≤ 1000) (hM : MaxL w) (hE : Errs w) (hl : AM.nums c f t.data.toList = none) :
    Calls Tryz.prog 33 #[.string t, .string ⟨#[c]⟩, .int .i64 base, .int .i64 size] w fun e w' =>
      e = .returned (.tuple #[.slice none 0 0, .bool false]) ∧ Below w.heap.size w w' :=
  (numbers_all c base size f hf t w ht hM hE).mono fun e w' ⟨h1, h2⟩ => by
    rcases h1 with ⟨l', v, hl', _⟩ | ⟨_, he⟩
    · rw [hl] at hl'; cases hl'
    · exact ⟨he, h2⟩
end Go.Proofs.YtdbhhlggddbehaaGreatDoor
