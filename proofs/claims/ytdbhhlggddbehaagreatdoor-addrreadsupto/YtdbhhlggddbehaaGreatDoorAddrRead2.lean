/- read by a contract, where a text is one that may be an address's. -/
import Derived.Test.YtdbhhlggddbehaaGreatDoorAddrRead
namespace Go.Proofs.YtdbhhlggddbehaaGreatDoor
open Go.RowKit Go.Shelf

theorem splice_two (v0 : Value) (F G : List Value) (h : F.length + G.length ≤ 8) : splice (splice (List.replicate 8 v0) 0 F) (8 - G.length) G = F ++ List.replicate (8 - (F.length + G.length)) v0 ++ G := by
  unfold splice
  have e1 : List.take 0 (List.replicate 8 v0) ++ (F ++ List.drop (0 + F.length) (List.replicate 8 v0)) = F ++ List.replicate (8 - F.length) v0 := by
    rw [Nat.zero_add, List.drop_replicate]; rfl
  rw [e1]
  have e2 : List.take (8 - G.length) (F ++ List.replicate (8 - F.length) v0) = F ++ List.replicate (8 - (F.length + G.length)) v0 := by
    rw [List.take_append, List.take_of_length_le (by omega), List.take_replicate]
    congr 2; omega
  have e3 : List.drop (8 - G.length + G.length) (F ++ List.replicate (8 - F.length) v0) = [] := by
    apply List.drop_eq_nil_of_le
    simp; omega
  rw [e2, e3]; simp
theorem sixC_map (z : List Int) (h : z.length = 8) : sixC z = (z.map (Value.int .i64)).toArray := by
  match z, h with
  | [a, b, c, d, e, f, g, i], _ => rfl
theorem zeros_list : (sixC [] : Array Value) = (List.replicate 8 (Value.int .i64 0)).toArray := rfl

/-- copy of numbers into a row of the call's own. -/
theorem copy_run (w : World) (g off dLen base : Nat) (ao sp : Option Addr) (l : List Nat)
    (cur : List Value) (t : TypeId) (hg : w.heap[g]? = some (.cells cur.toArray t (0, 0))) (hn : l.length ≤ dLen)
    (hao : 0 < l.length → ao = some ⟨g, off, none⟩) (hI : IntsAt base (.slice sp l.length l.length) l w) (hfit : off + l.length ≤ cur.length) :
    ∃ w', (Builtin.copy_ #[56, 56] 3 #[.slice ao dLen dLen, .slice sp l.length l.length]).run Tryz.prog w = .ok (goInt l.length) w' ∧ Hid (w'.heap[g]? = some (.cells (splice cur off (l.map fun x => Value.int .i64 (x : Nat))).toArray t (0, 0))) ∧ Hid (∀ B, B ≤ g → Below B w w') ∧ Hid (∀ k, k ≠ g → w'.heap[k]? = w.heap[k]?) := by
  have hinfo : (Tryz.prog.info? 3).map (·.size) = some 1 := by kernel_rfl
  by_cases h0 : l.length = 0
  · obtain rfl : l = [] := List.eq_nil_of_length_eq_zero h0
    have := run_copy_none (P := Tryz.prog) w 56 56 3 3 ao sp dLen dLen 0 0 Tryz.underlying56 hinfo (by simp)
    exact ⟨w, this, (show _ = _ by simpa [splice] using hg), (fun B _ => Below.refl _ _), (fun _ _ => rfl)⟩
  · have hl : l ≠ [] := fun e => h0 (by rw [e]; rfl)
    obtain ⟨ao', e1, hI2⟩ := hI
    cases e1
    obtain ⟨B, rfl, _, _, hc⟩ := hI2 hl
    obtain rfl := hao (by omega)
    have e : (l.map fun x : Nat => Value.int .i64 (x : Nat)).length = l.length := by simp
    have := run_copy_row (P := Tryz.prog) w 56 56 3 3 g off dLen dLen ⟨B, 0, none⟩ l.length l.length cur.toArray t (l.map fun x => Value.int .i64 (x : Nat)) Tryz.underlying56 hinfo hg (by rw [e]; exact (Nat.min_eq_left hn).symm) (fun j v hv => by
      rw [Lib.add_plain, Nat.zero_add]
      rw [List.getElem?_map] at hv
      cases hj : l[j]? with
      | none => rw [hj] at hv; cases hv
      | some x => rw [hj] at hv; cases hv; exact hc j x hj) (by rw [e]; simpa using hfit) (fun v hv => by
      obtain ⟨x, _, rfl⟩ := List.mem_map.1 hv
      rfl)
    rw [e] at this
    refine ⟨_, this, ?_, (fun B hB => below_setRow (Below.refl _ _) hB _), (fun k hk => setRow_other w g k _ hk)⟩
    show _ = _
    have h2 := setRow_heap w g cur.toArray (List.take off cur.toArray.toList ++ List.map (fun x => Value.int IntKind.i64 (x : Nat)) l ++ List.drop (off + l.length) cur.toArray.toList).toArray t _ hg
    rw [h2]
    simp [splice]

theorem IntsAt.moved {base g : Nat} {v : Value} {l : List Nat} {w w' : World} (h : IntsAt base v l w) (hg : g < base) (hb : ∀ B, B ≤ g → Below B w w') (hk : ∀ k, k ≠ g → w'.heap[k]? = w.heap[k]?) : IntsAt base v l w' := by
  obtain ⟨ao, h0, h⟩ := h
  refine ⟨ao, h0, fun hl => ?_⟩
  obtain ⟨B, h1, hB, h2, h3⟩ := h hl
  refine ⟨B, h1, hB, Nat.lt_of_lt_of_le h2 (hb 0 (Nat.zero_le _)).size, fun j x hx => ?_⟩
  have e : w'.cell? ⟨B, j, none⟩ = w.cell? ⟨B, j, none⟩ := World.cell?_of_block (w := w) (hk B (by omega))
  rw [e]
  exact h3 j x hx

set_option maxHeartbeats 8000000 in
set_option maxRecDepth 100000 in
theorem read_some (s : ByteArray) (w : World) (h : s.size ≤ 39) (hA : LaidA w) (z : List Int) (hn : AM.readF s.data.toList = some z) : Calls Tryz.prog 27 #[.string s] w fun e w' => e = .returned (.tuple #[six z, .bool true]) ∧ Below w.heap.size w w' := by
  have hcut := read_cut s w h hA
  obtain ⟨hz1, hz2⟩ := take_le s
  have hl8 := (AM.read_ok hn).2
  obtain ⟨fr, bk, h1, h2, hc, hz⟩ : ∃ fr bk, AM.nums 58 AM.hxw (Lib.cut s.data.toList [58, 58]).1 = some fr ∧ AM.nums 58 AM.hxw (Lib.cut s.data.toList [58, 58]).2.1 = some bk ∧ ¬ (8 < fr.length + bk.length ∨ ((Lib.cut s.data.toList [58, 58]).2.2 = false ∧ fr.length + bk.length < 8)) ∧ z = (fr ++ List.replicate (8 - (fr.length + bk.length)) 0 ++ bk).map Int.ofNat := by
    unfold AM.readF at hn
    rw [if_neg (by rw [← Lib.size_eq]; omega)] at hn
    cases h1 : AM.nums 58 AM.hxw (Lib.cut s.data.toList [58, 58]).1 with
    | none => simp [h1] at hn
    | some fr =>
      cases h2 : AM.nums 58 AM.hxw (Lib.cut s.data.toList [58, 58]).2.1 with
      | none => simp [h1, h2] at hn
      | some bk =>
        simp only [h1, h2] at hn
        split at hn
        · cases hn
        · rename_i hc
          exact ⟨fr, bk, rfl, rfl, hc, (Option.some.inj hn).symm⟩
  have d1 : (⟨(Lib.cut s.data.toList [58, 58]).1.toArray⟩ : ByteArray).data.toList = (Lib.cut s.data.toList [58, 58]).1 := by simp
  have d2 : (⟨(Lib.cut s.data.toList [58, 58]).2.1.toArray⟩ : ByteArray).data.toList = (Lib.cut s.data.toList [58, 58]).2.1 := by simp
  rw [← d1] at h1
  rw [← d2] at h2
  clear d1 d2 hn
  generalize (⟨(Lib.cut s.data.toList [58, 58]).1.toArray⟩ : ByteArray) = tb at hcut hz1 h1
  generalize (⟨(Lib.cut s.data.toList [58, 58]).2.1.toArray⟩ : ByteArray) = ta at hcut hz2 h2
  generalize (Lib.cut s.data.toList [58, 58]).2.2 = sh at hcut hc
  unfold noughts at hcut
  have hF : (fr.map fun x => Value.int .i64 (x : Nat)).length = fr.length := List.length_map _
  have hG : (bk.map fun x => Value.int .i64 (x : Nat)).length = bk.length := List.length_map _
  have HZ := hide (show sixC z = (splice (splice (List.replicate 8 (Value.int .i64 0)) 0 (fr.map fun x => Value.int .i64 (x : Nat))) (8 - bk.length) (bk.map fun x => Value.int .i64 (x : Nat))).toArray by
    have := splice_two (Value.int .i64 0) (fr.map fun x => Value.int .i64 (x : Nat)) (bk.map fun x => Value.int .i64 (x : Nat)) (by rw [hF, hG]; omega)
    rw [hF, hG] at this
    rw [this, sixC_map z hl8, hz]
    congr 1
    simp [List.map_append, List.map_replicate, Function.comp_def])
  clear hz hl8
  have H1 := hide h1
  have H2 := hide h2
  clear h1 h2
  have hs8 := six_slice w.heap.size
  have hsl := six_slice_l w.heap.size (8 - bk.length) (by omega)
  have hlen1 : fr.length ≤ 8 := by omega
  have hlen2 : bk.length ≤ 8 := by omega
  have hwr : (8 : Int) - (bk.length : Int) = ((8 - bk.length : Nat) : Int) := by omega
  have hinfo : (Tryz.prog.info? 3).map (·.size) = some 1 := by kernel_rfl
  by_cases hsh : sh = true
  · subst hsh
    have hc8 : fr.length + bk.length ≤ 8 := by omega
    clear hc
    go_enter Tryz.func27, Tryz.ntmps27
    go_wp2_with (first
      | (go_at_call 36; refine hcut.mono ?_; rintro e w1 ⟨rfl, hB1, hS1, hA1⟩)
      | (go_at_call_of 33 (Value.string tb); refine (numbers_ok 58 16 16 _ reads16 tb _ (by omega) hA1.2.2 hA1.2.1 fr H1.out).mono ?_; rintro e w2 ⟨⟨ao1, rfl, hI1⟩, hB2⟩; have hA2 := hA1.below hB2)
      | (go_at_call_of 33 (Value.string ta); refine (numbers_ok 58 16 16 _ reads16 ta _ (by omega) hA2.2.2 hA2.2.1 bk H2.out).mono ?_; rintro e w3 ⟨⟨ao2, rfl, hI2⟩, hB3⟩; have HS3 := hide (hS1.kept (bt hB2 hB3)); have HB3 := hide (bt hB1 (bt hB2 hB3)); have HI1 := hide (hI1.kept hB3); have hlt2 : w.heap.size < w2.heap.size := Nat.lt_of_lt_of_le hS1.lt hB2.size; obtain ⟨w4, hw4, HG4, HB4, HK4⟩ := copy_run w3 w.heap.size 0 8 w1.heap.size (some ⟨w.heap.size, 0, none⟩) ao1 fr (List.replicate 8 (Value.int .i64 0)) 23 HS3.out (by omega) (fun _ => rfl) HI1.out (by simp; omega); obtain ⟨w5, hw5, HG5, HB5, HK5⟩ := copy_run w4 w.heap.size (8 - bk.length) (8 - (8 - bk.length)) w2.heap.size (some ⟨w.heap.size, off8 (8 - bk.length), none⟩) ao2 bk (splice (List.replicate 8 (Value.int .i64 0)) 0 (fr.map fun x => Value.int .i64 (x : Nat))) 23 HG4.out (by omega) (fun hp => by unfold off8; rw [if_neg (by omega)]) (IntsAt.moved hI2 hlt2 HB4.out HK4.out) (by rw [length_splice _ _ _ (by simp; omega)]; simp; omega); rw [← HZ.out] at HG5; obtain ⟨⟨c0, f0, s0⟩, ⟨c1, f1, s1⟩, ⟨c2, f2, s2⟩, ⟨c3, f3, s3⟩, ⟨c4, f4, s4⟩, ⟨c5, f5, s5⟩, ⟨c6, f6, s6⟩, ⟨c7, f7, s7⟩⟩ := SixIn.all HG5.out))
    exact bodyPost_ret (v := .tuple #[.agg #[.int .i64 (el z 0), .int .i64 (el z 1), .int .i64 (el z 2), .int .i64 (el z 3), .int .i64 (el z 4), .int .i64 (el z 5), .int .i64 (el z 6), .int .i64 (el z 7)], .bool true]) (by simp [results, Tryz.results27, go_sem, c0, c1, c2, c3, c4, c5, c6, c7]) rfl ⟨rfl, (HB3.out.trans (HB4.out _ (Nat.le_refl _))).trans (HB5.out _ (Nat.le_refl _))⟩
  · obtain rfl : sh = false := by simpa using hsh
    have hc8 : fr.length + bk.length = 8 := by
      have h1 : ¬ 8 < fr.length + bk.length := fun h => hc (.inl h)
      have h2 : ¬ fr.length + bk.length < 8 := fun h => hc (.inr ⟨rfl, h⟩)
      omega
    clear hc hsh
    go_enter Tryz.func27, Tryz.ntmps27
    go_wp2_with (first
      | (go_at_call 36; refine hcut.mono ?_; rintro e w1 ⟨rfl, hB1, hS1, hA1⟩)
      | (go_at_call_of 33 (Value.string tb); refine (numbers_ok 58 16 16 _ reads16 tb _ (by omega) hA1.2.2 hA1.2.1 fr H1.out).mono ?_; rintro e w2 ⟨⟨ao1, rfl, hI1⟩, hB2⟩; have hA2 := hA1.below hB2)
      | (go_at_call_of 33 (Value.string ta); refine (numbers_ok 58 16 16 _ reads16 ta _ (by omega) hA2.2.2 hA2.2.1 bk H2.out).mono ?_; rintro e w3 ⟨⟨ao2, rfl, hI2⟩, hB3⟩; have HS3 := hide (hS1.kept (bt hB2 hB3)); have HB3 := hide (bt hB1 (bt hB2 hB3)); have HI1 := hide (hI1.kept hB3); have hlt2 : w.heap.size < w2.heap.size := Nat.lt_of_lt_of_le hS1.lt hB2.size; obtain ⟨w4, hw4, HG4, HB4, HK4⟩ := copy_run w3 w.heap.size 0 8 w1.heap.size (some ⟨w.heap.size, 0, none⟩) ao1 fr (List.replicate 8 (Value.int .i64 0)) 23 HS3.out (by omega) (fun _ => rfl) HI1.out (by simp; omega); obtain ⟨w5, hw5, HG5, HB5, HK5⟩ := copy_run w4 w.heap.size (8 - bk.length) (8 - (8 - bk.length)) w2.heap.size (some ⟨w.heap.size, off8 (8 - bk.length), none⟩) ao2 bk (splice (List.replicate 8 (Value.int .i64 0)) 0 (fr.map fun x => Value.int .i64 (x : Nat))) 23 HG4.out (by omega) (fun hp => by unfold off8; rw [if_neg (by omega)]) (IntsAt.moved hI2 hlt2 HB4.out HK4.out) (by rw [length_splice _ _ _ (by simp; omega)]; simp; omega); rw [← HZ.out] at HG5; obtain ⟨⟨c0, f0, s0⟩, ⟨c1, f1, s1⟩, ⟨c2, f2, s2⟩, ⟨c3, f3, s3⟩, ⟨c4, f4, s4⟩, ⟨c5, f5, s5⟩, ⟨c6, f6, s6⟩, ⟨c7, f7, s7⟩⟩ := SixIn.all HG5.out))
    exact bodyPost_ret (v := .tuple #[.agg #[.int .i64 (el z 0), .int .i64 (el z 1), .int .i64 (el z 2), .int .i64 (el z 3), .int .i64 (el z 4), .int .i64 (el z 5), .int .i64 (el z 6), .int .i64 (el z 7)], .bool true]) (by simp [results, Tryz.results27, go_sem, c0, c1, c2, c3, c4, c5, c6, c7]) rfl ⟨rfl, (HB3.out.trans (HB4.out _ (Nat.le_refl _))).trans (HB5.out _ (Nat.le_refl _))⟩
end Go.Proofs.YtdbhhlggddbehaaGreatDoor
