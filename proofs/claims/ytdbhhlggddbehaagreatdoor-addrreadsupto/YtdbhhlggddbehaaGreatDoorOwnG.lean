/- Slices that the call itself has made, of elements of one cell, and append onto them, as laws for a walk; the document's own Split by a contract. -/
import Derived.Test.YtdbhhlggddbehaaGreatDoorRefFour
import Derived.Laws.AppendOwnNone
namespace Go.Proofs.YtdbhhlggddbehaaGreatDoor
open Go.RowKit Go.Shelf

/-- v is a slice of the call's own (or nil), of these elements. -/
def OwnG (e : TypeId) (base : Nat) (w : World) (v : Value) (xs : List Value) : Prop := w.ownsRow base e 1 v xs.length xs
theorem OwnG.nil (e : TypeId) (base : Nat) (w : World) : OwnG e base w (.slice none 0 0) [] := World.ownsRow_nil _ _ _ _
theorem OwnG.parts {e : TypeId} {base : Nat} {w : World} {v : Value} {xs : List Value} (h : OwnG e base w v xs) : ∃ ao cap, v = .slice ao xs.length cap ∧ (xs ≠ [] → ∃ g, ao = some ⟨g, 0, none⟩ ∧ base ≤ g ∧ g < w.heap.size ∧ ∀ (j : Nat) x, xs[j]? = some x → w.cell? ⟨g, j, none⟩ = some x) := by
  have h' : w.ownsRow base e 1 v xs.length xs := h
  obtain ⟨h1, h2⟩ := h
  rcases h2 with ⟨rfl, hn⟩ | ⟨g, cap, cur, rfl, hb, hg, rest⟩
  · have : xs = [] := List.eq_nil_of_length_eq_zero hn
    subst this
    exact ⟨none, 0, rfl, fun h => absurd rfl h⟩
  · refine ⟨_, cap, rfl, fun _ => ⟨g, rfl, hb, (Array.getElem?_eq_some_iff.1 hg).1, fun j x hx => ?_⟩⟩
    have := h'.cellAt j (by have := (List.getElem?_eq_some_iff.1 hx).1; omega)
    rw [this, hx]
theorem OwnG.base {e : TypeId} {base : Nat} {w : World} {v : Value} {xs : List Value} (h : OwnG e base w v xs) : ∀ k, v.ownBlock = some k → base ≤ k := by
  intro k hk
  rcases h.2 with ⟨rfl, _⟩ | ⟨g, cap, cur, rfl, hb, _⟩
  · simp [Value.ownBlock] at hk
  · have : g = k := by simpa [Value.ownBlock] using hk
    omega
theorem OwnG.kept {e : TypeId} {base : Nat} {w w' : World} {v : Value} {xs : List Value} (h : OwnG e base w v xs) (hb : Below w.heap.size w w') : OwnG e base w' v xs := by
  refine ⟨h.1, ?_⟩
  rcases h.2 with h2 | ⟨g, cap, cur, rfl, hb', hg, rest⟩
  · exact .inl h2
  · exact .inr ⟨g, cap, cur, rfl, hb', by rw [hb.block g (Array.getElem?_eq_some_iff.1 hg).1]; exact hg, rest⟩
theorem OwnG.other {e : TypeId} {base : Nat} {w w' : World} {v : Value} {xs : List Value} (h : OwnG e base w v xs) {row : Option Nat} (hg : w.grownBy w' row) (hne : v.ownBlock = none ∨ v.ownBlock ≠ row) : OwnG e base w' v xs := World.ownsRow.kept h hg hne
theorem app_str {w : World} {ops : Array Oper} {rest : List Oper} {o : Oper} {a : Act} {Q : Exit → Act → World → Prop} (hgd : o.guard = none) (s x : Operand)
    (ho : o.op = .call { callee := .builtin .append, args := #[s, x], argTypes := #[63, 63] })
    (base : Nat) (v : Value) (xs : List Value) (hs : a.eval s = v) (hown : OwnG 9 base w v xs) (B m : Nat) (ys : List Value) (hx : a.eval x = .slice (some ⟨B, 0, none⟩) m m) (hm : ys.length = m)
    (hc : ∀ (j : Nat) u, ys[j]? = some u → w.cell? ⟨B, j, none⟩ = some u) (h1 : ∀ u ∈ ys, u.oneCell' = true) (hlen : xs.length + m ≤ 4000000) (hbase : base ≤ w.heap.size)
    (h : ∀ v' w', OwnG 9 base w' v' (xs ++ ys) → w.grownBy w' v.ownBlock → wpList Tryz.prog ops Q rest (a.put o.dst v') w') : wpList Tryz.prog ops Q (o :: rest) a w := by
  obtain ⟨i0, hi, hz0, hz1, hz2⟩ := info_parts Tryz.infoStr
  refine wpList_append_own _ hgd s x 63 ho base 9 i0 (.string ⟨#[]⟩) 1 16 Tryz.underlying63 hi hz0 hz1 hz2 rfl (by decide) v xs.length xs hs hown ⟨B, 0, none⟩ m m ys hx (by omega) ?_ h1 (by unfold maxLen; omega) (by omega) hbase ?_
  · intro j u hu
    rw [Lib.add_plain, Nat.zero_add]
    exact hc j u hu
  · intro v' w' h2 h3 _
    refine h v' w' ?_ h3
    unfold OwnG
    rw [List.length_append, hm]
    exact h2
theorem app_int {w : World} {ops : Array Oper} {rest : List Oper} {o : Oper} {a : Act} {Q : Exit → Act → World → Prop} (hgd : o.guard = none) (s x : Operand)
    (ho : o.op = .call { callee := .builtin .append, args := #[s, x], argTypes := #[56, 56] })
    (base : Nat) (v : Value) (xs : List Value) (hs : a.eval s = v) (hown : OwnG 3 base w v xs) (B m : Nat) (ys : List Value) (hx : a.eval x = .slice (some ⟨B, 0, none⟩) m m) (hm : ys.length = m)
    (hc : ∀ (j : Nat) u, ys[j]? = some u → w.cell? ⟨B, j, none⟩ = some u) (h1 : ∀ u ∈ ys, u.oneCell' = true) (hlen : xs.length + m ≤ 4000000) (hbase : base ≤ w.heap.size)
    (h : ∀ v' w', OwnG 3 base w' v' (xs ++ ys) → w.grownBy w' v.ownBlock → wpList Tryz.prog ops Q rest (a.put o.dst v') w') : wpList Tryz.prog ops Q (o :: rest) a w := by
  obtain ⟨i0, hi, hz0, hz1, hz2⟩ := info_parts Tryz.infoInt
  refine wpList_append_own _ hgd s x 56 ho base 3 i0 (.int .i64 0) 1 8 Tryz.underlying56 hi hz0 hz1 hz2 rfl (by decide) v xs.length xs hs hown ⟨B, 0, none⟩ m m ys hx (by omega) ?_ h1 (by unfold maxLen; omega) (by omega) hbase ?_
  · intro j u hu
    rw [Lib.add_plain, Nat.zero_add]
    exact hc j u hu
  · intro v' w' h2 h3 _
    refine h v' w' ?_ h3
    unfold OwnG
    rw [List.length_append, hm]
    exact h2
theorem Tryz.infoByte : (Tryz.prog.info? 5).map (fun i => (i.zero, i.size, i.bytes)) = some (some (.int .u8 0), 1, 1) := by kernel_rfl
theorem app_byte {w : World} {ops : Array Oper} {rest : List Oper} {o : Oper} {a : Act} {Q : Exit → Act → World → Prop} (hgd : o.guard = none) (s x : Operand)
    (ho : o.op = .call { callee := .builtin .append, args := #[s, x], argTypes := #[27, 27] })
    (base : Nat) (v : Value) (xs : List Value) (hs : a.eval s = v) (hown : OwnG 5 base w v xs) (B m : Nat) (ys : List Value) (hx : a.eval x = .slice (some ⟨B, 0, none⟩) m m) (hm : ys.length = m)
    (hc : ∀ (j : Nat) u, ys[j]? = some u → w.cell? ⟨B, j, none⟩ = some u) (h1 : ∀ u ∈ ys, u.oneCell' = true) (hlen : xs.length + m ≤ 4000000) (hbase : base ≤ w.heap.size)
    (h : ∀ v' w', OwnG 5 base w' v' (xs ++ ys) → w.grownBy w' v.ownBlock → wpList Tryz.prog ops Q rest (a.put o.dst v') w') : wpList Tryz.prog ops Q (o :: rest) a w := by
  obtain ⟨i0, hi, hz0, hz1, hz2⟩ := info_parts Tryz.infoByte
  refine wpList_append_own _ hgd s x 27 ho base 5 i0 (.int .u8 0) 1 1 Tryz.underlying27 hi hz0 hz1 hz2 rfl (by decide) v xs.length xs hs hown ⟨B, 0, none⟩ m m ys hx (by omega) ?_ h1 (by unfold maxLen; omega) (by omega) hbase ?_
  · intro j u hu
    rw [Lib.add_plain, Nat.zero_add]
    exact hc j u hu
  · intro v' w' h2 h3 _
    refine h v' w' ?_ h3
    unfold OwnG
    rw [List.length_append, hm]
    exact h2

theorem drop_take_split (l : List UInt8) (f k : Nat) (hf : f ≤ k) (hk : k < l.length) : l.drop f = (l.drop f).take (k - f) ++ l.getD k 0 :: l.drop (k + 1) := by
  have h1 : (l.drop f).drop (k - f) = l.getD k 0 :: l.drop (k + 1) := by
    rw [List.drop_drop, show f + (k - f) = k by omega, List.drop_eq_getElem_cons hk]
    simp [hk]
  rw [← h1, List.take_append_drop]

set_option maxHeartbeats 4000000 in
set_option maxRecDepth 100000 in
theorem rsplit_any (c : UInt8) (s : ByteArray) (w : World) (hs : s.size ≤ 1048576) : Calls Tryz.prog 32 #[.string s, .int .u8 (c.toNat : Int)] w fun e w' => ∃ (v : Value) (WS : List ByteArray), e = .returned v ∧ OwnG 9 w.heap.size w' v (WS.map Value.string) ∧ WS.map (·.data.toList) = AM.spl c s.data.toList ∧ Below w.heap.size w w' := by
  have hsl : s.data.toList.length = s.size := (Lib.size_eq s).symm
  have hc256 : c.toNat < 256 := c.toNat_lt
  go_enter Tryz.func32, Tryz.ntmps32
  go_wp2
  go_loopw [5, 6, 7] (fun v f i wr => ∃ (k g : Nat) (WS : List ByteArray), k ≤ s.size ∧ g ≤ k ∧ f = .int .i64 g ∧ i = .int .i64 k ∧ WS.length ≤ g ∧ Hid (OwnG 9 w.heap.size wr v (WS.map Value.string)) ∧ Hid (Below w.heap.size w wr) ∧ Hid (WS.map (·.data.toList) ++ AM.spl c (s.data.toList.drop g) = AM.spl c s.data.toList) ∧ Hid (∀ b ∈ (s.data.toList.drop g).take (k - g), b ≠ c)) (fun _ _ i _ => s.size - (intOf i).toNat)
  case atStart => exact ⟨0, 0, [], by omega, by omega, rfl, rfl, by simp, OwnG.nil _ _ _, Below.refl _ _, hide (by simp), fun b hb => by simp at hb⟩
  case round =>
    obtain ⟨k, g, WS, hk, hg, rfl, rfl, hW, HO, HB, HS, HN⟩ := hrel
    by_cases hlt : k < s.size
    · have hix := str_at s k hlt (k : Int) rfl
      have HD := hide (drop_take_split s.data.toList g k hg (by rw [hsl]; exact hlt))
      by_cases he : s.data.toList.getD k 0 = c
      · have HS2 := hide (show (WS ++ [s.extract g k]).map (·.data.toList) ++ AM.spl c (s.data.toList.drop (k + 1)) = AM.spl c s.data.toList by
          rw [← HS.out, HD.out, he, AM.spl_app c _ _ HN.out]
          simp)
        have hb1 : Below wr.heap.size wr (wr.alloc (.cells #[.string (s.extract g k)] 9)) := (Below.refl _ _).alloc (Nat.le_refl _) _
        have HO2 := hide (HO.out.kept hb1)
        have HB2 := hide (bt HB.out hb1)
        rw [he] at hix
        clear HS HN HD he hsl
        go_wp2_with (at_builtin; refine app_str rfl (.tmp 19) (.tmp 24) rfl w.heap.size _ (WS.map Value.string) rfl HO2.out wr.heap.size 1 [.string (s.extract g k)] rfl rfl (fun j u hu => by cases j with | zero => simp at hu; subst hu; simp | succ j => simp at hu) (fun u hu => by simp at hu; subst hu; rfl) (by simp; omega) HB2.out.size ?_; intro v' w' HO3 hg3)
        have HO4 := hide (show OwnG 9 w.heap.size w' v' ((WS ++ [s.extract g k]).map Value.string) by rw [List.map_append]; exact HO3)
        have HB3 := hide (HB2.out.grown hg3 HB2.out.size (HO2.out.base))
        go_roundw
        case rel => exact ⟨k + 1, k + 1, WS ++ [s.extract g k], by omega, by omega, by go_num, by go_num, by simp; omega, HO4, HB3, HS2, fun b hb => by simp at hb⟩
        case measure => simp [intOf]; omega
      · have hb : (((s.data.toList.getD k 0).toNat : Int) == (c.toNat : Int)) = false := by
          rw [beq_eq_false_iff_ne]
          intro e
          exact he (UInt8.toNat_inj.1 (by omega))
        have HN2 := hide (show ∀ b ∈ (s.data.toList.drop g).take (k + 1 - g), b ≠ c from fun b hb => by
          rw [show k + 1 - g = (k - g) + 1 by omega, List.take_add_one] at hb
          rcases List.mem_append.1 hb with hb | hb
          · exact HN.out b hb
          · rw [List.getElem?_drop, show g + (k - g) = k by omega, List.getElem?_eq_getElem (by rw [hsl]; exact hlt)] at hb
            simp at hb
            subst hb
            intro e
            apply he
            rw [← e]
            simp [List.getElem?_eq_getElem (show k < s.data.toList.length by rw [hsl]; exact hlt)])
        generalize ((s.data.toList.getD k 0).toNat : Int) = x at hix hb
        clear HN HD he hsl
        go_wp2
        go_roundw
        case rel => exact ⟨k + 1, g, WS, by omega, by omega, rfl, by go_num, hW, HO, HB, HS, HN2⟩
        case measure => simp [intOf]; omega
    · obtain rfl : k = s.size := by omega
      have HS2 := hide (show (WS ++ [s.extract g s.size]).map (·.data.toList) = AM.spl c s.data.toList by
        rw [← HS.out, AM.spl_word c (s.data.toList.drop g) (fun b hb => HN.out b (by rw [List.take_of_length_le (by rw [List.length_drop, hsl]; omega)]; exact hb))]
        simp
        rw [List.take_of_length_le (by rw [← hsl]; simp)])
      have hb1 : Below wr.heap.size wr (wr.alloc (.cells #[.string (s.extract g s.size)] 9)) := (Below.refl _ _).alloc (Nat.le_refl _) _
      have HO2 := hide (HO.out.kept hb1)
      have HB2 := hide (bt HB.out hb1)
      clear HS HN hsl
      go_wp2_with (at_builtin; refine app_str rfl (.tmp 28) (.tmp 32) rfl w.heap.size _ (WS.map Value.string) rfl HO2.out wr.heap.size 1 [.string (s.extract g s.size)] rfl rfl (fun j u hu => by cases j with | zero => simp at hu; subst hu; simp | succ j => simp at hu) (fun u hu => by simp at hu; subst hu; rfl) (by simp; omega) HB2.out.size ?_; intro v' w' HO3 hg3)
      go_ret
      refine ⟨v', WS ++ [s.extract g s.size], rfl, ?_, HS2.out, HB2.out.grown hg3 HB2.out.size (HO2.out.base)⟩
      rw [List.map_append]; exact HO3
end Go.Proofs.YtdbhhlggddbehaaGreatDoor
