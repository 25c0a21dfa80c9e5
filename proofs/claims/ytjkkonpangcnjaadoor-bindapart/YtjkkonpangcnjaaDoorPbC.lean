/- The program's ports as they lie in the heap: a row of blocks, and the block that holds it; roomFor by a contract. -/
import Derived.Test.YtjkkonpangcnjaaDoorPbB
namespace Go.Proofs.YtjkkonpangcnjaaDoor
open Go.RowKit

/-- which ports of one block are taken. -/
def sb (ts : Nat → Bool) (k : Nat) : Nat → Bool := fun j => ts (8 * k + j)
/-- a row of blocks. -/
def BRow (B m : Nat) (ow : Nat → List Int) (ts : Nat → Bool) (w : World) : Prop := ∃ cs : Array Value, w.heap[B]? = some (.cells cs 103 (0, 0)) ∧ cs.size = 16 * m ∧ ∀ k, k < m → ∀ j, j < 8 → cs[16 * k + j]? = some (.int .i64 (el (ow k) j)) ∧ cs[16 * k + 8 + j]? = some (.bool (ts (8 * k + j)))
theorem BRow.lt {B m : Nat} {ow : Nat → List Int} {ts : Nat → Bool} {w : World} (h : BRow B m ow ts w) : B < w.heap.size := by obtain ⟨cs, h1, _⟩ := h; exact (Array.getElem?_eq_some_iff.1 h1).1
theorem BRow.same {B m : Nat} {ow : Nat → List Int} {ts : Nat → Bool} {w w' : World} (h : BRow B m ow ts w) (e : w'.heap[B]? = w.heap[B]?) : BRow B m ow ts w' := by obtain ⟨cs, h1, h2⟩ := h; exact ⟨cs, e.trans h1, h2⟩
theorem BRow.bit {B m : Nat} {ow : Nat → List Int} {ts : Nat → Bool} {w : World} (h : BRow B m ow ts w) (k : Nat) (hk : k < m) (j : Nat) (hj : j < 8) : w.cell? ⟨B, 16 * k + 8 + j, none⟩ = some (.bool (ts (8 * k + j))) ∧ w.frozen? ⟨B, 16 * k + 8 + j, none⟩ = false := by
  obtain ⟨cs, h1, h2, h3⟩ := h
  exact ⟨by rw [cell_of_row w B _ _ _ _ h1]; exact (h3 k hk j hj).2, by simp [World.frozen?, h1]⟩
theorem BRow.who {B m : Nat} {ow : Nat → List Int} {ts : Nat → Bool} {w : World} (h : BRow B m ow ts w) (k : Nat) (hk : k < m) : w.rangeAt B (16 * k) (sixC (ow k)).toList := by
  obtain ⟨cs, h1, h2, h3⟩ := h
  intro j v hv
  have hj : j < 8 := (List.getElem?_eq_some_iff.1 hv).1
  rw [cell_of_row w B (16 * k + j) _ _ _ h1, (h3 k hk j hj).1, ← sixC_at (ow k) j hj]
  simpa using hv
theorem BRow.all {B m : Nat} {ow : Nat → List Int} {ts : Nat → Bool} {w : World} (h : BRow B m ow ts w) (k : Nat) (hk : k < m) : w.rangeAt B (16 * k) (pbC (ow k) (sb ts k)).toList := by
  obtain ⟨cs, h1, h2, h3⟩ := h
  intro j v hv
  have hj : j < 16 := (List.getElem?_eq_some_iff.1 hv).1
  have hv' : (pbC (ow k) (sb ts k))[j]? = some v := by simpa using hv
  rw [cell_of_row w B (16 * k + j) _ _ _ h1]
  by_cases h8 : j < 8
  · rw [(h3 k hk j h8).1, ← hv', pbC_six _ _ j h8]
  · obtain ⟨i, rfl⟩ : ∃ i, j = 8 + i := ⟨j - 8, by omega⟩
    rw [← Nat.add_assoc, (h3 k hk i (by omega)).2, ← hv', pbC_boo _ _ i (by omega)]
    rfl
theorem at_brow {ops : Array Oper} {rest : List Oper} {o : Oper} {f : Act} {w : World} {Q : Exit → Act → World → Prop} (hgd : o.guard = none) (x : Operand) (ho : o.op = .load 103 x)
    {B m : Nat} {ow : Nat → List Int} {ts : Nat → Bool} (k off : Nat) (hx : f.eval x = .pointer (some ⟨B, off, none⟩)) (hoff : off = 16 * k) (hk : k < m) (p : BRow B m ow ts w)
    (hK : wpList Tryd.prog ops Q rest (f.put o.dst (.agg (pbC (ow k) (sb ts k)))) w) : wpList Tryd.prog ops Q (o :: rest) f w := by
  subst hoff
  exact wpList_load_mid hgd 103 x ho B (16 * k) hx (pbC (ow k) (sb ts k)).toList _ (p.all k hk) Tryd.underlying103 rfl (by kernel_rfl) hK
theorem pb_zero (w : World) : PbIn w.heap.size [] (fun _ => false) (w.alloc (.cells #[.int .i64 0, .int .i64 0, .int .i64 0, .int .i64 0, .int .i64 0, .int .i64 0, .int .i64 0, .int .i64 0, .bool false, .bool false, .bool false, .bool false, .bool false, .bool false, .bool false, .bool false] 103)) := heap_alloc_new w _
theorem PbIn.stored {B : Nat} {z0 : List Int} {t0 : Nat → Bool} {w : World} (p : PbIn B z0 t0 w) (z : List Int) (t : Nat → Bool) : PbIn B z t (w.setRow B (pbC z t)) := setRow_heap w B _ _ _ (0, 0) p
theorem at_storepb {ops : Array Oper} {rest : List Oper} {o : Oper} {f : Act} {w : World} {Q : Exit → Act → World → Prop} (hgd : o.guard = none) (x y : Operand) (ho : o.op = .store 103 x y)
    {B : Nat} {z0 : List Int} {t0 : Nat → Bool} (hx : f.eval x = .pointer (some ⟨B, 0, none⟩)) (p : PbIn B z0 t0 w) (z : List Int) (t : Nat → Bool) (hy : f.eval y = .agg (pbC z t))
    (hK : ∀ w', PbIn B z t w' → Only B w w' → wpList Tryd.prog ops Q rest (f.put o.dst undef) w') : wpList Tryd.prog ops Q (o :: rest) f w :=
  wpList_store_row hgd 103 x y ho B _ hx hy 103 _ p (by kernel_rfl) rfl (by unfold pbC; simp [Value.oneCell']) (hK _ (p.stored z t) (only_setRow _ _ _))
/-- the program's ports. -/
def BP (B BB m : Nat) (ow : Nat → List Int) (ts : Nat → Bool) (w : World) : Prop := w.heap[B]? = some (.cells #[.slice (some ⟨BB, 0, none⟩) m m] 89 (0, 0)) ∧ BRow BB m ow ts w
theorem BP.lt {B BB m : Nat} {ow : Nat → List Int} {ts : Nat → Bool} {w : World} (h : BP B BB m ow ts w) : B < w.heap.size := (Array.getElem?_eq_some_iff.1 h.1).1
theorem BP.kept {B BB m : Nat} {ow : Nat → List Int} {ts : Nat → Bool} {w w' : World} (h : BP B BB m ow ts w) (hb : Below w.heap.size w w') : BP B BB m ow ts w' := ⟨(hb.block B h.lt).trans h.1, h.2.same (hb.block BB h.2.lt)⟩
theorem BP.row {B BB m : Nat} {ow : Nat → List Int} {ts : Nat → Bool} {w : World} (h : BP B BB m ow ts w) : w.cell? ⟨B, 0, none⟩ = some (.slice (some ⟨BB, 0, none⟩) m m) := cell_of_row w B 0 _ _ _ h.1
theorem BP.ne {B BB m : Nat} {ow : Nat → List Int} {ts : Nat → Bool} {w : World} (h : BP B BB m ow ts w) : B ≠ BB := by
  rintro rfl
  obtain ⟨h1, cs, h2, _⟩ := h
  rw [h1] at h2
  cases h2
/-- what is kept in a loop over the blocks: the ports, an address in its block. -/
def Kp (w : World) (B BB m : Nat) (ow : Nat → List Int) (ts : Nat → Bool) (z : List Int) (W : World) : Prop := BP B BB m ow ts W ∧ SixIn w.heap.size z W ∧ Below w.heap.size w W
theorem Kp.kept {w : World} {B BB m : Nat} {ow : Nat → List Int} {ts : Nat → Bool} {z : List Int} {W W' : World} (h : Kp w B BB m ow ts z W) (hb : Below W.heap.size W W') : Kp w B BB m ow ts z W' := ⟨h.1.kept hb, h.2.1.kept hb, bt h.2.2 hb⟩
/-- a block that is somebody's. -/
def mine (ow : Nat → List Int) (ts : Nat → Bool) (z : List Int) (k : Nat) : Bool := eqz (ow k) z && !nob (sb ts k)
/-- and has room. -/
def r0 (ow : Nat → List Int) (ts : Nat → Bool) (z : List Int) (k : Nat) : Bool := mine ow ts z k && (fx (sb ts k)).isSome
def r1 (ts : Nat → Bool) (k : Nat) : Bool := nob (sb ts k)
def rm (ow : Nat → List Int) (ts : Nat → Bool) (z : List Int) (m : Nat) : Option Nat := ((List.range m).find? (r0 ow ts z)).or ((List.range m).find? (r1 ts))
theorem find_succ (f : Nat → Bool) (k : Nat) : (List.range (k + 1)).find? f = ((List.range k).find? f).or (if f k = true then some k else none) := by
  rw [List.range_succ, List.find?_append, List.find?_singleton]
theorem fi_lt (o : Option Nat) : decide (fi o < 0) = o.isNone := by
  cases o with
  | none => rfl
  | some i => unfold fi; simp
attribute [local go_sem ↓] pload_shut
set_option maxRecDepth 100000 in
set_option maxHeartbeats 4000000 in
theorem room_any (B BB m : Nat) (ow : Nat → List Int) (ts : Nat → Bool) (z : List Int) (w : World) (h : BP B BB m ow ts w) (hm : m ≤ 16) (R : Option Nat) (hR : rm ow ts z m = R) :
    Calls Tryd.prog 42 #[.pointer (some ⟨B, 0, none⟩), .agg (sixC z)] w fun e w' => e = .returned (.int .i64 (fi R)) ∧ Below w.heap.size w w' := by
  have HK := hide (show Kp w B BB m ow ts z (w.alloc (.cells (sixC z) 33)) from ⟨h.kept (al_below _ _), six_new z w, al_below _ _⟩)
  have HR := hide hR
  have hm' : (m : Int) ≤ 16 := by omega
  clear h hR
  go_enter Tryd.func42, Tryd.ntmps42
  go_upto_region 1 with fail
  generalize w.alloc _ = W at HK ⊢
  have l1 := HK.out.1.row
  go_wp2
  go_loopw [5, 13] (fun v i wr => ∃ k : Nat, k ≤ m ∧ i = .int .i64 k ∧ v = .int .i64 (fi ((List.range k).find? (r1 ts))) ∧ Hid (∀ j, j < k → r0 ow ts z j = false) ∧ Hid (Kp w B BB m ow ts z wr)) (fun _ i _ => m - (intOf i).toNat)
  case atStart => exact ⟨0, by omega, rfl, rfl, fun j h => absurd h (by omega), HK⟩
  case round =>
    clear HK l1
    obtain ⟨k, hk, rfl, rfl, HI, HV⟩ := hrel
    by_cases hlt : k < m
    · have j1 : (k : Int) < (m : Int) := by omega
      have HS := hide (find_succ (r1 ts) k)
      have hf := fi_lt ((List.range k).find? (r1 ts))
      have HX := hide (show fi ((List.range k).find? (r1 ts)) ≤ 16 by
        cases h9 : (List.range k).find? (r1 ts) with
        | none => show (-1 : Int) ≤ 16; omega
        | some i => have := List.mem_range.1 (List.mem_of_find?_eq_some h9); show ((i : Nat) : Int) ≤ 16; omega)
      go_upto_region 5 with (first
        | (refine at_brow rfl (.tmp 16) rfl k _ rfl (by omega) hlt HV.out.1.2 ?_; have hb0 := al_below wr (.cells #[.int .i64 0, .int .i64 0, .int .i64 0, .int .i64 0, .int .i64 0, .int .i64 0, .int .i64 0, .int .i64 0, .bool false, .bool false, .bool false, .bool false, .bool false, .bool false, .bool false, .bool false] 103); have HZ := hide (pb_zero wr))
        | (refine at_storepb rfl (.tmp 7) (.tmp 17) rfl rfl HZ.out (ow k) (sb ts k) rfl ?_; intro w2 p2 on2; replace HV := hide (HV.out.kept (new_below _ on2)); replace p2 := hide p2; clear on2 hb0 HZ))
      generalize wr.heap.size = B2 at p2 ⊢
      have HR0 := hide (show r0 ow ts z k = ((eqz (ow k) z && !nob (sb ts k)) && !(fx (sb ts k)).isNone) by unfold r0 mine; cases fx (sb ts k) <;> rfl)
      have HC1 := hide (fun W => isof_any (ow k) (sb ts k) z W)
      have HC2 := hide (fun W => isfull_any (ow k) (sb ts k) W)
      have HC3 := hide (fun W => nob_any (ow k) (sb ts k) W)
      have HN := hide (show r1 ts k = nob (sb ts k) from rfl)
      generalize (eqz (ow k) z && !nob (sb ts k)) = b at HC1 HR0
      generalize (fx (sb ts k)).isNone = c at HC2 HR0
      generalize nob (sb ts k) = d at HC3 HN
      generalize (List.range k).find? (r1 ts) = o at hf HS HX ⊢
      have g1 := p2.out.pl
      cases b
      · go_upto_region 7 with (first
          | (refine at_load6 rfl (.tmp 3) rfl rfl HV.out.2.1 ?_)
          | (go_at_call 53; refine (HC1.out _).mono ?_; rintro e w3 ⟨rfl, hb3⟩; replace HV := hide (HV.out.kept hb3); replace p2 := hide (p2.out.kept hb3); have g2 := p2.out.pl; clear hb3)
          | (go_at_call 54; refine (HC2.out _).mono ?_; rintro e w5 ⟨rfl, hb5⟩; replace HV := hide (HV.out.kept hb5); replace p2 := hide (p2.out.kept hb5); clear hb5))
        cases o with
        | none =>
          have hx : fi none < 0 := by decide
          generalize hxe : fi none = x at hx HX ⊢
          have HE := hide hxe
          clear hxe hf
          have g3 := p2.out.pl
          cases d
          · go_wp2_with (go_at_call 55; refine (HC3.out _).mono ?_; rintro e w4 ⟨rfl, hb4⟩; replace HV := hide (HV.out.kept hb4); clear hb4)
            go_roundw
            case rel => exact ⟨k + 1, by omega, by go_num, by rw [HS.out, HN.out, ← HE.out]; rfl, fun j hj => if e : j = k then by rw [e, HR0.out]; rfl else HI.out j (by omega), HV⟩
            case measure => simp [intOf]; omega
          · go_wp2_with (go_at_call 55; refine (HC3.out _).mono ?_; rintro e w4 ⟨rfl, hb4⟩; replace HV := hide (HV.out.kept hb4); clear hb4)
            go_roundw
            case rel => exact ⟨k + 1, by omega, by go_num, by rw [HS.out, HN.out]; rfl, fun j hj => if e : j = k then by rw [e, HR0.out]; rfl else HI.out j (by omega), HV⟩
            case measure => simp [intOf]; omega
        | some i =>
          have hx : ¬ fi (some i) < 0 := by rw [show fi (some i) = (i : Int) from rfl]; omega
          have HS2 := hide (show (List.range (k + 1)).find? (r1 ts) = some i by rw [HS.out]; rfl)
          generalize hxe : fi (some i) = x at hx HX ⊢
          have HE := hide hxe
          clear hxe hf
          go_wp2
          go_roundw
          case rel => exact ⟨k + 1, by omega, by go_num, by rw [HS2.out, ← HE.out], fun j hj => if e : j = k then by rw [e, HR0.out]; rfl else HI.out j (by omega), HV⟩
          case measure => simp [intOf]; omega
      · cases c
        · go_wp2_with (first
          | (refine at_load6 rfl (.tmp 3) rfl rfl HV.out.2.1 ?_)
          | (go_at_call 53; refine (HC1.out _).mono ?_; rintro e w3 ⟨rfl, hb3⟩; replace HV := hide (HV.out.kept hb3); replace p2 := hide (p2.out.kept hb3); have g2 := p2.out.pl; clear hb3)
          | (go_at_call 54; refine (HC2.out _).mono ?_; rintro e w5 ⟨rfl, hb5⟩; replace HV := hide (HV.out.kept hb5); replace p2 := hide (p2.out.kept hb5); clear hb5))
          go_ret
          refine ⟨?_, HV.out.2.2⟩
          rw [← HR.out]
          unfold rm
          rw [find_some hlt HR0.out HI.out]
          rfl
        · go_upto_region 7 with (first
          | (refine at_load6 rfl (.tmp 3) rfl rfl HV.out.2.1 ?_)
          | (go_at_call 53; refine (HC1.out _).mono ?_; rintro e w3 ⟨rfl, hb3⟩; replace HV := hide (HV.out.kept hb3); replace p2 := hide (p2.out.kept hb3); have g2 := p2.out.pl; clear hb3)
          | (go_at_call 54; refine (HC2.out _).mono ?_; rintro e w5 ⟨rfl, hb5⟩; replace HV := hide (HV.out.kept hb5); replace p2 := hide (p2.out.kept hb5); clear hb5))
          cases o with
          | none =>
            have hx : fi none < 0 := by decide
            generalize hxe : fi none = x at hx HX ⊢
            have HE := hide hxe
            clear hxe hf
            have g3 := p2.out.pl
            cases d
            · go_wp2_with (go_at_call 55; refine (HC3.out _).mono ?_; rintro e w4 ⟨rfl, hb4⟩; replace HV := hide (HV.out.kept hb4); clear hb4)
              go_roundw
              case rel => exact ⟨k + 1, by omega, by go_num, by rw [HS.out, HN.out, ← HE.out]; rfl, fun j hj => if e : j = k then by rw [e, HR0.out]; rfl else HI.out j (by omega), HV⟩
              case measure => simp [intOf]; omega
            · go_wp2_with (go_at_call 55; refine (HC3.out _).mono ?_; rintro e w4 ⟨rfl, hb4⟩; replace HV := hide (HV.out.kept hb4); clear hb4)
              go_roundw
              case rel => exact ⟨k + 1, by omega, by go_num, by rw [HS.out, HN.out]; rfl, fun j hj => if e : j = k then by rw [e, HR0.out]; rfl else HI.out j (by omega), HV⟩
              case measure => simp [intOf]; omega
          | some i =>
            have hx : ¬ fi (some i) < 0 := by rw [show fi (some i) = (i : Int) from rfl]; omega
            have HS2 := hide (show (List.range (k + 1)).find? (r1 ts) = some i by rw [HS.out]; rfl)
            generalize hxe : fi (some i) = x at hx HX ⊢
            have HE := hide hxe
            clear hxe hf
            go_wp2
            go_roundw
            case rel => exact ⟨k + 1, by omega, by go_num, by rw [HS2.out, ← HE.out], fun j hj => if e : j = k then by rw [e, HR0.out]; rfl else HI.out j (by omega), HV⟩
            case measure => simp [intOf]; omega
    · obtain rfl : m = k := by omega
      go_wp2
      go_ret
      refine ⟨?_, HV.out.2.2⟩
      rw [← HR.out]
      unfold rm
      rw [find_none HI.out]
      rfl
end Go.Proofs.YtjkkonpangcnjaaDoor
