/- The document's own Expire of binds, by a contract. -/
import Derived.Test.YtjkkonpangcnjaaDoorBdE
namespace Go.Proofs.YtjkkonpangcnjaaDoor
open Go.RowKit

/-- has a bind not been used for too long? -/
def xp (now : Int) (b : List Int) : Bool := (el b 0 == 6 && decide (100 ≤ now - el b 22)) || (el b 0 == 17 && decide (30 ≤ now - el b 22))
/-- what goes, what stays, which ports are taken then. -/
def es (now : Int) (bs : List (List Int)) (ts : Nat → Bool) : Nat → List (List Int) × List (List Int) × (Nat → Bool)
  | 0 => ([], [], ts)
  | k + 1 => if xp now (bs.getD k []) = true then ((es now bs ts k).1 ++ [bs.getD k []], (es now bs ts k).2.1, upd (es now bs ts k).2.2 (el (bs.getD k []) 19 - 1024).toNat false) else ((es now bs ts k).1, (es now bs ts k).2.1 ++ [bs.getD k []], (es now bs ts k).2.2)
theorem es_len (now : Int) (bs : List (List Int)) (ts : Nat → Bool) (k : Nat) : (es now bs ts k).1.length + (es now bs ts k).2.1.length = k := by
  induction k with
  | zero => rfl
  | succ k ih =>
    simp only [es]
    split
    · simp only [List.length_append, List.length_singleton]; omega
    · simp only [List.length_append, List.length_singleton]; omega
theorem upd_id {ts : Nat → Bool} {i : Nat} {x : Bool} (h : ts i = x) : upd ts i x = ts := by
  funext j
  unfold upd
  by_cases e : j = i
  · rw [if_pos e, e, h]
  · rw [if_neg e]
theorem rgive_any (B BW BT n : Nat) (ws : Nat → List Int) (ts : Nat → Bool) (i : Nat) (w : World) (h : RP B BW BT n ws ts w) (hn : n ≤ 128) (hi : i < n) :
    Calls Tryd.prog 34 #[.pointer (some ⟨B, 0, none⟩), .int .i64 (1024 + (i : Int))] w fun e w' => (∃ x, e = .returned (.int .i64 x)) ∧ RP B BW BT n ws (upd ts i false) w' ∧ Fr (fun g => g = BT) w w' := by
  cases ht : ts i
  · refine (rgive_no B BW BT n ws ts (1024 + (i : Int)) w h hn (by rw [hs_in i hi]; exact ht)).mono ?_
    rintro e w' ⟨h1, rfl⟩
    rw [upd_id ht]
    exact ⟨⟨4, h1⟩, h, Fr.refl _ _⟩
  · refine (rgive_yes B BW BT n ws ts i w h hn hi ht).mono ?_
    rintro e w' ⟨h1, h2, h3⟩
    exact ⟨⟨0, h1⟩, h2, h3⟩
/-- what is kept. -/
def Kx (w : World) (B P BW BT n : Nat) (ws : Nat → List Int) (ts : Nat → Bool) (v : Value) (bs : List (List Int)) (vg : Value) (go : List (List Int)) (vr : Value) (re : List (List Int)) (W : World) : Prop :=
  RT B P BW BT n ws ts v bs W ∧ OwB w.heap.size W vg go ∧ OwB w.heap.size W vr re ∧ (∀ g, vg.ownBlock = some g → vr.ownBlock ≠ some g) ∧ Fr (fun g => g = B ∨ g = BT) w W ∧ (B < w.heap.size ∧ P < w.heap.size ∧ BW < w.heap.size ∧ BT < w.heap.size) ∧ ∀ g, v.ownBlock = some g → g < w.heap.size
theorem Kx.kept {w : World} {B P BW BT n : Nat} {ws : Nat → List Int} {ts : Nat → Bool} {v : Value} {bs : List (List Int)} {vg : Value} {go : List (List Int)} {vr : Value} {re : List (List Int)} {W W' : World} (h : Kx w B P BW BT n ws ts v bs vg go vr re W) (hb : Below W.heap.size W W') : Kx w B P BW BT n ws ts v bs vg go vr re W' :=
  ⟨h.1.kept hb, owns_same h.2.1 (fun g e => hb.block g (owns_lt h.2.1 g e).1), owns_same h.2.2.1 (fun g e => hb.block g (owns_lt h.2.2.1 g e).1), h.2.2.2.1, h.2.2.2.2.1.trans (Fr.of hb), h.2.2.2.2.2⟩
theorem kx_new {w : World} {B P BW BT n : Nat} {ws : Nat → List Int} {ts : Nat → Bool} {v : Value} {bs : List (List Int)} (h : RT B P BW BT n ws ts v bs w) : Kx w B P BW BT n ws ts v bs (.slice none 0 0) [] (.slice none 0 0) [] w :=
  ⟨h, OwB.nil _ _, OwB.nil _ _, (fun g e => by simp [Value.ownBlock] at e), Fr.refl _ _, ⟨h.lt, h.2.1.lt, h.2.1.2.1.lt, h.2.1.2.2.lt⟩, fun g e => (owns_lt h.2.2 g e).1⟩
theorem Kx.given {w : World} {B P BW BT n : Nat} {ws : Nat → List Int} {ts : Nat → Bool} {v : Value} {bs : List (List Int)} {vg : Value} {go : List (List Int)} {vr : Value} {re : List (List Int)} {W W' : World} {ts' : Nat → Bool} (h : Kx w B P BW BT n ws ts v bs vg go vr re W) (hp : RP P BW BT n ws ts' W') (hf : Fr (fun g => g = BT) W W') : Kx w B P BW BT n ws ts' v bs vg go vr re W' := by
  obtain ⟨h1, h2, h3, h4, h5, h6, h7⟩ := h
  have hT := h1.ne.2.2.2.2.2.2
  refine ⟨h1.took hp (hf.mono (fun _ e => .inr e)), owns_same h2 (fun g e => hf.2.2.2.2 g (owns_lt h2 g e).1 (fun e' => ?_)), owns_same h3 (fun g e => hf.2.2.2.2 g (owns_lt h3 g e).1 (fun e' => ?_)), h4, h5.trans (hf.mono (fun _ e => .inr e)), h6, h7⟩
  · have := (owns_lt h2 g e).2; omega
  · have := (owns_lt h3 g e).2; omega
theorem RT.grown {w0 W W' : World} {B P BW BT n : Nat} {ws : Nat → List Int} {ts : Nat → Bool} {v : Value} {bs : List (List Int)} (h : RT B P BW BT n ws ts v bs W) (hB : B < w0.heap.size ∧ P < w0.heap.size ∧ BW < w0.heap.size ∧ BT < w0.heap.size) (hv : ∀ g, v.ownBlock = some g → g < w0.heap.size) {r : Option Nat} (hg : W.grownBy W' r) (hr : ∀ k, r = some k → w0.heap.size ≤ k) : RT B P BW BT n ws ts v bs W' := by
  have hne : ∀ g, g < w0.heap.size → some g ≠ r := fun g hgl e => by have := hr g e.symm; omega
  have hl := h.lt
  have hp := h.2.1.lt
  have hw := h.2.1.2.1.lt
  have ht := h.2.1.2.2.lt
  exact ⟨(hg.block _ hl (hne B hB.1)).trans h.1, ⟨(hg.block _ hp (hne P hB.2.1)).trans h.2.1.1, h.2.1.2.1.same (hg.block _ hw (hne BW hB.2.2.1)), h.2.1.2.2.same (hg.block _ ht (hne BT hB.2.2.2))⟩, owns_same h.2.2 (fun g e => hg.block g (owns_lt h.2.2 g e).1 (hne g (hv g e)))⟩
theorem Fr.grown {O : Nat → Prop} {w0 W W' : World} (h : Fr O w0 W) {r : Option Nat} (hg : W.grownBy W' r) (hr : ∀ k, r = some k → w0.heap.size ≤ k) : Fr O w0 W' :=
  ⟨hg.os.trans h.1, hg.tape.trans h.2.1, hg.output.trans h.2.2.1, Nat.le_trans h.2.2.2.1 hg.size, fun g hgl hO => (hg.block g (Nat.lt_of_lt_of_le hgl h.2.2.2.1) (fun e => by have := hr g e.symm; omega)).trans (h.2.2.2.2 g hgl hO)⟩
theorem Kx.appG {w : World} {B P BW BT n : Nat} {ws : Nat → List Int} {ts : Nat → Bool} {v : Value} {bs : List (List Int)} {vg : Value} {go : List (List Int)} {vr : Value} {re : List (List Int)} {W W' : World} {vg' : Value} {go' : List (List Int)} (h : Kx w B P BW BT n ws ts v bs vg go vr re W) (ho : OwB w.heap.size W' vg' go') (hg : W.grownBy W' vg.ownBlock) (hn : vg'.ownBlock = vg.ownBlock ∨ vg'.ownBlock = some W.heap.size) : Kx w B P BW BT n ws ts v bs vg' go' vr re W' := by
  obtain ⟨h1, h2, h3, h4, h5, h6, h7⟩ := h
  refine ⟨h1.grown h6 h7 hg (fun k e => (owns_lt h2 k e).2), ho, owns_same h3 (fun g e => hg.block g (owns_lt h3 g e).1 (fun e' => h4 g e'.symm e)), fun g e => ?_, h5.grown hg (fun k e => (owns_lt h2 k e).2), h6, h7⟩
  rcases hn with e' | e'
  · exact h4 g (e'.symm.trans e)
  · intro e2
    have := (owns_lt h3 g e2).1
    have : W.heap.size = g := Option.some.inj (e'.symm.trans e)
    omega
theorem Kx.appR {w : World} {B P BW BT n : Nat} {ws : Nat → List Int} {ts : Nat → Bool} {v : Value} {bs : List (List Int)} {vg : Value} {go : List (List Int)} {vr : Value} {re : List (List Int)} {W W' : World} {vr' : Value} {re' : List (List Int)} (h : Kx w B P BW BT n ws ts v bs vg go vr re W) (ho : OwB w.heap.size W' vr' re') (hg : W.grownBy W' vr.ownBlock) (hn : vr'.ownBlock = vr.ownBlock ∨ vr'.ownBlock = some W.heap.size) : Kx w B P BW BT n ws ts v bs vg go vr' re' W' := by
  obtain ⟨h1, h2, h3, h4, h5, h6, h7⟩ := h
  refine ⟨h1.grown h6 h7 hg (fun k e => (owns_lt h3 k e).2), owns_same h2 (fun g e => hg.block g (owns_lt h2 g e).1 (fun e' => h4 g e e'.symm)), ho, fun g e => ?_, h5.grown hg (fun k e => (owns_lt h3 k e).2), h6, h7⟩
  rcases hn with e' | e'
  · rw [e']; exact h4 g e
  · rw [e']
    intro e2
    have := (owns_lt h2 g e).1
    have : W.heap.size = g := Option.some.inj e2
    omega
theorem Kx.fin {w : World} {B P BW BT n : Nat} {ws : Nat → List Int} {ts : Nat → Bool} {v : Value} {bs : List (List Int)} {vg : Value} {go : List (List Int)} {vr : Value} {re : List (List Int)} {W : World} (h : Kx w B P BW BT n ws ts v bs vg go vr re W) : RT B P BW BT n ws ts vr re (W.setCell ⟨B, 1, none⟩ vr) ∧ OwB w.heap.size (W.setCell ⟨B, 1, none⟩ vr) vg go ∧ (∀ g, vg.ownBlock = some g → vr.ownBlock ≠ some g) ∧ Fr (fun g => g = B ∨ g = BT) w (W.setCell ⟨B, 1, none⟩ vr) ∧ ∀ g, vr.ownBlock = some g → w.heap.size ≤ g := by
  obtain ⟨h1, h2, h3, h4, h5, h6, h7⟩ := h
  have ho0 : OwB 0 W vr re := by
    refine ⟨h3.1, ?_⟩
    rcases h3.2 with e2 | ⟨g, cap, cur, e, _, rest⟩
    · exact .inl e2
    · exact .inr ⟨g, cap, cur, e, Nat.zero_le _, rest⟩
  have hk : ∀ g, g ≠ B → (W.setCell ⟨B, 1, none⟩ vr).heap[g]? = W.heap[g]? := fun g hg => Below.heap_setCell W ⟨B, 1, none⟩ vr g hg
  exact ⟨h1.setAll ho0, owns_same h2 (fun g e => hk g (by have := (owns_lt h2 g e).2; omega)), h4, h5.trans ((setCell_fr W B 1 vr).mono (fun _ e => .inl e)), fun g e => (owns_lt h3 g e).2⟩
/-- which binds may be told of: a kind, a port of these, a tick. -/
def Tame (n : Nat) (bs : List (List Int)) : Prop := ∀ k, k < bs.length → (el (bs.getD k []) 0 = 6 ∨ el (bs.getD k []) 0 = 17) ∧ (∃ i : Nat, i < n ∧ el (bs.getD k []) 19 = 1024 + (i : Int)) ∧ tc (el (bs.getD k []) 22) = true
attribute [local go_sem ↓] bload_shut bsl_shut
set_option maxRecDepth 100000 in
set_option maxHeartbeats 8000000 in
theorem rexpire_any (B P BW BT n : Nat) (ws : Nat → List Int) (ts : Nat → Bool) (v : Value) (bs : List (List Int)) (now : Int) (w : World) (h : RT B P BW BT n ws ts v bs w) (hn : n ≤ 128) (hl : bs.length ≤ 1000) (hT : Tame n bs) (ht : tc now = true) :
    Calls Tryd.prog 15 #[.pointer (some ⟨B, 0, none⟩), .int .i64 now] w fun e w' => ∃ vg vr, e = .returned vg ∧ RT B P BW BT n ws (es now bs ts bs.length).2.2 vr (es now bs ts bs.length).2.1 w' ∧ OwB w.heap.size w' vg (es now bs ts bs.length).1 ∧ (∀ g, vg.ownBlock = some g → vr.ownBlock ≠ some g) ∧ Fr (fun g => g = B ∨ g = BT) w w' ∧ ∀ g, vr.ownBlock = some g → w.heap.size ≤ g := by
  obtain ⟨ao, cap, rfl, -, -, hg⟩ := h.2.2.shape
  have HK := hide (kx_new h)
  have HG := hide hg
  have HTm := hide hT
  have hl' : (bs.length : Int) ≤ 1000 := by omega
  have hnow : 0 ≤ now ∧ now ≤ 1099511627776 := by unfold tc at ht; rw [Bool.and_eq_true, decide_eq_true_eq, decide_eq_true_eq] at ht; exact ht
  obtain ⟨hn1, hn2⟩ := hnow
  have HN := hide hn
  clear h hg hT ht hn
  go_enter Tryd.func15, Tryd.ntmps15
  go_wp2
  go_loopw [5, 6, 7] (fun vg vr t wr => ∃ k : Nat, k ≤ bs.length ∧ t = .int .i64 k ∧ Hid (Kx w B P BW BT n ws (es now bs ts k).2.2 (.slice ao bs.length cap) bs vg (es now bs ts k).1 vr (es now bs ts k).2.1 wr)) (fun _ _ t _ => bs.length - (intOf t).toNat)
  case atStart => exact ⟨0, by omega, rfl, HK⟩
  case round =>
    clear HK
    obtain ⟨k, hk, rfl, HK⟩ := hrel
    have HSL := hide (es_len now bs ts k)
    by_cases hlt : k < bs.length
    · obtain ⟨g, rfl⟩ := HG.out (by omega)
      have HES := hide (show es now bs ts (k + 1) = if xp now (bs.getD k []) = true then ((es now bs ts k).1 ++ [bs.getD k []], (es now bs ts k).2.1, upd (es now bs ts k).2.2 (el (bs.getD k []) 19 - 1024).toNat false) else ((es now bs ts k).1, (es now bs ts k).2.1 ++ [bs.getD k []], (es now bs ts k).2.2) from rfl)
      generalize es now bs ts k = s at HK HSL HES
      obtain ⟨go, re, ts'⟩ := s
      replace HK : Hid (Kx w B P BW BT n ws ts' (.slice (some ⟨g, 0, none⟩) bs.length cap) bs _ go _ re wr) := HK
      replace HSL : Hid (go.length + re.length = k) := HSL
      obtain ⟨hkind, ⟨i, hi, hnear⟩, htick⟩ := HTm.out k hlt
      have l1 := HK.out.1.all
      have gk := HK.out.1.2.2.bl k hlt
      obtain ⟨bk, hbk⟩ : ∃ b, bs.getD k [] = b := ⟨_, rfl⟩
      rw [hbk] at hkind hnear htick gk HES
      replace HES : Hid (es now bs ts (k + 1) = if xp now bk = true then (go ++ [bk], re, upd ts' i false) else (go, re ++ [bk], ts')) := by
        rw [HES.out, hnear, show ((1024 : Int) + (i : Int) - 1024).toNat = i by omega]; exact hide rfl
      have HGv := hide (fun W hW => rgive_any P BW BT n ws ts' i W hW HN.out hi)
      have HDw := hide (show w.heap.size ≤ wr.heap.size from HK.out.2.2.2.2.1.2.2.2.1)
      have HD := hide (show ∀ a, _ = some a → a < wr.heap.size from fun a e => (owns_lt HK.out.2.1 a e).1)
      obtain ⟨oa, oc, rfl, -, -, -⟩ := HK.out.2.1.shape
      obtain ⟨ra, rc, rfl, -, -, -⟩ := HK.out.2.2.1.shape
      have j1 : (k : Int) < (bs.length : Int) := by omega
      have HZ := hide (bd_zero wr)
      unfold zero23 at HZ
      have sk := bsl_run bk
      have HL3 := hide (show go.length + 1 ≤ 1000000 ∧ re.length + 1 ≤ 1000000 by have := HSL.out; omega)
      have ht2 : 0 ≤ el bk 22 ∧ el bk 22 ≤ 1099511627776 := by unfold tc at htick; rw [Bool.and_eq_true, decide_eq_true_eq, decide_eq_true_eq] at htick; exact htick
      have HXP := hide (show xp now bk = ((el bk 0 == 6 && decide (100 ≤ now - el bk 22)) || (el bk 0 == 17 && decide (30 ≤ now - el bk 22))) from rfl)
      clear hbk htick hi
      go_upto_region 6 with (refine at_storeb rfl (.tmp 8) (.tmp 24) rfl rfl HZ.out bk rfl ?_; intro w5 p5 on5; replace HK := hide (HK.out.kept (new_below _ on5)); replace p5 := hide p5; clear on5 HZ)
      clear l1 gk
      generalize wr.heap.size = D at p5 HD HDw ⊢
      have c0 := p5.out.cell 0 (by omega)
      have c22 := p5.out.cell 22 (by omega)
      have HNear := hide hnear
      obtain ⟨y, hy⟩ : ∃ y, el bk 22 = y := ⟨_, rfl⟩
      rw [hy] at c22 ht2 HXP
      obtain ⟨hy1, hy2⟩ := ht2
      have q1 : IntKind.i64.wrap (now - y) = now - y := by rw [IntKind.wrap_i64]; omega
      clear hnear hy
      rcases hkind with h6 | h17
      · rw [h6] at c0 HXP
        clear h6
        by_cases hd : 100 ≤ now - y
        · replace HES : Hid (es now bs ts (k + 1) = (go ++ [bk], re, upd ts' i false)) := by rw [HES.out, HXP.out, decide_eq_true hd]; exact hide rfl
          have hb3 := al_below w5 (.cells (bdC bk) 41)
          have HK3 := hide (HK.out.kept hb3)
          have HP3 := hide (p5.out.kept hb3)
          have HN3 := hide (one_new bk w5)
          have gx := p5.out.bl
          have H31 := hide HK3.out.2.1
          have H32 := hide HL3.out.1
          have H33 := hide HK3.out.2.2.2.2.1.2.2.2.1
          clear hb3
          go_upto_region 8 with (at_builtin; (with_reducible refine ap_B rfl (.tmp 49) (.tmp 51) rfl w.heap.size (.slice oa go.length oc) go rfl H31.out ⟨w5.heap.size, 0, none⟩ 1 1 [bk] rfl rfl HN3.out H32.out H33.out ?_); intro v8 w8 o8 g8 n8; have HK8 := hide (HK3.out.appG o8 g8 n8); have HP8 := hide (show BdIn D bk w8 from (g8.block D HP3.out.lt (fun e => by have := HD.out D e.symm; omega)).trans HP3.out); clear o8 g8 n8 HK3 HP3 HN3 H31 H32 H33)
          clear c0 c22 gx
          replace HK8 := hide (HK8.out.kept (Below.refl _ _).drew)
          replace HP8 := hide (HP8.out.kept (Below.refl _ _).drew)
          have l0 := HK8.out.1.ports
          have c19 := HP8.out.cell 19 (by omega)
          rw [HNear.out] at c19
          go_region_held3 (fun w' => w'.cell? ⟨B, 0, none⟩ = some (.pointer (some ⟨P, 0, none⟩)) ∧ w'.cell? ⟨D, 19, none⟩ = some (.int .i64 (1024 + (i : Int))))
            (first
              | go_keep
              | exact ⟨HK8.out.1.ports, by have := HP8.out.cell 19 (by omega); rw [HNear.out] at this; exact this⟩
              | exact ⟨HK9.out.1.ports, by have := HP9.out.cell 19 (by omega); rw [HNear.out] at this; exact this⟩)
            (first | (go_at_call 34; refine (HGv.out _ HK8.out.1.2.1).mono ?_; rintro e w9 ⟨⟨x, rfl⟩, hp9, hf9⟩; have HK9 := hide (HK8.out.given hp9 hf9); have HP9 := hide (show BdIn D bk w9 from (hf9.2.2.2.2 D HP8.out.lt (fun e => by have := HK8.out.2.2.2.2.2.1.2.2.2; have := HDw.out; omega)).trans HP8.out); clear hp9 hf9))
          go_wp2_with fail
          go_roundw
          case rel => exact ⟨k + 1, by omega, by go_num, by rw [HES.out]; exact HK9⟩
          case measure => simp [intOf]; omega
        · replace HES : Hid (es now bs ts (k + 1) = (go, re ++ [bk], ts')) := by rw [HES.out, HXP.out, decide_eq_false hd]; exact hide rfl
          have hb3 := al_below w5 (.cells (bdC bk) 41)
          have HK3 := hide (HK.out.kept hb3)
          have HN3 := hide (one_new bk w5)
          have gx := p5.out.bl
          have H31 := hide HK3.out.2.2.1
          have H32 := hide HL3.out.2
          have H33 := hide HK3.out.2.2.2.2.1.2.2.2.1
          clear hb3
          go_wp2_with (at_builtin; (with_reducible refine ap_B rfl (.tmp 60) (.tmp 62) rfl w.heap.size (.slice ra re.length rc) re rfl H31.out ⟨w5.heap.size, 0, none⟩ 1 1 [bk] rfl rfl HN3.out H32.out H33.out ?_); intro v8 w8 o8 g8 n8; have HK8 := hide (HK3.out.appR o8 g8 n8); clear o8 g8 n8 HK3 HN3 H31 H32 H33)
          go_roundw
          case rel => exact ⟨k + 1, by omega, by go_num, by rw [HES.out]; exact HK8⟩
          case measure => simp [intOf]; omega
      · rw [h17] at c0 HXP
        clear h17
        by_cases hd : 30 ≤ now - y
        · replace HES : Hid (es now bs ts (k + 1) = (go ++ [bk], re, upd ts' i false)) := by rw [HES.out, HXP.out, decide_eq_true hd]; exact hide rfl
          have hb3 := al_below w5 (.cells (bdC bk) 41)
          have HK3 := hide (HK.out.kept hb3)
          have HP3 := hide (p5.out.kept hb3)
          have HN3 := hide (one_new bk w5)
          have gx := p5.out.bl
          have H31 := hide HK3.out.2.1
          have H32 := hide HL3.out.1
          have H33 := hide HK3.out.2.2.2.2.1.2.2.2.1
          clear hb3
          go_upto_region 8 with (at_builtin; (with_reducible refine ap_B rfl (.tmp 49) (.tmp 51) rfl w.heap.size (.slice oa go.length oc) go rfl H31.out ⟨w5.heap.size, 0, none⟩ 1 1 [bk] rfl rfl HN3.out H32.out H33.out ?_); intro v8 w8 o8 g8 n8; have HK8 := hide (HK3.out.appG o8 g8 n8); have HP8 := hide (show BdIn D bk w8 from (g8.block D HP3.out.lt (fun e => by have := HD.out D e.symm; omega)).trans HP3.out); clear o8 g8 n8 HK3 HP3 HN3 H31 H32 H33)
          clear c0 c22 gx
          replace HK8 := hide (HK8.out.kept (Below.refl _ _).drew)
          replace HP8 := hide (HP8.out.kept (Below.refl _ _).drew)
          have l0 := HK8.out.1.ports
          have c19 := HP8.out.cell 19 (by omega)
          rw [HNear.out] at c19
          go_region_held3 (fun w' => w'.cell? ⟨B, 0, none⟩ = some (.pointer (some ⟨P, 0, none⟩)) ∧ w'.cell? ⟨D, 19, none⟩ = some (.int .i64 (1024 + (i : Int))))
            (first
              | go_keep
              | exact ⟨HK8.out.1.ports, by have := HP8.out.cell 19 (by omega); rw [HNear.out] at this; exact this⟩
              | exact ⟨HK9.out.1.ports, by have := HP9.out.cell 19 (by omega); rw [HNear.out] at this; exact this⟩)
            (first | (go_at_call 34; refine (HGv.out _ HK8.out.1.2.1).mono ?_; rintro e w9 ⟨⟨x, rfl⟩, hp9, hf9⟩; have HK9 := hide (HK8.out.given hp9 hf9); have HP9 := hide (show BdIn D bk w9 from (hf9.2.2.2.2 D HP8.out.lt (fun e => by have := HK8.out.2.2.2.2.2.1.2.2.2; have := HDw.out; omega)).trans HP8.out); clear hp9 hf9))
          go_wp2_with fail
          go_roundw
          case rel => exact ⟨k + 1, by omega, by go_num, by rw [HES.out]; exact HK9⟩
          case measure => simp [intOf]; omega
        · replace HES : Hid (es now bs ts (k + 1) = (go, re ++ [bk], ts')) := by rw [HES.out, HXP.out, decide_eq_false hd]; exact hide rfl
          have hb3 := al_below w5 (.cells (bdC bk) 41)
          have HK3 := hide (HK.out.kept hb3)
          have HN3 := hide (one_new bk w5)
          have gx := p5.out.bl
          have H31 := hide HK3.out.2.2.1
          have H32 := hide HL3.out.2
          have H33 := hide HK3.out.2.2.2.2.1.2.2.2.1
          clear hb3
          go_wp2_with (at_builtin; (with_reducible refine ap_B rfl (.tmp 60) (.tmp 62) rfl w.heap.size (.slice ra re.length rc) re rfl H31.out ⟨w5.heap.size, 0, none⟩ 1 1 [bk] rfl rfl HN3.out H32.out H33.out ?_); intro v8 w8 o8 g8 n8; have HK8 := hide (HK3.out.appR o8 g8 n8); clear o8 g8 n8 HK3 HN3 H31 H32 H33)
          go_roundw
          case rel => exact ⟨k + 1, by omega, by go_num, by rw [HES.out]; exact HK8⟩
          case measure => simp [intOf]; omega
    · obtain rfl : bs.length = k := by omega
      have l1 := HK.out.1.all
      obtain ⟨⟨go, re, ts'⟩, hes⟩ : ∃ s, es now bs ts bs.length = s := ⟨_, rfl⟩
      rw [hes] at HK
      have HES := hide hes
      clear hes
      replace HK : Hid (Kx w B P BW BT n ws ts' (.slice ao bs.length cap) bs _ go _ re wr) := HK
      obtain ⟨oa, oc, rfl, -, -, -⟩ := HK.out.2.1.shape
      obtain ⟨ra, rc, rfl, -, -, -⟩ := HK.out.2.2.1.shape
      have f1 : wr.frozen? ⟨B, 1, none⟩ = false := by simp [World.frozen?, HK.out.1.1]
      have HF := hide (HK.out.fin)
      clear HK
      go_wp2
      go_ret
      rw [HES.out]
      exact ⟨_, _, rfl, HF.out⟩
end Go.Proofs.YtjkkonpangcnjaaDoor
