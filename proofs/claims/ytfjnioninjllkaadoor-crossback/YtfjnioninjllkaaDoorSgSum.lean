/- Package sum by contracts (fold, check16, Of, Add, Not); bytes.Equal; a slice that the call has made, and append onto it. -/
import Derived.Test.YtfjnioninjllkaaDoorS6Own
import Derived.Deep.MidRow
import Derived.Laws.ResultCell
import Derived.Deep.CutBlock
import Derived.Deep.QuietTactic
import Derived.OwnWalk
namespace Go.Proofs.YtfjnioninjllkaaDoor
open Go.RowKit

theorem i64_and65535 (n : Int) : bits .and .i64 n 65535 = n % 65536 := by
  have h : (BitVec.ofInt 64 65535).toNat = 2 ^ 16 - 1 := by decide
  have key : (BitVec.ofInt 64 n &&& BitVec.ofInt 64 65535).toNat = (n % ((2 ^ 64 : Nat) : Int)).toNat % 2 ^ 16 := by
    rw [BitVec.toNat_and, BitVec.toNat_ofInt, h, Nat.and_two_pow_sub_one_eq_mod]
  show IntKind.i64.wrap ((BitVec.ofInt 64 n &&& BitVec.ofInt 64 65535).toNat : Nat) = n % 65536
  rw [key, IntKind.wrap_i64]
  omega
theorem ret_int {k : IntKind} {a b : Int} (h : a = b) : Ending.returned (.int k a) = .returned (.int k b) := by rw [h]
set_option maxHeartbeats 400000 in
theorem fold_any (n : Int) (w : World) (h0 : 0 ≤ n) (h1 : n ≤ 1000000000000) :
    Calls Tryd.prog 76 #[.int .i64 n] w fun e w' => e = .returned (.int .i64 (SM.fold n)) ∧ w' = w := by
  go_enter Tryd.func76, Tryd.ntmps76
  go_wp2
  go_loop [0] (fun t => ∃ m : Int, 0 ≤ m ∧ m ≤ 1000000000000 ∧ SM.fold m = SM.fold n ∧ t = .int .i64 m) (fun t => (intOf t).toNat)
  case atStart => exact ⟨n, h0, h1, rfl, rfl⟩
  case round =>
    obtain ⟨m, hm0, hm1, hm, rfl⟩ := hrel
    have H : Hid (SM.fold m = SM.fold n) := hm
    clear hm
    by_cases hlt : 65535 < m
    · have hs := SM.fold_step m hlt
      have HS : Hid (SM.fold (m / 65536 + m % 65536) = SM.fold m) := hs
      clear hs
      go_wp2
      go_round
      case rel => exact ⟨m / 65536 + m % 65536, by omega, by omega, HS.out.trans H.out, by rw [i64_and65535, IntWalk.wrap64_in _ (by omega)]⟩
      case measure => rw [i64_and65535, IntWalk.wrap64_in _ (by omega)]; simp only [intOf]; omega
    · go_wp2
      go_ret
      exact ⟨ret_int ((SM.fold_small m hm0 (by omega)).symm.trans H.out), rfl⟩
def AllIn (zs : List Int) (n : Nat) : Prop := ∀ i, i < n → 0 ≤ zs.getD i 0 ∧ zs.getD i 0 ≤ 65535
set_option maxHeartbeats 400000 in
theorem check16_any (b n : Nat) (zs : List Int) (w : World) (hn : n ≤ 1000) (hc : ∀ i, i < n → w.cell? ⟨b, i, none⟩ = some (.int .i64 (zs.getD i 0))) :
    Calls Tryd.prog 77 #[.slice (some ⟨b, 0, none⟩) n n] w fun e w' => ((AllIn zs n ∧ e = .returned .nilIface) ∨ (¬ AllIn zs n ∧ e = .returned (.iface 29 (.int .i64 1)))) ∧ w' = w := by
  go_enter Tryd.func77, Tryd.ntmps77
  go_wp2
  go_loop [7] (fun t => ∃ k : Nat, k ≤ n ∧ AllIn zs k ∧ t = .int .i64 k) (fun t => n - (intOf t).toNat)
  case atStart => exact ⟨0, by omega, fun i hi => absurd hi (by omega), rfl⟩
  case round =>
    obtain ⟨k, hk, hin, rfl⟩ := hrel
    have HI : Hid (AllIn zs k) := hin
    clear hin
    by_cases hlt : k < n
    · have hck := hc k hlt
      clear hc
      generalize hzk : zs.getD k 0 = z at hck
      have HZ : Hid (zs.getD k 0 = z) := hzk
      clear hzk
      by_cases hz0 : z < 0
      · go_wp2
        go_ret
        exact ⟨.inr ⟨fun h => absurd (h k hlt).1 (by rw [HZ.out]; omega), rfl⟩, rfl⟩
      · by_cases hz1 : 65535 < z
        · go_wp2
          go_ret
          exact ⟨.inr ⟨fun h => absurd (h k hlt).2 (by rw [HZ.out]; omega), rfl⟩, rfl⟩
        · go_wp2
          go_round
          case rel => exact ⟨k + 1, by omega, fun i hi => if h : i = k then by subst h; rw [HZ.out]; omega else HI.out i (by omega), by go_num⟩
          case measure => simp [intOf]; omega
    · go_wp2
      go_ret
      obtain rfl : k = n := by omega
      exact ⟨.inl ⟨HI.out, rfl⟩, rfl⟩
set_option maxHeartbeats 400000 in
theorem of_ok (a : Option Addr) (len cap : Nat) (zs : List Int) (w : World) (w0 : Row8 w a len cap zs) (h : len ≤ 2000) :
    Calls Tryd.prog 56 #[.slice a len cap] w fun e w' => e = .returned (.tuple #[.int .i64 (SM.fold (SM.tot zs len)), .nilIface]) ∧ w' = w := by
  obtain ⟨hz, hm, hoct, _, hcs⟩ := w0
  by_cases hp : 0 < len
  · obtain ⟨b, off, rfl, hcell⟩ := hcs hp
    clear hcs
    go_enter Tryd.func56, Tryd.ntmps56
    go_wp2
    go_loop [4, 13] (fun t i => ∃ k : Nat, k ≤ len ∧ t = .int .i64 (SM.tot zs k) ∧ i = .int .i64 k) (fun _ i => len - (intOf i).toNat)
    case atStart => exact ⟨0, by omega, rfl, rfl⟩
    case round =>
      obtain ⟨k, hk, rfl, rfl⟩ := hrel
      have hb := SM.tot_bd zs hoct k
      by_cases hlt : k < len
      · have hck := hcell k (by omega)
        have hok := hoct k
        clear hcell
        have he := SM.tot_even zs k
        have ho := SM.tot_odd zs k
        have HE : Hid (k % 2 = 0 → SM.tot zs (k + 1) = SM.tot zs k + zs.getD k 0 * 256) := he
        have HO : Hid (k % 2 = 1 → SM.tot zs (k + 1) = SM.tot zs k + zs.getD k 0) := ho
        clear he ho hoct
        generalize zs.getD k 0 = z at hck hok HE HO
        generalize SM.tot zs k = t at hb HE HO ⊢
        by_cases hpar : k % 2 = 0
        · go_wp2
          go_round
          case rel => exact ⟨k + 1, by omega, by rw [HE.out hpar], by go_num⟩
          case measure => simp [intOf]; omega
        · go_wp2
          go_round
          case rel => exact ⟨k + 1, by omega, by rw [HO.out (by omega)], by go_num⟩
          case measure => simp [intOf]; omega
      · obtain rfl : k = len := by omega
        go_wp2_with (go_at_call 76; refine (fold_any _ _ (by omega) (by omega)).mono ?_; rintro e w' ⟨rfl, rfl⟩)
        go_ret2
        exact ⟨rfl, rfl⟩
  · obtain rfl : len = 0 := by omega
    go_enter Tryd.func56, Tryd.ntmps56
    go_wp2
    refine wp_loop_rounds 1 ?_
    rw [rounds_succ]
    go_wp2_with (go_at_call 76; refine (fold_any _ _ (by omega) (by omega)).mono ?_; rintro e w' ⟨rfl, rfl⟩)
    go_ret2
    exact ⟨rfl, rfl⟩
theorem check16_ok (b n : Nat) (zs : List Int) (w : World) (hn : n ≤ 1000) (hc : ∀ i, i < n → w.cell? ⟨b, i, none⟩ = some (.int .i64 (zs.getD i 0))) (hin : AllIn zs n) :
    Calls Tryd.prog 77 #[.slice (some ⟨b, 0, none⟩) n n] w fun e w' => e = .returned .nilIface ∧ w' = w :=
  (check16_any b n zs w hn hc).mono fun e w' h => by
    rcases h with ⟨⟨_, h⟩ | ⟨h, _⟩, hw⟩
    · exact ⟨h, hw⟩
    · exact absurd hin h
theorem allIn1 (x : Int) : AllIn [x] 1 ↔ Word x :=
  ⟨fun h => h 0 (by omega), fun h i hi => by obtain rfl : i = 0 := by omega
                                             exact h⟩
theorem cells1 (x : Int) (w : World) : ∀ i, i < 1 → (w.alloc (.cells #[.int .i64 x] 3)).cell? ⟨w.heap.size, i, none⟩ = some (.int .i64 ([x].getD i 0)) := by
  intro i hi
  obtain rfl : i = 0 := by omega
  simp
theorem not_ok (x : Int) (w : World) (h : Word x) : Calls Tryd.prog 61 #[.int .i64 x] w fun e w' => e = .returned (.tuple #[.int .i64 (65535 - x), .nilIface]) ∧ Below w.heap.size w w' := by
  have hc := cells1 x w
  have HC := check16_ok _ 1 _ _ (by omega) hc ((allIn1 x).2 h)
  have h1 := h.1
  have h2 := h.2
  clear hc
  have H := hide HC
  clear HC
  go_enter Tryd.func61, Tryd.ntmps61
  go_wp2_with (go_at_call 77; refine (unhide H).mono ?_; rintro e w' ⟨rfl, rfl⟩)
  go_ret2
  exact ⟨rfl, (Below.refl _ _).alloc (Nat.le_refl _) _⟩
theorem allIn2 (x y : Int) : AllIn [x, y] 2 ↔ Word x ∧ Word y :=
  ⟨fun h => ⟨h 0 (by omega), h 1 (by omega)⟩, fun ⟨h1, h2⟩ i hi => by
    rcases (by omega : i = 0 ∨ i = 1) with rfl | rfl
    · exact h1
    · exact h2⟩
theorem cells2 (x y : Int) (w : World) : ∀ i, i < 2 → (w.alloc (.cells #[.int .i64 x, .int .i64 y] 3)).cell? ⟨w.heap.size, i, none⟩ = some (.int .i64 ([x, y].getD i 0)) := by
  intro i hi
  rcases (by omega : i = 0 ∨ i = 1) with rfl | rfl <;> simp
theorem add_ok (x y : Int) (w : World) (h : Word x ∧ Word y) : Calls Tryd.prog 60 #[.int .i64 x, .int .i64 y] w fun e w' => e = .returned (.tuple #[.int .i64 (SM.fold (x + y)), .nilIface]) ∧ Below w.heap.size w w' := by
  have hc := cells2 x y w
  have H := hide (check16_ok _ 2 _ _ (by omega) hc ((allIn2 x y).2 h))
  obtain ⟨⟨h1, h2⟩, h3, h4⟩ := h
  clear hc
  go_enter Tryd.func60, Tryd.ntmps60
  go_wp2_with (first | (go_at_call 77; refine (unhide H).mono ?_; rintro e w' ⟨rfl, rfl⟩) | (go_at_call 76; refine (fold_any _ _ (by omega) (by omega)).mono ?_; rintro e w' ⟨rfl, rfl⟩))
  go_ret2
  exact ⟨rfl, (Below.refl _ _).alloc (Nat.le_refl _) _⟩
theorem al_below (w : World) (o : Obj) : Below w.heap.size w (w.alloc o) := (Below.refl _ _).alloc (Nat.le_refl _) _
theorem add_at (b o j : Nat) : (⟨b, o, none⟩ : Addr).add j = ⟨b, o + j, none⟩ := by unfold Addr.add; split <;> simp_all
/-- nothing but that block has turned. -/
def Only (B : Nat) (w w' : World) : Prop := w'.os = w.os ∧ w'.tape = w.tape ∧ w'.output = w.output ∧ w'.heap.size = w.heap.size ∧ ∀ g, g ≠ B → w'.heap[g]? = w.heap[g]?
theorem Only.below {B base : Nat} {w0 w w' : World} (h : Only B w w') (hb : Below base w0 w) (hB : base ≤ B) : Below base w0 w' :=
  ⟨h.1.trans hb.os, h.2.1.trans hb.tape, h.2.2.1.trans hb.output, by rw [h.2.2.2.1]; exact hb.size, fun g hg => (h.2.2.2.2 g (by omega)).trans (hb.block g hg)⟩
theorem Only.own {B base : Nat} {w w' : World} (h : Only B w w') {v : Value} {zs : List Int} (o : Own base w v zs) (hB : B < base) : Own base w' v zs := o.heap (fun g hg _ => h.2.2.2.2 g (by omega))
theorem Only.below_of {B : Nat} {w w' : World} (h : Only B w w') : Below B w w' := h.below (Below.refl _ _) (Nat.le_refl _)
theorem only_setRow (w : World) (B : Nat) (cs : Array Value) : Only B w (w.setRow B cs) := ⟨rfl, rfl, rfl, setRow_size w B cs, fun g hg => setRow_other w B g cs hg⟩
def up (m n : Int) : Bool := decide (0 ≤ n ∧ n ≤ m)
theorem up_true {m n : Int} (h : up m n = true) : 0 ≤ n ∧ n ≤ m := of_decide_eq_true h
theorem equal_any (a b : Option Addr) (la lb ca cb : Nat) (xs ys : List Int) (w : World) (ra : Row8 w a la ca xs) (rb : Row8 w b lb cb ys) (r : Bool) (hr : (xs = ys) ↔ r = true) : Calls Tryd.prog 40 #[.slice a la ca, .slice b lb cb] w fun e w' => e = .returned (.bool r) ∧ w' = w := by
  have c1 := conv8 ra
  have c2 := conv8 rb
  have hE := str8_eq ra.2.2.1 rb.2.2.1 r hr
  clear hr ra rb
  go_enter Tryd.func40, Tryd.ntmps40
  go_wp2
  go_ret
  exact ⟨rfl, rfl⟩
/-- a slice that the call has made behind the world W0; all that was there is as it was. -/
def Gr (W0 w : World) (v : Value) (zs : List Int) : Prop := Own W0.heap.size w v zs ∧ Below W0.heap.size W0 w
theorem Gr.below {W0 w w' : World} {v : Value} {zs : List Int} (h : Gr W0 w v zs) (hb : Below w.heap.size w w') : Gr W0 w' v zs := ⟨h.1.kept hb, h.2.trans (hb.mono h.2.size)⟩
theorem Gr.nil (w : World) : Gr w w (.slice none 0 0) [] := ⟨Own.nil _ _, Below.refl _ _⟩
theorem gr_make (w : World) {ops : Array Oper} {rest : List Oper} {o : Oper} {a : Act} {Q : Exit → Act → World → Prop} (hg : o.guard = none) (l c : Operand) (hop : o.op = Op.makeSlice 24 l c)
    (C : Int) (n : Nat) (hl : a.eval l = .int .i64 0) (hc : a.eval c = .int .i64 C) (hC : C = (n : Int)) (b2 : n ≤ 1000000000)
    (hK : ∀ b w', Gr w w' (.slice (some ⟨b, 0, none⟩) 0 n) [] → wpList Tryd.prog ops Q rest (a.put o.dst (.slice (some ⟨b, 0, none⟩) 0 n)) w') : wpList Tryd.prog ops Q (o :: rest) a w := by
  obtain ⟨i0, hi, hz0, hz1, hz2⟩ := info_parts Tryd.infoByte
  refine wpList_make_own w hg l c 24 hop w.heap.size 5 i0 _ 1 Tryd.underlying24 hi hz0 hz1 .i64 .i64 C n hl hc hC (by rw [hz2]; omega) (by unfold maxLen; omega) (Nat.le_refl _) ?_
  intro w' h1 h2
  exact hK _ w' ⟨⟨SM.oct_nil, h1⟩, (Below.refl _ _).grown h2 (Nat.le_refl _) (fun k h => by cases h)⟩
/-- append onto it. -/
theorem gr_app {w : World} {ops : Array Oper} {rest : List Oper} {o : Oper} {a : Act} {Q : Exit → Act → World → Prop} (hgd : o.guard = none) (s x : Operand)
    (ho : o.op = .call { callee := .builtin .append, args := #[s, x], argTypes := #[24, 24] })
    {W0 : World} {v : Value} {zs : List Int} (hs : a.eval s = v) (hg : Gr W0 w v zs) {ao : Option Addr} {len cap : Nat} {ys : List Int}
    (hx : a.eval x = .slice ao len cap) (hrow : Row8 w ao len cap ys) (hlen : zs.length + len ≤ 1000000000)
    (h : ∀ v' w', Gr W0 w' v' (zs ++ ys) → wpList Tryd.prog ops Q rest (a.put o.dst v') w') : wpList Tryd.prog ops Q (o :: rest) a w :=
  wpList_app hgd s x ho W0.heap.size v zs hs hg.1 ao len cap ys hx hrow hlen hg.2.size (fun v' w' h1 h2 => h v' w' ⟨h1, hg.2.grown h2 hg.2.size (fun k e => (hg.1.2.lt k e).1)⟩)
theorem oct_by16 (z : List Int) (h : Ok6 z) (n : Nat) (hn : n ≤ 8) : SM.Oct (by16 z n) := by
  induction n with
  | zero => exact SM.oct_nil
  | succ n ih =>
    rw [by16_succ]
    refine SM.oct_append _ _ (ih (by omega)) ?_
    obtain ⟨h0, h1⟩ := h n (by omega)
    intro k
    match k with
    | 0 => show 0 ≤ el z n / 256 ∧ el z n / 256 ≤ 255; omega
    | 1 => show 0 ≤ el z n % 256 ∧ el z n % 256 ≤ 255; omega
    | k + 2 => simp
/-- addr.Bytes of a six. -/
theorem abytes_ok (z : List Int) (w : World) (hz : Ok6 z) : Calls Tryd.prog 29 #[.agg (sixC z)] w fun e w' => ∃ a c, e = .returned (.tuple #[.slice a 16 c, .nilIface]) ∧ Row8 w' a 16 c (by16 z 8) ∧ Below w.heap.size w w' := by
  refine (bytes_ok z w hz).mono ?_
  rintro e w' ⟨v, rfl, ho, hb⟩
  have ho' : Own w.heap.size w' v (by16 z 8) := ⟨oct_by16 z hz 8 (by omega), by
    unfold OwnG u8s at ho
    rw [List.length_map] at ho
    exact ho⟩
  obtain ⟨a, c, rfl, hr, _⟩ := ho'.row8
  rw [by16_len] at hr
  exact ⟨a, c, by rw [by16_len], hr, hb⟩
end Go.Proofs.YtfjnioninjllkaaDoor
