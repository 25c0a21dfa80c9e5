/- Package ip6: Encode, by contracts. -/
import Derived.Test.YtkgiocofmhnfhaaDoorS6a
import Derived.OwnWalk
namespace Go.Proofs.YtkgiocofmhnfhaaDoor
open Go.RowKit

/-- a slice that the call has made behind the world W0; all that was there is as it was. -/
def Gr (W0 w : World) (v : Value) (zs : List Int) : Prop := Own W0.heap.size w v zs ∧ Below W0.heap.size W0 w
theorem Gr.below {W0 w w' : World} {v : Value} {zs : List Int} (h : Gr W0 w v zs) (hb : Below w.heap.size w w') : Gr W0 w' v zs := ⟨h.1.kept hb, h.2.trans (hb.mono h.2.size)⟩
theorem Gr.nil (w : World) : Gr w w (.slice none 0 0) [] := ⟨Own.nil _ _, Below.refl _ _⟩
theorem gr_make (w : World) {ops : Array Oper} {rest : List Oper} {o : Oper} {a : Act} {Q : Exit → Act → World → Prop} (hg : o.guard = none) (l c : Operand) (hop : o.op = Op.makeSlice 24 l c)
    (C : Int) (n : Nat) (hl : a.eval l = .int .i64 0) (hc : a.eval c = .int .i64 C) (hC : C = (n : Int)) (b2 : n ≤ 1000000000)
    (hK : ∀ b w', Gr w w' (.slice (some ⟨b, 0, none⟩) 0 n) [] → wpList Tryd.prog ops Q rest (a.put o.dst (.slice (some ⟨b, 0, none⟩) 0 n)) w') : wpList Tryd.prog ops Q (o :: rest) a w := by
  obtain ⟨i0, hi, hz0, hz1, hz2⟩ := info_parts Tryd.infoByte
  refine wpList_make_own w hg l c 24 hop w.heap.size 5 i0 _ 1 Tryd.underlying24 hi hz0 hz1 .i64 .i64 C n hl hc hC (by rw [hz2]; omega) (by unfold maxLen; omega) (Nat.le_refl _) ?_
  intro w' h1 h2
  exact hK _ w' ⟨⟨SM.oct_nil, h1⟩, (Below.refl _ _).grown h2 (Nat.le_refl _) (fun k h => by cases h)⟩
/-- append onto it. -/
theorem gr_app {w : World} {ops : Array Oper} {rest : List Oper} {o : Oper} {a : Act} {Q : Exit → Act → World → Prop} (hgd : o.guard = none) (s x : Operand)
    (ho : o.op = .call { callee := .builtin .append, args := #[s, x], argTypes := #[24, 24] })
    {W0 : World} {v : Value} {zs : List Int} (hs : a.eval s = v) (hg : Gr W0 w v zs) {ao : Option Addr} {len cap : Nat} {ys : List Int}
    (hx : a.eval x = .slice ao len cap) (hrow : Row8 w ao len cap ys) (hlen : zs.length + len ≤ 1000000000)
    (h : ∀ v' w', Gr W0 w' v' (zs ++ ys) → wpList Tryd.prog ops Q rest (a.put o.dst v') w') : wpList Tryd.prog ops Q (o :: rest) a w :=
  wpList_app hgd s x ho W0.heap.size v zs hs hg.1 ao len cap ys hx hrow hlen hg.2.size (fun v' w' h1 h2 => h v' w' ⟨h1, hg.2.grown h2 hg.2.size (fun k e => (hg.1.2.lt k e).1)⟩)
theorem oct_by16 (z : List Int) (h : Ok6 z) (n : Nat) (hn : n ≤ 8) : SM.Oct (by16 z n) := by
  induction n with
  | zero => exact SM.oct_nil
  | succ n ih =>
    rw [by16_succ]
    refine SM.oct_append _ _ (ih (by omega)) ?_
    obtain ⟨h0, h1⟩ := h n (by omega)
    intro k
    match k with
    | 0 => show 0 ≤ el z n / 256 ∧ el z n / 256 ≤ 255; omega
    | 1 => show 0 ≤ el z n % 256 ∧ el z n % 256 ≤ 255; omega
    | k + 2 => simp
/-- addr.Bytes of a six. -/
theorem abytes_ok (z : List Int) (w : World) (hz : Ok6 z) : Calls Tryd.prog 21 #[.agg (sixC z)] w fun e w' => ∃ a c, e = .returned (.tuple #[.slice a 16 c, .nilIface]) ∧ Row8 w' a 16 c (by16 z 8) ∧ Below w.heap.size w w' := by
  refine (bytes_ok z w hz).mono ?_
  rintro e w' ⟨v, rfl, ho, hb⟩
  have ho' : Own w.heap.size w' v (by16 z 8) := ⟨oct_by16 z hz 8 (by omega), by
    unfold OwnG u8s at ho
    rw [List.length_map] at ho
    exact ho⟩
  obtain ⟨a, c, rfl, hr, _⟩ := ho'.row8
  rw [by16_len] at hr
  exact ⟨a, c, by rw [by16_len], hr, hb⟩
/-- the first eight bytes. -/
def h8 (n k h : Int) : List Int := [96, 0, 0, 0, n / 256, n % 256, k, h]
/-- a packet's bytes. -/
def bys (s d : List Int) (h k : Int) (body : List Int) : List Int := ((h8 body.length k h ++ by16 s 8) ++ by16 d 8) ++ body
theorem bys_len (s d : List Int) (h k : Int) (body : List Int) : (bys s d h k body).length = 40 + body.length := by
  unfold bys
  rw [List.length_append, List.length_append, List.length_append, by16_len, by16_len]
  show 8 + _ + _ + _ = _
  omega
theorem h8_oct (n k h : Int) (hn : 0 ≤ n ∧ n ≤ 320) (hk : 0 ≤ k ∧ k ≤ 255) (hh : 0 ≤ h ∧ h ≤ 255) : SM.Oct (h8 n k h) := by
  intro j
  unfold h8
  match j with
  | 0 => simp
  | 1 => simp
  | 2 => simp
  | 3 => simp
  | 4 => simp; omega
  | 5 => simp; omega
  | 6 => simpa using hk
  | 7 => simpa using hh
  | j + 8 => simp
theorem row_h8 (w : World) (n k h : Int) (ho : SM.Oct (h8 n k h)) : Row8 (w.alloc (.cells #[.int .u8 96, .int .u8 0, .int .u8 0, .int .u8 0, .int .u8 (n / 256), .int .u8 (n % 256), .int .u8 k, .int .u8 h] 5)) (some ⟨w.heap.size, 0, none⟩) 8 8 (h8 n k h) :=
  (show Blk w.heap.size (h8 n k h) (w.alloc (.cells #[.int .u8 96, .int .u8 0, .int .u8 0, .int .u8 0, .int .u8 (n / 256), .int .u8 (n % 256), .int .u8 k, .int .u8 h] 5)) from blk_new w (h8 n k h)).row8 ho 8 8 rfl (by decide)

set_option maxRecDepth 100000 in
set_option maxHeartbeats 2000000 in
theorem encode_bad (s d : List Int) (h k : Int) (a : Option Addr) (len cap : Nat) (w : World) (ho : ¬ Okp s d h k) :
    Calls Tryd.prog 9 #[pk s d h k a len cap] w fun e w' => e = .returned (.tuple #[.slice none 0 0, .iface 27 (.int .i64 1)]) ∧ Below w.heap.size w w' := by
  have HB := hide (al_below w (.cells (pkC s d h k a len cap) 26))
  have HP := hide (pk_new w s d h k a len cap)
  have HC := hide (fun w => chk_bad s d h k a len cap w ho)
  unfold pk at HC ⊢
  clear ho
  go_enter Tryd.func9, Tryd.ntmps9
  go_upto_region 1 with fail
  generalize w.alloc (.cells (pkC s d h k a len cap) 26) = W at HB HP ⊢
  go_wp2_with (first
    | (refine at_load rfl (.tmp 1) rfl rfl HP.out ?_)
    | (go_at_call 7; refine (HC.out _).mono ?_; rintro e w1 ⟨rfl, hb1⟩; replace HB := hide (bt HB.out hb1); clear hb1))
  go_ret2
  exact ⟨rfl, HB.out⟩
set_option maxRecDepth 100000 in
set_option maxHeartbeats 2000000 in
theorem encode_full (s d : List Int) (h k : Int) (a : Option Addr) (len cap : Nat) (w : World) (ho : Okp s d h k) (hl : 320 < len) (hm : len ≤ maxLen) :
    Calls Tryd.prog 9 #[pk s d h k a len cap] w fun e w' => e = .returned (.tuple #[.slice none 0 0, .iface 27 (.int .i64 3)]) ∧ Below w.heap.size w w' := by
  have HB := hide (al_below w (.cells (pkC s d h k a len cap) 26))
  have HP := hide (pk_new w s d h k a len cap)
  have HC := hide (fun w => chk_full s d h k a len cap w ho hl hm)
  unfold pk at HC ⊢
  clear ho hl hm
  go_enter Tryd.func9, Tryd.ntmps9
  go_upto_region 1 with fail
  generalize w.alloc (.cells (pkC s d h k a len cap) 26) = W at HB HP ⊢
  go_wp2_with (first
    | (refine at_load rfl (.tmp 1) rfl rfl HP.out ?_)
    | (go_at_call 7; refine (HC.out _).mono ?_; rintro e w1 ⟨rfl, hb1⟩; replace HB := hide (bt HB.out hb1); clear hb1))
  go_ret2
  exact ⟨rfl, HB.out⟩
set_option maxRecDepth 100000 in
set_option maxHeartbeats 4000000 in
theorem encode_ok (s d : List Int) (h k : Int) (a : Option Addr) (len cap : Nat) (body : List Int) (w : World) (ho : Okp s d h k) (hl : len ≤ 320) (hr : Row8 w a len cap body) :
    Calls Tryd.prog 9 #[pk s d h k a len cap] w fun e w' => ∃ v, e = .returned (.tuple #[v, .nilIface]) ∧ Own w.heap.size w' v (bys s d h k body) ∧ Below w.heap.size w w' := by
  have HB := hide (al_below w (.cells (pkC s d h k a len cap) 26))
  have HP := hide (pk_new w s d h k a len cap)
  have HC := hide (fun w => chk_ok s d h k a len cap w ho hl)
  have HS := hide (fun w => abytes_ok s w ho.1)
  have HD := hide (fun w => abytes_ok d w ho.2.1)
  have hlen := hr.1
  have H8 := hide (h8_oct len k h (by omega) ho.2.2.2 ho.2.2.1)
  have HBY := hide (show bys s d h k body = ((h8 len k h ++ by16 s 8) ++ by16 d 8) ++ body by unfold bys; rw [hlen])
  obtain ⟨-, -, ⟨hh0, hh1⟩, ⟨hk0, hk1⟩⟩ := ho
  have HLs := hide (by16_len s 8)
  have HLd := hide (by16_len d 8)
  generalize by16 s 8 = S at HS HBY HLs
  generalize by16 d 8 = D at HD HBY HLd
  have HR := hide hr
  unfold pk at HC ⊢
  clear hr
  go_enter Tryd.func9, Tryd.ntmps9
  go_upto_region 1 with fail
  generalize w.alloc (.cells (pkC s d h k a len cap) 26) = W at HB HP ⊢
  go_upto_region 4 with (first
    | (refine at_load rfl (.tmp 1) rfl rfl HP.out ?_)
    | (go_at_call 7; refine (HC.out _).mono ?_; rintro e w1 ⟨rfl, hb1⟩; replace HB := hide (bt HB.out hb1); replace HP := hide (HP.out.kept hb1); clear hb1))
  go_upto_region 7 with (first
    | (refine at_src rfl (.tmp 16) rfl rfl HP.out ?_)
    | (go_at_call 21; with_reducible refine (HS.out _).mono ?_; rintro e w2 ⟨a2, c2, rfl, hr2, hb2⟩; replace HB := hide (bt HB.out hb2); replace HP := hide (HP.out.kept hb2); replace hr2 := hide hr2; clear hb2))
  go_upto_region 10 with (first
    | (refine at_dst rfl (.tmp 25) rfl rfl HP.out ?_)
    | (go_at_call 21; with_reducible refine (HD.out _).mono ?_; rintro e w3 ⟨a3, c3, rfl, hr3, hb3⟩; replace HB := hide (bt HB.out hb3); replace HP := hide (HP.out.kept hb3); replace hr2 := hide (hr2.out.below hb3); replace hr3 := hide hr3; clear hb3))
  have l5 := HP.out.body
  go_upto_region 12 with (refine gr_make _ rfl (.const (.int .i64 0)) (.tmp 37) rfl (40 + (len : Int)) (40 + len) rfl rfl (by omega) (by omega) ?_; intro b4 w4 hg4; replace hg4 := hide hg4; clear l5)
  have HP4 := hide (HP.out.kept hg4.out.2)
  have l3 := HP4.out.hop
  have l4 := HP4.out.kind
  clear HC HS HD
  go_upto_region 13 with (at_builtin; refine gr_app rfl (.tmp 39) (.tmp 51) rfl rfl (hg4.out.below (al_below _ _)) rfl (row_h8 w4 len k h H8.out) (by simp) ?_; intro v5 w5 hg5; replace hg5 := hide hg5; clear hg4 l3 l4)
  go_upto_region 14 with (at_builtin; refine gr_app rfl (.tmp 53) (.tmp 54) rfl rfl hg5.out rfl (hr2.out.below hg5.out.2) (by simp [h8]) ?_; intro v6 w6 hg6; replace hg6 := hide hg6)
  go_upto_region 15 with (at_builtin; refine gr_app rfl (.tmp 56) (.tmp 57) rfl rfl hg6.out rfl (hr3.out.below hg6.out.2) (by simp [h8, HLs.out]) ?_; intro v7 w7 hg7; replace hg7 := hide hg7)
  have l5 := (HP.out.kept hg7.out.2).body
  go_wp2_with (at_builtin; refine gr_app rfl (.tmp 59) (.tmp 61) rfl rfl hg7.out rfl ((HR.out.below HB.out).below hg7.out.2) (by simp [h8, HLs.out, HLd.out]; omega) ?_; intro v8 w8 hg8; replace hg8 := hide hg8)
  go_ret2
  exact ⟨v8, rfl, HBY.out ▸ hg8.out.1.mono HB.out.size, HB.out.trans (hg8.out.2.mono HB.out.size)⟩
end Go.Proofs.YtkgiocofmhnfhaaDoor
