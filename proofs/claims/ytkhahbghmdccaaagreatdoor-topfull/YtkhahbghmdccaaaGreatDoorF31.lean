/- What is old; the old ones are dropped one by one. Expire; the program's table is what is asked for. -/
import Derived.Test.YtkhahbghmdccaaaGreatDoorF24
import Derived.Test.YtkhahbghmdccaaaGreatDoorF30
import Derived.Deep.MidRow
import Derived.Laws.ResultCell
import Derived.Deep.CutBlock
import Derived.Deep.QuietTactic
import Derived.OwnWalk
import Derived.Deep.RegionHeld3
import Derived.Deep.DrawnRows
import Derived.Laws.StructEq
import Derived.Laws.AppendOwnNone
import Derived.Maps.AppendAt
import Derived.Maps.RangeWalk
import Derived.Test.YtkhahbghmdccaaaGreatDoorProg
import Derived.WalkKit
import Derived.LaidEql
import Derived.Stop.Asserts
import Derived.RowKitTokens
import Derived.Test.YtkhahbghmdccaaaGreatDoorShelf
import Derived.Shelf.Abstract
import Derived.BigQuiet
import Derived.Below
import Derived.Laws.MakeOwn
import Derived.Deep.RegionLaw
import Derived.Test.YtkhahbghmdccaaaGreatDoorF29
namespace Go.Proofs.YtkhahbghmdccaaaGreatDoor
open Go.RowKit
def px (now : Int) (b : List Int) : Bool := decide (lf (el b 0) ≤ now - el b 22)
theorem px_xp {now : Int} {b : List Int} (h : el b 0 = 6 ∨ el b 0 = 17) : px now b = xp now b := by
  unfold px xp lf
  rcases h with h | h <;> rw [h] <;> simp
theorem tc_iff (n : Int) : tc n = true ↔ 0 ≤ n ∧ n ≤ 1099511627776 := by unfold tc; rw [Bool.and_eq_true, decide_eq_true_eq, decide_eq_true_eq]
set_option maxRecDepth 100000 in
set_option maxHeartbeats 1000000 in
theorem old_any (b : List Int) (B : Nat) (now : Int) (W : World) (hB : B < W.heap.size) (hc : W.cell? ⟨B, 0, none⟩ = some (.int .i64 now)) (h1 : tc now = true) (h2 : tc (el b 22) = true) :
    Calls Tryz.prog 146 #[.agg (bdC b), .pointer (some ⟨B, 0, none⟩)] W fun e w' => e = .returned (.bool (px now b)) ∧ Below W.heap.size W w' := by
  have HL := hide (fun w => life_any (el b 0) w)
  have HB := hide (show Below W.heap.size W (W.alloc (.cells (bdC b) 75)).drew from (al_below W _).drew)
  have c0 : (W.alloc (.cells (bdC b) 75)).drew.cell? ⟨B, 0, none⟩ = some (.int .i64 now) := (HB.out.cell (p := ⟨B, 0, none⟩) hB).trans hc
  have p := bd_new b W
  have c1 : (W.alloc (.cells (bdC b) 75)).drew.cell? ⟨W.heap.size, 22, none⟩ = some (.int .i64 (el b 22)) := p.cell 22 (by omega)
  have c2 : (W.alloc (.cells (bdC b) 75)).drew.cell? ⟨W.heap.size, 0, none⟩ = some (.int .i64 (el b 0)) := p.cell 0 (by omega)
  have HX := hide (show px now b = decide (lf (el b 0) ≤ now - el b 22) from rfl)
  rw [tc_iff] at h1 h2
  have q1 : IntKind.i64.wrap (now - el b 22) = now - el b 22 := by rw [IntKind.wrap_i64]; omega
  generalize px now b = r at HX ⊢
  generalize el b 22 = y at *
  generalize el b 0 = k at *
  generalize lf k = z at HL HX
  have HQ := hide q1
  clear q1
  clear p hc h1 h2
  have HS := hide (And.intro c0 (And.intro c1 c2))
  generalize hw : W.alloc (.cells (bdC b) 75) = W2 at HB HS c0 c1 c2
  go_enter Tryz.func146, Tryz.ntmps146
  go_upto_region 1 with fail
  clear hw
  go_region_held3 (fun W' => W'.cell? ⟨B, 0, none⟩ = some (.int .i64 now) ∧ W'.cell? ⟨W.heap.size, 22, none⟩ = some (.int .i64 y) ∧ W'.cell? ⟨W.heap.size, 0, none⟩ = some (.int .i64 k))
    (first
      | exact HS.out
      | go_keep)
    (first | (go_at_call 147; refine (HL.out _).mono ?_; rintro e w' ⟨rfl, rfl⟩))
  all_goals
    go_wp2_with fail
    go_ret
    refine ⟨?_, HB.out⟩
    show Ending.returned (.bool (decide (z ≤ IntKind.i64.wrap (now - y)))) = _
    rw [HQ.out, HX.out]
def tsd (ts : Nat → Bool) (l : List (List Int)) : Nat → Bool := fun j => ts j && !(l.any fun b => (el b 19 - 1024).toNat == j)
theorem tsd_nil (ts : Nat → Bool) : tsd ts [] = ts := by funext j; unfold tsd; simp
theorem tsd_snoc (ts : Nat → Bool) (l : List (List Int)) (b : List Int) (i : Nat) (h : (el b 19 - 1024).toNat = i) : tsd ts (l ++ [b]) = upd (tsd ts l) i false := by
  funext j
  unfold tsd upd
  rw [List.any_append]
  by_cases e : j = i
  · subst e; rw [if_pos rfl]; simp [h]
  · rw [if_neg e]
    have h2 : (i == j) = false := by simpa using fun e' : i = j => e e'.symm
    simp [h, h2]
theorem es_all (now : Int) (bs : List (List Int)) (ts : Nat → Bool) : (es now bs ts bs.length).1 = bs.filter (xp now) ∧ (es now bs ts bs.length).2.1 = bs.filter (fun b => !xp now b) ∧ (es now bs ts bs.length).2.2 = tsd ts (bs.filter (xp now)) := by
  obtain ⟨h1, h2, h3⟩ := es_form now bs ts bs.length (Nat.le_refl _)
  rw [List.take_length] at h1 h2 h3
  refine ⟨h1, h2, ?_⟩
  funext j
  rw [Bool.eq_iff_iff, h3 j]
  unfold tsd
  simp only [Bool.and_eq_true, Bool.not_eq_true', List.any_eq_false, List.mem_filter]
  constructor
  · rintro ⟨a, c⟩
    refine ⟨a, fun x hx => ?_⟩
    have := c x hx.1 hx.2
    simpa using this
  · rintro ⟨a, c⟩
    refine ⟨a, fun x hx hxp => ?_⟩
    have := c x ⟨hx, hxp⟩
    simpa using this
def RA (base : Nat) (a : Option Addr) (G : List (List Int)) (W : World) : Prop := 0 < G.length → ∃ g off, a = some ⟨g, off, none⟩ ∧ (base ≤ g ∧ g < W.heap.size) ∧ ∀ k, k < G.length → W.rangeAt g (off + k * 23) (bdC (G.getD k [])).toList
theorem RA.row {base : Nat} {a : Option Addr} {G : List (List Int)} {W : World} (h : RA base a G W) (cap : Nat) : BdRow base W (.slice a G.length cap) G := ⟨a, cap, rfl, h⟩
theorem RA.fr {base : Nat} {a : Option Addr} {G : List (List Int)} {O : Nat → Prop} {w w' : World} (h : RA base a G w) (hf : Fr O w w') (hO : ∀ g, base ≤ g → ¬ O g) : RA base a G w' := by
  intro hp
  obtain ⟨g, off, e, hlt, hx⟩ := h hp
  refine ⟨g, off, e, ⟨hlt.1, Nat.lt_of_lt_of_le hlt.2 hf.2.2.2.1⟩, fun k hk j u hu => ?_⟩
  rw [← hx k hk j u hu]
  unfold World.cell?
  rw [hf.2.2.2.2 g hlt.2 (hO g hlt.1)]
def KX (w : World) (T P BB F N m : Nat) (ws : Nat → List Int) (ts : Nat → Bool) (bs G : List (List Int)) (a : Option Addr) (k : Nat) (W : World) : Prop := (∃ rs ow, (G.take k ++ rs).Perm bs ∧ TC T P BB F N m ow (tsd ts (G.take k)) rs W ∧ Ag ws ow (tsd ts (G.take k)) m) ∧ Fr (TO T P BB F N) w W ∧ RA w.heap.size a G W ∧ ∀ g, TO T P BB F N g → g < w.heap.size
theorem KX.kept {w : World} {T P BB F N m : Nat} {ws : Nat → List Int} {ts : Nat → Bool} {bs G : List (List Int)} {a : Option Addr} {k : Nat} {W W' : World} (h : KX w T P BB F N m ws ts bs G a k W) (hb : Below W.heap.size W W') : KX w T P BB F N m ws ts bs G a k W' := by
  obtain ⟨⟨rs, ow, h1, h2, h3⟩, h4, h5, h6⟩ := h
  exact ⟨⟨rs, ow, h1, h2.kept hb, h3⟩, h4.trans (Fr.of hb), h5.fr (O := TO T P BB F N) (Fr.of hb) (fun g hg e => by have := h6 g e; omega), h6⟩
theorem take_snoc {G : List (List Int)} {k : Nat} (hk : k < G.length) : G.take (k + 1) = G.take k ++ [G.getD k []] := by
  rw [List.take_add_one, at_getD (d := []) hk]
  rfl
theorem KX.drop {w : World} {T P BB F N m : Nat} {ws : Nat → List Int} {ts : Nat → Bool} {bs G : List (List Int)} {a : Option Addr} {k : Nat} {W : World} (h : KX w T P BB F N m ws ts bs G a k W) (hk : k < G.length) (hm : m ≤ 16) (hI : BI m ws ts bs) (hG : ∀ b ∈ G, b ∈ bs) (hS : G.Pairwise (fun a b => el a 19 < el b 19)) :
    Calls Tryz.prog 148 #[.pointer (some ⟨T, 0, none⟩), .agg (bdC (G.getD k []))] W fun e w' => e = .returned .nilIface ∧ KX w T P BB F N m ws ts bs G a (k + 1) w' := by
  obtain ⟨⟨rs, ow, h1, h2, h3⟩, h4, h5, h6⟩ := h
  obtain ⟨b, hb⟩ : ∃ b, G.getD k [] = b := ⟨_, rfl⟩
  have hbG : b ∈ G := by rw [← hb]; exact mem_getD hk
  obtain ⟨-, ⟨i, hi, g1, g2, -⟩, -⟩ := hI.1 b (hG b hbG)
  have hne : ∀ c ∈ G.take k, el c 19 < el b 19 := by
    intro c hc
    obtain ⟨j, hj, rfl⟩ := List.mem_iff_getElem.1 hc
    rw [List.length_take] at hj
    rw [List.pairwise_iff_getElem] at hS
    have := hS j k (by omega) hk (by omega)
    rw [List.getElem_take]
    rw [← hb, getD_at hk]
    exact this
  have hmem : b ∈ rs := by
    rcases List.mem_append.1 (h1.mem_iff.2 (hG b hbG)) with h | h
    · exact absurd (hne b h) (by omega)
    · exact h
  have hp := List.perm_cons_erase hmem
  obtain ⟨q, j, hq, hj, rfl⟩ : ∃ q j, q < m ∧ j < 8 ∧ i = 8 * q + j := ⟨i / 8, i % 8, by omega, by omega, by omega⟩
  have hts : tsd ts (G.take k) (8 * q + j) = true := by
    unfold tsd
    rw [g2, Bool.true_and, Bool.not_eq_true', List.any_eq_false]
    intro c hc
    have := hne c hc
    obtain ⟨-, ⟨i', _, g1', -⟩, -⟩ := hI.1 c (hG c (List.mem_of_mem_take hc))
    have : (el c 19 - 1024).toNat ≠ 8 * q + j := by omega
    simpa using this
  rw [hb]
  refine (drop_any T P BB F N m ow (tsd ts (G.take k)) rs (rs.erase b) b q j W h2 hp hm hq hj hts g1).mono ?_
  rintro e w' ⟨rfl, e1, e2⟩
  have hu : tsd ts (G.take (k + 1)) = upd (tsd ts (G.take k)) (8 * q + j) false := by
    rw [take_snoc hk, hb]
    exact tsd_snoc ts _ b _ (by omega)
  refine ⟨rfl, ⟨rs.erase b, _, ?_, by rw [hu]; exact e1, by rw [hu]; exact h3.give q j⟩, h4.trans e2, h5.fr e2 (fun g hg e => by have := h6 g e; omega), h6⟩
  rw [take_snoc hk, hb, List.append_assoc]
  exact (hp.append_left _).symm.trans h1
theorem filter_parts {bs rs : List (List Int)} (p : List Int → Bool) (h : (bs.filter p ++ rs).Perm bs) : rs.Perm (bs.filter fun b => !p b) := by
  have h1 := List.filter_append_perm p bs
  exact (List.perm_append_left_iff _).1 (h.trans h1.symm)
theorem TC.perm {T P BB F N m : Nat} {ow : Nat → List Int} {ts : Nat → Bool} {bs bs' : List (List Int)} {w : World} (h : TC T P BB F N m ow ts bs w) (hp : bs.Perm bs') : TC T P BB F N m ow ts bs' w := ⟨h.1, h.2.1, h.2.2.1.perm (hp.map fE), h.2.2.2.1.perm (hp.map pE), h.2.2.2.2⟩
end Go.Proofs.YtkhahbghmdccaaaGreatDoor

namespace Go.Proofs.YtkhahbghmdccaaaGreatDoor
open Go.RowKit
theorem now_new (w : World) (now : Int) : (w.alloc (.cells #[.int .i64 now] 3)).cell? ⟨w.heap.size, 0, none⟩ = some (.int .i64 now) := cell_of_row _ _ 0 _ _ _ (heap_alloc_new w (.cells #[.int .i64 now] 3))
set_option maxRecDepth 100000 in
set_option maxHeartbeats 1000000 in
theorem bexpire_bad (v : Value) (now : Int) (w : World) (ht : tc now = false) :
    Calls Tryz.prog 92 #[v, .int .i64 now] w fun r w' => r = .returned (.tuple #[.slice none 0 0, err 1]) ∧ Below w.heap.size w w' := by
  have HU := hide (fun W => uptoT now W)
  rw [ht] at HU
  have HB := hide (al_below w (.cells #[.int .i64 now] 3))
  have c0 := now_new w now
  clear ht
  go_enter Tryz.func92, Tryz.ntmps92
  go_upto_region 1 with fail
  generalize w.alloc _ = W at HB c0 ⊢
  go_wp2_with (go_at_call 134; (with_reducible refine (HU.out _).mono ?_); rintro e w1 ⟨rfl, hb1⟩; replace HB := hide (bt HB.out hb1); clear hb1)
  go_ret2
  exact ⟨rfl, HB.out⟩
attribute [local go_sem ↓] bload_shut
set_option maxRecDepth 100000 in
set_option maxHeartbeats 4000000 in
theorem bexpire_ok (T P BB F N m : Nat) (ws ow : Nat → List Int) (ts : Nat → Bool) (bs : List (List Int)) (now : Int) (w : World) (h : TC T P BB F N m ow ts bs w) (ha : Ag ws ow ts m) (hm : m ≤ 16) (hl : bs.length ≤ 128) (hI : BI m ws ts bs) (ht : tc now = true) :
    Calls Tryz.prog 92 #[.pointer (some ⟨T, 0, none⟩), .int .i64 now] w fun r w' => ∃ a cap, r = .returned (.tuple #[.slice a (bs.filter (xp now)).length cap, .nilIface]) ∧ KX w T P BB F N m ws ts bs (bs.filter (xp now)) a (bs.filter (xp now)).length w' := by
  have HU := hide (fun W => uptoT now W)
  rw [ht] at HU
  have HB := hide (al_below w (.cells #[.int .i64 now] 3))
  have c0 := now_new w now
  have HTh := hide (show ∀ W, w.heap.size + 1 ≤ W.heap.size → Below w.heap.size w W → W.cell? ⟨w.heap.size, 0, none⟩ = some (.int .i64 now) → Calls Tryz.prog 114 #[.pointer (some ⟨T, 0, none⟩), .func (.func 146) #[] #[.pointer (some ⟨w.heap.size, 0, none⟩)]] W fun e w' => ∃ a cap, e = .returned (.slice a (bs.filter (xp now)).length cap) ∧ KX w T P BB F N m ws ts bs (bs.filter (xp now)) a 0 w' by
    intro W hs hW hc
    have hT := h.kept hW
    refine (those_any T P F N bs 146 #[.pointer (some ⟨w.heap.size, 0, none⟩)] (px now) W hT.1 hT.2.2.1 hl (enters_of Tryz.func146 (by kernel_rfl) rfl) (fun b hb W' hW' => old_any b w.heap.size now W' (by have := hW'.size; omega) ((hW'.cell (p := ⟨w.heap.size, 0, none⟩) (by show w.heap.size < W.heap.size; omega)).trans hc) ht (hI.1 b hb).2.2.1)).mono ?_
    rintro e w' ⟨v, l, rfl, h1, h2, h3, h4⟩
    have e1 : bs.filter (px now) = bs.filter (xp now) := List.filter_congr fun b hb => px_xp (okf_kind (hI.1 b hb).1)
    rw [e1] at h1
    have e2 := sorted_one _ l h1 h2 (hI.2.1.filter _)
    subst e2
    obtain ⟨a, cap, rfl, hr⟩ := h3
    have hbl : Below w.heap.size w w' := hW.trans (h4.mono hW.size)
    refine ⟨a, cap, rfl, ⟨bs, ow, by simp, by rw [List.take_zero, tsd_nil]; exact h.kept hbl, by rw [List.take_zero, tsd_nil]; exact ha⟩, Fr.of hbl, fun hp => ?_, fun g hg => h.lt g hg⟩
    obtain ⟨g, off, e, hlt, hx⟩ := hr hp
    exact ⟨g, off, e, ⟨by omega, hlt.2⟩, hx⟩)
  have HG := hide (show (∀ b ∈ bs.filter (xp now), b ∈ bs) ∧ (bs.filter (xp now)).Pairwise (fun a b => el a 19 < el b 19) ∧ (bs.filter (xp now)).length ≤ 128 from ⟨fun b hb => (List.mem_filter.1 hb).1, hI.2.1.filter _, Nat.le_trans (List.length_filter_le _ _) hl⟩)
  generalize bs.filter (xp now) = G at HTh HG ⊢
  have HD := hide (show ∀ a k W, k < G.length → KX w T P BB F N m ws ts bs G a k W → Calls Tryz.prog 148 #[.pointer (some ⟨T, 0, none⟩), .agg (bdC (G.getD k []))] W fun e w' => e = .returned .nilIface ∧ KX w T P BB F N m ws ts bs G a (k + 1) w' from fun a k W hk hK => hK.drop hk hm hI HG.out.1 HG.out.2.1)
  have hgl := HG.out.2.2
  clear h ha hm hl hI ht HG
  have hgi : (G.length : Int) ≤ 128 := by omega
  go_enter Tryz.func92, Tryz.ntmps92
  go_upto_region 1 with fail
  have HZ := hide (show w.heap.size + 1 ≤ (w.alloc (.cells #[.int .i64 now] 3)).heap.size by rw [World.size_alloc]; exact Nat.le_refl _)
  generalize w.alloc _ = W at HB c0 HZ ⊢
  have HC := hide c0
  go_upto_region 4 with (first
    | (go_at_call 134; (with_reducible refine (HU.out _).mono ?_); rintro e w1 ⟨rfl, hb1⟩; replace HB := hide (bt HB.out hb1); replace HC := hide ((hb1.cell (p := ⟨w.heap.size, 0, none⟩) HZ.out).trans HC.out); replace HZ := hide (Nat.le_trans HZ.out hb1.size); clear hb1 c0)
    | (go_at_call 114; refine (HTh.out _ HZ.out HB.out HC.out).mono ?_; rintro e w2 ⟨a, cap, rfl, hk2⟩; have HK := hide hk2; clear hk2))
  clear HTh HZ HC HU HB
  go_wp2
  go_loopw [20] (fun t wr => ∃ k : Nat, k ≤ G.length ∧ t = .int .i64 k ∧ Hid (KX w T P BB F N m ws ts bs G a k wr)) (fun t _ => G.length - (intOf t).toNat)
  case atStart => exact ⟨0, by omega, rfl, HK⟩
  case round =>
    clear HK
    obtain ⟨k, hk, rfl, HK⟩ := hrel
    by_cases hlt : k < G.length
    · have hra := HK.out.2.2.1
      obtain ⟨g, off, rfl, -, hx⟩ := hra (by omega)
      have gx := row_bl (hx k hlt)
      have HDk := hide (fun W hW => HD.out (some ⟨g, off, none⟩) k W hlt hW)
      generalize hbk : G.getD k [] = bk at gx HDk
      clear hx hra hbk
      have j1 : (k : Int) < (G.length : Int) := by omega
      have HS := hide (bd_zero wr)
      unfold zero23 at HS
      go_upto_region 7 with (refine at_storeb rfl (.tmp 8) (.tmp 23) rfl rfl HS.out bk rfl ?_; intro w5 p5 on5; have HK5 := hide (HK.out.kept (new_below _ on5)); replace p5 := hide p5; clear on5)
      clear gx HS HK
      generalize wr.heap.size = D at p5 ⊢
      have gb := p5.out.bl
      go_wp2_with (go_at_call 148; refine (HDk.out _ HK5.out).mono ?_; rintro e w6 ⟨rfl, hk6⟩; have HK6 := hide hk6; clear hk6)
      go_roundw
      case rel => exact ⟨k + 1, by omega, by go_num, HK6⟩
      case measure => simp [intOf]; omega
    · obtain rfl : G.length = k := by omega
      go_wp2
      go_ret2
      exact ⟨a, cap, rfl, HK.out⟩
theorem tb_expire : JExpire TB := by
  rintro v m ws ts bs O w now hm hl hI hT
  have hT0 := hT
  obtain ⟨T, P, BB, F, N, ow, rfl, h, ha, rfl⟩ := hT
  refine ⟨fun ht => (bexpire_bad _ now w ht).mono fun r w' ⟨e1, e2⟩ => ⟨_, e1, bdrow_nil 0 w', TQ.of tb_kept hT0 e2⟩, fun ht => ?_⟩
  obtain ⟨s1, s2, s3⟩ := es_all now bs ts
  rw [s1, s2, s3]
  refine (bexpire_ok T P BB F N m ws ow ts bs now w h ha hm hl hI ht).mono ?_
  rintro r w' ⟨a, cap, rfl, ⟨rs, ow', k1, k2, k3⟩, k4, k5, k6⟩
  rw [List.take_length] at k1 k2 k3
  exact ⟨_, rfl, (k5.row cap).weak, _, ⟨T, P, BB, F, N, ow', rfl, k2.perm (filter_parts _ k1), k3, rfl⟩, k4, fun _ e => .inl e⟩
theorem tb_jr : JR TB := ⟨tb_near, tb_find, tb_all⟩
theorem tb_ji : JI TB := ⟨tb_kept, bcheck, tb_new, tb_make, tb_use, RNear.j tb_kept tb_near, RFind.j tb_kept tb_find, tb_expire, RAll.j tb_kept tb_all⟩
end Go.Proofs.YtkhahbghmdccaaaGreatDoor
