/- Expire; the program's table is what is asked for. -/
import Derived.Test.YtkhahbghmdccaaaGreatB26
import Derived.Test.YtkhahbghmdccaaaGreatB27
import Derived.Deep.MidRow
import Derived.Laws.ResultCell
import Derived.Deep.CutBlock
import Derived.Deep.QuietTactic
import Derived.OwnWalk
import Derived.Deep.RegionHeld3
import Derived.Deep.DrawnRows
import Derived.Laws.StructEq
import Derived.Laws.AppendOwnNone
import Derived.Maps.AppendAt
import Derived.Maps.RangeWalk
import Derived.Test.YtkhahbghmdccaaaGreatProg
import Derived.WalkKit
import Derived.LaidEql
import Derived.Stop.Asserts
import Derived.RowKitTokens
import Derived.Test.YtkhahbghmdccaaaGreatShelf
import Derived.Shelf.Abstract
import Derived.BigQuiet
import Derived.Below
import Derived.Laws.MakeOwn
import Derived.Deep.RegionLaw
namespace Go.Proofs.YtkhahbghmdccaaaGreat
open Go.RowKit
theorem now_new (w : World) (now : Int) : (w.alloc (.cells #[.int .i64 now] 3)).cell? ⟨w.heap.size, 0, none⟩ = some (.int .i64 now) := cell_of_row _ _ 0 _ _ _ (heap_alloc_new w (.cells #[.int .i64 now] 3))
set_option maxRecDepth 100000 in
set_option maxHeartbeats 1000000 in
theorem bexpire_bad (v : Value) (now : Int) (w : World) (ht : tc now = false) :
    Calls Tryz.prog 88 #[v, .int .i64 now] w fun r w' => r = .returned (.tuple #[.slice none 0 0, err 1]) ∧ Below w.heap.size w w' := by
  have HU := hide (fun W => uptoT now W)
  rw [ht] at HU
  have HB := hide (al_below w (.cells #[.int .i64 now] 3))
  have c0 := now_new w now
  clear ht
  go_enter Tryz.func88, Tryz.ntmps88
  go_upto_region 1 with fail
  generalize w.alloc _ = W at HB c0 ⊢
  go_wp2_with (go_at_call 121; (with_reducible refine (HU.out _).mono ?_); rintro e w1 ⟨rfl, hb1⟩; replace HB := hide (bt HB.out hb1); clear hb1)
  go_ret2
  exact ⟨rfl, HB.out⟩
attribute [local go_sem ↓] bload_shut
set_option maxRecDepth 100000 in
set_option maxHeartbeats 4000000 in
theorem bexpire_ok (T P BB F N m : Nat) (ws ow : Nat → List Int) (ts : Nat → Bool) (bs : List (List Int)) (now : Int) (w : World) (h : TC T P BB F N m ow ts bs w) (ha : Ag ws ow ts m) (hm : m ≤ 16) (hl : bs.length ≤ 128) (hI : BI m ws ts bs) (ht : tc now = true) :
    Calls Tryz.prog 88 #[.pointer (some ⟨T, 0, none⟩), .int .i64 now] w fun r w' => ∃ a cap, r = .returned (.tuple #[.slice a (bs.filter (xp now)).length cap, .nilIface]) ∧ KX w T P BB F N m ws ts bs (bs.filter (xp now)) a (bs.filter (xp now)).length w' := by
  have HU := hide (fun W => uptoT now W)
  rw [ht] at HU
  have HB := hide (al_below w (.cells #[.int .i64 now] 3))
  have c0 := now_new w now
  have HTh := hide (show ∀ W, w.heap.size + 1 ≤ W.heap.size → Below w.heap.size w W → W.cell? ⟨w.heap.size, 0, none⟩ = some (.int .i64 now) → Calls Tryz.prog 125 #[.pointer (some ⟨T, 0, none⟩), .func (.func 141) #[] #[.pointer (some ⟨w.heap.size, 0, none⟩)]] W fun e w' => ∃ a cap, e = .returned (.slice a (bs.filter (xp now)).length cap) ∧ KX w T P BB F N m ws ts bs (bs.filter (xp now)) a 0 w' by
    intro W hs hW hc
    have hT := h.kept hW
    refine (those_any T P F N bs 141 #[.pointer (some ⟨w.heap.size, 0, none⟩)] (px now) W hT.1 hT.2.2.1 hl (enters_of Tryz.func141 (by kernel_rfl) rfl) (fun b hb W' hW' => old_any b w.heap.size now W' (by have := hW'.size; omega) ((hW'.cell (p := ⟨w.heap.size, 0, none⟩) (by show w.heap.size < W.heap.size; omega)).trans hc) ht (hI.1 b hb).2.2.1)).mono ?_
    rintro e w' ⟨v, l, rfl, h1, h2, h3, h4⟩
    have e1 : bs.filter (px now) = bs.filter (xp now) := List.filter_congr fun b hb => px_xp (okf_kind (hI.1 b hb).1)
    rw [e1] at h1
    have e2 := sorted_one _ l h1 h2 (hI.2.1.filter _)
    subst e2
    obtain ⟨a, cap, rfl, hr⟩ := h3
    have hbl : Below w.heap.size w w' := hW.trans (h4.mono hW.size)
    refine ⟨a, cap, rfl, ⟨bs, ow, by simp, by rw [List.take_zero, tsd_nil]; exact h.kept hbl, by rw [List.take_zero, tsd_nil]; exact ha⟩, Fr.of hbl, fun hp => ?_, fun g hg => h.lt g hg⟩
    obtain ⟨g, off, e, hlt, hx⟩ := hr hp
    exact ⟨g, off, e, ⟨by omega, hlt.2⟩, hx⟩)
  have HG := hide (show (∀ b ∈ bs.filter (xp now), b ∈ bs) ∧ (bs.filter (xp now)).Pairwise (fun a b => el a 19 < el b 19) ∧ (bs.filter (xp now)).length ≤ 128 from ⟨fun b hb => (List.mem_filter.1 hb).1, hI.2.1.filter _, Nat.le_trans (List.length_filter_le _ _) hl⟩)
  generalize bs.filter (xp now) = G at HTh HG ⊢
  have HD := hide (show ∀ a k W, k < G.length → KX w T P BB F N m ws ts bs G a k W → Calls Tryz.prog 143 #[.pointer (some ⟨T, 0, none⟩), .agg (bdC (G.getD k []))] W fun e w' => e = .returned .nilIface ∧ KX w T P BB F N m ws ts bs G a (k + 1) w' from fun a k W hk hK => hK.drop hk hm hI HG.out.1 HG.out.2.1)
  have hgl := HG.out.2.2
  clear h ha hm hl hI ht HG
  have hgi : (G.length : Int) ≤ 128 := by omega
  go_enter Tryz.func88, Tryz.ntmps88
  go_upto_region 1 with fail
  have HZ := hide (show w.heap.size + 1 ≤ (w.alloc (.cells #[.int .i64 now] 3)).heap.size by rw [World.size_alloc]; exact Nat.le_refl _)
  generalize w.alloc _ = W at HB c0 HZ ⊢
  have HC := hide c0
  go_upto_region 4 with (first
    | (go_at_call 121; (with_reducible refine (HU.out _).mono ?_); rintro e w1 ⟨rfl, hb1⟩; replace HB := hide (bt HB.out hb1); replace HC := hide ((hb1.cell (p := ⟨w.heap.size, 0, none⟩) HZ.out).trans HC.out); replace HZ := hide (Nat.le_trans HZ.out hb1.size); clear hb1 c0)
    | (go_at_call 125; refine (HTh.out _ HZ.out HB.out HC.out).mono ?_; rintro e w2 ⟨a, cap, rfl, hk2⟩; have HK := hide hk2; clear hk2))
  clear HTh HZ HC HU HB
  go_wp2
  go_loopw [20] (fun t wr => ∃ k : Nat, k ≤ G.length ∧ t = .int .i64 k ∧ Hid (KX w T P BB F N m ws ts bs G a k wr)) (fun t _ => G.length - (intOf t).toNat)
  case atStart => exact ⟨0, by omega, rfl, HK⟩
  case round =>
    clear HK
    obtain ⟨k, hk, rfl, HK⟩ := hrel
    by_cases hlt : k < G.length
    · have hra := HK.out.2.2.1
      obtain ⟨g, off, rfl, -, hx⟩ := hra (by omega)
      have gx := row_bl (hx k hlt)
      have HDk := hide (fun W hW => HD.out (some ⟨g, off, none⟩) k W hlt hW)
      generalize hbk : G.getD k [] = bk at gx HDk
      clear hx hra hbk
      have j1 : (k : Int) < (G.length : Int) := by omega
      have HS := hide (bd_zero wr)
      unfold zero23 at HS
      go_upto_region 7 with (refine at_storeb rfl (.tmp 8) (.tmp 23) rfl rfl HS.out bk rfl ?_; intro w5 p5 on5; have HK5 := hide (HK.out.kept (new_below _ on5)); replace p5 := hide p5; clear on5)
      clear gx HS HK
      generalize wr.heap.size = D at p5 ⊢
      have gb := p5.out.bl
      go_wp2_with (go_at_call 143; refine (HDk.out _ HK5.out).mono ?_; rintro e w6 ⟨rfl, hk6⟩; have HK6 := hide hk6; clear hk6)
      go_roundw
      case rel => exact ⟨k + 1, by omega, by go_num, HK6⟩
      case measure => simp [intOf]; omega
    · obtain rfl : G.length = k := by omega
      go_wp2
      go_ret2
      exact ⟨a, cap, rfl, HK.out⟩
theorem tb_expire : JExpire TB := by
  rintro v m ws ts bs O w now hm hl hI hT
  have hT0 := hT
  obtain ⟨T, P, BB, F, N, ow, rfl, h, ha, rfl⟩ := hT
  refine ⟨fun ht => (bexpire_bad _ now w ht).mono fun r w' ⟨e1, e2⟩ => ⟨_, e1, bdrow_nil 0 w', TQ.of tb_kept hT0 e2⟩, fun ht => ?_⟩
  obtain ⟨s1, s2, s3⟩ := es_all now bs ts
  rw [s1, s2, s3]
  refine (bexpire_ok T P BB F N m ws ow ts bs now w h ha hm hl hI ht).mono ?_
  rintro r w' ⟨a, cap, rfl, ⟨rs, ow', k1, k2, k3⟩, k4, k5, k6⟩
  rw [List.take_length] at k1 k2 k3
  exact ⟨_, rfl, (k5.row cap).weak, _, ⟨T, P, BB, F, N, ow', rfl, k2.perm (filter_parts _ k1), k3, rfl⟩, k4, fun _ e => .inl e⟩
theorem tb_jr : JR TB := ⟨tb_near, tb_find, tb_all⟩
theorem tb_ji : JI TB := ⟨tb_kept, bcheck, tb_new, tb_make, tb_use, RNear.j tb_kept tb_near, RFind.j tb_kept tb_find, tb_expire, RAll.j tb_kept tb_all⟩
end Go.Proofs.YtkhahbghmdccaaaGreat
