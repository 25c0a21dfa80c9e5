/- Package shift: first, and what goes up, by contracts. -/
import Derived.Test.YtbbbcfihnjidaaaDoorShC
namespace Go.Proofs.YtbbbcfihnjidaaaDoor
open Go.RowKit

theorem two_new (w : World) (v1 v2 : Value) : Two w.heap.size v1 v2 (w.alloc (.cells #[v1, v2] 22)).drew := heap_alloc_new w _
set_option maxRecDepth 100000 in
set_option maxHeartbeats 4000000 in
theorem first_any (B : Nat) (hd : List Int) (s : Int) (b h : Bool) (z : List Int) (a : Option Addr) (len cap : Nat) (zs : List Int) (w : World) (hS : ST 46 B hd s b h w) (hr : Row8 w a len cap zs) (hm : len ≤ 300) (h0 : 0 ≤ el z 3) (h1 : el z 3 < 4294967296) :
    Calls Tryd.prog 21 #[.pointer (some ⟨B, 0, none⟩), .agg (sgC z a len cap)] w (UQ 46 ev B hd (fio hd s b h z zs) w) := by
  have HV := hide (T2.start w z a len cap)
  unfold zero7 at HV
  have HST := hide (fun W (hb : Below w.heap.size w W) => hS.kept hb)
  obtain ⟨x, n, c, p, hrd, hn⟩ := hS
  have hln := hr.1
  have hdn := hrd.1
  have HS := hide (fun W (hb : Below w.heap.size w W) => p.kept hb)
  have HR := hide (fun W (hb : Below w.heap.size w W) => hr.below hb)
  have HD := hide (fun W (hb : Below w.heap.size w W) => hrd.below hb)
  have j0 : IntKind.i64.wrap ((n : Int) + (len : Int)) = (n : Int) + len := by rw [IntKind.wrap_i64]; omega
  by_cases hl : 300 < n + len
  · have HO := hide (show fio hd s b h z zs = (3, [], [], s, b, h) from if_pos (by omega))
    generalize fio hd s b h z zs = O at HO ⊢
    have j1 : (300 : Int) < (n : Int) + len := by omega
    clear p hrd hr hln hdn hl
    go_enter Tryd.func21, Tryd.ntmps21
    go_upto_region 1 with fail
    generalize (World.alloc _ _).alloc _ = W0 at HV ⊢
    have l7 := HV.out.1.c7
    have k0 := (HS.out _ HV.out.2.2).c0
    replace HV := hide (HV.out.kept (Below.refl _ _).drew)
    go_quiet (fail)
    go_wp2_with (refine at_store rfl (.tmp 4) (.tmp 16) rfl rfl HV.out.2.1 [] none 0 0 rfl ?_; intro w5 p5 on5; have HB := hide (HV.out.put on5); replace p5 := hide p5; clear on5 HV)
    try simp only [Exit.inBlock, Exit.then]
    refine bodyPost_ret (results_sg rfl _ _ (w.heap.size + 1) [] none 0 0 rfl p5.out) rfl ?_
    rw [HO.out]
    exact ⟨none, 0, 0, rfl, row_no _, HST.out _ HB.out, Bu.of HB.out⟩
  · have HO := hide (show fio hd s b h z zs = (0, zq z (md (el z 3 - n)), hd ++ zs, s, b, h) by rw [show fio hd s b h z zs = _ from if_neg (by omega), hdn])
    generalize fio hd s b h z zs = O at HO ⊢
    have HX := hide (fun W V (h1 : Two V (.slice x n c) (.slice a len cap) W) (h2 : Row8 W x n c hd) (h3 : Row8 W a len cap zs) => concat_any V x a n len c cap hd zs W h1 h2 h3 (by omega) (by omega))
    have HQ := hide (fun W s b h a len cap zs (h1 : StB 46 B x n c s b h W) (h2 : Row8 W a len cap zs) => sooner_any B x n c s b h z a len cap zs W h1 hn h2 (by omega) (by omega))
    have HL := hide (show (hd ++ zs).length = n + len by rw [List.length_append]; omega)
    generalize md (el z 3 - n) = M at HO HQ
    have j1 : ¬ (300 : Int) < (n : Int) + len := by omega
    clear p hrd hr hln hdn hl
    go_enter Tryd.func21, Tryd.ntmps21
    go_upto_region 1 with fail
    generalize (World.alloc _ _).alloc _ = W0 at HV ⊢
    have l7 := HV.out.1.c7
    have k0 := (HS.out _ HV.out.2.2).c0
    have HVn := hide (fun n => HV.out.kept (W' := W0.drewN n) ⟨rfl, rfl, rfl, Nat.le_refl _, fun _ _ => rfl⟩)
    clear HV
    go_quiet (fail)
    generalize hW : World.drewN _ _ = W1
    have HV : Hid (T2 w z a len cap W1) := by rw [← hW]; exact HVn.out _
    clear hW HVn l7 k0 j0 j1
    go_upto_region 3 with fail
    have l7 := HV.out.1.c7
    have k0 := (HS.out _ HV.out.2.2).c0
    have b2 := (al_below W1 (.cells #[.slice x n c, .slice a len cap] 22)).drew
    replace HV := hide (HV.out.kept b2)
    clear b2
    have HY := hide (HX.out _ _ (two_new W1 (.slice x n c) (.slice a len cap)) (HD.out _ HV.out.2.2) (HR.out _ HV.out.2.2))
    clear HX
    go_region_with (go_at_call 27; refine HY.out.mono ?_; rintro e w3 ⟨v3, rfl, g3⟩; obtain ⟨a3, c3, rfl, hr3, -⟩ := g3.1.row8; rw [HL.out] at hr3 ⊢; replace HV := hide (HV.out.kept g3.2); clear l7; have l7 := HV.out.1.c7; have f7 := HV.out.1.frz 7; have s7 := HV.out.1.set7 a3 (n + len) c3; have hr4 := hide (hr3.past HV.out.1 s7.2); replace HV := hide (HV.out.turn s7.1 s7.2); clear g3 hr3 s7 HY)
    all_goals
      clear l7 f7 k0
      generalize World.setCell _ _ _ = W4 at HV hr4 ⊢
      have P := hide (HS.out _ HV.out.2.2)
      go_wp2_with (first
        | (refine at_load rfl (.tmp 3) rfl rfl HV.out.1 ?_)
        | (go_at_call 26; refine (HQ.out _ _ _ _ _ _ _ _ P.out hr4.out).mono ?_; rintro e w5 ⟨rfl, r5, hb5⟩; replace HV := hide (HV.out.kept hb5); replace r5 := hide r5; clear hb5 hr4 P)
        | (refine at_store rfl (.tmp 4) (.tmp 29) rfl rfl HV.out.2.1 (zq z M) a3 (n + len) c3 rfl ?_; intro w6 p6 on6; have HB := hide (HV.out.put on6); replace r5 := hide (r5.out.past HV.out.2.1 on6); replace p6 := hide p6; clear on6 HV))
      try simp only [Exit.inBlock, Exit.then]
      refine bodyPost_ret (results_sg rfl _ _ (w.heap.size + 1) (zq z M) a3 (n + len) c3 rfl p6.out) rfl ?_
      rw [HO.out]
      exact ⟨a3, n + len, c3, rfl, r5.out, HST.out _ HB.out, Bu.of HB.out⟩
end Go.Proofs.YtbbbcfihnjidaaaDoor
