/- Find, Near: the bind of a flow, the bind at a port. Near and Use. Use. -/
import Derived.Test.YtkhahbghmdccaaaGreatDoorF27
import Derived.Deep.MidRow
import Derived.Laws.ResultCell
import Derived.Deep.CutBlock
import Derived.Deep.QuietTactic
import Derived.OwnWalk
import Derived.Deep.RegionHeld3
import Derived.Deep.DrawnRows
import Derived.Laws.StructEq
import Derived.Laws.AppendOwnNone
import Derived.Maps.AppendAt
import Derived.Maps.RangeWalk
import Derived.Test.YtkhahbghmdccaaaGreatDoorProg
import Derived.WalkKit
import Derived.LaidEql
import Derived.Stop.Asserts
import Derived.RowKitTokens
import Derived.BigQuiet
import Derived.Below
import Derived.Laws.MakeOwn
import Derived.Deep.RegionLaw
namespace Go.Proofs.YtkhahbghmdccaaaGreatDoor
open Go.RowKit
theorem bd_zero' (w : World) : BdIn w.heap.size [] (w.alloc (.cells zero23 75)).drew := bd_zero w
attribute [local go_sem ↓] fload_shut bload_shut flk_shut bstore_shut
set_option maxRecDepth 100000 in
set_option maxHeartbeats 2000000 in
theorem bfind_bad (v : Value) (f : List Int) (w : World) (hf : okf f = false) :
    Calls Tryz.prog 122 #[v, .agg (flC f)] w fun r w' => r = .returned (.tuple #[.agg (bdC []), err 1]) ∧ Below w.heap.size w w' := by
  have HC := hide (fun W => bcheck f W)
  rw [hf, show ev (fe false) = err 1 from rfl] at HC
  unfold err at HC
  have HB := hide (bt (al_below w (.cells (flC f) 73)) (al_below _ (.cells zero23 75)))
  have HF := hide (show FlIn w.heap.size f ((w.alloc (.cells (flC f) 73)).alloc (.cells zero23 75)) from (fl_new f w).kept (al_below _ _))
  have HZ := hide (show BdIn (w.heap.size + 1) [] ((w.alloc (.cells (flC f) 73)).alloc (.cells zero23 75)) by have := bd_zero (w.alloc (.cells (flC f) 73)); rw [World.size_alloc] at this; exact this)
  unfold zero23 at HB HF HZ
  clear hf
  go_enter Tryz.func122, Tryz.ntmps122
  go_upto_region 1 with fail
  generalize (w.alloc _).alloc _ = W at HB HF HZ ⊢
  have g1 := HF.out.fl
  go_wp2_with (first
    | (go_at_call 171; (with_reducible refine (HC.out _).mono ?_); rintro e w1 ⟨rfl, hb1⟩; replace HB := hide (bt HB.out hb1); replace HZ := hide (HZ.out.kept hb1); clear hb1 g1)
    | (refine at_storeb rfl (.tmp 4) (.tmp 13) rfl rfl HZ.out [] rfl ?_; intro w5 p5 on5; have HB5 := hide (on5.below HB.out (Nat.le_succ _)); replace p5 := hide p5; clear on5))
  try simp only [Exit.inBlock, Exit.then]
  refine bodyPost_ret (results_bd rfl _ _ (w.heap.size + 1) [] rfl p5.out) rfl ?_
  exact ⟨rfl, HB5.out⟩
set_option maxRecDepth 100000 in
set_option maxHeartbeats 2000000 in
theorem bfind_ok (T P F N : Nat) (f x : List Int) (ok : Bool) (w : World) (hf : okf f = true) (ht : TBl T P F N w)
    (hl : ∀ W, Below w.heap.size w W → (flk (.map (some F)) (.agg (flC f)) true).run Tryz.prog W = .ok (.tuple #[.agg (bdC x), .bool ok]) W) (hx : ok = false → x = []) :
    Calls Tryz.prog 122 #[.pointer (some ⟨T, 0, none⟩), .agg (flC f)] w fun r w' => r = .returned (.tuple #[.agg (bdC x), if ok = true then .nilIface else err 4]) ∧ Below w.heap.size w w' := by
  have HC := hide (fun W => bcheck f W)
  rw [hf, show ev (fe true) = .nilIface from rfl] at HC
  have HB := hide (bt (al_below w (.cells (flC f) 73)) (al_below _ (.cells zero23 75)))
  have HF := hide (show FlIn w.heap.size f ((w.alloc (.cells (flC f) 73)).alloc (.cells zero23 75)) from (fl_new f w).kept (al_below _ _))
  have HZ := hide (show BdIn (w.heap.size + 1) [] ((w.alloc (.cells (flC f) 73)).alloc (.cells zero23 75)) by have := bd_zero (w.alloc (.cells (flC f) 73)); rw [World.size_alloc] at this; exact this)
  have HT := hide (fun W (hb : Below w.heap.size w W) => show TBl T P F N W from (hb.block T ht.lt).trans ht)
  have HL := hide hl
  have HX := hide hx
  have HS := hide (fun W => (bd_zero W))
  unfold zero23 at HB HF HZ HS
  clear hf ht hl hx
  go_enter Tryz.func122, Tryz.ntmps122
  go_upto_region 1 with fail
  generalize (w.alloc _).alloc _ = W at HB HF HZ ⊢
  have g1 := HF.out.fl
  go_upto_region 4 with (go_at_call 171; (with_reducible refine (HC.out _).mono ?_); rintro e w1 ⟨rfl, hb1⟩; replace HB := hide (bt HB.out hb1); replace HF := hide (HF.out.kept hb1); replace HZ := hide (HZ.out.kept hb1); clear hb1 g1)
  clear HC W
  rename World => w1
  have HB1 := hide (show Below w.heap.size w w1.drew from HB.out.drew)
  have HB2 := hide (show Below w.heap.size w (w1.alloc (.cells zero23 75)).drew from (bt HB.out (al_below w1 _)).drew)
  have HF2 := hide (show FlIn w.heap.size f (w1.alloc (.cells zero23 75)).drew from HF.out.kept (al_below w1 _).drew)
  have HZ2 := hide (show BdIn (w.heap.size + 1) [] (w1.alloc (.cells zero23 75)).drew from HZ.out.kept (al_below w1 _).drew)
  obtain ⟨w5, hst, p5, on5⟩ := (bd_zero' w1).held x
  have HB5 := hide (on5.below HB2.out (Nat.le_trans HB.out.size (Nat.le_refl _)))
  have hne : w.heap.size + 1 ≠ w1.heap.size := by have := HZ.out.lt; omega
  have HZ5 := hide (show BdIn (w.heap.size + 1) [] w5 from (on5.2.2.2.2 _ hne).trans HZ2.out)
  have HP5 := hide p5
  have HK := hide (show ∀ W', Below w.heap.size w W' → FlIn w.heap.size f W' → W'.cell? ⟨T, 1, none⟩ = some (.map (some F)) ∧ (fload (.pointer (some ⟨w.heap.size, 0, none⟩))).run Tryz.prog W' = .ok (.agg (flC f)) W' ∧ (flk (.map (some F)) (.agg (flC f)) true).run Tryz.prog W' = .ok (.tuple #[.agg (bdC x), .bool ok]) W' from fun W' h1 h2 => ⟨(HT.out W' h1).c1, h2.fl, HL.out W' h1⟩)
  have HF5 := hide (show FlIn w.heap.size f w5 from (on5.2.2.2.2 _ (by have := HF.out.lt; omega)).trans HF2.out)
  unfold zero23 at HB2 HF2 hst
  clear on5 p5 HT HL HZ2 hne
  obtain ⟨c1, g2, k2⟩ := HK.out _ HB1.out HF.out
  go_region_held3 (fun W' => W'.cell? ⟨T, 1, none⟩ = some (.map (some F)) ∧ (fload (.pointer (some ⟨w.heap.size, 0, none⟩))).run Tryz.prog W' = .ok (.agg (flC f)) W' ∧ (flk (.map (some F)) (.agg (flC f)) true).run Tryz.prog W' = .ok (.tuple #[.agg (bdC x), .bool ok]) W')
    (first
      | exact HK.out _ HB1.out HF.out
      | exact HK.out _ HB2.out HF2.out
      | exact HK.out _ HB5.out HF5.out
      | go_keep)
    (fail)
  all_goals
    clear c1 g2 k2 hst HB1 HB2 HF2 HF5 HK HB HF HZ HS
    generalize w1.heap.size = D at HP5 ⊢
    have gb := HP5.out.bl
    cases ok
    · go_wp2_with (refine at_storeb rfl (.tmp 4) (.tmp 26) rfl rfl HZ5.out [] rfl ?_; intro w6 p6 on6; have HB6 := hide (on6.below HB5.out (Nat.le_succ _)); replace p6 := hide p6; clear on6)
      try simp only [Exit.inBlock, Exit.then]
      refine bodyPost_ret (results_bd rfl _ _ (w.heap.size + 1) [] rfl p6.out) rfl ?_
      exact ⟨by rw [HX.out (by simp)]; rfl, HB6.out⟩
    · go_wp2_with (refine at_storeb rfl (.tmp 4) (.tmp 28) rfl rfl HZ5.out x rfl ?_; intro w6 p6 on6; have HB6 := hide (on6.below HB5.out (Nat.le_succ _)); replace p6 := hide p6; clear on6)
      try simp only [Exit.inBlock, Exit.then]
      refine bodyPost_ret (results_bd rfl _ _ (w.heap.size + 1) x rfl p6.out) rfl ?_
      exact ⟨rfl, HB6.out⟩
theorem tb_find : RFind TB := by
  rintro v m ws ts bs O w f x e hm hl hb ⟨T, P, BB, F, N, ow, rfl, h, ha, rfl⟩ hf
  rcases hf with ⟨h1, rfl, rfl⟩ | ⟨h1, h2, rfl, rfl⟩ | ⟨h1, k, h2, rfl, rfl⟩
  · exact bfind_bad _ f w h1
  · exact bfind_ok T P F N f [] false w h1 h.1 (fun W hW => (h.2.2.1.same (hW.block F h.2.2.1.lt)).fno h2) (fun _ => rfl)
  · exact bfind_ok T P F N f _ true w h1 h.1 (fun W hW => ((h.2.2.1.same (hW.block F h.2.2.1.lt)).fyes h2).1) (fun e => by cases e)
end Go.Proofs.YtkhahbghmdccaaaGreatDoor

namespace Go.Proofs.YtkhahbghmdccaaaGreatDoor
open Go.RowKit
def zero19 : Array Value := #[.int .i64 0, .int .i64 0, .int .i64 0, .int .i64 0, .int .i64 0, .int .i64 0, .int .i64 0, .int .i64 0, .int .i64 0, .int .i64 0, .int .i64 0, .int .i64 0, .int .i64 0, .int .i64 0, .int .i64 0, .int .i64 0, .int .i64 0, .int .i64 0, .int .i64 0]
theorem fl_zero (w : World) : FlIn w.heap.size [] (w.alloc (.cells zero19 73)) := heap_alloc_new w _
theorem FlIn.stored {B : Nat} {b0 : List Int} {w : World} (p : FlIn B b0 w) (b : List Int) : FlIn B b (w.setRow B (flC b)) := setRow_heap w B _ _ _ (0, 0) p
theorem at_storef {ops : Array Oper} {rest : List Oper} {o : Oper} {f : Act} {w : World} {Q : Exit → Act → World → Prop} (hgd : o.guard = none) (x y : Operand) (ho : o.op = .store 73 x y)
    {B : Nat} {b0 : List Int} (hx : f.eval x = .pointer (some ⟨B, 0, none⟩)) (p : FlIn B b0 w) (b : List Int) (hy : f.eval y = .agg (flC b))
    (hK : ∀ w', FlIn B b w' → Only B w w' → wpList Tryz.prog ops Q rest (f.put o.dst undef) w') : wpList Tryz.prog ops Q (o :: rest) f w :=
  wpList_store_row hgd 73 x y ho B _ hx hy 73 _ p (by kernel_rfl) rfl (by unfold flC; simp [Value.oneCell']) (hK _ (p.stored b) (only_setRow _ _ _))
theorem MP.fmem {F : Nat} {bs : List (List Int)} {w : World} (h : MP isF F (bs.map fE) w) {b : List Int} (hb : b ∈ bs) : (flk (.map (some F)) (.agg (flC b)) false).run Tryz.prog w = .ok (.agg (bdC b)) w :=
  h.look_yes kof Tryz.mapF ⟨b, rfl⟩ (List.mem_map.2 ⟨b, hb, rfl⟩) false
attribute [local go_sem ↓] fload_shut bload_shut flk_shut plk_shut bstore_shut
set_option maxRecDepth 100000 in
set_option maxHeartbeats 2000000 in
theorem bnear_no (T P F N : Nat) (kind p : Int) (fl : List Int) (ok : Bool) (w : World) (ht : TBl T P F N w)
    (hl : ∀ W, Below w.heap.size w W → (plk (.map (some N)) (.int .i64 p) true).run Tryz.prog W = .ok (.tuple #[.agg (flC fl), .bool ok]) W) (hk : ok = true → (el fl 0 == kind) = false) :
    Calls Tryz.prog 76 #[.pointer (some ⟨T, 0, none⟩), .int .i64 kind, .int .i64 p] w fun r w' => r = .returned (.tuple #[.agg (bdC []), err 4]) ∧ Below w.heap.size w w' := by
  have HB := hide (al_below w (.cells zero23 75))
  have HZ := hide (bd_zero w)
  have HT := hide (fun W (hb : Below w.heap.size w W) => show TBl T P F N W from (hb.block T ht.lt).trans ht)
  have HL := hide hl
  have HK := hide hk
  have HS := hide (fun W => (fl_zero W))
  unfold zero23 at HB HZ
  unfold zero19 at HS
  clear ht hl hk
  go_enter Tryz.func76, Tryz.ntmps76
  go_upto_region 1 with fail
  generalize w.alloc _ = W at HB HZ ⊢
  have c2 := (HT.out W HB.out).c2
  have k2 := HL.out W HB.out
  go_upto_region 2 with (refine at_storef rfl (.tmp 8) (.tmp 17) rfl rfl (HS.out W) fl rfl ?_; intro w5 p5 on5; have hb5 := new_below _ on5; replace HB := hide (bt HB.out hb5); replace HZ := hide (HZ.out.kept hb5); replace p5 := hide p5; clear on5 hb5)
  clear c2 k2 HT HL HS
  generalize W.heap.size = D at p5 ⊢
  have c0 := p5.out.cell 0 (by omega)
  obtain ⟨y, hy⟩ : ∃ y, el fl 0 = y := ⟨_, rfl⟩
  rw [hy] at c0 HK
  clear hy
  cases ok
  · go_wp2_with (refine at_storeb rfl (.tmp 6) (.tmp 27) rfl rfl HZ.out [] rfl ?_; intro w6 p6 on6; have HB6 := hide (on6.below HB.out (Nat.le_refl _)); replace p6 := hide p6; clear on6)
    try simp only [Exit.inBlock, Exit.then]
    refine bodyPost_ret (results_bd rfl _ _ w.heap.size [] rfl p6.out) rfl ?_
    exact ⟨rfl, HB6.out⟩
  · have hq : (y != kind) = true := by have := HK.out rfl; simpa using this
    clear HK
    go_wp2_with (refine at_storeb rfl (.tmp 6) (.tmp 27) rfl rfl HZ.out [] rfl ?_; intro w6 p6 on6; have HB6 := hide (on6.below HB.out (Nat.le_refl _)); replace p6 := hide p6; clear on6)
    try simp only [Exit.inBlock, Exit.then]
    refine bodyPost_ret (results_bd rfl _ _ w.heap.size [] rfl p6.out) rfl ?_
    exact ⟨rfl, HB6.out⟩
set_option maxRecDepth 100000 in
set_option maxHeartbeats 2000000 in
theorem bnear_yes (T P F N : Nat) (p : Int) (b : List Int) (w : World) (ht : TBl T P F N w)
    (hl : ∀ W, Below w.heap.size w W → (plk (.map (some N)) (.int .i64 p) true).run Tryz.prog W = .ok (.tuple #[.agg (flC b), .bool true]) W ∧ (flk (.map (some F)) (.agg (flC b)) false).run Tryz.prog W = .ok (.agg (bdC b)) W) :
    Calls Tryz.prog 76 #[.pointer (some ⟨T, 0, none⟩), .int .i64 (el b 0), .int .i64 p] w fun r w' => r = .returned (.tuple #[.agg (bdC b), .nilIface]) ∧ Below w.heap.size w w' := by
  have HB := hide (al_below w (.cells zero23 75))
  have HZ := hide (bd_zero w)
  have HT := hide (fun W (hb : Below w.heap.size w W) => show TBl T P F N W from (hb.block T ht.lt).trans ht)
  have HL := hide hl
  have HS := hide (fun W => (fl_zero W))
  unfold zero23 at HB HZ
  unfold zero19 at HS
  clear ht hl
  obtain ⟨y, hy⟩ : ∃ y, el b 0 = y := ⟨_, rfl⟩
  rw [hy]
  have HY := hide hy
  clear hy
  go_enter Tryz.func76, Tryz.ntmps76
  go_upto_region 1 with fail
  generalize w.alloc _ = W at HB HZ ⊢
  have c2 := (HT.out W HB.out).c2
  have k2 := (HL.out W HB.out).1
  go_upto_region 2 with (refine at_storef rfl (.tmp 8) (.tmp 17) rfl rfl (HS.out W) b rfl ?_; intro w5 p5 on5; have hb5 := new_below _ on5; replace HB := hide (bt HB.out hb5); replace HZ := hide (HZ.out.kept hb5); replace p5 := hide p5; clear on5 hb5)
  clear c2 k2 HS
  generalize W.heap.size = D at p5 ⊢
  have c0 := p5.out.cell 0 (by omega)
  rw [HY.out] at c0
  have hq : (y != y) = false := by simp
  rename World => w5
  go_upto_region 4 with fail
  clear c0 hq
  have HB1 := hide (show Below w.heap.size w w5.drew from HB.out.drew)
  have HZ1 := hide (show BdIn w.heap.size [] w5.drew from HZ.out)
  have HF1 := hide (show FlIn D b w5.drew from p5.out)
  obtain ⟨w6, hst, p6, on6⟩ := HZ1.out.held b
  have HB6 := hide (on6.below HB1.out (Nat.le_refl _))
  have HP6 := hide p6
  have hnD : D ≠ w.heap.size := by
    rintro rfl
    have h1 := HZ1.out
    have h2 := HF1.out
    unfold BdIn at h1
    unfold FlIn at h2
    rw [h1] at h2
    injection h2 with h2
    injection h2 with _ h2
    exact absurd h2 (by decide)
  have HF6 := hide (show FlIn D b w6 from (on6.2.2.2.2 _ hnD).trans HF1.out)
  have HK := hide (show ∀ W', Below w.heap.size w W' → FlIn D b W' → W'.cell? ⟨T, 1, none⟩ = some (.map (some F)) ∧ (fload (.pointer (some ⟨D, 0, none⟩))).run Tryz.prog W' = .ok (.agg (flC b)) W' ∧ (flk (.map (some F)) (.agg (flC b)) false).run Tryz.prog W' = .ok (.agg (bdC b)) W' from fun W' h1 h2 => ⟨(HT.out W' h1).c1, h2.fl, (HL.out W' h1).2⟩)
  clear on6 p6 HT HL hnD HZ1 HY
  obtain ⟨c1, g2, k2⟩ := HK.out _ HB1.out HF1.out
  go_region_held3 (fun W' => W'.cell? ⟨T, 1, none⟩ = some (.map (some F)) ∧ (fload (.pointer (some ⟨D, 0, none⟩))).run Tryz.prog W' = .ok (.agg (flC b)) W' ∧ (flk (.map (some F)) (.agg (flC b)) false).run Tryz.prog W' = .ok (.agg (bdC b)) W')
    (first
      | exact HK.out _ HB1.out HF1.out
      | exact HK.out _ HB6.out HF6.out
      | go_keep)
    (fail)
  all_goals
    go_wp2_with fail
    try simp only [Exit.inBlock, Exit.then]
    refine bodyPost_ret (results_bd rfl _ _ w.heap.size b rfl HP6.out) rfl ?_
    exact ⟨rfl, HB6.out⟩
theorem tb_near : RNear TB := by
  rintro v m ws ts bs O w kind p x e hm hl hb ⟨T, P, BB, F, N, ow, rfl, h, ha, rfl⟩ hn
  have hN := fun W (hW : Below w.heap.size w W) => h.2.2.2.1.same (hW.block N h.2.2.2.1.lt)
  have hF := fun W (hW : Below w.heap.size w W) => h.2.2.1.same (hW.block F h.2.2.1.lt)
  rcases hn with ⟨h1, rfl, rfl⟩ | ⟨k, h1, h2, rfl, rfl⟩ | ⟨k, h1, h2, rfl, rfl⟩
  · exact bnear_no T P F N kind p [] false w h.1 (fun W hW => (hN W hW).pno h1) (fun e => by cases e)
  · exact bnear_no T P F N kind p _ true w h.1 (fun W hW => (hN W hW).pyes h1) (fun _ => h2)
  · have hk : el (bs.getD k []) 0 = kind := by simpa using h2
    rw [← hk]
    exact bnear_yes T P F N p _ w h.1 (fun W hW => ⟨(hN W hW).pyes h1, (hF W hW).fmem (prtY h1).2.1⟩)
end Go.Proofs.YtkhahbghmdccaaaGreatDoor

namespace Go.Proofs.YtkhahbghmdccaaaGreatDoor
open Go.RowKit
theorem BdIn.set22 {D : Nat} {b : List Int} {w : World} (p : BdIn D b w) (now : Int) : BdIn D (usd b now) (w.setCell ⟨D, 22, none⟩ (.int .i64 now)) ∧ Only D w (w.setCell ⟨D, 22, none⟩ (.int .i64 now)) := by
  rw [setCell_eq_setRow w D 22 _ 75 (0, 0) (.int .i64 now) p]
  exact ⟨setRow_heap w D _ _ 75 (0, 0) p, only_setRow _ _ _⟩
def fup (m k v : Value) : Sem Unit := Instr.mapUpdate 177 m k v
theorem fup_shut (m k v : Value) : Instr.mapUpdate 177 m k v = fup m k v := rfl
def pup (m k v : Value) : Sem Unit := Instr.mapUpdate 178 m k v
theorem pup_shut (m k v : Value) : Instr.mapUpdate 178 m k v = pup m k v := rfl
theorem at_getD {α : Type} {l : List α} {k : Nat} {d : α} (h : k < l.length) : l[k]? = some (l.getD k d) := by rw [List.getD_eq_getElem?_getD, List.getElem?_eq_getElem h]; rfl
theorem MP.used {F : Nat} {bs : List (List Int)} {w : World} (h : MP isF F (bs.map fE) w) {k : Nat} (hk : k < bs.length) (now : Int) :
    ∃ w', (fup (.map (some F)) (.agg (flC (bs.getD k []))) (.agg (bdC (usd (bs.getD k []) now)))).run Tryz.prog w = .ok () w' ∧ MP isF F ((bs.set k (usd (bs.getD k []) now)).map fE) w' ∧ Only F w w' := by
  have hp := (erase_perm bs k _ (at_getD (d := []) hk)).map fE
  obtain ⟨w', h1, h2, h3⟩ := h.store_old kof Tryz.mapF (.agg (bdC (usd (bs.getD k []) now))) ⟨bs.getD k [], rfl⟩ hp
  exact ⟨w', h1, h2.perm (((ChangeMaps.set_perm bs k hk (usd (bs.getD k []) now)).map fE).symm), h3⟩
theorem MP.pused {N : Nat} {bs : List (List Int)} {w : World} (h : MP isI N (bs.map pE) w) {k : Nat} (hk : k < bs.length) (now : Int) : MP isI N ((bs.set k (usd (bs.getD k []) now)).map pE) w :=
  h.perm (((erase_perm bs k _ (at_getD (d := []) hk)).map pE).trans ((ChangeMaps.set_perm bs k hk (usd (bs.getD k []) now)).map pE).symm)
attribute [local go_sem ↓] fload_shut bload_shut flk_shut plk_shut bstore_shut fup_shut
set_option maxRecDepth 100000 in
set_option maxHeartbeats 2000000 in
theorem buse_none (T P F N : Nat) (p now : Int) (w : World) (ht : TBl T P F N w)
    (hl : (plk (.map (some N)) (.int .i64 p) true).run Tryz.prog w = .ok (.tuple #[.agg (flC []), .bool false]) w) :
    Calls Tryz.prog 77 #[.pointer (some ⟨T, 0, none⟩), .int .i64 p, .int .i64 now] w fun r w' => r = .returned (err 4) ∧ Below w.heap.size w w' := by
  have HS := hide (fl_zero w)
  have c2 := ht.c2
  unfold zero19 at HS
  clear ht
  go_enter Tryz.func77, Tryz.ntmps77
  go_wp2_with (refine at_storef rfl (.tmp 7) (.tmp 17) rfl rfl HS.out [] rfl ?_; intro w5 p5 on5; have HB := hide (new_below _ on5); clear p5 on5)
  go_ret
  exact ⟨rfl, HB.out⟩
set_option maxRecDepth 100000 in
set_option maxHeartbeats 2000000 in
theorem buse_range (T P F N : Nat) (p now : Int) (f : List Int) (w : World) (ht : TBl T P F N w) (hn : tc now = false)
    (hl : (plk (.map (some N)) (.int .i64 p) true).run Tryz.prog w = .ok (.tuple #[.agg (flC f), .bool true]) w) :
    Calls Tryz.prog 77 #[.pointer (some ⟨T, 0, none⟩), .int .i64 p, .int .i64 now] w fun r w' => r = .returned (err 1) ∧ Below w.heap.size w w' := by
  have HS := hide (fl_zero w)
  have HU := hide (fun W => uptoT now W)
  rw [hn] at HU
  have c2 := ht.c2
  unfold zero19 at HS
  clear ht hn
  go_enter Tryz.func77, Tryz.ntmps77
  go_wp2_with (first
    | (refine at_storef rfl (.tmp 7) (.tmp 17) rfl rfl HS.out f rfl ?_; intro w5 p5 on5; have HB := hide (new_below _ on5); clear p5 on5)
    | (go_at_call 134; (with_reducible refine (HU.out _).mono ?_); rintro e w6 ⟨rfl, hb6⟩; replace HB := hide (bt HB.out hb6); clear hb6))
  go_ret
  exact ⟨rfl, HB.out⟩
set_option maxRecDepth 100000 in
set_option maxHeartbeats 4000000 in
theorem buse_late (T P F N : Nat) (p now : Int) (b : List Int) (w : World) (ht : TBl T P F N w) (hTF : T ≠ F) (hFl : F < w.heap.size) (hn : tc now = true)
    (hl : (plk (.map (some N)) (.int .i64 p) true).run Tryz.prog w = .ok (.tuple #[.agg (flC b), .bool true]) w)
    (hf : ∀ W, Below w.heap.size w W → (flk (.map (some F)) (.agg (flC b)) false).run Tryz.prog W = .ok (.agg (bdC b)) W)
    (hu : ∀ W, Below w.heap.size w W → ∃ W', (fup (.map (some F)) (.agg (flC b)) (.agg (bdC (usd b now)))).run Tryz.prog W = .ok () W' ∧ Only F W W') (Q : World → Prop)
    (hQ : ∀ W W', Below w.heap.size w W → (fup (.map (some F)) (.agg (flC b)) (.agg (bdC (usd b now)))).run Tryz.prog W = .ok () W' → Q W') :
    Calls Tryz.prog 77 #[.pointer (some ⟨T, 0, none⟩), .int .i64 p, .int .i64 now] w fun r w' => (now < el b 22 ∧ r = .returned (err 9) ∧ Below w.heap.size w w') ∨ (¬ now < el b 22 ∧ r = .returned .nilIface ∧ Q w') := by
  have HS := hide (fl_zero w)
  have HU := hide (fun W => uptoT now W)
  rw [hn] at HU
  have c2 := ht.c2
  have HT := hide (fun W (hb : Below w.heap.size w W) => show TBl T P F N W from (hb.block T ht.lt).trans ht)
  have HL := hide hf
  have HUp := hide hu
  have HQ := hide hQ
  have HE := hide (And.intro hTF hFl)
  unfold zero19 at HS
  clear ht hn hf hu hQ hTF hFl
  go_enter Tryz.func77, Tryz.ntmps77
  go_upto_region 6 with (first
    | (refine at_storef rfl (.tmp 7) (.tmp 17) rfl rfl HS.out b rfl ?_; intro w5 p5 on5; have HB := hide (new_below _ on5); have HF := hide p5; clear p5 on5)
    | (go_at_call 134; (with_reducible refine (HU.out _).mono ?_); rintro e w6 ⟨rfl, hb6⟩; replace HB := hide (bt HB.out hb6); replace HF := hide (HF.out.kept hb6); clear hb6))
  generalize w5.heap.size = e5
  clear c2 hl HS HU w5
  rename World => w1
  have HB1 := hide (show Below w.heap.size w w1.drew from HB.out.drew)
  have HB2 := hide (show Below w.heap.size w (w1.alloc (.cells zero23 75)).drew from (bt HB.out (al_below w1 _)).drew)
  have HF2 := hide (show FlIn w.heap.size b (w1.alloc (.cells zero23 75)).drew from HF.out.kept (al_below w1 _).drew)
  obtain ⟨w5, hst, p5, on5⟩ := (bd_zero' w1).held b
  have HB5 := hide (on5.below HB2.out HB.out.size)
  have HP5 := hide p5
  have HK := hide (show ∀ W', Below w.heap.size w W' → FlIn w.heap.size b W' → W'.cell? ⟨T, 1, none⟩ = some (.map (some F)) ∧ (fload (.pointer (some ⟨w.heap.size, 0, none⟩))).run Tryz.prog W' = .ok (.agg (flC b)) W' ∧ (flk (.map (some F)) (.agg (flC b)) false).run Tryz.prog W' = .ok (.agg (bdC b)) W' from fun W' h1 h2 => ⟨(HT.out W' h1).c1, h2.fl, HL.out W' h1⟩)
  have HF5 := hide (show FlIn w.heap.size b w5 from (on5.2.2.2.2 _ (by have := HF.out.lt; omega)).trans HF2.out)
  have HD := hide (show w.heap.size < w1.heap.size from HF.out.lt)
  unfold zero23 at HB2 HF2 hst
  clear on5 p5 HL
  obtain ⟨c1, g2, k2⟩ := HK.out _ HB1.out HF.out
  go_cut [9] from 9 to 33 (fun u wx => ∃ D, u = .pointer (some ⟨D, 0, none⟩) ∧ Hid (w.heap.size < D) ∧ Hid (Below w.heap.size w wx) ∧ Hid (FlIn w.heap.size b wx) ∧ Hid (BdIn D b wx))
  case first =>
    go_region_held3 (fun W' => W'.cell? ⟨T, 1, none⟩ = some (.map (some F)) ∧ (fload (.pointer (some ⟨w.heap.size, 0, none⟩))).run Tryz.prog W' = .ok (.agg (flC b)) W' ∧ (flk (.map (some F)) (.agg (flC b)) false).run Tryz.prog W' = .ok (.agg (bdC b)) W')
      (first
        | exact HK.out _ HB1.out HF.out
        | exact HK.out _ HB2.out HF2.out
        | exact HK.out _ HB5.out HF5.out
        | go_keep)
      (fail)
    all_goals
      go_wp2_with fail
      go_meet
      exact ⟨_, rfl, HD, HB5, HF5, HP5⟩
  case rest =>
    clear HB1 HB2 HF2 hst HB5 HP5 HF5 HK c1 g2 k2 HD HB HF
    obtain ⟨D, rfl, HD, HB, HF, HP⟩ := hcut
    have c22 := HP.out.cell 22 (by omega)
    have fz : wc.frozen? ⟨D, 22, none⟩ = false := by have := HP.out; unfold BdIn at this; simp [World.frozen?, this]
    obtain ⟨y, hy⟩ : ∃ y, el b 22 = y := ⟨_, rfl⟩
    rw [hy] at c22
    have HY := hide hy
    clear hy
    by_cases hlt : now < y
    · go_wp2
      go_ret
      exact .inl ⟨by rw [HY.out]; exact hlt, rfl, HB.out⟩
    · go_upto_region 10 with fail
      obtain ⟨p2, on2⟩ := HP.out.set22 now
      generalize wc.setCell _ _ = wt at p2 on2 ⊢
      have HB2 := hide (show Below w.heap.size w wt.drew from (on2.below HB.out (Nat.le_of_lt HD.out)).drew)
      have HF2 := hide (show FlIn w.heap.size b wt.drew from (on2.2.2.2.2 _ (by have := HD.out; omega)).trans HF.out)
      have HP2 := hide (show BdIn D (usd b now) wt.drew from p2)
      obtain ⟨w7, hst, on7⟩ := HUp.out wt.drew HB2.out
      have HEnd := hide (HQ.out _ _ HB2.out hst)
      have HK := hide (show ∀ W', TBl T P F N W' → FlIn w.heap.size b W' → BdIn D (usd b now) W' → W'.cell? ⟨T, 1, none⟩ = some (.map (some F)) ∧ (fload (.pointer (some ⟨w.heap.size, 0, none⟩))).run Tryz.prog W' = .ok (.agg (flC b)) W' ∧ (bload (.pointer (some ⟨D, 0, none⟩))).run Tryz.prog W' = .ok (.agg (bdC (usd b now))) W' from fun W' h1 h2 h3 => ⟨h1.c1, h2.fl, h3.bl⟩)
      have HK2 := hide (HK.out _ (HT.out _ HB2.out) HF2.out HP2.out)
      have HK7 := hide (HK.out w7 ((on7.2.2.2.2 T HE.out.1).trans (HT.out _ HB2.out)) ((on7.2.2.2.2 _ (by have := HE.out.2; omega)).trans HF2.out) ((on7.2.2.2.2 D (by have := HE.out.2; have := HD.out; omega)).trans HP2.out))
      obtain ⟨c1, g2, g3⟩ := HK2.out
      clear p2 on2 on7 c22 fz HB HF HP HK HUp HQ HT HE HD
      go_region_held3 (fun W' => W'.cell? ⟨T, 1, none⟩ = some (.map (some F)) ∧ (fload (.pointer (some ⟨w.heap.size, 0, none⟩))).run Tryz.prog W' = .ok (.agg (flC b)) W' ∧ (bload (.pointer (some ⟨D, 0, none⟩))).run Tryz.prog W' = .ok (.agg (bdC (usd b now))) W')
        (first
          | exact HK2.out
          | exact HK7.out
          | go_keep)
        (fail)
      all_goals
        go_wp2_with fail
        go_ret
        exact .inr ⟨by rw [HY.out]; exact hlt, rfl, HEnd.out⟩
set_option maxRecDepth 100000 in
theorem tb_use : JUse TB := by
  rintro v m ws ts bs O w p now e bs' hm hl hb hT hu
  have hT0 := hT
  obtain ⟨T, P, BB, F, N, ow, rfl, h, ha, rfl⟩ := hT
  have hN := h.2.2.2.1
  have hF := fun W (hW : Below w.heap.size w W) => h.2.2.1.same (hW.block F h.2.2.1.lt)
  rcases hu with ⟨h1, rfl, rfl⟩ | ⟨k, h1, h2, rfl, rfl⟩ | ⟨k, h1, h2, h3, rfl, hbs⟩ | ⟨k, h1, h2, h3, rfl, hbs⟩
  · exact (buse_none T P F N p now w h.1 (hN.pno h1)).mono fun _ _ ⟨e1, e2⟩ => ⟨e1, TQ.of tb_kept hT0 e2⟩
  · exact (buse_range T P F N p now _ w h.1 h2 (hN.pyes h1)).mono fun _ _ ⟨e1, e2⟩ => ⟨e1, TQ.of tb_kept hT0 e2⟩
  all_goals
    obtain ⟨k1, k2, k3⟩ := prtY h1
    have hne := h.ne
    have hc := buse_late T P F N p now (bs.getD k []) w h.1 hne.1.2.2.1 h.2.2.1.lt h2 (hN.pyes h1) (fun W hW => (hF W hW).fmem k2) (fun W hW => by obtain ⟨W', a1, _, a3⟩ := (hF W hW).used k1 now; exact ⟨W', a1, a3⟩) (fun W' => TQ TB (.pointer (some ⟨T, 0, none⟩)) m ws ts (bs.set k (usd (bs.getD k []) now)) (fun g => g = T ∨ g = P ∨ g = BB ∨ g = F ∨ g = N) w W') (fun W W' hW hr => by
      obtain ⟨W'', a1, a2, a3⟩ := (hF W hW).used k1 now
      have : W' = W'' := by rw [a1] at hr; injection hr with _ hr; exact hr.symm
      subst this
      have hc := h.kept hW
      refine ⟨_, ⟨T, P, BB, F, N, ow, rfl, ⟨(a3.2.2.2.2 T hne.1.2.2.1).trans hc.1, ⟨(a3.2.2.2.2 P hne.2.1.2.1).trans hc.2.1.1, hc.2.1.2.same (a3.2.2.2.2 BB hne.2.2.1)⟩, a2, (hc.2.2.2.1.same (a3.2.2.2.2 N (fun e => hne.2.2.2.2 e.symm))).pused k1 now, hne.2.2.2.2⟩, ha, rfl⟩, (Fr.of hW).trans (a3.fr (.inr (.inr (.inr (.inl rfl))))), fun _ e => .inl e⟩)
    refine hc.mono ?_
    rintro r w' (⟨h5, rfl, h6⟩ | ⟨h5, rfl, h6⟩)
    · first
        | exact ⟨rfl, by rw [hbs]; exact TQ.of tb_kept hT0 h6⟩
        | exact absurd h5 h3
    · first
        | exact ⟨rfl, by rw [hbs]; exact h6⟩
        | exact absurd h3 h5
end Go.Proofs.YtkhahbghmdccaaaGreatDoor
