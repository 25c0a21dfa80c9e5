/- The document's own FlowOf. -/
import Derived.Test.YtdeofopandobhaaDoorYkH
namespace Go.Proofs.YtdeofopandobhaaDoor
open Go.RowKit

theorem rsixat_at (g off len cap : Nat) (zs : List Int) (w : World) (j c : Nat) (hr : Row8 w (some ⟨g, off, none⟩) len cap zs) (h1 : j + 16 ≤ len) :
    Calls Tryd.prog 19 #[.slice (some ⟨g, off + j, none⟩) 16 c] w fun e w' => e = .returned (.agg (sixC (adr zs j))) ∧ Below w.heap.size w w' := by
  have h := hr.part j (j + 16) (by omega) h1 (some ⟨g, off + j, none⟩) c (fun b o _ e => by cases e; rfl) (fun e => by cases e)
  rw [show j + 16 - j = 16 by omega] at h
  have := rsixat_any g (off + j) c _ w h
  rw [adr_part] at this
  exact this
/-- parts of a slice, held shut. -/
def slq (t : TypeId) (x : Value) (lo hi mx : Option Value) : Sem Value := Instr.sliceAt t x lo hi mx
theorem slq_shut (t : TypeId) (x : Value) (lo hi mx : Option Value) : Instr.sliceAt t x lo hi mx = slq t x lo hi mx := rfl
theorem sl16 (g off n ca : Nat) (hq : 52 ≤ ca) (w : World) : (slq 26 (.slice (some ⟨g, off, none⟩) n ca) (some (.int .i64 16)) (some (.int .i64 32)) none).run Tryd.prog w = .ok (.slice (some ⟨g, off + 16, none⟩) 16 (ca - 16)) w := by
  have j1 : (32 : Int) ≤ (ca : Int) := by omega
  have j2 : ca ≠ 16 := by omega
  have u := Tryd.underlying26
  have z := Tryd.sizeOf5
  unfold slq
  go_simp
theorem sl32 (g off n ca : Nat) (hq : 52 ≤ ca) (w : World) : (slq 26 (.slice (some ⟨g, off, none⟩) n ca) (some (.int .i64 32)) (some (.int .i64 48)) none).run Tryd.prog w = .ok (.slice (some ⟨g, off + 32, none⟩) 16 (ca - 32)) w := by
  have j1 : (48 : Int) ≤ (ca : Int) := by omega
  have j2 : ca ≠ 32 := by omega
  have u := Tryd.underlying26
  have z := Tryd.sizeOf5
  unfold slq
  go_simp
theorem sl52 (g off n ca : Nat) (hq : 52 ≤ ca) (w : World) : (slq 26 (.slice (some ⟨g, off, none⟩) n ca) none (some (.int .i64 52)) none).run Tryd.prog w = .ok (.slice (some ⟨g, off, none⟩) 52 ca) w := by
  have j1 : (52 : Int) ≤ (ca : Int) := by omega
  have u := Tryd.underlying26
  have z := Tryd.sizeOf5
  unfold slq
  go_simp
def fbl (ps : Array (Nat × Value)) : Sem Value := Instr.build 25 ps
theorem fbl_shut (ps : Array (Nat × Value)) : Instr.build 25 ps = fbl ps := rfl
theorem fbl0 (w : World) : (fbl #[]).run Tryd.prog w = .ok (.agg (flC [])) w := by kernel_rfl
/-- a flow of two addresses. -/
def f0 (s d : List Int) : List Int := [6, el s 0, el s 1, el s 2, el s 3, el s 4, el s 5, el s 6, el s 7, 0, el d 0, el d 1, el d 2, el d 3, el d 4, el d 5, el d 6, el d 7, 0]
theorem fbl2 (s d : List Int) (w : World) : (fbl #[(0, .int .i64 6), (1, .agg (sixC s)), (3, .agg (sixC d))]).run Tryd.prog w = .ok (.agg (flC (f0 s d))) w := by kernel_rfl
/-- a flow's store, held shut. -/
theorem FlIn.stored {B : Nat} {b0 : List Int} {w : World} (p : FlIn B b0 w) (b : List Int) : FlIn B b (w.setRow B (flC b)) := setRow_heap w B _ _ _ (0, 0) p
def fstore (x y : Value) : Sem Unit := Instr.storeAt 25 x y
theorem fstore_shut (x y : Value) : Instr.storeAt 25 x y = fstore x y := rfl
theorem FlIn.held {B : Nat} {b0 : List Int} {w : World} (p : FlIn B b0 w) (b : List Int) :
    ∃ w', (fstore (.pointer (some ⟨B, 0, none⟩)) (.agg (flC b))).run Tryd.prog w = .ok () w' ∧ FlIn B b w' ∧ Only B w w' := by
  refine ⟨w.setRow B (flC b), ?_, p.stored b, only_setRow _ _ _⟩
  unfold fstore
  simp only [Instr.storeAt, Instr.sureAddr, Sem.run_bind, Sem.run_pure, Result.andThen_ok]
  exact run_storeVar_row w B 25 25 _ (flC b) p (by kernel_rfl) rfl (by unfold flC; simp [Value.oneCell'])
theorem at_storef {ops : Array Oper} {rest : List Oper} {o : Oper} {f : Act} {w : World} {Q : Exit → Act → World → Prop} (hgd : o.guard = none) (x y : Operand) (ho : o.op = .store 25 x y)
    {B : Nat} {b0 : List Int} (hx : f.eval x = .pointer (some ⟨B, 0, none⟩)) (p : FlIn B b0 w) (b : List Int) (hy : f.eval y = .agg (flC b))
    (hK : ∀ w', FlIn B b w' → Only B w w' → wpList Tryd.prog ops Q rest (f.put o.dst undef) w') : wpList Tryd.prog ops Q (o :: rest) f w :=
  wpList_store_row hgd 25 x y ho B _ hx hy 25 _ p (by kernel_rfl) rfl (by unfold flC; simp [Value.oneCell']) (hK _ (p.stored b) (only_setRow _ _ _))
theorem results_fl {fn : Func} {p u : Tmp} (h : fn.results = #[.cell p 25, .tmp u]) (tmps : Array Value) (w : World) (B : Nat) (b : List Int)
    (ht : tmps.getD p undef = .pointer (some ⟨B, 0, none⟩)) (hg : FlIn B b w) :
    (results fn tmps).run Tryd.prog w = .ok (.tuple #[.agg (flC b), tmps.getD u undef]) w := by
  rw [results_cell_tmp h, ht]
  have hl := run_loadVar_row (P := Tryd.prog) w B 25 25 _ (0, 0) _ hg Tryd.underlying25 rfl (by kernel_rfl)
  simp [asAddr, hl]
def zero19 : Array Value := #[.int .i64 0, .int .i64 0, .int .i64 0, .int .i64 0, .int .i64 0, .int .i64 0, .int .i64 0, .int .i64 0, .int .i64 0, .int .i64 0, .int .i64 0, .int .i64 0, .int .i64 0, .int .i64 0, .int .i64 0, .int .i64 0, .int .i64 0, .int .i64 0, .int .i64 0]
theorem fl_zero (w : World) : FlIn w.heap.size [] (w.alloc (.cells zero19 25)) := heap_alloc_new w _
/-- what is kept: the answer's block, the bytes. -/
def KO (w : World) (a : Option Addr) (len cap : Nat) (zs : List Int) (W : World) : Prop := FlIn w.heap.size [] W ∧ Row8 W a len cap zs ∧ Below w.heap.size w W
theorem KO.kept {w : World} {a : Option Addr} {len cap : Nat} {zs : List Int} {W W' : World} (h : KO w a len cap zs W) (hb : Below W.heap.size W W') : KO w a len cap zs W' := ⟨h.1.kept hb, h.2.1.below hb, bt h.2.2 hb⟩
theorem ko_new {w : World} {a : Option Addr} {len cap : Nat} {zs : List Int} (h : Row8 w a len cap zs) : KO w a len cap zs (w.alloc (.cells zero19 25)) := ⟨fl_zero w, h.below (al_below _ _), al_below _ _⟩
attribute [local go_sem ↓] slq_shut fbl_shut fload_shut
set_option maxRecDepth 100000 in
set_option maxHeartbeats 4000000 in
theorem flowof_len (a : Option Addr) (len cap : Nat) (zs : List Int) (w : World) (hr : Row8 w a len cap zs) (h : len < 52) :
    Calls Tryd.prog 9 #[.slice a len cap] w fun e w' => e = .returned (.tuple #[.agg (flC []), .int .i64 5]) ∧ Below w.heap.size w w' := by
  have HK := hide (ko_new hr)
  unfold zero19 at HK
  have fb := fbl0
  have j1 : (len : Int) < 52 := by omega
  clear hr h
  go_enter Tryd.func9, Tryd.ntmps9
  go_upto_region 1 with fail
  generalize w.alloc _ = W at HK ⊢
  go_wp2_with (refine at_storef rfl (.tmp 2) (.tmp 8) rfl rfl HK.out.1 [] rfl ?_; intro w5 p5 on5; have HB5 := hide (on5.below HK.out.2.2 (Nat.le_refl _)); replace p5 := hide p5; clear on5)
  try simp only [Exit.inBlock, Exit.then]
  refine bodyPost_ret (results_fl rfl _ _ w.heap.size [] rfl p5.out) rfl ?_
  exact ⟨rfl, HB5.out⟩
end Go.Proofs.YtdeofopandobhaaDoor
