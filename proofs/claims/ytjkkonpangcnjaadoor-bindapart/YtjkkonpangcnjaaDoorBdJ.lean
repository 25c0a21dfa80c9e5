/- What is asked of the program's table of binds, whatever it is made of; the document's own table in the same form. -/
import Derived.Test.YtjkkonpangcnjaaDoorBdF
import Derived.Test.YtjkkonpangcnjaaDoorBdG
import Derived.Test.YtjkkonpangcnjaaDoorBdH
import Derived.Test.YtjkkonpangcnjaaDoorBdI
import Derived.Test.YtjkkonpangcnjaaDoorPoTell
import Derived.Test.YtjkkonpangcnjaaDoorPoStep
namespace Go.Proofs.YtjkkonpangcnjaaDoor
open Go.RowKit

/-- what holds of a bind: its flow may be, its port is taken by its client, when and whither. -/
def Gb (m : Nat) (ws : Nat → List Int) (ts : Nat → Bool) (b : List Int) : Prop := okf b = true ∧ (∃ i : Nat, i < 8 * m ∧ el b 19 = 1024 + (i : Int) ∧ ts i = true ∧ sixC (ws i) = sixC (cli b)) ∧ tc (el b 22) = true ∧ fr (el b 20) = true ∧ wd (el b 21) = true
/-- what holds of a table: its binds rise by their ports, no two are of one flow, and each port that is taken has one. -/
def BI (m : Nat) (ws : Nat → List Int) (ts : Nat → Bool) (bs : List (List Int)) : Prop := (∀ b ∈ bs, Gb m ws ts b) ∧ bs.Pairwise (fun a b => el a 19 < el b 19) ∧ bs.Pairwise (fun a b => eqf a b = false) ∧ ∀ i, i < 8 * m → ts i = true → ∃ b ∈ bs, el b 19 = 1024 + (i : Int)
/-- a new bind is made, or not. -/
def Mk (m : Nat) (ws : Nat → List Int) (ts : Nat → Bool) (bs : List (List Int)) (f : List Int) (back far now : Int) (x : List Int) (e : Int) (ws' : Nat → List Int) (ts' : Nat → Bool) (bs' : List (List Int)) : Prop :=
  (okf f = false ∧ x = [] ∧ e = 1 ∧ ws' = ws ∧ ts' = ts ∧ bs' = bs) ∨
  (okf f = true ∧ (fr back && wd far && tc now) = false ∧ x = [] ∧ e = 1 ∧ ws' = ws ∧ ts' = ts ∧ bs' = bs) ∨
  (okf f = true ∧ (fr back && wd far && tc now) = true ∧ (∃ k, fnd bs f = some k) ∧ x = [] ∧ e = 8 ∧ ws' = ws ∧ ts' = ts ∧ bs' = bs) ∨
  (okf f = true ∧ (fr back && wd far && tc now) = true ∧ fnd bs f = none ∧ tk ws ts (cli f) (8 * m) = none ∧ x = [] ∧ e = 3 ∧ ws' = ws ∧ ts' = ts ∧ bs' = bs) ∨
  (okf f = true ∧ (fr back && wd far && tc now) = true ∧ fnd bs f = none ∧ ∃ i, tk ws ts (cli f) (8 * m) = some i ∧ x = mkb f (1024 + (i : Int)) back far now ∧ e = 0 ∧ ws' = upd ws i (cli f) ∧ ts' = upd ts i true ∧ bs' = ins x bs)
theorem mk_total (m : Nat) (ws : Nat → List Int) (ts : Nat → Bool) (bs : List (List Int)) (f : List Int) (back far now : Int) : ∃ x e ws' ts' bs', Mk m ws ts bs f back far now x e ws' ts' bs' := by
  cases h1 : okf f
  · exact ⟨_, _, _, _, _, .inl ⟨h1, rfl, rfl, rfl, rfl, rfl⟩⟩
  · cases h2 : (fr back && wd far && tc now)
    · exact ⟨_, _, _, _, _, .inr (.inl ⟨h1, h2, rfl, rfl, rfl, rfl, rfl⟩)⟩
    · cases h3 : fnd bs f with
      | some k => exact ⟨_, _, _, _, _, .inr (.inr (.inl ⟨h1, h2, ⟨k, h3⟩, rfl, rfl, rfl, rfl, rfl⟩))⟩
      | none =>
        cases h4 : tk ws ts (cli f) (8 * m) with
        | none => exact ⟨_, _, _, _, _, .inr (.inr (.inr (.inl ⟨h1, h2, h3, h4, rfl, rfl, rfl, rfl, rfl⟩)))⟩
        | some i => exact ⟨_, _, _, _, _, .inr (.inr (.inr (.inr ⟨h1, h2, h3, i, h4, rfl, rfl, rfl, rfl, rfl⟩)))⟩
/-- a bind is used, or not. -/
def Us (bs : List (List Int)) (p now : Int) (e : Int) (bs' : List (List Int)) : Prop :=
  (prt bs p = none ∧ e = 4 ∧ bs' = bs) ∨ (∃ k, prt bs p = some k ∧ tc now = false ∧ e = 1 ∧ bs' = bs) ∨ (∃ k, prt bs p = some k ∧ tc now = true ∧ now < el (bs.getD k []) 22 ∧ e = 9 ∧ bs' = bs) ∨ (∃ k, prt bs p = some k ∧ tc now = true ∧ ¬ now < el (bs.getD k []) 22 ∧ e = 0 ∧ bs' = bs.set k (usd (bs.getD k []) now))
theorem us_total (bs : List (List Int)) (p now : Int) : ∃ e bs', Us bs p now e bs' := by
  cases h1 : prt bs p with
  | none => exact ⟨_, _, .inl ⟨h1, rfl, rfl⟩⟩
  | some k =>
    cases h2 : tc now
    · exact ⟨_, _, .inr (.inl ⟨k, h1, h2, rfl, rfl⟩)⟩
    · by_cases h3 : now < el (bs.getD k []) 22
      · exact ⟨_, _, .inr (.inr (.inl ⟨k, h1, h2, h3, rfl, rfl⟩))⟩
      · exact ⟨_, _, .inr (.inr (.inr ⟨k, h1, h2, h3, rfl, rfl⟩))⟩
/-- the bind of a kind at a port. -/
def Nr (bs : List (List Int)) (kind p : Int) (x : List Int) (e : Int) : Prop :=
  (prt bs p = none ∧ x = [] ∧ e = 4) ∨ (∃ k, prt bs p = some k ∧ (el (bs.getD k []) 0 == kind) = false ∧ x = [] ∧ e = 4) ∨ (∃ k, prt bs p = some k ∧ (el (bs.getD k []) 0 == kind) = true ∧ x = bs.getD k [] ∧ e = 0)
theorem nr_total (bs : List (List Int)) (kind p : Int) : ∃ x e, Nr bs kind p x e := by
  cases h1 : prt bs p with
  | none => exact ⟨_, _, .inl ⟨h1, rfl, rfl⟩⟩
  | some k =>
    cases h2 : el (bs.getD k []) 0 == kind
    · exact ⟨_, _, .inr (.inl ⟨k, h1, h2, rfl, rfl⟩)⟩
    · exact ⟨_, _, .inr (.inr ⟨k, h1, h2, rfl, rfl⟩)⟩
/-- the bind of a flow. -/
def Fd (bs : List (List Int)) (f : List Int) (x : List Int) (e : Int) : Prop :=
  (okf f = false ∧ x = [] ∧ e = 1) ∨ (okf f = true ∧ fnd bs f = none ∧ x = [] ∧ e = 4) ∨ (okf f = true ∧ ∃ k, fnd bs f = some k ∧ x = bs.getD k [] ∧ e = 0)
theorem fd_total (bs : List (List Int)) (f : List Int) : ∃ x e, Fd bs f x e := by
  cases h1 : okf f
  · exact ⟨_, _, .inl ⟨h1, rfl, rfl⟩⟩
  · cases h2 : fnd bs f with
    | none => exact ⟨_, _, .inr (.inl ⟨h1, h2, rfl, rfl⟩)⟩
    | some k => exact ⟨_, _, .inr (.inr ⟨h1, k, h2, rfl, rfl⟩)⟩
/-- behind a call of a table (TP: a pointer, how many blocks, whose ports are, which are taken, the binds, and in which blocks it lies). -/
def TQ (TP : Value → Nat → (Nat → List Int) → (Nat → Bool) → List (List Int) → (Nat → Prop) → World → Prop) (v : Value) (m : Nat) (ws : Nat → List Int) (ts : Nat → Bool) (bs : List (List Int)) (O : Nat → Prop) (w w' : World) : Prop := ∃ O', TP v m ws ts bs O' w' ∧ Fr O w w' ∧ ∀ g, O' g → O g ∨ w.heap.size ≤ g
def JKept (TP : Value → Nat → (Nat → List Int) → (Nat → Bool) → List (List Int) → (Nat → Prop) → World → Prop) : Prop := ∀ v m ws ts bs O w, TP v m ws ts bs O w → (∀ g, O g → g < w.heap.size) ∧ ∀ w', w.heap.size ≤ w'.heap.size → (∀ g, O g → w'.heap[g]? = w.heap[g]?) → TP v m ws ts bs O w'
def JCheck : Prop := ∀ f w, Calls Tryd.prog 9 #[.agg (flC f)] w fun e w' => e = .returned (ev (fe (okf f))) ∧ Below w.heap.size w w'
def JNew (TP : Value → Nat → (Nat → List Int) → (Nat → Bool) → List (List Int) → (Nat → Prop) → World → Prop) : Prop :=
  (∀ (b : Int) w, (b < 1 ∨ 16 < b) → Calls Tryd.prog 5 #[.int .i64 b] w fun e w' => (∃ v, e = .returned (.tuple #[v, err 1])) ∧ Below w.heap.size w w') ∧
  (∀ (m : Nat) w, 1 ≤ m → m ≤ 16 → Calls Tryd.prog 5 #[.int .i64 m] w fun e w' => ∃ v O, e = .returned (.tuple #[v, .nilIface]) ∧ TP v m (fun _ => []) (fun _ => false) [] O w' ∧ (∀ g, O g → w.heap.size ≤ g) ∧ Below w.heap.size w w')
def JMake (TP : Value → Nat → (Nat → List Int) → (Nat → Bool) → List (List Int) → (Nat → Prop) → World → Prop) : Prop := ∀ v m ws ts bs O w f back far now x e ws' ts' bs', m ≤ 16 → bs.length ≤ 128 → BI m ws ts bs → TP v m ws ts bs O w → Mk m ws ts bs f back far now x e ws' ts' bs' →
  Calls Tryd.prog 11 #[v, .agg (flC f), .int .i64 back, .int .i64 far, .int .i64 now] w fun r w' => r = .returned (.tuple #[.agg (bdC x), ev e]) ∧ TQ TP v m ws' ts' bs' O w w'
def JUse (TP : Value → Nat → (Nat → List Int) → (Nat → Bool) → List (List Int) → (Nat → Prop) → World → Prop) : Prop := ∀ v m ws ts bs O w p now e bs', m ≤ 16 → bs.length ≤ 128 → BI m ws ts bs → TP v m ws ts bs O w → Us bs p now e bs' →
  Calls Tryd.prog 13 #[v, .int .i64 p, .int .i64 now] w fun r w' => r = .returned (ev e) ∧ TQ TP v m ws ts bs' O w w'
def JNear (TP : Value → Nat → (Nat → List Int) → (Nat → Bool) → List (List Int) → (Nat → Prop) → World → Prop) : Prop := ∀ v m ws ts bs O w kind p x e, m ≤ 16 → bs.length ≤ 128 → BI m ws ts bs → TP v m ws ts bs O w → Nr bs kind p x e →
  Calls Tryd.prog 19 #[v, .int .i64 kind, .int .i64 p] w fun r w' => r = .returned (.tuple #[.agg (bdC x), ev e]) ∧ TQ TP v m ws ts bs O w w'
def JFind (TP : Value → Nat → (Nat → List Int) → (Nat → Bool) → List (List Int) → (Nat → Prop) → World → Prop) : Prop := ∀ v m ws ts bs O w f x e, m ≤ 16 → bs.length ≤ 128 → BI m ws ts bs → TP v m ws ts bs O w → Fd bs f x e →
  Calls Tryd.prog 21 #[v, .agg (flC f)] w fun r w' => r = .returned (.tuple #[.agg (bdC x), ev e]) ∧ TQ TP v m ws ts bs O w w'
def JExpire (TP : Value → Nat → (Nat → List Int) → (Nat → Bool) → List (List Int) → (Nat → Prop) → World → Prop) : Prop := ∀ v m ws ts bs O w now, m ≤ 16 → bs.length ≤ 128 → BI m ws ts bs → TP v m ws ts bs O w →
  (tc now = false → Calls Tryd.prog 16 #[v, .int .i64 now] w fun r w' => ∃ b, r = .returned (.tuple #[b, err 1]) ∧ BdRow 0 w' b [] ∧ TQ TP v m ws ts bs O w w') ∧
  (tc now = true → Calls Tryd.prog 16 #[v, .int .i64 now] w fun r w' => ∃ b, r = .returned (.tuple #[b, .nilIface]) ∧ BdRow 0 w' b (es now bs ts bs.length).1 ∧ TQ TP v m ws (es now bs ts bs.length).2.2 (es now bs ts bs.length).2.1 O w w')
def JAll (TP : Value → Nat → (Nat → List Int) → (Nat → Bool) → List (List Int) → (Nat → Prop) → World → Prop) : Prop := ∀ v m ws ts bs O w, m ≤ 16 → bs.length ≤ 128 → BI m ws ts bs → TP v m ws ts bs O w →
  Calls Tryd.prog 22 #[v] w fun r w' => ∃ b, r = .returned b ∧ BdRow 0 w' b bs ∧ TQ TP v m ws ts bs O w w'
/-- all of it. -/
def JI (TP : Value → Nat → (Nat → List Int) → (Nat → Bool) → List (List Int) → (Nat → Prop) → World → Prop) : Prop := JKept TP ∧ JCheck ∧ JNew TP ∧ JMake TP ∧ JUse TP ∧ JNear TP ∧ JFind TP ∧ JExpire TP ∧ JAll TP
/-- the document's own table, in this form. -/
def DT (B : Nat) (m : Nat) (ws : Nat → List Int) (ts : Nat → Bool) (bs : List (List Int)) (O : Nat → Prop) (w : World) : Prop := ∃ P BW BT v, RT B P BW BT (8 * m) ws ts v bs w ∧ O = fun g => g = B ∨ g = P ∨ g = BW ∨ g = BT ∨ v.ownBlock = some g
def DQ (B : Nat) (m : Nat) (ws : Nat → List Int) (ts : Nat → Bool) (bs : List (List Int)) (O : Nat → Prop) (w w' : World) : Prop := ∃ O', DT B m ws ts bs O' w' ∧ Fr O w w' ∧ ∀ g, O' g → O g ∨ w.heap.size ≤ g
theorem DT.lt {B m : Nat} {ws : Nat → List Int} {ts : Nat → Bool} {bs : List (List Int)} {O : Nat → Prop} {w : World} (h : DT B m ws ts bs O w) (g : Nat) (hO : O g) : g < w.heap.size := by
  obtain ⟨P, BW, BT, v, h1, rfl⟩ := h
  rcases hO with rfl | rfl | rfl | rfl | e
  · exact h1.lt
  · exact h1.2.1.lt
  · exact h1.2.1.2.1.lt
  · exact h1.2.1.2.2.lt
  · exact (owns_lt h1.2.2 g e).1
theorem DT.same {B m : Nat} {ws : Nat → List Int} {ts : Nat → Bool} {bs : List (List Int)} {O : Nat → Prop} {w w' : World} (h : DT B m ws ts bs O w) (hs : ∀ g, O g → w'.heap[g]? = w.heap[g]?) : DT B m ws ts bs O w' := by
  obtain ⟨P, BW, BT, v, h1, rfl⟩ := h
  exact ⟨P, BW, BT, v, ⟨(hs B (.inl rfl)).trans h1.1, ⟨(hs P (.inr (.inl rfl))).trans h1.2.1.1, h1.2.1.2.1.same (hs BW (.inr (.inr (.inl rfl)))), h1.2.1.2.2.same (hs BT (.inr (.inr (.inr (.inl rfl)))))⟩, owns_same h1.2.2 (fun g e => hs g (.inr (.inr (.inr (.inr e)))))⟩, rfl⟩
theorem DQ.of {B m : Nat} {ws : Nat → List Int} {ts : Nat → Bool} {bs : List (List Int)} {O : Nat → Prop} {w w' : World} (h : DT B m ws ts bs O w) (hb : Below w.heap.size w w') : DQ B m ws ts bs O w w' :=
  ⟨O, h.same (fun g hO => hb.block g (h.lt g hO)), Fr.of hb, fun _ e => .inl e⟩
theorem dmake {B m : Nat} {ws : Nat → List Int} {ts : Nat → Bool} {bs : List (List Int)} {O : Nat → Prop} {w : World} (h : DT B m ws ts bs O w) (hm : m ≤ 16) (hl : bs.length ≤ 128) {f : List Int} {back far now : Int} {x : List Int} {e : Int} {ws' : Nat → List Int} {ts' : Nat → Bool} {bs' : List (List Int)} (hk : Mk m ws ts bs f back far now x e ws' ts' bs') :
    Calls Tryd.prog 10 #[.pointer (some ⟨B, 0, none⟩), .agg (flC f), .int .i64 back, .int .i64 far, .int .i64 now] w fun r w' => r = .returned (.tuple #[.agg (bdC x), .int .i64 e]) ∧ DQ B m ws' ts' bs' O w w' := by
  have hD := h
  obtain ⟨P, BW, BT, v, h1, rfl⟩ := h
  rcases hk with ⟨k1, rfl, rfl, rfl, rfl, rfl⟩ | ⟨k1, k2, rfl, rfl, rfl, rfl, rfl⟩ | ⟨k1, k2, ⟨k, k3⟩, rfl, rfl, rfl, rfl, rfl⟩ | ⟨k1, k2, k3, k4, rfl, rfl, rfl, rfl, rfl⟩ | ⟨k1, k2, k3, i, k4, rfl, rfl, rfl, rfl, rfl⟩
  · exact (rmake_flow B P BW BT (8 * m) ws' ts' v bs' f back far now w h1 k1).mono fun r w' ⟨e1, e2⟩ => ⟨e1, DQ.of hD e2⟩
  · exact (rmake_range B P BW BT (8 * m) ws' ts' v bs' f back far now w h1 k1 k2).mono fun r w' ⟨e1, e2⟩ => ⟨e1, DQ.of hD e2⟩
  · exact (rmake_clash B P BW BT (8 * m) ws' ts' v bs' f back far now w h1 (by omega) k1 k2 k k3).mono fun r w' ⟨e1, e2⟩ => ⟨e1, DQ.of hD e2⟩
  · exact (rmake_full B P BW BT m ws' ts' v bs' f back far now w h1 hm (by omega) k1 k2 k3 k4).mono fun r w' ⟨e1, e2, e3⟩ => ⟨e1, _, ⟨P, BW, BT, v, e2, rfl⟩, e3.mono (fun g e => by rcases e with e | e | e; exact .inl e; exact .inr (.inr (.inl e)); exact .inr (.inr (.inr (.inl e)))), fun _ e => .inl e⟩
  · refine (rmake_ok B P BW BT m ws ts v bs f back far now w h1 hm (by omega) k1 k2 k3 i k4).mono ?_
    rintro r w' ⟨v', e1, e2, e3, e4⟩
    refine ⟨e1, _, ⟨P, BW, BT, v', e2, rfl⟩, e3.mono (fun g e => by rcases e with e | e | e; exact .inl e; exact .inr (.inr (.inl e)); exact .inr (.inr (.inr (.inl e)))), fun g e => ?_⟩
    rcases e with e | e | e | e | e
    · exact .inl (.inl e)
    · exact .inl (.inr (.inl e))
    · exact .inl (.inr (.inr (.inl e)))
    · exact .inl (.inr (.inr (.inr (.inl e))))
    · exact .inr (e4 g e)
theorem duse {B m : Nat} {ws : Nat → List Int} {ts : Nat → Bool} {bs : List (List Int)} {O : Nat → Prop} {w : World} (h : DT B m ws ts bs O w) (hl : bs.length ≤ 128) {p now e : Int} {bs' : List (List Int)} (hk : Us bs p now e bs') :
    Calls Tryd.prog 12 #[.pointer (some ⟨B, 0, none⟩), .int .i64 p, .int .i64 now] w fun r w' => r = .returned (.int .i64 e) ∧ DQ B m ws ts bs' O w w' := by
  have hD := h
  obtain ⟨P, BW, BT, v, h1, rfl⟩ := h
  rcases hk with ⟨k1, rfl, rfl⟩ | ⟨k, k1, k2, rfl, rfl⟩ | ⟨k, k1, k2, k3, rfl, rfl⟩ | ⟨k, k1, k2, k3, rfl, rfl⟩
  · exact (ruse_none B P BW BT (8 * m) ws ts v bs' p now w h1 (by omega) k1).mono fun r w' ⟨e1, e2⟩ => ⟨e1, by rw [e2]; exact DQ.of hD (Below.refl _ _)⟩
  · exact (ruse_range B P BW BT (8 * m) ws ts v bs' p now k w h1 (by omega) k1 k2).mono fun r w' ⟨e1, e2⟩ => ⟨e1, by rw [e2]; exact DQ.of hD (Below.refl _ _)⟩
  · exact (ruse_state B P BW BT (8 * m) ws ts v bs' p now k w h1 (by omega) k1 k2 k3).mono fun r w' ⟨e1, e2⟩ => ⟨e1, by rw [e2]; exact DQ.of hD (Below.refl _ _)⟩
  · exact (ruse_ok B P BW BT (8 * m) ws ts v bs p now k w h1 (by omega) k1 k2 k3).mono fun r w' ⟨e1, e2, e3⟩ => ⟨e1, _, ⟨P, BW, BT, v, e2, rfl⟩, e3.mono (fun g e => .inr (.inr (.inr (.inr e)))), fun _ e => .inl e⟩
theorem mem_getD {bs : List (List Int)} {k : Nat} (hk : k < bs.length) : bs.getD k [] ∈ bs := by
  rw [List.getD_eq_getElem?_getD, List.getElem?_eq_getElem hk]
  exact List.getElem_mem hk
theorem okf_kind {f : List Int} (h : okf f = true) : el f 0 = 6 ∨ el f 0 = 17 := by
  unfold okf at h
  simp only [Bool.and_eq_true, Bool.or_eq_true, beq_iff_eq] at h
  exact h.1.1.1.1
theorem BI.tame {m : Nat} {ws : Nat → List Int} {ts : Nat → Bool} {bs : List (List Int)} (h : BI m ws ts bs) : Tame (8 * m) bs := by
  intro k hk
  obtain ⟨g1, ⟨i, hi, g2, _⟩, g3, _⟩ := h.1 _ (mem_getD hk)
  exact ⟨okf_kind g1, ⟨i, hi, g2⟩, g3⟩
theorem dexpire {B m : Nat} {ws : Nat → List Int} {ts : Nat → Bool} {bs : List (List Int)} {O : Nat → Prop} {w : World} (h : DT B m ws ts bs O w) (hm : m ≤ 16) (hl : bs.length ≤ 128) (hb : BI m ws ts bs) {now : Int} (ht : tc now = true) :
    Calls Tryd.prog 15 #[.pointer (some ⟨B, 0, none⟩), .int .i64 now] w fun r w' => ∃ v O', r = .returned v ∧ OwB w.heap.size w' v (es now bs ts bs.length).1 ∧ DT B m ws (es now bs ts bs.length).2.2 (es now bs ts bs.length).2.1 O' w' ∧ Fr O w w' ∧ (∀ g, O' g → O g ∨ w.heap.size ≤ g) ∧ ∀ g, v.ownBlock = some g → ¬ O' g := by
  obtain ⟨P, BW, BT, v, h1, rfl⟩ := h
  refine (rexpire_any B P BW BT (8 * m) ws ts v bs now w h1 (by omega) (by omega) hb.tame ht).mono ?_
  rintro r w' ⟨vg, vr, e1, e2, e3, e4, e5, e6⟩
  have n := e2.ne
  refine ⟨vg, _, e1, e3, ⟨P, BW, BT, vr, e2, rfl⟩, e5.mono (fun g e => by rcases e with e | e; exact .inl e; exact .inr (.inr (.inr (.inl e)))), fun g e => ?_, fun g e hO => ?_⟩
  · rcases e with e | e | e | e | e
    · exact .inl (.inl e)
    · exact .inl (.inr (.inl e))
    · exact .inl (.inr (.inr (.inl e)))
    · exact .inl (.inr (.inr (.inr (.inl e))))
    · exact .inr (e6 g e)
  · have hge := (owns_lt e3 g e).2
    rcases hO with rfl | rfl | rfl | rfl | e'
    · exact absurd h1.lt (by omega)
    · exact absurd h1.2.1.lt (by omega)
    · exact absurd h1.2.1.2.1.lt (by omega)
    · exact absurd h1.2.1.2.2.lt (by omega)
    · exact e4 g e e'
end Go.Proofs.YtjkkonpangcnjaaDoor
