/- Make as it is asked for. -/
import Derived.Test.YtkhahbghmdccaaaGreatJ22
import Derived.Test.YtkhahbghmdccaaaGreatJ23
import Derived.Test.YtkhahbghmdccaaaGreatJ26
import Derived.Deep.MidRow
import Derived.Laws.ResultCell
import Derived.Deep.CutBlock
import Derived.Deep.QuietTactic
import Derived.OwnWalk
import Derived.Deep.RegionHeld3
import Derived.Deep.DrawnRows
import Derived.Laws.StructEq
import Derived.Laws.AppendOwnNone
import Derived.Maps.AppendAt
import Derived.Maps.RangeWalk
import Derived.Test.YtkhahbghmdccaaaGreatProg
import Derived.WalkKit
import Derived.LaidEql
import Derived.Stop.Asserts
import Derived.RowKitTokens
import Derived.BigQuiet
import Derived.Below
import Derived.Laws.MakeOwn
import Derived.Deep.RegionLaw
namespace Go.Proofs.YtkhahbghmdccaaaGreat
open Go.RowKit
theorem ins_perm (x : List Int) (bs : List (List Int)) : (ins x bs).Perm (x :: bs) := by
  obtain ⟨p, _, h, _⟩ := ins_form x bs
  rw [h, List.singleton_append]
  refine List.perm_middle.trans ?_
  rw [List.take_append_drop]
/-- the ports have turned, nothing else. -/
theorem KM.took {w : World} {T P BB F N m : Nat} {ow ow' : Nat → List Int} {ts ts' : Nat → Bool} {bs : List (List Int)} {f : List Int} {W W' : World} (h : KM w T P BB F N m ow ts bs f W) (hp : BP P BB m ow' ts' W') (hf : Fr (fun g => g = BB) W W') : KM w T P BB F N m ow' ts' bs f W' := by
  obtain ⟨k1, k2, k3, k4, k5⟩ := h
  have n := k1.ne
  have hs := k4.2.2.2.1
  have hBB := k5 BB (.inr (.inr (.inl rfl)))
  have hk : ∀ g, g < W.heap.size → g ≠ BB → W'.heap[g]? = W.heap[g]? := fun g h1 h2 => hf.2.2.2.2 g h1 h2
  exact ⟨⟨(hk T k1.1.lt n.1.2.1).trans k1.1, hp, k1.2.2.1.same (hk F k1.2.2.1.lt (fun e => n.2.2.1 e.symm)), k1.2.2.2.1.same (hk N k1.2.2.2.1.lt (fun e => n.2.2.2.1 e.symm)), k1.2.2.2.2⟩, (hk _ k2.lt (by omega)).trans k2, (hk _ k3.lt (by omega)).trans k3, k4.trans (hf.mono (fun _ e => .inr (.inr (.inl e)))), k5⟩
/-- a new one is put into both maps. -/
theorem MP.fnew {F : Nat} {bs : List (List Int)} {w : World} (h : MP isF F (bs.map fE) w) {f : List Int} (hk : fnd bs f = none) (n back far now : Int) :
    ∃ w', (fup (.map (some F)) (.agg (flC f)) (.agg (bdC (mkb f n back far now)))).run Tryz.prog w = .ok () w' ∧ MP isF F ((ins (mkb f n back far now) bs).map fE) w' ∧ Only F w w' := by
  obtain ⟨w', h1, h2, h3⟩ := h.store_new kof Tryz.mapF (.agg (bdC (mkb f n back far now))) ⟨f, rfl⟩ (fndN hk)
  exact ⟨w', h1, h2.perm ((ins_perm (mkb f n back far now) bs).map fE).symm, h3⟩
theorem MP.pnew {N : Nat} {bs : List (List Int)} {w : World} (h : MP isI N (bs.map pE) w) {f : List Int} {n : Int} (hk : ∀ q ∈ bs.map pE, q.1 ≠ .int .i64 n) (back far now : Int) :
    ∃ w', (pup (.map (some N)) (.int .i64 n) (.agg (flC f))).run Tryz.prog w = .ok () w' ∧ MP isI N ((ins (mkb f n back far now) bs).map pE) w' ∧ Only N w w' := by
  obtain ⟨w', h1, h2, h3⟩ := h.store_new koi Tryz.mapI (.agg (flC f)) ⟨n, rfl⟩ hk
  exact ⟨w', h1, h2.perm ((ins_perm (mkb f n back far now) bs).map pE).symm, h3⟩
theorem BI.unused {m : Nat} {ws : Nat → List Int} {ts : Nat → Bool} {bs : List (List Int)} (h : BI m ws ts bs) {i : Nat} (ht : ts i = false) : ∀ q ∈ bs.map pE, q.1 ≠ .int .i64 (1024 + (i : Int)) := by
  intro q hq e
  obtain ⟨b, hb, rfl⟩ := List.mem_map.1 hq
  obtain ⟨_, ⟨j, _, h2, h3, _⟩, _⟩ := h.1 b hb
  unfold pE at e
  injection e with _ e
  have : j = i := by omega
  subst this
  rw [ht] at h3
  cases h3
set_option maxRecDepth 100000 in
theorem tb_make : JMake TB := by
  rintro v m ws ts bs O w f back far now x e ws' ts' bs' hm hl hb hT hk
  have hT0 := hT
  obtain ⟨T, P, BB, F, N, ow, rfl, h, ha, rfl⟩ := hT
  have hlk : ∀ W, KM w T P BB F N m ow ts bs f W → MP isF F (bs.map fE) W := fun W hW => hW.1.2.2.1
  rcases hk with ⟨k1, rfl, rfl, rfl, rfl, rfl⟩ | ⟨k1, k2, rfl, rfl, rfl, rfl, rfl⟩ | ⟨k1, k2, ⟨k, k3⟩, rfl, rfl, rfl, rfl, rfl⟩ | ⟨k1, k2, k3, k4, rfl, rfl, rfl, rfl, rfl⟩ | ⟨k1, k2, k3, i, k4, rfl, rfl, rfl, rfl, rfl⟩
  · exact (bmake_flow _ f back far now w k1).mono fun _ _ ⟨e1, e2⟩ => ⟨e1, TQ.of tb_kept hT0 e2⟩
  · exact (bmake_range _ f back far now w k1 k2).mono fun _ _ ⟨e1, e2⟩ => ⟨e1, TQ.of tb_kept hT0 e2⟩
  · refine (bmake_late T P BB F N m ow ts' bs' f back far now (bs'.getD k []) true w h k1 k2 (fun W hW => ((hlk W hW).fyes k3).1) 0 true ow ts' (fun e => by cases e) (fun e => by cases e) (fun _ => True) (fun e => by cases e)).mono ?_
    rintro r w' (⟨_, rfl, h1, h2⟩ | ⟨e, _⟩ | ⟨e, _⟩)
    · exact ⟨rfl, _, ⟨T, P, BB, F, N, ow, rfl, h1, ha, rfl⟩, h2, fun _ e => .inl e⟩
    · cases e
    · cases e
  · rcases tk_rm ha (cli f) with ⟨_, hr⟩ | ⟨_, _, _, _, _, _, _, hr⟩
    · refine (bmake_late T P BB F N m ow ts' bs' f back far now [] false w h k1 k2 (fun W hW => (hlk W hW).fno k3) 0 true ow ts' (fun _ W hW => (ptake_full P BB m ow ts' (cli f) W hW.1.2.1 hm (okf_cli k1) hr).mono fun _ _ ⟨e1, e2⟩ => ⟨e1, hW.kept e2⟩) (fun _ e => by cases e) (fun _ => True) (fun _ e => by cases e)).mono ?_
      rintro r w' (⟨e, _⟩ | ⟨_, _, rfl, h1, h2⟩ | ⟨_, e, _⟩)
      · cases e
      · exact ⟨rfl, _, ⟨T, P, BB, F, N, ow, rfl, h1, ha, rfl⟩, h2, fun _ e => .inl e⟩
      · cases e
    · rw [k4] at hr; cases hr
  · rcases tk_rm ha (cli f) with ⟨hr, _⟩ | ⟨k, j, hkm, hj, hmn, hr, hx, hr2⟩
    · rw [k4] at hr; cases hr
    · rw [k4] at hr2
      obtain rfl : i = 8 * k + j := Option.some.inj hr2
      have hfree := hb.unused (tk_free k4)
      refine (bmake_late T P BB F N m ow ts bs f back far now [] false w h k1 k2 (fun W hW => (hlk W hW).fno k3) (1024 + ((8 * k + j : Nat) : Int)) false (upd ow k (cli f)) (upd ts (8 * k + j) true) (fun _ W hW => (ptake_ok P BB m ow ts (cli f) k j W hW.1.2.1 hm (okf_cli k1) hr hkm hx hj).mono fun _ _ ⟨e1, e2, e3⟩ => ⟨e1, hW.took e2 e3⟩)
        (fun _ _ W hW => by
          obtain ⟨W1, a1, a2, a3⟩ := hW.1.2.2.1.fnew k3 (1024 + ((8 * k + j : Nat) : Int)) back far now
          have hN : MP isI N (bs.map pE) W1.drew := hW.1.2.2.2.1.same (a3.2.2.2.2 N (fun e => hW.1.2.2.2.2 e.symm))
          obtain ⟨W2, b1, b2, b3⟩ := hN.pnew (f := f) hfree back far now
          exact ⟨W1, W2, a1, a3, b1, b3⟩)
        (fun W' => TQ TB (.pointer (some ⟨T, 0, none⟩)) m (upd ws (8 * k + j) (cli f)) (upd ts (8 * k + j) true) (ins (mkb f (1024 + ((8 * k + j : Nat) : Int)) back far now) bs) (fun g => g = T ∨ g = P ∨ g = BB ∨ g = F ∨ g = N) w W')
        (fun _ _ W W1 W2 W3 hW r1 o1 r2 o2 o3 => by
          obtain ⟨W1', a1, a2, a3⟩ := hW.1.2.2.1.fnew k3 (1024 + ((8 * k + j : Nat) : Int)) back far now
          have e1 : W1 = W1' := by rw [a1] at r1; injection r1 with _ r1; exact r1.symm
          subst e1
          have hN : MP isI N (bs.map pE) W1.drew := hW.1.2.2.2.1.same (a3.2.2.2.2 N (fun e => hW.1.2.2.2.2 e.symm))
          obtain ⟨W2', b1, b2, b3⟩ := hN.pnew (f := f) hfree back far now
          have e2 : W2 = W2' := by rw [b1] at r2; injection r2 with _ r2; exact r2.symm
          subst e2
          have n := hW.1.ne
          have l5 := hW.2.2.2.2
          have z : ∀ g, TO T P BB F N g → W3.heap[g]? = W2.heap[g]? := fun g hg => o3.2.2.2.2 g (by have := l5 g hg; omega)
          have z2 : ∀ g, g ≠ F → g ≠ N → W2.heap[g]? = W.heap[g]? := fun g h1 h2 => (o2.2.2.2.2 g h2).trans (o1.2.2.2.2 g h1)
          refine ⟨_, ⟨T, P, BB, F, N, _, rfl, ⟨?_, ⟨?_, ?_⟩, ?_, ?_, n.2.2.2.2⟩, ha.take (cli f) k j hj hmn, rfl⟩, ?_, fun _ e => .inl e⟩
          · exact ((z T (.inl rfl)).trans (z2 T n.1.2.2.1 n.1.2.2.2)).trans hW.1.1
          · exact ((z P (.inr (.inl rfl))).trans (z2 P n.2.1.2.1 n.2.1.2.2)).trans hW.1.2.1.1
          · exact hW.1.2.1.2.same ((z BB (.inr (.inr (.inl rfl)))).trans (z2 BB n.2.2.1 n.2.2.2.1))
          · exact (a2.same (o2.2.2.2.2 F n.2.2.2.2)).same (z F (.inr (.inr (.inr (.inl rfl)))))
          · exact b2.same (z N (.inr (.inr (.inr (.inr rfl)))))
          · have f1 : Fr (TO T P BB F N) W W1 := o1.fr (.inr (.inr (.inr (.inl rfl))))
            have f2 : Fr (TO T P BB F N) W1 W2 := Only.fr (w := W1.drew) o2 (.inr (.inr (.inr (.inr rfl))))
            have f12 := (hW.2.2.2.1.trans f1).trans f2
            exact ⟨o3.1.trans f12.1, o3.2.1.trans f12.2.1, o3.2.2.1.trans f12.2.2.1, by rw [o3.2.2.2.1]; exact f12.2.2.2.1, fun g hg hn => (o3.2.2.2.2 g (by omega)).trans (f12.2.2.2.2 g hg hn)⟩)).mono ?_
      rintro r w' (⟨e, _⟩ | ⟨_, e, _⟩ | ⟨_, _, rfl, h1⟩)
      · cases e
      · cases e
      · exact ⟨rfl, h1⟩
end Go.Proofs.YtkhahbghmdccaaaGreat
