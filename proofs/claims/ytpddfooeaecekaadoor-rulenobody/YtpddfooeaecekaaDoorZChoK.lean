/-
  The call Choices: for every table that calls made and every sequent. No other condition than that the table of TrailingZeros stands. (Written by genzchoc.py.)
-/
import Derived.Test.YtpddfooeaecekaaDoorZCho
import Derived.Test.YtpddfooeaecekaaDoorZApplyC
namespace Go.Proofs.YtpddfooeaecekaaDoor
open Go.RowKit Go.Shelf Go.Maps
open Fm (Nd)
open Bt.Bs (Ok wd)
set_option linter.unusedSimpArgs false
attribute [local go_sem] Oper.semAt_some

theorem cell_one {w : World} {q : Nat} {v : Value} (h : w.cell? ⟨q, 0, none⟩ = some v) : ∀ (j : Nat) (u : Value), [v][j]? = some u → w.cell? ((⟨q, 0, none⟩ : Addr).add j) = some u := by
  intro j u hu
  match j, hu with
  | 0, hu =>
    rw [Addr.add_lit]
    simp at hu
    rw [← hu]
    exact h
theorem st1 {w : World} {b : Nat} {T T0 : TypeId} {old v : Value} (h : Boxed w b T0 old) (hs : (Tryd.prog.info? T).map (·.size) = some 1) (h1 : v.oneCell' = true) : (Instr.storeAt T (.pointer (some ⟨b, 0, none⟩)) v).run Tryd.prog w = .ok () (w.setRow b #[v]) := by
  simp only [Instr.storeAt, Instr.sureAddr, Sem.run_bind, Sem.run_pure, Result.andThen]
  exact run_storeVar_one w b T0 T old v h hs h1
section
variable {W0 w w' : World} {N b10 b11 : Nat} {v1 v2 : Value} {n : Nat} {xs ys : List Value} {done : Nat → Bool}
theorem SC.app3 (h : SC W0 w N b10 b11 v1 v2 n xs ys done) (hA : AC W0 b10 b11 v1 v2) (hg : w.grownBy w' v1.ownBlock) : SC W0 w' N b10 b11 v1 v2 n xs ys (fun j => j == 3 || done j) := by
  have hk : Kp (fun k => v1.ownBlock = some k) w w' := ⟨hg.os, hg.tape, hg.output, hg.size, fun k hk hn => hg.block k hk (fun e => hn e.symm)⟩
  obtain ⟨u1, e1⟩ := h.e1
  obtain ⟨u2, e2⟩ := h.e2
  refine ⟨fun h3 => by simp at h3, ⟨u1, box_kp e1 hk hA.a1.1⟩, fun h7 => ?_, ⟨u2, box_kp e2 hk hA.a1.2⟩, h.fr.trans hk (fun k hf => Or.inl (Or.inl hf))⟩
  obtain ⟨a, b⟩ := h.s2 (by simpa using h7)
  exact ⟨box_kp a hk hA.a1.2, own_kp b (fun k e => hk.block k (own_blk b k e).2.1 (fun e' => hA.a12 k e' e))⟩
theorem SC.app7 (h : SC W0 w N b10 b11 v1 v2 n xs ys done) (hA : AC W0 b10 b11 v1 v2) (hg : w.grownBy w' v2.ownBlock) : SC W0 w' N b10 b11 v1 v2 n xs ys (fun j => j == 7 || done j) := by
  have hk : Kp (fun k => v2.ownBlock = some k) w w' := ⟨hg.os, hg.tape, hg.output, hg.size, fun k hk hn => hg.block k hk (fun e => hn e.symm)⟩
  obtain ⟨u1, e1⟩ := h.e1
  obtain ⟨u2, e2⟩ := h.e2
  refine ⟨fun h3 => ?_, ⟨u1, box_kp e1 hk hA.a2.1⟩, fun h7 => by simp at h7, ⟨u2, box_kp e2 hk hA.a2.2⟩, h.fr.trans hk (fun k hf => Or.inl (Or.inr (Or.inl hf)))⟩
  obtain ⟨a, b⟩ := h.s1 (by simpa using h3)
  exact ⟨box_kp a hk hA.a2.1, own_kp b (fun k e => hk.block k (own_blk b k e).2.1 (fun e' => hA.a12 k e e'))⟩
theorem SC.put8 (h : SC W0 w N b10 b11 v1 v2 n xs ys done) (hA : AC W0 b10 b11 v1 v2) (hd : done 3 = true) {u : Value} (hu : Boxed w b10 68 u) (v : Value) : SC W0 (w.setRow b10 #[v]) N b10 b11 v1 v2 n xs ys (fun j => j == 8 || done j) := by
  have hk : Kp (fun k => k = b10) w (w.setRow b10 #[v]) := setRow_kp w b10 _
  obtain ⟨u2, e2⟩ := h.e2
  refine ⟨fun h3 => by simp [hd] at h3, ⟨v, setRow_heap w b10 _ _ _ _ hu⟩, fun h7 => ?_, ⟨u2, box_kp e2 hk (fun e => hA.ne e.symm)⟩, h.fr.trans hk (fun k hf => Or.inl (Or.inr (Or.inr (Or.inl hf))))⟩
  obtain ⟨a, b⟩ := h.s2 (by simpa using h7)
  exact ⟨box_kp a hk (fun e => hA.ne e.symm), own_kp b (fun k e => hk.block k (own_blk b k e).2.1 (fun e' => hA.a2.1 (e' ▸ e)))⟩
theorem SC.put9 (h : SC W0 w N b10 b11 v1 v2 n xs ys done) (hA : AC W0 b10 b11 v1 v2) (hd : done 7 = true) {u : Value} (hu : Boxed w b11 28 u) (v : Value) : SC W0 (w.setRow b11 #[v]) N b10 b11 v1 v2 n xs ys (fun j => j == 9 || done j) := by
  have hk : Kp (fun k => k = b11) w (w.setRow b11 #[v]) := setRow_kp w b11 _
  obtain ⟨u1, e1⟩ := h.e1
  refine ⟨fun h3 => ?_, ⟨u1, box_kp e1 hk hA.ne⟩, fun h7 => by simp [hd] at h7, ⟨v, setRow_heap w b11 _ _ _ _ hu⟩, h.fr.trans hk (fun k hf => Or.inl (Or.inr (Or.inr (Or.inr hf))))⟩
  obtain ⟨a, b⟩ := h.s1 (by simpa using h3)
  exact ⟨box_kp a hk hA.ne, own_kp b (fun k e => hk.block k (own_blk b k e).2.1 (fun e' => hA.a1.2 (e' ▸ e)))⟩
theorem frC_lt (hA : AC W0 b10 b11 v1 v2) {i k : Nat} (h : frC b10 b11 v1 v2 i k) : k < W0.heap.size := by
  rcases h with ⟨_, h⟩ | ⟨_, h⟩ | ⟨_, h⟩ | ⟨_, h⟩
  · exact hA.l1 k h
  · exact hA.l2 k h
  · rw [h]; exact hA.l10
  · rw [h]; exact hA.l11
theorem NwC.kp {x : Int} {v : Value} (hA : AC W0 b10 b11 v1 v2) {i : Nat} (hk : Kp (frC b10 b11 v1 v2 i) w w') (h : NwC W0 x v w) : NwC W0 x v w' := by
  obtain ⟨q, hv, hq, hc⟩ := h
  exact ⟨q, hv, hq, cell_kp hk hc (fun hf => by have := frC_lt hA hf; show False; have : q < W0.heap.size := this; omega)⟩
theorem OWn.kp {e : TypeId} {v0 v : Value} {zs : List Value} {m : Nat} (hA : AC W0 b10 b11 v1 v2) {i : Nat} (hk : Kp (frC b10 b11 v1 v2 i) w w') (h0 : ∀ k, v0.ownBlock = some k → ¬ frC b10 b11 v1 v2 i k) (h : OWn W0 N e v0 m zs v w) : OWn W0 N e v0 m zs v w' := by
  refine ⟨own_kp h.1 (fun k hb => hk.block k (own_blk h.1 k hb).2.1 (fun hf => ?_)), h.2⟩
  rcases h.2 k hb with h1 | h1
  · exact h0 k h1 hf
  · have := frC_lt hA hf
    omega
theorem fr1 (hA : AC W0 b10 b11 v1 v2) {i : Nat} (hi : i ≠ 3) : ∀ k, v1.ownBlock = some k → ¬ frC b10 b11 v1 v2 i k := by
  rintro k h (⟨e, _⟩ | ⟨_, e⟩ | ⟨_, e⟩ | ⟨_, e⟩)
  · exact hi e
  · exact hA.a12 k h e
  · exact hA.a1.1 (e ▸ h)
  · exact hA.a1.2 (e ▸ h)
theorem fr2 (hA : AC W0 b10 b11 v1 v2) {i : Nat} (hi : i ≠ 7) : ∀ k, v2.ownBlock = some k → ¬ frC b10 b11 v1 v2 i k := by
  rintro k h (⟨_, e⟩ | ⟨e, _⟩ | ⟨_, e⟩ | ⟨_, e⟩)
  · exact hA.a12 k e h
  · exact hi e
  · exact hA.a2.1 (e ▸ h)
  · exact hA.a2.2 (e ▸ h)
theorem fr8 (hA : AC W0 b10 b11 v1 v2) {i : Nat} (hi : i ≠ 8) : ¬ frC b10 b11 v1 v2 i b10 := by
  rintro (⟨_, e⟩ | ⟨_, e⟩ | ⟨e, _⟩ | ⟨_, e⟩)
  · exact hA.a1.1 e
  · exact hA.a2.1 e
  · exact hi e
  · exact hA.ne e
theorem fr9 (hA : AC W0 b10 b11 v1 v2) {i : Nat} (hi : i ≠ 9) : ¬ frC b10 b11 v1 v2 i b11 := by
  rintro (⟨_, e⟩ | ⟨_, e⟩ | ⟨_, e⟩ | ⟨e, _⟩)
  · exact hA.a1.2 e
  · exact hA.a2.2 e
  · exact hA.ne e.symm
  · exact hi e
end
theorem cho_le {W : World} {N b10 b11 : Nat} {v1 v2 : Value} {n : Nat} {xs ys : List Value} {x : Int × Int} (hA : AC W b10 b11 v1 v2) : ∀ (i j : Nat) (v : Value) (w w' : World), i ≠ j → i ∉ ([[], [], [1], [0, 2], [], [], [5], [4, 6], [3], [7]] : List (List Nat)).getD j [] → (fun i w w' => Kp (frC b10 b11 v1 v2 i) w w') i w w' → (fun i v w => match i with | 0 => v = v1 | 1 => v = .int .i64 x.1 | 2 => NwC W x.1 v w | 3 => OWn W N 35 v1 (n + 1) (xs ++ [Value.int .i64 x.1]) v w | 4 => v = v2 | 5 => v = .int .i64 x.2 | 6 => NwC W x.2 v w | 7 => OWn W N 3 v2 (n + 1) (ys ++ [Value.int .i64 x.2]) v w | 8 => ∃ u, Boxed w b10 68 u ∧ OWn W N 35 v1 (n + 1) (xs ++ [Value.int .i64 x.1]) u w | 9 => ∃ u, Boxed w b11 28 u ∧ OWn W N 3 v2 (n + 1) (ys ++ [Value.int .i64 x.2]) u w | _ => True) j v w → (fun i v w => match i with | 0 => v = v1 | 1 => v = .int .i64 x.1 | 2 => NwC W x.1 v w | 3 => OWn W N 35 v1 (n + 1) (xs ++ [Value.int .i64 x.1]) v w | 4 => v = v2 | 5 => v = .int .i64 x.2 | 6 => NwC W x.2 v w | 7 => OWn W N 3 v2 (n + 1) (ys ++ [Value.int .i64 x.2]) v w | 8 => ∃ u, Boxed w b10 68 u ∧ OWn W N 35 v1 (n + 1) (xs ++ [Value.int .i64 x.1]) u w | 9 => ∃ u, Boxed w b11 28 u ∧ OWn W N 3 v2 (n + 1) (ys ++ [Value.int .i64 x.2]) u w | _ => True) j v w' := by
  intro i j v w w' hij hn hk h
  match j, h, hn, hij with
  | 0, h, _, _ => exact h
  | 1, h, _, _ => exact h
  | 2, h, _, _ => exact NwC.kp hA hk h
  | 3, h, _, hij => exact OWn.kp hA hk (fr1 hA hij) h
  | 4, h, _, _ => exact h
  | 5, h, _, _ => exact h
  | 6, h, _, _ => exact NwC.kp hA hk h
  | 7, h, _, hij => exact OWn.kp hA hk (fr2 hA hij) h
  | 8, h, hn, hij =>
    obtain ⟨u, h1, h2⟩ := h
    exact ⟨u, box_kp h1 hk (fr8 hA hij), OWn.kp hA hk (fr1 hA (fun e => hn (by subst e; decide))) h2⟩
  | 9, h, hn, hij =>
    obtain ⟨u, h1, h2⟩ := h
    exact ⟨u, box_kp h1 hk (fr9 hA hij), OWn.kp hA hk (fr2 hA (fun e => hn (by subst e; decide))) h2⟩
  | _ + 10, h, _, _ => trivial
end Go.Proofs.YtpddfooeaecekaaDoor
