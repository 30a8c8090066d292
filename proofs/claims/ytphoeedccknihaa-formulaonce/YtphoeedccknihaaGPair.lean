/-
  Two tables beside each other, and blocks G beside them that stay as they are. No condition.
-/
import Derived.Test.YtphoeedccknihaaLPlayC
namespace Go.Proofs.Ytphoeedccknihaa.Gp
open Go.RowKit Go.Maps
open Fm (Nd)

/-- Two tables of a call's own, made since the world w0, and blocks beside them, whose contents stay. -/
structure Pair (G : Nat → Option Obj) (w0 w : World) (b m : Nat) (v : Value) (c : Nat) (u : Value) (t r : List Nd) : Prop where
  old : Go.Proofs.Ytphoeedccknihaa.Pair w0 w b m v c u t r
  kep : ∀ k o, G k = some o → w.heap[k]? = some o ∧ ¬ Ft b m v k ∧ ¬ Fr c u k
section
variable {G : Nat → Option Obj} {w0 w w2 : World} {b m c : Nat} {v u : Value} {t r t' r' : List Nd}
theorem Pair.tb (h : Pair G w0 w b m v c u t r) : Tb w b m v t := h.old.tb
theorem Pair.tr (h : Pair G w0 w b m v c u t r) : Tr w c u r := h.old.tr
theorem Pair.bel (h : Pair G w0 w b m v c u t r) : Below w0.heap.size w0 w := h.old.bel
theorem Pair.stepT (h : Pair G w0 w b m v c u t r) (ha : After w b m v t' w2) : ∃ v', Pair G w0 w2 b m v' c u t' r := by
  obtain ⟨v', hT, hL, hK⟩ := ha
  have h0 := h.old
  refine ⟨v', ⟨hT, h0.tr.keep fun k hk => hK.block k (h0.tr.foot k hk) (fun hf => h0.apart k hf hk), fun k hk e => ?_, ?_, h0.br, h0.bel.trans (hK.below h0.bel.size h0.bt)⟩, fun k o hk => ?_⟩
  · rcases hL k hk with h1 | h1
    · exact h0.dis k h1 e
    · have := (h0.tr.row.lt k e).1
      omega
  · rintro k (e | e | e)
    · exact h0.bt k (Or.inl e)
    · exact h0.bt k (Or.inr (Or.inl e))
    · rcases hL k e with h1 | h1
      · exact h0.bt k (Or.inr (Or.inr h1))
      · exact Nat.le_trans h0.bel.size h1
  · obtain ⟨h1, h2, h3⟩ := h.kep k o hk
    refine ⟨(hK.block k (lt_of_block h1) h2).trans h1, ?_, h3⟩
    rintro (e | e | e)
    · exact h2 (Or.inl e)
    · exact h2 (Or.inr (Or.inl e))
    · rcases hL k e with h4 | h4
      · exact h2 (Or.inr (Or.inr h4))
      · have := lt_of_block h1; omega
theorem Pair.stepR (h : Pair G w0 w b m v c u t r) (ha : AfterR w c u r' w2) : ∃ u', Pair G w0 w2 b m v c u' t r' := by
  obtain ⟨u', hT, hL, hK⟩ := ha
  have h0 := h.old
  refine ⟨u', ⟨h0.tb.keep fun k hk => hK.block k (h0.tb.foot k hk) (fun hf => h0.apart k hk hf), hT, fun k hk e => ?_, h0.bt, ?_, h0.bel.trans (hK.below h0.bel.size h0.br)⟩, fun k o hk => ?_⟩
  · rcases hL k e with h1 | h1
    · exact h0.dis k hk h1
    · have := (h0.tb.row.lt k hk).1
      omega
  · rintro k (e | e)
    · exact h0.br k (Or.inl e)
    · rcases hL k e with h1 | h1
      · exact h0.br k (Or.inr h1)
      · exact Nat.le_trans h0.bel.size h1
  · obtain ⟨h1, h2, h3⟩ := h.kep k o hk
    refine ⟨(hK.block k (lt_of_block h1) h3).trans h1, h2, ?_⟩
    rintro (e | e)
    · exact h3 (Or.inl e)
    · rcases hL k e with h4 | h4
      · exact h3 (Or.inr h4)
      · have := lt_of_block h1; omega
theorem Pair.later (h : Pair G w0 w b m v c u t r) (hb : Below w.heap.size w w2) : Pair G w0 w2 b m v c u t r :=
  ⟨h.old.later hb, fun k o hk => ⟨(hb.block k (lt_of_block (h.kep k o hk).1)).trans (h.kep k o hk).1, (h.kep k o hk).2⟩⟩
end
/-- A copy of a table goes its own way: the pair stays. -/
theorem copy_step {G : Nat → Option Obj} {w0 w w2 : World} {b m c B M n : Nat} {v u vc : Value} {t r t5 : List Nd} (h : Pair G w0 w b m v c u t r) (hn : (∀ k, Ft b m v k ∨ Fr c u k → k < n) ∧ ∀ k o, G k = some o → k < n) (hc : ∀ k, Ft B M vc k → n ≤ k) (hw : n ≤ w.heap.size) (hb0 : w0.heap.size ≤ n) (ha : After w B M vc t5 w2) :
    Pair G w0 w2 b m v c u t r ∧ (∃ vc', Tb w2 B M vc' t5 ∧ ∀ k, Ft B M vc' k → n ≤ k) ∧ (∀ k, k < n → w2.heap[k]? = w.heap[k]?) ∧ n ≤ w2.heap.size := by
  obtain ⟨hp, hx, hkeep, hs⟩ := Go.Proofs.Ytphoeedccknihaa.copy_step h.old hn.1 hc hw hb0 ha
  exact ⟨⟨hp, fun k o hk => ⟨(hkeep k (hn.2 k o hk)).trans (h.kep k o hk).1, (h.kep k o hk).2⟩⟩, hx, hkeep, hs⟩
end Go.Proofs.Ytphoeedccknihaa.Gp
