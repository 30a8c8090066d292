/-
  A table of the program's and one of the document's beside each other: what one call does to the one leaves the other as it was; the document's call Same. No condition.
-/
import Derived.Test.YtkpbpecikibohaaDoorRFrom
namespace Go.Proofs.YtkpbpecikibohaaDoor
open Go.RowKit Go.Maps
open Fm (Nd)

structure Pair (w0 w : World) (b m : Nat) (v : Value) (c : Nat) (u : Value) (t r : List Nd) : Prop where
  tb : Tb w b m v t
  tr : Tr w c u r
  dis : ∀ k, v.ownBlock = some k → u.ownBlock ≠ some k
  bt : ∀ k, Ft b m v k → w0.heap.size ≤ k
  br : ∀ k, Fr c u k → w0.heap.size ≤ k
  bel : Below w0.heap.size w0 w
section
variable {w0 w w2 : World} {b m c : Nat} {v u : Value} {t r t' r' : List Nd}
theorem Pair.apart (h : Pair w0 w b m v c u t r) : ∀ k, Ft b m v k → ¬ Fr c u k := by
  have hc := h.tr.tab
  have hb := h.tb.tab
  obtain ⟨D, ⟨es, cl, hm, _⟩, _⟩ := h.tb.map
  rintro k (rfl | rfl | e) (rfl | e')
  · rw [hb] at hc; simp at hc
  · obtain ⟨_, cur, hh⟩ := h.tr.row.lt k e'
    rw [hb] at hh; simp at hh
  · rw [hm] at hc; cases hc
  · obtain ⟨_, cur, hh⟩ := h.tr.row.lt k e'
    rw [hm] at hh; cases hh
  · obtain ⟨_, cur, hh⟩ := h.tb.row.lt k e
    rw [hc] at hh; simp at hh
  · exact h.dis k e e'
theorem Pair.stepT (h : Pair w0 w b m v c u t r) (ha : After w b m v t' w2) : ∃ v', Pair w0 w2 b m v' c u t' r := by
  obtain ⟨v', hT, hL, hK⟩ := ha
  refine ⟨v', hT, h.tr.keep fun k hk => hK.block k (h.tr.foot k hk) (fun hf => h.apart k hf hk), fun k hk e => ?_, ?_, h.br, h.bel.trans (hK.below h.bel.size h.bt)⟩
  · rcases hL k hk with h1 | h1
    · exact h.dis k h1 e
    · have := (h.tr.row.lt k e).1
      omega
  · rintro k (e | e | e)
    · exact h.bt k (Or.inl e)
    · exact h.bt k (Or.inr (Or.inl e))
    · rcases hL k e with h1 | h1
      · exact h.bt k (Or.inr (Or.inr h1))
      · exact Nat.le_trans h.bel.size h1
theorem Pair.stepR (h : Pair w0 w b m v c u t r) (ha : AfterR w c u r' w2) : ∃ u', Pair w0 w2 b m v c u' t r' := by
  obtain ⟨u', hT, hL, hK⟩ := ha
  refine ⟨u', h.tb.keep fun k hk => hK.block k (h.tb.foot k hk) (fun hf => h.apart k hk hf), hT, fun k hk e => ?_, h.bt, ?_, h.bel.trans (hK.below h.bel.size h.br)⟩
  · rcases hL k e with h1 | h1
    · exact h.dis k hk h1
    · have := (h.tb.row.lt k hk).1
      omega
  · rintro k (e | e)
    · exact h.br k (Or.inl e)
    · rcases hL k e with h1 | h1
      · exact h.br k (Or.inr h1)
      · exact Nat.le_trans h.bel.size h1
theorem Pair.later (h : Pair w0 w b m v c u t r) (hb : Below w.heap.size w w2) : Pair w0 w2 b m v c u t r :=
  ⟨h.tb.later hb, h.tr.later hb, h.dis, h.bt, h.br, h.bel.trans (hb.mono h.bel.size)⟩
end
end Go.Proofs.YtkpbpecikibohaaDoor
