/-
  Rows of names and formulas beside tables: what is kept; the ways of Put's answer. No condition.
-/
import Derived.Test.YthfedlodikbdgaaUName
import Derived.Test.YthfedlodikbdgaaUTree
import Derived.Test.YthfedlodikbdgaaLPair
namespace Go.Proofs.Ythfedlodikbdgaa
open Go.RowKit Go.Maps
open Fm (Nd)

theorem isH_ltR {w : World} {v : Value} {l : Sb.Hs} (h : IsH w v l) (hl : l ≠ []) : ∀ k, v.ownBlock = some k → k < w.heap.size := by
  obtain ⟨p, c, rfl, h1, h2⟩ := h
  intro k hk
  cases l with
  | nil => exact absurd rfl hl
  | cons x l =>
    obtain ⟨b, o, rfl, e1, _⟩ := h2 0 (by simp)
    cases hk
    exact World.block_lt_of_cell? w _ e1
theorem isH_keepR {w w' : World} {v : Value} {l : Sb.Hs} (h : IsH w v l) (hk : l ≠ [] → ∀ k, v.ownBlock = some k → k < w.heap.size → w'.heap[k]? = w.heap[k]?) : IsH w' v l := by
  obtain ⟨p, c, rfl, h1, h2⟩ := h
  refine ⟨p, c, rfl, h1, fun k hk' => ?_⟩
  obtain ⟨b, o, rfl, e1, e2⟩ := h2 k hk'
  have hb := hk (fun e => by rw [e] at hk'; simp at hk') b rfl (World.block_lt_of_cell? w _ e1)
  exact ⟨b, o, rfl, (World.cell?_of_block (a := ⟨b, _, none⟩) hb).trans e1, (World.cell?_of_block (a := ⟨b, _, none⟩) hb).trans e2⟩
/-- The ways of Put's answer. -/
theorem putR_ways (t : List Nd) (id : Int) (l : Sb.Hs) :
    ((Fm.has t id = true ∧ (∀ x ∈ l, Fm.has t x.2 = true) ∧ Sb.Dist l ∧ Sb.Words l) → Sb.putR t id l = Sb.anew (Sb.putF l) t id.toNat) ∧
    (Fm.has t id = false → Sb.putR t id l = (0, 31, t)) ∧ (∀ x ∈ l, Fm.has t x.2 = false → Sb.putR t id l = (0, 31, t)) ∧
    ((Fm.has t id = true ∧ (∀ x ∈ l, Fm.has t x.2 = true)) → ¬ Sb.Dist l → Sb.putR t id l = (0, 70, t)) ∧
    ((Fm.has t id = true ∧ (∀ x ∈ l, Fm.has t x.2 = true) ∧ Sb.Dist l) → ∀ x ∈ l, Fm.word x.1.data.toList = false → Sb.putR t id l = (0, 32, t)) := by
  have e0 : (Fm.has t id = true ∧ (∀ x ∈ l, Fm.has t x.2 = true)) → Sb.refR t (id :: l.map (·.2)) = 0 := fun ⟨h1, h2⟩ => by
    unfold Sb.refR
    rw [if_pos]
    rw [List.all_eq_true]
    intro x hx
    rcases List.mem_cons.1 hx with e | e
    · rw [e]; exact h1
    · obtain ⟨y, hy, rfl⟩ := List.mem_map.1 e
      exact h2 y hy
  refine ⟨fun ⟨h1, h2, h3, h4⟩ => ?_, fun h => ?_, fun x hx h => ?_, fun h12 h3 => ?_, fun ⟨h1, h2, h3⟩ x hx h => ?_⟩
  · unfold Sb.putR
    rw [if_pos (e0 ⟨h1, h2⟩), if_pos]
    unfold Sb.namedR
    rw [if_pos h3, if_pos]
    rw [List.all_eq_true]
    exact h4
  · unfold Sb.putR Sb.refR
    rw [if_neg (c := List.all _ _ = true) (by simp [h])]
    rfl
  · unfold Sb.putR Sb.refR
    rw [if_neg (c := List.all _ _ = true) (by
      rw [List.all_eq_true]
      intro h'
      have := h' x.2 (List.mem_cons_of_mem _ (List.mem_map_of_mem hx))
      rw [h] at this
      cases this)]
    rfl
  · unfold Sb.putR
    rw [if_pos (e0 h12)]
    rw [show Sb.namedR l = 70 from by unfold Sb.namedR; exact if_neg h3]
    rfl
  · unfold Sb.putR
    rw [if_pos (e0 ⟨h1, h2⟩)]
    rw [show Sb.namedR l = 32 from by
      unfold Sb.namedR
      exact (if_pos h3).trans (if_neg (by
        rw [List.all_eq_true]
        intro h'
        have := h' x hx
        rw [h] at this
        cases this))]
    rfl
/-- Two tables and a row beside them. -/
structure PO (w0 w : World) (b m : Nat) (v : Value) (c : Nat) (u : Value) (t r : List Nd) (ov : Value) (l : Sb.Hs) : Prop where
  pr : Pair w0 w b m v c u t r
  is : IsH w ov l
  ap : l ≠ [] → ∀ k, ov.ownBlock = some k → ¬ Ft b m v k ∧ ¬ Fr c u k
section
variable {w0 w w2 : World} {b m c : Nat} {v u ov : Value} {t r t' r' : List Nd} {l : Sb.Hs}
theorem PO.later (h : PO w0 w b m v c u t r ov l) (hb : Below w.heap.size w w2) : PO w0 w2 b m v c u t r ov l := ⟨h.pr.later hb, h.is.later hb, h.ap⟩
theorem PO.stepT (h : PO w0 w b m v c u t r ov l) (ha : After w b m v t' w2) : ∃ v', PO w0 w2 b m v' c u t' r ov l := by
  obtain ⟨v', hT, hL, hK⟩ := ha
  have hp := h.pr
  refine ⟨v', ⟨hT, hp.tr.keep fun k hk => hK.block k (hp.tr.foot k hk) (fun hf => hp.apart k hf hk), fun k hk e => ?_, ?_, hp.br, hp.bel.trans (hK.below hp.bel.size hp.bt)⟩, isH_keepR h.is fun hne k hk hlt => hK.block k hlt (h.ap hne k hk).1, fun hne k hk => ⟨fun hf => ?_, (h.ap hne k hk).2⟩⟩
  · rcases hL k hk with h1 | h1
    · exact hp.dis k h1 e
    · have := (hp.tr.row.lt k e).1
      omega
  · rintro k (e | e | e)
    · exact hp.bt k (Or.inl e)
    · exact hp.bt k (Or.inr (Or.inl e))
    · rcases hL k e with h1 | h1
      · exact hp.bt k (Or.inr (Or.inr h1))
      · exact Nat.le_trans hp.bel.size h1
  · have hl := isH_ltR h.is hne k hk
    rcases hf with e | e | e
    · exact (h.ap hne k hk).1 (Or.inl e)
    · exact (h.ap hne k hk).1 (Or.inr (Or.inl e))
    · rcases hL k e with h1 | h1
      · exact (h.ap hne k hk).1 (Or.inr (Or.inr h1))
      · omega
theorem PO.stepR (h : PO w0 w b m v c u t r ov l) (ha : AfterR w c u r' w2) : ∃ u', PO w0 w2 b m v c u' t r' ov l := by
  obtain ⟨u', hT, hL, hK⟩ := ha
  have hp := h.pr
  refine ⟨u', ⟨hp.tb.keep fun k hk => hK.block k (hp.tb.foot k hk) (fun hf => hp.apart k hk hf), hT, fun k hk e => ?_, hp.bt, ?_, hp.bel.trans (hK.below hp.bel.size hp.br)⟩, isH_keepR h.is fun hne k hk hlt => hK.block k hlt (h.ap hne k hk).2, fun hne k hk => ⟨(h.ap hne k hk).1, fun hf => ?_⟩⟩
  · rcases hL k e with h1 | h1
    · exact hp.dis k hk h1
    · have := (hp.tb.row.lt k hk).1
      omega
  · rintro k (e | e)
    · exact hp.br k (Or.inl e)
    · rcases hL k e with h1 | h1
      · exact hp.br k (Or.inr h1)
      · exact Nat.le_trans hp.bel.size h1
  · have hl := isH_ltR h.is hne k hk
    rcases hf with e | e
    · exact (h.ap hne k hk).2 (Or.inl e)
    · rcases hL k e with h1 | h1
      · exact (h.ap hne k hk).2 (Or.inr h1)
      · omega
end
end Go.Proofs.Ythfedlodikbdgaa
