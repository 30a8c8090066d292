/-
  Three rows of names of a call's own, apart from one another: what a put into one of them leaves. And the names that a walk over the numbers below k has put. No other condition.
-/
import Derived.Test.YthdcppkohalkmaaGreatNPut
namespace Go.Proofs.YthdcppkohalkmaaGreat
open Go.RowKit Go.Maps
open Fm (Nd)

def Apart (a b : Value) : Prop := a.ownBlock = none ∨ a.ownBlock ≠ b.ownBlock
theorem Apart.symm {a b : Value} (h : Apart a b) : Apart b a := by
  unfold Apart at *
  rcases h with h | h
  · rw [h]
    cases hb : b.ownBlock with
    | none => exact Or.inl rfl
    | some k => exact Or.inr (by simp)
  · exact Or.inr (Ne.symm h)
def OwnN (w : World) (B : Nat) (v : Value) (l : List (List UInt8)) : Prop := w.ownsRow B 9 1 v l.length (l.map encStr)
structure S3 (w : World) (B : Nat) (a b c : Value) (la lb lc : List (List UInt8)) : Prop where
  oa : OwnN w B a la
  ob : OwnN w B b lb
  oc : OwnN w B c lc
  ab : Apart a b
  bc : Apart b c
  ca : Apart c a
section
variable {w w' : World} {B : Nat} {a b c : Value} {la lb lc : List (List UInt8)}
theorem S3.turn (h : S3 w B a b c la lb lc) : S3 w B b c a lb lc la := ⟨h.ob, h.oc, h.oa, h.bc, h.ca, h.ab⟩
theorem S3.later (h : S3 w B a b c la lb lc) (hb : Below w.heap.size w w') : S3 w' B a b c la lb lc :=
  ⟨own_later h.oa hb, own_later h.ob hb, own_later h.oc hb, h.ab, h.bc, h.ca⟩
theorem S3.nil (w : World) (B : Nat) : S3 w B (.slice none 0 0) (.slice none 0 0) (.slice none 0 0) [] [] [] :=
  ⟨World.ownsRow_nil _ _ _ _, World.ownsRow_nil _ _ _ _, World.ownsRow_nil _ _ _ _, Or.inl rfl, Or.inl rfl, Or.inl rfl⟩
theorem apart_new {g n cp : Nat} {R : List (List UInt8)} (hb : OwnN w B b R) (hab : Apart a b) (hg : w.heap.size ≤ g ∨ a.ownBlock = some g) : Apart (.slice (some ⟨g, 0, none⟩) n cp) b := by
  refine Apart.symm ?_
  unfold Apart
  show b.ownBlock = none ∨ b.ownBlock ≠ some g
  cases e : b.ownBlock with
  | none => exact Or.inl rfl
  | some k =>
    refine Or.inr fun e2 => ?_
    have e3 := Option.some.inj e2
    subst e3
    rcases hg with h | h
    · have := (hb.lt k e).2
      omega
    · rcases hab with h1 | h1
      · rw [h1] at h; cases h
      · exact h1 (h.trans e.symm)
/-- A put into the first of the three. -/
theorem S3.put (h : S3 w B a b c la lb lc) {R : List (List UInt8)} {e : Ending} (hp : Put w B a R e w') : ∃ g cp, e = .returned (.slice (some ⟨g, 0, none⟩) R.length cp) ∧ S3 w' B (.slice (some ⟨g, 0, none⟩) R.length cp) b c R lb lc ∧ (∀ {z : Nat} {w0 : World}, Below z w0 w → z ≤ B → z ≤ w.heap.size → Below z w0 w') := by
  obtain ⟨g, cp, he, ho, hgr, hg⟩ := hp
  refine ⟨g, cp, he, ⟨ho, h.ob.kept hgr h.ab.symm, h.oc.kept hgr h.ca, apart_new h.ob h.ab hg, h.bc, (apart_new h.oc h.ca.symm hg).symm⟩, fun hb hz hz2 => hb.grown hgr hz2 fun k e => ?_⟩
  have := (h.oa.lt k e).1
  omega
/-- The names that a walk over the numbers below k has put. -/
def nmU (t : List Nd) (p : Nat → Bool) (k : Nat) : List (List UInt8) := rise (namesU t p (List.range k))
theorem nmU_zero (t : List Nd) (p : Nat → Bool) : nmU t p 0 = [] := by simp [nmU, namesU, rise]
theorem nmU_asc (t : List Nd) (p : Nat → Bool) (k : Nat) : (nmU t p k).Pairwise (· ≤ ·) := rise_asc _
theorem nmU_len (t : List Nd) (p : Nat → Bool) (k : Nat) : (nmU t p k).length ≤ k := by
  unfold nmU
  rw [rise_len]
  exact Nat.le_trans (namesU_len _ _ _) (by simp)
theorem nmU_yes {t : List Nd} {p : Nat → Bool} {k : Nat} (h1 : (Ms.row t k).k = 1) (h2 : p k = true) : rise (nmU t p k ++ [(Ms.row t k).s.data.toList]) = nmU t p (k + 1) := by
  unfold nmU
  rw [rise_snoc, List.range_succ, namesU_snoc, if_pos (by unfold isA; rw [h1, h2]; rfl)]
theorem nmU_no {t : List Nd} {p : Nat → Bool} {k : Nat} (h : (Ms.row t k).k ≠ 1 ∨ p k = false) : nmU t p (k + 1) = nmU t p k := by
  have e : isA t p k = false := by
    unfold isA
    rcases h with h | h
    · rw [beq_eq_false_iff_ne.2 h]; rfl
    · rw [h, Bool.and_false]
  unfold nmU
  rw [List.range_succ, namesU_snoc, e]
  rfl
end
end Go.Proofs.YthdcppkohalkmaaGreat
