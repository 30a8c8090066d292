/-
  The order of sequents, and which is weaker: what the law SequentOrder leans on. No condition.
-/
import Derived.Test.YtkmmlimekachbabGreatDoorQG2
import Derived.Test.YtkmmlimekachbabGreatDoorQG2
import Derived.Test.YtkmmlimekachbabGreatDoorQEq
import Derived.Test.YtkmmlimekachbabGreatDoorBAlgP5
namespace Go.Proofs.YtkmmlimekachbabGreatDoor
open Go.RowKit
open Bt.Bs (Ok)

theorem cmpI_three (x y : Int) : (x < y ∧ Lib.compareInt x y = -1) ∨ (x = y ∧ Lib.compareInt x y = 0) ∨ (y < x ∧ Lib.compareInt x y = 1) := by
  unfold Lib.compareInt
  by_cases h : x < y
  · exact Or.inl ⟨h, if_pos h⟩
  · by_cases h2 : x > y
    · exact Or.inr (Or.inr ⟨h2, by rw [if_neg h, if_pos h2]⟩)
    · exact Or.inr (Or.inl ⟨by omega, by rw [if_neg h, if_neg h2]⟩)
theorem cmpQ_is {a b : List Nat} (ha : Ok a) (hb : Ok b) (x y : Int) : (a = b ∧ cmpQ a b x y = Lib.compareInt x y) ∨ (a ≠ b ∧ Bt.Bs.cmp a b ≠ 0 ∧ cmpQ a b x y = Bt.Bs.cmp a b) := by
  have h := Bt.Bs.cmp_zero ha hb
  unfold cmpQ orI
  by_cases e : a = b
  · rw [decide_eq_true e] at h
    exact Or.inl ⟨e, if_pos (by simpa using h)⟩
  · rw [decide_eq_false e] at h
    have h0 : Bt.Bs.cmp a b ≠ 0 := by simpa using h
    exact Or.inr ⟨e, h0, if_neg h0⟩
theorem cmpQ_vals (a b : List Nat) (x y : Int) : cmpQ a b x y = -1 ∨ cmpQ a b x y = 0 ∨ cmpQ a b x y = 1 := by
  have h := Bt.Bs.cmp_range a b
  have h2 := cmpI_three x y
  unfold cmpQ orI
  split <;> omega
theorem cmpQ_turn {a b : List Nat} (ha : Ok a) (hb : Ok b) (x y : Int) : cmpQ b a y x = -cmpQ a b x y := by
  have ht := Bt.Bs.cmp_turn ha hb
  have h2 := cmpI_three x y
  have h3 := cmpI_three y x
  rcases cmpQ_is ha hb x y with ⟨e, h⟩ | ⟨e, h0, h⟩ <;> rcases cmpQ_is hb ha y x with ⟨e', h'⟩ | ⟨e', h0', h'⟩
  · omega
  · exact absurd e.symm e'
  · exact absurd e'.symm e
  · omega
theorem cmpQ_zero {a b : List Nat} (ha : Ok a) (hb : Ok b) (x y : Int) : cmpQ a b x y = 0 ↔ (a = b ∧ x = y) := by
  have h2 := cmpI_three x y
  rcases cmpQ_is ha hb x y with ⟨e, h⟩ | ⟨e, h0, h⟩
  · rw [h]
    constructor
    · intro h1; exact ⟨e, by omega⟩
    · intro h1; have := h1.2; omega
  · rw [h]
    exact ⟨fun h1 => absurd h1 h0, fun h1 => absurd h1.1 e⟩
theorem cmpQ_trans {a b c : List Nat} (ha : Ok a) (hb : Ok b) (hc : Ok c) (x y z : Int) (h1 : cmpQ a b x y ≤ 0) (h2 : cmpQ b c y z ≤ 0) : cmpQ a c x z ≤ 0 := by
  have i1 := cmpI_three x y
  have i2 := cmpI_three y z
  have i3 := cmpI_three x z
  rcases cmpQ_is ha hb x y with ⟨e, h⟩ | ⟨e, h0, h⟩ <;> rcases cmpQ_is hb hc y z with ⟨e', h'⟩ | ⟨e', h0', h'⟩ <;> rcases cmpQ_is ha hc x z with ⟨e3, h3⟩ | ⟨e3, h03, h3⟩
  · omega
  · exact absurd (e.trans e') e3
  · exact absurd (e.symm.trans e3) e'
  · subst e; omega
  · exact absurd (e3.trans e'.symm) e
  · subst e'; omega
  · subst e3
    have := Bt.Bs.cmp_turn ha hb
    omega
  · have := Bt.Bs.cmp_trans ha hb hc (by omega) (by omega)
    omega
def wkQ (a : List Nat) (x : Int) (b : List Nat) (y : Int) : Bool := decide (x = y) && Bt.Bs.sub b a
theorem wkQ_self {a : List Nat} (ha : Ok a) (x : Int) : wkQ a x a x = true := by
  simp [wkQ, (Bt.Bs.sub_has ha ha).2 fun n _ h => h]
theorem wkQ_trans {a b c : List Nat} (ha : Ok a) (hb : Ok b) (hc : Ok c) {x y z : Int} (h1 : wkQ a x b y = true) (h2 : wkQ b y c z = true) : wkQ a x c z = true := by
  unfold wkQ at *
  simp only [Bool.and_eq_true, decide_eq_true_eq] at *
  exact ⟨h1.1.trans h2.1, (Bt.Bs.sub_has hc ha).2 fun n hn h => (Bt.Bs.sub_has hb ha).1 h1.2 n hn ((Bt.Bs.sub_has hc hb).1 h2.2 n hn h)⟩
theorem wkQ_anti {a b : List Nat} (ha : Ok a) (hb : Ok b) {x y : Int} (h1 : wkQ a x b y = true) (h2 : wkQ b y a x = true) : sameQ a x b y = true := by
  unfold wkQ at *
  simp only [Bool.and_eq_true, decide_eq_true_eq] at *
  obtain ⟨e, s1⟩ := h1
  obtain ⟨-, s2⟩ := h2
  subst e
  have : a = b := Bt.Bs.has_ext ha hb fun n hn => by
    rw [Bool.eq_iff_iff]
    exact ⟨fun h => (Bt.Bs.sub_has ha hb).1 s2 n hn h, fun h => (Bt.Bs.sub_has hb ha).1 s1 n hn h⟩
  subst this
  exact sameQ_self a x
theorem same_zero {a b : List Nat} (ha : Ok a) (hb : Ok b) (x y : Int) : (decide (cmpQ a b x y = 0)) = sameQ a x b y := by
  have h := cmpQ_zero ha hb x y
  unfold sameQ
  rw [Bool.eq_iff_iff]
  simp [h]
end Go.Proofs.YtkmmlimekachbabGreatDoor
