/-
  Plain mathematics of a formula's text and its width. No condition.
-/
import Derived.Test.YtcidldgenogdkaaGreatDoorSPr
import Derived.Test.YtcidldgenogdkaaGreatDoorSPut
namespace Go.Proofs.YtcidldgenogdkaaGreatDoor.Pr
open Go.RowKit
open Fm (Nd)

/-- A formula's text, with fuel. -/
def txt (t : List Nd) : Nat → Int → List UInt8
  | 0, _ => []
  | f + 1, i => (pcs t i).flatMap fun | .tx s => s.data.toList | .pt j => txt t f j
def text (t : List Nd) (i : Int) : List UInt8 := txt t (i.toNat + 1) i
def pc (t : List Nd) : Pc → List UInt8
  | .tx s => s.data.toList
  | .pt j => text t j
def textOf (t : List Nd) (l : List Pc) : List UInt8 := l.flatMap (pc t)
theorem textOf_app (t : List Nd) (a b : List Pc) : textOf t (a ++ b) = textOf t a ++ textOf t b := by simp [textOf]
theorem textOf_one (t : List Nd) (x : Pc) : textOf t [x] = pc t x := by simp [textOf]
theorem flatMap_same {f g : Pc → List UInt8} : ∀ {l : List Pc}, (∀ x ∈ l, f x = g x) → l.flatMap f = l.flatMap g
  | [], _ => rfl
  | x :: l, h => by rw [List.flatMap_cons, List.flatMap_cons, h x (by simp), flatMap_same fun y hy => h y (by simp [hy])]
section
variable {t : List Nd}
theorem node_at {i : Int} (hi : Fm.has t i = true) : ∃ k : Nat, i = k ∧ ∃ h : k < t.length, nodeOf t i = t[k] := by
  have h := Fm.has_iff.1 hi
  refine ⟨i.toNat, by omega, by omega, ?_⟩
  unfold nodeOf
  rw [if_pos hi, List.getD_eq_getElem?_getD, List.getElem?_eq_getElem (by omega)]
  rfl
theorem enc_mem {i least : Int} {x : Pc} (h : x ∈ enc t i least) : x = .pt i ∨ x = .tx ⟨#[40]⟩ ∨ x = .tx ⟨#[41]⟩ := by
  unfold enc at h
  split at h
  · simp at h; exact Or.inl h
  · simp at h
    rcases h with h | h | h
    · exact Or.inr (Or.inl h)
    · exact Or.inl h
    · exact Or.inr (Or.inr h)
theorem sign_size (k : Int) : (sign k).size ≤ 31 := by
  unfold sign
  repeat' split
  all_goals decide
/-- The pieces of a formula of a table. -/
theorem pcs_mem (hT : Fm.Ok t) {i : Int} (hi : Fm.has t i = true) {x : Pc} (h : x ∈ pcs t i) : (∃ s, x = .tx s ∧ s.size ≤ 31) ∨ ∃ j, x = .pt j ∧ Fm.has t j = true ∧ j < i ∧ Fm.jn (nodeOf t i).k = true ∧ (j = (nodeOf t i).l ∨ j = (nodeOf t i).r) := by
  obtain ⟨k, rfl, hk, hn⟩ := node_at hi
  have hkind := Fm.ok_kind hT hk
  rw [← hn] at hkind
  have hparts : Fm.jn (nodeOf t (k : Int)).k = true → ((Fm.has t (nodeOf t (k : Int)).l = true ∧ (nodeOf t (k : Int)).l < k) ∧ (Fm.has t (nodeOf t (k : Int)).r = true ∧ (nodeOf t (k : Int)).r < k)) := fun hj => by
    rw [hn] at hj ⊢
    have hp := Fm.ok_parts hT hk hj
    exact ⟨⟨Fm.has_iff.2 ⟨hp.1.1, by omega⟩, hp.1.2⟩, Fm.has_iff.2 ⟨hp.2.1, by omega⟩, hp.2.2⟩
  have hl : ∀ least, x ∈ enc t (nodeOf t (k : Int)).l least → Fm.jn (nodeOf t (k : Int)).k = true → (∃ s, x = .tx s ∧ s.size ≤ 31) ∨ ∃ j, x = .pt j ∧ Fm.has t j = true ∧ j < (k : Int) ∧ Fm.jn (nodeOf t (k : Int)).k = true ∧ (j = (nodeOf t (k : Int)).l ∨ j = (nodeOf t (k : Int)).r) := fun least hx hj => by
    rcases enc_mem hx with rfl | rfl | rfl
    · exact Or.inr ⟨_, rfl, (hparts hj).1.1, (hparts hj).1.2, hj, Or.inl rfl⟩
    · exact Or.inl ⟨_, rfl, by decide⟩
    · exact Or.inl ⟨_, rfl, by decide⟩
  have hr : ∀ least, x ∈ enc t (nodeOf t (k : Int)).r least → Fm.jn (nodeOf t (k : Int)).k = true → (∃ s, x = .tx s ∧ s.size ≤ 31) ∨ ∃ j, x = .pt j ∧ Fm.has t j = true ∧ j < (k : Int) ∧ Fm.jn (nodeOf t (k : Int)).k = true ∧ (j = (nodeOf t (k : Int)).l ∨ j = (nodeOf t (k : Int)).r) := fun least hx hj => by
    rcases enc_mem hx with rfl | rfl | rfl
    · exact Or.inr ⟨_, rfl, (hparts hj).2.1, (hparts hj).2.2, hj, Or.inr rfl⟩
    · exact Or.inl ⟨_, rfl, by decide⟩
    · exact Or.inl ⟨_, rfl, by decide⟩
  unfold pcs at h
  split at h
  · rename_i h1
    simp at h
    subst h
    refine Or.inl ⟨_, rfl, ?_⟩
    have hc := hT.chk k hk
    rw [hn] at h1 ⊢
    by_cases hw : Fm.word t[k].s.data.toList = true
    · exact Sx.word_len hw
    · exfalso
      unfold Fm.check at hc
      rw [if_pos h1, if_neg hw] at hc
      split at hc <;> omega
  · rename_i h1
    split at h
    · simp at h; subst h; exact Or.inl ⟨_, rfl, by decide⟩
    · rename_i h2
      have hj : Fm.jn (nodeOf t (k : Int)).k = true := by rcases hkind with h | h | h; exact absurd h h1; exact absurd h h2; exact h
      split at h
      · simp at h; subst h; exact Or.inl ⟨_, rfl, by decide⟩
      · split at h
        · rcases List.mem_cons.1 h with rfl | h
          · exact Or.inl ⟨_, rfl, by decide⟩
          · exact hl _ h hj
        · split at h
          · rcases List.mem_append.1 h with h | h
            · exact hl _ h hj
            · rcases List.mem_cons.1 h with rfl | h
              · exact Or.inl ⟨_, rfl, sign_size _⟩
              · exact hr _ h hj
          · rcases List.mem_append.1 h with h | h
            · exact hl _ h hj
            · rcases List.mem_cons.1 h with rfl | h
              · exact Or.inl ⟨_, rfl, sign_size _⟩
              · exact hr _ h hj
theorem enc_len (t : List Nd) (i least : Int) : (enc t i least).length ≤ 3 := by
  unfold enc
  split <;> simp
theorem pcs_len (t : List Nd) (i : Int) : (pcs t i).length ≤ 7 := by
  have h1 := enc_len t (nodeOf t i).l
  have h2 := enc_len t (nodeOf t i).r
  unfold pcs
  repeat' split
  all_goals simp
  · have := h1 4; omega
  · have := h1 (lvl t i + 1); have := h2 (lvl t i); omega
  · have := h1 (lvl t i); have := h2 (lvl t i + 1); omega
theorem txt_fuel (hT : Fm.Ok t) : ∀ (f g : Nat) (i : Int), Fm.has t i = true → i.toNat < f → i.toNat < g → txt t f i = txt t g i
  | 0, _, i, _, h, _ => absurd h (by omega)
  | _ + 1, 0, i, _, _, h => absurd h (by omega)
  | f + 1, g + 1, i, hi, hf, hg => by
    unfold txt
    have hlt := Fm.has_iff.1 hi
    have : ∀ x ∈ pcs t i, (match x with | .tx s => s.data.toList | .pt j => txt t f j) = (match x with | .tx s => s.data.toList | .pt j => txt t g j) := fun x hx => by
      rcases pcs_mem hT hi hx with ⟨s, rfl, _⟩ | ⟨j, rfl, hj, hji, _⟩
      · rfl
      · have h0 := Fm.has_iff.1 hj
        exact txt_fuel hT f g j hj (by omega) (by omega)
    exact flatMap_same this
theorem text_eq (hT : Fm.Ok t) {i : Int} (hi : Fm.has t i = true) : text t i = textOf t (pcs t i) := by
  unfold text textOf
  show (pcs t i).flatMap _ = _
  refine flatMap_same fun x hx => ?_
  rcases pcs_mem hT hi hx with ⟨s, rfl, _⟩ | ⟨j, rfl, hj, hji, _⟩
  · rfl
  · have h0 := Fm.has_iff.1 hj
    exact txt_fuel hT _ _ j hj (by omega) (by omega)
end
/-- A text's width, as far as it is told. -/
def wd (t : List Nd) (i : Int) : Nat := min (text t i).length 65537
def pw (t : List Nd) : Pc → Nat
  | .tx s => s.size
  | .pt j => wd t j
def sumW (t : List Nd) (l : List Pc) : Nat := (l.map (pw t)).sum
theorem sumW_app (t : List Nd) (a b : List Pc) : sumW t (a ++ b) = sumW t a + sumW t b := by simp [sumW]
theorem min_sum (t : List Nd) : ∀ l : List Pc, min (sumW t l) 65537 = min (textOf t l).length 65537
  | [] => rfl
  | x :: l => by
    have ih := min_sum t l
    have e1 : sumW t (x :: l) = pw t x + sumW t l := by simp [sumW]
    have e2 : (textOf t (x :: l)).length = (pc t x).length + (textOf t l).length := by simp [textOf]
    rw [e1, e2]
    cases x with
    | tx s =>
      have e3 : (pc t (.tx s)).length = s.size := rfl
      simp only [pw, e3]
      omega
    | pt j =>
      have e3 : (pc t (.pt j)).length = (text t j).length := rfl
      simp only [pw, wd, e3]
      omega
theorem wd_sum {t : List Nd} (hT : Fm.Ok t) {i : Int} (hi : Fm.has t i = true) : wd t i = min (sumW t (pcs t i)) 65537 := by
  rw [min_sum, wd, text_eq hT hi]
theorem pw_le (t : List Nd) (x : Pc) (h : ∀ s, x = .tx s → s.size ≤ 31) : pw t x ≤ 65537 := by
  cases x with
  | tx s => have := h s rfl; show s.size ≤ _; omega
  | pt j => show min _ _ ≤ _; omega
end Go.Proofs.YtcidldgenogdkaaGreatDoor.Pr
