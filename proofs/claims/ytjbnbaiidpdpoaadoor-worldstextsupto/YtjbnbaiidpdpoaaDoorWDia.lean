/-
  The chapter's model, and two more: plain. No condition.
-/
import Derived.Test.YtjbnbaiidpdpoaaDoorWParse
namespace Go.Proofs.YtjbnbaiidpdpoaaDoor.Wm
open Go.RowKit
open Wd (Md Rc Ed Sub upd vl allW inW names)

def bp : ByteArray := ⟨#[112]⟩
def bq : ByteArray := ⟨#[113]⟩
def dmd : Md := ⟨[[1, 2], [3], [3], []], [[], [bp], [bp], [bp, bq]]⟩
def cyc : Md := ⟨[[1], [0]], [[], []]⟩
def two : Md := ⟨[[1], []], [[], [bp]]⟩
def T4 (a b : Nat) : Bool := a == b || (a == 0 && (b == 1 || b == 2 || b == 3)) || ((a == 1 || a == 2) && b == 3)
def T2 (a b : Nat) : Bool := a == b || (a == 0 && b == 1)
theorem rc_mat {u : List (List Int)} {T : Nat → Nat → Bool} (hr : ∀ a, T a a = true) (hc : ∀ a b c, Ed u a b → T b c = true → T a c = true) (hs : ∀ a b, T a b = true → Rc u a b) : ∀ a b, T a b = true ↔ Rc u a b := fun a b => ⟨hs a b, fun h => by
  induction h with
  | refl => exact hr _
  | step e _ ih => exact hc _ _ _ e ih⟩
theorem dmd_ed {a b : Nat} (h : Ed dmd.up a b) : (a = 0 ∧ (b = 1 ∨ b = 2)) ∨ (a = 1 ∧ b = 3) ∨ (a = 2 ∧ b = 3) := by
  obtain ⟨r, hr, hb⟩ := h
  match a, hr with
  | 0, hr => cases hr; simp at hb; omega
  | 1, hr => cases hr; simp at hb; omega
  | 2, hr => cases hr; simp at hb; omega
  | 3, hr => cases hr; simp at hb
  | a + 4, hr => cases hr
theorem isO_dmd : IsO dmd.up T4 := rc_mat (fun a => by simp [T4]) (fun a b c he h => by
    rcases dmd_ed he with ⟨rfl, rfl | rfl⟩ | ⟨rfl, rfl⟩ | ⟨rfl, rfl⟩ <;> simp [T4] at h ⊢ <;> omega)
  (fun a b h => by
    have e1 : ∀ x y, (x = 0 ∧ (y = 1 ∨ y = 2)) ∨ (x = 1 ∧ y = 3) ∨ (x = 2 ∧ y = 3) → Ed dmd.up x y := fun x y h => by
      rcases h with ⟨rfl, rfl | rfl⟩ | ⟨rfl, rfl⟩ | ⟨rfl, rfl⟩ <;> exact ⟨_, rfl, by simp⟩
    simp only [T4, Bool.or_eq_true, Bool.and_eq_true, beq_iff_eq] at h
    rcases h with (rfl | ⟨rfl, (rfl | rfl) | rfl⟩) | ⟨rfl | rfl, rfl⟩
    · exact .refl _
    · exact .one (e1 _ _ (by omega))
    · exact .one (e1 _ _ (by omega))
    · exact .step (e1 0 1 (by omega)) (.one (e1 1 3 (by omega)))
    · exact .one (e1 _ _ (by omega))
    · exact .one (e1 _ _ (by omega)))
theorem lt4 {a : Nat} (h : a < 4) : a = 0 ∨ a = 1 ∨ a = 2 ∨ a = 3 := by omega
theorem dmd_in : ∀ r ∈ dmd.up, allW 4 r = true := by decide
theorem good_dmd : Wd.Good dmd := by
  refine ⟨by decide +kernel, fun a b ha h1 h2 => ?_, fun a b ha h => ?_⟩
  · have k1 := (isO_dmd a b).2 h1
    have k2 := (isO_dmd b a).2 h2
    simp only [T4, Bool.or_eq_true, Bool.and_eq_true, beq_iff_eq] at k1 k2
    omega
  · have hb : b < 4 := Wd.rc_lt dmd_in h ha
    have k1 := (isO_dmd a b).2 h
    have v0 : vl dmd 0 = [] := rfl
    have v1 : vl dmd 1 = [bp] := rfl
    have v2 : vl dmd 2 = [bp] := rfl
    have v3 : vl dmd 3 = [bp, bq] := rfl
    have ha4 : a < 4 := ha
    rcases lt4 ha4 with rfl | rfl | rfl | rfl <;> rcases lt4 hb with rfl | rfl | rfl | rfl <;> first
      | (exact fun x hx => hx)
      | (exact absurd k1 (by decide))
      | (rw [v0]; exact fun x hx => (by cases hx))
      | (rw [v1, v3]; exact fun x hx => by simp at hx; subst hx; simp)
      | (rw [v2, v3]; exact fun x hx => by simp at hx; subst hx; simp)
theorem two_ed {a b : Nat} (h : Ed two.up a b) : a = 0 ∧ b = 1 := by
  obtain ⟨r, hr, hb⟩ := h
  match a, hr with
  | 0, hr => cases hr; simp at hb; omega
  | 1, hr => cases hr; simp at hb
  | a + 2, hr => cases hr
theorem isO_two : IsO two.up T2 := rc_mat (fun a => by simp [T2]) (fun a b c he h => by
    obtain ⟨rfl, rfl⟩ := two_ed he
    simp [T2] at h ⊢; omega)
  (fun a b h => by
    simp only [T2, Bool.or_eq_true, Bool.and_eq_true, beq_iff_eq] at h
    rcases h with rfl | ⟨rfl, rfl⟩
    · exact .refl _
    · exact .one ⟨_, rfl, by simp⟩)
theorem good_two : Wd.Good two := by
  refine ⟨by decide +kernel, fun a b ha h1 h2 => ?_, fun a b ha h => ?_⟩
  · have k1 := (isO_two a b).2 h1
    have k2 := (isO_two b a).2 h2
    simp only [T2, Bool.or_eq_true, Bool.and_eq_true, beq_iff_eq] at k1 k2
    omega
  · have k1 := (isO_two a b).2 h
    simp only [T2, Bool.or_eq_true, Bool.and_eq_true, beq_iff_eq] at k1
    rcases k1 with rfl | ⟨rfl, rfl⟩
    · exact fun x hx => hx
    · rw [show vl two 0 = [] from rfl]; exact fun x hx => (by cases hx)
theorem bad_cyc : ¬ Wd.Good cyc := fun g => by
  have e1 : Ed cyc.up 0 1 := ⟨_, rfl, by simp⟩
  have e2 : Ed cyc.up 1 0 := ⟨_, rfl, by simp⟩
  have := g.anti 0 1 (by decide) (.one e1) (.one e2)
  cases this
def h4 (a : Nat) : Nat := if a = 0 then 3 else if a = 3 then 1 else 2
theorem hg_dmd : Hg T4 4 h4 := ⟨fun a ha => by rcases lt4 ha with rfl | rfl | rfl | rfl <;> decide, fun a _ => by unfold h4; split; omega; split <;> omega⟩
def txt4 : List UInt8 := [48, 32, 62, 32, 49, 32, 50, 10, 49, 32, 62, 32, 51, 32, 58, 32, 112, 10, 50, 32, 62, 32, 51, 32, 58, 32, 112, 10, 51, 32, 58, 32, 112, 32, 113, 10]
theorem text_dmd : textF dmd = txt4 := by kernel_rfl
def s2 : ByteArray := ⟨#[48, 32, 62, 32, 49, 10, 49, 32, 58, 32, 112, 10]⟩
theorem mdL_s2 : mdL (linesB s2) = two := by kernel_rfl
theorem up_s2 : (linesB s2).all (fun x => (upL x).isSome) = true := by kernel_rfl
theorem text_s2 : textF two = s2.data.toList := by kernel_rfl
theorem po_s2 : PO s2 := ⟨by decide, fun x hx => List.all_eq_true.1 up_s2 x hx, by rw [mdL_s2]; exact good_two, by rw [mdL_s2]; exact text_s2⟩
theorem fit_dmd : Fit dmd := ⟨by decide, by decide, by decide, by decide⟩
theorem fit_cyc : Fit cyc := ⟨by decide, by decide, by decide, by decide⟩
theorem tl_dmd : (textF dmd).length ≤ 140737488351232 := by rw [text_dmd]; decide
end Go.Proofs.YtjbnbaiidpdpoaaDoor.Wm
