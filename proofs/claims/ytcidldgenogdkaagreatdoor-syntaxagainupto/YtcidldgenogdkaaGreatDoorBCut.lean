/-
  Plain mathematics: the text of a formula is cut into its tokens. No condition.
-/
import Derived.Test.YtcidldgenogdkaaGreatDoorGTd
import Derived.Test.YtcidldgenogdkaaGreatDoorGBa
namespace Go.Proofs.YtcidldgenogdkaaGreatDoor
open Fm (Nd)

namespace Bk
/-- A text that is cut into these tokens, and nothing else but gaps. -/
inductive Toks : List UInt8 → List Tk.Tok → Prop
  | nil (l : List UInt8) (h : Tk.skip l = l.length) : Toks l []
  | cons (l x r : List UInt8) (t : Tk.Tok) (ts : List Tk.Tok) (h1 : l.drop (Tk.skip l) = x ++ r) (h2 : Tk.cut (x ++ r) = (t, x.length, 0)) (h3 : t.1 ≠ 0) (h4 : x ≠ []) (h : Toks r ts) : Toks l (t :: ts)
theorem Toks.blank {l : List UInt8} {ts : List Tk.Tok} (h : Toks l ts) : Toks (32 :: l) ts := by
  have hg : Tk.skip (32 :: l) = 1 + Tk.skip l := Tk.skip_blank 32 l (by decide)
  cases h with
  | nil _ h => exact Toks.nil _ (by rw [hg, h, List.length_cons]; omega)
  | cons _ x r t ts h1 h2 h3 h4 h => exact Toks.cons _ x r t ts (by rw [hg, Nat.add_comm, List.drop_succ_cons, h1]) h2 h3 h4 h
theorem cut_c (c : UInt8) (r : List UInt8) : Tk.cut (c :: r) = if Tk.isBeg c = true then Tk.cutName (c :: r) else if Tk.isDig c = true then Tk.cutNum (c :: r) else if c.toNat < 128 then Tk.cutSign (c :: r) else Tk.cutRune (c :: r) := rfl
/-- What may stand behind a name: nothing, or a byte that is none of a name. -/
def Soft (r : List UInt8) : Prop := ∀ d r', r = d :: r' → Tk.isIn d = false
theorem Toks.sign {c : UInt8} {x r : List UInt8} {ts : List Tk.Tok} (h : Toks r ts) (hb : Tk.isBlank c = false) (h35 : c.toNat ≠ 35) (hc : Tk.cut (c :: (x ++ r)) = ((3, c :: x, 0), x.length + 1, 0)) : Toks (c :: (x ++ r)) ((3, c :: x, 0) :: ts) := by
  refine Toks.cons _ (c :: x) r _ ts ?_ ?_ (by simp) (by simp) h
  · rw [Tk.skip_else c _ hb h35]; rfl
  · rw [List.cons_append, hc]; rfl
theorem beg_plain {c : UInt8} (h : Tk.isBeg c = true) : Tk.isBlank c = false ∧ c.toNat ≠ 35 := by
  unfold Tk.isBeg at h
  unfold Tk.isBlank
  simp only [Bool.or_eq_true, Bool.and_eq_true, decide_eq_true_eq] at h
  refine ⟨?_, by omega⟩
  simp only [Bool.or_eq_false_iff, decide_eq_false_iff_not]
  omega
theorem run_soft : ∀ (x r : List UInt8), x.all Tk.isIn = true → Soft r → Tk.run Tk.isIn (x ++ r) = x.length
  | [], r, _, hr => by
    cases r with
    | nil => rfl
    | cons d r => rw [List.nil_append, Tk.run_cons, hr d r rfl]; rfl
  | c :: x, r, h, hr => by
    simp only [List.all_cons, Bool.and_eq_true] at h
    rw [List.cons_append, Tk.run_cons, if_pos h.1, run_soft x r h.2 hr]
    rfl
theorem Toks.name {c : UInt8} {x r : List UInt8} {ts : List Tk.Tok} (h : Toks r ts) (hr : Soft r) (hb : Tk.isBeg c = true) (hx : x.all Tk.isIn = true) (hl : x.length + 1 ≤ 31) : Toks ((c :: x) ++ r) ((1, c :: x, 0) :: ts) := by
  obtain ⟨h1, h2⟩ := beg_plain hb
  have hrun : Tk.run Tk.isIn ((c :: x) ++ r) = x.length + 1 := run_soft (c :: x) r (by simp only [List.all_cons, Bool.and_eq_true]; exact ⟨by unfold Tk.isIn; rw [hb]; rfl, hx⟩) hr
  refine Toks.cons _ (c :: x) r _ ts ?_ ?_ (by simp) (by simp) h
  · rw [List.cons_append, Tk.skip_else c _ h1 h2]; rfl
  · rw [List.cons_append, cut_c, if_pos hb]
    unfold Tk.cutName
    rw [← List.cons_append, hrun, if_neg (by omega)]
    simp
theorem toks_scan (s : List UInt8) {l : List UInt8} {ts : List Tk.Tok} (h : Toks l ts) : ∀ (f o : Nat) (a : List (Tk.Tok × Nat)), s.drop o = l → o ≤ s.length → s.length < o + f → ∃ res : List (Tk.Tok × Nat), Tk.scanF f s o a = (a ++ res, 0, 0) ∧ res.map (·.1) = ts ++ [(0, [], 0)] := by
  induction h with
  | nil l h =>
    intro f o a hl ho hf
    obtain ⟨f, rfl⟩ : ∃ f', f = f' + 1 := ⟨f - 1, by omega⟩
    have hll : l.length = s.length - o := by rw [← hl, List.length_drop]
    rw [Tk.scanF_step, hl, h]
    have e : s.drop (o + l.length) = [] := List.drop_eq_nil_of_le (by omega)
    rw [e, if_neg (by decide), if_pos (show (Tk.cut []).1.1 = 0 from rfl)]
    exact ⟨_, rfl, rfl⟩
  | cons l x r t ts h1 h2 h3 h4 h ih =>
    intro f o a hl ho hf
    obtain ⟨f, rfl⟩ : ∃ f', f = f' + 1 := ⟨f - 1, by omega⟩
    have e : s.drop (o + Tk.skip l) = x ++ r := by rw [← List.drop_drop, hl, h1]
    have hx : 0 < x.length := List.length_pos_iff.2 h4
    have hlen := congrArg List.length e
    rw [List.length_drop, List.length_append] at hlen
    rw [Tk.scanF_step, hl, e, h2, if_neg (by simp), if_neg h3]
    obtain ⟨res, hr1, hr2⟩ := ih f (o + Tk.skip l + x.length) (a ++ [(t, o + Tk.skip l)]) (by rw [← List.drop_drop, e, List.drop_left]) (by omega) (by omega)
    refine ⟨(t, o + Tk.skip l) :: res, ?_, by rw [List.map_cons, hr2]; rfl⟩
    show Tk.scanF f s (o + Tk.skip l + x.length) (a ++ [(t, o + Tk.skip l)]) = _
    rw [hr1]
    simp
theorem toks_all (s : List UInt8) (ts : List Tk.Tok) (h : Toks s ts) : (Tk.scan s).2.1 = 0 ∧ (Tk.scan s).1.map (·.1) = ts ++ [(0, [], 0)] := by
  obtain ⟨res, h1, h2⟩ := toks_scan s h (s.length + 1) 0 [] List.drop_zero (by omega) (by omega)
  have e : Tk.scan s = ([] ++ res, 0, 0) := h1
  rw [e]
  exact ⟨rfl, h2⟩
def tkOf (x : P) : Tk.Tok := (x.1, x.2, 0)
theorem soft_nil : Soft [] := fun d r' h => by cases h
theorem soft_cons {d : UInt8} (r : List UInt8) (h : Tk.isIn d = false) : Soft (d :: r) := fun d' r' e => by cases e; exact h
theorem cut_not (r : List UInt8) : Tk.cut (126 :: ([] ++ r)) = ((3, [126], 0), 1, 0) := by rw [cut_c]; simp [Tk.isBeg, Tk.isDig, Tk.cutSign, Tk.signs, Tk.signIn]
theorem cut_open (r : List UInt8) : Tk.cut (40 :: ([] ++ r)) = ((3, [40], 0), 1, 0) := by rw [cut_c]; simp [Tk.isBeg, Tk.isDig, Tk.cutSign, Tk.signs, Tk.signIn]
theorem cut_shut (r : List UInt8) : Tk.cut (41 :: ([] ++ r)) = ((3, [41], 0), 1, 0) := by rw [cut_c]; simp [Tk.isBeg, Tk.isDig, Tk.cutSign, Tk.signs, Tk.signIn]
theorem cut_and (r : List UInt8) : Tk.cut (38 :: ([] ++ r)) = ((3, [38], 0), 1, 0) := by rw [cut_c]; simp [Tk.isBeg, Tk.isDig, Tk.cutSign, Tk.signs, Tk.signIn]
theorem cut_or (r : List UInt8) : Tk.cut (124 :: ([] ++ 32 :: r)) = ((3, [124], 0), 1, 0) := by rw [cut_c]; simp [Tk.isBeg, Tk.isDig, Tk.cutSign, Tk.signs, Tk.signIn]
theorem cut_imp (r : List UInt8) : Tk.cut (45 :: ([62] ++ r)) = ((3, [45, 62], 0), 2, 0) := by rw [cut_c]; simp [Tk.isBeg, Tk.isDig, Tk.cutSign, Tk.signs, Tk.signIn]
end Bk
end Go.Proofs.YtcidldgenogdkaaGreatDoor
