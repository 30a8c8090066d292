/-
  Plain mathematics: the text of a formula is cut into its tokens. No condition.
-/
import Derived.Test.YtcidldgenogdkaaGreatDoorGTd
import Derived.Test.YtcidldgenogdkaaGreatDoorGBa
import Derived.Test.YtcidldgenogdkaaGreatDoorSFace
namespace Go.Proofs.YtcidldgenogdkaaGreatDoor
open Fm (Nd)

namespace Bk
/-- A text that is cut into these tokens, and nothing else but gaps. -/
inductive Toks : List UInt8 → List Tk.Tok → Prop
  | nil (l : List UInt8) (h : Tk.skip l = l.length) : Toks l []
  | cons (l x r : List UInt8) (t : Tk.Tok) (ts : List Tk.Tok) (h1 : l.drop (Tk.skip l) = x ++ r) (h2 : Tk.cut (x ++ r) = (t, x.length, 0)) (h3 : t.1 ≠ 0) (h4 : x ≠ []) (h : Toks r ts) : Toks l (t :: ts)
theorem Toks.blank {l : List UInt8} {ts : List Tk.Tok} (h : Toks l ts) : Toks (32 :: l) ts := by
  have hg : Tk.skip (32 :: l) = 1 + Tk.skip l := Tk.skip_blank 32 l (by decide)
  cases h with
  | nil _ h => exact Toks.nil _ (by rw [hg, h, List.length_cons]; omega)
  | cons _ x r t ts h1 h2 h3 h4 h => exact Toks.cons _ x r t ts (by rw [hg, Nat.add_comm, List.drop_succ_cons, h1]) h2 h3 h4 h
theorem cut_c (c : UInt8) (r : List UInt8) : Tk.cut (c :: r) = if Tk.isBeg c = true then Tk.cutName (c :: r) else if Tk.isDig c = true then Tk.cutNum (c :: r) else if c.toNat < 128 then Tk.cutSign (c :: r) else Tk.cutRune (c :: r) := rfl
/-- What may stand behind a name: nothing, or a byte that is none of a name. -/
def Soft (r : List UInt8) : Prop := ∀ d r', r = d :: r' → Tk.isIn d = false
theorem Toks.sign {c : UInt8} {x r : List UInt8} {ts : List Tk.Tok} (h : Toks r ts) (hb : Tk.isBlank c = false) (h35 : c.toNat ≠ 35) (hc : Tk.cut (c :: (x ++ r)) = ((3, c :: x, 0), x.length + 1, 0)) : Toks (c :: (x ++ r)) ((3, c :: x, 0) :: ts) := by
  refine Toks.cons _ (c :: x) r _ ts ?_ ?_ (by simp) (by simp) h
  · rw [Tk.skip_else c _ hb h35]; rfl
  · rw [List.cons_append, hc]; rfl
theorem beg_plain {c : UInt8} (h : Tk.isBeg c = true) : Tk.isBlank c = false ∧ c.toNat ≠ 35 := by
  unfold Tk.isBeg at h
  unfold Tk.isBlank
  simp only [Bool.or_eq_true, Bool.and_eq_true, decide_eq_true_eq] at h
  refine ⟨?_, by omega⟩
  simp only [Bool.or_eq_false_iff, decide_eq_false_iff_not]
  omega
theorem run_soft : ∀ (x r : List UInt8), x.all Tk.isIn = true → Soft r → Tk.run Tk.isIn (x ++ r) = x.length
  | [], r, _, hr => by
    cases r with
    | nil => rfl
    | cons d r => rw [List.nil_append, Tk.run_cons, hr d r rfl]; rfl
  | c :: x, r, h, hr => by
    simp only [List.all_cons, Bool.and_eq_true] at h
    rw [List.cons_append, Tk.run_cons, if_pos h.1, run_soft x r h.2 hr]
    rfl
theorem Toks.name {c : UInt8} {x r : List UInt8} {ts : List Tk.Tok} (h : Toks r ts) (hr : Soft r) (hb : Tk.isBeg c = true) (hx : x.all Tk.isIn = true) (hl : x.length + 1 ≤ 31) : Toks ((c :: x) ++ r) ((1, c :: x, 0) :: ts) := by
  obtain ⟨h1, h2⟩ := beg_plain hb
  have hrun : Tk.run Tk.isIn ((c :: x) ++ r) = x.length + 1 := run_soft (c :: x) r (by simp only [List.all_cons, Bool.and_eq_true]; exact ⟨by unfold Tk.isIn; rw [hb]; rfl, hx⟩) hr
  refine Toks.cons _ (c :: x) r _ ts ?_ ?_ (by simp) (by simp) h
  · rw [List.cons_append, Tk.skip_else c _ h1 h2]; rfl
  · rw [List.cons_append, cut_c, if_pos hb]
    unfold Tk.cutName
    rw [← List.cons_append, hrun, if_neg (by omega)]
    simp
theorem toks_scan (s : List UInt8) {l : List UInt8} {ts : List Tk.Tok} (h : Toks l ts) : ∀ (f o : Nat) (a : List (Tk.Tok × Nat)), s.drop o = l → o ≤ s.length → s.length < o + f → ∃ res : List (Tk.Tok × Nat), Tk.scanF f s o a = (a ++ res, 0, 0) ∧ res.map (·.1) = ts ++ [(0, [], 0)] := by
  induction h with
  | nil l h =>
    intro f o a hl ho hf
    obtain ⟨f, rfl⟩ : ∃ f', f = f' + 1 := ⟨f - 1, by omega⟩
    have hll : l.length = s.length - o := by rw [← hl, List.length_drop]
    rw [Tk.scanF_step, hl, h]
    have e : s.drop (o + l.length) = [] := List.drop_eq_nil_of_le (by omega)
    rw [e, if_neg (by decide), if_pos (show (Tk.cut []).1.1 = 0 from rfl)]
    exact ⟨_, rfl, rfl⟩
  | cons l x r t ts h1 h2 h3 h4 h ih =>
    intro f o a hl ho hf
    obtain ⟨f, rfl⟩ : ∃ f', f = f' + 1 := ⟨f - 1, by omega⟩
    have e : s.drop (o + Tk.skip l) = x ++ r := by rw [← List.drop_drop, hl, h1]
    have hx : 0 < x.length := List.length_pos_iff.2 h4
    have hlen := congrArg List.length e
    rw [List.length_drop, List.length_append] at hlen
    rw [Tk.scanF_step, hl, e, h2, if_neg (by simp), if_neg h3]
    obtain ⟨res, hr1, hr2⟩ := ih f (o + Tk.skip l + x.length) (a ++ [(t, o + Tk.skip l)]) (by rw [← List.drop_drop, e, List.drop_left]) (by omega) (by omega)
    refine ⟨(t, o + Tk.skip l) :: res, ?_, by rw [List.map_cons, hr2]; rfl⟩
    show Tk.scanF f s (o + Tk.skip l + x.length) (a ++ [(t, o + Tk.skip l)]) = _
    rw [hr1]
    simp
theorem toks_all (s : List UInt8) (ts : List Tk.Tok) (h : Toks s ts) : (Tk.scan s).2.1 = 0 ∧ (Tk.scan s).1.map (·.1) = ts ++ [(0, [], 0)] := by
  obtain ⟨res, h1, h2⟩ := toks_scan s h (s.length + 1) 0 [] List.drop_zero (by omega) (by omega)
  have e : Tk.scan s = ([] ++ res, 0, 0) := h1
  rw [e]
  exact ⟨rfl, h2⟩
def tkOf (x : P) : Tk.Tok := (x.1, x.2, 0)
theorem soft_nil : Soft [] := fun d r' h => by cases h
theorem soft_cons {d : UInt8} (r : List UInt8) (h : Tk.isIn d = false) : Soft (d :: r) := fun d' r' e => by cases e; exact h
theorem cut_not (r : List UInt8) : Tk.cut (126 :: ([] ++ r)) = ((3, [126], 0), 1, 0) := by rw [cut_c]; simp [Tk.isBeg, Tk.isDig, Tk.cutSign, Tk.signs, Tk.signIn]
theorem cut_open (r : List UInt8) : Tk.cut (40 :: ([] ++ r)) = ((3, [40], 0), 1, 0) := by rw [cut_c]; simp [Tk.isBeg, Tk.isDig, Tk.cutSign, Tk.signs, Tk.signIn]
theorem cut_shut (r : List UInt8) : Tk.cut (41 :: ([] ++ r)) = ((3, [41], 0), 1, 0) := by rw [cut_c]; simp [Tk.isBeg, Tk.isDig, Tk.cutSign, Tk.signs, Tk.signIn]
theorem cut_and (r : List UInt8) : Tk.cut (38 :: ([] ++ r)) = ((3, [38], 0), 1, 0) := by rw [cut_c]; simp [Tk.isBeg, Tk.isDig, Tk.cutSign, Tk.signs, Tk.signIn]
theorem cut_or (r : List UInt8) : Tk.cut (124 :: ([] ++ 32 :: r)) = ((3, [124], 0), 1, 0) := by rw [cut_c]; simp [Tk.isBeg, Tk.isDig, Tk.cutSign, Tk.signs, Tk.signIn]
theorem cut_imp (r : List UInt8) : Tk.cut (45 :: ([62] ++ r)) = ((3, [45, 62], 0), 2, 0) := by rw [cut_c]; simp [Tk.isBeg, Tk.isDig, Tk.cutSign, Tk.signs, Tk.signIn]
end Bk
end Go.Proofs.YtcidldgenogdkaaGreatDoor
/-
  Plain mathematics: the text of a formula is cut into its tokens. No condition.
-/
namespace Go.Proofs.YtcidldgenogdkaaGreatDoor
open Fm (Nd)

namespace Bk
section
variable {t : List Nd}
theorem cn_pe (x : List P) (b : Bool) : cn (pe x b) = cn x := by
  cases b with
  | true => rfl
  | false =>
    show cn ((3, Sx.sOpen) :: (x ++ [(3, Sx.sShut)])) = _
    rw [cn_cons, cn_app]
    simp [cn, ct]
theorem de_le (n : Nat) (b : Bool) : de n b ≤ n + 1 := by cases b <;> simp [de]
theorem dp_le : ∀ (f : Nat) (i : Int), dp t f i ≤ cn (pk t f i)
  | 0, _ => Nat.zero_le _
  | f + 1, i => by
    unfold dp pk
    by_cases h1 : (nodeOf t i).k = 1
    · rw [if_pos h1]; exact Nat.zero_le _
    rw [if_neg h1, if_neg h1]
    by_cases h2 : (nodeOf t i).k = 2
    · rw [if_pos h2]; exact Nat.zero_le _
    rw [if_neg h2, if_neg h2]
    by_cases ht : Pr.isTrue t (nodeOf t i) = true
    · rw [if_pos ht]; exact Nat.zero_le _
    rw [if_neg ht, if_neg ht]
    have hl := dp_le f (nodeOf t i).l
    have hr := dp_le f (nodeOf t i).r
    by_cases hn : Pr.isNot t (nodeOf t i) = true
    · rw [if_pos hn, if_pos hn, cn_cons, cn_pe]
      have := de_le (dp t f (nodeOf t i).l) (decide (4 ≤ Pr.lvl t (nodeOf t i).l))
      have hc : (if ct (3, Sx.sNot) = true then 1 else 0) = 1 := rfl
      omega
    rw [if_neg hn, if_neg hn]
    by_cases h5 : (nodeOf t i).k = 5
    · rw [if_pos h5, if_pos h5, cn_app, cn_cons, cn_pe]
      have := de_le (dp t f (nodeOf t i).l) (decide (2 ≤ Pr.lvl t (nodeOf t i).l))
      have hc : (if ct (3, Sx.sImp) = true then 1 else 0) = 1 := rfl
      omega
    · rw [if_neg h5, if_neg h5, cn_app, cn_cons, cn_pe, cn_pe]
      have := de_le (dp t f (nodeOf t i).l) (decide (Pr.lvl t i ≤ Pr.lvl t (nodeOf t i).l))
      have := de_le (dp t f (nodeOf t i).r) (decide (Pr.lvl t i + 1 ≤ Pr.lvl t (nodeOf t i).r))
      have hc : (if ct (3, wsg (nodeOf t i).k) = true then 1 else 0) = 1 := by
        unfold wsg
        split
        · rfl
        · split <;> rfl
      omega
theorem pe_cut {j : Int} {x : List P} (H : ∀ r ts, Soft r → Toks r ts → Toks (Pr.text t j ++ r) (x.map tkOf ++ ts)) (m : Int) {r : List UInt8} {ts : List Tk.Tok} (hr : Soft r) (h : Toks r ts) : Toks (Pr.textOf t (Pr.enc t j m) ++ r) ((pe x (decide (m ≤ Pr.lvl t j))).map tkOf ++ ts) := by
  unfold Pr.enc
  by_cases hm : m ≤ Pr.lvl t j
  · rw [if_pos hm, decide_eq_true hm, Pr.textOf_one]; exact H r ts hr h
  · rw [if_neg hm, decide_eq_false hm]
    have e : Pr.textOf t [.tx ⟨#[40]⟩, .pt j, .tx ⟨#[41]⟩] ++ r = 40 :: ([] ++ (Pr.text t j ++ (41 :: ([] ++ r)))) := by simp [Pr.textOf, Pr.pc]
    have e2 : (pe x false).map tkOf ++ ts = (3, [40], 0) :: (x.map tkOf ++ ((3, [41], 0) :: ts)) := by
      show ((3, Sx.sOpen) :: (x ++ [(3, Sx.sShut)])).map tkOf ++ ts = _
      simp [tkOf]
    rw [e, e2]
    have h2 := Toks.sign h (c := 41) (x := []) (by decide) (by decide) (cut_shut r)
    exact Toks.sign (H _ _ (soft_cons _ (by decide)) h2) (c := 40) (x := []) (by decide) (by decide) (cut_open _)
theorem beg_of {c : UInt8} (h : Fm.isL c = true) : Tk.isBeg c = true := by
  unfold Fm.isL at h
  unfold Tk.isBeg
  simp only [Bool.or_eq_true, Bool.and_eq_true, decide_eq_true_eq, UInt8.le_iff_toNat_le] at h ⊢
  have e1 : (97 : UInt8).toNat = 97 := rfl
  have e2 : (122 : UInt8).toNat = 122 := rfl
  have e3 : (65 : UInt8).toNat = 65 := rfl
  have e4 : (90 : UInt8).toNat = 90 := rfl
  omega
theorem in_of {c : UInt8} (h : Fm.inN c = true) : Tk.isIn c = true := by
  unfold Fm.inN at h
  unfold Tk.isIn Tk.isDig
  simp only [Bool.or_eq_true, Bool.and_eq_true, decide_eq_true_eq, UInt8.le_iff_toNat_le, beq_iff_eq] at h ⊢
  rcases h with ((h | h) | h) | h
  · exact Or.inl (Or.inl (beg_of h))
  · have e1 : (48 : UInt8).toNat = 48 := rfl
    have e2 : (57 : UInt8).toNat = 57 := rfl
    exact Or.inl (Or.inr (by omega))
  · subst h; exact Or.inl (Or.inl (by decide))
  · subst h; exact Or.inr rfl
theorem word_cut {s : List UInt8} (hw : Fm.word s = true) {r : List UInt8} {ts : List Tk.Tok} (hr : Soft r) (h : Toks r ts) : Toks (s ++ r) ((1, s, 0) :: ts) := by
  cases s with
  | nil => exact absurd hw (by decide)
  | cons c x =>
    unfold Fm.word at hw
    simp only [Bool.and_eq_true, decide_eq_true_eq, List.headD_cons, List.tail_cons, List.length_cons] at hw
    obtain ⟨⟨⟨⟨_, h2⟩, h3⟩, h4⟩, _⟩ := hw
    exact Toks.name h hr (beg_of h3) (List.all_eq_true.2 fun y hy => in_of (List.all_eq_true.1 h4 y hy)) h2
theorem cut_text (hT : Fm.Ok t) : ∀ (f : Nat) (i : Int), Fm.has t i = true → i.toNat < f → ∀ r ts, Soft r → Toks r ts → Toks (Pr.text t i ++ r) ((pk t f i).map tkOf ++ ts)
  | 0, _, _, h => absurd h (by omega)
  | f + 1, i, hi, hf => by
    intro r ts hr h
    have h0 := Fm.has_iff.1 hi
    rw [Pr.text_eq hT hi]
    unfold Pr.pcs pk
    by_cases h1 : (nodeOf t i).k = 1
    · rw [if_pos h1, if_pos h1, Pr.textOf_one]
      exact word_cut (word_at hT hi h1) hr h
    rw [if_neg h1, if_neg h1]
    by_cases h2 : (nodeOf t i).k = 2
    · rw [if_pos h2, if_pos h2, Pr.textOf_one]
      exact Toks.name (c := 102) (x := [97, 108, 115, 101]) h hr (by decide) (by decide) (by decide)
    rw [if_neg h2, if_neg h2]
    obtain ⟨hj, hs⟩ := Rp.kind_at hT hi h1 h2
    obtain ⟨⟨hl1, hl2⟩, hr1, hr2⟩ := parts_has hT hi hj
    have hl0 := Fm.has_iff.1 hl1
    have hr0 := Fm.has_iff.1 hr1
    have ihl := cut_text hT f (nodeOf t i).l hl1 (by omega)
    have ihr := cut_text hT f (nodeOf t i).r hr1 (by omega)
    by_cases ht : Pr.isTrue t (nodeOf t i) = true
    · rw [if_pos ht, if_pos ht, Pr.textOf_one]
      exact Toks.name (c := 116) (x := [114, 117, 101]) h hr (by decide) (by decide) (by decide)
    rw [if_neg ht, if_neg ht]
    by_cases hnot : Pr.isNot t (nodeOf t i) = true
    · rw [if_pos hnot, if_pos hnot]
      have e : Pr.textOf t (.tx ⟨#[126]⟩ :: Pr.enc t (nodeOf t i).l 4) ++ r = 126 :: ([] ++ (Pr.textOf t (Pr.enc t (nodeOf t i).l 4) ++ r)) := by simp [Pr.textOf, Pr.pc]
      rw [e]
      exact Toks.sign (pe_cut ihl 4 hr h) (c := 126) (x := []) (by decide) (by decide) (cut_not _)
    rw [if_neg hnot, if_neg hnot]
    have hnot' : Pr.isNot t (nodeOf t i) = false := by simpa using hnot
    have key : ∀ (a b : List Pr.Pc) (g : ByteArray), Pr.textOf t (a ++ (.tx g :: b)) ++ r = Pr.textOf t a ++ (g.data.toList ++ (Pr.textOf t b ++ r)) := fun a b g => by simp [Pr.textOf, Pr.pc]
    have key2 : ∀ (a b : List P) (g : List UInt8), (a ++ ((3, g) :: b)).map tkOf ++ ts = a.map tkOf ++ ((3, g, 0) :: (b.map tkOf ++ ts)) := fun a b g => by simp [tkOf]
    by_cases h5 : (nodeOf t i).k = 5
    · rw [if_pos h5, if_pos h5, key, key2, h5]
      have hlvl : Pr.lvl t i = 1 := by unfold Pr.lvl; rw [if_neg (by omega), if_neg (by omega), if_pos ⟨h5, hnot'⟩]
      rw [hlvl]
      have hR := pe_cut ihr 1 hr h
      rw [decide_eq_true (lvl_le (t := t) (nodeOf t i).r).2] at hR
      have hS := Toks.sign hR.blank (c := 45) (x := [62]) (by decide) (by decide) (cut_imp _)
      exact pe_cut ihl 2 (soft_cons _ (by decide)) hS.blank
    · rw [if_neg h5, if_neg h5, key, key2]
      have hR := pe_cut ihr (Pr.lvl t i + 1) hr h
      have h34 : (nodeOf t i).k = 3 ∨ (nodeOf t i).k = 4 := by unfold Fm.jn at hj; simp at hj; omega
      rcases h34 with h3 | h4
      · have hS := Toks.sign hR.blank (c := 38) (x := []) (by decide) (by decide) (cut_and _)
        rw [h3]
        exact pe_cut ihl (Pr.lvl t i) (soft_cons _ (by decide)) hS.blank
      · have hS := Toks.sign hR.blank (c := 124) (x := []) (by decide) (by decide) (cut_or _)
        rw [h4]
        exact pe_cut ihl (Pr.lvl t i) (soft_cons _ (by decide)) hS.blank
end
end Bk
end Go.Proofs.YtcidldgenogdkaaGreatDoor
/-
  Plain mathematics: the text of a formula is read as its number, and nothing is put. No condition.
-/
namespace Go.Proofs.YtcidldgenogdkaaGreatDoor
open Fm (Nd)
open Sx (Tn)

namespace Bk
def pj (x : Tn) : P := (x.k, x.s.data.toList)
theorem counts_pj (x : Tn) : Sx.counts x = ct (pj x) := rfl
theorem cnt_pj (ts : List Tn) : cnt ts = cn (ts.map pj) := by
  unfold cnt cn
  rw [List.filter_map, List.length_map]
  rfl
theorem over_none : ∀ (ts : List Tn) (n : Nat), n + cnt ts ≤ 512 → over ts n = none
  | [], _, _ => rfl
  | x :: r, n, h => by
    have e : cnt (x :: r) = (if Sx.counts x then 1 else 0) + cnt r := by
      unfold cnt
      cases hc : Sx.counts x <;> simp [hc]
      omega
    rw [e] at h
    show (if 512 < (if Sx.counts x then n + 1 else n) then some x else over r (if Sx.counts x then n + 1 else n)) = none
    cases hc : Sx.counts x
    · rw [hc] at h
      have h' : n + (0 + cnt r) ≤ 512 := h
      rw [if_neg (show ¬ 512 < (if false = true then n + 1 else n) from by show ¬ 512 < n; omega)]
      exact over_none r n (by omega)
    · rw [hc] at h
      have h' : n + (1 + cnt r) ≤ 512 := h
      rw [if_neg (show ¬ 512 < (if true = true then n + 1 else n) from by show ¬ 512 < n + 1; omega)]
      exact over_none r (n + 1) (by omega)
theorem toks_pj (s : List UInt8) (x : List P) (h : Toks s (x.map tkOf)) : (toks s).map pj = x ++ [(0, [])] := by
  obtain ⟨h1, h2⟩ := toks_all s _ h
  unfold toks
  rw [if_pos h1, List.map_map]
  have e : (Tk.scan s).1.map (pj ∘ tn s) = ((Tk.scan s).1.map (·.1)).map fun y => (y.1, y.2.1) := by
    rw [List.map_map]
    refine List.map_congr_left fun y _ => ?_
    simp [pj, tn]
  rw [e, h2, List.map_append, List.map_map]
  have e2 : x.map ((fun y : Tk.Tok => (y.1, y.2.1)) ∘ tkOf) = x := (List.map_congr_left fun y _ => rfl).trans (List.map_id x)
  rw [e2]
  rfl
theorem tk_pj {ts : List Tn} {j : Nat} (h : j < (ts.map pj).length) : pj (Sx.tk ts j) = (ts.map pj)[j] := by
  have h' : j < ts.length := by simpa using h
  rw [List.getElem_map]
  unfold Sx.tk
  rw [List.getD_eq_getElem?_getD, List.getElem?_eq_getElem h']
  rfl
theorem mt_of {ts : List Tn} {x y : List P} (h : ts.map pj = x ++ y) : Mt ts 0 x := fun j hj => by
  have hj' : j < (ts.map pj).length := by rw [h, List.length_append]; omega
  have := tk_pj hj'
  rw [List.getElem_of_eq h, List.getElem_append_left hj] at this
  rw [Nat.zero_add, ← this]
  exact ⟨rfl, rfl⟩
theorem fin_end {ts : List Tn} {a : Sx.T} {k m : Nat} (hk : (Sx.tk ts k).k = 0) : finO true ts (.ok a k m) = .ok a k m := by
  show (if true = true ∧ (Sx.tk ts k).k ≠ 0 then _ else _) = _
  rw [if_neg (by simp [hk])]
theorem fin_not {ts : List Tn} {a : Sx.T} {k m : Nat} (hk : (Sx.tk ts k).k ≠ 0) : finO true ts (.ok a k m) = .bad (if 512 < Sx.up ts k m then 40 else 41) (Sx.tk ts k) := by
  show (if true = true ∧ (Sx.tk ts k).k ≠ 0 then _ else _) = _
  rw [if_pos ⟨rfl, hk⟩]
/-- Reading tokens that end behind a formula. -/
theorem whole_of {ts : List Tn} {a : Sx.T} {k m : Nat} (h : Sx.Rd ts .formula 0 0 0 (.ok a k m)) : Sx.rd ts (8 * ts.length + 5) .formula 0 0 0 = some (.ok a k m) := by
  obtain ⟨f, hf⟩ := h
  obtain ⟨o, ho, _⟩ := Sx.rd_total ts (8 * ts.length + 5) .formula 0 0 0 (Nat.zero_le _) (by simp [Sx.cost])
  have h1 := Sx.rd_le ts (Nat.le_max_left f (8 * ts.length + 5)) hf
  have h2 := Sx.rd_le ts (Nat.le_max_right f (8 * ts.length + 5)) ho
  rw [h1] at h2
  rw [ho, h2]
theorem parse_text {t : List Nd} (hT : Fm.Ok t) {i : Int} (hi : Fm.has t i = true) (hc : cnt (toks (Pr.text t i)) ≤ 512) : parseR (Pr.text t i) t = ((i, 0, Sx.tz), t) := by
  have h0 := Fm.has_iff.1 hi
  have hcut := cut_text hT (i.toNat + 1) i hi (by omega) [] [] soft_nil (Toks.nil [] rfl)
  rw [List.append_nil, List.append_nil] at hcut
  have hP := toks_pj _ _ hcut
  generalize hts : toks (Pr.text t i) = ts at *
  have hov : over ts 0 = none := over_none ts 0 (by omega)
  rw [cnt_pj, hP, cn_app] at hc
  have hc0 : cn [((0 : Int), ([] : List UInt8))] = 0 := rfl
  have hdp := dp_le (t := t) (i.toNat + 1) i
  have hW := way_tree (ts := ts) hT (i.toNat + 1) i hi (by omega) 0 0 0 (mt_of hP) (by omega) (by omega)
  have hpt := Rp.pt_tree hT (i.toNat + 1) i hi (by omega)
  generalize pk t (i.toNat + 1) i = x at *
  generalize Rp.tree t (i.toNat + 1) i = a at *
  have hx : x.length < (ts.map pj).length := by rw [hP]; simp
  have hend := tk_pj hx
  rw [List.getElem_of_eq hP, List.getElem_append_right (Nat.le_refl _)] at hend
  have hk : (Sx.tk ts x.length).k = 0 := by
    have := congrArg Prod.fst hend
    simpa [pj] using this
  have hs : ∀ g, Sx.sgn (Sx.tk ts (0 + x.length)) g = false := fun g => by
    unfold Sx.sgn
    rw [Nat.zero_add, hk]
    rfl
  have hR := whole_of (Sx.Rd.formula (hW.implied (hs _) (hs _) (hs _)) (hs _))
  have hw : whole true ts t = ((i, ((0 + x.length : Nat) : Int), 0, Sx.tz), t) := by
    unfold whole fin
    rw [hR]
    show wholeO t (finO true ts (.ok a (0 + x.length) (0 + cn x))) = _
    rw [fin_end (by rw [Nat.zero_add]; exact hk)]
    show (if (Sx.pt a t).2.1 = 0 then (((Sx.pt a t).1, ((0 + x.length : Nat) : Int), 0, Sx.tz), (Sx.pt a t).2.2) else ((0, 0, (Sx.pt a t).2.1, Sx.tz), t)) = _
    rw [hpt]
    rfl
  unfold parseR
  rw [hts, hov]
  show (((whole true ts t).1.1, (whole true ts t).1.2.2.1, (whole true ts t).1.2.2.2), (whole true ts t).2) = _
  rw [hw]
end Bk
end Go.Proofs.YtcidldgenogdkaaGreatDoor
