/-
  Plain mathematics: the text of a formula is read as its number, and nothing is put. No condition.
-/
import Derived.Test.YtcidldgenogdkaaGreatDoorBText
import Derived.Test.YtcidldgenogdkaaGreatDoorSFace
namespace Go.Proofs.YtcidldgenogdkaaGreatDoor
open Fm (Nd)
open Sx (Tn)

namespace Bk
def pj (x : Tn) : P := (x.k, x.s.data.toList)
theorem counts_pj (x : Tn) : Sx.counts x = ct (pj x) := rfl
theorem cnt_pj (ts : List Tn) : cnt ts = cn (ts.map pj) := by
  unfold cnt cn
  rw [List.filter_map, List.length_map]
  rfl
theorem over_none : ∀ (ts : List Tn) (n : Nat), n + cnt ts ≤ 512 → over ts n = none
  | [], _, _ => rfl
  | x :: r, n, h => by
    have e : cnt (x :: r) = (if Sx.counts x then 1 else 0) + cnt r := by
      unfold cnt
      cases hc : Sx.counts x <;> simp [hc]
      omega
    rw [e] at h
    show (if 512 < (if Sx.counts x then n + 1 else n) then some x else over r (if Sx.counts x then n + 1 else n)) = none
    cases hc : Sx.counts x
    · rw [hc] at h
      have h' : n + (0 + cnt r) ≤ 512 := h
      rw [if_neg (show ¬ 512 < (if false = true then n + 1 else n) from by show ¬ 512 < n; omega)]
      exact over_none r n (by omega)
    · rw [hc] at h
      have h' : n + (1 + cnt r) ≤ 512 := h
      rw [if_neg (show ¬ 512 < (if true = true then n + 1 else n) from by show ¬ 512 < n + 1; omega)]
      exact over_none r (n + 1) (by omega)
theorem toks_pj (s : List UInt8) (x : List P) (h : Toks s (x.map tkOf)) : (toks s).map pj = x ++ [(0, [])] := by
  obtain ⟨h1, h2⟩ := toks_all s _ h
  unfold toks
  rw [if_pos h1, List.map_map]
  have e : (Tk.scan s).1.map (pj ∘ tn s) = ((Tk.scan s).1.map (·.1)).map fun y => (y.1, y.2.1) := by
    rw [List.map_map]
    refine List.map_congr_left fun y _ => ?_
    simp [pj, tn]
  rw [e, h2, List.map_append, List.map_map]
  have e2 : x.map ((fun y : Tk.Tok => (y.1, y.2.1)) ∘ tkOf) = x := (List.map_congr_left fun y _ => rfl).trans (List.map_id x)
  rw [e2]
  rfl
theorem tk_pj {ts : List Tn} {j : Nat} (h : j < (ts.map pj).length) : pj (Sx.tk ts j) = (ts.map pj)[j] := by
  have h' : j < ts.length := by simpa using h
  rw [List.getElem_map]
  unfold Sx.tk
  rw [List.getD_eq_getElem?_getD, List.getElem?_eq_getElem h']
  rfl
theorem mt_of {ts : List Tn} {x y : List P} (h : ts.map pj = x ++ y) : Mt ts 0 x := fun j hj => by
  have hj' : j < (ts.map pj).length := by rw [h, List.length_append]; omega
  have := tk_pj hj'
  rw [List.getElem_of_eq h, List.getElem_append_left hj] at this
  rw [Nat.zero_add, ← this]
  exact ⟨rfl, rfl⟩
theorem fin_end {ts : List Tn} {a : Sx.T} {k m : Nat} (hk : (Sx.tk ts k).k = 0) : finO true ts (.ok a k m) = .ok a k m := by
  show (if true = true ∧ (Sx.tk ts k).k ≠ 0 then _ else _) = _
  rw [if_neg (by simp [hk])]
theorem fin_not {ts : List Tn} {a : Sx.T} {k m : Nat} (hk : (Sx.tk ts k).k ≠ 0) : finO true ts (.ok a k m) = .bad (if 512 < Sx.up ts k m then 40 else 41) (Sx.tk ts k) := by
  show (if true = true ∧ (Sx.tk ts k).k ≠ 0 then _ else _) = _
  rw [if_pos ⟨rfl, hk⟩]
/-- Reading tokens that end behind a formula. -/
theorem whole_of {ts : List Tn} {a : Sx.T} {k m : Nat} (h : Sx.Rd ts .formula 0 0 0 (.ok a k m)) : Sx.rd ts (8 * ts.length + 5) .formula 0 0 0 = some (.ok a k m) := by
  obtain ⟨f, hf⟩ := h
  obtain ⟨o, ho, _⟩ := Sx.rd_total ts (8 * ts.length + 5) .formula 0 0 0 (Nat.zero_le _) (by simp [Sx.cost])
  have h1 := Sx.rd_le ts (Nat.le_max_left f (8 * ts.length + 5)) hf
  have h2 := Sx.rd_le ts (Nat.le_max_right f (8 * ts.length + 5)) ho
  rw [h1] at h2
  rw [ho, h2]
theorem parse_text {t : List Nd} (hT : Fm.Ok t) {i : Int} (hi : Fm.has t i = true) (hc : cnt (toks (Pr.text t i)) ≤ 512) : parseR (Pr.text t i) t = ((i, 0, Sx.tz), t) := by
  have h0 := Fm.has_iff.1 hi
  have hcut := cut_text hT (i.toNat + 1) i hi (by omega) [] [] soft_nil (Toks.nil [] rfl)
  rw [List.append_nil, List.append_nil] at hcut
  have hP := toks_pj _ _ hcut
  generalize hts : toks (Pr.text t i) = ts at *
  have hov : over ts 0 = none := over_none ts 0 (by omega)
  rw [cnt_pj, hP, cn_app] at hc
  have hc0 : cn [((0 : Int), ([] : List UInt8))] = 0 := rfl
  have hdp := dp_le (t := t) (i.toNat + 1) i
  have hW := way_tree (ts := ts) hT (i.toNat + 1) i hi (by omega) 0 0 0 (mt_of hP) (by omega) (by omega)
  have hpt := Rp.pt_tree hT (i.toNat + 1) i hi (by omega)
  generalize pk t (i.toNat + 1) i = x at *
  generalize Rp.tree t (i.toNat + 1) i = a at *
  have hx : x.length < (ts.map pj).length := by rw [hP]; simp
  have hend := tk_pj hx
  rw [List.getElem_of_eq hP, List.getElem_append_right (Nat.le_refl _)] at hend
  have hk : (Sx.tk ts x.length).k = 0 := by
    have := congrArg Prod.fst hend
    simpa [pj] using this
  have hs : ∀ g, Sx.sgn (Sx.tk ts (0 + x.length)) g = false := fun g => by
    unfold Sx.sgn
    rw [Nat.zero_add, hk]
    rfl
  have hR := whole_of (Sx.Rd.formula (hW.implied (hs _) (hs _) (hs _)) (hs _))
  have hw : whole true ts t = ((i, ((0 + x.length : Nat) : Int), 0, Sx.tz), t) := by
    unfold whole fin
    rw [hR]
    show wholeO t (finO true ts (.ok a (0 + x.length) (0 + cn x))) = _
    rw [fin_end (by rw [Nat.zero_add]; exact hk)]
    show (if (Sx.pt a t).2.1 = 0 then (((Sx.pt a t).1, ((0 + x.length : Nat) : Int), 0, Sx.tz), (Sx.pt a t).2.2) else ((0, 0, (Sx.pt a t).2.1, Sx.tz), t)) = _
    rw [hpt]
    rfl
  unfold parseR
  rw [hts, hov]
  show (((whole true ts t).1.1, (whole true ts t).1.2.2.1, (whole true ts t).1.2.2.2), (whole true ts t).2) = _
  rw [hw]
end Bk
end Go.Proofs.YtcidldgenogdkaaGreatDoor
