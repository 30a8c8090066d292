/-
  Plain mathematics of counts over tables of formulas: what is counted row by row, how often a row stands in another one. No condition.
-/
import Derived.Test.YthdcppkohalkmaaGreatFPure
namespace Go.Proofs.YthdcppkohalkmaaGreat.Ms
open Fm (Nd)

def M : Int := 1099511627776
abbrev row (t : List Nd) (i : Nat) : Nd := t.getD i Fm.z
theorem row_at {t : List Nd} {i : Nat} (h : i < t.length) : row t i = t[i] := by simp [row, h]
/-- Sums that end. -/
def sm (a b : Int) : Int := if a + b > M then M else a + b
def sums : List Int → Int → Int
  | [], a => a
  | n :: l, a => sums l (min (a + n) M)
/-- What is counted row by row: z at a row without parts, f of what its parts have. -/
def cnt (z : Int) (f : Int → Int → Int → Int) (t : List Nd) : Nat → Nat → Int
  | 0, _ => z
  | n + 1, i => if Fm.jn (row t i).k then f (row t i).k (cnt z f t n (row t i).l.toNat) (cnt z f t n (row t i).r.toNat) else z
def val (z : Int) (f : Int → Int → Int → Int) (t : List Nd) (i : Nat) : Int := cnt z f t (i + 1) i
section
variable {t : List Nd} {z z' : Int} {f f' : Int → Int → Int → Int}
theorem parts_lt (h : Fm.Ok t) {i : Nat} (hi : i < t.length) (hj : Fm.jn (row t i).k = true) : (row t i).l.toNat < i ∧ (row t i).r.toNat < i ∧ 0 ≤ (row t i).l ∧ 0 ≤ (row t i).r := by
  rw [row_at hi] at hj ⊢
  have := Fm.ok_parts h hi hj
  omega
theorem cnt_fuel (h : Fm.Ok t) : ∀ (n m i : Nat), i < t.length → i < n → i < m → cnt z f t n i = cnt z f t m i
  | 0, _, i, _, hn, _ => absurd hn (by omega)
  | _ + 1, 0, i, _, _, hm => absurd hm (by omega)
  | n + 1, m + 1, i, hi, hn, hm => by
    unfold cnt
    split <;> rename_i hj
    · have hp := parts_lt h hi hj
      rw [cnt_fuel h n m (row t i).l.toNat (by omega) (by omega) (by omega), cnt_fuel h n m (row t i).r.toNat (by omega) (by omega) (by omega)]
    · rfl
theorem val_eq (h : Fm.Ok t) {i : Nat} (hi : i < t.length) : val z f t i = if Fm.jn (row t i).k then f (row t i).k (val z f t (row t i).l.toNat) (val z f t (row t i).r.toNat) else z := by
  show cnt z f t (i + 1) i = _
  rw [cnt]
  split <;> rename_i hj
  · have hp := parts_lt h hi hj
    rw [cnt_fuel h i ((row t i).l.toNat + 1) (row t i).l.toNat (by omega) (by omega) (by omega), cnt_fuel h i ((row t i).r.toNat + 1) (row t i).r.toNat (by omega) (by omega) (by omega)]
    rfl
  · rfl
/-- Two counts beside each other. -/
theorem val_rel (h : Fm.Ok t) (R : Nat → Int → Int → Prop) (hz : ∀ i, i < t.length → Fm.jn (row t i).k = false → R i z z')
    (hf : ∀ i, i < t.length → Fm.jn (row t i).k = true → ∀ a a' b b', R (row t i).l.toNat a a' → R (row t i).r.toNat b b' → R i (f (row t i).k a b) (f' (row t i).k a' b')) :
    ∀ (n i : Nat), i < n → i < t.length → R i (val z f t i) (val z' f' t i)
  | 0, i, hn, _ => absurd hn (by omega)
  | n + 1, i, hn, hi => by
    rw [val_eq h hi, val_eq h hi]
    by_cases hj : Fm.jn (row t i).k = true
    · have hp := parts_lt h hi hj
      rw [if_pos hj, if_pos hj]
      exact hf i hi hj _ _ _ _ (val_rel h R hz hf n _ (by omega) (by omega)) (val_rel h R hz hf n _ (by omega) (by omega))
    · rw [if_neg hj, if_neg hj]
      exact hz i hi (by simpa using hj)
end
/-! ### the four counts, the program's -/
def sizeF (_ l r : Int) : Int := sums [l, r, 1] 0
def depthF (_ l r : Int) : Int := 1 + max l r
def weightF (k l r : Int) : Int := if k = 3 then sums [l, r, 2] 0 else sums [l, r, 1] 0
def gradeF (k l r : Int) : Int := if k = 5 then max (l + 1) r else max l r
def sizeV := val 1 sizeF
def depthV := val 0 depthF
def weightV := val 1 weightF
def gradeV := val 0 gradeF
/-! the document's -/
def sizeG (_ l r : Int) : Int := sm 1 (sm l r)
def weightG (k l r : Int) : Int := if k = 3 then sm (sm 1 (sm l r)) 1 else sm 1 (sm l r)
def gradeG (k l r : Int) : Int := if k = 5 then max (1 + l) r else max l r
/-! without an end -/
def sizeU := val 1 (fun _ l r => l + r + 1)
def weightU := val 1 (fun k l r => if k = 3 then l + r + 2 else l + r + 1)
section
variable {t : List Nd} (h : Fm.Ok t) {i : Nat} (hi : i < t.length)
include h hi
theorem size_ref : sizeV t i = val 1 sizeG t i ∧ 1 ≤ sizeV t i ∧ sizeV t i ≤ M :=
  val_rel h (fun _ a b => a = b ∧ 1 ≤ a ∧ a ≤ M) (fun _ _ _ => by simp [M]) (fun i hi hj a a' b b' h1 h2 => by
    obtain ⟨rfl, h1⟩ := h1; obtain ⟨rfl, h2⟩ := h2
    simp only [sizeF, sizeG, sums, sm, M] at *
    refine ⟨?_, ?_, ?_⟩ <;> (repeat' split) <;> omega) (i + 1) i (by omega) hi
theorem weight_ref : weightV t i = val 1 weightG t i ∧ 1 ≤ weightV t i ∧ weightV t i ≤ M :=
  val_rel h (fun _ a b => a = b ∧ 1 ≤ a ∧ a ≤ M) (fun _ _ _ => by simp [M]) (fun i hi hj a a' b b' h1 h2 => by
    obtain ⟨rfl, h1⟩ := h1; obtain ⟨rfl, h2⟩ := h2
    simp only [weightF, weightG, sums, sm, M] at *
    refine ⟨?_, ?_, ?_⟩ <;> (repeat' split) <;> omega) (i + 1) i (by omega) hi
theorem depth_le : 0 ≤ depthV t i ∧ depthV t i ≤ i :=
  val_rel h (fun i a _ => 0 ≤ a ∧ a ≤ (i : Int)) (z' := 0) (f' := depthF) (fun i _ _ => by omega) (fun i hi hj a a' b b' h1 h2 => by
    have := parts_lt h hi hj
    simp only [depthF] at *
    omega) (i + 1) i (by omega) hi
theorem grade_le : gradeV t i = val 0 gradeG t i ∧ 0 ≤ gradeV t i ∧ gradeV t i ≤ i :=
  val_rel h (fun i a b => a = b ∧ 0 ≤ a ∧ a ≤ (i : Int)) (fun i _ _ => by omega) (fun i hi hj a a' b b' h1 h2 => by
    obtain ⟨rfl, h1⟩ := h1; obtain ⟨rfl, h2⟩ := h2
    have := parts_lt h hi hj
    simp only [gradeF, gradeG] at *
    refine ⟨?_, ?_, ?_⟩ <;> (repeat' split) <;> omega) (i + 1) i (by omega) hi
theorem size_U : sizeV t i = min (sizeU t i) M ∧ 1 ≤ sizeU t i :=
  val_rel h (fun _ a b => a = min b M ∧ 1 ≤ b) (fun _ _ _ => by simp only [M]; omega) (fun i hi hj a a' b b' h1 h2 => by
    simp only [sizeF, sums, M] at *
    omega) (i + 1) i (by omega) hi
theorem weight_U : weightV t i = min (weightU t i) M ∧ 1 ≤ weightU t i :=
  val_rel h (fun _ a b => a = min b M ∧ 1 ≤ b) (fun _ _ _ => by simp only [M]; omega) (fun i hi hj a a' b b' h1 h2 => by
    simp only [weightF, sums, M] at *
    refine ⟨?_, ?_⟩ <;> (repeat' split) <;> omega) (i + 1) i (by omega) hi
theorem size_le_weight : sizeU t i ≤ weightU t i :=
  val_rel h (fun _ a b => a ≤ b) (fun _ _ _ => by omega) (fun i hi hj a a' b b' h1 h2 => by
    split <;> omega) (i + 1) i (by omega) hi
theorem weightU_eq : weightU t i = if Fm.jn (row t i).k then (if (row t i).k = 3 then weightU t (row t i).l.toNat + weightU t (row t i).r.toNat + 2 else weightU t (row t i).l.toNat + weightU t (row t i).r.toNat + 1) else 1 := val_eq h hi
theorem sizeU_eq : sizeU t i = if Fm.jn (row t i).k then sizeU t (row t i).l.toNat + sizeU t (row t i).r.toNat + 1 else 1 := val_eq h hi
end

/-! ### how often a row stands in another one -/
abbrev C := Nat → Int × Int
def at2 (c : C) (i : Nat) (v : Int × Int) : C := fun j => if j = i then v else c j
def add2 (ad : Int → Int → Int) (a b : Int × Int) : Int × Int := (ad a.1 b.1, ad a.2 b.2)
def swp (a : Int × Int) : Int × Int := (a.2, a.1)
def turn (k : Int) (a : Int × Int) : Int × Int := if k = 5 then swp a else a
/-- A row hands on what it has to its parts: first to the right one. -/
def stpG (ad : Int → Int → Int) (t : List Nd) (i : Nat) (c : C) : C :=
  if Fm.jn (row t i).k then
    at2 (at2 c (row t i).r.toNat (add2 ad (c (row t i).r.toNat) (c i))) (row t i).l.toNat
      (add2 ad (at2 c (row t i).r.toNat (add2 ad (c (row t i).r.toNat) (c i)) (row t i).l.toNat) (turn (row t i).k (c i)))
  else c
def ms (a b : Int) : Int := min (min (0 + a) M + b) M
abbrev stp := stpG ms
def c0 (i : Nat) : C := fun j => if j = i then (1, 0) else (0, 0)
def plc (t : List Nd) (id : Nat) : C := (List.range (id + 1)).foldr (stp t) (c0 id)
/-- Rows from k on have handed on. -/
def from_ (ad : Int → Int → Int) (t : List Nd) (id k : Nat) : C := ((List.range (id + 1)).drop k).foldr (stpG ad t) (c0 id)
def supp (c : C) (j : Nat) : Bool := decide (0 < (c j).1 + (c j).2)
def Inr (c : C) : Prop := ∀ j, 0 ≤ (c j).1 ∧ (c j).1 ≤ M ∧ 0 ≤ (c j).2 ∧ (c j).2 ≤ M
theorem inr_c0 (i : Nat) : Inr (c0 i) := fun j => by unfold c0; split <;> simp [M]
theorem turn_in {k : Int} {a : Int × Int} (h : 0 ≤ a.1 ∧ a.1 ≤ M ∧ 0 ≤ a.2 ∧ a.2 ≤ M) : 0 ≤ (turn k a).1 ∧ (turn k a).1 ≤ M ∧ 0 ≤ (turn k a).2 ∧ (turn k a).2 ≤ M := by
  unfold turn swp; split <;> ((try simp only); omega)
theorem add2_in {a b : Int × Int} (h : 0 ≤ a.1 ∧ a.1 ≤ M ∧ 0 ≤ a.2 ∧ a.2 ≤ M) (h' : 0 ≤ b.1 ∧ b.1 ≤ M ∧ 0 ≤ b.2 ∧ b.2 ≤ M) : 0 ≤ (add2 ms a b).1 ∧ (add2 ms a b).1 ≤ M ∧ 0 ≤ (add2 ms a b).2 ∧ (add2 ms a b).2 ≤ M := by
  simp only [add2, ms, M] at *; omega
theorem inr_stp (t : List Nd) (i : Nat) {c : C} (h : Inr c) : Inr (stp t i c) := by
  unfold stp stpG
  split
  · have h1 : Inr (at2 c (row t i).r.toNat (add2 ms (c (row t i).r.toNat) (c i))) := fun j => by
      unfold at2; split
      · exact add2_in (h _) (h _)
      · exact h _
    intro j
    unfold at2; split
    · exact add2_in (h1 _) (turn_in (h _))
    · exact h1 j
  · exact h
theorem inr_fold (t : List Nd) : ∀ (l : List Nat) {c : C}, Inr c → Inr (l.foldr (stp t) c)
  | [], _, h => h
  | i :: l, _, h => inr_stp t i (inr_fold t l h)
theorem ms_zero {a : Int} (h : 0 ≤ a ∧ a ≤ M) : ms a 0 = a := by simp only [ms, M] at *; omega
theorem add2_zero {a : Int × Int} (h : 0 ≤ a.1 ∧ a.1 ≤ M ∧ 0 ≤ a.2 ∧ a.2 ≤ M) : add2 ms a (0, 0) = a := by
  simp only [add2]; rw [ms_zero (by omega), ms_zero (by omega)]
theorem at2_same (c : C) (i : Nat) : at2 c i (c i) = c := by funext j; unfold at2; split <;> simp_all
theorem zero_of_supp {c : C} (h : Inr c) {j : Nat} (hs : supp c j = false) : c j = (0, 0) := by
  have h1 := h j
  have h2 : ¬ 0 < (c j).1 + (c j).2 := by simpa [supp] using hs
  exact Prod.ext (by simp only; omega) (by simp only; omega)
/-- A row that has nothing hands on nothing. -/
theorem stp_none (t : List Nd) (i : Nat) {c : C} (h : Inr c) (hs : supp c i = false) : stp t i c = c := by
  have hz := zero_of_supp h hs
  unfold stp stpG
  split
  · rw [hz, add2_zero (h _), at2_same]
    have : turn (row t i).k (0, 0) = (0, 0) := by unfold turn swp; split <;> rfl
    rw [this, add2_zero (h _), at2_same]
  · rfl
theorem stp_other (ad : Int → Int → Int) {t : List Nd} (h : Fm.Ok t) {i : Nat} (hi : i < t.length) (c : C) {j : Nat} (hj : i ≤ j) : stpG ad t i c j = c j := by
  unfold stpG
  split <;> rename_i hn
  · have hp := parts_lt h hi hn
    unfold at2
    rw [if_neg (by omega), if_neg (by omega)]
  · rfl
theorem supp_add {a b : Int × Int} (h : 0 ≤ a.1 ∧ a.1 ≤ M ∧ 0 ≤ a.2 ∧ a.2 ≤ M) (h' : 0 ≤ b.1 ∧ b.1 ≤ M ∧ 0 ≤ b.2 ∧ b.2 ≤ M) (hb : 0 < b.1 + b.2) : 0 < (add2 ms a b).1 + (add2 ms a b).2 := by
  simp only [add2, ms, M] at *; omega
theorem supp_stp (t : List Nd) (i : Nat) {c : C} (h : Inr c) : supp (stp t i c) = if supp c i && Fm.jn (row t i).k then Fm.upd (Fm.upd (supp c) (row t i).l.toNat) (row t i).r.toNat else supp c := by
  cases hs : supp c i
  · rw [stp_none t i h hs]; simp
  · have hp : 0 < (c i).1 + (c i).2 := by simpa [supp] using hs
    unfold stp stpG
    cases hj : Fm.jn (row t i).k
    · simp
    · simp only [Bool.and_self, if_true]
      funext j
      have h1 : Inr (at2 c (row t i).r.toNat (add2 ms (c (row t i).r.toNat) (c i))) := fun j => by
        unfold at2; split
        · exact add2_in (h _) (h _)
        · exact h _
      have ht : 0 < (turn (row t i).k (c i)).1 + (turn (row t i).k (c i)).2 := by unfold turn swp; split <;> ((try simp only); omega)
      unfold Fm.upd
      by_cases e1 : j = (row t i).r.toNat
      · rw [if_pos e1]
        by_cases e2 : j = (row t i).l.toNat
        · simp only [supp, at2, if_pos e2]
          exact decide_eq_true (supp_add (h1 _) (turn_in (h _)) ht)
        · simp only [supp, at2, if_neg e2, if_pos e1]
          exact decide_eq_true (supp_add (h _) (h _) hp)
      · rw [if_neg e1]
        by_cases e2 : j = (row t i).l.toNat
        · simp only [supp, at2, if_pos e2]
          exact decide_eq_true (supp_add (h1 _) (turn_in (h _)) ht)
        · simp only [supp, at2, if_neg e2, if_neg e1]
theorem supp_fold (t : List Nd) : ∀ (k : Nat) (c : C), Inr c → supp ((List.range k).foldr (stp t) c) = Fm.mark t k (supp c)
  | 0, c, _ => rfl
  | k + 1, c, h => by
    rw [List.range_succ, List.foldr_append, Fm.mark]
    show supp ((List.range k).foldr (stp t) (stp t k c)) = _
    rw [supp_fold t k _ (inr_stp t k h), supp_stp t k h]
theorem supp_c0 (i : Nat) : supp (c0 i) = Fm.upd (fun _ => false) i := by
  funext j; unfold supp c0 Fm.upd; split <;> simp
/-- The rows that stand in a row are those that are marked. -/
theorem supp_plc (t : List Nd) (id : Nat) : supp (plc t id) = Fm.mark t (id + 1) (Fm.upd (fun _ => false) id) := by
  unfold plc; rw [supp_fold t _ _ (inr_c0 id), supp_c0]
theorem fold_other (ad : Int → Int → Int) {t : List Nd} (h : Fm.Ok t) : ∀ (k : Nat) (c : C) (j : Nat), k ≤ t.length → k ≤ j + 1 → (List.range k).foldr (stpG ad t) c j = c j
  | 0, c, j, _, _ => rfl
  | k + 1, c, j, hk, hj => by
    rw [List.range_succ, List.foldr_append]
    show (List.range k).foldr (stpG ad t) (stpG ad t k c) j = _
    rw [fold_other ad h k _ j (by omega) (by omega), stp_other ad h (by omega) c (by omega)]
theorem range_drop (n k : Nat) (hk : k < n) : (List.range n).drop k = k :: (List.range n).drop (k + 1) := by
  rw [List.drop_eq_getElem_cons (by simpa using hk)]; simp
theorem range_split (n k : Nat) (hk : k ≤ n) : List.range n = List.range k ++ (List.range n).drop k := by
  have := (List.take_append_drop k (List.range n)).symm
  rwa [List.take_range, Nat.min_eq_left hk] at this
theorem from_step (ad : Int → Int → Int) (t : List Nd) (id k : Nat) (hk : k < id + 1) : from_ ad t id k = stpG ad t k (from_ ad t id (k + 1)) := by
  unfold from_; rw [range_drop _ k hk]; rfl
theorem from_top (ad : Int → Int → Int) (t : List Nd) (id : Nat) : from_ ad t id (id + 1) = c0 id := by
  unfold from_; rw [List.drop_eq_nil_of_le (by simp)]; rfl
theorem plc_from (t : List Nd) (id k : Nat) (hk : k ≤ id + 1) : plc t id = (List.range k).foldr (stp t) (from_ ms t id k) := by
  unfold plc from_
  conv => lhs; rw [range_split (id + 1) k hk]
  rw [List.foldr_append]
theorem inr_from (t : List Nd) (id k : Nat) : Inr (from_ ms t id k) := inr_fold t _ (inr_c0 id)
/-- What a row has when the rows behind it have handed on is what it has at the end. -/
theorem plc_at {t : List Nd} (h : Fm.Ok t) {id : Nat} (hid : id < t.length) {k : Nat} (hk : k ≤ id) : plc t id k = from_ ms t id (k + 1) k := by
  rw [plc_from t id (k + 1) (by omega), fold_other ms h _ _ _ (by omega) (by omega)]
theorem plc_above {t : List Nd} (h : Fm.Ok t) {id : Nat} (hid : id < t.length) {k : Nat} (hk : id < k) : plc t id k = (0, 0) := by
  unfold plc; rw [fold_other ms h _ _ _ (by omega) (by omega)]; unfold c0; rw [if_neg (by omega)]
/-- The marked rows alone hand on. -/
theorem fold_marked {t : List Nd} (h : Fm.Ok t) {id : Nat} (hid : id < t.length) (mk : Nat → Bool) (hmk : supp (plc t id) = mk) : ∀ (m k : Nat), k + m = id + 1 → (((List.range (id + 1)).drop k).filter mk).foldr (stp t) (c0 id) = from_ ms t id k
  | 0, k, hk => by rw [List.drop_eq_nil_of_le (by simp; omega), show k = id + 1 by omega, from_top]; rfl
  | m + 1, k, hk => by
    rw [range_drop _ k (by omega), List.filter_cons, from_step ms t id k (by omega)]
    have ih := fold_marked h hid mk hmk m (k + 1) (by omega)
    split
    · show stp t k _ = _
      rw [ih]
    · rename_i hn
      rw [ih]
      refine (stp_none t k (inr_from t id (k + 1)) ?_).symm
      have h1 : supp (plc t id) k = mk k := by rw [hmk]
      unfold supp at h1 ⊢
      rw [plc_at h hid (by omega)] at h1
      rw [h1]
      simpa using hn
theorem plc_below {t : List Nd} (h : Fm.Ok t) {id : Nat} (hid : id < t.length) : (Fm.below t id).foldr (stp t) (c0 id) = plc t id := by
  have := fold_marked h hid _ (supp_plc t id) (id + 1) 0 (by omega)
  rw [List.drop_zero] at this
  unfold Fm.below
  rw [this]
  rfl
theorem mem_below {t : List Nd} (h : Fm.Ok t) {id : Nat} (hid : id < t.length) (j : Nat) : j ∈ Fm.below t id ↔ 0 < (plc t id j).1 + (plc t id j).2 := by
  unfold Fm.below
  rw [List.mem_filter, ← supp_plc, List.mem_range]
  unfold supp
  rw [decide_eq_true_iff]
  refine ⟨fun h => h.2, fun hp => ⟨?_, hp⟩⟩
  by_cases e : j < id + 1
  · exact e
  · rw [plc_above h hid (by omega)] at hp; simp at hp
theorem below_lt (t : List Nd) (id j : Nat) (h : j ∈ Fm.below t id) : j ≤ id := by
  unfold Fm.below at h; have := (List.mem_filter.1 h).1; simp at this; omega
theorem below_sorted (t : List Nd) (id : Nat) : (Fm.below t id).Pairwise (· < ·) := (List.pairwise_lt_range).filter _

/-! ### without an end: sizes are what occurs -/
def tot (f : Nat → Int) : Nat → Int
  | 0 => 0
  | k + 1 => tot f k + f k
theorem tot_congr {f g : Nat → Int} : ∀ k, (∀ j, j < k → f j = g j) → tot f k = tot g k
  | 0, _ => rfl
  | k + 1, h => by unfold tot; rw [tot_congr k fun j hj => h j (by omega), h k (by omega)]
theorem tot_upd (f : Nat → Int) (i : Nat) (v : Int) : ∀ k, i < k → tot (fun j => if j = i then v else f j) k = tot f k + (v - f i)
  | 0, h => absurd h (by omega)
  | k + 1, h => by
    unfold tot
    by_cases e : i = k
    · subst e
      rw [if_pos rfl, tot_congr (g := f) i fun j hj => if_neg (by omega)]
      omega
    · rw [tot_upd f i v k (by omega), if_neg (by omega)]
      omega
theorem tot_nonneg {f : Nat → Int} (h : ∀ j, 0 ≤ f j) : ∀ k, 0 ≤ tot f k
  | 0 => by simp [tot]
  | k + 1 => by unfold tot; have := tot_nonneg h k; have := h k; omega
theorem tot_ge {f : Nat → Int} (h : ∀ j, 0 ≤ f j) : ∀ (k j : Nat), j < k → f j ≤ tot f k
  | 0, j, hj => absurd hj (by omega)
  | k + 1, j, hj => by
    unfold tot
    have h0 := h k
    by_cases e : j = k
    · subst e; have := tot_nonneg h j; omega
    · have := tot_ge h k j (by omega); omega
abbrev pl (a b : Int) : Int := a + b
def nn (c : C) (j : Nat) : Int := (c j).1 + (c j).2
theorem nn_at2 (c : C) (i : Nat) (v : Int × Int) : nn (at2 c i v) = fun j => if j = i then v.1 + v.2 else nn c j := by
  funext j; unfold nn at2; split <;> rfl
theorem nn_turn (k : Int) (a : Int × Int) : (turn k a).1 + (turn k a).2 = a.1 + a.2 := by unfold turn swp; split <;> (try simp only) <;> (try omega)
/-- What a row hands on, in numbers. -/
theorem nn_stp (t : List Nd) (i : Nat) (c : C) : nn (stpG pl t i c) = if Fm.jn (row t i).k then
    (fun j => if j = (row t i).l.toNat then (if (row t i).l.toNat = (row t i).r.toNat then nn c (row t i).r.toNat + nn c i else nn c (row t i).l.toNat) + nn c i else if j = (row t i).r.toNat then nn c (row t i).r.toNat + nn c i else nn c j) else nn c := by
  unfold stpG
  split
  · have e1 : (add2 pl (c (row t i).r.toNat) (c i)).1 + (add2 pl (c (row t i).r.toNat) (c i)).2 = nn c (row t i).r.toNat + nn c i := by simp only [add2, pl, nn]; omega
    rw [nn_at2, nn_at2, e1]
    funext j
    have e2 := nn_turn (row t i).k (c i)
    congr 1
    show ((at2 c (row t i).r.toNat _ (row t i).l.toNat).1 + (turn (row t i).k (c i)).1) + ((at2 c (row t i).r.toNat _ (row t i).l.toNat).2 + (turn (row t i).k (c i)).2) = _
    have e3 : nn (at2 c (row t i).r.toNat (add2 pl (c (row t i).r.toNat) (c i))) (row t i).l.toNat = if (row t i).l.toNat = (row t i).r.toNat then nn c (row t i).r.toNat + nn c i else nn c (row t i).l.toNat := by
      rw [nn_at2, e1]
    rw [← e3]
    simp only [nn] at *
    omega
  · rfl
/-- Weighing what the rows ahead of k still have by their sizes, the sum stays. -/
def pot (t : List Nd) (c : C) (id k : Nat) : Int := tot (fun j => nn c j * (if j < k then sizeU t j else 1)) (id + 1)
theorem pot_step {t : List Nd} (h : Fm.Ok t) {id : Nat} (hid : id < t.length) {k : Nat} (hk : k ≤ id) (c : C) : pot t (stpG pl t k c) id k = pot t c id (k + 1) := by
  unfold pot
  rw [nn_stp]
  have hu := sizeU_eq h (i := k) (by omega)
  have e0 : tot (fun j => nn c j * (if j < k + 1 then sizeU t j else 1)) (id + 1) = tot (fun j => nn c j * (if j < k then sizeU t j else 1)) (id + 1) + nn c k * (sizeU t k - 1) := by
    rw [tot_congr (f := fun j => nn c j * (if j < k + 1 then sizeU t j else 1)) (g := fun j => if j = k then nn c k * sizeU t k else nn c j * (if j < k then sizeU t j else 1)) _ fun j _ => ?_]
    · rw [tot_upd _ k _ _ (by omega)]
      simp only [Nat.lt_irrefl, if_false, Int.mul_one, Int.mul_sub]
    · by_cases e : j = k
      · subst e; simp
      · rw [if_neg e]
        by_cases e2 : j < k
        · rw [if_pos e2, if_pos (by omega)]
        · rw [if_neg e2, if_neg (by omega)]
  rw [e0]
  split <;> rename_i hj
  · have hp := parts_lt h (i := k) (by omega) hj
    rw [if_pos hj] at hu
    generalize (row t k).l.toNat = l at *
    generalize (row t k).r.toNat = r at *
    rw [hu]
    have e1 : tot (fun j => (if j = l then (if l = r then nn c r + nn c k else nn c l) + nn c k else if j = r then nn c r + nn c k else nn c j) * (if j < k then sizeU t j else 1)) (id + 1)
        = tot (fun j => if j = l then ((if l = r then nn c r + nn c k else nn c l) + nn c k) * sizeU t l else (if j = r then (nn c r + nn c k) * sizeU t r else nn c j * (if j < k then sizeU t j else 1))) (id + 1) := by
      refine tot_congr _ fun j _ => ?_
      by_cases e2 : j = l
      · subst e2; rw [if_pos rfl, if_pos rfl, if_pos hp.1]
      · rw [if_neg e2, if_neg e2]
        by_cases e3 : j = r
        · subst e3; rw [if_pos rfl, if_pos rfl, if_pos hp.2.1]
        · rw [if_neg e3, if_neg e3]
    rw [e1, tot_upd (fun j => if j = r then (nn c r + nn c k) * sizeU t r else nn c j * (if j < k then sizeU t j else 1)) l _ _ (by omega), tot_upd _ r _ _ (by omega)]
    rw [if_pos hp.2.1]
    by_cases e4 : l = r
    · subst e4
      simp only [if_true]
      simp only [Int.add_mul, Int.mul_add, Int.mul_sub]
      omega
    · rw [if_neg e4, if_neg e4, if_pos hp.1]
      simp only [Int.add_mul, Int.mul_add, Int.mul_sub]
      omega
  · rw [if_neg hj] at hu
    rw [hu]
    simp
theorem pot_from {t : List Nd} (h : Fm.Ok t) {id : Nat} (hid : id < t.length) : ∀ (m k : Nat), k + m = id + 1 → pot t (from_ pl t id k) id k = sizeU t id
  | 0, k, hk => by
    rw [show k = id + 1 by omega, from_top]
    unfold pot
    have e : tot (fun j => nn (c0 id) j * (if j < id + 1 then sizeU t j else 1)) (id + 1) = tot (fun j => if j = id then sizeU t id else (fun _ => 0) j) (id + 1) := by
      refine tot_congr _ fun j hj => ?_
      unfold nn c0
      by_cases e : j = id
      · subst e; rw [if_pos rfl, if_pos (by omega), if_pos rfl]; simp
      · rw [if_neg e, if_neg e]; simp
    rw [e, tot_upd _ id _ _ (by omega)]
    have : ∀ k, tot (fun _ => 0) k = 0 := fun k => by induction k with | zero => rfl | succ k ih => unfold tot; rw [ih]; rfl
    rw [this]
    omega
  | m + 1, k, hk => by rw [from_step pl t id k (by omega), pot_step h hid (by omega), pot_from h hid m (k + 1) (by omega)]
def NN (c : C) : Prop := ∀ j, 0 ≤ (c j).1 ∧ 0 ≤ (c j).2
theorem ends_stp (t : List Nd) (i : Nat) {c u : C} (hu : NN u) (h : ∀ j, c j = (min (u j).1 M, min (u j).2 M)) : NN (stpG pl t i u) ∧ ∀ j, stp t i c j = (min (stpG pl t i u j).1 M, min (stpG pl t i u j).2 M) := by
  have ea : ∀ a b : Int × Int, 0 ≤ a.1 ∧ 0 ≤ a.2 → 0 ≤ b.1 ∧ 0 ≤ b.2 → add2 ms (min a.1 M, min a.2 M) (min b.1 M, min b.2 M) = (min (add2 pl a b).1 M, min (add2 pl a b).2 M) ∧ 0 ≤ (add2 pl a b).1 ∧ 0 ≤ (add2 pl a b).2 := fun a b h1 h2 => by
    simp only [add2, ms, pl, M] at *
    refine ⟨Prod.ext ?_ ?_, ?_, ?_⟩ <;> ((try simp only); omega)
  have et : ∀ a : Int × Int, turn (row t i).k (min a.1 M, min a.2 M) = (min (turn (row t i).k a).1 M, min (turn (row t i).k a).2 M) := fun a => by unfold turn swp; split <;> rfl
  have en : ∀ a : Int × Int, 0 ≤ a.1 ∧ 0 ≤ a.2 → 0 ≤ (turn (row t i).k a).1 ∧ 0 ≤ (turn (row t i).k a).2 := fun a ha => by unfold turn swp; split <;> ((try simp only); omega)
  unfold stp stpG
  split
  · have h1 : ∀ j, at2 c (row t i).r.toNat (add2 ms (c (row t i).r.toNat) (c i)) j = (min (at2 u (row t i).r.toNat (add2 pl (u (row t i).r.toNat) (u i)) j).1 M, min (at2 u (row t i).r.toNat (add2 pl (u (row t i).r.toNat) (u i)) j).2 M) := fun j => by
      unfold at2; split
      · rw [h, h, (ea _ _ (hu _) (hu _)).1]
      · exact h j
    have n1 : NN (at2 u (row t i).r.toNat (add2 pl (u (row t i).r.toNat) (u i))) := fun j => by
      unfold at2; split
      · exact (ea _ _ (hu _) (hu _)).2
      · exact hu j
    refine ⟨fun j => ?_, fun j => ?_⟩
    · unfold at2; split
      · exact (ea _ _ (n1 _) (en _ (hu _))).2
      · exact n1 j
    · generalize hA : at2 c (row t i).r.toNat (add2 ms (c (row t i).r.toNat) (c i)) = A at *
      generalize hB : at2 u (row t i).r.toNat (add2 pl (u (row t i).r.toNat) (u i)) = B at *
      unfold at2; split
      · rw [h1, h i, et, (ea _ _ (n1 _) (en _ (hu _))).1]
      · exact h1 j
  · exact ⟨hu, h⟩
theorem ends_fold (t : List Nd) (id : Nat) : ∀ l : List Nat, NN (l.foldr (stpG pl t) (c0 id)) ∧ ∀ j, l.foldr (stp t) (c0 id) j = (min (l.foldr (stpG pl t) (c0 id) j).1 M, min (l.foldr (stpG pl t) (c0 id) j).2 M)
  | [] => ⟨fun j => by show 0 ≤ (c0 id j).1 ∧ 0 ≤ (c0 id j).2; unfold c0; split <;> simp, fun j => by show c0 id j = (min (c0 id j).1 M, min (c0 id j).2 M); unfold c0; split <;> (refine Prod.ext ?_ ?_ <;> (simp only [M]; omega))⟩
  | i :: l => ends_stp t i (ends_fold t id l).1 (ends_fold t id l).2
/-- Where the size does not end, it is the sum of what occurs, of each row. -/
theorem size_sum {t : List Nd} (h : Fm.Ok t) {id : Nat} (hid : id < t.length) (hs : sizeU t id < M) : tot (nn (plc t id)) (id + 1) = sizeU t id := by
  have hp := pot_from h hid (id + 1) 0 (by omega)
  unfold pot at hp
  have e : tot (fun j => nn (from_ pl t id 0) j * (if j < 0 then sizeU t j else 1)) (id + 1) = tot (nn (from_ pl t id 0)) (id + 1) := tot_congr _ fun j _ => by simp
  rw [e] at hp
  have hn : ∀ j, 0 ≤ nn (from_ pl t id 0) j := fun j => by have := (ends_fold t id (((List.range (id + 1)).drop 0))).1 j; unfold nn from_; omega
  rw [← hp]
  refine tot_congr _ fun j hj => ?_
  have hge := tot_ge hn (id + 1) j hj
  have h2 := (ends_fold t id ((List.range (id + 1)).drop 0)).2 j
  have h3 := (ends_fold t id ((List.range (id + 1)).drop 0)).1 j
  have e2 : plc t id j = from_ ms t id 0 j := by unfold plc from_; rw [List.drop_zero]
  unfold nn at hge ⊢
  rw [e2]
  unfold from_ at hge ⊢
  rw [h2]
  unfold nn from_ at hp
  simp only
  omega
/-- Rows that stand in a row weigh less. -/
theorem mark_weight {t : List Nd} (h : Fm.Ok t) {id : Nat} (hid : id < t.length) : ∀ (k : Nat) (f : Nat → Bool), k ≤ id + 1 → (∀ j, f j = true → j ≤ id ∧ (j = id ∨ weightU t j < weightU t id)) → ∀ j, Fm.mark t k f j = true → j ≤ id ∧ (j = id ∨ weightU t j < weightU t id)
  | 0, f, _, hf => hf
  | k + 1, f, hk, hf => by
    refine mark_weight h hid k _ (by omega) ?_
    split
    · rename_i hc
      simp only [Bool.and_eq_true] at hc
      have hp := parts_lt h (i := k) (by omega) hc.2
      have hw := weightU_eq h (i := k) (by omega)
      have h1 := (weight_U h (i := (row t k).l.toNat) (by omega)).2
      have h2 := (weight_U h (i := (row t k).r.toNat) (by omega)).2
      rw [show Fm.jn (row t k).k = true from hc.2] at hw
      have hkw := hf k hc.1
      have hw2 : weightU t k ≤ weightU t id := by rcases hkw.2 with e | e; rw [e]; omega; omega
      have hw3 : weightU t (row t k).l.toNat < weightU t k ∧ weightU t (row t k).r.toNat < weightU t k := by
        simp only [if_true] at hw; split at hw <;> omega
      intro j hj
      unfold Fm.upd at hj
      split at hj
      · rename_i e
        have e' : j = (row t k).r.toNat := e
        subst e'; omega
      · split at hj
        · rename_i e
          have e' : j = (row t k).l.toNat := e
          subst e'; omega
        · exact hf j hj
    · exact hf
theorem below_weight {t : List Nd} (h : Fm.Ok t) {id : Nat} (hid : id < t.length) {j : Nat} (hj : j ∈ Fm.below t id) : j = id ∨ weightU t j < weightU t id := by
  have := (List.mem_filter.1 hj).2
  refine (mark_weight h hid (id + 1) _ (by omega) (fun j hj => ?_) j this).2
  unfold Fm.upd at hj
  split at hj
  · rename_i e; exact ⟨by omega, Or.inl e⟩
  · cases hj
end Go.Proofs.YthdcppkohalkmaaGreat.Ms
