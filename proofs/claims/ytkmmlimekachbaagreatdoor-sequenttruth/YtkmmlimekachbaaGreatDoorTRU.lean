/-
  Truth tables: which rows of a table a row of names makes true; that Whole and Curry say what their sequent says. No condition.
-/
import Derived.Test.YtkmmlimekachbaaGreatDoorFRM
import Derived.Test.YtkmmlimekachbaaGreatDoorFG3
import Derived.Test.YtkmmlimekachbaaGreatDoorRG1
namespace Go.Proofs.YtkmmlimekachbaaGreatDoor
open Go.RowKit
open Fm (Nd)
open Bt.Bs (Ok)

namespace Tv
def sameB (a b : ByteArray) : Bool := b.data.toList == a.data.toList
theorem sameB_self (a : ByteArray) : sameB a a = true := by simp [sameB]
theorem sameB_not {a b : ByteArray} (h : ¬ b = a) : sameB a b = false := by
  unfold sameB
  rw [beq_eq_false_iff_ne]
  intro e
  apply h
  obtain ⟨⟨x⟩⟩ := a
  obtain ⟨⟨y⟩⟩ := b
  simp only at e
  rw [e]
def val (ns : List ByteArray) (vs : List Bool) (n : Nd) : Bool :=
  if n.k = 1 then ns.any (sameB n.s) else if n.k = 3 then vs.getD n.l.toNat false && vs.getD n.r.toNat false else if n.k = 4 then vs.getD n.l.toNat false || vs.getD n.r.toNat false else if n.k = 5 then !vs.getD n.l.toNat false || vs.getD n.r.toNat false else false
def vals (ns : List ByteArray) (t : List Nd) : List Bool := t.foldl (fun vs n => vs ++ [val ns vs n]) []
theorem vals_snoc (ns : List ByteArray) (t : List Nd) (n : Nd) : vals ns (t ++ [n]) = vals ns t ++ [val ns (vals ns t) n] := by simp [vals]
theorem fold_len (ns : List ByteArray) : ∀ (t : List Nd) (vs : List Bool), (t.foldl (fun vs n => vs ++ [val ns vs n]) vs).length = vs.length + t.length
  | [], vs => by simp
  | n :: t, vs => by rw [List.foldl_cons, fold_len ns t]; simp; omega
theorem vals_len (ns : List ByteArray) (t : List Nd) : (vals ns t).length = t.length := by
  have := fold_len ns t []
  simpa [vals] using this
theorem fold_app (ns : List ByteArray) : ∀ (t : List Nd) (vs : List Bool), ∃ x, t.foldl (fun vs n => vs ++ [val ns vs n]) vs = vs ++ x
  | [], vs => ⟨[], by simp⟩
  | n :: t, vs => by
    obtain ⟨x, hx⟩ := fold_app ns t (vs ++ [val ns vs n])
    exact ⟨[val ns vs n] ++ x, by rw [List.foldl_cons, hx, List.append_assoc]⟩
theorem vals_app (ns : List ByteArray) (t s : List Nd) : ∃ x, vals ns (t ++ s) = vals ns t ++ x := by
  unfold vals
  rw [List.foldl_append]
  exact fold_app ns s _
def tr (ns : List ByteArray) (t : List Nd) (i : Int) : Bool := (vals ns t).getD i.toNat false
theorem tr_app (ns : List ByteArray) (t s : List Nd) {i : Nat} (h : i < t.length) : (vals ns (t ++ s)).getD i false = (vals ns t).getD i false := by
  obtain ⟨x, hx⟩ := vals_app ns t s
  rw [hx, List.getD_eq_getElem?_getD, List.getD_eq_getElem?_getD, List.getElem?_append_left (by rw [vals_len]; exact h)]
theorem tr_ext (ns : List ByteArray) (t s : List Nd) {i : Int} (h : Fm.has t i = true) : tr ns (t ++ s) i = tr ns t i := by
  have h0 := Fm.has_iff.1 h
  exact tr_app ns t s (by omega)
theorem vals_at (ns : List ByteArray) (t : List Nd) {i : Nat} (h : i < t.length) : (vals ns t).getD i false = val ns (vals ns (t.take i)) t[i] := by
  have e : t = (t.take i ++ [t[i]]) ++ t.drop (i + 1) := by
    rw [List.append_assoc, List.singleton_append, ← List.drop_eq_getElem_cons h, List.take_append_drop]
  have hl : (t.take i).length = i := by rw [List.length_take]; omega
  conv => lhs; rw [e]
  rw [tr_app ns (t.take i ++ [t[i]]) _ (by rw [List.length_append, hl]; simp), vals_snoc, List.getD_eq_getElem?_getD, List.getElem?_append_right (by rw [vals_len, hl]; exact Nat.le_refl _), vals_len, hl]
  simp
theorem take_getD (ns : List ByteArray) (t : List Nd) {i j : Nat} (hj : j < i) (hi : i ≤ t.length) : (vals ns (t.take i)).getD j false = (vals ns t).getD j false := by
  conv => rhs; rw [← List.take_append_drop i t]
  exact (tr_app ns (t.take i) _ (by rw [List.length_take]; omega)).symm
theorem tr_join (ns : List ByteArray) {t : List Nd} (hT : Fm.Ok t) {i : Int} {k x y : Int} (hi : Fm.has t i = true) (hn : t[i.toNat]? = some (joinN k x y)) :
    (k = 3 → tr ns t i = (tr ns t x && tr ns t y)) ∧ (k = 5 → tr ns t i = (!tr ns t x || tr ns t y)) := by
  have h0 := Fm.has_iff.1 hi
  have hl : i.toNat < t.length := by omega
  have hg : t[i.toNat] = joinN k x y := by rw [List.getElem?_eq_getElem hl] at hn; exact Option.some.inj hn
  have hv := vals_at ns t hl
  rw [hg] at hv
  have hp := fun hj => Fm.ok_parts hT hl hj
  rw [hg] at hp
  constructor
  · rintro rfl
    obtain ⟨⟨h1, h2⟩, h3, h4⟩ := hp rfl
    have a1 := take_getD ns t (i := i.toNat) (j := x.toNat) (by simp only [joinN] at h1 h2; omega) (by omega)
    have a2 := take_getD ns t (i := i.toNat) (j := y.toNat) (by simp only [joinN] at h3 h4; omega) (by omega)
    unfold tr
    rw [hv]
    simp only [val, joinN]
    simp only [show (3 : Int) ≠ 1 by decide, if_false, if_true, a1, a2]
  · rintro rfl
    obtain ⟨⟨h1, h2⟩, h3, h4⟩ := hp rfl
    have a1 := take_getD ns t (i := i.toNat) (j := x.toNat) (by simp only [joinN] at h1 h2; omega) (by omega)
    have a2 := take_getD ns t (i := i.toNat) (j := y.toNat) (by simp only [joinN] at h3 h4; omega) (by omega)
    unfold tr
    rw [hv]
    simp only [val, joinN]
    simp only [show (5 : Int) ≠ 1 by decide, show (5 : Int) ≠ 3 by decide, show (5 : Int) ≠ 4 by decide, if_false, if_true, a1, a2]
set_option maxRecDepth 100000 in
theorem put_row {t : List Nd} {n : Nd} (h : (Fm.put t n).2.1 = 0) : Fm.has (Fm.put t n).2.2 (Fm.put t n).1 = true ∧ (Fm.put t n).2.2[(Fm.put t n).1.toNat]? = some n := by
  unfold Fm.put at h ⊢
  by_cases hc : Fm.check t n = 0
  · rw [if_pos hc] at h ⊢
    by_cases hm : n ∈ t
    · rw [if_pos hm]
      have h2 := List.idxOf_lt_length_iff.2 hm
      refine ⟨Fm.has_iff.2 ⟨by simp, by simpa using h2⟩, ?_⟩
      simp only [Int.toNat_natCast]
      rw [List.getElem?_eq_getElem h2]
      simp
    · rw [if_neg hm] at h ⊢
      by_cases hl : 1024 ≤ t.length
      · rw [if_pos hl] at h; cases h
      · rw [if_neg hl]
        exact ⟨Fm.has_iff.2 ⟨by simp, by simp; omega⟩, by simp⟩
  · rw [if_neg hc] at h
    exact absurd h hc
theorem row_ext {t s : List Nd} {i : Int} {n : Nd} (hi : Fm.has t i = true) (h : t[i.toNat]? = some n) : Fm.has (t ++ s) i = true ∧ (t ++ s)[i.toNat]? = some n := by
  have h0 := Fm.has_iff.1 hi
  exact ⟨Fm.has_iff.2 ⟨h0.1, by rw [List.length_append]; omega⟩, by rw [List.getElem?_append_left (by omega)]; exact h⟩
theorem put_says (ns : List ByteArray) {t s : List Nd} {k x y : Int} (h : (Fm.put t (joinN k x y)).2.1 = 0) (hT : Fm.Ok ((Fm.put t (joinN k x y)).2.2 ++ s)) :
    (k = 3 → tr ns ((Fm.put t (joinN k x y)).2.2 ++ s) (Fm.put t (joinN k x y)).1 = (tr ns ((Fm.put t (joinN k x y)).2.2 ++ s) x && tr ns ((Fm.put t (joinN k x y)).2.2 ++ s) y)) ∧ (k = 5 → tr ns ((Fm.put t (joinN k x y)).2.2 ++ s) (Fm.put t (joinN k x y)).1 = (!tr ns ((Fm.put t (joinN k x y)).2.2 ++ s) x || tr ns ((Fm.put t (joinN k x y)).2.2 ++ s) y)) := by
  obtain ⟨h1, h2⟩ := put_row h
  obtain ⟨h3, h4⟩ := row_ext (s := s) h1 h2
  exact tr_join ns hT h3 h4
def alls (ns : List ByteArray) (u : List Nd) (l : List Nat) : Bool := l.all fun i => tr ns u (i : Int)
theorem and_on (l : List Nat) (a : Int) (t : List Nd) : ∃ s, (l.foldl andS ((a, 0), t)).2 = t ++ s := by
  induction l generalizing a t with
  | nil => exact ⟨[], by simp⟩
  | cons i l ih =>
    rw [List.foldl_cons]
    have e : andS ((a, 0), t) i = (((Fm.put t (joinN 3 a i)).1, (Fm.put t (joinN 3 a i)).2.1), (Fm.put t (joinN 3 a i)).2.2) := rfl
    rw [e]
    obtain ⟨_, s1, h1⟩ := Fm.put_len t (joinN 3 a i)
    by_cases hp : (Fm.put t (joinN 3 a i)).2.1 = 0
    · rw [hp]
      obtain ⟨s2, h2⟩ := ih (Fm.put t (joinN 3 a i)).1 (Fm.put t (joinN 3 a i)).2.2
      exact ⟨s1 ++ s2, by rw [h2, h1, List.append_assoc]⟩
    · rw [andF_stay _ _ hp]
      exact ⟨s1, h1⟩
theorem and_says (ns : List ByteArray) {u : List Nd} (hU : Fm.Ok u) : ∀ (l : List Nat) (a : Int) (t : List Nd), (l.foldl andS ((a, 0), t)).1.2 = 0 → (∃ s, u = (l.foldl andS ((a, 0), t)).2 ++ s) → tr ns u (l.foldl andS ((a, 0), t)).1.1 = (tr ns u a && alls ns u l)
  | [], a, t, _, _ => by simp [alls]
  | i :: l, a, t, h0, hs => by
    rw [List.foldl_cons] at h0 hs ⊢
    have e : andS ((a, 0), t) i = (((Fm.put t (joinN 3 a i)).1, (Fm.put t (joinN 3 a i)).2.1), (Fm.put t (joinN 3 a i)).2.2) := rfl
    rw [e] at h0 hs ⊢
    by_cases hp : (Fm.put t (joinN 3 a i)).2.1 = 0
    · rw [hp] at h0 hs ⊢
      rw [and_says ns hU l _ _ h0 hs]
      obtain ⟨s, hs⟩ := hs
      obtain ⟨s2, hs2⟩ := and_on l (Fm.put t (joinN 3 a i)).1 (Fm.put t (joinN 3 a i)).2.2
      have hu : u = (Fm.put t (joinN 3 a i)).2.2 ++ (s2 ++ s) := by rw [hs, hs2, List.append_assoc]
      have h1 := (put_says ns (s := s2 ++ s) hp (by rw [← hu]; exact hU)).1 rfl
      rw [← hu] at h1
      rw [h1]
      simp [alls, Bool.and_assoc]
    · rw [andF_stay _ _ hp] at h0
      exact absurd h0 hp
set_option maxRecDepth 100000 in
theorem whole_says (ns : List ByteArray) {t u : List Nd} (hU : Fm.Ok u) {r : List Nat} (hr : Ok r) {g : Int} (h0 : (wholeQ t r g).1.2 = 0) (hs : ∃ s, u = (wholeQ t r g).2 ++ s) : rightQ t r g = true ∧ tr ns u (wholeQ t r g).1.1 = (!alls ns u (Bt.Bs.nums r) || tr ns u g) := by
  cases hq : rightQ t r g with
  | false => rw [(right_not hq).1] at h0; cases h0
  | true =>
    refine ⟨rfl, ?_⟩
    cases hn : Bt.Bs.nums r with
    | nil => rw [whole_nil hr hq hn]; simp [alls]
    | cons a l =>
      rw [whole_cons hr hq hn] at h0 hs ⊢
      unfold wholeE at h0 hs ⊢
      by_cases h1 : (andF t a l).1.2 = 0
      · rw [if_pos h1] at h0 hs ⊢
        by_cases h2 : (Fm.put (andF t a l).2 (joinN 5 (andF t a l).1.1 g)).2.1 = 0
        · rw [if_pos h2] at h0 hs ⊢
          obtain ⟨s, hs⟩ := hs
          simp only at hs ⊢
          have h3 := (put_says ns (s := s) h2 (by rw [← hs]; exact hU)).2 rfl
          rw [← hs] at h3
          rw [h3]
          obtain ⟨_, s1, h4⟩ := Fm.put_len (andF t a l).2 (joinN 5 (andF t a l).1.1 g)
          have h5 := and_says ns hU l (a : Int) t h1 ⟨s1 ++ s, by rw [hs, h4, List.append_assoc]; rfl⟩
          have h6 : tr ns u (andF t a l).1.1 = (tr ns u a && alls ns u l) := h5
          rw [h6]
          rfl
        · rw [if_neg h2] at h0; exact absurd h0 h2
      · rw [if_neg h1] at h0; exact absurd h0 h1
theorem cur_on (l : List Nat) (t : List Nd) (a : Int) : ∃ s, (l.foldl curS ((a, 0), t)).2 = t ++ s := by
  induction l generalizing a t with
  | nil => exact ⟨[], by simp⟩
  | cons i l ih =>
    rw [List.foldl_cons]
    have e : curS ((a, 0), t) i = (((Fm.put t (joinN 5 i a)).1, (Fm.put t (joinN 5 i a)).2.1), (Fm.put t (joinN 5 i a)).2.2) := rfl
    rw [e]
    obtain ⟨_, s1, h1⟩ := Fm.put_len t (joinN 5 i a)
    by_cases hp : (Fm.put t (joinN 5 i a)).2.1 = 0
    · rw [hp]
      obtain ⟨s2, h2⟩ := ih (Fm.put t (joinN 5 i a)).2.2 (Fm.put t (joinN 5 i a)).1
      exact ⟨s1 ++ s2, by rw [h2, h1, List.append_assoc]⟩
    · rw [curF_stay _ _ hp]
      exact ⟨s1, h1⟩
theorem cur_says (ns : List ByteArray) {u : List Nd} (hU : Fm.Ok u) : ∀ (l : List Nat) (a : Int) (t : List Nd), (l.foldl curS ((a, 0), t)).1.2 = 0 → (∃ s, u = (l.foldl curS ((a, 0), t)).2 ++ s) → tr ns u (l.foldl curS ((a, 0), t)).1.1 = (!alls ns u l || tr ns u a)
  | [], a, t, _, _ => by simp [alls]
  | i :: l, a, t, h0, hs => by
    rw [List.foldl_cons] at h0 hs ⊢
    have e : curS ((a, 0), t) i = (((Fm.put t (joinN 5 i a)).1, (Fm.put t (joinN 5 i a)).2.1), (Fm.put t (joinN 5 i a)).2.2) := rfl
    rw [e] at h0 hs ⊢
    by_cases hp : (Fm.put t (joinN 5 i a)).2.1 = 0
    · rw [hp] at h0 hs ⊢
      rw [cur_says ns hU l _ _ h0 hs]
      obtain ⟨s, hs⟩ := hs
      obtain ⟨s2, hs2⟩ := cur_on l (Fm.put t (joinN 5 i a)).2.2 (Fm.put t (joinN 5 i a)).1
      have hu : u = (Fm.put t (joinN 5 i a)).2.2 ++ (s2 ++ s) := by rw [hs, hs2, List.append_assoc]
      have h1 := (put_says ns (s := s2 ++ s) hp (by rw [← hu]; exact hU)).2 rfl
      rw [← hu] at h1
      rw [h1]
      simp only [alls, List.all_cons]
      cases tr ns u (i : Int) <;> cases (l.all fun i => tr ns u (i : Int)) <;> cases tr ns u a <;> rfl
    · rw [curF_stay _ _ hp] at h0
      exact absurd h0 hp
theorem alls_rev (ns : List ByteArray) (u : List Nd) (l : List Nat) : alls ns u l.reverse = alls ns u l := by simp [alls]
set_option maxRecDepth 100000 in
theorem curry_says (ns : List ByteArray) {t u : List Nd} (hU : Fm.Ok u) {r : List Nat} {g : Int} (h0 : (curryQ t r g).1.2 = 0) (hs : ∃ s, u = (curryQ t r g).2 ++ s) : tr ns u (curryQ t r g).1.1 = (!alls ns u (Bt.Bs.nums r) || tr ns u g) := by
  cases hq : rightQ t r g with
  | false => rw [(right_not hq).2] at h0; cases h0
  | true =>
    rw [curry_l hq] at h0 hs ⊢
    unfold curryE at h0 hs ⊢
    by_cases h1 : (curF t g (Bt.Bs.nums r).reverse).1.2 = 0
    · rw [if_pos h1] at hs ⊢
      have h2 := cur_says ns hU (Bt.Bs.nums r).reverse g t h1 hs
      rw [alls_rev] at h2
      exact h2
    · rw [if_neg h1] at h0; exact absurd h0 h1
end Tv
end Go.Proofs.YtkmmlimekachbaaGreatDoor
/-
  The document's True: is a row of a table true, if these names are? For every table of the document's that calls made. No other condition.
-/
namespace Go.Proofs.YtkmmlimekachbaaGreatDoor
open Go.RowKit Go.Maps
open Fm (Nd)

def IsNs (w : World) (v : Value) (l : List ByteArray) : Prop :=
  ∃ p c, v = .slice p l.length c ∧ l.length ≤ 9223372036854775807 ∧ ∀ k (hk : k < l.length), ∃ b o, p = some ⟨b, o, none⟩ ∧ w.cell? ⟨b, o + k, none⟩ = some (.string l[k])
theorem IsNs.later {w w' : World} {v : Value} {l : List ByteArray} (h : IsNs w v l) (hb : Below w.heap.size w w') : IsNs w' v l := by
  obtain ⟨p, c, hv, h1, h2⟩ := h
  refine ⟨p, c, hv, h1, fun k hk => ?_⟩
  obtain ⟨b, o, hp, hc⟩ := h2 k hk
  exact ⟨b, o, hp, cell_later hb hc⟩
def updB (f : Nat → Bool) (i : Nat) (x : Bool) : Nat → Bool := fun j => if j = i then x else f j
theorem Bs.setB {w : World} {g n : Nat} {f : Nat → Bool} (h : Bs w g n f) (j : Nat) (x : Bool) : Bs (w.setCell ⟨g, j, none⟩ (.bool x)) g n (updB f j x) := by
  have h1 : (w.setCell ⟨g, j, none⟩ (.bool x)).heap[g]? = some (.cells (((List.range n).map fun j => Value.bool (f j)).toArray.setIfInBounds j (.bool x)) 4 (0, 0)) := heap_setCell_same w g j _ _ _ h
  unfold Bs
  rw [h1]
  congr 2
  apply Array.ext'
  apply List.ext_getElem?
  intro i
  by_cases hi : i < n
  · by_cases e : i = j
    · subst e
      simp [updB, hi]
    · simp [updB, hi, e, Ne.symm e]
  · simp [hi]
theorem Bs.lt {w : World} {g n : Nat} {f : Nat → Bool} (h : Bs w g n f) : g < w.heap.size := lt_of_block h
structure TB (w W : World) (n k : Nat) (vl : Nat → Bool) (f : Nat → Bool) : Prop where
  bs : Bs W w.heap.size n f
  lo : ∀ j, j < k → f j = vl j
  hi : ∀ j, k ≤ j → f j = false
  be : Below w.heap.size w W
theorem TB.alloc {w W : World} {n k : Nat} {vl f : Nat → Bool} (h : TB w W n k vl f) (o : Obj) : TB w (W.alloc o) n k vl f := ⟨h.bs.alloc o, h.lo, h.hi, h.be.alloc h.be.size _⟩
theorem TB.same {w W : World} {n k : Nat} {vl f : Nat → Bool} (h : TB w W n k vl f) (hv : vl k = false) : TB w W n (k + 1) vl f := ⟨h.bs, fun j hj => by
  by_cases e : j = k
  · subst e; rw [hv]; exact h.hi j (Nat.le_refl _)
  · exact h.lo j (by omega), fun j hj => h.hi j (by omega), h.be⟩
theorem TB.set {w W : World} {n k : Nat} {vl f : Nat → Bool} (h : TB w W n k vl f) {x : Bool} (hv : vl k = x) : TB w (W.setCell ⟨w.heap.size, k, none⟩ (.bool x)) n (k + 1) vl (updB f k x) := ⟨h.bs.setB k x, fun j hj => by
  unfold updB
  by_cases e : j = k
  · subst e; rw [if_pos rfl, hv]
  · rw [if_neg e]; exact h.lo j (by omega), fun j hj => by unfold updB; rw [if_neg (by omega)]; exact h.hi j (by omega), h.be.setCell (Nat.le_refl _) _⟩
structure TI (w W : World) (n k : Nat) (vl : Nat → Bool) (nb : Nat) (nd : Nd) (f : Nat → Bool) (b : Bool) : Prop where
  bs : Bs W w.heap.size n f
  lo : ∀ j, j < k → f j = vl j
  at_ : f k = b
  hi : ∀ j, k + 1 ≤ j → f j = false
  be : Below w.heap.size w W
  nd : N4 W nb nd
  ne : w.heap.size < nb
theorem TI.drew {w W : World} {n k nb : Nat} {vl f : Nat → Bool} {nd : Nd} {b : Bool} (h : TI w W n k vl nb nd f b) : TI w W.drew n k vl nb nd f b := ⟨h.bs, h.lo, h.at_, h.hi, h.be.drew, h.nd, h.ne⟩
theorem TI.set {w W : World} {n k nb : Nat} {vl f : Nat → Bool} {nd : Nd} {b : Bool} (h : TI w W n k vl nb nd f b) (x : Bool) : TI w (W.setCell ⟨w.heap.size, k, none⟩ (.bool x)) n k vl nb nd (updB f k x) x :=
  ⟨h.bs.setB k x, fun j hj => by unfold updB; rw [if_neg (by omega)]; exact h.lo j hj, by unfold updB; rw [if_pos rfl], fun j hj => by unfold updB; rw [if_neg (by omega)]; exact h.hi j hj, h.be.setCell (Nat.le_refl _) _, (Below.heap_setCell _ _ _ _ (show nb ≠ w.heap.size by have := h.ne; omega)).trans h.nd, h.ne⟩
theorem TI.done {w W : World} {n k nb : Nat} {vl f : Nat → Bool} {nd : Nd} {b : Bool} (h : TI w W n k vl nb nd f b) (hv : vl k = b) : TB w W n (k + 1) vl f := ⟨h.bs, fun j hj => by
  by_cases e : j = k
  · subst e; rw [hv]; exact h.at_
  · exact h.lo j (by omega), fun j hj => h.hi j hj, h.be⟩
theorem any_next (p : ByteArray → Bool) (l : List ByteArray) {m : Nat} (h : m < l.length) : (l.take (m + 1)).any p = ((l.take m).any p || p l[m]) := by
  rw [List.take_add_one, List.getElem?_eq_getElem h, List.any_append]
  simp
theorem vl_kinds (ns : List ByteArray) {t : List Nd} (hT : Fm.Ok t) {k : Nat} (hk : k < t.length) :
    (t[k].k = 1 ∧ (Tv.vals ns t).getD k false = ns.any (Tv.sameB t[k].s)) ∨ (t[k].k = 2 ∧ (Tv.vals ns t).getD k false = false) ∨
    (((0 ≤ t[k].l ∧ t[k].l < k) ∧ 0 ≤ t[k].r ∧ t[k].r < k) ∧ ((t[k].k = 3 ∧ (Tv.vals ns t).getD k false = ((Tv.vals ns t).getD t[k].l.toNat false && (Tv.vals ns t).getD t[k].r.toNat false)) ∨
      (t[k].k = 4 ∧ (Tv.vals ns t).getD k false = ((Tv.vals ns t).getD t[k].l.toNat false || (Tv.vals ns t).getD t[k].r.toNat false)) ∨
      (t[k].k = 5 ∧ (Tv.vals ns t).getD k false = (!(Tv.vals ns t).getD t[k].l.toNat false || (Tv.vals ns t).getD t[k].r.toNat false)))) := by
  rw [Tv.vals_at ns t hk]
  rcases Fm.ok_kind hT hk with e | e | e
  · exact Or.inl ⟨e, by unfold Tv.val; rw [if_pos e]⟩
  · refine Or.inr (Or.inl ⟨e, ?_⟩)
    unfold Tv.val
    rw [e]
    rfl
  · obtain ⟨⟨h1, h2⟩, h3, h4⟩ := Fm.ok_parts hT hk e
    have a1 := Tv.take_getD ns t (i := k) (j := t[k].l.toNat) (by omega) (by omega)
    have a2 := Tv.take_getD ns t (i := k) (j := t[k].r.toNat) (by omega) (by omega)
    refine Or.inr (Or.inr ⟨⟨⟨h1, h2⟩, h3, h4⟩, ?_⟩)
    unfold Tv.val
    rw [a1, a2]
    simp only [Fm.jn, Bool.or_eq_true, beq_iff_eq] at e
    rcases e with (e | e) | e
    · exact Or.inl ⟨e, by rw [e]; rfl⟩
    · exact Or.inr (Or.inl ⟨e, by rw [e]; rfl⟩)
    · exact Or.inr (Or.inr ⟨e, by rw [e]; rfl⟩)
set_option maxRecDepth 100000 in
set_option maxHeartbeats 4000000 in
theorem rtrue_any (w : World) {c : Nat} {u : Value} {t : List Nd} (hT : Tr w c u t) (id : Nat) (hid : id < t.length) (nv : Value) (ns : List ByteArray) (hN : IsNs w nv ns) :
    Calls Tryz.prog 33 #[.pointer (some ⟨c, 0, none⟩), .int .i64 (id : Int), nv] w fun e w' => e = .returned (.bool (Tv.tr ns t (id : Int))) ∧ Below w.heap.size w w' := by
  have hok := hT.ok
  have hlen := hok.len
  have hmk : ∀ w : World, (Instr.makeSlice 146 (.int .i64 ((id : Int) + 1)) (.int .i64 ((id : Int) + 1))).run Tryz.prog w = .ok (.slice (some ⟨w.heap.size, 0, none⟩) (id + 1) (id + 1)) (w.alloc (.cells (madeCells #[.bool false] (id + 1)) 4)) := fun w => by
    have h := run_make_row' (P := Tryz.prog) 146 4 (.bool false) 1 Tryz.underlying146 info_bool rfl .i64 .i64 (id + 1) (by omega) (by omega) w
    rw [show ((id + 1 : Nat) : Int) = (id : Int) + 1 by omega] at h
    exact h
  obtain ⟨pn, cn, rfl, hln, hcn⟩ := hN
  have HNC := show Hid (∀ w', Below w.heap.size w w' → ∀ k (hk : k < ns.length), ∃ b o, pn = some ⟨b, o, none⟩ ∧ w'.cell? ⟨b, o + k, none⟩ = some (.string ns[k])) from fun w' hb k hk => by
    obtain ⟨b, o, hp, hc⟩ := hcn k hk
    exact ⟨b, o, hp, cell_later hb hc⟩
  obtain ⟨p, cp, hv, hc1, hc2, hat⟩ := hT.row.isR
  have HR := show Hid (∀ w', Below w.heap.size w w' → w'.cell? ⟨c, 0, none⟩ = some (.slice p t.length cp) ∧ ∀ k (hk : k < t.length), ∃ rg ro, p = some ⟨rg, ro, none⟩ ∧ At4 w' rg (ro + k * 4) t[k]) from fun w' hb => by
    have hT' := hT.later hb
    obtain ⟨p2, cp2, hv2, _, _, hat2⟩ := hT'.row.isR
    rw [hv] at hv2
    obtain ⟨rfl, _, rfl⟩ := Value.slice.inj hv2
    refine ⟨by rw [← hv]; exact hT'.c0, fun k hk => ?_⟩
    obtain ⟨rg, ro, hp, h4⟩ := hat2 (by omega)
    exact ⟨rg, ro, hp, h4 k hk⟩
  have HB0 := show Hid (TB w (w.alloc (.cells (madeCells #[.bool false] (id + 1)) 4)) (id + 1) 0 (fun j => (Tv.vals ns t).getD j false) (fun _ => false)) from ⟨made_bs w (id + 1), fun j h => by omega, fun _ _ => rfl, below_alloc w _⟩
  have HV := show Hid (∀ k (hk : k < t.length), _) from fun k hk => vl_kinds ns hok hk
  have HE := show Hid (Tv.tr ns t (id : Int) = (Tv.vals ns t).getD id false) from by show Tv.tr ns t (id : Int) = _; unfold Tv.tr; rw [Int.toNat_natCast]
  generalize hvl : (fun j => (Tv.vals ns t).getD j false) = vl at *
  have hvl2 : ∀ j, (Tv.vals ns t).getD j false = vl j := fun j => by rw [← hvl]
  simp only [hvl2] at HV HE
  clear hT hat hv hok hvl hvl2 hcn
  generalize Tv.tr ns t (id : Int) = ans at *
  go_enter Tryz.func33, Tryz.ntmps33
  go_wp2_with fail
  go_loopw [8] (fun iv wr => ∃ (k : Nat) (f : Nat → Bool), k ≤ id + 1 ∧ iv = .int .i64 (k : Int) ∧ Hid (TB w wr (id + 1) k vl f)) (fun iv _ => id + 1 - (intOf iv).toNat)
  case atStart => exact ⟨0, fun _ => false, by omega, rfl, HB0.out⟩
  case round =>
    obtain ⟨k, f, hk, rfl, HI⟩ := hrel
    clear HB0 hmk
    by_cases hle : k ≤ id
    · have hki : (k : Int) ≤ (id : Int) := by omega
      have hlt : k < t.length := by omega
      have hkl : (k : Int) < (t.length : Int) := by omega
      have hkb : (k : Int) < (id : Int) + 1 := by omega
      obtain ⟨hc2', hrow⟩ := HR.out wr HI.out.be
      obtain ⟨rg, ro, rfl, hA⟩ := hrow k hlt
      have a0 := hA.c0; have a1 := hA.c1; have a2 := hA.c2; have a3 := hA.c3
      have HV2 := show Hid _ from HV.out k hlt
      clear HV hrow HR hA HE
      generalize t[k] = nd at *
      obtain ⟨nk, nn, nl, nr⟩ := nd
      simp only at a0 a1 a2 a3 HV2
      have HN0 := show Hid (TB w (wr.alloc (Obj.cells #[.int .i64 nk, .string nn, .int .i64 nl, .int .i64 nr] 140)) (id + 1) k vl f ∧ N4 (wr.alloc (Obj.cells #[.int .i64 nk, .string nn, .int .i64 nl, .int .i64 nr] 140)) wr.heap.size ⟨nk, nn, nl, nr⟩) from ⟨HI.out.alloc _, heap_alloc_new _ _⟩
      rcases HV2.out with ⟨e1, hv⟩ | ⟨e1, hv⟩ | ⟨⟨⟨l0, l1⟩, r0, r1⟩, hj⟩
      · subst e1
        have HVK := show Hid (vl k = ns.any (Tv.sameB nn)) from hv
        have HT0 := show Hid (TI w (wr.alloc (Obj.cells #[.int .i64 1, .string nn, .int .i64 nl, .int .i64 nr] 140)) (id + 1) k vl wr.heap.size ⟨1, nn, nl, nr⟩ f false) from ⟨HN0.out.1.bs, HN0.out.1.lo, HN0.out.1.hi k (Nat.le_refl _), fun j hj => HN0.out.1.hi j (by omega), HN0.out.1.be, HN0.out.2, HI.out.bs.lt⟩
        clear hv HV2 HN0 HI
        go_wp2_with fail
        generalize wr.heap.size = nb at *
        go_loopw [10] (fun mv wi => ∃ (m : Nat) (f : Nat → Bool) (b : Bool), m ≤ ns.length ∧ mv = .int .i64 (m : Int) ∧ Hid (TI w wi (id + 1) k vl nb ⟨1, nn, nl, nr⟩ f b ∧ b = (ns.take m).any (Tv.sameB nn))) (fun mv _ => ns.length - (intOf mv).toNat)
        case atStart => exact ⟨0, f, false, by omega, rfl, HT0.out, rfl⟩
        case round =>
          obtain ⟨m, f, b, hm, rfl, HJ⟩ := hrel
          clear HT0
          by_cases hml : m < ns.length
          · have hmi : (m : Int) < (ns.length : Int) := by omega
            obtain ⟨nb2, no, rfl, hcn⟩ := HNC.out wr HJ.out.1.be m hml
            have hcv := HJ.out.1.bs.cell (j := k) (by omega)
            rw [HJ.out.1.at_] at hcv
            have hcf := HJ.out.1.bs.fr k
            have hcs : wr.cell? ⟨nb, 1, none⟩ = some (.string nn) := by rw [cell_of_row wr nb 1 _ _ _ HJ.out.1.nd]; rfl
            have hdn : wr.drew.cell? ⟨nb2, no + m, none⟩ = some (.string ns[m]) := hcn
            have hdv : wr.drew.cell? ⟨w.heap.size, k, none⟩ = some (.bool b) := hcv
            have hdf : wr.drew.frozen? ⟨w.heap.size, k, none⟩ = false := hcf
            have hds : wr.drew.cell? ⟨nb, 1, none⟩ = some (.string nn) := hcs
            have hnx := any_next (Tv.sameB nn) ns hml
            rw [← HJ.out.2] at hnx
            have HNX := show Hid ((ns.take (m + 1)).any (Tv.sameB nn) = (b || Tv.sameB nn ns[m])) from hnx
            clear hnx
            generalize ns[m] = x at *
            have HJ1 := show Hid _ from HJ.out.1
            clear HJ
            cases b
            · by_cases hx : x = nn
              · subst hx
                have hny : true = (ns.take (m + 1)).any (Tv.sameB x) := by rw [HNX.out, Tv.sameB_self]; rfl
                have HNY := show Hid (true = (ns.take (m + 1)).any (Tv.sameB x)) from hny
                clear hny
                clear HNX
                go_wp2_with fail
                go_region
                go_wp2_with fail
                go_roundw
                case rel => exact ⟨m + 1, _, true, by omega, by go_num, (HJ1.out.drew.set true), HNY.out⟩
                case measure => first | (simp [intOf]; done) | (simp [intOf]; omega)
              · have hx1 := Tv.sameB_not hx
                have hx2 : (x.toList == nn.toList) = false := by rw [ByteArray.toList_eq, ByteArray.toList_eq]; exact hx1
                have hny : false = (ns.take (m + 1)).any (Tv.sameB nn) := by rw [HNX.out, hx1]; rfl
                have HNY := show Hid (false = (ns.take (m + 1)).any (Tv.sameB nn)) from hny
                clear hny hx1
                clear HNX
                go_wp2_with fail
                go_region
                go_wp2_with fail
                go_roundw
                case rel => exact ⟨m + 1, _, false, by omega, by go_num, (HJ1.out.drew.set false), HNY.out⟩
                case measure => first | (simp [intOf]; done) | (simp [intOf]; omega)
            · have hny : true = (ns.take (m + 1)).any (Tv.sameB nn) := by rw [HNX.out]; rfl
              have HNY := show Hid (true = (ns.take (m + 1)).any (Tv.sameB nn)) from hny
              clear hny
              clear HNX
              go_wp2_with fail
              go_region
              go_wp2_with fail
              go_roundw
              case rel => exact ⟨m + 1, _, true, by omega, by go_num, (HJ1.out.drew.set true), HNY.out⟩
              case measure => first | (simp [intOf]; done) | (simp [intOf]; omega)
          · have hmi : ¬ (m : Int) < (ns.length : Int) := by omega
            have hb : b = vl k := by rw [HJ.out.2, List.take_of_length_le (by omega), HVK.out]
            have HF := show Hid (TB w wr (id + 1) (k + 1) vl f) from HJ.out.1.done hb.symm
            clear HJ hb
            go_wp2_with fail
            go_roundw
            case rel => exact ⟨k + 1, f, by omega, by go_num, HF.out⟩
            case measure => first | (simp [intOf]; done) | (simp [intOf]; omega)
      · subst e1
        have HF := show Hid (TB w (wr.alloc (Obj.cells #[.int .i64 2, .string nn, .int .i64 nl, .int .i64 nr] 140)) (id + 1) (k + 1) vl f) from HN0.out.1.same hv
        clear hv HV2 HN0 HI
        go_wp2_with fail
        go_roundw
        case rel => exact ⟨k + 1, f, by omega, by go_num, HF.out⟩
        case measure => first | (simp [intOf]; done) | (simp [intOf]; omega)
      · obtain ⟨jl, rfl⟩ : ∃ jl : Nat, nl = jl := ⟨nl.toNat, by omega⟩
        obtain ⟨jr, rfl⟩ : ∃ jr : Nat, nr = jr := ⟨nr.toNat, by omega⟩
        simp only [Int.toNat_natCast] at hj
        have hjl : (jl : Int) < (id : Int) + 1 := by omega
        have hjr : (jr : Int) < (id : Int) + 1 := by omega
        have hcl := HN0.out.1.bs.cell (j := jl) (by omega)
        have hcr := HN0.out.1.bs.cell (j := jr) (by omega)
        have hck := HN0.out.1.bs.cell (j := k) (by omega)
        have hcf := HN0.out.1.bs.fr k
        rw [HN0.out.1.lo jl (by omega)] at hcl
        rw [HN0.out.1.lo jr (by omega)] at hcr
        have HN1 := show Hid _ from HN0.out.1
        generalize vl jl = bl at *
        generalize vl jr = br at *
        rcases hj with ⟨e1, hv⟩ | ⟨e1, hv⟩ | ⟨e1, hv⟩
        · subst e1
          have HVK := show Hid _ from hv
          clear hv HV2 HN0 HI
          cases bl
          · have HF := show Hid (TB w ((wr.alloc (Obj.cells #[.int .i64 3, .string nn, .int .i64 (jl : Int), .int .i64 (jr : Int)] 140)).setCell ⟨w.heap.size, k, none⟩ (.bool false)) (id + 1) (k + 1) vl (updB f k false)) from HN1.out.set (by rw [HVK.out]; simp)
            clear HN1 HVK
            go_wp2_with fail
            go_roundw
            case rel => exact ⟨k + 1, _, by omega, by go_num, HF.out⟩
            case measure => first | (simp [intOf]; done) | (simp [intOf]; omega)
          · have HF := show Hid (TB w ((wr.alloc (Obj.cells #[.int .i64 3, .string nn, .int .i64 (jl : Int), .int .i64 (jr : Int)] 140)).setCell ⟨w.heap.size, k, none⟩ (.bool br)) (id + 1) (k + 1) vl (updB f k br)) from HN1.out.set (by rw [HVK.out]; simp)
            clear HN1 HVK
            go_wp2_with fail
            go_roundw
            case rel => exact ⟨k + 1, _, by omega, by go_num, HF.out⟩
            case measure => first | (simp [intOf]; done) | (simp [intOf]; omega)
        · subst e1
          have HVK := show Hid _ from hv
          clear hv HV2 HN0 HI
          cases bl
          · have HF := show Hid (TB w ((wr.alloc (Obj.cells #[.int .i64 4, .string nn, .int .i64 (jl : Int), .int .i64 (jr : Int)] 140)).setCell ⟨w.heap.size, k, none⟩ (.bool br)) (id + 1) (k + 1) vl (updB f k br)) from HN1.out.set (by rw [HVK.out]; simp)
            clear HN1 HVK
            go_wp2_with fail
            go_roundw
            case rel => exact ⟨k + 1, _, by omega, by go_num, HF.out⟩
            case measure => first | (simp [intOf]; done) | (simp [intOf]; omega)
          · have HF := show Hid (TB w ((wr.alloc (Obj.cells #[.int .i64 4, .string nn, .int .i64 (jl : Int), .int .i64 (jr : Int)] 140)).setCell ⟨w.heap.size, k, none⟩ (.bool true)) (id + 1) (k + 1) vl (updB f k true)) from HN1.out.set (by rw [HVK.out]; simp)
            clear HN1 HVK
            go_wp2_with fail
            go_roundw
            case rel => exact ⟨k + 1, _, by omega, by go_num, HF.out⟩
            case measure => first | (simp [intOf]; done) | (simp [intOf]; omega)
        · subst e1
          have HVK := show Hid _ from hv
          clear hv HV2 HN0 HI
          cases bl
          · have HF := show Hid (TB w ((wr.alloc (Obj.cells #[.int .i64 5, .string nn, .int .i64 (jl : Int), .int .i64 (jr : Int)] 140)).setCell ⟨w.heap.size, k, none⟩ (.bool true)) (id + 1) (k + 1) vl (updB f k true)) from HN1.out.set (by rw [HVK.out]; simp)
            clear HN1 HVK
            go_wp2_with fail
            go_roundw
            case rel => exact ⟨k + 1, _, by omega, by go_num, HF.out⟩
            case measure => first | (simp [intOf]; done) | (simp [intOf]; omega)
          · have HF := show Hid (TB w ((wr.alloc (Obj.cells #[.int .i64 5, .string nn, .int .i64 (jl : Int), .int .i64 (jr : Int)] 140)).setCell ⟨w.heap.size, k, none⟩ (.bool br)) (id + 1) (k + 1) vl (updB f k br)) from HN1.out.set (by rw [HVK.out]; simp)
            clear HN1 HVK
            go_wp2_with fail
            go_roundw
            case rel => exact ⟨k + 1, _, by omega, by go_num, HF.out⟩
            case measure => first | (simp [intOf]; done) | (simp [intOf]; omega)
    · have hki : ¬ (k : Int) ≤ (id : Int) := by omega
      have hc := HI.out.bs.cell (j := id) (by omega)
      have hans := HI.out.lo id (by omega)
      rw [hans] at hc
      have hidb : (id : Int) < (id : Int) + 1 := by omega
      have HBE := show Hid (Below w.heap.size w wr) from HI.out.be
      have ha := HE.out
      rw [← ha] at hc
      clear HI HV HR HE hans ha
      go_wp2_with fail
      go_ret
      exact ⟨rfl, HBE.out⟩
end Go.Proofs.YtkmmlimekachbaaGreatDoor
/-
  The law SequentTruth, as the program walks it: true for every row of formulas, every sequent and every row of names that a machine can hold. Where the tables stand as the program's text lays them.
-/
namespace Go.Proofs.YtkmmlimekachbaaGreatDoor
open Go.RowKit Go.Maps
open Fm (Nd)
open Bt.Bs (Ok)

theorem LG.stepT {w W W2 : World} {B M C : Nat} {v u : Value} {t t0 t' : List Nd} {r : List Nat} {g : Int} (h : LG w W B M v C u t t0 r g) (ha : After W B M v t' W2) : ∃ v', LG w W2 B M v' C u t' t0 r g := by
  have hs := h.sq.lt
  obtain ⟨v', hT, hL, hK⟩ := ha
  obtain ⟨v2, hP⟩ := h.pr.stepT ⟨v', hT, hL, hK⟩
  have e : v2 = v' := tb_same hP.tb hT
  subst e
  refine ⟨v2, hP, (hK.block _ hs fun hk => Nat.lt_irrefl _ (h.nt _ hk)).trans h.sq, ?_, h.nr⟩
  rintro k (e | e | e)
  · exact h.nt k (Or.inl e)
  · exact h.nt k (Or.inr (Or.inl e))
  · rcases hL k e with e | e
    · exact h.nt k (Or.inr (Or.inr e))
    · omega
theorem LG.later {w W W2 : World} {B M C : Nat} {v u : Value} {t t0 : List Nd} {r : List Nat} {g : Int} (h : LG w W B M v C u t t0 r g) (hb : Below W.heap.size W W2) : LG w W2 B M v C u t t0 r g :=
  ⟨h.pr.later hb, h.sq.later hb h.sq.lt, h.nt, h.nr⟩
theorem has_ext {t s : List Nd} {i : Int} (h : Fm.has t i = true) : Fm.has (t ++ s) i = true := by
  have h0 := Fm.has_iff.1 h
  exact Fm.has_iff.2 ⟨h0.1, by rw [List.length_append]; omega⟩
theorem right_goal {t : List Nd} {r : List Nat} {g : Int} (h : rightQ t r g = true) : (∀ i ∈ Bt.Bs.nums r, Fm.has t (i : Int) = true) ∧ Fm.has t g = true := by
  unfold rightQ at h
  rw [Bool.and_eq_true, List.all_eq_true] at h
  exact ⟨fun i hi => h.1 _ (List.mem_map.2 ⟨i, hi, rfl⟩), h.2⟩
set_option maxRecDepth 100000 in
theorem whole_on {t : List Nd} {r : List Nat} (hr : Ok r) {g : Int} (h0 : (wholeQ t r g).1.2 = 0) : rightQ t r g = true ∧ Fm.has (wholeQ t r g).2 (wholeQ t r g).1.1 = true ∧ ∃ s, (wholeQ t r g).2 = t ++ s := by
  cases hq : rightQ t r g with
  | false => rw [(right_not hq).1] at h0; cases h0
  | true =>
    refine ⟨rfl, ?_⟩
    cases hn : Bt.Bs.nums r with
    | nil => rw [whole_nil hr hq hn]; exact ⟨(right_goal hq).2, [], by simp⟩
    | cons a l =>
      rw [whole_cons hr hq hn] at h0 ⊢
      unfold wholeE at h0 ⊢
      by_cases h1 : (andF t a l).1.2 = 0
      · rw [if_pos h1] at h0 ⊢
        by_cases h2 : (Fm.put (andF t a l).2 (joinN 5 (andF t a l).1.1 g)).2.1 = 0
        · rw [if_pos h2]
          obtain ⟨_, s1, h4⟩ := Fm.put_len (andF t a l).2 (joinN 5 (andF t a l).1.1 g)
          obtain ⟨s2, h5⟩ := Tv.and_on l (a : Int) t
          exact ⟨(Tv.put_row h2).1, s2 ++ s1, by rw [h4, show (andF t a l).2 = t ++ s2 from h5, List.append_assoc]⟩
        · rw [if_neg h2] at h0; exact absurd h0 h2
      · rw [if_neg h1] at h0; exact absurd h0 h1
theorem cur_has : ∀ (l : List Nat) (a : Int) (t : List Nd), Fm.has t a = true → (l.foldl curS ((a, 0), t)).1.2 = 0 → Fm.has (l.foldl curS ((a, 0), t)).2 (l.foldl curS ((a, 0), t)).1.1 = true
  | [], _, _, h, _ => h
  | i :: l, a, t, h, h0 => by
    rw [List.foldl_cons] at h0 ⊢
    have e : curS ((a, 0), t) i = (((Fm.put t (joinN 5 i a)).1, (Fm.put t (joinN 5 i a)).2.1), (Fm.put t (joinN 5 i a)).2.2) := rfl
    rw [e] at h0 ⊢
    by_cases hp : (Fm.put t (joinN 5 i a)).2.1 = 0
    · rw [hp] at h0 ⊢
      exact cur_has l _ _ (Tv.put_row hp).1 h0
    · rw [curF_stay _ _ hp] at h0
      exact absurd h0 hp
set_option maxRecDepth 100000 in
theorem curry_on {t : List Nd} {r : List Nat} {g : Int} (h0 : (curryQ t r g).1.2 = 0) : Fm.has (curryQ t r g).2 (curryQ t r g).1.1 = true ∧ ∃ s, (curryQ t r g).2 = t ++ s := by
  cases hq : rightQ t r g with
  | false => rw [(right_not hq).2] at h0; cases h0
  | true =>
    rw [curry_l hq] at h0 ⊢
    unfold curryE at h0 ⊢
    by_cases h1 : (curF t g (Bt.Bs.nums r).reverse).1.2 = 0
    · rw [if_pos h1]
      obtain ⟨s, hs⟩ := Tv.cur_on (Bt.Bs.nums r).reverse t g
      exact ⟨cur_has _ g t (right_goal hq).2 h1, s, hs⟩
    · rw [if_neg h1] at h0; exact absurd h0 h1
structure TN (w W : World) (C2 : Nat) (u2 : Value) (t2 : List Nd) (C : Nat) (u : Value) (t : List Nd) (r : List Nat) (g : Int) : Prop where
  tr : Tr W C2 u2 t2
  t0 : Tr W C u t
  sq : SeqAt W w.heap.size r g
  be : Below w.heap.size w W
theorem TN.later {w W W2 : World} {C2 C : Nat} {u2 u : Value} {t2 t : List Nd} {r : List Nat} {g : Int} (h : TN w W C2 u2 t2 C u t r g) (hb : Below W.heap.size W W2) : TN w W2 C2 u2 t2 C u t r g :=
  ⟨h.tr.later hb, h.t0.later hb, h.sq.later hb h.sq.lt, h.be.trans (hb.mono h.be.size)⟩
structure TS (ns : List ByteArray) (t2 : List Nd) (l : List Nat) (g a b : Int) : Prop where
  ha : Fm.has t2 a = true
  hb : Fm.has t2 b = true
  hg : Fm.has t2 g = true
  hl : ∀ i ∈ l, Fm.has t2 (i : Int) = true
  sa : Tv.tr ns t2 a = (!Tv.alls ns t2 l || Tv.tr ns t2 g)
  sb : Tv.tr ns t2 b = (!Tv.alls ns t2 l || Tv.tr ns t2 g)
theorem ts_of (ns : List ByteArray) {t t2 : List Nd} (hU : Fm.Ok t2) {r : List Nat} (hr : Ok r) {g : Int} (h1 : (wholeQ t r g).1.2 = 0) (h2 : (curryQ (wholeQ t r g).2 r g).1.2 = 0) (ht : (curryQ (wholeQ t r g).2 r g).2 = t2) : rightQ t r g = true ∧ TS ns t2 (Bt.Bs.nums r) g (wholeQ t r g).1.1 (curryQ (wholeQ t r g).2 r g).1.1 := by
  obtain ⟨hq, ha, s1, hs1⟩ := whole_on hr h1
  obtain ⟨hb, s2, hs2⟩ := curry_on h2
  rw [ht] at hb hs2
  obtain ⟨hl, hg⟩ := right_goal hq
  have hw := whole_says_ ns hU hr h1 ⟨s2, hs2⟩
  have hc := Tv.curry_says ns hU h2 ⟨[], by rw [ht]; simp⟩
  refine ⟨hq, by rw [hs2]; exact has_ext ha, hb, by rw [hs2, hs1]; exact has_ext (has_ext hg), fun i hi => by rw [hs2, hs1]; exact has_ext (has_ext (hl i hi)), hw, hc⟩
where whole_says_ (ns : List ByteArray) {t u : List Nd} (hU : Fm.Ok u) {r : List Nat} (hr : Ok r) {g : Int} (h0 : (wholeQ t r g).1.2 = 0) (hs : ∃ s, u = (wholeQ t r g).2 ++ s) : Tv.tr ns u (wholeQ t r g).1.1 = (!Tv.alls ns u (Bt.Bs.nums r) || Tv.tr ns u g) := (Tv.whole_says ns hU hr h0 hs).2
theorem alls_next (ns : List ByteArray) (u : List Nd) (l : List Nat) {k : Nat} (hk : k < l.length) : Tv.alls ns u (l.take (k + 1)) = (Tv.alls ns u (l.take k) && Tv.tr ns u (l[k] : Nat)) := by
  unfold Tv.alls
  rw [List.take_add_one, List.getElem?_eq_getElem hk, List.all_append]
  simp
set_option maxRecDepth 100000 in
set_option maxHeartbeats 4000000 in
theorem sequentTruth_any (w : World) (rv : Value) (rs : List Nd) (hR : IsR w rv rs) (hg : ∀ n ∈ rs, Fm.good n) (hl : rs.length * 40 ≤ 140737488351232) (hv : rv = .slice none 0 0 ∨ ∃ a n c, rv = .slice (some a) n c)
    (r : List Nat) (hr : Ok r) (gl : Int) (nv : Value) (ns : List ByteArray) (hN : IsNs w nv ns) (hL : Tw.Laid w) (hZ : Bt.Tz w) :
    Calls Tryz.prog 8 #[rv, .agg (cellsQ r gl), nv] w fun e w' => e = .returned (.bool true) ∧ Below w.heap.size w w' := by
  have hr16 := hr.1
  have KT := show Hid (∀ w', Below w.heap.size w w' → Calls Tryz.prog 9 #[rv] w' fun e w'' => ∃ B M v C u, e = .returned (.tuple #[.pointer (some ⟨B, 0, none⟩), .pointer (some ⟨C, 0, none⟩)]) ∧ Pair w' w'' B M v C u (tabOf rs) (tabOf rs)) from fun w' hb => tables_any w' rv rs (hR.later hb) hg hl hv
  have KH := show Hid (∀ w' : World, Below w.heap.size w w' → Calls Tryz.prog 19 #[] w' fun e w'' => e = .returned (.bool true) ∧ Below w'.heap.size w' w'') from fun w' hb => qheads_any w' (hL.later hb) (Bt.tz_block hZ hb)
  have KM := show Hid (∀ (w : World) (x : Int), Calls Tryz.prog 14 #[.int .i64 x] w fun e w' => e = .returned (.int .i64 x) ∧ w' = w) from qnum_any
  have KW := show Hid (∀ (W : World) B M v C u (t : List Nd), LG w W B M v C u t t r gl → Calls Tryz.prog 24 #[.pointer (some ⟨B, 0, none⟩), .agg (cellsQ r gl)] W fun e w' => e = .returned (.tuple #[.int .i64 (wholeQ t r gl).1.1, .int .i64 (wholeQ t r gl).1.2]) ∧ ∃ v', LG w w' B M v' C u (wholeQ t r gl).2 t r gl) from fun W B M v C u t h => (qwhole_any W h.pr.tb (Bt.tz_block hZ h.pr.bel) (fun hk => by have := h.nt _ hk; have := Bt.tz_lt hZ; omega) hr gl).mono fun e w' hh => ⟨hh.1, h.stepT hh.2⟩
  have KC := show Hid (∀ (W : World) B M v C u (t1 t : List Nd), LG w W B M v C u t1 t r gl → Calls Tryz.prog 26 #[.pointer (some ⟨B, 0, none⟩), .agg (cellsQ r gl)] W fun e w' => e = .returned (.tuple #[.int .i64 (curryQ t1 r gl).1.1, .int .i64 (curryQ t1 r gl).1.2]) ∧ ∃ v', LG w w' B M v' C u (curryQ t1 r gl).2 t r gl) from fun W B M v C u t1 t h => (qcurry_any W h.pr.tb (Bt.tz_block hZ h.pr.bel) hr gl).mono fun e w' hh => ⟨hh.1, h.stepT hh.2⟩
  have KRR := show Hid (∀ (W : World) C u (t : List Nd), Tr W C u t → Calls Tryz.prog 16 #[.pointer (some ⟨C, 0, none⟩), .agg (cellsQ r gl)] W fun e w'' => e = .returned (.bool (rightQ t r gl)) ∧ Below W.heap.size W w'') from fun W C u t h => rright_any W h hr gl
  have KL := show Hid (∀ w', Calls Tryz.prog 32 #[.agg (Bt.cellsB r)] w' fun e w'' => ∃ p cc, e = .returned (.slice p (Bt.Bs.nums r).length cc) ∧ (∀ k (hk : k < (Bt.Bs.nums r).length), ∃ b, p = some ⟨b, 0, none⟩ ∧ w''.cell? ⟨b, k, none⟩ = some (.int .i64 (((Bt.Bs.nums r)[k] : Nat) : Int))) ∧ Below w'.heap.size w' w'') from fun w' => (Bt.rlist_any w' hr).mono fun e w'' ⟨v, he, ho, hb⟩ => by
    obtain ⟨p, cc, hv, hcell⟩ := own_ints ho
    refine ⟨p, cc, by rw [he, hv], fun k hk => ?_, hb⟩
    obtain ⟨b, cur, hp, hB, hh, hc⟩ := hcell k hk
    refine ⟨b, hp, ?_⟩
    rw [cell_of_row w'' b k _ _ _ hh]
    exact hc
  have hnl : (Bt.Bs.nums r).length ≤ 1024 := Bt.Bs.nums_len_le r
  have HNS := show Hid (∀ W, Below w.heap.size w W → IsNs W nv ns) from fun W hb => hN.later hb
  have HTS := show Hid (∀ (t t2 : List Nd), Fm.Ok t2 → (wholeQ t r gl).1.2 = 0 → (curryQ (wholeQ t r gl).2 r gl).1.2 = 0 → (curryQ (wholeQ t r gl).2 r gl).2 = t2 → rightQ t r gl = true ∧ TS ns t2 (Bt.Bs.nums r) gl (wholeQ t r gl).1.1 (curryQ (wholeQ t r gl).2 r gl).1.1) from fun t t2 h h1 h2 h3 => ts_of ns h hr h1 h2 h3
  generalize tabOf rs = t at *
  have hsl : ∃ p n cc, rv = .slice p n cc := by
    rcases hv with rfl | ⟨a, n, cc, rfl⟩
    · exact ⟨_, _, _, rfl⟩
    · exact ⟨_, _, _, rfl⟩
  obtain ⟨p, n, cc, rfl⟩ := hsl
  obtain ⟨pn, cn, rfl, hln, _⟩ := hN
  have HC := show Hid (SeqAt (w.alloc (.cells (cellsQ r gl) 27)) w.heap.size r gl ∧ Below w.heap.size w (w.alloc (.cells (cellsQ r gl) 27)) ∧ (w.alloc (.cells (cellsQ r gl) 27)).heap.size = w.heap.size + 1) from ⟨seq_new w r gl, below_alloc w _, by simp⟩
  clear hR hg hl hv hL hZ hr
  go_enter Tryz.func8, Tryz.ntmps8
  go_wp2_with fail
  refine (KT.out _ HC.out.2.1).mono ?_
  rintro e w1 ⟨B, M, v, C, u, rfl, hP⟩
  have X1 := show Hid (LG w w1 B M v C u t t r gl) from ⟨hP.base HC.out.2.1, HC.out.1.later hP.bel HC.out.1.lt, fun k hk => by have := hP.bt k hk; rw [HC.out.2.2] at this; omega, fun k hk => by have := hP.br k hk; rw [HC.out.2.2] at this; omega⟩
  clear KT hP HC
  have K1 := show Hid _ from KW.out w1 B M v C u t X1.out
  have K2 := show Hid (∀ W v', LG w W B M v' C u (wholeQ t r gl).2 t r gl → Calls Tryz.prog 26 #[.pointer (some ⟨B, 0, none⟩), .agg (cellsQ r gl)] W fun e w' => e = .returned (.tuple #[.int .i64 (curryQ (wholeQ t r gl).2 r gl).1.1, .int .i64 (curryQ (wholeQ t r gl).2 r gl).1.2]) ∧ ∃ v', LG w w' B M v' C u (curryQ (wholeQ t r gl).2 r gl).2 t r gl) from fun W v' h => KC.out W B M v' C u _ t h
  have HT2 := show Hid _ from HTS.out t (curryQ (wholeQ t r gl).2 r gl).2
  clear KW KC HTS
  generalize curryQ (wholeQ t r gl).2 r gl = cq at *
  generalize wholeQ t r gl = wq at *
  obtain ⟨⟨wx, we⟩, wt⟩ := wq
  obtain ⟨⟨cx, ce⟩, ct⟩ := cq
  simp only at K1 K2 HT2
  go_wp2_with (refine wpList_ldQQ _ _ rfl _ rfl X1.out.sq hr16 rfl ?_)
  refine Calls.mono K1.out ?_
  rintro e w2 ⟨rfl, v2, h2⟩
  have X2 := show Hid _ from h2
  clear h2 K1 X1
  go_wp2_with (refine wpList_ldQQ _ _ rfl _ rfl X2.out.sq hr16 rfl ?_)
  refine Calls.mono (K2.out _ _ X2.out) ?_
  rintro e w3 ⟨rfl, v3, h3⟩
  have X3 := show Hid (LG w w3 B M v3 C u ct t r gl) from h3
  clear h3 K2 X2
  by_cases hwe : we = 0
  · by_cases hce : ce = 0
    · obtain ⟨hrq, hts⟩ := HT2.out X3.out.pr.tb.ok hwe hce (by trivial)
      subst hwe
      subst hce
      have HS := show Hid _ from hts
      have KRO := show Hid (Calls Tryz.prog 30 #[.pointer (some ⟨B, 0, none⟩)] w3 fun e w' => ∃ v', e = .returned v' ∧ Fresh w3 w' v' ct) from rows_any w3 X3.out.pr.tb
      have HG := show Hid (∀ n ∈ ct, Fm.good n) from X3.out.pr.tb.ok.gd
      have hctl := X3.out.pr.tb.ok.len
      have HFS := show Hid (Fm.fr [] ct = (0, ct)) from Fm.fr_self X3.out.pr.tb.ok
      clear hts HT2
      go_wp2_with (go_at_call 14; refine (KM.out _ _).mono ?_; rintro e w' ⟨rfl, rfl⟩)
      refine KRO.out.mono ?_
      rintro e w4 ⟨v4, rfl, hrw, -, hb4⟩
      have X4 := show Hid (LG w w4 B M v3 C u ct t r gl) from X3.out.later hb4
      have KF := show Hid (Calls Tryz.prog 29 #[v4] w4 fun e w' => ∃ C2 u2, e = .returned (.tuple #[.pointer (some ⟨C2, 0, none⟩), .int .i64 0]) ∧ Tr w' C2 u2 ct ∧ Below w4.heap.size w4 w') from (rfrom_any w4 v4 ct hrw.isR HG.out (by omega)).mono fun e w' ⟨h1, h2⟩ => by
        rw [HFS.out] at h1
        rcases h1 with ⟨_, C2, u2, he, hT, _⟩ | ⟨h, _⟩
        · exact ⟨C2, u2, he, hT, h2⟩
        · exact absurd rfl h
      clear hrw hb4 KRO X3
      go_wp2_with fail
      refine KF.out.mono ?_
      rintro e w5 ⟨C2, u2, rfl, hT5, hb5⟩
      have X5 := show Hid (TN w w5 C2 u2 ct C u t r gl) from ⟨hT5, X4.out.pr.tr.later hb5, X4.out.sq.later hb5 X4.out.sq.lt, (X4.out.later hb5).pr.bel⟩
      have KHA := show Hid (Calls Tryz.prog 31 #[.pointer (some ⟨C2, 0, none⟩), .int .i64 wx] w5 fun e w' => e = .returned (.bool true) ∧ w' = w5) from by
        have h := rhas_any w5 hT5 wx
        rw [HS.out.ha] at h
        exact h
      have KHB := show Hid (Calls Tryz.prog 31 #[.pointer (some ⟨C2, 0, none⟩), .int .i64 cx] w5 fun e w' => e = .returned (.bool true) ∧ w' = w5) from by
        have h := rhas_any w5 hT5 cx
        rw [HS.out.hb] at h
        exact h
      have KRI := show Hid (Calls Tryz.prog 16 #[.pointer (some ⟨C, 0, none⟩), .agg (cellsQ r gl)] w5 fun e w' => e = .returned (.bool true) ∧ Below w5.heap.size w5 w') from by
        have h := KRR.out w5 C u t X5.out.t0
        rw [hrq] at h
        exact h
      clear hT5 hb5 KF X4 KRR hrq
      go_wp2_with fail
      refine KHA.out.mono ?_
      rintro e w' ⟨rfl, hw'⟩
      subst w'
      go_wp2_with fail
      refine KHB.out.mono ?_
      rintro e w' ⟨rfl, hw'⟩
      subst w'
      go_wp2_with (refine wpList_ldQQ _ _ rfl _ rfl X5.out.sq hr16 rfl ?_)
      refine KRI.out.mono ?_
      rintro e w6 ⟨rfl, hb6⟩
      have X6 := show Hid (TN w w6 C2 u2 ct C u t r gl) from X5.out.later hb6
      clear hb6 X5 KHA KHB KRI
      go_wp2_with (refine wpList_ldQ _ _ rfl _ rfl X6.out.sq hr16 rfl ?_)
      refine (KL.out _).mono ?_
      rintro e w7 ⟨pl, cl, rfl, hcl, hb7⟩
      have X7 := show Hid (TN w w7 C2 u2 ct C u t r gl) from X6.out.later hb7
      have HCL := show Hid (∀ W, Below w7.heap.size w7 W → ∀ k (hk : k < (Bt.Bs.nums r).length), ∃ b, pl = some ⟨b, 0, none⟩ ∧ W.cell? ⟨b, k, none⟩ = some (.int .i64 (((Bt.Bs.nums r)[k] : Nat) : Int))) from fun W hb k hk => by
        obtain ⟨b, hp, hc⟩ := hcl k hk
        exact ⟨b, hp, cell_later hb hc⟩
      have KTR := show Hid (∀ (W : World) (i : Int), TN w W C2 u2 ct C u t r gl → Fm.has ct i = true → Calls Tryz.prog 33 #[.pointer (some ⟨C2, 0, none⟩), .int .i64 i, .slice pn ns.length cn] W fun e w' => e = .returned (.bool (Tv.tr ns ct i)) ∧ Below W.heap.size W w') from fun W i h hi => by
        have h0 := Fm.has_iff.1 hi
        obtain ⟨k, rfl⟩ : ∃ k : Nat, i = k := ⟨i.toNat, by omega⟩
        exact rtrue_any W h.tr k (by omega) _ ns (HNS.out W h.be)
      clear hcl hb7 X6 KL HNS
      generalize Bt.Bs.nums r = l at *
      go_wp2_with fail
      go_loopw [16, 17] (fun av iv wr => ∃ (k : Nat) (b : Bool), k ≤ l.length ∧ iv = .int .i64 (k : Int) ∧ av = .bool b ∧ Hid (b = Tv.alls ns ct (l.take k) ∧ Below w7.heap.size w7 wr)) (fun _ iv _ => l.length - (intOf iv).toNat)
      case atStart => exact ⟨0, true, by omega, rfl, rfl, rfl, Below.refl _ _⟩
      case round =>
        obtain ⟨k, b, hk, rfl, rfl, HI⟩ := hrel
        by_cases hlt : k < l.length
        · have hki : (k : Int) < (l.length : Int) := by omega
          have hnx := alls_next ns ct l hlt
          rw [← HI.out.1] at hnx
          cases b
          · have HJ := show Hid (false = Tv.alls ns ct (l.take (k + 1)) ∧ Below w7.heap.size w7 wr) from ⟨by rw [hnx]; rfl, HI.out.2⟩
            clear hnx HI
            go_wp2_with fail
            go_roundw
            case rel => exact ⟨k + 1, false, by omega, by go_num, rfl, HJ.out⟩
            case measure => first | (simp [intOf]; done) | (simp [intOf]; omega)
          · obtain ⟨lb, rfl, hc⟩ := HCL.out wr HI.out.2 k hlt
            have K3 := show Hid _ from KTR.out wr (l[k] : Nat) (X7.out.later HI.out.2) (HS.out.hl _ (List.getElem_mem hlt))
            have hj : Tv.tr ns ct (l[k] : Nat) = Tv.alls ns ct (l.take (k + 1)) := by rw [hnx]; simp
            have HJ := show Hid (Tv.tr ns ct (l[k] : Nat) = Tv.alls ns ct (l.take (k + 1))) from hj
            have HB := show Hid (Below w7.heap.size w7 wr) from HI.out.2
            clear hnx HI hj
            generalize Tv.tr ns ct ((l[k] : Nat) : Int) = bx at *
            generalize ((l[k] : Nat) : Int) = y at *
            go_wp2_with fail
            refine Calls.mono K3.out ?_
            rintro e w8 ⟨rfl, hb8⟩
            have HJ2 := show Hid (bx = Tv.alls ns ct (l.take (k + 1)) ∧ Below w7.heap.size w7 w8) from ⟨HJ.out, HB.out.trans (hb8.mono HB.out.size)⟩
            clear hb8 HJ HB K3 hc
            go_wp2_with fail
            go_roundw
            case rel => exact ⟨k + 1, bx, by omega, by go_num, rfl, HJ2.out⟩
            case measure => first | (simp [intOf]; done) | (simp [intOf]; omega)
        · have hki : ¬ (k : Int) < (l.length : Int) := by omega
          have hba : b = Tv.alls ns ct l := by rw [HI.out.1, List.take_of_length_le (by omega)]
          have X8 := show Hid (TN w wr C2 u2 ct C u t r gl) from X7.out.later HI.out.2
          have hsa := HS.out.sa
          have hsb := HS.out.sb
          rw [← hba] at hsa hsb
          have K4 := show Hid (∀ W, TN w W C2 u2 ct C u t r gl → Calls Tryz.prog 33 #[.pointer (some ⟨C2, 0, none⟩), .int .i64 gl, .slice pn ns.length cn] W fun e w' => e = .returned (.bool (Tv.tr ns ct gl)) ∧ Below W.heap.size W w') from fun W h => KTR.out W gl h HS.out.hg
          have K5 := show Hid (∀ W, TN w W C2 u2 ct C u t r gl → Calls Tryz.prog 33 #[.pointer (some ⟨C2, 0, none⟩), .int .i64 wx, .slice pn ns.length cn] W fun e w' => e = .returned (.bool (!b || Tv.tr ns ct gl)) ∧ Below W.heap.size W w') from fun W h => hsa ▸ KTR.out W wx h HS.out.ha
          have K6 := show Hid (∀ W, TN w W C2 u2 ct C u t r gl → Calls Tryz.prog 33 #[.pointer (some ⟨C2, 0, none⟩), .int .i64 cx, .slice pn ns.length cn] W fun e w' => e = .returned (.bool (!b || Tv.tr ns ct gl)) ∧ Below W.heap.size W w') from fun W h => hsb ▸ KTR.out W cx h HS.out.hb
          clear hsa hsb hba HI KTR HS HCL X7
          generalize Tv.tr ns ct gl = bg at *
          cases b
          · go_wp2_with fail
            refine (K5.out _ X8.out).mono ?_
            rintro e w9 ⟨rfl, hb9⟩
            have X9 := show Hid (TN w w9 C2 u2 ct C u t r gl) from X8.out.later hb9
            clear hb9 X8
            go_wp2_with fail
            refine (K6.out _ X9.out).mono ?_
            rintro e w10 ⟨rfl, hb10⟩
            have X10 := show Hid (Below w.heap.size w w10) from (X9.out.later hb10).be
            clear hb10 X9
            go_wp2_with fail
            refine (KH.out _ X10.out).mono ?_
            rintro e w11 ⟨rfl, hb11⟩
            have X11 := show Hid (Below w.heap.size w w11) from X10.out.trans (hb11.mono X10.out.size)
            clear hb11
            go_wp2_with fail
            go_ret
            exact ⟨rfl, X11.out⟩
          · have cg := X8.out.sq.goal hr16
            go_wp2_with fail
            refine (K4.out _ X8.out).mono ?_
            rintro e w9 ⟨rfl, hb9⟩
            have X9 := show Hid (TN w w9 C2 u2 ct C u t r gl) from X8.out.later hb9
            clear hb9 X8 cg
            simp only [Bool.not_true, Bool.false_or] at K5 K6
            go_wp2_with fail
            refine (K5.out _ X9.out).mono ?_
            rintro e w10 ⟨rfl, hb10⟩
            have X10 := show Hid (TN w w10 C2 u2 ct C u t r gl) from X9.out.later hb10
            clear hb10 X9
            cases bg
            all_goals
              go_wp2_with fail
              refine (K6.out _ X10.out).mono ?_
              rintro e w11 ⟨rfl, hb11⟩
              have X11 := show Hid (Below w.heap.size w w11) from (X10.out.later hb11).be
              clear hb11 X10
              go_wp2_with fail
              refine (KH.out _ X11.out).mono ?_
              rintro e w12 ⟨rfl, hb12⟩
              have X12 := show Hid (Below w.heap.size w w12) from X11.out.trans (hb12.mono X11.out.size)
              clear hb12
              go_wp2_with fail
              go_ret
              exact ⟨rfl, X12.out⟩
    · have hne : (ce != 0) = true := by simpa using hce
      subst hwe
      have H3 := show Hid (Below w.heap.size w w3) from X3.out.pr.bel
      clear X3 HT2 KRR KL HNS
      go_wp2_with (go_at_call 14; refine (KM.out _ _).mono ?_; rintro e w' ⟨rfl, rfl⟩)
      refine (KH.out _ H3.out).mono ?_
      rintro e w4 ⟨rfl, hb4⟩
      have H4 := show Hid (Below w.heap.size w w4) from H3.out.trans (hb4.mono H3.out.size)
      clear hb4
      go_wp2_with fail
      go_ret
      exact ⟨rfl, H4.out⟩
  · have hne : (we != 0) = true := by simpa using hwe
    have H3 := show Hid (Below w.heap.size w w3) from X3.out.pr.bel
    clear X3 HT2 KRR KL HNS
    go_wp2_with (go_at_call 14; refine (KM.out _ _).mono ?_; rintro e w' ⟨rfl, rfl⟩)
    refine (KH.out _ H3.out).mono ?_
    rintro e w4 ⟨rfl, hb4⟩
    have H4 := show Hid (Below w.heap.size w w4) from H3.out.trans (hb4.mono H3.out.size)
    clear hb4
    go_wp2_with fail
    go_ret
    exact ⟨rfl, H4.out⟩
end Go.Proofs.YtkmmlimekachbaaGreatDoor
