/-
  What the document's first, Apply and Choices answer, told plainly, is what the program's answer. No condition but that the rows are a table's and the sequent is right.
-/
import Derived.Test.YtkejippimkjjaaaGreatDoorZH1
import Derived.Test.YtkejippimkjjaaaGreatDoorZT1
import Derived.Test.YtkejippimkjjaaaGreatDoorZG9
import Derived.Test.YtkejippimkjjaaaGreatDoorZG6
namespace Go.Proofs.YtkejippimkjjaaaGreatDoor
open Go.RowKit Go.Shelf Go.Maps
open Fm (Nd)
open Bt.Bs (Ok wd)
set_option linter.unusedSimpArgs false

section
variable (t : List Nd) (r : List Nat) (g : Int) (u : List Int)
def oneD (i : Nat) (k : Int) : List (Int × Int) := if findF t r g k (i : Int) then [(k, (i : Int))] else []
def flk (i k : Nat) : List (Int × Int) := (u.drop k).flatMap (oneD t r g i)
def fli (i : Nat) : List (Int × Int) := ((List.range t.length).drop i).flatMap fun i => flk t r g u i 0
def fl : List (Int × Int) := (List.range t.length).flatMap fun i => flk t r g u i 0
theorem fl_zero : fl t r g u = fli t r g u 0 := rfl
theorem fli_lt {i : Nat} (h : i < t.length) : fli t r g u i = flk t r g u i 0 ++ fli t r g u (i + 1) := by
  unfold fli
  rw [List.drop_eq_getElem_cons (by simpa using h), List.flatMap_cons, List.getElem_range]
theorem fli_end : fli t r g u t.length = [] := by
  unfold fli
  rw [List.drop_of_length_le (by simp)]
  rfl
theorem flk_lt {i k : Nat} (h : k < u.length) : flk t r g u i k = oneD t r g i u[k] ++ flk t r g u i (k + 1) := by
  unfold flk
  rw [List.drop_eq_getElem_cons h, List.flatMap_cons]
theorem flk_end {i : Nat} : flk t r g u i u.length = [] := by
  unfold flk
  rw [List.drop_length]
  rfl
end
theorem flat_filter {α β : Type} (p : α → Bool) (f : α → List β) : ∀ l : List α, (∀ x ∈ l, p x = false → f x = []) → (l.filter p).flatMap f = l.flatMap f
  | [], _ => rfl
  | x :: l, h => by
    have ih := flat_filter p f l (fun y hy => h y (List.mem_cons_of_mem _ hy))
    cases hp : p x with
    | true => rw [List.filter_cons_of_pos hp, List.flatMap_cons, List.flatMap_cons, ih]
    | false => rw [List.filter_cons_of_neg (by simp [hp]), List.flatMap_cons, ih, h x (List.mem_cons_self ..) hp, List.nil_append]
theorem flat_cong {α β : Type} {f f' : α → List β} : ∀ {l : List α}, (∀ x ∈ l, f x = f' x) → l.flatMap f = l.flatMap f'
  | [], _ => rfl
  | x :: l, h => by rw [List.flatMap_cons, List.flatMap_cons, h x (List.mem_cons_self ..), flat_cong fun y hy => h y (List.mem_cons_of_mem _ hy)]
theorem fit_out {t : List Nd} {r : List Nat} {g : Int} {n i : Nat} (h1 : inL r (n : Int) = false) (h2 : (n : Int) ≠ g) : fitS r g i (shp t (n : Int)) = false := by
  have e : (shp t (n : Int)).id = n := rfl
  have h3 : ((n : Int) == g) = false := by simpa using h2
  unfold fitS
  split <;> simp [e, h1, h3]
theorem sides_all {t : List Nd} (hO : Fm.Ok t) {r : List Nat} (hr : Ok r) {g : Int} (hq : rightQ t r g = true) : sidesN r g = (List.range t.length).filter fun n => Bt.Bs.has r n || decide ((n : Int) = g) := by
  unfold rightQ at hq
  simp only [Bool.and_eq_true] at hq
  have hg := Fm.has_iff.1 hq.2
  have hlen := hO.len
  obtain ⟨m, rfl⟩ : ∃ m : Nat, g = m := ⟨g.toNat, by omega⟩
  have hm : m < 1024 := by omega
  have hall : ∀ n, n < 1024 → Bt.Bs.has r n = true → n < t.length := fun n hn hh => by
    have := List.all_eq_true.1 hq.1 (n : Int) (List.mem_map.2 ⟨n, Bt.Bs.mem_nums.2 ⟨hn, hh⟩, rfl⟩)
    have := (Fm.has_iff.1 this).2
    omega
  unfold sidesN withF withF Bt.putI
  rw [if_pos ⟨by omega, by omega⟩, Int.toNat_natCast]
  show (List.range 1024).filter (Bt.Bs.has (Bt.Bs.put r m)) = _
  have e : List.range 1024 = List.range t.length ++ (List.range (1024 - t.length)).map (t.length + ·) := by
    rw [← List.range_add, Nat.add_sub_cancel' hlen]
  rw [e, List.filter_append]
  have e2 : ((List.range (1024 - t.length)).map (t.length + ·)).filter (Bt.Bs.has (Bt.Bs.put r m)) = [] := by
    rw [List.filter_eq_nil_iff]
    intro x hx
    obtain ⟨y, hy, rfl⟩ := List.mem_map.1 hx
    have hy := List.mem_range.1 hy
    rw [Bt.Bs.has_put hr hm]
    intro h
    rw [Bool.or_eq_true] at h
    rcases h with h | h
    · have := hall _ (by omega) h
      omega
    · have := of_decide_eq_true h
      omega
  rw [e2, List.append_nil]
  refine List.filter_congr fun x _ => ?_
  rw [Bt.Bs.has_put hr hm]
  have e3 : decide (x = m) = decide ((x : Int) = (m : Int)) := by
    by_cases h : x = m
    · subst h; simp
    · rw [decide_eq_false h, decide_eq_false (by omega)]
  rw [e3]
theorem plc_flat {t : List Nd} {r : List Nat} {g : Int} {n : Nat} (hn : n < t.length) (u : List Int) (hu : (plcs u).map (fun i : Nat => (i : Int) + 1) = u) (hb : ∀ i ∈ plcs u, i < 13) : tl3 r g (shp t (n : Int)) (plcs u) = flk t r g u n 0 := by
  unfold tl3 flk
  rw [List.drop_zero]
  conv => rhs; rw [← hu]
  rw [List.flatMap_map]
  refine flat_cong fun i hi => ?_
  have h13 := hb i hi
  unfold oneF oneD
  rw [find_nat hn]
  have e1 : decide ((1 : Int) ≤ (i : Int) + 1) = true := decide_eq_true (by omega)
  have e2 : decide ((i : Int) + 1 ≤ 13) = true := decide_eq_true (by omega)
  have e3 : ((i : Int) + 1 - 1).toNat = i := by omega
  rw [e1, e2, e3, Bool.true_and, Bool.true_and]
  rfl
theorem tl2_fl {t : List Nd} (hO : Fm.Ok t) {r : List Nat} (hr : Ok r) {g : Int} (hq : rightQ t r g = true) (u : List Int) (hu : (plcs u).map (fun i : Nat => (i : Int) + 1) = u) (hb : ∀ i ∈ plcs u, i < 13) : tl2 r g (plcs u) (sidesF t r g) = fl t r g u := by
  unfold tl2 sidesF fl
  rw [sides_all hO hr hq, List.flatMap_map]
  have hlen := hO.len
  have e : ((List.range t.length).filter fun n => Bt.Bs.has r n || decide ((n : Int) = g)).flatMap (fun n : Nat => tl3 r g (shp t (n : Int)) (plcs u)) = (List.range t.length).flatMap (fun n : Nat => tl3 r g (shp t (n : Int)) (plcs u)) := by
    refine flat_filter _ _ _ fun n hn h => ?_
    have hn := List.mem_range.1 hn
    rw [Bool.or_eq_false_iff] at h
    have h1 : inL r (n : Int) = false := by
      rw [inL_has hr (by omega)]
      unfold Bt.Bs.hasI
      rw [Int.toNat_natCast, h.1, Bool.and_false]
    have h2 : (n : Int) ≠ g := by simpa using h.2
    unfold tl3
    rw [List.flatMap_eq_nil_iff]
    intro i _
    unfold oneF
    rw [fit_out h1 h2]
    rfl
  rw [e]
  refine flat_cong fun n hn => ?_
  exact plc_flat (List.mem_range.1 hn) u hu hb
theorem sure_plcs : ∀ u ∈ sureT ++ choT, (plcs u).map (fun i : Nat => (i : Int) + 1) = u ∧ ∀ i ∈ plcs u, i < 13 := by
  have h13 : ∀ (u : List Int), ∀ i ∈ plcs u, i < 13 := fun u i hi => by
    unfold plcs at hi
    exact List.mem_range.1 (List.mem_filter.1 hi).1
  intro u hu
  refine ⟨?_, h13 u⟩
  simp only [sureT, choT, List.cons_append, List.nil_append, List.mem_cons, List.not_mem_nil, or_false] at hu
  rcases hu with rfl | rfl | rfl | rfl | rfl | rfl | rfl | rfl | rfl <;> decide
theorem tl1_fl {t : List Nd} (hO : Fm.Ok t) {r : List Nat} (hr : Ok r) {g : Int} (hq : rightQ t r g = true) (us : List (List Int)) (hs : ∀ u ∈ us, u ∈ sureT ++ choT) : tl1 r g (sidesF t r g) us = us.flatMap (fl t r g) := by
  unfold tl1
  refine flat_cong fun u hu => ?_
  obtain ⟨h1, h2⟩ := sure_plcs u (hs u hu)
  exact tl2_fl hO hr hq u h1 h2
theorem fl_goal {t : List Nd} {r : List Nat} {g : Int} (hq : rightQ t r g = true) (k : Int) (hk : k = 11 ∨ k = 12) : fl t r g [k] = if (nodeOf t g).k = 4 then [(k, g)] else [] := by
  unfold rightQ at hq
  simp only [Bool.and_eq_true] at hq
  have hg := Fm.has_iff.1 hq.2
  obtain ⟨m, rfl⟩ : ∃ m : Nat, g = m := ⟨g.toNat, by omega⟩
  have hm : m < t.length := by omega
  rw [nodeOf_nat hm]
  have hone : ∀ n, n < t.length → flk t r (m : Int) [k] n 0 = if n = m then (if t[m].k = 4 then [(k, (m : Int))] else []) else [] := fun n hn => by
    unfold flk
    rw [List.drop_zero, List.flatMap_cons, List.flatMap_nil, List.append_nil]
    unfold oneD
    have e : findF t r (m : Int) k (n : Int) = ((t[n].k == 4) && ((n : Int) == (m : Int))) := by
      rw [find_nat hn, shp_nat hn]
      rcases hk with rfl | rfl <;> rfl
    rw [e]
    by_cases h : n = m
    · subst h
      rw [if_pos rfl]
      by_cases h4 : t[n].k = 4
      · rw [if_pos h4, if_pos (by simp [h4])]
      · rw [if_neg h4, if_neg (by simp [h4])]
    · rw [if_neg h, if_neg (by simp; omega)]
  unfold fl
  rw [flat_cong fun n hn => hone n (List.mem_range.1 hn)]
  have key : ∀ (l : List Nat) (X : List (Int × Int)), l.Nodup → m ∈ l → l.flatMap (fun n => if n = m then X else []) = X := fun l X => by
    induction l with
    | nil => intro _ h; cases h
    | cons a l ih =>
      intro hn hm
      rw [List.nodup_cons] at hn
      rw [List.flatMap_cons]
      by_cases h : a = m
      · subst h
        rw [if_pos rfl]
        have : l.flatMap (fun n => if n = a then X else []) = [] := by
          rw [List.flatMap_eq_nil_iff]
          intro x hx
          rw [if_neg (fun e : x = a => hn.1 (e ▸ hx))]
        rw [this, List.append_nil]
      · rw [if_neg h, List.nil_append, ih hn.2 ((List.mem_cons.1 hm).resolve_left (fun e => h e.symm))]
  exact key _ _ List.nodup_range (List.mem_range.2 hm)
theorem cho_fl {t : List Nd} (hO : Fm.Ok t) {r : List Nat} (hr : Ok r) {g : Int} (hq : rightQ t r g = true) : choF t r g = if (applyF t r g).1 = 14 then (if (nodeOf t g).k = 4 then [(11, g), (12, g)] else []) ++ fli t r g [13] 0 else [] := by
  have hz : refZ t r g = 0 := by rw [ref_right hr, hq, if_pos rfl]
  unfold choF
  rw [tl1_fl hO hr hq choT (fun u hu => List.mem_append_right _ hu)]
  have e : choT.flatMap (fl t r g) = fl t r g [11] ++ (fl t r g [12] ++ (fl t r g [13] ++ [])) := by
    unfold choT
    rw [List.flatMap_cons, List.flatMap_cons, List.flatMap_cons, List.flatMap_nil]
  rw [e, fl_goal hq 11 (Or.inl rfl), fl_goal hq 12 (Or.inr rfl), List.append_nil, fl_zero]
  by_cases h : (applyF t r g).1 = 14
  · rw [if_pos ⟨hz, h⟩, if_pos h]
    by_cases h4 : (nodeOf t g).k = 4
    · rw [if_pos h4, if_pos h4, if_pos h4]; rfl
    · rw [if_neg h4, if_neg h4, if_neg h4]; rfl
  · rw [if_neg (fun e => h e.2), if_neg h]
end Go.Proofs.YtkejippimkjjaaaGreatDoor
/-
  What is found fits (plain). No condition but what it names.
-/
namespace Go.Proofs.YtkejippimkjjaaaGreatDoor
open Go.RowKit Go.Shelf Go.Maps
open Fm (Nd)
open Bt.Bs (Ok wd)
set_option linter.unusedSimpArgs false

theorem mem_tl1 {r : List Nat} {g : Int} {ms : List Sh} {ts : List (List Int)} {x : Int × Int} (h : x ∈ tl1 r g ms ts) : ∃ m ∈ ms, ∃ i, i < 13 ∧ fitS r g i m = true ∧ x = ((i : Int) + 1, m.id) := by
  unfold tl1 at h
  obtain ⟨u, _, h⟩ := List.mem_flatMap.1 h
  unfold tl2 at h
  obtain ⟨m, hm, h⟩ := List.mem_flatMap.1 h
  unfold tl3 at h
  obtain ⟨i, hi, h⟩ := List.mem_flatMap.1 h
  unfold oneF at h
  have h13 : i < 13 := by
    unfold plcs at hi
    exact List.mem_range.1 (List.mem_filter.1 hi).1
  split at h
  · rename_i hf
    exact ⟨m, hm, i, h13, hf, List.mem_singleton.1 h⟩
  · cases h
theorem find_tl1 {t : List Nd} (hO : Fm.Ok t) {r : List Nat} (hr : Ok r) {g : Int} (hz : refZ t r g = 0) {ts : List (List Int)} {x : Int × Int} (h : x ∈ tl1 r g (sidesF t r g) ts) : findF t r g x.1 x.2 = true := by
  obtain ⟨m, hm, i, h13, hf, rfl⟩ := mem_tl1 h
  unfold sidesF at hm
  obtain ⟨n, hn, rfl⟩ := List.mem_map.1 hm
  have hq : rightQ t r g = true := by
    rw [ref_right hr] at hz
    cases h : rightQ t r g
    · rw [h, if_neg Bool.false_ne_true] at hz
      exact absurd hz (by decide)
    · rfl
  have hg := rgt_iff (s := (r, g)).1 hq
  have h2 : 0 ≤ g ∧ g < t.length := hg.2
  have hlen := hO.len
  have hnl : n < t.length := by
    obtain ⟨gn, rfl⟩ : ∃ gn : Nat, g = gn := ⟨g.toNat, by omega⟩
    unfold sidesN at hn
    have hn2 := Bt.Bs.mem_nums.1 hn
    have e : withF r [(gn : Int)] = Bt.Bs.put r gn := with1 (by omega)
    rw [e, Bt.Bs.has_put hr (by omega), Bool.or_eq_true, decide_eq_true_eq] at hn2
    rcases hn2.2 with h3 | h3
    · exact hg.1 n hn2.1 h3
    · omega
  show findF t r g ((i : Int) + 1) (n : Int) = true
  rw [find_nat hnl]
  have e1 : decide ((1 : Int) ≤ (i : Int) + 1) = true := decide_eq_true (by omega)
  have e2 : decide ((i : Int) + 1 ≤ 13) = true := decide_eq_true (by omega)
  have e3 : ((i : Int) + 1 - 1).toNat = i := by omega
  rw [e1, e2, e3, hf]
  rfl
theorem apply_find {t : List Nd} (hO : Fm.Ok t) {r : List Nat} (hr : Ok r) {g : Int} (hz : refZ t r g = 0) (h : (applyF t r g).1 ≠ 14) : findF t r g (applyF t r g).1 (applyF t r g).2 = true := by
  unfold applyF at *
  cases hh : (tl1 r g (sidesF t r g) sureT).head? with
  | none => rw [hh] at h; exact absurd rfl h
  | some x =>
    rw [Option.getD_some]
    exact find_tl1 hO hr hz (List.mem_of_head? hh)
theorem cho_mem {t : List Nd} (hO : Fm.Ok t) {r : List Nat} (hr : Ok r) {g : Int} {x : Int × Int} (hm : x ∈ choF t r g) : findF t r g x.1 x.2 = true := by
  unfold choF at hm
  split at hm
  · rename_i h
    exact find_tl1 hO hr h.1 hm
  · cases hm
theorem cho_find {t : List Nd} (hO : Fm.Ok t) {r : List Nat} (hr : Ok r) {g : Int} (j : Nat) (hj : j < (choF t r g).length) : findF t r g (choF t r g)[j].1 (choF t r g)[j].2 = true := cho_mem hO hr (List.getElem_mem hj)
end Go.Proofs.YtkejippimkjjaaaGreatDoor
