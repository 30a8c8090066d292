/-
  The document's call Premises of a right sequent answers as the program's. For every table, every number of a rule and of a formula.
-/
import Derived.Test.YtpddfooeaecekaaGreatDoorZP2
import Derived.Test.YtpddfooeaecekaaGreatDoorZRpa
import Derived.Test.YtpddfooeaecekaaGreatDoorZRpb
namespace Go.Proofs.YtpddfooeaecekaaGreatDoor
open Go.RowKit Go.Shelf Go.Maps
open Fm (Nd)
open Bt.Bs (Ok wd)
set_option linter.unusedSimpArgs false

set_option maxRecDepth 100000 in
set_option maxHeartbeats 2000000 in
theorem rprem_no (w : World) {c : Nat} {u : Value} {t : List Nd} (hT : Tr w c u t) {r : List Nat} (hr : Ok r) (g ru main : Int) (hf : findF t r g ru main = false) :
    Calls Tryz.prog 18 #[.pointer (some ⟨c, 0, none⟩), .agg (cellsQ r g), .int .i64 ru, .int .i64 main] w fun e w' => e = .returned (.tuple #[.slice none 0 0, .int .i64 90]) ∧ Below w.heap.size w w' := by
  have hl := hr.1
  have KF := show Hid (∀ W : World, Below w.heap.size w W → Calls Tryz.prog 15 #[.pointer (some ⟨c, 0, none⟩), .agg (cellsQ r g), .int .i64 ru, .int .i64 main] W fun e w' => e = .returned (.bool false) ∧ Below W.heap.size W w') from fun W hb => by
    have := rfits_any W (hT.later hb) hr g ru main
    rw [hf] at this
    exact this
  clear hT hf
  go_enter Tryz.func18, Tryz.ntmps18
  go_wp2_with (refine wpList_box 27 _ rfl _ rfl rfl ?_)
  intro w1 b5 hn1
  have H1 := show Hid (RS1 w w1 b5 r g) from ⟨hn1.blk, hn1.bel, hn1.ge⟩
  clear hn1
  go_wp2_with (refine wpList_ldQQ _ _ rfl b5 rfl H1.out.s hl rfl ?_)
  refine Calls.mono (KF.out _ H1.out.bel) ?_
  rintro e w2 ⟨rfl, hb2⟩
  have H2 := show Hid _ from H1.out.later hb2
  clear H1 hb2 KF
  go_wp2_with fail
  go_ret2
  exact ⟨rfl, H2.out.bel⟩
theorem AfterR.below {w w' : World} {c : Nat} {u : Value} {t : List Nd} (hT : Tr w c u t) (hb : Below w.heap.size w w') : AfterR w c u t w' := ⟨u, hT.later hb, fun _ hk => Or.inl hk, Kp.of_below hb⟩
theorem rprem_any (w : World) {c : Nat} {u : Value} {t : List Nd} (hT : Tr w c u t) {r : List Nat} (hr : Ok r) (g ru main : Int) (hz : refZ t r g = 0) :
    Calls Tryz.prog 18 #[.pointer (some ⟨c, 0, none⟩), .agg (cellsQ r g), .int .i64 ru, .int .i64 main] w fun e w' => ∃ sv, e = .returned (.tuple #[sv, .int .i64 (premF t r g ru main).2.2]) ∧ SqR sv (premF t r g ru main).1 w' ∧ AfterR w c u (premF t r g ru main).2.1 w' := by
  cases hf : findF t r g ru main with
  | false =>
    have e : premF t r g ru main = ([], t, 90) := by
      unfold premF
      rw [if_neg (by simp [hz]), if_pos hf]
    rw [e]
    exact (rprem_no w hT hr g ru main hf).mono fun e w' h => ⟨_, h.1, Or.inl ⟨rfl, rfl⟩, AfterR.below hT h.2⟩
  | true =>
    have hh : Fm.has t main = true := by
      unfold findF at hf
      simp only [Bool.and_eq_true] at hf
      exact hf.1.1
    have hrng := findF_rng hf
    have hpos : 1 ≤ ru := by
      unfold findF at hf
      simp only [Bool.and_eq_true, decide_eq_true_eq] at hf
      exact hf.1.2.1
    have h1 := Fm.has_iff.1 hh
    obtain ⟨i, rfl⟩ : ∃ i : Nat, main = i := ⟨main.toNat, by omega⟩
    have hi : i < t.length := by omega
    have hO := hT.ok
    have hlen := hO.len
    have hrs : Ok (Bt.dropI r (i : Int)) := dropI_okZ hr (i : Int)
    have one : ∀ l : List SQ, premF t r g ru (i : Int) = (l, t, 0) → (Calls Tryz.prog 18 #[.pointer (some ⟨c, 0, none⟩), .agg (cellsQ r g), .int .i64 ru, .int .i64 (i : Int)] w fun e w' => ∃ sv, e = .returned (.tuple #[sv, .int .i64 0]) ∧ SqL sv l w' ∧ Below w.heap.size w w') → Calls Tryz.prog 18 #[.pointer (some ⟨c, 0, none⟩), .agg (cellsQ r g), .int .i64 ru, .int .i64 (i : Int)] w fun e w' => ∃ sv, e = .returned (.tuple #[sv, .int .i64 (premF t r g ru (i : Int)).2.2]) ∧ SqR sv (premF t r g ru (i : Int)).1 w' ∧ AfterR w c u (premF t r g ru (i : Int)).2.1 w' := fun l e h => by
      rw [e]
      exact h.mono fun e w' ⟨sv, h1, h2, h3⟩ => ⟨sv, h1, Or.inr h2, AfterR.below hT h3⟩
    have hru : ru = 1 ∨ ru = 2 ∨ ru = 3 ∨ ru = 4 ∨ ru = 5 ∨ ru = 6 ∨ ru = 7 ∨ ru = 8 ∨ ru = 9 ∨ ru = 10 ∨ ru = 11 ∨ ru = 12 ∨ ru = 13 := by omega
    rcases hru with rfl | rfl | rfl | rfl | rfl | rfl | rfl | rfl | rfl | rfl | rfl | rfl | rfl
    · have e : premF t r g 1 (i : Int) = ([], t, 0) := by rw [premF_is hz hf]; rfl
      rw [e]
      exact (rprem_1 w hT hr g i hi hf).mono fun e w' h => ⟨_, h.1, Or.inl ⟨rfl, rfl⟩, AfterR.below hT h.2⟩
    · have e : premF t r g 2 (i : Int) = ([], t, 0) := by rw [premF_is hz hf]; rfl
      rw [e]
      exact (rprem_2 w hT hr g i hi hf).mono fun e w' h => ⟨_, h.1, Or.inl ⟨rfl, rfl⟩, AfterR.below hT h.2⟩
    · obtain ⟨x, y, hx, hy, l1, l2⟩ := kids hO hi (Or.inl (find_kind hi 3 3 (by omega) hf))
      refine one _ ?_ (rprem_3 w hT hr g i hi hf x y hx hy (by omega) (by omega))
      rw [premF_is hz hf, shp_nat hi, hx, hy]; rfl
    · obtain ⟨x, y, hx, hy, l1, l2⟩ := kids hO hi (Or.inr (Or.inr (find_imp hi 4 1 (by omega) hf).1))
      refine one _ ?_ (rprem_4 w hT hr g i hi hf x y hx hy (by omega) (by omega))
      rw [premF_is hz hf, shp_nat hi, hy, with_two hrs]; rfl
    · refine one _ ?_ (rprem_5 w hT hr g i hi hf)
      rw [premF_is hz hf, shp_nat hi]; rfl
    · obtain ⟨x, y, hx, hy, l1, l2⟩ := kids hO hi (Or.inr (Or.inr (find_imp hi 6 3 (by omega) hf).1))
      rw [prem_6 hO hz hr hi hf hx (by omega)]
      exact rprem_6 w hT hr g i hi hf x hx (by omega) _ rfl
    · obtain ⟨x, y, hx, hy, l1, l2⟩ := kids hO hi (Or.inr (Or.inr (find_imp hi 7 4 (by omega) hf).1))
      rw [prem_7 hO hz hi hf hx (by omega)]
      exact rprem_7 w hT hr g i hi hf x hx (by omega) _ rfl
    · obtain ⟨x, y, hx, hy, l1, l2⟩ := kids hO hi (Or.inr (Or.inr (find_kind hi 8 5 (by omega) hf)))
      refine one _ ?_ (rprem_8 w hT hr g i hi hf x y hx hy (by omega) (by omega))
      rw [premF_is hz hf, shp_nat hi, hx, hy, with_two hr]; rfl
    · obtain ⟨x, y, hx, hy, l1, l2⟩ := kids hO hi (Or.inl (find_kind hi 9 3 (by omega) hf))
      refine one _ ?_ (rprem_9 w hT hr g i hi hf x y hx hy)
      rw [premF_is hz hf, shp_nat hi, hx, hy]; rfl
    · obtain ⟨x, y, hx, hy, l1, l2⟩ := kids hO hi (Or.inr (Or.inl (find_kind hi 10 4 (by omega) hf)))
      refine one _ ?_ (rprem_10 w hT hr g i hi hf x y hx hy (by omega) (by omega))
      rw [premF_is hz hf, shp_nat hi, hx, hy, with_two hrs, with_two hrs]; rfl
    · refine one _ ?_ (rprem_11 w hT hr g i hi hf)
      rw [premF_is hz hf, shp_nat hi]; rfl
    · refine one _ ?_ (rprem_12 w hT hr g i hi hf)
      rw [premF_is hz hf, shp_nat hi]; rfl
    · obtain ⟨x, y, hx, hy, l1, l2⟩ := kids hO hi (Or.inr (Or.inr (find_imp hi 13 5 (by omega) hf).1))
      rw [prem_13 hO hz hr hi hf hx (by omega) hy (by omega)]
      exact rprem_13 w hT hr g i hi hf x hx (by omega) _ rfl y hy (by omega)
theorem prem_rows {t : List Nd} {r : List Nat} (hr : Ok r) (g ru main : Int) : (∀ s ∈ (premF t r g ru main).1, Ok s.1) ∧ (premF t r g ru main).1.length ≤ 2 := by
  unfold premF
  repeat' split
  all_goals try exact ⟨fun s h => (by cases h), by simp⟩
  have hrs : ∀ x : Int, Ok (Bt.dropI r x) := fun x => dropI_okZ hr x
  have hw : ∀ (q : List Nat) (l : List Int), Ok q → Ok (withF q l) := fun q l h => withF_ok l h
  unfold prmF
  split <;> refine ⟨fun s h => ?_, by simp⟩ <;> simp at h
  case h_1 => subst h; exact hw _ _ (hrs _)
  case h_2 => subst h; exact hw _ _ (hrs _)
  case h_3 => subst h; exact hrs _
  case h_4 => subst h; exact hw _ _ (hrs _)
  case h_5 => subst h; exact hw _ _ (hrs _)
  case h_6 => subst h; exact hw _ _ hr
  case h_7 => rcases h with h | h <;> subst h <;> exact hr
  case h_8 => rcases h with h | h <;> subst h <;> exact hw _ _ (hrs _)
  case h_9 => subst h; exact hr
  case h_10 => subst h; exact hr
  case h_11 => rcases h with h | h <;> subst h <;> exact hw _ _ (hrs _)
end Go.Proofs.YtpddfooeaecekaaGreatDoor
