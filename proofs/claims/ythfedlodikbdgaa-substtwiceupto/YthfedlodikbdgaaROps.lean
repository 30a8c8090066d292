/-
  The document's calls Atom, Bot, Two, Imp, Not and Cut: for every text and number. No other condition.
-/
import Derived.Test.YthfedlodikbdgaaRPutP
import Derived.Test.YthfedlodikbdgaaFCutC
namespace Go.Proofs.Ythfedlodikbdgaa
open Go.RowKit Go.Maps
open Fm (Nd)

section
variable (w : World) {c : Nat} {u : Value} {t : List Nd}
set_option maxHeartbeats 400000 in
set_option maxHeartbeats 400000 in
theorem rbot_any (h : Tr w c u t) :
    Calls Try.prog 96 #[.pointer (some ⟨c, 0, none⟩)] w fun e w' => e = .returned (.tuple #[.int .i64 (Fm.put t (Fm.bot)).1, .int .i64 (Fm.put t (Fm.bot)).2.1]) ∧ AfterR w c u (Fm.put t (Fm.bot)).2.2 w' := by
  have K := show Hid (Calls Try.prog 61 #[.pointer (some ⟨c, 0, none⟩), .agg #[.int .i64 2, .string ⟨#[]⟩, .int .i64 0, .int .i64 0]] w fun e w' => e = .returned (.tuple #[.int .i64 (Fm.put t (Fm.bot)).1, .int .i64 (Fm.put t (Fm.bot)).2.1]) ∧ AfterR w c u (Fm.put t (Fm.bot)).2.2 w') from rput_any w h (Fm.bot) (Fm.good_bot)
  generalize Fm.put t (Fm.bot) = r at *
  clear h
  go_enter Try.func96, Try.ntmps96
  go_wp2_with fail
  refine K.out.mono ?_
  rintro e w1 ⟨rfl, ha⟩
  have HA := show Hid _ from ha
  clear ha K
  go_wp2_with fail
  go_ret2
  exact ⟨rfl, HA.out⟩
set_option maxHeartbeats 400000 in
theorem rtwo_any (h : Tr w c u t) (k x y : Int) (h0 : 0 ≤ k) (h1 : k ≤ 1024) (hx : Fm.i64 x) (hy : Fm.i64 y) :
    Calls Try.prog 43 #[.pointer (some ⟨c, 0, none⟩), .int .i64 k, .int .i64 x, .int .i64 y] w fun e w' => e = .returned (.tuple #[.int .i64 (Fm.put t (joinN k x y)).1, .int .i64 (Fm.put t (joinN k x y)).2.1]) ∧ AfterR w c u (Fm.put t (joinN k x y)).2.2 w' := by
  have K := show Hid (Calls Try.prog 61 #[.pointer (some ⟨c, 0, none⟩), .agg #[.int .i64 k, .string ⟨#[]⟩, .int .i64 x, .int .i64 y]] w fun e w' => e = .returned (.tuple #[.int .i64 (Fm.put t (joinN k x y)).1, .int .i64 (Fm.put t (joinN k x y)).2.1]) ∧ AfterR w c u (Fm.put t (joinN k x y)).2.2 w') from rput_any w h (joinN k x y) (good_joinN h0 h1 hx hy)
  generalize Fm.put t (joinN k x y) = r at *
  clear h
  go_enter Try.func43, Try.ntmps43
  go_wp2_with fail
  refine K.out.mono ?_
  rintro e w1 ⟨rfl, ha⟩
  have HA := show Hid _ from ha
  clear ha K
  go_wp2_with fail
  go_ret2
  exact ⟨rfl, HA.out⟩
set_option maxHeartbeats 400000 in
theorem rimp_any (h : Tr w c u t) (x y : Int) (hx : Fm.i64 x) (hy : Fm.i64 y) :
    Calls Try.prog 97 #[.pointer (some ⟨c, 0, none⟩), .int .i64 x, .int .i64 y] w fun e w' => e = .returned (.tuple #[.int .i64 (Fm.put t (joinN 5 x y)).1, .int .i64 (Fm.put t (joinN 5 x y)).2.1]) ∧ AfterR w c u (Fm.put t (joinN 5 x y)).2.2 w' := by
  have K := show Hid (Calls Try.prog 43 #[.pointer (some ⟨c, 0, none⟩), .int .i64 5, .int .i64 x, .int .i64 y] w fun e w' => e = .returned (.tuple #[.int .i64 (Fm.put t (joinN 5 x y)).1, .int .i64 (Fm.put t (joinN 5 x y)).2.1]) ∧ AfterR w c u (Fm.put t (joinN 5 x y)).2.2 w') from rtwo_any w h 5 x y (by omega) (by omega) hx hy
  generalize Fm.put t (joinN 5 x y) = r at *
  clear h
  go_enter Try.func97, Try.ntmps97
  go_wp2_with fail
  refine K.out.mono ?_
  rintro e w1 ⟨rfl, ha⟩
  have HA := show Hid _ from ha
  clear ha K
  go_wp2_with fail
  go_ret2
  exact ⟨rfl, HA.out⟩
set_option maxHeartbeats 1000000 in
theorem rcut_world {j : Nat} (h : Tr w c u t) (hj : j ≤ t.length) : (∀ p cp, u = .slice p t.length cp → ∀ u', (u' = .slice p j j) → AfterR w c u (t.take j) (w.setCell ⟨c, 0, none⟩ u')) := by
  rintro p cp rfl u' rfl
  refine ⟨.slice p j j, ⟨heap_setCell_same _ c 0 _ _ _ h.tab, ?_, Fm.ok_take h.ok j⟩, fun k hk => Or.inl (by cases p <;> exact hk), ⟨rfl, rfl, rfl, by simp [World.setCell], fun k hk hn => Below.heap_setCell _ _ _ _ (fun e => hn (Or.inl e))⟩⟩
  have hlj : (t.take j).length = j := by rw [List.length_take]; omega
  rcases h.row with ⟨hv, ht⟩ | ⟨g, cap, cur, hv, hg, hnc, hcm, hcs, htake⟩
  · obtain ⟨rfl, _, _⟩ := Value.slice.inj hv
    subst ht
    have : j = 0 := by simpa using hj
    subst this
    exact Or.inl ⟨rfl, rfl⟩
  · obtain ⟨rfl, _, _⟩ := Value.slice.inj hv
    have hcg : g ≠ c := fun e => h.uc (by rw [← e]; rfl)
    refine Or.inr ⟨g, j, cur, by rw [hlj], (Below.heap_setCell _ _ _ _ hcg).trans hg, by rw [hlj]; exact Nat.le_refl _, by unfold maxLen at *; omega, by omega, ?_⟩
    rw [hlj, ← cellsOf_take t j hj, ← htake, List.take_take, Nat.min_eq_left (by omega)]
set_option maxRecDepth 100000 in
set_option maxHeartbeats 1000000 in
theorem rcut_any (h : Tr w c u t) (n : Int) :
    Calls Try.prog 67 #[.pointer (some ⟨c, 0, none⟩), .int .i64 n] w fun e w' => e = .returned (.int .i64 (cutR t n).1) ∧ AfterR w c u (cutR t n).2 w' := by
  have c0 := h.c0
  have hf := h.fr
  have HT := show Hid (Tr w c u t) from h
  have hlen := h.ok.len
  have HCR := show Hid (cutR t n = if 0 ≤ n ∧ n ≤ t.length then (0, t.take n.toNat) else (2, t)) from rfl
  generalize cutR t n = r at *
  by_cases hn : 0 ≤ n ∧ n ≤ t.length
  · obtain ⟨j, rfl⟩ : ∃ j : Nat, n = j := ⟨n.toNat, by omega⟩
    have hj : j ≤ t.length := by omega
    have hr := HCR.out
    rw [if_pos hn] at hr
    simp only [Int.toNat_natCast] at hr
    subst hr
    have HW := show Hid (∀ p cp, u = .slice p t.length cp → ∀ u', (u' = .slice p j j) → AfterR w c u (t.take j) (w.setCell ⟨c, 0, none⟩ u')) from rcut_world w h hj
    have hj0 : ¬ (j : Int) < 0 := by omega
    have hj1 : ¬ (t.length : Int) < (j : Int) := by omega
    have hjl : (j : Int) ≤ (t.length : Int) := by omega
    rcases slice_cases h.row with ⟨rfl, rfl⟩ | ⟨g, cap, cur, rfl, -, hnc, hcm, -, -⟩
    · obtain rfl : j = 0 := by simpa using hj
      have HW2 := show Hid _ from HW.out none 0 rfl (.slice none 0 0) rfl
      clear h hn HCR HW
      go_enter Try.func67, Try.ntmps67
      go_wp2_with fail
      go_ret
      exact ⟨rfl, HW2.out⟩
    · unfold maxLen at hcm
      have hjc : (j : Int) ≤ (cap : Int) := by omega
      have hjc2 : j ≤ cap := by omega
      have HW2 := show Hid _ from HW.out _ cap rfl (.slice (some ⟨g, 0, none⟩) j j) rfl
      clear h hn HCR HW
      go_enter Try.func67, Try.ntmps67
      go_wp2_with fail
      go_ret
      exact ⟨rfl, HW2.out⟩
  · have hr := HCR.out
    rw [if_neg hn] at hr
    subst hr
    obtain ⟨p, cp, rfl⟩ := h.row.form
    clear h HCR
    by_cases hn0 : n < 0
    · go_enter Try.func67, Try.ntmps67
      go_wp2_with fail
      go_ret
      exact ⟨rfl, AfterR.of_below HT.out (Below.refl _ _)⟩
    · have hn1 : (t.length : Int) < n := by omega
      go_enter Try.func67, Try.ntmps67
      go_wp2_with fail
      go_ret
      exact ⟨rfl, AfterR.of_below HT.out (Below.refl _ _)⟩
end
end Go.Proofs.Ythfedlodikbdgaa
