/-
  The document's calls Signs and Occurs at every number: for every table of the document's that calls made. No other condition.
-/
import Derived.Test.YthdcppkohalkmaaGreatNOccP
import Derived.Test.YthdcppkohalkmaaGreatNSigns
import Derived.Test.YthdcppkohalkmaaGreatNOccG
namespace Go.Proofs.YthdcppkohalkmaaGreat
open Go.RowKit Go.Maps
open Fm (Nd)

theorem occ_same (t : List Nd) (part i : Int) : occQ t part i = occR t part i := rfl
theorem roccurs_any (w : World) {c : Nat} {u : Value} {t : List Nd} (hT : Tr w c u t) (part i : Int) :
    Calls Tryz.prog 21 #[.pointer (some ⟨c, 0, none⟩), .int .i64 part, .int .i64 i] w fun e w' => e = .returned (.tuple #[.int .i64 (occR t part i).1, .int .i64 (occR t part i).2.1, .int .i64 (occR t part i).2.2]) ∧ Below w.heap.size w w' := by
  cases h : (Fm.has t part && Fm.has t i)
  · refine (roccurs_out w hT part i h).mono ?_
    rintro e w' ⟨he, rfl⟩
    rw [he]
    unfold occR
    rw [h]
    exact ⟨rfl, Below.refl _ _⟩
  · obtain ⟨h1, h2⟩ := Bool.and_eq_true_iff.1 h
    have g1 := Fm.has_iff.1 h1
    have g2 := Fm.has_iff.1 h2
    obtain ⟨p, rfl⟩ : ∃ p : Nat, part = p := ⟨part.toNat, by omega⟩
    obtain ⟨id, rfl⟩ : ∃ p : Nat, i = p := ⟨i.toNat, by omega⟩
    refine (roccurs_in w hT p id (by omega) (by omega)).mono ?_
    rintro e w' ⟨he, hb⟩
    rw [he]
    unfold occR
    rw [h]
    exact ⟨rfl, hb⟩
theorem rsigns_in (w : World) {c : Nat} {u : Value} {t : List Nd} (hT : Tr w c u t) (id : Nat) (hid : id < t.length) :
    Calls Tryz.prog 20 #[.pointer (some ⟨c, 0, none⟩), .int .i64 (id : Int)] w fun e w' => Below w.heap.size w w' ∧ ∃ va vb vc, e = .returned (.tuple #[va, vb, vc, .int .i64 0]) ∧ IsN w' va (allN t id) ∧ IsN w' vb (posN t id) ∧ IsN w' vc (negN t id) := by
  have h := rsigns_of w hT id hid (Ms.plc t id) (fun j _ => by have := inr_plc t id j; unfold Ms.M at this; omega) (fun w' j hb hj => (roccurs_in w' (hT.later hb) j id (by omega) hid).mono fun e w'' h => h)
  rw [nm_all, nm_pos, nm_neg] at h
  exact h
set_option maxHeartbeats 400000 in
theorem rsigns_out (w : World) {c : Nat} {u : Value} {t : List Nd} (hT : Tr w c u t) (i : Int) (h : Fm.has t i = false) :
    Calls Tryz.prog 20 #[.pointer (some ⟨c, 0, none⟩), .int .i64 i] w fun e w' => e = .returned (.tuple #[.slice none 0 0, .slice none 0 0, .slice none 0 0, .int .i64 31]) ∧ w' = w := by
  have K1 := show Hid (Calls Tryz.prog 12 #[.pointer (some ⟨c, 0, none⟩), .int .i64 i] w fun e w'' => e = .returned (.bool false) ∧ w'' = w) from by
    have h2 := rhas_any (w := w) hT i
    rw [h] at h2
    exact h2
  clear hT h
  go_enter Tryz.func20, Tryz.ntmps20
  go_wp2_with fail
  refine K1.out.mono ?_
  rintro e w' ⟨rfl, hw'⟩
  subst w'
  go_wp2_with fail
  refine bodyPost_ret (results_fourN rfl _ _ ()) rfl ?_
  exact ⟨rfl, rfl⟩
end Go.Proofs.YthdcppkohalkmaaGreat
