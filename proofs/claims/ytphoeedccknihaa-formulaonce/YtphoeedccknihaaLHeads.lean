/-
  The law's call heads: true. No condition.
-/
import Derived.Test.YtphoeedccknihaaRSame
namespace Go.Proofs.Ytphoeedccknihaa
open Go.RowKit Go.Maps
open Fm (Nd)

/-- A table of the call's own, made since the world w. -/
def OwnT (w wi : World) (b m : Nat) (v : Value) (t : List Nd) : Prop := Tb wi b m v t ∧ (∀ k, Ft b m v k → w.heap.size ≤ k) ∧ Below w.heap.size w wi
theorem OwnT.after {w wi w2 : World} {b m : Nat} {v : Value} {t t' : List Nd} (h : OwnT w wi b m v t) (ha : After wi b m v t' w2) : ∃ v', OwnT w w2 b m v' t' := by
  obtain ⟨v', hT, hL, hK⟩ := ha
  refine ⟨v', hT, ?_, h.2.2.trans (hK.below h.2.2.size h.2.1)⟩
  rintro k (e | e | e)
  · exact h.2.1 k (Or.inl e)
  · exact h.2.1 k (Or.inr (Or.inl e))
  · rcases hL k e with h1 | h1
    · exact h.2.1 k (Or.inr (Or.inr h1))
    · exact Nat.le_trans h.2.2.size h1
theorem OwnT.later {w wi w2 : World} {b m : Nat} {v : Value} {t : List Nd} (h : OwnT w wi b m v t) (hb : Below wi.heap.size wi w2) : OwnT w w2 b m v t := ⟨h.1.later hb, h.2.1, h.2.2.trans (hb.mono h.2.2.size)⟩
def P0 : Nd := atomN ⟨#[112]⟩
def Q0 : Nd := atomN ⟨#[113]⟩
def T1 : List Nd := [P0]
def T2 : List Nd := [P0, Q0]
def T3 : List Nd := [P0, Q0, joinN 3 0 1]
def T4 : List Nd := [P0, Q0, joinN 3 0 1, joinN 5 2 0]
def T6 : List Nd := [P0, Q0, joinN 3 0 1, joinN 5 2 0, Fm.bot, joinN 5 0 4]
theorem e1 : Fm.put [] (atomN ⟨#[112]⟩) = (0, 0, T1) := by decide +kernel
theorem e2 : Fm.put T1 (atomN ⟨#[113]⟩) = (1, 0, T2) := by decide +kernel
theorem e3 : Fm.put T2 (joinN 3 0 1) = (2, 0, T3) := by decide +kernel
theorem e4 : Fm.put T3 (joinN 5 2 0) = (3, 0, T4) := by decide +kernel
theorem e5 : Fm.put T4 (joinN 3 0 1) = (2, 0, T4) := by decide +kernel
theorem e6 : Fm.notp T4 0 = (5, 0, T6) := by decide +kernel
theorem e7 : Fm.put T6 (atomN ⟨#[108, 101, 116]⟩) = (0, 32, T6) := by decide +kernel
theorem e8 : Fm.put T6 (joinN 4 0 9) = (0, 31, T6) := by decide +kernel
theorem e9 : belowR T6 3 = ([0, 1, 2, 3], 0) := by decide +kernel
theorem ints4 (w : World) : IsI (w.alloc (Obj.cells #[.int .i64 0, .int .i64 1, .int .i64 2, .int .i64 3] 3)) w.heap.size (.slice (some ⟨w.heap.size, 0, none⟩) 4 4) [0, 1, 2, 3] :=
  ⟨rfl, Or.inr ⟨w.heap.size, 4, _, rfl, Nat.le_refl _, heap_alloc_new _ _, by simp, by decide, rfl, rfl⟩⟩
theorem IsI.alloc {w : World} {B : Nat} {v : Value} {l : List Nat} (h : IsI w B v l) (o : Obj) : IsI (w.alloc o) B v l := World.ownsRow.alloc h o
theorem below_drewN {B : Nat} {a w : World} (h : Below B a w) (n : Nat) : Below B a (w.drewN n) := ⟨h.os, h.tape, h.output, h.size, h.block⟩
set_option maxRecDepth 100000 in
set_option maxHeartbeats 8000000 in
theorem heads_any (w : World) :
    Calls Try.prog 15 #[] w fun e w' => e = .returned (.bool true) ∧ Below w.heap.size w w' := by
  have KN := show Hid (Calls Try.prog 9 #[] w fun e w' => e = .returned (.pointer (some ⟨w.heap.size + 1, 0, none⟩)) ∧ Tb w' (w.heap.size + 1) w.heap.size (.slice none 0 0) [] ∧ Below w.heap.size w w') from new_any w
  have i0 : Fm.i64 0 := Fm.i64_small (by omega) (by omega)
  have i1 : Fm.i64 1 := Fm.i64_small (by omega) (by omega)
  have i2 : Fm.i64 2 := Fm.i64_small (by omega) (by omega)
  have i9 : Fm.i64 9 := Fm.i64_small (by omega) (by omega)
  have K1 := show Hid (∀ (w1 : World) (v : Value), OwnT w w1 (w.heap.size + 1) w.heap.size v [] → Calls Try.prog 18 #[.pointer (some ⟨w.heap.size + 1, 0, none⟩), .string ⟨#[112]⟩] w1 fun e w' => e = .returned (.tuple #[.int .i64 0, .int .i64 0]) ∧ ∃ v', OwnT w w' (w.heap.size + 1) w.heap.size v' T1) from fun w1 v h => by
    refine (atom_any w1 h.1 ⟨#[112]⟩ (by decide)).mono ?_
    rw [e1]
    rintro e w' ⟨rfl, ha⟩
    exact ⟨rfl, h.after ha⟩
  have K2 := show Hid (∀ (w1 : World) (v : Value), OwnT w w1 (w.heap.size + 1) w.heap.size v T1 → Calls Try.prog 18 #[.pointer (some ⟨w.heap.size + 1, 0, none⟩), .string ⟨#[113]⟩] w1 fun e w' => e = .returned (.tuple #[.int .i64 1, .int .i64 0]) ∧ ∃ v', OwnT w w' (w.heap.size + 1) w.heap.size v' T2) from fun w1 v h => by
    refine (atom_any w1 h.1 ⟨#[113]⟩ (by decide)).mono ?_
    rw [e2]
    rintro e w' ⟨rfl, ha⟩
    exact ⟨rfl, h.after ha⟩
  have K3 := show Hid (∀ (w1 : World) (v : Value), OwnT w w1 (w.heap.size + 1) w.heap.size v T2 → Calls Try.prog 26 #[.pointer (some ⟨w.heap.size + 1, 0, none⟩), .int .i64 0, .int .i64 1] w1 fun e w' => e = .returned (.tuple #[.int .i64 2, .int .i64 0]) ∧ ∃ v', OwnT w w' (w.heap.size + 1) w.heap.size v' T3) from fun w1 v h => by
    refine (and_any w1 h.1 0 1 i0 i1).mono ?_
    rw [e3]
    rintro e w' ⟨rfl, ha⟩
    exact ⟨rfl, h.after ha⟩
  have K4 := show Hid (∀ (w1 : World) (v : Value), OwnT w w1 (w.heap.size + 1) w.heap.size v T3 → Calls Try.prog 29 #[.pointer (some ⟨w.heap.size + 1, 0, none⟩), .int .i64 2, .int .i64 0] w1 fun e w' => e = .returned (.tuple #[.int .i64 3, .int .i64 0]) ∧ ∃ v', OwnT w w' (w.heap.size + 1) w.heap.size v' T4) from fun w1 v h => by
    refine (imp_any w1 h.1 2 0 i2 i0).mono ?_
    rw [e4]
    rintro e w' ⟨rfl, ha⟩
    exact ⟨rfl, h.after ha⟩
  have K5 := show Hid (∀ (w1 : World) (v : Value), OwnT w w1 (w.heap.size + 1) w.heap.size v T4 → Calls Try.prog 26 #[.pointer (some ⟨w.heap.size + 1, 0, none⟩), .int .i64 0, .int .i64 1] w1 fun e w' => e = .returned (.tuple #[.int .i64 2, .int .i64 0]) ∧ ∃ v', OwnT w w' (w.heap.size + 1) w.heap.size v' T4) from fun w1 v h => by
    refine (and_any w1 h.1 0 1 i0 i1).mono ?_
    rw [e5]
    rintro e w' ⟨rfl, ha⟩
    exact ⟨rfl, h.after ha⟩
  have K6 := show Hid (∀ (w1 : World) (v : Value), OwnT w w1 (w.heap.size + 1) w.heap.size v T4 → Calls Try.prog 31 #[.pointer (some ⟨w.heap.size + 1, 0, none⟩), .int .i64 0] w1 fun e w' => e = .returned (.tuple #[.int .i64 5, .int .i64 0]) ∧ ∃ v', OwnT w w' (w.heap.size + 1) w.heap.size v' T6) from fun w1 v h => by
    refine (not_any w1 h.1 0 i0).mono ?_
    rw [e6]
    rintro e w' ⟨rfl, ha⟩
    exact ⟨rfl, h.after ha⟩
  have K7 := show Hid (∀ (w1 : World) (v : Value), OwnT w w1 (w.heap.size + 1) w.heap.size v T6 → Calls Try.prog 18 #[.pointer (some ⟨w.heap.size + 1, 0, none⟩), .string ⟨#[108, 101, 116]⟩] w1 fun e w' => e = .returned (.tuple #[.int .i64 0, .int .i64 32]) ∧ ∃ v', OwnT w w' (w.heap.size + 1) w.heap.size v' T6) from fun w1 v h => by
    refine (atom_any w1 h.1 ⟨#[108, 101, 116]⟩ (by decide)).mono ?_
    rw [e7]
    rintro e w' ⟨rfl, ha⟩
    exact ⟨rfl, h.after ha⟩
  have K8 := show Hid (∀ (w1 : World) (v : Value), OwnT w w1 (w.heap.size + 1) w.heap.size v T6 → Calls Try.prog 28 #[.pointer (some ⟨w.heap.size + 1, 0, none⟩), .int .i64 0, .int .i64 9] w1 fun e w' => e = .returned (.tuple #[.int .i64 0, .int .i64 31]) ∧ ∃ v', OwnT w w' (w.heap.size + 1) w.heap.size v' T6) from fun w1 v h => by
    refine (or_any w1 h.1 0 9 i0 i9).mono ?_
    rw [e8]
    rintro e w' ⟨rfl, ha⟩
    exact ⟨rfl, h.after ha⟩
  have K9 := show Hid (∀ (w1 : World) (v : Value), OwnT w w1 (w.heap.size + 1) w.heap.size v T6 → Calls Try.prog 41 #[.pointer (some ⟨w.heap.size + 1, 0, none⟩), .int .i64 3] w1 fun e w' => ∃ x, e = .returned (.tuple #[x, .int .i64 0]) ∧ IsI w' w1.heap.size x [0, 1, 2, 3] ∧ OwnT w w' (w.heap.size + 1) w.heap.size v T6) from fun w1 v h => by
    refine (below_any w1 h.1 3).mono ?_
    rw [e9]
    rintro e w' ⟨x, rfl, hI, hb⟩
    exact ⟨x, rfl, hI, h.later hb⟩
  have KL := show Hid (∀ (w1 : World) (v : Value), OwnT w w1 (w.heap.size + 1) w.heap.size v T6 → Calls Try.prog 44 #[.pointer (some ⟨w.heap.size + 1, 0, none⟩)] w1 fun e w' => e = .returned (.int .i64 6) ∧ w' = w1) from fun w1 v h => len_any w1 h.1
  clear i0 i1 i2 i9
  go_enter Try.func15, Try.ntmps15
  go_wp2_with fail
  refine KN.out.mono ?_
  rintro e w1 ⟨rfl, hT, hB⟩
  have H1 := show Hid (OwnT w w1 (w.heap.size + 1) w.heap.size (.slice none 0 0) []) from ⟨hT, by rintro k (e | e | e) <;> first | omega | (simp [Value.ownBlock] at e), hB⟩
  clear hT hB KN
  go_wp2_with fail
  refine (K1.out _ _ H1.out).mono ?_
  rintro e w2 ⟨rfl, v2, h2⟩
  have H2 := show Hid _ from h2
  clear h2 K1 H1
  go_wp2_with fail
  refine (K2.out _ _ H2.out).mono ?_
  rintro e w3 ⟨rfl, v3, h3⟩
  have H3 := show Hid _ from h3
  clear h3 K2 H2
  go_wp2_with fail
  refine (K3.out _ _ H3.out).mono ?_
  rintro e w4 ⟨rfl, v4, h4⟩
  have H4 := show Hid _ from h4
  clear h4 K3 H3
  go_wp2_with fail
  refine (K4.out _ _ H4.out).mono ?_
  rintro e w5 ⟨rfl, v5, h5⟩
  have H5 := show Hid _ from h5
  clear h5 K4 H4
  go_wp2_with fail
  refine (K5.out _ _ H5.out).mono ?_
  rintro e w6 ⟨rfl, v6, h6⟩
  have H6 := show Hid _ from h6
  clear h6 K5 H5
  go_wp2_with fail
  refine (K6.out _ _ H6.out).mono ?_
  rintro e w7 ⟨rfl, v7, h7⟩
  have H7 := show Hid _ from h7
  clear h7 K6 H6
  go_wp2_with fail
  refine (K7.out _ _ H7.out).mono ?_
  rintro e w8 ⟨rfl, v8, h8⟩
  have H8 := show Hid _ from h8
  clear h8 K7 H7
  go_wp2_with fail
  refine (K8.out _ _ H8.out).mono ?_
  rintro e w9 ⟨rfl, v9, h9⟩
  have H9 := show Hid _ from h9
  clear h9 K8 H8
  go_wp2_with fail
  refine (K9.out _ _ H9.out).mono ?_
  rintro e w10 ⟨x, rfl, hI, h10⟩
  have HI := show Hid (IsI w10 w9.heap.size x [0, 1, 2, 3]) from hI
  have H10 := show Hid (OwnT w w10 (w.heap.size + 1) w.heap.size v9 T6) from h10
  clear hI h10 K9 H9
  go_wp2_with fail
  refine (KL.out _ _ H10.out).mono ?_
  rintro e w11 ⟨rfl, hw⟩
  subst w11
  go_wp2_with fail
  have HB := show Hid (Below w.heap.size w (w10.alloc (Obj.cells #[.int .i64 0, .int .i64 1, .int .i64 2, .int .i64 3] 3))) from H10.out.2.2.alloc H10.out.2.2.size _
  have KI := show Hid _ from ints_eq (w10.alloc (Obj.cells #[.int .i64 0, .int .i64 1, .int .i64 2, .int .i64 3] 3)) _ _ x _ _ (IsI.alloc HI.out _) (ints4 w10)
  refine Calls.mono KI.out ?_
  rintro e w12 ⟨rfl, n12, rfl⟩
  clear KI
  go_wp2_with fail
  go_ret
  exact ⟨rfl, below_drewN HB.out n12⟩
end Go.Proofs.Ytphoeedccknihaa
