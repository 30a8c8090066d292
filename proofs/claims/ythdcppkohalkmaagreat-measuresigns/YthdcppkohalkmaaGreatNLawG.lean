/-
  Rows of names of one's own, whatever they hold: a cell read and written; another row beside it. No other condition.
-/
import Derived.Test.YthdcppkohalkmaaGreatNThree
import Derived.Test.YthdcppkohalkmaaGreatNSignR
import Derived.Test.YthdcppkohalkmaaGreatMHeads
import Derived.Test.YthdcppkohalkmaaGreatMTabs
namespace Go.Proofs.YthdcppkohalkmaaGreat
open Go.RowKit Go.Maps
open Fm (Nd)

/-- A row of n names of one's own, whatever they are. -/
def Qn (w : World) (B : Nat) (v : Value) (n : Nat) : Prop := ∃ xs : List (List UInt8), w.ownsRow B 9 1 v n (xs.map encStr)
section
variable {w w' : World} {B : Nat} {v : Value} {n : Nat}
theorem Qn.later (h : Qn w B v n) (hb : Below w.heap.size w w') : Qn w' B v n := by
  obtain ⟨xs, h⟩ := h
  exact ⟨xs, own_later h hb⟩
theorem Qn.at {q : Option Addr} {c : Nat} (h : Qn w B (.slice q n c) n) {j : Nat} (hj : j < n) : ∃ g s, q = some ⟨g, 0, none⟩ ∧ B ≤ g ∧ (Value.slice q n c).ownBlock = some g ∧ w.cell? ⟨g, j, none⟩ = some (.string s) ∧ w.frozen? ⟨g, j, none⟩ = false ∧ ∀ y, Qn (w.setCell ⟨g, j, none⟩ (.string y)) B (.slice q n c) n := by
  obtain ⟨xs, h⟩ := h
  have hl : xs.length = n := by simpa using h.1
  rcases h.2 with ⟨_, h0⟩ | ⟨g, cap, cur, hn, hg, hh, h1⟩
  · omega
  · obtain ⟨e1, -, e3⟩ := Value.slice.inj hn
    subst e1
    refine ⟨g, _, rfl, hg, rfl, ownN_cell h hj (by omega), ownN_fr h j, fun y => ⟨xs.set j y.data.toList, ?_⟩⟩
    have h2 := ownN_set h j y.data.toList
    rw [encStr_of] at h2
    exact h2
theorem Qn.other (h : Qn w B v n) {g : Nat} (hg : v.ownBlock ≠ some g) (j : Nat) (y : Value) : Qn (w.setCell ⟨g, j, none⟩ y) B v n := by
  obtain ⟨xs, h⟩ := h
  refine ⟨xs, h.kept (grownBy_set w g j y) ?_⟩
  cases hv : v.ownBlock with
  | none => exact Or.inl rfl
  | some k => exact Or.inr (fun e => hg (hv.trans e))
end
end Go.Proofs.YthdcppkohalkmaaGreat
/-
  The law MeasureSigns, as the program walks it: true for every row that a machine can hold and every two numbers. No other condition.
-/
namespace Go.Proofs.YthdcppkohalkmaaGreat
open Go.RowKit Go.Maps Go.Sort Go.Lib
open Fm (Nd)

theorem within_occ {t : List Nd} (hok : Fm.Ok t) (pt x : Int) : ((belowR t x).1.map fun n : Nat => (n : Int)).contains pt = decide (0 < (occR t pt x).1 + (occR t pt x).2.1) := by
  unfold belowR occR
  cases hx : Fm.has t x
  · simp
  · obtain ⟨hx0, hx1⟩ := Fm.has_iff.1 hx
    simp only [Bool.and_true, if_true]
    apply Bool.eq_iff_iff.2
    rw [List.contains_iff_mem, List.mem_map, decide_eq_true_iff]
    cases hp : Fm.has t pt
    · simp only [Bool.false_eq_true, if_false]
      refine ⟨fun ⟨j, hj, e⟩ => ?_, fun h => by simp at h⟩
      have h2 := Ms.below_lt t x.toNat j hj
      have h3 : Fm.has t pt = true := Fm.has_iff.2 ⟨by omega, by omega⟩
      rw [hp] at h3
      cases h3
    · obtain ⟨hp0, hp1⟩ := Fm.has_iff.1 hp
      simp only [if_true]
      rw [← Ms.mem_below hok (id := x.toNat) (by omega)]
      refine ⟨fun ⟨j, hj, e⟩ => ?_, fun h => ⟨pt.toNat, h, by omega⟩⟩
      rw [← e]
      simpa using hj
theorem occ_in (t : List Nd) (pt x : Int) : (0 ≤ (occR t pt x).1 ∧ (occR t pt x).1 ≤ 1099511627776) ∧ (0 ≤ (occR t pt x).2.1 ∧ (occR t pt x).2.1 ≤ 1099511627776) := by
  unfold occR
  by_cases h : (Fm.has t pt && Fm.has t x) = true
  · rw [if_pos h]
    have := inr_plc t x.toNat pt.toNat
    unfold Ms.M at this
    simp only
    omega
  · rw [if_neg h]
    simp
theorem allN_len {t : List Nd} (id : Nat) : (allN t id).length ≤ id + 1 := by rw [← nm_all]; exact nmU_len _ _ _
theorem posN_len {t : List Nd} (id : Nat) : (posN t id).length ≤ id + 1 := by rw [← nm_pos]; exact nmU_len _ _ _
theorem negN_len {t : List Nd} (id : Nat) : (negN t id).length ≤ id + 1 := by rw [← nm_neg]; exact nmU_len _ _ _
theorem isN_nil (w : World) : IsN w (.slice none 0 0) [] := ⟨none, 0, rfl, by simp, fun k hk => by simp at hk⟩
/-- What the two sides tell of a number's names. -/
theorem signs_both {w0 w1 : World} {B M C : Nat} {v u : Value} {t : List Nd} (hP : ∀ w', Below w1.heap.size w1 w' → Pair w0 w' B M v C u t t) (x : Int) :
    ∃ (la lp ln : List (List UInt8)) (ft : Int), la.length ≤ 1024 ∧ lp.length ≤ 1024 ∧ ln.length ≤ 1024 ∧
      (Calls Tryz.prog 20 #[.pointer (some ⟨C, 0, none⟩), .int .i64 x] w1 fun e w' => Below w1.heap.size w1 w' ∧ ∃ va vb vc, e = .returned (.tuple #[va, vb, vc, .int .i64 ft]) ∧ IsN w' va la ∧ IsN w' vb lp ∧ IsN w' vc ln) ∧
      (∀ w', Below w1.heap.size w1 w' → Calls Tryz.prog 22 #[.pointer (some ⟨B, 0, none⟩), .int .i64 x] w' fun e w'' => ∃ q c, e = .returned (.tuple #[.slice q la.length c, .int .i64 ft]) ∧ w''.ownsRow w'.heap.size 9 1 (.slice q la.length c) la.length (la.map encStr) ∧ Below w'.heap.size w' w'') ∧
      (∀ w', Below w1.heap.size w1 w' → Calls Tryz.prog 23 #[.pointer (some ⟨B, 0, none⟩), .int .i64 x] w' fun e w'' => ∃ q c q2 c2, e = .returned (.tuple #[.slice q lp.length c, .slice q2 ln.length c2, .int .i64 ft]) ∧ w''.ownsRow w'.heap.size 9 1 (.slice q lp.length c) lp.length (lp.map encStr) ∧ w''.ownsRow w'.heap.size 9 1 (.slice q2 ln.length c2) ln.length (ln.map encStr) ∧ Below w'.heap.size w' w'') := by
  have hlen := (hP w1 (Below.refl _ _)).tb.ok.len
  cases hx : Fm.has t x
  · refine ⟨[], [], [], 31, by simp, by simp, by simp, ?_, fun w' hb => ?_, fun w' hb => ?_⟩
    · refine (rsigns_out w1 (hP w1 (Below.refl _ _)).tr x hx).mono ?_
      rintro e w' ⟨he, rfl⟩
      exact ⟨Below.refl _ _, _, _, _, he, isN_nil _, isN_nil _, isN_nil _⟩
    · refine (atoms_out w' (hP w' hb).tb x hx).mono ?_
      rintro e w'' ⟨he, hb2⟩
      exact ⟨none, 0, he, World.ownsRow_nil _ _ _ _, hb2⟩
    · refine (signs_out w' (hP w' hb).tb x hx).mono ?_
      rintro e w'' ⟨he, hb2⟩
      exact ⟨none, 0, none, 0, he, World.ownsRow_nil _ _ _ _, World.ownsRow_nil _ _ _ _, hb2⟩
  · obtain ⟨hx0, hx1⟩ := Fm.has_iff.1 hx
    obtain ⟨id, rfl⟩ : ∃ j : Nat, x = j := ⟨x.toNat, by omega⟩
    have hid : id < t.length := by omega
    refine ⟨allN t id, posN t id, negN t id, 0, Nat.le_trans (allN_len id) (by omega), Nat.le_trans (posN_len id) (by omega), Nat.le_trans (negN_len id) (by omega), rsigns_in w1 (hP w1 (Below.refl _ _)).tr id hid, fun w' hb => atoms_in w' (hP w' hb).tb id hid, fun w' hb => ?_⟩
    refine (signs_in w' (hP w' hb).tb id hid).mono ?_
    rintro e w'' ⟨q, c, q2, c2, z, he, hz, ho, _, ho2, hb2⟩
    refine ⟨q, c, q2, c2, he, ho, ?_, hb2⟩
    exact ⟨ho2.1, ho2.2.imp (fun h => h) fun ⟨g, cap, cur, e1, hg, r⟩ => ⟨g, cap, cur, e1, Nat.le_trans hz hg, r⟩⟩
end Go.Proofs.YthdcppkohalkmaaGreat
