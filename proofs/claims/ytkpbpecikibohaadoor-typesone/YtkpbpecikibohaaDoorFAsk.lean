/-
  The calls Node, Find and Len of a table: for every number and row. No other condition.
-/
import Derived.Test.YtkpbpecikibohaaDoorFOps
namespace Go.Proofs.YtkpbpecikibohaaDoor
open Go.RowKit Go.Maps
open Fm (Nd)

section
variable (w : World) {b m : Nat} {v : Value} {t : List Nd}
theorem results_cell_tmp {P : Program} {fn : Func} {p t2 : Tmp} {ty : TypeId} (h : fn.results = #[.cell p ty, .tmp t2]) (tmps : Array Value) (w : World) (g : Nat) (t : TypeId) (cs : Array Value) (fr : Nat × Nat) (d : TypeDesc)
    (hp : tmps.getD p undef = .pointer (some ⟨g, 0, none⟩)) (hg : w.heap[g]? = some (.cells cs t fr))
    (hu : P.underlying ty = some d) (hd : (match d with | .struct _ | .array _ _ => true | _ => false) = true) (hi : (P.info? ty).map (·.size) = some cs.size) :
    (results fn tmps).run P w = .ok (.tuple #[.agg cs, tmps.getD t2 undef]) w := by
  have hp' : tmps[p]?.getD undef = .pointer (some ⟨g, 0, none⟩) := by simpa using hp
  simp [results, h, hp', asAddr, run_loadVar_row w g t ty cs fr d hg hu hd hi, Result.andThen]
def nodeOf (t : List Nd) (i : Int) : Nd := if Fm.has t i then t.getD i.toNat Fm.z else Fm.z
def N4 (w : World) (g : Nat) (n : Nd) : Prop := w.heap[g]? = some (.cells #[.int .i64 n.k, .string n.s, .int .i64 n.l, .int .i64 n.r] 54 (0, 0))
section
variable {w : World} {g : Nat} {n : Nd}
theorem N4.c0 (h : N4 w g n) : w.cell? ⟨g, 0, none⟩ = some (.int .i64 n.k) := by rw [cell_of_row w g 0 _ _ _ h]; rfl
theorem N4.c1 (h : N4 w g n) : w.cell? ⟨g, 1, none⟩ = some (.string n.s) := by rw [cell_of_row w g 1 _ _ _ h]; rfl
theorem N4.c2 (h : N4 w g n) : w.cell? ⟨g, 2, none⟩ = some (.int .i64 n.l) := by rw [cell_of_row w g 2 _ _ _ h]; rfl
theorem N4.c3 (h : N4 w g n) : w.cell? ⟨g, 3, none⟩ = some (.int .i64 n.r) := by rw [cell_of_row w g 3 _ _ _ h]; rfl
theorem N4.fr (h : N4 w g n) (j : Nat) : w.frozen? ⟨g, j, none⟩ = false := frozen_of_row w g j _ _ h
theorem N4.set (h : N4 w g n) (a : Nd) : N4 ((((w.setCell ⟨g, 0, none⟩ (.int .i64 a.k)).setCell ⟨g, 1, none⟩ (.string a.s)).setCell ⟨g, 2, none⟩ (.int .i64 a.l)).setCell ⟨g, 3, none⟩ (.int .i64 a.r)) g a :=
  heap_setCell_same _ g 3 _ _ _ (heap_setCell_same _ g 2 _ _ _ (heap_setCell_same _ g 1 _ _ _ (heap_setCell_same w g 0 _ _ _ h)))
end
theorem below_set4 {B : Nat} {a w : World} (h : Below B a w) {g : Nat} (hg : B ≤ g) (x y z u : Value) : Below B a ((((w.setCell ⟨g, 0, none⟩ x).setCell ⟨g, 1, none⟩ y).setCell ⟨g, 2, none⟩ z).setCell ⟨g, 3, none⟩ u) := (((h.setCell hg x).setCell hg y).setCell hg z).setCell hg u
set_option maxHeartbeats 1000000 in
theorem node_any (h : Tb w b m v t) (i : Int) :
    Calls Tryd.prog 48 #[.pointer (some ⟨b, 0, none⟩), .int .i64 i] w fun e w' => e = .returned (.tuple #[ndV (nodeOf t i), .bool (Fm.has t i)]) ∧ Below w.heap.size w w' := by
  obtain ⟨w0, hw0⟩ : ∃ w0, w0 = w.alloc (Obj.cells #[.int .i64 0, .string ⟨#[]⟩, .int .i64 0, .int .i64 0] 54) := ⟨_, rfl⟩
  have HB := show Hid (Below w.heap.size w w0) from by rw [hw0]; exact below_alloc w _
  have HR := show Hid (N4 w0 w.heap.size Fm.z) from by rw [hw0]; exact heap_alloc_new w _
  have KH := show Hid (∀ w', Below w.heap.size w w' → Calls Tryd.prog 65 #[.pointer (some ⟨b, 0, none⟩), .int .i64 i] w' fun e w'' => e = .returned (.bool (Fm.has t i)) ∧ w'' = w') from fun w' hb => has_any w' (h.later hb) i
  have HN := show Hid (nodeOf t i = if Fm.has t i then t.getD i.toNat Fm.z else Fm.z) from rfl
  have HT := show Hid (Tb w0 b m v t) from h.later HB.out
  generalize nodeOf t i = nd at *
  cases hh : Fm.has t i
  · have hr := HN.out
    rw [hh] at hr
    simp only [Bool.false_eq_true, if_false] at hr
    subst hr
    rw [hh] at KH
    clear h HT
    go_enter Tryd.func48, Tryd.ntmps48
    go_wp2_with fail
    rw [← hw0]
    clear hw0
    refine (KH.out _ HB.out).mono ?_
    rintro e w' ⟨rfl, hw'⟩
    subst w'
    have d0 := HR.out.c0; have d1 := HR.out.c1; have d2 := HR.out.c2; have d3 := HR.out.c3; have df := HR.out.fr
    go_wp2_with fail
    refine bodyPost_ret (results_cell_tmp rfl _ _ w.heap.size _ _ _ _ rfl (HR.out.set Fm.z) Tryd.underlying54 rfl (by kernel_rfl)) rfl ?_
    exact ⟨rfl, below_set4 HB.out (Nat.le_refl _) _ _ _ _⟩
  · obtain ⟨hi0, hi1⟩ := Fm.has_iff.1 hh
    obtain ⟨j, rfl⟩ : ∃ j : Nat, i = j := ⟨i.toNat, by omega⟩
    have hj : j < t.length := by omega
    have hr := HN.out
    rw [hh] at hr
    simp only [if_true, Int.toNat_natCast] at hr
    rw [List.getD_eq_getElem?_getD, List.getElem?_eq_getElem hj, Option.getD_some] at hr
    rw [hh] at KH
    obtain ⟨p, c, hv, hc1, hc2, hat⟩ := HT.out.row.isR
    obtain ⟨g, o, rfl, hat2⟩ := hat (by omega)
    have hA := hat2 j hj
    rw [← hr] at hA
    have a0 := hA.c0; have a1 := hA.c1; have a2 := hA.c2; have a3 := hA.c3
    have c0 := HT.out.c0
    rw [hv] at c0
    clear h HT hat hat2 hA hr HN hv
    go_enter Tryd.func48, Tryd.ntmps48
    go_wp2_with fail
    rw [← hw0]
    clear hw0
    refine (KH.out _ HB.out).mono ?_
    rintro e w' ⟨rfl, hw'⟩
    subst w'
    have d0 := HR.out.c0; have d1 := HR.out.c1; have d2 := HR.out.c2; have d3 := HR.out.c3; have df := HR.out.fr
    go_wp2_with fail
    refine bodyPost_ret (results_cell_tmp rfl _ _ w.heap.size _ _ _ _ rfl (HR.out.set nd) Tryd.underlying54 rfl (by kernel_rfl)) rfl ?_
    exact ⟨rfl, below_set4 HB.out (Nat.le_refl _) _ _ _ _⟩
end
end Go.Proofs.YtkpbpecikibohaaDoor
