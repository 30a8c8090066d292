/-
  The call Print. For every table and number. No other condition.
-/
import Derived.Test.YtcidldgenogdkaaGreatDoorGPb
import Derived.Test.YtcidldgenogdkaaGreatDoorGPc
import Derived.Test.YtcidldgenogdkaaGreatDoorGSc
import Derived.Test.YtcidldgenogdkaaGreatDoorShelfC
namespace Go.Proofs.YtcidldgenogdkaaGreatDoor
open Go.RowKit Go.Maps
open Fm (Nd)
open Pr (Pc)

/-- What Print answers: the text, the error. -/
def printR (t : List Nd) (i : Int) : List UInt8 × Int := if Fm.has t i then (if (Pr.text t i).length ≤ 65536 then (Pr.text t i, 0) else ([], 11)) else ([], 31)
theorem PS.builder {w0 w : World} {B hp ho hw b m : Nat} {v : Value} {t : List Nd} {l : List UInt8} (h : PS w0 B w hp ho hw b m v t l) : Lib.IsBuilder 87 5 B ho (Lib.byteCells l) w := by
  obtain ⟨vb, h1, h2⟩ := h.bd
  have hne := h1.ne
  obtain ⟨p, hp, hh, hr⟩ := h1
  have hown : w.ownsRow B 5 1 vb (Lib.byteCells l).length (Lib.byteCells l) := by
    refine ⟨hr.1, ?_⟩
    rcases hr.2 with h3 | ⟨g, cap, cur, rfl, _, r⟩
    · exact Or.inl h3
    · exact Or.inr ⟨g, cap, cur, rfl, h2 g rfl, r⟩
  rcases hp with rfl | rfl
  · exact Or.inl ⟨h.hB, vb, hh, hown, hne⟩
  · exact Or.inr ⟨h.hB, vb, hh, hown, hne⟩
theorem store_fun2 (w : World) (o : Obj) (fn : Fn) (a c : Array Value) (v : Value) (ty : TypeId) : (store ⟨w.heap.size + 1, 0, none⟩ (.func fn a c)).run Tryz.prog ((w.alloc o).alloc (.cells #[v] ty)) = .ok () ((w.alloc o).alloc (.cells #[.func fn a c] ty)) := by
  have h := store_fun (w.alloc o) fn a c v ty
  rw [show (w.alloc o).heap.size = w.heap.size + 1 by simp] at h
  exact h
theorem ps_start (w w2 : World) {hp b m : Nat} {v : Value} {t : List Nd} (hT : Tb w2 b m v t) (hP : Box w2 hp (.pointer (some ⟨b, 0, none⟩)) 82) (hb : Below w.heap.size w w2) :
    PS w w.heap.size ((w2.alloc (Obj.cells #[.pointer none, .slice none 0 0] 87)).alloc (Obj.cells #[.func (.func 40) #[] #[.pointer (some ⟨hp, 0, none⟩), .pointer (some ⟨w2.heap.size, 0, none⟩), .pointer (some ⟨w2.heap.size + 1, 0, none⟩)]] 77)) hp w2.heap.size (w2.heap.size + 1) b m v t [] := by
  have h3 : Below w2.heap.size w2 ((w2.alloc (Obj.cells #[.pointer none, .slice none 0 0] 87)).alloc (Obj.cells #[.func (.func 40) #[] #[.pointer (some ⟨hp, 0, none⟩), .pointer (some ⟨w2.heap.size, 0, none⟩), .pointer (some ⟨w2.heap.size + 1, 0, none⟩)]] 77)) := ((Below.refl _ _).alloc (Nat.le_refl _) _).alloc (by simp) _
  refine ⟨(h3.block _ hP.lt).trans hP, heap_new_at _ _ _ (by simp), ⟨.slice none 0 0, ⟨.pointer none, Or.inl rfl, (Below.heap_alloc _ _ _ (by simp)).trans (heap_new_at _ _ _ rfl), ?_⟩, fun k hk => by cases hk⟩, hT.later h3, hb.trans (h3.mono hb.size), hb.size, Nat.le_trans hb.size h3.size⟩
  exact World.ownsRow_nil _ _ _ _
set_option maxRecDepth 100000 in
set_option maxHeartbeats 2000000 in
theorem print_any (w : World) {b m : Nat} {v : Value} {t : List Nd} (hT : Tb w b m v t) (i : Int) :
    Calls Tryz.prog 17 #[.pointer (some ⟨b, 0, none⟩), .int .i64 i] w fun e w' => e = .returned (.tuple #[.string ⟨(printR t i).1.toArray⟩, .int .i64 (printR t i).2]) ∧ Below w.heap.size w w' := by
  have hmf := mkFunc
  have hsf := store_fun2
  have KB := show Hid (Calls Tryz.prog 38 #[.pointer (some ⟨b, 0, none⟩), .int .i64 i] w fun e w' => ∃ v', e = .returned (.tuple #[v', .int .i64 (belowR t i).2]) ∧ IsI w' w.heap.size v' (belowR t i).1 ∧ Below w.heap.size w w') from below_any w hT i
  have HT := show Hid (Tb w b m v t) from hT
  by_cases hi : Fm.has t i = true
  · have h0 := Fm.has_iff.1 hi
    obtain ⟨n, rfl⟩ : ∃ n : Nat, i = n := ⟨i.toNat, by omega⟩
    have hn : n < t.length := by omega
    have hbr : belowR t (n : Int) = (Fm.below t n, 0) := by unfold belowR; rw [if_pos hi]; simp
    rw [hbr] at KB
    have KS := show Hid (∀ w1 Bv vb, Tb w1 b m v t → IsI w1 Bv vb (Fm.below t n) → Calls Tryz.prog 39 #[.agg #[.pointer (some ⟨b, 0, none⟩)], vb] w1 fun e w' => e = .returned (.int .i64 (Pr.wd t (n : Int) : Int)) ∧ Below w1.heap.size w1 w') from fun w1 Bv vb h1 h2 => size_any w1 h1 n hn h2
    have KP := show Hid (∀ (w1 : World) (hp ho hw : Nat), (Pr.text t (n : Int)).length ≤ 65536 → PS w w.heap.size w1 hp ho hw b m v t [] → Calls Tryz.prog 40 #[.int .i64 (n : Int), .pointer (some ⟨hp, 0, none⟩), .pointer (some ⟨ho, 0, none⟩), .pointer (some ⟨hw, 0, none⟩)] w1 fun e w' => e = .returned (.tuple #[]) ∧ PS w w.heap.size w' hp ho hw b m v t (Pr.text t (n : Int))) from fun w1 hp ho hw hl h => (print1_any (n + 1) w1 [] (n : Int) (by simp) hi h (by simpa using hl)).mono fun e w' hh => ⟨hh.1, by simpa using hh.2.1⟩
    have HPR := show Hid (printR t (n : Int) = if (Pr.text t (n : Int)).length ≤ 65536 then (Pr.text t (n : Int), 0) else ([], 11)) from by show printR t (n : Int) = _; unfold printR; rw [if_pos hi]
    have HWD := show Hid (Pr.wd t (n : Int) = min (Pr.text t (n : Int)).length 65537) from rfl
    have hwd1 : Pr.wd t (n : Int) ≤ 65537 := by unfold Pr.wd; omega
    have KST := show Hid (∀ (w1 : World) (ho : Nat), Lib.IsBuilder 87 5 w.heap.size ho (Lib.byteCells (Pr.text t (n : Int))) w1 → w.heap.size ≤ w1.heap.size → Calls Tryz.prog 44 #[.pointer (some ⟨ho, 0, none⟩)] w1 fun e w' => e = .returned (.string ⟨(Pr.text t (n : Int)).toArray⟩) ∧ Below w.heap.size w1 w') from fun w1 ho h1 h2 => Tryz.Builder_String_any w.heap.size ho (Pr.text t (n : Int)) w1 h1 h2
    generalize printR t (n : Int) = pr at *
    generalize Pr.wd t (n : Int) = wn at *
    generalize Pr.text t (n : Int) = tx at *
    simp only at KB
    clear hT hi h0 hn hbr
    go_enter Tryz.func17, Tryz.ntmps17
    go_wp2_with fail
    refine KB.out.mono ?_
    rintro e w1 ⟨vb, rfl, hI, hb1⟩
    have hb1' : Below w1.heap.size w1 (w1.alloc (Obj.cells #[.pointer (some ⟨b, 0, none⟩)] 82)) := below_alloc _ _
    have X1 := show Hid (Below w.heap.size w (w1.alloc (Obj.cells #[.pointer (some ⟨b, 0, none⟩)] 82)) ∧ IsI (w1.alloc (Obj.cells #[.pointer (some ⟨b, 0, none⟩)] 82)) w.heap.size vb (Fm.below t n) ∧ Box (w1.alloc (Obj.cells #[.pointer (some ⟨b, 0, none⟩)] 82)) w1.heap.size (.pointer (some ⟨b, 0, none⟩)) 82) from ⟨hb1.trans (hb1'.mono hb1.size), World.ownsRow.alloc hI _, heap_alloc_new _ _⟩
    clear hI hb1 hb1' KB
    go_wp2_with fail
    refine (KS.out _ _ _ (HT.out.later X1.out.1) X1.out.2.1).mono ?_
    rintro e w2 ⟨rfl, hb2⟩
    have X2 := show Hid (Below w.heap.size w w2 ∧ Box w2 w1.heap.size (.pointer (some ⟨b, 0, none⟩)) 82) from ⟨X1.out.1.trans (hb2.mono X1.out.1.size), (hb2.block _ X1.out.2.2.lt).trans X1.out.2.2⟩
    clear hb2 X1 KS
    by_cases hl : tx.length ≤ 65536
    · have hpr := HPR.out
      rw [if_pos hl] at hpr
      subst hpr
      have hwn : ¬ 65536 < (wn : Int) := by have := HWD.out; omega
      have hwn2 : (wn : Int) ≤ 65536 := by omega
      have HL := show Hid (tx.length ≤ 65536) from hl
      clear HPR hl
      have PS0 := show Hid _ from ps_start w w2 (HT.out.later X2.out.1) X2.out.2 X2.out.1
      go_wp2_with fail
      refine (KP.out _ _ _ _ HL.out PS0.out).mono ?_
      rintro e w3 ⟨rfl, h3⟩
      have X3 := show Hid (PS w w.heap.size w3 w1.heap.size w2.heap.size (w2.heap.size + 1) b m v t tx) from h3
      clear h3 PS0 KP
      go_wp2_with fail
      refine (KST.out w3 _ X3.out.builder X3.out.hBw).mono ?_
      rintro e w4 ⟨rfl, hb4⟩
      have X4 := show Hid (Below w.heap.size w w4) from X3.out.be.trans hb4
      clear hb4 KST X3
      go_wp2_with fail
      go_ret2
      exact ⟨rfl, X4.out⟩
    · have hpr := HPR.out
      rw [if_neg hl] at hpr
      subst hpr
      have hwn : 65536 < (wn : Int) := by have := HWD.out; omega
      clear HPR hl
      go_wp2_with fail
      go_ret2
      exact ⟨rfl, X2.out.1⟩
  · have hbr : belowR t i = ([], 31) := by unfold belowR; rw [if_neg hi]
    have hpr : printR t i = ([], 31) := by unfold printR; rw [if_neg hi]
    rw [hbr] at KB
    rw [hpr]
    simp only at KB
    clear hT hi hbr hpr
    go_enter Tryz.func17, Tryz.ntmps17
    go_wp2_with fail
    refine KB.out.mono ?_
    rintro e w1 ⟨vb, rfl, hI, hb1⟩
    have X1 := show Hid (Below w.heap.size w w1) from hb1
    clear hI hb1 KB
    go_wp2_with fail
    go_ret2
    exact ⟨rfl, X1.out⟩
end Go.Proofs.YtcidldgenogdkaaGreatDoor
