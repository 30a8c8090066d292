/-
  The calls Occurs, Atoms and Signs. For every table that calls made, every number.
-/
import Derived.Test.YthdcppkohalkmaaGreatMPlacC
import Derived.Sort.OwnSorted
namespace Go.Proofs.YthdcppkohalkmaaGreat
open Go.RowKit Go.Maps Go.Sort Go.Lib
open Fm (Nd)

theorem results_three {P : Program} {fn : Func} {p q r : Tmp} (h : fn.results = #[.tmp p, .tmp q, .tmp r]) (tmps : Array Value) (w : World) (_u : Unit) : (results fn tmps).run P w = .ok (.tuple #[tmps.getD p undef, tmps.getD q undef, tmps.getD r undef]) w := by
  simp [results, h]
section
variable {b m : Nat} {v : Value} {t : List Nd}
set_option maxHeartbeats 1000000 in
theorem stands_any (w : World) {B M n N : Nat} {c : Ms.C} (hB : w.cell? ⟨B, 0, none⟩ = some (.map (some M))) (hM : Mc w M n N c) (hN : N ≤ 1024) (j : Nat) (hj : j < N) :
    Calls Tryz.prog 76 #[.int .i64 (j : Int), .pointer (some ⟨B, 0, none⟩)] w fun e w' => e = .returned (.agg #[.int .i64 (c j).1, .int .i64 (c j).2]) ∧ Below w.heap.size w w' := by
  have hb := below_alloc w (Obj.cells #[.int .i64 0, .int .i64 0] 80)
  have hlk := (hM.later hb).look hj hN
  have hcB := (Kp.of_below (S := fun _ => False) hb).cell hB (fun h => h)
  unfold sdV at hlk
  have HE := show Hid (S2 (w.alloc (Obj.cells #[.int .i64 (c j).1, .int .i64 (c j).2] 80)) w.heap.size (c j)) from heap_alloc_new _ _
  clear hM hB
  go_enter Tryz.func76, Tryz.ntmps76
  go_wp2
  refine bodyPost_ret (results_cell1 rfl _ _ w.heap.size _ _ _ _ rfl HE.out Tryz.underlying80 rfl (by kernel_rfl)) rfl ?_
  exact ⟨rfl, below_alloc _ _⟩
/-- What Occurs answers. -/
def occR (t : List Nd) (part i : Int) : Int × Int × Int := if Fm.has t part && Fm.has t i then ((Ms.plc t i.toNat part.toNat).1, (Ms.plc t i.toNat part.toNat).2, 0) else (0, 0, 31)
set_option maxRecDepth 100000 in
set_option maxHeartbeats 2000000 in
theorem occurs_any (w : World) (hT : Tb w b m v t) (part i : Int) :
    Calls Tryz.prog 25 #[.pointer (some ⟨b, 0, none⟩), .int .i64 part, .int .i64 i] w fun e w' => e = .returned (.tuple #[.int .i64 (occR t part i).1, .int .i64 (occR t part i).2.1, .int .i64 (occR t part i).2.2]) ∧ Below w.heap.size w w' := by
  have KR := show Hid (Calls Tryz.prog 47 #[.pointer (some ⟨b, 0, none⟩), .slice (some ⟨w.heap.size, 0, none⟩) 2 2] (w.alloc (Obj.cells #[.int .i64 part, .int .i64 i] 3)) fun e w' => e = .returned (.int .i64 (refs t [part, i])) ∧ Below w.heap.size w w') from (refused_any _ (hT.later (below_alloc _ _)) _ _ (isL2 w part i)).mono fun e w' ⟨he, hb⟩ => ⟨he, (below_alloc w _).trans (hb.mono (below_alloc w _).size)⟩
  have HR := show Hid (refs t [part, i] = if Fm.has t part && Fm.has t i then 0 else 31) from by show refs t [part, i] = _; unfold refs; simp
  have HA := show Hid (occR t part i = if Fm.has t part && Fm.has t i then ((Ms.plc t i.toNat part.toNat).1, (Ms.plc t i.toNat part.toNat).2, 0) else (0, 0, 31)) from rfl
  have HT := show Hid (Tb w b m v t) from hT
  generalize refs t [part, i] = rf at *
  generalize occR t part i = ans at *
  cases hh : (Fm.has t part && Fm.has t i)
  · have ha := HA.out
    have hr := HR.out
    rw [hh] at ha hr
    simp only [Bool.false_eq_true, if_false] at ha hr
    subst ha
    subst hr
    clear hT HT HA HR
    go_enter Tryz.func25, Tryz.ntmps25
    go_wp2_with fail
    refine KR.out.mono ?_
    rintro e w1 ⟨rfl, hb1⟩
    have HB1 := show Hid (Below w.heap.size w w1) from hb1
    clear hb1 KR
    go_wp2_with fail
    refine bodyPost_ret (results_three rfl _ _ ()) rfl ?_
    exact ⟨rfl, HB1.out⟩
  · have ha := HA.out
    have hr := HR.out
    rw [hh] at ha hr
    simp only [if_true] at ha hr
    simp only [Bool.and_eq_true] at hh
    obtain ⟨h0, h1⟩ := Fm.has_iff.1 hh.1
    obtain ⟨h2, h3⟩ := Fm.has_iff.1 hh.2
    obtain ⟨j, rfl⟩ : ∃ j : Nat, part = j := ⟨part.toNat, by omega⟩
    obtain ⟨k, rfl⟩ : ∃ k : Nat, i = k := ⟨i.toNat, by omega⟩
    simp only [Int.toNat_natCast] at ha
    subst ha
    subst hr
    have hlen := hT.ok.len
    have KP := show Hid (∀ w1, Below w.heap.size w w1 → Calls Tryz.prog 50 #[.pointer (some ⟨b, 0, none⟩), .int .i64 (k : Int)] w1 (Plcd w1 t.length (Ms.plc t k))) from fun w1 hb => places_any w1 (HT.out.later hb) k (by omega)
    have hj : j < t.length := by omega
    clear hT HA HR hh h0 h1 h2 h3
    generalize Ms.plc t k = c at *
    go_enter Tryz.func25, Tryz.ntmps25
    go_wp2_with fail
    refine KR.out.mono ?_
    rintro e w1 ⟨rfl, hb1⟩
    have KP1 := show Hid (Calls Tryz.prog 50 #[.pointer (some ⟨b, 0, none⟩), .int .i64 (k : Int)] w1 (Plcd w1 t.length c)) from KP.out w1 hb1
    have HB1 := show Hid (Below w.heap.size w w1) from hb1
    clear hb1 KR KP HT
    go_wp2_with fail
    refine KP1.out.mono ?_
    rintro e w2 ⟨B, M, n, rfl, hc2, hM2, hb2⟩
    have KS := show Hid (Calls Tryz.prog 76 #[.int .i64 (j : Int), .pointer (some ⟨B, 0, none⟩)] w2 fun e w' => e = .returned (.agg #[.int .i64 (c j).1, .int .i64 (c j).2]) ∧ Below w2.heap.size w2 w') from stands_any w2 hc2 hM2 hlen j hj
    have HB2 := show Hid (Below w.heap.size w w2) from HB1.out.trans (hb2.mono HB1.out.size)
    clear hc2 hM2 hb2 KP1 HB1
    go_wp2_with fail
    refine KS.out.mono ?_
    rintro e w3 ⟨rfl, hb3⟩
    have HB3 := show Hid (Below w.heap.size w w3) from HB2.out.trans (hb3.mono HB2.out.size)
    clear hb3 KS HB2
    go_wp2_with fail
    go_quiet (fail)
    go_wp2_with fail
    refine bodyPost_ret (results_three rfl _ _ ()) rfl ?_
    exact ⟨rfl, by have h := HB3.out.alloc HB3.out.size (Obj.cells #[.int .i64 (c j).1, .int .i64 (c j).2] 80); exact ⟨h.os, h.tape, h.output, h.size, h.block⟩⟩
end
end Go.Proofs.YthdcppkohalkmaaGreat
