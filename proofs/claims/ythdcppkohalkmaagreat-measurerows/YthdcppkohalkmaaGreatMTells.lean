/-
  The law MeasureTells, as the program walks it: true for every row that a machine can hold and every number. No other condition.
-/
import Derived.Test.YthdcppkohalkmaaGreatMHeads
import Derived.Test.YthdcppkohalkmaaGreatRCnt
import Derived.Test.YthdcppkohalkmaaGreatRWts
import Derived.Test.YthdcppkohalkmaaGreatRDep
import Derived.Test.YthdcppkohalkmaaGreatRGrd
namespace Go.Proofs.YthdcppkohalkmaaGreat
open Go.RowKit Go.Maps Go.Sort Go.Lib
open Fm (Nd)

set_option maxHeartbeats 400000 in
theorem lsame_any (w0 w : World) {b m c : Nat} {v u : Value} {t : List Nd} (h : Pair w0 w b m v c u t t) :
    Calls Tryz.prog 19 #[.pointer (some ⟨b, 0, none⟩), .pointer (some ⟨c, 0, none⟩)] w fun e w' => e = .returned (.bool true) ∧ Below w.heap.size w w' := by
  have K := show Hid (Calls Tryz.prog 45 #[.pointer (some ⟨b, 0, none⟩), .pointer (some ⟨c, 0, none⟩)] w fun e w' => e = .returned (.bool true) ∧ Below w.heap.size w w') from like_any w0 w h
  clear h
  go_enter Tryz.func19, Tryz.ntmps19
  go_wp2_with fail
  refine K.out.mono ?_
  rintro e w' ⟨rfl, hb⟩
  have HB := show Hid (Below w.heap.size w w') from hb
  clear hb K
  go_wp2_with fail
  go_ret
  exact ⟨rfl, HB.out⟩
set_option maxRecDepth 100000 in
set_option maxHeartbeats 8000000 in
theorem measureTells_any (w : World) (rv : Value) (rs : List Nd) (hR : IsR w rv rs) (hg : ∀ n ∈ rs, Fm.good n) (hl : rs.length * 40 ≤ 140737488351232) (hv : rv = .slice none 0 0 ∨ ∃ a n c, rv = .slice (some a) n c) (x : Int) :
    Calls Tryz.prog 3 #[rv, .int .i64 x] w fun e w' => e = .returned (.bool true) ∧ Below w.heap.size w w' := by
  have KT := show Hid (Calls Tryz.prog 7 #[rv] w fun e w' => ∃ B M v C u, e = .returned (.tuple #[.pointer (some ⟨B, 0, none⟩), .pointer (some ⟨C, 0, none⟩)]) ∧ Pair w w' B M v C u (tabOf rs) (tabOf rs)) from tables_any w rv rs hR hg hl hv
  have KH := show Hid (∀ w1 : World, Calls Tryz.prog 14 #[] w1 fun e w' => e = .returned (.bool true) ∧ Below w1.heap.size w1 w') from heads_any
  have KN := show Hid (∀ (w : World) (x : Int), Calls Tryz.prog 13 #[.int .i64 x] w fun e w' => e = .returned (.int .i64 x) ∧ w' = w) from num_any
  generalize tabOf rs = t at *
  have hsl : ∃ p n cc, rv = .slice p n cc := by
    rcases hv with rfl | ⟨a, n, cc, rfl⟩
    · exact ⟨_, _, _, rfl⟩
    · exact ⟨_, _, _, rfl⟩
  obtain ⟨p, n, cc, rfl⟩ := hsl
  clear hR hg hl hv
  go_enter Tryz.func3, Tryz.ntmps3
  go_wp2_with fail
  refine KT.out.mono ?_
  rintro e w1 ⟨B, M, v, C, u, rfl, hP⟩
  have hok := hP.tb.ok
  have hlen := hok.len
  have HT := show Hid (∀ w', Below w1.heap.size w1 w' → Pair w w' B M v C u t t) from fun w' h => hP.later h
  have H1 := show Hid (Below w.heap.size w w1 ∧ Below w1.heap.size w1 w1) from ⟨hP.bel, Below.refl _ _⟩
  clear KT hP
  have K2 := show Hid (Calls Tryz.prog 8 #[.pointer (some ⟨B, 0, none⟩), .int .i64 x] w1 fun e w' => e = .returned (.tuple #[.int .i64 (cntR t (Ms.sizeV t) x).1, .int .i64 (cntR t (Ms.sizeV t) x).2]) ∧ Below w1.heap.size w1 w') from Size_any w1 (HT.out w1 H1.out.2).tb x
  go_wp2_with fail
  refine K2.out.mono ?_
  rintro e w2 ⟨rfl, hb2⟩
  have H2 := show Hid (Below w.heap.size w w2 ∧ Below w1.heap.size w1 w2) from ⟨H1.out.1.trans (hb2.mono H1.out.1.size), H1.out.2.trans (hb2.mono H1.out.2.size)⟩
  clear K2 hb2 H1
  have K3 := show Hid (Calls Tryz.prog 9 #[.pointer (some ⟨B, 0, none⟩), .int .i64 x] w2 fun e w' => e = .returned (.tuple #[.int .i64 (cntR t (Ms.depthV t) x).1, .int .i64 (cntR t (Ms.depthV t) x).2]) ∧ Below w2.heap.size w2 w') from Depth_any w2 (HT.out w2 H2.out.2).tb x
  go_wp2_with fail
  refine K3.out.mono ?_
  rintro e w3 ⟨rfl, hb3⟩
  have H3 := show Hid (Below w.heap.size w w3 ∧ Below w1.heap.size w1 w3) from ⟨H2.out.1.trans (hb3.mono H2.out.1.size), H2.out.2.trans (hb3.mono H2.out.2.size)⟩
  clear K3 hb3 H2
  have K4 := show Hid (Calls Tryz.prog 10 #[.pointer (some ⟨B, 0, none⟩), .int .i64 x] w3 fun e w' => e = .returned (.tuple #[.int .i64 (cntR t (Ms.weightV t) x).1, .int .i64 (cntR t (Ms.weightV t) x).2]) ∧ Below w3.heap.size w3 w') from Weight_any w3 (HT.out w3 H3.out.2).tb x
  go_wp2_with fail
  refine K4.out.mono ?_
  rintro e w4 ⟨rfl, hb4⟩
  have H4 := show Hid (Below w.heap.size w w4 ∧ Below w1.heap.size w1 w4) from ⟨H3.out.1.trans (hb4.mono H3.out.1.size), H3.out.2.trans (hb4.mono H3.out.2.size)⟩
  clear K4 hb4 H3
  have K5 := show Hid (Calls Tryz.prog 11 #[.pointer (some ⟨B, 0, none⟩), .int .i64 x] w4 fun e w' => e = .returned (.tuple #[.int .i64 (cntR t (Ms.gradeV t) x).1, .int .i64 (cntR t (Ms.gradeV t) x).2]) ∧ Below w4.heap.size w4 w') from Grade_any w4 (HT.out w4 H4.out.2).tb x
  go_wp2_with fail
  refine K5.out.mono ?_
  rintro e w5 ⟨rfl, hb5⟩
  have H5 := show Hid (Below w.heap.size w w5 ∧ Below w1.heap.size w1 w5) from ⟨H4.out.1.trans (hb5.mono H4.out.1.size), H4.out.2.trans (hb5.mono H4.out.2.size)⟩
  clear K5 hb5 H4
  have KHS := show Hid (Calls Tryz.prog 12 #[.pointer (some ⟨C, 0, none⟩), .int .i64 x] w5 fun e w' => e = .returned (.bool (Fm.has t x)) ∧ w' = w5) from rhas_any w5 (HT.out w5 H5.out.2).tr x
  by_cases hh : Fm.has t x = true
  · obtain ⟨hx0, hx1⟩ := Fm.has_iff.1 hh
    obtain ⟨j, rfl⟩ : ∃ j : Nat, x = j := ⟨x.toNat, by omega⟩
    have hj : j < t.length := by omega
    have ew : ∀ f : Nat → Int, cntR t f (j : Int) = (f j, 0) := fun f => by unfold cntR; rw [hh]; simp
    rw [ew, ew, ew, ew]
    simp only
    rw [hh] at KHS
    have hji : (j : Int) < (t.length : Int) := by omega
    clear ew hh
    go_wp2_with fail
    refine KHS.out.mono ?_
    rintro e w' ⟨rfl, hw'⟩
    subst w'
    clear KHS
    have K6 := show Hid (Calls Tryz.prog 15 #[.pointer (some ⟨C, 0, none⟩)] w5 fun e w' => e = .returned (.slice (some ⟨w5.heap.size, 0, none⟩) t.length t.length) ∧ w'.cell? ⟨w5.heap.size, j, none⟩ = some (.int .i64 (Ms.sizeV t j)) ∧ Below w5.heap.size w5 w') from (rsizes_any w5 (HT.out w5 H5.out.2).tr).mono fun e w' ⟨he, hv, hb⟩ => ⟨he, hv.cell hj, hb⟩
    go_wp2_with fail
    refine K6.out.mono ?_
    rintro e w6 ⟨rfl, hcj6, hb6⟩
    have H6 := show Hid (Below w.heap.size w w6 ∧ Below w1.heap.size w1 w6) from ⟨H5.out.1.trans (hb6.mono H5.out.1.size), H5.out.2.trans (hb6.mono H5.out.2.size)⟩
    clear K6 hb6 H5
    have K7 := show Hid (Calls Tryz.prog 16 #[.pointer (some ⟨C, 0, none⟩)] w6 fun e w' => e = .returned (.slice (some ⟨w6.heap.size, 0, none⟩) t.length t.length) ∧ w'.cell? ⟨w6.heap.size, j, none⟩ = some (.int .i64 (Ms.depthV t j)) ∧ Below w6.heap.size w6 w') from (rdepths_any w6 (HT.out w6 H6.out.2).tr).mono fun e w' ⟨he, hv, hb⟩ => ⟨he, hv.cell hj, hb⟩
    go_wp2_with fail
    refine K7.out.mono ?_
    rintro e w7 ⟨rfl, hcj7, hb7⟩
    have H7 := show Hid (Below w.heap.size w w7 ∧ Below w1.heap.size w1 w7) from ⟨H6.out.1.trans (hb7.mono H6.out.1.size), H6.out.2.trans (hb7.mono H6.out.2.size)⟩
    clear K7 hb7 H6
    have K8 := show Hid (Calls Tryz.prog 17 #[.pointer (some ⟨C, 0, none⟩)] w7 fun e w' => e = .returned (.slice (some ⟨w7.heap.size, 0, none⟩) t.length t.length) ∧ w'.cell? ⟨w7.heap.size, j, none⟩ = some (.int .i64 (Ms.weightV t j)) ∧ Below w7.heap.size w7 w') from (rweights_any w7 (HT.out w7 H7.out.2).tr).mono fun e w' ⟨he, hv, hb⟩ => ⟨he, hv.cell hj, hb⟩
    go_wp2_with fail
    refine K8.out.mono ?_
    rintro e w8 ⟨rfl, hcj8, hb8⟩
    have H8 := show Hid (Below w.heap.size w w8 ∧ Below w1.heap.size w1 w8) from ⟨H7.out.1.trans (hb8.mono H7.out.1.size), H7.out.2.trans (hb8.mono H7.out.2.size)⟩
    clear K8 hb8 H7
    have K9 := show Hid (Calls Tryz.prog 18 #[.pointer (some ⟨C, 0, none⟩)] w8 fun e w' => e = .returned (.slice (some ⟨w8.heap.size, 0, none⟩) t.length t.length) ∧ w'.cell? ⟨w8.heap.size, j, none⟩ = some (.int .i64 (Ms.gradeV t j)) ∧ Below w8.heap.size w8 w') from (rgrades_any w8 (HT.out w8 H8.out.2).tr).mono fun e w' ⟨he, hv, hb⟩ => ⟨he, hv.cell hj, hb⟩
    go_wp2_with fail
    refine K9.out.mono ?_
    rintro e w9 ⟨rfl, hcj9, hb9⟩
    have H9 := show Hid (Below w.heap.size w w9 ∧ Below w1.heap.size w1 w9) from ⟨H8.out.1.trans (hb9.mono H8.out.1.size), H8.out.2.trans (hb9.mono H8.out.2.size)⟩
    clear K9 hb9 H8
    have K10 := show Hid (Calls Tryz.prog 19 #[.pointer (some ⟨B, 0, none⟩), .pointer (some ⟨C, 0, none⟩)] w9 fun e w' => e = .returned (.bool true) ∧ Below w9.heap.size w9 w') from lsame_any w w9 (HT.out w9 H9.out.2)
    go_wp2_with (go_at_call 13; refine (KN.out _ _).mono ?_; rintro e w' ⟨rfl, rfl⟩)
    refine K10.out.mono ?_
    rintro e w10 ⟨rfl, hb10⟩
    have H10 := show Hid (Below w.heap.size w w10) from H9.out.1.trans (hb10.mono H9.out.1.size)
    clear K10 hb10 H9
    go_wp2_with fail
    refine (KH.out _).mono ?_
    rintro e w11 ⟨rfl, hb11⟩
    have H11 := show Hid (Below w.heap.size w w11) from H10.out.trans (hb11.mono H10.out.size)
    clear hb11 H10
    go_wp2_with fail
    go_ret
    exact ⟨rfl, H11.out⟩
  · have ew : ∀ f : Nat → Int, cntR t f x = (0, 31) := fun f => by unfold cntR; rw [if_neg hh]
    have hhf : Fm.has t x = false := by simpa using hh
    rw [ew, ew, ew, ew]
    rw [hhf] at KHS
    clear ew
    go_wp2_with fail
    refine KHS.out.mono ?_
    rintro e w' ⟨rfl, hw'⟩
    subst w'
    go_wp2_with (go_at_call 13; refine (KN.out _ _).mono ?_; rintro e w' ⟨rfl, rfl⟩)
    refine (KH.out _).mono ?_
    rintro e w8 ⟨rfl, hb8⟩
    have HB8 := show Hid (Below w.heap.size w w8) from H5.out.1.trans (hb8.mono H5.out.1.size)
    clear hb8
    go_wp2_with fail
    go_ret
    exact ⟨rfl, HB8.out⟩
end Go.Proofs.YthdcppkohalkmaaGreat
