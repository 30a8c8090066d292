/-
  What must come at any rate (alive): it answers true, wherever the tables stand as the program's text lays them; what was in memory stays.
-/
import Derived.Test.YtgcoalcfhflfiaaDoorTJoin
namespace Go.Proofs.YtgcoalcfhflfiaaDoor
open Go.RowKit Go.Sort

theorem own_cells {w : World} {B n : Nat} {v : Value} {xs : List Value} (h : w.ownsRow B 37 6 v n xs) (hn : 0 < n) : ∃ g cap, v = .slice (some ⟨g, 0, none⟩) n cap ∧ n ≤ cap ∧ cap ≤ 9223372036854775807 ∧ g < w.heap.size ∧ ∀ j, j < n * 6 → w.cell? ⟨g, j, none⟩ = xs[j]? := by
  rcases h.2 with ⟨_, h0⟩ | ⟨g, cap, cur, rfl, hg, hh, h1, h2, h3, h4⟩
  · omega
  · refine ⟨g, cap, rfl, h1, by unfold maxLen at h2; omega, lt_of_block hh, fun j hj => ?_⟩
    rw [cell_of_row w g j cur _ _ hh, ← h4, List.getElem?_take, if_pos hj]
    simp
def sA : List UInt8 := [112, 32, 45, 62, 32, 40, 113, 49, 41, 32, 35, 32, 120]
def sB : List UInt8 := [97, 10, 32, 48, 48, 55]
def sC : List UInt8 := [194, 172, 112, 226, 136, 168, 226, 138, 165]
theorem scanA : Tk.scan sA = ([((1, [112], 0), 0), ((3, [45, 62], 0), 2), ((3, [40], 0), 5), ((1, [113, 49], 0), 6), ((3, [41], 0), 8), ((0, [], 0), 13)], 0, 0) := by decide +kernel
theorem scanB : Tk.scan sB = ([], 21, 3) := by decide +kernel
theorem spotB : Tk.spot sB 3 = (2, 2) := by decide +kernel
theorem scanC : Tk.scan sC = ([((3, [126], 0), 0), ((1, [112], 0), 2), ((3, [124], 0), 3), ((1, [102, 97, 108, 115, 101], 0), 6), ((0, [], 0), 9)], 0, 0) := by decide +kernel
theorem joinA : jn [(1, [97], 0), (3, [45, 62], 0), (2, [], 7)] = ([97, 32, 45, 62, 32, 55], 0) := by decide +kernel
theorem nameA : isName [113, 95, 49, 39] = true := by decide +kernel
theorem nameB : isName [49, 113] = false := by decide +kernel
theorem spotD : Tk.spot [97, 195, 169, 10, 98] 4 = (2, 1) := by decide +kernel
def litA : ByteArray := ⟨#[112, 32, 45, 62, 32, 40, 113, 49, 41, 32, 35, 32, 120]⟩
def litB : ByteArray := ⟨#[97, 10, 32, 48, 48, 55]⟩
def litC : ByteArray := ⟨#[194, 172, 112, 226, 136, 168, 226, 138, 165]⟩
theorem callA (w : World) (hL : Laid w) : Calls Tryd.prog 14 #[.string litA] w fun e w' => (∃ g cap, e = .returned (.tuple #[.slice (some ⟨g, 0, none⟩) 6 cap, .agg #[.int .i64 0, .int .i64 0, .int .i64 0, .int .i64 0]]) ∧ 6 ≤ cap ∧ g < w'.heap.size ∧ w'.cell? ⟨g, 7, none⟩ = some (.string ⟨#[45, 62]⟩) ∧ w'.cell? ⟨g, 19, none⟩ = some (.string ⟨#[113, 49]⟩) ∧ w'.cell? ⟨g, 23, none⟩ = some (.int .i64 6) ∧ w'.cell? ⟨g, 30, none⟩ = some (.int .i64 0)) ∧ Below w.heap.size w w' := by
  refine (scan_any w litA (by decide) hL).mono ?_
  rintro e w' ⟨⟨v, rfl, hown⟩, hb⟩
  refine ⟨?_, hb⟩
  rw [show litA.data.toList = sA from rfl, scanA] at hown ⊢
  obtain ⟨g, cap, rfl, h1, _, h2, h3⟩ := own_cells hown (by decide)
  exact ⟨g, cap, rfl, h1, h2, h3 7 (by decide), h3 19 (by decide), h3 23 (by decide), h3 30 (by decide)⟩
theorem callB (w : World) (hL : Laid w) : Calls Tryd.prog 14 #[.string litB] w fun e w' => (∃ v, e = .returned (.tuple #[v, .agg #[.int .i64 21, .int .i64 2, .int .i64 2, .int .i64 3]])) ∧ Below w.heap.size w w' := by
  refine (scan_any w litB (by decide) hL).mono ?_
  rintro e w' ⟨⟨v, rfl, hown⟩, hb⟩
  refine ⟨⟨v, ?_⟩, hb⟩
  rw [show litB.data.toList = sB from rfl, scanB]
  unfold fltV
  rw [if_neg (by decide), spotB]
  rfl
theorem callC (w : World) (hL : Laid w) : Calls Tryd.prog 14 #[.string litC] w fun e w' => (∃ g cap, e = .returned (.tuple #[.slice (some ⟨g, 0, none⟩) 5 cap, .agg #[.int .i64 0, .int .i64 0, .int .i64 0, .int .i64 0]]) ∧ 5 ≤ cap ∧ g < w'.heap.size ∧ w'.cell? ⟨g, 1, none⟩ = some (.string ⟨#[126]⟩) ∧ w'.cell? ⟨g, 19, none⟩ = some (.string ⟨#[102, 97, 108, 115, 101]⟩) ∧ w'.cell? ⟨g, 18, none⟩ = some (.int .i64 1)) ∧ Below w.heap.size w w' := by
  refine (scan_any w litC (by decide) hL).mono ?_
  rintro e w' ⟨⟨v, rfl, hown⟩, hb⟩
  refine ⟨?_, hb⟩
  rw [show litC.data.toList = sC from rfl, scanC] at hown ⊢
  obtain ⟨g, cap, rfl, h1, _, h2, h3⟩ := own_cells hown (by decide)
  exact ⟨g, cap, rfl, h1, h2, h3 1 (by decide), h3 19 (by decide), h3 18 (by decide)⟩
def rowJ : Array Value := #[.int .i64 1, .string ⟨#[97]⟩, .int .i64 0, .int .i64 0, .int .i64 0, .int .i64 0, .int .i64 3, .string ⟨#[45, 62]⟩, .int .i64 0, .int .i64 0, .int .i64 0, .int .i64 0, .int .i64 2, .string ⟨#[]⟩, .int .i64 7, .int .i64 0, .int .i64 0, .int .i64 0]
theorem callJ (w : World) (g : Nat) (hg : g = w.heap.size) (hL : Laid w) (hP : Pows w) : Calls Tryd.prog 19 #[.slice (some ⟨g, 0, none⟩) 3 3] (w.alloc (.cells rowJ 37)) fun e w' => e = .returned (.tuple #[.string ⟨#[97, 32, 45, 62, 32, 55]⟩, .int .i64 0]) ∧ Below (w.alloc (.cells rowJ 37)).heap.size (w.alloc (.cells rowJ 37)) w' := by
  subst hg
  have hb := below_alloc w (.cells rowJ 37)
  have hc : ∀ j u, rowJ[j]? = some u → (w.alloc (.cells rowJ 37)).cell? ⟨w.heap.size, j, none⟩ = some u := fun j u hu => by rw [World.cell?_alloc_new]; exact hu
  have := join_any (w.alloc (.cells rowJ 37)) (.slice (some ⟨w.heap.size, 0, none⟩) 3 3) [⟨1, ⟨#[97]⟩, 0, 0, 0, 0⟩, ⟨3, ⟨#[45, 62]⟩, 0, 0, 0, 0⟩, ⟨2, ⟨#[]⟩, 7, 0, 0, 0⟩]
    ⟨_, _, rfl, by decide, by decide, fun _ => ⟨_, _, rfl, fun k hk => by
      match k, hk with
      | 0, _ => exact ⟨hc 0 _ rfl, hc 1 _ rfl, hc 2 _ rfl, hc 3 _ rfl, hc 4 _ rfl, hc 5 _ rfl⟩
      | 1, _ => exact ⟨hc 6 _ rfl, hc 7 _ rfl, hc 8 _ rfl, hc 9 _ rfl, hc 10 _ rfl, hc 11 _ rfl⟩
      | 2, _ => exact ⟨hc 12 _ rfl, hc 13 _ rfl, hc 14 _ rfl, hc 15 _ rfl, hc 16 _ rfl, hc 17 _ rfl⟩⟩⟩
    ⟨by decide, fun t ht => by
      simp only [List.mem_cons, List.not_mem_nil, or_false] at ht
      rcases ht with rfl | rfl | rfl <;> exact ⟨by decide, by decide, by decide⟩⟩ (hL.later hb) (hP.later hb)
  rw [show jn (List.map Rt.tok [⟨1, ⟨#[97]⟩, 0, 0, 0, 0⟩, ⟨3, ⟨#[45, 62]⟩, 0, 0, 0, 0⟩, ⟨2, ⟨#[]⟩, 7, 0, 0, 0⟩]) = ([97, 32, 45, 62, 32, 55], 0) from joinA] at this
  exact this
set_option maxHeartbeats 400000 in
theorem num_any (w : World) (x : Int) :
    Calls Tryd.prog 21 #[.int .i64 x] w fun e w' => e = .returned (.int .i64 x) ∧ w' = w := by
  go_enter Tryd.func21, Tryd.ntmps21
  go_wp2
  go_ret
  exact ⟨rfl, rfl⟩
set_option maxRecDepth 100000 in
set_option maxHeartbeats 8000000 in
theorem alive_any (w : World) (hL : Laid w) (hP : Pows w) :
    Calls Tryd.prog 13 #[] w fun e w' => e = .returned (.bool true) ∧ Below w.heap.size w w' := by
  have HL := show Hid (Laid w) from hL
  have HP := show Hid (Pows w) from hP
  clear hL hP
  have KA := show Hid (∀ w : World, Laid w → Calls Tryd.prog 14 #[.string litA] w fun e w' => (∃ g cap, e = .returned (.tuple #[.slice (some ⟨g, 0, none⟩) 6 cap, .agg #[.int .i64 0, .int .i64 0, .int .i64 0, .int .i64 0]]) ∧ 6 ≤ cap ∧ g < w'.heap.size ∧ w'.cell? ⟨g, 7, none⟩ = some (.string ⟨#[45, 62]⟩) ∧ w'.cell? ⟨g, 19, none⟩ = some (.string ⟨#[113, 49]⟩) ∧ w'.cell? ⟨g, 23, none⟩ = some (.int .i64 6) ∧ w'.cell? ⟨g, 30, none⟩ = some (.int .i64 0)) ∧ Below w.heap.size w w') from callA
  have KB := show Hid (∀ w : World, Laid w → Calls Tryd.prog 14 #[.string litB] w fun e w' => (∃ v, e = .returned (.tuple #[v, .agg #[.int .i64 21, .int .i64 2, .int .i64 2, .int .i64 3]])) ∧ Below w.heap.size w w') from callB
  have KC := show Hid (∀ w : World, Laid w → Calls Tryd.prog 14 #[.string litC] w fun e w' => (∃ g cap, e = .returned (.tuple #[.slice (some ⟨g, 0, none⟩) 5 cap, .agg #[.int .i64 0, .int .i64 0, .int .i64 0, .int .i64 0]]) ∧ 5 ≤ cap ∧ g < w'.heap.size ∧ w'.cell? ⟨g, 1, none⟩ = some (.string ⟨#[126]⟩) ∧ w'.cell? ⟨g, 19, none⟩ = some (.string ⟨#[102, 97, 108, 115, 101]⟩) ∧ w'.cell? ⟨g, 18, none⟩ = some (.int .i64 1)) ∧ Below w.heap.size w w') from callC
  have KJ := show Hid (∀ (w : World) (g : Nat), g = w.heap.size → Laid w → Pows w → Calls Tryd.prog 19 #[.slice (some ⟨g, 0, none⟩) 3 3] (w.alloc (.cells rowJ 37)) fun e w' => e = .returned (.tuple #[.string ⟨#[97, 32, 45, 62, 32, 55]⟩, .int .i64 0]) ∧ Below (w.alloc (.cells rowJ 37)).heap.size (w.alloc (.cells rowJ 37)) w') from callJ
  have KN := show Hid (∀ w : World, Laid w → Calls Tryd.prog 11 #[.string ⟨#[113, 95, 49, 39]⟩] w fun e w' => e = .returned (.bool true) ∧ Below w.heap.size w w') from fun w hL => by
    have := name_any w ⟨#[113, 95, 49, 39]⟩ (by decide) hL
    rw [show isName (⟨#[113, 95, 49, 39]⟩ : ByteArray).data.toList = true from nameA] at this
    exact this
  have KM := show Hid (∀ w : World, Laid w → Calls Tryd.prog 11 #[.string ⟨#[49, 113]⟩] w fun e w' => e = .returned (.bool false) ∧ Below w.heap.size w w') from fun w hL => by
    have := name_any w ⟨#[49, 113]⟩ (by decide) hL
    rw [show isName (⟨#[49, 113]⟩ : ByteArray).data.toList = false from nameB] at this
    exact this
  have KT := show Hid (∀ w : World, Calls Tryd.prog 9 #[.string ⟨#[97, 195, 169, 10, 98]⟩, .int .i64 4] w fun e w' => e = .returned (.agg #[.int .i64 2, .int .i64 1, .int .i64 4]) ∧ Below w.heap.size w w') from fun w => by
    have := at_any w ⟨#[97, 195, 169, 10, 98]⟩ 4 (by decide)
    rw [show atOff ⟨#[97, 195, 169, 10, 98]⟩ 4 = 4 from by decide, show Tk.spot (⟨#[97, 195, 169, 10, 98]⟩ : ByteArray).data.toList 4 = (2, 1) from spotD] at this
    exact this
  go_enter Tryd.func13, Tryd.ntmps13
  go_wp2_with fail
  refine (KA.out w HL.out).mono ?_
  rintro e w1 ⟨⟨gA, capA, rfl, hcA, hgA, a7, a19, a23, a30⟩, hb1⟩
  have HB1 := show Hid (Below w.heap.size w w1) from hb1
  have HA := show Hid (w1.cell? ⟨gA, 7, none⟩ = some (.string ⟨#[45, 62]⟩) ∧ w1.cell? ⟨gA, 19, none⟩ = some (.string ⟨#[113, 49]⟩) ∧ w1.cell? ⟨gA, 23, none⟩ = some (.int .i64 6) ∧ w1.cell? ⟨gA, 30, none⟩ = some (.int .i64 0)) from ⟨a7, a19, a23, a30⟩
  have HGA := show Hid (gA < w1.heap.size) from hgA
  clear a7 a19 a23 a30 hb1 hgA KA
  go_wp2_with fail
  have HF1 : Hid (F4 (w1.alloc flt0) w1.heap.size 0 0 0 0) := heap_alloc_new _ _
  have hba := HB1.out.trans ((below_alloc w1 flt0).mono HB1.out.size)
  refine (KB.out (w1.alloc flt0) (HL.out.later hba)).mono ?_
  rintro e w2 ⟨⟨vB, rfl⟩, hb2⟩
  have HB2 := show Hid (Below w1.heap.size w1 w2) from (below_alloc _ _).trans (hb2.mono (by simp))
  have HF2 := show Hid (F4 w2 w1.heap.size 0 0 0 0) from HF1.out.keep hb2 (by simp)
  clear hba hb2 KB HF1
  go_wp2_with fail
  have HG2 : Hid (F4 (w2.alloc (Obj.cells #[.int .i64 21, .int .i64 2, .int .i64 2, .int .i64 3] 31)) w2.heap.size 21 2 2 3) := heap_alloc_new _ _
  have hb02 := HB1.out.trans (HB2.out.mono HB1.out.size)
  have hba := hb02.trans ((below_alloc w2 (Obj.cells #[.int .i64 21, .int .i64 2, .int .i64 2, .int .i64 3] 31)).mono hb02.size)
  refine (KJ.out (w2.alloc (Obj.cells #[.int .i64 21, .int .i64 2, .int .i64 2, .int .i64 3] 31)) _ (by simp) (HL.out.later hba) (HP.out.later hba)).mono ?_
  rintro e w3 ⟨rfl, hb3⟩
  have HB3 := show Hid (Below w2.heap.size w2 w3) from (below_alloc2 _ _ _).trans (hb3.mono (by simp; omega))
  have HG3 := show Hid (F4 w3 w2.heap.size 21 2 2 3) from HG2.out.keep ((below_alloc _ _).trans (hb3.mono (by simp))) (by simp)
  have hb03 := hb02.trans (HB3.out.mono hb02.size)
  clear hba hb3 KJ HG2
  go_wp2_with fail
  refine (KC.out w3 (HL.out.later hb03)).mono ?_
  rintro e w4 ⟨⟨gC, capC, rfl, hcC, hgC, c1, c19, c18⟩, hb4⟩
  have hb14 : Below w1.heap.size w1 w4 := (HB2.out.trans (HB3.out.mono HB2.out.size)).trans (hb4.mono (Nat.le_trans HB2.out.size HB3.out.size))
  have hb24 : Below w2.heap.size w2 w4 := HB3.out.trans (hb4.mono HB3.out.size)
  have HB4 := show Hid (Below w.heap.size w w4) from hb03.trans (hb4.mono hb03.size)
  have HF4 := show Hid (F4 w4 w1.heap.size 0 0 0 0) from HF2.out.keep hb24 (lt_of_block HF2.out)
  have HG4 := show Hid (F4 w4 w2.heap.size 21 2 2 3) from HG3.out.keep hb4 (lt_of_block HG3.out)
  have a7 := cell_later hb14 HA.out.1
  have a19 := cell_later hb14 HA.out.2.1
  have a23 := cell_later hb14 HA.out.2.2.1
  have a30 := cell_later hb14 HA.out.2.2.2
  have hgA4 : gA < w4.heap.size := Nat.lt_of_lt_of_le HGA.out hb14.size
  have hw14 : w1.heap.size < w4.heap.size := lt_of_block HF4.out
  have hw24 : w2.heap.size < w4.heap.size := lt_of_block HG4.out
  have f0 := HF4.out.c0; have f1 := HF4.out.c1; have f2 := HF4.out.c2; have f3 := HF4.out.c3
  have g0 := HG4.out.c0; have g1 := HG4.out.c1; have g2 := HG4.out.c2; have g3 := HG4.out.c3
  clear hb4 hb14 hb24 hb02 hb03 KC HA HB2 HB3 HF2 HG3 HB1
  have hb5 := HB4.out.trans ((below_alloc w4 flt0).mono HB4.out.size)
  have HL5 := show Hid (Laid (w4.alloc flt0)) from HL.out.later hb5
  have HB5 := show Hid (Below w.heap.size w (w4.alloc flt0)) from hb5
  clear hb5
  have KU := show Hid (∀ w : World, Calls Tryd.prog 21 #[.int .i64 0] w fun e w' => e = .returned (.int .i64 0) ∧ w' = w) from fun w => num_any w 0
  go_wp2_with fail
  refine (KU.out _).mono ?_
  rintro e w5 ⟨rfl, rfl⟩
  go_wp2_with fail
  refine (KN.out (w4.alloc flt0) HL5.out).mono ?_
  rintro e w6 ⟨rfl, hb6⟩
  have HB6 := show Hid (Below w.heap.size w w6) from HB5.out.trans (hb6.mono HB5.out.size)
  clear hb6 KN
  go_wp2_with fail
  refine (KM.out w6 (HL.out.later HB6.out)).mono ?_
  rintro e w7 ⟨rfl, hb7⟩
  have HB7 := show Hid (Below w.heap.size w w7) from HB6.out.trans (hb7.mono HB6.out.size)
  clear hb7 KM
  go_wp2_with fail
  refine (KT.out w7).mono ?_
  rintro e w8 ⟨rfl, hb8⟩
  have HB8 := show Hid (Below w.heap.size w w8) from HB7.out.trans (hb8.mono HB7.out.size)
  clear hb8 KT
  go_wp2_with fail
  go_ret
  exact ⟨rfl, HB8.out⟩
end Go.Proofs.YtgcoalcfhflfiaaDoor
