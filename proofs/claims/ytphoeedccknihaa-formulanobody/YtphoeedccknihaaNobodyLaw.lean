/-
  The law FormulaNobody, as the program walks it: true for every number and every row that a machine can hold.
-/
import Derived.Test.YtphoeedccknihaaFNone
namespace Go.Proofs.Ytphoeedccknihaa
open Go.RowKit Go.Maps
open Fm (Nd)

set_option maxRecDepth 100000 in
set_option maxHeartbeats 8000000 in
theorem nobody_any (w : World) (pv : Value) (h : Nob w pv) (i : Int) (n : Nd) :
    Calls Try.prog 22 #[pv, .int .i64 i, ndV n] w fun e w' => e = .returned (.bool true) ∧ Below w.heap.size w w' := by
  have HN := show Hid (∀ w', Below w.heap.size w w' → Nob w' pv) from fun w' hb => h.later hb
  have K1 := show Hid (∀ w', Below w.heap.size w w' → Calls Try.prog 18 #[pv, .string ⟨#[112]⟩] w' fun e w'' => e = .returned (.tuple #[.int .i64 0, .int .i64 1]) ∧ Below w'.heap.size w' w'') from fun w' hb => atom_none w' (h.later hb) _
  have K2 := show Hid (∀ w', Below w.heap.size w w' → Calls Try.prog 24 #[pv] w' fun e w'' => e = .returned (.tuple #[.int .i64 0, .int .i64 1]) ∧ Below w'.heap.size w' w'') from fun w' hb => bot_none w' (h.later hb)
  have K3 := show Hid (∀ w', Below w.heap.size w w' → Calls Try.prog 26 #[pv, .int .i64 i, .int .i64 i] w' fun e w'' => e = .returned (.tuple #[.int .i64 0, .int .i64 1]) ∧ Below w'.heap.size w' w'') from fun w' hb => and_none w' (h.later hb) i i
  have K4 := show Hid (∀ w', Below w.heap.size w w' → Calls Try.prog 28 #[pv, .int .i64 i, .int .i64 i] w' fun e w'' => e = .returned (.tuple #[.int .i64 0, .int .i64 1]) ∧ Below w'.heap.size w' w'') from fun w' hb => or_none w' (h.later hb) i i
  have K5 := show Hid (∀ w', Below w.heap.size w w' → Calls Try.prog 29 #[pv, .int .i64 i, .int .i64 i] w' fun e w'' => e = .returned (.tuple #[.int .i64 0, .int .i64 1]) ∧ Below w'.heap.size w' w'') from fun w' hb => imp_none w' (h.later hb) i i
  have K6 := show Hid (∀ w', Below w.heap.size w w' → Calls Try.prog 31 #[pv, .int .i64 i] w' fun e w'' => e = .returned (.tuple #[.int .i64 0, .int .i64 1]) ∧ w'' = w') from fun w' hb => not_none w' (h.later hb) i
  have K7 := show Hid (∀ w', Below w.heap.size w w' → Calls Try.prog 33 #[pv, .agg #[.int .i64 n.k, .string n.s, .int .i64 n.l, .int .i64 n.r]] w' fun e w'' => e = .returned (.tuple #[.int .i64 0, .int .i64 1]) ∧ Below w'.heap.size w' w'') from fun w' hb => put_none w' (h.later hb) n
  have K8 := show Hid (∀ w', Below w.heap.size w w' → Calls Try.prog 36 #[pv, .int .i64 0] w' fun e w'' => e = .returned (.int .i64 1) ∧ w'' = w') from fun w' hb => cut_none0 w' (h.later hb) 0
  have K9 := show Hid (∀ w', Below w.heap.size w w' → Calls Try.prog 38 #[pv, .int .i64 i] w' fun e w'' => e = .returned (.tuple #[.agg #[.int .i64 0, .string ⟨#[]⟩, .int .i64 0, .int .i64 0], .bool false]) ∧ Below w'.heap.size w' w'') from fun w' hb => node_none w' (h.later hb) i
  have K10 := show Hid (∀ w', Below w.heap.size w w' → Calls Try.prog 21 #[pv, .agg #[.int .i64 n.k, .string n.s, .int .i64 n.l, .int .i64 n.r]] w' fun e w'' => e = .returned (.tuple #[.int .i64 0, .bool false]) ∧ Below w'.heap.size w' w'') from fun w' hb => find_none w' (h.later hb) n
  have K11 := show Hid (∀ w', Below w.heap.size w w' → Calls Try.prog 41 #[pv, .int .i64 i] w' fun e w'' => e = .returned (.tuple #[.slice none 0 0, .int .i64 1]) ∧ w'' = w') from fun w' hb => below_none w' (h.later hb) i
  have K12 := show Hid (∀ w', Below w.heap.size w w' → Calls Try.prog 44 #[pv] w' fun e w'' => e = .returned (.int .i64 0) ∧ w'' = w') from fun w' hb => len_none w' (h.later hb)
  have K13 := show Hid (∀ w', Below w.heap.size w w' → Calls Try.prog 12 #[pv] w' fun e w'' => e = .returned (.slice none 0 0) ∧ w'' = w') from fun w' hb => rows_none w' (h.later hb)
  have K14 := show Hid (∀ w', Below w.heap.size w w' → Calls Try.prog 35 #[pv] w' fun e w'' => e = .returned (.pointer none) ∧ w'' = w') from fun w' hb => copy_none w' (h.later hb)
  obtain ⟨w0, hw0⟩ : ∃ w0, w0 = w.alloc (Obj.cells #[.int .i64 n.k, .string n.s, .int .i64 n.l, .int .i64 n.r] 34) := ⟨_, rfl⟩
  have HB := show Hid (Below w.heap.size w w0) from by rw [hw0]; exact below_alloc w _
  have HR := show Hid (N4 w0 w.heap.size n) from by rw [hw0]; exact heap_alloc_new w _
  have HLT := show Hid (w.heap.size < w0.heap.size) from lt_of_block HR.out
  unfold ndV
  obtain ⟨nk, ns, nl, nr⟩ := n
  simp only at K7 K10 hw0 ⊢
  clear h
  go_enter Try.func22, Try.ntmps22
  go_wp2_with fail
  rw [← hw0]
  clear hw0
  refine (K1.out _ HB.out).mono ?_
  rintro e w1 ⟨rfl, hb1⟩
  have HB1 := show Hid (Below w.heap.size w w1 ∧ Below w0.heap.size w0 w1) from ⟨HB.out.trans (hb1.mono HB.out.size), hb1⟩
  clear hb1
  go_wp2_with fail
  refine (K2.out _ HB1.out.1).mono ?_
  rintro e w2 ⟨rfl, hb2⟩
  have HB2 := show Hid (Below w.heap.size w w2 ∧ Below w0.heap.size w0 w2) from ⟨HB1.out.1.trans (hb2.mono HB1.out.1.size), HB1.out.2.trans (hb2.mono HB1.out.2.size)⟩
  clear hb2 HB1
  go_wp2_with fail
  refine (K3.out _ HB2.out.1).mono ?_
  rintro e w3 ⟨rfl, hb3⟩
  have HB3 := show Hid (Below w.heap.size w w3 ∧ Below w0.heap.size w0 w3) from ⟨HB2.out.1.trans (hb3.mono HB2.out.1.size), HB2.out.2.trans (hb3.mono HB2.out.2.size)⟩
  clear hb3 HB2
  go_wp2_with fail
  refine (K4.out _ HB3.out.1).mono ?_
  rintro e w4 ⟨rfl, hb4⟩
  have HB4 := show Hid (Below w.heap.size w w4 ∧ Below w0.heap.size w0 w4) from ⟨HB3.out.1.trans (hb4.mono HB3.out.1.size), HB3.out.2.trans (hb4.mono HB3.out.2.size)⟩
  clear hb4 HB3
  go_wp2_with fail
  refine (K5.out _ HB4.out.1).mono ?_
  rintro e w5 ⟨rfl, hb5⟩
  have HB5 := show Hid (Below w.heap.size w w5 ∧ Below w0.heap.size w0 w5) from ⟨HB4.out.1.trans (hb5.mono HB4.out.1.size), HB4.out.2.trans (hb5.mono HB4.out.2.size)⟩
  clear hb5 HB4
  go_wp2_with fail
  refine (K6.out _ HB5.out.1).mono ?_
  rintro e w6 ⟨rfl, hw⟩
  subst w6
  have HR5 := show Hid (N4 w5 w.heap.size ⟨nk, ns, nl, nr⟩) from (HB5.out.2.block _ HLT.out).trans HR.out
  have d0 := HR5.out.c0; have d1 := HR5.out.c1; have d2 := HR5.out.c2; have d3 := HR5.out.c3
  simp only at d0 d1 d2 d3
  go_wp2_with fail
  refine (K7.out _ HB5.out.1).mono ?_
  rintro e w7 ⟨rfl, hb7⟩
  have HB7 := show Hid (Below w.heap.size w w7 ∧ Below w0.heap.size w0 w7) from ⟨HB5.out.1.trans (hb7.mono HB5.out.1.size), HB5.out.2.trans (hb7.mono HB5.out.2.size)⟩
  clear hb7 HB5 d0 d1 d2 d3 HR5
  go_wp2_with fail
  refine (K8.out _ HB7.out.1).mono ?_
  rintro e w8 ⟨rfl, hw⟩
  subst w8
  go_wp2_with fail
  refine (K9.out _ HB7.out.1).mono ?_
  rintro e w9 ⟨rfl, hb9⟩
  have HB9 := show Hid (Below w.heap.size w w9 ∧ Below w0.heap.size w0 w9) from ⟨HB7.out.1.trans (hb9.mono HB7.out.1.size), HB7.out.2.trans (hb9.mono HB7.out.2.size)⟩
  clear hb9 HB7
  have HR9 := show Hid (N4 w9 w.heap.size ⟨nk, ns, nl, nr⟩) from (HB9.out.2.block _ HLT.out).trans HR.out
  have d0 : ∀ o, (w9.alloc o).cell? ⟨w.heap.size, 0, none⟩ = some (.int .i64 nk) := fun o => (HR9.out.alloc o).c0
  have d1 : ∀ o, (w9.alloc o).cell? ⟨w.heap.size, 1, none⟩ = some (.string ns) := fun o => (HR9.out.alloc o).c1
  have d2 : ∀ o, (w9.alloc o).cell? ⟨w.heap.size, 2, none⟩ = some (.int .i64 nl) := fun o => (HR9.out.alloc o).c2
  have d3 : ∀ o, (w9.alloc o).cell? ⟨w.heap.size, 3, none⟩ = some (.int .i64 nr) := fun o => (HR9.out.alloc o).c3
  have HBA := show Hid (∀ o, Below w.heap.size w (w9.alloc o)) from fun o => HB9.out.1.alloc HB9.out.1.size o
  go_wp2_with fail
  refine (K10.out _ (HBA.out _)).mono ?_
  rintro e w10 ⟨rfl, hb10⟩
  have HZ := show Hid (N4 w10 w9.heap.size Fm.z) from (hb10.block _ (by simp)).trans (heap_alloc_new _ _)
  have HB10 := show Hid (Below w.heap.size w w10) from (HBA.out _).trans (hb10.mono (HBA.out _).size)
  clear hb10 HBA d0 d1 d2 d3 HR9 HB9
  go_wp2_with fail
  refine (K11.out _ HB10.out).mono ?_
  rintro e w11 ⟨rfl, hw⟩
  subst w11
  have z0 := HZ.out.c0; have z1 := HZ.out.c1; have z2 := HZ.out.c2; have z3 := HZ.out.c3
  simp only [Fm.z] at z0 z1 z2 z3
  go_wp2_with fail
  refine (K12.out _ HB10.out).mono ?_
  rintro e w12 ⟨rfl, hw⟩
  subst w12
  go_wp2_with fail
  refine (K13.out _ HB10.out).mono ?_
  rintro e w13 ⟨rfl, hw⟩
  subst w13
  go_wp2_with fail
  refine (K14.out _ HB10.out).mono ?_
  rintro e w14 ⟨rfl, hw⟩
  subst w14
  go_wp2_with fail
  go_ret
  exact ⟨rfl, HB10.out⟩
set_option maxRecDepth 100000 in
set_option maxHeartbeats 2000000 in
theorem formulaNobody_any (w : World) (i : Int) (n : Nd) :
    Calls Try.prog 7 #[.int .i64 i, ndV n] w fun e w' => e = .returned (.bool true) ∧ Below w.heap.size w w' := by
  have KH := show Hid (∀ w' : World, Calls Try.prog 15 #[] w' fun e w'' => e = .returned (.bool true) ∧ Below w'.heap.size w' w'') from fun w' => heads_any w'
  have KN := show Hid (∀ (w' : World) (pv : Value), Nob w' pv → Calls Try.prog 22 #[pv, .int .i64 i, .agg #[.int .i64 n.k, .string n.s, .int .i64 n.l, .int .i64 n.r]] w' fun e w'' => e = .returned (.bool true) ∧ Below w'.heap.size w' w'') from fun w' pv h => nobody_any w' pv h i n
  obtain ⟨w0, hw0⟩ : ∃ w0, w0 = w.alloc (Obj.cells #[.int .i64 n.k, .string n.s, .int .i64 n.l, .int .i64 n.r] 34) := ⟨_, rfl⟩
  have HB := show Hid (Below w.heap.size w w0) from by rw [hw0]; exact below_alloc w _
  have HR := show Hid (N4 w0 w.heap.size n) from by rw [hw0]; exact heap_alloc_new w _
  have HLT := show Hid (w.heap.size < w0.heap.size) from lt_of_block HR.out
  unfold ndV
  obtain ⟨nk, ns, nl, nr⟩ := n
  simp only at KN hw0 ⊢
  go_enter Try.func7, Try.ntmps7
  go_wp2_with fail
  rw [← hw0]
  clear hw0
  refine (KN.out _ _ (nob_nil _)).mono ?_
  rintro e w1 ⟨rfl, hb1⟩
  have HB1 := show Hid (Below w.heap.size w w1) from HB.out.trans (hb1.mono HB.out.size)
  have HR1 := show Hid (N4 w1 w.heap.size ⟨nk, ns, nl, nr⟩) from (hb1.block _ HLT.out).trans HR.out
  clear hb1
  have d0 : ∀ o, (w1.alloc o).cell? ⟨w.heap.size, 0, none⟩ = some (.int .i64 nk) := fun o => (HR1.out.alloc o).c0
  have d1 : ∀ o, (w1.alloc o).cell? ⟨w.heap.size, 1, none⟩ = some (.string ns) := fun o => (HR1.out.alloc o).c1
  have d2 : ∀ o, (w1.alloc o).cell? ⟨w.heap.size, 2, none⟩ = some (.int .i64 nl) := fun o => (HR1.out.alloc o).c2
  have d3 : ∀ o, (w1.alloc o).cell? ⟨w.heap.size, 3, none⟩ = some (.int .i64 nr) := fun o => (HR1.out.alloc o).c3
  go_wp2_with fail
  refine (KN.out _ _ (nob_zero _ _ (heap_alloc_new _ _))).mono ?_
  rintro e w2 ⟨rfl, hb2⟩
  have HB2 := show Hid (Below w.heap.size w w2) from (HB1.out.alloc HB1.out.size _).trans (hb2.mono (by have := HB1.out.size; simp; omega))
  clear hb2 d0 d1 d2 d3
  go_wp2_with fail
  refine (KH.out _).mono ?_
  rintro e w3 ⟨rfl, hb3⟩
  have HB3 := show Hid (Below w.heap.size w w3) from HB2.out.trans (hb3.mono HB2.out.size)
  clear hb3
  go_wp2_with fail
  go_ret
  exact ⟨rfl, HB3.out⟩
end Go.Proofs.Ytphoeedccknihaa
