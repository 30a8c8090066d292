/-
  BitsAlgebra: for every three sets the law answers true. The tables stand.
-/
import Derived.Test.YthkolkmcnpafiaaDoorBLaid
import Derived.Test.YthkolkmcnpafiaaDoorBAlgP
import Derived.Test.YthkolkmcnpafiaaDoorBTake
namespace Go.Proofs.YthkolkmcnpafiaaDoor
open Go.RowKit
open Bs (Ok wd)

theorem wrap_neg {x y : Int} (h : x = -y) (hy : y = -1 ∨ y = 0 ∨ y = 1) : IntKind.i64.wrap (-y) = x := by
  subst h
  rcases hy with rfl | rfl | rfl <;> decide
/-- What is held: the world below, and five sets in their variables. -/
structure AF (w : World) (a b c u m : List Nat) (g7 g8 : Nat) (wx : World) : Prop where
  below : Below w.heap.size w wx
  a : RowAt wx w.heap.size a
  b : RowAt wx (w.heap.size + 1) b
  c : RowAt wx (w.heap.size + 2) c
  u : RowAt wx g7 u
  m : RowAt wx g8 m
section
variable {w : World} {a b c u m : List Nat} {g7 g8 : Nat} {wx : World}
theorem AF.drew (h : AF w a b c u m g7 g8 wx) : AF w a b c u m g7 g8 wx.drew := ⟨h.below.drew, h.a, h.b, h.c, h.u, h.m⟩
theorem AF.later (h : AF w a b c u m g7 g8 wx) {w' : World} (hb : Below wx.heap.size wx w') : AF w a b c u m g7 g8 w' :=
  ⟨h.below.trans (hb.mono h.below.size), h.a.keep hb h.a.lt, h.b.keep hb h.b.lt, h.c.keep hb h.c.lt, h.u.keep hb h.u.lt, h.m.keep hb h.m.lt⟩
end
set_option maxRecDepth 100000 in
set_option maxHeartbeats 8000000 in
theorem algebra_any (w : World) (hT : Tabs w) {a b c : List Nat} (ha : Ok a) (hb : Ok b) (hc : Ok c) : Calls Tryd.prog 7 #[.agg (cellsB a), .agg (cellsB b), .agg (cellsB c)] w fun e w' => e = .returned (.bool true) ∧ Below w.heap.size w w' := by
  have K1 := show Hid (∀ w, Calls Tryd.prog 22 #[.agg (cellsB a), .agg (cellsB b)] w fun e w' => e = .returned (.agg (cellsB (Bs.union a b))) ∧ Below w.heap.size w w') from fun w => union_any w ha hb
  have K2 := show Hid (∀ w, Calls Tryd.prog 24 #[.agg (cellsB a), .agg (cellsB b)] w fun e w' => e = .returned (.agg (cellsB (Bs.meet a b))) ∧ Below w.heap.size w w') from fun w => meet_any w ha hb
  have K3 := show Hid (∀ w, Calls Tryd.prog 26 #[.agg (cellsB c), .agg (cellsB (Bs.union a b))] w fun e w' => e = .returned (.agg (cellsB (Bs.minus c (Bs.union a b)))) ∧ Below w.heap.size w w') from fun w => minus_any w hc (Bs.union_ok ha hb)
  have K4 := show Hid (∀ w, Calls Tryd.prog 26 #[.agg (cellsB c), .agg (cellsB a)] w fun e w' => e = .returned (.agg (cellsB (Bs.minus c a))) ∧ Below w.heap.size w w') from fun w => minus_any w hc ha
  have K5 := show Hid (∀ w, Calls Tryd.prog 26 #[.agg (cellsB c), .agg (cellsB b)] w fun e w' => e = .returned (.agg (cellsB (Bs.minus c b))) ∧ Below w.heap.size w w') from fun w => minus_any w hc hb
  have K6 := show Hid (∀ w, Calls Tryd.prog 24 #[.agg (cellsB (Bs.minus c a)), .agg (cellsB (Bs.minus c b))] w fun e w' => e = .returned (.agg (cellsB (Bs.minus c (Bs.union a b)))) ∧ Below w.heap.size w w') from fun w => by
    have := meet_any w (Bs.minus_ok hc ha) (Bs.minus_ok hc hb)
    rwa [Bs.morgan1 ha hb hc] at this
  have K7 := show Hid (∀ w, Calls Tryd.prog 26 #[.agg (cellsB c), .agg (cellsB (Bs.meet a b))] w fun e w' => e = .returned (.agg (cellsB (Bs.minus c (Bs.meet a b)))) ∧ Below w.heap.size w w') from fun w => minus_any w hc (Bs.meet_ok ha hb)
  have K8 := show Hid (∀ w, Calls Tryd.prog 22 #[.agg (cellsB (Bs.minus c a)), .agg (cellsB (Bs.minus c b))] w fun e w' => e = .returned (.agg (cellsB (Bs.minus c (Bs.meet a b)))) ∧ Below w.heap.size w w') from fun w => by
    have := union_any w (Bs.minus_ok hc ha) (Bs.minus_ok hc hb)
    rwa [Bs.morgan2 ha hb hc] at this
  have K9 := show Hid (∀ w, Calls Tryd.prog 22 #[.agg (cellsB b), .agg (cellsB c)] w fun e w' => e = .returned (.agg (cellsB (Bs.union b c))) ∧ Below w.heap.size w w') from fun w => union_any w hb hc
  have K10 := show Hid (∀ w, Calls Tryd.prog 24 #[.agg (cellsB a), .agg (cellsB (Bs.union b c))] w fun e w' => e = .returned (.agg (cellsB (Bs.meet a (Bs.union b c)))) ∧ Below w.heap.size w w') from fun w => meet_any w ha (Bs.union_ok hb hc)
  have K11 := show Hid (∀ w, Calls Tryd.prog 24 #[.agg (cellsB a), .agg (cellsB c)] w fun e w' => e = .returned (.agg (cellsB (Bs.meet a c))) ∧ Below w.heap.size w w') from fun w => meet_any w ha hc
  have K12 := show Hid (∀ w, Calls Tryd.prog 22 #[.agg (cellsB (Bs.meet a b)), .agg (cellsB (Bs.meet a c))] w fun e w' => e = .returned (.agg (cellsB (Bs.meet a (Bs.union b c)))) ∧ Below w.heap.size w w') from fun w => by
    have := union_any w (Bs.meet_ok ha hb) (Bs.meet_ok ha hc)
    rwa [Bs.distrib ha hb hc] at this
  have K13 := show Hid (∀ w, Calls Tryd.prog 28 #[.agg (cellsB (Bs.meet a b)), .agg (cellsB a)] w fun e w' => e = .returned (.bool true) ∧ Below w.heap.size w w') from fun w => by
    have := sub_any w (Bs.meet_ok ha hb) ha
    rwa [Bs.sub_low ha hb] at this
  have K14 := show Hid (∀ w, Calls Tryd.prog 28 #[.agg (cellsB a), .agg (cellsB (Bs.union a b))] w fun e w' => e = .returned (.bool true) ∧ Below w.heap.size w w') from fun w => by
    have := sub_any w ha (Bs.union_ok ha hb)
    rwa [Bs.sub_up ha hb] at this
  have K15 := show Hid (∀ w, Calls Tryd.prog 30 #[.agg (cellsB (Bs.union a b))] w fun e w' => e = .returned (.int .i64 ((Bs.count (Bs.union a b) 16 : Nat) : Int)) ∧ Below w.heap.size w w') from fun w => (count_any w (Bs.union_ok ha hb)).mono fun _ _ h => ⟨h.1, by rw [h.2]; exact below_alloc _ _⟩
  have K16 := show Hid (∀ w, Calls Tryd.prog 30 #[.agg (cellsB (Bs.meet a b))] w fun e w' => e = .returned (.int .i64 ((Bs.count (Bs.meet a b) 16 : Nat) : Int)) ∧ Below w.heap.size w w') from fun w => (count_any w (Bs.meet_ok ha hb)).mono fun _ _ h => ⟨h.1, by rw [h.2]; exact below_alloc _ _⟩
  have K17 := show Hid (∀ w, Calls Tryd.prog 30 #[.agg (cellsB a)] w fun e w' => e = .returned (.int .i64 ((Bs.count a 16 : Nat) : Int)) ∧ Below w.heap.size w w') from fun w => (count_any w (ha)).mono fun _ _ h => ⟨h.1, by rw [h.2]; exact below_alloc _ _⟩
  have K18 := show Hid (∀ w, Calls Tryd.prog 30 #[.agg (cellsB b)] w fun e w' => e = .returned (.int .i64 ((Bs.count b 16 : Nat) : Int)) ∧ Below w.heap.size w w') from fun w => (count_any w (hb)).mono fun _ _ h => ⟨h.1, by rw [h.2]; exact below_alloc _ _⟩
  have K19 := show Hid (∀ w, Calls Tryd.prog 28 #[.agg (cellsB a), .agg (cellsB b)] w fun e w' => e = .returned (.bool (decide ((Bs.meet a b) = a))) ∧ Below w.heap.size w w') from fun w => by
    have := sub_any w ha hb
    rwa [Bs.sub_meet ha hb] at this
  have K20 := show Hid (∀ w, Calls Tryd.prog 31 #[.agg (cellsB a), .agg (cellsB b)] w fun e w' => e = .returned (.int .i64 (Bs.cmp a b)) ∧ Below w.heap.size w w') from fun w => cmp_any w ha hb
  have K21 := show Hid (∀ w, Calls Tryd.prog 31 #[.agg (cellsB b), .agg (cellsB a)] w fun e w' => e = .returned (.int .i64 (Bs.cmp b a)) ∧ Below w.heap.size w w') from fun w => cmp_any w hb ha
  have K22 := show Hid (∀ w, Calls Tryd.prog 31 #[.agg (cellsB b), .agg (cellsB c)] w fun e w' => e = .returned (.int .i64 (Bs.cmp b c)) ∧ Below w.heap.size w w') from fun w => cmp_any w hb hc
  have K23 := show Hid (∀ w, Calls Tryd.prog 31 #[.agg (cellsB a), .agg (cellsB c)] w fun e w' => e = .returned (.int .i64 (Bs.cmp a c)) ∧ Below w.heap.size w w') from fun w => cmp_any w ha hc
  have KH := show Hid (∀ w', Below w.heap.size w w' → Calls Tryd.prog 19 #[] w' fun e w'' => e = .returned (.bool true) ∧ Below w'.heap.size w' w'') from fun w' hb' => heads_any w' (hT.later hb')
  have HCN := show Hid (Bs.count (Bs.union a b) 16 + Bs.count (Bs.meet a b) 16 = Bs.count a 16 + Bs.count b 16 ∧ Bs.count (Bs.union a b) 16 ≤ 1024 ∧ Bs.count (Bs.meet a b) 16 ≤ 1024 ∧ Bs.count a 16 ≤ 1024 ∧ Bs.count b 16 ≤ 1024) from ⟨Bs.count_two ha hb 16 (by omega), count_le (Bs.union_ok ha hb).1 16 (by omega), count_le (Bs.meet_ok ha hb).1 16 (by omega), count_le ha.1 16 (by omega), count_le hb.1 16 (by omega)⟩
  have HCT := show Hid (Bs.cmp a b = -Bs.cmp b a ∧ (Bs.cmp b a = -1 ∨ Bs.cmp b a = 0 ∨ Bs.cmp b a = 1) ∧ (Bs.cmp a b == 0) = decide (a = b) ∧ (Bs.cmp a b < 0 → Bs.cmp b c < 0 → Bs.cmp a c < 0)) from ⟨Bs.cmp_turn ha hb, Bs.cmp_range b a, Bs.cmp_zero ha hb, Bs.cmp_trans ha hb hc⟩
  have HLa := show Hid (a.length = 16) from ha.1
  have HLb := show Hid (b.length = 16) from hb.1
  have HLc := show Hid (c.length = 16) from hc.1
  have HLu := show Hid ((Bs.union a b).length = 16) from (Bs.union_ok ha hb).1
  have HLm := show Hid ((Bs.meet a b).length = 16) from (Bs.meet_ok ha hb).1
  have HLcu := show Hid ((Bs.minus c (Bs.union a b)).length = 16) from (Bs.minus_ok hc (Bs.union_ok ha hb)).1
  have HLcm := show Hid ((Bs.minus c (Bs.meet a b)).length = 16) from (Bs.minus_ok hc (Bs.meet_ok ha hb)).1
  have HLabc := show Hid ((Bs.meet a (Bs.union b c)).length = 16) from (Bs.meet_ok ha (Bs.union_ok hb hc)).1
  have H0 := show Hid (RowAt (((w.alloc (.cells (cellsB a) 25)).alloc (.cells (cellsB b) 25)).alloc (.cells (cellsB c) 25)) w.heap.size a ∧ RowAt (((w.alloc (.cells (cellsB a) 25)).alloc (.cells (cellsB b) 25)).alloc (.cells (cellsB c) 25)) (w.heap.size + 1) b ∧ RowAt (((w.alloc (.cells (cellsB a) 25)).alloc (.cells (cellsB b) 25)).alloc (.cells (cellsB c) 25)) (w.heap.size + 2) c) from heap_three w _ _ _
  clear ha hb hc hT
  generalize Bs.minus c (Bs.union a b) = cu at *
  generalize Bs.minus c (Bs.meet a b) = cm at *
  generalize Bs.meet a (Bs.union b c) = abc at *
  generalize Bs.union b c = bc at *
  generalize Bs.meet a c = ac at *
  generalize Bs.minus c a = ca at *
  generalize Bs.minus c b = cb at *
  generalize Bs.union a b = u at *
  generalize Bs.meet a b = m at *
  generalize Bs.count u 16 = nu at *
  generalize Bs.count m 16 = nm at *
  generalize Bs.count a 16 = na at *
  generalize Bs.count b 16 = nb at *
  generalize Bs.cmp a b = xab at *
  generalize Bs.cmp b a = xba at *
  generalize Bs.cmp b c = xbc at *
  generalize Bs.cmp a c = xac at *
  go_enter Tryd.func7, Tryd.ntmps7
  go_wp2_with (first | (refine wpList_ld _ _ rfl _ rfl (r := a) H0.out.1 HLa.out rfl ?_) | (refine wpList_ld _ _ rfl _ rfl (r := b) H0.out.2.1 HLb.out rfl ?_))
  refine (K1.out _).mono ?_
  rintro e w1 ⟨rfl, hb1⟩
  have H1 := show Hid (((Below w.heap.size w w1 ∧ RowAt w1 w.heap.size a) ∧ RowAt w1 (w.heap.size + 1) b) ∧ RowAt w1 (w.heap.size + 2) c) from ⟨⟨⟨(below_three w _ _ _).trans (hb1.mono (below_three w _ _ _).size), H0.out.1.keep hb1 H0.out.1.lt⟩, H0.out.2.1.keep hb1 H0.out.2.1.lt⟩, H0.out.2.2.keep hb1 H0.out.2.2.lt⟩
  have H2 := show Hid ((RowAt (w1.alloc (.cells (cellsB u) 25)) w.heap.size a ∧ RowAt (w1.alloc (.cells (cellsB u) 25)) (w.heap.size + 1) b) ∧ RowAt (w1.alloc (.cells (cellsB u) 25)) (w.heap.size + 2) c) from ⟨⟨H1.out.1.1.2.keep (below_alloc _ _) H1.out.1.1.2.lt, H1.out.1.2.keep (below_alloc _ _) H1.out.1.2.lt⟩, H1.out.2.keep (below_alloc _ _) H1.out.2.lt⟩
  clear hb1 H0 K1
  go_wp2_with (first | (refine wpList_st w1 _ _ _ rfl rfl rfl rfl rfl (r' := u) rfl HLu.out ?_) | (refine wpList_ld _ _ rfl _ rfl (r := a) H2.out.1.1 HLa.out rfl ?_) | (refine wpList_ld _ _ rfl _ rfl (r := b) H2.out.1.2 HLb.out rfl ?_))
  refine (K2.out _).mono ?_
  rintro e w2 ⟨rfl, hb2⟩
  have HW := show Hid (AF w a b c u m w1.heap.size w2.heap.size (w2.alloc (.cells (cellsB m) 25))) from by
    have q1 : Below w.heap.size w (w1.alloc (.cells (cellsB u) 25)) := H1.out.1.1.1.alloc H1.out.1.1.1.size _
    have q2 : RowAt (w1.alloc (.cells (cellsB u) 25)) w1.heap.size u := heap_alloc_last w1 _
    have p2 := below_alloc w2 (.cells (cellsB m) 25)
    have r1 := H2.out.1.1.keep hb2 H2.out.1.1.lt
    have r2 := H2.out.1.2.keep hb2 H2.out.1.2.lt
    have r3 := H2.out.2.keep hb2 H2.out.2.lt
    have r4 := q2.keep hb2 q2.lt
    exact ⟨(q1.trans (hb2.mono q1.size)).alloc (q1.trans (hb2.mono q1.size)).size _, r1.keep p2 r1.lt, r2.keep p2 r2.lt, r3.keep p2 r3.lt, r4.keep p2 r4.lt, heap_alloc_last w2 _⟩
  clear hb2 H1 H2 K2
  go_wp2_with (refine wpList_st w2 _ _ _ rfl rfl rfl rfl rfl (r' := m) rfl HLm.out ?_)
  generalize w1.heap.size = g7 at *
  generalize w2.heap.size = g8 at *
  refine wp_region_held_drew (S := fun wx => AF w a b c u m g7 g8 wx) (by kernel_rfl) (AF.drew HW.out) (fun hH => ?_)
  refine takeLoad 0 (some 21) rfl rfl (by kernel_rfl) (by kernel_rfl) (by kernel_rfl) c (fun _ _ _ h => h) rfl _ rfl _ rfl (fun _ h => h.c) HLc.out hH ?_
  simp only [Act.put, List.setIfInBounds_toArray, List.set_cons_zero, List.set_cons_succ]
  refine takeLoad 1 (some 22) rfl rfl (by kernel_rfl) (by kernel_rfl) (by kernel_rfl) u (fun _ _ _ h => h) rfl _ rfl _ rfl (fun _ h => h.u) HLu.out hH ?_
  simp only [Act.put, List.setIfInBounds_toArray, List.set_cons_zero, List.set_cons_succ]
  refine takeLoad 3 (some 24) rfl rfl (by kernel_rfl) (by kernel_rfl) (by kernel_rfl) c (fun _ _ _ h => h) rfl _ rfl _ rfl (fun _ h => h.c) HLc.out hH ?_
  simp only [Act.put, List.setIfInBounds_toArray, List.set_cons_zero, List.set_cons_succ]
  refine takeLoad 4 (some 25) rfl rfl (by kernel_rfl) (by kernel_rfl) (by kernel_rfl) a (fun _ _ _ h => h) rfl _ rfl _ rfl (fun _ h => h.a) HLa.out hH ?_
  simp only [Act.put, List.setIfInBounds_toArray, List.set_cons_zero, List.set_cons_succ]
  refine takeLoad 6 (some 27) rfl rfl (by kernel_rfl) (by kernel_rfl) (by kernel_rfl) c (fun _ _ _ h => h) rfl _ rfl _ rfl (fun _ h => h.c) HLc.out hH ?_
  simp only [Act.put, List.setIfInBounds_toArray, List.set_cons_zero, List.set_cons_succ]
  refine takeLoad 7 (some 28) rfl rfl (by kernel_rfl) (by kernel_rfl) (by kernel_rfl) b (fun _ _ _ h => h) rfl _ rfl _ rfl (fun _ h => h.b) HLb.out hH ?_
  simp only [Act.put, List.setIfInBounds_toArray, List.set_cons_zero, List.set_cons_succ]
  refine takeCall 2 (some 23) (by kernel_rfl) rfl rfl rfl 26 _ _ rfl [.agg (cellsB c), .agg (cellsB u)] rfl (fun _ _ => Tryd.call26 _ _) ?_
  refine (K3.out _).mono ?_
  rintro e wN ⟨rfl, hb⟩
  have hN := hH.later hb
  clear hH hb
  refine ⟨_, rfl, hN, fun hH => ?_⟩
  clear hN
  simp only [Act.put, List.setIfInBounds_toArray, List.set_cons_zero, List.set_cons_succ]
  refine takeCall 5 (some 26) (by kernel_rfl) rfl rfl rfl 26 _ _ rfl [.agg (cellsB c), .agg (cellsB a)] rfl (fun _ _ => Tryd.call26 _ _) ?_
  refine (K4.out _).mono ?_
  rintro e wN ⟨rfl, hb⟩
  have hN := hH.later hb
  clear hH hb
  refine ⟨_, rfl, hN, fun hH => ?_⟩
  clear hN
  simp only [Act.put, List.setIfInBounds_toArray, List.set_cons_zero, List.set_cons_succ]
  refine takeCall 8 (some 29) (by kernel_rfl) rfl rfl rfl 26 _ _ rfl [.agg (cellsB c), .agg (cellsB b)] rfl (fun _ _ => Tryd.call26 _ _) ?_
  refine (K5.out _).mono ?_
  rintro e wN ⟨rfl, hb⟩
  have hN := hH.later hb
  clear hH hb
  refine ⟨_, rfl, hN, fun hH => ?_⟩
  clear hN
  simp only [Act.put, List.setIfInBounds_toArray, List.set_cons_zero, List.set_cons_succ]
  refine takeCall 9 (some 30) (by kernel_rfl) rfl rfl rfl 24 _ _ rfl [.agg (cellsB ca), .agg (cellsB cb)] rfl (fun _ _ => Tryd.call24 _ _) ?_
  refine (K6.out _).mono ?_
  rintro e wN ⟨rfl, hb⟩
  have hN := hH.later hb
  clear hH hb
  refine ⟨_, rfl, hN, fun hH => ?_⟩
  clear hN
  simp only [Act.put, List.setIfInBounds_toArray, List.set_cons_zero, List.set_cons_succ]
  refine takeEqlT 10 (some 31) rfl rfl (by kernel_rfl) (by kernel_rfl) (by kernel_rfl) cu (fun _ _ _ h => h) rfl _ _ _ rfl rfl rfl HLcu.out hH ?_
  simp only [Act.put, List.setIfInBounds_toArray, List.set_cons_zero, List.set_cons_succ]
  refine takeVal 11 (some 9) (.bool true) rfl rfl (by kernel_rfl) (by kernel_rfl) (by kernel_rfl) (fun _ _ _ h => h) rfl (fun _ => rfl) hH ?_
  simp only [Act.put, List.setIfInBounds_toArray, List.set_cons_zero, List.set_cons_succ]
  refine wpAnyH_done (by kernel_rfl) ?_ _
  have HW := show Hid (AF w a b c u m g7 g8 _) from hH
  clear hH
  clear K3 K6
  go_wp2
  refine wp_region_held_drew (S := fun wx => AF w a b c u m g7 g8 wx) (by kernel_rfl) (AF.drew HW.out) (fun hH => ?_)
  refine takeLoad 0 (some 32) rfl rfl (by kernel_rfl) (by kernel_rfl) (by kernel_rfl) c (fun _ _ _ h => h) rfl _ rfl _ rfl (fun _ h => h.c) HLc.out hH ?_
  simp only [Act.put, List.setIfInBounds_toArray, List.set_cons_zero, List.set_cons_succ]
  refine takeLoad 1 (some 33) rfl rfl (by kernel_rfl) (by kernel_rfl) (by kernel_rfl) m (fun _ _ _ h => h) rfl _ rfl _ rfl (fun _ h => h.m) HLm.out hH ?_
  simp only [Act.put, List.setIfInBounds_toArray, List.set_cons_zero, List.set_cons_succ]
  refine takeLoad 3 (some 35) rfl rfl (by kernel_rfl) (by kernel_rfl) (by kernel_rfl) c (fun _ _ _ h => h) rfl _ rfl _ rfl (fun _ h => h.c) HLc.out hH ?_
  simp only [Act.put, List.setIfInBounds_toArray, List.set_cons_zero, List.set_cons_succ]
  refine takeLoad 4 (some 36) rfl rfl (by kernel_rfl) (by kernel_rfl) (by kernel_rfl) a (fun _ _ _ h => h) rfl _ rfl _ rfl (fun _ h => h.a) HLa.out hH ?_
  simp only [Act.put, List.setIfInBounds_toArray, List.set_cons_zero, List.set_cons_succ]
  refine takeLoad 6 (some 38) rfl rfl (by kernel_rfl) (by kernel_rfl) (by kernel_rfl) c (fun _ _ _ h => h) rfl _ rfl _ rfl (fun _ h => h.c) HLc.out hH ?_
  simp only [Act.put, List.setIfInBounds_toArray, List.set_cons_zero, List.set_cons_succ]
  refine takeLoad 7 (some 39) rfl rfl (by kernel_rfl) (by kernel_rfl) (by kernel_rfl) b (fun _ _ _ h => h) rfl _ rfl _ rfl (fun _ h => h.b) HLb.out hH ?_
  simp only [Act.put, List.setIfInBounds_toArray, List.set_cons_zero, List.set_cons_succ]
  refine takeCall 2 (some 34) (by kernel_rfl) rfl rfl rfl 26 _ _ rfl [.agg (cellsB c), .agg (cellsB m)] rfl (fun _ _ => Tryd.call26 _ _) ?_
  refine (K7.out _).mono ?_
  rintro e wN ⟨rfl, hb⟩
  have hN := hH.later hb
  clear hH hb
  refine ⟨_, rfl, hN, fun hH => ?_⟩
  clear hN
  simp only [Act.put, List.setIfInBounds_toArray, List.set_cons_zero, List.set_cons_succ]
  refine takeCall 5 (some 37) (by kernel_rfl) rfl rfl rfl 26 _ _ rfl [.agg (cellsB c), .agg (cellsB a)] rfl (fun _ _ => Tryd.call26 _ _) ?_
  refine (K4.out _).mono ?_
  rintro e wN ⟨rfl, hb⟩
  have hN := hH.later hb
  clear hH hb
  refine ⟨_, rfl, hN, fun hH => ?_⟩
  clear hN
  simp only [Act.put, List.setIfInBounds_toArray, List.set_cons_zero, List.set_cons_succ]
  refine takeCall 8 (some 40) (by kernel_rfl) rfl rfl rfl 26 _ _ rfl [.agg (cellsB c), .agg (cellsB b)] rfl (fun _ _ => Tryd.call26 _ _) ?_
  refine (K5.out _).mono ?_
  rintro e wN ⟨rfl, hb⟩
  have hN := hH.later hb
  clear hH hb
  refine ⟨_, rfl, hN, fun hH => ?_⟩
  clear hN
  simp only [Act.put, List.setIfInBounds_toArray, List.set_cons_zero, List.set_cons_succ]
  refine takeCall 9 (some 41) (by kernel_rfl) rfl rfl rfl 22 _ _ rfl [.agg (cellsB ca), .agg (cellsB cb)] rfl (fun _ _ => Tryd.call22 _ _) ?_
  refine (K8.out _).mono ?_
  rintro e wN ⟨rfl, hb⟩
  have hN := hH.later hb
  clear hH hb
  refine ⟨_, rfl, hN, fun hH => ?_⟩
  clear hN
  simp only [Act.put, List.setIfInBounds_toArray, List.set_cons_zero, List.set_cons_succ]
  refine takeEqlT 10 (some 42) rfl rfl (by kernel_rfl) (by kernel_rfl) (by kernel_rfl) cm (fun _ _ _ h => h) rfl _ _ _ rfl rfl rfl HLcm.out hH ?_
  simp only [Act.put, List.setIfInBounds_toArray, List.set_cons_zero, List.set_cons_succ]
  refine takeVal 11 (some 10) (.bool true) rfl rfl (by kernel_rfl) (by kernel_rfl) (by kernel_rfl) (fun _ _ _ h => h) rfl (fun _ => rfl) hH ?_
  simp only [Act.put, List.setIfInBounds_toArray, List.set_cons_zero, List.set_cons_succ]
  refine wpAnyH_done (by kernel_rfl) ?_ _
  have HW := show Hid (AF w a b c u m g7 g8 _) from hH
  clear hH
  clear K4 K5 K7 K8
  go_wp2
  refine wp_region_held_drew (S := fun wx => AF w a b c u m g7 g8 wx) (by kernel_rfl) (AF.drew HW.out) (fun hH => ?_)
  refine takeLoad 0 (some 43) rfl rfl (by kernel_rfl) (by kernel_rfl) (by kernel_rfl) a (fun _ _ _ h => h) rfl _ rfl _ rfl (fun _ h => h.a) HLa.out hH ?_
  simp only [Act.put, List.setIfInBounds_toArray, List.set_cons_zero, List.set_cons_succ]
  refine takeLoad 1 (some 44) rfl rfl (by kernel_rfl) (by kernel_rfl) (by kernel_rfl) b (fun _ _ _ h => h) rfl _ rfl _ rfl (fun _ h => h.b) HLb.out hH ?_
  simp only [Act.put, List.setIfInBounds_toArray, List.set_cons_zero, List.set_cons_succ]
  refine takeLoad 2 (some 45) rfl rfl (by kernel_rfl) (by kernel_rfl) (by kernel_rfl) c (fun _ _ _ h => h) rfl _ rfl _ rfl (fun _ h => h.c) HLc.out hH ?_
  simp only [Act.put, List.setIfInBounds_toArray, List.set_cons_zero, List.set_cons_succ]
  refine takeLoad 5 (some 48) rfl rfl (by kernel_rfl) (by kernel_rfl) (by kernel_rfl) m (fun _ _ _ h => h) rfl _ rfl _ rfl (fun _ h => h.m) HLm.out hH ?_
  simp only [Act.put, List.setIfInBounds_toArray, List.set_cons_zero, List.set_cons_succ]
  refine takeLoad 6 (some 49) rfl rfl (by kernel_rfl) (by kernel_rfl) (by kernel_rfl) a (fun _ _ _ h => h) rfl _ rfl _ rfl (fun _ h => h.a) HLa.out hH ?_
  simp only [Act.put, List.setIfInBounds_toArray, List.set_cons_zero, List.set_cons_succ]
  refine takeLoad 7 (some 50) rfl rfl (by kernel_rfl) (by kernel_rfl) (by kernel_rfl) c (fun _ _ _ h => h) rfl _ rfl _ rfl (fun _ h => h.c) HLc.out hH ?_
  simp only [Act.put, List.setIfInBounds_toArray, List.set_cons_zero, List.set_cons_succ]
  refine takeCall 3 (some 46) (by kernel_rfl) rfl rfl rfl 22 _ _ rfl [.agg (cellsB b), .agg (cellsB c)] rfl (fun _ _ => Tryd.call22 _ _) ?_
  refine (K9.out _).mono ?_
  rintro e wN ⟨rfl, hb⟩
  have hN := hH.later hb
  clear hH hb
  refine ⟨_, rfl, hN, fun hH => ?_⟩
  clear hN
  simp only [Act.put, List.setIfInBounds_toArray, List.set_cons_zero, List.set_cons_succ]
  refine takeCall 4 (some 47) (by kernel_rfl) rfl rfl rfl 24 _ _ rfl [.agg (cellsB a), .agg (cellsB bc)] rfl (fun _ _ => Tryd.call24 _ _) ?_
  refine (K10.out _).mono ?_
  rintro e wN ⟨rfl, hb⟩
  have hN := hH.later hb
  clear hH hb
  refine ⟨_, rfl, hN, fun hH => ?_⟩
  clear hN
  simp only [Act.put, List.setIfInBounds_toArray, List.set_cons_zero, List.set_cons_succ]
  refine takeCall 8 (some 51) (by kernel_rfl) rfl rfl rfl 24 _ _ rfl [.agg (cellsB a), .agg (cellsB c)] rfl (fun _ _ => Tryd.call24 _ _) ?_
  refine (K11.out _).mono ?_
  rintro e wN ⟨rfl, hb⟩
  have hN := hH.later hb
  clear hH hb
  refine ⟨_, rfl, hN, fun hH => ?_⟩
  clear hN
  simp only [Act.put, List.setIfInBounds_toArray, List.set_cons_zero, List.set_cons_succ]
  refine takeCall 9 (some 52) (by kernel_rfl) rfl rfl rfl 22 _ _ rfl [.agg (cellsB m), .agg (cellsB ac)] rfl (fun _ _ => Tryd.call22 _ _) ?_
  refine (K12.out _).mono ?_
  rintro e wN ⟨rfl, hb⟩
  have hN := hH.later hb
  clear hH hb
  refine ⟨_, rfl, hN, fun hH => ?_⟩
  clear hN
  simp only [Act.put, List.setIfInBounds_toArray, List.set_cons_zero, List.set_cons_succ]
  refine takeEqlT 10 (some 53) rfl rfl (by kernel_rfl) (by kernel_rfl) (by kernel_rfl) abc (fun _ _ _ h => h) rfl _ _ _ rfl rfl rfl HLabc.out hH ?_
  simp only [Act.put, List.setIfInBounds_toArray, List.set_cons_zero, List.set_cons_succ]
  refine takeVal 11 (some 11) (.bool true) rfl rfl (by kernel_rfl) (by kernel_rfl) (by kernel_rfl) (fun _ _ _ h => h) rfl (fun _ => rfl) hH ?_
  simp only [Act.put, List.setIfInBounds_toArray, List.set_cons_zero, List.set_cons_succ]
  refine wpAnyH_done (by kernel_rfl) ?_ _
  have HW := show Hid (AF w a b c u m g7 g8 _) from hH
  clear hH
  clear K9 K10 K11 K12
  go_wp2
  refine wp_region_held_drew (S := fun wx => AF w a b c u m g7 g8 wx) (by kernel_rfl) (AF.drew HW.out) (fun hH => ?_)
  obtain ⟨tt, ht1, ht2⟩ : ∃ t : Int, IntKind.i64.wrap ((nu : Int) + (nm : Int)) = t ∧ IntKind.i64.wrap ((na : Int) + (nb : Int)) = t := ⟨_, rfl, by have := HCN.out.1; congr 1; omega⟩
  refine takeLoad 0 (some 54) rfl rfl (by kernel_rfl) (by kernel_rfl) (by kernel_rfl) m (fun _ _ _ h => h) rfl _ rfl _ rfl (fun _ h => h.m) HLm.out hH ?_
  simp only [Act.put, List.setIfInBounds_toArray, List.set_cons_zero, List.set_cons_succ]
  refine takeLoad 1 (some 55) rfl rfl (by kernel_rfl) (by kernel_rfl) (by kernel_rfl) a (fun _ _ _ h => h) rfl _ rfl _ rfl (fun _ h => h.a) HLa.out hH ?_
  simp only [Act.put, List.setIfInBounds_toArray, List.set_cons_zero, List.set_cons_succ]
  refine takeCall 2 (some 56) (by kernel_rfl) rfl rfl rfl 28 _ _ rfl [.agg (cellsB m), .agg (cellsB a)] rfl (fun _ _ => Tryd.call28 _ _) ?_
  refine (K13.out _).mono ?_
  rintro e wN ⟨rfl, hb⟩
  have hN := hH.later hb
  clear hH hb
  refine ⟨_, rfl, hN, fun hH => ?_⟩
  clear hN
  simp only [Act.put, List.setIfInBounds_toArray, List.set_cons_zero, List.set_cons_succ]
  refine takeVal 3 (some 57) (.bool true) rfl rfl (by kernel_rfl) (by kernel_rfl) (by kernel_rfl) (fun _ _ _ h => h) rfl (fun _ => rfl) hH ?_
  simp only [Act.put, List.setIfInBounds_toArray, List.set_cons_zero, List.set_cons_succ]
  refine takeLoad 4 (some 58) rfl rfl (by kernel_rfl) (by kernel_rfl) (by kernel_rfl) a (fun _ _ _ h => h) rfl _ rfl _ rfl (fun _ h => h.a) HLa.out hH ?_
  simp only [Act.put, List.setIfInBounds_toArray, List.set_cons_zero, List.set_cons_succ]
  refine takeLoad 5 (some 59) rfl rfl (by kernel_rfl) (by kernel_rfl) (by kernel_rfl) u (fun _ _ _ h => h) rfl _ rfl _ rfl (fun _ h => h.u) HLu.out hH ?_
  simp only [Act.put, List.setIfInBounds_toArray, List.set_cons_zero, List.set_cons_succ]
  refine takeCall 6 (some 60) (by kernel_rfl) rfl rfl rfl 28 _ _ rfl [.agg (cellsB a), .agg (cellsB u)] rfl (fun _ _ => Tryd.call28 _ _) ?_
  refine (K14.out _).mono ?_
  rintro e wN ⟨rfl, hb⟩
  have hN := hH.later hb
  clear hH hb
  refine ⟨_, rfl, hN, fun hH => ?_⟩
  clear hN
  simp only [Act.put, List.setIfInBounds_toArray, List.set_cons_zero, List.set_cons_succ]
  refine takeVal 7 (some 61) (.bool true) rfl rfl (by kernel_rfl) (by kernel_rfl) (by kernel_rfl) (fun _ _ _ h => h) rfl (fun _ => by go_simp) hH ?_
  simp only [Act.put, List.setIfInBounds_toArray, List.set_cons_zero, List.set_cons_succ]
  refine takeVal 8 (some 62) (.bool true) rfl rfl (by kernel_rfl) (by kernel_rfl) (by kernel_rfl) (fun _ _ _ h => h) rfl (fun _ => rfl) hH ?_
  simp only [Act.put, List.setIfInBounds_toArray, List.set_cons_zero, List.set_cons_succ]
  refine takeLoad 9 (some 63) rfl rfl (by kernel_rfl) (by kernel_rfl) (by kernel_rfl) u (fun _ _ _ h => h) rfl _ rfl _ rfl (fun _ h => h.u) HLu.out hH ?_
  simp only [Act.put, List.setIfInBounds_toArray, List.set_cons_zero, List.set_cons_succ]
  refine takeLoad 11 (some 65) rfl rfl (by kernel_rfl) (by kernel_rfl) (by kernel_rfl) m (fun _ _ _ h => h) rfl _ rfl _ rfl (fun _ h => h.m) HLm.out hH ?_
  simp only [Act.put, List.setIfInBounds_toArray, List.set_cons_zero, List.set_cons_succ]
  refine takeLoad 14 (some 68) rfl rfl (by kernel_rfl) (by kernel_rfl) (by kernel_rfl) a (fun _ _ _ h => h) rfl _ rfl _ rfl (fun _ h => h.a) HLa.out hH ?_
  simp only [Act.put, List.setIfInBounds_toArray, List.set_cons_zero, List.set_cons_succ]
  refine takeLoad 16 (some 70) rfl rfl (by kernel_rfl) (by kernel_rfl) (by kernel_rfl) b (fun _ _ _ h => h) rfl _ rfl _ rfl (fun _ h => h.b) HLb.out hH ?_
  simp only [Act.put, List.setIfInBounds_toArray, List.set_cons_zero, List.set_cons_succ]
  refine takeCall 10 (some 64) (by kernel_rfl) rfl rfl rfl 30 _ _ rfl [.agg (cellsB u)] rfl (fun _ _ => Tryd.call30 _ _) ?_
  refine (K15.out _).mono ?_
  rintro e wN ⟨rfl, hb⟩
  have hN := hH.later hb
  clear hH hb
  refine ⟨_, rfl, hN, fun hH => ?_⟩
  clear hN
  simp only [Act.put, List.setIfInBounds_toArray, List.set_cons_zero, List.set_cons_succ]
  refine takeCall 12 (some 66) (by kernel_rfl) rfl rfl rfl 30 _ _ rfl [.agg (cellsB m)] rfl (fun _ _ => Tryd.call30 _ _) ?_
  refine (K16.out _).mono ?_
  rintro e wN ⟨rfl, hb⟩
  have hN := hH.later hb
  clear hH hb
  refine ⟨_, rfl, hN, fun hH => ?_⟩
  clear hN
  simp only [Act.put, List.setIfInBounds_toArray, List.set_cons_zero, List.set_cons_succ]
  refine takeVal 13 (some 67) (.int .i64 tt) rfl rfl (by kernel_rfl) (by kernel_rfl) (by kernel_rfl) (fun _ _ _ h => h) rfl (fun _ => by go_simp) hH ?_
  simp only [Act.put, List.setIfInBounds_toArray, List.set_cons_zero, List.set_cons_succ]
  refine takeCall 15 (some 69) (by kernel_rfl) rfl rfl rfl 30 _ _ rfl [.agg (cellsB a)] rfl (fun _ _ => Tryd.call30 _ _) ?_
  refine (K17.out _).mono ?_
  rintro e wN ⟨rfl, hb⟩
  have hN := hH.later hb
  clear hH hb
  refine ⟨_, rfl, hN, fun hH => ?_⟩
  clear hN
  simp only [Act.put, List.setIfInBounds_toArray, List.set_cons_zero, List.set_cons_succ]
  refine takeCall 17 (some 71) (by kernel_rfl) rfl rfl rfl 30 _ _ rfl [.agg (cellsB b)] rfl (fun _ _ => Tryd.call30 _ _) ?_
  refine (K18.out _).mono ?_
  rintro e wN ⟨rfl, hb⟩
  have hN := hH.later hb
  clear hH hb
  refine ⟨_, rfl, hN, fun hH => ?_⟩
  clear hN
  simp only [Act.put, List.setIfInBounds_toArray, List.set_cons_zero, List.set_cons_succ]
  refine takeVal 18 (some 72) (.int .i64 tt) rfl rfl (by kernel_rfl) (by kernel_rfl) (by kernel_rfl) (fun _ _ _ h => h) rfl (fun _ => by go_simp) hH ?_
  simp only [Act.put, List.setIfInBounds_toArray, List.set_cons_zero, List.set_cons_succ]
  refine takeVal 19 (some 73) (.bool true) rfl rfl (by kernel_rfl) (by kernel_rfl) (by kernel_rfl) (fun _ _ _ h => h) rfl (fun _ => by go_simp) hH ?_
  simp only [Act.put, List.setIfInBounds_toArray, List.set_cons_zero, List.set_cons_succ]
  refine takeVal 20 (some 74) (.bool true) rfl rfl (by kernel_rfl) (by kernel_rfl) (by kernel_rfl) (fun _ _ _ h => h) rfl (fun _ => by go_simp) hH ?_
  simp only [Act.put, List.setIfInBounds_toArray, List.set_cons_zero, List.set_cons_succ]
  refine takeVal 21 (some 12) (.bool true) rfl rfl (by kernel_rfl) (by kernel_rfl) (by kernel_rfl) (fun _ _ _ h => h) rfl (fun _ => rfl) hH ?_
  simp only [Act.put, List.setIfInBounds_toArray, List.set_cons_zero, List.set_cons_succ]
  refine wpAnyH_done (by kernel_rfl) ?_ _
  have HW := show Hid (AF w a b c u m g7 g8 _) from hH
  clear hH
  clear K13 K14 K15 K16 K17 K18 HCN ht1 ht2
  go_wp2
  refine wp_region_held_drew (S := fun wx => AF w a b c u m g7 g8 wx) (by kernel_rfl) (AF.drew HW.out) (fun hH => ?_)
  have hng : IntKind.i64.wrap (-xba) = xab := wrap_neg HCT.out.1 HCT.out.2.1
  have heq0 := HCT.out.2.2.1
  refine takeLoad 0 (some 75) rfl rfl (by kernel_rfl) (by kernel_rfl) (by kernel_rfl) a (fun _ _ _ h => h) rfl _ rfl _ rfl (fun _ h => h.a) HLa.out hH ?_
  simp only [Act.put, List.setIfInBounds_toArray, List.set_cons_zero, List.set_cons_succ]
  refine takeLoad 1 (some 76) rfl rfl (by kernel_rfl) (by kernel_rfl) (by kernel_rfl) b (fun _ _ _ h => h) rfl _ rfl _ rfl (fun _ h => h.b) HLb.out hH ?_
  simp only [Act.put, List.setIfInBounds_toArray, List.set_cons_zero, List.set_cons_succ]
  refine takeLoad 3 (some 78) rfl rfl (by kernel_rfl) (by kernel_rfl) (by kernel_rfl) m (fun _ _ _ h => h) rfl _ rfl _ rfl (fun _ h => h.m) HLm.out hH ?_
  simp only [Act.put, List.setIfInBounds_toArray, List.set_cons_zero, List.set_cons_succ]
  refine takeLoad 4 (some 79) rfl rfl (by kernel_rfl) (by kernel_rfl) (by kernel_rfl) a (fun _ _ _ h => h) rfl _ rfl _ rfl (fun _ h => h.a) HLa.out hH ?_
  simp only [Act.put, List.setIfInBounds_toArray, List.set_cons_zero, List.set_cons_succ]
  refine takeEql 5 (some 80) rfl rfl (by kernel_rfl) (by kernel_rfl) (by kernel_rfl) m a (fun _ _ _ h => h) rfl _ _ _ rfl rfl rfl HLm.out HLa.out hH ?_
  simp only [Act.put, List.setIfInBounds_toArray, List.set_cons_zero, List.set_cons_succ]
  refine takeCall 2 (some 77) (by kernel_rfl) rfl rfl rfl 28 _ _ rfl [.agg (cellsB a), .agg (cellsB b)] rfl (fun _ _ => Tryd.call28 _ _) ?_
  refine (K19.out _).mono ?_
  rintro e wN ⟨rfl, hb⟩
  have hN := hH.later hb
  clear hH hb
  refine ⟨_, rfl, hN, fun hH => ?_⟩
  clear hN
  simp only [Act.put, List.setIfInBounds_toArray, List.set_cons_zero, List.set_cons_succ]
  refine takeVal 6 (some 81) (.bool true) rfl rfl (by kernel_rfl) (by kernel_rfl) (by kernel_rfl) (fun _ _ _ h => h) rfl (fun _ => by go_simp) hH ?_
  simp only [Act.put, List.setIfInBounds_toArray, List.set_cons_zero, List.set_cons_succ]
  refine takeVal 7 (some 82) (.bool true) rfl rfl (by kernel_rfl) (by kernel_rfl) (by kernel_rfl) (fun _ _ _ h => h) rfl (fun _ => rfl) hH ?_
  simp only [Act.put, List.setIfInBounds_toArray, List.set_cons_zero, List.set_cons_succ]
  refine takeLoad 8 (some 83) rfl rfl (by kernel_rfl) (by kernel_rfl) (by kernel_rfl) a (fun _ _ _ h => h) rfl _ rfl _ rfl (fun _ h => h.a) HLa.out hH ?_
  simp only [Act.put, List.setIfInBounds_toArray, List.set_cons_zero, List.set_cons_succ]
  refine takeLoad 9 (some 84) rfl rfl (by kernel_rfl) (by kernel_rfl) (by kernel_rfl) b (fun _ _ _ h => h) rfl _ rfl _ rfl (fun _ h => h.b) HLb.out hH ?_
  simp only [Act.put, List.setIfInBounds_toArray, List.set_cons_zero, List.set_cons_succ]
  refine takeLoad 11 (some 86) rfl rfl (by kernel_rfl) (by kernel_rfl) (by kernel_rfl) b (fun _ _ _ h => h) rfl _ rfl _ rfl (fun _ h => h.b) HLb.out hH ?_
  simp only [Act.put, List.setIfInBounds_toArray, List.set_cons_zero, List.set_cons_succ]
  refine takeLoad 12 (some 87) rfl rfl (by kernel_rfl) (by kernel_rfl) (by kernel_rfl) a (fun _ _ _ h => h) rfl _ rfl _ rfl (fun _ h => h.a) HLa.out hH ?_
  simp only [Act.put, List.setIfInBounds_toArray, List.set_cons_zero, List.set_cons_succ]
  refine takeCall 10 (some 85) (by kernel_rfl) rfl rfl rfl 31 _ _ rfl [.agg (cellsB a), .agg (cellsB b)] rfl (fun _ _ => Tryd.call31 _ _) ?_
  refine (K20.out _).mono ?_
  rintro e wN ⟨rfl, hb⟩
  have hN := hH.later hb
  clear hH hb
  refine ⟨_, rfl, hN, fun hH => ?_⟩
  clear hN
  simp only [Act.put, List.setIfInBounds_toArray, List.set_cons_zero, List.set_cons_succ]
  refine takeCall 13 (some 88) (by kernel_rfl) rfl rfl rfl 31 _ _ rfl [.agg (cellsB b), .agg (cellsB a)] rfl (fun _ _ => Tryd.call31 _ _) ?_
  refine (K21.out _).mono ?_
  rintro e wN ⟨rfl, hb⟩
  have hN := hH.later hb
  clear hH hb
  refine ⟨_, rfl, hN, fun hH => ?_⟩
  clear hN
  simp only [Act.put, List.setIfInBounds_toArray, List.set_cons_zero, List.set_cons_succ]
  refine takeVal 14 (some 89) (.int .i64 xab) rfl rfl (by kernel_rfl) (by kernel_rfl) (by kernel_rfl) (fun _ _ _ h => h) rfl (fun _ => by go_simp) hH ?_
  simp only [Act.put, List.setIfInBounds_toArray, List.set_cons_zero, List.set_cons_succ]
  refine takeVal 15 (some 90) (.bool true) rfl rfl (by kernel_rfl) (by kernel_rfl) (by kernel_rfl) (fun _ _ _ h => h) rfl (fun _ => by go_simp) hH ?_
  simp only [Act.put, List.setIfInBounds_toArray, List.set_cons_zero, List.set_cons_succ]
  refine takeVal 16 (some 91) (.bool true) rfl rfl (by kernel_rfl) (by kernel_rfl) (by kernel_rfl) (fun _ _ _ h => h) rfl (fun _ => by go_simp) hH ?_
  simp only [Act.put, List.setIfInBounds_toArray, List.set_cons_zero, List.set_cons_succ]
  refine takeVal 17 (some 92) (.bool true) rfl rfl (by kernel_rfl) (by kernel_rfl) (by kernel_rfl) (fun _ _ _ h => h) rfl (fun _ => rfl) hH ?_
  simp only [Act.put, List.setIfInBounds_toArray, List.set_cons_zero, List.set_cons_succ]
  refine takeLoad 18 (some 93) rfl rfl (by kernel_rfl) (by kernel_rfl) (by kernel_rfl) a (fun _ _ _ h => h) rfl _ rfl _ rfl (fun _ h => h.a) HLa.out hH ?_
  simp only [Act.put, List.setIfInBounds_toArray, List.set_cons_zero, List.set_cons_succ]
  refine takeLoad 19 (some 94) rfl rfl (by kernel_rfl) (by kernel_rfl) (by kernel_rfl) b (fun _ _ _ h => h) rfl _ rfl _ rfl (fun _ h => h.b) HLb.out hH ?_
  simp only [Act.put, List.setIfInBounds_toArray, List.set_cons_zero, List.set_cons_succ]
  refine takeLoad 22 (some 97) rfl rfl (by kernel_rfl) (by kernel_rfl) (by kernel_rfl) a (fun _ _ _ h => h) rfl _ rfl _ rfl (fun _ h => h.a) HLa.out hH ?_
  simp only [Act.put, List.setIfInBounds_toArray, List.set_cons_zero, List.set_cons_succ]
  refine takeLoad 23 (some 98) rfl rfl (by kernel_rfl) (by kernel_rfl) (by kernel_rfl) b (fun _ _ _ h => h) rfl _ rfl _ rfl (fun _ h => h.b) HLb.out hH ?_
  simp only [Act.put, List.setIfInBounds_toArray, List.set_cons_zero, List.set_cons_succ]
  refine takeEql 24 (some 99) rfl rfl (by kernel_rfl) (by kernel_rfl) (by kernel_rfl) a b (fun _ _ _ h => h) rfl _ _ _ rfl rfl rfl HLa.out HLb.out hH ?_
  simp only [Act.put, List.setIfInBounds_toArray, List.set_cons_zero, List.set_cons_succ]
  refine takeCall 20 (some 95) (by kernel_rfl) rfl rfl rfl 31 _ _ rfl [.agg (cellsB a), .agg (cellsB b)] rfl (fun _ _ => Tryd.call31 _ _) ?_
  refine (K20.out _).mono ?_
  rintro e wN ⟨rfl, hb⟩
  have hN := hH.later hb
  clear hH hb
  refine ⟨_, rfl, hN, fun hH => ?_⟩
  clear hN
  simp only [Act.put, List.setIfInBounds_toArray, List.set_cons_zero, List.set_cons_succ]
  refine takeVal 21 (some 96) (.bool (decide (a = b))) rfl rfl (by kernel_rfl) (by kernel_rfl) (by kernel_rfl) (fun _ _ _ h => h) rfl (fun _ => by go_simp) hH ?_
  simp only [Act.put, List.setIfInBounds_toArray, List.set_cons_zero, List.set_cons_succ]
  refine takeVal 25 (some 100) (.bool true) rfl rfl (by kernel_rfl) (by kernel_rfl) (by kernel_rfl) (fun _ _ _ h => h) rfl (fun _ => by go_simp) hH ?_
  simp only [Act.put, List.setIfInBounds_toArray, List.set_cons_zero, List.set_cons_succ]
  refine takeVal 26 (some 101) (.bool true) rfl rfl (by kernel_rfl) (by kernel_rfl) (by kernel_rfl) (fun _ _ _ h => h) rfl (fun _ => by go_simp) hH ?_
  simp only [Act.put, List.setIfInBounds_toArray, List.set_cons_zero, List.set_cons_succ]
  refine takeVal 27 (some 13) (.bool true) rfl rfl (by kernel_rfl) (by kernel_rfl) (by kernel_rfl) (fun _ _ _ h => h) rfl (fun _ => rfl) hH ?_
  simp only [Act.put, List.setIfInBounds_toArray, List.set_cons_zero, List.set_cons_succ]
  refine wpAnyH_done (by kernel_rfl) ?_ _
  have HW := show Hid (AF w a b c u m g7 g8 _) from hH
  clear hH
  clear K19 K21 hng heq0
  have h3 := HCT.out.2.2.2
  clear HCT HLu HLm HLcu HLcm HLabc
  by_cases h1 : xab < 0
  · by_cases h2 : xbc < 0
    · have h4 := h3 h1 h2
      clear h3
      go_wp2_with (first | (refine wpList_ld _ _ rfl _ rfl (r := a) HW.out.a HLa.out rfl ?_) | (refine wpList_ld _ _ rfl _ rfl (r := b) HW.out.b HLb.out rfl ?_) | (refine wpList_ld _ _ rfl _ rfl (r := c) HW.out.c HLc.out rfl ?_))
      refine (K20.out _).mono ?_
      rintro e y0 ⟨rfl, hb⟩
      have Y0 := show Hid (AF w a b c u m g7 g8 y0) from HW.out.later hb
      clear hb HW K20
      go_wp2_with (first | (refine wpList_ld _ _ rfl _ rfl (r := a) Y0.out.a HLa.out rfl ?_) | (refine wpList_ld _ _ rfl _ rfl (r := b) Y0.out.b HLb.out rfl ?_) | (refine wpList_ld _ _ rfl _ rfl (r := c) Y0.out.c HLc.out rfl ?_))
      refine (K22.out _).mono ?_
      rintro e y1 ⟨rfl, hb⟩
      have Y1 := show Hid (AF w a b c u m g7 g8 y1) from Y0.out.later hb
      clear hb Y0 K22
      go_wp2_with (first | (refine wpList_ld _ _ rfl _ rfl (r := a) Y1.out.a HLa.out rfl ?_) | (refine wpList_ld _ _ rfl _ rfl (r := b) Y1.out.b HLb.out rfl ?_) | (refine wpList_ld _ _ rfl _ rfl (r := c) Y1.out.c HLc.out rfl ?_))
      refine (K23.out _).mono ?_
      rintro e y2 ⟨rfl, hb⟩
      have Y2 := show Hid (AF w a b c u m g7 g8 y2) from Y1.out.later hb
      clear hb Y1 K23
      go_wp2_with fail
      refine (KH.out _ Y2.out.below).mono ?_
      rintro e z ⟨rfl, hb⟩
      have HZ := show Hid (Below w.heap.size w z) from Y2.out.below.trans (hb.mono Y2.out.below.size)
      clear hb Y2
      go_wp2
      go_ret
      exact ⟨rfl, HZ.out⟩
    · clear h3
      go_wp2_with (first | (refine wpList_ld _ _ rfl _ rfl (r := a) HW.out.a HLa.out rfl ?_) | (refine wpList_ld _ _ rfl _ rfl (r := b) HW.out.b HLb.out rfl ?_) | (refine wpList_ld _ _ rfl _ rfl (r := c) HW.out.c HLc.out rfl ?_))
      refine (K20.out _).mono ?_
      rintro e y0 ⟨rfl, hb⟩
      have Y0 := show Hid (AF w a b c u m g7 g8 y0) from HW.out.later hb
      clear hb HW K20
      go_wp2_with (first | (refine wpList_ld _ _ rfl _ rfl (r := a) Y0.out.a HLa.out rfl ?_) | (refine wpList_ld _ _ rfl _ rfl (r := b) Y0.out.b HLb.out rfl ?_) | (refine wpList_ld _ _ rfl _ rfl (r := c) Y0.out.c HLc.out rfl ?_))
      refine (K22.out _).mono ?_
      rintro e y1 ⟨rfl, hb⟩
      have Y1 := show Hid (AF w a b c u m g7 g8 y1) from Y0.out.later hb
      clear hb Y0 K22
      go_wp2_with fail
      refine (KH.out _ Y1.out.below).mono ?_
      rintro e z ⟨rfl, hb⟩
      have HZ := show Hid (Below w.heap.size w z) from Y1.out.below.trans (hb.mono Y1.out.below.size)
      clear hb Y1
      go_wp2
      go_ret
      exact ⟨rfl, HZ.out⟩
  · clear h3
    go_wp2_with (first | (refine wpList_ld _ _ rfl _ rfl (r := a) HW.out.a HLa.out rfl ?_) | (refine wpList_ld _ _ rfl _ rfl (r := b) HW.out.b HLb.out rfl ?_) | (refine wpList_ld _ _ rfl _ rfl (r := c) HW.out.c HLc.out rfl ?_))
    refine (K20.out _).mono ?_
    rintro e y0 ⟨rfl, hb⟩
    have Y0 := show Hid (AF w a b c u m g7 g8 y0) from HW.out.later hb
    clear hb HW K20
    go_wp2_with fail
    refine (KH.out _ Y0.out.below).mono ?_
    rintro e z ⟨rfl, hb⟩
    have HZ := show Hid (Below w.heap.size w z) from Y0.out.below.trans (hb.mono Y0.out.below.size)
    clear hb Y0
    go_wp2
    go_ret
    exact ⟨rfl, HZ.out⟩
end Go.Proofs.YthkolkmcnpafiaaDoor
