/-
  BitsJoins: for every two sets and every number the law answers true. The tables stand.
-/
import Derived.Test.YthkolkmcnpafiaaDoorBLaid
import Derived.Test.YthkolkmcnpafiaaDoorBList
import Derived.Test.YthkolkmcnpafiaaDoorBTake
namespace Go.Proofs.YthkolkmcnpafiaaDoor
open Go.RowKit
open Bs (Ok wd)

/-- What is held: the world below, and two sets in their variables. -/
structure JF (w : World) (a b : List Nat) (wx : World) : Prop where
  below : Below w.heap.size w wx
  a : RowAt wx w.heap.size a
  b : RowAt wx (w.heap.size + 1) b
theorem JF.later {w wx : World} {a b : List Nat} (h : JF w a b wx) {w' : World} (hb : Below wx.heap.size wx w') : JF w a b w' :=
  ⟨h.below.trans (hb.mono h.below.size), h.a.keep hb h.a.lt, h.b.keep hb h.b.lt⟩
theorem nxF_int (o : Option Nat) : ∃ x, nxF o = .int .i64 x := ⟨_, rfl⟩
set_option maxRecDepth 100000 in
set_option maxHeartbeats 8000000 in
theorem joins_any (w : World) (hT : Tabs w) {a b : List Nat} (ha : Ok a) (hb : Ok b) (n : Int) (hn : n ≤ 9223372036854775807) : Calls Tryd.prog 4 #[.agg (cellsB a), .agg (cellsB b), .int .i64 n] w fun e w' => e = .returned (.bool true) ∧ Below w.heap.size w w' := by
  have K1 := show Hid (∀ w', Below w.heap.size w w' → Calls Tryd.prog 20 #[.agg (cellsB a), .int .i64 n] w' fun e w'' => e = .returned (.tuple #[nxF (nextI a n), .bool (nextI a n).isSome]) ∧ Below w'.heap.size w' w'') from fun w' hb' => by
    have := next_any w' (hT.later hb').1 ha n hn
    rw [nextV_eq] at this
    exact this.mono fun _ _ h => ⟨h.1, by rw [h.2]; exact below_alloc _ _⟩
  have K2 := show Hid (∀ w', Below w.heap.size w w' → Calls Tryd.prog 21 #[.agg (cellsB a), .int .i64 n] w' fun e w'' => e = .returned (.tuple #[nxF (nextI a n), .bool (nextI a n).isSome]) ∧ Below w'.heap.size w' w'') from fun w' hb' => by
    have := rnext_any w' ha n
    rwa [nextV_eq] at this
  have K3 := show Hid (∀ w', Below w.heap.size w w' → Calls Tryd.prog 22 #[.agg (cellsB a), .agg (cellsB b)] w' fun e w'' => e = .returned (.agg (cellsB (Bs.union a b))) ∧ Below w'.heap.size w' w'') from fun w' hb' => union_any w' ha hb
  have K4 := show Hid (∀ w', Below w.heap.size w w' → Calls Tryd.prog 23 #[.agg (cellsB a), .agg (cellsB b)] w' fun e w'' => e = .returned (.agg (cellsB (Bs.union a b))) ∧ Below w'.heap.size w' w'') from fun w' hb' => runion_any w' ha hb
  have K5 := show Hid (∀ w', Below w.heap.size w w' → Calls Tryd.prog 24 #[.agg (cellsB a), .agg (cellsB b)] w' fun e w'' => e = .returned (.agg (cellsB (Bs.meet a b))) ∧ Below w'.heap.size w' w'') from fun w' hb' => meet_any w' ha hb
  have K6 := show Hid (∀ w', Below w.heap.size w w' → Calls Tryd.prog 25 #[.agg (cellsB a), .agg (cellsB b)] w' fun e w'' => e = .returned (.agg (cellsB (Bs.meet a b))) ∧ Below w'.heap.size w' w'') from fun w' hb' => rmeet_any w' ha hb
  have K7 := show Hid (∀ w', Below w.heap.size w w' → Calls Tryd.prog 26 #[.agg (cellsB a), .agg (cellsB b)] w' fun e w'' => e = .returned (.agg (cellsB (Bs.minus a b))) ∧ Below w'.heap.size w' w'') from fun w' hb' => minus_any w' ha hb
  have K8 := show Hid (∀ w', Below w.heap.size w w' → Calls Tryd.prog 27 #[.agg (cellsB a), .agg (cellsB b)] w' fun e w'' => e = .returned (.agg (cellsB (Bs.minus a b))) ∧ Below w'.heap.size w' w'') from fun w' hb' => rminus_any w' ha hb
  have K9 := show Hid (∀ w', Below w.heap.size w w' → Calls Tryd.prog 28 #[.agg (cellsB a), .agg (cellsB b)] w' fun e w'' => e = .returned (.bool (Bs.sub a b)) ∧ Below w'.heap.size w' w'') from fun w' hb' => sub_any w' ha hb
  have K10 := show Hid (∀ w', Below w.heap.size w w' → Calls Tryd.prog 29 #[.agg (cellsB a), .agg (cellsB b)] w' fun e w'' => e = .returned (.bool (Bs.sub a b)) ∧ Below w'.heap.size w' w'') from fun w' hb' => rsub_any w' ha hb
  have K11 := show Hid (∀ w', Below w.heap.size w w' → Calls Tryd.prog 30 #[.agg (cellsB a)] w' fun e w'' => e = .returned (.int .i64 (((Bs.nums a).length : Nat) : Int)) ∧ Below w'.heap.size w' w'') from fun w' hb' => by
    have := count_any w' ha
    rw [Bs.count_nums ha.1] at this
    exact this.mono fun _ _ h => ⟨h.1, by rw [h.2]; exact below_alloc _ _⟩
  have K12 := show Hid (∀ w', Calls Tryd.prog 18 #[.agg (cellsB a)] w' fun e w'' => ∃ p c, e = .returned (.slice p (Bs.nums a).length c) ∧ Below w'.heap.size w' w'') from fun w' => (rlist_any w' ha).mono fun _ _ ⟨v, h1, h2, h3⟩ => by
    obtain ⟨p, c, rfl⟩ := h2.slice
    exact ⟨p, c, h1, h3⟩
  have K13 := show Hid (∀ w', Below w.heap.size w w' → Calls Tryd.prog 31 #[.agg (cellsB a), .agg (cellsB b)] w' fun e w'' => e = .returned (.int .i64 (Bs.cmp a b)) ∧ Below w'.heap.size w' w'') from fun w' hb' => cmp_any w' ha hb
  have K14 := show Hid (∀ w', Below w.heap.size w w' → Calls Tryd.prog 32 #[.agg (cellsB a), .agg (cellsB b)] w' fun e w'' => e = .returned (.int .i64 (Bs.cmp a b)) ∧ Below w'.heap.size w' w'') from fun w' hb' => rcmp_any w' ha hb
  have KH := show Hid (∀ w', Below w.heap.size w w' → Calls Tryd.prog 19 #[] w' fun e w'' => e = .returned (.bool true) ∧ Below w'.heap.size w' w'') from fun w' hb' => heads_any w' (hT.later hb')
  have HLa := show Hid (a.length = 16) from ha.1
  have HLb := show Hid (b.length = 16) from hb.1
  have HLu := show Hid ((Bs.union a b).length = 16) from (Bs.union_ok ha hb).1
  have HLm := show Hid ((Bs.meet a b).length = 16) from (Bs.meet_ok ha hb).1
  have HLd := show Hid ((Bs.minus a b).length = 16) from (Bs.minus_ok ha hb).1
  have X0 := show Hid (JF w a b ((w.alloc (.cells (cellsB a) 25)).alloc (.cells (cellsB b) 25))) from ⟨below_two w _ _, (heap_two w _ _).1, (heap_two w _ _).2⟩
  obtain ⟨x, hx⟩ := nxF_int (nextI a n)
  rw [hx] at K1 K2
  clear ha hb hT hn hx
  generalize (nextI a n).isSome = ok at *
  generalize Bs.union a b = u at *
  generalize Bs.meet a b = m at *
  generalize Bs.minus a b = d at *
  generalize Bs.sub a b = sb at *
  generalize Bs.cmp a b = cp at *
  generalize (Bs.nums a).length = nn at *
  go_enter Tryd.func4, Tryd.ntmps4
  go_wp2_with (first | (refine wpList_ld _ _ rfl _ rfl (r := a) X0.out.a HLa.out rfl ?_) | (refine wpList_ld _ _ rfl _ rfl (r := b) X0.out.b HLb.out rfl ?_))
  refine (K1.out _ X0.out.below).mono ?_
  rintro e w1 ⟨rfl, hb⟩
  have X1 := show Hid (JF w a b w1) from X0.out.later hb
  clear hb X0 K1
  go_wp2_with (first | (refine wpList_ld _ _ rfl _ rfl (r := a) X1.out.a HLa.out rfl ?_) | (refine wpList_ld _ _ rfl _ rfl (r := b) X1.out.b HLb.out rfl ?_))
  refine (K2.out _ X1.out.below).mono ?_
  rintro e w2 ⟨rfl, hb⟩
  have X2 := show Hid (JF w a b w2) from X1.out.later hb
  clear hb X1 K2
  go_wp2
  refine wp_region_held_drew (S := fun wx => JF w a b wx) (by kernel_rfl) ⟨X2.out.below.drew, X2.out.a, X2.out.b⟩ (fun hH => ?_)
  refine takeLoad 0 (some 23) rfl rfl (by kernel_rfl) (by kernel_rfl) (by kernel_rfl) a (fun _ _ _ h => h) rfl _ rfl _ rfl (fun _ h => h.a) HLa.out hH ?_
  simp only [Act.put, List.setIfInBounds_toArray, List.set_cons_zero, List.set_cons_succ]
  refine takeLoad 1 (some 24) rfl rfl (by kernel_rfl) (by kernel_rfl) (by kernel_rfl) b (fun _ _ _ h => h) rfl _ rfl _ rfl (fun _ h => h.b) HLb.out hH ?_
  simp only [Act.put, List.setIfInBounds_toArray, List.set_cons_zero, List.set_cons_succ]
  refine takeLoad 3 (some 26) rfl rfl (by kernel_rfl) (by kernel_rfl) (by kernel_rfl) a (fun _ _ _ h => h) rfl _ rfl _ rfl (fun _ h => h.a) HLa.out hH ?_
  simp only [Act.put, List.setIfInBounds_toArray, List.set_cons_zero, List.set_cons_succ]
  refine takeLoad 4 (some 27) rfl rfl (by kernel_rfl) (by kernel_rfl) (by kernel_rfl) b (fun _ _ _ h => h) rfl _ rfl _ rfl (fun _ h => h.b) HLb.out hH ?_
  simp only [Act.put, List.setIfInBounds_toArray, List.set_cons_zero, List.set_cons_succ]
  refine takeCall 2 (some 25) (by kernel_rfl) rfl rfl rfl 22 _ _ rfl [.agg (cellsB a), .agg (cellsB b)] rfl (fun _ _ => Tryd.call22 _ _) ?_
  refine (K3.out _ hH.below).mono ?_
  rintro e wN ⟨rfl, hb⟩
  have hN := hH.later hb
  clear hH hb K3
  refine ⟨_, rfl, hN, fun hH => ?_⟩
  clear hN
  simp only [Act.put, List.setIfInBounds_toArray, List.set_cons_zero, List.set_cons_succ]
  refine takeCall 5 (some 28) (by kernel_rfl) rfl rfl rfl 23 _ _ rfl [.agg (cellsB a), .agg (cellsB b)] rfl (fun _ _ => Tryd.call23 _ _) ?_
  refine (K4.out _ hH.below).mono ?_
  rintro e wN ⟨rfl, hb⟩
  have hN := hH.later hb
  clear hH hb K4
  refine ⟨_, rfl, hN, fun hH => ?_⟩
  clear hN
  simp only [Act.put, List.setIfInBounds_toArray, List.set_cons_zero, List.set_cons_succ]
  refine takeEqlT 6 (some 29) rfl rfl (by kernel_rfl) (by kernel_rfl) (by kernel_rfl) u (fun _ _ _ h => h) rfl _ _ _ rfl rfl rfl HLu.out hH ?_
  simp only [Act.put, List.setIfInBounds_toArray, List.set_cons_zero, List.set_cons_succ]
  refine takeVal 7 (some 30) (.bool true) rfl rfl (by kernel_rfl) (by kernel_rfl) (by kernel_rfl) (fun _ _ _ h => h) rfl (fun _ => rfl) hH ?_
  simp only [Act.put, List.setIfInBounds_toArray, List.set_cons_zero, List.set_cons_succ]
  refine takeLoad 8 (some 31) rfl rfl (by kernel_rfl) (by kernel_rfl) (by kernel_rfl) a (fun _ _ _ h => h) rfl _ rfl _ rfl (fun _ h => h.a) HLa.out hH ?_
  simp only [Act.put, List.setIfInBounds_toArray, List.set_cons_zero, List.set_cons_succ]
  refine takeLoad 9 (some 32) rfl rfl (by kernel_rfl) (by kernel_rfl) (by kernel_rfl) b (fun _ _ _ h => h) rfl _ rfl _ rfl (fun _ h => h.b) HLb.out hH ?_
  simp only [Act.put, List.setIfInBounds_toArray, List.set_cons_zero, List.set_cons_succ]
  refine takeLoad 11 (some 34) rfl rfl (by kernel_rfl) (by kernel_rfl) (by kernel_rfl) a (fun _ _ _ h => h) rfl _ rfl _ rfl (fun _ h => h.a) HLa.out hH ?_
  simp only [Act.put, List.setIfInBounds_toArray, List.set_cons_zero, List.set_cons_succ]
  refine takeLoad 12 (some 35) rfl rfl (by kernel_rfl) (by kernel_rfl) (by kernel_rfl) b (fun _ _ _ h => h) rfl _ rfl _ rfl (fun _ h => h.b) HLb.out hH ?_
  simp only [Act.put, List.setIfInBounds_toArray, List.set_cons_zero, List.set_cons_succ]
  refine takeCall 10 (some 33) (by kernel_rfl) rfl rfl rfl 24 _ _ rfl [.agg (cellsB a), .agg (cellsB b)] rfl (fun _ _ => Tryd.call24 _ _) ?_
  refine (K5.out _ hH.below).mono ?_
  rintro e wN ⟨rfl, hb⟩
  have hN := hH.later hb
  clear hH hb K5
  refine ⟨_, rfl, hN, fun hH => ?_⟩
  clear hN
  simp only [Act.put, List.setIfInBounds_toArray, List.set_cons_zero, List.set_cons_succ]
  refine takeCall 13 (some 36) (by kernel_rfl) rfl rfl rfl 25 _ _ rfl [.agg (cellsB a), .agg (cellsB b)] rfl (fun _ _ => Tryd.call25 _ _) ?_
  refine (K6.out _ hH.below).mono ?_
  rintro e wN ⟨rfl, hb⟩
  have hN := hH.later hb
  clear hH hb K6
  refine ⟨_, rfl, hN, fun hH => ?_⟩
  clear hN
  simp only [Act.put, List.setIfInBounds_toArray, List.set_cons_zero, List.set_cons_succ]
  refine takeEqlT 14 (some 37) rfl rfl (by kernel_rfl) (by kernel_rfl) (by kernel_rfl) m (fun _ _ _ h => h) rfl _ _ _ rfl rfl rfl HLm.out hH ?_
  simp only [Act.put, List.setIfInBounds_toArray, List.set_cons_zero, List.set_cons_succ]
  refine takeVal 15 (some 38) (.bool true) rfl rfl (by kernel_rfl) (by kernel_rfl) (by kernel_rfl) (fun _ _ _ h => h) rfl (fun _ => by go_simp) hH ?_
  simp only [Act.put, List.setIfInBounds_toArray, List.set_cons_zero, List.set_cons_succ]
  refine takeVal 16 (some 39) (.bool true) rfl rfl (by kernel_rfl) (by kernel_rfl) (by kernel_rfl) (fun _ _ _ h => h) rfl (fun _ => rfl) hH ?_
  simp only [Act.put, List.setIfInBounds_toArray, List.set_cons_zero, List.set_cons_succ]
  refine takeLoad 17 (some 40) rfl rfl (by kernel_rfl) (by kernel_rfl) (by kernel_rfl) a (fun _ _ _ h => h) rfl _ rfl _ rfl (fun _ h => h.a) HLa.out hH ?_
  simp only [Act.put, List.setIfInBounds_toArray, List.set_cons_zero, List.set_cons_succ]
  refine takeLoad 18 (some 41) rfl rfl (by kernel_rfl) (by kernel_rfl) (by kernel_rfl) b (fun _ _ _ h => h) rfl _ rfl _ rfl (fun _ h => h.b) HLb.out hH ?_
  simp only [Act.put, List.setIfInBounds_toArray, List.set_cons_zero, List.set_cons_succ]
  refine takeLoad 20 (some 43) rfl rfl (by kernel_rfl) (by kernel_rfl) (by kernel_rfl) a (fun _ _ _ h => h) rfl _ rfl _ rfl (fun _ h => h.a) HLa.out hH ?_
  simp only [Act.put, List.setIfInBounds_toArray, List.set_cons_zero, List.set_cons_succ]
  refine takeLoad 21 (some 44) rfl rfl (by kernel_rfl) (by kernel_rfl) (by kernel_rfl) b (fun _ _ _ h => h) rfl _ rfl _ rfl (fun _ h => h.b) HLb.out hH ?_
  simp only [Act.put, List.setIfInBounds_toArray, List.set_cons_zero, List.set_cons_succ]
  refine takeCall 19 (some 42) (by kernel_rfl) rfl rfl rfl 26 _ _ rfl [.agg (cellsB a), .agg (cellsB b)] rfl (fun _ _ => Tryd.call26 _ _) ?_
  refine (K7.out _ hH.below).mono ?_
  rintro e wN ⟨rfl, hb⟩
  have hN := hH.later hb
  clear hH hb K7
  refine ⟨_, rfl, hN, fun hH => ?_⟩
  clear hN
  simp only [Act.put, List.setIfInBounds_toArray, List.set_cons_zero, List.set_cons_succ]
  refine takeCall 22 (some 45) (by kernel_rfl) rfl rfl rfl 27 _ _ rfl [.agg (cellsB a), .agg (cellsB b)] rfl (fun _ _ => Tryd.call27 _ _) ?_
  refine (K8.out _ hH.below).mono ?_
  rintro e wN ⟨rfl, hb⟩
  have hN := hH.later hb
  clear hH hb K8
  refine ⟨_, rfl, hN, fun hH => ?_⟩
  clear hN
  simp only [Act.put, List.setIfInBounds_toArray, List.set_cons_zero, List.set_cons_succ]
  refine takeEqlT 23 (some 46) rfl rfl (by kernel_rfl) (by kernel_rfl) (by kernel_rfl) d (fun _ _ _ h => h) rfl _ _ _ rfl rfl rfl HLd.out hH ?_
  simp only [Act.put, List.setIfInBounds_toArray, List.set_cons_zero, List.set_cons_succ]
  refine takeVal 24 (some 47) (.bool true) rfl rfl (by kernel_rfl) (by kernel_rfl) (by kernel_rfl) (fun _ _ _ h => h) rfl (fun _ => by go_simp) hH ?_
  simp only [Act.put, List.setIfInBounds_toArray, List.set_cons_zero, List.set_cons_succ]
  refine takeVal 25 (some 48) (.bool true) rfl rfl (by kernel_rfl) (by kernel_rfl) (by kernel_rfl) (fun _ _ _ h => h) rfl (fun _ => rfl) hH ?_
  simp only [Act.put, List.setIfInBounds_toArray, List.set_cons_zero, List.set_cons_succ]
  refine takeLoad 26 (some 49) rfl rfl (by kernel_rfl) (by kernel_rfl) (by kernel_rfl) a (fun _ _ _ h => h) rfl _ rfl _ rfl (fun _ h => h.a) HLa.out hH ?_
  simp only [Act.put, List.setIfInBounds_toArray, List.set_cons_zero, List.set_cons_succ]
  refine takeLoad 27 (some 50) rfl rfl (by kernel_rfl) (by kernel_rfl) (by kernel_rfl) b (fun _ _ _ h => h) rfl _ rfl _ rfl (fun _ h => h.b) HLb.out hH ?_
  simp only [Act.put, List.setIfInBounds_toArray, List.set_cons_zero, List.set_cons_succ]
  refine takeLoad 29 (some 52) rfl rfl (by kernel_rfl) (by kernel_rfl) (by kernel_rfl) a (fun _ _ _ h => h) rfl _ rfl _ rfl (fun _ h => h.a) HLa.out hH ?_
  simp only [Act.put, List.setIfInBounds_toArray, List.set_cons_zero, List.set_cons_succ]
  refine takeLoad 30 (some 53) rfl rfl (by kernel_rfl) (by kernel_rfl) (by kernel_rfl) b (fun _ _ _ h => h) rfl _ rfl _ rfl (fun _ h => h.b) HLb.out hH ?_
  simp only [Act.put, List.setIfInBounds_toArray, List.set_cons_zero, List.set_cons_succ]
  refine takeCall 28 (some 51) (by kernel_rfl) rfl rfl rfl 28 _ _ rfl [.agg (cellsB a), .agg (cellsB b)] rfl (fun _ _ => Tryd.call28 _ _) ?_
  refine (K9.out _ hH.below).mono ?_
  rintro e wN ⟨rfl, hb⟩
  have hN := hH.later hb
  clear hH hb K9
  refine ⟨_, rfl, hN, fun hH => ?_⟩
  clear hN
  simp only [Act.put, List.setIfInBounds_toArray, List.set_cons_zero, List.set_cons_succ]
  refine takeCall 31 (some 54) (by kernel_rfl) rfl rfl rfl 29 _ _ rfl [.agg (cellsB a), .agg (cellsB b)] rfl (fun _ _ => Tryd.call29 _ _) ?_
  refine (K10.out _ hH.below).mono ?_
  rintro e wN ⟨rfl, hb⟩
  have hN := hH.later hb
  clear hH hb K10
  refine ⟨_, rfl, hN, fun hH => ?_⟩
  clear hN
  simp only [Act.put, List.setIfInBounds_toArray, List.set_cons_zero, List.set_cons_succ]
  refine takeVal 32 (some 55) (.bool true) rfl rfl (by kernel_rfl) (by kernel_rfl) (by kernel_rfl) (fun _ _ _ h => h) rfl (fun _ => by go_simp) hH ?_
  simp only [Act.put, List.setIfInBounds_toArray, List.set_cons_zero, List.set_cons_succ]
  refine takeVal 33 (some 56) (.bool true) rfl rfl (by kernel_rfl) (by kernel_rfl) (by kernel_rfl) (fun _ _ _ h => h) rfl (fun _ => by go_simp) hH ?_
  simp only [Act.put, List.setIfInBounds_toArray, List.set_cons_zero, List.set_cons_succ]
  refine takeVal 34 (some 57) (.bool true) rfl rfl (by kernel_rfl) (by kernel_rfl) (by kernel_rfl) (fun _ _ _ h => h) rfl (fun _ => rfl) hH ?_
  simp only [Act.put, List.setIfInBounds_toArray, List.set_cons_zero, List.set_cons_succ]
  refine takeLoad 35 (some 58) rfl rfl (by kernel_rfl) (by kernel_rfl) (by kernel_rfl) a (fun _ _ _ h => h) rfl _ rfl _ rfl (fun _ h => h.a) HLa.out hH ?_
  simp only [Act.put, List.setIfInBounds_toArray, List.set_cons_zero, List.set_cons_succ]
  refine takeLoad 37 (some 60) rfl rfl (by kernel_rfl) (by kernel_rfl) (by kernel_rfl) a (fun _ _ _ h => h) rfl _ rfl _ rfl (fun _ h => h.a) HLa.out hH ?_
  simp only [Act.put, List.setIfInBounds_toArray, List.set_cons_zero, List.set_cons_succ]
  refine takeCall 36 (some 59) (by kernel_rfl) rfl rfl rfl 30 _ _ rfl [.agg (cellsB a)] rfl (fun _ _ => Tryd.call30 _ _) ?_
  refine (K11.out _ hH.below).mono ?_
  rintro e wN ⟨rfl, hb⟩
  have hN := hH.later hb
  clear hH hb K11
  refine ⟨_, rfl, hN, fun hH => ?_⟩
  clear hN
  simp only [Act.put, List.setIfInBounds_toArray, List.set_cons_zero, List.set_cons_succ]
  refine takeCall 38 (some 61) (by kernel_rfl) rfl rfl rfl 18 _ _ rfl [.agg (cellsB a)] rfl (fun _ _ => Tryd.call18 _ _) ?_
  refine (K12.out _).mono ?_
  rintro e wN ⟨pl, cl, rfl, hb⟩
  have hN := hH.later hb
  clear hH hb K12
  refine ⟨_, rfl, hN, fun hH => ?_⟩
  clear hN
  simp only [Act.put, List.setIfInBounds_toArray, List.set_cons_zero, List.set_cons_succ]
  refine takeVal 39 (some 62) (.int .i64 (nn : Int)) rfl rfl (by kernel_rfl) (by kernel_rfl) (by kernel_rfl) (fun _ _ _ h => h) rfl (fun _ => by go_simp) hH ?_
  simp only [Act.put, List.setIfInBounds_toArray, List.set_cons_zero, List.set_cons_succ]
  refine takeVal 40 (some 63) (.bool true) rfl rfl (by kernel_rfl) (by kernel_rfl) (by kernel_rfl) (fun _ _ _ h => h) rfl (fun _ => by go_simp) hH ?_
  simp only [Act.put, List.setIfInBounds_toArray, List.set_cons_zero, List.set_cons_succ]
  refine takeVal 41 (some 64) (.bool true) rfl rfl (by kernel_rfl) (by kernel_rfl) (by kernel_rfl) (fun _ _ _ h => h) rfl (fun _ => by go_simp) hH ?_
  simp only [Act.put, List.setIfInBounds_toArray, List.set_cons_zero, List.set_cons_succ]
  refine takeVal 42 (some 65) (.bool true) rfl rfl (by kernel_rfl) (by kernel_rfl) (by kernel_rfl) (fun _ _ _ h => h) rfl (fun _ => rfl) hH ?_
  simp only [Act.put, List.setIfInBounds_toArray, List.set_cons_zero, List.set_cons_succ]
  refine takeVal 43 (some 66) (.int .i64 x) rfl rfl (by kernel_rfl) (by kernel_rfl) (by kernel_rfl) (fun _ _ _ h => h) rfl (fun _ => rfl) hH ?_
  simp only [Act.put, List.setIfInBounds_toArray, List.set_cons_zero, List.set_cons_succ]
  refine takeVal 44 (some 67) (.int .i64 x) rfl rfl (by kernel_rfl) (by kernel_rfl) (by kernel_rfl) (fun _ _ _ h => h) rfl (fun _ => rfl) hH ?_
  simp only [Act.put, List.setIfInBounds_toArray, List.set_cons_zero, List.set_cons_succ]
  refine takeVal 45 (some 68) (.bool true) rfl rfl (by kernel_rfl) (by kernel_rfl) (by kernel_rfl) (fun _ _ _ h => h) rfl (fun _ => by go_simp) hH ?_
  simp only [Act.put, List.setIfInBounds_toArray, List.set_cons_zero, List.set_cons_succ]
  refine takeVal 46 (some 69) (.bool true) rfl rfl (by kernel_rfl) (by kernel_rfl) (by kernel_rfl) (fun _ _ _ h => h) rfl (fun _ => by go_simp) hH ?_
  simp only [Act.put, List.setIfInBounds_toArray, List.set_cons_zero, List.set_cons_succ]
  refine takeVal 47 (some 70) (.bool true) rfl rfl (by kernel_rfl) (by kernel_rfl) (by kernel_rfl) (fun _ _ _ h => h) rfl (fun _ => rfl) hH ?_
  simp only [Act.put, List.setIfInBounds_toArray, List.set_cons_zero, List.set_cons_succ]
  refine takeVal 48 (some 71) (.bool ok) rfl rfl (by kernel_rfl) (by kernel_rfl) (by kernel_rfl) (fun _ _ _ h => h) rfl (fun _ => rfl) hH ?_
  simp only [Act.put, List.setIfInBounds_toArray, List.set_cons_zero, List.set_cons_succ]
  refine takeVal 49 (some 72) (.bool ok) rfl rfl (by kernel_rfl) (by kernel_rfl) (by kernel_rfl) (fun _ _ _ h => h) rfl (fun _ => rfl) hH ?_
  simp only [Act.put, List.setIfInBounds_toArray, List.set_cons_zero, List.set_cons_succ]
  refine takeVal 50 (some 73) (.bool true) rfl rfl (by kernel_rfl) (by kernel_rfl) (by kernel_rfl) (fun _ _ _ h => h) rfl (fun _ => by go_simp) hH ?_
  simp only [Act.put, List.setIfInBounds_toArray, List.set_cons_zero, List.set_cons_succ]
  refine takeVal 51 (some 74) (.bool true) rfl rfl (by kernel_rfl) (by kernel_rfl) (by kernel_rfl) (fun _ _ _ h => h) rfl (fun _ => by go_simp) hH ?_
  simp only [Act.put, List.setIfInBounds_toArray, List.set_cons_zero, List.set_cons_succ]
  refine takeVal 52 (some 75) (.bool true) rfl rfl (by kernel_rfl) (by kernel_rfl) (by kernel_rfl) (fun _ _ _ h => h) rfl (fun _ => rfl) hH ?_
  simp only [Act.put, List.setIfInBounds_toArray, List.set_cons_zero, List.set_cons_succ]
  refine takeLoad 53 (some 76) rfl rfl (by kernel_rfl) (by kernel_rfl) (by kernel_rfl) a (fun _ _ _ h => h) rfl _ rfl _ rfl (fun _ h => h.a) HLa.out hH ?_
  simp only [Act.put, List.setIfInBounds_toArray, List.set_cons_zero, List.set_cons_succ]
  refine takeLoad 54 (some 77) rfl rfl (by kernel_rfl) (by kernel_rfl) (by kernel_rfl) b (fun _ _ _ h => h) rfl _ rfl _ rfl (fun _ h => h.b) HLb.out hH ?_
  simp only [Act.put, List.setIfInBounds_toArray, List.set_cons_zero, List.set_cons_succ]
  refine takeLoad 56 (some 79) rfl rfl (by kernel_rfl) (by kernel_rfl) (by kernel_rfl) a (fun _ _ _ h => h) rfl _ rfl _ rfl (fun _ h => h.a) HLa.out hH ?_
  simp only [Act.put, List.setIfInBounds_toArray, List.set_cons_zero, List.set_cons_succ]
  refine takeLoad 57 (some 80) rfl rfl (by kernel_rfl) (by kernel_rfl) (by kernel_rfl) b (fun _ _ _ h => h) rfl _ rfl _ rfl (fun _ h => h.b) HLb.out hH ?_
  simp only [Act.put, List.setIfInBounds_toArray, List.set_cons_zero, List.set_cons_succ]
  refine takeCall 55 (some 78) (by kernel_rfl) rfl rfl rfl 31 _ _ rfl [.agg (cellsB a), .agg (cellsB b)] rfl (fun _ _ => Tryd.call31 _ _) ?_
  refine (K13.out _ hH.below).mono ?_
  rintro e wN ⟨rfl, hb⟩
  have hN := hH.later hb
  clear hH hb K13
  refine ⟨_, rfl, hN, fun hH => ?_⟩
  clear hN
  simp only [Act.put, List.setIfInBounds_toArray, List.set_cons_zero, List.set_cons_succ]
  refine takeCall 58 (some 81) (by kernel_rfl) rfl rfl rfl 32 _ _ rfl [.agg (cellsB a), .agg (cellsB b)] rfl (fun _ _ => Tryd.call32 _ _) ?_
  refine (K14.out _ hH.below).mono ?_
  rintro e wN ⟨rfl, hb⟩
  have hN := hH.later hb
  clear hH hb K14
  refine ⟨_, rfl, hN, fun hH => ?_⟩
  clear hN
  simp only [Act.put, List.setIfInBounds_toArray, List.set_cons_zero, List.set_cons_succ]
  refine takeVal 59 (some 82) (.bool true) rfl rfl (by kernel_rfl) (by kernel_rfl) (by kernel_rfl) (fun _ _ _ h => h) rfl (fun _ => by go_simp) hH ?_
  simp only [Act.put, List.setIfInBounds_toArray, List.set_cons_zero, List.set_cons_succ]
  refine takeVal 60 (some 83) (.bool true) rfl rfl (by kernel_rfl) (by kernel_rfl) (by kernel_rfl) (fun _ _ _ h => h) rfl (fun _ => by go_simp) hH ?_
  simp only [Act.put, List.setIfInBounds_toArray, List.set_cons_zero, List.set_cons_succ]
  refine takeVal 61 (some 84) (.bool true) rfl rfl (by kernel_rfl) (by kernel_rfl) (by kernel_rfl) (fun _ _ _ h => h) rfl (fun _ => rfl) hH ?_
  simp only [Act.put, List.setIfInBounds_toArray, List.set_cons_zero, List.set_cons_succ]
  refine takeCall 62 (some 85) (by kernel_rfl) rfl rfl rfl 19 _ _ rfl [] rfl (fun _ _ => Tryd.call19 _ _) ?_
  refine (KH.out _ hH.below).mono ?_
  rintro e wN ⟨rfl, hb⟩
  have hN := hH.later hb
  clear hH hb KH
  refine ⟨_, rfl, hN, fun hH => ?_⟩
  clear hN
  simp only [Act.put, List.setIfInBounds_toArray, List.set_cons_zero, List.set_cons_succ]
  refine takeVal 63 (some 86) (.bool true) rfl rfl (by kernel_rfl) (by kernel_rfl) (by kernel_rfl) (fun _ _ _ h => h) rfl (fun _ => by go_simp) hH ?_
  simp only [Act.put, List.setIfInBounds_toArray, List.set_cons_zero, List.set_cons_succ]
  refine takeVal 64 (some 6) (.bool true) rfl rfl (by kernel_rfl) (by kernel_rfl) (by kernel_rfl) (fun _ _ _ h => h) rfl (fun _ => rfl) hH ?_
  simp only [Act.put, List.setIfInBounds_toArray, List.set_cons_zero, List.set_cons_succ]
  refine wpAnyH_done (by kernel_rfl) ?_ _
  have HZ := show Hid (Below w.heap.size w _) from hH.below
  clear hH
  go_wp2
  go_ret
  exact ⟨rfl, HZ.out⟩
end Go.Proofs.YthkolkmcnpafiaaDoor
