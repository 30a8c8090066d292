/-
  BitsMakes: for every list of numbers, every set and every number the law answers true. The tables stand.
-/
import Derived.Test.YthkolkmcnpafiaaDoorBLaid
import Derived.Test.YthkolkmcnpafiaaDoorBListC
import Derived.Test.YthkolkmcnpafiaaDoorBTake
import Derived.Test.YthkolkmcnpafiaaDoorBDropR
import Derived.Test.YthkolkmcnpafiaaDoorBOfR
import Derived.Test.YthkolkmcnpafiaaDoorBInts
namespace Go.Proofs.YthkolkmcnpafiaaDoor
open Go.RowKit Go.Maps
open Bs (Ok wd)

/-- A slice of these numbers in a block of its own is a slice of these numbers. -/
theorem isL_own {base : Nat} {w : World} {v : Value} {l : List Int} (h : w.ownsRow base 3 1 v l.length (l.map (Value.int .i64))) (hl : l.length ≤ 9223372036854775807) : IsL w v l := by
  rcases h.2 with ⟨rfl, h0⟩ | ⟨g, cap, cur, rfl, hg, hh, h1, h2, h3, h4⟩
  · obtain rfl : l = [] := List.eq_nil_of_length_eq_zero h0
    exact ⟨_, _, rfl, hl, fun k hk => absurd hk (by simp)⟩
  · refine ⟨_, _, rfl, hl, fun k hk => ⟨g, 0, rfl, ?_⟩⟩
    have := h.cellAt k (by omega)
    rw [Nat.zero_add, this]
    simp [hk]
/-- What is held: the world below, the list's own copy, the sets in their variables. -/
structure MF (w : World) (ov : Value) (l : List Int) (L : List (Nat × List Nat)) (W : World) : Prop where
  below : Below w.heap.size w W
  own : IsL W ov l
  rows : ∀ p ∈ L, RowAt W p.1 p.2
theorem MF.later {w : World} {ov : Value} {l : List Int} {L : List (Nat × List Nat)} {W W' : World} (h : MF w ov l L W) (hb : Below W.heap.size W W') : MF w ov l L W' :=
  ⟨h.below.trans (hb.mono h.below.size), h.own.later hb, fun p hp => (h.rows p hp).keep hb (h.rows p hp).lt⟩
theorem MF.drew {w : World} {ov : Value} {l : List Int} {L : List (Nat × List Nat)} {W : World} (h : MF w ov l L W) : MF w ov l L W.drew := h.later (Below.refl _ _).drew
theorem MF.push {w : World} {ov : Value} {l : List Int} {L : List (Nat × List Nat)} {W : World} (h : MF w ov l L W) (r : List Nat) : MF w ov l ((W.heap.size, r) :: L) (W.alloc (.cells (cellsB r) 25)) := by
  have h2 := h.later (below_alloc W (.cells (cellsB r) 25))
  refine ⟨h2.below, h2.own, fun p hp => ?_⟩
  rcases List.mem_cons.1 hp with rfl | hp
  · exact heap_alloc_last W _
  · exact h2.rows p hp
theorem own_sliceI {base : Nat} {w : World} {v : Value} {k : Nat} {xs : List Value} (h : w.ownsRow base 3 1 v k xs) : ∃ p c, v = .slice p k c := by
  rcases h.2 with ⟨rfl, h0⟩ | ⟨g, cap, cur, rfl, _⟩
  · exact ⟨_, _, by rw [h0]⟩
  · exact ⟨_, _, rfl⟩
/-- 'append([]int{}, l...)': l's numbers in a block of their own. -/
theorem wpList_copy {ops : Array Oper} {rest : List Oper} {o : Oper} {a : Act} {Q : Exit → Act → World → Prop} (W : World) (s x : Operand) (hop : o.op = Op.call { callee := Callee.builtin Builtin.append, args := #[s, x], argTypes := #[22, 22] }) (hg : o.guard = none)
    (base g : Nat) (hs : a.eval s = .slice (some ⟨g, 0, none⟩) 0 0) (hown : W.ownsRow base 3 1 (.slice (some ⟨g, 0, none⟩) 0 0) 0 []) (hbase : base ≤ W.heap.size) (p : Option Addr) (l : List Int) (c : Nat) (hx : a.eval x = .slice p l.length c) (hp : p = none → c = 0)
    (hl8 : l.length * 8 ≤ 140737488355328) (hcell : ∀ k (hk : k < l.length), ∃ b o, p = some ⟨b, o, none⟩ ∧ W.cell? ⟨b, o + k, none⟩ = some (.int .i64 l[k]))
    (hK : ∀ p' c' w', w'.ownsRow base 3 1 (.slice p' l.length c') l.length (l.map (Value.int .i64)) → W.grownBy w' (some g) → wpList Tryd.prog ops Q rest (a.put o.dst (.slice p' l.length c')) w') : wpList Tryd.prog ops Q (o :: rest) a W := by
  obtain ⟨i0, hi, hz0, hz1, hz2⟩ := info_parts infoI
  cases l with
  | nil =>
    refine wpList_append_fits_any W hg s x 22 hop base 3 i0 1 Tryd.underlying22 hi hz1 g 0 0 [] hs hown p 0 c [] hx rfl (fun h => ⟨rfl, hp h⟩) (fun _ _ j u h => by cases h) (fun u h => by cases h) (Nat.le_refl _) (fun w' h1 h2 => ?_)
    exact hK _ _ w' h1 h2
  | cons n0 l0 =>
    obtain ⟨bb, oo, rfl, -⟩ := hcell 0 (by simp)
    refine wpList_append_own W hg s x 22 hop base 3 i0 (.int .i64 0) 1 8 Tryd.underlying22 hi hz0 hz1 hz2 rfl (by decide) _ 0 [] hs hown ⟨bb, oo, none⟩ (n0 :: l0).length c ((n0 :: l0).map (Value.int .i64)) hx (by simp) (fun j u hj => ?_) (fun u hu => ?_) (by unfold maxLen; omega) (by omega) hbase (fun v' w' h1 h2 _ => ?_)
    · obtain ⟨hlt, rfl⟩ := List.getElem?_eq_some_iff.1 hj
      obtain ⟨b2, o2, he, hc⟩ := hcell j (by simpa using hlt)
      cases he
      rw [List.getElem_map]
      by_cases hj0 : j = 0
      · subst hj0
        simpa [Addr.add] using hc
      · simpa [Addr.add, hj0] using hc
    · obtain ⟨n, _, rfl⟩ := List.mem_map.1 hu
      rfl
    · rw [Nat.zero_add, List.nil_append] at h1
      obtain ⟨p', c', rfl⟩ := own_sliceI h1
      exact hK _ _ w' h1 h2
theorem own_none (w : World) (b : List Nat) : ((w.alloc (.cells (cellsB b) 25)).alloc (.cells #[] 3)).ownsRow w.heap.size 3 1 (.slice (some ⟨w.heap.size + 1, 0, none⟩) 0 0) 0 [] :=
  ⟨rfl, .inr ⟨w.heap.size + 1, 0, #[], rfl, Nat.le_succ _, (heap_two w _ _).2, Nat.le_refl _, Nat.zero_le _, rfl, rfl⟩⟩
theorem mf_start {w w' : World} {b : List Nat} {ov : Value} {l : List Int} (hg : ((w.alloc (.cells (cellsB b) 25)).alloc (.cells #[] 3)).grownBy w' (some (w.heap.size + 1))) (ho : w'.ownsRow w.heap.size 3 1 ov l.length (l.map (Value.int .i64))) (hl : l.length ≤ 9223372036854775807) : MF w ov l [(w.heap.size, b)] w' := by
  have hb : Below (w.heap.size + 1) ((w.alloc (.cells (cellsB b) 25)).alloc (.cells #[] 3)) w' := (Below.refl _ _).grown hg (by simp only [World.size_alloc]; omega) (fun k hk => by cases hk; exact Nat.le_refl _)
  refine ⟨(below_two w _ _).trans (hb.mono (Nat.le_succ _)), isL_own ho hl, fun p hp => ?_⟩
  obtain rfl : p = (w.heap.size, b) := by simpa using hp
  exact RowAt.keep (heap_two w _ _).1 hb (Nat.lt_succ_self _)
-- FROM HERE ON genmakes.py
theorem list_isL {f : FuncId} {args : Array Value} {w : World} {r : List Nat} (h : Calls Tryd.prog f args w fun e w' => ∃ v, e = .returned v ∧ OwnI w.heap.size w' v (Bs.nums r) ∧ Below w.heap.size w w') :
    Calls Tryd.prog f args w fun e w' => ∃ pl cl, e = .returned (.slice pl (Bs.nums r).length cl) ∧ IsL w' (.slice pl (Bs.nums r).length cl) ((Bs.nums r).map fun n : Nat => (n : Int)) ∧ Below w.heap.size w w' := h.mono fun _ _ ⟨v, h1, h2, h3⟩ => by
  have h4 := h2.isL (Bs.nums_len_le r)
  obtain ⟨p, c, rfl⟩ := h2.slice
  exact ⟨p, c, h1, h4, h3⟩
theorem putI_ok {r : List Nat} (h : Ok r) (n : Int) : Ok (putI r n).1 := by
  unfold putI
  split
  · exact Bs.put_ok h _
  · exact Bs.zero_ok
theorem dropI_ok {r : List Nat} (h : Ok r) (n : Int) : Ok (dropI r n) := by
  unfold dropI
  split
  · exact Bs.drop_ok h _
  · exact h
set_option maxRecDepth 100000 in
set_option maxHeartbeats 16000000 in
theorem makes_any (w : World) (hT : Tabs w) (v : Value) (l : List Int) (hv : IsL w v l) (hnil : ∀ m c, v = .slice none m c → c = 0) (hl8 : l.length * 8 ≤ 140737488355328) {b : List Nat} (hb : Ok b) (n : Int) : Calls Tryd.prog 3 #[v, .agg (cellsB b), .int .i64 n] w fun e w' => e = .returned (.bool true) ∧ Below w.heap.size w w' := by
  have HV := show Hid (∀ w', Below w.heap.size w w' → IsL w' v l) from fun w' h => hv.later h
  obtain ⟨p, c, rfl, hlen, hcell⟩ := hv
  have hp0 : p = none → c = 0 := fun h => hnil l.length c (by rw [h])
  have HC := show Hid (∀ k (hk : k < l.length), ∃ b' o, p = some ⟨b', o, none⟩ ∧ ((w.alloc (.cells (cellsB b) 25)).alloc (.cells #[] 3)).cell? ⟨b', o + k, none⟩ = some (.int .i64 l[k])) from fun k hk => by
    obtain ⟨b', o, h1, h2⟩ := hcell k hk
    exact ⟨b', o, h1, cell_later (below_two w _ _) h2⟩
  clear hcell hnil
  go_enter Tryd.func3, Tryd.ntmps3
  go_wp2_with (at_builtin; refine wpList_copy _ (.tmp 16) (.tmp 17) rfl rfl w.heap.size (w.heap.size + 1) rfl (own_none w b) (by simp only [World.size_alloc]; omega) p l c rfl hp0 hl8 HC.out ?_; intro p' c' w1 ho1 hg1; have X1 := show Hid (MF w (.slice p' l.length c') l [(w.heap.size, b)] w1) from mf_start hg1 ho1 hlen; clear ho1 hg1)
  have K1 := show Hid (∀ w', IsL w' (.slice p' l.length c') l → Calls Tryd.prog 8 #[.slice p' l.length c'] w' fun e w'' => e = .returned (.tuple #[.agg (cellsB (ofR l Bs.zero).1), .int .i64 (ofR l Bs.zero).2]) ∧ Below w'.heap.size w' w'') from fun w' h => of_any w' _ l h
  have K2 := show Hid (∀ w', IsL w' (.slice p l.length c) l → Calls Tryd.prog 9 #[.slice p l.length c] w' fun e w'' => e = .returned (.tuple #[.agg (cellsB (ofR l Bs.zero).1), .int .i64 (ofR l Bs.zero).2]) ∧ Below w'.heap.size w' w'') from fun w' h => rof_any w' _ l h
  have K3 := show Hid (∀ w', Calls Tryd.prog 10 #[.agg (cellsB b), .int .i64 n] w' fun e w'' => e = .returned (.tuple #[.agg (cellsB (putI b n).1), .int .i64 (putI b n).2]) ∧ Below w'.heap.size w' w'') from fun w' => put_any w' hb n
  have K4 := show Hid (∀ w', Calls Tryd.prog 11 #[.agg (cellsB b), .int .i64 n] w' fun e w'' => e = .returned (.tuple #[.agg (cellsB (putI b n).1), .int .i64 (putI b n).2]) ∧ Below w'.heap.size w' w'') from fun w' => rput_any w' hb n
  have K5 := show Hid (∀ w', Calls Tryd.prog 12 #[.agg (cellsB b), .int .i64 n] w' fun e w'' => e = .returned (.bool (Bs.hasI b n)) ∧ Below w'.heap.size w' w'') from fun w' => has_any w' hb n
  have K6 := show Hid (∀ w', Calls Tryd.prog 13 #[.agg (cellsB b), .int .i64 n] w' fun e w'' => e = .returned (.bool (Bs.hasI b n)) ∧ Below w'.heap.size w' w'') from fun w' => (rhas_any w' hb n).mono fun _ _ h => ⟨h.1, by rw [h.2]; exact below_alloc _ _⟩
  have K7 := show Hid (∀ w', Calls Tryd.prog 14 #[.agg (cellsB b), .int .i64 n] w' fun e w'' => e = .returned (.agg (cellsB (dropI b n))) ∧ Below w'.heap.size w' w'') from fun w' => drop_any w' hb n
  have K8 := show Hid (∀ w', Calls Tryd.prog 15 #[.agg (cellsB b), .int .i64 n] w' fun e w'' => e = .returned (.agg (cellsB (dropI b n))) ∧ Below w'.heap.size w' w'') from fun w' => rdrop_any w' hb n
  have K9 := show Hid (∀ w', Below w.heap.size w w' → Calls Tryd.prog 17 #[.agg (cellsB b)] w' fun e w'' => ∃ pl cl, e = .returned (.slice pl (Bs.nums b).length cl) ∧ IsL w'' (.slice pl (Bs.nums b).length cl) ((Bs.nums b).map fun n : Nat => (n : Int)) ∧ Below w'.heap.size w' w'') from fun w' h => list_isL (list_any w' (hT.later h).1 hb)
  have K10 := show Hid (∀ w', Calls Tryd.prog 18 #[.agg (cellsB b)] w' fun e w'' => ∃ pl cl, e = .returned (.slice pl (Bs.nums b).length cl) ∧ IsL w'' (.slice pl (Bs.nums b).length cl) ((Bs.nums b).map fun n : Nat => (n : Int)) ∧ Below w'.heap.size w' w'') from fun w' => list_isL (rlist_any w' hb)
  have KI := show Hid (∀ w' u v (l : List Int), IsL w' u l → IsL w' v l → Calls Tryd.prog 16 #[u, v] w' fun e w'' => e = .returned (.bool true) ∧ Below w'.heap.size w' w'') from fun w' u v l h1 h2 => ints_any w' u v l h1 h2
  have KH := show Hid (∀ w', Below w.heap.size w w' → Calls Tryd.prog 19 #[] w' fun e w'' => e = .returned (.bool true) ∧ Below w'.heap.size w' w'') from fun w' h => heads_any w' (hT.later h)
  have HLb := show Hid (b.length = 16) from hb.1
  have HLA := show Hid ((ofR l Bs.zero).1.length = 16) from (ofR_ok l Bs.zero_ok).1
  have HLD := show Hid ((putI b n).1.length = 16) from (putI_ok hb n).1
  have HLR := show Hid ((dropI b n).length = 16) from (dropI_ok hb n).1
  clear hb hT hl8 hp0 HC
  generalize (ofR l Bs.zero).1 = A at *
  generalize (ofR l Bs.zero).2 = E at *
  generalize (putI b n).1 = D at *
  generalize (putI b n).2 = G at *
  generalize Bs.hasI b n = hh at *
  generalize dropI b n = R at *
  generalize (Bs.nums b).map (fun n : Nat => (n : Int)) = L2 at *
  generalize (Bs.nums b).length = nn at *
  refine (K1.out _ X1.out.own).mono ?_
  rintro e w2 ⟨rfl, hb2⟩
  have X2 := show Hid (MF w (.slice p' l.length c') l [(w2.heap.size, A), (w.heap.size, b)] (w2.alloc (.cells (cellsB A) 25))) from (X1.out.later hb2).push A
  clear hb2 X1 K1
  go_wp2_with (first | (refine wpList_st w2 _ _ _ rfl rfl rfl rfl rfl (r' := A) rfl HLA.out ?_))
  refine (K2.out _ (HV.out _ X2.out.below)).mono ?_
  rintro e w3 ⟨rfl, hb3⟩
  have X3 := show Hid (MF w (.slice p' l.length c') l [(w3.heap.size, A), (w2.heap.size, A), (w.heap.size, b)] (w3.alloc (.cells (cellsB A) 25))) from (X2.out.later hb3).push A
  clear hb3 X2 K2
  go_wp2_with (first | (refine wpList_st w3 _ _ _ rfl rfl rfl rfl rfl (r' := A) rfl HLA.out ?_) | (refine wpList_ld _ _ rfl _ rfl (r := b) (X3.out.rows (w.heap.size, b) (by simp)) HLb.out rfl ?_))
  refine (K3.out _).mono ?_
  rintro e w4 ⟨rfl, hb4⟩
  have X4 := show Hid (MF w (.slice p' l.length c') l [(w4.heap.size, D), (w3.heap.size, A), (w2.heap.size, A), (w.heap.size, b)] (w4.alloc (.cells (cellsB D) 25))) from (X3.out.later hb4).push D
  clear hb4 X3 K3
  go_wp2_with (first | (refine wpList_st w4 _ _ _ rfl rfl rfl rfl rfl (r' := D) rfl HLD.out ?_) | (refine wpList_ld _ _ rfl _ rfl (r := b) (X4.out.rows (w.heap.size, b) (by simp)) HLb.out rfl ?_))
  refine (K4.out _).mono ?_
  rintro e w5 ⟨rfl, hb5⟩
  have X5 := show Hid (MF w (.slice p' l.length c') l [(w5.heap.size, D), (w4.heap.size, D), (w3.heap.size, A), (w2.heap.size, A), (w.heap.size, b)] (w5.alloc (.cells (cellsB D) 25))) from (X4.out.later hb5).push D
  clear hb5 X4 K4
  go_wp2_with (first | (refine wpList_st w5 _ _ _ rfl rfl rfl rfl rfl (r' := D) rfl HLD.out ?_))
  generalize w5.alloc (.cells (cellsB D) 25) = w6 at *
  generalize w5.heap.size = g5 at *
  generalize w4.heap.size = g4 at *
  generalize w3.heap.size = g3 at *
  generalize w2.heap.size = g2 at *
  refine wp_region_held_drew (S := fun wx => MF w (.slice p' l.length c') l [(g5, D), (g4, D), (g3, A), (g2, A), (w.heap.size, b)] wx) (by kernel_rfl) X5.out.drew (fun hH => ?_)
  clear X5
  refine takeLoad 0 (some 41) rfl rfl (by kernel_rfl) (by kernel_rfl) (by kernel_rfl) A (fun _ _ _ h => h) rfl _ rfl _ rfl (fun _ h => h.rows _ (.tail _ (.tail _ (.tail _ (.head _))))) HLA.out hH ?_
  simp only [Act.put, List.setIfInBounds_toArray, List.set_cons_zero, List.set_cons_succ]
  refine takeLoad 1 (some 42) rfl rfl (by kernel_rfl) (by kernel_rfl) (by kernel_rfl) A (fun _ _ _ h => h) rfl _ rfl _ rfl (fun _ h => h.rows _ (.tail _ (.tail _ (.head _)))) HLA.out hH ?_
  simp only [Act.put, List.setIfInBounds_toArray, List.set_cons_zero, List.set_cons_succ]
  refine takeEqlT 2 (some 43) rfl rfl (by kernel_rfl) (by kernel_rfl) (by kernel_rfl) A (fun _ _ _ h => h) rfl _ _ _ rfl rfl rfl HLA.out hH ?_
  simp only [Act.put, List.setIfInBounds_toArray, List.set_cons_zero, List.set_cons_succ]
  refine takeVal 3 (some 44) (.bool true) rfl rfl (by kernel_rfl) (by kernel_rfl) (by kernel_rfl) (fun _ _ _ h => h) rfl (fun _ => rfl) hH ?_
  simp only [Act.put, List.setIfInBounds_toArray, List.set_cons_zero, List.set_cons_succ]
  refine takeVal 4 (some 45) (.int .i64 E) rfl rfl (by kernel_rfl) (by kernel_rfl) (by kernel_rfl) (fun _ _ _ h => h) rfl (fun _ => rfl) hH ?_
  simp only [Act.put, List.setIfInBounds_toArray, List.set_cons_zero, List.set_cons_succ]
  refine takeVal 5 (some 46) (.int .i64 E) rfl rfl (by kernel_rfl) (by kernel_rfl) (by kernel_rfl) (fun _ _ _ h => h) rfl (fun _ => rfl) hH ?_
  simp only [Act.put, List.setIfInBounds_toArray, List.set_cons_zero, List.set_cons_succ]
  refine takeVal 6 (some 47) (.bool true) rfl rfl (by kernel_rfl) (by kernel_rfl) (by kernel_rfl) (fun _ _ _ h => h) rfl (fun _ => by go_simp) hH ?_
  simp only [Act.put, List.setIfInBounds_toArray, List.set_cons_zero, List.set_cons_succ]
  refine takeVal 7 (some 48) (.bool true) rfl rfl (by kernel_rfl) (by kernel_rfl) (by kernel_rfl) (fun _ _ _ h => h) rfl (fun _ => by go_simp) hH ?_
  simp only [Act.put, List.setIfInBounds_toArray, List.set_cons_zero, List.set_cons_succ]
  refine takeVal 8 (some 49) (.bool true) rfl rfl (by kernel_rfl) (by kernel_rfl) (by kernel_rfl) (fun _ _ _ h => h) rfl (fun _ => rfl) hH ?_
  simp only [Act.put, List.setIfInBounds_toArray, List.set_cons_zero, List.set_cons_succ]
  refine takeLoad 9 (some 50) rfl rfl (by kernel_rfl) (by kernel_rfl) (by kernel_rfl) D (fun _ _ _ h => h) rfl _ rfl _ rfl (fun _ h => h.rows _ (.tail _ (.head _))) HLD.out hH ?_
  simp only [Act.put, List.setIfInBounds_toArray, List.set_cons_zero, List.set_cons_succ]
  refine takeLoad 10 (some 51) rfl rfl (by kernel_rfl) (by kernel_rfl) (by kernel_rfl) D (fun _ _ _ h => h) rfl _ rfl _ rfl (fun _ h => h.rows _ (.head _)) HLD.out hH ?_
  simp only [Act.put, List.setIfInBounds_toArray, List.set_cons_zero, List.set_cons_succ]
  refine takeEqlT 11 (some 52) rfl rfl (by kernel_rfl) (by kernel_rfl) (by kernel_rfl) D (fun _ _ _ h => h) rfl _ _ _ rfl rfl rfl HLD.out hH ?_
  simp only [Act.put, List.setIfInBounds_toArray, List.set_cons_zero, List.set_cons_succ]
  refine takeVal 12 (some 53) (.bool true) rfl rfl (by kernel_rfl) (by kernel_rfl) (by kernel_rfl) (fun _ _ _ h => h) rfl (fun _ => by go_simp) hH ?_
  simp only [Act.put, List.setIfInBounds_toArray, List.set_cons_zero, List.set_cons_succ]
  refine takeVal 13 (some 54) (.bool true) rfl rfl (by kernel_rfl) (by kernel_rfl) (by kernel_rfl) (fun _ _ _ h => h) rfl (fun _ => rfl) hH ?_
  simp only [Act.put, List.setIfInBounds_toArray, List.set_cons_zero, List.set_cons_succ]
  refine takeVal 14 (some 55) (.int .i64 G) rfl rfl (by kernel_rfl) (by kernel_rfl) (by kernel_rfl) (fun _ _ _ h => h) rfl (fun _ => rfl) hH ?_
  simp only [Act.put, List.setIfInBounds_toArray, List.set_cons_zero, List.set_cons_succ]
  refine takeVal 15 (some 56) (.int .i64 G) rfl rfl (by kernel_rfl) (by kernel_rfl) (by kernel_rfl) (fun _ _ _ h => h) rfl (fun _ => rfl) hH ?_
  simp only [Act.put, List.setIfInBounds_toArray, List.set_cons_zero, List.set_cons_succ]
  refine takeVal 16 (some 57) (.bool true) rfl rfl (by kernel_rfl) (by kernel_rfl) (by kernel_rfl) (fun _ _ _ h => h) rfl (fun _ => by go_simp) hH ?_
  simp only [Act.put, List.setIfInBounds_toArray, List.set_cons_zero, List.set_cons_succ]
  refine takeVal 17 (some 58) (.bool true) rfl rfl (by kernel_rfl) (by kernel_rfl) (by kernel_rfl) (fun _ _ _ h => h) rfl (fun _ => by go_simp) hH ?_
  simp only [Act.put, List.setIfInBounds_toArray, List.set_cons_zero, List.set_cons_succ]
  refine takeVal 18 (some 59) (.bool true) rfl rfl (by kernel_rfl) (by kernel_rfl) (by kernel_rfl) (fun _ _ _ h => h) rfl (fun _ => rfl) hH ?_
  simp only [Act.put, List.setIfInBounds_toArray, List.set_cons_zero, List.set_cons_succ]
  refine takeLoad 19 (some 60) rfl rfl (by kernel_rfl) (by kernel_rfl) (by kernel_rfl) b (fun _ _ _ h => h) rfl _ rfl _ rfl (fun _ h => h.rows _ (.tail _ (.tail _ (.tail _ (.tail _ (.head _)))))) HLb.out hH ?_
  simp only [Act.put, List.setIfInBounds_toArray, List.set_cons_zero, List.set_cons_succ]
  refine takeVal 20 (some 61) (.int .i64 n) rfl rfl (by kernel_rfl) (by kernel_rfl) (by kernel_rfl) (fun _ _ _ h => h) rfl (fun _ => rfl) hH ?_
  simp only [Act.put, List.setIfInBounds_toArray, List.set_cons_zero, List.set_cons_succ]
  refine takeLoad 22 (some 63) rfl rfl (by kernel_rfl) (by kernel_rfl) (by kernel_rfl) b (fun _ _ _ h => h) rfl _ rfl _ rfl (fun _ h => h.rows _ (.tail _ (.tail _ (.tail _ (.tail _ (.head _)))))) HLb.out hH ?_
  simp only [Act.put, List.setIfInBounds_toArray, List.set_cons_zero, List.set_cons_succ]
  refine takeVal 23 (some 64) (.int .i64 n) rfl rfl (by kernel_rfl) (by kernel_rfl) (by kernel_rfl) (fun _ _ _ h => h) rfl (fun _ => rfl) hH ?_
  simp only [Act.put, List.setIfInBounds_toArray, List.set_cons_zero, List.set_cons_succ]
  refine takeCall 21 (some 62) (by kernel_rfl) rfl rfl rfl 12 _ _ rfl [.agg (cellsB b), .int .i64 n] rfl (fun _ _ => Tryd.call12 _ _) ?_
  refine (K5.out _).mono ?_
  rintro e wN ⟨rfl, hb⟩
  have hN := hH.later hb
  clear hH hb
  refine ⟨_, rfl, hN, fun hH => ?_⟩
  clear hN
  simp only [Act.put, List.setIfInBounds_toArray, List.set_cons_zero, List.set_cons_succ]
  refine takeCall 24 (some 65) (by kernel_rfl) rfl rfl rfl 13 _ _ rfl [.agg (cellsB b), .int .i64 n] rfl (fun _ _ => Tryd.call13 _ _) ?_
  refine (K6.out _).mono ?_
  rintro e wN ⟨rfl, hb⟩
  have hN := hH.later hb
  clear hH hb
  refine ⟨_, rfl, hN, fun hH => ?_⟩
  clear hN
  simp only [Act.put, List.setIfInBounds_toArray, List.set_cons_zero, List.set_cons_succ]
  refine takeVal 25 (some 66) (.bool true) rfl rfl (by kernel_rfl) (by kernel_rfl) (by kernel_rfl) (fun _ _ _ h => h) rfl (fun _ => by go_simp) hH ?_
  simp only [Act.put, List.setIfInBounds_toArray, List.set_cons_zero, List.set_cons_succ]
  refine takeVal 26 (some 67) (.bool true) rfl rfl (by kernel_rfl) (by kernel_rfl) (by kernel_rfl) (fun _ _ _ h => h) rfl (fun _ => by go_simp) hH ?_
  simp only [Act.put, List.setIfInBounds_toArray, List.set_cons_zero, List.set_cons_succ]
  refine takeVal 27 (some 68) (.bool true) rfl rfl (by kernel_rfl) (by kernel_rfl) (by kernel_rfl) (fun _ _ _ h => h) rfl (fun _ => rfl) hH ?_
  simp only [Act.put, List.setIfInBounds_toArray, List.set_cons_zero, List.set_cons_succ]
  refine takeLoad 28 (some 69) rfl rfl (by kernel_rfl) (by kernel_rfl) (by kernel_rfl) b (fun _ _ _ h => h) rfl _ rfl _ rfl (fun _ h => h.rows _ (.tail _ (.tail _ (.tail _ (.tail _ (.head _)))))) HLb.out hH ?_
  simp only [Act.put, List.setIfInBounds_toArray, List.set_cons_zero, List.set_cons_succ]
  refine takeVal 29 (some 70) (.int .i64 n) rfl rfl (by kernel_rfl) (by kernel_rfl) (by kernel_rfl) (fun _ _ _ h => h) rfl (fun _ => rfl) hH ?_
  simp only [Act.put, List.setIfInBounds_toArray, List.set_cons_zero, List.set_cons_succ]
  refine takeLoad 31 (some 72) rfl rfl (by kernel_rfl) (by kernel_rfl) (by kernel_rfl) b (fun _ _ _ h => h) rfl _ rfl _ rfl (fun _ h => h.rows _ (.tail _ (.tail _ (.tail _ (.tail _ (.head _)))))) HLb.out hH ?_
  simp only [Act.put, List.setIfInBounds_toArray, List.set_cons_zero, List.set_cons_succ]
  refine takeVal 32 (some 73) (.int .i64 n) rfl rfl (by kernel_rfl) (by kernel_rfl) (by kernel_rfl) (fun _ _ _ h => h) rfl (fun _ => rfl) hH ?_
  simp only [Act.put, List.setIfInBounds_toArray, List.set_cons_zero, List.set_cons_succ]
  refine takeCall 30 (some 71) (by kernel_rfl) rfl rfl rfl 14 _ _ rfl [.agg (cellsB b), .int .i64 n] rfl (fun _ _ => Tryd.call14 _ _) ?_
  refine (K7.out _).mono ?_
  rintro e wN ⟨rfl, hb⟩
  have hN := hH.later hb
  clear hH hb
  refine ⟨_, rfl, hN, fun hH => ?_⟩
  clear hN
  simp only [Act.put, List.setIfInBounds_toArray, List.set_cons_zero, List.set_cons_succ]
  refine takeCall 33 (some 74) (by kernel_rfl) rfl rfl rfl 15 _ _ rfl [.agg (cellsB b), .int .i64 n] rfl (fun _ _ => Tryd.call15 _ _) ?_
  refine (K8.out _).mono ?_
  rintro e wN ⟨rfl, hb⟩
  have hN := hH.later hb
  clear hH hb
  refine ⟨_, rfl, hN, fun hH => ?_⟩
  clear hN
  simp only [Act.put, List.setIfInBounds_toArray, List.set_cons_zero, List.set_cons_succ]
  refine takeEqlT 34 (some 75) rfl rfl (by kernel_rfl) (by kernel_rfl) (by kernel_rfl) R (fun _ _ _ h => h) rfl _ _ _ rfl rfl rfl HLR.out hH ?_
  simp only [Act.put, List.setIfInBounds_toArray, List.set_cons_zero, List.set_cons_succ]
  refine takeVal 35 (some 76) (.bool true) rfl rfl (by kernel_rfl) (by kernel_rfl) (by kernel_rfl) (fun _ _ _ h => h) rfl (fun _ => by go_simp) hH ?_
  simp only [Act.put, List.setIfInBounds_toArray, List.set_cons_zero, List.set_cons_succ]
  refine takeVal 36 (some 77) (.bool true) rfl rfl (by kernel_rfl) (by kernel_rfl) (by kernel_rfl) (fun _ _ _ h => h) rfl (fun _ => rfl) hH ?_
  simp only [Act.put, List.setIfInBounds_toArray, List.set_cons_zero, List.set_cons_succ]
  refine takeLoad 37 (some 78) rfl rfl (by kernel_rfl) (by kernel_rfl) (by kernel_rfl) b (fun _ _ _ h => h) rfl _ rfl _ rfl (fun _ h => h.rows _ (.tail _ (.tail _ (.tail _ (.tail _ (.head _)))))) HLb.out hH ?_
  simp only [Act.put, List.setIfInBounds_toArray, List.set_cons_zero, List.set_cons_succ]
  refine takeLoad 39 (some 80) rfl rfl (by kernel_rfl) (by kernel_rfl) (by kernel_rfl) b (fun _ _ _ h => h) rfl _ rfl _ rfl (fun _ h => h.rows _ (.tail _ (.tail _ (.tail _ (.tail _ (.head _)))))) HLb.out hH ?_
  simp only [Act.put, List.setIfInBounds_toArray, List.set_cons_zero, List.set_cons_succ]
  refine takeCall 38 (some 79) (by kernel_rfl) rfl rfl rfl 17 _ _ rfl [.agg (cellsB b)] rfl (fun _ _ => Tryd.call17 _ _) ?_
  refine (K9.out _ hH.below).mono ?_
  rintro e wM ⟨pl, cl, rfl, ho, hb⟩
  have HO := show Hid (IsL wM (.slice pl nn cl) L2) from ho
  clear ho
  have hN := hH.later hb
  clear hH hb
  refine ⟨_, rfl, hN, fun hH => ?_⟩
  clear hN
  simp only [Act.put, List.setIfInBounds_toArray, List.set_cons_zero, List.set_cons_succ]
  refine takeCall 40 (some 81) (by kernel_rfl) rfl rfl rfl 18 _ _ rfl [.agg (cellsB b)] rfl (fun _ _ => Tryd.call18 _ _) ?_
  refine (K10.out _).mono ?_
  rintro e wP ⟨pm, cm, rfl, ho, hb⟩
  have HO2 := show Hid (IsL wP (.slice pl nn cl) L2 ∧ IsL wP (.slice pm nn cm) L2) from ⟨HO.out.later hb, ho⟩
  clear ho HO
  have hN := hH.later hb
  clear hH hb
  refine ⟨_, rfl, hN, fun hH => ?_⟩
  clear hN
  simp only [Act.put, List.setIfInBounds_toArray, List.set_cons_zero, List.set_cons_succ]
  refine takeCall 41 (some 82) (by kernel_rfl) rfl rfl rfl 16 _ _ rfl [.slice pl nn cl, .slice pm nn cm] rfl (fun _ _ => Tryd.call16 _ _) ?_
  refine (KI.out _ _ _ L2 HO2.out.1 HO2.out.2).mono ?_
  rintro e wN ⟨rfl, hb⟩
  clear HO2
  have hN := hH.later hb
  clear hH hb
  refine ⟨_, rfl, hN, fun hH => ?_⟩
  clear hN
  simp only [Act.put, List.setIfInBounds_toArray, List.set_cons_zero, List.set_cons_succ]
  refine takeVal 42 (some 83) (.bool true) rfl rfl (by kernel_rfl) (by kernel_rfl) (by kernel_rfl) (fun _ _ _ h => h) rfl (fun _ => by go_simp) hH ?_
  simp only [Act.put, List.setIfInBounds_toArray, List.set_cons_zero, List.set_cons_succ]
  refine takeVal 43 (some 84) (.bool true) rfl rfl (by kernel_rfl) (by kernel_rfl) (by kernel_rfl) (fun _ _ _ h => h) rfl (fun _ => rfl) hH ?_
  simp only [Act.put, List.setIfInBounds_toArray, List.set_cons_zero, List.set_cons_succ]
  refine takeVal 44 (some 85) (.slice p' l.length c') rfl rfl (by kernel_rfl) (by kernel_rfl) (by kernel_rfl) (fun _ _ _ h => h) rfl (fun _ => rfl) hH ?_
  simp only [Act.put, List.setIfInBounds_toArray, List.set_cons_zero, List.set_cons_succ]
  refine takeVal 45 (some 86) (.slice p l.length c) rfl rfl (by kernel_rfl) (by kernel_rfl) (by kernel_rfl) (fun _ _ _ h => h) rfl (fun _ => rfl) hH ?_
  simp only [Act.put, List.setIfInBounds_toArray, List.set_cons_zero, List.set_cons_succ]
  refine takeCall 46 (some 87) (by kernel_rfl) rfl rfl rfl 16 _ _ rfl [.slice p' l.length c', .slice p l.length c] rfl (fun _ _ => Tryd.call16 _ _) ?_
  refine (KI.out _ _ _ l hH.own (HV.out _ hH.below)).mono ?_
  rintro e wN ⟨rfl, hb⟩
  have hN := hH.later hb
  clear hH hb
  refine ⟨_, rfl, hN, fun hH => ?_⟩
  clear hN
  simp only [Act.put, List.setIfInBounds_toArray, List.set_cons_zero, List.set_cons_succ]
  refine takeVal 47 (some 88) (.bool true) rfl rfl (by kernel_rfl) (by kernel_rfl) (by kernel_rfl) (fun _ _ _ h => h) rfl (fun _ => by go_simp) hH ?_
  simp only [Act.put, List.setIfInBounds_toArray, List.set_cons_zero, List.set_cons_succ]
  refine takeVal 48 (some 89) (.bool true) rfl rfl (by kernel_rfl) (by kernel_rfl) (by kernel_rfl) (fun _ _ _ h => h) rfl (fun _ => rfl) hH ?_
  simp only [Act.put, List.setIfInBounds_toArray, List.set_cons_zero, List.set_cons_succ]
  refine takeCall 49 (some 90) (by kernel_rfl) rfl rfl rfl 19 _ _ rfl [] rfl (fun _ _ => Tryd.call19 _ _) ?_
  refine (KH.out _ hH.below).mono ?_
  rintro e wN ⟨rfl, hb⟩
  have hN := hH.later hb
  clear hH hb
  refine ⟨_, rfl, hN, fun hH => ?_⟩
  clear hN
  simp only [Act.put, List.setIfInBounds_toArray, List.set_cons_zero, List.set_cons_succ]
  refine takeVal 50 (some 91) (.bool true) rfl rfl (by kernel_rfl) (by kernel_rfl) (by kernel_rfl) (fun _ _ _ h => h) rfl (fun _ => by go_simp) hH ?_
  simp only [Act.put, List.setIfInBounds_toArray, List.set_cons_zero, List.set_cons_succ]
  refine takeVal 51 (some 6) (.bool true) rfl rfl (by kernel_rfl) (by kernel_rfl) (by kernel_rfl) (fun _ _ _ h => h) rfl (fun _ => rfl) hH ?_
  simp only [Act.put, List.setIfInBounds_toArray, List.set_cons_zero, List.set_cons_succ]
  refine wpAnyH_done (by kernel_rfl) ?_ _
  have HZ := show Hid (Below w.heap.size w _) from hH.below
  clear hH
  go_wp2
  go_ret
  exact ⟨rfl, HZ.out⟩
end Go.Proofs.YthkolkmcnpafiaaDoor
