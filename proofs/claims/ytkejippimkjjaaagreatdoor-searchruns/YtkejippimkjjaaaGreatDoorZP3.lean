/-
  The document's Premises of the rules whose answers are made in a drawn order. (Written by genzrprem.py.)
-/
import Derived.Test.YtkejippimkjjaaaGreatDoorZP1
namespace Go.Proofs.YtkejippimkjjaaaGreatDoor
open Go.RowKit Go.Shelf Go.Maps
open Fm (Nd)
open Bt.Bs (Ok wd)
set_option linter.unusedSimpArgs false

set_option maxRecDepth 100000 in
set_option maxHeartbeats 4000000 in
theorem rprem_8 (w0 : World) {c : Nat} {u : Value} {t : List Nd} (hT : Tr w0 c u t) {r : List Nat} (hr : Ok r) (g : Int) (i : Nat) (hi : i < t.length) (hf : findF t r g 8 (i : Int) = true) (x y : Nat) (hx : t[i].l = x) (hy : t[i].r = y) (hxl : x < 1024) (_hyl : y < 1024) :
    Calls Tryz.prog 37 #[.pointer (some ⟨c, 0, none⟩), .agg (cellsQ r g), .int .i64 8, .int .i64 (i : Int)] w0 fun e w' => ∃ sv, e = .returned (.tuple #[sv, .int .i64 0]) ∧ SqL sv [(withF r [(x : Int), (x : Int)], (y : Int))] w' ∧ Below w0.heap.size w0 w' := by
  have hl := hr.1
  have hiI : (i : Int) < (t.length : Int) := by omega
  have hlen := hT.ok.len
  have KF := show Hid (∀ W : World, Below w0.heap.size w0 W → Calls Tryz.prog 56 #[.pointer (some ⟨c, 0, none⟩), .agg (cellsQ r g), .int .i64 8, .int .i64 (i : Int)] W fun e w' => e = .returned (.bool true) ∧ Below W.heap.size W w') from fun W hb => by
    have := rfits_any W (hT.later hb) hr g 8 (i : Int)
    rw [hf] at this
    exact this
  have KD := show Hid (∀ W : World, Calls Tryz.prog 57 #[.agg (Bt.cellsB r), .int .i64 (i : Int)] W fun e w' => e = .returned (.agg (Bt.cellsB (Bt.dropI r (i : Int)))) ∧ Below W.heap.size W w') from fun W => Bt.rdrop_any W hr (i : Int)
  have hrs : Ok (Bt.dropI r (i : Int)) := dropI_okZ hr (i : Int)
  have HT := show Hid (∀ W : World, Below w0.heap.size w0 W → Tr W c u t) from fun W hb => hT.later hb
  have HC := show Hid (∀ W : World, Below w0.heap.size w0 W → W.cell? ⟨c, 0, none⟩ = some u) from fun W hb => (hT.later hb).c0
  obtain ⟨p, cp, hu, hc1, hc2, hat⟩ := hT.row.isR.at
  obtain ⟨bb, oo, hp, hat4⟩ := hat (by omega)
  subst hp
  have HAT := show Hid (∀ W : World, Below w0.heap.size w0 W → At4 W bb (oo + i * 4) t[i]) from fun W hb => hat4 W hb i hi
  have HAX := show Hid (∀ W : World, Below w0.heap.size w0 W → ∀ j (hj : j < t.length), At4 W bb (oo + j * 4) t[j]) from fun W hb j hj => hat4 W hb j hj
  subst hu
  clear hT hat hat4 hf
  generalize Bt.dropI r (i : Int) = rst at *
  have hl2 := hrs.1
  generalize t[i] = nd at *
  go_enter Tryz.func37, Tryz.ntmps37
  go_wp2_with (refine wpList_box 27 _ rfl _ rfl rfl ?_)
  intro w1 b5 hn1
  have H1 := show Hid (RS1 w0 w1 b5 r g) from ⟨hn1.blk, hn1.bel, hn1.ge⟩
  clear hn1
  go_wp2_with (refine wpList_ldQQ _ _ rfl b5 rfl H1.out.s hl rfl ?_)
  refine Calls.mono (KF.out _ H1.out.bel) ?_
  rintro e w2 ⟨rfl, hb2⟩
  have H2 := show Hid _ from H1.out.later hb2
  have c0 := HC.out w2 H2.out.bel
  clear H1 hb2 KF
  go_wp2_with (first | (refine wpList_ld4 _ rfl _ rfl bb (oo + i * 4) rfl (HAT.out w2 H2.out.bel) ?_) | (refine wpList_alloc 54 rfl _ zeroN rfl ?_))
  intro w3 b10 hn3
  go_wp2_with (refine wpList_st 54 rfl rfl _ _ rfl b10 rfl (ndC nd).toArray rfl _ _ hn3.blk (by rw [sizeN]; rfl) rfl (ndC_all nd) ?_)
  intro w4 hc4 hk4
  have H4 := show Hid (RS1 w0 w4 b5 r g ∧ Cl w4 b10 (ndC nd).toArray 54 ∧ w0.heap.size ≤ b10) from by
    have e1 := H2.out.bel.size; have e2 := hn3.ge; have e3 := Cl.lt H2.out.s
    exact ⟨⟨Cl.kp (T := 27) (Cl.new H2.out.s hn3) hk4 (by omega), bel_kp (bel_new H2.out.bel hn3) hk4 (by omega), H2.out.ge⟩, hc4, by omega⟩
  clear H2 hn3 hc4 hk4 c0
  go_wp2_with (first | (refine wpList_ldQQ _ _ rfl b5 rfl H4.out.1.s hl rfl ?_) | (refine wpList_alloc 27 rfl _ zeroValQ rfl ?_))
  intro w5 b11 hn5
  go_wp2_with (refine wpList_st 27 rfl rfl _ _ rfl b11 rfl (cellsQ r g) rfl _ _ hn5.blk (by rw [sizeQ, cellsQ_size hl]) (by rw [cellsQ_size hl]; rfl) (cellsQ_one r g) ?_)
  intro w6 hc6 hk6
  have H6 := show Hid (RS1 w0 w6 b5 r g ∧ Cl w6 b10 (ndC nd).toArray 54 ∧ SeqAt w6 b11 r g ∧ b11 ≠ b5 ∧ b11 ≠ b10 ∧ w0.heap.size ≤ b11) from by
    have e1 := H4.out.1.bel.size; have e2 := hn5.ge; have e3 := Cl.lt H4.out.1.s; have e4 := Cl.lt H4.out.2.1
    exact ⟨⟨Cl.kp (T := 27) (Cl.new H4.out.1.s hn5) hk6 (by omega), bel_kp (bel_new H4.out.1.bel hn5) hk6 (by omega), H4.out.1.ge⟩, Cl.kp (Cl.new H4.out.2.1 hn5) hk6 (by omega), hc6, by omega, by omega, by omega⟩
  clear H4 hn5 hc6 hk6
  go_wp2_with (refine wpList_ldBQ _ rfl _ rfl b5 0 rfl H6.out.1.s.seqIn hl ?_)
  refine Calls.mono (KD.out w6) ?_
  rintro e w7 ⟨rfl, hb7⟩
  have hs7 : SeqAt w7 b11 r g := H6.out.2.2.1.later hb7 H6.out.2.2.1.lt
  go_wp2_with (refine wpList_stBQ _ rfl rfl _ _ rfl b11 rfl rfl hs7 hl hl2 ?_)
  intro w8 hs8 hk8
  have HB8 := show Hid (RS1 w0 w8 b5 r g ∧ Cl w8 b10 (ndC nd).toArray 54) from
    ⟨⟨Cl.kp (T := 27) (H6.out.1.later hb7).s hk8 (fun e => H6.out.2.2.2.1 e.symm), bel_kp (H6.out.1.later hb7).bel hk8 H6.out.2.2.2.2.2, H6.out.1.ge⟩, Cl.kp (H6.out.2.1.later hb7) hk8 (fun e => H6.out.2.2.2.2.1 e.symm)⟩
  have H8 := show Hid (RP w0 w8 c (.slice (some ⟨bb, oo, none⟩) t.length cp) t b5 b10 b11 r rst g nd) from ⟨HT.out w8 HB8.out.1.bel, HB8.out.1.s, HB8.out.2, hs8, HB8.out.1.bel⟩
  clear HB8 H6 hb7 hs7 hs8 hk8 KD HT
  have d2 : w8.cell? ⟨b10, 2, none⟩ = some (.int .i64 nd.l) := H8.out.n.cell 2
  have d3 : w8.cell? ⟨b10, 3, none⟩ = some (.int .i64 nd.r) := H8.out.n.cell 3
  clear HC HAT HAX d2 d3
  go_wp2_with fail
  refine wp_region_rel (by kernel_rfl) [some 132, some 133, some 134, some 135, some 136, some 137, some 138, some 139, some 140, some 141, some 8, some 9] [[], [], [1], [], [3], [0, 2, 4], [], [6], [5, 7], [8], [9], []] (by kernel_rfl) (fun i v w => match i with | 0 => v = .agg (cellsQ (r) (g)) | 1 => v = .pointer (some ⟨b10, 2, none⟩) | 2 => v = .int .i64 (x : Int) | 3 => v = .pointer (some ⟨b10, 2, none⟩) | 4 => v = .int .i64 (x : Int) | 5 => v = .agg (cellsQ (withF (r) [(x : Int), (x : Int)]) (g)) | 6 => v = .pointer (some ⟨b10, 3, none⟩) | 7 => v = .int .i64 (y : Int) | 8 => v = .agg (cellsQ (withF (r) [(x : Int), (x : Int)]) ((y : Int))) | 9 => SqL v [(withF (r) [(x : Int), (x : Int)], (y : Int))] w | 10 => SqL v [(withF (r) [(x : Int), (x : Int)], (y : Int))] w | 11 => v = .int .i64 0 | _ => True) (fun _ W => RP w0 W c (.slice (some ⟨bb, oo, none⟩) t.length cp) t b5 b10 b11 r rst g nd) (SameT) ?hle (H8.out.drew) (allLt 12 ?steps) ?fin
  case hle =>
    intro i v w w1 hl h
    match i, h with
    | 0, h => exact h
    | 1, h => exact h
    | 2, h => exact h
    | 3, h => exact h
    | 4, h => exact h
    | 5, h => exact h
    | 6, h => exact h
    | 7, h => exact h
    | 8, h => exact h
    | 9, h => exact SqL.sameT h hl
    | 10, h => exact SqL.sameT h hl
    | 11, h => exact h
    | _ + 12, h => trivial
  case steps =>
    refine ⟨⟨⟨⟨⟨⟨⟨⟨⟨⟨⟨⟨trivial, ?s0⟩, ?s1⟩, ?s2⟩, ?s3⟩, ?s4⟩, ?s5⟩, ?s6⟩, ?s7⟩, ?s8⟩, ?s9⟩, ?s10⟩, ?s11⟩
    case s0 =>
      intro done a w hS h0 hd hn hO hN
      have o5 : a.tmps[5]? = some (.pointer (some ⟨b5, 0, none⟩)) := (hO.out 5 (by decide)).trans rfl
      have hq := loadQQ w b5 hS.s hr.1
      refine relVal rfl (.agg (cellsQ (r) (g))) w rfl (by simp [execOp, Act.eval, o5, hq, Result.andThen]) ⟨_, rfl, rfl, by simpa [h0] using hS, SameT.refl _⟩
    case s1 =>
      intro done a w hS h0 hd hn hO hN
      have o10 : a.tmps[10]? = some (.pointer (some ⟨b10, 0, none⟩)) := (hO.out 10 (by decide)).trans rfl
      refine relVal rfl (.pointer (some ⟨b10, 2, none⟩)) w rfl (by go_simp) ⟨_, rfl, rfl, by simpa [h0] using hS, SameT.refl _⟩
    case s2 =>
      intro done a w hS h0 hd hn hO hN
      obtain ⟨v1, g1, r1⟩ := hN 1 (by decide)
      have g1 : a.tmps[133]? = some v1 := g1
      obtain rfl : v1 = .pointer (some ⟨b10, 2, none⟩) := r1
      have hc : w.cell? ⟨b10, 2, none⟩ = some (.int .i64 (x : Int)) := by rw [← hx]; exact hS.n.cell 2
      refine relVal rfl (.int .i64 (x : Int)) w rfl (by go_simp) ⟨_, rfl, rfl, by simpa [h0] using hS, SameT.refl _⟩
    case s3 =>
      intro done a w hS h0 hd hn hO hN
      have o10 : a.tmps[10]? = some (.pointer (some ⟨b10, 0, none⟩)) := (hO.out 10 (by decide)).trans rfl
      refine relVal rfl (.pointer (some ⟨b10, 2, none⟩)) w rfl (by go_simp) ⟨_, rfl, rfl, by simpa [h0] using hS, SameT.refl _⟩
    case s4 =>
      intro done a w hS h0 hd hn hO hN
      obtain ⟨v3, g3, r3⟩ := hN 3 (by decide)
      have g3 : a.tmps[135]? = some v3 := g3
      obtain rfl : v3 = .pointer (some ⟨b10, 2, none⟩) := r3
      have hc : w.cell? ⟨b10, 2, none⟩ = some (.int .i64 (x : Int)) := by rw [← hx]; exact hS.n.cell 2
      refine relVal rfl (.int .i64 (x : Int)) w rfl (by go_simp) ⟨_, rfl, rfl, by simpa [h0] using hS, SameT.refl _⟩
    case s5 =>
      intro done a w hS h0 hd hn hO hN
      obtain ⟨v0, g0, r0⟩ := hN 0 (by decide)
      have g0 : a.tmps[132]? = some v0 := g0
      obtain rfl : v0 = .agg (cellsQ (r) (g)) := r0
      obtain ⟨v2, g2, r2⟩ := hN 2 (by decide)
      have g2 : a.tmps[134]? = some v2 := g2
      obtain rfl : v2 = .int .i64 (x : Int) := r2
      obtain ⟨v4, g4, r4⟩ := hN 4 (by decide)
      have g4 : a.tmps[136]? = some v4 := g4
      obtain rfl : v4 = .int .i64 (x : Int) := r4
      refine relCallF rfl rfl 58 [.tmp 132, .tmp 134, .tmp 136] #[27, 3, 3] rfl [.agg (cellsQ (r) (g)), .int .i64 (x : Int), .int .i64 (x : Int)] (by simp [Act.eval, g0, g2, g4]) (enters_of Tryz.func58 (by kernel_rfl) rfl) (Calls.mono (rwith_any w hr (g) x x hxl hxl) ?_)
      rintro e w1 ⟨rfl, hb⟩
      refine ⟨_, rfl, _, rfl, rfl, ?_, SameT.of_below hb⟩
      have h9 := hS.later hb
      simpa [h0] using h9
    case s6 =>
      intro done a w hS h0 hd hn hO hN
      have o10 : a.tmps[10]? = some (.pointer (some ⟨b10, 0, none⟩)) := (hO.out 10 (by decide)).trans rfl
      refine relVal rfl (.pointer (some ⟨b10, 3, none⟩)) w rfl (by go_simp) ⟨_, rfl, rfl, by simpa [h0] using hS, SameT.refl _⟩
    case s7 =>
      intro done a w hS h0 hd hn hO hN
      obtain ⟨v6, g6, r6⟩ := hN 6 (by decide)
      have g6 : a.tmps[138]? = some v6 := g6
      obtain rfl : v6 = .pointer (some ⟨b10, 3, none⟩) := r6
      have hc : w.cell? ⟨b10, 3, none⟩ = some (.int .i64 (y : Int)) := by rw [← hy]; exact hS.n.cell 3
      refine relVal rfl (.int .i64 (y : Int)) w rfl (by go_simp) ⟨_, rfl, rfl, by simpa [h0] using hS, SameT.refl _⟩
    case s8 =>
      intro done a w hS h0 hd hn hO hN
      obtain ⟨v5, g5, r5⟩ := hN 5 (by decide)
      have g5 : a.tmps[137]? = some v5 := g5
      obtain rfl : v5 = .agg (cellsQ (withF (r) [(x : Int), (x : Int)]) (g)) := r5
      obtain ⟨v7, g7, r7⟩ := hN 7 (by decide)
      have g7 : a.tmps[139]? = some v7 := g7
      obtain rfl : v7 = .int .i64 (y : Int) := r7
      refine relCallF rfl rfl 60 [.tmp 137, .tmp 139] #[27, 3] rfl [.agg (cellsQ (withF (r) [(x : Int), (x : Int)]) (g)), .int .i64 (y : Int)] (by simp [Act.eval, g5, g7]) (enters_of Tryz.func60 (by kernel_rfl) rfl) (Calls.mono (rto_any w (putI_okZ (putI_okZ hr (x : Int)) (x : Int)).1 (g) ((y : Int))) ?_)
      rintro e w1 ⟨rfl, hb⟩
      refine ⟨_, rfl, _, rfl, rfl, ?_, SameT.of_below hb⟩
      have h9 := hS.later hb
      simpa [h0] using h9
    case s9 =>
      intro done a w hS h0 hd hn hO hN
      obtain ⟨v8, g8, r8⟩ := hN 8 (by decide)
      have g8 : a.tmps[140]? = some v8 := g8
      obtain rfl : v8 = .agg (cellsQ (withF (r) [(x : Int), (x : Int)]) ((y : Int))) := r8
      have hq := bq1 w (r := withF (r) [(x : Int), (x : Int)]) (putI_okZ (putI_okZ hr (x : Int)) (x : Int)).1 ((y : Int))
      refine relVal rfl (.slice (some ⟨w.heap.size, 0, none⟩) 1 1) (w.alloc (.cells (cellsQs [(withF (r) [(x : Int), (x : Int)], (y : Int))]) 27)) rfl (by simp [execOp, Act.eval, g8, hq, Result.andThen]) ⟨_, rfl, ⟨w.heap.size, rfl, (new_alloc w _ _).blk⟩, ?_, SameT.of_below (below_alloc w _)⟩
      have h9 := hS.later (below_alloc w (.cells (cellsQs [(withF (r) [(x : Int), (x : Int)], (y : Int))]) 27))
      simpa [h0] using h9
    case s10 =>
      intro done a w hS h0 hd hn hO hN
      obtain ⟨v9, g9, r9⟩ := hN 9 (by decide)
      have g9 : a.tmps[141]? = some v9 := g9
      obtain ⟨qz, rfl, hc⟩ := r9
      refine relVal rfl _ w rfl (by go_simp) ⟨_, rfl, ⟨qz, rfl, hc⟩, by simpa [h0] using hS, SameT.refl _⟩
    case s11 =>
      intro done a w hS h0 hd hn hO hN
      refine relVal rfl (.int .i64 0) w rfl (by go_simp) ⟨_, rfl, rfl, by simpa [h0] using hS, SameT.refl _⟩
  case fin =>
    intro vs done w hdone hS hR
    have hR3 : SqL (vs 10) [(withF (r) [(x : Int), (x : Int)], (y : Int))] w := hR 10 (by decide)
    obtain ⟨qz, hv, hc⟩ := hR3
    have e0 : vs 11 = .int .i64 0 := hR 11 (by decide)
    simp only [putAll, Act.put, List.setIfInBounds_toArray, List.set_cons_zero, List.set_cons_succ]
    rw [hv, e0]
    have HZ := show Hid (SqL (.slice (some ⟨qz, 0, none⟩) ([(withF (r) [(x : Int), (x : Int)], (y : Int))]).length ([(withF (r) [(x : Int), (x : Int)], (y : Int))]).length) [(withF (r) [(x : Int), (x : Int)], (y : Int))] w ∧ Below w0.heap.size w0 w) from ⟨⟨qz, rfl, hc⟩, hS.bel⟩
    clear hS hR hdone hv hc e0
    go_wp2_with fail
    go_ret2
    exact ⟨_, rfl, HZ.out.1, HZ.out.2⟩
set_option maxRecDepth 100000 in
set_option maxHeartbeats 4000000 in
theorem rprem_9 (w0 : World) {c : Nat} {u : Value} {t : List Nd} (hT : Tr w0 c u t) {r : List Nat} (hr : Ok r) (g : Int) (i : Nat) (hi : i < t.length) (hf : findF t r g 9 (i : Int) = true) (x y : Nat) (hx : t[i].l = x) (hy : t[i].r = y) :
    Calls Tryz.prog 37 #[.pointer (some ⟨c, 0, none⟩), .agg (cellsQ r g), .int .i64 9, .int .i64 (i : Int)] w0 fun e w' => ∃ sv, e = .returned (.tuple #[sv, .int .i64 0]) ∧ SqL sv [(r, (x : Int)), (r, (y : Int))] w' ∧ Below w0.heap.size w0 w' := by
  have hl := hr.1
  have hiI : (i : Int) < (t.length : Int) := by omega
  have hlen := hT.ok.len
  have KF := show Hid (∀ W : World, Below w0.heap.size w0 W → Calls Tryz.prog 56 #[.pointer (some ⟨c, 0, none⟩), .agg (cellsQ r g), .int .i64 9, .int .i64 (i : Int)] W fun e w' => e = .returned (.bool true) ∧ Below W.heap.size W w') from fun W hb => by
    have := rfits_any W (hT.later hb) hr g 9 (i : Int)
    rw [hf] at this
    exact this
  have KD := show Hid (∀ W : World, Calls Tryz.prog 57 #[.agg (Bt.cellsB r), .int .i64 (i : Int)] W fun e w' => e = .returned (.agg (Bt.cellsB (Bt.dropI r (i : Int)))) ∧ Below W.heap.size W w') from fun W => Bt.rdrop_any W hr (i : Int)
  have hrs : Ok (Bt.dropI r (i : Int)) := dropI_okZ hr (i : Int)
  have HT := show Hid (∀ W : World, Below w0.heap.size w0 W → Tr W c u t) from fun W hb => hT.later hb
  have HC := show Hid (∀ W : World, Below w0.heap.size w0 W → W.cell? ⟨c, 0, none⟩ = some u) from fun W hb => (hT.later hb).c0
  obtain ⟨p, cp, hu, hc1, hc2, hat⟩ := hT.row.isR.at
  obtain ⟨bb, oo, hp, hat4⟩ := hat (by omega)
  subst hp
  have HAT := show Hid (∀ W : World, Below w0.heap.size w0 W → At4 W bb (oo + i * 4) t[i]) from fun W hb => hat4 W hb i hi
  have HAX := show Hid (∀ W : World, Below w0.heap.size w0 W → ∀ j (hj : j < t.length), At4 W bb (oo + j * 4) t[j]) from fun W hb j hj => hat4 W hb j hj
  subst hu
  clear hT hat hat4 hf
  generalize Bt.dropI r (i : Int) = rst at *
  have hl2 := hrs.1
  generalize t[i] = nd at *
  go_enter Tryz.func37, Tryz.ntmps37
  go_wp2_with (refine wpList_box 27 _ rfl _ rfl rfl ?_)
  intro w1 b5 hn1
  have H1 := show Hid (RS1 w0 w1 b5 r g) from ⟨hn1.blk, hn1.bel, hn1.ge⟩
  clear hn1
  go_wp2_with (refine wpList_ldQQ _ _ rfl b5 rfl H1.out.s hl rfl ?_)
  refine Calls.mono (KF.out _ H1.out.bel) ?_
  rintro e w2 ⟨rfl, hb2⟩
  have H2 := show Hid _ from H1.out.later hb2
  have c0 := HC.out w2 H2.out.bel
  clear H1 hb2 KF
  go_wp2_with (first | (refine wpList_ld4 _ rfl _ rfl bb (oo + i * 4) rfl (HAT.out w2 H2.out.bel) ?_) | (refine wpList_alloc 54 rfl _ zeroN rfl ?_))
  intro w3 b10 hn3
  go_wp2_with (refine wpList_st 54 rfl rfl _ _ rfl b10 rfl (ndC nd).toArray rfl _ _ hn3.blk (by rw [sizeN]; rfl) rfl (ndC_all nd) ?_)
  intro w4 hc4 hk4
  have H4 := show Hid (RS1 w0 w4 b5 r g ∧ Cl w4 b10 (ndC nd).toArray 54 ∧ w0.heap.size ≤ b10) from by
    have e1 := H2.out.bel.size; have e2 := hn3.ge; have e3 := Cl.lt H2.out.s
    exact ⟨⟨Cl.kp (T := 27) (Cl.new H2.out.s hn3) hk4 (by omega), bel_kp (bel_new H2.out.bel hn3) hk4 (by omega), H2.out.ge⟩, hc4, by omega⟩
  clear H2 hn3 hc4 hk4 c0
  go_wp2_with (first | (refine wpList_ldQQ _ _ rfl b5 rfl H4.out.1.s hl rfl ?_) | (refine wpList_alloc 27 rfl _ zeroValQ rfl ?_))
  intro w5 b11 hn5
  go_wp2_with (refine wpList_st 27 rfl rfl _ _ rfl b11 rfl (cellsQ r g) rfl _ _ hn5.blk (by rw [sizeQ, cellsQ_size hl]) (by rw [cellsQ_size hl]; rfl) (cellsQ_one r g) ?_)
  intro w6 hc6 hk6
  have H6 := show Hid (RS1 w0 w6 b5 r g ∧ Cl w6 b10 (ndC nd).toArray 54 ∧ SeqAt w6 b11 r g ∧ b11 ≠ b5 ∧ b11 ≠ b10 ∧ w0.heap.size ≤ b11) from by
    have e1 := H4.out.1.bel.size; have e2 := hn5.ge; have e3 := Cl.lt H4.out.1.s; have e4 := Cl.lt H4.out.2.1
    exact ⟨⟨Cl.kp (T := 27) (Cl.new H4.out.1.s hn5) hk6 (by omega), bel_kp (bel_new H4.out.1.bel hn5) hk6 (by omega), H4.out.1.ge⟩, Cl.kp (Cl.new H4.out.2.1 hn5) hk6 (by omega), hc6, by omega, by omega, by omega⟩
  clear H4 hn5 hc6 hk6
  go_wp2_with (refine wpList_ldBQ _ rfl _ rfl b5 0 rfl H6.out.1.s.seqIn hl ?_)
  refine Calls.mono (KD.out w6) ?_
  rintro e w7 ⟨rfl, hb7⟩
  have hs7 : SeqAt w7 b11 r g := H6.out.2.2.1.later hb7 H6.out.2.2.1.lt
  go_wp2_with (refine wpList_stBQ _ rfl rfl _ _ rfl b11 rfl rfl hs7 hl hl2 ?_)
  intro w8 hs8 hk8
  have HB8 := show Hid (RS1 w0 w8 b5 r g ∧ Cl w8 b10 (ndC nd).toArray 54) from
    ⟨⟨Cl.kp (T := 27) (H6.out.1.later hb7).s hk8 (fun e => H6.out.2.2.2.1 e.symm), bel_kp (H6.out.1.later hb7).bel hk8 H6.out.2.2.2.2.2, H6.out.1.ge⟩, Cl.kp (H6.out.2.1.later hb7) hk8 (fun e => H6.out.2.2.2.2.1 e.symm)⟩
  have H8 := show Hid (RP w0 w8 c (.slice (some ⟨bb, oo, none⟩) t.length cp) t b5 b10 b11 r rst g nd) from ⟨HT.out w8 HB8.out.1.bel, HB8.out.1.s, HB8.out.2, hs8, HB8.out.1.bel⟩
  clear HB8 H6 hb7 hs7 hs8 hk8 KD HT
  have d2 : w8.cell? ⟨b10, 2, none⟩ = some (.int .i64 nd.l) := H8.out.n.cell 2
  have d3 : w8.cell? ⟨b10, 3, none⟩ = some (.int .i64 nd.r) := H8.out.n.cell 3
  clear HC HAT HAX d2 d3
  go_wp2_with fail
  refine wp_region_rel (by kernel_rfl) [some 144, some 145, some 146, some 147, some 148, some 149, some 150, some 151, some 152, some 8, some 9] [[], [], [1], [0, 2], [], [], [5], [4, 6], [3, 7], [8], []] (by kernel_rfl) (fun i v w => match i with | 0 => v = .agg (cellsQ (r) (g)) | 1 => v = .pointer (some ⟨b10, 2, none⟩) | 2 => v = .int .i64 (x : Int) | 3 => v = .agg (cellsQ (r) ((x : Int))) | 4 => v = .agg (cellsQ (r) (g)) | 5 => v = .pointer (some ⟨b10, 3, none⟩) | 6 => v = .int .i64 (y : Int) | 7 => v = .agg (cellsQ (r) ((y : Int))) | 8 => SqL v [(r, (x : Int)), (r, (y : Int))] w | 9 => SqL v [(r, (x : Int)), (r, (y : Int))] w | 10 => v = .int .i64 0 | _ => True) (fun _ W => RP w0 W c (.slice (some ⟨bb, oo, none⟩) t.length cp) t b5 b10 b11 r rst g nd) (SameT) ?hle (H8.out.drew) (allLt 11 ?steps) ?fin
  case hle =>
    intro i v w w1 hl h
    match i, h with
    | 0, h => exact h
    | 1, h => exact h
    | 2, h => exact h
    | 3, h => exact h
    | 4, h => exact h
    | 5, h => exact h
    | 6, h => exact h
    | 7, h => exact h
    | 8, h => exact SqL.sameT h hl
    | 9, h => exact SqL.sameT h hl
    | 10, h => exact h
    | _ + 11, h => trivial
  case steps =>
    refine ⟨⟨⟨⟨⟨⟨⟨⟨⟨⟨⟨trivial, ?s0⟩, ?s1⟩, ?s2⟩, ?s3⟩, ?s4⟩, ?s5⟩, ?s6⟩, ?s7⟩, ?s8⟩, ?s9⟩, ?s10⟩
    case s0 =>
      intro done a w hS h0 hd hn hO hN
      have o5 : a.tmps[5]? = some (.pointer (some ⟨b5, 0, none⟩)) := (hO.out 5 (by decide)).trans rfl
      have hq := loadQQ w b5 hS.s hr.1
      refine relVal rfl (.agg (cellsQ (r) (g))) w rfl (by simp [execOp, Act.eval, o5, hq, Result.andThen]) ⟨_, rfl, rfl, by simpa [h0] using hS, SameT.refl _⟩
    case s1 =>
      intro done a w hS h0 hd hn hO hN
      have o10 : a.tmps[10]? = some (.pointer (some ⟨b10, 0, none⟩)) := (hO.out 10 (by decide)).trans rfl
      refine relVal rfl (.pointer (some ⟨b10, 2, none⟩)) w rfl (by go_simp) ⟨_, rfl, rfl, by simpa [h0] using hS, SameT.refl _⟩
    case s2 =>
      intro done a w hS h0 hd hn hO hN
      obtain ⟨v1, g1, r1⟩ := hN 1 (by decide)
      have g1 : a.tmps[145]? = some v1 := g1
      obtain rfl : v1 = .pointer (some ⟨b10, 2, none⟩) := r1
      have hc : w.cell? ⟨b10, 2, none⟩ = some (.int .i64 (x : Int)) := by rw [← hx]; exact hS.n.cell 2
      refine relVal rfl (.int .i64 (x : Int)) w rfl (by go_simp) ⟨_, rfl, rfl, by simpa [h0] using hS, SameT.refl _⟩
    case s3 =>
      intro done a w hS h0 hd hn hO hN
      obtain ⟨v0, g0, r0⟩ := hN 0 (by decide)
      have g0 : a.tmps[144]? = some v0 := g0
      obtain rfl : v0 = .agg (cellsQ (r) (g)) := r0
      obtain ⟨v2, g2, r2⟩ := hN 2 (by decide)
      have g2 : a.tmps[146]? = some v2 := g2
      obtain rfl : v2 = .int .i64 (x : Int) := r2
      refine relCallF rfl rfl 60 [.tmp 144, .tmp 146] #[27, 3] rfl [.agg (cellsQ (r) (g)), .int .i64 (x : Int)] (by simp [Act.eval, g0, g2]) (enters_of Tryz.func60 (by kernel_rfl) rfl) (Calls.mono (rto_any w hr.1 (g) ((x : Int))) ?_)
      rintro e w1 ⟨rfl, hb⟩
      refine ⟨_, rfl, _, rfl, rfl, ?_, SameT.of_below hb⟩
      have h9 := hS.later hb
      simpa [h0] using h9
    case s4 =>
      intro done a w hS h0 hd hn hO hN
      have o5 : a.tmps[5]? = some (.pointer (some ⟨b5, 0, none⟩)) := (hO.out 5 (by decide)).trans rfl
      have hq := loadQQ w b5 hS.s hr.1
      refine relVal rfl (.agg (cellsQ (r) (g))) w rfl (by simp [execOp, Act.eval, o5, hq, Result.andThen]) ⟨_, rfl, rfl, by simpa [h0] using hS, SameT.refl _⟩
    case s5 =>
      intro done a w hS h0 hd hn hO hN
      have o10 : a.tmps[10]? = some (.pointer (some ⟨b10, 0, none⟩)) := (hO.out 10 (by decide)).trans rfl
      refine relVal rfl (.pointer (some ⟨b10, 3, none⟩)) w rfl (by go_simp) ⟨_, rfl, rfl, by simpa [h0] using hS, SameT.refl _⟩
    case s6 =>
      intro done a w hS h0 hd hn hO hN
      obtain ⟨v5, g5, r5⟩ := hN 5 (by decide)
      have g5 : a.tmps[149]? = some v5 := g5
      obtain rfl : v5 = .pointer (some ⟨b10, 3, none⟩) := r5
      have hc : w.cell? ⟨b10, 3, none⟩ = some (.int .i64 (y : Int)) := by rw [← hy]; exact hS.n.cell 3
      refine relVal rfl (.int .i64 (y : Int)) w rfl (by go_simp) ⟨_, rfl, rfl, by simpa [h0] using hS, SameT.refl _⟩
    case s7 =>
      intro done a w hS h0 hd hn hO hN
      obtain ⟨v4, g4, r4⟩ := hN 4 (by decide)
      have g4 : a.tmps[148]? = some v4 := g4
      obtain rfl : v4 = .agg (cellsQ (r) (g)) := r4
      obtain ⟨v6, g6, r6⟩ := hN 6 (by decide)
      have g6 : a.tmps[150]? = some v6 := g6
      obtain rfl : v6 = .int .i64 (y : Int) := r6
      refine relCallF rfl rfl 60 [.tmp 148, .tmp 150] #[27, 3] rfl [.agg (cellsQ (r) (g)), .int .i64 (y : Int)] (by simp [Act.eval, g4, g6]) (enters_of Tryz.func60 (by kernel_rfl) rfl) (Calls.mono (rto_any w hr.1 (g) ((y : Int))) ?_)
      rintro e w1 ⟨rfl, hb⟩
      refine ⟨_, rfl, _, rfl, rfl, ?_, SameT.of_below hb⟩
      have h9 := hS.later hb
      simpa [h0] using h9
    case s8 =>
      intro done a w hS h0 hd hn hO hN
      obtain ⟨v3, g3, r3⟩ := hN 3 (by decide)
      have g3 : a.tmps[147]? = some v3 := g3
      obtain rfl : v3 = .agg (cellsQ (r) ((x : Int))) := r3
      obtain ⟨v7, g7, r7⟩ := hN 7 (by decide)
      have g7 : a.tmps[151]? = some v7 := g7
      obtain rfl : v7 = .agg (cellsQ (r) ((y : Int))) := r7
      have hq := bq2 w (r := r) (s := r) hr.1 hr.1 ((x : Int)) ((y : Int))
      refine relVal rfl (.slice (some ⟨w.heap.size, 0, none⟩) 2 2) (w.alloc (.cells (cellsQs [(r, (x : Int)), (r, (y : Int))]) 27)) rfl (by simp [execOp, Act.eval, g3, g7, hq, Result.andThen]) ⟨_, rfl, ⟨w.heap.size, rfl, (new_alloc w _ _).blk⟩, ?_, SameT.of_below (below_alloc w _)⟩
      have h9 := hS.later (below_alloc w (.cells (cellsQs [(r, (x : Int)), (r, (y : Int))]) 27))
      simpa [h0] using h9
    case s9 =>
      intro done a w hS h0 hd hn hO hN
      obtain ⟨v8, g8, r8⟩ := hN 8 (by decide)
      have g8 : a.tmps[152]? = some v8 := g8
      obtain ⟨qz, rfl, hc⟩ := r8
      refine relVal rfl _ w rfl (by go_simp) ⟨_, rfl, ⟨qz, rfl, hc⟩, by simpa [h0] using hS, SameT.refl _⟩
    case s10 =>
      intro done a w hS h0 hd hn hO hN
      refine relVal rfl (.int .i64 0) w rfl (by go_simp) ⟨_, rfl, rfl, by simpa [h0] using hS, SameT.refl _⟩
  case fin =>
    intro vs done w hdone hS hR
    have hR3 : SqL (vs 9) [(r, (x : Int)), (r, (y : Int))] w := hR 9 (by decide)
    obtain ⟨qz, hv, hc⟩ := hR3
    have e0 : vs 10 = .int .i64 0 := hR 10 (by decide)
    simp only [putAll, Act.put, List.setIfInBounds_toArray, List.set_cons_zero, List.set_cons_succ]
    rw [hv, e0]
    have HZ := show Hid (SqL (.slice (some ⟨qz, 0, none⟩) ([(r, (x : Int)), (r, (y : Int))]).length ([(r, (x : Int)), (r, (y : Int))]).length) [(r, (x : Int)), (r, (y : Int))] w ∧ Below w0.heap.size w0 w) from ⟨⟨qz, rfl, hc⟩, hS.bel⟩
    clear hS hR hdone hv hc e0
    go_wp2_with fail
    go_ret2
    exact ⟨_, rfl, HZ.out.1, HZ.out.2⟩
set_option maxRecDepth 100000 in
set_option maxHeartbeats 4000000 in
theorem rprem_10 (w0 : World) {c : Nat} {u : Value} {t : List Nd} (hT : Tr w0 c u t) {r : List Nat} (hr : Ok r) (g : Int) (i : Nat) (hi : i < t.length) (hf : findF t r g 10 (i : Int) = true) (x y : Nat) (hx : t[i].l = x) (hy : t[i].r = y) (hxl : x < 1024) (hyl : y < 1024) :
    Calls Tryz.prog 37 #[.pointer (some ⟨c, 0, none⟩), .agg (cellsQ r g), .int .i64 10, .int .i64 (i : Int)] w0 fun e w' => ∃ sv, e = .returned (.tuple #[sv, .int .i64 0]) ∧ SqL sv [(withF (Bt.dropI r (i : Int)) [(x : Int), (x : Int)], g), (withF (Bt.dropI r (i : Int)) [(y : Int), (y : Int)], g)] w' ∧ Below w0.heap.size w0 w' := by
  have hl := hr.1
  have hiI : (i : Int) < (t.length : Int) := by omega
  have hlen := hT.ok.len
  have KF := show Hid (∀ W : World, Below w0.heap.size w0 W → Calls Tryz.prog 56 #[.pointer (some ⟨c, 0, none⟩), .agg (cellsQ r g), .int .i64 10, .int .i64 (i : Int)] W fun e w' => e = .returned (.bool true) ∧ Below W.heap.size W w') from fun W hb => by
    have := rfits_any W (hT.later hb) hr g 10 (i : Int)
    rw [hf] at this
    exact this
  have KD := show Hid (∀ W : World, Calls Tryz.prog 57 #[.agg (Bt.cellsB r), .int .i64 (i : Int)] W fun e w' => e = .returned (.agg (Bt.cellsB (Bt.dropI r (i : Int)))) ∧ Below W.heap.size W w') from fun W => Bt.rdrop_any W hr (i : Int)
  have hrs : Ok (Bt.dropI r (i : Int)) := dropI_okZ hr (i : Int)
  have HT := show Hid (∀ W : World, Below w0.heap.size w0 W → Tr W c u t) from fun W hb => hT.later hb
  have HC := show Hid (∀ W : World, Below w0.heap.size w0 W → W.cell? ⟨c, 0, none⟩ = some u) from fun W hb => (hT.later hb).c0
  obtain ⟨p, cp, hu, hc1, hc2, hat⟩ := hT.row.isR.at
  obtain ⟨bb, oo, hp, hat4⟩ := hat (by omega)
  subst hp
  have HAT := show Hid (∀ W : World, Below w0.heap.size w0 W → At4 W bb (oo + i * 4) t[i]) from fun W hb => hat4 W hb i hi
  have HAX := show Hid (∀ W : World, Below w0.heap.size w0 W → ∀ j (hj : j < t.length), At4 W bb (oo + j * 4) t[j]) from fun W hb j hj => hat4 W hb j hj
  subst hu
  clear hT hat hat4 hf
  generalize Bt.dropI r (i : Int) = rst at *
  have hl2 := hrs.1
  generalize t[i] = nd at *
  go_enter Tryz.func37, Tryz.ntmps37
  go_wp2_with (refine wpList_box 27 _ rfl _ rfl rfl ?_)
  intro w1 b5 hn1
  have H1 := show Hid (RS1 w0 w1 b5 r g) from ⟨hn1.blk, hn1.bel, hn1.ge⟩
  clear hn1
  go_wp2_with (refine wpList_ldQQ _ _ rfl b5 rfl H1.out.s hl rfl ?_)
  refine Calls.mono (KF.out _ H1.out.bel) ?_
  rintro e w2 ⟨rfl, hb2⟩
  have H2 := show Hid _ from H1.out.later hb2
  have c0 := HC.out w2 H2.out.bel
  clear H1 hb2 KF
  go_wp2_with (first | (refine wpList_ld4 _ rfl _ rfl bb (oo + i * 4) rfl (HAT.out w2 H2.out.bel) ?_) | (refine wpList_alloc 54 rfl _ zeroN rfl ?_))
  intro w3 b10 hn3
  go_wp2_with (refine wpList_st 54 rfl rfl _ _ rfl b10 rfl (ndC nd).toArray rfl _ _ hn3.blk (by rw [sizeN]; rfl) rfl (ndC_all nd) ?_)
  intro w4 hc4 hk4
  have H4 := show Hid (RS1 w0 w4 b5 r g ∧ Cl w4 b10 (ndC nd).toArray 54 ∧ w0.heap.size ≤ b10) from by
    have e1 := H2.out.bel.size; have e2 := hn3.ge; have e3 := Cl.lt H2.out.s
    exact ⟨⟨Cl.kp (T := 27) (Cl.new H2.out.s hn3) hk4 (by omega), bel_kp (bel_new H2.out.bel hn3) hk4 (by omega), H2.out.ge⟩, hc4, by omega⟩
  clear H2 hn3 hc4 hk4 c0
  go_wp2_with (first | (refine wpList_ldQQ _ _ rfl b5 rfl H4.out.1.s hl rfl ?_) | (refine wpList_alloc 27 rfl _ zeroValQ rfl ?_))
  intro w5 b11 hn5
  go_wp2_with (refine wpList_st 27 rfl rfl _ _ rfl b11 rfl (cellsQ r g) rfl _ _ hn5.blk (by rw [sizeQ, cellsQ_size hl]) (by rw [cellsQ_size hl]; rfl) (cellsQ_one r g) ?_)
  intro w6 hc6 hk6
  have H6 := show Hid (RS1 w0 w6 b5 r g ∧ Cl w6 b10 (ndC nd).toArray 54 ∧ SeqAt w6 b11 r g ∧ b11 ≠ b5 ∧ b11 ≠ b10 ∧ w0.heap.size ≤ b11) from by
    have e1 := H4.out.1.bel.size; have e2 := hn5.ge; have e3 := Cl.lt H4.out.1.s; have e4 := Cl.lt H4.out.2.1
    exact ⟨⟨Cl.kp (T := 27) (Cl.new H4.out.1.s hn5) hk6 (by omega), bel_kp (bel_new H4.out.1.bel hn5) hk6 (by omega), H4.out.1.ge⟩, Cl.kp (Cl.new H4.out.2.1 hn5) hk6 (by omega), hc6, by omega, by omega, by omega⟩
  clear H4 hn5 hc6 hk6
  go_wp2_with (refine wpList_ldBQ _ rfl _ rfl b5 0 rfl H6.out.1.s.seqIn hl ?_)
  refine Calls.mono (KD.out w6) ?_
  rintro e w7 ⟨rfl, hb7⟩
  have hs7 : SeqAt w7 b11 r g := H6.out.2.2.1.later hb7 H6.out.2.2.1.lt
  go_wp2_with (refine wpList_stBQ _ rfl rfl _ _ rfl b11 rfl rfl hs7 hl hl2 ?_)
  intro w8 hs8 hk8
  have HB8 := show Hid (RS1 w0 w8 b5 r g ∧ Cl w8 b10 (ndC nd).toArray 54) from
    ⟨⟨Cl.kp (T := 27) (H6.out.1.later hb7).s hk8 (fun e => H6.out.2.2.2.1 e.symm), bel_kp (H6.out.1.later hb7).bel hk8 H6.out.2.2.2.2.2, H6.out.1.ge⟩, Cl.kp (H6.out.2.1.later hb7) hk8 (fun e => H6.out.2.2.2.2.1 e.symm)⟩
  have H8 := show Hid (RP w0 w8 c (.slice (some ⟨bb, oo, none⟩) t.length cp) t b5 b10 b11 r rst g nd) from ⟨HT.out w8 HB8.out.1.bel, HB8.out.1.s, HB8.out.2, hs8, HB8.out.1.bel⟩
  clear HB8 H6 hb7 hs7 hs8 hk8 KD HT
  have d2 : w8.cell? ⟨b10, 2, none⟩ = some (.int .i64 nd.l) := H8.out.n.cell 2
  have d3 : w8.cell? ⟨b10, 3, none⟩ = some (.int .i64 nd.r) := H8.out.n.cell 3
  clear HC HAT HAX d2 d3
  go_wp2_with fail
  refine wp_region_rel (by kernel_rfl) [some 155, some 156, some 157, some 158, some 159, some 160, some 161, some 162, some 163, some 164, some 165, some 166, some 167, some 8, some 9] [[], [], [1], [], [3], [0, 2, 4], [], [], [7], [], [9], [6, 8, 10], [5, 11], [12], []] (by kernel_rfl) (fun i v w => match i with | 0 => v = .agg (cellsQ (rst) (g)) | 1 => v = .pointer (some ⟨b10, 2, none⟩) | 2 => v = .int .i64 (x : Int) | 3 => v = .pointer (some ⟨b10, 2, none⟩) | 4 => v = .int .i64 (x : Int) | 5 => v = .agg (cellsQ (withF (rst) [(x : Int), (x : Int)]) (g)) | 6 => v = .agg (cellsQ (rst) (g)) | 7 => v = .pointer (some ⟨b10, 3, none⟩) | 8 => v = .int .i64 (y : Int) | 9 => v = .pointer (some ⟨b10, 3, none⟩) | 10 => v = .int .i64 (y : Int) | 11 => v = .agg (cellsQ (withF (rst) [(y : Int), (y : Int)]) (g)) | 12 => SqL v [(withF (rst) [(x : Int), (x : Int)], g), (withF (rst) [(y : Int), (y : Int)], g)] w | 13 => SqL v [(withF (rst) [(x : Int), (x : Int)], g), (withF (rst) [(y : Int), (y : Int)], g)] w | 14 => v = .int .i64 0 | _ => True) (fun _ W => RP w0 W c (.slice (some ⟨bb, oo, none⟩) t.length cp) t b5 b10 b11 r rst g nd) (SameT) ?hle (H8.out.drew) (allLt 15 ?steps) ?fin
  case hle =>
    intro i v w w1 hl h
    match i, h with
    | 0, h => exact h
    | 1, h => exact h
    | 2, h => exact h
    | 3, h => exact h
    | 4, h => exact h
    | 5, h => exact h
    | 6, h => exact h
    | 7, h => exact h
    | 8, h => exact h
    | 9, h => exact h
    | 10, h => exact h
    | 11, h => exact h
    | 12, h => exact SqL.sameT h hl
    | 13, h => exact SqL.sameT h hl
    | 14, h => exact h
    | _ + 15, h => trivial
  case steps =>
    refine ⟨⟨⟨⟨⟨⟨⟨⟨⟨⟨⟨⟨⟨⟨⟨trivial, ?s0⟩, ?s1⟩, ?s2⟩, ?s3⟩, ?s4⟩, ?s5⟩, ?s6⟩, ?s7⟩, ?s8⟩, ?s9⟩, ?s10⟩, ?s11⟩, ?s12⟩, ?s13⟩, ?s14⟩
    case s0 =>
      intro done a w hS h0 hd hn hO hN
      have o11 : a.tmps[11]? = some (.pointer (some ⟨b11, 0, none⟩)) := (hO.out 11 (by decide)).trans rfl
      have hq := loadQQ w b11 hS.z hrs.1
      refine relVal rfl (.agg (cellsQ (rst) (g))) w rfl (by simp [execOp, Act.eval, o11, hq, Result.andThen]) ⟨_, rfl, rfl, by simpa [h0] using hS, SameT.refl _⟩
    case s1 =>
      intro done a w hS h0 hd hn hO hN
      have o10 : a.tmps[10]? = some (.pointer (some ⟨b10, 0, none⟩)) := (hO.out 10 (by decide)).trans rfl
      refine relVal rfl (.pointer (some ⟨b10, 2, none⟩)) w rfl (by go_simp) ⟨_, rfl, rfl, by simpa [h0] using hS, SameT.refl _⟩
    case s2 =>
      intro done a w hS h0 hd hn hO hN
      obtain ⟨v1, g1, r1⟩ := hN 1 (by decide)
      have g1 : a.tmps[156]? = some v1 := g1
      obtain rfl : v1 = .pointer (some ⟨b10, 2, none⟩) := r1
      have hc : w.cell? ⟨b10, 2, none⟩ = some (.int .i64 (x : Int)) := by rw [← hx]; exact hS.n.cell 2
      refine relVal rfl (.int .i64 (x : Int)) w rfl (by go_simp) ⟨_, rfl, rfl, by simpa [h0] using hS, SameT.refl _⟩
    case s3 =>
      intro done a w hS h0 hd hn hO hN
      have o10 : a.tmps[10]? = some (.pointer (some ⟨b10, 0, none⟩)) := (hO.out 10 (by decide)).trans rfl
      refine relVal rfl (.pointer (some ⟨b10, 2, none⟩)) w rfl (by go_simp) ⟨_, rfl, rfl, by simpa [h0] using hS, SameT.refl _⟩
    case s4 =>
      intro done a w hS h0 hd hn hO hN
      obtain ⟨v3, g3, r3⟩ := hN 3 (by decide)
      have g3 : a.tmps[158]? = some v3 := g3
      obtain rfl : v3 = .pointer (some ⟨b10, 2, none⟩) := r3
      have hc : w.cell? ⟨b10, 2, none⟩ = some (.int .i64 (x : Int)) := by rw [← hx]; exact hS.n.cell 2
      refine relVal rfl (.int .i64 (x : Int)) w rfl (by go_simp) ⟨_, rfl, rfl, by simpa [h0] using hS, SameT.refl _⟩
    case s5 =>
      intro done a w hS h0 hd hn hO hN
      obtain ⟨v0, g0, r0⟩ := hN 0 (by decide)
      have g0 : a.tmps[155]? = some v0 := g0
      obtain rfl : v0 = .agg (cellsQ (rst) (g)) := r0
      obtain ⟨v2, g2, r2⟩ := hN 2 (by decide)
      have g2 : a.tmps[157]? = some v2 := g2
      obtain rfl : v2 = .int .i64 (x : Int) := r2
      obtain ⟨v4, g4, r4⟩ := hN 4 (by decide)
      have g4 : a.tmps[159]? = some v4 := g4
      obtain rfl : v4 = .int .i64 (x : Int) := r4
      refine relCallF rfl rfl 58 [.tmp 155, .tmp 157, .tmp 159] #[27, 3, 3] rfl [.agg (cellsQ (rst) (g)), .int .i64 (x : Int), .int .i64 (x : Int)] (by simp [Act.eval, g0, g2, g4]) (enters_of Tryz.func58 (by kernel_rfl) rfl) (Calls.mono (rwith_any w hrs (g) x x hxl hxl) ?_)
      rintro e w1 ⟨rfl, hb⟩
      refine ⟨_, rfl, _, rfl, rfl, ?_, SameT.of_below hb⟩
      have h9 := hS.later hb
      simpa [h0] using h9
    case s6 =>
      intro done a w hS h0 hd hn hO hN
      have o11 : a.tmps[11]? = some (.pointer (some ⟨b11, 0, none⟩)) := (hO.out 11 (by decide)).trans rfl
      have hq := loadQQ w b11 hS.z hrs.1
      refine relVal rfl (.agg (cellsQ (rst) (g))) w rfl (by simp [execOp, Act.eval, o11, hq, Result.andThen]) ⟨_, rfl, rfl, by simpa [h0] using hS, SameT.refl _⟩
    case s7 =>
      intro done a w hS h0 hd hn hO hN
      have o10 : a.tmps[10]? = some (.pointer (some ⟨b10, 0, none⟩)) := (hO.out 10 (by decide)).trans rfl
      refine relVal rfl (.pointer (some ⟨b10, 3, none⟩)) w rfl (by go_simp) ⟨_, rfl, rfl, by simpa [h0] using hS, SameT.refl _⟩
    case s8 =>
      intro done a w hS h0 hd hn hO hN
      obtain ⟨v7, g7, r7⟩ := hN 7 (by decide)
      have g7 : a.tmps[162]? = some v7 := g7
      obtain rfl : v7 = .pointer (some ⟨b10, 3, none⟩) := r7
      have hc : w.cell? ⟨b10, 3, none⟩ = some (.int .i64 (y : Int)) := by rw [← hy]; exact hS.n.cell 3
      refine relVal rfl (.int .i64 (y : Int)) w rfl (by go_simp) ⟨_, rfl, rfl, by simpa [h0] using hS, SameT.refl _⟩
    case s9 =>
      intro done a w hS h0 hd hn hO hN
      have o10 : a.tmps[10]? = some (.pointer (some ⟨b10, 0, none⟩)) := (hO.out 10 (by decide)).trans rfl
      refine relVal rfl (.pointer (some ⟨b10, 3, none⟩)) w rfl (by go_simp) ⟨_, rfl, rfl, by simpa [h0] using hS, SameT.refl _⟩
    case s10 =>
      intro done a w hS h0 hd hn hO hN
      obtain ⟨v9, g9, r9⟩ := hN 9 (by decide)
      have g9 : a.tmps[164]? = some v9 := g9
      obtain rfl : v9 = .pointer (some ⟨b10, 3, none⟩) := r9
      have hc : w.cell? ⟨b10, 3, none⟩ = some (.int .i64 (y : Int)) := by rw [← hy]; exact hS.n.cell 3
      refine relVal rfl (.int .i64 (y : Int)) w rfl (by go_simp) ⟨_, rfl, rfl, by simpa [h0] using hS, SameT.refl _⟩
    case s11 =>
      intro done a w hS h0 hd hn hO hN
      obtain ⟨v6, g6, r6⟩ := hN 6 (by decide)
      have g6 : a.tmps[161]? = some v6 := g6
      obtain rfl : v6 = .agg (cellsQ (rst) (g)) := r6
      obtain ⟨v8, g8, r8⟩ := hN 8 (by decide)
      have g8 : a.tmps[163]? = some v8 := g8
      obtain rfl : v8 = .int .i64 (y : Int) := r8
      obtain ⟨v10, g10, r10⟩ := hN 10 (by decide)
      have g10 : a.tmps[165]? = some v10 := g10
      obtain rfl : v10 = .int .i64 (y : Int) := r10
      refine relCallF rfl rfl 58 [.tmp 161, .tmp 163, .tmp 165] #[27, 3, 3] rfl [.agg (cellsQ (rst) (g)), .int .i64 (y : Int), .int .i64 (y : Int)] (by simp [Act.eval, g6, g8, g10]) (enters_of Tryz.func58 (by kernel_rfl) rfl) (Calls.mono (rwith_any w hrs (g) y y hyl hyl) ?_)
      rintro e w1 ⟨rfl, hb⟩
      refine ⟨_, rfl, _, rfl, rfl, ?_, SameT.of_below hb⟩
      have h9 := hS.later hb
      simpa [h0] using h9
    case s12 =>
      intro done a w hS h0 hd hn hO hN
      obtain ⟨v5, g5, r5⟩ := hN 5 (by decide)
      have g5 : a.tmps[160]? = some v5 := g5
      obtain rfl : v5 = .agg (cellsQ (withF (rst) [(x : Int), (x : Int)]) (g)) := r5
      obtain ⟨v11, g11, r11⟩ := hN 11 (by decide)
      have g11 : a.tmps[166]? = some v11 := g11
      obtain rfl : v11 = .agg (cellsQ (withF (rst) [(y : Int), (y : Int)]) (g)) := r11
      have hq := bq2 w (r := withF (rst) [(x : Int), (x : Int)]) (s := withF (rst) [(y : Int), (y : Int)]) (putI_okZ (putI_okZ hrs (x : Int)) (x : Int)).1 (putI_okZ (putI_okZ hrs (y : Int)) (y : Int)).1 (g) (g)
      refine relVal rfl (.slice (some ⟨w.heap.size, 0, none⟩) 2 2) (w.alloc (.cells (cellsQs [(withF (rst) [(x : Int), (x : Int)], g), (withF (rst) [(y : Int), (y : Int)], g)]) 27)) rfl (by simp [execOp, Act.eval, g5, g11, hq, Result.andThen]) ⟨_, rfl, ⟨w.heap.size, rfl, (new_alloc w _ _).blk⟩, ?_, SameT.of_below (below_alloc w _)⟩
      have h9 := hS.later (below_alloc w (.cells (cellsQs [(withF (rst) [(x : Int), (x : Int)], g), (withF (rst) [(y : Int), (y : Int)], g)]) 27))
      simpa [h0] using h9
    case s13 =>
      intro done a w hS h0 hd hn hO hN
      obtain ⟨v12, g12, r12⟩ := hN 12 (by decide)
      have g12 : a.tmps[167]? = some v12 := g12
      obtain ⟨qz, rfl, hc⟩ := r12
      refine relVal rfl _ w rfl (by go_simp) ⟨_, rfl, ⟨qz, rfl, hc⟩, by simpa [h0] using hS, SameT.refl _⟩
    case s14 =>
      intro done a w hS h0 hd hn hO hN
      refine relVal rfl (.int .i64 0) w rfl (by go_simp) ⟨_, rfl, rfl, by simpa [h0] using hS, SameT.refl _⟩
  case fin =>
    intro vs done w hdone hS hR
    have hR3 : SqL (vs 13) [(withF (rst) [(x : Int), (x : Int)], g), (withF (rst) [(y : Int), (y : Int)], g)] w := hR 13 (by decide)
    obtain ⟨qz, hv, hc⟩ := hR3
    have e0 : vs 14 = .int .i64 0 := hR 14 (by decide)
    simp only [putAll, Act.put, List.setIfInBounds_toArray, List.set_cons_zero, List.set_cons_succ]
    rw [hv, e0]
    have HZ := show Hid (SqL (.slice (some ⟨qz, 0, none⟩) ([(withF (rst) [(x : Int), (x : Int)], g), (withF (rst) [(y : Int), (y : Int)], g)]).length ([(withF (rst) [(x : Int), (x : Int)], g), (withF (rst) [(y : Int), (y : Int)], g)]).length) [(withF (rst) [(x : Int), (x : Int)], g), (withF (rst) [(y : Int), (y : Int)], g)] w ∧ Below w0.heap.size w0 w) from ⟨⟨qz, rfl, hc⟩, hS.bel⟩
    clear hS hR hdone hv hc e0
    go_wp2_with fail
    go_ret2
    exact ⟨_, rfl, HZ.out.1, HZ.out.2⟩
end Go.Proofs.YtkejippimkjjaaaGreatDoor
/-
  The document's Premises of the rules that put formulas. (Written by genzrprem.py.)
-/
namespace Go.Proofs.YtkejippimkjjaaaGreatDoor
open Go.RowKit Go.Shelf Go.Maps
open Fm (Nd)
open Bt.Bs (Ok wd)
set_option linter.unusedSimpArgs false

theorem put_lt {t : List Nd} (hO : Fm.Ok t) {n : Nd} (h : (Fm.put t n).2.1 = 0) : 0 ≤ (Fm.put t n).1 ∧ (Fm.put t n).1 < 1024 := by
  have hl := hO.len
  unfold Fm.put at *
  split at h
  · rename_i hc
    rw [if_pos hc]
    split at h
    · rename_i hm
      rw [if_pos hm]
      have := List.idxOf_lt_length_iff.2 hm
      simp only
      omega
    · rename_i hm
      rw [if_neg hm]
      split at h
      · exact absurd h (by simp)
      · rename_i hx
        rw [if_neg hx]
        simp only
        omega
  · rename_i hc
    exact absurd h hc
theorem imps_lt {t : List Nd} (hO : Fm.Ok t) (a b c d : Int) (ha : Fm.i64 a) (hb : Fm.i64 b) (h : (impsF t a b c d).1.2.2 = 0) : (0 ≤ (impsF t a b c d).1.1 ∧ (impsF t a b c d).1.1 < 1024) ∧ (0 ≤ (impsF t a b c d).1.2.1 ∧ (impsF t a b c d).1.2.1 < 1024) := by
  have hg : Fm.good (joinN 5 a b) := good_joinN (by omega) (by omega) ha hb
  unfold impsF at *
  by_cases h1 : (Fm.put t (joinN 5 a b)).2.1 ≠ 0
  · rw [if_pos h1] at h
    exact absurd h h1
  · rw [if_neg h1] at h ⊢
    generalize (if c < 0 then (Fm.put t (joinN 5 a b)).1 else c) = c' at *
    generalize (if d < 0 then (Fm.put t (joinN 5 a b)).1 else d) = d' at *
    split at h
    · rename_i h2
      exact absurd h h2
    · rename_i h2
      rw [if_neg h2]
      exact ⟨put_lt hO (by simpa using h1), put_lt (Fm.ok_put hO hg) (by simpa using h2)⟩
set_option maxRecDepth 100000 in
set_option maxHeartbeats 4000000 in
theorem rprem_6 (w0 : World) {c : Nat} {u : Value} {t : List Nd} (hT : Tr w0 c u t) {r : List Nat} (hr : Ok r) (g : Int) (i : Nat) (hi : i < t.length) (hf : findF t r g 6 (i : Int) = true) (xl : Nat) (hx : t[i].l = xl) (hxt : xl < t.length) (ny : Nd) (hny : t[xl] = ny) :
    Calls Tryz.prog 37 #[.pointer (some ⟨c, 0, none⟩), .agg (cellsQ r g), .int .i64 6, .int .i64 (i : Int)] w0 fun e w' => ∃ sv, e = .returned (.tuple #[sv, .int .i64 (impsF t ny.r t[i].r ny.l (-1)).1.2.2]) ∧ SqR sv (if (impsF t ny.r t[i].r ny.l (-1)).1.2.2 = 0 then [(withF (Bt.dropI r (i : Int)) [(impsF t ny.r t[i].r ny.l (-1)).1.2.1, (impsF t ny.r t[i].r ny.l (-1)).1.2.1], g)] else []) w' ∧ AfterR w0 c u (impsF t ny.r t[i].r ny.l (-1)).2 w' := by
  have hl := hr.1
  have hiI : (i : Int) < (t.length : Int) := by omega
  have hlen := hT.ok.len
  have HFT := show Hid (∀ k, Fr c u k → k < w0.heap.size) from hT.foot
  have hO := hT.ok
  have KF := show Hid (∀ W : World, Below w0.heap.size w0 W → Calls Tryz.prog 56 #[.pointer (some ⟨c, 0, none⟩), .agg (cellsQ r g), .int .i64 6, .int .i64 (i : Int)] W fun e w' => e = .returned (.bool true) ∧ Below W.heap.size W w') from fun W hb => by
    have := rfits_any W (hT.later hb) hr g 6 (i : Int)
    rw [hf] at this
    exact this
  have KD := show Hid (∀ W : World, Calls Tryz.prog 57 #[.agg (Bt.cellsB r), .int .i64 (i : Int)] W fun e w' => e = .returned (.agg (Bt.cellsB (Bt.dropI r (i : Int)))) ∧ Below W.heap.size W w') from fun W => Bt.rdrop_any W hr (i : Int)
  have hrs : Ok (Bt.dropI r (i : Int)) := dropI_okZ hr (i : Int)
  have HT := show Hid (∀ W : World, Below w0.heap.size w0 W → Tr W c u t) from fun W hb => hT.later hb
  have HC := show Hid (∀ W : World, Below w0.heap.size w0 W → W.cell? ⟨c, 0, none⟩ = some u) from fun W hb => (hT.later hb).c0
  obtain ⟨p, cp, hu, hc1, hc2, hat⟩ := hT.row.isR.at
  obtain ⟨bb, oo, hp, hat4⟩ := hat (by omega)
  subst hp
  have HAT := show Hid (∀ W : World, Below w0.heap.size w0 W → At4 W bb (oo + i * 4) t[i]) from fun W hb => hat4 W hb i hi
  have HAX := show Hid (∀ W : World, Below w0.heap.size w0 W → ∀ j (hj : j < t.length), At4 W bb (oo + j * 4) t[j]) from fun W hb j hj => hat4 W hb j hj
  subst hu
  clear hT hat hat4 hf
  generalize Bt.dropI r (i : Int) = rst at *
  have hl2 := hrs.1
  have hgx : Fm.i64 t[i].r := (hO.gd _ (List.getElem_mem hi)).2.2.2
  have hgy := hO.gd _ (List.getElem_mem hxt)
  rw [hny] at hgy
  have KI := show Hid (∀ W : World, Tr W c (.slice (some ⟨bb, oo, none⟩) t.length cp) t → Calls Tryz.prog 59 #[.pointer (some ⟨c, 0, none⟩), .int .i64 (ny.r), .int .i64 (t[i].r), .int .i64 (ny.l), .int .i64 (-1)] W fun e w' => e = .returned (.tuple #[.int .i64 (impsF t ny.r t[i].r ny.l (-1)).1.1, .int .i64 (impsF t ny.r t[i].r ny.l (-1)).1.2.1, .int .i64 (impsF t ny.r t[i].r ny.l (-1)).1.2.2]) ∧ AfterR W c (.slice (some ⟨bb, oo, none⟩) t.length cp) (impsF t ny.r t[i].r ny.l (-1)).2 w') from fun W h => imps_any W h (ny.r) (t[i].r) (ny.l) (-1) hgy.2.2.2 hgx hgy.2.2.1 (by unfold Fm.i64; omega)
  have HIB := show Hid ((impsF t ny.r t[i].r ny.l (-1)).1.2.2 = 0 → (0 ≤ (impsF t ny.r t[i].r ny.l (-1)).1.1 ∧ (impsF t ny.r t[i].r ny.l (-1)).1.1 < 1024) ∧ (0 ≤ (impsF t ny.r t[i].r ny.l (-1)).1.2.1 ∧ (impsF t ny.r t[i].r ny.l (-1)).1.2.1 < 1024)) from imps_lt hO (ny.r) (t[i].r) (ny.l) (-1) hgy.2.2.2 hgx
  generalize impsF t ny.r t[i].r ny.l (-1) = I at *
  clear hgx hgy hO
  generalize t[i] = nd at *
  go_enter Tryz.func37, Tryz.ntmps37
  go_wp2_with (refine wpList_box 27 _ rfl _ rfl rfl ?_)
  intro w1 b5 hn1
  have H1 := show Hid (RS1 w0 w1 b5 r g) from ⟨hn1.blk, hn1.bel, hn1.ge⟩
  clear hn1
  go_wp2_with (refine wpList_ldQQ _ _ rfl b5 rfl H1.out.s hl rfl ?_)
  refine Calls.mono (KF.out _ H1.out.bel) ?_
  rintro e w2 ⟨rfl, hb2⟩
  have H2 := show Hid _ from H1.out.later hb2
  have c0 := HC.out w2 H2.out.bel
  clear H1 hb2 KF
  go_wp2_with (first | (refine wpList_ld4 _ rfl _ rfl bb (oo + i * 4) rfl (HAT.out w2 H2.out.bel) ?_) | (refine wpList_alloc 54 rfl _ zeroN rfl ?_))
  intro w3 b10 hn3
  go_wp2_with (refine wpList_st 54 rfl rfl _ _ rfl b10 rfl (ndC nd).toArray rfl _ _ hn3.blk (by rw [sizeN]; rfl) rfl (ndC_all nd) ?_)
  intro w4 hc4 hk4
  have H4 := show Hid (RS1 w0 w4 b5 r g ∧ Cl w4 b10 (ndC nd).toArray 54 ∧ w0.heap.size ≤ b10) from by
    have e1 := H2.out.bel.size; have e2 := hn3.ge; have e3 := Cl.lt H2.out.s
    exact ⟨⟨Cl.kp (T := 27) (Cl.new H2.out.s hn3) hk4 (by omega), bel_kp (bel_new H2.out.bel hn3) hk4 (by omega), H2.out.ge⟩, hc4, by omega⟩
  clear H2 hn3 hc4 hk4 c0
  go_wp2_with (first | (refine wpList_ldQQ _ _ rfl b5 rfl H4.out.1.s hl rfl ?_) | (refine wpList_alloc 27 rfl _ zeroValQ rfl ?_))
  intro w5 b11 hn5
  go_wp2_with (refine wpList_st 27 rfl rfl _ _ rfl b11 rfl (cellsQ r g) rfl _ _ hn5.blk (by rw [sizeQ, cellsQ_size hl]) (by rw [cellsQ_size hl]; rfl) (cellsQ_one r g) ?_)
  intro w6 hc6 hk6
  have H6 := show Hid (RS1 w0 w6 b5 r g ∧ Cl w6 b10 (ndC nd).toArray 54 ∧ SeqAt w6 b11 r g ∧ b11 ≠ b5 ∧ b11 ≠ b10 ∧ w0.heap.size ≤ b11) from by
    have e1 := H4.out.1.bel.size; have e2 := hn5.ge; have e3 := Cl.lt H4.out.1.s; have e4 := Cl.lt H4.out.2.1
    exact ⟨⟨Cl.kp (T := 27) (Cl.new H4.out.1.s hn5) hk6 (by omega), bel_kp (bel_new H4.out.1.bel hn5) hk6 (by omega), H4.out.1.ge⟩, Cl.kp (Cl.new H4.out.2.1 hn5) hk6 (by omega), hc6, by omega, by omega, by omega⟩
  have HG4 := show Hid (w0.heap.size ≤ b10) from H4.out.2.2
  clear H4 hn5 hc6 hk6
  go_wp2_with (refine wpList_ldBQ _ rfl _ rfl b5 0 rfl H6.out.1.s.seqIn hl ?_)
  refine Calls.mono (KD.out w6) ?_
  rintro e w7 ⟨rfl, hb7⟩
  have hs7 : SeqAt w7 b11 r g := H6.out.2.2.1.later hb7 H6.out.2.2.1.lt
  go_wp2_with (refine wpList_stBQ _ rfl rfl _ _ rfl b11 rfl rfl hs7 hl hl2 ?_)
  intro w8 hs8 hk8
  have HB8 := show Hid (RS1 w0 w8 b5 r g ∧ Cl w8 b10 (ndC nd).toArray 54) from
    ⟨⟨Cl.kp (T := 27) (H6.out.1.later hb7).s hk8 (fun e => H6.out.2.2.2.1 e.symm), bel_kp (H6.out.1.later hb7).bel hk8 H6.out.2.2.2.2.2, H6.out.1.ge⟩, Cl.kp (H6.out.2.1.later hb7) hk8 (fun e => H6.out.2.2.2.2.1 e.symm)⟩
  have H8 := show Hid (RP w0 w8 c (.slice (some ⟨bb, oo, none⟩) t.length cp) t b5 b10 b11 r rst g nd) from ⟨HT.out w8 HB8.out.1.bel, HB8.out.1.s, HB8.out.2, hs8, HB8.out.1.bel⟩
  have HGE := show Hid (w0.heap.size ≤ b5 ∧ w0.heap.size ≤ b10 ∧ w0.heap.size ≤ b11) from ⟨H6.out.1.ge, HG4.out, H6.out.2.2.2.2.2⟩
  clear HB8 H6 hb7 hs7 hs8 hk8 KD HT
  have d2 : w8.cell? ⟨b10, 2, none⟩ = some (.int .i64 nd.l) := H8.out.n.cell 2
  have d3 : w8.cell? ⟨b10, 3, none⟩ = some (.int .i64 nd.r) := H8.out.n.cell 3
  obtain ⟨N9, hN9⟩ : ∃ n, n = w8.heap.size := ⟨_, rfl⟩
  have HSZ := show Hid (w8.heap.size = N9) from hN9.symm
  have HN9 := show Hid (w0.heap.size ≤ N9 ∧ b5 < N9 ∧ b10 < N9 ∧ b11 < N9) from by
    have e1 := H8.out.bel.size; have e2 := Cl.lt H8.out.s; have e3 := Cl.lt H8.out.n; have e4 := Cl.lt H8.out.z
    rw [hN9]
    exact ⟨e1, e2, e3, e4⟩
  clear hN9 HC HAT d2 d3
  go_wp2_with fail
  refine wp_region_rel (by kernel_rfl) [some 70, some 71, some 72, some 73, some 74, some 75, some 76, some 77, some 12, none] [[], [0], [1], [2], [], [4], [3, 5], [6], [], [8, 7]] (by kernel_rfl) (fun i v w => match i with | 0 => v = .pointer (some ⟨c, 0, none⟩) | 1 => v = .pointer (some ⟨c, 0, none⟩) | 2 => v = .pointer (some ⟨c, 0, none⟩) | 3 => v = .slice (some ⟨bb, oo, none⟩) t.length cp | 4 => v = .pointer (some ⟨b10, 2, none⟩) | 5 => v = .int .i64 (xl : Int) | 6 => v = .pointer (some ⟨bb, oo + xl * 4, none⟩) | 7 => v = .agg (ndC ny).toArray | 8 => v = .pointer (some ⟨N9, 0, none⟩) | 9 => True | _ => True) (fun done W => RP w0 W c (.slice (some ⟨bb, oo, none⟩) t.length cp) t b5 b10 b11 r rst g nd ∧ (if done 9 then Cl W N9 (ndC ny).toArray 54 else if done 8 then Cl W N9 (ndC Fm.z).toArray 54 else W.heap.size = N9)) (fun _ _ => True) ?hle (⟨H8.out.drew, by simp only [Bool.false_eq_true, if_false]; exact HSZ.out⟩) (allLt 10 ?steps) ?fin
  case hle =>
    intro i v w w1 hl h
    match i, h with
    | 0, h => exact h
    | 1, h => exact h
    | 2, h => exact h
    | 3, h => exact h
    | 4, h => exact h
    | 5, h => exact h
    | 6, h => exact h
    | 7, h => exact h
    | 8, h => exact h
    | 9, h => exact h
    | _ + 10, h => trivial
  case steps =>
    refine ⟨⟨⟨⟨⟨⟨⟨⟨⟨⟨trivial, ?s0⟩, ?s1⟩, ?s2⟩, ?s3⟩, ?s4⟩, ?s5⟩, ?s6⟩, ?s7⟩, ?s8⟩, ?s9⟩
    case s0 =>
      intro done a w hS h0 hd hn hO hN
      have o0 : a.tmps[0]? = some (.pointer (some ⟨c, 0, none⟩)) := (hO.out 0 (by decide)).trans rfl
      refine relVal rfl (.pointer (some ⟨c, 0, none⟩)) w rfl (by go_simp) ⟨_, rfl, rfl, by simpa [h0] using hS, trivial⟩
    case s1 =>
      intro done a w hS h0 hd hn hO hN
      obtain ⟨v0, g0, r0⟩ := hN 0 (by decide)
      have g0 : a.tmps[70]? = some v0 := g0
      obtain rfl : v0 = .pointer (some ⟨c, 0, none⟩) := r0
      refine relVal rfl (.pointer (some ⟨c, 0, none⟩)) w rfl (by go_simp) ⟨_, rfl, rfl, by simpa [h0] using hS, trivial⟩
    case s2 =>
      intro done a w hS h0 hd hn hO hN
      obtain ⟨v1, g1, r1⟩ := hN 1 (by decide)
      have g1 : a.tmps[71]? = some v1 := g1
      obtain rfl : v1 = .pointer (some ⟨c, 0, none⟩) := r1
      refine relVal rfl (.pointer (some ⟨c, 0, none⟩)) w rfl (by go_simp) ⟨_, rfl, rfl, by simpa [h0] using hS, trivial⟩
    case s3 =>
      intro done a w hS h0 hd hn hO hN
      obtain ⟨v2, g2, r2⟩ := hN 2 (by decide)
      have g2 : a.tmps[72]? = some v2 := g2
      obtain rfl : v2 = .pointer (some ⟨c, 0, none⟩) := r2
      have hc := hS.1.tr.c0
      refine relVal rfl (.slice (some ⟨bb, oo, none⟩) t.length cp) w rfl (by go_simp) ⟨_, rfl, rfl, by simpa [h0] using hS, trivial⟩
    case s4 =>
      intro done a w hS h0 hd hn hO hN
      have o10 : a.tmps[10]? = some (.pointer (some ⟨b10, 0, none⟩)) := (hO.out 10 (by decide)).trans rfl
      refine relVal rfl (.pointer (some ⟨b10, 2, none⟩)) w rfl (by go_simp) ⟨_, rfl, rfl, by simpa [h0] using hS, trivial⟩
    case s5 =>
      intro done a w hS h0 hd hn hO hN
      obtain ⟨v4, g4, r4⟩ := hN 4 (by decide)
      have g4 : a.tmps[74]? = some v4 := g4
      obtain rfl : v4 = .pointer (some ⟨b10, 2, none⟩) := r4
      have hc : w.cell? ⟨b10, 2, none⟩ = some (.int .i64 (xl : Int)) := by rw [← hx]; exact hS.1.n.cell 2
      refine relVal rfl (.int .i64 (xl : Int)) w rfl (by go_simp) ⟨_, rfl, rfl, by simpa [h0] using hS, trivial⟩
    case s6 =>
      intro done a w hS h0 hd hn hO hN
      obtain ⟨v3, g3, r3⟩ := hN 3 (by decide)
      have g3 : a.tmps[73]? = some v3 := g3
      obtain rfl : v3 = .slice (some ⟨bb, oo, none⟩) t.length cp := r3
      obtain ⟨v5, g5, r5⟩ := hN 5 (by decide)
      have g5 : a.tmps[75]? = some v5 := g5
      obtain rfl : v5 = .int .i64 (xl : Int) := r5
      refine relVal rfl (.pointer (some ⟨bb, oo + xl * 4, none⟩)) w rfl (by go_simp) ⟨_, rfl, rfl, by simpa [h0] using hS, trivial⟩
    case s7 =>
      intro done a w hS h0 hd hn hO hN
      obtain ⟨v6, g6, r6⟩ := hN 6 (by decide)
      have g6 : a.tmps[76]? = some v6 := g6
      obtain rfl : v6 = .pointer (some ⟨bb, oo + xl * 4, none⟩) := r6
      have hq := run_ld4 w (HAX.out w hS.1.bel xl hxt)
      rw [hny] at hq
      refine relVal rfl (.agg (ndC ny).toArray) w rfl (by simp [execOp, Act.eval, g6, hq, Result.andThen]) ⟨_, rfl, rfl, by simpa [h0] using hS, trivial⟩
    case s8 =>
      intro done a w hS h0 hd hn hO hN
      have h9f : done 9 = false := hn 9 (by decide)
      have hsz : w.heap.size = N9 := by have := hS.2; simpa [h0, h9f] using this
      have hnw := new_alloc w (ndC Fm.z).toArray 54
      refine relVal rfl (.pointer (some ⟨N9, 0, none⟩)) (w.alloc (.cells (ndC Fm.z).toArray 54)) rfl (by rw [← hsz]; simp [execOp, Instr.alloc, zeroN, go_sem, Result.andThen]; rfl) ⟨_, rfl, rfl, ?_, trivial⟩
      rw [hsz] at hnw
      refine ⟨hS.1.later hnw.bel, ?_⟩
      simp only [h9f, beq_self_eq_true, Bool.true_or, if_true, Bool.or_false, Nat.reduceBEq, Bool.false_eq_true, if_false]
      exact hnw.blk
    case s9 =>
      intro done a w hS h0 hd hn hO hN
      obtain ⟨v8, g8, r8⟩ := hN 8 (by decide)
      have g8 : a.tmps[12]? = some v8 := g8
      obtain rfl : v8 = .pointer (some ⟨N9, 0, none⟩) := r8
      obtain ⟨v7, g7, r7⟩ := hN 7 (by decide)
      have g7 : a.tmps[77]? = some v7 := g7
      obtain rfl : v7 = .agg (ndC ny).toArray := r7
      have h8t : done 8 = true := hd 8 (by decide)
      have hcl : Cl w N9 (ndC Fm.z).toArray 54 := by have := hS.2; simpa [h0, h8t] using this
      have hk := setRow_kp w N9 (ndC ny).toArray
      refine relStore rfl rfl 54 (.tmp 12) (.tmp 77) rfl (px := .pointer (some ⟨N9, 0, none⟩)) (vy := .agg (ndC ny).toArray) (by simp [Act.eval, g8]) (by simp [Act.eval, g7]) (stC hcl (by rw [sizeN]; rfl) rfl (ndC_all ny)) ⟨_, rfl, trivial, ?_, trivial⟩
      refine ⟨⟨hS.1.tr.keep fun k hk2 => hk.block k (hS.1.tr.foot k hk2) (fun e => by have := HFT.out k hk2; have := HN9.out; omega), Cl.kp (T := 27) hS.1.s hk (fun e => by have := HN9.out; omega), Cl.kp hS.1.n hk (fun e => by have := HN9.out; omega), Cl.kp (T := 27) hS.1.z hk (fun e => by have := HN9.out; omega), bel_kp hS.1.bel hk (by have := HN9.out; omega)⟩, ?_⟩
      simp only [beq_self_eq_true, Bool.true_or, if_true]
      exact setRow_heap w N9 _ _ _ _ hcl
  case fin =>
    intro vs done w hdone hS hR
    have h9t : done 9 = true := hdone 9 (by decide)
    have e12 : vs 8 = .pointer (some ⟨N9, 0, none⟩) := hR 8 (by decide)
    have hS2 := hS
    simp only [h9t, if_true] at hS2
    simp only [putAll, Act.put, List.setIfInBounds_toArray, List.set_cons_zero, List.set_cons_succ]
    rw [e12]
    have H9 := show Hid ((RP w0 w c (.slice (some ⟨bb, oo, none⟩) t.length cp) t b5 b10 b11 r rst g nd) ∧ Cl w N9 (ndC ny).toArray 54) from hS2
    clear hS hR hdone hS2 e12 h9t
    have q2 : w.cell? ⟨N9, 2, none⟩ = some (.int .i64 ny.l) := H9.out.2.cell 2
    have q3 : w.cell? ⟨N9, 3, none⟩ = some (.int .i64 ny.r) := H9.out.2.cell 3
    have d3 : w.cell? ⟨b10, 3, none⟩ = some (.int .i64 nd.r) := H9.out.1.n.cell 3
    go_wp2_with fail
    refine Calls.mono (KI.out w H9.out.1.tr) ?_
    rintro e w10 ⟨rfl, u2, hT2, hL2, hK2⟩
    have hz10 : SeqAt w10 b11 rst g := (hK2.block b11 (Cl.lt H9.out.1.z) (fun e => by have := HFT.out b11 e; have := HGE.out; omega)).trans H9.out.1.z
    have HZ := show Hid (SeqAt w10 b11 rst g) from hz10
    have HA := show Hid (AfterR w0 c (.slice (some ⟨bb, oo, none⟩) t.length cp) I.2 w10) from ⟨u2, hT2, fun k hk => (hL2 k hk).imp id (fun h => Nat.le_trans H9.out.1.bel.size h), (Kp.of_below H9.out.1.bel).trans hK2 (fun i hi => Or.inl hi)⟩
    clear hT2 hL2 hK2 hz10 H9 KI q2 q3 d3 HAX HSZ HFT HGE HN9
    by_cases hz : I.1.2.2 = 0
    · have hzb : (I.1.2.2 != 0) = false := by simpa using hz
      have hib := HIB.out hz
      obtain ⟨fa, hfa⟩ : ∃ f : Nat, I.1.1 = f := ⟨I.1.1.toNat, by omega⟩
      obtain ⟨fb, hfb⟩ : ∃ f : Nat, I.1.2.1 = f := ⟨I.1.2.1.toNat, by omega⟩
      have KW := show Hid (Calls Tryz.prog 58 #[.agg (cellsQ rst g), .int .i64 I.1.2.1, .int .i64 I.1.2.1] w10 fun e w' => e = .returned (.agg (cellsQ (withF rst [I.1.2.1, I.1.2.1]) g)) ∧ Below w10.heap.size w10 w') from by
        have := rwith_any w10 hrs g fb fb (by omega) (by omega)
        rw [← hfb] at this
        exact this
      have hlw : (withF rst [I.1.2.1, I.1.2.1]).length = 16 := (putI_okZ (putI_okZ hrs I.1.2.1) I.1.2.1).1
      clear HIB hib hfa hfb
      go_wp2_with (refine wpList_ldQQ _ _ rfl b11 rfl HZ.out hl2 rfl ?_)
      refine Calls.mono KW.out ?_
      rintro e w11 ⟨rfl, hb11⟩
      have HB := show Hid _ from hb11
      clear hb11 KW HZ
      go_wp2_with (refine wpList_row1 _ rfl _ rfl rfl hlw ?_)
      go_ret2
      refine ⟨_, rfl, Or.inr ⟨w11.heap.size, rfl, (new_alloc w11 _ _).blk⟩, ?_⟩
      obtain ⟨u3, h1, h2, h3⟩ := HA.out
      have hbb := bel_new HB.out (new_alloc w11 (cellsQs [(withF rst [I.1.2.1, I.1.2.1], g)]) 27)
      exact ⟨u3, h1.later hbb, h2, h3.trans (Kp.of_below (S := fun _ => False) hbb) (fun _ hf => hf.elim)⟩
    · have hzb : (I.1.2.2 != 0) = true := by simpa using hz
      clear HIB HZ
      go_wp2_with fail
      go_ret2
      exact ⟨_, rfl, Or.inl ⟨rfl, rfl⟩, HA.out⟩
set_option maxRecDepth 100000 in
set_option maxHeartbeats 4000000 in
theorem rprem_7 (w0 : World) {c : Nat} {u : Value} {t : List Nd} (hT : Tr w0 c u t) {r : List Nat} (hr : Ok r) (g : Int) (i : Nat) (hi : i < t.length) (hf : findF t r g 7 (i : Int) = true) (xl : Nat) (hx : t[i].l = xl) (hxt : xl < t.length) (ny : Nd) (hny : t[xl] = ny) :
    Calls Tryz.prog 37 #[.pointer (some ⟨c, 0, none⟩), .agg (cellsQ r g), .int .i64 7, .int .i64 (i : Int)] w0 fun e w' => ∃ sv, e = .returned (.tuple #[sv, .int .i64 (impsF t ny.l t[i].r ny.r t[i].r).1.2.2]) ∧ SqR sv (if (impsF t ny.l t[i].r ny.r t[i].r).1.2.2 = 0 then [(withF (Bt.dropI r (i : Int)) [(impsF t ny.l t[i].r ny.r t[i].r).1.1, (impsF t ny.l t[i].r ny.r t[i].r).1.2.1], g)] else []) w' ∧ AfterR w0 c u (impsF t ny.l t[i].r ny.r t[i].r).2 w' := by
  have hl := hr.1
  have hiI : (i : Int) < (t.length : Int) := by omega
  have hlen := hT.ok.len
  have HFT := show Hid (∀ k, Fr c u k → k < w0.heap.size) from hT.foot
  have hO := hT.ok
  have KF := show Hid (∀ W : World, Below w0.heap.size w0 W → Calls Tryz.prog 56 #[.pointer (some ⟨c, 0, none⟩), .agg (cellsQ r g), .int .i64 7, .int .i64 (i : Int)] W fun e w' => e = .returned (.bool true) ∧ Below W.heap.size W w') from fun W hb => by
    have := rfits_any W (hT.later hb) hr g 7 (i : Int)
    rw [hf] at this
    exact this
  have KD := show Hid (∀ W : World, Calls Tryz.prog 57 #[.agg (Bt.cellsB r), .int .i64 (i : Int)] W fun e w' => e = .returned (.agg (Bt.cellsB (Bt.dropI r (i : Int)))) ∧ Below W.heap.size W w') from fun W => Bt.rdrop_any W hr (i : Int)
  have hrs : Ok (Bt.dropI r (i : Int)) := dropI_okZ hr (i : Int)
  have HT := show Hid (∀ W : World, Below w0.heap.size w0 W → Tr W c u t) from fun W hb => hT.later hb
  have HC := show Hid (∀ W : World, Below w0.heap.size w0 W → W.cell? ⟨c, 0, none⟩ = some u) from fun W hb => (hT.later hb).c0
  obtain ⟨p, cp, hu, hc1, hc2, hat⟩ := hT.row.isR.at
  obtain ⟨bb, oo, hp, hat4⟩ := hat (by omega)
  subst hp
  have HAT := show Hid (∀ W : World, Below w0.heap.size w0 W → At4 W bb (oo + i * 4) t[i]) from fun W hb => hat4 W hb i hi
  have HAX := show Hid (∀ W : World, Below w0.heap.size w0 W → ∀ j (hj : j < t.length), At4 W bb (oo + j * 4) t[j]) from fun W hb j hj => hat4 W hb j hj
  subst hu
  clear hT hat hat4 hf
  generalize Bt.dropI r (i : Int) = rst at *
  have hl2 := hrs.1
  have hgx : Fm.i64 t[i].r := (hO.gd _ (List.getElem_mem hi)).2.2.2
  have hgy := hO.gd _ (List.getElem_mem hxt)
  rw [hny] at hgy
  have KI := show Hid (∀ W : World, Tr W c (.slice (some ⟨bb, oo, none⟩) t.length cp) t → Calls Tryz.prog 59 #[.pointer (some ⟨c, 0, none⟩), .int .i64 (ny.l), .int .i64 (t[i].r), .int .i64 (ny.r), .int .i64 (t[i].r)] W fun e w' => e = .returned (.tuple #[.int .i64 (impsF t ny.l t[i].r ny.r t[i].r).1.1, .int .i64 (impsF t ny.l t[i].r ny.r t[i].r).1.2.1, .int .i64 (impsF t ny.l t[i].r ny.r t[i].r).1.2.2]) ∧ AfterR W c (.slice (some ⟨bb, oo, none⟩) t.length cp) (impsF t ny.l t[i].r ny.r t[i].r).2 w') from fun W h => imps_any W h (ny.l) (t[i].r) (ny.r) (t[i].r) hgy.2.2.1 hgx hgy.2.2.2 hgx
  have HIB := show Hid ((impsF t ny.l t[i].r ny.r t[i].r).1.2.2 = 0 → (0 ≤ (impsF t ny.l t[i].r ny.r t[i].r).1.1 ∧ (impsF t ny.l t[i].r ny.r t[i].r).1.1 < 1024) ∧ (0 ≤ (impsF t ny.l t[i].r ny.r t[i].r).1.2.1 ∧ (impsF t ny.l t[i].r ny.r t[i].r).1.2.1 < 1024)) from imps_lt hO (ny.l) (t[i].r) (ny.r) (t[i].r) hgy.2.2.1 hgx
  generalize impsF t ny.l t[i].r ny.r t[i].r = I at *
  clear hgx hgy hO
  generalize t[i] = nd at *
  go_enter Tryz.func37, Tryz.ntmps37
  go_wp2_with (refine wpList_box 27 _ rfl _ rfl rfl ?_)
  intro w1 b5 hn1
  have H1 := show Hid (RS1 w0 w1 b5 r g) from ⟨hn1.blk, hn1.bel, hn1.ge⟩
  clear hn1
  go_wp2_with (refine wpList_ldQQ _ _ rfl b5 rfl H1.out.s hl rfl ?_)
  refine Calls.mono (KF.out _ H1.out.bel) ?_
  rintro e w2 ⟨rfl, hb2⟩
  have H2 := show Hid _ from H1.out.later hb2
  have c0 := HC.out w2 H2.out.bel
  clear H1 hb2 KF
  go_wp2_with (first | (refine wpList_ld4 _ rfl _ rfl bb (oo + i * 4) rfl (HAT.out w2 H2.out.bel) ?_) | (refine wpList_alloc 54 rfl _ zeroN rfl ?_))
  intro w3 b10 hn3
  go_wp2_with (refine wpList_st 54 rfl rfl _ _ rfl b10 rfl (ndC nd).toArray rfl _ _ hn3.blk (by rw [sizeN]; rfl) rfl (ndC_all nd) ?_)
  intro w4 hc4 hk4
  have H4 := show Hid (RS1 w0 w4 b5 r g ∧ Cl w4 b10 (ndC nd).toArray 54 ∧ w0.heap.size ≤ b10) from by
    have e1 := H2.out.bel.size; have e2 := hn3.ge; have e3 := Cl.lt H2.out.s
    exact ⟨⟨Cl.kp (T := 27) (Cl.new H2.out.s hn3) hk4 (by omega), bel_kp (bel_new H2.out.bel hn3) hk4 (by omega), H2.out.ge⟩, hc4, by omega⟩
  clear H2 hn3 hc4 hk4 c0
  go_wp2_with (first | (refine wpList_ldQQ _ _ rfl b5 rfl H4.out.1.s hl rfl ?_) | (refine wpList_alloc 27 rfl _ zeroValQ rfl ?_))
  intro w5 b11 hn5
  go_wp2_with (refine wpList_st 27 rfl rfl _ _ rfl b11 rfl (cellsQ r g) rfl _ _ hn5.blk (by rw [sizeQ, cellsQ_size hl]) (by rw [cellsQ_size hl]; rfl) (cellsQ_one r g) ?_)
  intro w6 hc6 hk6
  have H6 := show Hid (RS1 w0 w6 b5 r g ∧ Cl w6 b10 (ndC nd).toArray 54 ∧ SeqAt w6 b11 r g ∧ b11 ≠ b5 ∧ b11 ≠ b10 ∧ w0.heap.size ≤ b11) from by
    have e1 := H4.out.1.bel.size; have e2 := hn5.ge; have e3 := Cl.lt H4.out.1.s; have e4 := Cl.lt H4.out.2.1
    exact ⟨⟨Cl.kp (T := 27) (Cl.new H4.out.1.s hn5) hk6 (by omega), bel_kp (bel_new H4.out.1.bel hn5) hk6 (by omega), H4.out.1.ge⟩, Cl.kp (Cl.new H4.out.2.1 hn5) hk6 (by omega), hc6, by omega, by omega, by omega⟩
  have HG4 := show Hid (w0.heap.size ≤ b10) from H4.out.2.2
  clear H4 hn5 hc6 hk6
  go_wp2_with (refine wpList_ldBQ _ rfl _ rfl b5 0 rfl H6.out.1.s.seqIn hl ?_)
  refine Calls.mono (KD.out w6) ?_
  rintro e w7 ⟨rfl, hb7⟩
  have hs7 : SeqAt w7 b11 r g := H6.out.2.2.1.later hb7 H6.out.2.2.1.lt
  go_wp2_with (refine wpList_stBQ _ rfl rfl _ _ rfl b11 rfl rfl hs7 hl hl2 ?_)
  intro w8 hs8 hk8
  have HB8 := show Hid (RS1 w0 w8 b5 r g ∧ Cl w8 b10 (ndC nd).toArray 54) from
    ⟨⟨Cl.kp (T := 27) (H6.out.1.later hb7).s hk8 (fun e => H6.out.2.2.2.1 e.symm), bel_kp (H6.out.1.later hb7).bel hk8 H6.out.2.2.2.2.2, H6.out.1.ge⟩, Cl.kp (H6.out.2.1.later hb7) hk8 (fun e => H6.out.2.2.2.2.1 e.symm)⟩
  have H8 := show Hid (RP w0 w8 c (.slice (some ⟨bb, oo, none⟩) t.length cp) t b5 b10 b11 r rst g nd) from ⟨HT.out w8 HB8.out.1.bel, HB8.out.1.s, HB8.out.2, hs8, HB8.out.1.bel⟩
  have HGE := show Hid (w0.heap.size ≤ b5 ∧ w0.heap.size ≤ b10 ∧ w0.heap.size ≤ b11) from ⟨H6.out.1.ge, HG4.out, H6.out.2.2.2.2.2⟩
  clear HB8 H6 hb7 hs7 hs8 hk8 KD HT
  have d2 : w8.cell? ⟨b10, 2, none⟩ = some (.int .i64 nd.l) := H8.out.n.cell 2
  have d3 : w8.cell? ⟨b10, 3, none⟩ = some (.int .i64 nd.r) := H8.out.n.cell 3
  obtain ⟨N9, hN9⟩ : ∃ n, n = w8.heap.size := ⟨_, rfl⟩
  have HSZ := show Hid (w8.heap.size = N9) from hN9.symm
  have HN9 := show Hid (w0.heap.size ≤ N9 ∧ b5 < N9 ∧ b10 < N9 ∧ b11 < N9) from by
    have e1 := H8.out.bel.size; have e2 := Cl.lt H8.out.s; have e3 := Cl.lt H8.out.n; have e4 := Cl.lt H8.out.z
    rw [hN9]
    exact ⟨e1, e2, e3, e4⟩
  clear hN9 HC HAT d2 d3
  go_wp2_with fail
  refine wp_region_rel (by kernel_rfl) [some 100, some 101, some 102, some 103, some 104, some 105, some 106, some 107, some 16, none] [[], [0], [1], [2], [], [4], [3, 5], [6], [], [8, 7]] (by kernel_rfl) (fun i v w => match i with | 0 => v = .pointer (some ⟨c, 0, none⟩) | 1 => v = .pointer (some ⟨c, 0, none⟩) | 2 => v = .pointer (some ⟨c, 0, none⟩) | 3 => v = .slice (some ⟨bb, oo, none⟩) t.length cp | 4 => v = .pointer (some ⟨b10, 2, none⟩) | 5 => v = .int .i64 (xl : Int) | 6 => v = .pointer (some ⟨bb, oo + xl * 4, none⟩) | 7 => v = .agg (ndC ny).toArray | 8 => v = .pointer (some ⟨N9, 0, none⟩) | 9 => True | _ => True) (fun done W => RP w0 W c (.slice (some ⟨bb, oo, none⟩) t.length cp) t b5 b10 b11 r rst g nd ∧ (if done 9 then Cl W N9 (ndC ny).toArray 54 else if done 8 then Cl W N9 (ndC Fm.z).toArray 54 else W.heap.size = N9)) (fun _ _ => True) ?hle (⟨H8.out.drew, by simp only [Bool.false_eq_true, if_false]; exact HSZ.out⟩) (allLt 10 ?steps) ?fin
  case hle =>
    intro i v w w1 hl h
    match i, h with
    | 0, h => exact h
    | 1, h => exact h
    | 2, h => exact h
    | 3, h => exact h
    | 4, h => exact h
    | 5, h => exact h
    | 6, h => exact h
    | 7, h => exact h
    | 8, h => exact h
    | 9, h => exact h
    | _ + 10, h => trivial
  case steps =>
    refine ⟨⟨⟨⟨⟨⟨⟨⟨⟨⟨trivial, ?s0⟩, ?s1⟩, ?s2⟩, ?s3⟩, ?s4⟩, ?s5⟩, ?s6⟩, ?s7⟩, ?s8⟩, ?s9⟩
    case s0 =>
      intro done a w hS h0 hd hn hO hN
      have o0 : a.tmps[0]? = some (.pointer (some ⟨c, 0, none⟩)) := (hO.out 0 (by decide)).trans rfl
      refine relVal rfl (.pointer (some ⟨c, 0, none⟩)) w rfl (by go_simp) ⟨_, rfl, rfl, by simpa [h0] using hS, trivial⟩
    case s1 =>
      intro done a w hS h0 hd hn hO hN
      obtain ⟨v0, g0, r0⟩ := hN 0 (by decide)
      have g0 : a.tmps[100]? = some v0 := g0
      obtain rfl : v0 = .pointer (some ⟨c, 0, none⟩) := r0
      refine relVal rfl (.pointer (some ⟨c, 0, none⟩)) w rfl (by go_simp) ⟨_, rfl, rfl, by simpa [h0] using hS, trivial⟩
    case s2 =>
      intro done a w hS h0 hd hn hO hN
      obtain ⟨v1, g1, r1⟩ := hN 1 (by decide)
      have g1 : a.tmps[101]? = some v1 := g1
      obtain rfl : v1 = .pointer (some ⟨c, 0, none⟩) := r1
      refine relVal rfl (.pointer (some ⟨c, 0, none⟩)) w rfl (by go_simp) ⟨_, rfl, rfl, by simpa [h0] using hS, trivial⟩
    case s3 =>
      intro done a w hS h0 hd hn hO hN
      obtain ⟨v2, g2, r2⟩ := hN 2 (by decide)
      have g2 : a.tmps[102]? = some v2 := g2
      obtain rfl : v2 = .pointer (some ⟨c, 0, none⟩) := r2
      have hc := hS.1.tr.c0
      refine relVal rfl (.slice (some ⟨bb, oo, none⟩) t.length cp) w rfl (by go_simp) ⟨_, rfl, rfl, by simpa [h0] using hS, trivial⟩
    case s4 =>
      intro done a w hS h0 hd hn hO hN
      have o10 : a.tmps[10]? = some (.pointer (some ⟨b10, 0, none⟩)) := (hO.out 10 (by decide)).trans rfl
      refine relVal rfl (.pointer (some ⟨b10, 2, none⟩)) w rfl (by go_simp) ⟨_, rfl, rfl, by simpa [h0] using hS, trivial⟩
    case s5 =>
      intro done a w hS h0 hd hn hO hN
      obtain ⟨v4, g4, r4⟩ := hN 4 (by decide)
      have g4 : a.tmps[104]? = some v4 := g4
      obtain rfl : v4 = .pointer (some ⟨b10, 2, none⟩) := r4
      have hc : w.cell? ⟨b10, 2, none⟩ = some (.int .i64 (xl : Int)) := by rw [← hx]; exact hS.1.n.cell 2
      refine relVal rfl (.int .i64 (xl : Int)) w rfl (by go_simp) ⟨_, rfl, rfl, by simpa [h0] using hS, trivial⟩
    case s6 =>
      intro done a w hS h0 hd hn hO hN
      obtain ⟨v3, g3, r3⟩ := hN 3 (by decide)
      have g3 : a.tmps[103]? = some v3 := g3
      obtain rfl : v3 = .slice (some ⟨bb, oo, none⟩) t.length cp := r3
      obtain ⟨v5, g5, r5⟩ := hN 5 (by decide)
      have g5 : a.tmps[105]? = some v5 := g5
      obtain rfl : v5 = .int .i64 (xl : Int) := r5
      refine relVal rfl (.pointer (some ⟨bb, oo + xl * 4, none⟩)) w rfl (by go_simp) ⟨_, rfl, rfl, by simpa [h0] using hS, trivial⟩
    case s7 =>
      intro done a w hS h0 hd hn hO hN
      obtain ⟨v6, g6, r6⟩ := hN 6 (by decide)
      have g6 : a.tmps[106]? = some v6 := g6
      obtain rfl : v6 = .pointer (some ⟨bb, oo + xl * 4, none⟩) := r6
      have hq := run_ld4 w (HAX.out w hS.1.bel xl hxt)
      rw [hny] at hq
      refine relVal rfl (.agg (ndC ny).toArray) w rfl (by simp [execOp, Act.eval, g6, hq, Result.andThen]) ⟨_, rfl, rfl, by simpa [h0] using hS, trivial⟩
    case s8 =>
      intro done a w hS h0 hd hn hO hN
      have h9f : done 9 = false := hn 9 (by decide)
      have hsz : w.heap.size = N9 := by have := hS.2; simpa [h0, h9f] using this
      have hnw := new_alloc w (ndC Fm.z).toArray 54
      refine relVal rfl (.pointer (some ⟨N9, 0, none⟩)) (w.alloc (.cells (ndC Fm.z).toArray 54)) rfl (by rw [← hsz]; simp [execOp, Instr.alloc, zeroN, go_sem, Result.andThen]; rfl) ⟨_, rfl, rfl, ?_, trivial⟩
      rw [hsz] at hnw
      refine ⟨hS.1.later hnw.bel, ?_⟩
      simp only [h9f, beq_self_eq_true, Bool.true_or, if_true, Bool.or_false, Nat.reduceBEq, Bool.false_eq_true, if_false]
      exact hnw.blk
    case s9 =>
      intro done a w hS h0 hd hn hO hN
      obtain ⟨v8, g8, r8⟩ := hN 8 (by decide)
      have g8 : a.tmps[16]? = some v8 := g8
      obtain rfl : v8 = .pointer (some ⟨N9, 0, none⟩) := r8
      obtain ⟨v7, g7, r7⟩ := hN 7 (by decide)
      have g7 : a.tmps[107]? = some v7 := g7
      obtain rfl : v7 = .agg (ndC ny).toArray := r7
      have h8t : done 8 = true := hd 8 (by decide)
      have hcl : Cl w N9 (ndC Fm.z).toArray 54 := by have := hS.2; simpa [h0, h8t] using this
      have hk := setRow_kp w N9 (ndC ny).toArray
      refine relStore rfl rfl 54 (.tmp 16) (.tmp 107) rfl (px := .pointer (some ⟨N9, 0, none⟩)) (vy := .agg (ndC ny).toArray) (by simp [Act.eval, g8]) (by simp [Act.eval, g7]) (stC hcl (by rw [sizeN]; rfl) rfl (ndC_all ny)) ⟨_, rfl, trivial, ?_, trivial⟩
      refine ⟨⟨hS.1.tr.keep fun k hk2 => hk.block k (hS.1.tr.foot k hk2) (fun e => by have := HFT.out k hk2; have := HN9.out; omega), Cl.kp (T := 27) hS.1.s hk (fun e => by have := HN9.out; omega), Cl.kp hS.1.n hk (fun e => by have := HN9.out; omega), Cl.kp (T := 27) hS.1.z hk (fun e => by have := HN9.out; omega), bel_kp hS.1.bel hk (by have := HN9.out; omega)⟩, ?_⟩
      simp only [beq_self_eq_true, Bool.true_or, if_true]
      exact setRow_heap w N9 _ _ _ _ hcl
  case fin =>
    intro vs done w hdone hS hR
    have h9t : done 9 = true := hdone 9 (by decide)
    have e12 : vs 8 = .pointer (some ⟨N9, 0, none⟩) := hR 8 (by decide)
    have hS2 := hS
    simp only [h9t, if_true] at hS2
    simp only [putAll, Act.put, List.setIfInBounds_toArray, List.set_cons_zero, List.set_cons_succ]
    rw [e12]
    have H9 := show Hid ((RP w0 w c (.slice (some ⟨bb, oo, none⟩) t.length cp) t b5 b10 b11 r rst g nd) ∧ Cl w N9 (ndC ny).toArray 54) from hS2
    clear hS hR hdone hS2 e12 h9t
    have q2 : w.cell? ⟨N9, 2, none⟩ = some (.int .i64 ny.l) := H9.out.2.cell 2
    have q3 : w.cell? ⟨N9, 3, none⟩ = some (.int .i64 ny.r) := H9.out.2.cell 3
    have d3 : w.cell? ⟨b10, 3, none⟩ = some (.int .i64 nd.r) := H9.out.1.n.cell 3
    go_wp2_with fail
    refine Calls.mono (KI.out w H9.out.1.tr) ?_
    rintro e w10 ⟨rfl, u2, hT2, hL2, hK2⟩
    have hz10 : SeqAt w10 b11 rst g := (hK2.block b11 (Cl.lt H9.out.1.z) (fun e => by have := HFT.out b11 e; have := HGE.out; omega)).trans H9.out.1.z
    have HZ := show Hid (SeqAt w10 b11 rst g) from hz10
    have HA := show Hid (AfterR w0 c (.slice (some ⟨bb, oo, none⟩) t.length cp) I.2 w10) from ⟨u2, hT2, fun k hk => (hL2 k hk).imp id (fun h => Nat.le_trans H9.out.1.bel.size h), (Kp.of_below H9.out.1.bel).trans hK2 (fun i hi => Or.inl hi)⟩
    clear hT2 hL2 hK2 hz10 H9 KI q2 q3 d3 HAX HSZ HFT HGE HN9
    by_cases hz : I.1.2.2 = 0
    · have hzb : (I.1.2.2 != 0) = false := by simpa using hz
      have hib := HIB.out hz
      obtain ⟨fa, hfa⟩ : ∃ f : Nat, I.1.1 = f := ⟨I.1.1.toNat, by omega⟩
      obtain ⟨fb, hfb⟩ : ∃ f : Nat, I.1.2.1 = f := ⟨I.1.2.1.toNat, by omega⟩
      have KW := show Hid (Calls Tryz.prog 58 #[.agg (cellsQ rst g), .int .i64 I.1.1, .int .i64 I.1.2.1] w10 fun e w' => e = .returned (.agg (cellsQ (withF rst [I.1.1, I.1.2.1]) g)) ∧ Below w10.heap.size w10 w') from by
        have := rwith_any w10 hrs g fa fb (by omega) (by omega)
        rw [← hfa, ← hfb] at this
        exact this
      have hlw : (withF rst [I.1.1, I.1.2.1]).length = 16 := (putI_okZ (putI_okZ hrs I.1.1) I.1.2.1).1
      clear HIB hib hfa hfb
      go_wp2_with (refine wpList_ldQQ _ _ rfl b11 rfl HZ.out hl2 rfl ?_)
      refine Calls.mono KW.out ?_
      rintro e w11 ⟨rfl, hb11⟩
      have HB := show Hid _ from hb11
      clear hb11 KW HZ
      go_wp2_with (refine wpList_row1 _ rfl _ rfl rfl hlw ?_)
      go_ret2
      refine ⟨_, rfl, Or.inr ⟨w11.heap.size, rfl, (new_alloc w11 _ _).blk⟩, ?_⟩
      obtain ⟨u3, h1, h2, h3⟩ := HA.out
      have hbb := bel_new HB.out (new_alloc w11 (cellsQs [(withF rst [I.1.1, I.1.2.1], g)]) 27)
      exact ⟨u3, h1.later hbb, h2, h3.trans (Kp.of_below (S := fun _ => False) hbb) (fun _ hf => hf.elim)⟩
    · have hzb : (I.1.2.2 != 0) = true := by simpa using hz
      clear HIB HZ
      go_wp2_with fail
      go_ret2
      exact ⟨_, rfl, Or.inl ⟨rfl, rfl⟩, HA.out⟩
end Go.Proofs.YtkejippimkjjaaaGreatDoor
