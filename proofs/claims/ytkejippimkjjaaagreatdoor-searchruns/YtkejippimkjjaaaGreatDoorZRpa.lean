/-
  The document's Premises of the rules that ask for nothing or put no formula. (Written by genzrprem.py.)
-/
import Derived.Test.YtkejippimkjjaaaGreatDoorZP1
namespace Go.Proofs.YtkejippimkjjaaaGreatDoor
open Go.RowKit Go.Shelf Go.Maps
open Fm (Nd)
open Bt.Bs (Ok wd)
set_option linter.unusedSimpArgs false

set_option maxRecDepth 100000 in
set_option maxHeartbeats 4000000 in
theorem rprem_1 (w : World) {c : Nat} {u : Value} {t : List Nd} (hT : Tr w c u t) {r : List Nat} (hr : Ok r) (g : Int) (i : Nat) (hi : i < t.length) (hf : findF t r g 1 (i : Int) = true) :
    Calls Tryz.prog 37 #[.pointer (some ⟨c, 0, none⟩), .agg (cellsQ r g), .int .i64 1, .int .i64 (i : Int)] w fun e w' => e = .returned (.tuple #[.slice none 0 0, .int .i64 0]) ∧ Below w.heap.size w w' := by
  have hl := hr.1
  have hiI : (i : Int) < (t.length : Int) := by omega
  have hlen := hT.ok.len
  have KF := show Hid (∀ W : World, Below w.heap.size w W → Calls Tryz.prog 56 #[.pointer (some ⟨c, 0, none⟩), .agg (cellsQ r g), .int .i64 1, .int .i64 (i : Int)] W fun e w' => e = .returned (.bool true) ∧ Below W.heap.size W w') from fun W hb => by
    have := rfits_any W (hT.later hb) hr g 1 (i : Int)
    rw [hf] at this
    exact this
  have KD := show Hid (∀ W : World, Calls Tryz.prog 57 #[.agg (Bt.cellsB r), .int .i64 (i : Int)] W fun e w' => e = .returned (.agg (Bt.cellsB (Bt.dropI r (i : Int)))) ∧ Below W.heap.size W w') from fun W => Bt.rdrop_any W hr (i : Int)
  have hrs : Ok (Bt.dropI r (i : Int)) := dropI_okZ hr (i : Int)
  have HT := show Hid (∀ W : World, Below w.heap.size w W → Tr W c u t) from fun W hb => hT.later hb
  have HC := show Hid (∀ W : World, Below w.heap.size w W → W.cell? ⟨c, 0, none⟩ = some u) from fun W hb => (hT.later hb).c0
  obtain ⟨p, cp, hu, hc1, hc2, hat⟩ := hT.row.isR.at
  obtain ⟨bb, oo, hp, hat4⟩ := hat (by omega)
  subst hp
  have HAT := show Hid (∀ W : World, Below w.heap.size w W → At4 W bb (oo + i * 4) t[i]) from fun W hb => hat4 W hb i hi
  have HAX := show Hid (∀ W : World, Below w.heap.size w W → ∀ j (hj : j < t.length), At4 W bb (oo + j * 4) t[j]) from fun W hb j hj => hat4 W hb j hj
  subst hu
  clear hT hat hat4 hf
  generalize Bt.dropI r (i : Int) = rst at *
  have hl2 := hrs.1
  generalize t[i] = nd at *
  go_enter Tryz.func37, Tryz.ntmps37
  go_wp2_with (refine wpList_box 27 _ rfl _ rfl rfl ?_)
  intro w1 b5 hn1
  have H1 := show Hid (RS1 w w1 b5 r g) from ⟨hn1.blk, hn1.bel, hn1.ge⟩
  clear hn1
  go_wp2_with (refine wpList_ldQQ _ _ rfl b5 rfl H1.out.s hl rfl ?_)
  refine Calls.mono (KF.out _ H1.out.bel) ?_
  rintro e w2 ⟨rfl, hb2⟩
  have H2 := show Hid _ from H1.out.later hb2
  have c0 := HC.out w2 H2.out.bel
  clear H1 hb2 KF
  go_wp2_with (first | (refine wpList_ld4 _ rfl _ rfl bb (oo + i * 4) rfl (HAT.out w2 H2.out.bel) ?_) | (refine wpList_alloc 54 rfl _ zeroN rfl ?_))
  intro w3 b10 hn3
  go_wp2_with (refine wpList_st 54 rfl rfl _ _ rfl b10 rfl (ndC nd).toArray rfl _ _ hn3.blk (by rw [sizeN]; rfl) rfl (ndC_all nd) ?_)
  intro w4 hc4 hk4
  have H4 := show Hid (RS1 w w4 b5 r g ∧ Cl w4 b10 (ndC nd).toArray 54 ∧ w.heap.size ≤ b10) from by
    have e1 := H2.out.bel.size; have e2 := hn3.ge; have e3 := Cl.lt H2.out.s
    exact ⟨⟨Cl.kp (T := 27) (Cl.new H2.out.s hn3) hk4 (by omega), bel_kp (bel_new H2.out.bel hn3) hk4 (by omega), H2.out.ge⟩, hc4, by omega⟩
  clear H2 hn3 hc4 hk4 c0
  go_wp2_with (first | (refine wpList_ldQQ _ _ rfl b5 rfl H4.out.1.s hl rfl ?_) | (refine wpList_alloc 27 rfl _ zeroValQ rfl ?_))
  intro w5 b11 hn5
  go_wp2_with (refine wpList_st 27 rfl rfl _ _ rfl b11 rfl (cellsQ r g) rfl _ _ hn5.blk (by rw [sizeQ, cellsQ_size hl]) (by rw [cellsQ_size hl]; rfl) (cellsQ_one r g) ?_)
  intro w6 hc6 hk6
  have H6 := show Hid (RS1 w w6 b5 r g ∧ Cl w6 b10 (ndC nd).toArray 54 ∧ SeqAt w6 b11 r g ∧ b11 ≠ b5 ∧ b11 ≠ b10 ∧ w.heap.size ≤ b11) from by
    have e1 := H4.out.1.bel.size; have e2 := hn5.ge; have e3 := Cl.lt H4.out.1.s; have e4 := Cl.lt H4.out.2.1
    exact ⟨⟨Cl.kp (T := 27) (Cl.new H4.out.1.s hn5) hk6 (by omega), bel_kp (bel_new H4.out.1.bel hn5) hk6 (by omega), H4.out.1.ge⟩, Cl.kp (Cl.new H4.out.2.1 hn5) hk6 (by omega), hc6, by omega, by omega, by omega⟩
  clear H4 hn5 hc6 hk6
  go_wp2_with (refine wpList_ldBQ _ rfl _ rfl b5 0 rfl H6.out.1.s.seqIn hl ?_)
  refine Calls.mono (KD.out w6) ?_
  rintro e w7 ⟨rfl, hb7⟩
  have hs7 : SeqAt w7 b11 r g := H6.out.2.2.1.later hb7 H6.out.2.2.1.lt
  go_wp2_with (refine wpList_stBQ _ rfl rfl _ _ rfl b11 rfl rfl hs7 hl hl2 ?_)
  intro w8 hs8 hk8
  have HB8 := show Hid (RS1 w w8 b5 r g ∧ Cl w8 b10 (ndC nd).toArray 54) from
    ⟨⟨Cl.kp (T := 27) (H6.out.1.later hb7).s hk8 (fun e => H6.out.2.2.2.1 e.symm), bel_kp (H6.out.1.later hb7).bel hk8 H6.out.2.2.2.2.2, H6.out.1.ge⟩, Cl.kp (H6.out.2.1.later hb7) hk8 (fun e => H6.out.2.2.2.2.1 e.symm)⟩
  have H8 := show Hid (RP w w8 c (.slice (some ⟨bb, oo, none⟩) t.length cp) t b5 b10 b11 r rst g nd) from ⟨HT.out w8 HB8.out.1.bel, HB8.out.1.s, HB8.out.2, hs8, HB8.out.1.bel⟩
  clear HB8 H6 hb7 hs7 hs8 hk8 KD HT
  have d2 : w8.cell? ⟨b10, 2, none⟩ = some (.int .i64 nd.l) := H8.out.n.cell 2
  have d3 : w8.cell? ⟨b10, 3, none⟩ = some (.int .i64 nd.r) := H8.out.n.cell 3
  have HB := show Hid _ from H8.out.bel
  clear H8 HC HAT HAX
  go_wp2_with fail
  go_ret2
  exact ⟨rfl, HB.out⟩
set_option maxRecDepth 100000 in
set_option maxHeartbeats 4000000 in
theorem rprem_2 (w : World) {c : Nat} {u : Value} {t : List Nd} (hT : Tr w c u t) {r : List Nat} (hr : Ok r) (g : Int) (i : Nat) (hi : i < t.length) (hf : findF t r g 2 (i : Int) = true) :
    Calls Tryz.prog 37 #[.pointer (some ⟨c, 0, none⟩), .agg (cellsQ r g), .int .i64 2, .int .i64 (i : Int)] w fun e w' => e = .returned (.tuple #[.slice none 0 0, .int .i64 0]) ∧ Below w.heap.size w w' := by
  have hl := hr.1
  have hiI : (i : Int) < (t.length : Int) := by omega
  have hlen := hT.ok.len
  have KF := show Hid (∀ W : World, Below w.heap.size w W → Calls Tryz.prog 56 #[.pointer (some ⟨c, 0, none⟩), .agg (cellsQ r g), .int .i64 2, .int .i64 (i : Int)] W fun e w' => e = .returned (.bool true) ∧ Below W.heap.size W w') from fun W hb => by
    have := rfits_any W (hT.later hb) hr g 2 (i : Int)
    rw [hf] at this
    exact this
  have KD := show Hid (∀ W : World, Calls Tryz.prog 57 #[.agg (Bt.cellsB r), .int .i64 (i : Int)] W fun e w' => e = .returned (.agg (Bt.cellsB (Bt.dropI r (i : Int)))) ∧ Below W.heap.size W w') from fun W => Bt.rdrop_any W hr (i : Int)
  have hrs : Ok (Bt.dropI r (i : Int)) := dropI_okZ hr (i : Int)
  have HT := show Hid (∀ W : World, Below w.heap.size w W → Tr W c u t) from fun W hb => hT.later hb
  have HC := show Hid (∀ W : World, Below w.heap.size w W → W.cell? ⟨c, 0, none⟩ = some u) from fun W hb => (hT.later hb).c0
  obtain ⟨p, cp, hu, hc1, hc2, hat⟩ := hT.row.isR.at
  obtain ⟨bb, oo, hp, hat4⟩ := hat (by omega)
  subst hp
  have HAT := show Hid (∀ W : World, Below w.heap.size w W → At4 W bb (oo + i * 4) t[i]) from fun W hb => hat4 W hb i hi
  have HAX := show Hid (∀ W : World, Below w.heap.size w W → ∀ j (hj : j < t.length), At4 W bb (oo + j * 4) t[j]) from fun W hb j hj => hat4 W hb j hj
  subst hu
  clear hT hat hat4 hf
  generalize Bt.dropI r (i : Int) = rst at *
  have hl2 := hrs.1
  generalize t[i] = nd at *
  go_enter Tryz.func37, Tryz.ntmps37
  go_wp2_with (refine wpList_box 27 _ rfl _ rfl rfl ?_)
  intro w1 b5 hn1
  have H1 := show Hid (RS1 w w1 b5 r g) from ⟨hn1.blk, hn1.bel, hn1.ge⟩
  clear hn1
  go_wp2_with (refine wpList_ldQQ _ _ rfl b5 rfl H1.out.s hl rfl ?_)
  refine Calls.mono (KF.out _ H1.out.bel) ?_
  rintro e w2 ⟨rfl, hb2⟩
  have H2 := show Hid _ from H1.out.later hb2
  have c0 := HC.out w2 H2.out.bel
  clear H1 hb2 KF
  go_wp2_with (first | (refine wpList_ld4 _ rfl _ rfl bb (oo + i * 4) rfl (HAT.out w2 H2.out.bel) ?_) | (refine wpList_alloc 54 rfl _ zeroN rfl ?_))
  intro w3 b10 hn3
  go_wp2_with (refine wpList_st 54 rfl rfl _ _ rfl b10 rfl (ndC nd).toArray rfl _ _ hn3.blk (by rw [sizeN]; rfl) rfl (ndC_all nd) ?_)
  intro w4 hc4 hk4
  have H4 := show Hid (RS1 w w4 b5 r g ∧ Cl w4 b10 (ndC nd).toArray 54 ∧ w.heap.size ≤ b10) from by
    have e1 := H2.out.bel.size; have e2 := hn3.ge; have e3 := Cl.lt H2.out.s
    exact ⟨⟨Cl.kp (T := 27) (Cl.new H2.out.s hn3) hk4 (by omega), bel_kp (bel_new H2.out.bel hn3) hk4 (by omega), H2.out.ge⟩, hc4, by omega⟩
  clear H2 hn3 hc4 hk4 c0
  go_wp2_with (first | (refine wpList_ldQQ _ _ rfl b5 rfl H4.out.1.s hl rfl ?_) | (refine wpList_alloc 27 rfl _ zeroValQ rfl ?_))
  intro w5 b11 hn5
  go_wp2_with (refine wpList_st 27 rfl rfl _ _ rfl b11 rfl (cellsQ r g) rfl _ _ hn5.blk (by rw [sizeQ, cellsQ_size hl]) (by rw [cellsQ_size hl]; rfl) (cellsQ_one r g) ?_)
  intro w6 hc6 hk6
  have H6 := show Hid (RS1 w w6 b5 r g ∧ Cl w6 b10 (ndC nd).toArray 54 ∧ SeqAt w6 b11 r g ∧ b11 ≠ b5 ∧ b11 ≠ b10 ∧ w.heap.size ≤ b11) from by
    have e1 := H4.out.1.bel.size; have e2 := hn5.ge; have e3 := Cl.lt H4.out.1.s; have e4 := Cl.lt H4.out.2.1
    exact ⟨⟨Cl.kp (T := 27) (Cl.new H4.out.1.s hn5) hk6 (by omega), bel_kp (bel_new H4.out.1.bel hn5) hk6 (by omega), H4.out.1.ge⟩, Cl.kp (Cl.new H4.out.2.1 hn5) hk6 (by omega), hc6, by omega, by omega, by omega⟩
  clear H4 hn5 hc6 hk6
  go_wp2_with (refine wpList_ldBQ _ rfl _ rfl b5 0 rfl H6.out.1.s.seqIn hl ?_)
  refine Calls.mono (KD.out w6) ?_
  rintro e w7 ⟨rfl, hb7⟩
  have hs7 : SeqAt w7 b11 r g := H6.out.2.2.1.later hb7 H6.out.2.2.1.lt
  go_wp2_with (refine wpList_stBQ _ rfl rfl _ _ rfl b11 rfl rfl hs7 hl hl2 ?_)
  intro w8 hs8 hk8
  have HB8 := show Hid (RS1 w w8 b5 r g ∧ Cl w8 b10 (ndC nd).toArray 54) from
    ⟨⟨Cl.kp (T := 27) (H6.out.1.later hb7).s hk8 (fun e => H6.out.2.2.2.1 e.symm), bel_kp (H6.out.1.later hb7).bel hk8 H6.out.2.2.2.2.2, H6.out.1.ge⟩, Cl.kp (H6.out.2.1.later hb7) hk8 (fun e => H6.out.2.2.2.2.1 e.symm)⟩
  have H8 := show Hid (RP w w8 c (.slice (some ⟨bb, oo, none⟩) t.length cp) t b5 b10 b11 r rst g nd) from ⟨HT.out w8 HB8.out.1.bel, HB8.out.1.s, HB8.out.2, hs8, HB8.out.1.bel⟩
  clear HB8 H6 hb7 hs7 hs8 hk8 KD HT
  have d2 : w8.cell? ⟨b10, 2, none⟩ = some (.int .i64 nd.l) := H8.out.n.cell 2
  have d3 : w8.cell? ⟨b10, 3, none⟩ = some (.int .i64 nd.r) := H8.out.n.cell 3
  have HB := show Hid _ from H8.out.bel
  clear H8 HC HAT HAX
  go_wp2_with fail
  go_ret2
  exact ⟨rfl, HB.out⟩
set_option maxRecDepth 100000 in
set_option maxHeartbeats 4000000 in
theorem rprem_3 (w : World) {c : Nat} {u : Value} {t : List Nd} (hT : Tr w c u t) {r : List Nat} (hr : Ok r) (g : Int) (i : Nat) (hi : i < t.length) (hf : findF t r g 3 (i : Int) = true) (x y : Nat) (hx : t[i].l = x) (hy : t[i].r = y) (hxl : x < 1024) (hyl : y < 1024) :
    Calls Tryz.prog 37 #[.pointer (some ⟨c, 0, none⟩), .agg (cellsQ r g), .int .i64 3, .int .i64 (i : Int)] w fun e w' => ∃ sv, e = .returned (.tuple #[sv, .int .i64 0]) ∧ SqL sv [(withF (Bt.dropI r (i : Int)) [(x : Int), (y : Int)], g)] w' ∧ Below w.heap.size w w' := by
  have hl := hr.1
  have hiI : (i : Int) < (t.length : Int) := by omega
  have hlen := hT.ok.len
  have KF := show Hid (∀ W : World, Below w.heap.size w W → Calls Tryz.prog 56 #[.pointer (some ⟨c, 0, none⟩), .agg (cellsQ r g), .int .i64 3, .int .i64 (i : Int)] W fun e w' => e = .returned (.bool true) ∧ Below W.heap.size W w') from fun W hb => by
    have := rfits_any W (hT.later hb) hr g 3 (i : Int)
    rw [hf] at this
    exact this
  have KD := show Hid (∀ W : World, Calls Tryz.prog 57 #[.agg (Bt.cellsB r), .int .i64 (i : Int)] W fun e w' => e = .returned (.agg (Bt.cellsB (Bt.dropI r (i : Int)))) ∧ Below W.heap.size W w') from fun W => Bt.rdrop_any W hr (i : Int)
  have hrs : Ok (Bt.dropI r (i : Int)) := dropI_okZ hr (i : Int)
  have HT := show Hid (∀ W : World, Below w.heap.size w W → Tr W c u t) from fun W hb => hT.later hb
  have HC := show Hid (∀ W : World, Below w.heap.size w W → W.cell? ⟨c, 0, none⟩ = some u) from fun W hb => (hT.later hb).c0
  obtain ⟨p, cp, hu, hc1, hc2, hat⟩ := hT.row.isR.at
  obtain ⟨bb, oo, hp, hat4⟩ := hat (by omega)
  subst hp
  have HAT := show Hid (∀ W : World, Below w.heap.size w W → At4 W bb (oo + i * 4) t[i]) from fun W hb => hat4 W hb i hi
  have HAX := show Hid (∀ W : World, Below w.heap.size w W → ∀ j (hj : j < t.length), At4 W bb (oo + j * 4) t[j]) from fun W hb j hj => hat4 W hb j hj
  subst hu
  clear hT hat hat4 hf
  generalize Bt.dropI r (i : Int) = rst at *
  have hl2 := hrs.1
  have KW := show Hid (∀ W : World, Calls Tryz.prog 58 #[.agg (cellsQ rst g), .int .i64 (x : Int), .int .i64 (y : Int)] W fun e w' => e = .returned (.agg (cellsQ (withF rst [(x : Int), (y : Int)]) g)) ∧ Below W.heap.size W w') from fun W => rwith_any W hrs g x y hxl hyl
  have hlw : (withF rst [(x : Int), (y : Int)]).length = 16 := (putI_okZ (putI_okZ hrs (x : Int)) (y : Int)).1
  generalize withF rst [(x : Int), (y : Int)] = rw2 at *
  generalize t[i] = nd at *
  go_enter Tryz.func37, Tryz.ntmps37
  go_wp2_with (refine wpList_box 27 _ rfl _ rfl rfl ?_)
  intro w1 b5 hn1
  have H1 := show Hid (RS1 w w1 b5 r g) from ⟨hn1.blk, hn1.bel, hn1.ge⟩
  clear hn1
  go_wp2_with (refine wpList_ldQQ _ _ rfl b5 rfl H1.out.s hl rfl ?_)
  refine Calls.mono (KF.out _ H1.out.bel) ?_
  rintro e w2 ⟨rfl, hb2⟩
  have H2 := show Hid _ from H1.out.later hb2
  have c0 := HC.out w2 H2.out.bel
  clear H1 hb2 KF
  go_wp2_with (first | (refine wpList_ld4 _ rfl _ rfl bb (oo + i * 4) rfl (HAT.out w2 H2.out.bel) ?_) | (refine wpList_alloc 54 rfl _ zeroN rfl ?_))
  intro w3 b10 hn3
  go_wp2_with (refine wpList_st 54 rfl rfl _ _ rfl b10 rfl (ndC nd).toArray rfl _ _ hn3.blk (by rw [sizeN]; rfl) rfl (ndC_all nd) ?_)
  intro w4 hc4 hk4
  have H4 := show Hid (RS1 w w4 b5 r g ∧ Cl w4 b10 (ndC nd).toArray 54 ∧ w.heap.size ≤ b10) from by
    have e1 := H2.out.bel.size; have e2 := hn3.ge; have e3 := Cl.lt H2.out.s
    exact ⟨⟨Cl.kp (T := 27) (Cl.new H2.out.s hn3) hk4 (by omega), bel_kp (bel_new H2.out.bel hn3) hk4 (by omega), H2.out.ge⟩, hc4, by omega⟩
  clear H2 hn3 hc4 hk4 c0
  go_wp2_with (first | (refine wpList_ldQQ _ _ rfl b5 rfl H4.out.1.s hl rfl ?_) | (refine wpList_alloc 27 rfl _ zeroValQ rfl ?_))
  intro w5 b11 hn5
  go_wp2_with (refine wpList_st 27 rfl rfl _ _ rfl b11 rfl (cellsQ r g) rfl _ _ hn5.blk (by rw [sizeQ, cellsQ_size hl]) (by rw [cellsQ_size hl]; rfl) (cellsQ_one r g) ?_)
  intro w6 hc6 hk6
  have H6 := show Hid (RS1 w w6 b5 r g ∧ Cl w6 b10 (ndC nd).toArray 54 ∧ SeqAt w6 b11 r g ∧ b11 ≠ b5 ∧ b11 ≠ b10 ∧ w.heap.size ≤ b11) from by
    have e1 := H4.out.1.bel.size; have e2 := hn5.ge; have e3 := Cl.lt H4.out.1.s; have e4 := Cl.lt H4.out.2.1
    exact ⟨⟨Cl.kp (T := 27) (Cl.new H4.out.1.s hn5) hk6 (by omega), bel_kp (bel_new H4.out.1.bel hn5) hk6 (by omega), H4.out.1.ge⟩, Cl.kp (Cl.new H4.out.2.1 hn5) hk6 (by omega), hc6, by omega, by omega, by omega⟩
  clear H4 hn5 hc6 hk6
  go_wp2_with (refine wpList_ldBQ _ rfl _ rfl b5 0 rfl H6.out.1.s.seqIn hl ?_)
  refine Calls.mono (KD.out w6) ?_
  rintro e w7 ⟨rfl, hb7⟩
  have hs7 : SeqAt w7 b11 r g := H6.out.2.2.1.later hb7 H6.out.2.2.1.lt
  go_wp2_with (refine wpList_stBQ _ rfl rfl _ _ rfl b11 rfl rfl hs7 hl hl2 ?_)
  intro w8 hs8 hk8
  have HB8 := show Hid (RS1 w w8 b5 r g ∧ Cl w8 b10 (ndC nd).toArray 54) from
    ⟨⟨Cl.kp (T := 27) (H6.out.1.later hb7).s hk8 (fun e => H6.out.2.2.2.1 e.symm), bel_kp (H6.out.1.later hb7).bel hk8 H6.out.2.2.2.2.2, H6.out.1.ge⟩, Cl.kp (H6.out.2.1.later hb7) hk8 (fun e => H6.out.2.2.2.2.1 e.symm)⟩
  have H8 := show Hid (RP w w8 c (.slice (some ⟨bb, oo, none⟩) t.length cp) t b5 b10 b11 r rst g nd) from ⟨HT.out w8 HB8.out.1.bel, HB8.out.1.s, HB8.out.2, hs8, HB8.out.1.bel⟩
  clear HB8 H6 hb7 hs7 hs8 hk8 KD HT
  have d2 : w8.cell? ⟨b10, 2, none⟩ = some (.int .i64 nd.l) := H8.out.n.cell 2
  have d3 : w8.cell? ⟨b10, 3, none⟩ = some (.int .i64 nd.r) := H8.out.n.cell 3
  rw [hx] at d2
  rw [hy] at d3
  clear HC HAT HAX
  go_wp2_with (refine wpList_ldQQ _ _ rfl b11 rfl H8.out.z hl2 rfl ?_)
  refine Calls.mono (KW.out w8) ?_
  rintro e w9 ⟨rfl, hb9⟩
  have HB := show Hid _ from (H8.out.later hb9).bel
  clear H8 hb9 KW
  go_wp2_with (refine wpList_row1 _ rfl _ rfl rfl hlw ?_)
  go_ret2
  exact ⟨_, rfl, ⟨w9.heap.size, rfl, (new_alloc w9 _ _).blk⟩, bel_new HB.out (new_alloc w9 _ _)⟩
set_option maxRecDepth 100000 in
set_option maxHeartbeats 4000000 in
theorem rprem_4 (w : World) {c : Nat} {u : Value} {t : List Nd} (hT : Tr w c u t) {r : List Nat} (hr : Ok r) (g : Int) (i : Nat) (hi : i < t.length) (hf : findF t r g 4 (i : Int) = true) (x y : Nat) (_hx : t[i].l = x) (hy : t[i].r = y) (_hxl : x < 1024) (hyl : y < 1024) :
    Calls Tryz.prog 37 #[.pointer (some ⟨c, 0, none⟩), .agg (cellsQ r g), .int .i64 4, .int .i64 (i : Int)] w fun e w' => ∃ sv, e = .returned (.tuple #[sv, .int .i64 0]) ∧ SqL sv [(withF (Bt.dropI r (i : Int)) [(y : Int), (y : Int)], g)] w' ∧ Below w.heap.size w w' := by
  have hl := hr.1
  have hiI : (i : Int) < (t.length : Int) := by omega
  have hlen := hT.ok.len
  have KF := show Hid (∀ W : World, Below w.heap.size w W → Calls Tryz.prog 56 #[.pointer (some ⟨c, 0, none⟩), .agg (cellsQ r g), .int .i64 4, .int .i64 (i : Int)] W fun e w' => e = .returned (.bool true) ∧ Below W.heap.size W w') from fun W hb => by
    have := rfits_any W (hT.later hb) hr g 4 (i : Int)
    rw [hf] at this
    exact this
  have KD := show Hid (∀ W : World, Calls Tryz.prog 57 #[.agg (Bt.cellsB r), .int .i64 (i : Int)] W fun e w' => e = .returned (.agg (Bt.cellsB (Bt.dropI r (i : Int)))) ∧ Below W.heap.size W w') from fun W => Bt.rdrop_any W hr (i : Int)
  have hrs : Ok (Bt.dropI r (i : Int)) := dropI_okZ hr (i : Int)
  have HT := show Hid (∀ W : World, Below w.heap.size w W → Tr W c u t) from fun W hb => hT.later hb
  have HC := show Hid (∀ W : World, Below w.heap.size w W → W.cell? ⟨c, 0, none⟩ = some u) from fun W hb => (hT.later hb).c0
  obtain ⟨p, cp, hu, hc1, hc2, hat⟩ := hT.row.isR.at
  obtain ⟨bb, oo, hp, hat4⟩ := hat (by omega)
  subst hp
  have HAT := show Hid (∀ W : World, Below w.heap.size w W → At4 W bb (oo + i * 4) t[i]) from fun W hb => hat4 W hb i hi
  have HAX := show Hid (∀ W : World, Below w.heap.size w W → ∀ j (hj : j < t.length), At4 W bb (oo + j * 4) t[j]) from fun W hb j hj => hat4 W hb j hj
  subst hu
  clear hT hat hat4 hf
  generalize Bt.dropI r (i : Int) = rst at *
  have hl2 := hrs.1
  have KW := show Hid (∀ W : World, Calls Tryz.prog 58 #[.agg (cellsQ rst g), .int .i64 (y : Int), .int .i64 (y : Int)] W fun e w' => e = .returned (.agg (cellsQ (withF rst [(y : Int), (y : Int)]) g)) ∧ Below W.heap.size W w') from fun W => rwith_any W hrs g y y hyl hyl
  have hlw : (withF rst [(y : Int), (y : Int)]).length = 16 := (putI_okZ (putI_okZ hrs (y : Int)) (y : Int)).1
  generalize withF rst [(y : Int), (y : Int)] = rw2 at *
  generalize t[i] = nd at *
  go_enter Tryz.func37, Tryz.ntmps37
  go_wp2_with (refine wpList_box 27 _ rfl _ rfl rfl ?_)
  intro w1 b5 hn1
  have H1 := show Hid (RS1 w w1 b5 r g) from ⟨hn1.blk, hn1.bel, hn1.ge⟩
  clear hn1
  go_wp2_with (refine wpList_ldQQ _ _ rfl b5 rfl H1.out.s hl rfl ?_)
  refine Calls.mono (KF.out _ H1.out.bel) ?_
  rintro e w2 ⟨rfl, hb2⟩
  have H2 := show Hid _ from H1.out.later hb2
  have c0 := HC.out w2 H2.out.bel
  clear H1 hb2 KF
  go_wp2_with (first | (refine wpList_ld4 _ rfl _ rfl bb (oo + i * 4) rfl (HAT.out w2 H2.out.bel) ?_) | (refine wpList_alloc 54 rfl _ zeroN rfl ?_))
  intro w3 b10 hn3
  go_wp2_with (refine wpList_st 54 rfl rfl _ _ rfl b10 rfl (ndC nd).toArray rfl _ _ hn3.blk (by rw [sizeN]; rfl) rfl (ndC_all nd) ?_)
  intro w4 hc4 hk4
  have H4 := show Hid (RS1 w w4 b5 r g ∧ Cl w4 b10 (ndC nd).toArray 54 ∧ w.heap.size ≤ b10) from by
    have e1 := H2.out.bel.size; have e2 := hn3.ge; have e3 := Cl.lt H2.out.s
    exact ⟨⟨Cl.kp (T := 27) (Cl.new H2.out.s hn3) hk4 (by omega), bel_kp (bel_new H2.out.bel hn3) hk4 (by omega), H2.out.ge⟩, hc4, by omega⟩
  clear H2 hn3 hc4 hk4 c0
  go_wp2_with (first | (refine wpList_ldQQ _ _ rfl b5 rfl H4.out.1.s hl rfl ?_) | (refine wpList_alloc 27 rfl _ zeroValQ rfl ?_))
  intro w5 b11 hn5
  go_wp2_with (refine wpList_st 27 rfl rfl _ _ rfl b11 rfl (cellsQ r g) rfl _ _ hn5.blk (by rw [sizeQ, cellsQ_size hl]) (by rw [cellsQ_size hl]; rfl) (cellsQ_one r g) ?_)
  intro w6 hc6 hk6
  have H6 := show Hid (RS1 w w6 b5 r g ∧ Cl w6 b10 (ndC nd).toArray 54 ∧ SeqAt w6 b11 r g ∧ b11 ≠ b5 ∧ b11 ≠ b10 ∧ w.heap.size ≤ b11) from by
    have e1 := H4.out.1.bel.size; have e2 := hn5.ge; have e3 := Cl.lt H4.out.1.s; have e4 := Cl.lt H4.out.2.1
    exact ⟨⟨Cl.kp (T := 27) (Cl.new H4.out.1.s hn5) hk6 (by omega), bel_kp (bel_new H4.out.1.bel hn5) hk6 (by omega), H4.out.1.ge⟩, Cl.kp (Cl.new H4.out.2.1 hn5) hk6 (by omega), hc6, by omega, by omega, by omega⟩
  clear H4 hn5 hc6 hk6
  go_wp2_with (refine wpList_ldBQ _ rfl _ rfl b5 0 rfl H6.out.1.s.seqIn hl ?_)
  refine Calls.mono (KD.out w6) ?_
  rintro e w7 ⟨rfl, hb7⟩
  have hs7 : SeqAt w7 b11 r g := H6.out.2.2.1.later hb7 H6.out.2.2.1.lt
  go_wp2_with (refine wpList_stBQ _ rfl rfl _ _ rfl b11 rfl rfl hs7 hl hl2 ?_)
  intro w8 hs8 hk8
  have HB8 := show Hid (RS1 w w8 b5 r g ∧ Cl w8 b10 (ndC nd).toArray 54) from
    ⟨⟨Cl.kp (T := 27) (H6.out.1.later hb7).s hk8 (fun e => H6.out.2.2.2.1 e.symm), bel_kp (H6.out.1.later hb7).bel hk8 H6.out.2.2.2.2.2, H6.out.1.ge⟩, Cl.kp (H6.out.2.1.later hb7) hk8 (fun e => H6.out.2.2.2.2.1 e.symm)⟩
  have H8 := show Hid (RP w w8 c (.slice (some ⟨bb, oo, none⟩) t.length cp) t b5 b10 b11 r rst g nd) from ⟨HT.out w8 HB8.out.1.bel, HB8.out.1.s, HB8.out.2, hs8, HB8.out.1.bel⟩
  clear HB8 H6 hb7 hs7 hs8 hk8 KD HT
  have d2 : w8.cell? ⟨b10, 2, none⟩ = some (.int .i64 nd.l) := H8.out.n.cell 2
  have d3 : w8.cell? ⟨b10, 3, none⟩ = some (.int .i64 nd.r) := H8.out.n.cell 3
  rw [hy] at d3
  clear HC HAT HAX
  go_wp2_with (refine wpList_ldQQ _ _ rfl b11 rfl H8.out.z hl2 rfl ?_)
  refine Calls.mono (KW.out w8) ?_
  rintro e w9 ⟨rfl, hb9⟩
  have HB := show Hid _ from (H8.out.later hb9).bel
  clear H8 hb9 KW
  go_wp2_with (refine wpList_row1 _ rfl _ rfl rfl hlw ?_)
  go_ret2
  exact ⟨_, rfl, ⟨w9.heap.size, rfl, (new_alloc w9 _ _).blk⟩, bel_new HB.out (new_alloc w9 _ _)⟩
set_option maxRecDepth 100000 in
set_option maxHeartbeats 4000000 in
theorem rprem_5 (w : World) {c : Nat} {u : Value} {t : List Nd} (hT : Tr w c u t) {r : List Nat} (hr : Ok r) (g : Int) (i : Nat) (hi : i < t.length) (hf : findF t r g 5 (i : Int) = true) :
    Calls Tryz.prog 37 #[.pointer (some ⟨c, 0, none⟩), .agg (cellsQ r g), .int .i64 5, .int .i64 (i : Int)] w fun e w' => ∃ sv, e = .returned (.tuple #[sv, .int .i64 0]) ∧ SqL sv [(Bt.dropI r (i : Int), g)] w' ∧ Below w.heap.size w w' := by
  have hl := hr.1
  have hiI : (i : Int) < (t.length : Int) := by omega
  have hlen := hT.ok.len
  have KF := show Hid (∀ W : World, Below w.heap.size w W → Calls Tryz.prog 56 #[.pointer (some ⟨c, 0, none⟩), .agg (cellsQ r g), .int .i64 5, .int .i64 (i : Int)] W fun e w' => e = .returned (.bool true) ∧ Below W.heap.size W w') from fun W hb => by
    have := rfits_any W (hT.later hb) hr g 5 (i : Int)
    rw [hf] at this
    exact this
  have KD := show Hid (∀ W : World, Calls Tryz.prog 57 #[.agg (Bt.cellsB r), .int .i64 (i : Int)] W fun e w' => e = .returned (.agg (Bt.cellsB (Bt.dropI r (i : Int)))) ∧ Below W.heap.size W w') from fun W => Bt.rdrop_any W hr (i : Int)
  have hrs : Ok (Bt.dropI r (i : Int)) := dropI_okZ hr (i : Int)
  have HT := show Hid (∀ W : World, Below w.heap.size w W → Tr W c u t) from fun W hb => hT.later hb
  have HC := show Hid (∀ W : World, Below w.heap.size w W → W.cell? ⟨c, 0, none⟩ = some u) from fun W hb => (hT.later hb).c0
  obtain ⟨p, cp, hu, hc1, hc2, hat⟩ := hT.row.isR.at
  obtain ⟨bb, oo, hp, hat4⟩ := hat (by omega)
  subst hp
  have HAT := show Hid (∀ W : World, Below w.heap.size w W → At4 W bb (oo + i * 4) t[i]) from fun W hb => hat4 W hb i hi
  have HAX := show Hid (∀ W : World, Below w.heap.size w W → ∀ j (hj : j < t.length), At4 W bb (oo + j * 4) t[j]) from fun W hb j hj => hat4 W hb j hj
  subst hu
  clear hT hat hat4 hf
  generalize Bt.dropI r (i : Int) = rst at *
  have hl2 := hrs.1
  generalize t[i] = nd at *
  go_enter Tryz.func37, Tryz.ntmps37
  go_wp2_with (refine wpList_box 27 _ rfl _ rfl rfl ?_)
  intro w1 b5 hn1
  have H1 := show Hid (RS1 w w1 b5 r g) from ⟨hn1.blk, hn1.bel, hn1.ge⟩
  clear hn1
  go_wp2_with (refine wpList_ldQQ _ _ rfl b5 rfl H1.out.s hl rfl ?_)
  refine Calls.mono (KF.out _ H1.out.bel) ?_
  rintro e w2 ⟨rfl, hb2⟩
  have H2 := show Hid _ from H1.out.later hb2
  have c0 := HC.out w2 H2.out.bel
  clear H1 hb2 KF
  go_wp2_with (first | (refine wpList_ld4 _ rfl _ rfl bb (oo + i * 4) rfl (HAT.out w2 H2.out.bel) ?_) | (refine wpList_alloc 54 rfl _ zeroN rfl ?_))
  intro w3 b10 hn3
  go_wp2_with (refine wpList_st 54 rfl rfl _ _ rfl b10 rfl (ndC nd).toArray rfl _ _ hn3.blk (by rw [sizeN]; rfl) rfl (ndC_all nd) ?_)
  intro w4 hc4 hk4
  have H4 := show Hid (RS1 w w4 b5 r g ∧ Cl w4 b10 (ndC nd).toArray 54 ∧ w.heap.size ≤ b10) from by
    have e1 := H2.out.bel.size; have e2 := hn3.ge; have e3 := Cl.lt H2.out.s
    exact ⟨⟨Cl.kp (T := 27) (Cl.new H2.out.s hn3) hk4 (by omega), bel_kp (bel_new H2.out.bel hn3) hk4 (by omega), H2.out.ge⟩, hc4, by omega⟩
  clear H2 hn3 hc4 hk4 c0
  go_wp2_with (first | (refine wpList_ldQQ _ _ rfl b5 rfl H4.out.1.s hl rfl ?_) | (refine wpList_alloc 27 rfl _ zeroValQ rfl ?_))
  intro w5 b11 hn5
  go_wp2_with (refine wpList_st 27 rfl rfl _ _ rfl b11 rfl (cellsQ r g) rfl _ _ hn5.blk (by rw [sizeQ, cellsQ_size hl]) (by rw [cellsQ_size hl]; rfl) (cellsQ_one r g) ?_)
  intro w6 hc6 hk6
  have H6 := show Hid (RS1 w w6 b5 r g ∧ Cl w6 b10 (ndC nd).toArray 54 ∧ SeqAt w6 b11 r g ∧ b11 ≠ b5 ∧ b11 ≠ b10 ∧ w.heap.size ≤ b11) from by
    have e1 := H4.out.1.bel.size; have e2 := hn5.ge; have e3 := Cl.lt H4.out.1.s; have e4 := Cl.lt H4.out.2.1
    exact ⟨⟨Cl.kp (T := 27) (Cl.new H4.out.1.s hn5) hk6 (by omega), bel_kp (bel_new H4.out.1.bel hn5) hk6 (by omega), H4.out.1.ge⟩, Cl.kp (Cl.new H4.out.2.1 hn5) hk6 (by omega), hc6, by omega, by omega, by omega⟩
  clear H4 hn5 hc6 hk6
  go_wp2_with (refine wpList_ldBQ _ rfl _ rfl b5 0 rfl H6.out.1.s.seqIn hl ?_)
  refine Calls.mono (KD.out w6) ?_
  rintro e w7 ⟨rfl, hb7⟩
  have hs7 : SeqAt w7 b11 r g := H6.out.2.2.1.later hb7 H6.out.2.2.1.lt
  go_wp2_with (refine wpList_stBQ _ rfl rfl _ _ rfl b11 rfl rfl hs7 hl hl2 ?_)
  intro w8 hs8 hk8
  have HB8 := show Hid (RS1 w w8 b5 r g ∧ Cl w8 b10 (ndC nd).toArray 54) from
    ⟨⟨Cl.kp (T := 27) (H6.out.1.later hb7).s hk8 (fun e => H6.out.2.2.2.1 e.symm), bel_kp (H6.out.1.later hb7).bel hk8 H6.out.2.2.2.2.2, H6.out.1.ge⟩, Cl.kp (H6.out.2.1.later hb7) hk8 (fun e => H6.out.2.2.2.2.1 e.symm)⟩
  have H8 := show Hid (RP w w8 c (.slice (some ⟨bb, oo, none⟩) t.length cp) t b5 b10 b11 r rst g nd) from ⟨HT.out w8 HB8.out.1.bel, HB8.out.1.s, HB8.out.2, hs8, HB8.out.1.bel⟩
  clear HB8 H6 hb7 hs7 hs8 hk8 KD HT
  have d2 : w8.cell? ⟨b10, 2, none⟩ = some (.int .i64 nd.l) := H8.out.n.cell 2
  have d3 : w8.cell? ⟨b10, 3, none⟩ = some (.int .i64 nd.r) := H8.out.n.cell 3
  clear HC HAT HAX
  go_wp2_with (first | (refine wpList_ldQQ _ _ rfl b11 rfl H8.out.z hl2 rfl ?_) | (refine wpList_row1 _ rfl _ rfl rfl hl2 ?_))
  go_ret2
  exact ⟨_, rfl, ⟨w8.heap.size, rfl, (new_alloc w8 _ _).blk⟩, bel_new H8.out.bel (new_alloc w8 _ _)⟩
set_option maxRecDepth 100000 in
set_option maxHeartbeats 4000000 in
theorem rprem_11 (w : World) {c : Nat} {u : Value} {t : List Nd} (hT : Tr w c u t) {r : List Nat} (hr : Ok r) (g : Int) (i : Nat) (hi : i < t.length) (hf : findF t r g 11 (i : Int) = true) :
    Calls Tryz.prog 37 #[.pointer (some ⟨c, 0, none⟩), .agg (cellsQ r g), .int .i64 11, .int .i64 (i : Int)] w fun e w' => ∃ sv, e = .returned (.tuple #[sv, .int .i64 0]) ∧ SqL sv [(r, t[i].l)] w' ∧ Below w.heap.size w w' := by
  have hl := hr.1
  have hiI : (i : Int) < (t.length : Int) := by omega
  have hlen := hT.ok.len
  have KF := show Hid (∀ W : World, Below w.heap.size w W → Calls Tryz.prog 56 #[.pointer (some ⟨c, 0, none⟩), .agg (cellsQ r g), .int .i64 11, .int .i64 (i : Int)] W fun e w' => e = .returned (.bool true) ∧ Below W.heap.size W w') from fun W hb => by
    have := rfits_any W (hT.later hb) hr g 11 (i : Int)
    rw [hf] at this
    exact this
  have KD := show Hid (∀ W : World, Calls Tryz.prog 57 #[.agg (Bt.cellsB r), .int .i64 (i : Int)] W fun e w' => e = .returned (.agg (Bt.cellsB (Bt.dropI r (i : Int)))) ∧ Below W.heap.size W w') from fun W => Bt.rdrop_any W hr (i : Int)
  have hrs : Ok (Bt.dropI r (i : Int)) := dropI_okZ hr (i : Int)
  have HT := show Hid (∀ W : World, Below w.heap.size w W → Tr W c u t) from fun W hb => hT.later hb
  have HC := show Hid (∀ W : World, Below w.heap.size w W → W.cell? ⟨c, 0, none⟩ = some u) from fun W hb => (hT.later hb).c0
  obtain ⟨p, cp, hu, hc1, hc2, hat⟩ := hT.row.isR.at
  obtain ⟨bb, oo, hp, hat4⟩ := hat (by omega)
  subst hp
  have HAT := show Hid (∀ W : World, Below w.heap.size w W → At4 W bb (oo + i * 4) t[i]) from fun W hb => hat4 W hb i hi
  have HAX := show Hid (∀ W : World, Below w.heap.size w W → ∀ j (hj : j < t.length), At4 W bb (oo + j * 4) t[j]) from fun W hb j hj => hat4 W hb j hj
  subst hu
  clear hT hat hat4 hf
  generalize Bt.dropI r (i : Int) = rst at *
  have hl2 := hrs.1
  generalize t[i] = nd at *
  go_enter Tryz.func37, Tryz.ntmps37
  go_wp2_with (refine wpList_box 27 _ rfl _ rfl rfl ?_)
  intro w1 b5 hn1
  have H1 := show Hid (RS1 w w1 b5 r g) from ⟨hn1.blk, hn1.bel, hn1.ge⟩
  clear hn1
  go_wp2_with (refine wpList_ldQQ _ _ rfl b5 rfl H1.out.s hl rfl ?_)
  refine Calls.mono (KF.out _ H1.out.bel) ?_
  rintro e w2 ⟨rfl, hb2⟩
  have H2 := show Hid _ from H1.out.later hb2
  have c0 := HC.out w2 H2.out.bel
  clear H1 hb2 KF
  go_wp2_with (first | (refine wpList_ld4 _ rfl _ rfl bb (oo + i * 4) rfl (HAT.out w2 H2.out.bel) ?_) | (refine wpList_alloc 54 rfl _ zeroN rfl ?_))
  intro w3 b10 hn3
  go_wp2_with (refine wpList_st 54 rfl rfl _ _ rfl b10 rfl (ndC nd).toArray rfl _ _ hn3.blk (by rw [sizeN]; rfl) rfl (ndC_all nd) ?_)
  intro w4 hc4 hk4
  have H4 := show Hid (RS1 w w4 b5 r g ∧ Cl w4 b10 (ndC nd).toArray 54 ∧ w.heap.size ≤ b10) from by
    have e1 := H2.out.bel.size; have e2 := hn3.ge; have e3 := Cl.lt H2.out.s
    exact ⟨⟨Cl.kp (T := 27) (Cl.new H2.out.s hn3) hk4 (by omega), bel_kp (bel_new H2.out.bel hn3) hk4 (by omega), H2.out.ge⟩, hc4, by omega⟩
  clear H2 hn3 hc4 hk4 c0
  go_wp2_with (first | (refine wpList_ldQQ _ _ rfl b5 rfl H4.out.1.s hl rfl ?_) | (refine wpList_alloc 27 rfl _ zeroValQ rfl ?_))
  intro w5 b11 hn5
  go_wp2_with (refine wpList_st 27 rfl rfl _ _ rfl b11 rfl (cellsQ r g) rfl _ _ hn5.blk (by rw [sizeQ, cellsQ_size hl]) (by rw [cellsQ_size hl]; rfl) (cellsQ_one r g) ?_)
  intro w6 hc6 hk6
  have H6 := show Hid (RS1 w w6 b5 r g ∧ Cl w6 b10 (ndC nd).toArray 54 ∧ SeqAt w6 b11 r g ∧ b11 ≠ b5 ∧ b11 ≠ b10 ∧ w.heap.size ≤ b11) from by
    have e1 := H4.out.1.bel.size; have e2 := hn5.ge; have e3 := Cl.lt H4.out.1.s; have e4 := Cl.lt H4.out.2.1
    exact ⟨⟨Cl.kp (T := 27) (Cl.new H4.out.1.s hn5) hk6 (by omega), bel_kp (bel_new H4.out.1.bel hn5) hk6 (by omega), H4.out.1.ge⟩, Cl.kp (Cl.new H4.out.2.1 hn5) hk6 (by omega), hc6, by omega, by omega, by omega⟩
  clear H4 hn5 hc6 hk6
  go_wp2_with (refine wpList_ldBQ _ rfl _ rfl b5 0 rfl H6.out.1.s.seqIn hl ?_)
  refine Calls.mono (KD.out w6) ?_
  rintro e w7 ⟨rfl, hb7⟩
  have hs7 : SeqAt w7 b11 r g := H6.out.2.2.1.later hb7 H6.out.2.2.1.lt
  go_wp2_with (refine wpList_stBQ _ rfl rfl _ _ rfl b11 rfl rfl hs7 hl hl2 ?_)
  intro w8 hs8 hk8
  have HB8 := show Hid (RS1 w w8 b5 r g ∧ Cl w8 b10 (ndC nd).toArray 54) from
    ⟨⟨Cl.kp (T := 27) (H6.out.1.later hb7).s hk8 (fun e => H6.out.2.2.2.1 e.symm), bel_kp (H6.out.1.later hb7).bel hk8 H6.out.2.2.2.2.2, H6.out.1.ge⟩, Cl.kp (H6.out.2.1.later hb7) hk8 (fun e => H6.out.2.2.2.2.1 e.symm)⟩
  have H8 := show Hid (RP w w8 c (.slice (some ⟨bb, oo, none⟩) t.length cp) t b5 b10 b11 r rst g nd) from ⟨HT.out w8 HB8.out.1.bel, HB8.out.1.s, HB8.out.2, hs8, HB8.out.1.bel⟩
  clear HB8 H6 hb7 hs7 hs8 hk8 KD HT
  have d2 : w8.cell? ⟨b10, 2, none⟩ = some (.int .i64 nd.l) := H8.out.n.cell 2
  have d3 : w8.cell? ⟨b10, 3, none⟩ = some (.int .i64 nd.r) := H8.out.n.cell 3
  have KW := show Hid (∀ W : World, Calls Tryz.prog 60 #[.agg (cellsQ r g), .int .i64 nd.l] W fun e w' => e = .returned (.agg (cellsQ r nd.l)) ∧ Below W.heap.size W w') from fun W => rto_any W hl g nd.l
  clear HC HAT HAX
  go_wp2_with (refine wpList_ldQQ _ _ rfl b5 rfl H8.out.s hl rfl ?_)
  refine Calls.mono (KW.out w8) ?_
  rintro e w9 ⟨rfl, hb9⟩
  have HB := show Hid _ from (H8.out.later hb9).bel
  clear H8 hb9 KW
  go_wp2_with (refine wpList_row1 _ rfl _ rfl rfl hl ?_)
  go_ret2
  exact ⟨_, rfl, ⟨w9.heap.size, rfl, (new_alloc w9 _ _).blk⟩, bel_new HB.out (new_alloc w9 _ _)⟩
set_option maxRecDepth 100000 in
set_option maxHeartbeats 4000000 in
theorem rprem_12 (w : World) {c : Nat} {u : Value} {t : List Nd} (hT : Tr w c u t) {r : List Nat} (hr : Ok r) (g : Int) (i : Nat) (hi : i < t.length) (hf : findF t r g 12 (i : Int) = true) :
    Calls Tryz.prog 37 #[.pointer (some ⟨c, 0, none⟩), .agg (cellsQ r g), .int .i64 12, .int .i64 (i : Int)] w fun e w' => ∃ sv, e = .returned (.tuple #[sv, .int .i64 0]) ∧ SqL sv [(r, t[i].r)] w' ∧ Below w.heap.size w w' := by
  have hl := hr.1
  have hiI : (i : Int) < (t.length : Int) := by omega
  have hlen := hT.ok.len
  have KF := show Hid (∀ W : World, Below w.heap.size w W → Calls Tryz.prog 56 #[.pointer (some ⟨c, 0, none⟩), .agg (cellsQ r g), .int .i64 12, .int .i64 (i : Int)] W fun e w' => e = .returned (.bool true) ∧ Below W.heap.size W w') from fun W hb => by
    have := rfits_any W (hT.later hb) hr g 12 (i : Int)
    rw [hf] at this
    exact this
  have KD := show Hid (∀ W : World, Calls Tryz.prog 57 #[.agg (Bt.cellsB r), .int .i64 (i : Int)] W fun e w' => e = .returned (.agg (Bt.cellsB (Bt.dropI r (i : Int)))) ∧ Below W.heap.size W w') from fun W => Bt.rdrop_any W hr (i : Int)
  have hrs : Ok (Bt.dropI r (i : Int)) := dropI_okZ hr (i : Int)
  have HT := show Hid (∀ W : World, Below w.heap.size w W → Tr W c u t) from fun W hb => hT.later hb
  have HC := show Hid (∀ W : World, Below w.heap.size w W → W.cell? ⟨c, 0, none⟩ = some u) from fun W hb => (hT.later hb).c0
  obtain ⟨p, cp, hu, hc1, hc2, hat⟩ := hT.row.isR.at
  obtain ⟨bb, oo, hp, hat4⟩ := hat (by omega)
  subst hp
  have HAT := show Hid (∀ W : World, Below w.heap.size w W → At4 W bb (oo + i * 4) t[i]) from fun W hb => hat4 W hb i hi
  have HAX := show Hid (∀ W : World, Below w.heap.size w W → ∀ j (hj : j < t.length), At4 W bb (oo + j * 4) t[j]) from fun W hb j hj => hat4 W hb j hj
  subst hu
  clear hT hat hat4 hf
  generalize Bt.dropI r (i : Int) = rst at *
  have hl2 := hrs.1
  generalize t[i] = nd at *
  go_enter Tryz.func37, Tryz.ntmps37
  go_wp2_with (refine wpList_box 27 _ rfl _ rfl rfl ?_)
  intro w1 b5 hn1
  have H1 := show Hid (RS1 w w1 b5 r g) from ⟨hn1.blk, hn1.bel, hn1.ge⟩
  clear hn1
  go_wp2_with (refine wpList_ldQQ _ _ rfl b5 rfl H1.out.s hl rfl ?_)
  refine Calls.mono (KF.out _ H1.out.bel) ?_
  rintro e w2 ⟨rfl, hb2⟩
  have H2 := show Hid _ from H1.out.later hb2
  have c0 := HC.out w2 H2.out.bel
  clear H1 hb2 KF
  go_wp2_with (first | (refine wpList_ld4 _ rfl _ rfl bb (oo + i * 4) rfl (HAT.out w2 H2.out.bel) ?_) | (refine wpList_alloc 54 rfl _ zeroN rfl ?_))
  intro w3 b10 hn3
  go_wp2_with (refine wpList_st 54 rfl rfl _ _ rfl b10 rfl (ndC nd).toArray rfl _ _ hn3.blk (by rw [sizeN]; rfl) rfl (ndC_all nd) ?_)
  intro w4 hc4 hk4
  have H4 := show Hid (RS1 w w4 b5 r g ∧ Cl w4 b10 (ndC nd).toArray 54 ∧ w.heap.size ≤ b10) from by
    have e1 := H2.out.bel.size; have e2 := hn3.ge; have e3 := Cl.lt H2.out.s
    exact ⟨⟨Cl.kp (T := 27) (Cl.new H2.out.s hn3) hk4 (by omega), bel_kp (bel_new H2.out.bel hn3) hk4 (by omega), H2.out.ge⟩, hc4, by omega⟩
  clear H2 hn3 hc4 hk4 c0
  go_wp2_with (first | (refine wpList_ldQQ _ _ rfl b5 rfl H4.out.1.s hl rfl ?_) | (refine wpList_alloc 27 rfl _ zeroValQ rfl ?_))
  intro w5 b11 hn5
  go_wp2_with (refine wpList_st 27 rfl rfl _ _ rfl b11 rfl (cellsQ r g) rfl _ _ hn5.blk (by rw [sizeQ, cellsQ_size hl]) (by rw [cellsQ_size hl]; rfl) (cellsQ_one r g) ?_)
  intro w6 hc6 hk6
  have H6 := show Hid (RS1 w w6 b5 r g ∧ Cl w6 b10 (ndC nd).toArray 54 ∧ SeqAt w6 b11 r g ∧ b11 ≠ b5 ∧ b11 ≠ b10 ∧ w.heap.size ≤ b11) from by
    have e1 := H4.out.1.bel.size; have e2 := hn5.ge; have e3 := Cl.lt H4.out.1.s; have e4 := Cl.lt H4.out.2.1
    exact ⟨⟨Cl.kp (T := 27) (Cl.new H4.out.1.s hn5) hk6 (by omega), bel_kp (bel_new H4.out.1.bel hn5) hk6 (by omega), H4.out.1.ge⟩, Cl.kp (Cl.new H4.out.2.1 hn5) hk6 (by omega), hc6, by omega, by omega, by omega⟩
  clear H4 hn5 hc6 hk6
  go_wp2_with (refine wpList_ldBQ _ rfl _ rfl b5 0 rfl H6.out.1.s.seqIn hl ?_)
  refine Calls.mono (KD.out w6) ?_
  rintro e w7 ⟨rfl, hb7⟩
  have hs7 : SeqAt w7 b11 r g := H6.out.2.2.1.later hb7 H6.out.2.2.1.lt
  go_wp2_with (refine wpList_stBQ _ rfl rfl _ _ rfl b11 rfl rfl hs7 hl hl2 ?_)
  intro w8 hs8 hk8
  have HB8 := show Hid (RS1 w w8 b5 r g ∧ Cl w8 b10 (ndC nd).toArray 54) from
    ⟨⟨Cl.kp (T := 27) (H6.out.1.later hb7).s hk8 (fun e => H6.out.2.2.2.1 e.symm), bel_kp (H6.out.1.later hb7).bel hk8 H6.out.2.2.2.2.2, H6.out.1.ge⟩, Cl.kp (H6.out.2.1.later hb7) hk8 (fun e => H6.out.2.2.2.2.1 e.symm)⟩
  have H8 := show Hid (RP w w8 c (.slice (some ⟨bb, oo, none⟩) t.length cp) t b5 b10 b11 r rst g nd) from ⟨HT.out w8 HB8.out.1.bel, HB8.out.1.s, HB8.out.2, hs8, HB8.out.1.bel⟩
  clear HB8 H6 hb7 hs7 hs8 hk8 KD HT
  have d2 : w8.cell? ⟨b10, 2, none⟩ = some (.int .i64 nd.l) := H8.out.n.cell 2
  have d3 : w8.cell? ⟨b10, 3, none⟩ = some (.int .i64 nd.r) := H8.out.n.cell 3
  have KW := show Hid (∀ W : World, Calls Tryz.prog 60 #[.agg (cellsQ r g), .int .i64 nd.r] W fun e w' => e = .returned (.agg (cellsQ r nd.r)) ∧ Below W.heap.size W w') from fun W => rto_any W hl g nd.r
  clear HC HAT HAX
  go_wp2_with (refine wpList_ldQQ _ _ rfl b5 rfl H8.out.s hl rfl ?_)
  refine Calls.mono (KW.out w8) ?_
  rintro e w9 ⟨rfl, hb9⟩
  have HB := show Hid _ from (H8.out.later hb9).bel
  clear H8 hb9 KW
  go_wp2_with (refine wpList_row1 _ rfl _ rfl rfl hl ?_)
  go_ret2
  exact ⟨_, rfl, ⟨w9.heap.size, rfl, (new_alloc w9 _ _).blk⟩, bel_new HB.out (new_alloc w9 _ _)⟩
end Go.Proofs.YtkejippimkjjaaaGreatDoor
