/-
  The document's call Fits, rule by rule. (Written by genzrfits.py.)
-/
import Derived.Test.YtkejippimkjjaaaGreatDoorZR1
namespace Go.Proofs.YtkejippimkjjaaaGreatDoor
open Go.RowKit Go.Shelf Go.Maps
open Fm (Nd)
open Bt.Bs (Ok wd)
set_option linter.unusedSimpArgs false

set_option maxRecDepth 100000 in
set_option maxHeartbeats 4000000 in
theorem rfits_1 (w : World) {c : Nat} {u : Value} {t : List Nd} (hT : Tr w c u t) {r : List Nat} (hr : Ok r) (g : Int) (i : Nat) (hi : i < t.length) :
    Calls Tryz.prog 56 #[.pointer (some ⟨c, 0, none⟩), .agg (cellsQ r g), .int .i64 1, .int .i64 (i : Int)] w fun e w' => e = .returned (.bool (Bt.Bs.hasI r (i : Int) && (t[i].k == 2))) ∧ Below w.heap.size w w' := by
  have hl := hr.1
  have hiI : (i : Int) < (t.length : Int) := by omega
  have hlen := hT.ok.len
  have KH := show Hid (∀ W : World, Below w.heap.size w W → Calls Tryz.prog 33 #[.pointer (some ⟨c, 0, none⟩), .int .i64 (i : Int)] W fun e w'' => e = .returned (.bool true) ∧ w'' = W) from fun W hb => by
    have := rhas_any W (hT.later hb) (i : Int)
    rw [Fm.has_iff.2 ⟨by omega, hiI⟩] at this
    exact this
  have KS := show Hid (∀ (W : World) (x : Int), Calls Tryz.prog 53 #[.agg (Bt.cellsB r), .int .i64 x] W fun e w' => e = .returned (.bool (Bt.Bs.hasI r x)) ∧ Below W.heap.size W w') from fun W x => (Bt.rhas_any W hr x).mono fun e w' h => ⟨h.1, by rw [h.2]; exact below_alloc W _⟩
  have KK := show Hid (∀ (W : World) (j : Nat) (hj : j < t.length), Below w.heap.size w W → Calls Tryz.prog 100 #[.pointer (some ⟨c, 0, none⟩), .int .i64 (j : Int)] W fun e w' => e = .returned (.int .i64 t[j].k) ∧ w' = W) from fun W j hj hb => rkind_any W (hT.later hb) j hj
  have HKD := show Hid (t[i].k = 5 → ∃ x : Nat, ∃ hx : x < t.length, t[i].l = (x : Int) ∧ (nodeOf t t[i].l).k = t[x].k) from fun h5 => by
    obtain ⟨x, y, hx, _, hxi, _⟩ := kids hT.ok hi (Or.inr (Or.inr h5))
    exact ⟨x, by omega, hx, by rw [hx, nodeOf_nat (by omega)]⟩
  have HC := show Hid (∀ W : World, Below w.heap.size w W → W.cell? ⟨c, 0, none⟩ = some u) from fun W hb => (hT.later hb).c0
  obtain ⟨p, cp, rfl, hc1, hc2, hat⟩ := hT.row.isR.at
  obtain ⟨bb, oo, rfl, hat4⟩ := hat (by omega)
  have HAT := show Hid (∀ W : World, Below w.heap.size w W → At4 W bb (oo + i * 4) t[i]) from fun W hb => hat4 W hb i hi
  clear hT hat hat4 hr
  obtain ⟨res, hres⟩ : ∃ res, res = (Bt.Bs.hasI r (i : Int) && (t[i].k == 2)) := ⟨_, rfl⟩
  rw [← hres]
  have HQQ := show Hid _ from hres
  clear hres
  generalize t[i] = nd at *
  go_enter Tryz.func56, Tryz.ntmps56
  go_wp2_with (refine wpList_box 27 _ rfl _ rfl rfl ?_)
  intro w1 b5 hn1
  go_wp2_with fail
  refine Calls.mono (KH.out _ hn1.bel) ?_
  rintro e w2 ⟨rfl, hw⟩
  subst w2
  have c0 := HC.out w1 hn1.bel
  have H1 := show Hid (RS1 w w1 b5 r g) from ⟨hn1.blk, hn1.bel, hn1.ge⟩
  clear hn1 KH
  go_wp2_with (first | (refine wpList_ld4 _ rfl _ rfl bb (oo + i * 4) rfl (HAT.out w1 H1.out.bel) ?_) | (refine wpList_alloc 54 rfl _ zeroN rfl ?_))
  intro w3 b9 hn3
  refine wpList_st 54 rfl rfl _ _ rfl b9 rfl (ndC nd).toArray rfl _ _ hn3.blk (by rw [sizeN]; rfl) rfl (ndC_all nd) ?_
  intro w4 hc4 hk4
  have H4 := show Hid (RF w w4 b5 b9 r g nd) from by
    have e1 := H1.out.bel.size; have e2 := hn3.ge
    exact ⟨(Cl.kp (b := b5) (T := 27) (Cl.new H1.out.s hn3) hk4 (by have := Cl.lt H1.out.s; omega)), hc4, bel_kp (bel_new H1.out.bel hn3) hk4 (by omega)⟩
  clear H1 hn3 hc4 hk4 c0
  go_wp2_with (refine wpList_ldBQ _ rfl _ rfl b5 0 rfl H4.out.s.seqIn hl ?_)
  refine Calls.mono (KS.out w4 (i : Int)) ?_
  rintro e w5 ⟨rfl, hb5⟩
  have H5 := show Hid _ from H4.out.later hb5
  clear H4 hb5
  have d0 : w5.cell? ⟨b9, 0, none⟩ = some (.int .i64 nd.k) := H5.out.n.cell 0
  have d2 : w5.cell? ⟨b9, 2, none⟩ = some (.int .i64 nd.l) := H5.out.n.cell 2
  have g16 : w5.cell? ⟨b5, 16, none⟩ = some (.int .i64 g) := H5.out.s.seqIn.goal hl
  have HB := show Hid _ from H5.out.bel
  clear KK KS HC HAT H5 HKD
  cases hlf : Bt.Bs.hasI r (i : Int)
  all_goals cases hk5 : (nd.k == 5)
  all_goals cases hgl : ((i : Int) == g)
  all_goals cases hkc : (nd.k == 2)
  all_goals first
    | (exfalso; simp at hk5 hkc; omega)
    | (go_wp2_with fail
       all_goals first | exact undef_noP (by assumption) | skip
       go_ret
       exact ⟨ret_bool (by rw [HQQ.out]; simp [hlf, hgl, hkc]), HB.out⟩)
set_option maxRecDepth 100000 in
set_option maxHeartbeats 4000000 in
theorem rfits_2 (w : World) {c : Nat} {u : Value} {t : List Nd} (hT : Tr w c u t) {r : List Nat} (hr : Ok r) (g : Int) (i : Nat) (hi : i < t.length) :
    Calls Tryz.prog 56 #[.pointer (some ⟨c, 0, none⟩), .agg (cellsQ r g), .int .i64 2, .int .i64 (i : Int)] w fun e w' => e = .returned (.bool (Bt.Bs.hasI r (i : Int) && ((i : Int) == g))) ∧ Below w.heap.size w w' := by
  have hl := hr.1
  have hiI : (i : Int) < (t.length : Int) := by omega
  have hlen := hT.ok.len
  have KH := show Hid (∀ W : World, Below w.heap.size w W → Calls Tryz.prog 33 #[.pointer (some ⟨c, 0, none⟩), .int .i64 (i : Int)] W fun e w'' => e = .returned (.bool true) ∧ w'' = W) from fun W hb => by
    have := rhas_any W (hT.later hb) (i : Int)
    rw [Fm.has_iff.2 ⟨by omega, hiI⟩] at this
    exact this
  have KS := show Hid (∀ (W : World) (x : Int), Calls Tryz.prog 53 #[.agg (Bt.cellsB r), .int .i64 x] W fun e w' => e = .returned (.bool (Bt.Bs.hasI r x)) ∧ Below W.heap.size W w') from fun W x => (Bt.rhas_any W hr x).mono fun e w' h => ⟨h.1, by rw [h.2]; exact below_alloc W _⟩
  have KK := show Hid (∀ (W : World) (j : Nat) (hj : j < t.length), Below w.heap.size w W → Calls Tryz.prog 100 #[.pointer (some ⟨c, 0, none⟩), .int .i64 (j : Int)] W fun e w' => e = .returned (.int .i64 t[j].k) ∧ w' = W) from fun W j hj hb => rkind_any W (hT.later hb) j hj
  have HKD := show Hid (t[i].k = 5 → ∃ x : Nat, ∃ hx : x < t.length, t[i].l = (x : Int) ∧ (nodeOf t t[i].l).k = t[x].k) from fun h5 => by
    obtain ⟨x, y, hx, _, hxi, _⟩ := kids hT.ok hi (Or.inr (Or.inr h5))
    exact ⟨x, by omega, hx, by rw [hx, nodeOf_nat (by omega)]⟩
  have HC := show Hid (∀ W : World, Below w.heap.size w W → W.cell? ⟨c, 0, none⟩ = some u) from fun W hb => (hT.later hb).c0
  obtain ⟨p, cp, rfl, hc1, hc2, hat⟩ := hT.row.isR.at
  obtain ⟨bb, oo, rfl, hat4⟩ := hat (by omega)
  have HAT := show Hid (∀ W : World, Below w.heap.size w W → At4 W bb (oo + i * 4) t[i]) from fun W hb => hat4 W hb i hi
  clear hT hat hat4 hr
  obtain ⟨res, hres⟩ : ∃ res, res = (Bt.Bs.hasI r (i : Int) && ((i : Int) == g)) := ⟨_, rfl⟩
  rw [← hres]
  have HQQ := show Hid _ from hres
  clear hres
  generalize t[i] = nd at *
  go_enter Tryz.func56, Tryz.ntmps56
  go_wp2_with (refine wpList_box 27 _ rfl _ rfl rfl ?_)
  intro w1 b5 hn1
  go_wp2_with fail
  refine Calls.mono (KH.out _ hn1.bel) ?_
  rintro e w2 ⟨rfl, hw⟩
  subst w2
  have c0 := HC.out w1 hn1.bel
  have H1 := show Hid (RS1 w w1 b5 r g) from ⟨hn1.blk, hn1.bel, hn1.ge⟩
  clear hn1 KH
  go_wp2_with (first | (refine wpList_ld4 _ rfl _ rfl bb (oo + i * 4) rfl (HAT.out w1 H1.out.bel) ?_) | (refine wpList_alloc 54 rfl _ zeroN rfl ?_))
  intro w3 b9 hn3
  refine wpList_st 54 rfl rfl _ _ rfl b9 rfl (ndC nd).toArray rfl _ _ hn3.blk (by rw [sizeN]; rfl) rfl (ndC_all nd) ?_
  intro w4 hc4 hk4
  have H4 := show Hid (RF w w4 b5 b9 r g nd) from by
    have e1 := H1.out.bel.size; have e2 := hn3.ge
    exact ⟨(Cl.kp (b := b5) (T := 27) (Cl.new H1.out.s hn3) hk4 (by have := Cl.lt H1.out.s; omega)), hc4, bel_kp (bel_new H1.out.bel hn3) hk4 (by omega)⟩
  clear H1 hn3 hc4 hk4 c0
  go_wp2_with (refine wpList_ldBQ _ rfl _ rfl b5 0 rfl H4.out.s.seqIn hl ?_)
  refine Calls.mono (KS.out w4 (i : Int)) ?_
  rintro e w5 ⟨rfl, hb5⟩
  have H5 := show Hid _ from H4.out.later hb5
  clear H4 hb5
  have d0 : w5.cell? ⟨b9, 0, none⟩ = some (.int .i64 nd.k) := H5.out.n.cell 0
  have d2 : w5.cell? ⟨b9, 2, none⟩ = some (.int .i64 nd.l) := H5.out.n.cell 2
  have g16 : w5.cell? ⟨b5, 16, none⟩ = some (.int .i64 g) := H5.out.s.seqIn.goal hl
  have HB := show Hid _ from H5.out.bel
  clear KK KS HC HAT H5 HKD
  cases hlf : Bt.Bs.hasI r (i : Int)
  all_goals cases hk5 : (nd.k == 5)
  all_goals cases hgl : ((i : Int) == g)
  all_goals
    go_wp2_with fail
    all_goals first | exact undef_noP (by assumption) | skip
    go_ret
    exact ⟨ret_bool (by rw [HQQ.out]; simp [hlf, hgl]), HB.out⟩
set_option maxRecDepth 100000 in
set_option maxHeartbeats 4000000 in
theorem rfits_3 (w : World) {c : Nat} {u : Value} {t : List Nd} (hT : Tr w c u t) {r : List Nat} (hr : Ok r) (g : Int) (i : Nat) (hi : i < t.length) :
    Calls Tryz.prog 56 #[.pointer (some ⟨c, 0, none⟩), .agg (cellsQ r g), .int .i64 3, .int .i64 (i : Int)] w fun e w' => e = .returned (.bool (Bt.Bs.hasI r (i : Int) && (t[i].k == 3))) ∧ Below w.heap.size w w' := by
  have hl := hr.1
  have hiI : (i : Int) < (t.length : Int) := by omega
  have hlen := hT.ok.len
  have KH := show Hid (∀ W : World, Below w.heap.size w W → Calls Tryz.prog 33 #[.pointer (some ⟨c, 0, none⟩), .int .i64 (i : Int)] W fun e w'' => e = .returned (.bool true) ∧ w'' = W) from fun W hb => by
    have := rhas_any W (hT.later hb) (i : Int)
    rw [Fm.has_iff.2 ⟨by omega, hiI⟩] at this
    exact this
  have KS := show Hid (∀ (W : World) (x : Int), Calls Tryz.prog 53 #[.agg (Bt.cellsB r), .int .i64 x] W fun e w' => e = .returned (.bool (Bt.Bs.hasI r x)) ∧ Below W.heap.size W w') from fun W x => (Bt.rhas_any W hr x).mono fun e w' h => ⟨h.1, by rw [h.2]; exact below_alloc W _⟩
  have KK := show Hid (∀ (W : World) (j : Nat) (hj : j < t.length), Below w.heap.size w W → Calls Tryz.prog 100 #[.pointer (some ⟨c, 0, none⟩), .int .i64 (j : Int)] W fun e w' => e = .returned (.int .i64 t[j].k) ∧ w' = W) from fun W j hj hb => rkind_any W (hT.later hb) j hj
  have HKD := show Hid (t[i].k = 5 → ∃ x : Nat, ∃ hx : x < t.length, t[i].l = (x : Int) ∧ (nodeOf t t[i].l).k = t[x].k) from fun h5 => by
    obtain ⟨x, y, hx, _, hxi, _⟩ := kids hT.ok hi (Or.inr (Or.inr h5))
    exact ⟨x, by omega, hx, by rw [hx, nodeOf_nat (by omega)]⟩
  have HC := show Hid (∀ W : World, Below w.heap.size w W → W.cell? ⟨c, 0, none⟩ = some u) from fun W hb => (hT.later hb).c0
  obtain ⟨p, cp, rfl, hc1, hc2, hat⟩ := hT.row.isR.at
  obtain ⟨bb, oo, rfl, hat4⟩ := hat (by omega)
  have HAT := show Hid (∀ W : World, Below w.heap.size w W → At4 W bb (oo + i * 4) t[i]) from fun W hb => hat4 W hb i hi
  clear hT hat hat4 hr
  obtain ⟨res, hres⟩ : ∃ res, res = (Bt.Bs.hasI r (i : Int) && (t[i].k == 3)) := ⟨_, rfl⟩
  rw [← hres]
  have HQQ := show Hid _ from hres
  clear hres
  generalize t[i] = nd at *
  go_enter Tryz.func56, Tryz.ntmps56
  go_wp2_with (refine wpList_box 27 _ rfl _ rfl rfl ?_)
  intro w1 b5 hn1
  go_wp2_with fail
  refine Calls.mono (KH.out _ hn1.bel) ?_
  rintro e w2 ⟨rfl, hw⟩
  subst w2
  have c0 := HC.out w1 hn1.bel
  have H1 := show Hid (RS1 w w1 b5 r g) from ⟨hn1.blk, hn1.bel, hn1.ge⟩
  clear hn1 KH
  go_wp2_with (first | (refine wpList_ld4 _ rfl _ rfl bb (oo + i * 4) rfl (HAT.out w1 H1.out.bel) ?_) | (refine wpList_alloc 54 rfl _ zeroN rfl ?_))
  intro w3 b9 hn3
  refine wpList_st 54 rfl rfl _ _ rfl b9 rfl (ndC nd).toArray rfl _ _ hn3.blk (by rw [sizeN]; rfl) rfl (ndC_all nd) ?_
  intro w4 hc4 hk4
  have H4 := show Hid (RF w w4 b5 b9 r g nd) from by
    have e1 := H1.out.bel.size; have e2 := hn3.ge
    exact ⟨(Cl.kp (b := b5) (T := 27) (Cl.new H1.out.s hn3) hk4 (by have := Cl.lt H1.out.s; omega)), hc4, bel_kp (bel_new H1.out.bel hn3) hk4 (by omega)⟩
  clear H1 hn3 hc4 hk4 c0
  go_wp2_with (refine wpList_ldBQ _ rfl _ rfl b5 0 rfl H4.out.s.seqIn hl ?_)
  refine Calls.mono (KS.out w4 (i : Int)) ?_
  rintro e w5 ⟨rfl, hb5⟩
  have H5 := show Hid _ from H4.out.later hb5
  clear H4 hb5
  have d0 : w5.cell? ⟨b9, 0, none⟩ = some (.int .i64 nd.k) := H5.out.n.cell 0
  have d2 : w5.cell? ⟨b9, 2, none⟩ = some (.int .i64 nd.l) := H5.out.n.cell 2
  have g16 : w5.cell? ⟨b5, 16, none⟩ = some (.int .i64 g) := H5.out.s.seqIn.goal hl
  have HB := show Hid _ from H5.out.bel
  clear KK KS HC HAT H5 HKD
  cases hlf : Bt.Bs.hasI r (i : Int)
  all_goals cases hk5 : (nd.k == 5)
  all_goals cases hgl : ((i : Int) == g)
  all_goals cases hkc : (nd.k == 3)
  all_goals first
    | (exfalso; simp at hk5 hkc; omega)
    | (go_wp2_with fail
       all_goals first | exact undef_noP (by assumption) | skip
       go_ret
       exact ⟨ret_bool (by rw [HQQ.out]; simp [hlf, hgl, hkc]), HB.out⟩)
set_option maxRecDepth 100000 in
set_option maxHeartbeats 4000000 in
theorem rfits_10 (w : World) {c : Nat} {u : Value} {t : List Nd} (hT : Tr w c u t) {r : List Nat} (hr : Ok r) (g : Int) (i : Nat) (hi : i < t.length) :
    Calls Tryz.prog 56 #[.pointer (some ⟨c, 0, none⟩), .agg (cellsQ r g), .int .i64 10, .int .i64 (i : Int)] w fun e w' => e = .returned (.bool (Bt.Bs.hasI r (i : Int) && (t[i].k == 4))) ∧ Below w.heap.size w w' := by
  have hl := hr.1
  have hiI : (i : Int) < (t.length : Int) := by omega
  have hlen := hT.ok.len
  have KH := show Hid (∀ W : World, Below w.heap.size w W → Calls Tryz.prog 33 #[.pointer (some ⟨c, 0, none⟩), .int .i64 (i : Int)] W fun e w'' => e = .returned (.bool true) ∧ w'' = W) from fun W hb => by
    have := rhas_any W (hT.later hb) (i : Int)
    rw [Fm.has_iff.2 ⟨by omega, hiI⟩] at this
    exact this
  have KS := show Hid (∀ (W : World) (x : Int), Calls Tryz.prog 53 #[.agg (Bt.cellsB r), .int .i64 x] W fun e w' => e = .returned (.bool (Bt.Bs.hasI r x)) ∧ Below W.heap.size W w') from fun W x => (Bt.rhas_any W hr x).mono fun e w' h => ⟨h.1, by rw [h.2]; exact below_alloc W _⟩
  have KK := show Hid (∀ (W : World) (j : Nat) (hj : j < t.length), Below w.heap.size w W → Calls Tryz.prog 100 #[.pointer (some ⟨c, 0, none⟩), .int .i64 (j : Int)] W fun e w' => e = .returned (.int .i64 t[j].k) ∧ w' = W) from fun W j hj hb => rkind_any W (hT.later hb) j hj
  have HKD := show Hid (t[i].k = 5 → ∃ x : Nat, ∃ hx : x < t.length, t[i].l = (x : Int) ∧ (nodeOf t t[i].l).k = t[x].k) from fun h5 => by
    obtain ⟨x, y, hx, _, hxi, _⟩ := kids hT.ok hi (Or.inr (Or.inr h5))
    exact ⟨x, by omega, hx, by rw [hx, nodeOf_nat (by omega)]⟩
  have HC := show Hid (∀ W : World, Below w.heap.size w W → W.cell? ⟨c, 0, none⟩ = some u) from fun W hb => (hT.later hb).c0
  obtain ⟨p, cp, rfl, hc1, hc2, hat⟩ := hT.row.isR.at
  obtain ⟨bb, oo, rfl, hat4⟩ := hat (by omega)
  have HAT := show Hid (∀ W : World, Below w.heap.size w W → At4 W bb (oo + i * 4) t[i]) from fun W hb => hat4 W hb i hi
  clear hT hat hat4 hr
  obtain ⟨res, hres⟩ : ∃ res, res = (Bt.Bs.hasI r (i : Int) && (t[i].k == 4)) := ⟨_, rfl⟩
  rw [← hres]
  have HQQ := show Hid _ from hres
  clear hres
  generalize t[i] = nd at *
  go_enter Tryz.func56, Tryz.ntmps56
  go_wp2_with (refine wpList_box 27 _ rfl _ rfl rfl ?_)
  intro w1 b5 hn1
  go_wp2_with fail
  refine Calls.mono (KH.out _ hn1.bel) ?_
  rintro e w2 ⟨rfl, hw⟩
  subst w2
  have c0 := HC.out w1 hn1.bel
  have H1 := show Hid (RS1 w w1 b5 r g) from ⟨hn1.blk, hn1.bel, hn1.ge⟩
  clear hn1 KH
  go_wp2_with (first | (refine wpList_ld4 _ rfl _ rfl bb (oo + i * 4) rfl (HAT.out w1 H1.out.bel) ?_) | (refine wpList_alloc 54 rfl _ zeroN rfl ?_))
  intro w3 b9 hn3
  refine wpList_st 54 rfl rfl _ _ rfl b9 rfl (ndC nd).toArray rfl _ _ hn3.blk (by rw [sizeN]; rfl) rfl (ndC_all nd) ?_
  intro w4 hc4 hk4
  have H4 := show Hid (RF w w4 b5 b9 r g nd) from by
    have e1 := H1.out.bel.size; have e2 := hn3.ge
    exact ⟨(Cl.kp (b := b5) (T := 27) (Cl.new H1.out.s hn3) hk4 (by have := Cl.lt H1.out.s; omega)), hc4, bel_kp (bel_new H1.out.bel hn3) hk4 (by omega)⟩
  clear H1 hn3 hc4 hk4 c0
  go_wp2_with (refine wpList_ldBQ _ rfl _ rfl b5 0 rfl H4.out.s.seqIn hl ?_)
  refine Calls.mono (KS.out w4 (i : Int)) ?_
  rintro e w5 ⟨rfl, hb5⟩
  have H5 := show Hid _ from H4.out.later hb5
  clear H4 hb5
  have d0 : w5.cell? ⟨b9, 0, none⟩ = some (.int .i64 nd.k) := H5.out.n.cell 0
  have d2 : w5.cell? ⟨b9, 2, none⟩ = some (.int .i64 nd.l) := H5.out.n.cell 2
  have g16 : w5.cell? ⟨b5, 16, none⟩ = some (.int .i64 g) := H5.out.s.seqIn.goal hl
  have HB := show Hid _ from H5.out.bel
  clear KK KS HC HAT H5 HKD
  cases hlf : Bt.Bs.hasI r (i : Int)
  all_goals cases hk5 : (nd.k == 5)
  all_goals cases hgl : ((i : Int) == g)
  all_goals cases hkc : (nd.k == 4)
  all_goals first
    | (exfalso; simp at hk5 hkc; omega)
    | (go_wp2_with fail
       all_goals first | exact undef_noP (by assumption) | skip
       go_ret
       exact ⟨ret_bool (by rw [HQQ.out]; simp [hlf, hgl, hkc]), HB.out⟩)
end Go.Proofs.YtkejippimkjjaaaGreatDoor
/-
  The document's call Fits, rule by rule. (Written by genzrfits.py.)
-/
namespace Go.Proofs.YtkejippimkjjaaaGreatDoor
open Go.RowKit Go.Shelf Go.Maps
open Fm (Nd)
open Bt.Bs (Ok wd)
set_option linter.unusedSimpArgs false

set_option maxRecDepth 100000 in
set_option maxHeartbeats 4000000 in
theorem rfits_8 (w : World) {c : Nat} {u : Value} {t : List Nd} (hT : Tr w c u t) {r : List Nat} (hr : Ok r) (g : Int) (i : Nat) (hi : i < t.length) :
    Calls Tryz.prog 56 #[.pointer (some ⟨c, 0, none⟩), .agg (cellsQ r g), .int .i64 8, .int .i64 (i : Int)] w fun e w' => e = .returned (.bool (((i : Int) == g) && (t[i].k == 5))) ∧ Below w.heap.size w w' := by
  have hl := hr.1
  have hiI : (i : Int) < (t.length : Int) := by omega
  have hlen := hT.ok.len
  have KH := show Hid (∀ W : World, Below w.heap.size w W → Calls Tryz.prog 33 #[.pointer (some ⟨c, 0, none⟩), .int .i64 (i : Int)] W fun e w'' => e = .returned (.bool true) ∧ w'' = W) from fun W hb => by
    have := rhas_any W (hT.later hb) (i : Int)
    rw [Fm.has_iff.2 ⟨by omega, hiI⟩] at this
    exact this
  have KS := show Hid (∀ (W : World) (x : Int), Calls Tryz.prog 53 #[.agg (Bt.cellsB r), .int .i64 x] W fun e w' => e = .returned (.bool (Bt.Bs.hasI r x)) ∧ Below W.heap.size W w') from fun W x => (Bt.rhas_any W hr x).mono fun e w' h => ⟨h.1, by rw [h.2]; exact below_alloc W _⟩
  have KK := show Hid (∀ (W : World) (j : Nat) (hj : j < t.length), Below w.heap.size w W → Calls Tryz.prog 100 #[.pointer (some ⟨c, 0, none⟩), .int .i64 (j : Int)] W fun e w' => e = .returned (.int .i64 t[j].k) ∧ w' = W) from fun W j hj hb => rkind_any W (hT.later hb) j hj
  have HKD := show Hid (t[i].k = 5 → ∃ x : Nat, ∃ hx : x < t.length, t[i].l = (x : Int) ∧ (nodeOf t t[i].l).k = t[x].k) from fun h5 => by
    obtain ⟨x, y, hx, _, hxi, _⟩ := kids hT.ok hi (Or.inr (Or.inr h5))
    exact ⟨x, by omega, hx, by rw [hx, nodeOf_nat (by omega)]⟩
  have HC := show Hid (∀ W : World, Below w.heap.size w W → W.cell? ⟨c, 0, none⟩ = some u) from fun W hb => (hT.later hb).c0
  obtain ⟨p, cp, rfl, hc1, hc2, hat⟩ := hT.row.isR.at
  obtain ⟨bb, oo, rfl, hat4⟩ := hat (by omega)
  have HAT := show Hid (∀ W : World, Below w.heap.size w W → At4 W bb (oo + i * 4) t[i]) from fun W hb => hat4 W hb i hi
  clear hT hat hat4 hr
  obtain ⟨res, hres⟩ : ∃ res, res = (((i : Int) == g) && (t[i].k == 5)) := ⟨_, rfl⟩
  rw [← hres]
  have HQQ := show Hid _ from hres
  clear hres
  generalize t[i] = nd at *
  go_enter Tryz.func56, Tryz.ntmps56
  go_wp2_with (refine wpList_box 27 _ rfl _ rfl rfl ?_)
  intro w1 b5 hn1
  go_wp2_with fail
  refine Calls.mono (KH.out _ hn1.bel) ?_
  rintro e w2 ⟨rfl, hw⟩
  subst w2
  have c0 := HC.out w1 hn1.bel
  have H1 := show Hid (RS1 w w1 b5 r g) from ⟨hn1.blk, hn1.bel, hn1.ge⟩
  clear hn1 KH
  go_wp2_with (first | (refine wpList_ld4 _ rfl _ rfl bb (oo + i * 4) rfl (HAT.out w1 H1.out.bel) ?_) | (refine wpList_alloc 54 rfl _ zeroN rfl ?_))
  intro w3 b9 hn3
  refine wpList_st 54 rfl rfl _ _ rfl b9 rfl (ndC nd).toArray rfl _ _ hn3.blk (by rw [sizeN]; rfl) rfl (ndC_all nd) ?_
  intro w4 hc4 hk4
  have H4 := show Hid (RF w w4 b5 b9 r g nd) from by
    have e1 := H1.out.bel.size; have e2 := hn3.ge
    exact ⟨(Cl.kp (b := b5) (T := 27) (Cl.new H1.out.s hn3) hk4 (by have := Cl.lt H1.out.s; omega)), hc4, bel_kp (bel_new H1.out.bel hn3) hk4 (by omega)⟩
  clear H1 hn3 hc4 hk4 c0
  go_wp2_with (refine wpList_ldBQ _ rfl _ rfl b5 0 rfl H4.out.s.seqIn hl ?_)
  refine Calls.mono (KS.out w4 (i : Int)) ?_
  rintro e w5 ⟨rfl, hb5⟩
  have H5 := show Hid _ from H4.out.later hb5
  clear H4 hb5
  have d0 : w5.cell? ⟨b9, 0, none⟩ = some (.int .i64 nd.k) := H5.out.n.cell 0
  have d2 : w5.cell? ⟨b9, 2, none⟩ = some (.int .i64 nd.l) := H5.out.n.cell 2
  have g16 : w5.cell? ⟨b5, 16, none⟩ = some (.int .i64 g) := H5.out.s.seqIn.goal hl
  have HB := show Hid _ from H5.out.bel
  clear KK KS HC HAT H5 HKD
  cases hlf : Bt.Bs.hasI r (i : Int)
  all_goals cases hk5 : (nd.k == 5)
  all_goals cases hgl : ((i : Int) == g)
  all_goals cases hkc : (nd.k == 5)
  all_goals first
    | (exfalso; simp at hk5 hkc; omega)
    | (go_wp2_with fail
       all_goals first | exact undef_noP (by assumption) | skip
       go_ret
       exact ⟨ret_bool (by rw [HQQ.out]; simp [hlf, hgl, hkc]), HB.out⟩)
set_option maxRecDepth 100000 in
set_option maxHeartbeats 4000000 in
theorem rfits_9 (w : World) {c : Nat} {u : Value} {t : List Nd} (hT : Tr w c u t) {r : List Nat} (hr : Ok r) (g : Int) (i : Nat) (hi : i < t.length) :
    Calls Tryz.prog 56 #[.pointer (some ⟨c, 0, none⟩), .agg (cellsQ r g), .int .i64 9, .int .i64 (i : Int)] w fun e w' => e = .returned (.bool (((i : Int) == g) && (t[i].k == 3))) ∧ Below w.heap.size w w' := by
  have hl := hr.1
  have hiI : (i : Int) < (t.length : Int) := by omega
  have hlen := hT.ok.len
  have KH := show Hid (∀ W : World, Below w.heap.size w W → Calls Tryz.prog 33 #[.pointer (some ⟨c, 0, none⟩), .int .i64 (i : Int)] W fun e w'' => e = .returned (.bool true) ∧ w'' = W) from fun W hb => by
    have := rhas_any W (hT.later hb) (i : Int)
    rw [Fm.has_iff.2 ⟨by omega, hiI⟩] at this
    exact this
  have KS := show Hid (∀ (W : World) (x : Int), Calls Tryz.prog 53 #[.agg (Bt.cellsB r), .int .i64 x] W fun e w' => e = .returned (.bool (Bt.Bs.hasI r x)) ∧ Below W.heap.size W w') from fun W x => (Bt.rhas_any W hr x).mono fun e w' h => ⟨h.1, by rw [h.2]; exact below_alloc W _⟩
  have KK := show Hid (∀ (W : World) (j : Nat) (hj : j < t.length), Below w.heap.size w W → Calls Tryz.prog 100 #[.pointer (some ⟨c, 0, none⟩), .int .i64 (j : Int)] W fun e w' => e = .returned (.int .i64 t[j].k) ∧ w' = W) from fun W j hj hb => rkind_any W (hT.later hb) j hj
  have HKD := show Hid (t[i].k = 5 → ∃ x : Nat, ∃ hx : x < t.length, t[i].l = (x : Int) ∧ (nodeOf t t[i].l).k = t[x].k) from fun h5 => by
    obtain ⟨x, y, hx, _, hxi, _⟩ := kids hT.ok hi (Or.inr (Or.inr h5))
    exact ⟨x, by omega, hx, by rw [hx, nodeOf_nat (by omega)]⟩
  have HC := show Hid (∀ W : World, Below w.heap.size w W → W.cell? ⟨c, 0, none⟩ = some u) from fun W hb => (hT.later hb).c0
  obtain ⟨p, cp, rfl, hc1, hc2, hat⟩ := hT.row.isR.at
  obtain ⟨bb, oo, rfl, hat4⟩ := hat (by omega)
  have HAT := show Hid (∀ W : World, Below w.heap.size w W → At4 W bb (oo + i * 4) t[i]) from fun W hb => hat4 W hb i hi
  clear hT hat hat4 hr
  obtain ⟨res, hres⟩ : ∃ res, res = (((i : Int) == g) && (t[i].k == 3)) := ⟨_, rfl⟩
  rw [← hres]
  have HQQ := show Hid _ from hres
  clear hres
  generalize t[i] = nd at *
  go_enter Tryz.func56, Tryz.ntmps56
  go_wp2_with (refine wpList_box 27 _ rfl _ rfl rfl ?_)
  intro w1 b5 hn1
  go_wp2_with fail
  refine Calls.mono (KH.out _ hn1.bel) ?_
  rintro e w2 ⟨rfl, hw⟩
  subst w2
  have c0 := HC.out w1 hn1.bel
  have H1 := show Hid (RS1 w w1 b5 r g) from ⟨hn1.blk, hn1.bel, hn1.ge⟩
  clear hn1 KH
  go_wp2_with (first | (refine wpList_ld4 _ rfl _ rfl bb (oo + i * 4) rfl (HAT.out w1 H1.out.bel) ?_) | (refine wpList_alloc 54 rfl _ zeroN rfl ?_))
  intro w3 b9 hn3
  refine wpList_st 54 rfl rfl _ _ rfl b9 rfl (ndC nd).toArray rfl _ _ hn3.blk (by rw [sizeN]; rfl) rfl (ndC_all nd) ?_
  intro w4 hc4 hk4
  have H4 := show Hid (RF w w4 b5 b9 r g nd) from by
    have e1 := H1.out.bel.size; have e2 := hn3.ge
    exact ⟨(Cl.kp (b := b5) (T := 27) (Cl.new H1.out.s hn3) hk4 (by have := Cl.lt H1.out.s; omega)), hc4, bel_kp (bel_new H1.out.bel hn3) hk4 (by omega)⟩
  clear H1 hn3 hc4 hk4 c0
  go_wp2_with (refine wpList_ldBQ _ rfl _ rfl b5 0 rfl H4.out.s.seqIn hl ?_)
  refine Calls.mono (KS.out w4 (i : Int)) ?_
  rintro e w5 ⟨rfl, hb5⟩
  have H5 := show Hid _ from H4.out.later hb5
  clear H4 hb5
  have d0 : w5.cell? ⟨b9, 0, none⟩ = some (.int .i64 nd.k) := H5.out.n.cell 0
  have d2 : w5.cell? ⟨b9, 2, none⟩ = some (.int .i64 nd.l) := H5.out.n.cell 2
  have g16 : w5.cell? ⟨b5, 16, none⟩ = some (.int .i64 g) := H5.out.s.seqIn.goal hl
  have HB := show Hid _ from H5.out.bel
  clear KK KS HC HAT H5 HKD
  cases hlf : Bt.Bs.hasI r (i : Int)
  all_goals cases hk5 : (nd.k == 5)
  all_goals cases hgl : ((i : Int) == g)
  all_goals cases hkc : (nd.k == 3)
  all_goals first
    | (exfalso; simp at hk5 hkc; omega)
    | (go_wp2_with fail
       all_goals first | exact undef_noP (by assumption) | skip
       go_ret
       exact ⟨ret_bool (by rw [HQQ.out]; simp [hlf, hgl, hkc]), HB.out⟩)
set_option maxRecDepth 100000 in
set_option maxHeartbeats 4000000 in
theorem rfits_11 (w : World) {c : Nat} {u : Value} {t : List Nd} (hT : Tr w c u t) {r : List Nat} (hr : Ok r) (g : Int) (i : Nat) (hi : i < t.length) :
    Calls Tryz.prog 56 #[.pointer (some ⟨c, 0, none⟩), .agg (cellsQ r g), .int .i64 11, .int .i64 (i : Int)] w fun e w' => e = .returned (.bool (((i : Int) == g) && (t[i].k == 4))) ∧ Below w.heap.size w w' := by
  have hl := hr.1
  have hiI : (i : Int) < (t.length : Int) := by omega
  have hlen := hT.ok.len
  have KH := show Hid (∀ W : World, Below w.heap.size w W → Calls Tryz.prog 33 #[.pointer (some ⟨c, 0, none⟩), .int .i64 (i : Int)] W fun e w'' => e = .returned (.bool true) ∧ w'' = W) from fun W hb => by
    have := rhas_any W (hT.later hb) (i : Int)
    rw [Fm.has_iff.2 ⟨by omega, hiI⟩] at this
    exact this
  have KS := show Hid (∀ (W : World) (x : Int), Calls Tryz.prog 53 #[.agg (Bt.cellsB r), .int .i64 x] W fun e w' => e = .returned (.bool (Bt.Bs.hasI r x)) ∧ Below W.heap.size W w') from fun W x => (Bt.rhas_any W hr x).mono fun e w' h => ⟨h.1, by rw [h.2]; exact below_alloc W _⟩
  have KK := show Hid (∀ (W : World) (j : Nat) (hj : j < t.length), Below w.heap.size w W → Calls Tryz.prog 100 #[.pointer (some ⟨c, 0, none⟩), .int .i64 (j : Int)] W fun e w' => e = .returned (.int .i64 t[j].k) ∧ w' = W) from fun W j hj hb => rkind_any W (hT.later hb) j hj
  have HKD := show Hid (t[i].k = 5 → ∃ x : Nat, ∃ hx : x < t.length, t[i].l = (x : Int) ∧ (nodeOf t t[i].l).k = t[x].k) from fun h5 => by
    obtain ⟨x, y, hx, _, hxi, _⟩ := kids hT.ok hi (Or.inr (Or.inr h5))
    exact ⟨x, by omega, hx, by rw [hx, nodeOf_nat (by omega)]⟩
  have HC := show Hid (∀ W : World, Below w.heap.size w W → W.cell? ⟨c, 0, none⟩ = some u) from fun W hb => (hT.later hb).c0
  obtain ⟨p, cp, rfl, hc1, hc2, hat⟩ := hT.row.isR.at
  obtain ⟨bb, oo, rfl, hat4⟩ := hat (by omega)
  have HAT := show Hid (∀ W : World, Below w.heap.size w W → At4 W bb (oo + i * 4) t[i]) from fun W hb => hat4 W hb i hi
  clear hT hat hat4 hr
  obtain ⟨res, hres⟩ : ∃ res, res = (((i : Int) == g) && (t[i].k == 4)) := ⟨_, rfl⟩
  rw [← hres]
  have HQQ := show Hid _ from hres
  clear hres
  generalize t[i] = nd at *
  go_enter Tryz.func56, Tryz.ntmps56
  go_wp2_with (refine wpList_box 27 _ rfl _ rfl rfl ?_)
  intro w1 b5 hn1
  go_wp2_with fail
  refine Calls.mono (KH.out _ hn1.bel) ?_
  rintro e w2 ⟨rfl, hw⟩
  subst w2
  have c0 := HC.out w1 hn1.bel
  have H1 := show Hid (RS1 w w1 b5 r g) from ⟨hn1.blk, hn1.bel, hn1.ge⟩
  clear hn1 KH
  go_wp2_with (first | (refine wpList_ld4 _ rfl _ rfl bb (oo + i * 4) rfl (HAT.out w1 H1.out.bel) ?_) | (refine wpList_alloc 54 rfl _ zeroN rfl ?_))
  intro w3 b9 hn3
  refine wpList_st 54 rfl rfl _ _ rfl b9 rfl (ndC nd).toArray rfl _ _ hn3.blk (by rw [sizeN]; rfl) rfl (ndC_all nd) ?_
  intro w4 hc4 hk4
  have H4 := show Hid (RF w w4 b5 b9 r g nd) from by
    have e1 := H1.out.bel.size; have e2 := hn3.ge
    exact ⟨(Cl.kp (b := b5) (T := 27) (Cl.new H1.out.s hn3) hk4 (by have := Cl.lt H1.out.s; omega)), hc4, bel_kp (bel_new H1.out.bel hn3) hk4 (by omega)⟩
  clear H1 hn3 hc4 hk4 c0
  go_wp2_with (refine wpList_ldBQ _ rfl _ rfl b5 0 rfl H4.out.s.seqIn hl ?_)
  refine Calls.mono (KS.out w4 (i : Int)) ?_
  rintro e w5 ⟨rfl, hb5⟩
  have H5 := show Hid _ from H4.out.later hb5
  clear H4 hb5
  have d0 : w5.cell? ⟨b9, 0, none⟩ = some (.int .i64 nd.k) := H5.out.n.cell 0
  have d2 : w5.cell? ⟨b9, 2, none⟩ = some (.int .i64 nd.l) := H5.out.n.cell 2
  have g16 : w5.cell? ⟨b5, 16, none⟩ = some (.int .i64 g) := H5.out.s.seqIn.goal hl
  have HB := show Hid _ from H5.out.bel
  clear KK KS HC HAT H5 HKD
  cases hlf : Bt.Bs.hasI r (i : Int)
  all_goals cases hk5 : (nd.k == 5)
  all_goals cases hgl : ((i : Int) == g)
  all_goals cases hkc : (nd.k == 4)
  all_goals first
    | (exfalso; simp at hk5 hkc; omega)
    | (go_wp2_with fail
       all_goals first | exact undef_noP (by assumption) | skip
       go_ret
       exact ⟨ret_bool (by rw [HQQ.out]; simp [hlf, hgl, hkc]), HB.out⟩)
set_option maxRecDepth 100000 in
set_option maxHeartbeats 4000000 in
theorem rfits_12 (w : World) {c : Nat} {u : Value} {t : List Nd} (hT : Tr w c u t) {r : List Nat} (hr : Ok r) (g : Int) (i : Nat) (hi : i < t.length) :
    Calls Tryz.prog 56 #[.pointer (some ⟨c, 0, none⟩), .agg (cellsQ r g), .int .i64 12, .int .i64 (i : Int)] w fun e w' => e = .returned (.bool (((i : Int) == g) && (t[i].k == 4))) ∧ Below w.heap.size w w' := by
  have hl := hr.1
  have hiI : (i : Int) < (t.length : Int) := by omega
  have hlen := hT.ok.len
  have KH := show Hid (∀ W : World, Below w.heap.size w W → Calls Tryz.prog 33 #[.pointer (some ⟨c, 0, none⟩), .int .i64 (i : Int)] W fun e w'' => e = .returned (.bool true) ∧ w'' = W) from fun W hb => by
    have := rhas_any W (hT.later hb) (i : Int)
    rw [Fm.has_iff.2 ⟨by omega, hiI⟩] at this
    exact this
  have KS := show Hid (∀ (W : World) (x : Int), Calls Tryz.prog 53 #[.agg (Bt.cellsB r), .int .i64 x] W fun e w' => e = .returned (.bool (Bt.Bs.hasI r x)) ∧ Below W.heap.size W w') from fun W x => (Bt.rhas_any W hr x).mono fun e w' h => ⟨h.1, by rw [h.2]; exact below_alloc W _⟩
  have KK := show Hid (∀ (W : World) (j : Nat) (hj : j < t.length), Below w.heap.size w W → Calls Tryz.prog 100 #[.pointer (some ⟨c, 0, none⟩), .int .i64 (j : Int)] W fun e w' => e = .returned (.int .i64 t[j].k) ∧ w' = W) from fun W j hj hb => rkind_any W (hT.later hb) j hj
  have HKD := show Hid (t[i].k = 5 → ∃ x : Nat, ∃ hx : x < t.length, t[i].l = (x : Int) ∧ (nodeOf t t[i].l).k = t[x].k) from fun h5 => by
    obtain ⟨x, y, hx, _, hxi, _⟩ := kids hT.ok hi (Or.inr (Or.inr h5))
    exact ⟨x, by omega, hx, by rw [hx, nodeOf_nat (by omega)]⟩
  have HC := show Hid (∀ W : World, Below w.heap.size w W → W.cell? ⟨c, 0, none⟩ = some u) from fun W hb => (hT.later hb).c0
  obtain ⟨p, cp, rfl, hc1, hc2, hat⟩ := hT.row.isR.at
  obtain ⟨bb, oo, rfl, hat4⟩ := hat (by omega)
  have HAT := show Hid (∀ W : World, Below w.heap.size w W → At4 W bb (oo + i * 4) t[i]) from fun W hb => hat4 W hb i hi
  clear hT hat hat4 hr
  obtain ⟨res, hres⟩ : ∃ res, res = (((i : Int) == g) && (t[i].k == 4)) := ⟨_, rfl⟩
  rw [← hres]
  have HQQ := show Hid _ from hres
  clear hres
  generalize t[i] = nd at *
  go_enter Tryz.func56, Tryz.ntmps56
  go_wp2_with (refine wpList_box 27 _ rfl _ rfl rfl ?_)
  intro w1 b5 hn1
  go_wp2_with fail
  refine Calls.mono (KH.out _ hn1.bel) ?_
  rintro e w2 ⟨rfl, hw⟩
  subst w2
  have c0 := HC.out w1 hn1.bel
  have H1 := show Hid (RS1 w w1 b5 r g) from ⟨hn1.blk, hn1.bel, hn1.ge⟩
  clear hn1 KH
  go_wp2_with (first | (refine wpList_ld4 _ rfl _ rfl bb (oo + i * 4) rfl (HAT.out w1 H1.out.bel) ?_) | (refine wpList_alloc 54 rfl _ zeroN rfl ?_))
  intro w3 b9 hn3
  refine wpList_st 54 rfl rfl _ _ rfl b9 rfl (ndC nd).toArray rfl _ _ hn3.blk (by rw [sizeN]; rfl) rfl (ndC_all nd) ?_
  intro w4 hc4 hk4
  have H4 := show Hid (RF w w4 b5 b9 r g nd) from by
    have e1 := H1.out.bel.size; have e2 := hn3.ge
    exact ⟨(Cl.kp (b := b5) (T := 27) (Cl.new H1.out.s hn3) hk4 (by have := Cl.lt H1.out.s; omega)), hc4, bel_kp (bel_new H1.out.bel hn3) hk4 (by omega)⟩
  clear H1 hn3 hc4 hk4 c0
  go_wp2_with (refine wpList_ldBQ _ rfl _ rfl b5 0 rfl H4.out.s.seqIn hl ?_)
  refine Calls.mono (KS.out w4 (i : Int)) ?_
  rintro e w5 ⟨rfl, hb5⟩
  have H5 := show Hid _ from H4.out.later hb5
  clear H4 hb5
  have d0 : w5.cell? ⟨b9, 0, none⟩ = some (.int .i64 nd.k) := H5.out.n.cell 0
  have d2 : w5.cell? ⟨b9, 2, none⟩ = some (.int .i64 nd.l) := H5.out.n.cell 2
  have g16 : w5.cell? ⟨b5, 16, none⟩ = some (.int .i64 g) := H5.out.s.seqIn.goal hl
  have HB := show Hid _ from H5.out.bel
  clear KK KS HC HAT H5 HKD
  cases hlf : Bt.Bs.hasI r (i : Int)
  all_goals cases hk5 : (nd.k == 5)
  all_goals cases hgl : ((i : Int) == g)
  all_goals cases hkc : (nd.k == 4)
  all_goals first
    | (exfalso; simp at hk5 hkc; omega)
    | (go_wp2_with fail
       all_goals first | exact undef_noP (by assumption) | skip
       go_ret
       exact ⟨ret_bool (by rw [HQQ.out]; simp [hlf, hgl, hkc]), HB.out⟩)
end Go.Proofs.YtkejippimkjjaaaGreatDoor
