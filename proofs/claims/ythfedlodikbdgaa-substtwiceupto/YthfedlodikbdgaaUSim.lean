/-
  The calls isFalse, isTrue, truth, simpler and Simple: for every table that calls made, and all numbers.
-/
import Derived.Test.YthfedlodikbdgaaUPut
namespace Go.Proofs.Ythfedlodikbdgaa
open Go.RowKit Go.Maps
open Fm (Nd)

section
variable {b m : Nat} {v : Value} {t : List Nd}
set_option maxHeartbeats 1000000 in
theorem isFalse_any (w : World) (h : Tb w b m v t) (i : Int) :
    Calls Try.prog 74 #[.pointer (some ⟨b, 0, none⟩), .int .i64 i] w fun e w' => e = .returned (.bool (Sb.isF t i)) ∧ Below w.heap.size w w' := by
  obtain ⟨⟨nk, ns, nl, nr⟩, hn⟩ : ∃ n, n = nodeOf t i := ⟨_, rfl⟩
  have KN := show Hid (Calls Try.prog 28 #[.pointer (some ⟨b, 0, none⟩), .int .i64 i] w fun e w' => e = .returned (.tuple #[.agg #[.int .i64 nk, .string ns, .int .i64 nl, .int .i64 nr], .bool (Fm.has t i)]) ∧ Below w.heap.size w w') from by
    have h' := node_any w h i
    rw [← hn] at h'
    exact h'
  have hf : Sb.isF t i = (nk == 2) := by unfold Sb.isF; rw [show Sb.nd t i = nodeOf t i from rfl, ← hn]
  rw [hf]
  clear h hn hf
  generalize Fm.has t i = hh at *
  go_enter Try.func74, Try.ntmps74
  go_wp2_with fail
  refine KN.out.mono ?_
  rintro e w1 ⟨rfl, hb1⟩
  have HB := show Hid (Below w.heap.size w (w1.alloc (Obj.cells #[.int .i64 nk, .string ns, .int .i64 nl, .int .i64 nr] 59))) from hb1.alloc hb1.size _
  clear KN hb1
  go_wp2_with fail
  go_ret
  exact ⟨rfl, HB.out⟩
set_option maxHeartbeats 2000000 in
theorem isTrue_any (w : World) (h : Tb w b m v t) (i : Int) :
    Calls Try.prog 75 #[.pointer (some ⟨b, 0, none⟩), .int .i64 i] w fun e w' => e = .returned (.bool (Sb.isT t i)) ∧ Below w.heap.size w w' := by
  obtain ⟨⟨nk, ns, nl, nr⟩, hn⟩ : ∃ n, n = nodeOf t i := ⟨_, rfl⟩
  have KN := show Hid (Calls Try.prog 28 #[.pointer (some ⟨b, 0, none⟩), .int .i64 i] w fun e w' => e = .returned (.tuple #[.agg #[.int .i64 nk, .string ns, .int .i64 nl, .int .i64 nr], .bool (Fm.has t i)]) ∧ Below w.heap.size w w') from by
    have h' := node_any w h i
    rw [← hn] at h'
    exact h'
  have KF := show Hid (∀ w1, Below w.heap.size w w1 → ∀ j : Int, Calls Try.prog 74 #[.pointer (some ⟨b, 0, none⟩), .int .i64 j] w1 fun e w' => e = .returned (.bool (Sb.isF t j)) ∧ Below w1.heap.size w1 w') from fun w1 hb j => isFalse_any w1 (h.later hb) j
  have HF := show Hid (Sb.isT t i = (nk == 5 && Sb.isF t nl && Sb.isF t nr)) from by
    show Sb.isT t i = _
    unfold Sb.isT
    rw [show Sb.nd t i = nodeOf t i from rfl, ← hn]
  clear h hn
  generalize Sb.isT t i = ans at *
  generalize Fm.has t i = hh at *
  go_enter Try.func75, Try.ntmps75
  go_wp2_with fail
  refine KN.out.mono ?_
  rintro e w1 ⟨rfl, hb1⟩
  obtain ⟨w2, hw2⟩ : ∃ w2, w2 = w1.alloc (Obj.cells #[.int .i64 nk, .string ns, .int .i64 nl, .int .i64 nr] 59) := ⟨_, rfl⟩
  have HN := show Hid (N4 w2 w1.heap.size ⟨nk, ns, nl, nr⟩) from by rw [hw2]; exact heap_alloc_new _ _
  have HB := show Hid (Below w.heap.size w w2) from by rw [hw2]; exact hb1.alloc hb1.size _
  clear KN hb1
  by_cases h5 : nk = 5
  · subst h5
    have K1 := show Hid _ from KF.out w2 HB.out nl
    go_wp2_with fail
    rw [← hw2]
    refine Calls.mono K1.out ?_
    rintro e w3 ⟨rfl, hb3⟩
    have hN3 : N4 w3 w1.heap.size ⟨5, ns, nl, nr⟩ := (hb3.block _ (lt_of_block HN.out)).trans HN.out
    have HB3 := show Hid (Below w.heap.size w w3) from HB.out.trans (hb3.mono HB.out.size)
    have c3 := hN3.c3
    simp only at c3
    clear K1 hb3
    cases hl : Sb.isF t nl with
    | false =>
      have ea := HF.out
      rw [hl] at ea
      subst ea
      go_wp2_with fail
      go_ret
      exact ⟨rfl, HB3.out⟩
    | true =>
      have K2 := show Hid _ from KF.out w3 HB3.out nr
      rw [hl] at HF
      go_wp2_with fail
      refine Calls.mono K2.out ?_
      rintro e w4 ⟨rfl, hb4⟩
      have HB4 := show Hid (Below w.heap.size w w4) from HB3.out.trans (hb4.mono HB3.out.size)
      have ea := HF.out
      simp only [Bool.and_true, beq_self_eq_true, Bool.true_and] at ea
      subst ea
      clear K2 hb4
      go_wp2_with fail
      go_ret
      exact ⟨rfl, HB4.out⟩
  · have hne : (nk == 5) = false := by simpa using h5
    have ea := HF.out
    rw [hne] at ea
    subst ea
    go_wp2_with fail
    go_ret
    rw [← hw2]
    exact ⟨rfl, HB.out⟩
set_option maxHeartbeats 2000000 in
theorem truth_any (w : World) (h : Tb w b m v t) :
    Calls Try.prog 76 #[.pointer (some ⟨b, 0, none⟩)] w fun e w' => e = .returned (.tuple #[.int .i64 (Sb.truth t).1, .int .i64 (Sb.truth t).2.1]) ∧ After w b m v (Sb.truth t).2.2 w' := by
  have KB := show Hid (Calls Try.prog 95 #[.pointer (some ⟨b, 0, none⟩)] w fun e w' => e = .returned (.tuple #[.int .i64 (Fm.put t Fm.bot).1, .int .i64 (Fm.put t Fm.bot).2.1]) ∧ After w b m v (Fm.put t Fm.bot).2.2 w') from bot_any w h
  have HI := show Hid (Fm.i64 (Fm.put t Fm.bot).1) from Fm.i64_small (Fm.put_id h.ok Fm.bot).1 (Fm.put_id h.ok Fm.bot).2
  have HTR := show Hid (Sb.truth t = if (Fm.put t Fm.bot).2.1 = 0 then Fm.put (Fm.put t Fm.bot).2.2 (joinN 5 (Fm.put t Fm.bot).1 (Fm.put t Fm.bot).1) else (0, (Fm.put t Fm.bot).2.1, (Fm.put t Fm.bot).2.2)) from rfl
  generalize Sb.truth t = ans at *
  generalize Fm.put t Fm.bot = r at *
  obtain ⟨x, e0, t1⟩ := r
  simp only at KB HI HTR
  clear h
  go_enter Try.func76, Try.ntmps76
  go_wp2_with fail
  refine KB.out.mono ?_
  rintro e w1 ⟨rfl, hA1⟩
  clear KB
  by_cases h0 : e0 = 0
  · subst h0
    have ea := HTR.out
    rw [if_pos rfl] at ea
    obtain ⟨v1, hT1, hL1, hK1⟩ := hA1
    have KI := show Hid (Calls Try.prog 34 #[.pointer (some ⟨b, 0, none⟩), .int .i64 x, .int .i64 x] w1 fun e w' => e = .returned (.tuple #[.int .i64 (Fm.put t1 (joinN 5 x x)).1, .int .i64 (Fm.put t1 (joinN 5 x x)).2.1]) ∧ After w b m v (Fm.put t1 (joinN 5 x x)).2.2 w') from (imp_any w1 hT1 x x HI.out HI.out).mono fun e w' ⟨he, hA⟩ => ⟨he, After.trans hL1 hK1 hA⟩
    have HEA := show Hid _ from ea
    clear hT1 hL1 hK1 HTR ea
    generalize Fm.put t1 (joinN 5 x x) = r2 at *
    go_wp2_with fail
    refine KI.out.mono ?_
    rintro e w2 ⟨rfl, hA2⟩
    have HA2 := show Hid _ from hA2
    clear KI hA2
    go_wp2_with fail
    go_ret2
    exact ⟨by rw [HEA.out]; rfl, by rw [HEA.out]; exact HA2.out⟩
  · have hne : (e0 != 0) = true := by simpa using h0
    have ea := HTR.out
    rw [if_neg h0] at ea
    subst ea
    have HA1 := show Hid _ from hA1
    clear hA1 HTR
    go_wp2_with fail
    go_ret2
    exact ⟨rfl, HA1.out⟩
set_option maxRecDepth 100000 in
set_option maxHeartbeats 16000000 in
theorem simpler_any (w : World) (h : Tb w b m v t) (x : Nd) (hx : Fm.good x) :
    Calls Try.prog 57 #[.pointer (some ⟨b, 0, none⟩), ndV x] w fun e w' => e = .returned (.tuple #[.int .i64 (Sb.simF t x).1, .int .i64 (Sb.simF t x).2.1]) ∧ After w b m v (Sb.simF t x).2.2 w' := by
  obtain ⟨xk, xs, xl, xr⟩ := x
  obtain ⟨w1, hw1⟩ : ∃ w1, w1 = w.alloc (Obj.cells #[.int .i64 xk, .string xs, .int .i64 xl, .int .i64 xr] 59) := ⟨_, rfl⟩
  have hb1 : Below w.heap.size w w1 := by rw [hw1]; exact below_alloc _ _
  have hN1 : N4 w1 w.heap.size ⟨xk, xs, xl, xr⟩ := by rw [hw1]; exact heap_alloc_new _ _
  have HN := show Hid (∀ w2, Below w1.heap.size w1 w2 → N4 w2 w.heap.size ⟨xk, xs, xl, xr⟩) from fun w2 h2 => (h2.block _ (lt_of_block hN1)).trans hN1
  have KF := show Hid (∀ w2 (j : Int), Below w1.heap.size w1 w2 → Calls Try.prog 74 #[.pointer (some ⟨b, 0, none⟩), .int .i64 j] w2 fun e w' => e = .returned (.bool (Sb.isF t j)) ∧ Below w1.heap.size w1 w') from fun w2 j hb => (isFalse_any w2 ((h.later hb1).later hb) j).mono fun e w' ⟨he, hb'⟩ => ⟨he, hb.trans (hb'.mono hb.size)⟩
  have KT := show Hid (∀ w2 (j : Int), Below w1.heap.size w1 w2 → Calls Try.prog 75 #[.pointer (some ⟨b, 0, none⟩), .int .i64 j] w2 fun e w' => e = .returned (.bool (Sb.isT t j)) ∧ Below w1.heap.size w1 w') from fun w2 j hb => (isTrue_any w2 ((h.later hb1).later hb) j).mono fun e w' ⟨he, hb'⟩ => ⟨he, hb.trans (hb'.mono hb.size)⟩
  have KU := show Hid (∀ w2, Below w1.heap.size w1 w2 → Calls Try.prog 76 #[.pointer (some ⟨b, 0, none⟩)] w2 fun e w' => e = .returned (.tuple #[.int .i64 (Sb.truth t).1, .int .i64 (Sb.truth t).2.1]) ∧ After w b m v (Sb.truth t).2.2 w') from fun w2 hb => (truth_any w2 ((h.later hb1).later hb)).mono fun e w' ⟨he, hA⟩ => ⟨he, hA.from_below (hb1.trans (hb.mono hb1.size))⟩
  have KP := show Hid (∀ w2, Below w1.heap.size w1 w2 → Calls Try.prog 39 #[.pointer (some ⟨b, 0, none⟩), .agg #[.int .i64 xk, .string xs, .int .i64 xl, .int .i64 xr]] w2 fun e w' => e = .returned (.tuple #[.int .i64 (Fm.put t ⟨xk, xs, xl, xr⟩).1, .int .i64 (Fm.put t ⟨xk, xs, xl, xr⟩).2.1]) ∧ After w b m v (Fm.put t ⟨xk, xs, xl, xr⟩).2.2 w') from fun w2 hb => (put_any w2 ((h.later hb1).later hb) ⟨xk, xs, xl, xr⟩ hx).mono fun e w' ⟨he, hA⟩ => ⟨he, hA.from_below (hb1.trans (hb.mono hb1.size))⟩
  have HA := show Hid (∀ w2, Below w1.heap.size w1 w2 → After w b m v t w2) from fun w2 hb => After.of_below h (hb1.trans (hb.mono hb1.size))
  have HSF := show Hid (Sb.simF t ⟨xk, xs, xl, xr⟩ = if xk = 3 then (if Sb.isF t xl then (xl, 0, t) else if Sb.isF t xr || Sb.isT t xl then (xr, 0, t) else if Sb.isT t xr || xl == xr then (xl, 0, t) else Fm.put t ⟨xk, xs, xl, xr⟩)
      else if xk = 4 then (if Sb.isT t xl then (xl, 0, t) else if Sb.isT t xr || Sb.isF t xl then (xr, 0, t) else if Sb.isF t xr || xl == xr then (xl, 0, t) else Fm.put t ⟨xk, xs, xl, xr⟩)
      else if xk = 5 then (if Sb.isF t xl || Sb.isT t xr || xl == xr then Sb.truth t else if Sb.isT t xl then (xr, 0, t) else Fm.put t ⟨xk, xs, xl, xr⟩)
      else Fm.put t ⟨xk, xs, xl, xr⟩) from rfl
  have hbb : Below w1.heap.size w1 w1.drew := (Below.refl _ _).drew
  have hbc : Below w1.heap.size w1 w1 := Below.refl _ _
  unfold ndV
  clear h hb1 hN1 hx
  generalize Sb.simF t ⟨xk, xs, xl, xr⟩ = ans at *
  generalize Sb.truth t = tru at *
  generalize Fm.put t ⟨xk, xs, xl, xr⟩ = pu at *
  go_enter Try.func57, Try.ntmps57
  go_wp2_with fail
  rw [← hw1]
  clear hw1
  have c0 := (HN.out w1 hbc).c0
  have c2 := (HN.out w1 hbc).c2
  have c3 := (HN.out w1 hbc).c3
  simp only at c0 c2 c3
  go_region
  by_cases k3 : xk = 3
  · subst k3
    cases h4 : Sb.isF t xl with
    | true =>
      have HAN := show Hid (ans = (xl, 0, t)) from by show ans = _; rw [HSF.out]; simp [*]
      clear HSF
      go_wp2_with (first | (go_at_call 74; refine (KF.out _ _ (by assumption)).mono ?_; rintro e wx ⟨rfl, hbx⟩; have hNx := HN.out _ hbx; have d0 := hNx.c0; have d1 := hNx.c1; have d2 := hNx.c2; have d3 := hNx.c3; simp only at d0 d1 d2 d3) | (go_at_call 75; refine (KT.out _ _ (by assumption)).mono ?_; rintro e wx ⟨rfl, hbx⟩; have hNx := HN.out _ hbx; have d0 := hNx.c0; have d1 := hNx.c1; have d2 := hNx.c2; have d3 := hNx.c3; simp only at d0 d1 d2 d3))
      go_ret2
      exact ⟨by rw [HAN.out]; rfl, by rw [HAN.out]; exact HA.out _ (by assumption)⟩
    | false =>
      cases h6 : Sb.isF t xr with
      | true =>
        have HAN := show Hid (ans = (xr, 0, t)) from by show ans = _; rw [HSF.out]; simp [*]
        clear HSF
        go_wp2_with (first | (go_at_call 74; refine (KF.out _ _ (by assumption)).mono ?_; rintro e wx ⟨rfl, hbx⟩; have hNx := HN.out _ hbx; have d0 := hNx.c0; have d1 := hNx.c1; have d2 := hNx.c2; have d3 := hNx.c3; simp only at d0 d1 d2 d3) | (go_at_call 75; refine (KT.out _ _ (by assumption)).mono ?_; rintro e wx ⟨rfl, hbx⟩; have hNx := HN.out _ hbx; have d0 := hNx.c0; have d1 := hNx.c1; have d2 := hNx.c2; have d3 := hNx.c3; simp only at d0 d1 d2 d3))
        go_ret2
        exact ⟨by rw [HAN.out]; rfl, by rw [HAN.out]; exact HA.out _ (by assumption)⟩
      | false =>
        cases h8 : Sb.isT t xl with
        | true =>
          have HAN := show Hid (ans = (xr, 0, t)) from by show ans = _; rw [HSF.out]; simp [*]
          clear HSF
          go_wp2_with (first | (go_at_call 74; refine (KF.out _ _ (by assumption)).mono ?_; rintro e wx ⟨rfl, hbx⟩; have hNx := HN.out _ hbx; have d0 := hNx.c0; have d1 := hNx.c1; have d2 := hNx.c2; have d3 := hNx.c3; simp only at d0 d1 d2 d3) | (go_at_call 75; refine (KT.out _ _ (by assumption)).mono ?_; rintro e wx ⟨rfl, hbx⟩; have hNx := HN.out _ hbx; have d0 := hNx.c0; have d1 := hNx.c1; have d2 := hNx.c2; have d3 := hNx.c3; simp only at d0 d1 d2 d3))
          go_ret2
          exact ⟨by rw [HAN.out]; rfl, by rw [HAN.out]; exact HA.out _ (by assumption)⟩
        | false =>
          cases h10 : Sb.isT t xr with
          | true =>
            have HAN := show Hid (ans = (xl, 0, t)) from by show ans = _; rw [HSF.out]; simp [*]
            clear HSF
            go_wp2_with (first | (go_at_call 74; refine (KF.out _ _ (by assumption)).mono ?_; rintro e wx ⟨rfl, hbx⟩; have hNx := HN.out _ hbx; have d0 := hNx.c0; have d1 := hNx.c1; have d2 := hNx.c2; have d3 := hNx.c3; simp only at d0 d1 d2 d3) | (go_at_call 75; refine (KT.out _ _ (by assumption)).mono ?_; rintro e wx ⟨rfl, hbx⟩; have hNx := HN.out _ hbx; have d0 := hNx.c0; have d1 := hNx.c1; have d2 := hNx.c2; have d3 := hNx.c3; simp only at d0 d1 d2 d3))
            go_ret2
            exact ⟨by rw [HAN.out]; rfl, by rw [HAN.out]; exact HA.out _ (by assumption)⟩
          | false =>
            by_cases heq : xl = xr
            · subst heq
              have HAN := show Hid (ans = (xl, 0, t)) from by show ans = _; rw [HSF.out]; simp [*]
              clear HSF
              go_wp2_with (first | (go_at_call 74; refine (KF.out _ _ (by assumption)).mono ?_; rintro e wx ⟨rfl, hbx⟩; have hNx := HN.out _ hbx; have d0 := hNx.c0; have d1 := hNx.c1; have d2 := hNx.c2; have d3 := hNx.c3; simp only at d0 d1 d2 d3) | (go_at_call 75; refine (KT.out _ _ (by assumption)).mono ?_; rintro e wx ⟨rfl, hbx⟩; have hNx := HN.out _ hbx; have d0 := hNx.c0; have d1 := hNx.c1; have d2 := hNx.c2; have d3 := hNx.c3; simp only at d0 d1 d2 d3))
              go_ret2
              exact ⟨by rw [HAN.out]; rfl, by rw [HAN.out]; exact HA.out _ (by assumption)⟩
            · have hq : (xl == xr) = false := by simpa using heq
              have HAN := show Hid (ans = pu) from by show ans = _; rw [HSF.out]; simp [*]
              clear HSF
              go_wp2_with (first | (go_at_call 74; refine (KF.out _ _ (by assumption)).mono ?_; rintro e wx ⟨rfl, hbx⟩; have hNx := HN.out _ hbx; have d0 := hNx.c0; have d1 := hNx.c1; have d2 := hNx.c2; have d3 := hNx.c3; simp only at d0 d1 d2 d3) | (go_at_call 75; refine (KT.out _ _ (by assumption)).mono ?_; rintro e wx ⟨rfl, hbx⟩; have hNx := HN.out _ hbx; have d0 := hNx.c0; have d1 := hNx.c1; have d2 := hNx.c2; have d3 := hNx.c3; simp only at d0 d1 d2 d3))
              refine (KP.out _ (by assumption)).mono ?_
              rintro e wz ⟨rfl, hAz⟩
              have HAZ := show Hid _ from hAz
              clear hAz
              go_wp2_with fail
              go_ret2
              exact ⟨by rw [HAN.out]; rfl, by rw [HAN.out]; exact HAZ.out⟩
  · have k3b : (xk == 3) = false := by simpa using k3
    by_cases k4 : xk = 4
    · subst k4
      cases h6 : Sb.isT t xl with
      | true =>
        have HAN := show Hid (ans = (xl, 0, t)) from by show ans = _; rw [HSF.out]; simp [*]
        clear HSF
        go_wp2_with (first | (go_at_call 74; refine (KF.out _ _ (by assumption)).mono ?_; rintro e wx ⟨rfl, hbx⟩; have hNx := HN.out _ hbx; have d0 := hNx.c0; have d1 := hNx.c1; have d2 := hNx.c2; have d3 := hNx.c3; simp only at d0 d1 d2 d3) | (go_at_call 75; refine (KT.out _ _ (by assumption)).mono ?_; rintro e wx ⟨rfl, hbx⟩; have hNx := HN.out _ hbx; have d0 := hNx.c0; have d1 := hNx.c1; have d2 := hNx.c2; have d3 := hNx.c3; simp only at d0 d1 d2 d3))
        go_ret2
        exact ⟨by rw [HAN.out]; rfl, by rw [HAN.out]; exact HA.out _ (by assumption)⟩
      | false =>
        cases h8 : Sb.isT t xr with
        | true =>
          have HAN := show Hid (ans = (xr, 0, t)) from by show ans = _; rw [HSF.out]; simp [*]
          clear HSF
          go_wp2_with (first | (go_at_call 74; refine (KF.out _ _ (by assumption)).mono ?_; rintro e wx ⟨rfl, hbx⟩; have hNx := HN.out _ hbx; have d0 := hNx.c0; have d1 := hNx.c1; have d2 := hNx.c2; have d3 := hNx.c3; simp only at d0 d1 d2 d3) | (go_at_call 75; refine (KT.out _ _ (by assumption)).mono ?_; rintro e wx ⟨rfl, hbx⟩; have hNx := HN.out _ hbx; have d0 := hNx.c0; have d1 := hNx.c1; have d2 := hNx.c2; have d3 := hNx.c3; simp only at d0 d1 d2 d3))
          go_ret2
          exact ⟨by rw [HAN.out]; rfl, by rw [HAN.out]; exact HA.out _ (by assumption)⟩
        | false =>
          cases h10 : Sb.isF t xl with
          | true =>
            have HAN := show Hid (ans = (xr, 0, t)) from by show ans = _; rw [HSF.out]; simp [*]
            clear HSF
            go_wp2_with (first | (go_at_call 74; refine (KF.out _ _ (by assumption)).mono ?_; rintro e wx ⟨rfl, hbx⟩; have hNx := HN.out _ hbx; have d0 := hNx.c0; have d1 := hNx.c1; have d2 := hNx.c2; have d3 := hNx.c3; simp only at d0 d1 d2 d3) | (go_at_call 75; refine (KT.out _ _ (by assumption)).mono ?_; rintro e wx ⟨rfl, hbx⟩; have hNx := HN.out _ hbx; have d0 := hNx.c0; have d1 := hNx.c1; have d2 := hNx.c2; have d3 := hNx.c3; simp only at d0 d1 d2 d3))
            go_ret2
            exact ⟨by rw [HAN.out]; rfl, by rw [HAN.out]; exact HA.out _ (by assumption)⟩
          | false =>
            cases h12 : Sb.isF t xr with
            | true =>
              have HAN := show Hid (ans = (xl, 0, t)) from by show ans = _; rw [HSF.out]; simp [*]
              clear HSF
              go_wp2_with (first | (go_at_call 74; refine (KF.out _ _ (by assumption)).mono ?_; rintro e wx ⟨rfl, hbx⟩; have hNx := HN.out _ hbx; have d0 := hNx.c0; have d1 := hNx.c1; have d2 := hNx.c2; have d3 := hNx.c3; simp only at d0 d1 d2 d3) | (go_at_call 75; refine (KT.out _ _ (by assumption)).mono ?_; rintro e wx ⟨rfl, hbx⟩; have hNx := HN.out _ hbx; have d0 := hNx.c0; have d1 := hNx.c1; have d2 := hNx.c2; have d3 := hNx.c3; simp only at d0 d1 d2 d3))
              go_ret2
              exact ⟨by rw [HAN.out]; rfl, by rw [HAN.out]; exact HA.out _ (by assumption)⟩
            | false =>
              by_cases heq : xl = xr
              · subst heq
                have HAN := show Hid (ans = (xl, 0, t)) from by show ans = _; rw [HSF.out]; simp [*]
                clear HSF
                go_wp2_with (first | (go_at_call 74; refine (KF.out _ _ (by assumption)).mono ?_; rintro e wx ⟨rfl, hbx⟩; have hNx := HN.out _ hbx; have d0 := hNx.c0; have d1 := hNx.c1; have d2 := hNx.c2; have d3 := hNx.c3; simp only at d0 d1 d2 d3) | (go_at_call 75; refine (KT.out _ _ (by assumption)).mono ?_; rintro e wx ⟨rfl, hbx⟩; have hNx := HN.out _ hbx; have d0 := hNx.c0; have d1 := hNx.c1; have d2 := hNx.c2; have d3 := hNx.c3; simp only at d0 d1 d2 d3))
                go_ret2
                exact ⟨by rw [HAN.out]; rfl, by rw [HAN.out]; exact HA.out _ (by assumption)⟩
              · have hq : (xl == xr) = false := by simpa using heq
                have HAN := show Hid (ans = pu) from by show ans = _; rw [HSF.out]; simp [*]
                clear HSF
                go_wp2_with (first | (go_at_call 74; refine (KF.out _ _ (by assumption)).mono ?_; rintro e wx ⟨rfl, hbx⟩; have hNx := HN.out _ hbx; have d0 := hNx.c0; have d1 := hNx.c1; have d2 := hNx.c2; have d3 := hNx.c3; simp only at d0 d1 d2 d3) | (go_at_call 75; refine (KT.out _ _ (by assumption)).mono ?_; rintro e wx ⟨rfl, hbx⟩; have hNx := HN.out _ hbx; have d0 := hNx.c0; have d1 := hNx.c1; have d2 := hNx.c2; have d3 := hNx.c3; simp only at d0 d1 d2 d3))
                refine (KP.out _ (by assumption)).mono ?_
                rintro e wz ⟨rfl, hAz⟩
                have HAZ := show Hid _ from hAz
                clear hAz
                go_wp2_with fail
                go_ret2
                exact ⟨by rw [HAN.out]; rfl, by rw [HAN.out]; exact HAZ.out⟩
    · have k4b : (xk == 4) = false := by simpa using k4
      by_cases k5 : xk = 5
      · subst k5
        cases h8 : Sb.isF t xl with
        | true =>
          have HAN := show Hid (ans = tru) from by show ans = _; rw [HSF.out]; simp [*]
          clear HSF
          go_wp2_with (first | (go_at_call 74; refine (KF.out _ _ (by assumption)).mono ?_; rintro e wx ⟨rfl, hbx⟩; have hNx := HN.out _ hbx; have d0 := hNx.c0; have d1 := hNx.c1; have d2 := hNx.c2; have d3 := hNx.c3; simp only at d0 d1 d2 d3) | (go_at_call 75; refine (KT.out _ _ (by assumption)).mono ?_; rintro e wx ⟨rfl, hbx⟩; have hNx := HN.out _ hbx; have d0 := hNx.c0; have d1 := hNx.c1; have d2 := hNx.c2; have d3 := hNx.c3; simp only at d0 d1 d2 d3))
          refine (KU.out _ (by assumption)).mono ?_
          rintro e wz ⟨rfl, hAz⟩
          have HAZ := show Hid _ from hAz
          clear hAz
          go_wp2_with fail
          go_ret2
          exact ⟨by rw [HAN.out]; rfl, by rw [HAN.out]; exact HAZ.out⟩
        | false =>
          cases h10 : Sb.isT t xr with
          | true =>
            have HAN := show Hid (ans = tru) from by show ans = _; rw [HSF.out]; simp [*]
            clear HSF
            go_wp2_with (first | (go_at_call 74; refine (KF.out _ _ (by assumption)).mono ?_; rintro e wx ⟨rfl, hbx⟩; have hNx := HN.out _ hbx; have d0 := hNx.c0; have d1 := hNx.c1; have d2 := hNx.c2; have d3 := hNx.c3; simp only at d0 d1 d2 d3) | (go_at_call 75; refine (KT.out _ _ (by assumption)).mono ?_; rintro e wx ⟨rfl, hbx⟩; have hNx := HN.out _ hbx; have d0 := hNx.c0; have d1 := hNx.c1; have d2 := hNx.c2; have d3 := hNx.c3; simp only at d0 d1 d2 d3))
            refine (KU.out _ (by assumption)).mono ?_
            rintro e wz ⟨rfl, hAz⟩
            have HAZ := show Hid _ from hAz
            clear hAz
            go_wp2_with fail
            go_ret2
            exact ⟨by rw [HAN.out]; rfl, by rw [HAN.out]; exact HAZ.out⟩
          | false =>
            by_cases heq : xl = xr
            · subst heq
              have HAN := show Hid (ans = tru) from by show ans = _; rw [HSF.out]; simp [*]
              clear HSF
              go_wp2_with (first | (go_at_call 74; refine (KF.out _ _ (by assumption)).mono ?_; rintro e wx ⟨rfl, hbx⟩; have hNx := HN.out _ hbx; have d0 := hNx.c0; have d1 := hNx.c1; have d2 := hNx.c2; have d3 := hNx.c3; simp only at d0 d1 d2 d3) | (go_at_call 75; refine (KT.out _ _ (by assumption)).mono ?_; rintro e wx ⟨rfl, hbx⟩; have hNx := HN.out _ hbx; have d0 := hNx.c0; have d1 := hNx.c1; have d2 := hNx.c2; have d3 := hNx.c3; simp only at d0 d1 d2 d3))
              refine (KU.out _ (by assumption)).mono ?_
              rintro e wz ⟨rfl, hAz⟩
              have HAZ := show Hid _ from hAz
              clear hAz
              go_wp2_with fail
              go_ret2
              exact ⟨by rw [HAN.out]; rfl, by rw [HAN.out]; exact HAZ.out⟩
            · have hq : (xl == xr) = false := by simpa using heq
              cases h14 : Sb.isT t xl with
              | true =>
                have HAN := show Hid (ans = (xr, 0, t)) from by show ans = _; rw [HSF.out]; simp [*]
                clear HSF
                go_wp2_with (first | (go_at_call 74; refine (KF.out _ _ (by assumption)).mono ?_; rintro e wx ⟨rfl, hbx⟩; have hNx := HN.out _ hbx; have d0 := hNx.c0; have d1 := hNx.c1; have d2 := hNx.c2; have d3 := hNx.c3; simp only at d0 d1 d2 d3) | (go_at_call 75; refine (KT.out _ _ (by assumption)).mono ?_; rintro e wx ⟨rfl, hbx⟩; have hNx := HN.out _ hbx; have d0 := hNx.c0; have d1 := hNx.c1; have d2 := hNx.c2; have d3 := hNx.c3; simp only at d0 d1 d2 d3))
                go_ret2
                exact ⟨by rw [HAN.out]; rfl, by rw [HAN.out]; exact HA.out _ (by assumption)⟩
              | false =>
                have HAN := show Hid (ans = pu) from by show ans = _; rw [HSF.out]; simp [*]
                clear HSF
                go_wp2_with (first | (go_at_call 74; refine (KF.out _ _ (by assumption)).mono ?_; rintro e wx ⟨rfl, hbx⟩; have hNx := HN.out _ hbx; have d0 := hNx.c0; have d1 := hNx.c1; have d2 := hNx.c2; have d3 := hNx.c3; simp only at d0 d1 d2 d3) | (go_at_call 75; refine (KT.out _ _ (by assumption)).mono ?_; rintro e wx ⟨rfl, hbx⟩; have hNx := HN.out _ hbx; have d0 := hNx.c0; have d1 := hNx.c1; have d2 := hNx.c2; have d3 := hNx.c3; simp only at d0 d1 d2 d3))
                refine (KP.out _ (by assumption)).mono ?_
                rintro e wz ⟨rfl, hAz⟩
                have HAZ := show Hid _ from hAz
                clear hAz
                go_wp2_with fail
                go_ret2
                exact ⟨by rw [HAN.out]; rfl, by rw [HAN.out]; exact HAZ.out⟩
      · have k5b : (xk == 5) = false := by simpa using k5
        have d1 := (HN.out w1 hbc).c1
        simp only at d1
        have HAN := show Hid (ans = pu) from by show ans = _; rw [HSF.out]; simp [*]
        clear HSF
        go_wp2_with (first | (go_at_call 74; refine (KF.out _ _ (by assumption)).mono ?_; rintro e wx ⟨rfl, hbx⟩; have hNx := HN.out _ hbx; have d0 := hNx.c0; have d1 := hNx.c1; have d2 := hNx.c2; have d3 := hNx.c3; simp only at d0 d1 d2 d3) | (go_at_call 75; refine (KT.out _ _ (by assumption)).mono ?_; rintro e wx ⟨rfl, hbx⟩; have hNx := HN.out _ hbx; have d0 := hNx.c0; have d1 := hNx.c1; have d2 := hNx.c2; have d3 := hNx.c3; simp only at d0 d1 d2 d3))
        refine (KP.out _ (by assumption)).mono ?_
        rintro e wz ⟨rfl, hAz⟩
        have HAZ := show Hid _ from hAz
        clear hAz
        go_wp2_with fail
        go_ret2
        exact ⟨by rw [HAN.out]; rfl, by rw [HAN.out]; exact HAZ.out⟩
set_option maxHeartbeats 2000000 in
theorem simC_any (w : World) (h : Tb w b m v t) (tB : Nat) (ht : w.cell? ⟨tB, 0, none⟩ = some (.pointer (some ⟨b, 0, none⟩))) (i : Nat) (x : Nd) (hx : Fm.good x) :
    Calls Try.prog 56 #[.int .i64 (i : Int), ndV x, .pointer (some ⟨tB, 0, none⟩)] w fun e w' => e = .returned (.tuple #[.int .i64 (Sb.simF t x).1, .int .i64 (Sb.simF t x).2.1]) ∧ After w b m v (Sb.simF t x).2.2 w' := by
  obtain ⟨xk, xs, xl, xr⟩ := x
  obtain ⟨w1, hw1⟩ : ∃ w1, w1 = w.alloc (Obj.cells #[.int .i64 xk, .string xs, .int .i64 xl, .int .i64 xr] 59) := ⟨_, rfl⟩
  have hb1 : Below w.heap.size w w1 := by rw [hw1]; exact below_alloc _ _
  have ht1 : w1.cell? ⟨tB, 0, none⟩ = some (.pointer (some ⟨b, 0, none⟩)) := (Kp.of_below (S := fun _ => False) hb1).cell ht (fun h => h)
  have KP := show Hid (Calls Try.prog 57 #[.pointer (some ⟨b, 0, none⟩), .agg #[.int .i64 xk, .string xs, .int .i64 xl, .int .i64 xr]] w1 fun e w' => e = .returned (.tuple #[.int .i64 (Sb.simF t ⟨xk, xs, xl, xr⟩).1, .int .i64 (Sb.simF t ⟨xk, xs, xl, xr⟩).2.1]) ∧ After w1 b m v (Sb.simF t ⟨xk, xs, xl, xr⟩).2.2 w') from simpler_any w1 (h.later hb1) ⟨xk, xs, xl, xr⟩ hx
  have HB := show Hid (Below w.heap.size w w1) from hb1
  unfold ndV
  rw [hw1] at ht1
  clear h hb1
  generalize Sb.simF t ⟨xk, xs, xl, xr⟩ = r at *
  go_enter Try.func56, Try.ntmps56
  go_wp2_with fail
  rw [← hw1]
  refine KP.out.mono ?_
  rintro e w2 ⟨rfl, hA⟩
  have HA := show Hid (After w b m v r.2.2 w2) from hA.from_below HB.out
  clear KP hA
  go_wp2_with fail
  go_ret2
  exact ⟨rfl, HA.out⟩
set_option maxRecDepth 100000 in
set_option maxHeartbeats 4000000 in
theorem Simple_any (w : World) (h : Tb w b m v t) (id : Int) :
    Calls Try.prog 21 #[.pointer (some ⟨b, 0, none⟩), .int .i64 id] w fun e w' => e = .returned (.tuple #[.int .i64 (Sb.simR t id).1, .int .i64 (Sb.simR t id).2.1]) ∧ After w b m v (Sb.simR t id).2.2 w' := by
  have HTB := show Hid (Tb w b m v t) from h
  have HPR := show Hid ((Sb.refR t [id] = 31 → Sb.simR t id = (0, 31, t)) ∧ (Sb.refR t [id] = 0 → Sb.simR t id = Sb.anew (fun t _ n => Sb.simF t n) t id.toNat)) from by
    refine ⟨fun h => ?_, fun h1 => ?_⟩
    · unfold Sb.simR; rw [h]; rfl
    · unfold Sb.simR; rw [if_pos h1]
  obtain ⟨w0, hw0⟩ : ∃ w0, w0 = w.alloc (Obj.cells #[.pointer (some ⟨b, 0, none⟩)] 24) := ⟨_, rfl⟩
  obtain ⟨w1, hw1⟩ : ∃ w1, w1 = (w.alloc (Obj.cells #[.pointer (some ⟨b, 0, none⟩)] 24)).alloc (Obj.cells #[.int .i64 id] 3) := ⟨_, rfl⟩
  have hb0 : Below w.heap.size w w0 := by rw [hw0]; exact below_alloc w _
  have hs0 : w0.heap.size = w.heap.size + 1 := by rw [hw0]; simp
  have hw01 : w1 = w0.alloc (Obj.cells #[.int .i64 id] 3) := by rw [hw1, hw0]
  have hb01 : Below w0.heap.size w0 w1 := by rw [hw01]; exact below_alloc _ _
  have hb1 : Below w.heap.size w w1 := hb0.trans (hb01.mono hb0.size)
  have hIL : IsL w1 (.slice (some ⟨w.heap.size + 1, 0, none⟩) 1 1) [id] := by rw [hw01, ← hs0]; exact isL1 w0 id
  have hct : w1.cell? ⟨w.heap.size, 0, none⟩ = some (.pointer (some ⟨b, 0, none⟩)) := by rw [hw1]; simp [go_sem, World.cell?_alloc_past]
  have KR := show Hid (Calls Try.prog 35 #[.pointer (some ⟨b, 0, none⟩), .slice (some ⟨w.heap.size + 1, 0, none⟩) 1 1] w1 fun e w' => e = .returned (.int .i64 (Sb.refR t [id])) ∧ Below w1.heap.size w1 w') from refused_any w1 (h.later hb1) _ _ hIL
  have HR := show Hid _ from refR_vals t [id]
  have HCC := show Hid (∀ w2, Below w1.heap.size w1 w2 → w2.cell? ⟨w.heap.size, 0, none⟩ = some (.pointer (some ⟨b, 0, none⟩))) from fun w2 h2 => (Kp.of_below (S := fun _ => False) h2).cell hct (fun h => h)
  have HB1 := show Hid (Below w.heap.size w w1) from hb1
  clear hct hIL hb1 hb01 hw01 hb0 hw0 hs0 h
  generalize Sb.refR t [id] = rr at *
  generalize Sb.simR t id = ans at *
  go_enter Try.func21, Try.ntmps21
  go_wp2_with fail
  rw [← hw1]
  refine KR.out.mono ?_
  rintro e w2 ⟨rfl, hb2⟩
  have HB2 := show Hid (Below w.heap.size w w2) from HB1.out.trans (hb2.mono HB1.out.size)
  have hct := HCC.out w2 hb2
  clear KR
  rcases HR.out with ⟨h0, hin⟩ | h31
  · subst h0
    have ha := HPR.out.2 (by simp)
    obtain ⟨hi0, hi1⟩ := Fm.has_iff.1 (hin id (by simp))
    obtain ⟨idn, rfl⟩ : ∃ idn : Nat, id = idn := ⟨id.toNat, by omega⟩
    rw [Int.toNat_natCast] at ha
    have KA := show Hid (Calls Try.prog 37 #[.pointer (some ⟨b, 0, none⟩), .int .i64 (idn : Int), .func (.func 56) #[] #[.pointer (some ⟨w.heap.size, 0, none⟩)]] w2 fun e w' => e = .returned (.tuple #[.int .i64 (Sb.anew (fun t _ n => Sb.simF t n) t idn).1, .int .i64 (Sb.anew (fun t _ n => Sb.simF t n) t idn).2.1]) ∧ After w2 b m v (Sb.anew (fun t _ n => Sb.simF t n) t idn).2.2 w') from
      anew_any w2 (HTB.out.later HB2.out) idn (by omega) 56 [.pointer (some ⟨w.heap.size, 0, none⟩)] (fun _ _ => Try.call56 _ _) (fun t _ n => Sb.simF t n) (Sb.simF_fair t) (by
        intro w5 v5 t5 i x hk5 hT5 hL5 _ _ hx _
        have hout : ∀ j, w.heap.size ≤ j → ¬ Ft b m v j := fun j hj hf => by have := HTB.out.foot j hf; omega
        exact simC_any w5 hT5 w.heap.size (hk5.cell hct (hout _ (Nat.le_refl _))) i x hx)
    have HAN := show Hid _ from ha
    clear hin HPR HR ha HCC
    generalize Sb.anew (fun t _ n => Sb.simF t n) t idn = r at *
    go_wp2_with fail
    refine KA.out.mono ?_
    rintro e w5 ⟨rfl, hA5⟩
    have HA5 := show Hid (After w b m v r.2.2 w5) from hA5.from_below HB2.out
    clear KA hA5 hct
    go_wp2_with fail
    go_ret2
    exact ⟨by rw [HAN.out]; rfl, by rw [HAN.out]; exact HA5.out⟩
  · subst h31
    have ha := HPR.out.1 (by simp)
    have HA := show Hid (After w b m v t w2) from After.of_below HTB.out HB2.out
    subst ha
    clear HPR HR HCC hct
    go_wp2_with fail
    go_ret2
    exact ⟨rfl, HA.out⟩
end
end Go.Proofs.Ythfedlodikbdgaa
