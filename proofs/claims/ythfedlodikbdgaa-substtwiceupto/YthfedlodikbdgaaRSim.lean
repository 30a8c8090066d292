/-
  The document's calls Bot, Top, top, simpler and kept: for every table that calls made, and its numbers.
-/
import Derived.Test.YthfedlodikbdgaaROps
import Derived.Test.YthfedlodikbdgaaUPure
namespace Go.Proofs.Ythfedlodikbdgaa
open Go.RowKit Go.Maps
open Fm (Nd)

/-- The row of a number, in memory. -/
theorem tr_at {w : World} {c : Nat} {u : Value} {t : List Nd} (h : Tr w c u t) {i : Int} (hi : Fm.has t i = true) : ∃ g o cp, w.cell? ⟨c, 0, none⟩ = some (.slice (some ⟨g, o, none⟩) t.length cp) ∧ At4 w g (o + i.toNat * 4) (Sb.nd t i) ∧ (i.toNat : Int) = i ∧ i < (t.length : Int) := by
  obtain ⟨h0, h1⟩ := Fm.has_iff.1 hi
  obtain ⟨p, cp, rfl, _, _, hat⟩ := h.row.isR
  obtain ⟨g, o, rfl, hk⟩ := hat (by omega)
  refine ⟨g, o, cp, h.c0, ?_, by omega, h1⟩
  have := hk i.toNat (by omega)
  rw [Sb.nd_in hi, Ms.row_at (by omega)]
  exact this
section
variable {c : Nat} {u : Value} {t : List Nd}
set_option maxHeartbeats 1000000 in
theorem rBot_any (w : World) (h : Tr w c u t) (i : Int) (hi : Fm.has t i = true) :
    Calls Try.prog 77 #[.pointer (some ⟨c, 0, none⟩), .int .i64 i] w fun e w' => e = .returned (.bool (Sb.isF t i)) ∧ w' = w := by
  obtain ⟨g, o, cp, hc, hA, hn, hlt⟩ := tr_at h hi
  have hf : Sb.isF t i = ((Sb.nd t i).k == 2) := rfl
  rw [hf]
  generalize Sb.nd t i = x at *
  obtain ⟨xk, xs, xl, xr⟩ := x
  have a0 := hA.c0
  simp only at a0
  obtain ⟨k, rfl⟩ : ∃ k : Nat, i = k := ⟨i.toNat, hn.symm⟩
  rw [Int.toNat_natCast] at a0
  clear h hi hf hA hn
  go_enter Try.func77, Try.ntmps77
  go_wp2_with fail
  go_ret
  exact ⟨rfl, rfl⟩
set_option maxHeartbeats 2000000 in
theorem rTop_any (w : World) (h : Tr w c u t) (i : Int) (hi : Fm.has t i = true) :
    Calls Try.prog 78 #[.pointer (some ⟨c, 0, none⟩), .int .i64 i] w fun e w' => e = .returned (.bool (Sb.isT t i)) ∧ w' = w := by
  obtain ⟨g, o, cp, hc, hA, hn, hlt⟩ := tr_at h hi
  have KB := show Hid (∀ j : Int, Fm.has t j = true → Calls Try.prog 77 #[.pointer (some ⟨c, 0, none⟩), .int .i64 j] w fun e w' => e = .returned (.bool (Sb.isF t j)) ∧ w' = w) from fun j hj => rBot_any w h j hj
  have HF := show Hid (Sb.isT t i = ((Sb.nd t i).k == 5 && Sb.isF t (Sb.nd t i).l && Sb.isF t (Sb.nd t i).r)) from rfl
  have HP := show Hid (Fm.jn (Sb.nd t i).k = true → Fm.has t (Sb.nd t i).l = true ∧ Fm.has t (Sb.nd t i).r = true) from fun hj => by
    rw [Sb.nd_in hi] at hj ⊢
    have hb := Fm.has_iff.1 hi
    have hp := Ms.parts_lt h.ok (i := i.toNat) (by omega) hj
    exact ⟨Fm.has_iff.2 ⟨hp.2.2.1, by omega⟩, Fm.has_iff.2 ⟨hp.2.2.2, by omega⟩⟩
  generalize Sb.isT t i = ans at *
  generalize Sb.nd t i = x at *
  obtain ⟨xk, xs, xl, xr⟩ := x
  have a0 := hA.c0
  have a2 := hA.c2
  have a3 := hA.c3
  simp only at a0 a2 a3 HF HP
  obtain ⟨k, rfl⟩ : ∃ k : Nat, i = k := ⟨i.toNat, hn.symm⟩
  rw [Int.toNat_natCast] at a0 a2 a3
  clear h hi hA hn
  by_cases h5 : xk = 5
  · subst h5
    obtain ⟨hl, hr⟩ := HP.out rfl
    have K1 := show Hid _ from KB.out xl hl
    have K2 := show Hid _ from KB.out xr hr
    clear KB HP hl hr
    have ea := HF.out
    simp only [beq_self_eq_true, Bool.true_and] at ea
    subst ea
    clear HF
    cases h1 : Sb.isF t xl with
    | false =>
      rw [h1] at K1
      go_enter Try.func78, Try.ntmps78
      go_wp2_with fail
      refine Calls.mono K1.out ?_
      rintro e w' ⟨rfl, hw⟩
      subst w'
      go_wp2_with fail
      go_ret
      exact ⟨rfl, rfl⟩
    | true =>
      rw [h1] at K1
      cases h2 : Sb.isF t xr with
      | false =>
        rw [h2] at K2
        go_enter Try.func78, Try.ntmps78
        go_wp2_with fail
        refine Calls.mono K1.out ?_
        rintro e w' ⟨rfl, hw⟩
        subst w'
        go_wp2_with fail
        refine Calls.mono K2.out ?_
        rintro e w' ⟨rfl, hw⟩
        subst w'
        go_wp2_with fail
        go_ret
        exact ⟨rfl, rfl⟩
      | true =>
        rw [h2] at K2
        go_enter Try.func78, Try.ntmps78
        go_wp2_with fail
        refine Calls.mono K1.out ?_
        rintro e w' ⟨rfl, hw⟩
        subst w'
        go_wp2_with fail
        refine Calls.mono K2.out ?_
        rintro e w' ⟨rfl, hw⟩
        subst w'
        go_wp2_with fail
        go_ret
        exact ⟨rfl, rfl⟩
  · have hne : (xk == 5) = false := by simpa using h5
    have ea := HF.out
    rw [hne] at ea
    subst ea
    clear KB HP HF
    go_enter Try.func78, Try.ntmps78
    go_wp2_with fail
    go_ret
    exact ⟨rfl, rfl⟩
set_option maxHeartbeats 2000000 in
theorem rtop_any (w : World) (h : Tr w c u t) :
    Calls Try.prog 79 #[.pointer (some ⟨c, 0, none⟩)] w fun e w' => e = .returned (.tuple #[.int .i64 (Sb.truth t).1, .int .i64 (Sb.truth t).2.1]) ∧ AfterR w c u (Sb.truth t).2.2 w' := by
  have KB := show Hid (Calls Try.prog 96 #[.pointer (some ⟨c, 0, none⟩)] w fun e w' => e = .returned (.tuple #[.int .i64 (Fm.put t Fm.bot).1, .int .i64 (Fm.put t Fm.bot).2.1]) ∧ AfterR w c u (Fm.put t Fm.bot).2.2 w') from rbot_any w h
  have HI := show Hid (Fm.i64 (Fm.put t Fm.bot).1) from Fm.i64_small (Fm.put_id h.ok Fm.bot).1 (Fm.put_id h.ok Fm.bot).2
  have HTR := show Hid (Sb.truth t = if (Fm.put t Fm.bot).2.1 = 0 then Fm.put (Fm.put t Fm.bot).2.2 (joinN 5 (Fm.put t Fm.bot).1 (Fm.put t Fm.bot).1) else (0, (Fm.put t Fm.bot).2.1, (Fm.put t Fm.bot).2.2)) from rfl
  generalize Sb.truth t = ans at *
  generalize Fm.put t Fm.bot = r at *
  obtain ⟨x, e0, t1⟩ := r
  simp only at KB HI HTR
  clear h
  go_enter Try.func79, Try.ntmps79
  go_wp2_with fail
  refine KB.out.mono ?_
  rintro e w1 ⟨rfl, hA1⟩
  clear KB
  by_cases h0 : e0 = 0
  · subst h0
    have ea := HTR.out
    rw [if_pos rfl] at ea
    obtain ⟨v1, hT1, hL1, hK1⟩ := hA1
    have KI := show Hid (Calls Try.prog 97 #[.pointer (some ⟨c, 0, none⟩), .int .i64 x, .int .i64 x] w1 fun e w' => e = .returned (.tuple #[.int .i64 (Fm.put t1 (joinN 5 x x)).1, .int .i64 (Fm.put t1 (joinN 5 x x)).2.1]) ∧ AfterR w c u (Fm.put t1 (joinN 5 x x)).2.2 w') from (rimp_any w1 hT1 x x HI.out HI.out).mono fun e w' ⟨he, hA⟩ => ⟨he, AfterR.trans hL1 hK1 hA⟩
    have HEA := show Hid _ from ea
    clear hT1 hL1 hK1 HTR ea
    generalize Fm.put t1 (joinN 5 x x) = r2 at *
    go_wp2_with fail
    refine KI.out.mono ?_
    rintro e w2 ⟨rfl, hA2⟩
    have HA2 := show Hid _ from hA2
    clear KI hA2
    go_wp2_with fail
    go_ret2
    exact ⟨by rw [HEA.out]; rfl, by rw [HEA.out]; exact HA2.out⟩
  · have hne : (e0 != 0) = true := by simpa using h0
    have ea := HTR.out
    rw [if_neg h0] at ea
    subst ea
    have HA1 := show Hid _ from hA1
    clear hA1 HTR
    go_wp2_with fail
    go_ret2
    exact ⟨rfl, HA1.out⟩
set_option maxRecDepth 100000 in
set_option maxHeartbeats 16000000 in
theorem rsimpler_any (w : World) (h : Tr w c u t) (xk xl xr : Int) (hk : Fm.jn xk = true) (hl : Fm.has t xl = true) (hr : Fm.has t xr = true) :
    Calls Try.prog 58 #[.pointer (some ⟨c, 0, none⟩), .int .i64 xk, .int .i64 xl, .int .i64 xr] w fun e w' => e = .returned (.tuple #[.int .i64 (Sb.simF t ⟨xk, ⟨#[]⟩, xl, xr⟩).1, .int .i64 (Sb.simF t ⟨xk, ⟨#[]⟩, xl, xr⟩).2.1]) ∧ AfterR w c u (Sb.simF t ⟨xk, ⟨#[]⟩, xl, xr⟩).2.2 w' := by
  have hki : 0 ≤ xk ∧ xk ≤ 1024 := by
    unfold Fm.jn at hk
    simp only [Bool.or_eq_true, beq_iff_eq] at hk
    omega
  have KF := show Hid (∀ j : Int, Fm.has t j = true → Calls Try.prog 77 #[.pointer (some ⟨c, 0, none⟩), .int .i64 j] w fun e w' => e = .returned (.bool (Sb.isF t j)) ∧ w' = w) from fun j hj => rBot_any w h j hj
  have KT := show Hid (∀ j : Int, Fm.has t j = true → Calls Try.prog 78 #[.pointer (some ⟨c, 0, none⟩), .int .i64 j] w fun e w' => e = .returned (.bool (Sb.isT t j)) ∧ w' = w) from fun j hj => rTop_any w h j hj
  have KFl := show Hid _ from KF.out xl hl
  have KFr := show Hid _ from KF.out xr hr
  have KTl := show Hid _ from KT.out xl hl
  have KTr := show Hid _ from KT.out xr hr
  have KU := show Hid (Calls Try.prog 79 #[.pointer (some ⟨c, 0, none⟩)] w fun e w' => e = .returned (.tuple #[.int .i64 (Sb.truth t).1, .int .i64 (Sb.truth t).2.1]) ∧ AfterR w c u (Sb.truth t).2.2 w') from rtop_any w h
  have KP := show Hid (Calls Try.prog 43 #[.pointer (some ⟨c, 0, none⟩), .int .i64 xk, .int .i64 xl, .int .i64 xr] w fun e w' => e = .returned (.tuple #[.int .i64 (Fm.put t ⟨xk, ⟨#[]⟩, xl, xr⟩).1, .int .i64 (Fm.put t ⟨xk, ⟨#[]⟩, xl, xr⟩).2.1]) ∧ AfterR w c u (Fm.put t ⟨xk, ⟨#[]⟩, xl, xr⟩).2.2 w') from rtwo_any w h xk xl xr hki.1 hki.2 (Sb.has_i64 h.ok hl).2.2 (Sb.has_i64 h.ok hr).2.2
  have HA := show Hid (AfterR w c u t w) from AfterR.of_below h (Below.refl _ _)
  have HSF := show Hid (Sb.simF t ⟨xk, ⟨#[]⟩, xl, xr⟩ = if xk = 3 then (if Sb.isF t xl then (xl, 0, t) else if Sb.isF t xr || Sb.isT t xl then (xr, 0, t) else if Sb.isT t xr || xl == xr then (xl, 0, t) else Fm.put t ⟨xk, ⟨#[]⟩, xl, xr⟩)
      else if xk = 4 then (if Sb.isT t xl then (xl, 0, t) else if Sb.isT t xr || Sb.isF t xl then (xr, 0, t) else if Sb.isF t xr || xl == xr then (xl, 0, t) else Fm.put t ⟨xk, ⟨#[]⟩, xl, xr⟩)
      else if xk = 5 then (if Sb.isF t xl || Sb.isT t xr || xl == xr then Sb.truth t else if Sb.isT t xl then (xr, 0, t) else Fm.put t ⟨xk, ⟨#[]⟩, xl, xr⟩)
      else Fm.put t ⟨xk, ⟨#[]⟩, xl, xr⟩) from rfl
  have HK := show Hid (xk = 3 ∨ xk = 4 ∨ xk = 5) from by
    show xk = 3 ∨ xk = 4 ∨ xk = 5
    unfold Fm.jn at hk
    simp only [Bool.or_eq_true, beq_iff_eq] at hk
    omega
  clear KF KT h hl hr hk hki
  generalize Sb.simF t ⟨xk, ⟨#[]⟩, xl, xr⟩ = ans at *
  generalize Sb.truth t = tru at *
  generalize Fm.put t ⟨xk, ⟨#[]⟩, xl, xr⟩ = pu at *
  go_enter Try.func58, Try.ntmps58
  by_cases k3 : xk = 3
  · subst k3
    go_wp2_with fail
    refine Calls.mono KFl.out ?_
    rintro e wx ⟨rfl, hwx⟩
    subst wx
    clear KFl
    cases h4 : Sb.isF t xl with
    | true =>
      have HAN := show Hid (ans = (xl, 0, t)) from by show ans = _; rw [HSF.out]; simp [*]
      clear HSF HK
      go_wp2_with fail
      go_ret2
      exact ⟨by rw [HAN.out]; rfl, by rw [HAN.out]; exact HA.out⟩
    | false =>
      go_wp2_with fail
      refine Calls.mono KFr.out ?_
      rintro e wx ⟨rfl, hwx⟩
      subst wx
      clear KFr
      cases h6 : Sb.isF t xr with
      | true =>
        have HAN := show Hid (ans = (xr, 0, t)) from by show ans = _; rw [HSF.out]; simp [*]
        clear HSF HK
        go_wp2_with fail
        go_ret2
        exact ⟨by rw [HAN.out]; rfl, by rw [HAN.out]; exact HA.out⟩
      | false =>
        go_wp2_with fail
        refine Calls.mono KTl.out ?_
        rintro e wx ⟨rfl, hwx⟩
        subst wx
        clear KTl
        cases h8 : Sb.isT t xl with
        | true =>
          have HAN := show Hid (ans = (xr, 0, t)) from by show ans = _; rw [HSF.out]; simp [*]
          clear HSF HK
          go_wp2_with fail
          go_ret2
          exact ⟨by rw [HAN.out]; rfl, by rw [HAN.out]; exact HA.out⟩
        | false =>
          go_wp2_with fail
          refine Calls.mono KTr.out ?_
          rintro e wx ⟨rfl, hwx⟩
          subst wx
          clear KTr
          cases h10 : Sb.isT t xr with
          | true =>
            have HAN := show Hid (ans = (xl, 0, t)) from by show ans = _; rw [HSF.out]; simp [*]
            clear HSF HK
            go_wp2_with fail
            go_ret2
            exact ⟨by rw [HAN.out]; rfl, by rw [HAN.out]; exact HA.out⟩
          | false =>
            by_cases heq : xl = xr
            · subst heq
              have HAN := show Hid (ans = (xl, 0, t)) from by show ans = _; rw [HSF.out]; simp [*]
              clear HSF HK
              go_wp2_with fail
              go_ret2
              exact ⟨by rw [HAN.out]; rfl, by rw [HAN.out]; exact HA.out⟩
            · have hq : (xl == xr) = false := by simpa using heq
              have HAN := show Hid (ans = pu) from by show ans = _; rw [HSF.out]; simp [*]
              clear HSF HK
              go_wp2_with fail
              refine KP.out.mono ?_
              rintro e wz ⟨rfl, hAz⟩
              have HAZ := show Hid _ from hAz
              clear hAz
              go_wp2_with fail
              go_ret2
              exact ⟨by rw [HAN.out]; rfl, by rw [HAN.out]; exact HAZ.out⟩
  · have k3b : (xk == 3) = false := by simpa using k3
    by_cases k4 : xk = 4
    · subst k4
      go_wp2_with fail
      refine Calls.mono KTl.out ?_
      rintro e wx ⟨rfl, hwx⟩
      subst wx
      clear KTl
      cases h6 : Sb.isT t xl with
      | true =>
        have HAN := show Hid (ans = (xl, 0, t)) from by show ans = _; rw [HSF.out]; simp [*]
        clear HSF HK
        go_wp2_with fail
        go_ret2
        exact ⟨by rw [HAN.out]; rfl, by rw [HAN.out]; exact HA.out⟩
      | false =>
        go_wp2_with fail
        refine Calls.mono KTr.out ?_
        rintro e wx ⟨rfl, hwx⟩
        subst wx
        clear KTr
        cases h8 : Sb.isT t xr with
        | true =>
          have HAN := show Hid (ans = (xr, 0, t)) from by show ans = _; rw [HSF.out]; simp [*]
          clear HSF HK
          go_wp2_with fail
          go_ret2
          exact ⟨by rw [HAN.out]; rfl, by rw [HAN.out]; exact HA.out⟩
        | false =>
          go_wp2_with fail
          refine Calls.mono KFl.out ?_
          rintro e wx ⟨rfl, hwx⟩
          subst wx
          clear KFl
          cases h10 : Sb.isF t xl with
          | true =>
            have HAN := show Hid (ans = (xr, 0, t)) from by show ans = _; rw [HSF.out]; simp [*]
            clear HSF HK
            go_wp2_with fail
            go_ret2
            exact ⟨by rw [HAN.out]; rfl, by rw [HAN.out]; exact HA.out⟩
          | false =>
            go_wp2_with fail
            refine Calls.mono KFr.out ?_
            rintro e wx ⟨rfl, hwx⟩
            subst wx
            clear KFr
            cases h12 : Sb.isF t xr with
            | true =>
              have HAN := show Hid (ans = (xl, 0, t)) from by show ans = _; rw [HSF.out]; simp [*]
              clear HSF HK
              go_wp2_with fail
              go_ret2
              exact ⟨by rw [HAN.out]; rfl, by rw [HAN.out]; exact HA.out⟩
            | false =>
              by_cases heq : xl = xr
              · subst heq
                have HAN := show Hid (ans = (xl, 0, t)) from by show ans = _; rw [HSF.out]; simp [*]
                clear HSF HK
                go_wp2_with fail
                go_ret2
                exact ⟨by rw [HAN.out]; rfl, by rw [HAN.out]; exact HA.out⟩
              · have hq : (xl == xr) = false := by simpa using heq
                have HAN := show Hid (ans = pu) from by show ans = _; rw [HSF.out]; simp [*]
                clear HSF HK
                go_wp2_with fail
                refine KP.out.mono ?_
                rintro e wz ⟨rfl, hAz⟩
                have HAZ := show Hid _ from hAz
                clear hAz
                go_wp2_with fail
                go_ret2
                exact ⟨by rw [HAN.out]; rfl, by rw [HAN.out]; exact HAZ.out⟩
    · have k4b : (xk == 4) = false := by simpa using k4
      have k5 : xk = 5 := by have := HK.out; omega
      subst k5
      go_wp2_with fail
      refine Calls.mono KFl.out ?_
      rintro e wx ⟨rfl, hwx⟩
      subst wx
      clear KFl
      cases h6 : Sb.isF t xl with
      | true =>
        have HAN := show Hid (ans = tru) from by show ans = _; rw [HSF.out]; simp [*]
        clear HSF HK
        go_wp2_with fail
        refine KU.out.mono ?_
        rintro e wz ⟨rfl, hAz⟩
        have HAZ := show Hid _ from hAz
        clear hAz
        go_wp2_with fail
        go_ret2
        exact ⟨by rw [HAN.out]; rfl, by rw [HAN.out]; exact HAZ.out⟩
      | false =>
        go_wp2_with fail
        refine Calls.mono KTr.out ?_
        rintro e wx ⟨rfl, hwx⟩
        subst wx
        clear KTr
        cases h8 : Sb.isT t xr with
        | true =>
          have HAN := show Hid (ans = tru) from by show ans = _; rw [HSF.out]; simp [*]
          clear HSF HK
          go_wp2_with fail
          refine KU.out.mono ?_
          rintro e wz ⟨rfl, hAz⟩
          have HAZ := show Hid _ from hAz
          clear hAz
          go_wp2_with fail
          go_ret2
          exact ⟨by rw [HAN.out]; rfl, by rw [HAN.out]; exact HAZ.out⟩
        | false =>
          by_cases heq : xl = xr
          · subst heq
            have HAN := show Hid (ans = tru) from by show ans = _; rw [HSF.out]; simp [*]
            clear HSF HK
            go_wp2_with fail
            refine KU.out.mono ?_
            rintro e wz ⟨rfl, hAz⟩
            have HAZ := show Hid _ from hAz
            clear hAz
            go_wp2_with fail
            go_ret2
            exact ⟨by rw [HAN.out]; rfl, by rw [HAN.out]; exact HAZ.out⟩
          · have hq : (xl == xr) = false := by simpa using heq
            go_wp2_with fail
            refine Calls.mono KTl.out ?_
            rintro e wx ⟨rfl, hwx⟩
            subst wx
            clear KTl
            cases h12 : Sb.isT t xl with
            | true =>
              have HAN := show Hid (ans = (xr, 0, t)) from by show ans = _; rw [HSF.out]; simp [*]
              clear HSF HK
              go_wp2_with fail
              go_ret2
              exact ⟨by rw [HAN.out]; rfl, by rw [HAN.out]; exact HA.out⟩
            | false =>
              have HAN := show Hid (ans = pu) from by show ans = _; rw [HSF.out]; simp [*]
              clear HSF HK
              go_wp2_with fail
              refine KP.out.mono ?_
              rintro e wz ⟨rfl, hAz⟩
              have HAZ := show Hid _ from hAz
              clear hAz
              go_wp2_with fail
              go_ret2
              exact ⟨by rw [HAN.out]; rfl, by rw [HAN.out]; exact HAZ.out⟩
set_option maxHeartbeats 1000000 in
theorem kept_any (w : World) (h : Tr w c u t) (n x er : Int) :
    Calls Try.prog 44 #[.pointer (some ⟨c, 0, none⟩), .int .i64 n, .int .i64 x, .int .i64 er] w fun e w' => (er ≠ 0 → e = .returned (.tuple #[.int .i64 0, .int .i64 er]) ∧ AfterR w c u (cutR t n).2 w') ∧ (er = 0 → e = .returned (.tuple #[.int .i64 x, .int .i64 0]) ∧ w' = w) := by
  have KC := show Hid (Calls Try.prog 67 #[.pointer (some ⟨c, 0, none⟩), .int .i64 n] w fun e w' => e = .returned (.int .i64 (cutR t n).1) ∧ AfterR w c u (cutR t n).2 w') from rcut_any w h n
  generalize cutR t n = r at *
  clear h
  by_cases h0 : er = 0
  · subst h0
    go_enter Try.func44, Try.ntmps44
    go_wp2_with fail
    go_ret2
    exact ⟨fun h => absurd rfl h, fun _ => ⟨rfl, rfl⟩⟩
  · have hne : (er != 0) = true := by simpa using h0
    go_enter Try.func44, Try.ntmps44
    go_wp2_with fail
    refine KC.out.mono ?_
    rintro e w1 ⟨rfl, hA⟩
    have HA := show Hid _ from hA
    clear KC hA
    go_wp2_with fail
    go_ret2
    exact ⟨fun _ => ⟨rfl, HA.out⟩, fun h => absurd h h0⟩
end
end Go.Proofs.Ythfedlodikbdgaa
