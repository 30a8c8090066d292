/-
  The law MeasureSigns, as the program walks it: true for every row that a machine can hold and every two numbers. No other condition.
-/
import Derived.Test.YthdcppkohalkmaaGreatNLawG
namespace Go.Proofs.YthdcppkohalkmaaGreat
open Go.RowKit Go.Maps Go.Sort Go.Lib
open Fm (Nd)

set_option maxRecDepth 100000 in
set_option maxHeartbeats 8000000 in
theorem measureSigns_any (w : World) (rv : Value) (rs : List Nd) (hR : IsR w rv rs) (hg : ∀ n ∈ rs, Fm.good n) (hl : rs.length * 40 ≤ 140737488351232) (hv : rv = .slice none 0 0 ∨ ∃ a n c, rv = .slice (some a) n c) (pt x : Int) :
    Calls Tryz.prog 4 #[rv, .int .i64 pt, .int .i64 x] w fun e w' => e = .returned (.bool true) ∧ Below w.heap.size w w' := by
  have KT := show Hid (Calls Tryz.prog 7 #[rv] w fun e w' => ∃ B M v C u, e = .returned (.tuple #[.pointer (some ⟨B, 0, none⟩), .pointer (some ⟨C, 0, none⟩)]) ∧ Pair w w' B M v C u (tabOf rs) (tabOf rs)) from tables_any w rv rs hR hg hl hv
  have KH := show Hid (∀ w1 : World, Calls Tryz.prog 14 #[] w1 fun e w' => e = .returned (.bool true) ∧ Below w1.heap.size w1 w') from heads_any
  have KN := show Hid (∀ (w : World) (x : Int), Calls Tryz.prog 13 #[.int .i64 x] w fun e w' => e = .returned (.int .i64 x) ∧ w' = w) from num_any
  generalize tabOf rs = t at *
  have hsl : ∃ p n cc, rv = .slice p n cc := by
    rcases hv with rfl | ⟨a, n, cc, rfl⟩
    · exact ⟨_, _, _, rfl⟩
    · exact ⟨_, _, _, rfl⟩
  obtain ⟨p, n, cc, rfl⟩ := hsl
  clear hR hg hl hv
  go_enter Tryz.func4, Tryz.ntmps4
  go_wp2_with fail
  refine KT.out.mono ?_
  rintro e w1 ⟨B, M, v, C, u, rfl, hP⟩
  have hok := hP.tb.ok
  have HT := show Hid (∀ w', Below w1.heap.size w1 w' → Pair w w' B M v C u t t) from fun w' h => hP.later h
  have H1 := show Hid (Below w.heap.size w w1) from hP.bel
  clear KT hP
  obtain ⟨la, lp, ln, ft, hla, hlp, hln, k2, ka, ks⟩ := signs_both HT.out x
  have K2 := show Hid _ from k2
  have KA := show Hid (∀ w', Below w1.heap.size w1 w' → Calls Tryz.prog 22 #[.pointer (some ⟨B, 0, none⟩), .int .i64 x] w' fun e w'' => ∃ q c, e = .returned (.tuple #[.slice q la.length c, .int .i64 ft]) ∧ w''.ownsRow w'.heap.size 9 1 (.slice q la.length c) la.length (la.map encStr) ∧ Below w'.heap.size w' w'') from ka
  have KS := show Hid (∀ w', Below w1.heap.size w1 w' → Calls Tryz.prog 23 #[.pointer (some ⟨B, 0, none⟩), .int .i64 x] w' fun e w'' => ∃ q c q2 c2, e = .returned (.tuple #[.slice q lp.length c, .slice q2 ln.length c2, .int .i64 ft]) ∧ w''.ownsRow w'.heap.size 9 1 (.slice q lp.length c) lp.length (lp.map encStr) ∧ w''.ownsRow w'.heap.size 9 1 (.slice q2 ln.length c2) ln.length (ln.map encStr) ∧ Below w'.heap.size w' w'') from ks
  clear k2 ka ks
  have HWI := show Hid (∀ w', Below w1.heap.size w1 w' → Calls Tryz.prog 26 #[.pointer (some ⟨B, 0, none⟩), .int .i64 pt, .int .i64 x] w' fun e w'' => e = .returned (.bool (decide (0 < (occR t pt x).1 + (occR t pt x).2.1))) ∧ Below w'.heap.size w' w'') from fun w' hb => by
    have h := within_any w' (HT.out w' hb).tb pt x
    rw [within_occ hok] at h
    exact h
  have HOC := show Hid (∀ w', Below w1.heap.size w1 w' → Calls Tryz.prog 25 #[.pointer (some ⟨B, 0, none⟩), .int .i64 pt, .int .i64 x] w' fun e w'' => e = .returned (.tuple #[.int .i64 (occR t pt x).1, .int .i64 (occR t pt x).2.1, .int .i64 (occR t pt x).2.2]) ∧ Below w'.heap.size w' w'') from fun w' hb => occurs_any w' (HT.out w' hb).tb pt x
  have HRO := show Hid (∀ w', Below w1.heap.size w1 w' → Calls Tryz.prog 21 #[.pointer (some ⟨C, 0, none⟩), .int .i64 pt, .int .i64 x] w' fun e w'' => e = .returned (.tuple #[.int .i64 (occR t pt x).1, .int .i64 (occR t pt x).2.1, .int .i64 (occR t pt x).2.2]) ∧ Below w'.heap.size w' w'') from fun w' hb => roccurs_any w' (HT.out w' hb).tr pt x
  obtain ⟨⟨ho1, ho2⟩, ho3, ho4⟩ := occ_in t pt x
  clear HT hok
  generalize occR t pt x = oc at *
  obtain ⟨oa, ob, og⟩ := oc
  simp only at HWI HOC HRO ho1 ho2 ho3 ho4
  go_wp2_with fail
  refine Calls.mono K2.out ?_
  rintro e w2 ⟨hb2, va, vb, vc, rfl, hNa, hNb, hNc⟩
  have H2 := show Hid (Below w1.heap.size w1 w2) from hb2
  clear K2 hb2
  have K3 := show Hid _ from HRO.out w2 H2.out
  go_wp2_with fail
  refine Calls.mono K3.out ?_
  rintro e w3 ⟨rfl, hb3⟩
  have H3 := show Hid (Below w1.heap.size w1 w3) from H2.out.trans (hb3.mono H2.out.size)
  have HNM := show Hid (∀ w', Below w3.heap.size w3 w' → IsN w' va la ∧ IsN w' vb lp ∧ IsN w' vc ln) from fun w' h => ⟨(hNa.later hb3).later h, (hNb.later hb3).later h, (hNc.later hb3).later h⟩
  have HNE := show Hid (∀ (w : World) (va vb : Value) (a : List (List UInt8)), IsN w va a → IsN w vb a → Calls Tryz.prog 24 #[va, vb] w fun e w' => e = .returned (.bool true) ∧ Below w.heap.size w w') from rnames_eq
  obtain ⟨pa, ca, rfl⟩ : ∃ p c, va = .slice p la.length c := by obtain ⟨p, c, h, _⟩ := hNa; exact ⟨p, c, h⟩
  obtain ⟨pb, cb, rfl⟩ : ∃ p c, vb = .slice p lp.length c := by obtain ⟨p, c, h, _⟩ := hNb; exact ⟨p, c, h⟩
  obtain ⟨pc, cd, rfl⟩ : ∃ p c, vc = .slice p ln.length c := by obtain ⟨p, c, h, _⟩ := hNc; exact ⟨p, c, h⟩
  clear K3 hb3 H2 hNa hNb hNc HRO
  go_wp2_with fail
  go_loopw [16] (fun iv wr => ∃ k : Nat, k ≤ 2 ∧ iv = .int .i64 (k : Int) ∧ Hid (Below w3.heap.size w3 wr)) (fun iv _ => 2 - (intOf iv).toNat)
  case atStart => exact ⟨0, by omega, rfl, Below.refl _ _⟩
  case round =>
    obtain ⟨k, hk, rfl, HI⟩ := hrel
    by_cases hlt : k < 2
    · have hki : (k : Int) < 2 := by omega
      have K4 := show Hid _ from KA.out wr (H3.out.trans (HI.out.mono H3.out.size))
      clear KA
      go_wp2_with fail
      refine Calls.mono K4.out ?_
      rintro e w4 ⟨qx, cx, rfl, hox, hb4⟩
      have H4 := show Hid (Below w3.heap.size w3 w4 ∧ Below wr.heap.size wr w4) from ⟨HI.out.trans (hb4.mono HI.out.size), hb4⟩
      have K5 := show Hid _ from KS.out w4 (H3.out.trans (H4.out.1.mono H3.out.size))
      clear K4 KS hb4
      go_wp2_with fail
      refine Calls.mono K5.out ?_
      rintro e w5 ⟨qy, cy, qz, cz, rfl, hoy, hoz, hb5⟩
      have H5 := show Hid (Below w3.heap.size w3 w5 ∧ Below w4.heap.size w4 w5) from ⟨H4.out.1.trans (hb5.mono H4.out.1.size), hb5⟩
      have HXY := show Hid (w5.ownsRow wr.heap.size 9 1 (.slice qx la.length cx) la.length (la.map encStr) ∧ w5.ownsRow w4.heap.size 9 1 (.slice qy lp.length cy) lp.length (lp.map encStr) ∧ w5.ownsRow w4.heap.size 9 1 (.slice qz ln.length cz) ln.length (ln.map encStr)) from ⟨own_later hox hb5, hoy, hoz⟩
      have HAP := show Hid (∀ g, (Value.slice qx la.length cx).ownBlock = some g → (Value.slice qy lp.length cy).ownBlock ≠ some g) from fun g h1 h2 => by
        have a1 := (hox.lt g h1).2
        have a2 := (hoy.lt g h2).1
        omega
      clear K5 hb5 hox hoy hoz
      have K6 := show Hid _ from HNE.out w5 _ _ la (isN_own HXY.out.1 (by omega)) (HNM.out w5 H5.out.1).1
      go_wp2_with (go_at_call 13; refine (KN.out _ _).mono ?_; rintro e w' ⟨rfl, hw'⟩; subst w')
      refine Calls.mono K6.out ?_
      rintro e w6 ⟨rfl, hb6⟩
      have H6 := show Hid (Below w3.heap.size w3 w6 ∧ Below w5.heap.size w5 w6) from ⟨H5.out.1.trans (hb6.mono H5.out.1.size), hb6⟩
      clear K6 hb6
      have K7 := show Hid _ from HNE.out w6 _ _ lp (isN_own (own_later HXY.out.2.1 H6.out.2) (by omega)) (HNM.out w6 H6.out.1).2.1
      go_wp2_with fail
      refine Calls.mono K7.out ?_
      rintro e w7 ⟨rfl, hb7⟩
      have H7 := show Hid (Below w3.heap.size w3 w7 ∧ Below w5.heap.size w5 w7) from ⟨H6.out.1.trans (hb7.mono H6.out.1.size), H6.out.2.trans (hb7.mono H6.out.2.size)⟩
      clear K7 hb7 H6
      have K8 := show Hid _ from HNE.out w7 _ _ ln (isN_own (own_later HXY.out.2.2 H7.out.2) (by omega)) (HNM.out w7 H7.out.1).2.2
      go_wp2_with fail
      refine Calls.mono K8.out ?_
      rintro e w8 ⟨rfl, hb8⟩
      have H8 := show Hid (Below w3.heap.size w3 w8 ∧ Qn w8 wr.heap.size (.slice qx la.length cx) la.length ∧ Qn w8 w4.heap.size (.slice qy lp.length cy) lp.length) from
        ⟨H7.out.1.trans (hb8.mono H7.out.1.size), ⟨_, own_later HXY.out.1 (H7.out.2.trans (hb8.mono H7.out.2.size))⟩, ⟨_, own_later HXY.out.2.1 (H7.out.2.trans (hb8.mono H7.out.2.size))⟩⟩
      have hs3 : w3.heap.size ≤ wr.heap.size := HI.out.size
      have hs4 : w3.heap.size ≤ w4.heap.size := H4.out.1.size
      clear K8 hb8 H7 HXY H5 H4 HI HNM HNE HWI HOC KN KH
      go_wp2_with fail
      generalize wr.heap.size = so at *
      go_loopw [22] (fun iv wi => ∃ j : Nat, j ≤ la.length ∧ iv = .int .i64 (j : Int) ∧ Hid (Below w3.heap.size w3 wi ∧ Qn wi so (.slice qx la.length cx) la.length ∧ Qn wi w4.heap.size (.slice qy lp.length cy) lp.length)) (fun iv _ => la.length - (intOf iv).toNat)
      case atStart => exact ⟨0, by omega, rfl, H8⟩
      case round =>
        obtain ⟨j, hj, rfl, HJ⟩ := hrel
        clear H8
        by_cases hjl : j < la.length
        · have hji : (j : Int) < (la.length : Int) := by omega
          obtain ⟨g, s, rfl, hgB, hob, hcell, hfr, hset⟩ := HJ.out.2.1.at hjl
          have HJ2 := show Hid (Below w3.heap.size w3 (World.setCell _ ⟨g, j, none⟩ (.string ⟨#[63]⟩)) ∧ Qn (World.setCell _ ⟨g, j, none⟩ (.string ⟨#[63]⟩)) so (.slice (some ⟨g, 0, none⟩) la.length cx) la.length ∧ Qn (World.setCell _ ⟨g, j, none⟩ (.string ⟨#[63]⟩)) w4.heap.size (.slice qy lp.length cy) lp.length) from
            ⟨HJ.out.1.setCell (by show w3.heap.size ≤ g; omega) _, hset _, HJ.out.2.2.other (HAP.out g hob) j _⟩
          clear hset HJ
          go_wp2_with fail
          go_roundw
          case rel => exact ⟨j + 1, by omega, by go_num, HJ2⟩
          case measure => first | (simp [intOf]; done) | (simp [intOf]; omega)
        · have H9 := show Hid (Below w3.heap.size w3 _ ∧ Qn _ w4.heap.size (.slice qy lp.length cy) lp.length) from ⟨HJ.out.1, HJ.out.2.2⟩
          clear HJ HAP
          go_wp2_with fail
          go_loopw [23] (fun iv wi => ∃ j : Nat, j ≤ lp.length ∧ iv = .int .i64 (j : Int) ∧ Hid (Below w3.heap.size w3 wi ∧ Qn wi w4.heap.size (.slice qy lp.length cy) lp.length)) (fun iv _ => lp.length - (intOf iv).toNat)
          case atStart => exact ⟨0, by omega, rfl, H9⟩
          case round =>
            obtain ⟨i, hi, rfl, HJ⟩ := hrel
            clear H9
            by_cases hil : i < lp.length
            · have hii : (i : Int) < (lp.length : Int) := by omega
              obtain ⟨g, s, rfl, hgB, hob, hcell, hfr, hset⟩ := HJ.out.2.at hil
              have HJ2 := show Hid (Below w3.heap.size w3 (World.setCell _ ⟨g, i, none⟩ (.string ⟨#[63]⟩)) ∧ Qn (World.setCell _ ⟨g, i, none⟩ (.string ⟨#[63]⟩)) w4.heap.size (.slice (some ⟨g, 0, none⟩) lp.length cy) lp.length) from
                ⟨HJ.out.1.setCell (by show w3.heap.size ≤ g; omega) _, hset _⟩
              clear hset HJ
              go_wp2_with fail
              go_roundw
              case rel => exact ⟨i + 1, by omega, by go_num, HJ2⟩
              case measure => first | (simp [intOf]; done) | (simp [intOf]; omega)
            · have HF := show Hid (Below w3.heap.size w3 _) from HJ.out.1
              clear HJ
              go_wp2_with fail
              go_roundw
              case rel => exact ⟨k + 1, by omega, by go_num, HF⟩
              case measure => first | (simp [intOf]; done) | (simp [intOf]; omega)
    · have hki : ¬ (k : Int) < 2 := by omega
      clear KA KS HNM HNE
      have K9 := show Hid _ from HOC.out wr (H3.out.trans (HI.out.mono H3.out.size))
      go_wp2_with fail
      refine Calls.mono K9.out ?_
      rintro e w9 ⟨rfl, hb9⟩
      have H9 := show Hid (Below w1.heap.size w1 w9) from (H3.out.trans (HI.out.mono H3.out.size)).trans (hb9.mono (H3.out.trans (HI.out.mono H3.out.size)).size)
      clear K9 hb9 HOC HI H3
      have K10 := show Hid _ from HWI.out w9 H9.out
      by_cases hz : 0 < oa + ob
      · rw [decide_eq_true hz] at K10
        go_wp2_with (go_at_call 13; refine (KN.out _ _).mono ?_; rintro e w' ⟨rfl, hw'⟩; subst w')
        refine Calls.mono K10.out ?_
        rintro e w10 ⟨rfl, hb10⟩
        have H10 := show Hid (Below w1.heap.size w1 w10) from H9.out.trans (hb10.mono H9.out.size)
        clear K10 hb10 HWI H9 KN
        go_wp2_with fail
        refine (KH.out _).mono ?_
        rintro e w11 ⟨rfl, hb11⟩
        have HE := show Hid (Below w.heap.size w w11) from (H1.out.trans (H10.out.mono H1.out.size)).trans (hb11.mono (H1.out.trans (H10.out.mono H1.out.size)).size)
        clear hb11 H10 KH
        go_wp2_with fail
        go_ret
        exact ⟨rfl, HE.out⟩
      · rw [decide_eq_false hz] at K10
        go_wp2_with (go_at_call 13; refine (KN.out _ _).mono ?_; rintro e w' ⟨rfl, hw'⟩; subst w')
        refine Calls.mono K10.out ?_
        rintro e w10 ⟨rfl, hb10⟩
        have H10 := show Hid (Below w1.heap.size w1 w10) from H9.out.trans (hb10.mono H9.out.size)
        clear K10 hb10 HWI H9 KN
        go_wp2_with fail
        refine (KH.out _).mono ?_
        rintro e w11 ⟨rfl, hb11⟩
        have HE := show Hid (Below w.heap.size w w11) from (H1.out.trans (H10.out.mono H1.out.size)).trans (hb11.mono (H1.out.trans (H10.out.mono H1.out.size)).size)
        clear hb11 H10 KH
        go_wp2_with fail
        go_ret
        exact ⟨by show Ending.returned (.bool (!decide (0 < oa + ob))) = _; rw [decide_eq_false (Int.not_lt.2 hz)]; rfl, HE.out⟩
end Go.Proofs.YthdcppkohalkmaaGreat
