/-
  The law MeasureSums, as the program walks it: true for every row that a machine can hold and every number. No other condition.
-/
import Derived.Test.YthdcppkohalkmaaGreatMHeads
import Derived.Test.YthdcppkohalkmaaGreatMTabs
import Derived.Test.YthdcppkohalkmaaGreatMSumP
namespace Go.Proofs.YthdcppkohalkmaaGreat
open Go.RowKit Go.Maps Go.Sort Go.Lib
open Fm (Nd)

set_option maxRecDepth 100000 in
set_option maxHeartbeats 8000000 in
theorem measureSums_any (w : World) (rv : Value) (rs : List Nd) (hR : IsR w rv rs) (hg : ∀ n ∈ rs, Fm.good n) (hl : rs.length * 40 ≤ 140737488351232) (hv : rv = .slice none 0 0 ∨ ∃ a n c, rv = .slice (some a) n c) (x : Int) :
    Calls Tryz.prog 6 #[rv, .int .i64 x] w fun e w' => e = .returned (.bool true) ∧ Below w.heap.size w w' := by
  have KT := show Hid (Calls Tryz.prog 7 #[rv] w fun e w' => ∃ B M v C, e = .returned (.tuple #[.pointer (some ⟨B, 0, none⟩), .pointer (some ⟨C, 0, none⟩)]) ∧ Tb w' B M v (tabOf rs) ∧ Below w.heap.size w w') from (tables_any w rv rs hR hg hl hv).mono fun e w' ⟨B, M, v, C, u, he, hp⟩ => ⟨B, M, v, C, he, hp.tb, hp.bel⟩
  have KH := show Hid (∀ w1 : World, Calls Tryz.prog 14 #[] w1 fun e w' => e = .returned (.bool true) ∧ Below w1.heap.size w1 w') from heads_any
  have KN := show Hid (∀ (w : World) (x : Int), Calls Tryz.prog 13 #[.int .i64 x] w fun e w' => e = .returned (.int .i64 x) ∧ w' = w) from num_any
  generalize tabOf rs = t at *
  have hsl : ∃ p n cc, rv = .slice p n cc := by
    rcases hv with rfl | ⟨a, n, cc, rfl⟩
    · exact ⟨_, _, _, rfl⟩
    · exact ⟨_, _, _, rfl⟩
  obtain ⟨p, n, cc, rfl⟩ := hsl
  clear hR hg hl hv
  go_enter Tryz.func6, Tryz.ntmps6
  go_wp2_with fail
  refine KT.out.mono ?_
  rintro e w1 ⟨B, M, v, C, rfl, hT, hb1⟩
  have hok := hT.ok
  have hlen := hok.len
  have HT := show Hid (∀ w', Below w1.heap.size w1 w' → Tb w' B M v t) from fun w' h => hT.later h
  have H1 := show Hid (Below w.heap.size w w1 ∧ Below w1.heap.size w1 w1) from ⟨hb1, Below.refl _ _⟩
  clear KT hT hb1
  have K2 := show Hid (Calls Tryz.prog 10 #[.pointer (some ⟨B, 0, none⟩), .int .i64 x] w1 fun e w' => e = .returned (.tuple #[.int .i64 (cntR t (Ms.weightV t) x).1, .int .i64 (cntR t (Ms.weightV t) x).2]) ∧ Below w1.heap.size w1 w') from Weight_any w1 (HT.out w1 H1.out.2) x
  go_wp2_with fail
  refine K2.out.mono ?_
  rintro e w2 ⟨rfl, hb2⟩
  have H2 := show Hid (Below w.heap.size w w2 ∧ Below w1.heap.size w1 w2) from ⟨H1.out.1.trans (hb2.mono H1.out.1.size), H1.out.2.trans (hb2.mono H1.out.2.size)⟩
  clear K2 hb2 H1
  have K3 := show Hid (Calls Tryz.prog 8 #[.pointer (some ⟨B, 0, none⟩), .int .i64 x] w2 fun e w' => e = .returned (.tuple #[.int .i64 (cntR t (Ms.sizeV t) x).1, .int .i64 (cntR t (Ms.sizeV t) x).2]) ∧ Below w2.heap.size w2 w') from Size_any w2 (HT.out w2 H2.out.2) x
  go_wp2_with fail
  refine K3.out.mono ?_
  rintro e w3 ⟨rfl, hb3⟩
  have H3 := show Hid (Below w.heap.size w w3 ∧ Below w1.heap.size w1 w3) from ⟨H2.out.1.trans (hb3.mono H2.out.1.size), H2.out.2.trans (hb3.mono H2.out.2.size)⟩
  clear K3 hb3 H2
  have K4 := show Hid (Calls Tryz.prog 9 #[.pointer (some ⟨B, 0, none⟩), .int .i64 x] w3 fun e w' => e = .returned (.tuple #[.int .i64 (cntR t (Ms.depthV t) x).1, .int .i64 (cntR t (Ms.depthV t) x).2]) ∧ Below w3.heap.size w3 w') from Depth_any w3 (HT.out w3 H3.out.2) x
  go_wp2_with fail
  refine K4.out.mono ?_
  rintro e w4 ⟨rfl, hb4⟩
  have H4 := show Hid (Below w.heap.size w w4 ∧ Below w1.heap.size w1 w4) from ⟨H3.out.1.trans (hb4.mono H3.out.1.size), H3.out.2.trans (hb4.mono H3.out.2.size)⟩
  clear K4 hb4 H3
  by_cases hh : Fm.has t x = true
  · obtain ⟨hx0, hx1⟩ := Fm.has_iff.1 hh
    obtain ⟨j, rfl⟩ : ∃ j : Nat, x = j := ⟨x.toNat, by omega⟩
    have hj : j < t.length := by omega
    have ew : cntR t (Ms.weightV t) (j : Int) = (Ms.weightV t j, 0) := by unfold cntR; rw [hh]; simp
    have es : cntR t (Ms.sizeV t) (j : Int) = (Ms.sizeV t j, 0) := by unfold cntR; rw [hh]; simp
    have ed : cntR t (Ms.depthV t) (j : Int) = (Ms.depthV t j, 0) := by unfold cntR; rw [hh]; simp
    rw [ew, es, ed]
    simp only
    clear ew es ed
    by_cases hw : Ms.weightV t j < 1099511627776
    · have hsU := Ms.size_U hok hj
      have hwU := Ms.weight_U hok hj
      have hsw := Ms.size_le_weight hok hj
      have hdl := Ms.depth_le hok hj
      have hss := (Ms.size_ref hok hj).2
      have HSUM := show Hid (Ms.sumL (Ms.nn (Ms.plc t j)) (Fm.below t j) = Ms.sizeV t j) from Ms.sum_below hok hj hw
      have HPART := show Hid (∀ i ∈ Fm.below t j, i < t.length ∧ (i = j ∨ Ms.weightV t i < Ms.weightV t j) ∧ 1 ≤ (Ms.plc t j i).1 + (Ms.plc t j i).2) from fun i hi => Ms.part_in hok hj hw hi
      have HMEM := show Hid (∀ i ∈ Fm.below t j, (((belowR t (j : Int)).1.map fun n : Nat => (n : Int)).contains (i : Int)) = true) from fun i hi => by
        show _ = true
        unfold belowR
        rw [hh]
        simp only [if_true, Int.toNat_natCast]
        rw [List.contains_iff_mem]
        exact List.mem_map.2 ⟨i, hi, rfl⟩
      have hsle : Ms.sizeV t j ≤ Ms.weightV t j := by unfold Ms.M at hsU hwU; omega
      have hs1 : 1 ≤ Ms.sizeV t j := hss.1
      have hsM : Ms.sizeV t j ≤ 1099511627776 := hss.2
      have hd1 : Ms.depthV t j < (t.length : Int) := by omega
      have hd0 : 0 ≤ Ms.depthV t j := hdl.1
      have hbr : belowR t (j : Int) = (Fm.below t j, 0) := by unfold belowR; rw [hh]; simp
      have KL := show Hid (Calls Tryz.prog 32 #[.pointer (some ⟨B, 0, none⟩)] w4 fun e w' => e = .returned (.int .i64 (t.length : Int)) ∧ w' = w4) from len_any w4 (HT.out w4 H4.out.2)
      have KB := show Hid (Calls Tryz.prog 33 #[.pointer (some ⟨B, 0, none⟩), .int .i64 (j : Int)] w4 fun e w' => ∃ p c, e = .returned (.tuple #[.slice p (Fm.below t j).length c, .int .i64 0]) ∧ IsI w' w4.heap.size (.slice p (Fm.below t j).length c) (Fm.below t j) ∧ Below w4.heap.size w4 w') from (below_any w4 (HT.out w4 H4.out.2) (j : Int)).mono fun e w' ⟨v', he, hi, hb⟩ => by
        rw [hbr] at he hi
        obtain ⟨p, c, rfl⟩ := isI_slice hi
        exact ⟨p, c, he, hi, hb⟩
      have HWV := show Hid (∀ (w' : World) (i : Nat), Below w1.heap.size w1 w' → i < t.length → Calls Tryz.prog 10 #[.pointer (some ⟨B, 0, none⟩), .int .i64 (i : Int)] w' fun e w'' => e = .returned (.tuple #[.int .i64 (Ms.weightV t i), .int .i64 0]) ∧ Below w'.heap.size w' w'') from fun w' i hb hi => by
        have h := Weight_any w' (HT.out w' hb) (i : Int)
        have e : cntR t (Ms.weightV t) (i : Int) = (Ms.weightV t i, 0) := by unfold cntR; rw [(nodeOf_in hi).2]; simp
        rw [e] at h
        exact h
      have HOC := show Hid (∀ (w' : World) (i : Nat), Below w1.heap.size w1 w' → i < t.length → Calls Tryz.prog 25 #[.pointer (some ⟨B, 0, none⟩), .int .i64 (i : Int), .int .i64 (j : Int)] w' fun e w'' => e = .returned (.tuple #[.int .i64 (Ms.plc t j i).1, .int .i64 (Ms.plc t j i).2, .int .i64 0]) ∧ Below w'.heap.size w' w'') from fun w' i hb hi => by
        have h := occurs_any w' (HT.out w' hb) (i : Int) (j : Int)
        have e : occR t (i : Int) (j : Int) = ((Ms.plc t j i).1, (Ms.plc t j i).2, 0) := by unfold occR; rw [(nodeOf_in hi).2, hh]; simp
        rw [e] at h
        exact h
      have HWI := show Hid (∀ (w' : World) (i : Nat), Below w1.heap.size w1 w' → i ∈ Fm.below t j → Calls Tryz.prog 26 #[.pointer (some ⟨B, 0, none⟩), .int .i64 (i : Int), .int .i64 (j : Int)] w' fun e w'' => e = .returned (.bool true) ∧ Below w'.heap.size w' w'') from fun w' i hb hi => by
        have h := within_any w' (HT.out w' hb) (i : Int) (j : Int)
        rw [HMEM.out i hi] at h
        exact h
      have HPI := show Hid (∀ i, In (Ms.plc t j i)) from fun i => in_of (Ms.inr_fold t (List.range (j + 1)) (Ms.inr_c0 j)) i
      have hbl : (Fm.below t j).length ≤ 1024 := by have := belowR_len hok (j : Int); rw [hbr] at this; exact this
      have HSL := show Hid (∀ k, 0 ≤ Ms.sumL (Ms.nn (Ms.plc t j)) ((Fm.below t j).take k) ∧ Ms.sumL (Ms.nn (Ms.plc t j)) ((Fm.below t j).take k) ≤ 2199023255552 * 1024) from fun k => by
        have h := Ms.sumL_le (Ms.nn (Ms.plc t j)) 2199023255552 (by omega) (Ms.nn_in t j) ((Fm.below t j).take k)
        have h2 : ((Fm.below t j).take k).length ≤ 1024 := by
          rw [List.length_take]
          omega
        have h3 : (2199023255552 : Int) * (((Fm.below t j).take k).length : Int) ≤ 2199023255552 * 1024 := Int.mul_le_mul_of_nonneg_left (by omega) (by omega)
        omega
      clear hsU hwU hsw hdl hss hh hbr HMEM
      generalize Ms.sizeV t j = s at *
      generalize Ms.depthV t j = d at *
      generalize hwg : Ms.weightV t j = wt at *
      have hg1 : ¬ (1099511627776 : Int) ≤ wt := by omega
      have hg2 : ¬ wt < s := by omega
      have hg3 : ¬ (t.length : Int) ≤ d := by omega
      have hg4 : ¬ s < 1 := by omega
      go_wp2_with (first | (go_at_call 13; refine (KN.out _ _).mono ?_; rintro e w' ⟨rfl, rfl⟩) | (go_at_call 32; refine KL.out.mono ?_; rintro e w' ⟨rfl, rfl⟩))
      refine KB.out.mono ?_
      rintro e w5 ⟨p5, c5, rfl, hI5, hb5⟩
      have HC := show Hid (∀ w', Below w5.heap.size w5 w' → ∀ k (hk : k < (Fm.below t j).length), ∃ b o, p5 = some ⟨b, o, none⟩ ∧ w'.cell? ⟨b, o + k, none⟩ = some (.int .i64 (((Fm.below t j)[k] : Nat) : Int))) from fun w' hb k hk => by
        obtain ⟨p2, c2, hv, _, hcell⟩ := isI_isL hI5 (by omega)
        obtain ⟨rfl, _, rfl⟩ := Value.slice.inj hv
        obtain ⟨g, o, hp, hc⟩ := hcell k (by simpa using hk)
        refine ⟨g, o, hp, ?_⟩
        have := (Kp.of_below (S := fun _ => False) hb).cell hc (fun h => h)
        simpa using this
      have H5 := show Hid (Below w.heap.size w w5 ∧ Below w1.heap.size w1 w5) from ⟨H4.out.1.trans (hb5.mono H4.out.1.size), H4.out.2.trans (hb5.mono H4.out.2.size)⟩
      clear KB KL hI5 hb5 H4
      have HST := show Hid (∀ k (hk : k < (Fm.below t j).length), Ms.sumL (Ms.nn (Ms.plc t j)) ((Fm.below t j).take (k + 1)) = Ms.sumL (Ms.nn (Ms.plc t j)) ((Fm.below t j).take k) + ((Ms.plc t j (Fm.below t j)[k]).1 + (Ms.plc t j (Fm.below t j)[k]).2)) from fun k hk => by
        show Ms.sumL _ _ = _
        rw [List.take_succ_eq_append_getElem hk, Ms.sumL_snoc]
        rfl
      have HALL := show Hid (∀ k (hk : k < (Fm.below t j).length), (Fm.below t j)[k] ∈ Fm.below t j) from fun k hk => List.getElem_mem hk
      have HEND := show Hid (Ms.sumL (Ms.nn (Ms.plc t j)) ((Fm.below t j).take (Fm.below t j).length) = s) from by
        show Ms.sumL _ _ = s
        rw [List.take_length]; exact HSUM.out
      clear HSUM
      generalize Fm.below t j = l at *
      obtain ⟨sm, hsm⟩ : ∃ sm : Nat → Int, sm = fun k => Ms.sumL (Ms.nn (Ms.plc t j)) (l.take k) := ⟨_, rfl⟩
      have HST2 := show Hid (∀ k (hk : k < l.length), sm (k + 1) = sm k + ((Ms.plc t j l[k]).1 + (Ms.plc t j l[k]).2)) from fun k hk => by rw [hsm]; exact HST.out k hk
      have HSL2 := show Hid (∀ k, 0 ≤ sm k ∧ sm k ≤ 2199023255552 * 1024) from fun k => by rw [hsm]; exact HSL.out k
      have HEND2 := show Hid (sm l.length = s) from by rw [hsm]; exact HEND.out
      have hsm0 : sm 0 = 0 := by rw [hsm]; rfl
      clear hsm HST HSL HEND
      generalize Ms.plc t j = pc at *
      go_wp2_with fail
      go_loopw [15, 16] (fun sv iv wr => ∃ k : Nat, k ≤ l.length ∧ iv = .int .i64 (k : Int) ∧ sv = .int .i64 (sm k) ∧ Hid (Below w5.heap.size w5 wr)) (fun _ iv _ => l.length - (intOf iv).toNat)
      case atStart => exact ⟨0, by omega, rfl, by rw [hsm0], Below.refl _ _⟩
      case round =>
        obtain ⟨k, hk, rfl, rfl, HBr⟩ := hrel
        by_cases hlt : k < l.length
        · obtain ⟨gb, ob, rfl, hc⟩ := HC.out wr HBr.out k hlt
          have hmem := HALL.out k hlt
          obtain ⟨hit, hiw, hip⟩ := HPART.out _ hmem
          have HCK := show Hid (∀ w', Below w5.heap.size w5 w' → w'.cell? ⟨gb, ob + k, none⟩ = some (.int .i64 ((l[k] : Nat) : Int))) from fun w' hb => by
            obtain ⟨g2, o2, e2, h2⟩ := HC.out w' hb k hlt
            cases e2
            exact h2
          have hst := HST2.out k hlt
          have HNX := show Hid (sm (k + 1) = sm k + ((pc l[k]).1 + (pc l[k]).2)) from hst
          have hsb := HSL2.out k
          have hki : (k : Int) < (l.length : Int) := by omega
          have hpi := HPI.out l[k]
          have HM := show Hid (l[k] ∈ l) from hmem
          clear hst hmem HC HST2 HSL2 HEND2
          generalize l[k] = i at *
          obtain ⟨⟨hp0, hp1⟩, hq0, hq1⟩ := hpi
          have K7a := show Hid (∀ w', Below w1.heap.size w1 w' → Calls Tryz.prog 25 #[.pointer (some ⟨B, 0, none⟩), .int .i64 (i : Int), .int .i64 (j : Int)] w' fun e w'' => e = .returned (.tuple #[.int .i64 (pc i).1, .int .i64 (pc i).2, .int .i64 0]) ∧ Below w'.heap.size w' w'') from fun w' hb => HOC.out w' i hb hit
          clear HOC HPART HPI HALL
          generalize (pc i).1 = pp at *
          generalize (pc i).2 = qq at *
          have HB1r := show Hid (Below w1.heap.size w1 wr) from H5.out.2.trans (HBr.out.mono H5.out.2.size)
          have K6 := show Hid (Calls Tryz.prog 10 #[.pointer (some ⟨B, 0, none⟩), .int .i64 (i : Int)] wr fun e w'' => e = .returned (.tuple #[.int .i64 (Ms.weightV t i), .int .i64 0]) ∧ Below wr.heap.size wr w'') from HWV.out wr i HB1r.out hit
          go_wp2_with fail
          refine K6.out.mono ?_
          rintro e w6 ⟨rfl, hb6⟩
          have HB6 := show Hid (Below w5.heap.size w5 w6 ∧ Below w1.heap.size w1 w6) from ⟨HBr.out.trans (hb6.mono HBr.out.size), HB1r.out.trans (hb6.mono HB1r.out.size)⟩
          have hc6 := HCK.out w6 HB6.out.1
          have K7 := show Hid (Calls Tryz.prog 25 #[.pointer (some ⟨B, 0, none⟩), .int .i64 (i : Int), .int .i64 (j : Int)] w6 fun e w'' => e = .returned (.tuple #[.int .i64 pp, .int .i64 qq, .int .i64 0]) ∧ Below w6.heap.size w6 w'') from K7a.out w6 HB6.out.2
          clear K6 hb6 HB1r hc
          go_wp2_with fail
          refine K7.out.mono ?_
          rintro e w7 ⟨rfl, hb7⟩
          have HB7 := show Hid (Below w5.heap.size w5 w7 ∧ Below w1.heap.size w1 w7) from ⟨HB6.out.1.trans (hb7.mono HB6.out.1.size), HB6.out.2.trans (hb7.mono HB6.out.2.size)⟩
          have hc7 := HCK.out w7 HB7.out.1
          have K8 := show Hid (Calls Tryz.prog 26 #[.pointer (some ⟨B, 0, none⟩), .int .i64 (i : Int), .int .i64 (j : Int)] w7 fun e w'' => e = .returned (.bool true) ∧ Below w7.heap.size w7 w'') from HWI.out w7 i HB7.out.2 HM.out
          have hpq : ¬ pp + qq < 1 := by omega
          clear K7 hb7 hc6 HB6
          rcases hiw with e | hlw
          · subst e
            go_wp2_with (go_at_call 13; refine (KN.out _ _).mono ?_; rintro e w' ⟨rfl, rfl⟩)
            refine K8.out.mono ?_
            rintro e w8 ⟨rfl, hb8⟩
            have HB8 := show Hid (Below w5.heap.size w5 w8) from HB7.out.1.trans (hb8.mono HB7.out.1.size)
            clear K8 hb8 HB7 hc7
            go_wp2_with fail
            go_roundw
            case rel => exact ⟨k + 1, by omega, by go_num, (by rw [HNX.out]; exact val_int (by omega)), HB8⟩
            case measure => first | (simp [intOf]; done) | (simp [intOf]; omega)
          · have hne : ((i : Int) != (j : Int)) = true := by
              have : i ≠ j := fun e => by subst e; rw [hwg] at hlw; omega
              have h2 : (i : Int) ≠ (j : Int) := by omega
              exact bne_iff_ne.2 h2
            have hnw : ¬ wt ≤ Ms.weightV t i := by omega
            generalize Ms.weightV t i = wi at *
            go_wp2_with (go_at_call 13; refine (KN.out _ _).mono ?_; rintro e w' ⟨rfl, rfl⟩)
            refine K8.out.mono ?_
            rintro e w8 ⟨rfl, hb8⟩
            have HB8 := show Hid (Below w5.heap.size w5 w8) from HB7.out.1.trans (hb8.mono HB7.out.1.size)
            clear K8 hb8 HB7 hc7
            go_wp2_with fail
            go_roundw
            case rel => exact ⟨k + 1, by omega, by go_num, (by rw [HNX.out]; exact val_int (by omega)), HB8⟩
            case measure => first | (simp [intOf]; done) | (simp [intOf]; omega)
        · have hke : k = l.length := by omega
          subst hke
          rw [HEND2.out]
          clear HC HST2 HSL2 HEND2 HPART HALL HWV HOC HWI
          go_wp2_with (go_at_call 13; refine (KN.out _ _).mono ?_; rintro e w' ⟨rfl, rfl⟩)
          refine (KH.out _).mono ?_
          rintro e w8 ⟨rfl, hb8⟩
          have HB8 := show Hid (Below w.heap.size w w8) from (H5.out.1.trans (HBr.out.mono H5.out.1.size)).trans (hb8.mono (H5.out.1.trans (HBr.out.mono H5.out.1.size)).size)
          clear hb8
          go_wp2_with fail
          go_ret
          exact ⟨rfl, HB8.out⟩
    · have hge : (1099511627776 : Int) ≤ Ms.weightV t j := by omega
      generalize Ms.weightV t j = wt at *
      go_wp2_with (go_at_call 13; refine (KN.out _ _).mono ?_; rintro e w' ⟨rfl, rfl⟩)
      refine (KH.out _).mono ?_
      rintro e w8 ⟨rfl, hb8⟩
      have HB8 := show Hid (Below w.heap.size w w8) from H4.out.1.trans (hb8.mono H4.out.1.size)
      clear hb8
      go_wp2_with fail
      go_ret
      exact ⟨rfl, HB8.out⟩
  · have ew : ∀ f : Nat → Int, cntR t f x = (0, 31) := fun f => by unfold cntR; rw [if_neg hh]
    rw [ew, ew, ew]
    clear ew
    go_wp2_with (go_at_call 13; refine (KN.out _ _).mono ?_; rintro e w' ⟨rfl, rfl⟩)
    refine (KH.out _).mono ?_
    rintro e w8 ⟨rfl, hb8⟩
    have HB8 := show Hid (Below w.heap.size w w8) from H4.out.1.trans (hb8.mono H4.out.1.size)
    clear hb8
    go_wp2_with fail
    go_ret
    exact ⟨rfl, HB8.out⟩
end Go.Proofs.YthdcppkohalkmaaGreat
