/-
  MorphMaps, walked. No condition.
-/
import Derived.Test.YtoedidbbjnnpnaaTH22
import Derived.Test.YtoedidbbjnnpnaaQMRBnd
namespace Go.Proofs.Ytoedidbbjnnpnaa.Wm
open Go.RowKit Go.Maps
open Wd (Md Rc Ed upd vl allW inW)
set_option linter.unusedSimpArgs false
set_option linter.unusedVariables false

set_option maxRecDepth 100000 in
set_option maxHeartbeats 8000000 in
theorem morphMaps_any (w : World) {L : Nat} {um vm un vn fv : Value} {m n : Md} {fl : List Int} (hm : IsM w L um vm m) (hmf : Fit m) (hn : IsM w L un vn n) (hnf : Fit n) (hf : IsI w L fv fl) (hL : L ≤ w.heap.size) (hfl : fl.length * 8 ≤ 140737488351232) (hfx : ∀ x ∈ fl, -9223372036854775808 ≤ x ∧ x ≤ 9223372036854775807) :
    Calls Try.prog 5 #[.agg #[um, vm], .agg #[un, vn], fv] w fun e w' => e = .returned (.bool true) ∧ Below w.heap.size w w' := by
  obtain ⟨pm, cm, rfl⟩ := IsS.form hm.up
  obtain ⟨pvm, cvm, rfl⟩ := IsS.form hm.val
  obtain ⟨pn, cn, rfl⟩ := IsS.form hn.up
  obtain ⟨pvn, cvn, rfl⟩ := IsS.form hn.val
  obtain ⟨pf, cf, rfl⟩ := IsS.form hf
  have HF := show Hid (Fit m ∧ Fit n ∧ fl.length * 8 ≤ 140737488351232 ∧ ∀ x ∈ fl, -9223372036854775808 ≤ x ∧ x ≤ 9223372036854775807) from ⟨hmf, hnf, hfl, hfx⟩
  have H0 := hidL ((((lat_bel (Below.refl w.heap.size w) (Nat.le_refl _)).and (lat_isM hm hL)).and (lat_isM hn hL)).and (lat_isI hf hL))
  clear hm hmf hn hnf hf hL hfx hfl
  go_enter Try.func5, Try.ntmps5
  go_wp2_with (refine wpList_box 25 _ rfl _ rfl rfl ?_)
  intro w1 bM hn
  have H1 := hidL ((H0.out.next (hn.bel)).and (lat_box hn.blk))
  clear H0 hn
  go_wp2_with (refine wpList_box 25 _ rfl _ rfl rfl ?_)
  intro w2 bN hn
  have H2 := hidL ((H1.out.next (hn.bel)).and (lat_box hn.blk))
  clear H1 hn
  go_wp2_with (refine wpList_bs0I rfl rfl ?_)
  intro w3a q hn
  have HFI := show Hid _ from lat_isI ((H2.out.now.1.1.2)) (Nat.le_refl _) w3a hn.bel
  go_wp2_with (refine wpList_cpyI _ _ rfl rfl q q rfl hn.blk (Nat.le_refl _) _ rfl HFI.out (by have := HF.out.2.2.1; omega) ?_)
  intro pg cg w3 ho hb
  have H3 := hidL ((H2.out.next (hn.bel.trans (hb.mono hn.bel.size))).and (lat_isI (own_isI ho) (Nat.le_refl _)))
  clear H2 hn ho hb HFI
  have K := show Hid _ from bounded_any w3 (H3.out.now.1.1.1.1.1.2) HF.out.1 (H3.out.now.1.1.1.1.2) HF.out.2.1 (H3.out.now.2) (Nat.le_refl _) (by have := HF.out.2.2.1; omega) HF.out.2.2.2
  have hx0 := show Hid _ from (H3.out.now.1.1.2)
  have hx1 := show Hid _ from (H3.out.now.1.2)
  go_wp2_with (first | refine wpList_ldw 25 _ rfl bM rfl _ _ hx0.out rfl Try.underlying25 sizeM rfl ?_ | refine wpList_ldw 25 _ rfl bN rfl _ _ hx1.out rfl Try.underlying25 sizeM rfl ?_)
  clear hx0 hx1
  refine Calls.mono K.out ?_
  rintro e w4 ⟨r1, er1, rfl, hR, hb⟩
  have HRr1 := show Hid _ from hR
  have H4 := hidL (H3.out.next (hb))
  clear H3 hb K hR
  have K := show Hid _ from rbounded_any w4 (H4.out.now.1.1.1.1.1.2) HF.out.1 (H4.out.now.1.1.1.1.2) HF.out.2.1 (H4.out.now.1.1.1.2) (Nat.le_refl _) (by have := HF.out.2.2.1; omega) HF.out.2.2.2
  have hx0 := show Hid _ from (H4.out.now.1.1.2)
  have hx1 := show Hid _ from (H4.out.now.1.2)
  go_wp2_with (first | refine wpList_ldw 25 _ rfl bM rfl _ _ hx0.out rfl Try.underlying25 sizeM rfl ?_ | refine wpList_ldw 25 _ rfl bN rfl _ _ hx1.out rfl Try.underlying25 sizeM rfl ?_)
  clear hx0 hx1
  refine Calls.mono K.out ?_
  rintro e w5 ⟨r2, er2, rfl, hR, hb⟩
  have HRr2 := show Hid _ from hR
  have H5 := hidL (H4.out.next (hb))
  clear H4 hb K hR
  obtain ⟨rfl, rfl⟩ := bdR_det HRr1.out HRr2.out
  have hrr : (r1 == r1) = true := by simp
  have hee : (er1 == er1) = true := by simp
  have hb : Below w5.heap.size w5 w5 := Below.refl _ _
  have K := show Hid (Calls Try.prog 17 #[.slice pf fl.length cf, .slice pg fl.length cg] w5 fun e w' => e = .returned (.bool true) ∧ Below w5.heap.size w5 w') from
    (ints_any w5 (H5.out.now.1.1.1.2) (H5.out.now.2) (by have := HF.out.2.2.1; omega) (by have := HF.out.2.2.1; omega)).mono fun e w' ⟨⟨r, h1, h2⟩, h3⟩ => by
      refine ⟨?_, h3⟩
      rw [h1, h2.2 rfl]
  clear hb HRr1 HRr2
  go_wp2_with fail
  refine Calls.mono K.out ?_
  rintro e w6 ⟨rfl, hb⟩
  have H6 := hidL (H5.out.next (hb))
  clear H5 hb K
  have KH := show Hid _ from heads19_any w6
  go_wp2_with fail
  refine Calls.mono KH.out ?_
  rintro e w7 ⟨rfl, hb⟩
  have H7 := hidL (H6.out.next (hb))
  clear H6 hb KH
  have HB := show Hid _ from (H7.out.now.1.1.1.1.1.1)
  clear H7
  go_wp2_with fail
  go_ret
  exact ⟨rfl, HB.out⟩
end Go.Proofs.Ytoedidbbjnnpnaa.Wm
