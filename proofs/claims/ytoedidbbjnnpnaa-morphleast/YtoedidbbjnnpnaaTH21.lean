/-
  MorphLeast: plain: a quotient's quotient is itself. No condition.
-/
import Derived.Test.YtoedidbbjnnpnaaQMQuoW
import Derived.Test.YtoedidbbjnnpnaaQMHead
import Derived.Test.YtoedidbbjnnpnaaTH13
import Derived.Test.YtoedidbbjnnpnaaTH22
namespace Go.Proofs.Ytoedidbbjnnpnaa.Wm
open Go.RowKit
open Wd (Md Rc Ed Sub upd vl allW inW names)
set_option linter.unusedVariables false

theorem good_lt {m : Md} (hG : Wd.Good m) {a b : Nat} (ha : a < m.up.length) (h : Rc m.up a b) : b < m.up.length := Wd.rc_lt (Wd.shaped_and hG.shape).2.2.2.1 h ha
theorem vl_in {m : Md} {a : Nat} (ha : a < m.val.length) : vl m a = m.val[a] := by
  unfold vl; simp [ha]
theorem quo_rows {m q : Md} {cls : Nat → Nat} (hq : IsQ m q cls) (hQ : Wd.Good q) (hG : Wd.Good m) : ∀ r ∈ q.val, r ∈ m.val := fun r hr => by
  obtain ⟨c, hc, rfl⟩ := List.getElem_of_mem hr
  have hl := (Wd.shaped_and hQ.shape).2.2.1
  have hlm := (Wd.shaped_and hG.shape).2.2.1
  obtain ⟨a, ha, e⟩ := (hq.ex c).1 (by omega)
  have h1 := hq.val a ha
  rw [e, vl_in hc, vl_in (by omega : a < m.val.length)] at h1
  rw [h1]
  exact List.getElem_mem _
theorem least_cls {m q : Md} {E M' : Nat → Nat → Bool} (hG : Wd.Good m) (hC : ClsP m (cnF E)) (hq : IsQ m q (cnF E)) (hQ : Wd.Good q) (hO : IsO q.up M') : ClsP (tdM q M') fun w => w :=
  (hq.cls hC fun a b ha h => good_lt hG ha h).cong (tdM_len _ _).symm rfl fun a b => (tdM_rc hO hQ a b).symm
theorem least_ids {Q : Md} {E : Nat → Nat → Bool} (hG : Wd.Good Q) (h : ClsP Q fun w => w) (hE : ClsP Q (cnF E)) : (List.range Q.up.length).map (cnF E) = List.range Q.up.length := by
  have h1 := hE.one h fun a b ha hr => good_lt hG ha hr
  calc (List.range Q.up.length).map (cnF E) = (List.range Q.up.length).map id := List.map_congr_left fun a ha => h1 a (List.mem_range.1 ha)
    _ = _ := by simp
theorem least_same {q q3 : Md} {E3 M' M3 : Nat → Nat → Bool} (hQ : Wd.Good q) (hO : IsO q.up M') (h : ClsP (tdM q M') fun w => w) (hC : ClsP (tdM q M') (cnF E3)) (hq : IsQ (tdM q M') q3 (cnF E3)) (hQ3 : Wd.Good q3) (hO3 : IsO q3.up M3) : tdM q3 M3 = tdM q M' := by
  have hT : Wd.Good (tdM q M') := good_td hO hQ
  have hid := hC.one h fun a b ha hr => good_lt hT ha hr
  have hl : (tdM q M').up.length = q.up.length := tdM_len _ _
  have hlen : q3.up.length = q.up.length := by
    refine Nat.le_antisymm (Nat.le_of_not_lt fun hlt => ?_) (Nat.le_of_not_lt fun hlt => ?_)
    · obtain ⟨a, ha, e⟩ := (hq.ex q.up.length).1 hlt
      have := hid a ha
      omega
    · exact absurd ((hq.ex q3.up.length).2 ⟨q3.up.length, by omega, hid _ (by omega)⟩) (Nat.lt_irrefl _)
  have hv3 := (Wd.shaped_and hQ3.shape).2.2.1
  have hvq := (Wd.shaped_and hQ.shape).2.2.1
  have hval : q3.val = q.val := List.ext_getElem (by omega) fun i h1 h2 => by
    have ha : i < (tdM q M').up.length := by omega
    have e := hq.val i ha
    rw [hid i ha, vl_in h1] at e
    rw [e]
    exact vl_in (m := tdM q M') h2
  have hM : ∀ i j, i < q.up.length → j < q.up.length → M3 i j = M' i j := fun i j hi hj => by
    have hi' : i < (tdM q M').up.length := by omega
    have h1 := hq.rc i j hi'
    rw [hid i hi'] at h1
    have h2 : Sees (tdM q M') (cnF E3) i j ↔ Rc (tdM q M').up i j := by
      constructor
      · rintro ⟨x, hx, e⟩
        rw [hid x (good_lt hT hi' hx)] at e
        rw [← e]; exact hx
      · intro hx
        exact ⟨j, hx, hid j (good_lt hT hi' hx)⟩
    have h3 : M3 i j = true ↔ M' i j = true := (hO3 i j).trans (h1.trans (h2.trans ((tdM_rc hO hQ i j).trans (hO i j).symm)))
    cases e1 : M3 i j <;> cases e2 : M' i j <;> simp [e1, e2] at h3 ⊢
  unfold tdM
  rw [hlen, hval, tdU_congr hM]
theorem quo_form {W : World} {B : Nat} {m : Md} {u v l : Value} {er : Int} (h : QuoR W B m u v l er) : (∃ p n c, u = .slice p n c) ∧ (∃ p n c, v = .slice p n c) := by
  rcases h with ⟨_, _, rfl, rfl, _⟩ | ⟨_, _, E, q, M', _, _, _, _, _, _, _, ⟨xs, h1, _⟩, ⟨ys, h2, _⟩⟩
  · exact ⟨⟨_, _, _, rfl⟩, ⟨_, _, _, rfl⟩⟩
  · obtain ⟨p, c, e⟩ := own_form h1
    obtain ⟨p', c', e'⟩ := own_form h2
    exact ⟨⟨_, _, _, e⟩, ⟨_, _, _, e'⟩⟩
end Go.Proofs.Ytoedidbbjnnpnaa.Wm
/-
  MorphLeast, walked. No condition.
-/
namespace Go.Proofs.Ytoedidbbjnnpnaa.Wm
open Go.RowKit Go.Maps
open Wd (Md Rc Ed upd vl allW inW)
set_option linter.unusedSimpArgs false
set_option linter.unusedVariables false

set_option maxRecDepth 100000 in
set_option maxHeartbeats 8000000 in
theorem morphLeast_any (w : World) {L : Nat} {uv vv : Value} {m : Md} (hm : IsM w L uv vv m) (hf : Fit m) (hL : L ≤ w.heap.size) (hfv : ∀ r ∈ m.val, r.length * 16 ≤ 140737488355328) :
    Calls Try.prog 8 #[.agg #[uv, vv]] w fun e w' => e = .returned (.bool true) ∧ Below w.heap.size w w' := by
  obtain ⟨M, hO⟩ := isO_ex m.up
  obtain ⟨pu, cu, rfl⟩ := IsS.form hm.up
  obtain ⟨pv, cv, rfl⟩ := IsS.form hm.val
  have HF := show Hid (IsO m.up M ∧ Fit m ∧ ∀ r ∈ m.val, r.length * 16 ≤ 140737488355328) from ⟨hO, hf, hfv⟩
  have H0 := hidL ((lat_bel (Below.refl w.heap.size w) (Nat.le_refl _)).and (lat_isM hm hL))
  clear hm hf hL hfv hO
  go_enter Try.func8, Try.ntmps8
  go_wp2_with (refine wpList_box 25 _ rfl _ rfl rfl ?_)
  intro w1 bM hn
  have H1 := hidL ((H0.out.next (hn.bel)).and (lat_box hn.blk))
  clear H0 hn
  have K := show Hid _ from topQuotient_any w1 HF.out.1 (H1.out.now.1.2) HF.out.2.1 (Nat.le_refl _) HF.out.2.2
  have hx0 := show Hid _ from (H1.out.now.2)
  go_wp2_with (first | refine wpList_ldw 25 _ rfl bM rfl _ _ hx0.out rfl Try.underlying25 sizeM rfl ?_)
  clear hx0
  refine Calls.mono K.out ?_
  rintro e w2 ⟨u', v', lv, er, rfl, hR, hb⟩
  have HR := show Hid _ from hR
  obtain ⟨⟨pa, na, ca, rfl⟩, pz, nz, cz, rfl⟩ := quo_form hR
  have H2 := hidL (H1.out.next (hb))
  clear H1 hb K hR
  rcases HR.out with ⟨hg, rfl, _⟩ | ⟨hg, rfl, E, q, M', h2, h3, h4, h5, h6, h7, h8, h9, h10⟩
  · skip
    clear hg HR
    go_wp2_with (refine wpList_alloc 25 rfl _ zero_md rfl ?_)
    intro w3a bQ hn
    go_wp2_with (refine wpList_st 25 rfl rfl _ _ rfl bQ rfl _ rfl _ _ hn.blk sizeM rfl (by simp [Value.oneCell']) ?_)
    intro w3 hc hk
    have H3 := hidL ((H2.out.next (below_box hn hk)).and (lat_box hc))
    clear H2 hn hc hk
    have KH := show Hid _ from heads19_any w3
    go_wp2_with fail
    refine Calls.mono KH.out ?_
    rintro e w4 ⟨rfl, hb⟩
    have H4 := hidL (H3.out.next (hb))
    clear H3 hb KH
    have HB := show Hid _ from (H4.out.now.1.1.1)
    clear H4
    go_wp2_with fail
    go_ret
    exact ⟨rfl, HB.out⟩
  · skip
    have hmQ := isM_wide (L := w2.heap.size) (show IsM w2 _ _ _ (tdM q M') from ⟨h9.isU, h10.isV⟩) (Nat.le_refl _)
    have HQ := show Hid (Wd.Good (tdM q M') ∧ Fit (tdM q M') ∧ IsO (tdM q M').up M' ∧ (∀ r ∈ (tdM q M').val, r.length * 16 ≤ 140737488355328) ∧ ClsP (tdM q M') (fun w => w) ∧ Wd.Good q ∧ IsO q.up M') from ⟨good_td h7 h6, fit_td h8 (Wd.shaped_and h6.shape).2.1, isO_td h7 h6, fun r hr => HF.out.2.2 r (quo_rows h5 h6 hg r hr), least_cls hg h4 h5 h6 h7, h6, h7⟩
    obtain ⟨pa2, ca2, ea⟩ := IsS.form hmQ.up
    obtain ⟨rfl, rfl, rfl⟩ := Value.slice.inj ea
    obtain ⟨pz2, cz2, ez⟩ := IsS.form hmQ.val
    obtain ⟨rfl, rfl, rfl⟩ := Value.slice.inj ez
    have HH := hidL (H2.out.and (lat_isM hmQ (Nat.le_refl _)))
    clear H2 h2 h3 h4 h5 h6 h7 h8 h9 h10 hg HR hmQ ea ez HF
    have H2 := HH
    clear HH
    generalize hQ : tdM q M' = Q at *
    go_wp2_with (refine wpList_alloc 25 rfl _ zero_md rfl ?_)
    intro w3a bQ hn
    go_wp2_with (refine wpList_st 25 rfl rfl _ _ rfl bQ rfl _ rfl _ _ hn.blk sizeM rfl (by simp [Value.oneCell']) ?_)
    intro w3 hc hk
    have H3 := hidL ((H2.out.next (below_box hn hk)).and (lat_box hc))
    clear H2 hn hc hk
    have KC := show Hid (Calls Try.prog 15 #[.agg #[.slice pa Q.up.length ca, .slice pz Q.val.length cz]] w3 fun e w' => (∃ p2 c2, e = .returned (.tuple #[.slice p2 Q.up.length c2, .int .i64 0]) ∧ OwnI w3.heap.size w' (.slice p2 Q.up.length c2) (List.range Q.up.length)) ∧ Below w3.heap.size w3 w') from
      (topClasses_any w3 HQ.out.2.2.1 (H3.out.now.1.2) HQ.out.2.1 (Nat.le_refl _) HQ.out.2.2.2.1).mono fun e w' ⟨l0, er, h1, h2, h3⟩ => by
        rcases h2 with ⟨h, _⟩ | ⟨_, rfl, E2, h4, _, h5⟩
        · exact absurd HQ.out.1 h
        · rw [least_ids HQ.out.1 HQ.out.2.2.2.2.1 h5] at h4
          obtain ⟨p2, c2, rfl⟩ := h4.slice
          rw [List.length_range] at h1 h4
          exact ⟨⟨p2, c2, h1, h4⟩, h3⟩
    have hx0 := show Hid _ from (H3.out.now.2)
    go_wp2_with (first | refine wpList_ldw 25 _ rfl bQ rfl _ _ hx0.out rfl Try.underlying25 sizeM rfl ?_)
    clear hx0
    refine Calls.mono KC.out ?_
    rintro e w4 ⟨⟨pc, cc, rfl, ho⟩, hb⟩
    have H4 := hidL ((H3.out.next (hb)).and (lat_own ho))
    clear H3 hb ho KC
    have KQ := show Hid (Calls Try.prog 13 #[.agg #[.slice pa Q.up.length ca, .slice pz Q.val.length cz]] w4 fun e w' => (∃ p2 n2 c2 p3 n3 c3 l0, e = .returned (.tuple #[.agg #[.slice p2 n2 c2, .slice p3 n3 c3], l0, .int .i64 0]) ∧ IsM w' w'.heap.size (.slice p2 n2 c2) (.slice p3 n3 c3) Q) ∧ Below w4.heap.size w4 w') from
      (topQuotient_any w4 HQ.out.2.2.1 (H4.out.now.1.1.2) HQ.out.2.1 (Nat.le_refl _) HQ.out.2.2.2.1).mono fun e w' ⟨u', v', l0, er, h1, h2, h3⟩ => by
        have hfm := quo_form h2
        obtain ⟨⟨p2, n2, c2, rfl⟩, p3, n3, c3, rfl⟩ := hfm
        rcases h2 with ⟨h, _⟩ | ⟨_, rfl, E3, q3, M3, _, _, k4, k5, k6, k7, _, k9, k10⟩
        · exact absurd HQ.out.1 h
        · refine ⟨⟨p2, n2, c2, p3, n3, c3, l0, h1, ?_⟩, h3⟩
          have hs : tdM q3 M3 = Q := by
            rw [← hQ] at k4 k5 HQ ⊢
            exact least_same HQ.out.2.2.2.2.2.1 HQ.out.2.2.2.2.2.2 HQ.out.2.2.2.2.1 k4 k5 k6 k7
          rw [← hs]
          exact ⟨k9.isU, k10.isV⟩
    have hx0 := show Hid _ from (H4.out.now.1.2)
    go_wp2_with (first | refine wpList_ldw 25 _ rfl bQ rfl _ _ hx0.out rfl Try.underlying25 sizeM rfl ?_)
    clear hx0
    refine Calls.mono KQ.out ?_
    rintro e w5 ⟨⟨pp, np, cp, pr, nr, cr, l0, rfl, hp⟩, hb⟩
    have H5 := hidL ((H4.out.next (hb)).and (lat_isM hp (Nat.le_refl _)))
    clear H4 hb hp KQ
    go_wp2_with (refine wpList_alloc 25 rfl _ zero_md rfl ?_)
    intro w6a bP hn
    go_wp2_with (refine wpList_st 25 rfl rfl _ _ rfl bP rfl _ rfl _ _ hn.blk sizeM rfl (by simp [Value.oneCell']) ?_)
    intro w6 hc hk
    have H6 := hidL ((H5.out.next (below_box hn hk)).and (lat_box hc))
    clear H5 hn hc hk
    have HN := show Hid (1 ≤ Q.up.length ∧ Q.up.length ≤ 512 ∧ Q.val.length = Q.up.length) from ⟨(Wd.shaped_and HQ.out.1.shape).1, (Wd.shaped_and HQ.out.1.shape).2.1, (Wd.shaped_and HQ.out.1.shape).2.2.1⟩
    have HC := show Hid (∀ W, Below w6.heap.size w6 W → ∀ j, j < Q.up.length → ∃ g, pc = some ⟨g, 0, none⟩ ∧ W.cell? ⟨g, j, none⟩ = some (.int .i64 (j : Int))) from fun W hW j hj => by
      have ho := (H6.out W hW).1.1.2
      have ho' : OwnI w3.heap.size W (.slice pc (List.range Q.up.length).length cc) (List.range Q.up.length) := by rw [List.length_range]; exact ho
      obtain ⟨gg, e1, e2⟩ := ho'.at (i := j) (by rw [List.length_range]; exact hj)
      rw [List.getElem_range] at e2
      exact ⟨gg, e1, e2⟩
    go_wp2_with fail
    go_loopw [11] (fun i wr => ∃ k : Nat, k ≤ Q.up.length ∧ i = .int .i64 (k : Int) ∧ Hid (Below w6.heap.size w6 wr)) (fun i _ => Q.up.length - (intOf i).toNat)
    case atStart => exact ⟨0, Nat.zero_le _, rfl, Below.refl _ _⟩
    case round =>
      obtain ⟨k, hk, rfl, HI⟩ := hrel
      by_cases hlt : k < Q.up.length
      · skip
        obtain ⟨gg, rfl, hcc⟩ := HC.out wr HI.out k hlt
        have hki : (k : Int) < (Q.up.length : Int) := by omega
        have hN5 := HN.out.2.1
        have HBL := show Hid (Below w6.heap.size w6 wr) from HI.out
        clear HI HC
        go_wp2_with fail
        go_roundw
        case rel => exact ⟨k + 1, by omega, val_int (by omega), HBL.out⟩
        case measure => (simp only [intOf]; omega)
      · skip
        have hk2 : k = Q.up.length := by omega
        subst hk2
        have hnlt : ¬ ((Q.up.length : Int) < (Q.up.length : Int)) := by omega
        have HW := hidL (H6.out.next HI.out)
        clear H6 HC hk hlt
        have H7 := HW
        clear HW HI
        have hcQ : wr.cell? ⟨bQ, 0, none⟩ = some (.slice pa Q.up.length ca) := ((H7.out.now.1.1.1.2).cell 0).trans rfl
        have KS := show Hid _ from same_any wr (H7.out.now.1.2) (H7.out.now.1.1.1.1.2) HQ.out.2.1 (Nat.le_refl _) (Nat.le_refl _)
        have hx0 := show Hid _ from (H7.out.now.2)
        have hx1 := show Hid _ from (H7.out.now.1.1.1.2)
        go_wp2_with (first | refine wpList_ldw 25 _ rfl bP rfl _ _ hx0.out rfl Try.underlying25 sizeM rfl ?_ | refine wpList_ldw 25 _ rfl bQ rfl _ _ hx1.out rfl Try.underlying25 sizeM rfl ?_)
        clear hx0 hx1
        refine Calls.mono KS.out ?_
        rintro e w8 ⟨rfl, hb⟩
        have H8 := hidL (H7.out.next (hb))
        clear H7 hb KS hcQ
        have hcQ : w8.cell? ⟨bQ, 0, none⟩ = some (.slice pa Q.up.length ca) := ((H8.out.now.1.1.1.2).cell 0).trans rfl
        have KH := show Hid _ from heads19_any w8
        go_wp2_with fail
        refine Calls.mono KH.out ?_
        rintro e w9 ⟨rfl, hb⟩
        have H9 := hidL (H8.out.next (hb))
        clear H8 hb KH
        have HB := show Hid _ from (H9.out.now.1.1.1.1.1.1.1)
        clear H9
        go_wp2_with fail
        go_ret
        exact ⟨rfl, HB.out⟩
end Go.Proofs.Ytoedidbbjnnpnaa.Wm
/-
  The document's Bounded, plain: what is asked of each world. No condition.
-/
namespace Go.Proofs.Ytoedidbbjnnpnaa.Wm
open Go.RowKit
open Wd (Md Rc Ed Sub upd vl allW inW names)
set_option linter.unusedVariables false

def FwdOk (m : Md) (M P : Nat → Nat → Bool) (F : Nat → Nat) (a k : Nat) : Prop := ∀ b, b < k → M a b = true → P (F a) (F b) = true
def BckOk (m : Md) (M P : Nat → Nat → Bool) (F : Nat → Nat) (a k : Nat) : Prop := ∀ c, c < k → P (F a) c = true → ∃ b, b < m.up.length ∧ M a b = true ∧ F b = c
def RowOk (m n : Md) (M P : Nat → Nat → Bool) (F : Nat → Nat) (a : Nat) : Prop := vl m a = vl n (F a) ∧ FwdOk m M P F a m.up.length ∧ BckOk m M P F a n.up.length
theorem FwdOk.next {m : Md} {M P : Nat → Nat → Bool} {F : Nat → Nat} {a k : Nat} (h : FwdOk m M P F a k) (h1 : M a k = true → P (F a) (F k) = true) : FwdOk m M P F a (k + 1) := fun b hb => by
  by_cases e : b = k
  · subst e; exact h1
  · exact h b (by omega)
theorem BckOk.next {m : Md} {M P : Nat → Nat → Bool} {F : Nat → Nat} {a k : Nat} (h : BckOk m M P F a k) (h1 : P (F a) k = true → ∃ b, b < m.up.length ∧ M a b = true ∧ F b = k) : BckOk m M P F a (k + 1) := fun c hc => by
  by_cases e : c = k
  · subst e; exact h1
  · exact h c (by omega)
theorem bndP_iff {m n : Md} {fl : List Int} {M P : Nat → Nat → Bool} (hG : Wd.Good m) (hN : Wd.Good n) (hO : IsO m.up M) (hP : IsO n.up P) (hF : ∀ a, a < m.up.length → numF fl a < n.up.length) :
    BndP m n fl ↔ ∀ a, a < m.up.length → RowOk m n M P (numF fl) a := by
  refine ⟨fun h a ha => ?_, fun h a ha => ?_⟩
  · obtain ⟨h1, h2⟩ := h a ha
    refine ⟨h1, fun b hb hM => (hP _ _).2 ((h2 _).1 ⟨b, (hO _ _).1 hM, rfl⟩), fun c hc hp => ?_⟩
    obtain ⟨b, hb, e⟩ := (h2 c).2 ((hP _ _).1 hp)
    exact ⟨b, good_lt hG ha hb, (hO _ _).2 hb, e⟩
  · obtain ⟨h1, h2, h3⟩ := h a ha
    refine ⟨h1, fun c => ⟨?_, fun hc => ?_⟩⟩
    · rintro ⟨b, hb, rfl⟩
      exact (hP _ _).1 (h2 b (good_lt hG ha hb) ((hO _ _).2 hb))
    · obtain ⟨b, hb, hM, e⟩ := h3 c (good_lt hN (hF a ha) hc) ((hP _ _).2 hc)
      exact ⟨b, (hO _ _).1 hM, e⟩
def BkIs (M P : Nat → Nat → Bool) (F : Nat → Nat) (a c : Nat) (z : Bool) (k : Nat) : Prop := z = true ↔ (P (F a) c = false ∨ ∃ x, x < k ∧ M a x = true ∧ F x = c)
theorem BkIs.zero {M P : Nat → Nat → Bool} {F : Nat → Nat} {a c : Nat} {z : Bool} (h : z = !(P (F a) c)) : BkIs M P F a c z 0 := by
  subst h
  refine ⟨fun h => Or.inl (by simpa using h), fun h => ?_⟩
  rcases h with h | ⟨x, hx, _⟩
  · simp [h]
  · exact absurd hx (Nat.not_lt_zero _)
theorem BkIs.keep {M P : Nat → Nat → Bool} {F : Nat → Nat} {a c k : Nat} (h : BkIs M P F a c true k) : BkIs M P F a c true (k + 1) :=
  ⟨fun _ => (h.1 rfl).imp id fun ⟨x, hx, h1⟩ => ⟨x, by omega, h1⟩, fun _ => rfl⟩
theorem BkIs.hit {M P : Nat → Nat → Bool} {F : Nat → Nat} {a c k : Nat} (h1 : M a k = true) (h2 : F k = c) : BkIs M P F a c true (k + 1) := ⟨fun _ => Or.inr ⟨k, Nat.lt_succ_self _, h1, h2⟩, fun _ => rfl⟩
theorem BkIs.miss {M P : Nat → Nat → Bool} {F : Nat → Nat} {a c k : Nat} (h : BkIs M P F a c false k) (h1 : M a k = true → F k ≠ c) : BkIs M P F a c false (k + 1) := by
  refine ⟨fun h => (by cases h), fun h2 => ?_⟩
  rcases h2 with h2 | ⟨x, hx, h3, h4⟩
  · exact h.2 (Or.inl h2)
  · by_cases e : x = k
    · subst e; exact absurd h4 (h1 h3)
    · exact h.2 (Or.inr ⟨x, by omega, h3, h4⟩)
theorem mapOk_no {m n : Md} {fl : List Int} (h : ¬ fl.length = m.up.length ∨ ∃ k, ∃ hk : k < fl.length, inW n.up.length fl[k] = false) : mapOk m n fl = false := by
  unfold mapOk
  rcases h with h | ⟨k, hk, h⟩
  · simp [h]
  · have : fl.all (inW n.up.length) = false := List.all_eq_false.2 ⟨fl[k], List.getElem_mem hk, by rw [h]; decide⟩
    rw [this]; simp
theorem mapOk_yes {m n : Md} {fl : List Int} (h : fl.length = m.up.length) (h2 : ∀ k (hk : k < fl.length), inW n.up.length fl[k] = true) : mapOk m n fl = true := by
  unfold mapOk
  rw [decide_eq_true h, Bool.true_and]
  exact List.all_eq_true.2 fun x hx => by
    obtain ⟨i, hi, rfl⟩ := List.getElem_of_mem hx
    exact h2 i hi
theorem inW_ok {n : Nat} {x : Int} : inW n x = true ↔ 0 ≤ x ∧ x < n := by
  unfold inW
  simp
theorem lat_oc {w : World} {B O n : Nat} {Ra : Nat → Nat} {M : Nat → Nat → Bool} (h : Ob w B O n n Ra M) : ∀ W, Below w.heap.size w W → Oc W O n Ra M := fun W hW => (h.later hW).oc
end Go.Proofs.Ytoedidbbjnnpnaa.Wm
