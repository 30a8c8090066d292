/-
  What the search answers is right, each sequent has one step, there are as many as were entered. No condition but that the rows are a table's and the sequent is right.
-/
import Derived.Test.YtkejippimkjjaaaGreatDoorKG2
import Derived.Test.YtkejippimkjjaaaGreatDoorZG6
namespace Go.Proofs.YtkejippimkjjaaaGreatDoor
open Fm (Nd)
open Bt.Bs (Ok wd)
set_option linter.unusedSimpArgs false

theorem apply_ru {t : List Nd} (hO : Fm.Ok t) {r : List Nat} (hr : Ok r) {g : Int} (hq : rightQ t r g = true) (h14 : (applyF t r g).1 ≠ 14) : (applyF t r g).1 ≤ 10 := by
  have e : tl1 r g (sidesF t r g) sureT = sureT.flatMap (fl t r g) := tl1_fl hO hr hq sureT (fun u hu => List.mem_append_left _ hu)
  unfold applyF at *
  rw [e] at h14 ⊢
  cases hh : sureT.flatMap (fl t r g) with
  | nil => rw [hh] at h14; exact absurd rfl h14
  | cons x l =>
    have hx : x ∈ sureT.flatMap (fl t r g) := by rw [hh]; exact List.mem_cons_self ..
    obtain ⟨u, hu, hx⟩ := List.mem_flatMap.1 hx
    unfold fl at hx
    obtain ⟨i, _, hx⟩ := List.mem_flatMap.1 hx
    unfold flk at hx
    rw [List.drop_zero] at hx
    obtain ⟨k, hk, hx⟩ := List.mem_flatMap.1 hx
    unfold oneD at hx
    split at hx
    · obtain rfl := List.mem_singleton.1 hx
      show k ≤ 10
      have : ∀ u ∈ sureT, ∀ k ∈ u, k ≤ 10 := by decide
      exact this u hu k hk
    · cases hx
theorem cho_ru {t : List Nd} (hO : Fm.Ok t) {r : List Nat} (hr : Ok r) {g : Int} (hq : rightQ t r g = true) {c : Int × Int} (hc : c ∈ choF t r g) : 11 ≤ c.1 := by
  rw [cho_fl hO hr hq] at hc
  split at hc
  · rcases List.mem_append.1 hc with hc | hc
    · split at hc
      · rcases List.mem_cons.1 hc with rfl | hc
        · exact Int.le_refl 11
        · obtain rfl := List.mem_singleton.1 hc
          show (11 : Int) ≤ 12
          decide
      · cases hc
    · unfold fli at hc
      obtain ⟨i, _, hx⟩ := List.mem_flatMap.1 hc
      unfold flk at hx
      rw [List.drop_zero] at hx
      obtain ⟨k, hk, hx⟩ := List.mem_flatMap.1 hx
      unfold oneD at hx
      split at hx
      · obtain rfl := List.mem_singleton.1 hx
        obtain rfl := List.mem_singleton.1 hk
        show (11 : Int) ≤ 13
        decide
      · cases hx
  · cases hc
theorem prem_all {t : List Nd} (hO : Fm.Ok t) {s : SQ} (hr : Ok s.1) (hq : rgt t.length s) {ru main : Int} (hf : findF t s.1 s.2 ru main = true) (h0 : (premF t s.1 s.2 ru main).2.2 = 0) :
    Fm.Ok (premF t s.1 s.2 ru main).2.1 ∧ Ext t (premF t s.1 s.2 ru main).2.1 ∧ (∀ p ∈ (premF t s.1 s.2 ru main).1, rgt (premF t s.1 s.2 ru main).2.1.length p ∧ Ok p.1) ∧ ∀ W, Wt (premF t s.1 s.2 ru main).2.1 W → ∀ p ∈ (premF t s.1 s.2 ru main).1, mu W p < mu W s := by
  obtain ⟨i, _, hi, hpc, hO'⟩ := prem_pc hO hr (ref_zero hr hq) hf h0
  have h1 := pc_right hO' hr hi hpc hq
  have h2 := (prem_rows (t := t) hr s.2 ru main).1
  exact ⟨hO', pc_ext hpc, fun p hp => ⟨h1.2 p hp, h2 p hp⟩, fun W hW => pc_less hO' hr hi hpc hW⟩
theorem Pst.same {B : Nat} {R : Rs} {s : SQ} {q : Rs × Int × Nat} (h : Pst B R s q) : Gd q.1 := h.gd
structure Pnt (B : Nat) (R : Rs) (s : SQ) (q : Rs × Int × Stp) : Prop where
  way : Wy B R s q.1 q.2.1
  tru : q.2.1 = 0 → q.2.2.s = s ∧ Tru q.1.t q.2.2 ∧ Kid q.1.st q.2.2.pv q.2.2.kd
theorem Pnt.trans {B : Nat} {R R1 : Rs} {s : SQ} {q : Rs × Int × Stp} (h : Wy B R s R1 0) (k : Pnt B R1 s q) : Pnt B R s q := ⟨h.trans k.way, k.tru⟩
theorem fol_rule {B : Nat} {d : Dcd} (hd : Dsp B d) {t0 : List Nd} (hO : Fm.Ok t0) {s : SQ} (hr : Ok s.1) (hq : rgt t0.length s) {ru main : Int} (hf : findF t0 s.1 s.2 ru main = true) (h0 : (premF t0 s.1 s.2 ru main).2.2 = 0) {R : Rs} (hG : Gd R) (hB : R.vs ≤ B) (hE : Ext (premF t0 s.1 s.2 ru main).2.1 R.t) (hv : 11 ≤ ru → ∀ p ps, (premF t0 s.1 s.2 ru main).1 = p :: ps → Val R.t p) :
    Pnt B R s (folF d R ⟨s, false, ru, main, []⟩ (premF t0 s.1 s.2 ru main).1) := by
  obtain ⟨i, _, hi, hpc, hO'⟩ := prem_pc hO hr (ref_zero hr hq) hf h0
  obtain ⟨_, hE0, hp, hm⟩ := prem_all hO hr hq hf h0
  obtain ⟨a1, a2⟩ := fol_post hd (premF t0 s.1 s.2 ru main).1 R ⟨s, false, ru, main, []⟩ hG hB (fun p hh => ⟨rgt_ext hE (hp p hh).1, (hp p hh).2⟩) (fun W hW p hh => hm W (hW.ext hE) p hh) rfl (fun j hj => by cases hj)
  refine ⟨a1, fun he => ?_⟩
  obtain ⟨b1, b2, b3⟩ := a2 he
  have hET := hE.trans a1.ext
  have hqs : rgt (premF t0 s.1 s.2 ru main).2.1.length s := rgt_ext hE0 hq
  refine ⟨b1, ⟨by rw [b1]; exact hr, by rw [b1]; exact rgt_ext hET hqs, fun hy => ?_, fun hy => ?_⟩, b2⟩
  · rcases b3 with ⟨_, b4⟩ | ⟨b4, _⟩
    · rw [b1]
      exact (pc_val hO' hr hi hq hpc fun p hh => (b4 p hh).back hO' a1.gd.ok (hp p hh).1 hET).ext hET
    · rw [hy] at b4; cases b4
  · rcases b3 with ⟨b4, _⟩ | ⟨_, p, hh, b4⟩
    · rw [hy] at b4; cases b4
    · rw [b1]
      have hb := b4.back hET
      have hsure : ru < 11 → Ref (premF t0 s.1 s.2 ru main).2.1 s := fun hlt => pc_ref hO' hr hi hpc (by omega) (by omega) hh (fun h => by omega) hb
      by_cases hlt : ru < 11
      · exact (hsure hlt).ext hO' a1.gd.ok hqs hET
      have hv := hv (by omega)
      generalize hl : (premF t0 s.1 s.2 ru main).1 = l at *
      generalize (premF t0 s.1 s.2 ru main).2.1 = t' at *
      have hnot : ∀ p' ps, l = p' :: ps → p ≠ p' := fun p' ps e1 e2 => by
        subst e2
        exact val_ref ((hv p ps e1).ext a1.ext) b4
      refine (pc_ref hO' hr hi hpc ?_ ?_ hh ?_ hb).ext hO' a1.gd.ok hqs hET
      · rintro rfl
        cases hpc
        exact hnot _ _ rfl (List.mem_singleton.1 hh)
      · rintro rfl
        cases hpc
        exact hnot _ _ rfl (List.mem_singleton.1 hh)
      · rintro rfl
        cases hpc
        rcases List.mem_cons.1 hh with e | e
        · exact absurd e (hnot _ _ rfl)
        · rw [List.mem_singleton.1 e]
          exact ⟨rfl, _, rfl⟩
def RefR (T : List Nd) (s : SQ) : Prop := rgt T.length s ∧ Ref T s
theorem RefR.ext {t t1 : List Nd} (hO : Fm.Ok t) (hO1 : Fm.Ok t1) {s : SQ} (h : RefR t s) (e : Ext t t1) : RefR t1 s := ⟨rgt_ext e h.1, h.2.ext hO hO1 h.1 e⟩
structure ChR (t T : List Nd) (r : List Nat) (g : Int) (c : Int × Int) : Prop where
  c11 : c.1 = 11 → ∀ x y : Nat, nodeOf t g = joinN 4 x y → RefR T (r, (x : Int))
  c12 : c.1 = 12 → ∀ x y : Nat, nodeOf t g = joinN 4 x y → RefR T (r, (y : Int))
  c13 : c.1 = 13 → ∀ i x y c2 d2 : Nat, c.2 = (i : Int) → i < t.length → nodeOf t (i : Int) = joinN 5 x y → x < t.length → nodeOf t (x : Int) = joinN 5 c2 d2 → ∃ f, f < T.length ∧ nodeOf T (f : Int) = joinN 5 d2 y ∧ RefR T (Bt.Bs.put (Bt.Bs.drop r i) f, (x : Int))
theorem ChR.ext {t T T1 : List Nd} {r : List Nat} {g : Int} {c : Int × Int} (h : ChR t T r g c) (hO : Fm.Ok T) (hO1 : Fm.Ok T1) (e : Ext T T1) : ChR t T1 r g c :=
  ⟨fun h1 x y hn => (h.c11 h1 x y hn).ext hO hO1 e, fun h1 x y hn => (h.c12 h1 x y hn).ext hO hO1 e, fun h1 i x y c2 d2 h2 h3 h4 h5 h6 => by
    obtain ⟨f, a1, a2, a3⟩ := h.c13 h1 i x y c2 d2 h2 h3 h4 h5 h6
    exact ⟨f, Nat.lt_of_lt_of_le a1 e.len, by rw [e.nod f a1]; exact a2, a3.ext hO hO1 e⟩⟩
theorem pc_cons {t : List Nd} {r : List Nat} {g : Int} {i : Nat} {ru : Int} {l : List SQ} {t' : List Nd} (hru : 11 ≤ ru) (h : PC t r g i ru l t') : ∃ p ps, l = p :: ps := by
  cases h <;> first | exact ⟨_, _, rfl⟩ | (exfalso; revert hru; decide)
theorem nat_inj {a b : Nat} (h : (a : Int) = (b : Int)) : a = b := by omega
theorem chs_post {B : Nat} {d : Dcd} (hd : Dsp B d) {t0 : List Nd} (hO : Fm.Ok t0) {s : SQ} (hr : Ok s.1) (hq : rgt t0.length s) (h14 : (applyF t0 s.1 s.2).1 = 14) : ∀ (cs : List (Int × Int)) (R : Rs) (ks : List Nat), Gd R → R.vs ≤ B → Ext t0 R.t → (∀ c ∈ cs, c ∈ choF t0 s.1 s.2) → (∀ c ∈ choF t0 s.1 s.2, c ∈ cs ∨ ChR t0 R.t s.1 s.2 c) → Kid R.st false ks → Pnt B R s (chsF d s R cs ks)
  | [], R, ks, hG, hB, hE, _, hc, hk => by
    unfold chsF
    refine ⟨Wy.refl _ hG hB _, fun _ => ⟨rfl, ⟨hr, rgt_ext hE hq, fun h => (by cases h), fun _ => ?_⟩, hk⟩⟩
    have hh := cho_has hO hr hq h14
    have hc : ∀ c ∈ choF t0 s.1 s.2, ChR t0 R.t s.1 s.2 c := fun c hm => by
      rcases hc c hm with h | h
      · cases h
      · exact h
    refine stuck_ref hO hG.ok hE hr hq (open_of hO hr hq h14) ⟨fun x y hn => ?_, fun i x y c2 d2 hi hm hn hn2 => ?_⟩
    · have h4 : (nodeOf t0 s.2).k = 4 := by rw [hn]; rfl
      exact ⟨((hc _ (hh.1 h4).1).c11 rfl x y hn).2, ((hc _ (hh.1 h4).2).c12 rfl x y hn).2⟩
    · have hxi : x < i := by
        have hk5 : t0[i].k = 5 := by rw [← nodeOf_nat hi, hn]; rfl
        obtain ⟨x', y', e, lx, _, _, _⟩ := join_of hO hi hk5 (by omega)
        rw [hn] at e
        have := nat_inj (join_inj e).1
        omega
      obtain ⟨f, a1, a2, a3⟩ := (hc _ (hh.2 i x y c2 d2 hi hm hn hxi hn2)).c13 rfl i x y c2 d2 rfl hi hn (by omega) hn2
      exact ⟨f, a1, a2, a3.2⟩
  | c :: cs, R, ks, hG, hB, hE, hcs, hc, hk => by
    have hcm := hcs c (List.mem_cons_self ..)
    have hq1 := rgt_ext hE hq
    have hru := cho_ru hO hr (rgt_iff.2 hq) hcm
    have hf0 := cho_mem hO hr hcm
    have hf : findF R.t s.1 s.2 c.1 c.2 = true := by
      have hh : Fm.has t0 c.2 = true := by
        unfold findF at hf0
        simp only [Bool.and_eq_true] at hf0
        exact hf0.1.1
      have hh := Fm.has_iff.1 hh
      obtain ⟨n, hn⟩ : ∃ n : Nat, c.2 = n := ⟨c.2.toNat, by omega⟩
      rw [hn] at hf0 ⊢
      exact find_ext hO hE (by omega) hf0
    unfold chsF
    by_cases he : (premF R.t s.1 s.2 c.1 c.2).2.2 ≠ 0
    · rw [if_pos he, prem_err he]
      exact ⟨Wy.refl _ hG hB _, fun h => absurd h he⟩
    rw [if_neg he]
    have he : (premF R.t s.1 s.2 c.1 c.2).2.2 = 0 := by simpa using he
    obtain ⟨hO1, hE1, hp, hm⟩ := prem_all hG.ok hr hq1 hf he
    have hfr := fun R2 (hG2 : Gd R2) hB2 hE2 => fol_rule (R := R2) hd hG.ok hr hq1 hf he hG2 hB2 hE2
    obtain ⟨i, hmain, hi, hpc, _⟩ := prem_pc hG.ok hr (ref_zero hr hq1) hf he
    generalize hpl : (premF R.t s.1 s.2 c.1 c.2).1 = l at *
    generalize (premF R.t s.1 s.2 c.1 c.2).2.1 = t1 at *
    obtain ⟨p, ps, rfl⟩ : ∃ p ps, l = p :: ps := pc_cons hru hpc
    rw [show (p :: ps).headD (Bt.Bs.zero, 0) = p from rfl]
    have hG1 := hG.grow hO1 hE1
    have hw1 : Wy B R s ⟨t1, R.st, R.vs⟩ 0 := Wy.grow s hG hB hO1 hE1 0
    have h1 := hd ⟨t1, R.st, R.vs⟩ p hG1 hB (hp p (List.mem_cons_self ..)).1 (hp p (List.mem_cons_self ..)).2
    generalize hqd : d ⟨t1, R.st, R.vs⟩ p = q at *
    have hw := h1.way (s := s) (fun W hW => hm W hW p (List.mem_cons_self ..))
    by_cases he2 : q.2.1 ≠ 0
    · rw [if_pos he2]
      exact ⟨hw1.trans hw, fun h => absurd h he2⟩
    rw [if_neg he2]
    have he2 : q.2.1 = 0 := by simpa using he2
    rw [he2] at hw
    have hw2 := hw1.trans hw
    obtain ⟨y, hy, hys, htr⟩ := h1.at he2
    rw [getD_some hy]
    by_cases hpv : y.pv = true
    · rw [if_pos hpv]
      have hv := htr.yes hpv
      rw [hys] at hv
      exact Pnt.trans hw2 (hfr q.1 h1.gd h1.vs.2 h1.ext fun _ p' ps' e => by
        injection e with e1 e2
        rw [← e1]
        exact hv)
    · rw [if_neg hpv]
      have hpv : y.pv = false := by simpa using hpv
      have hv := htr.no hpv
      have hrg := htr.rg
      rw [hys] at hv hrg
      refine Pnt.trans hw2 (chs_post hd hO hr hq h14 cs q.1 (ks ++ [q.2.2]) h1.gd h1.vs.2 (hE.trans hw2.ext) (fun c' hc' => hcs c' (List.mem_cons_of_mem _ hc')) (fun c' hc' => ?_) (fun j hj => ?_))
      · rcases hc c' hc' with h | h
        · rcases List.mem_cons.1 h with rfl | h
          · refine Or.inr ?_
            have hRp : RefR q.1.t p := ⟨hrg, hv⟩
            have hgn : ∀ x y : Nat, nodeOf t0 s.2 = joinN 4 x y → nodeOf R.t s.2 = joinN 4 x y := fun x y hn => by
              have h2 : 0 ≤ s.2 ∧ s.2 < t0.length := hq.2
              obtain ⟨gn, hgn⟩ : ∃ gn : Nat, s.2 = gn := ⟨s.2.toNat, by omega⟩
              rw [hgn] at hn ⊢
              rw [hE.nod gn (by omega)]
              exact hn
            refine ⟨fun e x y2 hn => ?_, fun e x y2 hn => ?_, fun e i' x y2 c2 d2 e2 hi' hn hx hn2 => ?_⟩
            · rw [e] at hpc
              cases hpc with
              | orR1 x' y' hn' hx' hy' hg' =>
                have := hgn x y2 hn
                rw [hg', hn'] at this
                rw [← nat_inj (join_inj this).1]
                exact hRp
            · rw [e] at hpc
              cases hpc with
              | orR2 x' y' hn' hx' hy' hg' =>
                have := hgn x y2 hn
                rw [hg', hn'] at this
                rw [← nat_inj (join_inj this).2]
                exact hRp
            · rw [e] at hpc
              have hii : i' = i := nat_inj (e2.symm.trans hmain)
              subst hii
              cases hpc with
              | impI x' y' c' d' hn' hx' hy' hm' hn2' hc' hd' f1 t1' e1' l1 n1 =>
                rw [← hE.nod _ hi', hn'] at hn
                obtain ⟨ex, ey⟩ := join_inj hn
                have ex := nat_inj ex
                have ey := nat_inj ey
                subst ex
                subst ey
                rw [← hE.nod _ hx, hn2'] at hn2
                obtain ⟨ec, ed⟩ := join_inj hn2
                have ec := nat_inj ec
                have ed := nat_inj ed
                subst ec
                subst ed
                exact ⟨f1, Nat.lt_of_lt_of_le l1 h1.ext.len, by rw [h1.ext.nod f1 l1]; exact n1, hRp⟩
          · exact Or.inl h
        · exact Or.inr (h.ext hG.ok h1.gd.ok hw2.ext)
      · rcases List.mem_append.1 hj with hj | hj
        · exact hw2.kid hk j hj
        · obtain rfl := List.mem_singleton.1 hj
          exact ⟨y, hy, hpv⟩
theorem ent_post {B : Nat} {d : Dcd} (hd : Dsp B d) {R : Rs} {s : SQ} (hG : Gd R) (hB : R.vs ≤ B) (hq : rgt R.t.length s) (hr : Ok s.1) : Pnt B R s (entF d R s) := by
  unfold entF
  rw [if_neg (by rw [ref_zero hr hq]; simp)]
  by_cases h14 : (applyF R.t s.1 s.2).1 = 14
  · rw [if_pos h14]
    exact chs_post hd hG.ok hr hq h14 _ R [] hG hB (Ext.refl _) (fun c h => h) (fun c h => Or.inl h) (fun j hj => by cases hj)
  rw [if_neg h14]
  have hf := apply_find hG.ok hr (ref_zero hr hq) h14
  have hru := apply_ru hG.ok hr (rgt_iff.2 hq) h14
  by_cases he : (premF R.t s.1 s.2 (applyF R.t s.1 s.2).1 (applyF R.t s.1 s.2).2).2.2 ≠ 0
  · rw [if_pos he, prem_err he]
    exact ⟨Wy.refl _ hG hB _, fun h => absurd h he⟩
  rw [if_neg he]
  have he : (premF R.t s.1 s.2 (applyF R.t s.1 s.2).1 (applyF R.t s.1 s.2).2).2.2 = 0 := by simpa using he
  obtain ⟨hO1, hE1, _, _⟩ := prem_all hG.ok hr hq hf he
  exact Pnt.trans (Wy.grow s hG hB hO1 hE1 0) (fol_rule (R := ⟨_, R.st, R.vs⟩) hd hG.ok hr hq hf he (hG.grow hO1 hE1) hB (Ext.refl _) (fun h => by omega))
theorem Pnt.snoc {B : Nat} {R R0 : Rs} {s : SQ} {q : Rs × Int × Stp} (h : Pnt B R s q) (h0 : q.2.1 = 0) (ht : R0.t = R.t) (hst : R0.st = R.st) (hvs : R.vs = R0.vs + 1) (hn : look R0.st s = none) : Pst B R0 s (⟨q.1.t, q.1.st ++ [q.2.2], q.1.vs⟩, 0, q.1.st.length) := by
  obtain ⟨e1, e2, e3⟩ := h.tru h0
  obtain ⟨l, a1, a2⟩ := h.way.pre
  have hnew : ∀ x ∈ q.1.st, x.s ≠ s := fun x hx hxs => by
    rw [a1] at hx
    rcases List.mem_append.1 hx with hx | hx
    · exact (look_none _ rfl).1 hn x (by rw [hst]; exact hx) hxs
    · obtain ⟨W, hW⟩ := wt_some h.way.gd.ok
      have := a2 W hW x hx
      rw [hxs] at this
      omega
  refine ⟨by rw [ht]; exact h.way.ext, ⟨h.way.gd.ok, fun x hx => ?_, fun i j x y hx hy hs => ?_, fun i x hx => ?_⟩, ⟨l ++ [q.2.2], by rw [hst]; simp only; rw [a1, List.append_assoc], fun W hW x hx => ?_⟩, fun _ => ?_, ⟨by have := h.way.vs.1; simp only; omega, h.way.vs.2⟩, ?_⟩
  · rcases List.mem_append.1 hx with hx | hx
    · exact h.way.gd.tru x hx
    · obtain rfl := List.mem_singleton.1 hx
      exact e2
  · rcases snoc_at hx with hx | ⟨hi, rfl⟩
    · rcases snoc_at hy with hy | ⟨hj, rfl⟩
      · exact h.way.gd.one i j x y hx hy hs
      · exact absurd (hs.trans e1) (hnew x (List.mem_of_getElem? hx))
    · rcases snoc_at hy with hy | ⟨hj, rfl⟩
      · exact absurd (hs.symm.trans e1) (hnew y (List.mem_of_getElem? hy))
      · omega
  · show Kid ((q.1.st ++ [q.2.2]).take i) x.pv x.kd
    rcases snoc_at hx with hx | ⟨hi, rfl⟩
    · have hlt := (List.getElem?_eq_some_iff.1 hx).1
      rw [List.take_append_of_le_length (by omega)]
      exact h.way.gd.kid i x hx
    · rw [hi, List.take_left]
      exact e3
  · rcases List.mem_append.1 hx with hx | hx
    · exact Nat.le_of_lt (a2 W hW x hx)
    · obtain rfl := List.mem_singleton.1 hx
      rw [e1]
      exact Nat.le_refl _
  · show look (q.1.st ++ [q.2.2]) s = _
    rw [look_snoc, if_pos e1]
  · have h1 := h.way.ct.1
    have h2 := h.way.ct.2 h0
    have h3 : R0.st.length = R.st.length := by rw [hst]
    simp only [List.length_append, List.length_singleton]
    refine ⟨by omega, fun _ => by omega⟩
theorem dec_post (B : Nat) : ∀ n, Dsp B (decF B n)
  | 0 => fun R s hG hB hq hr => by
    unfold decF
    cases hl : look R.st s with
    | some p => exact ⟨Ext.refl _, hG, ⟨[], by simp, fun _ _ x hx => by cases hx⟩, fun _ => hl, ⟨Nat.le_refl _, hB⟩, ⟨by simp only; omega, fun _ => by simp only; omega⟩⟩
    | none => exact ⟨Ext.refl _, hG, ⟨[], by simp, fun _ _ x hx => by cases hx⟩, fun h => (by cases h), ⟨Nat.le_refl _, hB⟩, ⟨by simp only; omega, fun _ => by simp only; omega⟩⟩
  | n + 1 => fun R s hG hB hq hr => by
    unfold decF
    cases hl : look R.st s with
    | some p => exact ⟨Ext.refl _, hG, ⟨[], by simp, fun _ _ x hx => by cases hx⟩, fun _ => hl, ⟨Nat.le_refl _, hB⟩, ⟨by simp only; omega, fun _ => by simp only; omega⟩⟩
    | none =>
      simp only
      by_cases hv : R.vs = B
      · rw [if_pos hv]
        exact ⟨Ext.refl _, hG, ⟨[], by simp, fun _ _ x hx => by cases hx⟩, fun h => (by cases h), ⟨Nat.le_refl _, hB⟩, ⟨by simp only; omega, fun _ => by simp only; omega⟩⟩
      rw [if_neg hv]
      have hG1 : Gd ⟨R.t, R.st, R.vs + 1⟩ := ⟨hG.ok, hG.tru, hG.one, hG.kid⟩
      have h1 := ent_post (dec_post B n) (R := ⟨R.t, R.st, R.vs + 1⟩) (s := s) hG1 (by simp only; omega) hq hr
      generalize entF (decF B n) ⟨R.t, R.st, R.vs + 1⟩ s = q at *
      by_cases he : q.2.1 ≠ 0
      · rw [if_pos he]
        obtain ⟨l, a1, a2⟩ := h1.way.pre
        have a3 := h1.way.ct.1
        have a4 := h1.way.vs
        simp only at a3 a4
        exact ⟨h1.way.ext, h1.way.gd, ⟨l, a1, fun W hW x hx => Nat.le_of_lt (a2 W hW x hx)⟩, fun h => absurd h he, ⟨by simp only; omega, a4.2⟩, ⟨by simp only; omega, fun h => absurd h he⟩⟩
      · rw [if_neg he]
        exact Pnt.snoc h1 (by simpa using he) rfl rfl rfl hl
end Go.Proofs.YtkejippimkjjaaaGreatDoor
/-
  A premise loaded out of a row of sequents. No condition.
-/
namespace Go.Proofs.YtkejippimkjjaaaGreatDoor
open Go.RowKit Go.Shelf Go.Maps
open Fm (Nd)
open Bt.Bs (Ok wd)
set_option linter.unusedSimpArgs false

theorem flat_at {α : Type} (f : α → List Value) (n : Nat) : ∀ (l : List α), (∀ x ∈ l, (f x).length = n) → ∀ (i : Nat) (hi : i < l.length) (j : Nat), j < n → (l.flatMap f)[i * n + j]? = (f l[i])[j]?
  | [], _, _, hi, _, _ => absurd hi (by simp)
  | x :: l, hl, 0, _, j, hj => by
    have h1 := hl x (List.mem_cons_self ..)
    rw [List.flatMap_cons, Nat.zero_mul, Nat.zero_add, List.getElem?_append_left (by omega)]
    rfl
  | x :: l, hl, i + 1, hi, j, hj => by
    have h1 := hl x (List.mem_cons_self ..)
    have e : (i + 1) * n + j = n + (i * n + j) := by rw [Nat.add_mul]; omega
    rw [List.flatMap_cons, List.getElem?_append_right (by omega), h1, e, Nat.add_sub_cancel_left, flat_at f n l (fun y hy => hl y (List.mem_cons_of_mem _ hy)) i (by simpa using hi) j hj]
    rfl
theorem cellsQ_list (r : List Nat) (g : Int) : (cellsQ r g).toList = Bt.listB r ++ [.int .i64 g] := by simp [cellsQ, Bt.listB, Bt.cellsB]
theorem sqs_in {w : World} {q : Nat} {l : List SQ} {T : TypeId} (h : Cl w q (cellsQs l) T) (hl : ∀ s ∈ l, s.1.length = 16) {i : Nat} (hi : i < l.length) : SeqIn w q (i * 17) l[i].1 l[i].2 := fun j v hv => by
  have h16 := hl _ (List.getElem_mem hi)
  have hj := (List.getElem?_eq_some_iff.1 hv).1
  have hj' : j < 17 := by simp [Bt.listB, h16] at hj; omega
  rw [Cl.cell h]
  show (cellsQs l)[i * 17 + j]? = some v
  unfold cellsQs
  rw [List.getElem?_toArray, flat_at (fun s : SQ => (cellsQ s.1 s.2).toList) 17 l (fun s hs => by rw [cellsQ_list]; simp [Bt.listB, hl s hs]) i hi j hj', cellsQ_list]
  exact hv
theorem sqs_load {w : World} {q : Nat} {l : List SQ} {T : TypeId} (h : Cl w q (cellsQs l) T) (hl : ∀ s ∈ l, s.1.length = 16) {i : Nat} (hi : i < l.length) : (Instr.loadAt 27 (.pointer (some ⟨q, i * 17, none⟩))).run Tryz.prog w = .ok (.agg (cellsQ l[i].1 l[i].2)) w := loadQin w q (i * 17) (sqs_in h hl hi) (hl _ (List.getElem_mem hi))
theorem wpList_ldS {ops : Array Oper} {rest : List Oper} {o : Oper} {a : Act} {Q : Exit → Act → World → Prop} (w : World) (hg : Region.wanted o (yielded ops a.tmps) = true) (x : Operand) (hop : o.op = Op.load 27 x) (b k : Nat) (hx : a.eval x = .pointer (some ⟨b, k, none⟩)) {r : List Nat} {g : Int} (h : SeqIn w b k r g) (hs : r.length = 16)
    (hK : wpList Tryz.prog ops Q rest (a.put o.dst (.agg (cellsQ r g))) w) : wpList Tryz.prog ops Q (o :: rest) a w := by
  refine Bt.wpList_want hg fun K' hK' => ?_
  have hrun := loadQin w b k h hs
  unfold Oper.wp
  simp [execOp, hop, hx, hrun, Result.andThen]
  exact hK' _ _ hK
theorem SqR.form {w : World} {sv : Value} {l : List SQ} (h : SqR sv l w) : ∃ p c, sv = .slice p l.length c := by
  rcases h with ⟨rfl, rfl⟩ | ⟨q, rfl, _⟩
  · exact ⟨_, _, rfl⟩
  · exact ⟨_, _, rfl⟩
theorem SqR.later {w w' : World} {sv : Value} {l : List SQ} (h : SqR sv l w) (hb : Below w.heap.size w w') : SqR sv l w' := by
  rcases h with h | ⟨q, h1, h2⟩
  · exact Or.inl h
  · exact Or.inr ⟨q, h1, h2.later hb⟩
theorem SqR.at {w : World} {p : Option Addr} {n c : Nat} {l : List SQ} (h : SqR (.slice p n c) l w) (hl : ∀ s ∈ l, s.1.length = 16) {i : Nat} (hi : i < l.length) : ∃ q, p = some ⟨q, 0, none⟩ ∧ SeqIn w q (i * 17) l[i].1 l[i].2 := by
  rcases h with ⟨rfl, _⟩ | ⟨q, h1, h2⟩
  · simp at hi
  · obtain ⟨rfl, _, _⟩ := Value.slice.inj h1
    exact ⟨q, rfl, sqs_in h2 hl hi⟩
end Go.Proofs.YtkejippimkjjaaaGreatDoor
