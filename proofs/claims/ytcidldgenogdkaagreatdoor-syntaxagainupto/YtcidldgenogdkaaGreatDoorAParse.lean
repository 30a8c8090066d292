/-
  Plain mathematics: a text that is read is read again as the same number, in parentheses too; a text that is not leaves the rows as they were. No condition.
-/
import Derived.Test.YtcidldgenogdkaaGreatDoorAKd
import Derived.Test.YtcidldgenogdkaaGreatDoorAAgain
namespace Go.Proofs.YtcidldgenogdkaaGreatDoor
open Fm (Nd)
open Sx (T Tn Lv Rd Out tk sgn counts up stp bnd rd)

namespace Ap
def ks (y : Tk.Tok) : Bk.P := (y.1, y.2.1)
theorem over_le : ∀ (ts : List Tn) (n : Nat), n ≤ 512 → over ts n = none → n + cnt ts ≤ 512
  | [], n, h, _ => by simpa [cnt] using h
  | x :: r, n, h, ho => by
    have e : cnt (x :: r) = (if Sx.counts x then 1 else 0) + cnt r := by
      unfold cnt
      cases hc : Sx.counts x <;> simp [hc]
      omega
    have ho' : (if 512 < (if Sx.counts x then n + 1 else n) then some x else over r (if Sx.counts x then n + 1 else n)) = none := ho
    rw [e]
    by_cases hlt : 512 < (if Sx.counts x then n + 1 else n)
    · rw [if_pos hlt] at ho'; cases ho'
    · rw [if_neg hlt] at ho'
      have ih := over_le r _ (by omega) ho'
      cases hc : Sx.counts x <;> simp [hc] at ih ⊢ <;> omega
theorem map_pj (s : List UInt8) (l : List (Tk.Tok × Nat)) : (l.map (tn s)).map Bk.pj = (l.map (·.1)).map ks := by
  rw [List.map_map, List.map_map]
  refine List.map_congr_left fun y _ => ?_
  simp [Bk.pj, tn, ks]
theorem toks_map {s : List UInt8} {xs : List Tk.Tok} (h : Bk.Toks s xs) : (toks s).map Bk.pj = xs.map ks ++ [(0, [])] := by
  obtain ⟨h1, h2⟩ := Bk.toks_all s _ h
  unfold toks
  rw [if_pos h1, map_pj, h2, List.map_append]
  rfl
theorem toks_shape (s : List UInt8) : ∃ (xs : List Tk.Tok) (q : Int), (toks s).map Bk.pj = xs.map ks ++ [(q, [])] ∧ (∀ y ∈ xs, y.1 ≠ 0) ∧ ((q = 0 ∧ Bk.Toks s xs) ∨ q = -1) := by
  by_cases h : (Tk.scan s).2.1 = 0
  · obtain ⟨xs, hx⟩ := Bk.scan_toks s h
    exact ⟨xs, 0, toks_map hx, hx.kinds, Or.inl ⟨rfl, hx⟩⟩
  · have hf := (Tk.scan_first s h).2
    obtain ⟨xs, hx⟩ := Bk.scan_toks _ hf
    obtain ⟨pre, o', hp⟩ := (Tk.scan_all (s.take (Tk.scan s).2.2)).2.2 hf
    have ha := (Bk.toks_all _ _ hx).2
    rw [hp, List.map_append] at ha
    have hxs : pre.map (·.1) = xs := List.append_inj_left' ha rfl
    refine ⟨xs, -1, ?_, hx.kinds, Or.inr rfl⟩
    unfold toks
    rw [if_neg h, hp, List.map_append, List.map_singleton, mk_snoc, List.map_append, map_pj, hxs]
    rfl
section
variable {s : List UInt8} {t : List Nd}
theorem parse_bad (h : (parseR s t).1.2.1 ≠ 0) : (parseR s t).1.1 = 0 ∧ (parseR s t).2 = t := by
  unfold parseR at h ⊢
  cases ho : over (toks s) 0 with
  | some x => exact ⟨rfl, rfl⟩
  | none =>
    rw [ho] at h
    have h' : (whole true (toks s) t).1.2.2.1 ≠ 0 := h
    show (whole true (toks s) t).1.1 = 0 ∧ (whole true (toks s) t).2 = t
    unfold whole at h' ⊢
    cases hf : fin true (toks s) with
    | bad e x => exact ⟨rfl, rfl⟩
    | ok a i n =>
      rw [hf] at h'
      unfold wholeO at h' ⊢
      by_cases hp : (Sx.pt a t).2.1 = 0
      · simp only at h'
        rw [if_pos hp] at h'
        exact absurd rfl h'
      · simp only
        rw [if_neg hp]
        exact ⟨rfl, rfl⟩
theorem parse_ok (h : (parseR s t).1.2.1 = 0) : ∃ (a : T) (xs : List Tk.Tok) (m : Nat), Bk.Toks s xs ∧ rd (toks s) (8 * (toks s).length + 5) .formula 0 0 0 = some (.ok a xs.length m) ∧ cnt (toks s) ≤ 512 ∧ (Sx.pt a t).2.1 = 0 ∧ ∀ u, parseR s u = if (Sx.pt a u).2.1 = 0 then (((Sx.pt a u).1, 0, Sx.tz), (Sx.pt a u).2.2) else ((0, (Sx.pt a u).2.1, Sx.tz), u) := by
  unfold parseR at h
  cases ho : over (toks s) 0 with
  | some x =>
    rw [ho] at h
    have h' : (40 : Int) = 0 := h
    omega
  | none =>
    rw [ho] at h
    have h' : (whole true (toks s) t).1.2.2.1 = 0 := h
    have hc := over_le _ 0 (by omega) ho
    obtain ⟨o, hr, hfine⟩ := Sx.rd_total (toks s) (8 * (toks s).length + 5) .formula 0 0 0 (Nat.zero_le _) (by simp [Sx.cost])
    have hkd := rd_kd _ _ _ _ _ _ hr
    unfold whole fin at h'
    rw [hr] at h'
    cases o with
    | bad e x =>
      have h2 : e = 0 := h'
      have h3 : e = 40 ∨ e = 41 := hkd
      omega
    | ok a k m =>
      have h2 : (wholeO t (finO true (toks s) (.ok a k m))).1.2.2.1 = 0 := h'
      by_cases hk : (tk (toks s) k).k = 0
      · rw [Bk.fin_end hk] at h2
        have hp : (Sx.pt a t).2.1 = 0 := by
          have h3 : (if (Sx.pt a t).2.1 = 0 then (((Sx.pt a t).1, (k : Int), (0 : Int), Sx.tz), (Sx.pt a t).2.2) else ((0, 0, (Sx.pt a t).2.1, Sx.tz), t)).1.2.2.1 = 0 := h2
          by_cases hp : (Sx.pt a t).2.1 = 0
          · exact hp
          · rw [if_neg hp] at h3; exact h3
        obtain ⟨xs, q, hm, hnz, hq⟩ := toks_shape s
        have hat : ∀ j (hj : j < (xs.map ks ++ [(q, [])]).length), Bk.pj (tk (toks s) j) = (xs.map ks ++ [(q, [])])[j] := fun j hj => by
          have := Bk.tk_pj (ts := toks s) (j := j) (by rw [hm]; exact hj)
          rw [this, List.getElem_of_eq hm]
        have hkx : k ≤ xs.length := by
          rcases Nat.lt_or_ge xs.length k with hlt | hge
          · have h3 := hkd.2 xs.length (Nat.zero_le _) hlt
            have h4 := congrArg Prod.fst (hat xs.length (by simp))
            rw [List.getElem_append_right (by simp)] at h4
            have h5 : (tk (toks s) xs.length).k = q := by simpa [Bk.pj] using h4
            rcases hq with ⟨hq, _⟩ | hq <;> omega
          · exact hge
        have hkeq : k = xs.length := by
          rcases Nat.lt_or_ge k xs.length with hlt | hge
          · have h4 := congrArg Prod.fst (hat k (by simp; omega))
            rw [List.getElem_append_left (by simpa using hlt), List.getElem_map] at h4
            have h5 : (tk (toks s) k).k = xs[k].1 := h4
            exact absurd (h5.symm.trans hk) (hnz _ (List.getElem_mem hlt))
          · omega
        subst hkeq
        have h4 := congrArg Prod.fst (hat xs.length (by simp))
        rw [List.getElem_append_right (by simp)] at h4
        have h5 : (tk (toks s) xs.length).k = q := by simpa [Bk.pj] using h4
        have hT : Bk.Toks s xs := by
          rcases hq with ⟨_, hq⟩ | hq
          · exact hq
          · omega
        refine ⟨a, xs, m, hT, hr, by omega, hp, fun u => ?_⟩
        have hw : whole true (toks s) u = wholeO u (.ok a xs.length m) := by
          unfold whole fin
          rw [hr]
          show wholeO u (finO true (toks s) (.ok a xs.length m)) = _
          rw [Bk.fin_end hk]
        unfold parseR
        rw [ho]
        show (((whole true (toks s) u).1.1, (whole true (toks s) u).1.2.2.1, (whole true (toks s) u).1.2.2.2), (whole true (toks s) u).2) = _
        rw [hw]
        unfold wholeO
        by_cases hpu : (Sx.pt a u).2.1 = 0
        · simp only
          rw [if_pos hpu, if_pos hpu]
        · simp only
          rw [if_neg hpu, if_neg hpu]
      · rw [Bk.fin_not hk] at h2
        have h3 : (if 512 < up (toks s) k m then (40 : Int) else 41) = 0 := h2
        split at h3 <;> omega
/-- Once more the same. -/
theorem parse_again (hT : Fm.Ok t) (h : (parseR s t).1.2.1 = 0) : (parseR s t).1 = ((parseR s t).1.1, 0, Sx.tz) ∧ (∃ v, (parseR s t).2 = t ++ v) ∧ Fm.Ok (parseR s t).2 ∧ parseR s (parseR s t).2 = (((parseR s t).1.1, 0, Sx.tz), (parseR s t).2) ∧ (s.length < 1000 → parseR (40 :: (s ++ [10, 41])) (parseR s t).2 = (((parseR s t).1.1, 0, Sx.tz), (parseR s t).2)) := by
  obtain ⟨a, xs, m, hx, hr, hc, hp, hall⟩ := parse_ok h
  have hwf : Sx.Wf a := Sx.rd_wf _ _ .formula _ _ _ _ trivial hr
  have hres := Sx.pt_res a hT hwf
  have hag := Ag.pt_again hT hwf hp
  have e := hall t
  rw [if_pos hp] at e
  rw [e]
  refine ⟨rfl, hres.pre, hres.ok, ?_, fun hlen => ?_⟩
  · have e2 := hall (Sx.pt a t).2.2
    rw [hag, if_pos rfl] at e2
    exact e2
  · have hx2 : Bk.Toks (40 :: ([] ++ (s ++ 10 :: [41]))) ((3, [40], 0) :: (xs ++ [(3, [41], 0)])) := by
      refine Bk.Toks.sign (hx.line ?_) (c := 40) (x := []) (by decide) (by decide) (Bk.cut_open _)
      exact Bk.Toks.sign (r := []) (Bk.Toks.nil [] rfl) (c := 41) (x := []) (by decide) (by decide) (Bk.cut_shut [])
    have hm1 := toks_map hx
    have hm2 := toks_map hx2
    rw [List.nil_append] at hm2 hx2
    have hN : xs.length ≤ 1000 := by
      have h1 := (toks_ok s).2.1
      have h2 := congrArg List.length hm1
      rw [List.length_map, List.length_append, List.length_map, List.length_singleton] at h2
      omega
    have hc2 : cnt (toks (40 :: (s ++ [10, 41]))) ≤ 512 := by
      rw [Bk.cnt_pj, hm1, Bk.cn_app] at hc
      rw [Bk.cnt_pj, hm2, Bk.cn_app]
      rw [List.map_cons, List.map_append, Bk.cn_cons, Bk.cn_app]
      have e1 : Bk.cn [((0 : Int), ([] : List UInt8))] = 0 := rfl
      have e2 : Bk.cn (List.map ks [((3 : Int), ([41] : List UInt8), (0 : Int))]) = 0 := rfl
      have e3 : (if Bk.ct (ks (3, [40], 0)) = true then 1 else 0) = 0 := rfl
      omega
    generalize toks s = t1 at *
    generalize htt : toks (40 :: (s ++ [10, 41])) = t2 at *
    have hsh : Sh t1 t2 xs.length := by
      refine ⟨fun j hj => ?_, ?_, ?_⟩
      · have h1 := Bk.tk_pj (ts := t1) (j := j) (by rw [hm1]; simp; omega)
        have h2 := Bk.tk_pj (ts := t2) (j := j + 1) (by rw [hm2]; simp; omega)
        rw [h1, h2, List.getElem_of_eq hm1, List.getElem_of_eq hm2]
        simp [hj]
      · have h1 := Bk.tk_pj (ts := t1) (j := xs.length) (by rw [hm1]; simp)
        rw [List.getElem_of_eq hm1] at h1
        have := congrArg Prod.fst h1
        simpa [Bk.pj] using this
      · have h2 := Bk.tk_pj (ts := t2) (j := xs.length + 1) (by rw [hm2]; simp)
        rw [h2, List.getElem_of_eq hm2]
        simp [ks]
    have h0 : Bk.pj (tk t2 0) = (3, Sx.sOpen) := by
      have h2 := Bk.tk_pj (ts := t2) (j := 0) (by rw [hm2]; simp)
      rw [h2, List.getElem_of_eq hm2]
      simp [ks]
    have hE : (tk t2 (xs.length + 2)).k = 0 := by
      have h2 := Bk.tk_pj (ts := t2) (j := xs.length + 2) (by rw [hm2]; simp)
      rw [List.getElem_of_eq hm2] at h2
      have := congrArg Prod.fst h2
      simpa [Bk.pj] using this
    have hm512 : m ≤ 512 := (Sx.rd_fine _ _ _ _ _ _ _ (Nat.zero_le _) hr _ _ _ rfl).2.2 (by omega)
    obtain ⟨_, hs2⟩ := sim hsh hN _ _ _ _ _ (Nat.zero_le _) (Nat.le_refl _) _ _ _ hr
    have hs0 : ∀ g, sgn (tk t2 (xs.length + 2)) g = false := fun g => by
      unfold Sx.sgn
      rw [hE]
      rfl
    have hsin : Rd t2 .single 0 0 0 (.ok a (xs.length + 2) m) := Rd.paren (by rw [sgn_pj, h0]; decide) (by rw [sgn_pj, h0]; decide) (by omega) (by rw [Bk.counts_pj, h0]; decide) (by omega) ⟨_, hs2⟩ (by rw [sgn_pj, hsh.e2]; decide) (by rw [Bk.counts_pj, hsh.e2]; decide) hm512
    have hfo : Rd t2 .formula 0 0 0 (.ok a (xs.length + 2) m) := Rd.formula (Rd.implied (Rd.joined (Rd.both hsin (Rd.andsEnd (hs0 _))) (Rd.orsEnd (hs0 _))) (hs0 _)) (hs0 _)
    have hR := Bk.whole_of hfo
    have hov : over t2 0 = none := Bk.over_none t2 0 (by omega)
    have hw : ∀ u, whole true t2 u = wholeO u (.ok a (xs.length + 2) m) := fun u => by
      unfold whole fin
      rw [hR]
      show wholeO u (finO true t2 (.ok a (xs.length + 2) m)) = _
      rw [Bk.fin_end hE]
    unfold parseR
    rw [htt, hov]
    show (((whole true t2 (Sx.pt a t).2.2).1.1, (whole true t2 (Sx.pt a t).2.2).1.2.2.1, (whole true t2 (Sx.pt a t).2.2).1.2.2.2), (whole true t2 (Sx.pt a t).2.2).2) = _
    rw [hw]
    unfold wholeO
    simp only
    rw [hag]
    simp only [if_true]
end
end Ap
end Go.Proofs.YtcidldgenogdkaaGreatDoor
