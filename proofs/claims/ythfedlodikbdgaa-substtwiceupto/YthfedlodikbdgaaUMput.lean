/-
  What a pattern tells, put into it, makes the formula. No condition.
-/
import Derived.Test.YthfedlodikbdgaaUMref
import Derived.Test.YthfedlodikbdgaaUSimp
import Derived.Test.YthfedlodikbdgaaUPW
namespace Go.Proofs.Ythfedlodikbdgaa
open Fm (Nd)

theorem dist_perm {a b : Sb.Hs} (hp : a.Perm b) (h : Sb.Dist b) : Sb.Dist a := by
  unfold Sb.Dist at *
  exact (hp.map (fun x => x.1)).nodup_iff.2 h
theorem look_dist {l : Sb.Hs} (hd : Sb.Dist l) {s : ByteArray} {x : Int} (hm : (s, x) ∈ l) : Sb.look l s = some x := by
  cases hq : Sb.look l s with
  | none =>
    have := (look_isSome l s).2 (List.mem_map.2 ⟨(s, x), hm, rfl⟩)
    rw [hq] at this
    cases this
  | some f =>
    have h1 := Sb.look_mem hq
    obtain ⟨i, hi, e1⟩ := List.mem_iff_getElem.1 hm
    obtain ⟨j, hj, e2⟩ := List.mem_iff_getElem.1 h1
    by_cases e : i = j
    · subst e
      rw [e1] at e2
      cases e2
      rfl
    · exfalso
      unfold Sb.Dist at hd
      rcases Nat.lt_or_gt_of_ne e with h | h
      · exact List.pairwise_iff_getElem.1 hd i j (by simpa using hi) (by simpa using hj) h (by simp [e1, e2])
      · exact List.pairwise_iff_getElem.1 hd j i (by simpa using hj) (by simpa using hi) h (by simp [e1, e2])
theorem bot_inj {t : List Nd} (h : Fm.Ok t) {a b : Nat} (la : a < t.length) (lb : b < t.length) (ka : (Ms.row t a).k = 2) (kb : (Ms.row t b).k = 2) : a = b := by
  refine Sb.row_inj h la lb ?_
  rcases Sb.row_kind h la with r | r | r
  · rw [r.1] at ka; cases ka
  · rcases Sb.row_kind h lb with q | q | q
    · rw [q.1] at kb; cases kb
    · generalize Ms.row t a = x at *
      generalize Ms.row t b = z at *
      obtain ⟨xk, xs, xl, xr⟩ := x
      obtain ⟨zk, zs, zl, zr⟩ := z
      simp only at r q
      obtain ⟨rfl, _, rfl, rfl, rfl⟩ := r
      obtain ⟨rfl, _, rfl, rfl, rfl⟩ := q
      rfl
    · exact absurd kb q.2.2.1
  · exact absurd ka r.2.2.1
/-- What fits, as what is put. -/
theorem fits_put {t : List Nd} (h : Fm.Ok t) {pat : Nat} (hp : pat < t.length) {y : Nat → Int} (hy : Sb.Fits t pat y) (hh : ∀ j ∈ Fm.below t pat, Fm.has t (y j) = true) {l : Sb.Hs} (hW : Sb.Words l)
    (ha : ∀ i ∈ Fm.below t pat, (Ms.row t i).k = 1 → Sb.look l (Ms.row t i).s = some (y i)) : Sb.anew (Sb.putF l) t pat = (y pat, 0, t) := by
  refine Sb.anew_fix h hp y fun i hi => ?_
  have li : i < t.length := by have := Ms.below_lt t pat i hi; omega
  unfold Sb.putF
  have hhi := hh i hi
  obtain ⟨q0, q1⟩ := Fm.has_iff.1 hhi
  rcases Sb.row_kind h li with r | r | r
  · have e : Sb.rowI t y i = Ms.row t i := by unfold Sb.rowI; rw [if_neg (by rw [r.2.1]; simp)]
    rw [e, ha i hi r.1]
  · have e : Sb.rowI t y i = Ms.row t i := by unfold Sb.rowI; rw [if_neg (by rw [r.2.1]; simp)]
    rw [e, r.2.2.1, Sb.look_empty hW]
    have hk := (hy i hi (by rw [r.1]; decide)).1
    rw [Sb.nd_in hhi, r.1] at hk
    have := bot_inj h li (b := (y i).toNat) (by omega) r.1 hk.symm
    rw [show y i = ((i : Nat) : Int) from by omega]
    exact Sb.put_self h li
  · rw [Sb.rowI_at h li y r.1]
    simp only
    rw [Sb.look_empty hW]
    obtain ⟨h1, h2⟩ := hy i hi r.2.1
    obtain ⟨h3, h4⟩ := h2 r.1
    have lx : (y i).toNat < t.length := by omega
    have hrow : Ms.row t (y i).toNat = ⟨(Ms.row t i).k, ⟨#[]⟩, y (Ms.row t i).l.toNat, y (Ms.row t i).r.toNat⟩ := by
      rw [Sb.nd_in hhi] at h1 h3 h4
      have hs : (Ms.row t (y i).toNat).s = ⟨#[]⟩ := by
        rcases Sb.row_kind h lx with z | z | z
        · rw [← h1] at z; exact absurd z.1 r.2.1
        · exact z.2.2.1
        · exact z.2.2.2
      generalize Ms.row t (y i).toNat = m at *
      obtain ⟨mk, ms, ml, mr⟩ := m
      simp only at h1 h3 h4 hs
      rw [h1, h3, h4, hs]
    have := Sb.put_there h lx hrow
    rw [this]
    simp only [Prod.mk.injEq, and_true]
    omega
/-- What Match tells makes the formula of the pattern. -/
theorem match_put {t : List Nd} (h : Fm.Ok t) {pat id : Int} (hm : (matchR t pat id).2.1 = true) : Sb.putR t pat (matchR t pat id).1 = (id, 0, t) := by
  unfold matchR at hm ⊢
  rcases refR_vals t [pat, id] with ⟨h0, h1⟩ | h0
  · rw [if_pos h0] at hm ⊢
    have hpat := h1 pat (by simp)
    have hid := h1 id (by simp)
    obtain ⟨q0, q1⟩ := Fm.has_iff.1 hpat
    have hp : pat.toNat < t.length := by omega
    by_cases hg : (Sb.mrun t (Fm.below t pat.toNat).reverse pat.toNat id).2.2 = true
    · rw [if_pos hg] at hm ⊢
      simp only
      have hd := match_dist h hp hid hg
      obtain ⟨y, hy, hy0, hh⟩ := Sb.match_told h hp hid hg
      have hm2 := congrArg Prod.fst (Sb.match_is h hp hy hy0)
      simp only at hm2
      rw [hm2] at hd ⊢
      have hperm := srt_perm (Sb.atomsOf t y (Fm.below t pat.toNat).reverse)
      have hmem : ∀ z ∈ srt (Sb.atomsOf t y (Fm.below t pat.toNat).reverse), ∃ i ∈ Fm.below t pat.toNat, (Ms.row t i).k = 1 ∧ z = ((Ms.row t i).s, y i) := fun z hz => by
        have h2 := hperm.mem_iff.1 hz
        unfold Sb.atomsOf at h2
        obtain ⟨i, hi, e⟩ := List.mem_map.1 h2
        obtain ⟨hi1, hi2⟩ := List.mem_filter.1 hi
        exact ⟨i, by simpa using hi1, of_decide_eq_true hi2, e.symm⟩
      have hwords : Sb.Words (srt (Sb.atomsOf t y (Fm.below t pat.toNat).reverse)) := fun z hz => by
        obtain ⟨i, hi, hk, rfl⟩ := hmem z hz
        have li : i < t.length := by have := Ms.below_lt t pat.toNat i hi; omega
        rcases Sb.row_kind h li with r | r | r
        · exact r.2.2.2.2
        · rw [r.1] at hk; cases hk
        · exact absurd hk r.2.1
      rw [(putR_ways t pat _).1 ⟨hpat, fun z hz => by
        obtain ⟨i, hi, _, rfl⟩ := hmem z hz
        exact hh i hi, dist_perm hperm hd, hwords⟩, fits_put h hp hy hh hwords fun i hi hk => look_dist (dist_perm hperm hd) (hperm.mem_iff.2 (by
        unfold Sb.atomsOf
        exact List.mem_map.2 ⟨i, List.mem_filter.2 ⟨by simpa using hi, decide_eq_true hk⟩, rfl⟩)), hy0]
    · rw [if_neg hg] at hm
      cases hm
  · rw [if_neg (by rw [h0]; decide)] at hm
    cases hm
end Go.Proofs.Ythfedlodikbdgaa
