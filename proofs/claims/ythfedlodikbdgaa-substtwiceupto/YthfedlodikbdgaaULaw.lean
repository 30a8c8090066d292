/-
  What is below a formula; formulas as trees; what is put, put twice, and made simple. No condition.
-/
import Derived.Test.YthfedlodikbdgaaUPure
namespace Go.Proofs.Ythfedlodikbdgaa.Sb
open Fm (Nd)
open Ms (row row_at)

/-! ### below -/
theorem mark_other {t : List Nd} (h : Fm.Ok t) : ∀ (k : Nat) (f : Nat → Bool) (j : Nat), k ≤ t.length → k ≤ j + 1 → Fm.mark t k f j = f j
  | 0, _, _, _, _ => rfl
  | k + 1, f, j, hk, hj => by
    show Fm.mark t k (if f k && Fm.jn (row t k).k then Fm.upd (Fm.upd f (row t k).l.toNat) (row t k).r.toNat else f) j = f j
    rw [mark_other h k _ j (by omega) (by omega)]
    split
    · rename_i hc
      have hp := Ms.parts_lt h (i := k) (by omega) (by simp at hc; exact hc.2)
      unfold Fm.upd
      rw [if_neg (by omega), if_neg (by omega)]
    · rfl
theorem mark_mono {t : List Nd} : ∀ (k : Nat) (f : Nat → Bool) (j : Nat), f j = true → Fm.mark t k f j = true
  | 0, _, _, h => h
  | k + 1, f, j, h => by
    refine mark_mono k _ j ?_
    split
    · unfold Fm.upd
      split
      · rfl
      · split
        · rfl
        · exact h
    · exact h
theorem mark_closed {t : List Nd} (h : Fm.Ok t) : ∀ (k : Nat) (f : Nat → Bool) (j : Nat), k ≤ t.length → j < k → Fm.mark t k f j = true → Fm.jn (row t j).k = true →
    Fm.mark t k f (row t j).l.toNat = true ∧ Fm.mark t k f (row t j).r.toNat = true
  | 0, _, _, _, hj, _, _ => absurd hj (by omega)
  | k + 1, f, j, hk, hj, hm, hjn => by
    by_cases e : j < k
    · exact mark_closed h k _ j (by omega) e hm hjn
    · have e : j = k := by omega
      subst e
      have hm2 : Fm.mark t j (if f j && Fm.jn (row t j).k then Fm.upd (Fm.upd f (row t j).l.toNat) (row t j).r.toNat else f) j = true := hm
      rw [mark_other h j _ j (by omega) (by omega)] at hm2
      have hf : f j = true := by
        cases hf : f j
        · rw [hf] at hm2
          simp at hm2
          rw [hf] at hm2
          cases hm2
        · rfl
      have hc : (f j && Fm.jn (row t j).k) = true := by rw [hf, hjn]; rfl
      refine ⟨mark_mono j _ _ ?_, mark_mono j _ _ ?_⟩
      · show (if f j && Fm.jn (row t j).k then Fm.upd (Fm.upd f (row t j).l.toNat) (row t j).r.toNat else f) _ = true
        rw [if_pos hc]
        unfold Fm.upd
        simp
      · show (if f j && Fm.jn (row t j).k then Fm.upd (Fm.upd f (row t j).l.toNat) (row t j).r.toNat else f) _ = true
        rw [if_pos hc]
        unfold Fm.upd
        simp
theorem mark_ind {t : List Nd} {P : Nat → Prop} (hP : ∀ i, P i → Fm.jn (row t i).k = true → P (row t i).l.toNat ∧ P (row t i).r.toNat) : ∀ (k : Nat) (f : Nat → Bool), (∀ j, f j = true → P j) → ∀ j, Fm.mark t k f j = true → P j
  | 0, _, hf, j, hj => hf j hj
  | k + 1, f, hf, j, hj => by
    refine mark_ind hP k _ ?_ j hj
    intro i hi
    split at hi
    · rename_i hc
      simp at hc
      obtain ⟨h1, h2⟩ := hP k (hf k hc.1) hc.2
      unfold Fm.upd at hi
      split at hi
      · rename_i e; subst e; exact h2
      · split at hi
        · rename_i e; subst e; exact h1
        · exact hf i hi
    · exact hf i hi
theorem below_iff {t : List Nd} {id j : Nat} : j ∈ Fm.below t id ↔ j < id + 1 ∧ Fm.mark t (id + 1) (Fm.upd (fun _ => false) id) j = true := by
  unfold Fm.below
  rw [List.mem_filter, List.mem_range]
theorem below_self {t : List Nd} {id : Nat} : id ∈ Fm.below t id := below_iff.2 ⟨by omega, mark_mono _ _ _ (by simp [Fm.upd])⟩
theorem below_closed {t : List Nd} (h : Fm.Ok t) {id : Nat} (hid : id < t.length) {j : Nat} (hj : j ∈ Fm.below t id) (hjn : Fm.jn (row t j).k = true) : (row t j).l.toNat ∈ Fm.below t id ∧ (row t j).r.toNat ∈ Fm.below t id := by
  rw [below_iff] at hj
  have hp := Ms.parts_lt h (i := j) (by omega) hjn
  have := mark_closed h (id + 1) _ j (by omega) hj.1 hj.2 hjn
  exact ⟨below_iff.2 ⟨by omega, this.1⟩, below_iff.2 ⟨by omega, this.2⟩⟩
theorem below_ind {t : List Nd} {id : Nat} {P : Nat → Prop} (h0 : P id) (hP : ∀ i, P i → Fm.jn (row t i).k = true → P (row t i).l.toNat ∧ P (row t i).r.toNat) : ∀ j ∈ Fm.below t id, P j := fun j hj =>
  mark_ind hP (id + 1) _ (fun i hi => by unfold Fm.upd at hi; split at hi; (rename_i e; subst e; exact h0); cases hi) j (below_iff.1 hj).2
/-- A run over what is below: what holds of each image, if it comes from its parts' images. -/
theorem pre_parts {t : List Nd} (h : Fm.Ok t) {id : Nat} (hid : id < t.length) {pre suf : List Nat} {i : Nat} (e : Fm.below t id = pre ++ i :: suf) (hjn : Fm.jn (row t i).k = true) : (row t i).l.toNat ∈ pre ∧ (row t i).r.toNat ∈ pre := by
  have hi : i ∈ Fm.below t id := by rw [e]; simp
  have hlt : i < t.length := by have := Ms.below_lt t id i hi; omega
  have hc := below_closed h hid hi hjn
  have hp := Ms.parts_lt h hlt hjn
  have hs := Ms.below_sorted t id
  rw [e] at hs hc
  have hs2 := (List.pairwise_append.1 hs).2.1
  have key : ∀ x, x ∈ pre ++ i :: suf → x < i → x ∈ pre := fun x hx hxi => by
    rcases List.mem_append.1 hx with hx | hx
    · exact hx
    · rcases List.mem_cons.1 hx with hx | hx
      · omega
      · have := (List.pairwise_cons.1 hs2).1 x hx
        omega
  exact ⟨key _ hc.1 hp.1, key _ hc.2 hp.2.1⟩
theorem run_ind {t : List Nd} (h : Fm.Ok t) {id : Nat} (hid : id < t.length) {F : List Nd → Nat → Nd → Img} (hF : Fair t F) (P : List Nd → Nat → Int → Prop)
    (hext : ∀ t1 u i x, P t1 i x → P (t1 ++ u) i x)
    (hstep : ∀ t1 im i, Runs t (im, 0, t1) → i < t.length → i ∈ Fm.below t id → (Fm.jn (row t i).k = true → P t1 (row t i).l.toNat (im (row t i).l.toNat) ∧ P t1 (row t i).r.toNat (im (row t i).r.toNat)) →
      (F t1 i (rowI t1 im i)).2.1 = 0 → P (F t1 i (rowI t1 im i)).2.2 i (F t1 i (rowI t1 im i)).1)
    (hok : (run F (Fm.below t id) t).2.1 = 0) : ∀ j ∈ Fm.below t id, P (run F (Fm.below t id) t).2.2 j ((run F (Fm.below t id) t).1 j) := by
  have hlt : ∀ i ∈ Fm.below t id, i < t.length := fun i hi => by have := Ms.below_lt t id i hi; omega
  have key : ∀ (suf pre : List Nat), Fm.below t id = pre ++ suf → (run F pre t).2.1 = 0 → (∀ j ∈ pre, P (run F pre t).2.2 j ((run F pre t).1 j)) → (run F (pre ++ suf) t).2.1 = 0 → ∀ j ∈ pre ++ suf, P (run F (pre ++ suf) t).2.2 j ((run F (pre ++ suf) t).1 j) := by
    intro suf
    induction suf with
    | nil => intro pre _ _ hp _ j hj; rw [List.append_nil] at hj ⊢; exact hp j hj
    | cons i suf ih =>
      intro pre e h0 hp hlast
      have e' : pre ++ i :: suf = (pre ++ [i]) ++ suf := by simp
      rw [e'] at hlast ⊢
      have hR := runs_run h (by omega) hF pre (fun j hj => hlt j (by rw [e]; simp [hj]))
      have hi : i ∈ Fm.below t id := by rw [e]; simp
      have h1 : (run F (pre ++ [i]) t).2.1 = 0 := by
        by_cases hx : (run F (pre ++ [i]) t).2.1 = 0
        · exact hx
        · rw [run_err F _ suf t hx] at hlast; exact hlast
      refine ih (pre ++ [i]) (by rw [e, e']) h1 ?_ hlast
      rw [run_snoc] at h1 ⊢
      generalize run F pre t = s at *
      obtain ⟨im, er, t1⟩ := s
      simp only at h0
      subst h0
      have hst : step F (im, 0, t1) i = (if (F t1 i (rowI t1 im i)).2.1 = 0 then updI im i (F t1 i (rowI t1 im i)).1 else im, (F t1 i (rowI t1 im i)).2) := by unfold step; rw [if_pos rfl]
      rw [hst] at h1 ⊢
      have h1' : (F t1 i (rowI t1 im i)).2.1 = 0 := h1
      rw [if_pos h1']
      have hs := hstep t1 im i hR (hlt i hi) hi (fun hjn => by
        obtain ⟨a, c⟩ := pre_parts h hid e hjn
        exact ⟨hp _ a, hp _ c⟩) h1'
      obtain ⟨u, hu⟩ := hR.ext
      obtain ⟨hg, hpp⟩ := good_rowI hR.ok hR.im (i := i) (by rw [hu, List.length_append]; have := hlt i hi; omega)
      obtain ⟨_, ⟨u2, hu2⟩, _⟩ := hF t1 i _ hR.ok hR.ext (hlt i hi) hg hpp
      intro j hj
      show P (F t1 i (rowI t1 im i)).2.2 j (updI im i (F t1 i (rowI t1 im i)).1 j)
      unfold updI
      by_cases ej : j = i
      · subst ej; rw [if_pos rfl]; exact hs
      · rw [if_neg ej]
        have hjp : j ∈ pre := by
          rcases List.mem_append.1 hj with h' | h'
          · exact h'
          · simp at h'; exact absurd h' ej
        have hu2' : (F t1 i (rowI t1 im i)).2.2 = t1 ++ u2 := hu2
        rw [hu2']
        exact hext t1 u2 j _ (hp j hjp)
  have := key (Fm.below t id) [] rfl rfl (fun j hj => by cases hj) (by rw [List.nil_append]; exact hok)
  rw [List.nil_append] at this
  exact this
end Go.Proofs.Ythfedlodikbdgaa.Sb
