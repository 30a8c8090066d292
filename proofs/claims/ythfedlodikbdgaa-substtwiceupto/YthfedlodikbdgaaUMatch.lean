/-
  Patterns: what is told makes the formula of the pattern, and what was put in is told. No condition.
-/
import Derived.Test.YthfedlodikbdgaaUSimp
namespace Go.Proofs.Ythfedlodikbdgaa.Sb
open Fm (Nd)
open Ms (row row_at)

/-- Each formula below another one is it, or a part of one that stands behind. -/
theorem below_parent {t : List Nd} (h : Fm.Ok t) {id : Nat} (hid : id < t.length) : ∀ j ∈ Fm.below t id, j = id ∨ ∃ i ∈ Fm.below t id, j < i ∧ Fm.jn (row t i).k = true ∧ (j = (row t i).l.toNat ∨ j = (row t i).r.toNat) := by
  have := below_ind (t := t) (id := id) (P := fun j => j ∈ Fm.below t id ∧ (j = id ∨ ∃ i ∈ Fm.below t id, j < i ∧ Fm.jn (row t i).k = true ∧ (j = (row t i).l.toNat ∨ j = (row t i).r.toNat))) ⟨below_self, Or.inl rfl⟩ (by
    rintro i ⟨hi, _⟩ hjn
    have hc := below_closed h hid hi hjn
    have hlt : i < t.length := by have := Ms.below_lt t id i hi; omega
    have hp := Ms.parts_lt h hlt hjn
    exact ⟨⟨hc.1, Or.inr ⟨i, hi, hp.1, hjn, Or.inl rfl⟩⟩, hc.2, Or.inr ⟨i, hi, hp.2.1, hjn, Or.inr rfl⟩⟩)
  exact fun j hj => (this j hj).2
/-- The part of a row of falling numbers that has come. -/
theorem rev_split {t : List Nd} {id : Nat} {pre suf : List Nat} {i : Nat} (e : (Fm.below t id).reverse = pre ++ i :: suf) : (∀ j ∈ pre, i < j) ∧ (∀ j ∈ suf, j < i) := by
  have hs := List.pairwise_reverse.2 (Ms.below_sorted t id)
  rw [e] at hs
  have h2 := List.pairwise_append.1 hs
  exact ⟨fun j hj => h2.2.2 j hj i (by simp), fun j hj => (List.pairwise_cons.1 h2.2.1).1 j hj⟩
theorem mstep_bad {t : List Nd} {s : Mst} (h : s.2.2 = false) (i : Nat) : mstep t s i = s := by unfold mstep; rw [if_neg (by rw [h]; simp)]
theorem mfold_bad {t : List Nd} {s : Mst} (h : s.2.2 = false) : ∀ l : List Nat, l.foldl (mstep t) s = s
  | [] => rfl
  | i :: l => by rw [List.foldl_cons, mstep_bad h, mfold_bad h l]
theorem mrun_good {t : List Nd} {pre suf : List Nat} {pat : Nat} {id : Int} (h : (mrun t (pre ++ suf) pat id).2.2 = true) : (mrun t pre pat id).2.2 = true := by
  cases hb : (mrun t pre pat id).2.2
  · have : mrun t (pre ++ suf) pat id = mrun t pre pat id := by
      unfold mrun at hb ⊢
      rw [List.foldl_append]
      exact mfold_bad hb suf
    rw [this, hb] at h
    cases h
  · rfl
/-- A pattern that fits y. -/
def Fits (t : List Nd) (pat : Nat) (y : Nat → Int) : Prop := ∀ i ∈ Fm.below t pat, (row t i).k ≠ 1 → (row t i).k = (nd t (y i)).k ∧ (Fm.jn (row t i).k = true → (nd t (y i)).l = y (row t i).l.toNat ∧ (nd t (y i)).r = y (row t i).r.toNat)
def atomsOf (t : List Nd) (y : Nat → Int) (l : List Nat) : Hs := (l.filter fun i => decide ((row t i).k = 1)).map fun i => ((row t i).s, y i)
theorem atomsOf_snoc (t : List Nd) (y : Nat → Int) (l : List Nat) (i : Nat) : atomsOf t y (l ++ [i]) = atomsOf t y l ++ (if (row t i).k = 1 then [((row t i).s, y i)] else []) := by
  unfold atomsOf
  rw [List.filter_append, List.map_append]
  by_cases h : (row t i).k = 1
  · rw [if_pos h, List.filter_cons_of_pos (by exact decide_eq_true h)]; rfl
  · rw [if_neg h, List.filter_cons_of_neg (by simpa using h)]; rfl
/-- What holds on the way down, where the pattern fits. -/
structure Down (t : List Nd) (pat : Nat) (y : Nat → Int) (pre : List Nat) (s : Mst) : Prop where
  ok : s.2.2 = true
  at_ : s.2.1 = atomsOf t y pre
  in_ : ∀ j x, s.1 j = some x → x = y j ∧ j ∈ Fm.below t pat
  top : (s.1 pat).isSome = true
  all : ∀ i ∈ pre, Fm.jn (row t i).k = true → (s.1 (row t i).l.toNat).isSome = true ∧ (s.1 (row t i).r.toNat).isSome = true
theorem down_told {t : List Nd} (h : Fm.Ok t) {pat : Nat} (hp : pat < t.length) {y : Nat → Int} {pre suf : List Nat} {i : Nat} {s : Mst} (e : (Fm.below t pat).reverse = pre ++ i :: suf) (hD : Down t pat y pre s) : s.1 i = some (y i) := by
  have hi : i ∈ Fm.below t pat := by
    have : i ∈ (Fm.below t pat).reverse := by rw [e]; simp
    simpa using this
  have hs : (s.1 i).isSome = true := by
    rcases below_parent h hp i hi with rfl | ⟨k, hk, hlt, hjn, he⟩
    · exact hD.top
    · have hkp : k ∈ pre := by
        have : k ∈ (Fm.below t pat).reverse := by simpa using hk
        rw [e] at this
        rcases List.mem_append.1 this with h' | h'
        · exact h'
        · rcases List.mem_cons.1 h' with h' | h'
          · omega
          · have := (rev_split e).2 k h'; omega
      have := hD.all k hkp hjn
      rcases he with he | he
      · rw [he]; exact this.1
      · rw [he]; exact this.2
  obtain ⟨x, hx⟩ := Option.isSome_iff_exists.1 hs
  rw [hx, (hD.in_ i x hx).1]
theorem fits_of {s : Ag} {i : Nat} {x : Int} (h : ∀ z, s i = some z → z = x) : fits s i x = true := by
  unfold fits
  cases hs : s i with
  | none => rfl
  | some z => simp [h z hs]
theorem updA_same (g : Ag) (i : Nat) (x : Int) : updA g i x i = some x := by unfold updA; rw [if_pos rfl]
theorem updA_some {g : Ag} {i j : Nat} {x : Int} (h : (g j).isSome = true) : (updA g i x j).isSome = true := by unfold updA; split; rfl; exact h
theorem down_step {t : List Nd} (h : Fm.Ok t) {pat : Nat} (hp : pat < t.length) {y : Nat → Int} (hy : Fits t pat y) {pre suf : List Nat} {i : Nat} {s : Mst} (e : (Fm.below t pat).reverse = pre ++ i :: suf) (hD : Down t pat y pre s) : Down t pat y (pre ++ [i]) (mstep t s i) := by
  have hi : i ∈ Fm.below t pat := by
    have : i ∈ (Fm.below t pat).reverse := by rw [e]; simp
    simpa using this
  have hlt : i < t.length := by have := Ms.below_lt t pat i hi; omega
  have ht := down_told h hp e hD
  unfold mstep
  rw [if_pos hD.ok, ht]
  simp only [Option.getD_some]
  by_cases h1 : (row t i).k = 1
  · rw [if_pos h1]
    refine ⟨rfl, ?_, hD.in_, hD.top, fun k hk hjn => ?_⟩
    · rw [atomsOf_snoc, if_pos h1, hD.at_]
    · rcases List.mem_append.1 hk with hk | hk
      · exact hD.all k hk hjn
      · simp at hk; subst hk; rw [h1] at hjn; cases hjn
  · rw [if_neg h1]
    obtain ⟨hk, hj⟩ := hy i hi h1
    rw [if_neg (by rw [hk]; simp)]
    have hat : atomsOf t y (pre ++ [i]) = atomsOf t y pre := by rw [atomsOf_snoc, if_neg h1, List.append_nil]
    by_cases hjn : Fm.jn (row t i).k = true
    · rw [if_pos hjn]
      obtain ⟨hl, hr⟩ := hj hjn
      rw [hl, hr]
      have hc := below_closed h hp hi hjn
      have f1 : fits s.1 (row t i).l.toNat (y (row t i).l.toNat) = true := fits_of fun z hz => (hD.in_ _ z hz).1
      have in1 : ∀ j x, updA s.1 (row t i).l.toNat (y (row t i).l.toNat) j = some x → x = y j ∧ j ∈ Fm.below t pat := fun j x hx => by
        unfold updA at hx
        split at hx
        · rename_i ej; cases hx; rw [ej]; exact ⟨rfl, hc.1⟩
        · exact hD.in_ j x hx
      have f2 : fits (updA s.1 (row t i).l.toNat (y (row t i).l.toNat)) (row t i).r.toNat (y (row t i).r.toNat) = true := fits_of fun z hz => (in1 _ z hz).1
      rw [if_pos f1, f2]
      refine ⟨rfl, by rw [hat]; exact hD.at_, fun j x hx => ?_, updA_some (updA_some hD.top), fun k hk hjk => ?_⟩
      · simp only at hx
        unfold updA at hx
        split at hx
        · rename_i ej; cases hx; rw [ej]; exact ⟨rfl, hc.2⟩
        · exact in1 j x hx
      · rcases List.mem_append.1 hk with hk | hk
        · exact ⟨updA_some (updA_some (hD.all k hk hjk).1), updA_some (updA_some (hD.all k hk hjk).2)⟩
        · simp at hk; subst hk
          refine ⟨updA_some ?_, ?_⟩
          · rw [updA_same]; rfl
          · show (updA _ _ _ _).isSome = true
            rw [updA_same]; rfl
    · rw [if_neg hjn]
      refine ⟨hD.ok, by rw [hat]; exact hD.at_, hD.in_, hD.top, fun k hk hjk => ?_⟩
      rcases List.mem_append.1 hk with hk | hk
      · exact hD.all k hk hjk
      · simp at hk; subst hk; exact absurd hjk hjn
theorem down_start {t : List Nd} {pat : Nat} {y : Nat → Int} {id : Int} (h0 : y pat = id) : Down t pat y [] (updA (fun _ => none) pat id, [], true) := by
  refine ⟨rfl, rfl, fun j x hx => ?_, ?_, fun k hk => by cases hk⟩
  · simp only at hx
    unfold updA at hx
    split at hx
    · rename_i ej; cases hx; rw [ej]; exact ⟨h0.symm, below_self⟩
    · cases hx
  · show (updA (fun _ => none) pat id pat).isSome = true
    rw [updA_same]; rfl
/-- What was put in is told. -/
theorem match_fits {t : List Nd} (h : Fm.Ok t) {pat : Nat} (hp : pat < t.length) {y : Nat → Int} (hy : Fits t pat y) {id : Int} (h0 : y pat = id) : ∀ (suf pre : List Nat), (Fm.below t pat).reverse = pre ++ suf → Down t pat y pre (mrun t pre pat id) → Down t pat y (pre ++ suf) (mrun t (pre ++ suf) pat id)
  | [], pre, _, hD => by rw [List.append_nil]; exact hD
  | i :: suf, pre, e, hD => by
    have e' : pre ++ i :: suf = (pre ++ [i]) ++ suf := by simp
    rw [e']
    refine match_fits h hp hy h0 suf (pre ++ [i]) (by rw [e, e']) ?_
    rw [mrun_snoc]
    exact down_step h hp hy e hD
theorem match_is {t : List Nd} (h : Fm.Ok t) {pat : Nat} (hp : pat < t.length) {y : Nat → Int} (hy : Fits t pat y) {id : Int} (h0 : y pat = id) : (mrun t (Fm.below t pat).reverse pat id).2 = (atomsOf t y (Fm.below t pat).reverse, true) := by
  have := match_fits h hp hy h0 (Fm.below t pat).reverse [] rfl (down_start h0)
  rw [List.nil_append] at this
  rw [← this.at_, ← this.ok]
/-! ### what is told makes the formula -/
theorem fits_true {g : Ag} {i : Nat} {x : Int} (h : fits g i x = true) : ∀ z, g i = some z → z = x := fun z hz => by
  unfold fits at h
  rw [hz] at h
  simpa using h
theorem updA_keep {g : Ag} {i : Nat} {x : Int} (h : fits g i x = true) {j : Nat} {z : Int} (hz : g j = some z) : updA g i x j = some z := by
  unfold updA
  split
  · rename_i e; subst e; rw [fits_true h z hz]
  · exact hz
theorem mstep_keep {t : List Nd} {s : Mst} {i : Nat} (h : (mstep t s i).2.2 = true) {j : Nat} {x : Int} (hx : s.1 j = some x) : (mstep t s i).1 j = some x := by
  unfold mstep at h ⊢
  by_cases h0 : s.2.2 = true
  · rw [if_pos h0] at h ⊢
    by_cases h1 : (row t i).k = 1
    · rw [if_pos h1]; exact hx
    · rw [if_neg h1] at h ⊢
      by_cases h2 : (row t i).k ≠ (nd t ((s.1 i).getD 0)).k
      · rw [if_pos h2]; exact hx
      · rw [if_neg h2] at h ⊢
        by_cases h3 : Fm.jn (row t i).k = true
        · rw [if_pos h3] at h ⊢
          by_cases h4 : fits s.1 (row t i).l.toNat (nd t ((s.1 i).getD 0)).l = true
          · rw [if_pos h4] at h ⊢
            exact updA_keep h (updA_keep h4 hx)
          · rw [if_neg h4] at h; cases h
        · rw [if_neg h3]; exact hx
  · rw [if_neg h0] at h; exact absurd h h0
structure Told (t : List Nd) (pat : Nat) (id : Int) (pre : List Nat) (s : Mst) : Prop where
  ok : s.2.2 = true
  top : s.1 pat = some id
  in_ : ∀ j x, s.1 j = some x → Fm.has t x = true ∧ j ∈ Fm.below t pat
  all : ∀ i ∈ pre, ∃ x, s.1 i = some x ∧ ((row t i).k ≠ 1 → (row t i).k = (nd t x).k ∧ (Fm.jn (row t i).k = true → s.1 (row t i).l.toNat = some (nd t x).l ∧ s.1 (row t i).r.toNat = some (nd t x).r))
theorem told_some {t : List Nd} (h : Fm.Ok t) {pat : Nat} (hp : pat < t.length) {id : Int} {pre suf : List Nat} {i : Nat} {s : Mst} (e : (Fm.below t pat).reverse = pre ++ i :: suf) (hT : Told t pat id pre s) : ∃ x, s.1 i = some x := by
  have hi : i ∈ Fm.below t pat := by
    have : i ∈ (Fm.below t pat).reverse := by rw [e]; simp
    simpa using this
  rcases below_parent h hp i hi with rfl | ⟨k, hk, hlt, hjn, he⟩
  · exact ⟨id, hT.top⟩
  · have hkp : k ∈ pre := by
      have : k ∈ (Fm.below t pat).reverse := by simpa using hk
      rw [e] at this
      rcases List.mem_append.1 this with h' | h'
      · exact h'
      · rcases List.mem_cons.1 h' with h' | h'
        · omega
        · have := (rev_split e).2 k h'; omega
    obtain ⟨x, _, hx⟩ := hT.all k hkp
    have hk1 : (row t k).k ≠ 1 := fun e1 => by rw [e1] at hjn; cases hjn
    obtain ⟨h1, h2⟩ := (hx hk1).2 hjn
    rcases he with he | he
    · rw [he]; exact ⟨_, h1⟩
    · rw [he]; exact ⟨_, h2⟩
theorem told_step {t : List Nd} (h : Fm.Ok t) {pat : Nat} (hp : pat < t.length) {id : Int} {pre suf : List Nat} {i : Nat} {s : Mst} (e : (Fm.below t pat).reverse = pre ++ i :: suf) (hT : Told t pat id pre s) (hg : (mstep t s i).2.2 = true) : Told t pat id (pre ++ [i]) (mstep t s i) := by
  have hi : i ∈ Fm.below t pat := by
    have : i ∈ (Fm.below t pat).reverse := by rw [e]; simp
    simpa using this
  have hlt : i < t.length := by have := Ms.below_lt t pat i hi; omega
  obtain ⟨x, hx⟩ := told_some h hp e hT
  have hhas := (hT.in_ i x hx).1
  have keep : ∀ {j z}, s.1 j = some z → (mstep t s i).1 j = some z := fun hz => mstep_keep hg hz
  have hall : ∀ k ∈ pre, ∃ x, (mstep t s i).1 k = some x ∧ ((row t k).k ≠ 1 → (row t k).k = (nd t x).k ∧ (Fm.jn (row t k).k = true → (mstep t s i).1 (row t k).l.toNat = some (nd t x).l ∧ (mstep t s i).1 (row t k).r.toNat = some (nd t x).r)) := fun k hk => by
    obtain ⟨z, h1, h2⟩ := hT.all k hk
    exact ⟨z, keep h1, fun hk1 => ⟨(h2 hk1).1, fun hjn => ⟨keep ((h2 hk1).2 hjn).1, keep ((h2 hk1).2 hjn).2⟩⟩⟩
  have hget : (s.1 i).getD 0 = x := by rw [hx]; rfl
  have hin : ∀ j z, (mstep t s i).1 j = some z → Fm.has t z = true ∧ j ∈ Fm.below t pat := by
    intro j z hz
    unfold mstep at hz
    rw [if_pos hT.ok, hget] at hz
    by_cases h1 : (row t i).k = 1
    · rw [if_pos h1] at hz; exact hT.in_ j z hz
    · rw [if_neg h1] at hz
      by_cases h2 : (row t i).k ≠ (nd t x).k
      · rw [if_pos h2] at hz; exact hT.in_ j z hz
      · rw [if_neg h2] at hz
        by_cases h3 : Fm.jn (row t i).k = true
        · rw [if_pos h3] at hz
          have hpp := has_part h hhas (by rw [← Decidable.not_not.1 h2]; exact h3)
          have hc := below_closed h hp hi h3
          have in1 : ∀ j z, updA s.1 (row t i).l.toNat (nd t x).l j = some z → Fm.has t z = true ∧ j ∈ Fm.below t pat := fun j z hz => by
            unfold updA at hz
            split at hz
            · rename_i ej; cases hz; rw [ej]; exact ⟨hpp.1, hc.1⟩
            · exact hT.in_ j z hz
          by_cases h4 : fits s.1 (row t i).l.toNat (nd t x).l = true
          · rw [if_pos h4] at hz
            simp only at hz
            rw [show updA (updA s.1 (row t i).l.toNat (nd t x).l) (row t i).r.toNat (nd t x).r j = if j = (row t i).r.toNat then some (nd t x).r else updA s.1 (row t i).l.toNat (nd t x).l j from rfl] at hz
            split at hz
            · rename_i ej; cases hz; rw [ej]; exact ⟨hpp.2, hc.2⟩
            · exact in1 j z hz
          · rw [if_neg h4] at hz; exact in1 j z hz
        · rw [if_neg h3] at hz; exact hT.in_ j z hz
  refine ⟨hg, keep hT.top, hin, fun k hk => ?_⟩
  rcases List.mem_append.1 hk with hk | hk
  · exact hall k hk
  · simp at hk
    subst hk
    refine ⟨x, keep hx, fun hk1 => ?_⟩
    unfold mstep at hg ⊢
    rw [if_pos hT.ok, hget, if_neg hk1] at hg ⊢
    by_cases h2 : (row t k).k ≠ (nd t x).k
    · rw [if_pos h2] at hg; cases hg
    · rw [if_neg h2] at hg ⊢
      refine ⟨Decidable.not_not.1 h2, fun h3 => ?_⟩
      rw [if_pos h3] at hg ⊢
      by_cases h4 : fits s.1 (row t k).l.toNat (nd t x).l = true
      · rw [if_pos h4] at hg ⊢
        exact ⟨updA_keep hg (updA_same _ _ _), updA_same _ _ _⟩
      · rw [if_neg h4] at hg; cases hg
theorem told_start {t : List Nd} {pat : Nat} {id : Int} (hid : Fm.has t id = true) : Told t pat id [] (updA (fun _ => none) pat id, [], true) := by
  refine ⟨rfl, updA_same (fun _ => none) pat id, fun j x hx => ?_, fun k hk => by cases hk⟩
  simp only at hx
  unfold updA at hx
  split at hx
  · rename_i ej; cases hx; rw [ej]; exact ⟨hid, below_self⟩
  · cases hx
theorem told_run {t : List Nd} (h : Fm.Ok t) {pat : Nat} (hp : pat < t.length) {id : Int} : ∀ (suf pre : List Nat), (Fm.below t pat).reverse = pre ++ suf → Told t pat id pre (mrun t pre pat id) → (mrun t (pre ++ suf) pat id).2.2 = true → Told t pat id (pre ++ suf) (mrun t (pre ++ suf) pat id)
  | [], pre, _, hT, _ => by rw [List.append_nil]; exact hT
  | i :: suf, pre, e, hT, hg => by
    have e' : pre ++ i :: suf = (pre ++ [i]) ++ suf := by simp
    rw [e'] at hg ⊢
    refine told_run h hp suf (pre ++ [i]) (by rw [e, e']) ?_ hg
    have := mrun_good hg
    rw [mrun_snoc] at this ⊢
    exact told_step h hp e hT this
/-- A pattern that is told to fit does. -/
theorem match_told {t : List Nd} (h : Fm.Ok t) {pat : Nat} (hp : pat < t.length) {id : Int} (hid : Fm.has t id = true) (hg : (mrun t (Fm.below t pat).reverse pat id).2.2 = true) :
    ∃ y : Nat → Int, Fits t pat y ∧ y pat = id ∧ ∀ j ∈ Fm.below t pat, Fm.has t (y j) = true := by
  have hT := told_run h hp (Fm.below t pat).reverse [] rfl (told_start hid) (by rw [List.nil_append]; exact hg)
  rw [List.nil_append] at hT
  refine ⟨fun j => ((mrun t (Fm.below t pat).reverse pat id).1 j).getD 0, fun i hi h1 => ?_, ?_, fun j hj => ?_⟩
  · obtain ⟨x, hx, hc⟩ := hT.all i (by simpa using hi)
    simp only
    rw [hx]
    refine ⟨(hc h1).1, fun hjn => ?_⟩
    rw [((hc h1).2 hjn).1, ((hc h1).2 hjn).2]
    exact ⟨rfl, rfl⟩
  · simp only
    rw [hT.top]
    rfl
  · obtain ⟨x, hx, _⟩ := hT.all j (by simpa using hj)
    simp only
    rw [hx]
    exact (hT.in_ j x hx).1
end Go.Proofs.Ythfedlodikbdgaa.Sb
