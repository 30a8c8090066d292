/-
  Putting in one behind the other; what is simple stays. No condition.
-/
import Derived.Test.YthfedlodikbdgaaUTree
namespace Go.Proofs.Ythfedlodikbdgaa.Sb
open Fm (Nd)
open Ms (row row_at)

/-! ### twice -/
theorem sub_sub (σ τ ρ : ByteArray → Option Tree) (h : ∀ s, (ρ s).getD (.a s) = match σ s with | some x => sub τ x | none => (τ s).getD (.a s)) : ∀ x, sub ρ x = sub τ (sub σ x)
  | .a s => by
    show (ρ s).getD (.a s) = sub τ ((σ s).getD (.a s))
    rw [h s]
    cases σ s with
    | none => rfl
    | some x => rfl
  | .b => rfl
  | .j k l r => by
    show Tree.j k (sub ρ l) (sub ρ r) = .j k (sub τ (sub σ l)) (sub τ (sub σ r))
    rw [sub_sub σ τ ρ h l, sub_sub σ τ ρ h r]
theorem look_app (a b : Hs) (s : ByteArray) : look (a ++ b) s = match look a s with | some x => some x | none => look b s := by
  unfold look
  rw [List.find?_append]
  cases a.find? (fun h => decide (h.1 = s)) with
  | none => rfl
  | some x => rfl
theorem look_nil (s : ByteArray) : look [] s = none := rfl
theorem look_cons (n : ByteArray) (f : Int) (l : Hs) (s : ByteArray) : look ((n, f) :: l) s = if n = s then some f else look l s := by
  unfold look
  rw [List.find?_cons]
  by_cases e : n = s
  · simp [e]
  · simp [e]
/-- The names of the one that the other has not. -/
def rest (a b : Hs) : Hs := b.filter fun h => !(a.any fun g => decide (g.1 = h.1))
theorem any_name (a : Hs) (s : ByteArray) : (a.any fun g => decide (g.1 = s)) = (look a s).isSome := by
  induction a with
  | nil => rfl
  | cons x a ih =>
    obtain ⟨n, f⟩ := x
    rw [look_cons, List.any_cons, ih]
    by_cases e : n = s
    · simp [e]
    · simp [e]
theorem look_rest (a b : Hs) (s : ByteArray) (h : look a s = none) : look (rest a b) s = look b s := by
  induction b with
  | nil => rfl
  | cons x b ih =>
    obtain ⟨n, f⟩ := x
    unfold rest at *
    rw [List.filter_cons, look_cons]
    by_cases e : n = s
    · subst e
      rw [if_pos (by rw [any_name, h]; rfl), look_cons, if_pos rfl, if_pos rfl]
    · rw [if_neg e]
      split
      · rw [look_cons, if_neg e, ih]
      · exact ih
theorem look_map (a : Hs) (k : List Int) (hk : k.length = a.length) (s : ByteArray) : (look ((a.map (·.1)).zip k) s).isSome = (look a s).isSome := by
  induction a generalizing k with
  | nil => rfl
  | cons x a ih =>
    obtain ⟨n, f⟩ := x
    cases k with
    | nil => cases hk
    | cons y k =>
      rw [List.map_cons, List.zip_cons_cons, look_cons, look_cons]
      by_cases e : n = s
      · simp [e]
      · rw [if_neg e, if_neg e]; exact ih k (by simpa using hk)

/-! ### simple -/
theorem isF_ext {t u : List Nd} {i : Int} (h : Fm.has t i = true) : isF (t ++ u) i = isF t i := by unfold isF; rw [nd_ext h]
theorem has_part {t : List Nd} (h : Fm.Ok t) {i : Int} (hi : Fm.has t i = true) (hj : Fm.jn (nd t i).k = true) : Fm.has t (nd t i).l = true ∧ Fm.has t (nd t i).r = true := by
  rw [nd_in hi] at hj ⊢
  have hb := Fm.has_iff.1 hi
  have hp := Ms.parts_lt h (i := i.toNat) (by omega) hj
  exact ⟨Fm.has_iff.2 ⟨hp.2.2.1, by omega⟩, Fm.has_iff.2 ⟨hp.2.2.2, by omega⟩⟩
theorem isT_ext {t u : List Nd} (h : Fm.Ok t) {i : Int} (hi : Fm.has t i = true) : isT (t ++ u) i = isT t i := by
  unfold isT
  rw [nd_ext hi]
  by_cases h5 : (nd t i).k = 5
  · obtain ⟨a, c⟩ := has_part h hi (by rw [h5]; rfl)
    rw [isF_ext a, isF_ext c]
  · have : ((nd t i).k == 5) = false := by simp [h5]
    rw [this]
    rfl
theorem nd_self {t : List Nd} {i : Nat} (hi : i < t.length) : nd t (i : Int) = row t i := by
  rw [nd_in (Fm.has_iff.2 ⟨by omega, by omega⟩)]
  rfl
theorem put_there {t : List Nd} (h : Fm.Ok t) {i : Nat} (hi : i < t.length) {n : Nd} (e : row t i = n) : Fm.put t n = ((i : Int), 0, t) := e ▸ put_self h hi
/-- true, where it is there. -/
theorem truth_there {t : List Nd} (h : Fm.Ok t) {i : Nat} (hi : i < t.length) (hT : isT t (i : Int) = true) : truth t = ((i : Int), 0, t) := by
  unfold isT at hT
  rw [nd_self hi] at hT
  simp only [Bool.and_eq_true, beq_iff_eq] at hT
  obtain ⟨⟨h5, hl⟩, hr⟩ := hT
  have hj : Fm.jn (row t i).k = true := by rw [h5]; rfl
  have hp := Ms.parts_lt h hi hj
  have key : ∀ x : Int, 0 ≤ x → x.toNat < i → isF t x = true → row t x.toNat = Fm.bot := fun x h0 hx hF => by
    unfold isF at hF
    have hh : Fm.has t x = true := Fm.has_iff.2 ⟨h0, by omega⟩
    rw [nd_in hh] at hF
    simp only [beq_iff_eq] at hF
    rcases row_kind h (i := x.toNat) (by omega) with a | a | a
    · rw [a.1] at hF; cases hF
    · generalize row t x.toNat = y at *
      obtain ⟨k, s, l, r⟩ := y
      simp only at a
      obtain ⟨rfl, _, rfl, rfl, rfl⟩ := a
      rfl
    · exact absurd hF a.2.2.1
  have el := key _ hp.2.2.1 hp.1 hl
  have er := key _ hp.2.2.2 hp.2.1 hr
  have hlr : (row t i).l.toNat = (row t i).r.toNat := row_inj h (by omega) (by omega) (el.trans er.symm)
  have hb := put_there h (i := (row t i).l.toNat) (by omega) el
  unfold truth
  rw [hb]
  simp only [if_true]
  refine put_there h hi ?_
  rcases row_kind h hi with a | a | a
  · rw [a.2.1] at hj; cases hj
  · rw [a.2.1] at hj; cases hj
  · generalize row t i = y at *
    obtain ⟨k, s, l, r⟩ := y
    simp only at h5 a hp hlr ⊢
    obtain ⟨_, _, _, rfl⟩ := a
    subst h5
    rw [show ((l.toNat : Nat) : Int) = l from by omega, show r = l from by omega]
theorem truth_is {t : List Nd} (h : Fm.Ok t) (h0 : (truth t).2.1 = 0) : isT (truth t).2.2 (truth t).1 = true := by
  have hf := truth_fair h
  have hh := hf.2.2 h0
  unfold truth at h0 hh ⊢
  split
  · rename_i hb
    rw [if_pos hb] at h0 hh
    have hbh := put_has hb
    have hbr := put_row hb
    have hr := put_row h0
    obtain ⟨u, hu⟩ := (Fm.put_len (Fm.put t Fm.bot).2.2 ⟨5, ⟨#[]⟩, (Fm.put t Fm.bot).1, (Fm.put t Fm.bot).1⟩).2
    unfold isT
    rw [nd_in hh, hr]
    have hF : isF (Fm.put (Fm.put t Fm.bot).2.2 ⟨5, ⟨#[]⟩, (Fm.put t Fm.bot).1, (Fm.put t Fm.bot).1⟩).2.2 (Fm.put t Fm.bot).1 = true := by
      rw [hu, isF_ext hbh]
      unfold isF
      rw [nd_in hbh, hbr]
      rfl
    simp only [hF]
    rfl
  · rename_i hb
    rw [if_neg hb] at h0
    exact absurd h0 hb
/-- A formula that the rows of the chapter's table leave as it is. -/
def plain (t : List Nd) (n : Nd) : Bool := !isF t n.l && !isT t n.l && !isT t n.r && n.l != n.r && (n.k == 5 || !isF t n.r)
def nf (t : List Nd) (i : Nat) : Prop := Fm.jn (row t i).k = true → isT t (i : Int) = true ∨ plain t (row t i) = true
theorem has_row {t : List Nd} (h : Fm.Ok t) {i : Nat} (hi : i < t.length) (hj : Fm.jn (row t i).k = true) : Fm.has t (row t i).l = true ∧ Fm.has t (row t i).r = true := by
  have hp := Ms.parts_lt h hi hj
  exact ⟨Fm.has_iff.2 ⟨hp.2.2.1, by omega⟩, Fm.has_iff.2 ⟨hp.2.2.2, by omega⟩⟩
theorem plain_ext {t u : List Nd} (h : Fm.Ok t) {n : Nd} (hl : Fm.has t n.l = true) (hr : Fm.has t n.r = true) : plain (t ++ u) n = plain t n := by
  unfold plain
  rw [isF_ext hl, isT_ext h hl, isT_ext h hr, isF_ext hr]
theorem nf_ext {t u : List Nd} (h : Fm.Ok t) {i : Nat} (hi : i < t.length) (hn : nf t i) : nf (t ++ u) i := fun hj => by
  rw [row_ext hi] at hj ⊢
  rw [isT_ext h (Fm.has_iff.2 ⟨by omega, by omega⟩), plain_ext h (has_row h hi hj).1 (has_row h hi hj).2]
  exact hn hj
theorem jn_three {k : Int} (h : Fm.jn k = true) : k = 3 ∨ k = 4 ∨ k = 5 := by
  unfold Fm.jn at h
  simp only [Bool.or_eq_true, beq_iff_eq] at h
  rcases h with (h | h) | h
  · exact Or.inl h
  · exact Or.inr (Or.inl h)
  · exact Or.inr (Or.inr h)
theorem simF_plain {t : List Nd} {n : Nd} (hj : Fm.jn n.k = true) (hp : plain t n = true) : simF t n = Fm.put t n := by
  unfold plain at hp
  simp only [Bool.and_eq_true, Bool.not_eq_true', bne_iff_ne, Bool.or_eq_true, beq_iff_eq] at hp
  obtain ⟨⟨⟨⟨h1, h2⟩, h3⟩, h4⟩, h5⟩ := hp
  have h4' : (n.l == n.r) = false := by simp [h4]
  rcases jn_three hj with e | e | e
  · have h5' : isF t n.r = false := by
      rcases h5 with h5 | h5
      · rw [e] at h5; cases h5
      · exact h5
    unfold simF
    rw [if_pos e, h1, h2, h3, h4', h5']
    simp
  · have h5' : isF t n.r = false := by
      rcases h5 with h5 | h5
      · rw [e] at h5; cases h5
      · exact h5
    unfold simF
    rw [if_neg (by omega), if_pos e, h1, h2, h3, h4', h5']
    simp
  · unfold simF
    rw [if_neg (by omega), if_neg (by omega), if_pos e, h1, h2, h3, h4']
    simp
theorem simF_other {t : List Nd} {n : Nd} (hj : Fm.jn n.k = false) : simF t n = Fm.put t n := by
  unfold Fm.jn at hj
  simp only [Bool.or_eq_false_iff, beq_eq_false_iff_ne] at hj
  unfold simF
  rw [if_neg hj.1.1, if_neg hj.1.2, if_neg hj.2]
theorem simF_nf {t : List Nd} (h : Fm.Ok t) {i : Nat} (hi : i < t.length) (hn : nf t i) : simF t (row t i) = ((i : Int), 0, t) := by
  cases hj : Fm.jn (row t i).k
  · rw [simF_other hj, put_self h hi]
  · rcases hn hj with hT | hp
    · have hT' := hT
      unfold isT at hT'
      rw [nd_self hi] at hT'
      simp only [Bool.and_eq_true, beq_iff_eq] at hT'
      unfold simF
      rw [if_neg (by omega), if_neg (by omega), if_pos hT'.1.1, hT'.1.2]
      simp only [Bool.true_or, if_true]
      exact truth_there h hi hT
    · rw [simF_plain hj hp, put_self h hi]
/-- Of this formula all parts are as simple as may be. -/
def Alln (t : List Nd) (x : Nat) : Prop := ∃ S : Nat → Prop, S x ∧ ∀ j, S j → j < t.length ∧ nf t j ∧ (Fm.jn (row t j).k = true → S (row t j).l.toNat ∧ S (row t j).r.toNat)
theorem Alln.ext {t u : List Nd} (h : Fm.Ok t) {x : Nat} (hx : Alln t x) : Alln (t ++ u) x := by
  obtain ⟨S, h0, hS⟩ := hx
  refine ⟨S, h0, fun j hj => ?_⟩
  obtain ⟨h1, h2, h3⟩ := hS j hj
  exact ⟨by rw [List.length_append]; omega, nf_ext h h1 h2, fun hjn => by rw [row_ext h1] at hjn ⊢; exact h3 hjn⟩
theorem Alln.join {t : List Nd} {x : Nat} (hx : x < t.length) (hn : nf t x) (hp : Fm.jn (row t x).k = true → Alln t (row t x).l.toNat ∧ Alln t (row t x).r.toNat) : Alln t x := by
  by_cases hj : Fm.jn (row t x).k = true
  · obtain ⟨⟨S, s0, hS⟩, S', s0', hS'⟩ := hp hj
    refine ⟨fun j => j = x ∨ S j ∨ S' j, Or.inl rfl, ?_⟩
    rintro j (rfl | h | h)
    · exact ⟨hx, hn, fun _ => ⟨Or.inr (Or.inl s0), Or.inr (Or.inr s0')⟩⟩
    · obtain ⟨h1, h2, h3⟩ := hS j h
      exact ⟨h1, h2, fun hjn => ⟨Or.inr (Or.inl (h3 hjn).1), Or.inr (Or.inl (h3 hjn).2)⟩⟩
    · obtain ⟨h1, h2, h3⟩ := hS' j h
      exact ⟨h1, h2, fun hjn => ⟨Or.inr (Or.inr (h3 hjn).1), Or.inr (Or.inr (h3 hjn).2)⟩⟩
  · refine ⟨fun j => j = x, rfl, ?_⟩
    rintro j rfl
    exact ⟨hx, hn, fun h => absurd h hj⟩
theorem Alln.of_true {t : List Nd} (h : Fm.Ok t) {x : Nat} (hx : x < t.length) (hT : isT t (x : Int) = true) : Alln t x := by
  refine Alln.join hx (fun _ => Or.inl hT) fun hj => ?_
  have hp := has_row h hx hj
  unfold isT at hT
  rw [nd_self hx] at hT
  simp only [Bool.and_eq_true] at hT
  have key : ∀ y : Int, Fm.has t y = true → isF t y = true → Alln t y.toNat := fun y hy hF => by
    unfold isF at hF
    rw [nd_in hy] at hF
    simp only [beq_iff_eq] at hF
    have hb := Fm.has_iff.1 hy
    have hj2 : Fm.jn (row t y.toNat).k = false := by rw [hF]; rfl
    exact Alln.join (by omega) (fun h' => by rw [hj2] at h'; cases h') fun h' => by rw [hj2] at h'; cases h'
  exact ⟨key _ hp.1 hT.1.2, key _ hp.2 hT.2⟩
theorem simF_all {t : List Nd} (h : Fm.Ok t) {n : Nd} (hj : Fm.jn n.k = true) (hl : Fm.has t n.l = true) (hr : Fm.has t n.r = true) (al : Alln t n.l.toNat) (ar : Alln t n.r.toNat) (h0 : (simF t n).2.1 = 0) : Alln (simF t n).2.2 (simF t n).1.toNat := by
  have hput : (Fm.put t n).2.1 = 0 → plain t n = true → Alln (Fm.put t n).2.2 (Fm.put t n).1.toNat := fun h0 hp => by
    have hh := put_has h0
    have hrw := put_row h0
    have hb := Fm.has_iff.1 hh
    obtain ⟨u, hu⟩ := (Fm.put_len t n).2
    refine Alln.join (by omega) (fun _ => Or.inr ?_) fun _ => ?_
    · rw [hrw, hu, plain_ext h hl hr]; exact hp
    · rw [hrw, hu]; exact ⟨al.ext h, ar.ext h⟩
  have htr : (truth t).2.1 = 0 → Alln (truth t).2.2 (truth t).1.toNat := fun h0 => by
    have hf := truth_fair h
    have hb := Fm.has_iff.1 (hf.2.2 h0)
    refine Alln.of_true hf.1 (by omega) ?_
    rw [show (((truth t).1.toNat : Nat) : Int) = (truth t).1 from by omega]
    exact truth_is h h0
  have hpl : ∀ {a b c d e : Bool}, isF t n.l = a → isT t n.l = b → isT t n.r = c → (n.l == n.r) = d → (n.k == 5 || !isF t n.r) = e → plain t n = (!a && !b && !c && !d && e) := by
    rintro _ _ _ _ _ rfl rfl rfl rfl rfl
    unfold plain
    rfl
  rcases jn_three hj with e | e | e
  · unfold simF at h0 ⊢
    rw [if_pos e] at h0 ⊢
    by_cases c1 : isF t n.l = true
    · rw [if_pos c1]; exact al
    · rw [if_neg c1] at h0 ⊢
      by_cases c2 : (isF t n.r || isT t n.l) = true
      · rw [if_pos c2]; exact ar
      · rw [if_neg c2] at h0 ⊢
        by_cases c3 : (isT t n.r || n.l == n.r) = true
        · rw [if_pos c3]; exact al
        · rw [if_neg c3] at h0 ⊢
          refine hput h0 ?_
          simp only [Bool.not_eq_true, Bool.or_eq_false_iff] at c1 c2 c3
          rw [hpl c1 c2.2 c3.1 c3.2 (by rw [c2.1]; simp : _ = true)]
          rfl
  · unfold simF at h0 ⊢
    rw [if_neg (by omega), if_pos e] at h0 ⊢
    by_cases c1 : isT t n.l = true
    · rw [if_pos c1]; exact al
    · rw [if_neg c1] at h0 ⊢
      by_cases c2 : (isT t n.r || isF t n.l) = true
      · rw [if_pos c2]; exact ar
      · rw [if_neg c2] at h0 ⊢
        by_cases c3 : (isF t n.r || n.l == n.r) = true
        · rw [if_pos c3]; exact al
        · rw [if_neg c3] at h0 ⊢
          refine hput h0 ?_
          simp only [Bool.not_eq_true, Bool.or_eq_false_iff] at c1 c2 c3
          rw [hpl c2.2 c1 c2.1 c3.2 (by rw [c3.1]; simp : _ = true)]
          rfl
  · unfold simF at h0 ⊢
    rw [if_neg (by omega), if_neg (by omega), if_pos e] at h0 ⊢
    by_cases c1 : (isF t n.l || isT t n.r || n.l == n.r) = true
    · rw [if_pos c1] at h0 ⊢; exact htr h0
    · rw [if_neg c1] at h0 ⊢
      by_cases c2 : isT t n.l = true
      · rw [if_pos c2]; exact ar
      · rw [if_neg c2] at h0 ⊢
        refine hput h0 ?_
        simp only [Bool.not_eq_true, Bool.or_eq_false_iff] at c1 c2
        rw [hpl c1.1.1 c2 c1.1.2 c1.2 (by rw [e]; rfl : _ = true)]
        rfl
/-- What Simple makes is simple. -/
theorem simple_twice {t : List Nd} (h : Fm.Ok t) {id : Nat} (hid : id < t.length) (hok : (anew (fun t _ n => simF t n) t id).2.1 = 0) :
    Fm.Ok (anew (fun t _ n => simF t n) t id).2.2 ∧ Fm.has (anew (fun t _ n => simF t n) t id).2.2 (anew (fun t _ n => simF t n) t id).1 = true ∧
    anew (fun t _ n => simF t n) (anew (fun t _ n => simF t n) t id).2.2 (anew (fun t _ n => simF t n) t id).1.toNat = ((anew (fun t _ n => simF t n) t id).1, 0, (anew (fun t _ n => simF t n) t id).2.2) := by
  have hF := simF_fair t
  have hlt : ∀ i ∈ Fm.below t id, i < t.length := fun i hi => by have := Ms.below_lt t id i hi; omega
  have hR := runs_run h (by omega) hF (Fm.below t id) hlt
  have hok' : (run (fun t _ n => simF t n) (Fm.below t id) t).2.1 = 0 := by
    unfold anew at hok
    by_cases e : (run (fun t _ n => simF t n) (Fm.below t id) t).2.1 = 0
    · exact e
    · rw [if_neg e] at hok; exact hok
  have hP := run_ind h hid hF (fun t1 _ x => Fm.Ok t1 → Alln t1 x.toNat) (by
    intro t1 u i x hp ho
    exact (hp (ok_ext ho)).ext (ok_ext ho)) (by
    intro t1 im i hR1 hi hib hparts he ho
    obtain ⟨u, hu⟩ := hR1.ext
    have hu' : t1 = t ++ u := hu
    have hok1 : Fm.Ok t1 := hR1.ok
    have hi1 : i < t1.length := by rw [hu', List.length_append]; omega
    have hrow : row t1 i = row t i := by rw [hu']; exact row_ext hi
    obtain ⟨_, hpp⟩ := good_rowI hok1 hR1.im hi1
    cases hj : Fm.jn (row t i).k
    · have hri : rowI t1 im i = row t1 i := by unfold rowI; rw [hrow, if_neg (by rw [hj]; simp)]
      show Alln (simF t1 (rowI t1 im i)).2.2 (simF t1 (rowI t1 im i)).1.toNat
      rw [hri, simF_other (by rw [hrow]; exact hj), put_self hok1 hi1]
      show Alln t1 i
      refine Alln.join hi1 (fun h' => ?_) fun h' => ?_
      · rw [hrow, hj] at h'; cases h'
      · rw [hrow, hj] at h'; cases h'
    · have hri : rowI t1 im i = ⟨(row t i).k, ⟨#[]⟩, im (row t i).l.toNat, im (row t i).r.toNat⟩ := by rw [rowI_at hok1 hi1 im (by rw [hrow]; exact hj), hrow]
      show Alln (simF t1 (rowI t1 im i)).2.2 (simF t1 (rowI t1 im i)).1.toNat
      have hjr : Fm.jn (rowI t1 im i).k = true := by rw [hri]; exact hj
      refine simF_all hok1 hjr (hpp hjr).1 (hpp hjr).2 ?_ ?_ he
      · rw [hri]; exact (hparts hj).1 hok1
      · rw [hri]; exact (hparts hj).2 hok1) hok' id below_self
  have hA := hP hR.ok
  have hh := hR.im id
  have e : anew (fun t _ n => simF t n) t id = ((run (fun t _ n => simF t n) (Fm.below t id) t).1 id, 0, (run (fun t _ n => simF t n) (Fm.below t id) t).2.2) := by
    unfold anew
    rw [if_pos hok']
  rw [e]
  have hb := Fm.has_iff.1 hh
  refine ⟨hR.ok, hh, ?_⟩
  obtain ⟨S, s0, hS⟩ := hA
  have := anew_self hR.ok (id := ((run (fun t _ n => simF t n) (Fm.below t id) t).1 id).toNat) (by omega) (F := fun t _ n => simF t n) (fun i hi => by
    have hSi : S i := below_ind (P := S) s0 (fun k hk hjn => (hS k hk).2.2 hjn) i hi
    exact simF_nf hR.ok (hS i hSi).1 (hS i hSi).2.1)
  rw [this, show ((((run (fun t _ n => simF t n) (Fm.below t id) t).1 id).toNat : Nat) : Int) = (run (fun t _ n => simF t n) (Fm.below t id) t).1 id from by omega]
end Go.Proofs.Ythfedlodikbdgaa.Sb
