/-
  Plain mathematics: what is read is names and signs; its faults; tokens of a text, and of a text in parentheses. No condition.
-/
import Derived.Test.YtcidldgenogdkaaGreatDoorAPar
namespace Go.Proofs.YtcidldgenogdkaaGreatDoor
open Fm (Nd)
open Sx (T Tn Lv Rd Out tk sgn counts up stp bnd rd)

namespace Ap
section
variable {ts : List Tn}
/-- What is read: names and signs; or one of two faults. -/
def Kd (ts : List Tn) (i : Nat) : Out → Prop
  | .bad e _ => e = 40 ∨ e = 41
  | .ok _ i' _ => i ≤ i' ∧ ∀ j, i ≤ j → j < i' → (tk ts j).k = 1 ∨ (tk ts j).k = 3
theorem kd_ok (a : T) (i n : Nat) : Kd ts i (.ok a i n) := ⟨Nat.le_refl _, fun j h1 h2 => by omega⟩
theorem kd_one (a : T) (i n : Nat) (h : (tk ts i).k = 1 ∨ (tk ts i).k = 3) : Kd ts i (.ok a (i + 1) n) := ⟨by omega, fun j h1 h2 => by
  have : j = i := by omega
  subst this
  exact h⟩
theorem kd_ref (i j n : Nat) : Kd ts i (Sx.refuse ts j n) := by
  unfold Sx.refuse
  split
  · exact Or.inl rfl
  · exact Or.inr rfl
theorem kd_tr {i i1 : Nat} {o : Out} (h1 : i ≤ i1) (h2 : ∀ j, i ≤ j → j < i1 → (tk ts j).k = 1 ∨ (tk ts j).k = 3) (h : Kd ts i1 o) : Kd ts i o := by
  cases o with
  | bad e t => exact h
  | ok a i' n =>
    obtain ⟨h3, h4⟩ := h
    refine ⟨by omega, fun j hj1 hj2 => ?_⟩
    rcases Nat.lt_or_ge j i1 with hj | hj
    · exact h2 j hj1 hj
    · exact h4 j hj hj2
theorem kd_stp {i n : Nat} {k : Nat → Option Out} {o : Out} (hi : (tk ts i).k = 1 ∨ (tk ts i).k = 3) (h : stp ts i n k = some o) (hk : ∀ m, k m = some o → Kd ts (i + 1) o) : Kd ts i o := by
  rcases Sx.stp_cases h with ⟨_, rfl⟩ | ⟨_, h2⟩
  · exact Or.inl rfl
  · refine kd_tr (Nat.le_succ i) (fun j h1 h2 => ?_) (hk _ h2)
    have : j = i := by omega
    subst this
    exact hi
theorem kd_bnd {i : Nat} {x : Option Out} {k : T → Nat → Nat → Option Out} {o : Out} (h : bnd x k = some o) (hx : ∀ o, x = some o → Kd ts i o) (hk : ∀ a j m, k a j m = some o → Kd ts j o) : Kd ts i o := by
  rcases Sx.bnd_cases h with ⟨e, t, h1, rfl⟩ | ⟨a, j, m, h1, h2⟩
  · exact hx _ h1
  · obtain ⟨h3, h4⟩ := hx _ h1
    exact kd_tr h3 h4 (hk a j m h2)
theorem kd_sgn {i : Nat} {g : List UInt8} {x y : Option Out} {o : Out} (h : (if sgn (tk ts i) g then x else y) = some o) (hx : ((tk ts i).k = 1 ∨ (tk ts i).k = 3) → x = some o → Kd ts i o) (hy : y = some o → Kd ts i o) : Kd ts i o := by
  cases hs : Sx.sgn (tk ts i) g
  · rw [hs] at h; exact hy h
  · rw [hs] at h
    refine hx (Or.inr ?_) h
    unfold Sx.sgn at hs
    simp only [Bool.and_eq_true, beq_iff_eq] at hs
    exact hs.1
theorem kd_end {a : T} {i n : Nat} {o : Out} (h : some (Out.ok a i n) = some o) : Kd ts i o := by
  cases h
  exact kd_ok a i n
theorem kd_refE {i j n : Nat} {o : Out} (h : some (Sx.refuse ts j n) = some o) : Kd ts i o := by
  cases h
  exact kd_ref i j n
theorem rd_kd : ∀ (f : Nat) (lv : Lv) (i n d : Nat) (o : Out), rd ts f lv i n d = some o → Kd ts i o
  | 0, lv, i, n, d, o => fun h => by simp [Sx.rd] at h
  | f + 1, lv, i, n, d, o => by
    intro h
    have ih := rd_kd f
    cases lv with
    | formula => exact kd_bnd h (fun o e => ih .implied i n d o e) fun a j m h => kd_sgn h (fun hk h => kd_stp hk h fun m h => kd_bnd h (fun o e => ih .formula (j + 1) m d o e) fun _ _ _ h => kd_end h) fun h => kd_end h
    | implied => exact kd_bnd h (fun o e => ih .joined i n d o e) fun a j m h => kd_sgn h (fun hk h => kd_stp hk h fun m h => kd_bnd h (fun o e => ih .implied (j + 1) m d o e) fun _ _ _ h => kd_end h) fun h => kd_end h
    | joined => exact kd_bnd h (fun o e => ih .both i n d o e) fun a j m h => ih (.ors a) j m d o h
    | both => exact kd_bnd h (fun o e => ih .single i n d o e) fun a j m h => ih (.ands a) j m d o h
    | ors c => exact kd_sgn h (fun hk h => kd_stp hk h fun m h => kd_bnd h (fun o e => ih .both (i + 1) m d o e) fun b j m h => ih (.ors (.bin 4 c b)) j m d o h) fun h => kd_end h
    | ands c => exact kd_sgn h (fun hk h => kd_stp hk h fun m h => kd_bnd h (fun o e => ih .single (i + 1) m d o e) fun b j m h => ih (.ands (.bin 3 c b)) j m d o h) fun h => kd_end h
    | single =>
      refine kd_sgn h (fun hk h => kd_stp hk h fun m h => kd_bnd h (fun o e => ih .single (i + 1) m d o e) fun _ _ _ h => kd_end h) fun h => kd_sgn h (fun hk h => ?_) fun h => ?_
      · by_cases hd : d = 1024
        · rw [if_pos hd] at h; exact kd_refE h
        · rw [if_neg hd] at h
          refine kd_stp hk h fun m h => kd_bnd h (fun o e => ih .formula (i + 1) m (d + 1) o e) fun b j m h => kd_sgn h (fun hk h => kd_stp hk h fun m h => kd_end h) fun h => kd_refE h
      · by_cases hk : (tk ts i).k = 1
        · rw [if_pos hk] at h
          cases hn : Sx.named (tk ts i).s with
          | none => rw [hn] at h; exact kd_refE h
          | some b => rw [hn] at h; exact kd_stp (Or.inl hk) h fun m h => kd_end h
        · rw [if_neg hk] at h; exact kd_refE h
end
end Ap
namespace Bk
/-- A byte that ends every token and begins none. -/
theorem pre_app : ∀ (g x r : List UInt8) (d : UInt8), d ∉ g → g.isPrefixOf (x ++ d :: r) = g.isPrefixOf x
  | [], x, r, d, _ => by simp
  | a :: g, [], r, d, h => by
    simp only [List.nil_append, List.isPrefixOf_cons_cons]
    have : (a == d) = false := beq_eq_false_iff_ne.2 (fun e => h (by simp [e]))
    rw [this]; rfl
  | a :: g, b :: x, r, d, h => by
    simp only [List.cons_append, List.isPrefixOf_cons_cons]
    rw [pre_app g x r d (fun e => h (by simp [e]))]
theorem sign_app (x r : List UInt8) (d : UInt8) : ∀ gs : List (List UInt8), (∀ g ∈ gs, d ∉ g) → Tk.signIn gs (x ++ d :: r) = Tk.signIn gs x
  | [], _ => rfl
  | g :: gs, h => by
    unfold Tk.signIn
    rw [pre_app g x r d (h g (by simp)), sign_app x r d gs fun g hg => h g (by simp [hg])]
theorem run_app (f : UInt8 → Bool) (d : UInt8) (r : List UInt8) (hd : f d = false) : ∀ x : List UInt8, Tk.run f (x ++ d :: r) = Tk.run f x
  | [] => by rw [List.nil_append, Tk.run_cons, if_neg (by rw [hd]; simp)]; rfl
  | c :: x => by rw [List.cons_append, Tk.run_cons, Tk.run_cons, run_app f d r hd x]
theorem meaning_bad : (Tk.meaning 65533).1 = 0 := by decide
theorem cut_line (l r : List UInt8) (hl : l ≠ []) (h : (Tk.cut l).2.2 = 0) : Tk.cut (l ++ 10 :: r) = Tk.cut l := by
  obtain ⟨c, x, rfl⟩ := List.exists_cons_of_ne_nil hl
  rw [List.cons_append, cut_c, cut_c, ← List.cons_append]
  rw [cut_c] at h
  by_cases hb : Tk.isBeg c = true
  · rw [if_pos hb, if_pos hb]
    unfold Tk.cutName
    rw [run_app _ 10 r (by decide), List.take_append_of_le_length (Tk.run_le _ _)]
  rw [if_neg hb] at h
  rw [if_neg hb, if_neg hb]
  by_cases hd : Tk.isDig c = true
  · rw [if_pos hd, if_pos hd]
    unfold Tk.cutNum
    have e : Tk.inAt ((c :: x) ++ 10 :: r) (Tk.run Tk.isDig (c :: x)) = Tk.inAt (c :: x) (Tk.run Tk.isDig (c :: x)) := by
      unfold Tk.inAt
      have hle := Tk.run_le Tk.isDig (c :: x)
      rcases Nat.lt_or_ge (Tk.run Tk.isDig (c :: x)) (c :: x).length with h | h
      · rw [List.getElem?_append_left h]
      · have he : Tk.run Tk.isDig (c :: x) = (c :: x).length := by omega
        rw [he, List.getElem?_append_right (Nat.le_refl _), Nat.sub_self, List.getElem?_cons_zero, List.getElem?_eq_none (Nat.le_refl _)]
        decide
    rw [run_app _ 10 r (by decide), List.take_append_of_le_length (Tk.run_le _ _), e]
    rfl
  rw [if_neg hd] at h
  rw [if_neg hd, if_neg hd]
  by_cases hc : c.toNat < 128
  · rw [if_pos hc, if_pos hc]
    exact sign_app _ _ _ _ (by decide)
  rw [if_neg hc] at h
  rw [if_neg hc, if_neg hc]
  have hdec : Tk.dec ((c :: x) ++ 10 :: r) = Tk.dec (c :: x) := by
    have hs := Tk.dec_self (c :: x)
    have hle := Tk.dec_le (c :: x) (by simp)
    unfold Tk.cutRune at h
    obtain ⟨rr, nn, hd2⟩ : ∃ rr nn, Tk.dec (c :: x) = (rr, nn) := ⟨_, _, rfl⟩
    rw [hd2] at hs hle h ⊢
    refine Tk.dec_ext _ rr nn ?_ ?_
    · rw [List.take_append_of_le_length hle]; exact hs
    · intro e
      rw [e, if_pos meaning_bad] at h
      exact absurd h (by decide)
  unfold Tk.cutRune
  rw [hdec]
theorem skip_line (r : List UInt8) : ∀ (m : Nat) (l : List UInt8), l.length ≤ m → Tk.skip (l ++ 10 :: r) = if Tk.skip l = l.length then l.length + Tk.skip (10 :: r) else Tk.skip l
  | _, [], _ => by rw [Tk.skip_nil]; simp
  | 0, c :: l, h => absurd h (by simp)
  | m + 1, c :: l, h => by
    simp only [List.length_cons] at h ⊢
    cases hb : Tk.isBlank c with
    | true =>
      have ih := skip_line r m l (by omega)
      rw [List.cons_append, Tk.skip_blank c _ hb, Tk.skip_blank c l hb, ih]
      by_cases hs : Tk.skip l = l.length
      · rw [if_pos hs, if_pos (by omega)]; omega
      · rw [if_neg hs, if_neg (by omega)]
    | false =>
      by_cases hc : c.toNat = 35
      · have h1 := Tk.run_hash c l hc
        have h2 := Tk.run_le (fun c => c != 10) (c :: l)
        have ih := skip_line r m ((c :: l).drop (Tk.run (fun c => c != 10) (c :: l))) (by rw [List.length_drop, List.length_cons]; omega)
        rw [List.cons_append, Tk.skip_hash c _ hc, Tk.skip_hash c l hc, ← List.cons_append, run_app _ 10 r (by decide), List.drop_append_of_le_length h2, ih, List.length_drop]
        simp only [List.length_cons] at h2 ⊢
        generalize Tk.run (fun c => c != 10) (c :: l) = q at *
        by_cases hs : Tk.skip ((c :: l).drop q) = l.length + 1 - q
        · rw [if_pos hs, if_pos (by omega)]; omega
        · rw [if_neg hs, if_neg (by omega)]
      · rw [List.cons_append, Tk.skip_else c _ hb hc, Tk.skip_else c l hb hc, if_neg (by omega)]
theorem Toks.line {l : List UInt8} {ts : List Tk.Tok} (h : Toks l ts) {r : List UInt8} {ys : List Tk.Tok} (hr : Toks r ys) : Toks (l ++ 10 :: r) (ts ++ ys) := by
  induction h with
  | nil l h =>
    have hs := skip_line r _ l (Nat.le_refl _)
    rw [if_pos h, Tk.skip_blank 10 r (by decide)] at hs
    rw [List.nil_append]
    cases hr with
    | nil _ h2 => exact Toks.nil _ (by rw [hs, h2, List.length_append, List.length_cons]; omega)
    | cons _ x r' t ts h1 h2 h3 h4 h5 =>
      refine Toks.cons _ x r' t ts ?_ h2 h3 h4 h5
      rw [hs, List.drop_append, List.drop_eq_nil_of_le (by omega), List.nil_append, show l.length + (1 + Tk.skip r) - l.length = Tk.skip r + 1 by omega, List.drop_succ_cons]
      exact h1
  | cons l x r0 t ts h1 h2 h3 h4 h ih =>
    have hx : 0 < x.length := List.length_pos_iff.2 h4
    have hlen := congrArg List.length h1
    rw [List.length_drop, List.length_append] at hlen
    have hs := skip_line r _ l (Nat.le_refl _)
    rw [if_neg (by omega)] at hs
    refine Toks.cons _ x (r0 ++ 10 :: r) t (ts ++ ys) ?_ ?_ h3 h4 ih
    · rw [hs, List.drop_append_of_le_length (by omega), h1, List.append_assoc]
    · rw [← List.append_assoc, cut_line _ _ (by simp [h4]) (by rw [h2])]
      exact h2
theorem Toks.kinds {l : List UInt8} {ts : List Tk.Tok} (h : Toks l ts) : ∀ t ∈ ts, t.1 ≠ 0 := by
  induction h with
  | nil => simp
  | cons l x r t ts h1 h2 h3 h4 h ih =>
    intro y hy
    rcases List.mem_cons.1 hy with e | e
    · rw [e]; exact h3
    · exact ih y e
theorem scanF_toks : ∀ (f : Nat) (s : List UInt8) (o : Nat) (a : List (Tk.Tok × Nat)), o ≤ s.length → s.length < o + f → (Tk.scanF f s o a).2.1 = 0 → ∃ ts, Toks (s.drop o) ts
  | 0, s, o, a, ho, hf => absurd hf (by omega)
  | f + 1, s, o, a, ho, hf => by
    have hsk := Tk.skip_le _ (s.drop o) (Nat.le_refl _)
    rw [List.length_drop] at hsk
    rw [Tk.scanF_step]
    intro h
    by_cases h1 : (Tk.cut (s.drop (o + Tk.skip (s.drop o)))).2.2 ≠ 0
    · rw [if_pos h1] at h
      exact absurd h h1
    · rw [if_neg h1] at h
      have h1' := Decidable.not_not.1 h1
      by_cases h2 : (Tk.cut (s.drop (o + Tk.skip (s.drop o)))).1.1 = 0
      · have he := Tk.cut_end _ h1' h2
        refine ⟨[], Toks.nil _ ?_⟩
        have := congrArg List.length he
        rw [List.length_drop, List.length_nil] at this
        rw [List.length_drop]
        omega
      · rw [if_neg h2] at h
        have hl : s.drop (o + Tk.skip (s.drop o)) ≠ [] := fun e => h2 (by rw [e]; rfl)
        have hg := Tk.cut_good _ hl h1'
        have hle := hg.2.1.le
        have hle2 := hle
        rw [List.length_drop] at hle
        obtain ⟨ts, hts⟩ := scanF_toks f s (o + Tk.skip (s.drop o) + (Tk.cut (s.drop (o + Tk.skip (s.drop o)))).2.1) _ (by omega) (by omega) h
        rw [← List.drop_drop] at hts
        have e0 : (s.drop o).drop (Tk.skip (s.drop o)) = s.drop (o + Tk.skip (s.drop o)) := List.drop_drop
        generalize s.drop (o + Tk.skip (s.drop o)) = l at *
        refine ⟨(Tk.cut l).1 :: ts, Toks.cons _ (l.take (Tk.cut l).2.1) (l.drop (Tk.cut l).2.1) _ ts ?_ ?_ h2 ?_ hts⟩
        · rw [List.take_append_drop]; exact e0
        · rw [List.take_append_drop, List.length_take, Nat.min_eq_left hle2, ← h1']
        · intro e
          have := congrArg List.length e
          rw [List.length_take, Nat.min_eq_left hle2, List.length_nil] at this
          omega
theorem scan_toks (s : List UInt8) (h : (Tk.scan s).2.1 = 0) : ∃ ts, Toks s ts := by
  obtain ⟨ts, hts⟩ := scanF_toks (s.length + 1) s 0 [] (by omega) (by omega) h
  rw [List.drop_zero] at hts
  exact ⟨ts, hts⟩
end Bk
end Go.Proofs.YtcidldgenogdkaaGreatDoor
