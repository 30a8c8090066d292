/-
  Blanks and comments between the tokens of a text turn nothing but spots. Plain; nothing of the program is named here but the functions on lists that its texts lean on. No condition.
-/
import Derived.Test.YtgcoalcfhflfiaaDoorBackP
set_option linter.unusedSimpArgs false
namespace Go.Proofs.YtgcoalcfhflfiaaDoor
open Go.RowKit

theorem sign_code (l : List UInt8) : ∀ gs : List (List UInt8), (Tk.signIn gs l).2.2 = 0 ∨ (Tk.signIn gs l).2.2 = 20
  | [] => Or.inr rfl
  | g :: gs => by
    unfold Tk.signIn
    split
    · exact Or.inl rfl
    · exact sign_code l gs
theorem cut_codes (l : List UInt8) : (Tk.cut l).2.2 = 0 ∨ (20 ≤ (Tk.cut l).2.2 ∧ (Tk.cut l).2.2 ≤ 22) := by
  cases l with
  | nil => exact Or.inl rfl
  | cons c r =>
    rw [cut_cons]
    split
    · unfold Tk.cutName; split <;> simp [Tk.bad]
    · split
      · unfold Tk.cutNum; split <;> simp [Tk.bad]
      · split
        · unfold Tk.cutSign
          rcases sign_code (c :: r) Tk.signs with h | h
          · exact Or.inl h
          · exact Or.inr (by rw [h]; decide)
        · unfold Tk.cutRune; split <;> simp [Tk.bad]
/-- Digits without a nought ahead are what their value is written as. -/
theorem val_snocL (d : List UInt8) (c : UInt8) : Tk.val 0 (d ++ [c]) = 10 * Tk.val 0 d + (c.toNat - 48) := by
  unfold Tk.val
  rw [List.foldl_append]
  rfl
theorem val_pos (c : UInt8) (r : List UInt8) (hc : Tk.isDig c = true) (h0 : c ≠ 48) : 1 ≤ Tk.val 0 (c :: r) := by
  have h1 := (isDig_iff c).1 hc
  have h2 : c.toNat ≠ 48 := fun e => h0 (UInt8.toNat_inj.1 e)
  have : ∀ (r : List UInt8) (a : Nat), a ≤ Tk.val a r := by
    intro r
    induction r with
    | nil => intro a; exact Nat.le_refl _
    | cons x r ih => intro a; have := ih (10 * a + (x.toNat - 48)); show a ≤ Tk.val (10 * a + (x.toNat - 48)) r; omega
  have h3 := this r (10 * 0 + (c.toNat - 48))
  show 1 ≤ Tk.val (10 * 0 + (c.toNat - 48)) r
  omega
theorem dig_ofNat (c : UInt8) (hc : Tk.isDig c = true) : UInt8.ofNat (48 + (c.toNat - 48)) = c := by
  have h1 := (isDig_iff c).1 hc
  rw [show 48 + (c.toNat - 48) = c.toNat by omega]
  simp
theorem dec_val : ∀ (n : Nat) (d : List UInt8), d.length = n + 1 → (∀ c ∈ d, Tk.isDig c = true) → (d.head? = some 48 → d.length = 1) → Lib.decDigits (Tk.val 0 d) = d := by
  intro n
  induction n with
  | zero =>
    intro d hd ha _
    match d, hd with
    | [c], _ =>
      have hc := ha c (by simp)
      have h1 := (isDig_iff c).1 hc
      have e : Tk.val 0 [c] = c.toNat - 48 := by show 10 * 0 + (c.toNat - 48) = _; omega
      rw [e, Lib.decDigits_one (by omega), dig_ofNat c hc]
  | succ n ih =>
    intro d hd ha hz
    have hne : d ≠ [] := fun e => by rw [e] at hd; simp at hd
    obtain ⟨d', c, rfl⟩ : ∃ d' c, d = d' ++ [c] := ⟨d.dropLast, d.getLast hne, (List.dropLast_concat_getLast hne).symm⟩
    rw [List.length_append, List.length_singleton] at hd
    have hl' : d'.length = n + 1 := by omega
    have hc := ha c (by simp)
    have h1 := (isDig_iff c).1 hc
    obtain ⟨x, r, rfl⟩ : ∃ x r, d' = x :: r := by cases d' with | nil => simp at hl' | cons x r => exact ⟨x, r, rfl⟩
    have hx0 : x ≠ 48 := fun e => by
      have := hz (by rw [e]; rfl)
      rw [List.length_append, List.length_singleton, hl'] at this
      omega
    have hv := val_pos x r (ha x (by simp)) hx0
    have ih' := ih (x :: r) hl' (fun y hy => ha y (by simp at hy ⊢; rcases hy with h | h; exact Or.inl h; exact Or.inr (Or.inl h))) (fun e => by simp at e; exact absurd e hx0)
    rw [val_snocL]
    rw [Lib.decDigits, dif_neg (by omega), show (10 * Tk.val 0 (x :: r) + (c.toNat - 48)) / 10 = Tk.val 0 (x :: r) by omega, show (10 * Tk.val 0 (x :: r) + (c.toNat - 48)) % 10 = c.toNat - 48 by omega, ih', dig_ofNat c hc]
theorem sign_take_eq (l : List UInt8) : ∀ gs : List (List UInt8), (Tk.signIn gs l).2.2 = 0 → l.take (Tk.signIn gs l).2.1 = (Tk.signIn gs l).1.2.1
  | [], h => absurd h (by simp [Tk.signIn, Tk.bad])
  | g :: gs, h => by
    unfold Tk.signIn at h ⊢
    split
    · rename_i hp
      exact (List.prefix_iff_eq_take.1 (List.isPrefixOf_iff_prefix.1 hp)).symm
    · rename_i hp
      rw [if_neg hp] at h
      exact sign_take_eq l gs h
theorem wrt_of_raw (t : Tk.Tok) (x : List UInt8) (n : Nat) (hx : rawText t = x) (hc : Tk.cut x = (t, n, 0)) : (wrt t).2 = 0 := by
  unfold wrt
  rw [hx, hc, if_pos ⟨rfl, rfl⟩]
theorem meaning_wrt (r : Nat) (_h : (Tk.meaning r).1 ≠ 0) : (wrt ((Tk.meaning r).1, (Tk.meaning r).2, 0)).2 = 0 := by
  unfold Tk.meaning
  repeat' split
  all_goals decide +kernel
/-- Each token of a text can be written. -/
theorem cut_wrt (l : List UInt8) (hl : l ≠ []) (h : (Tk.cut l).2.2 = 0) : (wrt (Tk.cut l).1).2 = 0 := by
  have hg := Tk.cut_good l hl h
  have htk := Tk.cut_take l (Tk.cut l).2.1 h (Nat.le_refl _) hl
  have hq : Tk.cut l = ((Tk.cut l).1, (Tk.cut l).2.1, 0) := by
    conv => lhs; rw [show Tk.cut l = ((Tk.cut l).1, (Tk.cut l).2.1, (Tk.cut l).2.2) from rfl, h]
  cases l with
  | nil => exact absurd rfl hl
  | cons c r =>
    have e := cut_cons c r
    cases hb : Tk.isBeg c with
    | true =>
      rw [hb, if_pos rfl] at e
      have e2 := e
      unfold Tk.cutName at e2
      by_cases h31 : 31 < Tk.run Tk.isIn (c :: r)
      · rw [if_pos h31] at e2; rw [e2] at h; exact absurd h (by simp [Tk.bad])
      · rw [if_neg h31] at e2
        refine wrt_of_raw _ ((c :: r).take (Tk.cut (c :: r)).2.1) (Tk.cut (c :: r)).2.1 ?_ (by rw [htk]; exact hq)
        rw [e2]; rfl
    | false =>
      rw [hb, if_neg (by simp)] at e
      cases hd : Tk.isDig c with
      | true =>
        rw [hd, if_pos rfl] at e
        have e2 := e
        unfold Tk.cutNum at e2
        by_cases hbad : 999999999 < Tk.val 0 ((c :: r).take (Tk.run Tk.isDig (c :: r))) ∨ ((c :: r)[0]? = some 48 ∧ 1 < Tk.run Tk.isDig (c :: r)) ∨ Tk.inAt (c :: r) (Tk.run Tk.isDig (c :: r)) = true
        · rw [if_pos hbad] at e2; rw [e2] at h; exact absurd h (by simp [Tk.bad])
        · rw [if_neg hbad] at e2
          refine wrt_of_raw _ ((c :: r).take (Tk.cut (c :: r)).2.1) (Tk.cut (c :: r)).2.1 ?_ (by rw [htk]; exact hq)
          have hlen : ((c :: r).take (Tk.run Tk.isDig (c :: r))).length = Tk.run Tk.isDig (c :: r) := by rw [List.length_take]; have := Tk.run_le Tk.isDig (c :: r); omega
          have h1 : 1 ≤ Tk.run Tk.isDig (c :: r) := by rw [Tk.run_cons, if_pos hd]; omega
          have hv := dec_val (Tk.run Tk.isDig (c :: r) - 1) ((c :: r).take (Tk.run Tk.isDig (c :: r))) (by rw [hlen]; omega) (Tk.all_run Tk.isDig (c :: r)) (fun e0 => by
            rw [hlen]
            have e3 : c = 48 := by
              obtain ⟨k, hk⟩ : ∃ k, Tk.run Tk.isDig (c :: r) = k + 1 := ⟨_, by rw [Tk.run_cons, if_pos hd]⟩
              rw [hk, List.take_succ_cons] at e0
              simpa using e0
            rcases Nat.lt_or_ge 1 (Tk.run Tk.isDig (c :: r)) with h2 | h2
            · exact absurd (Or.inr (Or.inl ⟨by rw [e3]; rfl, h2⟩)) hbad
            · omega)
          rw [e2]
          show Lib.itoa (Tk.val 0 ((c :: r).take (Tk.run Tk.isDig (c :: r))) : Int) = (c :: r).take (Tk.run Tk.isDig (c :: r))
          rw [Lib.itoa, if_neg (by omega)]
          exact hv
      | false =>
        rw [hd, if_neg (by simp)] at e
        by_cases h128 : c.toNat < 128
        · rw [if_pos h128] at e
          refine wrt_of_raw _ ((c :: r).take (Tk.cut (c :: r)).2.1) (Tk.cut (c :: r)).2.1 ?_ (by rw [htk]; exact hq)
          unfold Tk.cutSign at e
          rw [e] at h ⊢
          have h3 := (Tk.sign_good (c :: r) Tk.signs Tk.signs_ok h).2.2
          unfold rawText
          rw [if_neg (by rw [h3]; decide)]
          exact (sign_take_eq (c :: r) Tk.signs h).symm
        · rw [if_neg h128] at e
          unfold Tk.cutRune at e
          by_cases hz : (Tk.meaning (Tk.dec (c :: r)).1).1 = 0
          · rw [if_pos hz] at e; rw [e] at h; exact absurd h (by simp [Tk.bad])
          · rw [if_neg hz] at e
            rw [e]
            exact meaning_wrt _ hz
/-- A token of a text of n bytes: how great it is. -/
def TokOk (n : Nat) (t : Tk.Tok) : Prop := 0 ≤ t.2.2 ∧ t.2.2 ≤ 999999999 ∧ (t.2.1.length ≤ n ∨ t.2.1.length ≤ 5)
theorem sign_small' (l : List UInt8) : ∀ gs : List (List UInt8), (∀ g ∈ gs, g.length ≤ 3) → (Tk.signIn gs l).1.2.1.length ≤ 3 ∧ (Tk.signIn gs l).1.2.2 = 0
  | [], _ => ⟨by simp [Tk.signIn, Tk.bad], rfl⟩
  | g :: gs, h => by
    unfold Tk.signIn
    split
    · exact ⟨h g (by simp), rfl⟩
    · exact sign_small' l gs fun g hg => h g (by simp [hg])
theorem cut_small (l : List UInt8) (n : Nat) (hn : l.length ≤ n) : TokOk n (Tk.cut l).1 := by
  cases l with
  | nil => exact ⟨by decide, by decide, Or.inr (by decide)⟩
  | cons c r =>
    rw [cut_cons]
    split
    · unfold Tk.cutName
      split
      · exact ⟨by decide, by decide, Or.inr (by decide)⟩
      · exact ⟨Int.le_refl _, by show (0 : Int) ≤ 999999999; decide, Or.inl (by show ((c :: r).take _).length ≤ n; rw [List.length_take]; omega)⟩
    · split
      · unfold Tk.cutNum
        split
        · exact ⟨by decide, by decide, Or.inr (by decide)⟩
        · rename_i h
          exact ⟨by show (0 : Int) ≤ (Tk.val 0 ((c :: r).take (Tk.run Tk.isDig (c :: r))) : Int); omega, by show (Tk.val 0 ((c :: r).take (Tk.run Tk.isDig (c :: r))) : Int) ≤ 999999999; omega, Or.inr (by show (0 : Nat) ≤ 5; omega)⟩
      · split
        · have h := sign_small' (c :: r) Tk.signs (by decide)
          unfold Tk.cutSign
          exact ⟨by rw [h.2]; decide, by rw [h.2]; decide, Or.inr (by omega)⟩
        · unfold Tk.cutRune
          split
          · exact ⟨by decide, by decide, Or.inr (by decide)⟩
          · refine ⟨Int.le_refl _, by show (0 : Int) ≤ 999999999; decide, Or.inr ?_⟩
            show (Tk.meaning (Tk.dec (c :: r)).1).2.length ≤ 5
            unfold Tk.meaning
            repeat' split
            all_goals decide
/-- What a scan answers. -/
theorem scan_shape : ∀ (f : Nat) (s : List UInt8) (o : Nat) (a : List (Tk.Tok × Nat)), o ≤ s.length → s.length < o + f →
    ((Tk.scanF f s o a).2.1 ≠ 0 → 20 ≤ (Tk.scanF f s o a).2.1 ∧ (Tk.scanF f s o a).2.1 ≤ 22) ∧
    ((Tk.scanF f s o a).2.1 = 0 → ∃ (res : List (Tk.Tok × Nat)) (ts : List Tk.Tok), (Tk.scanF f s o a).1 = a ++ res ∧ res.map (·.1) = ts ++ [(0, [], 0)] ∧ ∀ t ∈ ts, (t.1 ≠ 0 ∧ (wrt t).2 = 0) ∧ TokOk s.length t)
  | 0, s, o, a, ho, hf => absurd hf (by omega)
  | f + 1, s, o, a, ho, hf => by
    have hsk := Tk.skip_le _ (s.drop o) (Nat.le_refl _)
    rw [List.length_drop] at hsk
    rw [Tk.scanF_step]
    by_cases h1 : (Tk.cut (s.drop (o + Tk.skip (s.drop o)))).2.2 ≠ 0
    · rw [if_pos h1]
      refine ⟨fun _ => ?_, fun h => absurd h h1⟩
      rcases cut_codes (s.drop (o + Tk.skip (s.drop o))) with h | h
      · exact absurd h h1
      · exact h
    · rw [if_neg h1]
      have h1' := Decidable.not_not.1 h1
      by_cases h2 : (Tk.cut (s.drop (o + Tk.skip (s.drop o)))).1.1 = 0
      · rw [if_pos h2]
        refine ⟨fun h => absurd rfl h, fun _ => ⟨_, [], rfl, ?_, fun t ht => by cases ht⟩⟩
        have := Tk.cut_end _ h1' h2
        rw [this]
        rfl
      · rw [if_neg h2]
        have hl : s.drop (o + Tk.skip (s.drop o)) ≠ [] := fun e => h2 (by rw [e]; rfl)
        have hg := Tk.cut_good _ hl h1'
        have hle := hg.2.1.le
        rw [List.length_drop] at hle
        have hlt : o + Tk.skip (s.drop o) < s.length := by
          rcases Nat.lt_or_ge (o + Tk.skip (s.drop o)) s.length with h3 | h3
          · exact h3
          · exact absurd (List.drop_eq_nil_of_le h3) hl
        have hw := cut_wrt _ hl h1'
        have hsmall := cut_small (s.drop (o + Tk.skip (s.drop o))) s.length (by rw [List.length_drop]; omega)
        have ih := scan_shape f s (o + Tk.skip (s.drop o) + (Tk.cut (s.drop (o + Tk.skip (s.drop o)))).2.1) (a ++ [((Tk.cut (s.drop (o + Tk.skip (s.drop o)))).1, o + Tk.skip (s.drop o))]) (by omega) (by omega)
        refine ⟨ih.1, fun h => ?_⟩
        obtain ⟨res, ts, e1, e2, e3⟩ := ih.2 h
        refine ⟨((Tk.cut (s.drop (o + Tk.skip (s.drop o)))).1, o + Tk.skip (s.drop o)) :: res, (Tk.cut (s.drop (o + Tk.skip (s.drop o)))).1 :: ts, by rw [e1, List.append_assoc]; rfl, by rw [List.map_cons, e2]; rfl, fun t ht => ?_⟩
        rcases List.mem_cons.1 ht with rfl | ht
        · exact ⟨⟨h2, hw⟩, hsmall⟩
        · exact e3 t ht
/-- A gap: it ends every token, and is gone over whole. -/
def Gap (g : List UInt8) : Prop := (∃ d r, g = d :: r ∧ Sep d) ∧ g.length ≤ 8 ∧ ∀ l, Tk.skip (g ++ l) = g.length + Tk.skip l
def gaps : List (List UInt8) := [[32], [10], [32, 35, 32, 45, 62, 32, 59, 10], [9, 13, 32], [35, 10, 35, 255, 10]]
theorem gap_ok : ∀ g ∈ gaps, Gap g := by
  intro g hg
  simp only [gaps, List.mem_cons, List.not_mem_nil, or_false] at hg
  have B : ∀ (c : UInt8) (r : List UInt8), Tk.isBlank c = true → Tk.skip (c :: r) = 1 + Tk.skip r := Tk.skip_blank
  rcases hg with rfl | rfl | rfl | rfl | rfl
  · refine ⟨⟨_, _, rfl, by decide, by decide⟩, by decide, fun l => ?_⟩
    show Tk.skip (32 :: l) = 1 + _
    rw [B _ _ (by decide)]
  · refine ⟨⟨_, _, rfl, by decide, by decide⟩, by decide, fun l => ?_⟩
    show Tk.skip (10 :: l) = 1 + _
    rw [B _ _ (by decide)]
  · refine ⟨⟨_, _, rfl, by decide, by decide⟩, by decide, fun l => ?_⟩
    show Tk.skip (32 :: 35 :: 32 :: 45 :: 62 :: 32 :: 59 :: 10 :: l) = 8 + _
    have hr : Tk.run (fun c => c != 10) (35 :: 32 :: 45 :: 62 :: 32 :: 59 :: 10 :: l) = 6 := by
      simp [Tk.run_cons]
    rw [B _ _ (by decide), Tk.skip_hash _ _ (by decide), hr]
    show 1 + (6 + Tk.skip (10 :: l)) = _
    rw [B _ _ (by decide)]
    omega
  · refine ⟨⟨_, _, rfl, by decide, by decide⟩, by decide, fun l => ?_⟩
    show Tk.skip (9 :: 13 :: 32 :: l) = 3 + _
    rw [B _ _ (by decide), B _ _ (by decide), B _ _ (by decide)]
    omega
  · refine ⟨⟨_, _, rfl, by decide, by decide⟩, by decide, fun l => ?_⟩
    show Tk.skip (35 :: 10 :: 35 :: 255 :: 10 :: l) = 5 + _
    have hr : Tk.run (fun c => c != 10) (35 :: 10 :: 35 :: 255 :: 10 :: l) = 1 := by simp [Tk.run_cons]
    have hr2 : Tk.run (fun c => c != 10) (35 :: 255 :: 10 :: l) = 2 := by simp [Tk.run_cons]
    rw [Tk.skip_hash _ _ (by decide), hr]
    show 1 + Tk.skip (10 :: 35 :: 255 :: 10 :: l) = _
    rw [B _ _ (by decide), Tk.skip_hash _ _ (by decide), hr2]
    show 1 + (1 + (2 + Tk.skip (10 :: l))) = _
    rw [B _ _ (by decide)]
    omega
/-- Tokens with a gap behind each. -/
def flat (ps : List (List UInt8 × List UInt8)) : List UInt8 := ps.flatMap fun p => p.1 ++ p.2
/-- The pairs are the texts of these tokens, with gaps. -/
def Pairs (ts : List Tk.Tok) (ps : List (List UInt8 × List UInt8)) : Prop := ts.length = ps.length ∧ ∀ (k : Nat) t p, ts[k]? = some t → ps[k]? = some p → p.1 = (wrt t).1 ∧ Gap p.2
theorem flat_toks : ∀ (ts : List Tk.Tok) (ps : List (List UInt8 × List UInt8)), (∀ t ∈ ts, t.1 ≠ 0 ∧ (wrt t).2 = 0) → Pairs (ts ++ [(0, [], 0)]) ps → Toks (flat ps) ts
  | [], ps, _, hp => by
    match ps, hp.1 with
    | [p], _ =>
      obtain ⟨h1, h2⟩ := hp.2 0 _ p rfl rfl
      have e : (wrt (0, [], 0)).1 = [] := by decide
      rw [e] at h1
      show Toks (p.1 ++ p.2 ++ []) []
      rw [h1, List.nil_append, List.append_nil]
      refine Toks.nil _ ?_
      have := h2.2.2 []
      rw [List.append_nil, Tk.skip_nil, Nat.add_zero] at this
      exact this
  | t :: ts, ps, ht, hp => by
    cases ps with
    | nil => exact absurd hp.1 (by simp)
    | cons p ps =>
      obtain ⟨h1, h2⟩ := hp.2 0 t p rfl rfl
      have hp' : Pairs (ts ++ [(0, [], 0)]) ps := ⟨by have := hp.1; simp at this ⊢; exact this, fun k u q hu hq => hp.2 (k + 1) u q (by simpa using hu) (by simpa using hq)⟩
      have ih := flat_toks ts ps (fun u hu => ht u (by simp [hu])) hp'
      have ht0 := ht t (by simp)
      show Toks ((p.1 ++ p.2) ++ flat ps) (t :: ts)
      rw [List.append_assoc]
      refine toks_one t p.1 (by rw [h1, ← ht0.2]) ht0.1 _ ?_ ts (ih.gap p.2 (h2.2.2 _))
      obtain ⟨d, r, e, hd⟩ := h2.1
      exact Or.inr ⟨d, r ++ flat ps, by rw [e]; rfl, hd⟩
theorem silent_scan (ts : List Tk.Tok) (ps : List (List UInt8 × List UInt8)) (ht : ∀ t ∈ ts, t.1 ≠ 0 ∧ (wrt t).2 = 0) (hp : Pairs (ts ++ [(0, [], 0)]) ps) : (Tk.scan (10 :: flat ps)).2.1 = 0 ∧ (Tk.scan (10 :: flat ps)).1.map (·.1) = ts ++ [(0, [], 0)] := by
  have h := (flat_toks ts ps ht hp).gap [10] (by rw [List.singleton_append, Tk.skip_blank 10 _ (by decide)]; rfl)
  exact toks_all _ _ h
end Go.Proofs.YtgcoalcfhflfiaaDoor
