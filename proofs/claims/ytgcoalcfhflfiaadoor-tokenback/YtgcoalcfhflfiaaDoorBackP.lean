/-
  What is joined is cut again. Plain; nothing of the program is named here but the functions on lists that its texts lean on. No condition.
-/
import Derived.Test.YtgcoalcfhflfiaaDoorWriteP
import Derived.Test.YtgcoalcfhflfiaaDoorFirstP
import Derived.Test.YtgcoalcfhflfiaaDoorTJoin
set_option linter.unusedSimpArgs false
namespace Go.Proofs.YtgcoalcfhflfiaaDoor
open Go.RowKit

/-- A byte that ends every token and begins none. -/
def Sep (d : UInt8) : Prop := Tk.isIn d = false ∧ ∀ g ∈ Tk.signs, d ∉ g
theorem pre_app : ∀ (g x r : List UInt8) (d : UInt8), d ∉ g → g.isPrefixOf (x ++ d :: r) = g.isPrefixOf x
  | [], x, r, d, _ => by simp
  | a :: g, [], r, d, h => by
    simp only [List.nil_append, List.isPrefixOf_cons_cons]
    have : (a == d) = false := beq_eq_false_iff_ne.2 (fun e => h (by simp [e]))
    rw [this]; rfl
  | a :: g, b :: x, r, d, h => by
    simp only [List.cons_append, List.isPrefixOf_cons_cons]
    rw [pre_app g x r d (fun e => h (by simp [e]))]
theorem sign_app (x r : List UInt8) (d : UInt8) : ∀ gs : List (List UInt8), (∀ g ∈ gs, d ∉ g) → Tk.signIn gs (x ++ d :: r) = Tk.signIn gs x
  | [], _ => rfl
  | g :: gs, h => by
    unfold Tk.signIn
    rw [pre_app g x r d (h g (by simp)), sign_app x r d gs fun g hg => h g (by simp [hg])]
theorem run_app (f : UInt8 → Bool) (d : UInt8) (r : List UInt8) (hd : f d = false) : ∀ x : List UInt8, Tk.run f (x ++ d :: r) = Tk.run f x
  | [] => by rw [List.nil_append, Tk.run_cons, if_neg (by rw [hd]; simp)]; rfl
  | c :: x => by rw [List.cons_append, Tk.run_cons, Tk.run_cons, run_app f d r hd x]
theorem take_app (x r : List UInt8) (n : Nat) (h : n ≤ x.length) : (x ++ r).take n = x.take n := by
  rw [List.take_append_of_le_length h]
theorem isDig_in (d : UInt8) (h : Tk.isIn d = false) : Tk.isDig d = false := by
  cases hd : Tk.isDig d with
  | false => rfl
  | true => simp [Tk.isIn, hd] at h
theorem cut_app (c : UInt8) (x r : List UInt8) (d : UInt8) (hd : Sep d) (hc : c.toNat < 128) : Tk.cut ((c :: x) ++ d :: r) = Tk.cut (c :: x) := by
  rw [List.cons_append, cut_cons, cut_cons, ← List.cons_append]
  split
  · unfold Tk.cutName
    rw [run_app _ d r hd.1, take_app _ _ _ (Tk.run_le _ _)]
  · split
    · unfold Tk.cutNum
      have e : Tk.inAt ((c :: x) ++ d :: r) (Tk.run Tk.isDig (c :: x)) = Tk.inAt (c :: x) (Tk.run Tk.isDig (c :: x)) := by
        unfold Tk.inAt
        have hle := Tk.run_le Tk.isDig (c :: x)
        rcases Nat.lt_or_ge (Tk.run Tk.isDig (c :: x)) (c :: x).length with h | h
        · rw [List.getElem?_append_left h]
        · have he : Tk.run Tk.isDig (c :: x) = (c :: x).length := by omega
          rw [he, List.getElem?_append_right (Nat.le_refl _), Nat.sub_self, List.getElem?_cons_zero, List.getElem?_eq_none (Nat.le_refl _)]
          exact hd.1
      rw [run_app _ d r (isDig_in d hd.1), take_app _ _ _ (Tk.run_le _ _), e]
      rfl
    · first
      | exact sign_app _ _ _ _ hd.2
      | (rw [if_pos hc]; exact sign_app _ _ _ _ hd.2)
theorem signs_heads : ∀ g ∈ Tk.signs, ∃ a t, g = a :: t ∧ a ∉ [32, 9, 10, 13, 35] := by
  intro g hg
  simp only [Tk.signs, List.mem_cons, List.not_mem_nil, or_false] at hg
  rcases hg with rfl | rfl | rfl | rfl | rfl | rfl | rfl | rfl | rfl | rfl | rfl | rfl | rfl | rfl | rfl | rfl | rfl | rfl | rfl | rfl <;> exact ⟨_, _, rfl, by decide⟩
theorem sign_none (c : UInt8) (r : List UInt8) (hc : c ∈ [32, 9, 10, 13, 35]) : ∀ gs : List (List UInt8), (∀ g ∈ gs, ∃ a t, g = a :: t ∧ a ∉ [32, 9, 10, 13, 35]) → Tk.signIn gs (c :: r) = Tk.bad 20
  | [], _ => rfl
  | g :: gs, h => by
    obtain ⟨a, t, rfl, ha⟩ := h g (by simp)
    unfold Tk.signIn
    rw [if_neg, sign_none c r hc gs fun g hg => h g (by simp [hg])]
    rw [List.isPrefixOf_cons_cons]
    have : (a == c) = false := beq_eq_false_iff_ne.2 (fun e => ha (by rw [e]; exact hc))
    rw [this]; simp
theorem gap_mem (c : UInt8) (h : Tk.isBlank c = true ∨ c.toNat = 35) : c ∈ [32, 9, 10, 13, 35] := by
  have : ∀ n : Nat, c.toNat = n → n < 256 → c = UInt8.ofNat n := fun n hn _ => by rw [← hn]; simp
  rcases h with h | h
  · simp only [Tk.isBlank, Bool.or_eq_true, decide_eq_true_eq] at h
    rcases h with ((h | h) | h) | h
    · rw [this 32 h (by omega)]; decide
    · rw [this 9 h (by omega)]; decide
    · rw [this 10 h (by omega)]; decide
    · rw [this 13 h (by omega)]; decide
  · rw [this 35 h (by omega)]; decide
theorem gap_cut (c : UInt8) (r : List UInt8) (hc : c ∈ [32, 9, 10, 13, 35]) : (Tk.cut (c :: r)).2.2 ≠ 0 := by
  rw [cut_cons]
  have h1 : ∀ d ∈ ([32, 9, 10, 13, 35] : List UInt8), Tk.isBeg d = false ∧ Tk.isDig d = false ∧ d.toNat < 128 := by decide
  obtain ⟨a, b, d⟩ := h1 c hc
  rw [a, b, if_neg (by simp), if_neg (by simp), if_pos d]
  unfold Tk.cutSign
  rw [sign_none c r hc Tk.signs signs_heads]
  simp [Tk.bad]
/-- What begins with a token begins with no blank and no comment. -/
theorem skip_tok (c : UInt8) (x : List UInt8) (h : (Tk.cut (c :: x)).2.2 = 0) (r : List UInt8) : Tk.skip ((c :: x) ++ r) = 0 := by
  have hn : c ∉ [32, 9, 10, 13, 35] := fun hc => gap_cut c x hc h
  rw [List.cons_append]
  refine Tk.skip_else c _ ?_ ?_
  · cases hb : Tk.isBlank c with
    | false => rfl
    | true => exact absurd (gap_mem c (Or.inl hb)) hn
  · exact fun h35 => hn (gap_mem c (Or.inr h35))
/-- A text that is cut into these tokens, and nothing else but gaps. -/
inductive Toks : List UInt8 → List Tk.Tok → Prop
  | nil (l : List UInt8) (h : Tk.skip l = l.length) : Toks l []
  | cons (l x r : List UInt8) (t : Tk.Tok) (ts : List Tk.Tok) (h1 : l.drop (Tk.skip l) = x ++ r) (h2 : Tk.cut (x ++ r) = (t, x.length, 0)) (h3 : t.1 ≠ 0) (h4 : x ≠ []) (h : Toks r ts) : Toks l (t :: ts)
theorem Toks.gap {l : List UInt8} {ts : List Tk.Tok} (h : Toks l ts) (g : List UInt8) (hg : Tk.skip (g ++ l) = g.length + Tk.skip l) : Toks (g ++ l) ts := by
  cases h with
  | nil _ h => exact Toks.nil _ (by rw [hg, h, List.length_append])
  | cons _ x r t ts h1 h2 h3 h4 h => exact Toks.cons _ x r t ts (by rw [hg, ← List.drop_drop, List.drop_left, h1]) h2 h3 h4 h
theorem toks_scan (s : List UInt8) {l : List UInt8} {ts : List Tk.Tok} (h : Toks l ts) : ∀ (f o : Nat) (a : List (Tk.Tok × Nat)), s.drop o = l → o ≤ s.length → s.length < o + f → ∃ res : List (Tk.Tok × Nat), Tk.scanF f s o a = (a ++ res, 0, 0) ∧ res.map (·.1) = ts ++ [(0, [], 0)] := by
  induction h with
  | nil l h =>
    intro f o a hl ho hf
    obtain ⟨f, rfl⟩ : ∃ f', f = f' + 1 := ⟨f - 1, by omega⟩
    have hll : l.length = s.length - o := by rw [← hl, List.length_drop]
    rw [Tk.scanF_step, hl, h]
    have e : s.drop (o + l.length) = [] := List.drop_eq_nil_of_le (by omega)
    rw [e, if_neg (by decide), if_pos (show (Tk.cut []).1.1 = 0 from rfl)]
    exact ⟨_, rfl, rfl⟩
  | cons l x r t ts h1 h2 h3 h4 h ih =>
    intro f o a hl ho hf
    obtain ⟨f, rfl⟩ : ∃ f', f = f' + 1 := ⟨f - 1, by omega⟩
    have e : s.drop (o + Tk.skip l) = x ++ r := by rw [← List.drop_drop, hl, h1]
    have hx : 0 < x.length := List.length_pos_iff.2 h4
    have hlen := congrArg List.length e
    rw [List.length_drop, List.length_append] at hlen
    rw [Tk.scanF_step, hl, e, h2, if_neg (by simp), if_neg h3]
    obtain ⟨res, hr1, hr2⟩ := ih f (o + Tk.skip l + x.length) (a ++ [(t, o + Tk.skip l)]) (by rw [← List.drop_drop, e, List.drop_left]) (by omega) (by omega)
    refine ⟨(t, o + Tk.skip l) :: res, ?_, by rw [List.map_cons, hr2]; rfl⟩
    show Tk.scanF f s (o + Tk.skip l + x.length) (a ++ [(t, o + Tk.skip l)]) = _
    rw [hr1]
    simp
theorem toks_all (s : List UInt8) (ts : List Tk.Tok) (h : Toks s ts) : (Tk.scan s).2.1 = 0 ∧ (Tk.scan s).1.map (·.1) = ts ++ [(0, [], 0)] := by
  obtain ⟨res, h1, h2⟩ := toks_scan s h (s.length + 1) 0 [] List.drop_zero (by omega) (by omega)
  have e : Tk.scan s = ([] ++ res, 0, 0) := h1
  rw [e]
  exact ⟨rfl, h2⟩
theorem raw_low (t : Tk.Tok) (c : UInt8) (r : List UInt8) (hr : rawText t = c :: r) (h : (Tk.cut (c :: r)).2.2 = 0) (he : (Tk.cut (c :: r)).1 = t) : c.toNat < 128 := by
  rcases Nat.lt_or_ge c.toNat 128 with h1 | h1
  · exact h1
  · exfalso
    have hb : Tk.isBeg c = false := by
      cases hb : Tk.isBeg c with
      | false => rfl
      | true => exact absurd (Tk.isBeg_lt hb) (by omega)
    have hd : Tk.isDig c = false := by
      cases hd : Tk.isDig c with
      | false => rfl
      | true => exact absurd (Tk.isDig_lt hd) (by omega)
    rw [cut_cons, hb, hd, if_neg (by simp), if_neg (by simp), if_neg (by omega)] at h he
    unfold Tk.cutRune at h he
    by_cases hz : (Tk.meaning (Tk.dec (c :: r)).1).1 = 0
    · rw [if_pos hz] at h; exact absurd h (by simp [Tk.bad])
    · rw [if_neg hz] at he
      have h2 : t.1 ≠ 2 := by
        rw [← he]
        simp only
        unfold Tk.meaning
        repeat' split
        all_goals simp
      have ht : t.2.1 = (Tk.meaning (Tk.dec (c :: r)).1).2 := by rw [← he]
      unfold rawText at hr
      rw [if_neg h2] at hr
      rw [hr] at ht
      exact absurd (meaning_low _ _ _ ht.symm) (by omega)
/-- What is told of a token that is written. -/
theorem wrt_ok (t : Tk.Tok) (x : List UInt8) (h : wrt t = (x, 0)) : x = rawText t ∧ Tk.cut x = (t, x.length, 0) := by
  unfold wrt at h
  by_cases hc : (Tk.cut (rawText t)).2.2 = 0 ∧ (Tk.cut (rawText t)).1 = t
  · rw [if_pos hc] at h
    have hx : x = rawText t := (congrArg Prod.fst h).symm
    refine ⟨hx, ?_⟩
    rw [hx]
    have hw := cut_whole t hc.1 hc.2
    generalize Tk.cut (rawText t) = q at *
    obtain ⟨a, b, c⟩ := q
    simp only at hc hw
    rw [hc.1, hc.2, hw]
  · rw [if_neg hc] at h
    exact absurd (congrArg Prod.snd h) (by simp)
/-- A written token behind which something that ends it stands. -/
theorem toks_one (t : Tk.Tok) (x : List UInt8) (h : wrt t = (x, 0)) (h0 : t.1 ≠ 0) (r : List UInt8) (hr : r = [] ∨ ∃ d r', r = d :: r' ∧ Sep d) (ts : List Tk.Tok) (hts : Toks r ts) : Toks (x ++ r) (t :: ts) := by
  obtain ⟨hx, hc⟩ := wrt_ok t x h
  have hne : x ≠ [] := fun e => by
    rw [e] at hc
    have : ((0, [], 0) : Tk.Tok) = t := congrArg Prod.fst hc
    rw [← this] at h0
    exact h0 rfl
  obtain ⟨c, y, rfl⟩ : ∃ c y, x = c :: y := by cases x with | nil => exact absurd rfl hne | cons c y => exact ⟨c, y, rfl⟩
  have hlow := raw_low t c y hx.symm (by rw [hc]) (by rw [hc])
  refine Toks.cons _ (c :: y) r t ts (by rw [skip_tok c y (by rw [hc]) r]; rfl) ?_ h0 hne hts
  rcases hr with rfl | ⟨d, r', rfl, hd⟩
  · rw [List.append_nil]; exact hc
  · rw [cut_app c y r' d hd hlow]; exact hc
theorem sep_32 : Sep 32 := ⟨by decide, by decide⟩
theorem join_two (x y : List UInt8) (r : List (List UInt8)) : Lib.join (x :: y :: r) [32] = x ++ 32 :: Lib.join (y :: r) [32] := by
  rw [Lib.join_cons, Lib.join_cons]
  simp [Lib.joinTail]
/-- The tokens without an end at the last place. -/
def core (ts : List Tk.Tok) : List Tk.Tok := match ts.getLast? with | some t => if t.1 = 0 then ts.dropLast else ts | none => []
theorem core_cons (t u : Tk.Tok) (r : List Tk.Tok) : core (t :: u :: r) = t :: core (u :: r) := by
  unfold core
  rw [List.getLast?_cons_cons]
  cases h : (u :: r).getLast? with
  | none => simp at h
  | some q =>
    simp only
    split
    · rfl
    · rfl
theorem jn_toks : ∀ (ts : List Tk.Tok) (acc : List (List UInt8)) (txt : List UInt8), jnF ts acc = (txt, 0) → ∃ xs : List (List UInt8), txt = Lib.join (acc ++ xs) [32] ∧ xs.length = ts.length ∧ Toks (Lib.join xs [32]) (core ts) ∧ (∀ t ∈ ts, (wrt t).2 = 0) ∧ (∀ x ∈ xs, ∃ t ∈ ts, x = (wrt t).1)
  | [], acc, txt, h => ⟨[], by rw [List.append_nil]; exact (congrArg Prod.fst h).symm, rfl, Toks.nil _ rfl, fun t ht => (by cases ht), fun x hx => (by cases hx)⟩
  | t :: r, acc, txt, h => by
    unfold jnF at h
    by_cases hw : (wrt t).2 ≠ 0
    · rw [if_pos hw] at h
      exact absurd (congrArg Prod.snd h) hw
    · rw [if_neg hw] at h
      by_cases he : t.1 = 0 ∧ r ≠ []
      · rw [if_pos he] at h
        exact absurd (congrArg Prod.snd h) (by simp)
      · rw [if_neg he] at h
        obtain ⟨xs, h1, h2, h3, h4, h5⟩ := jn_toks r (acc ++ [(wrt t).1]) txt h
        have hwt : wrt t = ((wrt t).1, 0) := by
          have := Decidable.not_not.1 hw
          rw [← this]
        refine ⟨(wrt t).1 :: xs, by rw [h1, List.append_assoc]; rfl, by simp [h2], ?_, fun u hu => by
          rcases List.mem_cons.1 hu with rfl | hu
          · exact Decidable.not_not.1 hw
          · exact h4 u hu, fun x hx => by
          rcases List.mem_cons.1 hx with rfl | hx
          · exact ⟨t, by simp, rfl⟩
          · obtain ⟨u, hu, e⟩ := h5 x hx
            exact ⟨u, by simp [hu], e⟩⟩
        cases r with
        | nil =>
          obtain rfl : xs = [] := List.eq_nil_of_length_eq_zero h2
          rw [Lib.join_one]
          by_cases h0 : t.1 = 0
          · have ec : core [t] = [] := by unfold core; simp [h0]
            rw [ec]
            obtain ⟨hx, hc⟩ := wrt_ok t _ hwt
            have : (wrt t).1 = [] := by
              by_cases hn : (wrt t).1 = []
              · exact hn
              · exact absurd h0 (by have := (Tk.cut_good _ hn (by rw [hc])).2.2; rw [hc] at this; exact this)
            rw [this]
            exact Toks.nil _ rfl
          · have ec : core [t] = [t] := by unfold core; simp [h0]
            rw [ec]
            have := toks_one t _ hwt h0 [] (Or.inl rfl) [] (Toks.nil _ rfl)
            rw [List.append_nil] at this
            exact this
        | cons u r' =>
          have h0 : t.1 ≠ 0 := fun h0 => he ⟨h0, by simp⟩
          rw [core_cons]
          cases xs with
          | nil => simp at h2
          | cons y ys =>
            rw [join_two]
            refine toks_one t _ hwt h0 _ (Or.inr ⟨32, _, rfl, sep_32⟩) _ ?_
            exact h3.gap [32] (by rw [List.singleton_append, Tk.skip_blank 32 _ (by decide)]; rfl)
/-- WHAT IS JOINED IS CUT AGAIN. -/
theorem jn_scan (ts : List Tk.Tok) (h : (jn ts).2 = 0) : (Tk.scan (jn ts).1).2.1 = 0 ∧ (Tk.scan (jn ts).1).1.map (·.1) = core ts ++ [(0, [], 0)] ∧ ∀ t ∈ ts, (wrt t).2 = 0 := by
  have hj : jnF ts [] = ((jn ts).1, 0) := by show jn ts = _; rw [← h]
  obtain ⟨xs, h1, _, h3, h4, _⟩ := jn_toks ts [] _ hj
  rw [List.nil_append] at h1
  rw [h1]
  have := toks_all _ _ h3
  exact ⟨this.1, this.2, h4⟩
theorem sign_len (l : List UInt8) : ∀ gs : List (List UInt8), (∀ g ∈ gs, g.length ≤ 3) → (Tk.signIn gs l).2.1 ≤ 3
  | [], _ => by simp [Tk.signIn, Tk.bad]
  | g :: gs, h => by
    unfold Tk.signIn
    split
    · exact h g (by simp)
    · exact sign_len l gs fun g hg => h g (by simp [hg])
/-- What is written is short. -/
theorem wrt_short (t : Rt) (hk : t.ok) (h : (wrt t.tok).2 = 0) : (wrt t.tok).1.length ≤ 31 := by
  obtain ⟨hx, hc⟩ := wrt_ok t.tok (wrt t.tok).1 (by rw [← h])
  generalize (wrt t.tok).1 = x at *
  cases x with
  | nil => simp
  | cons c y =>
    have hlow := raw_low t.tok c y hx.symm (by rw [hc]) (by rw [hc])
    have hn : (Tk.cut (c :: y)).2.1 = (c :: y).length := by rw [hc]
    have he : (Tk.cut (c :: y)).2.2 = 0 := by rw [hc]
    have h1 : (Tk.cut (c :: y)).1 = t.tok := by rw [hc]
    rw [cut_cons] at hn he h1
    rw [← hn]
    split
    · rename_i hb
      rw [if_pos hb] at he
      unfold Tk.cutName at he ⊢
      split
      · simp [Tk.bad]
      · rename_i h31
        show Tk.run Tk.isIn (c :: y) ≤ 31
        omega
    · rename_i hb
      rw [if_neg hb] at he h1 hn
      split
      · rename_i hd
        rw [if_pos hd] at he h1 hn
        rw [hn]
        have h2 : t.tok.1 = 2 := by
          rw [← h1]
          unfold Tk.cutNum at he ⊢
          split
          · rename_i hbad; rw [if_pos hbad] at he; exact absurd he (by simp [Tk.bad])
          · rfl
        unfold rawText at hx
        rw [if_pos h2] at hx
        rw [hx]
        have := Lib.itoa_length_le t.n hk.2.1 hk.2.2
        show (Lib.itoa t.n).length ≤ 31
        omega
      · have := sign_len (c :: y) Tk.signs (by decide)
        show (Tk.signIn Tk.signs (c :: y)).2.1 ≤ 31
        omega
theorem jn_len (ts : List Rt) (hs : Small ts) (h : (jn (ts.map Rt.tok)).2 = 0) : (jn (ts.map Rt.tok)).1.length ≤ 1073741824 := by
  have hj : jnF (ts.map Rt.tok) [] = ((jn (ts.map Rt.tok)).1, 0) := by show jn (ts.map Rt.tok) = _; rw [← h]
  obtain ⟨xs, h1, h2, _, h4, h5⟩ := jn_toks (ts.map Rt.tok) [] _ hj
  rw [List.nil_append] at h1
  rw [h1]
  have hb : ∀ x ∈ xs, x.length ≤ 31 := fun x hx => by
    obtain ⟨u, hu, rfl⟩ := h5 x hx
    obtain ⟨t, ht, rfl⟩ := List.mem_map.1 hu
    exact wrt_short t (hs.2 t ht) (h4 _ hu)
  have hn := hs.1
  rw [List.length_map] at h2
  cases xs with
  | nil => simp [Lib.join_nil]
  | cons x r =>
    rw [Lib.join_cons, List.length_append, Lib.joinTail_length]
    have h1 := lens_le 31 r fun y hy => hb y (by simp [hy])
    have h2' := hb x (by simp)
    simp only [List.length_cons] at h2
    simp only [List.length_singleton, Nat.one_mul]
    omega
theorem jn_err (ts : List Tk.Tok) : ∀ acc, (jnF ts acc).2 ≠ 0 → (jnF ts acc).1 = [] := by
  induction ts with
  | nil => intro acc h; exact absurd rfl h
  | cons t r ih =>
    intro acc h
    unfold jnF at h ⊢
    split
    · rfl
    · rename_i hw
      rw [if_neg hw] at h
      split
      · rfl
      · rename_i he
        rw [if_neg he] at h
        exact ih _ h
/-- A token as it lies there, without its spot. -/
def mk (t : Tk.Tok) : Rt := ⟨t.1, ⟨t.2.1.toArray⟩, t.2.2, 0, 0, 0⟩
def zeroT : Rt := ⟨0, ⟨#[]⟩, 0, 0, 0, 0⟩
end Go.Proofs.YtgcoalcfhflfiaaDoor
