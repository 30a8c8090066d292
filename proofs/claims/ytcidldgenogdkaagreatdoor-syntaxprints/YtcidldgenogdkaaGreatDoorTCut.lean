/-
  Spots, and the tokens of a text, as plain functions on lists of bytes; nothing of the program is named here. No condition.
-/
import Derived.Test.YtcidldgenogdkaaGreatDoorTPure
set_option linter.unusedSimpArgs false
namespace Go.Proofs.YtcidldgenogdkaaGreatDoor.Tk

def bump (x : Int) : Int := RowKit.wrap64 (x + 1)
/-- Behind a rune: line and column. -/
def beh (p : Int × Int) (r : Nat) : Int × Int := if r = 10 then (bump p.1, 1) else (p.1, bump p.2)
/-- Over the runes that begin within the first n bytes of a row. -/
def goF : Nat → List UInt8 → Nat → Int × Int → Int × Int
  | 0, _, _, p => p
  | f + 1, l, n, p => if n = 0 ∨ l = [] then p else goF f (l.drop (dec l).2) (n - (dec l).2) (beh p (dec l).1)
def go (l : List UInt8) (n : Nat) (p : Int × Int) : Int × Int := goF l.length l n p
theorem goF_fuel : ∀ (f g : Nat) (l : List UInt8) (n : Nat) (p : Int × Int), l.length ≤ f → l.length ≤ g → goF f l n p = goF g l n p
  | 0, 0, _, _, _, _, _ => rfl
  | 0, g + 1, l, n, p, h, _ => by
    obtain rfl : l = [] := List.eq_nil_of_length_eq_zero (by omega)
    simp [goF]
  | f + 1, 0, l, n, p, _, h => by
    obtain rfl : l = [] := List.eq_nil_of_length_eq_zero (by omega)
    simp [goF]
  | f + 1, g + 1, l, n, p, h, h' => by
    unfold goF
    split
    · rfl
    · have hp := dec_pos l
      exact goF_fuel f g _ _ _ (by rw [List.length_drop]; omega) (by rw [List.length_drop]; omega)
theorem go_done (l : List UInt8) (n : Nat) (p : Int × Int) (h : n = 0 ∨ l = []) : go l n p = p := by
  unfold go
  cases l with
  | nil => rfl
  | cons a t =>
    show goF (t.length + 1) _ _ _ = _
    unfold goF
    rw [if_pos h]
theorem go_step (l : List UInt8) (n : Nat) (p : Int × Int) (h : 1 ≤ n) (hl : l ≠ []) : go l n p = go (l.drop (dec l).2) (n - (dec l).2) (beh p (dec l).1) := by
  unfold go
  cases l with
  | nil => exact absurd rfl hl
  | cons a t =>
    have hp := dec_pos (a :: t)
    show goF (t.length + 1) _ _ _ = _
    rw [goF, if_neg (by simp; omega)]
    exact goF_fuel _ _ _ _ _ (by rw [List.length_drop]; simp; omega) (Nat.le_refl _)
/-- A row cut off at n where each rune within is the same as in the whole row. -/
theorem go_take : ∀ (m : Nat) (l : List UInt8) (n : Nat) (p : Int × Int), n ≤ m → (∀ k, k < n → dec ((l.drop k).take (n - k)) = dec (l.drop k)) → go (l.take n) n p = go l n p
  | 0, l, n, p, h, _ => by
    obtain rfl : n = 0 := by omega
    rw [go_done _ _ _ (Or.inl rfl), go_done _ _ _ (Or.inl rfl)]
  | m + 1, l, n, p, h, H => by
    by_cases h0 : n = 0
    · subst h0
      rw [go_done _ _ _ (Or.inl rfl), go_done _ _ _ (Or.inl rfl)]
    · by_cases hl : l = []
      · subst hl
        simp
      · have hl' : l.take n ≠ [] := by
          cases l with
          | nil => exact absurd rfl hl
          | cons a t => cases n with | zero => exact absurd rfl h0 | succ n => simp
        have e := H 0 (by omega)
        rw [List.drop_zero, Nat.sub_zero] at e
        have hp := dec_pos l
        rw [go_step _ _ _ (by omega) hl', go_step l _ _ (by omega) hl, e, List.drop_take]
        refine go_take m _ _ _ (by omega) fun k hk => ?_
        have := H ((dec l).2 + k) (by omega)
        rw [List.drop_drop]
        rw [show n - (dec l).2 - k = n - ((dec l).2 + k) by omega]
        exact this
theorem go_take_ascii (l : List UInt8) (n : Nat) (p : Int × Int) (h : ∀ c ∈ l.take n, c.toNat < 128) : go (l.take n) n p = go l n p := by
  refine go_take n l n p (Nat.le_refl _) fun k hk => ?_
  cases hc : l[k]? with
  | none =>
    have : l.length ≤ k := by simpa using hc
    rw [List.drop_eq_nil_of_le this]; simp
  | some c =>
    have hm : c ∈ l.take n := List.mem_of_getElem? (i := k) (by rw [List.getElem?_take, if_pos hk]; exact hc)
    have h1 := h c hm
    rw [dec_ascii _ c (by rw [List.getElem?_take, if_pos (by omega), List.getElem?_drop]; exact hc) h1, dec_ascii _ c (by rw [List.getElem?_drop]; exact hc) h1]
theorem con_drop (l : List UInt8) (k n : Nat) : con (l.drop k) n = con l (k + n) := by
  simp only [con, byt, List.getD, List.getElem?_drop, List.length_drop]
  congr 1
  exact decide_eq_decide.2 (by omega)
theorem go_take_cut (l : List UInt8) (n : Nat) (p : Int × Int) (h : con l n = false) : go (l.take n) n p = go l n p := by
  refine go_take n l n p (Nat.le_refl _) fun k hk => dec_cut _ _ (by omega) ?_
  rw [con_drop, show k + (n - k) = n by omega]
  exact h
theorem go_take_rune (l : List UInt8) (p : Int × Int) (hl : l ≠ []) : go (l.take (dec l).2) (dec l).2 p = go l (dec l).2 p := by
  have hp := dec_pos l
  have hl' : l.take (dec l).2 ≠ [] := by
    cases l with
    | nil => exact absurd rfl hl
    | cons a t =>
      intro h
      have := congrArg List.length h
      rw [List.length_take] at this
      simp at this
      omega
  rw [go_step _ _ _ (by omega) hl', go_step l _ _ (by omega) hl, dec_self, Nat.sub_self, go_done _ _ _ (Or.inl rfl), go_done _ _ _ (Or.inl rfl)]
/-- Is n where a rune begins, or the end? -/
inductive Bnd : List UInt8 → Nat → Prop
  | nil (l : List UInt8) : Bnd l 0
  | step (l : List UInt8) (n : Nat) (hl : l ≠ []) (h : Bnd (l.drop (dec l).2) n) : Bnd l ((dec l).2 + n)
theorem go_add {l : List UInt8} {a : Nat} (h : Bnd l a) : ∀ (b : Nat) (p : Int × Int), go l (a + b) p = go (l.drop a) b (go l a p) := by
  induction h with
  | nil l => intro b p; rw [Nat.zero_add, List.drop_zero, go_done l 0 p (Or.inl rfl)]
  | step l n hl h ih =>
    intro b p
    have hp := dec_pos l
    rw [go_step l _ _ (by omega) hl, go_step l ((dec l).2 + n) _ (by omega) hl, Nat.add_assoc, Nat.add_sub_cancel_left, Nat.add_sub_cancel_left, ih, List.drop_drop]
theorem Bnd.add {l : List UInt8} {a : Nat} (h : Bnd l a) : ∀ {b : Nat}, Bnd (l.drop a) b → Bnd l (a + b) := by
  induction h with
  | nil l => intro b h; rw [Nat.zero_add]; exact h
  | step l n hl h ih =>
    intro b hb
    rw [Nat.add_assoc]
    exact Bnd.step l _ hl (ih (by rw [List.drop_drop]; exact hb))
theorem Bnd.ascii : ∀ (n : Nat) (l : List UInt8), n ≤ l.length → (∀ c ∈ l.take n, c.toNat < 128) → Bnd l n
  | 0, l, _, _ => Bnd.nil l
  | n + 1, [], h, _ => absurd h (by simp)
  | n + 1, a :: t, h, H => by
    have e := dec_ascii (a :: t) a rfl (H a (by simp))
    have := Bnd.step (a :: t) n (by simp) (by rw [e]; exact Bnd.ascii n t (by simpa using h) fun c hc => H c (by simp [hc]))
    rw [e, Nat.add_comm] at this
    exact this
theorem Bnd.rune (l : List UInt8) (hl : l ≠ []) : Bnd l (dec l).2 := Bnd.step l 0 hl (Bnd.nil _)
theorem dec_con (l : List UInt8) (k : Nat) (h1 : 1 ≤ k) (h2 : k < (dec l).2) : con l k = true := by
  have h4 := dec_le4 l
  revert h2
  simp only [dec, decF]
  repeat' split
  all_goals simp_all
  all_goals intro h2
  all_goals (have : k = 1 ∨ k = 2 ∨ k = 3 := by omega)
  all_goals rcases this with rfl | rfl | rfl
  all_goals first | omega | simp_all
/-- A row up to where no byte goes on a rune is whole runes. -/
theorem Bnd.cut : ∀ (m n : Nat) (l : List UInt8), n ≤ m → n ≤ l.length → con l n = false → Bnd l n
  | 0, n, l, hm, _, _ => by obtain rfl : n = 0 := by omega
                            exact Bnd.nil l
  | m + 1, n, l, hm, hn, hc => by
    by_cases h0 : n = 0
    · subst h0; exact Bnd.nil l
    · have hl : l ≠ [] := by intro h; subst h; simp at hn; exact h0 hn
      have hp := dec_pos l
      have hle : (dec l).2 ≤ n := by
        rcases Nat.lt_or_ge n (dec l).2 with h | h
        · have := dec_con l n (by omega) h
          rw [hc] at this; cases this
        · exact h
      have := Bnd.step l (n - (dec l).2) hl (Bnd.cut m _ _ (by omega) (by rw [List.length_drop]; omega) (by rw [con_drop, show (dec l).2 + (n - (dec l).2) = n by omega]; exact hc))
      rwa [show (dec l).2 + (n - (dec l).2) = n by omega] at this
theorem Bnd.le {l : List UInt8} {n : Nat} (h : Bnd l n) : n ≤ l.length := by
  induction h with
  | nil l => omega
  | step l n hl h ih =>
    have := dec_le l hl
    rw [List.length_drop] at ih
    omega

def isDig (c : UInt8) : Bool := decide (48 ≤ c.toNat) && decide (c.toNat ≤ 57)
def isBeg (c : UInt8) : Bool := (decide (97 ≤ c.toNat) && decide (c.toNat ≤ 122)) || (decide (65 ≤ c.toNat) && decide (c.toNat ≤ 90)) || decide (c.toNat = 95)
def isIn (c : UInt8) : Bool := isBeg c || isDig c || decide (c.toNat = 39)
def isBlank (c : UInt8) : Bool := decide (c.toNat = 32) || decide (c.toNat = 9) || decide (c.toNat = 10) || decide (c.toNat = 13)
/-- A token: kind, text, number. -/
abbrev Tok := Int × List UInt8 × Int
/-- What is cut: the token, its bytes, the error. -/
abbrev Cut := Tok × Nat × Int
def bad (e : Int) : Cut := ((0, [], 0), 0, e)
def signs : List (List UInt8) := [[60, 45, 62], [60, 61], [61, 62], [45, 62], [124, 45], [126], [38], [124], [40], [41], [91], [93], [123], [125], [44], [46], [58], [59], [61], [47]]
def meaning (r : Nat) : Int × List UInt8 :=
  if r = 172 then (3, [126]) else if r = 8743 then (3, [38]) else if r = 8744 then (3, [124]) else if r = 8594 then (3, [45, 62]) else if r = 8596 then (3, [60, 45, 62])
  else if r = 8866 then (3, [124, 45]) else if r = 8804 then (3, [60, 61]) else if r = 8868 then (1, [116, 114, 117, 101]) else if r = 8869 then (1, [102, 97, 108, 115, 101]) else (0, [])
def val (a : Nat) (l : List UInt8) : Nat := l.foldl (fun a c => 10 * a + (c.toNat - 48)) a
def run (f : UInt8 → Bool) (l : List UInt8) : Nat := (l.takeWhile f).length
def cutName (l : List UInt8) : Cut := if 31 < run isIn l then bad 22 else ((1, l.take (run isIn l), 0), run isIn l, 0)
/-- Is there a byte of a name at a place? -/
def inAt (l : List UInt8) (k : Nat) : Bool := match l[k]? with | none => false | some c => isIn c
def cutNum (l : List UInt8) : Cut :=
  if 999999999 < val 0 (l.take (run isDig l)) ∨ (l[0]? = some 48 ∧ 1 < run isDig l) ∨ inAt l (run isDig l) = true then bad 21
  else ((2, [], (val 0 (l.take (run isDig l)) : Int)), run isDig l, 0)
def signIn : List (List UInt8) → List UInt8 → Cut
  | [], _ => bad 20
  | g :: r, l => if g.isPrefixOf l then ((3, g, 0), g.length, 0) else signIn r l
def cutSign (l : List UInt8) : Cut := signIn signs l
def cutRune (l : List UInt8) : Cut := if (meaning (dec l).1).1 = 0 then bad 20 else (((meaning (dec l).1).1, (meaning (dec l).1).2, 0), (dec l).2, 0)
def cut (l : List UInt8) : Cut :=
  match l with
  | [] => ((0, [], 0), 0, 0)
  | c :: _ => if isBeg c then cutName l else if isDig c then cutNum l else if c.toNat < 128 then cutSign l else cutRune l
/-- Blanks and comments at the beginning: how many bytes. -/
def skipF : Nat → List UInt8 → Nat
  | 0, _ => 0
  | _ + 1, [] => 0
  | f + 1, c :: r => if isBlank c then 1 + skipF f r else if c.toNat = 35 then run (fun c => c != 10) (c :: r) + skipF f ((c :: r).drop (run (fun c => c != 10) (c :: r))) else 0
def skip (l : List UInt8) : Nat := skipF l.length l
theorem run_le (f : UInt8 → Bool) (l : List UInt8) : run f l ≤ l.length := by
  unfold run
  exact (List.takeWhile_sublist f).length_le
theorem run_cons (f : UInt8 → Bool) (c : UInt8) (r : List UInt8) : run f (c :: r) = if f c then run f r + 1 else 0 := by
  unfold run
  rw [List.takeWhile_cons]
  split <;> simp
theorem take_run (f : UInt8 → Bool) : ∀ (l : List UInt8), l.take (run f l) = l.takeWhile f
  | [] => rfl
  | c :: r => by
    rw [run_cons, List.takeWhile_cons]
    split
    · rw [List.take_succ_cons, take_run f r]
    · rfl
theorem skipF_fuel : ∀ (f g : Nat) (l : List UInt8), l.length ≤ f → l.length ≤ g → skipF f l = skipF g l
  | 0, 0, _, _, _ => rfl
  | 0, g + 1, l, h, _ => by
    obtain rfl : l = [] := List.eq_nil_of_length_eq_zero (by omega)
    simp [skipF]
  | f + 1, 0, l, _, h => by
    obtain rfl : l = [] := List.eq_nil_of_length_eq_zero (by omega)
    simp [skipF]
  | f + 1, g + 1, [], _, _ => rfl
  | f + 1, g + 1, c :: r, h, h' => by
    simp only [List.length_cons] at h h'
    unfold skipF
    split
    · rw [skipF_fuel f g r (by omega) (by omega)]
    · split
      · rename_i hc
        have h1 : 1 ≤ run (fun c => c != 10) (c :: r) := by
          rw [run_cons, if_pos]
          · omega
          · simp only [bne_iff_ne, ne_eq]; intro e; subst e; exact absurd hc (by decide)
        rw [skipF_fuel f g _ (by rw [List.length_drop, List.length_cons]; omega) (by rw [List.length_drop, List.length_cons]; omega)]
      · rfl
theorem skip_nil : skip [] = 0 := rfl
theorem skip_blank (c : UInt8) (r : List UInt8) (h : isBlank c = true) : skip (c :: r) = 1 + skip r := by
  unfold skip
  show skipF (r.length + 1) _ = _
  rw [skipF, if_pos h]
theorem run_hash (c : UInt8) (r : List UInt8) (h : c.toNat = 35) : 1 ≤ run (fun c => c != 10) (c :: r) := by
  rw [run_cons, if_pos]
  · omega
  · simp only [bne_iff_ne, ne_eq]; intro e; subst e; exact absurd h (by decide)
theorem skip_hash (c : UInt8) (r : List UInt8) (h : c.toNat = 35) : skip (c :: r) = run (fun c => c != 10) (c :: r) + skip ((c :: r).drop (run (fun c => c != 10) (c :: r))) := by
  have hb : isBlank c = false := by simp [isBlank, h]
  have h1 := run_hash c r h
  unfold skip
  show skipF (r.length + 1) _ = _
  rw [skipF, if_neg (by rw [hb]; simp), if_pos h]
  congr 1
  exact skipF_fuel _ _ _ (by rw [List.length_drop, List.length_cons]; omega) (Nat.le_refl _)
theorem skip_else (c : UInt8) (r : List UInt8) (h : isBlank c = false) (h' : c.toNat ≠ 35) : skip (c :: r) = 0 := by
  unfold skip
  show skipF (r.length + 1) _ = _
  rw [skipF, if_neg (by rw [h]; simp), if_neg h']
theorem skip_le : ∀ (m : Nat) (l : List UInt8), l.length ≤ m → skip l ≤ l.length
  | _, [], _ => by rw [skip_nil]; omega
  | 0, c :: r, h => absurd h (by simp)
  | m + 1, c :: r, h => by
    simp only [List.length_cons] at h ⊢
    cases hb : isBlank c with
    | true =>
      rw [skip_blank c r hb]
      have := skip_le m r (by omega)
      omega
    | false =>
      by_cases hc : c.toNat = 35
      · rw [skip_hash c r hc]
        have h1 := run_hash c r hc
        have h2 := run_le (fun c => c != 10) (c :: r)
        have := skip_le m ((c :: r).drop (run (fun c => c != 10) (c :: r))) (by rw [List.length_drop, List.length_cons]; omega)
        rw [List.length_drop, List.length_cons] at this
        simp only [List.length_cons] at h2
        omega
      · rw [skip_else c r hb hc]; omega
/-- All tokens from a place on, behind those that are there, each with its place; the error, and where. -/
def scanF : Nat → List UInt8 → Nat → List (Tok × Nat) → List (Tok × Nat) × Int × Nat
  | 0, _, _, _ => ([], 0, 0)
  | f + 1, s, o, a =>
    let i := o + skip (s.drop o)
    let c := cut (s.drop i)
    if c.2.2 ≠ 0 then ([], c.2.2, i) else if c.1.1 = 0 then (a ++ [(c.1, i)], 0, 0) else scanF f s (i + c.2.1) (a ++ [(c.1, i)])
def scan (s : List UInt8) : List (Tok × Nat) × Int × Nat := scanF (s.length + 1) s 0 []
def spot (s : List UInt8) (o : Nat) : Int × Int := go s o (1, 1)
end Go.Proofs.YtcidldgenogdkaaGreatDoor.Tk
