/-
  Plain mathematics of reading formulas: tokens, what is counted, what is read, what is put. No condition.
-/
import Derived.Test.YtcidldgenogdkaaGreatDoorFPure
namespace Go.Proofs.YtcidldgenogdkaaGreatDoor.Sx
open Fm (Nd)

/-- A token: kind, text, number, line, column, offset. -/
structure Tn where
  k : Int
  s : ByteArray
  n : Int
  l : Int
  c : Int
  o : Int
deriving DecidableEq
def tz : Tn := ⟨0, ⟨#[]⟩, 0, 0, 0, 0⟩
abbrev sNot : List UInt8 := [126]
abbrev sAnd : List UInt8 := [38]
abbrev sOr : List UInt8 := [124]
abbrev sImp : List UInt8 := [45, 62]
abbrev sIff : List UInt8 := [60, 45, 62]
abbrev sOpen : List UInt8 := [40]
abbrev sShut : List UInt8 := [41]
abbrev wFalse : List UInt8 := [102, 97, 108, 115, 101]
abbrev wTrue : List UInt8 := [116, 114, 117, 101]
def sgn (t : Tn) (x : List UInt8) : Bool := t.k == 3 && t.s.data.toList == x
def counts (t : Tn) : Bool := t.k == 1 || (t.k == 3 && (t.s.data.toList == sNot || t.s.data.toList == sAnd || t.s.data.toList == sOr || t.s.data.toList == sImp || t.s.data.toList == sIff))
/-- What is read. -/
inductive T where
  | atom (s : ByteArray)
  | bot
  | top
  | neg (a : T)
  | bin (k : Int) (a b : T)
  | iff (a b : T)
inductive Lv where
  | formula | implied | joined | both | single
  | ors (a : T) | ands (a : T)
inductive Out where
  | ok (a : T) (i n : Nat)
  | bad (e : Int) (t : Tn)
def tk (ts : List Tn) (i : Nat) : Tn := ts.getD i tz
def up (ts : List Tn) (i n : Nat) : Nat := if counts (tk ts i) then n + 1 else n
def refuse (ts : List Tn) (i n : Nat) : Out := if 512 < up ts i n then .bad 40 (tk ts i) else .bad 41 (tk ts i)
def stp (ts : List Tn) (i n : Nat) (k : Nat → Option Out) : Option Out := if 512 < up ts i n then some (.bad 40 (tk ts i)) else k (up ts i n)
def bnd (o : Option Out) (k : T → Nat → Nat → Option Out) : Option Out :=
  match o with
  | none => none
  | some (.bad e t) => some (.bad e t)
  | some (.ok a i n) => k a i n
/-- The tree of a name. -/
def named (s : ByteArray) : Option T := if s.data.toList = wFalse then some .bot else if s.data.toList = wTrue then some .top else if Fm.word s.data.toList then some (.atom s) else none
def rd (ts : List Tn) : Nat → Lv → Nat → Nat → Nat → Option Out
  | 0, _, _, _, _ => none
  | f + 1, .formula, i, n, d => bnd (rd ts f .implied i n d) fun a i n => if sgn (tk ts i) sIff then stp ts i n fun n => bnd (rd ts f .formula (i + 1) n d) fun b i n => some (.ok (.iff a b) i n) else some (.ok a i n)
  | f + 1, .implied, i, n, d => bnd (rd ts f .joined i n d) fun a i n => if sgn (tk ts i) sImp then stp ts i n fun n => bnd (rd ts f .implied (i + 1) n d) fun b i n => some (.ok (.bin 5 a b) i n) else some (.ok a i n)
  | f + 1, .joined, i, n, d => bnd (rd ts f .both i n d) fun a i n => rd ts f (.ors a) i n d
  | f + 1, .ors a, i, n, d => if sgn (tk ts i) sOr then stp ts i n fun n => bnd (rd ts f .both (i + 1) n d) fun b i n => rd ts f (.ors (.bin 4 a b)) i n d else some (.ok a i n)
  | f + 1, .both, i, n, d => bnd (rd ts f .single i n d) fun a i n => rd ts f (.ands a) i n d
  | f + 1, .ands a, i, n, d => if sgn (tk ts i) sAnd then stp ts i n fun n => bnd (rd ts f .single (i + 1) n d) fun b i n => rd ts f (.ands (.bin 3 a b)) i n d else some (.ok a i n)
  | f + 1, .single, i, n, d =>
    if sgn (tk ts i) sNot then stp ts i n fun n => bnd (rd ts f .single (i + 1) n d) fun a i n => some (.ok (.neg a) i n)
    else if sgn (tk ts i) sOpen then
      (if d = 1024 then some (refuse ts i n) else stp ts i n fun n => bnd (rd ts f .formula (i + 1) n (d + 1)) fun a i n => if sgn (tk ts i) sShut then stp ts i n fun n => some (.ok a (i + 1) n) else some (refuse ts i n))
    else if (tk ts i).k = 1 then
      (match named (tk ts i).s with
      | none => some (refuse ts i n)
      | some a => stp ts i n fun n => some (.ok a (i + 1) n))
    else some (refuse ts i n)
/-- The fuel that each way of reading takes. -/
def cost : Lv → Nat
  | .formula => 5
  | .implied => 4
  | .joined => 3
  | .both => 2
  | .single => 1
  | .ors _ => 3
  | .ands _ => 2
def adv : Lv → Nat
  | .ors _ | .ands _ => 0
  | _ => 1
theorem tk_lt {ts : List Tn} {i : Nat} (h : (tk ts i).k ≠ 0) : i < ts.length := by
  unfold tk at h
  rcases Nat.lt_or_ge i ts.length with h1 | h1
  · exact h1
  · rw [List.getD_eq_getElem?_getD, List.getElem?_eq_none h1] at h
    exact absurd rfl h
theorem sgn_lt {ts : List Tn} {i : Nat} {x : List UInt8} (h : sgn (tk ts i) x = true) : i < ts.length := by
  refine tk_lt ?_
  simp only [sgn, Bool.and_eq_true, beq_iff_eq] at h
  omega
/-- What is read lies ahead, and never counts above the limit. -/
def Fine (ts : List Tn) (lv : Lv) (i n : Nat) (o : Out) : Prop := ∀ a i' n', o = .ok a i' n' → i + adv lv ≤ i' ∧ i' ≤ ts.length ∧ (n ≤ 512 → n' ≤ 512)
theorem fine_bad (ts : List Tn) (lv : Lv) (i n : Nat) (e : Int) (t : Tn) : Fine ts lv i n (.bad e t) := fun _ _ _ h => by cases h
theorem fine_refuse (ts : List Tn) (lv : Lv) (i n : Nat) (i' n' : Nat) : Fine ts lv i n (refuse ts i' n') := by
  unfold refuse
  split <;> exact fine_bad _ _ _ _ _ _
theorem stp_some {ts : List Tn} {i n : Nat} {k : Nat → Option Out} {Q : Out → Prop} (hb : ∀ e t, Q (.bad e t)) (h : up ts i n ≤ 512 → ∃ o, k (up ts i n) = some o ∧ Q o) : ∃ o, stp ts i n k = some o ∧ Q o := by
  unfold stp
  split
  · exact ⟨_, rfl, hb _ _⟩
  · exact h (by omega)
theorem bnd_some {o : Option Out} {k : T → Nat → Nat → Option Out} {Q R : Out → Prop} (hb : ∀ e t, Q (.bad e t)) (h : ∃ x, o = some x ∧ R x) (hk : ∀ a i n, R (.ok a i n) → ∃ x, k a i n = some x ∧ Q x) : ∃ x, bnd o k = some x ∧ Q x := by
  obtain ⟨x, rfl, hR⟩ := h
  cases x with
  | ok a i n => exact hk a i n hR
  | bad e t => exact ⟨_, rfl, hb e t⟩
theorem rd_total (ts : List Tn) : ∀ (f : Nat) (lv : Lv) (i n d : Nat), i ≤ ts.length → 8 * (ts.length - i) + cost lv ≤ f → ∃ o, rd ts f lv i n d = some o ∧ Fine ts lv i n o
  | 0, lv, i, n, d, hi, hf => by cases lv <;> simp [cost] at hf
  | f + 1, lv, i, n, d, hi, hf => by
    have ih := rd_total ts f
    have fb := fine_bad ts lv i n
    cases lv with
    | formula =>
      simp only [cost] at hf
      refine bnd_some fb (ih .implied i n d hi (by simp only [cost]; omega)) fun a i1 n1 h1 => ?_
      have h1 := h1 _ _ _ rfl
      simp only [adv] at h1
      split
      · rename_i hs
        have hl := sgn_lt hs
        refine stp_some fb fun hu => bnd_some fb (ih .formula (i1 + 1) _ d (by omega) (by simp only [cost]; omega)) fun b i2 n2 h2 => ?_
        have h2 := h2 _ _ _ rfl
        simp only [adv] at h2
        refine ⟨_, rfl, fun a' i' n' e => ?_⟩
        cases e
        simp only [adv]
        exact ⟨by omega, by omega, fun _ => h2.2.2 hu⟩
      · refine ⟨_, rfl, fun a' i' n' e => ?_⟩
        cases e
        simp only [adv]
        exact ⟨by omega, by omega, h1.2.2⟩
    | implied =>
      simp only [cost] at hf
      refine bnd_some fb (ih .joined i n d hi (by simp only [cost]; omega)) fun a i1 n1 h1 => ?_
      have h1 := h1 _ _ _ rfl
      simp only [adv] at h1
      split
      · rename_i hs
        have hl := sgn_lt hs
        refine stp_some fb fun hu => bnd_some fb (ih .implied (i1 + 1) _ d (by omega) (by simp only [cost]; omega)) fun b i2 n2 h2 => ?_
        have h2 := h2 _ _ _ rfl
        simp only [adv] at h2
        refine ⟨_, rfl, fun a' i' n' e => ?_⟩
        cases e
        simp only [adv]
        exact ⟨by omega, by omega, fun _ => h2.2.2 hu⟩
      · refine ⟨_, rfl, fun a' i' n' e => ?_⟩
        cases e
        simp only [adv]
        exact ⟨by omega, by omega, h1.2.2⟩
    | joined =>
      simp only [cost] at hf
      refine bnd_some fb (ih .both i n d hi (by simp only [cost]; omega)) fun a i1 n1 h1 => ?_
      have h1 := h1 _ _ _ rfl
      simp only [adv] at h1
      obtain ⟨o, ho, h2⟩ := ih (.ors a) i1 n1 d (by omega) (by simp only [cost]; omega)
      refine ⟨o, ho, fun a' i' n' e => ?_⟩
      have h2 := h2 _ _ _ e
      simp only [adv] at h2 ⊢
      exact ⟨by omega, by omega, fun h => h2.2.2 (h1.2.2 h)⟩
    | both =>
      simp only [cost] at hf
      refine bnd_some fb (ih .single i n d hi (by simp only [cost]; omega)) fun a i1 n1 h1 => ?_
      have h1 := h1 _ _ _ rfl
      simp only [adv] at h1
      obtain ⟨o, ho, h2⟩ := ih (.ands a) i1 n1 d (by omega) (by simp only [cost]; omega)
      refine ⟨o, ho, fun a' i' n' e => ?_⟩
      have h2 := h2 _ _ _ e
      simp only [adv] at h2 ⊢
      exact ⟨by omega, by omega, fun h => h2.2.2 (h1.2.2 h)⟩
    | ors a =>
      simp only [cost] at hf
      unfold rd
      split
      · rename_i hs
        have hl := sgn_lt hs
        refine stp_some fb fun hu => bnd_some fb (ih .both (i + 1) _ d (by omega) (by simp only [cost]; omega)) fun b i2 n2 h2 => ?_
        have h2 := h2 _ _ _ rfl
        simp only [adv] at h2
        obtain ⟨o, ho, h3⟩ := ih (.ors (.bin 4 a b)) i2 n2 d (by omega) (by simp only [cost]; omega)
        refine ⟨o, ho, fun a' i' n' e => ?_⟩
        have h3 := h3 _ _ _ e
        simp only [adv] at h3 ⊢
        exact ⟨by omega, by omega, fun _ => h3.2.2 (h2.2.2 hu)⟩
      · refine ⟨_, rfl, fun a' i' n' e => ?_⟩
        cases e
        simp only [adv]
        exact ⟨by omega, by omega, fun h => h⟩
    | ands a =>
      simp only [cost] at hf
      unfold rd
      split
      · rename_i hs
        have hl := sgn_lt hs
        refine stp_some fb fun hu => bnd_some fb (ih .single (i + 1) _ d (by omega) (by simp only [cost]; omega)) fun b i2 n2 h2 => ?_
        have h2 := h2 _ _ _ rfl
        simp only [adv] at h2
        obtain ⟨o, ho, h3⟩ := ih (.ands (.bin 3 a b)) i2 n2 d (by omega) (by simp only [cost]; omega)
        refine ⟨o, ho, fun a' i' n' e => ?_⟩
        have h3 := h3 _ _ _ e
        simp only [adv] at h3 ⊢
        exact ⟨by omega, by omega, fun _ => h3.2.2 (h2.2.2 hu)⟩
      · refine ⟨_, rfl, fun a' i' n' e => ?_⟩
        cases e
        simp only [adv]
        exact ⟨by omega, by omega, fun h => h⟩
    | single =>
      simp only [cost] at hf
      unfold rd
      split
      · rename_i hs
        have hl := sgn_lt hs
        refine stp_some fb fun hu => bnd_some fb (ih .single (i + 1) _ d (by omega) (by simp only [cost]; omega)) fun b i2 n2 h2 => ?_
        have h2 := h2 _ _ _ rfl
        simp only [adv] at h2
        refine ⟨_, rfl, fun a' i' n' e => ?_⟩
        cases e
        simp only [adv]
        exact ⟨by omega, by omega, fun _ => h2.2.2 hu⟩
      · split
        · rename_i hs
          have hl := sgn_lt hs
          split
          · exact ⟨_, rfl, fine_refuse _ _ _ _ _ _⟩
          · refine stp_some fb fun hu => bnd_some fb (ih .formula (i + 1) _ (d + 1) (by omega) (by simp only [cost]; omega)) fun b i2 n2 h2 => ?_
            have h2 := h2 _ _ _ rfl
            simp only [adv] at h2
            split
            · rename_i hs2
              have hl2 := sgn_lt hs2
              refine stp_some fb fun hu2 => ⟨_, rfl, fun a' i' n' e => ?_⟩
              cases e
              simp only [adv]
              exact ⟨by omega, by omega, fun _ => hu2⟩
            · exact ⟨_, rfl, fine_refuse _ _ _ _ _ _⟩
        · split
          · rename_i hk
            have hl := tk_lt (ts := ts) (i := i) (by omega)
            split
            · exact ⟨_, rfl, fine_refuse _ _ _ _ _ _⟩
            · refine stp_some fb fun hu => ⟨_, rfl, fun a' i' n' e => ?_⟩
              cases e
              simp only [adv]
              exact ⟨by omega, by omega, fun _ => hu⟩
          · exact ⟨_, rfl, fine_refuse _ _ _ _ _ _⟩

/-- a -> b, b -> a, and that both hold. -/
def mutu (t : List Nd) (x y : Int) : Int × Int × List Nd :=
  if (Fm.put t ⟨5, ⟨#[]⟩, x, y⟩).2.1 = 0 then
    (if (Fm.put (Fm.put t ⟨5, ⟨#[]⟩, x, y⟩).2.2 ⟨5, ⟨#[]⟩, y, x⟩).2.1 = 0 then
      Fm.put (Fm.put (Fm.put t ⟨5, ⟨#[]⟩, x, y⟩).2.2 ⟨5, ⟨#[]⟩, y, x⟩).2.2 ⟨3, ⟨#[]⟩, (Fm.put t ⟨5, ⟨#[]⟩, x, y⟩).1, (Fm.put (Fm.put t ⟨5, ⟨#[]⟩, x, y⟩).2.2 ⟨5, ⟨#[]⟩, y, x⟩).1⟩
    else Fm.put (Fm.put t ⟨5, ⟨#[]⟩, x, y⟩).2.2 ⟨5, ⟨#[]⟩, y, x⟩)
  else Fm.put t ⟨5, ⟨#[]⟩, x, y⟩
/-- One call behind another, if that has no error. -/
def thn (r : Int × Int × List Nd) (k : Int → List Nd → Int × Int × List Nd) : Int × Int × List Nd := if r.2.1 = 0 then k r.1 r.2.2 else r
/-- What is put: the number, the error, the rows behind it. -/
def pt : T → List Nd → Int × Int × List Nd
  | .atom s, t => Fm.put t ⟨1, s, 0, 0⟩
  | .bot, t => Fm.put t Fm.bot
  | .top, t => thn (Fm.put t Fm.bot) fun x t => Fm.notp t x
  | .neg a, t => thn (pt a t) fun x t => Fm.notp t x
  | .bin k a b, t => thn (pt a t) fun x t => thn (pt b t) fun y t => Fm.put t ⟨k, ⟨#[]⟩, x, y⟩
  | .iff a b, t => thn (pt a t) fun x t => thn (pt b t) fun y t => mutu t x y
/-- A tree whose names are names. -/
def Wf : T → Prop
  | .atom s => Fm.word s.data.toList = true
  | .bot | .top => True
  | .neg a => Wf a
  | .bin k a b => (k = 3 ∨ k = 4 ∨ k = 5) ∧ Wf a ∧ Wf b
  | .iff a b => Wf a ∧ Wf b
end Go.Proofs.YtcidldgenogdkaaGreatDoor.Sx
