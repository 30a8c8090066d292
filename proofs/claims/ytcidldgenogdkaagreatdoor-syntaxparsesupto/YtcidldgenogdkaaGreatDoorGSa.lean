/-
  Plain mathematics of reading formulas: tokens, what is counted, what is read, what is put. No condition.
-/
import Derived.Test.YtcidldgenogdkaaGreatDoorGFa
import Derived.Test.YtcidldgenogdkaaGreatDoorGFc
import Derived.Test.YtcidldgenogdkaaGreatDoorGFb
import Derived.Recover
namespace Go.Proofs.YtcidldgenogdkaaGreatDoor.Sx
open Fm (Nd)

/-- A token: kind, text, number, line, column, offset. -/
structure Tn where
  k : Int
  s : ByteArray
  n : Int
  l : Int
  c : Int
  o : Int
deriving DecidableEq
def tz : Tn := ⟨0, ⟨#[]⟩, 0, 0, 0, 0⟩
abbrev sNot : List UInt8 := [126]
abbrev sAnd : List UInt8 := [38]
abbrev sOr : List UInt8 := [124]
abbrev sImp : List UInt8 := [45, 62]
abbrev sIff : List UInt8 := [60, 45, 62]
abbrev sOpen : List UInt8 := [40]
abbrev sShut : List UInt8 := [41]
abbrev wFalse : List UInt8 := [102, 97, 108, 115, 101]
abbrev wTrue : List UInt8 := [116, 114, 117, 101]
def sgn (t : Tn) (x : List UInt8) : Bool := t.k == 3 && t.s.data.toList == x
def counts (t : Tn) : Bool := t.k == 1 || (t.k == 3 && (t.s.data.toList == sNot || t.s.data.toList == sAnd || t.s.data.toList == sOr || t.s.data.toList == sImp || t.s.data.toList == sIff))
/-- What is read. -/
inductive T where
  | atom (s : ByteArray)
  | bot
  | top
  | neg (a : T)
  | bin (k : Int) (a b : T)
  | iff (a b : T)
inductive Lv where
  | formula | implied | joined | both | single
  | ors (a : T) | ands (a : T)
inductive Out where
  | ok (a : T) (i n : Nat)
  | bad (e : Int) (t : Tn)
def tk (ts : List Tn) (i : Nat) : Tn := ts.getD i tz
def up (ts : List Tn) (i n : Nat) : Nat := if counts (tk ts i) then n + 1 else n
def refuse (ts : List Tn) (i n : Nat) : Out := if 512 < up ts i n then .bad 40 (tk ts i) else .bad 41 (tk ts i)
def stp (ts : List Tn) (i n : Nat) (k : Nat → Option Out) : Option Out := if 512 < up ts i n then some (.bad 40 (tk ts i)) else k (up ts i n)
def bnd (o : Option Out) (k : T → Nat → Nat → Option Out) : Option Out :=
  match o with
  | none => none
  | some (.bad e t) => some (.bad e t)
  | some (.ok a i n) => k a i n
/-- The tree of a name. -/
def named (s : ByteArray) : Option T := if s.data.toList = wFalse then some .bot else if s.data.toList = wTrue then some .top else if Fm.word s.data.toList then some (.atom s) else none
def rd (ts : List Tn) : Nat → Lv → Nat → Nat → Nat → Option Out
  | 0, _, _, _, _ => none
  | f + 1, .formula, i, n, d => bnd (rd ts f .implied i n d) fun a i n => if sgn (tk ts i) sIff then stp ts i n fun n => bnd (rd ts f .formula (i + 1) n d) fun b i n => some (.ok (.iff a b) i n) else some (.ok a i n)
  | f + 1, .implied, i, n, d => bnd (rd ts f .joined i n d) fun a i n => if sgn (tk ts i) sImp then stp ts i n fun n => bnd (rd ts f .implied (i + 1) n d) fun b i n => some (.ok (.bin 5 a b) i n) else some (.ok a i n)
  | f + 1, .joined, i, n, d => bnd (rd ts f .both i n d) fun a i n => rd ts f (.ors a) i n d
  | f + 1, .ors a, i, n, d => if sgn (tk ts i) sOr then stp ts i n fun n => bnd (rd ts f .both (i + 1) n d) fun b i n => rd ts f (.ors (.bin 4 a b)) i n d else some (.ok a i n)
  | f + 1, .both, i, n, d => bnd (rd ts f .single i n d) fun a i n => rd ts f (.ands a) i n d
  | f + 1, .ands a, i, n, d => if sgn (tk ts i) sAnd then stp ts i n fun n => bnd (rd ts f .single (i + 1) n d) fun b i n => rd ts f (.ands (.bin 3 a b)) i n d else some (.ok a i n)
  | f + 1, .single, i, n, d =>
    if sgn (tk ts i) sNot then stp ts i n fun n => bnd (rd ts f .single (i + 1) n d) fun a i n => some (.ok (.neg a) i n)
    else if sgn (tk ts i) sOpen then
      (if d = 1024 then some (refuse ts i n) else stp ts i n fun n => bnd (rd ts f .formula (i + 1) n (d + 1)) fun a i n => if sgn (tk ts i) sShut then stp ts i n fun n => some (.ok a (i + 1) n) else some (refuse ts i n))
    else if (tk ts i).k = 1 then
      (match named (tk ts i).s with
      | none => some (refuse ts i n)
      | some a => stp ts i n fun n => some (.ok a (i + 1) n))
    else some (refuse ts i n)
/-- The fuel that each way of reading takes. -/
def cost : Lv → Nat
  | .formula => 5
  | .implied => 4
  | .joined => 3
  | .both => 2
  | .single => 1
  | .ors _ => 3
  | .ands _ => 2
def adv : Lv → Nat
  | .ors _ | .ands _ => 0
  | _ => 1
theorem tk_lt {ts : List Tn} {i : Nat} (h : (tk ts i).k ≠ 0) : i < ts.length := by
  unfold tk at h
  rcases Nat.lt_or_ge i ts.length with h1 | h1
  · exact h1
  · rw [List.getD_eq_getElem?_getD, List.getElem?_eq_none h1] at h
    exact absurd rfl h
theorem sgn_lt {ts : List Tn} {i : Nat} {x : List UInt8} (h : sgn (tk ts i) x = true) : i < ts.length := by
  refine tk_lt ?_
  simp only [sgn, Bool.and_eq_true, beq_iff_eq] at h
  omega
/-- What is read lies ahead, and never counts above the limit. -/
def Fine (ts : List Tn) (lv : Lv) (i n : Nat) (o : Out) : Prop := ∀ a i' n', o = .ok a i' n' → i + adv lv ≤ i' ∧ i' ≤ ts.length ∧ (n ≤ 512 → n' ≤ 512)
theorem fine_bad (ts : List Tn) (lv : Lv) (i n : Nat) (e : Int) (t : Tn) : Fine ts lv i n (.bad e t) := fun _ _ _ h => by cases h
theorem fine_refuse (ts : List Tn) (lv : Lv) (i n : Nat) (i' n' : Nat) : Fine ts lv i n (refuse ts i' n') := by
  unfold refuse
  split <;> exact fine_bad _ _ _ _ _ _
theorem stp_some {ts : List Tn} {i n : Nat} {k : Nat → Option Out} {Q : Out → Prop} (hb : ∀ e t, Q (.bad e t)) (h : up ts i n ≤ 512 → ∃ o, k (up ts i n) = some o ∧ Q o) : ∃ o, stp ts i n k = some o ∧ Q o := by
  unfold stp
  split
  · exact ⟨_, rfl, hb _ _⟩
  · exact h (by omega)
theorem bnd_some {o : Option Out} {k : T → Nat → Nat → Option Out} {Q R : Out → Prop} (hb : ∀ e t, Q (.bad e t)) (h : ∃ x, o = some x ∧ R x) (hk : ∀ a i n, R (.ok a i n) → ∃ x, k a i n = some x ∧ Q x) : ∃ x, bnd o k = some x ∧ Q x := by
  obtain ⟨x, rfl, hR⟩ := h
  cases x with
  | ok a i n => exact hk a i n hR
  | bad e t => exact ⟨_, rfl, hb e t⟩
theorem rd_total (ts : List Tn) : ∀ (f : Nat) (lv : Lv) (i n d : Nat), i ≤ ts.length → 8 * (ts.length - i) + cost lv ≤ f → ∃ o, rd ts f lv i n d = some o ∧ Fine ts lv i n o
  | 0, lv, i, n, d, hi, hf => by cases lv <;> simp [cost] at hf
  | f + 1, lv, i, n, d, hi, hf => by
    have ih := rd_total ts f
    have fb := fine_bad ts lv i n
    cases lv with
    | formula =>
      simp only [cost] at hf
      refine bnd_some fb (ih .implied i n d hi (by simp only [cost]; omega)) fun a i1 n1 h1 => ?_
      have h1 := h1 _ _ _ rfl
      simp only [adv] at h1
      split
      · rename_i hs
        have hl := sgn_lt hs
        refine stp_some fb fun hu => bnd_some fb (ih .formula (i1 + 1) _ d (by omega) (by simp only [cost]; omega)) fun b i2 n2 h2 => ?_
        have h2 := h2 _ _ _ rfl
        simp only [adv] at h2
        refine ⟨_, rfl, fun a' i' n' e => ?_⟩
        cases e
        simp only [adv]
        exact ⟨by omega, by omega, fun _ => h2.2.2 hu⟩
      · refine ⟨_, rfl, fun a' i' n' e => ?_⟩
        cases e
        simp only [adv]
        exact ⟨by omega, by omega, h1.2.2⟩
    | implied =>
      simp only [cost] at hf
      refine bnd_some fb (ih .joined i n d hi (by simp only [cost]; omega)) fun a i1 n1 h1 => ?_
      have h1 := h1 _ _ _ rfl
      simp only [adv] at h1
      split
      · rename_i hs
        have hl := sgn_lt hs
        refine stp_some fb fun hu => bnd_some fb (ih .implied (i1 + 1) _ d (by omega) (by simp only [cost]; omega)) fun b i2 n2 h2 => ?_
        have h2 := h2 _ _ _ rfl
        simp only [adv] at h2
        refine ⟨_, rfl, fun a' i' n' e => ?_⟩
        cases e
        simp only [adv]
        exact ⟨by omega, by omega, fun _ => h2.2.2 hu⟩
      · refine ⟨_, rfl, fun a' i' n' e => ?_⟩
        cases e
        simp only [adv]
        exact ⟨by omega, by omega, h1.2.2⟩
    | joined =>
      simp only [cost] at hf
      refine bnd_some fb (ih .both i n d hi (by simp only [cost]; omega)) fun a i1 n1 h1 => ?_
      have h1 := h1 _ _ _ rfl
      simp only [adv] at h1
      obtain ⟨o, ho, h2⟩ := ih (.ors a) i1 n1 d (by omega) (by simp only [cost]; omega)
      refine ⟨o, ho, fun a' i' n' e => ?_⟩
      have h2 := h2 _ _ _ e
      simp only [adv] at h2 ⊢
      exact ⟨by omega, by omega, fun h => h2.2.2 (h1.2.2 h)⟩
    | both =>
      simp only [cost] at hf
      refine bnd_some fb (ih .single i n d hi (by simp only [cost]; omega)) fun a i1 n1 h1 => ?_
      have h1 := h1 _ _ _ rfl
      simp only [adv] at h1
      obtain ⟨o, ho, h2⟩ := ih (.ands a) i1 n1 d (by omega) (by simp only [cost]; omega)
      refine ⟨o, ho, fun a' i' n' e => ?_⟩
      have h2 := h2 _ _ _ e
      simp only [adv] at h2 ⊢
      exact ⟨by omega, by omega, fun h => h2.2.2 (h1.2.2 h)⟩
    | ors a =>
      simp only [cost] at hf
      unfold rd
      split
      · rename_i hs
        have hl := sgn_lt hs
        refine stp_some fb fun hu => bnd_some fb (ih .both (i + 1) _ d (by omega) (by simp only [cost]; omega)) fun b i2 n2 h2 => ?_
        have h2 := h2 _ _ _ rfl
        simp only [adv] at h2
        obtain ⟨o, ho, h3⟩ := ih (.ors (.bin 4 a b)) i2 n2 d (by omega) (by simp only [cost]; omega)
        refine ⟨o, ho, fun a' i' n' e => ?_⟩
        have h3 := h3 _ _ _ e
        simp only [adv] at h3 ⊢
        exact ⟨by omega, by omega, fun _ => h3.2.2 (h2.2.2 hu)⟩
      · refine ⟨_, rfl, fun a' i' n' e => ?_⟩
        cases e
        simp only [adv]
        exact ⟨by omega, by omega, fun h => h⟩
    | ands a =>
      simp only [cost] at hf
      unfold rd
      split
      · rename_i hs
        have hl := sgn_lt hs
        refine stp_some fb fun hu => bnd_some fb (ih .single (i + 1) _ d (by omega) (by simp only [cost]; omega)) fun b i2 n2 h2 => ?_
        have h2 := h2 _ _ _ rfl
        simp only [adv] at h2
        obtain ⟨o, ho, h3⟩ := ih (.ands (.bin 3 a b)) i2 n2 d (by omega) (by simp only [cost]; omega)
        refine ⟨o, ho, fun a' i' n' e => ?_⟩
        have h3 := h3 _ _ _ e
        simp only [adv] at h3 ⊢
        exact ⟨by omega, by omega, fun _ => h3.2.2 (h2.2.2 hu)⟩
      · refine ⟨_, rfl, fun a' i' n' e => ?_⟩
        cases e
        simp only [adv]
        exact ⟨by omega, by omega, fun h => h⟩
    | single =>
      simp only [cost] at hf
      unfold rd
      split
      · rename_i hs
        have hl := sgn_lt hs
        refine stp_some fb fun hu => bnd_some fb (ih .single (i + 1) _ d (by omega) (by simp only [cost]; omega)) fun b i2 n2 h2 => ?_
        have h2 := h2 _ _ _ rfl
        simp only [adv] at h2
        refine ⟨_, rfl, fun a' i' n' e => ?_⟩
        cases e
        simp only [adv]
        exact ⟨by omega, by omega, fun _ => h2.2.2 hu⟩
      · split
        · rename_i hs
          have hl := sgn_lt hs
          split
          · exact ⟨_, rfl, fine_refuse _ _ _ _ _ _⟩
          · refine stp_some fb fun hu => bnd_some fb (ih .formula (i + 1) _ (d + 1) (by omega) (by simp only [cost]; omega)) fun b i2 n2 h2 => ?_
            have h2 := h2 _ _ _ rfl
            simp only [adv] at h2
            split
            · rename_i hs2
              have hl2 := sgn_lt hs2
              refine stp_some fb fun hu2 => ⟨_, rfl, fun a' i' n' e => ?_⟩
              cases e
              simp only [adv]
              exact ⟨by omega, by omega, fun _ => hu2⟩
            · exact ⟨_, rfl, fine_refuse _ _ _ _ _ _⟩
        · split
          · rename_i hk
            have hl := tk_lt (ts := ts) (i := i) (by omega)
            split
            · exact ⟨_, rfl, fine_refuse _ _ _ _ _ _⟩
            · refine stp_some fb fun hu => ⟨_, rfl, fun a' i' n' e => ?_⟩
              cases e
              simp only [adv]
              exact ⟨by omega, by omega, fun _ => hu⟩
          · exact ⟨_, rfl, fine_refuse _ _ _ _ _ _⟩

/-- a -> b, b -> a, and that both hold. -/
def mutu (t : List Nd) (x y : Int) : Int × Int × List Nd :=
  if (Fm.put t ⟨5, ⟨#[]⟩, x, y⟩).2.1 = 0 then
    (if (Fm.put (Fm.put t ⟨5, ⟨#[]⟩, x, y⟩).2.2 ⟨5, ⟨#[]⟩, y, x⟩).2.1 = 0 then
      Fm.put (Fm.put (Fm.put t ⟨5, ⟨#[]⟩, x, y⟩).2.2 ⟨5, ⟨#[]⟩, y, x⟩).2.2 ⟨3, ⟨#[]⟩, (Fm.put t ⟨5, ⟨#[]⟩, x, y⟩).1, (Fm.put (Fm.put t ⟨5, ⟨#[]⟩, x, y⟩).2.2 ⟨5, ⟨#[]⟩, y, x⟩).1⟩
    else Fm.put (Fm.put t ⟨5, ⟨#[]⟩, x, y⟩).2.2 ⟨5, ⟨#[]⟩, y, x⟩)
  else Fm.put t ⟨5, ⟨#[]⟩, x, y⟩
/-- One call behind another, if that has no error. -/
def thn (r : Int × Int × List Nd) (k : Int → List Nd → Int × Int × List Nd) : Int × Int × List Nd := if r.2.1 = 0 then k r.1 r.2.2 else r
/-- What is put: the number, the error, the rows behind it. -/
def pt : T → List Nd → Int × Int × List Nd
  | .atom s, t => Fm.put t ⟨1, s, 0, 0⟩
  | .bot, t => Fm.put t Fm.bot
  | .top, t => thn (Fm.put t Fm.bot) fun x t => Fm.notp t x
  | .neg a, t => thn (pt a t) fun x t => Fm.notp t x
  | .bin k a b, t => thn (pt a t) fun x t => thn (pt b t) fun y t => Fm.put t ⟨k, ⟨#[]⟩, x, y⟩
  | .iff a b, t => thn (pt a t) fun x t => thn (pt b t) fun y t => mutu t x y
/-- A tree whose names are names. -/
def Wf : T → Prop
  | .atom s => Fm.word s.data.toList = true
  | .bot | .top => True
  | .neg a => Wf a
  | .bin k a b => (k = 3 ∨ k = 4 ∨ k = 5) ∧ Wf a ∧ Wf b
  | .iff a b => Wf a ∧ Wf b
end Go.Proofs.YtcidldgenogdkaaGreatDoor.Sx
/-
  Plain mathematics of putting what was read: rows only grow, the only error is 30. No condition.
-/
namespace Go.Proofs.YtcidldgenogdkaaGreatDoor.Sx
open Fm (Nd)

/-- What comes of a call on rows t. -/
structure Res (t : List Nd) (r : Int × Int × List Nd) : Prop where
  ok : Fm.Ok r.2.2
  pre : ∃ u, r.2.2 = t ++ u
  out : (r.2.1 = 0 ∧ Fm.has r.2.2 r.1 = true) ∨ (r.2.1 = 30 ∧ r.1 = 0)
theorem Res.i64 {t : List Nd} {r : Int × Int × List Nd} (h : Res t r) : Fm.i64 r.1 := by
  rcases h.out with ⟨_, h1⟩ | ⟨_, h1⟩
  · have h2 := Fm.has_iff.1 h1
    have := h.ok.len
    exact ⟨by omega, by omega⟩
  · rw [h1]; exact ⟨by omega, by omega⟩
theorem has_app {t u : List Nd} {i : Int} (h : Fm.has t i = true) : Fm.has (t ++ u) i = true := by
  rw [Fm.has_iff] at *
  simp only [List.length_append]
  omega
theorem put_res {t : List Nd} (h : Fm.Ok t) {n : Nd} (hn : Fm.good n) (hc : Fm.check t n = 0) : Res t (Fm.put t n) := by
  refine ⟨Fm.ok_put h hn, (Fm.put_len t n).2, ?_⟩
  unfold Fm.put
  rw [if_pos hc]
  split
  · rename_i hm
    refine Or.inl ⟨rfl, Fm.has_iff.2 ⟨by simp, ?_⟩⟩
    have := List.idxOf_lt_length_iff.2 hm
    simpa using this
  · split
    · exact Or.inr ⟨rfl, rfl⟩
    · exact Or.inl ⟨rfl, Fm.has_iff.2 ⟨by simp, by simp; omega⟩⟩
theorem check_join {t : List Nd} {k x y : Int} (hk : k = 3 ∨ k = 4 ∨ k = 5) (hx : Fm.has t x = true) (hy : Fm.has t y = true) : Fm.check t ⟨k, ⟨#[]⟩, x, y⟩ = 0 := by
  have hj : Fm.jn k = true := by rcases hk with rfl | rfl | rfl <;> rfl
  have h1 : k ≠ 1 := by omega
  have h2 : k ≠ 2 := by omega
  have hs : Fm.shaped t ⟨k, ⟨#[]⟩, x, y⟩ = true := by
    unfold Fm.shaped
    simp only [if_neg h1, if_neg h2, hj, if_true, hx, hy]
    rfl
  unfold Fm.check
  rw [hs]
  simp [h1]
theorem has_i64 {t : List Nd} (h : Fm.Ok t) {x : Int} (hx : Fm.has t x = true) : Fm.i64 x := by
  have h2 := Fm.has_iff.1 hx
  have := h.len
  exact ⟨by omega, by omega⟩
theorem join_res {t : List Nd} (h : Fm.Ok t) {k x y : Int} (hk : k = 3 ∨ k = 4 ∨ k = 5) (hx : Fm.has t x = true) (hy : Fm.has t y = true) : Res t (Fm.put t ⟨k, ⟨#[]⟩, x, y⟩) :=
  put_res h (Fm.good_join k x y ⟨by omega, by omega⟩ (has_i64 h hx) (has_i64 h hy)) (check_join hk hx hy)
theorem check_bot (t : List Nd) : Fm.check t Fm.bot = 0 := rfl
theorem bot_res {t : List Nd} (h : Fm.Ok t) : Res t (Fm.put t Fm.bot) := put_res h Fm.good_bot (check_bot t)
theorem word_len {s : ByteArray} (h : Fm.word s.data.toList = true) : s.size ≤ 31 := by
  unfold Fm.word at h
  simp only [Bool.and_eq_true, decide_eq_true_eq] at h
  exact h.1.1.1.2
theorem atom_res {t : List Nd} (h : Fm.Ok t) {s : ByteArray} (hs : Fm.word s.data.toList = true) : Res t (Fm.put t ⟨1, s, 0, 0⟩) := by
  have h31 := word_len hs
  have i0 : Fm.i64 0 := ⟨by decide, by decide⟩
  have i1 : Fm.i64 1 := ⟨by decide, by decide⟩
  refine put_res h ⟨i1, by show s.size ≤ _; omega, i0, i0⟩ ?_
  have h2 : Fm.shaped t ⟨1, s, 0, 0⟩ = true := rfl
  unfold Fm.check
  rw [h2]
  simp [hs]
theorem Res.trans {t t1 : List Nd} {r : Int × Int × List Nd} (h : ∃ u, t1 = t ++ u) (k : Res t1 r) : Res t r := by
  obtain ⟨u, rfl⟩ := h
  obtain ⟨u2, h2⟩ := k.pre
  exact ⟨k.ok, ⟨u ++ u2, by rw [h2, List.append_assoc]⟩, k.out⟩
theorem thn_res {t : List Nd} {r : Int × Int × List Nd} {k : Int → List Nd → Int × Int × List Nd} (h : Res t r) (hk : Fm.has r.2.2 r.1 = true → Fm.Ok r.2.2 → Res r.2.2 (k r.1 r.2.2)) : Res t (thn r k) := by
  unfold thn
  split
  · rename_i h0
    rcases h.out with ⟨_, h1⟩ | ⟨h1, _⟩
    · exact Res.trans h.pre (hk h1 h.ok)
    · omega
  · exact h
theorem notp_thn {t : List Nd} {x : Int} (hx : Fm.has t x = true) : Fm.notp t x = thn (Fm.put t Fm.bot) fun b t => Fm.put t ⟨5, ⟨#[]⟩, x, b⟩ := by
  unfold Fm.notp thn
  rw [if_pos hx]
  split
  · rfl
  · rename_i h0
    obtain ⟨h1, h2⟩ := Fm.put_err h0
    rw [h1, ← h2]
    generalize hp : Fm.put t Fm.bot = p at *
    obtain ⟨a, b, c⟩ := p
    simp only at h1 h2 ⊢
    rw [h1]
theorem notp_res {t : List Nd} (h : Fm.Ok t) {x : Int} (hx : Fm.has t x = true) : Res t (Fm.notp t x) := by
  rw [notp_thn hx]
  refine thn_res (bot_res h) fun h1 h2 => join_res h2 (by omega) ?_ h1
  obtain ⟨u, hu⟩ := (bot_res h).pre
  rw [hu]
  exact has_app hx
theorem mutu_thn (t : List Nd) (x y : Int) : mutu t x y = thn (Fm.put t ⟨5, ⟨#[]⟩, x, y⟩) fun a t => thn (Fm.put t ⟨5, ⟨#[]⟩, y, x⟩) fun b t => Fm.put t ⟨3, ⟨#[]⟩, a, b⟩ := rfl
theorem Res.has {t : List Nd} {r : Int × Int × List Nd} (h : Res t r) {x : Int} (hx : Fm.has t x = true) : Fm.has r.2.2 x = true := by
  obtain ⟨u, hu⟩ := h.pre
  rw [hu]
  exact has_app hx
theorem mutu_res {t : List Nd} (h : Fm.Ok t) {x y : Int} (hx : Fm.has t x = true) (hy : Fm.has t y = true) : Res t (mutu t x y) := by
  rw [mutu_thn]
  have r1 := join_res h (k := 5) (by omega) hx hy
  refine thn_res r1 fun h1 h2 => ?_
  have r2 := join_res h2 (k := 5) (by omega) (r1.has hy) (r1.has hx)
  exact thn_res r2 fun h3 h4 => join_res h4 (by omega) (r2.has h1) h3
theorem pt_res : ∀ (a : T) {t : List Nd}, Fm.Ok t → Wf a → Res t (pt a t)
  | .atom s, t, h, hw => atom_res h hw
  | .bot, t, h, _ => bot_res h
  | .top, t, h, _ => thn_res (bot_res h) fun h1 h2 => notp_res h2 h1
  | .neg a, t, h, hw => thn_res (pt_res a h hw) fun h1 h2 => notp_res h2 h1
  | .bin k a b, t, h, hw => by
    have r1 := pt_res a h hw.2.1
    refine thn_res r1 fun h1 h2 => ?_
    have r2 := pt_res b h2 hw.2.2
    exact thn_res r2 fun h3 h4 => join_res h4 hw.1 (r2.has h1) h3
  | .iff a b, t, h, hw => by
    have r1 := pt_res a h hw.1
    refine thn_res r1 fun h1 h2 => ?_
    have r2 := pt_res b h2 hw.2
    exact thn_res r2 fun h3 h4 => mutu_res h4 (r2.has h1) h3
/-- What is read has names that are names. -/
def WfO : Out → Prop
  | .ok a _ _ => Wf a
  | .bad _ _ => True
def WfL : Lv → Prop
  | .ors a | .ands a => Wf a
  | _ => True
theorem named_wf {s : ByteArray} {a : T} (h : named s = some a) : Wf a := by
  unfold named at h
  split at h
  · cases h; trivial
  · split at h
    · cases h; trivial
    · split at h
      · rename_i h1; cases h; exact h1
      · cases h
theorem wfo_refuse (ts : List Tn) (i n : Nat) : WfO (refuse ts i n) := by
  unfold refuse
  split <;> trivial
theorem wf_stp {ts : List Tn} {i n : Nat} {k : Nat → Option Out} {o : Out} (h : stp ts i n k = some o) (hk : ∀ n o, k n = some o → WfO o) : WfO o := by
  unfold stp at h
  split at h
  · cases h; trivial
  · exact hk _ _ h
theorem wf_bnd {x : Option Out} {k : T → Nat → Nat → Option Out} {o : Out} (h : bnd x k = some o) (hx : ∀ o, x = some o → WfO o) (hk : ∀ a i n o, Wf a → k a i n = some o → WfO o) : WfO o := by
  cases x with
  | none => cases h
  | some x =>
    cases x with
    | bad e t => cases h; trivial
    | ok a i n => exact hk a i n o (hx _ rfl) h
theorem rd_wf (ts : List Tn) : ∀ (f : Nat) (lv : Lv) (i n d : Nat) (o : Out), WfL lv → rd ts f lv i n d = some o → WfO o
  | 0, lv, i, n, d, o, _, h => by cases h
  | f + 1, lv, i, n, d, o, hl, h => by
    have ih := rd_wf ts f
    cases lv with
    | formula =>
      refine wf_bnd h (fun o h => ih _ _ _ _ _ (by first | trivial | exact trivial) h) fun a i n o ha h => ?_
      split at h
      · exact wf_stp h fun n o h => wf_bnd h (fun o h => ih _ _ _ _ _ (by first | trivial | exact trivial) h) fun b i n o hb h => by cases h; exact ⟨ha, hb⟩
      · cases h; exact ha
    | implied =>
      refine wf_bnd h (fun o h => ih _ _ _ _ _ (by first | trivial | exact trivial) h) fun a i n o ha h => ?_
      split at h
      · exact wf_stp h fun n o h => wf_bnd h (fun o h => ih _ _ _ _ _ (by first | trivial | exact trivial) h) fun b i n o hb h => by cases h; exact ⟨by omega, ha, hb⟩
      · cases h; exact ha
    | joined => exact wf_bnd h (fun o h => ih _ _ _ _ _ (by first | trivial | exact trivial) h) fun a i n o ha h => ih (.ors a) _ _ _ _ ha h
    | both => exact wf_bnd h (fun o h => ih _ _ _ _ _ (by first | trivial | exact trivial) h) fun a i n o ha h => ih (.ands a) _ _ _ _ ha h
    | ors a =>
      unfold rd at h
      split at h
      · exact wf_stp h fun n o h => wf_bnd h (fun o h => ih _ _ _ _ _ (by first | trivial | exact trivial) h) fun b i n o hb h => ih (.ors (.bin 4 a b)) _ _ _ _ ⟨by omega, hl, hb⟩ h
      · cases h; exact hl
    | ands a =>
      unfold rd at h
      split at h
      · exact wf_stp h fun n o h => wf_bnd h (fun o h => ih _ _ _ _ _ (by first | trivial | exact trivial) h) fun b i n o hb h => ih (.ands (.bin 3 a b)) _ _ _ _ ⟨by omega, hl, hb⟩ h
      · cases h; exact hl
    | single =>
      unfold rd at h
      split at h
      · exact wf_stp h fun n o h => wf_bnd h (fun o h => ih _ _ _ _ _ (by first | trivial | exact trivial) h) fun b i n o hb h => by cases h; exact hb
      · split at h
        · split at h
          · cases h; exact wfo_refuse _ _ _
          · refine wf_stp h fun n o h => wf_bnd h (fun o h => ih _ _ _ _ _ (by first | trivial | exact trivial) h) fun b i n o hb h => ?_
            split at h
            · exact wf_stp h fun n o h => by cases h; exact hb
            · cases h; exact wfo_refuse _ _ _
        · split at h
          · split at h
            · cases h; exact wfo_refuse _ _ _
            · rename_i a ha
              exact wf_stp h fun n o h => by cases h; exact named_wf ha
          · cases h; exact wfo_refuse _ _ _
theorem stp_cases {ts : List Tn} {i n : Nat} {k : Nat → Option Out} {o : Out} (h : stp ts i n k = some o) : (512 < up ts i n ∧ o = .bad 40 (tk ts i)) ∨ (up ts i n ≤ 512 ∧ k (up ts i n) = some o) := by
  unfold stp at h
  split at h
  · rename_i hu; cases h; exact Or.inl ⟨hu, rfl⟩
  · exact Or.inr ⟨by omega, h⟩
theorem bnd_cases {x : Option Out} {k : T → Nat → Nat → Option Out} {o : Out} (h : bnd x k = some o) : (∃ e t, x = some (.bad e t) ∧ o = .bad e t) ∨ ∃ a i n, x = some (.ok a i n) ∧ k a i n = some o := by
  cases x with
  | none => cases h
  | some x =>
    cases x with
    | bad e t => cases h; exact Or.inl ⟨e, t, rfl, rfl⟩
    | ok a i n => exact Or.inr ⟨a, i, n, rfl, h⟩
theorem fin_stp {ts : List Tn} {i n : Nat} {k : Nat → Option Out} {o : Out} {Q : Out → Prop} (h : stp ts i n k = some o) (hb : ∀ e t, Q (.bad e t)) (hk : up ts i n ≤ 512 → k (up ts i n) = some o → Q o) : Q o := by
  rcases stp_cases h with ⟨_, rfl⟩ | ⟨h1, h2⟩
  · exact hb _ _
  · exact hk h1 h2
theorem fin_bnd {x : Option Out} {k : T → Nat → Nat → Option Out} {o : Out} {Q : Out → Prop} (h : bnd x k = some o) (hb : ∀ e t, Q (.bad e t)) (hk : ∀ a i n, x = some (.ok a i n) → k a i n = some o → Q o) : Q o := by
  rcases bnd_cases h with ⟨_, _, _, rfl⟩ | ⟨a, i, n, h1, h2⟩
  · exact hb _ _
  · exact hk a i n h1 h2
theorem fine_ok {ts : List Tn} {lv : Lv} {i n : Nat} {a : T} {i' n' : Nat} {o : Out} (ho : some (.ok a i' n') = some o) (h1 : i + adv lv ≤ i') (h2 : i' ≤ ts.length) (h3 : n ≤ 512 → n' ≤ 512) : Fine ts lv i n o := by
  cases ho
  intro _ _ _ e
  cases e
  exact ⟨h1, h2, h3⟩
theorem fine_ref {ts : List Tn} {lv : Lv} {i n i' n' : Nat} {o : Out} (ho : some (refuse ts i' n') = some o) : Fine ts lv i n o := by
  cases ho
  exact fine_refuse _ _ _ _ _ _
theorem rd_fine (ts : List Tn) : ∀ (f : Nat) (lv : Lv) (i n d : Nat) (o : Out), i ≤ ts.length → rd ts f lv i n d = some o → Fine ts lv i n o
  | 0, lv, i, n, d, o, _, h => by cases h
  | f + 1, lv, i, n, d, o, hi, h => by
    have ih := rd_fine ts f
    have fb := fine_bad ts lv i n
    cases lv with
    | formula =>
      refine fin_bnd h fb fun a i1 n1 hx hk => ?_
      have h1 := ih .implied i n d _ hi hx _ _ _ rfl
      simp only [adv] at h1
      split at hk
      · rename_i hs
        have hl := sgn_lt hs
        refine fin_stp hk fb fun hu hk => fin_bnd hk fb fun b i2 n2 hx2 hk => ?_
        have h2 := ih .formula (i1 + 1) _ d _ (by omega) hx2 _ _ _ rfl
        simp only [adv] at h2
        exact fine_ok hk (by simp only [adv]; omega) (by omega) fun _ => h2.2.2 hu
      · exact fine_ok hk (by simp only [adv]; omega) (by omega) h1.2.2
    | implied =>
      refine fin_bnd h fb fun a i1 n1 hx hk => ?_
      have h1 := ih .joined i n d _ hi hx _ _ _ rfl
      simp only [adv] at h1
      split at hk
      · rename_i hs
        have hl := sgn_lt hs
        refine fin_stp hk fb fun hu hk => fin_bnd hk fb fun b i2 n2 hx2 hk => ?_
        have h2 := ih .implied (i1 + 1) _ d _ (by omega) hx2 _ _ _ rfl
        simp only [adv] at h2
        exact fine_ok hk (by simp only [adv]; omega) (by omega) fun _ => h2.2.2 hu
      · exact fine_ok hk (by simp only [adv]; omega) (by omega) h1.2.2
    | joined =>
      refine fin_bnd h fb fun a i1 n1 hx hk => ?_
      have h1 := ih .both i n d _ hi hx _ _ _ rfl
      simp only [adv] at h1
      have h2 := ih (.ors a) i1 n1 d _ (by omega) hk
      intro a' i' n' e
      have h3 := h2 a' i' n' e
      simp only [adv] at h3 ⊢
      exact ⟨by omega, by omega, fun h => h3.2.2 (h1.2.2 h)⟩
    | both =>
      refine fin_bnd h fb fun a i1 n1 hx hk => ?_
      have h1 := ih .single i n d _ hi hx _ _ _ rfl
      simp only [adv] at h1
      have h2 := ih (.ands a) i1 n1 d _ (by omega) hk
      intro a' i' n' e
      have h3 := h2 a' i' n' e
      simp only [adv] at h3 ⊢
      exact ⟨by omega, by omega, fun h => h3.2.2 (h1.2.2 h)⟩
    | ors a =>
      unfold rd at h
      split at h
      · rename_i hs
        have hl := sgn_lt hs
        refine fin_stp h fb fun hu hk => fin_bnd hk fb fun b i2 n2 hx2 hk => ?_
        have h2 := ih .both (i + 1) _ d _ (by omega) hx2 _ _ _ rfl
        simp only [adv] at h2
        have h2' := ih _ i2 n2 d _ (by omega) hk
        intro a' i' n' e
        have h3 := h2' a' i' n' e
        simp only [adv] at h3 ⊢
        exact ⟨by omega, by omega, fun _ => h3.2.2 (h2.2.2 hu)⟩
      · exact fine_ok h (by simp only [adv]; omega) (by omega) fun h => h
    | ands a =>
      unfold rd at h
      split at h
      · rename_i hs
        have hl := sgn_lt hs
        refine fin_stp h fb fun hu hk => fin_bnd hk fb fun b i2 n2 hx2 hk => ?_
        have h2 := ih .single (i + 1) _ d _ (by omega) hx2 _ _ _ rfl
        simp only [adv] at h2
        have h2' := ih _ i2 n2 d _ (by omega) hk
        intro a' i' n' e
        have h3 := h2' a' i' n' e
        simp only [adv] at h3 ⊢
        exact ⟨by omega, by omega, fun _ => h3.2.2 (h2.2.2 hu)⟩
      · exact fine_ok h (by simp only [adv]; omega) (by omega) fun h => h
    | single =>
      unfold rd at h
      split at h
      · rename_i hs
        have hl := sgn_lt hs
        refine fin_stp h fb fun hu hk => fin_bnd hk fb fun b i2 n2 hx2 hk => ?_
        have h2 := ih .single (i + 1) _ d _ (by omega) hx2 _ _ _ rfl
        simp only [adv] at h2
        exact fine_ok hk (by simp only [adv]; omega) (by omega) fun _ => h2.2.2 hu
      · split at h
        · rename_i hs
          have hl := sgn_lt hs
          split at h
          · exact fine_ref h
          · refine fin_stp h fb fun hu hk => fin_bnd hk fb fun b i2 n2 hx2 hk => ?_
            have h2 := ih .formula (i + 1) _ (d + 1) _ (by omega) hx2 _ _ _ rfl
            simp only [adv] at h2
            split at hk
            · rename_i hs2
              have hl2 := sgn_lt hs2
              exact fin_stp hk fb fun hu2 hk => fine_ok hk (by simp only [adv]; omega) (by omega) fun _ => hu2
            · exact fine_ref hk
        · split at h
          · rename_i hk
            have hl := tk_lt (ts := ts) (i := i) (by omega)
            split at h
            · exact fine_ref h
            · exact fin_stp h fb fun hu hk => fine_ok hk (by simp only [adv]; omega) (by omega) fun _ => hu
          · exact fine_ref h
end Go.Proofs.YtcidldgenogdkaaGreatDoor.Sx
/-
  Tokens, readers and closures in memory. No condition.
-/
namespace Go.Proofs.YtcidldgenogdkaaGreatDoor
open Go.RowKit Go.Maps
open Fm (Nd)
open Sx (Tn T)

def ptrV (g : Nat) : Value := .pointer (some ⟨g, 0, none⟩)
/-- A token's cells, and a token as a value. -/
def tnC (t : Tn) : List Value := [.int .i64 t.k, .string t.s, .int .i64 t.n, .int .i64 t.l, .int .i64 t.c, .int .i64 t.o]
def tnV (t : Tn) : Value := .agg #[.int .i64 t.k, .string t.s, .int .i64 t.n, .int .i64 t.l, .int .i64 t.c, .int .i64 t.o]
def toksOf (ts : List Tn) : List Value := ts.flatMap tnC
theorem toksOf_at : ∀ (ts : List Tn) (k j : Nat) (hk : k < ts.length), j < 6 → (toksOf ts)[k * 6 + j]? = (tnC ts[k])[j]?
  | [], k, j, hk, _ => absurd hk (by simp)
  | n :: ts, 0, j, hk, hj => by
    show (tnC n ++ toksOf ts)[0 * 6 + j]? = _
    rw [List.getElem?_append_left (by show 0 * 6 + j < 6; omega), Nat.zero_mul, Nat.zero_add]
    rfl
  | n :: ts, k + 1, j, hk, hj => by
    have hl : (tnC n).length = 6 := rfl
    show (tnC n ++ toksOf ts)[(k + 1) * 6 + j]? = _
    rw [List.getElem?_append_right (by rw [hl]; omega), hl, show (k + 1) * 6 + j - 6 = k * 6 + j by omega]
    rw [toksOf_at ts k j (by simpa using hk) hj]
    rfl
/-- A slice that holds these tokens, at the head of a block of its own. -/
def TsAt (w : World) (g cap : Nat) (ts : List Tn) : Prop :=
  ∃ cur, w.heap[g]? = some (.cells cur 45 (0, 0)) ∧ ts.length ≤ cap ∧ cap ≤ maxLen ∧ cur.toList.take (ts.length * 6) = toksOf ts ∧ ts.length ≤ 4611686018427387904
theorem TsAt.cell {w : World} {g cap : Nat} {ts : List Tn} (h : TsAt w g cap ts) {k : Nat} (hk : k < ts.length) : ∀ j, j < 6 → w.cell? ⟨g, k * 6 + j, none⟩ = (tnC ts[k])[j]? := by
  intro j hj
  obtain ⟨cur, hh, _, _, ht, _⟩ := h
  rw [cell_of_row w g _ cur _ _ hh, ← toksOf_at ts k j hk hj, ← ht, List.getElem?_take, if_pos (by omega)]
  simp
theorem TsAt.keep {w w' : World} {g cap : Nat} {ts : List Tn} (h : TsAt w g cap ts) (hk : w'.heap[g]? = w.heap[g]?) : TsAt w' g cap ts := by
  obtain ⟨cur, hh, r⟩ := h
  exact ⟨cur, hk.trans hh, r⟩
/-- The reader at block p: its table at b, its tokens, the next one, how many were counted, how many parentheses are open. -/
def Rdr (w : World) (p b g cap len i n d : Nat) : Prop :=
  w.heap[p]? = some (.cells #[ptrV b, .slice (some ⟨g, 0, none⟩) len cap, .int .i64 (i : Int), .int .i64 (n : Int), .int .i64 (d : Int)] 112 (0, 0))
section
variable {w w' : World} {p b g cap len i n d : Nat}
theorem Rdr.c0 (h : Rdr w p b g cap len i n d) : w.cell? ⟨p, 0, none⟩ = some (.pointer (some ⟨b, 0, none⟩)) := by rw [cell_of_row w p 0 _ _ _ h]; rfl
theorem Rdr.c1 (h : Rdr w p b g cap len i n d) : w.cell? ⟨p, 1, none⟩ = some (.slice (some ⟨g, 0, none⟩) len cap) := by rw [cell_of_row w p 1 _ _ _ h]; rfl
theorem Rdr.c2 (h : Rdr w p b g cap len i n d) : w.cell? ⟨p, 2, none⟩ = some (.int .i64 (i : Int)) := by rw [cell_of_row w p 2 _ _ _ h]; rfl
theorem Rdr.c3 (h : Rdr w p b g cap len i n d) : w.cell? ⟨p, 3, none⟩ = some (.int .i64 (n : Int)) := by rw [cell_of_row w p 3 _ _ _ h]; rfl
theorem Rdr.c4 (h : Rdr w p b g cap len i n d) : w.cell? ⟨p, 4, none⟩ = some (.int .i64 (d : Int)) := by rw [cell_of_row w p 4 _ _ _ h]; rfl
theorem Rdr.fr (h : Rdr w p b g cap len i n d) (j : Nat) : w.frozen? ⟨p, j, none⟩ = false := frozen_of_row w p j _ _ h
theorem Rdr.lt (h : Rdr w p b g cap len i n d) : p < w.heap.size := lt_of_block h
theorem Rdr.s2 (h : Rdr w p b g cap len i n d) (x : Nat) : Rdr (w.setCell ⟨p, 2, none⟩ (.int .i64 (x : Int))) p b g cap len x n d := heap_setCell_same w p 2 _ _ _ h
theorem Rdr.s3 (h : Rdr w p b g cap len i n d) (x : Nat) : Rdr (w.setCell ⟨p, 3, none⟩ (.int .i64 (x : Int))) p b g cap len i x d := heap_setCell_same w p 3 _ _ _ h
theorem Rdr.s4 (h : Rdr w p b g cap len i n d) (x : Nat) : Rdr (w.setCell ⟨p, 4, none⟩ (.int .i64 (x : Int))) p b g cap len i n x := heap_setCell_same w p 4 _ _ _ h
theorem Rdr.keep (h : Rdr w p b g cap len i n d) (hk : w'.heap[p]? = w.heap[p]?) : Rdr w' p b g cap len i n d := hk.trans h
theorem Rdr.later (h : Rdr w p b g cap len i n d) (hb : Below w.heap.size w w') : Rdr w' p b g cap len i n d := (hb.block p h.lt).trans h
end
/-- Only block p may have turned. -/
abbrev KpP (p : Nat) (w w' : World) : Prop := Kp (fun k => k = p) w w'
theorem KpP.trans {p : Nat} {a b c : World} (h : KpP p a b) (k : KpP p b c) : KpP p a c := Kp.trans h k fun _ e => Or.inl e
theorem KpP.of_below {p : Nat} {a b : World} (h : Below a.heap.size a b) : KpP p a b := Kp.of_below h
theorem KpP.set {p : Nat} {a b : World} (h : KpP p a b) (j : Nat) (x : Value) : KpP p a (b.setCell ⟨p, j, none⟩ x) :=
  ⟨h.os, h.tape, h.output, by simpa using h.size, fun k hk hn => (Below.heap_setCell _ _ _ _ hn).trans (h.block k hk hn)⟩
/-- A variable of one cell at block g. -/
def Box (w : World) (g : Nat) (x : Value) (ty : TypeId) : Prop := w.heap[g]? = some (.cells #[x] ty (0, 0))
theorem Box.c0 {w : World} {g : Nat} {x : Value} {ty : TypeId} (h : Box w g x ty) : w.cell? ⟨g, 0, none⟩ = some x := by rw [cell_of_row w g 0 _ _ _ h]; rfl
theorem Box.lt {w : World} {g : Nat} {x : Value} {ty : TypeId} (h : Box w g x ty) : g < w.heap.size := lt_of_block h
theorem Box.fr {w : World} {g : Nat} {x : Value} {ty : TypeId} (h : Box w g x ty) (j : Nat) : w.frozen? ⟨g, j, none⟩ = false := frozen_of_row w g j _ _ h
/-- Blocks of the closures' variables: of their types, one cell. -/
def IsBox (w : World) (g : Nat) : Prop := ∃ x ty, Box w g x ty ∧ (ty = 68 ∨ ty = 9 ∨ ty = 113 ∨ ty = 156)
def howV (p b : Nat) (k : Int) : Value :=
  if k = 3 then .func (.func 115) #[ptrV b] #[] else if k = 4 then .func (.func 136) #[ptrV b] #[] else if k = 5 then .func (.func 111) #[ptrV b] #[] else .func (.func 89) #[ptrV p] #[]
/-- The value c is the closure that puts a tree. -/
def Pts (w : World) (p b : Nat) : T → Value → Prop
  | .bot, c => ∃ g, c = .func (.func 153) #[] #[ptrV g] ∧ Box w g (ptrV p) 68
  | .top, c => ∃ g, c = .func (.func 154) #[] #[ptrV g] ∧ Box w g (ptrV p) 68
  | .atom s, c => ∃ g g2, c = .func (.func 155) #[] #[ptrV g, ptrV g2] ∧ Box w g (ptrV p) 68 ∧ Box w g2 (.string s) 9
  | .neg a, c => ∃ g g2 ca, c = .func (.func 147) #[] #[ptrV g, ptrV g2] ∧ Box w g (ptrV p) 68 ∧ Box w g2 ca 113 ∧ Pts w p b a ca
  | .bin k a a2, c => ∃ g g2 g3 ca ca2, c = .func (.func 113) #[] #[ptrV g, ptrV g2, ptrV g3] ∧ Box w g ca 113 ∧ Box w g2 ca2 113 ∧ Box w g3 (howV p b k) 156 ∧ Pts w p b a ca ∧ Pts w p b a2 ca2
  | .iff a a2, c => ∃ g g2 g3 ca ca2, c = .func (.func 113) #[] #[ptrV g, ptrV g2, ptrV g3] ∧ Box w g ca 113 ∧ Box w g2 ca2 113 ∧ Box w g3 (howV p b 0) 156 ∧ Pts w p b a ca ∧ Pts w p b a2 ca2
theorem Pts.keep {w w' : World} {p b : Nat} (hk : ∀ g, IsBox w g → w'.heap[g]? = w.heap[g]?) : ∀ {a : T} {c : Value}, Pts w p b a c → Pts w' p b a c
  | .bot, _, ⟨g, h, b1⟩ => ⟨g, h, (hk g ⟨_, _, b1, Or.inl rfl⟩).trans b1⟩
  | .top, _, ⟨g, h, b1⟩ => ⟨g, h, (hk g ⟨_, _, b1, Or.inl rfl⟩).trans b1⟩
  | .atom _, _, ⟨g, g2, h, b1, b2⟩ => ⟨g, g2, h, (hk g ⟨_, _, b1, Or.inl rfl⟩).trans b1, (hk g2 ⟨_, _, b2, Or.inr (Or.inl rfl)⟩).trans b2⟩
  | .neg _, _, ⟨g, g2, ca, h, b1, b2, r⟩ => ⟨g, g2, ca, h, (hk g ⟨_, _, b1, Or.inl rfl⟩).trans b1, (hk g2 ⟨_, _, b2, Or.inr (Or.inr (Or.inl rfl))⟩).trans b2, Pts.keep hk r⟩
  | .bin _ _ _, _, ⟨g, g2, g3, ca, ca2, h, b1, b2, b3, r1, r2⟩ => ⟨g, g2, g3, ca, ca2, h, (hk g ⟨_, _, b1, Or.inr (Or.inr (Or.inl rfl))⟩).trans b1, (hk g2 ⟨_, _, b2, Or.inr (Or.inr (Or.inl rfl))⟩).trans b2, (hk g3 ⟨_, _, b3, Or.inr (Or.inr (Or.inr rfl))⟩).trans b3, Pts.keep hk r1, Pts.keep hk r2⟩
  | .iff _ _, _, ⟨g, g2, g3, ca, ca2, h, b1, b2, b3, r1, r2⟩ => ⟨g, g2, g3, ca, ca2, h, (hk g ⟨_, _, b1, Or.inr (Or.inr (Or.inl rfl))⟩).trans b1, (hk g2 ⟨_, _, b2, Or.inr (Or.inr (Or.inl rfl))⟩).trans b2, (hk g3 ⟨_, _, b3, Or.inr (Or.inr (Or.inr rfl))⟩).trans b3, Pts.keep hk r1, Pts.keep hk r2⟩
theorem IsBox.lt {w : World} {g : Nat} (h : IsBox w g) : g < w.heap.size := by obtain ⟨x, ty, hb, _⟩ := h; exact hb.lt
theorem IsBox.ne {w : World} {g k : Nat} (h : IsBox w g) {cs : Array Value} {ty : TypeId} {fr : Nat × Nat} (hk : w.heap[k]? = some (.cells cs ty fr)) (hty : ty ≠ 68 ∧ ty ≠ 9 ∧ ty ≠ 113 ∧ ty ≠ 156) : g ≠ k := by
  obtain ⟨x, t2, hb, hh⟩ := h
  rintro rfl
  unfold Box at hb
  rw [hb] at hk
  simp only [Option.some.injEq, Obj.cells.injEq] at hk
  obtain ⟨_, rfl, _⟩ := hk
  rcases hh with rfl | rfl | rfl | rfl
  · exact hty.1 rfl
  · exact hty.2.1 rfl
  · exact hty.2.2.1 rfl
  · exact hty.2.2.2 rfl
theorem Pts.later {w w' : World} {p b : Nat} {a : T} {c : Value} (h : Pts w p b a c) (hb : Below w.heap.size w w') : Pts w' p b a c := Pts.keep (fun _ hg => hb.block _ hg.lt) h
theorem Pts.kpP {w w' : World} {p b b2 g cap len i n d : Nat} {a : T} {c : Value} (h : Pts w p b a c) (hr : Rdr w p b2 g cap len i n d) (hk : KpP p w w') : Pts w' p b a c :=
  Pts.keep (fun _ hg => hk.block _ hg.lt (hg.ne hr (by decide))) h
theorem IsBox.ft {w : World} {g b m : Nat} {v : Value} {t : List Nd} (h : IsBox w g) (hT : Tb w b m v t) : ¬ Ft b m v g := by
  rintro (rfl | rfl | e)
  · exact h.ne hT.tab (by decide) rfl
  · obtain ⟨x, ty, hb, _⟩ := h
    obtain ⟨D, ⟨es, cl, hm, _⟩, _⟩ := hT.map
    unfold Box at hb
    rw [hb] at hm
    cases hm
  · obtain ⟨_, cur, hh⟩ := hT.row.lt g e
    exact h.ne hh (by decide) rfl
theorem Pts.after {w w' : World} {p b m : Nat} {v : Value} {t : List Nd} {a : T} {c : Value} (h : Pts w p b a c) (hT : Tb w b m v t) (hk : Kp (Ft b m v) w w') : Pts w' p b a c :=
  Pts.keep (fun _ hg => hk.block _ hg.lt (hg.ft hT)) h
theorem Rdr.ft {w : World} {p b0 b m g cap len i n d : Nat} {v : Value} {t : List Nd} (h : Rdr w p b0 g cap len i n d) (hT : Tb w b m v t) : ¬ Ft b m v p := by
  unfold Rdr at h
  rintro (rfl | rfl | e)
  · rw [hT.tab] at h
    simp at h
  · obtain ⟨D, ⟨es, cl, hm, _⟩, _⟩ := hT.map
    rw [h] at hm
    cases hm
  · obtain ⟨_, cur, hh⟩ := hT.row.lt p e
    rw [h] at hh
    simp at hh
theorem Rdr.after {w w' : World} {p b0 b m g cap len i n d : Nat} {v : Value} {t : List Nd} (h : Rdr w p b0 g cap len i n d) (hT : Tb w b m v t) (hk : Kp (Ft b m v) w w') : Rdr w' p b0 g cap len i n d := (hk.block _ h.lt (h.ft hT)).trans h
/-- What is panicked with. -/
def fltV (e : Int) (t : Tn) : Value := .iface 31 (.agg #[.int .i64 e, .int .i64 t.l, .int .i64 t.c, .int .i64 t.o])
def fltP (e : Int) (t : Tn) : Ending := .panicked [{ v := fltV e t, recovered := false }]
end Go.Proofs.YtcidldgenogdkaaGreatDoor
