/-
  What the layer token reckons, as plain functions on lists of bytes; nothing of the program is named here. No condition.
-/
import Derived.WalkKit
import Derived.Laws.RangeAny
import Derived.Lib.Strings
set_option linter.unusedSimpArgs false
namespace Go.Proofs.YtcidldgenogdkaaGreatDoor.Tk

/-- The rune that bytes b make, where c tells which places go on a rune; and how many bytes it has. -/
def decF (b : Nat → Nat) (c : Nat → Bool) : Nat × Nat :=
  if b 0 < 0x80 then (b 0, 1)
  else if b 0 / 32 == 6 && c 1 then
    if (b 0 % 32) * 64 + b 1 % 64 ≥ 0x80 then ((b 0 % 32) * 64 + b 1 % 64, 2) else (65533, 1)
  else if b 0 / 16 == 14 && c 1 && c 2 then
    if (b 0 % 16) * 4096 + (b 1 % 64) * 64 + b 2 % 64 ≥ 0x800 && Utf8.valid (((b 0 % 16) * 4096 + (b 1 % 64) * 64 + b 2 % 64 : Nat) : Int) then ((b 0 % 16) * 4096 + (b 1 % 64) * 64 + b 2 % 64, 3) else (65533, 1)
  else if b 0 / 8 == 30 && c 1 && c 2 && c 3 then
    if (b 0 % 8) * 262144 + (b 1 % 64) * 4096 + (b 2 % 64) * 64 + b 3 % 64 ≥ 0x10000 && Utf8.valid (((b 0 % 8) * 262144 + (b 1 % 64) * 4096 + (b 2 % 64) * 64 + b 3 % 64 : Nat) : Int) then ((b 0 % 8) * 262144 + (b 1 % 64) * 4096 + (b 2 % 64) * 64 + b 3 % 64, 4) else (65533, 1)
  else (65533, 1)
def byt (l : List UInt8) (k : Nat) : Nat := (l.getD k 0).toNat
def con (l : List UInt8) (k : Nat) : Bool := decide (k < l.length) && byt l k / 64 == 2
/-- The rune with which a row of bytes begins, and how many bytes it has (as the model decodes it). -/
def dec (l : List UInt8) : Nat × Nat := decF (byt l) (con l)
theorem decF_congr (b b' : Nat → Nat) (c c' : Nat → Bool) (h0 : b 0 = b' 0) (h1 : c 1 = c' 1) (e1 : c 1 = true → b 1 = b' 1) (h2 : c 1 = true → c 2 = c' 2) (e2 : c 1 = true → c 2 = true → b 2 = b' 2)
    (h3 : c 1 = true → c 2 = true → c 3 = c' 3) (e3 : c 1 = true → c 2 = true → c 3 = true → b 3 = b' 3) : decF b c = decF b' c' := by
  unfold decF
  rw [← h0, ← h1]
  cases hc1 : c 1 with
  | false => simp
  | true =>
    rw [← e1 hc1, ← h2 hc1]
    cases hc2 : c 2 with
    | false => simp
    | true =>
      rw [← e2 hc1 hc2, ← h3 hc1 hc2]
      cases hc3 : c 3 with
      | false => simp
      | true => rw [← e3 hc1 hc2 hc3]
theorem get_drop (s : ByteArray) (i k : Nat) : s.get! (i + k) = (s.data.toList.drop i).getD k 0 := by
  cases s with | mk a =>
  show a[i + k]! = _
  simp [List.getD, getElem!_def, List.getElem?_drop]
  cases a[i + k]? <;> rfl
theorem decode_eq (s : ByteArray) (i : Nat) (hi : i ≤ s.size) : Utf8.decode s i = dec (s.data.toList.drop i) := by
  have hs : s.data.toList.length = s.size := rfl
  have hl : ∀ k, (i + k < s.size) = (k < (s.data.toList.drop i).length) := fun k => by
    rw [List.length_drop, hs]; apply propext; omega
  have hb : ∀ k, (s.get! (i + k)).toNat = byt (s.data.toList.drop i) k := fun k => by rw [get_drop]; rfl
  have hc : ∀ k, (decide (i + k < s.size) && byt (s.data.toList.drop i) k / 64 == 2) = con (s.data.toList.drop i) k := fun k => by
    unfold con
    congr 1
    exact decide_eq_decide.2 (by rw [hl k])
  unfold Utf8.decode dec decF
  simp only [hb, hc, Utf8.runeError]
theorem dec_pos (l : List UInt8) : 1 ≤ (dec l).2 := by
  simp only [dec, decF]
  repeat' split
  all_goals simp
theorem dec_le4 (l : List UInt8) : (dec l).2 ≤ 4 := by
  simp only [dec, decF]
  repeat' split
  all_goals simp
theorem dec_ascii (l : List UInt8) (c : UInt8) (h : l[0]? = some c) (hc : c.toNat < 128) : dec l = (c.toNat, 1) := by
  simp [dec, decF, byt, List.getD, h, hc]
theorem con_lt {l : List UInt8} {k : Nat} (h : con l k = true) : k < l.length := by
  simp only [con, Bool.and_eq_true, decide_eq_true_eq] at h
  exact h.1
theorem dec_le (l : List UInt8) (h : l ≠ []) : (dec l).2 ≤ l.length := by
  have h1 : 1 ≤ l.length := by cases l with | nil => exact absurd rfl h | cons a t => simp
  have h2 := @con_lt l 1
  have h3 := @con_lt l 2
  have h4 := @con_lt l 3
  simp only [dec, decF]
  repeat' split
  all_goals simp_all
  all_goals omega
theorem byt_take (l : List UInt8) (n k : Nat) (hk : k < n) : byt (l.take n) k = byt l k := by simp [byt, List.getD, List.getElem?_take, hk]
theorem con_take (l : List UInt8) (n k : Nat) (hk : k < n) : con (l.take n) k = con l k := by
  simp only [con, byt_take l n k hk, List.length_take]
  congr 1
  exact decide_eq_decide.2 (by omega)
theorem con_take_ge (l : List UInt8) (n k : Nat) (hk : n ≤ k) : con (l.take n) k = false := by
  cases h : con (l.take n) k with
  | false => rfl
  | true =>
    have := con_lt h
    rw [List.length_take] at this
    omega
/-- A row that is cut off where no byte goes on a rune begins with the same rune. -/
theorem dec_cut (l : List UInt8) (n : Nat) (hn : 1 ≤ n) (hc : con l n = false) : dec (l.take n) = dec l := by
  have step : ∀ k, 1 ≤ k → (∀ j, 1 ≤ j → j < k → con l j = true) → con l k = con (l.take n) k := fun k hk hj => by
    by_cases h : k < n
    · exact (con_take l n k h).symm
    · rw [con_take_ge l n k (by omega)]
      rcases Nat.lt_or_ge n k with h' | h'
      · have := hj n hn h'
        rw [hc] at this; cases this
      · obtain rfl : k = n := by omega
        exact hc
  have lt : ∀ k, con l k = true → (∀ j, 1 ≤ j → j < k → con l j = true) → k < n := fun k hk hj => by
    rcases Nat.lt_or_ge k n with h | h
    · exact h
    · rcases Nat.lt_or_ge n k with h' | h'
      · have := hj n hn h'
        rw [hc] at this; cases this
      · obtain rfl : k = n := by omega
        rw [hc] at hk; cases hk
  have J1 : ∀ j, 1 ≤ j → j < 1 → con l j = true := fun j h1 h2 => by omega
  have J2 : con l 1 = true → ∀ j, 1 ≤ j → j < 2 → con l j = true := fun h j h1 h2 => by
    obtain rfl : j = 1 := by omega
    exact h
  have J3 : con l 1 = true → con l 2 = true → ∀ j, 1 ≤ j → j < 3 → con l j = true := fun h h' j h1 h2 => by
    rcases (show j = 1 ∨ j = 2 by omega) with rfl | rfl
    · exact h
    · exact h'
  exact (decF_congr _ _ _ _ (byt_take l n 0 (by omega)).symm (step 1 (by omega) J1) (fun h => (byt_take l n 1 (lt 1 h J1)).symm) (fun h => step 2 (by omega) (J2 h)) (fun h h' => (byt_take l n 2 (lt 2 h' (J2 h))).symm)
    (fun h h' => step 3 (by omega) (J3 h h')) (fun h h' h'' => (byt_take l n 3 (lt 3 h'' (J3 h h'))).symm)).symm
/-- A row that is cut off behind its first rune begins with the same rune. -/
theorem dec_self (l : List UInt8) : dec (l.take (dec l).2) = dec l := by
  have hp := dec_pos l
  have h4 := dec_le4 l
  by_cases h1 : (dec l).2 = 1
  · rw [h1]
    have e0 := byt_take l 1 0 (by omega)
    have c1 := con_take_ge l 1 1 (by omega)
    revert h1
    unfold dec decF
    rw [e0, c1]
    simp only [Bool.and_false, Bool.false_and]
    repeat' split
    all_goals simp_all
  · generalize hw : (dec l).2 = n at *
    have e0 := byt_take l n 0 (by omega)
    have e1 := byt_take l n 1 (by omega)
    have c1 := con_take l n 1 (by omega)
    rcases (show n = 2 ∨ n = 3 ∨ n = 4 by omega) with rfl | rfl | rfl
    · have c2 := con_take_ge l 2 2 (by omega)
      have c3 := con_take_ge l 2 3 (by omega)
      revert hw
      unfold dec decF
      rw [e0, e1, c1, c2, c3]
      simp only [Bool.and_false, Bool.false_and]
      repeat' split
      all_goals simp_all
    · have e2 := byt_take l 3 2 (by omega)
      have c2 := con_take l 3 2 (by omega)
      have c3 := con_take_ge l 3 3 (by omega)
      revert hw
      unfold dec decF
      rw [e0, e1, e2, c1, c2, c3]
      simp only [Bool.and_false, Bool.false_and]
      repeat' split
      all_goals simp_all
    · have e2 := byt_take l 4 2 (by omega)
      have c2 := con_take l 4 2 (by omega)
      have e3 := byt_take l 4 3 (by omega)
      have c3 := con_take l 4 3 (by omega)
      unfold dec decF
      rw [e0, e1, e2, e3, c1, c2, c3]
end Go.Proofs.YtcidldgenogdkaaGreatDoor.Tk
