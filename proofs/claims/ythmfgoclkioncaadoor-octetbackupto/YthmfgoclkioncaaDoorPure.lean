/-
  What the layer octet reckons, as plain functions on numbers and lists of bytes; nothing of the program is named here. No condition.
-/
import Derived.WalkKit
namespace Go.Proofs.YthmfgoclkioncaaDoor.Oct

/-- One bit of the check sum's register. -/
def step (s : Nat) : Nat := if s % 2 = 1 then s / 2 ^^^ 2197175160 else s / 2
def steps : Nat → Nat → Nat
  | 0, s => s
  | n + 1, s => step (steps n s)
def byte (s c : Nat) : Nat := steps 8 (s ^^^ c)
def crc (s : Nat) (l : List UInt8) : Nat := l.foldl (fun s c => byte s c.toNat) s
def sum (l : List UInt8) : Nat := 4294967295 - crc 4294967295 l

theorem step_lt {s : Nat} (h : s < 4294967296) : step s < 4294967296 := by
  unfold step
  split
  · exact Nat.xor_lt_two_pow (n := 32) (by omega) (by omega)
  · omega
theorem steps_lt {s : Nat} (h : s < 4294967296) : ∀ n, steps n s < 4294967296
  | 0 => h
  | n + 1 => step_lt (steps_lt h n)
theorem xor_lt {s c : Nat} (h : s < 4294967296) (hc : c < 256) : s ^^^ c < 4294967296 := Nat.xor_lt_two_pow (n := 32) (by omega) (by omega)
theorem byte_lt {s c : Nat} (h : s < 4294967296) (hc : c < 256) : byte s c < 4294967296 := steps_lt (xor_lt h hc) 8
theorem crc_lt : ∀ (l : List UInt8) {s : Nat}, s < 4294967296 → crc s l < 4294967296
  | [], _, h => h
  | c :: l, s, h => crc_lt l (s := byte s c.toNat) (byte_lt h (by have := c.toNat_lt; omega))
theorem crc_append (s : Nat) (l r : List UInt8) : crc s (l ++ r) = crc (crc s l) r := List.foldl_append
theorem crc_snoc (s : Nat) (l : List UInt8) (c : UInt8) : crc s (l ++ [c]) = byte (crc s l) c.toNat := by rw [crc_append]; rfl
theorem sum_lt (l : List UInt8) : sum l < 4294967296 := by unfold sum; omega
theorem sum_known : sum [49, 50, 51, 52, 53, 54, 55, 56, 57] = 3808858755 := by decide +kernel

theorem take_snoc (l : List UInt8) (k : Nat) (h : k < l.length) : l.take (k + 1) = l.take k ++ [l[k]] := by
  rw [List.take_succ_eq_append_getElem h]


/-- A number by seven bits a byte, the lowest first. -/
def numF : Nat → Nat → List UInt8
  | 0, v => [UInt8.ofNat v]
  | f + 1, v => if v < 128 then [UInt8.ofNat v] else UInt8.ofNat (v % 128 + 128) :: numF f (v / 128)
def num (v : Nat) : List UInt8 := numF 10 v
theorem numF_last (f v : Nat) (h : v < 128) : numF f v = [UInt8.ofNat v] := by
  cases f with
  | zero => rfl
  | succ f => simp [numF, h]
theorem numF_more (f v : Nat) (h : 128 ≤ v) : numF (f + 1) v = UInt8.ofNat (v % 128 + 128) :: numF f (v / 128) := by
  simp [numF, show ¬ v < 128 by omega]
theorem numF_length (f v : Nat) : (numF f v).length ≤ f + 1 := by
  induction f generalizing v with
  | zero => simp [numF]
  | succ f ih =>
    unfold numF
    split
    · simp
    · simp; exact ih _
theorem num_length (v : Nat) : (num v).length ≤ 11 := numF_length 10 v

/-- The number with which a row of bytes begins, how many bytes it takes, the error's number. -/
def leadF (v i : Nat) : List UInt8 → Nat × Nat × Nat
  | [] => (0, 0, 10)
  | c :: r =>
    if i = 9 ∧ 1 < c.toNat then (0, 0, 11)
    else if 128 ≤ c.toNat then leadF (v + c.toNat % 128 * 2 ^ (7 * i)) (i + 1) r
    else if c.toNat = 0 ∧ 0 < i then (0, 0, 11)
    else (v + c.toNat % 128 * 2 ^ (7 * i), i + 1, 0)
def lead (l : List UInt8) : Nat × Nat × Nat := leadF 0 0 l
theorem or_add (v x k : Nat) (h : v < 2 ^ k) : v ||| x * 2 ^ k = v + x * 2 ^ k := by
  rw [Nat.or_comm, Nat.mul_comm, ← Nat.two_pow_add_eq_or_of_lt h, Nat.add_comm]
theorem drop_at (l : List UInt8) (k : Nat) (h : k < l.length) : l.drop k = l[k] :: l.drop (k + 1) := List.drop_eq_getElem_cons h
end Go.Proofs.YthmfgoclkioncaaDoor.Oct
