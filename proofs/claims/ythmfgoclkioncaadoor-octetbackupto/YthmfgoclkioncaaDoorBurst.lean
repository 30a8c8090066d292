/-
  The check sum tells a burst: of two rows of bytes that both bear their sum at the end, and that part in some of up to 32 neighbouring bits alone, there are none. Nothing of the program is named here. No condition.
-/
import Derived.Test.YthmfgoclkioncaaDoorPure
namespace Go.Proofs.YthmfgoclkioncaaDoor.Oct

theorem half_xor (a b : Nat) : (a ^^^ b) / 2 = a / 2 ^^^ b / 2 := by
  apply Nat.eq_of_testBit_eq
  intro i
  simp [Nat.testBit_div_two, Nat.testBit_xor]
theorem odd_xor (a b : Nat) : (a ^^^ b) % 2 = (a % 2 + b % 2) % 2 := by
  have h := Nat.testBit_xor a b 0
  simp only [Nat.testBit_zero] at h
  rcases Nat.mod_two_eq_zero_or_one a with ha | ha <;> rcases Nat.mod_two_eq_zero_or_one b with hb | hb <;> rcases Nat.mod_two_eq_zero_or_one (a ^^^ b) with hc | hc <;> simp_all
theorem step_xor (a b : Nat) : step (a ^^^ b) = step a ^^^ step b := by
  unfold step
  rw [half_xor, odd_xor]
  rcases Nat.mod_two_eq_zero_or_one a with ha | ha <;> rcases Nat.mod_two_eq_zero_or_one b with hb | hb <;> simp only [ha, hb] <;> apply Nat.eq_of_testBit_eq <;> intro i <;> simp [Nat.testBit_xor] <;> cases (a / 2).testBit i <;> cases (b / 2).testBit i <;> cases (2197175160 : Nat).testBit i <;> rfl
theorem steps_xor (a b : Nat) : ∀ n, steps n (a ^^^ b) = steps n a ^^^ steps n b
  | 0 => rfl
  | n + 1 => by simp only [steps]; rw [steps_xor a b n, step_xor]
theorem steps_zero : ∀ n, steps n 0 = 0
  | 0 => rfl
  | n + 1 => by simp only [steps]; rw [steps_zero n]; rfl
theorem xor_zero_eq {a b : Nat} (h : a ^^^ b = 0) : a = b := by
  have : a ^^^ b ^^^ b = 0 ^^^ b := by rw [h]
  simpa [Nat.xor_assoc] using this
theorem step_inj {s : Nat} (h : s < 4294967296) (h0 : step s = 0) : s = 0 := by
  unfold step at h0
  split at h0
  · have := xor_zero_eq h0; omega
  · omega
theorem steps_inj {s : Nat} (h : s < 4294967296) : ∀ n, steps n s = 0 → s = 0
  | 0, h0 => h0
  | n + 1, h0 => steps_inj h n (step_inj (steps_lt h n) h0)
theorem steps_add (s : Nat) (m : Nat) : ∀ n, steps (m + n) s = steps n (steps m s)
  | 0 => rfl
  | n + 1 => by show step (steps (m + n) s) = step (steps n (steps m s)); rw [steps_add s m n]
theorem step_double (y : Nat) : step (2 * y) = y := by
  unfold step
  rw [if_neg (by omega)]
  omega
theorem steps_pow (x : Nat) : ∀ n, steps n (x * 2 ^ n) = x
  | 0 => by simp [steps]
  | n + 1 => by
    have e : x * 2 ^ (n + 1) = (2 * x) * 2 ^ n := by rw [Nat.pow_succ, Nat.mul_comm 2 x, Nat.mul_assoc, Nat.mul_comm 2 (2 ^ n)]
    simp only [steps]
    rw [e, steps_pow (2 * x) n, step_double]

/-- The register, bit by bit. -/
def serial (f : Nat → Bool) (s : Nat) : Nat → Nat
  | 0 => s
  | n + 1 => step (serial f s n ^^^ (f n).toNat)
def low (f : Nat → Bool) : Nat → Nat
  | 0 => 0
  | n + 1 => low f n ^^^ (f n).toNat * 2 ^ n
theorem serial_low (f : Nat → Bool) (s : Nat) : ∀ n, serial f s n = steps n (s ^^^ low f n)
  | 0 => by simp [serial, steps, low]
  | n + 1 => by
    simp only [serial, steps, low]
    rw [serial_low f s n, ← Nat.xor_assoc, steps_xor (s ^^^ low f n) _ n, steps_pow]
theorem serial_add (f : Nat → Bool) (s m : Nat) : ∀ n, serial f s (m + n) = serial (fun i => f (m + i)) (serial f s m) n
  | 0 => rfl
  | n + 1 => by show step (serial f s (m + n) ^^^ _) = step (serial _ _ n ^^^ _); rw [serial_add f s m n]; rfl
theorem serial_diff (f g : Nat → Bool) (s : Nat) : ∀ n, serial f s n ^^^ serial g s n = serial (fun i => f i ^^ g i) 0 n
  | 0 => by simp [serial]
  | n + 1 => by
    simp only [serial]
    rw [← step_xor, ← serial_diff f g s n]
    congr 1
    apply Nat.eq_of_testBit_eq
    intro i
    simp only [Nat.testBit_xor]
    cases (serial f s n).testBit i <;> cases (serial g s n).testBit i <;> cases f n <;> cases g n <;> simp
theorem serial_none (s : Nat) : ∀ n, serial (fun _ => false) s n = steps n s
  | 0 => rfl
  | n + 1 => by simp only [serial, steps]; rw [serial_none s n]; simp
theorem serial_congr {f g : Nat → Bool} (s : Nat) : ∀ n, (∀ i, i < n → f i = g i) → serial f s n = serial g s n
  | 0, _ => rfl
  | n + 1, h => by
    simp only [serial]
    rw [serial_congr s n (fun i hi => h i (by omega)), h n (by omega)]
theorem low_lt (f : Nat → Bool) : ∀ n, low f n < 2 ^ n
  | 0 => by simp [low]
  | n + 1 => by
    simp only [low]
    have h1 := low_lt f n
    have h2 : 2 ^ n < 2 ^ (n + 1) := by rw [Nat.pow_succ]; have := Nat.two_pow_pos n; omega
    refine Nat.xor_lt_two_pow (by omega) ?_
    cases f n
    · simp; exact Nat.two_pow_pos _
    · simpa using h2
theorem low_bit (f : Nat → Bool) : ∀ n i, (low f n).testBit i = (decide (i < n) && f i)
  | 0, i => by simp [low]
  | n + 1, i => by
    simp only [low, Nat.testBit_xor, low_bit f n i]
    have e : ((f n).toNat * 2 ^ n).testBit i = (decide (i = n) && f n) := by
      rw [Nat.testBit_mul_two_pow]
      by_cases hin : i = n
      · subst hin; cases f i <;> simp
      · by_cases hlt : n ≤ i
        · have : i - n ≠ 0 := by omega
          cases hf : f n
          · simp
          · simp [hin]
            intro _
            have : (1 : Nat).testBit (i - n) = false := by
              exact Nat.testBit_lt_two_pow (Nat.one_lt_two_pow (by omega))
            simpa using this
        · simp [hin, hlt]
    rw [e]
    by_cases hin : i = n
    · subst hin; simp
    · by_cases hlt : i < n
      · simp [hin, hlt, show i < n + 1 by omega]
      · simp [hin, hlt, show ¬ i < n + 1 by omega]

/-- A burst of up to 32 bits from k on does not leave the register at nought. -/
theorem burst_bits (e : Nat → Bool) (N k : Nat) (hk : ∀ i, i < N → e i = true → k ≤ i ∧ i < k + 32) (i : Nat) (hi : i < N) (he : e i = true) : serial e 0 N ≠ 0 := by
  have hb := hk i hi he
  have h0 : serial e 0 k = 0 := by
    rw [serial_congr (g := fun _ => false) 0 k (fun j hj => by
      cases hej : e j with
      | false => rfl
      | true => have := hk j (by omega) hej; omega), serial_none, steps_zero]
  by_cases hN : N ≤ k + 32
  · obtain ⟨n, rfl⟩ : ∃ n, N = k + n := ⟨N - k, by omega⟩
    rw [serial_add, h0, serial_low, Nat.zero_xor]
    intro hz
    have hl := low_lt (fun i => e (k + i)) n
    have h32 : (2 : Nat) ^ n ≤ 2 ^ 32 := Nat.pow_le_pow_right (by omega) (by omega)
    have := steps_inj (by omega) n hz
    have hbit := low_bit (fun i => e (k + i)) n (i - k)
    rw [this, show k + (i - k) = i by omega, he] at hbit
    simp at hbit
    omega
  · obtain ⟨r, rfl⟩ : ∃ r, N = k + 32 + r := ⟨N - k - 32, by omega⟩
    rw [serial_add, serial_add, h0, serial_congr (g := fun _ => false) _ r (fun j hj => by
      cases hej : e (k + 32 + j) with
      | false => rfl
      | true => have := hk _ (by omega) hej; omega), serial_none, serial_low, Nat.zero_xor]
    intro hz
    have hl := low_lt (fun i => e (k + i)) 32
    rw [← steps_add] at hz
    have := steps_inj (by omega) _ hz
    have hbit := low_bit (fun i => e (k + i)) 32 (i - k)
    rw [this, show k + (i - k) = i by omega, he] at hbit
    simp at hbit
    omega

/-- The bits of a row of bytes. -/
def bit (l : List UInt8) (i : Nat) : Bool := (l.getD (i / 8) 0).toNat.testBit (i % 8)
theorem low_byte (c : UInt8) : low (fun i => c.toNat.testBit i) 8 = c.toNat := by
  apply Nat.eq_of_testBit_eq
  intro i
  rw [low_bit]
  by_cases h : i < 8
  · simp [h]
  · have := Nat.testBit_lt_two_pow (x := c.toNat) (i := i) (Nat.lt_of_lt_of_le c.toNat_lt (Nat.pow_le_pow_right (by omega) (by omega)))
    simp [h, this]
theorem byte_serial (s : Nat) (c : UInt8) : byte s c.toNat = serial (fun i => c.toNat.testBit i) s 8 := by
  rw [serial_low, low_byte]; rfl
theorem crc_serial (s : Nat) : ∀ l : List UInt8, crc s l = serial (bit l) s (8 * l.length) := by
  intro l
  generalize hn : l.length = n
  induction n generalizing l with
  | zero =>
    obtain rfl : l = [] := List.eq_nil_of_length_eq_zero hn
    rfl
  | succ n ih =>
    have hne : l ≠ [] := by intro h; simp [h] at hn
    obtain ⟨r, c, rfl⟩ : ∃ r c, l = r ++ [c] := ⟨l.dropLast, l.getLast hne, (List.dropLast_concat_getLast hne).symm⟩
    have hr : r.length = n := by simpa using hn
    rw [crc_snoc, ih r hr, byte_serial, show 8 * (n + 1) = 8 * n + 8 by omega, serial_add]
    rw [serial_congr (f := bit (r ++ [c])) (g := bit r) s (8 * n) (fun i hi => by
      unfold bit
      rw [List.getD, List.getD, List.getElem?_append_left (by omega)])]
    refine serial_congr _ 8 (fun i hi => ?_)
    unfold bit
    rw [show (8 * n + i) / 8 = n by omega, show (8 * n + i) % 8 = i by omega, List.getD, List.getElem?_append_right (by omega)]
    simp [hr]

/-- The four bytes of a number, the lowest first. -/
def le4 (x : Nat) : List UInt8 := [UInt8.ofNat x, UInt8.ofNat (x / 256), UInt8.ofNat (x / 65536), UInt8.ofNat (x / 16777216)]
def sealed (l : List UInt8) : List UInt8 := l ++ le4 (sum l)
theorem crc_four (a : Nat) (c0 c1 c2 c3 : Nat) : byte (byte (byte (byte a c0) c1) c2) c3 = steps 32 (a ^^^ (c0 ^^^ c1 * 2 ^ 8 ^^^ c2 * 2 ^ 16 ^^^ c3 * 2 ^ 24)) := by
  have e1 := steps_pow c1 8
  have e2 := steps_pow c2 16
  have e3 := steps_pow c3 24
  have q2 : steps 16 (a ^^^ c0 ^^^ c1 * 2 ^ 8) = byte (byte a c0) c1 := by
    rw [show (16 : Nat) = 8 + 8 from rfl, steps_add, steps_xor (a ^^^ c0) (c1 * 2 ^ 8) 8, e1]; rfl
  have q3 : steps 24 (a ^^^ c0 ^^^ c1 * 2 ^ 8 ^^^ c2 * 2 ^ 16) = byte (byte (byte a c0) c1) c2 := by
    rw [show (24 : Nat) = 16 + 8 from rfl, steps_add, steps_xor _ (c2 * 2 ^ 16) 16, e2, q2]; rfl
  have q4 : steps 32 (a ^^^ c0 ^^^ c1 * 2 ^ 8 ^^^ c2 * 2 ^ 16 ^^^ c3 * 2 ^ 24) = byte (byte (byte (byte a c0) c1) c2) c3 := by
    rw [show (32 : Nat) = 24 + 8 from rfl, steps_add, steps_xor _ (c3 * 2 ^ 24) 24, e3, q3]; rfl
  rw [← q4]
  simp only [Nat.xor_assoc]
theorem four_bytes (x : Nat) (h : x < 4294967296) : x % 256 ^^^ x / 256 % 256 * 2 ^ 8 ^^^ x / 65536 % 256 * 2 ^ 16 ^^^ x / 16777216 % 256 * 2 ^ 24 = x := by
  apply Nat.eq_of_testBit_eq
  intro i
  rw [show (256 : Nat) = 2 ^ 8 from rfl, show (65536 : Nat) = 2 ^ 16 from rfl, show (16777216 : Nat) = 2 ^ 24 from rfl]
  simp only [Nat.testBit_xor, Nat.testBit_mul_two_pow, Nat.testBit_mod_two_pow, Nat.testBit_div_two_pow]
  by_cases h1 : i < 8
  · simp [h1, show ¬ 8 ≤ i by omega, show ¬ 16 ≤ i by omega, show ¬ 24 ≤ i by omega]
  · by_cases h2 : i < 16
    · simp [h1, show 8 ≤ i by omega, show i - 8 < 8 by omega, show ¬ 16 ≤ i by omega, show ¬ 24 ≤ i by omega, show i - 8 + 8 = i by omega]
    · by_cases h3 : i < 24
      · simp [h1, show 8 ≤ i by omega, show ¬ i - 8 < 8 by omega, show 16 ≤ i by omega, show i - 16 < 8 by omega, show ¬ 24 ≤ i by omega, show i - 16 + 16 = i by omega]
      · by_cases h4 : i < 32
        · simp [h1, show 8 ≤ i by omega, show ¬ i - 8 < 8 by omega, show 16 ≤ i by omega, show ¬ i - 16 < 8 by omega, show 24 ≤ i by omega, show i - 24 < 8 by omega, show i - 24 + 24 = i by omega]
        · have := Nat.testBit_lt_two_pow (x := x) (i := i) (Nat.lt_of_lt_of_le h (show 4294967296 ≤ 2 ^ i from Nat.pow_le_pow_right (n := 2) (i := 32) (j := i) (by omega) (by omega)))
          simp [h1, show ¬ i - 8 < 8 by omega, show ¬ i - 16 < 8 by omega, show ¬ i - 24 < 8 by omega, this]
theorem ofNat_toNat (n : Nat) : (UInt8.ofNat n).toNat = n % 256 := by simp
theorem not_xor (a : Nat) (h : a < 4294967296) : a ^^^ (4294967295 - a) = 4294967295 := by
  apply Nat.eq_of_testBit_eq
  intro i
  rw [Nat.testBit_xor, show (4294967295 : Nat) - a = 2 ^ 32 - (a + 1) by omega, Nat.testBit_two_pow_sub_succ h, show (4294967295 : Nat) = 2 ^ 32 - 1 from rfl, Nat.testBit_two_pow_sub_one]
  by_cases hi : i < 32
  · simp [hi]
  · have := Nat.testBit_lt_two_pow (x := a) (i := i) (Nat.lt_of_lt_of_le h (show 4294967296 ≤ 2 ^ i from Nat.pow_le_pow_right (n := 2) (i := 32) (j := i) (by omega) (by omega)))
    simp [hi, this]
/-- What bears its sum leaves the register at one number. -/
theorem crc_sealed (l : List UInt8) : crc 4294967295 (sealed l) = steps 32 4294967295 := by
  have ha := crc_lt l (s := 4294967295) (by omega)
  unfold sealed
  rw [crc_append]
  have : crc (crc 4294967295 l) (le4 (sum l)) = byte (byte (byte (byte (crc 4294967295 l) (sum l % 256)) (sum l / 256 % 256)) (sum l / 65536 % 256)) (sum l / 16777216 % 256) := by
    simp only [crc, le4, List.foldl_cons, List.foldl_nil, ofNat_toNat]
  rw [this, crc_four, four_bytes _ (sum_lt l)]
  congr 1
  unfold sum
  exact not_xor _ ha
theorem sealed_length (l : List UInt8) : (sealed l).length = l.length + 4 := by simp [sealed, le4]
/-- TWO SEALED ROWS OF ONE LENGTH DO NOT PART BY A BURST. -/
theorem no_burst (l r : List UInt8) (hl : l.length = r.length) (k : Nat) (hk : ∀ i, i < 8 * (r.length + 4) → bit (sealed l) i ≠ bit (sealed r) i → k ≤ i ∧ i < k + 32) : ∀ i, i < 8 * (r.length + 4) → bit (sealed l) i = bit (sealed r) i := by
  intro i hi
  by_cases h : bit (sealed l) i = bit (sealed r) i
  · exact h
  · exfalso
    have h1 := crc_serial 4294967295 (sealed l)
    have h2 := crc_serial 4294967295 (sealed r)
    rw [crc_sealed] at h1 h2
    rw [sealed_length] at h1 h2
    rw [hl] at h1
    have hd := serial_diff (bit (sealed l)) (bit (sealed r)) 4294967295 (8 * (r.length + 4))
    rw [← h1, ← h2, Nat.xor_self] at hd
    refine burst_bits (fun i => bit (sealed l) i ^^ bit (sealed r) i) (8 * (r.length + 4)) k (fun j hj he => hk j hj (by simpa using he)) i hi (by simpa using h) hd.symm
end Go.Proofs.YthmfgoclkioncaaDoor.Oct
