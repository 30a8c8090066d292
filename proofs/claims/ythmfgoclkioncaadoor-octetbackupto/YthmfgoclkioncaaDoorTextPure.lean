/-
  What UTF-8 is, byte by byte, and that it is what the library's decoder takes. Nothing of the program is walked here. No condition.
-/
import Derived.Test.YthmfgoclkioncaaDoorKit
import Derived.Lib.ValidU
namespace Go.Proofs.YthmfgoclkioncaaDoor

/-- The first byte tells how many follow, and the bounds of the next. -/
def follow (b : Nat) : Option (Nat × Nat × Nat) :=
  if b < 128 then some (0, 128, 191)
  else if 194 ≤ b ∧ b ≤ 223 then some (1, 128, 191)
  else if 224 ≤ b ∧ b ≤ 239 then some (2, if b = 224 then 160 else 128, if b = 237 then 159 else 191)
  else if 240 ≤ b ∧ b ≤ 244 then some (3, if b = 240 then 144 else 128, if b = 244 then 143 else 191)
  else none
/-- Do the bytes at k, k + 1, .. follow as they must? -/
def follows (l : List UInt8) (k : Nat) : Nat → Nat → Nat → Bool
  | 0, _, _ => true
  | n + 1, lo, hi => decide (k < l.length) && decide (lo ≤ (l.getD k 0).toNat) && decide ((l.getD k 0).toNat ≤ hi) && follows l (k + 1) n 128 191
def goodAt (l : List UInt8) (i : Nat) : Option Nat :=
  match follow (l.getD i 0).toNat with
  | none => none
  | some (n, lo, hi) => if follows l (i + 1) n lo hi then some (n + 1) else none
theorem get_mk (l : List UInt8) (i : Nat) : ((⟨l.toArray⟩ : ByteArray).get! i) = l.getD i 0 := by
  show l.toArray.getD i default = _
  simp [Array.getD_eq_getD_getElem?, List.getD]
  rfl
theorem size_mk (l : List UInt8) : (⟨l.toArray⟩ : ByteArray).size = l.length := by simp [ByteArray.size]
theorem get_drop (l : List UInt8) (i k : Nat) : (l.drop i).getD k 0 = l.getD (i + k) 0 := by simp [List.getD]
theorem cont_eq (n k b : Nat) (hb : b < 256) : (decide (k < n) && (b / 64 == 2)) = decide (k < n ∧ 128 ≤ b ∧ b ≤ 191) := by
  rw [Bool.eq_iff_iff]
  simp only [Bool.and_eq_true, decide_eq_true_eq, beq_iff_eq]
  omega
/-- The decoder on four bytes of a row of n. -/
def dec4 (n b0 b1 b2 b3 : Nat) : Nat × Nat :=
  if b0 < 128 then (b0, 1)
  else if b0 / 32 = 6 ∧ 1 < n ∧ 128 ≤ b1 ∧ b1 ≤ 191 then
    if 128 ≤ b0 % 32 * 64 + b1 % 64 then (b0 % 32 * 64 + b1 % 64, 2) else (65533, 1)
  else if b0 / 16 = 14 ∧ (1 < n ∧ 128 ≤ b1 ∧ b1 ≤ 191) ∧ (2 < n ∧ 128 ≤ b2 ∧ b2 ≤ 191) then
    if 2048 ≤ b0 % 16 * 4096 + b1 % 64 * 64 + b2 % 64 ∧ (b0 % 16 * 4096 + b1 % 64 * 64 + b2 % 64 < 55296 ∨ 57344 ≤ b0 % 16 * 4096 + b1 % 64 * 64 + b2 % 64) then (b0 % 16 * 4096 + b1 % 64 * 64 + b2 % 64, 3) else (65533, 1)
  else if b0 / 8 = 30 ∧ (1 < n ∧ 128 ≤ b1 ∧ b1 ≤ 191) ∧ (2 < n ∧ 128 ≤ b2 ∧ b2 ≤ 191) ∧ (3 < n ∧ 128 ≤ b3 ∧ b3 ≤ 191) then
    if 65536 ≤ b0 % 8 * 262144 + b1 % 64 * 4096 + b2 % 64 * 64 + b3 % 64 ∧ b0 % 8 * 262144 + b1 % 64 * 4096 + b2 % 64 * 64 + b3 % 64 ≤ 1114111 then (b0 % 8 * 262144 + b1 % 64 * 4096 + b2 % 64 * 64 + b3 % 64, 4) else (65533, 1)
  else (65533, 1)
theorem ite_iff {α : Type} {c : Prop} {b : Bool} [Decidable c] {x x' y y' : α} (h : b = decide c) (hx : c → x = x') (hy : ¬ c → y = y') : (if b = true then x else y) = if c then x' else y' := by
  subst h
  by_cases hc : c
  · rw [if_pos (by simpa using hc), if_pos hc, hx hc]
  · rw [if_neg (by simpa using hc), if_neg hc, hy hc]
theorem decode_is (l : List UInt8) (i : Nat) : Lib.decodeL (l.drop i) = dec4 (l.length - i) (l.getD i 0).toNat (l.getD (i + 1) 0).toNat (l.getD (i + 2) 0).toNat (l.getD (i + 3) 0).toNat := by
  have h1 := toNat_lt (l.getD (i + 1) 0)
  have h2 := toNat_lt (l.getD (i + 2) 0)
  have h3 := toNat_lt (l.getD (i + 3) 0)
  unfold Lib.decodeL Utf8.decode dec4
  simp only [get_mk, size_mk, get_drop, Nat.zero_add, List.length_drop, Nat.add_zero]
  generalize (l.getD i 0).toNat = b0
  generalize (l.getD (i + 1) 0).toNat = b1 at *
  generalize (l.getD (i + 2) 0).toNat = b2 at *
  generalize (l.getD (i + 3) 0).toNat = b3 at *
  generalize l.length - i = n
  rw [cont_eq n 1 b1 h1, cont_eq n 2 b2 h2, cont_eq n 3 b3 h3]
  by_cases c0 : b0 < 128
  · rw [if_pos c0, if_pos c0]
  · rw [if_neg c0, if_neg c0]
    refine ite_iff (by rw [Bool.eq_iff_iff]; simp) (fun _ => rfl) (fun _ => ?_)
    refine ite_iff (by rw [Bool.eq_iff_iff]; simp [and_assoc]) (fun _ => ?_) (fun _ => ?_)
    · refine ite_iff ?_ (fun _ => rfl) (fun _ => rfl)
      rw [Bool.eq_iff_iff]
      simp only [Utf8.valid, Bool.and_eq_true, Bool.or_eq_true, decide_eq_true_eq]
      omega
    · refine ite_iff (by rw [Bool.eq_iff_iff]; simp [and_assoc]) (fun _ => ?_) (fun _ => rfl)
      refine ite_iff ?_ (fun _ => rfl) (fun _ => rfl)
      rw [Bool.eq_iff_iff]
      simp only [Utf8.valid, Bool.and_eq_true, Bool.or_eq_true, decide_eq_true_eq]
      omega
theorem decode_good (l : List UInt8) (i : Nat) :
    (∀ w, goodAt l i = some w → (Lib.decodeL (l.drop i)).2 = w ∧ ¬ ((Lib.decodeL (l.drop i)).1 = 65533 ∧ (Lib.decodeL (l.drop i)).2 = 1)) ∧ (goodAt l i = none → (Lib.decodeL (l.drop i)).1 = 65533 ∧ (Lib.decodeL (l.drop i)).2 = 1) := by
  have h0 := toNat_lt (l.getD i 0)
  have h1 := toNat_lt (l.getD (i + 1) 0)
  have h2 := toNat_lt (l.getD (i + 2) 0)
  have h3 := toNat_lt (l.getD (i + 3) 0)
  rw [decode_is]
  unfold goodAt
  have f1 : ∀ lo hi, follows l (i + 1) 1 lo hi = decide (i + 1 < l.length ∧ lo ≤ (l.getD (i + 1) 0).toNat ∧ (l.getD (i + 1) 0).toNat ≤ hi) := fun lo hi => by
    rw [Bool.eq_iff_iff]; simp [follows, and_assoc]
  have f2 : ∀ lo hi, follows l (i + 1) 2 lo hi = decide ((i + 1 < l.length ∧ lo ≤ (l.getD (i + 1) 0).toNat ∧ (l.getD (i + 1) 0).toNat ≤ hi) ∧ i + 2 < l.length ∧ 128 ≤ (l.getD (i + 2) 0).toNat ∧ (l.getD (i + 2) 0).toNat ≤ 191) := fun lo hi => by
    rw [Bool.eq_iff_iff]; simp [follows, and_assoc]
  have f3 : ∀ lo hi, follows l (i + 1) 3 lo hi = decide ((i + 1 < l.length ∧ lo ≤ (l.getD (i + 1) 0).toNat ∧ (l.getD (i + 1) 0).toNat ≤ hi) ∧ (i + 2 < l.length ∧ 128 ≤ (l.getD (i + 2) 0).toNat ∧ (l.getD (i + 2) 0).toNat ≤ 191) ∧ i + 3 < l.length ∧ 128 ≤ (l.getD (i + 3) 0).toNat ∧ (l.getD (i + 3) 0).toNat ≤ 191) := fun lo hi => by
    rw [Bool.eq_iff_iff]; simp [follows, and_assoc]
  generalize (l.getD i 0).toNat = b0 at *
  generalize (l.getD (i + 1) 0).toNat = b1 at *
  generalize (l.getD (i + 2) 0).toNat = b2 at *
  generalize (l.getD (i + 3) 0).toNat = b3 at *
  by_cases c0 : b0 < 128
  · simp only [follow, if_pos c0, follows, if_true, dec4]
    refine ⟨fun w hw => ?_, fun h => by cases h⟩
    have : w = 1 := by simpa using hw.symm
    subst this
    exact ⟨rfl, fun hh => by omega⟩
  · by_cases c2 : 194 ≤ b0 ∧ b0 ≤ 223
    · simp only [follow, if_neg c0, if_pos c2, f1]
      by_cases g : i + 1 < l.length ∧ 128 ≤ b1 ∧ b1 ≤ 191
      · rw [if_pos (by simpa using g), dec4, if_neg c0, if_pos (by omega), if_pos (by omega)]
        refine ⟨fun w hw => ?_, fun h => by cases h⟩
        have : w = 2 := by simpa using hw.symm
        subst this
        exact ⟨rfl, fun hh => by simp at hh⟩
      · rw [if_neg (by simpa using g), dec4, if_neg c0, if_neg (by omega), if_neg (by omega), if_neg (by omega)]
        exact ⟨fun w hw => (by cases hw), fun _ => ⟨rfl, rfl⟩⟩
    · by_cases c3 : 224 ≤ b0 ∧ b0 ≤ 239
      · simp only [follow, if_neg c0, if_neg c2, if_pos c3, f2]
        by_cases g : (i + 1 < l.length ∧ (if b0 = 224 then 160 else 128) ≤ b1 ∧ b1 ≤ (if b0 = 237 then 159 else 191)) ∧ i + 2 < l.length ∧ 128 ≤ b2 ∧ b2 ≤ 191
        · rw [if_pos (by simpa using g)]
          have g1 : 128 ≤ b1 ∧ b1 ≤ 191 ∧ (b0 = 224 → 160 ≤ b1) ∧ (b0 = 237 → b1 ≤ 159) := by
            obtain ⟨⟨_, ga, gb⟩, _⟩ := g
            refine ⟨?_, ?_, ?_, ?_⟩
            · split at ga <;> omega
            · split at gb <;> omega
            · intro e; rw [if_pos e] at ga; exact ga
            · intro e; rw [if_pos e] at gb; exact gb
          rw [dec4, if_neg c0, if_neg (by omega), if_pos (by omega), if_pos (by omega)]
          refine ⟨fun w hw => ?_, fun h => by cases h⟩
          have : w = 3 := by simpa using hw.symm
          subst this
          exact ⟨rfl, fun hh => by simp at hh⟩
        · rw [if_neg (by simpa using g)]
          refine ⟨fun w hw => (by cases hw), fun _ => ?_⟩
          rw [dec4, if_neg c0, if_neg (by omega)]
          by_cases gg : b0 / 16 = 14 ∧ (1 < l.length - i ∧ 128 ≤ b1 ∧ b1 ≤ 191) ∧ 2 < l.length - i ∧ 128 ≤ b2 ∧ b2 ≤ 191
          · rw [if_pos gg, if_neg]
            · exact ⟨rfl, rfl⟩
            · intro hv
              apply g
              refine ⟨⟨by omega, ?_, ?_⟩, by omega⟩
              · split <;> omega
              · split <;> omega
          · rw [if_neg gg, if_neg (by omega)]
            exact ⟨rfl, rfl⟩
      · by_cases c4 : 240 ≤ b0 ∧ b0 ≤ 244
        · simp only [follow, if_neg c0, if_neg c2, if_neg c3, if_pos c4, f3]
          by_cases g : (i + 1 < l.length ∧ (if b0 = 240 then 144 else 128) ≤ b1 ∧ b1 ≤ (if b0 = 244 then 143 else 191)) ∧ (i + 2 < l.length ∧ 128 ≤ b2 ∧ b2 ≤ 191) ∧ i + 3 < l.length ∧ 128 ≤ b3 ∧ b3 ≤ 191
          · rw [if_pos (by simpa using g)]
            have g1 : 128 ≤ b1 ∧ b1 ≤ 191 ∧ (b0 = 240 → 144 ≤ b1) ∧ (b0 = 244 → b1 ≤ 143) := by
              obtain ⟨⟨_, ga, gb⟩, _⟩ := g
              refine ⟨?_, ?_, ?_, ?_⟩
              · split at ga <;> omega
              · split at gb <;> omega
              · intro e; rw [if_pos e] at ga; exact ga
              · intro e; rw [if_pos e] at gb; exact gb
            rw [dec4, if_neg c0, if_neg (by omega), if_neg (by omega), if_pos (by omega), if_pos (by omega)]
            refine ⟨fun w hw => ?_, fun h => by cases h⟩
            have : w = 4 := by simpa using hw.symm
            subst this
            exact ⟨rfl, fun hh => by simp at hh⟩
          · rw [if_neg (by simpa using g)]
            refine ⟨fun w hw => (by cases hw), fun _ => ?_⟩
            rw [dec4, if_neg c0, if_neg (by omega), if_neg (by omega)]
            by_cases gg : b0 / 8 = 30 ∧ (1 < l.length - i ∧ 128 ≤ b1 ∧ b1 ≤ 191) ∧ (2 < l.length - i ∧ 128 ≤ b2 ∧ b2 ≤ 191) ∧ 3 < l.length - i ∧ 128 ≤ b3 ∧ b3 ≤ 191
            · rw [if_pos gg, if_neg]
              · exact ⟨rfl, rfl⟩
              · intro hv
                apply g
                refine ⟨⟨by omega, ?_, ?_⟩, by omega, by omega⟩
                · split <;> omega
                · split <;> omega
            · rw [if_neg gg]
              exact ⟨rfl, rfl⟩
        · simp only [follow, if_neg c0, if_neg c2, if_neg c3, if_neg c4]
          refine ⟨fun w hw => (by cases hw), fun _ => ?_⟩
          rw [dec4, if_neg c0]
          by_cases ga : b0 / 32 = 6 ∧ 1 < l.length - i ∧ 128 ≤ b1 ∧ b1 ≤ 191
          · rw [if_pos ga, if_neg (by omega)]
            exact ⟨rfl, rfl⟩
          · rw [if_neg ga, if_neg (by omega)]
            by_cases gb : b0 / 8 = 30 ∧ (1 < l.length - i ∧ 128 ≤ b1 ∧ b1 ≤ 191) ∧ (2 < l.length - i ∧ 128 ≤ b2 ∧ b2 ≤ 191) ∧ 3 < l.length - i ∧ 128 ≤ b3 ∧ b3 ≤ 191
            · rw [if_pos gb, if_neg (by omega)]
              exact ⟨rfl, rfl⟩
            · rw [if_neg gb]
              exact ⟨rfl, rfl⟩
theorem good_width (l : List UInt8) (i w : Nat) (h : goodAt l i = some w) : 1 ≤ w := by
  unfold goodAt at h
  split at h
  · cases h
  · split at h
    · have := Option.some.inj h; omega
    · cases h
theorem valid_fuel2 : ∀ (n m : Nat) (l : List UInt8), l.length ≤ n → l.length ≤ m → Lib.validGoD n l = Lib.validGoD m l
  | 0, m, l, h, _ => by
    obtain rfl : l = [] := List.eq_nil_of_length_eq_zero (by omega)
    cases m <;> simp [Lib.validGoD]
  | n + 1, 0, l, _, h => by
    obtain rfl : l = [] := List.eq_nil_of_length_eq_zero (by omega)
    simp [Lib.validGoD]
  | n + 1, m + 1, [], _, _ => by simp [Lib.validGoD]
  | n + 1, m + 1, c :: r, h, h' => by
    have hd := decode_good (c :: r) 0
    rw [List.drop_zero] at hd
    simp only [Lib.validGoD, if_neg (List.cons_ne_nil c r)]
    by_cases hb : (Lib.decodeL (c :: r)).1 = 65533 ∧ (Lib.decodeL (c :: r)).2 = 1
    · rw [if_pos hb, if_pos hb]
    · rw [if_neg hb, if_neg hb]
      have hw : 1 ≤ (Lib.decodeL (c :: r)).2 := by
        cases hg : goodAt (c :: r) 0 with
        | none => exact absurd (hd.2 hg) hb
        | some w => rw [(hd.1 w hg).1]; exact good_width _ _ _ hg
      exact valid_fuel2 n m _ (by simp at h ⊢; omega) (by simp at h' ⊢; omega)
theorem valid_fuel (n : Nat) (l : List UInt8) (h : l.length ≤ n) : Lib.validGoD n l = Lib.validGoD l.length l := valid_fuel2 n l.length l h (Nat.le_refl _)
theorem valid_end (l : List UInt8) (i : Nat) (h : l.length ≤ i) : Lib.validD (l.drop i) = true := by
  rw [List.drop_eq_nil_of_le h]; rfl
theorem valid_bad (l : List UInt8) (i : Nat) (h : i < l.length) (hg : goodAt l i = none) : Lib.validD (l.drop i) = false := by
  have hd := (decode_good l i).2 hg
  have hne : l.drop i ≠ [] := by simp; omega
  have hl : (l.drop i).length = l.length - i - 1 + 1 := by simp; omega
  rw [Lib.validD, hl, Lib.validGoD, if_neg hne, if_pos hd]
theorem valid_good (l : List UInt8) (i w : Nat) (h : i < l.length) (hg : goodAt l i = some w) : Lib.validD (l.drop i) = Lib.validD (l.drop (i + w)) := by
  have hd := (decode_good l i).1 w hg
  have hw := good_width l i w hg
  have hne : l.drop i ≠ [] := by simp; omega
  have hl : (l.drop i).length = l.length - i - 1 + 1 := by simp; omega
  rw [Lib.validD, hl, Lib.validGoD, if_neg hne, if_neg hd.2, hd.1, List.drop_drop]
  exact valid_fuel _ _ (by simp; omega)
theorem good_some (l : List UInt8) (i n lo hi : Nat) (h : follow (l.getD i 0).toNat = some (n, lo, hi)) (hf : follows l (i + 1) n lo hi = true) : goodAt l i = some (n + 1) := by
  simp only [goodAt, h, hf, if_true]
theorem good_none (l : List UInt8) (i n lo hi : Nat) (h : follow (l.getD i 0).toNat = some (n, lo, hi)) (hf : follows l (i + 1) n lo hi = false) : goodAt l i = none := by
  simp only [goodAt, h, hf]
  rfl
theorem good_none0 (l : List UInt8) (i : Nat) (h : follow (l.getD i 0).toNat = none) : goodAt l i = none := by simp only [goodAt, h]
theorem follows_step (l : List UInt8) (k n lo hi : Nat) (h : k < l.length) (h1 : lo ≤ (l.getD k 0).toNat) (h2 : (l.getD k 0).toNat ≤ hi) : follows l k (n + 1) lo hi = follows l (k + 1) n 128 191 := by
  simp only [follows, decide_eq_true h, decide_eq_true h1, decide_eq_true h2, Bool.true_and]
theorem follows_no (l : List UInt8) (k n lo hi : Nat) (h : ¬ (k < l.length ∧ lo ≤ (l.getD k 0).toNat ∧ (l.getD k 0).toNat ≤ hi)) : follows l k (n + 1) lo hi = false := by
  simp only [follows]
  by_cases a : k < l.length
  · by_cases b : lo ≤ (l.getD k 0).toNat
    · have c : ¬ (l.getD k 0).toNat ≤ hi := fun c => h ⟨a, b, c⟩
      simp only [decide_eq_false c, Bool.and_false, Bool.false_and]
    · simp only [decide_eq_false b, Bool.and_false, Bool.false_and]
  · simp only [decide_eq_false a, Bool.false_and]
end Go.Proofs.YthmfgoclkioncaaDoor
