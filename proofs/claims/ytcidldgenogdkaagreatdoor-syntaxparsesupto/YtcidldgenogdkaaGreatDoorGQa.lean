/-
  How many bytes a rune has, as the document tells it by ranges: it is what the model decodes. Plain; nothing of the program is named here. No condition.
-/
import Derived.Test.YtcidldgenogdkaaGreatDoorGTa
import Derived.Test.YtcidldgenogdkaaGreatDoorGTc
import Derived.Test.YtcidldgenogdkaaGreatDoorGTb
set_option linter.unusedSimpArgs false
namespace Go.Proofs.YtcidldgenogdkaaGreatDoor.Tk

/-- Is there a byte from lo to hi at a place? -/
def mor (l : List UInt8) (k lo hi : Nat) : Bool := decide (k < l.length) && (decide (lo ≤ byt l k) && decide (byt l k ≤ hi))
theorem mor_con (l : List UInt8) (k : Nat) : mor l k 128 191 = con l k := by
  unfold mor con
  congr 1
  have := (l.getD k 0).toNat_lt
  rw [Bool.eq_iff_iff]
  simp only [Bool.and_eq_true, decide_eq_true_eq, beq_iff_eq]
  omega
theorem mor_sub (l : List UInt8) (k lo hi : Nat) (h1 : 128 ≤ lo) (h2 : hi ≤ 191) : mor l k lo hi = (con l k && (decide (lo ≤ byt l k) && decide (byt l k ≤ hi))) := by
  rw [← mor_con]
  unfold mor
  rw [Bool.eq_iff_iff]
  simp only [Bool.and_eq_true, decide_eq_true_eq]
  omega
theorem valid_iff (r : Nat) : Utf8.valid (r : Int) = (decide (r < 55296) || (decide (57344 ≤ r) && decide (r ≤ 1114111))) := by
  unfold Utf8.valid
  rw [Bool.eq_iff_iff]
  simp only [Bool.and_eq_true, Bool.or_eq_true, decide_eq_true_eq]
  omega
theorem size_1 (l : List UInt8) (h : byt l 0 < 194 ∨ 244 < byt l 0) : (dec l).2 = 1 := by
  have h0 := (l.getD 0 0).toNat_lt
  have e0 : (l.getD 0 0).toNat = byt l 0 := rfl
  unfold dec decF
  simp only [valid_iff, Bool.and_eq_true, Bool.or_eq_true, decide_eq_true_eq, beq_iff_eq]
  repeat' split
  all_goals first | rfl | (exfalso; omega)
theorem size_2 (l : List UInt8) (h1 : 194 ≤ byt l 0) (h2 : byt l 0 ≤ 223) : (dec l).2 = if mor l 1 128 191 then 2 else 1 := by
  rw [mor_con]
  unfold dec decF
  cases hc : con l 1
  · simp only [Bool.and_false, Bool.false_and, Bool.false_eq_true, if_false]
    split <;> rfl
  · simp only [valid_iff, Bool.and_true, Bool.and_eq_true, Bool.or_eq_true, decide_eq_true_eq, beq_iff_eq, if_true]
    repeat' split
    all_goals first | rfl | (exfalso; omega)
theorem size_3 (l : List UInt8) (lo hi : Nat) (h : (byt l 0 = 224 ∧ lo = 160 ∧ hi = 191) ∨ (byt l 0 = 237 ∧ lo = 128 ∧ hi = 159) ∨ (225 ≤ byt l 0 ∧ byt l 0 ≤ 239 ∧ byt l 0 ≠ 237 ∧ lo = 128 ∧ hi = 191)) : (dec l).2 = if mor l 1 lo hi && mor l 2 128 191 then 3 else 1 := by
  have hb := (l.getD 1 0).toNat_lt
  have eb : (l.getD 1 0).toNat = byt l 1 := rfl
  have hx : con l 1 = true → 128 ≤ byt l 1 ∧ byt l 1 ≤ 191 := fun hc => by
    rw [← mor_con] at hc
    simp only [mor, Bool.and_eq_true, decide_eq_true_eq] at hc
    exact hc.2
  have hx2 : con l 2 = true → 128 ≤ byt l 2 ∧ byt l 2 ≤ 191 := fun hc => by
    rw [← mor_con] at hc
    simp only [mor, Bool.and_eq_true, decide_eq_true_eq] at hc
    exact hc.2
  rw [mor_con, mor_sub l 1 lo hi (by omega) (by omega)]
  unfold dec decF
  cases hc : con l 1
  · simp only [Bool.and_false, Bool.false_and, Bool.false_eq_true, if_false]
    split <;> rfl
  · have hx' := hx hc
    cases hc2 : con l 2
    · simp only [valid_iff, Bool.and_true, Bool.and_false, Bool.false_and, Bool.false_eq_true, if_false, Bool.and_eq_true, Bool.or_eq_true, decide_eq_true_eq, beq_iff_eq]
      repeat' split
      all_goals first | rfl | (exfalso; omega)
    · have hx2' := hx2 hc2
      simp only [valid_iff, Bool.and_true, Bool.true_and, Bool.and_eq_true, Bool.or_eq_true, decide_eq_true_eq, beq_iff_eq, ge_iff_le]
      repeat' split
      all_goals first | rfl | (exfalso; omega)
theorem size_4 (l : List UInt8) (lo hi : Nat) (h : (byt l 0 = 240 ∧ lo = 144 ∧ hi = 191) ∨ (byt l 0 = 244 ∧ lo = 128 ∧ hi = 143) ∨ (241 ≤ byt l 0 ∧ byt l 0 ≤ 243 ∧ lo = 128 ∧ hi = 191)) : (dec l).2 = if mor l 1 lo hi && mor l 2 128 191 && mor l 3 128 191 then 4 else 1 := by
  have hx : ∀ k, con l k = true → 128 ≤ byt l k ∧ byt l k ≤ 191 := fun k hc => by
    rw [← mor_con] at hc
    simp only [mor, Bool.and_eq_true, decide_eq_true_eq] at hc
    exact hc.2
  rw [mor_con, mor_con, mor_sub l 1 lo hi (by omega) (by omega)]
  unfold dec decF
  cases hc : con l 1
  · simp only [Bool.and_false, Bool.false_and, Bool.false_eq_true, if_false]
    split <;> rfl
  · have hx' := hx 1 hc
    cases hc2 : con l 2
    · simp only [valid_iff, Bool.and_true, Bool.and_false, Bool.false_and, Bool.false_eq_true, if_false, Bool.and_eq_true, Bool.or_eq_true, decide_eq_true_eq, beq_iff_eq]
      repeat' split
      all_goals first | rfl | (exfalso; omega)
    · have hx2' := hx 2 hc2
      cases hc3 : con l 3
      · simp only [valid_iff, Bool.and_true, Bool.and_false, Bool.false_and, Bool.false_eq_true, if_false, Bool.and_eq_true, Bool.or_eq_true, decide_eq_true_eq, beq_iff_eq, ge_iff_le]
        repeat' split
        all_goals first | rfl | (exfalso; omega)
      · have hx3' := hx 3 hc3
        simp only [valid_iff, Bool.and_true, Bool.true_and, Bool.and_eq_true, Bool.or_eq_true, decide_eq_true_eq, beq_iff_eq, ge_iff_le]
        repeat' split
        all_goals first | rfl | (exfalso; omega)
end Go.Proofs.YtcidldgenogdkaaGreatDoor.Tk
/-
  The document's calls more and size: how many bytes the rune at a place has: for every text and every place in it. No condition beyond the text's size.
-/
namespace Go.Proofs.YtcidldgenogdkaaGreatDoor.Tw
open Go.RowKit

theorem byt_drop (s : ByteArray) (i k : Nat) (h : i + k < s.size) : Tk.byt (s.data.toList.drop i) k = (s[i + k]).toNat := by
  have hsz : s.data.toList.length = s.size := rfl
  unfold Tk.byt
  rw [List.getD, List.getElem?_drop, List.getElem?_eq_getElem (by omega), bytes_at s (i + k) h]
  rfl
theorem mor_in (s : ByteArray) (i k lo hi : Nat) (h : i + k < s.size) : Tk.mor (s.data.toList.drop i) k lo hi = (decide (lo ≤ (s[i + k]).toNat) && decide ((s[i + k]).toNat ≤ hi)) := by
  have hsz : s.data.toList.length = s.size := rfl
  unfold Tk.mor
  rw [byt_drop s i k h, List.length_drop, hsz, decide_eq_true (by omega), Bool.true_and]
theorem mor_out (s : ByteArray) (i k lo hi : Nat) (h : s.size ≤ i + k) : Tk.mor (s.data.toList.drop i) k lo hi = false := by
  have hsz : s.data.toList.length = s.size := rfl
  unfold Tk.mor
  rw [List.length_drop, hsz, decide_eq_false (by omega), Bool.false_and]
set_option maxHeartbeats 1000000 in
theorem more_any (w : World) (s : ByteArray) (i k lo hi : Nat) (x y z : Int) (hx : x = (i : Int) + (k : Int)) (hy : y = (lo : Int)) (hz : z = (hi : Int)) :
    Calls Tryz.prog 137 #[.string s, .int .i64 x, .int .u8 y, .int .u8 z] w fun e w' => e = .returned (.bool (Tk.mor (s.data.toList.drop i) k lo hi)) ∧ w' = w := by
  rw [hx, hy, hz, show (i : Int) + (k : Int) = ((i + k : Nat) : Int) by omega]
  by_cases h : i + k < s.size
  · rw [mor_in s i k lo hi h]
    generalize i + k = j at *
    cases hb1 : decide (lo ≤ (s[j]).toNat) <;> cases hb2 : decide ((s[j]).toNat ≤ hi)
    all_goals
      go_enter Tryz.func137, Tryz.ntmps137
      go_wp2
      go_ret
      exact ⟨rfl, rfl⟩
  · rw [mor_out s i k lo hi (by omega)]
    generalize i + k = j at *
    go_enter Tryz.func137, Tryz.ntmps137
    go_wp2
    go_ret
    exact ⟨rfl, rfl⟩
set_option maxRecDepth 100000 in
set_option maxHeartbeats 8000000 in
theorem size_any (w : World) (s : ByteArray) (i : Nat) (hs : s.size ≤ 140737488355328) (hi : i < s.size) :
    Calls Tryz.prog 116 #[.string s, .int .i64 (i : Int)] w fun e w' => e = .returned (.int .i64 ((Tk.dec (s.data.toList.drop i)).2 : Int)) ∧ w' = w := by
  have KM := show Hid (∀ (k lo hi : Nat) (x y z : Int), k ≤ 3 → x = (i : Int) + (k : Int) → y = (lo : Int) → z = (hi : Int) → Calls Tryz.prog 137 #[.string s, .int .i64 x, .int .u8 y, .int .u8 z] w fun e w' => e = .returned (.bool (Tk.mor (s.data.toList.drop i) k lo hi)) ∧ w' = w) from fun k lo hi x y z _ hx hy hz => more_any w s i k lo hi x y z hx hy hz
  have HB := show Hid (Tk.byt (s.data.toList.drop i) 0 = (s[i]).toNat) from byt_drop s i 0 hi
  have hm := toNat_lt s[i]
  have hcls : ((s[i]).toNat < 194) ∨ (244 < (s[i]).toNat) ∨ (194 ≤ (s[i]).toNat ∧ (s[i]).toNat ≤ 223) ∨ (s[i]).toNat = 224 ∨ (s[i]).toNat = 237 ∨ (225 ≤ (s[i]).toNat ∧ (s[i]).toNat ≤ 239 ∧ (s[i]).toNat ≠ 237) ∨ (s[i]).toNat = 240 ∨ (241 ≤ (s[i]).toNat ∧ (s[i]).toNat ≤ 243) ∨ (s[i]).toNat = 244 := by omega
  rcases hcls with hcl | hcl | hcl | hcl | hcl | hcl | hcl | hcl | hcl
  · have HV := show Hid ((Tk.dec (s.data.toList.drop i)).2 = 1) from Tk.size_1 _ (by rw [HB.out]; exact Or.inl hcl)
    generalize (Tk.dec (s.data.toList.drop i)).2 = ans at *
    have q1 : decide (194 ≤ ((s[i]).toNat : Int)) = false := decide_eq_false (by omega)
    have q2 : decide (((s[i]).toNat : Int) ≤ 223) = true := decide_eq_true (by omega)
    have q3 : (((s[i]).toNat : Int) == 224) = false := beq_eq_false_iff_ne.2 (by omega)
    have q4 : (((s[i]).toNat : Int) == 237) = false := beq_eq_false_iff_ne.2 (by omega)
    have q5 : decide (225 ≤ ((s[i]).toNat : Int)) = false := decide_eq_false (by omega)
    have q6 : decide (((s[i]).toNat : Int) ≤ 239) = true := decide_eq_true (by omega)
    have q7 : (((s[i]).toNat : Int) != 237) = true := bne_iff_ne.2 (by omega)
    have q8 : (((s[i]).toNat : Int) == 240) = false := beq_eq_false_iff_ne.2 (by omega)
    have q9 : decide (241 ≤ ((s[i]).toNat : Int)) = false := decide_eq_false (by omega)
    have q10 : decide (((s[i]).toNat : Int) ≤ 243) = true := decide_eq_true (by omega)
    have q11 : (((s[i]).toNat : Int) == 244) = false := beq_eq_false_iff_ne.2 (by omega)
    clear hcl HB
    go_enter Tryz.func116, Tryz.ntmps116
    go_wp2_with fail
    go_ret
    exact ⟨ret_int (by rw [HV.out]; rfl), rfl⟩
  · have HV := show Hid ((Tk.dec (s.data.toList.drop i)).2 = 1) from Tk.size_1 _ (by rw [HB.out]; exact Or.inr hcl)
    generalize (Tk.dec (s.data.toList.drop i)).2 = ans at *
    have q1 : decide (194 ≤ ((s[i]).toNat : Int)) = true := decide_eq_true (by omega)
    have q2 : decide (((s[i]).toNat : Int) ≤ 223) = false := decide_eq_false (by omega)
    have q3 : (((s[i]).toNat : Int) == 224) = false := beq_eq_false_iff_ne.2 (by omega)
    have q4 : (((s[i]).toNat : Int) == 237) = false := beq_eq_false_iff_ne.2 (by omega)
    have q5 : decide (225 ≤ ((s[i]).toNat : Int)) = true := decide_eq_true (by omega)
    have q6 : decide (((s[i]).toNat : Int) ≤ 239) = false := decide_eq_false (by omega)
    have q7 : (((s[i]).toNat : Int) != 237) = true := bne_iff_ne.2 (by omega)
    have q8 : (((s[i]).toNat : Int) == 240) = false := beq_eq_false_iff_ne.2 (by omega)
    have q9 : decide (241 ≤ ((s[i]).toNat : Int)) = true := decide_eq_true (by omega)
    have q10 : decide (((s[i]).toNat : Int) ≤ 243) = false := decide_eq_false (by omega)
    have q11 : (((s[i]).toNat : Int) == 244) = false := beq_eq_false_iff_ne.2 (by omega)
    clear hcl HB
    go_enter Tryz.func116, Tryz.ntmps116
    go_wp2_with fail
    go_ret
    exact ⟨ret_int (by rw [HV.out]; rfl), rfl⟩
  · have HV := show Hid ((Tk.dec (s.data.toList.drop i)).2 = if Tk.mor (s.data.toList.drop i) 1 128 191 then 2 else 1) from Tk.size_2 _ (by rw [HB.out]; exact hcl.1) (by rw [HB.out]; exact hcl.2)
    generalize (Tk.dec (s.data.toList.drop i)).2 = ans at *
    have q1 : decide (194 ≤ ((s[i]).toNat : Int)) = true := decide_eq_true (by omega)
    have q2 : decide (((s[i]).toNat : Int) ≤ 223) = true := decide_eq_true (by omega)
    have q3 : (((s[i]).toNat : Int) == 224) = false := beq_eq_false_iff_ne.2 (by omega)
    have q4 : (((s[i]).toNat : Int) == 237) = false := beq_eq_false_iff_ne.2 (by omega)
    have q5 : decide (225 ≤ ((s[i]).toNat : Int)) = false := decide_eq_false (by omega)
    have q6 : decide (((s[i]).toNat : Int) ≤ 239) = true := decide_eq_true (by omega)
    have q7 : (((s[i]).toNat : Int) != 237) = true := bne_iff_ne.2 (by omega)
    have q8 : (((s[i]).toNat : Int) == 240) = false := beq_eq_false_iff_ne.2 (by omega)
    have q9 : decide (241 ≤ ((s[i]).toNat : Int)) = false := decide_eq_false (by omega)
    have q10 : decide (((s[i]).toNat : Int) ≤ 243) = true := decide_eq_true (by omega)
    have q11 : (((s[i]).toNat : Int) == 244) = false := beq_eq_false_iff_ne.2 (by omega)
    clear hcl HB
    go_enter Tryz.func116, Tryz.ntmps116
    go_wp2_with fail
    refine (KM.out 1 128 191 _ _ _ (by omega) rfl rfl rfl).mono ?_
    rintro e w1 ⟨rfl, rfl⟩
    cases hm1 : Tk.mor (s.data.toList.drop i) 1 128 191 with
    | true =>
      have HM1 := show Hid (Tk.mor (s.data.toList.drop i) 1 128 191 = true) from hm1
      clear hm1
      go_wp2_with fail
      go_ret
      exact ⟨ret_int (by rw [HV.out, HM1.out]; rfl), rfl⟩
    | false =>
      have HM1 := show Hid (Tk.mor (s.data.toList.drop i) 1 128 191 = false) from hm1
      clear hm1
      go_wp2_with fail
      go_ret
      exact ⟨ret_int (by rw [HV.out, HM1.out]; rfl), rfl⟩
  · have HV := show Hid ((Tk.dec (s.data.toList.drop i)).2 = if Tk.mor (s.data.toList.drop i) 1 160 191 && Tk.mor (s.data.toList.drop i) 2 128 191 then 3 else 1) from Tk.size_3 _ 160 191 (by rw [HB.out]; omega)
    generalize (Tk.dec (s.data.toList.drop i)).2 = ans at *
    have q1 : decide (194 ≤ ((s[i]).toNat : Int)) = true := decide_eq_true (by omega)
    have q2 : decide (((s[i]).toNat : Int) ≤ 223) = false := decide_eq_false (by omega)
    have q3 : (((s[i]).toNat : Int) == 224) = true := beq_iff_eq.2 (by omega)
    have q4 : (((s[i]).toNat : Int) == 237) = false := beq_eq_false_iff_ne.2 (by omega)
    have q5 : decide (225 ≤ ((s[i]).toNat : Int)) = false := decide_eq_false (by omega)
    have q6 : decide (((s[i]).toNat : Int) ≤ 239) = true := decide_eq_true (by omega)
    have q7 : (((s[i]).toNat : Int) != 237) = true := bne_iff_ne.2 (by omega)
    have q8 : (((s[i]).toNat : Int) == 240) = false := beq_eq_false_iff_ne.2 (by omega)
    have q9 : decide (241 ≤ ((s[i]).toNat : Int)) = false := decide_eq_false (by omega)
    have q10 : decide (((s[i]).toNat : Int) ≤ 243) = true := decide_eq_true (by omega)
    have q11 : (((s[i]).toNat : Int) == 244) = false := beq_eq_false_iff_ne.2 (by omega)
    clear hcl HB
    go_enter Tryz.func116, Tryz.ntmps116
    go_wp2_with fail
    refine (KM.out 1 160 191 _ _ _ (by omega) rfl rfl rfl).mono ?_
    rintro e w1 ⟨rfl, rfl⟩
    cases hm1 : Tk.mor (s.data.toList.drop i) 1 160 191 with
    | true =>
      have HM1 := show Hid (Tk.mor (s.data.toList.drop i) 1 160 191 = true) from hm1
      clear hm1
      go_wp2_with fail
      refine (KM.out 2 128 191 _ _ _ (by omega) rfl rfl rfl).mono ?_
      rintro e w1 ⟨rfl, rfl⟩
      cases hm2 : Tk.mor (s.data.toList.drop i) 2 128 191 with
      | true =>
        have HM2 := show Hid (Tk.mor (s.data.toList.drop i) 2 128 191 = true) from hm2
        clear hm2
        go_wp2_with fail
        go_ret
        exact ⟨ret_int (by rw [HV.out, HM1.out, HM2.out]; rfl), rfl⟩
      | false =>
        have HM2 := show Hid (Tk.mor (s.data.toList.drop i) 2 128 191 = false) from hm2
        clear hm2
        go_wp2_with fail
        go_ret
        exact ⟨ret_int (by rw [HV.out, HM1.out, HM2.out]; rfl), rfl⟩
    | false =>
      have HM1 := show Hid (Tk.mor (s.data.toList.drop i) 1 160 191 = false) from hm1
      clear hm1
      go_wp2_with fail
      go_ret
      exact ⟨ret_int (by rw [HV.out, HM1.out]; rfl), rfl⟩
  · have HV := show Hid ((Tk.dec (s.data.toList.drop i)).2 = if Tk.mor (s.data.toList.drop i) 1 128 159 && Tk.mor (s.data.toList.drop i) 2 128 191 then 3 else 1) from Tk.size_3 _ 128 159 (by rw [HB.out]; omega)
    generalize (Tk.dec (s.data.toList.drop i)).2 = ans at *
    have q1 : decide (194 ≤ ((s[i]).toNat : Int)) = true := decide_eq_true (by omega)
    have q2 : decide (((s[i]).toNat : Int) ≤ 223) = false := decide_eq_false (by omega)
    have q3 : (((s[i]).toNat : Int) == 224) = false := beq_eq_false_iff_ne.2 (by omega)
    have q4 : (((s[i]).toNat : Int) == 237) = true := beq_iff_eq.2 (by omega)
    have q5 : decide (225 ≤ ((s[i]).toNat : Int)) = true := decide_eq_true (by omega)
    have q6 : decide (((s[i]).toNat : Int) ≤ 239) = true := decide_eq_true (by omega)
    have q7 : (((s[i]).toNat : Int) != 237) = false := by simp only [bne_eq_false_iff_eq]; omega
    have q8 : (((s[i]).toNat : Int) == 240) = false := beq_eq_false_iff_ne.2 (by omega)
    have q9 : decide (241 ≤ ((s[i]).toNat : Int)) = false := decide_eq_false (by omega)
    have q10 : decide (((s[i]).toNat : Int) ≤ 243) = true := decide_eq_true (by omega)
    have q11 : (((s[i]).toNat : Int) == 244) = false := beq_eq_false_iff_ne.2 (by omega)
    clear hcl HB
    go_enter Tryz.func116, Tryz.ntmps116
    go_wp2_with fail
    refine (KM.out 1 128 159 _ _ _ (by omega) rfl rfl rfl).mono ?_
    rintro e w1 ⟨rfl, rfl⟩
    cases hm1 : Tk.mor (s.data.toList.drop i) 1 128 159 with
    | true =>
      have HM1 := show Hid (Tk.mor (s.data.toList.drop i) 1 128 159 = true) from hm1
      clear hm1
      go_wp2_with fail
      refine (KM.out 2 128 191 _ _ _ (by omega) rfl rfl rfl).mono ?_
      rintro e w1 ⟨rfl, rfl⟩
      cases hm2 : Tk.mor (s.data.toList.drop i) 2 128 191 with
      | true =>
        have HM2 := show Hid (Tk.mor (s.data.toList.drop i) 2 128 191 = true) from hm2
        clear hm2
        go_wp2_with fail
        go_ret
        exact ⟨ret_int (by rw [HV.out, HM1.out, HM2.out]; rfl), rfl⟩
      | false =>
        have HM2 := show Hid (Tk.mor (s.data.toList.drop i) 2 128 191 = false) from hm2
        clear hm2
        go_wp2_with fail
        go_ret
        exact ⟨ret_int (by rw [HV.out, HM1.out, HM2.out]; rfl), rfl⟩
    | false =>
      have HM1 := show Hid (Tk.mor (s.data.toList.drop i) 1 128 159 = false) from hm1
      clear hm1
      go_wp2_with fail
      go_ret
      exact ⟨ret_int (by rw [HV.out, HM1.out]; rfl), rfl⟩
  · have HV := show Hid ((Tk.dec (s.data.toList.drop i)).2 = if Tk.mor (s.data.toList.drop i) 1 128 191 && Tk.mor (s.data.toList.drop i) 2 128 191 then 3 else 1) from Tk.size_3 _ 128 191 (by rw [HB.out]; omega)
    generalize (Tk.dec (s.data.toList.drop i)).2 = ans at *
    have q1 : decide (194 ≤ ((s[i]).toNat : Int)) = true := decide_eq_true (by omega)
    have q2 : decide (((s[i]).toNat : Int) ≤ 223) = false := decide_eq_false (by omega)
    have q3 : (((s[i]).toNat : Int) == 224) = false := beq_eq_false_iff_ne.2 (by omega)
    have q4 : (((s[i]).toNat : Int) == 237) = false := beq_eq_false_iff_ne.2 (by omega)
    have q5 : decide (225 ≤ ((s[i]).toNat : Int)) = true := decide_eq_true (by omega)
    have q6 : decide (((s[i]).toNat : Int) ≤ 239) = true := decide_eq_true (by omega)
    have q7 : (((s[i]).toNat : Int) != 237) = true := bne_iff_ne.2 (by omega)
    have q8 : (((s[i]).toNat : Int) == 240) = false := beq_eq_false_iff_ne.2 (by omega)
    have q9 : decide (241 ≤ ((s[i]).toNat : Int)) = false := decide_eq_false (by omega)
    have q10 : decide (((s[i]).toNat : Int) ≤ 243) = true := decide_eq_true (by omega)
    have q11 : (((s[i]).toNat : Int) == 244) = false := beq_eq_false_iff_ne.2 (by omega)
    clear hcl HB
    go_enter Tryz.func116, Tryz.ntmps116
    go_wp2_with fail
    refine (KM.out 1 128 191 _ _ _ (by omega) rfl rfl rfl).mono ?_
    rintro e w1 ⟨rfl, rfl⟩
    cases hm1 : Tk.mor (s.data.toList.drop i) 1 128 191 with
    | true =>
      have HM1 := show Hid (Tk.mor (s.data.toList.drop i) 1 128 191 = true) from hm1
      clear hm1
      go_wp2_with fail
      refine (KM.out 2 128 191 _ _ _ (by omega) rfl rfl rfl).mono ?_
      rintro e w1 ⟨rfl, rfl⟩
      cases hm2 : Tk.mor (s.data.toList.drop i) 2 128 191 with
      | true =>
        have HM2 := show Hid (Tk.mor (s.data.toList.drop i) 2 128 191 = true) from hm2
        clear hm2
        go_wp2_with fail
        go_ret
        exact ⟨ret_int (by rw [HV.out, HM1.out, HM2.out]; rfl), rfl⟩
      | false =>
        have HM2 := show Hid (Tk.mor (s.data.toList.drop i) 2 128 191 = false) from hm2
        clear hm2
        go_wp2_with fail
        go_ret
        exact ⟨ret_int (by rw [HV.out, HM1.out, HM2.out]; rfl), rfl⟩
    | false =>
      have HM1 := show Hid (Tk.mor (s.data.toList.drop i) 1 128 191 = false) from hm1
      clear hm1
      go_wp2_with fail
      go_ret
      exact ⟨ret_int (by rw [HV.out, HM1.out]; rfl), rfl⟩
  · have HV := show Hid ((Tk.dec (s.data.toList.drop i)).2 = if Tk.mor (s.data.toList.drop i) 1 144 191 && Tk.mor (s.data.toList.drop i) 2 128 191 && Tk.mor (s.data.toList.drop i) 3 128 191 then 4 else 1) from Tk.size_4 _ 144 191 (by rw [HB.out]; omega)
    generalize (Tk.dec (s.data.toList.drop i)).2 = ans at *
    have q1 : decide (194 ≤ ((s[i]).toNat : Int)) = true := decide_eq_true (by omega)
    have q2 : decide (((s[i]).toNat : Int) ≤ 223) = false := decide_eq_false (by omega)
    have q3 : (((s[i]).toNat : Int) == 224) = false := beq_eq_false_iff_ne.2 (by omega)
    have q4 : (((s[i]).toNat : Int) == 237) = false := beq_eq_false_iff_ne.2 (by omega)
    have q5 : decide (225 ≤ ((s[i]).toNat : Int)) = true := decide_eq_true (by omega)
    have q6 : decide (((s[i]).toNat : Int) ≤ 239) = false := decide_eq_false (by omega)
    have q7 : (((s[i]).toNat : Int) != 237) = true := bne_iff_ne.2 (by omega)
    have q8 : (((s[i]).toNat : Int) == 240) = true := beq_iff_eq.2 (by omega)
    have q9 : decide (241 ≤ ((s[i]).toNat : Int)) = false := decide_eq_false (by omega)
    have q10 : decide (((s[i]).toNat : Int) ≤ 243) = true := decide_eq_true (by omega)
    have q11 : (((s[i]).toNat : Int) == 244) = false := beq_eq_false_iff_ne.2 (by omega)
    clear hcl HB
    go_enter Tryz.func116, Tryz.ntmps116
    go_wp2_with fail
    refine (KM.out 1 144 191 _ _ _ (by omega) rfl rfl rfl).mono ?_
    rintro e w1 ⟨rfl, rfl⟩
    cases hm1 : Tk.mor (s.data.toList.drop i) 1 144 191 with
    | true =>
      have HM1 := show Hid (Tk.mor (s.data.toList.drop i) 1 144 191 = true) from hm1
      clear hm1
      go_wp2_with fail
      refine (KM.out 2 128 191 _ _ _ (by omega) rfl rfl rfl).mono ?_
      rintro e w1 ⟨rfl, rfl⟩
      cases hm2 : Tk.mor (s.data.toList.drop i) 2 128 191 with
      | true =>
        have HM2 := show Hid (Tk.mor (s.data.toList.drop i) 2 128 191 = true) from hm2
        clear hm2
        go_wp2_with fail
        refine (KM.out 3 128 191 _ _ _ (by omega) rfl rfl rfl).mono ?_
        rintro e w1 ⟨rfl, rfl⟩
        cases hm3 : Tk.mor (s.data.toList.drop i) 3 128 191 with
        | true =>
          have HM3 := show Hid (Tk.mor (s.data.toList.drop i) 3 128 191 = true) from hm3
          clear hm3
          go_wp2_with fail
          go_ret
          exact ⟨ret_int (by rw [HV.out, HM1.out, HM2.out, HM3.out]; rfl), rfl⟩
        | false =>
          have HM3 := show Hid (Tk.mor (s.data.toList.drop i) 3 128 191 = false) from hm3
          clear hm3
          go_wp2_with fail
          go_ret
          exact ⟨ret_int (by rw [HV.out, HM1.out, HM2.out, HM3.out]; rfl), rfl⟩
      | false =>
        have HM2 := show Hid (Tk.mor (s.data.toList.drop i) 2 128 191 = false) from hm2
        clear hm2
        go_wp2_with fail
        go_ret
        exact ⟨ret_int (by rw [HV.out, HM1.out, HM2.out]; rfl), rfl⟩
    | false =>
      have HM1 := show Hid (Tk.mor (s.data.toList.drop i) 1 144 191 = false) from hm1
      clear hm1
      go_wp2_with fail
      go_ret
      exact ⟨ret_int (by rw [HV.out, HM1.out]; rfl), rfl⟩
  · have HV := show Hid ((Tk.dec (s.data.toList.drop i)).2 = if Tk.mor (s.data.toList.drop i) 1 128 191 && Tk.mor (s.data.toList.drop i) 2 128 191 && Tk.mor (s.data.toList.drop i) 3 128 191 then 4 else 1) from Tk.size_4 _ 128 191 (by rw [HB.out]; omega)
    generalize (Tk.dec (s.data.toList.drop i)).2 = ans at *
    have q1 : decide (194 ≤ ((s[i]).toNat : Int)) = true := decide_eq_true (by omega)
    have q2 : decide (((s[i]).toNat : Int) ≤ 223) = false := decide_eq_false (by omega)
    have q3 : (((s[i]).toNat : Int) == 224) = false := beq_eq_false_iff_ne.2 (by omega)
    have q4 : (((s[i]).toNat : Int) == 237) = false := beq_eq_false_iff_ne.2 (by omega)
    have q5 : decide (225 ≤ ((s[i]).toNat : Int)) = true := decide_eq_true (by omega)
    have q6 : decide (((s[i]).toNat : Int) ≤ 239) = false := decide_eq_false (by omega)
    have q7 : (((s[i]).toNat : Int) != 237) = true := bne_iff_ne.2 (by omega)
    have q8 : (((s[i]).toNat : Int) == 240) = false := beq_eq_false_iff_ne.2 (by omega)
    have q9 : decide (241 ≤ ((s[i]).toNat : Int)) = true := decide_eq_true (by omega)
    have q10 : decide (((s[i]).toNat : Int) ≤ 243) = true := decide_eq_true (by omega)
    have q11 : (((s[i]).toNat : Int) == 244) = false := beq_eq_false_iff_ne.2 (by omega)
    clear hcl HB
    go_enter Tryz.func116, Tryz.ntmps116
    go_wp2_with fail
    refine (KM.out 1 128 191 _ _ _ (by omega) rfl rfl rfl).mono ?_
    rintro e w1 ⟨rfl, rfl⟩
    cases hm1 : Tk.mor (s.data.toList.drop i) 1 128 191 with
    | true =>
      have HM1 := show Hid (Tk.mor (s.data.toList.drop i) 1 128 191 = true) from hm1
      clear hm1
      go_wp2_with fail
      refine (KM.out 2 128 191 _ _ _ (by omega) rfl rfl rfl).mono ?_
      rintro e w1 ⟨rfl, rfl⟩
      cases hm2 : Tk.mor (s.data.toList.drop i) 2 128 191 with
      | true =>
        have HM2 := show Hid (Tk.mor (s.data.toList.drop i) 2 128 191 = true) from hm2
        clear hm2
        go_wp2_with fail
        refine (KM.out 3 128 191 _ _ _ (by omega) rfl rfl rfl).mono ?_
        rintro e w1 ⟨rfl, rfl⟩
        cases hm3 : Tk.mor (s.data.toList.drop i) 3 128 191 with
        | true =>
          have HM3 := show Hid (Tk.mor (s.data.toList.drop i) 3 128 191 = true) from hm3
          clear hm3
          go_wp2_with fail
          go_ret
          exact ⟨ret_int (by rw [HV.out, HM1.out, HM2.out, HM3.out]; rfl), rfl⟩
        | false =>
          have HM3 := show Hid (Tk.mor (s.data.toList.drop i) 3 128 191 = false) from hm3
          clear hm3
          go_wp2_with fail
          go_ret
          exact ⟨ret_int (by rw [HV.out, HM1.out, HM2.out, HM3.out]; rfl), rfl⟩
      | false =>
        have HM2 := show Hid (Tk.mor (s.data.toList.drop i) 2 128 191 = false) from hm2
        clear hm2
        go_wp2_with fail
        go_ret
        exact ⟨ret_int (by rw [HV.out, HM1.out, HM2.out]; rfl), rfl⟩
    | false =>
      have HM1 := show Hid (Tk.mor (s.data.toList.drop i) 1 128 191 = false) from hm1
      clear hm1
      go_wp2_with fail
      go_ret
      exact ⟨ret_int (by rw [HV.out, HM1.out]; rfl), rfl⟩
  · have HV := show Hid ((Tk.dec (s.data.toList.drop i)).2 = if Tk.mor (s.data.toList.drop i) 1 128 143 && Tk.mor (s.data.toList.drop i) 2 128 191 && Tk.mor (s.data.toList.drop i) 3 128 191 then 4 else 1) from Tk.size_4 _ 128 143 (by rw [HB.out]; omega)
    generalize (Tk.dec (s.data.toList.drop i)).2 = ans at *
    have q1 : decide (194 ≤ ((s[i]).toNat : Int)) = true := decide_eq_true (by omega)
    have q2 : decide (((s[i]).toNat : Int) ≤ 223) = false := decide_eq_false (by omega)
    have q3 : (((s[i]).toNat : Int) == 224) = false := beq_eq_false_iff_ne.2 (by omega)
    have q4 : (((s[i]).toNat : Int) == 237) = false := beq_eq_false_iff_ne.2 (by omega)
    have q5 : decide (225 ≤ ((s[i]).toNat : Int)) = true := decide_eq_true (by omega)
    have q6 : decide (((s[i]).toNat : Int) ≤ 239) = false := decide_eq_false (by omega)
    have q7 : (((s[i]).toNat : Int) != 237) = true := bne_iff_ne.2 (by omega)
    have q8 : (((s[i]).toNat : Int) == 240) = false := beq_eq_false_iff_ne.2 (by omega)
    have q9 : decide (241 ≤ ((s[i]).toNat : Int)) = true := decide_eq_true (by omega)
    have q10 : decide (((s[i]).toNat : Int) ≤ 243) = false := decide_eq_false (by omega)
    have q11 : (((s[i]).toNat : Int) == 244) = true := beq_iff_eq.2 (by omega)
    clear hcl HB
    go_enter Tryz.func116, Tryz.ntmps116
    go_wp2_with fail
    refine (KM.out 1 128 143 _ _ _ (by omega) rfl rfl rfl).mono ?_
    rintro e w1 ⟨rfl, rfl⟩
    cases hm1 : Tk.mor (s.data.toList.drop i) 1 128 143 with
    | true =>
      have HM1 := show Hid (Tk.mor (s.data.toList.drop i) 1 128 143 = true) from hm1
      clear hm1
      go_wp2_with fail
      refine (KM.out 2 128 191 _ _ _ (by omega) rfl rfl rfl).mono ?_
      rintro e w1 ⟨rfl, rfl⟩
      cases hm2 : Tk.mor (s.data.toList.drop i) 2 128 191 with
      | true =>
        have HM2 := show Hid (Tk.mor (s.data.toList.drop i) 2 128 191 = true) from hm2
        clear hm2
        go_wp2_with fail
        refine (KM.out 3 128 191 _ _ _ (by omega) rfl rfl rfl).mono ?_
        rintro e w1 ⟨rfl, rfl⟩
        cases hm3 : Tk.mor (s.data.toList.drop i) 3 128 191 with
        | true =>
          have HM3 := show Hid (Tk.mor (s.data.toList.drop i) 3 128 191 = true) from hm3
          clear hm3
          go_wp2_with fail
          go_ret
          exact ⟨ret_int (by rw [HV.out, HM1.out, HM2.out, HM3.out]; rfl), rfl⟩
        | false =>
          have HM3 := show Hid (Tk.mor (s.data.toList.drop i) 3 128 191 = false) from hm3
          clear hm3
          go_wp2_with fail
          go_ret
          exact ⟨ret_int (by rw [HV.out, HM1.out, HM2.out, HM3.out]; rfl), rfl⟩
      | false =>
        have HM2 := show Hid (Tk.mor (s.data.toList.drop i) 2 128 191 = false) from hm2
        clear hm2
        go_wp2_with fail
        go_ret
        exact ⟨ret_int (by rw [HV.out, HM1.out, HM2.out]; rfl), rfl⟩
    | false =>
      have HM1 := show Hid (Tk.mor (s.data.toList.drop i) 1 128 143 = false) from hm1
      clear hm1
      go_wp2_with fail
      go_ret
      exact ⟨ret_int (by rw [HV.out, HM1.out]; rfl), rfl⟩
end Go.Proofs.YtcidldgenogdkaaGreatDoor.Tw
/-
  The document's calls digit, letter and within: for every byte. No condition.
-/
namespace Go.Proofs.YtcidldgenogdkaaGreatDoor.Tw
open Go.RowKit

set_option maxHeartbeats 400000 in
theorem rdigit_any (w : World) (c : UInt8) :
    Calls Tryz.prog 119 #[.int .u8 (c.toNat : Int)] w fun e w' => e = .returned (.bool (Tk.isDig c)) ∧ w' = w := by
  have HX : Hid (Tk.isDig c = (decide (48 ≤ c.toNat) && decide (c.toNat ≤ 57))) := rfl
  generalize Tk.isDig c = ans at *
  have hm := toNat_lt c
  generalize c.toNat = m at *
  have q48 : decide (48 ≤ (m : Int)) = decide (48 ≤ m) := decide_eq_decide.2 (by omega)
  have q57 : decide ((m : Int) ≤ 57) = decide (m ≤ 57) := decide_eq_decide.2 (by omega)
  generalize decide (48 ≤ m) = b1 at *
  generalize decide (m ≤ 57) = b2 at *
  go_enter Tryz.func119, Tryz.ntmps119
  cases b1 <;> cases b2
  all_goals
    go_wp2
    go_ret
    exact ⟨ret_bool (by rw [HX.out]; rfl), rfl⟩
set_option maxHeartbeats 1000000 in
theorem rletter_any (w : World) (c : UInt8) :
    Calls Tryz.prog 117 #[.int .u8 (c.toNat : Int)] w fun e w' => e = .returned (.bool (Tk.isBeg c)) ∧ w' = w := by
  have HX : Hid (Tk.isBeg c = ((decide (97 ≤ c.toNat) && decide (c.toNat ≤ 122)) || (decide (65 ≤ c.toNat) && decide (c.toNat ≤ 90)) || decide (c.toNat = 95))) := rfl
  generalize Tk.isBeg c = ans at *
  have hm := toNat_lt c
  generalize c.toNat = m at *
  have q97 : decide (97 ≤ (m : Int)) = decide (97 ≤ m) := decide_eq_decide.2 (by omega)
  have q122 : decide ((m : Int) ≤ 122) = decide (m ≤ 122) := decide_eq_decide.2 (by omega)
  have q65 : decide (65 ≤ (m : Int)) = decide (65 ≤ m) := decide_eq_decide.2 (by omega)
  have q90 : decide ((m : Int) ≤ 90) = decide (m ≤ 90) := decide_eq_decide.2 (by omega)
  have q95 : ((m : Int) == 95) = decide (m = 95) := by rw [Bool.eq_iff_iff]; simp; omega
  generalize decide (97 ≤ m) = b1 at *
  generalize decide (m ≤ 122) = b2 at *
  generalize decide (65 ≤ m) = b3 at *
  generalize decide (m ≤ 90) = b4 at *
  generalize decide (m = 95) = b5 at *
  go_enter Tryz.func117, Tryz.ntmps117
  cases b1 <;> cases b2 <;> cases b3 <;> cases b4 <;> cases b5
  all_goals
    go_wp2
    go_ret
    exact ⟨ret_bool (by rw [HX.out]; rfl), rfl⟩
set_option maxHeartbeats 1000000 in
theorem rwithin_any (w : World) (c : UInt8) :
    Calls Tryz.prog 118 #[.int .u8 (c.toNat : Int)] w fun e w' => e = .returned (.bool (Tk.isIn c)) ∧ w' = w := by
  have HX : Hid (Tk.isIn c = (Tk.isBeg c || Tk.isDig c || decide (c.toNat = 39))) := rfl
  have C1 := show Hid (Calls Tryz.prog 117 #[.int .u8 (c.toNat : Int)] w fun e w' => e = .returned (.bool (Tk.isBeg c)) ∧ w' = w) from rletter_any w c
  have C2 := show Hid (Calls Tryz.prog 119 #[.int .u8 (c.toNat : Int)] w fun e w' => e = .returned (.bool (Tk.isDig c)) ∧ w' = w) from rdigit_any w c
  generalize Tk.isIn c = ans at *
  generalize Tk.isBeg c = b1 at *
  generalize Tk.isDig c = b2 at *
  have hm := toNat_lt c
  generalize c.toNat = m at *
  have q39 : ((m : Int) == 39) = decide (m = 39) := by rw [Bool.eq_iff_iff]; simp; omega
  generalize decide (m = 39) = b3 at *
  go_enter Tryz.func118, Tryz.ntmps118
  go_wp2_with fail
  refine C1.out.mono ?_
  rintro e w1 ⟨rfl, rfl⟩
  cases b1 with
  | true =>
    cases b3 <;>
    · go_wp2
      go_ret
      exact ⟨ret_bool (by rw [HX.out]; rfl), rfl⟩
  | false =>
    go_wp2_with fail
    refine C2.out.mono ?_
    rintro e w1 ⟨rfl, rfl⟩
    cases b2 <;> cases b3 <;>
    · go_wp2
      go_ret
      exact ⟨ret_bool (by rw [HX.out]; rfl), rfl⟩
end Go.Proofs.YtcidldgenogdkaaGreatDoor.Tw
/-
  The document's calls on and At: spots: for every text and every place. No condition beyond the text's size.
-/
namespace Go.Proofs.YtcidldgenogdkaaGreatDoor.Tw
open Go.RowKit

theorem dec_lf (s : ByteArray) (i : Nat) (hi : i < s.size) : ((Tk.dec (s.data.toList.drop i)).1 = 10) ↔ (s[i]).toNat = 10 := by
  rw [← Tk.decode_eq s i (by omega)]
  by_cases h : (s[i]).toNat < 128
  · rw [decode_ascii s i hi h]
  · have := (decode_high s i hi (by omega)).1
    omega
set_option maxRecDepth 100000 in
set_option maxHeartbeats 2000000 in
theorem on_any (w : World) (s : ByteArray) (l c : Int) (o n : Nat) (hs : s.size ≤ 140737488355328) (hon : o ≤ n) (hn : n ≤ s.size) :
    Calls Tryz.prog 92 #[.string s, .agg #[.int .i64 l, .int .i64 c, .int .i64 (o : Int)], .int .i64 (n : Int)] w fun e w' => e = .returned (.agg #[.int .i64 (Tk.go (s.data.toList.drop o) (n - o) (l, c)).1, .int .i64 (Tk.go (s.data.toList.drop o) (n - o) (l, c)).2, .int .i64 (n : Int)]) ∧ Below w.heap.size w w' := by
  have HSL := show Hid (s.data.toList.length = s.size) from rfl
  obtain ⟨ans, hans⟩ : ∃ ans, ans = Tk.go (s.data.toList.drop o) (n - o) (l, c) := ⟨_, rfl⟩
  rw [← hans]
  have HA := show Hid (Tk.go (s.data.toList.drop o) (n - o) (l, c) = ans) from hans.symm
  clear hans
  have KS := show Hid (∀ (w : World) (i : Nat), i < s.size → Calls Tryz.prog 116 #[.string s, .int .i64 (i : Int)] w fun e w' => e = .returned (.int .i64 ((Tk.dec (s.data.toList.drop i)).2 : Int)) ∧ w' = w) from fun w i hi => size_any w s i hs hi
  have HP1 : Hid (S3 ((w.alloc (Obj.cells #[.int .i64 l, .int .i64 c, .int .i64 (o : Int)] 29)).alloc (Obj.cells #[.int .i64 0, .int .i64 0, .int .i64 0] 29)) w.heap.size l c o) := heap_alloc2_old _ _ _
  have HR1 : Hid (S3 ((w.alloc (Obj.cells #[.int .i64 l, .int .i64 c, .int .i64 (o : Int)] 29)).alloc (Obj.cells #[.int .i64 0, .int .i64 0, .int .i64 0] 29)) (w.heap.size + 1) 0 0 0) := heap_alloc2_new _ _ _
  have HB1 : Hid (Below w.heap.size w ((w.alloc (Obj.cells #[.int .i64 l, .int .i64 c, .int .i64 (o : Int)] 29)).alloc (Obj.cells #[.int .i64 0, .int .i64 0, .int .i64 0] 29))) := below_alloc2 _ _ _
  go_enter Tryz.func92, Tryz.ntmps92
  go_wp2_with fail
  go_loopw [7] (fun i wr => ∃ (k : Nat) (l' c' : Int), o ≤ k ∧ i = .int .i64 k ∧ k ≤ s.size ∧ Hid (Tk.go (s.data.toList.drop k) (n - k) (l', c') = ans) ∧ Hid (S3 wr w.heap.size l' c' o) ∧ Hid (S3 wr (w.heap.size + 1) 0 0 0) ∧ Hid (Below w.heap.size w wr)) (fun i _ => s.size - (intOf i).toNat)
  case atStart => exact ⟨o, l, c, Nat.le_refl _, rfl, by omega, HA, HP1, HR1, HB1⟩
  case round =>
    obtain ⟨k, l', c', hok, rfl, hks, HG, HP, HR, HB⟩ := hrel
    have hp0 := HP.out.c0; have hp1 := HP.out.c1; have hp2 := HP.out.c2; have hpf := HP.out.fr
    have hr0 := HR.out.c0; have hr1 := HR.out.c1; have hr2 := HR.out.c2; have hrf := HR.out.fr
    by_cases hlt : k < n
    · have hl : s.data.toList.drop k ≠ [] := by
        intro h
        have := congrArg List.length h
        rw [List.length_drop, HSL.out, List.length_nil] at this
        omega
      have hdp := Tk.dec_pos (s.data.toList.drop k)
      have hdl := Tk.dec_le (s.data.toList.drop k) hl
      rw [List.length_drop, HSL.out] at hdl
      have hks2 : k < s.size := by omega
      have hlf := dec_lf s k hks2
      have hg := HG.out
      rw [Tk.go_step _ _ _ (by omega) hl, List.drop_drop, Nat.sub_sub] at hg
      have KS2 := show Hid (∀ w : World, Calls Tryz.prog 116 #[.string s, .int .i64 (k : Int)] w fun e w' => e = .returned (.int .i64 ((Tk.dec (s.data.toList.drop k)).2 : Int)) ∧ w' = w) from fun w => KS.out w k hks2
      clear HG HA HP1 HR1 HB1 hl
      generalize Tk.dec (s.data.toList.drop k) = dd at *
      obtain ⟨dr, dn⟩ := dd
      simp only at hdp hdl hlf hg KS2
      by_cases h10 : (s[k]).toNat = 10
      · have q10 : (((s[k]).toNat : Int) == 10) = true := beq_iff_eq.2 (by omega)
        have e : Tk.beh (l', c') dr = (Tk.bump l', 1) := if_pos (hlf.2 h10)
        rw [e] at hg
        have HG2 := show Hid _ from hg
        clear hg hlf h10 e
        go_wp2_with fail
        refine (KS2.out _).mono ?_
        rintro e w1 ⟨rfl, rfl⟩
        go_wp2_with fail
        go_roundw
        case rel => exact ⟨k + dn, Tk.bump l', 1, by omega, by go_num, by omega, HG2, ((HP.out.s1 _).s0 _).s1 _, ((HR.out.other (by omega) _).other (by omega) _).other (by omega) _, ((HB.out.setCell (Nat.le_refl _) _).setCell (Nat.le_refl _) _).setCell (Nat.le_refl _) _⟩
        case measure => simp [intOf]; omega
      · have q10 : (((s[k]).toNat : Int) == 10) = false := beq_eq_false_iff_ne.2 (by omega)
        have e : Tk.beh (l', c') dr = (l', Tk.bump c') := if_neg (fun h => h10 (hlf.1 h))
        rw [e] at hg
        have HG2 := show Hid _ from hg
        clear hg hlf h10 e
        go_wp2_with fail
        refine (KS2.out _).mono ?_
        rintro e w1 ⟨rfl, rfl⟩
        go_wp2_with fail
        go_roundw
        case rel => exact ⟨k + dn, l', Tk.bump c', by omega, by go_num, by omega, HG2, HP.out.s1 _, HR.out.other (by omega) _, HB.out.setCell (Nat.le_refl _) _⟩
        case measure => simp [intOf]; omega
    · have hg := HG.out
      rw [show n - k = 0 by omega, Tk.go_done _ _ _ (Or.inl rfl)] at hg
      subst hg
      clear HA HG HP1 HR1 HB1
      go_wp2_with fail
      have hf := (HR.out.other (g' := w.heap.size) (k := 2) (by omega) (.int .i64 (n : Int))).s3 l' c' n
      refine bodyPost_ret (results_cell_row rfl _ _ (w.heap.size + 1) _ _ _ _ rfl hf Tryz.underlying29 rfl (by kernel_rfl)) rfl ?_
      exact ⟨rfl, below_set3 (HB.out.setCell (Nat.le_refl _) _) (by omega) _ _ _⟩
end Go.Proofs.YtcidldgenogdkaaGreatDoor.Tw
