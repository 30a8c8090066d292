/-
  The document's calls more and size: how many bytes the rune at a place has: for every text and every place in it. No condition beyond the text's size.
-/
import Derived.Test.YtgcoalcfhflfiaaDoorTCur
import Derived.Test.YtgcoalcfhflfiaaDoorRSizeP
namespace Go.Proofs.YtgcoalcfhflfiaaDoor
open Go.RowKit

theorem byt_drop (s : ByteArray) (i k : Nat) (h : i + k < s.size) : Tk.byt (s.data.toList.drop i) k = (s[i + k]).toNat := by
  have hsz : s.data.toList.length = s.size := rfl
  unfold Tk.byt
  rw [List.getD, List.getElem?_drop, List.getElem?_eq_getElem (by omega), bytes_at s (i + k) h]
  rfl
theorem mor_in (s : ByteArray) (i k lo hi : Nat) (h : i + k < s.size) : Tk.mor (s.data.toList.drop i) k lo hi = (decide (lo ≤ (s[i + k]).toNat) && decide ((s[i + k]).toNat ≤ hi)) := by
  have hsz : s.data.toList.length = s.size := rfl
  unfold Tk.mor
  rw [byt_drop s i k h, List.length_drop, hsz, decide_eq_true (by omega), Bool.true_and]
theorem mor_out (s : ByteArray) (i k lo hi : Nat) (h : s.size ≤ i + k) : Tk.mor (s.data.toList.drop i) k lo hi = false := by
  have hsz : s.data.toList.length = s.size := rfl
  unfold Tk.mor
  rw [List.length_drop, hsz, decide_eq_false (by omega), Bool.false_and]
set_option maxHeartbeats 1000000 in
theorem more_any (w : World) (s : ByteArray) (i k lo hi : Nat) (x y z : Int) (hx : x = (i : Int) + (k : Int)) (hy : y = (lo : Int)) (hz : z = (hi : Int)) :
    Calls Tryd.prog 53 #[.string s, .int .i64 x, .int .u8 y, .int .u8 z] w fun e w' => e = .returned (.bool (Tk.mor (s.data.toList.drop i) k lo hi)) ∧ w' = w := by
  rw [hx, hy, hz, show (i : Int) + (k : Int) = ((i + k : Nat) : Int) by omega]
  by_cases h : i + k < s.size
  · rw [mor_in s i k lo hi h]
    generalize i + k = j at *
    cases hb1 : decide (lo ≤ (s[j]).toNat) <;> cases hb2 : decide ((s[j]).toNat ≤ hi)
    all_goals
      go_enter Tryd.func53, Tryd.ntmps53
      go_wp2
      go_ret
      exact ⟨rfl, rfl⟩
  · rw [mor_out s i k lo hi (by omega)]
    generalize i + k = j at *
    go_enter Tryd.func53, Tryd.ntmps53
    go_wp2
    go_ret
    exact ⟨rfl, rfl⟩
set_option maxRecDepth 100000 in
set_option maxHeartbeats 8000000 in
theorem size_any (w : World) (s : ByteArray) (i : Nat) (hs : s.size ≤ 140737488355328) (hi : i < s.size) :
    Calls Tryd.prog 36 #[.string s, .int .i64 (i : Int)] w fun e w' => e = .returned (.int .i64 ((Tk.dec (s.data.toList.drop i)).2 : Int)) ∧ w' = w := by
  have KM := show Hid (∀ (k lo hi : Nat) (x y z : Int), k ≤ 3 → x = (i : Int) + (k : Int) → y = (lo : Int) → z = (hi : Int) → Calls Tryd.prog 53 #[.string s, .int .i64 x, .int .u8 y, .int .u8 z] w fun e w' => e = .returned (.bool (Tk.mor (s.data.toList.drop i) k lo hi)) ∧ w' = w) from fun k lo hi x y z _ hx hy hz => more_any w s i k lo hi x y z hx hy hz
  have HB := show Hid (Tk.byt (s.data.toList.drop i) 0 = (s[i]).toNat) from byt_drop s i 0 hi
  have hm := toNat_lt s[i]
  have hcls : ((s[i]).toNat < 194) ∨ (244 < (s[i]).toNat) ∨ (194 ≤ (s[i]).toNat ∧ (s[i]).toNat ≤ 223) ∨ (s[i]).toNat = 224 ∨ (s[i]).toNat = 237 ∨ (225 ≤ (s[i]).toNat ∧ (s[i]).toNat ≤ 239 ∧ (s[i]).toNat ≠ 237) ∨ (s[i]).toNat = 240 ∨ (241 ≤ (s[i]).toNat ∧ (s[i]).toNat ≤ 243) ∨ (s[i]).toNat = 244 := by omega
  rcases hcls with hcl | hcl | hcl | hcl | hcl | hcl | hcl | hcl | hcl
  · have HV := show Hid ((Tk.dec (s.data.toList.drop i)).2 = 1) from Tk.size_1 _ (by rw [HB.out]; exact Or.inl hcl)
    generalize (Tk.dec (s.data.toList.drop i)).2 = ans at *
    have q1 : decide (194 ≤ ((s[i]).toNat : Int)) = false := decide_eq_false (by omega)
    have q2 : decide (((s[i]).toNat : Int) ≤ 223) = true := decide_eq_true (by omega)
    have q3 : (((s[i]).toNat : Int) == 224) = false := beq_eq_false_iff_ne.2 (by omega)
    have q4 : (((s[i]).toNat : Int) == 237) = false := beq_eq_false_iff_ne.2 (by omega)
    have q5 : decide (225 ≤ ((s[i]).toNat : Int)) = false := decide_eq_false (by omega)
    have q6 : decide (((s[i]).toNat : Int) ≤ 239) = true := decide_eq_true (by omega)
    have q7 : (((s[i]).toNat : Int) != 237) = true := bne_iff_ne.2 (by omega)
    have q8 : (((s[i]).toNat : Int) == 240) = false := beq_eq_false_iff_ne.2 (by omega)
    have q9 : decide (241 ≤ ((s[i]).toNat : Int)) = false := decide_eq_false (by omega)
    have q10 : decide (((s[i]).toNat : Int) ≤ 243) = true := decide_eq_true (by omega)
    have q11 : (((s[i]).toNat : Int) == 244) = false := beq_eq_false_iff_ne.2 (by omega)
    clear hcl HB
    go_enter Tryd.func36, Tryd.ntmps36
    go_wp2_with fail
    go_ret
    exact ⟨ret_int (by rw [HV.out]; rfl), rfl⟩
  · have HV := show Hid ((Tk.dec (s.data.toList.drop i)).2 = 1) from Tk.size_1 _ (by rw [HB.out]; exact Or.inr hcl)
    generalize (Tk.dec (s.data.toList.drop i)).2 = ans at *
    have q1 : decide (194 ≤ ((s[i]).toNat : Int)) = true := decide_eq_true (by omega)
    have q2 : decide (((s[i]).toNat : Int) ≤ 223) = false := decide_eq_false (by omega)
    have q3 : (((s[i]).toNat : Int) == 224) = false := beq_eq_false_iff_ne.2 (by omega)
    have q4 : (((s[i]).toNat : Int) == 237) = false := beq_eq_false_iff_ne.2 (by omega)
    have q5 : decide (225 ≤ ((s[i]).toNat : Int)) = true := decide_eq_true (by omega)
    have q6 : decide (((s[i]).toNat : Int) ≤ 239) = false := decide_eq_false (by omega)
    have q7 : (((s[i]).toNat : Int) != 237) = true := bne_iff_ne.2 (by omega)
    have q8 : (((s[i]).toNat : Int) == 240) = false := beq_eq_false_iff_ne.2 (by omega)
    have q9 : decide (241 ≤ ((s[i]).toNat : Int)) = true := decide_eq_true (by omega)
    have q10 : decide (((s[i]).toNat : Int) ≤ 243) = false := decide_eq_false (by omega)
    have q11 : (((s[i]).toNat : Int) == 244) = false := beq_eq_false_iff_ne.2 (by omega)
    clear hcl HB
    go_enter Tryd.func36, Tryd.ntmps36
    go_wp2_with fail
    go_ret
    exact ⟨ret_int (by rw [HV.out]; rfl), rfl⟩
  · have HV := show Hid ((Tk.dec (s.data.toList.drop i)).2 = if Tk.mor (s.data.toList.drop i) 1 128 191 then 2 else 1) from Tk.size_2 _ (by rw [HB.out]; exact hcl.1) (by rw [HB.out]; exact hcl.2)
    generalize (Tk.dec (s.data.toList.drop i)).2 = ans at *
    have q1 : decide (194 ≤ ((s[i]).toNat : Int)) = true := decide_eq_true (by omega)
    have q2 : decide (((s[i]).toNat : Int) ≤ 223) = true := decide_eq_true (by omega)
    have q3 : (((s[i]).toNat : Int) == 224) = false := beq_eq_false_iff_ne.2 (by omega)
    have q4 : (((s[i]).toNat : Int) == 237) = false := beq_eq_false_iff_ne.2 (by omega)
    have q5 : decide (225 ≤ ((s[i]).toNat : Int)) = false := decide_eq_false (by omega)
    have q6 : decide (((s[i]).toNat : Int) ≤ 239) = true := decide_eq_true (by omega)
    have q7 : (((s[i]).toNat : Int) != 237) = true := bne_iff_ne.2 (by omega)
    have q8 : (((s[i]).toNat : Int) == 240) = false := beq_eq_false_iff_ne.2 (by omega)
    have q9 : decide (241 ≤ ((s[i]).toNat : Int)) = false := decide_eq_false (by omega)
    have q10 : decide (((s[i]).toNat : Int) ≤ 243) = true := decide_eq_true (by omega)
    have q11 : (((s[i]).toNat : Int) == 244) = false := beq_eq_false_iff_ne.2 (by omega)
    clear hcl HB
    go_enter Tryd.func36, Tryd.ntmps36
    go_wp2_with fail
    refine (KM.out 1 128 191 _ _ _ (by omega) rfl rfl rfl).mono ?_
    rintro e w1 ⟨rfl, rfl⟩
    cases hm1 : Tk.mor (s.data.toList.drop i) 1 128 191 with
    | true =>
      have HM1 := show Hid (Tk.mor (s.data.toList.drop i) 1 128 191 = true) from hm1
      clear hm1
      go_wp2_with fail
      go_ret
      exact ⟨ret_int (by rw [HV.out, HM1.out]; rfl), rfl⟩
    | false =>
      have HM1 := show Hid (Tk.mor (s.data.toList.drop i) 1 128 191 = false) from hm1
      clear hm1
      go_wp2_with fail
      go_ret
      exact ⟨ret_int (by rw [HV.out, HM1.out]; rfl), rfl⟩
  · have HV := show Hid ((Tk.dec (s.data.toList.drop i)).2 = if Tk.mor (s.data.toList.drop i) 1 160 191 && Tk.mor (s.data.toList.drop i) 2 128 191 then 3 else 1) from Tk.size_3 _ 160 191 (by rw [HB.out]; omega)
    generalize (Tk.dec (s.data.toList.drop i)).2 = ans at *
    have q1 : decide (194 ≤ ((s[i]).toNat : Int)) = true := decide_eq_true (by omega)
    have q2 : decide (((s[i]).toNat : Int) ≤ 223) = false := decide_eq_false (by omega)
    have q3 : (((s[i]).toNat : Int) == 224) = true := beq_iff_eq.2 (by omega)
    have q4 : (((s[i]).toNat : Int) == 237) = false := beq_eq_false_iff_ne.2 (by omega)
    have q5 : decide (225 ≤ ((s[i]).toNat : Int)) = false := decide_eq_false (by omega)
    have q6 : decide (((s[i]).toNat : Int) ≤ 239) = true := decide_eq_true (by omega)
    have q7 : (((s[i]).toNat : Int) != 237) = true := bne_iff_ne.2 (by omega)
    have q8 : (((s[i]).toNat : Int) == 240) = false := beq_eq_false_iff_ne.2 (by omega)
    have q9 : decide (241 ≤ ((s[i]).toNat : Int)) = false := decide_eq_false (by omega)
    have q10 : decide (((s[i]).toNat : Int) ≤ 243) = true := decide_eq_true (by omega)
    have q11 : (((s[i]).toNat : Int) == 244) = false := beq_eq_false_iff_ne.2 (by omega)
    clear hcl HB
    go_enter Tryd.func36, Tryd.ntmps36
    go_wp2_with fail
    refine (KM.out 1 160 191 _ _ _ (by omega) rfl rfl rfl).mono ?_
    rintro e w1 ⟨rfl, rfl⟩
    cases hm1 : Tk.mor (s.data.toList.drop i) 1 160 191 with
    | true =>
      have HM1 := show Hid (Tk.mor (s.data.toList.drop i) 1 160 191 = true) from hm1
      clear hm1
      go_wp2_with fail
      refine (KM.out 2 128 191 _ _ _ (by omega) rfl rfl rfl).mono ?_
      rintro e w1 ⟨rfl, rfl⟩
      cases hm2 : Tk.mor (s.data.toList.drop i) 2 128 191 with
      | true =>
        have HM2 := show Hid (Tk.mor (s.data.toList.drop i) 2 128 191 = true) from hm2
        clear hm2
        go_wp2_with fail
        go_ret
        exact ⟨ret_int (by rw [HV.out, HM1.out, HM2.out]; rfl), rfl⟩
      | false =>
        have HM2 := show Hid (Tk.mor (s.data.toList.drop i) 2 128 191 = false) from hm2
        clear hm2
        go_wp2_with fail
        go_ret
        exact ⟨ret_int (by rw [HV.out, HM1.out, HM2.out]; rfl), rfl⟩
    | false =>
      have HM1 := show Hid (Tk.mor (s.data.toList.drop i) 1 160 191 = false) from hm1
      clear hm1
      go_wp2_with fail
      go_ret
      exact ⟨ret_int (by rw [HV.out, HM1.out]; rfl), rfl⟩
  · have HV := show Hid ((Tk.dec (s.data.toList.drop i)).2 = if Tk.mor (s.data.toList.drop i) 1 128 159 && Tk.mor (s.data.toList.drop i) 2 128 191 then 3 else 1) from Tk.size_3 _ 128 159 (by rw [HB.out]; omega)
    generalize (Tk.dec (s.data.toList.drop i)).2 = ans at *
    have q1 : decide (194 ≤ ((s[i]).toNat : Int)) = true := decide_eq_true (by omega)
    have q2 : decide (((s[i]).toNat : Int) ≤ 223) = false := decide_eq_false (by omega)
    have q3 : (((s[i]).toNat : Int) == 224) = false := beq_eq_false_iff_ne.2 (by omega)
    have q4 : (((s[i]).toNat : Int) == 237) = true := beq_iff_eq.2 (by omega)
    have q5 : decide (225 ≤ ((s[i]).toNat : Int)) = true := decide_eq_true (by omega)
    have q6 : decide (((s[i]).toNat : Int) ≤ 239) = true := decide_eq_true (by omega)
    have q7 : (((s[i]).toNat : Int) != 237) = false := by simp only [bne_eq_false_iff_eq]; omega
    have q8 : (((s[i]).toNat : Int) == 240) = false := beq_eq_false_iff_ne.2 (by omega)
    have q9 : decide (241 ≤ ((s[i]).toNat : Int)) = false := decide_eq_false (by omega)
    have q10 : decide (((s[i]).toNat : Int) ≤ 243) = true := decide_eq_true (by omega)
    have q11 : (((s[i]).toNat : Int) == 244) = false := beq_eq_false_iff_ne.2 (by omega)
    clear hcl HB
    go_enter Tryd.func36, Tryd.ntmps36
    go_wp2_with fail
    refine (KM.out 1 128 159 _ _ _ (by omega) rfl rfl rfl).mono ?_
    rintro e w1 ⟨rfl, rfl⟩
    cases hm1 : Tk.mor (s.data.toList.drop i) 1 128 159 with
    | true =>
      have HM1 := show Hid (Tk.mor (s.data.toList.drop i) 1 128 159 = true) from hm1
      clear hm1
      go_wp2_with fail
      refine (KM.out 2 128 191 _ _ _ (by omega) rfl rfl rfl).mono ?_
      rintro e w1 ⟨rfl, rfl⟩
      cases hm2 : Tk.mor (s.data.toList.drop i) 2 128 191 with
      | true =>
        have HM2 := show Hid (Tk.mor (s.data.toList.drop i) 2 128 191 = true) from hm2
        clear hm2
        go_wp2_with fail
        go_ret
        exact ⟨ret_int (by rw [HV.out, HM1.out, HM2.out]; rfl), rfl⟩
      | false =>
        have HM2 := show Hid (Tk.mor (s.data.toList.drop i) 2 128 191 = false) from hm2
        clear hm2
        go_wp2_with fail
        go_ret
        exact ⟨ret_int (by rw [HV.out, HM1.out, HM2.out]; rfl), rfl⟩
    | false =>
      have HM1 := show Hid (Tk.mor (s.data.toList.drop i) 1 128 159 = false) from hm1
      clear hm1
      go_wp2_with fail
      go_ret
      exact ⟨ret_int (by rw [HV.out, HM1.out]; rfl), rfl⟩
  · have HV := show Hid ((Tk.dec (s.data.toList.drop i)).2 = if Tk.mor (s.data.toList.drop i) 1 128 191 && Tk.mor (s.data.toList.drop i) 2 128 191 then 3 else 1) from Tk.size_3 _ 128 191 (by rw [HB.out]; omega)
    generalize (Tk.dec (s.data.toList.drop i)).2 = ans at *
    have q1 : decide (194 ≤ ((s[i]).toNat : Int)) = true := decide_eq_true (by omega)
    have q2 : decide (((s[i]).toNat : Int) ≤ 223) = false := decide_eq_false (by omega)
    have q3 : (((s[i]).toNat : Int) == 224) = false := beq_eq_false_iff_ne.2 (by omega)
    have q4 : (((s[i]).toNat : Int) == 237) = false := beq_eq_false_iff_ne.2 (by omega)
    have q5 : decide (225 ≤ ((s[i]).toNat : Int)) = true := decide_eq_true (by omega)
    have q6 : decide (((s[i]).toNat : Int) ≤ 239) = true := decide_eq_true (by omega)
    have q7 : (((s[i]).toNat : Int) != 237) = true := bne_iff_ne.2 (by omega)
    have q8 : (((s[i]).toNat : Int) == 240) = false := beq_eq_false_iff_ne.2 (by omega)
    have q9 : decide (241 ≤ ((s[i]).toNat : Int)) = false := decide_eq_false (by omega)
    have q10 : decide (((s[i]).toNat : Int) ≤ 243) = true := decide_eq_true (by omega)
    have q11 : (((s[i]).toNat : Int) == 244) = false := beq_eq_false_iff_ne.2 (by omega)
    clear hcl HB
    go_enter Tryd.func36, Tryd.ntmps36
    go_wp2_with fail
    refine (KM.out 1 128 191 _ _ _ (by omega) rfl rfl rfl).mono ?_
    rintro e w1 ⟨rfl, rfl⟩
    cases hm1 : Tk.mor (s.data.toList.drop i) 1 128 191 with
    | true =>
      have HM1 := show Hid (Tk.mor (s.data.toList.drop i) 1 128 191 = true) from hm1
      clear hm1
      go_wp2_with fail
      refine (KM.out 2 128 191 _ _ _ (by omega) rfl rfl rfl).mono ?_
      rintro e w1 ⟨rfl, rfl⟩
      cases hm2 : Tk.mor (s.data.toList.drop i) 2 128 191 with
      | true =>
        have HM2 := show Hid (Tk.mor (s.data.toList.drop i) 2 128 191 = true) from hm2
        clear hm2
        go_wp2_with fail
        go_ret
        exact ⟨ret_int (by rw [HV.out, HM1.out, HM2.out]; rfl), rfl⟩
      | false =>
        have HM2 := show Hid (Tk.mor (s.data.toList.drop i) 2 128 191 = false) from hm2
        clear hm2
        go_wp2_with fail
        go_ret
        exact ⟨ret_int (by rw [HV.out, HM1.out, HM2.out]; rfl), rfl⟩
    | false =>
      have HM1 := show Hid (Tk.mor (s.data.toList.drop i) 1 128 191 = false) from hm1
      clear hm1
      go_wp2_with fail
      go_ret
      exact ⟨ret_int (by rw [HV.out, HM1.out]; rfl), rfl⟩
  · have HV := show Hid ((Tk.dec (s.data.toList.drop i)).2 = if Tk.mor (s.data.toList.drop i) 1 144 191 && Tk.mor (s.data.toList.drop i) 2 128 191 && Tk.mor (s.data.toList.drop i) 3 128 191 then 4 else 1) from Tk.size_4 _ 144 191 (by rw [HB.out]; omega)
    generalize (Tk.dec (s.data.toList.drop i)).2 = ans at *
    have q1 : decide (194 ≤ ((s[i]).toNat : Int)) = true := decide_eq_true (by omega)
    have q2 : decide (((s[i]).toNat : Int) ≤ 223) = false := decide_eq_false (by omega)
    have q3 : (((s[i]).toNat : Int) == 224) = false := beq_eq_false_iff_ne.2 (by omega)
    have q4 : (((s[i]).toNat : Int) == 237) = false := beq_eq_false_iff_ne.2 (by omega)
    have q5 : decide (225 ≤ ((s[i]).toNat : Int)) = true := decide_eq_true (by omega)
    have q6 : decide (((s[i]).toNat : Int) ≤ 239) = false := decide_eq_false (by omega)
    have q7 : (((s[i]).toNat : Int) != 237) = true := bne_iff_ne.2 (by omega)
    have q8 : (((s[i]).toNat : Int) == 240) = true := beq_iff_eq.2 (by omega)
    have q9 : decide (241 ≤ ((s[i]).toNat : Int)) = false := decide_eq_false (by omega)
    have q10 : decide (((s[i]).toNat : Int) ≤ 243) = true := decide_eq_true (by omega)
    have q11 : (((s[i]).toNat : Int) == 244) = false := beq_eq_false_iff_ne.2 (by omega)
    clear hcl HB
    go_enter Tryd.func36, Tryd.ntmps36
    go_wp2_with fail
    refine (KM.out 1 144 191 _ _ _ (by omega) rfl rfl rfl).mono ?_
    rintro e w1 ⟨rfl, rfl⟩
    cases hm1 : Tk.mor (s.data.toList.drop i) 1 144 191 with
    | true =>
      have HM1 := show Hid (Tk.mor (s.data.toList.drop i) 1 144 191 = true) from hm1
      clear hm1
      go_wp2_with fail
      refine (KM.out 2 128 191 _ _ _ (by omega) rfl rfl rfl).mono ?_
      rintro e w1 ⟨rfl, rfl⟩
      cases hm2 : Tk.mor (s.data.toList.drop i) 2 128 191 with
      | true =>
        have HM2 := show Hid (Tk.mor (s.data.toList.drop i) 2 128 191 = true) from hm2
        clear hm2
        go_wp2_with fail
        refine (KM.out 3 128 191 _ _ _ (by omega) rfl rfl rfl).mono ?_
        rintro e w1 ⟨rfl, rfl⟩
        cases hm3 : Tk.mor (s.data.toList.drop i) 3 128 191 with
        | true =>
          have HM3 := show Hid (Tk.mor (s.data.toList.drop i) 3 128 191 = true) from hm3
          clear hm3
          go_wp2_with fail
          go_ret
          exact ⟨ret_int (by rw [HV.out, HM1.out, HM2.out, HM3.out]; rfl), rfl⟩
        | false =>
          have HM3 := show Hid (Tk.mor (s.data.toList.drop i) 3 128 191 = false) from hm3
          clear hm3
          go_wp2_with fail
          go_ret
          exact ⟨ret_int (by rw [HV.out, HM1.out, HM2.out, HM3.out]; rfl), rfl⟩
      | false =>
        have HM2 := show Hid (Tk.mor (s.data.toList.drop i) 2 128 191 = false) from hm2
        clear hm2
        go_wp2_with fail
        go_ret
        exact ⟨ret_int (by rw [HV.out, HM1.out, HM2.out]; rfl), rfl⟩
    | false =>
      have HM1 := show Hid (Tk.mor (s.data.toList.drop i) 1 144 191 = false) from hm1
      clear hm1
      go_wp2_with fail
      go_ret
      exact ⟨ret_int (by rw [HV.out, HM1.out]; rfl), rfl⟩
  · have HV := show Hid ((Tk.dec (s.data.toList.drop i)).2 = if Tk.mor (s.data.toList.drop i) 1 128 191 && Tk.mor (s.data.toList.drop i) 2 128 191 && Tk.mor (s.data.toList.drop i) 3 128 191 then 4 else 1) from Tk.size_4 _ 128 191 (by rw [HB.out]; omega)
    generalize (Tk.dec (s.data.toList.drop i)).2 = ans at *
    have q1 : decide (194 ≤ ((s[i]).toNat : Int)) = true := decide_eq_true (by omega)
    have q2 : decide (((s[i]).toNat : Int) ≤ 223) = false := decide_eq_false (by omega)
    have q3 : (((s[i]).toNat : Int) == 224) = false := beq_eq_false_iff_ne.2 (by omega)
    have q4 : (((s[i]).toNat : Int) == 237) = false := beq_eq_false_iff_ne.2 (by omega)
    have q5 : decide (225 ≤ ((s[i]).toNat : Int)) = true := decide_eq_true (by omega)
    have q6 : decide (((s[i]).toNat : Int) ≤ 239) = false := decide_eq_false (by omega)
    have q7 : (((s[i]).toNat : Int) != 237) = true := bne_iff_ne.2 (by omega)
    have q8 : (((s[i]).toNat : Int) == 240) = false := beq_eq_false_iff_ne.2 (by omega)
    have q9 : decide (241 ≤ ((s[i]).toNat : Int)) = true := decide_eq_true (by omega)
    have q10 : decide (((s[i]).toNat : Int) ≤ 243) = true := decide_eq_true (by omega)
    have q11 : (((s[i]).toNat : Int) == 244) = false := beq_eq_false_iff_ne.2 (by omega)
    clear hcl HB
    go_enter Tryd.func36, Tryd.ntmps36
    go_wp2_with fail
    refine (KM.out 1 128 191 _ _ _ (by omega) rfl rfl rfl).mono ?_
    rintro e w1 ⟨rfl, rfl⟩
    cases hm1 : Tk.mor (s.data.toList.drop i) 1 128 191 with
    | true =>
      have HM1 := show Hid (Tk.mor (s.data.toList.drop i) 1 128 191 = true) from hm1
      clear hm1
      go_wp2_with fail
      refine (KM.out 2 128 191 _ _ _ (by omega) rfl rfl rfl).mono ?_
      rintro e w1 ⟨rfl, rfl⟩
      cases hm2 : Tk.mor (s.data.toList.drop i) 2 128 191 with
      | true =>
        have HM2 := show Hid (Tk.mor (s.data.toList.drop i) 2 128 191 = true) from hm2
        clear hm2
        go_wp2_with fail
        refine (KM.out 3 128 191 _ _ _ (by omega) rfl rfl rfl).mono ?_
        rintro e w1 ⟨rfl, rfl⟩
        cases hm3 : Tk.mor (s.data.toList.drop i) 3 128 191 with
        | true =>
          have HM3 := show Hid (Tk.mor (s.data.toList.drop i) 3 128 191 = true) from hm3
          clear hm3
          go_wp2_with fail
          go_ret
          exact ⟨ret_int (by rw [HV.out, HM1.out, HM2.out, HM3.out]; rfl), rfl⟩
        | false =>
          have HM3 := show Hid (Tk.mor (s.data.toList.drop i) 3 128 191 = false) from hm3
          clear hm3
          go_wp2_with fail
          go_ret
          exact ⟨ret_int (by rw [HV.out, HM1.out, HM2.out, HM3.out]; rfl), rfl⟩
      | false =>
        have HM2 := show Hid (Tk.mor (s.data.toList.drop i) 2 128 191 = false) from hm2
        clear hm2
        go_wp2_with fail
        go_ret
        exact ⟨ret_int (by rw [HV.out, HM1.out, HM2.out]; rfl), rfl⟩
    | false =>
      have HM1 := show Hid (Tk.mor (s.data.toList.drop i) 1 128 191 = false) from hm1
      clear hm1
      go_wp2_with fail
      go_ret
      exact ⟨ret_int (by rw [HV.out, HM1.out]; rfl), rfl⟩
  · have HV := show Hid ((Tk.dec (s.data.toList.drop i)).2 = if Tk.mor (s.data.toList.drop i) 1 128 143 && Tk.mor (s.data.toList.drop i) 2 128 191 && Tk.mor (s.data.toList.drop i) 3 128 191 then 4 else 1) from Tk.size_4 _ 128 143 (by rw [HB.out]; omega)
    generalize (Tk.dec (s.data.toList.drop i)).2 = ans at *
    have q1 : decide (194 ≤ ((s[i]).toNat : Int)) = true := decide_eq_true (by omega)
    have q2 : decide (((s[i]).toNat : Int) ≤ 223) = false := decide_eq_false (by omega)
    have q3 : (((s[i]).toNat : Int) == 224) = false := beq_eq_false_iff_ne.2 (by omega)
    have q4 : (((s[i]).toNat : Int) == 237) = false := beq_eq_false_iff_ne.2 (by omega)
    have q5 : decide (225 ≤ ((s[i]).toNat : Int)) = true := decide_eq_true (by omega)
    have q6 : decide (((s[i]).toNat : Int) ≤ 239) = false := decide_eq_false (by omega)
    have q7 : (((s[i]).toNat : Int) != 237) = true := bne_iff_ne.2 (by omega)
    have q8 : (((s[i]).toNat : Int) == 240) = false := beq_eq_false_iff_ne.2 (by omega)
    have q9 : decide (241 ≤ ((s[i]).toNat : Int)) = true := decide_eq_true (by omega)
    have q10 : decide (((s[i]).toNat : Int) ≤ 243) = false := decide_eq_false (by omega)
    have q11 : (((s[i]).toNat : Int) == 244) = true := beq_iff_eq.2 (by omega)
    clear hcl HB
    go_enter Tryd.func36, Tryd.ntmps36
    go_wp2_with fail
    refine (KM.out 1 128 143 _ _ _ (by omega) rfl rfl rfl).mono ?_
    rintro e w1 ⟨rfl, rfl⟩
    cases hm1 : Tk.mor (s.data.toList.drop i) 1 128 143 with
    | true =>
      have HM1 := show Hid (Tk.mor (s.data.toList.drop i) 1 128 143 = true) from hm1
      clear hm1
      go_wp2_with fail
      refine (KM.out 2 128 191 _ _ _ (by omega) rfl rfl rfl).mono ?_
      rintro e w1 ⟨rfl, rfl⟩
      cases hm2 : Tk.mor (s.data.toList.drop i) 2 128 191 with
      | true =>
        have HM2 := show Hid (Tk.mor (s.data.toList.drop i) 2 128 191 = true) from hm2
        clear hm2
        go_wp2_with fail
        refine (KM.out 3 128 191 _ _ _ (by omega) rfl rfl rfl).mono ?_
        rintro e w1 ⟨rfl, rfl⟩
        cases hm3 : Tk.mor (s.data.toList.drop i) 3 128 191 with
        | true =>
          have HM3 := show Hid (Tk.mor (s.data.toList.drop i) 3 128 191 = true) from hm3
          clear hm3
          go_wp2_with fail
          go_ret
          exact ⟨ret_int (by rw [HV.out, HM1.out, HM2.out, HM3.out]; rfl), rfl⟩
        | false =>
          have HM3 := show Hid (Tk.mor (s.data.toList.drop i) 3 128 191 = false) from hm3
          clear hm3
          go_wp2_with fail
          go_ret
          exact ⟨ret_int (by rw [HV.out, HM1.out, HM2.out, HM3.out]; rfl), rfl⟩
      | false =>
        have HM2 := show Hid (Tk.mor (s.data.toList.drop i) 2 128 191 = false) from hm2
        clear hm2
        go_wp2_with fail
        go_ret
        exact ⟨ret_int (by rw [HV.out, HM1.out, HM2.out]; rfl), rfl⟩
    | false =>
      have HM1 := show Hid (Tk.mor (s.data.toList.drop i) 1 128 143 = false) from hm1
      clear hm1
      go_wp2_with fail
      go_ret
      exact ⟨ret_int (by rw [HV.out, HM1.out]; rfl), rfl⟩
end Go.Proofs.YtgcoalcfhflfiaaDoor
