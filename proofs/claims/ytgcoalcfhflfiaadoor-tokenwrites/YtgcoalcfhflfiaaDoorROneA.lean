/-
  The document's call one, whole: the token at a place: for every text and every place in it or at its end. No condition beyond the text's size.
-/
import Derived.Test.YtgcoalcfhflfiaaDoorROne
namespace Go.Proofs.YtgcoalcfhflfiaaDoor
open Go.RowKit

theorem bytes_mk (s : ByteArray) : (⟨s.data.toList.toArray⟩ : ByteArray) = s := by cases s; simp
set_option maxRecDepth 100000 in
set_option maxHeartbeats 4000000 in
theorem rone_end (w : World) (s : ByteArray) (i : Nat) (_hs : s.size ≤ 140737488355328) (hi : i = s.size) :
    Calls Tryd.prog 33 #[.string s, .int .i64 (i : Int)] w fun e w' => IsOne i ((0, [], 0), 0, 0) e ∧ Below w.heap.size w w' := by
  subst hi
  go_enter Tryd.func33, Tryd.ntmps33
  go_wp2_with fail
  refine bodyPost_ret (results_cell2_row rfl _ _ w.heap.size _ _ _ _ rfl (heap_alloc_new _ _) Tryd.underlying37 rfl (by kernel_rfl)) rfl ?_
  exact ⟨⟨s.size, rfl, fun _ => rfl⟩, below_alloc _ _⟩
set_option maxRecDepth 100000 in
set_option maxHeartbeats 4000000 in
theorem rone_num (w : World) (s : ByteArray) (i : Nat) (hs : s.size ≤ 140737488355328) (hi : i < s.size) (hb : Tk.isBeg s[i] = false) (hd : Tk.isDig s[i] = true) :
    Calls Tryd.prog 33 #[.string s, .int .i64 (i : Int)] w fun e w' => IsOne i (Tk.cutNum (s.data.toList.drop i)) e ∧ Below w.heap.size w w' := by
  have KL := show Hid (∀ w : World, Calls Tryd.prog 27 #[.int .u8 ((s[i]).toNat : Int)] w fun e w' => e = .returned (.bool false) ∧ w' = w) from fun w => by have := rletter_any w s[i]; rw [hb] at this; exact this
  have KD := show Hid (∀ w : World, Calls Tryd.prog 43 #[.int .u8 ((s[i]).toNat : Int)] w fun e w' => e = .returned (.bool true) ∧ w' = w) from fun w => by have := rdigit_any w s[i]; rw [hd] at this; exact this
  have KN := show Hid (∀ w : World, Calls Tryd.prog 45 #[.string s, .int .i64 (i : Int)] w fun e w' => IsOne i (Tk.cutNum (s.data.toList.drop i)) e ∧ Below w.heap.size w w') from fun w => rnum_any w s i hs hi
  generalize Tk.cutNum (s.data.toList.drop i) = ans at *
  have HZ : Hid (T6 (w.alloc tok0) w.heap.size (.int .i64 0) (.string ⟨#[]⟩) (.int .i64 0) (.int .i64 0) (.int .i64 0) (.int .i64 0)) := heap_alloc_new _ _
  clear hb hd
  go_enter Tryd.func33, Tryd.ntmps33
  go_wp2_with fail
  refine (KL.out _).mono ?_
  rintro e w0 ⟨rfl, rfl⟩
  go_wp2_with fail
  refine (KD.out _).mono ?_
  rintro e w0 ⟨rfl, rfl⟩
  go_wp2_with fail
  refine (KN.out (w.alloc tok0)).mono ?_
  rintro e w1 ⟨⟨k, rfl, hk⟩, hb1⟩
  have HB := show Hid (Below w.heap.size w w1) from (below_alloc _ _).trans (hb1.mono (by simp))
  have HR := show Hid (T6 w1 w.heap.size (.int .i64 0) (.string ⟨#[]⟩) (.int .i64 0) (.int .i64 0) (.int .i64 0) (.int .i64 0)) from (hb1.block _ (by simp)).trans HZ.out
  have HK := show Hid (ans.2.2 = 0 → k = i + ans.2.1) from hk
  have hc0 := HR.out.c0; have hc1 := HR.out.c1; have hc2 := HR.out.c2; have hc3 := HR.out.c3; have hc4 := HR.out.c4; have hc5 := HR.out.c5; have hcf := HR.out.fr
  clear hb1 KN KL KD hk
  obtain ⟨⟨tk, tt, ti⟩, tn, te⟩ := ans
  unfold tokV
  go_wp2_with fail
  have hfin := HR.out.s6 (.int .i64 tk) (.string ⟨tt.toArray⟩) (.int .i64 ti) (.int .i64 0) (.int .i64 0) (.int .i64 0)
  unfold set6 at hfin
  refine bodyPost_ret (results_cell2_row rfl _ _ w.heap.size _ _ _ _ rfl hfin Tryd.underlying37 rfl (by kernel_rfl)) rfl ?_
  exact ⟨⟨k, rfl, HK.out⟩, below_set6 HB.out (Nat.le_refl _) _ _ _ _ _ _⟩
set_option maxRecDepth 100000 in
set_option maxHeartbeats 4000000 in
theorem rone_name (w : World) (s : ByteArray) (i : Nat) (hs : s.size ≤ 140737488355328) (hi : i < s.size) (hb : Tk.isBeg s[i] = true) :
    Calls Tryd.prog 33 #[.string s, .int .i64 (i : Int)] w fun e w' => IsOne i (Tk.cutName (s.data.toList.drop i)) e ∧ Below w.heap.size w w' := by
  have HSL := show Hid (s.data.toList.length = s.size) from rfl
  have KL := show Hid (∀ w : World, Calls Tryd.prog 27 #[.int .u8 ((s[i]).toNat : Int)] w fun e w' => e = .returned (.bool true) ∧ w' = w) from fun w => by have := rletter_any w s[i]; rw [hb] at this; exact this
  have KW := show Hid (∀ (w : World) (c : UInt8), Calls Tryd.prog 28 #[.int .u8 (c.toNat : Int)] w fun e w' => e = .returned (.bool (Tk.isIn c)) ∧ w' = w) from rwithin_any
  obtain ⟨n, hn⟩ : ∃ n, n = Tk.run Tk.isIn (s.data.toList.drop i) := ⟨_, rfl⟩
  have HNL := show Hid (i + n ≤ s.size) from by
    have := Tk.run_le Tk.isIn (s.data.toList.drop i)
    rw [List.length_drop, HSL.out] at this
    show _ ≤ _
    omega
  have HX := show Hid (i + Tk.run Tk.isIn (s.data.toList.drop i) = i + n) from by rw [hn]; rfl
  have HA := show Hid (Tk.cutName (s.data.toList.drop i) = if 31 < n then Tk.bad 22 else ((1, (s.data.toList.drop i).take n, 0), n, 0)) from by rw [hn]; rfl
  clear hn hb
  generalize Tk.cutName (s.data.toList.drop i) = ans at *
  go_enter Tryd.func33, Tryd.ntmps33
  go_wp2_with fail
  refine (KL.out _).mono ?_
  rintro e w0 ⟨rfl, rfl⟩
  go_wp2_with fail
  go_loopw [7] (fun v wr => ∃ k : Nat, i ≤ k ∧ k ≤ s.size ∧ v = .int .i64 k ∧ Hid (k + Tk.run Tk.isIn (s.data.toList.drop k) = i + n) ∧ wr = w.alloc (Obj.cells #[.int .i64 0, .string ⟨#[]⟩, .int .i64 0, .int .i64 0, .int .i64 0, .int .i64 0] 37)) (fun v _ => s.size - (intOf v).toNat)
  case atStart => exact ⟨i, Nat.le_refl _, by omega, rfl, HX, rfl⟩
  case round =>
    obtain ⟨k, hik, hk, rfl, HK, rfl⟩ := hrel
    clear HX
    by_cases hlt : k < s.size
    · cases hin : Tk.isIn s[k] with
      | true =>
        have HK2 := show Hid (k + 1 + Tk.run Tk.isIn (s.data.toList.drop (k + 1)) = i + n) from by
          have := HK.out
          rw [run_drop_at _ s k hlt hin] at this
          show _ = _
          omega
        have HIN := show Hid (Tk.isIn s[k] = true) from hin
        clear HK hin
        go_wp2_with fail
        refine (KW.out _ s[k]).mono ?_
        rintro e w1 ⟨rfl, rfl⟩
        rw [HIN.out]
        go_wp2_with fail
        go_roundw
        case rel => exact ⟨k + 1, by omega, by omega, by go_num, HK2, trivial⟩
        case measure => simp [intOf]; omega
      | false =>
        have HKN := show Hid (k = i + n) from by
          have := HK.out
          rw [run_drop_not _ s k hlt hin] at this
          exact this
        have HIN := show Hid (Tk.isIn s[k] = false) from hin
        clear HK hin
        go_wp2_with fail
        refine (KW.out _ s[k]).mono ?_
        rintro e w1 ⟨rfl, rfl⟩
        rw [HIN.out]
        clear HIN
        by_cases h31 : 31 < n
        · have hA := HA.out
          rw [if_pos h31] at hA
          subst hA
          have q : decide (31 < (k : Int) - (i : Int)) = true := decide_eq_true (by have := HKN.out; omega)
          clear HA h31
          go_wp2_with fail
          refine bodyPost_ret (results_cell2_row rfl _ _ w.heap.size _ _ _ _ rfl (heap_alloc_new _ _) Tryd.underlying37 rfl (by kernel_rfl)) rfl ?_
          exact ⟨⟨k, rfl, fun h => absurd h (by decide)⟩, below_alloc _ _⟩
        · have hA := HA.out
          rw [if_neg h31] at hA
          subst hA
          have q : decide (31 < (k : Int) - (i : Int)) = false := decide_eq_false (by have := HKN.out; omega)
          have HT := show Hid (s.extract i k = ⟨((s.data.toList.drop i).take n).toArray⟩) from by
            rw [← bytes_mk (s.extract i k), HKN.out, ext_take]; rfl
          clear HA h31
          go_wp2_with fail
          refine bodyPost_ret (results_cell2_row rfl _ _ w.heap.size _ _ _ _ rfl (heap_alloc_new _ _) Tryd.underlying37 rfl (by kernel_rfl)) rfl ?_
          exact ⟨⟨k, by rw [HT.out]; rfl, fun _ => HKN.out⟩, below_alloc _ _⟩
    · have HKN := show Hid (k = i + n) from by
        have := HK.out
        rw [List.drop_eq_nil_of_le (by rw [HSL.out]; omega)] at this
        exact this
      clear HK
      by_cases h31 : 31 < n
      · have hA := HA.out
        rw [if_pos h31] at hA
        subst hA
        have q : decide (31 < (k : Int) - (i : Int)) = true := decide_eq_true (by have := HKN.out; omega)
        clear HA h31
        go_wp2_with fail
        refine bodyPost_ret (results_cell2_row rfl _ _ w.heap.size _ _ _ _ rfl (heap_alloc_new _ _) Tryd.underlying37 rfl (by kernel_rfl)) rfl ?_
        exact ⟨⟨k, rfl, fun h => absurd h (by decide)⟩, below_alloc _ _⟩
      · have hA := HA.out
        rw [if_neg h31] at hA
        subst hA
        have q : decide (31 < (k : Int) - (i : Int)) = false := decide_eq_false (by have := HKN.out; omega)
        have HT := show Hid (s.extract i k = ⟨((s.data.toList.drop i).take n).toArray⟩) from by
          rw [← bytes_mk (s.extract i k), HKN.out, ext_take]; rfl
        clear HA h31
        go_wp2_with fail
        refine bodyPost_ret (results_cell2_row rfl _ _ w.heap.size _ _ _ _ rfl (heap_alloc_new _ _) Tryd.underlying37 rfl (by kernel_rfl)) rfl ?_
        exact ⟨⟨k, by rw [HT.out]; rfl, fun _ => HKN.out⟩, below_alloc _ _⟩
theorem rone_any (w : World) (s : ByteArray) (i : Nat) (hs : s.size ≤ 140737488355328) (hi : i ≤ s.size) :
    Calls Tryd.prog 33 #[.string s, .int .i64 (i : Int)] w fun e w' => IsOne i (Tk.cut (s.data.toList.drop i)) e ∧ Below w.heap.size w w' := by
  by_cases h : i < s.size
  · have e := Tk.cut_spec s[i] (s.data.toList.drop (i + 1))
    rw [← drop_byte s i h] at e
    rw [e]
    cases hb : Tk.isBeg s[i] with
    | true => exact rone_name w s i hs h hb
    | false =>
      cases hd : Tk.isDig s[i] with
      | true => exact rone_num w s i hs h hb hd
      | false => exact rone_rest w s i hs h hb hd
  · rw [List.drop_eq_nil_of_le (by show s.size ≤ i; omega)]
    exact rone_end w s i hs (by omega)
end Go.Proofs.YtgcoalcfhflfiaaDoor
