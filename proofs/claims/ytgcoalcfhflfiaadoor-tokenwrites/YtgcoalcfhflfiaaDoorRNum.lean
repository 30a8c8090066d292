/-
  The document's calls number and at: for every text and every place. No condition beyond the text's size.
-/
import Derived.Test.YtgcoalcfhflfiaaDoorRSkip
import Derived.Test.YtgcoalcfhflfiaaDoorRByte
namespace Go.Proofs.YtgcoalcfhflfiaaDoor
open Go.RowKit

theorem drop_at (s : ByteArray) (i j : Nat) (h : i + j < s.size) : (s.data.toList.drop i)[j]'(by rw [List.length_drop]; have : s.data.toList.length = s.size := rfl; omega) = s[i + j] := by
  rw [List.getElem_drop, bytes_at s (i + j) h]
theorem inAt_drop_lt (s : ByteArray) (i j : Nat) (h : i + j < s.size) : Tk.inAt (s.data.toList.drop i) j = Tk.isIn s[i + j] := by
  unfold Tk.inAt
  have hsz : s.data.toList.length = s.size := rfl
  rw [List.getElem?_eq_getElem (by rw [List.length_drop]; omega)]
  simp only
  rw [drop_at s i j h]
theorem inAt_drop_ge (s : ByteArray) (i j : Nat) (h : s.size ≤ i + j) : Tk.inAt (s.data.toList.drop i) j = false := by
  unfold Tk.inAt
  have hsz : s.data.toList.length = s.size := rfl
  rw [List.getElem?_eq_none (by rw [List.length_drop]; omega)]
theorem run_drop_at (f : UInt8 → Bool) (s : ByteArray) (k : Nat) (h : k < s.size) (hf : f s[k] = true) : Tk.run f (s.data.toList.drop k) = Tk.run f (s.data.toList.drop (k + 1)) + 1 := by
  rw [drop_byte s k h, Tk.run_cons, if_pos hf]
theorem run_drop_not (f : UInt8 → Bool) (s : ByteArray) (k : Nat) (h : k < s.size) (hf : f s[k] = false) : Tk.run f (s.data.toList.drop k) = 0 := by
  rw [drop_byte s k h, Tk.run_cons, if_neg (by rw [hf]; simp)]
/-- What the document's calls number and one answer: the token, where it ends, the error. -/
def IsOne (i : Nat) (c : Tk.Cut) (e : Ending) : Prop := ∃ k : Nat, e = .returned (.tuple #[.agg (tokV c.1), .int .i64 (k : Int), .int .i64 c.2.2]) ∧ (c.2.2 = 0 → k = i + c.2.1)
/-- What n holds behind some digits whose value is v. -/
def NumRel (V v : Nat) : Prop := (V = v ∧ V ≤ 9999999999) ∨ (999999999 < V ∧ V ≤ 9999999999 ∧ 999999999 < v)
set_option maxRecDepth 100000 in
set_option maxHeartbeats 4000000 in
theorem rnum_any (w : World) (s : ByteArray) (i : Nat) (hs : s.size ≤ 140737488355328) (hi : i < s.size) :
    Calls Tryd.prog 45 #[.string s, .int .i64 (i : Int)] w fun e w' => IsOne i (Tk.cutNum (s.data.toList.drop i)) e ∧ Below w.heap.size w w' := by
  have HSL := show Hid (s.data.toList.length = s.size) from rfl
  obtain ⟨n, hn⟩ : ∃ n, n = Tk.run Tk.isDig (s.data.toList.drop i) := ⟨_, rfl⟩
  have hnle : i + n ≤ s.size := by
    have := Tk.run_le Tk.isDig (s.data.toList.drop i)
    rw [List.length_drop, HSL.out] at this
    omega
  have HX := show Hid (i + Tk.run Tk.isDig (s.data.toList.drop i) = i + n) from by rw [hn]; rfl
  have HA := show Hid (Tk.cutNum (s.data.toList.drop i) = if 999999999 < Tk.val 0 ((s.data.toList.drop i).take n) ∨ ((s.data.toList.drop i)[0]? = some 48 ∧ 1 < n) ∨ Tk.inAt (s.data.toList.drop i) n = true then Tk.bad 21 else ((2, [], (Tk.val 0 ((s.data.toList.drop i).take n) : Int)), n, 0)) from by rw [hn]; rfl
  have h48 : ((s.data.toList.drop i)[0]? = some 48) ↔ (s[i]).toNat = 48 := by
    rw [drop_byte s i hi, List.getElem?_cons_zero, Option.some.injEq, ← UInt8.toNat_inj]
    rfl
  have HA1 := show Hid (999999999 < Tk.val 0 ((s.data.toList.drop i).take n) → Tk.cutNum (s.data.toList.drop i) = Tk.bad 21) from fun h => by rw [HA.out, if_pos (Or.inl h)]
  have HA2 := show Hid ((s[i]).toNat = 48 → 1 < n → Tk.cutNum (s.data.toList.drop i) = Tk.bad 21) from fun h h' => by rw [HA.out, if_pos (Or.inr (Or.inl ⟨h48.2 h, h'⟩))]
  have HA3 := show Hid (Tk.inAt (s.data.toList.drop i) n = true → Tk.cutNum (s.data.toList.drop i) = Tk.bad 21) from fun h => by rw [HA.out, if_pos (Or.inr (Or.inr h))]
  have HA4 := show Hid (Tk.val 0 ((s.data.toList.drop i).take n) ≤ 999999999 → (s[i]).toNat ≠ 48 ∨ n ≤ 1 → Tk.inAt (s.data.toList.drop i) n = false → Tk.cutNum (s.data.toList.drop i) = ((2, [], (Tk.val 0 ((s.data.toList.drop i).take n) : Int)), n, 0)) from fun h h' h'' => by
    rw [HA.out, if_neg]
    rintro (h1 | h1 | h1)
    · omega
    · rcases h' with h' | h'
      · exact h' (h48.1 h1.1)
      · omega
    · rw [h''] at h1; cases h1
  clear HA hn h48
  generalize Tk.cutNum (s.data.toList.drop i) = ans at *
  have C1 := show Hid (∀ (w : World) (c : UInt8), Calls Tryd.prog 43 #[.int .u8 (c.toNat : Int)] w fun e w' => e = .returned (.bool (Tk.isDig c)) ∧ w' = w) from rdigit_any
  have C2 := show Hid (∀ (w : World) (c : UInt8), Calls Tryd.prog 28 #[.int .u8 (c.toNat : Int)] w fun e w' => e = .returned (.bool (Tk.isIn c)) ∧ w' = w) from rwithin_any
  go_enter Tryd.func45, Tryd.ntmps45
  go_wp2_with fail
  go_loopw [7, 8] (fun v v8 wr => ∃ k V : Nat, i ≤ k ∧ k ≤ s.size ∧ V ≤ 9999999999 ∧ v8 = .int .i64 k ∧ v = .int .i64 (V : Int) ∧ Hid (NumRel V (Tk.val 0 ((s.data.toList.drop i).take (k - i)))) ∧ Hid (k + Tk.run Tk.isDig (s.data.toList.drop k) = i + n) ∧ wr = w.alloc (Obj.cells #[.int .i64 0, .string ⟨#[]⟩, .int .i64 0, .int .i64 0, .int .i64 0, .int .i64 0] 37)) (fun _ v8 _ => s.size - (intOf v8).toNat)
  case atStart => exact ⟨i, 0, Nat.le_refl _, by omega, by omega, rfl, rfl, Or.inl ⟨by rw [Nat.sub_self]; rfl, by omega⟩, HX, rfl⟩
  case round =>
    obtain ⟨k, V, hik, hk, hV, rfl, rfl, HV, HK, rfl⟩ := hrel
    clear HX
    by_cases hlt : k < s.size
    · cases hin : Tk.isDig s[k] with
      | true =>
        have HK2 := show Hid (k + 1 + Tk.run Tk.isDig (s.data.toList.drop (k + 1)) = i + n) from by
          have := HK.out
          rw [run_drop_at _ s k hlt hin] at this
          show _ = _
          omega
        have hd := (isDig_iff _).1 hin
        obtain ⟨d, hdd⟩ : ∃ d, (s[k]).toNat - 48 = d := ⟨_, rfl⟩
        have hx : (((s[k]).toNat : Int) - 48) % 256 = (d : Int) := by omega
        have hd9 : d ≤ 9 := by omega
        have HV2 := show Hid (Tk.val 0 ((s.data.toList.drop i).take (k + 1 - i)) = 10 * Tk.val 0 ((s.data.toList.drop i).take (k - i)) + d) from by
          have h := val_snoc (s.data.toList.drop i) (k - i) (by rw [List.length_drop, HSL.out]; omega)
          have e : (s.data.toList.drop i)[k - i]'(by rw [List.length_drop, HSL.out]; omega) = s[k] := by
            rw [List.getElem_drop]
            have e2 : i + (k - i) = k := by omega
            simp only [e2]
            exact bytes_at s k hlt
          rw [e, hdd] at h
          rw [show k + 1 - i = k - i + 1 by omega]
          exact h
        have HIN := show Hid (Tk.isDig s[k] = true) from hin
        clear HK hin hd hdd
        go_wp2_with fail
        refine (C1.out _ s[k]).mono ?_
        rintro e w1 ⟨rfl, rfl⟩
        rw [HIN.out]
        clear HIN
        by_cases hbig : V ≤ 999999999
        · have q : decide ((V : Int) ≤ 999999999) = true := decide_eq_true (by omega)
          have HR := show Hid (NumRel (10 * V + d) (Tk.val 0 ((s.data.toList.drop i).take (k + 1 - i)))) from by
            rw [HV2.out]
            rcases HV.out with h | h
            · exact Or.inl ⟨by rw [h.1], by omega⟩
            · omega
          clear HV HV2
          go_wp2_with fail
          go_roundw
          case rel => exact ⟨k + 1, 10 * V + d, by omega, by omega, by omega, by go_num, val_int (by omega), HR, HK2, trivial⟩
          case measure => simp [intOf]; omega
        · have q : decide ((V : Int) ≤ 999999999) = false := decide_eq_false (by omega)
          have HR := show Hid (NumRel V (Tk.val 0 ((s.data.toList.drop i).take (k + 1 - i)))) from by
            rw [HV2.out]
            rcases HV.out with h | h
            · exact Or.inr ⟨by omega, hV, by omega⟩
            · exact Or.inr ⟨h.1, hV, by omega⟩
          clear HV HV2 hbig
          go_wp2_with fail
          go_roundw
          case rel => exact ⟨k + 1, V, by omega, by omega, hV, by go_num, rfl, HR, HK2, trivial⟩
          case measure => simp [intOf]; omega
      | false =>
        have hkn : k = i + n := by
          have := HK.out
          rw [run_drop_not _ s k hlt hin] at this
          omega
        have HIN := show Hid (Tk.isDig s[k] = false) from hin
        have hki : k - i = n := by omega
        rw [hki] at HV
        have hia : Tk.inAt (s.data.toList.drop i) n = Tk.isIn s[k] := by
          rw [inAt_drop_lt s i n (by omega)]
          simp only [← hkn]
        rw [hia] at HA3 HA4
        have HKN := show Hid (k = i + n) from hkn
        clear hkn hia hki HK hin hnle
        go_wp2_with fail
        refine (C1.out _ s[k]).mono ?_
        rintro e w1 ⟨rfl, rfl⟩
        rw [HIN.out]
        clear HIN
        by_cases h48 : (s[i]).toNat = 48 ∧ 1 < n
        · have hA := HA2.out h48.1 h48.2
          subst hA
          have q48 : (((s[i]).toNat : Int) == 48) = true := beq_iff_eq.2 (by omega)
          have qk : decide ((i : Int) + 1 < (k : Int)) = true := decide_eq_true (by have := HKN.out; omega)
          clear HA1 HA2 HA3 HA4 h48
          go_wp2_with fail
          refine bodyPost_ret (results_cell2_row rfl _ _ w.heap.size _ _ _ _ rfl (heap_alloc_new _ _) Tryd.underlying37 rfl (by kernel_rfl)) rfl ?_
          exact ⟨⟨k, rfl, fun h => absurd h (by decide)⟩, below_alloc _ _⟩
        · have H48 := show Hid ((s[i]).toNat ≠ 48 ∨ n ≤ 1) from by
            show (s[i]).toNat ≠ 48 ∨ n ≤ 1
            omega
          have hor : (((s[i]).toNat : Int) == 48) = false ∨ ((((s[i]).toNat : Int) == 48) = true ∧ decide ((i : Int) + 1 < (k : Int)) = false) := by
            by_cases h : (s[i]).toNat = 48
            · exact Or.inr ⟨beq_iff_eq.2 (by omega), decide_eq_false (by have := HKN.out; omega)⟩
            · exact Or.inl (beq_eq_false_iff_ne.2 (by omega))
          clear h48
          by_cases hbig : 999999999 < V
          · have q : decide (999999999 < (V : Int)) = true := decide_eq_true (by omega)
            have hA := HA1.out (by rcases HV.out with h | h <;> omega)
            subst hA
            clear HA1 HA2 HA3 HA4 HV hbig
            rcases hor with q48 | ⟨q48, q1⟩
            all_goals
              go_wp2_with fail
              refine bodyPost_ret (results_cell2_row rfl _ _ w.heap.size _ _ _ _ rfl (heap_alloc_new _ _) Tryd.underlying37 rfl (by kernel_rfl)) rfl ?_
              exact ⟨⟨k, rfl, fun h => absurd h (by decide)⟩, below_alloc _ _⟩
          · have q : decide (999999999 < (V : Int)) = false := decide_eq_false (by omega)
            have hVv : Tk.val 0 ((s.data.toList.drop i).take n) = V := by rcases HV.out with h | h <;> omega
            rw [hVv] at HA4
            clear HV hVv
            cases hin2 : Tk.isIn s[k] with
            | true =>
              have hA := HA3.out hin2
              subst hA
              have HIN2 := show Hid (Tk.isIn s[k] = true) from hin2
              clear HA1 HA2 HA3 HA4 hin2 hbig
              rcases hor with q48 | ⟨q48, q1⟩
              all_goals
                go_wp2_with fail
                refine (C2.out _ s[k]).mono ?_
                rintro e w1 ⟨rfl, rfl⟩
                rw [HIN2.out]
                go_wp2_with fail
                refine bodyPost_ret (results_cell2_row rfl _ _ w.heap.size _ _ _ _ rfl (heap_alloc_new _ _) Tryd.underlying37 rfl (by kernel_rfl)) rfl ?_
                exact ⟨⟨k, rfl, fun h => absurd h (by decide)⟩, below_alloc _ _⟩
            | false =>
              have hA := HA4.out (by omega) H48.out hin2
              subst hA
              have HIN2 := show Hid (Tk.isIn s[k] = false) from hin2
              clear HA1 HA2 HA3 HA4 hin2 hbig
              rcases hor with q48 | ⟨q48, q1⟩
              all_goals
                go_wp2_with fail
                refine (C2.out _ s[k]).mono ?_
                rintro e w1 ⟨rfl, rfl⟩
                rw [HIN2.out]
                go_wp2_with fail
                refine bodyPost_ret (results_cell2_row rfl _ _ w.heap.size _ _ _ _ rfl (heap_alloc_new _ _) Tryd.underlying37 rfl (by kernel_rfl)) rfl ?_
                exact ⟨⟨k, rfl, fun _ => HKN.out⟩, below_alloc _ _⟩
    · have hkn : k = i + n := by
        have := HK.out
        rw [List.drop_eq_nil_of_le (by rw [HSL.out]; omega)] at this
        exact this
      have hki : k - i = n := by omega
      rw [hki] at HV
      have hia : Tk.inAt (s.data.toList.drop i) n = false := inAt_drop_ge s i n (by omega)
      rw [hia] at HA4
      have HKN := show Hid (k = i + n) from hkn
      clear hkn hia hki HK hnle
      by_cases h48 : (s[i]).toNat = 48 ∧ 1 < n
      · have hA := HA2.out h48.1 h48.2
        subst hA
        have q48 : (((s[i]).toNat : Int) == 48) = true := beq_iff_eq.2 (by omega)
        have qk : decide ((i : Int) + 1 < (k : Int)) = true := decide_eq_true (by have := HKN.out; omega)
        clear HA1 HA2 HA3 HA4 h48
        go_wp2_with fail
        refine bodyPost_ret (results_cell2_row rfl _ _ w.heap.size _ _ _ _ rfl (heap_alloc_new _ _) Tryd.underlying37 rfl (by kernel_rfl)) rfl ?_
        exact ⟨⟨k, rfl, fun h => absurd h (by decide)⟩, below_alloc _ _⟩
      · have H48 := show Hid ((s[i]).toNat ≠ 48 ∨ n ≤ 1) from by
          show (s[i]).toNat ≠ 48 ∨ n ≤ 1
          omega
        have hor : (((s[i]).toNat : Int) == 48) = false ∨ ((((s[i]).toNat : Int) == 48) = true ∧ decide ((i : Int) + 1 < (k : Int)) = false) := by
          by_cases h : (s[i]).toNat = 48
          · exact Or.inr ⟨beq_iff_eq.2 (by omega), decide_eq_false (by have := HKN.out; omega)⟩
          · exact Or.inl (beq_eq_false_iff_ne.2 (by omega))
        clear h48
        by_cases hbig : 999999999 < V
        · have q : decide (999999999 < (V : Int)) = true := decide_eq_true (by omega)
          have hA := HA1.out (by rcases HV.out with h | h <;> omega)
          subst hA
          clear HA1 HA2 HA3 HA4 HV hbig
          rcases hor with q48 | ⟨q48, q1⟩
          all_goals
            go_wp2_with fail
            refine bodyPost_ret (results_cell2_row rfl _ _ w.heap.size _ _ _ _ rfl (heap_alloc_new _ _) Tryd.underlying37 rfl (by kernel_rfl)) rfl ?_
            exact ⟨⟨k, rfl, fun h => absurd h (by decide)⟩, below_alloc _ _⟩
        · have q : decide (999999999 < (V : Int)) = false := decide_eq_false (by omega)
          have hVv : Tk.val 0 ((s.data.toList.drop i).take n) = V := by rcases HV.out with h | h <;> omega
          rw [hVv] at HA4
          clear HV hVv
          have hA := HA4.out (by omega) H48.out rfl
          subst hA
          clear HA1 HA2 HA3 HA4 hbig
          rcases hor with q48 | ⟨q48, q1⟩
          all_goals
            go_wp2_with fail
            refine bodyPost_ret (results_cell2_row rfl _ _ w.heap.size _ _ _ _ rfl (heap_alloc_new _ _) Tryd.underlying37 rfl (by kernel_rfl)) rfl ?_
            exact ⟨⟨k, rfl, fun _ => HKN.out⟩, below_alloc _ _⟩
theorem ext_take (s : ByteArray) (i m : Nat) : (s.extract i (i + m)).data.toList = (s.data.toList.drop i).take m := by
  rw [ByteArray.data_extract, Array.toList_extract]
  show (s.data.toList.drop i).take (i + m - i) = _
  rw [Nat.add_sub_cancel_left]
theorem pre_eq (g l : List UInt8) : g.isPrefixOf l = (decide (g.length ≤ l.length) && (l.take g.length == g)) := by
  rw [Bool.eq_iff_iff, List.isPrefixOf_iff_prefix, Bool.and_eq_true, decide_eq_true_eq, beq_iff_eq, List.prefix_iff_eq_take]
  constructor
  · intro h
    refine ⟨?_, h.symm⟩
    have := congrArg List.length h
    rw [List.length_take] at this
    omega
  · intro h
    exact h.2.symm
set_option maxHeartbeats 1000000 in
theorem rat2_any (w : World) (s : ByteArray) (i : Nat) (g : ByteArray) (hs : s.size ≤ 140737488355328) (hg : g.size ≤ 100) (hi : i ≤ s.size) :
    Calls Tryd.prog 47 #[.string s, .int .i64 (i : Int), .string g] w fun e w' => e = .returned (.bool (g.data.toList.isPrefixOf (s.data.toList.drop i))) ∧ w' = w := by
  have hsz : s.data.toList.length = s.size := rfl
  have hgz : g.data.toList.length = g.size := rfl
  rw [pre_eq, List.length_drop, hsz, hgz]
  by_cases h : g.size ≤ s.size - i
  · have HQ := show Hid (((s.extract i (i + g.size)).toList == g.toList) = ((s.data.toList.drop i).take g.size == g.data.toList)) from by
      rw [Lib.toList_data, Lib.toList_data, ext_take]; rfl
    rw [decide_eq_true h, Bool.true_and, ← HQ.out]
    have q : decide ((g.size : Int) ≤ (s.size : Int) - (i : Int)) = true := decide_eq_true (by omega)
    have hle : i + g.size ≤ s.size := by omega
    clear HQ hsz hgz
    go_enter Tryd.func47, Tryd.ntmps47
    go_wp2
    go_ret
    exact ⟨rfl, rfl⟩
  · rw [decide_eq_false h, Bool.false_and]
    have q : decide ((g.size : Int) ≤ (s.size : Int) - (i : Int)) = false := decide_eq_false (by omega)
    clear hsz hgz
    go_enter Tryd.func47, Tryd.ntmps47
    go_wp2
    go_ret
    exact ⟨rfl, rfl⟩
end Go.Proofs.YtgcoalcfhflfiaaDoor
