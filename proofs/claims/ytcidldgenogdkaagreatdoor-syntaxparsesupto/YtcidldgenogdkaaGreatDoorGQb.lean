/-
  The document's call skip: over blanks and comments: for every text and every place. No condition beyond the text's size.
-/
import Derived.Test.YtcidldgenogdkaaGreatDoorGTc
import Derived.Test.YtcidldgenogdkaaGreatDoorGQa
import Derived.Test.YtcidldgenogdkaaGreatDoorGTd
namespace Go.Proofs.YtcidldgenogdkaaGreatDoor.Tw
open Go.RowKit

set_option maxRecDepth 100000 in
set_option maxHeartbeats 2000000 in
theorem rskip_any (w : World) (s : ByteArray) (o : Nat) (hs : s.size ≤ 140737488355328) (ho : o ≤ s.size) :
    Calls Tryz.prog 91 #[.string s, .int .i64 (o : Int)] w fun e w' => e = .returned (.int .i64 ((o + Tk.skip (s.data.toList.drop o) : Nat) : Int)) ∧ w' = w := by
  have HSL := show Hid (s.data.toList.length = s.size) from rfl
  obtain ⟨ende, hend⟩ : ∃ ende, ende = o + Tk.skip (s.data.toList.drop o) := ⟨_, rfl⟩
  rw [← hend]
  have HN := show Hid (o + Tk.skip (s.data.toList.drop o) = ende) from hend.symm
  have HO := show Hid (o ≤ s.size) from ho
  clear hend ho
  go_enter Tryz.func91, Tryz.ntmps91
  go_wp2
  go_loopw [1] (fun v wr => ∃ k : Nat, k ≤ s.size ∧ v = .int .i64 k ∧ Hid (k + Tk.skip (s.data.toList.drop k) = ende) ∧ wr = w) (fun v _ => s.size - (intOf v).toNat)
  case atStart => exact ⟨o, HO.out, rfl, HN, rfl⟩
  case round =>
    obtain ⟨k, hk, rfl, HE, rfl⟩ := hrel
    clear HN
    by_cases hlt : k < s.size
    · cases hbl : Tk.isBlank s[k] with
      | true =>
        have hor : (((s[k]).toNat : Int) == 32) = true ∨ ((((s[k]).toNat : Int) == 32) = false ∧ (((s[k]).toNat : Int) == 9) = true) ∨ ((((s[k]).toNat : Int) == 32) = false ∧ (((s[k]).toNat : Int) == 9) = false ∧ (((s[k]).toNat : Int) == 10) = true) ∨ ((((s[k]).toNat : Int) == 32) = false ∧ (((s[k]).toNat : Int) == 9) = false ∧ (((s[k]).toNat : Int) == 10) = false ∧ (((s[k]).toNat : Int) == 13) = true) := by
          simp only [Tk.isBlank, Bool.or_eq_true, decide_eq_true_eq] at hbl
          simp only [beq_iff_eq, beq_eq_false_iff_ne]
          omega
        have HE2 := show Hid (k + 1 + Tk.skip (s.data.toList.drop (k + 1)) = ende) from by
          have h := HE.out
          rw [drop_byte s k hlt, Tk.skip_blank _ _ hbl] at h
          show _ = _
          omega
        clear hbl HE
        rcases hor with q1 | ⟨q1, q2⟩ | ⟨q1, q2, q3⟩ | ⟨q1, q2, q3, q4⟩
        all_goals
          go_wp2
          go_roundw
          case rel => exact ⟨k + 1, by omega, by go_num, HE2, trivial⟩
          case measure => simp [intOf]; omega
      | false =>
        have hq : (((s[k]).toNat : Int) == 32) = false ∧ (((s[k]).toNat : Int) == 9) = false ∧ (((s[k]).toNat : Int) == 10) = false ∧ (((s[k]).toNat : Int) == 13) = false := by
          simp only [Tk.isBlank, Bool.or_eq_false_iff, decide_eq_false_iff_not] at hbl
          simp only [beq_eq_false_iff_ne]
          omega
        obtain ⟨q1, q2, q3, q4⟩ := hq
        by_cases h35 : (s[k]).toNat = 35
        · have q5 : (((s[k]).toNat : Int) != 35) = false := by simp [h35]
          obtain ⟨je, hje⟩ : ∃ je, je = k + Tk.run (fun c => c != 10) (s.data.toList.drop k) := ⟨_, rfl⟩
          have hrn := Tk.run_le (fun c => c != 10) (s.data.toList.drop k)
          rw [List.length_drop, HSL.out] at hrn
          have hr1 : 1 ≤ Tk.run (fun c => c != 10) (s.data.toList.drop k) := by rw [drop_byte s k hlt]; exact Tk.run_hash _ _ h35
          have HJ := show Hid (k + Tk.run (fun c => c != 10) (s.data.toList.drop k) = je) from hje.symm
          have HE2 := show Hid (je + Tk.skip (s.data.toList.drop je) = ende) from by
            have h := HE.out
            have h2 := Tk.skip_hash s[k] (s.data.toList.drop (k + 1)) h35
            rw [← drop_byte s k hlt, List.drop_drop, ← hje] at h2
            rw [h2] at h
            show _ = _
            omega
          have hjs : je ≤ s.size := by omega
          have hkj : k < je := by omega
          clear hbl HE h35 hje hrn hr1
          go_wp2
          go_loopw [1] (fun v wr2 => ∃ j : Nat, k ≤ j ∧ j ≤ je ∧ v = .int .i64 j ∧ Hid (j + Tk.run (fun c => c != 10) (s.data.toList.drop j) = je) ∧ wr2 = wr) (fun v _ => s.size - (intOf v).toNat)
          case atStart => exact ⟨k, Nat.le_refl _, by omega, rfl, HJ, rfl⟩
          case round =>
            obtain ⟨j, hkj2, hjj, rfl, HJ2, rfl⟩ := hrel
            clear HJ
            by_cases hjl : j < s.size
            · by_cases h10 : (s[j]).toNat = 10
              · have q10 : (((s[j]).toNat : Int) != 10) = false := by simp [h10]
                have hjd : j = je := by
                  have h := HJ2.out
                  rw [drop_byte s j hjl, Tk.run_cons, if_neg (by
                    have : s[j] = 10 := UInt8.toNat_inj.1 h10
                    rw [this]; decide)] at h
                  exact h
                subst hjd
                clear HJ2 h10
                go_wp2
                go_roundw
                case rel => exact ⟨j, hjs, rfl, HE2, trivial⟩
                case measure => simp [intOf]; omega
              · have q10 : (((s[j]).toNat : Int) != 10) = true := by simp; omega
                have HJ3 := show Hid (j + 1 + Tk.run (fun c => c != 10) (s.data.toList.drop (j + 1)) = je) from by
                  have h := HJ2.out
                  rw [drop_byte s j hjl, Tk.run_cons, if_pos (by
                    simp only [bne_iff_ne, ne_eq]; intro e; rw [e] at h10; exact h10 rfl)] at h
                  show _ = _
                  omega
                have hj1 : j + 1 ≤ je := by have := HJ3.out; omega
                clear HJ2 h10
                go_wp2
                go_roundw
                case rel => exact ⟨j + 1, by omega, hj1, by go_num, HJ3, trivial⟩
                case measure => simp [intOf]; omega
            · have hjd : j = je := by omega
              subst hjd
              clear HJ2
              go_wp2
              go_roundw
              case rel => exact ⟨j, hjs, rfl, HE2, trivial⟩
              case measure => simp [intOf]; omega
        · have q5 : (((s[k]).toNat : Int) != 35) = true := by simp; omega
          have hE := HE.out
          rw [drop_byte s k hlt, Tk.skip_else _ _ hbl h35, Nat.add_zero] at hE
          subst hE
          clear HE hbl h35
          go_wp2
          go_ret
          exact ⟨rfl, rfl⟩
    · have hE := HE.out
      rw [List.drop_eq_nil_of_le (by rw [HSL.out]; omega), Tk.skip_nil, Nat.add_zero] at hE
      subst hE
      clear HE
      go_wp2
      go_ret
      exact ⟨rfl, rfl⟩
end Go.Proofs.YtcidldgenogdkaaGreatDoor.Tw
/-
  The document's calls number and at: for every text and every place. No condition beyond the text's size.
-/
namespace Go.Proofs.YtcidldgenogdkaaGreatDoor.Tw
open Go.RowKit

theorem drop_at (s : ByteArray) (i j : Nat) (h : i + j < s.size) : (s.data.toList.drop i)[j]'(by rw [List.length_drop]; have : s.data.toList.length = s.size := rfl; omega) = s[i + j] := by
  rw [List.getElem_drop, bytes_at s (i + j) h]
theorem inAt_drop_lt (s : ByteArray) (i j : Nat) (h : i + j < s.size) : Tk.inAt (s.data.toList.drop i) j = Tk.isIn s[i + j] := by
  unfold Tk.inAt
  have hsz : s.data.toList.length = s.size := rfl
  rw [List.getElem?_eq_getElem (by rw [List.length_drop]; omega)]
  simp only
  rw [drop_at s i j h]
theorem inAt_drop_ge (s : ByteArray) (i j : Nat) (h : s.size ≤ i + j) : Tk.inAt (s.data.toList.drop i) j = false := by
  unfold Tk.inAt
  have hsz : s.data.toList.length = s.size := rfl
  rw [List.getElem?_eq_none (by rw [List.length_drop]; omega)]
theorem run_drop_at (f : UInt8 → Bool) (s : ByteArray) (k : Nat) (h : k < s.size) (hf : f s[k] = true) : Tk.run f (s.data.toList.drop k) = Tk.run f (s.data.toList.drop (k + 1)) + 1 := by
  rw [drop_byte s k h, Tk.run_cons, if_pos hf]
theorem run_drop_not (f : UInt8 → Bool) (s : ByteArray) (k : Nat) (h : k < s.size) (hf : f s[k] = false) : Tk.run f (s.data.toList.drop k) = 0 := by
  rw [drop_byte s k h, Tk.run_cons, if_neg (by rw [hf]; simp)]
/-- What the document's calls number and one answer: the token, where it ends, the error. -/
def IsOne (i : Nat) (c : Tk.Cut) (e : Ending) : Prop := ∃ k : Nat, e = .returned (.tuple #[.agg (tokV c.1), .int .i64 (k : Int), .int .i64 c.2.2]) ∧ (c.2.2 = 0 → k = i + c.2.1)
/-- What n holds behind some digits whose value is v. -/
def NumRel (V v : Nat) : Prop := (V = v ∧ V ≤ 9999999999) ∨ (999999999 < V ∧ V ≤ 9999999999 ∧ 999999999 < v)
set_option maxRecDepth 100000 in
set_option maxHeartbeats 4000000 in
theorem rnum_any (w : World) (s : ByteArray) (i : Nat) (hs : s.size ≤ 140737488355328) (hi : i < s.size) :
    Calls Tryz.prog 120 #[.string s, .int .i64 (i : Int)] w fun e w' => IsOne i (Tk.cutNum (s.data.toList.drop i)) e ∧ Below w.heap.size w w' := by
  have HSL := show Hid (s.data.toList.length = s.size) from rfl
  obtain ⟨n, hn⟩ : ∃ n, n = Tk.run Tk.isDig (s.data.toList.drop i) := ⟨_, rfl⟩
  have hnle : i + n ≤ s.size := by
    have := Tk.run_le Tk.isDig (s.data.toList.drop i)
    rw [List.length_drop, HSL.out] at this
    omega
  have HX := show Hid (i + Tk.run Tk.isDig (s.data.toList.drop i) = i + n) from by rw [hn]; rfl
  have HA := show Hid (Tk.cutNum (s.data.toList.drop i) = if 999999999 < Tk.val 0 ((s.data.toList.drop i).take n) ∨ ((s.data.toList.drop i)[0]? = some 48 ∧ 1 < n) ∨ Tk.inAt (s.data.toList.drop i) n = true then Tk.bad 21 else ((2, [], (Tk.val 0 ((s.data.toList.drop i).take n) : Int)), n, 0)) from by rw [hn]; rfl
  have h48 : ((s.data.toList.drop i)[0]? = some 48) ↔ (s[i]).toNat = 48 := by
    rw [drop_byte s i hi, List.getElem?_cons_zero, Option.some.injEq, ← UInt8.toNat_inj]
    rfl
  have HA1 := show Hid (999999999 < Tk.val 0 ((s.data.toList.drop i).take n) → Tk.cutNum (s.data.toList.drop i) = Tk.bad 21) from fun h => by rw [HA.out, if_pos (Or.inl h)]
  have HA2 := show Hid ((s[i]).toNat = 48 → 1 < n → Tk.cutNum (s.data.toList.drop i) = Tk.bad 21) from fun h h' => by rw [HA.out, if_pos (Or.inr (Or.inl ⟨h48.2 h, h'⟩))]
  have HA3 := show Hid (Tk.inAt (s.data.toList.drop i) n = true → Tk.cutNum (s.data.toList.drop i) = Tk.bad 21) from fun h => by rw [HA.out, if_pos (Or.inr (Or.inr h))]
  have HA4 := show Hid (Tk.val 0 ((s.data.toList.drop i).take n) ≤ 999999999 → (s[i]).toNat ≠ 48 ∨ n ≤ 1 → Tk.inAt (s.data.toList.drop i) n = false → Tk.cutNum (s.data.toList.drop i) = ((2, [], (Tk.val 0 ((s.data.toList.drop i).take n) : Int)), n, 0)) from fun h h' h'' => by
    rw [HA.out, if_neg]
    rintro (h1 | h1 | h1)
    · omega
    · rcases h' with h' | h'
      · exact h' (h48.1 h1.1)
      · omega
    · rw [h''] at h1; cases h1
  clear HA hn h48
  generalize Tk.cutNum (s.data.toList.drop i) = ans at *
  have C1 := show Hid (∀ (w : World) (c : UInt8), Calls Tryz.prog 119 #[.int .u8 (c.toNat : Int)] w fun e w' => e = .returned (.bool (Tk.isDig c)) ∧ w' = w) from rdigit_any
  have C2 := show Hid (∀ (w : World) (c : UInt8), Calls Tryz.prog 118 #[.int .u8 (c.toNat : Int)] w fun e w' => e = .returned (.bool (Tk.isIn c)) ∧ w' = w) from rwithin_any
  go_enter Tryz.func120, Tryz.ntmps120
  go_wp2_with fail
  go_loopw [7, 8] (fun v v8 wr => ∃ k V : Nat, i ≤ k ∧ k ≤ s.size ∧ V ≤ 9999999999 ∧ v8 = .int .i64 k ∧ v = .int .i64 (V : Int) ∧ Hid (NumRel V (Tk.val 0 ((s.data.toList.drop i).take (k - i)))) ∧ Hid (k + Tk.run Tk.isDig (s.data.toList.drop k) = i + n) ∧ wr = w.alloc (Obj.cells #[.int .i64 0, .string ⟨#[]⟩, .int .i64 0, .int .i64 0, .int .i64 0, .int .i64 0] 45)) (fun _ v8 _ => s.size - (intOf v8).toNat)
  case atStart => exact ⟨i, 0, Nat.le_refl _, by omega, by omega, rfl, rfl, Or.inl ⟨by rw [Nat.sub_self]; rfl, by omega⟩, HX, rfl⟩
  case round =>
    obtain ⟨k, V, hik, hk, hV, rfl, rfl, HV, HK, rfl⟩ := hrel
    clear HX
    by_cases hlt : k < s.size
    · cases hin : Tk.isDig s[k] with
      | true =>
        have HK2 := show Hid (k + 1 + Tk.run Tk.isDig (s.data.toList.drop (k + 1)) = i + n) from by
          have := HK.out
          rw [run_drop_at _ s k hlt hin] at this
          show _ = _
          omega
        have hd := (isDig_iff _).1 hin
        obtain ⟨d, hdd⟩ : ∃ d, (s[k]).toNat - 48 = d := ⟨_, rfl⟩
        have hx : (((s[k]).toNat : Int) - 48) % 256 = (d : Int) := by omega
        have hd9 : d ≤ 9 := by omega
        have HV2 := show Hid (Tk.val 0 ((s.data.toList.drop i).take (k + 1 - i)) = 10 * Tk.val 0 ((s.data.toList.drop i).take (k - i)) + d) from by
          have h := val_snoc (s.data.toList.drop i) (k - i) (by rw [List.length_drop, HSL.out]; omega)
          have e : (s.data.toList.drop i)[k - i]'(by rw [List.length_drop, HSL.out]; omega) = s[k] := by
            rw [List.getElem_drop]
            have e2 : i + (k - i) = k := by omega
            simp only [e2]
            exact bytes_at s k hlt
          rw [e, hdd] at h
          rw [show k + 1 - i = k - i + 1 by omega]
          exact h
        have HIN := show Hid (Tk.isDig s[k] = true) from hin
        clear HK hin hd hdd
        go_wp2_with fail
        refine (C1.out _ s[k]).mono ?_
        rintro e w1 ⟨rfl, rfl⟩
        rw [HIN.out]
        clear HIN
        by_cases hbig : V ≤ 999999999
        · have q : decide ((V : Int) ≤ 999999999) = true := decide_eq_true (by omega)
          have HR := show Hid (NumRel (10 * V + d) (Tk.val 0 ((s.data.toList.drop i).take (k + 1 - i)))) from by
            rw [HV2.out]
            rcases HV.out with h | h
            · exact Or.inl ⟨by rw [h.1], by omega⟩
            · omega
          clear HV HV2
          go_wp2_with fail
          go_roundw
          case rel => exact ⟨k + 1, 10 * V + d, by omega, by omega, by omega, by go_num, val_int (by omega), HR, HK2, trivial⟩
          case measure => simp [intOf]; omega
        · have q : decide ((V : Int) ≤ 999999999) = false := decide_eq_false (by omega)
          have HR := show Hid (NumRel V (Tk.val 0 ((s.data.toList.drop i).take (k + 1 - i)))) from by
            rw [HV2.out]
            rcases HV.out with h | h
            · exact Or.inr ⟨by omega, hV, by omega⟩
            · exact Or.inr ⟨h.1, hV, by omega⟩
          clear HV HV2 hbig
          go_wp2_with fail
          go_roundw
          case rel => exact ⟨k + 1, V, by omega, by omega, hV, by go_num, rfl, HR, HK2, trivial⟩
          case measure => simp [intOf]; omega
      | false =>
        have hkn : k = i + n := by
          have := HK.out
          rw [run_drop_not _ s k hlt hin] at this
          omega
        have HIN := show Hid (Tk.isDig s[k] = false) from hin
        have hki : k - i = n := by omega
        rw [hki] at HV
        have hia : Tk.inAt (s.data.toList.drop i) n = Tk.isIn s[k] := by
          rw [inAt_drop_lt s i n (by omega)]
          simp only [← hkn]
        rw [hia] at HA3 HA4
        have HKN := show Hid (k = i + n) from hkn
        clear hkn hia hki HK hin hnle
        go_wp2_with fail
        refine (C1.out _ s[k]).mono ?_
        rintro e w1 ⟨rfl, rfl⟩
        rw [HIN.out]
        clear HIN
        by_cases h48 : (s[i]).toNat = 48 ∧ 1 < n
        · have hA := HA2.out h48.1 h48.2
          subst hA
          have q48 : (((s[i]).toNat : Int) == 48) = true := beq_iff_eq.2 (by omega)
          have qk : decide ((i : Int) + 1 < (k : Int)) = true := decide_eq_true (by have := HKN.out; omega)
          clear HA1 HA2 HA3 HA4 h48
          go_wp2_with fail
          refine bodyPost_ret (results_cell2_row rfl _ _ w.heap.size _ _ _ _ rfl (heap_alloc_new _ _) Tryz.underlying45 rfl (by kernel_rfl)) rfl ?_
          exact ⟨⟨k, rfl, fun h => absurd h (by decide)⟩, below_alloc _ _⟩
        · have H48 := show Hid ((s[i]).toNat ≠ 48 ∨ n ≤ 1) from by
            show (s[i]).toNat ≠ 48 ∨ n ≤ 1
            omega
          have hor : (((s[i]).toNat : Int) == 48) = false ∨ ((((s[i]).toNat : Int) == 48) = true ∧ decide ((i : Int) + 1 < (k : Int)) = false) := by
            by_cases h : (s[i]).toNat = 48
            · exact Or.inr ⟨beq_iff_eq.2 (by omega), decide_eq_false (by have := HKN.out; omega)⟩
            · exact Or.inl (beq_eq_false_iff_ne.2 (by omega))
          clear h48
          by_cases hbig : 999999999 < V
          · have q : decide (999999999 < (V : Int)) = true := decide_eq_true (by omega)
            have hA := HA1.out (by rcases HV.out with h | h <;> omega)
            subst hA
            clear HA1 HA2 HA3 HA4 HV hbig
            rcases hor with q48 | ⟨q48, q1⟩
            all_goals
              go_wp2_with fail
              refine bodyPost_ret (results_cell2_row rfl _ _ w.heap.size _ _ _ _ rfl (heap_alloc_new _ _) Tryz.underlying45 rfl (by kernel_rfl)) rfl ?_
              exact ⟨⟨k, rfl, fun h => absurd h (by decide)⟩, below_alloc _ _⟩
          · have q : decide (999999999 < (V : Int)) = false := decide_eq_false (by omega)
            have hVv : Tk.val 0 ((s.data.toList.drop i).take n) = V := by rcases HV.out with h | h <;> omega
            rw [hVv] at HA4
            clear HV hVv
            cases hin2 : Tk.isIn s[k] with
            | true =>
              have hA := HA3.out hin2
              subst hA
              have HIN2 := show Hid (Tk.isIn s[k] = true) from hin2
              clear HA1 HA2 HA3 HA4 hin2 hbig
              rcases hor with q48 | ⟨q48, q1⟩
              all_goals
                go_wp2_with fail
                refine (C2.out _ s[k]).mono ?_
                rintro e w1 ⟨rfl, rfl⟩
                rw [HIN2.out]
                go_wp2_with fail
                refine bodyPost_ret (results_cell2_row rfl _ _ w.heap.size _ _ _ _ rfl (heap_alloc_new _ _) Tryz.underlying45 rfl (by kernel_rfl)) rfl ?_
                exact ⟨⟨k, rfl, fun h => absurd h (by decide)⟩, below_alloc _ _⟩
            | false =>
              have hA := HA4.out (by omega) H48.out hin2
              subst hA
              have HIN2 := show Hid (Tk.isIn s[k] = false) from hin2
              clear HA1 HA2 HA3 HA4 hin2 hbig
              rcases hor with q48 | ⟨q48, q1⟩
              all_goals
                go_wp2_with fail
                refine (C2.out _ s[k]).mono ?_
                rintro e w1 ⟨rfl, rfl⟩
                rw [HIN2.out]
                go_wp2_with fail
                refine bodyPost_ret (results_cell2_row rfl _ _ w.heap.size _ _ _ _ rfl (heap_alloc_new _ _) Tryz.underlying45 rfl (by kernel_rfl)) rfl ?_
                exact ⟨⟨k, rfl, fun _ => HKN.out⟩, below_alloc _ _⟩
    · have hkn : k = i + n := by
        have := HK.out
        rw [List.drop_eq_nil_of_le (by rw [HSL.out]; omega)] at this
        exact this
      have hki : k - i = n := by omega
      rw [hki] at HV
      have hia : Tk.inAt (s.data.toList.drop i) n = false := inAt_drop_ge s i n (by omega)
      rw [hia] at HA4
      have HKN := show Hid (k = i + n) from hkn
      clear hkn hia hki HK hnle
      by_cases h48 : (s[i]).toNat = 48 ∧ 1 < n
      · have hA := HA2.out h48.1 h48.2
        subst hA
        have q48 : (((s[i]).toNat : Int) == 48) = true := beq_iff_eq.2 (by omega)
        have qk : decide ((i : Int) + 1 < (k : Int)) = true := decide_eq_true (by have := HKN.out; omega)
        clear HA1 HA2 HA3 HA4 h48
        go_wp2_with fail
        refine bodyPost_ret (results_cell2_row rfl _ _ w.heap.size _ _ _ _ rfl (heap_alloc_new _ _) Tryz.underlying45 rfl (by kernel_rfl)) rfl ?_
        exact ⟨⟨k, rfl, fun h => absurd h (by decide)⟩, below_alloc _ _⟩
      · have H48 := show Hid ((s[i]).toNat ≠ 48 ∨ n ≤ 1) from by
          show (s[i]).toNat ≠ 48 ∨ n ≤ 1
          omega
        have hor : (((s[i]).toNat : Int) == 48) = false ∨ ((((s[i]).toNat : Int) == 48) = true ∧ decide ((i : Int) + 1 < (k : Int)) = false) := by
          by_cases h : (s[i]).toNat = 48
          · exact Or.inr ⟨beq_iff_eq.2 (by omega), decide_eq_false (by have := HKN.out; omega)⟩
          · exact Or.inl (beq_eq_false_iff_ne.2 (by omega))
        clear h48
        by_cases hbig : 999999999 < V
        · have q : decide (999999999 < (V : Int)) = true := decide_eq_true (by omega)
          have hA := HA1.out (by rcases HV.out with h | h <;> omega)
          subst hA
          clear HA1 HA2 HA3 HA4 HV hbig
          rcases hor with q48 | ⟨q48, q1⟩
          all_goals
            go_wp2_with fail
            refine bodyPost_ret (results_cell2_row rfl _ _ w.heap.size _ _ _ _ rfl (heap_alloc_new _ _) Tryz.underlying45 rfl (by kernel_rfl)) rfl ?_
            exact ⟨⟨k, rfl, fun h => absurd h (by decide)⟩, below_alloc _ _⟩
        · have q : decide (999999999 < (V : Int)) = false := decide_eq_false (by omega)
          have hVv : Tk.val 0 ((s.data.toList.drop i).take n) = V := by rcases HV.out with h | h <;> omega
          rw [hVv] at HA4
          clear HV hVv
          have hA := HA4.out (by omega) H48.out rfl
          subst hA
          clear HA1 HA2 HA3 HA4 hbig
          rcases hor with q48 | ⟨q48, q1⟩
          all_goals
            go_wp2_with fail
            refine bodyPost_ret (results_cell2_row rfl _ _ w.heap.size _ _ _ _ rfl (heap_alloc_new _ _) Tryz.underlying45 rfl (by kernel_rfl)) rfl ?_
            exact ⟨⟨k, rfl, fun _ => HKN.out⟩, below_alloc _ _⟩
theorem ext_take (s : ByteArray) (i m : Nat) : (s.extract i (i + m)).data.toList = (s.data.toList.drop i).take m := by
  rw [ByteArray.data_extract, Array.toList_extract]
  show (s.data.toList.drop i).take (i + m - i) = _
  rw [Nat.add_sub_cancel_left]
theorem pre_eq (g l : List UInt8) : g.isPrefixOf l = (decide (g.length ≤ l.length) && (l.take g.length == g)) := by
  rw [Bool.eq_iff_iff, List.isPrefixOf_iff_prefix, Bool.and_eq_true, decide_eq_true_eq, beq_iff_eq, List.prefix_iff_eq_take]
  constructor
  · intro h
    refine ⟨?_, h.symm⟩
    have := congrArg List.length h
    rw [List.length_take] at this
    omega
  · intro h
    exact h.2.symm
set_option maxHeartbeats 1000000 in
theorem rat2_any (w : World) (s : ByteArray) (i : Nat) (g : ByteArray) (hs : s.size ≤ 140737488355328) (hg : g.size ≤ 100) (hi : i ≤ s.size) :
    Calls Tryz.prog 122 #[.string s, .int .i64 (i : Int), .string g] w fun e w' => e = .returned (.bool (g.data.toList.isPrefixOf (s.data.toList.drop i))) ∧ w' = w := by
  have hsz : s.data.toList.length = s.size := rfl
  have hgz : g.data.toList.length = g.size := rfl
  rw [pre_eq, List.length_drop, hsz, hgz]
  by_cases h : g.size ≤ s.size - i
  · have HQ := show Hid (((s.extract i (i + g.size)).toList == g.toList) = ((s.data.toList.drop i).take g.size == g.data.toList)) from by
      rw [Lib.toList_data, Lib.toList_data, ext_take]; rfl
    rw [decide_eq_true h, Bool.true_and, ← HQ.out]
    have q : decide ((g.size : Int) ≤ (s.size : Int) - (i : Int)) = true := decide_eq_true (by omega)
    have hle : i + g.size ≤ s.size := by omega
    clear HQ hsz hgz
    go_enter Tryz.func122, Tryz.ntmps122
    go_wp2
    go_ret
    exact ⟨rfl, rfl⟩
  · rw [decide_eq_false h, Bool.false_and]
    have q : decide ((g.size : Int) ≤ (s.size : Int) - (i : Int)) = false := decide_eq_false (by omega)
    clear hsz hgz
    go_enter Tryz.func122, Tryz.ntmps122
    go_wp2
    go_ret
    exact ⟨rfl, rfl⟩
end Go.Proofs.YtcidldgenogdkaaGreatDoor.Tw
/-
  Runes of logic, told by their bytes: as the model decodes them. Plain; nothing of the program is named here. No condition.
-/
set_option linter.unusedSimpArgs false
namespace Go.Proofs.YtcidldgenogdkaaGreatDoor.Tk

/-- A rune of logic: its bytes, kind and text. -/
def specials : List (List UInt8 × Int × List UInt8) := [([194, 172], 3, [126]), ([226, 136, 167], 3, [38]), ([226, 136, 168], 3, [124]), ([226, 134, 146], 3, [45, 62]), ([226, 134, 148], 3, [60, 45, 62]), ([226, 138, 162], 3, [124, 45]), ([226, 137, 164], 3, [60, 61]), ([226, 138, 164], 1, [116, 114, 117, 101]), ([226, 138, 165], 1, [102, 97, 108, 115, 101])]
def specIn : List (List UInt8 × Int × List UInt8) → List UInt8 → Cut
  | [], l => signIn signs l
  | g :: r, l => if g.1.isPrefixOf l then ((g.2.1, g.2.2, 0), g.1.length, 0) else specIn r l
theorem dec_two (l : List UInt8) (r : Nat) (h : (dec l).1 = r) (h1 : 128 ≤ r) (h2 : r < 2048) : 1 < l.length ∧ byt l 0 = 192 + r / 64 ∧ byt l 1 = 128 + r % 64 := by
  have hc : con l 1 = true → 1 < l.length ∧ 128 ≤ byt l 1 ∧ byt l 1 < 192 := fun hc => by
    have h3 := con_lt hc
    simp only [con, Bool.and_eq_true, decide_eq_true_eq, beq_iff_eq] at hc
    exact ⟨h3, by omega, by omega⟩
  have h0 := (l.getD 0 0).toNat_lt
  have e0 : (l.getD 0 0).toNat = byt l 0 := rfl
  revert h
  unfold dec decF
  cases hcc : con l 1
  · simp only [Bool.and_false, Bool.false_and, Bool.false_eq_true, if_false]
    split
    · intro h; simp only at h; omega
    · intro h; simp only at h; omega
  · have hc' := hc hcc
    simp only [Bool.and_true, Bool.and_eq_true, decide_eq_true_eq, beq_iff_eq, ge_iff_le]
    repeat' split
    all_goals (intro h; simp only at h)
    all_goals first | omega | (refine ⟨hc'.1, ?_, ?_⟩ <;> omega)
theorem dec_three (l : List UInt8) (r : Nat) (h : (dec l).1 = r) (h1 : 2048 ≤ r) (h2 : r < 65533) : 2 < l.length ∧ byt l 0 = 224 + r / 4096 ∧ byt l 1 = 128 + r / 64 % 64 ∧ byt l 2 = 128 + r % 64 := by
  have hc : ∀ k, con l k = true → k < l.length ∧ 128 ≤ byt l k ∧ byt l k < 192 := fun k hc => by
    have h3 := con_lt hc
    simp only [con, Bool.and_eq_true, decide_eq_true_eq, beq_iff_eq] at hc
    exact ⟨h3, by omega, by omega⟩
  have h0 := (l.getD 0 0).toNat_lt
  have e0 : (l.getD 0 0).toNat = byt l 0 := rfl
  revert h
  unfold dec decF
  cases hcc : con l 1
  · simp only [Bool.and_false, Bool.false_and, Bool.false_eq_true, if_false]
    split
    · intro h; simp only at h; omega
    · intro h; simp only at h; omega
  · have hc1 := hc 1 hcc
    cases hcc2 : con l 2
    · simp only [Bool.and_true, Bool.and_false, Bool.false_and, Bool.false_eq_true, if_false, Bool.and_eq_true, decide_eq_true_eq, beq_iff_eq, ge_iff_le]
      repeat' split
      all_goals (intro h; simp only at h)
      all_goals omega
    · have hc2 := hc 2 hcc2
      simp only [Bool.and_true, Bool.and_eq_true, decide_eq_true_eq, beq_iff_eq, ge_iff_le]
      repeat' split
      all_goals (intro h; simp only at h)
      all_goals first | omega | (refine ⟨hc2.1, ?_, ?_, ?_⟩ <;> omega)
theorem pre_two (l : List UInt8) (a b : UInt8) (h : 1 < l.length) (h0 : byt l 0 = a.toNat) (h1 : byt l 1 = b.toNat) : [a, b].isPrefixOf l = true := by
  match l, h with
  | x :: y :: t, _ =>
    have e0 : x = a := UInt8.toNat_inj.1 h0
    have e1 : y = b := UInt8.toNat_inj.1 h1
    subst e0; subst e1
    simp
theorem pre_three (l : List UInt8) (a b c : UInt8) (h : 2 < l.length) (h0 : byt l 0 = a.toNat) (h1 : byt l 1 = b.toNat) (h2 : byt l 2 = c.toNat) : [a, b, c].isPrefixOf l = true := by
  match l, h with
  | x :: y :: z :: t, _ =>
    have e0 : x = a := UInt8.toNat_inj.1 h0
    have e1 : y = b := UInt8.toNat_inj.1 h1
    have e2 : z = c := UInt8.toNat_inj.1 h2
    subst e0; subst e1; subst e2
    simp
theorem pre_dec (g l : List UInt8) (r : Nat) (hp : g.isPrefixOf l = true) (hg : dec g = (r, g.length)) (hr : r ≠ 65533) : dec l = (r, g.length) := by
  refine dec_ext l r g.length ?_ hr
  have := List.prefix_iff_eq_take.1 (List.isPrefixOf_iff_prefix.1 hp)
  rw [← this]
  exact hg
theorem sign_high (c : UInt8) (r : List UInt8) (h : 128 ≤ c.toNat) : ∀ gs : List (List UInt8), (∀ g ∈ gs, g ≠ [] ∧ ∀ c ∈ g, c.toNat < 128) → signIn gs (c :: r) = bad 20
  | [], _ => rfl
  | g :: gs, H => by
    unfold signIn
    have hg := H g (by simp)
    rw [if_neg, sign_high c r h gs fun g hg => H g (by simp [hg])]
    intro hp
    match g, hg with
    | x :: t, hg =>
      rw [List.isPrefixOf_cons_cons, Bool.and_eq_true, beq_iff_eq] at hp
      have := hg.2 x (by simp)
      rw [hp.1] at this
      omega
theorem spec_low (c : UInt8) (r : List UInt8) (h : c.toNat < 128) : ∀ gs : List (List UInt8 × Int × List UInt8), (∀ g ∈ gs, ∃ x t, g.1 = x :: t ∧ 128 ≤ x.toNat) → specIn gs (c :: r) = cutSign (c :: r)
  | [], _ => rfl
  | g :: gs, H => by
    unfold specIn
    obtain ⟨x, t, hx, h1⟩ := H g (by simp)
    rw [if_neg, spec_low c r h gs fun g hg => H g (by simp [hg])]
    intro hp
    rw [hx, List.isPrefixOf_cons_cons, Bool.and_eq_true, beq_iff_eq] at hp
    rw [hp.1] at h1
    omega
theorem specials_high : ∀ g ∈ specials, ∃ x t, g.1 = x :: t ∧ 128 ≤ x.toNat := by
  intro g hg
  simp only [specials, List.mem_cons, List.not_mem_nil, or_false] at hg
  rcases hg with rfl | rfl | rfl | rfl | rfl | rfl | rfl | rfl | rfl <;> exact ⟨_, _, rfl, by decide⟩
/-- THE DOCUMENT'S LIST OF RUNES TELLS THE SAME TOKENS AS THE MODEL'S DECODING. -/
theorem spec_rune (c : UInt8) (r : List UInt8) (h : 128 ≤ c.toNat) : specIn specials (c :: r) = cutRune (c :: r) := by
  unfold cutRune
  have key : ∀ (g : List UInt8) (v : Nat), g.isPrefixOf (c :: r) = true → dec g = (v, g.length) → v ≠ 65533 → dec (c :: r) = (v, g.length) := fun g v hp hg hv => pre_dec g (c :: r) v hp hg hv
  have s0 := fun hp => key [194, 172] 172 hp (by decide) (by decide)
  have s1 := fun hp => key [226, 136, 167] 8743 hp (by decide) (by decide)
  have s2 := fun hp => key [226, 136, 168] 8744 hp (by decide) (by decide)
  have s3 := fun hp => key [226, 134, 146] 8594 hp (by decide) (by decide)
  have s4 := fun hp => key [226, 134, 148] 8596 hp (by decide) (by decide)
  have s5 := fun hp => key [226, 138, 162] 8866 hp (by decide) (by decide)
  have s6 := fun hp => key [226, 137, 164] 8804 hp (by decide) (by decide)
  have s7 := fun hp => key [226, 138, 164] 8868 hp (by decide) (by decide)
  have s8 := fun hp => key [226, 138, 165] 8869 hp (by decide) (by decide)
  simp only [specials, specIn]
  split
  · rename_i hp; rw [s0 hp]; rfl
  · rename_i n0
    split
    · rename_i hp; rw [s1 hp]; rfl
    · rename_i n1
      split
      · rename_i hp; rw [s2 hp]; rfl
      · rename_i n2
        split
        · rename_i hp; rw [s3 hp]; rfl
        · rename_i n3
          split
          · rename_i hp; rw [s4 hp]; rfl
          · rename_i n4
            split
            · rename_i hp; rw [s5 hp]; rfl
            · rename_i n5
              split
              · rename_i hp; rw [s6 hp]; rfl
              · rename_i n6
                split
                · rename_i hp; rw [s7 hp]; rfl
                · rename_i n7
                  split
                  · rename_i hp; rw [s8 hp]; rfl
                  · rename_i n8
                    rw [sign_high c r h signs signs_ok, if_pos]
                    unfold meaning
                    have two := fun v hv h1 h2 => dec_two (c :: r) v hv h1 h2
                    have three := fun v hv h1 h2 => dec_three (c :: r) v hv h1 h2
                    rw [if_neg, if_neg, if_neg, if_neg, if_neg, if_neg, if_neg, if_neg, if_neg]
                    · intro hv; obtain ⟨a, b, c', d⟩ := three 8869 hv (by omega) (by omega); exact n8 (pre_three _ _ _ _ a b c' d)
                    · intro hv; obtain ⟨a, b, c', d⟩ := three 8868 hv (by omega) (by omega); exact n7 (pre_three _ _ _ _ a b c' d)
                    · intro hv; obtain ⟨a, b, c', d⟩ := three 8804 hv (by omega) (by omega); exact n6 (pre_three _ _ _ _ a b c' d)
                    · intro hv; obtain ⟨a, b, c', d⟩ := three 8866 hv (by omega) (by omega); exact n5 (pre_three _ _ _ _ a b c' d)
                    · intro hv; obtain ⟨a, b, c', d⟩ := three 8596 hv (by omega) (by omega); exact n4 (pre_three _ _ _ _ a b c' d)
                    · intro hv; obtain ⟨a, b, c', d⟩ := three 8594 hv (by omega) (by omega); exact n3 (pre_three _ _ _ _ a b c' d)
                    · intro hv; obtain ⟨a, b, c', d⟩ := three 8744 hv (by omega) (by omega); exact n2 (pre_three _ _ _ _ a b c' d)
                    · intro hv; obtain ⟨a, b, c', d⟩ := three 8743 hv (by omega) (by omega); exact n1 (pre_three _ _ _ _ a b c' d)
                    · intro hv; obtain ⟨a, b, c'⟩ := two 172 hv (by omega) (by omega); exact n0 (pre_two _ _ _ a b c')
theorem cut_spec (c : UInt8) (r : List UInt8) : cut (c :: r) = if isBeg c = true then cutName (c :: r) else if isDig c = true then cutNum (c :: r) else specIn specials (c :: r) := by
  show (if isBeg c = true then cutName (c :: r) else if isDig c = true then cutNum (c :: r) else if c.toNat < 128 then cutSign (c :: r) else cutRune (c :: r)) = _
  by_cases h : c.toNat < 128
  · rw [if_pos h, spec_low c r h specials specials_high]
  · rw [if_neg h, spec_rune c r (by omega)]
end Go.Proofs.YtcidldgenogdkaaGreatDoor.Tk
