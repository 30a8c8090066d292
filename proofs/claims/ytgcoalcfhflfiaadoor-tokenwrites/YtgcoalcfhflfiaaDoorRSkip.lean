/-
  The document's call skip: over blanks and comments: for every text and every place. No condition beyond the text's size.
-/
import Derived.Test.YtgcoalcfhflfiaaDoorTCur
namespace Go.Proofs.YtgcoalcfhflfiaaDoor
open Go.RowKit

set_option maxRecDepth 100000 in
set_option maxHeartbeats 2000000 in
theorem rskip_any (w : World) (s : ByteArray) (o : Nat) (hs : s.size ≤ 140737488355328) (ho : o ≤ s.size) :
    Calls Tryd.prog 32 #[.string s, .int .i64 (o : Int)] w fun e w' => e = .returned (.int .i64 ((o + Tk.skip (s.data.toList.drop o) : Nat) : Int)) ∧ w' = w := by
  have HSL := show Hid (s.data.toList.length = s.size) from rfl
  obtain ⟨ende, hend⟩ : ∃ ende, ende = o + Tk.skip (s.data.toList.drop o) := ⟨_, rfl⟩
  rw [← hend]
  have HN := show Hid (o + Tk.skip (s.data.toList.drop o) = ende) from hend.symm
  have HO := show Hid (o ≤ s.size) from ho
  clear hend ho
  go_enter Tryd.func32, Tryd.ntmps32
  go_wp2
  go_loopw [1] (fun v wr => ∃ k : Nat, k ≤ s.size ∧ v = .int .i64 k ∧ Hid (k + Tk.skip (s.data.toList.drop k) = ende) ∧ wr = w) (fun v _ => s.size - (intOf v).toNat)
  case atStart => exact ⟨o, HO.out, rfl, HN, rfl⟩
  case round =>
    obtain ⟨k, hk, rfl, HE, rfl⟩ := hrel
    clear HN
    by_cases hlt : k < s.size
    · cases hbl : Tk.isBlank s[k] with
      | true =>
        have hor : (((s[k]).toNat : Int) == 32) = true ∨ ((((s[k]).toNat : Int) == 32) = false ∧ (((s[k]).toNat : Int) == 9) = true) ∨ ((((s[k]).toNat : Int) == 32) = false ∧ (((s[k]).toNat : Int) == 9) = false ∧ (((s[k]).toNat : Int) == 10) = true) ∨ ((((s[k]).toNat : Int) == 32) = false ∧ (((s[k]).toNat : Int) == 9) = false ∧ (((s[k]).toNat : Int) == 10) = false ∧ (((s[k]).toNat : Int) == 13) = true) := by
          simp only [Tk.isBlank, Bool.or_eq_true, decide_eq_true_eq] at hbl
          simp only [beq_iff_eq, beq_eq_false_iff_ne]
          omega
        have HE2 := show Hid (k + 1 + Tk.skip (s.data.toList.drop (k + 1)) = ende) from by
          have h := HE.out
          rw [drop_byte s k hlt, Tk.skip_blank _ _ hbl] at h
          show _ = _
          omega
        clear hbl HE
        rcases hor with q1 | ⟨q1, q2⟩ | ⟨q1, q2, q3⟩ | ⟨q1, q2, q3, q4⟩
        all_goals
          go_wp2
          go_roundw
          case rel => exact ⟨k + 1, by omega, by go_num, HE2, trivial⟩
          case measure => simp [intOf]; omega
      | false =>
        have hq : (((s[k]).toNat : Int) == 32) = false ∧ (((s[k]).toNat : Int) == 9) = false ∧ (((s[k]).toNat : Int) == 10) = false ∧ (((s[k]).toNat : Int) == 13) = false := by
          simp only [Tk.isBlank, Bool.or_eq_false_iff, decide_eq_false_iff_not] at hbl
          simp only [beq_eq_false_iff_ne]
          omega
        obtain ⟨q1, q2, q3, q4⟩ := hq
        by_cases h35 : (s[k]).toNat = 35
        · have q5 : (((s[k]).toNat : Int) != 35) = false := by simp [h35]
          obtain ⟨je, hje⟩ : ∃ je, je = k + Tk.run (fun c => c != 10) (s.data.toList.drop k) := ⟨_, rfl⟩
          have hrn := Tk.run_le (fun c => c != 10) (s.data.toList.drop k)
          rw [List.length_drop, HSL.out] at hrn
          have hr1 : 1 ≤ Tk.run (fun c => c != 10) (s.data.toList.drop k) := by rw [drop_byte s k hlt]; exact Tk.run_hash _ _ h35
          have HJ := show Hid (k + Tk.run (fun c => c != 10) (s.data.toList.drop k) = je) from hje.symm
          have HE2 := show Hid (je + Tk.skip (s.data.toList.drop je) = ende) from by
            have h := HE.out
            have h2 := Tk.skip_hash s[k] (s.data.toList.drop (k + 1)) h35
            rw [← drop_byte s k hlt, List.drop_drop, ← hje] at h2
            rw [h2] at h
            show _ = _
            omega
          have hjs : je ≤ s.size := by omega
          have hkj : k < je := by omega
          clear hbl HE h35 hje hrn hr1
          go_wp2
          go_loopw [1] (fun v wr2 => ∃ j : Nat, k ≤ j ∧ j ≤ je ∧ v = .int .i64 j ∧ Hid (j + Tk.run (fun c => c != 10) (s.data.toList.drop j) = je) ∧ wr2 = wr) (fun v _ => s.size - (intOf v).toNat)
          case atStart => exact ⟨k, Nat.le_refl _, by omega, rfl, HJ, rfl⟩
          case round =>
            obtain ⟨j, hkj2, hjj, rfl, HJ2, rfl⟩ := hrel
            clear HJ
            by_cases hjl : j < s.size
            · by_cases h10 : (s[j]).toNat = 10
              · have q10 : (((s[j]).toNat : Int) != 10) = false := by simp [h10]
                have hjd : j = je := by
                  have h := HJ2.out
                  rw [drop_byte s j hjl, Tk.run_cons, if_neg (by
                    have : s[j] = 10 := UInt8.toNat_inj.1 h10
                    rw [this]; decide)] at h
                  exact h
                subst hjd
                clear HJ2 h10
                go_wp2
                go_roundw
                case rel => exact ⟨j, hjs, rfl, HE2, trivial⟩
                case measure => simp [intOf]; omega
              · have q10 : (((s[j]).toNat : Int) != 10) = true := by simp; omega
                have HJ3 := show Hid (j + 1 + Tk.run (fun c => c != 10) (s.data.toList.drop (j + 1)) = je) from by
                  have h := HJ2.out
                  rw [drop_byte s j hjl, Tk.run_cons, if_pos (by
                    simp only [bne_iff_ne, ne_eq]; intro e; rw [e] at h10; exact h10 rfl)] at h
                  show _ = _
                  omega
                have hj1 : j + 1 ≤ je := by have := HJ3.out; omega
                clear HJ2 h10
                go_wp2
                go_roundw
                case rel => exact ⟨j + 1, by omega, hj1, by go_num, HJ3, trivial⟩
                case measure => simp [intOf]; omega
            · have hjd : j = je := by omega
              subst hjd
              clear HJ2
              go_wp2
              go_roundw
              case rel => exact ⟨j, hjs, rfl, HE2, trivial⟩
              case measure => simp [intOf]; omega
        · have q5 : (((s[k]).toNat : Int) != 35) = true := by simp; omega
          have hE := HE.out
          rw [drop_byte s k hlt, Tk.skip_else _ _ hbl h35, Nat.add_zero] at hE
          subst hE
          clear HE hbl h35
          go_wp2
          go_ret
          exact ⟨rfl, rfl⟩
    · have hE := HE.out
      rw [List.drop_eq_nil_of_le (by rw [HSL.out]; omega), Tk.skip_nil, Nat.add_zero] at hE
      subst hE
      clear HE
      go_wp2
      go_ret
      exact ⟨rfl, rfl⟩
end Go.Proofs.YtgcoalcfhflfiaaDoor
