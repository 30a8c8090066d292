/-
  The call cutNumber: the number with which a text begins: for every text that begins with a digit. No condition beyond the text's size.
-/
import Derived.Test.YtcidldgenogdkaaGreatDoorTCutN
namespace Go.Proofs.YtcidldgenogdkaaGreatDoor.Tw
open Go.RowKit

theorem val_append (a : Nat) (l r : List UInt8) : Tk.val a (l ++ r) = Tk.val (Tk.val a l) r := List.foldl_append
theorem val_ge : ∀ (r : List UInt8) (a : Nat), a ≤ Tk.val a r
  | [], _ => Nat.le_refl _
  | c :: r, a => by
    have h := val_ge r (10 * a + (c.toNat - 48))
    show a ≤ Tk.val (10 * a + (c.toNat - 48)) r
    omega
theorem val_take_le (l : List UInt8) (m n : Nat) (h : m ≤ n) : Tk.val 0 (l.take m) ≤ Tk.val 0 (l.take n) := by
  have e : l.take n = l.take m ++ (l.take n).drop m := by
    conv => lhs; rw [← List.take_append_drop m (l.take n)]
    rw [List.take_take, Nat.min_eq_left h]
  rw [e, val_append]
  exact val_ge _ _
theorem val_snoc (l : List UInt8) (k : Nat) (h : k < l.length) : Tk.val 0 (l.take (k + 1)) = 10 * Tk.val 0 (l.take k) + ((l[k]).toNat - 48) := by
  rw [List.take_succ_eq_append_getElem h, val_append]
  rfl
theorem inAt_lt (s : ByteArray) (k : Nat) (h : k < s.size) : Tk.inAt s.data.toList k = Tk.isIn s[k] := by
  unfold Tk.inAt
  have hsz : s.data.toList.length = s.size := rfl
  rw [List.getElem?_eq_getElem (by omega)]
  simp only
  rw [bytes_at s k h]
theorem inAt_ge (s : ByteArray) (k : Nat) (h : s.size ≤ k) : Tk.inAt s.data.toList k = false := by
  unfold Tk.inAt
  have hsz : s.data.toList.length = s.size := rfl
  rw [List.getElem?_eq_none (by omega)]
theorem head_48 (s : ByteArray) (h : 0 < s.size) : (s.data.toList[0]? = some 48) ↔ ((s[0]).toNat = 48) := by
  have hsz : s.data.toList.length = s.size := rfl
  rw [List.getElem?_eq_getElem (by omega), bytes_at s 0 h, Option.some.injEq, ← UInt8.toNat_inj]
  rfl
theorem isDig_iff (c : UInt8) : Tk.isDig c = true ↔ 48 ≤ c.toNat ∧ c.toNat ≤ 57 := by simp [Tk.isDig]
set_option maxHeartbeats 2000000 in
theorem cutNum_any (w : World) (s : ByteArray) (hs : s.size ≤ 140737488355328) (h0 : 0 < s.size) :
    Calls Tryz.prog 106 #[.string s] w fun e w' => e = .returned (cutV (Tk.cutNum s.data.toList)) ∧ Below w.heap.size w w' := by
  have hsz : s.data.toList.length = s.size := rfl
  have HSZ := show Hid (s.data.toList.length = s.size) from hsz
  clear hsz
  have HX : Hid (0 + Tk.run Tk.isDig (s.data.toList.drop 0) = Tk.run Tk.isDig s.data.toList) := by rw [List.drop_zero]; exact Nat.zero_add _
  obtain ⟨n, hn⟩ : ∃ n, n = Tk.run Tk.isDig s.data.toList := ⟨_, rfl⟩
  have HA := show Hid (Tk.cutNum s.data.toList = if 999999999 < Tk.val 0 (s.data.toList.take n) ∨ (s.data.toList[0]? = some 48 ∧ 1 < n) ∨ Tk.inAt s.data.toList n = true then Tk.bad 21 else ((2, [], (Tk.val 0 (s.data.toList.take n) : Int)), n, 0)) from by rw [hn]; rfl
  rw [← hn] at HX
  have HN := show Hid (n ≤ s.size) from by rw [hn]; exact Tk.run_le _ _
  clear hn
  have HA1 := show Hid (999999999 < Tk.val 0 (s.data.toList.take n) → Tk.cutNum s.data.toList = Tk.bad 21) from fun h => by rw [HA.out, if_pos (Or.inl h)]
  have HA2 := show Hid ((s[0]).toNat = 48 → 1 < n → Tk.cutNum s.data.toList = Tk.bad 21) from fun h h' => by rw [HA.out, if_pos (Or.inr (Or.inl ⟨(head_48 s h0).2 h, h'⟩))]
  have HA3 := show Hid (Tk.inAt s.data.toList n = true → Tk.cutNum s.data.toList = Tk.bad 21) from fun h => by rw [HA.out, if_pos (Or.inr (Or.inr h))]
  have HA4 := show Hid (Tk.val 0 (s.data.toList.take n) ≤ 999999999 → (s[0]).toNat ≠ 48 ∨ n ≤ 1 → Tk.inAt s.data.toList n = false → Tk.cutNum s.data.toList = ((2, [], (Tk.val 0 (s.data.toList.take n) : Int)), n, 0)) from fun h h' h'' => by
    rw [HA.out, if_neg]
    rintro (h1 | h1 | h1)
    · omega
    · rcases h' with h' | h'
      · exact h' ((head_48 s h0).1 h1.1)
      · omega
    · rw [h''] at h1; cases h1
  clear HA
  generalize Tk.cutNum s.data.toList = ans at *
  have C1 := show Hid (∀ (w : World) (c : UInt8), Calls Tryz.prog 105 #[.int .u8 (c.toNat : Int)] w fun e w' => e = .returned (.bool (Tk.isDig c)) ∧ w' = w) from isDigit_any
  have C2 := show Hid (∀ (w : World) (c : UInt8), Calls Tryz.prog 130 #[.int .u8 (c.toNat : Int)] w fun e w' => e = .returned (.bool (Tk.isIn c)) ∧ w' = w) from within_any
  go_enter Tryz.func106, Tryz.ntmps106
  go_wp2_with fail
  go_loopw [5, 6] (fun v i wr => ∃ k V : Nat, k ≤ s.size ∧ V ≤ 999999999 ∧ i = .int .i64 k ∧ v = .int .i64 (V : Int) ∧ Hid (Tk.val 0 (s.data.toList.take k) = V) ∧ Hid (k + Tk.run Tk.isDig (s.data.toList.drop k) = n) ∧ wr = w.alloc (Obj.cells #[.int .i64 0, .string ⟨#[]⟩, .int .i64 0, .int .i64 0, .int .i64 0, .int .i64 0] 45)) (fun _ i _ => s.size - (intOf i).toNat)
  case atStart => exact ⟨0, 0, by omega, by omega, rfl, rfl, rfl, HX, rfl⟩
  case round =>
    obtain ⟨k, V, hk, hV, rfl, rfl, HV, HK, rfl⟩ := hrel
    clear HX
    by_cases hlt : k < s.size
    · cases hin : Tk.isDig s[k] with
      | true =>
        have HK2 := show Hid (k + 1 + Tk.run Tk.isDig (s.data.toList.drop (k + 1)) = n) from by
          have := HK.out
          rw [run_at _ _ _ (by rw [HSZ.out]; exact hlt) (by rw [bytes_at s k hlt]; exact hin)] at this
          show _ = _
          omega
        have HV2 := show Hid (Tk.val 0 (s.data.toList.take (k + 1)) = 10 * V + ((s[k]).toNat - 48)) from by
          have := val_snoc s.data.toList k (by rw [HSZ.out]; exact hlt)
          rw [HV.out, bytes_at s k hlt] at this
          exact this
        have hd := (isDig_iff _).1 hin
        obtain ⟨d, hdd⟩ : ∃ d, (s[k]).toNat - 48 = d := ⟨_, rfl⟩
        have hx : (((s[k]).toNat : Int) - 48) % 256 = (d : Int) := by omega
        have hd9 : d ≤ 9 := by omega
        rw [hdd] at HV2
        have HIN := show Hid (Tk.isDig s[k] = true) from hin
        clear HK hin hd hdd
        go_wp2_with fail
        refine (C1.out _ s[k]).mono ?_
        rintro e w1 ⟨rfl, rfl⟩
        rw [HIN.out]
        clear HIN
        by_cases hbig : 999999999 < 10 * V + d
        · have hle := val_take_le s.data.toList (k + 1) n (by have := HK2.out; omega)
          rw [HV2.out] at hle
          have hA := HA1.out (by omega)
          subst hA
          have hbig2 : decide (999999999 < 10 * (V : Int) + (d : Int)) = true := decide_eq_true (by omega)
          clear HA1 HA2 HA3 HA4 hle HV2 HK2 hbig
          go_wp2_with fail
          refine bodyPost_ret (results_cell2_row rfl _ _ w.heap.size _ _ _ _ rfl (heap_alloc_new _ _) Tryz.underlying45 rfl (by kernel_rfl)) rfl ?_
          exact ⟨rfl, below_alloc _ _⟩
        · have hbig2 : decide (999999999 < 10 * (V : Int) + (d : Int)) = false := decide_eq_false (by omega)
          have hV2 : 10 * V + d ≤ 999999999 := by omega
          clear hbig
          go_wp2_with fail
          go_roundw
          case rel => exact ⟨k + 1, 10 * V + d, by omega, hV2, by go_num, val_int (by omega), HV2, HK2, trivial⟩
          case measure => simp [intOf]; omega
      | false =>
        have hkn : k = n := by
          have := HK.out
          rw [run_not _ _ _ (by rw [HSZ.out]; exact hlt) (by rw [bytes_at s k hlt]; exact hin)] at this
          omega
        subst hkn
        have HIN := show Hid (Tk.isDig s[k] = false) from hin
        clear HK hin
        go_wp2_with fail
        refine (C1.out _ s[k]).mono ?_
        rintro e w1 ⟨rfl, rfl⟩
        rw [HIN.out]
        clear HIN
        rw [HV.out, inAt_lt s k hlt] at HA4
        rw [inAt_lt s k hlt] at HA3
        by_cases h48 : (s[0]).toNat = 48 ∧ 1 < k
        · have hA := HA2.out h48.1 h48.2
          subst hA
          have q48 : ((((s[0]'h0).toNat : Nat) : Int) == 48) = true := beq_iff_eq.2 (by omega)
          have q1 := h48.2
          clear h48
          clear HA1 HA2 HA3 HA4
          go_wp2_with fail
          refine bodyPost_ret (results_cell2_row rfl _ _ w.heap.size _ _ _ _ rfl (heap_alloc_new _ _) Tryz.underlying45 rfl (by kernel_rfl)) rfl ?_
          exact ⟨rfl, below_alloc _ _⟩
        · have H48 := show Hid ((s[0]).toNat ≠ 48 ∨ k ≤ 1) from by
            show (s[0]).toNat ≠ 48 ∨ k ≤ 1
            omega
          have hor : ((((s[0]'h0).toNat : Nat) : Int) == 48) = false ∨ (((((s[0]'h0).toNat : Nat) : Int) == 48) = true ∧ decide (1 < (k : Int)) = false) := by
            by_cases h : (s[0]).toNat = 48
            · exact Or.inr ⟨beq_iff_eq.2 (by omega), decide_eq_false (by omega)⟩
            · exact Or.inl (beq_eq_false_iff_ne.2 (by omega))
          clear h48
          cases hin : Tk.isIn s[k] with
          | true =>
            have hA := HA3.out hin
            subst hA
            have HIN := show Hid (Tk.isIn s[k] = true) from hin
            clear HA1 HA2 HA3 HA4 hin
            rcases hor with q48 | ⟨q48, q1⟩
            all_goals
              go_wp2_with fail
              refine (C2.out _ s[k]).mono ?_
              rintro e w1 ⟨rfl, rfl⟩
              rw [HIN.out]
              go_wp2_with fail
              refine bodyPost_ret (results_cell2_row rfl _ _ w.heap.size _ _ _ _ rfl (heap_alloc_new _ _) Tryz.underlying45 rfl (by kernel_rfl)) rfl ?_
              exact ⟨rfl, below_alloc _ _⟩
          | false =>
            have hA := HA4.out hV H48.out hin
            subst hA
            have HIN := show Hid (Tk.isIn s[k] = false) from hin
            clear HA1 HA2 HA3 HA4 hin
            rcases hor with q48 | ⟨q48, q1⟩
            all_goals
              go_wp2_with fail
              refine (C2.out _ s[k]).mono ?_
              rintro e w1 ⟨rfl, rfl⟩
              rw [HIN.out]
              go_wp2_with fail
              refine bodyPost_ret (results_cell2_row rfl _ _ w.heap.size _ _ _ _ rfl (heap_alloc_new _ _) Tryz.underlying45 rfl (by kernel_rfl)) rfl ?_
              exact ⟨rfl, below_alloc _ _⟩
    · have hkn : k = n := by
        have := HK.out
        rw [List.drop_eq_nil_of_le (by rw [HSZ.out]; omega)] at this
        exact this
      subst hkn
      clear HK
      rw [HV.out, inAt_ge s k (by omega)] at HA4
      by_cases h48 : (s[0]).toNat = 48 ∧ 1 < k
      · have hA := HA2.out h48.1 h48.2
        subst hA
        have q48 : ((((s[0]'h0).toNat : Nat) : Int) == 48) = true := beq_iff_eq.2 (by omega)
        have q1 := h48.2
        clear h48
        clear HA1 HA2 HA3 HA4
        go_wp2_with fail
        refine bodyPost_ret (results_cell2_row rfl _ _ w.heap.size _ _ _ _ rfl (heap_alloc_new _ _) Tryz.underlying45 rfl (by kernel_rfl)) rfl ?_
        exact ⟨rfl, below_alloc _ _⟩
      · have H48 := show Hid ((s[0]).toNat ≠ 48 ∨ k ≤ 1) from by
          show (s[0]).toNat ≠ 48 ∨ k ≤ 1
          omega
        have hor : ((((s[0]'h0).toNat : Nat) : Int) == 48) = false ∨ (((((s[0]'h0).toNat : Nat) : Int) == 48) = true ∧ decide (1 < (k : Int)) = false) := by
          by_cases h : (s[0]).toNat = 48
          · exact Or.inr ⟨beq_iff_eq.2 (by omega), decide_eq_false (by omega)⟩
          · exact Or.inl (beq_eq_false_iff_ne.2 (by omega))
        have hA := HA4.out hV H48.out rfl
        subst hA
        clear h48 HA1 HA2 HA3 HA4
        rcases hor with q48 | ⟨q48, q1⟩
        all_goals
          go_wp2_with fail
          refine bodyPost_ret (results_cell2_row rfl _ _ w.heap.size _ _ _ _ rfl (heap_alloc_new _ _) Tryz.underlying45 rfl (by kernel_rfl)) rfl ?_
          exact ⟨rfl, below_alloc _ _⟩
end Go.Proofs.YtcidldgenogdkaaGreatDoor.Tw
