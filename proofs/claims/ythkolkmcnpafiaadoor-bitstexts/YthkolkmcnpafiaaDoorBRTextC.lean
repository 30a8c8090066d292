/-
  The document's Text: for every set. No condition.
-/
import Derived.Test.YthkolkmcnpafiaaDoorBRText
namespace Go.Proofs.YthkolkmcnpafiaaDoor
open Go.RowKit
open Bs (Ok wd)

/-- The text of the runs that begin below k. -/
def textTo (r : List Nat) (k : Nat) : List UInt8 := (((List.range k).filter (Bs.start r)).map fun f => (f, Bs.ende r f)).foldl Bs.add []
theorem textTo_step (r : List Nat) (k : Nat) : textTo r (k + 1) = if Bs.start r k then Bs.add (textTo r k) (k, Bs.ende r k) else textTo r k := by
  unfold textTo
  rw [List.range_succ, List.filter_append, List.filter_cons, List.filter_nil]
  split <;> simp
theorem textTo_len {r : List Nat} (hr : Ok r) : ∀ k, k ≤ 1024 → (textTo r k).length ≤ 10 * k
  | 0, _ => by simp [textTo]
  | k + 1, hk => by
    have ih := textTo_len hr k (by omega)
    rw [textTo_step]
    split
    · have := Bs.add_len (s := textTo r k) (p := (k, Bs.ende r k)) (by show k < 1024; omega) (Bs.ende_spec hr (show k < 1024 by omega)).2.1
      omega
    · omega
/-- What a run adds, piece by piece. -/
theorem add_pieces (L : List UInt8) (k e : Nat) : Bs.add L (k, e) = (if L = [] then L else L ++ [44]) ++ Bs.dec k ++ (if k = e then [] else [45] ++ Bs.dec e) := by
  unfold Bs.add Bs.runT
  by_cases h : L = []
  · subst h
    by_cases h2 : k = e <;> simp [h2]
  · rw [if_neg h, if_neg h]
    by_cases h2 : k = e <;> simp [h2]
theorem strB_app (a b : List UInt8) : strB a ++ strB b = strB (a ++ b) := cat_str a b
theorem strB_emp (l : List UInt8) : ((strB l).toList.isEmpty) = l.isEmpty := by rw [ByteArray.toList_eq]; rfl
theorem hasI_pred (r : List Nat) {k : Nat} (hk : k < 1024) : Bs.hasI r ((k : Int) - 1) = (decide (k ≠ 0) && Bs.has r (k - 1)) := by
  by_cases h : k = 0
  · subst h
    rw [hasI_out r (by omega)]
    rfl
  · rw [show ((k : Int) - 1) = ((k - 1 : Nat) : Int) by omega, hasI_nat r (by omega), decide_eq_true h, Bool.true_and]
def RQ (w wr : World) (r : List Nat) : Prop := RowAt wr w.heap.size r ∧ Below w.heap.size w wr
theorem RQ.later {w wr w' : World} {r : List Nat} (h : RQ w wr r) (hb : Below wr.heap.size wr w') : RQ w w' r := ⟨h.1.keep hb h.1.lt, h.2.trans (hb.mono h.2.size)⟩
set_option maxRecDepth 100000 in
set_option maxHeartbeats 8000000 in
theorem rtext_any (w : World) {r : List Nat} (hr : Ok r) : Calls Tryd.prog 37 #[.agg (cellsB r)] w fun e w' => e = .returned (.string (strB (Bs.text r))) ∧ Below w.heap.size w w' := by
  have KH := show Hid (∀ (n : Int) w, Calls Tryd.prog 13 #[.agg (cellsB r), .int .i64 n] w fun e w' => e = .returned (.bool (Bs.hasI r n)) ∧ Below w.heap.size w w') from fun n w => (rhas_any w hr n).mono fun _ _ h => ⟨h.1, by rw [h.2]; exact below_alloc _ _⟩
  have KD := show Hid (∀ (n : Nat) w, n < 1024 → Calls Tryd.prog 54 #[.int .i64 (n : Int)] w fun e w' => e = .returned (.string (strB (Bs.dec n))) ∧ Below w.heap.size w w') from fun n w h => rdec_any w n h
  have HOK := show Hid (Ok r) from hr
  have HL := show Hid (r.length = 16) from hr.1
  have HST := show Hid (∀ k, textTo r (k + 1) = if Bs.start r k then Bs.add (textTo r k) (k, Bs.ende r k) else textTo r k) from textTo_step r
  have HLN := show Hid (∀ k, k ≤ 1024 → (textTo r k).length ≤ 10 * k) from textTo_len hr
  have HE := show Hid (textTo r 1024 = Bs.text r) from rfl
  have HT := show Hid (RQ w (w.alloc (.cells (cellsB r) 25)) r) from ⟨heap_alloc_last w _, below_alloc w _⟩
  have H0 := show Hid (strB (textTo r 0) = ⟨#[]⟩) from rfl
  generalize Bs.text r = R at *
  clear hr
  go_enter Tryd.func37, Tryd.ntmps37
  go_wp2
  go_loopw [3, 4] (fun sv n wr => ∃ k : Nat, k ≤ 1024 ∧ n = .int .i64 (k : Int) ∧ sv = .string (strB (textTo r k)) ∧ Hid (RQ w wr r)) (fun _ n _ => 1024 - (intOf n).toNat)
  case atStart => exact ⟨0, by omega, rfl, by rw [H0.out], HT.out⟩
  case round =>
    obtain ⟨k, hk, rfl, rfl, HQ⟩ := hrel
    clear HT H0
    by_cases hlt : k < 1024
    · have K1 := show Hid (∀ w, Calls Tryd.prog 13 #[.agg (cellsB r), .int .i64 (k : Int)] w fun e w' => e = .returned (.bool (Bs.has r k)) ∧ Below w.heap.size w w') from fun w => by
        have := KH.out (k : Int) w
        rwa [hasI_nat r hlt] at this
      have K2 := show Hid (∀ w, Calls Tryd.prog 13 #[.agg (cellsB r), .int .i64 ((k : Int) - 1)] w fun e w' => e = .returned (.bool (decide (k ≠ 0) && Bs.has r (k - 1))) ∧ Below w.heap.size w w') from fun w => by
        have := KH.out ((k : Int) - 1) w
        rwa [hasI_pred r hlt] at this
      have HS := show Hid (textTo r (k + 1) = if Bs.start r k then Bs.add (textTo r k) (k, Bs.ende r k) else textTo r k) from HST.out k
      have HSD := show Hid (Bs.start r k = (Bs.has r k && !(decide (k ≠ 0) && Bs.has r (k - 1)))) from by
        show Bs.start r k = _
        unfold Bs.start
        by_cases h : k = 0
        · simp [h]
        · have hb : (k == 0) = false := by simpa using h
          simp [h, hb]
      have hle := HLN.out k hk
      cases h1 : Bs.has r k
      · have HS2 := show Hid (textTo r (k + 1) = textTo r k) from by
          show textTo r (k + 1) = textTo r k
          rw [HS.out, HSD.out, h1]; rfl
        rw [h1] at K1
        clear K2 HS HSD h1 KH KD HST HLN HE hle
        generalize textTo r k = L at *
        go_wp2_with (first | (refine wpList_ld _ _ rfl _ rfl (r := r) HQ.out.1 HL.out rfl ?_) | (go_at_call 13; refine (K1.out _).mono ?_; rintro e w1 ⟨rfl, hb⟩; have HQ1 := show Hid (RQ w w1 r) from HQ.out.later hb; clear hb))
        go_roundw
        case rel => exact ⟨k + 1, by omega, val_int (by omega), by rw [HS2.out], HQ1.out⟩
        case measure => (simp only [intOf]; omega)
      · cases h2 : (decide (k ≠ 0) && Bs.has r (k - 1))
        · have HS2 := show Hid (textTo r (k + 1) = Bs.add (textTo r k) (k, Bs.ende r k)) from by
            show textTo r (k + 1) = _
            rw [HS.out, HSD.out, h1, h2]; rfl
          have hE := Bs.ende_spec HOK.out hlt
          have HEE := show Hid (∀ m, k ≤ m → Bs.has r (m + 1) = false → (∀ i, k ≤ i → i < m → Bs.has r (i + 1) = true) → Bs.ende r k = m) from fun m q1 q2 q3 => Bs.ende_eq HOK.out hlt q1 q2 q3
          have KN := show Hid (∀ (i : Nat) w, i < 1024 → Calls Tryd.prog 13 #[.agg (cellsB r), .int .i64 ((i : Int) + 1)] w fun e w' => e = .returned (.bool (Bs.has r (i + 1))) ∧ Below w.heap.size w w') from fun i w hi => by
            have := KH.out (((i + 1 : Nat)) : Int) w
            have e : Bs.hasI r (((i + 1 : Nat)) : Int) = Bs.has r (i + 1) := by
              by_cases h : i + 1 < 1024
              · exact hasI_nat r h
              · rw [hasI_out r (by omega), Bs.has_hi HOK.out (by omega)]
            rw [e] at this
            exact this
          have HX := show Hid (∀ i, 1024 ≤ i + 1 → Bs.has r (i + 1) = false) from fun i h => Bs.has_hi HOK.out h
          rw [h1] at K1
          rw [h2] at K2
          clear HS HSD h1 h2 KH HST HLN HE hE
          go_wp2_with (first | (refine wpList_ld _ _ rfl _ rfl (r := r) (by first | exact HQ1.out.1 | exact HQ.out.1) HL.out rfl ?_) | (go_at_call 13; refine (K1.out _).mono ?_; clear K1; rintro e w1 ⟨rfl, hb⟩; have HQ1 := show Hid (RQ w w1 r) from HQ.out.later hb; clear hb HQ) | (go_at_call 13; refine (K2.out _).mono ?_; clear K2; rintro e w2 ⟨rfl, hb⟩; have HQ2 := show Hid (RQ w w2 r) from HQ1.out.later hb; clear hb HQ1))
          go_loopw [5] (fun n wr => ∃ i : Nat, i < 1024 ∧ n = .int .i64 (i : Int) ∧ Hid (k ≤ i ∧ RQ w wr r ∧ ∀ q, k ≤ q → q < i → Bs.has r (q + 1) = true)) (fun n _ => 1024 - (intOf n).toNat)
          case atStart => exact ⟨k, hlt, rfl, Nat.le_refl _, HQ2.out, fun q q1 q2 => by omega⟩
          case round =>
            obtain ⟨i, hi, rfl, HI⟩ := hrel
            clear HQ2
            have KN2 := show Hid (∀ w, Calls Tryd.prog 13 #[.agg (cellsB r), .int .i64 ((i : Int) + 1)] w fun e w' => e = .returned (.bool (Bs.has r (i + 1))) ∧ Below w.heap.size w w') from fun w => KN.out i w hi
            clear KN
            cases hh : Bs.has r (i + 1)
            · have HH := show Hid (Bs.ende r k = i) from HEE.out i HI.out.1 hh HI.out.2.2
              rw [hh] at KN2
              clear hh HEE HX
              have KD1 := show Hid (∀ w, Calls Tryd.prog 54 #[.int .i64 (k : Int)] w fun e w' => e = .returned (.string (strB (Bs.dec k))) ∧ Below w.heap.size w w') from fun w => KD.out k w hlt
              have KD2 := show Hid (∀ w, Calls Tryd.prog 54 #[.int .i64 (i : Int)] w fun e w' => e = .returned (.string (strB (Bs.dec i))) ∧ Below w.heap.size w w') from fun w => KD.out i w hi
              have hd1 : (strB (Bs.dec k)).size ≤ 4 := Bs.dec_len4 (by omega)
              have hd2 : (strB (Bs.dec i)).size ≤ 4 := Bs.dec_len4 (by omega)
              clear KD
              by_cases hL0 : textTo r k = []
              · by_cases hki : k = i
                · have hLe : textTo r k = [] := hL0
                  have HEQ := show Hid ((⟨#[]⟩ : ByteArray) ++ strB (Bs.dec k) = strB (textTo r (k + 1))) from by
                    show (⟨#[]⟩ : ByteArray) ++ strB (Bs.dec k) = strB (textTo r (k + 1))
                    rw [HS2.out, HH.out, add_pieces]
                    rw [hL0]
                    rw [if_pos hki]
                    rw [show (⟨#[]⟩ : ByteArray) = strB [] from rfl]
                    simp only [strB_app]
                    congr 1
                    simp
                  rw [hLe]
                  rw [show strB [] = (⟨#[]⟩ : ByteArray) from rfl]
                  clear hLe hL0 HS2 HH hle
                  generalize strB (Bs.dec k) = d1 at *
                  generalize strB (Bs.dec i) = d2 at *
                  subst hki
                  go_wp2_with (first | (refine wpList_ld _ _ rfl _ rfl (r := r) HI.out.2.1.1 HL.out rfl ?_) | (go_at_call 13; refine (KN2.out _).mono ?_; rintro e w3 ⟨rfl, hb⟩; have HQ3 := show Hid (RQ w w3 r) from HI.out.2.1.later hb; clear hb) | (go_at_call 54; refine (KD1.out _).mono ?_; clear KD1; rintro e w4 ⟨rfl, hb⟩; have HQ4 := show Hid (RQ w w4 r) from HQ3.out.later hb; clear hb))
                  go_roundw
                  case rel => exact ⟨k + 1, by omega, val_int (by omega), congrArg Value.string HEQ.out, HQ4.out⟩
                  case measure => (simp only [intOf]; omega)
                · have hLe : textTo r k = [] := hL0
                  have HEQ := show Hid ((⟨#[]⟩ : ByteArray) ++ strB (Bs.dec k) ++ ⟨#[45]⟩ ++ strB (Bs.dec i) = strB (textTo r (k + 1))) from by
                    show (⟨#[]⟩ : ByteArray) ++ strB (Bs.dec k) ++ ⟨#[45]⟩ ++ strB (Bs.dec i) = strB (textTo r (k + 1))
                    rw [HS2.out, HH.out, add_pieces]
                    rw [hL0]
                    rw [if_neg hki]
                    rw [show (⟨#[]⟩ : ByteArray) = strB [] from rfl]
                    rw [show (⟨#[45]⟩ : ByteArray) = strB [45] from rfl]
                    simp only [strB_app]
                    congr 1
                    simp
                  rw [hLe]
                  rw [show strB [] = (⟨#[]⟩ : ByteArray) from rfl]
                  clear hLe hL0 HS2 HH hle
                  generalize strB (Bs.dec k) = d1 at *
                  generalize strB (Bs.dec i) = d2 at *
                  have hgt : (k : Int) < (i : Int) := by have := HI.out.1; omega
                  go_wp2_with (first | (refine wpList_ld _ _ rfl _ rfl (r := r) HI.out.2.1.1 HL.out rfl ?_) | (go_at_call 13; refine (KN2.out _).mono ?_; rintro e w3 ⟨rfl, hb⟩; have HQ3 := show Hid (RQ w w3 r) from HI.out.2.1.later hb; clear hb) | (go_at_call 54; refine (KD1.out _).mono ?_; clear KD1; rintro e w4 ⟨rfl, hb⟩; have HQ4 := show Hid (RQ w w4 r) from HQ3.out.later hb; clear hb) | (go_at_call 54; refine (KD2.out _).mono ?_; rintro e w5 ⟨rfl, hb⟩; have HQ5 := show Hid (RQ w w5 r) from HQ4.out.later hb; clear hb))
                  go_roundw
                  case rel => exact ⟨k + 1, by omega, val_int (by omega), congrArg Value.string HEQ.out, HQ5.out⟩
                  case measure => (simp only [intOf]; omega)
              · by_cases hki : k = i
                · have HEQ := show Hid (strB (textTo r k) ++ ⟨#[44]⟩ ++ strB (Bs.dec k) = strB (textTo r (k + 1))) from by
                    show strB (textTo r k) ++ ⟨#[44]⟩ ++ strB (Bs.dec k) = strB (textTo r (k + 1))
                    rw [HS2.out, HH.out, add_pieces]
                    rw [if_neg hL0]
                    rw [if_pos hki]
                    rw [show (⟨#[44]⟩ : ByteArray) = strB [44] from rfl]
                    simp only [strB_app]
                    congr 1
                    simp
                  have hem : (strB (textTo r k)).toList.isEmpty = false := by rw [strB_emp]; cases hq : textTo r k with | nil => exact absurd hq hL0 | cons _ _ => rfl
                  have hsz : (strB (textTo r k)).size ≤ 10240 := by show (textTo r k).length ≤ 10240; omega
                  clear hL0 HS2 HH hle
                  generalize strB (textTo r k) = sL at *
                  generalize strB (Bs.dec k) = d1 at *
                  generalize strB (Bs.dec i) = d2 at *
                  subst hki
                  go_wp2_with (first | (refine wpList_ld _ _ rfl _ rfl (r := r) HI.out.2.1.1 HL.out rfl ?_) | (go_at_call 13; refine (KN2.out _).mono ?_; rintro e w3 ⟨rfl, hb⟩; have HQ3 := show Hid (RQ w w3 r) from HI.out.2.1.later hb; clear hb) | (go_at_call 54; refine (KD1.out _).mono ?_; clear KD1; rintro e w4 ⟨rfl, hb⟩; have HQ4 := show Hid (RQ w w4 r) from HQ3.out.later hb; clear hb))
                  go_roundw
                  case rel => exact ⟨k + 1, by omega, val_int (by omega), congrArg Value.string HEQ.out, HQ4.out⟩
                  case measure => (simp only [intOf]; omega)
                · have HEQ := show Hid (strB (textTo r k) ++ ⟨#[44]⟩ ++ strB (Bs.dec k) ++ ⟨#[45]⟩ ++ strB (Bs.dec i) = strB (textTo r (k + 1))) from by
                    show strB (textTo r k) ++ ⟨#[44]⟩ ++ strB (Bs.dec k) ++ ⟨#[45]⟩ ++ strB (Bs.dec i) = strB (textTo r (k + 1))
                    rw [HS2.out, HH.out, add_pieces]
                    rw [if_neg hL0]
                    rw [if_neg hki]
                    rw [show (⟨#[44]⟩ : ByteArray) = strB [44] from rfl]
                    rw [show (⟨#[45]⟩ : ByteArray) = strB [45] from rfl]
                    simp only [strB_app]
                    congr 1
                    simp
                  have hem : (strB (textTo r k)).toList.isEmpty = false := by rw [strB_emp]; cases hq : textTo r k with | nil => exact absurd hq hL0 | cons _ _ => rfl
                  have hsz : (strB (textTo r k)).size ≤ 10240 := by show (textTo r k).length ≤ 10240; omega
                  clear hL0 HS2 HH hle
                  generalize strB (textTo r k) = sL at *
                  generalize strB (Bs.dec k) = d1 at *
                  generalize strB (Bs.dec i) = d2 at *
                  have hgt : (k : Int) < (i : Int) := by have := HI.out.1; omega
                  go_wp2_with (first | (refine wpList_ld _ _ rfl _ rfl (r := r) HI.out.2.1.1 HL.out rfl ?_) | (go_at_call 13; refine (KN2.out _).mono ?_; rintro e w3 ⟨rfl, hb⟩; have HQ3 := show Hid (RQ w w3 r) from HI.out.2.1.later hb; clear hb) | (go_at_call 54; refine (KD1.out _).mono ?_; clear KD1; rintro e w4 ⟨rfl, hb⟩; have HQ4 := show Hid (RQ w w4 r) from HQ3.out.later hb; clear hb) | (go_at_call 54; refine (KD2.out _).mono ?_; rintro e w5 ⟨rfl, hb⟩; have HQ5 := show Hid (RQ w w5 r) from HQ4.out.later hb; clear hb))
                  go_roundw
                  case rel => exact ⟨k + 1, by omega, val_int (by omega), congrArg Value.string HEQ.out, HQ5.out⟩
                  case measure => (simp only [intOf]; omega)
            · have hi2 : i + 1 < 1024 := by
                apply Nat.lt_of_not_le
                intro h
                rw [HX.out i h] at hh
                cases hh
              have HH := show Hid (Bs.has r (i + 1) = true) from hh
              rw [hh] at KN2
              clear hh HEE HX KD HS2
              go_wp2_with (first | (refine wpList_ld _ _ rfl _ rfl (r := r) HI.out.2.1.1 HL.out rfl ?_) | (go_at_call 13; refine (KN2.out _).mono ?_; rintro e w3 ⟨rfl, hb⟩; have HQ3 := show Hid (RQ w w3 r) from HI.out.2.1.later hb; clear hb))
              go_roundw
              case rel =>
                refine ⟨i + 1, hi2, val_int (by omega), by have := HI.out.1; omega, HQ3.out, fun q q1 q2 => ?_⟩
                by_cases e : q = i
                · rw [e]; exact HH.out
                · exact HI.out.2.2 q q1 (by omega)
              case measure => (simp only [intOf]; omega)
        · have HS2 := show Hid (textTo r (k + 1) = textTo r k) from by
            show textTo r (k + 1) = textTo r k
            rw [HS.out, HSD.out, h1, h2]; rfl
          rw [h1] at K1
          rw [h2] at K2
          clear HS HSD h1 h2 KH KD HST HLN HE hle
          generalize textTo r k = L at *
          go_wp2_with (first | (refine wpList_ld _ _ rfl _ rfl (r := r) (by first | exact HQ1.out.1 | exact HQ.out.1) HL.out rfl ?_) | (go_at_call 13; refine (K1.out _).mono ?_; clear K1; rintro e w1 ⟨rfl, hb⟩; have HQ1 := show Hid (RQ w w1 r) from HQ.out.later hb; clear hb HQ) | (go_at_call 13; refine (K2.out _).mono ?_; clear K2; rintro e w2 ⟨rfl, hb⟩; have HQ2 := show Hid (RQ w w2 r) from HQ1.out.later hb; clear hb HQ1))
          go_roundw
          case rel => exact ⟨k + 1, by omega, val_int (by omega), by rw [HS2.out], HQ2.out⟩
          case measure => (simp only [intOf]; omega)
    · have HK := show Hid (textTo r k = R) from by rw [show k = 1024 by omega]; exact HE.out
      clear KH KD HST HLN HE
      go_wp2
      go_ret
      exact ⟨ret_string (by rw [HK.out]), HQ.out.2⟩
end Go.Proofs.YthkolkmcnpafiaaDoor
