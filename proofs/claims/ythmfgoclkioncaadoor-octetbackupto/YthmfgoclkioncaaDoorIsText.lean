/-
  The document's call IsText: is a text UTF-8: just where the library's ValidString says so: for every text.
-/
import Derived.Test.YthmfgoclkioncaaDoorTextPure
import Derived.Test.YthmfgoclkioncaaDoorSame
namespace Go.Proofs.YthmfgoclkioncaaDoor
open Go.RowKit

theorem follows_end (l : List UInt8) : ∀ (n k lo hi : Nat), follows l k (n + 1) lo hi = true → k + n < l.length
  | 0, k, lo, hi, h => by
    simp only [follows, Bool.and_eq_true, decide_eq_true_eq] at h
    omega
  | n + 1, k, lo, hi, h => by
    rw [follows] at h
    simp only [Bool.and_eq_true] at h
    have := follows_end l n (k + 1) 128 191 h.2
    omega
theorem follows_len4 (s : ByteArray) (k n lo hi : Nat) (h : follows s.data.toList (k + 1) (n + 4) lo hi = true) : k + (n + 4 + 1) ≤ s.size := by
  have hsz : s.data.toList.length = s.size := rfl
  have := follows_end s.data.toList (n + 3) (k + 1) lo hi h
  omega
theorem follows_len (s : ByteArray) (k n lo hi : Nat) (h : follows s.data.toList (k + 1) n lo hi = true) (hk : k < s.size) : k + (n + 1) ≤ s.size := by
  have hsz : s.data.toList.length = s.size := rfl
  match n, h with
  | 0, _ => omega
  | 1, h =>
    simp only [follows, Bool.and_eq_true, decide_eq_true_eq] at h
    omega
  | 2, h =>
    simp only [follows, Bool.and_eq_true, decide_eq_true_eq] at h
    omega
  | 3, h =>
    simp only [follows, Bool.and_eq_true, decide_eq_true_eq] at h
    omega
  | n + 4, h => exact follows_len4 s k n lo hi h
set_option maxRecDepth 100000 in
set_option maxHeartbeats 16000000 in
theorem isText_any (w : World) (s : ByteArray) (hs : s.size ≤ 4611686018427387904) :
    Calls Tryd.prog 43 #[.string s] w fun e w' => e = .returned (.bool (Lib.validD s.data.toList)) ∧ w' = w := by
  have hsz : s.data.toList.length = s.size := rfl
  have HSZ := show Hid (s.data.toList.length = s.size) from hsz
  have HX : Hid (Lib.validD (s.data.toList.drop 0) = Lib.validD s.data.toList) := rfl
  have HGD := show Hid (∀ i (h : i < s.size), s.data.toList.getD i 0 = s[i]) from fun i h => by
    have : i < s.data.toList.length := h
    rw [List.getD, List.getElem?_eq_getElem this]
    rfl
  clear hsz
  generalize Lib.validD s.data.toList = ans at *
  go_enter Tryd.func43, Tryd.ntmps43
  go_wp2
  go_loop [3] (fun i => ∃ k : Nat, k ≤ s.size ∧ i = .int .i64 (k : Int) ∧ Hid (Lib.validD (s.data.toList.drop k) = ans)) (fun i => s.size - (intOf i).toNat)
  case atStart => exact ⟨0, by omega, rfl, HX⟩
  case round =>
    obtain ⟨k, hk, rfl, HA⟩ := hrel
    clear HX
    by_cases hlt : k < s.size
    · have hb := toNat_lt s[k]
      have HBV := show Hid ((s.data.toList.getD k 0).toNat = (s[k]).toNat) from by show (s.data.toList.getD k 0).toNat = (s[k]).toNat; rw [HGD.out k hlt]
      have HBAD := show Hid (goodAt s.data.toList k = none → false = ans) from fun h => by rw [← HA.out, valid_bad _ _ hlt h]
      have HGOOD := show Hid (∀ w, goodAt s.data.toList k = some w → Lib.validD (s.data.toList.drop (k + w)) = ans) from fun w h => by rw [← HA.out, valid_good _ _ w hlt h]
      clear HA
      by_cases t0 : (s[k]).toNat < 128
      · have HFO := show Hid (follow (s.data.toList.getD k 0).toNat = some (0, 128, 191)) from by show follow (s.data.toList.getD k 0).toNat = some (0, 128, 191); rw [HBV.out]; rw [follow, if_pos (by omega)]
        have HN := show Hid (Lib.validD (s.data.toList.drop (k + 1)) = ans) from HGOOD.out 1 (good_some _ _ _ _ _ HFO.out rfl)
        clear HFO HBAD HGOOD
        go_wp2
        go_loop [8] (fun j => j = .int .i64 1) (fun _ => 0)
        case atStart => exact rfl
        case round =>
          subst hrel
          go_wp2
          go_round
          case rel => exact ⟨k + 1, by omega, by go_num, HN⟩
          case measure => simp [intOf]; omega
      · by_cases t1 : (s[k]).toNat < 194
        · have HF := show Hid (false = ans) from HBAD.out (good_none0 _ _ (by rw [HBV.out]; rw [follow, if_neg (by omega), if_neg (by omega), if_neg (by omega), if_neg (by omega)]))
          have q194 : decide (194 ≤ ((s[k]).toNat : Int)) = false := by simp; omega
          have q224 : decide (224 ≤ ((s[k]).toNat : Int)) = false := by simp; omega
          have q240 : decide (240 ≤ ((s[k]).toNat : Int)) = false := by simp; omega
          clear HBAD HGOOD
          go_wp2
          go_ret
          exact ⟨ret_bool HF.out, rfl⟩
        · by_cases t2 : (s[k]).toNat < 224
          · have HFO := show Hid (follow (s.data.toList.getD k 0).toNat = some (1, 128, 191)) from by show follow (s.data.toList.getD k 0).toNat = some (1, 128, 191); rw [HBV.out]; rw [follow, if_neg (by omega), if_pos (by omega)]
            go_wp2
            go_loop [6, 7, 8] (fun a b j => ∃ m lo hi : Nat, 1 ≤ m ∧ m ≤ 2 ∧ lo ≤ 255 ∧ hi ≤ 255 ∧ j = .int .i64 (m : Int) ∧ a = .int .i64 (lo : Int) ∧ b = .int .i64 (hi : Int) ∧ Hid (follows s.data.toList (k + 1) 1 128 191 = follows s.data.toList (k + m) (2 - m) lo hi)) (fun _ _ j => 2 - (intOf j).toNat)
            case atStart => exact ⟨1, 128, 191, by omega, by omega, by omega, by omega, rfl, rfl, rfl, rfl⟩
            case round =>
              obtain ⟨m, lo, hi, hm1, hm2, hlo, hhi, rfl, rfl, rfl, HFL⟩ := hrel
              by_cases hmn : m ≤ 1
              · have hsub : 2 - m = 1 - m + 1 := by omega
                by_cases hin : k + m < s.size
                · have hc := toNat_lt s[k + m]
                  have HCV := show Hid ((s.data.toList.getD (k + m) 0).toNat = (s[k + m]).toNat) from by show (s.data.toList.getD (k + m) 0).toNat = (s[k + m]).toNat; rw [HGD.out _ hin]
                  by_cases ha : (s[k + m]).toNat < lo
                  · have HF := show Hid (false = ans) from HBAD.out (good_none _ _ _ _ _ HFO.out (by rw [HFL.out, hsub]; exact follows_no _ _ _ _ _ (by rw [HCV.out]; omega)))
                    have d1 : decide (((s[k + m]).toNat : Int) < (lo : Int)) = true := by simp; omega
                    clear HFL HBAD HGOOD HFO hsub
                    go_wp2
                    go_ret
                    exact ⟨ret_bool HF.out, rfl⟩
                  · have d1 : decide (((s[k + m]).toNat : Int) < (lo : Int)) = false := by simp; omega
                    by_cases hb2 : hi < (s[k + m]).toNat
                    · have HF := show Hid (false = ans) from HBAD.out (good_none _ _ _ _ _ HFO.out (by rw [HFL.out, hsub]; exact follows_no _ _ _ _ _ (by rw [HCV.out]; omega)))
                      have d2 : decide ((hi : Int) < ((s[k + m]).toNat : Int)) = true := by simp; omega
                      clear HFL HBAD HGOOD HFO hsub
                      go_wp2
                      go_ret
                      exact ⟨ret_bool HF.out, rfl⟩
                    · have d2 : decide ((hi : Int) < ((s[k + m]).toNat : Int)) = false := by simp; omega
                      have HN := show Hid (follows s.data.toList (k + 1) 1 128 191 = follows s.data.toList (k + (m + 1)) (2 - (m + 1)) 128 191) from by
                        show follows s.data.toList (k + 1) 1 128 191 = follows s.data.toList (k + (m + 1)) (2 - (m + 1)) 128 191
                        rw [HFL.out, hsub, follows_step _ _ _ _ _ (by rw [HSZ.out]; exact hin) (by rw [HCV.out]; omega) (by rw [HCV.out]; omega), show 2 - (m + 1) = 1 - m by omega, Nat.add_assoc]
                      clear HFL hsub
                      go_wp2
                      go_round
                      case rel => exact ⟨m + 1, 128, 191, by omega, by omega, by omega, by omega, by go_num, rfl, rfl, HN⟩
                      case measure => simp [intOf]; omega
                · have HF := show Hid (false = ans) from HBAD.out (good_none _ _ _ _ _ HFO.out (by rw [HFL.out, hsub]; exact follows_no _ _ _ _ _ (by rw [HSZ.out]; omega)))
                  have hin2 : s.size ≤ k + m := by omega
                  clear HFL HBAD HGOOD HFO hsub hin
                  go_wp2
                  go_ret
                  exact ⟨ret_bool HF.out, rfl⟩
              · have hmm : m = 2 := by omega
                have HN := show Hid (Lib.validD (s.data.toList.drop (k + 2)) = ans) from HGOOD.out 2 (good_some _ _ _ _ _ HFO.out (by rw [HFL.out, hmm]; rfl))
                have HLE := show Hid (k + 2 ≤ s.size) from by
                  show k + 2 ≤ s.size
                  exact follows_len s k 1 128 191 (by rw [HFL.out, hmm]; rfl) (by omega)
                have hle := HLE.out
                clear HFL hmm
                go_wp2
                go_round
                case rel => exact ⟨k + 2, by omega, val_int (by omega), HN⟩
                case measure => simp [intOf]; omega
          · by_cases t3 : (s[k]).toNat < 225
            · have HFO := show Hid (follow (s.data.toList.getD k 0).toNat = some (2, 160, 191)) from by show follow (s.data.toList.getD k 0).toNat = some (2, 160, 191); rw [HBV.out]; rw [follow, if_neg (by omega), if_neg (by omega), if_pos (by omega), if_pos (by omega), if_neg (by omega)]
              have g223 : decide (((s[k]).toNat : Int) ≤ 223) = false := by simp; omega
              have e224 : (((s[k]).toNat : Int) == 224) = true := beq_iff_eq.2 (by omega)
              have e237 : (((s[k]).toNat : Int) == 237) = false := beq_eq_false_iff_ne.2 (by omega)
              go_wp2
              go_loop [6, 7, 8] (fun a b j => ∃ m lo hi : Nat, 1 ≤ m ∧ m ≤ 3 ∧ lo ≤ 255 ∧ hi ≤ 255 ∧ j = .int .i64 (m : Int) ∧ a = .int .i64 (lo : Int) ∧ b = .int .i64 (hi : Int) ∧ Hid (follows s.data.toList (k + 1) 2 160 191 = follows s.data.toList (k + m) (3 - m) lo hi)) (fun _ _ j => 3 - (intOf j).toNat)
              case atStart => exact ⟨1, 160, 191, by omega, by omega, by omega, by omega, rfl, rfl, rfl, rfl⟩
              case round =>
                obtain ⟨m, lo, hi, hm1, hm2, hlo, hhi, rfl, rfl, rfl, HFL⟩ := hrel
                by_cases hmn : m ≤ 2
                · have hsub : 3 - m = 2 - m + 1 := by omega
                  by_cases hin : k + m < s.size
                  · have hc := toNat_lt s[k + m]
                    have HCV := show Hid ((s.data.toList.getD (k + m) 0).toNat = (s[k + m]).toNat) from by show (s.data.toList.getD (k + m) 0).toNat = (s[k + m]).toNat; rw [HGD.out _ hin]
                    by_cases ha : (s[k + m]).toNat < lo
                    · have HF := show Hid (false = ans) from HBAD.out (good_none _ _ _ _ _ HFO.out (by rw [HFL.out, hsub]; exact follows_no _ _ _ _ _ (by rw [HCV.out]; omega)))
                      have d1 : decide (((s[k + m]).toNat : Int) < (lo : Int)) = true := by simp; omega
                      clear HFL HBAD HGOOD HFO hsub
                      go_wp2
                      go_ret
                      exact ⟨ret_bool HF.out, rfl⟩
                    · have d1 : decide (((s[k + m]).toNat : Int) < (lo : Int)) = false := by simp; omega
                      by_cases hb2 : hi < (s[k + m]).toNat
                      · have HF := show Hid (false = ans) from HBAD.out (good_none _ _ _ _ _ HFO.out (by rw [HFL.out, hsub]; exact follows_no _ _ _ _ _ (by rw [HCV.out]; omega)))
                        have d2 : decide ((hi : Int) < ((s[k + m]).toNat : Int)) = true := by simp; omega
                        clear HFL HBAD HGOOD HFO hsub
                        go_wp2
                        go_ret
                        exact ⟨ret_bool HF.out, rfl⟩
                      · have d2 : decide ((hi : Int) < ((s[k + m]).toNat : Int)) = false := by simp; omega
                        have HN := show Hid (follows s.data.toList (k + 1) 2 160 191 = follows s.data.toList (k + (m + 1)) (3 - (m + 1)) 128 191) from by
                          show follows s.data.toList (k + 1) 2 160 191 = follows s.data.toList (k + (m + 1)) (3 - (m + 1)) 128 191
                          rw [HFL.out, hsub, follows_step _ _ _ _ _ (by rw [HSZ.out]; exact hin) (by rw [HCV.out]; omega) (by rw [HCV.out]; omega), show 3 - (m + 1) = 2 - m by omega, Nat.add_assoc]
                        clear HFL hsub
                        go_wp2
                        go_round
                        case rel => exact ⟨m + 1, 128, 191, by omega, by omega, by omega, by omega, by go_num, rfl, rfl, HN⟩
                        case measure => simp [intOf]; omega
                  · have HF := show Hid (false = ans) from HBAD.out (good_none _ _ _ _ _ HFO.out (by rw [HFL.out, hsub]; exact follows_no _ _ _ _ _ (by rw [HSZ.out]; omega)))
                    have hin2 : s.size ≤ k + m := by omega
                    clear HFL HBAD HGOOD HFO hsub hin
                    go_wp2
                    go_ret
                    exact ⟨ret_bool HF.out, rfl⟩
                · have hmm : m = 3 := by omega
                  have HN := show Hid (Lib.validD (s.data.toList.drop (k + 3)) = ans) from HGOOD.out 3 (good_some _ _ _ _ _ HFO.out (by rw [HFL.out, hmm]; rfl))
                  have HLE := show Hid (k + 3 ≤ s.size) from by
                    show k + 3 ≤ s.size
                    exact follows_len s k 2 160 191 (by rw [HFL.out, hmm]; rfl) (by omega)
                  have hle := HLE.out
                  clear HFL hmm
                  go_wp2
                  go_round
                  case rel => exact ⟨k + 3, by omega, val_int (by omega), HN⟩
                  case measure => simp [intOf]; omega
            · by_cases t4 : (s[k]).toNat = 237
              · have t4a : 237 ≤ (s[k]).toNat := by omega
                have t4b : (s[k]).toNat ≤ 237 := by omega
                clear t4
                have HFO := show Hid (follow (s.data.toList.getD k 0).toNat = some (2, 128, 159)) from by show follow (s.data.toList.getD k 0).toNat = some (2, 128, 159); rw [HBV.out]; rw [follow, if_neg (by omega), if_neg (by omega), if_pos (by omega), if_neg (by omega), if_pos (by omega)]
                have g223 : decide (((s[k]).toNat : Int) ≤ 223) = false := by simp; omega
                have e224 : (((s[k]).toNat : Int) == 224) = false := beq_eq_false_iff_ne.2 (by omega)
                have e237 : (((s[k]).toNat : Int) == 237) = true := beq_iff_eq.2 (by omega)
                go_wp2
                go_loop [6, 7, 8] (fun a b j => ∃ m lo hi : Nat, 1 ≤ m ∧ m ≤ 3 ∧ lo ≤ 255 ∧ hi ≤ 255 ∧ j = .int .i64 (m : Int) ∧ a = .int .i64 (lo : Int) ∧ b = .int .i64 (hi : Int) ∧ Hid (follows s.data.toList (k + 1) 2 128 159 = follows s.data.toList (k + m) (3 - m) lo hi)) (fun _ _ j => 3 - (intOf j).toNat)
                case atStart => exact ⟨1, 128, 159, by omega, by omega, by omega, by omega, rfl, rfl, rfl, rfl⟩
                case round =>
                  obtain ⟨m, lo, hi, hm1, hm2, hlo, hhi, rfl, rfl, rfl, HFL⟩ := hrel
                  by_cases hmn : m ≤ 2
                  · have hsub : 3 - m = 2 - m + 1 := by omega
                    by_cases hin : k + m < s.size
                    · have hc := toNat_lt s[k + m]
                      have HCV := show Hid ((s.data.toList.getD (k + m) 0).toNat = (s[k + m]).toNat) from by show (s.data.toList.getD (k + m) 0).toNat = (s[k + m]).toNat; rw [HGD.out _ hin]
                      by_cases ha : (s[k + m]).toNat < lo
                      · have HF := show Hid (false = ans) from HBAD.out (good_none _ _ _ _ _ HFO.out (by rw [HFL.out, hsub]; exact follows_no _ _ _ _ _ (by rw [HCV.out]; omega)))
                        have d1 : decide (((s[k + m]).toNat : Int) < (lo : Int)) = true := by simp; omega
                        clear HFL HBAD HGOOD HFO hsub
                        go_wp2
                        go_ret
                        exact ⟨ret_bool HF.out, rfl⟩
                      · have d1 : decide (((s[k + m]).toNat : Int) < (lo : Int)) = false := by simp; omega
                        by_cases hb2 : hi < (s[k + m]).toNat
                        · have HF := show Hid (false = ans) from HBAD.out (good_none _ _ _ _ _ HFO.out (by rw [HFL.out, hsub]; exact follows_no _ _ _ _ _ (by rw [HCV.out]; omega)))
                          have d2 : decide ((hi : Int) < ((s[k + m]).toNat : Int)) = true := by simp; omega
                          clear HFL HBAD HGOOD HFO hsub
                          go_wp2
                          go_ret
                          exact ⟨ret_bool HF.out, rfl⟩
                        · have d2 : decide ((hi : Int) < ((s[k + m]).toNat : Int)) = false := by simp; omega
                          have HN := show Hid (follows s.data.toList (k + 1) 2 128 159 = follows s.data.toList (k + (m + 1)) (3 - (m + 1)) 128 191) from by
                            show follows s.data.toList (k + 1) 2 128 159 = follows s.data.toList (k + (m + 1)) (3 - (m + 1)) 128 191
                            rw [HFL.out, hsub, follows_step _ _ _ _ _ (by rw [HSZ.out]; exact hin) (by rw [HCV.out]; omega) (by rw [HCV.out]; omega), show 3 - (m + 1) = 2 - m by omega, Nat.add_assoc]
                          clear HFL hsub
                          go_wp2
                          go_round
                          case rel => exact ⟨m + 1, 128, 191, by omega, by omega, by omega, by omega, by go_num, rfl, rfl, HN⟩
                          case measure => simp [intOf]; omega
                    · have HF := show Hid (false = ans) from HBAD.out (good_none _ _ _ _ _ HFO.out (by rw [HFL.out, hsub]; exact follows_no _ _ _ _ _ (by rw [HSZ.out]; omega)))
                      have hin2 : s.size ≤ k + m := by omega
                      clear HFL HBAD HGOOD HFO hsub hin
                      go_wp2
                      go_ret
                      exact ⟨ret_bool HF.out, rfl⟩
                  · have hmm : m = 3 := by omega
                    have HN := show Hid (Lib.validD (s.data.toList.drop (k + 3)) = ans) from HGOOD.out 3 (good_some _ _ _ _ _ HFO.out (by rw [HFL.out, hmm]; rfl))
                    have HLE := show Hid (k + 3 ≤ s.size) from by
                      show k + 3 ≤ s.size
                      exact follows_len s k 2 128 159 (by rw [HFL.out, hmm]; rfl) (by omega)
                    have hle := HLE.out
                    clear HFL hmm
                    go_wp2
                    go_round
                    case rel => exact ⟨k + 3, by omega, val_int (by omega), HN⟩
                    case measure => simp [intOf]; omega
              · by_cases t5 : (s[k]).toNat < 240
                · have HFO := show Hid (follow (s.data.toList.getD k 0).toNat = some (2, 128, 191)) from by show follow (s.data.toList.getD k 0).toNat = some (2, 128, 191); rw [HBV.out]; rw [follow, if_neg (by omega), if_neg (by omega), if_pos (by omega), if_neg (by omega), if_neg (by omega)]
                  have g223 : decide (((s[k]).toNat : Int) ≤ 223) = false := by simp; omega
                  have e224 : (((s[k]).toNat : Int) == 224) = false := beq_eq_false_iff_ne.2 (by omega)
                  have e237 : (((s[k]).toNat : Int) == 237) = false := beq_eq_false_iff_ne.2 (by omega)
                  go_wp2
                  go_loop [6, 7, 8] (fun a b j => ∃ m lo hi : Nat, 1 ≤ m ∧ m ≤ 3 ∧ lo ≤ 255 ∧ hi ≤ 255 ∧ j = .int .i64 (m : Int) ∧ a = .int .i64 (lo : Int) ∧ b = .int .i64 (hi : Int) ∧ Hid (follows s.data.toList (k + 1) 2 128 191 = follows s.data.toList (k + m) (3 - m) lo hi)) (fun _ _ j => 3 - (intOf j).toNat)
                  case atStart => exact ⟨1, 128, 191, by omega, by omega, by omega, by omega, rfl, rfl, rfl, rfl⟩
                  case round =>
                    obtain ⟨m, lo, hi, hm1, hm2, hlo, hhi, rfl, rfl, rfl, HFL⟩ := hrel
                    by_cases hmn : m ≤ 2
                    · have hsub : 3 - m = 2 - m + 1 := by omega
                      by_cases hin : k + m < s.size
                      · have hc := toNat_lt s[k + m]
                        have HCV := show Hid ((s.data.toList.getD (k + m) 0).toNat = (s[k + m]).toNat) from by show (s.data.toList.getD (k + m) 0).toNat = (s[k + m]).toNat; rw [HGD.out _ hin]
                        by_cases ha : (s[k + m]).toNat < lo
                        · have HF := show Hid (false = ans) from HBAD.out (good_none _ _ _ _ _ HFO.out (by rw [HFL.out, hsub]; exact follows_no _ _ _ _ _ (by rw [HCV.out]; omega)))
                          have d1 : decide (((s[k + m]).toNat : Int) < (lo : Int)) = true := by simp; omega
                          clear HFL HBAD HGOOD HFO hsub
                          go_wp2
                          go_ret
                          exact ⟨ret_bool HF.out, rfl⟩
                        · have d1 : decide (((s[k + m]).toNat : Int) < (lo : Int)) = false := by simp; omega
                          by_cases hb2 : hi < (s[k + m]).toNat
                          · have HF := show Hid (false = ans) from HBAD.out (good_none _ _ _ _ _ HFO.out (by rw [HFL.out, hsub]; exact follows_no _ _ _ _ _ (by rw [HCV.out]; omega)))
                            have d2 : decide ((hi : Int) < ((s[k + m]).toNat : Int)) = true := by simp; omega
                            clear HFL HBAD HGOOD HFO hsub
                            go_wp2
                            go_ret
                            exact ⟨ret_bool HF.out, rfl⟩
                          · have d2 : decide ((hi : Int) < ((s[k + m]).toNat : Int)) = false := by simp; omega
                            have HN := show Hid (follows s.data.toList (k + 1) 2 128 191 = follows s.data.toList (k + (m + 1)) (3 - (m + 1)) 128 191) from by
                              show follows s.data.toList (k + 1) 2 128 191 = follows s.data.toList (k + (m + 1)) (3 - (m + 1)) 128 191
                              rw [HFL.out, hsub, follows_step _ _ _ _ _ (by rw [HSZ.out]; exact hin) (by rw [HCV.out]; omega) (by rw [HCV.out]; omega), show 3 - (m + 1) = 2 - m by omega, Nat.add_assoc]
                            clear HFL hsub
                            go_wp2
                            go_round
                            case rel => exact ⟨m + 1, 128, 191, by omega, by omega, by omega, by omega, by go_num, rfl, rfl, HN⟩
                            case measure => simp [intOf]; omega
                      · have HF := show Hid (false = ans) from HBAD.out (good_none _ _ _ _ _ HFO.out (by rw [HFL.out, hsub]; exact follows_no _ _ _ _ _ (by rw [HSZ.out]; omega)))
                        have hin2 : s.size ≤ k + m := by omega
                        clear HFL HBAD HGOOD HFO hsub hin
                        go_wp2
                        go_ret
                        exact ⟨ret_bool HF.out, rfl⟩
                    · have hmm : m = 3 := by omega
                      have HN := show Hid (Lib.validD (s.data.toList.drop (k + 3)) = ans) from HGOOD.out 3 (good_some _ _ _ _ _ HFO.out (by rw [HFL.out, hmm]; rfl))
                      have HLE := show Hid (k + 3 ≤ s.size) from by
                        show k + 3 ≤ s.size
                        exact follows_len s k 2 128 191 (by rw [HFL.out, hmm]; rfl) (by omega)
                      have hle := HLE.out
                      clear HFL hmm
                      go_wp2
                      go_round
                      case rel => exact ⟨k + 3, by omega, val_int (by omega), HN⟩
                      case measure => simp [intOf]; omega
                · by_cases t6 : (s[k]).toNat < 241
                  · have HFO := show Hid (follow (s.data.toList.getD k 0).toNat = some (3, 144, 191)) from by show follow (s.data.toList.getD k 0).toNat = some (3, 144, 191); rw [HBV.out]; rw [follow, if_neg (by omega), if_neg (by omega), if_neg (by omega), if_pos (by omega), if_pos (by omega), if_neg (by omega)]
                    have g223 : decide (((s[k]).toNat : Int) ≤ 223) = false := by simp; omega
                    have g239 : decide (((s[k]).toNat : Int) ≤ 239) = false := by simp; omega
                    have e240 : (((s[k]).toNat : Int) == 240) = true := beq_iff_eq.2 (by omega)
                    have e244 : (((s[k]).toNat : Int) == 244) = false := beq_eq_false_iff_ne.2 (by omega)
                    go_wp2
                    go_loop [6, 7, 8] (fun a b j => ∃ m lo hi : Nat, 1 ≤ m ∧ m ≤ 4 ∧ lo ≤ 255 ∧ hi ≤ 255 ∧ j = .int .i64 (m : Int) ∧ a = .int .i64 (lo : Int) ∧ b = .int .i64 (hi : Int) ∧ Hid (follows s.data.toList (k + 1) 3 144 191 = follows s.data.toList (k + m) (4 - m) lo hi)) (fun _ _ j => 4 - (intOf j).toNat)
                    case atStart => exact ⟨1, 144, 191, by omega, by omega, by omega, by omega, rfl, rfl, rfl, rfl⟩
                    case round =>
                      obtain ⟨m, lo, hi, hm1, hm2, hlo, hhi, rfl, rfl, rfl, HFL⟩ := hrel
                      by_cases hmn : m ≤ 3
                      · have hsub : 4 - m = 3 - m + 1 := by omega
                        by_cases hin : k + m < s.size
                        · have hc := toNat_lt s[k + m]
                          have HCV := show Hid ((s.data.toList.getD (k + m) 0).toNat = (s[k + m]).toNat) from by show (s.data.toList.getD (k + m) 0).toNat = (s[k + m]).toNat; rw [HGD.out _ hin]
                          by_cases ha : (s[k + m]).toNat < lo
                          · have HF := show Hid (false = ans) from HBAD.out (good_none _ _ _ _ _ HFO.out (by rw [HFL.out, hsub]; exact follows_no _ _ _ _ _ (by rw [HCV.out]; omega)))
                            have d1 : decide (((s[k + m]).toNat : Int) < (lo : Int)) = true := by simp; omega
                            clear HFL HBAD HGOOD HFO hsub
                            go_wp2
                            go_ret
                            exact ⟨ret_bool HF.out, rfl⟩
                          · have d1 : decide (((s[k + m]).toNat : Int) < (lo : Int)) = false := by simp; omega
                            by_cases hb2 : hi < (s[k + m]).toNat
                            · have HF := show Hid (false = ans) from HBAD.out (good_none _ _ _ _ _ HFO.out (by rw [HFL.out, hsub]; exact follows_no _ _ _ _ _ (by rw [HCV.out]; omega)))
                              have d2 : decide ((hi : Int) < ((s[k + m]).toNat : Int)) = true := by simp; omega
                              clear HFL HBAD HGOOD HFO hsub
                              go_wp2
                              go_ret
                              exact ⟨ret_bool HF.out, rfl⟩
                            · have d2 : decide ((hi : Int) < ((s[k + m]).toNat : Int)) = false := by simp; omega
                              have HN := show Hid (follows s.data.toList (k + 1) 3 144 191 = follows s.data.toList (k + (m + 1)) (4 - (m + 1)) 128 191) from by
                                show follows s.data.toList (k + 1) 3 144 191 = follows s.data.toList (k + (m + 1)) (4 - (m + 1)) 128 191
                                rw [HFL.out, hsub, follows_step _ _ _ _ _ (by rw [HSZ.out]; exact hin) (by rw [HCV.out]; omega) (by rw [HCV.out]; omega), show 4 - (m + 1) = 3 - m by omega, Nat.add_assoc]
                              clear HFL hsub
                              go_wp2
                              go_round
                              case rel => exact ⟨m + 1, 128, 191, by omega, by omega, by omega, by omega, by go_num, rfl, rfl, HN⟩
                              case measure => simp [intOf]; omega
                        · have HF := show Hid (false = ans) from HBAD.out (good_none _ _ _ _ _ HFO.out (by rw [HFL.out, hsub]; exact follows_no _ _ _ _ _ (by rw [HSZ.out]; omega)))
                          have hin2 : s.size ≤ k + m := by omega
                          clear HFL HBAD HGOOD HFO hsub hin
                          go_wp2
                          go_ret
                          exact ⟨ret_bool HF.out, rfl⟩
                      · have hmm : m = 4 := by omega
                        have HN := show Hid (Lib.validD (s.data.toList.drop (k + 4)) = ans) from HGOOD.out 4 (good_some _ _ _ _ _ HFO.out (by rw [HFL.out, hmm]; rfl))
                        have HLE := show Hid (k + 4 ≤ s.size) from by
                          show k + 4 ≤ s.size
                          exact follows_len s k 3 144 191 (by rw [HFL.out, hmm]; rfl) (by omega)
                        have hle := HLE.out
                        clear HFL hmm
                        go_wp2
                        go_round
                        case rel => exact ⟨k + 4, by omega, val_int (by omega), HN⟩
                        case measure => simp [intOf]; omega
                  · by_cases t7 : (s[k]).toNat < 244
                    · have HFO := show Hid (follow (s.data.toList.getD k 0).toNat = some (3, 128, 191)) from by show follow (s.data.toList.getD k 0).toNat = some (3, 128, 191); rw [HBV.out]; rw [follow, if_neg (by omega), if_neg (by omega), if_neg (by omega), if_pos (by omega), if_neg (by omega), if_neg (by omega)]
                      have g223 : decide (((s[k]).toNat : Int) ≤ 223) = false := by simp; omega
                      have g239 : decide (((s[k]).toNat : Int) ≤ 239) = false := by simp; omega
                      have e240 : (((s[k]).toNat : Int) == 240) = false := beq_eq_false_iff_ne.2 (by omega)
                      have e244 : (((s[k]).toNat : Int) == 244) = false := beq_eq_false_iff_ne.2 (by omega)
                      go_wp2
                      go_loop [6, 7, 8] (fun a b j => ∃ m lo hi : Nat, 1 ≤ m ∧ m ≤ 4 ∧ lo ≤ 255 ∧ hi ≤ 255 ∧ j = .int .i64 (m : Int) ∧ a = .int .i64 (lo : Int) ∧ b = .int .i64 (hi : Int) ∧ Hid (follows s.data.toList (k + 1) 3 128 191 = follows s.data.toList (k + m) (4 - m) lo hi)) (fun _ _ j => 4 - (intOf j).toNat)
                      case atStart => exact ⟨1, 128, 191, by omega, by omega, by omega, by omega, rfl, rfl, rfl, rfl⟩
                      case round =>
                        obtain ⟨m, lo, hi, hm1, hm2, hlo, hhi, rfl, rfl, rfl, HFL⟩ := hrel
                        by_cases hmn : m ≤ 3
                        · have hsub : 4 - m = 3 - m + 1 := by omega
                          by_cases hin : k + m < s.size
                          · have hc := toNat_lt s[k + m]
                            have HCV := show Hid ((s.data.toList.getD (k + m) 0).toNat = (s[k + m]).toNat) from by show (s.data.toList.getD (k + m) 0).toNat = (s[k + m]).toNat; rw [HGD.out _ hin]
                            by_cases ha : (s[k + m]).toNat < lo
                            · have HF := show Hid (false = ans) from HBAD.out (good_none _ _ _ _ _ HFO.out (by rw [HFL.out, hsub]; exact follows_no _ _ _ _ _ (by rw [HCV.out]; omega)))
                              have d1 : decide (((s[k + m]).toNat : Int) < (lo : Int)) = true := by simp; omega
                              clear HFL HBAD HGOOD HFO hsub
                              go_wp2
                              go_ret
                              exact ⟨ret_bool HF.out, rfl⟩
                            · have d1 : decide (((s[k + m]).toNat : Int) < (lo : Int)) = false := by simp; omega
                              by_cases hb2 : hi < (s[k + m]).toNat
                              · have HF := show Hid (false = ans) from HBAD.out (good_none _ _ _ _ _ HFO.out (by rw [HFL.out, hsub]; exact follows_no _ _ _ _ _ (by rw [HCV.out]; omega)))
                                have d2 : decide ((hi : Int) < ((s[k + m]).toNat : Int)) = true := by simp; omega
                                clear HFL HBAD HGOOD HFO hsub
                                go_wp2
                                go_ret
                                exact ⟨ret_bool HF.out, rfl⟩
                              · have d2 : decide ((hi : Int) < ((s[k + m]).toNat : Int)) = false := by simp; omega
                                have HN := show Hid (follows s.data.toList (k + 1) 3 128 191 = follows s.data.toList (k + (m + 1)) (4 - (m + 1)) 128 191) from by
                                  show follows s.data.toList (k + 1) 3 128 191 = follows s.data.toList (k + (m + 1)) (4 - (m + 1)) 128 191
                                  rw [HFL.out, hsub, follows_step _ _ _ _ _ (by rw [HSZ.out]; exact hin) (by rw [HCV.out]; omega) (by rw [HCV.out]; omega), show 4 - (m + 1) = 3 - m by omega, Nat.add_assoc]
                                clear HFL hsub
                                go_wp2
                                go_round
                                case rel => exact ⟨m + 1, 128, 191, by omega, by omega, by omega, by omega, by go_num, rfl, rfl, HN⟩
                                case measure => simp [intOf]; omega
                          · have HF := show Hid (false = ans) from HBAD.out (good_none _ _ _ _ _ HFO.out (by rw [HFL.out, hsub]; exact follows_no _ _ _ _ _ (by rw [HSZ.out]; omega)))
                            have hin2 : s.size ≤ k + m := by omega
                            clear HFL HBAD HGOOD HFO hsub hin
                            go_wp2
                            go_ret
                            exact ⟨ret_bool HF.out, rfl⟩
                        · have hmm : m = 4 := by omega
                          have HN := show Hid (Lib.validD (s.data.toList.drop (k + 4)) = ans) from HGOOD.out 4 (good_some _ _ _ _ _ HFO.out (by rw [HFL.out, hmm]; rfl))
                          have HLE := show Hid (k + 4 ≤ s.size) from by
                            show k + 4 ≤ s.size
                            exact follows_len s k 3 128 191 (by rw [HFL.out, hmm]; rfl) (by omega)
                          have hle := HLE.out
                          clear HFL hmm
                          go_wp2
                          go_round
                          case rel => exact ⟨k + 4, by omega, val_int (by omega), HN⟩
                          case measure => simp [intOf]; omega
                    · by_cases t8 : (s[k]).toNat < 245
                      · have HFO := show Hid (follow (s.data.toList.getD k 0).toNat = some (3, 128, 143)) from by show follow (s.data.toList.getD k 0).toNat = some (3, 128, 143); rw [HBV.out]; rw [follow, if_neg (by omega), if_neg (by omega), if_neg (by omega), if_pos (by omega), if_neg (by omega), if_pos (by omega)]
                        have g223 : decide (((s[k]).toNat : Int) ≤ 223) = false := by simp; omega
                        have g239 : decide (((s[k]).toNat : Int) ≤ 239) = false := by simp; omega
                        have e240 : (((s[k]).toNat : Int) == 240) = false := beq_eq_false_iff_ne.2 (by omega)
                        have e244 : (((s[k]).toNat : Int) == 244) = true := beq_iff_eq.2 (by omega)
                        go_wp2
                        go_loop [6, 7, 8] (fun a b j => ∃ m lo hi : Nat, 1 ≤ m ∧ m ≤ 4 ∧ lo ≤ 255 ∧ hi ≤ 255 ∧ j = .int .i64 (m : Int) ∧ a = .int .i64 (lo : Int) ∧ b = .int .i64 (hi : Int) ∧ Hid (follows s.data.toList (k + 1) 3 128 143 = follows s.data.toList (k + m) (4 - m) lo hi)) (fun _ _ j => 4 - (intOf j).toNat)
                        case atStart => exact ⟨1, 128, 143, by omega, by omega, by omega, by omega, rfl, rfl, rfl, rfl⟩
                        case round =>
                          obtain ⟨m, lo, hi, hm1, hm2, hlo, hhi, rfl, rfl, rfl, HFL⟩ := hrel
                          by_cases hmn : m ≤ 3
                          · have hsub : 4 - m = 3 - m + 1 := by omega
                            by_cases hin : k + m < s.size
                            · have hc := toNat_lt s[k + m]
                              have HCV := show Hid ((s.data.toList.getD (k + m) 0).toNat = (s[k + m]).toNat) from by show (s.data.toList.getD (k + m) 0).toNat = (s[k + m]).toNat; rw [HGD.out _ hin]
                              by_cases ha : (s[k + m]).toNat < lo
                              · have HF := show Hid (false = ans) from HBAD.out (good_none _ _ _ _ _ HFO.out (by rw [HFL.out, hsub]; exact follows_no _ _ _ _ _ (by rw [HCV.out]; omega)))
                                have d1 : decide (((s[k + m]).toNat : Int) < (lo : Int)) = true := by simp; omega
                                clear HFL HBAD HGOOD HFO hsub
                                go_wp2
                                go_ret
                                exact ⟨ret_bool HF.out, rfl⟩
                              · have d1 : decide (((s[k + m]).toNat : Int) < (lo : Int)) = false := by simp; omega
                                by_cases hb2 : hi < (s[k + m]).toNat
                                · have HF := show Hid (false = ans) from HBAD.out (good_none _ _ _ _ _ HFO.out (by rw [HFL.out, hsub]; exact follows_no _ _ _ _ _ (by rw [HCV.out]; omega)))
                                  have d2 : decide ((hi : Int) < ((s[k + m]).toNat : Int)) = true := by simp; omega
                                  clear HFL HBAD HGOOD HFO hsub
                                  go_wp2
                                  go_ret
                                  exact ⟨ret_bool HF.out, rfl⟩
                                · have d2 : decide ((hi : Int) < ((s[k + m]).toNat : Int)) = false := by simp; omega
                                  have HN := show Hid (follows s.data.toList (k + 1) 3 128 143 = follows s.data.toList (k + (m + 1)) (4 - (m + 1)) 128 191) from by
                                    show follows s.data.toList (k + 1) 3 128 143 = follows s.data.toList (k + (m + 1)) (4 - (m + 1)) 128 191
                                    rw [HFL.out, hsub, follows_step _ _ _ _ _ (by rw [HSZ.out]; exact hin) (by rw [HCV.out]; omega) (by rw [HCV.out]; omega), show 4 - (m + 1) = 3 - m by omega, Nat.add_assoc]
                                  clear HFL hsub
                                  go_wp2
                                  go_round
                                  case rel => exact ⟨m + 1, 128, 191, by omega, by omega, by omega, by omega, by go_num, rfl, rfl, HN⟩
                                  case measure => simp [intOf]; omega
                            · have HF := show Hid (false = ans) from HBAD.out (good_none _ _ _ _ _ HFO.out (by rw [HFL.out, hsub]; exact follows_no _ _ _ _ _ (by rw [HSZ.out]; omega)))
                              have hin2 : s.size ≤ k + m := by omega
                              clear HFL HBAD HGOOD HFO hsub hin
                              go_wp2
                              go_ret
                              exact ⟨ret_bool HF.out, rfl⟩
                          · have hmm : m = 4 := by omega
                            have HN := show Hid (Lib.validD (s.data.toList.drop (k + 4)) = ans) from HGOOD.out 4 (good_some _ _ _ _ _ HFO.out (by rw [HFL.out, hmm]; rfl))
                            have HLE := show Hid (k + 4 ≤ s.size) from by
                              show k + 4 ≤ s.size
                              exact follows_len s k 3 128 143 (by rw [HFL.out, hmm]; rfl) (by omega)
                            have hle := HLE.out
                            clear HFL hmm
                            go_wp2
                            go_round
                            case rel => exact ⟨k + 4, by omega, val_int (by omega), HN⟩
                            case measure => simp [intOf]; omega
                      · have HF := show Hid (false = ans) from HBAD.out (good_none0 _ _ (by rw [HBV.out]; rw [follow, if_neg (by omega), if_neg (by omega), if_neg (by omega), if_neg (by omega)]))
                        have g223 : decide (((s[k]).toNat : Int) ≤ 223) = false := by simp; omega
                        have g239 : decide (((s[k]).toNat : Int) ≤ 239) = false := by simp; omega
                        have g244 : decide (((s[k]).toNat : Int) ≤ 244) = false := by simp; omega
                        clear HBAD HGOOD
                        go_wp2
                        go_ret
                        exact ⟨ret_bool HF.out, rfl⟩
    · have HF := show Hid (true = ans) from by
        show true = ans
        rw [← HA.out, valid_end _ _ (by rw [HSZ.out]; omega)]
      clear HA
      go_wp2
      go_ret
      exact ⟨ret_bool HF.out, rfl⟩
end Go.Proofs.YthmfgoclkioncaaDoor
