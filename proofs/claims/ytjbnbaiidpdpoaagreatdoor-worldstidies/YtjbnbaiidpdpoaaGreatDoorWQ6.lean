/-
  The document's has: of any names. No condition.
-/
import Derived.Test.YtjbnbaiidpdpoaaGreatDoorWQ5
namespace Go.Proofs.YtjbnbaiidpdpoaaGreatDoor.Wm
open Go.RowKit Go.Maps
open Wd (Md allW upd)
set_option linter.unusedSimpArgs false

theorem inS_mem {s : ByteArray} {l : List ByteArray} (h : s ∈ l) : inS s l = true := by
  unfold inS
  exact List.any_eq_true.2 ⟨s, h, by simp⟩
theorem inS_not {s : ByteArray} {l : List ByteArray} (h : s ∉ l) : inS s l = false := by
  unfold inS
  refine List.any_eq_false.2 fun x hx e => h ?_
  have e1 : x.data.toList = s.data.toList := by simpa using e
  rw [← ba_ext e1]
  exact hx
set_option maxRecDepth 100000 in
set_option maxHeartbeats 2000000 in
theorem has_ref (w : World) {L : Nat} {v : Value} {l : List ByteArray} (hl : IsN w L v l) (hL : L ≤ w.heap.size) (hlen : l.length ≤ 140737488351232) (s : ByteArray) :
    Calls Tryz.prog 30 #[v, .string s] w fun e w' => e = .returned (.bool (inS s l)) ∧ Below w.heap.size w w' := by
  obtain ⟨p, c, rfl, hat⟩ := hl
  have HA := show Hid (∀ (k : Nat) (hk : k < l.length), ∃ b o, b < w.heap.size ∧ p = some ⟨b, o, none⟩ ∧ w.cell? ⟨b, o + k, none⟩ = some (.string l[k])) from fun k hk => by
    obtain ⟨b, o, hb, e, h⟩ := hat (by omega)
    obtain ⟨x, hx, rfl⟩ := h k hk
    exact ⟨b, o, by omega, e, hx⟩
  have HT := show Hid (s ∈ l → inS s l = true) from inS_mem
  have HF := show Hid (s ∉ l → inS s l = false) from inS_not
  generalize inS s l = ans at *
  clear hat
  go_enter Tryz.func30, Tryz.ntmps30
  go_wp2_with fail
  go_loopw [5] (fun i wr => ∃ k : Nat, k ≤ l.length ∧ i = .int .i64 (k : Int) ∧ Hid (Below w.heap.size w wr ∧ ∀ (j : Nat) (h1 : j < l.length), j < k → l[j] ≠ s)) (fun i _ => l.length - (intOf i).toNat)
  case atStart => exact ⟨0, Nat.zero_le _, rfl, Below.refl _ _, fun _ _ h => absurd h (Nat.not_lt_zero _)⟩
  case round =>
    obtain ⟨k, hk, rfl, HI⟩ := hrel
    by_cases hlt : k < l.length
    · obtain ⟨ba, oa, hba, rfl, hca⟩ := HA.out k hlt
      have ha2 : wr.cell? ⟨ba, oa + k, none⟩ = some (.string l[k]) := (HI.out.1.cell (p := ⟨ba, oa + k, none⟩) hba).trans hca
      have HS := show Hid (l[k] ≠ s → ∀ (j : Nat) (h1 : j < l.length), j < k + 1 → l[j] ≠ s) from fun h j h1 hj => by
        by_cases e : j = k
        · subst e; exact h
        · exact HI.out.2 j h1 (by omega)
      have HN := show Hid (l[k] = s → ans = true) from fun h => HT.out (h ▸ List.getElem_mem hlt)
      have HBL := show Hid (Below w.heap.size w wr) from HI.out.1
      have hki : (k : Int) < (l.length : Int) := by omega
      clear hca HA HI
      generalize l[k] = x at *
      by_cases exy : x = s
      · have HS2 := show Hid _ from HN.out exy
        have hne := beqS_eq exy
        clear HS HN exy
        go_wp2_with fail
        go_ret
        exact ⟨ret_bool HS2.out.symm, HBL.out⟩
      · have HS2 := show Hid _ from HS.out exy
        have hne := beqS_ne exy
        clear HS HN exy
        go_wp2_with fail
        go_roundw
        case rel => exact ⟨k + 1, by omega, val_int (by omega), HBL.out, HS2.out⟩
        case measure => (simp only [intOf]; omega)
    · have HE := show Hid (ans = false) from HF.out fun h => by
        obtain ⟨j, hj, e⟩ := List.mem_iff_getElem.1 h
        exact HI.out.2 j hj (by omega) e
      go_wp2_with fail
      go_ret
      exact ⟨ret_bool HE.out.symm, HI.out.1⟩
end Go.Proofs.YtjbnbaiidpdpoaaGreatDoor.Wm
/-
  The document's call Word: is a text a name? For every text that a machine can hold. No other condition.
-/
namespace Go.Proofs.YtjbnbaiidpdpoaaGreatDoor.Wm
open Go.RowKit Go.Maps
set_option linter.unusedSimpArgs false

set_option maxHeartbeats 400000 in
theorem letter_any (w : World) (c : UInt8) :
    Calls Tryz.prog 79 #[.int .u8 c.toNat] w fun e w' => e = .returned (.bool (Fm.isL c)) ∧ w' = w := by
  have h := isL_iff c
  have hc := c.toNat_lt
  generalize c.toNat = x at *
  generalize Fm.isL c = r at *
  have H := show Hid _ from h
  clear h
  go_enter Tryz.func79, Tryz.ntmps79
  go_wp2
  all_goals (go_ret; refine ⟨ret_bool ?_, rfl⟩; rw [H.out, Bool.eq_iff_iff]; simp only [Bool.or_eq_true, decide_eq_true_eq, true_iff, Bool.false_eq_true, false_iff]; omega)
def strs : Array Value := (Fm.takens.map fun l => Value.string ⟨l.toArray⟩).toArray
set_option maxHeartbeats 400000 in
theorem reserved_any (w : World) :
    Calls Tryz.prog 80 #[] w fun e w' => e = .returned (.slice (some ⟨w.heap.size, 0, none⟩) 12 12) ∧ w'.heap[w.heap.size]? = some (.cells strs 9 (0, 0)) ∧ Below w.heap.size w w' := by
  go_enter Tryz.func80, Tryz.ntmps80
  go_wp2
  go_ret
  exact ⟨rfl, heap_alloc_new _ _, below_alloc _ _⟩
theorem strs_at (k : Nat) (h : k < 12) : ∃ x : ByteArray, strs[k]? = some (.string x) ∧ x.toList = Fm.takens.getD k [] ∧ x.toList ∈ Fm.takens := by
  have : ∀ k, k < 12 → ∃ x : ByteArray, strs[k]? = some (.string x) ∧ x.data.toList = Fm.takens.getD k [] ∧ x.data.toList ∈ Fm.takens := by
    intro k hk
    have hl : k < Fm.takens.length := hk
    refine ⟨⟨(Fm.takens[k]).toArray⟩, ?_, ?_, ?_⟩
    · unfold strs
      simp [hl]
    · simp [hl]
    · simp
  obtain ⟨x, h1, h2, h3⟩ := this k h
  exact ⟨x, h1, by rw [ByteArray.toList_eq]; exact h2, by rw [ByteArray.toList_eq]; exact h3⟩
theorem mem_takens {l : List UInt8} (h : l ∈ Fm.takens) : ∃ k, k < 12 ∧ Fm.takens.getD k [] = l := by
  obtain ⟨k, hk, e⟩ := List.mem_iff_getElem.1 h
  exact ⟨k, hk, by rw [List.getD_eq_getElem?_getD, List.getElem?_eq_getElem hk]; exact e⟩
set_option maxRecDepth 100000 in
set_option maxHeartbeats 4000000 in
theorem rword_any (w : World) (s : ByteArray) (hs : s.size ≤ 140737488351232) :
    Calls Tryz.prog 66 #[.string s] w fun e w' => e = .returned (.bool (Fm.word s.data.toList)) ∧ Below w.heap.size w w' := by
  have KL := show Hid (∀ (c : UInt8) (w : World), Calls Tryz.prog 79 #[.int .u8 c.toNat] w fun e w' => e = .returned (.bool (Fm.isL c)) ∧ w' = w) from fun c w => letter_any w c
  have KR := show Hid (Calls Tryz.prog 80 #[] w fun e w' => e = .returned (.slice (some ⟨w.heap.size, 0, none⟩) 12 12) ∧ w'.heap[w.heap.size]? = some (.cells strs 9 (0, 0)) ∧ Below w.heap.size w w') from reserved_any w
  have HBr := show Hid (Below w.heap.size w w) from Below.refl _ _
  by_cases h0 : s.size = 0
  · have hw := word_no (Or.inl h0)
    rw [hw]
    have hlt : (s.size : Int) < 1 := by omega
    clear hw
    go_enter Tryz.func66, Tryz.ntmps66
    go_wp2_with fail
    go_ret
    exact ⟨rfl, HBr.out⟩
  · by_cases h1 : 31 < s.size
    · have hw := word_no (Or.inr (Or.inl h1))
      rw [hw]
      have hlt : ¬ (s.size : Int) < 1 := by omega
      have hgt : (31 : Int) < (s.size : Int) := by omega
      clear hw
      go_enter Tryz.func66, Tryz.ntmps66
      go_wp2_with fail
      go_ret
      exact ⟨rfl, HBr.out⟩
    · have hp : 0 < s.size := by omega
      have hlt : ¬ (s.size : Int) < 1 := by omega
      have hgt : ¬ (31 : Int) < (s.size : Int) := by omega
      cases hc : Fm.isL s[0]
      · have hw := word_no (Or.inr (Or.inr ⟨hp, hc⟩))
        rw [hw]
        clear hw
        go_enter Tryz.func66, Tryz.ntmps66
        go_wp2_with fail
        refine (KL.out _ _).mono ?_
        rintro e w' ⟨rfl, rfl⟩
        rw [hc]
        go_wp2_with fail
        go_ret
        exact ⟨rfl, HBr.out⟩
      · have HW := show Hid ((∀ j (hj : j < s.size), 1 ≤ j → Fm.inN s[j] = true) → Fm.word s.data.toList = !Fm.takens.contains s.data.toList) from word_yes hp (by omega) hc
        have HF := show Hid (∀ k (hk : k < s.size), 1 ≤ k → Fm.inN s[k] = false → Fm.word s.data.toList = false) from fun k hk h1 h => tail_all k hk h1 h
        have HLS := show Hid (s.toList = s.data.toList) from ByteArray.toList_eq s
        generalize Fm.word s.data.toList = wd at *
        go_enter Tryz.func66, Tryz.ntmps66
        go_wp2_with fail
        refine (KL.out _ _).mono ?_
        rintro e w' ⟨rfl, hw'⟩
        subst w'
        rw [hc]
        go_wp2_with fail
        go_loop [3] (fun i => ∃ k : Nat, 1 ≤ k ∧ k ≤ s.size ∧ i = .int .i64 k ∧ Hid (∀ j (hj : j < s.size), 1 ≤ j → j < k → Fm.inN s[j] = true)) (fun i => s.size - (intOf i).toNat)
        case atStart => exact ⟨1, by omega, by omega, rfl, fun j hj h1 h2 => by omega⟩
        case round =>
          obtain ⟨k, hk1, hk, rfl, HI⟩ := hrel
          by_cases hlt2 : k < s.size
          · have hki : (k : Int) < (s.size : Int) := by omega
            have HN := show Hid _ from inN_iff s[k]
            have HC := show Hid (Fm.inN s[k] = false → wd = false) from HF.out k hlt2 hk1
            have HY := show Hid (Fm.inN s[k] = true → ∀ j (hj : j < s.size), 1 ≤ j → j < k + 1 → Fm.inN s[j] = true) from fun hn j hj h1 h2 => by
              by_cases e : j = k
              · subst e; exact hn
              · exact HI.out j hj h1 (by omega)
            have HYN : Hid (Fm.inN s[k] = true) ∨ (Fm.isL s[k] = false ∧ ¬ (48 ≤ (s[k].toNat : Int) ∧ (s[k].toNat : Int) ≤ 57) ∧ ((s[k].toNat : Int) != 95) = true ∧ ((s[k].toNat : Int) != 39) = true ∧ Hid (wd = false)) := by
              by_cases hin : Fm.inN s[k] = true
              · exact Or.inl hin
              · have h2 : Fm.inN s[k] = false := by simpa using hin
                have h3 := HN.out
                rw [h2] at h3
                have h4 := h3.symm
                simp only [Bool.or_eq_false_iff, decide_eq_false_iff_not] at h4
                exact Or.inr ⟨h4.1.1.1, h4.1.1.2, by simpa using h4.1.2, by simpa using h4.2, HC.out h2⟩
            rcases HYN with hin | ⟨hl0, hd, h95, h39, hwd⟩
            · have HY2 := show Hid (∀ j (hj : j < s.size), 1 ≤ j → j < k + 1 → Fm.inN s[j] = true) from HY.out hin.out
              have HCS : Fm.isL s[k] = true ∨ (Fm.isL s[k] = false ∧ ((48 ≤ (s[k].toNat : Int) ∧ (s[k].toNat : Int) ≤ 57) ∨ (s[k].toNat : Int) = 95 ∨ (s[k].toNat : Int) = 39)) := by
                have h3 := HN.out
                rw [hin.out] at h3
                have h4 := h3.symm
                simp only [Bool.or_eq_true, decide_eq_true_eq] at h4
                cases hl : Fm.isL s[k]
                · rw [hl] at h4
                  refine Or.inr ⟨rfl, ?_⟩
                  rcases h4 with ((h4 | h4) | h4) | h4
                  · cases h4
                  · exact Or.inl h4
                  · exact Or.inr (Or.inl h4)
                  · exact Or.inr (Or.inr h4)
                · exact Or.inl rfl
              clear HC HN HY hin
              have HC2 := show Hid _ from HCS
              clear HCS
              go_wp2_with fail
              refine (KL.out _ _).mono ?_
              rintro e w' ⟨rfl, hw'⟩
              subst w'
              rcases HC2.out with hl | ⟨hl, ⟨hd1, hd2⟩ | h95 | h39⟩
              · rw [hl]
                clear HC2
                go_wp2_with fail
                go_round
                case rel => exact ⟨k + 1, by omega, by omega, by go_num, HY2⟩
                case measure => simp [intOf]; omega
              · rw [hl]
                clear HC2
                go_wp2_with fail
                go_round
                case rel => exact ⟨k + 1, by omega, by omega, by go_num, HY2⟩
                case measure => simp [intOf]; omega
              · rw [hl]
                clear HC2
                have h1 : ¬ (s[k].toNat : Int) ≤ 57 := by omega
                have h2 : 48 ≤ (s[k].toNat : Int) := by omega
                have h3 : ((s[k].toNat : Int) != 95) = false := by simp [h95]
                clear h95
                go_wp2_with fail
                go_round
                case rel => exact ⟨k + 1, by omega, by omega, by go_num, HY2⟩
                case measure => simp [intOf]; omega
              · rw [hl]
                clear HC2
                have h1 : ¬ 48 ≤ (s[k].toNat : Int) := by omega
                have h2 : ((s[k].toNat : Int) != 95) = true := by simp [h39]
                have h3 : ((s[k].toNat : Int) != 39) = false := by simp [h39]
                clear h39
                go_wp2_with fail
                go_round
                case rel => exact ⟨k + 1, by omega, by omega, by go_num, HY2⟩
                case measure => simp [intOf]; omega
            · clear HC HN HY
              by_cases hd1 : 48 ≤ (s[k].toNat : Int)
              · have hd2 : ¬ (s[k].toNat : Int) ≤ 57 := fun h => hd ⟨hd1, h⟩
                clear hd
                go_wp2_with fail
                refine (KL.out _ _).mono ?_
                rintro e w' ⟨rfl, hw'⟩
                subst w'
                rw [hl0]
                go_wp2_with fail
                all_goals first
                  | (go_ret; exact ⟨ret_bool hwd.out.symm, HBr.out⟩)
                  | (exfalso; rename_i hx; simp_all; done)
                  | (exfalso; rename_i hx; simp_all; omega)
              · clear hd
                go_wp2_with fail
                refine (KL.out _ _).mono ?_
                rintro e w' ⟨rfl, hw'⟩
                subst w'
                rw [hl0]
                go_wp2_with fail
                all_goals first
                  | (go_ret; exact ⟨ret_bool hwd.out.symm, HBr.out⟩)
                  | (exfalso; rename_i hx; simp_all; done)
                  | (exfalso; rename_i hx; simp_all; omega)
          · go_wp2_with fail
            refine KR.out.mono ?_
            rintro e w1 ⟨rfl, hrow, hb1⟩
            have HW2 := show Hid (wd = !Fm.takens.contains s.data.toList) from HW.out fun j hj h1 => HI.out j hj h1 (by omega)
            have HR1 := show Hid _ from hrow
            have HB1 := show Hid (Below w.heap.size w w1) from hb1
            clear hrow hb1 KR HW HF HI
            go_wp2_with fail
            go_loop [5] (fun i => ∃ j : Nat, j ≤ 12 ∧ i = .int .i64 j ∧ Hid (∀ i, i < j → Fm.takens.getD i [] ≠ s.toList)) (fun i => 12 - (intOf i).toNat)
            case atStart => exact ⟨0, by omega, rfl, fun i hi => by omega⟩
            case round =>
              obtain ⟨j, hj, rfl, HJ⟩ := hrel
              by_cases hlt3 : j < 12
              · obtain ⟨x, hx1, hx2, hx3⟩ := strs_at j hlt3
                have hcell : w1.cell? ⟨w.heap.size, j, none⟩ = some (.string x) := by rw [cell_of_row _ _ j _ _ _ HR1.out]; exact hx1
                have hji : (j : Int) < 12 := by omega
                have HX := show Hid (x.toList = Fm.takens.getD j [] ∧ x.toList ∈ Fm.takens) from ⟨hx2, hx3⟩
                clear hx1 hx2 hx3
                cases hb : (x.toList == s.toList)
                · go_wp2_with fail
                  go_round
                  case rel =>
                    refine ⟨j + 1, by omega, by go_num, fun i hi => ?_⟩
                    by_cases e : i = j
                    · subst e
                      rw [← HX.out.1]
                      exact ne_of_beq_false hb
                    · exact HJ.out i (by omega)
                  case measure => simp [intOf]; omega
                · go_wp2_with fail
                  go_ret
                  refine ⟨ret_bool ?_, HB1.out⟩
                  rw [HW2.out]
                  have h1 := HX.out.2
                  rw [eq_of_beq hb, HLS.out] at h1
                  simp [h1]
              · go_wp2_with fail
                go_ret
                refine ⟨ret_bool ?_, HB1.out⟩
                rw [HW2.out]
                have hno : s.data.toList ∉ Fm.takens := fun hmem => by
                  obtain ⟨i, hi, e⟩ := mem_takens hmem
                  exact HJ.out i (by omega) (by rw [e, HLS.out])
                simp [hno]
end Go.Proofs.YtjbnbaiidpdpoaaGreatDoor.Wm
/-
  The document's fine: are a world's names names that rise? No condition.
-/
namespace Go.Proofs.YtjbnbaiidpdpoaaGreatDoor.Wm
open Go.RowKit Go.Maps
open Wd (names lt)
set_option linter.unusedSimpArgs false

theorem wanted_undef {ops : Array Oper} {o : Oper} {a : Act} {j t : Nat} {want : Bool} (hg : o.guard = some (j, want)) (hj : (ops[j]?).bind (·.dst) = some t) (ht : a.tmps[t]? = some undef) : Region.wanted o (yielded ops a.tmps) = false := by
  have hy : yielded ops a.tmps j = none := by
    unfold yielded
    rw [hj]
    show (match a.tmps[t]? with | some (.bool b) => some b | _ => none) = none
    rw [ht]
    rfl
  simp only [Region.wanted, hg, hy]
  cases want <;> rfl
theorem bgeq (x y : ByteArray) : (!Op.bytesLess x.toList y.toList) = !lt x y := by rw [bless]
set_option maxRecDepth 100000 in
set_option maxHeartbeats 4000000 in
theorem fine_any (w : World) {Ls : Nat} {v : Value} {l : List ByteArray} (hl : IsN w Ls v l) (hLs : Ls ≤ w.heap.size) (hlen : l.length ≤ 140737488351232) (hx : ∀ x ∈ l, x.size ≤ 140737488351232) :
    Calls Tryz.prog 43 #[v] w fun e w' => e = .returned (.bool (names none l)) ∧ Below w.heap.size w w' := by
  obtain ⟨q, c, rfl, hat⟩ := hl
  have HA := show Hid (0 < l.length → ∃ b o, b < w.heap.size ∧ q = some ⟨b, o, none⟩ ∧ ∀ (j : Nat) (hj : j < l.length), w.cell? ⟨b, o + j, none⟩ = some (.string l[j])) from fun h => by
    obtain ⟨b, o, hb, hq, h⟩ := hat h
    exact ⟨b, o, by omega, hq, fun j hj => by obtain ⟨x, hx, rfl⟩ := h j hj; exact hx⟩
  have HX := show Hid (∀ (j : Nat) (hj : j < l.length) (W : World), Calls Tryz.prog 66 #[.string l[j]] W fun e w' => e = .returned (.bool (Fm.word l[j].data.toList)) ∧ Below W.heap.size W w') from fun j hj W => rword_any W l[j] (hx _ (List.getElem_mem hj))
  have HT := show Hid ((∀ (k : Nat) (hk : k < l.length), Fm.word l[k].data.toList = true ∧ (0 < k → lt (l[k - 1]'(by omega)) l[k] = true)) → names none l = true) from names_yes (fun _ => rfl)
  have HF := show Hid (∀ (k : Nat) (hk : k < l.length), (Fm.word l[k].data.toList = false ∨ (0 < k ∧ lt (l[k - 1]'(by omega)) l[k] = false)) → names none l = false) from names_no
  generalize names none l = ans at *
  clear hat hx
  go_enter Tryz.func43, Tryz.ntmps43
  go_wp2_with fail
  go_loopw [3] (fun i wr => ∃ k : Nat, k ≤ l.length ∧ i = .int .i64 (k : Int) ∧ Hid (Below w.heap.size w wr) ∧ Hid (∀ (j : Nat) (hk : j < l.length), j < k → Fm.word l[j].data.toList = true ∧ (0 < j → lt (l[j - 1]'(by omega)) l[j] = true))) (fun i _ => l.length - (intOf i).toNat)
  case atStart => exact ⟨0, Nat.zero_le _, rfl, Below.refl _ _, fun j _ h => absurd h (Nat.not_lt_zero _)⟩
  case round =>
    obtain ⟨k, hk, rfl, HB, HI⟩ := hrel
    obtain ⟨w3, hw3⟩ : ∃ w3, w3 = wr := ⟨_, rfl⟩
    rw [← hw3] at HB ⊢
    clear hw3
    by_cases hlt : k < l.length
    · obtain ⟨b, o, hb, rfl, hat⟩ := HA.out (by omega)
      have KW := show Hid _ from HX.out k hlt
      have HFK := show Hid _ from HF.out k hlt
      have HS := show Hid (Fm.word l[k].data.toList = true → (0 < k → lt (l[k - 1]'(by omega)) l[k] = true) → ∀ (j : Nat) (hk : j < l.length), j < k + 1 → Fm.word l[j].data.toList = true ∧ (0 < j → lt (l[j - 1]'(by omega)) l[j] = true)) from fun h1 h2 j hj hk => by
        by_cases e : j = k
        · subst e; exact ⟨h1, h2⟩
        · exact HI.out j hj (by omega)
      have hki : (k : Int) < (l.length : Int) := by omega
      have HCX := show Hid (∀ W, Below w3.heap.size w3 W → W.cell? ⟨b, o + k, none⟩ = some (.string l[k])) from fun W hW => ((HB.out.trans (hW.mono HB.out.size)).cell (p := ⟨b, o + k, none⟩) hb).trans (hat k hlt)
      have hcx : w3.cell? ⟨b, o + k, none⟩ = some (.string l[k]) := HCX.out w3 (Below.refl _ _)
      by_cases hk0 : 0 < k
      · have HCY := show Hid (∀ W, Below w3.heap.size w3 W → W.cell? ⟨b, o + (k - 1), none⟩ = some (.string (l[k - 1]'(by omega)))) from fun W hW => ((HB.out.trans (hW.mono HB.out.size)).cell (p := ⟨b, o + (k - 1), none⟩) hb).trans (hat (k - 1) (by omega))
        have hd : decide (0 < (k : Int)) = true := by simp; omega
        have hk1 : ((k : Int) - 1).toNat = k - 1 := by omega
        have hk2 : 1 ≤ (k : Int) := by omega
        have hk4 : IntKind.i64.wrap ((k : Int) - 1) = (k : Int) - 1 := by rw [IntKind.wrap_i64]; omega
        have hk3 : ¬ ((l.length : Int) ≤ (k : Int) - 1) := by omega
        have HBL := show Hid _ from bgeq (l[k - 1]'(by omega)) l[k]
        have HS3 := show Hid (Fm.word l[k].data.toList = true → lt (l[k - 1]'(by omega)) l[k] = true → _) from fun h1 h2 => HS.out h1 (fun _ => h2)
        have HF3 := show Hid (lt (l[k - 1]'(by omega)) l[k] = false → ans = false) from fun h => HFK.out (Or.inr ⟨hk0, h⟩)
        have HF4 := show Hid (Fm.word l[k].data.toList = false → ans = false) from fun h => HFK.out (Or.inl h)
        clear hat HA HX HF HFK HS HI
        generalize l[k - 1] = y at *
        generalize l[k] = x at *
        generalize Fm.word x.data.toList = wx at *
        cases wx
        · go_wp2_with fail
          refine wp_region_one (by kernel_rfl) 4 [some 10, some 11, some 12, some 13, some 14, some 15, some 16, some 17, some 18, some 19, some 20, some 21, some 22, some 23, some 24, some 25, some 26, some 27, some 28, some 29, some 30, some 31] [[], [], [0, 1], [2], [3], [4], [5], [6], [7, 6], [8, 6], [9], [9], [11, 9], [10, 12, 9], [13, 9], [9], [9], [15, 16, 9], [17, 9], [14, 18, 9], [9, 19, 6], [6, 20]] [[], [], [0, 1], [2, 0, 1], [3, 2, 0, 1], [4, 3, 2, 0, 1], [5, 4, 3, 2, 0, 1], [6, 5, 4, 3, 2, 0, 1], [7, 6, 5, 4, 3, 2, 0, 1], [8, 7, 6, 5, 4, 3, 2, 0, 1], [9, 8, 7, 6, 5, 4, 3, 2, 0, 1], [9, 8, 7, 6, 5, 4, 3, 2, 0, 1], [11, 9, 8, 7, 6, 5, 4, 3, 2, 0, 1], [10, 9, 8, 7, 6, 5, 4, 3, 2, 0, 1, 12, 11], [13, 10, 9, 8, 7, 6, 5, 4, 3, 2, 0, 1, 12, 11], [9, 8, 7, 6, 5, 4, 3, 2, 0, 1], [9, 8, 7, 6, 5, 4, 3, 2, 0, 1], [15, 9, 8, 7, 6, 5, 4, 3, 2, 0, 1, 16], [17, 15, 9, 8, 7, 6, 5, 4, 3, 2, 0, 1, 16], [14, 13, 10, 9, 8, 7, 6, 5, 4, 3, 2, 0, 1, 12, 11, 18, 17, 15, 16], [9, 8, 7, 6, 5, 4, 3, 2, 0, 1, 19, 14, 13, 10, 12, 11, 18, 17, 15, 16], [6, 5, 4, 3, 2, 0, 1, 20, 9, 8, 7, 19, 14, 13, 10, 12, 11, 18, 17, 15, 16]] (by kernel_rfl) (by decide) (fun ii vv w1 => match ii with | 0 => vv = .slice (some ⟨b, o, none⟩) l.length c | 1 => vv = .int .i64 (k : Int) | 2 => vv = .pointer (some ⟨b, o + k, none⟩) | 3 => vv = .string x | 4 => vv = .bool false ∧ Below w3.heap.size w3 w1 | 5 => vv = .bool true ∧ Below w3.heap.size w3 w1 | 6 => vv = .bool true ∧ Below w3.heap.size w3 w1 | 7 => vv = undef ∧ Below w3.heap.size w3 w1 | 8 => vv = undef ∧ Below w3.heap.size w3 w1 | 9 => vv = undef ∧ Below w3.heap.size w3 w1 | 10 => vv = undef ∧ Below w3.heap.size w3 w1 | 11 => vv = undef ∧ Below w3.heap.size w3 w1 | 12 => vv = undef ∧ Below w3.heap.size w3 w1 | 13 => vv = undef ∧ Below w3.heap.size w3 w1 | 14 => vv = undef ∧ Below w3.heap.size w3 w1 | 15 => vv = undef ∧ Below w3.heap.size w3 w1 | 16 => vv = undef ∧ Below w3.heap.size w3 w1 | 17 => vv = undef ∧ Below w3.heap.size w3 w1 | 18 => vv = undef ∧ Below w3.heap.size w3 w1 | 19 => vv = undef ∧ Below w3.heap.size w3 w1 | 20 => vv = undef ∧ Below w3.heap.size w3 w1 | 21 => vv = .bool true ∧ Below w3.heap.size w3 w1 | _ => True) ?hfree (allLt 22 ?steps) ?fin
          case hfree =>
            intro j v w1 w2 hj hn h
            match j, h, hj, hn with
            | 0, h, _, _ => exact h
            | 1, h, _, _ => exact h
            | 2, h, _, _ => exact h
            | 3, h, _, _ => exact h
            | 4, _, hj, _ => exact absurd rfl hj
            | 5, _, _, hn => exact absurd (by decide) hn
            | 6, _, _, hn => exact absurd (by decide) hn
            | 7, _, _, hn => exact absurd (by decide) hn
            | 8, _, _, hn => exact absurd (by decide) hn
            | 9, _, _, hn => exact absurd (by decide) hn
            | 10, _, _, hn => exact absurd (by decide) hn
            | 11, _, _, hn => exact absurd (by decide) hn
            | 12, _, _, hn => exact absurd (by decide) hn
            | 13, _, _, hn => exact absurd (by decide) hn
            | 14, _, _, hn => exact absurd (by decide) hn
            | 15, _, _, hn => exact absurd (by decide) hn
            | 16, _, _, hn => exact absurd (by decide) hn
            | 17, _, _, hn => exact absurd (by decide) hn
            | 18, _, _, hn => exact absurd (by decide) hn
            | 19, _, _, hn => exact absurd (by decide) hn
            | 20, _, _, hn => exact absurd (by decide) hn
            | 21, _, _, hn => exact absurd (by decide) hn
            | _ + 22, _, _, _ => trivial
          case steps =>
            refine ⟨⟨⟨⟨⟨⟨⟨⟨⟨⟨⟨⟨⟨⟨⟨⟨⟨⟨⟨⟨⟨⟨trivial, ?s0⟩, ?s1⟩, ?s2⟩, ?s3⟩, ?s4⟩, ?s5⟩, ?s6⟩, ?s7⟩, ?s8⟩, ?s9⟩, ?s10⟩, ?s11⟩, ?s12⟩, ?s13⟩, ?s14⟩, ?s15⟩, ?s16⟩, ?s17⟩, ?s18⟩, ?s19⟩, ?s20⟩, ?s21⟩
            case s0 =>
              intro a w1 hw hO hN
              obtain rfl : w1 = w3.drew := hw (by decide)
              have o0 : a.tmps[0]? = some (.slice (some ⟨b, o, none⟩) l.length c) := (hO.out 0 (by decide)).trans rfl
              exact relVal rfl (.slice (some ⟨b, o, none⟩) l.length c) _ rfl (by go_simp) ⟨_, rfl, rfl, fun _ => rfl⟩
            case s1 =>
              intro a w1 hw hO hN
              obtain rfl : w1 = w3.drew := hw (by decide)
              have o3 : a.tmps[3]? = some (.int .i64 (k : Int)) := (hO.out 3 (by decide)).trans rfl
              exact relVal rfl (.int .i64 (k : Int)) _ rfl (by go_simp) ⟨_, rfl, rfl, fun _ => rfl⟩
            case s2 =>
              intro a w1 hw hO hN
              obtain rfl : w1 = w3.drew := hw (by decide)
              obtain ⟨v0, g0, r0⟩ := hN 0 (by decide)
              have g0 : a.tmps[10]? = some v0 := g0
              have e0 : v0 = .slice (some ⟨b, o, none⟩) l.length c := r0
              rw [e0] at g0
              obtain ⟨v1, g1, r1⟩ := hN 1 (by decide)
              have g1 : a.tmps[11]? = some v1 := g1
              have e1 : v1 = .int .i64 (k : Int) := r1
              rw [e1] at g1
              exact relVal rfl (.pointer (some ⟨b, o + k, none⟩)) _ rfl (by go_simp) ⟨_, rfl, rfl, fun _ => rfl⟩
            case s3 =>
              intro a w1 hw hO hN
              obtain rfl : w1 = w3.drew := hw (by decide)
              obtain ⟨v2, g2, r2⟩ := hN 2 (by decide)
              have g2 : a.tmps[12]? = some v2 := g2
              have e2 : v2 = .pointer (some ⟨b, o + k, none⟩) := r2
              rw [e2] at g2
              exact relVal rfl (.string x) _ rfl (by go_simp) ⟨_, rfl, rfl, fun _ => rfl⟩
            case s4 =>
              intro a w1 hw hO hN
              obtain rfl : w1 = w3.drew := hw (by decide)
              obtain ⟨v3, g3, r3⟩ := hN 3 (by decide)
              have g3 : a.tmps[13]? = some v3 := g3
              have e3 : v3 = .string x := r3
              rw [e3] at g3
              refine relCallF rfl rfl 66 [.tmp 13] #[9] rfl [.string x] (by simp [Act.eval, g3]) (enters_of Tryz.func66 (by kernel_rfl) rfl) (Calls.mono (KW.out w3.drew) ?_)
              rintro e w5 ⟨rfl, hb5⟩
              exact ⟨_, rfl, _, rfl, ⟨rfl, (Below.refl _ _).drew.trans hb5⟩, fun h => absurd rfl h⟩
            case s5 =>
              intro a w1 hw hO hN
              obtain ⟨v4, g4, r4⟩ := hN 4 (by decide)
              have g4 : a.tmps[14]? = some v4 := g4
              obtain ⟨e4, hb4⟩ := r4
              rw [e4] at g4
              exact relVal rfl (.bool true) _ rfl (by go_simp) ⟨_, rfl, ⟨rfl, hb4⟩, fun _ => rfl⟩
            case s6 =>
              intro a w1 hw hO hN
              obtain ⟨v5, g5, r5⟩ := hN 5 (by decide)
              have g5 : a.tmps[15]? = some v5 := g5
              obtain ⟨e5, hb5⟩ := r5
              rw [e5] at g5
              exact relVal rfl (.bool true) _ rfl (by go_simp) ⟨_, rfl, ⟨rfl, hb5⟩, fun _ => rfl⟩
            case s7 =>
              intro a w1 hw hO hN
              obtain ⟨v6, g6, r6⟩ := hN 6 (by decide)
              have g6 : a.tmps[16]? = some v6 := g6
              obtain ⟨e6, hb6⟩ := r6
              rw [e6] at g6
              have o3 : a.tmps[3]? = some (.int .i64 (k : Int)) := (hO.out 3 (by decide)).trans rfl
              exact relNo rfl ((wanted_is rfl rfl g6).trans rfl) ⟨_, rfl, ⟨rfl, hb6⟩, fun _ => rfl⟩
            case s8 =>
              intro a w1 hw hO hN
              obtain ⟨v7, g7, r7⟩ := hN 7 (by decide)
              have g7 : a.tmps[17]? = some v7 := g7
              obtain ⟨e7, hb7⟩ := r7
              rw [e7] at g7
              obtain ⟨v6, g6, r6⟩ := hN 6 (by decide)
              have g6 : a.tmps[16]? = some v6 := g6
              obtain ⟨e6, hb6⟩ := r6
              rw [e6] at g6
              exact relNo rfl ((wanted_is rfl rfl g6).trans rfl) ⟨_, rfl, ⟨rfl, hb7⟩, fun _ => rfl⟩
            case s9 =>
              intro a w1 hw hO hN
              obtain ⟨v8, g8, r8⟩ := hN 8 (by decide)
              have g8 : a.tmps[18]? = some v8 := g8
              obtain ⟨e8, hb8⟩ := r8
              rw [e8] at g8
              obtain ⟨v6, g6, r6⟩ := hN 6 (by decide)
              have g6 : a.tmps[16]? = some v6 := g6
              obtain ⟨e6, hb6⟩ := r6
              rw [e6] at g6
              exact relNo rfl ((wanted_is rfl rfl g6).trans rfl) ⟨_, rfl, ⟨rfl, hb8⟩, fun _ => rfl⟩
            case s10 =>
              intro a w1 hw hO hN
              obtain ⟨v9, g9, r9⟩ := hN 9 (by decide)
              have g9 : a.tmps[19]? = some v9 := g9
              obtain ⟨e9, hb9⟩ := r9
              rw [e9] at g9
              have o0 : a.tmps[0]? = some (.slice (some ⟨b, o, none⟩) l.length c) := (hO.out 0 (by decide)).trans rfl
              exact relNo rfl (wanted_undef rfl rfl g9) ⟨_, rfl, ⟨rfl, hb9⟩, fun _ => rfl⟩
            case s11 =>
              intro a w1 hw hO hN
              obtain ⟨v9, g9, r9⟩ := hN 9 (by decide)
              have g9 : a.tmps[19]? = some v9 := g9
              obtain ⟨e9, hb9⟩ := r9
              rw [e9] at g9
              have o3 : a.tmps[3]? = some (.int .i64 (k : Int)) := (hO.out 3 (by decide)).trans rfl
              exact relNo rfl (wanted_undef rfl rfl g9) ⟨_, rfl, ⟨rfl, hb9⟩, fun _ => rfl⟩
            case s12 =>
              intro a w1 hw hO hN
              obtain ⟨v11, g11, r11⟩ := hN 11 (by decide)
              have g11 : a.tmps[21]? = some v11 := g11
              obtain ⟨e11, hb11⟩ := r11
              rw [e11] at g11
              obtain ⟨v9, g9, r9⟩ := hN 9 (by decide)
              have g9 : a.tmps[19]? = some v9 := g9
              obtain ⟨e9, hb9⟩ := r9
              rw [e9] at g9
              exact relNo rfl (wanted_undef rfl rfl g9) ⟨_, rfl, ⟨rfl, hb11⟩, fun _ => rfl⟩
            case s13 =>
              intro a w1 hw hO hN
              obtain ⟨v10, g10, r10⟩ := hN 10 (by decide)
              have g10 : a.tmps[20]? = some v10 := g10
              obtain ⟨e10, hb10⟩ := r10
              rw [e10] at g10
              obtain ⟨v12, g12, r12⟩ := hN 12 (by decide)
              have g12 : a.tmps[22]? = some v12 := g12
              obtain ⟨e12, hb12⟩ := r12
              rw [e12] at g12
              obtain ⟨v9, g9, r9⟩ := hN 9 (by decide)
              have g9 : a.tmps[19]? = some v9 := g9
              obtain ⟨e9, hb9⟩ := r9
              rw [e9] at g9
              exact relNo rfl (wanted_undef rfl rfl g9) ⟨_, rfl, ⟨rfl, hb10⟩, fun _ => rfl⟩
            case s14 =>
              intro a w1 hw hO hN
              obtain ⟨v13, g13, r13⟩ := hN 13 (by decide)
              have g13 : a.tmps[23]? = some v13 := g13
              obtain ⟨e13, hb13⟩ := r13
              rw [e13] at g13
              obtain ⟨v9, g9, r9⟩ := hN 9 (by decide)
              have g9 : a.tmps[19]? = some v9 := g9
              obtain ⟨e9, hb9⟩ := r9
              rw [e9] at g9
              exact relNo rfl (wanted_undef rfl rfl g9) ⟨_, rfl, ⟨rfl, hb13⟩, fun _ => rfl⟩
            case s15 =>
              intro a w1 hw hO hN
              obtain ⟨v9, g9, r9⟩ := hN 9 (by decide)
              have g9 : a.tmps[19]? = some v9 := g9
              obtain ⟨e9, hb9⟩ := r9
              rw [e9] at g9
              have o0 : a.tmps[0]? = some (.slice (some ⟨b, o, none⟩) l.length c) := (hO.out 0 (by decide)).trans rfl
              exact relNo rfl (wanted_undef rfl rfl g9) ⟨_, rfl, ⟨rfl, hb9⟩, fun _ => rfl⟩
            case s16 =>
              intro a w1 hw hO hN
              obtain ⟨v9, g9, r9⟩ := hN 9 (by decide)
              have g9 : a.tmps[19]? = some v9 := g9
              obtain ⟨e9, hb9⟩ := r9
              rw [e9] at g9
              have o3 : a.tmps[3]? = some (.int .i64 (k : Int)) := (hO.out 3 (by decide)).trans rfl
              exact relNo rfl (wanted_undef rfl rfl g9) ⟨_, rfl, ⟨rfl, hb9⟩, fun _ => rfl⟩
            case s17 =>
              intro a w1 hw hO hN
              obtain ⟨v15, g15, r15⟩ := hN 15 (by decide)
              have g15 : a.tmps[25]? = some v15 := g15
              obtain ⟨e15, hb15⟩ := r15
              rw [e15] at g15
              obtain ⟨v16, g16, r16⟩ := hN 16 (by decide)
              have g16 : a.tmps[26]? = some v16 := g16
              obtain ⟨e16, hb16⟩ := r16
              rw [e16] at g16
              obtain ⟨v9, g9, r9⟩ := hN 9 (by decide)
              have g9 : a.tmps[19]? = some v9 := g9
              obtain ⟨e9, hb9⟩ := r9
              rw [e9] at g9
              exact relNo rfl (wanted_undef rfl rfl g9) ⟨_, rfl, ⟨rfl, hb15⟩, fun _ => rfl⟩
            case s18 =>
              intro a w1 hw hO hN
              obtain ⟨v17, g17, r17⟩ := hN 17 (by decide)
              have g17 : a.tmps[27]? = some v17 := g17
              obtain ⟨e17, hb17⟩ := r17
              rw [e17] at g17
              obtain ⟨v9, g9, r9⟩ := hN 9 (by decide)
              have g9 : a.tmps[19]? = some v9 := g9
              obtain ⟨e9, hb9⟩ := r9
              rw [e9] at g9
              exact relNo rfl (wanted_undef rfl rfl g9) ⟨_, rfl, ⟨rfl, hb17⟩, fun _ => rfl⟩
            case s19 =>
              intro a w1 hw hO hN
              obtain ⟨v14, g14, r14⟩ := hN 14 (by decide)
              have g14 : a.tmps[24]? = some v14 := g14
              obtain ⟨e14, hb14⟩ := r14
              rw [e14] at g14
              obtain ⟨v18, g18, r18⟩ := hN 18 (by decide)
              have g18 : a.tmps[28]? = some v18 := g18
              obtain ⟨e18, hb18⟩ := r18
              rw [e18] at g18
              obtain ⟨v9, g9, r9⟩ := hN 9 (by decide)
              have g9 : a.tmps[19]? = some v9 := g9
              obtain ⟨e9, hb9⟩ := r9
              rw [e9] at g9
              exact relNo rfl (wanted_undef rfl rfl g9) ⟨_, rfl, ⟨rfl, hb14⟩, fun _ => rfl⟩
            case s20 =>
              intro a w1 hw hO hN
              obtain ⟨v9, g9, r9⟩ := hN 9 (by decide)
              have g9 : a.tmps[19]? = some v9 := g9
              obtain ⟨e9, hb9⟩ := r9
              rw [e9] at g9
              obtain ⟨v19, g19, r19⟩ := hN 19 (by decide)
              have g19 : a.tmps[29]? = some v19 := g19
              obtain ⟨e19, hb19⟩ := r19
              rw [e19] at g19
              obtain ⟨v6, g6, r6⟩ := hN 6 (by decide)
              have g6 : a.tmps[16]? = some v6 := g6
              obtain ⟨e6, hb6⟩ := r6
              rw [e6] at g6
              exact relNo rfl ((wanted_is rfl rfl g6).trans rfl) ⟨_, rfl, ⟨rfl, hb9⟩, fun _ => rfl⟩
            case s21 =>
              intro a w1 hw hO hN
              obtain ⟨v6, g6, r6⟩ := hN 6 (by decide)
              have g6 : a.tmps[16]? = some v6 := g6
              obtain ⟨e6, hb6⟩ := r6
              rw [e6] at g6
              obtain ⟨v20, g20, r20⟩ := hN 20 (by decide)
              have g20 : a.tmps[30]? = some v20 := g20
              obtain ⟨e20, hb20⟩ := r20
              rw [e20] at g20
              exact relVal rfl (.bool true) _ rfl (by go_simp) ⟨_, rfl, ⟨rfl, hb6⟩, fun _ => rfl⟩
          case fin =>
            intro vs w1 hV
            obtain ⟨e21, hb9⟩ : vs 21 = .bool true ∧ Below w3.heap.size w3 w1 := hV 21 (by decide)
            have HB9 := show Hid (Below w.heap.size w w1) from HB.out.trans (hb9.mono HB.out.size)
            simp only [putAll, Act.put, List.setIfInBounds_toArray, List.set_cons_zero, List.set_cons_succ, e21]
            clear hV e21 hb9 KW HB HCX hcx
            go_wp2_with fail
            go_ret
            exact ⟨ret_bool (HF4.out (by first | rfl | trivial)).symm, HB9.out⟩
        · have hbl := HBL.out
          cases hz : lt y x
          · rw [hz] at hbl
            clear HS3 HBL
            go_wp2_with fail
            refine wp_region_one (by kernel_rfl) 4 [some 10, some 11, some 12, some 13, some 14, some 15, some 16, some 17, some 18, some 19, some 20, some 21, some 22, some 23, some 24, some 25, some 26, some 27, some 28, some 29, some 30, some 31] [[], [], [0, 1], [2], [3], [4], [5], [6], [7, 6], [8, 6], [9], [9], [11, 9], [10, 12, 9], [13, 9], [9], [9], [15, 16, 9], [17, 9], [14, 18, 9], [9, 19, 6], [6, 20]] [[], [], [0, 1], [2, 0, 1], [3, 2, 0, 1], [4, 3, 2, 0, 1], [5, 4, 3, 2, 0, 1], [6, 5, 4, 3, 2, 0, 1], [7, 6, 5, 4, 3, 2, 0, 1], [8, 7, 6, 5, 4, 3, 2, 0, 1], [9, 8, 7, 6, 5, 4, 3, 2, 0, 1], [9, 8, 7, 6, 5, 4, 3, 2, 0, 1], [11, 9, 8, 7, 6, 5, 4, 3, 2, 0, 1], [10, 9, 8, 7, 6, 5, 4, 3, 2, 0, 1, 12, 11], [13, 10, 9, 8, 7, 6, 5, 4, 3, 2, 0, 1, 12, 11], [9, 8, 7, 6, 5, 4, 3, 2, 0, 1], [9, 8, 7, 6, 5, 4, 3, 2, 0, 1], [15, 9, 8, 7, 6, 5, 4, 3, 2, 0, 1, 16], [17, 15, 9, 8, 7, 6, 5, 4, 3, 2, 0, 1, 16], [14, 13, 10, 9, 8, 7, 6, 5, 4, 3, 2, 0, 1, 12, 11, 18, 17, 15, 16], [9, 8, 7, 6, 5, 4, 3, 2, 0, 1, 19, 14, 13, 10, 12, 11, 18, 17, 15, 16], [6, 5, 4, 3, 2, 0, 1, 20, 9, 8, 7, 19, 14, 13, 10, 12, 11, 18, 17, 15, 16]] (by kernel_rfl) (by decide) (fun ii vv w1 => match ii with | 0 => vv = .slice (some ⟨b, o, none⟩) l.length c | 1 => vv = .int .i64 (k : Int) | 2 => vv = .pointer (some ⟨b, o + k, none⟩) | 3 => vv = .string x | 4 => vv = .bool true ∧ Below w3.heap.size w3 w1 | 5 => vv = .bool false ∧ Below w3.heap.size w3 w1 | 6 => vv = .bool false ∧ Below w3.heap.size w3 w1 | 7 => vv = .int .i64 (k : Int) ∧ Below w3.heap.size w3 w1 | 8 => vv = .bool true ∧ Below w3.heap.size w3 w1 | 9 => vv = .bool true ∧ Below w3.heap.size w3 w1 | 10 => vv = .slice (some ⟨b, o, none⟩) l.length c ∧ Below w3.heap.size w3 w1 | 11 => vv = .int .i64 (k : Int) ∧ Below w3.heap.size w3 w1 | 12 => vv = .int .i64 ((k : Int) - 1) ∧ Below w3.heap.size w3 w1 | 13 => vv = .pointer (some ⟨b, o + (k - 1), none⟩) ∧ Below w3.heap.size w3 w1 | 14 => vv = .string y ∧ Below w3.heap.size w3 w1 | 15 => vv = .slice (some ⟨b, o, none⟩) l.length c ∧ Below w3.heap.size w3 w1 | 16 => vv = .int .i64 (k : Int) ∧ Below w3.heap.size w3 w1 | 17 => vv = .pointer (some ⟨b, o + k, none⟩) ∧ Below w3.heap.size w3 w1 | 18 => vv = .string x ∧ Below w3.heap.size w3 w1 | 19 => vv = .bool true ∧ Below w3.heap.size w3 w1 | 20 => vv = .bool true ∧ Below w3.heap.size w3 w1 | 21 => vv = .bool true ∧ Below w3.heap.size w3 w1 | _ => True) ?hfree (allLt 22 ?steps) ?fin
            case hfree =>
              intro j v w1 w2 hj hn h
              match j, h, hj, hn with
              | 0, h, _, _ => exact h
              | 1, h, _, _ => exact h
              | 2, h, _, _ => exact h
              | 3, h, _, _ => exact h
              | 4, _, hj, _ => exact absurd rfl hj
              | 5, _, _, hn => exact absurd (by decide) hn
              | 6, _, _, hn => exact absurd (by decide) hn
              | 7, _, _, hn => exact absurd (by decide) hn
              | 8, _, _, hn => exact absurd (by decide) hn
              | 9, _, _, hn => exact absurd (by decide) hn
              | 10, _, _, hn => exact absurd (by decide) hn
              | 11, _, _, hn => exact absurd (by decide) hn
              | 12, _, _, hn => exact absurd (by decide) hn
              | 13, _, _, hn => exact absurd (by decide) hn
              | 14, _, _, hn => exact absurd (by decide) hn
              | 15, _, _, hn => exact absurd (by decide) hn
              | 16, _, _, hn => exact absurd (by decide) hn
              | 17, _, _, hn => exact absurd (by decide) hn
              | 18, _, _, hn => exact absurd (by decide) hn
              | 19, _, _, hn => exact absurd (by decide) hn
              | 20, _, _, hn => exact absurd (by decide) hn
              | 21, _, _, hn => exact absurd (by decide) hn
              | _ + 22, _, _, _ => trivial
            case steps =>
              refine ⟨⟨⟨⟨⟨⟨⟨⟨⟨⟨⟨⟨⟨⟨⟨⟨⟨⟨⟨⟨⟨⟨trivial, ?s0⟩, ?s1⟩, ?s2⟩, ?s3⟩, ?s4⟩, ?s5⟩, ?s6⟩, ?s7⟩, ?s8⟩, ?s9⟩, ?s10⟩, ?s11⟩, ?s12⟩, ?s13⟩, ?s14⟩, ?s15⟩, ?s16⟩, ?s17⟩, ?s18⟩, ?s19⟩, ?s20⟩, ?s21⟩
              case s0 =>
                intro a w1 hw hO hN
                obtain rfl : w1 = w3.drew := hw (by decide)
                have o0 : a.tmps[0]? = some (.slice (some ⟨b, o, none⟩) l.length c) := (hO.out 0 (by decide)).trans rfl
                exact relVal rfl (.slice (some ⟨b, o, none⟩) l.length c) _ rfl (by go_simp) ⟨_, rfl, rfl, fun _ => rfl⟩
              case s1 =>
                intro a w1 hw hO hN
                obtain rfl : w1 = w3.drew := hw (by decide)
                have o3 : a.tmps[3]? = some (.int .i64 (k : Int)) := (hO.out 3 (by decide)).trans rfl
                exact relVal rfl (.int .i64 (k : Int)) _ rfl (by go_simp) ⟨_, rfl, rfl, fun _ => rfl⟩
              case s2 =>
                intro a w1 hw hO hN
                obtain rfl : w1 = w3.drew := hw (by decide)
                obtain ⟨v0, g0, r0⟩ := hN 0 (by decide)
                have g0 : a.tmps[10]? = some v0 := g0
                have e0 : v0 = .slice (some ⟨b, o, none⟩) l.length c := r0
                rw [e0] at g0
                obtain ⟨v1, g1, r1⟩ := hN 1 (by decide)
                have g1 : a.tmps[11]? = some v1 := g1
                have e1 : v1 = .int .i64 (k : Int) := r1
                rw [e1] at g1
                exact relVal rfl (.pointer (some ⟨b, o + k, none⟩)) _ rfl (by go_simp) ⟨_, rfl, rfl, fun _ => rfl⟩
              case s3 =>
                intro a w1 hw hO hN
                obtain rfl : w1 = w3.drew := hw (by decide)
                obtain ⟨v2, g2, r2⟩ := hN 2 (by decide)
                have g2 : a.tmps[12]? = some v2 := g2
                have e2 : v2 = .pointer (some ⟨b, o + k, none⟩) := r2
                rw [e2] at g2
                exact relVal rfl (.string x) _ rfl (by go_simp) ⟨_, rfl, rfl, fun _ => rfl⟩
              case s4 =>
                intro a w1 hw hO hN
                obtain rfl : w1 = w3.drew := hw (by decide)
                obtain ⟨v3, g3, r3⟩ := hN 3 (by decide)
                have g3 : a.tmps[13]? = some v3 := g3
                have e3 : v3 = .string x := r3
                rw [e3] at g3
                refine relCallF rfl rfl 66 [.tmp 13] #[9] rfl [.string x] (by simp [Act.eval, g3]) (enters_of Tryz.func66 (by kernel_rfl) rfl) (Calls.mono (KW.out w3.drew) ?_)
                rintro e w5 ⟨rfl, hb5⟩
                exact ⟨_, rfl, _, rfl, ⟨rfl, (Below.refl _ _).drew.trans hb5⟩, fun h => absurd rfl h⟩
              case s5 =>
                intro a w1 hw hO hN
                obtain ⟨v4, g4, r4⟩ := hN 4 (by decide)
                have g4 : a.tmps[14]? = some v4 := g4
                obtain ⟨e4, hb4⟩ := r4
                rw [e4] at g4
                exact relVal rfl (.bool false) _ rfl (by go_simp) ⟨_, rfl, ⟨rfl, hb4⟩, fun _ => rfl⟩
              case s6 =>
                intro a w1 hw hO hN
                obtain ⟨v5, g5, r5⟩ := hN 5 (by decide)
                have g5 : a.tmps[15]? = some v5 := g5
                obtain ⟨e5, hb5⟩ := r5
                rw [e5] at g5
                exact relVal rfl (.bool false) _ rfl (by go_simp) ⟨_, rfl, ⟨rfl, hb5⟩, fun _ => rfl⟩
              case s7 =>
                intro a w1 hw hO hN
                obtain ⟨v6, g6, r6⟩ := hN 6 (by decide)
                have g6 : a.tmps[16]? = some v6 := g6
                obtain ⟨e6, hb6⟩ := r6
                rw [e6] at g6
                have o3 : a.tmps[3]? = some (.int .i64 (k : Int)) := (hO.out 3 (by decide)).trans rfl
                exact relValW rfl (.int .i64 (k : Int)) _ ((wanted_is rfl rfl g6).trans rfl) (by go_simp) ⟨_, rfl, ⟨rfl, hb6⟩, fun _ => rfl⟩
              case s8 =>
                intro a w1 hw hO hN
                obtain ⟨v7, g7, r7⟩ := hN 7 (by decide)
                have g7 : a.tmps[17]? = some v7 := g7
                obtain ⟨e7, hb7⟩ := r7
                rw [e7] at g7
                obtain ⟨v6, g6, r6⟩ := hN 6 (by decide)
                have g6 : a.tmps[16]? = some v6 := g6
                obtain ⟨e6, hb6⟩ := r6
                rw [e6] at g6
                exact relValW rfl (.bool true) _ ((wanted_is rfl rfl g6).trans rfl) (by go_simp) ⟨_, rfl, ⟨rfl, hb7⟩, fun _ => rfl⟩
              case s9 =>
                intro a w1 hw hO hN
                obtain ⟨v8, g8, r8⟩ := hN 8 (by decide)
                have g8 : a.tmps[18]? = some v8 := g8
                obtain ⟨e8, hb8⟩ := r8
                rw [e8] at g8
                obtain ⟨v6, g6, r6⟩ := hN 6 (by decide)
                have g6 : a.tmps[16]? = some v6 := g6
                obtain ⟨e6, hb6⟩ := r6
                rw [e6] at g6
                exact relValW rfl (.bool true) _ ((wanted_is rfl rfl g6).trans rfl) (by go_simp) ⟨_, rfl, ⟨rfl, hb8⟩, fun _ => rfl⟩
              case s10 =>
                intro a w1 hw hO hN
                obtain ⟨v9, g9, r9⟩ := hN 9 (by decide)
                have g9 : a.tmps[19]? = some v9 := g9
                obtain ⟨e9, hb9⟩ := r9
                rw [e9] at g9
                have o0 : a.tmps[0]? = some (.slice (some ⟨b, o, none⟩) l.length c) := (hO.out 0 (by decide)).trans rfl
                exact relValW rfl (.slice (some ⟨b, o, none⟩) l.length c) _ ((wanted_is rfl rfl g9).trans rfl) (by go_simp) ⟨_, rfl, ⟨rfl, hb9⟩, fun _ => rfl⟩
              case s11 =>
                intro a w1 hw hO hN
                obtain ⟨v9, g9, r9⟩ := hN 9 (by decide)
                have g9 : a.tmps[19]? = some v9 := g9
                obtain ⟨e9, hb9⟩ := r9
                rw [e9] at g9
                have o3 : a.tmps[3]? = some (.int .i64 (k : Int)) := (hO.out 3 (by decide)).trans rfl
                exact relValW rfl (.int .i64 (k : Int)) _ ((wanted_is rfl rfl g9).trans rfl) (by go_simp) ⟨_, rfl, ⟨rfl, hb9⟩, fun _ => rfl⟩
              case s12 =>
                intro a w1 hw hO hN
                obtain ⟨v11, g11, r11⟩ := hN 11 (by decide)
                have g11 : a.tmps[21]? = some v11 := g11
                obtain ⟨e11, hb11⟩ := r11
                rw [e11] at g11
                obtain ⟨v9, g9, r9⟩ := hN 9 (by decide)
                have g9 : a.tmps[19]? = some v9 := g9
                obtain ⟨e9, hb9⟩ := r9
                rw [e9] at g9
                exact relValW rfl (.int .i64 ((k : Int) - 1)) _ ((wanted_is rfl rfl g9).trans rfl) (by go_simp) ⟨_, rfl, ⟨rfl, hb11⟩, fun _ => rfl⟩
              case s13 =>
                intro a w1 hw hO hN
                obtain ⟨v10, g10, r10⟩ := hN 10 (by decide)
                have g10 : a.tmps[20]? = some v10 := g10
                obtain ⟨e10, hb10⟩ := r10
                rw [e10] at g10
                obtain ⟨v12, g12, r12⟩ := hN 12 (by decide)
                have g12 : a.tmps[22]? = some v12 := g12
                obtain ⟨e12, hb12⟩ := r12
                rw [e12] at g12
                obtain ⟨v9, g9, r9⟩ := hN 9 (by decide)
                have g9 : a.tmps[19]? = some v9 := g9
                obtain ⟨e9, hb9⟩ := r9
                rw [e9] at g9
                exact relValW rfl (.pointer (some ⟨b, o + (k - 1), none⟩)) _ ((wanted_is rfl rfl g9).trans rfl) (by go_simp) ⟨_, rfl, ⟨rfl, hb10⟩, fun _ => rfl⟩
              case s14 =>
                intro a w1 hw hO hN
                obtain ⟨v13, g13, r13⟩ := hN 13 (by decide)
                have g13 : a.tmps[23]? = some v13 := g13
                obtain ⟨e13, hb13⟩ := r13
                rw [e13] at g13
                obtain ⟨v9, g9, r9⟩ := hN 9 (by decide)
                have g9 : a.tmps[19]? = some v9 := g9
                obtain ⟨e9, hb9⟩ := r9
                rw [e9] at g9
                have hcx1 := HCX.out w1 hb13
                have hcy1 := HCY.out w1 hb13
                exact relValW rfl (.string y) _ ((wanted_is rfl rfl g9).trans rfl) (by go_simp) ⟨_, rfl, ⟨rfl, hb13⟩, fun _ => rfl⟩
              case s15 =>
                intro a w1 hw hO hN
                obtain ⟨v9, g9, r9⟩ := hN 9 (by decide)
                have g9 : a.tmps[19]? = some v9 := g9
                obtain ⟨e9, hb9⟩ := r9
                rw [e9] at g9
                have o0 : a.tmps[0]? = some (.slice (some ⟨b, o, none⟩) l.length c) := (hO.out 0 (by decide)).trans rfl
                exact relValW rfl (.slice (some ⟨b, o, none⟩) l.length c) _ ((wanted_is rfl rfl g9).trans rfl) (by go_simp) ⟨_, rfl, ⟨rfl, hb9⟩, fun _ => rfl⟩
              case s16 =>
                intro a w1 hw hO hN
                obtain ⟨v9, g9, r9⟩ := hN 9 (by decide)
                have g9 : a.tmps[19]? = some v9 := g9
                obtain ⟨e9, hb9⟩ := r9
                rw [e9] at g9
                have o3 : a.tmps[3]? = some (.int .i64 (k : Int)) := (hO.out 3 (by decide)).trans rfl
                exact relValW rfl (.int .i64 (k : Int)) _ ((wanted_is rfl rfl g9).trans rfl) (by go_simp) ⟨_, rfl, ⟨rfl, hb9⟩, fun _ => rfl⟩
              case s17 =>
                intro a w1 hw hO hN
                obtain ⟨v15, g15, r15⟩ := hN 15 (by decide)
                have g15 : a.tmps[25]? = some v15 := g15
                obtain ⟨e15, hb15⟩ := r15
                rw [e15] at g15
                obtain ⟨v16, g16, r16⟩ := hN 16 (by decide)
                have g16 : a.tmps[26]? = some v16 := g16
                obtain ⟨e16, hb16⟩ := r16
                rw [e16] at g16
                obtain ⟨v9, g9, r9⟩ := hN 9 (by decide)
                have g9 : a.tmps[19]? = some v9 := g9
                obtain ⟨e9, hb9⟩ := r9
                rw [e9] at g9
                exact relValW rfl (.pointer (some ⟨b, o + k, none⟩)) _ ((wanted_is rfl rfl g9).trans rfl) (by go_simp) ⟨_, rfl, ⟨rfl, hb15⟩, fun _ => rfl⟩
              case s18 =>
                intro a w1 hw hO hN
                obtain ⟨v17, g17, r17⟩ := hN 17 (by decide)
                have g17 : a.tmps[27]? = some v17 := g17
                obtain ⟨e17, hb17⟩ := r17
                rw [e17] at g17
                obtain ⟨v9, g9, r9⟩ := hN 9 (by decide)
                have g9 : a.tmps[19]? = some v9 := g9
                obtain ⟨e9, hb9⟩ := r9
                rw [e9] at g9
                have hcx1 := HCX.out w1 hb17
                have hcy1 := HCY.out w1 hb17
                exact relValW rfl (.string x) _ ((wanted_is rfl rfl g9).trans rfl) (by go_simp) ⟨_, rfl, ⟨rfl, hb17⟩, fun _ => rfl⟩
              case s19 =>
                intro a w1 hw hO hN
                obtain ⟨v14, g14, r14⟩ := hN 14 (by decide)
                have g14 : a.tmps[24]? = some v14 := g14
                obtain ⟨e14, hb14⟩ := r14
                rw [e14] at g14
                obtain ⟨v18, g18, r18⟩ := hN 18 (by decide)
                have g18 : a.tmps[28]? = some v18 := g18
                obtain ⟨e18, hb18⟩ := r18
                rw [e18] at g18
                obtain ⟨v9, g9, r9⟩ := hN 9 (by decide)
                have g9 : a.tmps[19]? = some v9 := g9
                obtain ⟨e9, hb9⟩ := r9
                rw [e9] at g9
                exact relValW rfl (.bool true) _ ((wanted_is rfl rfl g9).trans rfl) (by go_simp) ⟨_, rfl, ⟨rfl, hb14⟩, fun _ => rfl⟩
              case s20 =>
                intro a w1 hw hO hN
                obtain ⟨v9, g9, r9⟩ := hN 9 (by decide)
                have g9 : a.tmps[19]? = some v9 := g9
                obtain ⟨e9, hb9⟩ := r9
                rw [e9] at g9
                obtain ⟨v19, g19, r19⟩ := hN 19 (by decide)
                have g19 : a.tmps[29]? = some v19 := g19
                obtain ⟨e19, hb19⟩ := r19
                rw [e19] at g19
                obtain ⟨v6, g6, r6⟩ := hN 6 (by decide)
                have g6 : a.tmps[16]? = some v6 := g6
                obtain ⟨e6, hb6⟩ := r6
                rw [e6] at g6
                exact relValW rfl (.bool true) _ ((wanted_is rfl rfl g6).trans rfl) (by go_simp) ⟨_, rfl, ⟨rfl, hb9⟩, fun _ => rfl⟩
              case s21 =>
                intro a w1 hw hO hN
                obtain ⟨v6, g6, r6⟩ := hN 6 (by decide)
                have g6 : a.tmps[16]? = some v6 := g6
                obtain ⟨e6, hb6⟩ := r6
                rw [e6] at g6
                obtain ⟨v20, g20, r20⟩ := hN 20 (by decide)
                have g20 : a.tmps[30]? = some v20 := g20
                obtain ⟨e20, hb20⟩ := r20
                rw [e20] at g20
                exact relVal rfl (.bool true) _ rfl (by go_simp) ⟨_, rfl, ⟨rfl, hb6⟩, fun _ => rfl⟩
            case fin =>
              intro vs w1 hV
              obtain ⟨e21, hb9⟩ : vs 21 = .bool true ∧ Below w3.heap.size w3 w1 := hV 21 (by decide)
              have HB9 := show Hid (Below w.heap.size w w1) from HB.out.trans (hb9.mono HB.out.size)
              simp only [putAll, Act.put, List.setIfInBounds_toArray, List.set_cons_zero, List.set_cons_succ, e21]
              clear hV e21 hb9 KW HB HCX hcx HCY
              go_wp2_with fail
              go_ret
              exact ⟨ret_bool (HF3.out hz).symm, HB9.out⟩
          · rw [hz] at hbl
            have HS4 := show Hid _ from HS3.out (by first | rfl | trivial) hz
            clear HS3 HBL HF3 HF4
            go_wp2_with fail
            refine wp_region_one (by kernel_rfl) 4 [some 10, some 11, some 12, some 13, some 14, some 15, some 16, some 17, some 18, some 19, some 20, some 21, some 22, some 23, some 24, some 25, some 26, some 27, some 28, some 29, some 30, some 31] [[], [], [0, 1], [2], [3], [4], [5], [6], [7, 6], [8, 6], [9], [9], [11, 9], [10, 12, 9], [13, 9], [9], [9], [15, 16, 9], [17, 9], [14, 18, 9], [9, 19, 6], [6, 20]] [[], [], [0, 1], [2, 0, 1], [3, 2, 0, 1], [4, 3, 2, 0, 1], [5, 4, 3, 2, 0, 1], [6, 5, 4, 3, 2, 0, 1], [7, 6, 5, 4, 3, 2, 0, 1], [8, 7, 6, 5, 4, 3, 2, 0, 1], [9, 8, 7, 6, 5, 4, 3, 2, 0, 1], [9, 8, 7, 6, 5, 4, 3, 2, 0, 1], [11, 9, 8, 7, 6, 5, 4, 3, 2, 0, 1], [10, 9, 8, 7, 6, 5, 4, 3, 2, 0, 1, 12, 11], [13, 10, 9, 8, 7, 6, 5, 4, 3, 2, 0, 1, 12, 11], [9, 8, 7, 6, 5, 4, 3, 2, 0, 1], [9, 8, 7, 6, 5, 4, 3, 2, 0, 1], [15, 9, 8, 7, 6, 5, 4, 3, 2, 0, 1, 16], [17, 15, 9, 8, 7, 6, 5, 4, 3, 2, 0, 1, 16], [14, 13, 10, 9, 8, 7, 6, 5, 4, 3, 2, 0, 1, 12, 11, 18, 17, 15, 16], [9, 8, 7, 6, 5, 4, 3, 2, 0, 1, 19, 14, 13, 10, 12, 11, 18, 17, 15, 16], [6, 5, 4, 3, 2, 0, 1, 20, 9, 8, 7, 19, 14, 13, 10, 12, 11, 18, 17, 15, 16]] (by kernel_rfl) (by decide) (fun ii vv w1 => match ii with | 0 => vv = .slice (some ⟨b, o, none⟩) l.length c | 1 => vv = .int .i64 (k : Int) | 2 => vv = .pointer (some ⟨b, o + k, none⟩) | 3 => vv = .string x | 4 => vv = .bool true ∧ Below w3.heap.size w3 w1 | 5 => vv = .bool false ∧ Below w3.heap.size w3 w1 | 6 => vv = .bool false ∧ Below w3.heap.size w3 w1 | 7 => vv = .int .i64 (k : Int) ∧ Below w3.heap.size w3 w1 | 8 => vv = .bool true ∧ Below w3.heap.size w3 w1 | 9 => vv = .bool true ∧ Below w3.heap.size w3 w1 | 10 => vv = .slice (some ⟨b, o, none⟩) l.length c ∧ Below w3.heap.size w3 w1 | 11 => vv = .int .i64 (k : Int) ∧ Below w3.heap.size w3 w1 | 12 => vv = .int .i64 ((k : Int) - 1) ∧ Below w3.heap.size w3 w1 | 13 => vv = .pointer (some ⟨b, o + (k - 1), none⟩) ∧ Below w3.heap.size w3 w1 | 14 => vv = .string y ∧ Below w3.heap.size w3 w1 | 15 => vv = .slice (some ⟨b, o, none⟩) l.length c ∧ Below w3.heap.size w3 w1 | 16 => vv = .int .i64 (k : Int) ∧ Below w3.heap.size w3 w1 | 17 => vv = .pointer (some ⟨b, o + k, none⟩) ∧ Below w3.heap.size w3 w1 | 18 => vv = .string x ∧ Below w3.heap.size w3 w1 | 19 => vv = .bool false ∧ Below w3.heap.size w3 w1 | 20 => vv = .bool false ∧ Below w3.heap.size w3 w1 | 21 => vv = .bool false ∧ Below w3.heap.size w3 w1 | _ => True) ?hfree (allLt 22 ?steps) ?fin
            case hfree =>
              intro j v w1 w2 hj hn h
              match j, h, hj, hn with
              | 0, h, _, _ => exact h
              | 1, h, _, _ => exact h
              | 2, h, _, _ => exact h
              | 3, h, _, _ => exact h
              | 4, _, hj, _ => exact absurd rfl hj
              | 5, _, _, hn => exact absurd (by decide) hn
              | 6, _, _, hn => exact absurd (by decide) hn
              | 7, _, _, hn => exact absurd (by decide) hn
              | 8, _, _, hn => exact absurd (by decide) hn
              | 9, _, _, hn => exact absurd (by decide) hn
              | 10, _, _, hn => exact absurd (by decide) hn
              | 11, _, _, hn => exact absurd (by decide) hn
              | 12, _, _, hn => exact absurd (by decide) hn
              | 13, _, _, hn => exact absurd (by decide) hn
              | 14, _, _, hn => exact absurd (by decide) hn
              | 15, _, _, hn => exact absurd (by decide) hn
              | 16, _, _, hn => exact absurd (by decide) hn
              | 17, _, _, hn => exact absurd (by decide) hn
              | 18, _, _, hn => exact absurd (by decide) hn
              | 19, _, _, hn => exact absurd (by decide) hn
              | 20, _, _, hn => exact absurd (by decide) hn
              | 21, _, _, hn => exact absurd (by decide) hn
              | _ + 22, _, _, _ => trivial
            case steps =>
              refine ⟨⟨⟨⟨⟨⟨⟨⟨⟨⟨⟨⟨⟨⟨⟨⟨⟨⟨⟨⟨⟨⟨trivial, ?s0⟩, ?s1⟩, ?s2⟩, ?s3⟩, ?s4⟩, ?s5⟩, ?s6⟩, ?s7⟩, ?s8⟩, ?s9⟩, ?s10⟩, ?s11⟩, ?s12⟩, ?s13⟩, ?s14⟩, ?s15⟩, ?s16⟩, ?s17⟩, ?s18⟩, ?s19⟩, ?s20⟩, ?s21⟩
              case s0 =>
                intro a w1 hw hO hN
                obtain rfl : w1 = w3.drew := hw (by decide)
                have o0 : a.tmps[0]? = some (.slice (some ⟨b, o, none⟩) l.length c) := (hO.out 0 (by decide)).trans rfl
                exact relVal rfl (.slice (some ⟨b, o, none⟩) l.length c) _ rfl (by go_simp) ⟨_, rfl, rfl, fun _ => rfl⟩
              case s1 =>
                intro a w1 hw hO hN
                obtain rfl : w1 = w3.drew := hw (by decide)
                have o3 : a.tmps[3]? = some (.int .i64 (k : Int)) := (hO.out 3 (by decide)).trans rfl
                exact relVal rfl (.int .i64 (k : Int)) _ rfl (by go_simp) ⟨_, rfl, rfl, fun _ => rfl⟩
              case s2 =>
                intro a w1 hw hO hN
                obtain rfl : w1 = w3.drew := hw (by decide)
                obtain ⟨v0, g0, r0⟩ := hN 0 (by decide)
                have g0 : a.tmps[10]? = some v0 := g0
                have e0 : v0 = .slice (some ⟨b, o, none⟩) l.length c := r0
                rw [e0] at g0
                obtain ⟨v1, g1, r1⟩ := hN 1 (by decide)
                have g1 : a.tmps[11]? = some v1 := g1
                have e1 : v1 = .int .i64 (k : Int) := r1
                rw [e1] at g1
                exact relVal rfl (.pointer (some ⟨b, o + k, none⟩)) _ rfl (by go_simp) ⟨_, rfl, rfl, fun _ => rfl⟩
              case s3 =>
                intro a w1 hw hO hN
                obtain rfl : w1 = w3.drew := hw (by decide)
                obtain ⟨v2, g2, r2⟩ := hN 2 (by decide)
                have g2 : a.tmps[12]? = some v2 := g2
                have e2 : v2 = .pointer (some ⟨b, o + k, none⟩) := r2
                rw [e2] at g2
                exact relVal rfl (.string x) _ rfl (by go_simp) ⟨_, rfl, rfl, fun _ => rfl⟩
              case s4 =>
                intro a w1 hw hO hN
                obtain rfl : w1 = w3.drew := hw (by decide)
                obtain ⟨v3, g3, r3⟩ := hN 3 (by decide)
                have g3 : a.tmps[13]? = some v3 := g3
                have e3 : v3 = .string x := r3
                rw [e3] at g3
                refine relCallF rfl rfl 66 [.tmp 13] #[9] rfl [.string x] (by simp [Act.eval, g3]) (enters_of Tryz.func66 (by kernel_rfl) rfl) (Calls.mono (KW.out w3.drew) ?_)
                rintro e w5 ⟨rfl, hb5⟩
                exact ⟨_, rfl, _, rfl, ⟨rfl, (Below.refl _ _).drew.trans hb5⟩, fun h => absurd rfl h⟩
              case s5 =>
                intro a w1 hw hO hN
                obtain ⟨v4, g4, r4⟩ := hN 4 (by decide)
                have g4 : a.tmps[14]? = some v4 := g4
                obtain ⟨e4, hb4⟩ := r4
                rw [e4] at g4
                exact relVal rfl (.bool false) _ rfl (by go_simp) ⟨_, rfl, ⟨rfl, hb4⟩, fun _ => rfl⟩
              case s6 =>
                intro a w1 hw hO hN
                obtain ⟨v5, g5, r5⟩ := hN 5 (by decide)
                have g5 : a.tmps[15]? = some v5 := g5
                obtain ⟨e5, hb5⟩ := r5
                rw [e5] at g5
                exact relVal rfl (.bool false) _ rfl (by go_simp) ⟨_, rfl, ⟨rfl, hb5⟩, fun _ => rfl⟩
              case s7 =>
                intro a w1 hw hO hN
                obtain ⟨v6, g6, r6⟩ := hN 6 (by decide)
                have g6 : a.tmps[16]? = some v6 := g6
                obtain ⟨e6, hb6⟩ := r6
                rw [e6] at g6
                have o3 : a.tmps[3]? = some (.int .i64 (k : Int)) := (hO.out 3 (by decide)).trans rfl
                exact relValW rfl (.int .i64 (k : Int)) _ ((wanted_is rfl rfl g6).trans rfl) (by go_simp) ⟨_, rfl, ⟨rfl, hb6⟩, fun _ => rfl⟩
              case s8 =>
                intro a w1 hw hO hN
                obtain ⟨v7, g7, r7⟩ := hN 7 (by decide)
                have g7 : a.tmps[17]? = some v7 := g7
                obtain ⟨e7, hb7⟩ := r7
                rw [e7] at g7
                obtain ⟨v6, g6, r6⟩ := hN 6 (by decide)
                have g6 : a.tmps[16]? = some v6 := g6
                obtain ⟨e6, hb6⟩ := r6
                rw [e6] at g6
                exact relValW rfl (.bool true) _ ((wanted_is rfl rfl g6).trans rfl) (by go_simp) ⟨_, rfl, ⟨rfl, hb7⟩, fun _ => rfl⟩
              case s9 =>
                intro a w1 hw hO hN
                obtain ⟨v8, g8, r8⟩ := hN 8 (by decide)
                have g8 : a.tmps[18]? = some v8 := g8
                obtain ⟨e8, hb8⟩ := r8
                rw [e8] at g8
                obtain ⟨v6, g6, r6⟩ := hN 6 (by decide)
                have g6 : a.tmps[16]? = some v6 := g6
                obtain ⟨e6, hb6⟩ := r6
                rw [e6] at g6
                exact relValW rfl (.bool true) _ ((wanted_is rfl rfl g6).trans rfl) (by go_simp) ⟨_, rfl, ⟨rfl, hb8⟩, fun _ => rfl⟩
              case s10 =>
                intro a w1 hw hO hN
                obtain ⟨v9, g9, r9⟩ := hN 9 (by decide)
                have g9 : a.tmps[19]? = some v9 := g9
                obtain ⟨e9, hb9⟩ := r9
                rw [e9] at g9
                have o0 : a.tmps[0]? = some (.slice (some ⟨b, o, none⟩) l.length c) := (hO.out 0 (by decide)).trans rfl
                exact relValW rfl (.slice (some ⟨b, o, none⟩) l.length c) _ ((wanted_is rfl rfl g9).trans rfl) (by go_simp) ⟨_, rfl, ⟨rfl, hb9⟩, fun _ => rfl⟩
              case s11 =>
                intro a w1 hw hO hN
                obtain ⟨v9, g9, r9⟩ := hN 9 (by decide)
                have g9 : a.tmps[19]? = some v9 := g9
                obtain ⟨e9, hb9⟩ := r9
                rw [e9] at g9
                have o3 : a.tmps[3]? = some (.int .i64 (k : Int)) := (hO.out 3 (by decide)).trans rfl
                exact relValW rfl (.int .i64 (k : Int)) _ ((wanted_is rfl rfl g9).trans rfl) (by go_simp) ⟨_, rfl, ⟨rfl, hb9⟩, fun _ => rfl⟩
              case s12 =>
                intro a w1 hw hO hN
                obtain ⟨v11, g11, r11⟩ := hN 11 (by decide)
                have g11 : a.tmps[21]? = some v11 := g11
                obtain ⟨e11, hb11⟩ := r11
                rw [e11] at g11
                obtain ⟨v9, g9, r9⟩ := hN 9 (by decide)
                have g9 : a.tmps[19]? = some v9 := g9
                obtain ⟨e9, hb9⟩ := r9
                rw [e9] at g9
                exact relValW rfl (.int .i64 ((k : Int) - 1)) _ ((wanted_is rfl rfl g9).trans rfl) (by go_simp) ⟨_, rfl, ⟨rfl, hb11⟩, fun _ => rfl⟩
              case s13 =>
                intro a w1 hw hO hN
                obtain ⟨v10, g10, r10⟩ := hN 10 (by decide)
                have g10 : a.tmps[20]? = some v10 := g10
                obtain ⟨e10, hb10⟩ := r10
                rw [e10] at g10
                obtain ⟨v12, g12, r12⟩ := hN 12 (by decide)
                have g12 : a.tmps[22]? = some v12 := g12
                obtain ⟨e12, hb12⟩ := r12
                rw [e12] at g12
                obtain ⟨v9, g9, r9⟩ := hN 9 (by decide)
                have g9 : a.tmps[19]? = some v9 := g9
                obtain ⟨e9, hb9⟩ := r9
                rw [e9] at g9
                exact relValW rfl (.pointer (some ⟨b, o + (k - 1), none⟩)) _ ((wanted_is rfl rfl g9).trans rfl) (by go_simp) ⟨_, rfl, ⟨rfl, hb10⟩, fun _ => rfl⟩
              case s14 =>
                intro a w1 hw hO hN
                obtain ⟨v13, g13, r13⟩ := hN 13 (by decide)
                have g13 : a.tmps[23]? = some v13 := g13
                obtain ⟨e13, hb13⟩ := r13
                rw [e13] at g13
                obtain ⟨v9, g9, r9⟩ := hN 9 (by decide)
                have g9 : a.tmps[19]? = some v9 := g9
                obtain ⟨e9, hb9⟩ := r9
                rw [e9] at g9
                have hcx1 := HCX.out w1 hb13
                have hcy1 := HCY.out w1 hb13
                exact relValW rfl (.string y) _ ((wanted_is rfl rfl g9).trans rfl) (by go_simp) ⟨_, rfl, ⟨rfl, hb13⟩, fun _ => rfl⟩
              case s15 =>
                intro a w1 hw hO hN
                obtain ⟨v9, g9, r9⟩ := hN 9 (by decide)
                have g9 : a.tmps[19]? = some v9 := g9
                obtain ⟨e9, hb9⟩ := r9
                rw [e9] at g9
                have o0 : a.tmps[0]? = some (.slice (some ⟨b, o, none⟩) l.length c) := (hO.out 0 (by decide)).trans rfl
                exact relValW rfl (.slice (some ⟨b, o, none⟩) l.length c) _ ((wanted_is rfl rfl g9).trans rfl) (by go_simp) ⟨_, rfl, ⟨rfl, hb9⟩, fun _ => rfl⟩
              case s16 =>
                intro a w1 hw hO hN
                obtain ⟨v9, g9, r9⟩ := hN 9 (by decide)
                have g9 : a.tmps[19]? = some v9 := g9
                obtain ⟨e9, hb9⟩ := r9
                rw [e9] at g9
                have o3 : a.tmps[3]? = some (.int .i64 (k : Int)) := (hO.out 3 (by decide)).trans rfl
                exact relValW rfl (.int .i64 (k : Int)) _ ((wanted_is rfl rfl g9).trans rfl) (by go_simp) ⟨_, rfl, ⟨rfl, hb9⟩, fun _ => rfl⟩
              case s17 =>
                intro a w1 hw hO hN
                obtain ⟨v15, g15, r15⟩ := hN 15 (by decide)
                have g15 : a.tmps[25]? = some v15 := g15
                obtain ⟨e15, hb15⟩ := r15
                rw [e15] at g15
                obtain ⟨v16, g16, r16⟩ := hN 16 (by decide)
                have g16 : a.tmps[26]? = some v16 := g16
                obtain ⟨e16, hb16⟩ := r16
                rw [e16] at g16
                obtain ⟨v9, g9, r9⟩ := hN 9 (by decide)
                have g9 : a.tmps[19]? = some v9 := g9
                obtain ⟨e9, hb9⟩ := r9
                rw [e9] at g9
                exact relValW rfl (.pointer (some ⟨b, o + k, none⟩)) _ ((wanted_is rfl rfl g9).trans rfl) (by go_simp) ⟨_, rfl, ⟨rfl, hb15⟩, fun _ => rfl⟩
              case s18 =>
                intro a w1 hw hO hN
                obtain ⟨v17, g17, r17⟩ := hN 17 (by decide)
                have g17 : a.tmps[27]? = some v17 := g17
                obtain ⟨e17, hb17⟩ := r17
                rw [e17] at g17
                obtain ⟨v9, g9, r9⟩ := hN 9 (by decide)
                have g9 : a.tmps[19]? = some v9 := g9
                obtain ⟨e9, hb9⟩ := r9
                rw [e9] at g9
                have hcx1 := HCX.out w1 hb17
                have hcy1 := HCY.out w1 hb17
                exact relValW rfl (.string x) _ ((wanted_is rfl rfl g9).trans rfl) (by go_simp) ⟨_, rfl, ⟨rfl, hb17⟩, fun _ => rfl⟩
              case s19 =>
                intro a w1 hw hO hN
                obtain ⟨v14, g14, r14⟩ := hN 14 (by decide)
                have g14 : a.tmps[24]? = some v14 := g14
                obtain ⟨e14, hb14⟩ := r14
                rw [e14] at g14
                obtain ⟨v18, g18, r18⟩ := hN 18 (by decide)
                have g18 : a.tmps[28]? = some v18 := g18
                obtain ⟨e18, hb18⟩ := r18
                rw [e18] at g18
                obtain ⟨v9, g9, r9⟩ := hN 9 (by decide)
                have g9 : a.tmps[19]? = some v9 := g9
                obtain ⟨e9, hb9⟩ := r9
                rw [e9] at g9
                exact relValW rfl (.bool false) _ ((wanted_is rfl rfl g9).trans rfl) (by go_simp) ⟨_, rfl, ⟨rfl, hb14⟩, fun _ => rfl⟩
              case s20 =>
                intro a w1 hw hO hN
                obtain ⟨v9, g9, r9⟩ := hN 9 (by decide)
                have g9 : a.tmps[19]? = some v9 := g9
                obtain ⟨e9, hb9⟩ := r9
                rw [e9] at g9
                obtain ⟨v19, g19, r19⟩ := hN 19 (by decide)
                have g19 : a.tmps[29]? = some v19 := g19
                obtain ⟨e19, hb19⟩ := r19
                rw [e19] at g19
                obtain ⟨v6, g6, r6⟩ := hN 6 (by decide)
                have g6 : a.tmps[16]? = some v6 := g6
                obtain ⟨e6, hb6⟩ := r6
                rw [e6] at g6
                exact relValW rfl (.bool false) _ ((wanted_is rfl rfl g6).trans rfl) (by go_simp) ⟨_, rfl, ⟨rfl, hb9⟩, fun _ => rfl⟩
              case s21 =>
                intro a w1 hw hO hN
                obtain ⟨v6, g6, r6⟩ := hN 6 (by decide)
                have g6 : a.tmps[16]? = some v6 := g6
                obtain ⟨e6, hb6⟩ := r6
                rw [e6] at g6
                obtain ⟨v20, g20, r20⟩ := hN 20 (by decide)
                have g20 : a.tmps[30]? = some v20 := g20
                obtain ⟨e20, hb20⟩ := r20
                rw [e20] at g20
                exact relVal rfl (.bool false) _ rfl (by go_simp) ⟨_, rfl, ⟨rfl, hb6⟩, fun _ => rfl⟩
            case fin =>
              intro vs w1 hV
              obtain ⟨e21, hb9⟩ : vs 21 = .bool false ∧ Below w3.heap.size w3 w1 := hV 21 (by decide)
              have HB9 := show Hid (Below w.heap.size w w1) from HB.out.trans (hb9.mono HB.out.size)
              simp only [putAll, Act.put, List.setIfInBounds_toArray, List.set_cons_zero, List.set_cons_succ, e21]
              clear hV e21 hb9 KW HB HCX hcx HCY
              go_wp2_with fail
              go_roundw
              case rel => exact ⟨k + 1, by omega, val_int (by omega), HB9, HS4⟩
              case measure => (simp only [intOf]; omega)
      · have hd : decide (0 < (k : Int)) = false := by simp; omega
        have HS3 := show Hid (Fm.word l[k].data.toList = true → _) from fun h1 => HS.out h1 (fun h => absurd h hk0)
        have HF4 := show Hid (Fm.word l[k].data.toList = false → ans = false) from fun h => HFK.out (Or.inl h)
        clear hat HA HX HF HFK HS HI
        generalize l[k] = x at *
        generalize Fm.word x.data.toList = wx at *
        cases wx
        · go_wp2_with fail
          refine wp_region_one (by kernel_rfl) 4 [some 10, some 11, some 12, some 13, some 14, some 15, some 16, some 17, some 18, some 19, some 20, some 21, some 22, some 23, some 24, some 25, some 26, some 27, some 28, some 29, some 30, some 31] [[], [], [0, 1], [2], [3], [4], [5], [6], [7, 6], [8, 6], [9], [9], [11, 9], [10, 12, 9], [13, 9], [9], [9], [15, 16, 9], [17, 9], [14, 18, 9], [9, 19, 6], [6, 20]] [[], [], [0, 1], [2, 0, 1], [3, 2, 0, 1], [4, 3, 2, 0, 1], [5, 4, 3, 2, 0, 1], [6, 5, 4, 3, 2, 0, 1], [7, 6, 5, 4, 3, 2, 0, 1], [8, 7, 6, 5, 4, 3, 2, 0, 1], [9, 8, 7, 6, 5, 4, 3, 2, 0, 1], [9, 8, 7, 6, 5, 4, 3, 2, 0, 1], [11, 9, 8, 7, 6, 5, 4, 3, 2, 0, 1], [10, 9, 8, 7, 6, 5, 4, 3, 2, 0, 1, 12, 11], [13, 10, 9, 8, 7, 6, 5, 4, 3, 2, 0, 1, 12, 11], [9, 8, 7, 6, 5, 4, 3, 2, 0, 1], [9, 8, 7, 6, 5, 4, 3, 2, 0, 1], [15, 9, 8, 7, 6, 5, 4, 3, 2, 0, 1, 16], [17, 15, 9, 8, 7, 6, 5, 4, 3, 2, 0, 1, 16], [14, 13, 10, 9, 8, 7, 6, 5, 4, 3, 2, 0, 1, 12, 11, 18, 17, 15, 16], [9, 8, 7, 6, 5, 4, 3, 2, 0, 1, 19, 14, 13, 10, 12, 11, 18, 17, 15, 16], [6, 5, 4, 3, 2, 0, 1, 20, 9, 8, 7, 19, 14, 13, 10, 12, 11, 18, 17, 15, 16]] (by kernel_rfl) (by decide) (fun ii vv w1 => match ii with | 0 => vv = .slice (some ⟨b, o, none⟩) l.length c | 1 => vv = .int .i64 (k : Int) | 2 => vv = .pointer (some ⟨b, o + k, none⟩) | 3 => vv = .string x | 4 => vv = .bool false ∧ Below w3.heap.size w3 w1 | 5 => vv = .bool true ∧ Below w3.heap.size w3 w1 | 6 => vv = .bool true ∧ Below w3.heap.size w3 w1 | 7 => vv = undef ∧ Below w3.heap.size w3 w1 | 8 => vv = undef ∧ Below w3.heap.size w3 w1 | 9 => vv = undef ∧ Below w3.heap.size w3 w1 | 10 => vv = undef ∧ Below w3.heap.size w3 w1 | 11 => vv = undef ∧ Below w3.heap.size w3 w1 | 12 => vv = undef ∧ Below w3.heap.size w3 w1 | 13 => vv = undef ∧ Below w3.heap.size w3 w1 | 14 => vv = undef ∧ Below w3.heap.size w3 w1 | 15 => vv = undef ∧ Below w3.heap.size w3 w1 | 16 => vv = undef ∧ Below w3.heap.size w3 w1 | 17 => vv = undef ∧ Below w3.heap.size w3 w1 | 18 => vv = undef ∧ Below w3.heap.size w3 w1 | 19 => vv = undef ∧ Below w3.heap.size w3 w1 | 20 => vv = undef ∧ Below w3.heap.size w3 w1 | 21 => vv = .bool true ∧ Below w3.heap.size w3 w1 | _ => True) ?hfree (allLt 22 ?steps) ?fin
          case hfree =>
            intro j v w1 w2 hj hn h
            match j, h, hj, hn with
            | 0, h, _, _ => exact h
            | 1, h, _, _ => exact h
            | 2, h, _, _ => exact h
            | 3, h, _, _ => exact h
            | 4, _, hj, _ => exact absurd rfl hj
            | 5, _, _, hn => exact absurd (by decide) hn
            | 6, _, _, hn => exact absurd (by decide) hn
            | 7, _, _, hn => exact absurd (by decide) hn
            | 8, _, _, hn => exact absurd (by decide) hn
            | 9, _, _, hn => exact absurd (by decide) hn
            | 10, _, _, hn => exact absurd (by decide) hn
            | 11, _, _, hn => exact absurd (by decide) hn
            | 12, _, _, hn => exact absurd (by decide) hn
            | 13, _, _, hn => exact absurd (by decide) hn
            | 14, _, _, hn => exact absurd (by decide) hn
            | 15, _, _, hn => exact absurd (by decide) hn
            | 16, _, _, hn => exact absurd (by decide) hn
            | 17, _, _, hn => exact absurd (by decide) hn
            | 18, _, _, hn => exact absurd (by decide) hn
            | 19, _, _, hn => exact absurd (by decide) hn
            | 20, _, _, hn => exact absurd (by decide) hn
            | 21, _, _, hn => exact absurd (by decide) hn
            | _ + 22, _, _, _ => trivial
          case steps =>
            refine ⟨⟨⟨⟨⟨⟨⟨⟨⟨⟨⟨⟨⟨⟨⟨⟨⟨⟨⟨⟨⟨⟨trivial, ?s0⟩, ?s1⟩, ?s2⟩, ?s3⟩, ?s4⟩, ?s5⟩, ?s6⟩, ?s7⟩, ?s8⟩, ?s9⟩, ?s10⟩, ?s11⟩, ?s12⟩, ?s13⟩, ?s14⟩, ?s15⟩, ?s16⟩, ?s17⟩, ?s18⟩, ?s19⟩, ?s20⟩, ?s21⟩
            case s0 =>
              intro a w1 hw hO hN
              obtain rfl : w1 = w3.drew := hw (by decide)
              have o0 : a.tmps[0]? = some (.slice (some ⟨b, o, none⟩) l.length c) := (hO.out 0 (by decide)).trans rfl
              exact relVal rfl (.slice (some ⟨b, o, none⟩) l.length c) _ rfl (by go_simp) ⟨_, rfl, rfl, fun _ => rfl⟩
            case s1 =>
              intro a w1 hw hO hN
              obtain rfl : w1 = w3.drew := hw (by decide)
              have o3 : a.tmps[3]? = some (.int .i64 (k : Int)) := (hO.out 3 (by decide)).trans rfl
              exact relVal rfl (.int .i64 (k : Int)) _ rfl (by go_simp) ⟨_, rfl, rfl, fun _ => rfl⟩
            case s2 =>
              intro a w1 hw hO hN
              obtain rfl : w1 = w3.drew := hw (by decide)
              obtain ⟨v0, g0, r0⟩ := hN 0 (by decide)
              have g0 : a.tmps[10]? = some v0 := g0
              have e0 : v0 = .slice (some ⟨b, o, none⟩) l.length c := r0
              rw [e0] at g0
              obtain ⟨v1, g1, r1⟩ := hN 1 (by decide)
              have g1 : a.tmps[11]? = some v1 := g1
              have e1 : v1 = .int .i64 (k : Int) := r1
              rw [e1] at g1
              exact relVal rfl (.pointer (some ⟨b, o + k, none⟩)) _ rfl (by go_simp) ⟨_, rfl, rfl, fun _ => rfl⟩
            case s3 =>
              intro a w1 hw hO hN
              obtain rfl : w1 = w3.drew := hw (by decide)
              obtain ⟨v2, g2, r2⟩ := hN 2 (by decide)
              have g2 : a.tmps[12]? = some v2 := g2
              have e2 : v2 = .pointer (some ⟨b, o + k, none⟩) := r2
              rw [e2] at g2
              exact relVal rfl (.string x) _ rfl (by go_simp) ⟨_, rfl, rfl, fun _ => rfl⟩
            case s4 =>
              intro a w1 hw hO hN
              obtain rfl : w1 = w3.drew := hw (by decide)
              obtain ⟨v3, g3, r3⟩ := hN 3 (by decide)
              have g3 : a.tmps[13]? = some v3 := g3
              have e3 : v3 = .string x := r3
              rw [e3] at g3
              refine relCallF rfl rfl 66 [.tmp 13] #[9] rfl [.string x] (by simp [Act.eval, g3]) (enters_of Tryz.func66 (by kernel_rfl) rfl) (Calls.mono (KW.out w3.drew) ?_)
              rintro e w5 ⟨rfl, hb5⟩
              exact ⟨_, rfl, _, rfl, ⟨rfl, (Below.refl _ _).drew.trans hb5⟩, fun h => absurd rfl h⟩
            case s5 =>
              intro a w1 hw hO hN
              obtain ⟨v4, g4, r4⟩ := hN 4 (by decide)
              have g4 : a.tmps[14]? = some v4 := g4
              obtain ⟨e4, hb4⟩ := r4
              rw [e4] at g4
              exact relVal rfl (.bool true) _ rfl (by go_simp) ⟨_, rfl, ⟨rfl, hb4⟩, fun _ => rfl⟩
            case s6 =>
              intro a w1 hw hO hN
              obtain ⟨v5, g5, r5⟩ := hN 5 (by decide)
              have g5 : a.tmps[15]? = some v5 := g5
              obtain ⟨e5, hb5⟩ := r5
              rw [e5] at g5
              exact relVal rfl (.bool true) _ rfl (by go_simp) ⟨_, rfl, ⟨rfl, hb5⟩, fun _ => rfl⟩
            case s7 =>
              intro a w1 hw hO hN
              obtain ⟨v6, g6, r6⟩ := hN 6 (by decide)
              have g6 : a.tmps[16]? = some v6 := g6
              obtain ⟨e6, hb6⟩ := r6
              rw [e6] at g6
              have o3 : a.tmps[3]? = some (.int .i64 (k : Int)) := (hO.out 3 (by decide)).trans rfl
              exact relNo rfl ((wanted_is rfl rfl g6).trans rfl) ⟨_, rfl, ⟨rfl, hb6⟩, fun _ => rfl⟩
            case s8 =>
              intro a w1 hw hO hN
              obtain ⟨v7, g7, r7⟩ := hN 7 (by decide)
              have g7 : a.tmps[17]? = some v7 := g7
              obtain ⟨e7, hb7⟩ := r7
              rw [e7] at g7
              obtain ⟨v6, g6, r6⟩ := hN 6 (by decide)
              have g6 : a.tmps[16]? = some v6 := g6
              obtain ⟨e6, hb6⟩ := r6
              rw [e6] at g6
              exact relNo rfl ((wanted_is rfl rfl g6).trans rfl) ⟨_, rfl, ⟨rfl, hb7⟩, fun _ => rfl⟩
            case s9 =>
              intro a w1 hw hO hN
              obtain ⟨v8, g8, r8⟩ := hN 8 (by decide)
              have g8 : a.tmps[18]? = some v8 := g8
              obtain ⟨e8, hb8⟩ := r8
              rw [e8] at g8
              obtain ⟨v6, g6, r6⟩ := hN 6 (by decide)
              have g6 : a.tmps[16]? = some v6 := g6
              obtain ⟨e6, hb6⟩ := r6
              rw [e6] at g6
              exact relNo rfl ((wanted_is rfl rfl g6).trans rfl) ⟨_, rfl, ⟨rfl, hb8⟩, fun _ => rfl⟩
            case s10 =>
              intro a w1 hw hO hN
              obtain ⟨v9, g9, r9⟩ := hN 9 (by decide)
              have g9 : a.tmps[19]? = some v9 := g9
              obtain ⟨e9, hb9⟩ := r9
              rw [e9] at g9
              have o0 : a.tmps[0]? = some (.slice (some ⟨b, o, none⟩) l.length c) := (hO.out 0 (by decide)).trans rfl
              exact relNo rfl (wanted_undef rfl rfl g9) ⟨_, rfl, ⟨rfl, hb9⟩, fun _ => rfl⟩
            case s11 =>
              intro a w1 hw hO hN
              obtain ⟨v9, g9, r9⟩ := hN 9 (by decide)
              have g9 : a.tmps[19]? = some v9 := g9
              obtain ⟨e9, hb9⟩ := r9
              rw [e9] at g9
              have o3 : a.tmps[3]? = some (.int .i64 (k : Int)) := (hO.out 3 (by decide)).trans rfl
              exact relNo rfl (wanted_undef rfl rfl g9) ⟨_, rfl, ⟨rfl, hb9⟩, fun _ => rfl⟩
            case s12 =>
              intro a w1 hw hO hN
              obtain ⟨v11, g11, r11⟩ := hN 11 (by decide)
              have g11 : a.tmps[21]? = some v11 := g11
              obtain ⟨e11, hb11⟩ := r11
              rw [e11] at g11
              obtain ⟨v9, g9, r9⟩ := hN 9 (by decide)
              have g9 : a.tmps[19]? = some v9 := g9
              obtain ⟨e9, hb9⟩ := r9
              rw [e9] at g9
              exact relNo rfl (wanted_undef rfl rfl g9) ⟨_, rfl, ⟨rfl, hb11⟩, fun _ => rfl⟩
            case s13 =>
              intro a w1 hw hO hN
              obtain ⟨v10, g10, r10⟩ := hN 10 (by decide)
              have g10 : a.tmps[20]? = some v10 := g10
              obtain ⟨e10, hb10⟩ := r10
              rw [e10] at g10
              obtain ⟨v12, g12, r12⟩ := hN 12 (by decide)
              have g12 : a.tmps[22]? = some v12 := g12
              obtain ⟨e12, hb12⟩ := r12
              rw [e12] at g12
              obtain ⟨v9, g9, r9⟩ := hN 9 (by decide)
              have g9 : a.tmps[19]? = some v9 := g9
              obtain ⟨e9, hb9⟩ := r9
              rw [e9] at g9
              exact relNo rfl (wanted_undef rfl rfl g9) ⟨_, rfl, ⟨rfl, hb10⟩, fun _ => rfl⟩
            case s14 =>
              intro a w1 hw hO hN
              obtain ⟨v13, g13, r13⟩ := hN 13 (by decide)
              have g13 : a.tmps[23]? = some v13 := g13
              obtain ⟨e13, hb13⟩ := r13
              rw [e13] at g13
              obtain ⟨v9, g9, r9⟩ := hN 9 (by decide)
              have g9 : a.tmps[19]? = some v9 := g9
              obtain ⟨e9, hb9⟩ := r9
              rw [e9] at g9
              exact relNo rfl (wanted_undef rfl rfl g9) ⟨_, rfl, ⟨rfl, hb13⟩, fun _ => rfl⟩
            case s15 =>
              intro a w1 hw hO hN
              obtain ⟨v9, g9, r9⟩ := hN 9 (by decide)
              have g9 : a.tmps[19]? = some v9 := g9
              obtain ⟨e9, hb9⟩ := r9
              rw [e9] at g9
              have o0 : a.tmps[0]? = some (.slice (some ⟨b, o, none⟩) l.length c) := (hO.out 0 (by decide)).trans rfl
              exact relNo rfl (wanted_undef rfl rfl g9) ⟨_, rfl, ⟨rfl, hb9⟩, fun _ => rfl⟩
            case s16 =>
              intro a w1 hw hO hN
              obtain ⟨v9, g9, r9⟩ := hN 9 (by decide)
              have g9 : a.tmps[19]? = some v9 := g9
              obtain ⟨e9, hb9⟩ := r9
              rw [e9] at g9
              have o3 : a.tmps[3]? = some (.int .i64 (k : Int)) := (hO.out 3 (by decide)).trans rfl
              exact relNo rfl (wanted_undef rfl rfl g9) ⟨_, rfl, ⟨rfl, hb9⟩, fun _ => rfl⟩
            case s17 =>
              intro a w1 hw hO hN
              obtain ⟨v15, g15, r15⟩ := hN 15 (by decide)
              have g15 : a.tmps[25]? = some v15 := g15
              obtain ⟨e15, hb15⟩ := r15
              rw [e15] at g15
              obtain ⟨v16, g16, r16⟩ := hN 16 (by decide)
              have g16 : a.tmps[26]? = some v16 := g16
              obtain ⟨e16, hb16⟩ := r16
              rw [e16] at g16
              obtain ⟨v9, g9, r9⟩ := hN 9 (by decide)
              have g9 : a.tmps[19]? = some v9 := g9
              obtain ⟨e9, hb9⟩ := r9
              rw [e9] at g9
              exact relNo rfl (wanted_undef rfl rfl g9) ⟨_, rfl, ⟨rfl, hb15⟩, fun _ => rfl⟩
            case s18 =>
              intro a w1 hw hO hN
              obtain ⟨v17, g17, r17⟩ := hN 17 (by decide)
              have g17 : a.tmps[27]? = some v17 := g17
              obtain ⟨e17, hb17⟩ := r17
              rw [e17] at g17
              obtain ⟨v9, g9, r9⟩ := hN 9 (by decide)
              have g9 : a.tmps[19]? = some v9 := g9
              obtain ⟨e9, hb9⟩ := r9
              rw [e9] at g9
              exact relNo rfl (wanted_undef rfl rfl g9) ⟨_, rfl, ⟨rfl, hb17⟩, fun _ => rfl⟩
            case s19 =>
              intro a w1 hw hO hN
              obtain ⟨v14, g14, r14⟩ := hN 14 (by decide)
              have g14 : a.tmps[24]? = some v14 := g14
              obtain ⟨e14, hb14⟩ := r14
              rw [e14] at g14
              obtain ⟨v18, g18, r18⟩ := hN 18 (by decide)
              have g18 : a.tmps[28]? = some v18 := g18
              obtain ⟨e18, hb18⟩ := r18
              rw [e18] at g18
              obtain ⟨v9, g9, r9⟩ := hN 9 (by decide)
              have g9 : a.tmps[19]? = some v9 := g9
              obtain ⟨e9, hb9⟩ := r9
              rw [e9] at g9
              exact relNo rfl (wanted_undef rfl rfl g9) ⟨_, rfl, ⟨rfl, hb14⟩, fun _ => rfl⟩
            case s20 =>
              intro a w1 hw hO hN
              obtain ⟨v9, g9, r9⟩ := hN 9 (by decide)
              have g9 : a.tmps[19]? = some v9 := g9
              obtain ⟨e9, hb9⟩ := r9
              rw [e9] at g9
              obtain ⟨v19, g19, r19⟩ := hN 19 (by decide)
              have g19 : a.tmps[29]? = some v19 := g19
              obtain ⟨e19, hb19⟩ := r19
              rw [e19] at g19
              obtain ⟨v6, g6, r6⟩ := hN 6 (by decide)
              have g6 : a.tmps[16]? = some v6 := g6
              obtain ⟨e6, hb6⟩ := r6
              rw [e6] at g6
              exact relNo rfl ((wanted_is rfl rfl g6).trans rfl) ⟨_, rfl, ⟨rfl, hb9⟩, fun _ => rfl⟩
            case s21 =>
              intro a w1 hw hO hN
              obtain ⟨v6, g6, r6⟩ := hN 6 (by decide)
              have g6 : a.tmps[16]? = some v6 := g6
              obtain ⟨e6, hb6⟩ := r6
              rw [e6] at g6
              obtain ⟨v20, g20, r20⟩ := hN 20 (by decide)
              have g20 : a.tmps[30]? = some v20 := g20
              obtain ⟨e20, hb20⟩ := r20
              rw [e20] at g20
              exact relVal rfl (.bool true) _ rfl (by go_simp) ⟨_, rfl, ⟨rfl, hb6⟩, fun _ => rfl⟩
          case fin =>
            intro vs w1 hV
            obtain ⟨e21, hb9⟩ : vs 21 = .bool true ∧ Below w3.heap.size w3 w1 := hV 21 (by decide)
            have HB9 := show Hid (Below w.heap.size w w1) from HB.out.trans (hb9.mono HB.out.size)
            simp only [putAll, Act.put, List.setIfInBounds_toArray, List.set_cons_zero, List.set_cons_succ, e21]
            clear hV e21 hb9 KW HB HCX hcx
            go_wp2_with fail
            go_ret
            exact ⟨ret_bool (HF4.out (by first | rfl | trivial)).symm, HB9.out⟩
        · have HS4 := show Hid _ from HS3.out (by first | rfl | trivial)
          clear HS3 HF4
          go_wp2_with fail
          refine wp_region_one (by kernel_rfl) 4 [some 10, some 11, some 12, some 13, some 14, some 15, some 16, some 17, some 18, some 19, some 20, some 21, some 22, some 23, some 24, some 25, some 26, some 27, some 28, some 29, some 30, some 31] [[], [], [0, 1], [2], [3], [4], [5], [6], [7, 6], [8, 6], [9], [9], [11, 9], [10, 12, 9], [13, 9], [9], [9], [15, 16, 9], [17, 9], [14, 18, 9], [9, 19, 6], [6, 20]] [[], [], [0, 1], [2, 0, 1], [3, 2, 0, 1], [4, 3, 2, 0, 1], [5, 4, 3, 2, 0, 1], [6, 5, 4, 3, 2, 0, 1], [7, 6, 5, 4, 3, 2, 0, 1], [8, 7, 6, 5, 4, 3, 2, 0, 1], [9, 8, 7, 6, 5, 4, 3, 2, 0, 1], [9, 8, 7, 6, 5, 4, 3, 2, 0, 1], [11, 9, 8, 7, 6, 5, 4, 3, 2, 0, 1], [10, 9, 8, 7, 6, 5, 4, 3, 2, 0, 1, 12, 11], [13, 10, 9, 8, 7, 6, 5, 4, 3, 2, 0, 1, 12, 11], [9, 8, 7, 6, 5, 4, 3, 2, 0, 1], [9, 8, 7, 6, 5, 4, 3, 2, 0, 1], [15, 9, 8, 7, 6, 5, 4, 3, 2, 0, 1, 16], [17, 15, 9, 8, 7, 6, 5, 4, 3, 2, 0, 1, 16], [14, 13, 10, 9, 8, 7, 6, 5, 4, 3, 2, 0, 1, 12, 11, 18, 17, 15, 16], [9, 8, 7, 6, 5, 4, 3, 2, 0, 1, 19, 14, 13, 10, 12, 11, 18, 17, 15, 16], [6, 5, 4, 3, 2, 0, 1, 20, 9, 8, 7, 19, 14, 13, 10, 12, 11, 18, 17, 15, 16]] (by kernel_rfl) (by decide) (fun ii vv w1 => match ii with | 0 => vv = .slice (some ⟨b, o, none⟩) l.length c | 1 => vv = .int .i64 (k : Int) | 2 => vv = .pointer (some ⟨b, o + k, none⟩) | 3 => vv = .string x | 4 => vv = .bool true ∧ Below w3.heap.size w3 w1 | 5 => vv = .bool false ∧ Below w3.heap.size w3 w1 | 6 => vv = .bool false ∧ Below w3.heap.size w3 w1 | 7 => vv = .int .i64 (k : Int) ∧ Below w3.heap.size w3 w1 | 8 => vv = .bool false ∧ Below w3.heap.size w3 w1 | 9 => vv = .bool false ∧ Below w3.heap.size w3 w1 | 10 => vv = undef ∧ Below w3.heap.size w3 w1 | 11 => vv = undef ∧ Below w3.heap.size w3 w1 | 12 => vv = undef ∧ Below w3.heap.size w3 w1 | 13 => vv = undef ∧ Below w3.heap.size w3 w1 | 14 => vv = undef ∧ Below w3.heap.size w3 w1 | 15 => vv = undef ∧ Below w3.heap.size w3 w1 | 16 => vv = undef ∧ Below w3.heap.size w3 w1 | 17 => vv = undef ∧ Below w3.heap.size w3 w1 | 18 => vv = undef ∧ Below w3.heap.size w3 w1 | 19 => vv = undef ∧ Below w3.heap.size w3 w1 | 20 => vv = .bool false ∧ Below w3.heap.size w3 w1 | 21 => vv = .bool false ∧ Below w3.heap.size w3 w1 | _ => True) ?hfree (allLt 22 ?steps) ?fin
          case hfree =>
            intro j v w1 w2 hj hn h
            match j, h, hj, hn with
            | 0, h, _, _ => exact h
            | 1, h, _, _ => exact h
            | 2, h, _, _ => exact h
            | 3, h, _, _ => exact h
            | 4, _, hj, _ => exact absurd rfl hj
            | 5, _, _, hn => exact absurd (by decide) hn
            | 6, _, _, hn => exact absurd (by decide) hn
            | 7, _, _, hn => exact absurd (by decide) hn
            | 8, _, _, hn => exact absurd (by decide) hn
            | 9, _, _, hn => exact absurd (by decide) hn
            | 10, _, _, hn => exact absurd (by decide) hn
            | 11, _, _, hn => exact absurd (by decide) hn
            | 12, _, _, hn => exact absurd (by decide) hn
            | 13, _, _, hn => exact absurd (by decide) hn
            | 14, _, _, hn => exact absurd (by decide) hn
            | 15, _, _, hn => exact absurd (by decide) hn
            | 16, _, _, hn => exact absurd (by decide) hn
            | 17, _, _, hn => exact absurd (by decide) hn
            | 18, _, _, hn => exact absurd (by decide) hn
            | 19, _, _, hn => exact absurd (by decide) hn
            | 20, _, _, hn => exact absurd (by decide) hn
            | 21, _, _, hn => exact absurd (by decide) hn
            | _ + 22, _, _, _ => trivial
          case steps =>
            refine ⟨⟨⟨⟨⟨⟨⟨⟨⟨⟨⟨⟨⟨⟨⟨⟨⟨⟨⟨⟨⟨⟨trivial, ?s0⟩, ?s1⟩, ?s2⟩, ?s3⟩, ?s4⟩, ?s5⟩, ?s6⟩, ?s7⟩, ?s8⟩, ?s9⟩, ?s10⟩, ?s11⟩, ?s12⟩, ?s13⟩, ?s14⟩, ?s15⟩, ?s16⟩, ?s17⟩, ?s18⟩, ?s19⟩, ?s20⟩, ?s21⟩
            case s0 =>
              intro a w1 hw hO hN
              obtain rfl : w1 = w3.drew := hw (by decide)
              have o0 : a.tmps[0]? = some (.slice (some ⟨b, o, none⟩) l.length c) := (hO.out 0 (by decide)).trans rfl
              exact relVal rfl (.slice (some ⟨b, o, none⟩) l.length c) _ rfl (by go_simp) ⟨_, rfl, rfl, fun _ => rfl⟩
            case s1 =>
              intro a w1 hw hO hN
              obtain rfl : w1 = w3.drew := hw (by decide)
              have o3 : a.tmps[3]? = some (.int .i64 (k : Int)) := (hO.out 3 (by decide)).trans rfl
              exact relVal rfl (.int .i64 (k : Int)) _ rfl (by go_simp) ⟨_, rfl, rfl, fun _ => rfl⟩
            case s2 =>
              intro a w1 hw hO hN
              obtain rfl : w1 = w3.drew := hw (by decide)
              obtain ⟨v0, g0, r0⟩ := hN 0 (by decide)
              have g0 : a.tmps[10]? = some v0 := g0
              have e0 : v0 = .slice (some ⟨b, o, none⟩) l.length c := r0
              rw [e0] at g0
              obtain ⟨v1, g1, r1⟩ := hN 1 (by decide)
              have g1 : a.tmps[11]? = some v1 := g1
              have e1 : v1 = .int .i64 (k : Int) := r1
              rw [e1] at g1
              exact relVal rfl (.pointer (some ⟨b, o + k, none⟩)) _ rfl (by go_simp) ⟨_, rfl, rfl, fun _ => rfl⟩
            case s3 =>
              intro a w1 hw hO hN
              obtain rfl : w1 = w3.drew := hw (by decide)
              obtain ⟨v2, g2, r2⟩ := hN 2 (by decide)
              have g2 : a.tmps[12]? = some v2 := g2
              have e2 : v2 = .pointer (some ⟨b, o + k, none⟩) := r2
              rw [e2] at g2
              exact relVal rfl (.string x) _ rfl (by go_simp) ⟨_, rfl, rfl, fun _ => rfl⟩
            case s4 =>
              intro a w1 hw hO hN
              obtain rfl : w1 = w3.drew := hw (by decide)
              obtain ⟨v3, g3, r3⟩ := hN 3 (by decide)
              have g3 : a.tmps[13]? = some v3 := g3
              have e3 : v3 = .string x := r3
              rw [e3] at g3
              refine relCallF rfl rfl 66 [.tmp 13] #[9] rfl [.string x] (by simp [Act.eval, g3]) (enters_of Tryz.func66 (by kernel_rfl) rfl) (Calls.mono (KW.out w3.drew) ?_)
              rintro e w5 ⟨rfl, hb5⟩
              exact ⟨_, rfl, _, rfl, ⟨rfl, (Below.refl _ _).drew.trans hb5⟩, fun h => absurd rfl h⟩
            case s5 =>
              intro a w1 hw hO hN
              obtain ⟨v4, g4, r4⟩ := hN 4 (by decide)
              have g4 : a.tmps[14]? = some v4 := g4
              obtain ⟨e4, hb4⟩ := r4
              rw [e4] at g4
              exact relVal rfl (.bool false) _ rfl (by go_simp) ⟨_, rfl, ⟨rfl, hb4⟩, fun _ => rfl⟩
            case s6 =>
              intro a w1 hw hO hN
              obtain ⟨v5, g5, r5⟩ := hN 5 (by decide)
              have g5 : a.tmps[15]? = some v5 := g5
              obtain ⟨e5, hb5⟩ := r5
              rw [e5] at g5
              exact relVal rfl (.bool false) _ rfl (by go_simp) ⟨_, rfl, ⟨rfl, hb5⟩, fun _ => rfl⟩
            case s7 =>
              intro a w1 hw hO hN
              obtain ⟨v6, g6, r6⟩ := hN 6 (by decide)
              have g6 : a.tmps[16]? = some v6 := g6
              obtain ⟨e6, hb6⟩ := r6
              rw [e6] at g6
              have o3 : a.tmps[3]? = some (.int .i64 (k : Int)) := (hO.out 3 (by decide)).trans rfl
              exact relValW rfl (.int .i64 (k : Int)) _ ((wanted_is rfl rfl g6).trans rfl) (by go_simp) ⟨_, rfl, ⟨rfl, hb6⟩, fun _ => rfl⟩
            case s8 =>
              intro a w1 hw hO hN
              obtain ⟨v7, g7, r7⟩ := hN 7 (by decide)
              have g7 : a.tmps[17]? = some v7 := g7
              obtain ⟨e7, hb7⟩ := r7
              rw [e7] at g7
              obtain ⟨v6, g6, r6⟩ := hN 6 (by decide)
              have g6 : a.tmps[16]? = some v6 := g6
              obtain ⟨e6, hb6⟩ := r6
              rw [e6] at g6
              exact relValW rfl (.bool false) _ ((wanted_is rfl rfl g6).trans rfl) (by go_simp) ⟨_, rfl, ⟨rfl, hb7⟩, fun _ => rfl⟩
            case s9 =>
              intro a w1 hw hO hN
              obtain ⟨v8, g8, r8⟩ := hN 8 (by decide)
              have g8 : a.tmps[18]? = some v8 := g8
              obtain ⟨e8, hb8⟩ := r8
              rw [e8] at g8
              obtain ⟨v6, g6, r6⟩ := hN 6 (by decide)
              have g6 : a.tmps[16]? = some v6 := g6
              obtain ⟨e6, hb6⟩ := r6
              rw [e6] at g6
              exact relValW rfl (.bool false) _ ((wanted_is rfl rfl g6).trans rfl) (by go_simp) ⟨_, rfl, ⟨rfl, hb8⟩, fun _ => rfl⟩
            case s10 =>
              intro a w1 hw hO hN
              obtain ⟨v9, g9, r9⟩ := hN 9 (by decide)
              have g9 : a.tmps[19]? = some v9 := g9
              obtain ⟨e9, hb9⟩ := r9
              rw [e9] at g9
              have o0 : a.tmps[0]? = some (.slice (some ⟨b, o, none⟩) l.length c) := (hO.out 0 (by decide)).trans rfl
              exact relNo rfl ((wanted_is rfl rfl g9).trans rfl) ⟨_, rfl, ⟨rfl, hb9⟩, fun _ => rfl⟩
            case s11 =>
              intro a w1 hw hO hN
              obtain ⟨v9, g9, r9⟩ := hN 9 (by decide)
              have g9 : a.tmps[19]? = some v9 := g9
              obtain ⟨e9, hb9⟩ := r9
              rw [e9] at g9
              have o3 : a.tmps[3]? = some (.int .i64 (k : Int)) := (hO.out 3 (by decide)).trans rfl
              exact relNo rfl ((wanted_is rfl rfl g9).trans rfl) ⟨_, rfl, ⟨rfl, hb9⟩, fun _ => rfl⟩
            case s12 =>
              intro a w1 hw hO hN
              obtain ⟨v11, g11, r11⟩ := hN 11 (by decide)
              have g11 : a.tmps[21]? = some v11 := g11
              obtain ⟨e11, hb11⟩ := r11
              rw [e11] at g11
              obtain ⟨v9, g9, r9⟩ := hN 9 (by decide)
              have g9 : a.tmps[19]? = some v9 := g9
              obtain ⟨e9, hb9⟩ := r9
              rw [e9] at g9
              exact relNo rfl ((wanted_is rfl rfl g9).trans rfl) ⟨_, rfl, ⟨rfl, hb11⟩, fun _ => rfl⟩
            case s13 =>
              intro a w1 hw hO hN
              obtain ⟨v10, g10, r10⟩ := hN 10 (by decide)
              have g10 : a.tmps[20]? = some v10 := g10
              obtain ⟨e10, hb10⟩ := r10
              rw [e10] at g10
              obtain ⟨v12, g12, r12⟩ := hN 12 (by decide)
              have g12 : a.tmps[22]? = some v12 := g12
              obtain ⟨e12, hb12⟩ := r12
              rw [e12] at g12
              obtain ⟨v9, g9, r9⟩ := hN 9 (by decide)
              have g9 : a.tmps[19]? = some v9 := g9
              obtain ⟨e9, hb9⟩ := r9
              rw [e9] at g9
              exact relNo rfl ((wanted_is rfl rfl g9).trans rfl) ⟨_, rfl, ⟨rfl, hb10⟩, fun _ => rfl⟩
            case s14 =>
              intro a w1 hw hO hN
              obtain ⟨v13, g13, r13⟩ := hN 13 (by decide)
              have g13 : a.tmps[23]? = some v13 := g13
              obtain ⟨e13, hb13⟩ := r13
              rw [e13] at g13
              obtain ⟨v9, g9, r9⟩ := hN 9 (by decide)
              have g9 : a.tmps[19]? = some v9 := g9
              obtain ⟨e9, hb9⟩ := r9
              rw [e9] at g9
              exact relNo rfl ((wanted_is rfl rfl g9).trans rfl) ⟨_, rfl, ⟨rfl, hb13⟩, fun _ => rfl⟩
            case s15 =>
              intro a w1 hw hO hN
              obtain ⟨v9, g9, r9⟩ := hN 9 (by decide)
              have g9 : a.tmps[19]? = some v9 := g9
              obtain ⟨e9, hb9⟩ := r9
              rw [e9] at g9
              have o0 : a.tmps[0]? = some (.slice (some ⟨b, o, none⟩) l.length c) := (hO.out 0 (by decide)).trans rfl
              exact relNo rfl ((wanted_is rfl rfl g9).trans rfl) ⟨_, rfl, ⟨rfl, hb9⟩, fun _ => rfl⟩
            case s16 =>
              intro a w1 hw hO hN
              obtain ⟨v9, g9, r9⟩ := hN 9 (by decide)
              have g9 : a.tmps[19]? = some v9 := g9
              obtain ⟨e9, hb9⟩ := r9
              rw [e9] at g9
              have o3 : a.tmps[3]? = some (.int .i64 (k : Int)) := (hO.out 3 (by decide)).trans rfl
              exact relNo rfl ((wanted_is rfl rfl g9).trans rfl) ⟨_, rfl, ⟨rfl, hb9⟩, fun _ => rfl⟩
            case s17 =>
              intro a w1 hw hO hN
              obtain ⟨v15, g15, r15⟩ := hN 15 (by decide)
              have g15 : a.tmps[25]? = some v15 := g15
              obtain ⟨e15, hb15⟩ := r15
              rw [e15] at g15
              obtain ⟨v16, g16, r16⟩ := hN 16 (by decide)
              have g16 : a.tmps[26]? = some v16 := g16
              obtain ⟨e16, hb16⟩ := r16
              rw [e16] at g16
              obtain ⟨v9, g9, r9⟩ := hN 9 (by decide)
              have g9 : a.tmps[19]? = some v9 := g9
              obtain ⟨e9, hb9⟩ := r9
              rw [e9] at g9
              exact relNo rfl ((wanted_is rfl rfl g9).trans rfl) ⟨_, rfl, ⟨rfl, hb15⟩, fun _ => rfl⟩
            case s18 =>
              intro a w1 hw hO hN
              obtain ⟨v17, g17, r17⟩ := hN 17 (by decide)
              have g17 : a.tmps[27]? = some v17 := g17
              obtain ⟨e17, hb17⟩ := r17
              rw [e17] at g17
              obtain ⟨v9, g9, r9⟩ := hN 9 (by decide)
              have g9 : a.tmps[19]? = some v9 := g9
              obtain ⟨e9, hb9⟩ := r9
              rw [e9] at g9
              exact relNo rfl ((wanted_is rfl rfl g9).trans rfl) ⟨_, rfl, ⟨rfl, hb17⟩, fun _ => rfl⟩
            case s19 =>
              intro a w1 hw hO hN
              obtain ⟨v14, g14, r14⟩ := hN 14 (by decide)
              have g14 : a.tmps[24]? = some v14 := g14
              obtain ⟨e14, hb14⟩ := r14
              rw [e14] at g14
              obtain ⟨v18, g18, r18⟩ := hN 18 (by decide)
              have g18 : a.tmps[28]? = some v18 := g18
              obtain ⟨e18, hb18⟩ := r18
              rw [e18] at g18
              obtain ⟨v9, g9, r9⟩ := hN 9 (by decide)
              have g9 : a.tmps[19]? = some v9 := g9
              obtain ⟨e9, hb9⟩ := r9
              rw [e9] at g9
              exact relNo rfl ((wanted_is rfl rfl g9).trans rfl) ⟨_, rfl, ⟨rfl, hb14⟩, fun _ => rfl⟩
            case s20 =>
              intro a w1 hw hO hN
              obtain ⟨v9, g9, r9⟩ := hN 9 (by decide)
              have g9 : a.tmps[19]? = some v9 := g9
              obtain ⟨e9, hb9⟩ := r9
              rw [e9] at g9
              obtain ⟨v19, g19, r19⟩ := hN 19 (by decide)
              have g19 : a.tmps[29]? = some v19 := g19
              obtain ⟨e19, hb19⟩ := r19
              rw [e19] at g19
              obtain ⟨v6, g6, r6⟩ := hN 6 (by decide)
              have g6 : a.tmps[16]? = some v6 := g6
              obtain ⟨e6, hb6⟩ := r6
              rw [e6] at g6
              exact relValW rfl (.bool false) _ ((wanted_is rfl rfl g6).trans rfl) (by go_simp) ⟨_, rfl, ⟨rfl, hb9⟩, fun _ => rfl⟩
            case s21 =>
              intro a w1 hw hO hN
              obtain ⟨v6, g6, r6⟩ := hN 6 (by decide)
              have g6 : a.tmps[16]? = some v6 := g6
              obtain ⟨e6, hb6⟩ := r6
              rw [e6] at g6
              obtain ⟨v20, g20, r20⟩ := hN 20 (by decide)
              have g20 : a.tmps[30]? = some v20 := g20
              obtain ⟨e20, hb20⟩ := r20
              rw [e20] at g20
              exact relVal rfl (.bool false) _ rfl (by go_simp) ⟨_, rfl, ⟨rfl, hb6⟩, fun _ => rfl⟩
          case fin =>
            intro vs w1 hV
            obtain ⟨e21, hb9⟩ : vs 21 = .bool false ∧ Below w3.heap.size w3 w1 := hV 21 (by decide)
            have HB9 := show Hid (Below w.heap.size w w1) from HB.out.trans (hb9.mono HB.out.size)
            simp only [putAll, Act.put, List.setIfInBounds_toArray, List.set_cons_zero, List.set_cons_succ, e21]
            clear hV e21 hb9 KW HB HCX hcx
            go_wp2_with fail
            go_roundw
            case rel => exact ⟨k + 1, by omega, val_int (by omega), HB9, HS4⟩
            case measure => (simp only [intOf]; omega)
    · obtain rfl : k = l.length := by omega
      have HE := show Hid (ans = true) from HT.out fun j hj => HI.out j hj hj
      go_wp2_with fail
      go_ret
      exact ⟨ret_bool HE.out.symm, HB.out⟩
end Go.Proofs.YtjbnbaiidpdpoaaGreatDoor.Wm
