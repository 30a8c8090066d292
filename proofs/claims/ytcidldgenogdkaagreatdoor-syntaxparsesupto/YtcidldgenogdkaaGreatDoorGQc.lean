/-
  The document's calls specials, Signs and one: the token at a place: for every text and every place. No condition beyond the text's size.
-/
import Derived.Test.YtcidldgenogdkaaGreatDoorGQb
import Derived.BigRegion
namespace Go.Proofs.YtcidldgenogdkaaGreatDoor.Tw
open Go.RowKit

def specV : Array Value := (Tk.specials.flatMap fun g => [Value.string ⟨g.1.toArray⟩, .int .i64 g.2.1, .string ⟨g.2.2.toArray⟩]).toArray
set_option maxHeartbeats 1000000 in
theorem specials_any (w : World) :
    Calls Tryz.prog 121 #[] w fun e w' => e = .returned (.slice (some ⟨w.heap.size, 0, none⟩) 9 9) ∧ w' = w.alloc (.cells specV 162) := by
  go_enter Tryz.func121, Tryz.ntmps121
  go_wp2
  go_ret
  exact ⟨rfl, rfl⟩
set_option maxHeartbeats 1000000 in
theorem signs_any (w : World) :
    Calls Tryz.prog 123 #[] w fun e w' => e = .returned (.slice (some ⟨w.heap.size, 0, none⟩) 20 20) ∧ w' = w.alloc (.cells sigV 9) := by
  go_enter Tryz.func123, Tryz.ntmps123
  go_wp2
  go_ret
  exact ⟨rfl, rfl⟩
theorem spec_cells (k : Nat) (h : k < 9) : specV[k * 3]? = some (.string ⟨(Tk.specials[k]'h).1.toArray⟩) ∧ specV[k * 3 + 1]? = some (.int .i64 (Tk.specials[k]'h).2.1) ∧ specV[k * 3 + 2]? = some (.string ⟨(Tk.specials[k]'h).2.2.toArray⟩) := by
  match k, h with
  | 0, _ => exact ⟨rfl, rfl, rfl⟩
  | 1, _ => exact ⟨rfl, rfl, rfl⟩
  | 2, _ => exact ⟨rfl, rfl, rfl⟩
  | 3, _ => exact ⟨rfl, rfl, rfl⟩
  | 4, _ => exact ⟨rfl, rfl, rfl⟩
  | 5, _ => exact ⟨rfl, rfl, rfl⟩
  | 6, _ => exact ⟨rfl, rfl, rfl⟩
  | 7, _ => exact ⟨rfl, rfl, rfl⟩
  | 8, _ => exact ⟨rfl, rfl, rfl⟩
theorem spec_small : ∀ g ∈ Tk.specials, g.1.length ≤ 3 := by decide
theorem sign_small : ∀ g ∈ Tk.signs, g.length ≤ 3 := by decide
theorem sig_cells (k : Nat) (h : k < 20) : sigV[k]? = some (Value.string ⟨(Tk.signs[k]'h).toArray⟩) := by
  simp only [sigV, List.getElem?_toArray, List.getElem?_map]
  rw [List.getElem?_eq_getElem (by exact h)]
  rfl
theorem mk_size (g : List UInt8) : (⟨g.toArray⟩ : ByteArray).size = g.length := by show g.toArray.size = _; simp
theorem row_drew {w : World} {g : Nat} {a0 a1 a2 a3 a4 a5 : Value} (h : T6 w g a0 a1 a2 a3 a4 a5) : w.drew.heap[g]? = some (.cells #[a0, a1, a2, a3, a4, a5] 45 (0, 0)) := h
set_option maxRecDepth 100000 in
set_option maxHeartbeats 8000000 in
theorem rone_rest (w : World) (s : ByteArray) (i : Nat) (hs : s.size ≤ 140737488355328) (hi : i < s.size) (hb : Tk.isBeg s[i] = false) (hd : Tk.isDig s[i] = false) :
    Calls Tryz.prog 93 #[.string s, .int .i64 (i : Int)] w fun e w' => IsOne i (Tk.specIn Tk.specials (s.data.toList.drop i)) e ∧ Below w.heap.size w w' := by
  have KL := show Hid (∀ w : World, Calls Tryz.prog 117 #[.int .u8 ((s[i]).toNat : Int)] w fun e w' => e = .returned (.bool false) ∧ w' = w) from fun w => by have := rletter_any w s[i]; rw [hb] at this; exact this
  have KD := show Hid (∀ w : World, Calls Tryz.prog 119 #[.int .u8 ((s[i]).toNat : Int)] w fun e w' => e = .returned (.bool false) ∧ w' = w) from fun w => by have := rdigit_any w s[i]; rw [hd] at this; exact this
  have KA := show Hid (∀ (w : World) (g : List UInt8), g.length ≤ 3 → Calls Tryz.prog 122 #[.string s, .int .i64 (i : Int), .string ⟨g.toArray⟩] w fun e w' => e = .returned (.bool (g.isPrefixOf (s.data.toList.drop i))) ∧ w' = w) from fun w g hg => by
    have := rat2_any w s i ⟨g.toArray⟩ hs (by rw [mk_size]; omega) (by omega)
    simpa using this
  have HX : Hid (Tk.specIn (Tk.specials.drop 0) (s.data.toList.drop i) = Tk.specIn Tk.specials (s.data.toList.drop i)) := rfl
  generalize Tk.specIn Tk.specials (s.data.toList.drop i) = ans at *
  clear hb hd
  have KS := show Hid (∀ w : World, Calls Tryz.prog 121 #[] w fun e w' => e = .returned (.slice (some ⟨w.heap.size, 0, none⟩) 9 9) ∧ w' = w.alloc (.cells specV 162)) from specials_any
  have KG := show Hid (∀ w : World, Calls Tryz.prog 123 #[] w fun e w' => e = .returned (.slice (some ⟨w.heap.size, 0, none⟩) 20 20) ∧ w' = w.alloc (.cells sigV 9)) from signs_any
  go_enter Tryz.func93, Tryz.ntmps93
  go_wp2_with fail
  refine (KL.out _).mono ?_
  rintro e w0 ⟨rfl, rfl⟩
  go_wp2_with fail
  refine (KD.out _).mono ?_
  rintro e w0 ⟨rfl, rfl⟩
  go_wp2_with fail
  have HT0 : Hid (T6 (w.alloc tok0) w.heap.size (.int .i64 0) (.string ⟨#[]⟩) (.int .i64 0) (.int .i64 0) (.int .i64 0) (.int .i64 0)) := heap_alloc_new _ _
  refine (KS.out (w.alloc tok0)).mono ?_
  rintro e w1 ⟨rfl, rfl⟩
  have hsz : (w.alloc tok0).heap.size = w.heap.size + 1 := by simp
  rw [hsz]
  have HT1 := show Hid (T6 ((w.alloc tok0).alloc (.cells specV 162)) w.heap.size (.int .i64 0) (.string ⟨#[]⟩) (.int .i64 0) (.int .i64 0) (.int .i64 0) (.int .i64 0)) from (Below.heap_alloc _ _ _ (by simp)).trans HT0.out
  have HS1 := show Hid (((w.alloc tok0).alloc (.cells specV 162)).heap[w.heap.size + 1]? = some (.cells specV 162 (0, 0))) from heap_alloc2_new _ _ _
  have HB1 := show Hid (Below w.heap.size w ((w.alloc tok0).alloc (.cells specV 162))) from below_alloc2 _ _ _
  generalize (w.alloc tok0).alloc (.cells specV 162) = w1 at *
  clear hsz HT0 KL KD KS
  go_wp2_with fail
  go_loopw [9] (fun v wr => ∃ k : Nat, k ≤ 9 ∧ v = .int .i64 k ∧ Hid (Tk.specIn (Tk.specials.drop k) (s.data.toList.drop i) = ans) ∧ wr = w1) (fun v _ => 9 - (intOf v).toNat)
  case atStart => exact ⟨0, by omega, rfl, HX, rfl⟩
  case round =>
    obtain ⟨k, hk, rfl, HK, rfl⟩ := hrel
    clear HX
    by_cases hlt : k < 9
    · have hcell := spec_cells k hlt
      have hK := HK.out
      rw [List.drop_eq_getElem_cons (show k < Tk.specials.length from hlt), Tk.specIn] at hK
      have hsm := spec_small (Tk.specials[k]'hlt) (List.getElem_mem _)
      generalize Tk.specials[k]'hlt = g at *
      obtain ⟨gr, gk, gt⟩ := g
      simp only at hcell hsm hK
      have hc0 : wr.cell? ⟨w.heap.size + 1, k * 3, none⟩ = some (.string ⟨gr.toArray⟩) := by rw [cell_of_row _ _ _ _ _ _ HS1.out]; exact hcell.1
      have hc1 : wr.cell? ⟨w.heap.size + 1, k * 3 + 1, none⟩ = some (.int .i64 gk) := by rw [cell_of_row _ _ _ _ _ _ HS1.out]; exact hcell.2.1
      have hc2 : wr.cell? ⟨w.heap.size + 1, k * 3 + 2, none⟩ = some (.string ⟨gt.toArray⟩) := by rw [cell_of_row _ _ _ _ _ _ HS1.out]; exact hcell.2.2
      have hgl := mk_size gr
      have HSM := show Hid (gr.length ≤ 3) from hsm
      have HK2 := show Hid _ from hK
      clear hcell hK HK
      go_wp2_with fail
      refine (KA.out _ gr HSM.out).mono ?_
      rintro e w2 ⟨rfl, rfl⟩
      cases hp : gr.isPrefixOf (s.data.toList.drop i) with
      | true =>
        have hA := HK2.out
        rw [if_pos hp] at hA
        subst hA
        have t0 := HT1.out.c0; have t1 := HT1.out.c1; have t2 := HT1.out.c2; have t3 := HT1.out.c3; have t4 := HT1.out.c4; have t5 := HT1.out.c5; have tf := HT1.out.fr
        clear HK2 KA hp
        go_wp2_with fail
        go_region
        go_wp2_with fail
        have hfin := row_drew (HT1.out.s6 (.int .i64 gk) (.string ⟨gt.toArray⟩) (.int .i64 0) (.int .i64 0) (.int .i64 0) (.int .i64 0))
        unfold set6 at hfin
        refine bodyPost_ret (results_cell2_row rfl _ _ w.heap.size _ _ _ _ rfl hfin Tryz.underlying45 rfl (by kernel_rfl)) rfl ?_
        refine ⟨⟨i + gr.length, ?_, fun _ => rfl⟩, (below_set6 HB1.out (Nat.le_refl _) _ _ _ _ _ _).drew⟩
        show Ending.returned (.tuple #[.agg #[.int .i64 gk, .string ⟨gt.toArray⟩, .int .i64 0, .int .i64 0, .int .i64 0, .int .i64 0], .int .i64 ((i : Int) + (gr.length : Int)), .int .i64 0]) = Ending.returned (.tuple #[.agg (tokV (gk, gt, 0)), .int .i64 ((i + gr.length : Nat) : Int), .int .i64 0])
        rw [show ((i + gr.length : Nat) : Int) = (i : Int) + (gr.length : Int) by omega]
        rfl
      | false =>
        have hA := HK2.out
        rw [if_neg (by rw [hp]; simp)] at hA
        have HK3 := show Hid (Tk.specIn (Tk.specials.drop (k + 1)) (s.data.toList.drop i) = ans) from hA
        clear HK2 hA hp hc0 hc1 hc2
        go_wp2_with fail
        go_roundw
        case rel => exact ⟨k + 1, by omega, by go_num, HK3, trivial⟩
        case measure => simp [intOf]; omega
    · obtain rfl : k = 9 := by omega
      have HX2 := show Hid (Tk.signIn (Tk.signs.drop 0) (s.data.toList.drop i) = ans) from HK.out
      clear HK
      go_wp2_with fail
      refine (KG.out _).mono ?_
      rintro e w3 ⟨rfl, rfl⟩
      have HT3 := show Hid (T6 (wr.alloc (.cells sigV 9)) w.heap.size (.int .i64 0) (.string ⟨#[]⟩) (.int .i64 0) (.int .i64 0) (.int .i64 0) (.int .i64 0)) from (Below.heap_alloc _ _ _ (lt_of_block HT1.out)).trans HT1.out
      have HS3 : Hid ((wr.alloc (.cells sigV 9)).heap[wr.heap.size]? = some (.cells sigV 9 (0, 0))) := heap_alloc_new _ _
      have HB3 := show Hid (Below w.heap.size w (wr.alloc (.cells sigV 9))) from HB1.out.alloc HB1.out.size _
      generalize wr.alloc (.cells sigV 9) = w3 at *
      obtain ⟨gs, hgs⟩ : ∃ gs, gs = wr.heap.size := ⟨_, rfl⟩
      have hgne : gs ≠ w.heap.size := by rw [hgs]; have := lt_of_block HT1.out; omega
      rw [← hgs] at HS3 ⊢
      clear hgs HT1 HS1 HB1 KG
      go_wp2_with fail
      go_loopw [11] (fun v wx => ∃ j : Nat, j ≤ 20 ∧ v = .int .i64 j ∧ Hid (Tk.signIn (Tk.signs.drop j) (s.data.toList.drop i) = ans) ∧ wx = w3) (fun v _ => 20 - (intOf v).toNat)
      case atStart => exact ⟨0, by omega, rfl, HX2, rfl⟩
      case round =>
        obtain ⟨j, hj, rfl, HJ, rfl⟩ := hrel
        clear HX2
        by_cases hjl : j < 20
        · have hcell := sig_cells j hjl
          have hJ := HJ.out
          rw [List.drop_eq_getElem_cons (show j < Tk.signs.length from hjl), Tk.signIn] at hJ
          have hsm := sign_small (Tk.signs[j]'hjl) (List.getElem_mem _)
          generalize Tk.signs[j]'hjl = g at *
          have hc0 : wr.cell? ⟨gs, j, none⟩ = some (.string ⟨g.toArray⟩) := by rw [cell_of_row _ _ _ _ _ _ HS3.out]; exact hcell
          have hgl := mk_size g
          have HSM := show Hid (g.length ≤ 3) from hsm
          have HJ2 := show Hid _ from hJ
          clear hcell hJ HJ
          go_wp2_with fail
          refine (KA.out _ g HSM.out).mono ?_
          rintro e w4 ⟨rfl, rfl⟩
          cases hp : g.isPrefixOf (s.data.toList.drop i) with
          | true =>
            have hA := HJ2.out
            rw [if_pos hp] at hA
            subst hA
            have t0 := HT3.out.c0; have t1 := HT3.out.c1; have t2 := HT3.out.c2; have t3 := HT3.out.c3; have t4 := HT3.out.c4; have t5 := HT3.out.c5; have tf := HT3.out.fr
            clear HJ2 KA hp
            go_wp2_with fail
            go_region
            go_wp2_with fail
            have hfin := row_drew (HT3.out.s6 (.int .i64 3) (.string ⟨g.toArray⟩) (.int .i64 0) (.int .i64 0) (.int .i64 0) (.int .i64 0))
            unfold set6 at hfin
            refine bodyPost_ret (results_cell2_row rfl _ _ w.heap.size _ _ _ _ rfl hfin Tryz.underlying45 rfl (by kernel_rfl)) rfl ?_
            refine ⟨⟨i + g.length, ?_, fun _ => rfl⟩, (below_set6 HB3.out (Nat.le_refl _) _ _ _ _ _ _).drew⟩
            show Ending.returned (.tuple #[.agg #[.int .i64 3, .string ⟨g.toArray⟩, .int .i64 0, .int .i64 0, .int .i64 0, .int .i64 0], .int .i64 ((i : Int) + (g.length : Int)), .int .i64 0]) = Ending.returned (.tuple #[.agg (tokV (3, g, 0)), .int .i64 ((i + g.length : Nat) : Int), .int .i64 0])
            rw [show ((i + g.length : Nat) : Int) = (i : Int) + (g.length : Int) by omega]
            rfl
          | false =>
            have hA := HJ2.out
            rw [if_neg (by rw [hp]; simp)] at hA
            have HJ3 := show Hid (Tk.signIn (Tk.signs.drop (j + 1)) (s.data.toList.drop i) = ans) from hA
            clear HJ2 hA hp hc0
            go_wp2_with fail
            go_roundw
            case rel => exact ⟨j + 1, by omega, by go_num, HJ3, trivial⟩
            case measure => simp [intOf]; omega
        · obtain rfl : j = 20 := by omega
          have hA : Tk.bad 20 = ans := HJ.out
          subst hA
          have t0 := HT3.out.c0; have t1 := HT3.out.c1; have t2 := HT3.out.c2; have t3 := HT3.out.c3; have t4 := HT3.out.c4; have t5 := HT3.out.c5; have tf := HT3.out.fr
          clear HJ
          go_wp2_with fail
          refine bodyPost_ret (results_cell2_row rfl _ _ w.heap.size _ _ _ _ rfl (HT3.out.s6 (.int .i64 0) (.string ⟨#[]⟩) (.int .i64 0) (.int .i64 0) (.int .i64 0) (.int .i64 0)) Tryz.underlying45 rfl (by kernel_rfl)) rfl ?_
          exact ⟨⟨i, rfl, fun h => absurd h (by decide)⟩, below_set6 HB3.out (Nat.le_refl _) _ _ _ _ _ _⟩
end Go.Proofs.YtcidldgenogdkaaGreatDoor.Tw
/-
  The document's call one, whole: the token at a place: for every text and every place in it or at its end. No condition beyond the text's size.
-/
namespace Go.Proofs.YtcidldgenogdkaaGreatDoor.Tw
open Go.RowKit

theorem bytes_mk (s : ByteArray) : (⟨s.data.toList.toArray⟩ : ByteArray) = s := by cases s; simp
set_option maxRecDepth 100000 in
set_option maxHeartbeats 4000000 in
theorem rone_end (w : World) (s : ByteArray) (i : Nat) (_hs : s.size ≤ 140737488355328) (hi : i = s.size) :
    Calls Tryz.prog 93 #[.string s, .int .i64 (i : Int)] w fun e w' => IsOne i ((0, [], 0), 0, 0) e ∧ Below w.heap.size w w' := by
  subst hi
  go_enter Tryz.func93, Tryz.ntmps93
  go_wp2_with fail
  refine bodyPost_ret (results_cell2_row rfl _ _ w.heap.size _ _ _ _ rfl (heap_alloc_new _ _) Tryz.underlying45 rfl (by kernel_rfl)) rfl ?_
  exact ⟨⟨s.size, rfl, fun _ => rfl⟩, below_alloc _ _⟩
set_option maxRecDepth 100000 in
set_option maxHeartbeats 4000000 in
theorem rone_num (w : World) (s : ByteArray) (i : Nat) (hs : s.size ≤ 140737488355328) (hi : i < s.size) (hb : Tk.isBeg s[i] = false) (hd : Tk.isDig s[i] = true) :
    Calls Tryz.prog 93 #[.string s, .int .i64 (i : Int)] w fun e w' => IsOne i (Tk.cutNum (s.data.toList.drop i)) e ∧ Below w.heap.size w w' := by
  have KL := show Hid (∀ w : World, Calls Tryz.prog 117 #[.int .u8 ((s[i]).toNat : Int)] w fun e w' => e = .returned (.bool false) ∧ w' = w) from fun w => by have := rletter_any w s[i]; rw [hb] at this; exact this
  have KD := show Hid (∀ w : World, Calls Tryz.prog 119 #[.int .u8 ((s[i]).toNat : Int)] w fun e w' => e = .returned (.bool true) ∧ w' = w) from fun w => by have := rdigit_any w s[i]; rw [hd] at this; exact this
  have KN := show Hid (∀ w : World, Calls Tryz.prog 120 #[.string s, .int .i64 (i : Int)] w fun e w' => IsOne i (Tk.cutNum (s.data.toList.drop i)) e ∧ Below w.heap.size w w') from fun w => rnum_any w s i hs hi
  generalize Tk.cutNum (s.data.toList.drop i) = ans at *
  have HZ : Hid (T6 (w.alloc tok0) w.heap.size (.int .i64 0) (.string ⟨#[]⟩) (.int .i64 0) (.int .i64 0) (.int .i64 0) (.int .i64 0)) := heap_alloc_new _ _
  clear hb hd
  go_enter Tryz.func93, Tryz.ntmps93
  go_wp2_with fail
  refine (KL.out _).mono ?_
  rintro e w0 ⟨rfl, rfl⟩
  go_wp2_with fail
  refine (KD.out _).mono ?_
  rintro e w0 ⟨rfl, rfl⟩
  go_wp2_with fail
  refine (KN.out (w.alloc tok0)).mono ?_
  rintro e w1 ⟨⟨k, rfl, hk⟩, hb1⟩
  have HB := show Hid (Below w.heap.size w w1) from (below_alloc _ _).trans (hb1.mono (by simp))
  have HR := show Hid (T6 w1 w.heap.size (.int .i64 0) (.string ⟨#[]⟩) (.int .i64 0) (.int .i64 0) (.int .i64 0) (.int .i64 0)) from (hb1.block _ (by simp)).trans HZ.out
  have HK := show Hid (ans.2.2 = 0 → k = i + ans.2.1) from hk
  have hc0 := HR.out.c0; have hc1 := HR.out.c1; have hc2 := HR.out.c2; have hc3 := HR.out.c3; have hc4 := HR.out.c4; have hc5 := HR.out.c5; have hcf := HR.out.fr
  clear hb1 KN KL KD hk
  obtain ⟨⟨tk, tt, ti⟩, tn, te⟩ := ans
  unfold tokV
  go_wp2_with fail
  have hfin := HR.out.s6 (.int .i64 tk) (.string ⟨tt.toArray⟩) (.int .i64 ti) (.int .i64 0) (.int .i64 0) (.int .i64 0)
  unfold set6 at hfin
  refine bodyPost_ret (results_cell2_row rfl _ _ w.heap.size _ _ _ _ rfl hfin Tryz.underlying45 rfl (by kernel_rfl)) rfl ?_
  exact ⟨⟨k, rfl, HK.out⟩, below_set6 HB.out (Nat.le_refl _) _ _ _ _ _ _⟩
set_option maxRecDepth 100000 in
set_option maxHeartbeats 4000000 in
theorem rone_name (w : World) (s : ByteArray) (i : Nat) (hs : s.size ≤ 140737488355328) (hi : i < s.size) (hb : Tk.isBeg s[i] = true) :
    Calls Tryz.prog 93 #[.string s, .int .i64 (i : Int)] w fun e w' => IsOne i (Tk.cutName (s.data.toList.drop i)) e ∧ Below w.heap.size w w' := by
  have HSL := show Hid (s.data.toList.length = s.size) from rfl
  have KL := show Hid (∀ w : World, Calls Tryz.prog 117 #[.int .u8 ((s[i]).toNat : Int)] w fun e w' => e = .returned (.bool true) ∧ w' = w) from fun w => by have := rletter_any w s[i]; rw [hb] at this; exact this
  have KW := show Hid (∀ (w : World) (c : UInt8), Calls Tryz.prog 118 #[.int .u8 (c.toNat : Int)] w fun e w' => e = .returned (.bool (Tk.isIn c)) ∧ w' = w) from rwithin_any
  obtain ⟨n, hn⟩ : ∃ n, n = Tk.run Tk.isIn (s.data.toList.drop i) := ⟨_, rfl⟩
  have HNL := show Hid (i + n ≤ s.size) from by
    have := Tk.run_le Tk.isIn (s.data.toList.drop i)
    rw [List.length_drop, HSL.out] at this
    show _ ≤ _
    omega
  have HX := show Hid (i + Tk.run Tk.isIn (s.data.toList.drop i) = i + n) from by rw [hn]; rfl
  have HA := show Hid (Tk.cutName (s.data.toList.drop i) = if 31 < n then Tk.bad 22 else ((1, (s.data.toList.drop i).take n, 0), n, 0)) from by rw [hn]; rfl
  clear hn hb
  generalize Tk.cutName (s.data.toList.drop i) = ans at *
  go_enter Tryz.func93, Tryz.ntmps93
  go_wp2_with fail
  refine (KL.out _).mono ?_
  rintro e w0 ⟨rfl, rfl⟩
  go_wp2_with fail
  go_loopw [7] (fun v wr => ∃ k : Nat, i ≤ k ∧ k ≤ s.size ∧ v = .int .i64 k ∧ Hid (k + Tk.run Tk.isIn (s.data.toList.drop k) = i + n) ∧ wr = w.alloc (Obj.cells #[.int .i64 0, .string ⟨#[]⟩, .int .i64 0, .int .i64 0, .int .i64 0, .int .i64 0] 45)) (fun v _ => s.size - (intOf v).toNat)
  case atStart => exact ⟨i, Nat.le_refl _, by omega, rfl, HX, rfl⟩
  case round =>
    obtain ⟨k, hik, hk, rfl, HK, rfl⟩ := hrel
    clear HX
    by_cases hlt : k < s.size
    · cases hin : Tk.isIn s[k] with
      | true =>
        have HK2 := show Hid (k + 1 + Tk.run Tk.isIn (s.data.toList.drop (k + 1)) = i + n) from by
          have := HK.out
          rw [run_drop_at _ s k hlt hin] at this
          show _ = _
          omega
        have HIN := show Hid (Tk.isIn s[k] = true) from hin
        clear HK hin
        go_wp2_with fail
        refine (KW.out _ s[k]).mono ?_
        rintro e w1 ⟨rfl, rfl⟩
        rw [HIN.out]
        go_wp2_with fail
        go_roundw
        case rel => exact ⟨k + 1, by omega, by omega, by go_num, HK2, trivial⟩
        case measure => simp [intOf]; omega
      | false =>
        have HKN := show Hid (k = i + n) from by
          have := HK.out
          rw [run_drop_not _ s k hlt hin] at this
          exact this
        have HIN := show Hid (Tk.isIn s[k] = false) from hin
        clear HK hin
        go_wp2_with fail
        refine (KW.out _ s[k]).mono ?_
        rintro e w1 ⟨rfl, rfl⟩
        rw [HIN.out]
        clear HIN
        by_cases h31 : 31 < n
        · have hA := HA.out
          rw [if_pos h31] at hA
          subst hA
          have q : decide (31 < (k : Int) - (i : Int)) = true := decide_eq_true (by have := HKN.out; omega)
          clear HA h31
          go_wp2_with fail
          refine bodyPost_ret (results_cell2_row rfl _ _ w.heap.size _ _ _ _ rfl (heap_alloc_new _ _) Tryz.underlying45 rfl (by kernel_rfl)) rfl ?_
          exact ⟨⟨k, rfl, fun h => absurd h (by decide)⟩, below_alloc _ _⟩
        · have hA := HA.out
          rw [if_neg h31] at hA
          subst hA
          have q : decide (31 < (k : Int) - (i : Int)) = false := decide_eq_false (by have := HKN.out; omega)
          have HT := show Hid (s.extract i k = ⟨((s.data.toList.drop i).take n).toArray⟩) from by
            rw [← bytes_mk (s.extract i k), HKN.out, ext_take]; rfl
          clear HA h31
          go_wp2_with fail
          refine bodyPost_ret (results_cell2_row rfl _ _ w.heap.size _ _ _ _ rfl (heap_alloc_new _ _) Tryz.underlying45 rfl (by kernel_rfl)) rfl ?_
          exact ⟨⟨k, by rw [HT.out]; rfl, fun _ => HKN.out⟩, below_alloc _ _⟩
    · have HKN := show Hid (k = i + n) from by
        have := HK.out
        rw [List.drop_eq_nil_of_le (by rw [HSL.out]; omega)] at this
        exact this
      clear HK
      by_cases h31 : 31 < n
      · have hA := HA.out
        rw [if_pos h31] at hA
        subst hA
        have q : decide (31 < (k : Int) - (i : Int)) = true := decide_eq_true (by have := HKN.out; omega)
        clear HA h31
        go_wp2_with fail
        refine bodyPost_ret (results_cell2_row rfl _ _ w.heap.size _ _ _ _ rfl (heap_alloc_new _ _) Tryz.underlying45 rfl (by kernel_rfl)) rfl ?_
        exact ⟨⟨k, rfl, fun h => absurd h (by decide)⟩, below_alloc _ _⟩
      · have hA := HA.out
        rw [if_neg h31] at hA
        subst hA
        have q : decide (31 < (k : Int) - (i : Int)) = false := decide_eq_false (by have := HKN.out; omega)
        have HT := show Hid (s.extract i k = ⟨((s.data.toList.drop i).take n).toArray⟩) from by
          rw [← bytes_mk (s.extract i k), HKN.out, ext_take]; rfl
        clear HA h31
        go_wp2_with fail
        refine bodyPost_ret (results_cell2_row rfl _ _ w.heap.size _ _ _ _ rfl (heap_alloc_new _ _) Tryz.underlying45 rfl (by kernel_rfl)) rfl ?_
        exact ⟨⟨k, by rw [HT.out]; rfl, fun _ => HKN.out⟩, below_alloc _ _⟩
theorem rone_any (w : World) (s : ByteArray) (i : Nat) (hs : s.size ≤ 140737488355328) (hi : i ≤ s.size) :
    Calls Tryz.prog 93 #[.string s, .int .i64 (i : Int)] w fun e w' => IsOne i (Tk.cut (s.data.toList.drop i)) e ∧ Below w.heap.size w w' := by
  by_cases h : i < s.size
  · have e := Tk.cut_spec s[i] (s.data.toList.drop (i + 1))
    rw [← drop_byte s i h] at e
    rw [e]
    cases hb : Tk.isBeg s[i] with
    | true => exact rone_name w s i hs h hb
    | false =>
      cases hd : Tk.isDig s[i] with
      | true => exact rone_num w s i hs h hb hd
      | false => exact rone_rest w s i hs h hb hd
  · rw [List.drop_eq_nil_of_le (by show s.size ≤ i; omega)]
    exact rone_end w s i hs (by omega)
end Go.Proofs.YtcidldgenogdkaaGreatDoor.Tw
