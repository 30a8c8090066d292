/-
  The document's weights, row by row. For every table of the document's that calls made.
-/
import Derived.Test.YthdcppkohalkmaaGreatRCnt
namespace Go.Proofs.YthdcppkohalkmaaGreat
open Go.RowKit Go.Maps
open Fm (Nd)

set_option maxRecDepth 100000 in
set_option maxHeartbeats 4000000 in
theorem rweights_any (w : World) {c : Nat} {u : Value} {t : List Nd} (hT : Tr w c u t) :
    Calls Tryz.prog 17 #[.pointer (some ⟨c, 0, none⟩)] w fun e w' => e = .returned (.slice (some ⟨w.heap.size, 0, none⟩) t.length t.length) ∧ Vs w' w.heap.size t.length (Ms.weightV t) ∧ Below w.heap.size w w' := by
  have hok := hT.ok
  have hlen := hok.len
  have hmk : ∀ w : World, (Instr.makeSlice 33 (.int .i64 (t.length : Int)) (.int .i64 (t.length : Int))).run Tryz.prog w = .ok (.slice (some ⟨w.heap.size, 0, none⟩) t.length t.length) (w.alloc (.cells (madeCells #[.int .i64 0] t.length) 3)) := fun w => by
    have h := run_make_row' (P := Tryz.prog) 33 3 (.int .i64 0) 8 Tryz.underlying33 info_int rfl .i64 .i64 t.length (by omega) (by omega) w
    exact h
  obtain ⟨p, cp, hv, hc1, hc2, hat⟩ := hT.row.isR
  have hc0 := hT.c0
  rw [hv] at hc0
  have HR := show Hid (∀ w', Below w.heap.size w w' → w'.cell? ⟨c, 0, none⟩ = some (.slice p t.length cp) ∧ ∀ k (hk : k < t.length), ∃ rg ro, p = some ⟨rg, ro, none⟩ ∧ At4 w' rg (ro + k * 4) t[k]) from fun w' hb => by
    have hT' := hT.later hb
    obtain ⟨p2, cp2, hv2, _, _, hat2⟩ := hT'.row.isR
    rw [hv] at hv2
    obtain ⟨rfl, _, rfl⟩ := Value.slice.inj hv2
    refine ⟨by rw [← hv]; exact hT'.c0, fun k hk => ?_⟩
    obtain ⟨rg, ro, hp, h4⟩ := hat2 (by omega)
    exact ⟨rg, ro, hp, h4 k hk⟩
  have HB0 := show Hid (Vs (w.alloc (.cells (madeCells #[.int .i64 0] t.length) 3)) w.heap.size t.length (fun _ => 0)) from vs_made w t.length
  have HBA := show Hid (Below w.heap.size w (w.alloc (.cells (madeCells #[.int .i64 0] t.length) 3))) from below_alloc w _
  have HV := show Hid (∀ k, k < t.length → Ms.weightV t k = if Fm.jn (Ms.row t k).k then Ms.weightG (Ms.row t k).k (Ms.weightV t (Ms.row t k).l.toNat) (Ms.weightV t (Ms.row t k).r.toNat) else 1) from fun k hk => by
    show Ms.weightV t k = _
    rw [(Ms.weight_ref hok hk).1, Ms.val_eq hok hk]
    split
    · rename_i hj
      have hp := Ms.parts_lt hok hk hj
      rw [(Ms.weight_ref hok (i := (Ms.row t k).l.toNat) (by omega)).1, (Ms.weight_ref hok (i := (Ms.row t k).r.toNat) (by omega)).1]
    · rfl
  have HIN := show Hid (∀ k, k < t.length → 0 ≤ Ms.weightV t k ∧ Ms.weightV t k ≤ 1099511627776) from fun k hk => by have := (Ms.weight_ref hok hk).2; unfold Ms.M at this; omega
  have HP := show Hid (∀ k, k < t.length → Fm.jn (Ms.row t k).k = true → (Ms.row t k).l.toNat < k ∧ (Ms.row t k).r.toNat < k ∧ 0 ≤ (Ms.row t k).l ∧ 0 ≤ (Ms.row t k).r) from fun k hk h => Ms.parts_lt hok hk h
  have HKD := show Hid (∀ k (hk : k < t.length), (Ms.row t k).k = 1 ∨ (Ms.row t k).k = 2 ∨ Fm.jn (Ms.row t k).k = true) from fun k hk => by rw [Ms.row_at hk]; exact Fm.ok_kind hok hk
  have HRW := show Hid (∀ k (hk : k < t.length), t[k] = Ms.row t k) from fun k hk => (Ms.row_at hk).symm
  generalize Ms.weightV t = vl at *
  clear hT hat hv hok
  go_enter Tryz.func17, Tryz.ntmps17
  go_wp2_with fail
  go_loopw [4] (fun iv wr => ∃ (k : Nat) (f : Nat → Int), k ≤ t.length ∧ iv = .int .i64 (k : Int) ∧ Hid (Vs wr w.heap.size t.length f ∧ (∀ j, j < k → f j = vl j) ∧ Below w.heap.size w wr)) (fun iv _ => t.length - (intOf iv).toNat)
  case atStart => exact ⟨0, fun _ => 0, by omega, rfl, HB0.out, fun j h => by omega, HBA.out⟩
  case round =>
    obtain ⟨k, f, hk, rfl, HI⟩ := hrel
    clear HB0 HBA hmk hc0
    by_cases hlt : k < t.length
    · have hki : (k : Int) < (t.length : Int) := by omega
      have b0 := HI.out.1.cell (j := k) hlt
      have bf := HI.out.1.fr
      obtain ⟨w2, hw2⟩ : ∃ w2, w2 = wr.setCell ⟨w.heap.size, k, none⟩ (.int .i64 1) := ⟨_, rfl⟩
      have HI2 := show Hid (Vs w2 w.heap.size t.length (updI f k 1) ∧ (∀ j, j < k → updI f k 1 j = vl j) ∧ Below w.heap.size w w2) from by
        rw [hw2]
        refine ⟨HI.out.1.set k 1, fun j hj => ?_, HI.out.2.2.setCell (Nat.le_refl _) _⟩
        unfold updI
        rw [if_neg (by omega)]
        exact HI.out.2.1 j hj
      obtain ⟨hc2', hrow⟩ := HR.out w2 HI2.out.2.2
      obtain ⟨rg, ro, rfl, hA⟩ := hrow k hlt
      rw [HRW.out k hlt] at hA
      have a0 := hA.c0; have a1 := hA.c1; have a2 := hA.c2; have a3 := hA.c3
      have KT := show Hid (∀ w : World, Calls Tryz.prog 43 #[.agg #[.int .i64 (Ms.row t k).k, .string (Ms.row t k).s, .int .i64 (Ms.row t k).l, .int .i64 (Ms.row t k).r]] w fun e w' => e = .returned (.bool (Fm.jn (Ms.row t k).k)) ∧ w' = w.alloc (Obj.cells #[.int .i64 (Ms.row t k).k, .string (Ms.row t k).s, .int .i64 (Ms.row t k).l, .int .i64 (Ms.row t k).r] 72)) from fun w => two_any w _ (HKD.out k hlt)
      have HV2 := show Hid _ from HV.out k hlt
      have HP2 := show Hid _ from HP.out k hlt
      have HRK := show Hid (∀ w', Below w.heap.size w w' → w'.cell? ⟨c, 0, none⟩ = some (.slice (some ⟨rg, ro, none⟩) t.length cp) ∧ At4 w' rg (ro + k * 4) (Ms.row t k)) from fun w' hb => by
        obtain ⟨h1, h2⟩ := HR.out w' hb
        obtain ⟨rg2, ro2, e2, h3⟩ := h2 k hlt
        cases e2
        rw [HRW.out k hlt] at h3
        exact ⟨h1, h3⟩
      clear HV HP HKD HRW hrow HR hA HI
      generalize Ms.row t k = nd at *
      obtain ⟨nk, ns, nl, nr⟩ := nd
      simp only at a0 a1 a2 a3 KT HV2 HP2
      rw [hw2] at hc2' a0 a1 a2 a3
      have HW2 := show Hid (w2 = wr.setCell ⟨w.heap.size, k, none⟩ (.int .i64 1)) from hw2
      clear hw2
      cases hjn : Fm.jn nk
      · rw [hjn] at KT
        have hv := HV2.out
        rw [hjn] at hv
        simp only [Bool.false_eq_true, if_false] at hv
        have HN := show Hid (Vs (w2.alloc (Obj.cells #[.int .i64 nk, .string ns, .int .i64 nl, .int .i64 nr] 72)) w.heap.size t.length (updI f k 1) ∧ (∀ j, j < k + 1 → updI f k 1 j = vl j) ∧ Below w.heap.size w (w2.alloc (Obj.cells #[.int .i64 nk, .string ns, .int .i64 nl, .int .i64 nr] 72))) from by
          refine ⟨(Below.heap_alloc _ _ _ HI2.out.1.lt).trans HI2.out.1, fun j hj => ?_, HI2.out.2.2.alloc HI2.out.2.2.size _⟩
          by_cases e : j = k
          · subst e; rw [hv]; unfold updI; rw [if_pos rfl]
          · exact HI2.out.2.1 j (by omega)
        clear HV2 HP2 HRK hv
        go_wp2_with fail
        rw [← HW2.out]
        refine (KT.out _).mono ?_
        rintro e w3 ⟨rfl, rfl⟩
        clear hc2' a0 a1 a2 a3 KT
        go_wp2_with fail
        go_roundw
        case rel => exact ⟨k + 1, _, by omega, by go_num, HN⟩
        case measure => first | (simp [intOf]; done) | (simp [intOf]; omega)
      · rw [hjn] at KT
        have hv := HV2.out
        rw [hjn] at hv
        simp only [if_true] at hv
        obtain ⟨hpl, hpr, hl0, hr0⟩ := HP2.out hjn
        obtain ⟨jl, rfl⟩ : ∃ jl : Nat, nl = jl := ⟨nl.toNat, by omega⟩
        obtain ⟨jr, rfl⟩ : ∃ jr : Nat, nr = jr := ⟨nr.toNat, by omega⟩
        simp only [Int.toNat_natCast] at hpl hpr hv
        have HVK := show Hid (vl k = if nk = 3 then Ms.sm (Ms.sm 1 (Ms.sm (vl jl) (vl jr))) 1 else Ms.sm 1 (Ms.sm (vl jl) (vl jr))) from hv
        have HSM := show Hid (0 ≤ Ms.sm (vl jl) (vl jr) ∧ Ms.sm (vl jl) (vl jr) ≤ 1099511627776) from by
          have h1 := HIN.out jl (by omega)
          have h2 := HIN.out jr (by omega)
          show 0 ≤ Ms.sm (vl jl) (vl jr) ∧ Ms.sm (vl jl) (vl jr) ≤ 1099511627776
          unfold Ms.sm Ms.M
          split <;> omega
        have HN := show Hid (Vs (w2.alloc (Obj.cells #[.int .i64 nk, .string ns, .int .i64 (jl : Int), .int .i64 (jr : Int)] 72)) w.heap.size t.length (updI f k 1) ∧ (∀ j, j < k → updI f k 1 j = vl j) ∧ Below w.heap.size w (w2.alloc (Obj.cells #[.int .i64 nk, .string ns, .int .i64 (jl : Int), .int .i64 (jr : Int)] 72))) from
          ⟨(Below.heap_alloc _ _ _ HI2.out.1.lt).trans HI2.out.1, HI2.out.2.1, HI2.out.2.2.alloc HI2.out.2.2.size _⟩
        have hjli : (jl : Int) < (t.length : Int) := by omega
        have hjri : (jr : Int) < (t.length : Int) := by omega
        have HSC := show Hid (∀ wx, ((∃ f, Vs wx w.heap.size t.length f ∧ ∀ j, j < k → f j = vl j) ∧ True ∧ Below w.heap.size w wx) → ∀ i, i < k → wx.cell? ⟨w.heap.size, i, none⟩ = some (.int .i64 (vl i))) from fun wx hx i hi => by
          obtain ⟨⟨f', h1, h2⟩, _⟩ := hx
          rw [← h2 i hi]
          exact h1.cell (by omega)
        clear HV2 HP2 hv
        go_wp2_with fail
        rw [← HW2.out]
        refine (KT.out _).mono ?_
        rintro e w3 ⟨rfl, rfl⟩
        clear hc2' a0 a1 a2 a3 KT HI2
        generalize w2.alloc (Obj.cells #[.int .i64 nk, .string ns, .int .i64 (jl : Int), .int .i64 (jr : Int)] 72) = w3 at *
        go_wp2_with fail
        refine wp_region_held_drew (S := fun wx => (∃ f, Vs wx w.heap.size t.length f ∧ ∀ j, j < k → f j = vl j) ∧ True ∧ Below w.heap.size w wx) (by kernel_rfl) ⟨⟨_, HN.out.1, HN.out.2.1⟩, trivial, HN.out.2.2.drew⟩ (fun hH => ?_)
        clear HN
        refine takeV 0 (some 28) (.slice (some ⟨w.heap.size, 0, none⟩) t.length t.length) rfl rfl (by kernel_rfl) (by kernel_rfl) (by kernel_rfl) (fun _ _ _ h => h) rfl (fun wx hx => by go_simp) hH ?_
        simp only [Act.put, List.setIfInBounds_toArray, List.set_cons_zero, List.set_cons_succ]
        refine takeV 1 (some 29) (.int .i64 (k : Int)) rfl rfl (by kernel_rfl) (by kernel_rfl) (by kernel_rfl) (fun _ _ _ h => h) rfl (fun wx hx => by go_simp) hH ?_
        simp only [Act.put, List.setIfInBounds_toArray, List.set_cons_zero, List.set_cons_succ]
        refine takeV 2 (some 30) (.slice (some ⟨w.heap.size, 0, none⟩) t.length t.length) rfl rfl (by kernel_rfl) (by kernel_rfl) (by kernel_rfl) (fun _ _ _ h => h) rfl (fun wx hx => by go_simp) hH ?_
        simp only [Act.put, List.setIfInBounds_toArray, List.set_cons_zero, List.set_cons_succ]
        refine takeV 3 (some 31) (.pointer (some ⟨c, 0, none⟩)) rfl rfl (by kernel_rfl) (by kernel_rfl) (by kernel_rfl) (fun _ _ _ h => h) rfl (fun wx hx => by go_simp) hH ?_
        simp only [Act.put, List.setIfInBounds_toArray, List.set_cons_zero, List.set_cons_succ]
        refine takeV 4 (some 32) (.pointer (some ⟨c, 0, none⟩)) rfl rfl (by kernel_rfl) (by kernel_rfl) (by kernel_rfl) (fun _ _ _ h => h) rfl (fun wx hx => by go_simp) hH ?_
        simp only [Act.put, List.setIfInBounds_toArray, List.set_cons_zero, List.set_cons_succ]
        refine takeV 5 (some 33) (.pointer (some ⟨c, 0, none⟩)) rfl rfl (by kernel_rfl) (by kernel_rfl) (by kernel_rfl) (fun _ _ _ h => h) rfl (fun wx hx => by go_simp) hH ?_
        simp only [Act.put, List.setIfInBounds_toArray, List.set_cons_zero, List.set_cons_succ]
        refine takeV 6 (some 34) (.slice (some ⟨rg, ro, none⟩) t.length cp) rfl rfl (by kernel_rfl) (by kernel_rfl) (by kernel_rfl) (fun _ _ _ h => h) rfl (fun wx hx => by have hcc := (HRK.out wx hx.2.2).1; go_simp) hH ?_
        simp only [Act.put, List.setIfInBounds_toArray, List.set_cons_zero, List.set_cons_succ]
        refine takeV 7 (some 35) (.int .i64 (k : Int)) rfl rfl (by kernel_rfl) (by kernel_rfl) (by kernel_rfl) (fun _ _ _ h => h) rfl (fun wx hx => by go_simp) hH ?_
        simp only [Act.put, List.setIfInBounds_toArray, List.set_cons_zero, List.set_cons_succ]
        refine takeV 8 (some 36) (.pointer (some ⟨rg, ro + k * 4, none⟩)) rfl rfl (by kernel_rfl) (by kernel_rfl) (by kernel_rfl) (fun _ _ _ h => h) rfl (fun wx hx => by go_simp) hH ?_
        simp only [Act.put, List.setIfInBounds_toArray, List.set_cons_zero, List.set_cons_succ]
        refine takeV 9 (some 37) (.pointer (some ⟨rg, ro + k * 4 + 2, none⟩)) rfl rfl (by kernel_rfl) (by kernel_rfl) (by kernel_rfl) (fun _ _ _ h => h) rfl (fun wx hx => by go_simp) hH ?_
        simp only [Act.put, List.setIfInBounds_toArray, List.set_cons_zero, List.set_cons_succ]
        refine takeV 10 (some 38) (.int .i64 (jl : Int)) rfl rfl (by kernel_rfl) (by kernel_rfl) (by kernel_rfl) (fun _ _ _ h => h) rfl (fun wx hx => by have hcc := (HRK.out wx hx.2.2).2.c2; go_simp) hH ?_
        simp only [Act.put, List.setIfInBounds_toArray, List.set_cons_zero, List.set_cons_succ]
        refine takeV 11 (some 39) (.pointer (some ⟨w.heap.size, jl, none⟩)) rfl rfl (by kernel_rfl) (by kernel_rfl) (by kernel_rfl) (fun _ _ _ h => h) rfl (fun wx hx => by go_simp) hH ?_
        simp only [Act.put, List.setIfInBounds_toArray, List.set_cons_zero, List.set_cons_succ]
        refine takeV 12 (some 40) (.int .i64 (vl jl)) rfl rfl (by kernel_rfl) (by kernel_rfl) (by kernel_rfl) (fun _ _ _ h => h) rfl (fun wx hx => by have hcc := HSC.out wx hx jl (by omega); go_simp) hH ?_
        simp only [Act.put, List.setIfInBounds_toArray, List.set_cons_zero, List.set_cons_succ]
        refine takeV 13 (some 41) (.slice (some ⟨w.heap.size, 0, none⟩) t.length t.length) rfl rfl (by kernel_rfl) (by kernel_rfl) (by kernel_rfl) (fun _ _ _ h => h) rfl (fun wx hx => by go_simp) hH ?_
        simp only [Act.put, List.setIfInBounds_toArray, List.set_cons_zero, List.set_cons_succ]
        refine takeV 14 (some 42) (.pointer (some ⟨c, 0, none⟩)) rfl rfl (by kernel_rfl) (by kernel_rfl) (by kernel_rfl) (fun _ _ _ h => h) rfl (fun wx hx => by go_simp) hH ?_
        simp only [Act.put, List.setIfInBounds_toArray, List.set_cons_zero, List.set_cons_succ]
        refine takeV 15 (some 43) (.pointer (some ⟨c, 0, none⟩)) rfl rfl (by kernel_rfl) (by kernel_rfl) (by kernel_rfl) (fun _ _ _ h => h) rfl (fun wx hx => by go_simp) hH ?_
        simp only [Act.put, List.setIfInBounds_toArray, List.set_cons_zero, List.set_cons_succ]
        refine takeV 16 (some 44) (.pointer (some ⟨c, 0, none⟩)) rfl rfl (by kernel_rfl) (by kernel_rfl) (by kernel_rfl) (fun _ _ _ h => h) rfl (fun wx hx => by go_simp) hH ?_
        simp only [Act.put, List.setIfInBounds_toArray, List.set_cons_zero, List.set_cons_succ]
        refine takeV 17 (some 45) (.slice (some ⟨rg, ro, none⟩) t.length cp) rfl rfl (by kernel_rfl) (by kernel_rfl) (by kernel_rfl) (fun _ _ _ h => h) rfl (fun wx hx => by have hcc := (HRK.out wx hx.2.2).1; go_simp) hH ?_
        simp only [Act.put, List.setIfInBounds_toArray, List.set_cons_zero, List.set_cons_succ]
        refine takeV 18 (some 46) (.int .i64 (k : Int)) rfl rfl (by kernel_rfl) (by kernel_rfl) (by kernel_rfl) (fun _ _ _ h => h) rfl (fun wx hx => by go_simp) hH ?_
        simp only [Act.put, List.setIfInBounds_toArray, List.set_cons_zero, List.set_cons_succ]
        refine takeV 19 (some 47) (.pointer (some ⟨rg, ro + k * 4, none⟩)) rfl rfl (by kernel_rfl) (by kernel_rfl) (by kernel_rfl) (fun _ _ _ h => h) rfl (fun wx hx => by go_simp) hH ?_
        simp only [Act.put, List.setIfInBounds_toArray, List.set_cons_zero, List.set_cons_succ]
        refine takeV 20 (some 48) (.pointer (some ⟨rg, ro + k * 4 + 3, none⟩)) rfl rfl (by kernel_rfl) (by kernel_rfl) (by kernel_rfl) (fun _ _ _ h => h) rfl (fun wx hx => by go_simp) hH ?_
        simp only [Act.put, List.setIfInBounds_toArray, List.set_cons_zero, List.set_cons_succ]
        refine takeV 21 (some 49) (.int .i64 (jr : Int)) rfl rfl (by kernel_rfl) (by kernel_rfl) (by kernel_rfl) (fun _ _ _ h => h) rfl (fun wx hx => by have hcc := (HRK.out wx hx.2.2).2.c3; go_simp) hH ?_
        simp only [Act.put, List.setIfInBounds_toArray, List.set_cons_zero, List.set_cons_succ]
        refine takeV 22 (some 50) (.pointer (some ⟨w.heap.size, jr, none⟩)) rfl rfl (by kernel_rfl) (by kernel_rfl) (by kernel_rfl) (fun _ _ _ h => h) rfl (fun wx hx => by go_simp) hH ?_
        simp only [Act.put, List.setIfInBounds_toArray, List.set_cons_zero, List.set_cons_succ]
        refine takeV 23 (some 51) (.int .i64 (vl jr)) rfl rfl (by kernel_rfl) (by kernel_rfl) (by kernel_rfl) (fun _ _ _ h => h) rfl (fun wx hx => by have hcc := HSC.out wx hx jr (by omega); go_simp) hH ?_
        simp only [Act.put, List.setIfInBounds_toArray, List.set_cons_zero, List.set_cons_succ]
        refine oneH 24 (by kernel_rfl) rfl (stepC 24 (some 52) rfl rfl 44 _ _ rfl [.int .i64 (vl jl), .int .i64 (vl jr)] rfl (fun _ _ => Tryz.call44 _ _) ?_)
        refine (rsum_any _ _ _ (HIN.out jl (by omega)) (HIN.out jr (by omega))).mono ?_
        rintro e w' ⟨rfl, hw'⟩
        subst w'
        refine ⟨_, rfl, hH, fun _ => ?_⟩
        simp only [Act.put, List.setIfInBounds_toArray, List.set_cons_zero, List.set_cons_succ]
        refine oneH 25 (by kernel_rfl) rfl (stepC 25 (some 53) rfl rfl 44 _ _ rfl [.int .i64 1, .int .i64 (Ms.sm (vl jl) (vl jr))] rfl (fun _ _ => Tryz.call44 _ _) ?_)
        refine (rsum_any _ _ _ (by omega) HSM.out).mono ?_
        rintro e w' ⟨rfl, hw'⟩
        subst w'
        refine ⟨_, rfl, hH, fun _ => ?_⟩
        simp only [Act.put, List.setIfInBounds_toArray, List.set_cons_zero, List.set_cons_succ]
        refine takeV 26 (some 54) (.pointer (some ⟨w.heap.size, k, none⟩)) rfl rfl (by kernel_rfl) (by kernel_rfl) (by kernel_rfl) (fun _ _ _ h => h) rfl (fun wx hx => by go_simp) hH ?_
        simp only [Act.put, List.setIfInBounds_toArray, List.set_cons_zero, List.set_cons_succ]
        obtain ⟨⟨f2, hV2, hf2⟩, hbx⟩ := hH
        have d0 := hV2.cell (j := k) hlt; have df := hV2.fr
        refine oneH 27 (by kernel_rfl) rfl (stepU 27 _ rfl rfl (by go_simp) ⟨⟨_, hV2.set k (Ms.sm 1 (Ms.sm (vl jl) (vl jr))), fun j hj => by unfold updI; rw [if_neg (by omega)]; exact hf2 j hj⟩, trivial, hbx.2.setCell (Nat.le_refl _) _⟩ (fun hF => ?_))
        refine wpAnyH_done (by kernel_rfl) ?_ _
        have HN := show Hid (Vs _ w.heap.size t.length (updI f2 k (Ms.sm 1 (Ms.sm (vl jl) (vl jr)))) ∧ (∀ j, j < k → updI f2 k (Ms.sm 1 (Ms.sm (vl jl) (vl jr))) j = vl j) ∧ Below w.heap.size w _) from ⟨hV2.set k _, fun j hj => by unfold updI; rw [if_neg (by omega)]; exact hf2 j hj, hF.2.2⟩
        have HX := show Hid (updI f2 k (Ms.sm 1 (Ms.sm (vl jl) (vl jr))) k = Ms.sm 1 (Ms.sm (vl jl) (vl jr)) ∧ 0 ≤ Ms.sm 1 (Ms.sm (vl jl) (vl jr)) ∧ Ms.sm 1 (Ms.sm (vl jl) (vl jr)) ≤ 1099511627776) from by
          refine ⟨if_pos rfl, ?_⟩
          have h := HSM.out
          generalize Ms.sm (vl jl) (vl jr) = q at *
          unfold Ms.sm Ms.M
          split <;> omega
        generalize updI f2 k (Ms.sm 1 (Ms.sm (vl jl) (vl jr))) = f3 at *
        generalize World.setCell _ _ (.int .i64 (Ms.sm 1 (Ms.sm (vl jl) (vl jr)))) = wf at *
        generalize Ms.sm 1 (Ms.sm (vl jl) (vl jr)) = xv at *
        obtain ⟨hcT, hA⟩ := HRK.out wf HN.out.2.2
        have a0 := hA.c0; have a1 := hA.c1; have a2 := hA.c2; have a3 := hA.c3
        simp only at a0 a1 a2 a3
        clear d0 df hV2 hf2 hbx hF HRK hA HSC
        by_cases h3 : nk = 3
        · subst h3
          have hv := HVK.out
          rw [if_pos rfl] at hv
          have e0 := HN.out.1.cell (j := k) hlt
          rw [HX.out.1] at e0
          have ef := HN.out.1.fr
          have KS := show Hid (Calls Tryz.prog 44 #[.int .i64 xv, .int .i64 1] wf fun e w' => e = .returned (.int .i64 (Ms.sm xv 1)) ∧ w' = wf) from rsum_any wf xv 1 HX.out.2 (by omega)
          have HN2 := show Hid (Vs (wf.setCell ⟨w.heap.size, k, none⟩ (.int .i64 (Ms.sm xv 1))) w.heap.size t.length (updI f3 k (Ms.sm xv 1)) ∧ (∀ j, j < k + 1 → updI f3 k (Ms.sm xv 1) j = vl j) ∧ Below w.heap.size w (wf.setCell ⟨w.heap.size, k, none⟩ (.int .i64 (Ms.sm xv 1)))) from by
            refine ⟨HN.out.1.set k _, fun j hj => ?_, HN.out.2.2.setCell (Nat.le_refl _) _⟩
            unfold updI
            split
            · rename_i e; subst e; exact hv.symm
            · exact HN.out.2.1 j (by omega)
          clear HVK hv HN HX HSM HIN
          generalize Ms.sm xv 1 = yv at *
          go_wp2_with fail
          refine KS.out.mono ?_
          rintro e w5 ⟨rfl, hw5⟩
          subst w5
          clear KS hcT a0 a1 a2 a3
          go_wp2_with fail
          go_roundw
          case rel => exact ⟨k + 1, _, by omega, by go_num, HN2⟩
          case measure => first | (simp [intOf]; done) | (simp [intOf]; omega)
        · have h3b : (nk == 3) = false := by simpa using h3
          have hv := HVK.out
          rw [if_neg h3] at hv
          have HN2 := show Hid (Vs wf w.heap.size t.length f3 ∧ (∀ j, j < k + 1 → f3 j = vl j) ∧ Below w.heap.size w wf) from by
            refine ⟨HN.out.1, fun j hj => ?_, HN.out.2.2⟩
            by_cases e : j = k
            · subst e; rw [HX.out.1, hv]
            · exact HN.out.2.1 j (by omega)
          clear HVK hv HN HX HSM HIN
          go_wp2_with fail
          go_roundw
          case rel => exact ⟨k + 1, _, by omega, by go_num, HN2⟩
          case measure => first | (simp [intOf]; done) | (simp [intOf]; omega)
    · have hke : k = t.length := by omega
      subst hke
      clear HR HV HIN HP HKD HRW
      have HE := show Hid (Vs wr w.heap.size t.length vl ∧ Below w.heap.size w wr) from by
        refine ⟨?_, HI.out.2.2⟩
        have h := HI.out.1
        unfold Vs at h ⊢
        rw [h]
        congr 2
        apply Array.ext'
        simp only [List.map_inj_left]
        intro j hj
        rw [HI.out.2.1 j (by simpa using hj)]
      clear HI
      go_wp2_with fail
      go_ret
      exact ⟨rfl, HE.out⟩
end Go.Proofs.YthdcppkohalkmaaGreat
