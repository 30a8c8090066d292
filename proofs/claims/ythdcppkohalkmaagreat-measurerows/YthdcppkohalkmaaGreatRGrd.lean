/-
  The document's grades, row by row. For every table of the document's that calls made.
-/
import Derived.Test.YthdcppkohalkmaaGreatRCnt
namespace Go.Proofs.YthdcppkohalkmaaGreat
open Go.RowKit Go.Maps
open Fm (Nd)

set_option maxRecDepth 100000 in
set_option maxHeartbeats 4000000 in
theorem rgrades_any (w : World) {c : Nat} {u : Value} {t : List Nd} (hT : Tr w c u t) :
    Calls Tryz.prog 18 #[.pointer (some ⟨c, 0, none⟩)] w fun e w' => e = .returned (.slice (some ⟨w.heap.size, 0, none⟩) t.length t.length) ∧ Vs w' w.heap.size t.length (Ms.gradeV t) ∧ Below w.heap.size w w' := by
  have hok := hT.ok
  have hlen := hok.len
  have hmk : ∀ w : World, (Instr.makeSlice 33 (.int .i64 (t.length : Int)) (.int .i64 (t.length : Int))).run Tryz.prog w = .ok (.slice (some ⟨w.heap.size, 0, none⟩) t.length t.length) (w.alloc (.cells (madeCells #[.int .i64 0] t.length) 3)) := fun w => by
    have h := run_make_row' (P := Tryz.prog) 33 3 (.int .i64 0) 8 Tryz.underlying33 info_int rfl .i64 .i64 t.length (by omega) (by omega) w
    exact h
  obtain ⟨p, cp, hv, hc1, hc2, hat⟩ := hT.row.isR
  have hc0 := hT.c0
  rw [hv] at hc0
  have HR := show Hid (∀ w', Below w.heap.size w w' → w'.cell? ⟨c, 0, none⟩ = some (.slice p t.length cp) ∧ ∀ k (hk : k < t.length), ∃ rg ro, p = some ⟨rg, ro, none⟩ ∧ At4 w' rg (ro + k * 4) t[k]) from fun w' hb => by
    have hT' := hT.later hb
    obtain ⟨p2, cp2, hv2, _, _, hat2⟩ := hT'.row.isR
    rw [hv] at hv2
    obtain ⟨rfl, _, rfl⟩ := Value.slice.inj hv2
    refine ⟨by rw [← hv]; exact hT'.c0, fun k hk => ?_⟩
    obtain ⟨rg, ro, hp, h4⟩ := hat2 (by omega)
    exact ⟨rg, ro, hp, h4 k hk⟩
  have HB0 := show Hid (Vs (w.alloc (.cells (madeCells #[.int .i64 0] t.length) 3)) w.heap.size t.length (fun _ => 0)) from vs_made w t.length
  have HBA := show Hid (Below w.heap.size w (w.alloc (.cells (madeCells #[.int .i64 0] t.length) 3))) from below_alloc w _
  have HV := show Hid (∀ k, k < t.length → Ms.gradeV t k = if Fm.jn (Ms.row t k).k then Ms.gradeG (Ms.row t k).k (Ms.gradeV t (Ms.row t k).l.toNat) (Ms.gradeV t (Ms.row t k).r.toNat) else 0) from fun k hk => by
    show Ms.gradeV t k = _
    rw [(Ms.grade_le hok hk).1, Ms.val_eq hok hk]
    split
    · rename_i hj
      have hp := Ms.parts_lt hok hk hj
      rw [(Ms.grade_le hok (i := (Ms.row t k).l.toNat) (by omega)).1, (Ms.grade_le hok (i := (Ms.row t k).r.toNat) (by omega)).1]
    · rfl
  have HIN := show Hid (∀ k, k < t.length → 0 ≤ Ms.gradeV t k ∧ Ms.gradeV t k ≤ 1099511627776) from fun k hk => by have := (Ms.grade_le hok hk).2; omega
  have HP := show Hid (∀ k, k < t.length → Fm.jn (Ms.row t k).k = true → (Ms.row t k).l.toNat < k ∧ (Ms.row t k).r.toNat < k ∧ 0 ≤ (Ms.row t k).l ∧ 0 ≤ (Ms.row t k).r) from fun k hk h => Ms.parts_lt hok hk h
  have HKD := show Hid (∀ k (hk : k < t.length), (Ms.row t k).k = 1 ∨ (Ms.row t k).k = 2 ∨ Fm.jn (Ms.row t k).k = true) from fun k hk => by rw [Ms.row_at hk]; exact Fm.ok_kind hok hk
  have HRW := show Hid (∀ k (hk : k < t.length), t[k] = Ms.row t k) from fun k hk => (Ms.row_at hk).symm
  generalize Ms.gradeV t = vl at *
  clear hT hat hv hok
  go_enter Tryz.func18, Tryz.ntmps18
  go_wp2_with fail
  go_loopw [4] (fun iv wr => ∃ (k : Nat) (f : Nat → Int), k ≤ t.length ∧ iv = .int .i64 (k : Int) ∧ Hid (Vs wr w.heap.size t.length f ∧ (∀ j, j < k → f j = vl j) ∧ (∀ j, k ≤ j → f j = 0) ∧ Below w.heap.size w wr)) (fun iv _ => t.length - (intOf iv).toNat)
  case atStart => exact ⟨0, fun _ => 0, by omega, rfl, HB0.out, fun j h => by omega, fun _ _ => rfl, HBA.out⟩
  case round =>
    obtain ⟨k, f, hk, rfl, HI⟩ := hrel
    clear HB0 HBA hmk hc0
    by_cases hlt : k < t.length
    · have hki : (k : Int) < (t.length : Int) := by omega
      obtain ⟨hc2', hrow⟩ := HR.out wr HI.out.2.2.2
      obtain ⟨rg, ro, rfl, hA⟩ := hrow k hlt
      rw [HRW.out k hlt] at hA
      have a0 := hA.c0; have a1 := hA.c1; have a2 := hA.c2; have a3 := hA.c3
      have KT := show Hid (∀ w : World, Calls Tryz.prog 43 #[.agg #[.int .i64 (Ms.row t k).k, .string (Ms.row t k).s, .int .i64 (Ms.row t k).l, .int .i64 (Ms.row t k).r]] w fun e w' => e = .returned (.bool (Fm.jn (Ms.row t k).k)) ∧ w' = w.alloc (Obj.cells #[.int .i64 (Ms.row t k).k, .string (Ms.row t k).s, .int .i64 (Ms.row t k).l, .int .i64 (Ms.row t k).r] 72)) from fun w => two_any w _ (HKD.out k hlt)
      have HV2 := show Hid _ from HV.out k hlt
      have HP2 := show Hid _ from HP.out k hlt
      have HRK := show Hid (∀ w', Below w.heap.size w w' → w'.cell? ⟨c, 0, none⟩ = some (.slice (some ⟨rg, ro, none⟩) t.length cp) ∧ At4 w' rg (ro + k * 4) (Ms.row t k)) from fun w' hb => by
        obtain ⟨h1, h2⟩ := HR.out w' hb
        obtain ⟨rg2, ro2, e2, h3⟩ := h2 k hlt
        cases e2
        rw [HRW.out k hlt] at h3
        exact ⟨h1, h3⟩
      clear HV HP HKD HRW hrow HR hA
      generalize Ms.row t k = nd at *
      obtain ⟨nk, ns, nl, nr⟩ := nd
      simp only at a0 a1 a2 a3 KT HV2 HP2
      cases hjn : Fm.jn nk
      · rw [hjn] at KT
        have hv := HV2.out
        rw [hjn] at hv
        simp only [Bool.false_eq_true, if_false] at hv
        have HN := show Hid (Vs ((wr.alloc (Obj.cells #[.int .i64 nk, .string ns, .int .i64 nl, .int .i64 nr] 72)).alloc (Obj.cells #[.int .i64 nk, .string ns, .int .i64 nl, .int .i64 nr] 72)) w.heap.size t.length f ∧ (∀ j, j < k + 1 → f j = vl j) ∧ (∀ j, k + 1 ≤ j → f j = 0) ∧ Below w.heap.size w ((wr.alloc (Obj.cells #[.int .i64 nk, .string ns, .int .i64 nl, .int .i64 nr] 72)).alloc (Obj.cells #[.int .i64 nk, .string ns, .int .i64 nl, .int .i64 nr] 72))) from by
          refine ⟨(Below.heap_alloc _ _ _ (by have := HI.out.1.lt; simp; omega)).trans ((Below.heap_alloc _ _ _ HI.out.1.lt).trans HI.out.1), fun j hj => ?_, fun j hj => HI.out.2.2.1 j (by omega), (HI.out.2.2.2.alloc HI.out.2.2.2.size _).alloc (HI.out.2.2.2.alloc HI.out.2.2.2.size _).size _⟩
          by_cases e : j = k
          · subst e; rw [hv]; exact HI.out.2.2.1 j (Nat.le_refl _)
          · exact HI.out.2.1 j (by omega)
        clear HV2 HP2 HRK hv
        go_wp2_with fail
        refine (KT.out _).mono ?_
        rintro e w3 ⟨rfl, rfl⟩
        clear hc2' a0 a1 a2 a3 KT
        go_wp2_with fail
        go_roundw
        case rel => exact ⟨k + 1, _, by omega, by go_num, HN⟩
        case measure => first | (simp [intOf]; done) | (simp [intOf]; omega)
      · rw [hjn] at KT
        have hv := HV2.out
        rw [hjn] at hv
        simp only [if_true] at hv
        obtain ⟨hpl, hpr, hl0, hr0⟩ := HP2.out hjn
        obtain ⟨jl, rfl⟩ : ∃ jl : Nat, nl = jl := ⟨nl.toNat, by omega⟩
        obtain ⟨jr, rfl⟩ : ∃ jr : Nat, nr = jr := ⟨nr.toNat, by omega⟩
        simp only [Int.toNat_natCast] at hpl hpr hv
        have HN0 := show Hid (Vs ((wr.alloc (Obj.cells #[.int .i64 nk, .string ns, .int .i64 (jl : Int), .int .i64 (jr : Int)] 72)).alloc (Obj.cells #[.int .i64 nk, .string ns, .int .i64 (jl : Int), .int .i64 (jr : Int)] 72)) w.heap.size t.length f ∧ (∀ j, j < k → f j = vl j) ∧ (∀ j, k ≤ j → f j = 0) ∧ Below w.heap.size w ((wr.alloc (Obj.cells #[.int .i64 nk, .string ns, .int .i64 (jl : Int), .int .i64 (jr : Int)] 72)).alloc (Obj.cells #[.int .i64 nk, .string ns, .int .i64 (jl : Int), .int .i64 (jr : Int)] 72)) ∧ N4 ((wr.alloc (Obj.cells #[.int .i64 nk, .string ns, .int .i64 (jl : Int), .int .i64 (jr : Int)] 72)).alloc (Obj.cells #[.int .i64 nk, .string ns, .int .i64 (jl : Int), .int .i64 (jr : Int)] 72)) wr.heap.size ⟨nk, ns, jl, jr⟩ ∧ w.heap.size < wr.heap.size) from
          ⟨(Below.heap_alloc _ _ _ (by have := HI.out.1.lt; simp; omega)).trans ((Below.heap_alloc _ _ _ HI.out.1.lt).trans HI.out.1), HI.out.2.1, HI.out.2.2.1, (HI.out.2.2.2.alloc HI.out.2.2.2.size _).alloc (HI.out.2.2.2.alloc HI.out.2.2.2.size _).size _, (Below.heap_alloc _ _ _ (by simp)).trans (heap_alloc_new _ _), HI.out.1.lt⟩
        have hjli : (jl : Int) < (t.length : Int) := by omega
        have hjri : (jr : Int) < (t.length : Int) := by omega
        have hml := HIN.out jl (by omega)
        have hmr := HIN.out jr (by omega)
        have HSC := show Hid (∀ wx, ((∃ f, Vs wx w.heap.size t.length f ∧ (∀ j, j < k → f j = vl j) ∧ ∀ j, k + 1 ≤ j → f j = 0) ∧ N4 wx wr.heap.size ⟨nk, ns, jl, jr⟩ ∧ Below w.heap.size w wx) → ∀ i, i < k → wx.cell? ⟨w.heap.size, i, none⟩ = some (.int .i64 (vl i))) from fun wx hx i hi => by
          obtain ⟨⟨f', h1, h2, _⟩, _⟩ := hx
          rw [← h2 i hi]
          exact h1.cell (by omega)
        have HV3 := show Hid (vl k = if nk = 5 then max (1 + vl jl) (vl jr) else max (vl jl) (vl jr)) from hv
        clear HV2 HP2 hv HI
        go_wp2_with fail
        refine (KT.out _).mono ?_
        rintro e w3 ⟨rfl, rfl⟩
        clear hc2' a0 a1 a2 a3 KT
        generalize (wr.alloc (Obj.cells #[.int .i64 nk, .string ns, .int .i64 (jl : Int), .int .i64 (jr : Int)] 72)).alloc (Obj.cells #[.int .i64 nk, .string ns, .int .i64 (jl : Int), .int .i64 (jr : Int)] 72) = w3 at *
        have hRg := HN0.out.2.2.2.2.2
        generalize wr.heap.size = R at *
        go_wp2_with fail
        refine wp_region_held_drew (S := fun wx => (∃ f, Vs wx w.heap.size t.length f ∧ (∀ j, j < k → f j = vl j) ∧ ∀ j, k + 1 ≤ j → f j = 0) ∧ N4 wx R ⟨nk, ns, jl, jr⟩ ∧ Below w.heap.size w wx) (by kernel_rfl) ⟨⟨_, HN0.out.1, HN0.out.2.1, fun j hj => HN0.out.2.2.1 j (by omega)⟩, HN0.out.2.2.2.2.1, HN0.out.2.2.2.1.drew⟩ (fun hH => ?_)
        clear HN0
        by_cases hmx : vl jl < vl jr
        · refine takeV 0 (some 27) (.slice (some ⟨w.heap.size, 0, none⟩) t.length t.length) rfl rfl (by kernel_rfl) (by kernel_rfl) (by kernel_rfl) (fun _ _ _ h => h) rfl (fun wx hx => by go_simp) hH ?_
          simp only [Act.put, List.setIfInBounds_toArray, List.set_cons_zero, List.set_cons_succ]
          refine takeV 1 (some 28) (.int .i64 (k : Int)) rfl rfl (by kernel_rfl) (by kernel_rfl) (by kernel_rfl) (fun _ _ _ h => h) rfl (fun wx hx => by go_simp) hH ?_
          simp only [Act.put, List.setIfInBounds_toArray, List.set_cons_zero, List.set_cons_succ]
          refine takeV 2 (some 29) (.slice (some ⟨w.heap.size, 0, none⟩) t.length t.length) rfl rfl (by kernel_rfl) (by kernel_rfl) (by kernel_rfl) (fun _ _ _ h => h) rfl (fun wx hx => by go_simp) hH ?_
          simp only [Act.put, List.setIfInBounds_toArray, List.set_cons_zero, List.set_cons_succ]
          refine takeV 3 (some 30) (.pointer (some ⟨R, 2, none⟩)) rfl rfl (by kernel_rfl) (by kernel_rfl) (by kernel_rfl) (fun _ _ _ h => h) rfl (fun wx hx => by go_simp) hH ?_
          simp only [Act.put, List.setIfInBounds_toArray, List.set_cons_zero, List.set_cons_succ]
          refine takeV 4 (some 31) (.int .i64 (jl : Int)) rfl rfl (by kernel_rfl) (by kernel_rfl) (by kernel_rfl) (fun _ _ _ h => h) rfl (fun wx hx => by have hcc := hx.2.1.c2; go_simp) hH ?_
          simp only [Act.put, List.setIfInBounds_toArray, List.set_cons_zero, List.set_cons_succ]
          refine takeV 5 (some 32) (.pointer (some ⟨w.heap.size, jl, none⟩)) rfl rfl (by kernel_rfl) (by kernel_rfl) (by kernel_rfl) (fun _ _ _ h => h) rfl (fun wx hx => by go_simp) hH ?_
          simp only [Act.put, List.setIfInBounds_toArray, List.set_cons_zero, List.set_cons_succ]
          refine takeV 6 (some 33) (.int .i64 (vl jl)) rfl rfl (by kernel_rfl) (by kernel_rfl) (by kernel_rfl) (fun _ _ _ h => h) rfl (fun wx hx => by have hcc := HSC.out wx hx jl (by omega); go_simp) hH ?_
          simp only [Act.put, List.setIfInBounds_toArray, List.set_cons_zero, List.set_cons_succ]
          refine takeV 7 (some 34) (.slice (some ⟨w.heap.size, 0, none⟩) t.length t.length) rfl rfl (by kernel_rfl) (by kernel_rfl) (by kernel_rfl) (fun _ _ _ h => h) rfl (fun wx hx => by go_simp) hH ?_
          simp only [Act.put, List.setIfInBounds_toArray, List.set_cons_zero, List.set_cons_succ]
          refine takeV 8 (some 35) (.pointer (some ⟨R, 3, none⟩)) rfl rfl (by kernel_rfl) (by kernel_rfl) (by kernel_rfl) (fun _ _ _ h => h) rfl (fun wx hx => by go_simp) hH ?_
          simp only [Act.put, List.setIfInBounds_toArray, List.set_cons_zero, List.set_cons_succ]
          refine takeV 9 (some 36) (.int .i64 (jr : Int)) rfl rfl (by kernel_rfl) (by kernel_rfl) (by kernel_rfl) (fun _ _ _ h => h) rfl (fun wx hx => by have hcc := hx.2.1.c3; go_simp) hH ?_
          simp only [Act.put, List.setIfInBounds_toArray, List.set_cons_zero, List.set_cons_succ]
          refine takeV 10 (some 37) (.pointer (some ⟨w.heap.size, jr, none⟩)) rfl rfl (by kernel_rfl) (by kernel_rfl) (by kernel_rfl) (fun _ _ _ h => h) rfl (fun wx hx => by go_simp) hH ?_
          simp only [Act.put, List.setIfInBounds_toArray, List.set_cons_zero, List.set_cons_succ]
          refine takeV 11 (some 38) (.int .i64 (vl jr)) rfl rfl (by kernel_rfl) (by kernel_rfl) (by kernel_rfl) (fun _ _ _ h => h) rfl (fun wx hx => by have hcc := HSC.out wx hx jr (by omega); go_simp) hH ?_
          simp only [Act.put, List.setIfInBounds_toArray, List.set_cons_zero, List.set_cons_succ]
          refine oneH 12 (by kernel_rfl) rfl (stepW 12 (some 39) (.int .i64 (vl jr)) _ rfl rfl (by go_simp) hH (fun _ => ?_))
          simp only [Act.put, List.setIfInBounds_toArray, List.set_cons_zero, List.set_cons_succ]
          refine takeV 13 (some 40) (.pointer (some ⟨w.heap.size, k, none⟩)) rfl rfl (by kernel_rfl) (by kernel_rfl) (by kernel_rfl) (fun _ _ _ h => h) rfl (fun wx hx => by go_simp) hH ?_
          simp only [Act.put, List.setIfInBounds_toArray, List.set_cons_zero, List.set_cons_succ]
          obtain ⟨⟨f2, hV2, hf2, hz2⟩, hN2, hbx2⟩ := hH
          have d0 := hV2.cell (j := k) hlt; have df := hV2.fr
          have HS2 := show Hid ((∃ f, Vs (w3.drew.setCell ⟨w.heap.size, k, none⟩ (.int .i64 (vl jr))) w.heap.size t.length f ∧ (∀ j, j < k → f j = vl j) ∧ (∀ j, k + 1 ≤ j → f j = 0) ∧ f k = (vl jr)) ∧ N4 (w3.drew.setCell ⟨w.heap.size, k, none⟩ (.int .i64 (vl jr))) R ⟨nk, ns, jl, jr⟩ ∧ Below w.heap.size w (w3.drew.setCell ⟨w.heap.size, k, none⟩ (.int .i64 (vl jr)))) from ⟨⟨_, hV2.set k (vl jr), fun j hj => by unfold updI; rw [if_neg (by omega)]; exact hf2 j hj, fun j hj => by unfold updI; rw [if_neg (by omega)]; exact hz2 j hj, if_pos rfl⟩, (heap_setCell_other _ _ _ _ (by show R ≠ w.heap.size; omega)).trans hN2, hbx2.setCell (Nat.le_refl _) _⟩
          refine oneH 14 (by kernel_rfl) rfl (stepU 14 _ rfl rfl (by go_simp) ⟨HS2.out.1.elim fun f h => ⟨f, h.1, h.2.1, h.2.2.1⟩, HS2.out.2⟩ (fun _ => ?_))
          refine wpAnyH_done (by kernel_rfl) ?_ _
          generalize World.setCell _ _ (.int .i64 (vl jr)) = wf2 at *
          clear d0 df hV2 hf2 hz2 hbx2 hN2
          by_cases h5 : nk = 5
          · subst h5
            have k0 := HS2.out.2.1.c0
            simp only at k0
            have HV4 := show Hid (vl k = max (1 + vl jl) (vl jr)) from by rw [HV3.out, if_pos rfl]; rfl
            clear HV3
            go_wp2_with fail
            refine wp_region_held_drew (S := fun wx => (∃ f, Vs wx w.heap.size t.length f ∧ (∀ j, j < k → f j = vl j) ∧ ∀ j, k + 1 ≤ j → f j = 0) ∧ N4 wx R ⟨5, ns, jl, jr⟩ ∧ Below w.heap.size w wx) (by kernel_rfl) ⟨HS2.out.1.elim fun f h => ⟨f, h.1, h.2.1, h.2.2.1⟩, HS2.out.2.1, HS2.out.2.2.drew⟩ (fun hH => ?_)
            clear HS2 k0
            by_cases hmy : 1 + vl jl < vl jr
            · have hv6 : vl k = vl jr := by rw [HV4.out]; omega
              refine takeV 0 (some 44) (.slice (some ⟨w.heap.size, 0, none⟩) t.length t.length) rfl rfl (by kernel_rfl) (by kernel_rfl) (by kernel_rfl) (fun _ _ _ h => h) rfl (fun wx hx => by go_simp) hH ?_
              simp only [Act.put, List.setIfInBounds_toArray, List.set_cons_zero, List.set_cons_succ]
              refine takeV 1 (some 45) (.int .i64 (k : Int)) rfl rfl (by kernel_rfl) (by kernel_rfl) (by kernel_rfl) (fun _ _ _ h => h) rfl (fun wx hx => by go_simp) hH ?_
              simp only [Act.put, List.setIfInBounds_toArray, List.set_cons_zero, List.set_cons_succ]
              refine takeV 2 (some 46) (.slice (some ⟨w.heap.size, 0, none⟩) t.length t.length) rfl rfl (by kernel_rfl) (by kernel_rfl) (by kernel_rfl) (fun _ _ _ h => h) rfl (fun wx hx => by go_simp) hH ?_
              simp only [Act.put, List.setIfInBounds_toArray, List.set_cons_zero, List.set_cons_succ]
              refine takeV 3 (some 47) (.pointer (some ⟨R, 2, none⟩)) rfl rfl (by kernel_rfl) (by kernel_rfl) (by kernel_rfl) (fun _ _ _ h => h) rfl (fun wx hx => by go_simp) hH ?_
              simp only [Act.put, List.setIfInBounds_toArray, List.set_cons_zero, List.set_cons_succ]
              refine takeV 4 (some 48) (.int .i64 (jl : Int)) rfl rfl (by kernel_rfl) (by kernel_rfl) (by kernel_rfl) (fun _ _ _ h => h) rfl (fun wx hx => by have hcc := hx.2.1.c2; go_simp) hH ?_
              simp only [Act.put, List.setIfInBounds_toArray, List.set_cons_zero, List.set_cons_succ]
              refine takeV 5 (some 49) (.pointer (some ⟨w.heap.size, jl, none⟩)) rfl rfl (by kernel_rfl) (by kernel_rfl) (by kernel_rfl) (fun _ _ _ h => h) rfl (fun wx hx => by go_simp) hH ?_
              simp only [Act.put, List.setIfInBounds_toArray, List.set_cons_zero, List.set_cons_succ]
              refine takeV 6 (some 50) (.int .i64 (vl jl)) rfl rfl (by kernel_rfl) (by kernel_rfl) (by kernel_rfl) (fun _ _ _ h => h) rfl (fun wx hx => by have hcc := HSC.out wx hx jl (by omega); go_simp) hH ?_
              simp only [Act.put, List.setIfInBounds_toArray, List.set_cons_zero, List.set_cons_succ]
              refine takeV 7 (some 51) (.int .i64 (1 + vl jl)) rfl rfl (by kernel_rfl) (by kernel_rfl) (by kernel_rfl) (fun _ _ _ h => h) rfl (fun wx hx => by go_simp; rw [IntKind.wrap_i64]; omega) hH ?_
              simp only [Act.put, List.setIfInBounds_toArray, List.set_cons_zero, List.set_cons_succ]
              refine takeV 8 (some 52) (.slice (some ⟨w.heap.size, 0, none⟩) t.length t.length) rfl rfl (by kernel_rfl) (by kernel_rfl) (by kernel_rfl) (fun _ _ _ h => h) rfl (fun wx hx => by go_simp) hH ?_
              simp only [Act.put, List.setIfInBounds_toArray, List.set_cons_zero, List.set_cons_succ]
              refine takeV 9 (some 53) (.pointer (some ⟨R, 3, none⟩)) rfl rfl (by kernel_rfl) (by kernel_rfl) (by kernel_rfl) (fun _ _ _ h => h) rfl (fun wx hx => by go_simp) hH ?_
              simp only [Act.put, List.setIfInBounds_toArray, List.set_cons_zero, List.set_cons_succ]
              refine takeV 10 (some 54) (.int .i64 (jr : Int)) rfl rfl (by kernel_rfl) (by kernel_rfl) (by kernel_rfl) (fun _ _ _ h => h) rfl (fun wx hx => by have hcc := hx.2.1.c3; go_simp) hH ?_
              simp only [Act.put, List.setIfInBounds_toArray, List.set_cons_zero, List.set_cons_succ]
              refine takeV 11 (some 55) (.pointer (some ⟨w.heap.size, jr, none⟩)) rfl rfl (by kernel_rfl) (by kernel_rfl) (by kernel_rfl) (fun _ _ _ h => h) rfl (fun wx hx => by go_simp) hH ?_
              simp only [Act.put, List.setIfInBounds_toArray, List.set_cons_zero, List.set_cons_succ]
              refine takeV 12 (some 56) (.int .i64 (vl jr)) rfl rfl (by kernel_rfl) (by kernel_rfl) (by kernel_rfl) (fun _ _ _ h => h) rfl (fun wx hx => by have hcc := HSC.out wx hx jr (by omega); go_simp) hH ?_
              simp only [Act.put, List.setIfInBounds_toArray, List.set_cons_zero, List.set_cons_succ]
              refine oneH 13 (by kernel_rfl) rfl (stepW 13 (some 57) (.int .i64 (vl jr)) _ rfl rfl (by go_simp) hH (fun _ => ?_))
              simp only [Act.put, List.setIfInBounds_toArray, List.set_cons_zero, List.set_cons_succ]
              refine takeV 14 (some 58) (.pointer (some ⟨w.heap.size, k, none⟩)) rfl rfl (by kernel_rfl) (by kernel_rfl) (by kernel_rfl) (fun _ _ _ h => h) rfl (fun wx hx => by go_simp) hH ?_
              simp only [Act.put, List.setIfInBounds_toArray, List.set_cons_zero, List.set_cons_succ]
              obtain ⟨⟨f3, hV3, hf3, hz3⟩, hN3, hbx3⟩ := hH
              have d0 := hV3.cell (j := k) hlt; have df := hV3.fr
              have HS3 := show Hid ((∃ f, Vs (wf2.drew.setCell ⟨w.heap.size, k, none⟩ (.int .i64 (vl jr))) w.heap.size t.length f ∧ (∀ j, j < k → f j = vl j) ∧ (∀ j, k + 1 ≤ j → f j = 0) ∧ f k = (vl jr)) ∧ N4 (wf2.drew.setCell ⟨w.heap.size, k, none⟩ (.int .i64 (vl jr))) R ⟨5, ns, jl, jr⟩ ∧ Below w.heap.size w (wf2.drew.setCell ⟨w.heap.size, k, none⟩ (.int .i64 (vl jr)))) from ⟨⟨_, hV3.set k (vl jr), fun j hj => by unfold updI; rw [if_neg (by omega)]; exact hf3 j hj, fun j hj => by unfold updI; rw [if_neg (by omega)]; exact hz3 j hj, if_pos rfl⟩, (heap_setCell_other _ _ _ _ (by show R ≠ w.heap.size; omega)).trans hN3, hbx3.setCell (Nat.le_refl _) _⟩
              refine oneH 15 (by kernel_rfl) rfl (stepU 15 _ rfl rfl (by go_simp) ⟨HS3.out.1.elim fun f h => ⟨f, h.1, h.2.1, h.2.2.1⟩, HS3.out.2⟩ (fun _ => ?_))
              refine wpAnyH_done (by kernel_rfl) ?_ _
              generalize World.setCell _ _ (.int .i64 (vl jr)) = wf3 at *
              clear d0 df hV3 hf3 hz3 hbx3 hN3
              obtain ⟨⟨fz, hVz, hfz, hzz, hkz⟩, hNz, hbz⟩ := HS3.out
              have HNZ := show Hid (Vs wf3 w.heap.size t.length fz ∧ (∀ j, j < k + 1 → fz j = vl j) ∧ (∀ j, k + 1 ≤ j → fz j = 0) ∧ Below w.heap.size w wf3) from ⟨hVz, fun j hj => by by_cases e : j = k; (subst e; rw [hkz]; exact hv6.symm); exact hfz j (by omega), hzz, hbz⟩
              clear hVz hfz hzz hkz hNz hbz HS3
              go_wp2_with fail
              go_roundw
              case rel => exact ⟨k + 1, _, by omega, by go_num, HNZ.out⟩
              case measure => first | (simp [intOf]; done) | (simp [intOf]; omega)
            · have hv6 : vl k = 1 + vl jl := by rw [HV4.out]; omega
              refine takeV 0 (some 44) (.slice (some ⟨w.heap.size, 0, none⟩) t.length t.length) rfl rfl (by kernel_rfl) (by kernel_rfl) (by kernel_rfl) (fun _ _ _ h => h) rfl (fun wx hx => by go_simp) hH ?_
              simp only [Act.put, List.setIfInBounds_toArray, List.set_cons_zero, List.set_cons_succ]
              refine takeV 1 (some 45) (.int .i64 (k : Int)) rfl rfl (by kernel_rfl) (by kernel_rfl) (by kernel_rfl) (fun _ _ _ h => h) rfl (fun wx hx => by go_simp) hH ?_
              simp only [Act.put, List.setIfInBounds_toArray, List.set_cons_zero, List.set_cons_succ]
              refine takeV 2 (some 46) (.slice (some ⟨w.heap.size, 0, none⟩) t.length t.length) rfl rfl (by kernel_rfl) (by kernel_rfl) (by kernel_rfl) (fun _ _ _ h => h) rfl (fun wx hx => by go_simp) hH ?_
              simp only [Act.put, List.setIfInBounds_toArray, List.set_cons_zero, List.set_cons_succ]
              refine takeV 3 (some 47) (.pointer (some ⟨R, 2, none⟩)) rfl rfl (by kernel_rfl) (by kernel_rfl) (by kernel_rfl) (fun _ _ _ h => h) rfl (fun wx hx => by go_simp) hH ?_
              simp only [Act.put, List.setIfInBounds_toArray, List.set_cons_zero, List.set_cons_succ]
              refine takeV 4 (some 48) (.int .i64 (jl : Int)) rfl rfl (by kernel_rfl) (by kernel_rfl) (by kernel_rfl) (fun _ _ _ h => h) rfl (fun wx hx => by have hcc := hx.2.1.c2; go_simp) hH ?_
              simp only [Act.put, List.setIfInBounds_toArray, List.set_cons_zero, List.set_cons_succ]
              refine takeV 5 (some 49) (.pointer (some ⟨w.heap.size, jl, none⟩)) rfl rfl (by kernel_rfl) (by kernel_rfl) (by kernel_rfl) (fun _ _ _ h => h) rfl (fun wx hx => by go_simp) hH ?_
              simp only [Act.put, List.setIfInBounds_toArray, List.set_cons_zero, List.set_cons_succ]
              refine takeV 6 (some 50) (.int .i64 (vl jl)) rfl rfl (by kernel_rfl) (by kernel_rfl) (by kernel_rfl) (fun _ _ _ h => h) rfl (fun wx hx => by have hcc := HSC.out wx hx jl (by omega); go_simp) hH ?_
              simp only [Act.put, List.setIfInBounds_toArray, List.set_cons_zero, List.set_cons_succ]
              refine takeV 7 (some 51) (.int .i64 (1 + vl jl)) rfl rfl (by kernel_rfl) (by kernel_rfl) (by kernel_rfl) (fun _ _ _ h => h) rfl (fun wx hx => by go_simp; rw [IntKind.wrap_i64]; omega) hH ?_
              simp only [Act.put, List.setIfInBounds_toArray, List.set_cons_zero, List.set_cons_succ]
              refine takeV 8 (some 52) (.slice (some ⟨w.heap.size, 0, none⟩) t.length t.length) rfl rfl (by kernel_rfl) (by kernel_rfl) (by kernel_rfl) (fun _ _ _ h => h) rfl (fun wx hx => by go_simp) hH ?_
              simp only [Act.put, List.setIfInBounds_toArray, List.set_cons_zero, List.set_cons_succ]
              refine takeV 9 (some 53) (.pointer (some ⟨R, 3, none⟩)) rfl rfl (by kernel_rfl) (by kernel_rfl) (by kernel_rfl) (fun _ _ _ h => h) rfl (fun wx hx => by go_simp) hH ?_
              simp only [Act.put, List.setIfInBounds_toArray, List.set_cons_zero, List.set_cons_succ]
              refine takeV 10 (some 54) (.int .i64 (jr : Int)) rfl rfl (by kernel_rfl) (by kernel_rfl) (by kernel_rfl) (fun _ _ _ h => h) rfl (fun wx hx => by have hcc := hx.2.1.c3; go_simp) hH ?_
              simp only [Act.put, List.setIfInBounds_toArray, List.set_cons_zero, List.set_cons_succ]
              refine takeV 11 (some 55) (.pointer (some ⟨w.heap.size, jr, none⟩)) rfl rfl (by kernel_rfl) (by kernel_rfl) (by kernel_rfl) (fun _ _ _ h => h) rfl (fun wx hx => by go_simp) hH ?_
              simp only [Act.put, List.setIfInBounds_toArray, List.set_cons_zero, List.set_cons_succ]
              refine takeV 12 (some 56) (.int .i64 (vl jr)) rfl rfl (by kernel_rfl) (by kernel_rfl) (by kernel_rfl) (fun _ _ _ h => h) rfl (fun wx hx => by have hcc := HSC.out wx hx jr (by omega); go_simp) hH ?_
              simp only [Act.put, List.setIfInBounds_toArray, List.set_cons_zero, List.set_cons_succ]
              refine oneH 13 (by kernel_rfl) rfl (stepW 13 (some 57) (.int .i64 (1 + vl jl)) _ rfl rfl (by go_simp) hH (fun _ => ?_))
              simp only [Act.put, List.setIfInBounds_toArray, List.set_cons_zero, List.set_cons_succ]
              refine takeV 14 (some 58) (.pointer (some ⟨w.heap.size, k, none⟩)) rfl rfl (by kernel_rfl) (by kernel_rfl) (by kernel_rfl) (fun _ _ _ h => h) rfl (fun wx hx => by go_simp) hH ?_
              simp only [Act.put, List.setIfInBounds_toArray, List.set_cons_zero, List.set_cons_succ]
              obtain ⟨⟨f3, hV3, hf3, hz3⟩, hN3, hbx3⟩ := hH
              have d0 := hV3.cell (j := k) hlt; have df := hV3.fr
              have HS3 := show Hid ((∃ f, Vs (wf2.drew.setCell ⟨w.heap.size, k, none⟩ (.int .i64 (1 + vl jl))) w.heap.size t.length f ∧ (∀ j, j < k → f j = vl j) ∧ (∀ j, k + 1 ≤ j → f j = 0) ∧ f k = (1 + vl jl)) ∧ N4 (wf2.drew.setCell ⟨w.heap.size, k, none⟩ (.int .i64 (1 + vl jl))) R ⟨5, ns, jl, jr⟩ ∧ Below w.heap.size w (wf2.drew.setCell ⟨w.heap.size, k, none⟩ (.int .i64 (1 + vl jl)))) from ⟨⟨_, hV3.set k (1 + vl jl), fun j hj => by unfold updI; rw [if_neg (by omega)]; exact hf3 j hj, fun j hj => by unfold updI; rw [if_neg (by omega)]; exact hz3 j hj, if_pos rfl⟩, (heap_setCell_other _ _ _ _ (by show R ≠ w.heap.size; omega)).trans hN3, hbx3.setCell (Nat.le_refl _) _⟩
              refine oneH 15 (by kernel_rfl) rfl (stepU 15 _ rfl rfl (by go_simp) ⟨HS3.out.1.elim fun f h => ⟨f, h.1, h.2.1, h.2.2.1⟩, HS3.out.2⟩ (fun _ => ?_))
              refine wpAnyH_done (by kernel_rfl) ?_ _
              generalize World.setCell _ _ (.int .i64 (1 + vl jl)) = wf3 at *
              clear d0 df hV3 hf3 hz3 hbx3 hN3
              obtain ⟨⟨fz, hVz, hfz, hzz, hkz⟩, hNz, hbz⟩ := HS3.out
              have HNZ := show Hid (Vs wf3 w.heap.size t.length fz ∧ (∀ j, j < k + 1 → fz j = vl j) ∧ (∀ j, k + 1 ≤ j → fz j = 0) ∧ Below w.heap.size w wf3) from ⟨hVz, fun j hj => by by_cases e : j = k; (subst e; rw [hkz]; exact hv6.symm); exact hfz j (by omega), hzz, hbz⟩
              clear hVz hfz hzz hkz hNz hbz HS3
              go_wp2_with fail
              go_roundw
              case rel => exact ⟨k + 1, _, by omega, by go_num, HNZ.out⟩
              case measure => first | (simp [intOf]; done) | (simp [intOf]; omega)
          · have hv5 : vl k = (vl jr) := by rw [HV3.out, if_neg h5]; omega
            have h5b : (nk == 5) = false := by simpa using h5
            have k0 := HS2.out.2.1.c0
            simp only at k0
            obtain ⟨⟨fz, hVz, hfz, hzz, hkz⟩, hNz, hbz⟩ := HS2.out
            have HNZ := show Hid (Vs wf2 w.heap.size t.length fz ∧ (∀ j, j < k + 1 → fz j = vl j) ∧ (∀ j, k + 1 ≤ j → fz j = 0) ∧ Below w.heap.size w wf2) from ⟨hVz, fun j hj => by by_cases e : j = k; (subst e; rw [hkz]; exact hv5.symm); exact hfz j (by omega), hzz, hbz⟩
            clear hVz hfz hzz hkz hNz hbz HS2
            go_wp2_with fail
            go_roundw
            case rel => exact ⟨k + 1, _, by omega, by go_num, HNZ.out⟩
            case measure => first | (simp [intOf]; done) | (simp [intOf]; omega)
        · refine takeV 0 (some 27) (.slice (some ⟨w.heap.size, 0, none⟩) t.length t.length) rfl rfl (by kernel_rfl) (by kernel_rfl) (by kernel_rfl) (fun _ _ _ h => h) rfl (fun wx hx => by go_simp) hH ?_
          simp only [Act.put, List.setIfInBounds_toArray, List.set_cons_zero, List.set_cons_succ]
          refine takeV 1 (some 28) (.int .i64 (k : Int)) rfl rfl (by kernel_rfl) (by kernel_rfl) (by kernel_rfl) (fun _ _ _ h => h) rfl (fun wx hx => by go_simp) hH ?_
          simp only [Act.put, List.setIfInBounds_toArray, List.set_cons_zero, List.set_cons_succ]
          refine takeV 2 (some 29) (.slice (some ⟨w.heap.size, 0, none⟩) t.length t.length) rfl rfl (by kernel_rfl) (by kernel_rfl) (by kernel_rfl) (fun _ _ _ h => h) rfl (fun wx hx => by go_simp) hH ?_
          simp only [Act.put, List.setIfInBounds_toArray, List.set_cons_zero, List.set_cons_succ]
          refine takeV 3 (some 30) (.pointer (some ⟨R, 2, none⟩)) rfl rfl (by kernel_rfl) (by kernel_rfl) (by kernel_rfl) (fun _ _ _ h => h) rfl (fun wx hx => by go_simp) hH ?_
          simp only [Act.put, List.setIfInBounds_toArray, List.set_cons_zero, List.set_cons_succ]
          refine takeV 4 (some 31) (.int .i64 (jl : Int)) rfl rfl (by kernel_rfl) (by kernel_rfl) (by kernel_rfl) (fun _ _ _ h => h) rfl (fun wx hx => by have hcc := hx.2.1.c2; go_simp) hH ?_
          simp only [Act.put, List.setIfInBounds_toArray, List.set_cons_zero, List.set_cons_succ]
          refine takeV 5 (some 32) (.pointer (some ⟨w.heap.size, jl, none⟩)) rfl rfl (by kernel_rfl) (by kernel_rfl) (by kernel_rfl) (fun _ _ _ h => h) rfl (fun wx hx => by go_simp) hH ?_
          simp only [Act.put, List.setIfInBounds_toArray, List.set_cons_zero, List.set_cons_succ]
          refine takeV 6 (some 33) (.int .i64 (vl jl)) rfl rfl (by kernel_rfl) (by kernel_rfl) (by kernel_rfl) (fun _ _ _ h => h) rfl (fun wx hx => by have hcc := HSC.out wx hx jl (by omega); go_simp) hH ?_
          simp only [Act.put, List.setIfInBounds_toArray, List.set_cons_zero, List.set_cons_succ]
          refine takeV 7 (some 34) (.slice (some ⟨w.heap.size, 0, none⟩) t.length t.length) rfl rfl (by kernel_rfl) (by kernel_rfl) (by kernel_rfl) (fun _ _ _ h => h) rfl (fun wx hx => by go_simp) hH ?_
          simp only [Act.put, List.setIfInBounds_toArray, List.set_cons_zero, List.set_cons_succ]
          refine takeV 8 (some 35) (.pointer (some ⟨R, 3, none⟩)) rfl rfl (by kernel_rfl) (by kernel_rfl) (by kernel_rfl) (fun _ _ _ h => h) rfl (fun wx hx => by go_simp) hH ?_
          simp only [Act.put, List.setIfInBounds_toArray, List.set_cons_zero, List.set_cons_succ]
          refine takeV 9 (some 36) (.int .i64 (jr : Int)) rfl rfl (by kernel_rfl) (by kernel_rfl) (by kernel_rfl) (fun _ _ _ h => h) rfl (fun wx hx => by have hcc := hx.2.1.c3; go_simp) hH ?_
          simp only [Act.put, List.setIfInBounds_toArray, List.set_cons_zero, List.set_cons_succ]
          refine takeV 10 (some 37) (.pointer (some ⟨w.heap.size, jr, none⟩)) rfl rfl (by kernel_rfl) (by kernel_rfl) (by kernel_rfl) (fun _ _ _ h => h) rfl (fun wx hx => by go_simp) hH ?_
          simp only [Act.put, List.setIfInBounds_toArray, List.set_cons_zero, List.set_cons_succ]
          refine takeV 11 (some 38) (.int .i64 (vl jr)) rfl rfl (by kernel_rfl) (by kernel_rfl) (by kernel_rfl) (fun _ _ _ h => h) rfl (fun wx hx => by have hcc := HSC.out wx hx jr (by omega); go_simp) hH ?_
          simp only [Act.put, List.setIfInBounds_toArray, List.set_cons_zero, List.set_cons_succ]
          refine oneH 12 (by kernel_rfl) rfl (stepW 12 (some 39) (.int .i64 (vl jl)) _ rfl rfl (by go_simp) hH (fun _ => ?_))
          simp only [Act.put, List.setIfInBounds_toArray, List.set_cons_zero, List.set_cons_succ]
          refine takeV 13 (some 40) (.pointer (some ⟨w.heap.size, k, none⟩)) rfl rfl (by kernel_rfl) (by kernel_rfl) (by kernel_rfl) (fun _ _ _ h => h) rfl (fun wx hx => by go_simp) hH ?_
          simp only [Act.put, List.setIfInBounds_toArray, List.set_cons_zero, List.set_cons_succ]
          obtain ⟨⟨f2, hV2, hf2, hz2⟩, hN2, hbx2⟩ := hH
          have d0 := hV2.cell (j := k) hlt; have df := hV2.fr
          have HS2 := show Hid ((∃ f, Vs (w3.drew.setCell ⟨w.heap.size, k, none⟩ (.int .i64 (vl jl))) w.heap.size t.length f ∧ (∀ j, j < k → f j = vl j) ∧ (∀ j, k + 1 ≤ j → f j = 0) ∧ f k = (vl jl)) ∧ N4 (w3.drew.setCell ⟨w.heap.size, k, none⟩ (.int .i64 (vl jl))) R ⟨nk, ns, jl, jr⟩ ∧ Below w.heap.size w (w3.drew.setCell ⟨w.heap.size, k, none⟩ (.int .i64 (vl jl)))) from ⟨⟨_, hV2.set k (vl jl), fun j hj => by unfold updI; rw [if_neg (by omega)]; exact hf2 j hj, fun j hj => by unfold updI; rw [if_neg (by omega)]; exact hz2 j hj, if_pos rfl⟩, (heap_setCell_other _ _ _ _ (by show R ≠ w.heap.size; omega)).trans hN2, hbx2.setCell (Nat.le_refl _) _⟩
          refine oneH 14 (by kernel_rfl) rfl (stepU 14 _ rfl rfl (by go_simp) ⟨HS2.out.1.elim fun f h => ⟨f, h.1, h.2.1, h.2.2.1⟩, HS2.out.2⟩ (fun _ => ?_))
          refine wpAnyH_done (by kernel_rfl) ?_ _
          generalize World.setCell _ _ (.int .i64 (vl jl)) = wf2 at *
          clear d0 df hV2 hf2 hz2 hbx2 hN2
          by_cases h5 : nk = 5
          · subst h5
            have k0 := HS2.out.2.1.c0
            simp only at k0
            have HV4 := show Hid (vl k = max (1 + vl jl) (vl jr)) from by rw [HV3.out, if_pos rfl]; rfl
            clear HV3
            go_wp2_with fail
            refine wp_region_held_drew (S := fun wx => (∃ f, Vs wx w.heap.size t.length f ∧ (∀ j, j < k → f j = vl j) ∧ ∀ j, k + 1 ≤ j → f j = 0) ∧ N4 wx R ⟨5, ns, jl, jr⟩ ∧ Below w.heap.size w wx) (by kernel_rfl) ⟨HS2.out.1.elim fun f h => ⟨f, h.1, h.2.1, h.2.2.1⟩, HS2.out.2.1, HS2.out.2.2.drew⟩ (fun hH => ?_)
            clear HS2 k0
            by_cases hmy : 1 + vl jl < vl jr
            · have hv6 : vl k = vl jr := by rw [HV4.out]; omega
              refine takeV 0 (some 44) (.slice (some ⟨w.heap.size, 0, none⟩) t.length t.length) rfl rfl (by kernel_rfl) (by kernel_rfl) (by kernel_rfl) (fun _ _ _ h => h) rfl (fun wx hx => by go_simp) hH ?_
              simp only [Act.put, List.setIfInBounds_toArray, List.set_cons_zero, List.set_cons_succ]
              refine takeV 1 (some 45) (.int .i64 (k : Int)) rfl rfl (by kernel_rfl) (by kernel_rfl) (by kernel_rfl) (fun _ _ _ h => h) rfl (fun wx hx => by go_simp) hH ?_
              simp only [Act.put, List.setIfInBounds_toArray, List.set_cons_zero, List.set_cons_succ]
              refine takeV 2 (some 46) (.slice (some ⟨w.heap.size, 0, none⟩) t.length t.length) rfl rfl (by kernel_rfl) (by kernel_rfl) (by kernel_rfl) (fun _ _ _ h => h) rfl (fun wx hx => by go_simp) hH ?_
              simp only [Act.put, List.setIfInBounds_toArray, List.set_cons_zero, List.set_cons_succ]
              refine takeV 3 (some 47) (.pointer (some ⟨R, 2, none⟩)) rfl rfl (by kernel_rfl) (by kernel_rfl) (by kernel_rfl) (fun _ _ _ h => h) rfl (fun wx hx => by go_simp) hH ?_
              simp only [Act.put, List.setIfInBounds_toArray, List.set_cons_zero, List.set_cons_succ]
              refine takeV 4 (some 48) (.int .i64 (jl : Int)) rfl rfl (by kernel_rfl) (by kernel_rfl) (by kernel_rfl) (fun _ _ _ h => h) rfl (fun wx hx => by have hcc := hx.2.1.c2; go_simp) hH ?_
              simp only [Act.put, List.setIfInBounds_toArray, List.set_cons_zero, List.set_cons_succ]
              refine takeV 5 (some 49) (.pointer (some ⟨w.heap.size, jl, none⟩)) rfl rfl (by kernel_rfl) (by kernel_rfl) (by kernel_rfl) (fun _ _ _ h => h) rfl (fun wx hx => by go_simp) hH ?_
              simp only [Act.put, List.setIfInBounds_toArray, List.set_cons_zero, List.set_cons_succ]
              refine takeV 6 (some 50) (.int .i64 (vl jl)) rfl rfl (by kernel_rfl) (by kernel_rfl) (by kernel_rfl) (fun _ _ _ h => h) rfl (fun wx hx => by have hcc := HSC.out wx hx jl (by omega); go_simp) hH ?_
              simp only [Act.put, List.setIfInBounds_toArray, List.set_cons_zero, List.set_cons_succ]
              refine takeV 7 (some 51) (.int .i64 (1 + vl jl)) rfl rfl (by kernel_rfl) (by kernel_rfl) (by kernel_rfl) (fun _ _ _ h => h) rfl (fun wx hx => by go_simp; rw [IntKind.wrap_i64]; omega) hH ?_
              simp only [Act.put, List.setIfInBounds_toArray, List.set_cons_zero, List.set_cons_succ]
              refine takeV 8 (some 52) (.slice (some ⟨w.heap.size, 0, none⟩) t.length t.length) rfl rfl (by kernel_rfl) (by kernel_rfl) (by kernel_rfl) (fun _ _ _ h => h) rfl (fun wx hx => by go_simp) hH ?_
              simp only [Act.put, List.setIfInBounds_toArray, List.set_cons_zero, List.set_cons_succ]
              refine takeV 9 (some 53) (.pointer (some ⟨R, 3, none⟩)) rfl rfl (by kernel_rfl) (by kernel_rfl) (by kernel_rfl) (fun _ _ _ h => h) rfl (fun wx hx => by go_simp) hH ?_
              simp only [Act.put, List.setIfInBounds_toArray, List.set_cons_zero, List.set_cons_succ]
              refine takeV 10 (some 54) (.int .i64 (jr : Int)) rfl rfl (by kernel_rfl) (by kernel_rfl) (by kernel_rfl) (fun _ _ _ h => h) rfl (fun wx hx => by have hcc := hx.2.1.c3; go_simp) hH ?_
              simp only [Act.put, List.setIfInBounds_toArray, List.set_cons_zero, List.set_cons_succ]
              refine takeV 11 (some 55) (.pointer (some ⟨w.heap.size, jr, none⟩)) rfl rfl (by kernel_rfl) (by kernel_rfl) (by kernel_rfl) (fun _ _ _ h => h) rfl (fun wx hx => by go_simp) hH ?_
              simp only [Act.put, List.setIfInBounds_toArray, List.set_cons_zero, List.set_cons_succ]
              refine takeV 12 (some 56) (.int .i64 (vl jr)) rfl rfl (by kernel_rfl) (by kernel_rfl) (by kernel_rfl) (fun _ _ _ h => h) rfl (fun wx hx => by have hcc := HSC.out wx hx jr (by omega); go_simp) hH ?_
              simp only [Act.put, List.setIfInBounds_toArray, List.set_cons_zero, List.set_cons_succ]
              refine oneH 13 (by kernel_rfl) rfl (stepW 13 (some 57) (.int .i64 (vl jr)) _ rfl rfl (by go_simp) hH (fun _ => ?_))
              simp only [Act.put, List.setIfInBounds_toArray, List.set_cons_zero, List.set_cons_succ]
              refine takeV 14 (some 58) (.pointer (some ⟨w.heap.size, k, none⟩)) rfl rfl (by kernel_rfl) (by kernel_rfl) (by kernel_rfl) (fun _ _ _ h => h) rfl (fun wx hx => by go_simp) hH ?_
              simp only [Act.put, List.setIfInBounds_toArray, List.set_cons_zero, List.set_cons_succ]
              obtain ⟨⟨f3, hV3, hf3, hz3⟩, hN3, hbx3⟩ := hH
              have d0 := hV3.cell (j := k) hlt; have df := hV3.fr
              have HS3 := show Hid ((∃ f, Vs (wf2.drew.setCell ⟨w.heap.size, k, none⟩ (.int .i64 (vl jr))) w.heap.size t.length f ∧ (∀ j, j < k → f j = vl j) ∧ (∀ j, k + 1 ≤ j → f j = 0) ∧ f k = (vl jr)) ∧ N4 (wf2.drew.setCell ⟨w.heap.size, k, none⟩ (.int .i64 (vl jr))) R ⟨5, ns, jl, jr⟩ ∧ Below w.heap.size w (wf2.drew.setCell ⟨w.heap.size, k, none⟩ (.int .i64 (vl jr)))) from ⟨⟨_, hV3.set k (vl jr), fun j hj => by unfold updI; rw [if_neg (by omega)]; exact hf3 j hj, fun j hj => by unfold updI; rw [if_neg (by omega)]; exact hz3 j hj, if_pos rfl⟩, (heap_setCell_other _ _ _ _ (by show R ≠ w.heap.size; omega)).trans hN3, hbx3.setCell (Nat.le_refl _) _⟩
              refine oneH 15 (by kernel_rfl) rfl (stepU 15 _ rfl rfl (by go_simp) ⟨HS3.out.1.elim fun f h => ⟨f, h.1, h.2.1, h.2.2.1⟩, HS3.out.2⟩ (fun _ => ?_))
              refine wpAnyH_done (by kernel_rfl) ?_ _
              generalize World.setCell _ _ (.int .i64 (vl jr)) = wf3 at *
              clear d0 df hV3 hf3 hz3 hbx3 hN3
              obtain ⟨⟨fz, hVz, hfz, hzz, hkz⟩, hNz, hbz⟩ := HS3.out
              have HNZ := show Hid (Vs wf3 w.heap.size t.length fz ∧ (∀ j, j < k + 1 → fz j = vl j) ∧ (∀ j, k + 1 ≤ j → fz j = 0) ∧ Below w.heap.size w wf3) from ⟨hVz, fun j hj => by by_cases e : j = k; (subst e; rw [hkz]; exact hv6.symm); exact hfz j (by omega), hzz, hbz⟩
              clear hVz hfz hzz hkz hNz hbz HS3
              go_wp2_with fail
              go_roundw
              case rel => exact ⟨k + 1, _, by omega, by go_num, HNZ.out⟩
              case measure => first | (simp [intOf]; done) | (simp [intOf]; omega)
            · have hv6 : vl k = 1 + vl jl := by rw [HV4.out]; omega
              refine takeV 0 (some 44) (.slice (some ⟨w.heap.size, 0, none⟩) t.length t.length) rfl rfl (by kernel_rfl) (by kernel_rfl) (by kernel_rfl) (fun _ _ _ h => h) rfl (fun wx hx => by go_simp) hH ?_
              simp only [Act.put, List.setIfInBounds_toArray, List.set_cons_zero, List.set_cons_succ]
              refine takeV 1 (some 45) (.int .i64 (k : Int)) rfl rfl (by kernel_rfl) (by kernel_rfl) (by kernel_rfl) (fun _ _ _ h => h) rfl (fun wx hx => by go_simp) hH ?_
              simp only [Act.put, List.setIfInBounds_toArray, List.set_cons_zero, List.set_cons_succ]
              refine takeV 2 (some 46) (.slice (some ⟨w.heap.size, 0, none⟩) t.length t.length) rfl rfl (by kernel_rfl) (by kernel_rfl) (by kernel_rfl) (fun _ _ _ h => h) rfl (fun wx hx => by go_simp) hH ?_
              simp only [Act.put, List.setIfInBounds_toArray, List.set_cons_zero, List.set_cons_succ]
              refine takeV 3 (some 47) (.pointer (some ⟨R, 2, none⟩)) rfl rfl (by kernel_rfl) (by kernel_rfl) (by kernel_rfl) (fun _ _ _ h => h) rfl (fun wx hx => by go_simp) hH ?_
              simp only [Act.put, List.setIfInBounds_toArray, List.set_cons_zero, List.set_cons_succ]
              refine takeV 4 (some 48) (.int .i64 (jl : Int)) rfl rfl (by kernel_rfl) (by kernel_rfl) (by kernel_rfl) (fun _ _ _ h => h) rfl (fun wx hx => by have hcc := hx.2.1.c2; go_simp) hH ?_
              simp only [Act.put, List.setIfInBounds_toArray, List.set_cons_zero, List.set_cons_succ]
              refine takeV 5 (some 49) (.pointer (some ⟨w.heap.size, jl, none⟩)) rfl rfl (by kernel_rfl) (by kernel_rfl) (by kernel_rfl) (fun _ _ _ h => h) rfl (fun wx hx => by go_simp) hH ?_
              simp only [Act.put, List.setIfInBounds_toArray, List.set_cons_zero, List.set_cons_succ]
              refine takeV 6 (some 50) (.int .i64 (vl jl)) rfl rfl (by kernel_rfl) (by kernel_rfl) (by kernel_rfl) (fun _ _ _ h => h) rfl (fun wx hx => by have hcc := HSC.out wx hx jl (by omega); go_simp) hH ?_
              simp only [Act.put, List.setIfInBounds_toArray, List.set_cons_zero, List.set_cons_succ]
              refine takeV 7 (some 51) (.int .i64 (1 + vl jl)) rfl rfl (by kernel_rfl) (by kernel_rfl) (by kernel_rfl) (fun _ _ _ h => h) rfl (fun wx hx => by go_simp; rw [IntKind.wrap_i64]; omega) hH ?_
              simp only [Act.put, List.setIfInBounds_toArray, List.set_cons_zero, List.set_cons_succ]
              refine takeV 8 (some 52) (.slice (some ⟨w.heap.size, 0, none⟩) t.length t.length) rfl rfl (by kernel_rfl) (by kernel_rfl) (by kernel_rfl) (fun _ _ _ h => h) rfl (fun wx hx => by go_simp) hH ?_
              simp only [Act.put, List.setIfInBounds_toArray, List.set_cons_zero, List.set_cons_succ]
              refine takeV 9 (some 53) (.pointer (some ⟨R, 3, none⟩)) rfl rfl (by kernel_rfl) (by kernel_rfl) (by kernel_rfl) (fun _ _ _ h => h) rfl (fun wx hx => by go_simp) hH ?_
              simp only [Act.put, List.setIfInBounds_toArray, List.set_cons_zero, List.set_cons_succ]
              refine takeV 10 (some 54) (.int .i64 (jr : Int)) rfl rfl (by kernel_rfl) (by kernel_rfl) (by kernel_rfl) (fun _ _ _ h => h) rfl (fun wx hx => by have hcc := hx.2.1.c3; go_simp) hH ?_
              simp only [Act.put, List.setIfInBounds_toArray, List.set_cons_zero, List.set_cons_succ]
              refine takeV 11 (some 55) (.pointer (some ⟨w.heap.size, jr, none⟩)) rfl rfl (by kernel_rfl) (by kernel_rfl) (by kernel_rfl) (fun _ _ _ h => h) rfl (fun wx hx => by go_simp) hH ?_
              simp only [Act.put, List.setIfInBounds_toArray, List.set_cons_zero, List.set_cons_succ]
              refine takeV 12 (some 56) (.int .i64 (vl jr)) rfl rfl (by kernel_rfl) (by kernel_rfl) (by kernel_rfl) (fun _ _ _ h => h) rfl (fun wx hx => by have hcc := HSC.out wx hx jr (by omega); go_simp) hH ?_
              simp only [Act.put, List.setIfInBounds_toArray, List.set_cons_zero, List.set_cons_succ]
              refine oneH 13 (by kernel_rfl) rfl (stepW 13 (some 57) (.int .i64 (1 + vl jl)) _ rfl rfl (by go_simp) hH (fun _ => ?_))
              simp only [Act.put, List.setIfInBounds_toArray, List.set_cons_zero, List.set_cons_succ]
              refine takeV 14 (some 58) (.pointer (some ⟨w.heap.size, k, none⟩)) rfl rfl (by kernel_rfl) (by kernel_rfl) (by kernel_rfl) (fun _ _ _ h => h) rfl (fun wx hx => by go_simp) hH ?_
              simp only [Act.put, List.setIfInBounds_toArray, List.set_cons_zero, List.set_cons_succ]
              obtain ⟨⟨f3, hV3, hf3, hz3⟩, hN3, hbx3⟩ := hH
              have d0 := hV3.cell (j := k) hlt; have df := hV3.fr
              have HS3 := show Hid ((∃ f, Vs (wf2.drew.setCell ⟨w.heap.size, k, none⟩ (.int .i64 (1 + vl jl))) w.heap.size t.length f ∧ (∀ j, j < k → f j = vl j) ∧ (∀ j, k + 1 ≤ j → f j = 0) ∧ f k = (1 + vl jl)) ∧ N4 (wf2.drew.setCell ⟨w.heap.size, k, none⟩ (.int .i64 (1 + vl jl))) R ⟨5, ns, jl, jr⟩ ∧ Below w.heap.size w (wf2.drew.setCell ⟨w.heap.size, k, none⟩ (.int .i64 (1 + vl jl)))) from ⟨⟨_, hV3.set k (1 + vl jl), fun j hj => by unfold updI; rw [if_neg (by omega)]; exact hf3 j hj, fun j hj => by unfold updI; rw [if_neg (by omega)]; exact hz3 j hj, if_pos rfl⟩, (heap_setCell_other _ _ _ _ (by show R ≠ w.heap.size; omega)).trans hN3, hbx3.setCell (Nat.le_refl _) _⟩
              refine oneH 15 (by kernel_rfl) rfl (stepU 15 _ rfl rfl (by go_simp) ⟨HS3.out.1.elim fun f h => ⟨f, h.1, h.2.1, h.2.2.1⟩, HS3.out.2⟩ (fun _ => ?_))
              refine wpAnyH_done (by kernel_rfl) ?_ _
              generalize World.setCell _ _ (.int .i64 (1 + vl jl)) = wf3 at *
              clear d0 df hV3 hf3 hz3 hbx3 hN3
              obtain ⟨⟨fz, hVz, hfz, hzz, hkz⟩, hNz, hbz⟩ := HS3.out
              have HNZ := show Hid (Vs wf3 w.heap.size t.length fz ∧ (∀ j, j < k + 1 → fz j = vl j) ∧ (∀ j, k + 1 ≤ j → fz j = 0) ∧ Below w.heap.size w wf3) from ⟨hVz, fun j hj => by by_cases e : j = k; (subst e; rw [hkz]; exact hv6.symm); exact hfz j (by omega), hzz, hbz⟩
              clear hVz hfz hzz hkz hNz hbz HS3
              go_wp2_with fail
              go_roundw
              case rel => exact ⟨k + 1, _, by omega, by go_num, HNZ.out⟩
              case measure => first | (simp [intOf]; done) | (simp [intOf]; omega)
          · have hv5 : vl k = (vl jl) := by rw [HV3.out, if_neg h5]; omega
            have h5b : (nk == 5) = false := by simpa using h5
            have k0 := HS2.out.2.1.c0
            simp only at k0
            obtain ⟨⟨fz, hVz, hfz, hzz, hkz⟩, hNz, hbz⟩ := HS2.out
            have HNZ := show Hid (Vs wf2 w.heap.size t.length fz ∧ (∀ j, j < k + 1 → fz j = vl j) ∧ (∀ j, k + 1 ≤ j → fz j = 0) ∧ Below w.heap.size w wf2) from ⟨hVz, fun j hj => by by_cases e : j = k; (subst e; rw [hkz]; exact hv5.symm); exact hfz j (by omega), hzz, hbz⟩
            clear hVz hfz hzz hkz hNz hbz HS2
            go_wp2_with fail
            go_roundw
            case rel => exact ⟨k + 1, _, by omega, by go_num, HNZ.out⟩
            case measure => first | (simp [intOf]; done) | (simp [intOf]; omega)
    · have hke : k = t.length := by omega
      subst hke
      clear HR HV HIN HP HKD HRW
      have HE := show Hid (Vs wr w.heap.size t.length vl ∧ Below w.heap.size w wr) from by
        refine ⟨?_, HI.out.2.2.2⟩
        have h := HI.out.1
        unfold Vs at h ⊢
        rw [h]
        congr 2
        apply Array.ext'
        simp only [List.map_inj_left]
        intro j hj
        rw [HI.out.2.1 j (by simpa using hj)]
      clear HI
      go_wp2_with fail
      go_ret
      exact ⟨rfl, HE.out⟩
end Go.Proofs.YthdcppkohalkmaaGreat
