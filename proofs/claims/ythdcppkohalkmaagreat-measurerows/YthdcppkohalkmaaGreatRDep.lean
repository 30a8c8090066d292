/-
  The document's depths, row by row. For every table of the document's that calls made.
-/
import Derived.Test.YthdcppkohalkmaaGreatRCnt
namespace Go.Proofs.YthdcppkohalkmaaGreat
open Go.RowKit Go.Maps
open Fm (Nd)

set_option maxRecDepth 100000 in
set_option maxHeartbeats 4000000 in
theorem rdepths_any (w : World) {c : Nat} {u : Value} {t : List Nd} (hT : Tr w c u t) :
    Calls Tryz.prog 16 #[.pointer (some ⟨c, 0, none⟩)] w fun e w' => e = .returned (.slice (some ⟨w.heap.size, 0, none⟩) t.length t.length) ∧ Vs w' w.heap.size t.length (Ms.depthV t) ∧ Below w.heap.size w w' := by
  have hok := hT.ok
  have hlen := hok.len
  have hmk : ∀ w : World, (Instr.makeSlice 33 (.int .i64 (t.length : Int)) (.int .i64 (t.length : Int))).run Tryz.prog w = .ok (.slice (some ⟨w.heap.size, 0, none⟩) t.length t.length) (w.alloc (.cells (madeCells #[.int .i64 0] t.length) 3)) := fun w => by
    have h := run_make_row' (P := Tryz.prog) 33 3 (.int .i64 0) 8 Tryz.underlying33 info_int rfl .i64 .i64 t.length (by omega) (by omega) w
    exact h
  obtain ⟨p, cp, hv, hc1, hc2, hat⟩ := hT.row.isR
  have hc0 := hT.c0
  rw [hv] at hc0
  have HR := show Hid (∀ w', Below w.heap.size w w' → w'.cell? ⟨c, 0, none⟩ = some (.slice p t.length cp) ∧ ∀ k (hk : k < t.length), ∃ rg ro, p = some ⟨rg, ro, none⟩ ∧ At4 w' rg (ro + k * 4) t[k]) from fun w' hb => by
    have hT' := hT.later hb
    obtain ⟨p2, cp2, hv2, _, _, hat2⟩ := hT'.row.isR
    rw [hv] at hv2
    obtain ⟨rfl, _, rfl⟩ := Value.slice.inj hv2
    refine ⟨by rw [← hv]; exact hT'.c0, fun k hk => ?_⟩
    obtain ⟨rg, ro, hp, h4⟩ := hat2 (by omega)
    exact ⟨rg, ro, hp, h4 k hk⟩
  have HB0 := show Hid (Vs (w.alloc (.cells (madeCells #[.int .i64 0] t.length) 3)) w.heap.size t.length (fun _ => 0)) from vs_made w t.length
  have HBA := show Hid (Below w.heap.size w (w.alloc (.cells (madeCells #[.int .i64 0] t.length) 3))) from below_alloc w _
  have HV := show Hid (∀ k, k < t.length → Ms.depthV t k = if Fm.jn (Ms.row t k).k then 1 + max (Ms.depthV t (Ms.row t k).l.toNat) (Ms.depthV t (Ms.row t k).r.toNat) else 0) from fun k hk => Ms.val_eq hok hk
  have HIN := show Hid (∀ k, k < t.length → 0 ≤ Ms.depthV t k ∧ Ms.depthV t k ≤ 1099511627776) from fun k hk => by have := Ms.depth_le hok hk; omega
  have HP := show Hid (∀ k, k < t.length → Fm.jn (Ms.row t k).k = true → (Ms.row t k).l.toNat < k ∧ (Ms.row t k).r.toNat < k ∧ 0 ≤ (Ms.row t k).l ∧ 0 ≤ (Ms.row t k).r) from fun k hk h => Ms.parts_lt hok hk h
  have HKD := show Hid (∀ k (hk : k < t.length), (Ms.row t k).k = 1 ∨ (Ms.row t k).k = 2 ∨ Fm.jn (Ms.row t k).k = true) from fun k hk => by rw [Ms.row_at hk]; exact Fm.ok_kind hok hk
  have HRW := show Hid (∀ k (hk : k < t.length), t[k] = Ms.row t k) from fun k hk => (Ms.row_at hk).symm
  generalize Ms.depthV t = vl at *
  clear hT hat hv hok
  go_enter Tryz.func16, Tryz.ntmps16
  go_wp2_with fail
  go_loopw [4] (fun iv wr => ∃ (k : Nat) (f : Nat → Int), k ≤ t.length ∧ iv = .int .i64 (k : Int) ∧ Hid (Vs wr w.heap.size t.length f ∧ (∀ j, j < k → f j = vl j) ∧ (∀ j, k ≤ j → f j = 0) ∧ Below w.heap.size w wr)) (fun iv _ => t.length - (intOf iv).toNat)
  case atStart => exact ⟨0, fun _ => 0, by omega, rfl, HB0.out, fun j h => by omega, fun _ _ => rfl, HBA.out⟩
  case round =>
    obtain ⟨k, f, hk, rfl, HI⟩ := hrel
    clear HB0 HBA hmk hc0
    by_cases hlt : k < t.length
    · have hki : (k : Int) < (t.length : Int) := by omega
      obtain ⟨hc2', hrow⟩ := HR.out wr HI.out.2.2.2
      obtain ⟨rg, ro, rfl, hA⟩ := hrow k hlt
      rw [HRW.out k hlt] at hA
      have a0 := hA.c0; have a1 := hA.c1; have a2 := hA.c2; have a3 := hA.c3
      have KT := show Hid (∀ w : World, Calls Tryz.prog 43 #[.agg #[.int .i64 (Ms.row t k).k, .string (Ms.row t k).s, .int .i64 (Ms.row t k).l, .int .i64 (Ms.row t k).r]] w fun e w' => e = .returned (.bool (Fm.jn (Ms.row t k).k)) ∧ w' = w.alloc (Obj.cells #[.int .i64 (Ms.row t k).k, .string (Ms.row t k).s, .int .i64 (Ms.row t k).l, .int .i64 (Ms.row t k).r] 72)) from fun w => two_any w _ (HKD.out k hlt)
      have HV2 := show Hid _ from HV.out k hlt
      have HP2 := show Hid _ from HP.out k hlt
      have HRK := show Hid (∀ w', Below w.heap.size w w' → w'.cell? ⟨c, 0, none⟩ = some (.slice (some ⟨rg, ro, none⟩) t.length cp) ∧ At4 w' rg (ro + k * 4) (Ms.row t k)) from fun w' hb => by
        obtain ⟨h1, h2⟩ := HR.out w' hb
        obtain ⟨rg2, ro2, e2, h3⟩ := h2 k hlt
        cases e2
        rw [HRW.out k hlt] at h3
        exact ⟨h1, h3⟩
      clear HV HP HKD HRW hrow HR hA
      generalize Ms.row t k = nd at *
      obtain ⟨nk, ns, nl, nr⟩ := nd
      simp only at a0 a1 a2 a3 KT HV2 HP2
      cases hjn : Fm.jn nk
      · rw [hjn] at KT
        have hv := HV2.out
        rw [hjn] at hv
        simp only [Bool.false_eq_true, if_false] at hv
        have HN := show Hid (Vs (wr.alloc (Obj.cells #[.int .i64 nk, .string ns, .int .i64 nl, .int .i64 nr] 72)) w.heap.size t.length f ∧ (∀ j, j < k + 1 → f j = vl j) ∧ (∀ j, k + 1 ≤ j → f j = 0) ∧ Below w.heap.size w (wr.alloc (Obj.cells #[.int .i64 nk, .string ns, .int .i64 nl, .int .i64 nr] 72))) from by
          refine ⟨(Below.heap_alloc _ _ _ HI.out.1.lt).trans HI.out.1, fun j hj => ?_, fun j hj => HI.out.2.2.1 j (by omega), HI.out.2.2.2.alloc HI.out.2.2.2.size _⟩
          by_cases e : j = k
          · subst e; rw [hv]; exact HI.out.2.2.1 j (Nat.le_refl _)
          · exact HI.out.2.1 j (by omega)
        clear HV2 HP2 HRK hv
        go_wp2_with fail
        refine (KT.out _).mono ?_
        rintro e w3 ⟨rfl, rfl⟩
        clear hc2' a0 a1 a2 a3 KT
        go_wp2_with fail
        go_roundw
        case rel => exact ⟨k + 1, _, by omega, by go_num, HN⟩
        case measure => first | (simp [intOf]; done) | (simp [intOf]; omega)
      · rw [hjn] at KT
        have hv := HV2.out
        rw [hjn] at hv
        simp only [if_true] at hv
        obtain ⟨hpl, hpr, hl0, hr0⟩ := HP2.out hjn
        obtain ⟨jl, rfl⟩ : ∃ jl : Nat, nl = jl := ⟨nl.toNat, by omega⟩
        obtain ⟨jr, rfl⟩ : ∃ jr : Nat, nr = jr := ⟨nr.toNat, by omega⟩
        simp only [Int.toNat_natCast] at hpl hpr hv
        have HN0 := show Hid (Vs (wr.alloc (Obj.cells #[.int .i64 nk, .string ns, .int .i64 (jl : Int), .int .i64 (jr : Int)] 72)) w.heap.size t.length f ∧ (∀ j, j < k → f j = vl j) ∧ (∀ j, k ≤ j → f j = 0) ∧ Below w.heap.size w (wr.alloc (Obj.cells #[.int .i64 nk, .string ns, .int .i64 (jl : Int), .int .i64 (jr : Int)] 72))) from
          ⟨(Below.heap_alloc _ _ _ HI.out.1.lt).trans HI.out.1, HI.out.2.1, HI.out.2.2.1, HI.out.2.2.2.alloc HI.out.2.2.2.size _⟩
        have hjli : (jl : Int) < (t.length : Int) := by omega
        have hjri : (jr : Int) < (t.length : Int) := by omega
        have hml := HIN.out jl (by omega)
        have hmr := HIN.out jr (by omega)
        have HSC := show Hid (∀ wx, ((∃ f, Vs wx w.heap.size t.length f ∧ (∀ j, j < k → f j = vl j) ∧ ∀ j, k + 1 ≤ j → f j = 0) ∧ True ∧ Below w.heap.size w wx) → ∀ i, i < k → wx.cell? ⟨w.heap.size, i, none⟩ = some (.int .i64 (vl i))) from fun wx hx i hi => by
          obtain ⟨⟨f', h1, h2, _⟩, _⟩ := hx
          rw [← h2 i hi]
          exact h1.cell (by omega)
        have HV3 := show Hid (vl k = 1 + max (vl jl) (vl jr)) from hv
        clear HV2 HP2 hv HI
        go_wp2_with fail
        refine (KT.out _).mono ?_
        rintro e w3 ⟨rfl, rfl⟩
        clear hc2' a0 a1 a2 a3 KT
        generalize wr.alloc (Obj.cells #[.int .i64 nk, .string ns, .int .i64 (jl : Int), .int .i64 (jr : Int)] 72) = w3 at *
        go_wp2_with fail
        refine wp_region_held_drew (S := fun wx => (∃ f, Vs wx w.heap.size t.length f ∧ (∀ j, j < k → f j = vl j) ∧ ∀ j, k + 1 ≤ j → f j = 0) ∧ True ∧ Below w.heap.size w wx) (by kernel_rfl) ⟨⟨_, HN0.out.1, HN0.out.2.1, fun j hj => HN0.out.2.2.1 j (by omega)⟩, trivial, HN0.out.2.2.2.drew⟩ (fun hH => ?_)
        clear HN0
        by_cases hmx : vl jl < vl jr
        · have HVK := show Hid (vl k = 1 + vl jr) from by show vl k = 1 + vl jr; rw [HV3.out]; omega
          clear HV3
          refine takeV 0 (some 25) (.slice (some ⟨w.heap.size, 0, none⟩) t.length t.length) rfl rfl (by kernel_rfl) (by kernel_rfl) (by kernel_rfl) (fun _ _ _ h => h) rfl (fun wx hx => by go_simp) hH ?_
          simp only [Act.put, List.setIfInBounds_toArray, List.set_cons_zero, List.set_cons_succ]
          refine takeV 1 (some 26) (.int .i64 (k : Int)) rfl rfl (by kernel_rfl) (by kernel_rfl) (by kernel_rfl) (fun _ _ _ h => h) rfl (fun wx hx => by go_simp) hH ?_
          simp only [Act.put, List.setIfInBounds_toArray, List.set_cons_zero, List.set_cons_succ]
          refine takeV 2 (some 27) (.slice (some ⟨w.heap.size, 0, none⟩) t.length t.length) rfl rfl (by kernel_rfl) (by kernel_rfl) (by kernel_rfl) (fun _ _ _ h => h) rfl (fun wx hx => by go_simp) hH ?_
          simp only [Act.put, List.setIfInBounds_toArray, List.set_cons_zero, List.set_cons_succ]
          refine takeV 3 (some 28) (.pointer (some ⟨c, 0, none⟩)) rfl rfl (by kernel_rfl) (by kernel_rfl) (by kernel_rfl) (fun _ _ _ h => h) rfl (fun wx hx => by go_simp) hH ?_
          simp only [Act.put, List.setIfInBounds_toArray, List.set_cons_zero, List.set_cons_succ]
          refine takeV 4 (some 29) (.pointer (some ⟨c, 0, none⟩)) rfl rfl (by kernel_rfl) (by kernel_rfl) (by kernel_rfl) (fun _ _ _ h => h) rfl (fun wx hx => by go_simp) hH ?_
          simp only [Act.put, List.setIfInBounds_toArray, List.set_cons_zero, List.set_cons_succ]
          refine takeV 5 (some 30) (.pointer (some ⟨c, 0, none⟩)) rfl rfl (by kernel_rfl) (by kernel_rfl) (by kernel_rfl) (fun _ _ _ h => h) rfl (fun wx hx => by go_simp) hH ?_
          simp only [Act.put, List.setIfInBounds_toArray, List.set_cons_zero, List.set_cons_succ]
          refine takeV 6 (some 31) (.slice (some ⟨rg, ro, none⟩) t.length cp) rfl rfl (by kernel_rfl) (by kernel_rfl) (by kernel_rfl) (fun _ _ _ h => h) rfl (fun wx hx => by have hcc := (HRK.out wx hx.2.2).1; go_simp) hH ?_
          simp only [Act.put, List.setIfInBounds_toArray, List.set_cons_zero, List.set_cons_succ]
          refine takeV 7 (some 32) (.int .i64 (k : Int)) rfl rfl (by kernel_rfl) (by kernel_rfl) (by kernel_rfl) (fun _ _ _ h => h) rfl (fun wx hx => by go_simp) hH ?_
          simp only [Act.put, List.setIfInBounds_toArray, List.set_cons_zero, List.set_cons_succ]
          refine takeV 8 (some 33) (.pointer (some ⟨rg, ro + k * 4, none⟩)) rfl rfl (by kernel_rfl) (by kernel_rfl) (by kernel_rfl) (fun _ _ _ h => h) rfl (fun wx hx => by go_simp) hH ?_
          simp only [Act.put, List.setIfInBounds_toArray, List.set_cons_zero, List.set_cons_succ]
          refine takeV 9 (some 34) (.pointer (some ⟨rg, ro + k * 4 + 2, none⟩)) rfl rfl (by kernel_rfl) (by kernel_rfl) (by kernel_rfl) (fun _ _ _ h => h) rfl (fun wx hx => by go_simp) hH ?_
          simp only [Act.put, List.setIfInBounds_toArray, List.set_cons_zero, List.set_cons_succ]
          refine takeV 10 (some 35) (.int .i64 (jl : Int)) rfl rfl (by kernel_rfl) (by kernel_rfl) (by kernel_rfl) (fun _ _ _ h => h) rfl (fun wx hx => by have hcc := (HRK.out wx hx.2.2).2.c2; go_simp) hH ?_
          simp only [Act.put, List.setIfInBounds_toArray, List.set_cons_zero, List.set_cons_succ]
          refine takeV 11 (some 36) (.pointer (some ⟨w.heap.size, jl, none⟩)) rfl rfl (by kernel_rfl) (by kernel_rfl) (by kernel_rfl) (fun _ _ _ h => h) rfl (fun wx hx => by go_simp) hH ?_
          simp only [Act.put, List.setIfInBounds_toArray, List.set_cons_zero, List.set_cons_succ]
          refine takeV 12 (some 37) (.int .i64 (vl jl)) rfl rfl (by kernel_rfl) (by kernel_rfl) (by kernel_rfl) (fun _ _ _ h => h) rfl (fun wx hx => by have hcc := HSC.out wx hx jl (by omega); go_simp) hH ?_
          simp only [Act.put, List.setIfInBounds_toArray, List.set_cons_zero, List.set_cons_succ]
          refine takeV 13 (some 38) (.slice (some ⟨w.heap.size, 0, none⟩) t.length t.length) rfl rfl (by kernel_rfl) (by kernel_rfl) (by kernel_rfl) (fun _ _ _ h => h) rfl (fun wx hx => by go_simp) hH ?_
          simp only [Act.put, List.setIfInBounds_toArray, List.set_cons_zero, List.set_cons_succ]
          refine takeV 14 (some 39) (.pointer (some ⟨c, 0, none⟩)) rfl rfl (by kernel_rfl) (by kernel_rfl) (by kernel_rfl) (fun _ _ _ h => h) rfl (fun wx hx => by go_simp) hH ?_
          simp only [Act.put, List.setIfInBounds_toArray, List.set_cons_zero, List.set_cons_succ]
          refine takeV 15 (some 40) (.pointer (some ⟨c, 0, none⟩)) rfl rfl (by kernel_rfl) (by kernel_rfl) (by kernel_rfl) (fun _ _ _ h => h) rfl (fun wx hx => by go_simp) hH ?_
          simp only [Act.put, List.setIfInBounds_toArray, List.set_cons_zero, List.set_cons_succ]
          refine takeV 16 (some 41) (.pointer (some ⟨c, 0, none⟩)) rfl rfl (by kernel_rfl) (by kernel_rfl) (by kernel_rfl) (fun _ _ _ h => h) rfl (fun wx hx => by go_simp) hH ?_
          simp only [Act.put, List.setIfInBounds_toArray, List.set_cons_zero, List.set_cons_succ]
          refine takeV 17 (some 42) (.slice (some ⟨rg, ro, none⟩) t.length cp) rfl rfl (by kernel_rfl) (by kernel_rfl) (by kernel_rfl) (fun _ _ _ h => h) rfl (fun wx hx => by have hcc := (HRK.out wx hx.2.2).1; go_simp) hH ?_
          simp only [Act.put, List.setIfInBounds_toArray, List.set_cons_zero, List.set_cons_succ]
          refine takeV 18 (some 43) (.int .i64 (k : Int)) rfl rfl (by kernel_rfl) (by kernel_rfl) (by kernel_rfl) (fun _ _ _ h => h) rfl (fun wx hx => by go_simp) hH ?_
          simp only [Act.put, List.setIfInBounds_toArray, List.set_cons_zero, List.set_cons_succ]
          refine takeV 19 (some 44) (.pointer (some ⟨rg, ro + k * 4, none⟩)) rfl rfl (by kernel_rfl) (by kernel_rfl) (by kernel_rfl) (fun _ _ _ h => h) rfl (fun wx hx => by go_simp) hH ?_
          simp only [Act.put, List.setIfInBounds_toArray, List.set_cons_zero, List.set_cons_succ]
          refine takeV 20 (some 45) (.pointer (some ⟨rg, ro + k * 4 + 3, none⟩)) rfl rfl (by kernel_rfl) (by kernel_rfl) (by kernel_rfl) (fun _ _ _ h => h) rfl (fun wx hx => by go_simp) hH ?_
          simp only [Act.put, List.setIfInBounds_toArray, List.set_cons_zero, List.set_cons_succ]
          refine takeV 21 (some 46) (.int .i64 (jr : Int)) rfl rfl (by kernel_rfl) (by kernel_rfl) (by kernel_rfl) (fun _ _ _ h => h) rfl (fun wx hx => by have hcc := (HRK.out wx hx.2.2).2.c3; go_simp) hH ?_
          simp only [Act.put, List.setIfInBounds_toArray, List.set_cons_zero, List.set_cons_succ]
          refine takeV 22 (some 47) (.pointer (some ⟨w.heap.size, jr, none⟩)) rfl rfl (by kernel_rfl) (by kernel_rfl) (by kernel_rfl) (fun _ _ _ h => h) rfl (fun wx hx => by go_simp) hH ?_
          simp only [Act.put, List.setIfInBounds_toArray, List.set_cons_zero, List.set_cons_succ]
          refine takeV 23 (some 48) (.int .i64 (vl jr)) rfl rfl (by kernel_rfl) (by kernel_rfl) (by kernel_rfl) (fun _ _ _ h => h) rfl (fun wx hx => by have hcc := HSC.out wx hx jr (by omega); go_simp) hH ?_
          simp only [Act.put, List.setIfInBounds_toArray, List.set_cons_zero, List.set_cons_succ]
          refine oneH 24 (by kernel_rfl) rfl (stepW 24 (some 49) (.int .i64 (vl jr)) _ rfl rfl (by go_simp) hH (fun _ => ?_))
          simp only [Act.put, List.setIfInBounds_toArray, List.set_cons_zero, List.set_cons_succ]
          refine takeV 25 (some 50) (.int .i64 (1 + (vl jr))) rfl rfl (by kernel_rfl) (by kernel_rfl) (by kernel_rfl) (fun _ _ _ h => h) rfl (fun wx hx => by go_simp; rw [IntKind.wrap_i64]; omega) hH ?_
          simp only [Act.put, List.setIfInBounds_toArray, List.set_cons_zero, List.set_cons_succ]
          refine takeV 26 (some 51) (.pointer (some ⟨w.heap.size, k, none⟩)) rfl rfl (by kernel_rfl) (by kernel_rfl) (by kernel_rfl) (fun _ _ _ h => h) rfl (fun wx hx => by go_simp) hH ?_
          simp only [Act.put, List.setIfInBounds_toArray, List.set_cons_zero, List.set_cons_succ]
          obtain ⟨⟨f2, hV2, hf2, hz2⟩, hbx⟩ := hH
          have d0 := hV2.cell (j := k) hlt; have df := hV2.fr
          refine oneH 27 (by kernel_rfl) rfl (stepU 27 _ rfl rfl (by go_simp) ⟨⟨_, hV2.set k (1 + (vl jr)), fun j hj => by unfold updI; rw [if_neg (by omega)]; exact hf2 j hj, fun j hj => by unfold updI; rw [if_neg (by omega)]; exact hz2 j hj⟩, trivial, hbx.2.setCell (Nat.le_refl _) _⟩ (fun hF => ?_))
          refine wpAnyH_done (by kernel_rfl) ?_ _
          have HN := show Hid (Vs _ w.heap.size t.length (updI f2 k (1 + (vl jr))) ∧ (∀ j, j < k + 1 → updI f2 k (1 + (vl jr)) j = vl j) ∧ (∀ j, k + 1 ≤ j → updI f2 k (1 + (vl jr)) j = 0) ∧ Below w.heap.size w _) from ⟨hV2.set k _, fun j hj => by unfold updI; split; (rename_i e; subst e; exact HVK.out.symm); exact hf2 j (by omega), fun j hj => by unfold updI; rw [if_neg (by omega)]; exact hz2 j (by omega), hF.2.2⟩
          generalize World.setCell _ _ (.int .i64 (1 + (vl jr))) = wf at *
          clear d0 df hV2 hf2 hz2 hbx hF
          go_wp2_with fail
          go_roundw
          case rel => exact ⟨k + 1, _, by omega, by go_num, HN⟩
          case measure => first | (simp [intOf]; done) | (simp [intOf]; omega)
        · have HVK := show Hid (vl k = 1 + vl jl) from by show vl k = 1 + vl jl; rw [HV3.out]; omega
          clear HV3
          refine takeV 0 (some 25) (.slice (some ⟨w.heap.size, 0, none⟩) t.length t.length) rfl rfl (by kernel_rfl) (by kernel_rfl) (by kernel_rfl) (fun _ _ _ h => h) rfl (fun wx hx => by go_simp) hH ?_
          simp only [Act.put, List.setIfInBounds_toArray, List.set_cons_zero, List.set_cons_succ]
          refine takeV 1 (some 26) (.int .i64 (k : Int)) rfl rfl (by kernel_rfl) (by kernel_rfl) (by kernel_rfl) (fun _ _ _ h => h) rfl (fun wx hx => by go_simp) hH ?_
          simp only [Act.put, List.setIfInBounds_toArray, List.set_cons_zero, List.set_cons_succ]
          refine takeV 2 (some 27) (.slice (some ⟨w.heap.size, 0, none⟩) t.length t.length) rfl rfl (by kernel_rfl) (by kernel_rfl) (by kernel_rfl) (fun _ _ _ h => h) rfl (fun wx hx => by go_simp) hH ?_
          simp only [Act.put, List.setIfInBounds_toArray, List.set_cons_zero, List.set_cons_succ]
          refine takeV 3 (some 28) (.pointer (some ⟨c, 0, none⟩)) rfl rfl (by kernel_rfl) (by kernel_rfl) (by kernel_rfl) (fun _ _ _ h => h) rfl (fun wx hx => by go_simp) hH ?_
          simp only [Act.put, List.setIfInBounds_toArray, List.set_cons_zero, List.set_cons_succ]
          refine takeV 4 (some 29) (.pointer (some ⟨c, 0, none⟩)) rfl rfl (by kernel_rfl) (by kernel_rfl) (by kernel_rfl) (fun _ _ _ h => h) rfl (fun wx hx => by go_simp) hH ?_
          simp only [Act.put, List.setIfInBounds_toArray, List.set_cons_zero, List.set_cons_succ]
          refine takeV 5 (some 30) (.pointer (some ⟨c, 0, none⟩)) rfl rfl (by kernel_rfl) (by kernel_rfl) (by kernel_rfl) (fun _ _ _ h => h) rfl (fun wx hx => by go_simp) hH ?_
          simp only [Act.put, List.setIfInBounds_toArray, List.set_cons_zero, List.set_cons_succ]
          refine takeV 6 (some 31) (.slice (some ⟨rg, ro, none⟩) t.length cp) rfl rfl (by kernel_rfl) (by kernel_rfl) (by kernel_rfl) (fun _ _ _ h => h) rfl (fun wx hx => by have hcc := (HRK.out wx hx.2.2).1; go_simp) hH ?_
          simp only [Act.put, List.setIfInBounds_toArray, List.set_cons_zero, List.set_cons_succ]
          refine takeV 7 (some 32) (.int .i64 (k : Int)) rfl rfl (by kernel_rfl) (by kernel_rfl) (by kernel_rfl) (fun _ _ _ h => h) rfl (fun wx hx => by go_simp) hH ?_
          simp only [Act.put, List.setIfInBounds_toArray, List.set_cons_zero, List.set_cons_succ]
          refine takeV 8 (some 33) (.pointer (some ⟨rg, ro + k * 4, none⟩)) rfl rfl (by kernel_rfl) (by kernel_rfl) (by kernel_rfl) (fun _ _ _ h => h) rfl (fun wx hx => by go_simp) hH ?_
          simp only [Act.put, List.setIfInBounds_toArray, List.set_cons_zero, List.set_cons_succ]
          refine takeV 9 (some 34) (.pointer (some ⟨rg, ro + k * 4 + 2, none⟩)) rfl rfl (by kernel_rfl) (by kernel_rfl) (by kernel_rfl) (fun _ _ _ h => h) rfl (fun wx hx => by go_simp) hH ?_
          simp only [Act.put, List.setIfInBounds_toArray, List.set_cons_zero, List.set_cons_succ]
          refine takeV 10 (some 35) (.int .i64 (jl : Int)) rfl rfl (by kernel_rfl) (by kernel_rfl) (by kernel_rfl) (fun _ _ _ h => h) rfl (fun wx hx => by have hcc := (HRK.out wx hx.2.2).2.c2; go_simp) hH ?_
          simp only [Act.put, List.setIfInBounds_toArray, List.set_cons_zero, List.set_cons_succ]
          refine takeV 11 (some 36) (.pointer (some ⟨w.heap.size, jl, none⟩)) rfl rfl (by kernel_rfl) (by kernel_rfl) (by kernel_rfl) (fun _ _ _ h => h) rfl (fun wx hx => by go_simp) hH ?_
          simp only [Act.put, List.setIfInBounds_toArray, List.set_cons_zero, List.set_cons_succ]
          refine takeV 12 (some 37) (.int .i64 (vl jl)) rfl rfl (by kernel_rfl) (by kernel_rfl) (by kernel_rfl) (fun _ _ _ h => h) rfl (fun wx hx => by have hcc := HSC.out wx hx jl (by omega); go_simp) hH ?_
          simp only [Act.put, List.setIfInBounds_toArray, List.set_cons_zero, List.set_cons_succ]
          refine takeV 13 (some 38) (.slice (some ⟨w.heap.size, 0, none⟩) t.length t.length) rfl rfl (by kernel_rfl) (by kernel_rfl) (by kernel_rfl) (fun _ _ _ h => h) rfl (fun wx hx => by go_simp) hH ?_
          simp only [Act.put, List.setIfInBounds_toArray, List.set_cons_zero, List.set_cons_succ]
          refine takeV 14 (some 39) (.pointer (some ⟨c, 0, none⟩)) rfl rfl (by kernel_rfl) (by kernel_rfl) (by kernel_rfl) (fun _ _ _ h => h) rfl (fun wx hx => by go_simp) hH ?_
          simp only [Act.put, List.setIfInBounds_toArray, List.set_cons_zero, List.set_cons_succ]
          refine takeV 15 (some 40) (.pointer (some ⟨c, 0, none⟩)) rfl rfl (by kernel_rfl) (by kernel_rfl) (by kernel_rfl) (fun _ _ _ h => h) rfl (fun wx hx => by go_simp) hH ?_
          simp only [Act.put, List.setIfInBounds_toArray, List.set_cons_zero, List.set_cons_succ]
          refine takeV 16 (some 41) (.pointer (some ⟨c, 0, none⟩)) rfl rfl (by kernel_rfl) (by kernel_rfl) (by kernel_rfl) (fun _ _ _ h => h) rfl (fun wx hx => by go_simp) hH ?_
          simp only [Act.put, List.setIfInBounds_toArray, List.set_cons_zero, List.set_cons_succ]
          refine takeV 17 (some 42) (.slice (some ⟨rg, ro, none⟩) t.length cp) rfl rfl (by kernel_rfl) (by kernel_rfl) (by kernel_rfl) (fun _ _ _ h => h) rfl (fun wx hx => by have hcc := (HRK.out wx hx.2.2).1; go_simp) hH ?_
          simp only [Act.put, List.setIfInBounds_toArray, List.set_cons_zero, List.set_cons_succ]
          refine takeV 18 (some 43) (.int .i64 (k : Int)) rfl rfl (by kernel_rfl) (by kernel_rfl) (by kernel_rfl) (fun _ _ _ h => h) rfl (fun wx hx => by go_simp) hH ?_
          simp only [Act.put, List.setIfInBounds_toArray, List.set_cons_zero, List.set_cons_succ]
          refine takeV 19 (some 44) (.pointer (some ⟨rg, ro + k * 4, none⟩)) rfl rfl (by kernel_rfl) (by kernel_rfl) (by kernel_rfl) (fun _ _ _ h => h) rfl (fun wx hx => by go_simp) hH ?_
          simp only [Act.put, List.setIfInBounds_toArray, List.set_cons_zero, List.set_cons_succ]
          refine takeV 20 (some 45) (.pointer (some ⟨rg, ro + k * 4 + 3, none⟩)) rfl rfl (by kernel_rfl) (by kernel_rfl) (by kernel_rfl) (fun _ _ _ h => h) rfl (fun wx hx => by go_simp) hH ?_
          simp only [Act.put, List.setIfInBounds_toArray, List.set_cons_zero, List.set_cons_succ]
          refine takeV 21 (some 46) (.int .i64 (jr : Int)) rfl rfl (by kernel_rfl) (by kernel_rfl) (by kernel_rfl) (fun _ _ _ h => h) rfl (fun wx hx => by have hcc := (HRK.out wx hx.2.2).2.c3; go_simp) hH ?_
          simp only [Act.put, List.setIfInBounds_toArray, List.set_cons_zero, List.set_cons_succ]
          refine takeV 22 (some 47) (.pointer (some ⟨w.heap.size, jr, none⟩)) rfl rfl (by kernel_rfl) (by kernel_rfl) (by kernel_rfl) (fun _ _ _ h => h) rfl (fun wx hx => by go_simp) hH ?_
          simp only [Act.put, List.setIfInBounds_toArray, List.set_cons_zero, List.set_cons_succ]
          refine takeV 23 (some 48) (.int .i64 (vl jr)) rfl rfl (by kernel_rfl) (by kernel_rfl) (by kernel_rfl) (fun _ _ _ h => h) rfl (fun wx hx => by have hcc := HSC.out wx hx jr (by omega); go_simp) hH ?_
          simp only [Act.put, List.setIfInBounds_toArray, List.set_cons_zero, List.set_cons_succ]
          refine oneH 24 (by kernel_rfl) rfl (stepW 24 (some 49) (.int .i64 (vl jl)) _ rfl rfl (by go_simp) hH (fun _ => ?_))
          simp only [Act.put, List.setIfInBounds_toArray, List.set_cons_zero, List.set_cons_succ]
          refine takeV 25 (some 50) (.int .i64 (1 + (vl jl))) rfl rfl (by kernel_rfl) (by kernel_rfl) (by kernel_rfl) (fun _ _ _ h => h) rfl (fun wx hx => by go_simp; rw [IntKind.wrap_i64]; omega) hH ?_
          simp only [Act.put, List.setIfInBounds_toArray, List.set_cons_zero, List.set_cons_succ]
          refine takeV 26 (some 51) (.pointer (some ⟨w.heap.size, k, none⟩)) rfl rfl (by kernel_rfl) (by kernel_rfl) (by kernel_rfl) (fun _ _ _ h => h) rfl (fun wx hx => by go_simp) hH ?_
          simp only [Act.put, List.setIfInBounds_toArray, List.set_cons_zero, List.set_cons_succ]
          obtain ⟨⟨f2, hV2, hf2, hz2⟩, hbx⟩ := hH
          have d0 := hV2.cell (j := k) hlt; have df := hV2.fr
          refine oneH 27 (by kernel_rfl) rfl (stepU 27 _ rfl rfl (by go_simp) ⟨⟨_, hV2.set k (1 + (vl jl)), fun j hj => by unfold updI; rw [if_neg (by omega)]; exact hf2 j hj, fun j hj => by unfold updI; rw [if_neg (by omega)]; exact hz2 j hj⟩, trivial, hbx.2.setCell (Nat.le_refl _) _⟩ (fun hF => ?_))
          refine wpAnyH_done (by kernel_rfl) ?_ _
          have HN := show Hid (Vs _ w.heap.size t.length (updI f2 k (1 + (vl jl))) ∧ (∀ j, j < k + 1 → updI f2 k (1 + (vl jl)) j = vl j) ∧ (∀ j, k + 1 ≤ j → updI f2 k (1 + (vl jl)) j = 0) ∧ Below w.heap.size w _) from ⟨hV2.set k _, fun j hj => by unfold updI; split; (rename_i e; subst e; exact HVK.out.symm); exact hf2 j (by omega), fun j hj => by unfold updI; rw [if_neg (by omega)]; exact hz2 j (by omega), hF.2.2⟩
          generalize World.setCell _ _ (.int .i64 (1 + (vl jl))) = wf at *
          clear d0 df hV2 hf2 hz2 hbx hF
          go_wp2_with fail
          go_roundw
          case rel => exact ⟨k + 1, _, by omega, by go_num, HN⟩
          case measure => first | (simp [intOf]; done) | (simp [intOf]; omega)
    · have hke : k = t.length := by omega
      subst hke
      clear HR HV HIN HP HKD HRW
      have HE := show Hid (Vs wr w.heap.size t.length vl ∧ Below w.heap.size w wr) from by
        refine ⟨?_, HI.out.2.2.2⟩
        have h := HI.out.1
        unfold Vs at h ⊢
        rw [h]
        congr 2
        apply Array.ext'
        simp only [List.map_inj_left]
        intro j hj
        rw [HI.out.2.1 j (by simpa using hj)]
      clear HI
      go_wp2_with fail
      go_ret
      exact ⟨rfl, HE.out⟩
end Go.Proofs.YthdcppkohalkmaaGreat
