/-
  The document's counts, row by row: Sizes and what it calls. For every table of the document's that calls made.
-/
import Derived.Test.YtkmmlimekachbaaGreatDoorMG1
import Derived.Test.YtkmmlimekachbaaGreatDoorRG1
import Derived.Test.YtkmmlimekachbaaGreatDoorMG2
namespace Go.Proofs.YtkmmlimekachbaaGreatDoor
open Go.RowKit Go.Maps
open Fm (Nd)

def Vm (w : World) (g n : Nat) (f : Nat → Int) : Prop := w.heap[g]? = some (.cells ((List.range n).map fun j => Value.int .i64 (f j)).toArray 3 (0, 0))
def updI (f : Nat → Int) (i : Nat) (x : Int) : Nat → Int := fun j => if j = i then x else f j
section
variable {w w' : World} {g n : Nat} {f : Nat → Int}
theorem Vm.cell (h : Vm w g n f) {j : Nat} (hj : j < n) : w.cell? ⟨g, j, none⟩ = some (.int .i64 (f j)) := by
  rw [cell_of_row w g j _ _ _ h]
  simp [hj]
theorem Vm.fr (h : Vm w g n f) (j : Nat) : w.frozen? ⟨g, j, none⟩ = false := frozen_of_row w g j _ _ h
theorem Vm.set (h : Vm w g n f) (j : Nat) (x : Int) : Vm (w.setCell ⟨g, j, none⟩ (.int .i64 x)) g n (updI f j x) := by
  have h1 : (w.setCell ⟨g, j, none⟩ (.int .i64 x)).heap[g]? = some (.cells (((List.range n).map fun j => Value.int .i64 (f j)).toArray.setIfInBounds j (.int .i64 x)) 3 (0, 0)) := heap_setCell_same w g j _ _ _ h
  unfold Vm
  rw [h1]
  congr 2
  apply Array.ext'
  apply List.ext_getElem?
  intro i
  by_cases hi : i < n
  · by_cases e : i = j
    · subst e
      simp [updI, hi]
    · simp [updI, hi, e, Ne.symm e]
  · simp [hi]
theorem Vm.keep {B : Nat} (h : Vm w g n f) (hb : Below B w w') (hg : g < B) : Vm w' g n f := (hb.block g hg).trans h
theorem Vm.lt (h : Vm w g n f) : g < w.heap.size := lt_of_block h
end
theorem vs_made (w : World) (n : Nat) : Vm (w.alloc (.cells (madeCells #[.int .i64 0] n) 3)) w.heap.size n (fun _ => 0) := by
  unfold Vm
  rw [heap_alloc_new]
  congr 2
  apply Array.ext'
  rw [toList_madeCells_one]
  simp [List.map_const']
set_option maxHeartbeats 400000 in
theorem two_any (w : World) (n : Nd) (hk : n.k = 1 ∨ n.k = 2 ∨ Fm.jn n.k = true) : Calls Tryz.prog 139 #[.agg #[.int .i64 n.k, .string n.s, .int .i64 n.l, .int .i64 n.r]] w fun e w' => e = .returned (.bool (Fm.jn n.k)) ∧ w' = w.alloc (Obj.cells #[.int .i64 n.k, .string n.s, .int .i64 n.l, .int .i64 n.r] 140) := by
  obtain ⟨k, s, l, r⟩ := n
  simp only at hk ⊢
  rcases hk with rfl | rfl | hk
  · rw [show Fm.jn 1 = false from rfl]
    go_enter Tryz.func139, Tryz.ntmps139
    go_wp2
    go_ret
    exact ⟨rfl, rfl⟩
  · rw [show Fm.jn 2 = false from rfl]
    go_enter Tryz.func139, Tryz.ntmps139
    go_wp2
    go_ret
    exact ⟨rfl, rfl⟩
  · have h1 : (k != 1) = true := by
      have : k ≠ 1 := fun e => by rw [e] at hk; cases hk
      simpa using this
    have h2 : (k != 2) = true := by
      have : k ≠ 2 := fun e => by rw [e] at hk; cases hk
      simpa using this
    rw [hk]
    go_enter Tryz.func139, Tryz.ntmps139
    go_wp2
    go_ret
    exact ⟨rfl, rfl⟩
set_option maxHeartbeats 400000 in
theorem rsum_any (w : World) (x y : Int) (hx : 0 ≤ x ∧ x ≤ 1099511627776) (hy : 0 ≤ y ∧ y ≤ 1099511627776) : Calls Tryz.prog 140 #[.int .i64 x, .int .i64 y] w fun e w' => e = .returned (.int .i64 (Ms.sm x y)) ∧ w' = w := by
  have HR := show Hid (Ms.sm x y = if x + y > 1099511627776 then 1099511627776 else x + y) from rfl
  generalize Ms.sm x y = r at *
  by_cases h : 1099511627776 < x + y
  · have hr := HR.out
    rw [if_pos h] at hr
    subst hr
    clear HR
    go_enter Tryz.func140, Tryz.ntmps140
    go_wp2
    go_ret
    exact ⟨rfl, rfl⟩
  · have hr := HR.out
    rw [if_neg h] at hr
    subst hr
    clear HR
    go_enter Tryz.func140, Tryz.ntmps140
    go_wp2
    go_ret
    exact ⟨rfl, rfl⟩
end Go.Proofs.YtkmmlimekachbaaGreatDoor
/-
  The document's weights, row by row. For every table of the document's that calls made.
-/
namespace Go.Proofs.YtkmmlimekachbaaGreatDoor
open Go.RowKit Go.Maps
open Fm (Nd)

set_option maxRecDepth 100000 in
set_option maxHeartbeats 4000000 in
theorem rweights_any (w : World) {c : Nat} {u : Value} {t : List Nd} (hT : Tr w c u t) :
    Calls Tryz.prog 89 #[.pointer (some ⟨c, 0, none⟩)] w fun e w' => e = .returned (.slice (some ⟨w.heap.size, 0, none⟩) t.length t.length) ∧ Vm w' w.heap.size t.length (Ms.weightV t) ∧ Below w.heap.size w w' := by
  have hok := hT.ok
  have hlen := hok.len
  have hmk : ∀ w : World, (Instr.makeSlice 28 (.int .i64 (t.length : Int)) (.int .i64 (t.length : Int))).run Tryz.prog w = .ok (.slice (some ⟨w.heap.size, 0, none⟩) t.length t.length) (w.alloc (.cells (madeCells #[.int .i64 0] t.length) 3)) := fun w => by
    have h := run_make_row' (P := Tryz.prog) 28 3 (.int .i64 0) 8 Tryz.underlying28 info_int rfl .i64 .i64 t.length (by omega) (by omega) w
    exact h
  obtain ⟨p, cp, hv, hc1, hc2, hat⟩ := hT.row.isR
  have hc0 := hT.c0
  rw [hv] at hc0
  have HR := show Hid (∀ w', Below w.heap.size w w' → w'.cell? ⟨c, 0, none⟩ = some (.slice p t.length cp) ∧ ∀ k (hk : k < t.length), ∃ rg ro, p = some ⟨rg, ro, none⟩ ∧ At4 w' rg (ro + k * 4) t[k]) from fun w' hb => by
    have hT' := hT.later hb
    obtain ⟨p2, cp2, hv2, _, _, hat2⟩ := hT'.row.isR
    rw [hv] at hv2
    obtain ⟨rfl, _, rfl⟩ := Value.slice.inj hv2
    refine ⟨by rw [← hv]; exact hT'.c0, fun k hk => ?_⟩
    obtain ⟨rg, ro, hp, h4⟩ := hat2 (by omega)
    exact ⟨rg, ro, hp, h4 k hk⟩
  have HB0 := show Hid (Vm (w.alloc (.cells (madeCells #[.int .i64 0] t.length) 3)) w.heap.size t.length (fun _ => 0)) from vs_made w t.length
  have HBA := show Hid (Below w.heap.size w (w.alloc (.cells (madeCells #[.int .i64 0] t.length) 3))) from below_alloc w _
  have HV := show Hid (∀ k, k < t.length → Ms.weightV t k = if Fm.jn (Ms.row t k).k then Ms.weightG (Ms.row t k).k (Ms.weightV t (Ms.row t k).l.toNat) (Ms.weightV t (Ms.row t k).r.toNat) else 1) from fun k hk => by
    show Ms.weightV t k = _
    rw [(Ms.weight_ref hok hk).1, Ms.val_eq hok hk]
    split
    · rename_i hj
      have hp := Ms.parts_lt hok hk hj
      rw [(Ms.weight_ref hok (i := (Ms.row t k).l.toNat) (by omega)).1, (Ms.weight_ref hok (i := (Ms.row t k).r.toNat) (by omega)).1]
    · rfl
  have HIN := show Hid (∀ k, k < t.length → 0 ≤ Ms.weightV t k ∧ Ms.weightV t k ≤ 1099511627776) from fun k hk => by have := (Ms.weight_ref hok hk).2; unfold Ms.M at this; omega
  have HP := show Hid (∀ k, k < t.length → Fm.jn (Ms.row t k).k = true → (Ms.row t k).l.toNat < k ∧ (Ms.row t k).r.toNat < k ∧ 0 ≤ (Ms.row t k).l ∧ 0 ≤ (Ms.row t k).r) from fun k hk h => Ms.parts_lt hok hk h
  have HKD := show Hid (∀ k (hk : k < t.length), (Ms.row t k).k = 1 ∨ (Ms.row t k).k = 2 ∨ Fm.jn (Ms.row t k).k = true) from fun k hk => by rw [Ms.row_at hk]; exact Fm.ok_kind hok hk
  have HRW := show Hid (∀ k (hk : k < t.length), t[k] = Ms.row t k) from fun k hk => (Ms.row_at hk).symm
  generalize Ms.weightV t = vl at *
  clear hT hat hv hok
  go_enter Tryz.func89, Tryz.ntmps89
  go_wp2_with fail
  go_loopw [4] (fun iv wr => ∃ (k : Nat) (f : Nat → Int), k ≤ t.length ∧ iv = .int .i64 (k : Int) ∧ Hid (Vm wr w.heap.size t.length f ∧ (∀ j, j < k → f j = vl j) ∧ Below w.heap.size w wr)) (fun iv _ => t.length - (intOf iv).toNat)
  case atStart => exact ⟨0, fun _ => 0, by omega, rfl, HB0.out, fun j h => by omega, HBA.out⟩
  case round =>
    obtain ⟨k, f, hk, rfl, HI⟩ := hrel
    clear HB0 HBA hmk hc0
    by_cases hlt : k < t.length
    · have hki : (k : Int) < (t.length : Int) := by omega
      have b0 := HI.out.1.cell (j := k) hlt
      have bf := HI.out.1.fr
      obtain ⟨w2, hw2⟩ : ∃ w2, w2 = wr.setCell ⟨w.heap.size, k, none⟩ (.int .i64 1) := ⟨_, rfl⟩
      have HI2 := show Hid (Vm w2 w.heap.size t.length (updI f k 1) ∧ (∀ j, j < k → updI f k 1 j = vl j) ∧ Below w.heap.size w w2) from by
        rw [hw2]
        refine ⟨HI.out.1.set k 1, fun j hj => ?_, HI.out.2.2.setCell (Nat.le_refl _) _⟩
        unfold updI
        rw [if_neg (by omega)]
        exact HI.out.2.1 j hj
      obtain ⟨hc2', hrow⟩ := HR.out w2 HI2.out.2.2
      obtain ⟨rg, ro, rfl, hA⟩ := hrow k hlt
      rw [HRW.out k hlt] at hA
      have a0 := hA.c0; have a1 := hA.c1; have a2 := hA.c2; have a3 := hA.c3
      have KT := show Hid (∀ w : World, Calls Tryz.prog 139 #[.agg #[.int .i64 (Ms.row t k).k, .string (Ms.row t k).s, .int .i64 (Ms.row t k).l, .int .i64 (Ms.row t k).r]] w fun e w' => e = .returned (.bool (Fm.jn (Ms.row t k).k)) ∧ w' = w.alloc (Obj.cells #[.int .i64 (Ms.row t k).k, .string (Ms.row t k).s, .int .i64 (Ms.row t k).l, .int .i64 (Ms.row t k).r] 140)) from fun w => two_any w _ (HKD.out k hlt)
      have HV2 := show Hid _ from HV.out k hlt
      have HP2 := show Hid _ from HP.out k hlt
      have HRK := show Hid (∀ w', Below w.heap.size w w' → w'.cell? ⟨c, 0, none⟩ = some (.slice (some ⟨rg, ro, none⟩) t.length cp) ∧ At4 w' rg (ro + k * 4) (Ms.row t k)) from fun w' hb => by
        obtain ⟨h1, h2⟩ := HR.out w' hb
        obtain ⟨rg2, ro2, e2, h3⟩ := h2 k hlt
        cases e2
        rw [HRW.out k hlt] at h3
        exact ⟨h1, h3⟩
      clear HV HP HKD HRW hrow HR hA HI
      generalize Ms.row t k = nd at *
      obtain ⟨nk, ns, nl, nr⟩ := nd
      simp only at a0 a1 a2 a3 KT HV2 HP2
      rw [hw2] at hc2' a0 a1 a2 a3
      have HW2 := show Hid (w2 = wr.setCell ⟨w.heap.size, k, none⟩ (.int .i64 1)) from hw2
      clear hw2
      cases hjn : Fm.jn nk
      · rw [hjn] at KT
        have hv := HV2.out
        rw [hjn] at hv
        simp only [Bool.false_eq_true, if_false] at hv
        have HN := show Hid (Vm (w2.alloc (Obj.cells #[.int .i64 nk, .string ns, .int .i64 nl, .int .i64 nr] 140)) w.heap.size t.length (updI f k 1) ∧ (∀ j, j < k + 1 → updI f k 1 j = vl j) ∧ Below w.heap.size w (w2.alloc (Obj.cells #[.int .i64 nk, .string ns, .int .i64 nl, .int .i64 nr] 140))) from by
          refine ⟨(Below.heap_alloc _ _ _ HI2.out.1.lt).trans HI2.out.1, fun j hj => ?_, HI2.out.2.2.alloc HI2.out.2.2.size _⟩
          by_cases e : j = k
          · subst e; rw [hv]; unfold updI; rw [if_pos rfl]
          · exact HI2.out.2.1 j (by omega)
        clear HV2 HP2 HRK hv
        go_wp2_with fail
        rw [← HW2.out]
        refine (KT.out _).mono ?_
        rintro e w3 ⟨rfl, rfl⟩
        clear hc2' a0 a1 a2 a3 KT
        go_wp2_with fail
        go_roundw
        case rel => exact ⟨k + 1, _, by omega, by go_num, HN⟩
        case measure => first | (simp [intOf]; done) | (simp [intOf]; omega)
      · rw [hjn] at KT
        have hv := HV2.out
        rw [hjn] at hv
        simp only [if_true] at hv
        obtain ⟨hpl, hpr, hl0, hr0⟩ := HP2.out hjn
        obtain ⟨jl, rfl⟩ : ∃ jl : Nat, nl = jl := ⟨nl.toNat, by omega⟩
        obtain ⟨jr, rfl⟩ : ∃ jr : Nat, nr = jr := ⟨nr.toNat, by omega⟩
        simp only [Int.toNat_natCast] at hpl hpr hv
        have HVK := show Hid (vl k = if nk = 3 then Ms.sm (Ms.sm 1 (Ms.sm (vl jl) (vl jr))) 1 else Ms.sm 1 (Ms.sm (vl jl) (vl jr))) from hv
        have HSM := show Hid (0 ≤ Ms.sm (vl jl) (vl jr) ∧ Ms.sm (vl jl) (vl jr) ≤ 1099511627776) from by
          have h1 := HIN.out jl (by omega)
          have h2 := HIN.out jr (by omega)
          show 0 ≤ Ms.sm (vl jl) (vl jr) ∧ Ms.sm (vl jl) (vl jr) ≤ 1099511627776
          unfold Ms.sm Ms.M
          split <;> omega
        have HN := show Hid (Vm (w2.alloc (Obj.cells #[.int .i64 nk, .string ns, .int .i64 (jl : Int), .int .i64 (jr : Int)] 140)) w.heap.size t.length (updI f k 1) ∧ (∀ j, j < k → updI f k 1 j = vl j) ∧ Below w.heap.size w (w2.alloc (Obj.cells #[.int .i64 nk, .string ns, .int .i64 (jl : Int), .int .i64 (jr : Int)] 140))) from
          ⟨(Below.heap_alloc _ _ _ HI2.out.1.lt).trans HI2.out.1, HI2.out.2.1, HI2.out.2.2.alloc HI2.out.2.2.size _⟩
        have hjli : (jl : Int) < (t.length : Int) := by omega
        have hjri : (jr : Int) < (t.length : Int) := by omega
        have HSC := show Hid (∀ wx, ((∃ f, Vm wx w.heap.size t.length f ∧ ∀ j, j < k → f j = vl j) ∧ True ∧ Below w.heap.size w wx) → ∀ i, i < k → wx.cell? ⟨w.heap.size, i, none⟩ = some (.int .i64 (vl i))) from fun wx hx i hi => by
          obtain ⟨⟨f', h1, h2⟩, _⟩ := hx
          rw [← h2 i hi]
          exact h1.cell (by omega)
        clear HV2 HP2 hv
        go_wp2_with fail
        rw [← HW2.out]
        refine (KT.out _).mono ?_
        rintro e w3 ⟨rfl, rfl⟩
        clear hc2' a0 a1 a2 a3 KT HI2
        generalize w2.alloc (Obj.cells #[.int .i64 nk, .string ns, .int .i64 (jl : Int), .int .i64 (jr : Int)] 140) = w3 at *
        go_wp2_with fail
        refine wp_region_held_drew (S := fun wx => (∃ f, Vm wx w.heap.size t.length f ∧ ∀ j, j < k → f j = vl j) ∧ True ∧ Below w.heap.size w wx) (by kernel_rfl) ⟨⟨_, HN.out.1, HN.out.2.1⟩, trivial, HN.out.2.2.drew⟩ (fun hH => ?_)
        clear HN
        refine takeV 0 (some 28) (.slice (some ⟨w.heap.size, 0, none⟩) t.length t.length) rfl rfl (by kernel_rfl) (by kernel_rfl) (by kernel_rfl) (fun _ _ _ h => h) rfl (fun wx hx => by go_simp) hH ?_
        simp only [Act.put, List.setIfInBounds_toArray, List.set_cons_zero, List.set_cons_succ]
        refine takeV 1 (some 29) (.int .i64 (k : Int)) rfl rfl (by kernel_rfl) (by kernel_rfl) (by kernel_rfl) (fun _ _ _ h => h) rfl (fun wx hx => by go_simp) hH ?_
        simp only [Act.put, List.setIfInBounds_toArray, List.set_cons_zero, List.set_cons_succ]
        refine takeV 2 (some 30) (.slice (some ⟨w.heap.size, 0, none⟩) t.length t.length) rfl rfl (by kernel_rfl) (by kernel_rfl) (by kernel_rfl) (fun _ _ _ h => h) rfl (fun wx hx => by go_simp) hH ?_
        simp only [Act.put, List.setIfInBounds_toArray, List.set_cons_zero, List.set_cons_succ]
        refine takeV 3 (some 31) (.pointer (some ⟨c, 0, none⟩)) rfl rfl (by kernel_rfl) (by kernel_rfl) (by kernel_rfl) (fun _ _ _ h => h) rfl (fun wx hx => by go_simp) hH ?_
        simp only [Act.put, List.setIfInBounds_toArray, List.set_cons_zero, List.set_cons_succ]
        refine takeV 4 (some 32) (.pointer (some ⟨c, 0, none⟩)) rfl rfl (by kernel_rfl) (by kernel_rfl) (by kernel_rfl) (fun _ _ _ h => h) rfl (fun wx hx => by go_simp) hH ?_
        simp only [Act.put, List.setIfInBounds_toArray, List.set_cons_zero, List.set_cons_succ]
        refine takeV 5 (some 33) (.pointer (some ⟨c, 0, none⟩)) rfl rfl (by kernel_rfl) (by kernel_rfl) (by kernel_rfl) (fun _ _ _ h => h) rfl (fun wx hx => by go_simp) hH ?_
        simp only [Act.put, List.setIfInBounds_toArray, List.set_cons_zero, List.set_cons_succ]
        refine takeV 6 (some 34) (.slice (some ⟨rg, ro, none⟩) t.length cp) rfl rfl (by kernel_rfl) (by kernel_rfl) (by kernel_rfl) (fun _ _ _ h => h) rfl (fun wx hx => by have hcc := (HRK.out wx hx.2.2).1; go_simp) hH ?_
        simp only [Act.put, List.setIfInBounds_toArray, List.set_cons_zero, List.set_cons_succ]
        refine takeV 7 (some 35) (.int .i64 (k : Int)) rfl rfl (by kernel_rfl) (by kernel_rfl) (by kernel_rfl) (fun _ _ _ h => h) rfl (fun wx hx => by go_simp) hH ?_
        simp only [Act.put, List.setIfInBounds_toArray, List.set_cons_zero, List.set_cons_succ]
        refine takeV 8 (some 36) (.pointer (some ⟨rg, ro + k * 4, none⟩)) rfl rfl (by kernel_rfl) (by kernel_rfl) (by kernel_rfl) (fun _ _ _ h => h) rfl (fun wx hx => by go_simp) hH ?_
        simp only [Act.put, List.setIfInBounds_toArray, List.set_cons_zero, List.set_cons_succ]
        refine takeV 9 (some 37) (.pointer (some ⟨rg, ro + k * 4 + 2, none⟩)) rfl rfl (by kernel_rfl) (by kernel_rfl) (by kernel_rfl) (fun _ _ _ h => h) rfl (fun wx hx => by go_simp) hH ?_
        simp only [Act.put, List.setIfInBounds_toArray, List.set_cons_zero, List.set_cons_succ]
        refine takeV 10 (some 38) (.int .i64 (jl : Int)) rfl rfl (by kernel_rfl) (by kernel_rfl) (by kernel_rfl) (fun _ _ _ h => h) rfl (fun wx hx => by have hcc := (HRK.out wx hx.2.2).2.c2; go_simp) hH ?_
        simp only [Act.put, List.setIfInBounds_toArray, List.set_cons_zero, List.set_cons_succ]
        refine takeV 11 (some 39) (.pointer (some ⟨w.heap.size, jl, none⟩)) rfl rfl (by kernel_rfl) (by kernel_rfl) (by kernel_rfl) (fun _ _ _ h => h) rfl (fun wx hx => by go_simp) hH ?_
        simp only [Act.put, List.setIfInBounds_toArray, List.set_cons_zero, List.set_cons_succ]
        refine takeV 12 (some 40) (.int .i64 (vl jl)) rfl rfl (by kernel_rfl) (by kernel_rfl) (by kernel_rfl) (fun _ _ _ h => h) rfl (fun wx hx => by have hcc := HSC.out wx hx jl (by omega); go_simp) hH ?_
        simp only [Act.put, List.setIfInBounds_toArray, List.set_cons_zero, List.set_cons_succ]
        refine takeV 13 (some 41) (.slice (some ⟨w.heap.size, 0, none⟩) t.length t.length) rfl rfl (by kernel_rfl) (by kernel_rfl) (by kernel_rfl) (fun _ _ _ h => h) rfl (fun wx hx => by go_simp) hH ?_
        simp only [Act.put, List.setIfInBounds_toArray, List.set_cons_zero, List.set_cons_succ]
        refine takeV 14 (some 42) (.pointer (some ⟨c, 0, none⟩)) rfl rfl (by kernel_rfl) (by kernel_rfl) (by kernel_rfl) (fun _ _ _ h => h) rfl (fun wx hx => by go_simp) hH ?_
        simp only [Act.put, List.setIfInBounds_toArray, List.set_cons_zero, List.set_cons_succ]
        refine takeV 15 (some 43) (.pointer (some ⟨c, 0, none⟩)) rfl rfl (by kernel_rfl) (by kernel_rfl) (by kernel_rfl) (fun _ _ _ h => h) rfl (fun wx hx => by go_simp) hH ?_
        simp only [Act.put, List.setIfInBounds_toArray, List.set_cons_zero, List.set_cons_succ]
        refine takeV 16 (some 44) (.pointer (some ⟨c, 0, none⟩)) rfl rfl (by kernel_rfl) (by kernel_rfl) (by kernel_rfl) (fun _ _ _ h => h) rfl (fun wx hx => by go_simp) hH ?_
        simp only [Act.put, List.setIfInBounds_toArray, List.set_cons_zero, List.set_cons_succ]
        refine takeV 17 (some 45) (.slice (some ⟨rg, ro, none⟩) t.length cp) rfl rfl (by kernel_rfl) (by kernel_rfl) (by kernel_rfl) (fun _ _ _ h => h) rfl (fun wx hx => by have hcc := (HRK.out wx hx.2.2).1; go_simp) hH ?_
        simp only [Act.put, List.setIfInBounds_toArray, List.set_cons_zero, List.set_cons_succ]
        refine takeV 18 (some 46) (.int .i64 (k : Int)) rfl rfl (by kernel_rfl) (by kernel_rfl) (by kernel_rfl) (fun _ _ _ h => h) rfl (fun wx hx => by go_simp) hH ?_
        simp only [Act.put, List.setIfInBounds_toArray, List.set_cons_zero, List.set_cons_succ]
        refine takeV 19 (some 47) (.pointer (some ⟨rg, ro + k * 4, none⟩)) rfl rfl (by kernel_rfl) (by kernel_rfl) (by kernel_rfl) (fun _ _ _ h => h) rfl (fun wx hx => by go_simp) hH ?_
        simp only [Act.put, List.setIfInBounds_toArray, List.set_cons_zero, List.set_cons_succ]
        refine takeV 20 (some 48) (.pointer (some ⟨rg, ro + k * 4 + 3, none⟩)) rfl rfl (by kernel_rfl) (by kernel_rfl) (by kernel_rfl) (fun _ _ _ h => h) rfl (fun wx hx => by go_simp) hH ?_
        simp only [Act.put, List.setIfInBounds_toArray, List.set_cons_zero, List.set_cons_succ]
        refine takeV 21 (some 49) (.int .i64 (jr : Int)) rfl rfl (by kernel_rfl) (by kernel_rfl) (by kernel_rfl) (fun _ _ _ h => h) rfl (fun wx hx => by have hcc := (HRK.out wx hx.2.2).2.c3; go_simp) hH ?_
        simp only [Act.put, List.setIfInBounds_toArray, List.set_cons_zero, List.set_cons_succ]
        refine takeV 22 (some 50) (.pointer (some ⟨w.heap.size, jr, none⟩)) rfl rfl (by kernel_rfl) (by kernel_rfl) (by kernel_rfl) (fun _ _ _ h => h) rfl (fun wx hx => by go_simp) hH ?_
        simp only [Act.put, List.setIfInBounds_toArray, List.set_cons_zero, List.set_cons_succ]
        refine takeV 23 (some 51) (.int .i64 (vl jr)) rfl rfl (by kernel_rfl) (by kernel_rfl) (by kernel_rfl) (fun _ _ _ h => h) rfl (fun wx hx => by have hcc := HSC.out wx hx jr (by omega); go_simp) hH ?_
        simp only [Act.put, List.setIfInBounds_toArray, List.set_cons_zero, List.set_cons_succ]
        refine oneH 24 (by kernel_rfl) rfl (stepC 24 (some 52) rfl rfl 140 _ _ rfl [.int .i64 (vl jl), .int .i64 (vl jr)] rfl (fun _ _ => Tryz.call140 _ _) ?_)
        refine (rsum_any _ _ _ (HIN.out jl (by omega)) (HIN.out jr (by omega))).mono ?_
        rintro e w' ⟨rfl, hw'⟩
        subst w'
        refine ⟨_, rfl, hH, fun _ => ?_⟩
        simp only [Act.put, List.setIfInBounds_toArray, List.set_cons_zero, List.set_cons_succ]
        refine oneH 25 (by kernel_rfl) rfl (stepC 25 (some 53) rfl rfl 140 _ _ rfl [.int .i64 1, .int .i64 (Ms.sm (vl jl) (vl jr))] rfl (fun _ _ => Tryz.call140 _ _) ?_)
        refine (rsum_any _ _ _ (by omega) HSM.out).mono ?_
        rintro e w' ⟨rfl, hw'⟩
        subst w'
        refine ⟨_, rfl, hH, fun _ => ?_⟩
        simp only [Act.put, List.setIfInBounds_toArray, List.set_cons_zero, List.set_cons_succ]
        refine takeV 26 (some 54) (.pointer (some ⟨w.heap.size, k, none⟩)) rfl rfl (by kernel_rfl) (by kernel_rfl) (by kernel_rfl) (fun _ _ _ h => h) rfl (fun wx hx => by go_simp) hH ?_
        simp only [Act.put, List.setIfInBounds_toArray, List.set_cons_zero, List.set_cons_succ]
        obtain ⟨⟨f2, hV2, hf2⟩, hbx⟩ := hH
        have d0 := hV2.cell (j := k) hlt; have df := hV2.fr
        refine oneH 27 (by kernel_rfl) rfl (stepU 27 _ rfl rfl (by go_simp) ⟨⟨_, hV2.set k (Ms.sm 1 (Ms.sm (vl jl) (vl jr))), fun j hj => by unfold updI; rw [if_neg (by omega)]; exact hf2 j hj⟩, trivial, hbx.2.setCell (Nat.le_refl _) _⟩ (fun hF => ?_))
        refine wpAnyH_done (by kernel_rfl) ?_ _
        have HN := show Hid (Vm _ w.heap.size t.length (updI f2 k (Ms.sm 1 (Ms.sm (vl jl) (vl jr)))) ∧ (∀ j, j < k → updI f2 k (Ms.sm 1 (Ms.sm (vl jl) (vl jr))) j = vl j) ∧ Below w.heap.size w _) from ⟨hV2.set k _, fun j hj => by unfold updI; rw [if_neg (by omega)]; exact hf2 j hj, hF.2.2⟩
        have HX := show Hid (updI f2 k (Ms.sm 1 (Ms.sm (vl jl) (vl jr))) k = Ms.sm 1 (Ms.sm (vl jl) (vl jr)) ∧ 0 ≤ Ms.sm 1 (Ms.sm (vl jl) (vl jr)) ∧ Ms.sm 1 (Ms.sm (vl jl) (vl jr)) ≤ 1099511627776) from by
          refine ⟨if_pos rfl, ?_⟩
          have h := HSM.out
          generalize Ms.sm (vl jl) (vl jr) = q at *
          unfold Ms.sm Ms.M
          split <;> omega
        generalize updI f2 k (Ms.sm 1 (Ms.sm (vl jl) (vl jr))) = f3 at *
        generalize World.setCell _ _ (.int .i64 (Ms.sm 1 (Ms.sm (vl jl) (vl jr)))) = wf at *
        generalize Ms.sm 1 (Ms.sm (vl jl) (vl jr)) = xv at *
        obtain ⟨hcT, hA⟩ := HRK.out wf HN.out.2.2
        have a0 := hA.c0; have a1 := hA.c1; have a2 := hA.c2; have a3 := hA.c3
        simp only at a0 a1 a2 a3
        clear d0 df hV2 hf2 hbx hF HRK hA HSC
        by_cases h3 : nk = 3
        · subst h3
          have hv := HVK.out
          rw [if_pos rfl] at hv
          have e0 := HN.out.1.cell (j := k) hlt
          rw [HX.out.1] at e0
          have ef := HN.out.1.fr
          have KS := show Hid (Calls Tryz.prog 140 #[.int .i64 xv, .int .i64 1] wf fun e w' => e = .returned (.int .i64 (Ms.sm xv 1)) ∧ w' = wf) from rsum_any wf xv 1 HX.out.2 (by omega)
          have HN2 := show Hid (Vm (wf.setCell ⟨w.heap.size, k, none⟩ (.int .i64 (Ms.sm xv 1))) w.heap.size t.length (updI f3 k (Ms.sm xv 1)) ∧ (∀ j, j < k + 1 → updI f3 k (Ms.sm xv 1) j = vl j) ∧ Below w.heap.size w (wf.setCell ⟨w.heap.size, k, none⟩ (.int .i64 (Ms.sm xv 1)))) from by
            refine ⟨HN.out.1.set k _, fun j hj => ?_, HN.out.2.2.setCell (Nat.le_refl _) _⟩
            unfold updI
            split
            · rename_i e; subst e; exact hv.symm
            · exact HN.out.2.1 j (by omega)
          clear HVK hv HN HX HSM HIN
          generalize Ms.sm xv 1 = yv at *
          go_wp2_with fail
          refine KS.out.mono ?_
          rintro e w5 ⟨rfl, hw5⟩
          subst w5
          clear KS hcT a0 a1 a2 a3
          go_wp2_with fail
          go_roundw
          case rel => exact ⟨k + 1, _, by omega, by go_num, HN2⟩
          case measure => first | (simp [intOf]; done) | (simp [intOf]; omega)
        · have h3b : (nk == 3) = false := by simpa using h3
          have hv := HVK.out
          rw [if_neg h3] at hv
          have HN2 := show Hid (Vm wf w.heap.size t.length f3 ∧ (∀ j, j < k + 1 → f3 j = vl j) ∧ Below w.heap.size w wf) from by
            refine ⟨HN.out.1, fun j hj => ?_, HN.out.2.2⟩
            by_cases e : j = k
            · subst e; rw [HX.out.1, hv]
            · exact HN.out.2.1 j (by omega)
          clear HVK hv HN HX HSM HIN
          go_wp2_with fail
          go_roundw
          case rel => exact ⟨k + 1, _, by omega, by go_num, HN2⟩
          case measure => first | (simp [intOf]; done) | (simp [intOf]; omega)
    · have hke : k = t.length := by omega
      subst hke
      clear HR HV HIN HP HKD HRW
      have HE := show Hid (Vm wr w.heap.size t.length vl ∧ Below w.heap.size w wr) from by
        refine ⟨?_, HI.out.2.2⟩
        have h := HI.out.1
        unfold Vm at h ⊢
        rw [h]
        congr 2
        apply Array.ext'
        simp only [List.map_inj_left]
        intro j hj
        rw [HI.out.2.1 j (by simpa using hj)]
      clear HI
      go_wp2_with fail
      go_ret
      exact ⟨rfl, HE.out⟩
end Go.Proofs.YtkmmlimekachbaaGreatDoor
/-
  The document's call Weights of some formulas, and the call Ints: for every table of the document's that calls made, and every row of numbers. No other condition.
-/
namespace Go.Proofs.YtkmmlimekachbaaGreatDoor
open Go.RowKit Go.Maps
open Fm (Nd)

section
variable {W W' : World} {B n g cap : Nat} {xs : List Int}
theorem ownI_cell (h : W.ownsRow B 3 1 (.slice (some ⟨g, 0, none⟩) n cap) n (xs.map (Value.int .i64))) {j : Nat} (hj : j < n) (hx : j < xs.length) : W.cell? ⟨g, j, none⟩ = some (.int .i64 xs[j]) := by
  rcases h.2 with ⟨hn, _⟩ | ⟨g2, cap2, cur, hn, hg, hh, h1, h2, h3, h4⟩
  · cases hn
  · obtain ⟨e1, -, -⟩ := Value.slice.inj hn
    cases e1
    rw [cell_of_row W g j cur _ _ hh, ← Array.getElem?_toList]
    have e : (cur.toList.take (n * 1))[j]? = (xs.map (Value.int .i64))[j]? := by rw [h4]
    rw [List.getElem?_take, if_pos (by omega)] at e
    rw [e]
    simp [hx]
theorem ownI_fr (h : W.ownsRow B 3 1 (.slice (some ⟨g, 0, none⟩) n cap) n (xs.map (Value.int .i64))) (j : Nat) : W.frozen? ⟨g, j, none⟩ = false := by
  rcases h.2 with ⟨hn, _⟩ | ⟨g2, cap2, cur, hn, hg, hh, _⟩
  · cases hn
  · obtain ⟨e1, -, -⟩ := Value.slice.inj hn
    cases e1
    exact frozen_of_row W g j _ _ hh
theorem ownI_set (h : W.ownsRow B 3 1 (.slice (some ⟨g, 0, none⟩) n cap) n (xs.map (Value.int .i64))) (j : Nat) (y : Int) : (W.setCell ⟨g, j, none⟩ (.int .i64 y)).ownsRow B 3 1 (.slice (some ⟨g, 0, none⟩) n cap) n ((xs.set j y).map (Value.int .i64)) := by
  rcases h with ⟨hl, ⟨hn, _⟩ | ⟨g2, cap2, cur, hn, hg, hh, h1, h2, h3, h4⟩⟩
  · cases hn
  · obtain ⟨e1, -, e3⟩ := Value.slice.inj hn
    cases e1
    subst e3
    refine ⟨by simpa using hl, Or.inr ⟨g, cap, cur.setIfInBounds j (.int .i64 y), rfl, hg, heap_setCell_same W g j _ _ _ hh, h1, h2, by simpa using h3, ?_⟩⟩
    rw [Array.toList_setIfInBounds, List.take_set, h4, List.map_set]
theorem ownI_ge (h : W.ownsRow B 3 1 (.slice (some ⟨g, 0, none⟩) n cap) n (xs.map (Value.int .i64))) : B ≤ g ∧ g < W.heap.size := by
  rcases h.2 with ⟨hn, _⟩ | ⟨g2, cap2, cur, hn, hg, hh, _⟩
  · cases hn
  · obtain ⟨e1, -, -⟩ := Value.slice.inj hn
    cases e1
    exact ⟨hg, lt_of_block hh⟩
end
theorem ins_at (x : Int) : ∀ (l : List Int) (m : Nat), m ≤ l.length → (∀ v ∈ l.drop m, v < x) → (∀ v ∈ l.take m, x ≤ v) → Ms.ins x l = l.take m ++ x :: l.drop m
  | [], m, _, _, _ => by simp [Ms.ins]
  | y :: l, 0, _, h1, _ => by
    unfold Ms.ins
    rw [if_neg (by have := h1 y (by simp); omega)]
    rfl
  | y :: l, m + 1, hm, h1, h2 => by
    unfold Ms.ins
    rw [if_pos (h2 y (by simp)), ins_at x l m (by simpa using hm) (fun v hv => h1 v (by simpa using hv)) (fun v hv => h2 v (by simp [hv]))]
    rfl
theorem desc_take {l : List Int} (h : Ms.Desc l) {m : Nat} (hm : m < l.length) {x : Int} (hx : x ≤ l[m]) : ∀ v ∈ l.take (m + 1), x ≤ v := by
  intro v hv
  obtain ⟨j, hj, e⟩ := List.mem_iff_getElem.1 hv
  rw [List.length_take] at hj
  rw [List.getElem_take] at e
  by_cases e2 : j = m
  · subst e2; omega
  · have := List.pairwise_iff_getElem.1 h j m (by omega) hm (by omega)
    omega
set_option maxRecDepth 100000 in
set_option maxHeartbeats 2000000 in
theorem rints_eq (w : World) (va vb : Value) (a : List Int) (ha : IsL w va a) (hb : IsL w vb a) :
    Calls Tryz.prog 17 #[va, vb] w fun e w' => e = .returned (.bool true) ∧ Below w.heap.size w w' := by
  obtain ⟨pa, ca, rfl, hla, hca⟩ := ha
  obtain ⟨pb, cb, rfl, hlb, hcb⟩ := hb
  have HA := show Hid (∀ k (hk : k < a.length), ∃ b o, pa = some ⟨b, o, none⟩ ∧ w.cell? ⟨b, o + k, none⟩ = some (.int .i64 a[k])) from hca
  have HB := show Hid (∀ k (hk : k < a.length), ∃ g o, pb = some ⟨g, o, none⟩ ∧ w.cell? ⟨g, o + k, none⟩ = some (.int .i64 a[k])) from hcb
  clear hca hcb
  go_enter Tryz.func17, Tryz.ntmps17
  go_wp2_with fail
  go_loopw [5] (fun i wr => ∃ k n : Nat, k ≤ a.length ∧ i = .int .i64 (k : Int) ∧ wr = w.drewN n) (fun i _ => a.length - (intOf i).toNat)
  case atStart => exact ⟨0, 0, by omega, rfl, rfl⟩
  case round =>
    obtain ⟨k, n, hk, rfl, rfl⟩ := hrel
    by_cases hlt : k < a.length
    · obtain ⟨ba, oa, rfl, c0⟩ := HA.out k hlt
      obtain ⟨bb, ob, rfl, d0⟩ := HB.out k hlt
      have hki : (k : Int) < (a.length : Int) := by omega
      clear HA HB
      generalize a[k] = x at *
      go_wp2_with fail
      go_quiet (fail)
      go_wp2_with fail
      go_roundw
      case rel => exact ⟨k + 1, _, by omega, by go_num, rfl⟩
      case measure => first | (simp [intOf]; done) | (simp [intOf]; omega)
    · go_wp2_with fail
      go_ret
      exact ⟨rfl, below_drewN (Below.refl _ _) _⟩
theorem wts_snoc (t : List Nd) {ids : List Int} {k : Nat} (hk : k < ids.length) : wts t (ids.take (k + 1)) = wts t (ids.take k) ++ [Ms.weightV t ids[k].toNat] := by
  unfold wts
  rw [List.take_succ_eq_append_getElem hk, List.map_append]
  rfl
set_option maxRecDepth 100000 in
set_option maxHeartbeats 2400000 in
theorem rweightsR_any (w : World) {c : Nat} {u : Value} {t : List Nd} (hT : Tr w c u t) (iv : Value) (ids : List Int) (hv : IsL w iv ids) (hl : ids.length * 8 ≤ 140737488351232) :
    Calls Tryz.prog 42 #[.pointer (some ⟨c, 0, none⟩), iv] w fun e w' => Below w.heap.size w w' ∧ ((ids.all (Fm.has t) = true ∧ ∃ p cp, e = .returned (.tuple #[.slice p (Ms.fall (wts t ids)).length cp, .int .i64 0]) ∧ IsL w' (.slice p (Ms.fall (wts t ids)).length cp) (Ms.fall (wts t ids))) ∨ (ids.all (Fm.has t) = false ∧ e = .returned (.tuple #[.slice none 0 0, .int .i64 31]))) := by
  have hok := hT.ok
  have hlen := hok.len
  have KW := show Hid (Calls Tryz.prog 89 #[.pointer (some ⟨c, 0, none⟩)] w fun e w' => e = .returned (.slice (some ⟨w.heap.size, 0, none⟩) t.length t.length) ∧ Vm w' w.heap.size t.length (Ms.weightV t) ∧ Below w.heap.size w w') from rweights_any w hT
  have KH := show Hid (∀ (w' : World) (x : Int), Below w.heap.size w w' → Calls Tryz.prog 31 #[.pointer (some ⟨c, 0, none⟩), .int .i64 x] w' fun e w'' => e = .returned (.bool (Fm.has t x)) ∧ w'' = w') from fun w' x hb => rhas_any w' (hT.later hb) x
  have HV := show Hid (IsL w iv ids) from hv
  obtain ⟨pi, ci, rfl, hli, hci⟩ := hv
  have HC := show Hid (∀ w', Below w.heap.size w w' → ∀ k (hk : k < ids.length), ∃ b o, pi = some ⟨b, o, none⟩ ∧ w'.cell? ⟨b, o + k, none⟩ = some (.int .i64 ids[k])) from fun w' hb k hk => by
    obtain ⟨b, o, hp, hc⟩ := hci k hk
    exact ⟨b, o, hp, (hb.cell (p := ⟨b, _, none⟩) (World.block_lt_of_cell? w _ hc)).trans hc⟩
  have HWS := show Hid (∀ k (hk : k < ids.length), Ms.fall (wts t (ids.take (k + 1))) = Ms.ins (Ms.weightV t ids[k].toNat) (Ms.fall (wts t (ids.take k)))) from fun k hk => by
    show Ms.fall _ = _
    rw [wts_snoc t hk, Ms.fall_ins]
  have HDE := show Hid (∀ k, k ≤ ids.length → Ms.Desc (Ms.fall (wts t (ids.take k))) ∧ (Ms.fall (wts t (ids.take k))).length = k) from fun k hk => ⟨Ms.fall_desc _, by rw [Ms.fall_len]; unfold wts; rw [List.length_map, List.length_take]; omega⟩
  have HNO := show Hid (∀ k (hk : k < ids.length), Fm.has t ids[k] = false → ids.all (Fm.has t) = false) from fun k hk h => by
    cases hq : ids.all (Fm.has t) with
    | false => rfl
    | true => rw [List.all_eq_true.1 hq _ (List.getElem_mem hk)] at h; cases h
  have HYE := show Hid ((∀ j (hj : j < ids.length), Fm.has t ids[j] = true) → ids.all (Fm.has t) = true) from fun h => by
    rw [List.all_eq_true]
    intro x hx
    obtain ⟨j, hj, e⟩ := List.mem_iff_getElem.1 hx
    rw [← e]
    exact h j hj
  obtain ⟨i0, hi', hz0, hz1, hz2⟩ := info_parts info_int
  clear hT hci
  go_enter Tryz.func42, Tryz.ntmps42
  go_wp2_with fail
  refine KW.out.mono ?_
  rintro e w1 ⟨rfl, hvs, hb1⟩
  have HB1 := show Hid (Below w.heap.size w w1) from hb1
  have HVS := show Hid (∀ w', Below w1.heap.size w1 w' → ∀ j, j < t.length → w'.cell? ⟨w.heap.size, j, none⟩ = some (.int .i64 (Ms.weightV t j))) from fun w' hb j hj => (hb.cell (p := ⟨w.heap.size, j, none⟩) hvs.lt).trans (hvs.cell hj)
  clear KW hvs hb1
  go_wp2_with fail
  go_loopw [7, 8] (fun lv i wr => ∃ k : Nat, k ≤ ids.length ∧ i = .int .i64 (k : Int) ∧ Hid (wr.ownsRow w1.heap.size 3 1 lv k ((Ms.fall (wts t (ids.take k))).map (Value.int .i64)) ∧ Below w1.heap.size w1 wr ∧ ∀ j (hj : j < ids.length), j < k → Fm.has t ids[j] = true)) (fun _ i _ => ids.length - (intOf i).toNat)
  case atStart => exact ⟨0, by omega, rfl, (by rw [show Ms.fall (wts t (ids.take 0)) = [] from by simp [wts, Ms.fall]]; exact World.ownsRow_nil _ _ _ _), Below.refl _ _, (fun j hj h => by omega)⟩
  case round =>
    obtain ⟨k, hk, rfl, HI⟩ := hrel
    by_cases hlt : k < ids.length
    · have hbw : Below w.heap.size w wr := HB1.out.trans (HI.out.2.1.mono HB1.out.size)
      obtain ⟨gb, go, rfl, c0⟩ := HC.out wr hbw k hlt
      have hki : (k : Int) < (ids.length : Int) := by omega
      have K1 := show Hid _ from KH.out wr ids[k] hbw
      have HBW := show Hid (Below w.heap.size w wr) from hbw
      cases hh : Fm.has t ids[k] with
      | false =>
        rw [hh] at K1
        have hno := HNO.out k hlt hh
        have HNO2 := show Hid _ from hno
        clear HI HC HWS HDE HNO HYE HVS KH hno hbw hh HV
        generalize ids[k] = x at *
        go_wp2_with fail
        refine Calls.mono K1.out ?_
        rintro e wx ⟨rfl, hwx⟩
        subst wx
        go_wp2_with fail
        go_ret2
        exact ⟨HBW.out, Or.inr ⟨HNO2.out, rfl⟩⟩
      | true =>
        rw [hh] at K1
        obtain ⟨q0, q1⟩ := Fm.has_iff.1 hh
        obtain ⟨j, hj⟩ : ∃ j : Nat, ids[k] = j := ⟨ids[k].toNat, by omega⟩
        have hjt : j < t.length := by omega
        have hji : (j : Int) < (t.length : Int) := by omega
        have d0 := HVS.out wr HI.out.2.1 j hjt
        have HW1 := show Hid (∀ w', Below w1.heap.size w1 w' → w'.cell? ⟨w.heap.size, j, none⟩ = some (.int .i64 (Ms.weightV t j))) from fun w' hb => HVS.out w' hb j hjt
        have hws1 := HWS.out k hlt
        rw [hj, Int.toNat_natCast] at hws1
        have HIN := show Hid _ from hws1
        have HAL := show Hid (∀ i (hi : i < ids.length), i < k + 1 → Fm.has t ids[i] = true) from fun i hi h => by
          by_cases e : i = k
          · subst e; exact hh
          · exact HI.out.2.2 i hi (by omega)
        have HD := show Hid _ from HDE.out k hk
        have HOW := show Hid (wr.ownsRow w1.heap.size 3 1 u7 k ((Ms.fall (wts t (ids.take k))).map (Value.int .i64))) from HI.out.1
        have HBR := show Hid (Below w1.heap.size w1 wr) from HI.out.2.1
        obtain ⟨pl, cl, hle⟩ := (own_sliceI HOW.out : ∃ p c, u7 = .slice p k c)
        have hws : w1.heap.size ≤ wr.heap.size := HI.out.2.1.size
        rw [hj] at c0 K1
        clear HI HC HWS HDE HNO HVS KH hbw hh HV HBW q0 q1 hj hws1
        generalize Ms.fall (wts t (ids.take k)) = L at *
        generalize Ms.weightV t j = x at *
        subst hle
        go_wp2_with fail
        refine Calls.mono K1.out ?_
        rintro e wx ⟨rfl, hwx⟩
        subst wx
        clear K1
        go_wp2_with (at_builtin; refine wpList_append_own_at _ rfl (.tmp 35) (.tmp 37) 28 rfl w1.heap.size 3 i0 _ 1 8 Tryz.underlying28 hi' hz0 hz1 hz2 rfl (by decide) (.slice pl k cl) k (L.map (Value.int .i64)) rfl (HOW.out.alloc _) ⟨wr.heap.size, 0, none⟩ 1 1 [.int .i64 x] rfl rfl (cell_one_new _ _ _) (ints_oneCell .i64 [x]) (by unfold maxLen; omega) (by omega) (by simp; omega) ?_)
        intro v2 w2 hown hgr hnil hat
        obtain ⟨g, cap, rfl⟩ : ∃ g cap, v2 = .slice (some ⟨g, 0, none⟩) (k + 1) cap := by
          rcases hown.2 with ⟨_, hn⟩ | ⟨g, cap, cur, e1, _⟩
          · omega
          · exact ⟨g, cap, e1⟩
        have hLk : L.length = k := HD.out.2
        have HI0 := show Hid (w2.ownsRow w1.heap.size 3 1 (.slice (some ⟨g, 0, none⟩) (k + 1) cap) (k + 1) ((L.take k ++ x :: L.drop k).map (Value.int .i64)) ∧ Below w1.heap.size w1 w2 ∧ ∀ v ∈ L.drop k, v < x) from by
          refine ⟨?_, (HBR.out.alloc HBR.out.size _).grown hgr (HBR.out.alloc HBR.out.size _).size (fun j e => ?_), fun v hv => ?_⟩
          · rw [show L.take k ++ x :: L.drop k = L ++ [x] from by rw [← hLk, List.take_length, List.drop_length], List.map_append]
            exact hown
          · rcases HOW.out.2 with ⟨e1, _⟩ | ⟨g2, cap2, cur, e1, e2, _⟩
            · rw [e1] at e; cases e
            · rw [e1] at e; cases e; exact e2
          · rw [← hLk, List.drop_length] at hv; cases hv
        clear hown hgr hnil hat HOW HBR HW1 d0 c0
        have HLK := show Hid (L.length = k) from hLk
        clear hLk
        go_wp2_with fail
        go_loopw [10] (fun av wr => ∃ (m : Nat) (y : Int), m ≤ k ∧ av = .int .i64 (m : Int) ∧ Hid (wr.ownsRow w1.heap.size 3 1 (.slice (some ⟨g, 0, none⟩) (k + 1) cap) (k + 1) ((L.take m ++ y :: L.drop m).map (Value.int .i64)) ∧ Below w1.heap.size w1 wr ∧ ∀ v ∈ L.drop m, v < x)) (fun av _ => (intOf av).toNat)
        case atStart => exact ⟨k, x, Nat.le_refl _, rfl, HI0.out⟩
        case round =>
          obtain ⟨m, y, hm, rfl, HI2⟩ := hrel
          clear HI0
          have hLk := HLK.out
          have hmi : (m : Int) < ((k + 1 : Nat) : Int) := by omega
          have hmi2 : (m : Int) < (k : Int) + 1 := by omega
          have HRL := show Hid ((L.take m ++ y :: L.drop m).length = k + 1) from (by simp; omega : (L.take m ++ y :: L.drop m).length = k + 1)
          by_cases hm0 : m = 0
          · subst hm0
            have HTA := show Hid (∀ v ∈ L.take 0, x ≤ v) from fun v hv => by simp at hv
            obtain ⟨z0, b0⟩ : ∃ z, wr.cell? ⟨g, 0, none⟩ = some (.int .i64 z) := ⟨_, ownI_cell HI2.out.1 (j := 0) (by omega) (by rw [HRL.out]; omega)⟩
            have bf := ownI_fr HI2.out.1
            have HN := show Hid ((wr.setCell ⟨g, 0, none⟩ (.int .i64 x)).ownsRow w1.heap.size 3 1 (.slice (some ⟨g, 0, none⟩) (k + 1) cap) (k + 1) ((Ms.fall (wts t (ids.take (k + 1)))).map (Value.int .i64)) ∧ Below w1.heap.size w1 (wr.setCell ⟨g, 0, none⟩ (.int .i64 x)) ∧ ∀ j (hj : j < ids.length), j < k + 1 → Fm.has t ids[j] = true) from by
              have h := ownI_set HI2.out.1 0 x
              rw [show (L.take 0 ++ y :: L.drop 0).set 0 x = L.take 0 ++ x :: L.drop 0 from by rfl] at h
              rw [HIN.out, ins_at x L 0 (by omega) HI2.out.2.2 HTA.out]
              exact ⟨h, HI2.out.2.1.setCell (ownI_ge HI2.out.1).1 _, HAL.out⟩
            clear HI2 HTA HIN HAL HD HRL
            go_wp2_with fail
            go_roundw
            case rel => exact ⟨k + 1, by omega, by go_num, HN⟩
            case measure => first | (simp [intOf]; done) | (simp [intOf]; omega)
          · obtain ⟨m2, rfl⟩ : ∃ m2, m = m2 + 1 := ⟨m - 1, by omega⟩
            have hz : 0 < ((m2 + 1 : Nat) : Int) := by omega
            have hm2 : m2 < L.length := by omega
            have e0 : wr.cell? ⟨g, m2, none⟩ = some (.int .i64 L[m2]) := by
              have h := ownI_cell HI2.out.1 (j := m2) (by omega) (by rw [HRL.out]; omega)
              rw [List.getElem_append_left (by rw [List.length_take]; omega), List.getElem_take] at h
              exact h
            have e1 : ((m2 + 1 : Nat) : Int) - 1 = (m2 : Int) := by omega
            have hm2i : (m2 : Int) < ((k + 1 : Nat) : Int) := by omega
            by_cases hlx : L[m2] < x
            · obtain ⟨z0, b0⟩ : ∃ z, wr.cell? ⟨g, m2 + 1, none⟩ = some (.int .i64 z) := ⟨_, ownI_cell HI2.out.1 (j := m2 + 1) (by omega) (by rw [HRL.out]; omega)⟩
              have bf := ownI_fr HI2.out.1
              have HN := show Hid ((wr.setCell ⟨g, m2 + 1, none⟩ (.int .i64 L[m2])).ownsRow w1.heap.size 3 1 (.slice (some ⟨g, 0, none⟩) (k + 1) cap) (k + 1) ((L.take m2 ++ L[m2] :: L.drop m2).map (Value.int .i64)) ∧ Below w1.heap.size w1 (wr.setCell ⟨g, m2 + 1, none⟩ (.int .i64 L[m2])) ∧ ∀ v ∈ L.drop m2, v < x) from by
                have h := ownI_set HI2.out.1 (m2 + 1) L[m2]
                rw [show (L.take (m2 + 1) ++ y :: L.drop (m2 + 1)).set (m2 + 1) L[m2] = L.take m2 ++ L[m2] :: L.drop m2 from by
                  rw [List.set_append_right _ _ (by rw [List.length_take]; omega), show m2 + 1 - (L.take (m2 + 1)).length = 0 from by rw [List.length_take]; omega]
                  show L.take (m2 + 1) ++ L[m2] :: L.drop (m2 + 1) = _
                  rw [List.take_succ_eq_append_getElem hm2, List.append_assoc, List.drop_eq_getElem_cons hm2]
                  rfl] at h
                refine ⟨h, HI2.out.2.1.setCell (ownI_ge HI2.out.1).1 _, fun v hv => ?_⟩
                rw [List.drop_eq_getElem_cons hm2] at hv
                rcases List.mem_cons.1 hv with e | e
                · rw [e]; exact hlx
                · exact HI2.out.2.2 v e
              clear HI2 HIN HAL HD HRL
              obtain ⟨z, hze⟩ : ∃ z, z = L[m2] := ⟨_, rfl⟩
              rw [← hze] at e0 hlx HN
              clear hze
              go_wp2_with fail
              go_roundw
              case rel => exact ⟨m2, z, by omega, by go_num, HN⟩
              case measure => first | (simp [intOf]; done) | (simp [intOf]; omega)
            · have HTA := show Hid (∀ v ∈ L.take (m2 + 1), x ≤ v) from desc_take HD.out.1 hm2 (by omega)
              obtain ⟨z, hze⟩ : ∃ z, z = L[m2] := ⟨_, rfl⟩
              rw [← hze] at e0 hlx
              clear hze
              obtain ⟨z0, b0⟩ : ∃ z, wr.cell? ⟨g, (m2 + 1), none⟩ = some (.int .i64 z) := ⟨_, ownI_cell HI2.out.1 (j := (m2 + 1)) (by omega) (by rw [HRL.out]; omega)⟩
              have bf := ownI_fr HI2.out.1
              have HN := show Hid ((wr.setCell ⟨g, (m2 + 1), none⟩ (.int .i64 x)).ownsRow w1.heap.size 3 1 (.slice (some ⟨g, 0, none⟩) (k + 1) cap) (k + 1) ((Ms.fall (wts t (ids.take (k + 1)))).map (Value.int .i64)) ∧ Below w1.heap.size w1 (wr.setCell ⟨g, (m2 + 1), none⟩ (.int .i64 x)) ∧ ∀ j (hj : j < ids.length), j < k + 1 → Fm.has t ids[j] = true) from by
                have h := ownI_set HI2.out.1 (m2 + 1) x
                rw [show (L.take (m2 + 1) ++ y :: L.drop (m2 + 1)).set (m2 + 1) x = L.take (m2 + 1) ++ x :: L.drop (m2 + 1) from by rw [List.set_append_right _ _ (by rw [List.length_take]; omega), show m2 + 1 - (L.take (m2 + 1)).length = 0 from by rw [List.length_take]; omega]; rfl] at h
                rw [HIN.out, ins_at x L (m2 + 1) (by omega) HI2.out.2.2 HTA.out]
                exact ⟨h, HI2.out.2.1.setCell (ownI_ge HI2.out.1).1 _, HAL.out⟩
              clear HI2 HTA HIN HAL HD HRL
              go_wp2_with fail
              go_roundw
              case rel => exact ⟨k + 1, by omega, by go_num, HN⟩
              case measure => first | (simp [intOf]; done) | (simp [intOf]; omega)
    · have hke : k = ids.length := by omega
      subst hke
      have hI := HI.out
      rw [List.take_length] at hI
      have hall := HYE.out fun j hj => hI.2.2 j hj hj
      obtain ⟨pl, cl, hle⟩ := own_sliceI hI.1
      have hfl : (Ms.fall (wts t ids)).length = ids.length := by rw [Ms.fall_len]; unfold wts; simp
      have HF := show Hid (Below w.heap.size w wr ∧ IsL wr (.slice pl (Ms.fall (wts t ids)).length cl) (Ms.fall (wts t ids)) ∧ ids.all (Fm.has t) = true) from by
        refine ⟨HB1.out.trans (hI.2.1.mono HB1.out.size), ?_, hall⟩
        rw [hfl, ← hle]
        exact isL_own hI.1 (by omega)
      rw [← hfl] at hle
      subst hle
      clear HI hI HC HWS HDE HNO HYE HVS KH hall HV hfl
      go_wp2_with fail
      go_ret2
      exact ⟨HF.out.1, Or.inl ⟨HF.out.2.2, _, _, rfl, HF.out.2.1⟩⟩
end Go.Proofs.YtkmmlimekachbaaGreatDoor
