/-
  What must come at any rate: heads answers true. The tables that the library reads stand.
-/
import Derived.Test.YtjbnbaiidpdpoaaDoorWInts
namespace Go.Proofs.YtjbnbaiidpdpoaaDoor.Wm
open Go.RowKit Go.Maps
open Wd (Md vl)
set_option linter.unusedSimpArgs false

section
variable {ops : Array Oper} {rest : List Oper} {o : Oper} {a : Act} {Q : Exit → Act → World → Prop} {w : World}
theorem wpList_mk {T0 : TypeId} {k0 : Nat} {xs : Array (Nat × Operand)} (_ : o.op = Op.buildSlice T0 k0 xs) (hg : Region.wanted o (yielded ops a.tmps) = true) (n : Nat) (cs : Array Value) (E : TypeId) (hr : ∀ w : World, (execOp a.eval o).run Tryd.prog w = .ok (.value (.slice (some ⟨w.heap.size, 0, none⟩) n n)) (w.alloc (.cells cs E)))
    (hK : ∀ w' q, New w w' q cs E → wpList Tryd.prog ops Q rest (a.put o.dst (.slice (some ⟨q, 0, none⟩) n n)) w') : wpList Tryd.prog ops Q (o :: rest) a w := by
  refine wpList_want hg fun K' hK' => ?_
  unfold Oper.wp
  rw [hr w, Oper.upon_value]
  exact hK' _ _ (hK _ _ (new_alloc w _ _))
end
theorem isS_new {α : Type} {w : World} {L b : Nat} {cs : Array Value} {T : TypeId} {R : α → Value → Prop} {l : List α} (hb : Cl w b cs T) (hL : b < L) (h : ∀ (j : Nat) (hj : j < l.length), ∃ x, cs[j]? = some x ∧ R l[j] x) : IsS w L R (.slice (some ⟨b, 0, none⟩) l.length l.length) l :=
  ⟨_, _, rfl, fun _ => ⟨b, 0, hL, rfl, fun j hj => by
    obtain ⟨x, hx, hr⟩ := h j hj
    exact ⟨x, by rw [Nat.zero_add]; exact (hb.cell j).trans hx, hr⟩⟩⟩
theorem isS_nil {α : Type} (w : World) (L : Nat) (R : α → Value → Prop) : IsS w L R (.slice none 0 0) [] := ⟨none, 0, rfl, fun h => absurd h (by simp)⟩
theorem lt_cases4 {j : Nat} {P : Nat → Prop} (h : j < 4) (h0 : P 0) (h1 : P 1) (h2 : P 2) (h3 : P 3) : P j := by
  have : j = 0 ∨ j = 1 ∨ j = 2 ∨ j = 3 := by omega
  rcases this with rfl | rfl | rfl | rfl <;> assumption
set_option maxRecDepth 100000 in
set_option maxHeartbeats 2000000 in
theorem diamond_any (w : World) : Calls Tryd.prog 30 #[] w fun e w' => ∃ uv vv, e = .returned (.agg #[uv, vv]) ∧ IsM w' w'.heap.size uv vv dmd ∧ Below w.heap.size w w' := by
  go_enter Tryd.func30, Tryd.ntmps30
  go_wp2_with (refine wpList_alloc 25 rfl _ zero_md rfl ?_)
  intro w0 b0 hn0
  go_wp2_with (refine wpList_mk rfl rfl 2 #[.int .i64 1, .int .i64 2] 3 (fun w => by kernel_rfl) ?_)
  intro w1 b1 hn1
  go_wp2_with (refine wpList_mk rfl rfl 1 #[.int .i64 3] 3 (fun w => by kernel_rfl) ?_)
  intro w2 b2 hn2
  go_wp2_with (refine wpList_mk rfl rfl 1 #[.int .i64 3] 3 (fun w => by kernel_rfl) ?_)
  intro w3 b3 hn3
  go_wp2_with (refine wpList_mk rfl rfl 4 #[.slice (some ⟨b1, 0, none⟩) 2 2, .slice (some ⟨b2, 0, none⟩) 1 1, .slice (some ⟨b3, 0, none⟩) 1 1, .slice none 0 0] 42 (fun w => by kernel_rfl) ?_)
  intro w4 b4 hn4
  go_wp2_with (refine wpList_mk rfl rfl 1 #[.string bp] 9 (fun w => by kernel_rfl) ?_)
  intro w5 b5 hn5
  go_wp2_with (refine wpList_mk rfl rfl 1 #[.string bp] 9 (fun w => by kernel_rfl) ?_)
  intro w6 b6 hn6
  go_wp2_with (refine wpList_mk rfl rfl 2 #[.string bp, .string bq] 9 (fun w => by kernel_rfl) ?_)
  intro w7 b7 hn7
  go_wp2_with (refine wpList_mk rfl rfl 4 #[.slice none 0 0, .slice (some ⟨b5, 0, none⟩) 1 1, .slice (some ⟨b6, 0, none⟩) 1 1, .slice (some ⟨b7, 0, none⟩) 2 2] 39 (fun w => by kernel_rfl) ?_)
  intro w8 b8 hn8
  have HB := show Hid (Below w.heap.size w w8) from by
    have h := hn0.bel
    have h := h.trans (hn1.bel.mono h.size)
    have h := h.trans (hn2.bel.mono h.size)
    have h := h.trans (hn3.bel.mono h.size)
    have h := h.trans (hn4.bel.mono h.size)
    have h := h.trans (hn5.bel.mono h.size)
    have h := h.trans (hn6.bel.mono h.size)
    have h := h.trans (hn7.bel.mono h.size)
    have h := h.trans (hn8.bel.mono h.size)
    exact h
  have k1 : Cl w8 b1 #[.int .i64 1, .int .i64 2] 3 := (Cl.later (Cl.later (Cl.later (Cl.later (Cl.later (Cl.later (Cl.later (show Cl w1 b1 #[.int .i64 1, .int .i64 2] 3 from hn1.blk) hn2.bel) hn3.bel) hn4.bel) hn5.bel) hn6.bel) hn7.bel) hn8.bel)
  have k2 : Cl w8 b2 #[.int .i64 3] 3 := (Cl.later (Cl.later (Cl.later (Cl.later (Cl.later (Cl.later (show Cl w2 b2 #[.int .i64 3] 3 from hn2.blk) hn3.bel) hn4.bel) hn5.bel) hn6.bel) hn7.bel) hn8.bel)
  have k3 : Cl w8 b3 #[.int .i64 3] 3 := (Cl.later (Cl.later (Cl.later (Cl.later (Cl.later (show Cl w3 b3 #[.int .i64 3] 3 from hn3.blk) hn4.bel) hn5.bel) hn6.bel) hn7.bel) hn8.bel)
  have k4 : Cl w8 b4 #[.slice (some ⟨b1, 0, none⟩) 2 2, .slice (some ⟨b2, 0, none⟩) 1 1, .slice (some ⟨b3, 0, none⟩) 1 1, .slice none 0 0] 42 := (Cl.later (Cl.later (Cl.later (Cl.later (show Cl w4 b4 #[.slice (some ⟨b1, 0, none⟩) 2 2, .slice (some ⟨b2, 0, none⟩) 1 1, .slice (some ⟨b3, 0, none⟩) 1 1, .slice none 0 0] 42 from hn4.blk) hn5.bel) hn6.bel) hn7.bel) hn8.bel)
  have k5 : Cl w8 b5 #[.string bp] 9 := (Cl.later (Cl.later (Cl.later (show Cl w5 b5 #[.string bp] 9 from hn5.blk) hn6.bel) hn7.bel) hn8.bel)
  have k6 : Cl w8 b6 #[.string bp] 9 := (Cl.later (Cl.later (show Cl w6 b6 #[.string bp] 9 from hn6.blk) hn7.bel) hn8.bel)
  have k7 : Cl w8 b7 #[.string bp, .string bq] 9 := (Cl.later (show Cl w7 b7 #[.string bp, .string bq] 9 from hn7.blk) hn8.bel)
  have k8 : Cl w8 b8 #[.slice none 0 0, .slice (some ⟨b5, 0, none⟩) 1 1, .slice (some ⟨b6, 0, none⟩) 1 1, .slice (some ⟨b7, 0, none⟩) 2 2] 39 := (show Cl w8 b8 #[.slice none 0 0, .slice (some ⟨b5, 0, none⟩) 1 1, .slice (some ⟨b6, 0, none⟩) 1 1, .slice (some ⟨b7, 0, none⟩) 2 2] 39 from hn8.blk)
  have k0 : Cl w8 b0 #[.slice none 0 0, .slice none 0 0] 25 := (Cl.later (Cl.later (Cl.later (Cl.later (Cl.later (Cl.later (Cl.later (Cl.later (show Cl w0 b0 #[.slice none 0 0, .slice none 0 0] 25 from hn0.blk) hn1.bel) hn2.bel) hn3.bel) hn4.bel) hn5.bel) hn6.bel) hn7.bel) hn8.bel)
  have hne : ∀ j, j ∈ [b1, b2, b3, b4, b5, b6, b7, b8] → j ≠ b0 := by
    have e0 := hn0.up
    have e1 := hn1.eq; have e2 := hn1.up; have e3 := hn2.eq; have e4 := hn2.up; have e5 := hn3.eq; have e6 := hn3.up; have e7 := hn4.eq; have e8 := hn4.up; have e9 := hn5.eq; have e10 := hn5.up; have e11 := hn6.eq; have e12 := hn6.up; have e13 := hn7.eq; have e14 := hn7.up; have e15 := hn8.eq
    intro j hj
    simp only [List.mem_cons, List.not_mem_nil, or_false] at hj
    omega
  have HK0 := show Hid (Cl w8 b0 #[.slice none 0 0, .slice none 0 0] 25 ∧ w.heap.size ≤ b0) from ⟨k0, hn0.ge⟩
  have HM := show Hid (∀ W : World, Kp (fun k => k = b0) w8 W → IsM W W.heap.size (.slice (some ⟨b4, 0, none⟩) 4 4) (.slice (some ⟨b8, 0, none⟩) 4 4) dmd) from fun W hk => by
    have hl : ∀ {j : Nat} {cs : Array Value} {T : TypeId}, Cl w8 j cs T → j ≠ b0 → Cl W j cs T ∧ j < W.heap.size := fun h hj => ⟨h.kp hk hj, (h.kp hk hj).lt⟩
    have m1 := hl k1 (hne b1 (by simp)); have m2 := hl k2 (hne b2 (by simp)); have m3 := hl k3 (hne b3 (by simp)); have m4 := hl k4 (hne b4 (by simp))
    have m5 := hl k5 (hne b5 (by simp)); have m6 := hl k6 (hne b6 (by simp)); have m7 := hl k7 (hne b7 (by simp)); have m8 := hl k8 (hne b8 (by simp))
    refine ⟨isS_new (l := dmd.up) m4.1 m4.2 fun j hj => ?_, isS_new (l := dmd.val) m8.1 m8.2 fun j hj => ?_⟩
    · match j, hj with
      | 0, _ => exact ⟨_, rfl, isS_new (l := [1, 2]) m1.1 m1.2 fun j hj => by
          match j, hj with
          | 0, _ => exact ⟨_, rfl, rfl⟩
          | 1, _ => exact ⟨_, rfl, rfl⟩⟩
      | 1, _ => exact ⟨_, rfl, isS_new (l := [3]) m2.1 m2.2 fun j hj => by
          match j, hj with
          | 0, _ => exact ⟨_, rfl, rfl⟩⟩
      | 2, _ => exact ⟨_, rfl, isS_new (l := [3]) m3.1 m3.2 fun j hj => by
          match j, hj with
          | 0, _ => exact ⟨_, rfl, rfl⟩⟩
      | 3, _ => exact ⟨_, rfl, isS_nil _ _ _⟩
    · match j, hj with
      | 0, _ => exact ⟨_, rfl, isS_nil _ _ _⟩
      | 1, _ => exact ⟨_, rfl, isS_new (l := [bp]) m5.1 m5.2 fun j hj => by
          match j, hj with
          | 0, _ => exact ⟨_, rfl, rfl⟩⟩
      | 2, _ => exact ⟨_, rfl, isS_new (l := [bp]) m6.1 m6.2 fun j hj => by
          match j, hj with
          | 0, _ => exact ⟨_, rfl, rfl⟩⟩
      | 3, _ => exact ⟨_, rfl, isS_new (l := [bp, bq]) m7.1 m7.2 fun j hj => by
          match j, hj with
          | 0, _ => exact ⟨_, rfl, rfl⟩
          | 1, _ => exact ⟨_, rfl, rfl⟩⟩
  clear hne k0 k1 k2 k3 k4 k5 k6 k7 k8 hn0 hn1 hn2 hn3 hn4 hn5 hn6 hn7 hn8
  go_wp2_with (refine wpList_st 25 rfl rfl _ _ rfl b0 rfl _ rfl _ _ HK0.out.1 sizeM rfl (by simp [Value.oneCell']) ?_)
  intro w9 hc9 hk9
  have H9 := show Hid (Cl w9 b0 #[.slice (some ⟨b4, 0, none⟩) 4 4, .slice (some ⟨b8, 0, none⟩) 4 4] 25 ∧ Below w.heap.size w w9) from ⟨hc9, HB.out.trans (hk9.below HB.out.size fun k e => by have := HK0.out.2; omega)⟩
  have HM9 := show Hid _ from HM.out w9 hk9
  clear hc9 hk9 HM
  go_wp2_with fail
  refine bodyPost_ret (results_cell_row rfl _ w9 b0 _ _ _ _ rfl H9.out.1 Tryd.underlying25 rfl sizeM) rfl ?_
  exact ⟨_, _, rfl, HM9.out, H9.out.2⟩
set_option maxRecDepth 100000 in
set_option maxHeartbeats 4000000 in
theorem heads_any (w : World) (hT : Tb w) : Calls Tryd.prog 11 #[] w fun e w' => e = .returned (.bool true) ∧ Below w.heap.size w w' := by
  have HT := show Hid (∀ W : World, Below w.heap.size w W → Tb W) from fun W h => hT.later h
  have KD := show Hid _ from diamond_any w
  clear hT
  go_enter Tryd.func11, Tryd.ntmps11
  go_wp2_with fail
  refine Calls.mono KD.out ?_
  rintro e w1 ⟨uv, vv, rfl, hm1, hb1⟩
  obtain ⟨pu, cu, rfl⟩ := IsS.form hm1.up
  obtain ⟨pv, cv, rfl⟩ := IsS.form hm1.val
  have H1 := show Hid (IsM w1 w1.heap.size (.slice pu dmd.up.length cu) (.slice pv dmd.val.length cv) dmd ∧ Below w.heap.size w w1) from ⟨hm1, hb1⟩
  clear hm1 hb1 KD
  go_wp2_with (refine wpList_alloc 25 rfl _ zero_md rfl ?_)
  intro w2 bD hn2
  go_wp2_with (refine wpList_st 25 rfl rfl _ _ rfl bD rfl _ rfl _ _ hn2.blk sizeM rfl (by simp [Value.oneCell']) ?_)
  intro w3 hc3 hk3
  have H3 := show Hid (Cl w3 bD #[.slice pu dmd.up.length cu, .slice pv dmd.val.length cv] 25 ∧ IsM w3 w1.heap.size (.slice pu dmd.up.length cu) (.slice pv dmd.val.length cv) dmd ∧ Below w.heap.size w w3 ∧ w1.heap.size ≤ w3.heap.size) from by
    have hge := hn2.ge
    have hb : Below w1.heap.size w1 w3 := hn2.bel.trans (hk3.below hn2.bel.size fun k e => by omega)
    exact ⟨hc3, H1.out.1.keep fun k hk => hb.block k hk, H1.out.2.trans (hb.mono H1.out.2.size), hb.size⟩
  clear hn2 hc3 hk3 H1
  have HA := show Hid (∀ W : World, Below w3.heap.size w3 W → Cl W bD #[.slice pu dmd.up.length cu, .slice pv dmd.val.length cv] 25 ∧ IsM W w1.heap.size (.slice pu dmd.up.length cu) (.slice pv dmd.val.length cv) dmd ∧ Below w.heap.size w W ∧ w1.heap.size ≤ W.heap.size ∧ Tb W) from fun W hW => ⟨H3.out.1.later hW, H3.out.2.1.keep fun k hk => hW.block k (by have := H3.out.2.2.2; omega), H3.out.2.2.1.trans (hW.mono H3.out.2.2.1.size), Nat.le_trans H3.out.2.2.2 hW.size, HT.out W (H3.out.2.2.1.trans (hW.mono H3.out.2.2.1.size))⟩
  clear HT
  have KR := show Hid (Calls Tryd.prog 31 #[.agg #[.slice pu dmd.up.length cu, .slice pv dmd.val.length cv]] w3 fun e w' => e = .returned (.tuple #[.int .i64 0, .bool true]) ∧ Below w3.heap.size w3 w') from
    (root_any w3 isO_dmd H3.out.2.1 fit_dmd H3.out.2.2.2).mono fun e w' ⟨r, ok, h1, h2, h3⟩ => by
      refine ⟨?_, h3⟩
      rcases h2 with ⟨h, _⟩ | ⟨_, _, _, h⟩ | ⟨k, _, hk, hr, hok, _, h⟩
      · exact absurd good_dmd h
      · exact absurd (h 0 (by decide)) (by decide)
      · have : k = 0 := by
          rcases Nat.eq_zero_or_pos k with h0 | h0
          · exact h0
          · exact absurd (h 0 h0) (by decide)
        subst this
        rw [h1, hr, hok]; rfl
  go_wp2_with (refine wpList_ldw 25 _ rfl bD rfl _ _ H3.out.1 rfl Tryd.underlying25 sizeM rfl ?_)
  refine Calls.mono KR.out ?_
  rintro e w4 ⟨rfl, hb4⟩
  have H4 := show Hid (Below w3.heap.size w3 w4) from hb4
  clear hb4 KR
  have A4 := show Hid _ from HA.out w4 H4.out
  have KH := show Hid (Calls Tryd.prog 32 #[.agg #[.slice pu dmd.up.length cu, .slice pv dmd.val.length cv]] w4 fun e w' => e = .returned (.tuple #[.int .i64 3, .int .i64 0]) ∧ Below w4.heap.size w4 w') from
    (height_top w4 isO_dmd A4.out.2.1 fit_dmd A4.out.2.2.2.1 (fun _ => hg_dmd)).mono fun e w' ⟨r, er, h1, h2, h3⟩ => by
      refine ⟨?_, h3⟩
      rcases h2 with ⟨h, _⟩ | ⟨_, hr, her⟩
      · exact absurd good_dmd h
      · rw [h1, hr, her]; rfl
  go_wp2_with (refine wpList_ldw 25 _ rfl bD rfl _ _ A4.out.1 rfl Tryd.underlying25 sizeM rfl ?_)
  refine Calls.mono KH.out ?_
  rintro e w5 ⟨rfl, hb5⟩
  have H5 := show Hid (Below w3.heap.size w3 w5) from H4.out.trans (hb5.mono H4.out.size)
  clear hb5 KH A4 H4
  have A5 := show Hid _ from HA.out w5 H5.out
  have KA := show Hid (Calls Tryd.prog 33 #[.agg #[.slice pu dmd.up.length cu, .slice pv dmd.val.length cv], .int .i64 1] w5 fun e w' => (∃ v, e = .returned (.tuple #[v, .int .i64 0]) ∧ OwnI w5.heap.size w' v [1, 3]) ∧ Below w5.heap.size w5 w') from
    (above_any w5 isO_dmd A5.out.2.1 fit_dmd A5.out.2.2.2.1 1 (by omega)).mono fun e w' ⟨v, er, h1, h2, h3⟩ => by
      refine ⟨?_, h3⟩
      rcases h2 with ⟨h, _⟩ | ⟨_, h, _⟩ | ⟨_, _, ho, her⟩
      · exact absurd good_dmd h
      · exact absurd h (by decide)
      · exact ⟨v, by rw [h1, her], ho⟩
  go_wp2_with (refine wpList_ldw 25 _ rfl bD rfl _ _ A5.out.1 rfl Tryd.underlying25 sizeM rfl ?_)
  refine Calls.mono KA.out ?_
  rintro e w6 ⟨⟨va, rfl, hva⟩, hb6⟩
  obtain ⟨pa, ca, rfl⟩ := hva.slice
  have H6 := show Hid (Below w3.heap.size w3 w6 ∧ OwnI w5.heap.size w6 (.slice pa 2 ca) [1, 3]) from ⟨H5.out.trans (hb6.mono H5.out.size), hva⟩
  clear hb6 KA A5 H5 hva
  have A6 := show Hid _ from HA.out w6 H6.out.1
  have KT := show Hid (Calls Tryd.prog 13 #[.agg #[.slice pu dmd.up.length cu, .slice pv dmd.val.length cv], .int .i64 3, .string ⟨#[113]⟩] w6 fun e w' => e = .returned (.tuple #[.bool true, .int .i64 0]) ∧ Below w6.heap.size w6 w') from
    (true_any w6 A6.out.2.1 fit_dmd A6.out.2.2.2.1 3 (by omega) bq).mono fun e w' ⟨v, er, h1, h2, h3⟩ => by
      refine ⟨?_, h3⟩
      rcases h2 with ⟨h, _⟩ | ⟨_, h, _⟩ | ⟨_, _, hr, her⟩
      · exact absurd good_dmd h
      · exact absurd h (by decide)
      · rw [h1, hr, her]; rfl
  go_wp2_with (refine wpList_ldw 25 _ rfl bD rfl _ _ A6.out.1 rfl Tryd.underlying25 sizeM rfl ?_)
  refine Calls.mono KT.out ?_
  rintro e w7 ⟨rfl, hb7⟩
  have H7 := show Hid (Below w3.heap.size w3 w7 ∧ OwnI w5.heap.size w7 (.slice pa 2 ca) [1, 3]) from ⟨H6.out.1.trans (hb7.mono H6.out.1.size), H6.out.2.later hb7⟩
  clear hb7 KT A6 H6
  have A7 := show Hid _ from HA.out w7 H7.out.1
  have KL := show Hid (Calls Tryd.prog 12 #[.agg #[.slice pu dmd.up.length cu, .slice pv dmd.val.length cv], .int .i64 1, .int .i64 2] w7 fun e w' => e = .returned (.tuple #[.bool false, .int .i64 0]) ∧ Below w7.heap.size w7 w') from
    (leq_any w7 isO_dmd A7.out.2.1 fit_dmd A7.out.2.2.2.1 1 2 (by omega) (by omega)).mono fun e w' ⟨v, er, h1, h2, h3⟩ => by
      refine ⟨?_, h3⟩
      rcases h2 with ⟨h, _⟩ | ⟨_, h, _⟩ | ⟨_, _, hr, her⟩
      · exact absurd good_dmd h
      · exact absurd h (by decide)
      · rw [h1, hr, her]; rfl
  go_wp2_with (refine wpList_ldw 25 _ rfl bD rfl _ _ A7.out.1 rfl Tryd.underlying25 sizeM rfl ?_)
  refine Calls.mono KL.out ?_
  rintro e w8 ⟨rfl, hb8⟩
  have H8 := show Hid (Below w3.heap.size w3 w8 ∧ OwnI w5.heap.size w8 (.slice pa 2 ca) [1, 3]) from ⟨H7.out.1.trans (hb8.mono H7.out.1.size), H7.out.2.later hb8⟩
  clear hb8 KL A7 H7
  have A8 := show Hid _ from HA.out w8 H8.out.1
  have KP := show Hid (Calls Tryd.prog 6 #[.string ⟨#[48, 32, 62, 32, 49, 10, 49, 32, 58, 32, 112, 10]⟩] w8 fun e w' => (∃ p c v, e = .returned (.tuple #[.agg #[.slice p 2 c, v], .int .i64 0]) ∧ ∃ p' n' c', v = .slice p' n' c') ∧ Below w8.heap.size w8 w') from
    (parse_any w8 s2 (by decide) A8.out.2.2.2.2).mono fun e w' ⟨u, v, er, h1, h2, h3⟩ => by
      refine ⟨?_, h3⟩
      rcases h2 with ⟨_, her, hz, hv⟩ | ⟨h, _⟩
      · rw [mdL_s2] at hz hv
        obtain ⟨xs, hx, _⟩ := hz
        obtain ⟨p, c, rfl⟩ := own_form hx
        obtain ⟨ys, hy, _⟩ := hv
        exact ⟨p, c, v, by rw [h1, her]; rfl, own_form3 hy⟩
      · exact absurd po_s2 h
  go_wp2_with fail
  refine Calls.mono KP.out ?_
  rintro e w9 ⟨⟨pp, cp, vp, rfl, pq, nq, cq, rfl⟩, hb9⟩
  have H9 := show Hid (Below w3.heap.size w3 w9 ∧ OwnI w5.heap.size w9 (.slice pa 2 ca) [1, 3]) from ⟨H8.out.1.trans (hb9.mono H8.out.1.size), H8.out.2.later hb9⟩
  clear hb9 KP A8 H8
  go_wp2_with (refine wpList_alloc 25 rfl _ zero_md rfl ?_)
  intro w10 bP hn10
  go_wp2_with (refine wpList_st 25 rfl rfl _ _ rfl bP rfl _ rfl _ _ hn10.blk sizeM rfl (by simp [Value.oneCell']) ?_)
  intro w11 hc11 hk11
  have H11 := show Hid (Below w3.heap.size w3 w11 ∧ OwnI w5.heap.size w11 (.slice pa 2 ca) [1, 3] ∧ Cl w11 bP #[.slice pp 2 cp, .slice pq nq cq] 25) from by
    have hge := hn10.ge
    have hb : Below w9.heap.size w9 w11 := hn10.bel.trans (hk11.below hn10.bel.size fun k e => by omega)
    exact ⟨H9.out.1.trans (hb.mono H9.out.1.size), H9.out.2.later hb, hc11⟩
  clear hn10 hc11 hk11 H9
  have A11 := show Hid _ from HA.out w11 H11.out.1
  have KC := show Hid (Calls Tryd.prog 10 #[.agg #[.slice pu dmd.up.length cu, .slice pv dmd.val.length cv]] w11 fun e w' => e = .returned (.int .i64 0) ∧ Below w11.heap.size w11 w') from
    (check_any w11 A11.out.2.1 fit_dmd A11.out.2.2.2.1).mono fun e w' ⟨er, h1, h2, h3⟩ => by
      refine ⟨?_, h3⟩
      rcases h2 with ⟨_, her⟩ | ⟨h, _⟩
      · rw [h1, her]
      · exact absurd good_dmd h
  iterate 6 go_step
  dsimp only [List.append]
  go_wp2_with (refine wpList_ldw 25 _ rfl bD rfl _ _ A11.out.1 rfl Tryd.underlying25 sizeM rfl ?_)
  refine Calls.mono KC.out ?_
  rintro e w12 ⟨rfl, hb12⟩
  have H12 := show Hid (Below w3.heap.size w3 w12 ∧ OwnI w5.heap.size w12 (.slice pa 2 ca) [1, 3] ∧ Cl w12 bP #[.slice pp 2 cp, .slice pq nq cq] 25) from ⟨H11.out.1.trans (hb12.mono H11.out.1.size), H11.out.2.1.later hb12, H11.out.2.2.later hb12⟩
  clear hb12 KC A11 H11
  go_wp2_with (refine wpList_mk rfl rfl 1 #[.int .i64 1] 3 (fun w => by kernel_rfl) ?_)
  intro w13 b1 hn1
  go_wp2_with (refine wpList_mk rfl rfl 1 #[.int .i64 0] 3 (fun w => by kernel_rfl) ?_)
  intro w14 b2 hn2
  go_wp2_with (refine wpList_mk rfl rfl 2 #[.slice (some ⟨b1, 0, none⟩) 1 1, .slice (some ⟨b2, 0, none⟩) 1 1] 42 (fun w => by kernel_rfl) ?_)
  intro w15 b3 hn3
  go_wp2_with (refine wpList_mk rfl rfl 2 #[.slice none 0 0, .slice none 0 0] 39 (fun w => by kernel_rfl) ?_)
  intro w16 b4 hn4
  have KB := show Hid (Calls Tryd.prog 10 #[.agg #[.slice (some ⟨b3, 0, none⟩) 2 2, .slice (some ⟨b4, 0, none⟩) 2 2]] w16 fun e w' => e = .returned (.int .i64 170) ∧ Below w16.heap.size w16 w') from by
    have k1 : Cl w16 b1 #[.int .i64 1] 3 := Cl.later (Cl.later (Cl.later (show Cl w13 b1 #[.int .i64 1] 3 from hn1.blk) hn2.bel) hn3.bel) hn4.bel
    have k2 : Cl w16 b2 #[.int .i64 0] 3 := Cl.later (Cl.later (show Cl w14 b2 #[.int .i64 0] 3 from hn2.blk) hn3.bel) hn4.bel
    have k3 : Cl w16 b3 #[.slice (some ⟨b1, 0, none⟩) 1 1, .slice (some ⟨b2, 0, none⟩) 1 1] 42 := Cl.later (show Cl w15 b3 #[.slice (some ⟨b1, 0, none⟩) 1 1, .slice (some ⟨b2, 0, none⟩) 1 1] 42 from hn3.blk) hn4.bel
    have k4 : Cl w16 b4 #[.slice none 0 0, .slice none 0 0] 39 := hn4.blk
    have hm : IsM w16 w16.heap.size (.slice (some ⟨b3, 0, none⟩) 2 2) (.slice (some ⟨b4, 0, none⟩) 2 2) cyc := by
      refine ⟨isS_new (l := cyc.up) k3 k3.lt fun j hj => ?_, isS_new (l := cyc.val) k4 k4.lt fun j hj => ?_⟩
      · match j, hj with
        | 0, _ => exact ⟨_, rfl, isS_new (l := [1]) k1 k1.lt fun j hj => by
            match j, hj with
            | 0, _ => exact ⟨_, rfl, rfl⟩⟩
        | 1, _ => exact ⟨_, rfl, isS_new (l := [0]) k2 k2.lt fun j hj => by
            match j, hj with
            | 0, _ => exact ⟨_, rfl, rfl⟩⟩
      · match j, hj with
        | 0, _ => exact ⟨_, rfl, isS_nil _ _ _⟩
        | 1, _ => exact ⟨_, rfl, isS_nil _ _ _⟩
    exact (check_any w16 hm fit_cyc (Nat.le_refl _)).mono fun e w' ⟨er, h1, h2, h3⟩ => by
      refine ⟨?_, h3⟩
      rcases h2 with ⟨h, _⟩ | ⟨_, her⟩
      · exact absurd h bad_cyc
      · rw [h1, her]
  have H16 := show Hid (Below w3.heap.size w3 w16 ∧ OwnI w5.heap.size w16 (.slice pa 2 ca) [1, 3] ∧ Cl w16 bP #[.slice pp 2 cp, .slice pq nq cq] 25) from by
    have hb : Below w12.heap.size w12 w16 := by
      have h := hn1.bel
      have h := h.trans (hn2.bel.mono h.size)
      have h := h.trans (hn3.bel.mono h.size)
      exact h.trans (hn4.bel.mono h.size)
    exact ⟨H12.out.1.trans (hb.mono H12.out.1.size), H12.out.2.1.later hb, H12.out.2.2.later hb⟩
  clear hn1 hn2 hn3 hn4 H12
  go_wp2_with fail
  refine Calls.mono KB.out ?_
  rintro e w17 ⟨rfl, hb17⟩
  have H17 := show Hid (Below w3.heap.size w3 w17 ∧ OwnI w5.heap.size w17 (.slice pa 2 ca) [1, 3] ∧ Cl w17 bP #[.slice pp 2 cp, .slice pq nq cq] 25) from ⟨H16.out.1.trans (hb17.mono H16.out.1.size), H16.out.2.1.later hb17, H16.out.2.2.later hb17⟩
  clear hb17 KB H16
  go_wp2_with (refine wpList_mk rfl rfl 2 #[.int .i64 1, .int .i64 3] 3 (fun w => by kernel_rfl) ?_)
  intro w18 b5 hn5
  have H18 := show Hid (Below w3.heap.size w3 w18 ∧ OwnI w5.heap.size w18 (.slice pa 2 ca) [1, 3] ∧ Cl w18 bP #[.slice pp 2 cp, .slice pq nq cq] 25) from ⟨H17.out.1.trans (hn5.bel.mono H17.out.1.size), H17.out.2.1.later hn5.bel, H17.out.2.2.later hn5.bel⟩
  have KI := show Hid (Calls Tryd.prog 27 #[.slice pa 2 ca, .slice (some ⟨b5, 0, none⟩) 2 2] w18 fun e w' => e = .returned (.bool true) ∧ Below w18.heap.size w18 w') from by
    have k5 : Cl w18 b5 #[.int .i64 1, .int .i64 3] 3 := hn5.blk
    have hi : IsI w18 w18.heap.size (.slice (some ⟨b5, 0, none⟩) 2 2) [1, 3] := isS_new (l := [1, 3]) k5 k5.lt fun j hj => by
      match j, hj with
      | 0, _ => exact ⟨_, rfl, rfl⟩
      | 1, _ => exact ⟨_, rfl, rfl⟩
    exact (ints_any w18 H18.out.2.1.isI hi (by decide) (by decide)).mono fun e w' ⟨⟨r, h1, h2⟩, h3⟩ => by
      refine ⟨?_, h3⟩
      rw [h1, h2.2 rfl]
  clear hn5 H17
  go_wp2_with fail
  refine Calls.mono KI.out ?_
  rintro e w19 ⟨rfl, hb19⟩
  have H19 := show Hid (Below w3.heap.size w3 w19 ∧ Cl w19 bP #[.slice pp 2 cp, .slice pq nq cq] 25) from ⟨H18.out.1.trans (hb19.mono H18.out.1.size), H18.out.2.2.later hb19⟩
  clear hb19 KI H18
  have A19 := show Hid _ from HA.out w19 H19.out.1
  have KX := show Hid (Calls Tryd.prog 5 #[.agg #[.slice pu dmd.up.length cu, .slice pv dmd.val.length cv]] w19 fun e w' => e = .returned (.string ⟨txt4.toArray⟩) ∧ Below w19.heap.size w19 w') from
    (text_any w19 A19.out.2.1 fit_dmd A19.out.2.2.2.1 A19.out.2.2.2.2 tl_dmd).mono fun e w' ⟨h1, h3⟩ => by
      rw [text_dmd] at h1; exact ⟨h1, h3⟩
  go_wp2_with (refine wpList_ldw 25 _ rfl bD rfl _ _ A19.out.1 rfl Tryd.underlying25 sizeM rfl ?_)
  refine Calls.mono KX.out ?_
  rintro e w20 ⟨rfl, hb20⟩
  have hc20 : w20.cell? ⟨bP, 0, none⟩ = some (.slice pp 2 cp) := ((H19.out.2.later hb20).cell 0).trans rfl
  have H20 := show Hid (Below w.heap.size w w20) from by
    have h := H19.out.1.trans (hb20.mono H19.out.1.size)
    exact (HA.out w20 h).2.2.1
  have htx : ((ByteArray.mk txt4.toArray).toList == (ByteArray.mk #[48, 32, 62, 32, 49, 32, 50, 10, 49, 32, 62, 32, 51, 32, 58, 32, 112, 10, 50, 32, 62, 32, 51, 32, 58, 32, 112, 10, 51, 32, 58, 32, 112, 32, 113, 10]).toList) = true := beqS_eq (by rfl)
  clear hb20 KX H19 A19 HA H3
  go_wp2_with fail
  go_ret
  exact ⟨rfl, H20.out⟩
end Go.Proofs.YtjbnbaiidpdpoaaDoor.Wm
