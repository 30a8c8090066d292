/-
  ask, and slices.ContainsFunc over a checker's lacks. What the type of errors stands for must be laid.
-/
import Derived.Test.YtkpbpecikibohaaDoorYAs
namespace Go.Proofs.YtkpbpecikibohaaDoor.Ya
open Go.RowKit Go.Maps
open Fm (Nd)
open Ty (Tm An)
set_option linter.unusedSimpArgs false

theorem as_any (w : World) (q bv : Nat) (hg : Ety w) (hb : Cl w bv #[.pointer none] 80) :
    Calls Tryd.prog 28 #[.iface 80 (.pointer (some ⟨q, 0, none⟩)), .iface 82 (.pointer (some ⟨bv, 0, none⟩))] w fun e w' => e = .returned (.bool true) ∧ Cl w' bv #[.pointer (some ⟨q, 0, none⟩)] 80 ∧ KpP bv w w' := by
  refine (as_hit0 ⟨q, 0, none⟩ ⟨bv, 0, none⟩ (.pointer none) w hg (hb.cell 0) (hb.fr 0)).mono ?_
  rintro e w' ⟨rfl, rfl⟩
  refine ⟨rfl, ?_, ?_⟩
  · exact heap_setCell_same _ bv 0 _ _ _ ((((hb.later (below_alloc _ _)).later (below_alloc _ _)).later (below_alloc _ _)).later (below_alloc _ _))
  · exact KpP.set (KpP.of_below ((((below_alloc _ _).trans ((below_alloc _ _).mono (by simp <;> omega))).trans ((below_alloc _ _).mono (by simp <;> omega))).trans ((below_alloc _ _).mono (by simp <;> omega)))) 0 _
theorem zeroRp (w : World) : (zeroValue 80).run Tryd.prog w = .ok (.pointer none) w := by kernel_rfl
set_option maxRecDepth 100000 in
theorem ask_nil (w : World) : Calls Tryd.prog 17 #[.nilIface] w fun e w' => e = .returned (.tuple #[.slice none 0 0, .int .i64 0]) ∧ Below w.heap.size w w' := by
  have KA := show Hid (∀ (t : Value) (W : World), Calls Tryd.prog 28 #[.nilIface, t] W fun e w' => e = .returned (.bool false) ∧ w' = W) from as_nil
  have hmi : ∀ (w : World) (v : Value), (Instr.makeInterface 82 v).run Tryd.prog w = .ok (.iface 82 v) w := fun w v => by kernel_rfl
  go_enter Tryd.func17, Tryd.ntmps17
  go_wp2_with (refine wpList_alloc1 80 rfl _ zeroRp rfl rfl ?_)
  intro w1 bv hn1
  have HB := show Hid _ from hn1.bel
  clear hn1
  go_wp2_with fail
  refine Calls.mono (KA.out _ w1) ?_
  rintro e w2 ⟨rfl, hw⟩
  subst w2
  go_wp2_with fail
  go_ret2
  exact ⟨rfl, HB.out⟩
set_option maxRecDepth 100000 in
set_option maxHeartbeats 1000000 in
theorem ask_ref (w : World) {B q : Nat} {er : Int} {wy : List Int} {wv : Value} (hg : Ety w) (h : Rf w B q er wy wv) :
    Calls Tryd.prog 17 #[.iface 80 (.pointer (some ⟨q, 0, none⟩))] w fun e w' => ∃ yv, e = .returned (.tuple #[yv, .int .i64 er]) ∧ w'.ownsRow B 3 1 yv wy.length (intsI wy) ∧ Below w.heap.size w w' := by
  have hmi : ∀ (w : World) (v : Value), (Instr.makeInterface 82 v).run Tryd.prog w = .ok (.iface 82 v) w := fun w v => by kernel_rfl
  obtain ⟨⟨yv, h1, h2, h3⟩, h4⟩ := h
  obtain ⟨yp, yc, rfl⟩ := own_form h2
  have HQ := show Hid (Cl w q #[.int .i64 er, .slice yp wy.length yc] 84) from h1
  have HY := show Hid _ from h2
  have HG := show Hid (Ety w) from hg
  clear h1 h2 h3 h4 hg
  go_enter Tryd.func17, Tryd.ntmps17
  go_wp2_with (refine wpList_alloc1 80 rfl _ zeroRp rfl rfl ?_)
  intro w1 bv hn1
  have HN1 := show Hid (New w w1 bv #[.pointer none] 80) from hn1
  have KA := show Hid _ from as_any w1 q bv (HG.out.later hn1.bel HG.out.lt) hn1.blk
  clear hn1
  go_wp2_with fail
  refine Calls.mono KA.out ?_
  rintro e w2 ⟨rfl, hc2, hk2⟩
  have hq2 : Cl w2 q #[.int .i64 er, .slice yp wy.length yc] 84 := Cl.kp (Cl.later HQ.out HN1.out.bel) hk2 (by have := HQ.out.lt; have := HN1.out.ge; omega)
  have c0 : w2.cell? ⟨bv, 0, none⟩ = some (.pointer (some ⟨q, 0, none⟩)) := hc2.cell 0
  have d0 : w2.cell? ⟨q, 0, none⟩ = some (.int .i64 er) := hq2.cell 0
  have d1 : w2.cell? ⟨q, 1, none⟩ = some (.slice yp wy.length yc) := hq2.cell 1
  have HB2 := show Hid (Below w.heap.size w w2) from bel_kp HN1.out.bel hk2 HN1.out.ge
  have HY2 := show Hid _ from own_kp HY.out fun k e => HB2.out.block k (own_blk HY.out k e).2.1
  clear hc2 hk2 hq2 KA HN1
  go_wp2_with fail
  go_region
  clear c0 d0 d1
  go_wp2_with fail
  go_ret2
  refine ⟨_, rfl, ?_, HB2.out.drew⟩
  exact own_kp HY2.out fun k e => rfl
def InI (w : World) (v : Value) (l : List Int) : Prop := ∃ p c, v = .slice p l.length c ∧ l.length ≤ 140737488351232 ∧ ∀ k (hk : k < l.length), ∃ b, p = some ⟨b, 0, none⟩ ∧ w.cell? ⟨b, k, none⟩ = some (.int .i64 l[k])
theorem own_in {w : World} {B : Nat} {v : Value} {l : List Int} (h : w.ownsRow B 3 1 v l.length (intsI l)) (hl : l.length ≤ 140737488351232) : InI w v l := by
  rcases h.2 with ⟨rfl, h0⟩ | ⟨g, cap, cur, rfl, hg, hh, h1, h2, h3, h4⟩
  · exact ⟨none, 0, by rw [h0], hl, fun k hk => absurd hk (by omega)⟩
  · refine ⟨some ⟨g, 0, none⟩, cap, rfl, hl, fun k hk => ⟨g, rfl, ?_⟩⟩
    rw [cell_of_row w g k _ _ _ hh]
    have e : (intsI l)[k]? = some (.int .i64 l[k]) := by simp [intsI, hk]
    rw [← h4, List.getElem?_take, if_pos (by omega)] at e
    simpa using e
theorem InI.later {w w' : World} {v : Value} {l : List Int} (h : InI w v l) (hb : Below w.heap.size w w') : InI w' v l := by
  obtain ⟨p, c, hv, hl, h3⟩ := h
  refine ⟨p, c, hv, hl, fun k hk => ?_⟩
  obtain ⟨b, hp, hc⟩ := h3 k hk
  exact ⟨b, hp, (hb.cell (p := ⟨b, _, none⟩) (World.block_lt_of_cell? w _ hc)).trans hc⟩
set_option maxRecDepth 100000 in
set_option maxHeartbeats 2000000 in
theorem index_any (w : World) {v : Value} {l : List Int} (h : InI w v l) (C : Nat) (P : Int → Bool) (hP : ∀ W, Below w.heap.size w W → ∀ i : Int, Calls Tryd.prog 26 #[.pointer (some ⟨C, 0, none⟩), .int .i64 i] W fun r w' => r = .returned (.bool (P i)) ∧ Below W.heap.size W w') :
    Calls Tryd.prog 47 #[v, .func (.func 26) #[.pointer (some ⟨C, 0, none⟩)] #[]] w fun r w' => ∃ ix : Int, r = .returned (.int .i64 ix) ∧ decide (0 ≤ ix) = l.any P ∧ Below w.heap.size w w' := by
  obtain ⟨p, c, rfl, hl, h3⟩ := h
  have HAT := show Hid (∀ W, Below w.heap.size w W → ∀ k (hk : k < l.length), ∃ b, p = some ⟨b, 0, none⟩ ∧ W.cell? ⟨b, k, none⟩ = some (.int .i64 l[k])) from fun W hW k hk => by
    obtain ⟨b, hp, hc⟩ := h3 k hk
    exact ⟨b, hp, (hW.cell (p := ⟨b, _, none⟩) (World.block_lt_of_cell? w _ hc)).trans hc⟩
  have HP := show Hid _ from hP
  clear h3 hP
  go_enter Tryd.func47, Tryd.ntmps47
  go_wp2_with fail
  go_loopw [5, 8] (fun _ i wr => ∃ j : Nat, j ≤ l.length ∧ i = .int .i64 (j : Int) ∧ Hid ((l.drop j).any P = l.any P) ∧ Hid (Below w.heap.size w wr)) (fun _ i _ => l.length - (intOf i).toNat)
  case atStart => exact ⟨0, Nat.zero_le _, rfl, by rw [List.drop_zero]; exact (show l.any P = l.any P from rfl), Below.refl _ _⟩
  case round =>
    obtain ⟨j, hj, rfl, HF, HB⟩ := hrel
    by_cases hlt : j < l.length
    · obtain ⟨b, rfl, hc⟩ := HAT.out wr HB.out j hlt
      have hst := HF.out
      rw [List.drop_eq_getElem_cons hlt, List.any_cons] at hst
      have KC := show Hid _ from HP.out wr HB.out l[j]
      generalize l[j] = x at *
      have HST := show Hid _ from hst
      have hji : (j : Int) < (l.length : Int) := by omega
      clear hst HF
      go_wp2_with fail
      refine Calls.mono KC.out ?_
      rintro e w2 ⟨rfl, hb2⟩
      have HB2 := show Hid (Below w.heap.size w w2) from HB.out.trans (hb2.mono HB.out.size)
      generalize P x = px at *
      clear hb2 KC HB hc
      cases px with
      | true =>
        go_wp2_with fail
        go_ret
        refine ⟨_, rfl, ?_, HB2.out⟩
        rw [← HST.out]
        simp
      | false =>
        have HF2 := show Hid ((l.drop (j + 1)).any P = l.any P) from HST.out
        clear HST
        go_wp2_with fail
        go_roundw
        case rel => exact ⟨j + 1, by omega, by go_num, HF2, HB2⟩
        case measure => first | (simp [intOf]; done) | (simp [intOf]; omega)
    · have hje : j = l.length := by omega
      have hst := HF.out
      rw [hje, List.drop_length] at hst
      have HST := show Hid _ from hst
      have hji : ¬ (j : Int) < (l.length : Int) := by omega
      clear hje hst HF
      go_wp2_with fail
      go_ret
      exact ⟨_, rfl, by rw [← HST.out]; rfl, HB.out⟩
set_option maxRecDepth 100000 in
theorem contains_any (w : World) {v : Value} {l : List Int} (h : InI w v l) (C : Nat) (P : Int → Bool) (hP : ∀ W, Below w.heap.size w W → ∀ i : Int, Calls Tryd.prog 26 #[.pointer (some ⟨C, 0, none⟩), .int .i64 i] W fun r w' => r = .returned (.bool (P i)) ∧ Below W.heap.size W w') :
    Calls Tryd.prog 25 #[v, .func (.func 26) #[.pointer (some ⟨C, 0, none⟩)] #[]] w fun r w' => r = .returned (.bool (l.any P)) ∧ Below w.heap.size w w' := by
  have KI := show Hid _ from index_any w h C P hP
  obtain ⟨p, c, rfl, _⟩ := h
  clear hP
  go_enter Tryd.func25, Tryd.ntmps25
  go_wp2_with fail
  refine Calls.mono KI.out ?_
  rintro e w2 ⟨ix, rfl, hix, hb2⟩
  have HB2 := show Hid _ from And.intro hix hb2
  clear hix hb2 KI
  go_wp2_with fail
  go_ret
  exact ⟨ret_bool HB2.out.1, HB2.out.2⟩
end Go.Proofs.YtkpbpecikibohaaDoor.Ya
