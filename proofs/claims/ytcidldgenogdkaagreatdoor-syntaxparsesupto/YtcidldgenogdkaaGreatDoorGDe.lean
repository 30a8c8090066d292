/-
  The document's call Copy of a table: new memory, the same rows. For every table. No other condition.
-/
import Derived.Test.YtcidldgenogdkaaGreatDoorGDc
import Derived.Test.YtcidldgenogdkaaGreatDoorGDd
import Derived.Test.YtcidldgenogdkaaGreatDoorRScan
import Derived.Test.YtcidldgenogdkaaGreatDoorSHeads
namespace Go.Proofs.YtcidldgenogdkaaGreatDoor
open Go.RowKit Go.Maps
open Fm (Nd)

theorem run_append_copy (w : World) (ty : TypeId) {u : Value} {t : List Nd} (hR : Rw w u t) (hl : t.length ≤ 1048576) :
    ∃ v' w', (Builtin.append_ #[22, 22] ty #[.slice none 0 0, u]).run Tryz.prog w = .ok v' w' ∧ Rw w' v' t ∧ (∀ k, v'.ownBlock = some k → w.heap.size ≤ k) ∧ w.grownBy w' none := by
  obtain ⟨i0, hi, hz0, hz1, hz2⟩ := info_parts info_node
  have hR0 := hR
  rcases hR with ⟨rfl, rfl⟩ | ⟨g, cap, cur, rfl, hg, hnc, hcm, hcs, htake⟩
  · refine ⟨.slice none 0 0, w, ?_, rw_nil w, fun k hk => by simp [Value.ownBlock] at hk, ⟨rfl, rfl, rfl, Nat.le_refl _, fun _ _ _ => rfl⟩⟩
    simp [Builtin.append_, run_underlying Tryz.underlying22, sizeOf, typeInfo, hi, Builtin.lenOf, Builtin.firstCells]
  · obtain ⟨v', w', h1, h2, h3, _⟩ := run_append_own_at (P := Tryz.prog) w w.heap.size 22 ty 104 i0 _ 4 40 Tryz.underlying22 hi hz0 hz1 hz2 rfl (by decide) (.slice none 0 0) 0 [] (World.ownsRow_nil _ _ _ _) ⟨g, 0, none⟩ t.length cap (cellsOf t) (cellsOf_len t) (src_any hR0.isR) (cellsOf_one t) (by unfold maxLen; omega) (by omega) (Nat.le_refl _)
    rw [Nat.zero_add, List.nil_append] at h2
    obtain ⟨h4, h5⟩ := rw_of_own h2
    exact ⟨v', w', h1, h4, h5, h3⟩
theorem step_append_copy {ops : Array Oper} {o : Oper} {a : Act} {w : World} {K : Act → World → Prop} {Q : Exit → Act → World → Prop} {E : Prop}
    (hg : o.guard = none) (s x : Operand) (hop : o.op = Op.call { callee := Callee.builtin Builtin.append, args := #[s, x], argTypes := #[22, 22] })
    (u : Value) (t : List Nd) (hs : a.eval s = .slice none 0 0) (hx : a.eval x = u) (hR : Rw w u t) (hl : t.length ≤ 1048576)
    (hK : ∀ v' w', Rw w' v' t → (∀ k, v'.ownBlock = some k → w.heap.size ≤ k) → w.grownBy w' none → K (a.put o.dst v') w') :
    if Region.wanted o (yielded ops a.tmps) = true then Oper.wp Tryz.prog o a w K Q else E := by
  have hw : Region.wanted o (yielded ops a.tmps) = true := by simp [Region.wanted, hg]
  rw [if_pos hw]
  obtain ⟨v', w', hrun, r1, r2, r3⟩ := run_append_copy w o.type hR hl
  unfold Oper.wp
  simp [execOp, hop, resolve, invoke, builtin, hs, hx, hrun, Result.andThen]
  exact hK v' w' r1 r2 r3
set_option maxRecDepth 100000 in
set_option maxHeartbeats 2000000 in
theorem rcopy_any (w : World) {c : Nat} {u : Value} {t : List Nd} (h : Tr w c u t) :
    Calls Tryz.prog 32 #[.pointer (some ⟨c, 0, none⟩)] w fun e w' => ∃ u', e = .returned (.pointer (some ⟨w.heap.size, 0, none⟩)) ∧ Tr w' w.heap.size u' t ∧ (∀ k, Fr w.heap.size u' k → w.heap.size ≤ k) ∧ Below w.heap.size w w' := by
  have hlen : t.length ≤ 1024 := h.ok.len
  have HOK := show Hid (Fm.Ok t) from h.ok
  have HB := show Hid (Below w.heap.size w (w.alloc (Obj.cells #[.slice none 0 0] 61))) from below_alloc _ _
  have HT := show Hid (Tr (w.alloc (Obj.cells #[.slice none 0 0] 61)) c u t) from h.later (below_alloc _ _)
  have HN := show Hid ((w.alloc (Obj.cells #[.slice none 0 0] 61)).heap[w.heap.size]? = some (.cells #[.slice none 0 0] 61 (0, 0))) from heap_alloc_new _ _
  have c0 : (w.alloc (Obj.cells #[.slice none 0 0] 61)).cell? ⟨c, 0, none⟩ = some u := HT.out.c0
  have n0 : (w.alloc (Obj.cells #[.slice none 0 0] 61)).cell? ⟨w.heap.size, 0, none⟩ = some (.slice none 0 0) := by rw [cell_of_row _ _ 0 _ _ _ HN.out]; rfl
  have HK := show Hid (∀ (w' : World), (w.alloc (Obj.cells #[.slice none 0 0] 61)).drew.grownBy w' none → (w'.heap[w.heap.size]? = some (.cells #[.slice none 0 0] 61 (0, 0)) ∧ w'.cell? ⟨c, 0, none⟩ = some u ∧ w'.cell? ⟨w.heap.size, 0, none⟩ = some (.slice none 0 0) ∧ w'.frozen? ⟨w.heap.size, 0, none⟩ = false ∧ Below w.heap.size w w')) from fun w' hg => by
    have hb : ∀ k, k < (w.alloc (Obj.cells #[.slice none 0 0] 61)).heap.size → w'.heap[k]? = (w.alloc (Obj.cells #[.slice none 0 0] 61)).heap[k]? := fun k hk => hg.block k hk (by simp)
    have h1 : w'.heap[w.heap.size]? = some (.cells #[.slice none 0 0] 61 (0, 0)) := (hb _ (by simp)).trans HN.out
    refine ⟨h1, (World.cell?_of_block (w := w.alloc (Obj.cells #[.slice none 0 0] 61)) (hb c HT.out.clt)).trans c0, by rw [cell_of_row _ _ 0 _ _ _ h1]; rfl, frozen_of_row _ _ _ _ _ h1, ?_⟩
    exact HB.out.trans ((show Below (w.alloc (Obj.cells #[.slice none 0 0] 61)).heap.size (w.alloc (Obj.cells #[.slice none 0 0] 61)) w' from ⟨hg.os, hg.tape, hg.output, hg.size, fun k hk => hb k hk⟩).mono (by simp))
  obtain ⟨pp, cp, hu⟩ := h.row.form
  subst hu
  have HRW := show Hid (Rw (w.alloc (Obj.cells #[.slice none 0 0] 61)).drew (.slice pp t.length cp) t) from HT.out.row.keep fun _ _ => rfl
  clear h
  go_enter Tryz.func32, Tryz.ntmps32
  go_wp2_with fail
  go_region_law (refine step_append_copy rfl (.tmp 10) (.tmp 14) rfl (.slice pp t.length cp) t rfl rfl HRW.out (by omega) ?_; intro v' w' hrw hown hgr; obtain ⟨p', c', hv'⟩ := hrw.form; subst hv'; have f0 := (HK.out w' hgr).2.1; have f1 := (HK.out w' hgr).2.2.1; have f2 := (HK.out w' hgr).2.2.2.1)
  all_goals
    have X := HK.out w' hgr
    go_wp2_with fail
    go_ret
    refine ⟨_, rfl, ⟨heap_setCell_same _ w.heap.size 0 _ _ _ X.1, hrw.keep fun k hk => Below.heap_setCell _ _ _ _ (fun e => ?_), HOK.out⟩, ?_, X.2.2.2.2.setCell (Nat.le_refl _) _⟩
    · have e2 : k = w.heap.size := e
      have := hown k hk
      simp [World.drew] at this
      omega
    · rintro k (e | e)
      · omega
      · have := hown k e
        simp [World.drew] at this
        omega
end Go.Proofs.YtcidldgenogdkaaGreatDoor
/-
  The document's calls ahead and Count. For every text of at most 2^40 bytes. No other condition.
-/
namespace Go.Proofs.YtcidldgenogdkaaGreatDoor
open Go.RowKit Go.Maps
open Fm (Nd)
open Sx (Tn T Lv)

/-- What ahead answers, in memory: the tokens stand with an end behind them. -/
def IsAhead (w : World) (s : List UInt8) (e : Ending) (w' : World) : Prop := ∃ g cap, e = .returned (.tuple #[.slice (some ⟨g, 0, none⟩) (Dp.al s).length cap, Tw.fltV s (Tk.scan s).2.1 (Tk.scan s).2.2]) ∧ w.heap.size ≤ g ∧ TsAt w' g cap (Dp.dts s) ∧ Below w.heap.size w w'
theorem TsAt.later {w w' : World} {g cap : Nat} {ts : List Tn} (h : TsAt w g cap ts) (hb : Below w.heap.size w w') : TsAt w' g cap ts := by
  obtain ⟨cur, hh, r⟩ := h
  exact ⟨cur, (hb.block _ (lt_of_block hh)).trans hh, r⟩
theorem TsAt.ne {w : World} {g cap k : Nat} {ts : List Tn} {e l c o : Int} (h : TsAt w g cap ts) (hf : Fl w k e l c o) : g ≠ k := by
  rintro rfl
  obtain ⟨cur, hh, _⟩ := h
  unfold Fl at hf
  rw [hf] at hh
  simp at hh
theorem TsAt.fset {w : World} {g cap k : Nat} {ts : List Tn} (h : TsAt w g cap ts) (hne : g ≠ k) (x y z u : Value) : TsAt ((((w.setCell ⟨k, 0, none⟩ x).setCell ⟨k, 1, none⟩ y).setCell ⟨k, 2, none⟩ z).setCell ⟨k, 3, none⟩ u).drew g cap ts :=
  h.keep (by
    show ((((w.setCell ⟨k, 0, none⟩ x).setCell ⟨k, 1, none⟩ y).setCell ⟨k, 2, none⟩ z).setCell ⟨k, 3, none⟩ u).heap[g]? = _
    rw [Below.heap_setCell _ _ _ _ hne, Below.heap_setCell _ _ _ _ hne, Below.heap_setCell _ _ _ _ hne, Below.heap_setCell _ _ _ _ hne])
section
variable (w : World)
set_option maxRecDepth 100000 in
set_option maxHeartbeats 4000000 in
theorem ahead_any (s : ByteArray) (hs : s.size ≤ 1099511627776) : Calls Tryz.prog 30 #[.string s] w fun e w' => IsAhead w s.data.toList e w' := by
  have hsz : s.data.toList.length = s.size := rfl
  have hk := toks_ok s.data.toList
  have K1 := show Hid (∀ w1, Calls Tryz.prog 58 #[.string s] w1 fun e w' => ∃ v, e = .returned (.tuple #[v, Tw.fltV s.data.toList (Tk.scan s.data.toList).2.1 (Tk.scan s.data.toList).2.2]) ∧ w'.ownsRow w1.heap.size 45 6 v (Tk.scan s.data.toList).1.length (Tw.toksC s.data.toList (Tk.scan s.data.toList).1) ∧ Below w1.heap.size w1 w') from fun w1 => (Tw.rscan_any w1 s hs).mono fun e w' h => by
    obtain ⟨⟨v, h1, h2⟩, h3⟩ := h
    exact ⟨v, h1, h2, h3⟩
  have b0 := show Hid (Below w.heap.size w (w.alloc (Obj.cells #[.int .i64 0, .int .i64 0, .int .i64 0, .int .i64 0] 31))) from below_alloc _ _
  have f0 := show Hid (Fl (w.alloc (Obj.cells #[.int .i64 0, .int .i64 0, .int .i64 0, .int .i64 0] 31)) w.heap.size 0 0 0 0) from fl_new _ _ _ _ _
  unfold IsAhead
  by_cases h0 : (Tk.scan s.data.toList).2.1 = 0
  · have ht : toks s.data.toList = (Tk.scan s.data.toList).1.map (tn s.data.toList) := by unfold toks; rw [if_pos h0]
    have hdt : Dp.dts s.data.toList = toks s.data.toList := by unfold Dp.dts; rw [if_pos h0]
    have hal : Dp.al s.data.toList = toks s.data.toList := by unfold Dp.al; rw [if_pos h0]
    have HX := show Hid (∀ v B w', w'.ownsRow B 45 6 v (Tk.scan s.data.toList).1.length (Tw.toksC s.data.toList (Tk.scan s.data.toList).1) → ∃ g cap, v = .slice (some ⟨g, 0, none⟩) (toks s.data.toList).length cap ∧ B ≤ g ∧ TsAt w' g cap (toks s.data.toList)) from fun v B w' h => by
      refine tsAt_of_own ?_ hk.1 (by have := hk.2.1; omega)
      rw [ht, toksOf_map, List.length_map]
      exact h
    rw [hdt, hal]
    rw [h0] at K1 ⊢
    have hfv : Tw.fltV s.data.toList 0 (Tk.scan s.data.toList).2.2 = .agg #[.int .i64 0, .int .i64 0, .int .i64 0, .int .i64 0] := rfl
    rw [hfv] at K1 ⊢
    clear hs hsz ht hfv h0 hdt hal hk
    go_enter Tryz.func30, Tryz.ntmps30
    go_wp2_with fail
    refine (K1.out _).mono ?_
    rintro e w1 ⟨v, rfl, ho, hb⟩
    obtain ⟨g, cap, rfl, hg, hts⟩ := HX.out v _ w1 ho
    obtain ⟨w2, hw2⟩ : ∃ w2, w2 = w1.alloc (Obj.cells #[.int .i64 0, .int .i64 0, .int .i64 0, .int .i64 0] 31) := ⟨_, rfl⟩
    have hb2 : Below w1.heap.size w1 w2 := by rw [hw2]; exact below_alloc _ _
    have X := show Hid (w.heap.size ≤ g ∧ TsAt w2 g cap (toks s.data.toList) ∧ Below w.heap.size w w2 ∧ Fl w2 w.heap.size 0 0 0 0 ∧ Fl w2 w1.heap.size 0 0 0 0) from ⟨by simp at hg; omega, hts.later hb2, (b0.out.trans (hb.mono b0.out.size)).trans (hb2.mono (b0.out.trans (hb.mono b0.out.size)).size), (f0.out.later hb).later hb2, by rw [hw2]; exact fl_new _ _ _ _ _⟩
    have hne : ¬ w1.heap.size = w.heap.size := by have := hb.size; simp at this; omega
    have hne2 : ¬ w.heap.size = w1.heap.size := fun e => hne e.symm
    clear ho hb hg hts HX K1 hb2 b0 f0
    have r0 := X.out.2.2.2.1.c0; have r1 := X.out.2.2.2.1.c1; have r2 := X.out.2.2.2.1.c2; have r3 := X.out.2.2.2.1.c3; have rf := X.out.2.2.2.1.fr
    have s0 := X.out.2.2.2.2.c0; have s1 := X.out.2.2.2.2.c1; have s2 := X.out.2.2.2.2.c2; have s3 := X.out.2.2.2.2.c3
    go_wp2_with fail
    rw [← hw2]
    clear hw2
    go_region
    go_wp2_with fail
    refine bodyPost_ret (results_tmp_cell rfl _ _ w.heap.size _ _ _ _ rfl (Fl.drew (X.out.2.2.2.1.s4 0 0 0 0)) Tryz.underlying31 rfl (by kernel_rfl)) rfl ?_
    exact ⟨g, cap, rfl, X.out.1, X.out.2.1.fset (X.out.2.1.ne X.out.2.2.2.1) _ _ _ _, ((((X.out.2.2.1.setCell (Nat.le_refl _) _).setCell (Nat.le_refl _) _).setCell (Nat.le_refl _) _).setCell (Nat.le_refl _) _).drew⟩
  · have hf := Tk.scan_first s.data.toList h0
    obtain ⟨pre, hd, _⟩ := Dp.dts_fault s.data.toList h0
    have hdl := (Dp.al_over s.data.toList).2.2.2
    have hal : (Dp.al s.data.toList).length = pre.length := by unfold Dp.al; rw [if_neg h0, hd, List.dropLast_concat]
    have hdt : Dp.dts s.data.toList = (Tk.scan (s.data.toList.take (Tk.scan s.data.toList).2.2)).1.map (tn (s.data.toList.take (Tk.scan s.data.toList).2.2)) := by unfold Dp.dts; rw [if_neg h0]
    have hlen : (Dp.dts s.data.toList).length = pre.length + 1 := by rw [hd]; simp
    have HX := show Hid (∀ v B w', w'.ownsRow B 45 6 v (Tk.scan (s.data.toList.take (Tk.scan s.data.toList).2.2)).1.length (Tw.toksC (s.data.toList.take (Tk.scan s.data.toList).2.2) (Tk.scan (s.data.toList.take (Tk.scan s.data.toList).2.2)).1) → ∃ g cap, v = .slice (some ⟨g, 0, none⟩) (pre.length + 1) cap ∧ B ≤ g ∧ TsAt w' g cap (Dp.dts s.data.toList)) from fun v B w' h => by
      rw [← hlen]
      refine tsAt_of_own ?_ (by omega) (by have := hk.2.1; omega)
      rw [hdt, toksOf_map, List.length_map]
      exact h
    have hle : (Tk.scan s.data.toList).2.2 ≤ s.size := by rw [← hsz]; exact hf.1
    have K2 := show Hid (∀ w1, Calls Tryz.prog 58 #[.string (s.extract 0 (Tk.scan s.data.toList).2.2)] w1 fun e w' => ∃ g cap, e = .returned (.tuple #[.slice (some ⟨g, 0, none⟩) (pre.length + 1) cap, .agg #[.int .i64 0, .int .i64 0, .int .i64 0, .int .i64 0]]) ∧ w1.heap.size ≤ g ∧ TsAt w' g cap (Dp.dts s.data.toList) ∧ Below w1.heap.size w1 w') from fun w1 => by
      refine (Tw.rscan_any w1 (s.extract 0 (Tk.scan s.data.toList).2.2) (by simp; omega)).mono fun e w' h => ?_
      have hlist : (s.extract 0 (Tk.scan s.data.toList).2.2).data.toList = s.data.toList.take (Tk.scan s.data.toList).2.2 := by rw [Tw.str_take s _]
      obtain ⟨⟨v, h1, h2⟩, h3⟩ := h
      rw [hlist] at h1 h2
      rw [hf.2] at h1
      obtain ⟨g, cap, rfl, hg, hts⟩ := HX.out v _ w' h2
      exact ⟨g, cap, h1, hg, hts, h3⟩
    have hfv : Tw.fltV s.data.toList (Tk.scan s.data.toList).2.1 (Tk.scan s.data.toList).2.2 = .agg #[.int .i64 (Tk.scan s.data.toList).2.1, .int .i64 (Tk.spot s.data.toList (Tk.scan s.data.toList).2.2).1, .int .i64 (Tk.spot s.data.toList (Tk.scan s.data.toList).2.2).2, .int .i64 ((Tk.scan s.data.toList).2.2 : Int)] := by unfold Tw.fltV; rw [if_neg h0]
    rw [hfv] at K1 ⊢
    rw [hal]
    have hpl : pre.length ≤ 1099511627776 := by have := hk.2.1; omega
    have h0' : ((Tk.scan s.data.toList).2.1 == 0) = false := by simp [h0]
    have hle' : ((Tk.scan s.data.toList).2.2 : Int) ≤ (s.size : Int) := by omega
    clear hs hsz hfv hdt hal hk hf hd hdl HX
    generalize (Tk.spot s.data.toList (Tk.scan s.data.toList).2.2).1 = sp1 at *
    generalize (Tk.spot s.data.toList (Tk.scan s.data.toList).2.2).2 = sp2 at *
    generalize (Tk.scan s.data.toList).2.1 = ec at *
    generalize (Tk.scan s.data.toList).2.2 = off at *
    generalize (Tk.scan s.data.toList).1 = l1 at *
    generalize Dp.dts s.data.toList = ds at *
    go_enter Tryz.func30, Tryz.ntmps30
    go_wp2_with fail
    refine (K1.out _).mono ?_
    rintro e w1 ⟨v, rfl, ho, hb⟩
    have hb2 : Below w1.heap.size w1 (w1.alloc (Obj.cells #[.int .i64 ec, .int .i64 sp1, .int .i64 sp2, .int .i64 (off : Int)] 31)) := below_alloc _ _
    have X := show Hid (Below w.heap.size w (w1.alloc (Obj.cells #[.int .i64 ec, .int .i64 sp1, .int .i64 sp2, .int .i64 (off : Int)] 31)) ∧ Fl (w1.alloc (Obj.cells #[.int .i64 ec, .int .i64 sp1, .int .i64 sp2, .int .i64 (off : Int)] 31)) w.heap.size 0 0 0 0 ∧ Fl (w1.alloc (Obj.cells #[.int .i64 ec, .int .i64 sp1, .int .i64 sp2, .int .i64 (off : Int)] 31)) w1.heap.size ec sp1 sp2 (off : Int)) from ⟨(b0.out.trans (hb.mono b0.out.size)).trans (hb2.mono (b0.out.trans (hb.mono b0.out.size)).size), (f0.out.later hb).later hb2, fl_new _ _ _ _ _⟩
    have hne : ¬ w1.heap.size = w.heap.size := by have := hb.size; simp at this; omega
    have hne2 : ¬ w.heap.size = w1.heap.size := fun e => hne e.symm
    clear ho hb K1 hb2 b0 f0
    go_wp2_with fail
    refine (K2.out _).mono ?_
    rintro e w2 ⟨g, cap, rfl, hg, hts, hb⟩
    obtain ⟨w3, hw3⟩ : ∃ w3, w3 = w2.alloc (Obj.cells #[.int .i64 0, .int .i64 0, .int .i64 0, .int .i64 0] 31) := ⟨_, rfl⟩
    have hb3 : Below w2.heap.size w2 w3 := by rw [hw3]; exact below_alloc _ _
    have hcap : pre.length ≤ cap := by obtain ⟨_, _, h1, _⟩ := hts; omega
    have Y := show Hid (w.heap.size ≤ g ∧ TsAt w3 g cap ds ∧ Below w.heap.size w w3 ∧ Fl w3 w.heap.size 0 0 0 0 ∧ Fl w3 w1.heap.size ec sp1 sp2 (off : Int)) from ⟨Nat.le_trans X.out.1.size hg, hts.later hb3, (X.out.1.trans (hb.mono X.out.1.size)).trans (hb3.mono (X.out.1.trans (hb.mono X.out.1.size)).size), (X.out.2.1.later hb).later hb3, (X.out.2.2.later hb).later hb3⟩
    clear hb hg hts hb3 K2 X
    have r0 := Y.out.2.2.2.1.c0; have r1 := Y.out.2.2.2.1.c1; have r2 := Y.out.2.2.2.1.c2; have r3 := Y.out.2.2.2.1.c3; have rf := Y.out.2.2.2.1.fr
    have s0 := Y.out.2.2.2.2.c0; have s1 := Y.out.2.2.2.2.c1; have s2 := Y.out.2.2.2.2.c2; have s3 := Y.out.2.2.2.2.c3
    go_wp2_with fail
    rw [← hw3]
    clear hw3
    go_region
    go_wp2_with fail
    refine bodyPost_ret (results_tmp_cell rfl _ _ w.heap.size _ _ _ _ rfl (Fl.drew (Y.out.2.2.2.1.s4 ec sp1 sp2 (off : Int))) Tryz.underlying31 rfl (by kernel_rfl)) rfl ?_
    exact ⟨g, cap, rfl, Y.out.1, Y.out.2.1.fset (Y.out.2.1.ne Y.out.2.2.2.1) _ _ _ _, ((((Y.out.2.2.1.setCell (Nat.le_refl _) _).setCell (Nat.le_refl _) _).setCell (Nat.le_refl _) _).setCell (Nat.le_refl _) _).drew⟩
theorem TsAt.left {w : World} {g cap : Nat} {a b : List Tn} (h : TsAt w g cap (a ++ b)) : TsAt w g cap a := by
  obtain ⟨cur, h1, h2, h3, h4, h5⟩ := h
  rw [List.length_append] at h2 h4 h5
  refine ⟨cur, h1, by omega, h3, ?_, by omega⟩
  have := congrArg (List.take (a.length * 6)) h4
  rw [List.take_take, Nat.min_eq_left (by omega)] at this
  rw [this, show toksOf (a ++ b) = toksOf a ++ toksOf b from by simp [toksOf], ← toksOf_len a, List.take_left]
theorem al_pre (s : List UInt8) : ∃ b, Dp.dts s = Dp.al s ++ b := by
  by_cases h0 : (Tk.scan s).2.1 = 0
  · exact ⟨[], by unfold Dp.dts Dp.al; rw [if_pos h0, if_pos h0, List.append_nil]⟩
  · obtain ⟨pre, hd, _⟩ := Dp.dts_fault s h0
    have e : Dp.al s = pre := by unfold Dp.al; rw [if_neg h0, hd, List.dropLast_concat]
    rw [e]
    exact ⟨_, hd⟩
set_option maxRecDepth 100000 in
set_option maxHeartbeats 2000000 in
theorem dcount_any (s : ByteArray) (hs : s.size ≤ 1099511627776) :
    Calls Tryz.prog 13 #[.string s] w fun e w' => e = .returned (.int .i64 (cnt (toks s.data.toList) : Int)) ∧ Below w.heap.size w w' := by
  have K1 := show Hid (Calls Tryz.prog 30 #[.string s] w fun e w' => ∃ g cap e0 l0 c0 o0, e = .returned (.tuple #[.slice (some ⟨g, 0, none⟩) (Dp.al s.data.toList).length cap, .agg #[.int .i64 e0, .int .i64 l0, .int .i64 c0, .int .i64 o0]]) ∧ TsAt w' g cap (Dp.al s.data.toList) ∧ Below w.heap.size w w') from (ahead_any w s hs).mono fun e w' ⟨g, cap, h1, _, h3, h4⟩ => by
    obtain ⟨b, hb⟩ := al_pre s.data.toList
    rw [hb] at h3
    unfold Tw.fltV at h1
    split at h1
    · exact ⟨g, cap, _, _, _, _, h1, h3.left, h4⟩
    · exact ⟨g, cap, _, _, _, _, h1, h3.left, h4⟩
  have hlen : (Dp.al s.data.toList).length ≤ 1099511627777 := by
    obtain ⟨b, hb⟩ := al_pre s.data.toList
    have h1 := congrArg List.length hb
    rw [List.length_append, (Dp.al_over s.data.toList).2.2.2] at h1
    have := (toks_ok s.data.toList).2.1
    have : s.data.toList.length = s.size := rfl
    omega
  rw [← (Dp.al_over s.data.toList).2.1]
  generalize Dp.al s.data.toList = ts at *
  clear hs
  go_enter Tryz.func13, Tryz.ntmps13
  go_wp2_with fail
  refine K1.out.mono ?_
  rintro e w1 ⟨g, cap, e0, l0, c0, o0, rfl, hT, hb⟩
  have hb2 : Below w1.heap.size w1 (w1.alloc (Obj.cells #[.int .i64 e0, .int .i64 l0, .int .i64 c0, .int .i64 o0] 31)) := below_alloc _ _
  have X := show Hid (TsAt (w1.alloc (Obj.cells #[.int .i64 e0, .int .i64 l0, .int .i64 c0, .int .i64 o0] 31)) g cap ts ∧ Below w.heap.size w (w1.alloc (Obj.cells #[.int .i64 e0, .int .i64 l0, .int .i64 c0, .int .i64 o0] 31))) from ⟨hT.later hb2, hb.trans (hb2.mono hb.size)⟩
  clear hT hb hb2 K1
  go_wp2_with fail
  go_loopw [5, 6] (fun c i wr => ∃ k : Nat, k ≤ ts.length ∧ i = .int .i64 k ∧ (∃ cc : Nat, cc ≤ k ∧ c = .int .i64 cc ∧ Hid (cc = cnt (ts.take k))) ∧ Hid (TsAt wr g cap ts ∧ Below w.heap.size w wr)) (fun _ i _ => ts.length - (intOf i).toNat)
  case atStart => exact ⟨0, by omega, rfl, ⟨0, by omega, rfl, show 0 = cnt (ts.take 0) from rfl⟩, X.out⟩
  case round =>
    clear X
    obtain ⟨k, hk, rfl, ⟨cc, hcc, rfl, HC⟩, Y⟩ := hrel
    by_cases hlt : k < ts.length
    · have hki : (k : Int) < (ts.length : Int) := by omega
      have hcell := Y.out.1.cell hlt
      have d0 := hcell 0 (by omega)
      have d1 := hcell 1 (by omega)
      have d2 := hcell 2 (by omega)
      have d3 := hcell 3 (by omega)
      have d4 := hcell 4 (by omega)
      have d5 := hcell 5 (by omega)
      have HD := show Hid _ from cnt_drop ts k hlt
      have KC := show Hid (∀ w, Calls Tryz.prog 31 #[tnV ts[k]] w fun e w' => e = .returned (.bool (Sx.counts ts[k])) ∧ Below w.heap.size w w') from fun w => counted_any w _
      generalize Sx.counts ts[k] = q at *
      generalize ts[k] = t at *
      obtain ⟨tk, tx, tn, tl, tc, to⟩ := t
      simp only [tnC, tnV, Nat.add_zero, List.getElem?_cons_zero, List.getElem?_cons_succ] at *
      clear hcell
      go_wp2_with fail
      refine (KC.out _).mono ?_
      rintro e w2 ⟨rfl, hb2⟩
      have Z := show Hid (TsAt w2 g cap ts ∧ Below w.heap.size w w2) from ⟨Y.out.1.later hb2, Y.out.2.trans (hb2.mono Y.out.2.size)⟩
      clear hb2 Y KC d0 d1 d2 d3 d4 d5
      cases q
      · have HN := show Hid (cc = cnt (ts.take (k + 1))) from by
          show cc = cnt (ts.take (k + 1))
          rw [HD.out, HC.out]; rfl
        go_wp2_with fail
        go_roundw
        case rel => exact ⟨k + 1, by omega, by go_num, ⟨cc, by omega, rfl, HN⟩, Z⟩
        case measure => first | (simp [intOf]; done) | (simp [intOf]; omega)
      · have HN := show Hid (cc + 1 = cnt (ts.take (k + 1))) from by
          show cc + 1 = cnt (ts.take (k + 1))
          rw [HD.out, HC.out]; rfl
        go_wp2_with fail
        go_roundw
        case rel => exact ⟨k + 1, by omega, by go_num, ⟨cc + 1, by omega, by go_num, HN⟩, Z⟩
        case measure => first | (simp [intOf]; done) | (simp [intOf]; omega)
    · have hke : k = ts.length := by omega
      have hke2 : ¬ (k : Int) < (ts.length : Int) := by omega
      have HN := show Hid (cc = cnt ts) from by
        show cc = cnt ts
        rw [HC.out, hke, List.take_length]
      clear hke
      go_wp2_with fail
      go_ret
      exact ⟨ret_int (by rw [HN.out]), Y.out.2⟩
end
end Go.Proofs.YtcidldgenogdkaaGreatDoor
/-
  A token is appended where it stands already. No condition.
-/
namespace Go.Proofs.YtcidldgenogdkaaGreatDoor
open Go.RowKit Go.Maps
open Fm (Nd)
open Sx (Tn T Lv)

theorem tnC_one (t : Tn) : ∀ u ∈ tnC t, u.oneCell' = true := by
  intro u hu
  unfold tnC at hu
  simp only [List.mem_cons, List.not_mem_nil, or_false] at hu
  rcases hu with rfl | rfl | rfl | rfl | rfl | rfl <;> rfl
theorem run_append_tok (w : World) (ty : TypeId) {g cap : Nat} {ts : List Tn} {t : Tn} (hT : TsAt w g cap (ts ++ [t])) (ad : Addr) (hnews : ∀ j u, (tnC t)[j]? = some u → w.cell? (ad.add j) = some u) :
    ∃ w', (Builtin.append_ #[39, 39] ty #[.slice (some ⟨g, 0, none⟩) ts.length cap, .slice (some ad) 1 1]).run Tryz.prog w = .ok (.slice (some ⟨g, 0, none⟩) (ts.length + 1) cap) w' ∧ TsAt w' g cap (ts ++ [t]) ∧ w.grownBy w' (some g) := by
  obtain ⟨i0, hi, hz0, hz1, hz2⟩ := info_parts Tw.info_tok
  have hL := hT.left
  obtain ⟨cur, h1, h2, h3, h4, h5⟩ := hT
  obtain ⟨cur', h1', _, _, h4', _⟩ := hL
  obtain rfl : cur' = cur := by rw [h1] at h1'; simp at h1'; exact h1'.symm
  rw [List.length_append, List.length_singleton] at h2 h4 h5
  have hsz : (ts.length + 1) * 6 ≤ cur'.size := by
    have := congrArg List.length h4
    rw [List.length_take, toksOf_len, List.length_append, List.length_singleton] at this
    have e : cur'.toList.length = cur'.size := Array.length_toList
    omega
  have h6 : (tnC t).length = 6 := rfl
  have hr := run_append_room (P := Tryz.prog) w 39 ty 45 i0 Tryz.underlying39 hi g ts.length cap cur' h1 ad 1 1 (tnC t) (by rw [hz1]; rfl) hnews (tnC_one t) (by omega) (by rw [hz1, h6]; omega)
  refine ⟨_, hr, ⟨_, setRow_heap w g cur' _ _ _ h1, by rw [List.length_append, List.length_singleton]; omega, h3, ?_, by rw [List.length_append, List.length_singleton]; omega⟩, ⟨rfl, rfl, rfl, by simp, fun k _ hk => setRow_other w g k _ (fun e => hk (by simp [e]))⟩⟩
  rw [hz1, h4', List.length_append, List.length_singleton]
  have hlen : (toksOf ts ++ tnC t).length = (ts.length + 1) * 6 := by rw [List.length_append, toksOf_len, h6]; omega
  rw [show toksOf (ts ++ [t]) = toksOf ts ++ tnC t from by simp [toksOf], ← hlen]
  exact List.take_left
theorem wpList_append_tok {ops : Array Oper} {rest : List Oper} {o : Oper} {a : Act} {Q : Exit → Act → World → Prop} (w : World) (hgd : o.guard = none) (s x : Operand)
    (ho : o.op = .call { callee := .builtin .append, args := #[s, x], argTypes := #[39, 39] })
    (g cap : Nat) (ts : List Tn) (t : Tn) (hs : a.eval s = .slice (some ⟨g, 0, none⟩) ts.length cap) (hT : TsAt w g cap (ts ++ [t])) (ad : Addr) (hx : a.eval x = .slice (some ad) 1 1) (hnews : ∀ j u, (tnC t)[j]? = some u → w.cell? (ad.add j) = some u)
    (h : ∀ w', TsAt w' g cap (ts ++ [t]) → w.grownBy w' (some g) → wpList Tryz.prog ops Q rest (a.put o.dst (.slice (some ⟨g, 0, none⟩) (ts.length + 1) cap)) w') :
    wpList Tryz.prog ops Q (o :: rest) a w := by
  refine wpList_plain hgd fun K hK => ?_
  obtain ⟨w', hr, h2, h3⟩ := run_append_tok w o.type hT ad hnews
  unfold Oper.wp execOp
  simp only [ho, resolve, invoke, builtin, Sem.run_bind, Sem.run_pure, Result.andThen_ok, List.map_toArray, List.map_cons, List.map_nil, hs, hx, hr]
  exact hK _ _ (h w' h2 h3)
end Go.Proofs.YtcidldgenogdkaaGreatDoor
