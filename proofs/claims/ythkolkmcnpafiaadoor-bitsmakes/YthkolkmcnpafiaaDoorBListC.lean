/-
  All and List: for every set: List is its numbers, rising, in a block of their own. The table that TrailingZeros64 reads stands.
-/
import Derived.Test.YthkolkmcnpafiaaDoorBAll
import Derived.Maps.AppendAt
namespace Go.Proofs.YthkolkmcnpafiaaDoor
open Go.RowKit Go.Shelf Go.Maps
open Bs (Ok wd)
attribute [local go_sem] Oper.semAt_some

theorem all_any (w : World) (r : List Nat) : Calls Tryd.prog 33 #[.agg (cellsB r)] w fun e w' => e = .returned (.func (.func 43) #[] #[.pointer (some ⟨w.heap.size, 0, none⟩)]) ∧ w' = w.alloc (.cells (cellsB r) 25) := by
  go_enter Tryd.func33, Tryd.ntmps33
  go_wp2
  go_ret
  exact ⟨rfl, rfl⟩
theorem all_stops (n : Nat) (hn : 1 ≤ n) (g n₀ : Nat) {r : List Nat} (hr : Ok r) (w : World) (hg : RowAt w g r) (hT : Tz w) (hn₀ : 0 < n₀) :
    SeqStopsK Fence.wide n Tryd.prog 43 #[.pointer (some ⟨g, 0, none⟩)] (fun x : Nat => #[Value.int .i64 (x : Int)]) (Below n₀) (fun ys => ys = Bs.nums r) (fun pre => pre <+: Bs.nums r) (Bs.nums r).length w := fun l J Jx W hW _ _ hY h0 =>
  all1_any n hn l g n₀ hr J Jx hY W (hg.keep hW hg.lt) (tz_block hT hW) hn₀ h0
theorem row_made {w w2 : World} {r : List Nat} {o : Obj} (hg : ((w.alloc (.cells (cellsB r) 25)).alloc o).grownBy w2 none) (w4 : World) (h4 : Below w2.heap.size w2 w4) : RowAt w4 w.heap.size r := by
  have h0 : RowAt (w.alloc (.cells (cellsB r) 25)) w.heap.size r := heap_alloc_last w _
  have h1 : RowAt ((w.alloc (.cells (cellsB r) 25)).alloc o) w.heap.size r := h0.keep (n := w.heap.size + 1) ((Below.refl _ _).alloc (by simp) _) (Nat.lt_succ_self _)
  have h2 : RowAt w2 w.heap.size r := h1.keep (n := w.heap.size + 1) ((Below.refl _ _).grown hg (by simp only [World.size_alloc]; omega) (fun q hq => by cases hq)) (Nat.lt_succ_self _)
  exact h2.keep h4 h2.lt
set_option maxRecDepth 100000 in
set_option maxHeartbeats 2000000 in
theorem list_any (w : World) (hT : Tz w) {r : List Nat} (hr : Ok r) : Calls Tryd.prog 17 #[.agg (cellsB r)] w fun e w' => ∃ v, e = .returned v ∧ OwnI w.heap.size w' v (Bs.nums r) ∧ Below w.heap.size w w' := by
  obtain ⟨i0, hi, hz0, hz1, hz2⟩ := info_parts infoI
  have HR := show Hid (Ok r) from hr
  have HL := show Hid (r.length = 16) from hr.1
  have HT := show Hid (RowAt (w.alloc (.cells (cellsB r) 25)) w.heap.size r) from heap_alloc_last w _
  have KC := show Hid (∀ w, Calls Tryd.prog 30 #[.agg (cellsB r)] w fun e w' => e = .returned (.int .i64 ((Bs.count r 16 : Nat) : Int)) ∧ w' = w.alloc (.cells (cellsB r) 25)) from fun w => count_any w hr
  have KA := show Hid (∀ w, Calls Tryd.prog 33 #[.agg (cellsB r)] w fun e w' => e = .returned (.func (.func 43) #[] #[.pointer (some ⟨w.heap.size, 0, none⟩)]) ∧ w' = w.alloc (.cells (cellsB r) 25)) from fun w => all_any w r
  refine (callsIn_wide (n := 5)).1 ?_
  refine callsIn_of_wp_marks Tryd.func17 rfl trivial ?_ rfl
  simp only [Tryd.ntmps17, List.size_toArray, List.length_cons, List.length_nil, Nat.reduceAdd, Nat.reduceSub, Array.replicate_succ, Array.replicate_zero, List.push_toArray, List.append_toArray, List.nil_append, List.cons_append]
  have hcnt : Bs.count r 16 ≤ 1024 := count_le hr.1 16 (Nat.le_refl _)
  have hcm : Bs.count r 16 ≤ maxLen := by unfold maxLen; omega
  gi_wp2_with (first
    | (refine ldIn _ _ rfl _ rfl (r := r) HT.out HL.out rfl ?_)
    | (refine ldIn _ _ rfl _ rfl (r := r) (HT2.out _ (by first | exact below_alloc _ _ | exact (below_alloc _ _).setCell (Nat.le_refl _) _)) HL.out rfl ?_)
    | (refine ⟨trivial, ?_⟩; gi_at_call 30; refine (callsIn_wide.2 (KC.out _)).mono ?_; rintro e w' ⟨rfl, rfl⟩)
    | (refine ⟨trivial, ?_⟩; gi_at_call 33; refine (callsIn_wide.2 (KA.out _)).mono ?_; rintro e w3 ⟨rfl, rfl⟩)
    | (gi_at_make; refine wpListIn_make_own _ rfl _ (.tmp 6) 22 rfl w.heap.size 3 i0 (.int .i64 0) 1 Tryd.underlying22 hi hz0 hz1 .i64 .i64 _ (Bs.count r 16) rfl rfl rfl (by rw [hz2]; omega) hcm (by simp only [World.size_alloc]; omega) ?_; intro w2 ho2 hg2; have HT2 := show Hid (∀ w4, Below w2.heap.size w2 w4 → RowAt w4 w.heap.size r) from row_made hg2))
  have hn : (Bs.nums r).length ≤ 1024 := by rw [← Bs.count_nums hr.1]; exact hcnt
  have hs2 : w.heap.size + 2 ≤ w2.heap.size := by have := hg2.size; simp only [World.size_alloc] at this; omega
  have hBw : Below w.heap.size w w2 := (below_two w _ _).grown hg2 (by simp only [World.size_alloc]; omega) (fun q hq => by cases hq)
  simp only [World.size_alloc] at ho2
  generalize hv0 : Value.slice (some { block := w.heap.size + 1 + 1, off := 0 }) 0 (Bs.count r 16) = v0 at *
  have bO := Boxed.new w2 22 v0
  have hB0 : Below w.heap.size w ((w2.alloc (.cells #[v0] 22)).alloc (.cells (cellsB r) 25)) := (hBw.alloc (by omega) _).alloc (by simp only [World.size_alloc]; omega) _
  have hA : RowAt ((w2.alloc (.cells #[v0] 22)).alloc (.cells (cellsB r) 25)) (w2.heap.size + 1) r := (heap_two w2 _ _).2
  have hT3 : Tz ((w2.alloc (.cells #[v0] 22)).alloc (.cells (cellsB r) 25)) := tz_block hT hB0
  clear HT HT2 KC KA hg2 hBw
  refine wpIn_rangeFunc_ownG rfl (by omega) (gf := 43) (lb := #[.pointer (some ⟨w2.heap.size + 1, 0, none⟩)]) rfl trivial (enters_of Tryd.func43 (by kernel_rfl) rfl)
    (all_stops (5 - 1) (by omega) (w2.heap.size + 1) w.heap.size hr _ hA hT3 (tz_lt hT)) belowK_t (belowK_b (by simp only [World.size_alloc]; omega)) (Below.refl _ _) (fun _ => rfl)
    (fun pre W => (∃ v, Boxed W w2.heap.size 22 v ∧ W.ownsRow w.heap.size 3 1 v pre.length (intsV pre) ∧ True) ∧ Below w.heap.size w W)
    (fun _ _ _ => False)
    (OwnFrom.and (Own.from (holdsRow_own w.heap.size w2.heap.size 22 3 1 (fun pre : List Nat => pre.length) (fun pre => intsV pre) (fun _ _ => True)) _) (ownFrom_below (Nat.le_refl _) (by simp only [World.size_alloc]; omega)))
    (fun _ _ _ _ _ hs _ _ => hs)
    ⟨⟨_, bO.alloc _, (ho2.alloc _).alloc _, trivial⟩, hB0⟩
    (fun x => { tmps := #[.agg (cellsB r), .pointer (some ⟨w.heap.size, 0, none⟩), .slice none 0 0, .pointer (some ⟨w2.heap.size, 0, none⟩), .int .i64 (x : Int), .agg (cellsB r), .int .i64 ((Bs.count r 16 : Nat) : Int), v0, .agg (cellsB r), .func (.func 43) #[] #[.pointer (some ⟨w2.heap.size + 1, 0, none⟩)], .int .i64 (x : Int), undef, undef, undef, undef, undef], defers := [] }) ?assign ?body ?done ?stop
  case assign =>
    intro l x W K hK
    gi_wp2
    exact hK
  case body =>
    rintro l pre x W ⟨⟨v, hv, hrow, -⟩, hB⟩ hlt
    have hc := hv.cell
    have hm : pre.length + 1 ≤ maxLen := by unfold maxLen; omega
    gi_wp2_with (gi_at_builtin; refine wpListIn_append_own _ rfl _ _ 22 rfl w.heap.size 3 i0 (.int .i64 0) 1 8 Tryd.underlying22 hi hz0 hz1 hz2 rfl (by decide) _ _ _ rfl (hrow.alloc _) ⟨W.heap.size, 0, none⟩ 1 1 [.int .i64 (x : Int)] rfl rfl (cell_one_new _ _ _) (by simp [Value.oneCell']) hm (by omega) (by have := hB.size; simp; omega) ?_; intro v' w1 hown' hgrow _; obtain ⟨g', cap', rfl⟩ := ownsRow_succ hown'; obtain ⟨hv1, hv2, hr2, hk2, hb2⟩ := hv.appended (by decide) hrow hB.size (by omega) hown' hgrow; have hc1 := hv1.cell; have hf1 := hv1.frozen)
    exact ⟨hk2.from _, hb2, ⟨_, hv2, by simpa [intsV] using hr2, trivial⟩, hB.trans hb2⟩
  case done =>
    rintro D ys W hD rfl ⟨⟨v, hv, hrow, -⟩, hB⟩ hK
    have hc := hv.cell
    gi_wp2
    refine ⟨by simp, .inl ⟨_, _, rfl, run_takeDeferred hK, ?_⟩⟩
    exact ⟨_, results_tmp rfl _ _ _, v, rfl, ownsRow_putObj hrow _ hK rfl, hB.trans (belowK_b (w := w) (Nat.le_refl _) W D _ _ (by simp only [World.size_alloc] at hD; omega) hK rfl rfl)⟩
  case stop =>
    rintro D c pre W _ _ h _
    exact h.elim
end Go.Proofs.YthkolkmcnpafiaaDoor
