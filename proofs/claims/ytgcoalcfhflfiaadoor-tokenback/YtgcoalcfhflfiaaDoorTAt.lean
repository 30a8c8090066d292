/-
  The call At: the spot of a byte, for every text and every place. No condition beyond the text's size.
-/
import Derived.Test.YtgcoalcfhflfiaaDoorTKit
import Derived.Lib.OthersKept
namespace Go.Proofs.YtgcoalcfhflfiaaDoor
open Go.RowKit

/-- A variable of three cells at block g. -/
def S3 (w : World) (g : Nat) (a b c : Int) : Prop := w.heap[g]? = some (.cells #[.int .i64 a, .int .i64 b, .int .i64 c] 23 (0, 0))
theorem S3.c0 {w : World} {g : Nat} {a b c : Int} (h : S3 w g a b c) : w.cell? ⟨g, 0, none⟩ = some (.int .i64 a) := by rw [cell_of_row w g 0 _ _ _ h]; rfl
theorem S3.c1 {w : World} {g : Nat} {a b c : Int} (h : S3 w g a b c) : w.cell? ⟨g, 1, none⟩ = some (.int .i64 b) := by rw [cell_of_row w g 1 _ _ _ h]; rfl
theorem S3.c2 {w : World} {g : Nat} {a b c : Int} (h : S3 w g a b c) : w.cell? ⟨g, 2, none⟩ = some (.int .i64 c) := by rw [cell_of_row w g 2 _ _ _ h]; rfl
theorem S3.fr {w : World} {g : Nat} {a b c : Int} (h : S3 w g a b c) (j : Nat) : w.frozen? ⟨g, j, none⟩ = false := frozen_of_row w g j _ _ h
theorem S3.s0 {w : World} {g : Nat} {a b c : Int} (h : S3 w g a b c) (x : Int) : S3 (w.setCell ⟨g, 0, none⟩ (.int .i64 x)) g x b c := heap_setCell_same w g 0 _ _ _ h
theorem S3.s1 {w : World} {g : Nat} {a b c : Int} (h : S3 w g a b c) (x : Int) : S3 (w.setCell ⟨g, 1, none⟩ (.int .i64 x)) g a x c := heap_setCell_same w g 1 _ _ _ h
theorem S3.s2 {w : World} {g : Nat} {a b c : Int} (h : S3 w g a b c) (x : Int) : S3 (w.setCell ⟨g, 2, none⟩ (.int .i64 x)) g a b x := heap_setCell_same w g 2 _ _ _ h
theorem S3.s3 {w : World} {g : Nat} {a b c : Int} (h : S3 w g a b c) (x y z : Int) : S3 (((w.setCell ⟨g, 0, none⟩ (.int .i64 x)).setCell ⟨g, 1, none⟩ (.int .i64 y)).setCell ⟨g, 2, none⟩ (.int .i64 z)) g x y z := ((h.s0 x).s1 y).s2 z
theorem S3.other {w : World} {g g' k : Nat} {a b c : Int} (h : S3 w g a b c) (hne : g ≠ g') (x : Value) : S3 (w.setCell ⟨g', k, none⟩ x) g a b c := (Below.heap_setCell _ _ _ _ hne).trans h
theorem S3.keep {w w' : World} {g B : Nat} {a b c : Int} (h : S3 w g a b c) (hb : Below B w w') (hg : g < B) : S3 w' g a b c := (hb.block g hg).trans h
theorem below_set3 {B : Nat} {a w : World} (h : Below B a w) {g : Nat} (hg : B ≤ g) (x y z : Value) : Below B a (((w.setCell ⟨g, 0, none⟩ x).setCell ⟨g, 1, none⟩ y).setCell ⟨g, 2, none⟩ z) := ((h.setCell hg x).setCell hg y).setCell hg z
theorem iterPos_of {w : World} {k : Nat} {s : ByteArray} {p : Nat} (h : w.heap[k]? = some (.stringIter s p)) : w.iterPos k = p := by simp [World.iterPos, h]
theorem iter_set3 {w : World} {k g : Nat} {s : ByteArray} {p : Nat} (h : w.heap[k]? = some (.stringIter s p)) (hne : k ≠ g) (x y z : Value) : (((w.setCell ⟨g, 0, none⟩ x).setCell ⟨g, 1, none⟩ y).setCell ⟨g, 2, none⟩ z).heap[k]? = some (.stringIter s p) :=
  (Below.heap_setCell _ _ _ _ hne).trans ((Below.heap_setCell _ _ _ _ hne).trans ((Below.heap_setCell _ _ _ _ hne).trans h))
def atOff (s : ByteArray) (off : Int) : Nat := if off < 0 then 0 else if (s.size : Int) < off then s.size else off.toNat
set_option maxHeartbeats 1000000 in
theorem at_any (w : World) (s : ByteArray) (off : Int) (hs : s.size ≤ 140737488355328) :
    Calls Tryd.prog 9 #[.string s, .int .i64 off] w fun e w' => e = .returned (.agg #[.int .i64 (Tk.spot s.data.toList (atOff s off)).1, .int .i64 (Tk.spot s.data.toList (atOff s off)).2, .int .i64 (atOff s off : Int)]) ∧ Below w.heap.size w w' := by
  obtain ⟨n, hn⟩ : ∃ n, n = atOff s off := ⟨_, rfl⟩
  obtain ⟨m, hm⟩ : ∃ m, (if off < 0 then 0 else off) = m := ⟨_, rfl⟩
  have hmm : (if (s.size : Int) < m then (s.size : Int) else m) = (n : Int) := by
    rw [hn, ← hm]; unfold atOff
    by_cases h1 : off < 0
    · rw [if_pos h1, if_pos h1, if_neg (by omega)]; rfl
    · rw [if_neg h1, if_neg h1]
      split
      · rfl
      · omega
  rw [← hn]
  have hns : n ≤ s.size := by
    rw [hn]; unfold atOff
    split
    · omega
    · split <;> omega
  clear hn
  have HA : Hid (Tk.go (s.data.toList.drop 0) (n - 0) (1, 1) = Tk.spot s.data.toList n) := by rw [List.drop_zero, Nat.sub_zero]; rfl
  generalize Tk.spot s.data.toList n = ans at *
  have HS := show Hid (S3 (w.alloc (Obj.cells #[.int .i64 0, .int .i64 0, .int .i64 0] 23)) w.heap.size 0 0 0) from heap_alloc_new _ _
  have C0 := show Hid (Calls Tryd.prog 23 #[] (w.alloc (Obj.cells #[.int .i64 0, .int .i64 0, .int .i64 0] 23)) fun e w' => e = .returned (.agg #[.int .i64 1, .int .i64 1, .int .i64 0]) ∧ Below (w.alloc (Obj.cells #[.int .i64 0, .int .i64 0, .int .i64 0] 23)).heap.size (w.alloc (Obj.cells #[.int .i64 0, .int .i64 0, .int .i64 0] 23)) w') from start_any _
  go_enter Tryd.func9, Tryd.ntmps9
  go_wp2_with fail
  refine C0.out.mono ?_
  rintro e w1 ⟨rfl, hb1⟩
  have HB1 := show Hid (Below w.heap.size w w1) from (below_alloc _ _).trans (hb1.mono (by simp))
  have HS1 := show Hid (S3 w1 w.heap.size 0 0 0) from (hb1.block _ (by simp)).trans HS.out
  clear C0 HS hb1 hm hmm
  go_wp2_with fail
  go_loopw [6, 7] (fun _ _ wr => ∃ (pos : Nat) (l c : Int), pos ≤ s.size ∧ Hid (Tk.go (s.data.toList.drop pos) (n - pos) (l, c) = ans) ∧ Hid (S3 wr w.heap.size 0 0 0) ∧ Hid (S3 wr w1.heap.size l c 0) ∧ Hid (wr.heap[w1.heap.size + 1]? = some (.stringIter s pos)) ∧ Hid (Below w.heap.size w wr)) (fun _ _ wr => s.size - wr.iterPos (w1.heap.size + 1))
  case atStart =>
    have hlt1 : w.heap.size < w1.heap.size := lt_of_block HS1.out
    refine ⟨0, 1, 1, by omega, HA, ?_, ?_, ?_, ?_⟩
    · exact (Below.heap_alloc _ _ _ (by simp; omega)).trans ((Below.heap_alloc _ _ _ hlt1).trans HS1.out)
    · exact heap_alloc2_old _ _ _
    · exact heap_alloc2_new _ _ _
    · exact (HB1.out.alloc (by omega) _).alloc (by simp; omega) _
  case round =>
    obtain ⟨pos, l, c, hpos, HG, HR, HAt, HI, HB⟩ := hrel
    have hlt1 : w.heap.size < w1.heap.size := lt_of_block HS1.out
    have hlt2 : w1.heap.size + 1 < wr.heap.size := lt_of_block HI.out
    have HIP := show Hid (wr.iterPos (w1.heap.size + 1) = pos) from iterPos_of HI.out
    have hne1 : w1.heap.size ≠ w.heap.size := by omega
    by_cases hp : pos < s.size
    · have hnx : ∀ ty, (Instr.next (.pointer (some ⟨w1.heap.size + 1, 0, none⟩)) true ty).run Tryd.prog wr = _ := fun ty => Lib.run_next_any_at wr _ s pos ty HI.out hp
      have hde := Tk.decode_eq s pos (by omega)
      rw [hde] at hnx
      have hl : s.data.toList.drop pos ≠ [] := by
        intro h
        have := congrArg List.length h
        rw [List.length_drop, List.length_nil] at this
        have h2 : s.data.toList.length = s.size := rfl
        omega
      have hdp := Tk.dec_pos (s.data.toList.drop pos)
      have hdl := Tk.dec_le (s.data.toList.drop pos) hl
      have hg := HG.out
      generalize hw2 : wr.iterAt (w1.heap.size + 1) s (pos + (Tk.dec (s.data.toList.drop pos)).2) = w2 at hnx
      have HR2 := show Hid (S3 w2 w.heap.size 0 0 0) from by rw [← hw2]; exact (Lib.iterAt_other _ _ _ _ _ (by omega)).trans HR.out
      have HAt2 := show Hid (S3 w2 w1.heap.size l c 0) from by rw [← hw2]; exact (Lib.iterAt_other _ _ _ _ _ (by omega)).trans HAt.out
      have HI2 := show Hid (w2.heap[w1.heap.size + 1]? = some (.stringIter s (pos + (Tk.dec (s.data.toList.drop pos)).2))) from by rw [← hw2]; exact Lib.iterAt_heap _ _ _ _ _ HI.out
      have HB2 := show Hid (Below w.heap.size w w2) from by rw [← hw2]; exact Lib.below_iterAt HB.out (by omega) _ _
      clear hw2 HI HAt HR HB hde
      by_cases hn : n ≤ pos
      · rw [show n - pos = 0 by omega, Tk.go_done _ _ _ (Or.inl rfl)] at hg
        subst hg
        have hd0 := HAt2.out.c0; have hd1 := HAt2.out.c1; have hd2 := HAt2.out.c2; have hdf := HAt2.out.fr
        have hr0 := HR2.out.c0; have hr1 := HR2.out.c1; have hr2 := HR2.out.c2; have hrf := HR2.out.fr
        clear HA HG HI2 hdp hdl hl
        generalize Tk.dec (s.data.toList.drop pos) = dd at *
        go_wp2_with fail
        have hf := (HR2.out.other (g' := w1.heap.size) (k := 2) (by omega) (.int .i64 (n : Int))).s3 l c n
        refine bodyPost_ret (results_cell_row rfl _ _ w.heap.size _ _ _ _ rfl hf Tryd.underlying23 rfl (by kernel_rfl)) rfl ?_
        exact ⟨rfl, below_set3 (HB2.out.setCell (by show w.heap.size ≤ w1.heap.size; omega) _) (Nat.le_refl _) _ _ _⟩
      · have hn' : pos < n := by omega
        rw [Tk.go_step _ _ _ (by omega) hl, List.drop_drop, Nat.sub_sub] at hg
        have HG2 := show Hid _ from hg
        clear hg HG HA hn
        generalize Tk.dec (s.data.toList.drop pos) = dd at *
        have hd0 := HAt2.out.c0; have hd1 := HAt2.out.c1; have hd2 := HAt2.out.c2
        have C1 := show Hid (Calls Tryd.prog 24 #[.agg #[.int .i64 l, .int .i64 c, .int .i64 0], .int .i32 (dd.1 : Int)] w2 fun e w' => e = .returned (.agg #[.int .i64 (Tk.beh (l, c) dd.1).1, .int .i64 (Tk.beh (l, c) dd.1).2, .int .i64 0]) ∧ Below w2.heap.size w2 w') from behind_any w2 l c 0 dd.1
        have hsz : w1.heap.size + 1 < w2.heap.size := lt_of_block HI2.out
        generalize hbe : Tk.beh (l, c) dd.1 = be at *
        clear hbe
        go_wp2_with fail
        refine C1.out.mono ?_
        rintro e w3 ⟨rfl, hb3⟩
        have HR3 := show Hid (S3 w3 w.heap.size 0 0 0) from HR2.out.keep hb3 (by omega)
        have HAt3 := show Hid (S3 w3 w1.heap.size l c 0) from HAt2.out.keep hb3 (by omega)
        have HI3 := show Hid (w3.heap[w1.heap.size + 1]? = _) from (hb3.block _ (by omega)).trans HI2.out
        have HB3 := show Hid (Below w.heap.size w w3) from HB2.out.trans (hb3.mono (by omega))
        have he0 := HAt3.out.c0; have he1 := HAt3.out.c1; have he2 := HAt3.out.c2; have hef := HAt3.out.fr
        clear hb3 C1 hd0 hd1 hd2 HR2 HAt2 HI2 HB2
        go_wp2_with fail
        go_roundw
        case rel =>
          have h2 : s.data.toList.length = s.size := rfl
          rw [List.length_drop] at hdl
          refine ⟨pos + dd.2, be.1, be.2, by omega, HG2, ?_, ?_, ?_, ?_⟩
          · exact ((HR3.out.other (by omega) _).other (by omega) _).other (by omega) _
          · exact HAt3.out.s3 _ _ _
          · exact iter_set3 HI3.out (by omega) _ _ _
          · exact below_set3 HB3.out (by omega) _ _ _
        case measure =>
          rw [iterPos_of (iter_set3 HI3.out (by omega) _ _ _), HIP.out]
          omega
    · have hnx : ∀ ty, (Instr.next (.pointer (some ⟨w1.heap.size + 1, 0, none⟩)) true ty).run Tryd.prog wr = _ := fun ty => Lib.run_next_end_at wr _ s pos ty HI.out hp
      have hg := HG.out
      rw [show n - pos = 0 by omega, Tk.go_done _ _ _ (Or.inl rfl)] at hg
      subst hg
      have hd0 := HAt.out.c0; have hd1 := HAt.out.c1; have hd2 := HAt.out.c2; have hdf := HAt.out.fr
      have hr0 := HR.out.c0; have hr1 := HR.out.c1; have hr2 := HR.out.c2; have hrf := HR.out.fr
      clear HA HG HI
      go_wp2_with fail
      have hf := (HR.out.other (g' := w1.heap.size) (k := 2) (by omega) (.int .i64 (n : Int))).s3 l c n
      refine bodyPost_ret (results_cell_row rfl _ _ w.heap.size _ _ _ _ rfl hf Tryd.underlying23 rfl (by kernel_rfl)) rfl ?_
      exact ⟨rfl, below_set3 (HB.out.setCell (by show w.heap.size ≤ w1.heap.size; omega) _) (Nat.le_refl _) _ _ _⟩
end Go.Proofs.YtgcoalcfhflfiaaDoor
