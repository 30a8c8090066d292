/-
  The law TokenScans, as the program walks it: true for every text of at most 2^40 bytes.
-/
import Derived.Test.YtgcoalcfhflfiaaDoorRScan
import Derived.Test.YtgcoalcfhflfiaaDoorTSame
import Derived.Test.YtgcoalcfhflfiaaDoorTAlive
namespace Go.Proofs.YtgcoalcfhflfiaaDoor
open Go.RowKit Go.Sort

/-- Four numbers. -/
theorem fltV_agg (s : List UInt8) (e : Int) (o : Nat) : ∃ a b c d : Int, fltV s e o = .agg #[.int .i64 a, .int .i64 b, .int .i64 c, .int .i64 d] := by
  unfold fltV
  split
  · exact ⟨0, 0, 0, 0, rfl⟩
  · exact ⟨_, _, _, _, rfl⟩
theorem scanF_len : ∀ (f : Nat) (s : List UInt8) (o : Nat) (a : List (Tk.Tok × Nat)), o ≤ s.length → s.length < o + f → a.length ≤ o → (Tk.scanF f s o a).1.length ≤ s.length + 1
  | 0, s, o, a, ho, hf, ha => absurd hf (by omega)
  | f + 1, s, o, a, ho, hf, ha => by
    have hsk := Tk.skip_le _ (s.drop o) (Nat.le_refl _)
    rw [List.length_drop] at hsk
    rw [Tk.scanF_step]
    by_cases h1 : (Tk.cut (s.drop (o + Tk.skip (s.drop o)))).2.2 ≠ 0
    · rw [if_pos h1]; simp
    · rw [if_neg h1]
      by_cases h2 : (Tk.cut (s.drop (o + Tk.skip (s.drop o)))).1.1 = 0
      · rw [if_pos h2]; simp; omega
      · rw [if_neg h2]
        have hl : s.drop (o + Tk.skip (s.drop o)) ≠ [] := fun e => h2 (by rw [e]; rfl)
        have hg := Tk.cut_good _ hl (Decidable.not_not.1 h1)
        have hle := hg.2.1.le
        rw [List.length_drop] at hle
        have hlt : o + Tk.skip (s.drop o) < s.length := by
          rcases Nat.lt_or_ge (o + Tk.skip (s.drop o)) s.length with h3 | h3
          · exact h3
          · exact absurd (List.drop_eq_nil_of_le h3) hl
        exact scanF_len f s _ _ (by omega) (by omega) (by simp; omega)
theorem scan_len (s : List UInt8) : (Tk.scan s).1.length ≤ s.length + 1 := scanF_len _ s 0 [] (by omega) (by omega) (by simp)
set_option maxRecDepth 100000 in
set_option maxHeartbeats 2000000 in
theorem scans_any (w : World) (s : ByteArray) (hs : s.size ≤ 1099511627776) (hL : Laid w) (hP : Pows w) :
    Calls Tryd.prog 4 #[.string s] w fun e w' => e = .returned (.bool true) ∧ Below w.heap.size w w' := by
  have HL := show Hid (Laid w) from hL
  have HP := show Hid (Pows w) from hP
  have KA := show Hid (∀ w1 : World, Below w.heap.size w w1 → Calls Tryd.prog 13 #[] w1 fun e w' => e = .returned (.bool true) ∧ Below w1.heap.size w1 w') from fun w1 hb => alive_any w1 (HL.out.later hb) (HP.out.later hb)
  have K1 := show Hid (Calls Tryd.prog 14 #[.string s] w fun e w' => IsScan s.data.toList (Tk.scan s.data.toList) w' w.heap.size e ∧ Below w.heap.size w w') from scan_any w s hs hL
  have K2 := show Hid (∀ w : World, Calls Tryd.prog 15 #[.string s] w fun e w' => IsScan s.data.toList (Tk.scan s.data.toList) w' w.heap.size e ∧ Below w.heap.size w w') from fun w => rscan_any w s hs
  have HLn := show Hid ((Tk.scan s.data.toList).1.length ≤ s.size + 1) from scan_len s.data.toList
  generalize Tk.scan s.data.toList = res at *
  obtain ⟨ra, re, ro⟩ := res
  obtain ⟨fa, fb, fc, fd, hf⟩ := fltV_agg s.data.toList re ro
  have HFV := show Hid (fltV s.data.toList re ro = .agg #[.int .i64 fa, .int .i64 fb, .int .i64 fc, .int .i64 fd]) from hf
  clear hf hL hP
  go_enter Tryd.func4, Tryd.ntmps4
  go_wp2_with fail
  refine K1.out.mono ?_
  rintro e w1 ⟨⟨v1, rfl, hown1⟩, hb1⟩
  have HT1 := show Hid (IsT w1 v1 (ra.map (rtOf s.data.toList))) from (own_isT (by rw [← toksC_eq]; exact hown1)).1
  have HB1 := show Hid (Below w.heap.size w w1) from hb1
  clear hown1 hb1 K1
  rw [HFV.out]
  go_wp2_with fail
  refine (K2.out _).mono ?_
  rintro e w2 ⟨⟨v2, rfl, hown2⟩, hb2⟩
  have hb12 : Below w1.heap.size w1 w2 := (below_alloc _ _).trans (hb2.mono (by simp))
  have HT2 := show Hid (IsT w2 v2 (ra.map (rtOf s.data.toList))) from (own_isT (by rw [← toksC_eq]; exact hown2)).1
  have HT1' := show Hid (IsT w2 v1 (ra.map (rtOf s.data.toList))) from HT1.out.later hb12
  have HF2 := show Hid (F4 w2 w1.heap.size fa fb fc fd) from (hb2.block _ (by simp)).trans (heap_alloc_new _ _)
  have HB2 := show Hid (Below w.heap.size w w2) from HB1.out.trans (hb12.mono HB1.out.size)
  have hlt := lt_of_block HF2.out
  have f0 := HF2.out.c0; have f1 := HF2.out.c1; have f2 := HF2.out.c2; have f3 := HF2.out.c3
  clear hown2 hb2 hb12 K2 HT1 HB1
  rw [HFV.out]
  have hbA : Below w2.heap.size w2 (w2.alloc (Obj.cells #[.int .i64 fa, .int .i64 fb, .int .i64 fc, .int .i64 fd] 31)) := below_alloc _ _
  have KS := show Hid (Calls Tryd.prog 16 #[v1, v2] (w2.alloc (Obj.cells #[.int .i64 fa, .int .i64 fb, .int .i64 fc, .int .i64 fd] 31)) fun e w' => e = .returned (.bool true) ∧ ∃ n, w' = (w2.alloc (Obj.cells #[.int .i64 fa, .int .i64 fb, .int .i64 fc, .int .i64 fd] 31)).drewN n) from same_eq _ v1 v2 _ (HT1'.out.later hbA) (HT2.out.later hbA) (by have := HLn.out; simp only [List.length_map] at this ⊢; omega)
  have HB3 := show Hid (Below w.heap.size w (w2.alloc (Obj.cells #[.int .i64 fa, .int .i64 fb, .int .i64 fc, .int .i64 fd] 31))) from HB2.out.trans (hbA.mono HB2.out.size)
  clear hbA
  go_wp2_with fail
  refine KS.out.mono ?_
  rintro e w4 ⟨rfl, n4, rfl⟩
  clear KS
  have HB4 := show Hid (∀ n, Below w.heap.size w ((w2.alloc (Obj.cells #[.int .i64 fa, .int .i64 fb, .int .i64 fc, .int .i64 fd] 31)).drewN n)) from fun n => ⟨HB3.out.os, HB3.out.tape, HB3.out.output, HB3.out.size, HB3.out.block⟩
  go_wp2_with fail
  refine (KA.out _ (HB4.out _)).mono ?_
  rintro e w5 ⟨rfl, hb5⟩
  have HB5 := show Hid (Below w.heap.size w w5) from (HB4.out n4).trans (hb5.mono (HB4.out n4).size)
  clear hb5 KA
  go_wp2_with fail
  go_ret
  exact ⟨rfl, HB5.out⟩
end Go.Proofs.YtgcoalcfhflfiaaDoor
