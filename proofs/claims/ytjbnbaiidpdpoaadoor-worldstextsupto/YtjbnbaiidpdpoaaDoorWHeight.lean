/-
  height: of any order that a function value tells. No condition.
-/
import Derived.Test.YtjbnbaiidpdpoaaDoorWOver
namespace Go.Proofs.YtjbnbaiidpdpoaaDoor.Wm
open Go.RowKit Go.Maps
open Wd (Md Mid Rc Ed Sub upd vl allW names)
set_option linter.unusedSimpArgs false

set_option maxRecDepth 100000 in
set_option maxHeartbeats 4000000 in
theorem height_any (w : World) {n L : Nat} {fv : Value} {M : Nat → Nat → Bool} {h : Nat → Nat} (hO : Ord w L n fv M) (hL : L ≤ w.heap.size) (hg : Hg M n h) (hn : n ≤ 512) :
    Calls Tryd.prog 48 #[.int .i64 (n : Int), fv] w fun e w' => e = .returned (.int .i64 (mxL h (List.range n) : Int)) ∧ Below w.heap.size w w' := by
  have HC := show Hid (∀ b5 b2 b3 b6 G, HC w w.heap.size n fv M h b5 b2 b3 b6 G 512) from fun b5 b2 b3 b6 G => height1_all (hO.later (Below.refl _ _) hL) hg hn 512
  have HLE := show Hid (∀ x, x < n → h x ≤ 512) from hg.le
  have HMS := show Hid (∀ W : World, (Instr.makeSlice 42 (.int .i64 (n : Int)) (.int .i64 (n : Int))).run Tryd.prog W = .ok (.slice (some ⟨W.heap.size, 0, none⟩) n n) (W.alloc (.cells (madeCells #[.int .i64 0] n) 3))) from fun W =>
    run_make_row' (P := Tryd.prog) 42 3 (.int .i64 0) 8 Tryd.underlying42 infoI rfl .i64 .i64 n (by omega) (by omega) W
  have HMX := show Hid (∀ j, mxL h ((List.range n).take j) ≤ 512) from fun j => fold_le h 512 _ 0 (by omega) fun v hv => hg.le v (List.mem_range.1 (List.mem_of_mem_take hv))
  obtain ⟨f, cs, rfl, -, -⟩ := hO
  obtain ⟨l, hl⟩ : ∃ l, l = List.range n := ⟨_, rfl⟩
  have HL := show Hid (l = List.range n) from hl
  rw [← hl] at HMX ⊢
  clear hg hl
  go_enter Tryd.func48, Tryd.ntmps48
  go_wp2_with (refine wpList_box1 3 _ rfl _ rfl rfl rfl ?_)
  intro w1 b2 hN1
  have H1 := show Hid (Below w.heap.size w w1 ∧ Cl w1 b2 #[.int .i64 (n : Int)] 3) from ⟨hN1.bel, hN1.blk⟩
  clear hN1
  go_wp2_with (refine wpList_box1 66 _ rfl _ rfl rfl rfl ?_)
  intro w2 b3 hN2
  have H2 := show Hid (Below w.heap.size w w2 ∧ Cl w2 b2 #[.int .i64 (n : Int)] 3 ∧ Cl w2 b3 #[.func (.func f) #[] cs.toArray] 66) from ⟨H1.out.1.trans (hN2.bel.mono H1.out.1.size), H1.out.2.later hN2.bel, hN2.blk⟩
  have c2 : w2.cell? ⟨b2, 0, none⟩ = some (.int .i64 (n : Int)) := H2.out.2.1.cell 0
  have hms := HMS.out w2
  have HX := show Hid (Hs w (((w2.alloc (.cells (madeCells #[.int .i64 0] n) 3)).alloc (.cells #[.slice (some ⟨w2.heap.size, 0, none⟩) n n] 42)).alloc (.cells #[.func (.func 74) #[] #[.pointer (some ⟨w2.heap.size + 1, 0, none⟩), .pointer (some ⟨b2, 0, none⟩), .pointer (some ⟨b3, 0, none⟩), .pointer (some ⟨w2.heap.size + 1 + 1, 0, none⟩)]] 117)) w.heap.size n (.func (.func f) #[] cs.toArray) M h (w2.heap.size + 1) b2 b3 (w2.heap.size + 1 + 1) w2.heap.size (fun _ => 0)) from by
    have a1 := below_alloc w2 (.cells (madeCells #[.int .i64 0] n) 3)
    have a2 := below_alloc (w2.alloc (.cells (madeCells #[.int .i64 0] n) 3)) (.cells #[.slice (some ⟨w2.heap.size, 0, none⟩) n n] 42)
    have a3 := below_alloc ((w2.alloc (.cells (madeCells #[.int .i64 0] n) 3)).alloc (.cells #[.slice (some ⟨w2.heap.size, 0, none⟩) n n] 42)) (.cells #[.func (.func 74) #[] #[.pointer (some ⟨w2.heap.size + 1, 0, none⟩), .pointer (some ⟨b2, 0, none⟩), .pointer (some ⟨b3, 0, none⟩), .pointer (some ⟨w2.heap.size + 1 + 1, 0, none⟩)]] 117)
    have s1 : (w2.alloc (.cells (madeCells #[.int .i64 0] n) 3)).heap.size = w2.heap.size + 1 := by simp
    have s2 : ((w2.alloc (.cells (madeCells #[.int .i64 0] n) 3)).alloc (.cells #[.slice (some ⟨w2.heap.size, 0, none⟩) n n] 42)).heap.size = w2.heap.size + 1 + 1 := by simp
    have hb := a1.trans ((a2.trans (a3.mono a2.size)).mono a1.size)
    have l2 := H2.out.2.1.lt
    have l3 := H2.out.2.2.lt
    have hsz := H2.out.1.size
    refine ⟨?_, H2.out.2.1.later hb, H2.out.2.2.later hb, ?_, ?_, fun v _ => Or.inl rfl, H2.out.1.trans (hb.mono hsz), hsz, by omega, by omega, by omega, by omega, Nat.le_trans hsz hb.size⟩
    · have h9 := heap_alloc_last (w2.alloc (.cells (madeCells #[.int .i64 0] n) 3)) (.cells #[.slice (some ⟨w2.heap.size, 0, none⟩) n n] 42)
      rw [s1] at h9
      exact (a3.block _ (by omega)).trans h9
    · have h9 := heap_alloc_last ((w2.alloc (.cells (madeCells #[.int .i64 0] n) 3)).alloc (.cells #[.slice (some ⟨w2.heap.size, 0, none⟩) n n] 42)) (.cells #[.func (.func 74) #[] #[.pointer (some ⟨w2.heap.size + 1, 0, none⟩), .pointer (some ⟨b2, 0, none⟩), .pointer (some ⟨b3, 0, none⟩), .pointer (some ⟨w2.heap.size + 1 + 1, 0, none⟩)]] 117)
      rw [s2] at h9
      exact h9
    · exact ((rw_made w2 n).keep (a2.block _ (by omega))).keep (a3.block _ (by omega))
  have cX : (((w2.alloc (.cells (madeCells #[.int .i64 0] n) 3)).alloc (.cells #[.slice (some ⟨w2.heap.size, 0, none⟩) n n] 42)).alloc (.cells #[.func (.func 74) #[] #[.pointer (some ⟨w2.heap.size + 1, 0, none⟩), .pointer (some ⟨b2, 0, none⟩), .pointer (some ⟨b3, 0, none⟩), .pointer (some ⟨w2.heap.size + 1 + 1, 0, none⟩)]] 117)).cell? ⟨b2, 0, none⟩ = some (.int .i64 (n : Int)) := HX.out.k2.cell 0
  clear hN2 H1 H2
  go_wp2_with (simp only [hms])
  clear hms HMS
  have HST := show Hid (∃ kn, Hs w (((w2.alloc (.cells (madeCells #[.int .i64 0] n) 3)).alloc (.cells #[.slice (some ⟨w2.heap.size, 0, none⟩) n n] 42)).alloc (.cells #[.func (.func 74) #[] #[.pointer (some ⟨w2.heap.size + 1, 0, none⟩), .pointer (some ⟨b2, 0, none⟩), .pointer (some ⟨b3, 0, none⟩), .pointer (some ⟨w2.heap.size + 1 + 1, 0, none⟩)]] 117)) w.heap.size n (.func (.func f) #[] cs.toArray) M h (w2.heap.size + 1) b2 b3 (w2.heap.size + 1 + 1) w2.heap.size kn) from ⟨_, HX.out⟩
  clear HX cX c2
  generalize (((w2.alloc (.cells (madeCells #[.int .i64 0] n) 3)).alloc (.cells #[.slice (some ⟨w2.heap.size, 0, none⟩) n n] 42)).alloc (.cells #[.func (.func 74) #[] #[.pointer (some ⟨w2.heap.size + 1, 0, none⟩), .pointer (some ⟨b2, 0, none⟩), .pointer (some ⟨b3, 0, none⟩), .pointer (some ⟨w2.heap.size + 1 + 1, 0, none⟩)]] 117)) = W3 at *
  generalize w2.heap.size = G at *
  go_loopw [7, 8, 13] (fun t _ i wr => ∃ k : Nat, k ≤ n ∧ i = .int .i64 (k : Int) ∧ t = .int .i64 (mxL h (l.take k) : Int) ∧ Hid (∃ kn, Hs w wr w.heap.size n (.func (.func f) #[] cs.toArray) M h (G + 1) b2 b3 (G + 1 + 1) G kn)) (fun _ _ i _ => n - (intOf i).toNat)
  case atStart => exact ⟨0, Nat.zero_le _, rfl, rfl, HST.out⟩
  case round =>
    obtain ⟨k, hk, rfl, rfl, H3⟩ := hrel
    clear HST
    by_cases hlt : k < n
    · obtain ⟨kn3, hs3⟩ := H3.out
      have K3 := show Hid _ from HC.out (G + 1) b2 b3 (G + 1 + 1) G wr kn3 k hs3 hlt (HLE.out k hlt)
      have c6 : wr.cell? ⟨G + 1 + 1, 0, none⟩ = some (.func (.func 74) #[] ([.pointer (some ⟨G + 1, 0, none⟩), .pointer (some ⟨b2, 0, none⟩), .pointer (some ⟨b3, 0, none⟩), .pointer (some ⟨G + 1 + 1, 0, none⟩)] : List Value).toArray) := hs3.k6.cell 0
      have HLT := show Hid (mxL h (l.take (k + 1)) = max (mxL h (l.take k)) (h k)) from by
        show mxL h (l.take (k + 1)) = max (mxL h (l.take k)) (h k)
        have hkl : k < l.length := by rw [HL.out]; simpa using hlt
        rw [List.take_succ_eq_append_getElem hkl, mxL_snoc]
        congr 2
        simp only [HL.out, List.getElem_range]
      have hm1 := HMX.out k
      have hm2 := HLE.out k hlt
      have hki : (k : Int) < (n : Int) := by omega
      clear hs3
      go_wp2_with (refine wpList_callV rfl 74 _ [.tmp 18] _ rfl [.int .i64 (k : Int)] _ rfl rfl cf_h1 ?_)
      refine Calls.mono K3.out ?_
      rintro e w4 ⟨rfl, hk4, hs4⟩
      refine ⟨_, rfl, ?_⟩
      have H4 := show Hid (∃ kn, Hs w w4 w.heap.size n (.func (.func f) #[] cs.toArray) M h (G + 1) b2 b3 (G + 1 + 1) G kn) from hs4
      clear hk4 hs4 K3 H3 c6
      go_wp2_with fail
      go_roundw
      case rel => exact ⟨k + 1, by omega, val_int (by omega), by rw [HLT.out]; exact val_int (by split <;> omega), H4⟩
      case measure => (simp only [intOf]; omega)
    · obtain rfl : k = n := by omega
      obtain ⟨kn3, hs3⟩ := H3.out
      have HB := show Hid (Below w.heap.size w wr) from hs3.bel
      have HT := show Hid (l.take k = l) from List.take_of_length_le (by rw [HL.out]; simp)
      clear hs3
      go_wp2_with fail
      go_ret
      rw [HT.out]
      exact ⟨rfl, HB.out⟩
end Go.Proofs.YtjbnbaiidpdpoaaDoor.Wm
