/-
  The law SequentForms, as the program walks it: true for every row of formulas and every sequent that a machine can hold, whichever of the two formulas is asked for first. Where the tables stand as the program's text lays them.
-/
import Derived.Test.YtkmmlimekachbaaGreatDoorFRM
namespace Go.Proofs.YtkmmlimekachbaaGreatDoor
open Go.RowKit Go.Maps
open Fm (Nd)
open Bt.Bs (Ok)

set_option maxRecDepth 100000 in
set_option maxHeartbeats 4000000 in
theorem sequentForms_any (w : World) (rv : Value) (rs : List Nd) (hR : IsR w rv rs) (hg : ∀ n ∈ rs, Fm.good n) (hl : rs.length * 40 ≤ 140737488351232) (hv : rv = .slice none 0 0 ∨ ∃ a n c, rv = .slice (some a) n c)
    (r : List Nat) (hr : Ok r) (gl : Int) (hgl : Fm.i64 gl) (first : Bool) (hL : Tw.Laid w) (hZ : Bt.Tz w) :
    Calls Tryz.prog 6 #[rv, .agg (cellsQ r gl), .bool first] w fun e w' => e = .returned (.bool true) ∧ Below w.heap.size w w' := by
  have hr16 := hr.1
  have KT := show Hid (∀ w', Below w.heap.size w w' → Calls Tryz.prog 9 #[rv] w' fun e w'' => ∃ B M v C u, e = .returned (.tuple #[.pointer (some ⟨B, 0, none⟩), .pointer (some ⟨C, 0, none⟩)]) ∧ Pair w' w'' B M v C u (tabOf rs) (tabOf rs)) from fun w' hb => tables_any w' rv rs (hR.later hb) hg hl hv
  have KH := show Hid (∀ w' : World, Below w.heap.size w w' → Calls Tryz.prog 19 #[] w' fun e w'' => e = .returned (.bool true) ∧ Below w'.heap.size w' w'') from fun w' hb => qheads_any w' (hL.later hb) (Bt.tz_block hZ hb)
  have KM := show Hid (∀ (w : World) (x : Int), Calls Tryz.prog 14 #[.int .i64 x] w fun e w' => e = .returned (.int .i64 x) ∧ w' = w) from qnum_any
  have KW := show Hid (∀ (W : World) B M v C u (t : List Nd), LF w W B M v C u t r gl → Calls Tryz.prog 24 #[.pointer (some ⟨B, 0, none⟩), .agg (cellsQ r gl)] W fun e w' => e = .returned (.tuple #[.int .i64 (wholeQ t r gl).1.1, .int .i64 (wholeQ t r gl).1.2]) ∧ ∃ v', LG w w' B M v' C u (wholeQ t r gl).2 t r gl) from fun W B M v C u t h => (qwhole_any W h.pr.tb (Bt.tz_block hZ h.pr.bel) (h.notG (Bt.tz_lt hZ)) hr gl).mono fun e w' hh => ⟨hh.1, h.stepT hh.2⟩
  have KC := show Hid (∀ (W : World) B M v C u (t : List Nd), LF w W B M v C u t r gl → Calls Tryz.prog 26 #[.pointer (some ⟨B, 0, none⟩), .agg (cellsQ r gl)] W fun e w' => e = .returned (.tuple #[.int .i64 (curryQ t r gl).1.1, .int .i64 (curryQ t r gl).1.2]) ∧ ∃ v', LG w w' B M v' C u (curryQ t r gl).2 t r gl) from fun W B M v C u t h => (qcurry_any W h.pr.tb (Bt.tz_block hZ h.pr.bel) hr gl).mono fun e w' hh => ⟨hh.1, h.stepT hh.2⟩
  have KRW := show Hid (∀ (W : World) B M v C u (t : List Nd), LG w W B M v C u (wholeQ t r gl).2 t r gl → Calls Tryz.prog 25 #[.pointer (some ⟨C, 0, none⟩), .agg (cellsQ r gl)] W fun e w' => e = .returned (.tuple #[.int .i64 (wholeQ t r gl).1.1, .int .i64 (wholeQ t r gl).1.2]) ∧ ∃ u', LF w w' B M v C u' (wholeQ t r gl).2 r gl) from fun W B M v C u t h => (rqwhole_any W h.pr.tr hr gl hgl).mono fun e w' hh => ⟨hh.1, h.stepR hh.2⟩
  have KRC := show Hid (∀ (W : World) B M v C u (t : List Nd), LG w W B M v C u (curryQ t r gl).2 t r gl → Calls Tryz.prog 27 #[.pointer (some ⟨C, 0, none⟩), .agg (cellsQ r gl)] W fun e w' => e = .returned (.tuple #[.int .i64 (curryQ t r gl).1.1, .int .i64 (curryQ t r gl).1.2]) ∧ ∃ u', LF w w' B M v C u' (curryQ t r gl).2 r gl) from fun W B M v C u t h => (rqcurry_any W h.pr.tr hr gl hgl).mono fun e w' hh => ⟨hh.1, h.stepR hh.2⟩
  have KS := show Hid (∀ (W : World) B M v C u (t : List Nd), LF w W B M v C u t r gl → Calls Tryz.prog 18 #[.pointer (some ⟨B, 0, none⟩), .pointer (some ⟨C, 0, none⟩)] W fun e w' => e = .returned (.bool true) ∧ LF w w' B M v C u t r gl) from fun W B M v C u t h => (qsame_any w W h.pr).mono fun e w' hh => ⟨hh.1, h.later hh.2⟩
  generalize tabOf rs = t at *
  have hsl : ∃ p n cc, rv = .slice p n cc := by
    rcases hv with rfl | ⟨a, n, cc, rfl⟩
    · exact ⟨_, _, _, rfl⟩
    · exact ⟨_, _, _, rfl⟩
  obtain ⟨p, n, cc, rfl⟩ := hsl
  have HC := show Hid (SeqAt (w.alloc (.cells (cellsQ r gl) 27)) w.heap.size r gl ∧ Below w.heap.size w (w.alloc (.cells (cellsQ r gl) 27)) ∧ (w.alloc (.cells (cellsQ r gl) 27)).heap.size = w.heap.size + 1) from ⟨seq_new w r gl, below_alloc w _, by simp⟩
  clear hR hg hl hv hL hZ hr
  cases first
  · go_enter Tryz.func6, Tryz.ntmps6
    go_wp2_with fail
    refine (KT.out _ HC.out.2.1).mono ?_
    rintro e w1 ⟨B, M, v, C, u, rfl, hP⟩
    have X1 := show Hid (LF w w1 B M v C u t r gl) from ⟨hP.base HC.out.2.1, HC.out.1.later hP.bel HC.out.1.lt, fun k hk => by have := hP.bt k hk; rw [HC.out.2.2] at this; omega, fun k hk => by have := hP.br k hk; rw [HC.out.2.2] at this; omega⟩
    clear KT hP HC
    go_wp2_with fail
    go_loopw [9] (fun iv wr => ∃ (k : Nat) (v u : Value) (t : List Nd), k ≤ 2 ∧ iv = .int .i64 (k : Int) ∧ Hid (LF w wr B M v C u t r gl)) (fun iv _ => 2 - (intOf iv).toNat)
    case atStart => exact ⟨0, v, u, t, by omega, rfl, X1⟩
    case round =>
      obtain ⟨k, v, u, t, hk, rfl, HI⟩ := hrel
      clear X1
      by_cases hlt : k < 2
      · have hki : (k : Int) < 2 := by omega
        have K1 := show Hid _ from KW.out wr B M v C u t HI.out
        have K2 := show Hid (∀ W v', LG w W B M v' C u (wholeQ t r gl).2 t r gl → Calls Tryz.prog 25 #[.pointer (some ⟨C, 0, none⟩), .agg (cellsQ r gl)] W fun e w' => e = .returned (.tuple #[.int .i64 (wholeQ t r gl).1.1, .int .i64 (wholeQ t r gl).1.2]) ∧ ∃ u', LF w w' B M v' C u' (wholeQ t r gl).2 r gl) from fun W v' h => KRW.out W B M v' C u t h
        have K3 := show Hid _ from KC.out wr B M v C u t HI.out
        have K4 := show Hid (∀ W v', LG w W B M v' C u (curryQ t r gl).2 t r gl → Calls Tryz.prog 27 #[.pointer (some ⟨C, 0, none⟩), .agg (cellsQ r gl)] W fun e w' => e = .returned (.tuple #[.int .i64 (curryQ t r gl).1.1, .int .i64 (curryQ t r gl).1.2]) ∧ ∃ u', LF w w' B M v' C u' (curryQ t r gl).2 r gl) from fun W v' h => KRC.out W B M v' C u t h
        clear KW KRW KC KRC
        generalize wholeQ t r gl = wq at *
        generalize curryQ t r gl = cq at *
        obtain ⟨⟨wx, we⟩, wt⟩ := wq
        obtain ⟨⟨cx, ce⟩, ct⟩ := cq
        simp only at K1 K2 K3 K4
        by_cases hk0 : k = 0
        · subst hk0
          clear K1 K2
          go_wp2_with (refine wpList_ldQQ _ _ rfl _ rfl HI.out.sq hr16 rfl ?_)
          refine Calls.mono K3.out ?_
          rintro e w2 ⟨rfl, v2, h2⟩
          have X2 := show Hid _ from h2
          clear h2 K3
          go_wp2_with (refine wpList_ldQQ _ _ rfl _ rfl X2.out.sq hr16 rfl ?_)
          refine Calls.mono (K4.out _ _ X2.out) ?_
          rintro e w3 ⟨rfl, u3, h3⟩
          have X3 := show Hid _ from h3
          clear h3 K4 X2
          go_wp2_with (go_at_call 14; refine (KM.out _ _).mono ?_; rintro e w' ⟨rfl, rfl⟩)
          refine Calls.mono (KS.out _ _ _ _ _ _ _ X3.out) ?_
          rintro e w4 ⟨rfl, h4⟩
          have X4 := show Hid (LF w w4 B M v2 C u3 ct r gl) from h4
          clear h4 X3
          go_wp2_with fail
          go_roundw
          case rel => exact ⟨0 + 1, v2, u3, ct, by omega, by first | rfl | go_num, X4⟩
          case measure => first | (simp [intOf]; done) | (simp [intOf]; omega)
        · have hk1 : ((k : Int) == 0) = false := by
            have : (k : Int) ≠ 0 := by omega
            simpa using this
          clear K3 K4
          go_wp2_with (refine wpList_ldQQ _ _ rfl _ rfl HI.out.sq hr16 rfl ?_)
          refine Calls.mono K1.out ?_
          rintro e w2 ⟨rfl, v2, h2⟩
          have X2 := show Hid _ from h2
          clear h2 K1
          go_wp2_with (refine wpList_ldQQ _ _ rfl _ rfl X2.out.sq hr16 rfl ?_)
          refine Calls.mono (K2.out _ _ X2.out) ?_
          rintro e w3 ⟨rfl, u3, h3⟩
          have X3 := show Hid _ from h3
          clear h3 K2 X2
          go_wp2_with (go_at_call 14; refine (KM.out _ _).mono ?_; rintro e w' ⟨rfl, rfl⟩)
          refine Calls.mono (KS.out _ _ _ _ _ _ _ X3.out) ?_
          rintro e w4 ⟨rfl, h4⟩
          have X4 := show Hid (LF w w4 B M v2 C u3 wt r gl) from h4
          clear h4 X3
          go_wp2_with fail
          go_roundw
          case rel => exact ⟨k + 1, v2, u3, wt, by omega, by first | rfl | go_num, X4⟩
          case measure => first | (simp [intOf]; done) | (simp [intOf]; omega)
      · have hki : ¬ (k : Int) < 2 := by omega
        have HB := show Hid (Below w.heap.size w wr) from HI.out.pr.bel
        clear HI KW KC KRW KRC KS
        go_wp2_with fail
        refine (KH.out _ HB.out).mono ?_
        rintro e w14 ⟨rfl, hb14⟩
        have H14 := show Hid (Below w.heap.size w w14) from HB.out.trans (hb14.mono HB.out.size)
        clear hb14
        go_wp2_with fail
        go_ret
        exact ⟨rfl, H14.out⟩
  · go_enter Tryz.func6, Tryz.ntmps6
    go_wp2_with fail
    refine (KT.out _ HC.out.2.1).mono ?_
    rintro e w1 ⟨B, M, v, C, u, rfl, hP⟩
    have X1 := show Hid (LF w w1 B M v C u t r gl) from ⟨hP.base HC.out.2.1, HC.out.1.later hP.bel HC.out.1.lt, fun k hk => by have := hP.bt k hk; rw [HC.out.2.2] at this; omega, fun k hk => by have := hP.br k hk; rw [HC.out.2.2] at this; omega⟩
    clear KT hP HC
    go_wp2_with fail
    go_loopw [9] (fun iv wr => ∃ (k : Nat) (v u : Value) (t : List Nd), k ≤ 2 ∧ iv = .int .i64 (k : Int) ∧ Hid (LF w wr B M v C u t r gl)) (fun iv _ => 2 - (intOf iv).toNat)
    case atStart => exact ⟨0, v, u, t, by omega, rfl, X1⟩
    case round =>
      obtain ⟨k, v, u, t, hk, rfl, HI⟩ := hrel
      clear X1
      by_cases hlt : k < 2
      · have hki : (k : Int) < 2 := by omega
        have K1 := show Hid _ from KW.out wr B M v C u t HI.out
        have K2 := show Hid (∀ W v', LG w W B M v' C u (wholeQ t r gl).2 t r gl → Calls Tryz.prog 25 #[.pointer (some ⟨C, 0, none⟩), .agg (cellsQ r gl)] W fun e w' => e = .returned (.tuple #[.int .i64 (wholeQ t r gl).1.1, .int .i64 (wholeQ t r gl).1.2]) ∧ ∃ u', LF w w' B M v' C u' (wholeQ t r gl).2 r gl) from fun W v' h => KRW.out W B M v' C u t h
        have K3 := show Hid _ from KC.out wr B M v C u t HI.out
        have K4 := show Hid (∀ W v', LG w W B M v' C u (curryQ t r gl).2 t r gl → Calls Tryz.prog 27 #[.pointer (some ⟨C, 0, none⟩), .agg (cellsQ r gl)] W fun e w' => e = .returned (.tuple #[.int .i64 (curryQ t r gl).1.1, .int .i64 (curryQ t r gl).1.2]) ∧ ∃ u', LF w w' B M v' C u' (curryQ t r gl).2 r gl) from fun W v' h => KRC.out W B M v' C u t h
        clear KW KRW KC KRC
        generalize wholeQ t r gl = wq at *
        generalize curryQ t r gl = cq at *
        obtain ⟨⟨wx, we⟩, wt⟩ := wq
        obtain ⟨⟨cx, ce⟩, ct⟩ := cq
        simp only at K1 K2 K3 K4
        by_cases hk0 : k = 0
        · subst hk0
          clear K3 K4
          go_wp2_with (refine wpList_ldQQ _ _ rfl _ rfl HI.out.sq hr16 rfl ?_)
          refine Calls.mono K1.out ?_
          rintro e w2 ⟨rfl, v2, h2⟩
          have X2 := show Hid _ from h2
          clear h2 K1
          go_wp2_with (refine wpList_ldQQ _ _ rfl _ rfl X2.out.sq hr16 rfl ?_)
          refine Calls.mono (K2.out _ _ X2.out) ?_
          rintro e w3 ⟨rfl, u3, h3⟩
          have X3 := show Hid _ from h3
          clear h3 K2 X2
          go_wp2_with (go_at_call 14; refine (KM.out _ _).mono ?_; rintro e w' ⟨rfl, rfl⟩)
          refine Calls.mono (KS.out _ _ _ _ _ _ _ X3.out) ?_
          rintro e w4 ⟨rfl, h4⟩
          have X4 := show Hid (LF w w4 B M v2 C u3 wt r gl) from h4
          clear h4 X3
          go_wp2_with fail
          go_roundw
          case rel => exact ⟨0 + 1, v2, u3, wt, by omega, by first | rfl | go_num, X4⟩
          case measure => first | (simp [intOf]; done) | (simp [intOf]; omega)
        · have hk1 : ((k : Int) == 0) = false := by
            have : (k : Int) ≠ 0 := by omega
            simpa using this
          clear K1 K2
          go_wp2_with (refine wpList_ldQQ _ _ rfl _ rfl HI.out.sq hr16 rfl ?_)
          refine Calls.mono K3.out ?_
          rintro e w2 ⟨rfl, v2, h2⟩
          have X2 := show Hid _ from h2
          clear h2 K3
          go_wp2_with (refine wpList_ldQQ _ _ rfl _ rfl X2.out.sq hr16 rfl ?_)
          refine Calls.mono (K4.out _ _ X2.out) ?_
          rintro e w3 ⟨rfl, u3, h3⟩
          have X3 := show Hid _ from h3
          clear h3 K4 X2
          go_wp2_with (go_at_call 14; refine (KM.out _ _).mono ?_; rintro e w' ⟨rfl, rfl⟩)
          refine Calls.mono (KS.out _ _ _ _ _ _ _ X3.out) ?_
          rintro e w4 ⟨rfl, h4⟩
          have X4 := show Hid (LF w w4 B M v2 C u3 ct r gl) from h4
          clear h4 X3
          go_wp2_with fail
          go_roundw
          case rel => exact ⟨k + 1, v2, u3, ct, by omega, by first | rfl | go_num, X4⟩
          case measure => first | (simp [intOf]; done) | (simp [intOf]; omega)
      · have hki : ¬ (k : Int) < 2 := by omega
        have HB := show Hid (Below w.heap.size w wr) from HI.out.pr.bel
        clear HI KW KC KRW KRC KS
        go_wp2_with fail
        refine (KH.out _ HB.out).mono ?_
        rintro e w14 ⟨rfl, hb14⟩
        have H14 := show Hid (Below w.heap.size w w14) from HB.out.trans (hb14.mono HB.out.size)
        clear hb14
        go_wp2_with fail
        go_ret
        exact ⟨rfl, H14.out⟩
end Go.Proofs.YtkmmlimekachbaaGreatDoor
