/-
  The document's calls Atom, Bot, Two, Imp, Not and Cut: for every text and number. No other condition.
-/
import Derived.Test.YtkejippimkjjaaaGreatDoorRG1
import Derived.Test.YtkejippimkjjaaaGreatDoorFG3
import Derived.Test.YtkejippimkjjaaaGreatDoorZT1
import Derived.Test.YtkejippimkjjaaaGreatDoorBG6
namespace Go.Proofs.YtkejippimkjjaaaGreatDoor
open Go.RowKit Go.Maps
open Fm (Nd)

section
variable (w : World) {c : Nat} {u : Value} {t : List Nd}
set_option maxHeartbeats 400000 in
theorem rtwo_any (h : Tr w c u t) (k x y : Int) (h0 : 0 ≤ k) (h1 : k ≤ 1024) (hx : Fm.i64 x) (hy : Fm.i64 y) :
    Calls Tryz.prog 102 #[.pointer (some ⟨c, 0, none⟩), .int .i64 k, .int .i64 x, .int .i64 y] w fun e w' => e = .returned (.tuple #[.int .i64 (Fm.put t (joinN k x y)).1, .int .i64 (Fm.put t (joinN k x y)).2.1]) ∧ AfterR w c u (Fm.put t (joinN k x y)).2.2 w' := by
  have K := show Hid (Calls Tryz.prog 23 #[.pointer (some ⟨c, 0, none⟩), .agg #[.int .i64 k, .string ⟨#[]⟩, .int .i64 x, .int .i64 y]] w fun e w' => e = .returned (.tuple #[.int .i64 (Fm.put t (joinN k x y)).1, .int .i64 (Fm.put t (joinN k x y)).2.1]) ∧ AfterR w c u (Fm.put t (joinN k x y)).2.2 w') from rput_any w h (joinN k x y) (good_joinN h0 h1 hx hy)
  generalize Fm.put t (joinN k x y) = r at *
  clear h
  go_enter Tryz.func102, Tryz.ntmps102
  go_wp2_with fail
  refine K.out.mono ?_
  rintro e w1 ⟨rfl, ha⟩
  have HA := show Hid _ from ha
  clear ha K
  go_wp2_with fail
  go_ret2
  exact ⟨rfl, HA.out⟩
set_option maxHeartbeats 400000 in
theorem rimp_any (h : Tr w c u t) (x y : Int) (hx : Fm.i64 x) (hy : Fm.i64 y) :
    Calls Tryz.prog 61 #[.pointer (some ⟨c, 0, none⟩), .int .i64 x, .int .i64 y] w fun e w' => e = .returned (.tuple #[.int .i64 (Fm.put t (joinN 5 x y)).1, .int .i64 (Fm.put t (joinN 5 x y)).2.1]) ∧ AfterR w c u (Fm.put t (joinN 5 x y)).2.2 w' := by
  have K := show Hid (Calls Tryz.prog 102 #[.pointer (some ⟨c, 0, none⟩), .int .i64 5, .int .i64 x, .int .i64 y] w fun e w' => e = .returned (.tuple #[.int .i64 (Fm.put t (joinN 5 x y)).1, .int .i64 (Fm.put t (joinN 5 x y)).2.1]) ∧ AfterR w c u (Fm.put t (joinN 5 x y)).2.2 w') from rtwo_any w h 5 x y (by omega) (by omega) hx hy
  generalize Fm.put t (joinN 5 x y) = r at *
  clear h
  go_enter Tryz.func61, Tryz.ntmps61
  go_wp2_with fail
  refine K.out.mono ?_
  rintro e w1 ⟨rfl, ha⟩
  have HA := show Hid _ from ha
  clear ha K
  go_wp2_with fail
  go_ret2
  exact ⟨rfl, HA.out⟩
set_option maxHeartbeats 1000000 in
theorem rcut_world {j : Nat} (h : Tr w c u t) (hj : j ≤ t.length) : (∀ p cp, u = .slice p t.length cp → ∀ u', (u' = .slice p j j) → AfterR w c u (t.take j) (w.setCell ⟨c, 0, none⟩ u')) := by
  rintro p cp rfl u' rfl
  refine ⟨.slice p j j, ⟨heap_setCell_same _ c 0 _ _ _ h.tab, ?_, Fm.ok_take h.ok j⟩, fun k hk => Or.inl (by cases p <;> exact hk), ⟨rfl, rfl, rfl, by simp [World.setCell], fun k hk hn => Below.heap_setCell _ _ _ _ (fun e => hn (Or.inl e))⟩⟩
  have hlj : (t.take j).length = j := by rw [List.length_take]; omega
  rcases h.row with ⟨hv, ht⟩ | ⟨g, cap, cur, hv, hg, hnc, hcm, hcs, htake⟩
  · obtain ⟨rfl, _, _⟩ := Value.slice.inj hv
    subst ht
    have : j = 0 := by simpa using hj
    subst this
    exact Or.inl ⟨rfl, rfl⟩
  · obtain ⟨rfl, _, _⟩ := Value.slice.inj hv
    have hcg : g ≠ c := fun e => h.uc (by rw [← e]; rfl)
    refine Or.inr ⟨g, j, cur, by rw [hlj], (Below.heap_setCell _ _ _ _ hcg).trans hg, by rw [hlj]; exact Nat.le_refl _, by unfold maxLen at *; omega, by omega, ?_⟩
    rw [hlj, ← cellsOf_take t j hj, ← htake, List.take_take, Nat.min_eq_left (by omega)]
set_option maxRecDepth 100000 in
set_option maxHeartbeats 1000000 in
theorem rcut_any (h : Tr w c u t) (n : Int) :
    Calls Tryz.prog 19 #[.pointer (some ⟨c, 0, none⟩), .int .i64 n] w fun e w' => e = .returned (.int .i64 (cutR t n).1) ∧ AfterR w c u (cutR t n).2 w' := by
  have c0 := h.c0
  have hf := h.fr
  have HT := show Hid (Tr w c u t) from h
  have hlen := h.ok.len
  have HCR := show Hid (cutR t n = if 0 ≤ n ∧ n ≤ t.length then (0, t.take n.toNat) else (2, t)) from rfl
  generalize cutR t n = r at *
  by_cases hn : 0 ≤ n ∧ n ≤ t.length
  · obtain ⟨j, rfl⟩ : ∃ j : Nat, n = j := ⟨n.toNat, by omega⟩
    have hj : j ≤ t.length := by omega
    have hr := HCR.out
    rw [if_pos hn] at hr
    simp only [Int.toNat_natCast] at hr
    subst hr
    have HW := show Hid (∀ p cp, u = .slice p t.length cp → ∀ u', (u' = .slice p j j) → AfterR w c u (t.take j) (w.setCell ⟨c, 0, none⟩ u')) from rcut_world w h hj
    have hj0 : ¬ (j : Int) < 0 := by omega
    have hj1 : ¬ (t.length : Int) < (j : Int) := by omega
    have hjl : (j : Int) ≤ (t.length : Int) := by omega
    rcases slice_cases h.row with ⟨rfl, rfl⟩ | ⟨g, cap, cur, rfl, -, hnc, hcm, -, -⟩
    · obtain rfl : j = 0 := by simpa using hj
      have HW2 := show Hid _ from HW.out none 0 rfl (.slice none 0 0) rfl
      clear h hn HCR HW
      go_enter Tryz.func19, Tryz.ntmps19
      go_wp2_with fail
      go_ret
      exact ⟨rfl, HW2.out⟩
    · unfold maxLen at hcm
      have hjc : (j : Int) ≤ (cap : Int) := by omega
      have hjc2 : j ≤ cap := by omega
      have HW2 := show Hid _ from HW.out _ cap rfl (.slice (some ⟨g, 0, none⟩) j j) rfl
      clear h hn HCR HW
      go_enter Tryz.func19, Tryz.ntmps19
      go_wp2_with fail
      go_ret
      exact ⟨rfl, HW2.out⟩
  · have hr := HCR.out
    rw [if_neg hn] at hr
    subst hr
    obtain ⟨p, cp, rfl⟩ := h.row.form
    clear h HCR
    by_cases hn0 : n < 0
    · go_enter Tryz.func19, Tryz.ntmps19
      go_wp2_with fail
      go_ret
      exact ⟨rfl, AfterR.of_below HT.out (Below.refl _ _)⟩
    · have hn1 : (t.length : Int) < n := by omega
      go_enter Tryz.func19, Tryz.ntmps19
      go_wp2_with fail
      go_ret
      exact ⟨rfl, AfterR.of_below HT.out (Below.refl _ _)⟩
end
end Go.Proofs.YtkejippimkjjaaaGreatDoor
/-
  The document's calls kind, with and to. No other condition than that the numbers are rows'.
-/
namespace Go.Proofs.YtkejippimkjjaaaGreatDoor
open Go.RowKit Go.Shelf Go.Maps
open Fm (Nd)
open Bt.Bs (Ok wd)
set_option linter.unusedSimpArgs false

theorem wpList_ldBQ {ops : Array Oper} {rest : List Oper} {o : Oper} {a : Act} {Q : Exit → Act → World → Prop} (w : World) (hg : Region.wanted o (yielded ops a.tmps) = true) (x : Operand) (hop : o.op = Op.load 25 x) (b k : Nat) (hx : a.eval x = .pointer (some ⟨b, k, none⟩)) {r : List Nat} {g : Int} (h : SeqIn w b k r g) (hs : r.length = 16)
    (hK : wpList Tryz.prog ops Q rest (a.put o.dst (.agg (Bt.cellsB r))) w) : wpList Tryz.prog ops Q (o :: rest) a w := by
  refine Bt.wpList_want hg fun K' hK' => ?_
  have hrun := loadBin w b k h hs
  unfold Oper.wp
  simp [execOp, hop, hx, hrun, Result.andThen]
  exact hK' _ _ hK
set_option maxRecDepth 100000 in
set_option maxHeartbeats 1000000 in
theorem rkind_any (w : World) {c : Nat} {u : Value} {t : List Nd} (h : Tr w c u t) (i : Nat) (hi : i < t.length) :
    Calls Tryz.prog 100 #[.pointer (some ⟨c, 0, none⟩), .int .i64 (i : Int)] w fun e w' => e = .returned (.int .i64 (t[i].k)) ∧ w' = w := by
  have c0 := h.c0
  have hlen := h.ok.len
  obtain ⟨p, cp, rfl, hc1, hc2, hat⟩ := h.row.isR.at
  obtain ⟨b, o, rfl, hat4⟩ := hat (by omega)
  have a0 := (hat4 w (Below.refl _ _) i hi).c0
  have hiI : (i : Int) < (t.length : Int) := by omega
  clear h hat hat4
  generalize t[i].k = x at *
  go_enter Tryz.func100, Tryz.ntmps100
  go_wp2_with fail
  go_ret
  exact ⟨rfl, rfl⟩
set_option maxRecDepth 100000 in
set_option maxHeartbeats 1000000 in
theorem rto_any (w : World) {r : List Nat} (hr : r.length = 16) (g x : Int) : Calls Tryz.prog 60 #[.agg (cellsQ r g), .int .i64 x] w fun e w' => e = .returned (.agg (cellsQ r x)) ∧ Below w.heap.size w w' := by
  go_enter Tryz.func60, Tryz.ntmps60
  go_wp2_with (refine wpList_box _ _ rfl _ rfl rfl ?_)
  intro w1 b1 hn1
  go_wp2_with (refine wpList_alloc _ rfl _ zeroValQ rfl ?_)
  intro w2 b2 hn2
  obtain ⟨rfl, rfl, hq⟩ := two_new hn1 hn2
  clear hn1 hn2
  have h16 := hq.s.goal hr
  have f16 := hq.s.fr 16
  have HQ := show Hid _ from hq.put (hq.s.setG hr x) (KpP.set (Kp.refl _ w2) 16 (.int .i64 x))
  clear hq
  go_wp2_with (first | (refine wpList_ldQQ _ _ rfl _ rfl HQ.out.s hr rfl ?_) | (refine wpList_stQ _ rfl rfl _ _ rfl _ rfl rfl HQ.out.z zero_len hr ?_))
  refine bodyPost_ret (results_seq1 rfl _ _ (w.heap.size + 1) rfl (HQ.out.z.setRow _ _) hr) rfl ?_
  exact ⟨rfl, below_setRow HQ.out.bel (Nat.le_succ _)⟩
set_option maxRecDepth 100000 in
set_option maxHeartbeats 1000000 in
theorem rwith_any (w : World) {r : List Nat} (hr : Ok r) (g : Int) (x y : Nat) (hx : x < 1024) (hy : y < 1024) : Calls Tryz.prog 58 #[.agg (cellsQ r g), .int .i64 (x : Int), .int .i64 (y : Int)] w fun e w' => e = .returned (.agg (cellsQ (withF r [(x : Int), (y : Int)]) g)) ∧ Below w.heap.size w w' := by
  have hl := hr.1
  have hr1 := putI_okZ hr (x : Int)
  have hr2 := putI_okZ hr1 (y : Int)
  have hl1 := hr1.1
  have hl2 := hr2.1
  show Calls Tryz.prog 58 #[.agg (cellsQ r g), .int .i64 (x : Int), .int .i64 (y : Int)] w fun e w' => e = .returned (.agg (cellsQ (Bt.putI (Bt.putI r (x : Int)).1 (y : Int)).1 g)) ∧ Below w.heap.size w w'
  have K1 := show Hid (∀ W : World, Calls Tryz.prog 101 #[.agg (Bt.cellsB r), .int .i64 (x : Int)] W fun e w' => e = .returned (.agg (Bt.cellsB (Bt.putI r (x : Int)).1)) ∧ Below W.heap.size W w') from fun W => by rw [putI_nat hx]; exact Bt.with_any W hr x hx
  have K2 := show Hid (∀ W : World, Calls Tryz.prog 101 #[.agg (Bt.cellsB (Bt.putI r (x : Int)).1), .int .i64 (y : Int)] W fun e w' => e = .returned (.agg (Bt.cellsB (Bt.putI (Bt.putI r (x : Int)).1 (y : Int)).1)) ∧ Below W.heap.size W w') from fun W => by rw [putI_nat (n := y) hy]; exact Bt.with_any W hr1 y hy
  generalize (Bt.putI (Bt.putI r (x : Int)).1 (y : Int)).1 = r2 at *
  generalize (Bt.putI r (x : Int)).1 = r1 at *
  clear hr hr1 hr2 hx hy
  go_enter Tryz.func58, Tryz.ntmps58
  go_wp2_with (refine wpList_box 27 _ rfl _ rfl rfl ?_)
  intro w1 b1 hn1
  go_wp2_with (refine wpList_alloc 27 rfl _ zeroValQ rfl ?_)
  intro w2 b2 hn2
  obtain ⟨rfl, rfl, hq⟩ := two_new hn1 hn2
  have H2 := show Hid _ from hq
  clear hn1 hn2 hq
  go_wp2_with (refine wpList_ldBQ _ rfl _ rfl w.heap.size 0 rfl H2.out.s.seqIn hl ?_)
  refine Calls.mono (K1.out w2) ?_
  rintro e w3 ⟨rfl, hb3⟩
  have H3 := show Hid _ from H2.out.later hb3
  clear H2 hb3 K1
  go_wp2_with fail
  refine Calls.mono (K2.out w3) ?_
  rintro e w4 ⟨rfl, hb4⟩
  have H4 := show Hid _ from H3.out.later hb4
  clear H3 hb4 K2
  go_wp2_with (refine wpList_stBQ _ rfl rfl _ _ rfl w.heap.size rfl rfl H4.out.s hl hl2 ?_)
  intro w5 hs5 hk5
  have H5 := show Hid _ from H4.out.put hs5 hk5
  clear H4 hs5 hk5
  go_wp2_with (first | (refine wpList_ldQQ _ _ rfl _ rfl H5.out.s hl2 rfl ?_) | (refine wpList_stQ _ rfl rfl _ _ rfl _ rfl rfl H5.out.z zero_len hl2 ?_))
  refine bodyPost_ret (results_seq1 rfl _ _ (w.heap.size + 1) rfl (H5.out.z.setRow _ _) hl2) rfl ?_
  exact ⟨rfl, below_setRow H5.out.bel (Nat.le_succ _)⟩
end Go.Proofs.YtkejippimkjjaaaGreatDoor
/-
  The document's call Fits: as the program's, for every table, every sequent, every number of a rule and of a formula. (Written by genzrfits.py.)
-/
namespace Go.Proofs.YtkejippimkjjaaaGreatDoor
open Go.RowKit Go.Shelf Go.Maps
open Fm (Nd)
open Bt.Bs (Ok wd)
set_option linter.unusedSimpArgs false

structure RF (w W : World) (b5 b9 : Nat) (r : List Nat) (g : Int) (n : Nd) : Prop where
  s : SeqAt W b5 r g
  n : Cl W b9 (ndC n).toArray 54
  bel : Below w.heap.size w W
theorem RF.later {w W W' : World} {b5 b9 : Nat} {r : List Nat} {g : Int} {n : Nd} (h : RF w W b5 b9 r g n) (hb : Below W.heap.size W W') : RF w W' b5 b9 r g n := ⟨h.s.later hb h.s.lt, h.n.later hb, h.bel.trans (hb.mono h.bel.size)⟩
set_option maxRecDepth 100000 in
set_option maxHeartbeats 1000000 in
theorem rfits_no (w : World) {c : Nat} {u : Value} {t : List Nd} (hT : Tr w c u t) {r : List Nat} (g ru main : Int) (hm : Fm.has t main = false) :
    Calls Tryz.prog 56 #[.pointer (some ⟨c, 0, none⟩), .agg (cellsQ r g), .int .i64 ru, .int .i64 main] w fun e w' => e = .returned (.bool (findF t r g ru main)) ∧ Below w.heap.size w w' := by
  have hf : findF t r g ru main = false := by unfold findF; rw [hm]; rfl
  rw [hf]
  have KH := show Hid (∀ W : World, Below w.heap.size w W → Calls Tryz.prog 33 #[.pointer (some ⟨c, 0, none⟩), .int .i64 main] W fun e w'' => e = .returned (.bool false) ∧ w'' = W) from fun W hb => by have := rhas_any W (hT.later hb) main; rw [hm] at this; exact this
  clear hT hm hf
  go_enter Tryz.func56, Tryz.ntmps56
  go_wp2_with (refine wpList_box 27 _ rfl _ rfl rfl ?_)
  intro w1 b5 hn1
  go_wp2_with fail
  refine Calls.mono (KH.out _ hn1.bel) ?_
  rintro e w2 ⟨rfl, hw⟩
  subst w2
  go_wp2_with fail
  go_ret
  exact ⟨rfl, hn1.bel⟩
end Go.Proofs.YtkejippimkjjaaaGreatDoor
