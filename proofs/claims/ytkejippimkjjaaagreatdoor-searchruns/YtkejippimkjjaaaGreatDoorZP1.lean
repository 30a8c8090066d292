/-
  The document's call imps: two implications, one behind the other. For every table, for all numbers.
-/
import Derived.Test.YtkejippimkjjaaaGreatDoorZR1
import Derived.Test.YtkejippimkjjaaaGreatDoorZH1
import Derived.Test.YtkejippimkjjaaaGreatDoorZG6
import Derived.Test.YtkejippimkjjaaaGreatDoorZG9
import Derived.Test.YtkejippimkjjaaaGreatDoorZR3
import Derived.Test.YtkejippimkjjaaaGreatDoorBG6
namespace Go.Proofs.YtkejippimkjjaaaGreatDoor
open Go.RowKit Go.Shelf Go.Maps
open Fm (Nd)
open Bt.Bs (Ok wd)
set_option linter.unusedSimpArgs false

def impsF (t : List Nd) (a b c d : Int) : (Int × Int × Int) × List Nd :=
  if (Fm.put t (joinN 5 a b)).2.1 ≠ 0 then ((0, 0, (Fm.put t (joinN 5 a b)).2.1), (Fm.put t (joinN 5 a b)).2.2)
  else if (Fm.put (Fm.put t (joinN 5 a b)).2.2 (joinN 5 (if c < 0 then (Fm.put t (joinN 5 a b)).1 else c) (if d < 0 then (Fm.put t (joinN 5 a b)).1 else d))).2.1 ≠ 0
  then ((0, 0, (Fm.put (Fm.put t (joinN 5 a b)).2.2 (joinN 5 (if c < 0 then (Fm.put t (joinN 5 a b)).1 else c) (if d < 0 then (Fm.put t (joinN 5 a b)).1 else d))).2.1), t)
  else (((Fm.put t (joinN 5 a b)).1, (Fm.put (Fm.put t (joinN 5 a b)).2.2 (joinN 5 (if c < 0 then (Fm.put t (joinN 5 a b)).1 else c) (if d < 0 then (Fm.put t (joinN 5 a b)).1 else d))).1, 0), (Fm.put (Fm.put t (joinN 5 a b)).2.2 (joinN 5 (if c < 0 then (Fm.put t (joinN 5 a b)).1 else c) (if d < 0 then (Fm.put t (joinN 5 a b)).1 else d))).2.2)
set_option maxRecDepth 100000 in
set_option maxHeartbeats 2000000 in
theorem imps_any (w : World) {k : Nat} {u : Value} {t : List Nd} (h : Tr w k u t) (a b c d : Int) (ha : Fm.i64 a) (hb : Fm.i64 b) (hc : Fm.i64 c) (hd : Fm.i64 d) :
    Calls Tryz.prog 59 #[.pointer (some ⟨k, 0, none⟩), .int .i64 a, .int .i64 b, .int .i64 c, .int .i64 d] w fun e w' => e = .returned (.tuple #[.int .i64 (impsF t a b c d).1.1, .int .i64 (impsF t a b c d).1.2.1, .int .i64 (impsF t a b c d).1.2.2]) ∧ AfterR w k u (impsF t a b c d).2 w' := by
  have c0 := h.c0
  have hpid := Fm.put_id h.ok (joinN 5 a b)
  obtain ⟨s, hs⟩ := (Fm.put_len t (joinN 5 a b)).2
  have K1 := show Hid _ from rimp_any w h a b ha hb
  have hli : (t.length : Int) ≤ 1024 := by have := h.ok.len; omega
  obtain ⟨p0, cp0, hu, -⟩ := h.row.isR
  subst hu
  clear h
  obtain ⟨R, hR⟩ : ∃ R, R = impsF t a b c d := ⟨_, rfl⟩
  rw [← hR]
  have HR := show Hid _ from hR
  clear hR
  unfold impsF at HR
  generalize Fm.put t (joinN 5 a b) = p at *
  go_enter Tryz.func59, Tryz.ntmps59
  go_wp2_with fail
  refine Calls.mono K1.out ?_
  rintro e w1 ⟨rfl, u1, hT1, hL1, hK1⟩
  have H1 := show Hid _ from And.intro hT1 (And.intro hL1 hK1)
  clear hT1 hL1 hK1 K1
  by_cases hz : p.2.1 = 0
  · have hzb : (p.2.1 != 0) = false := by simpa using hz
    have hi1 : Fm.i64 p.1 := Fm.i64_small hpid.1 hpid.2
    have HC := show Hid (∀ c' d' : Int, c' = (if c < 0 then p.1 else c) → d' = (if d < 0 then p.1 else d) → Calls Tryz.prog 61 #[.pointer (some ⟨k, 0, none⟩), .int .i64 c', .int .i64 d'] w1 fun e w' => e = .returned (.tuple #[.int .i64 (Fm.put p.2.2 (joinN 5 (if c < 0 then p.1 else c) (if d < 0 then p.1 else d))).1, .int .i64 (Fm.put p.2.2 (joinN 5 (if c < 0 then p.1 else c) (if d < 0 then p.1 else d))).2.1]) ∧ AfterR w1 k u1 (Fm.put p.2.2 (joinN 5 (if c < 0 then p.1 else c) (if d < 0 then p.1 else d))).2.2 w') from fun c' d' e1 e2 => by
      subst e1 e2
      refine rimp_any w1 H1.out.1 _ _ ?_ ?_
      · split
        · exact hi1
        · exact hc
      · split
        · exact hi1
        · exact hd
    obtain ⟨s2, hs2⟩ := (Fm.put_len p.2.2 (joinN 5 (if c < 0 then p.1 else c) (if d < 0 then p.1 else d))).2
    have hpre : (Fm.put p.2.2 (joinN 5 (if c < 0 then p.1 else c) (if d < 0 then p.1 else d))).2.2 = t ++ (s ++ s2) := by rw [hs2, hs, List.append_assoc]
    rw [if_neg (by simpa using hz)] at HR
    clear hi1 hs2 hpid hs
    generalize Fm.put p.2.2 (joinN 5 (if c < 0 then p.1 else c) (if d < 0 then p.1 else d)) = q at *
    obtain ⟨q1, q2, q3⟩ := q
    simp only at hpre HC HR
    subst hpre
    have HTAIL := show Hid (∀ w2, AfterR w1 k u1 (t ++ (s ++ s2)) w2 → ∃ u2, Tr w2 k u2 (t ++ (s ++ s2)) ∧ Lies w.heap.size (.slice p0 t.length cp0) u2 ∧ Kp (Fr k (.slice p0 t.length cp0)) w w2) from fun w2 h2 => AfterR.trans H1.out.2.1 H1.out.2.2 h2
    clear H1
    by_cases hz2 : q2 = 0
    · subst hz2
      rw [if_neg (by simp)] at HR
      obtain rfl := HR.out
      clear HR
      by_cases hcn : c < 0
      · by_cases hdn : d < 0
        · have KI := show Hid _ from HC.out p.1 p.1 (by rw [if_pos hcn]) (by rw [if_pos hdn])
          clear HC
          go_wp2_with fail
          refine Calls.mono KI.out ?_
          rintro e w2 ⟨rfl, hA⟩
          have HA := show Hid _ from HTAIL.out w2 hA
          clear hA HTAIL KI
          go_wp2_with fail
          exact bodyPost_ret (results_tmps3 rfl _ _) rfl ⟨rfl, HA.out⟩
        · have KI := show Hid _ from HC.out p.1 d (by rw [if_pos hcn]) (by rw [if_neg hdn])
          clear HC
          go_wp2_with fail
          refine Calls.mono KI.out ?_
          rintro e w2 ⟨rfl, hA⟩
          have HA := show Hid _ from HTAIL.out w2 hA
          clear hA HTAIL KI
          go_wp2_with fail
          exact bodyPost_ret (results_tmps3 rfl _ _) rfl ⟨rfl, HA.out⟩
      · by_cases hdn : d < 0
        · have KI := show Hid _ from HC.out c p.1 (by rw [if_neg hcn]) (by rw [if_pos hdn])
          clear HC
          go_wp2_with fail
          refine Calls.mono KI.out ?_
          rintro e w2 ⟨rfl, hA⟩
          have HA := show Hid _ from HTAIL.out w2 hA
          clear hA HTAIL KI
          go_wp2_with fail
          exact bodyPost_ret (results_tmps3 rfl _ _) rfl ⟨rfl, HA.out⟩
        · have KI := show Hid _ from HC.out c d (by rw [if_neg hcn]) (by rw [if_neg hdn])
          clear HC
          go_wp2_with fail
          refine Calls.mono KI.out ?_
          rintro e w2 ⟨rfl, hA⟩
          have HA := show Hid _ from HTAIL.out w2 hA
          clear hA HTAIL KI
          go_wp2_with fail
          exact bodyPost_ret (results_tmps3 rfl _ _) rfl ⟨rfl, HA.out⟩
    · have hq2 : (q2 != 0) = true := by simpa using hz2
      rw [if_pos hz2] at HR
      obtain rfl := HR.out
      clear HR
      have HTC := show Hid (∀ w2, AfterR w1 k u1 (t ++ (s ++ s2)) w2 → Calls Tryz.prog 19 #[.pointer (some ⟨k, 0, none⟩), .int .i64 (t.length : Int)] w2 fun e w' => e = .returned (.int .i64 0) ∧ AfterR w k (.slice p0 t.length cp0) t w') from fun w2 h2 => by
        obtain ⟨u2, h3, h4, h5⟩ := HTAIL.out w2 h2
        have := rcut_any w2 h3 (t.length : Int)
        rw [cut_pre] at this
        exact this.mono fun e w' h => ⟨h.1, AfterR.trans h4 h5 h.2⟩
      clear HTAIL
      by_cases hcn : c < 0
      · by_cases hdn : d < 0
        · have KI := show Hid _ from HC.out p.1 p.1 (by rw [if_pos hcn]) (by rw [if_pos hdn])
          clear HC
          go_wp2_with fail
          refine Calls.mono KI.out ?_
          rintro e w2 ⟨rfl, hA⟩
          have HA := show Hid _ from HTC.out w2 hA
          clear hA HTC KI
          go_wp2_with fail
          refine Calls.mono HA.out ?_
          rintro e w3 ⟨rfl, hA3⟩
          have HX := show Hid _ from hA3
          clear HA hA3
          go_wp2_with fail
          exact bodyPost_ret (results_tmps3 rfl _ _) rfl ⟨rfl, HX.out⟩
        · have KI := show Hid _ from HC.out p.1 d (by rw [if_pos hcn]) (by rw [if_neg hdn])
          clear HC
          go_wp2_with fail
          refine Calls.mono KI.out ?_
          rintro e w2 ⟨rfl, hA⟩
          have HA := show Hid _ from HTC.out w2 hA
          clear hA HTC KI
          go_wp2_with fail
          refine Calls.mono HA.out ?_
          rintro e w3 ⟨rfl, hA3⟩
          have HX := show Hid _ from hA3
          clear HA hA3
          go_wp2_with fail
          exact bodyPost_ret (results_tmps3 rfl _ _) rfl ⟨rfl, HX.out⟩
      · by_cases hdn : d < 0
        · have KI := show Hid _ from HC.out c p.1 (by rw [if_neg hcn]) (by rw [if_pos hdn])
          clear HC
          go_wp2_with fail
          refine Calls.mono KI.out ?_
          rintro e w2 ⟨rfl, hA⟩
          have HA := show Hid _ from HTC.out w2 hA
          clear hA HTC KI
          go_wp2_with fail
          refine Calls.mono HA.out ?_
          rintro e w3 ⟨rfl, hA3⟩
          have HX := show Hid _ from hA3
          clear HA hA3
          go_wp2_with fail
          exact bodyPost_ret (results_tmps3 rfl _ _) rfl ⟨rfl, HX.out⟩
        · have KI := show Hid _ from HC.out c d (by rw [if_neg hcn]) (by rw [if_neg hdn])
          clear HC
          go_wp2_with fail
          refine Calls.mono KI.out ?_
          rintro e w2 ⟨rfl, hA⟩
          have HA := show Hid _ from HTC.out w2 hA
          clear hA HTC KI
          go_wp2_with fail
          refine Calls.mono HA.out ?_
          rintro e w3 ⟨rfl, hA3⟩
          have HX := show Hid _ from hA3
          clear HA hA3
          go_wp2_with fail
          exact bodyPost_ret (results_tmps3 rfl _ _) rfl ⟨rfl, HX.out⟩
  · have hzb : (p.2.1 != 0) = true := by simpa using hz
    rw [if_pos hz] at HR
    obtain rfl := HR.out
    clear HR hz
    go_wp2_with fail
    exact bodyPost_ret (results_tmps3 rfl _ _) rfl ⟨rfl, ⟨u1, by rw [← hs]; exact H1.out⟩⟩
end Go.Proofs.YtkejippimkjjaaaGreatDoor
/-
  Sequents and rows of them built (arms of walks). No condition.
-/
namespace Go.Proofs.YtkejippimkjjaaaGreatDoor
open Go.RowKit Go.Shelf Go.Maps
open Fm (Nd)
open Bt.Bs (Ok wd)
set_option linter.unusedSimpArgs false

section
variable {ops : Array Oper} {rest : List Oper} {o : Oper} {a : Act} {Q : Exit → Act → World → Prop}
theorem bldG (w : World) (g : Int) : (Instr.build 27 #[(1, .int .i64 g)]).run Tryz.prog w = .ok (.agg (cellsQ Bt.Bs.zero g)) w := by kernel_rfl
theorem bldL16 (w : World) (r0 r1 r2 r3 r4 r5 r6 r7 r8 r9 r10 r11 r12 r13 r14 r15 : Nat) : (Instr.build 27 #[(0, .agg (Bt.cellsB [r0, r1, r2, r3, r4, r5, r6, r7, r8, r9, r10, r11, r12, r13, r14, r15]))]).run Tryz.prog w = .ok (.agg (cellsQ [r0, r1, r2, r3, r4, r5, r6, r7, r8, r9, r10, r11, r12, r13, r14, r15] 0)) w := by kernel_rfl
theorem bldL (w : World) {r : List Nat} (hr : r.length = 16) : (Instr.build 27 #[(0, .agg (Bt.cellsB r))]).run Tryz.prog w = .ok (.agg (cellsQ r 0)) w := by
  match r, hr with
  | [r0, r1, r2, r3, r4, r5, r6, r7, r8, r9, r10, r11, r12, r13, r14, r15], _ => exact bldL16 ..
theorem wpList_bldG (w : World) (hg : Region.wanted o (yielded ops a.tmps) = true) (y : Operand) (hop : o.op = Op.build 27 #[(1, y)]) {g : Int} (hy : a.eval y = .int .i64 g)
    (hK : wpList Tryz.prog ops Q rest (a.put o.dst (.agg (cellsQ Bt.Bs.zero g))) w) : wpList Tryz.prog ops Q (o :: rest) a w := by
  refine Bt.wpList_want hg fun K' hK' => ?_
  have hrun := bldG w g
  unfold Oper.wp
  simp [execOp, hop, hy, hrun, Result.andThen]
  exact hK' _ _ hK
theorem wpList_bldL (w : World) (hg : Region.wanted o (yielded ops a.tmps) = true) (x : Operand) (hop : o.op = Op.build 27 #[(0, x)]) {r : List Nat} (hx : a.eval x = .agg (Bt.cellsB r)) (hr : r.length = 16)
    (hK : wpList Tryz.prog ops Q rest (a.put o.dst (.agg (cellsQ r 0))) w) : wpList Tryz.prog ops Q (o :: rest) a w := by
  refine Bt.wpList_want hg fun K' hK' => ?_
  have hrun := bldL w hr
  unfold Oper.wp
  simp [execOp, hop, hx, hrun, Result.andThen]
  exact hK' _ _ hK
theorem wpList_bldQ (w : World) (hg : Region.wanted o (yielded ops a.tmps) = true) (x y : Operand) (hop : o.op = Op.build 27 #[(0, x), (1, y)]) {r : List Nat} {g : Int} (hx : a.eval x = .agg (Bt.cellsB r)) (hy : a.eval y = .int .i64 g) (hr : r.length = 16)
    (hK : wpList Tryz.prog ops Q rest (a.put o.dst (.agg (cellsQ r g))) w) : wpList Tryz.prog ops Q (o :: rest) a w := by
  refine Bt.wpList_want hg fun K' hK' => ?_
  have hrun := buildQ w hr g
  unfold Oper.wp
  simp [execOp, hop, hx, hy, hrun, Result.andThen]
  exact hK' _ _ hK
theorem wpList_row1 (w : World) (hg : Region.wanted o (yielded ops a.tmps) = true) (x : Operand) (hop : o.op = Op.buildSlice 100 1 #[(0, x)]) {r : List Nat} {g : Int} (hx : a.eval x = .agg (cellsQ r g)) (hr : r.length = 16)
    (hK : wpList Tryz.prog ops Q rest (a.put o.dst (.slice (some ⟨w.heap.size, 0, none⟩) 1 1)) (w.alloc (.cells (cellsQs [(r, g)]) 27))) : wpList Tryz.prog ops Q (o :: rest) a w := by
  refine Bt.wpList_want hg fun K' hK' => ?_
  have hrun := bq1 w hr g
  unfold Oper.wp
  simp [execOp, hop, hx, hrun, Result.andThen]
  exact hK' _ _ hK
end
end Go.Proofs.YtkejippimkjjaaaGreatDoor
/-
  In the document's Premises: what lies there. (Written by genzrprem.py.)
-/
namespace Go.Proofs.YtkejippimkjjaaaGreatDoor
open Go.RowKit Go.Shelf Go.Maps
open Fm (Nd)
open Bt.Bs (Ok wd)
set_option linter.unusedSimpArgs false

structure RP (w W : World) (c : Nat) (u : Value) (t : List Nd) (b5 b10 b11 : Nat) (r rst : List Nat) (g : Int) (n : Nd) : Prop where
  tr : Tr W c u t
  s : SeqAt W b5 r g
  n : Cl W b10 (ndC n).toArray 54
  z : SeqAt W b11 rst g
  bel : Below w.heap.size w W
section
variable {w W W' : World} {c : Nat} {u : Value} {t : List Nd} {b5 b10 b11 : Nat} {r rst : List Nat} {g : Int} {n : Nd}
theorem RP.later (h : RP w W c u t b5 b10 b11 r rst g n) (hb : Below W.heap.size W W') : RP w W' c u t b5 b10 b11 r rst g n := ⟨h.tr.later hb, h.s.later hb h.s.lt, h.n.later hb, h.z.later hb h.z.lt, h.bel.trans (hb.mono h.bel.size)⟩
theorem RP.drew (h : RP w W c u t b5 b10 b11 r rst g n) : RP w W.drew c u t b5 b10 b11 r rst g n := h.later ((Below.refl _ _).drew)
end
theorem dropI_okN {r : List Nat} (hr : Ok r) (n : Int) : Ok (Bt.dropI r n) := dropI_okZ hr n
end Go.Proofs.YtkejippimkjjaaaGreatDoor
