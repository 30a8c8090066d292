/-
  The document's call Seqs of two rows of the same sequents; the law's call set. No other condition than that the sets have their 16 words. (Written by genzseqs.py.)
-/
import Derived.Test.YtpddfooeaecekaaDoorZPrmA
import Derived.Test.YtpddfooeaecekaaDoorBOfR5
namespace Go.Proofs.YtpddfooeaecekaaDoor
open Go.RowKit Go.Shelf Go.Maps
open Fm (Nd)
open Bt.Bs (Ok wd)
set_option linter.unusedSimpArgs false

theorem flat_at {α : Type} (f : α → List Value) (n : Nat) : ∀ (l : List α), (∀ x ∈ l, (f x).length = n) → ∀ (i : Nat) (hi : i < l.length) (j : Nat), j < n → (l.flatMap f)[i * n + j]? = (f l[i])[j]?
  | [], _, _, hi, _, _ => absurd hi (by simp)
  | x :: l, hl, 0, _, j, hj => by
    have h1 := hl x (List.mem_cons_self ..)
    rw [List.flatMap_cons, Nat.zero_mul, Nat.zero_add, List.getElem?_append_left (by omega)]
    rfl
  | x :: l, hl, i + 1, hi, j, hj => by
    have h1 := hl x (List.mem_cons_self ..)
    have e : (i + 1) * n + j = n + (i * n + j) := by rw [Nat.add_mul]; omega
    rw [List.flatMap_cons, List.getElem?_append_right (by omega), h1, e, Nat.add_sub_cancel_left, flat_at f n l (fun y hy => hl y (List.mem_cons_of_mem _ hy)) i (by simpa using hi) j hj]
    rfl
theorem cellsQ_list (r : List Nat) (g : Int) : (cellsQ r g).toList = Bt.listB r ++ [.int .i64 g] := by simp [cellsQ, Bt.listB, Bt.cellsB]
theorem sqs_in {w : World} {q : Nat} {l : List SQ} {T : TypeId} (h : Cl w q (cellsQs l) T) (hl : ∀ s ∈ l, s.1.length = 16) {i : Nat} (hi : i < l.length) : SeqIn w q (i * 17) l[i].1 l[i].2 := fun j v hv => by
  have h16 := hl _ (List.getElem_mem hi)
  have hj := (List.getElem?_eq_some_iff.1 hv).1
  have hj' : j < 17 := by simp [Bt.listB, h16] at hj; omega
  rw [Cl.cell h]
  show (cellsQs l)[i * 17 + j]? = some v
  unfold cellsQs
  rw [List.getElem?_toArray, flat_at (fun s : SQ => (cellsQ s.1 s.2).toList) 17 l (fun s hs => by rw [cellsQ_list]; simp [Bt.listB, hl s hs]) i hi j hj', cellsQ_list]
  exact hv
theorem sqs_load {w : World} {q : Nat} {l : List SQ} {T : TypeId} (h : Cl w q (cellsQs l) T) (hl : ∀ s ∈ l, s.1.length = 16) {i : Nat} (hi : i < l.length) : (Instr.loadAt 27 (.pointer (some ⟨q, i * 17, none⟩))).run Tryd.prog w = .ok (.agg (cellsQ l[i].1 l[i].2)) w := loadQin w q (i * 17) (sqs_in h hl hi) (hl _ (List.getElem_mem hi))
structure SQ2 (w0 W : World) (q q2 : Nat) (l : List SQ) : Prop where
  a : Cl W q (cellsQs l) 27
  b : Cl W q2 (cellsQs l) 27
  bel : Below w0.heap.size w0 W
theorem SQ2.drew {w0 W : World} {q q2 : Nat} {l : List SQ} (h : SQ2 w0 W q q2 l) : SQ2 w0 W.drew q q2 l := ⟨h.a, h.b, h.bel.drew⟩
set_option maxRecDepth 100000 in
set_option maxHeartbeats 1000000 in
theorem rseqs_nil (w : World) : Calls Tryd.prog 23 #[.slice none 0 0, .slice none 0 0] w fun e w' => e = .returned (.bool true) ∧ Below w.heap.size w w' := by
  go_enter Tryd.func23, Tryd.ntmps23
  go_wp2_with fail
  go_loopw [5] (fun v wr => v = .int .i64 0 ∧ wr = w) (fun _ _ => 0)
  case atStart => exact ⟨rfl, rfl⟩
  case round =>
    obtain ⟨rfl, rfl⟩ := hrel
    go_wp2_with fail
    go_ret
    exact ⟨rfl, Below.refl _ _⟩
set_option maxRecDepth 100000 in
set_option maxHeartbeats 2000000 in
theorem rseqs_row (w : World) {q q2 : Nat} {l : List SQ} (hl : ∀ s ∈ l, s.1.length = 16) (hn : l.length ≤ 1000) (h1 : Cl w q (cellsQs l) 27) (h2 : Cl w q2 (cellsQs l) 27) :
    Calls Tryd.prog 23 #[.slice (some ⟨q, 0, none⟩) l.length l.length, .slice (some ⟨q2, 0, none⟩) l.length l.length] w fun e w' => e = .returned (.bool true) ∧ Below w.heap.size w w' := by
  have H0 := show Hid (SQ2 w w q q2 l) from ⟨h1, h2, Below.refl _ _⟩
  have HL := show Hid (∀ (W : World) (i : Nat) (hi : i < l.length), SQ2 w W q q2 l → ∃ (r : List Nat) (g : Int), r.length = 16 ∧ (Instr.loadAt 27 (.pointer (some ⟨q, i * 17, none⟩))).run Tryd.prog W = .ok (.agg (cellsQ r g)) W ∧ (Instr.loadAt 27 (.pointer (some ⟨q2, i * 17, none⟩))).run Tryd.prog W = .ok (.agg (cellsQ r g)) W ∧ l[i]? = some (r, g)) from fun W i hi h => ⟨_, _, hl _ (List.getElem_mem hi), sqs_load h.a hl hi, sqs_load h.b hl hi, List.getElem?_eq_getElem hi⟩
  clear h1 h2 hl
  generalize hnn : l.length = n at *
  go_enter Tryd.func23, Tryd.ntmps23
  go_wp2_with fail
  go_loopw [5] (fun v wr => ∃ i : Nat, i ≤ n ∧ v = .int .i64 (i : Int) ∧ Hid (SQ2 w wr q q2 l)) (fun v _ => n - (intOf v).toNat)
  case atStart => exact ⟨0, by omega, rfl, H0⟩
  case round =>
    obtain ⟨jx, hi, rfl, HQ⟩ := hrel
    clear H0
    by_cases hlt : jx < n
    · have hltI : (jx : Int) < (n : Int) := by omega
      obtain ⟨r, g, hr, _, _, hli⟩ := HL.out wr jx (by omega) HQ.out
      have HN := show Hid _ from (eql_seq wr hr hr g g).2
      have HLI := show Hid (∀ W : World, SQ2 w W q q2 l → (Instr.loadAt 27 (.pointer (some ⟨q, jx * 17, none⟩))).run Tryd.prog W = .ok (.agg (cellsQ r g)) W ∧ (Instr.loadAt 27 (.pointer (some ⟨q2, jx * 17, none⟩))).run Tryd.prog W = .ok (.agg (cellsQ r g)) W) from fun W h => by
        obtain ⟨r', g', _, l1, l2, e⟩ := HL.out W jx (by omega) h
        rw [hli] at e
        cases e
        exact ⟨l1, l2⟩
      clear HL HN hli
      go_wp2_with fail
      refine wp_region_rel (by kernel_rfl) [some 17, some 18, some 19, some 20, some 21, some 22, some 23, some 24, some 25] [[], [], [0, 1], [2], [], [], [4, 5], [6], [3, 7]] (by kernel_rfl) (fun i v w => match i with | 0 => v = .slice (some ⟨q, 0, none⟩) n n | 1 => v = .int .i64 (jx : Int) | 2 => v = .pointer (some ⟨q, jx * 17, none⟩) | 3 => v = .agg (cellsQ r g) | 4 => v = .slice (some ⟨q2, 0, none⟩) n n | 5 => v = .int .i64 (jx : Int) | 6 => v = .pointer (some ⟨q2, jx * 17, none⟩) | 7 => v = .agg (cellsQ r g) | 8 => v = .bool false | _ => True) (fun _ W => SQ2 w W q q2 l) (fun _ _ => True) ?hle (HQ.out.drew) (allLt 9 ?steps) ?fin
      case hle =>
        intro i v w w1 hl h
        match i, h with
        | 0, h => exact h
        | 1, h => exact h
        | 2, h => exact h
        | 3, h => exact h
        | 4, h => exact h
        | 5, h => exact h
        | 6, h => exact h
        | 7, h => exact h
        | 8, h => exact h
        | _ + 9, h => trivial
      case steps =>
        refine ⟨⟨⟨⟨⟨⟨⟨⟨⟨trivial, ?s0⟩, ?s1⟩, ?s2⟩, ?s3⟩, ?s4⟩, ?s5⟩, ?s6⟩, ?s7⟩, ?s8⟩
        case s0 =>
          intro done a w hS h0 hd hn hO hN
          have o0 : a.tmps[0]? = some (.slice (some ⟨q, 0, none⟩) n n) := (hO.out 0 (by decide)).trans rfl
          refine relVal rfl (.slice (some ⟨q, 0, none⟩) n n) w rfl (by go_simp) ⟨_, rfl, rfl, by simpa [h0] using hS, trivial⟩
        case s1 =>
          intro done a w hS h0 hd hn hO hN
          have o5 : a.tmps[5]? = some (.int .i64 (jx : Int)) := (hO.out 5 (by decide)).trans rfl
          refine relVal rfl (.int .i64 (jx : Int)) w rfl (by go_simp) ⟨_, rfl, rfl, by simpa [h0] using hS, trivial⟩
        case s2 =>
          intro done a w hS h0 hd hn hO hN
          obtain ⟨v0, g0, r0⟩ := hN 0 (by decide)
          have g0 : a.tmps[17]? = some v0 := g0
          obtain rfl : v0 = .slice (some ⟨q, 0, none⟩) n n := r0
          obtain ⟨v1, g1, r1⟩ := hN 1 (by decide)
          have g1 : a.tmps[18]? = some v1 := g1
          obtain rfl : v1 = .int .i64 (jx : Int) := r1
          refine relVal rfl (.pointer (some ⟨q, jx * 17, none⟩)) w rfl (by go_simp) ⟨_, rfl, rfl, by simpa [h0] using hS, trivial⟩
        case s3 =>
          intro done a w hS h0 hd hn hO hN
          obtain ⟨v2, g2, r2⟩ := hN 2 (by decide)
          have g2 : a.tmps[19]? = some v2 := g2
          obtain rfl : v2 = .pointer (some ⟨q, jx * 17, none⟩) := r2
          have hl := (HLI.out w hS).1
          refine relVal rfl (.agg (cellsQ r g)) w rfl (by simp [execOp, Act.eval, g2, hl, Result.andThen]) ⟨_, rfl, rfl, by simpa [h0] using hS, trivial⟩
        case s4 =>
          intro done a w hS h0 hd hn hO hN
          have o1 : a.tmps[1]? = some (.slice (some ⟨q2, 0, none⟩) n n) := (hO.out 1 (by decide)).trans rfl
          refine relVal rfl (.slice (some ⟨q2, 0, none⟩) n n) w rfl (by go_simp) ⟨_, rfl, rfl, by simpa [h0] using hS, trivial⟩
        case s5 =>
          intro done a w hS h0 hd hn hO hN
          have o5 : a.tmps[5]? = some (.int .i64 (jx : Int)) := (hO.out 5 (by decide)).trans rfl
          refine relVal rfl (.int .i64 (jx : Int)) w rfl (by go_simp) ⟨_, rfl, rfl, by simpa [h0] using hS, trivial⟩
        case s6 =>
          intro done a w hS h0 hd hn hO hN
          obtain ⟨v4, g4, r4⟩ := hN 4 (by decide)
          have g4 : a.tmps[21]? = some v4 := g4
          obtain rfl : v4 = .slice (some ⟨q2, 0, none⟩) n n := r4
          obtain ⟨v5, g5, r5⟩ := hN 5 (by decide)
          have g5 : a.tmps[22]? = some v5 := g5
          obtain rfl : v5 = .int .i64 (jx : Int) := r5
          refine relVal rfl (.pointer (some ⟨q2, jx * 17, none⟩)) w rfl (by go_simp) ⟨_, rfl, rfl, by simpa [h0] using hS, trivial⟩
        case s7 =>
          intro done a w hS h0 hd hn hO hN
          obtain ⟨v6, g6, r6⟩ := hN 6 (by decide)
          have g6 : a.tmps[23]? = some v6 := g6
          obtain rfl : v6 = .pointer (some ⟨q2, jx * 17, none⟩) := r6
          have hl := (HLI.out w hS).2
          refine relVal rfl (.agg (cellsQ r g)) w rfl (by simp [execOp, Act.eval, g6, hl, Result.andThen]) ⟨_, rfl, rfl, by simpa [h0] using hS, trivial⟩
        case s8 =>
          intro done a w hS h0 hd hn hO hN
          obtain ⟨v3, g3, r3⟩ := hN 3 (by decide)
          have g3 : a.tmps[20]? = some v3 := g3
          obtain rfl : v3 = .agg (cellsQ r g) := r3
          obtain ⟨v7, g7, r7⟩ := hN 7 (by decide)
          have g7 : a.tmps[24]? = some v7 := g7
          obtain rfl : v7 = .agg (cellsQ r g) := r7
          have hq := (eql_seq w hr hr g g).2
          rw [sameQ_self] at hq
          refine relVal rfl (.bool false) w rfl (by simp [execOp, Act.eval, g3, g7, eqGuard, guardQ, hq, Result.andThen]) ⟨_, rfl, rfl, by simpa [h0] using hS, trivial⟩
      case fin =>
        intro vs done w hdone hS hR
        have e8 : vs 8 = .bool false := hR 8 (by decide)
        have HS := show Hid _ from hS
        simp only [putAll, Act.put, List.setIfInBounds_toArray, List.set_cons_zero, List.set_cons_succ, e8]
        clear hS hR hdone e8
        generalize vs 0 = x0, vs 1 = x1, vs 2 = x2, vs 3 = x3, vs 4 = x4, vs 5 = x5, vs 6 = x6, vs 7 = x7
        go_wp2_with fail
        go_roundw
        case rel => exact ⟨jx + 1, by omega, by go_num, HS⟩
        case measure => first | (simp [intOf]; done) | (simp [intOf]; omega)
    · have hge : ¬ (jx : Int) < (n : Int) := by omega
      go_wp2_with fail
      go_ret
      exact ⟨rfl, HQ.out.bel⟩
end Go.Proofs.YtpddfooeaecekaaDoor
