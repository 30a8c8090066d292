/-
  The document's call Seqs of two rows of the same sequents; the law's call set. No other condition than that the sets have their 16 words. (Written by genzseqs.py.)
-/
import Derived.Test.YtpddfooeaecekaaDoorZG6
import Derived.Test.YtpddfooeaecekaaDoorBOfR5
import Derived.Test.YtpddfooeaecekaaDoorZG9
import Derived.Test.YtpddfooeaecekaaDoorZH1
import Derived.Test.YtpddfooeaecekaaDoorFG3
namespace Go.Proofs.YtpddfooeaecekaaDoor
open Go.RowKit Go.Shelf Go.Maps
open Fm (Nd)
open Bt.Bs (Ok wd)
set_option linter.unusedSimpArgs false

theorem flat_at {α : Type} (f : α → List Value) (n : Nat) : ∀ (l : List α), (∀ x ∈ l, (f x).length = n) → ∀ (i : Nat) (hi : i < l.length) (j : Nat), j < n → (l.flatMap f)[i * n + j]? = (f l[i])[j]?
  | [], _, _, hi, _, _ => absurd hi (by simp)
  | x :: l, hl, 0, _, j, hj => by
    have h1 := hl x (List.mem_cons_self ..)
    rw [List.flatMap_cons, Nat.zero_mul, Nat.zero_add, List.getElem?_append_left (by omega)]
    rfl
  | x :: l, hl, i + 1, hi, j, hj => by
    have h1 := hl x (List.mem_cons_self ..)
    have e : (i + 1) * n + j = n + (i * n + j) := by rw [Nat.add_mul]; omega
    rw [List.flatMap_cons, List.getElem?_append_right (by omega), h1, e, Nat.add_sub_cancel_left, flat_at f n l (fun y hy => hl y (List.mem_cons_of_mem _ hy)) i (by simpa using hi) j hj]
    rfl
theorem cellsQ_list (r : List Nat) (g : Int) : (cellsQ r g).toList = Bt.listB r ++ [.int .i64 g] := by simp [cellsQ, Bt.listB, Bt.cellsB]
theorem sqs_in {w : World} {q : Nat} {l : List SQ} {T : TypeId} (h : Cl w q (cellsQs l) T) (hl : ∀ s ∈ l, s.1.length = 16) {i : Nat} (hi : i < l.length) : SeqIn w q (i * 17) l[i].1 l[i].2 := fun j v hv => by
  have h16 := hl _ (List.getElem_mem hi)
  have hj := (List.getElem?_eq_some_iff.1 hv).1
  have hj' : j < 17 := by simp [Bt.listB, h16] at hj; omega
  rw [Cl.cell h]
  show (cellsQs l)[i * 17 + j]? = some v
  unfold cellsQs
  rw [List.getElem?_toArray, flat_at (fun s : SQ => (cellsQ s.1 s.2).toList) 17 l (fun s hs => by rw [cellsQ_list]; simp [Bt.listB, hl s hs]) i hi j hj', cellsQ_list]
  exact hv
theorem sqs_load {w : World} {q : Nat} {l : List SQ} {T : TypeId} (h : Cl w q (cellsQs l) T) (hl : ∀ s ∈ l, s.1.length = 16) {i : Nat} (hi : i < l.length) : (Instr.loadAt 27 (.pointer (some ⟨q, i * 17, none⟩))).run Tryd.prog w = .ok (.agg (cellsQ l[i].1 l[i].2)) w := loadQin w q (i * 17) (sqs_in h hl hi) (hl _ (List.getElem_mem hi))
structure SQ2 (w0 W : World) (q q2 : Nat) (l : List SQ) : Prop where
  a : Cl W q (cellsQs l) 27
  b : Cl W q2 (cellsQs l) 27
  bel : Below w0.heap.size w0 W
theorem SQ2.drew {w0 W : World} {q q2 : Nat} {l : List SQ} (h : SQ2 w0 W q q2 l) : SQ2 w0 W.drew q q2 l := ⟨h.a, h.b, h.bel.drew⟩
set_option maxRecDepth 100000 in
set_option maxHeartbeats 1000000 in
theorem rseqs_nil (w : World) : Calls Tryd.prog 23 #[.slice none 0 0, .slice none 0 0] w fun e w' => e = .returned (.bool true) ∧ Below w.heap.size w w' := by
  go_enter Tryd.func23, Tryd.ntmps23
  go_wp2_with fail
  go_loopw [5] (fun v wr => v = .int .i64 0 ∧ wr = w) (fun _ _ => 0)
  case atStart => exact ⟨rfl, rfl⟩
  case round =>
    obtain ⟨rfl, rfl⟩ := hrel
    go_wp2_with fail
    go_ret
    exact ⟨rfl, Below.refl _ _⟩
set_option maxRecDepth 100000 in
set_option maxHeartbeats 2000000 in
theorem rseqs_row (w : World) {q q2 : Nat} {l : List SQ} (hl : ∀ s ∈ l, s.1.length = 16) (hn : l.length ≤ 1000) (h1 : Cl w q (cellsQs l) 27) (h2 : Cl w q2 (cellsQs l) 27) :
    Calls Tryd.prog 23 #[.slice (some ⟨q, 0, none⟩) l.length l.length, .slice (some ⟨q2, 0, none⟩) l.length l.length] w fun e w' => e = .returned (.bool true) ∧ Below w.heap.size w w' := by
  have H0 := show Hid (SQ2 w w q q2 l) from ⟨h1, h2, Below.refl _ _⟩
  have HL := show Hid (∀ (W : World) (i : Nat) (hi : i < l.length), SQ2 w W q q2 l → ∃ (r : List Nat) (g : Int), r.length = 16 ∧ (Instr.loadAt 27 (.pointer (some ⟨q, i * 17, none⟩))).run Tryd.prog W = .ok (.agg (cellsQ r g)) W ∧ (Instr.loadAt 27 (.pointer (some ⟨q2, i * 17, none⟩))).run Tryd.prog W = .ok (.agg (cellsQ r g)) W ∧ l[i]? = some (r, g)) from fun W i hi h => ⟨_, _, hl _ (List.getElem_mem hi), sqs_load h.a hl hi, sqs_load h.b hl hi, List.getElem?_eq_getElem hi⟩
  clear h1 h2 hl
  generalize hnn : l.length = n at *
  go_enter Tryd.func23, Tryd.ntmps23
  go_wp2_with fail
  go_loopw [5] (fun v wr => ∃ i : Nat, i ≤ n ∧ v = .int .i64 (i : Int) ∧ Hid (SQ2 w wr q q2 l)) (fun v _ => n - (intOf v).toNat)
  case atStart => exact ⟨0, by omega, rfl, H0⟩
  case round =>
    obtain ⟨jx, hi, rfl, HQ⟩ := hrel
    clear H0
    by_cases hlt : jx < n
    · have hltI : (jx : Int) < (n : Int) := by omega
      obtain ⟨r, g, hr, _, _, hli⟩ := HL.out wr jx (by omega) HQ.out
      have HN := show Hid _ from (eql_seq wr hr hr g g).2
      have HLI := show Hid (∀ W : World, SQ2 w W q q2 l → (Instr.loadAt 27 (.pointer (some ⟨q, jx * 17, none⟩))).run Tryd.prog W = .ok (.agg (cellsQ r g)) W ∧ (Instr.loadAt 27 (.pointer (some ⟨q2, jx * 17, none⟩))).run Tryd.prog W = .ok (.agg (cellsQ r g)) W) from fun W h => by
        obtain ⟨r', g', _, l1, l2, e⟩ := HL.out W jx (by omega) h
        rw [hli] at e
        cases e
        exact ⟨l1, l2⟩
      clear HL HN hli
      go_wp2_with fail
      refine wp_region_rel (by kernel_rfl) [some 17, some 18, some 19, some 20, some 21, some 22, some 23, some 24, some 25] [[], [], [0, 1], [2], [], [], [4, 5], [6], [3, 7]] (by kernel_rfl) (fun i v w => match i with | 0 => v = .slice (some ⟨q, 0, none⟩) n n | 1 => v = .int .i64 (jx : Int) | 2 => v = .pointer (some ⟨q, jx * 17, none⟩) | 3 => v = .agg (cellsQ r g) | 4 => v = .slice (some ⟨q2, 0, none⟩) n n | 5 => v = .int .i64 (jx : Int) | 6 => v = .pointer (some ⟨q2, jx * 17, none⟩) | 7 => v = .agg (cellsQ r g) | 8 => v = .bool false | _ => True) (fun _ W => SQ2 w W q q2 l) (fun _ _ => True) ?hle (HQ.out.drew) (allLt 9 ?steps) ?fin
      case hle =>
        intro i v w w1 hl h
        match i, h with
        | 0, h => exact h
        | 1, h => exact h
        | 2, h => exact h
        | 3, h => exact h
        | 4, h => exact h
        | 5, h => exact h
        | 6, h => exact h
        | 7, h => exact h
        | 8, h => exact h
        | _ + 9, h => trivial
      case steps =>
        refine ⟨⟨⟨⟨⟨⟨⟨⟨⟨trivial, ?s0⟩, ?s1⟩, ?s2⟩, ?s3⟩, ?s4⟩, ?s5⟩, ?s6⟩, ?s7⟩, ?s8⟩
        case s0 =>
          intro done a w hS h0 hd hn hO hN
          have o0 : a.tmps[0]? = some (.slice (some ⟨q, 0, none⟩) n n) := (hO.out 0 (by decide)).trans rfl
          refine relVal rfl (.slice (some ⟨q, 0, none⟩) n n) w rfl (by go_simp) ⟨_, rfl, rfl, by simpa [h0] using hS, trivial⟩
        case s1 =>
          intro done a w hS h0 hd hn hO hN
          have o5 : a.tmps[5]? = some (.int .i64 (jx : Int)) := (hO.out 5 (by decide)).trans rfl
          refine relVal rfl (.int .i64 (jx : Int)) w rfl (by go_simp) ⟨_, rfl, rfl, by simpa [h0] using hS, trivial⟩
        case s2 =>
          intro done a w hS h0 hd hn hO hN
          obtain ⟨v0, g0, r0⟩ := hN 0 (by decide)
          have g0 : a.tmps[17]? = some v0 := g0
          obtain rfl : v0 = .slice (some ⟨q, 0, none⟩) n n := r0
          obtain ⟨v1, g1, r1⟩ := hN 1 (by decide)
          have g1 : a.tmps[18]? = some v1 := g1
          obtain rfl : v1 = .int .i64 (jx : Int) := r1
          refine relVal rfl (.pointer (some ⟨q, jx * 17, none⟩)) w rfl (by go_simp) ⟨_, rfl, rfl, by simpa [h0] using hS, trivial⟩
        case s3 =>
          intro done a w hS h0 hd hn hO hN
          obtain ⟨v2, g2, r2⟩ := hN 2 (by decide)
          have g2 : a.tmps[19]? = some v2 := g2
          obtain rfl : v2 = .pointer (some ⟨q, jx * 17, none⟩) := r2
          have hl := (HLI.out w hS).1
          refine relVal rfl (.agg (cellsQ r g)) w rfl (by simp [execOp, Act.eval, g2, hl, Result.andThen]) ⟨_, rfl, rfl, by simpa [h0] using hS, trivial⟩
        case s4 =>
          intro done a w hS h0 hd hn hO hN
          have o1 : a.tmps[1]? = some (.slice (some ⟨q2, 0, none⟩) n n) := (hO.out 1 (by decide)).trans rfl
          refine relVal rfl (.slice (some ⟨q2, 0, none⟩) n n) w rfl (by go_simp) ⟨_, rfl, rfl, by simpa [h0] using hS, trivial⟩
        case s5 =>
          intro done a w hS h0 hd hn hO hN
          have o5 : a.tmps[5]? = some (.int .i64 (jx : Int)) := (hO.out 5 (by decide)).trans rfl
          refine relVal rfl (.int .i64 (jx : Int)) w rfl (by go_simp) ⟨_, rfl, rfl, by simpa [h0] using hS, trivial⟩
        case s6 =>
          intro done a w hS h0 hd hn hO hN
          obtain ⟨v4, g4, r4⟩ := hN 4 (by decide)
          have g4 : a.tmps[21]? = some v4 := g4
          obtain rfl : v4 = .slice (some ⟨q2, 0, none⟩) n n := r4
          obtain ⟨v5, g5, r5⟩ := hN 5 (by decide)
          have g5 : a.tmps[22]? = some v5 := g5
          obtain rfl : v5 = .int .i64 (jx : Int) := r5
          refine relVal rfl (.pointer (some ⟨q2, jx * 17, none⟩)) w rfl (by go_simp) ⟨_, rfl, rfl, by simpa [h0] using hS, trivial⟩
        case s7 =>
          intro done a w hS h0 hd hn hO hN
          obtain ⟨v6, g6, r6⟩ := hN 6 (by decide)
          have g6 : a.tmps[23]? = some v6 := g6
          obtain rfl : v6 = .pointer (some ⟨q2, jx * 17, none⟩) := r6
          have hl := (HLI.out w hS).2
          refine relVal rfl (.agg (cellsQ r g)) w rfl (by simp [execOp, Act.eval, g6, hl, Result.andThen]) ⟨_, rfl, rfl, by simpa [h0] using hS, trivial⟩
        case s8 =>
          intro done a w hS h0 hd hn hO hN
          obtain ⟨v3, g3, r3⟩ := hN 3 (by decide)
          have g3 : a.tmps[20]? = some v3 := g3
          obtain rfl : v3 = .agg (cellsQ r g) := r3
          obtain ⟨v7, g7, r7⟩ := hN 7 (by decide)
          have g7 : a.tmps[24]? = some v7 := g7
          obtain rfl : v7 = .agg (cellsQ r g) := r7
          have hq := (eql_seq w hr hr g g).2
          rw [sameQ_self] at hq
          refine relVal rfl (.bool false) w rfl (by simp [execOp, Act.eval, g3, g7, eqGuard, guardQ, hq, Result.andThen]) ⟨_, rfl, rfl, by simpa [h0] using hS, trivial⟩
      case fin =>
        intro vs done w hdone hS hR
        have e8 : vs 8 = .bool false := hR 8 (by decide)
        have HS := show Hid _ from hS
        simp only [putAll, Act.put, List.setIfInBounds_toArray, List.set_cons_zero, List.set_cons_succ, e8]
        clear hS hR hdone e8
        generalize vs 0 = x0, vs 1 = x1, vs 2 = x2, vs 3 = x3, vs 4 = x4, vs 5 = x5, vs 6 = x6, vs 7 = x7
        go_wp2_with fail
        go_roundw
        case rel => exact ⟨jx + 1, by omega, by go_num, HS⟩
        case measure => first | (simp [intOf]; done) | (simp [intOf]; omega)
    · have hge : ¬ (jx : Int) < (n : Int) := by omega
      go_wp2_with fail
      go_ret
      exact ⟨rfl, HQ.out.bel⟩
end Go.Proofs.YtpddfooeaecekaaDoor
/-
  The law's call heads of layer 9: true. No other condition than that the table of TrailingZeros stands.
-/
namespace Go.Proofs.YtpddfooeaecekaaDoor
open Go.RowKit Go.Shelf Go.Maps
open Fm (Nd)
open Bt.Bs (Ok wd)
set_option linter.unusedSimpArgs false

theorem zeroB25 (w : World) : (zeroValue 25).run Tryd.prog w = .ok (.agg (Bt.cellsB Bt.Bs.zero)) w := by kernel_rfl
theorem ofR_len (l : List Int) : ∀ r : List Nat, r.length = 16 → (Bt.ofR l r).1.length = 16 := by
  induction l with
  | nil => intro r h; exact h
  | cons x l ih =>
    intro r h
    unfold Bt.ofR
    split
    · exact ih _ (by simpa [Bt.Bs.put] using h)
    · rfl
set_option maxRecDepth 100000 in
set_option maxHeartbeats 1000000 in
theorem set_any (w : World) (v : Value) (l : List Int) (hv : Bt.IsL w v l) : Calls Tryd.prog 19 #[v] w fun e w' => e = .returned (.agg (Bt.cellsB (Bt.ofR l Bt.Bs.zero).1)) ∧ Below w.heap.size w w' := by
  have hl16 := ofR_len l Bt.Bs.zero rfl
  have KO := show Hid (∀ W : World, Below w.heap.size w W → Calls Tryd.prog 35 #[v] W fun e w' => e = .returned (.tuple #[.agg (Bt.cellsB (Bt.ofR l Bt.Bs.zero).1), .int .i64 (Bt.ofR l Bt.Bs.zero).2]) ∧ Below W.heap.size W w') from fun W h => Bt.rof_any W v l (hv.later h)
  obtain ⟨p, c, rfl, -⟩ := hv
  generalize Bt.ofR l Bt.Bs.zero = R at *
  obtain ⟨r, x⟩ := R
  simp only at hl16 KO ⊢
  go_enter Tryd.func19, Tryd.ntmps19
  go_wp2_with (refine wpList_alloc 25 rfl _ zeroB25 rfl ?_)
  intro w1 b2 hn1
  go_wp2_with fail
  refine Calls.mono (KO.out w1 hn1.bel) ?_
  rintro e w2 ⟨rfl, hb2⟩
  have c2 : Cl w2 b2 (Bt.cellsB Bt.Bs.zero) 25 := Cl.later hn1.blk hb2
  go_wp2_with (refine wpList_alloc 25 rfl _ zeroB25 rfl ?_)
  intro w3 b3 hn3
  go_wp2_with (refine wpList_st 25 rfl rfl _ _ rfl b3 rfl (Bt.cellsB r) rfl _ _ hn3.blk (by rw [Bt.sizeB, Bt.cellsB_size hl16]) (by rw [Bt.cellsB_size hl16]; rfl) (Bt.cellsB_one r) ?_)
  intro w4 hc4 hk4
  have c4 : Cl w4 b2 (Bt.cellsB Bt.Bs.zero) 25 := Cl.kp (c2.new hn3) hk4 (by have := c2.lt; have := hn3.ge; omega)
  go_wp2_with (first | (refine wpList_ldw 25 _ rfl b3 rfl _ _ hc4 rfl Bt.under25 (by rw [Bt.sizeB, Bt.cellsB_size hl16]) rfl ?_) | (refine wpList_st 25 rfl rfl _ _ rfl b2 rfl (Bt.cellsB r) rfl _ _ c4 (by rw [Bt.sizeB, Bt.cellsB_size hl16]) (by rw [Bt.cellsB_size hl16]; rfl) (Bt.cellsB_one r) ?_))
  intro w5 hc5 hk5
  go_wp2_with fail
  refine bodyPost_ret (Bt.results_bits rfl _ _ b2 rfl hc5 hl16) rfl ?_
  have e1 := hn1.ge; have e2 := hn3.ge; have e3 := hn1.bel.size; have e4 := hb2.size
  exact ⟨rfl, bel_kp (bel_kp (bel_new (hn1.bel.trans (hb2.mono hn1.bel.size)) hn3) hk4 (by omega)) hk5 (by omega)⟩
def hT6 : List Nd := [atomN ⟨#[112]⟩, atomN ⟨#[113]⟩, Fm.bot, joinN 5 0 1, joinN 3 0 1, joinN 4 0 1]
def bw (x : Nat) : List Nat := x :: List.replicate 15 0
theorem bw_ok (x : Nat) (h : x < 2 ^ 64) : Ok (bw x) := ⟨rfl, fun y hy => by
  unfold bw at hy
  rcases List.mem_cons.1 hy with e | e
  · omega
  · have := (List.mem_replicate.1 e).2
    omega⟩
section
set_option maxRecDepth 100000
theorem h9fr : Fm.fr [] hT6 = (0, hT6) := by decide +kernel
theorem h9s03 : Bt.ofR [0, 3] Bt.Bs.zero = (bw 9, 0) := by decide +kernel
theorem h9s24 : Bt.ofR [2, 4] Bt.Bs.zero = (bw 20, 0) := by decide +kernel
theorem h9s01 : Bt.ofR [0, 1] Bt.Bs.zero = (bw 3, 0) := by decide +kernel
theorem h9r1 : refZ hT6 (bw 9) 1 = 0 := by decide +kernel
theorem h9a1 : applyF hT6 (bw 9) 1 = (4, 3) := by decide +kernel
theorem h9p1 : premF hT6 (bw 9) 1 4 3 = ([(bw 3, 1)], hT6, 0) := by decide +kernel
theorem h9r2 : refZ hT6 Bt.Bs.zero 5 = 0 := by decide +kernel
theorem h9c2 : choF hT6 Bt.Bs.zero 5 = [(11, 5), (12, 5)] := by decide +kernel
theorem h9r3 : refZ hT6 (bw 20) 0 = 0 := by decide +kernel
theorem h9f3 : findF hT6 (bw 20) 0 1 2 = true := by decide +kernel
theorem h9p4 : premF hT6 Bt.Bs.zero 5 8 5 = ([], hT6, 90) := by decide +kernel
theorem h9r5 : refZ hT6 Bt.Bs.zero 6 = 31 := by decide +kernel
end
theorem hT6_good : ∀ n ∈ hT6, Fm.good n := by
  have z : ∀ k : Int, 0 ≤ k → k ≤ 1024 → Fm.i64 k := fun k h1 h2 => Fm.i64_small (by omega) (by omega)
  intro n hn
  simp only [hT6, List.mem_cons, List.not_mem_nil, or_false] at hn
  rcases hn with rfl | rfl | rfl | rfl | rfl | rfl
  · exact good_atom (by decide)
  · exact good_atom (by decide)
  · exact Fm.good_bot
  · exact good_joinN (by omega) (by omega) (z 0 (by omega) (by omega)) (z 1 (by omega) (by omega))
  · exact good_joinN (by omega) (by omega) (z 0 (by omega) (by omega)) (z 1 (by omega) (by omega))
  · exact good_joinN (by omega) (by omega) (z 0 (by omega) (by omega)) (z 1 (by omega) (by omega))
theorem h9rows (w : World) : IsR (w.alloc (Obj.cells (cellsOf hT6).toArray 62)) (.slice (some ⟨w.heap.size, 0, none⟩) 6 6) hT6 := by
  refine ⟨_, 6, rfl, by decide, by decide, fun _ => ⟨w.heap.size, 0, rfl, fun k hk => ?_⟩⟩
  have hc : ∀ j, j < 4 → (w.alloc (Obj.cells (cellsOf hT6).toArray 62)).cell? ⟨w.heap.size, 0 + k * 4 + j, none⟩ = (ndC hT6[k])[j]? := fun j hj => by
    rw [cell_of_row _ _ _ _ _ _ (heap_alloc_new _ _), Nat.zero_add, ← cellsOf_at hT6 k j hk hj]
    simp
  exact ⟨hc 0 (by omega), hc 1 (by omega), hc 2 (by omega), hc 3 (by omega)⟩
structure OH (w wi : World) (b m : Nat) (v : Value) : Prop where
  tb : Tb wi b m v hT6
  tz : Bt.Tz wi
  ge : ∀ k, Ft b m v k → w.heap.size ≤ k
  bel : Below w.heap.size w wi
theorem OH.later {w wi w2 : World} {b m : Nat} {v : Value} (h : OH w wi b m v) (hb : Below wi.heap.size wi w2) : OH w w2 b m v := ⟨h.tb.later hb, Bt.tz_block h.tz hb, h.ge, h.bel.trans (hb.mono h.bel.size)⟩
theorem OH.after {w wi w2 : World} {b m : Nat} {v : Value} (hZ : Bt.Tz w) (h : OH w wi b m v) (ha : After wi b m v hT6 w2) : ∃ v', OH w w2 b m v' := by
  obtain ⟨v', hT, hL, hK⟩ := ha
  have hb := h.bel.trans (hK.below h.bel.size h.ge)
  refine ⟨v', hT, Bt.tz_block hZ hb, ?_, hb⟩
  rintro k (e | e | e)
  · exact h.ge k (Or.inl e)
  · exact h.ge k (Or.inr (Or.inl e))
  · rcases hL k e with h1 | h1
    · exact h.ge k (Or.inr (Or.inr h1))
    · exact Nat.le_trans h.bel.size h1
theorem Cl.after {w w' : World} {b m q : Nat} {v : Value} {t t' : List Nd} {cs : Array Value} {T : TypeId} (h : Cl w q cs T) (hT : Tb w b m v t) (h1 : T ≠ 53) (h2 : T ≠ 62) (ha : After w b m v t' w') : Cl w' q cs T := by
  obtain ⟨v', _, _, hK⟩ := ha
  exact (hK.block q h.lt (cells_nft h h1 h2 hT)).trans h
theorem nuL2_is (w : World) (x y : Int) : Bt.IsL (w.alloc (.cells #[.int .i64 x, .int .i64 y] 3)) (.slice (some ⟨w.heap.size, 0, none⟩) 2 2) [x, y] := (nuL2_new w x y).isL
theorem own2 {w : World} {B : Nat} {T : TypeId} {v : Value} {x y : Value} (h : w.ownsRow B T 1 v 2 [x, y]) : ∃ g cap cur, v = .slice (some ⟨g, 0, none⟩) 2 cap ∧ Cl w g cur T ∧ cur[0]? = some x ∧ cur[1]? = some y ∧ 2 ≤ cap := by
  rcases h.2 with ⟨rfl, e0⟩ | ⟨g, cap, cur, rfl, hg, hh, h1, h2, h3, h4⟩
  · exact absurd e0 (by omega)
  · refine ⟨g, cap, cur, rfl, hh, ?_, ?_, h1⟩
    · have := congrArg (fun l : List Value => l[0]?) h4
      simpa [List.getElem?_take] using this
    · have := congrArg (fun l : List Value => l[1]?) h4
      simpa [List.getElem?_take] using this
section
variable {ops : Array Oper} {rest : List Oper} {o : Oper} {a : Act} {Q : Exit → Act → World → Prop}
theorem bldG (w : World) (g : Int) : (Instr.build 27 #[(1, .int .i64 g)]).run Tryd.prog w = .ok (.agg (cellsQ Bt.Bs.zero g)) w := by kernel_rfl
theorem bldL16 (w : World) (r0 r1 r2 r3 r4 r5 r6 r7 r8 r9 r10 r11 r12 r13 r14 r15 : Nat) : (Instr.build 27 #[(0, .agg (Bt.cellsB [r0, r1, r2, r3, r4, r5, r6, r7, r8, r9, r10, r11, r12, r13, r14, r15]))]).run Tryd.prog w = .ok (.agg (cellsQ [r0, r1, r2, r3, r4, r5, r6, r7, r8, r9, r10, r11, r12, r13, r14, r15] 0)) w := by kernel_rfl
theorem bldL (w : World) {r : List Nat} (hr : r.length = 16) : (Instr.build 27 #[(0, .agg (Bt.cellsB r))]).run Tryd.prog w = .ok (.agg (cellsQ r 0)) w := by
  match r, hr with
  | [r0, r1, r2, r3, r4, r5, r6, r7, r8, r9, r10, r11, r12, r13, r14, r15], _ => exact bldL16 ..
theorem wpList_bldG (w : World) (hg : Region.wanted o (yielded ops a.tmps) = true) (y : Operand) (hop : o.op = Op.build 27 #[(1, y)]) {g : Int} (hy : a.eval y = .int .i64 g)
    (hK : wpList Tryd.prog ops Q rest (a.put o.dst (.agg (cellsQ Bt.Bs.zero g))) w) : wpList Tryd.prog ops Q (o :: rest) a w := by
  refine Bt.wpList_want hg fun K' hK' => ?_
  have hrun := bldG w g
  unfold Oper.wp
  simp [execOp, hop, hy, hrun, Result.andThen]
  exact hK' _ _ hK
theorem wpList_bldL (w : World) (hg : Region.wanted o (yielded ops a.tmps) = true) (x : Operand) (hop : o.op = Op.build 27 #[(0, x)]) {r : List Nat} (hx : a.eval x = .agg (Bt.cellsB r)) (hr : r.length = 16)
    (hK : wpList Tryd.prog ops Q rest (a.put o.dst (.agg (cellsQ r 0))) w) : wpList Tryd.prog ops Q (o :: rest) a w := by
  refine Bt.wpList_want hg fun K' hK' => ?_
  have hrun := bldL w hr
  unfold Oper.wp
  simp [execOp, hop, hx, hrun, Result.andThen]
  exact hK' _ _ hK
theorem wpList_bldQ (w : World) (hg : Region.wanted o (yielded ops a.tmps) = true) (x y : Operand) (hop : o.op = Op.build 27 #[(0, x), (1, y)]) {r : List Nat} {g : Int} (hx : a.eval x = .agg (Bt.cellsB r)) (hy : a.eval y = .int .i64 g) (hr : r.length = 16)
    (hK : wpList Tryd.prog ops Q rest (a.put o.dst (.agg (cellsQ r g))) w) : wpList Tryd.prog ops Q (o :: rest) a w := by
  refine Bt.wpList_want hg fun K' hK' => ?_
  have hrun := buildQ w hr g
  unfold Oper.wp
  simp [execOp, hop, hx, hy, hrun, Result.andThen]
  exact hK' _ _ hK
theorem wpList_row1 (w : World) (hg : Region.wanted o (yielded ops a.tmps) = true) (x : Operand) (hop : o.op = Op.buildSlice 34 1 #[(0, x)]) {r : List Nat} {g : Int} (hx : a.eval x = .agg (cellsQ r g)) (hr : r.length = 16)
    (hK : wpList Tryd.prog ops Q rest (a.put o.dst (.slice (some ⟨w.heap.size, 0, none⟩) 1 1)) (w.alloc (.cells (cellsQs [(r, g)]) 27))) : wpList Tryd.prog ops Q (o :: rest) a w := by
  refine Bt.wpList_want hg fun K' hK' => ?_
  have hrun := bq1 w hr g
  unfold Oper.wp
  simp [execOp, hop, hx, hrun, Result.andThen]
  exact hK' _ _ hK
end
theorem seqs3_any (w : World) {q q2 : Nat} (h1 : Cl w q (cellsQs [(bw 3, 1)]) 27) (h2 : Cl w q2 (cellsQs [(bw 3, 1)]) 27) : Calls Tryd.prog 23 #[.slice (some ⟨q, 0, none⟩) 1 1, .slice (some ⟨q2, 0, none⟩) 1 1] w fun e w' => e = .returned (.bool true) ∧ Below w.heap.size w w' :=
  rseqs_row w (l := [(bw 3, 1)]) (fun s hs => by simp at hs; subst hs; rfl) (by decide) h1 h2
set_option maxRecDepth 100000 in
set_option maxHeartbeats 4000000 in
theorem heads9_any (w : World) (hZ : Bt.Tz w) : Calls Tryd.prog 7 #[] w fun e w' => e = .returned (.bool true) ∧ Below w.heap.size w w' := by
  have HZ := show Hid (Bt.Tz w) from hZ
  have KF := show Hid (Calls Tryd.prog 17 #[.slice (some ⟨w.heap.size, 0, none⟩) 6 6] (w.alloc (Obj.cells (cellsOf hT6).toArray 62)) fun e w' => ∃ B M v, e = .returned (.tuple #[.pointer (some ⟨B, 0, none⟩), .int .i64 0]) ∧ OH w w' B M v) from
    (from_any _ _ _ (h9rows w) hT6_good (by decide)).mono fun e w' h => by
      rw [h9fr] at h
      have hb : Below w.heap.size w w' := (below_alloc w _).trans (h.2.mono (below_alloc w _).size)
      rcases h.1 with ⟨_, B, M, v, he, hT, hge⟩ | ⟨h0, _⟩
      · exact ⟨B, M, v, he, hT, Bt.tz_block hZ hb, fun k hk => Nat.le_trans (by simp) (hge k hk), hb⟩
      · exact absurd rfl h0
  have KS := show Hid (∀ (W : World) (x y : Int), Calls Tryd.prog 19 #[.slice (some ⟨W.heap.size, 0, none⟩) 2 2] (W.alloc (.cells #[.int .i64 x, .int .i64 y] 3)) fun e w' => e = .returned (.agg (Bt.cellsB (Bt.ofR [x, y] Bt.Bs.zero).1)) ∧ Below W.heap.size W w') from fun W x y => (set_any _ _ _ (nuL2_is W x y)).mono fun e w' h => ⟨h.1, (below_alloc W _).trans (h.2.mono (below_alloc W _).size)⟩
  have KA := show Hid (∀ (W : World) (b m : Nat) (v : Value), OH w W b m v → Calls Tryd.prog 18 #[.pointer (some ⟨b, 0, none⟩), .agg (cellsQ (bw 9) 1)] W fun e w' => e = .returned (.tuple #[.int .i64 4, .int .i64 3, .int .i64 0]) ∧ Below W.heap.size W w') from fun W b m v h => by
    have := apply_any W h.tb h.tz (bw_ok 9 (by decide)) 1
    rw [h9r1, h9a1] at this
    exact this
  have KP := show Hid (∀ (W : World) (b m : Nat) (v : Value), OH w W b m v → Calls Tryd.prog 20 #[.pointer (some ⟨b, 0, none⟩), .agg (cellsQ (bw 9) 1), .int .i64 4, .int .i64 3] W fun e w' => ∃ q, e = .returned (.tuple #[.slice (some ⟨q, 0, none⟩) 1 1, .int .i64 0]) ∧ Cl w' q (cellsQs [(bw 3, 1)]) 27 ∧ ∃ v', OH w w' b m v') from fun W b m v h => by
    have := prem_any W h.tb h.tz (bw_ok 9 (by decide)) 1 4 3
    rw [h9p1] at this
    refine this.mono fun e w' ⟨sv, he, hs, ha⟩ => ?_
    rcases hs with ⟨h0, _⟩ | ⟨q, hq, hc⟩
    · cases h0
    · exact ⟨q, by rw [he, hq]; rfl, hc, h.after HZ.out ha⟩
  have KC := show Hid (∀ (W : World) (b m : Nat) (v : Value), OH w W b m v → Calls Tryd.prog 21 #[.pointer (some ⟨b, 0, none⟩), .agg (cellsQ Bt.Bs.zero 5)] W fun e w' => ∃ g1 c1 u1 g2 c2 u2, e = .returned (.tuple #[.slice (some ⟨g1, 0, none⟩) 2 c1, .slice (some ⟨g2, 0, none⟩) 2 c2, .int .i64 0]) ∧ (Cl w' g1 u1 35 ∧ u1[1]? = some (.int .i64 12) ∧ 2 ≤ c1) ∧ (Cl w' g2 u2 3 ∧ u2[0]? = some (.int .i64 5) ∧ 2 ≤ c2) ∧ Below W.heap.size W w') from fun W b m v h => by
    have := choices_any W h.tb h.tz Bt.Bs.zero_ok 5
    rw [h9r2, h9c2] at this
    refine this.mono fun e w' ⟨v1, v2, he, ho1, ho2, hb⟩ => ?_
    obtain ⟨g1, c1, u1, e1, hc1, _, hx1, hl1⟩ := own2 ho1
    obtain ⟨g2, c2, u2, e2, hc2, hx2, _, hl2⟩ := own2 ho2
    exact ⟨g1, c1, u1, g2, c2, u2, by rw [he, e1, e2], ⟨hc1, hx1, hl1⟩, ⟨hc2, hx2, hl2⟩, hb⟩
  have KI := show Hid (∀ (W : World) (b m : Nat) (v : Value), OH w W b m v → Calls Tryd.prog 22 #[.pointer (some ⟨b, 0, none⟩), .agg (cellsQ (bw 20) 0), .int .i64 1, .int .i64 2] W fun e w' => e = .returned (.tuple #[.bool true, .int .i64 0]) ∧ Below W.heap.size W w') from fun W b m v h => by
    have := fits_any W h.tb h.tz (bw_ok 20 (by decide)) 0 1 2
    rw [h9r3, h9f3] at this
    exact this
  have KJ := show Hid (∀ (W : World) (b m : Nat) (v : Value), OH w W b m v → Calls Tryd.prog 20 #[.pointer (some ⟨b, 0, none⟩), .agg (cellsQ Bt.Bs.zero 5), .int .i64 8, .int .i64 5] W fun e w' => ∃ p0, e = .returned (.tuple #[.slice p0 0 0, .int .i64 90]) ∧ After W b m v hT6 w') from fun W b m v h => by
    have := prem_any W h.tb h.tz Bt.Bs.zero_ok 5 8 5
    rw [h9p4] at this
    refine this.mono fun e w' ⟨sv, he, hs, ha⟩ => ?_
    rcases hs with ⟨_, h0⟩ | ⟨q, hq, _⟩
    · exact ⟨none, by rw [he, h0], ha⟩
    · exact ⟨some ⟨q, 0, none⟩, by rw [he, hq]; rfl, ha⟩
  have KO := show Hid (∀ (W : World) (b m : Nat) (v : Value), OH w W b m v → Calls Tryd.prog 18 #[.pointer (some ⟨b, 0, none⟩), .agg (cellsQ Bt.Bs.zero 6)] W fun e w' => e = .returned (.tuple #[.int .i64 0, .int .i64 0, .int .i64 31]) ∧ Below W.heap.size W w') from fun W b m v h => by
    have := apply_any W h.tb h.tz Bt.Bs.zero_ok 6
    rw [h9r5] at this
    exact this
  have KQ := show Hid _ from seqs3_any
  clear hZ
  go_enter Tryd.func7, Tryd.ntmps7
  go_wp2_with fail
  refine KF.out.mono ?_
  rintro e w1 ⟨b, m, v, rfl, hO1⟩
  clear KF
  have H1 := show Hid _ from hO1
  clear hO1
  go_wp2_with fail
  refine Calls.mono (KS.out w1 0 3) ?_
  rintro e w2 ⟨rfl, hb2⟩
  rw [h9s03]
  have H2 := show Hid _ from H1.out.later hb2
  clear H1 hb2
  go_wp2_with (refine wpList_bldQ _ rfl _ _ rfl rfl rfl rfl ?_)
  refine Calls.mono (KA.out _ _ _ _ H2.out) ?_
  rintro e w3 ⟨rfl, hb3⟩
  have H3 := show Hid _ from H2.out.later hb3
  clear H2 hb3 KA
  go_wp2_with fail
  refine Calls.mono (KS.out w3 0 3) ?_
  rintro e w4 ⟨rfl, hb4⟩
  rw [h9s03]
  have H4 := show Hid _ from H3.out.later hb4
  clear H3 hb4
  go_wp2_with (refine wpList_bldQ _ rfl _ _ rfl rfl rfl rfl ?_)
  refine Calls.mono (KP.out _ _ _ _ H4.out) ?_
  rintro e w5 ⟨q, rfl, hq5, v5, hO5⟩
  have H5 := show Hid (OH w w5 b m v5 ∧ Cl w5 q (cellsQs [(bw 3, 1)]) 27) from ⟨hO5, hq5⟩
  clear H4 hO5 hq5 KP
  go_wp2_with (refine wpList_bldG _ rfl _ rfl rfl ?_)
  refine Calls.mono (KC.out _ _ _ _ H5.out.1) ?_
  rintro e w6 ⟨g1, c1, u1, g2, c2, u2, rfl, ⟨hc61, hx1, hl1⟩, ⟨hc62, hx2, hl2⟩, hb6⟩
  have H6 := show Hid (OH w w6 b m v5 ∧ Cl w6 q (cellsQs [(bw 3, 1)]) 27 ∧ Cl w6 g1 u1 35 ∧ Cl w6 g2 u2 3) from ⟨H5.out.1.later hb6, H5.out.2.later hb6, hc61, hc62⟩
  clear H5 hc61 hc62 hb6 KC
  go_wp2_with fail
  refine Calls.mono (KS.out w6 2 4) ?_
  rintro e w7 ⟨rfl, hb7⟩
  rw [h9s24]
  have H7 := show Hid (OH w w7 b m v5 ∧ Cl w7 q (cellsQs [(bw 3, 1)]) 27 ∧ Cl w7 g1 u1 35 ∧ Cl w7 g2 u2 3) from ⟨H6.out.1.later hb7, H6.out.2.1.later hb7, H6.out.2.2.1.later hb7, H6.out.2.2.2.later hb7⟩
  clear H6 hb7
  go_wp2_with (refine wpList_bldL _ rfl _ rfl rfl rfl ?_)
  refine Calls.mono (KI.out _ _ _ _ H7.out.1) ?_
  rintro e w8 ⟨rfl, hb8⟩
  have H8 := show Hid (OH w w8 b m v5 ∧ Cl w8 q (cellsQs [(bw 3, 1)]) 27 ∧ Cl w8 g1 u1 35 ∧ Cl w8 g2 u2 3) from ⟨H7.out.1.later hb8, H7.out.2.1.later hb8, H7.out.2.2.1.later hb8, H7.out.2.2.2.later hb8⟩
  clear H7 hb8 KI
  go_wp2_with (refine wpList_bldG _ rfl _ rfl rfl ?_)
  refine Calls.mono (KJ.out _ _ _ _ H8.out.1) ?_
  rintro e w9 ⟨p0, rfl, hA9⟩
  obtain ⟨v9, hO9⟩ := H8.out.1.after HZ.out hA9
  have H9 := show Hid (OH w w9 b m v9 ∧ Cl w9 q (cellsQs [(bw 3, 1)]) 27 ∧ Cl w9 g1 u1 35 ∧ Cl w9 g2 u2 3) from ⟨hO9, H8.out.2.1.after H8.out.1.tb (by decide) (by decide) hA9, H8.out.2.2.1.after H8.out.1.tb (by decide) (by decide) hA9, H8.out.2.2.2.after H8.out.1.tb (by decide) (by decide) hA9⟩
  clear H8 hA9 hO9 KJ
  go_wp2_with (refine wpList_bldG _ rfl _ rfl rfl ?_)
  refine Calls.mono (KO.out _ _ _ _ H9.out.1) ?_
  rintro e w10 ⟨rfl, hb10⟩
  have H10 := show Hid (OH w w10 b m v9 ∧ Cl w10 q (cellsQs [(bw 3, 1)]) 27 ∧ Cl w10 g1 u1 35 ∧ Cl w10 g2 u2 3) from ⟨H9.out.1.later hb10, H9.out.2.1.later hb10, H9.out.2.2.1.later hb10, H9.out.2.2.2.later hb10⟩
  clear H9 hb10 KO
  go_wp2_with fail
  refine Calls.mono (KS.out w10 0 1) ?_
  rintro e w11 ⟨rfl, hb11⟩
  rw [h9s01]
  have H11 := show Hid (OH w w11 b m v9 ∧ Cl w11 q (cellsQs [(bw 3, 1)]) 27 ∧ Cl w11 g1 u1 35 ∧ Cl w11 g2 u2 3) from ⟨H10.out.1.later hb11, H10.out.2.1.later hb11, H10.out.2.2.1.later hb11, H10.out.2.2.2.later hb11⟩
  clear H10 hb11 KS
  go_wp2_with (first | (refine wpList_bldQ _ rfl _ _ rfl rfl rfl rfl ?_) | (refine wpList_row1 _ rfl _ rfl rfl rfl ?_))
  have hn12 := new_alloc w11 (cellsQs [(bw 3, 1)]) 27
  refine Calls.mono (KQ.out _ (H11.out.2.1.new hn12) hn12.blk) ?_
  rintro e w12 ⟨rfl, hb12⟩
  have d1 : w12.cell? ⟨g1, 1, none⟩ = some (.int .i64 12) := (((H11.out.2.2.1.new hn12).later hb12).cell 1).trans hx1
  have d2 : w12.cell? ⟨g2, 0, none⟩ = some (.int .i64 5) := (((H11.out.2.2.2.new hn12).later hb12).cell 0).trans hx2
  have HE := show Hid (Below w.heap.size w w12) from (bel_new H11.out.1.bel hn12).trans (hb12.mono (bel_new H11.out.1.bel hn12).size)
  clear hb12 hn12 H11 KQ
  go_wp2_with fail
  go_ret
  exact ⟨rfl, HE.out⟩
end Go.Proofs.YtpddfooeaecekaaDoor
