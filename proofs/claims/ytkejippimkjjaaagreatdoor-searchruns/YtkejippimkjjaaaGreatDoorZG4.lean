/-
  What is wrong with a table and a sequent: for every table that calls made and every sequent. No other condition than that the table of TrailingZeros stands. (Written by genzref.py.)
-/
import Derived.Test.YtkejippimkjjaaaGreatDoorZG1
import Derived.Test.YtkejippimkjjaaaGreatDoorFG3
import Derived.Test.YtkejippimkjjaaaGreatDoorBG3
import Derived.Test.YtkejippimkjjaaaGreatDoorZFind
namespace Go.Proofs.YtkejippimkjjaaaGreatDoor
open Go.RowKit Go.Shelf Go.Maps
open Fm (Nd)
open Bt.Bs (Ok wd)
set_option linter.unusedSimpArgs false

def refZ (t : List Nd) (r : List Nat) (g : Int) : Int := if (Bt.nextI r (t.length : Int)).isSome then 31 else if Fm.has t g then 0 else 31
structure RS1 (w W : World) (b : Nat) (r : List Nat) (g : Int) : Prop where
  s : SeqAt W b r g
  bel : Below w.heap.size w W
  ge : w.heap.size ≤ b
theorem RS1.later {w W W' : World} {b : Nat} {r : List Nat} {g : Int} (h : RS1 w W b r g) (hb : Below W.heap.size W W') : RS1 w W' b r g := ⟨h.s.later hb h.s.lt, h.bel.trans (hb.mono h.bel.size), h.ge⟩
theorem RS1.drew {w W : World} {b : Nat} {r : List Nat} {g : Int} (h : RS1 w W b r g) : RS1 w W.drew b r g := ⟨h.s, h.bel.drew, h.ge⟩
set_option maxRecDepth 100000 in
set_option maxHeartbeats 2000000 in
theorem refused_any (w0 : World) {b m : Nat} {v : Value} {t : List Nd} (hT : Tb w0 b m v t) (hZ : Bt.Tz w0) {r : List Nat} (hr : Ok r) (g : Int) : Calls Tryz.prog 26 #[.pointer (some ⟨b, 0, none⟩), .agg (cellsQ r g)] w0 fun e w' => e = .returned (.int .i64 (refZ t r g)) ∧ Below w0.heap.size w0 w' := by
  have hh : Fm.has t (-1) = false := by cases h : Fm.has t (-1); rfl; exact absurd (Fm.has_iff.1 h).1 (by omega)
  have KB := show Hid (∀ w', Below w0.heap.size w0 w' → Calls Tryz.prog 43 #[.pointer (some ⟨b, 0, none⟩), .int .i64 (-1)] w' fun e w'' => ∃ v', e = .returned (.tuple #[v', .int .i64 31]) ∧ Below w'.heap.size w' w'') from fun w' h => (below_any w' (hT.later h) (-1)).mono fun e w'' ⟨v', he, _, hb⟩ => ⟨v', by rw [he]; unfold belowR; rw [hh]; rfl, hb⟩
  have KN := show Hid (∀ w' x, Below w0.heap.size w0 w' → Calls Tryz.prog 45 #[.pointer (some ⟨b, 0, none⟩), .int .i64 x] w' fun e w'' => e = .returned (.tuple #[ndV (nodeOf t x), .bool (Fm.has t x)]) ∧ Below w'.heap.size w' w'') from fun w' x h => node_any w' (hT.later h) x
  have HT := show Hid (∀ w', Below w0.heap.size w0 w' → Tb w' b m v t) from fun w' h => hT.later h
  have HN := show Hid (∀ w', Below w0.heap.size w0 w' → Calls Tryz.prog 44 #[.agg (Bt.cellsB r), .int .i64 (t.length : Int)] w' fun e w'' => e = .returned (Bt.nextV (Bt.nextI r (t.length : Int))) ∧ Below w'.heap.size w' w'') from fun w' h => (Bt.next_any w' (Bt.tz_block hZ h) hr (t.length : Int) (by have := hT.ok.len; omega)).mono fun e w'' ⟨he, hw⟩ => ⟨he, by rw [hw]; exact below_alloc _ _⟩
  have HQ := show Hid (refZ t r g = if (Bt.nextI r (t.length : Int)).isSome then 31 else if Fm.has t g then 0 else 31) from rfl
  clear hT hh hZ
  generalize refZ t r g = rq at *
  go_enter Tryz.func26, Tryz.ntmps26
  go_wp2_with (refine wpList_box _ _ rfl _ rfl rfl ?_)
  intro w1 b3 hn1
  have H1 := show Hid (RS1 w0 w1 b3 r g) from ⟨hn1.blk, hn1.bel, hn1.ge⟩
  clear hn1
  go_wp2_with fail
  refine Calls.mono (KB.out w1 H1.out.bel) ?_
  rintro e w2 ⟨v', rfl, hb2⟩
  have H2 := show Hid _ from H1.out.later hb2
  clear H1 hb2 KB
  go_wp2_with fail
  cases hx : Bt.nextI r (t.length : Int) with
  | none =>
    rw [hx] at HN HQ
    simp only [Option.isSome_none, Bool.false_eq_true, if_false] at HQ
    simp only [Bt.nextV] at HN
    refine wp_region_rel (by kernel_rfl) [some 19, some 20, some 21, some 22, some 23, some 18, some 24, some 25, some 7, some 8] [[], [0], [], [2], [1, 3], [4], [5], [5], [6], [7]] (by kernel_rfl) (fun i v w => match i with | 0 => v = .pointer (some ⟨b3, 0, none⟩) | 1 => v = .agg (Bt.cellsB r) | 2 => v = .pointer (some ⟨b, 0, none⟩) | 3 => v = .int .i64 (t.length : Int) | 4 => v = .tuple #[.int .i64 0, .bool false] | 5 => v = .tuple #[.int .i64 0, .bool false] | 6 => v = .int .i64 0 | 7 => v = .bool false | 8 => v = .int .i64 0 | 9 => v = .bool false | _ => True) (fun _ W => RS1 w0 W b3 r g) (fun _ _ => True) ?hle (H2.out.drew) (allLt 10 ?steps) ?fin
    case hle =>
      intro i v w w1 hl h
      match i, h with
      | 0, h => exact h
      | 1, h => exact h
      | 2, h => exact h
      | 3, h => exact h
      | 4, h => exact h
      | 5, h => exact h
      | 6, h => exact h
      | 7, h => exact h
      | 8, h => exact h
      | 9, h => exact h
      | _ + 10, h => trivial
    case steps =>
      refine ⟨⟨⟨⟨⟨⟨⟨⟨⟨⟨trivial, ?s0⟩, ?s1⟩, ?s2⟩, ?s3⟩, ?s4⟩, ?s5⟩, ?s6⟩, ?s7⟩, ?s8⟩, ?s9⟩
      case s0 =>
        intro done a w hS h0 hd hn hO hN
        have o3 : a.tmps[3]? = some (.pointer (some ⟨b3, 0, none⟩)) := (hO.out 3 (by decide)).trans rfl
        refine relVal rfl (.pointer (some ⟨b3, 0, none⟩)) w rfl (by go_simp) ⟨_, rfl, rfl, by simpa [h0] using hS, trivial⟩
      case s1 =>
        intro done a w hS h0 hd hn hO hN
        obtain ⟨v0, g0, r0⟩ := hN 0 (by decide)
        have g0 : a.tmps[19]? = some v0 := g0
        obtain rfl : v0 = .pointer (some ⟨b3, 0, none⟩) := r0
        have hl := loadQ w b3 hS.s hr.1
        refine relVal rfl (.agg (Bt.cellsB r)) w rfl (by simp [execOp, Act.eval, g0, hl, Result.andThen]) ⟨_, rfl, rfl, by simpa [h0] using hS, trivial⟩
      case s2 =>
        intro done a w hS h0 hd hn hO hN
        have o0 : a.tmps[0]? = some (.pointer (some ⟨b, 0, none⟩)) := (hO.out 0 (by decide)).trans rfl
        refine relVal rfl (.pointer (some ⟨b, 0, none⟩)) w rfl (by go_simp) ⟨_, rfl, rfl, by simpa [h0] using hS, trivial⟩
      case s3 =>
        intro done a w hS h0 hd hn hO hN
        obtain ⟨v2, g2, r2⟩ := hN 2 (by decide)
        have g2 : a.tmps[21]? = some v2 := g2
        obtain rfl : v2 = .pointer (some ⟨b, 0, none⟩) := r2
        refine relCallF rfl rfl 14 [.tmp 21] #[28] rfl [.pointer (some ⟨b, 0, none⟩)] (by simp [Act.eval, g2]) (enters_of Tryz.func14 (by kernel_rfl) rfl) (Calls.mono (len_any w (HT.out w hS.bel)) ?_)
        rintro e w1 ⟨rfl, rfl⟩
        exact ⟨_, rfl, _, rfl, rfl, hS, trivial⟩
      case s4 =>
        intro done a w hS h0 hd hn hO hN
        obtain ⟨v1, g1, r1⟩ := hN 1 (by decide)
        have g1 : a.tmps[20]? = some v1 := g1
        obtain rfl : v1 = .agg (Bt.cellsB r) := r1
        obtain ⟨v3, g3, r3⟩ := hN 3 (by decide)
        have g3 : a.tmps[22]? = some v3 := g3
        obtain rfl : v3 = .int .i64 (t.length : Int) := r3
        refine relCallF rfl rfl 44 [.tmp 20, .tmp 22] #[25, 3] rfl [.agg (Bt.cellsB r), .int .i64 (t.length : Int)] (by simp [Act.eval, g1, g3]) (enters_of Tryz.func44 (by kernel_rfl) rfl) (Calls.mono (HN.out w hS.bel) ?_)
        rintro e w1 ⟨rfl, hb⟩
        exact ⟨_, rfl, _, rfl, rfl, hS.later hb, trivial⟩
      case s5 =>
        intro done a w hS h0 hd hn hO hN
        obtain ⟨v4, g4, r4⟩ := hN 4 (by decide)
        have g4 : a.tmps[23]? = some v4 := g4
        obtain rfl : v4 = .tuple #[.int .i64 0, .bool false] := r4
        refine relVal rfl (.tuple #[.int .i64 0, .bool false]) w rfl (by go_simp) ⟨_, rfl, rfl, by simpa [h0] using hS, trivial⟩
      case s6 =>
        intro done a w hS h0 hd hn hO hN
        obtain ⟨v5, g5, r5⟩ := hN 5 (by decide)
        have g5 : a.tmps[18]? = some v5 := g5
        obtain rfl : v5 = .tuple #[.int .i64 0, .bool false] := r5
        refine relVal rfl (.int .i64 0) w rfl (by go_simp) ⟨_, rfl, rfl, by simpa [h0] using hS, trivial⟩
      case s7 =>
        intro done a w hS h0 hd hn hO hN
        obtain ⟨v5, g5, r5⟩ := hN 5 (by decide)
        have g5 : a.tmps[18]? = some v5 := g5
        obtain rfl : v5 = .tuple #[.int .i64 0, .bool false] := r5
        refine relVal rfl (.bool false) w rfl (by go_simp) ⟨_, rfl, rfl, by simpa [h0] using hS, trivial⟩
      case s8 =>
        intro done a w hS h0 hd hn hO hN
        obtain ⟨v6, g6, r6⟩ := hN 6 (by decide)
        have g6 : a.tmps[24]? = some v6 := g6
        obtain rfl : v6 = .int .i64 0 := r6
        refine relVal rfl (.int .i64 0) w rfl (by go_simp) ⟨_, rfl, rfl, by simpa [h0] using hS, trivial⟩
      case s9 =>
        intro done a w hS h0 hd hn hO hN
        obtain ⟨v7, g7, r7⟩ := hN 7 (by decide)
        have g7 : a.tmps[25]? = some v7 := g7
        obtain rfl : v7 = .bool false := r7
        refine relVal rfl (.bool false) w rfl (by go_simp) ⟨_, rfl, rfl, by simpa [h0] using hS, trivial⟩
    case fin =>
      intro vs done w hdone hS hR
      simp only [putAll, Act.put, List.setIfInBounds_toArray, List.set_cons_zero, List.set_cons_succ]
      have hR7 : vs 8 = .int .i64 0 := hR 8 (by decide)
      have hR8 : vs 9 = .bool false := hR 9 (by decide)
      rw [hR7, hR8]
      have HZ := show Hid (RS1 w0 w b3 r g) from hS
      have cg := hS.s.goal hr.1
      have KX := show Hid _ from KN.out w g hS.bel
      clear hS hR hdone hR7 hR8 KN HN HT H2
      cases hg : Fm.has t g
      · rw [hg] at KX HQ
        simp only [Bool.false_eq_true, if_false] at HQ
        obtain rfl := HQ.out
        go_wp2_with fail
        refine Calls.mono KX.out ?_
        rintro e w3 ⟨rfl, hb3⟩
        have H3 := show Hid _ from HZ.out.later hb3
        clear HZ hb3 KX HQ cg
        generalize nodeOf t g = n2
        unfold ndV
        go_wp2_with (refine wpList_alloc _ rfl _ zeroN rfl ?_)
        intro w4 b4 hn4
        go_wp2_with (refine wpList_st _ rfl rfl _ _ rfl _ rfl _ rfl _ _ hn4.blk sizeN rfl (by simp [Value.oneCell']) ?_)
        intro w5 hc5 hk5
        go_wp2_with fail
        go_ret
        exact ⟨rfl, bel_kp (bel_new H3.out.bel hn4) hk5 (by have := H3.out.bel.size; have := hn4.ge; omega)⟩
      · rw [hg] at KX HQ
        simp only [if_true] at HQ
        obtain rfl := HQ.out
        go_wp2_with fail
        refine Calls.mono KX.out ?_
        rintro e w3 ⟨rfl, hb3⟩
        have H3 := show Hid _ from HZ.out.later hb3
        clear HZ hb3 KX HQ cg
        generalize nodeOf t g = n2
        unfold ndV
        go_wp2_with (refine wpList_alloc _ rfl _ zeroN rfl ?_)
        intro w4 b4 hn4
        go_wp2_with (refine wpList_st _ rfl rfl _ _ rfl _ rfl _ rfl _ _ hn4.blk sizeN rfl (by simp [Value.oneCell']) ?_)
        intro w5 hc5 hk5
        go_wp2_with fail
        go_ret
        exact ⟨rfl, bel_kp (bel_new H3.out.bel hn4) hk5 (by have := H3.out.bel.size; have := hn4.ge; omega)⟩
  | some x =>
    rw [hx] at HN HQ
    simp only [Option.isSome_some, if_true] at HQ
    simp only [Bt.nextV] at HN
    refine wp_region_rel (by kernel_rfl) [some 19, some 20, some 21, some 22, some 23, some 18, some 24, some 25, some 7, some 8] [[], [0], [], [2], [1, 3], [4], [5], [5], [6], [7]] (by kernel_rfl) (fun i v w => match i with | 0 => v = .pointer (some ⟨b3, 0, none⟩) | 1 => v = .agg (Bt.cellsB r) | 2 => v = .pointer (some ⟨b, 0, none⟩) | 3 => v = .int .i64 (t.length : Int) | 4 => v = .tuple #[.int .i64 (x : Int), .bool true] | 5 => v = .tuple #[.int .i64 (x : Int), .bool true] | 6 => v = .int .i64 (x : Int) | 7 => v = .bool true | 8 => v = .int .i64 (x : Int) | 9 => v = .bool true | _ => True) (fun _ W => RS1 w0 W b3 r g) (fun _ _ => True) ?hle (H2.out.drew) (allLt 10 ?steps) ?fin
    case hle =>
      intro i v w w1 hl h
      match i, h with
      | 0, h => exact h
      | 1, h => exact h
      | 2, h => exact h
      | 3, h => exact h
      | 4, h => exact h
      | 5, h => exact h
      | 6, h => exact h
      | 7, h => exact h
      | 8, h => exact h
      | 9, h => exact h
      | _ + 10, h => trivial
    case steps =>
      refine ⟨⟨⟨⟨⟨⟨⟨⟨⟨⟨trivial, ?s0⟩, ?s1⟩, ?s2⟩, ?s3⟩, ?s4⟩, ?s5⟩, ?s6⟩, ?s7⟩, ?s8⟩, ?s9⟩
      case s0 =>
        intro done a w hS h0 hd hn hO hN
        have o3 : a.tmps[3]? = some (.pointer (some ⟨b3, 0, none⟩)) := (hO.out 3 (by decide)).trans rfl
        refine relVal rfl (.pointer (some ⟨b3, 0, none⟩)) w rfl (by go_simp) ⟨_, rfl, rfl, by simpa [h0] using hS, trivial⟩
      case s1 =>
        intro done a w hS h0 hd hn hO hN
        obtain ⟨v0, g0, r0⟩ := hN 0 (by decide)
        have g0 : a.tmps[19]? = some v0 := g0
        obtain rfl : v0 = .pointer (some ⟨b3, 0, none⟩) := r0
        have hl := loadQ w b3 hS.s hr.1
        refine relVal rfl (.agg (Bt.cellsB r)) w rfl (by simp [execOp, Act.eval, g0, hl, Result.andThen]) ⟨_, rfl, rfl, by simpa [h0] using hS, trivial⟩
      case s2 =>
        intro done a w hS h0 hd hn hO hN
        have o0 : a.tmps[0]? = some (.pointer (some ⟨b, 0, none⟩)) := (hO.out 0 (by decide)).trans rfl
        refine relVal rfl (.pointer (some ⟨b, 0, none⟩)) w rfl (by go_simp) ⟨_, rfl, rfl, by simpa [h0] using hS, trivial⟩
      case s3 =>
        intro done a w hS h0 hd hn hO hN
        obtain ⟨v2, g2, r2⟩ := hN 2 (by decide)
        have g2 : a.tmps[21]? = some v2 := g2
        obtain rfl : v2 = .pointer (some ⟨b, 0, none⟩) := r2
        refine relCallF rfl rfl 14 [.tmp 21] #[28] rfl [.pointer (some ⟨b, 0, none⟩)] (by simp [Act.eval, g2]) (enters_of Tryz.func14 (by kernel_rfl) rfl) (Calls.mono (len_any w (HT.out w hS.bel)) ?_)
        rintro e w1 ⟨rfl, rfl⟩
        exact ⟨_, rfl, _, rfl, rfl, hS, trivial⟩
      case s4 =>
        intro done a w hS h0 hd hn hO hN
        obtain ⟨v1, g1, r1⟩ := hN 1 (by decide)
        have g1 : a.tmps[20]? = some v1 := g1
        obtain rfl : v1 = .agg (Bt.cellsB r) := r1
        obtain ⟨v3, g3, r3⟩ := hN 3 (by decide)
        have g3 : a.tmps[22]? = some v3 := g3
        obtain rfl : v3 = .int .i64 (t.length : Int) := r3
        refine relCallF rfl rfl 44 [.tmp 20, .tmp 22] #[25, 3] rfl [.agg (Bt.cellsB r), .int .i64 (t.length : Int)] (by simp [Act.eval, g1, g3]) (enters_of Tryz.func44 (by kernel_rfl) rfl) (Calls.mono (HN.out w hS.bel) ?_)
        rintro e w1 ⟨rfl, hb⟩
        exact ⟨_, rfl, _, rfl, rfl, hS.later hb, trivial⟩
      case s5 =>
        intro done a w hS h0 hd hn hO hN
        obtain ⟨v4, g4, r4⟩ := hN 4 (by decide)
        have g4 : a.tmps[23]? = some v4 := g4
        obtain rfl : v4 = .tuple #[.int .i64 (x : Int), .bool true] := r4
        refine relVal rfl (.tuple #[.int .i64 (x : Int), .bool true]) w rfl (by go_simp) ⟨_, rfl, rfl, by simpa [h0] using hS, trivial⟩
      case s6 =>
        intro done a w hS h0 hd hn hO hN
        obtain ⟨v5, g5, r5⟩ := hN 5 (by decide)
        have g5 : a.tmps[18]? = some v5 := g5
        obtain rfl : v5 = .tuple #[.int .i64 (x : Int), .bool true] := r5
        refine relVal rfl (.int .i64 (x : Int)) w rfl (by go_simp) ⟨_, rfl, rfl, by simpa [h0] using hS, trivial⟩
      case s7 =>
        intro done a w hS h0 hd hn hO hN
        obtain ⟨v5, g5, r5⟩ := hN 5 (by decide)
        have g5 : a.tmps[18]? = some v5 := g5
        obtain rfl : v5 = .tuple #[.int .i64 (x : Int), .bool true] := r5
        refine relVal rfl (.bool true) w rfl (by go_simp) ⟨_, rfl, rfl, by simpa [h0] using hS, trivial⟩
      case s8 =>
        intro done a w hS h0 hd hn hO hN
        obtain ⟨v6, g6, r6⟩ := hN 6 (by decide)
        have g6 : a.tmps[24]? = some v6 := g6
        obtain rfl : v6 = .int .i64 (x : Int) := r6
        refine relVal rfl (.int .i64 (x : Int)) w rfl (by go_simp) ⟨_, rfl, rfl, by simpa [h0] using hS, trivial⟩
      case s9 =>
        intro done a w hS h0 hd hn hO hN
        obtain ⟨v7, g7, r7⟩ := hN 7 (by decide)
        have g7 : a.tmps[25]? = some v7 := g7
        obtain rfl : v7 = .bool true := r7
        refine relVal rfl (.bool true) w rfl (by go_simp) ⟨_, rfl, rfl, by simpa [h0] using hS, trivial⟩
    case fin =>
      intro vs done w hdone hS hR
      simp only [putAll, Act.put, List.setIfInBounds_toArray, List.set_cons_zero, List.set_cons_succ]
      have hR7 : vs 8 = .int .i64 (x : Int) := hR 8 (by decide)
      have hR8 : vs 9 = .bool true := hR 9 (by decide)
      rw [hR7, hR8]
      have HZ := show Hid (RS1 w0 w b3 r g) from hS
      clear hS hR hdone hR7 hR8 KN HN HT H2
      obtain rfl := HQ.out
      go_wp2_with fail
      go_ret
      exact ⟨rfl, HZ.out.bel⟩
end Go.Proofs.YtkejippimkjjaaaGreatDoor
/-
  What the call Fits wants (stage 11's places have no such call). No condition.
-/
namespace Go.Proofs.YtkejippimkjjaaaGreatDoor
open Go.RowKit Go.Shelf Go.Maps
open Fm (Nd)
open Bt.Bs (Ok wd)
set_option linter.unusedSimpArgs false

theorem c3_or {c : Bool} {x : T3} : (if c = true then (c3 x).toArray else zT).size = 3 ∧ (if c = true then (c3 x).toArray else zT).all (·.oneCell') = true := by
  cases c
  · exact ⟨rfl, zT_all⟩
  · exact ⟨rfl, c3_all x⟩
end Go.Proofs.YtkejippimkjjaaaGreatDoor
