/-
  The law's call rules and the document's call Ints, of two rows of the same numbers. No other condition than that a machine can hold them. (Written by genzreq.py.)
-/
import Derived.Test.YtpddfooeaecekaaGreatDoorZH1
import Derived.Test.YtpddfooeaecekaaGreatDoorZRcho
import Derived.Test.YtpddfooeaecekaaGreatDoorZLX
namespace Go.Proofs.YtpddfooeaecekaaGreatDoor
open Go.RowKit Go.Shelf Go.Maps
set_option linter.unusedSimpArgs false

set_option maxRecDepth 100000 in
set_option maxHeartbeats 1000000 in
theorem rrules_zero (w : World) (p p2 : Option Addr) (c c2 : Nat) : Calls Tryz.prog 13 #[.slice p 0 c, .slice p2 0 c2] w fun e w' => e = .returned (.bool true) ∧ Below w.heap.size w w' := by
  go_enter Tryz.func13, Tryz.ntmps13
  go_wp2_with fail
  go_loopw [5] (fun v wr => v = .int .i64 0 ∧ wr = w) (fun _ _ => 0)
  case atStart => exact ⟨rfl, rfl⟩
  case round =>
    obtain ⟨rfl, rfl⟩ := hrel
    go_wp2_with fail
    go_ret
    exact ⟨rfl, Below.refl _ _⟩
set_option maxRecDepth 100000 in
set_option maxHeartbeats 2000000 in
theorem rrules_any (w0 : World) {v1 v2 : Value} {xs : List Int} (h1 : Bt.IsL w0 v1 xs) (h2 : Bt.IsL w0 v2 xs) (hn : xs.length ≤ 1000000) :
    Calls Tryz.prog 13 #[v1, v2] w0 fun e w' => e = .returned (.bool true) ∧ Below w0.heap.size w0 w' := by
  obtain ⟨p1, c1, rfl, k1, hc1⟩ := h1
  obtain ⟨p2, c2, rfl, k2, hc2⟩ := h2
  by_cases h0 : xs.length = 0
  · rw [h0]
    exact rrules_zero w0 _ _ _ _
  obtain ⟨b1, o1, hp1, -⟩ := hc1 0 (by omega)
  obtain ⟨b2, o2, hp2, -⟩ := hc2 0 (by omega)
  subst hp1
  subst hp2
  have HL := show Hid (∀ j, j < xs.length → ∃ x : Int, ∀ (W : World), Below w0.heap.size w0 W → W.cell? ⟨b1, o1 + j, none⟩ = some (.int .i64 x) ∧ W.cell? ⟨b2, o2 + j, none⟩ = some (.int .i64 x)) from fun j hj => ⟨xs[j], fun W hb => by
    obtain ⟨b, o, hp, hc⟩ := hc1 j hj
    obtain ⟨b', o', hp', hc'⟩ := hc2 j hj
    cases hp
    cases hp'
    exact ⟨(hb.cell (p := ⟨b1, _, none⟩) (World.block_lt_of_cell? w0 _ hc)).trans hc, (hb.cell (p := ⟨b2, _, none⟩) (World.block_lt_of_cell? w0 _ hc')).trans hc'⟩⟩
  clear hc1 hc2 h0
  generalize xs.length = n at *
  go_enter Tryz.func13, Tryz.ntmps13
  go_wp2_with fail
  go_loopw [5] (fun v wr => ∃ i : Nat, i ≤ n ∧ v = .int .i64 (i : Int) ∧ Hid (Below w0.heap.size w0 wr)) (fun v _ => n - (intOf v).toNat)
  case atStart => exact ⟨0, by omega, rfl, Below.refl _ _⟩
  case round =>
    obtain ⟨jx, hi, rfl, HQ⟩ := hrel
    by_cases hlt : jx < n
    · have hltI : (jx : Int) < (n : Int) := by omega
      obtain ⟨x, hx⟩ := HL.out jx hlt
      have HX := show Hid _ from hx
      clear hx
      clear HL
      go_wp2_with fail
      refine wp_region_rel (by kernel_rfl) [some 17, some 18, some 19, some 20, some 21, some 22, some 23, some 24, some 25] [[], [], [0, 1], [2], [], [], [4, 5], [6], [3, 7]] (by kernel_rfl) (fun i v w => match i with | 0 => v = .slice (some ⟨b1, o1, none⟩) n c1 | 1 => v = .int .i64 (jx : Int) | 2 => v = .pointer (some ⟨b1, o1 + jx, none⟩) | 3 => v = .int .i64 x | 4 => v = .slice (some ⟨b2, o2, none⟩) n c2 | 5 => v = .int .i64 (jx : Int) | 6 => v = .pointer (some ⟨b2, o2 + jx, none⟩) | 7 => v = .int .i64 x | 8 => v = .bool false | _ => True) (fun _ W => Below w0.heap.size w0 W) (fun _ _ => True) ?hle (HQ.out.drew) (allLt 9 ?steps) ?fin
      case hle =>
        intro i v w w1 hl h
        match i, h with
        | 0, h => exact h
        | 1, h => exact h
        | 2, h => exact h
        | 3, h => exact h
        | 4, h => exact h
        | 5, h => exact h
        | 6, h => exact h
        | 7, h => exact h
        | 8, h => exact h
        | _ + 9, h => trivial
      case steps =>
        refine ⟨⟨⟨⟨⟨⟨⟨⟨⟨trivial, ?s0⟩, ?s1⟩, ?s2⟩, ?s3⟩, ?s4⟩, ?s5⟩, ?s6⟩, ?s7⟩, ?s8⟩
        case s0 =>
          intro done a w hS h0 hd hn hO hN
          have o0 : a.tmps[0]? = some (.slice (some ⟨b1, o1, none⟩) n c1) := (hO.out 0 (by decide)).trans rfl
          refine relVal rfl (.slice (some ⟨b1, o1, none⟩) n c1) w rfl (by go_simp) ⟨_, rfl, rfl, by simpa [h0] using hS, trivial⟩
        case s1 =>
          intro done a w hS h0 hd hn hO hN
          have o5 : a.tmps[5]? = some (.int .i64 (jx : Int)) := (hO.out 5 (by decide)).trans rfl
          refine relVal rfl (.int .i64 (jx : Int)) w rfl (by go_simp) ⟨_, rfl, rfl, by simpa [h0] using hS, trivial⟩
        case s2 =>
          intro done a w hS h0 hd hn hO hN
          obtain ⟨v0, g0, r0⟩ := hN 0 (by decide)
          have g0 : a.tmps[17]? = some v0 := g0
          obtain rfl : v0 = .slice (some ⟨b1, o1, none⟩) n c1 := r0
          obtain ⟨v1, g1, r1⟩ := hN 1 (by decide)
          have g1 : a.tmps[18]? = some v1 := g1
          obtain rfl : v1 = .int .i64 (jx : Int) := r1
          refine relVal rfl (.pointer (some ⟨b1, o1 + jx, none⟩)) w rfl (by go_simp) ⟨_, rfl, rfl, by simpa [h0] using hS, trivial⟩
        case s3 =>
          intro done a w hS h0 hd hn hO hN
          obtain ⟨v2, g2, r2⟩ := hN 2 (by decide)
          have g2 : a.tmps[19]? = some v2 := g2
          obtain rfl : v2 = .pointer (some ⟨b1, o1 + jx, none⟩) := r2
          have hc : w.cell? ⟨b1, o1 + jx, none⟩ = some (.int .i64 x) := (HX.out w hS).1
          refine relVal rfl (.int .i64 x) w rfl (by go_simp) ⟨_, rfl, rfl, by simpa [h0] using hS, trivial⟩
        case s4 =>
          intro done a w hS h0 hd hn hO hN
          have o1 : a.tmps[1]? = some (.slice (some ⟨b2, o2, none⟩) n c2) := (hO.out 1 (by decide)).trans rfl
          refine relVal rfl (.slice (some ⟨b2, o2, none⟩) n c2) w rfl (by go_simp) ⟨_, rfl, rfl, by simpa [h0] using hS, trivial⟩
        case s5 =>
          intro done a w hS h0 hd hn hO hN
          have o5 : a.tmps[5]? = some (.int .i64 (jx : Int)) := (hO.out 5 (by decide)).trans rfl
          refine relVal rfl (.int .i64 (jx : Int)) w rfl (by go_simp) ⟨_, rfl, rfl, by simpa [h0] using hS, trivial⟩
        case s6 =>
          intro done a w hS h0 hd hn hO hN
          obtain ⟨v4, g4, r4⟩ := hN 4 (by decide)
          have g4 : a.tmps[21]? = some v4 := g4
          obtain rfl : v4 = .slice (some ⟨b2, o2, none⟩) n c2 := r4
          obtain ⟨v5, g5, r5⟩ := hN 5 (by decide)
          have g5 : a.tmps[22]? = some v5 := g5
          obtain rfl : v5 = .int .i64 (jx : Int) := r5
          refine relVal rfl (.pointer (some ⟨b2, o2 + jx, none⟩)) w rfl (by go_simp) ⟨_, rfl, rfl, by simpa [h0] using hS, trivial⟩
        case s7 =>
          intro done a w hS h0 hd hn hO hN
          obtain ⟨v6, g6, r6⟩ := hN 6 (by decide)
          have g6 : a.tmps[23]? = some v6 := g6
          obtain rfl : v6 = .pointer (some ⟨b2, o2 + jx, none⟩) := r6
          have hc : w.cell? ⟨b2, o2 + jx, none⟩ = some (.int .i64 x) := (HX.out w hS).2
          refine relVal rfl (.int .i64 x) w rfl (by go_simp) ⟨_, rfl, rfl, by simpa [h0] using hS, trivial⟩
        case s8 =>
          intro done a w hS h0 hd hn hO hN
          obtain ⟨v3, g3, r3⟩ := hN 3 (by decide)
          have g3 : a.tmps[20]? = some v3 := g3
          obtain rfl : v3 = .int .i64 x := r3
          obtain ⟨v7, g7, r7⟩ := hN 7 (by decide)
          have g7 : a.tmps[24]? = some v7 := g7
          obtain rfl : v7 = .int .i64 x := r7
          refine relVal rfl (.bool false) w rfl (by go_simp) ⟨_, rfl, rfl, by simpa [h0] using hS, trivial⟩
      case fin =>
        intro vs done w hdone hS hR
        have e8 : vs 8 = .bool false := hR 8 (by decide)
        have HS := show Hid (Below w0.heap.size w0 w) from hS
        simp only [putAll, Act.put, List.setIfInBounds_toArray, List.set_cons_zero, List.set_cons_succ, e8]
        clear hS hR hdone e8
        generalize vs 0 = x0, vs 1 = x1, vs 2 = x2, vs 3 = x3, vs 4 = x4, vs 5 = x5, vs 6 = x6, vs 7 = x7
        go_wp2_with fail
        go_roundw
        case rel => exact ⟨jx + 1, by omega, by go_num, HS⟩
        case measure => first | (simp [intOf]; done) | (simp [intOf]; omega)
    · have hge : ¬ (jx : Int) < (n : Int) := by omega
      go_wp2_with fail
      go_ret
      exact ⟨rfl, HQ.out⟩
set_option maxRecDepth 100000 in
set_option maxHeartbeats 1000000 in
theorem rints_zero (w : World) (p p2 : Option Addr) (c c2 : Nat) : Calls Tryz.prog 14 #[.slice p 0 c, .slice p2 0 c2] w fun e w' => e = .returned (.bool true) ∧ Below w.heap.size w w' := by
  go_enter Tryz.func14, Tryz.ntmps14
  go_wp2_with fail
  go_loopw [5] (fun v wr => v = .int .i64 0 ∧ wr = w) (fun _ _ => 0)
  case atStart => exact ⟨rfl, rfl⟩
  case round =>
    obtain ⟨rfl, rfl⟩ := hrel
    go_wp2_with fail
    go_ret
    exact ⟨rfl, Below.refl _ _⟩
set_option maxRecDepth 100000 in
set_option maxHeartbeats 2000000 in
theorem rints_any (w0 : World) {v1 v2 : Value} {xs : List Int} (h1 : Bt.IsL w0 v1 xs) (h2 : Bt.IsL w0 v2 xs) (hn : xs.length ≤ 1000000) :
    Calls Tryz.prog 14 #[v1, v2] w0 fun e w' => e = .returned (.bool true) ∧ Below w0.heap.size w0 w' := by
  obtain ⟨p1, c1, rfl, k1, hc1⟩ := h1
  obtain ⟨p2, c2, rfl, k2, hc2⟩ := h2
  by_cases h0 : xs.length = 0
  · rw [h0]
    exact rints_zero w0 _ _ _ _
  obtain ⟨b1, o1, hp1, -⟩ := hc1 0 (by omega)
  obtain ⟨b2, o2, hp2, -⟩ := hc2 0 (by omega)
  subst hp1
  subst hp2
  have HL := show Hid (∀ j, j < xs.length → ∃ x : Int, ∀ (W : World), Below w0.heap.size w0 W → W.cell? ⟨b1, o1 + j, none⟩ = some (.int .i64 x) ∧ W.cell? ⟨b2, o2 + j, none⟩ = some (.int .i64 x)) from fun j hj => ⟨xs[j], fun W hb => by
    obtain ⟨b, o, hp, hc⟩ := hc1 j hj
    obtain ⟨b', o', hp', hc'⟩ := hc2 j hj
    cases hp
    cases hp'
    exact ⟨(hb.cell (p := ⟨b1, _, none⟩) (World.block_lt_of_cell? w0 _ hc)).trans hc, (hb.cell (p := ⟨b2, _, none⟩) (World.block_lt_of_cell? w0 _ hc')).trans hc'⟩⟩
  clear hc1 hc2 h0
  generalize xs.length = n at *
  go_enter Tryz.func14, Tryz.ntmps14
  go_wp2_with fail
  go_loopw [5] (fun v wr => ∃ i : Nat, i ≤ n ∧ v = .int .i64 (i : Int) ∧ Hid (Below w0.heap.size w0 wr)) (fun v _ => n - (intOf v).toNat)
  case atStart => exact ⟨0, by omega, rfl, Below.refl _ _⟩
  case round =>
    obtain ⟨jx, hi, rfl, HQ⟩ := hrel
    by_cases hlt : jx < n
    · have hltI : (jx : Int) < (n : Int) := by omega
      obtain ⟨x, hx⟩ := HL.out jx hlt
      have HX := show Hid _ from hx
      clear hx
      clear HL
      go_wp2_with fail
      refine wp_region_rel (by kernel_rfl) [some 17, some 18, some 19, some 20, some 21, some 22, some 23, some 24, some 25] [[], [], [0, 1], [2], [], [], [4, 5], [6], [3, 7]] (by kernel_rfl) (fun i v w => match i with | 0 => v = .slice (some ⟨b1, o1, none⟩) n c1 | 1 => v = .int .i64 (jx : Int) | 2 => v = .pointer (some ⟨b1, o1 + jx, none⟩) | 3 => v = .int .i64 x | 4 => v = .slice (some ⟨b2, o2, none⟩) n c2 | 5 => v = .int .i64 (jx : Int) | 6 => v = .pointer (some ⟨b2, o2 + jx, none⟩) | 7 => v = .int .i64 x | 8 => v = .bool false | _ => True) (fun _ W => Below w0.heap.size w0 W) (fun _ _ => True) ?hle (HQ.out.drew) (allLt 9 ?steps) ?fin
      case hle =>
        intro i v w w1 hl h
        match i, h with
        | 0, h => exact h
        | 1, h => exact h
        | 2, h => exact h
        | 3, h => exact h
        | 4, h => exact h
        | 5, h => exact h
        | 6, h => exact h
        | 7, h => exact h
        | 8, h => exact h
        | _ + 9, h => trivial
      case steps =>
        refine ⟨⟨⟨⟨⟨⟨⟨⟨⟨trivial, ?s0⟩, ?s1⟩, ?s2⟩, ?s3⟩, ?s4⟩, ?s5⟩, ?s6⟩, ?s7⟩, ?s8⟩
        case s0 =>
          intro done a w hS h0 hd hn hO hN
          have o0 : a.tmps[0]? = some (.slice (some ⟨b1, o1, none⟩) n c1) := (hO.out 0 (by decide)).trans rfl
          refine relVal rfl (.slice (some ⟨b1, o1, none⟩) n c1) w rfl (by go_simp) ⟨_, rfl, rfl, by simpa [h0] using hS, trivial⟩
        case s1 =>
          intro done a w hS h0 hd hn hO hN
          have o5 : a.tmps[5]? = some (.int .i64 (jx : Int)) := (hO.out 5 (by decide)).trans rfl
          refine relVal rfl (.int .i64 (jx : Int)) w rfl (by go_simp) ⟨_, rfl, rfl, by simpa [h0] using hS, trivial⟩
        case s2 =>
          intro done a w hS h0 hd hn hO hN
          obtain ⟨v0, g0, r0⟩ := hN 0 (by decide)
          have g0 : a.tmps[17]? = some v0 := g0
          obtain rfl : v0 = .slice (some ⟨b1, o1, none⟩) n c1 := r0
          obtain ⟨v1, g1, r1⟩ := hN 1 (by decide)
          have g1 : a.tmps[18]? = some v1 := g1
          obtain rfl : v1 = .int .i64 (jx : Int) := r1
          refine relVal rfl (.pointer (some ⟨b1, o1 + jx, none⟩)) w rfl (by go_simp) ⟨_, rfl, rfl, by simpa [h0] using hS, trivial⟩
        case s3 =>
          intro done a w hS h0 hd hn hO hN
          obtain ⟨v2, g2, r2⟩ := hN 2 (by decide)
          have g2 : a.tmps[19]? = some v2 := g2
          obtain rfl : v2 = .pointer (some ⟨b1, o1 + jx, none⟩) := r2
          have hc : w.cell? ⟨b1, o1 + jx, none⟩ = some (.int .i64 x) := (HX.out w hS).1
          refine relVal rfl (.int .i64 x) w rfl (by go_simp) ⟨_, rfl, rfl, by simpa [h0] using hS, trivial⟩
        case s4 =>
          intro done a w hS h0 hd hn hO hN
          have o1 : a.tmps[1]? = some (.slice (some ⟨b2, o2, none⟩) n c2) := (hO.out 1 (by decide)).trans rfl
          refine relVal rfl (.slice (some ⟨b2, o2, none⟩) n c2) w rfl (by go_simp) ⟨_, rfl, rfl, by simpa [h0] using hS, trivial⟩
        case s5 =>
          intro done a w hS h0 hd hn hO hN
          have o5 : a.tmps[5]? = some (.int .i64 (jx : Int)) := (hO.out 5 (by decide)).trans rfl
          refine relVal rfl (.int .i64 (jx : Int)) w rfl (by go_simp) ⟨_, rfl, rfl, by simpa [h0] using hS, trivial⟩
        case s6 =>
          intro done a w hS h0 hd hn hO hN
          obtain ⟨v4, g4, r4⟩ := hN 4 (by decide)
          have g4 : a.tmps[21]? = some v4 := g4
          obtain rfl : v4 = .slice (some ⟨b2, o2, none⟩) n c2 := r4
          obtain ⟨v5, g5, r5⟩ := hN 5 (by decide)
          have g5 : a.tmps[22]? = some v5 := g5
          obtain rfl : v5 = .int .i64 (jx : Int) := r5
          refine relVal rfl (.pointer (some ⟨b2, o2 + jx, none⟩)) w rfl (by go_simp) ⟨_, rfl, rfl, by simpa [h0] using hS, trivial⟩
        case s7 =>
          intro done a w hS h0 hd hn hO hN
          obtain ⟨v6, g6, r6⟩ := hN 6 (by decide)
          have g6 : a.tmps[23]? = some v6 := g6
          obtain rfl : v6 = .pointer (some ⟨b2, o2 + jx, none⟩) := r6
          have hc : w.cell? ⟨b2, o2 + jx, none⟩ = some (.int .i64 x) := (HX.out w hS).2
          refine relVal rfl (.int .i64 x) w rfl (by go_simp) ⟨_, rfl, rfl, by simpa [h0] using hS, trivial⟩
        case s8 =>
          intro done a w hS h0 hd hn hO hN
          obtain ⟨v3, g3, r3⟩ := hN 3 (by decide)
          have g3 : a.tmps[20]? = some v3 := g3
          obtain rfl : v3 = .int .i64 x := r3
          obtain ⟨v7, g7, r7⟩ := hN 7 (by decide)
          have g7 : a.tmps[24]? = some v7 := g7
          obtain rfl : v7 = .int .i64 x := r7
          refine relVal rfl (.bool false) w rfl (by go_simp) ⟨_, rfl, rfl, by simpa [h0] using hS, trivial⟩
      case fin =>
        intro vs done w hdone hS hR
        have e8 : vs 8 = .bool false := hR 8 (by decide)
        have HS := show Hid (Below w0.heap.size w0 w) from hS
        simp only [putAll, Act.put, List.setIfInBounds_toArray, List.set_cons_zero, List.set_cons_succ, e8]
        clear hS hR hdone e8
        generalize vs 0 = x0, vs 1 = x1, vs 2 = x2, vs 3 = x3, vs 4 = x4, vs 5 = x5, vs 6 = x6, vs 7 = x7
        go_wp2_with fail
        go_roundw
        case rel => exact ⟨jx + 1, by omega, by go_num, HS⟩
        case measure => first | (simp [intOf]; done) | (simp [intOf]; omega)
    · have hge : ¬ (jx : Int) < (n : Int) := by omega
      go_wp2_with fail
      go_ret
      exact ⟨rfl, HQ.out⟩
end Go.Proofs.YtpddfooeaecekaaGreatDoor
/-
  The law RuleTells, as the program walks it: true for every row of formulas, every sequent, every number of a rule and of a formula. Where the table of TrailingZeros stands as the program's text lays it.
-/
namespace Go.Proofs.YtpddfooeaecekaaGreatDoor
open Go.RowKit Go.Shelf Go.Maps
open Fm (Nd)
open Bt.Bs (Ok wd)
set_option linter.unusedSimpArgs false

theorem own_isL {base n : Nat} {e : TypeId} {w : World} {v : Value} {xs : List Int} (h : w.ownsRow base e 1 v n (xs.map (Value.int .i64))) : Bt.IsL w v xs := by
  have hl := h.1
  rw [List.length_map, Nat.mul_one] at hl
  subst hl
  rcases h.2 with ⟨rfl, h0⟩ | ⟨g, cap, cur, rfl, hg, hh, h1, h2, h3, h4⟩
  · obtain rfl : xs = [] := List.eq_nil_of_length_eq_zero h0
    exact ⟨_, _, rfl, by simp, fun k hk => absurd hk (by simp)⟩
  · refine ⟨_, _, rfl, by unfold maxLen at h2; omega, fun k hk => ⟨g, 0, rfl, ?_⟩⟩
    rw [Nat.zero_add, Cl.cell hh k]
    have e : (cur.toList.take (xs.length * 1))[k]? = some (.int .i64 xs[k]) := by
      rw [h4]
      simp [hk]
    rw [List.getElem?_take] at e
    rw [if_pos (by omega)] at e
    simpa using e
theorem i1_is (l : List (Int × Int)) : i1 l = (l.map fun x => x.1).map (Value.int .i64) := by simp [i1]
theorem i2_is (l : List (Int × Int)) : i2 l = (l.map fun x => x.2).map (Value.int .i64) := by simp [i2]
theorem own_form {base n : Nat} {e : TypeId} {w : World} {v : Value} {xs : List Value} {size : Nat} (h : w.ownsRow base e size v n xs) : ∃ p c, v = .slice p n c := by
  rcases h.2 with ⟨rfl, rfl⟩ | ⟨g, cap, cur, rfl, _⟩
  · exact ⟨_, _, rfl⟩
  · exact ⟨_, _, rfl⟩
theorem cho_le' (t : List Nd) (r : List Nat) (g : Int) : (choF t r g).length ≤ 1000000 := by
  unfold choF
  split
  · have := tl1_le r g t
    omega
  · simp
set_option maxRecDepth 100000 in
set_option maxHeartbeats 4000000 in
theorem ruleTells_any (w : World) (rv : Value) (rs : List Nd) (hR : IsR w rv rs) (hg : ∀ n ∈ rs, Fm.good n) (hl : rs.length * 40 ≤ 140737488351232) (hv : rv = .slice none 0 0 ∨ ∃ a n c, rv = .slice (some a) n c)
    {r : List Nat} (hr : Ok r) (g ru main : Int) (hZ : Bt.Tz w) :
    Calls Tryz.prog 3 #[rv, .agg (cellsQ r g), .int .i64 ru, .int .i64 main] w fun e w' => e = .returned (.bool true) ∧ Below w.heap.size w w' := by
  have hr16 := hr.1
  have KT := show Hid (∀ w', Below w.heap.size w w' → Calls Tryz.prog 5 #[rv] w' fun e w'' => IsBoth w' w'' e (Fm.fr [] rs)) from fun w' hb => both_any w' rv rs (hR.later hb) hg hl hv
  have KH := show Hid (∀ w' : World, Below w.heap.size w w' → Calls Tryz.prog 6 #[] w' fun e w'' => e = .returned (.bool true) ∧ Below w'.heap.size w' w'') from fun w' hb => heads9_any w' (Bt.tz_block hZ hb)
  have HZ := show Hid (∀ W : World, Below w.heap.size w W → Bt.Tz W) from fun W hb => Bt.tz_block hZ hb
  have HOK := show Hid (Ok r) from hr
  have hsl : ∃ p n cc, rv = .slice p n cc := by
    rcases hv with rfl | ⟨a, n, cc, rfl⟩
    · exact ⟨_, _, _, rfl⟩
    · exact ⟨_, _, _, rfl⟩
  obtain ⟨p, n, cc, rfl⟩ := hsl
  generalize Fm.fr [] rs = ans at *
  clear hR hg hl hv hZ hr
  go_enter Tryz.func3, Tryz.ntmps3
  go_wp2_with (refine wpList_box 27 _ rfl _ rfl rfl ?_)
  intro w1 b5 hn1
  have H1 := show Hid (RS1 w w1 b5 r g) from ⟨hn1.blk, hn1.bel, hn1.ge⟩
  clear hn1
  go_wp2_with fail
  refine Calls.mono (KT.out _ H1.out.bel) ?_
  rintro e w2 (⟨_, B, M, v, C, u, rfl, hP⟩ | ⟨_, rfl, hb⟩)
  · have H2 := show Hid (LX w w1 w2 b5 B M v C u ans.2 ans.2 r g) from LX.mk1 H1.out hP
    clear hP H1 KT
    generalize ans.2 = t at *
    have HRZ := show Hid (refZ t r g = if rightQ t r g then 0 else 31) from ref_right HOK.out g
    have K1 := show Hid (∀ W, LX w w1 W b5 B M v C u t t r g → Calls Tryz.prog 7 #[.pointer (some ⟨B, 0, none⟩), .agg (cellsQ r g)] W fun e w' => e = .returned (.tuple #[.int .i64 (if refZ t r g = 0 then (applyF t r g).1 else 0), .int .i64 (if refZ t r g = 0 then (applyF t r g).2 else 0), .int .i64 (refZ t r g)]) ∧ Below W.heap.size W w') from fun W h => apply_any W h.pr.tb (HZ.out _ h.bel) HOK.out g
    have K2 := show Hid (∀ W, LX w w1 W b5 B M v C u t t r g → Calls Tryz.prog 8 #[.pointer (some ⟨B, 0, none⟩), .agg (cellsQ r g)] W fun e w' => ∃ v1 v2, e = .returned (.tuple #[v1, v2, .int .i64 (refZ t r g)]) ∧ w'.ownsRow W.heap.size 28 1 v1 (choF t r g).length (i1 (choF t r g)) ∧ w'.ownsRow W.heap.size 3 1 v2 (choF t r g).length (i2 (choF t r g)) ∧ Below W.heap.size W w') from fun W h => choices_any W h.pr.tb (HZ.out _ h.bel) HOK.out g
    have K3 := show Hid (∀ W, LX w w1 W b5 B M v C u t t r g → Calls Tryz.prog 9 #[.pointer (some ⟨B, 0, none⟩), .agg (cellsQ r g), .int .i64 ru, .int .i64 main] W fun e w' => e = .returned (.tuple #[.bool (decide (refZ t r g = 0) && findF t r g ru main), .int .i64 (refZ t r g)]) ∧ Below W.heap.size W w') from fun W h => fits_any W h.pr.tb (HZ.out _ h.bel) HOK.out g ru main
    have K4 := show Hid (∀ W, LX w w1 W b5 B M v C u t t r g → Calls Tryz.prog 10 #[.pointer (some ⟨C, 0, none⟩), .agg (cellsQ r g)] W fun e w' => e = .returned (.bool (rightQ t r g)) ∧ Below W.heap.size W w') from fun W h => rright_any W h.pr.tr HOK.out g
    have K9 := show Hid (∀ W, LX w w1 W b5 B M v C u t t r g → Calls Tryz.prog 15 #[.pointer (some ⟨C, 0, none⟩), .agg (cellsQ r g), .int .i64 ru, .int .i64 main] W fun e w' => e = .returned (.bool (findF t r g ru main)) ∧ Below W.heap.size W w') from fun W h => rfits_any W h.pr.tr HOK.out g ru main
    have K10 := show Hid (∀ W, LX w w1 W b5 B M v C u t t r g → Calls Tryz.prog 16 #[.pointer (some ⟨B, 0, none⟩), .pointer (some ⟨C, 0, none⟩)] W fun e w' => e = .returned (.bool true) ∧ Below W.heap.size W w') from fun W h => like_any w1 W h.pr
    cases hq : rightQ t r g with
    | false =>
      rw [hq, if_neg Bool.false_ne_true] at HRZ
      rw [hq] at K4
      rw [HRZ.out, if_neg (by decide), if_neg (by decide)] at K1
      have hcf : choF t r g = [] := by
        unfold choF
        rw [if_neg (fun e => by rw [HRZ.out] at e; exact absurd e.1 (by decide))]
      rw [HRZ.out, hcf] at K2
      rw [HRZ.out, show decide ((31 : Int) = 0) = false from rfl, Bool.false_and] at K3
      clear hcf K9 K10 HRZ hq
      go_wp2_with (refine wpList_ldQQ _ _ rfl b5 rfl H2.out.s hr16 rfl ?_)
      refine Calls.mono (K1.out _ H2.out) ?_
      rintro e w3 ⟨rfl, hb3⟩
      have H3 := show Hid _ from H2.out.later hb3
      clear hb3 H2 K1
      go_wp2_with (refine wpList_ldQQ _ _ rfl b5 rfl H3.out.s hr16 rfl ?_)
      refine Calls.mono (K2.out _ H3.out) ?_
      rintro e w4 ⟨v1, v2, rfl, ho1, ho2, hb4⟩
      have H4 := show Hid _ from H3.out.later hb4
      obtain ⟨p1, c1, rfl⟩ := own_form ho1
      obtain ⟨p2, c2, rfl⟩ := own_form ho2
      clear hb4 H3 K2 ho1 ho2
      simp only [List.length_nil]
      go_wp2_with (refine wpList_ldQQ _ _ rfl b5 rfl H4.out.s hr16 rfl ?_)
      refine Calls.mono (K3.out _ H4.out) ?_
      rintro e w5 ⟨rfl, hb5⟩
      have H5 := show Hid _ from H4.out.later hb5
      clear hb5 H4 K3
      go_wp2_with (refine wpList_ldQQ _ _ rfl b5 rfl H5.out.s hr16 rfl ?_)
      refine Calls.mono (K4.out _ H5.out) ?_
      rintro e w6 ⟨rfl, hb6⟩
      have H6 := show Hid _ from H5.out.later hb6
      clear hb6 H5 K4
      go_wp2_with fail
      refine Calls.mono (KH.out _ H6.out.bel) ?_
      rintro e w7 ⟨rfl, hb7⟩
      have H7 := show Hid _ from H6.out.later hb7
      clear hb7 H6 KH
      go_wp2_with fail
      go_ret
      exact ⟨rfl, H7.out.bel⟩
    | true =>
      rw [hq, if_pos rfl] at HRZ
      rw [hq] at K4
      rw [HRZ.out, if_pos rfl, if_pos rfl] at K1
      rw [HRZ.out] at K2
      rw [HRZ.out, show decide ((0 : Int) = 0) = true from rfl, Bool.true_and] at K3
      have K5 := show Hid (∀ W, LX w w1 W b5 B M v C u t t r g → Calls Tryz.prog 11 #[.pointer (some ⟨C, 0, none⟩), .agg (cellsQ r g)] W fun e w' => e = .returned (.tuple #[.int .i64 (applyF t r g).1, .int .i64 (applyF t r g).2]) ∧ Below W.heap.size W w') from fun W h => rapply_any W h.pr.tr HOK.out g hq
      have K6 := show Hid (∀ W, LX w w1 W b5 B M v C u t t r g → Calls Tryz.prog 12 #[.pointer (some ⟨C, 0, none⟩), .agg (cellsQ r g)] W fun e w' => ∃ v1 v2, e = .returned (.tuple #[v1, v2]) ∧ w'.ownsRow W.heap.size 28 1 v1 (choF t r g).length (i1 (choF t r g)) ∧ w'.ownsRow W.heap.size 3 1 v2 (choF t r g).length (i2 (choF t r g)) ∧ Below W.heap.size W w') from fun W h => rchoices_any W h.pr.tr HOK.out g hq
      have HLE := show Hid ((choF t r g).length ≤ 1000000) from cho_le' t r g
      clear HRZ hq
      generalize applyF t r g = af at *
      generalize findF t r g ru main = ff at *
      generalize choF t r g = Z at *
      go_wp2_with (refine wpList_ldQQ _ _ rfl b5 rfl H2.out.s hr16 rfl ?_)
      refine Calls.mono (K1.out _ H2.out) ?_
      rintro e w3 ⟨rfl, hb3⟩
      have H3 := show Hid _ from H2.out.later hb3
      clear hb3 H2 K1
      go_wp2_with (refine wpList_ldQQ _ _ rfl b5 rfl H3.out.s hr16 rfl ?_)
      refine Calls.mono (K2.out _ H3.out) ?_
      rintro e w4 ⟨v1, v2, rfl, ho1, ho2, hb4⟩
      have H4 := show Hid _ from H3.out.later hb4
      rw [i1_is] at ho1
      rw [i2_is] at ho2
      have HI4 := show Hid (Bt.IsL w4 v1 (Z.map fun x => x.1) ∧ Bt.IsL w4 v2 (Z.map fun x => x.2)) from ⟨own_isL ho1, own_isL ho2⟩
      obtain ⟨p1, c1, rfl⟩ := own_form ho1
      obtain ⟨p2, c2, rfl⟩ := own_form ho2
      clear hb4 H3 K2 ho1 ho2
      go_wp2_with (refine wpList_ldQQ _ _ rfl b5 rfl H4.out.s hr16 rfl ?_)
      refine Calls.mono (K3.out _ H4.out) ?_
      rintro e w5 ⟨rfl, hb5⟩
      have H5 := show Hid _ from H4.out.later hb5
      have HI5 := show Hid (Bt.IsL w5 (.slice p1 Z.length c1) (Z.map fun x => x.1) ∧ Bt.IsL w5 (.slice p2 Z.length c2) (Z.map fun x => x.2)) from ⟨HI4.out.1.later hb5, HI4.out.2.later hb5⟩
      clear hb5 H4 K3 HI4
      go_wp2_with (refine wpList_ldQQ _ _ rfl b5 rfl H5.out.s hr16 rfl ?_)
      refine Calls.mono (K4.out _ H5.out) ?_
      rintro e w6 ⟨rfl, hb6⟩
      have H6 := show Hid _ from H5.out.later hb6
      have HI6 := show Hid (Bt.IsL w6 (.slice p1 Z.length c1) (Z.map fun x => x.1) ∧ Bt.IsL w6 (.slice p2 Z.length c2) (Z.map fun x => x.2)) from ⟨HI5.out.1.later hb6, HI5.out.2.later hb6⟩
      clear hb6 H5 K4 HI5
      go_wp2_with (refine wpList_ldQQ _ _ rfl b5 rfl H6.out.s hr16 rfl ?_)
      refine Calls.mono (K5.out _ H6.out) ?_
      rintro e w7 ⟨rfl, hb7⟩
      have H7 := show Hid _ from H6.out.later hb7
      have HI7 := show Hid (Bt.IsL w7 (.slice p1 Z.length c1) (Z.map fun x => x.1) ∧ Bt.IsL w7 (.slice p2 Z.length c2) (Z.map fun x => x.2)) from ⟨HI6.out.1.later hb7, HI6.out.2.later hb7⟩
      clear hb7 H6 K5 HI6
      go_wp2_with (refine wpList_ldQQ _ _ rfl b5 rfl H7.out.s hr16 rfl ?_)
      refine Calls.mono (K6.out _ H7.out) ?_
      rintro e w8 ⟨v3, v4, rfl, ho1, ho2, hb8⟩
      have H8 := show Hid _ from H7.out.later hb8
      rw [i1_is] at ho1
      rw [i2_is] at ho2
      have KR := show Hid (Calls Tryz.prog 13 #[.slice p1 Z.length c1, v3] w8 fun e w' => e = .returned (.bool true) ∧ Below w8.heap.size w8 w') from rrules_any w8 (HI7.out.1.later hb8) (own_isL ho1) (by rw [List.length_map]; exact HLE.out)
      have KI := show Hid (∀ W, Below w8.heap.size w8 W → Calls Tryz.prog 14 #[.slice p2 Z.length c2, v4] W fun e w' => e = .returned (.bool true) ∧ Below W.heap.size W w') from fun W hb => rints_any W ((HI7.out.2.later hb8).later hb) ((own_isL ho2).later hb) (by rw [List.length_map]; exact HLE.out)
      obtain ⟨p3, c3, rfl⟩ := own_form ho1
      obtain ⟨p4, c4, rfl⟩ := own_form ho2
      clear hb8 H7 K6 HI7 ho1 ho2 HLE
      go_wp2_with fail
      refine Calls.mono KR.out ?_
      rintro e w9 ⟨rfl, hb9⟩
      have H9 := show Hid _ from H8.out.later hb9
      have KI9 := show Hid _ from KI.out w9 hb9
      clear hb9 H8 KR KI
      go_wp2_with fail
      refine Calls.mono KI9.out ?_
      rintro e w10 ⟨rfl, hb10⟩
      have H10 := show Hid _ from H9.out.later hb10
      clear hb10 H9 KI9
      go_wp2_with (refine wpList_ldQQ _ _ rfl b5 rfl H10.out.s hr16 rfl ?_)
      refine Calls.mono (K9.out _ H10.out) ?_
      rintro e w11 ⟨rfl, hb11⟩
      have H11 := show Hid _ from H10.out.later hb11
      clear hb11 H10 K9
      go_wp2_with fail
      refine Calls.mono (K10.out _ H11.out) ?_
      rintro e w12 ⟨rfl, hb12⟩
      have H12 := show Hid _ from H11.out.later hb12
      clear hb12 H11 K10
      go_wp2_with fail
      refine Calls.mono (KH.out _ H12.out.bel) ?_
      rintro e w13 ⟨rfl, hb13⟩
      have H13 := show Hid _ from H12.out.later hb13
      clear hb13 H12 KH
      go_wp2_with fail
      go_ret
      exact ⟨rfl, H13.out.bel⟩
  · have H2 := show Hid (Below w.heap.size w w2) from H1.out.bel.trans (hb.mono H1.out.bel.size)
    clear hb H1 KT
    go_wp2_with fail
    refine Calls.mono (KH.out _ H2.out) ?_
    rintro e w3 ⟨rfl, hb3⟩
    have H3 := show Hid (Below w.heap.size w w3) from H2.out.trans (hb3.mono H2.out.size)
    clear hb3 H2 KH
    go_wp2_with fail
    go_ret
    exact ⟨rfl, H3.out⟩
end Go.Proofs.YtpddfooeaecekaaGreatDoor
