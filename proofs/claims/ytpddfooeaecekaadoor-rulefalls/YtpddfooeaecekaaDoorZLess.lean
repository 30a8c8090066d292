/-
  The document's call Less: is la falling row ahead of another one? For every two rows. (Written by genzless.py.)
-/
import Derived.Test.YtpddfooeaecekaaDoorZWts
namespace Go.Proofs.YtpddfooeaecekaaDoor
open Go.RowKit Go.Shelf Go.Maps
set_option linter.unusedSimpArgs false

theorem less_end {la lb : List Nat} {i : Nat} (hi : i ≤ la.length) (hj : i ≤ lb.length) (h : i = la.length ∨ i = lb.length) : lessL (la.drop i) (lb.drop i) = decide (la.length < lb.length) := by
  by_cases h1 : i = la.length
  · subst h1
    rw [List.drop_length]
    by_cases h2 : la.length < lb.length
    · rw [decide_eq_true h2, List.drop_eq_getElem_cons h2]
      rfl
    · rw [decide_eq_false h2, List.drop_of_length_le (by omega)]
      rfl
  · have h2 : i = lb.length := h.resolve_left h1
    subst h2
    rw [List.drop_length, List.drop_eq_getElem_cons (show lb.length < la.length by omega), decide_eq_false (by omega)]
    rfl
theorem less_at {la lb : List Nat} {i : Nat} (hi : i < la.length) (hj : i < lb.length) : lessL (la.drop i) (lb.drop i) = if la[i] = lb[i] then lessL (la.drop (i + 1)) (lb.drop (i + 1)) else decide (la[i] < lb[i]) := by
  rw [List.drop_eq_getElem_cons hi, List.drop_eq_getElem_cons hj]
  rfl
set_option maxRecDepth 100000 in
set_option maxHeartbeats 4000000 in
theorem rless_any (w0 : World) {v1 v2 : Value} {la lb : List Nat} (h1 : IsU w0 v1 la) (h2 : IsU w0 v2 lb) (ha : la.length ≤ 1000000) (hb : lb.length ≤ 1000000) :
    Calls Tryd.prog 12 #[v1, v2] w0 fun e w' => e = .returned (.bool (lessL la lb)) ∧ Below w0.heap.size w0 w' := by
  obtain ⟨p1, c1, rfl, hc1⟩ := h1
  obtain ⟨p2, c2, rfl, hc2⟩ := h2
  have HL := show Hid (∀ j (hj : j < la.length) (hk : j < lb.length), ∃ b1 b2, p1 = some ⟨b1, 0, none⟩ ∧ p2 = some ⟨b2, 0, none⟩ ∧ ∀ W : World, Below w0.heap.size w0 W → W.cell? ⟨b1, j, none⟩ = some (.int .u64 (la[j] : Int)) ∧ W.cell? ⟨b2, j, none⟩ = some (.int .u64 (lb[j] : Int))) from fun j hj hk => by
    obtain ⟨b1, e1, e2⟩ := hc1 j hj
    obtain ⟨b2, e3, e4⟩ := hc2 j hk
    exact ⟨b1, b2, e1, e3, fun W hb => ⟨(hb.cell (p := ⟨b1, _, none⟩) (World.block_lt_of_cell? w0 _ e2)).trans e2, (hb.cell (p := ⟨b2, _, none⟩) (World.block_lt_of_cell? w0 _ e4)).trans e4⟩⟩
  have HAT := show Hid (∀ i (hi : i < la.length) (hj : i < lb.length), lessL (la.drop i) (lb.drop i) = if la[i] = lb[i] then lessL (la.drop (i + 1)) (lb.drop (i + 1)) else decide (la[i] < lb[i])) from fun i hi hj => less_at hi hj
  have HEN := show Hid (∀ i, i ≤ la.length → i ≤ lb.length → (i = la.length ∨ i = lb.length) → lessL (la.drop i) (lb.drop i) = decide (la.length < lb.length)) from fun i h1 h2 h3 => less_end h1 h2 h3
  obtain ⟨A, hA⟩ : ∃ A, A = lessL la lb := ⟨_, rfl⟩
  rw [← hA]
  have H0 := show Hid (A = lessL (la.drop 0) (lb.drop 0)) from hA
  clear hc1 hc2 hA
  go_enter Tryd.func12, Tryd.ntmps12
  go_wp2_with fail
  go_loopw [5] (fun v wr => ∃ i : Nat, i ≤ la.length ∧ i ≤ lb.length ∧ v = .int .i64 (i : Int) ∧ Hid (Below w0.heap.size w0 wr) ∧ Hid (A = lessL (la.drop i) (lb.drop i))) (fun v _ => la.length - (intOf v).toNat)
  case atStart => exact ⟨0, by omega, by omega, rfl, Below.refl _ _, H0⟩
  case round =>
    obtain ⟨jx, hja, hjb, rfl, HQ, HA⟩ := hrel
    clear H0
    by_cases hla : jx < la.length
    · have hlaI : (jx : Int) < (la.length : Int) := by omega
      by_cases hlb : jx < lb.length
      · have hlbI : (jx : Int) < (lb.length : Int) := by omega
        obtain ⟨b1, b2, hp1, hp2, hcx⟩ := HL.out jx hla hlb
        subst hp1
        subst hp2
        have hone := HAT.out jx hla hlb
        rw [← HA.out] at hone
        have HX := show Hid (∀ W : World, Below w0.heap.size w0 W → W.cell? ⟨b1, jx, none⟩ = some (.int .u64 (la[jx] : Int)) ∧ W.cell? ⟨b2, jx, none⟩ = some (.int .u64 (lb[jx] : Int))) from hcx
        have HON := show Hid (A = if la[jx] = lb[jx] then lessL (la.drop (jx + 1)) (lb.drop (jx + 1)) else decide (la[jx] < lb[jx])) from hone
        clear hcx hone HL HAT HEN HA
        obtain ⟨x, hx⟩ : ∃ x, x = la[jx] := ⟨_, rfl⟩
        obtain ⟨y, hy⟩ : ∃ y, y = lb[jx] := ⟨_, rfl⟩
        rw [← hx, ← hy] at HX HON
        clear hx hy
        have HNX := show Hid (x = y → A = lessL (la.drop (jx + 1)) (lb.drop (jx + 1))) from fun e => by rw [HON.out, if_pos e]
        have HDE := show Hid (x ≠ y → A = decide (x < y)) from fun e => by rw [HON.out, if_neg e]
        have hle : jx + 1 ≤ la.length ∧ jx + 1 ≤ lb.length := ⟨hla, hlb⟩
        have HLE := show Hid _ from hle
        clear HON hle
        obtain ⟨na, hna⟩ : ∃ n, n = la.length := ⟨_, rfl⟩
        obtain ⟨nb, hnb⟩ : ∃ n, n = lb.length := ⟨_, rfl⟩
        have HNA := show Hid (na = la.length ∧ nb = lb.length) from ⟨hna, hnb⟩
        by_cases hxy : x = y
        · have HA2 := show Hid _ from HNX.out hxy
          have hxyI : (x : Int) = (y : Int) := by omega
          subst hxy
          clear HNX HDE hxyI
          go_wp2_with fail
          refine wp_region_rel (by kernel_rfl) [some 18, some 19, some 20, some 21, some 22, some 23, some 24, some 25, some 26] [[], [], [0, 1], [2], [], [], [4, 5], [6], [3, 7]] (by kernel_rfl) (fun i v w => match i with | 0 => v = .slice (some ⟨b1, 0, none⟩) la.length c1 | 1 => v = .int .i64 (jx : Int) | 2 => v = .pointer (some ⟨b1, jx, none⟩) | 3 => v = .int .u64 (x : Int) | 4 => v = .slice (some ⟨b2, 0, none⟩) lb.length c2 | 5 => v = .int .i64 (jx : Int) | 6 => v = .pointer (some ⟨b2, jx, none⟩) | 7 => v = .int .u64 (x : Int) | 8 => v = .bool false | _ => True) (fun _ W => Below w0.heap.size w0 W) (fun _ _ => True) ?hle (HQ.out.drew) (allLt 9 ?steps) ?fin
          case hle =>
            intro i v w w1 hl h
            match i, h with
            | 0, h => exact h
            | 1, h => exact h
            | 2, h => exact h
            | 3, h => exact h
            | 4, h => exact h
            | 5, h => exact h
            | 6, h => exact h
            | 7, h => exact h
            | 8, h => exact h
            | _ + 9, h => trivial
          case steps =>
            refine ⟨⟨⟨⟨⟨⟨⟨⟨⟨trivial, ?s0⟩, ?s1⟩, ?s2⟩, ?s3⟩, ?s4⟩, ?s5⟩, ?s6⟩, ?s7⟩, ?s8⟩
            case s0 =>
              intro done a w hS h0 hd hn hO hN
              have o0 : a.tmps[0]? = some (.slice (some ⟨b1, 0, none⟩) la.length c1) := (hO.out 0 (by decide)).trans rfl
              refine relVal rfl (.slice (some ⟨b1, 0, none⟩) la.length c1) w rfl (by go_simp) ⟨_, rfl, rfl, by simpa [h0] using hS, trivial⟩
            case s1 =>
              intro done a w hS h0 hd hn hO hN
              have o5 : a.tmps[5]? = some (.int .i64 (jx : Int)) := (hO.out 5 (by decide)).trans rfl
              refine relVal rfl (.int .i64 (jx : Int)) w rfl (by go_simp) ⟨_, rfl, rfl, by simpa [h0] using hS, trivial⟩
            case s2 =>
              intro done a w hS h0 hd hn hO hN
              obtain ⟨v0, g0, r0⟩ := hN 0 (by decide)
              have g0 : a.tmps[18]? = some v0 := g0
              obtain rfl : v0 = .slice (some ⟨b1, 0, none⟩) la.length c1 := r0
              obtain ⟨v1, g1, r1⟩ := hN 1 (by decide)
              have g1 : a.tmps[19]? = some v1 := g1
              obtain rfl : v1 = .int .i64 (jx : Int) := r1
              refine relVal rfl (.pointer (some ⟨b1, jx, none⟩)) w rfl (by go_simp) ⟨_, rfl, rfl, by simpa [h0] using hS, trivial⟩
            case s3 =>
              intro done a w hS h0 hd hn hO hN
              obtain ⟨v2, g2, r2⟩ := hN 2 (by decide)
              have g2 : a.tmps[20]? = some v2 := g2
              obtain rfl : v2 = .pointer (some ⟨b1, jx, none⟩) := r2
              have hc : w.cell? ⟨b1, jx, none⟩ = some (.int .u64 (x : Int)) := (HX.out w hS).1
              refine relVal rfl (.int .u64 (x : Int)) w rfl (by go_simp) ⟨_, rfl, rfl, by simpa [h0] using hS, trivial⟩
            case s4 =>
              intro done a w hS h0 hd hn hO hN
              have o1 : a.tmps[1]? = some (.slice (some ⟨b2, 0, none⟩) lb.length c2) := (hO.out 1 (by decide)).trans rfl
              refine relVal rfl (.slice (some ⟨b2, 0, none⟩) lb.length c2) w rfl (by go_simp) ⟨_, rfl, rfl, by simpa [h0] using hS, trivial⟩
            case s5 =>
              intro done a w hS h0 hd hn hO hN
              have o5 : a.tmps[5]? = some (.int .i64 (jx : Int)) := (hO.out 5 (by decide)).trans rfl
              refine relVal rfl (.int .i64 (jx : Int)) w rfl (by go_simp) ⟨_, rfl, rfl, by simpa [h0] using hS, trivial⟩
            case s6 =>
              intro done a w hS h0 hd hn hO hN
              obtain ⟨v4, g4, r4⟩ := hN 4 (by decide)
              have g4 : a.tmps[22]? = some v4 := g4
              obtain rfl : v4 = .slice (some ⟨b2, 0, none⟩) lb.length c2 := r4
              obtain ⟨v5, g5, r5⟩ := hN 5 (by decide)
              have g5 : a.tmps[23]? = some v5 := g5
              obtain rfl : v5 = .int .i64 (jx : Int) := r5
              refine relVal rfl (.pointer (some ⟨b2, jx, none⟩)) w rfl (by go_simp) ⟨_, rfl, rfl, by simpa [h0] using hS, trivial⟩
            case s7 =>
              intro done a w hS h0 hd hn hO hN
              obtain ⟨v6, g6, r6⟩ := hN 6 (by decide)
              have g6 : a.tmps[24]? = some v6 := g6
              obtain rfl : v6 = .pointer (some ⟨b2, jx, none⟩) := r6
              have hc : w.cell? ⟨b2, jx, none⟩ = some (.int .u64 (x : Int)) := (HX.out w hS).2
              refine relVal rfl (.int .u64 (x : Int)) w rfl (by go_simp) ⟨_, rfl, rfl, by simpa [h0] using hS, trivial⟩
            case s8 =>
              intro done a w hS h0 hd hn hO hN
              obtain ⟨v3, g3, r3⟩ := hN 3 (by decide)
              have g3 : a.tmps[21]? = some v3 := g3
              obtain rfl : v3 = .int .u64 (x : Int) := r3
              obtain ⟨v7, g7, r7⟩ := hN 7 (by decide)
              have g7 : a.tmps[25]? = some v7 := g7
              obtain rfl : v7 = .int .u64 (x : Int) := r7
              refine relVal rfl (.bool false) w rfl (by go_simp) ⟨_, rfl, rfl, by simpa [h0] using hS, trivial⟩
          case fin =>
            intro vs done w hdone hS hR
            have e8 : vs 8 = .bool false := hR 8 (by decide)
            have HS := show Hid (Below w0.heap.size w0 w) from hS
            simp only [putAll, Act.put, List.setIfInBounds_toArray, List.set_cons_zero, List.set_cons_succ, e8]
            clear hS hR hdone e8
            generalize vs 0 = x0, vs 1 = x1, vs 2 = x2, vs 3 = x3, vs 4 = x4, vs 5 = x5, vs 6 = x6, vs 7 = x7
            go_wp2_with fail
            go_roundw
            case rel => exact ⟨jx + 1, HLE.out.1, HLE.out.2, by go_num, HS, HA2⟩
            case measure => first | (simp [intOf]; done) | (simp [intOf]; omega)
        · have hA := HDE.out hxy
          have hxyI : ¬ (x : Int) = (y : Int) := by omega
          have hxyb : ((x : Int) != (y : Int)) = true := by simpa using hxyI
          clear HNX HDE hxy
          by_cases hlt : x < y
          · have hltI : (x : Int) < (y : Int) := by omega
            rw [decide_eq_true hlt] at hA
            subst hA
            go_wp2_with fail
            refine wp_region_rel (by kernel_rfl) [some 18, some 19, some 20, some 21, some 22, some 23, some 24, some 25, some 26] [[], [], [0, 1], [2], [], [], [4, 5], [6], [3, 7]] (by kernel_rfl) (fun i v w => match i with | 0 => v = .slice (some ⟨b1, 0, none⟩) la.length c1 | 1 => v = .int .i64 (jx : Int) | 2 => v = .pointer (some ⟨b1, jx, none⟩) | 3 => v = .int .u64 (x : Int) | 4 => v = .slice (some ⟨b2, 0, none⟩) lb.length c2 | 5 => v = .int .i64 (jx : Int) | 6 => v = .pointer (some ⟨b2, jx, none⟩) | 7 => v = .int .u64 (y : Int) | 8 => v = .bool true | _ => True) (fun _ W => Below w0.heap.size w0 W) (fun _ _ => True) ?hle (HQ.out.drew) (allLt 9 ?steps) ?fin
            case hle =>
              intro i v w w1 hl h
              match i, h with
              | 0, h => exact h
              | 1, h => exact h
              | 2, h => exact h
              | 3, h => exact h
              | 4, h => exact h
              | 5, h => exact h
              | 6, h => exact h
              | 7, h => exact h
              | 8, h => exact h
              | _ + 9, h => trivial
            case steps =>
              refine ⟨⟨⟨⟨⟨⟨⟨⟨⟨trivial, ?s0⟩, ?s1⟩, ?s2⟩, ?s3⟩, ?s4⟩, ?s5⟩, ?s6⟩, ?s7⟩, ?s8⟩
              case s0 =>
                intro done a w hS h0 hd hn hO hN
                have o0 : a.tmps[0]? = some (.slice (some ⟨b1, 0, none⟩) la.length c1) := (hO.out 0 (by decide)).trans rfl
                refine relVal rfl (.slice (some ⟨b1, 0, none⟩) la.length c1) w rfl (by go_simp) ⟨_, rfl, rfl, by simpa [h0] using hS, trivial⟩
              case s1 =>
                intro done a w hS h0 hd hn hO hN
                have o5 : a.tmps[5]? = some (.int .i64 (jx : Int)) := (hO.out 5 (by decide)).trans rfl
                refine relVal rfl (.int .i64 (jx : Int)) w rfl (by go_simp) ⟨_, rfl, rfl, by simpa [h0] using hS, trivial⟩
              case s2 =>
                intro done a w hS h0 hd hn hO hN
                obtain ⟨v0, g0, r0⟩ := hN 0 (by decide)
                have g0 : a.tmps[18]? = some v0 := g0
                obtain rfl : v0 = .slice (some ⟨b1, 0, none⟩) la.length c1 := r0
                obtain ⟨v1, g1, r1⟩ := hN 1 (by decide)
                have g1 : a.tmps[19]? = some v1 := g1
                obtain rfl : v1 = .int .i64 (jx : Int) := r1
                refine relVal rfl (.pointer (some ⟨b1, jx, none⟩)) w rfl (by go_simp) ⟨_, rfl, rfl, by simpa [h0] using hS, trivial⟩
              case s3 =>
                intro done a w hS h0 hd hn hO hN
                obtain ⟨v2, g2, r2⟩ := hN 2 (by decide)
                have g2 : a.tmps[20]? = some v2 := g2
                obtain rfl : v2 = .pointer (some ⟨b1, jx, none⟩) := r2
                have hc : w.cell? ⟨b1, jx, none⟩ = some (.int .u64 (x : Int)) := (HX.out w hS).1
                refine relVal rfl (.int .u64 (x : Int)) w rfl (by go_simp) ⟨_, rfl, rfl, by simpa [h0] using hS, trivial⟩
              case s4 =>
                intro done a w hS h0 hd hn hO hN
                have o1 : a.tmps[1]? = some (.slice (some ⟨b2, 0, none⟩) lb.length c2) := (hO.out 1 (by decide)).trans rfl
                refine relVal rfl (.slice (some ⟨b2, 0, none⟩) lb.length c2) w rfl (by go_simp) ⟨_, rfl, rfl, by simpa [h0] using hS, trivial⟩
              case s5 =>
                intro done a w hS h0 hd hn hO hN
                have o5 : a.tmps[5]? = some (.int .i64 (jx : Int)) := (hO.out 5 (by decide)).trans rfl
                refine relVal rfl (.int .i64 (jx : Int)) w rfl (by go_simp) ⟨_, rfl, rfl, by simpa [h0] using hS, trivial⟩
              case s6 =>
                intro done a w hS h0 hd hn hO hN
                obtain ⟨v4, g4, r4⟩ := hN 4 (by decide)
                have g4 : a.tmps[22]? = some v4 := g4
                obtain rfl : v4 = .slice (some ⟨b2, 0, none⟩) lb.length c2 := r4
                obtain ⟨v5, g5, r5⟩ := hN 5 (by decide)
                have g5 : a.tmps[23]? = some v5 := g5
                obtain rfl : v5 = .int .i64 (jx : Int) := r5
                refine relVal rfl (.pointer (some ⟨b2, jx, none⟩)) w rfl (by go_simp) ⟨_, rfl, rfl, by simpa [h0] using hS, trivial⟩
              case s7 =>
                intro done a w hS h0 hd hn hO hN
                obtain ⟨v6, g6, r6⟩ := hN 6 (by decide)
                have g6 : a.tmps[24]? = some v6 := g6
                obtain rfl : v6 = .pointer (some ⟨b2, jx, none⟩) := r6
                have hc : w.cell? ⟨b2, jx, none⟩ = some (.int .u64 (y : Int)) := (HX.out w hS).2
                refine relVal rfl (.int .u64 (y : Int)) w rfl (by go_simp) ⟨_, rfl, rfl, by simpa [h0] using hS, trivial⟩
              case s8 =>
                intro done a w hS h0 hd hn hO hN
                obtain ⟨v3, g3, r3⟩ := hN 3 (by decide)
                have g3 : a.tmps[21]? = some v3 := g3
                obtain rfl : v3 = .int .u64 (x : Int) := r3
                obtain ⟨v7, g7, r7⟩ := hN 7 (by decide)
                have g7 : a.tmps[25]? = some v7 := g7
                obtain rfl : v7 = .int .u64 (y : Int) := r7
                refine relVal rfl (.bool true) w rfl (by go_simp) ⟨_, rfl, rfl, by simpa [h0] using hS, trivial⟩
            case fin =>
              intro vs done w hdone hS hR
              have e8 : vs 8 = .bool true := hR 8 (by decide)
              have HS := show Hid (Below w0.heap.size w0 w) from hS
              simp only [putAll, Act.put, List.setIfInBounds_toArray, List.set_cons_zero, List.set_cons_succ, e8]
              clear hS hR hdone e8
              generalize vs 0 = x0, vs 1 = x1, vs 2 = x2, vs 3 = x3, vs 4 = x4, vs 5 = x5, vs 6 = x6, vs 7 = x7
              go_wp2_with fail
              refine wp_region_rel (by kernel_rfl) [some 27, some 28, some 29, some 30, some 31, some 32, some 33, some 34, some 35, some 4] [[], [], [0, 1], [2], [], [], [4, 5], [6], [3, 7], [8]] (by kernel_rfl) (fun i v w => match i with | 0 => v = .slice (some ⟨b1, 0, none⟩) la.length c1 | 1 => v = .int .i64 (jx : Int) | 2 => v = .pointer (some ⟨b1, jx, none⟩) | 3 => v = .int .u64 (x : Int) | 4 => v = .slice (some ⟨b2, 0, none⟩) lb.length c2 | 5 => v = .int .i64 (jx : Int) | 6 => v = .pointer (some ⟨b2, jx, none⟩) | 7 => v = .int .u64 (y : Int) | 8 => v = .bool true | 9 => v = .bool true | _ => True) (fun _ W => Below w0.heap.size w0 W) (fun _ _ => True) ?hle (HS.out.drew) (allLt 10 ?steps) ?fin
              case hle =>
                intro i v w w1 hl h
                match i, h with
                | 0, h => exact h
                | 1, h => exact h
                | 2, h => exact h
                | 3, h => exact h
                | 4, h => exact h
                | 5, h => exact h
                | 6, h => exact h
                | 7, h => exact h
                | 8, h => exact h
                | 9, h => exact h
                | _ + 10, h => trivial
              case steps =>
                refine ⟨⟨⟨⟨⟨⟨⟨⟨⟨⟨trivial, ?s0⟩, ?s1⟩, ?s2⟩, ?s3⟩, ?s4⟩, ?s5⟩, ?s6⟩, ?s7⟩, ?s8⟩, ?s9⟩
                case s0 =>
                  intro done a w hS h0 hd hn hO hN
                  have o0 : a.tmps[0]? = some (.slice (some ⟨b1, 0, none⟩) la.length c1) := (hO.out 0 (by decide)).trans rfl
                  refine relVal rfl (.slice (some ⟨b1, 0, none⟩) la.length c1) w rfl (by go_simp) ⟨_, rfl, rfl, by simpa [h0] using hS, trivial⟩
                case s1 =>
                  intro done a w hS h0 hd hn hO hN
                  have o5 : a.tmps[5]? = some (.int .i64 (jx : Int)) := (hO.out 5 (by decide)).trans rfl
                  refine relVal rfl (.int .i64 (jx : Int)) w rfl (by go_simp) ⟨_, rfl, rfl, by simpa [h0] using hS, trivial⟩
                case s2 =>
                  intro done a w hS h0 hd hn hO hN
                  obtain ⟨v0, g0, r0⟩ := hN 0 (by decide)
                  have g0 : a.tmps[27]? = some v0 := g0
                  obtain rfl : v0 = .slice (some ⟨b1, 0, none⟩) la.length c1 := r0
                  obtain ⟨v1, g1, r1⟩ := hN 1 (by decide)
                  have g1 : a.tmps[28]? = some v1 := g1
                  obtain rfl : v1 = .int .i64 (jx : Int) := r1
                  refine relVal rfl (.pointer (some ⟨b1, jx, none⟩)) w rfl (by go_simp) ⟨_, rfl, rfl, by simpa [h0] using hS, trivial⟩
                case s3 =>
                  intro done a w hS h0 hd hn hO hN
                  obtain ⟨v2, g2, r2⟩ := hN 2 (by decide)
                  have g2 : a.tmps[29]? = some v2 := g2
                  obtain rfl : v2 = .pointer (some ⟨b1, jx, none⟩) := r2
                  have hc : w.cell? ⟨b1, jx, none⟩ = some (.int .u64 (x : Int)) := (HX.out w hS).1
                  refine relVal rfl (.int .u64 (x : Int)) w rfl (by go_simp) ⟨_, rfl, rfl, by simpa [h0] using hS, trivial⟩
                case s4 =>
                  intro done a w hS h0 hd hn hO hN
                  have o1 : a.tmps[1]? = some (.slice (some ⟨b2, 0, none⟩) lb.length c2) := (hO.out 1 (by decide)).trans rfl
                  refine relVal rfl (.slice (some ⟨b2, 0, none⟩) lb.length c2) w rfl (by go_simp) ⟨_, rfl, rfl, by simpa [h0] using hS, trivial⟩
                case s5 =>
                  intro done a w hS h0 hd hn hO hN
                  have o5 : a.tmps[5]? = some (.int .i64 (jx : Int)) := (hO.out 5 (by decide)).trans rfl
                  refine relVal rfl (.int .i64 (jx : Int)) w rfl (by go_simp) ⟨_, rfl, rfl, by simpa [h0] using hS, trivial⟩
                case s6 =>
                  intro done a w hS h0 hd hn hO hN
                  obtain ⟨v4, g4, r4⟩ := hN 4 (by decide)
                  have g4 : a.tmps[31]? = some v4 := g4
                  obtain rfl : v4 = .slice (some ⟨b2, 0, none⟩) lb.length c2 := r4
                  obtain ⟨v5, g5, r5⟩ := hN 5 (by decide)
                  have g5 : a.tmps[32]? = some v5 := g5
                  obtain rfl : v5 = .int .i64 (jx : Int) := r5
                  refine relVal rfl (.pointer (some ⟨b2, jx, none⟩)) w rfl (by go_simp) ⟨_, rfl, rfl, by simpa [h0] using hS, trivial⟩
                case s7 =>
                  intro done a w hS h0 hd hn hO hN
                  obtain ⟨v6, g6, r6⟩ := hN 6 (by decide)
                  have g6 : a.tmps[33]? = some v6 := g6
                  obtain rfl : v6 = .pointer (some ⟨b2, jx, none⟩) := r6
                  have hc : w.cell? ⟨b2, jx, none⟩ = some (.int .u64 (y : Int)) := (HX.out w hS).2
                  refine relVal rfl (.int .u64 (y : Int)) w rfl (by go_simp) ⟨_, rfl, rfl, by simpa [h0] using hS, trivial⟩
                case s8 =>
                  intro done a w hS h0 hd hn hO hN
                  obtain ⟨v3, g3, r3⟩ := hN 3 (by decide)
                  have g3 : a.tmps[30]? = some v3 := g3
                  obtain rfl : v3 = .int .u64 (x : Int) := r3
                  obtain ⟨v7, g7, r7⟩ := hN 7 (by decide)
                  have g7 : a.tmps[34]? = some v7 := g7
                  obtain rfl : v7 = .int .u64 (y : Int) := r7
                  refine relVal rfl (.bool true) w rfl (by go_simp) ⟨_, rfl, rfl, by simpa [h0] using hS, trivial⟩
                case s9 =>
                  intro done a w hS h0 hd hn hO hN
                  obtain ⟨v8, g8, r8⟩ := hN 8 (by decide)
                  have g8 : a.tmps[35]? = some v8 := g8
                  obtain rfl : v8 = .bool true := r8
                  refine relVal rfl (.bool true) w rfl (by go_simp) ⟨_, rfl, rfl, by simpa [h0] using hS, trivial⟩
              case fin =>
                intro vs done w hdone hS hR
                have e9 : vs 9 = .bool true := hR 9 (by decide)
                have HS5 := show Hid (Below w0.heap.size w0 w) from hS
                simp only [putAll, Act.put, List.setIfInBounds_toArray, List.set_cons_zero, List.set_cons_succ, e9]
                clear hS hR hdone e9
                generalize vs 0 = y0, vs 1 = y1, vs 2 = y2, vs 3 = y3, vs 4 = y4, vs 5 = y5, vs 6 = y6, vs 7 = y7, vs 8 = y8
                go_wp2_with fail
                go_ret
                exact ⟨rfl, HS5.out⟩
          · have hltI : ¬ (x : Int) < (y : Int) := by omega
            rw [decide_eq_false hlt] at hA
            subst hA
            go_wp2_with fail
            refine wp_region_rel (by kernel_rfl) [some 18, some 19, some 20, some 21, some 22, some 23, some 24, some 25, some 26] [[], [], [0, 1], [2], [], [], [4, 5], [6], [3, 7]] (by kernel_rfl) (fun i v w => match i with | 0 => v = .slice (some ⟨b1, 0, none⟩) la.length c1 | 1 => v = .int .i64 (jx : Int) | 2 => v = .pointer (some ⟨b1, jx, none⟩) | 3 => v = .int .u64 (x : Int) | 4 => v = .slice (some ⟨b2, 0, none⟩) lb.length c2 | 5 => v = .int .i64 (jx : Int) | 6 => v = .pointer (some ⟨b2, jx, none⟩) | 7 => v = .int .u64 (y : Int) | 8 => v = .bool true | _ => True) (fun _ W => Below w0.heap.size w0 W) (fun _ _ => True) ?hle (HQ.out.drew) (allLt 9 ?steps) ?fin
            case hle =>
              intro i v w w1 hl h
              match i, h with
              | 0, h => exact h
              | 1, h => exact h
              | 2, h => exact h
              | 3, h => exact h
              | 4, h => exact h
              | 5, h => exact h
              | 6, h => exact h
              | 7, h => exact h
              | 8, h => exact h
              | _ + 9, h => trivial
            case steps =>
              refine ⟨⟨⟨⟨⟨⟨⟨⟨⟨trivial, ?s0⟩, ?s1⟩, ?s2⟩, ?s3⟩, ?s4⟩, ?s5⟩, ?s6⟩, ?s7⟩, ?s8⟩
              case s0 =>
                intro done a w hS h0 hd hn hO hN
                have o0 : a.tmps[0]? = some (.slice (some ⟨b1, 0, none⟩) la.length c1) := (hO.out 0 (by decide)).trans rfl
                refine relVal rfl (.slice (some ⟨b1, 0, none⟩) la.length c1) w rfl (by go_simp) ⟨_, rfl, rfl, by simpa [h0] using hS, trivial⟩
              case s1 =>
                intro done a w hS h0 hd hn hO hN
                have o5 : a.tmps[5]? = some (.int .i64 (jx : Int)) := (hO.out 5 (by decide)).trans rfl
                refine relVal rfl (.int .i64 (jx : Int)) w rfl (by go_simp) ⟨_, rfl, rfl, by simpa [h0] using hS, trivial⟩
              case s2 =>
                intro done a w hS h0 hd hn hO hN
                obtain ⟨v0, g0, r0⟩ := hN 0 (by decide)
                have g0 : a.tmps[18]? = some v0 := g0
                obtain rfl : v0 = .slice (some ⟨b1, 0, none⟩) la.length c1 := r0
                obtain ⟨v1, g1, r1⟩ := hN 1 (by decide)
                have g1 : a.tmps[19]? = some v1 := g1
                obtain rfl : v1 = .int .i64 (jx : Int) := r1
                refine relVal rfl (.pointer (some ⟨b1, jx, none⟩)) w rfl (by go_simp) ⟨_, rfl, rfl, by simpa [h0] using hS, trivial⟩
              case s3 =>
                intro done a w hS h0 hd hn hO hN
                obtain ⟨v2, g2, r2⟩ := hN 2 (by decide)
                have g2 : a.tmps[20]? = some v2 := g2
                obtain rfl : v2 = .pointer (some ⟨b1, jx, none⟩) := r2
                have hc : w.cell? ⟨b1, jx, none⟩ = some (.int .u64 (x : Int)) := (HX.out w hS).1
                refine relVal rfl (.int .u64 (x : Int)) w rfl (by go_simp) ⟨_, rfl, rfl, by simpa [h0] using hS, trivial⟩
              case s4 =>
                intro done a w hS h0 hd hn hO hN
                have o1 : a.tmps[1]? = some (.slice (some ⟨b2, 0, none⟩) lb.length c2) := (hO.out 1 (by decide)).trans rfl
                refine relVal rfl (.slice (some ⟨b2, 0, none⟩) lb.length c2) w rfl (by go_simp) ⟨_, rfl, rfl, by simpa [h0] using hS, trivial⟩
              case s5 =>
                intro done a w hS h0 hd hn hO hN
                have o5 : a.tmps[5]? = some (.int .i64 (jx : Int)) := (hO.out 5 (by decide)).trans rfl
                refine relVal rfl (.int .i64 (jx : Int)) w rfl (by go_simp) ⟨_, rfl, rfl, by simpa [h0] using hS, trivial⟩
              case s6 =>
                intro done a w hS h0 hd hn hO hN
                obtain ⟨v4, g4, r4⟩ := hN 4 (by decide)
                have g4 : a.tmps[22]? = some v4 := g4
                obtain rfl : v4 = .slice (some ⟨b2, 0, none⟩) lb.length c2 := r4
                obtain ⟨v5, g5, r5⟩ := hN 5 (by decide)
                have g5 : a.tmps[23]? = some v5 := g5
                obtain rfl : v5 = .int .i64 (jx : Int) := r5
                refine relVal rfl (.pointer (some ⟨b2, jx, none⟩)) w rfl (by go_simp) ⟨_, rfl, rfl, by simpa [h0] using hS, trivial⟩
              case s7 =>
                intro done a w hS h0 hd hn hO hN
                obtain ⟨v6, g6, r6⟩ := hN 6 (by decide)
                have g6 : a.tmps[24]? = some v6 := g6
                obtain rfl : v6 = .pointer (some ⟨b2, jx, none⟩) := r6
                have hc : w.cell? ⟨b2, jx, none⟩ = some (.int .u64 (y : Int)) := (HX.out w hS).2
                refine relVal rfl (.int .u64 (y : Int)) w rfl (by go_simp) ⟨_, rfl, rfl, by simpa [h0] using hS, trivial⟩
              case s8 =>
                intro done a w hS h0 hd hn hO hN
                obtain ⟨v3, g3, r3⟩ := hN 3 (by decide)
                have g3 : a.tmps[21]? = some v3 := g3
                obtain rfl : v3 = .int .u64 (x : Int) := r3
                obtain ⟨v7, g7, r7⟩ := hN 7 (by decide)
                have g7 : a.tmps[25]? = some v7 := g7
                obtain rfl : v7 = .int .u64 (y : Int) := r7
                refine relVal rfl (.bool true) w rfl (by go_simp) ⟨_, rfl, rfl, by simpa [h0] using hS, trivial⟩
            case fin =>
              intro vs done w hdone hS hR
              have e8 : vs 8 = .bool true := hR 8 (by decide)
              have HS := show Hid (Below w0.heap.size w0 w) from hS
              simp only [putAll, Act.put, List.setIfInBounds_toArray, List.set_cons_zero, List.set_cons_succ, e8]
              clear hS hR hdone e8
              generalize vs 0 = x0, vs 1 = x1, vs 2 = x2, vs 3 = x3, vs 4 = x4, vs 5 = x5, vs 6 = x6, vs 7 = x7
              go_wp2_with fail
              refine wp_region_rel (by kernel_rfl) [some 27, some 28, some 29, some 30, some 31, some 32, some 33, some 34, some 35, some 4] [[], [], [0, 1], [2], [], [], [4, 5], [6], [3, 7], [8]] (by kernel_rfl) (fun i v w => match i with | 0 => v = .slice (some ⟨b1, 0, none⟩) la.length c1 | 1 => v = .int .i64 (jx : Int) | 2 => v = .pointer (some ⟨b1, jx, none⟩) | 3 => v = .int .u64 (x : Int) | 4 => v = .slice (some ⟨b2, 0, none⟩) lb.length c2 | 5 => v = .int .i64 (jx : Int) | 6 => v = .pointer (some ⟨b2, jx, none⟩) | 7 => v = .int .u64 (y : Int) | 8 => v = .bool false | 9 => v = .bool false | _ => True) (fun _ W => Below w0.heap.size w0 W) (fun _ _ => True) ?hle (HS.out.drew) (allLt 10 ?steps) ?fin
              case hle =>
                intro i v w w1 hl h
                match i, h with
                | 0, h => exact h
                | 1, h => exact h
                | 2, h => exact h
                | 3, h => exact h
                | 4, h => exact h
                | 5, h => exact h
                | 6, h => exact h
                | 7, h => exact h
                | 8, h => exact h
                | 9, h => exact h
                | _ + 10, h => trivial
              case steps =>
                refine ⟨⟨⟨⟨⟨⟨⟨⟨⟨⟨trivial, ?s0⟩, ?s1⟩, ?s2⟩, ?s3⟩, ?s4⟩, ?s5⟩, ?s6⟩, ?s7⟩, ?s8⟩, ?s9⟩
                case s0 =>
                  intro done a w hS h0 hd hn hO hN
                  have o0 : a.tmps[0]? = some (.slice (some ⟨b1, 0, none⟩) la.length c1) := (hO.out 0 (by decide)).trans rfl
                  refine relVal rfl (.slice (some ⟨b1, 0, none⟩) la.length c1) w rfl (by go_simp) ⟨_, rfl, rfl, by simpa [h0] using hS, trivial⟩
                case s1 =>
                  intro done a w hS h0 hd hn hO hN
                  have o5 : a.tmps[5]? = some (.int .i64 (jx : Int)) := (hO.out 5 (by decide)).trans rfl
                  refine relVal rfl (.int .i64 (jx : Int)) w rfl (by go_simp) ⟨_, rfl, rfl, by simpa [h0] using hS, trivial⟩
                case s2 =>
                  intro done a w hS h0 hd hn hO hN
                  obtain ⟨v0, g0, r0⟩ := hN 0 (by decide)
                  have g0 : a.tmps[27]? = some v0 := g0
                  obtain rfl : v0 = .slice (some ⟨b1, 0, none⟩) la.length c1 := r0
                  obtain ⟨v1, g1, r1⟩ := hN 1 (by decide)
                  have g1 : a.tmps[28]? = some v1 := g1
                  obtain rfl : v1 = .int .i64 (jx : Int) := r1
                  refine relVal rfl (.pointer (some ⟨b1, jx, none⟩)) w rfl (by go_simp) ⟨_, rfl, rfl, by simpa [h0] using hS, trivial⟩
                case s3 =>
                  intro done a w hS h0 hd hn hO hN
                  obtain ⟨v2, g2, r2⟩ := hN 2 (by decide)
                  have g2 : a.tmps[29]? = some v2 := g2
                  obtain rfl : v2 = .pointer (some ⟨b1, jx, none⟩) := r2
                  have hc : w.cell? ⟨b1, jx, none⟩ = some (.int .u64 (x : Int)) := (HX.out w hS).1
                  refine relVal rfl (.int .u64 (x : Int)) w rfl (by go_simp) ⟨_, rfl, rfl, by simpa [h0] using hS, trivial⟩
                case s4 =>
                  intro done a w hS h0 hd hn hO hN
                  have o1 : a.tmps[1]? = some (.slice (some ⟨b2, 0, none⟩) lb.length c2) := (hO.out 1 (by decide)).trans rfl
                  refine relVal rfl (.slice (some ⟨b2, 0, none⟩) lb.length c2) w rfl (by go_simp) ⟨_, rfl, rfl, by simpa [h0] using hS, trivial⟩
                case s5 =>
                  intro done a w hS h0 hd hn hO hN
                  have o5 : a.tmps[5]? = some (.int .i64 (jx : Int)) := (hO.out 5 (by decide)).trans rfl
                  refine relVal rfl (.int .i64 (jx : Int)) w rfl (by go_simp) ⟨_, rfl, rfl, by simpa [h0] using hS, trivial⟩
                case s6 =>
                  intro done a w hS h0 hd hn hO hN
                  obtain ⟨v4, g4, r4⟩ := hN 4 (by decide)
                  have g4 : a.tmps[31]? = some v4 := g4
                  obtain rfl : v4 = .slice (some ⟨b2, 0, none⟩) lb.length c2 := r4
                  obtain ⟨v5, g5, r5⟩ := hN 5 (by decide)
                  have g5 : a.tmps[32]? = some v5 := g5
                  obtain rfl : v5 = .int .i64 (jx : Int) := r5
                  refine relVal rfl (.pointer (some ⟨b2, jx, none⟩)) w rfl (by go_simp) ⟨_, rfl, rfl, by simpa [h0] using hS, trivial⟩
                case s7 =>
                  intro done a w hS h0 hd hn hO hN
                  obtain ⟨v6, g6, r6⟩ := hN 6 (by decide)
                  have g6 : a.tmps[33]? = some v6 := g6
                  obtain rfl : v6 = .pointer (some ⟨b2, jx, none⟩) := r6
                  have hc : w.cell? ⟨b2, jx, none⟩ = some (.int .u64 (y : Int)) := (HX.out w hS).2
                  refine relVal rfl (.int .u64 (y : Int)) w rfl (by go_simp) ⟨_, rfl, rfl, by simpa [h0] using hS, trivial⟩
                case s8 =>
                  intro done a w hS h0 hd hn hO hN
                  obtain ⟨v3, g3, r3⟩ := hN 3 (by decide)
                  have g3 : a.tmps[30]? = some v3 := g3
                  obtain rfl : v3 = .int .u64 (x : Int) := r3
                  obtain ⟨v7, g7, r7⟩ := hN 7 (by decide)
                  have g7 : a.tmps[34]? = some v7 := g7
                  obtain rfl : v7 = .int .u64 (y : Int) := r7
                  refine relVal rfl (.bool false) w rfl (by go_simp) ⟨_, rfl, rfl, by simpa [h0] using hS, trivial⟩
                case s9 =>
                  intro done a w hS h0 hd hn hO hN
                  obtain ⟨v8, g8, r8⟩ := hN 8 (by decide)
                  have g8 : a.tmps[35]? = some v8 := g8
                  obtain rfl : v8 = .bool false := r8
                  refine relVal rfl (.bool false) w rfl (by go_simp) ⟨_, rfl, rfl, by simpa [h0] using hS, trivial⟩
              case fin =>
                intro vs done w hdone hS hR
                have e9 : vs 9 = .bool false := hR 9 (by decide)
                have HS5 := show Hid (Below w0.heap.size w0 w) from hS
                simp only [putAll, Act.put, List.setIfInBounds_toArray, List.set_cons_zero, List.set_cons_succ, e9]
                clear hS hR hdone e9
                generalize vs 0 = y0, vs 1 = y1, vs 2 = y2, vs 3 = y3, vs 4 = y4, vs 5 = y5, vs 6 = y6, vs 7 = y7, vs 8 = y8
                go_wp2_with fail
                go_ret
                exact ⟨rfl, HS5.out⟩
      · have hlbI : ¬ (jx : Int) < (lb.length : Int) := by omega
        have hA : A = decide (la.length < lb.length) := HA.out.trans (HEN.out jx hja hjb (by omega))
        have hab : ¬ (la.length : Int) < (lb.length : Int) := by omega
        rw [decide_eq_false (by omega)] at hA
        subst hA
        clear HA HEN HL HAT
        go_wp2_with fail
        go_ret
        exact ⟨rfl, HQ.out⟩
    · have hlaI : ¬ (jx : Int) < (la.length : Int) := by omega
      have hA : A = decide (la.length < lb.length) := HA.out.trans (HEN.out jx hja hjb (by omega))
      clear HA HEN HL HAT
      by_cases hab : la.length < lb.length
      · have habI : (la.length : Int) < (lb.length : Int) := by omega
        rw [decide_eq_true hab] at hA
        subst hA
        go_wp2_with fail
        go_ret
        exact ⟨rfl, HQ.out⟩
      · have habI : ¬ (la.length : Int) < (lb.length : Int) := by omega
        rw [decide_eq_false hab] at hA
        subst hA
        go_wp2_with fail
        go_ret
        exact ⟨rfl, HQ.out⟩
end Go.Proofs.YtpddfooeaecekaaDoor
