/-
  What the rules are tried on, in memory; is a formula on the left side, is it the goal, the sequent without it. For every work that lies there. (Written by genzwork.py.)
-/
import Derived.Test.YtpddfooeaecekaaDoorZShape
import Derived.Test.YtpddfooeaecekaaDoorZWith
import Derived.Test.YtpddfooeaecekaaDoorZRel
namespace Go.Proofs.YtpddfooeaecekaaDoor
open Go.RowKit Go.Shelf Go.Maps
open Fm (Nd)
open Bt.Bs (Ok wd)
set_option linter.unusedSimpArgs false

def wkC (b : Nat) (r : List Nat) (g : Int) (tv : Value) (fl : Bool) : Array Value := ([Value.pointer (some ⟨b, 0, none⟩)] ++ (Bt.listB r ++ [Value.int .i64 g]) ++ [tv, Value.bool fl]).toArray
def Wk (w : World) (k b : Nat) (r : List Nat) (g : Int) (tv : Value) (fl : Bool) : Prop := Cl w k (wkC b r g tv fl) 104
section
variable {w w' : World} {k b : Nat} {r : List Nat} {g : Int} {tv : Value} {fl : Bool}
theorem wkC_size (hr : r.length = 16) : (wkC b r g tv fl).size = 20 := by simp [wkC, Bt.listB, hr]
theorem Wk.later (h : Wk w k b r g tv fl) (hb : Below w.heap.size w w') : Wk w' k b r g tv fl := Cl.later h hb
theorem Wk.tab (h : Wk w k b r g tv fl) : w.cell? ⟨k, 0, none⟩ = some (.pointer (some ⟨b, 0, none⟩)) := by rw [Cl.cell h 0]; rfl
theorem Wk.seq (h : Wk w k b r g tv fl) : SeqIn w k 1 r g := fun j v hv => by
  rw [Cl.cell h (1 + j)]
  have hj := (List.getElem?_eq_some_iff.1 hv).1
  simp only [wkC, List.getElem?_toArray]
  rw [List.getElem?_append_left (by simp at hj ⊢; omega), List.getElem?_append_right (by simp)]
  simpa using hv
theorem Wk.goal (h : Wk w k b r g tv fl) (hr : r.length = 16) : w.cell? ⟨k, 17, none⟩ = some (.int .i64 g) := h.seq.goal hr
theorem Wk.at18 (h : Wk w k b r g tv fl) (hr : r.length = 16) : w.cell? ⟨k, 18, none⟩ = some tv := by
  rw [Cl.cell h 18]
  have hl : (Bt.listB r).length = 16 := (by simp [Bt.listB, hr])
  simp only [wkC, List.getElem?_toArray]
  rw [List.getElem?_append_right (by simp [hl])]
  simp [hl]
theorem Wk.at19 (h : Wk w k b r g tv fl) (hr : r.length = 16) : w.cell? ⟨k, 19, none⟩ = some (.bool fl) := by
  rw [Cl.cell h 19]
  have hl : (Bt.listB r).length = 16 := (by simp [Bt.listB, hr])
  simp only [wkC, List.getElem?_toArray]
  rw [List.getElem?_append_right (by simp [hl])]
  simp [hl]
end
def inL (r : List Nat) (x : Int) : Bool := decide ((Bt.putI r x).1 = r)
def I1 (v : Value) (x : Int) (w : World) : Prop := ∃ q, v = .slice (some ⟨q, 0, none⟩) 1 1 ∧ w.cell? ⟨q, 0, none⟩ = some (.int .i64 x)
theorem I1.isL {v : Value} {x : Int} {w : World} (h : I1 v x w) : Bt.IsL w v [x] := by
  obtain ⟨q, rfl, hc⟩ := h
  refine ⟨_, _, rfl, by simp, fun k hk => ⟨q, 0, rfl, ?_⟩⟩
  obtain rfl : k = 0 := by simpa using hk
  simpa using hc
theorem I1.later {v : Value} {x : Int} {w w' : World} (h : I1 v x w) (hb : Below w.heap.size w w') : I1 v x w' := by
  obtain ⟨q, hv, hc⟩ := h
  exact ⟨q, hv, cell_later hb hc⟩
theorem i1_new (w : World) (x : Int) (T : TypeId) : I1 (.slice (some ⟨w.heap.size, 0, none⟩) 1 1) x (w.alloc (.cells #[.int .i64 x] T)) := ⟨_, rfl, by rw [World.cell?_alloc_new]; rfl⟩
def I2 (v : Value) (x y : Int) (w : World) : Prop := ∃ q, v = .slice (some ⟨q, 0, none⟩) 2 2 ∧ w.cell? ⟨q, 0, none⟩ = some (.int .i64 x) ∧ w.cell? ⟨q, 1, none⟩ = some (.int .i64 y)
theorem I2.isL {v : Value} {x y : Int} {w : World} (h : I2 v x y w) : Bt.IsL w v [x, y] := by
  obtain ⟨q, rfl, hc, hd⟩ := h
  refine ⟨_, _, rfl, by simp, fun k hk => ⟨q, 0, rfl, ?_⟩⟩
  match k, hk with
  | 0, _ => simpa using hc
  | 1, _ => simpa using hd
theorem I2.later {v : Value} {x y : Int} {w w' : World} (h : I2 v x y w) (hb : Below w.heap.size w w') : I2 v x y w' := by
  obtain ⟨q, hv, hc, hd⟩ := h
  exact ⟨q, hv, cell_later hb hc, cell_later hb hd⟩
theorem i2_new (w : World) (x y : Int) (T : TypeId) : I2 (.slice (some ⟨w.heap.size, 0, none⟩) 2 2) x y (w.alloc (.cells #[.int .i64 x, .int .i64 y] T)) := ⟨_, rfl, by rw [World.cell?_alloc_new]; rfl, by rw [World.cell?_alloc_new]; rfl⟩
theorem sameQ_goal (r : List Nat) (x g : Int) : sameQ r x r g = (x == g) := by simp [sameQ]
theorem sameQ_left (r r' : List Nat) (g : Int) : sameQ r' g r g = decide (r' = r) := by simp [sameQ]
set_option maxRecDepth 100000 in
set_option maxHeartbeats 2000000 in
theorem isGoal_any (w0 : World) {k b : Nat} {r : List Nat} {g : Int} {tv : Value} {fl : Bool} (hW : Wk w0 k b r g tv fl) (hr : Ok r) (x : Int) : Calls Tryd.prog 64 #[.pointer (some ⟨k, 0, none⟩), .int .i64 x] w0 fun e w' => e = .returned (.bool (x == g)) ∧ Below w0.heap.size w0 w' := by
  have HW := show Hid (∀ W, Below w0.heap.size w0 W → Wk W k b r g tv fl) from fun W h => hW.later h
  clear hW
  go_enter Tryd.func64, Tryd.ntmps64
  go_wp2_with fail
  refine wp_region_rel (by kernel_rfl) [some 5, some 6, some 7, some 8, some 9, some 10, some 11, some 12, some 13, some 14, some 15, some 4] [[], [0], [1], [2], [], [3, 4], [], [6], [7], [8], [5, 9], [10]] (by kernel_rfl) (fun i v w => match i with | 0 => v = .pointer (some ⟨k, 0, none⟩) | 1 => v = .pointer (some ⟨k, 0, none⟩) | 2 => v = .pointer (some ⟨k, 1, none⟩) | 3 => v = .agg (cellsQ r g) | 4 => v = .int .i64 x | 5 => v = .agg (cellsQ r x) | 6 => v = .pointer (some ⟨k, 0, none⟩) | 7 => v = .pointer (some ⟨k, 0, none⟩) | 8 => v = .pointer (some ⟨k, 1, none⟩) | 9 => v = .agg (cellsQ r g) | 10 => v = .bool (sameQ (r) (x) (r) (g)) | 11 => v = .bool (sameQ r x r g) | _ => True) (fun _ W => Below w0.heap.size w0 W) (fun W W' => Below W.heap.size W W') ?hle ((Below.refl _ _).drew) (allLt 12 ?steps) ?fin
  case hle =>
    intro i v w w1 hl h
    match i, h with
    | 0, h => exact h
    | 1, h => exact h
    | 2, h => exact h
    | 3, h => exact h
    | 4, h => exact h
    | 5, h => exact h
    | 6, h => exact h
    | 7, h => exact h
    | 8, h => exact h
    | 9, h => exact h
    | 10, h => exact h
    | 11, h => exact h
    | _ + 12, h => trivial
  case steps =>
    refine ⟨⟨⟨⟨⟨⟨⟨⟨⟨⟨⟨⟨trivial, ?s0⟩, ?s1⟩, ?s2⟩, ?s3⟩, ?s4⟩, ?s5⟩, ?s6⟩, ?s7⟩, ?s8⟩, ?s9⟩, ?s10⟩, ?s11⟩
    case s0 =>
      intro done a w hS h0 hd hn hO hN
      have o0 : a.tmps[0]? = some (.pointer (some ⟨k, 0, none⟩)) := (hO.out 0 (by decide)).trans rfl
      refine relVal rfl (.pointer (some ⟨k, 0, none⟩)) w rfl (by go_simp) ⟨_, rfl, rfl, by simpa [h0] using hS, Below.refl _ _⟩
    case s1 =>
      intro done a w hS h0 hd hn hO hN
      obtain ⟨v0, g0, r0⟩ := hN 0 (by decide)
      have g0 : a.tmps[5]? = some v0 := g0
      obtain rfl : v0 = .pointer (some ⟨k, 0, none⟩) := r0
      refine relVal rfl (.pointer (some ⟨k, 0, none⟩)) w rfl (by go_simp) ⟨_, rfl, rfl, by simpa [h0] using hS, Below.refl _ _⟩
    case s2 =>
      intro done a w hS h0 hd hn hO hN
      obtain ⟨v1, g1, r1⟩ := hN 1 (by decide)
      have g1 : a.tmps[6]? = some v1 := g1
      obtain rfl : v1 = .pointer (some ⟨k, 0, none⟩) := r1
      refine relVal rfl (.pointer (some ⟨k, 1, none⟩)) w rfl (by go_simp) ⟨_, rfl, rfl, by simpa [h0] using hS, Below.refl _ _⟩
    case s3 =>
      intro done a w hS h0 hd hn hO hN
      obtain ⟨v2, g2, r2⟩ := hN 2 (by decide)
      have g2 : a.tmps[7]? = some v2 := g2
      obtain rfl : v2 = .pointer (some ⟨k, 1, none⟩) := r2
      have hl := loadQin w k 1 (HW.out w hS).seq hr.1
      refine relVal rfl (.agg (cellsQ r g)) w rfl (by simp [execOp, Act.eval, g2, hl, Result.andThen]) ⟨_, rfl, rfl, by simpa [h0] using hS, Below.refl _ _⟩
    case s4 =>
      intro done a w hS h0 hd hn hO hN
      have o1 : a.tmps[1]? = some (.int .i64 x) := (hO.out 1 (by decide)).trans rfl
      refine relVal rfl (.int .i64 x) w rfl (by go_simp) ⟨_, rfl, rfl, by simpa [h0] using hS, Below.refl _ _⟩
    case s5 =>
      intro done a w hS h0 hd hn hO hN
      obtain ⟨v3, g3, r3⟩ := hN 3 (by decide)
      have g3 : a.tmps[8]? = some v3 := g3
      obtain rfl : v3 = .agg (cellsQ r g) := r3
      obtain ⟨v4, g4, r4⟩ := hN 4 (by decide)
      have g4 : a.tmps[9]? = some v4 := g4
      obtain rfl : v4 = .int .i64 x := r4
      refine relCallF rfl rfl 77 [.tmp 8, .tmp 9] #[27, 3] rfl [.agg (cellsQ r g), .int .i64 x] (by simp [Act.eval, g3, g4]) (enters_of Tryd.func77 (by kernel_rfl) rfl) (Calls.mono (to_any w hr.1 g x) ?_)
      rintro e w1 ⟨rfl, hb⟩
      exact ⟨_, rfl, _, rfl, rfl, hS.trans (hb.mono hS.size), hb⟩
    case s6 =>
      intro done a w hS h0 hd hn hO hN
      have o0 : a.tmps[0]? = some (.pointer (some ⟨k, 0, none⟩)) := (hO.out 0 (by decide)).trans rfl
      refine relVal rfl (.pointer (some ⟨k, 0, none⟩)) w rfl (by go_simp) ⟨_, rfl, rfl, by simpa [h0] using hS, Below.refl _ _⟩
    case s7 =>
      intro done a w hS h0 hd hn hO hN
      obtain ⟨v6, g6, r6⟩ := hN 6 (by decide)
      have g6 : a.tmps[11]? = some v6 := g6
      obtain rfl : v6 = .pointer (some ⟨k, 0, none⟩) := r6
      refine relVal rfl (.pointer (some ⟨k, 0, none⟩)) w rfl (by go_simp) ⟨_, rfl, rfl, by simpa [h0] using hS, Below.refl _ _⟩
    case s8 =>
      intro done a w hS h0 hd hn hO hN
      obtain ⟨v7, g7, r7⟩ := hN 7 (by decide)
      have g7 : a.tmps[12]? = some v7 := g7
      obtain rfl : v7 = .pointer (some ⟨k, 0, none⟩) := r7
      refine relVal rfl (.pointer (some ⟨k, 1, none⟩)) w rfl (by go_simp) ⟨_, rfl, rfl, by simpa [h0] using hS, Below.refl _ _⟩
    case s9 =>
      intro done a w hS h0 hd hn hO hN
      obtain ⟨v8, g8, r8⟩ := hN 8 (by decide)
      have g8 : a.tmps[13]? = some v8 := g8
      obtain rfl : v8 = .pointer (some ⟨k, 1, none⟩) := r8
      have hl := loadQin w k 1 (HW.out w hS).seq hr.1
      refine relVal rfl (.agg (cellsQ r g)) w rfl (by simp [execOp, Act.eval, g8, hl, Result.andThen]) ⟨_, rfl, rfl, by simpa [h0] using hS, Below.refl _ _⟩
    case s10 =>
      intro done a w hS h0 hd hn hO hN
      obtain ⟨v5, g5, r5⟩ := hN 5 (by decide)
      have g5 : a.tmps[10]? = some v5 := g5
      obtain rfl : v5 = .agg (cellsQ r x) := r5
      obtain ⟨v9, g9, r9⟩ := hN 9 (by decide)
      have g9 : a.tmps[14]? = some v9 := g9
      obtain rfl : v9 = .agg (cellsQ r g) := r9
      have hq := (eql_seq w (p := r) (q := r) hr.1 hr.1 (x) (g)).1
      refine relVal rfl (.bool (sameQ (r) (x) (r) (g))) w rfl (by simp [execOp, Act.eval, g5, g9, eqGuard, hq, Result.andThen]) ⟨_, rfl, rfl, hS, ?_⟩
      exact Below.refl _ _
    case s11 =>
      intro done a w hS h0 hd hn hO hN
      obtain ⟨v10, g10, r10⟩ := hN 10 (by decide)
      have g10 : a.tmps[15]? = some v10 := g10
      obtain rfl : v10 = .bool (sameQ (r) (x) (r) (g)) := r10
      refine relVal rfl (.bool (sameQ r x r g)) w rfl (by go_simp) ⟨_, rfl, rfl, by simpa [h0] using hS, Below.refl _ _⟩
  case fin =>
    intro vs done w hdone hS hR
    simp only [putAll, Act.put, List.setIfInBounds_toArray, List.set_cons_zero, List.set_cons_succ]
    have hR4 : vs 11 = .bool (sameQ r x r g) := hR 11 (by decide)
    rw [hR4, sameQ_goal]
    have HS := show Hid _ from hS
    clear hS hR hdone hR4
    go_wp2_with fail
    go_ret
    exact ⟨rfl, HS.out⟩
set_option maxRecDepth 100000 in
set_option maxHeartbeats 2000000 in
theorem inLeft_any (w0 : World) {k b : Nat} {r : List Nat} {g : Int} {tv : Value} {fl : Bool} (hW : Wk w0 k b r g tv fl) (hr : Ok r) (x : Int) : Calls Tryd.prog 65 #[.pointer (some ⟨k, 0, none⟩), .int .i64 x] w0 fun e w' => e = .returned (.bool (inL r x)) ∧ Below w0.heap.size w0 w' := by
  have HW := show Hid (∀ W, Below w0.heap.size w0 W → Wk W k b r g tv fl) from fun W h => hW.later h
  clear hW
  go_enter Tryd.func65, Tryd.ntmps65
  go_wp2_with fail
  refine wp_region_rel (by kernel_rfl) [some 5, some 6, some 7, some 8, some 9, some 10, some 11, some 12, some 13, some 14, some 15, some 16, some 4] [[], [0], [1], [2], [], [4], [3, 5], [], [7], [8], [9], [6, 10], [11]] (by kernel_rfl) (fun i v w => match i with | 0 => v = .pointer (some ⟨k, 0, none⟩) | 1 => v = .pointer (some ⟨k, 0, none⟩) | 2 => v = .pointer (some ⟨k, 1, none⟩) | 3 => v = .agg (cellsQ r g) | 4 => v = .int .i64 x | 5 => I1 v x w | 6 => v = .agg (cellsQ (withF r [x]) g) | 7 => v = .pointer (some ⟨k, 0, none⟩) | 8 => v = .pointer (some ⟨k, 0, none⟩) | 9 => v = .pointer (some ⟨k, 1, none⟩) | 10 => v = .agg (cellsQ r g) | 11 => v = .bool (sameQ (withF r [x]) (g) (r) (g)) | 12 => v = .bool (sameQ (withF r [x]) g r g) | _ => True) (fun _ W => Below w0.heap.size w0 W) (fun W W' => Below W.heap.size W W') ?hle ((Below.refl _ _).drew) (allLt 13 ?steps) ?fin
  case hle =>
    intro i v w w1 hl h
    match i, h with
    | 0, h => exact h
    | 1, h => exact h
    | 2, h => exact h
    | 3, h => exact h
    | 4, h => exact h
    | 5, h => exact I1.later h hl
    | 6, h => exact h
    | 7, h => exact h
    | 8, h => exact h
    | 9, h => exact h
    | 10, h => exact h
    | 11, h => exact h
    | 12, h => exact h
    | _ + 13, h => trivial
  case steps =>
    refine ⟨⟨⟨⟨⟨⟨⟨⟨⟨⟨⟨⟨⟨trivial, ?s0⟩, ?s1⟩, ?s2⟩, ?s3⟩, ?s4⟩, ?s5⟩, ?s6⟩, ?s7⟩, ?s8⟩, ?s9⟩, ?s10⟩, ?s11⟩, ?s12⟩
    case s0 =>
      intro done a w hS h0 hd hn hO hN
      have o0 : a.tmps[0]? = some (.pointer (some ⟨k, 0, none⟩)) := (hO.out 0 (by decide)).trans rfl
      refine relVal rfl (.pointer (some ⟨k, 0, none⟩)) w rfl (by go_simp) ⟨_, rfl, rfl, by simpa [h0] using hS, Below.refl _ _⟩
    case s1 =>
      intro done a w hS h0 hd hn hO hN
      obtain ⟨v0, g0, r0⟩ := hN 0 (by decide)
      have g0 : a.tmps[5]? = some v0 := g0
      obtain rfl : v0 = .pointer (some ⟨k, 0, none⟩) := r0
      refine relVal rfl (.pointer (some ⟨k, 0, none⟩)) w rfl (by go_simp) ⟨_, rfl, rfl, by simpa [h0] using hS, Below.refl _ _⟩
    case s2 =>
      intro done a w hS h0 hd hn hO hN
      obtain ⟨v1, g1, r1⟩ := hN 1 (by decide)
      have g1 : a.tmps[6]? = some v1 := g1
      obtain rfl : v1 = .pointer (some ⟨k, 0, none⟩) := r1
      refine relVal rfl (.pointer (some ⟨k, 1, none⟩)) w rfl (by go_simp) ⟨_, rfl, rfl, by simpa [h0] using hS, Below.refl _ _⟩
    case s3 =>
      intro done a w hS h0 hd hn hO hN
      obtain ⟨v2, g2, r2⟩ := hN 2 (by decide)
      have g2 : a.tmps[7]? = some v2 := g2
      obtain rfl : v2 = .pointer (some ⟨k, 1, none⟩) := r2
      have hl := loadQin w k 1 (HW.out w hS).seq hr.1
      refine relVal rfl (.agg (cellsQ r g)) w rfl (by simp [execOp, Act.eval, g2, hl, Result.andThen]) ⟨_, rfl, rfl, by simpa [h0] using hS, Below.refl _ _⟩
    case s4 =>
      intro done a w hS h0 hd hn hO hN
      have o1 : a.tmps[1]? = some (.int .i64 x) := (hO.out 1 (by decide)).trans rfl
      refine relVal rfl (.int .i64 x) w rfl (by go_simp) ⟨_, rfl, rfl, by simpa [h0] using hS, Below.refl _ _⟩
    case s5 =>
      intro done a w hS h0 hd hn hO hN
      obtain ⟨v4, g4, r4⟩ := hN 4 (by decide)
      have g4 : a.tmps[9]? = some v4 := g4
      obtain rfl : v4 = .int .i64 x := r4
      refine relVal rfl (.slice (some ⟨w.heap.size, 0, none⟩) 1 1) (w.alloc (.cells #[.int .i64 x] 3)) rfl (by go_simp) ⟨_, rfl, i1_new w x _, hS.alloc hS.size _, below_alloc w _⟩
    case s6 =>
      intro done a w hS h0 hd hn hO hN
      obtain ⟨v3, g3, r3⟩ := hN 3 (by decide)
      have g3 : a.tmps[8]? = some v3 := g3
      obtain rfl : v3 = .agg (cellsQ r g) := r3
      obtain ⟨v5, g5, r5⟩ := hN 5 (by decide)
      have g5 : a.tmps[10]? = some v5 := g5
      refine relCallF rfl rfl 67 [.tmp 8, .tmp 10] #[27, 28] rfl [.agg (cellsQ r g), v5] (by simp [Act.eval, g3, g5]) (enters_of Tryd.func67 (by kernel_rfl) rfl) (Calls.mono (withq_any w hr g v5 [x] r5.isL) ?_)
      rintro e w1 ⟨rfl, hb⟩
      exact ⟨_, rfl, _, rfl, rfl, hS.trans (hb.mono hS.size), hb⟩
    case s7 =>
      intro done a w hS h0 hd hn hO hN
      have o0 : a.tmps[0]? = some (.pointer (some ⟨k, 0, none⟩)) := (hO.out 0 (by decide)).trans rfl
      refine relVal rfl (.pointer (some ⟨k, 0, none⟩)) w rfl (by go_simp) ⟨_, rfl, rfl, by simpa [h0] using hS, Below.refl _ _⟩
    case s8 =>
      intro done a w hS h0 hd hn hO hN
      obtain ⟨v7, g7, r7⟩ := hN 7 (by decide)
      have g7 : a.tmps[12]? = some v7 := g7
      obtain rfl : v7 = .pointer (some ⟨k, 0, none⟩) := r7
      refine relVal rfl (.pointer (some ⟨k, 0, none⟩)) w rfl (by go_simp) ⟨_, rfl, rfl, by simpa [h0] using hS, Below.refl _ _⟩
    case s9 =>
      intro done a w hS h0 hd hn hO hN
      obtain ⟨v8, g8, r8⟩ := hN 8 (by decide)
      have g8 : a.tmps[13]? = some v8 := g8
      obtain rfl : v8 = .pointer (some ⟨k, 0, none⟩) := r8
      refine relVal rfl (.pointer (some ⟨k, 1, none⟩)) w rfl (by go_simp) ⟨_, rfl, rfl, by simpa [h0] using hS, Below.refl _ _⟩
    case s10 =>
      intro done a w hS h0 hd hn hO hN
      obtain ⟨v9, g9, r9⟩ := hN 9 (by decide)
      have g9 : a.tmps[14]? = some v9 := g9
      obtain rfl : v9 = .pointer (some ⟨k, 1, none⟩) := r9
      have hl := loadQin w k 1 (HW.out w hS).seq hr.1
      refine relVal rfl (.agg (cellsQ r g)) w rfl (by simp [execOp, Act.eval, g9, hl, Result.andThen]) ⟨_, rfl, rfl, by simpa [h0] using hS, Below.refl _ _⟩
    case s11 =>
      intro done a w hS h0 hd hn hO hN
      obtain ⟨v6, g6, r6⟩ := hN 6 (by decide)
      have g6 : a.tmps[11]? = some v6 := g6
      obtain rfl : v6 = .agg (cellsQ (withF r [x]) g) := r6
      obtain ⟨v10, g10, r10⟩ := hN 10 (by decide)
      have g10 : a.tmps[15]? = some v10 := g10
      obtain rfl : v10 = .agg (cellsQ r g) := r10
      have hq := (eql_seq w (p := withF r [x]) (q := r) (withF_ok [x] hr).1 hr.1 (g) (g)).1
      refine relVal rfl (.bool (sameQ (withF r [x]) (g) (r) (g))) w rfl (by simp [execOp, Act.eval, g6, g10, eqGuard, hq, Result.andThen]) ⟨_, rfl, rfl, hS, ?_⟩
      exact Below.refl _ _
    case s12 =>
      intro done a w hS h0 hd hn hO hN
      obtain ⟨v11, g11, r11⟩ := hN 11 (by decide)
      have g11 : a.tmps[16]? = some v11 := g11
      obtain rfl : v11 = .bool (sameQ (withF r [x]) (g) (r) (g)) := r11
      refine relVal rfl (.bool (sameQ (withF r [x]) g r g)) w rfl (by go_simp) ⟨_, rfl, rfl, by simpa [h0] using hS, Below.refl _ _⟩
  case fin =>
    intro vs done w hdone hS hR
    simp only [putAll, Act.put, List.setIfInBounds_toArray, List.set_cons_zero, List.set_cons_succ]
    have hR4 : vs 12 = .bool (sameQ (withF r [x]) g r g) := hR 12 (by decide)
    rw [hR4, sameQ_left]
    have HS := show Hid _ from hS
    clear hS hR hdone hR4
    go_wp2_with fail
    go_ret
    exact ⟨rfl, HS.out⟩
theorem dropI_okZ {r : List Nat} (h : Ok r) (n : Int) : Ok (Bt.dropI r n) := by
  unfold Bt.dropI
  split
  · exact Bt.Bs.drop_ok h _
  · exact h
set_option maxRecDepth 100000 in
set_option maxHeartbeats 2000000 in
theorem rest_any (w0 : World) {k b : Nat} {r : List Nat} {g : Int} {tv : Value} {fl : Bool} (hW : Wk w0 k b r g tv fl) (hr : Ok r) (m : Sh) : Calls Tryd.prog 68 #[.pointer (some ⟨k, 0, none⟩), shV m] w0 fun e w' => e = .returned (.agg (cellsQ (Bt.dropI r m.id) g)) ∧ Below w0.heap.size w0 w' := by
  have HW := show Hid (∀ W, Below w0.heap.size w0 W → Wk W k b r g tv fl) from fun W h => hW.later h
  have hD := dropI_okZ hr m.id
  clear hW
  unfold shV
  go_enter Tryd.func68, Tryd.ntmps68
  go_wp2_with (refine wpList_box _ _ rfl _ rfl rfl ?_)
  intro w1 b3 hn1
  go_wp2_with (refine wpList_alloc _ rfl _ zeroValQ rfl ?_)
  intro w2 b4 hn2
  have H2 := show Hid (Below w0.heap.size w0 w2 ∧ Cl w2 b3 (shC m) 98 ∧ SeqAt w2 b4 Bt.Bs.zero 0) from ⟨bel_new hn1.bel hn2, Cl.new hn1.blk hn2, hn2.blk⟩
  have hl4 : w0.heap.size ≤ b4 := by have := hn1.bel.size; have := hn2.ge; omega
  have hne : b3 ≠ b4 := by have := Cl.lt hn1.blk; have := hn2.ge; omega
  clear hn1 hn2
  go_wp2_with fail
  refine wp_region_rel (by kernel_rfl) [some 5, some 6, some 7, some 8, some 9, some 10, some 11, some 12, some 13, some 14, some 15, some 16, some 17, some 18, none] [[], [0], [1], [2], [3], [], [5], [4, 6], [], [8], [9], [10], [11], [7, 12], [13]] (by kernel_rfl) (fun i v w => match i with | 0 => v = .pointer (some ⟨k, 0, none⟩) | 1 => v = .pointer (some ⟨k, 0, none⟩) | 2 => v = .pointer (some ⟨k, 1, none⟩) | 3 => v = .pointer (some ⟨k, 1, none⟩) | 4 => v = .agg (Bt.cellsB r) | 5 => v = .pointer (some ⟨b3, 0, none⟩) | 6 => v = .int .i64 m.id | 7 => v = .agg (Bt.cellsB (Bt.dropI r m.id)) | 8 => v = .pointer (some ⟨k, 0, none⟩) | 9 => v = .pointer (some ⟨k, 0, none⟩) | 10 => v = .pointer (some ⟨k, 1, none⟩) | 11 => v = .pointer (some ⟨k, 17, none⟩) | 12 => v = .int .i64 g | 13 => v = .agg (cellsQ (Bt.dropI r m.id) g) | 14 => True | _ => True) (fun done W => Below w0.heap.size w0 W ∧ Cl W b3 (shC m) 98 ∧ SeqAt W b4 (if done 14 then Bt.dropI r m.id else Bt.Bs.zero) (if done 14 then g else 0)) (fun _ _ => True) ?hle (⟨H2.out.1.drew, H2.out.2.1, H2.out.2.2⟩) (allLt 15 ?steps) ?fin
  case hle =>
    intro i v w w1 hl h
    match i, h with
    | 0, h => exact h
    | 1, h => exact h
    | 2, h => exact h
    | 3, h => exact h
    | 4, h => exact h
    | 5, h => exact h
    | 6, h => exact h
    | 7, h => exact h
    | 8, h => exact h
    | 9, h => exact h
    | 10, h => exact h
    | 11, h => exact h
    | 12, h => exact h
    | 13, h => exact h
    | 14, h => exact h
    | _ + 15, h => trivial
  case steps =>
    refine ⟨⟨⟨⟨⟨⟨⟨⟨⟨⟨⟨⟨⟨⟨⟨trivial, ?s0⟩, ?s1⟩, ?s2⟩, ?s3⟩, ?s4⟩, ?s5⟩, ?s6⟩, ?s7⟩, ?s8⟩, ?s9⟩, ?s10⟩, ?s11⟩, ?s12⟩, ?s13⟩, ?s14⟩
    case s0 =>
      intro done a w hS h0 hd hn hO hN
      have o0 : a.tmps[0]? = some (.pointer (some ⟨k, 0, none⟩)) := (hO.out 0 (by decide)).trans rfl
      refine relVal rfl (.pointer (some ⟨k, 0, none⟩)) w rfl (by go_simp) ⟨_, rfl, rfl, by simpa [h0] using hS, trivial⟩
    case s1 =>
      intro done a w hS h0 hd hn hO hN
      obtain ⟨v0, g0, r0⟩ := hN 0 (by decide)
      have g0 : a.tmps[5]? = some v0 := g0
      obtain rfl : v0 = .pointer (some ⟨k, 0, none⟩) := r0
      refine relVal rfl (.pointer (some ⟨k, 0, none⟩)) w rfl (by go_simp) ⟨_, rfl, rfl, by simpa [h0] using hS, trivial⟩
    case s2 =>
      intro done a w hS h0 hd hn hO hN
      obtain ⟨v1, g1, r1⟩ := hN 1 (by decide)
      have g1 : a.tmps[6]? = some v1 := g1
      obtain rfl : v1 = .pointer (some ⟨k, 0, none⟩) := r1
      refine relVal rfl (.pointer (some ⟨k, 1, none⟩)) w rfl (by go_simp) ⟨_, rfl, rfl, by simpa [h0] using hS, trivial⟩
    case s3 =>
      intro done a w hS h0 hd hn hO hN
      obtain ⟨v2, g2, r2⟩ := hN 2 (by decide)
      have g2 : a.tmps[7]? = some v2 := g2
      obtain rfl : v2 = .pointer (some ⟨k, 1, none⟩) := r2
      refine relVal rfl (.pointer (some ⟨k, 1, none⟩)) w rfl (by go_simp) ⟨_, rfl, rfl, by simpa [h0] using hS, trivial⟩
    case s4 =>
      intro done a w hS h0 hd hn hO hN
      obtain ⟨v3, g3, r3⟩ := hN 3 (by decide)
      have g3 : a.tmps[8]? = some v3 := g3
      obtain rfl : v3 = .pointer (some ⟨k, 1, none⟩) := r3
      have hl := loadBin w k 1 (HW.out w hS.1).seq hr.1
      refine relVal rfl (.agg (Bt.cellsB r)) w rfl (by simp [execOp, Act.eval, g3, hl, Result.andThen]) ⟨_, rfl, rfl, by simpa [h0] using hS, trivial⟩
    case s5 =>
      intro done a w hS h0 hd hn hO hN
      have o3 : a.tmps[3]? = some (.pointer (some ⟨b3, 0, none⟩)) := (hO.out 3 (by decide)).trans rfl
      refine relVal rfl (.pointer (some ⟨b3, 0, none⟩)) w rfl (by go_simp) ⟨_, rfl, rfl, by simpa [h0] using hS, trivial⟩
    case s6 =>
      intro done a w hS h0 hd hn hO hN
      obtain ⟨v5, g5, r5⟩ := hN 5 (by decide)
      have g5 : a.tmps[10]? = some v5 := g5
      obtain rfl : v5 = .pointer (some ⟨b3, 0, none⟩) := r5
      have hc : w.cell? ⟨b3, 0, none⟩ = some (.int .i64 m.id) := hS.2.1.cell 0
      refine relVal rfl (.int .i64 m.id) w rfl (by go_simp) ⟨_, rfl, rfl, by simpa [h0] using hS, trivial⟩
    case s7 =>
      intro done a w hS h0 hd hn hO hN
      obtain ⟨v4, g4, r4⟩ := hN 4 (by decide)
      have g4 : a.tmps[9]? = some v4 := g4
      obtain rfl : v4 = .agg (Bt.cellsB r) := r4
      obtain ⟨v6, g6, r6⟩ := hN 6 (by decide)
      have g6 : a.tmps[11]? = some v6 := g6
      obtain rfl : v6 = .int .i64 m.id := r6
      refine relCallF rfl rfl 95 [.tmp 9, .tmp 11] #[25, 3] rfl [.agg (Bt.cellsB r), .int .i64 m.id] (by simp [Act.eval, g4, g6]) (enters_of Tryd.func95 (by kernel_rfl) rfl) (Calls.mono (Bt.drop_any w hr m.id) ?_)
      rintro e w1 ⟨rfl, hb⟩
      exact ⟨_, rfl, _, rfl, rfl, ⟨hS.1.trans (hb.mono hS.1.size), hS.2.1.later hb, by simpa using hS.2.2.later hb hS.2.2.lt⟩, trivial⟩
    case s8 =>
      intro done a w hS h0 hd hn hO hN
      have o0 : a.tmps[0]? = some (.pointer (some ⟨k, 0, none⟩)) := (hO.out 0 (by decide)).trans rfl
      refine relVal rfl (.pointer (some ⟨k, 0, none⟩)) w rfl (by go_simp) ⟨_, rfl, rfl, by simpa [h0] using hS, trivial⟩
    case s9 =>
      intro done a w hS h0 hd hn hO hN
      obtain ⟨v8, g8, r8⟩ := hN 8 (by decide)
      have g8 : a.tmps[13]? = some v8 := g8
      obtain rfl : v8 = .pointer (some ⟨k, 0, none⟩) := r8
      refine relVal rfl (.pointer (some ⟨k, 0, none⟩)) w rfl (by go_simp) ⟨_, rfl, rfl, by simpa [h0] using hS, trivial⟩
    case s10 =>
      intro done a w hS h0 hd hn hO hN
      obtain ⟨v9, g9, r9⟩ := hN 9 (by decide)
      have g9 : a.tmps[14]? = some v9 := g9
      obtain rfl : v9 = .pointer (some ⟨k, 0, none⟩) := r9
      refine relVal rfl (.pointer (some ⟨k, 1, none⟩)) w rfl (by go_simp) ⟨_, rfl, rfl, by simpa [h0] using hS, trivial⟩
    case s11 =>
      intro done a w hS h0 hd hn hO hN
      obtain ⟨v10, g10, r10⟩ := hN 10 (by decide)
      have g10 : a.tmps[15]? = some v10 := g10
      obtain rfl : v10 = .pointer (some ⟨k, 1, none⟩) := r10
      refine relVal rfl (.pointer (some ⟨k, 17, none⟩)) w rfl (by go_simp) ⟨_, rfl, rfl, by simpa [h0] using hS, trivial⟩
    case s12 =>
      intro done a w hS h0 hd hn hO hN
      obtain ⟨v11, g11, r11⟩ := hN 11 (by decide)
      have g11 : a.tmps[16]? = some v11 := g11
      obtain rfl : v11 = .pointer (some ⟨k, 17, none⟩) := r11
      have hc := (HW.out w hS.1).goal hr.1
      refine relVal rfl (.int .i64 g) w rfl (by go_simp) ⟨_, rfl, rfl, by simpa [h0] using hS, trivial⟩
    case s13 =>
      intro done a w hS h0 hd hn hO hN
      obtain ⟨v7, g7, r7⟩ := hN 7 (by decide)
      have g7 : a.tmps[12]? = some v7 := g7
      obtain rfl : v7 = .agg (Bt.cellsB (Bt.dropI r m.id)) := r7
      obtain ⟨v12, g12, r12⟩ := hN 12 (by decide)
      have g12 : a.tmps[17]? = some v12 := g12
      obtain rfl : v12 = .int .i64 g := r12
      have hq := buildQ w hD.1 g
      refine relVal rfl (.agg (cellsQ (Bt.dropI r m.id) g)) w rfl (by simp [execOp, Act.eval, g7, g12, hq, Result.andThen]) ⟨_, rfl, rfl, by simpa [h0] using hS, trivial⟩
    case s14 =>
      intro done a w hS h0 hd hn hO hN
      obtain ⟨v13, g13, r13⟩ := hN 13 (by decide)
      have g13 : a.tmps[18]? = some v13 := g13
      obtain rfl : v13 = .agg (cellsQ (Bt.dropI r m.id) g) := r13
      have o4 : a.tmps[4]? = some (.pointer (some ⟨b4, 0, none⟩)) := (hO.out 4 (by decide)).trans rfl
      have hz := hS.2.2
      rw [if_neg (by simp [h0]), if_neg (by simp [h0])] at hz
      have hq := storeQ (r' := Bt.dropI r m.id) (g' := g) w b4 hz zero_len hD.1
      refine relSkip rfl (w.setRow b4 (cellsQ (Bt.dropI r m.id) g)) rfl (by simp [execOp, Act.eval, g13, o4, hq, Result.andThen]) ⟨undef, rfl, trivial, ⟨below_setRow hS.1 hl4, hS.2.1.kp (setRow_kp w b4 _) hne, ?_⟩, trivial⟩
      simpa using hz.setRow (Bt.dropI r m.id) g
  case fin =>
    intro vs done w hdone hS hR
    have hq := hS.2.2
    rw [if_pos (hdone 14 (by decide)), if_pos (hdone 14 (by decide))] at hq
    have HS := show Hid _ from hS.1
    have HQ := show Hid _ from hq
    clear hS hR hdone hq
    simp only [putAll, Act.put, List.setIfInBounds_toArray, List.set_cons_zero, List.set_cons_succ]
    go_wp2_with fail
    refine bodyPost_ret (results_seq1 rfl _ _ b4 rfl HQ.out hD.1) rfl ?_
    exact ⟨rfl, HS.out⟩
end Go.Proofs.YtpddfooeaecekaaDoor
