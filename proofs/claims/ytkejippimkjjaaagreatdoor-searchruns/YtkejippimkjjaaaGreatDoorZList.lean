/-
  The trials of all rules, as the call list lays them. For every work that lies there. (Written by genzlist.py.)
-/
import Derived.Test.YtkejippimkjjaaaGreatDoorZG1
import Derived.Laws.EntriesVeiled
namespace Go.Proofs.YtkejippimkjjaaaGreatDoor
open Go.RowKit Go.Shelf Go.Maps
open Fm (Nd)
open Bt.Bs (Ok wd)
set_option linter.unusedSimpArgs false

def BoxC (w : World) (gf k : Nat) (kd : Int) (v : Value) : Prop :=
  ∃ kb wb, v = .func (.func gf) #[] #[.pointer (some ⟨kb, 0, none⟩), .pointer (some ⟨wb, 0, none⟩)] ∧ Cl w kb #[.int .i64 kd] 52 ∧ Cl w wb #[.pointer (some ⟨k, 0, none⟩)] 84
theorem BoxC.later {w w' : World} {gf k : Nat} {kd : Int} {v : Value} (h : BoxC w gf k kd v) (hb : Below w.heap.size w w') : BoxC w' gf k kd v := by
  obtain ⟨kb, wb, hv, h1, h2⟩ := h
  exact ⟨kb, wb, hv, h1.later hb, h2.later hb⟩
theorem BoxC.kp {w w' : World} {gf k : Nat} {kd : Int} {v : Value} (h : BoxC w gf k kd v) {cs : Array Value} (hk : Cl w k cs 115) (hb : KpP k w w') : BoxC w' gf k kd v := by
  obtain ⟨kb, wb, hv, h1, h2⟩ := h
  exact ⟨kb, wb, hv, h1.kp hb (fun e => by subst e; have := h1.symm.trans hk; simp at this), h2.kp hb (fun e => by subst e; have := h2.symm.trans hk; simp at this)⟩
set_option maxHeartbeats 1000000 in
theorem left_any (w : World) (k : Nat) (kd : Int) : Calls Tryz.prog 71 #[.pointer (some ⟨k, 0, none⟩), .int .i64 kd] w fun e w' => ∃ v, e = .returned v ∧ BoxC w' 108 k kd v ∧ Below w.heap.size w w' := by
  go_enter Tryz.func71, Tryz.ntmps71
  go_wp2_with (refine wpList_box1 _ _ rfl _ rfl rfl rfl ?_)
  intro w1 b1 hn1
  go_wp2_with (refine wpList_box1 _ _ rfl _ rfl rfl rfl ?_)
  intro w2 b2 hn2
  go_wp2_with fail
  go_ret
  exact ⟨_, rfl, ⟨b2, b1, rfl, hn2.blk, Cl.new hn1.blk hn2⟩, bel_new hn1.bel hn2⟩
set_option maxHeartbeats 1000000 in
theorem wfrom_any (w : World) (k : Nat) (kd : Int) : Calls Tryz.prog 69 #[.pointer (some ⟨k, 0, none⟩), .int .i64 kd] w fun e w' => ∃ v, e = .returned v ∧ BoxC w' 107 k kd v ∧ Below w.heap.size w w' := by
  go_enter Tryz.func69, Tryz.ntmps69
  go_wp2_with (refine wpList_box1 _ _ rfl _ rfl rfl rfl ?_)
  intro w1 b1 hn1
  go_wp2_with (refine wpList_box1 _ _ rfl _ rfl rfl rfl ?_)
  intro w2 b2 hn2
  go_wp2_with fail
  go_ret
  exact ⟨_, rfl, ⟨b2, b1, rfl, hn2.blk, Cl.new hn1.blk hn2⟩, bel_new hn1.bel hn2⟩
set_option maxHeartbeats 1000000 in
theorem goal_any (w : World) (k : Nat) (kd : Int) : Calls Tryz.prog 84 #[.pointer (some ⟨k, 0, none⟩), .int .i64 kd] w fun e w' => ∃ v, e = .returned v ∧ BoxC w' 112 k kd v ∧ Below w.heap.size w w' := by
  go_enter Tryz.func84, Tryz.ntmps84
  go_wp2_with (refine wpList_box1 _ _ rfl _ rfl rfl rfl ?_)
  intro w1 b1 hn1
  go_wp2_with (refine wpList_box1 _ _ rfl _ rfl rfl rfl ?_)
  intro w2 b2 hn2
  go_wp2_with fail
  go_ret
  exact ⟨_, rfl, ⟨b2, b1, rfl, hn2.blk, Cl.new hn1.blk hn2⟩, bel_new hn1.bel hn2⟩
def RawF (w : World) (k wb fb : Nat) (i : Nat) (v : Value) : Prop := match i with
  | 0 => BoxC w 108 k 2 v
  | 1 => v = .func (.func 72) #[] #[.pointer (some ⟨wb, 0, none⟩)]
  | 2 => BoxC w 108 k 3 v
  | 3 => v = .func (.func 78) #[] #[.pointer (some ⟨fb, 0, none⟩), .pointer (some ⟨wb, 0, none⟩)]
  | 4 => BoxC w 107 k 2 v
  | 5 => BoxC w 107 k 3 v
  | 6 => BoxC w 107 k 4 v
  | 7 => BoxC w 112 k 5 v
  | 8 => BoxC w 112 k 3 v
  | 9 => BoxC w 108 k 4 v
  | 10 => BoxC w 112 k 4 v
  | 11 => BoxC w 112 k 4 v
  | 12 => BoxC w 107 k 5 v
  | _ => True
def PrmF (wb : Nat) (i : Nat) : Value := match i with
  | 0 => .func (.func 70) #[] #[]
  | 1 => .func (.func 70) #[] #[]
  | 2 => .func (.func 75) #[] #[.pointer (some ⟨wb, 0, none⟩)]
  | 3 => .func (.func 79) #[] #[.pointer (some ⟨wb, 0, none⟩)]
  | 4 => .func (.func 80) #[] #[.pointer (some ⟨wb, 0, none⟩)]
  | 5 => .func (.func 81) #[] #[.pointer (some ⟨wb, 0, none⟩)]
  | 6 => .func (.func 83) #[] #[.pointer (some ⟨wb, 0, none⟩)]
  | 7 => .func (.func 85) #[] #[.pointer (some ⟨wb, 0, none⟩)]
  | 8 => .func (.func 87) #[] #[.pointer (some ⟨wb, 0, none⟩)]
  | 9 => .func (.func 88) #[] #[.pointer (some ⟨wb, 0, none⟩)]
  | 10 => .func (.func 89) #[] #[.pointer (some ⟨wb, 0, none⟩)]
  | 11 => .func (.func 90) #[] #[.pointer (some ⟨wb, 0, none⟩)]
  | 12 => .func (.func 91) #[] #[.pointer (some ⟨wb, 0, none⟩)]
  | _ => undef
def triC (wb : Nat) (F : Nat → Value) : Array Value := #[.int .i64 1, F 0, PrmF wb 0, .int .i64 2, F 1, PrmF wb 1, .int .i64 3, F 2, PrmF wb 2, .int .i64 4, F 3, PrmF wb 3, .int .i64 5, F 4, PrmF wb 4, .int .i64 6, F 5, PrmF wb 5, .int .i64 7, F 6, PrmF wb 6, .int .i64 8, F 7, PrmF wb 7, .int .i64 9, F 8, PrmF wb 8, .int .i64 10, F 9, PrmF wb 9, .int .i64 11, F 10, PrmF wb 10, .int .i64 12, F 11, PrmF wb 11, .int .i64 13, F 12, PrmF wb 12]
theorem RawF.later {w w' : World} {k wb fb i : Nat} {v : Value} (h : RawF w k wb fb i v) (hb : Below w.heap.size w w') : RawF w' k wb fb i v := by
  match i, h with
  | 0, h => exact BoxC.later h hb
  | 1, h => exact h
  | 2, h => exact BoxC.later h hb
  | 3, h => exact h
  | 4, h => exact BoxC.later h hb
  | 5, h => exact BoxC.later h hb
  | 6, h => exact BoxC.later h hb
  | 7, h => exact BoxC.later h hb
  | 8, h => exact BoxC.later h hb
  | 9, h => exact BoxC.later h hb
  | 10, h => exact BoxC.later h hb
  | 11, h => exact BoxC.later h hb
  | 12, h => exact BoxC.later h hb
  | _ + 13, h => trivial
theorem RawF.kp {w w' : World} {k wb fb i : Nat} {v : Value} (h : RawF w k wb fb i v) {cs : Array Value} (hk : Cl w k cs 115) (hb : KpP k w w') : RawF w' k wb fb i v := by
  match i, h with
  | 0, h => exact BoxC.kp h hk hb
  | 1, h => exact h
  | 2, h => exact BoxC.kp h hk hb
  | 3, h => exact h
  | 4, h => exact BoxC.kp h hk hb
  | 5, h => exact BoxC.kp h hk hb
  | 6, h => exact BoxC.kp h hk hb
  | 7, h => exact BoxC.kp h hk hb
  | 8, h => exact BoxC.kp h hk hb
  | 9, h => exact BoxC.kp h hk hb
  | 10, h => exact BoxC.kp h hk hb
  | 11, h => exact BoxC.kp h hk hb
  | 12, h => exact BoxC.kp h hk hb
  | _ + 13, h => trivial
structure Tri (w : World) (k T wb fb : Nat) (F : Nat → Value) : Prop where
  row : Cl w T (triC wb F) 127
  wbx : Cl w wb #[.pointer (some ⟨k, 0, none⟩)] 84
  fbx : ∃ fa, Cl w fb #[fa] 124 ∧ BoxC w 107 k 1 fa
  f : ∀ i, i < 13 → RawF w k wb fb i (F i)
theorem Tri.later {w w' : World} {k T wb fb : Nat} {F : Nat → Value} (h : Tri w k T wb fb F) (hb : Below w.heap.size w w') : Tri w' k T wb fb F := by
  obtain ⟨fa, h1, h2⟩ := h.fbx
  exact ⟨h.row.later hb, h.wbx.later hb, ⟨fa, h1.later hb, h2.later hb⟩, fun i hi => (h.f i hi).later hb⟩
theorem Tri.kp {w w' : World} {k T wb fb : Nat} {F : Nat → Value} (h : Tri w k T wb fb F) {cs : Array Value} (hk : Cl w k cs 115) (hb : KpP k w w') : Tri w' k T wb fb F := by
  obtain ⟨fa, h1, h2⟩ := h.fbx
  refine ⟨h.row.kp hb ?_, h.wbx.kp hb ?_, ⟨fa, h1.kp hb ?_, h2.kp hk hb⟩, fun i hi => (h.f i hi).kp hk hb⟩
  · rintro rfl
    have := h.row.symm.trans hk
    simp at this
  · rintro rfl
    have := h.wbx.symm.trans hk
    simp at this
  · rintro rfl
    have := h1.symm.trans hk
    simp at this
theorem build13 (w : World) (a0 b0 c0 a1 b1 c1 a2 b2 c2 a3 b3 c3 a4 b4 c4 a5 b5 c5 a6 b6 c6 a7 b7 c7 a8 b8 c8 a9 b9 c9 a10 b10 c10 a11 b11 c11 a12 b12 c12 : Value) : (Instr.buildSlice 113 13 #[(0, .agg #[a0, b0, c0]), (1, .agg #[a1, b1, c1]), (2, .agg #[a2, b2, c2]), (3, .agg #[a3, b3, c3]), (4, .agg #[a4, b4, c4]), (5, .agg #[a5, b5, c5]), (6, .agg #[a6, b6, c6]), (7, .agg #[a7, b7, c7]), (8, .agg #[a8, b8, c8]), (9, .agg #[a9, b9, c9]), (10, .agg #[a10, b10, c10]), (11, .agg #[a11, b11, c11]), (12, .agg #[a12, b12, c12])]).run Tryz.prog w = .ok (.slice (some ⟨w.heap.size, 0, none⟩) 13 13) (w.alloc (.cells #[a0, b0, c0, a1, b1, c1, a2, b2, c2, a3, b3, c3, a4, b4, c4, a5, b5, c5, a6, b6, c6, a7, b7, c7, a8, b8, c8, a9, b9, c9, a10, b10, c10, a11, b11, c11, a12, b12, c12] 127)) := by kernel_rfl
theorem build3 (w : World) (n : Int) (f1 f2 : Fn) (x1 x2 c1 c2 : Array Value) : (Instr.build 127 #[(0, .int .i64 n), (1, .func f1 x1 c1), (2, .func f2 x2 c2)]).run Tryz.prog w = .ok (.agg #[.int .i64 n, .func f1 x1 c1, .func f2 x2 c2]) w := by kernel_rfl
theorem zeroF (w : World) : (zeroValue 124).run Tryz.prog w = .ok Value.nilFunc w := by kernel_rfl
set_option maxRecDepth 100000 in
set_option maxHeartbeats 4000000 in
theorem list_any (w0 : World) (k : Nat) : Calls Tryz.prog 46 #[.pointer (some ⟨k, 0, none⟩)] w0 fun e w' => ∃ T wb fb F, e = .returned (.slice (some ⟨T, 0, none⟩) 13 13) ∧ Tri w' k T wb fb F ∧ Below w0.heap.size w0 w' := by
  have KF := show Hid (∀ w, Calls Tryz.prog 69 #[.pointer (some ⟨k, 0, none⟩), .int .i64 1] w fun e w' => ∃ v, e = .returned v ∧ BoxC w' 107 k 1 v ∧ Below w.heap.size w w') from fun w => wfrom_any w k 1
  go_enter Tryz.func46, Tryz.ntmps46
  go_wp2_with (refine wpList_box1 _ _ rfl _ rfl rfl rfl ?_)
  intro w1 wb hn1
  have c1 : w1.cell? ⟨wb, 0, none⟩ = some (.pointer (some ⟨k, 0, none⟩)) := Cl.cell hn1.blk 0
  go_wp2_with fail
  refine Calls.mono (KF.out w1) ?_
  rintro e w2 ⟨fa, rfl, hfa, hb2⟩
  have H2 := show Hid (Below w0.heap.size w0 w2 ∧ Cl w2 wb #[.pointer (some ⟨k, 0, none⟩)] 84 ∧ BoxC w2 107 k 1 fa) from ⟨hn1.bel.trans (hb2.mono hn1.bel.size), Cl.later hn1.blk hb2, hfa⟩
  clear hn1 hb2 c1 KF
  obtain ⟨kb2, wb2, rfl, hf1, hf2⟩ := hfa
  go_wp2_with (refine wpList_alloc1 _ rfl _ zeroF rfl rfl ?_)
  intro w3 fb hn3
  have HS3 := show Hid (Cl (w3.setCell ⟨fb, 0, none⟩ (.func (.func 107) #[] #[.pointer (some ⟨kb2, 0, none⟩), .pointer (some ⟨wb2, 0, none⟩)])) fb #[.func (.func 107) #[] #[.pointer (some ⟨kb2, 0, none⟩), .pointer (some ⟨wb2, 0, none⟩)]] 124) from heap_setCell_same w3 fb 0 _ _ _ hn3.blk
  have hlt3 : w2.heap.size ≤ fb := hn3.ge
  have HK3 := show Hid (KpP fb w3 (w3.setCell ⟨fb, 0, none⟩ (.func (.func 107) #[] #[.pointer (some ⟨kb2, 0, none⟩), .pointer (some ⟨wb2, 0, none⟩)]))) from KpP.set (Kp.refl _ w3) 0 _
  have c3 : w3.cell? ⟨fb, 0, none⟩ = some Value.nilFunc := Cl.cell hn3.blk 0
  have f3 := Cl.fr hn3.blk 0
  have H3 := show Hid (Below w0.heap.size w0 w3 ∧ Cl w3 wb #[.pointer (some ⟨k, 0, none⟩)] 84 ∧ Cl w3 kb2 #[.int .i64 1] 52 ∧ Cl w3 wb2 #[.pointer (some ⟨k, 0, none⟩)] 84 ∧ wb ≠ fb ∧ kb2 ≠ fb ∧ wb2 ≠ fb ∧ w0.heap.size ≤ fb) from
    ⟨bel_new H2.out.1 hn3, H2.out.2.1.new hn3, hf1.new hn3, hf2.new hn3, by have := H2.out.2.1.lt; omega, by have := hf1.lt; omega, by have := hf2.lt; omega, by have := H2.out.1.size; omega⟩
  clear hn3 H2 hf1 hf2
  go_wp2_with fail
  generalize (w3.setCell ⟨fb, 0, none⟩ (.func (.func 107) #[] #[.pointer (some ⟨kb2, 0, none⟩), .pointer (some ⟨wb2, 0, none⟩)])) = w4 at *
  have H4 := show Hid (Below w0.heap.size w0 w4 ∧ Cl w4 wb #[.pointer (some ⟨k, 0, none⟩)] 84) from ⟨bel_kp H3.out.1 HK3.out H3.out.2.2.2.2.2.2.2, H3.out.2.1.kp HK3.out H3.out.2.2.2.2.1⟩
  have HFB := show Hid (∀ W, Below w4.heap.size w4 W → ∃ fa, Cl W fb #[fa] 124 ∧ BoxC W 107 k 1 fa) from fun W h =>
    ⟨_, HS3.out.later h, kb2, wb2, rfl, (H3.out.2.2.1.kp HK3.out H3.out.2.2.2.2.2.1).later h, (H3.out.2.2.2.1.kp HK3.out H3.out.2.2.2.2.2.2.1).later h⟩
  refine wp_region_rel (by kernel_rfl) [some 7, some 8, some 9, some 10, some 11, some 12, some 13, some 14, some 15, some 16, some 17, some 18, some 19, some 20, some 21, some 22, some 23, some 24, some 25, some 26, some 27, some 28, some 29, some 30, some 31, some 32, some 33, some 34, some 35, some 36, some 37, some 38, some 39, some 40, some 41, some 42, some 43, some 44, some 45, some 46, some 47, some 48, some 49, some 50, some 51, some 52, some 53, some 54, some 55, some 56, some 57, some 2] [[], [0], [], [1, 2], [], [], [4, 5], [], [7], [], [8, 9], [], [], [11, 12], [], [14], [], [15, 16], [], [18], [], [19, 20], [], [22], [], [23, 24], [], [26], [], [27, 28], [], [30], [], [31, 32], [], [34], [], [35, 36], [], [38], [], [39, 40], [], [42], [], [43, 44], [], [46], [], [47, 48], [3, 6, 10, 13, 17, 21, 25, 29, 33, 37, 41, 45, 49], [50]] (by kernel_rfl) (fun i v w => match i with | 0 => v = .pointer (some ⟨k, 0, none⟩) | 1 => BoxC w 108 k 2 v | 2 => v = .func (.func 70) #[] #[] | 3 => ∃ F, v = .agg #[.int .i64 1, F, .func (.func 70) #[] #[]] ∧ BoxC w 108 k 2 F | 4 => v = .func (.func 72) #[] #[.pointer (some ⟨wb, 0, none⟩)] | 5 => v = .func (.func 70) #[] #[] | 6 => ∃ F, v = .agg #[.int .i64 2, F, .func (.func 70) #[] #[]] ∧ F = .func (.func 72) #[] #[.pointer (some ⟨wb, 0, none⟩)] | 7 => v = .pointer (some ⟨k, 0, none⟩) | 8 => BoxC w 108 k 3 v | 9 => v = .func (.func 75) #[] #[.pointer (some ⟨wb, 0, none⟩)] | 10 => ∃ F, v = .agg #[.int .i64 3, F, .func (.func 75) #[] #[.pointer (some ⟨wb, 0, none⟩)]] ∧ BoxC w 108 k 3 F | 11 => v = .func (.func 78) #[] #[.pointer (some ⟨fb, 0, none⟩), .pointer (some ⟨wb, 0, none⟩)] | 12 => v = .func (.func 79) #[] #[.pointer (some ⟨wb, 0, none⟩)] | 13 => ∃ F, v = .agg #[.int .i64 4, F, .func (.func 79) #[] #[.pointer (some ⟨wb, 0, none⟩)]] ∧ F = .func (.func 78) #[] #[.pointer (some ⟨fb, 0, none⟩), .pointer (some ⟨wb, 0, none⟩)] | 14 => v = .pointer (some ⟨k, 0, none⟩) | 15 => BoxC w 107 k 2 v | 16 => v = .func (.func 80) #[] #[.pointer (some ⟨wb, 0, none⟩)] | 17 => ∃ F, v = .agg #[.int .i64 5, F, .func (.func 80) #[] #[.pointer (some ⟨wb, 0, none⟩)]] ∧ BoxC w 107 k 2 F | 18 => v = .pointer (some ⟨k, 0, none⟩) | 19 => BoxC w 107 k 3 v | 20 => v = .func (.func 81) #[] #[.pointer (some ⟨wb, 0, none⟩)] | 21 => ∃ F, v = .agg #[.int .i64 6, F, .func (.func 81) #[] #[.pointer (some ⟨wb, 0, none⟩)]] ∧ BoxC w 107 k 3 F | 22 => v = .pointer (some ⟨k, 0, none⟩) | 23 => BoxC w 107 k 4 v | 24 => v = .func (.func 83) #[] #[.pointer (some ⟨wb, 0, none⟩)] | 25 => ∃ F, v = .agg #[.int .i64 7, F, .func (.func 83) #[] #[.pointer (some ⟨wb, 0, none⟩)]] ∧ BoxC w 107 k 4 F | 26 => v = .pointer (some ⟨k, 0, none⟩) | 27 => BoxC w 112 k 5 v | 28 => v = .func (.func 85) #[] #[.pointer (some ⟨wb, 0, none⟩)] | 29 => ∃ F, v = .agg #[.int .i64 8, F, .func (.func 85) #[] #[.pointer (some ⟨wb, 0, none⟩)]] ∧ BoxC w 112 k 5 F | 30 => v = .pointer (some ⟨k, 0, none⟩) | 31 => BoxC w 112 k 3 v | 32 => v = .func (.func 87) #[] #[.pointer (some ⟨wb, 0, none⟩)] | 33 => ∃ F, v = .agg #[.int .i64 9, F, .func (.func 87) #[] #[.pointer (some ⟨wb, 0, none⟩)]] ∧ BoxC w 112 k 3 F | 34 => v = .pointer (some ⟨k, 0, none⟩) | 35 => BoxC w 108 k 4 v | 36 => v = .func (.func 88) #[] #[.pointer (some ⟨wb, 0, none⟩)] | 37 => ∃ F, v = .agg #[.int .i64 10, F, .func (.func 88) #[] #[.pointer (some ⟨wb, 0, none⟩)]] ∧ BoxC w 108 k 4 F | 38 => v = .pointer (some ⟨k, 0, none⟩) | 39 => BoxC w 112 k 4 v | 40 => v = .func (.func 89) #[] #[.pointer (some ⟨wb, 0, none⟩)] | 41 => ∃ F, v = .agg #[.int .i64 11, F, .func (.func 89) #[] #[.pointer (some ⟨wb, 0, none⟩)]] ∧ BoxC w 112 k 4 F | 42 => v = .pointer (some ⟨k, 0, none⟩) | 43 => BoxC w 112 k 4 v | 44 => v = .func (.func 90) #[] #[.pointer (some ⟨wb, 0, none⟩)] | 45 => ∃ F, v = .agg #[.int .i64 12, F, .func (.func 90) #[] #[.pointer (some ⟨wb, 0, none⟩)]] ∧ BoxC w 112 k 4 F | 46 => v = .pointer (some ⟨k, 0, none⟩) | 47 => BoxC w 107 k 5 v | 48 => v = .func (.func 91) #[] #[.pointer (some ⟨wb, 0, none⟩)] | 49 => ∃ F, v = .agg #[.int .i64 13, F, .func (.func 91) #[] #[.pointer (some ⟨wb, 0, none⟩)]] ∧ BoxC w 107 k 5 F | 50 => ∃ T F, v = .slice (some ⟨T, 0, none⟩) 13 13 ∧ Tri w k T wb fb F | 51 => ∃ T F, v = .slice (some ⟨T, 0, none⟩) 13 13 ∧ Tri w k T wb fb F | _ => True) (fun _ W => Below w4.heap.size w4 W ∧ Cl W wb #[.pointer (some ⟨k, 0, none⟩)] 84) (fun W W' => Below W.heap.size W W') ?hle (⟨(Below.refl _ _).drew, H4.out.2⟩) (allLt 52 ?steps) ?fin
  case hle =>
    intro i v w w1 hl h
    match i, h with
    | 0, h => exact h
    | 1, h => exact BoxC.later h hl
    | 2, h => exact h
    | 3, h => exact (by obtain ⟨F, hv, hF⟩ := h; exact ⟨F, hv, BoxC.later hF hl⟩)
    | 4, h => exact h
    | 5, h => exact h
    | 6, h => exact h
    | 7, h => exact h
    | 8, h => exact BoxC.later h hl
    | 9, h => exact h
    | 10, h => exact (by obtain ⟨F, hv, hF⟩ := h; exact ⟨F, hv, BoxC.later hF hl⟩)
    | 11, h => exact h
    | 12, h => exact h
    | 13, h => exact h
    | 14, h => exact h
    | 15, h => exact BoxC.later h hl
    | 16, h => exact h
    | 17, h => exact (by obtain ⟨F, hv, hF⟩ := h; exact ⟨F, hv, BoxC.later hF hl⟩)
    | 18, h => exact h
    | 19, h => exact BoxC.later h hl
    | 20, h => exact h
    | 21, h => exact (by obtain ⟨F, hv, hF⟩ := h; exact ⟨F, hv, BoxC.later hF hl⟩)
    | 22, h => exact h
    | 23, h => exact BoxC.later h hl
    | 24, h => exact h
    | 25, h => exact (by obtain ⟨F, hv, hF⟩ := h; exact ⟨F, hv, BoxC.later hF hl⟩)
    | 26, h => exact h
    | 27, h => exact BoxC.later h hl
    | 28, h => exact h
    | 29, h => exact (by obtain ⟨F, hv, hF⟩ := h; exact ⟨F, hv, BoxC.later hF hl⟩)
    | 30, h => exact h
    | 31, h => exact BoxC.later h hl
    | 32, h => exact h
    | 33, h => exact (by obtain ⟨F, hv, hF⟩ := h; exact ⟨F, hv, BoxC.later hF hl⟩)
    | 34, h => exact h
    | 35, h => exact BoxC.later h hl
    | 36, h => exact h
    | 37, h => exact (by obtain ⟨F, hv, hF⟩ := h; exact ⟨F, hv, BoxC.later hF hl⟩)
    | 38, h => exact h
    | 39, h => exact BoxC.later h hl
    | 40, h => exact h
    | 41, h => exact (by obtain ⟨F, hv, hF⟩ := h; exact ⟨F, hv, BoxC.later hF hl⟩)
    | 42, h => exact h
    | 43, h => exact BoxC.later h hl
    | 44, h => exact h
    | 45, h => exact (by obtain ⟨F, hv, hF⟩ := h; exact ⟨F, hv, BoxC.later hF hl⟩)
    | 46, h => exact h
    | 47, h => exact BoxC.later h hl
    | 48, h => exact h
    | 49, h => exact (by obtain ⟨F, hv, hF⟩ := h; exact ⟨F, hv, BoxC.later hF hl⟩)
    | 50, h => exact (by obtain ⟨T, F, hv, hT⟩ := h; exact ⟨T, F, hv, Tri.later hT hl⟩)
    | 51, h => exact (by obtain ⟨T, F, hv, hT⟩ := h; exact ⟨T, F, hv, Tri.later hT hl⟩)
    | _ + 52, h => trivial
  case steps =>
    refine ⟨⟨⟨⟨⟨⟨⟨⟨⟨⟨⟨⟨⟨⟨⟨⟨⟨⟨⟨⟨⟨⟨⟨⟨⟨⟨⟨⟨⟨⟨⟨⟨⟨⟨⟨⟨⟨⟨⟨⟨⟨⟨⟨⟨⟨⟨⟨⟨⟨⟨⟨⟨trivial, ?s0⟩, ?s1⟩, ?s2⟩, ?s3⟩, ?s4⟩, ?s5⟩, ?s6⟩, ?s7⟩, ?s8⟩, ?s9⟩, ?s10⟩, ?s11⟩, ?s12⟩, ?s13⟩, ?s14⟩, ?s15⟩, ?s16⟩, ?s17⟩, ?s18⟩, ?s19⟩, ?s20⟩, ?s21⟩, ?s22⟩, ?s23⟩, ?s24⟩, ?s25⟩, ?s26⟩, ?s27⟩, ?s28⟩, ?s29⟩, ?s30⟩, ?s31⟩, ?s32⟩, ?s33⟩, ?s34⟩, ?s35⟩, ?s36⟩, ?s37⟩, ?s38⟩, ?s39⟩, ?s40⟩, ?s41⟩, ?s42⟩, ?s43⟩, ?s44⟩, ?s45⟩, ?s46⟩, ?s47⟩, ?s48⟩, ?s49⟩, ?s50⟩, ?s51⟩
    case s0 =>
      intro done a w hS h0 hd hn hO hN
      have o1 : a.tmps[1]? = some (.pointer (some ⟨wb, 0, none⟩)) := (hO.out 1 (by decide)).trans rfl
      have hc : w.cell? ⟨wb, 0, none⟩ = some (.pointer (some ⟨k, 0, none⟩)) := hS.2.cell 0
      refine relVal rfl (.pointer (some ⟨k, 0, none⟩)) w rfl (by go_simp) ⟨_, rfl, rfl, hS, Below.refl _ _⟩
    case s1 =>
      intro done a w hS h0 hd hn hO hN
      obtain ⟨v0, g0, r0⟩ := hN 0 (by decide)
      have g0 : a.tmps[7]? = some v0 := g0
      obtain rfl : v0 = .pointer (some ⟨k, 0, none⟩) := r0
      refine relCallF rfl rfl 71 [.tmp 7, .const (.int .i64 2)] #[84, 52] rfl [.pointer (some ⟨k, 0, none⟩), .int .i64 2] (by simp [Act.eval, g0]) (enters_of Tryz.func71 (by kernel_rfl) rfl) (Calls.mono (left_any w k 2) ?_)
      rintro e w1 ⟨v, rfl, hv, hb⟩
      exact ⟨_, rfl, _, rfl, hv, ⟨hS.1.trans (hb.mono hS.1.size), hS.2.later hb⟩, hb⟩
    case s2 =>
      intro done a w hS h0 hd hn hO hN
      have o4 : a.tmps[4]? = some (.func (.func 70) #[] #[]) := (hO.out 4 (by decide)).trans rfl
      refine relVal rfl (.func (.func 70) #[] #[]) w rfl (by go_simp) ⟨_, rfl, rfl, hS, Below.refl _ _⟩
    case s3 =>
      intro done a w hS h0 hd hn hO hN
      obtain ⟨v1, g1, r1⟩ := hN 1 (by decide)
      have g1 : a.tmps[8]? = some v1 := g1
      obtain ⟨v2, g2, r2⟩ := hN 2 (by decide)
      have g2 : a.tmps[9]? = some v2 := g2
      obtain rfl : v2 = .func (.func 70) #[] #[] := r2
      obtain ⟨kb, wb2, rfl, hk1, hk2⟩ := r1
      refine relVal rfl (.agg #[.int .i64 1, .func (.func 108) #[] #[.pointer (some ⟨kb, 0, none⟩), .pointer (some ⟨wb2, 0, none⟩)], .func (.func 70) #[] #[]]) w rfl (by simp [execOp, Act.eval, g1, g2, build3, Result.andThen]) ⟨_, rfl, ⟨_, rfl, kb, wb2, rfl, hk1, hk2⟩, hS, Below.refl _ _⟩
    case s4 =>
      intro done a w hS h0 hd hn hO hN
      have o1 : a.tmps[1]? = some (.pointer (some ⟨wb, 0, none⟩)) := (hO.out 1 (by decide)).trans rfl
      refine relVal rfl (.func (.func 72) #[] #[.pointer (some ⟨wb, 0, none⟩)]) w rfl (by go_simp) ⟨_, rfl, rfl, hS, Below.refl _ _⟩
    case s5 =>
      intro done a w hS h0 hd hn hO hN
      have o4 : a.tmps[4]? = some (.func (.func 70) #[] #[]) := (hO.out 4 (by decide)).trans rfl
      refine relVal rfl (.func (.func 70) #[] #[]) w rfl (by go_simp) ⟨_, rfl, rfl, hS, Below.refl _ _⟩
    case s6 =>
      intro done a w hS h0 hd hn hO hN
      obtain ⟨v4, g4, r4⟩ := hN 4 (by decide)
      have g4 : a.tmps[11]? = some v4 := g4
      obtain rfl : v4 = .func (.func 72) #[] #[.pointer (some ⟨wb, 0, none⟩)] := r4
      obtain ⟨v5, g5, r5⟩ := hN 5 (by decide)
      have g5 : a.tmps[12]? = some v5 := g5
      obtain rfl : v5 = .func (.func 70) #[] #[] := r5
      refine relVal rfl (.agg #[.int .i64 2, .func (.func 72) #[] #[.pointer (some ⟨wb, 0, none⟩)], .func (.func 70) #[] #[]]) w rfl (by simp [execOp, Act.eval, g4, g5, build3, Result.andThen]) ⟨_, rfl, ⟨_, rfl, rfl⟩, hS, Below.refl _ _⟩
    case s7 =>
      intro done a w hS h0 hd hn hO hN
      have o1 : a.tmps[1]? = some (.pointer (some ⟨wb, 0, none⟩)) := (hO.out 1 (by decide)).trans rfl
      have hc : w.cell? ⟨wb, 0, none⟩ = some (.pointer (some ⟨k, 0, none⟩)) := hS.2.cell 0
      refine relVal rfl (.pointer (some ⟨k, 0, none⟩)) w rfl (by go_simp) ⟨_, rfl, rfl, hS, Below.refl _ _⟩
    case s8 =>
      intro done a w hS h0 hd hn hO hN
      obtain ⟨v7, g7, r7⟩ := hN 7 (by decide)
      have g7 : a.tmps[14]? = some v7 := g7
      obtain rfl : v7 = .pointer (some ⟨k, 0, none⟩) := r7
      refine relCallF rfl rfl 71 [.tmp 14, .const (.int .i64 3)] #[84, 52] rfl [.pointer (some ⟨k, 0, none⟩), .int .i64 3] (by simp [Act.eval, g7]) (enters_of Tryz.func71 (by kernel_rfl) rfl) (Calls.mono (left_any w k 3) ?_)
      rintro e w1 ⟨v, rfl, hv, hb⟩
      exact ⟨_, rfl, _, rfl, hv, ⟨hS.1.trans (hb.mono hS.1.size), hS.2.later hb⟩, hb⟩
    case s9 =>
      intro done a w hS h0 hd hn hO hN
      have o1 : a.tmps[1]? = some (.pointer (some ⟨wb, 0, none⟩)) := (hO.out 1 (by decide)).trans rfl
      refine relVal rfl (.func (.func 75) #[] #[.pointer (some ⟨wb, 0, none⟩)]) w rfl (by go_simp) ⟨_, rfl, rfl, hS, Below.refl _ _⟩
    case s10 =>
      intro done a w hS h0 hd hn hO hN
      obtain ⟨v8, g8, r8⟩ := hN 8 (by decide)
      have g8 : a.tmps[15]? = some v8 := g8
      obtain ⟨v9, g9, r9⟩ := hN 9 (by decide)
      have g9 : a.tmps[16]? = some v9 := g9
      obtain rfl : v9 = .func (.func 75) #[] #[.pointer (some ⟨wb, 0, none⟩)] := r9
      obtain ⟨kb, wb2, rfl, hk1, hk2⟩ := r8
      refine relVal rfl (.agg #[.int .i64 3, .func (.func 108) #[] #[.pointer (some ⟨kb, 0, none⟩), .pointer (some ⟨wb2, 0, none⟩)], .func (.func 75) #[] #[.pointer (some ⟨wb, 0, none⟩)]]) w rfl (by simp [execOp, Act.eval, g8, g9, build3, Result.andThen]) ⟨_, rfl, ⟨_, rfl, kb, wb2, rfl, hk1, hk2⟩, hS, Below.refl _ _⟩
    case s11 =>
      intro done a w hS h0 hd hn hO hN
      have o3 : a.tmps[3]? = some (.pointer (some ⟨fb, 0, none⟩)) := (hO.out 3 (by decide)).trans rfl
      have o1 : a.tmps[1]? = some (.pointer (some ⟨wb, 0, none⟩)) := (hO.out 1 (by decide)).trans rfl
      refine relVal rfl (.func (.func 78) #[] #[.pointer (some ⟨fb, 0, none⟩), .pointer (some ⟨wb, 0, none⟩)]) w rfl (by go_simp) ⟨_, rfl, rfl, hS, Below.refl _ _⟩
    case s12 =>
      intro done a w hS h0 hd hn hO hN
      have o1 : a.tmps[1]? = some (.pointer (some ⟨wb, 0, none⟩)) := (hO.out 1 (by decide)).trans rfl
      refine relVal rfl (.func (.func 79) #[] #[.pointer (some ⟨wb, 0, none⟩)]) w rfl (by go_simp) ⟨_, rfl, rfl, hS, Below.refl _ _⟩
    case s13 =>
      intro done a w hS h0 hd hn hO hN
      obtain ⟨v11, g11, r11⟩ := hN 11 (by decide)
      have g11 : a.tmps[18]? = some v11 := g11
      obtain rfl : v11 = .func (.func 78) #[] #[.pointer (some ⟨fb, 0, none⟩), .pointer (some ⟨wb, 0, none⟩)] := r11
      obtain ⟨v12, g12, r12⟩ := hN 12 (by decide)
      have g12 : a.tmps[19]? = some v12 := g12
      obtain rfl : v12 = .func (.func 79) #[] #[.pointer (some ⟨wb, 0, none⟩)] := r12
      refine relVal rfl (.agg #[.int .i64 4, .func (.func 78) #[] #[.pointer (some ⟨fb, 0, none⟩), .pointer (some ⟨wb, 0, none⟩)], .func (.func 79) #[] #[.pointer (some ⟨wb, 0, none⟩)]]) w rfl (by simp [execOp, Act.eval, g11, g12, build3, Result.andThen]) ⟨_, rfl, ⟨_, rfl, rfl⟩, hS, Below.refl _ _⟩
    case s14 =>
      intro done a w hS h0 hd hn hO hN
      have o1 : a.tmps[1]? = some (.pointer (some ⟨wb, 0, none⟩)) := (hO.out 1 (by decide)).trans rfl
      have hc : w.cell? ⟨wb, 0, none⟩ = some (.pointer (some ⟨k, 0, none⟩)) := hS.2.cell 0
      refine relVal rfl (.pointer (some ⟨k, 0, none⟩)) w rfl (by go_simp) ⟨_, rfl, rfl, hS, Below.refl _ _⟩
    case s15 =>
      intro done a w hS h0 hd hn hO hN
      obtain ⟨v14, g14, r14⟩ := hN 14 (by decide)
      have g14 : a.tmps[21]? = some v14 := g14
      obtain rfl : v14 = .pointer (some ⟨k, 0, none⟩) := r14
      refine relCallF rfl rfl 69 [.tmp 21, .const (.int .i64 2)] #[84, 52] rfl [.pointer (some ⟨k, 0, none⟩), .int .i64 2] (by simp [Act.eval, g14]) (enters_of Tryz.func69 (by kernel_rfl) rfl) (Calls.mono (wfrom_any w k 2) ?_)
      rintro e w1 ⟨v, rfl, hv, hb⟩
      exact ⟨_, rfl, _, rfl, hv, ⟨hS.1.trans (hb.mono hS.1.size), hS.2.later hb⟩, hb⟩
    case s16 =>
      intro done a w hS h0 hd hn hO hN
      have o1 : a.tmps[1]? = some (.pointer (some ⟨wb, 0, none⟩)) := (hO.out 1 (by decide)).trans rfl
      refine relVal rfl (.func (.func 80) #[] #[.pointer (some ⟨wb, 0, none⟩)]) w rfl (by go_simp) ⟨_, rfl, rfl, hS, Below.refl _ _⟩
    case s17 =>
      intro done a w hS h0 hd hn hO hN
      obtain ⟨v15, g15, r15⟩ := hN 15 (by decide)
      have g15 : a.tmps[22]? = some v15 := g15
      obtain ⟨v16, g16, r16⟩ := hN 16 (by decide)
      have g16 : a.tmps[23]? = some v16 := g16
      obtain rfl : v16 = .func (.func 80) #[] #[.pointer (some ⟨wb, 0, none⟩)] := r16
      obtain ⟨kb, wb2, rfl, hk1, hk2⟩ := r15
      refine relVal rfl (.agg #[.int .i64 5, .func (.func 107) #[] #[.pointer (some ⟨kb, 0, none⟩), .pointer (some ⟨wb2, 0, none⟩)], .func (.func 80) #[] #[.pointer (some ⟨wb, 0, none⟩)]]) w rfl (by simp [execOp, Act.eval, g15, g16, build3, Result.andThen]) ⟨_, rfl, ⟨_, rfl, kb, wb2, rfl, hk1, hk2⟩, hS, Below.refl _ _⟩
    case s18 =>
      intro done a w hS h0 hd hn hO hN
      have o1 : a.tmps[1]? = some (.pointer (some ⟨wb, 0, none⟩)) := (hO.out 1 (by decide)).trans rfl
      have hc : w.cell? ⟨wb, 0, none⟩ = some (.pointer (some ⟨k, 0, none⟩)) := hS.2.cell 0
      refine relVal rfl (.pointer (some ⟨k, 0, none⟩)) w rfl (by go_simp) ⟨_, rfl, rfl, hS, Below.refl _ _⟩
    case s19 =>
      intro done a w hS h0 hd hn hO hN
      obtain ⟨v18, g18, r18⟩ := hN 18 (by decide)
      have g18 : a.tmps[25]? = some v18 := g18
      obtain rfl : v18 = .pointer (some ⟨k, 0, none⟩) := r18
      refine relCallF rfl rfl 69 [.tmp 25, .const (.int .i64 3)] #[84, 52] rfl [.pointer (some ⟨k, 0, none⟩), .int .i64 3] (by simp [Act.eval, g18]) (enters_of Tryz.func69 (by kernel_rfl) rfl) (Calls.mono (wfrom_any w k 3) ?_)
      rintro e w1 ⟨v, rfl, hv, hb⟩
      exact ⟨_, rfl, _, rfl, hv, ⟨hS.1.trans (hb.mono hS.1.size), hS.2.later hb⟩, hb⟩
    case s20 =>
      intro done a w hS h0 hd hn hO hN
      have o1 : a.tmps[1]? = some (.pointer (some ⟨wb, 0, none⟩)) := (hO.out 1 (by decide)).trans rfl
      refine relVal rfl (.func (.func 81) #[] #[.pointer (some ⟨wb, 0, none⟩)]) w rfl (by go_simp) ⟨_, rfl, rfl, hS, Below.refl _ _⟩
    case s21 =>
      intro done a w hS h0 hd hn hO hN
      obtain ⟨v19, g19, r19⟩ := hN 19 (by decide)
      have g19 : a.tmps[26]? = some v19 := g19
      obtain ⟨v20, g20, r20⟩ := hN 20 (by decide)
      have g20 : a.tmps[27]? = some v20 := g20
      obtain rfl : v20 = .func (.func 81) #[] #[.pointer (some ⟨wb, 0, none⟩)] := r20
      obtain ⟨kb, wb2, rfl, hk1, hk2⟩ := r19
      refine relVal rfl (.agg #[.int .i64 6, .func (.func 107) #[] #[.pointer (some ⟨kb, 0, none⟩), .pointer (some ⟨wb2, 0, none⟩)], .func (.func 81) #[] #[.pointer (some ⟨wb, 0, none⟩)]]) w rfl (by simp [execOp, Act.eval, g19, g20, build3, Result.andThen]) ⟨_, rfl, ⟨_, rfl, kb, wb2, rfl, hk1, hk2⟩, hS, Below.refl _ _⟩
    case s22 =>
      intro done a w hS h0 hd hn hO hN
      have o1 : a.tmps[1]? = some (.pointer (some ⟨wb, 0, none⟩)) := (hO.out 1 (by decide)).trans rfl
      have hc : w.cell? ⟨wb, 0, none⟩ = some (.pointer (some ⟨k, 0, none⟩)) := hS.2.cell 0
      refine relVal rfl (.pointer (some ⟨k, 0, none⟩)) w rfl (by go_simp) ⟨_, rfl, rfl, hS, Below.refl _ _⟩
    case s23 =>
      intro done a w hS h0 hd hn hO hN
      obtain ⟨v22, g22, r22⟩ := hN 22 (by decide)
      have g22 : a.tmps[29]? = some v22 := g22
      obtain rfl : v22 = .pointer (some ⟨k, 0, none⟩) := r22
      refine relCallF rfl rfl 69 [.tmp 29, .const (.int .i64 4)] #[84, 52] rfl [.pointer (some ⟨k, 0, none⟩), .int .i64 4] (by simp [Act.eval, g22]) (enters_of Tryz.func69 (by kernel_rfl) rfl) (Calls.mono (wfrom_any w k 4) ?_)
      rintro e w1 ⟨v, rfl, hv, hb⟩
      exact ⟨_, rfl, _, rfl, hv, ⟨hS.1.trans (hb.mono hS.1.size), hS.2.later hb⟩, hb⟩
    case s24 =>
      intro done a w hS h0 hd hn hO hN
      have o1 : a.tmps[1]? = some (.pointer (some ⟨wb, 0, none⟩)) := (hO.out 1 (by decide)).trans rfl
      refine relVal rfl (.func (.func 83) #[] #[.pointer (some ⟨wb, 0, none⟩)]) w rfl (by go_simp) ⟨_, rfl, rfl, hS, Below.refl _ _⟩
    case s25 =>
      intro done a w hS h0 hd hn hO hN
      obtain ⟨v23, g23, r23⟩ := hN 23 (by decide)
      have g23 : a.tmps[30]? = some v23 := g23
      obtain ⟨v24, g24, r24⟩ := hN 24 (by decide)
      have g24 : a.tmps[31]? = some v24 := g24
      obtain rfl : v24 = .func (.func 83) #[] #[.pointer (some ⟨wb, 0, none⟩)] := r24
      obtain ⟨kb, wb2, rfl, hk1, hk2⟩ := r23
      refine relVal rfl (.agg #[.int .i64 7, .func (.func 107) #[] #[.pointer (some ⟨kb, 0, none⟩), .pointer (some ⟨wb2, 0, none⟩)], .func (.func 83) #[] #[.pointer (some ⟨wb, 0, none⟩)]]) w rfl (by simp [execOp, Act.eval, g23, g24, build3, Result.andThen]) ⟨_, rfl, ⟨_, rfl, kb, wb2, rfl, hk1, hk2⟩, hS, Below.refl _ _⟩
    case s26 =>
      intro done a w hS h0 hd hn hO hN
      have o1 : a.tmps[1]? = some (.pointer (some ⟨wb, 0, none⟩)) := (hO.out 1 (by decide)).trans rfl
      have hc : w.cell? ⟨wb, 0, none⟩ = some (.pointer (some ⟨k, 0, none⟩)) := hS.2.cell 0
      refine relVal rfl (.pointer (some ⟨k, 0, none⟩)) w rfl (by go_simp) ⟨_, rfl, rfl, hS, Below.refl _ _⟩
    case s27 =>
      intro done a w hS h0 hd hn hO hN
      obtain ⟨v26, g26, r26⟩ := hN 26 (by decide)
      have g26 : a.tmps[33]? = some v26 := g26
      obtain rfl : v26 = .pointer (some ⟨k, 0, none⟩) := r26
      refine relCallF rfl rfl 84 [.tmp 33, .const (.int .i64 5)] #[84, 52] rfl [.pointer (some ⟨k, 0, none⟩), .int .i64 5] (by simp [Act.eval, g26]) (enters_of Tryz.func84 (by kernel_rfl) rfl) (Calls.mono (goal_any w k 5) ?_)
      rintro e w1 ⟨v, rfl, hv, hb⟩
      exact ⟨_, rfl, _, rfl, hv, ⟨hS.1.trans (hb.mono hS.1.size), hS.2.later hb⟩, hb⟩
    case s28 =>
      intro done a w hS h0 hd hn hO hN
      have o1 : a.tmps[1]? = some (.pointer (some ⟨wb, 0, none⟩)) := (hO.out 1 (by decide)).trans rfl
      refine relVal rfl (.func (.func 85) #[] #[.pointer (some ⟨wb, 0, none⟩)]) w rfl (by go_simp) ⟨_, rfl, rfl, hS, Below.refl _ _⟩
    case s29 =>
      intro done a w hS h0 hd hn hO hN
      obtain ⟨v27, g27, r27⟩ := hN 27 (by decide)
      have g27 : a.tmps[34]? = some v27 := g27
      obtain ⟨v28, g28, r28⟩ := hN 28 (by decide)
      have g28 : a.tmps[35]? = some v28 := g28
      obtain rfl : v28 = .func (.func 85) #[] #[.pointer (some ⟨wb, 0, none⟩)] := r28
      obtain ⟨kb, wb2, rfl, hk1, hk2⟩ := r27
      refine relVal rfl (.agg #[.int .i64 8, .func (.func 112) #[] #[.pointer (some ⟨kb, 0, none⟩), .pointer (some ⟨wb2, 0, none⟩)], .func (.func 85) #[] #[.pointer (some ⟨wb, 0, none⟩)]]) w rfl (by simp [execOp, Act.eval, g27, g28, build3, Result.andThen]) ⟨_, rfl, ⟨_, rfl, kb, wb2, rfl, hk1, hk2⟩, hS, Below.refl _ _⟩
    case s30 =>
      intro done a w hS h0 hd hn hO hN
      have o1 : a.tmps[1]? = some (.pointer (some ⟨wb, 0, none⟩)) := (hO.out 1 (by decide)).trans rfl
      have hc : w.cell? ⟨wb, 0, none⟩ = some (.pointer (some ⟨k, 0, none⟩)) := hS.2.cell 0
      refine relVal rfl (.pointer (some ⟨k, 0, none⟩)) w rfl (by go_simp) ⟨_, rfl, rfl, hS, Below.refl _ _⟩
    case s31 =>
      intro done a w hS h0 hd hn hO hN
      obtain ⟨v30, g30, r30⟩ := hN 30 (by decide)
      have g30 : a.tmps[37]? = some v30 := g30
      obtain rfl : v30 = .pointer (some ⟨k, 0, none⟩) := r30
      refine relCallF rfl rfl 84 [.tmp 37, .const (.int .i64 3)] #[84, 52] rfl [.pointer (some ⟨k, 0, none⟩), .int .i64 3] (by simp [Act.eval, g30]) (enters_of Tryz.func84 (by kernel_rfl) rfl) (Calls.mono (goal_any w k 3) ?_)
      rintro e w1 ⟨v, rfl, hv, hb⟩
      exact ⟨_, rfl, _, rfl, hv, ⟨hS.1.trans (hb.mono hS.1.size), hS.2.later hb⟩, hb⟩
    case s32 =>
      intro done a w hS h0 hd hn hO hN
      have o1 : a.tmps[1]? = some (.pointer (some ⟨wb, 0, none⟩)) := (hO.out 1 (by decide)).trans rfl
      refine relVal rfl (.func (.func 87) #[] #[.pointer (some ⟨wb, 0, none⟩)]) w rfl (by go_simp) ⟨_, rfl, rfl, hS, Below.refl _ _⟩
    case s33 =>
      intro done a w hS h0 hd hn hO hN
      obtain ⟨v31, g31, r31⟩ := hN 31 (by decide)
      have g31 : a.tmps[38]? = some v31 := g31
      obtain ⟨v32, g32, r32⟩ := hN 32 (by decide)
      have g32 : a.tmps[39]? = some v32 := g32
      obtain rfl : v32 = .func (.func 87) #[] #[.pointer (some ⟨wb, 0, none⟩)] := r32
      obtain ⟨kb, wb2, rfl, hk1, hk2⟩ := r31
      refine relVal rfl (.agg #[.int .i64 9, .func (.func 112) #[] #[.pointer (some ⟨kb, 0, none⟩), .pointer (some ⟨wb2, 0, none⟩)], .func (.func 87) #[] #[.pointer (some ⟨wb, 0, none⟩)]]) w rfl (by simp [execOp, Act.eval, g31, g32, build3, Result.andThen]) ⟨_, rfl, ⟨_, rfl, kb, wb2, rfl, hk1, hk2⟩, hS, Below.refl _ _⟩
    case s34 =>
      intro done a w hS h0 hd hn hO hN
      have o1 : a.tmps[1]? = some (.pointer (some ⟨wb, 0, none⟩)) := (hO.out 1 (by decide)).trans rfl
      have hc : w.cell? ⟨wb, 0, none⟩ = some (.pointer (some ⟨k, 0, none⟩)) := hS.2.cell 0
      refine relVal rfl (.pointer (some ⟨k, 0, none⟩)) w rfl (by go_simp) ⟨_, rfl, rfl, hS, Below.refl _ _⟩
    case s35 =>
      intro done a w hS h0 hd hn hO hN
      obtain ⟨v34, g34, r34⟩ := hN 34 (by decide)
      have g34 : a.tmps[41]? = some v34 := g34
      obtain rfl : v34 = .pointer (some ⟨k, 0, none⟩) := r34
      refine relCallF rfl rfl 71 [.tmp 41, .const (.int .i64 4)] #[84, 52] rfl [.pointer (some ⟨k, 0, none⟩), .int .i64 4] (by simp [Act.eval, g34]) (enters_of Tryz.func71 (by kernel_rfl) rfl) (Calls.mono (left_any w k 4) ?_)
      rintro e w1 ⟨v, rfl, hv, hb⟩
      exact ⟨_, rfl, _, rfl, hv, ⟨hS.1.trans (hb.mono hS.1.size), hS.2.later hb⟩, hb⟩
    case s36 =>
      intro done a w hS h0 hd hn hO hN
      have o1 : a.tmps[1]? = some (.pointer (some ⟨wb, 0, none⟩)) := (hO.out 1 (by decide)).trans rfl
      refine relVal rfl (.func (.func 88) #[] #[.pointer (some ⟨wb, 0, none⟩)]) w rfl (by go_simp) ⟨_, rfl, rfl, hS, Below.refl _ _⟩
    case s37 =>
      intro done a w hS h0 hd hn hO hN
      obtain ⟨v35, g35, r35⟩ := hN 35 (by decide)
      have g35 : a.tmps[42]? = some v35 := g35
      obtain ⟨v36, g36, r36⟩ := hN 36 (by decide)
      have g36 : a.tmps[43]? = some v36 := g36
      obtain rfl : v36 = .func (.func 88) #[] #[.pointer (some ⟨wb, 0, none⟩)] := r36
      obtain ⟨kb, wb2, rfl, hk1, hk2⟩ := r35
      refine relVal rfl (.agg #[.int .i64 10, .func (.func 108) #[] #[.pointer (some ⟨kb, 0, none⟩), .pointer (some ⟨wb2, 0, none⟩)], .func (.func 88) #[] #[.pointer (some ⟨wb, 0, none⟩)]]) w rfl (by simp [execOp, Act.eval, g35, g36, build3, Result.andThen]) ⟨_, rfl, ⟨_, rfl, kb, wb2, rfl, hk1, hk2⟩, hS, Below.refl _ _⟩
    case s38 =>
      intro done a w hS h0 hd hn hO hN
      have o1 : a.tmps[1]? = some (.pointer (some ⟨wb, 0, none⟩)) := (hO.out 1 (by decide)).trans rfl
      have hc : w.cell? ⟨wb, 0, none⟩ = some (.pointer (some ⟨k, 0, none⟩)) := hS.2.cell 0
      refine relVal rfl (.pointer (some ⟨k, 0, none⟩)) w rfl (by go_simp) ⟨_, rfl, rfl, hS, Below.refl _ _⟩
    case s39 =>
      intro done a w hS h0 hd hn hO hN
      obtain ⟨v38, g38, r38⟩ := hN 38 (by decide)
      have g38 : a.tmps[45]? = some v38 := g38
      obtain rfl : v38 = .pointer (some ⟨k, 0, none⟩) := r38
      refine relCallF rfl rfl 84 [.tmp 45, .const (.int .i64 4)] #[84, 52] rfl [.pointer (some ⟨k, 0, none⟩), .int .i64 4] (by simp [Act.eval, g38]) (enters_of Tryz.func84 (by kernel_rfl) rfl) (Calls.mono (goal_any w k 4) ?_)
      rintro e w1 ⟨v, rfl, hv, hb⟩
      exact ⟨_, rfl, _, rfl, hv, ⟨hS.1.trans (hb.mono hS.1.size), hS.2.later hb⟩, hb⟩
    case s40 =>
      intro done a w hS h0 hd hn hO hN
      have o1 : a.tmps[1]? = some (.pointer (some ⟨wb, 0, none⟩)) := (hO.out 1 (by decide)).trans rfl
      refine relVal rfl (.func (.func 89) #[] #[.pointer (some ⟨wb, 0, none⟩)]) w rfl (by go_simp) ⟨_, rfl, rfl, hS, Below.refl _ _⟩
    case s41 =>
      intro done a w hS h0 hd hn hO hN
      obtain ⟨v39, g39, r39⟩ := hN 39 (by decide)
      have g39 : a.tmps[46]? = some v39 := g39
      obtain ⟨v40, g40, r40⟩ := hN 40 (by decide)
      have g40 : a.tmps[47]? = some v40 := g40
      obtain rfl : v40 = .func (.func 89) #[] #[.pointer (some ⟨wb, 0, none⟩)] := r40
      obtain ⟨kb, wb2, rfl, hk1, hk2⟩ := r39
      refine relVal rfl (.agg #[.int .i64 11, .func (.func 112) #[] #[.pointer (some ⟨kb, 0, none⟩), .pointer (some ⟨wb2, 0, none⟩)], .func (.func 89) #[] #[.pointer (some ⟨wb, 0, none⟩)]]) w rfl (by simp [execOp, Act.eval, g39, g40, build3, Result.andThen]) ⟨_, rfl, ⟨_, rfl, kb, wb2, rfl, hk1, hk2⟩, hS, Below.refl _ _⟩
    case s42 =>
      intro done a w hS h0 hd hn hO hN
      have o1 : a.tmps[1]? = some (.pointer (some ⟨wb, 0, none⟩)) := (hO.out 1 (by decide)).trans rfl
      have hc : w.cell? ⟨wb, 0, none⟩ = some (.pointer (some ⟨k, 0, none⟩)) := hS.2.cell 0
      refine relVal rfl (.pointer (some ⟨k, 0, none⟩)) w rfl (by go_simp) ⟨_, rfl, rfl, hS, Below.refl _ _⟩
    case s43 =>
      intro done a w hS h0 hd hn hO hN
      obtain ⟨v42, g42, r42⟩ := hN 42 (by decide)
      have g42 : a.tmps[49]? = some v42 := g42
      obtain rfl : v42 = .pointer (some ⟨k, 0, none⟩) := r42
      refine relCallF rfl rfl 84 [.tmp 49, .const (.int .i64 4)] #[84, 52] rfl [.pointer (some ⟨k, 0, none⟩), .int .i64 4] (by simp [Act.eval, g42]) (enters_of Tryz.func84 (by kernel_rfl) rfl) (Calls.mono (goal_any w k 4) ?_)
      rintro e w1 ⟨v, rfl, hv, hb⟩
      exact ⟨_, rfl, _, rfl, hv, ⟨hS.1.trans (hb.mono hS.1.size), hS.2.later hb⟩, hb⟩
    case s44 =>
      intro done a w hS h0 hd hn hO hN
      have o1 : a.tmps[1]? = some (.pointer (some ⟨wb, 0, none⟩)) := (hO.out 1 (by decide)).trans rfl
      refine relVal rfl (.func (.func 90) #[] #[.pointer (some ⟨wb, 0, none⟩)]) w rfl (by go_simp) ⟨_, rfl, rfl, hS, Below.refl _ _⟩
    case s45 =>
      intro done a w hS h0 hd hn hO hN
      obtain ⟨v43, g43, r43⟩ := hN 43 (by decide)
      have g43 : a.tmps[50]? = some v43 := g43
      obtain ⟨v44, g44, r44⟩ := hN 44 (by decide)
      have g44 : a.tmps[51]? = some v44 := g44
      obtain rfl : v44 = .func (.func 90) #[] #[.pointer (some ⟨wb, 0, none⟩)] := r44
      obtain ⟨kb, wb2, rfl, hk1, hk2⟩ := r43
      refine relVal rfl (.agg #[.int .i64 12, .func (.func 112) #[] #[.pointer (some ⟨kb, 0, none⟩), .pointer (some ⟨wb2, 0, none⟩)], .func (.func 90) #[] #[.pointer (some ⟨wb, 0, none⟩)]]) w rfl (by simp [execOp, Act.eval, g43, g44, build3, Result.andThen]) ⟨_, rfl, ⟨_, rfl, kb, wb2, rfl, hk1, hk2⟩, hS, Below.refl _ _⟩
    case s46 =>
      intro done a w hS h0 hd hn hO hN
      have o1 : a.tmps[1]? = some (.pointer (some ⟨wb, 0, none⟩)) := (hO.out 1 (by decide)).trans rfl
      have hc : w.cell? ⟨wb, 0, none⟩ = some (.pointer (some ⟨k, 0, none⟩)) := hS.2.cell 0
      refine relVal rfl (.pointer (some ⟨k, 0, none⟩)) w rfl (by go_simp) ⟨_, rfl, rfl, hS, Below.refl _ _⟩
    case s47 =>
      intro done a w hS h0 hd hn hO hN
      obtain ⟨v46, g46, r46⟩ := hN 46 (by decide)
      have g46 : a.tmps[53]? = some v46 := g46
      obtain rfl : v46 = .pointer (some ⟨k, 0, none⟩) := r46
      refine relCallF rfl rfl 69 [.tmp 53, .const (.int .i64 5)] #[84, 52] rfl [.pointer (some ⟨k, 0, none⟩), .int .i64 5] (by simp [Act.eval, g46]) (enters_of Tryz.func69 (by kernel_rfl) rfl) (Calls.mono (wfrom_any w k 5) ?_)
      rintro e w1 ⟨v, rfl, hv, hb⟩
      exact ⟨_, rfl, _, rfl, hv, ⟨hS.1.trans (hb.mono hS.1.size), hS.2.later hb⟩, hb⟩
    case s48 =>
      intro done a w hS h0 hd hn hO hN
      have o1 : a.tmps[1]? = some (.pointer (some ⟨wb, 0, none⟩)) := (hO.out 1 (by decide)).trans rfl
      refine relVal rfl (.func (.func 91) #[] #[.pointer (some ⟨wb, 0, none⟩)]) w rfl (by go_simp) ⟨_, rfl, rfl, hS, Below.refl _ _⟩
    case s49 =>
      intro done a w hS h0 hd hn hO hN
      obtain ⟨v47, g47, r47⟩ := hN 47 (by decide)
      have g47 : a.tmps[54]? = some v47 := g47
      obtain ⟨v48, g48, r48⟩ := hN 48 (by decide)
      have g48 : a.tmps[55]? = some v48 := g48
      obtain rfl : v48 = .func (.func 91) #[] #[.pointer (some ⟨wb, 0, none⟩)] := r48
      obtain ⟨kb, wb2, rfl, hk1, hk2⟩ := r47
      refine relVal rfl (.agg #[.int .i64 13, .func (.func 107) #[] #[.pointer (some ⟨kb, 0, none⟩), .pointer (some ⟨wb2, 0, none⟩)], .func (.func 91) #[] #[.pointer (some ⟨wb, 0, none⟩)]]) w rfl (by simp [execOp, Act.eval, g47, g48, build3, Result.andThen]) ⟨_, rfl, ⟨_, rfl, kb, wb2, rfl, hk1, hk2⟩, hS, Below.refl _ _⟩
    case s50 =>
      intro done a w hS h0 hd hn hO hN
      obtain ⟨v3, g3, r3⟩ := hN 3 (by decide)
      have g3 : a.tmps[10]? = some v3 := g3
      obtain ⟨v6, g6, r6⟩ := hN 6 (by decide)
      have g6 : a.tmps[13]? = some v6 := g6
      obtain ⟨v10, g10, r10⟩ := hN 10 (by decide)
      have g10 : a.tmps[17]? = some v10 := g10
      obtain ⟨v13, g13, r13⟩ := hN 13 (by decide)
      have g13 : a.tmps[20]? = some v13 := g13
      obtain ⟨v17, g17, r17⟩ := hN 17 (by decide)
      have g17 : a.tmps[24]? = some v17 := g17
      obtain ⟨v21, g21, r21⟩ := hN 21 (by decide)
      have g21 : a.tmps[28]? = some v21 := g21
      obtain ⟨v25, g25, r25⟩ := hN 25 (by decide)
      have g25 : a.tmps[32]? = some v25 := g25
      obtain ⟨v29, g29, r29⟩ := hN 29 (by decide)
      have g29 : a.tmps[36]? = some v29 := g29
      obtain ⟨v33, g33, r33⟩ := hN 33 (by decide)
      have g33 : a.tmps[40]? = some v33 := g33
      obtain ⟨v37, g37, r37⟩ := hN 37 (by decide)
      have g37 : a.tmps[44]? = some v37 := g37
      obtain ⟨v41, g41, r41⟩ := hN 41 (by decide)
      have g41 : a.tmps[48]? = some v41 := g41
      obtain ⟨v45, g45, r45⟩ := hN 45 (by decide)
      have g45 : a.tmps[52]? = some v45 := g45
      obtain ⟨v49, g49, r49⟩ := hN 49 (by decide)
      have g49 : a.tmps[56]? = some v49 := g49
      obtain ⟨F0, rfl, hF0⟩ := r3
      obtain ⟨F1, rfl, hF1⟩ := r6
      obtain ⟨F2, rfl, hF2⟩ := r10
      obtain ⟨F3, rfl, hF3⟩ := r13
      obtain ⟨F4, rfl, hF4⟩ := r17
      obtain ⟨F5, rfl, hF5⟩ := r21
      obtain ⟨F6, rfl, hF6⟩ := r25
      obtain ⟨F7, rfl, hF7⟩ := r29
      obtain ⟨F8, rfl, hF8⟩ := r33
      obtain ⟨F9, rfl, hF9⟩ := r37
      obtain ⟨F10, rfl, hF10⟩ := r41
      obtain ⟨F11, rfl, hF11⟩ := r45
      obtain ⟨F12, rfl, hF12⟩ := r49
      have hfb : ∃ fa, Cl w fb #[fa] 124 ∧ BoxC w 107 k 1 fa := HFB.out w hS.1
      refine relVal rfl (.slice (some ⟨w.heap.size, 0, none⟩) 13 13) (w.alloc (.cells (triC wb (fun i => match i with | 0 => F0 | 1 => F1 | 2 => F2 | 3 => F3 | 4 => F4 | 5 => F5 | 6 => F6 | 7 => F7 | 8 => F8 | 9 => F9 | 10 => F10 | 11 => F11 | 12 => F12 | _ => undef)) 127)) rfl (by simp [execOp, Act.eval, g3, g6, g10, g13, g17, g21, g25, g29, g33, g37, g41, g45, g49, build13, Result.andThen]; rfl) ⟨_, rfl, ?_, ⟨hS.1.alloc hS.1.size _, hS.2.later (below_alloc w _)⟩, below_alloc w _⟩
      refine ⟨w.heap.size, fun i => match i with | 0 => F0 | 1 => F1 | 2 => F2 | 3 => F3 | 4 => F4 | 5 => F5 | 6 => F6 | 7 => F7 | 8 => F8 | 9 => F9 | 10 => F10 | 11 => F11 | 12 => F12 | _ => undef, rfl, (new_alloc w _ _).blk, hS.2.later (below_alloc w _), ?_, allLt 13 ⟨⟨⟨⟨⟨⟨⟨⟨⟨⟨⟨⟨⟨trivial, RawF.later (i := 0) hF0 (below_alloc w _)⟩, RawF.later (i := 1) hF1 (below_alloc w _)⟩, RawF.later (i := 2) hF2 (below_alloc w _)⟩, RawF.later (i := 3) hF3 (below_alloc w _)⟩, RawF.later (i := 4) hF4 (below_alloc w _)⟩, RawF.later (i := 5) hF5 (below_alloc w _)⟩, RawF.later (i := 6) hF6 (below_alloc w _)⟩, RawF.later (i := 7) hF7 (below_alloc w _)⟩, RawF.later (i := 8) hF8 (below_alloc w _)⟩, RawF.later (i := 9) hF9 (below_alloc w _)⟩, RawF.later (i := 10) hF10 (below_alloc w _)⟩, RawF.later (i := 11) hF11 (below_alloc w _)⟩, RawF.later (i := 12) hF12 (below_alloc w _)⟩⟩
      obtain ⟨fa, h1, h2⟩ := hfb
      exact ⟨fa, h1.later (below_alloc w _), h2.later (below_alloc w _)⟩
    case s51 =>
      intro done a w hS h0 hd hn hO hN
      obtain ⟨v50, g50, r50⟩ := hN 50 (by decide)
      have g50 : a.tmps[57]? = some v50 := g50
      obtain ⟨T, F, rfl, hT⟩ := r50
      refine relVal rfl (.slice (some ⟨T, 0, none⟩) 13 13) w rfl (by go_simp) ⟨_, rfl, ⟨T, F, rfl, hT⟩, hS, Below.refl _ _⟩
  case fin =>
    intro vs done w hdone hS hR
    simp only [putAll, Act.put, List.setIfInBounds_toArray, List.set_cons_zero, List.set_cons_succ]
    obtain ⟨T, F, hv, hT⟩ : ∃ T F, vs 51 = .slice (some ⟨T, 0, none⟩) 13 13 ∧ Tri w k T wb fb F := hR 51 (by decide)
    rw [hv]
    have HZ := show Hid _ from And.intro (H4.out.1.trans (hS.1.mono H4.out.1.size)) hT
    clear hS hR hdone hv hT H4 H3 HFB HS3 HK3 c3 f3
    go_wp2_with fail
    go_ret
    exact ⟨T, wb, fb, F, rfl, HZ.out.2, HZ.out.1⟩
end Go.Proofs.YtkejippimkjjaaaGreatDoor
