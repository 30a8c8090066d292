/-
  Shapes of formulas: the call shapeOf, for every table that calls made and every number. No other condition.
-/
import Derived.Test.YtpddfooeaecekaaDoorZArm
import Derived.Test.YtpddfooeaecekaaDoorFG2
import Derived.Test.YtpddfooeaecekaaDoorZRel
namespace Go.Proofs.YtpddfooeaecekaaDoor
open Go.RowKit Go.Shelf Go.Maps
open Fm (Nd)
set_option linter.unusedSimpArgs false

structure Sh where
  id : Int
  k : Int
  a : Int
  b : Int
  q : Int
  c : Int
  d : Int
def shC (m : Sh) : Array Value := #[.int .i64 m.id, .int .i64 m.k, .int .i64 m.a, .int .i64 m.b, .int .i64 m.q, .int .i64 m.c, .int .i64 m.d]
def shV (m : Sh) : Value := .agg (shC m)
def shp (t : List Nd) (i : Int) : Sh :=
  ⟨i, (nodeOf t i).k, (nodeOf t i).l, (nodeOf t i).r, if (nodeOf t i).k = 5 then (nodeOf t (nodeOf t i).l).k else 0, if (nodeOf t i).k = 5 then (nodeOf t (nodeOf t i).l).l else 0, if (nodeOf t i).k = 5 then (nodeOf t (nodeOf t i).l).r else 0⟩
def sh0 : Sh := ⟨0, 0, 0, 0, 0, 0, 0⟩
theorem sizeS : (Tryd.prog.info? 98).map (·.size) = some 7 := by kernel_rfl
theorem sizeN : (Tryd.prog.info? 62).map (·.size) = some 4 := by kernel_rfl
theorem zeroS (w : World) : (zeroValue 98).run Tryd.prog w = .ok (.agg (shC sh0)) w := by kernel_rfl
theorem zeroN (w : World) : (zeroValue 62).run Tryd.prog w = .ok (.agg (ndC Fm.z).toArray) w := by kernel_rfl
theorem shC_one (m : Sh) : (shC m).all (·.oneCell') = true := by simp [shC, Value.oneCell']
theorem shC_set (m : Sh) (x y z : Int) : (((shC m).setIfInBounds 4 (.int .i64 x)).setIfInBounds 5 (.int .i64 y)).setIfInBounds 6 (.int .i64 z) = shC ⟨m.id, m.k, m.a, m.b, x, y, z⟩ := rfl
theorem bel_new {w0 w w' : World} {b : Nat} {cs : Array Value} {T : TypeId} (h : Below w0.heap.size w0 w) (hn : New w w' b cs T) : Below w0.heap.size w0 w' := h.trans (hn.bel.mono h.size)
theorem bel_kp {w0 w w' : World} {p : Nat} (h : Below w0.heap.size w0 w) (hk : KpP p w w') (hp : w0.heap.size ≤ p) : Below w0.heap.size w0 w' :=
  ⟨hk.os.trans h.os, hk.tape.trans h.tape, hk.output.trans h.output, Nat.le_trans h.size hk.size, fun k hk2 => (hk.block k (Nat.lt_of_lt_of_le hk2 h.size) (by omega)).trans (h.block k hk2)⟩
theorem Cl.kp {w w' : World} {b p : Nat} {cs : Array Value} {T : TypeId} (h : Cl w b cs T) (hk : KpP p w w') (hp : b ≠ p) : Cl w' b cs T := (hk.block b h.lt hp).trans h
theorem Cl.new {w w' : World} {b p : Nat} {cs cs' : Array Value} {T T' : TypeId} (h : Cl w b cs T) (hn : New w w' p cs' T') : Cl w' b cs T := h.later hn.bel
structure SP (w W : World) (b1 b3 b5 : Nat) (n : Nd) (m : Sh) : Prop where
  r : Cl W b1 (shC sh0) 98
  n : Cl W b3 (ndC n).toArray 62
  s : Cl W b5 (shC m) 98
  bel : Below w.heap.size w W
  l1 : w.heap.size ≤ b1
  l3 : w.heap.size ≤ b3
  l5 : w.heap.size ≤ b5
  n1 : b1 ≠ b5
theorem SP.later {w W W' : World} {b1 b3 b5 : Nat} {n : Nd} {m : Sh} (h : SP w W b1 b3 b5 n m) (hb : Below W.heap.size W W') : SP w W' b1 b3 b5 n m :=
  ⟨h.r.later hb, h.n.later hb, h.s.later hb, h.bel.trans (hb.mono h.bel.size), h.l1, h.l3, h.l5, h.n1⟩
theorem SP.drew {w W : World} {b1 b3 b5 : Nat} {n : Nd} {m : Sh} (h : SP w W b1 b3 b5 n m) : SP w W.drew b1 b3 b5 n m := ⟨h.r, h.n, h.s, h.bel.drew, h.l1, h.l3, h.l5, h.n1⟩
theorem SP.cellSet {w W : World} {b1 b3 b5 b8 : Nat} {n n2 : Nd} {m m' : Sh} (h : SP w W b1 b3 b5 n m) (h2 : Cl W b8 (ndC n2).toArray 62) (hne : b8 ≠ b5) (j : Nat) (v : Value) (hm : (shC m).setIfInBounds j v = shC m') : SP w (W.setCell ⟨b5, j, none⟩ v) b1 b3 b5 n m' ∧ Cl (W.setCell ⟨b5, j, none⟩ v) b8 (ndC n2).toArray 62 := by
  have hk : KpP b5 W (W.setCell ⟨b5, j, none⟩ v) := KpP.set (Kp.refl _ W) j v
  have hs := heap_setCell_same W b5 j _ _ v h.s
  rw [hm] at hs
  have h35 : b3 ≠ b5 := by
    rintro rfl
    have e := h.n.symm.trans h.s
    simp at e
  exact ⟨⟨h.r.kp hk h.n1, h.n.kp hk h35, hs, bel_kp h.bel hk h.l5, h.l1, h.l3, h.l5, h.n1⟩, h2.kp hk hne⟩
theorem SP.set4 {w W : World} {b1 b3 b5 b8 : Nat} {n n2 : Nd} {m : Sh} (h : SP w W b1 b3 b5 n m) (h2 : Cl W b8 (ndC n2).toArray 62) (hne : b8 ≠ b5) (x : Int) : SP w (W.setCell ⟨b5, 4, none⟩ (.int .i64 x)) b1 b3 b5 n ⟨m.id, m.k, m.a, m.b, x, m.c, m.d⟩ ∧ Cl (W.setCell ⟨b5, 4, none⟩ (.int .i64 x)) b8 (ndC n2).toArray 62 := h.cellSet h2 hne 4 (.int .i64 x) rfl
theorem SP.set5 {w W : World} {b1 b3 b5 b8 : Nat} {n n2 : Nd} {m : Sh} (h : SP w W b1 b3 b5 n m) (h2 : Cl W b8 (ndC n2).toArray 62) (hne : b8 ≠ b5) (x : Int) : SP w (W.setCell ⟨b5, 5, none⟩ (.int .i64 x)) b1 b3 b5 n ⟨m.id, m.k, m.a, m.b, m.q, x, m.d⟩ ∧ Cl (W.setCell ⟨b5, 5, none⟩ (.int .i64 x)) b8 (ndC n2).toArray 62 := h.cellSet h2 hne 5 (.int .i64 x) rfl
theorem SP.set6 {w W : World} {b1 b3 b5 b8 : Nat} {n n2 : Nd} {m : Sh} (h : SP w W b1 b3 b5 n m) (h2 : Cl W b8 (ndC n2).toArray 62) (hne : b8 ≠ b5) (x : Int) : SP w (W.setCell ⟨b5, 6, none⟩ (.int .i64 x)) b1 b3 b5 n ⟨m.id, m.k, m.a, m.b, m.q, m.c, x⟩ ∧ Cl (W.setCell ⟨b5, 6, none⟩ (.int .i64 x)) b8 (ndC n2).toArray 62 := h.cellSet h2 hne 6 (.int .i64 x) rfl
theorem results_sh {fn : Func} {p t2 : Tmp} (h : fn.results = #[.cell p 98, .tmp t2]) (tmps : Array Value) (w : World) (b : Nat) (m : Sh) (hp : tmps.getD p undef = .pointer (some ⟨b, 0, none⟩)) (hr : Cl w b (shC m) 98) :
    (results fn tmps).run Tryd.prog w = .ok (.tuple #[shV m, tmps.getD t2 undef]) w :=
  results_cell_tmp h tmps w b _ _ _ _ hp hr Tryd.underlying98 rfl (by kernel_rfl)
set_option maxRecDepth 100000 in
set_option maxHeartbeats 2000000 in
theorem shapeOf_any (w : World) {b m : Nat} {v : Value} {t : List Nd} (hT : Tb w b m v t) (i : Int) : Calls Tryd.prog 52 #[.pointer (some ⟨b, 0, none⟩), .int .i64 i] w fun e w' => e = .returned (.tuple #[shV (shp t i), .bool (Fm.has t i)]) ∧ Below w.heap.size w w' := by
  have KN := show Hid (∀ w' x, Below w.heap.size w w' → Calls Tryd.prog 46 #[.pointer (some ⟨b, 0, none⟩), .int .i64 x] w' fun e w'' => e = .returned (.tuple #[ndV (nodeOf t x), .bool (Fm.has t x)]) ∧ Below w'.heap.size w' w'') from fun w' x h => node_any w' (hT.later h) x
  have HP := show Hid (shp t i = ⟨i, (nodeOf t i).k, (nodeOf t i).l, (nodeOf t i).r, if (nodeOf t i).k = 5 then (nodeOf t (nodeOf t i).l).k else 0, if (nodeOf t i).k = 5 then (nodeOf t (nodeOf t i).l).l else 0, if (nodeOf t i).k = 5 then (nodeOf t (nodeOf t i).l).r else 0⟩) from rfl
  clear hT
  generalize shp t i = sp at *
  go_enter Tryd.func52, Tryd.ntmps52
  go_wp2_with (refine wpList_alloc _ rfl _ zeroS rfl ?_)
  intro w1 b1 hn1
  go_wp2_with fail
  refine Calls.mono (KN.out w1 i hn1.bel) ?_
  rintro e w2 ⟨rfl, hb2⟩
  obtain ⟨n, hn⟩ : ∃ n, n = nodeOf t i := ⟨_, rfl⟩
  rw [← hn] at HP
  rw [← hn]
  have HN := show Hid _ from hn
  clear hn
  unfold ndV
  go_wp2_with (refine wpList_alloc _ rfl _ zeroN rfl ?_)
  intro w3 b3 hn3
  go_wp2_with (refine wpList_st _ rfl rfl _ _ rfl _ rfl _ rfl _ _ hn3.blk sizeN rfl (by simp [Value.oneCell']) ?_)
  intro w4 hc4 hk4
  have d0 : w4.cell? ⟨b3, 0, none⟩ = some (.int .i64 n.k) := hc4.cell 0
  have d2 : w4.cell? ⟨b3, 2, none⟩ = some (.int .i64 n.l) := hc4.cell 2
  have d3 : w4.cell? ⟨b3, 3, none⟩ = some (.int .i64 n.r) := hc4.cell 3
  have hb21 : Below w.heap.size w w2 := hn1.bel.trans (hb2.mono hn1.bel.size)
  have hb4 : Below w.heap.size w w4 := bel_kp (bel_new hb21 hn3) hk4 (by have := hb21.size; have := hn3.ge; omega)
  have H4 := show Hid (Below w.heap.size w w4 ∧ Cl w4 b1 (shC sh0) 98 ∧ Cl w4 b3 (ndC n).toArray 62 ∧ w.heap.size ≤ b1 ∧ w.heap.size ≤ b3) from
    ⟨hb4, ((Cl.later hn1.blk hb2).new hn3).kp hk4 (by have := Cl.lt hn1.blk; have := hb2.size; have := hn3.ge; omega), hc4, hn1.ge, by have := hb21.size; have := hn3.ge; omega⟩
  clear hn1 hb2 hn3 hc4 hk4 hb21 hb4
  go_wp2_with (refine wpList_alloc _ rfl _ zeroS rfl ?_)
  intro w5 b5 hn5
  have H5 := show Hid (Below w.heap.size w w5 ∧ Cl w5 b1 (shC sh0) 98 ∧ Cl w5 b3 (ndC n).toArray 62 ∧ w.heap.size ≤ b5 ∧ b1 < b5 ∧ b3 < b5) from
    ⟨bel_new H4.out.1 hn5, H4.out.2.1.new hn5, H4.out.2.2.1.new hn5, by have := H4.out.1.size; have := hn5.ge; omega, by have := H4.out.2.1.lt; have := hn5.ge; omega, by have := H4.out.2.2.1.lt; have := hn5.ge; omega⟩
  go_wp2_with (refine wpList_st _ rfl rfl _ _ rfl _ rfl _ rfl _ _ hn5.blk sizeS rfl (by simp [Value.oneCell']) ?_)
  intro w6 hc6 hk6
  have H6 := show Hid (SP w w6 b1 b3 b5 n ⟨i, n.k, n.l, n.r, 0, 0, 0⟩) from
    ⟨H5.out.2.1.kp hk6 (by have := H5.out.2.2.2; omega), H5.out.2.2.1.kp hk6 (by have := H5.out.2.2.2; omega), hc6, bel_kp H5.out.1 hk6 H5.out.2.2.2.1, H4.out.2.2.2.1, H4.out.2.2.2.2, H5.out.2.2.2.1, by have := H5.out.2.2.2; omega⟩
  clear H4 H5 hn5 hc6 hk6 d0 d2 d3
  have d0 : w6.cell? ⟨b3, 0, none⟩ = some (.int .i64 n.k) := H6.out.n.cell 0
  have d2 : w6.cell? ⟨b3, 2, none⟩ = some (.int .i64 n.l) := H6.out.n.cell 2
  by_cases h5 : n.k = 5
  · have h5b : (n.k == 5) = true := by simpa using h5
    rw [if_pos h5, if_pos h5, if_pos h5] at HP
    have KX := show Hid _ from KN.out w6 n.l H6.out.bel
    clear HN KN
    go_wp2_with fail
    refine Calls.mono KX.out ?_
    rintro e w7 ⟨rfl, hb7⟩
    have H7 := show Hid _ from H6.out.later hb7
    clear KX H6 hb7 d0 d2
    generalize nodeOf t n.l = n2 at *
    generalize Fm.has t n.l = hh2 at *
    unfold ndV
    go_wp2_with (refine wpList_alloc _ rfl _ zeroN rfl ?_)
    intro w8 b8 hn8
    go_wp2_with (refine wpList_st _ rfl rfl _ _ rfl _ rfl _ rfl _ _ hn8.blk sizeN rfl (by simp [Value.oneCell']) ?_)
    intro w9 hc9 hk9
    have H9 := show Hid (SP w w9 b1 b3 b5 n ⟨i, n.k, n.l, n.r, 0, 0, 0⟩) from (by
      have h := H7.out.later hn8.bel
      have e1 := H7.out.r.lt; have e3 := H7.out.n.lt; have e5 := H7.out.s.lt; have e8 := hn8.ge
      exact ⟨h.r.kp hk9 (by omega), h.n.kp hk9 (by omega), h.s.kp hk9 (by omega), bel_kp h.bel hk9 (by have := H7.out.bel.size; omega), h.l1, h.l3, h.l5, h.n1⟩)
    have c0 : w9.cell? ⟨b8, 0, none⟩ = some (.int .i64 n2.k) := hc9.cell 0
    have c2 : w9.cell? ⟨b8, 2, none⟩ = some (.int .i64 n2.l) := hc9.cell 2
    have c3 : w9.cell? ⟨b8, 3, none⟩ = some (.int .i64 n2.r) := hc9.cell 3
    have hlt8 : b8 ≠ b5 := by have := H7.out.s.lt; have := hn8.ge; omega
    go_wp2_with fail
    refine wp_region_rel (by kernel_rfl) [some 35, some 36, some 37, some 38, some 39, some 40, some 41, none, some 42, none, some 43, none] [[], [0], [], [2], [], [4], [], [6, 1], [], [8, 3], [], [10, 5]] (by kernel_rfl) (fun i v w => match i with | 0 => v = .pointer (some ⟨b8, 0, none⟩) | 1 => v = .int .i64 n2.k | 2 => v = .pointer (some ⟨b8, 2, none⟩) | 3 => v = .int .i64 n2.l | 4 => v = .pointer (some ⟨b8, 3, none⟩) | 5 => v = .int .i64 n2.r | 6 => v = .pointer (some ⟨b5, 4, none⟩) | 7 => True | 8 => v = .pointer (some ⟨b5, 5, none⟩) | 9 => True | 10 => v = .pointer (some ⟨b5, 6, none⟩) | 11 => True | _ => True) (fun done W => SP w W b1 b3 b5 n ⟨i, n.k, n.l, n.r, if done 7 then n2.k else 0, if done 9 then n2.l else 0, if done 11 then n2.r else 0⟩ ∧ Cl W b8 (ndC n2).toArray 62) (fun _ _ => True) ?hle (⟨H9.out.drew, hc9⟩) (allLt 12 ?steps) ?fin
    case hle =>
      intro i v w w1 hl h
      match i, h with
      | 0, h => exact h
      | 1, h => exact h
      | 2, h => exact h
      | 3, h => exact h
      | 4, h => exact h
      | 5, h => exact h
      | 6, h => exact h
      | 7, h => exact h
      | 8, h => exact h
      | 9, h => exact h
      | 10, h => exact h
      | 11, h => exact h
      | _ + 12, h => trivial
    case steps =>
      refine ⟨⟨⟨⟨⟨⟨⟨⟨⟨⟨⟨⟨trivial, ?s0⟩, ?s1⟩, ?s2⟩, ?s3⟩, ?s4⟩, ?s5⟩, ?s6⟩, ?s7⟩, ?s8⟩, ?s9⟩, ?s10⟩, ?s11⟩
      case s0 =>
        intro done a w hS h0 hd hn hO hN
        have o9 : a.tmps[9]? = some (.pointer (some ⟨b8, 0, none⟩)) := (hO.out 9 (by decide)).trans rfl
        refine relVal rfl (.pointer (some ⟨b8, 0, none⟩)) w rfl (by go_simp) ⟨_, rfl, rfl, by simpa [h0] using hS, trivial⟩
      case s1 =>
        intro done a w hS h0 hd hn hO hN
        obtain ⟨v0, g0, r0⟩ := hN 0 (by decide)
        have g0 : a.tmps[35]? = some v0 := g0
        obtain rfl : v0 = .pointer (some ⟨b8, 0, none⟩) := r0
        have hc : w.cell? ⟨b8, 0, none⟩ = some (.int .i64 n2.k) := hS.2.cell 0
        refine relVal rfl (.int .i64 n2.k) w rfl (by go_simp) ⟨_, rfl, rfl, by simpa [h0] using hS, trivial⟩
      case s2 =>
        intro done a w hS h0 hd hn hO hN
        have o9 : a.tmps[9]? = some (.pointer (some ⟨b8, 0, none⟩)) := (hO.out 9 (by decide)).trans rfl
        refine relVal rfl (.pointer (some ⟨b8, 2, none⟩)) w rfl (by go_simp) ⟨_, rfl, rfl, by simpa [h0] using hS, trivial⟩
      case s3 =>
        intro done a w hS h0 hd hn hO hN
        obtain ⟨v2, g2, r2⟩ := hN 2 (by decide)
        have g2 : a.tmps[37]? = some v2 := g2
        obtain rfl : v2 = .pointer (some ⟨b8, 2, none⟩) := r2
        have hc : w.cell? ⟨b8, 2, none⟩ = some (.int .i64 n2.l) := hS.2.cell 2
        refine relVal rfl (.int .i64 n2.l) w rfl (by go_simp) ⟨_, rfl, rfl, by simpa [h0] using hS, trivial⟩
      case s4 =>
        intro done a w hS h0 hd hn hO hN
        have o9 : a.tmps[9]? = some (.pointer (some ⟨b8, 0, none⟩)) := (hO.out 9 (by decide)).trans rfl
        refine relVal rfl (.pointer (some ⟨b8, 3, none⟩)) w rfl (by go_simp) ⟨_, rfl, rfl, by simpa [h0] using hS, trivial⟩
      case s5 =>
        intro done a w hS h0 hd hn hO hN
        obtain ⟨v4, g4, r4⟩ := hN 4 (by decide)
        have g4 : a.tmps[39]? = some v4 := g4
        obtain rfl : v4 = .pointer (some ⟨b8, 3, none⟩) := r4
        have hc : w.cell? ⟨b8, 3, none⟩ = some (.int .i64 n2.r) := hS.2.cell 3
        refine relVal rfl (.int .i64 n2.r) w rfl (by go_simp) ⟨_, rfl, rfl, by simpa [h0] using hS, trivial⟩
      case s6 =>
        intro done a w hS h0 hd hn hO hN
        have o8 : a.tmps[8]? = some (.pointer (some ⟨b5, 0, none⟩)) := (hO.out 8 (by decide)).trans rfl
        refine relVal rfl (.pointer (some ⟨b5, 4, none⟩)) w rfl (by go_simp) ⟨_, rfl, rfl, by simpa [h0] using hS, trivial⟩
      case s7 =>
        intro done a w hS h0 hd hn hO hN
        obtain ⟨v6, g6, r6⟩ := hN 6 (by decide)
        have g6 : a.tmps[41]? = some v6 := g6
        obtain rfl : v6 = .pointer (some ⟨b5, 4, none⟩) := r6
        obtain ⟨v1, g1, r1⟩ := hN 1 (by decide)
        have g1 : a.tmps[36]? = some v1 := g1
        obtain rfl : v1 = .int .i64 n2.k := r1
        obtain ⟨xx, hcc⟩ : ∃ x, w.cell? ⟨b5, 4, none⟩ = some x := ⟨_, hS.1.s.cell 4⟩
        have hf := hS.1.s.fr 4
        have HS := hS.1.set4 hS.2 hlt8 (n2.k)
        refine relSkip rfl (w.setCell ⟨b5, 4, none⟩ (.int .i64 (n2.k))) rfl (by go_simp) ⟨undef, rfl, trivial, ?_, trivial⟩
        simpa [h0] using HS
      case s8 =>
        intro done a w hS h0 hd hn hO hN
        have o8 : a.tmps[8]? = some (.pointer (some ⟨b5, 0, none⟩)) := (hO.out 8 (by decide)).trans rfl
        refine relVal rfl (.pointer (some ⟨b5, 5, none⟩)) w rfl (by go_simp) ⟨_, rfl, rfl, by simpa [h0] using hS, trivial⟩
      case s9 =>
        intro done a w hS h0 hd hn hO hN
        obtain ⟨v8, g8, r8⟩ := hN 8 (by decide)
        have g8 : a.tmps[42]? = some v8 := g8
        obtain rfl : v8 = .pointer (some ⟨b5, 5, none⟩) := r8
        obtain ⟨v3, g3, r3⟩ := hN 3 (by decide)
        have g3 : a.tmps[38]? = some v3 := g3
        obtain rfl : v3 = .int .i64 n2.l := r3
        obtain ⟨xx, hcc⟩ : ∃ x, w.cell? ⟨b5, 5, none⟩ = some x := ⟨_, hS.1.s.cell 5⟩
        have hf := hS.1.s.fr 5
        have HS := hS.1.set5 hS.2 hlt8 (n2.l)
        refine relSkip rfl (w.setCell ⟨b5, 5, none⟩ (.int .i64 (n2.l))) rfl (by go_simp) ⟨undef, rfl, trivial, ?_, trivial⟩
        simpa [h0] using HS
      case s10 =>
        intro done a w hS h0 hd hn hO hN
        have o8 : a.tmps[8]? = some (.pointer (some ⟨b5, 0, none⟩)) := (hO.out 8 (by decide)).trans rfl
        refine relVal rfl (.pointer (some ⟨b5, 6, none⟩)) w rfl (by go_simp) ⟨_, rfl, rfl, by simpa [h0] using hS, trivial⟩
      case s11 =>
        intro done a w hS h0 hd hn hO hN
        obtain ⟨v10, g10, r10⟩ := hN 10 (by decide)
        have g10 : a.tmps[43]? = some v10 := g10
        obtain rfl : v10 = .pointer (some ⟨b5, 6, none⟩) := r10
        obtain ⟨v5, g5, r5⟩ := hN 5 (by decide)
        have g5 : a.tmps[40]? = some v5 := g5
        obtain rfl : v5 = .int .i64 n2.r := r5
        obtain ⟨xx, hcc⟩ : ∃ x, w.cell? ⟨b5, 6, none⟩ = some x := ⟨_, hS.1.s.cell 6⟩
        have hf := hS.1.s.fr 6
        have HS := hS.1.set6 hS.2 hlt8 (n2.r)
        refine relSkip rfl (w.setCell ⟨b5, 6, none⟩ (.int .i64 (n2.r))) rfl (by go_simp) ⟨undef, rfl, trivial, ?_, trivial⟩
        simpa [h0] using HS
    case fin =>
      intro vs done wz hdone hS hR
      have HZ := show Hid (SP w wz b1 b3 b5 n sp) from (by
        have h := hS.1
        rw [if_pos (hdone 7 (by decide)), if_pos (hdone 9 (by decide)), if_pos (hdone 11 (by decide))] at h
        rw [HP.out]
        exact h)
      clear hS hR hdone H9 H7 hn8 hc9 hk9 c0 c2 c3 HP
      simp only [putAll, Act.put, List.setIfInBounds_toArray, List.set_cons_zero, List.set_cons_succ]
      go_wp2_with (first | (refine wpList_ldw _ _ rfl _ rfl _ _ HZ.out.s rfl Tryd.underlying98 sizeS rfl ?_) | (refine wpList_st _ rfl rfl _ _ rfl _ rfl _ rfl _ _ HZ.out.r sizeS rfl (shC_one _) ?_))
      intro w7 hc7 hk7
      go_wp2_with fail
      refine bodyPost_ret (results_sh rfl _ _ b1 _ rfl hc7) rfl ?_
      exact ⟨rfl, bel_kp HZ.out.bel hk7 HZ.out.l1⟩
  · have h5b : (n.k == 5) = false := by simpa using h5
    have hsp : sp = ⟨i, n.k, n.l, n.r, 0, 0, 0⟩ := by rw [HP.out, if_neg h5, if_neg h5, if_neg h5]
    subst hsp
    clear HP HN KN
    go_wp2_with (first | (refine wpList_ldw _ _ rfl _ rfl _ _ H6.out.s rfl Tryd.underlying98 sizeS rfl ?_) | (refine wpList_st _ rfl rfl _ _ rfl _ rfl _ rfl _ _ H6.out.r sizeS rfl (shC_one _) ?_))
    intro w7 hc7 hk7
    go_wp2_with fail
    refine bodyPost_ret (results_sh rfl _ _ b1 _ rfl hc7) rfl ?_
    exact ⟨rfl, bel_kp H6.out.bel hk7 H6.out.l1⟩
end Go.Proofs.YtpddfooeaecekaaDoor
