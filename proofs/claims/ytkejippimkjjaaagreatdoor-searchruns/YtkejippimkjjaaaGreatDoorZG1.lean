/-
  Arms of a walk whose worlds stay names: a variable boxed, made, loaded and stored whole. No condition.
-/
import Derived.Test.YtkejippimkjjaaaGreatDoorZSeq
import Derived.Test.YtkejippimkjjaaaGreatDoorFG2
import Derived.Test.YtkejippimkjjaaaGreatDoorZRel
import Derived.Test.YtkejippimkjjaaaGreatDoorBG4
import Derived.Test.YtkejippimkjjaaaGreatDoorBG2
namespace Go.Proofs.YtkejippimkjjaaaGreatDoor
open Go.RowKit Go.Shelf Go.Maps
open Fm (Nd)
set_option linter.unusedSimpArgs false

structure New (w w' : World) (b : Nat) (cs : Array Value) (T : TypeId) : Prop where
  blk : w'.heap[b]? = some (.cells cs T (0, 0))
  bel : Below w.heap.size w w'
  ge : w.heap.size ≤ b
  up : w'.heap.size = b + 1
  eq : b = w.heap.size
theorem new_alloc (w : World) (cs : Array Value) (T : TypeId) : New w (w.alloc (.cells cs T)) w.heap.size cs T :=
  ⟨heap_alloc_last w _, below_alloc w _, Nat.le_refl _, by simp, rfl⟩
def Cl (w : World) (b : Nat) (cs : Array Value) (T : TypeId) : Prop := w.heap[b]? = some (.cells cs T (0, 0))
theorem Cl.later {w w' : World} {b : Nat} {cs : Array Value} {T : TypeId} (h : Cl w b cs T) (hb : Below w.heap.size w w') : Cl w' b cs T := (hb.block b (lt_of_block h)).trans h
theorem Cl.lt {w : World} {b : Nat} {cs : Array Value} {T : TypeId} (h : Cl w b cs T) : b < w.heap.size := lt_of_block h
theorem Cl.cell {w : World} {b : Nat} {cs : Array Value} {T : TypeId} (h : Cl w b cs T) (j : Nat) : w.cell? ⟨b, j, none⟩ = cs[j]? := cell_of_row w b j _ _ _ h
theorem Cl.fr {w : World} {b : Nat} {cs : Array Value} {T : TypeId} (h : Cl w b cs T) (j : Nat) : w.frozen? ⟨b, j, none⟩ = false := frozen_of_row w b j _ _ h
theorem Cl.drew {w : World} {b : Nat} {cs : Array Value} {T : TypeId} (h : Cl w b cs T) : Cl w.drew b cs T := h
def Same (w W : World) : Prop := w.heap.size ≤ W.heap.size ∧ ∀ (k : Nat) (cs : Array Value) (T : TypeId) (fr : Nat × Nat), w.heap[k]? = some (.cells cs T fr) → (T ≠ 120 ∧ T ≠ 43) → (T ≠ 44 ∧ T ≠ 3) → W.heap[k]? = w.heap[k]?
theorem Same.of_below {w W : World} (h : Below w.heap.size w W) : Same w W := ⟨h.size, fun k _ _ _ hk _ _ => h.block k (lt_of_block hk)⟩
theorem Same.refl (w : World) : Same w w := ⟨Nat.le_refl _, fun _ _ _ _ _ _ _ => rfl⟩
theorem Same.trans {a b c : World} (h : Same a b) (k : Same b c) : Same a c := ⟨Nat.le_trans h.1 k.1, fun i cs T fr hi h1 h2 => by
  have e := h.2 i cs T fr hi h1 h2
  exact (k.2 i cs T fr (e.trans hi) h1 h2).trans e⟩
theorem Cl.same {w W : World} {b : Nat} {cs : Array Value} {T : TypeId} (h : Cl w b cs T) (h1 : T ≠ 120 ∧ T ≠ 43) (h2 : T ≠ 44 ∧ T ≠ 3) (hs : Same w W) : Cl W b cs T := (hs.2 b cs T (0, 0) h h1 h2).trans h
section
variable {ops : Array Oper} {rest : List Oper} {o : Oper} {a : Act} {Q : Exit → Act → World → Prop} {w : World}
theorem run_box (w : World) (T : TypeId) (cs : Array Value) : (Instr.box T (.agg cs)).run Tryz.prog w = .ok (.pointer (some ⟨w.heap.size, 0, none⟩)) (w.alloc (.cells cs T)) := by
  simp [Instr.box, go_sem]
theorem wpList_box (T : TypeId) (x : Operand) (hop : o.op = Op.box T x) (cs : Array Value) (hx : a.eval x = .agg cs) (hg : o.guard = none)
    (hK : ∀ w' b, New w w' b cs T → wpList Tryz.prog ops Q rest (a.put o.dst (.pointer (some ⟨b, 0, none⟩))) w') : wpList Tryz.prog ops Q (o :: rest) a w := by
  refine wpList_plain hg fun K' hK' => ?_
  have hrun := run_box w T cs
  unfold Oper.wp
  simp [execOp, hop, hx, hrun, Result.andThen]
  exact hK' _ _ (hK _ _ (new_alloc w cs T))
theorem wpList_box1 (T : TypeId) (x : Operand) (hop : o.op = Op.box T x) (v : Value) (hx : a.eval x = v) (hv : v.cells = #[v]) (hg : o.guard = none)
    (hK : ∀ w' b, New w w' b #[v] T → wpList Tryz.prog ops Q rest (a.put o.dst (.pointer (some ⟨b, 0, none⟩))) w') : wpList Tryz.prog ops Q (o :: rest) a w := by
  refine wpList_plain hg fun K' hK' => ?_
  have hrun : (Instr.box T v).run Tryz.prog w = .ok (.pointer (some ⟨w.heap.size, 0, none⟩)) (w.alloc (.cells #[v] T)) := by
    simp [Instr.box, go_sem]
    exact congrArg (fun c => w.alloc (Obj.cells c T)) hv
  unfold Oper.wp
  simp [execOp, hop, hx, hrun, Result.andThen]
  exact hK' _ _ (hK _ _ (new_alloc w _ T))
theorem wpList_alloc (T : TypeId) (hop : o.op = Op.alloc T) (cs : Array Value) (hz : ∀ w, (zeroValue T).run Tryz.prog w = .ok (.agg cs) w) (hg : o.guard = none)
    (hK : ∀ w' b, New w w' b cs T → wpList Tryz.prog ops Q rest (a.put o.dst (.pointer (some ⟨b, 0, none⟩))) w') : wpList Tryz.prog ops Q (o :: rest) a w := by
  refine wpList_plain hg fun K' hK' => ?_
  unfold Oper.wp
  simp [execOp, hop, Instr.alloc, hz, go_sem, Result.andThen]
  exact hK' _ _ (hK _ _ (new_alloc w _ T))
theorem wpList_alloc1 (T : TypeId) (hop : o.op = Op.alloc T) (z : Value) (hz : ∀ w, (zeroValue T).run Tryz.prog w = .ok z w) (hc : z.cells = #[z]) (hg : o.guard = none)
    (hK : ∀ w' b, New w w' b #[z] T → wpList Tryz.prog ops Q rest (a.put o.dst (.pointer (some ⟨b, 0, none⟩))) w') : wpList Tryz.prog ops Q (o :: rest) a w := by
  refine wpList_plain hg fun K' hK' => ?_
  have hrun : (execOp a.eval o).run Tryz.prog w = .ok (.value (.pointer (some ⟨w.heap.size, 0, none⟩))) (w.alloc (.cells #[z] T)) := by
    simp [execOp, hop, Instr.alloc, hz, go_sem, Result.andThen]
    exact congrArg (fun c => w.alloc (Obj.cells c T)) hc
  unfold Oper.wp
  rw [hrun, Oper.upon_value]
  exact hK' _ _ (hK _ _ (new_alloc w _ T))
theorem wpList_st (T : TypeId) (hg : o.guard = none) (hd : o.dst = none) (x y : Operand) (hop : o.op = Op.store T x y) (b : Nat) (hx : a.eval x = .pointer (some ⟨b, 0, none⟩)) (cs : Array Value) (hy : a.eval y = .agg cs) (old : Array Value) (T0 : TypeId) (h : Cl w b old T0)
    (hs : (Tryz.prog.info? T).map (·.size) = some cs.size) (hs' : old.size = cs.size) (h1 : cs.all (·.oneCell') = true) (hK : ∀ w', Cl w' b cs T0 → KpP b w w' → wpList Tryz.prog ops Q rest a w') : wpList Tryz.prog ops Q (o :: rest) a w := by
  refine wpList_plain hg fun K' hK' => ?_
  have hrun : (Instr.storeAt T (.pointer (some ⟨b, 0, none⟩)) (.agg cs)).run Tryz.prog w = .ok () (w.setRow b cs) := by
    simp only [Instr.storeAt, Instr.sureAddr, Sem.run_bind, Sem.run_pure, Result.andThen]
    exact run_storeVar_row w b T0 T old cs h hs hs' h1
  unfold Oper.wp
  simp [execOp, hop, hx, hy, hrun, Result.andThen]
  rw [Oper.upon_skip, hd]
  exact hK' _ _ (hK _ (setRow_heap w b _ _ _ _ h) (setRow_kp w b cs))
theorem wpList_ldw (T : TypeId) (x : Operand) (hop : o.op = Op.load T x) (b : Nat) (hx : a.eval x = .pointer (some ⟨b, 0, none⟩)) (cs : Array Value) (T0 : TypeId) (h : Cl w b cs T0) {d : TypeDesc} (hd : (match d with | .struct _ | .array _ _ => true | _ => false) = true) (hu : Tryz.prog.underlying T = some d) (hi : (Tryz.prog.info? T).map (·.size) = some cs.size)
    (hg : Region.wanted o (yielded ops a.tmps) = true) (hK : wpList Tryz.prog ops Q rest (a.put o.dst (.agg cs)) w) : wpList Tryz.prog ops Q (o :: rest) a w := by
  refine Bt.wpList_want hg fun K' hK' => ?_
  have hrun : (Instr.loadAt T (.pointer (some ⟨b, 0, none⟩))).run Tryz.prog w = .ok (.agg cs) w := by
    simp only [Instr.loadAt, Instr.sureAddr, Sem.run_bind, Sem.run_pure, Result.andThen]
    exact run_loadVar_row w b T0 T cs _ d h hu (by cases d <;> first | rfl | exact hd) hi
  unfold Oper.wp
  simp [execOp, hop, hx, hrun, Result.andThen]
  exact hK' _ _ hK
end
end Go.Proofs.YtkejippimkjjaaaGreatDoor
/-
  Shapes of formulas: the call shapeOf, for every table that calls made and every number. No other condition.
-/
namespace Go.Proofs.YtkejippimkjjaaaGreatDoor
open Go.RowKit Go.Shelf Go.Maps
open Fm (Nd)
set_option linter.unusedSimpArgs false

structure Sh where
  id : Int
  k : Int
  a : Int
  b : Int
  q : Int
  c : Int
  d : Int
def shC (m : Sh) : Array Value := #[.int .i64 m.id, .int .i64 m.k, .int .i64 m.a, .int .i64 m.b, .int .i64 m.q, .int .i64 m.c, .int .i64 m.d]
def shV (m : Sh) : Value := .agg (shC m)
def shp (t : List Nd) (i : Int) : Sh :=
  ⟨i, (nodeOf t i).k, (nodeOf t i).l, (nodeOf t i).r, if (nodeOf t i).k = 5 then (nodeOf t (nodeOf t i).l).k else 0, if (nodeOf t i).k = 5 then (nodeOf t (nodeOf t i).l).l else 0, if (nodeOf t i).k = 5 then (nodeOf t (nodeOf t i).l).r else 0⟩
def sh0 : Sh := ⟨0, 0, 0, 0, 0, 0, 0⟩
theorem sizeS : (Tryz.prog.info? 123).map (·.size) = some 7 := by kernel_rfl
theorem sizeN : (Tryz.prog.info? 54).map (·.size) = some 4 := by kernel_rfl
theorem zeroS (w : World) : (zeroValue 123).run Tryz.prog w = .ok (.agg (shC sh0)) w := by kernel_rfl
theorem zeroN (w : World) : (zeroValue 54).run Tryz.prog w = .ok (.agg (ndC Fm.z).toArray) w := by kernel_rfl
theorem shC_one (m : Sh) : (shC m).all (·.oneCell') = true := by simp [shC, Value.oneCell']
theorem shC_set (m : Sh) (x y z : Int) : (((shC m).setIfInBounds 4 (.int .i64 x)).setIfInBounds 5 (.int .i64 y)).setIfInBounds 6 (.int .i64 z) = shC ⟨m.id, m.k, m.a, m.b, x, y, z⟩ := rfl
theorem bel_new {w0 w w' : World} {b : Nat} {cs : Array Value} {T : TypeId} (h : Below w0.heap.size w0 w) (hn : New w w' b cs T) : Below w0.heap.size w0 w' := h.trans (hn.bel.mono h.size)
theorem bel_kp {w0 w w' : World} {p : Nat} (h : Below w0.heap.size w0 w) (hk : KpP p w w') (hp : w0.heap.size ≤ p) : Below w0.heap.size w0 w' :=
  ⟨hk.os.trans h.os, hk.tape.trans h.tape, hk.output.trans h.output, Nat.le_trans h.size hk.size, fun k hk2 => (hk.block k (Nat.lt_of_lt_of_le hk2 h.size) (by omega)).trans (h.block k hk2)⟩
theorem Cl.kp {w w' : World} {b p : Nat} {cs : Array Value} {T : TypeId} (h : Cl w b cs T) (hk : KpP p w w') (hp : b ≠ p) : Cl w' b cs T := (hk.block b h.lt hp).trans h
theorem Cl.new {w w' : World} {b p : Nat} {cs cs' : Array Value} {T T' : TypeId} (h : Cl w b cs T) (hn : New w w' p cs' T') : Cl w' b cs T := h.later hn.bel
structure SP (w W : World) (b1 b3 b5 : Nat) (n : Nd) (m : Sh) : Prop where
  r : Cl W b1 (shC sh0) 123
  n : Cl W b3 (ndC n).toArray 54
  s : Cl W b5 (shC m) 123
  bel : Below w.heap.size w W
  l1 : w.heap.size ≤ b1
  l3 : w.heap.size ≤ b3
  l5 : w.heap.size ≤ b5
  n1 : b1 ≠ b5
theorem SP.later {w W W' : World} {b1 b3 b5 : Nat} {n : Nd} {m : Sh} (h : SP w W b1 b3 b5 n m) (hb : Below W.heap.size W W') : SP w W' b1 b3 b5 n m :=
  ⟨h.r.later hb, h.n.later hb, h.s.later hb, h.bel.trans (hb.mono h.bel.size), h.l1, h.l3, h.l5, h.n1⟩
theorem SP.drew {w W : World} {b1 b3 b5 : Nat} {n : Nd} {m : Sh} (h : SP w W b1 b3 b5 n m) : SP w W.drew b1 b3 b5 n m := ⟨h.r, h.n, h.s, h.bel.drew, h.l1, h.l3, h.l5, h.n1⟩
theorem SP.cellSet {w W : World} {b1 b3 b5 b8 : Nat} {n n2 : Nd} {m m' : Sh} (h : SP w W b1 b3 b5 n m) (h2 : Cl W b8 (ndC n2).toArray 54) (hne : b8 ≠ b5) (j : Nat) (v : Value) (hm : (shC m).setIfInBounds j v = shC m') : SP w (W.setCell ⟨b5, j, none⟩ v) b1 b3 b5 n m' ∧ Cl (W.setCell ⟨b5, j, none⟩ v) b8 (ndC n2).toArray 54 := by
  have hk : KpP b5 W (W.setCell ⟨b5, j, none⟩ v) := KpP.set (Kp.refl _ W) j v
  have hs := heap_setCell_same W b5 j _ _ v h.s
  rw [hm] at hs
  have h35 : b3 ≠ b5 := by
    rintro rfl
    have e := h.n.symm.trans h.s
    simp at e
  exact ⟨⟨h.r.kp hk h.n1, h.n.kp hk h35, hs, bel_kp h.bel hk h.l5, h.l1, h.l3, h.l5, h.n1⟩, h2.kp hk hne⟩
theorem SP.set4 {w W : World} {b1 b3 b5 b8 : Nat} {n n2 : Nd} {m : Sh} (h : SP w W b1 b3 b5 n m) (h2 : Cl W b8 (ndC n2).toArray 54) (hne : b8 ≠ b5) (x : Int) : SP w (W.setCell ⟨b5, 4, none⟩ (.int .i64 x)) b1 b3 b5 n ⟨m.id, m.k, m.a, m.b, x, m.c, m.d⟩ ∧ Cl (W.setCell ⟨b5, 4, none⟩ (.int .i64 x)) b8 (ndC n2).toArray 54 := h.cellSet h2 hne 4 (.int .i64 x) rfl
theorem SP.set5 {w W : World} {b1 b3 b5 b8 : Nat} {n n2 : Nd} {m : Sh} (h : SP w W b1 b3 b5 n m) (h2 : Cl W b8 (ndC n2).toArray 54) (hne : b8 ≠ b5) (x : Int) : SP w (W.setCell ⟨b5, 5, none⟩ (.int .i64 x)) b1 b3 b5 n ⟨m.id, m.k, m.a, m.b, m.q, x, m.d⟩ ∧ Cl (W.setCell ⟨b5, 5, none⟩ (.int .i64 x)) b8 (ndC n2).toArray 54 := h.cellSet h2 hne 5 (.int .i64 x) rfl
theorem SP.set6 {w W : World} {b1 b3 b5 b8 : Nat} {n n2 : Nd} {m : Sh} (h : SP w W b1 b3 b5 n m) (h2 : Cl W b8 (ndC n2).toArray 54) (hne : b8 ≠ b5) (x : Int) : SP w (W.setCell ⟨b5, 6, none⟩ (.int .i64 x)) b1 b3 b5 n ⟨m.id, m.k, m.a, m.b, m.q, m.c, x⟩ ∧ Cl (W.setCell ⟨b5, 6, none⟩ (.int .i64 x)) b8 (ndC n2).toArray 54 := h.cellSet h2 hne 6 (.int .i64 x) rfl
theorem results_sh {fn : Func} {p t2 : Tmp} (h : fn.results = #[.cell p 123, .tmp t2]) (tmps : Array Value) (w : World) (b : Nat) (m : Sh) (hp : tmps.getD p undef = .pointer (some ⟨b, 0, none⟩)) (hr : Cl w b (shC m) 123) :
    (results fn tmps).run Tryz.prog w = .ok (.tuple #[shV m, tmps.getD t2 undef]) w :=
  results_cell_tmp h tmps w b _ _ _ _ hp hr Tryz.underlying123 rfl (by kernel_rfl)
set_option maxRecDepth 100000 in
set_option maxHeartbeats 2000000 in
theorem shapeOf_any (w : World) {b m : Nat} {v : Value} {t : List Nd} (hT : Tb w b m v t) (i : Int) : Calls Tryz.prog 93 #[.pointer (some ⟨b, 0, none⟩), .int .i64 i] w fun e w' => e = .returned (.tuple #[shV (shp t i), .bool (Fm.has t i)]) ∧ Below w.heap.size w w' := by
  have KN := show Hid (∀ w' x, Below w.heap.size w w' → Calls Tryz.prog 45 #[.pointer (some ⟨b, 0, none⟩), .int .i64 x] w' fun e w'' => e = .returned (.tuple #[ndV (nodeOf t x), .bool (Fm.has t x)]) ∧ Below w'.heap.size w' w'') from fun w' x h => node_any w' (hT.later h) x
  have HP := show Hid (shp t i = ⟨i, (nodeOf t i).k, (nodeOf t i).l, (nodeOf t i).r, if (nodeOf t i).k = 5 then (nodeOf t (nodeOf t i).l).k else 0, if (nodeOf t i).k = 5 then (nodeOf t (nodeOf t i).l).l else 0, if (nodeOf t i).k = 5 then (nodeOf t (nodeOf t i).l).r else 0⟩) from rfl
  clear hT
  generalize shp t i = sp at *
  go_enter Tryz.func93, Tryz.ntmps93
  go_wp2_with (refine wpList_alloc _ rfl _ zeroS rfl ?_)
  intro w1 b1 hn1
  go_wp2_with fail
  refine Calls.mono (KN.out w1 i hn1.bel) ?_
  rintro e w2 ⟨rfl, hb2⟩
  obtain ⟨n, hn⟩ : ∃ n, n = nodeOf t i := ⟨_, rfl⟩
  rw [← hn] at HP
  rw [← hn]
  have HN := show Hid _ from hn
  clear hn
  unfold ndV
  go_wp2_with (refine wpList_alloc _ rfl _ zeroN rfl ?_)
  intro w3 b3 hn3
  go_wp2_with (refine wpList_st _ rfl rfl _ _ rfl _ rfl _ rfl _ _ hn3.blk sizeN rfl (by simp [Value.oneCell']) ?_)
  intro w4 hc4 hk4
  have d0 : w4.cell? ⟨b3, 0, none⟩ = some (.int .i64 n.k) := hc4.cell 0
  have d2 : w4.cell? ⟨b3, 2, none⟩ = some (.int .i64 n.l) := hc4.cell 2
  have d3 : w4.cell? ⟨b3, 3, none⟩ = some (.int .i64 n.r) := hc4.cell 3
  have hb21 : Below w.heap.size w w2 := hn1.bel.trans (hb2.mono hn1.bel.size)
  have hb4 : Below w.heap.size w w4 := bel_kp (bel_new hb21 hn3) hk4 (by have := hb21.size; have := hn3.ge; omega)
  have H4 := show Hid (Below w.heap.size w w4 ∧ Cl w4 b1 (shC sh0) 123 ∧ Cl w4 b3 (ndC n).toArray 54 ∧ w.heap.size ≤ b1 ∧ w.heap.size ≤ b3) from
    ⟨hb4, ((Cl.later hn1.blk hb2).new hn3).kp hk4 (by have := Cl.lt hn1.blk; have := hb2.size; have := hn3.ge; omega), hc4, hn1.ge, by have := hb21.size; have := hn3.ge; omega⟩
  clear hn1 hb2 hn3 hc4 hk4 hb21 hb4
  go_wp2_with (refine wpList_alloc _ rfl _ zeroS rfl ?_)
  intro w5 b5 hn5
  have H5 := show Hid (Below w.heap.size w w5 ∧ Cl w5 b1 (shC sh0) 123 ∧ Cl w5 b3 (ndC n).toArray 54 ∧ w.heap.size ≤ b5 ∧ b1 < b5 ∧ b3 < b5) from
    ⟨bel_new H4.out.1 hn5, H4.out.2.1.new hn5, H4.out.2.2.1.new hn5, by have := H4.out.1.size; have := hn5.ge; omega, by have := H4.out.2.1.lt; have := hn5.ge; omega, by have := H4.out.2.2.1.lt; have := hn5.ge; omega⟩
  go_wp2_with (refine wpList_st _ rfl rfl _ _ rfl _ rfl _ rfl _ _ hn5.blk sizeS rfl (by simp [Value.oneCell']) ?_)
  intro w6 hc6 hk6
  have H6 := show Hid (SP w w6 b1 b3 b5 n ⟨i, n.k, n.l, n.r, 0, 0, 0⟩) from
    ⟨H5.out.2.1.kp hk6 (by have := H5.out.2.2.2; omega), H5.out.2.2.1.kp hk6 (by have := H5.out.2.2.2; omega), hc6, bel_kp H5.out.1 hk6 H5.out.2.2.2.1, H4.out.2.2.2.1, H4.out.2.2.2.2, H5.out.2.2.2.1, by have := H5.out.2.2.2; omega⟩
  clear H4 H5 hn5 hc6 hk6 d0 d2 d3
  have d0 : w6.cell? ⟨b3, 0, none⟩ = some (.int .i64 n.k) := H6.out.n.cell 0
  have d2 : w6.cell? ⟨b3, 2, none⟩ = some (.int .i64 n.l) := H6.out.n.cell 2
  by_cases h5 : n.k = 5
  · have h5b : (n.k == 5) = true := by simpa using h5
    rw [if_pos h5, if_pos h5, if_pos h5] at HP
    have KX := show Hid _ from KN.out w6 n.l H6.out.bel
    clear HN KN
    go_wp2_with fail
    refine Calls.mono KX.out ?_
    rintro e w7 ⟨rfl, hb7⟩
    have H7 := show Hid _ from H6.out.later hb7
    clear KX H6 hb7 d0 d2
    generalize nodeOf t n.l = n2 at *
    generalize Fm.has t n.l = hh2 at *
    unfold ndV
    go_wp2_with (refine wpList_alloc _ rfl _ zeroN rfl ?_)
    intro w8 b8 hn8
    go_wp2_with (refine wpList_st _ rfl rfl _ _ rfl _ rfl _ rfl _ _ hn8.blk sizeN rfl (by simp [Value.oneCell']) ?_)
    intro w9 hc9 hk9
    have H9 := show Hid (SP w w9 b1 b3 b5 n ⟨i, n.k, n.l, n.r, 0, 0, 0⟩) from (by
      have h := H7.out.later hn8.bel
      have e1 := H7.out.r.lt; have e3 := H7.out.n.lt; have e5 := H7.out.s.lt; have e8 := hn8.ge
      exact ⟨h.r.kp hk9 (by omega), h.n.kp hk9 (by omega), h.s.kp hk9 (by omega), bel_kp h.bel hk9 (by have := H7.out.bel.size; omega), h.l1, h.l3, h.l5, h.n1⟩)
    have c0 : w9.cell? ⟨b8, 0, none⟩ = some (.int .i64 n2.k) := hc9.cell 0
    have c2 : w9.cell? ⟨b8, 2, none⟩ = some (.int .i64 n2.l) := hc9.cell 2
    have c3 : w9.cell? ⟨b8, 3, none⟩ = some (.int .i64 n2.r) := hc9.cell 3
    have hlt8 : b8 ≠ b5 := by have := H7.out.s.lt; have := hn8.ge; omega
    go_wp2_with fail
    refine wp_region_rel (by kernel_rfl) [some 35, some 36, some 37, some 38, some 39, some 40, some 41, none, some 42, none, some 43, none] [[], [0], [], [2], [], [4], [], [6, 1], [], [8, 3], [], [10, 5]] (by kernel_rfl) (fun i v w => match i with | 0 => v = .pointer (some ⟨b8, 0, none⟩) | 1 => v = .int .i64 n2.k | 2 => v = .pointer (some ⟨b8, 2, none⟩) | 3 => v = .int .i64 n2.l | 4 => v = .pointer (some ⟨b8, 3, none⟩) | 5 => v = .int .i64 n2.r | 6 => v = .pointer (some ⟨b5, 4, none⟩) | 7 => True | 8 => v = .pointer (some ⟨b5, 5, none⟩) | 9 => True | 10 => v = .pointer (some ⟨b5, 6, none⟩) | 11 => True | _ => True) (fun done W => SP w W b1 b3 b5 n ⟨i, n.k, n.l, n.r, if done 7 then n2.k else 0, if done 9 then n2.l else 0, if done 11 then n2.r else 0⟩ ∧ Cl W b8 (ndC n2).toArray 54) (fun _ _ => True) ?hle (⟨H9.out.drew, hc9⟩) (allLt 12 ?steps) ?fin
    case hle =>
      intro i v w w1 hl h
      match i, h with
      | 0, h => exact h
      | 1, h => exact h
      | 2, h => exact h
      | 3, h => exact h
      | 4, h => exact h
      | 5, h => exact h
      | 6, h => exact h
      | 7, h => exact h
      | 8, h => exact h
      | 9, h => exact h
      | 10, h => exact h
      | 11, h => exact h
      | _ + 12, h => trivial
    case steps =>
      refine ⟨⟨⟨⟨⟨⟨⟨⟨⟨⟨⟨⟨trivial, ?s0⟩, ?s1⟩, ?s2⟩, ?s3⟩, ?s4⟩, ?s5⟩, ?s6⟩, ?s7⟩, ?s8⟩, ?s9⟩, ?s10⟩, ?s11⟩
      case s0 =>
        intro done a w hS h0 hd hn hO hN
        have o9 : a.tmps[9]? = some (.pointer (some ⟨b8, 0, none⟩)) := (hO.out 9 (by decide)).trans rfl
        refine relVal rfl (.pointer (some ⟨b8, 0, none⟩)) w rfl (by go_simp) ⟨_, rfl, rfl, by simpa [h0] using hS, trivial⟩
      case s1 =>
        intro done a w hS h0 hd hn hO hN
        obtain ⟨v0, g0, r0⟩ := hN 0 (by decide)
        have g0 : a.tmps[35]? = some v0 := g0
        obtain rfl : v0 = .pointer (some ⟨b8, 0, none⟩) := r0
        have hc : w.cell? ⟨b8, 0, none⟩ = some (.int .i64 n2.k) := hS.2.cell 0
        refine relVal rfl (.int .i64 n2.k) w rfl (by go_simp) ⟨_, rfl, rfl, by simpa [h0] using hS, trivial⟩
      case s2 =>
        intro done a w hS h0 hd hn hO hN
        have o9 : a.tmps[9]? = some (.pointer (some ⟨b8, 0, none⟩)) := (hO.out 9 (by decide)).trans rfl
        refine relVal rfl (.pointer (some ⟨b8, 2, none⟩)) w rfl (by go_simp) ⟨_, rfl, rfl, by simpa [h0] using hS, trivial⟩
      case s3 =>
        intro done a w hS h0 hd hn hO hN
        obtain ⟨v2, g2, r2⟩ := hN 2 (by decide)
        have g2 : a.tmps[37]? = some v2 := g2
        obtain rfl : v2 = .pointer (some ⟨b8, 2, none⟩) := r2
        have hc : w.cell? ⟨b8, 2, none⟩ = some (.int .i64 n2.l) := hS.2.cell 2
        refine relVal rfl (.int .i64 n2.l) w rfl (by go_simp) ⟨_, rfl, rfl, by simpa [h0] using hS, trivial⟩
      case s4 =>
        intro done a w hS h0 hd hn hO hN
        have o9 : a.tmps[9]? = some (.pointer (some ⟨b8, 0, none⟩)) := (hO.out 9 (by decide)).trans rfl
        refine relVal rfl (.pointer (some ⟨b8, 3, none⟩)) w rfl (by go_simp) ⟨_, rfl, rfl, by simpa [h0] using hS, trivial⟩
      case s5 =>
        intro done a w hS h0 hd hn hO hN
        obtain ⟨v4, g4, r4⟩ := hN 4 (by decide)
        have g4 : a.tmps[39]? = some v4 := g4
        obtain rfl : v4 = .pointer (some ⟨b8, 3, none⟩) := r4
        have hc : w.cell? ⟨b8, 3, none⟩ = some (.int .i64 n2.r) := hS.2.cell 3
        refine relVal rfl (.int .i64 n2.r) w rfl (by go_simp) ⟨_, rfl, rfl, by simpa [h0] using hS, trivial⟩
      case s6 =>
        intro done a w hS h0 hd hn hO hN
        have o8 : a.tmps[8]? = some (.pointer (some ⟨b5, 0, none⟩)) := (hO.out 8 (by decide)).trans rfl
        refine relVal rfl (.pointer (some ⟨b5, 4, none⟩)) w rfl (by go_simp) ⟨_, rfl, rfl, by simpa [h0] using hS, trivial⟩
      case s7 =>
        intro done a w hS h0 hd hn hO hN
        obtain ⟨v6, g6, r6⟩ := hN 6 (by decide)
        have g6 : a.tmps[41]? = some v6 := g6
        obtain rfl : v6 = .pointer (some ⟨b5, 4, none⟩) := r6
        obtain ⟨v1, g1, r1⟩ := hN 1 (by decide)
        have g1 : a.tmps[36]? = some v1 := g1
        obtain rfl : v1 = .int .i64 n2.k := r1
        obtain ⟨xx, hcc⟩ : ∃ x, w.cell? ⟨b5, 4, none⟩ = some x := ⟨_, hS.1.s.cell 4⟩
        have hf := hS.1.s.fr 4
        have HS := hS.1.set4 hS.2 hlt8 (n2.k)
        refine relSkip rfl (w.setCell ⟨b5, 4, none⟩ (.int .i64 (n2.k))) rfl (by go_simp) ⟨undef, rfl, trivial, ?_, trivial⟩
        simpa [h0] using HS
      case s8 =>
        intro done a w hS h0 hd hn hO hN
        have o8 : a.tmps[8]? = some (.pointer (some ⟨b5, 0, none⟩)) := (hO.out 8 (by decide)).trans rfl
        refine relVal rfl (.pointer (some ⟨b5, 5, none⟩)) w rfl (by go_simp) ⟨_, rfl, rfl, by simpa [h0] using hS, trivial⟩
      case s9 =>
        intro done a w hS h0 hd hn hO hN
        obtain ⟨v8, g8, r8⟩ := hN 8 (by decide)
        have g8 : a.tmps[42]? = some v8 := g8
        obtain rfl : v8 = .pointer (some ⟨b5, 5, none⟩) := r8
        obtain ⟨v3, g3, r3⟩ := hN 3 (by decide)
        have g3 : a.tmps[38]? = some v3 := g3
        obtain rfl : v3 = .int .i64 n2.l := r3
        obtain ⟨xx, hcc⟩ : ∃ x, w.cell? ⟨b5, 5, none⟩ = some x := ⟨_, hS.1.s.cell 5⟩
        have hf := hS.1.s.fr 5
        have HS := hS.1.set5 hS.2 hlt8 (n2.l)
        refine relSkip rfl (w.setCell ⟨b5, 5, none⟩ (.int .i64 (n2.l))) rfl (by go_simp) ⟨undef, rfl, trivial, ?_, trivial⟩
        simpa [h0] using HS
      case s10 =>
        intro done a w hS h0 hd hn hO hN
        have o8 : a.tmps[8]? = some (.pointer (some ⟨b5, 0, none⟩)) := (hO.out 8 (by decide)).trans rfl
        refine relVal rfl (.pointer (some ⟨b5, 6, none⟩)) w rfl (by go_simp) ⟨_, rfl, rfl, by simpa [h0] using hS, trivial⟩
      case s11 =>
        intro done a w hS h0 hd hn hO hN
        obtain ⟨v10, g10, r10⟩ := hN 10 (by decide)
        have g10 : a.tmps[43]? = some v10 := g10
        obtain rfl : v10 = .pointer (some ⟨b5, 6, none⟩) := r10
        obtain ⟨v5, g5, r5⟩ := hN 5 (by decide)
        have g5 : a.tmps[40]? = some v5 := g5
        obtain rfl : v5 = .int .i64 n2.r := r5
        obtain ⟨xx, hcc⟩ : ∃ x, w.cell? ⟨b5, 6, none⟩ = some x := ⟨_, hS.1.s.cell 6⟩
        have hf := hS.1.s.fr 6
        have HS := hS.1.set6 hS.2 hlt8 (n2.r)
        refine relSkip rfl (w.setCell ⟨b5, 6, none⟩ (.int .i64 (n2.r))) rfl (by go_simp) ⟨undef, rfl, trivial, ?_, trivial⟩
        simpa [h0] using HS
    case fin =>
      intro vs done wz hdone hS hR
      have HZ := show Hid (SP w wz b1 b3 b5 n sp) from (by
        have h := hS.1
        rw [if_pos (hdone 7 (by decide)), if_pos (hdone 9 (by decide)), if_pos (hdone 11 (by decide))] at h
        rw [HP.out]
        exact h)
      clear hS hR hdone H9 H7 hn8 hc9 hk9 c0 c2 c3 HP
      simp only [putAll, Act.put, List.setIfInBounds_toArray, List.set_cons_zero, List.set_cons_succ]
      go_wp2_with (first | (refine wpList_ldw _ _ rfl _ rfl _ _ HZ.out.s rfl Tryz.underlying123 sizeS rfl ?_) | (refine wpList_st _ rfl rfl _ _ rfl _ rfl _ rfl _ _ HZ.out.r sizeS rfl (shC_one _) ?_))
      intro w7 hc7 hk7
      go_wp2_with fail
      refine bodyPost_ret (results_sh rfl _ _ b1 _ rfl hc7) rfl ?_
      exact ⟨rfl, bel_kp HZ.out.bel hk7 HZ.out.l1⟩
  · have h5b : (n.k == 5) = false := by simpa using h5
    have hsp : sp = ⟨i, n.k, n.l, n.r, 0, 0, 0⟩ := by rw [HP.out, if_neg h5, if_neg h5, if_neg h5]
    subst hsp
    clear HP HN KN
    go_wp2_with (first | (refine wpList_ldw _ _ rfl _ rfl _ _ H6.out.s rfl Tryz.underlying123 sizeS rfl ?_) | (refine wpList_st _ rfl rfl _ _ rfl _ rfl _ rfl _ _ H6.out.r sizeS rfl (shC_one _) ?_))
    intro w7 hc7 hk7
    go_wp2_with fail
    refine bodyPost_ret (results_sh rfl _ _ b1 _ rfl hc7) rfl ?_
    exact ⟨rfl, bel_kp H6.out.bel hk7 H6.out.l1⟩
end Go.Proofs.YtkejippimkjjaaaGreatDoor
/-
  The calls to and with of a sequent: for every sequent and all numbers. No condition.
-/
namespace Go.Proofs.YtkejippimkjjaaaGreatDoor
open Go.RowKit Go.Shelf Go.Maps
open Fm (Nd)
open Bt.Bs (Ok wd)
set_option linter.unusedSimpArgs false

structure Q2 (w W : World) (r : List Nat) (g : Int) : Prop where
  s : SeqAt W w.heap.size r g
  z : SeqAt W (w.heap.size + 1) Bt.Bs.zero 0
  bel : Below w.heap.size w W
theorem Q2.later {w W W' : World} {r : List Nat} {g : Int} (h : Q2 w W r g) (hb : Below W.heap.size W W') : Q2 w W' r g :=
  ⟨h.s.later hb h.s.lt, h.z.later hb h.z.lt, h.bel.trans (hb.mono h.bel.size)⟩
theorem q2_new (w : World) (r : List Nat) (g : Int) : Q2 w ((w.alloc (.cells (cellsQ r g) 27)).alloc (.cells (cellsQ Bt.Bs.zero 0) 27)) r g := by
  have h1 := seq_new (w.alloc (.cells (cellsQ r g) 27)) Bt.Bs.zero 0
  have h2 := seq_new w r g
  have e : (w.alloc (.cells (cellsQ r g) 27)).heap.size = w.heap.size + 1 := by simp
  rw [e] at h1
  exact ⟨h2.later (below_alloc _ _) h2.lt, h1, (below_alloc w _).alloc (below_alloc w _).size _⟩
theorem Q2.put {w W W2 : World} {r r' : List Nat} {g g' : Int} (h : Q2 w W r g) (hs : SeqAt W2 w.heap.size r' g') (hk : KpP w.heap.size W W2) : Q2 w W2 r' g' :=
  ⟨hs, (hk.block _ h.z.lt (by omega)).trans h.z, ⟨hk.os.trans h.bel.os, hk.tape.trans h.bel.tape, hk.output.trans h.bel.output, Nat.le_trans h.bel.size hk.size, fun k hk2 => (hk.block k (Nat.lt_of_lt_of_le hk2 h.bel.size) (by omega)).trans (h.bel.block k hk2)⟩⟩
theorem zeroValQ (w : World) : (zeroValue 27).run Tryz.prog w = .ok (.agg (cellsQ Bt.Bs.zero 0)) w := by kernel_rfl
theorem two_new {w w1 w2 : World} {b1 b2 : Nat} {r : List Nat} {g : Int} (h1 : New w w1 b1 (cellsQ r g) 27) (h2 : New w1 w2 b2 (cellsQ Bt.Bs.zero 0) 27) : b1 = w.heap.size ∧ b2 = w.heap.size + 1 ∧ Q2 w w2 r g := by
  have e1 := h1.eq
  have e2 := h2.eq
  have e3 := h1.up
  subst e1
  have e4 : b2 = w.heap.size + 1 := by omega
  subst e4
  exact ⟨rfl, rfl, (h2.bel.block _ (lt_of_block h1.blk)).trans h1.blk, h2.blk, h1.bel.trans (h2.bel.mono h1.bel.size)⟩
set_option maxRecDepth 100000 in
set_option maxHeartbeats 1000000 in
theorem to_any (w : World) {r : List Nat} (hr : r.length = 16) (g x : Int) : Calls Tryz.prog 86 #[.agg (cellsQ r g), .int .i64 x] w fun e w' => e = .returned (.agg (cellsQ r x)) ∧ Below w.heap.size w w' := by
  go_enter Tryz.func86, Tryz.ntmps86
  go_wp2_with (refine wpList_box _ _ rfl _ rfl rfl ?_)
  intro w1 b1 hn1
  go_wp2_with (refine wpList_alloc _ rfl _ zeroValQ rfl ?_)
  intro w2 b2 hn2
  obtain ⟨rfl, rfl, hq⟩ := two_new hn1 hn2
  clear hn1 hn2
  have h16 := hq.s.goal hr
  have f16 := hq.s.fr 16
  have HQ := show Hid _ from hq.put (hq.s.setG hr x) (KpP.set (Kp.refl _ w2) 16 (.int .i64 x))
  clear hq
  go_wp2_with (first | (refine wpList_ldQQ _ _ rfl _ rfl HQ.out.s hr rfl ?_) | (refine wpList_stQ _ rfl rfl _ _ rfl _ rfl rfl HQ.out.z zero_len hr ?_))
  refine bodyPost_ret (results_seq1 rfl _ _ (w.heap.size + 1) rfl (HQ.out.z.setRow _ _) hr) rfl ?_
  exact ⟨rfl, below_setRow HQ.out.bel (Nat.le_succ _)⟩
end Go.Proofs.YtkejippimkjjaaaGreatDoor
/-
  The call with of a sequent: for every sequent and every row of numbers. No condition.
-/
namespace Go.Proofs.YtkejippimkjjaaaGreatDoor
open Go.RowKit Go.Shelf Go.Maps
open Fm (Nd)
open Bt.Bs (Ok wd)
set_option linter.unusedSimpArgs false

def withF : List Nat → List Int → List Nat
  | r, [] => r
  | r, x :: l => withF (Bt.putI r x).1 l
theorem putI_okZ {r : List Nat} (h : Ok r) (n : Int) : Ok (Bt.putI r n).1 := by
  unfold Bt.putI
  split
  · exact Bt.Bs.put_ok h _
  · exact Bt.Bs.zero_ok
theorem withF_ok : ∀ (l : List Int) {r : List Nat}, Ok r → Ok (withF r l)
  | [], _, h => h
  | x :: l, _, h => withF_ok l (putI_okZ h x)
theorem withF_drop (r : List Nat) (l : List Int) (k : Nat) (hk : k < l.length) : withF r (l.drop k) = withF (Bt.putI r l[k]).1 (l.drop (k + 1)) := by
  rw [List.drop_eq_getElem_cons hk, withF]
set_option maxRecDepth 100000 in
set_option maxHeartbeats 2000000 in
theorem withq_any (w : World) {r : List Nat} (hr : Ok r) (g : Int) (v : Value) (xs : List Int) (hv : Bt.IsL w v xs) : Calls Tryz.prog 76 #[.agg (cellsQ r g), v] w fun e w' => e = .returned (.agg (cellsQ (withF r xs) g)) ∧ Below w.heap.size w w' := by
  obtain ⟨p, c, rfl, hlen, hcell⟩ := hv
  have KP := show Hid (∀ (b : List Nat) (x : Int) w, Ok b → Calls Tryz.prog 109 #[.agg (Bt.cellsB b), .int .i64 x] w fun e w' => e = .returned (.tuple #[.agg (Bt.cellsB (Bt.putI b x).1), .int .i64 (Bt.putI b x).2]) ∧ Below w.heap.size w w') from fun b x w hb => Bt.put_any w hb x
  have HC := show Hid (∀ k (hk : k < xs.length), ∃ b o, p = some ⟨b, o, none⟩ ∧ w.cell? ⟨b, o + k, none⟩ = some (.int .i64 xs[k])) from hcell
  have HD := show Hid (∀ k (hk : k < xs.length) b, withF b (xs.drop k) = withF (Bt.putI b xs[k]).1 (xs.drop (k + 1))) from fun k hk b => withF_drop b xs k hk
  have HN := show Hid (∀ b, withF b (xs.drop xs.length) = b) from fun b => by
    show withF b (xs.drop xs.length) = b
    rw [List.drop_length]; rfl
  have H0 := show Hid (withF r (xs.drop 0) = withF r xs) from rfl
  have HR := show Hid (Ok r) from hr
  clear hcell hr
  generalize withF r xs = R at *
  go_enter Tryz.func76, Tryz.ntmps76
  go_wp2_with (refine wpList_box _ _ rfl _ rfl rfl ?_)
  intro w1 b1 hn1
  go_wp2_with (refine wpList_alloc _ rfl _ zeroValQ rfl ?_)
  intro w2 b2 hn2
  obtain ⟨rfl, rfl, hq⟩ := two_new hn1 hn2
  have HQ := show Hid _ from hq
  clear hn1 hn2 hq
  go_wp2_with fail
  go_loopw [9] (fun n wr => ∃ (k : Nat) (b : List Nat), k ≤ xs.length ∧ n = .int .i64 (k : Int) ∧ Hid (Ok b ∧ Q2 w wr b g ∧ withF b (xs.drop k) = R)) (fun n _ => xs.length - (intOf n).toNat)
  case atStart => exact ⟨0, r, by omega, rfl, HR.out, HQ.out, H0.out⟩
  case round =>
    obtain ⟨k, b, hk, rfl, HI⟩ := hrel
    clear HQ H0 HR
    have hl := HI.out.1.1
    by_cases hlt : k < xs.length
    · obtain ⟨bb, o, rfl, hc0⟩ := HC.out k hlt
      have hc : wr.cell? ⟨bb, o + k, none⟩ = some (.int .i64 xs[k]) := cell_later HI.out.2.1.bel hc0
      have hltI : (k : Int) < (xs.length : Int) := by omega
      have KX := show Hid _ from KP.out b xs[k] wr HI.out.1
      have HD2 := show Hid _ from HD.out k hlt b
      have HO2 := show Hid _ from putI_okZ HI.out.1 xs[k]
      clear HC HD HN hc0 KP
      generalize xs[k] = x at *
      go_wp2_with (refine wpList_ldQ _ _ rfl _ rfl HI.out.2.1.s hl rfl ?_)
      refine Calls.mono KX.out ?_
      rintro e w1 ⟨rfl, hb1⟩
      have HQ1 := show Hid _ from HI.out.2.1.later hb1
      have HR2 := show Hid (withF (Bt.putI b x).1 (xs.drop (k + 1)) = R) from HD2.out.symm.trans HI.out.2.2
      generalize (Bt.putI b x).1 = b' at *
      clear KX hb1 HD2 hc
      go_wp2_with (refine wpList_stBQ _ rfl rfl _ _ rfl _ rfl rfl HQ1.out.s hl HO2.out.1 ?_)
      intro w3 hs3 hk3
      have HQ3 := show Hid _ from HQ1.out.put hs3 hk3
      clear hs3 hk3 HQ1
      go_wp2_with fail
      go_roundw
      case rel => exact ⟨k + 1, b', by omega, val_int (by omega), HO2.out, HQ3.out, HR2.out⟩
      case measure => (simp only [intOf]; omega)
    · obtain rfl : k = xs.length := by omega
      have hR := HN.out b
      rw [HI.out.2.2] at hR
      subst hR
      clear HC HD HN KP
      go_wp2_with (first | (refine wpList_ldQQ _ _ rfl _ rfl HI.out.2.1.s hl rfl ?_) | (refine wpList_stQ _ rfl rfl _ _ rfl _ rfl rfl HI.out.2.1.z zero_len hl ?_))
      refine bodyPost_ret (results_seq1 rfl _ _ (w.heap.size + 1) rfl (HI.out.2.1.z.setRow _ _) hl) rfl ?_
      exact ⟨rfl, below_setRow HI.out.2.1.bel (Nat.le_succ _)⟩
end Go.Proofs.YtkejippimkjjaaaGreatDoor
/-
  What the rules are tried on, in memory; is a formula on the left side, is it the goal, the sequent without it. For every work that lies there. (Written by genzwork.py.)
-/
namespace Go.Proofs.YtkejippimkjjaaaGreatDoor
open Go.RowKit Go.Shelf Go.Maps
open Fm (Nd)
open Bt.Bs (Ok wd)
set_option linter.unusedSimpArgs false

def wkC (b : Nat) (r : List Nat) (g : Int) (tv : Value) (fl : Bool) : Array Value := ([Value.pointer (some ⟨b, 0, none⟩)] ++ (Bt.listB r ++ [Value.int .i64 g]) ++ [tv, Value.bool fl]).toArray
def Wk (w : World) (k b : Nat) (r : List Nat) (g : Int) (tv : Value) (fl : Bool) : Prop := Cl w k (wkC b r g tv fl) 115
section
variable {w w' : World} {k b : Nat} {r : List Nat} {g : Int} {tv : Value} {fl : Bool}
theorem wkC_size (hr : r.length = 16) : (wkC b r g tv fl).size = 20 := by simp [wkC, Bt.listB, hr]
theorem Wk.later (h : Wk w k b r g tv fl) (hb : Below w.heap.size w w') : Wk w' k b r g tv fl := Cl.later h hb
theorem Wk.tab (h : Wk w k b r g tv fl) : w.cell? ⟨k, 0, none⟩ = some (.pointer (some ⟨b, 0, none⟩)) := by rw [Cl.cell h 0]; rfl
theorem Wk.seq (h : Wk w k b r g tv fl) : SeqIn w k 1 r g := fun j v hv => by
  rw [Cl.cell h (1 + j)]
  have hj := (List.getElem?_eq_some_iff.1 hv).1
  simp only [wkC, List.getElem?_toArray]
  rw [List.getElem?_append_left (by simp at hj ⊢; omega), List.getElem?_append_right (by simp)]
  simpa using hv
theorem Wk.goal (h : Wk w k b r g tv fl) (hr : r.length = 16) : w.cell? ⟨k, 17, none⟩ = some (.int .i64 g) := h.seq.goal hr
theorem Wk.at18 (h : Wk w k b r g tv fl) (hr : r.length = 16) : w.cell? ⟨k, 18, none⟩ = some tv := by
  rw [Cl.cell h 18]
  have hl : (Bt.listB r).length = 16 := (by simp [Bt.listB, hr])
  simp only [wkC, List.getElem?_toArray]
  rw [List.getElem?_append_right (by simp [hl])]
  simp [hl]
theorem Wk.at19 (h : Wk w k b r g tv fl) (hr : r.length = 16) : w.cell? ⟨k, 19, none⟩ = some (.bool fl) := by
  rw [Cl.cell h 19]
  have hl : (Bt.listB r).length = 16 := (by simp [Bt.listB, hr])
  simp only [wkC, List.getElem?_toArray]
  rw [List.getElem?_append_right (by simp [hl])]
  simp [hl]
end
def inL (r : List Nat) (x : Int) : Bool := decide ((Bt.putI r x).1 = r)
def I1 (v : Value) (x : Int) (w : World) : Prop := ∃ q, v = .slice (some ⟨q, 0, none⟩) 1 1 ∧ w.cell? ⟨q, 0, none⟩ = some (.int .i64 x)
theorem I1.isL {v : Value} {x : Int} {w : World} (h : I1 v x w) : Bt.IsL w v [x] := by
  obtain ⟨q, rfl, hc⟩ := h
  refine ⟨_, _, rfl, by simp, fun k hk => ⟨q, 0, rfl, ?_⟩⟩
  obtain rfl : k = 0 := by simpa using hk
  simpa using hc
theorem I1.later {v : Value} {x : Int} {w w' : World} (h : I1 v x w) (hb : Below w.heap.size w w') : I1 v x w' := by
  obtain ⟨q, hv, hc⟩ := h
  exact ⟨q, hv, cell_later hb hc⟩
theorem i1_new (w : World) (x : Int) (T : TypeId) : I1 (.slice (some ⟨w.heap.size, 0, none⟩) 1 1) x (w.alloc (.cells #[.int .i64 x] T)) := ⟨_, rfl, by rw [World.cell?_alloc_new]; rfl⟩
def I2 (v : Value) (x y : Int) (w : World) : Prop := ∃ q, v = .slice (some ⟨q, 0, none⟩) 2 2 ∧ w.cell? ⟨q, 0, none⟩ = some (.int .i64 x) ∧ w.cell? ⟨q, 1, none⟩ = some (.int .i64 y)
theorem I2.isL {v : Value} {x y : Int} {w : World} (h : I2 v x y w) : Bt.IsL w v [x, y] := by
  obtain ⟨q, rfl, hc, hd⟩ := h
  refine ⟨_, _, rfl, by simp, fun k hk => ⟨q, 0, rfl, ?_⟩⟩
  match k, hk with
  | 0, _ => simpa using hc
  | 1, _ => simpa using hd
theorem I2.later {v : Value} {x y : Int} {w w' : World} (h : I2 v x y w) (hb : Below w.heap.size w w') : I2 v x y w' := by
  obtain ⟨q, hv, hc, hd⟩ := h
  exact ⟨q, hv, cell_later hb hc, cell_later hb hd⟩
theorem i2_new (w : World) (x y : Int) (T : TypeId) : I2 (.slice (some ⟨w.heap.size, 0, none⟩) 2 2) x y (w.alloc (.cells #[.int .i64 x, .int .i64 y] T)) := ⟨_, rfl, by rw [World.cell?_alloc_new]; rfl, by rw [World.cell?_alloc_new]; rfl⟩
theorem sameQ_goal (r : List Nat) (x g : Int) : sameQ r x r g = (x == g) := by simp [sameQ]
theorem sameQ_left (r r' : List Nat) (g : Int) : sameQ r' g r g = decide (r' = r) := by simp [sameQ]
set_option maxRecDepth 100000 in
set_option maxHeartbeats 2000000 in
theorem isGoal_any (w0 : World) {k b : Nat} {r : List Nat} {g : Int} {tv : Value} {fl : Bool} (hW : Wk w0 k b r g tv fl) (hr : Ok r) (x : Int) : Calls Tryz.prog 73 #[.pointer (some ⟨k, 0, none⟩), .int .i64 x] w0 fun e w' => e = .returned (.bool (x == g)) ∧ Below w0.heap.size w0 w' := by
  have HW := show Hid (∀ W, Below w0.heap.size w0 W → Wk W k b r g tv fl) from fun W h => hW.later h
  clear hW
  go_enter Tryz.func73, Tryz.ntmps73
  go_wp2_with fail
  refine wp_region_rel (by kernel_rfl) [some 5, some 6, some 7, some 8, some 9, some 10, some 11, some 12, some 13, some 14, some 15, some 4] [[], [0], [1], [2], [], [3, 4], [], [6], [7], [8], [5, 9], [10]] (by kernel_rfl) (fun i v w => match i with | 0 => v = .pointer (some ⟨k, 0, none⟩) | 1 => v = .pointer (some ⟨k, 0, none⟩) | 2 => v = .pointer (some ⟨k, 1, none⟩) | 3 => v = .agg (cellsQ r g) | 4 => v = .int .i64 x | 5 => v = .agg (cellsQ r x) | 6 => v = .pointer (some ⟨k, 0, none⟩) | 7 => v = .pointer (some ⟨k, 0, none⟩) | 8 => v = .pointer (some ⟨k, 1, none⟩) | 9 => v = .agg (cellsQ r g) | 10 => v = .bool (sameQ (r) (x) (r) (g)) | 11 => v = .bool (sameQ r x r g) | _ => True) (fun _ W => Below w0.heap.size w0 W) (fun W W' => Below W.heap.size W W') ?hle ((Below.refl _ _).drew) (allLt 12 ?steps) ?fin
  case hle =>
    intro i v w w1 hl h
    match i, h with
    | 0, h => exact h
    | 1, h => exact h
    | 2, h => exact h
    | 3, h => exact h
    | 4, h => exact h
    | 5, h => exact h
    | 6, h => exact h
    | 7, h => exact h
    | 8, h => exact h
    | 9, h => exact h
    | 10, h => exact h
    | 11, h => exact h
    | _ + 12, h => trivial
  case steps =>
    refine ⟨⟨⟨⟨⟨⟨⟨⟨⟨⟨⟨⟨trivial, ?s0⟩, ?s1⟩, ?s2⟩, ?s3⟩, ?s4⟩, ?s5⟩, ?s6⟩, ?s7⟩, ?s8⟩, ?s9⟩, ?s10⟩, ?s11⟩
    case s0 =>
      intro done a w hS h0 hd hn hO hN
      have o0 : a.tmps[0]? = some (.pointer (some ⟨k, 0, none⟩)) := (hO.out 0 (by decide)).trans rfl
      refine relVal rfl (.pointer (some ⟨k, 0, none⟩)) w rfl (by go_simp) ⟨_, rfl, rfl, by simpa [h0] using hS, Below.refl _ _⟩
    case s1 =>
      intro done a w hS h0 hd hn hO hN
      obtain ⟨v0, g0, r0⟩ := hN 0 (by decide)
      have g0 : a.tmps[5]? = some v0 := g0
      obtain rfl : v0 = .pointer (some ⟨k, 0, none⟩) := r0
      refine relVal rfl (.pointer (some ⟨k, 0, none⟩)) w rfl (by go_simp) ⟨_, rfl, rfl, by simpa [h0] using hS, Below.refl _ _⟩
    case s2 =>
      intro done a w hS h0 hd hn hO hN
      obtain ⟨v1, g1, r1⟩ := hN 1 (by decide)
      have g1 : a.tmps[6]? = some v1 := g1
      obtain rfl : v1 = .pointer (some ⟨k, 0, none⟩) := r1
      refine relVal rfl (.pointer (some ⟨k, 1, none⟩)) w rfl (by go_simp) ⟨_, rfl, rfl, by simpa [h0] using hS, Below.refl _ _⟩
    case s3 =>
      intro done a w hS h0 hd hn hO hN
      obtain ⟨v2, g2, r2⟩ := hN 2 (by decide)
      have g2 : a.tmps[7]? = some v2 := g2
      obtain rfl : v2 = .pointer (some ⟨k, 1, none⟩) := r2
      have hl := loadQin w k 1 (HW.out w hS).seq hr.1
      refine relVal rfl (.agg (cellsQ r g)) w rfl (by simp [execOp, Act.eval, g2, hl, Result.andThen]) ⟨_, rfl, rfl, by simpa [h0] using hS, Below.refl _ _⟩
    case s4 =>
      intro done a w hS h0 hd hn hO hN
      have o1 : a.tmps[1]? = some (.int .i64 x) := (hO.out 1 (by decide)).trans rfl
      refine relVal rfl (.int .i64 x) w rfl (by go_simp) ⟨_, rfl, rfl, by simpa [h0] using hS, Below.refl _ _⟩
    case s5 =>
      intro done a w hS h0 hd hn hO hN
      obtain ⟨v3, g3, r3⟩ := hN 3 (by decide)
      have g3 : a.tmps[8]? = some v3 := g3
      obtain rfl : v3 = .agg (cellsQ r g) := r3
      obtain ⟨v4, g4, r4⟩ := hN 4 (by decide)
      have g4 : a.tmps[9]? = some v4 := g4
      obtain rfl : v4 = .int .i64 x := r4
      refine relCallF rfl rfl 86 [.tmp 8, .tmp 9] #[27, 3] rfl [.agg (cellsQ r g), .int .i64 x] (by simp [Act.eval, g3, g4]) (enters_of Tryz.func86 (by kernel_rfl) rfl) (Calls.mono (to_any w hr.1 g x) ?_)
      rintro e w1 ⟨rfl, hb⟩
      exact ⟨_, rfl, _, rfl, rfl, hS.trans (hb.mono hS.size), hb⟩
    case s6 =>
      intro done a w hS h0 hd hn hO hN
      have o0 : a.tmps[0]? = some (.pointer (some ⟨k, 0, none⟩)) := (hO.out 0 (by decide)).trans rfl
      refine relVal rfl (.pointer (some ⟨k, 0, none⟩)) w rfl (by go_simp) ⟨_, rfl, rfl, by simpa [h0] using hS, Below.refl _ _⟩
    case s7 =>
      intro done a w hS h0 hd hn hO hN
      obtain ⟨v6, g6, r6⟩ := hN 6 (by decide)
      have g6 : a.tmps[11]? = some v6 := g6
      obtain rfl : v6 = .pointer (some ⟨k, 0, none⟩) := r6
      refine relVal rfl (.pointer (some ⟨k, 0, none⟩)) w rfl (by go_simp) ⟨_, rfl, rfl, by simpa [h0] using hS, Below.refl _ _⟩
    case s8 =>
      intro done a w hS h0 hd hn hO hN
      obtain ⟨v7, g7, r7⟩ := hN 7 (by decide)
      have g7 : a.tmps[12]? = some v7 := g7
      obtain rfl : v7 = .pointer (some ⟨k, 0, none⟩) := r7
      refine relVal rfl (.pointer (some ⟨k, 1, none⟩)) w rfl (by go_simp) ⟨_, rfl, rfl, by simpa [h0] using hS, Below.refl _ _⟩
    case s9 =>
      intro done a w hS h0 hd hn hO hN
      obtain ⟨v8, g8, r8⟩ := hN 8 (by decide)
      have g8 : a.tmps[13]? = some v8 := g8
      obtain rfl : v8 = .pointer (some ⟨k, 1, none⟩) := r8
      have hl := loadQin w k 1 (HW.out w hS).seq hr.1
      refine relVal rfl (.agg (cellsQ r g)) w rfl (by simp [execOp, Act.eval, g8, hl, Result.andThen]) ⟨_, rfl, rfl, by simpa [h0] using hS, Below.refl _ _⟩
    case s10 =>
      intro done a w hS h0 hd hn hO hN
      obtain ⟨v5, g5, r5⟩ := hN 5 (by decide)
      have g5 : a.tmps[10]? = some v5 := g5
      obtain rfl : v5 = .agg (cellsQ r x) := r5
      obtain ⟨v9, g9, r9⟩ := hN 9 (by decide)
      have g9 : a.tmps[14]? = some v9 := g9
      obtain rfl : v9 = .agg (cellsQ r g) := r9
      have hq := (eql_seq w (p := r) (q := r) hr.1 hr.1 (x) (g)).1
      refine relVal rfl (.bool (sameQ (r) (x) (r) (g))) w rfl (by simp [execOp, Act.eval, g5, g9, eqGuard, hq, Result.andThen]) ⟨_, rfl, rfl, hS, ?_⟩
      exact Below.refl _ _
    case s11 =>
      intro done a w hS h0 hd hn hO hN
      obtain ⟨v10, g10, r10⟩ := hN 10 (by decide)
      have g10 : a.tmps[15]? = some v10 := g10
      obtain rfl : v10 = .bool (sameQ (r) (x) (r) (g)) := r10
      refine relVal rfl (.bool (sameQ r x r g)) w rfl (by go_simp) ⟨_, rfl, rfl, by simpa [h0] using hS, Below.refl _ _⟩
  case fin =>
    intro vs done w hdone hS hR
    simp only [putAll, Act.put, List.setIfInBounds_toArray, List.set_cons_zero, List.set_cons_succ]
    have hR4 : vs 11 = .bool (sameQ r x r g) := hR 11 (by decide)
    rw [hR4, sameQ_goal]
    have HS := show Hid _ from hS
    clear hS hR hdone hR4
    go_wp2_with fail
    go_ret
    exact ⟨rfl, HS.out⟩
set_option maxRecDepth 100000 in
set_option maxHeartbeats 2000000 in
theorem inLeft_any (w0 : World) {k b : Nat} {r : List Nat} {g : Int} {tv : Value} {fl : Bool} (hW : Wk w0 k b r g tv fl) (hr : Ok r) (x : Int) : Calls Tryz.prog 74 #[.pointer (some ⟨k, 0, none⟩), .int .i64 x] w0 fun e w' => e = .returned (.bool (inL r x)) ∧ Below w0.heap.size w0 w' := by
  have HW := show Hid (∀ W, Below w0.heap.size w0 W → Wk W k b r g tv fl) from fun W h => hW.later h
  clear hW
  go_enter Tryz.func74, Tryz.ntmps74
  go_wp2_with fail
  refine wp_region_rel (by kernel_rfl) [some 5, some 6, some 7, some 8, some 9, some 10, some 11, some 12, some 13, some 14, some 15, some 16, some 4] [[], [0], [1], [2], [], [4], [3, 5], [], [7], [8], [9], [6, 10], [11]] (by kernel_rfl) (fun i v w => match i with | 0 => v = .pointer (some ⟨k, 0, none⟩) | 1 => v = .pointer (some ⟨k, 0, none⟩) | 2 => v = .pointer (some ⟨k, 1, none⟩) | 3 => v = .agg (cellsQ r g) | 4 => v = .int .i64 x | 5 => I1 v x w | 6 => v = .agg (cellsQ (withF r [x]) g) | 7 => v = .pointer (some ⟨k, 0, none⟩) | 8 => v = .pointer (some ⟨k, 0, none⟩) | 9 => v = .pointer (some ⟨k, 1, none⟩) | 10 => v = .agg (cellsQ r g) | 11 => v = .bool (sameQ (withF r [x]) (g) (r) (g)) | 12 => v = .bool (sameQ (withF r [x]) g r g) | _ => True) (fun _ W => Below w0.heap.size w0 W) (fun W W' => Below W.heap.size W W') ?hle ((Below.refl _ _).drew) (allLt 13 ?steps) ?fin
  case hle =>
    intro i v w w1 hl h
    match i, h with
    | 0, h => exact h
    | 1, h => exact h
    | 2, h => exact h
    | 3, h => exact h
    | 4, h => exact h
    | 5, h => exact I1.later h hl
    | 6, h => exact h
    | 7, h => exact h
    | 8, h => exact h
    | 9, h => exact h
    | 10, h => exact h
    | 11, h => exact h
    | 12, h => exact h
    | _ + 13, h => trivial
  case steps =>
    refine ⟨⟨⟨⟨⟨⟨⟨⟨⟨⟨⟨⟨⟨trivial, ?s0⟩, ?s1⟩, ?s2⟩, ?s3⟩, ?s4⟩, ?s5⟩, ?s6⟩, ?s7⟩, ?s8⟩, ?s9⟩, ?s10⟩, ?s11⟩, ?s12⟩
    case s0 =>
      intro done a w hS h0 hd hn hO hN
      have o0 : a.tmps[0]? = some (.pointer (some ⟨k, 0, none⟩)) := (hO.out 0 (by decide)).trans rfl
      refine relVal rfl (.pointer (some ⟨k, 0, none⟩)) w rfl (by go_simp) ⟨_, rfl, rfl, by simpa [h0] using hS, Below.refl _ _⟩
    case s1 =>
      intro done a w hS h0 hd hn hO hN
      obtain ⟨v0, g0, r0⟩ := hN 0 (by decide)
      have g0 : a.tmps[5]? = some v0 := g0
      obtain rfl : v0 = .pointer (some ⟨k, 0, none⟩) := r0
      refine relVal rfl (.pointer (some ⟨k, 0, none⟩)) w rfl (by go_simp) ⟨_, rfl, rfl, by simpa [h0] using hS, Below.refl _ _⟩
    case s2 =>
      intro done a w hS h0 hd hn hO hN
      obtain ⟨v1, g1, r1⟩ := hN 1 (by decide)
      have g1 : a.tmps[6]? = some v1 := g1
      obtain rfl : v1 = .pointer (some ⟨k, 0, none⟩) := r1
      refine relVal rfl (.pointer (some ⟨k, 1, none⟩)) w rfl (by go_simp) ⟨_, rfl, rfl, by simpa [h0] using hS, Below.refl _ _⟩
    case s3 =>
      intro done a w hS h0 hd hn hO hN
      obtain ⟨v2, g2, r2⟩ := hN 2 (by decide)
      have g2 : a.tmps[7]? = some v2 := g2
      obtain rfl : v2 = .pointer (some ⟨k, 1, none⟩) := r2
      have hl := loadQin w k 1 (HW.out w hS).seq hr.1
      refine relVal rfl (.agg (cellsQ r g)) w rfl (by simp [execOp, Act.eval, g2, hl, Result.andThen]) ⟨_, rfl, rfl, by simpa [h0] using hS, Below.refl _ _⟩
    case s4 =>
      intro done a w hS h0 hd hn hO hN
      have o1 : a.tmps[1]? = some (.int .i64 x) := (hO.out 1 (by decide)).trans rfl
      refine relVal rfl (.int .i64 x) w rfl (by go_simp) ⟨_, rfl, rfl, by simpa [h0] using hS, Below.refl _ _⟩
    case s5 =>
      intro done a w hS h0 hd hn hO hN
      obtain ⟨v4, g4, r4⟩ := hN 4 (by decide)
      have g4 : a.tmps[9]? = some v4 := g4
      obtain rfl : v4 = .int .i64 x := r4
      refine relVal rfl (.slice (some ⟨w.heap.size, 0, none⟩) 1 1) (w.alloc (.cells #[.int .i64 x] 3)) rfl (by go_simp) ⟨_, rfl, i1_new w x _, hS.alloc hS.size _, below_alloc w _⟩
    case s6 =>
      intro done a w hS h0 hd hn hO hN
      obtain ⟨v3, g3, r3⟩ := hN 3 (by decide)
      have g3 : a.tmps[8]? = some v3 := g3
      obtain rfl : v3 = .agg (cellsQ r g) := r3
      obtain ⟨v5, g5, r5⟩ := hN 5 (by decide)
      have g5 : a.tmps[10]? = some v5 := g5
      refine relCallF rfl rfl 76 [.tmp 8, .tmp 10] #[27, 44] rfl [.agg (cellsQ r g), v5] (by simp [Act.eval, g3, g5]) (enters_of Tryz.func76 (by kernel_rfl) rfl) (Calls.mono (withq_any w hr g v5 [x] r5.isL) ?_)
      rintro e w1 ⟨rfl, hb⟩
      exact ⟨_, rfl, _, rfl, rfl, hS.trans (hb.mono hS.size), hb⟩
    case s7 =>
      intro done a w hS h0 hd hn hO hN
      have o0 : a.tmps[0]? = some (.pointer (some ⟨k, 0, none⟩)) := (hO.out 0 (by decide)).trans rfl
      refine relVal rfl (.pointer (some ⟨k, 0, none⟩)) w rfl (by go_simp) ⟨_, rfl, rfl, by simpa [h0] using hS, Below.refl _ _⟩
    case s8 =>
      intro done a w hS h0 hd hn hO hN
      obtain ⟨v7, g7, r7⟩ := hN 7 (by decide)
      have g7 : a.tmps[12]? = some v7 := g7
      obtain rfl : v7 = .pointer (some ⟨k, 0, none⟩) := r7
      refine relVal rfl (.pointer (some ⟨k, 0, none⟩)) w rfl (by go_simp) ⟨_, rfl, rfl, by simpa [h0] using hS, Below.refl _ _⟩
    case s9 =>
      intro done a w hS h0 hd hn hO hN
      obtain ⟨v8, g8, r8⟩ := hN 8 (by decide)
      have g8 : a.tmps[13]? = some v8 := g8
      obtain rfl : v8 = .pointer (some ⟨k, 0, none⟩) := r8
      refine relVal rfl (.pointer (some ⟨k, 1, none⟩)) w rfl (by go_simp) ⟨_, rfl, rfl, by simpa [h0] using hS, Below.refl _ _⟩
    case s10 =>
      intro done a w hS h0 hd hn hO hN
      obtain ⟨v9, g9, r9⟩ := hN 9 (by decide)
      have g9 : a.tmps[14]? = some v9 := g9
      obtain rfl : v9 = .pointer (some ⟨k, 1, none⟩) := r9
      have hl := loadQin w k 1 (HW.out w hS).seq hr.1
      refine relVal rfl (.agg (cellsQ r g)) w rfl (by simp [execOp, Act.eval, g9, hl, Result.andThen]) ⟨_, rfl, rfl, by simpa [h0] using hS, Below.refl _ _⟩
    case s11 =>
      intro done a w hS h0 hd hn hO hN
      obtain ⟨v6, g6, r6⟩ := hN 6 (by decide)
      have g6 : a.tmps[11]? = some v6 := g6
      obtain rfl : v6 = .agg (cellsQ (withF r [x]) g) := r6
      obtain ⟨v10, g10, r10⟩ := hN 10 (by decide)
      have g10 : a.tmps[15]? = some v10 := g10
      obtain rfl : v10 = .agg (cellsQ r g) := r10
      have hq := (eql_seq w (p := withF r [x]) (q := r) (withF_ok [x] hr).1 hr.1 (g) (g)).1
      refine relVal rfl (.bool (sameQ (withF r [x]) (g) (r) (g))) w rfl (by simp [execOp, Act.eval, g6, g10, eqGuard, hq, Result.andThen]) ⟨_, rfl, rfl, hS, ?_⟩
      exact Below.refl _ _
    case s12 =>
      intro done a w hS h0 hd hn hO hN
      obtain ⟨v11, g11, r11⟩ := hN 11 (by decide)
      have g11 : a.tmps[16]? = some v11 := g11
      obtain rfl : v11 = .bool (sameQ (withF r [x]) (g) (r) (g)) := r11
      refine relVal rfl (.bool (sameQ (withF r [x]) g r g)) w rfl (by go_simp) ⟨_, rfl, rfl, by simpa [h0] using hS, Below.refl _ _⟩
  case fin =>
    intro vs done w hdone hS hR
    simp only [putAll, Act.put, List.setIfInBounds_toArray, List.set_cons_zero, List.set_cons_succ]
    have hR4 : vs 12 = .bool (sameQ (withF r [x]) g r g) := hR 12 (by decide)
    rw [hR4, sameQ_left]
    have HS := show Hid _ from hS
    clear hS hR hdone hR4
    go_wp2_with fail
    go_ret
    exact ⟨rfl, HS.out⟩
theorem dropI_okZ {r : List Nat} (h : Ok r) (n : Int) : Ok (Bt.dropI r n) := by
  unfold Bt.dropI
  split
  · exact Bt.Bs.drop_ok h _
  · exact h
set_option maxRecDepth 100000 in
set_option maxHeartbeats 2000000 in
theorem rest_any (w0 : World) {k b : Nat} {r : List Nat} {g : Int} {tv : Value} {fl : Bool} (hW : Wk w0 k b r g tv fl) (hr : Ok r) (m : Sh) : Calls Tryz.prog 77 #[.pointer (some ⟨k, 0, none⟩), shV m] w0 fun e w' => e = .returned (.agg (cellsQ (Bt.dropI r m.id) g)) ∧ Below w0.heap.size w0 w' := by
  have HW := show Hid (∀ W, Below w0.heap.size w0 W → Wk W k b r g tv fl) from fun W h => hW.later h
  have hD := dropI_okZ hr m.id
  clear hW
  unfold shV
  go_enter Tryz.func77, Tryz.ntmps77
  go_wp2_with (refine wpList_box _ _ rfl _ rfl rfl ?_)
  intro w1 b3 hn1
  go_wp2_with (refine wpList_alloc _ rfl _ zeroValQ rfl ?_)
  intro w2 b4 hn2
  have H2 := show Hid (Below w0.heap.size w0 w2 ∧ Cl w2 b3 (shC m) 123 ∧ SeqAt w2 b4 Bt.Bs.zero 0) from ⟨bel_new hn1.bel hn2, Cl.new hn1.blk hn2, hn2.blk⟩
  have hl4 : w0.heap.size ≤ b4 := by have := hn1.bel.size; have := hn2.ge; omega
  have hne : b3 ≠ b4 := by have := Cl.lt hn1.blk; have := hn2.ge; omega
  clear hn1 hn2
  go_wp2_with fail
  refine wp_region_rel (by kernel_rfl) [some 5, some 6, some 7, some 8, some 9, some 10, some 11, some 12, some 13, some 14, some 15, some 16, some 17, some 18, none] [[], [0], [1], [2], [3], [], [5], [4, 6], [], [8], [9], [10], [11], [7, 12], [13]] (by kernel_rfl) (fun i v w => match i with | 0 => v = .pointer (some ⟨k, 0, none⟩) | 1 => v = .pointer (some ⟨k, 0, none⟩) | 2 => v = .pointer (some ⟨k, 1, none⟩) | 3 => v = .pointer (some ⟨k, 1, none⟩) | 4 => v = .agg (Bt.cellsB r) | 5 => v = .pointer (some ⟨b3, 0, none⟩) | 6 => v = .int .i64 m.id | 7 => v = .agg (Bt.cellsB (Bt.dropI r m.id)) | 8 => v = .pointer (some ⟨k, 0, none⟩) | 9 => v = .pointer (some ⟨k, 0, none⟩) | 10 => v = .pointer (some ⟨k, 1, none⟩) | 11 => v = .pointer (some ⟨k, 17, none⟩) | 12 => v = .int .i64 g | 13 => v = .agg (cellsQ (Bt.dropI r m.id) g) | 14 => True | _ => True) (fun done W => Below w0.heap.size w0 W ∧ Cl W b3 (shC m) 123 ∧ SeqAt W b4 (if done 14 then Bt.dropI r m.id else Bt.Bs.zero) (if done 14 then g else 0)) (fun _ _ => True) ?hle (⟨H2.out.1.drew, H2.out.2.1, H2.out.2.2⟩) (allLt 15 ?steps) ?fin
  case hle =>
    intro i v w w1 hl h
    match i, h with
    | 0, h => exact h
    | 1, h => exact h
    | 2, h => exact h
    | 3, h => exact h
    | 4, h => exact h
    | 5, h => exact h
    | 6, h => exact h
    | 7, h => exact h
    | 8, h => exact h
    | 9, h => exact h
    | 10, h => exact h
    | 11, h => exact h
    | 12, h => exact h
    | 13, h => exact h
    | 14, h => exact h
    | _ + 15, h => trivial
  case steps =>
    refine ⟨⟨⟨⟨⟨⟨⟨⟨⟨⟨⟨⟨⟨⟨⟨trivial, ?s0⟩, ?s1⟩, ?s2⟩, ?s3⟩, ?s4⟩, ?s5⟩, ?s6⟩, ?s7⟩, ?s8⟩, ?s9⟩, ?s10⟩, ?s11⟩, ?s12⟩, ?s13⟩, ?s14⟩
    case s0 =>
      intro done a w hS h0 hd hn hO hN
      have o0 : a.tmps[0]? = some (.pointer (some ⟨k, 0, none⟩)) := (hO.out 0 (by decide)).trans rfl
      refine relVal rfl (.pointer (some ⟨k, 0, none⟩)) w rfl (by go_simp) ⟨_, rfl, rfl, by simpa [h0] using hS, trivial⟩
    case s1 =>
      intro done a w hS h0 hd hn hO hN
      obtain ⟨v0, g0, r0⟩ := hN 0 (by decide)
      have g0 : a.tmps[5]? = some v0 := g0
      obtain rfl : v0 = .pointer (some ⟨k, 0, none⟩) := r0
      refine relVal rfl (.pointer (some ⟨k, 0, none⟩)) w rfl (by go_simp) ⟨_, rfl, rfl, by simpa [h0] using hS, trivial⟩
    case s2 =>
      intro done a w hS h0 hd hn hO hN
      obtain ⟨v1, g1, r1⟩ := hN 1 (by decide)
      have g1 : a.tmps[6]? = some v1 := g1
      obtain rfl : v1 = .pointer (some ⟨k, 0, none⟩) := r1
      refine relVal rfl (.pointer (some ⟨k, 1, none⟩)) w rfl (by go_simp) ⟨_, rfl, rfl, by simpa [h0] using hS, trivial⟩
    case s3 =>
      intro done a w hS h0 hd hn hO hN
      obtain ⟨v2, g2, r2⟩ := hN 2 (by decide)
      have g2 : a.tmps[7]? = some v2 := g2
      obtain rfl : v2 = .pointer (some ⟨k, 1, none⟩) := r2
      refine relVal rfl (.pointer (some ⟨k, 1, none⟩)) w rfl (by go_simp) ⟨_, rfl, rfl, by simpa [h0] using hS, trivial⟩
    case s4 =>
      intro done a w hS h0 hd hn hO hN
      obtain ⟨v3, g3, r3⟩ := hN 3 (by decide)
      have g3 : a.tmps[8]? = some v3 := g3
      obtain rfl : v3 = .pointer (some ⟨k, 1, none⟩) := r3
      have hl := loadBin w k 1 (HW.out w hS.1).seq hr.1
      refine relVal rfl (.agg (Bt.cellsB r)) w rfl (by simp [execOp, Act.eval, g3, hl, Result.andThen]) ⟨_, rfl, rfl, by simpa [h0] using hS, trivial⟩
    case s5 =>
      intro done a w hS h0 hd hn hO hN
      have o3 : a.tmps[3]? = some (.pointer (some ⟨b3, 0, none⟩)) := (hO.out 3 (by decide)).trans rfl
      refine relVal rfl (.pointer (some ⟨b3, 0, none⟩)) w rfl (by go_simp) ⟨_, rfl, rfl, by simpa [h0] using hS, trivial⟩
    case s6 =>
      intro done a w hS h0 hd hn hO hN
      obtain ⟨v5, g5, r5⟩ := hN 5 (by decide)
      have g5 : a.tmps[10]? = some v5 := g5
      obtain rfl : v5 = .pointer (some ⟨b3, 0, none⟩) := r5
      have hc : w.cell? ⟨b3, 0, none⟩ = some (.int .i64 m.id) := hS.2.1.cell 0
      refine relVal rfl (.int .i64 m.id) w rfl (by go_simp) ⟨_, rfl, rfl, by simpa [h0] using hS, trivial⟩
    case s7 =>
      intro done a w hS h0 hd hn hO hN
      obtain ⟨v4, g4, r4⟩ := hN 4 (by decide)
      have g4 : a.tmps[9]? = some v4 := g4
      obtain rfl : v4 = .agg (Bt.cellsB r) := r4
      obtain ⟨v6, g6, r6⟩ := hN 6 (by decide)
      have g6 : a.tmps[11]? = some v6 := g6
      obtain rfl : v6 = .int .i64 m.id := r6
      refine relCallF rfl rfl 110 [.tmp 9, .tmp 11] #[25, 3] rfl [.agg (Bt.cellsB r), .int .i64 m.id] (by simp [Act.eval, g4, g6]) (enters_of Tryz.func110 (by kernel_rfl) rfl) (Calls.mono (Bt.drop_any w hr m.id) ?_)
      rintro e w1 ⟨rfl, hb⟩
      exact ⟨_, rfl, _, rfl, rfl, ⟨hS.1.trans (hb.mono hS.1.size), hS.2.1.later hb, by simpa using hS.2.2.later hb hS.2.2.lt⟩, trivial⟩
    case s8 =>
      intro done a w hS h0 hd hn hO hN
      have o0 : a.tmps[0]? = some (.pointer (some ⟨k, 0, none⟩)) := (hO.out 0 (by decide)).trans rfl
      refine relVal rfl (.pointer (some ⟨k, 0, none⟩)) w rfl (by go_simp) ⟨_, rfl, rfl, by simpa [h0] using hS, trivial⟩
    case s9 =>
      intro done a w hS h0 hd hn hO hN
      obtain ⟨v8, g8, r8⟩ := hN 8 (by decide)
      have g8 : a.tmps[13]? = some v8 := g8
      obtain rfl : v8 = .pointer (some ⟨k, 0, none⟩) := r8
      refine relVal rfl (.pointer (some ⟨k, 0, none⟩)) w rfl (by go_simp) ⟨_, rfl, rfl, by simpa [h0] using hS, trivial⟩
    case s10 =>
      intro done a w hS h0 hd hn hO hN
      obtain ⟨v9, g9, r9⟩ := hN 9 (by decide)
      have g9 : a.tmps[14]? = some v9 := g9
      obtain rfl : v9 = .pointer (some ⟨k, 0, none⟩) := r9
      refine relVal rfl (.pointer (some ⟨k, 1, none⟩)) w rfl (by go_simp) ⟨_, rfl, rfl, by simpa [h0] using hS, trivial⟩
    case s11 =>
      intro done a w hS h0 hd hn hO hN
      obtain ⟨v10, g10, r10⟩ := hN 10 (by decide)
      have g10 : a.tmps[15]? = some v10 := g10
      obtain rfl : v10 = .pointer (some ⟨k, 1, none⟩) := r10
      refine relVal rfl (.pointer (some ⟨k, 17, none⟩)) w rfl (by go_simp) ⟨_, rfl, rfl, by simpa [h0] using hS, trivial⟩
    case s12 =>
      intro done a w hS h0 hd hn hO hN
      obtain ⟨v11, g11, r11⟩ := hN 11 (by decide)
      have g11 : a.tmps[16]? = some v11 := g11
      obtain rfl : v11 = .pointer (some ⟨k, 17, none⟩) := r11
      have hc := (HW.out w hS.1).goal hr.1
      refine relVal rfl (.int .i64 g) w rfl (by go_simp) ⟨_, rfl, rfl, by simpa [h0] using hS, trivial⟩
    case s13 =>
      intro done a w hS h0 hd hn hO hN
      obtain ⟨v7, g7, r7⟩ := hN 7 (by decide)
      have g7 : a.tmps[12]? = some v7 := g7
      obtain rfl : v7 = .agg (Bt.cellsB (Bt.dropI r m.id)) := r7
      obtain ⟨v12, g12, r12⟩ := hN 12 (by decide)
      have g12 : a.tmps[17]? = some v12 := g12
      obtain rfl : v12 = .int .i64 g := r12
      have hq := buildQ w hD.1 g
      refine relVal rfl (.agg (cellsQ (Bt.dropI r m.id) g)) w rfl (by simp [execOp, Act.eval, g7, g12, hq, Result.andThen]) ⟨_, rfl, rfl, by simpa [h0] using hS, trivial⟩
    case s14 =>
      intro done a w hS h0 hd hn hO hN
      obtain ⟨v13, g13, r13⟩ := hN 13 (by decide)
      have g13 : a.tmps[18]? = some v13 := g13
      obtain rfl : v13 = .agg (cellsQ (Bt.dropI r m.id) g) := r13
      have o4 : a.tmps[4]? = some (.pointer (some ⟨b4, 0, none⟩)) := (hO.out 4 (by decide)).trans rfl
      have hz := hS.2.2
      rw [if_neg (by simp [h0]), if_neg (by simp [h0])] at hz
      have hq := storeQ (r' := Bt.dropI r m.id) (g' := g) w b4 hz zero_len hD.1
      refine relSkip rfl (w.setRow b4 (cellsQ (Bt.dropI r m.id) g)) rfl (by simp [execOp, Act.eval, g13, o4, hq, Result.andThen]) ⟨undef, rfl, trivial, ⟨below_setRow hS.1 hl4, hS.2.1.kp (setRow_kp w b4 _) hne, ?_⟩, trivial⟩
      simpa using hz.setRow (Bt.dropI r m.id) g
  case fin =>
    intro vs done w hdone hS hR
    have hq := hS.2.2
    rw [if_pos (hdone 14 (by decide)), if_pos (hdone 14 (by decide))] at hq
    have HS := show Hid _ from hS.1
    have HQ := show Hid _ from hq
    clear hS hR hdone hq
    simp only [putAll, Act.put, List.setIfInBounds_toArray, List.set_cons_zero, List.set_cons_succ]
    go_wp2_with fail
    refine bodyPost_ret (results_seq1 rfl _ _ b4 rfl HQ.out hD.1) rfl ?_
    exact ⟨rfl, HS.out⟩
end Go.Proofs.YtkejippimkjjaaaGreatDoor
