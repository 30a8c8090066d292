/-
  A row of images in memory beside a table of the document's: what a round of a loop leaves of both. No condition.
-/
import Derived.Test.YthfedlodikbdgaaRSim
import Derived.Test.YthfedlodikbdgaaUAnew
import Derived.Test.YthfedlodikbdgaaRBelow
import Derived.Test.YthfedlodikbdgaaRSame
import Derived.Deep.RegionHeld3
namespace Go.Proofs.Ythfedlodikbdgaa
open Go.RowKit Go.Maps
open Fm (Nd)

/-- A row of n numbers at block g. -/
def Vs (w : World) (g n : Nat) (f : Nat → Int) : Prop := w.heap[g]? = some (.cells ((List.range n).map fun j => Value.int .i64 (f j)).toArray 3 (0, 0))
section
variable {w w' : World} {g n : Nat} {f : Nat → Int}
theorem Vs.cell (h : Vs w g n f) {j : Nat} (hj : j < n) : w.cell? ⟨g, j, none⟩ = some (.int .i64 (f j)) := by
  rw [cell_of_row w g j _ _ _ h]
  simp [hj]
theorem Vs.fr (h : Vs w g n f) (j : Nat) : w.frozen? ⟨g, j, none⟩ = false := frozen_of_row w g j _ _ h
theorem Vs.set (h : Vs w g n f) (j : Nat) (x : Int) : Vs (w.setCell ⟨g, j, none⟩ (.int .i64 x)) g n (Sb.updI f j x) := by
  have h1 : (w.setCell ⟨g, j, none⟩ (.int .i64 x)).heap[g]? = some (.cells (((List.range n).map fun j => Value.int .i64 (f j)).toArray.setIfInBounds j (.int .i64 x)) 3 (0, 0)) := heap_setCell_same w g j _ _ _ h
  unfold Vs
  rw [h1]
  congr 2
  apply Array.ext'
  apply List.ext_getElem?
  intro i
  by_cases hi : i < n
  · by_cases e : i = j
    · subst e
      simp [Sb.updI, hi]
    · simp [Sb.updI, hi, e, Ne.symm e]
  · simp [hi]
theorem Vs.keep {B : Nat} (h : Vs w g n f) (hb : Below B w w') (hg : g < B) : Vs w' g n f := (hb.block g hg).trans h
theorem Vs.lt (h : Vs w g n f) : g < w.heap.size := lt_of_block h
end
theorem vs_made (w : World) (n : Nat) : Vs (w.alloc (.cells (madeCells #[.int .i64 0] n) 3)) w.heap.size n (fun _ => 0) := by
  unfold Vs
  rw [heap_alloc_new]
  congr 2
  apply Array.ext'
  rw [toList_madeCells_one]
  simp [List.map_const']
/-- One operation that comes up, and what follows. -/
def StepH (ops : Array Oper) (Q : Exit → Act → World → Prop) (S : World → Prop) (fuel : Nat) (listed : Array Bool) (a : Act) (w : World) (i : Nat) (oi : Oper) : Prop :=
  ∀ K' : Act → World → Prop, Shut (∀ a w, S w → (S w → wpAnyH Try.prog .any ops Q S fuel (listed.setIfInBounds i true) a w) → K' a w) → if Region.wanted oi (yielded ops a.tmps) = true then Oper.wp Try.prog oi a w K' Q else K' (a.put oi.dst undef) w
section
variable {ops : Array Oper} {Q : Exit → Act → World → Prop} {S : World → Prop} {fuel : Nat} {listed : Array Bool} {a : Act} {w : World}
theorem oneH (i : Nat) {oi : Oper} (hr : Region.ready .any ops listed = [i]) (hi : ops[i]? = some oi) (h : StepH ops Q S fuel listed a w i oi) : wpAnyH Try.prog .any ops Q S (fuel + 1) listed a w :=
  wpAnyH_ready hr (by simp) (AllReadyH.cons hi h AllReadyH.nil)
theorem twoH (i j : Nat) {oi oj : Oper} (hr : Region.ready .any ops listed = [i, j]) (hi : ops[i]? = some oi) (hj : ops[j]? = some oj) (h : StepH ops Q S fuel listed a w i oi) (h2 : StepH ops Q S fuel listed a w j oj) : wpAnyH Try.prog .any ops Q S (fuel + 1) listed a w :=
  wpAnyH_ready hr (by simp) (AllReadyH.cons hi h (AllReadyH.cons hj h2 AllReadyH.nil))
theorem stepW (i : Nat) (d : Option Tmp) {oi : Oper} (v : Value) (w' : World) (hd : oi.dst = d) (hw : Region.wanted oi (yielded ops a.tmps) = true) (hrun : (execOp a.eval oi).run Try.prog w = .ok (.value v) w') (hS : S w')
    (h : S w' → wpAnyH Try.prog .any ops Q S fuel (listed.setIfInBounds i true) (a.put d v) w') : StepH ops Q S fuel listed a w i oi := by
  subst hd
  intro K hK
  rw [if_pos hw]
  unfold Oper.wp
  rw [hrun, Oper.upon_value]
  exact hK.out _ _ hS h
theorem stepU (i : Nat) {oi : Oper} (w' : World) (hd : oi.dst = none) (hw : Region.wanted oi (yielded ops a.tmps) = true) (hrun : (execOp a.eval oi).run Try.prog w = .ok .skip w') (hS : S w')
    (h : S w' → wpAnyH Try.prog .any ops Q S fuel (listed.setIfInBounds i true) a w') : StepH ops Q S fuel listed a w i oi := by
  intro K hK
  rw [if_pos hw]
  unfold Oper.wp
  rw [hrun, Oper.upon_skip, hd]
  exact hK.out _ _ hS h
theorem stepC (i : Nat) (d : Option Tmp) {oi : Oper} (hd : oi.dst = d) (hw : Region.wanted oi (yielded ops a.tmps) = true) (f : FuncId) (xs : List Operand) (ts : Array TypeId) (ho : oi.op = Op.call { callee := Callee.value (Operand.func f), args := xs.toArray, argTypes := ts }) (vs : List Value) (hv : xs.map a.eval = vs)
    (hcf : ∀ vs w, (callFunc f vs).run Try.prog w = .ok (.enter f vs) w)
    (h : Calls Try.prog f vs.toArray w fun e w' => ∃ v, e = .returned v ∧ S w' ∧ (S w' → wpAnyH Try.prog .any ops Q S fuel (listed.setIfInBounds i true) (a.put d v) w')) : StepH ops Q S fuel listed a w i oi := by
  subst hd
  subst hv
  intro K hK
  rw [if_pos hw]
  have hrun : (execOp a.eval oi).run Try.prog w = .ok (.enter f (xs.map a.eval).toArray) w := by
    simp [execOp, ho, resolve, invoke, Deferred.ofValue, Act.eval, hcf]
  unfold Oper.wp
  rw [hrun, Oper.upon_enter]
  refine h.mono ?_
  rintro e w' ⟨v, rfl, hS, hn⟩
  exact hK.out _ _ hS hn
end

/-! ### a row of images beside a table -/
theorem kp_setR (W : World) (g o : Nat) (x : Value) : Kp (fun k => k = g) W (W.setCell ⟨g, o, none⟩ x) := by
  have h := (Below.refl 0 W).setCell (p := ⟨g, o, none⟩) (Nat.zero_le _) x
  refine ⟨h.os, h.tape, h.output, h.size, fun k _ hk => ?_⟩
  exact Go.Deep.blk_setCell_other W ⟨g, o, none⟩ x k hk
section
variable {w w1 wr w2 : World} {c g n : Nat} {u u1 : Value} {t1 t2 : List Nd} {f : Nat → Int}
/-- What holds between two steps: the table, where it lies, what has turned since w1, the row. -/
structure Rn (w1 : World) (c : Nat) (u : Value) (g n : Nat) (u1 : Value) (t1 : List Nd) (f : Nat → Int) (wr : World) : Prop where
  tr : Tr wr c u1 t1
  li : Lies w1.heap.size u u1
  kp : Kp (fun k => Fr c u k ∨ k = g) w1 wr
  vs : Vs wr g n f
theorem Rn.nf (h : Rn w1 c u g n u1 t1 f wr) {b : Nat} (hg : b < w1.heap.size) (hv : ¬ Fr c u b) : ¬ Fr c u1 b := by
  rintro (e | e)
  · exact hv (Or.inl e)
  · rcases h.li b e with h' | h'
    · exact hv (Or.inr h')
    · omega
theorem Rn.ng (h : Rn w1 c u g n u1 t1 f wr) (hg : g < w1.heap.size) (hv : ¬ Fr c u g) : ¬ Fr c u1 g := by
  rintro (e | e)
  · exact hv (Or.inl e)
  · rcases h.li g e with h' | h'
    · exact hv (Or.inr h')
    · omega
theorem Rn.set (h : Rn w1 c u g n u1 t1 f wr) (hg : g < w1.heap.size) (hv : ¬ Fr c u g) (i : Nat) (x : Int) : Rn w1 c u g n u1 t1 (Sb.updI f i x) (wr.setCell ⟨g, i, none⟩ (.int .i64 x)) := by
  have hk := kp_setR wr g i (.int .i64 x)
  refine ⟨h.tr.keep fun k hk' => hk.block k (h.tr.foot k hk') fun e => ?_, h.li, Kp.then h.kp (hk.mono fun _ e => Or.inr e), h.vs.set i x⟩
  subst e
  exact h.ng hg hv hk'
theorem Rn.call (h : Rn w1 c u g n u1 t1 f wr) (hg : g < w1.heap.size) (hv : ¬ Fr c u g) (ha : AfterR wr c u1 t2 w2) : ∃ u2, Rn w1 c u g n u2 t2 f w2 := by
  obtain ⟨u2, hT, hL, hK⟩ := ha
  have hs := h.kp.size
  refine ⟨u2, hT, h.li.trans hL hs, h.kp.trans hK ?_, (hK.block g (by omega) (h.ng hg hv)).trans h.vs⟩
  rintro k (e | e)
  · exact Or.inl (Or.inl (Or.inl e))
  · rcases h.li k e with h' | h'
    · exact Or.inl (Or.inl (Or.inr h'))
    · exact Or.inr h'
theorem Rn.later (h : Rn w1 c u g n u1 t1 f wr) (hb : Below wr.heap.size wr w2) : Rn w1 c u g n u1 t1 f w2 :=
  ⟨h.tr.later hb, h.li, h.kp.belows hb, (hb.block g h.vs.lt).trans h.vs⟩
theorem Rn.drew (h : Rn w1 c u g n u1 t1 f wr) : Rn w1 c u g n u1 t1 f wr.drew := ⟨h.tr.drew, h.li, h.kp.drew, h.vs⟩
theorem Rn.after (h : Rn w1 c u g n u1 t1 f wr) (hb : Below w.heap.size w w1) (hg : w.heap.size ≤ g) : AfterR w c u t1 wr := by
  have hs := hb.size
  refine ⟨u1, h.tr, h.li.weak hs, (Kp.of_below (S := Fr c u) hb).trans h.kp ?_⟩
  rintro k (e | e)
  · exact Or.inl e
  · exact Or.inr (by omega)
/-- A row of numbers lies where nothing turns. -/
theorem Rn.cells {B : Nat} {l : List Nat} {p : Option Addr} {cp : Nat} (hI : IsI w1 B (.slice p l.length cp) l) (hl : l.length ≤ 9223372036854775807) (hF : ∀ k, Fr c u k → k < B) (hg : ∀ k, (Value.slice p l.length cp).ownBlock = some k → k ≠ g) (h : Rn w1 c u g n u1 t1 f wr) (k : Nat) (hk : k < l.length) :
    ∃ gb, p = some ⟨gb, 0, none⟩ ∧ wr.cell? ⟨gb, k, none⟩ = some (.int .i64 ((l[k] : Nat) : Int)) := by
  obtain ⟨p', c', hv, _, _, hcell⟩ := ints_cell hI
  obtain ⟨rfl, _, rfl⟩ := Value.slice.inj hv
  obtain ⟨gb, hp, hc⟩ := hcell (by omega)
  subst hp
  refine ⟨gb, rfl, h.kp.cell (hc k hk) ?_⟩
  rintro (e | e)
  · have := hF gb e
    have := (IsI.own_lt hI gb rfl).1
    omega
  · exact hg gb rfl e
end
end Go.Proofs.Ythfedlodikbdgaa
