/-
  A region that draws its order, by relations: what each operation leaves is told by what those leave that it waits for, and stays told while the others run. No condition.
-/
import Derived.Test.YtoedidbbjnnpnaaProg
import Derived.WalkKit
import Derived.ProofKit
import Derived.Orders
namespace Go.Proofs.Ytoedidbbjnnpnaa
open Go.RowKit
set_option linter.unusedSimpArgs false

section
variable {P : Program} {ops : Array Oper} {Q : Exit → Act → World → Prop} {md : Region.Mode}
def putAll : List (Option Tmp) → (Nat → Value) → Nat → Act → Act
  | [], _, _, a => a
  | d :: ds, vs, k, a => putAll ds vs (k + 1) (a.put d (vs k))
def somes (ds : List (Option Tmp)) : List Tmp := ds.filterMap id
def nodupB : List Nat → Bool
  | [] => true
  | x :: l => !l.contains x && nodupB l
theorem nodupB_nodup : ∀ (l : List Nat), nodupB l = true → l.Nodup
  | [], _ => List.nodup_nil
  | x :: l, h => by
    simp only [nodupB, Bool.and_eq_true, Bool.not_eq_true'] at h
    refine List.nodup_cons.2 ⟨fun hm => ?_, nodupB_nodup l h.2⟩
    have := h.1
    simp [hm] at this
def relOk (md : Region.Mode) (ops : Array Oper) (dsts : List (Option Tmp)) (needs : List (List Nat)) (n : Nat) : Bool :=
  decide (ops.toList.map (·.dst) = dsts) && nodupB (somes dsts) && (somes dsts).all (fun t => decide (t < n)) &&
  (List.range ops.size).all fun i => match ops[i]? with
    | some o => o.after.all (fun e => !Region.binds md e || decide (e.on < i)) && (needs.getD i []).all (fun j => o.after.any fun e => Region.binds md e && e.on == j)
    | none => true
def Got (a : Act) (d : Option Tmp) (v : Value) : Prop := match d with
  | some t => a.tmps[t]? = some v
  | none => True
structure Outs (dsts : List (Option Tmp)) (a0 a : Act) : Prop where
  df : a.defers = a0.defers
  sz : a.tmps.size = a0.tmps.size
  out : ∀ t, t ∉ somes dsts → a.tmps[t]? = a0.tmps[t]?
theorem mem_somes {ds : List (Option Tmp)} {t : Tmp} : t ∈ somes ds ↔ some t ∈ ds := by simp [somes]
theorem somes_cons_some (t : Tmp) (ds : List (Option Tmp)) : somes (some t :: ds) = t :: somes ds := rfl
theorem put_defers (a : Act) (d : Option Tmp) (v : Value) : (a.put d v).defers = a.defers := by cases d <;> rfl
theorem put_size (a : Act) (d : Option Tmp) (v : Value) : (a.put d v).tmps.size = a.tmps.size := by cases d <;> simp [Act.put]
theorem put_other (a : Act) (d : Option Tmp) (v : Value) {t : Tmp} (h : d ≠ some t) : (a.put d v).tmps[t]? = a.tmps[t]? := by
  cases d with
  | none => rfl
  | some d =>
    have hne : d ≠ t := fun e => h (by rw [e])
    simp [Act.put, Array.getElem?_setIfInBounds_ne hne]
theorem put_same (a : Act) {t : Tmp} (v : Value) (h : t < a.tmps.size) : (a.put (some t) v).tmps[t]? = some v := by simp [Act.put, h]
theorem putAll_defers : ∀ (ds : List (Option Tmp)) (vs : Nat → Value) (k : Nat) (a : Act), (putAll ds vs k a).defers = a.defers
  | [], _, _, _ => rfl
  | d :: ds, vs, k, a => (putAll_defers ds vs (k + 1) _).trans (put_defers a d _)
theorem putAll_out : ∀ (ds : List (Option Tmp)) (vs : Nat → Value) (k : Nat) (a : Act) (t : Tmp), t ∉ somes ds → (putAll ds vs k a).tmps[t]? = a.tmps[t]?
  | [], _, _, _, _, _ => rfl
  | d :: ds, vs, k, a, t, h => by
    have h1 : d ≠ some t := fun e => h (by subst e; rw [somes_cons_some]; exact List.mem_cons_self ..)
    have h2 : t ∉ somes ds := fun e => h (by cases d with | none => exact e | some x => rw [somes_cons_some]; exact List.mem_cons_of_mem _ e)
    exact (putAll_out ds vs (k + 1) _ t h2).trans (put_other a d _ h1)
theorem putAll_in : ∀ (ds : List (Option Tmp)) (vs : Nat → Value) (k : Nat) (a : Act), (somes ds).Nodup → ∀ (i : Nat) (t : Tmp), ds[i]? = some (some t) → t < a.tmps.size → (putAll ds vs k a).tmps[t]? = some (vs (k + i))
  | [], _, _, _, _, _, _, h, _ => by simp at h
  | d :: ds, vs, k, a, hn, 0, t, h, ht => by
    simp at h
    subst h
    rw [somes_cons_some] at hn
    show (putAll ds vs (k + 1) (a.put (some t) (vs k))).tmps[t]? = _
    rw [putAll_out ds vs (k + 1) _ t (List.nodup_cons.1 hn).1]
    exact put_same a _ ht
  | d :: ds, vs, k, a, hn, i + 1, t, h, ht => by
    have h' : ds[i]? = some (some t) := by simpa using h
    have hn' : (somes ds).Nodup := by cases d with | none => exact hn | some x => rw [somes_cons_some] at hn; exact (List.nodup_cons.1 hn).2
    have := putAll_in ds vs (k + 1) (a.put d (vs k)) hn' i t h' (by rw [put_size]; exact ht)
    rw [show k + 1 + i = k + (i + 1) by omega] at this
    exact this
theorem somes_inj : ∀ (ds : List (Option Tmp)), (somes ds).Nodup → ∀ (i j : Nat) (t : Tmp), ds[i]? = some (some t) → ds[j]? = some (some t) → i = j
  | [], _, _, _, _, h, _ => by simp at h
  | d :: ds, hn, 0, 0, t, _, _ => rfl
  | d :: ds, hn, 0, j + 1, t, h, h' => by
    simp at h
    subst h
    rw [somes_cons_some] at hn
    exact absurd (mem_somes.2 (List.mem_of_getElem? (by simpa using h'))) (List.nodup_cons.1 hn).1
  | d :: ds, hn, i + 1, 0, t, h, h' => by
    simp at h'
    subst h'
    rw [somes_cons_some] at hn
    exact absurd (mem_somes.2 (List.mem_of_getElem? (by simpa using h))) (List.nodup_cons.1 hn).1
  | d :: ds, hn, i + 1, j + 1, t, h, h' => by
    have hn' : (somes ds).Nodup := by cases d with | none => exact hn | some x => rw [somes_cons_some] at hn; exact (List.nodup_cons.1 hn).2
    rw [somes_inj ds hn' i j t (by simpa using h) (by simpa using h')]
theorem countP_set {l : Array Bool} {i : Nat} {n : Nat} (hi : i < n) (hl : l.size = n) (h : l.getD i true = false) :
    ((List.range n).countP fun j => !((l.setIfInBounds i true).getD j false)) + 1 ≤ (List.range n).countP fun j => !(l.getD j false) := by
  have key : ∀ (L : List Nat), L.Nodup → (L.countP fun j => !((l.setIfInBounds i true).getD j false)) + (if i ∈ L then 1 else 0) ≤ L.countP fun j => !(l.getD j false) := by
    intro L
    induction L with
    | nil => intro _; simp
    | cons x L ih =>
      intro hn
      have hx := List.nodup_cons.1 hn
      have ih' := ih hx.2
      rw [List.countP_cons, List.countP_cons]
      by_cases e : x = i
      · subst e
        have h1 : (l.setIfInBounds x true).getD x false = true := by simp [hl, hi]
        have h0 : l.getD x false = false := by
          have hx' : x < l.size := by omega
          simp [hx'] at h ⊢
          exact h
        rw [if_neg hx.1] at ih'
        rw [h1, h0]
        simp only [Bool.not_true, Bool.false_eq_true, if_false, List.mem_cons_self, if_true, Bool.not_false]
        omega
      · have h1 : (l.setIfInBounds i true).getD x false = l.getD x false := getD_set_ne false (fun e' => e e'.symm)
        rw [h1]
        have : (i ∈ x :: L) ↔ i ∈ L := ⟨fun h' => by rcases List.mem_cons.1 h' with h' | h'; exact absurd h'.symm e; exact h', fun h' => List.mem_cons_of_mem _ h'⟩
        simp only [this]
        omega
  have := key (List.range n) List.nodup_range
  rw [if_pos (List.mem_range.2 hi)] at this
  exact this
def AllLt : Nat → (Nat → Prop) → Prop
  | 0, _ => True
  | n + 1, p => AllLt n p ∧ p n
theorem allLt : ∀ (n : Nat) {p : Nat → Prop}, AllLt n p → ∀ i, i < n → p i
  | 0, _, _, i, h => absurd h (Nat.not_lt_zero i)
  | n + 1, p, h, i, hi => by
    by_cases e : i = n
    · subst e; exact h.2
    · exact allLt n h.1 i (by omega)
/-! ### One operation -/
section
variable {i : Nat} {o : Oper} {a : Act} {w : World} {K : Act → World → Prop}
theorem relVal (ho : ops[i]? = some o) (v : Value) (w' : World) (hg : o.guard = none) (hrun : (execOp a.eval o).run P w = .ok (.value v) w') (hK : K (a.put o.dst v) w') : wpOp P ops Q i K a w := by
  unfold wpOp
  simp only [ho]
  have hw : Region.wanted o (yielded ops a.tmps) = true := by simp [Region.wanted, hg]
  rw [if_pos hw]
  left
  unfold Oper.wp
  rw [hrun, Oper.upon_value]
  exact hK
theorem wanted_is {j t : Nat} {b want : Bool} (hg : o.guard = some (j, want)) (hj : (ops[j]?).bind (·.dst) = some t) (ht : a.tmps[t]? = some (.bool b)) : Region.wanted o (yielded ops a.tmps) = (b == want) := by
  have hy : yielded ops a.tmps j = some b := by
    unfold yielded
    rw [hj]
    show (match a.tmps[t]? with | some (.bool b) => some b | _ => none) = some b
    rw [ht]
  simp only [Region.wanted, hg, hy]
  cases b <;> cases want <;> rfl
theorem relNo (ho : ops[i]? = some o) (hw : Region.wanted o (yielded ops a.tmps) = false) (hK : K (a.put o.dst undef) w) : wpOp P ops Q i K a w := by
  unfold wpOp
  simp only [ho]
  rw [if_neg (by rw [hw]; simp)]
  exact hK
theorem relValW (ho : ops[i]? = some o) (v : Value) (w' : World) (hw : Region.wanted o (yielded ops a.tmps) = true) (hrun : (execOp a.eval o).run P w = .ok (.value v) w') (hK : K (a.put o.dst v) w') : wpOp P ops Q i K a w := by
  unfold wpOp
  simp only [ho]
  rw [if_pos hw]
  left
  unfold Oper.wp
  rw [hrun, Oper.upon_value]
  exact hK
theorem relCallW (ho : ops[i]? = some o) (hw : Region.wanted o (yielded ops a.tmps) = true) (f : FuncId) (x : Operand) (xs : List Operand) (ts : Array TypeId) (hop : o.op = Op.call { callee := Callee.value x, args := xs.toArray, argTypes := ts }) (vs cs : List Value) (hx : a.eval x = .func (.func f) #[] cs.toArray) (hv : xs.map a.eval = vs)
    (hcf : ∀ vs w, (callFunc f vs).run P w = .ok (.enter f vs) w) (h : Calls P f (vs ++ cs).toArray w fun e w' => ∃ v, e = .returned v ∧ K (a.put o.dst v) w') : wpOp P ops Q i K a w := by
  subst hv
  unfold wpOp
  simp only [ho]
  rw [if_pos hw]
  left
  have hrun : (execOp a.eval o).run P w = .ok (.enter f (xs.map a.eval ++ cs).toArray) w := by
    simp [execOp, hop, resolve, invoke, Deferred.ofValue, hx, hcf]
  unfold Oper.wp
  rw [hrun, Oper.upon_enter]
  refine h.mono ?_
  rintro e w' ⟨v, rfl, hK⟩
  exact hK
theorem relSkip (ho : ops[i]? = some o) (w' : World) (hg : o.guard = none) (hrun : (execOp a.eval o).run P w = .ok .skip w') (hK : K (a.put o.dst undef) w') : wpOp P ops Q i K a w := by
  unfold wpOp
  simp only [ho]
  have hw : Region.wanted o (yielded ops a.tmps) = true := by simp [Region.wanted, hg]
  rw [if_pos hw]
  left
  unfold Oper.wp
  rw [hrun, Oper.upon_skip]
  exact hK
theorem relCallF (ho : ops[i]? = some o) (hg : o.guard = none) (f : FuncId) (xs : List Operand) (ts : Array TypeId) (hop : o.op = Op.call { callee := Callee.value (Operand.func f), args := xs.toArray, argTypes := ts }) (vs : List Value) (hv : xs.map a.eval = vs)
    (hcf : ∀ vs w, (callFunc f vs).run P w = .ok (.enter f vs) w) (h : Calls P f vs.toArray w fun e w' => ∃ v, e = .returned v ∧ K (a.put o.dst v) w') : wpOp P ops Q i K a w := by
  subst hv
  unfold wpOp
  simp only [ho]
  have hw : Region.wanted o (yielded ops a.tmps) = true := by simp [Region.wanted, hg]
  rw [if_pos hw]
  left
  have hrun : (execOp a.eval o).run P w = .ok (.enter f (xs.map a.eval).toArray) w := by
    simp [execOp, hop, resolve, invoke, Deferred.ofValue, Act.eval, hcf]
  unfold Oper.wp
  rw [hrun, Oper.upon_enter]
  refine h.mono ?_
  rintro e w' ⟨v, rfl, hK⟩
  exact hK
end
end
end Go.Proofs.Ytoedidbbjnnpnaa
