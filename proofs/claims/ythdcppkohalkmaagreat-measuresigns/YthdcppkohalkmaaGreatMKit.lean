/-
  Maps whose keys are numbers, as functions; regions that draw their order, step by step; calls of function values. No condition.
-/
import Derived.Test.YthdcppkohalkmaaGreatFBelow
import Derived.Test.YthdcppkohalkmaaGreatMPure
import Derived.Deep.RegionHeld3
namespace Go.Proofs.YthdcppkohalkmaaGreat
open Go.RowKit Go.Maps
open Fm (Nd)

theorem Kp.mono {S S' : Nat → Prop} {w w' : World} (h : Kp S w w') (hS : ∀ k, S k → S' k) : Kp S' w w' := ⟨h.os, h.tape, h.output, h.size, fun k hk hn => h.block k hk fun h' => hn (hS k h')⟩
theorem Kp.cell {S : Nat → Prop} {w w' : World} (h : Kp S w w') {b o : Nat} {x : Value} (hc : w.cell? ⟨b, o, none⟩ = some x) (hn : ¬ S b) : w'.cell? ⟨b, o, none⟩ = some x := by
  have hlt : b < w.heap.size := World.block_lt_of_cell? w _ hc
  rw [← hc]
  exact World.cell?_of_block (a := ⟨b, o, none⟩) (h.block b hlt hn)
theorem Kp.then {S : Nat → Prop} {a b c : World} (h : Kp S a b) (k : Kp S b c) : Kp S a c := h.trans k fun _ h => Or.inl h
theorem Kp.belows {S : Nat → Prop} {a b c : World} (h : Kp S a b) (k : Below b.heap.size b c) : Kp S a c := h.then (Kp.of_below k)
theorem Kp.alloc {S : Nat → Prop} {a b : World} (h : Kp S a b) (o : Obj) : Kp S a (b.alloc o) := h.belows (below_alloc _ _)

/-! ### maps -/
def heldR : Value → Option (DataW Value × List MemPlace) := fun v => some (.held v, [])
def kI (i : Int) : Lit := .int .i64 i
theorem kI_key {i : Int} (h : Fm.i64 i) : keyOf Tryz.prog 3 (.int .i64 i) = some (kI i) := keyOf_int_mk Tryz.underlying3 (wf64 h)
theorem kI_lit {i : Int} (h : Fm.i64 i) : WideAt.IsKeyLit (kI i) := (int_keyed Tryz.underlying3).key (kI_key h)
theorem kI_inj {i j : Int} (h : kI i = kI j) : i = j := by unfold kI at h; cases h; rfl
def updM (g : Int → Option Value) (i : Int) (x : Value) : Int → Option Value := fun j => if j = i then some x else g j
/-- Block m is a map with at most n entries: what it holds at each number. -/
def Mp (w : World) (m n : Nat) (g : Int → Option Value) : Prop :=
  ∃ D : DataW Value, w.ownsMap Tryz.prog 3 heldR m n D ∧ ∀ i, Fm.i64 i → Maps.has D (kI i) = (g i).isSome ∧ ∀ z, D.atKey (kI i) z = ((g i).map DataW.held).getD z
section
variable {w w' : World} {m n : Nat} {g : Int → Option Value}
theorem mp_made (w : World) : Mp (w.alloc (.map #[] 0)) w.heap.size 0 (fun _ => none) :=
  ⟨.map [], World.ownsMap_made w _ _ _, fun i _ => ⟨by simp [Maps.has], fun z => rfl⟩⟩
theorem Mp.lt (h : Mp w m n g) : m < w.heap.size := by obtain ⟨D, hD, _⟩ := h; exact hD.lt
theorem Mp.keep (h : Mp w m n g) (hk : w'.heap[m]? = w.heap[m]?) : Mp w' m n g := by
  obtain ⟨D, ⟨es, cl, hb, r⟩, hg⟩ := h
  exact ⟨D, ⟨es, cl, hk.trans hb, r⟩, hg⟩
theorem Mp.later (h : Mp w m n g) (hb : Below w.heap.size w w') : Mp w' m n g := h.keep (hb.block m h.lt)
theorem Mp.mono (h : Mp w m n g) {n' : Nat} (hn : n ≤ n') : Mp w m n' g := by
  obtain ⟨D, hD, hg⟩ := h
  exact ⟨D, hD.mono hn, hg⟩
theorem Mp.look (h : Mp w m n g) {t e : TypeId} (ht : Tryz.prog.underlying t = some (.map 3 e)) {z : Value} (hz : (zeroValue e).run Tryz.prog w = .ok z w) {i : Int} (hi : Fm.i64 i) :
    (Instr.lookup t (.map (some m)) (.int .i64 i) true).run Tryz.prog w = .ok (.tuple #[(g i).getD z, .bool (g i).isSome]) w := by
  obtain ⟨D, hD, hg⟩ := h
  obtain ⟨v, ps, hr, hv⟩ := hD.look_ok (int_keyed Tryz.underlying3) ht hz (zd := .held z) (zp := []) rfl (kI_key hi)
  rw [hr, (hg i hi).1]
  have e1 : (DataW.held v : DataW Value) = D.atKey (kI i) (.held z) := by
    unfold heldR at hv
    exact congrArg Prod.fst (Option.some.inj hv)
  rw [(hg i hi).2] at e1
  cases hx : g i with
  | none => rw [hx] at e1; cases e1; rfl
  | some x => rw [hx] at e1; cases e1; rfl
theorem Mp.look1 (h : Mp w m n g) {t e : TypeId} (ht : Tryz.prog.underlying t = some (.map 3 e)) {z : Value} (hz : (zeroValue e).run Tryz.prog w = .ok z w) {i : Int} (hi : Fm.i64 i) :
    (Instr.lookup t (.map (some m)) (.int .i64 i) false).run Tryz.prog w = .ok ((g i).getD z) w := by
  obtain ⟨D, hD, hg⟩ := h
  obtain ⟨v, ps, hr, hv⟩ := hD.lookup (int_keyed Tryz.underlying3) ht hz (zd := .held z) (zp := []) rfl (kI_key hi)
  rw [hr]
  have e1 : (DataW.held v : DataW Value) = D.atKey (kI i) (.held z) := by
    unfold heldR at hv
    exact congrArg Prod.fst (Option.some.inj hv)
  rw [(hg i hi).2] at e1
  cases hx : g i with
  | none => rw [hx] at e1; cases e1; rfl
  | some x => rw [hx] at e1; cases e1; rfl
theorem Mp.put (h : Mp w m n g) {t e : TypeId} (ht : Tryz.prog.underlying t = some (.map 3 e)) (hn : n < maxLen) {i : Int} (hi : Fm.i64 i) (x : Value) :
    ∃ w', (Instr.mapUpdate t (.map (some m)) (.int .i64 i) x).run Tryz.prog w = .ok () w' ∧ Mp w' m (n + 1) (updM g i x) ∧ Kp (fun k => k = m) w w' := by
  obtain ⟨D, hD, hg⟩ := h
  obtain ⟨w', hr, ho, hgr⟩ := hD.update (int_keyed Tryz.underlying3) ht hn (kI_key hi) (val := x) (d := .held x) (ps := []) rfl
  refine ⟨w', hr, ⟨_, ho, fun j hj => ?_⟩, ⟨hgr.os, hgr.tape, hgr.output, hgr.size, fun k hk hne => hgr.block k hk (fun e => hne (Option.some.inj e))⟩⟩
  unfold updM
  by_cases e : j = i
  · subst e
    rw [if_pos rfl]
    exact ⟨has_put_same hD.isMap (kI_lit hi) _, fun z => atKey_put_same hD.isMap (kI_lit hi) _ _⟩
  · rw [if_neg e]
    have hne : kI j ≠ kI i := fun h => e (kI_inj h)
    exact ⟨(has_put_other hne _).trans (hg j hj).1, fun z => (atKey_put_other hne _ _).trans ((hg j hj).2 z)⟩
theorem own_sz {w : World} {m n : Nat} {D : DataW Value} (h : w.ownsMap Tryz.prog 3 heldR m n D) : w.ownsMap Tryz.prog 3 heldR m (Maps.size D) D := by
  obtain ⟨es, clock, hb, F, _, rfl⟩ := h
  refine ⟨es, clock, hb, F, ?_, rfl⟩
  simp [Maps.size, length_sorted]
/-- .. and no entry more where the number was there. -/
theorem Mp.put2 (h : Mp w m n g) {t e : TypeId} (ht : Tryz.prog.underlying t = some (.map 3 e)) (hn : n < maxLen) {i : Int} (hi : Fm.i64 i) (x : Value) :
    ∃ w', (Instr.mapUpdate t (.map (some m)) (.int .i64 i) x).run Tryz.prog w = .ok () w' ∧ Mp w' m (n + if (g i).isSome then 0 else 1) (updM g i x) ∧ Kp (fun k => k = m) w w' := by
  obtain ⟨w', hr, hM, hK⟩ := h.put ht hn hi x
  refine ⟨w', hr, ?_, hK⟩
  obtain ⟨D, hD, hg⟩ := h
  obtain ⟨w2, hr2, ho, hgr⟩ := hD.update (int_keyed Tryz.underlying3) ht hn (kI_key hi) (val := x) (d := .held x) (ps := []) rfl
  rw [hr] at hr2
  obtain rfl : w' = w2 := by injection hr2
  have hsz := size_put (k := kI i) (hD.tidy (int_keyed Tryz.underlying3)) (.held x)
  have hle := hD.size_le
  rw [(hg i hi).1] at hsz
  refine ⟨_, (own_sz ho).mono (by rw [hsz]; split <;> omega), fun j hj => ?_⟩
  unfold updM
  by_cases e : j = i
  · subst e
    rw [if_pos rfl]
    exact ⟨has_put_same hD.isMap (kI_lit hi) _, fun z => atKey_put_same hD.isMap (kI_lit hi) _ _⟩
  · rw [if_neg e]
    have hne : kI j ≠ kI i := fun h => e (kI_inj h)
    exact ⟨(has_put_other hne _).trans (hg j hj).1, fun z => (atKey_put_other hne _ _).trans ((hg j hj).2 z)⟩
/-- 'm[k] = v' at the operation. -/
theorem wpList_put {ops : Array Oper} {rest : List Oper} {o : Oper} {a : Act} {Q : Exit → Act → World → Prop} (hgd : o.guard = none) (om ox ov : Operand) (t : TypeId) (hop : o.op = Op.mapUpdate t om ox ov) (e : TypeId) (ht : Tryz.prog.underlying t = some (.map 3 e))
    (m n : Nat) (g : Int → Option Value) (hM : Mp w m n g) (hn : n < maxLen) (i : Int) (hi : Fm.i64 i) (x : Value) (hm : a.eval om = .map (some m)) (hx : a.eval ox = .int .i64 i) (hv : a.eval ov = x)
    (hK : ∀ w', Mp w' m (n + 1) (updM g i x) → Kp (fun k => k = m) w w' → wpList Tryz.prog ops Q rest (a.put o.dst undef) w') : wpList Tryz.prog ops Q (o :: rest) a w := by
  refine wpList_plain hgd fun K' hK' => ?_
  obtain ⟨w', hrun, r1, r2⟩ := hM.put ht hn hi x
  unfold Oper.wp
  simp [execOp, hop, hm, hx, hv, hrun, Result.andThen]
  exact hK' _ _ (hK w' r1 r2)
end

/-! ### regions that draw their order -/
section
variable {ops : Array Oper} {Q : Exit → Act → World → Prop} {S : World → Prop} {fuel : Nat} {listed : Array Bool} {a : Act} {w : World}
theorem takeV (i : Nat) (d : Option Tmp) {oi : Oper} (v : Value) (hi : ops[i]? = some oi) (hd : oi.dst = d) (hs : Region.noSelect ops = true) (hf : Region.free .any ops listed i = true) (hr : (Region.ready .any ops listed).contains i = true)
    (hQ : ∀ c a w, Q (.panic c) (a.put d v) w → Q (.panic c) a w) (hw : Region.wanted oi (yielded ops a.tmps) = true) (hrun : ∀ w, S w → (execOp a.eval oi).run Tryz.prog w = .ok (.value v) w) (hSw : S w)
    (h : wpAnyH Tryz.prog .any ops Q S fuel (listed.setIfInBounds i true) (a.put d v) w) : wpAnyH Tryz.prog .any ops Q S (fuel + 1) listed a w := by
  subst hd
  exact wpAnyH_take hi hs hf hr hQ (.inl ⟨hw, fun w hw' => hrun w hw'⟩) hSw h
/-- The one call of a function value that may come up. -/
theorem takeF (i : Nat) (d : Option Tmp) {oi : Oper} (hr : Region.ready .any ops listed = [i]) (hi : ops[i]? = some oi) (hd : oi.dst = d) (hw : Region.wanted oi (yielded ops a.tmps) = true) (f : FuncId) (x : Operand) (xs : List Operand) (ts : Array TypeId) (ho : oi.op = Op.call { callee := Callee.value x, args := xs.toArray, argTypes := ts }) (vs cs : List Value) (hx : a.eval x = .func (.func f) #[] cs.toArray) (hv : xs.map a.eval = vs)
    (hcf : ∀ vs w, (callFunc f vs).run Tryz.prog w = .ok (.enter f vs) w)
    (h : Calls Tryz.prog f (vs ++ cs).toArray w fun e w' => ∃ v, e = .returned v ∧ S w' ∧ (S w' → wpAnyH Tryz.prog .any ops Q S fuel (listed.setIfInBounds i true) (a.put d v) w')) : wpAnyH Tryz.prog .any ops Q S (fuel + 1) listed a w := by
  subst hd
  subst hv
  refine wpAnyH_ready hr (by simp) (AllReadyH.cons hi (fun K hK => ?_) AllReadyH.nil)
  rw [if_pos hw]
  have hrun : (execOp a.eval oi).run Tryz.prog w = .ok (.enter f (xs.map a.eval ++ cs).toArray) w := by
    simp [execOp, ho, resolve, invoke, Deferred.ofValue, hx, hcf]
  unfold Oper.wp
  rw [hrun, Oper.upon_enter]
  refine h.mono ?_
  rintro e w' ⟨v, rfl, hS, hn⟩
  exact hK.out _ _ hS hn
end
theorem load_cell {w : World} {ty : TypeId} {a : Addr} {v : Value} (h : ∀ w : World, w.cell? a = some v → (Instr.loadAt ty (.pointer (some a))).run Tryz.prog w = .ok v w) (hc : w.cell? a = some v) {ρ : Operand → Value} {o : Oper} {x : Operand} (ho : o.op = .load ty x) (hx : ρ x = .pointer (some a)) : (execOp ρ o).run Tryz.prog w = .ok (.value v) w := by
  simp [execOp, ho, hx, h w hc, Result.andThen]
end Go.Proofs.YthdcppkohalkmaaGreat
