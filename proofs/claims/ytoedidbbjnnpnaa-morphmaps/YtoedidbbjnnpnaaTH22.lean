/-
  The document's Root: of any model. No condition.
-/
import Derived.Test.YtoedidbbjnnpnaaQWRight
import Derived.Test.YtoedidbbjnnpnaaQWSame
import Derived.Test.YtoedidbbjnnpnaaQMHead
namespace Go.Proofs.Ytoedidbbjnnpnaa.Wm
open Go.RowKit Go.Maps
open Wd (Md allW inW names Sub Rc vl)
set_option linter.unusedSimpArgs false

theorem allTo_step (p : Nat → Bool) (k : Nat) : (List.range (k + 1)).all p = ((List.range k).all p && p k) := by
  rw [List.range_succ, List.all_append]
  simp
end Go.Proofs.Ytoedidbbjnnpnaa.Wm
/-
  Heights, plain: they are there, and reckoned turn by turn. No condition.
-/
namespace Go.Proofs.Ytoedidbbjnnpnaa.Wm
open Wd (Md Rc upd)

def hF (M : Nat → Nat → Bool) (n : Nat) : Nat → Nat → Nat
  | 0, _ => 0
  | f + 1, a => mxL (hF M n f) (numsTo (ovP M a) n) + 1
section
variable {M : Nat → Nat → Bool} {n : Nat}
theorem mem_ov {a b : Nat} : b ∈ numsTo (ovP M a) n ↔ b < n ∧ b ≠ a ∧ M a b = true := by
  unfold numsTo ovP
  rw [List.mem_filter, List.mem_range]
  simp only [Bool.and_eq_true, decide_eq_true_eq, Int.toNat_natCast]
  constructor
  · rintro ⟨h1, h2, h3⟩
    exact ⟨h1, fun e => h2 (by rw [e]), h3⟩
  · rintro ⟨h1, h2, h3⟩
    exact ⟨h1, fun e => h2 (by omega), h3⟩
theorem mxL_congr {h h' : Nat → Nat} : ∀ {l : List Nat} (m : Nat), (∀ v ∈ l, h v = h' v) → l.foldl (fun m v => max m (h v)) m = l.foldl (fun m v => max m (h' v)) m
  | [], _, _ => rfl
  | x :: r, m, e => by
    rw [List.foldl_cons, List.foldl_cons, e x (List.mem_cons_self)]
    exact mxL_congr _ fun v hv => e v (List.mem_cons_of_mem _ hv)
theorem mxL_eq {h h' : Nat → Nat} {l : List Nat} (e : ∀ v ∈ l, h v = h' v) : mxL h l = mxL h' l := mxL_congr 0 e
def rk (M : Nat → Nat → Bool) (n a : Nat) : Nat := (numsTo (ovP M a) n).length
structure Tn (M : Nat → Nat → Bool) (n : Nat) (h hv : Nat → Nat) (t k : Nat) : Prop where
  or : ∀ a, a < n → hv a = 0 ∨ hv a = h a
  all : ∀ a, a < n → h a ≤ t → hv a = h a
  now : ∀ a, a < k → h a ≤ t + 1 → hv a = h a
theorem Tn.skip {h hv : Nat → Nat} {t k : Nat} (T : Tn M n h hv t k) (hk : k < n) (hs : hv k ≠ 0) : Tn M n h hv t (k + 1) :=
  ⟨T.or, T.all, fun a ha h0 => by
    by_cases e : a = k
    · subst e
      exact (T.or a hk).resolve_left hs
    · exact T.now a (by omega) h0⟩
theorem Tn.set {h hv : Nat → Nat} {t k : Nat} (hg : Hg M n h) (T : Tn M n h hv t k) (hk : k < n) (hr : ∀ b ∈ numsTo (ovP M k) n, hv b ≠ 0) : mxL hv (numsTo (ovP M k) n) + 1 = h k ∧ Tn M n h (upd hv k (mxL hv (numsTo (ovP M k) n) + 1)) t (k + 1) := by
  have e : mxL hv (numsTo (ovP M k) n) + 1 = h k := by
    rw [hg.eq k hk, mxL_eq (h := hv) (h' := h)]
    intro b hb
    exact (T.or b (mem_ov.1 hb).1).resolve_left (hr b hb)
  refine ⟨e, ?_⟩
  rw [e]
  refine ⟨fun a ha => ?_, fun a ha h0 => ?_, fun a ha h0 => ?_⟩
  · by_cases e : a = k
    · subst e; rw [Wd.upd_same]; exact Or.inr rfl
    · rw [Wd.upd_other _ _ _ e]; exact T.or a ha
  · by_cases e : a = k
    · subst e; rw [Wd.upd_same]
    · rw [Wd.upd_other _ _ _ e]; exact T.all a ha h0
  · by_cases e : a = k
    · subst e; rw [Wd.upd_same]
    · rw [Wd.upd_other _ _ _ e]; exact T.now a (by omega) h0
theorem Tn.done {h hv : Nat → Nat} (T : Tn M n h hv n 0) (hl : ∀ a, a < n → h a ≤ n) : ∀ a, a < n → hv a = h a := fun a ha => T.all a ha (hl a ha)
end
end Go.Proofs.Ytoedidbbjnnpnaa.Wm
/-
  The document's ready, Heights, Height: of any model. No condition.
-/
namespace Go.Proofs.Ytoedidbbjnnpnaa.Wm
open Go.RowKit Go.Maps
open Wd (Md allW inW names Sub Rc vl upd)
set_option linter.unusedSimpArgs false

def Oc (w : World) (O n : Nat) (Ra : Nat → Nat) (M : Nat → Nat → Bool) : Prop := ∀ a, a < n → w.cell? ⟨O, a, none⟩ = some (.slice (some ⟨Ra a, 0, none⟩) n n) ∧ ∀ b, b < n → w.cell? ⟨Ra a, b, none⟩ = some (.bool (M a b))
theorem Ob.oc {w : World} {B O n : Nat} {Ra : Nat → Nat} {M : Nat → Nat → Bool} (h : Ob w B O n n Ra M) : Oc w O n Ra M := fun a ha => ⟨(h.out.cell ha).trans (by rw [if_pos ha]), fun _ hb => (h.row a ha).1.cell hb⟩
end Go.Proofs.Ytoedidbbjnnpnaa.Wm
/-
  'append([]T{}, l...)' within a statement that adds a row: what stands and how an operation turns memory. No condition.
-/
namespace Go.Proofs.Ytoedidbbjnnpnaa.Wm
open Go.RowKit Go.Maps
open Wd (Md)
set_option linter.unusedSimpArgs false

theorem run_copyE {α : Type} (W : World) (T TE : TypeId) (ty : TypeId) (bytes : Nat) {z : Value} (hu : Try.prog.underlying T = some (.slice TE)) (hinfo : (Try.prog.info? TE).map (fun i => (i.zero, i.size, i.bytes)) = some (some z, 1, bytes)) (hzc : z.cells.size = 1) (enc : α → Value) (h1 : ∀ a, (enc a).oneCell' = true) (q base : Nat) (hq : W.heap[q]? = some (.cells #[] TE (0, 0))) (hbq : base ≤ q) {L : Nat} {v : Value} {l : List α} (hs : IsS W L (fun a x => x = enc a) v l) (hb : l.length * bytes ≤ 140737488355328) (hm : l.length ≤ maxLen) :
    ∃ v' W', (Builtin.append_ #[T, T] ty #[.slice (some ⟨q, 0, none⟩) 0 0, v]).run Try.prog W = .ok v' W' ∧ W'.ownsRow base TE 1 v' l.length (l.map enc) ∧ Below W.heap.size W W' := by
  obtain ⟨i0, hi, hz0, hz1, hz2⟩ := info_parts hinfo
  obtain ⟨p, c, rfl, hat⟩ := hs
  have hown : W.ownsRow base TE 1 (.slice (some ⟨q, 0, none⟩) 0 0) 0 [] := ⟨rfl, .inr ⟨q, 0, #[], rfl, hbq, hq, Nat.le_refl _, Nat.zero_le _, rfl, rfl⟩⟩
  cases l with
  | nil =>
    refine ⟨.slice (some ⟨q, 0, none⟩) 0 0, W, ?_, hown, Below.refl _ _⟩
    cases p with
    | none => simp [Builtin.append_, run_underlying hu, sizeOf, typeInfo, hi, Builtin.lenOf, Builtin.firstCells, storeCells]
    | some a => simp [Builtin.append_, run_underlying hu, sizeOf, typeInfo, hi, Builtin.lenOf, Builtin.firstCells, loadCells, loadCellsFrom, storeCells]
  | cons x0 l0 =>
    obtain ⟨b, o, hbL, rfl, hc⟩ := hat (by simp)
    have hl : ((x0 :: l0).map enc).length = (x0 :: l0).length * 1 := by simp
    have hnews : ∀ j u, ((x0 :: l0).map enc)[j]? = some u → W.cell? ((⟨b, o, none⟩ : Addr).add j) = some u := fun j u hj => by
      obtain ⟨hlt, rfl⟩ := List.getElem?_eq_some_iff.1 hj
      obtain ⟨x, hx, e⟩ := hc j (by simpa using hlt)
      rw [List.getElem_map]
      have hx2 : x = enc (x0 :: l0)[j] := e
      rw [hx2] at hx
      by_cases hj0 : j = 0
      · subst hj0
        simpa [Addr.add] using hx
      · simpa [Addr.add, hj0] using hx
    have hone : ∀ u ∈ (x0 :: l0).map enc, u.oneCell' = true := fun u hu => by
      obtain ⟨n, _, rfl⟩ := List.mem_map.1 hu
      exact h1 n
    obtain ⟨v', W', hr, ho, _, _⟩ := run_append_own_at (P := Try.prog) W base T ty TE i0 z 1 bytes hu hi hz0 hz1 hz2 hzc (by decide) _ 0 [] hown ⟨b, o, none⟩ (x0 :: l0).length c _ hl hnews hone (by omega) (by rw [Nat.zero_add]; exact hb) (Nat.le_trans hbq (Nat.le_of_lt (lt_of_block hq)))
    rw [Nat.zero_add, List.nil_append] at ho
    refine ⟨v', W', hr, ho, ?_⟩
    have hr2 := run_append_grow (P := Try.prog) W T ty TE i0 z hu hi hz0 ⟨q, 0, none⟩ 0 0 [] (by simp) (fun j u h => by simp at h) ⟨b, o, none⟩ (x0 :: l0).length c _ (by rw [hz1]; exact hl) hnews (by simp) (by unfold maxLen at hm; omega) (growslice_fits (by simp) (by rw [hz2, Nat.zero_add]; exact hb))
    rw [hr] at hr2
    injection hr2 with _ e
    rw [e]
    exact (Below.refl _ _).drew.trans (below_alloc W.drew _)
def LeC (w7 : World) (b6 : Nat) (i : Nat) (W W' : World) : Prop := i < 13 ∧ (i ≠ 12 → i ≠ 10 → Below W.heap.size W W') ∧ (i = 10 → ∀ k, w7.heap.size ≤ k → k < W.heap.size → W'.heap[k]? = W.heap[k]?) ∧ (i = 12 → Kp (fun k => k = b6) W W')
theorem LeC.fresh {w7 W W' : World} {b6 i k : Nat} (h : LeC w7 b6 i W W') (hb : b6 < w7.heap.size) (hk : w7.heap.size ≤ k) (hl : k < W.heap.size) : W'.heap[k]? = W.heap[k]? := by
  by_cases e7 : i = 12
  · exact (h.2.2.2 e7).block k hl (by omega)
  · by_cases e5 : i = 10
    · exact h.2.2.1 e5 k hk hl
    · exact (h.2.1 e7 e5).block k hl
theorem LeC.own {w7 W W' : World} {b6 i n : Nat} {e : TypeId} {v : Value} {xs : List Value} (h : LeC w7 b6 i W W') (hb : b6 < w7.heap.size) (ho : W.ownsRow w7.heap.size e 1 v n xs) : W'.ownsRow w7.heap.size e 1 v n xs := own_kp ho fun _ _ hk hc _ => h.fresh hb hk (lt_of_block hc)
theorem bs0I (w : World) : (Instr.buildSlice 27 0 #[]).run Try.prog w = .ok (.slice (some ⟨w.heap.size, 0, none⟩) 0 0) (w.alloc (.cells #[] 3)) := by kernel_rfl
theorem bs0S (w : World) : (Instr.buildSlice 34 0 #[]).run Try.prog w = .ok (.slice (some ⟨w.heap.size, 0, none⟩) 0 0) (w.alloc (.cells #[] 9)) := by kernel_rfl
end Go.Proofs.Ytoedidbbjnnpnaa.Wm
/-
  'append([]int{}, l...)' as an operation of its own; what the two Boundeds tell is one. No condition.
-/
namespace Go.Proofs.Ytoedidbbjnnpnaa.Wm
open Go.RowKit Go.Maps
open Wd (Md)
set_option linter.unusedSimpArgs false

theorem infoIc : (Try.prog.info? 3).map (fun i => (i.zero, i.size, i.bytes)) = some (some (.int .i64 0), 1, 8) := by kernel_rfl
theorem wpList_bs0I {ops : Array Oper} {rest : List Oper} {o : Oper} {a : Act} {Q : Exit → Act → World → Prop} {w : World} (hop : o.op = Op.buildSlice 27 0 #[]) (hg : Region.wanted o (yielded ops a.tmps) = true)
    (hK : ∀ w' q, New w w' q #[] 3 → wpList Try.prog ops Q rest (a.put o.dst (.slice (some ⟨q, 0, none⟩) 0 0)) w') : wpList Try.prog ops Q (o :: rest) a w := by
  refine wpList_want hg fun K' hK' => ?_
  have hrun : (execOp a.eval o).run Try.prog w = .ok (.value (.slice (some ⟨w.heap.size, 0, none⟩) 0 0)) (w.alloc (.cells #[] 3)) := by
    simp [execOp, hop, bs0I, Result.andThen]
  unfold Oper.wp
  rw [hrun, Oper.upon_value]
  exact hK' _ _ (hK _ _ (new_alloc w _ _))
theorem wpList_cpyI {ops : Array Oper} {rest : List Oper} {o : Oper} {a : Act} {Q : Exit → Act → World → Prop} {w : World} (s x : Operand) (hop : o.op = Op.call { callee := Callee.builtin Builtin.append, args := #[s, x], argTypes := #[27, 27] }) (hg : Region.wanted o (yielded ops a.tmps) = true)
    (q base : Nat) (hs : a.eval s = .slice (some ⟨q, 0, none⟩) 0 0) (hq : Cl w q #[] 3) (hbq : base ≤ q) (v : Value) (hx : a.eval x = v) {L : Nat} {l : List Int} (hl : IsI w L v l) (hb : l.length * 8 ≤ 140737488355328)
    (hK : ∀ p c w', w'.ownsRow base 3 1 (.slice p l.length c) l.length (l.map (Value.int .i64)) → Below w.heap.size w w' → wpList Try.prog ops Q rest (a.put o.dst (.slice p l.length c)) w') : wpList Try.prog ops Q (o :: rest) a w := by
  obtain ⟨v', W', hrun0, ho, hbel⟩ := run_copyE (α := Int) w 27 3 o.type 8 Try.underlying27 infoIc rfl (Value.int .i64) (fun _ => rfl) q base hq hbq (L := L) (v := v) (l := l) hl hb (by unfold maxLen; omega)
  obtain ⟨p, c, rfl⟩ := own_form ho
  refine wpList_want hg fun K' hK' => ?_
  have hrun : (execOp a.eval o).run Try.prog w = .ok (.value (.slice p l.length c)) W' := by
    simp [execOp, hop, hs, hx, resolve, invoke, builtin, hrun0, Result.andThen]
  unfold Oper.wp
  rw [hrun, Oper.upon_value]
  exact hK' _ _ (hK p c W' ho hbel)
theorem own_isI {base : Nat} {w : World} {v : Value} {l : List Int} (h : w.ownsRow base 3 1 v l.length (l.map (Value.int .i64))) : IsI w w.heap.size v l := by
  rcases h.2 with ⟨rfl, h0⟩ | ⟨g, cap, cur, rfl, hg, hh, h1, h2, h3, h4⟩
  · obtain rfl : l = [] := List.eq_nil_of_length_eq_zero h0
    exact ⟨_, _, rfl, fun h => absurd h (by simp)⟩
  · refine ⟨_, _, rfl, fun h0 => ⟨g, 0, lt_of_block hh, rfl, fun k hk => ?_⟩⟩
    have hc := World.ownsRow.cellAt h k (by omega)
    rw [Nat.zero_add]
    exact ⟨.int .i64 l[k], hc.trans (by simp [hk]), rfl⟩
theorem bdR_det {m n : Md} {fl : List Int} {r r' : Bool} {er er' : Int} (h : BdR m n fl r er) (h' : BdR m n fl r' er') : r = r' ∧ er = er' := by
  rcases h with ⟨h1, h2, h3⟩ | ⟨h1, h2, h3, h4⟩ | ⟨h1, h2, h3, h4⟩ <;> rcases h' with ⟨k1, k2, k3⟩ | ⟨k1, k2, k3, k4⟩ | ⟨k1, k2, k3, k4⟩
  · exact ⟨h2.trans k2.symm, h3.trans k3.symm⟩
  · exact absurd k1 h1
  · exact absurd k1 h1
  · exact absurd h1 k1
  · exact ⟨h3.trans k3.symm, h4.trans k4.symm⟩
  · rw [h2] at k2; cases k2
  · exact absurd h1 k1
  · rw [h2] at k2; cases k2
  · exact ⟨Bool.eq_iff_iff.2 (h3.trans k3.symm), h4.trans k4.symm⟩
end Go.Proofs.Ytoedidbbjnnpnaa.Wm
