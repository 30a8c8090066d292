/-
  The call Cut of a table: for every number. No condition.
-/
import Derived.Test.YtkpbpecikibohaaDoorFBelow
namespace Go.Proofs.YtkpbpecikibohaaDoor
open Go.RowKit Go.Maps
open Fm (Nd)

structure TiedC (D : DataW Unit) (t : List Nd) (j i : Nat) : Prop where
  map : IsMap D
  tidy : Tidy D
  size : Maps.size D + i = t.length + j
  has : ∀ n, Fm.good n → Maps.has D (kl n) = decide (n ∈ t.take j ∨ n ∈ t.drop i)
  num : ∀ n, Fm.good n → n ∈ t.take j → ∀ z, D.atKey (kl n) z = .lit (.int .i64 (t.idxOf n : Int))
theorem tiedC_start {D : DataW Unit} {t : List Nd} (h : Tied D t) (j : Nat) : TiedC D t j j := by
  refine ⟨h.map, h.tidy, by rw [h.size], fun n hn => ?_, fun n hn hm => h.num n hn (List.mem_of_mem_take hm)⟩
  rw [h.has n hn]
  congr 1
  rw [← List.mem_append, List.take_append_drop]
theorem tiedC_end {D : DataW Unit} {t : List Nd} {j : Nat} (h : TiedC D t j t.length) (hj : j ≤ t.length) : Tied D (t.take j) := by
  refine ⟨h.map, h.tidy, by have := h.size; rw [List.length_take]; omega, fun n hn => ?_, fun n hn hm z => ?_⟩
  · rw [h.has n hn]
    simp
  · rw [h.num n hn hm]
    congr 3
    have e : t = t.take j ++ t.drop j := (List.take_append_drop j t).symm
    conv => lhs; rw [e, List.idxOf_append, if_pos hm]
theorem tiedC_step {D : DataW Unit} {t : List Nd} {j i : Nat} (h : TiedC D t j i) (hok : Fm.Ok t) (hi : i < t.length) (hji : j ≤ i) : TiedC (D.del (kl t[i])) t j (i + 1) := by
  have hg : Fm.good t[i] := hok.gd _ (List.getElem_mem hi)
  have hdrop : t.drop i = t[i] :: t.drop (i + 1) := List.drop_eq_getElem_cons hi
  have hpw := List.pairwise_iff_getElem.1 hok.nd
  have hnt : t[i] ∉ t.take j := fun hm => by
    obtain ⟨a, ha, e⟩ := List.mem_iff_getElem.1 hm
    rw [List.length_take] at ha
    rw [List.getElem_take] at e
    exact hpw a i (by omega) hi (by omega) e
  have hnd : t[i] ∉ t.drop (i + 1) := fun hm => by
    obtain ⟨a, ha, e⟩ := List.mem_iff_getElem.1 hm
    rw [List.length_drop] at ha
    rw [List.getElem_drop] at e
    exact hpw i (i + 1 + a) hi (by omega) (by omega) e.symm
  have hhas : Maps.has D (kl t[i]) = true := by
    rw [h.has _ hg]
    exact decide_eq_true (Or.inr (by rw [hdrop]; exact List.mem_cons_self))
  have hdi : ∀ n, n ≠ t[i] → (n ∈ t.drop i ↔ n ∈ t.drop (i + 1)) := fun n e => by
    rw [hdrop]
    exact ⟨fun h => (List.mem_cons.1 h).resolve_left e, List.mem_cons_of_mem _⟩
  refine ⟨h.map.del _, h.tidy.del _, ?_, fun n hn => ?_, fun n hn hm z => ?_⟩
  · have h1 := size_del h.tidy (k := kl t[i])
    rw [hhas] at h1
    simp only [if_true] at h1
    have := h.size
    omega
  · by_cases e : n = t[i]
    · subst e
      rw [has_del_same]
      simp [hnt, hnd]
    · rw [has_del_other (fun e' => e (key_inj hn hg e')), h.has n hn]
      simp only [hdi n e]
  · have e : n ≠ t[i] := fun e => hnt (e ▸ hm)
    rw [atKey_del_other (fun e' => e (key_inj hn hg e'))]
    exact h.num n hn hm z
theorem step_delete_nd {ops : Array Oper} {o : Oper} {a : Act} {w : World} {K : Act → World → Prop} {Q : Exit → Act → World → Prop} {E : Prop}
    (hg : o.guard = none) (mo xo : Operand) (hop : o.op = Op.call { callee := Callee.builtin Builtin.delete, args := #[mo, xo], argTypes := #[42, 54] })
    (m : Nat) (D : DataW Unit) (hown : ownsM w m D) (n : Nd) (hn : Fm.good n) (hm : a.eval mo = .map (some m)) (hx : a.eval xo = ndV n)
    (hK : ∀ w', ownsM w' m (D.del (kl n)) → w.grownBy w' (some m) → K (a.put o.dst (.tuple #[])) w') :
    if Region.wanted o (yielded ops a.tmps) = true then Oper.wp Tryd.prog o a w K Q else E := by
  have hw : Region.wanted o (yielded ops a.tmps) = true := by simp [Region.wanted, hg]
  rw [if_pos hw]
  obtain ⟨w', hrun, r1, r2⟩ := hown.drop law Tryd.underlying42 (key_nd hn) o.type
  unfold Oper.wp
  simp [execOp, hop, resolve, invoke, builtin, hm, hx, hrun, Result.andThen]
  exact hK w' (own_size r1) r2.grown
theorem zero_node (w : World) : (zeroValue 54).run Tryd.prog w = .ok (.agg #[.int .i64 0, .string ⟨#[]⟩, .int .i64 0, .int .i64 0]) w := by kernel_rfl
theorem zeros_one (n : Nat) : ∀ u ∈ (Builtin.zeroCells #[.int .i64 0, .string ⟨#[]⟩, .int .i64 0, .int .i64 0] n).toList, u.oneCell' = true := by
  intro u hu
  unfold Builtin.zeroCells at hu
  simp at hu
  obtain ⟨a, _, rfl⟩ := hu
  have h4 : a % 4 = 0 ∨ a % 4 = 1 ∨ a % 4 = 2 ∨ a % 4 = 3 := by omega
  rcases h4 with h4 | h4 | h4 | h4 <;> rw [h4] <;> rfl
theorem run_clear_rw (w : World) (ty : TypeId) (g j n c : Nat) (cur : Array Value) (hg : w.heap[g]? = some (.cells cur 54 (0, 0))) (hb : (j + (n + 1)) * 4 ≤ cur.size) :
    ∃ w' cur', (Builtin.clear_ #[22] ty #[.slice (some ⟨g, j * 4, none⟩) (n + 1) c]).run Tryd.prog w = .ok (.tuple #[]) w' ∧ w'.heap[g]? = some (.cells cur' 54 (0, 0)) ∧ cur'.size = cur.size ∧ cur'.toList.take (j * 4) = cur.toList.take (j * 4) ∧ w.grownBy w' (some g) := by
  have hsz : (Builtin.zeroCells #[.int .i64 0, .string ⟨#[]⟩, .int .i64 0, .int .i64 0] (n + 1)).toList.length = (n + 1) * 4 := by
    rw [Array.length_toList, size_zeroCells]
    rfl
  have hone := zeros_one (n + 1)
  have hcl : ∀ w' : World, (storeCells ⟨g, j * 4, none⟩ (Builtin.zeroCells #[.int .i64 0, .string ⟨#[]⟩, .int .i64 0, .int .i64 0] (n + 1)).toList).run Tryd.prog w = .ok () w' → (Builtin.clear_ #[22] ty #[.slice (some ⟨g, j * 4, none⟩) (n + 1) c]).run Tryd.prog w = .ok (.tuple #[]) w' := by
    intro w' h
    have hz := zero_node w
    simp [Builtin.clear_, run_underlying Tryd.underlying22, hz, Value.cells, Result.andThen, h]
  generalize (Builtin.zeroCells #[.int .i64 0, .string ⟨#[]⟩, .int .i64 0, .int .i64 0] (n + 1)).toList = zs at *
  have hst := run_storeCells_at Tryd.prog g (j * 4) 54 zs 0 cur w hg (by rw [hsz]; omega) hone
  simp only [Nat.add_zero] at hst
  have hl : (cur.toList.take (j * 4)).length = j * 4 := by rw [List.length_take, Array.length_toList]; omega
  refine ⟨_, (cur.toList.take (j * 4) ++ zs ++ cur.toList.drop (j * 4 + zs.length)).toArray, hcl _ hst, setRow_heap w g cur _ 54 _ hg, ?_, ?_, ⟨rfl, rfl, rfl, by simp, fun k _ hk => setRow_other w g k _ (fun e => hk (by rw [e]))⟩⟩
  · simp only [List.size_toArray, List.length_append, List.length_drop, Array.length_toList, hl, hsz]
    omega
  · show (cur.toList.take (j * 4) ++ zs ++ cur.toList.drop (j * 4 + zs.length)).take (j * 4) = _
    rw [List.append_assoc, List.take_append_of_le_length (by omega), List.take_take, Nat.min_self]
end Go.Proofs.YtkpbpecikibohaaDoor
