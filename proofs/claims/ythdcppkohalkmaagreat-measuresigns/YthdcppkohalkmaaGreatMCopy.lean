/-
  'append([]int{}, l...)': a row's numbers in a block of their own. For rows of at most 2^47 bytes.
-/
import Derived.Test.YthdcppkohalkmaaGreatMHeads
import Derived.Deep.AppendSrc
namespace Go.Proofs.YthdcppkohalkmaaGreat
open Go.RowKit Go.Maps

theorem own_sliceI {base : Nat} {w : World} {v : Value} {k : Nat} {xs : List Value} (h : w.ownsRow base 3 1 v k xs) : ∃ p c, v = .slice p k c := by
  rcases h.2 with ⟨rfl, h0⟩ | ⟨g, cap, cur, rfl, _⟩
  · exact ⟨_, _, by rw [h0]⟩
  · exact ⟨_, _, rfl⟩
/-- 'append([]int{}, l...)': l's numbers in a block of their own. -/
theorem wpList_copy {ops : Array Oper} {rest : List Oper} {o : Oper} {a : Act} {Q : Exit → Act → World → Prop} (W : World) (s x : Operand) (hop : o.op = Op.call { callee := Callee.builtin Builtin.append, args := #[s, x], argTypes := #[33, 33] }) (hg : o.guard = none)
    (base g : Nat) (hs : a.eval s = .slice (some ⟨g, 0, none⟩) 0 0) (hown : W.ownsRow base 3 1 (.slice (some ⟨g, 0, none⟩) 0 0) 0 []) (hbase : base ≤ W.heap.size) (p : Option Addr) (l : List Int) (c : Nat) (hx : a.eval x = .slice p l.length c) (hp : p = none → c = 0)
    (hl8 : l.length * 8 ≤ 140737488355328) (hcell : ∀ k (hk : k < l.length), ∃ b o, p = some ⟨b, o, none⟩ ∧ W.cell? ⟨b, o + k, none⟩ = some (.int .i64 l[k]))
    (hK : ∀ p' c' w', w'.ownsRow base 3 1 (.slice p' l.length c') l.length (l.map (Value.int .i64)) → W.grownBy w' (some g) → wpList Tryz.prog ops Q rest (a.put o.dst (.slice p' l.length c')) w') : wpList Tryz.prog ops Q (o :: rest) a W := by
  obtain ⟨i0, hi, hz0, hz1, hz2⟩ := info_parts info_int
  cases l with
  | nil =>
    refine wpList_append_fits_any W hg s x 33 hop base 3 i0 1 Tryz.underlying33 hi hz1 g 0 0 [] hs hown p 0 c [] hx rfl (fun h => ⟨rfl, hp h⟩) (fun _ _ j u h => by cases h) (fun u h => by cases h) (Nat.le_refl _) (fun w' h1 h2 => ?_)
    exact hK _ _ w' h1 h2
  | cons n0 l0 =>
    obtain ⟨bb, oo, rfl, -⟩ := hcell 0 (by simp)
    refine wpList_append_own W hg s x 33 hop base 3 i0 (.int .i64 0) 1 8 Tryz.underlying33 hi hz0 hz1 hz2 rfl (by decide) _ 0 [] hs hown ⟨bb, oo, none⟩ (n0 :: l0).length c ((n0 :: l0).map (Value.int .i64)) hx (by simp) (fun j u hj => ?_) (fun u hu => ?_) (by unfold maxLen; omega) (by omega) hbase (fun v' w' h1 h2 _ => ?_)
    · obtain ⟨hlt, rfl⟩ := List.getElem?_eq_some_iff.1 hj
      obtain ⟨b2, o2, he, hc⟩ := hcell j (by simpa using hlt)
      cases he
      rw [List.getElem_map]
      by_cases hj0 : j = 0
      · subst hj0
        simpa [Addr.add] using hc
      · simpa [Addr.add, hj0] using hc
    · obtain ⟨n, _, rfl⟩ := List.mem_map.1 hu
      rfl
    · rw [Nat.zero_add, List.nil_append] at h1
      obtain ⟨p', c', rfl⟩ := own_sliceI h1
      exact hK _ _ w' h1 h2
end Go.Proofs.YthdcppkohalkmaaGreat
