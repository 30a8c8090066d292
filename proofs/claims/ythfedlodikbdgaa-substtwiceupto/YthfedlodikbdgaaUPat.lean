/-
  The call Match: for every table that calls made, and all numbers.
-/
import Derived.Test.YthfedlodikbdgaaUBack
import Derived.Test.YthfedlodikbdgaaUSort
namespace Go.Proofs.Ythfedlodikbdgaa
open Go.RowKit Go.Shelf Go.Maps
open Fm (Nd)
attribute [local go_sem] Oper.semAt_some

theorem cell_newE (w : World) (k : Nat) (hk : k = w.heap.size) (x : Value) (ty : TypeId) : (w.alloc (.cells #[x] ty)).cell? ⟨k, 0, none⟩ = some x := by
  subst hk
  rw [cell_of_row _ _ 0 _ _ _ (heap_alloc_new _ _)]
  rfl
theorem cell_alloc {w : World} {k o : Nat} {x : Value} (h : w.cell? ⟨k, o, none⟩ = some x) (ob : Obj) : (w.alloc ob).cell? ⟨k, o, none⟩ = some x := (Kp.of_below (S := fun _ => False) (below_alloc w ob)).cell h (fun h => h)
/-- A map of what is told against which part. -/
def Ma (w : World) (M n : Nat) (g : Sb.Ag) : Prop := ∃ gv, Mp w M n gv ∧ ∀ j : Nat, gv (j : Int) = (g j).map (Value.int .i64)
section
variable {w w' : World} {M n : Nat} {g : Sb.Ag}
theorem Ma.lt (h : Ma w M n g) : M < w.heap.size := by obtain ⟨gv, hM, _⟩ := h; exact hM.lt
theorem Ma.keep (h : Ma w M n g) (hk : w'.heap[M]? = w.heap[M]?) : Ma w' M n g := by obtain ⟨gv, hM, hg⟩ := h; exact ⟨gv, hM.keep hk, hg⟩
theorem Ma.later (h : Ma w M n g) (hb : Below w.heap.size w w') : Ma w' M n g := h.keep (hb.block M h.lt)
theorem Ma.mono (h : Ma w M n g) {n' : Nat} (hn : n ≤ n') : Ma w M n' g := by obtain ⟨gv, hM, hg⟩ := h; exact ⟨gv, hM.mono hn, hg⟩
theorem Ma.look (h : Ma w M n g) {j : Nat} (hj : j ≤ 9223372036854775807) : (Instr.lookup 96 (.map (some M)) (.int .i64 (j : Int)) false).run Try.prog w = .ok (.int .i64 ((g j).getD 0)) w := by
  obtain ⟨gv, hM, hg⟩ := h
  have := hM.look1 Try.underlying96 (zero_intw w) (i := (j : Int)) ⟨by omega, by omega⟩
  rw [this, hg j]
  cases g j <;> rfl
theorem Ma.look2 (h : Ma w M n g) {j : Nat} (hj : j ≤ 9223372036854775807) : (Instr.lookup 96 (.map (some M)) (.int .i64 (j : Int)) true).run Try.prog w = .ok (.tuple #[.int .i64 ((g j).getD 0), .bool (g j).isSome]) w := by
  obtain ⟨gv, hM, hg⟩ := h
  have := hM.look Try.underlying96 (zero_intw w) (i := (j : Int)) ⟨by omega, by omega⟩
  rw [this, hg j]
  cases g j <;> rfl
theorem Ma.put (h : Ma w M n g) (hn : n < 9000) {j : Nat} (hj : j ≤ 9223372036854775807) (x : Int) :
    ∃ w', (Instr.mapUpdate 96 (.map (some M)) (.int .i64 (j : Int)) (.int .i64 x)).run Try.prog w = .ok () w' ∧ Ma w' M (n + 1) (Sb.updA g j x) ∧ Kp (fun k => k = M) w w' := by
  obtain ⟨gv, hM, hg⟩ := h
  obtain ⟨w', hr, hM', hK⟩ := hM.put Try.underlying96 (by unfold maxLen; omega) (i := (j : Int)) ⟨by omega, by omega⟩ (.int .i64 x)
  refine ⟨w', hr, ⟨_, hM', fun i => ?_⟩, hK⟩
  unfold updM Sb.updA
  by_cases e : i = j
  · subst e; rw [if_pos rfl, if_pos rfl]; rfl
  · rw [if_neg (by omega), if_neg e]; exact hg i
end
set_option maxHeartbeats 1000000 in
theorem stands_any (w : World) (C M n : Nat) (g : Sb.Ag) (hc : w.cell? ⟨C, 0, none⟩ = some (.map (some M))) (hM : Ma w M n g) (hn : n < 9000) (p : Nat) (hp : p ≤ 9223372036854775807) (x : Int) :
    Calls Try.prog 49 #[.int .i64 (p : Int), .int .i64 x, .pointer (some ⟨C, 0, none⟩)] w fun e w' => e = .returned (.bool (Sb.fits g p x)) ∧ Ma w' M (n + 1) (Sb.updA g p x) ∧ Kp (fun k => k = M) w w' := by
  have hlk := hM.look2 hp
  obtain ⟨w1, hup, hM1, hK1⟩ := hM.put hn hp x
  have HE := show Hid (Ma w1 M (n + 1) (Sb.updA g p x) ∧ Kp (fun k => k = M) w w1) from ⟨hM1, hK1⟩
  have HF := show Hid (Sb.fits g p x = match g p with | none => true | some o => o == x) from rfl
  clear hM1 hK1 hM
  cases hg : g p with
  | none =>
    rw [hg] at hlk HF
    have ea := HF.out
    simp only at ea
    rw [ea]
    go_enter Try.func49, Try.ntmps49
    go_wp2_with fail
    go_ret
    exact ⟨rfl, HE.out⟩
  | some o =>
    rw [hg] at hlk HF
    have ea := HF.out
    simp only at ea
    rw [ea]
    go_enter Try.func49, Try.ntmps49
    go_wp2_with fail
    go_ret
    exact ⟨rfl, HE.out⟩
/-- What Match tells. -/
def matchR (t : List Nd) (pat id : Int) : Sb.Hs × Bool × Int :=
  if Sb.refR t [pat, id] = 0 then (if (Sb.mrun t (Fm.below t pat.toNat).reverse pat.toNat id).2.2 then (srt (Sb.mrun t (Fm.below t pat.toNat).reverse pat.toNat id).2.1, true, 0) else ([], false, 0)) else ([], false, 31)
/-- The numbers that have come. -/
def vals {N : Nat} (pre : List (It N)) : List Nat := pre.map fun x => x.2.val
theorem vals_snoc {N : Nat} (pre : List (It N)) (x : It N) : vals (pre ++ [x]) = vals pre ++ [x.2.val] := by simp [vals]
/-- What holds between two rounds, and where one leaves. -/
def PI {N : Nat} (t : List Nd) (pat : Nat) (id : Int) (w : World) (M A : Nat) (pre : List (It N)) (W : World) : Prop :=
  (Sb.mrun t (vals pre) pat id).2.2 = true ∧ Ma W M (1 + 2 * pre.length) (Sb.mrun t (vals pre) pat id).1 ∧ (∃ sv, W.heap[A]? = some (.cells #[sv] 23 (0, 0)) ∧ W.ownsRow w.heap.size 39 2 sv (Sb.mrun t (vals pre) pat id).2.1.length (cellsH (Sb.mrun t (vals pre) pat id).2.1)) ∧ (Sb.mrun t (vals pre) pat id).2.1.length ≤ pre.length ∧ KB w.heap.size (fun k => k = M ∨ k = A) w W
def PJ {N : Nat} (t : List Nd) (pat : Nat) (id : Int) (w : World) (M A H : Nat) (pre : List (It N)) (W : World) : Prop :=
  (Sb.mrun t (vals pre) pat id).2.2 = false ∧ W.cell? ⟨H + 1, 0, none⟩ = some (.slice none 0 0) ∧ W.cell? ⟨H + 2, 0, none⟩ = some (.bool false) ∧ W.cell? ⟨H + 3, 0, none⟩ = some (.int .i64 0) ∧ Kp (fun k => (k = M ∨ k = A ∨ k = H + 1 ∨ k = H + 2 ∨ k = H + 3) ∨ w.heap.size ≤ k) w W
theorem grown_cell {W W' : World} {row : Option Nat} (hg : W.grownBy W' row) {B : Nat} (hr : ∀ r, row = some r → B ≤ r ∧ ∃ o : Obj, W.heap[r]? = some o ∧ o.isCells = false) {k o : Nat} {x : Value} (hc : W.cell? ⟨k, o, none⟩ = some x) (hk : k < B) : W'.cell? ⟨k, o, none⟩ = some x := by
  rw [← hc]
  exact World.cell?_of_block (a := ⟨k, o, none⟩) (hg.block k (World.block_lt_of_cell? W _ hc) (fun e => by have := (hr k e.symm).1; omega))
theorem grown_kp {S : Nat → Prop} {w W W' : World} {row : Option Nat} (hK : Kp (fun k => S k ∨ w.heap.size ≤ k) w W) (hg : W.grownBy W' row) (hr : ∀ r, row = some r → w.heap.size ≤ r ∧ ∃ o : Obj, W.heap[r]? = some o ∧ o.isCells = false) : Kp (fun k => S k ∨ w.heap.size ≤ k) w W' :=
  hK.then ⟨hg.os, hg.tape, hg.output, hg.size, fun k hk hn => hg.block k hk fun e => hn (Or.inr (hr k e.symm).1)⟩
theorem pi_own {N : Nat} (t : List Nd) (pat : Nat) (id : Int) (w : World) {M A : Nat} (hM : M < w.heap.size) (hA : A < w.heap.size) : OwnFrom w.heap.size (PI (N := N) t pat id w M A) := fun s W W' row h hg hr => by
  obtain ⟨h1, h2, ⟨sv, h3, h4⟩, h5, h6⟩ := h
  refine ⟨h1, h2.keep (hg.block M h2.lt (fun e => by have := (hr M e.symm).1; omega)), ⟨sv, (hg.block A (lt_of_block h3) (fun e => by have := (hr A e.symm).1; omega)).trans h3, ?_⟩, h5, grown_kp h6 hg hr⟩
  rcases h4 with ⟨hl, ⟨rfl, hn⟩ | ⟨g, cap, cur, rfl, hg1, hh, r⟩⟩
  · exact ⟨hl, Or.inl ⟨rfl, hn⟩⟩
  · refine ⟨hl, Or.inr ⟨g, cap, cur, rfl, hg1, ?_, r⟩⟩
    exact (hg.block g (lt_of_block hh) (fun e => by
      obtain ⟨_, o, ho, hc⟩ := hr g e.symm
      rw [hh] at ho
      cases ho
      cases hc)).trans hh
theorem pj_own {N : Nat} (t : List Nd) (pat : Nat) (id : Int) (w : World) {M A H : Nat} (hH : H + 3 < w.heap.size) : OwnFrom w.heap.size (PJ (N := N) t pat id w M A H) := fun s W W' row h hg hr => by
  obtain ⟨h1, h2, h3, h4, h5⟩ := h
  exact ⟨h1, grown_cell hg hr h2 (by omega), grown_cell hg hr h3 (by omega), grown_cell hg hr h4 (by omega), grown_kp h5 hg hr⟩
end Go.Proofs.Ythfedlodikbdgaa
