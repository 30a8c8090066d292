/-
  Rows of formulas in memory; tables of the program's and of the document's; what a call leaves as it was. No condition.
-/
import Derived.Test.YtkpbpecikibohaaDoorProg
import Derived.Test.YtkpbpecikibohaaDoorFPure
import Derived.WalkKit
import Derived.WalkLawsBesides
import Derived.WalkSpells
import Derived.ProofKit
import Derived.BigQuiet
import Derived.Laws.RangeAny
import Derived.Maps.OwnSet
import Derived.Maps.AppendAt
import Derived.DeepKeys4
import Derived.Deep.RegionLaw
namespace Go.Proofs.YtkpbpecikibohaaDoor
open Go.RowKit Go.Maps
open Fm (Nd)

theorem ret_int {k : IntKind} {a b : Int} (h : a = b) : Ending.returned (.int k a) = .returned (.int k b) := by rw [h]
theorem val_int {k : IntKind} {a b : Int} (h : a = b) : Value.int k a = .int k b := by rw [h]
theorem ret_bool {a b : Bool} (h : a = b) : Ending.returned (.bool a) = .returned (.bool b) := by rw [h]
theorem below_alloc (w : World) (o : Obj) : Below w.heap.size w (w.alloc o) := (Below.refl _ _).alloc (Nat.le_refl _) _
theorem lt_of_block {w : World} {g : Nat} {o : Obj} (h : w.heap[g]? = some o) : g < w.heap.size := (Array.getElem?_eq_some_iff.1 h).1
theorem laidOut : laidOutB Tryd.prog = true := by kernel_rfl

def ndC (n : Nd) : List Value := [.int .i64 n.k, .string n.s, .int .i64 n.l, .int .i64 n.r]
def ndV (n : Nd) : Value := .agg #[.int .i64 n.k, .string n.s, .int .i64 n.l, .int .i64 n.r]
def cellsOf (t : List Nd) : List Value := t.flatMap ndC
theorem ndC_one (n : Nd) : ∀ u ∈ ndC n, u.oneCell' = true := by
  intro u hu
  simp only [ndC, List.mem_cons, List.not_mem_nil, or_false] at hu
  rcases hu with rfl | rfl | rfl | rfl <;> rfl
theorem cellsOf_one (t : List Nd) : ∀ u ∈ cellsOf t, u.oneCell' = true := by
  intro u hu
  obtain ⟨n, _, hn⟩ := List.mem_flatMap.1 hu
  exact ndC_one n u hn
theorem cellsOf_snoc (t : List Nd) (n : Nd) : cellsOf (t ++ [n]) = cellsOf t ++ ndC n := by simp [cellsOf]
theorem cellsOf_len (t : List Nd) : (cellsOf t).length = t.length * 4 := by
  induction t with
  | nil => rfl
  | cons n r ih => show (ndC n ++ cellsOf r).length = _; rw [List.length_append, ih, List.length_cons]; show 4 + _ = _; omega
theorem cellsOf_at : ∀ (t : List Nd) (k j : Nat) (hk : k < t.length), j < 4 → (cellsOf t)[k * 4 + j]? = (ndC t[k])[j]?
  | [], k, j, hk, _ => absurd hk (by simp)
  | n :: t, 0, j, hk, hj => by
    show (ndC n ++ cellsOf t)[0 * 4 + j]? = _
    rw [List.getElem?_append_left (by show 0 * 4 + j < 4; omega), Nat.zero_mul, Nat.zero_add]
    rfl
  | n :: t, k + 1, j, hk, hj => by
    have hl : (ndC n).length = 4 := rfl
    show (ndC n ++ cellsOf t)[(k + 1) * 4 + j]? = _
    rw [List.getElem?_append_right (by rw [hl]; omega), hl, show (k + 1) * 4 + j - 4 = k * 4 + j by omega]
    rw [cellsOf_at t k j (by simpa using hk) hj]
    rfl
theorem cellsOf_take (t : List Nd) (m : Nat) (h : m ≤ t.length) : (cellsOf t).take (m * 4) = cellsOf (t.take m) := by
  have e : cellsOf t = cellsOf (t.take m) ++ cellsOf (t.drop m) := by
    show _ = (t.take m).flatMap ndC ++ (t.drop m).flatMap ndC
    rw [← List.flatMap_append, List.take_append_drop]
    rfl
  rw [e]
  have hl : (cellsOf (t.take m)).length = m * 4 := by rw [cellsOf_len, List.length_take, Nat.min_eq_left h]
  rw [← hl]
  exact List.take_left

structure At4 (w : World) (b o : Nat) (n : Nd) : Prop where
  c0 : w.cell? ⟨b, o, none⟩ = some (.int .i64 n.k)
  c1 : w.cell? ⟨b, o + 1, none⟩ = some (.string n.s)
  c2 : w.cell? ⟨b, o + 2, none⟩ = some (.int .i64 n.l)
  c3 : w.cell? ⟨b, o + 3, none⟩ = some (.int .i64 n.r)
def IsR (w : World) (v : Value) (t : List Nd) : Prop :=
  ∃ p c, v = .slice p t.length c ∧ t.length ≤ c ∧ c ≤ 9223372036854775807 ∧ (0 < t.length → ∃ b o, p = some ⟨b, o, none⟩ ∧ ∀ k (hk : k < t.length), At4 w b (o + k * 4) t[k])
def Rw (w : World) (v : Value) (t : List Nd) : Prop :=
  (v = .slice none 0 0 ∧ t = []) ∨ ∃ g cap cur, v = .slice (some ⟨g, 0, none⟩) t.length cap ∧ w.heap[g]? = some (.cells cur 54 (0, 0)) ∧ t.length ≤ cap ∧ cap ≤ maxLen ∧ cap * 4 ≤ cur.size ∧ cur.toList.take (t.length * 4) = cellsOf t
theorem rw_nil (w : World) : Rw w (.slice none 0 0) [] := Or.inl ⟨rfl, rfl⟩
theorem Rw.isR {w : World} {v : Value} {t : List Nd} (h : Rw w v t) : IsR w v t := by
  rcases h with ⟨rfl, rfl⟩ | ⟨g, cap, cur, rfl, hh, h1, h2, h3, h4⟩
  · exact ⟨none, 0, rfl, by simp, by omega, fun hp => by simp at hp⟩
  · refine ⟨_, cap, rfl, h1, by unfold maxLen at h2; omega, fun _ => ⟨g, 0, rfl, fun k hk => ?_⟩⟩
    have hc : ∀ j, j < 4 → w.cell? ⟨g, k * 4 + j, none⟩ = (ndC t[k])[j]? := fun j hj => by
      rw [cell_of_row w g _ cur _ _ hh, ← cellsOf_at t k j hk hj, ← h4, List.getElem?_take, if_pos (by omega)]
      simp
    rw [Nat.zero_add]
    exact ⟨hc 0 (by omega), hc 1 (by omega), hc 2 (by omega), hc 3 (by omega)⟩
theorem Rw.lt {w : World} {v : Value} {t : List Nd} (h : Rw w v t) : ∀ k, v.ownBlock = some k → k < w.heap.size ∧ ∃ cur, w.heap[k]? = some (.cells cur 54 (0, 0)) := by
  intro k hk
  rcases h with ⟨rfl, rfl⟩ | ⟨g, cap, cur, rfl, hh, _⟩
  · cases hk
  · obtain rfl : g = k := Option.some.inj hk
    exact ⟨lt_of_block hh, cur, hh⟩
theorem Rw.keep {w w' : World} {v : Value} {t : List Nd} (h : Rw w v t) (hk : ∀ k, v.ownBlock = some k → w'.heap[k]? = w.heap[k]?) : Rw w' v t := by
  rcases h with ⟨rfl, rfl⟩ | ⟨g, cap, cur, rfl, hh, r⟩
  · exact Or.inl ⟨rfl, rfl⟩
  · exact Or.inr ⟨g, cap, cur, rfl, (hk g rfl).trans hh, r⟩
theorem IsR.later {w w' : World} {v : Value} {t : List Nd} (h : IsR w v t) (hb : Below w.heap.size w w') : IsR w' v t := by
  obtain ⟨p, c, hv, h1, h2, h3⟩ := h
  refine ⟨p, c, hv, h1, h2, fun hp => ?_⟩
  obtain ⟨b, o, hbo, hc⟩ := h3 hp
  refine ⟨b, o, hbo, fun k hk => ?_⟩
  have h := hc k hk
  have hlt : b < w.heap.size := World.block_lt_of_cell? w _ h.c0
  exact ⟨(hb.cell (p := ⟨b, _, none⟩) hlt).trans h.c0, (hb.cell (p := ⟨b, _, none⟩) hlt).trans h.c1, (hb.cell (p := ⟨b, _, none⟩) hlt).trans h.c2, (hb.cell (p := ⟨b, _, none⟩) hlt).trans h.c3⟩

structure Kp (S : Nat → Prop) (w w' : World) : Prop where
  os : w'.os = w.os
  tape : w'.tape = w.tape
  output : w'.output = w.output
  size : w.heap.size ≤ w'.heap.size
  block : ∀ k, k < w.heap.size → ¬ S k → w'.heap[k]? = w.heap[k]?
theorem Kp.refl (S : Nat → Prop) (w : World) : Kp S w w := ⟨rfl, rfl, rfl, Nat.le_refl _, fun _ _ _ => rfl⟩
theorem Kp.of_below {S : Nat → Prop} {w w' : World} (h : Below w.heap.size w w') : Kp S w w' := ⟨h.os, h.tape, h.output, h.size, fun k hk _ => h.block k hk⟩
theorem Kp.trans {S S' : Nat → Prop} {a b c : World} (h : Kp S a b) (k : Kp S' b c) (hS : ∀ i, S' i → S i ∨ a.heap.size ≤ i) : Kp S a c :=
  ⟨k.os.trans h.os, k.tape.trans h.tape, k.output.trans h.output, Nat.le_trans h.size k.size, fun i hi hn => (k.block i (Nat.lt_of_lt_of_le hi h.size) (fun h' => by rcases hS i h' with h1 | h1; exact hn h1; omega)).trans (h.block i hi hn)⟩
theorem Kp.below {S : Nat → Prop} {w w' : World} {B : Nat} (h : Kp S w w') (hB : B ≤ w.heap.size) (hS : ∀ k, S k → B ≤ k) : Below B w w' :=
  ⟨h.os, h.tape, h.output, h.size, fun k hk => h.block k (by omega) (fun h' => by have := hS k h'; omega)⟩
theorem Kp.drew {S : Nat → Prop} {w w' : World} (h : Kp S w w') : Kp S w w'.drew := ⟨h.os, h.tape, h.output, h.size, h.block⟩

def Lies (H : Nat) (v v' : Value) : Prop := ∀ k, v'.ownBlock = some k → v.ownBlock = some k ∨ H ≤ k
theorem Lies.refl (H : Nat) (v : Value) : Lies H v v := fun _ h => Or.inl h
theorem Lies.trans {H H' : Nat} {a b c : Value} (h : Lies H a b) (k : Lies H' b c) (hH : H ≤ H') : Lies H a c := fun i hi => by
  rcases k i hi with h1 | h1
  · exact h i h1
  · exact Or.inr (by omega)

/-! ### keys -/
def kl (n : Nd) : Lit := .string (keyBytes [.int .i64 n.k, .string n.s.data.toList, .int .i64 n.l, .int .i64 n.r])
theorem law : Keyed Tryd.prog 54 := Keyed.of_law (deep_law_laid (m := 2) laidOut (by omega) (of_decide_eq_true (by kernel_rfl)) (by kernel_rfl) (by kernel_rfl))
theorem wf64 {x : Int} (h : Fm.i64 x) : (Lit.int .i64 x).wf = true := WalkArith.wf_i64 (by have := h.1; have := h.2; omega)
theorem cells_node : Tryd.prog.cellsOf 54 = 4 := by kernel_rfl
theorem cells_kind : Tryd.prog.cellsOf 52 = 1 := by kernel_rfl
theorem cells_int : Tryd.prog.cellsOf 3 = 1 := by kernel_rfl
theorem cells_str : Tryd.prog.cellsOf 9 = 1 := by kernel_rfl
theorem keyLits_nd (d : Nat) {n : Nd} (h0 : (Lit.int .i64 n.k).wf = true) (h1 : n.s.size ≤ maxLen) (h2 : (Lit.int .i64 n.l).wf = true) (h3 : (Lit.int .i64 n.r).wf = true) :
    Tryd.prog.keyLits (d + 1 + 1) 54 [.int .i64 n.k, .string n.s, .int .i64 n.l, .int .i64 n.r] = some [.int .i64 n.k, .string n.s.data.toList, .int .i64 n.l, .int .i64 n.r] := by
  simp [Program.keyLits, Tryd.underlying54, Tryd.underlying52, Tryd.underlying9, Tryd.underlying3, cells_node, cells_kind, cells_int, cells_str, h0, h1, h2, h3]
theorem key_nd {n : Nd} (h : Fm.good n) : keyOf Tryd.prog 54 (ndV n) = some (kl n) := by
  have h0 := wf64 h.1
  have h2 := wf64 h.2.2.1
  have h3 := wf64 h.2.2.2
  have h1 : n.s.size ≤ maxLen := by have := h.2.1; unfold maxLen; omega
  have hts : Tryd.prog.types.size + 1 = 176 + 1 + 1 := by kernel_rfl
  have hkt : Tryd.prog.keyType 54 = true := by kernel_rfl
  unfold keyOf
  simp only [Tryd.underlying54, hkt, Bool.true_and]
  rw [if_pos (by simp [Value.formed, ndV, Tryd.underlying54, cells_node])]
  rw [hts]
  show (Tryd.prog.keyLits (176 + 1 + 1) 54 [.int .i64 n.k, .string n.s, .int .i64 n.l, .int .i64 n.r]).map _ = _
  rw [keyLits_nd 176 h0 h1 h2 h3]
  rfl
theorem key_inj {a b : Nd} (ha : Fm.good a) (hb : Fm.good b) (h : kl a = kl b) : a = b := by
  have e := law.inj (key_nd ha) (h ▸ key_nd hb)
  unfold ndV at e
  obtain ⟨k, s, l, r⟩ := a
  obtain ⟨k', s', l', r'⟩ := b
  simp at e
  obtain ⟨rfl, rfl, rfl, rfl⟩ := e
  rfl
end Go.Proofs.YtkpbpecikibohaaDoor
