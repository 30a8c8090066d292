/-
  A number appended to a row of rules and one to a row of numbers, in a region that draws its order, within a round. No other condition than what is named. (Written by genzcho.py.)
-/
import Derived.Test.YtpddfooeaecekaaDoorZApply
import Derived.Great.BuildSlice
namespace Go.Proofs.YtpddfooeaecekaaDoor
open Go.RowKit Go.Shelf Go.Maps
open Fm (Nd)
set_option linter.unusedSimpArgs false
attribute [local go_sem] Oper.semAt_some

theorem own_kp {base n size : Nat} {e : TypeId} {w w' : World} {v : Value} {xs : List Value} (h : w.ownsRow base e size v n xs) (hb : ∀ k, v.ownBlock = some k → w'.heap[k]? = w.heap[k]?) : w'.ownsRow base e size v n xs := by
  refine ⟨h.1, ?_⟩
  rcases h.2 with h2 | ⟨g, cap, cur, rfl, hg, hh, r⟩
  · exact Or.inl h2
  · exact Or.inr ⟨g, cap, cur, rfl, hg, (hb g rfl).trans hh, r⟩
theorem own_blk {base n size : Nat} {e : TypeId} {w : World} {v : Value} {xs : List Value} (h : w.ownsRow base e size v n xs) : ∀ k, v.ownBlock = some k → base ≤ k ∧ k < w.heap.size ∧ ∃ cur, w.heap[k]? = some (.cells cur e (0, 0)) := by
  intro k hk
  rcases h.2 with ⟨rfl, _⟩ | ⟨g, cap, cur, rfl, hg, hh, _⟩
  · cases hk
  · obtain rfl : g = k := Option.some.inj hk
    exact ⟨hg, lt_of_block hh, cur, hh⟩
theorem own_one {base n size : Nat} {e : TypeId} {w : World} {v : Value} {xs : List Value} (h : w.ownsRow base e size v n xs) : v.oneCell' = true := by
  rcases h.2 with ⟨rfl, _⟩ | ⟨g, cap, cur, rfl, _⟩ <;> rfl
theorem infoR : (Tryd.prog.info? 35).map (fun i => (i.zero, i.size, i.bytes)) = some (some (.int .i64 0), 1, 8) := by kernel_rfl
theorem infoN : (Tryd.prog.info? 3).map (fun i => (i.zero, i.size, i.bytes)) = some (some (.int .i64 0), 1, 8) := by kernel_rfl
theorem sizeSR : (Tryd.prog.info? 68).map (·.size) = some 1 := by kernel_rfl
theorem sizeSI : (Tryd.prog.info? 28).map (·.size) = some 1 := by kernel_rfl
structure B2 (W : World) (N b10 b11 : Nat) (v1 v2 : Value) (n : Nat) (xs ys : List Value) : Prop where
  x1 : Boxed W b10 68 v1
  o1 : W.ownsRow N 35 1 v1 n xs
  x2 : Boxed W b11 28 v2
  o2 : W.ownsRow N 3 1 v2 n ys
def frC (b10 b11 : Nat) (v1 v2 : Value) (i k : Nat) : Prop := (i = 3 ∧ v1.ownBlock = some k) ∨ (i = 7 ∧ v2.ownBlock = some k) ∨ (i = 8 ∧ k = b10) ∨ (i = 9 ∧ k = b11)
def OWn (W0 : World) (N : Nat) (e : TypeId) (v0 : Value) (n : Nat) (xs : List Value) (v : Value) (w : World) : Prop := w.ownsRow N e 1 v n xs ∧ ∀ k, v.ownBlock = some k → v0.ownBlock = some k ∨ W0.heap.size ≤ k
def NwC (W0 : World) (x : Int) (v : Value) (w : World) : Prop := ∃ q, v = .slice (some ⟨q, 0, none⟩) 1 1 ∧ W0.heap.size ≤ q ∧ w.cell? ⟨q, 0, none⟩ = some (.int .i64 x)
structure SC (W0 w : World) (N b10 b11 : Nat) (v1 v2 : Value) (n : Nat) (xs ys : List Value) (done : Nat → Bool) : Prop where
  s1 : done 3 = false → Boxed w b10 68 v1 ∧ w.ownsRow N 35 1 v1 n xs
  e1 : ∃ u, Boxed w b10 68 u
  s2 : done 7 = false → Boxed w b11 28 v2 ∧ w.ownsRow N 3 1 v2 n ys
  e2 : ∃ u, Boxed w b11 28 u
  fr : Kp (fun k => v1.ownBlock = some k ∨ v2.ownBlock = some k ∨ k = b10 ∨ k = b11) W0 w
theorem cell_kp {S : Nat → Prop} {w w' : World} (h : Kp S w w') {p : Addr} {v : Value} (hc : w.cell? p = some v) (hn : ¬ S p.block) : w'.cell? p = some v := (World.cell?_of_block (a := p) (h.block p.block (World.block_lt_of_cell? w _ hc) hn)).trans hc
structure AC (W0 : World) (b10 b11 : Nat) (v1 v2 : Value) : Prop where
  l10 : b10 < W0.heap.size
  l11 : b11 < W0.heap.size
  ne : b10 ≠ b11
  a1 : v1.ownBlock ≠ some b10 ∧ v1.ownBlock ≠ some b11
  a2 : v2.ownBlock ≠ some b10 ∧ v2.ownBlock ≠ some b11
  a12 : ∀ k, v1.ownBlock = some k → v2.ownBlock ≠ some k
  l1 : ∀ k, v1.ownBlock = some k → k < W0.heap.size
  l2 : ∀ k, v2.ownBlock = some k → k < W0.heap.size
theorem B2.ac {W : World} {N b10 b11 : Nat} {v1 v2 : Value} {n : Nat} {xs ys : List Value} (h : B2 W N b10 b11 v1 v2 n xs ys) : AC W b10 b11 v1 v2 := by
  have no : ∀ (k : Nat) (c1 c2 : Array Value) (t1 t2 : TypeId), W.heap[k]? = some (.cells c1 t1 (0, 0)) → W.heap[k]? = some (.cells c2 t2 (0, 0)) → t1 = t2 := fun k c1 c2 t1 t2 h1 h2 => by
    rw [h1] at h2
    injection h2 with h2
    injection h2
  refine ⟨h.x1.lt, h.x2.lt, fun e => ?_, ⟨fun e => ?_, fun e => ?_⟩, ⟨fun e => ?_, fun e => ?_⟩, fun k e e' => ?_, fun k e => (own_blk h.o1 k e).2.1, fun k e => (own_blk h.o2 k e).2.1⟩
  · exact absurd (no b10 _ _ _ _ h.x1 (by rw [e]; exact h.x2)) (by decide)
  · obtain ⟨_, _, cur, hc⟩ := own_blk h.o1 _ e; exact absurd (no _ _ _ _ _ hc h.x1) (by decide)
  · obtain ⟨_, _, cur, hc⟩ := own_blk h.o1 _ e; exact absurd (no _ _ _ _ _ hc h.x2) (by decide)
  · obtain ⟨_, _, cur, hc⟩ := own_blk h.o2 _ e; exact absurd (no _ _ _ _ _ hc h.x1) (by decide)
  · obtain ⟨_, _, cur, hc⟩ := own_blk h.o2 _ e; exact absurd (no _ _ _ _ _ hc h.x2) (by decide)
  · obtain ⟨_, _, cur, hc⟩ := own_blk h.o1 _ e; obtain ⟨_, _, cur', hc'⟩ := own_blk h.o2 _ e'; exact absurd (no _ _ _ _ _ hc hc') (by decide)
section
variable {W0 w w' : World} {N b10 b11 : Nat} {v1 v2 : Value} {n : Nat} {xs ys : List Value} {done : Nat → Bool}
theorem box_kp {S : Nat → Prop} {b : Nat} {t : TypeId} {v : Value} (h : Boxed w b t v) (hk : Kp S w w') (hn : ¬ S b) : Boxed w' b t v := (hk.block b h.lt hn).trans h
theorem SC.other (h : SC W0 w N b10 b11 v1 v2 n xs ys done) (i : Nat) (_hi : i ≠ 3 ∧ i ≠ 7) (hb : Below w.heap.size w w') : SC W0 w' N b10 b11 v1 v2 n xs ys (fun j => j == i || done j) := by
  obtain ⟨u1, e1⟩ := h.e1
  obtain ⟨u2, e2⟩ := h.e2
  refine ⟨fun h3 => ?_, ⟨u1, box_later e1 hb e1.lt⟩, fun h7 => ?_, ⟨u2, box_later e2 hb e2.lt⟩, h.fr.trans (Kp.of_below (S := fun _ => False) hb) (fun _ hf => hf.elim)⟩
  · have h3' : done 3 = false := by simp at h3; exact h3.2
    obtain ⟨a, b⟩ := h.s1 h3'
    exact ⟨box_later a hb a.lt, own_later b hb⟩
  · have h7' : done 7 = false := by simp at h7; exact h7.2
    obtain ⟨a, b⟩ := h.s2 h7'
    exact ⟨box_later a hb a.lt, own_later b hb⟩
end
theorem region_relI_round {P : Program} {ops : Array Oper} {Q : Exit → Act → World → Prop} {id l m : Nat} {a0 : Act} {w : World} (hm : P.follows .mixedOrders = true) (hnd : (ops.all fun o => match o.op with | .defer _ => false | _ => true) = true) (hQ : ¬ LetsOut Q) (dsts : List (Option Tmp)) (needs : List (List Nat)) (hc : relOk .any ops dsts needs a0.tmps.size = true) (R : Nat → Value → World → Prop) (S : (Nat → Bool) → World → Prop) (le : Nat → World → World → Prop)
    (hle : ∀ i j v w w', i ≠ j → i ∉ needs.getD j [] → le i w w' → R j v w → R j v w') (h0 : S (fun _ => false) w.drew)
    (step : ∀ i, i < ops.size → ∀ (done : Nat → Bool) a w, S done w → done i = false → (∀ j ∈ needs.getD i [], done j = true) → (∀ j, i ∈ needs.getD j [] → done j = false) → Outs dsts a0 a → (∀ j ∈ needs.getD i [], ∃ v, Got a (dsts.getD j none) v ∧ R j v w) →
      wpOp P ops Q i (fun a' w' => ∃ v, a' = a.put (dsts.getD i none) v ∧ R i v w' ∧ S (fun j => j == i || done j) w' ∧ le i w w') a w)
    (fin : ∀ (vs : Nat → Value) (done : Nat → Bool) (w : World), (∀ i, i < ops.size → done i = true) → S done w → (∀ i, i < ops.size → R i (vs i) w) → Q .normal (putAll dsts vs 0 a0) w) : (Code.region id ops true).wpIn (Fence.wide.inRound l) m P Q a0 w := by
  refine wpIn_region_any hm (any_round (fun i o ho c hc => ?_) hQ _ _ _ _ (wpAny_relI dsts needs hc R S le hle h0 step fin))
  have h1 := (Array.all_eq_true'.1 hnd) o (Array.mem_of_getElem? ho)
  rw [hc] at h1
  cases h1
end Go.Proofs.YtpddfooeaecekaaDoor
