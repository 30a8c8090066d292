/-
  A model that is being made row by row: what a statement that adds a row leaves. No condition.
-/
import Derived.Test.YtjbnbaiidpdpoaaDoorWNext
namespace Go.Proofs.YtjbnbaiidpdpoaaDoor.Wm
open Go.RowKit Go.Maps
open Wd (Md)
set_option linter.unusedSimpArgs false

theorem St.trans {B : Nat} {T T' : TypeId} {a b c : World} (h : St B T T' a b) (k : St B T T' b c) : St B T T' a c := fun i cs t hi ht hb => (k i cs t hi ht ((h i cs t hi ht hb).trans hb)).trans (h i cs t hi ht hb)
structure TS (w7 W : World) (B b6 : Nat) (cs : Array Value) (T T' : TypeId) (d9 d11 : Bool) : Prop where
  m : d11 = false → Cl W b6 cs 25
  old : ∀ k, k < B → k ≠ b6 → W.heap[k]? = w7.heap[k]?
  st : St B T T' w7 W
  os : W.os = w7.os
  tape : W.tape = w7.tape
  output : W.output = w7.output
  sz : w7.heap.size ≤ W.heap.size
  b9 : d9 = false → Below w7.heap.size w7 W
section
variable {w2 w3 w7 W W' : World} {B b6 : Nat} {cs : Array Value} {T T' : TypeId} {d9 d11 d9' d11' : Bool}
theorem TS.start (h : Cl w7 b6 cs 25) : TS w7 w7.drew B b6 cs T T' false false :=
  ⟨fun _ => h, fun _ _ _ => rfl, fun _ _ _ _ _ _ => rfl, rfl, rfl, rfl, Nat.le_refl _, fun _ => (Below.refl _ _).drew⟩
theorem TS.later (h : TS w7 W B b6 cs T T' d9 d11) (hB : B ≤ w7.heap.size) (hb : Below W.heap.size W W') (e9 : d9' = false → d9 = false) (e11 : d11' = false → d11 = false) : TS w7 W' B b6 cs T T' d9' d11' :=
  ⟨fun e => (h.m (e11 e)).later hb, fun k hk hn => (hb.block k (by have := h.sz; omega)).trans (h.old k hk hn), h.st.trans (St.of_below hb), hb.os.trans h.os, hb.tape.trans h.tape, hb.output.trans h.output, Nat.le_trans h.sz hb.size, fun e => (h.b9 (e9 e)).trans (hb.mono h.sz)⟩
theorem TS.grow (h : TS w7 W B b6 cs T T' d9 false) (hB : B ≤ w7.heap.size) (h6 : b6 < B) {Tg : TypeId} {v : Value} {n : Nat} {xs : List Value} (h1 : W.ownsRow B Tg 1 v n xs) (hg : W.grownBy W' v.ownBlock) (ht : Tg ≠ T) (ht' : Tg ≠ T') : TS w7 W' B b6 cs T T' true false := by
  have hs : B ≤ W.heap.size := Nat.le_trans hB h.sz
  exact ⟨fun _ => (grow_old h1 hg h6 hs).trans (h.m rfl), fun k hk hn => (grow_old h1 hg hk hs).trans (h.old k hk hn), h.st.trans (St.of_grow h1 hg ht ht'), hg.os.trans h.os, hg.tape.trans h.tape, hg.output.trans h.output, Nat.le_trans h.sz hg.size, fun e => (by cases e)⟩
theorem TS.store (h : TS w7 W B b6 cs T T' true false) (h6 : b6 < B) (j : Nat) (x : Value) : TS w7 (W.setCell ⟨b6, j, none⟩ x) B b6 cs T T' true true := by
  have hk : Kp (fun k => k = b6) W (W.setCell ⟨b6, j, none⟩ x) := (Kp.refl (fun k => k = b6) W).set (p := b6) rfl j x
  exact ⟨fun e => (by cases e), fun k hk2 hn => by
    have h9 := h.old k hk2 hn
    exact (Below.heap_setCell W ⟨b6, j, none⟩ x k (fun e => hn e)).trans h9, h.st.trans (St.of_kp hk h6), hk.os.trans h.os, hk.tape.trans h.tape, hk.output.trans h.output, Nat.le_trans h.sz hk.size, fun e => (by cases e)⟩
theorem TS.kp (h : TS w7 W B b6 cs T T' d9 d11) (hk : Kp (fun k => k = b6) w3 w7) (hB : w3.heap.size ≤ B) : Kp (fun k => k = b6) w3 W :=
  ⟨h.os.trans hk.os, h.tape.trans hk.tape, h.output.trans hk.output, Nat.le_trans hk.size h.sz, fun k hk1 hn => (h.old k (by omega) hn).trans (hk.block k hk1 hn)⟩
end
def LeG (w7 : World) (b6 : Nat) (i : Nat) (W W' : World) : Prop := i < 12 ∧ (i ≠ 11 → i ≠ 9 → Below W.heap.size W W') ∧ (i = 9 → ∀ k, w7.heap.size ≤ k → k < W.heap.size → W'.heap[k]? = W.heap[k]?) ∧ (i = 11 → Kp (fun k => k = b6) W W')
theorem LeG.fresh {w7 W W' : World} {b6 i k : Nat} (h : LeG w7 b6 i W W') (hb : b6 < w7.heap.size) (hk : w7.heap.size ≤ k) (hl : k < W.heap.size) : W'.heap[k]? = W.heap[k]? := by
  by_cases e7 : i = 11
  · exact (h.2.2.2 e7).block k hl (by omega)
  · by_cases e5 : i = 9
    · exact h.2.2.1 e5 k hk hl
    · exact (h.2.1 e7 e5).block k hl
theorem LeG.own {w7 W W' : World} {b6 i n : Nat} {e : TypeId} {v : Value} {xs : List Value} (h : LeG w7 b6 i W W') (hb : b6 < w7.heap.size) (ho : W.ownsRow w7.heap.size e 1 v n xs) : W'.ownsRow w7.heap.size e 1 v n xs := own_kp ho fun _ _ hk hc _ => h.fresh hb hk (lt_of_block hc)
theorem bsLI (w : World) (a : Option Addr) (n k : Nat) : (Instr.buildSlice 22 1 #[(0, .slice a n k)]).run Tryd.prog w = .ok (.slice (some ⟨w.heap.size, 0, none⟩) 1 1) (w.alloc (.cells #[.slice a n k] 42)) := by kernel_rfl
def tdU (M : Nat → Nat → Bool) (n k : Nat) : List (List Int) := (List.range k).map fun a => (nxF M n a).map fun n : Nat => (n : Int)
theorem tdU_step (M : Nat → Nat → Bool) (n k : Nat) : tdU M n (k + 1) = tdU M n k ++ [(nxF M n k).map fun n : Nat => (n : Int)] := by
  unfold tdU
  rw [List.range_succ, List.map_append]
  rfl
theorem tdU_len (M : Nat → Nat → Bool) (n k : Nat) : (tdU M n k).length = k := by simp [tdU]
structure Td (w3 W : World) (b6 : Nat) (uv vv : Value) (up : List (List Int)) (val : List (List ByteArray)) : Prop where
  m : Cl W b6 #[uv, vv] 25
  up : RowsZ w3.heap.size W uv up
  val : RowsN w3.heap.size W vv val
  kp : Kp (fun k => k = b6) w3 W
theorem Td.sz {w3 W : World} {b6 : Nat} {uv vv : Value} {up : List (List Int)} {val : List (List ByteArray)} (h : Td w3 W b6 uv vv up val) : w3.heap.size ≤ W.heap.size := h.kp.size
end Go.Proofs.YtjbnbaiidpdpoaaDoor.Wm
