/-
  read: its memory, line by line. No condition.
-/
import Derived.Test.YtjbnbaiidpdpoaaDoorWRnd
namespace Go.Proofs.YtjbnbaiidpdpoaaDoor.Wm
open Go.RowKit Go.Shelf Go.Maps
open Wd (Md)
set_option linter.unusedSimpArgs false
attribute [local go_sem] Oper.semAt_some

def upL (x : ByteArray) : Option (List Int) := rdN ((Lib.fieldsD (Lib.cut (Lib.cut x.data.toList [32, 58]).1 [32, 62]).2.1).map baOf)
def vaL (x : ByteArray) : List ByteArray := (Lib.fieldsD (Lib.cut x.data.toList [32, 58]).2.1).map baOf
def mdL (ls : List ByteArray) : Md := ⟨ls.map fun x => (upL x).getD [], ls.map vaL⟩
def OwnN (base : Nat) (w : World) (v : Value) (l : List ByteArray) : Prop := w.ownsRow base 9 1 v l.length (l.map Value.string)
theorem own_kp {base n size : Nat} {e : TypeId} {w w' : World} {v : Value} {xs : List Value} (h : w.ownsRow base e size v n xs) (hb : ∀ k cs, base ≤ k → w.heap[k]? = some (.cells cs e (0, 0)) → v.ownBlock = some k → w'.heap[k]? = w.heap[k]?) : w'.ownsRow base e size v n xs := by
  refine ⟨h.1, ?_⟩
  rcases h.2 with h2 | ⟨g, cap, cur, rfl, hg, hh, r⟩
  · exact Or.inl h2
  · exact Or.inr ⟨g, cap, cur, rfl, hg, (hb g cur hg hh rfl).trans hh, r⟩
theorem own_blk {base n size : Nat} {e : TypeId} {w : World} {v : Value} {xs : List Value} (h : w.ownsRow base e size v n xs) {k : Nat} (hk : v.ownBlock = some k) : base ≤ k ∧ k < w.heap.size ∧ ∃ cur, w.heap[k]? = some (.cells cur e (0, 0)) := by
  rcases h.2 with ⟨rfl, _⟩ | ⟨g, cap, cur, rfl, hg, hh, _⟩
  · cases hk
  · obtain rfl : g = k := Option.some.inj hk
    exact ⟨hg, lt_of_block hh, cur, hh⟩
def RowsZ (B : Nat) (w : World) (v : Value) (ls : List (List Int)) : Prop := ∃ xs : List Value, w.ownsRow B 42 1 v ls.length xs ∧ ∀ (i : Nat) (hi : i < ls.length), ∃ x, xs[i]? = some x ∧ OwnZ B w x ls[i]
def RowsN (B : Nat) (w : World) (v : Value) (ls : List (List ByteArray)) : Prop := ∃ xs : List Value, w.ownsRow B 39 1 v ls.length xs ∧ ∀ (i : Nat) (hi : i < ls.length), ∃ x, xs[i]? = some x ∧ OwnN B w x ls[i]
def St (B : Nat) (T T' : TypeId) (w w' : World) : Prop := ∀ (k : Nat) (cs : Array Value) (t : TypeId), B ≤ k → t = T ∨ t = T' → w.heap[k]? = some (.cells cs t (0, 0)) → w'.heap[k]? = w.heap[k]?
theorem RowsZ.keep {B : Nat} {w w' : World} {v : Value} {ls : List (List Int)} (h : RowsZ B w v ls) (hs : St B 42 3 w w') : RowsZ B w' v ls := by
  obtain ⟨xs, h1, h2⟩ := h
  refine ⟨xs, own_kp h1 fun k cs hk hc _ => hs k cs _ hk (Or.inl rfl) hc, fun i hi => ?_⟩
  obtain ⟨x, hx, ho⟩ := h2 i hi
  exact ⟨x, hx, own_kp ho fun k cs hk hc _ => hs k cs _ hk (Or.inr rfl) hc⟩
theorem RowsN.keep {B : Nat} {w w' : World} {v : Value} {ls : List (List ByteArray)} (h : RowsN B w v ls) (hs : St B 39 9 w w') : RowsN B w' v ls := by
  obtain ⟨xs, h1, h2⟩ := h
  refine ⟨xs, own_kp h1 fun k cs hk hc _ => hs k cs _ hk (Or.inl rfl) hc, fun i hi => ?_⟩
  obtain ⟨x, hx, ho⟩ := h2 i hi
  exact ⟨x, hx, own_kp ho fun k cs hk hc _ => hs k cs _ hk (Or.inr rfl) hc⟩
theorem St.of_below {B : Nat} {T T' : TypeId} {w w' : World} (h : Below w.heap.size w w') : St B T T' w w' := fun k _ _ _ _ hc => h.block k (lt_of_block hc)
theorem St.of_kp {B c : Nat} {T T' : TypeId} {w w' : World} (h : Kp (fun k => k = c) w w') (hc : c < B) : St B T T' w w' := fun k _ _ hk _ hb => h.block k (lt_of_block hb) (by omega)
theorem St.put {B l : Nat} {T T' : TypeId} {w : World} {o o' : Obj} (hl : w.heap[l]? = some o) (ho : o.isCells = false) : St B T T' w (w.putObj l o') := fun k cs t _ _ hb => World.putObj_heap_other (fun e => by subst e; rw [hl] at hb; cases hb; cases ho)
theorem RowsZ.snoc {B : Nat} {w w' : World} {v v' x : Value} {ls : List (List Int)} {l : List Int} {xs : List Value} (h1 : w.ownsRow B 42 1 v ls.length xs) (h2 : ∀ (i : Nat) (hi : i < ls.length), ∃ x, xs[i]? = some x ∧ OwnZ B w x ls[i]) (hx : OwnZ B w x l) (ho : w'.ownsRow B 42 1 v' (ls.length + 1) (xs ++ [x])) (hg : w.grownBy w' v.ownBlock) : RowsZ B w' v' (ls ++ [l]) := by
  have hlen : xs.length = ls.length := by have := h1.1; omega
  have ne : ∀ {y : Value} {m : List Int}, OwnZ B w y m → OwnZ B w' y m := fun hy => own_kp hy fun k cs _ hc _ => hg.block k (lt_of_block hc) (fun e => by
    obtain ⟨_, _, cur, h9⟩ := own_blk h1 e.symm
    have h8 := h9.symm.trans hc
    injection h8 with h7
    injection h7 with _ h6
    exact absurd h6 (by decide))
  refine ⟨xs ++ [x], by rw [List.length_append, List.length_singleton]; exact ho, fun i hi => ?_⟩
  by_cases e : i < ls.length
  · obtain ⟨y, hy, hyo⟩ := h2 i e
    exact ⟨y, by rw [List.getElem?_append_left (by omega)]; exact hy, by rw [List.getElem_append_left e]; exact ne hyo⟩
  · have e2 : i = ls.length := by simp at hi; omega
    subst e2
    exact ⟨x, by rw [List.getElem?_append_right (by omega), hlen]; simp, by simpa using ne hx⟩
theorem RowsN.snoc {B : Nat} {w w' : World} {v v' x : Value} {ls : List (List ByteArray)} {l : List ByteArray} {xs : List Value} (h1 : w.ownsRow B 39 1 v ls.length xs) (h2 : ∀ (i : Nat) (hi : i < ls.length), ∃ x, xs[i]? = some x ∧ OwnN B w x ls[i]) (hx : OwnN B w x l) (ho : w'.ownsRow B 39 1 v' (ls.length + 1) (xs ++ [x])) (hg : w.grownBy w' v.ownBlock) : RowsN B w' v' (ls ++ [l]) := by
  have hlen : xs.length = ls.length := by have := h1.1; omega
  have ne : ∀ {y : Value} {m : List ByteArray}, OwnN B w y m → OwnN B w' y m := fun hy => own_kp hy fun k cs _ hc _ => hg.block k (lt_of_block hc) (fun e => by
    obtain ⟨_, _, cur, h9⟩ := own_blk h1 e.symm
    have h8 := h9.symm.trans hc
    injection h8 with h7
    injection h7 with _ h6
    exact absurd h6 (by decide))
  refine ⟨xs ++ [x], by rw [List.length_append, List.length_singleton]; exact ho, fun i hi => ?_⟩
  by_cases e : i < ls.length
  · obtain ⟨y, hy, hyo⟩ := h2 i e
    exact ⟨y, by rw [List.getElem?_append_left (by omega)]; exact hy, by rw [List.getElem_append_left e]; exact ne hyo⟩
  · have e2 : i = ls.length := by simp at hi; omega
    subst e2
    exact ⟨x, by rw [List.getElem?_append_right (by omega), hlen]; simp, by simpa using ne hx⟩
structure Rd (w W : World) (B b2 b3 b4 : Nat) (pre : List ByteArray) (uv vv : Value) : Prop where
  ok : ∀ x ∈ pre, (upL x).isSome = true
  m : Cl W b4 #[uv, vv] 25
  up : RowsZ B W uv (mdL pre).up
  val : RowsN B W vv (mdL pre).val
  r2 : Cl W b2 #[.slice none 0 0, .slice none 0 0] 25
  r3 : Cl W b3 #[.bool false] 4
  bel : Below w.heap.size w W
  sz : B ≤ W.heap.size
structure RdN' (w : World) (B b2 b3 b4 c : Nat) : Prop where
  w2 : w.heap.size ≤ b2
  w3 : b2 < b3
  w4 : b3 < b4
  wc : b4 < c
  wB : c < B
def Rx (w W : World) (b2 b3 : Nat) (pre : List ByteArray) : Prop := Cl W b2 #[.slice none 0 0, .slice none 0 0] 25 ∧ Cl W b3 #[.bool false] 4 ∧ Below w.heap.size w W ∧ ∃ x ∈ pre, upL x = none
section
variable {w W W' : World} {B b2 b3 b4 c : Nat} {pre : List ByteArray} {uv vv : Value}
theorem Rd.later (h : Rd w W B b2 b3 b4 pre uv vv) (hb : Below W.heap.size W W') : Rd w W' B b2 b3 b4 pre uv vv :=
  ⟨h.ok, h.m.later hb, h.up.keep (St.of_below hb), h.val.keep (St.of_below hb), h.r2.later hb, h.r3.later hb, h.bel.trans (hb.mono h.bel.size), Nat.le_trans h.sz hb.size⟩
theorem Rd.kp (h : Rd w W B b2 b3 b4 pre uv vv) (hn : RdN' w B b2 b3 b4 c) (hk : Kp (fun k => k = c) W W') : Rd w W' B b2 b3 b4 pre uv vv := by
  have := hn.w2; have := hn.w3; have := hn.w4; have := hn.wc; have := hn.wB
  exact ⟨h.ok, h.m.kp hk (by omega), h.up.keep (St.of_kp hk hn.wB), h.val.keep (St.of_kp hk hn.wB), h.r2.kp hk (by omega), h.r3.kp hk (by omega), h.bel.trans (hk.below h.bel.size fun k e => by omega), Nat.le_trans h.sz hk.size⟩
theorem below_putO {n l : Nat} {w W : World} (h : Below n w W) (hl : n ≤ l) (o : Obj) : Below n w (W.putObj l o) :=
  ⟨h.os, h.tape, h.output, Nat.le_trans h.size (by simp), fun k hk => (World.putObj_heap_other (by omega)).trans (h.block k hk)⟩
theorem Rd.put (h : Rd w W B b2 b3 b4 pre uv vv) (hn : RdN' w B b2 b3 b4 c) {l : Nat} {o : Obj} (o' : Obj) (hl : B ≤ l) (hb : W.heap[l]? = some o) (ho : o.isCells = false) : Rd w (W.putObj l o') B b2 b3 b4 pre uv vv := by
  have := hn.w2; have := hn.w3; have := hn.w4; have := hn.wc; have := hn.wB
  exact ⟨h.ok, (World.putObj_heap_other (by omega)).trans h.m, h.up.keep (St.put hb ho), h.val.keep (St.put hb ho), (World.putObj_heap_other (by omega)).trans h.r2, (World.putObj_heap_other (by omega)).trans h.r3, below_putO h.bel (by omega) _, Nat.le_trans h.sz (by simp)⟩
theorem Rx.kp (h : Rx w W b2 b3 pre) (hn : RdN' w B b2 b3 b4 c) (hk : Kp (fun k => k = c) W W') : Rx w W' b2 b3 pre := by
  have := hn.w2; have := hn.w3; have := hn.w4; have := hn.wc
  exact ⟨h.1.kp hk (by omega), h.2.1.kp hk (by omega), h.2.2.1.trans (hk.below h.2.2.1.size fun k e => by omega), h.2.2.2⟩
theorem Rx.put (h : Rx w W b2 b3 pre) (hn : RdN' w B b2 b3 b4 c) {l : Nat} (o' : Obj) (hl : B ≤ l) : Rx w (W.putObj l o') b2 b3 pre := by
  have := hn.w2; have := hn.w3; have := hn.w4; have := hn.wc; have := hn.wB
  exact ⟨(World.putObj_heap_other (by omega)).trans h.1, (World.putObj_heap_other (by omega)).trans h.2.1, below_putO h.2.2.1 (by omega) _, h.2.2.2⟩
end
structure Rh (w W : World) (B b2 b3 b4 : Nat) (up : List (List Int)) (val : List (List ByteArray)) (uv vv : Value) : Prop where
  m : Cl W b4 #[uv, vv] 25
  up : RowsZ B W uv up
  val : RowsN B W vv val
  r2 : Cl W b2 #[.slice none 0 0, .slice none 0 0] 25
  r3 : Cl W b3 #[.bool false] 4
  bel : Below w.heap.size w W
  sz : B ≤ W.heap.size
theorem Rd.half {w W : World} {B b2 b3 b4 : Nat} {pre : List ByteArray} {uv vv : Value} (h : Rd w W B b2 b3 b4 pre uv vv) : Rh w W B b2 b3 b4 (mdL pre).up (mdL pre).val uv vv := ⟨h.m, h.up, h.val, h.r2, h.r3, h.bel, h.sz⟩
theorem Rh.whole {w W : World} {B b2 b3 b4 : Nat} {pre : List ByteArray} {uv vv : Value} (h : Rh w W B b2 b3 b4 (mdL pre).up (mdL pre).val uv vv) (hk : ∀ x ∈ pre, (upL x).isSome = true) : Rd w W B b2 b3 b4 pre uv vv := ⟨hk, h.m, h.up, h.val, h.r2, h.r3, h.bel, h.sz⟩
section
variable {w W W' : World} {B b2 b3 b4 c : Nat} {up : List (List Int)} {val : List (List ByteArray)} {uv vv : Value}
theorem Rh.later (h : Rh w W B b2 b3 b4 up val uv vv) (hb : Below W.heap.size W W') : Rh w W' B b2 b3 b4 up val uv vv :=
  ⟨h.m.later hb, h.up.keep (St.of_below hb), h.val.keep (St.of_below hb), h.r2.later hb, h.r3.later hb, h.bel.trans (hb.mono h.bel.size), Nat.le_trans h.sz hb.size⟩
theorem St.of_grow {B : Nat} {T T' T0 : TypeId} {w w' : World} {v : Value} {n : Nat} {xs : List Value} (h1 : w.ownsRow B T0 1 v n xs) (hg : w.grownBy w' v.ownBlock) (h : T0 ≠ T) (h' : T0 ≠ T') : St B T T' w w' := fun k cs t _ ht hb => hg.block k (lt_of_block hb) (fun e => by
    obtain ⟨_, _, cur, h9⟩ := own_blk h1 e.symm
    have h8 := h9.symm.trans hb
    injection h8 with h7
    injection h7 with _ h6
    rcases ht with rfl | rfl
    · exact h h6
    · exact h' h6)
theorem grow_old {B k : Nat} {T0 : TypeId} {w w' : World} {v : Value} {n : Nat} {xs : List Value} (h1 : w.ownsRow B T0 1 v n xs) (hg : w.grownBy w' v.ownBlock) (hk : k < B) (hs : B ≤ w.heap.size) : w'.heap[k]? = w.heap[k]? := hg.block k (by omega) (fun e => by have := (own_blk h1 e.symm).1; omega)
theorem Rh.grow (h : Rh w W B b2 b3 b4 up val uv vv) (hn : RdN' w B b2 b3 b4 c) {T0 : TypeId} {v : Value} {n : Nat} {xs : List Value} (h1 : W.ownsRow B T0 1 v n xs) (hg : W.grownBy W' v.ownBlock) : Cl W' b4 #[uv, vv] 25 ∧ Cl W' b2 #[.slice none 0 0, .slice none 0 0] 25 ∧ Cl W' b3 #[.bool false] 4 ∧ Below w.heap.size w W' ∧ B ≤ W'.heap.size ∧ W'.heap[c]? = W.heap[c]? := by
  have := hn.w2; have := hn.w3; have := hn.w4; have := hn.wc; have := hn.wB
  have old : ∀ k, k < B → W'.heap[k]? = W.heap[k]? := fun k hk => grow_old h1 hg hk h.sz
  exact ⟨(old b4 (by omega)).trans h.m, (old b2 (by omega)).trans h.r2, (old b3 (by omega)).trans h.r3, h.bel.trans ⟨hg.os, hg.tape, hg.output, hg.size, fun k hk => old k (by omega)⟩, Nat.le_trans h.sz hg.size, old c hn.wB⟩
theorem keeps_grow {T0 : TypeId} {v : Value} {n : Nat} {xs : List Value} (h1 : W.ownsRow B T0 1 v n xs) (hg : W.grownBy W' v.ownBlock) (D : Nat) : KeepsFrom D W W' := ⟨hg.size, fun k o _ hk ho => (hg.block k (lt_of_block hk) (fun e => by
    obtain ⟨_, _, cur, h9⟩ := own_blk h1 e.symm
    have h8 := h9.symm.trans hk
    cases h8
    cases ho)).trans hk⟩
end
structure RS (w w7 W : World) (B b2 b3 b4 c : Nat) (up : List (List Int)) (uv vv : Value) (d5 d7 : Bool) : Prop where
  m : d7 = false → Cl W b4 #[uv, vv] 25
  up : RowsZ B W uv up
  r2 : Cl W b2 #[.slice none 0 0, .slice none 0 0] 25
  r3 : Cl W b3 #[.bool false] 4
  bel : Below w.heap.size w W
  sz : B ≤ W.heap.size
  sz7 : w7.heap.size ≤ W.heap.size
  kf : KeepsFrom B w7 W
  cc : W.heap[c]? = w7.heap[c]?
  b5 : d5 = false → Below w7.heap.size w7 W
section
variable {w w7 W W' : World} {B b2 b3 b4 c : Nat} {up : List (List Int)} {uv vv : Value} {d5 d7 d5' d7' : Bool}
theorem RS.later (h : RS w w7 W B b2 b3 b4 c up uv vv d5 d7) (hn : RdN' w B b2 b3 b4 c) (_h7 : B ≤ w7.heap.size) (hb : Below W.heap.size W W') (e5 : d5' = false → d5 = false) (e7 : d7' = false → d7 = false) : RS w w7 W' B b2 b3 b4 c up uv vv d5' d7' :=
  ⟨fun e => (h.m (e7 e)).later hb, h.up.keep (St.of_below hb), h.r2.later hb, h.r3.later hb, h.bel.trans (hb.mono h.bel.size), Nat.le_trans h.sz hb.size, Nat.le_trans h.sz7 hb.size, h.kf.trans ⟨hb.size, fun k o _ hk _ => (hb.block k (lt_of_block hk)).trans hk⟩, (hb.block c (by have := hn.wB; have := h.sz; omega)).trans h.cc, fun e => (h.b5 (e5 e)).trans (hb.mono h.sz7)⟩
theorem RS.grow (h : RS w w7 W B b2 b3 b4 c up uv vv d5 false) (hn : RdN' w B b2 b3 b4 c) {n : Nat} {xs : List Value} (h1 : W.ownsRow B 39 1 vv n xs) (hg : W.grownBy W' vv.ownBlock) : RS w w7 W' B b2 b3 b4 c up uv vv true false := by
  have := hn.w2; have := hn.w3; have := hn.w4; have := hn.wc; have := hn.wB
  have old : ∀ k, k < B → W'.heap[k]? = W.heap[k]? := fun k hk => grow_old h1 hg hk h.sz
  exact ⟨fun _ => (old b4 (by omega)).trans (h.m rfl), h.up.keep (St.of_grow h1 hg (by decide) (by decide)), (old b2 (by omega)).trans h.r2, (old b3 (by omega)).trans h.r3, h.bel.trans ⟨hg.os, hg.tape, hg.output, hg.size, fun k hk => old k (by omega)⟩, Nat.le_trans h.sz hg.size, Nat.le_trans h.sz7 hg.size, h.kf.trans (keeps_grow h1 hg B), (old c hn.wB).trans h.cc, fun e => (by cases e)⟩
theorem RS.store (h : RS w w7 W B b2 b3 b4 c up uv vv true false) (hn : RdN' w B b2 b3 b4 c) (x : Value) : RS w w7 (W.setCell ⟨b4, 1, none⟩ x) B b2 b3 b4 c up uv vv true true := by
  have := hn.w2; have := hn.w3; have := hn.w4; have := hn.wc; have := hn.wB
  have hk : Kp (fun k => k = b4) W (W.setCell ⟨b4, 1, none⟩ x) := (Kp.refl (fun k => k = b4) W).set (p := b4) rfl 1 x
  exact ⟨fun e => (by cases e), h.up.keep (St.of_kp hk (by omega)), h.r2.kp hk (by omega), h.r3.kp hk (by omega), h.bel.trans (hk.below h.bel.size fun k e => by omega), Nat.le_trans h.sz hk.size, Nat.le_trans h.sz7 hk.size, h.kf.trans ((KeepsOthers.setCell _ _ _).from _), (hk.block c (by have := h.sz; omega) (by omega)).trans h.cc, fun e => (by cases e)⟩
end
def LeR (w7 : World) (b4 : Nat) (i : Nat) (W W' : World) : Prop := i < 8 ∧ (i ≠ 7 → i ≠ 5 → Below W.heap.size W W') ∧ (i = 5 → ∀ k, w7.heap.size ≤ k → k < W.heap.size → W'.heap[k]? = W.heap[k]?) ∧ (i = 7 → Kp (fun k => k = b4) W W')
theorem LeR.fresh {w7 W W' : World} {b4 i k : Nat} (h : LeR w7 b4 i W W') (hb : b4 < w7.heap.size) (hk : w7.heap.size ≤ k) (hl : k < W.heap.size) : W'.heap[k]? = W.heap[k]? := by
  by_cases e7 : i = 7
  · exact (h.2.2.2 e7).block k hl (by omega)
  · by_cases e5 : i = 5
    · exact h.2.2.1 e5 k hk hl
    · exact (h.2.1 e7 e5).block k hl
theorem LeR.own {w7 W W' : World} {b4 i : Nat} {v : Value} {l : List ByteArray} (h : LeR w7 b4 i W W') (hb : b4 < w7.heap.size) (ho : OwnN w7.heap.size W v l) : OwnN w7.heap.size W' v l := own_kp ho fun _ _ hk hc _ => h.fresh hb hk (lt_of_block hc)
theorem infoLI : (Tryd.prog.info? 42).map (fun i => (i.zero, i.size, i.bytes)) = some (some (.slice none 0 0), 1, 24) := by kernel_rfl
theorem infoLS : (Tryd.prog.info? 39).map (fun i => (i.zero, i.size, i.bytes)) = some (some (.slice none 0 0), 1, 24) := by kernel_rfl
theorem below_drewN (w : World) (n : Nat) : Below w.heap.size w (w.drewN n) := ⟨rfl, rfl, rfl, Nat.le_refl _, fun _ _ => rfl⟩
theorem cut_len (s sep : List UInt8) : (Lib.cut s sep).1.length ≤ s.length ∧ (Lib.cut s sep).2.1.length ≤ s.length := by
  unfold Lib.cut
  split
  · simp only [List.length_take, List.length_drop]; omega
  · simp
theorem fields_len : ∀ (f : Nat) (cur l : List UInt8), (Lib.fieldsGoD f cur l).length ≤ f + 1 ∧ ∀ x ∈ Lib.fieldsGoD f cur l, x.length ≤ cur.length + l.length
  | 0, cur, l => by
    simp only [Lib.fieldsGoD]
    try split
    all_goals (first | (constructor <;> simp <;> done) | (refine ⟨by simp, fun x hx => ?_⟩; simp at hx; subst hx; omega))
  | f + 1, cur, l => by
    simp only [Lib.fieldsGoD]
    have ih1 := fields_len f [] (l.drop (Lib.decodeL l).2)
    have ih2 := fields_len f (cur ++ l.take (Lib.decodeL l).2) (l.drop (Lib.decodeL l).2)
    split
    · split
      · exact ⟨by simp, fun x hx => (by cases hx)⟩
      · refine ⟨by simp, fun x hx => ?_⟩
        simp at hx; subst hx; omega
    · split
      · refine ⟨?_, fun x hx => ?_⟩
        · rw [List.length_append]
          have := ih1.1
          split
          · simp only [List.length_nil]; omega
          · simp only [List.length_singleton]; omega
        · rcases List.mem_append.1 hx with hx | hx
          · split at hx
            · cases hx
            · simp at hx; subst hx; omega
          · have := ih1.2 x hx
            rw [List.length_drop] at this
            simp only [List.length_nil] at this
            omega
      · refine ⟨by have := ih2.1; omega, fun x hx => ?_⟩
        have := ih2.2 x hx
        rw [List.length_append, List.length_take, List.length_drop] at this
        omega
theorem fieldsD_len (l : List UInt8) : (Lib.fieldsD l).length ≤ l.length + 2 ∧ ∀ x ∈ Lib.fieldsD l, x.length ≤ l.length := by
  have := fields_len (l.length + 1) [] l
  exact ⟨by unfold Lib.fieldsD; omega, fun x hx => by simpa using this.2 x hx⟩
theorem OwnN.isN {base : Nat} {w : World} {v : Value} {l : List ByteArray} (h : OwnN base w v l) : IsN w w.heap.size v l := by
  rcases h.2 with ⟨rfl, h0⟩ | ⟨g, cap, cur, rfl, hg, hh, h1, h2, h3, h4⟩
  · obtain rfl : l = [] := List.eq_nil_of_length_eq_zero h0
    exact ⟨_, _, rfl, fun h => absurd h (by simp)⟩
  · refine ⟨_, _, rfl, fun h0 => ⟨g, 0, lt_of_block hh, rfl, fun k hk => ?_⟩⟩
    have hc := h.cellAt k (by omega)
    rw [Nat.zero_add]
    exact ⟨.string l[k], hc.trans (by simp [hk]), rfl⟩
end Go.Proofs.YtjbnbaiidpdpoaaDoor.Wm
