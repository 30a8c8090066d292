/-
  Tokens, readers and closures in memory. No condition.
-/
import Derived.Test.YtcidldgenogdkaaGreatDoorFCutC
import Derived.Test.YtcidldgenogdkaaGreatDoorFAsk
import Derived.Test.YtcidldgenogdkaaGreatDoorFBelow
import Derived.Test.YtcidldgenogdkaaGreatDoorSPut
import Derived.Recover
namespace Go.Proofs.YtcidldgenogdkaaGreatDoor
open Go.RowKit Go.Maps
open Fm (Nd)
open Sx (Tn T)

def ptrV (g : Nat) : Value := .pointer (some ⟨g, 0, none⟩)
/-- A token's cells, and a token as a value. -/
def tnC (t : Tn) : List Value := [.int .i64 t.k, .string t.s, .int .i64 t.n, .int .i64 t.l, .int .i64 t.c, .int .i64 t.o]
def tnV (t : Tn) : Value := .agg #[.int .i64 t.k, .string t.s, .int .i64 t.n, .int .i64 t.l, .int .i64 t.c, .int .i64 t.o]
def toksOf (ts : List Tn) : List Value := ts.flatMap tnC
theorem toksOf_at : ∀ (ts : List Tn) (k j : Nat) (hk : k < ts.length), j < 6 → (toksOf ts)[k * 6 + j]? = (tnC ts[k])[j]?
  | [], k, j, hk, _ => absurd hk (by simp)
  | n :: ts, 0, j, hk, hj => by
    show (tnC n ++ toksOf ts)[0 * 6 + j]? = _
    rw [List.getElem?_append_left (by show 0 * 6 + j < 6; omega), Nat.zero_mul, Nat.zero_add]
    rfl
  | n :: ts, k + 1, j, hk, hj => by
    have hl : (tnC n).length = 6 := rfl
    show (tnC n ++ toksOf ts)[(k + 1) * 6 + j]? = _
    rw [List.getElem?_append_right (by rw [hl]; omega), hl, show (k + 1) * 6 + j - 6 = k * 6 + j by omega]
    rw [toksOf_at ts k j (by simpa using hk) hj]
    rfl
/-- A slice that holds these tokens, at the head of a block of its own. -/
def TsAt (w : World) (g cap : Nat) (ts : List Tn) : Prop :=
  ∃ cur, w.heap[g]? = some (.cells cur 45 (0, 0)) ∧ ts.length ≤ cap ∧ cap ≤ maxLen ∧ cur.toList.take (ts.length * 6) = toksOf ts ∧ ts.length ≤ 4611686018427387904
theorem TsAt.cell {w : World} {g cap : Nat} {ts : List Tn} (h : TsAt w g cap ts) {k : Nat} (hk : k < ts.length) : ∀ j, j < 6 → w.cell? ⟨g, k * 6 + j, none⟩ = (tnC ts[k])[j]? := by
  intro j hj
  obtain ⟨cur, hh, _, _, ht, _⟩ := h
  rw [cell_of_row w g _ cur _ _ hh, ← toksOf_at ts k j hk hj, ← ht, List.getElem?_take, if_pos (by omega)]
  simp
theorem TsAt.keep {w w' : World} {g cap : Nat} {ts : List Tn} (h : TsAt w g cap ts) (hk : w'.heap[g]? = w.heap[g]?) : TsAt w' g cap ts := by
  obtain ⟨cur, hh, r⟩ := h
  exact ⟨cur, hk.trans hh, r⟩
/-- The reader at block p: its table at b, its tokens, the next one, how many were counted, how many parentheses are open. -/
def Rdr (w : World) (p b g cap len i n d : Nat) : Prop :=
  w.heap[p]? = some (.cells #[ptrV b, .slice (some ⟨g, 0, none⟩) len cap, .int .i64 (i : Int), .int .i64 (n : Int), .int .i64 (d : Int)] 112 (0, 0))
section
variable {w w' : World} {p b g cap len i n d : Nat}
theorem Rdr.c0 (h : Rdr w p b g cap len i n d) : w.cell? ⟨p, 0, none⟩ = some (.pointer (some ⟨b, 0, none⟩)) := by rw [cell_of_row w p 0 _ _ _ h]; rfl
theorem Rdr.c1 (h : Rdr w p b g cap len i n d) : w.cell? ⟨p, 1, none⟩ = some (.slice (some ⟨g, 0, none⟩) len cap) := by rw [cell_of_row w p 1 _ _ _ h]; rfl
theorem Rdr.c2 (h : Rdr w p b g cap len i n d) : w.cell? ⟨p, 2, none⟩ = some (.int .i64 (i : Int)) := by rw [cell_of_row w p 2 _ _ _ h]; rfl
theorem Rdr.c3 (h : Rdr w p b g cap len i n d) : w.cell? ⟨p, 3, none⟩ = some (.int .i64 (n : Int)) := by rw [cell_of_row w p 3 _ _ _ h]; rfl
theorem Rdr.c4 (h : Rdr w p b g cap len i n d) : w.cell? ⟨p, 4, none⟩ = some (.int .i64 (d : Int)) := by rw [cell_of_row w p 4 _ _ _ h]; rfl
theorem Rdr.fr (h : Rdr w p b g cap len i n d) (j : Nat) : w.frozen? ⟨p, j, none⟩ = false := frozen_of_row w p j _ _ h
theorem Rdr.lt (h : Rdr w p b g cap len i n d) : p < w.heap.size := lt_of_block h
theorem Rdr.s2 (h : Rdr w p b g cap len i n d) (x : Nat) : Rdr (w.setCell ⟨p, 2, none⟩ (.int .i64 (x : Int))) p b g cap len x n d := heap_setCell_same w p 2 _ _ _ h
theorem Rdr.s3 (h : Rdr w p b g cap len i n d) (x : Nat) : Rdr (w.setCell ⟨p, 3, none⟩ (.int .i64 (x : Int))) p b g cap len i x d := heap_setCell_same w p 3 _ _ _ h
theorem Rdr.s4 (h : Rdr w p b g cap len i n d) (x : Nat) : Rdr (w.setCell ⟨p, 4, none⟩ (.int .i64 (x : Int))) p b g cap len i n x := heap_setCell_same w p 4 _ _ _ h
theorem Rdr.keep (h : Rdr w p b g cap len i n d) (hk : w'.heap[p]? = w.heap[p]?) : Rdr w' p b g cap len i n d := hk.trans h
theorem Rdr.later (h : Rdr w p b g cap len i n d) (hb : Below w.heap.size w w') : Rdr w' p b g cap len i n d := (hb.block p h.lt).trans h
end
/-- Only block p may have turned. -/
abbrev KpP (p : Nat) (w w' : World) : Prop := Kp (fun k => k = p) w w'
theorem KpP.trans {p : Nat} {a b c : World} (h : KpP p a b) (k : KpP p b c) : KpP p a c := Kp.trans h k fun _ e => Or.inl e
theorem KpP.of_below {p : Nat} {a b : World} (h : Below a.heap.size a b) : KpP p a b := Kp.of_below h
theorem KpP.set {p : Nat} {a b : World} (h : KpP p a b) (j : Nat) (x : Value) : KpP p a (b.setCell ⟨p, j, none⟩ x) :=
  ⟨h.os, h.tape, h.output, by simpa using h.size, fun k hk hn => (Below.heap_setCell _ _ _ _ hn).trans (h.block k hk hn)⟩
/-- A variable of one cell at block g. -/
def Box (w : World) (g : Nat) (x : Value) (ty : TypeId) : Prop := w.heap[g]? = some (.cells #[x] ty (0, 0))
theorem Box.c0 {w : World} {g : Nat} {x : Value} {ty : TypeId} (h : Box w g x ty) : w.cell? ⟨g, 0, none⟩ = some x := by rw [cell_of_row w g 0 _ _ _ h]; rfl
theorem Box.lt {w : World} {g : Nat} {x : Value} {ty : TypeId} (h : Box w g x ty) : g < w.heap.size := lt_of_block h
theorem Box.fr {w : World} {g : Nat} {x : Value} {ty : TypeId} (h : Box w g x ty) (j : Nat) : w.frozen? ⟨g, j, none⟩ = false := frozen_of_row w g j _ _ h
/-- Blocks of the closures' variables: of their types, one cell. -/
def IsBox (w : World) (g : Nat) : Prop := ∃ x ty, Box w g x ty ∧ (ty = 68 ∨ ty = 9 ∨ ty = 113 ∨ ty = 156)
def howV (p b : Nat) (k : Int) : Value :=
  if k = 3 then .func (.func 115) #[ptrV b] #[] else if k = 4 then .func (.func 136) #[ptrV b] #[] else if k = 5 then .func (.func 111) #[ptrV b] #[] else .func (.func 89) #[ptrV p] #[]
/-- The value c is the closure that puts a tree. -/
def Pts (w : World) (p b : Nat) : T → Value → Prop
  | .bot, c => ∃ g, c = .func (.func 153) #[] #[ptrV g] ∧ Box w g (ptrV p) 68
  | .top, c => ∃ g, c = .func (.func 154) #[] #[ptrV g] ∧ Box w g (ptrV p) 68
  | .atom s, c => ∃ g g2, c = .func (.func 155) #[] #[ptrV g, ptrV g2] ∧ Box w g (ptrV p) 68 ∧ Box w g2 (.string s) 9
  | .neg a, c => ∃ g g2 ca, c = .func (.func 147) #[] #[ptrV g, ptrV g2] ∧ Box w g (ptrV p) 68 ∧ Box w g2 ca 113 ∧ Pts w p b a ca
  | .bin k a a2, c => ∃ g g2 g3 ca ca2, c = .func (.func 113) #[] #[ptrV g, ptrV g2, ptrV g3] ∧ Box w g ca 113 ∧ Box w g2 ca2 113 ∧ Box w g3 (howV p b k) 156 ∧ Pts w p b a ca ∧ Pts w p b a2 ca2
  | .iff a a2, c => ∃ g g2 g3 ca ca2, c = .func (.func 113) #[] #[ptrV g, ptrV g2, ptrV g3] ∧ Box w g ca 113 ∧ Box w g2 ca2 113 ∧ Box w g3 (howV p b 0) 156 ∧ Pts w p b a ca ∧ Pts w p b a2 ca2
theorem Pts.keep {w w' : World} {p b : Nat} (hk : ∀ g, IsBox w g → w'.heap[g]? = w.heap[g]?) : ∀ {a : T} {c : Value}, Pts w p b a c → Pts w' p b a c
  | .bot, _, ⟨g, h, b1⟩ => ⟨g, h, (hk g ⟨_, _, b1, Or.inl rfl⟩).trans b1⟩
  | .top, _, ⟨g, h, b1⟩ => ⟨g, h, (hk g ⟨_, _, b1, Or.inl rfl⟩).trans b1⟩
  | .atom _, _, ⟨g, g2, h, b1, b2⟩ => ⟨g, g2, h, (hk g ⟨_, _, b1, Or.inl rfl⟩).trans b1, (hk g2 ⟨_, _, b2, Or.inr (Or.inl rfl)⟩).trans b2⟩
  | .neg _, _, ⟨g, g2, ca, h, b1, b2, r⟩ => ⟨g, g2, ca, h, (hk g ⟨_, _, b1, Or.inl rfl⟩).trans b1, (hk g2 ⟨_, _, b2, Or.inr (Or.inr (Or.inl rfl))⟩).trans b2, Pts.keep hk r⟩
  | .bin _ _ _, _, ⟨g, g2, g3, ca, ca2, h, b1, b2, b3, r1, r2⟩ => ⟨g, g2, g3, ca, ca2, h, (hk g ⟨_, _, b1, Or.inr (Or.inr (Or.inl rfl))⟩).trans b1, (hk g2 ⟨_, _, b2, Or.inr (Or.inr (Or.inl rfl))⟩).trans b2, (hk g3 ⟨_, _, b3, Or.inr (Or.inr (Or.inr rfl))⟩).trans b3, Pts.keep hk r1, Pts.keep hk r2⟩
  | .iff _ _, _, ⟨g, g2, g3, ca, ca2, h, b1, b2, b3, r1, r2⟩ => ⟨g, g2, g3, ca, ca2, h, (hk g ⟨_, _, b1, Or.inr (Or.inr (Or.inl rfl))⟩).trans b1, (hk g2 ⟨_, _, b2, Or.inr (Or.inr (Or.inl rfl))⟩).trans b2, (hk g3 ⟨_, _, b3, Or.inr (Or.inr (Or.inr rfl))⟩).trans b3, Pts.keep hk r1, Pts.keep hk r2⟩
theorem IsBox.lt {w : World} {g : Nat} (h : IsBox w g) : g < w.heap.size := by obtain ⟨x, ty, hb, _⟩ := h; exact hb.lt
theorem IsBox.ne {w : World} {g k : Nat} (h : IsBox w g) {cs : Array Value} {ty : TypeId} {fr : Nat × Nat} (hk : w.heap[k]? = some (.cells cs ty fr)) (hty : ty ≠ 68 ∧ ty ≠ 9 ∧ ty ≠ 113 ∧ ty ≠ 156) : g ≠ k := by
  obtain ⟨x, t2, hb, hh⟩ := h
  rintro rfl
  unfold Box at hb
  rw [hb] at hk
  simp only [Option.some.injEq, Obj.cells.injEq] at hk
  obtain ⟨_, rfl, _⟩ := hk
  rcases hh with rfl | rfl | rfl | rfl
  · exact hty.1 rfl
  · exact hty.2.1 rfl
  · exact hty.2.2.1 rfl
  · exact hty.2.2.2 rfl
theorem Pts.later {w w' : World} {p b : Nat} {a : T} {c : Value} (h : Pts w p b a c) (hb : Below w.heap.size w w') : Pts w' p b a c := Pts.keep (fun _ hg => hb.block _ hg.lt) h
theorem Pts.kpP {w w' : World} {p b b2 g cap len i n d : Nat} {a : T} {c : Value} (h : Pts w p b a c) (hr : Rdr w p b2 g cap len i n d) (hk : KpP p w w') : Pts w' p b a c :=
  Pts.keep (fun _ hg => hk.block _ hg.lt (hg.ne hr (by decide))) h
theorem IsBox.ft {w : World} {g b m : Nat} {v : Value} {t : List Nd} (h : IsBox w g) (hT : Tb w b m v t) : ¬ Ft b m v g := by
  rintro (rfl | rfl | e)
  · exact h.ne hT.tab (by decide) rfl
  · obtain ⟨x, ty, hb, _⟩ := h
    obtain ⟨D, ⟨es, cl, hm, _⟩, _⟩ := hT.map
    unfold Box at hb
    rw [hb] at hm
    cases hm
  · obtain ⟨_, cur, hh⟩ := hT.row.lt g e
    exact h.ne hh (by decide) rfl
theorem Pts.after {w w' : World} {p b m : Nat} {v : Value} {t : List Nd} {a : T} {c : Value} (h : Pts w p b a c) (hT : Tb w b m v t) (hk : Kp (Ft b m v) w w') : Pts w' p b a c :=
  Pts.keep (fun _ hg => hk.block _ hg.lt (hg.ft hT)) h
theorem Rdr.ft {w : World} {p b0 b m g cap len i n d : Nat} {v : Value} {t : List Nd} (h : Rdr w p b0 g cap len i n d) (hT : Tb w b m v t) : ¬ Ft b m v p := by
  unfold Rdr at h
  rintro (rfl | rfl | e)
  · rw [hT.tab] at h
    simp at h
  · obtain ⟨D, ⟨es, cl, hm, _⟩, _⟩ := hT.map
    rw [h] at hm
    cases hm
  · obtain ⟨_, cur, hh⟩ := hT.row.lt p e
    rw [h] at hh
    simp at hh
theorem Rdr.after {w w' : World} {p b0 b m g cap len i n d : Nat} {v : Value} {t : List Nd} (h : Rdr w p b0 g cap len i n d) (hT : Tb w b m v t) (hk : Kp (Ft b m v) w w') : Rdr w' p b0 g cap len i n d := (hk.block _ h.lt (h.ft hT)).trans h
/-- What is panicked with. -/
def fltV (e : Int) (t : Tn) : Value := .iface 31 (.agg #[.int .i64 e, .int .i64 t.l, .int .i64 t.c, .int .i64 t.o])
def fltP (e : Int) (t : Tn) : Ending := .panicked [{ v := fltV e t, recovered := false }]
end Go.Proofs.YtcidldgenogdkaaGreatDoor
