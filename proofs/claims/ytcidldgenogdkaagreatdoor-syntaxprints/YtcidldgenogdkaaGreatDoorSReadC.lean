/-
  The call read. For every table and list of tokens. No other condition.
-/
import Derived.Test.YtcidldgenogdkaaGreatDoorSCatch
namespace Go.Proofs.YtcidldgenogdkaaGreatDoor
open Go.RowKit Go.Maps
open Fm (Nd)
open Sx (Tn T Lv)

def finO (z : Bool) (ts : List Tn) : Sx.Out → Sx.Out
  | .bad e t => .bad e t
  | .ok a i n => if z = true ∧ (Sx.tk ts i).k ≠ 0 then .bad (if 512 < Sx.up ts i n then 40 else 41) (Sx.tk ts i) else .ok a i n
/-- What is read of tokens, with or without an end. -/
def fin (z : Bool) (ts : List Tn) : Sx.Out := finO z ts ((Sx.rd ts (8 * ts.length + 5) .formula 0 0 0).getD (.bad 0 Sx.tz))
/-- What read answers: number, size, fault, rows. -/
def wholeO (t : List Nd) : Sx.Out → (Int × Int × Int × Tn) × List Nd
  | .bad e tn => ((0, 0, e, tn), t)
  | .ok a i _ => if (Sx.pt a t).2.1 = 0 then (((Sx.pt a t).1, (i : Int), 0, Sx.tz), (Sx.pt a t).2.2) else ((0, 0, (Sx.pt a t).2.1, Sx.tz), t)
def whole (z : Bool) (ts : List Tn) (t : List Nd) : (Int × Int × Int × Tn) × List Nd := wholeO t (fin z ts)
def wholeV (r : Int × Int × Int × Tn) : Value := .tuple #[.int .i64 r.1, .int .i64 r.2.1, .agg #[.int .i64 r.2.2.1, .int .i64 r.2.2.2.l, .int .i64 r.2.2.2.c, .int .i64 r.2.2.2.o]]
theorem load_int (w : World) (g : Nat) (x : Int) (h : Box w g (.int .i64 x) 3) : (loadVar 3 ⟨g, 0, none⟩).run Tryz.prog w = .ok (.int .i64 x) w := by
  have := h.c0
  simp [loadVar, go_sem, this]
theorem results3 (tmps : Array Value) (w : World) {g1 g2 g3 : Nat} {x y e l c o : Int} (h6 : tmps.getD 6 undef = .pointer (some ⟨g1, 0, none⟩)) (h7 : tmps.getD 7 undef = .pointer (some ⟨g2, 0, none⟩)) (h8 : tmps.getD 8 undef = .pointer (some ⟨g3, 0, none⟩))
    (b1 : Box w g1 (.int .i64 x) 3) (b2 : Box w g2 (.int .i64 y) 3) (hf : Fl w g3 e l c o) :
    (results Tryz.f28 tmps).run Tryz.prog w = .ok (.tuple #[.int .i64 x, .int .i64 y, .agg #[.int .i64 e, .int .i64 l, .int .i64 c, .int .i64 o]]) w := by
  have h6' : tmps[6]?.getD undef = .pointer (some ⟨g1, 0, none⟩) := by simpa using h6
  have h7' : tmps[7]?.getD undef = .pointer (some ⟨g2, 0, none⟩) := by simpa using h7
  have h8' : tmps[8]?.getD undef = .pointer (some ⟨g3, 0, none⟩) := by simpa using h8
  have l1 := load_int w g1 x b1
  have l2 := load_int w g2 y b2
  have l3 := run_loadVar_row (P := Tryz.prog) w g3 31 31 #[.int .i64 e, .int .i64 l, .int .i64 c, .int .i64 o] (0, 0) _ hf Tryz.underlying31 rfl (by kernel_rfl)
  simp [results, Tryz.results28, h6', h7', h8', asAddr, l1, l2, l3, Result.andThen]
/-- The variables of read, at blocks from h on. -/
structure Vs (w : World) (h b n : Nat) : Prop where
  v0 : Box w h (ptrV b) 23
  v1 : Box w (h + 1) (.int .i64 0) 3
  v2 : Box w (h + 1 + 1) (.int .i64 0) 3
  v3 : Fl w (h + 1 + 1 + 1) 0 0 0 0
  v4 : Box w (h + 1 + 1 + 1 + 1) (.int .i64 (n : Int)) 3
theorem Vs.keep {w w' : World} {h b n : Nat} (hv : Vs w h b n) (hk : ∀ k, h ≤ k → k < h + 5 → w'.heap[k]? = w.heap[k]?) : Vs w' h b n :=
  ⟨(hk _ (by omega) (by omega)).trans hv.v0, (hk _ (by omega) (by omega)).trans hv.v1, (hk _ (by omega) (by omega)).trans hv.v2, (hk _ (by omega) (by omega)).trans hv.v3, (hk _ (by omega) (by omega)).trans hv.v4⟩
abbrev dfr (h : Nat) : Deferred := { target := .fn (.func 53) #[.pointer (some ⟨h, 0, none⟩), .pointer (some ⟨h + 1 + 1 + 1 + 1, 0, none⟩), .pointer (some ⟨h + 1, 0, none⟩), .pointer (some ⟨h + 1 + 1, 0, none⟩), .pointer (some ⟨h + 1 + 1 + 1, 0, none⟩)], args := #[] }
set_option maxHeartbeats 1000000 in
theorem read_caught (tmps : Array Value) (w : World) {h b m : Nat} {v : Value} {t t' : List Nd} (e l c o : Int) {R : Ending → World → Prop} (h6 : tmps.getD 6 undef = .pointer (some ⟨h + 1, 0, none⟩)) (h7 : tmps.getD 7 undef = .pointer (some ⟨h + 1 + 1, 0, none⟩)) (h8 : tmps.getD 8 undef = .pointer (some ⟨h + 1 + 1 + 1, 0, none⟩))
    (hv : Vs w h b t.length) (hT : Tb w b m v t') (ht : ∃ u, t' = t ++ u)
    (hR : ∀ w', Caught w b m v t (h + 1) (h + 1 + 1) (h + 1 + 1 + 1) e l c o w' → R (.returned (.tuple #[.int .i64 0, .int .i64 0, .agg #[.int .i64 e, .int .i64 l, .int .i64 c, .int .i64 o]])) w') :
    Leaves Tryz.prog Tryz.f28 tmps R [dfr h] (.panicking [{ v := .iface 31 (.agg #[.int .i64 e, .int .i64 l, .int .i64 c, .int .i64 o]), recovered := false }]) w := by
  refine leaves_cons (f := 53) (args := #[.pointer (some ⟨h, 0, none⟩), .pointer (some ⟨h + 1 + 1 + 1 + 1, 0, none⟩), .pointer (some ⟨h + 1, 0, none⟩), .pointer (some ⟨h + 1 + 1, 0, none⟩), .pointer (some ⟨h + 1 + 1 + 1, 0, none⟩)]) (by simp) (by simp [go_sem]) ?_
  refine (catch_bad e l c o w hT ht hv.v0 hv.v4 hv.v1 hv.v2 hv.v3 (by omega)).mono ?_
  rintro en u' w' ⟨rfl, rfl, hc⟩
  exact ⟨_, results3 tmps w' h6 h7 h8 hc.1 hc.2.1 hc.2.2.1, hR w' hc⟩
set_option maxHeartbeats 1000000 in
theorem read_idle (tmps : Array Value) (w : World) {h : Nat} {x y e l c o : Int} {R : Ending → World → Prop} (h6 : tmps.getD 6 undef = .pointer (some ⟨h + 1, 0, none⟩)) (h7 : tmps.getD 7 undef = .pointer (some ⟨h + 1 + 1, 0, none⟩)) (h8 : tmps.getD 8 undef = .pointer (some ⟨h + 1 + 1 + 1, 0, none⟩))
    (b1 : Box w (h + 1) (.int .i64 x) 3) (b2 : Box w (h + 1 + 1) (.int .i64 y) 3) (hf : Fl w (h + 1 + 1 + 1) e l c o)
    (hR : R (.returned (.tuple #[.int .i64 x, .int .i64 y, .agg #[.int .i64 e, .int .i64 l, .int .i64 c, .int .i64 o]])) w) :
    Leaves Tryz.prog Tryz.f28 tmps R [dfr h] .returning w := by
  refine leaves_cons (f := 53) (args := #[.pointer (some ⟨h, 0, none⟩), .pointer (some ⟨h + 1 + 1 + 1 + 1, 0, none⟩), .pointer (some ⟨h + 1, 0, none⟩), .pointer (some ⟨h + 1 + 1, 0, none⟩), .pointer (some ⟨h + 1 + 1 + 1, 0, none⟩)]) (by simp) (by simp [go_sem]) ?_
  refine (catch_idle _ _ _ _ _ w).mono ?_
  rintro en u' w' ⟨rfl, rfl, rfl⟩
  exact ⟨_, results3 tmps w' h6 h7 h8 b1 b2 hf, hR⟩
section
variable (w : World) {b m g cap : Nat} {v : Value} {t : List Nd} {ts : List Tn}
/-- The world behind read's variables. -/
def rdW (w : World) (b g cap : Nat) (ts : List Tn) (t : List Nd) : World :=
  (((((w.alloc (.cells #[.pointer (some ⟨b, 0, none⟩)] 23)).alloc (.cells #[.int .i64 0] 3)).alloc (.cells #[.int .i64 0] 3)).alloc (.cells #[.int .i64 0, .int .i64 0, .int .i64 0, .int .i64 0] 31)).alloc (.cells #[.int .i64 (t.length : Int)] 3)).alloc
    (.cells #[.pointer (some ⟨b, 0, none⟩), .slice (some ⟨g, 0, none⟩) ts.length cap, .int .i64 0, .int .i64 0, .int .i64 0] 112)
theorem rdW_below (w : World) (b g cap : Nat) (ts : List Tn) (t : List Nd) : Below w.heap.size w (rdW w b g cap ts t) :=
  ((((((Below.refl _ _).alloc (Nat.le_refl _) _).alloc (by simp) _).alloc (by simp; omega) _).alloc (by simp; omega) _).alloc (by simp; omega) _).alloc (by simp; omega) _
theorem rdW_vs (w : World) (b g cap : Nat) (ts : List Tn) (t : List Nd) : Vs (rdW w b g cap ts t) w.heap.size b t.length := by
  refine ⟨?_, ?_, ?_, ?_, ?_⟩
  · exact (Below.heap_alloc _ _ _ (by first | (simp; done) | (simp; omega))).trans ((Below.heap_alloc _ _ _ (by first | (simp; done) | (simp; omega))).trans ((Below.heap_alloc _ _ _ (by first | (simp; done) | (simp; omega))).trans ((Below.heap_alloc _ _ _ (by first | (simp; done) | (simp; omega))).trans ((Below.heap_alloc _ _ _ (by simp)).trans (heap_new_at _ _ _ rfl)))))
  · exact (Below.heap_alloc _ _ _ (by first | (simp; done) | (simp; omega))).trans ((Below.heap_alloc _ _ _ (by first | (simp; done) | (simp; omega))).trans ((Below.heap_alloc _ _ _ (by first | (simp; done) | (simp; omega))).trans ((Below.heap_alloc _ _ _ (by simp)).trans (heap_new_at _ _ _ (by simp)))))
  · exact (Below.heap_alloc _ _ _ (by first | (simp; done) | (simp; omega))).trans ((Below.heap_alloc _ _ _ (by first | (simp; done) | (simp; omega))).trans ((Below.heap_alloc _ _ _ (by simp)).trans (heap_new_at _ _ _ (by simp))))
  · exact (Below.heap_alloc _ _ _ (by first | (simp; done) | (simp; omega))).trans ((Below.heap_alloc _ _ _ (by simp)).trans (heap_new_at _ _ _ (by simp)))
  · exact (Below.heap_alloc _ _ _ (by simp)).trans (heap_new_at _ _ _ (by simp))
theorem rdW_rs (hK : TsAt w g cap ts) (b : Nat) (t : List Nd) : RS (rdW w b g cap ts t) (w.heap.size + 1 + 1 + 1 + 1 + 1) b g cap ts 0 0 0 := by
  refine ⟨heap_new_at _ _ _ (by simp), hK.keep ((rdW_below w b g cap ts t).block _ ?_)⟩
  obtain ⟨cur, hh, _⟩ := hK
  exact lt_of_block hh
/-- What is known behind a call of the reader's. -/
structure Mid (w w1 : World) (b m : Nat) (v : Value) (t : List Nd) : Prop where
  vs : Vs w1 w.heap.size b t.length
  tb : Tb w1 b m v t
  be : Below w.heap.size w w1
theorem mid_start (hT : Tb w b m v t) (g cap : Nat) (ts : List Tn) : Mid w (rdW w b g cap ts t) b m v t := ⟨rdW_vs w b g cap ts t, hT.later (rdW_below w b g cap ts t), rdW_below w b g cap ts t⟩
theorem Mid.next {w w1 w2 : World} (h : Mid w w1 b m v t) (hT : Tb w b m v t) (hk : KpP (w.heap.size + 1 + 1 + 1 + 1 + 1) w1 w2) (hs : w.heap.size + 5 ≤ w1.heap.size) : Mid w w2 b m v t := by
  refine ⟨h.vs.keep fun k _ h2 => hk.block k (by omega) (by omega), h.tb.keep fun k hf => ?_, h.be.trans (Kp.below hk h.be.size (fun k e => by omega))⟩
  have := hT.foot k hf
  exact hk.block k (by omega) (by omega)
theorem Mid.size {w w1 : World} (h : Mid w w1 b m v t) : w.heap.size + 5 ≤ w1.heap.size := by have := h.vs.v4.lt; omega
/-- Behind a fault: the answer. -/
theorem mid_caught {w w1 w2 w' : World} {v2 : Value} (h : Below w.heap.size w w1) (hk : Lies w.heap.size v v2 ∧ Kp (Ft b m v) w1 w2 ∧ w1.heap.size ≤ w2.heap.size) {e l c o : Int} (hc : Caught w2 b m v2 t (w.heap.size + 1) (w.heap.size + 1 + 1) (w.heap.size + 1 + 1 + 1) e l c o w') : After w b m v t w' := by
  obtain ⟨_, _, _, v3, hT3, hL3, hK3⟩ := hc
  have hs1 := h.size
  refine ⟨v3, hT3, hk.1.trans hL3 (by omega), ⟨hK3.os.trans (hk.2.1.os.trans h.os), hK3.tape.trans (hk.2.1.tape.trans h.tape), hK3.output.trans (hk.2.1.output.trans h.output), by have := hK3.size; omega, fun k hlt hn => ?_⟩⟩
  rw [hK3.block k (by omega) ?_, hk.2.1.block k (by omega) hn, h.block k hlt]
  rintro ((e | e | e) | e | e | e)
  · exact hn (Or.inl e)
  · exact hn (Or.inr (Or.inl e))
  · rcases hk.1 k e with h1 | h1
    · exact hn (Or.inr (Or.inr h1))
    · omega
  · omega
  · omega
  · omega
def setG (w : World) (g2 g3 g4 : Nat) (x y : Int) : World :=
  (((((w.setCell ⟨g2, 0, none⟩ (.int .i64 x)).setCell ⟨g3, 0, none⟩ (.int .i64 y)).setCell ⟨g4, 0, none⟩ (.int .i64 0)).setCell ⟨g4, 1, none⟩ (.int .i64 0)).setCell ⟨g4, 2, none⟩ (.int .i64 0)).setCell ⟨g4, 3, none⟩ (.int .i64 0)
theorem setG_other (w : World) (g2 g3 g4 : Nat) (x y : Int) {k : Nat} (h2 : k ≠ g2) (h3 : k ≠ g3) (h4 : k ≠ g4) : (setG w g2 g3 g4 x y).heap[k]? = w.heap[k]? := by
  unfold setG
  rw [Below.heap_setCell _ _ _ _ h4, Below.heap_setCell _ _ _ _ h4, Below.heap_setCell _ _ _ _ h4, Below.heap_setCell _ _ _ _ h4, Below.heap_setCell _ _ _ _ h3, Below.heap_setCell _ _ _ _ h2]
theorem setG_kp {S : Nat → Prop} {a w : World} (h : Kp S a w) {g2 g3 g4 : Nat} (h2 : S g2) (h3 : S g3) (h4 : S g4) (x y : Int) : Kp S a (setG w g2 g3 g4 x y) :=
  (((((h.setS h2 _ _).setS h3 _ _).setS h4 _ _).setS h4 _ _).setS h4 _ _).setS h4 _ _
theorem ok_of {w w2 w3 : World} {r3 : List Nd} {n : Nat} (hM : Mid w w2 b m v t) (ha : After w2 b m v r3 w3) (hv : Vs w3 w.heap.size b n) (x y : Int) :
    Box (setG w3 (w.heap.size + 1) (w.heap.size + 1 + 1) (w.heap.size + 1 + 1 + 1) x y) (w.heap.size + 1) (.int .i64 x) 3 ∧ Box (setG w3 (w.heap.size + 1) (w.heap.size + 1 + 1) (w.heap.size + 1 + 1 + 1) x y) (w.heap.size + 1 + 1) (.int .i64 y) 3 ∧
      Fl (setG w3 (w.heap.size + 1) (w.heap.size + 1 + 1) (w.heap.size + 1 + 1 + 1) x y) (w.heap.size + 1 + 1 + 1) 0 0 0 0 ∧ After w b m v r3 (setG w3 (w.heap.size + 1) (w.heap.size + 1 + 1) (w.heap.size + 1 + 1 + 1) x y) := by
  obtain ⟨v', hT, hL, hK⟩ := ha
  have n23 : w.heap.size + 1 ≠ w.heap.size + 1 + 1 := by omega
  have n24 : w.heap.size + 1 ≠ w.heap.size + 1 + 1 + 1 := by omega
  have n34 : w.heap.size + 1 + 1 ≠ w.heap.size + 1 + 1 + 1 := by omega
  have hf2 : Box (setG w3 (w.heap.size + 1) (w.heap.size + 1 + 1) (w.heap.size + 1 + 1 + 1) x y) (w.heap.size + 1) (.int .i64 x) 3 := by
    unfold setG
    exact (((((hv.v1.set _).other n23 _ _).other n24 _ _).other n24 _ _).other n24 _ _).other n24 _ _
  have hf3 : Box (setG w3 (w.heap.size + 1) (w.heap.size + 1 + 1) (w.heap.size + 1 + 1 + 1) x y) (w.heap.size + 1 + 1) (.int .i64 y) 3 := by
    unfold setG
    exact ((((Box.set (hv.v2.other (Ne.symm n23) 0 (.int .i64 x)) _).other n34 _ _).other n34 _ _).other n34 _ _).other n34 _ _
  have hf4 : Fl (setG w3 (w.heap.size + 1) (w.heap.size + 1 + 1) (w.heap.size + 1 + 1 + 1) x y) (w.heap.size + 1 + 1 + 1) 0 0 0 0 := by
    unfold setG
    exact ((hv.v3.other (Ne.symm n24) 0 (.int .i64 x)).other (Ne.symm n34) 0 (.int .i64 y)).s4 0 0 0 0
  have hT' : Tb (setG w3 (w.heap.size + 1) (w.heap.size + 1 + 1) (w.heap.size + 1 + 1 + 1) x y) b m v' r3 := hT.keep fun k hk => setG_other _ _ _ _ _ _ (fun h => hv.v1.nft hT (h ▸ hk)) (fun h => hv.v2.nft hT (h ▸ hk)) (fun h => hv.v3.nft hT (h ▸ hk))
  have hs := hM.be.size
  have hK2 : Kp (fun k => Ft b m v k ∨ w.heap.size ≤ k) w w3 := ⟨hK.os.trans hM.be.os, hK.tape.trans hM.be.tape, hK.output.trans hM.be.output, Nat.le_trans hs hK.size, fun k hk hs' => (hK.block k (by omega) fun h => hs' (Or.inl h)).trans (hM.be.block k hk)⟩
  have hK3 := setG_kp hK2 (g2 := w.heap.size + 1) (g3 := w.heap.size + 1 + 1) (g4 := w.heap.size + 1 + 1 + 1) (Or.inr (by omega)) (Or.inr (by omega)) (Or.inr (by omega)) x y
  generalize setG w3 (w.heap.size + 1) (w.heap.size + 1 + 1) (w.heap.size + 1 + 1 + 1) x y = ws at *
  exact ⟨hf2, hf3, hf4, v', hT', fun k hk => (hL k hk).imp id (fun h => Nat.le_trans hs h), ⟨hK3.os, hK3.tape, hK3.output, hK3.size, fun k hk hn => hK3.block k hk fun h => by rcases h with h | h; exact hn h; omega⟩⟩
/-- The slots that read's door reads. -/
def Slots (h : Nat) (a : Act) : Prop := a.tmps.getD 6 undef = .pointer (some ⟨h + 1, 0, none⟩) ∧ a.tmps.getD 7 undef = .pointer (some ⟨h + 1 + 1, 0, none⟩) ∧ a.tmps.getD 8 undef = .pointer (some ⟨h + 1 + 1 + 1, 0, none⟩) ∧ a.defers = [dfr h]
theorem getD_put (ts : Array Value) (k j : Nat) (x : Value) (hk : k ≠ j) : (ts.setIfInBounds k x).getD j undef = ts.getD j undef := by
  simp only [Array.getD_eq_getD_getElem?]
  rw [Array.getElem?_setIfInBounds_ne hk]
theorem Slots.put {h k : Nat} (hk : 9 ≤ k) {a : Act} {x : Value} (hs : Slots h (a.put (some k) x)) : Slots h a := by
  obtain ⟨h1, h2, h3, h4⟩ := hs
  refine ⟨?_, ?_, ?_, h4⟩
  · rw [← h1]; exact (getD_put _ _ _ _ (by omega)).symm
  · rw [← h2]; exact (getD_put _ _ _ _ (by omega)).symm
  · rw [← h3]; exact (getD_put _ _ _ _ (by omega)).symm
/-- A way out by a panic alone. -/
def PQ (h : Nat) (G : List PanicEntry → World → Prop) : Exit → Act → World → Prop
  | .panic ch, a, w => Slots h a ∧ G ch w
  | _, _, _ => False
theorem PQ.put {h k : Nat} (hk : 9 ≤ k) {G : List PanicEntry → World → Prop} {x : Value} : ∀ (c : List PanicEntry) (a : Act) (w : World), PQ h G (.panic c) (a.put (some k) x) w → PQ h G (.panic c) a w := fun _ _ _ hp => ⟨Slots.put hk hp.1, hp.2⟩
end
end Go.Proofs.YtcidldgenogdkaaGreatDoor
