/-
  The call read. For every table and list of tokens. No other condition.
-/
import Derived.Test.YtcidldgenogdkaaGreatDoorGSd
import Derived.RegionDies
import Derived.Deep.RegionHeld2
import Derived.Deep.RegionHeld3
namespace Go.Proofs.YtcidldgenogdkaaGreatDoor
open Go.RowKit Go.Maps
open Fm (Nd)
open Sx (Tn T Lv)

def finO (z : Bool) (ts : List Tn) : Sx.Out → Sx.Out
  | .bad e t => .bad e t
  | .ok a i n => if z = true ∧ (Sx.tk ts i).k ≠ 0 then .bad (if 512 < Sx.up ts i n then 40 else 41) (Sx.tk ts i) else .ok a i n
/-- What is read of tokens, with or without an end. -/
def fin (z : Bool) (ts : List Tn) : Sx.Out := finO z ts ((Sx.rd ts (8 * ts.length + 5) .formula 0 0 0).getD (.bad 0 Sx.tz))
/-- What read answers: number, size, fault, rows. -/
def wholeO (t : List Nd) : Sx.Out → (Int × Int × Int × Tn) × List Nd
  | .bad e tn => ((0, 0, e, tn), t)
  | .ok a i _ => if (Sx.pt a t).2.1 = 0 then (((Sx.pt a t).1, (i : Int), 0, Sx.tz), (Sx.pt a t).2.2) else ((0, 0, (Sx.pt a t).2.1, Sx.tz), t)
def whole (z : Bool) (ts : List Tn) (t : List Nd) : (Int × Int × Int × Tn) × List Nd := wholeO t (fin z ts)
def wholeV (r : Int × Int × Int × Tn) : Value := .tuple #[.int .i64 r.1, .int .i64 r.2.1, .agg #[.int .i64 r.2.2.1, .int .i64 r.2.2.2.l, .int .i64 r.2.2.2.c, .int .i64 r.2.2.2.o]]
theorem load_int (w : World) (g : Nat) (x : Int) (h : Box w g (.int .i64 x) 3) : (loadVar 3 ⟨g, 0, none⟩).run Tryz.prog w = .ok (.int .i64 x) w := by
  have := h.c0
  simp [loadVar, go_sem, this]
theorem results3 (tmps : Array Value) (w : World) {g1 g2 g3 : Nat} {x y e l c o : Int} (h6 : tmps.getD 6 undef = .pointer (some ⟨g1, 0, none⟩)) (h7 : tmps.getD 7 undef = .pointer (some ⟨g2, 0, none⟩)) (h8 : tmps.getD 8 undef = .pointer (some ⟨g3, 0, none⟩))
    (b1 : Box w g1 (.int .i64 x) 3) (b2 : Box w g2 (.int .i64 y) 3) (hf : Fl w g3 e l c o) :
    (results Tryz.f28 tmps).run Tryz.prog w = .ok (.tuple #[.int .i64 x, .int .i64 y, .agg #[.int .i64 e, .int .i64 l, .int .i64 c, .int .i64 o]]) w := by
  have h6' : tmps[6]?.getD undef = .pointer (some ⟨g1, 0, none⟩) := by simpa using h6
  have h7' : tmps[7]?.getD undef = .pointer (some ⟨g2, 0, none⟩) := by simpa using h7
  have h8' : tmps[8]?.getD undef = .pointer (some ⟨g3, 0, none⟩) := by simpa using h8
  have l1 := load_int w g1 x b1
  have l2 := load_int w g2 y b2
  have l3 := run_loadVar_row (P := Tryz.prog) w g3 31 31 #[.int .i64 e, .int .i64 l, .int .i64 c, .int .i64 o] (0, 0) _ hf Tryz.underlying31 rfl (by kernel_rfl)
  simp [results, Tryz.results28, h6', h7', h8', asAddr, l1, l2, l3, Result.andThen]
/-- The variables of read, at blocks from h on. -/
structure Vs (w : World) (h b n : Nat) : Prop where
  v0 : Box w h (ptrV b) 23
  v1 : Box w (h + 1) (.int .i64 0) 3
  v2 : Box w (h + 1 + 1) (.int .i64 0) 3
  v3 : Fl w (h + 1 + 1 + 1) 0 0 0 0
  v4 : Box w (h + 1 + 1 + 1 + 1) (.int .i64 (n : Int)) 3
theorem Vs.keep {w w' : World} {h b n : Nat} (hv : Vs w h b n) (hk : ∀ k, h ≤ k → k < h + 5 → w'.heap[k]? = w.heap[k]?) : Vs w' h b n :=
  ⟨(hk _ (by omega) (by omega)).trans hv.v0, (hk _ (by omega) (by omega)).trans hv.v1, (hk _ (by omega) (by omega)).trans hv.v2, (hk _ (by omega) (by omega)).trans hv.v3, (hk _ (by omega) (by omega)).trans hv.v4⟩
abbrev dfr (h : Nat) : Deferred := { target := .fn (.func 53) #[.pointer (some ⟨h, 0, none⟩), .pointer (some ⟨h + 1 + 1 + 1 + 1, 0, none⟩), .pointer (some ⟨h + 1, 0, none⟩), .pointer (some ⟨h + 1 + 1, 0, none⟩), .pointer (some ⟨h + 1 + 1 + 1, 0, none⟩)], args := #[] }
set_option maxHeartbeats 1000000 in
theorem read_caught (tmps : Array Value) (w : World) {h b m : Nat} {v : Value} {t t' : List Nd} (e l c o : Int) {R : Ending → World → Prop} (h6 : tmps.getD 6 undef = .pointer (some ⟨h + 1, 0, none⟩)) (h7 : tmps.getD 7 undef = .pointer (some ⟨h + 1 + 1, 0, none⟩)) (h8 : tmps.getD 8 undef = .pointer (some ⟨h + 1 + 1 + 1, 0, none⟩))
    (hv : Vs w h b t.length) (hT : Tb w b m v t') (ht : ∃ u, t' = t ++ u)
    (hR : ∀ w', Caught w b m v t (h + 1) (h + 1 + 1) (h + 1 + 1 + 1) e l c o w' → R (.returned (.tuple #[.int .i64 0, .int .i64 0, .agg #[.int .i64 e, .int .i64 l, .int .i64 c, .int .i64 o]])) w') :
    Leaves Tryz.prog Tryz.f28 tmps R [dfr h] (.panicking [{ v := .iface 31 (.agg #[.int .i64 e, .int .i64 l, .int .i64 c, .int .i64 o]), recovered := false }]) w := by
  refine leaves_cons (f := 53) (args := #[.pointer (some ⟨h, 0, none⟩), .pointer (some ⟨h + 1 + 1 + 1 + 1, 0, none⟩), .pointer (some ⟨h + 1, 0, none⟩), .pointer (some ⟨h + 1 + 1, 0, none⟩), .pointer (some ⟨h + 1 + 1 + 1, 0, none⟩)]) (by simp) (by simp [go_sem]) ?_
  refine (catch_bad e l c o w hT ht hv.v0 hv.v4 hv.v1 hv.v2 hv.v3 (by omega)).mono ?_
  rintro en u' w' ⟨rfl, rfl, hc⟩
  exact ⟨_, results3 tmps w' h6 h7 h8 hc.1 hc.2.1 hc.2.2.1, hR w' hc⟩
set_option maxHeartbeats 1000000 in
theorem read_idle (tmps : Array Value) (w : World) {h : Nat} {x y e l c o : Int} {R : Ending → World → Prop} (h6 : tmps.getD 6 undef = .pointer (some ⟨h + 1, 0, none⟩)) (h7 : tmps.getD 7 undef = .pointer (some ⟨h + 1 + 1, 0, none⟩)) (h8 : tmps.getD 8 undef = .pointer (some ⟨h + 1 + 1 + 1, 0, none⟩))
    (b1 : Box w (h + 1) (.int .i64 x) 3) (b2 : Box w (h + 1 + 1) (.int .i64 y) 3) (hf : Fl w (h + 1 + 1 + 1) e l c o)
    (hR : R (.returned (.tuple #[.int .i64 x, .int .i64 y, .agg #[.int .i64 e, .int .i64 l, .int .i64 c, .int .i64 o]])) w) :
    Leaves Tryz.prog Tryz.f28 tmps R [dfr h] .returning w := by
  refine leaves_cons (f := 53) (args := #[.pointer (some ⟨h, 0, none⟩), .pointer (some ⟨h + 1 + 1 + 1 + 1, 0, none⟩), .pointer (some ⟨h + 1, 0, none⟩), .pointer (some ⟨h + 1 + 1, 0, none⟩), .pointer (some ⟨h + 1 + 1 + 1, 0, none⟩)]) (by simp) (by simp [go_sem]) ?_
  refine (catch_idle _ _ _ _ _ w).mono ?_
  rintro en u' w' ⟨rfl, rfl, rfl⟩
  exact ⟨_, results3 tmps w' h6 h7 h8 b1 b2 hf, hR⟩
section
variable (w : World) {b m g cap : Nat} {v : Value} {t : List Nd} {ts : List Tn}
/-- The world behind read's variables. -/
def rdW (w : World) (b g cap : Nat) (ts : List Tn) (t : List Nd) : World :=
  (((((w.alloc (.cells #[.pointer (some ⟨b, 0, none⟩)] 23)).alloc (.cells #[.int .i64 0] 3)).alloc (.cells #[.int .i64 0] 3)).alloc (.cells #[.int .i64 0, .int .i64 0, .int .i64 0, .int .i64 0] 31)).alloc (.cells #[.int .i64 (t.length : Int)] 3)).alloc
    (.cells #[.pointer (some ⟨b, 0, none⟩), .slice (some ⟨g, 0, none⟩) ts.length cap, .int .i64 0, .int .i64 0, .int .i64 0] 112)
theorem rdW_below (w : World) (b g cap : Nat) (ts : List Tn) (t : List Nd) : Below w.heap.size w (rdW w b g cap ts t) :=
  ((((((Below.refl _ _).alloc (Nat.le_refl _) _).alloc (by simp) _).alloc (by simp; omega) _).alloc (by simp; omega) _).alloc (by simp; omega) _).alloc (by simp; omega) _
theorem rdW_vs (w : World) (b g cap : Nat) (ts : List Tn) (t : List Nd) : Vs (rdW w b g cap ts t) w.heap.size b t.length := by
  refine ⟨?_, ?_, ?_, ?_, ?_⟩
  · exact (Below.heap_alloc _ _ _ (by first | (simp; done) | (simp; omega))).trans ((Below.heap_alloc _ _ _ (by first | (simp; done) | (simp; omega))).trans ((Below.heap_alloc _ _ _ (by first | (simp; done) | (simp; omega))).trans ((Below.heap_alloc _ _ _ (by first | (simp; done) | (simp; omega))).trans ((Below.heap_alloc _ _ _ (by simp)).trans (heap_new_at _ _ _ rfl)))))
  · exact (Below.heap_alloc _ _ _ (by first | (simp; done) | (simp; omega))).trans ((Below.heap_alloc _ _ _ (by first | (simp; done) | (simp; omega))).trans ((Below.heap_alloc _ _ _ (by first | (simp; done) | (simp; omega))).trans ((Below.heap_alloc _ _ _ (by simp)).trans (heap_new_at _ _ _ (by simp)))))
  · exact (Below.heap_alloc _ _ _ (by first | (simp; done) | (simp; omega))).trans ((Below.heap_alloc _ _ _ (by first | (simp; done) | (simp; omega))).trans ((Below.heap_alloc _ _ _ (by simp)).trans (heap_new_at _ _ _ (by simp))))
  · exact (Below.heap_alloc _ _ _ (by first | (simp; done) | (simp; omega))).trans ((Below.heap_alloc _ _ _ (by simp)).trans (heap_new_at _ _ _ (by simp)))
  · exact (Below.heap_alloc _ _ _ (by simp)).trans (heap_new_at _ _ _ (by simp))
theorem rdW_rs (hK : TsAt w g cap ts) (b : Nat) (t : List Nd) : RS (rdW w b g cap ts t) (w.heap.size + 1 + 1 + 1 + 1 + 1) b g cap ts 0 0 0 := by
  refine ⟨heap_new_at _ _ _ (by simp), hK.keep ((rdW_below w b g cap ts t).block _ ?_)⟩
  obtain ⟨cur, hh, _⟩ := hK
  exact lt_of_block hh
/-- What is known behind a call of the reader's. -/
structure Mid (w w1 : World) (b m : Nat) (v : Value) (t : List Nd) : Prop where
  vs : Vs w1 w.heap.size b t.length
  tb : Tb w1 b m v t
  be : Below w.heap.size w w1
theorem mid_start (hT : Tb w b m v t) (g cap : Nat) (ts : List Tn) : Mid w (rdW w b g cap ts t) b m v t := ⟨rdW_vs w b g cap ts t, hT.later (rdW_below w b g cap ts t), rdW_below w b g cap ts t⟩
theorem Mid.next {w w1 w2 : World} (h : Mid w w1 b m v t) (hT : Tb w b m v t) (hk : KpP (w.heap.size + 1 + 1 + 1 + 1 + 1) w1 w2) (hs : w.heap.size + 5 ≤ w1.heap.size) : Mid w w2 b m v t := by
  refine ⟨h.vs.keep fun k _ h2 => hk.block k (by omega) (by omega), h.tb.keep fun k hf => ?_, h.be.trans (Kp.below hk h.be.size (fun k e => by omega))⟩
  have := hT.foot k hf
  exact hk.block k (by omega) (by omega)
theorem Mid.size {w w1 : World} (h : Mid w w1 b m v t) : w.heap.size + 5 ≤ w1.heap.size := by have := h.vs.v4.lt; omega
/-- Behind a fault: the answer. -/
theorem mid_caught {w w1 w2 w' : World} {v2 : Value} (h : Below w.heap.size w w1) (hk : Lies w.heap.size v v2 ∧ Kp (Ft b m v) w1 w2 ∧ w1.heap.size ≤ w2.heap.size) {e l c o : Int} (hc : Caught w2 b m v2 t (w.heap.size + 1) (w.heap.size + 1 + 1) (w.heap.size + 1 + 1 + 1) e l c o w') : After w b m v t w' := by
  obtain ⟨_, _, _, v3, hT3, hL3, hK3⟩ := hc
  have hs1 := h.size
  refine ⟨v3, hT3, hk.1.trans hL3 (by omega), ⟨hK3.os.trans (hk.2.1.os.trans h.os), hK3.tape.trans (hk.2.1.tape.trans h.tape), hK3.output.trans (hk.2.1.output.trans h.output), by have := hK3.size; omega, fun k hlt hn => ?_⟩⟩
  rw [hK3.block k (by omega) ?_, hk.2.1.block k (by omega) hn, h.block k hlt]
  rintro ((e | e | e) | e | e | e)
  · exact hn (Or.inl e)
  · exact hn (Or.inr (Or.inl e))
  · rcases hk.1 k e with h1 | h1
    · exact hn (Or.inr (Or.inr h1))
    · omega
  · omega
  · omega
  · omega
def setG (w : World) (g2 g3 g4 : Nat) (x y : Int) : World :=
  (((((w.setCell ⟨g2, 0, none⟩ (.int .i64 x)).setCell ⟨g3, 0, none⟩ (.int .i64 y)).setCell ⟨g4, 0, none⟩ (.int .i64 0)).setCell ⟨g4, 1, none⟩ (.int .i64 0)).setCell ⟨g4, 2, none⟩ (.int .i64 0)).setCell ⟨g4, 3, none⟩ (.int .i64 0)
theorem setG_other (w : World) (g2 g3 g4 : Nat) (x y : Int) {k : Nat} (h2 : k ≠ g2) (h3 : k ≠ g3) (h4 : k ≠ g4) : (setG w g2 g3 g4 x y).heap[k]? = w.heap[k]? := by
  unfold setG
  rw [Below.heap_setCell _ _ _ _ h4, Below.heap_setCell _ _ _ _ h4, Below.heap_setCell _ _ _ _ h4, Below.heap_setCell _ _ _ _ h4, Below.heap_setCell _ _ _ _ h3, Below.heap_setCell _ _ _ _ h2]
theorem setG_kp {S : Nat → Prop} {a w : World} (h : Kp S a w) {g2 g3 g4 : Nat} (h2 : S g2) (h3 : S g3) (h4 : S g4) (x y : Int) : Kp S a (setG w g2 g3 g4 x y) :=
  (((((h.setS h2 _ _).setS h3 _ _).setS h4 _ _).setS h4 _ _).setS h4 _ _).setS h4 _ _
theorem ok_of {w w2 w3 : World} {r3 : List Nd} {n : Nat} (hM : Mid w w2 b m v t) (ha : After w2 b m v r3 w3) (hv : Vs w3 w.heap.size b n) (x y : Int) :
    Box (setG w3 (w.heap.size + 1) (w.heap.size + 1 + 1) (w.heap.size + 1 + 1 + 1) x y) (w.heap.size + 1) (.int .i64 x) 3 ∧ Box (setG w3 (w.heap.size + 1) (w.heap.size + 1 + 1) (w.heap.size + 1 + 1 + 1) x y) (w.heap.size + 1 + 1) (.int .i64 y) 3 ∧
      Fl (setG w3 (w.heap.size + 1) (w.heap.size + 1 + 1) (w.heap.size + 1 + 1 + 1) x y) (w.heap.size + 1 + 1 + 1) 0 0 0 0 ∧ After w b m v r3 (setG w3 (w.heap.size + 1) (w.heap.size + 1 + 1) (w.heap.size + 1 + 1 + 1) x y) := by
  obtain ⟨v', hT, hL, hK⟩ := ha
  have n23 : w.heap.size + 1 ≠ w.heap.size + 1 + 1 := by omega
  have n24 : w.heap.size + 1 ≠ w.heap.size + 1 + 1 + 1 := by omega
  have n34 : w.heap.size + 1 + 1 ≠ w.heap.size + 1 + 1 + 1 := by omega
  have hf2 : Box (setG w3 (w.heap.size + 1) (w.heap.size + 1 + 1) (w.heap.size + 1 + 1 + 1) x y) (w.heap.size + 1) (.int .i64 x) 3 := by
    unfold setG
    exact (((((hv.v1.set _).other n23 _ _).other n24 _ _).other n24 _ _).other n24 _ _).other n24 _ _
  have hf3 : Box (setG w3 (w.heap.size + 1) (w.heap.size + 1 + 1) (w.heap.size + 1 + 1 + 1) x y) (w.heap.size + 1 + 1) (.int .i64 y) 3 := by
    unfold setG
    exact ((((Box.set (hv.v2.other (Ne.symm n23) 0 (.int .i64 x)) _).other n34 _ _).other n34 _ _).other n34 _ _).other n34 _ _
  have hf4 : Fl (setG w3 (w.heap.size + 1) (w.heap.size + 1 + 1) (w.heap.size + 1 + 1 + 1) x y) (w.heap.size + 1 + 1 + 1) 0 0 0 0 := by
    unfold setG
    exact ((hv.v3.other (Ne.symm n24) 0 (.int .i64 x)).other (Ne.symm n34) 0 (.int .i64 y)).s4 0 0 0 0
  have hT' : Tb (setG w3 (w.heap.size + 1) (w.heap.size + 1 + 1) (w.heap.size + 1 + 1 + 1) x y) b m v' r3 := hT.keep fun k hk => setG_other _ _ _ _ _ _ (fun h => hv.v1.nft hT (h ▸ hk)) (fun h => hv.v2.nft hT (h ▸ hk)) (fun h => hv.v3.nft hT (h ▸ hk))
  have hs := hM.be.size
  have hK2 : Kp (fun k => Ft b m v k ∨ w.heap.size ≤ k) w w3 := ⟨hK.os.trans hM.be.os, hK.tape.trans hM.be.tape, hK.output.trans hM.be.output, Nat.le_trans hs hK.size, fun k hk hs' => (hK.block k (by omega) fun h => hs' (Or.inl h)).trans (hM.be.block k hk)⟩
  have hK3 := setG_kp hK2 (g2 := w.heap.size + 1) (g3 := w.heap.size + 1 + 1) (g4 := w.heap.size + 1 + 1 + 1) (Or.inr (by omega)) (Or.inr (by omega)) (Or.inr (by omega)) x y
  generalize setG w3 (w.heap.size + 1) (w.heap.size + 1 + 1) (w.heap.size + 1 + 1 + 1) x y = ws at *
  exact ⟨hf2, hf3, hf4, v', hT', fun k hk => (hL k hk).imp id (fun h => Nat.le_trans hs h), ⟨hK3.os, hK3.tape, hK3.output, hK3.size, fun k hk hn => hK3.block k hk fun h => by rcases h with h | h; exact hn h; omega⟩⟩
/-- The slots that read's door reads. -/
def Slots (h : Nat) (a : Act) : Prop := a.tmps.getD 6 undef = .pointer (some ⟨h + 1, 0, none⟩) ∧ a.tmps.getD 7 undef = .pointer (some ⟨h + 1 + 1, 0, none⟩) ∧ a.tmps.getD 8 undef = .pointer (some ⟨h + 1 + 1 + 1, 0, none⟩) ∧ a.defers = [dfr h]
theorem getD_put (ts : Array Value) (k j : Nat) (x : Value) (hk : k ≠ j) : (ts.setIfInBounds k x).getD j undef = ts.getD j undef := by
  simp only [Array.getD_eq_getD_getElem?]
  rw [Array.getElem?_setIfInBounds_ne hk]
theorem Slots.put {h k : Nat} (hk : 9 ≤ k) {a : Act} {x : Value} (hs : Slots h (a.put (some k) x)) : Slots h a := by
  obtain ⟨h1, h2, h3, h4⟩ := hs
  refine ⟨?_, ?_, ?_, h4⟩
  · rw [← h1]; exact (getD_put _ _ _ _ (by omega)).symm
  · rw [← h2]; exact (getD_put _ _ _ _ (by omega)).symm
  · rw [← h3]; exact (getD_put _ _ _ _ (by omega)).symm
/-- A way out by a panic alone. -/
def PQ (h : Nat) (G : List PanicEntry → World → Prop) : Exit → Act → World → Prop
  | .panic ch, a, w => Slots h a ∧ G ch w
  | _, _, _ => False
theorem PQ.put {h k : Nat} (hk : 9 ≤ k) {G : List PanicEntry → World → Prop} {x : Value} : ∀ (c : List PanicEntry) (a : Act) (w : World), PQ h G (.panic c) (a.put (some k) x) w → PQ h G (.panic c) a w := fun _ _ _ hp => ⟨Slots.put hk hp.1, hp.2⟩
end
end Go.Proofs.YtcidldgenogdkaaGreatDoor
/-
  The call read behind Parse. For every table and list of tokens. No other condition.
-/
namespace Go.Proofs.YtcidldgenogdkaaGreatDoor
open Go.RowKit Go.Maps
open Fm (Nd)
open Sx (Tn T Lv)

section
variable (w : World) {b m g cap : Nat} {v : Value} {t : List Nd} {ts : List Tn}
set_option maxRecDepth 100000 in
set_option maxHeartbeats 8000000 in
theorem read_parse (hT : Tb w b m v t) (hK : TsAt w g cap ts) (hz : ∀ t ∈ ts, t.s.size ≤ 140737488351232) :
    Calls Tryz.prog 28 #[.pointer (some ⟨b, 0, none⟩), .slice (some ⟨g, 0, none⟩) ts.length cap, .func (.func 29) #[] #[]] w fun e w' => e = .returned (wholeV (whole true ts t).1) ∧ After w b m v (whole true ts t).2 w' := by
  have hmf := mkFunc
  have KL := show Hid (∀ w1, Below w.heap.size w w1 → Calls Tryz.prog 20 #[.pointer (some ⟨b, 0, none⟩)] w1 fun e w' => e = .returned (.int .i64 (t.length : Int)) ∧ w' = w1) from fun w1 hb => len_any w1 (hT.later hb)
  obtain ⟨o, ho, hfo⟩ := Sx.rd_total ts (8 * ts.length + 5) .formula 0 0 0 (by omega) (by simp [Sx.cost])
  have HT := show Hid (Tb w b m v t) from hT
  have KF := show Hid (Calls Tryz.prog 55 #[.pointer (some ⟨w.heap.size + 1 + 1 + 1 + 1 + 1, 0, none⟩)] (rdW w b g cap ts t) fun e w' => Read (rdW w b g cap ts t) (w.heap.size + 1 + 1 + 1 + 1 + 1) b g cap ts 0 o e w') from (all_con hz (8 * ts.length + 5)).1 _ (Nat.le_refl _) _ 0 0 0 o (rdW_rs w hK b t) (by omega) (by omega) (by omega) ho
  have HM := show Hid (Mid w (rdW w b g cap ts t) b m v t) from mid_start w hT g cap ts
  have HWF := show Hid (Sx.WfO o) from Sx.rd_wf ts _ .formula 0 0 0 o trivial ho
  have HFN := show Hid (fin true ts = finO true ts o) from by
    show fin true ts = finO true ts o
    unfold fin
    rw [ho]
    rfl
  have HFO := show Hid (Sx.Fine ts .formula 0 0 o) from hfo
  have HWH := show Hid (whole true ts t = wholeO t (fin true ts)) from rfl
  generalize whole true ts t = res at *
  generalize fin true ts = fi at *
  clear hT hK hz ho hfo
  go_enter_defers Tryz.func28, Tryz.ntmps28
  go_wp2_with fail
  refine (KL.out _ ((((Below.refl _ _).alloc (Nat.le_refl _) _).alloc (by simp) _).alloc (by simp; omega) _ |>.alloc (by simp; omega) _)).mono ?_
  rintro e w1 ⟨rfl, hw1⟩
  subst w1
  go_wp2_with fail
  cases o with
  | bad er tn =>
    refine KF.out.mono ?_
    rintro e w1 ⟨rfl, hk1⟩
    have X := show Hid (Mid w w1 b m v t) from HM.out.next HT.out hk1 HM.out.size
    clear hk1 KF HM KL
    unfold fltP fltV
    go_wp2_with fail
    refine read_caught _ w1 er tn.l tn.c tn.o rfl rfl rfl X.out.vs X.out.tb ⟨[], by simp⟩ fun w' hc => ?_
    have hfi := HFN.out
    have hres := HWH.out
    rw [hfi] at hres
    rw [hres]
    exact ⟨rfl, mid_caught X.out.be ⟨Lies.refl _ _, Kp.refl _ _, Nat.le_refl _⟩ hc⟩
  | ok a i n =>
    refine KF.out.mono ?_
    rintro e w1 ⟨F1, cp1, rfl, hP1, hS1, hk1⟩
    have X := show Hid (Mid w w1 b m v t ∧ Pts w1 (w.heap.size + 1 + 1 + 1 + 1 + 1) b a (.func (.func F1) #[] cp1) ∧ RS w1 (w.heap.size + 1 + 1 + 1 + 1 + 1) b g cap ts i n 0) from ⟨HM.out.next HT.out hk1 HM.out.size, hP1, hS1⟩
    have hcf := hP1.enters
    clear hk1 KF HM hP1 hS1 KL
    have KB := show Hid (Calls Tryz.prog 29 #[.pointer (some ⟨w.heap.size + 1 + 1 + 1 + 1 + 1, 0, none⟩)] w1 fun e w' => Ended w1 (w.heap.size + 1 + 1 + 1 + 1 + 1) ts i n e w') from end_any w1 X.out.2.2 ((HFO.out _ _ _ rfl).2.2 (by omega)) (HFO.out _ _ _ rfl).2.1
    go_wp2_with fail
    refine KB.out.mono ?_
    rintro e w2 (⟨hk0, rfl, hb2⟩ | ⟨hk0, rfl, hk2⟩)
    case inr =>
      have X2 := show Hid (Mid w w2 b m v t) from X.out.1.next HT.out hk2 X.out.1.size
      have hfi := HFN.out
      simp only [finO, true_and] at hfi
      rw [if_pos hk0] at hfi
      have HF2 := show Hid _ from hfi
      clear hk0 hk2 KB X hfi HFN
      generalize (if 512 < Sx.up ts i n then (40 : Int) else 41) = er at *
      generalize Sx.tk ts i = tn at *
      unfold fltP fltV
      go_wp2_with fail
      refine read_caught _ w2 er tn.l tn.c tn.o rfl rfl rfl X2.out.vs X2.out.tb ⟨[], by simp⟩ fun w' hc => ?_
      have hres := HWH.out
      rw [HF2.out] at hres
      rw [hres]
      exact ⟨rfl, mid_caught X2.out.be ⟨Lies.refl _ _, Kp.refl _ _, Nat.le_refl _⟩ hc⟩
    have X2 := show Hid (Mid w w2 b m v t ∧ Pts w2 (w.heap.size + 1 + 1 + 1 + 1 + 1) b a (.func (.func F1) #[] cp1) ∧ RS w2 (w.heap.size + 1 + 1 + 1 + 1 + 1) b g cap ts i n 0) from ⟨X.out.1.next HT.out (KpP.of_below hb2) X.out.1.size, X.out.2.1.later hb2, X.out.2.2.later hb2⟩
    have hfi := HFN.out
    simp only [finO, true_and] at hfi
    rw [if_neg (by simp [hk0])] at hfi
    have HF2 := show Hid (fi = .ok a i n) from hfi
    clear hk0 hb2 KB X hfi HFN
    have KP := show Hid (Calls Tryz.prog F1 cp1 w2.drew fun e w' => Putted w2.drew b m v (Sx.pt a t) e w') from pts_any a HWF.out F1 cp1 w2.drew m g cap ts.length i n 0 v t X2.out.2.1.drew (X2.out.2.2.rd.later (Below.refl _ _).drew) X2.out.1.tb.drew
    have hres := HWH.out
    rw [HF2.out] at hres
    simp only [wholeO] at hres
    have HRES := show Hid _ from hres
    have HPR := show Hid (Sx.Res t (Sx.pt a t)) from Sx.pt_res a HT.out.ok HWF.out
    have c2 := X2.out.2.2.rd.c2
    clear hres HWH HF2 HFO HWF
    by_cases h0 : (Sx.pt a t).2.1 = 0
    · have K2 := show Hid (Calls Tryz.prog F1 cp1 w2.drew fun e w' => e = .returned (.int .i64 (Sx.pt a t).1) ∧ After w2 b m v (Sx.pt a t).2.2 w') from KP.out.mono fun e w' h => by
        rcases h with ⟨_, h1, h2⟩ | ⟨h1, _⟩
        · exact ⟨h1, h2.undrew⟩
        · exact absurd h0 h1
      have hres := HRES.out
      rw [if_pos h0] at hres
      have HRES2 := show Hid _ from hres
      clear hres HRES KP h0
      generalize Sx.pt a t = r at *
      obtain ⟨r1, r2, r3⟩ := r
      simp only at *
      have HV := show Hid (∀ w3, After w2 b m v r3 w3 → Vs w3 w.heap.size b t.length ∧ w3.cell? ⟨w.heap.size + 1 + 1 + 1 + 1 + 1, 2, none⟩ = some (.int .i64 (i : Int))) from fun w3 ha => by
        refine ⟨X2.out.1.vs.keep fun k hk1 hk2 => ha.kp.block k (by have := X2.out.1.size; omega) fun hf => by have := HT.out.foot k hf; omega, (X2.out.2.2.rd.after X2.out.1.tb ha.kp).c2⟩
      have c2d : w2.drew.cell? ⟨w.heap.size + 1 + 1 + 1 + 1 + 1, 2, none⟩ = some (.int .i64 (i : Int)) := c2
      go_wp2_with fail
      refine wp_region_noPanic ?_
      go_region_held2 (fun wx => wx.cell? ⟨w.heap.size + 1 + 1 + 1 + 1 + 1, 2, none⟩ = some (.int .i64 (i : Int))) (first | with_reducible assumption | go_keep) (first | ((with_reducible refine Calls.mono K2.out ?_); rintro e w3 ⟨rfl, ha3⟩; have hv3 := HV.out w3 ha3; have HV3 := show Hid (Vs w3 w.heap.size b t.length ∧ After w2 b m v r3 w3) from ⟨hv3.1, ha3⟩; have hc3 := hv3.2; have u1 := hv3.1.v1.c0; have u2 := hv3.1.v2.c0; have u3 := hv3.1.v3.c0; have u4 := hv3.1.v3.c1; have u5 := hv3.1.v3.c2; have u6 := hv3.1.v3.c3; have f1 := hv3.1.v1.fr; have f2 := hv3.1.v2.fr; have f3 := hv3.1.v3.fr; clear hv3 ha3))
      refine NoPanic.normal ?_
      go_wp2_with fail
      have hfin := ok_of X2.out.1 HV3.out.2 HV3.out.1 r1 (i : Int)
      unfold setG at hfin
      refine read_idle _ _ rfl rfl rfl hfin.1 hfin.2.1 hfin.2.2.1 ?_
      rw [HRES2.out]
      exact ⟨rfl, hfin.2.2.2⟩
    · have K3 := show Hid (Calls Tryz.prog F1 cp1 w2.drew fun e w' => e = fltP (Sx.pt a t).2.1 Sx.tz ∧ After w2 b m v (Sx.pt a t).2.2 w') from KP.out.mono fun e w' h => by
        rcases h with ⟨h1, _⟩ | ⟨_, h1, h2⟩
        · exact absurd h1 h0
        · exact ⟨h1, h2.undrew⟩
      have hres := HRES.out
      rw [if_neg h0] at hres
      have HRES2 := show Hid _ from hres
      have HPRE := show Hid (∃ u, (Sx.pt a t).2.2 = t ++ u) from HPR.out.pre
      clear hres HRES KP h0 HPR
      generalize Sx.pt a t = r at *
      obtain ⟨r1, r2, r3⟩ := r
      simp only at *
      have HV := show Hid (∀ w3, After w2 b m v r3 w3 → Vs w3 w.heap.size b t.length) from fun w3 ha => X2.out.1.vs.keep fun k hk1 hk2 => ha.kp.block k (by have := X2.out.1.size; omega) fun hf => by have := HT.out.foot k hf; omega
      go_wp2_with fail
      refine Code.wp_mono (Q := PQ w.heap.size fun ch w' => ch = [{ v := fltV r2 Sx.tz, recovered := false }] ∧ After w2 b m v r3 w') ?_ ?_
      · rintro en a' w' hp
        cases en with
        | panic ch =>
          obtain ⟨⟨s1, s2, s3, s4⟩, rfl, ha3⟩ := hp
          show Leaves _ _ a'.tmps _ a'.defers _ w'
          rw [s4]
          obtain ⟨v3, t3, l3, k3⟩ := ha3
          refine read_caught a'.tmps w' r2 0 0 0 s1 s2 s3 (HV.out w' ⟨v3, t3, l3, k3⟩) t3 HPRE.out fun w'' hc => ?_
          rw [HRES2.out]
          exact ⟨rfl, mid_caught X2.out.1.be ⟨fun k hk => (l3 k hk).imp id (fun h => Nat.le_trans X2.out.1.be.size h), k3, k3.size⟩ hc⟩
        | _ => exact hp.elim
      · refine wp_region_held_drew (S := fun wx => wx.cell? ⟨w.heap.size + 1 + 1 + 1 + 1 + 1, 2, none⟩ = some (.int .i64 (i : Int))) (by kernel_rfl) c2 (fun hHeld => ?_)
        refine wpAnyH_take (i := 0) (v := .func (.func F1) #[] cp1) rfl (by kernel_rfl) (by kernel_rfl) (by kernel_rfl) (PQ.put (by omega)) (Or.inl ⟨by rfl, fun wx hS => by go_simp⟩) hHeld ?_
        dsimp only [Act.put]
        refine wpAnyH_take (i := 2) (v := .pointer (some ⟨w.heap.size + 1 + 1 + 1 + 1 + 1, 0, none⟩)) rfl (by kernel_rfl) (by kernel_rfl) (by kernel_rfl) (PQ.put (by omega)) (Or.inl ⟨by rfl, fun wx hS => by go_simp⟩) hHeld ?_
        dsimp only [Act.put]
        refine wpAnyH_take (i := 3) (v := .pointer (some ⟨w.heap.size + 1 + 1 + 1 + 1 + 1, 0, none⟩)) rfl (by kernel_rfl) (by kernel_rfl) (by kernel_rfl) (PQ.put (by omega)) (Or.inl ⟨by rfl, fun wx hS => by go_simp⟩) hHeld ?_
        dsimp only [Act.put]
        refine wpAnyH_take (i := 4) (v := .pointer (some ⟨w.heap.size + 1 + 1 + 1 + 1 + 1, 2, none⟩)) rfl (by kernel_rfl) (by kernel_rfl) (by kernel_rfl) (PQ.put (by omega)) (Or.inl ⟨by rfl, fun wx hS => by go_simp⟩) hHeld ?_
        dsimp only [Act.put]
        refine wpAnyH_take (i := 5) (v := .int .i64 (i : Int)) rfl (by kernel_rfl) (by kernel_rfl) (by kernel_rfl) (PQ.put (by omega)) (Or.inl ⟨by rfl, fun wx hS => by go_simp⟩) hHeld ?_
        dsimp only [Act.put]
        refine wpAnyH_take (i := 6) (v := .agg #[.int .i64 0, .int .i64 0, .int .i64 0, .int .i64 0]) rfl (by kernel_rfl) (by kernel_rfl) (by kernel_rfl) (PQ.put (by omega)) (Or.inl ⟨by rfl, fun wx hS => by go_simp⟩) hHeld ?_
        dsimp only [Act.put]
        refine wpAnyH_ready (rs := [1]) (by kernel_rfl) (by simp) ?_
        refine AllReadyH.cons rfl (fun K hK => ?_) AllReadyH.nil
        clear hK
        go_simp
        refine K3.out.mono ?_
        rintro en w3 ⟨rfl, ha3⟩
        exact ⟨⟨rfl, rfl, rfl, rfl⟩, rfl, ha3⟩
end
end Go.Proofs.YtcidldgenogdkaaGreatDoor
/-
  The call read behind Take. For every table and list of tokens. No other condition.
-/
namespace Go.Proofs.YtcidldgenogdkaaGreatDoor
open Go.RowKit Go.Maps
open Fm (Nd)
open Sx (Tn T Lv)

section
variable (w : World) {b m g cap : Nat} {v : Value} {t : List Nd} {ts : List Tn}
theorem take1_any (w : World) (p : Nat) : Calls Tryz.prog 37 #[.pointer (some ⟨p, 0, none⟩)] w fun e w' => e = .returned (.tuple #[]) ∧ w' = w := by
  go_enter Tryz.func37, Tryz.ntmps37
  go_wp2_with fail
  go_end0
  exact ⟨rfl, rfl⟩
set_option maxRecDepth 100000 in
set_option maxHeartbeats 8000000 in
theorem read_take (hT : Tb w b m v t) (hK : TsAt w g cap ts) (hz : ∀ t ∈ ts, t.s.size ≤ 140737488351232) :
    Calls Tryz.prog 28 #[.pointer (some ⟨b, 0, none⟩), .slice (some ⟨g, 0, none⟩) ts.length cap, .func (.func 37) #[] #[]] w fun e w' => e = .returned (wholeV (whole false ts t).1) ∧ After w b m v (whole false ts t).2 w' := by
  have hmf := mkFunc
  have KL := show Hid (∀ w1, Below w.heap.size w w1 → Calls Tryz.prog 20 #[.pointer (some ⟨b, 0, none⟩)] w1 fun e w' => e = .returned (.int .i64 (t.length : Int)) ∧ w' = w1) from fun w1 hb => len_any w1 (hT.later hb)
  obtain ⟨o, ho, hfo⟩ := Sx.rd_total ts (8 * ts.length + 5) .formula 0 0 0 (by omega) (by simp [Sx.cost])
  have HT := show Hid (Tb w b m v t) from hT
  have KF := show Hid (Calls Tryz.prog 55 #[.pointer (some ⟨w.heap.size + 1 + 1 + 1 + 1 + 1, 0, none⟩)] (rdW w b g cap ts t) fun e w' => Read (rdW w b g cap ts t) (w.heap.size + 1 + 1 + 1 + 1 + 1) b g cap ts 0 o e w') from (all_con hz (8 * ts.length + 5)).1 _ (Nat.le_refl _) _ 0 0 0 o (rdW_rs w hK b t) (by omega) (by omega) (by omega) ho
  have HM := show Hid (Mid w (rdW w b g cap ts t) b m v t) from mid_start w hT g cap ts
  have HWF := show Hid (Sx.WfO o) from Sx.rd_wf ts _ .formula 0 0 0 o trivial ho
  have HFN := show Hid (fin false ts = finO false ts o) from by
    show fin false ts = finO false ts o
    unfold fin
    rw [ho]
    rfl
  have HFO := show Hid (Sx.Fine ts .formula 0 0 o) from hfo
  have HWH := show Hid (whole false ts t = wholeO t (fin false ts)) from rfl
  generalize whole false ts t = res at *
  generalize fin false ts = fi at *
  clear hT hK hz ho hfo
  go_enter_defers Tryz.func28, Tryz.ntmps28
  go_wp2_with fail
  refine (KL.out _ ((((Below.refl _ _).alloc (Nat.le_refl _) _).alloc (by simp) _).alloc (by simp; omega) _ |>.alloc (by simp; omega) _)).mono ?_
  rintro e w1 ⟨rfl, hw1⟩
  subst w1
  go_wp2_with fail
  cases o with
  | bad er tn =>
    refine KF.out.mono ?_
    rintro e w1 ⟨rfl, hk1⟩
    have X := show Hid (Mid w w1 b m v t) from HM.out.next HT.out hk1 HM.out.size
    clear hk1 KF HM KL
    unfold fltP fltV
    go_wp2_with fail
    refine read_caught _ w1 er tn.l tn.c tn.o rfl rfl rfl X.out.vs X.out.tb ⟨[], by simp⟩ fun w' hc => ?_
    have hfi := HFN.out
    have hres := HWH.out
    rw [hfi] at hres
    rw [hres]
    exact ⟨rfl, mid_caught X.out.be ⟨Lies.refl _ _, Kp.refl _ _, Nat.le_refl _⟩ hc⟩
  | ok a i n =>
    refine KF.out.mono ?_
    rintro e w1 ⟨F1, cp1, rfl, hP1, hS1, hk1⟩
    have X := show Hid (Mid w w1 b m v t ∧ Pts w1 (w.heap.size + 1 + 1 + 1 + 1 + 1) b a (.func (.func F1) #[] cp1) ∧ RS w1 (w.heap.size + 1 + 1 + 1 + 1 + 1) b g cap ts i n 0) from ⟨HM.out.next HT.out hk1 HM.out.size, hP1, hS1⟩
    have hcf := hP1.enters
    clear hk1 KF HM hP1 hS1 KL
    have KB := show Hid (Calls Tryz.prog 37 #[.pointer (some ⟨w.heap.size + 1 + 1 + 1 + 1 + 1, 0, none⟩)] w1 fun e w' => e = .returned (.tuple #[]) ∧ w' = w1) from take1_any w1 _
    have hfi := HFN.out
    simp only [finO, Bool.false_eq_true, false_and, if_false] at hfi
    have HF2 := show Hid (fi = .ok a i n) from hfi
    clear hfi HFN
    go_wp2_with fail
    refine KB.out.mono ?_
    rintro e w2 ⟨rfl, hw2⟩
    subst w2
    have X2 := show Hid (Mid w w1 b m v t ∧ Pts w1 (w.heap.size + 1 + 1 + 1 + 1 + 1) b a (.func (.func F1) #[] cp1) ∧ RS w1 (w.heap.size + 1 + 1 + 1 + 1 + 1) b g cap ts i n 0) from X.out
    obtain ⟨w2, hw2⟩ : ∃ w2, w2 = w1 := ⟨_, rfl⟩
    rw [← hw2] at X2 ⊢
    clear hw2 X KB
    have KP := show Hid (Calls Tryz.prog F1 cp1 w2.drew fun e w' => Putted w2.drew b m v (Sx.pt a t) e w') from pts_any a HWF.out F1 cp1 w2.drew m g cap ts.length i n 0 v t X2.out.2.1.drew (X2.out.2.2.rd.later (Below.refl _ _).drew) X2.out.1.tb.drew
    have hres := HWH.out
    rw [HF2.out] at hres
    simp only [wholeO] at hres
    have HRES := show Hid _ from hres
    have HPR := show Hid (Sx.Res t (Sx.pt a t)) from Sx.pt_res a HT.out.ok HWF.out
    have c2 := X2.out.2.2.rd.c2
    clear hres HWH HF2 HFO HWF
    by_cases h0 : (Sx.pt a t).2.1 = 0
    · have K2 := show Hid (Calls Tryz.prog F1 cp1 w2.drew fun e w' => e = .returned (.int .i64 (Sx.pt a t).1) ∧ After w2 b m v (Sx.pt a t).2.2 w') from KP.out.mono fun e w' h => by
        rcases h with ⟨_, h1, h2⟩ | ⟨h1, _⟩
        · exact ⟨h1, h2.undrew⟩
        · exact absurd h0 h1
      have hres := HRES.out
      rw [if_pos h0] at hres
      have HRES2 := show Hid _ from hres
      clear hres HRES KP h0
      generalize Sx.pt a t = r at *
      obtain ⟨r1, r2, r3⟩ := r
      simp only at *
      have HV := show Hid (∀ w3, After w2 b m v r3 w3 → Vs w3 w.heap.size b t.length ∧ w3.cell? ⟨w.heap.size + 1 + 1 + 1 + 1 + 1, 2, none⟩ = some (.int .i64 (i : Int))) from fun w3 ha => by
        refine ⟨X2.out.1.vs.keep fun k hk1 hk2 => ha.kp.block k (by have := X2.out.1.size; omega) fun hf => by have := HT.out.foot k hf; omega, (X2.out.2.2.rd.after X2.out.1.tb ha.kp).c2⟩
      have c2d : w2.drew.cell? ⟨w.heap.size + 1 + 1 + 1 + 1 + 1, 2, none⟩ = some (.int .i64 (i : Int)) := c2
      go_wp2_with fail
      refine wp_region_noPanic ?_
      go_region_held2 (fun wx => wx.cell? ⟨w.heap.size + 1 + 1 + 1 + 1 + 1, 2, none⟩ = some (.int .i64 (i : Int))) (first | with_reducible assumption | go_keep) (first | ((with_reducible refine Calls.mono K2.out ?_); rintro e w3 ⟨rfl, ha3⟩; have hv3 := HV.out w3 ha3; have HV3 := show Hid (Vs w3 w.heap.size b t.length ∧ After w2 b m v r3 w3) from ⟨hv3.1, ha3⟩; have hc3 := hv3.2; have u1 := hv3.1.v1.c0; have u2 := hv3.1.v2.c0; have u3 := hv3.1.v3.c0; have u4 := hv3.1.v3.c1; have u5 := hv3.1.v3.c2; have u6 := hv3.1.v3.c3; have f1 := hv3.1.v1.fr; have f2 := hv3.1.v2.fr; have f3 := hv3.1.v3.fr; clear hv3 ha3))
      refine NoPanic.normal ?_
      go_wp2_with fail
      have hfin := ok_of X2.out.1 HV3.out.2 HV3.out.1 r1 (i : Int)
      unfold setG at hfin
      refine read_idle _ _ rfl rfl rfl hfin.1 hfin.2.1 hfin.2.2.1 ?_
      rw [HRES2.out]
      exact ⟨rfl, hfin.2.2.2⟩
    · have K3 := show Hid (Calls Tryz.prog F1 cp1 w2.drew fun e w' => e = fltP (Sx.pt a t).2.1 Sx.tz ∧ After w2 b m v (Sx.pt a t).2.2 w') from KP.out.mono fun e w' h => by
        rcases h with ⟨h1, _⟩ | ⟨_, h1, h2⟩
        · exact absurd h1 h0
        · exact ⟨h1, h2.undrew⟩
      have hres := HRES.out
      rw [if_neg h0] at hres
      have HRES2 := show Hid _ from hres
      have HPRE := show Hid (∃ u, (Sx.pt a t).2.2 = t ++ u) from HPR.out.pre
      clear hres HRES KP h0 HPR
      generalize Sx.pt a t = r at *
      obtain ⟨r1, r2, r3⟩ := r
      simp only at *
      have HV := show Hid (∀ w3, After w2 b m v r3 w3 → Vs w3 w.heap.size b t.length) from fun w3 ha => X2.out.1.vs.keep fun k hk1 hk2 => ha.kp.block k (by have := X2.out.1.size; omega) fun hf => by have := HT.out.foot k hf; omega
      go_wp2_with fail
      refine Code.wp_mono (Q := PQ w.heap.size fun ch w' => ch = [{ v := fltV r2 Sx.tz, recovered := false }] ∧ After w2 b m v r3 w') ?_ ?_
      · rintro en a' w' hp
        cases en with
        | panic ch =>
          obtain ⟨⟨s1, s2, s3, s4⟩, rfl, ha3⟩ := hp
          show Leaves _ _ a'.tmps _ a'.defers _ w'
          rw [s4]
          obtain ⟨v3, t3, l3, k3⟩ := ha3
          refine read_caught a'.tmps w' r2 0 0 0 s1 s2 s3 (HV.out w' ⟨v3, t3, l3, k3⟩) t3 HPRE.out fun w'' hc => ?_
          rw [HRES2.out]
          exact ⟨rfl, mid_caught X2.out.1.be ⟨fun k hk => (l3 k hk).imp id (fun h => Nat.le_trans X2.out.1.be.size h), k3, k3.size⟩ hc⟩
        | _ => exact hp.elim
      · refine wp_region_held_drew (S := fun wx => wx.cell? ⟨w.heap.size + 1 + 1 + 1 + 1 + 1, 2, none⟩ = some (.int .i64 (i : Int))) (by kernel_rfl) c2 (fun hHeld => ?_)
        refine wpAnyH_take (i := 0) (v := .func (.func F1) #[] cp1) rfl (by kernel_rfl) (by kernel_rfl) (by kernel_rfl) (PQ.put (by omega)) (Or.inl ⟨by rfl, fun wx hS => by go_simp⟩) hHeld ?_
        dsimp only [Act.put]
        refine wpAnyH_take (i := 2) (v := .pointer (some ⟨w.heap.size + 1 + 1 + 1 + 1 + 1, 0, none⟩)) rfl (by kernel_rfl) (by kernel_rfl) (by kernel_rfl) (PQ.put (by omega)) (Or.inl ⟨by rfl, fun wx hS => by go_simp⟩) hHeld ?_
        dsimp only [Act.put]
        refine wpAnyH_take (i := 3) (v := .pointer (some ⟨w.heap.size + 1 + 1 + 1 + 1 + 1, 0, none⟩)) rfl (by kernel_rfl) (by kernel_rfl) (by kernel_rfl) (PQ.put (by omega)) (Or.inl ⟨by rfl, fun wx hS => by go_simp⟩) hHeld ?_
        dsimp only [Act.put]
        refine wpAnyH_take (i := 4) (v := .pointer (some ⟨w.heap.size + 1 + 1 + 1 + 1 + 1, 2, none⟩)) rfl (by kernel_rfl) (by kernel_rfl) (by kernel_rfl) (PQ.put (by omega)) (Or.inl ⟨by rfl, fun wx hS => by go_simp⟩) hHeld ?_
        dsimp only [Act.put]
        refine wpAnyH_take (i := 5) (v := .int .i64 (i : Int)) rfl (by kernel_rfl) (by kernel_rfl) (by kernel_rfl) (PQ.put (by omega)) (Or.inl ⟨by rfl, fun wx hS => by go_simp⟩) hHeld ?_
        dsimp only [Act.put]
        refine wpAnyH_take (i := 6) (v := .agg #[.int .i64 0, .int .i64 0, .int .i64 0, .int .i64 0]) rfl (by kernel_rfl) (by kernel_rfl) (by kernel_rfl) (PQ.put (by omega)) (Or.inl ⟨by rfl, fun wx hS => by go_simp⟩) hHeld ?_
        dsimp only [Act.put]
        refine wpAnyH_ready (rs := [1]) (by kernel_rfl) (by simp) ?_
        refine AllReadyH.cons rfl (fun K hK => ?_) AllReadyH.nil
        clear hK
        go_simp
        refine K3.out.mono ?_
        rintro en w3 ⟨rfl, ha3⟩
        exact ⟨⟨rfl, rfl, rfl, rfl⟩, rfl, ha3⟩
end
end Go.Proofs.YtcidldgenogdkaaGreatDoor
