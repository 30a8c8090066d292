/-
  A range over an iterator that keeps its place in a variable of its own (strings.Lines): the law, and the iterator. No condition.
-/
import Derived.Test.YtjbnbaiidpdpoaaDoorWText
import Derived.RangeFuncWrites
import Derived.RangeFuncBox
import Derived.RangeFuncCalls
namespace Go.Proofs.YtjbnbaiidpdpoaaDoor.Wm
open Go.RowKit Go.Shelf Go.Maps
set_option linter.unusedSimpArgs false
attribute [local go_sem] Oper.semAt_some

def SeqC {α : Type} (n gf : Nat) (lb : Array Value) (encs : α → Array Value) (c : Nat) (S Sp : List α → Prop) (N : Nat) (w : World) : Prop :=
  ∀ (l : Nat) (J Jx : List α → World → Prop) (W : World), Below w.heap.size w W → (∀ pre A B, J pre A → Kp (fun k => k = c) A B → J pre B) → (∀ pre A B, Jx pre A → Kp (fun k => k = c) A B → Jx pre B) →
    (∀ pre x A, J pre A → pre.length < N → YieldAt Fence.wide (n - 1) Tryd.prog l (encs x) A fun e B => (e = .returned (.bool true) ∧ J (pre ++ [x]) B ∧ B.heap[c]? = A.heap[c]?) ∨ (e = .returned (.bool false) ∧ Jx (pre ++ [x]) B)) →
    J [] W → CallsIn Fence.wide n Tryd.prog gf (#[.func (.yield l) #[] #[]] ++ lb) W fun e B => (∃ v, e = .returned v) ∧ ((∃ xs, S xs ∧ J xs B) ∨ ∃ pre, Sp pre ∧ Jx pre B)
theorem range_box {α : Type} {g : Operand} {ps : Array Tmp} {assign body : Code} {Q : Exit → Act → World → Prop} {a : Act} {w : World} {gf : Nat} {lb : Array Value} (hg : a.eval g = .func (.func gf) #[] lb) (eg : Cf gf)
    {encs : α → Array Value} {c : Nat} {S Sp : List α → Prop} {N : Nat} (hseq : SeqC (5 - 1) gf lb encs c S Sp N w) (hc : c < w.heap.size) (hps : ∀ x, (encs x).size = ps.size)
    (I Ix : List α → World → Prop) (hIc : ∀ pre A B, I pre A → Kp (fun k => k = c) A B → I pre B) (hXc : ∀ pre A B, Ix pre A → Kp (fun k => k = c) A B → Ix pre B)
    (hIo : ∀ pre A l o o', w.heap.size ≤ l → A.heap[l]? = some o → o.isCells = false → I pre A → I pre (A.putObj l o')) (hXo : ∀ pre A l o o', w.heap.size ≤ l → A.heap[l]? = some o → o.isCells = false → Ix pre A → Ix pre (A.putObj l o'))
    (h0 : I [] w) (a₁ : α → Act)
    (ha : ∀ (l : Nat) (x : α) (A : World) (K : Act → World → Prop), K (a₁ x) A → assign.wpIn (Fence.wide.inRound l) (5 - 1 - 1) Tryd.prog (Exit.then K (fun _ _ _ => False)) { tmps := (ps.zip (encs x)).foldl (fun t (p, v) => t.setIfInBounds p v) a.tmps, defers := [] } A)
    (hb : ∀ (l : Nat) (pre : List α) (x : α) (A : World), I pre A → pre.length < N → body.wpIn (Fence.wide.inRound l) (5 - 1 - 1) Tryd.prog (ownPostG w.heap.size (fun A B => B.heap[c]? = A.heap[c]?) I (fun k xs B => k = .ret ∧ Ix xs B) (pre ++ [x]) A) (a₁ x) A)
    (hdone : ∀ (D : Nat) (xs : List α) (A : World), w.heap.size ≤ D → S xs → I xs A → A.heap[D]? = some (.deferred (some [])) → Q .normal { a with defers := { target := .collected D, args := #[] } :: a.defers } A)
    (hstop : ∀ (D : Nat) (pre : List α) (A : World), w.heap.size ≤ D → Sp pre → Ix pre A → A.heap[D]? = some (.deferred (some [])) → Code.ret.wpIn Fence.wide 5 Tryd.prog Q { a with defers := { target := .collected D, args := #[] } :: a.defers } A) :
    (Code.rangeFunc g ps assign body).wpIn Fence.wide 5 Tryd.prog Q a w := by
  refine wpIn_rangeFunc fun fn hfn => ?_
  have hps' := hps
  -- the two blocks that the statement lays, and what they hold
  let R : LoopState → Option Code → Obj := fun st pe => .loop { state := st, pending := pe, fn := fn, tmps := a.tmps, params := ps, assign := assign, body := body, defers := w.heap.size }
  let W1 : World := (w.alloc (.deferred (some []))).alloc (R .ready none)
  have sz1 : (w.alloc (.deferred (some []))).heap.size = w.heap.size + 1 := by simp
  have atL : W1.heap[w.heap.size + 1]? = some (R .ready none) := by
    have h := heap_alloc_last (w.alloc (.deferred (some []))) (R .ready none)
    rwa [sz1] at h
  have atD : W1.heap[w.heap.size]? = some (.deferred (some [])) := ((below_alloc _ (R .ready none)).block _ (by omega)).trans (heap_alloc_last w _)
  have grew : Below w.heap.size w W1 := (below_alloc w _).trans ((below_alloc _ _).mono (by omega))
  have i1 : I [] W1 := hIc _ _ _ h0 (Kp.of_below grew)
  refine ⟨w.heap.size + 1, [{ target := .collected w.heap.size, args := #[] }], W1, { target := .fn (.func gf) lb, args := #[.func (.yield (w.heap.size + 1)) #[] #[]] }, W1, gf, #[.func (.yield (w.heap.size + 1)) #[] #[]] ++ lb, W1, run_enterLoop_outer _ _ _ _ _, ?_, fun _ _ => trivial, ?_, fun _ => by omega, ?_⟩
  · simp only [resolve, hg]
    simp [go_sem]
  · simp [invoke, go_sem, show ∀ vs w, _ from eg]
  -- both facts stay while c alone turns
  have stay : ∀ {A B : World} {k : Nat} {o : Obj}, Kp (fun k => k = c) A B → w.heap.size ≤ k → A.heap[k]? = some o → B.heap[k]? = some o := fun h hk ho => (h.block _ (lt_of_block ho) (by omega)).trans ho
  refine (hseq (w.heap.size + 1) (fun pre A => I pre A ∧ A.heap[w.heap.size + 1]? = some (R .ready none) ∧ A.heap[w.heap.size]? = some (.deferred (some [])))
    (fun pre A => Ix pre A ∧ A.heap[w.heap.size + 1]? = some (R .done (some .ret)) ∧ A.heap[w.heap.size]? = some (.deferred (some []))) W1 grew
    (fun pre A B h k => ⟨hIc pre A B h.1 k, stay k (by omega) h.2.1, stay k (Nat.le_refl _) h.2.2⟩) (fun pre A B h k => ⟨hXc pre A B h.1 k, stay k (by omega) h.2.1, stay k (Nat.le_refl _) h.2.2⟩) ?round ⟨i1, atL, atD⟩).mono ?behind
  case round =>
    rintro pre x A ⟨hi, hL, hD⟩ hlen
    have hlt := lt_of_block hL
    have hbusy : (A.putObj (w.heap.size + 1) (R .busy none)).heap[w.heap.size + 1]? = some (R .busy none) := World.putObj_heap_same hlt
    have hD2 : (A.putObj (w.heap.size + 1) (R .busy none)).heap[w.heap.size]? = some (.deferred (some [])) := (World.putObj_heap_other (by omega)).trans hD
    refine ⟨fn, _, assign, body, run_yield (P := Tryd.prog) (args := encs x) hL (hps' x), roundIn_of_wpIn hfn (ha _ x A _ ⟨_, run_beginRound hL rfl, ?_⟩)⟩
    refine wpIn_mono (hb _ pre x _ (hIo pre A _ _ (R .busy none) (by omega) hL rfl hi) hlen) ?_
    rintro e a3 B hp
    have hcl : ∀ o, (A.putObj (w.heap.size + 1) o).heap[c]? = A.heap[c]? := fun o => World.putObj_heap_other (by omega)
    cases e with
    | normal =>
      obtain ⟨hk, hcc, hi3⟩ := hp
      have hL3 := hk.same _ _ (by omega) hbusy rfl
      have hD3 := hk.same _ _ (Nat.le_refl _) hD2 rfl
      have hlt3 := lt_of_block hL3
      refine ⟨_, _, run_endRound (P := Tryd.prog) none hL3, .inl ⟨rfl, ⟨hIo _ B _ _ _ (by omega) hL3 rfl hi3, World.putObj_heap_same hlt3, (World.putObj_heap_other (by omega)).trans hD3⟩, ?_⟩⟩
      exact (World.putObj_heap_other (by omega)).trans (hcc.trans (hcl _))
    | ret =>
      obtain ⟨hk, -, hx3⟩ := hp
      have hL3 := hk.same _ _ (by omega) hbusy rfl
      have hD3 := hk.same _ _ (Nat.le_refl _) hD2 rfl
      exact ⟨_, _, run_endRound (P := Tryd.prog) (some .ret) hL3, .inr ⟨rfl, hXo _ B _ _ _ (by omega) hL3 rfl hx3, World.putObj_heap_same (lt_of_block hL3), (World.putObj_heap_other (by omega)).trans hD3⟩⟩
    | exit id => obtain ⟨_, h, _⟩ := hp; cases h
    | goto t => obtain ⟨_, h, _⟩ := hp; cases h
    | panic ch => exact hp.elim
    | outgrown => exact hp.elim
  case behind =>
    rintro e B ⟨⟨v, rfl⟩, ⟨xs, hS, hi, hL, hD⟩ | ⟨pre, hSp, hx, hL, hD⟩⟩
    · exact ⟨none, _, run_endLoop (P := Tryd.prog) hL (by simp), hdone _ xs _ (Nat.le_refl _) hS (hIo _ B _ _ _ (by omega) hL rfl hi) ((World.putObj_heap_other (by omega)).trans hD)⟩
    · exact ⟨some .ret, _, run_endLoop (P := Tryd.prog) hL (by simp), hstop _ pre _ (Nat.le_refl _) hSp (hXo _ B _ _ _ (by omega) hL rfl hx) ((World.putObj_heap_other (by omega)).trans hD)⟩
theorem range_boxE {α : Type} {g : Operand} {ps : Array Tmp} {assign body : Code} {Q : Exit → Act → World → Prop} {a : Act} {w : World} {gf : Nat} {lb : Array Value} (hg : a.eval g = .func (.func gf) #[] lb) (eg : Cf gf)
    {encs : α → Array Value} {c : Nat} {S Sp : List α → Prop} {N : Nat} (hseq : SeqC (5 - 1) gf lb encs c S Sp N w) (hc : c < w.heap.size) (hps : ∀ x, (encs x).size = ps.size)
    (I Ix : List α → World → Prop) (hIc : ∀ pre A B, I pre A → Kp (fun k => k = c) A B → I pre B) (hXc : ∀ pre A B, Ix pre A → Kp (fun k => k = c) A B → Ix pre B)
    (hIo : ∀ pre A l o o', w.heap.size ≤ l → A.heap[l]? = some o → o.isCells = false → I pre A → I pre (A.putObj l o')) (hXo : ∀ pre A l o o', w.heap.size ≤ l → A.heap[l]? = some o → o.isCells = false → Ix pre A → Ix pre (A.putObj l o'))
    (h0 : I [] w)
    (hab : ∃ a₁ : α → Act, (∀ (l : Nat) (x : α) (A : World) (K : Act → World → Prop), K (a₁ x) A → assign.wpIn (Fence.wide.inRound l) (5 - 1 - 1) Tryd.prog (Exit.then K (fun _ _ _ => False)) { tmps := (ps.zip (encs x)).foldl (fun t (p, v) => t.setIfInBounds p v) a.tmps, defers := [] } A) ∧
     (∀ (l : Nat) (pre : List α) (x : α) (A : World), I pre A → pre.length < N → body.wpIn (Fence.wide.inRound l) (5 - 1 - 1) Tryd.prog (ownPostG w.heap.size (fun A B => B.heap[c]? = A.heap[c]?) I (fun k xs B => k = .ret ∧ Ix xs B) (pre ++ [x]) A) (a₁ x) A))
    (hdone : ∀ (D : Nat) (xs : List α) (A : World), w.heap.size ≤ D → S xs → I xs A → A.heap[D]? = some (.deferred (some [])) → Q .normal { a with defers := { target := .collected D, args := #[] } :: a.defers } A)
    (hstop : ∀ (D : Nat) (pre : List α) (A : World), w.heap.size ≤ D → Sp pre → Ix pre A → A.heap[D]? = some (.deferred (some [])) → Code.ret.wpIn Fence.wide 5 Tryd.prog Q { a with defers := { target := .collected D, args := #[] } :: a.defers } A) :
    (Code.rangeFunc g ps assign body).wpIn Fence.wide 5 Tryd.prog Q a w := by
  obtain ⟨a₁, ha, hb⟩ := hab
  exact range_box hg eg hseq hc hps I Ix hIc hXc hIo hXo h0 a₁ ha hb hdone hstop
end Go.Proofs.YtjbnbaiidpdpoaaDoor.Wm
