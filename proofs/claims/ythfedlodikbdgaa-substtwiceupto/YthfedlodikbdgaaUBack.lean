/-
  slices.Backward over a row of numbers: for every loop that turns nothing but some blocks and what it made itself. No condition.
-/
import Derived.Test.YthfedlodikbdgaaUAnew
import Derived.Test.YthfedlodikbdgaaUMatch
import Derived.Maps.OwnIn
import Derived.RangeFuncNested
import Derived.RangeFuncBound
import Derived.RangeFuncCalls
import Derived.RangeFuncLeaves
import Derived.RangeFuncFrom
import Derived.RangeFuncWrites
import Derived.RangeFuncBox
import Derived.Shelf.Abstract
import Derived.Shelf.RegionOpen
import Derived.OwnWalkIn
import Derived.TacticsInMore
import Derived.LoopNIn
import Derived.LoopIn
namespace Go.Proofs.Ythfedlodikbdgaa
open Go.RowKit Go.Shelf Go.Maps
open Fm (Nd)
attribute [local go_sem] Oper.semAt_some

/-- Nothing but the blocks S, and blocks from n on, has turned. -/
abbrev KB (n : Nat) (m : Nat → Prop) : World → World → Prop := Kp (fun k => m k ∨ n ≤ k)
theorem kb_t {n : Nat} {m : Nat → Prop} {A B C : World} (h : KB n m A B) (k : KB n m B C) : KB n m A C := h.then k
theorem kb_b {n : Nat} {m : Nat → Prop} {w : World} (hn : n ≤ w.heap.size) (W : World) (l : Nat) (o o' : Obj) (hl : w.heap.size ≤ l) (_ : W.heap[l]? = some o) (_ : o.isCells = false) (_ : o.isWalk = false) : KB n m W (W.putObj l o') :=
  ⟨rfl, rfl, rfl, by simp, fun k _ hk => World.putObj_heap_other (fun e => hk (Or.inr (by omega)))⟩
/-- What comes: the place and the number. -/
abbrev It (N : Nat) := Int × Fin N
def encB {N : Nat} (x : It N) : Array Value := #[.int .i64 x.1, .int .i64 ((x.2.val : Nat) : Int)]
/-- The row lies in the box g, from its places on. -/
structure Bk {N : Nat} (W : World) (g n₁ : Nat) (m : Nat → Prop) (L : List (It N)) : Prop where
  box : ∃ p c, W.cell? ⟨g, 0, none⟩ = some (.slice p L.length c) ∧ ∀ k (hk : k < L.length), ∃ b o, p = some ⟨b, o, none⟩ ∧ W.cell? ⟨b, o + k, none⟩ = some (.int .i64 ((L[k].2.val : Nat) : Int)) ∧ b < n₁ ∧ ¬ m b
  lt : g < n₁ ∧ ¬ m g
  idx : ∀ k (hk : k < L.length), L[k].1 = (k : Int)
  len : L.length ≤ 1024
theorem Bk.kb {N : Nat} {W W' : World} {g n₁ : Nat} {m : Nat → Prop} {L : List (It N)} (h : Bk W g n₁ m L) (k : KB n₁ m W W') : Bk W' g n₁ m L := by
  obtain ⟨⟨p, c, h1, h2⟩, hl, h3, h4⟩ := h
  refine ⟨⟨p, c, k.cell h1 (fun h => h.elim hl.2 (fun h => by omega)), fun j hj => ?_⟩, hl, h3, h4⟩
  obtain ⟨b, o, hp, hc, hb⟩ := h2 j hj
  exact ⟨b, o, hp, k.cell hc (fun h => h.elim hb.2 (fun h => by omega)), hb⟩
set_option maxRecDepth 100000 in
set_option maxHeartbeats 2000000 in
theorem back1_any {N : Nat} (n : Nat) (hn : 1 ≤ n) (l g n₁ : Nat) (m : Nat → Prop) (L : List (It N)) (J Jx : List (It N) → World → Prop)
    (hY : ∀ pre x W, J pre W → pre.length < L.length → YieldAt Fence.wide (n - 1) Try.prog l (encB x) W fun e W' =>
      (e = .returned (.bool true) ∧ J (pre ++ [x]) W' ∧ KB n₁ m W W') ∨ (e = .returned (.bool false) ∧ Jx (pre ++ [x]) W'))
    (W : World) (hB : Bk W g n₁ m L) (h0 : J [] W) :
    CallsIn Fence.wide n Try.prog 70 #[.func (.yield l) #[] #[], .pointer (some ⟨g, 0, none⟩)] W fun e W' => (∃ v, e = .returned v) ∧
      ((∃ ys, ys = L.reverse ∧ J ys W') ∨ (∃ pre, pre <+: L.reverse ∧ Jx pre W')) := by
  have HY := show Hid (∀ pre x W, J pre W → pre.length < L.length → YieldAt Fence.wide (n - 1) Try.prog l (encB x) W fun e W' => (e = .returned (.bool true) ∧ J (pre ++ [x]) W' ∧ KB n₁ m W W') ∨ (e = .returned (.bool false) ∧ Jx (pre ++ [x]) W')) from hY
  have HB := show Hid (Bk W g n₁ m L) from hB
  have HJ0 := show Hid (J [] W) from h0
  have hlen := hB.len
  obtain ⟨⟨p, c, hbox, _⟩, _⟩ := hB
  clear hY h0
  refine callsIn_of_wp Try.func70 rfl trivial ?_ rfl
  simp only [Try.ntmps70, List.size_toArray, List.length_cons, List.length_nil, Nat.reduceAdd, Nat.reduceSub, Array.replicate_succ, Array.replicate_zero, List.push_toArray, List.append_toArray, List.nil_append, List.cons_append]
  gi_wp2
  gi_loopw [3] (fun iv wr => ∃ k : Nat, k ≤ L.length ∧ iv = .int .i64 ((k : Int) - 1) ∧ Hid (Bk wr g n₁ m L ∧ J (L.drop k).reverse wr)) (fun iv _ => (intOf iv + 1).toNat)
  case atStart => exact ⟨L.length, Nat.le_refl _, rfl, HB.out, by rw [List.drop_length]; exact HJ0.out⟩
  case round =>
    obtain ⟨k, hk, rfl, HQ⟩ := hrel
    clear HJ0 HB hbox
    by_cases hk0 : k = 0
    · subst hk0
      have HE := show Hid (J L.reverse wr) from HQ.out.2
      clear HQ HY
      gi_wp2
      go_end0
      exact ⟨⟨_, rfl⟩, .inl ⟨_, rfl, HE.out⟩⟩
    · obtain ⟨j, rfl⟩ : ∃ j, k = j + 1 := ⟨k - 1, by omega⟩
      have hj : j < L.length := by omega
      rw [show ((j + 1 : Nat) : Int) - 1 = (j : Int) by omega]
      obtain ⟨p2, c2, hbox, hcell⟩ := HQ.out.1.box
      obtain ⟨b, o, rfl, hc, _⟩ := hcell j hj
      have HD := show Hid ((L.drop j).reverse = (L.drop (j + 1)).reverse ++ [L[j]]) from by
        show (L.drop j).reverse = _
        rw [List.drop_eq_getElem_cons hj, List.reverse_cons]
      obtain ⟨fn, tmps, assign, body, hy, hR⟩ := HY.out (L.drop (j + 1)).reverse L[j] wr HQ.out.2 (by simp; omega)
      unfold encB at hy
      rw [HQ.out.1.idx j hj] at hy
      have hji : (j : Int) < (L.length : Int) := by omega
      clear hcell HY hk0
      generalize L[j] = x at *
      gi_wp2
      refine hR.mono ?_
      clear hR hy
      rintro e W3 (⟨rfl, hJ3, hk3⟩ | ⟨rfl, hJx3⟩)
      · have HN := show Hid (Bk W3 g n₁ m L ∧ J (L.drop j).reverse W3) from ⟨HQ.out.1.kb hk3, by rw [HD.out]; exact hJ3⟩
        clear hJ3 hk3 HQ HD hbox hc
        gi_wp2
        go_roundw
        case rel => exact ⟨j, by omega, by first | rfl | go_num, HN⟩
        case measure => (simp only [intOf]; omega)
      · have HPF := show Hid ((L.drop (j + 1)).reverse ++ [x] <+: L.reverse) from by
          rw [← HD.out]
          refine ⟨(L.take j).reverse, ?_⟩
          rw [← List.reverse_append, List.take_append_drop]
        clear HQ HD hbox hc
        gi_wp2
        refine bodyPost_ret (results_none rfl _ _ _) rfl ?_
        exact ⟨⟨_, rfl⟩, .inr ⟨_, HPF.out, hJx3⟩⟩
theorem back_stops {N : Nat} (n : Nat) (hn : 1 ≤ n) (g n₁ : Nat) (m : Nat → Prop) (L : List (It N)) (w : World) (hB : Bk w g n₁ m L) :
    SeqStopsK Fence.wide n Try.prog 70 #[.pointer (some ⟨g, 0, none⟩)] encB (KB n₁ m) (fun ys => ys = L.reverse) (fun pre => pre <+: L.reverse) L.length w := fun l J Jx W hW _ _ hY h0 =>
  back1_any n hn l g n₁ m L J Jx hY W (hB.kb (Kp.of_below hW)) h0
set_option maxHeartbeats 1000000 in
theorem backward_any (w : World) (p : Option Addr) (n c : Nat) : Calls Try.prog 50 #[.slice p n c] w fun e w' => e = .returned (.func (.func 70) #[] #[.pointer (some ⟨w.heap.size, 0, none⟩)]) ∧ w' = w.alloc (.cells #[.slice p n c] 77) := by
  go_enter Try.func50, Try.ntmps50
  go_wp2
  go_ret
  exact ⟨rfl, rfl⟩
theorem range_exR {F : Fence} {n : Nat} {P : Program} {α : Type} {g : Operand} {ps : Array Tmp} {assign body : Code} {Q : Exit → Act → World → Prop} {a : Act} {w : World}
    (hro : F.round = none) (h1 : 1 ≤ n) {gf : Nat} {lb : Array Value} (hg : a.eval g = .func (.func gf) #[] lb) (hFg : F.fn gf) (eg : ∀ args w, (callFunc gf args).run P w = .ok (.enter gf args) w)
    {encs : α → Array Value} {n₁ : Nat} {mm : Nat → Prop} {S Sp : List α → Prop} {N : Nat} {w0 : World} (hseq : SeqStopsK F (n - 1) P gf lb encs (KB n₁ mm) S Sp N w0)
    (hn₁ : n₁ ≤ w.heap.size) (hb0 : Below w0.heap.size w0 w) (hps : ∀ x, (encs x).size = ps.size)
    (I Jr : List α → World → Prop) (hI : OwnFrom w.heap.size I) (hJ : OwnFrom w.heap.size Jr) (h0 : I [] w)
    (hab : ∃ a₁ : α → Act, (∀ (l : Nat) (x : α) (W : World) (K : Act → World → Prop), K (a₁ x) W →
      assign.wpIn (F.inRound l) (n - 1 - 1) P (Exit.then K (fun _ _ _ => False)) { tmps := (ps.zip (encs x)).foldl (fun t (p, v) => t.setIfInBounds p v) a.tmps, defers := [] } W) ∧
     (∀ (l : Nat) (pre : List α) (x : α) (W : World), I pre W → pre.length < N → body.wpIn (F.inRound l) (n - 1 - 1) P (ownPostG w.heap.size (KB n₁ mm) I (fun c s W => c = .ret ∧ Jr s W) (pre ++ [x]) W) (a₁ x) W))
    (hdone : ∀ (D : Nat) (xs : List α) (W : World), w.heap.size ≤ D → S xs → I xs W → W.heap[D]? = some (.deferred (some [])) → Q .normal { a with defers := { target := .collected D, args := #[] } :: a.defers } W)
    (hstop : ∀ (D : Nat) (pre : List α) (W : World), w.heap.size ≤ D → Sp pre → Jr pre W → W.heap[D]? = some (.deferred (some [])) → Code.ret.wpIn F n P Q { a with defers := { target := .collected D, args := #[] } :: a.defers } W) :
    (Code.rangeFunc g ps assign body).wpIn F n P Q a w := by
  obtain ⟨a₁, ha, hb⟩ := hab
  exact wpIn_rangeFunc_ownG hro h1 hg hFg eg hseq kb_t (kb_b hn₁) hb0 hps I (fun c s W => c = .ret ∧ Jr s W) hI (fun c s W W' row h hg hr => ⟨h.1, hJ s W W' row h.2 hg hr⟩) h0 a₁ ha hb hdone (fun D c pre W hD hS h hk => by obtain ⟨rfl, h⟩ := h; exact hstop D pre W hD hS h hk)
/-- The places and the numbers of a row. -/
def mkL {N : Nat} (l : List Nat) (h : ∀ x ∈ l, x < N) : List (It N) := List.ofFn fun k : Fin l.length => ((k.val : Int), (⟨l[k.val], h _ (List.getElem_mem k.isLt)⟩ : Fin N))
theorem mkL_len {N : Nat} {l : List Nat} {h : ∀ x ∈ l, x < N} : (mkL l h).length = l.length := by simp [mkL]
theorem mkL_at {N : Nat} {l : List Nat} {h : ∀ x ∈ l, x < N} {k : Nat} (hk : k < (mkL l h).length) : (mkL l h)[k].1 = (k : Int) ∧ (mkL l h)[k].2.val = l[k]'(by rw [← mkL_len (h := h)]; exact hk) := by
  simp [mkL]
theorem mkL_map {N : Nat} {l : List Nat} {h : ∀ x ∈ l, x < N} : (mkL l h).map (fun x => x.2.val) = l := by
  apply List.ext_getElem
  · simp [mkL]
  · intro k h1 h2
    simp [mkL]
end Go.Proofs.Ythfedlodikbdgaa
