/-
  slices.Backward over a row of numbers: for every loop that turns nothing but one block and what it made itself; a region that draws its order, in a round of such a loop. No condition.
-/
import Derived.Test.YthdcppkohalkmaaGreatMSides
import Derived.RangeFuncNested
import Derived.RangeFuncBound
import Derived.RangeFuncCalls
import Derived.RangeFuncLeaves
import Derived.RangeFuncFrom
import Derived.RangeFuncWrites
import Derived.RangeFuncBox
import Derived.Shelf.Abstract
import Derived.Shelf.RegionOpen
import Derived.OwnWalkIn
import Derived.TacticsInMore
import Derived.LoopNIn
import Derived.LoopIn
namespace Go.Proofs.YthdcppkohalkmaaGreat
open Go.RowKit Go.Shelf Go.Maps
open Fm (Nd)
attribute [local go_sem] Oper.semAt_some

section
variable {P : Program} {ops : Array Oper} {Q : Exit → Act → World → Prop} {l n : Nat}
theorem op_round {o : Oper} (hnd : ∀ c, o.op ≠ .defer c) {a : Act} {w : World} {K K' : Act → World → Prop} (hK : ∀ a w, K a w → K' a w) (h : o.wp P a w K Q) : o.wpIn (Fence.wide.inRound l) n P a w K' Q := by
  refine ⟨fun _ _ => trivial, ?_⟩
  rw [Oper.semAt_eq _ _ _ hnd]
  unfold Oper.wp at h
  generalize (execOp a.eval o).run P w = r at *
  have hd : (Fence.wide.inRound l).depth.isSome = true → 1 ≤ n := fun h => by simp [Fence.wide] at h
  cases r with
  | ok x w' =>
    cases x <;> simp only [Oper.upon, Oper.uponIn] at h ⊢
    case value v => exact hK _ _ h
    case skip => exact hK _ _ h
    case defer d => exact hK _ _ h
    case enter f args =>
      refine ⟨hd, CallsIn.inRound l (callsIn_wide.2 (Calls.mono h fun e w'' he => ?_))⟩
      cases e with
      | returned v => exact hK _ _ he
      | panicked c => exact he
      | outgrown => exact he
    case row row args => exact ⟨hd, fun c cs _ => let ⟨v, w', r, s⟩ := h c cs; ⟨v, w', hK _ _ r, stepsIn_wide.2 s⟩⟩
  | halt x w' =>
    cases x <;> simp only [Oper.upon, Oper.uponIn] at h ⊢
    case panic u => exact h
theorem any_round (hnd : ∀ (i : Nat) (o : Oper), ops[i]? = some o → ∀ c, o.op ≠ .defer c) (hQ : ¬ LetsOut Q) {md : Region.Mode} : ∀ (fuel : Nat) (listed : Array Bool) (a : Act) (w : World), wpAny P md ops Q fuel listed a w → wpAnyIn (Fence.wide.inRound l) n P md ops Q fuel listed a w
  | 0, _, _, _, h => h
  | fuel + 1, listed, a, w, h => by
    refine ⟨h.1, fun i hi => ?_⟩
    have h2 := h.2 i hi
    unfold wpOp at h2
    unfold wpOpIn
    cases ho : ops[i]? with
    | none => rw [ho] at h2; exact any_round hnd hQ fuel _ a w h2
    | some o =>
      rw [ho] at h2
      simp only at h2 ⊢
      split <;> rename_i hw
      · rw [if_pos hw] at h2
        rcases h2 with h2 | h2
        · exact op_round (hnd i o ho) (fun a w h => any_round hnd hQ fuel _ a w h) h2
        · exact absurd h2.2 hQ
      · rw [if_neg hw] at h2
        exact ⟨fun _ _ => trivial, any_round hnd hQ fuel _ _ w h2⟩
/-- A region that draws its order, in a round. -/
theorem region_round {id : Nat} {a : Act} {w : World} {S : World → Prop} (hm : P.follows .mixedOrders = true) (hnd : (ops.all fun o => match o.op with | .defer _ => false | _ => true) = true) (hQ : ¬ LetsOut Q) (hS : S w.drew)
    (h : S w.drew → wpAnyH P .any ops Q S ops.size (Array.replicate ops.size false) a w.drew) : (Code.region id ops true).wpIn (Fence.wide.inRound l) n P Q a w := by
  refine wpIn_region_any hm (any_round (fun i o ho c hc => ?_) hQ _ _ _ _ (wpAny_of_held _ _ _ _ (h hS)))
  have h1 := (Array.all_eq_true'.1 hnd) o (Array.mem_of_getElem? ho)
  rw [hc] at h1
  cases h1
end
/-- Nothing but block m, and blocks from n on, has turned. -/
abbrev KB (n m : Nat) : World → World → Prop := Kp (fun k => k = m ∨ n ≤ k)
theorem kb_t {n m : Nat} {A B C : World} (h : KB n m A B) (k : KB n m B C) : KB n m A C := h.then k
theorem kb_b {n m : Nat} {w : World} (hn : n ≤ w.heap.size) (W : World) (l : Nat) (o o' : Obj) (hl : w.heap.size ≤ l) (_ : W.heap[l]? = some o) (_ : o.isCells = false) (_ : o.isWalk = false) : KB n m W (W.putObj l o') :=
  ⟨rfl, rfl, rfl, by simp, fun k _ hk => World.putObj_heap_other (fun e => hk (Or.inr (by omega)))⟩
/-- What comes: the place and the number. -/
abbrev It (N : Nat) := Int × Fin N
def encB {N : Nat} (x : It N) : Array Value := #[.int .i64 x.1, .int .i64 ((x.2.val : Nat) : Int)]
/-- The row lies in the box g, from its places on. -/
structure Bk {N : Nat} (W : World) (g n₁ m : Nat) (L : List (It N)) : Prop where
  box : ∃ p c, W.cell? ⟨g, 0, none⟩ = some (.slice p L.length c) ∧ ∀ k (hk : k < L.length), ∃ b o, p = some ⟨b, o, none⟩ ∧ W.cell? ⟨b, o + k, none⟩ = some (.int .i64 ((L[k].2.val : Nat) : Int)) ∧ b < n₁ ∧ b ≠ m
  lt : g < n₁ ∧ g ≠ m
  idx : ∀ k (hk : k < L.length), L[k].1 = (k : Int)
  len : L.length ≤ 1024
theorem Bk.kb {N : Nat} {W W' : World} {g n₁ m : Nat} {L : List (It N)} (h : Bk W g n₁ m L) (k : KB n₁ m W W') : Bk W' g n₁ m L := by
  obtain ⟨⟨p, c, h1, h2⟩, hl, h3, h4⟩ := h
  refine ⟨⟨p, c, k.cell h1 (by omega), fun j hj => ?_⟩, hl, h3, h4⟩
  obtain ⟨b, o, hp, hc, hb⟩ := h2 j hj
  exact ⟨b, o, hp, k.cell hc (by omega), hb⟩
set_option maxRecDepth 100000 in
set_option maxHeartbeats 2000000 in
theorem back1_any {N : Nat} (n : Nat) (hn : 1 ≤ n) (l g n₁ m : Nat) (L : List (It N)) (J Jx : List (It N) → World → Prop)
    (hY : ∀ pre x W, J pre W → pre.length < L.length → YieldAt Fence.wide (n - 1) Tryz.prog l (encB x) W fun e W' =>
      (e = .returned (.bool true) ∧ J (pre ++ [x]) W' ∧ KB n₁ m W W') ∨ (e = .returned (.bool false) ∧ Jx (pre ++ [x]) W'))
    (W : World) (hB : Bk W g n₁ m L) (h0 : J [] W) :
    CallsIn Fence.wide n Tryz.prog 90 #[.func (.yield l) #[] #[], .pointer (some ⟨g, 0, none⟩)] W fun e W' => (∃ v, e = .returned v) ∧
      ((∃ ys, ys = L.reverse ∧ J ys W') ∨ (∃ pre, True ∧ Jx pre W')) := by
  have HY := show Hid (∀ pre x W, J pre W → pre.length < L.length → YieldAt Fence.wide (n - 1) Tryz.prog l (encB x) W fun e W' => (e = .returned (.bool true) ∧ J (pre ++ [x]) W' ∧ KB n₁ m W W') ∨ (e = .returned (.bool false) ∧ Jx (pre ++ [x]) W')) from hY
  have HB := show Hid (Bk W g n₁ m L) from hB
  have HJ0 := show Hid (J [] W) from h0
  have hlen := hB.len
  obtain ⟨⟨p, c, hbox, _⟩, _⟩ := hB
  clear hY h0
  refine callsIn_of_wp Tryz.func90 rfl trivial ?_ rfl
  simp only [Tryz.ntmps90, List.size_toArray, List.length_cons, List.length_nil, Nat.reduceAdd, Nat.reduceSub, Array.replicate_succ, Array.replicate_zero, List.push_toArray, List.append_toArray, List.nil_append, List.cons_append]
  gi_wp2
  gi_loopw [3] (fun iv wr => ∃ k : Nat, k ≤ L.length ∧ iv = .int .i64 ((k : Int) - 1) ∧ Hid (Bk wr g n₁ m L ∧ J (L.drop k).reverse wr)) (fun iv _ => (intOf iv + 1).toNat)
  case atStart => exact ⟨L.length, Nat.le_refl _, rfl, HB.out, by rw [List.drop_length]; exact HJ0.out⟩
  case round =>
    obtain ⟨k, hk, rfl, HQ⟩ := hrel
    clear HJ0 HB hbox
    by_cases hk0 : k = 0
    · subst hk0
      have HE := show Hid (J L.reverse wr) from HQ.out.2
      clear HQ HY
      gi_wp2
      go_end0
      exact ⟨⟨_, rfl⟩, .inl ⟨_, rfl, HE.out⟩⟩
    · obtain ⟨j, rfl⟩ : ∃ j, k = j + 1 := ⟨k - 1, by omega⟩
      have hj : j < L.length := by omega
      rw [show ((j + 1 : Nat) : Int) - 1 = (j : Int) by omega]
      obtain ⟨p2, c2, hbox, hcell⟩ := HQ.out.1.box
      obtain ⟨b, o, rfl, hc, _⟩ := hcell j hj
      have HD := show Hid ((L.drop j).reverse = (L.drop (j + 1)).reverse ++ [L[j]]) from by
        show (L.drop j).reverse = _
        rw [List.drop_eq_getElem_cons hj, List.reverse_cons]
      obtain ⟨fn, tmps, assign, body, hy, hR⟩ := HY.out (L.drop (j + 1)).reverse L[j] wr HQ.out.2 (by simp; omega)
      unfold encB at hy
      rw [HQ.out.1.idx j hj] at hy
      have hji : (j : Int) < (L.length : Int) := by omega
      clear hcell HY hk0
      generalize L[j] = x at *
      gi_wp2
      refine hR.mono ?_
      clear hR hy
      rintro e W3 (⟨rfl, hJ3, hk3⟩ | ⟨rfl, hJx3⟩)
      · have HN := show Hid (Bk W3 g n₁ m L ∧ J (L.drop j).reverse W3) from ⟨HQ.out.1.kb hk3, by rw [HD.out]; exact hJ3⟩
        clear hJ3 hk3 HQ HD hbox hc
        gi_wp2
        go_roundw
        case rel => exact ⟨j, by omega, by first | rfl | go_num, HN⟩
        case measure => (simp only [intOf]; omega)
      · clear HQ HD hbox hc
        gi_wp2
        refine bodyPost_ret (results_none rfl _ _ _) rfl ?_
        exact ⟨⟨_, rfl⟩, .inr ⟨_, trivial, hJx3⟩⟩
theorem back_stops {N : Nat} (n : Nat) (hn : 1 ≤ n) (g n₁ m : Nat) (L : List (It N)) (w : World) (hB : Bk w g n₁ m L) :
    SeqStopsK Fence.wide n Tryz.prog 90 #[.pointer (some ⟨g, 0, none⟩)] encB (KB n₁ m) (fun ys => ys = L.reverse) (fun _ => True) L.length w := fun l J Jx W hW _ _ hY h0 =>
  back1_any n hn l g n₁ m L J Jx hY W (hB.kb (Kp.of_below hW)) h0
set_option maxHeartbeats 1000000 in
theorem backward_any (w : World) (p : Option Addr) (n c : Nat) : Calls Tryz.prog 73 #[.slice p n c] w fun e w' => e = .returned (.func (.func 90) #[] #[.pointer (some ⟨w.heap.size, 0, none⟩)]) ∧ w' = w.alloc (.cells #[.slice p n c] 33) := by
  go_enter Tryz.func73, Tryz.ntmps73
  go_wp2
  go_ret
  exact ⟨rfl, rfl⟩
end Go.Proofs.YthdcppkohalkmaaGreat
