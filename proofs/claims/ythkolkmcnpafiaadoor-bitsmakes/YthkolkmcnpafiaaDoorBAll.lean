/-
  All's iterator: for every set, and for every loop that keeps what lay below: its numbers, rising; it may be left early. The table that TrailingZeros64 reads stands.
-/
import Derived.Test.YthkolkmcnpafiaaDoorBList
import Derived.RangeFuncNested
import Derived.RangeFuncBound
import Derived.RangeFuncCalls
import Derived.RangeFuncLeaves
import Derived.RangeFuncFrom
import Derived.RangeFuncBox
import Derived.Shelf.Abstract
import Derived.Shelf.RegionOpen
import Derived.OwnWalkIn
import Derived.TacticsInMore
import Derived.LoopNIn
import Derived.LoopIn
namespace Go.Proofs.YthkolkmcnpafiaaDoor
open Go.RowKit Go.Shelf
open Bs (Ok wd)
attribute [local go_sem] Oper.semAt_some

theorem ldIn {F : Fence} {n : Nat} {ops : Array Oper} {rest : List Oper} {o : Oper} {a : Act} {Q : Exit → Act → World → Prop} (w : World) (x : Operand) (hop : o.op = Op.load 25 x) (g : Nat) (hx : a.eval x = .pointer (some ⟨g, 0, none⟩))
    {r : List Nat} (h : RowAt w g r) (hs : r.length = 16) (hg : o.guard = none) (hK : wpListIn F n Tryd.prog ops Q rest (a.put o.dst (.agg (cellsB r))) w) : wpListIn F n Tryd.prog ops Q (o :: rest) a w := by
  refine wpListIn_plain hg fun K' hK' => ?_
  have hrun := load25 w g h hs
  unfold Oper.wpIn
  refine ⟨by simp [Oper.about, hop], ?_⟩
  rw [Oper.semAt_plain F _ _ (by rw [hop]; intro c hc'; cases hc')]
  simp [execOp, hop, hx, hrun, Result.andThen]
  exact hK' _ _ hK
theorem and_pred {x : Nat} (h0 : x ≠ 0) (hx : x < 18446744073709551616) : IntKind.u64.wrap ((x : Int) - 1) = ((x - 1 : Nat) : Int) ∧ bits .and .u64 (x : Int) ((x - 1 : Nat) : Int) = ((x &&& (x - 1) : Nat) : Int) := by
  refine ⟨?_, u64_and_nat x (x - 1) hx (by omega)⟩
  rw [IntKind.wrap_u64]
  omega
theorem tz_below {n₀ : Nat} {W W' : World} (hn₀ : 0 < n₀) (h : Below n₀ W W') (hT : Tz W) : Tz W' := fun j hj => (h.cell hn₀).trans (hT j hj)
set_option maxRecDepth 100000 in
set_option maxHeartbeats 2000000 in
theorem all1_any (n : Nat) (hn : 1 ≤ n) (l g n₀ : Nat) {r : List Nat} (hr : Ok r) (J Jx : List Nat → World → Prop)
    (hY : ∀ pre x W, J pre W → pre.length < (Bs.nums r).length → YieldAt Fence.wide (n - 1) Tryd.prog l #[.int .i64 ((x : Nat) : Int)] W fun e W' =>
      (e = .returned (.bool true) ∧ J (pre ++ [x]) W' ∧ Below n₀ W W') ∨ (e = .returned (.bool false) ∧ Jx (pre ++ [x]) W'))
    (W : World) (hg : RowAt W g r) (hT : Tz W) (hn₀ : 0 < n₀) (h0 : J [] W) :
    CallsIn Fence.wide n Tryd.prog 43 #[.func (.yield l) #[] #[], .pointer (some ⟨g, 0, none⟩)] W fun e W' => (∃ v, e = .returned v) ∧
      ((∃ ys, ys = Bs.nums r ∧ J ys W') ∨ (∃ pre, pre <+: Bs.nums r ∧ Jx pre W')) := by
  have HL := show Hid (r.length = 16) from hr.1
  have HW := show Hid (∀ k, wd r k < 18446744073709551616) from fun k => Bs.wd_lt hr k
  have HR0 := show Hid (Bs.nums r = Bs.rest r 0) from Bs.nums_rest r
  have HRS := show Hid (∀ i, i < 16 → Bs.rest r i = (Bs.wbits (wd r i)).map (i * 64 + ·) ++ Bs.rest r (i + 1)) from fun i hi => Bs.rest_step r hi
  have HRE := show Hid (Bs.rest r 16 = []) from Bs.rest_end r
  have HGW := show Hid (RowAt W g r) from hg
  have HYY := show Hid (∀ pre x W, J pre W → pre.length < (Bs.nums r).length → YieldAt Fence.wide (n - 1) Tryd.prog l #[.int .i64 ((x : Nat) : Int)] W fun e W' => (e = .returned (.bool true) ∧ J (pre ++ [x]) W' ∧ Below n₀ W W') ∨ (e = .returned (.bool false) ∧ Jx (pre ++ [x]) W')) from hY
  have HJ0 := show Hid (J [] W ∧ Tz W) from ⟨h0, hT⟩
  clear hr hg hT h0 hY
  refine callsIn_of_wp Tryd.func43 rfl trivial ?_ rfl
  simp only [Tryd.ntmps43, List.size_toArray, List.length_cons, List.length_nil, Nat.reduceAdd, Nat.reduceSub, Array.replicate_succ, Array.replicate_zero, List.push_toArray, List.append_toArray, List.nil_append, List.cons_append]
  gi_wp2_with (refine ldIn _ _ rfl _ rfl (r := r) HGW.out HL.out rfl ?_)
  gi_loopw [6] (fun iv wr => ∃ (k : Nat) (pre : List Nat), k ≤ 16 ∧ iv = .int .i64 (k : Int) ∧ Hid (Bs.nums r = pre ++ Bs.rest r k ∧ J pre wr ∧ Tz wr)) (fun iv _ => 16 - (intOf iv).toNat)
  case atStart => exact ⟨0, [], by omega, rfl, HR0.out, HJ0.out.1, HJ0.out.2⟩
  case round =>
    obtain ⟨k, pre, hk, rfl, HQ⟩ := hrel
    clear HJ0 HR0 HGW
    by_cases hlt : k < 16
    · have hix := fun w => index_bits w HL.out hlt
      have HR1 := show Hid (Bs.rest r k = (Bs.wbits (wd r k)).map (k * 64 + ·) ++ Bs.rest r (k + 1)) from HRS.out k hlt
      have HX := show Hid (wd r k < 18446744073709551616) from HW.out k
      clear HRS HRE HW
      gi_wp2
      simp only [show decide ((k : Int) < 16) = true from by simp; omega]
      gi_loopw [4] (fun wv wr => ∃ (x : Nat) (pre : List Nat), wv = .int .u64 (x : Int) ∧ Hid (x < 18446744073709551616 ∧ Bs.nums r = pre ++ (Bs.wbits x).map (k * 64 + ·) ++ Bs.rest r (k + 1) ∧ J pre wr ∧ Tz wr)) (fun wv _ => (Bs.wbits (intOf wv).toNat).length)
      case atStart => exact ⟨wd r k, pre, rfl, HX.out, by rw [List.append_assoc, ← HR1.out]; exact HQ.out.1, HQ.out.2⟩
      case round =>
        obtain ⟨x, pre, rfl, HI⟩ := hrel
        clear HQ HR1 HX hix
        by_cases hz : x = 0
        · subst hz
          have HI2 := show Hid (Bs.nums r = pre ++ Bs.rest r (k + 1) ∧ J pre wr ∧ Tz wr) from by
            show Bs.nums r = pre ++ Bs.rest r (k + 1) ∧ J pre wr ∧ Tz wr
            have := HI.out.2
            rw [Bs.wbits_zero] at this
            simpa using this
          clear HI
          gi_wp2
          go_roundw
          case rel => exact ⟨k + 1, pre, by omega, val_int (by omega), HI2.out.1, HI2.out.2.1, HI2.out.2.2⟩
          case measure => (simp only [intOf]; omega)
        · have hst := Bs.wbits_step hz HI.out.1
          have hc64 := (Bs.ctz_bits hz HI.out.1).1
          obtain ⟨ha1, ha2⟩ := and_pred hz HI.out.1
          have KT := show Hid (Calls Tryd.prog 41 #[.int .u64 (x : Int)] wr fun e w' => e = .returned (.int .i64 ((Lib.ctz 64 x : Nat) : Int)) ∧ w' = wr) from tz_any wr HI.out.2.2.2 hz HI.out.1
          have hnz : ((x : Int) != 0) = true := by rw [ne_zero_int]; simpa using hz
          have HN := show Hid (Bs.nums r = (pre ++ [k * 64 + Lib.ctz 64 x]) ++ (Bs.wbits (x &&& (x - 1))).map (k * 64 + ·) ++ Bs.rest r (k + 1)) from by
            show Bs.nums r = _
            rw [HI.out.2.1, hst]
            simp
          have HM := show Hid ((Bs.wbits (x &&& (x - 1))).length < (Bs.wbits x).length) from by
            show (Bs.wbits (x &&& (x - 1))).length < (Bs.wbits x).length
            rw [hst]
            simp
          have HXL := show Hid (x &&& (x - 1) < 18446744073709551616) from Bs.and_lt _ (by have := HI.out.1; omega)
          obtain ⟨fn, tmps, assign, body, hy, hR⟩ := HYY.out pre (k * 64 + Lib.ctz 64 x) wr HI.out.2.2.1 (by rw [HN.out]; simp)
          rw [show ((k * 64 + Lib.ctz 64 x : Nat) : Int) = (k : Int) * 64 + ((Lib.ctz 64 x : Nat) : Int) by simp] at hy
          clear hst hz
          generalize x &&& (x - 1) = x2 at *
          generalize Lib.ctz 64 x = c at *
          gi_wp2_with (refine ⟨trivial, ?_⟩; gi_at_call 41; refine (callsIn_wide.2 KT.out).mono ?_; rintro e w' ⟨rfl, rfl⟩)
          refine hR.mono ?_
          clear hR
          rintro e W3 (⟨rfl, hJ3, hk3⟩ | ⟨rfl, hJx3⟩)
          · gi_wp2
            go_roundw
            case rel => exact ⟨x2, pre ++ [k * 64 + c], rfl, HXL.out, HN.out, hJ3, tz_below hn₀ hk3 HI.out.2.2.2⟩
            case measure => exact HM.out
          · gi_wp2
            refine bodyPost_ret (results_none rfl _ _ _) rfl ?_
            exact ⟨⟨_, rfl⟩, .inr ⟨pre ++ [k * 64 + c], ⟨(Bs.wbits x2).map (k * 64 + ·) ++ Bs.rest r (k + 1), by rw [HN.out]; simp⟩, hJx3⟩⟩
    · have HK := show Hid (Bs.nums r = pre) from by
        have := HQ.out.1
        rw [show k = 16 by omega, HRE.out, List.append_nil] at this
        exact this
      clear HRS HRE HW HYY
      gi_wp2
      go_end0
      exact ⟨⟨_, rfl⟩, .inl ⟨pre, HK.out.symm, HQ.out.2.1⟩⟩
end Go.Proofs.YthkolkmcnpafiaaDoor
