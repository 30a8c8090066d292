/-
  Regions that draw their order and load whole sets: what may be taken first is, and the calls come in their order. No condition.
-/
import Derived.Test.YthkolkmcnpafiaaDoorBCmp
namespace Go.Proofs.YthkolkmcnpafiaaDoor
open Go.RowKit
open Bs (Ok wd)

section
variable {ops : Array Oper} {Q : Exit → Act → World → Prop} {S : World → Prop} {fuel : Nat} {listed : Array Bool} {a : Act} {w : World}
theorem takeLoad (i : Nat) (d : Option Tmp) {oi : Oper} (hi : ops[i]? = some oi) (hd : oi.dst = d) (hs : Region.noSelect ops = true) (hf : Region.free .any ops listed i = true) (hr : (Region.ready .any ops listed).contains i = true) (r : List Nat)
    (hQ : ∀ c a w, Q (.panic c) (a.put d (.agg (cellsB r))) w → Q (.panic c) a w) (hw : Region.wanted oi (yielded ops a.tmps) = true) (x : Operand) (ho : oi.op = .load 25 x) (g : Nat) (hx : a.eval x = .pointer (some ⟨g, 0, none⟩)) (hS : ∀ w, S w → RowAt w g r) (hl : r.length = 16) (hSw : S w)
    (h : wpAnyH Tryd.prog .any ops Q S fuel (listed.setIfInBounds i true) (a.put d (.agg (cellsB r))) w) : wpAnyH Tryd.prog .any ops Q S (fuel + 1) listed a w := by
  subst hd
  exact wpAnyH_take hi hs hf hr hQ (.inl ⟨hw, fun w hw' => by
    have := load25 w g (hS w hw') hl
    unfold execOp
    simp [ho, hx, this, Result.andThen]⟩) hSw h
theorem takeVal (i : Nat) (d : Option Tmp) {oi : Oper} (v : Value) (hi : ops[i]? = some oi) (hd : oi.dst = d) (hs : Region.noSelect ops = true) (hf : Region.free .any ops listed i = true) (hr : (Region.ready .any ops listed).contains i = true)
    (hQ : ∀ c a w, Q (.panic c) (a.put d v) w → Q (.panic c) a w) (hw : Region.wanted oi (yielded ops a.tmps) = true) (hrun : ∀ w, (execOp a.eval oi).run Tryd.prog w = .ok (.value v) w) (hSw : S w)
    (h : wpAnyH Tryd.prog .any ops Q S fuel (listed.setIfInBounds i true) (a.put d v) w) : wpAnyH Tryd.prog .any ops Q S (fuel + 1) listed a w := by
  subst hd
  exact wpAnyH_take hi hs hf hr hQ (.inl ⟨hw, fun w _ => hrun w⟩) hSw h
theorem takeEql (i : Nat) (d : Option Tmp) {oi : Oper} (hi : ops[i]? = some oi) (hd : oi.dst = d) (hs : Region.noSelect ops = true) (hf : Region.free .any ops listed i = true) (hr : (Region.ready .any ops listed).contains i = true) (p q : List Nat)
    (hQ : ∀ c a w, Q (.panic c) (a.put d (.bool (decide (p = q)))) w → Q (.panic c) a w) (hw : Region.wanted oi (yielded ops a.tmps) = true) (x y : Operand) (t : TypeId) (ho : oi.op = Op.binOp .eql 25 x y t) (hx : a.eval x = .agg (cellsB p)) (hy : a.eval y = .agg (cellsB q)) (hp : p.length = 16) (hq : q.length = 16) (hSw : S w)
    (h : wpAnyH Tryd.prog .any ops Q S fuel (listed.setIfInBounds i true) (a.put d (.bool (decide (p = q)))) w) : wpAnyH Tryd.prog .any ops Q S (fuel + 1) listed a w := by
  subst hd
  exact wpAnyH_take hi hs hf hr hQ (.inl ⟨hw, fun w _ => by
    have := equal_bits w hp hq
    simp only [execOp, ho, hx, hy]
    simp [eqGuard, binOp, this, Result.andThen]⟩) hSw h
/-- The one call that may come up. -/
theorem takeCall (i : Nat) (d : Option Tmp) {oi : Oper} (hr : Region.ready .any ops listed = [i]) (hi : ops[i]? = some oi) (hd : oi.dst = d) (hw : Region.wanted oi (yielded ops a.tmps) = true) (f : FuncId) (xs : List Operand) (ts : Array TypeId) (ho : oi.op = Op.call { callee := Callee.value (Operand.func f), args := xs.toArray, argTypes := ts }) (vs : List Value) (hv : xs.map a.eval = vs)
    (hcf : ∀ vs w, (callFunc f vs).run Tryd.prog w = .ok (.enter f vs) w)
    (h : Calls Tryd.prog f vs.toArray w fun e w' => ∃ v, e = .returned v ∧ S w' ∧ (S w' → wpAnyH Tryd.prog .any ops Q S fuel (listed.setIfInBounds i true) (a.put d v) w')) : wpAnyH Tryd.prog .any ops Q S (fuel + 1) listed a w := by
  subst hd
  subst hv
  refine wpAnyH_ready hr (by simp) (AllReadyH.cons hi (fun K hK => ?_) AllReadyH.nil)
  rw [if_pos hw]
  have hrun : (execOp a.eval oi).run Tryd.prog w = .ok (.enter f (xs.map a.eval).toArray) w := by
    simp [execOp, ho, resolve, invoke, Deferred.ofValue, Act.eval, hcf]
  unfold Oper.wp
  rw [hrun, Oper.upon_enter]
  refine h.mono ?_
  rintro e w' ⟨v, rfl, hS, hn⟩
  exact hK.out _ _ hS hn
end
theorem RowAt.lt {w : World} {g : Nat} {r : List Nat} (h : RowAt w g r) : g < w.heap.size := (Array.getElem?_eq_some_iff.1 h).1
set_option maxRecDepth 100000 in
set_option maxHeartbeats 4000000 in
theorem rcmp_any (w : World) {a b : List Nat} (ha : Ok a) (hb : Ok b) : Calls Tryd.prog 32 #[.agg (cellsB a), .agg (cellsB b)] w fun e w' => e = .returned (.int .i64 (Bs.cmp a b)) ∧ Below w.heap.size w w' := by
  have KA := show Hid (∀ (k : Nat) w, k < 1024 → Calls Tryd.prog 13 #[.agg (cellsB a), .int .i64 (k : Int)] w fun e w' => e = .returned (.bool (Bs.has a k)) ∧ w' = w.alloc (.cells (cellsB a) 25)) from fun k w hk => by
    have := rhas_any w ha (k : Int)
    rwa [hasI_nat a hk] at this
  have KB := show Hid (∀ (k : Nat) w, k < 1024 → Calls Tryd.prog 13 #[.agg (cellsB b), .int .i64 (k : Int)] w fun e w' => e = .returned (.bool (Bs.has b k)) ∧ w' = w.alloc (.cells (cellsB b) 25)) from fun k w hk => by
    have := rhas_any w hb (k : Int)
    rwa [hasI_nat b hk] at this
  have HLA := show Hid (a.length = 16) from ha.1
  have HLB := show Hid (b.length = 16) from hb.1
  have HT := show Hid (RowAt ((w.alloc (.cells (cellsB a) 25)).alloc (.cells (cellsB b) 25)) w.heap.size a ∧ RowAt ((w.alloc (.cells (cellsB a) 25)).alloc (.cells (cellsB b) 25)) (w.heap.size + 1) b) from heap_two w _ _
  clear ha hb
  go_enter Tryd.func32, Tryd.ntmps32
  go_wp2
  go_loopw [5] (fun n wr => ∃ k : Nat, k ≤ 1024 ∧ n = .int .i64 (k : Int) ∧ Hid (RowAt wr w.heap.size a ∧ RowAt wr (w.heap.size + 1) b ∧ Below w.heap.size w wr ∧ ∀ i, i < k → Bs.has a i = Bs.has b i)) (fun n _ => 1024 - (intOf n).toNat)
  case atStart => exact ⟨0, by omega, rfl, HT.out.1, HT.out.2, below_two w _ _, fun i hi => by omega⟩
  case round =>
    obtain ⟨k, hk, rfl, HR⟩ := hrel
    clear HT
    by_cases hlt : k < 1024
    · have KA2 := show Hid (∀ w, Calls Tryd.prog 13 #[.agg (cellsB a), .int .i64 (k : Int)] w fun e w' => e = .returned (.bool (Bs.has a k)) ∧ w' = w.alloc (.cells (cellsB a) 25)) from fun w => KA.out k w hlt
      have KB2 := show Hid (∀ w, Calls Tryd.prog 13 #[.agg (cellsB b), .int .i64 (k : Int)] w fun e w' => e = .returned (.bool (Bs.has b k)) ∧ w' = w.alloc (.cells (cellsB b) 25)) from fun w => KB.out k w hlt
      clear KA KB
      have HC := show Hid (Bs.has a k ≠ Bs.has b k → Bs.cmp a b = if Bs.has a k then -1 else 1) from fun h => Bs.cmp_apart hlt HR.out.2.2.2 h
      have HE := show Hid (Bs.has a k = Bs.has b k → ∀ i, i < k + 1 → Bs.has a i = Bs.has b i) from fun h i hi => by
        by_cases e : i = k
        · rw [e]; exact h
        · exact HR.out.2.2.2 i (by omega)
      generalize Bs.has a k = x at *
      generalize Bs.has b k = y at *
      go_wp2
      refine wp_region_held_drew (S := fun wx => (RowAt wx w.heap.size a ∧ RowAt wx (w.heap.size + 1) b) ∧ Below w.heap.size w wx) (by kernel_rfl) ⟨⟨HR.out.1, HR.out.2.1⟩, HR.out.2.2.1.drew⟩ (fun hHeld => ?_)
      refine takeLoad 0 (some 10) rfl rfl (by kernel_rfl) (by kernel_rfl) (by kernel_rfl) a (fun _ _ _ h => h) rfl _ rfl _ rfl (fun _ h => h.1.1) HLA.out hHeld ?_
      refine takeLoad 3 (some 13) rfl rfl (by kernel_rfl) (by kernel_rfl) (by kernel_rfl) b (fun _ _ _ h => h) rfl _ rfl _ rfl (fun _ h => h.1.2) HLB.out hHeld ?_
      refine takeVal 1 (some 11) (.int .i64 (k : Int)) rfl rfl (by kernel_rfl) (by kernel_rfl) (by kernel_rfl) (fun _ _ _ h => h) rfl (fun _ => rfl) hHeld ?_
      refine takeVal 4 (some 14) (.int .i64 (k : Int)) rfl rfl (by kernel_rfl) (by kernel_rfl) (by kernel_rfl) (fun _ _ _ h => h) rfl (fun _ => rfl) hHeld ?_
      refine takeCall 2 (some 12) (by kernel_rfl) rfl rfl rfl 13 _ _ rfl [.agg (cellsB a), .int .i64 (k : Int)] rfl (fun _ _ => Tryd.call13 _ _) ?_
      refine (KA2.out _).mono ?_
      rintro e w1 ⟨rfl, rfl⟩
      refine ⟨_, rfl, ⟨⟨hHeld.1.1.keep (below_alloc _ _) hHeld.1.1.lt, hHeld.1.2.keep (below_alloc _ _) hHeld.1.2.lt⟩, hHeld.2.alloc hHeld.2.size _⟩, fun hHeld1 => ?_⟩
      refine takeCall 5 (some 15) (by kernel_rfl) rfl rfl rfl 13 _ _ rfl [.agg (cellsB b), .int .i64 (k : Int)] rfl (fun _ _ => Tryd.call13 _ _) ?_
      refine (KB2.out _).mono ?_
      rintro e w2 ⟨rfl, rfl⟩
      refine ⟨_, rfl, ⟨⟨hHeld1.1.1.keep (below_alloc _ _) hHeld1.1.1.lt, hHeld1.1.2.keep (below_alloc _ _) hHeld1.1.2.lt⟩, hHeld1.2.alloc hHeld1.2.size _⟩, fun hHeld2 => ?_⟩
      refine takeVal 6 (some 16) (.bool (x != y)) rfl rfl (by kernel_rfl) (by kernel_rfl) (by kernel_rfl) (fun _ _ _ h => h) rfl (fun _ => by cases x <;> cases y <;> go_simp) hHeld2 ?_
      refine wpAnyH_done (by kernel_rfl) ?_ _
      simp only [Act.put, List.setIfInBounds_toArray, List.set_cons_zero, List.set_cons_succ]
      have HS := show Hid _ from hHeld2
      generalize ((wr.drew.alloc _).alloc _) = w3 at *
      clear hHeld hHeld1 hHeld2 KB2
      by_cases hxy : x = y
      · subst hxy
        have HZ := show Hid (∀ i, i < k + 1 → Bs.has a i = Bs.has b i) from HE.out rfl
        have hb : (x != x) = false := by cases x <;> rfl
        clear HE HC KA2
        rw [hb]
        clear hb
        go_wp2
        go_roundw
        case rel => exact ⟨k + 1, by omega, val_int (by omega), HS.out.1.1, HS.out.1.2, HS.out.2, HZ.out⟩
        case measure => (simp only [intOf]; omega)
      · have HZ := show Hid (Bs.cmp a b = if x then -1 else 1) from HC.out hxy
        have hb : (x != y) = true := by simpa using hxy
        clear HE HC hxy
        rw [hb]
        clear hb
        cases x
        · have HZ2 := show Hid (Bs.cmp a b = 1) from HZ.out
          clear HZ
          go_wp2_with (first | (refine wpList_load16 _ rfl _ rfl _ rfl (r := a) HS.out.1.1 HLA.out ?_) | (go_at_call 13; refine (KA2.out _).mono ?_; rintro e w' ⟨rfl, rfl⟩))
          go_ret
          exact ⟨ret_int HZ2.out.symm, HS.out.2.alloc HS.out.2.size _⟩
        · have HZ2 := show Hid (Bs.cmp a b = -1) from HZ.out
          clear HZ
          go_wp2_with (first | (refine wpList_load16 _ rfl _ rfl _ rfl (r := a) HS.out.1.1 HLA.out ?_) | (go_at_call 13; refine (KA2.out _).mono ?_; rintro e w' ⟨rfl, rfl⟩))
          go_ret
          exact ⟨ret_int HZ2.out.symm, HS.out.2.alloc HS.out.2.size _⟩
    · have HZ := show Hid (Bs.cmp a b = 0) from Bs.cmp_same fun i hi => HR.out.2.2.2 i (by omega)
      go_wp2
      go_ret
      exact ⟨ret_int HZ.out.symm, HR.out.2.2.1⟩
end Go.Proofs.YthkolkmcnpafiaaDoor
