/-
  Check, Leq, Above, Root, True, Height: of any model. No condition.
-/
import Derived.Test.YtjbnbaiidpdpoaaDoorWHeight
namespace Go.Proofs.YtjbnbaiidpdpoaaDoor.Wm
open Go.RowKit Go.Maps
open Wd (Md Mid Rc Ed Sub upd vl allW inW names)
set_option linter.unusedSimpArgs false

theorem isI_nil (w : World) : IsI w 0 (.slice none 0 0) [] := ⟨none, 0, rfl, fun h => absurd h (by simp)⟩
theorem isI_new {w w' : World} {b : Nat} {l : List Int} (hN : New w w' b (l.map (Value.int .i64)).toArray 3) : IsI w' w'.heap.size (.slice (some ⟨b, 0, none⟩) l.length l.length) l := by
  refine ⟨_, _, rfl, fun h0 => ⟨b, 0, by rw [hN.up]; omega, rfl, fun j hj => ⟨.int .i64 l[j], ?_, rfl⟩⟩⟩
  rw [Nat.zero_add]
  have h : w'.cell? ⟨b, j, none⟩ = ((l.map (Value.int .i64)).toArray)[j]? := Cl.cell (T := 3) hN.blk j
  rw [h]
  simp [hj]
section
variable {ops : Array Oper} {rest : List Oper} {o : Oper} {a : Act} {Q : Exit → Act → World → Prop} {w : World}
theorem bs1 (w : World) (n : Int) : (Instr.buildSlice 42 1 #[(0, .int .i64 n)]).run Tryd.prog w = .ok (.slice (some ⟨w.heap.size, 0, none⟩) 1 1) (w.alloc (.cells #[.int .i64 n] 3)) := by kernel_rfl
theorem bs2 (w : World) (n k : Int) : (Instr.buildSlice 42 2 #[(0, .int .i64 n), (1, .int .i64 k)]).run Tryd.prog w = .ok (.slice (some ⟨w.heap.size, 0, none⟩) 2 2) (w.alloc (.cells #[.int .i64 n, .int .i64 k] 3)) := by kernel_rfl
theorem wpList_bs1 (hg : o.guard = none) (x : Operand) (hop : o.op = Op.buildSlice 42 1 #[(0, x)]) (n : Int) (hx : a.eval x = .int .i64 n)
    (hK : ∀ w' q, New w w' q #[.int .i64 n] 3 → wpList Tryd.prog ops Q rest (a.put o.dst (.slice (some ⟨q, 0, none⟩) 1 1)) w') : wpList Tryd.prog ops Q (o :: rest) a w := by
  refine wpList_plain hg fun K' hK' => ?_
  have hrun := bs1 w n
  unfold Oper.wp
  simp [execOp, hop, hx, hrun, Result.andThen]
  exact hK' _ _ (hK _ _ (new_alloc w _ _))
theorem wpList_bs2 (hg : o.guard = none) (x y : Operand) (hop : o.op = Op.buildSlice 42 2 #[(0, x), (1, y)]) (n k : Int) (hx : a.eval x = .int .i64 n) (hy : a.eval y = .int .i64 k)
    (hK : ∀ w' q, New w w' q #[.int .i64 n, .int .i64 k] 3 → wpList Tryd.prog ops Q rest (a.put o.dst (.slice (some ⟨q, 0, none⟩) 2 2)) w') : wpList Tryd.prog ops Q (o :: rest) a w := by
  refine wpList_plain hg fun K' hK' => ?_
  have hrun := bs2 w n k
  unfold Oper.wp
  simp [execOp, hop, hx, hy, hrun, Result.andThen]
  exact hK' _ _ (hK _ _ (new_alloc w _ _))
end
set_option maxRecDepth 100000 in
set_option maxHeartbeats 1000000 in
theorem check_any (w : World) {L : Nat} {uv vv : Value} {m : Md} (hm : IsM w L uv vv m) (hf : Fit m) (hL : L ≤ w.heap.size) :
    Calls Tryd.prog 10 #[.agg #[uv, vv]] w fun e w' => ∃ er : Int, e = .returned (.int .i64 er) ∧ ((Wd.Good m ∧ er = 0) ∨ (¬ Wd.Good m ∧ er = 170)) ∧ Below w.heap.size w w' := by
  obtain ⟨M, hO⟩ := isO_ex m.up
  have K := show Hid (∀ W, Below w.heap.size w W → Calls Tryd.prog 29 #[.agg #[uv, vv], .slice none 0 0] W fun e w' => ∃ fv er, e = .returned (.tuple #[fv, .int .i64 er]) ∧ Rek w' M m [] fv er ∧ Below W.heap.size W w') from fun W hW => reckoned_any W hO (hm.keep fun k hk => hW.block k (by omega)) hf (Nat.le_trans hL hW.size) (isI_nil W) (Nat.zero_le _) (by simp) (by simp)
  obtain ⟨pu, cu, rfl⟩ := IsS.form hm.up
  obtain ⟨pv, cv, rfl⟩ := IsS.form hm.val
  clear hm hf
  go_enter Tryd.func10, Tryd.ntmps10
  go_wp2_with (refine wpList_box 25 _ rfl _ rfl rfl ?_)
  intro w1 b1 hN
  have H1 := show Hid (Below w.heap.size w w1 ∧ Cl w1 b1 #[.slice pu m.up.length cu, .slice pv m.val.length cv] 25) from ⟨hN.bel, hN.blk⟩
  have K1 := show Hid _ from K.out w1 hN.bel
  clear hN K
  go_wp2_with (refine wpList_ldw 25 _ rfl b1 rfl _ _ H1.out.2 rfl Tryd.underlying25 sizeM rfl ?_)
  refine Calls.mono K1.out ?_
  rintro e w2 ⟨fv, er, rfl, hR, hb⟩
  have H2 := show Hid (Below w.heap.size w w2 ∧ ((Wd.Good m ∧ er = 0) ∨ (¬ Wd.Good m ∧ er = 170))) from ⟨H1.out.1.trans (hb.mono H1.out.1.size), by
    rcases hR with ⟨h1, _, h2⟩ | ⟨_, h, _⟩ | ⟨h1, _, _, h2⟩
    · exact Or.inr ⟨h1, h2⟩
    · cases h
    · exact Or.inl ⟨h1, h2⟩⟩
  clear hR hb K1
  go_wp2_with fail
  go_ret
  exact ⟨_, rfl, H2.out.2, H2.out.1⟩
set_option maxRecDepth 100000 in
set_option maxHeartbeats 1000000 in
theorem leq_any (w : World) {M : Nat → Nat → Bool} {L : Nat} {uv vv : Value} {m : Md} (hO : IsO m.up M) (hm : IsM w L uv vv m) (hf : Fit m) (hL : L ≤ w.heap.size) (a b : Int) (ha : -9223372036854775808 ≤ a ∧ a ≤ 9223372036854775807) (hb : -9223372036854775808 ≤ b ∧ b ≤ 9223372036854775807) :
    Calls Tryd.prog 12 #[.agg #[uv, vv], .int .i64 a, .int .i64 b] w fun e w' => ∃ (r : Bool) (er : Int), e = .returned (.tuple #[.bool r, .int .i64 er]) ∧ ((¬ Wd.Good m ∧ r = false ∧ er = 170) ∨ (Wd.Good m ∧ (inW m.up.length a && inW m.up.length b) = false ∧ r = false ∧ er = 2) ∨ (Wd.Good m ∧ (inW m.up.length a && inW m.up.length b) = true ∧ r = M a.toNat b.toNat ∧ er = 0)) ∧ Below w.heap.size w w' := by
  have K := show Hid (∀ W w1 q, Below w.heap.size w w1 → New w1 W q #[.int .i64 a, .int .i64 b] 3 → Calls Tryd.prog 29 #[.agg #[uv, vv], .slice (some ⟨q, 0, none⟩) 2 2] W fun e w' => ∃ fv er, e = .returned (.tuple #[fv, .int .i64 er]) ∧ Rek w' M m [a, b] fv er ∧ Below W.heap.size W w') from fun W w1 q hW hN => reckoned_any W hO (hm.keep fun k hk => (hN.bel.block k (by have := hW.size; omega)).trans (hW.block k (by omega))) hf (Nat.le_trans hL (Nat.le_trans hW.size hN.bel.size)) (isI_new (l := [a, b]) hN) (Nat.le_refl _) (by simp) (fun x hx => by
    simp only [List.mem_cons, List.not_mem_nil, or_false] at hx
    rcases hx with rfl | rfl
    · exact ha
    · exact hb)
  obtain ⟨pu, cu, rfl⟩ := IsS.form hm.up
  obtain ⟨pv, cv, rfl⟩ := IsS.form hm.val
  clear hm hf
  go_enter Tryd.func12, Tryd.ntmps12
  go_wp2_with (refine wpList_box 25 _ rfl _ rfl rfl ?_)
  intro w1 b1 hN
  have H1 := show Hid (Below w.heap.size w w1 ∧ Cl w1 b1 #[.slice pu m.up.length cu, .slice pv m.val.length cv] 25) from ⟨hN.bel, hN.blk⟩
  clear hN
  go_wp2_with (first | (refine wpList_ldw 25 _ rfl b1 rfl _ _ H1.out.2 rfl Tryd.underlying25 sizeM rfl ?_) | (refine wpList_bs2 rfl _ _ rfl _ _ rfl rfl ?_))
  intro w2 q hN2
  have K1 := show Hid _ from K.out w2 w1 q H1.out.1 hN2
  have H2 := show Hid (Below w.heap.size w w2) from H1.out.1.trans (hN2.bel.mono H1.out.1.size)
  clear hN2 K H1
  go_wp2_with fail
  refine Calls.mono K1.out ?_
  rintro e w3 ⟨fv, er, rfl, hR, hb3⟩
  have H3 := show Hid (Below w.heap.size w w3) from H2.out.trans (hb3.mono H2.out.size)
  clear hb3 K1 H2
  have hall : allW m.up.length [a, b] = (inW m.up.length a && inW m.up.length b) := by simp [allW]
  rw [Rek, hall] at hR
  rcases hR with ⟨h1, rfl, rfl⟩ | ⟨h1, h2, rfl, rfl⟩ | ⟨h1, h2, h3, rfl⟩
  · have HG := show Hid (¬ Wd.Good m) from h1
    clear h1 hall
    go_wp2_with fail
    go_ret2
    exact ⟨false, 170, rfl, Or.inl ⟨HG.out, rfl, rfl⟩, H3.out⟩
  · have HG := show Hid (Wd.Good m ∧ (inW m.up.length a && inW m.up.length b) = false) from ⟨h1, h2⟩
    clear h1 h2 hall
    go_wp2_with fail
    go_ret2
    exact ⟨false, 2, rfl, Or.inr (Or.inl ⟨HG.out.1, HG.out.2, rfl, rfl⟩), H3.out⟩
  · have HG := show Hid (Wd.Good m ∧ (inW m.up.length a && inW m.up.length b) = true) from ⟨h1, h2⟩
    simp only [Bool.and_eq_true, inW, decide_eq_true_eq] at h2
    obtain ⟨f, cs, rfl, hcf, hc⟩ := h3
    have K2 := show Hid _ from hc w3 a.toNat b.toNat (Below.refl _ _) (by omega) (by omega)
    rw [show ((a.toNat : Nat) : Int) = a by omega, show ((b.toNat : Nat) : Int) = b by omega] at K2
    have HCF := show Hid (Cf f) from hcf
    clear h1 h2 hall hc hcf
    go_wp2_with (refine wpList_callV rfl f _ [.tmp 22, .tmp 23] _ rfl [.int .i64 a, .int .i64 b] cs rfl rfl HCF.out ?_)
    refine Calls.mono K2.out ?_
    rintro e w4 ⟨rfl, hb4⟩
    refine ⟨_, rfl, ?_⟩
    have H4 := show Hid (Below w.heap.size w w4) from H3.out.trans (hb4.mono H3.out.size)
    clear hb4 K2
    go_wp2_with fail
    go_ret2
    exact ⟨_, 0, rfl, Or.inr (Or.inr ⟨HG.out.1, HG.out.2, rfl, rfl⟩), H4.out⟩
end Go.Proofs.YtjbnbaiidpdpoaaDoor.Wm
