/-
  Check, Leq, Above, Root, True, Height: of any model. No condition.
-/
import Derived.Test.YtjbnbaiidpdpoaaGreatDoorWHeight
namespace Go.Proofs.YtjbnbaiidpdpoaaGreatDoor.Wm
open Go.RowKit Go.Maps
open Wd (Md Mid Rc Ed Sub upd vl allW inW names)
set_option linter.unusedSimpArgs false

theorem isI_nil (w : World) : IsI w 0 (.slice none 0 0) [] := ⟨none, 0, rfl, fun h => absurd h (by simp)⟩
theorem isI_new {w w' : World} {b : Nat} {l : List Int} (hN : New w w' b (l.map (Value.int .i64)).toArray 3) : IsI w' w'.heap.size (.slice (some ⟨b, 0, none⟩) l.length l.length) l := by
  refine ⟨_, _, rfl, fun h0 => ⟨b, 0, by rw [hN.up]; omega, rfl, fun j hj => ⟨.int .i64 l[j], ?_, rfl⟩⟩⟩
  rw [Nat.zero_add]
  have h : w'.cell? ⟨b, j, none⟩ = ((l.map (Value.int .i64)).toArray)[j]? := Cl.cell (T := 3) hN.blk j
  rw [h]
  simp [hj]
section
variable {ops : Array Oper} {rest : List Oper} {o : Oper} {a : Act} {Q : Exit → Act → World → Prop} {w : World}
theorem bs1 (w : World) (n : Int) : (Instr.buildSlice 27 1 #[(0, .int .i64 n)]).run Tryz.prog w = .ok (.slice (some ⟨w.heap.size, 0, none⟩) 1 1) (w.alloc (.cells #[.int .i64 n] 3)) := by kernel_rfl
theorem bs2 (w : World) (n k : Int) : (Instr.buildSlice 27 2 #[(0, .int .i64 n), (1, .int .i64 k)]).run Tryz.prog w = .ok (.slice (some ⟨w.heap.size, 0, none⟩) 2 2) (w.alloc (.cells #[.int .i64 n, .int .i64 k] 3)) := by kernel_rfl
theorem wpList_bs1 (hg : o.guard = none) (x : Operand) (hop : o.op = Op.buildSlice 27 1 #[(0, x)]) (n : Int) (hx : a.eval x = .int .i64 n)
    (hK : ∀ w' q, New w w' q #[.int .i64 n] 3 → wpList Tryz.prog ops Q rest (a.put o.dst (.slice (some ⟨q, 0, none⟩) 1 1)) w') : wpList Tryz.prog ops Q (o :: rest) a w := by
  refine wpList_plain hg fun K' hK' => ?_
  have hrun := bs1 w n
  unfold Oper.wp
  simp [execOp, hop, hx, hrun, Result.andThen]
  exact hK' _ _ (hK _ _ (new_alloc w _ _))
theorem wpList_bs2 (hg : o.guard = none) (x y : Operand) (hop : o.op = Op.buildSlice 27 2 #[(0, x), (1, y)]) (n k : Int) (hx : a.eval x = .int .i64 n) (hy : a.eval y = .int .i64 k)
    (hK : ∀ w' q, New w w' q #[.int .i64 n, .int .i64 k] 3 → wpList Tryz.prog ops Q rest (a.put o.dst (.slice (some ⟨q, 0, none⟩) 2 2)) w') : wpList Tryz.prog ops Q (o :: rest) a w := by
  refine wpList_plain hg fun K' hK' => ?_
  have hrun := bs2 w n k
  unfold Oper.wp
  simp [execOp, hop, hx, hy, hrun, Result.andThen]
  exact hK' _ _ (hK _ _ (new_alloc w _ _))
end
set_option maxRecDepth 100000 in
set_option maxHeartbeats 1000000 in
theorem check_any (w : World) {L : Nat} {uv vv : Value} {m : Md} (hm : IsM w L uv vv m) (hf : Fit m) (hL : L ≤ w.heap.size) :
    Calls Tryz.prog 11 #[.agg #[uv, vv]] w fun e w' => ∃ er : Int, e = .returned (.int .i64 er) ∧ ((Wd.Good m ∧ er = 0) ∨ (¬ Wd.Good m ∧ er = 170)) ∧ Below w.heap.size w w' := by
  obtain ⟨M, hO⟩ := isO_ex m.up
  have K := show Hid (∀ W, Below w.heap.size w W → Calls Tryz.prog 23 #[.agg #[uv, vv], .slice none 0 0] W fun e w' => ∃ fv er, e = .returned (.tuple #[fv, .int .i64 er]) ∧ Rek w' M m [] fv er ∧ Below W.heap.size W w') from fun W hW => reckoned_any W hO (hm.keep fun k hk => hW.block k (by omega)) hf (Nat.le_trans hL hW.size) (isI_nil W) (Nat.zero_le _) (by simp) (by simp)
  obtain ⟨pu, cu, rfl⟩ := IsS.form hm.up
  obtain ⟨pv, cv, rfl⟩ := IsS.form hm.val
  clear hm hf
  go_enter Tryz.func11, Tryz.ntmps11
  go_wp2_with (refine wpList_box 25 _ rfl _ rfl rfl ?_)
  intro w1 b1 hN
  have H1 := show Hid (Below w.heap.size w w1 ∧ Cl w1 b1 #[.slice pu m.up.length cu, .slice pv m.val.length cv] 25) from ⟨hN.bel, hN.blk⟩
  have K1 := show Hid _ from K.out w1 hN.bel
  clear hN K
  go_wp2_with (refine wpList_ldw 25 _ rfl b1 rfl _ _ H1.out.2 rfl Tryz.underlying25 sizeM rfl ?_)
  refine Calls.mono K1.out ?_
  rintro e w2 ⟨fv, er, rfl, hR, hb⟩
  have H2 := show Hid (Below w.heap.size w w2 ∧ ((Wd.Good m ∧ er = 0) ∨ (¬ Wd.Good m ∧ er = 170))) from ⟨H1.out.1.trans (hb.mono H1.out.1.size), by
    rcases hR with ⟨h1, _, h2⟩ | ⟨_, h, _⟩ | ⟨h1, _, _, h2⟩
    · exact Or.inr ⟨h1, h2⟩
    · cases h
    · exact Or.inl ⟨h1, h2⟩⟩
  clear hR hb K1
  go_wp2_with fail
  go_ret
  exact ⟨_, rfl, H2.out.2, H2.out.1⟩
set_option maxRecDepth 100000 in
set_option maxHeartbeats 1000000 in
theorem leq_any (w : World) {M : Nat → Nat → Bool} {L : Nat} {uv vv : Value} {m : Md} (hO : IsO m.up M) (hm : IsM w L uv vv m) (hf : Fit m) (hL : L ≤ w.heap.size) (a b : Int) (ha : -9223372036854775808 ≤ a ∧ a ≤ 9223372036854775807) (hb : -9223372036854775808 ≤ b ∧ b ≤ 9223372036854775807) :
    Calls Tryz.prog 8 #[.agg #[uv, vv], .int .i64 a, .int .i64 b] w fun e w' => ∃ (r : Bool) (er : Int), e = .returned (.tuple #[.bool r, .int .i64 er]) ∧ ((¬ Wd.Good m ∧ r = false ∧ er = 170) ∨ (Wd.Good m ∧ (inW m.up.length a && inW m.up.length b) = false ∧ r = false ∧ er = 2) ∨ (Wd.Good m ∧ (inW m.up.length a && inW m.up.length b) = true ∧ r = M a.toNat b.toNat ∧ er = 0)) ∧ Below w.heap.size w w' := by
  have K := show Hid (∀ W w1 q, Below w.heap.size w w1 → New w1 W q #[.int .i64 a, .int .i64 b] 3 → Calls Tryz.prog 23 #[.agg #[uv, vv], .slice (some ⟨q, 0, none⟩) 2 2] W fun e w' => ∃ fv er, e = .returned (.tuple #[fv, .int .i64 er]) ∧ Rek w' M m [a, b] fv er ∧ Below W.heap.size W w') from fun W w1 q hW hN => reckoned_any W hO (hm.keep fun k hk => (hN.bel.block k (by have := hW.size; omega)).trans (hW.block k (by omega))) hf (Nat.le_trans hL (Nat.le_trans hW.size hN.bel.size)) (isI_new (l := [a, b]) hN) (Nat.le_refl _) (by simp) (fun x hx => by
    simp only [List.mem_cons, List.not_mem_nil, or_false] at hx
    rcases hx with rfl | rfl
    · exact ha
    · exact hb)
  obtain ⟨pu, cu, rfl⟩ := IsS.form hm.up
  obtain ⟨pv, cv, rfl⟩ := IsS.form hm.val
  clear hm hf
  go_enter Tryz.func8, Tryz.ntmps8
  go_wp2_with (refine wpList_box 25 _ rfl _ rfl rfl ?_)
  intro w1 b1 hN
  have H1 := show Hid (Below w.heap.size w w1 ∧ Cl w1 b1 #[.slice pu m.up.length cu, .slice pv m.val.length cv] 25) from ⟨hN.bel, hN.blk⟩
  clear hN
  go_wp2_with (first | (refine wpList_ldw 25 _ rfl b1 rfl _ _ H1.out.2 rfl Tryz.underlying25 sizeM rfl ?_) | (refine wpList_bs2 rfl _ _ rfl _ _ rfl rfl ?_))
  intro w2 q hN2
  have K1 := show Hid _ from K.out w2 w1 q H1.out.1 hN2
  have H2 := show Hid (Below w.heap.size w w2) from H1.out.1.trans (hN2.bel.mono H1.out.1.size)
  clear hN2 K H1
  go_wp2_with fail
  refine Calls.mono K1.out ?_
  rintro e w3 ⟨fv, er, rfl, hR, hb3⟩
  have H3 := show Hid (Below w.heap.size w w3) from H2.out.trans (hb3.mono H2.out.size)
  clear hb3 K1 H2
  have hall : allW m.up.length [a, b] = (inW m.up.length a && inW m.up.length b) := by simp [allW]
  rw [Rek, hall] at hR
  rcases hR with ⟨h1, rfl, rfl⟩ | ⟨h1, h2, rfl, rfl⟩ | ⟨h1, h2, h3, rfl⟩
  · have HG := show Hid (¬ Wd.Good m) from h1
    clear h1 hall
    go_wp2_with fail
    go_ret2
    exact ⟨false, 170, rfl, Or.inl ⟨HG.out, rfl, rfl⟩, H3.out⟩
  · have HG := show Hid (Wd.Good m ∧ (inW m.up.length a && inW m.up.length b) = false) from ⟨h1, h2⟩
    clear h1 h2 hall
    go_wp2_with fail
    go_ret2
    exact ⟨false, 2, rfl, Or.inr (Or.inl ⟨HG.out.1, HG.out.2, rfl, rfl⟩), H3.out⟩
  · have HG := show Hid (Wd.Good m ∧ (inW m.up.length a && inW m.up.length b) = true) from ⟨h1, h2⟩
    simp only [Bool.and_eq_true, inW, decide_eq_true_eq] at h2
    obtain ⟨f, cs, rfl, hcf, hc⟩ := h3
    have K2 := show Hid _ from hc w3 a.toNat b.toNat (Below.refl _ _) (by omega) (by omega)
    rw [show ((a.toNat : Nat) : Int) = a by omega, show ((b.toNat : Nat) : Int) = b by omega] at K2
    have HCF := show Hid (Cf f) from hcf
    clear h1 h2 hall hc hcf
    go_wp2_with (refine wpList_callV rfl f _ [.tmp 22, .tmp 23] _ rfl [.int .i64 a, .int .i64 b] cs rfl rfl HCF.out ?_)
    refine Calls.mono K2.out ?_
    rintro e w4 ⟨rfl, hb4⟩
    refine ⟨_, rfl, ?_⟩
    have H4 := show Hid (Below w.heap.size w w4) from H3.out.trans (hb4.mono H3.out.size)
    clear hb4 K2
    go_wp2_with fail
    go_ret2
    exact ⟨_, 0, rfl, Or.inr (Or.inr ⟨HG.out.1, HG.out.2, rfl, rfl⟩), H4.out⟩
end Go.Proofs.YtjbnbaiidpdpoaaGreatDoor.Wm
/-
  Above, Root, True, Height: of any model. No condition.
-/
namespace Go.Proofs.YtjbnbaiidpdpoaaGreatDoor.Wm
open Go.RowKit Go.Maps
open Wd (Md Mid Rc Ed Sub upd vl allW inW names)
set_option linter.unusedSimpArgs false

def abP (M : Nat → Nat → Bool) (a : Nat) (x : Int) : Bool := M a x.toNat
theorem cf_above1 : Cf 25 := fun _ _ => by kernel_rfl
set_option maxRecDepth 100000 in
theorem above1_any (w : World) {n a : Nat} {fv : Value} {M : Nat → Nat → Bool} {b1 b2 : Nat} (hO : Ord w w.heap.size n fv M) (ha : a < n) (h1 : Cl w b1 #[fv] 57) (h2 : Cl w b2 #[.int .i64 (a : Int)] 3) (x : Nat) (hx : x < n) :
    Calls Tryz.prog 25 #[.int .i64 (x : Int), .pointer (some ⟨b1, 0, none⟩), .pointer (some ⟨b2, 0, none⟩)] w fun e w' => e = .returned (.bool (abP M a (x : Int))) ∧ Below w.heap.size w w' := by
  obtain ⟨f, cs, rfl, hcf, hc⟩ := hO
  have K := show Hid _ from hc w a x (Below.refl _ _) ha hx
  have HCF := show Hid (Cf f) from hcf
  have c1 : w.cell? ⟨b1, 0, none⟩ = some (.func (.func f) #[] cs.toArray) := h1.cell 0
  have c2 : w.cell? ⟨b2, 0, none⟩ = some (.int .i64 (a : Int)) := h2.cell 0
  have HP := show Hid (M a x = abP M a (x : Int)) from rfl
  generalize abP M a (x : Int) = ans at *
  clear hc hcf h1 h2
  go_enter Tryz.func25, Tryz.ntmps25
  go_wp2_with (refine wpList_callV rfl f _ [.tmp 6, .tmp 7] _ rfl [.int .i64 (a : Int), .int .i64 (x : Int)] cs rfl rfl HCF.out ?_)
  refine Calls.mono K.out ?_
  rintro e w2 ⟨rfl, hb⟩
  refine ⟨_, rfl, ?_⟩
  have HB := show Hid (Below w.heap.size w w2) from hb
  clear K hb
  go_wp2_with fail
  go_ret
  exact ⟨ret_bool HP.out, HB.out⟩
def AbvR (w : World) (B : Nat) (M : Nat → Nat → Bool) (m : Md) (a : Int) (v : Value) (er : Int) : Prop :=
  (¬ Wd.Good m ∧ v = .slice none 0 0 ∧ er = 170) ∨ (Wd.Good m ∧ inW m.up.length a = false ∧ v = .slice none 0 0 ∧ er = 2) ∨ (Wd.Good m ∧ inW m.up.length a = true ∧ OwnI B w v (numsTo (abP M a.toNat) m.up.length) ∧ er = 0)
theorem zero_fn2 (w : World) : (zeroValue 57).run Tryz.prog w = .ok .nilFunc w := by kernel_rfl
set_option maxRecDepth 100000 in
set_option maxHeartbeats 2000000 in
theorem above_any (w : World) {M : Nat → Nat → Bool} {L : Nat} {uv vv : Value} {m : Md} (hO : IsO m.up M) (hm : IsM w L uv vv m) (hf : Fit m) (hL : L ≤ w.heap.size) (a : Int) (ha : -9223372036854775808 ≤ a ∧ a ≤ 9223372036854775807) :
    Calls Tryz.prog 6 #[.agg #[uv, vv], .int .i64 a] w fun e w' => ∃ (v : Value) (er : Int), e = .returned (.tuple #[v, .int .i64 er]) ∧ AbvR w' w.heap.size M m a v er ∧ Below w.heap.size w w' := by
  have K := show Hid (∀ W w1 q, Below w.heap.size w w1 → New w1 W q #[.int .i64 a] 3 → Calls Tryz.prog 23 #[.agg #[uv, vv], .slice (some ⟨q, 0, none⟩) 1 1] W fun e w' => ∃ fv er, e = .returned (.tuple #[fv, .int .i64 er]) ∧ Rek w' M m [a] fv er ∧ Below W.heap.size W w') from fun W w1 q hW hN => reckoned_any W hO (hm.keep fun k hk => (hN.bel.block k (by have := hW.size; omega)).trans (hW.block k (by omega))) hf (Nat.le_trans hL (Nat.le_trans hW.size hN.bel.size)) (isI_new (l := [a]) hN) (Nat.le_refl _) (by simp) (fun x hx => by
    simp only [List.mem_cons, List.not_mem_nil, or_false] at hx
    rw [hx]; exact ha)
  have HN5 := show Hid (Wd.Good m → m.up.length ≤ 512) from fun g => (Wd.shaped_and g.shape).2.1
  obtain ⟨pu, cu, rfl⟩ := IsS.form hm.up
  obtain ⟨pv, cv, rfl⟩ := IsS.form hm.val
  clear hm hf
  go_enter Tryz.func6, Tryz.ntmps6
  go_wp2_with (refine wpList_box 25 _ rfl _ rfl rfl ?_)
  intro w1 b1 hN
  have H1 := show Hid (Below w.heap.size w w1 ∧ Cl w1 b1 #[.slice pu m.up.length cu, .slice pv m.val.length cv] 25) from ⟨hN.bel, hN.blk⟩
  clear hN
  go_wp2_with (refine wpList_box1 3 _ rfl _ rfl rfl rfl ?_)
  intro w2 b2 hN
  have H2 := show Hid (Below w.heap.size w w2 ∧ Cl w2 b1 #[.slice pu m.up.length cu, .slice pv m.val.length cv] 25 ∧ Cl w2 b2 #[.int .i64 a] 3) from ⟨H1.out.1.trans (hN.bel.mono H1.out.1.size), H1.out.2.later hN.bel, hN.blk⟩
  have c2 : w2.cell? ⟨b2, 0, none⟩ = some (.int .i64 a) := H2.out.2.2.cell 0
  clear hN H1
  go_wp2_with (first | (refine wpList_ldw 25 _ rfl b1 rfl _ _ H2.out.2.1 rfl Tryz.underlying25 sizeM rfl ?_) | (refine wpList_bs1 rfl _ rfl _ rfl ?_))
  intro w3 q hN
  have K1 := show Hid _ from K.out w3 w2 q H2.out.1 hN
  have H3 := show Hid (Below w.heap.size w w3 ∧ Cl w3 b1 #[.slice pu m.up.length cu, .slice pv m.val.length cv] 25 ∧ Cl w3 b2 #[.int .i64 a] 3) from ⟨H2.out.1.trans (hN.bel.mono H2.out.1.size), H2.out.2.1.later hN.bel, H2.out.2.2.later hN.bel⟩
  clear hN K H2 c2
  go_wp2_with fail
  refine Calls.mono K1.out ?_
  rintro e w4 ⟨fv, er, rfl, hR, hb⟩
  have H4 := show Hid (Below w.heap.size w w4 ∧ Cl w4 b1 #[.slice pu m.up.length cu, .slice pv m.val.length cv] 25 ∧ Cl w4 b2 #[.int .i64 a] 3) from ⟨H3.out.1.trans (hb.mono H3.out.1.size), H3.out.2.1.later hb, H3.out.2.2.later hb⟩
  clear hb K1 H3
  have hall : allW m.up.length [a] = inW m.up.length a := by simp [allW]
  rw [Rek, hall] at hR
  rcases hR with ⟨h1, rfl, rfl⟩ | ⟨h1, h2, rfl, rfl⟩ | ⟨h1, h2, h3, rfl⟩
  · have HG := show Hid (¬ Wd.Good m) from h1
    clear h1 hall
    go_wp2_with fail
    go_ret2
    exact ⟨_, 170, rfl, Or.inl ⟨HG.out, rfl, rfl⟩, H4.out.1.trans ((below_alloc _ _).mono H4.out.1.size)⟩
  · have HG := show Hid (Wd.Good m ∧ inW m.up.length a = false) from ⟨h1, h2⟩
    clear h1 h2 hall
    go_wp2_with fail
    go_ret2
    exact ⟨_, 2, rfl, Or.inr (Or.inl ⟨HG.out.1, HG.out.2, rfl, rfl⟩), H4.out.1.trans ((below_alloc _ _).mono H4.out.1.size)⟩
  · have HG := show Hid (Wd.Good m ∧ inW m.up.length a = true) from ⟨h1, h2⟩
    have HO := show Hid (Ord w4 w4.heap.size m.up.length fv M) from h3
    have hn5 := HN5.out h1
    simp only [Bool.and_eq_true, inW, decide_eq_true_eq] at h2
    obtain ⟨k, rfl⟩ := Int.eq_ofNat_of_zero_le h2.1
    have hk : k < m.up.length := by omega
    obtain ⟨f, cs, rfl, -, -⟩ := h3
    have KC := show Hid (∀ W, Below w4.heap.size w4 W → ∀ b6, Cl W b6 #[.func (.func f) #[] cs.toArray] 57 → Calls Tryz.prog 24 #[.int .i64 (m.up.length : Int), .func (.func 25) #[] #[.pointer (some ⟨b6, 0, none⟩), .pointer (some ⟨b2, 0, none⟩)]] W fun e w' => ∃ v, e = .returned v ∧ OwnI W.heap.size w' v (numsTo (abP M k) m.up.length) ∧ Below W.heap.size W w') from fun W hW b6 h6 =>
      chosen_any W (L := W.heap.size) (D := fun x => 0 ≤ x ∧ x < (m.up.length : Int)) ⟨_, [.pointer (some ⟨b6, 0, none⟩), .pointer (some ⟨b2, 0, none⟩)], rfl, cf_above1, fun W' x hW' hx => by
        obtain ⟨j, rfl⟩ := Int.eq_ofNat_of_zero_le hx.1
        have hW2 := hW.trans (hW'.mono hW.size)
        exact above1_any W' (HO.out.later hW2 hW2.size) hk (h6.later hW') (H4.out.2.2.later hW2) j (by omega)⟩ (fun j hj => ⟨by omega, by omega⟩) (Nat.le_refl _) hn5
    clear h1 h2 hall
    have c1 : (w4.alloc (.cells #[.func (.func f) #[] cs.toArray] 57)).cell? ⟨b1, 0, none⟩ = some (.slice pu m.up.length cu) := Cl.cell (T := 25) (H4.out.2.1.later (below_alloc _ _)) 0
    have K5 := show Hid _ from KC.out (w4.alloc (.cells #[.func (.func f) #[] cs.toArray] 57)) (below_alloc _ _) w4.heap.size (heap_alloc_last w4 _)
    clear KC
    go_wp2_with fail
    refine Calls.mono K5.out ?_
    rintro e w5 ⟨v, rfl, ho, hb5⟩
    have H5 := show Hid (OwnI w.heap.size w5 v (numsTo (abP M k) m.up.length) ∧ Below w.heap.size w w5) from by
      have h9 := H4.out.1.trans ((below_alloc w4 (.cells #[.func (.func f) #[] cs.toArray] 57)).mono H4.out.1.size)
      exact ⟨ho.base h9.size, h9.trans (hb5.mono h9.size)⟩
    clear ho hb5 K5
    go_wp2_with fail
    go_ret2
    exact ⟨_, 0, rfl, Or.inr (Or.inr ⟨HG.out.1, HG.out.2, H5.out.1, rfl⟩), H5.out.2⟩
end Go.Proofs.YtjbnbaiidpdpoaaGreatDoor.Wm
/-
  Root, True, Height: of any model. No condition.
-/
namespace Go.Proofs.YtjbnbaiidpdpoaaGreatDoor.Wm
open Go.RowKit Go.Maps
open Wd (Md Mid Rc Ed Sub upd vl allW inW names)
set_option linter.unusedSimpArgs false

set_option maxRecDepth 100000 in
set_option maxHeartbeats 2000000 in
theorem height_top (w : World) {M : Nat → Nat → Bool} {L : Nat} {uv vv : Value} {m : Md} {h : Nat → Nat} (hO : IsO m.up M) (hm : IsM w L uv vv m) (hf : Fit m) (hL : L ≤ w.heap.size) (hg : Wd.Good m → Hg M m.up.length h) :
    Calls Tryz.prog 17 #[.agg #[uv, vv]] w fun e w' => ∃ r er : Int, e = .returned (.tuple #[.int .i64 r, .int .i64 er]) ∧ ((¬ Wd.Good m ∧ r = 0 ∧ er = 170) ∨ (Wd.Good m ∧ r = (mxL h (List.range m.up.length) : Int) ∧ er = 0)) ∧ Below w.heap.size w w' := by
  have K := show Hid (∀ W, Below w.heap.size w W → Calls Tryz.prog 23 #[.agg #[uv, vv], .slice none 0 0] W fun e w' => ∃ fv er, e = .returned (.tuple #[fv, .int .i64 er]) ∧ Rek w' M m [] fv er ∧ Below W.heap.size W w') from fun W hW => reckoned_any W hO (hm.keep fun k hk => hW.block k (by omega)) hf (Nat.le_trans hL hW.size) (isI_nil W) (Nat.zero_le _) (by simp) (by simp)
  have HN5 := show Hid (Wd.Good m → m.up.length ≤ 512) from fun g => (Wd.shaped_and g.shape).2.1
  have HH := show Hid (Wd.Good m → Hg M m.up.length h) from hg
  obtain ⟨pu, cu, rfl⟩ := IsS.form hm.up
  obtain ⟨pv, cv, rfl⟩ := IsS.form hm.val
  clear hm hf hg
  go_enter Tryz.func17, Tryz.ntmps17
  go_wp2_with (refine wpList_box 25 _ rfl _ rfl rfl ?_)
  intro w1 b1 hN
  have H1 := show Hid (Below w.heap.size w w1 ∧ Cl w1 b1 #[.slice pu m.up.length cu, .slice pv m.val.length cv] 25) from ⟨hN.bel, hN.blk⟩
  have K1 := show Hid _ from K.out w1 hN.bel
  clear hN K
  go_wp2_with (refine wpList_ldw 25 _ rfl b1 rfl _ _ H1.out.2 rfl Tryz.underlying25 sizeM rfl ?_)
  refine Calls.mono K1.out ?_
  rintro e w2 ⟨fv, er, rfl, hR, hb⟩
  have H2 := show Hid (Below w.heap.size w w2 ∧ Cl w2 b1 #[.slice pu m.up.length cu, .slice pv m.val.length cv] 25) from ⟨H1.out.1.trans (hb.mono H1.out.1.size), H1.out.2.later hb⟩
  clear hb K1 H1
  rcases hR with ⟨h1, rfl, rfl⟩ | ⟨_, h2, _, _⟩ | ⟨h1, h2, h3, rfl⟩
  · have HG := show Hid (¬ Wd.Good m) from h1
    clear h1
    go_wp2_with fail
    go_ret2
    exact ⟨0, 170, rfl, Or.inl ⟨HG.out, rfl, rfl⟩, H2.out.1⟩
  · cases h2
  · have HG := show Hid (Wd.Good m) from h1
    have KH := show Hid _ from height_any w2 h3 (Nat.le_refl _) (HH.out h1) (HN5.out h1)
    obtain ⟨f, cs, rfl, -, -⟩ := h3
    have c0 : w2.cell? ⟨b1, 0, none⟩ = some (.slice pu m.up.length cu) := Cl.cell (T := 25) H2.out.2 0
    clear h1 h2
    go_wp2_with fail
    refine Calls.mono KH.out ?_
    rintro e w3 ⟨rfl, hb⟩
    have H3 := show Hid (Below w.heap.size w w3) from H2.out.1.trans (hb.mono H2.out.1.size)
    clear hb KH
    go_wp2_with fail
    go_ret2
    exact ⟨_, 0, rfl, Or.inr ⟨HG.out, rfl, rfl⟩, H3.out⟩
def RootR (M : Nat → Nat → Bool) (m : Md) (r : Int) (ok : Bool) : Prop :=
  (¬ Wd.Good m ∧ r = 0 ∧ ok = false) ∨ (Wd.Good m ∧ r = 0 ∧ ok = false ∧ ∀ a, a < m.up.length → (List.range m.up.length).all (M a) = false) ∨
    ∃ k : Nat, Wd.Good m ∧ k < m.up.length ∧ r = (k : Int) ∧ ok = true ∧ (List.range m.up.length).all (M k) = true ∧ ∀ a, a < k → (List.range m.up.length).all (M a) = false
set_option maxRecDepth 100000 in
set_option maxHeartbeats 2000000 in
theorem root_any (w : World) {M : Nat → Nat → Bool} {L : Nat} {uv vv : Value} {m : Md} (hO : IsO m.up M) (hm : IsM w L uv vv m) (hf : Fit m) (hL : L ≤ w.heap.size) :
    Calls Tryz.prog 13 #[.agg #[uv, vv]] w fun e w' => ∃ (r : Int) (ok : Bool), e = .returned (.tuple #[.int .i64 r, .bool ok]) ∧ RootR M m r ok ∧ Below w.heap.size w w' := by
  have K := show Hid (∀ W, Below w.heap.size w W → Calls Tryz.prog 23 #[.agg #[uv, vv], .slice none 0 0] W fun e w' => ∃ fv er, e = .returned (.tuple #[fv, .int .i64 er]) ∧ Rek w' M m [] fv er ∧ Below W.heap.size W w') from fun W hW => reckoned_any W hO (hm.keep fun k hk => hW.block k (by omega)) hf (Nat.le_trans hL hW.size) (isI_nil W) (Nat.zero_le _) (by simp) (by simp)
  have HN5 := show Hid (Wd.Good m → m.up.length ≤ 512) from fun g => (Wd.shaped_and g.shape).2.1
  obtain ⟨pu, cu, rfl⟩ := IsS.form hm.up
  obtain ⟨pv, cv, rfl⟩ := IsS.form hm.val
  clear hm hf
  go_enter Tryz.func13, Tryz.ntmps13
  go_wp2_with (refine wpList_box 25 _ rfl _ rfl rfl ?_)
  intro w1 b1 hN
  have H1 := show Hid (Below w.heap.size w w1 ∧ Cl w1 b1 #[.slice pu m.up.length cu, .slice pv m.val.length cv] 25) from ⟨hN.bel, hN.blk⟩
  have K1 := show Hid _ from K.out w1 hN.bel
  clear hN K
  go_wp2_with (refine wpList_ldw 25 _ rfl b1 rfl _ _ H1.out.2 rfl Tryz.underlying25 sizeM rfl ?_)
  refine Calls.mono K1.out ?_
  rintro e w2 ⟨fv, er, rfl, hR, hb⟩
  have H2 := show Hid (Below w.heap.size w w2 ∧ Cl w2 b1 #[.slice pu m.up.length cu, .slice pv m.val.length cv] 25) from ⟨H1.out.1.trans (hb.mono H1.out.1.size), H1.out.2.later hb⟩
  clear hb K1 H1
  rcases hR with ⟨h1, rfl, rfl⟩ | ⟨_, h2, _, _⟩ | ⟨h1, h2, h3, rfl⟩
  · have HG := show Hid (¬ Wd.Good m) from h1
    clear h1
    go_wp2_with fail
    go_ret2
    exact ⟨0, false, rfl, Or.inl ⟨HG.out, rfl, rfl⟩, H2.out.1⟩
  · cases h2
  · have HG := show Hid (Wd.Good m) from h1
    have hn5 := HN5.out h1
    have KI := show Hid (∀ W, Below w2.heap.size w2 W → ∀ a, a < m.up.length → Calls Tryz.prog 28 #[.int .i64 (a : Int), .int .i64 (m.up.length : Int), fv] W fun e w' => e = .returned (.bool ((List.range m.up.length).all (M a))) ∧ Below W.heap.size W w') from fun W hW a ha => isRoot_any W (h3.later hW hW.size) ha (Nat.le_refl _) hn5
    obtain ⟨f, cs, rfl, -, -⟩ := h3
    have c0 : w2.cell? ⟨b1, 0, none⟩ = some (.slice pu m.up.length cu) := Cl.cell (T := 25) H2.out.2 0
    clear h1 h2
    go_wp2_with fail
    go_loopw [6, 17] (fun _ i wr => ∃ k : Nat, k ≤ m.up.length ∧ i = .int .i64 (k : Int) ∧ Hid (Below w2.heap.size w2 wr ∧ ∀ a, a < k → (List.range m.up.length).all (M a) = false)) (fun _ i _ => m.up.length - (intOf i).toNat)
    case atStart => exact ⟨0, Nat.zero_le _, rfl, Below.refl _ _, fun _ h => absurd h (Nat.not_lt_zero _)⟩
    case round =>
      obtain ⟨k, hk, rfl, H3⟩ := hrel
      clear c0
      by_cases hlt : k < m.up.length
      · have K3 := show Hid _ from KI.out wr H3.out.1 k hlt
        have c3 : wr.cell? ⟨b1, 0, none⟩ = some (.slice pu m.up.length cu) := Cl.cell (T := 25) (H2.out.2.later H3.out.1) 0
        have hki : (k : Int) < (m.up.length : Int) := by omega
        have HF := show Hid ((List.range m.up.length).all (M k) = false → ∀ a, a < k + 1 → (List.range m.up.length).all (M a) = false) from fun h a ha => by
          by_cases e : a = k
          · rw [e]; exact h
          · exact H3.out.2 a (by omega)
        have HT := show Hid ((List.range m.up.length).all (M k) = true → RootR M m (k : Int) true) from fun h => Or.inr (Or.inr ⟨k, HG.out, hlt, rfl, rfl, h, H3.out.2⟩)
        clear KI
        go_wp2_with fail
        refine Calls.mono K3.out ?_
        rintro e w4 ⟨rfl, hb⟩
        have H4 := show Hid (Below w2.heap.size w2 w4 ∧ Below w.heap.size w w4) from ⟨H3.out.1.trans (hb.mono H3.out.1.size), (H2.out.1.trans (H3.out.1.mono H2.out.1.size)).trans (hb.mono (Nat.le_trans H2.out.1.size H3.out.1.size))⟩
        clear hb K3 H3 c3
        generalize (List.range m.up.length).all (M k) = y at *
        cases y
        · have HF2 := show Hid _ from HF.out (by first | rfl | trivial)
          clear HF HT
          go_wp2_with fail
          go_roundw
          case rel => exact ⟨k + 1, by omega, val_int (by omega), H4.out.1, HF2.out⟩
          case measure => (simp only [intOf]; omega)
        · have HT2 := show Hid (RootR M m (k : Int) true) from HT.out (by first | rfl | trivial)
          clear HF HT
          go_wp2_with fail
          go_ret2
          exact ⟨_, true, rfl, HT2.out, H4.out.2⟩
      · have HX := show Hid (RootR M m 0 false) from Or.inr (Or.inl ⟨HG.out, rfl, rfl, fun a ha => H3.out.2 a (by omega)⟩)
        go_wp2_with fail
        go_ret2
        exact ⟨0, false, rfl, HX.out, H2.out.1.trans (H3.out.1.mono H2.out.1.size)⟩
def inS (s : ByteArray) (l : List ByteArray) : Bool := l.any fun x => x.data.toList == s.data.toList
theorem ba_ext {x y : ByteArray} (e : x.data.toList = y.data.toList) : x = y := by
  cases x; cases y; simp only [ByteArray.mk.injEq]; exact Array.ext' e
theorem inS_iff {s : ByteArray} {l : List ByteArray} : inS s l = true ↔ s ∈ l := by
  unfold inS
  rw [List.any_eq_true]
  constructor
  · rintro ⟨x, hx, e⟩
    rw [← ba_ext (beq_iff_eq.1 e)]; exact hx
  · exact fun h => ⟨s, h, beq_iff_eq.2 rfl⟩
theorem inS_no {s : ByteArray} {l : List ByteArray} (h : s ∉ l) : inS s l = false := by
  cases e : inS s l
  · rfl
  · exact absurd (inS_iff.1 e) h
theorem beqS_eq {x y : ByteArray} (h : x = y) : (x.toList == y.toList) = true := by rw [h]; simp
theorem beqS_ne {x y : ByteArray} (h : x ≠ y) : (x.toList == y.toList) = false := by
  rw [beq_eq_false_iff_ne]
  intro e
  rw [ByteArray.toList_eq, ByteArray.toList_eq] at e
  exact h (ba_ext e)
set_option maxRecDepth 100000 in
set_option maxHeartbeats 2000000 in
theorem index_any (w : World) {Ls : Nat} {v : Value} {l : List ByteArray} (hl : IsN w Ls v l) (hlen : l.length ≤ 140737488351232) (s : ByteArray) :
    Calls Tryz.prog 44 #[v, .string s] w fun e w' => (∃ r : Int, e = .returned (.int .i64 r) ∧ decide (0 ≤ r) = inS s l ∧ -1 ≤ r ∧ r ≤ 140737488351232) ∧ w' = w := by
  obtain ⟨q, c, rfl, hat⟩ := hl
  have HA := show Hid (0 < l.length → ∃ b o, b < Ls ∧ q = some ⟨b, o, none⟩ ∧ ∀ (j : Nat) (hj : j < l.length), ∃ x, w.cell? ⟨b, o + j, none⟩ = some x ∧ isT l[j] x) from hat
  clear hat
  go_enter Tryz.func44, Tryz.ntmps44
  go_wp2_with fail
  go_loopw [5, 8] (fun _ i wr => ∃ k : Nat, k ≤ l.length ∧ i = .int .i64 (k : Int) ∧ wr = w ∧ Hid (∀ (j : Nat) (hj : j < l.length), j < k → l[j] ≠ s)) (fun _ i _ => l.length - (intOf i).toNat)
  case atStart => exact ⟨0, Nat.zero_le _, rfl, rfl, fun j _ h => absurd h (Nat.not_lt_zero _)⟩
  case round =>
    obtain ⟨k, hk, rfl, rfl, HI⟩ := hrel
    by_cases hlt : k < l.length
    · obtain ⟨b, o, hb, rfl, hat⟩ := HA.out (by omega)
      obtain ⟨x, hx, rfl⟩ := hat k hlt
      have HM := show Hid (s = l[k] → s ∈ l) from fun e => by rw [e]; exact List.getElem_mem hlt
      have HS := show Hid (s ≠ l[k] → ∀ (j : Nat) (hj : j < l.length), j < k + 1 → l[j] ≠ s) from fun h j hj hjk => by
        by_cases e : j = k
        · subst e; exact fun e => h e.symm
        · exact HI.out j hj (by omega)
      have hki : (k : Int) < (l.length : Int) := by omega
      clear hat HA HI
      generalize l[k] = x at *
      by_cases e : s = x
      · have HX := show Hid (decide (0 ≤ (k : Int)) = inS s l) from by
          show decide (0 ≤ (k : Int)) = inS s l
          rw [inS_iff.2 (HM.out e), decide_eq_true (by omega)]
        have hbq := beqS_eq e
        clear e HM HS
        go_wp2_with fail
        go_ret
        exact ⟨⟨_, rfl, HX.out, by omega, by omega⟩, rfl⟩
      · have HS2 := show Hid _ from HS.out e
        have hbq := beqS_ne e
        clear e HM HS
        go_wp2_with fail
        go_roundw
        case rel => exact ⟨k + 1, by omega, val_int (by omega), (by first | rfl | trivial), HS2⟩
        case measure => (simp only [intOf]; omega)
    · have HX := show Hid (decide ((0 : Int) ≤ -1) = inS s l) from by
        show decide ((0 : Int) ≤ -1) = inS s l
        rw [inS_no (s := s) (l := l)]
        · rfl
        · intro h
          obtain ⟨j, hj, e⟩ := List.mem_iff_getElem.1 h
          exact HI.out j hj (by omega) e
      go_wp2_with fail
      go_ret
      exact ⟨⟨-1, rfl, HX.out, by omega, by omega⟩, rfl⟩
set_option maxRecDepth 100000 in
theorem contains_any (w : World) {Ls : Nat} {v : Value} {l : List ByteArray} (hl : IsN w Ls v l) (hlen : l.length ≤ 140737488351232) (s : ByteArray) :
    Calls Tryz.prog 29 #[v, .string s] w fun e w' => e = .returned (.bool (inS s l)) ∧ w' = w := by
  have K := show Hid _ from index_any w hl hlen s
  obtain ⟨q, c, rfl, -⟩ := hl
  generalize inS s l = ans at *
  go_enter Tryz.func29, Tryz.ntmps29
  go_wp2_with fail
  refine Calls.mono K.out ?_
  rintro e w2 ⟨⟨r, rfl, hr, h1, h2⟩, rfl⟩
  have HR := show Hid (decide (0 ≤ r) = ans) from hr
  clear hr K
  go_wp2_with fail
  go_ret
  exact ⟨ret_bool HR.out, rfl⟩
set_option maxRecDepth 100000 in
set_option maxHeartbeats 1000000 in
theorem true_any (w : World) {L : Nat} {uv vv : Value} {m : Md} (hm : IsM w L uv vv m) (hf : Fit m) (hL : L ≤ w.heap.size) (a : Int) (ha : -9223372036854775808 ≤ a ∧ a ≤ 9223372036854775807) (s : ByteArray) :
    Calls Tryz.prog 15 #[.agg #[uv, vv], .int .i64 a, .string s] w fun e w' => ∃ (r : Bool) (er : Int), e = .returned (.tuple #[.bool r, .int .i64 er]) ∧ ((¬ Wd.Good m ∧ r = false ∧ er = 170) ∨ (Wd.Good m ∧ inW m.up.length a = false ∧ r = false ∧ er = 2) ∨ (Wd.Good m ∧ inW m.up.length a = true ∧ r = inS s (vl m a.toNat) ∧ er = 0)) ∧ Below w.heap.size w w' := by
  obtain ⟨M, hO⟩ := isO_ex m.up
  have K := show Hid (∀ W w1 q, Below w.heap.size w w1 → New w1 W q #[.int .i64 a] 3 → Calls Tryz.prog 23 #[.agg #[uv, vv], .slice (some ⟨q, 0, none⟩) 1 1] W fun e w' => ∃ fv er, e = .returned (.tuple #[fv, .int .i64 er]) ∧ Rek w' M m [a] fv er ∧ Below W.heap.size W w') from fun W w1 q hW hN => reckoned_any W hO (hm.keep fun k hk => (hN.bel.block k (by have := hW.size; omega)).trans (hW.block k (by omega))) hf (Nat.le_trans hL (Nat.le_trans hW.size hN.bel.size)) (isI_new (l := [a]) hN) (Nat.le_refl _) (by simp) (fun x hx => by
    simp only [List.mem_cons, List.not_mem_nil, or_false] at hx
    rw [hx]; exact ha)
  obtain ⟨pu, cu, rfl⟩ := IsS.form hm.up
  obtain ⟨pv, cv, rfl, hv⟩ := hm.val.row
  have HV := show Hid (∀ (j : Nat) (hj : j < m.val.length), ∃ b o q n, pv = some ⟨b, o, none⟩ ∧ b < L ∧ w.cell? ⟨b, o + j, none⟩ = some (.slice q m.val[j].length n) ∧ IsN w L (.slice q m.val[j].length n) m.val[j] ∧ m.val[j].length ≤ 140737488351232) from fun j hj => by
    obtain ⟨b, o, q, n, h1, h2, h3, h4⟩ := hv j hj
    exact ⟨b, o, q, n, h1, h2, h3, h4, (hf.2.2.2 _ (List.getElem_mem hj)).1⟩
  have HVL := show Hid (Wd.Good m → m.val.length = m.up.length) from fun g => (Wd.shaped_and g.shape).2.2.1
  clear hm hf hv
  go_enter Tryz.func15, Tryz.ntmps15
  go_wp2_with (refine wpList_box 25 _ rfl _ rfl rfl ?_)
  intro w1 b1 hN
  have H1 := show Hid (Below w.heap.size w w1 ∧ Cl w1 b1 #[.slice pu m.up.length cu, .slice pv m.val.length cv] 25) from ⟨hN.bel, hN.blk⟩
  clear hN
  go_wp2_with (first | (refine wpList_ldw 25 _ rfl b1 rfl _ _ H1.out.2 rfl Tryz.underlying25 sizeM rfl ?_) | (refine wpList_bs1 rfl _ rfl _ rfl ?_))
  intro w2 q hN2
  have K1 := show Hid _ from K.out w2 w1 q H1.out.1 hN2
  have H2 := show Hid (Below w.heap.size w w2 ∧ Cl w2 b1 #[.slice pu m.up.length cu, .slice pv m.val.length cv] 25) from ⟨H1.out.1.trans (hN2.bel.mono H1.out.1.size), H1.out.2.later hN2.bel⟩
  clear hN2 K H1
  go_wp2_with fail
  refine Calls.mono K1.out ?_
  rintro e w3 ⟨fv, er, rfl, hR, hb3⟩
  have H3 := show Hid (Below w.heap.size w w3 ∧ Cl w3 b1 #[.slice pu m.up.length cu, .slice pv m.val.length cv] 25) from ⟨H2.out.1.trans (hb3.mono H2.out.1.size), H2.out.2.later hb3⟩
  clear hb3 K1 H2
  have hall : allW m.up.length [a] = inW m.up.length a := by simp [allW]
  rw [Rek, hall] at hR
  rcases hR with ⟨h1, rfl, rfl⟩ | ⟨h1, h2, rfl, rfl⟩ | ⟨h1, h2, h3, rfl⟩
  · have HG := show Hid (¬ Wd.Good m) from h1
    clear h1 hall
    go_wp2_with fail
    go_ret2
    exact ⟨false, 170, rfl, Or.inl ⟨HG.out, rfl, rfl⟩, H3.out.1⟩
  · have HG := show Hid (Wd.Good m ∧ inW m.up.length a = false) from ⟨h1, h2⟩
    clear h1 h2 hall
    go_wp2_with fail
    go_ret2
    exact ⟨false, 2, rfl, Or.inr (Or.inl ⟨HG.out.1, HG.out.2, rfl, rfl⟩), H3.out.1⟩
  · have HG := show Hid (Wd.Good m ∧ inW m.up.length a = true) from ⟨h1, h2⟩
    have hvl := HVL.out h1
    simp only [Bool.and_eq_true, inW, decide_eq_true_eq] at h2
    obtain ⟨f, cs, rfl, -, -⟩ := h3
    obtain ⟨k, rfl⟩ := Int.eq_ofNat_of_zero_le h2.1
    have hkv : k < m.val.length := by omega
    obtain ⟨bv, ov, qv, nv, rfl, hbv, hcv, hiv, hln⟩ := HV.out k hkv
    have KC := show Hid _ from contains_any w3 (IsN.keep hiv fun j hj => H3.out.1.block j (by omega)) hln s
    have c1 : w3.cell? ⟨b1, 1, none⟩ = some (.slice (some ⟨bv, ov, none⟩) m.val.length cv) := Cl.cell (T := 25) H3.out.2 1
    have c2 : w3.cell? ⟨bv, ov + k, none⟩ = some (.slice qv m.val[k].length nv) := (H3.out.1.cell (p := ⟨bv, ov + k, none⟩) (by show bv < _; omega)).trans hcv
    have HE := show Hid (inS s m.val[k] = inS s (vl m ((k : Int)).toNat)) from by
      show inS s m.val[k] = inS s (vl m ((k : Int)).toNat)
      rw [Int.toNat_natCast]
      have : vl m k = m.val[k] := by unfold vl; rw [List.getD_eq_getElem?_getD, List.getElem?_eq_getElem hkv]; rfl
      rw [this]
    have hki : (k : Int) < (m.val.length : Int) := by omega
    clear h1 h2 hall hvl hiv hcv HV
    generalize inS s m.val[k] = y at *
    generalize m.val[k] = lk at *
    go_wp2_with fail
    refine Calls.mono KC.out ?_
    rintro e w4 ⟨rfl, rfl⟩
    clear KC
    go_wp2_with fail
    go_ret2
    exact ⟨_, 0, rfl, Or.inr (Or.inr ⟨HG.out.1, HG.out.2, HE.out, rfl⟩), H3.out.1⟩
end Go.Proofs.YtjbnbaiidpdpoaaGreatDoor.Wm
