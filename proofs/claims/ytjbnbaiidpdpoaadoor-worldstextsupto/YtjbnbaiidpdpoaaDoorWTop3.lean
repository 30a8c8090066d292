/-
  Root, True, Height: of any model. No condition.
-/
import Derived.Test.YtjbnbaiidpdpoaaDoorWTop2
namespace Go.Proofs.YtjbnbaiidpdpoaaDoor.Wm
open Go.RowKit Go.Maps
open Wd (Md Mid Rc Ed Sub upd vl allW inW names)
set_option linter.unusedSimpArgs false

set_option maxRecDepth 100000 in
set_option maxHeartbeats 2000000 in
theorem height_top (w : World) {M : Nat → Nat → Bool} {L : Nat} {uv vv : Value} {m : Md} {h : Nat → Nat} (hO : IsO m.up M) (hm : IsM w L uv vv m) (hf : Fit m) (hL : L ≤ w.heap.size) (hg : Wd.Good m → Hg M m.up.length h) :
    Calls Tryd.prog 32 #[.agg #[uv, vv]] w fun e w' => ∃ r er : Int, e = .returned (.tuple #[.int .i64 r, .int .i64 er]) ∧ ((¬ Wd.Good m ∧ r = 0 ∧ er = 170) ∨ (Wd.Good m ∧ r = (mxL h (List.range m.up.length) : Int) ∧ er = 0)) ∧ Below w.heap.size w w' := by
  have K := show Hid (∀ W, Below w.heap.size w W → Calls Tryd.prog 29 #[.agg #[uv, vv], .slice none 0 0] W fun e w' => ∃ fv er, e = .returned (.tuple #[fv, .int .i64 er]) ∧ Rek w' M m [] fv er ∧ Below W.heap.size W w') from fun W hW => reckoned_any W hO (hm.keep fun k hk => hW.block k (by omega)) hf (Nat.le_trans hL hW.size) (isI_nil W) (Nat.zero_le _) (by simp) (by simp)
  have HN5 := show Hid (Wd.Good m → m.up.length ≤ 512) from fun g => (Wd.shaped_and g.shape).2.1
  have HH := show Hid (Wd.Good m → Hg M m.up.length h) from hg
  obtain ⟨pu, cu, rfl⟩ := IsS.form hm.up
  obtain ⟨pv, cv, rfl⟩ := IsS.form hm.val
  clear hm hf hg
  go_enter Tryd.func32, Tryd.ntmps32
  go_wp2_with (refine wpList_box 25 _ rfl _ rfl rfl ?_)
  intro w1 b1 hN
  have H1 := show Hid (Below w.heap.size w w1 ∧ Cl w1 b1 #[.slice pu m.up.length cu, .slice pv m.val.length cv] 25) from ⟨hN.bel, hN.blk⟩
  have K1 := show Hid _ from K.out w1 hN.bel
  clear hN K
  go_wp2_with (refine wpList_ldw 25 _ rfl b1 rfl _ _ H1.out.2 rfl Tryd.underlying25 sizeM rfl ?_)
  refine Calls.mono K1.out ?_
  rintro e w2 ⟨fv, er, rfl, hR, hb⟩
  have H2 := show Hid (Below w.heap.size w w2 ∧ Cl w2 b1 #[.slice pu m.up.length cu, .slice pv m.val.length cv] 25) from ⟨H1.out.1.trans (hb.mono H1.out.1.size), H1.out.2.later hb⟩
  clear hb K1 H1
  rcases hR with ⟨h1, rfl, rfl⟩ | ⟨_, h2, _, _⟩ | ⟨h1, h2, h3, rfl⟩
  · have HG := show Hid (¬ Wd.Good m) from h1
    clear h1
    go_wp2_with fail
    go_ret2
    exact ⟨0, 170, rfl, Or.inl ⟨HG.out, rfl, rfl⟩, H2.out.1⟩
  · cases h2
  · have HG := show Hid (Wd.Good m) from h1
    have KH := show Hid _ from height_any w2 h3 (Nat.le_refl _) (HH.out h1) (HN5.out h1)
    obtain ⟨f, cs, rfl, -, -⟩ := h3
    have c0 : w2.cell? ⟨b1, 0, none⟩ = some (.slice pu m.up.length cu) := Cl.cell (T := 25) H2.out.2 0
    clear h1 h2
    go_wp2_with fail
    refine Calls.mono KH.out ?_
    rintro e w3 ⟨rfl, hb⟩
    have H3 := show Hid (Below w.heap.size w w3) from H2.out.1.trans (hb.mono H2.out.1.size)
    clear hb KH
    go_wp2_with fail
    go_ret2
    exact ⟨_, 0, rfl, Or.inr ⟨HG.out, rfl, rfl⟩, H3.out⟩
def RootR (M : Nat → Nat → Bool) (m : Md) (r : Int) (ok : Bool) : Prop :=
  (¬ Wd.Good m ∧ r = 0 ∧ ok = false) ∨ (Wd.Good m ∧ r = 0 ∧ ok = false ∧ ∀ a, a < m.up.length → (List.range m.up.length).all (M a) = false) ∨
    ∃ k : Nat, Wd.Good m ∧ k < m.up.length ∧ r = (k : Int) ∧ ok = true ∧ (List.range m.up.length).all (M k) = true ∧ ∀ a, a < k → (List.range m.up.length).all (M a) = false
set_option maxRecDepth 100000 in
set_option maxHeartbeats 2000000 in
theorem root_any (w : World) {M : Nat → Nat → Bool} {L : Nat} {uv vv : Value} {m : Md} (hO : IsO m.up M) (hm : IsM w L uv vv m) (hf : Fit m) (hL : L ≤ w.heap.size) :
    Calls Tryd.prog 31 #[.agg #[uv, vv]] w fun e w' => ∃ (r : Int) (ok : Bool), e = .returned (.tuple #[.int .i64 r, .bool ok]) ∧ RootR M m r ok ∧ Below w.heap.size w w' := by
  have K := show Hid (∀ W, Below w.heap.size w W → Calls Tryd.prog 29 #[.agg #[uv, vv], .slice none 0 0] W fun e w' => ∃ fv er, e = .returned (.tuple #[fv, .int .i64 er]) ∧ Rek w' M m [] fv er ∧ Below W.heap.size W w') from fun W hW => reckoned_any W hO (hm.keep fun k hk => hW.block k (by omega)) hf (Nat.le_trans hL hW.size) (isI_nil W) (Nat.zero_le _) (by simp) (by simp)
  have HN5 := show Hid (Wd.Good m → m.up.length ≤ 512) from fun g => (Wd.shaped_and g.shape).2.1
  obtain ⟨pu, cu, rfl⟩ := IsS.form hm.up
  obtain ⟨pv, cv, rfl⟩ := IsS.form hm.val
  clear hm hf
  go_enter Tryd.func31, Tryd.ntmps31
  go_wp2_with (refine wpList_box 25 _ rfl _ rfl rfl ?_)
  intro w1 b1 hN
  have H1 := show Hid (Below w.heap.size w w1 ∧ Cl w1 b1 #[.slice pu m.up.length cu, .slice pv m.val.length cv] 25) from ⟨hN.bel, hN.blk⟩
  have K1 := show Hid _ from K.out w1 hN.bel
  clear hN K
  go_wp2_with (refine wpList_ldw 25 _ rfl b1 rfl _ _ H1.out.2 rfl Tryd.underlying25 sizeM rfl ?_)
  refine Calls.mono K1.out ?_
  rintro e w2 ⟨fv, er, rfl, hR, hb⟩
  have H2 := show Hid (Below w.heap.size w w2 ∧ Cl w2 b1 #[.slice pu m.up.length cu, .slice pv m.val.length cv] 25) from ⟨H1.out.1.trans (hb.mono H1.out.1.size), H1.out.2.later hb⟩
  clear hb K1 H1
  rcases hR with ⟨h1, rfl, rfl⟩ | ⟨_, h2, _, _⟩ | ⟨h1, h2, h3, rfl⟩
  · have HG := show Hid (¬ Wd.Good m) from h1
    clear h1
    go_wp2_with fail
    go_ret2
    exact ⟨0, false, rfl, Or.inl ⟨HG.out, rfl, rfl⟩, H2.out.1⟩
  · cases h2
  · have HG := show Hid (Wd.Good m) from h1
    have hn5 := HN5.out h1
    have KI := show Hid (∀ W, Below w2.heap.size w2 W → ∀ a, a < m.up.length → Calls Tryd.prog 47 #[.int .i64 (a : Int), .int .i64 (m.up.length : Int), fv] W fun e w' => e = .returned (.bool ((List.range m.up.length).all (M a))) ∧ Below W.heap.size W w') from fun W hW a ha => isRoot_any W (h3.later hW hW.size) ha (Nat.le_refl _) hn5
    obtain ⟨f, cs, rfl, -, -⟩ := h3
    have c0 : w2.cell? ⟨b1, 0, none⟩ = some (.slice pu m.up.length cu) := Cl.cell (T := 25) H2.out.2 0
    clear h1 h2
    go_wp2_with fail
    go_loopw [6, 17] (fun _ i wr => ∃ k : Nat, k ≤ m.up.length ∧ i = .int .i64 (k : Int) ∧ Hid (Below w2.heap.size w2 wr ∧ ∀ a, a < k → (List.range m.up.length).all (M a) = false)) (fun _ i _ => m.up.length - (intOf i).toNat)
    case atStart => exact ⟨0, Nat.zero_le _, rfl, Below.refl _ _, fun _ h => absurd h (Nat.not_lt_zero _)⟩
    case round =>
      obtain ⟨k, hk, rfl, H3⟩ := hrel
      clear c0
      by_cases hlt : k < m.up.length
      · have K3 := show Hid _ from KI.out wr H3.out.1 k hlt
        have c3 : wr.cell? ⟨b1, 0, none⟩ = some (.slice pu m.up.length cu) := Cl.cell (T := 25) (H2.out.2.later H3.out.1) 0
        have hki : (k : Int) < (m.up.length : Int) := by omega
        have HF := show Hid ((List.range m.up.length).all (M k) = false → ∀ a, a < k + 1 → (List.range m.up.length).all (M a) = false) from fun h a ha => by
          by_cases e : a = k
          · rw [e]; exact h
          · exact H3.out.2 a (by omega)
        have HT := show Hid ((List.range m.up.length).all (M k) = true → RootR M m (k : Int) true) from fun h => Or.inr (Or.inr ⟨k, HG.out, hlt, rfl, rfl, h, H3.out.2⟩)
        clear KI
        go_wp2_with fail
        refine Calls.mono K3.out ?_
        rintro e w4 ⟨rfl, hb⟩
        have H4 := show Hid (Below w2.heap.size w2 w4 ∧ Below w.heap.size w w4) from ⟨H3.out.1.trans (hb.mono H3.out.1.size), (H2.out.1.trans (H3.out.1.mono H2.out.1.size)).trans (hb.mono (Nat.le_trans H2.out.1.size H3.out.1.size))⟩
        clear hb K3 H3 c3
        generalize (List.range m.up.length).all (M k) = y at *
        cases y
        · have HF2 := show Hid _ from HF.out (by first | rfl | trivial)
          clear HF HT
          go_wp2_with fail
          go_roundw
          case rel => exact ⟨k + 1, by omega, val_int (by omega), H4.out.1, HF2.out⟩
          case measure => (simp only [intOf]; omega)
        · have HT2 := show Hid (RootR M m (k : Int) true) from HT.out (by first | rfl | trivial)
          clear HF HT
          go_wp2_with fail
          go_ret2
          exact ⟨_, true, rfl, HT2.out, H4.out.2⟩
      · have HX := show Hid (RootR M m 0 false) from Or.inr (Or.inl ⟨HG.out, rfl, rfl, fun a ha => H3.out.2 a (by omega)⟩)
        go_wp2_with fail
        go_ret2
        exact ⟨0, false, rfl, HX.out, H2.out.1.trans (H3.out.1.mono H2.out.1.size)⟩
def inS (s : ByteArray) (l : List ByteArray) : Bool := l.any fun x => x.data.toList == s.data.toList
theorem ba_ext {x y : ByteArray} (e : x.data.toList = y.data.toList) : x = y := by
  cases x; cases y; simp only [ByteArray.mk.injEq]; exact Array.ext' e
theorem inS_iff {s : ByteArray} {l : List ByteArray} : inS s l = true ↔ s ∈ l := by
  unfold inS
  rw [List.any_eq_true]
  constructor
  · rintro ⟨x, hx, e⟩
    rw [← ba_ext (beq_iff_eq.1 e)]; exact hx
  · exact fun h => ⟨s, h, beq_iff_eq.2 rfl⟩
theorem inS_no {s : ByteArray} {l : List ByteArray} (h : s ∉ l) : inS s l = false := by
  cases e : inS s l
  · rfl
  · exact absurd (inS_iff.1 e) h
theorem beqS_eq {x y : ByteArray} (h : x = y) : (x.toList == y.toList) = true := by rw [h]; simp
theorem beqS_ne {x y : ByteArray} (h : x ≠ y) : (x.toList == y.toList) = false := by
  rw [beq_eq_false_iff_ne]
  intro e
  rw [ByteArray.toList_eq, ByteArray.toList_eq] at e
  exact h (ba_ext e)
set_option maxRecDepth 100000 in
set_option maxHeartbeats 2000000 in
theorem index_any (w : World) {Ls : Nat} {v : Value} {l : List ByteArray} (hl : IsN w Ls v l) (hlen : l.length ≤ 140737488351232) (s : ByteArray) :
    Calls Tryd.prog 51 #[v, .string s] w fun e w' => (∃ r : Int, e = .returned (.int .i64 r) ∧ decide (0 ≤ r) = inS s l ∧ -1 ≤ r ∧ r ≤ 140737488351232) ∧ w' = w := by
  obtain ⟨q, c, rfl, hat⟩ := hl
  have HA := show Hid (0 < l.length → ∃ b o, b < Ls ∧ q = some ⟨b, o, none⟩ ∧ ∀ (j : Nat) (hj : j < l.length), ∃ x, w.cell? ⟨b, o + j, none⟩ = some x ∧ isT l[j] x) from hat
  clear hat
  go_enter Tryd.func51, Tryd.ntmps51
  go_wp2_with fail
  go_loopw [5, 8] (fun _ i wr => ∃ k : Nat, k ≤ l.length ∧ i = .int .i64 (k : Int) ∧ wr = w ∧ Hid (∀ (j : Nat) (hj : j < l.length), j < k → l[j] ≠ s)) (fun _ i _ => l.length - (intOf i).toNat)
  case atStart => exact ⟨0, Nat.zero_le _, rfl, rfl, fun j _ h => absurd h (Nat.not_lt_zero _)⟩
  case round =>
    obtain ⟨k, hk, rfl, rfl, HI⟩ := hrel
    by_cases hlt : k < l.length
    · obtain ⟨b, o, hb, rfl, hat⟩ := HA.out (by omega)
      obtain ⟨x, hx, rfl⟩ := hat k hlt
      have HM := show Hid (s = l[k] → s ∈ l) from fun e => by rw [e]; exact List.getElem_mem hlt
      have HS := show Hid (s ≠ l[k] → ∀ (j : Nat) (hj : j < l.length), j < k + 1 → l[j] ≠ s) from fun h j hj hjk => by
        by_cases e : j = k
        · subst e; exact fun e => h e.symm
        · exact HI.out j hj (by omega)
      have hki : (k : Int) < (l.length : Int) := by omega
      clear hat HA HI
      generalize l[k] = x at *
      by_cases e : s = x
      · have HX := show Hid (decide (0 ≤ (k : Int)) = inS s l) from by
          show decide (0 ≤ (k : Int)) = inS s l
          rw [inS_iff.2 (HM.out e), decide_eq_true (by omega)]
        have hbq := beqS_eq e
        clear e HM HS
        go_wp2_with fail
        go_ret
        exact ⟨⟨_, rfl, HX.out, by omega, by omega⟩, rfl⟩
      · have HS2 := show Hid _ from HS.out e
        have hbq := beqS_ne e
        clear e HM HS
        go_wp2_with fail
        go_roundw
        case rel => exact ⟨k + 1, by omega, val_int (by omega), (by first | rfl | trivial), HS2⟩
        case measure => (simp only [intOf]; omega)
    · have HX := show Hid (decide ((0 : Int) ≤ -1) = inS s l) from by
        show decide ((0 : Int) ≤ -1) = inS s l
        rw [inS_no (s := s) (l := l)]
        · rfl
        · intro h
          obtain ⟨j, hj, e⟩ := List.mem_iff_getElem.1 h
          exact HI.out j hj (by omega) e
      go_wp2_with fail
      go_ret
      exact ⟨⟨-1, rfl, HX.out, by omega, by omega⟩, rfl⟩
set_option maxRecDepth 100000 in
theorem contains_any (w : World) {Ls : Nat} {v : Value} {l : List ByteArray} (hl : IsN w Ls v l) (hlen : l.length ≤ 140737488351232) (s : ByteArray) :
    Calls Tryd.prog 34 #[v, .string s] w fun e w' => e = .returned (.bool (inS s l)) ∧ w' = w := by
  have K := show Hid _ from index_any w hl hlen s
  obtain ⟨q, c, rfl, -⟩ := hl
  generalize inS s l = ans at *
  go_enter Tryd.func34, Tryd.ntmps34
  go_wp2_with fail
  refine Calls.mono K.out ?_
  rintro e w2 ⟨⟨r, rfl, hr, h1, h2⟩, rfl⟩
  have HR := show Hid (decide (0 ≤ r) = ans) from hr
  clear hr K
  go_wp2_with fail
  go_ret
  exact ⟨ret_bool HR.out, rfl⟩
set_option maxRecDepth 100000 in
set_option maxHeartbeats 1000000 in
theorem true_any (w : World) {L : Nat} {uv vv : Value} {m : Md} (hm : IsM w L uv vv m) (hf : Fit m) (hL : L ≤ w.heap.size) (a : Int) (ha : -9223372036854775808 ≤ a ∧ a ≤ 9223372036854775807) (s : ByteArray) :
    Calls Tryd.prog 13 #[.agg #[uv, vv], .int .i64 a, .string s] w fun e w' => ∃ (r : Bool) (er : Int), e = .returned (.tuple #[.bool r, .int .i64 er]) ∧ ((¬ Wd.Good m ∧ r = false ∧ er = 170) ∨ (Wd.Good m ∧ inW m.up.length a = false ∧ r = false ∧ er = 2) ∨ (Wd.Good m ∧ inW m.up.length a = true ∧ r = inS s (vl m a.toNat) ∧ er = 0)) ∧ Below w.heap.size w w' := by
  obtain ⟨M, hO⟩ := isO_ex m.up
  have K := show Hid (∀ W w1 q, Below w.heap.size w w1 → New w1 W q #[.int .i64 a] 3 → Calls Tryd.prog 29 #[.agg #[uv, vv], .slice (some ⟨q, 0, none⟩) 1 1] W fun e w' => ∃ fv er, e = .returned (.tuple #[fv, .int .i64 er]) ∧ Rek w' M m [a] fv er ∧ Below W.heap.size W w') from fun W w1 q hW hN => reckoned_any W hO (hm.keep fun k hk => (hN.bel.block k (by have := hW.size; omega)).trans (hW.block k (by omega))) hf (Nat.le_trans hL (Nat.le_trans hW.size hN.bel.size)) (isI_new (l := [a]) hN) (Nat.le_refl _) (by simp) (fun x hx => by
    simp only [List.mem_cons, List.not_mem_nil, or_false] at hx
    rw [hx]; exact ha)
  obtain ⟨pu, cu, rfl⟩ := IsS.form hm.up
  obtain ⟨pv, cv, rfl, hv⟩ := hm.val.row
  have HV := show Hid (∀ (j : Nat) (hj : j < m.val.length), ∃ b o q n, pv = some ⟨b, o, none⟩ ∧ b < L ∧ w.cell? ⟨b, o + j, none⟩ = some (.slice q m.val[j].length n) ∧ IsN w L (.slice q m.val[j].length n) m.val[j] ∧ m.val[j].length ≤ 140737488351232) from fun j hj => by
    obtain ⟨b, o, q, n, h1, h2, h3, h4⟩ := hv j hj
    exact ⟨b, o, q, n, h1, h2, h3, h4, (hf.2.2.2 _ (List.getElem_mem hj)).1⟩
  have HVL := show Hid (Wd.Good m → m.val.length = m.up.length) from fun g => (Wd.shaped_and g.shape).2.2.1
  clear hm hf hv
  go_enter Tryd.func13, Tryd.ntmps13
  go_wp2_with (refine wpList_box 25 _ rfl _ rfl rfl ?_)
  intro w1 b1 hN
  have H1 := show Hid (Below w.heap.size w w1 ∧ Cl w1 b1 #[.slice pu m.up.length cu, .slice pv m.val.length cv] 25) from ⟨hN.bel, hN.blk⟩
  clear hN
  go_wp2_with (first | (refine wpList_ldw 25 _ rfl b1 rfl _ _ H1.out.2 rfl Tryd.underlying25 sizeM rfl ?_) | (refine wpList_bs1 rfl _ rfl _ rfl ?_))
  intro w2 q hN2
  have K1 := show Hid _ from K.out w2 w1 q H1.out.1 hN2
  have H2 := show Hid (Below w.heap.size w w2 ∧ Cl w2 b1 #[.slice pu m.up.length cu, .slice pv m.val.length cv] 25) from ⟨H1.out.1.trans (hN2.bel.mono H1.out.1.size), H1.out.2.later hN2.bel⟩
  clear hN2 K H1
  go_wp2_with fail
  refine Calls.mono K1.out ?_
  rintro e w3 ⟨fv, er, rfl, hR, hb3⟩
  have H3 := show Hid (Below w.heap.size w w3 ∧ Cl w3 b1 #[.slice pu m.up.length cu, .slice pv m.val.length cv] 25) from ⟨H2.out.1.trans (hb3.mono H2.out.1.size), H2.out.2.later hb3⟩
  clear hb3 K1 H2
  have hall : allW m.up.length [a] = inW m.up.length a := by simp [allW]
  rw [Rek, hall] at hR
  rcases hR with ⟨h1, rfl, rfl⟩ | ⟨h1, h2, rfl, rfl⟩ | ⟨h1, h2, h3, rfl⟩
  · have HG := show Hid (¬ Wd.Good m) from h1
    clear h1 hall
    go_wp2_with fail
    go_ret2
    exact ⟨false, 170, rfl, Or.inl ⟨HG.out, rfl, rfl⟩, H3.out.1⟩
  · have HG := show Hid (Wd.Good m ∧ inW m.up.length a = false) from ⟨h1, h2⟩
    clear h1 h2 hall
    go_wp2_with fail
    go_ret2
    exact ⟨false, 2, rfl, Or.inr (Or.inl ⟨HG.out.1, HG.out.2, rfl, rfl⟩), H3.out.1⟩
  · have HG := show Hid (Wd.Good m ∧ inW m.up.length a = true) from ⟨h1, h2⟩
    have hvl := HVL.out h1
    simp only [Bool.and_eq_true, inW, decide_eq_true_eq] at h2
    obtain ⟨f, cs, rfl, -, -⟩ := h3
    obtain ⟨k, rfl⟩ := Int.eq_ofNat_of_zero_le h2.1
    have hkv : k < m.val.length := by omega
    obtain ⟨bv, ov, qv, nv, rfl, hbv, hcv, hiv, hln⟩ := HV.out k hkv
    have KC := show Hid _ from contains_any w3 (IsN.keep hiv fun j hj => H3.out.1.block j (by omega)) hln s
    have c1 : w3.cell? ⟨b1, 1, none⟩ = some (.slice (some ⟨bv, ov, none⟩) m.val.length cv) := Cl.cell (T := 25) H3.out.2 1
    have c2 : w3.cell? ⟨bv, ov + k, none⟩ = some (.slice qv m.val[k].length nv) := (H3.out.1.cell (p := ⟨bv, ov + k, none⟩) (by show bv < _; omega)).trans hcv
    have HE := show Hid (inS s m.val[k] = inS s (vl m ((k : Int)).toNat)) from by
      show inS s m.val[k] = inS s (vl m ((k : Int)).toNat)
      rw [Int.toNat_natCast]
      have : vl m k = m.val[k] := by unfold vl; rw [List.getD_eq_getElem?_getD, List.getElem?_eq_getElem hkv]; rfl
      rw [this]
    have hki : (k : Int) < (m.val.length : Int) := by omega
    clear h1 h2 hall hvl hiv hcv HV
    generalize inS s m.val[k] = y at *
    generalize m.val[k] = lk at *
    go_wp2_with fail
    refine Calls.mono KC.out ?_
    rintro e w4 ⟨rfl, rfl⟩
    clear KC
    go_wp2_with fail
    go_ret2
    exact ⟨_, 0, rfl, Or.inr (Or.inr ⟨HG.out.1, HG.out.2, HE.out, rfl⟩), H3.out.1⟩
end Go.Proofs.YtjbnbaiidpdpoaaDoor.Wm
