/-
  The document's Check, asked, Leq, True, Above, Root: of any model. No condition.
-/
import Derived.Test.YtjbnbaiidpdpoaaGreatDoorWRight
namespace Go.Proofs.YtjbnbaiidpdpoaaGreatDoor.Wm
open Go.RowKit Go.Maps
open Wd (Md allW inW names Sub Rc vl)
set_option linter.unusedSimpArgs false

set_option maxRecDepth 100000 in
set_option maxHeartbeats 2000000 in
theorem rcheck_any (w : World) {L : Nat} {uv vv : Value} {m : Md} (hm : IsM w L uv vv m) (hf : Fit m) (hL : L ≤ w.heap.size) :
    Calls Tryz.prog 12 #[.agg #[uv, vv]] w fun e w' => ∃ er : Int, e = .returned (.int .i64 er) ∧ ((Wd.Good m ∧ er = 0) ∨ (¬ Wd.Good m ∧ er = 170)) ∧ Below w.heap.size w w' := by
  obtain ⟨M, hO⟩ := isO_ex m.up
  have K := show Hid (∀ W, Below w.heap.size w W → Calls Tryz.prog 27 #[.agg #[uv, vv]] W fun e w' => ((∃ O Ra, e = .returned (.tuple #[.slice (some ⟨O, 0, none⟩) m.up.length m.up.length, .bool true]) ∧ Ob w' W.heap.size O m.up.length m.up.length Ra M ∧ Wd.Good m) ∨ (e = .returned (.tuple #[.slice none 0 0, .bool false]) ∧ ¬ Wd.Good m)) ∧ Below W.heap.size W w') from fun W hW => right_any W hO (hm.below (hW.mono hL)) hf (Nat.le_trans hL hW.size)
  clear hm hf hO
  go_enter Tryz.func12, Tryz.ntmps12
  go_wp2_with (refine wpList_box 25 _ rfl _ rfl rfl ?_)
  intro w1 b1 hN
  have HB1 := show Hid (Below w.heap.size w w1 ∧ Cl w1 b1 #[uv, vv] 25) from ⟨hN.bel, hN.blk⟩
  have K1 := show Hid _ from K.out w1 hN.bel
  clear hN K
  go_wp2_with (refine wpList_ldw 25 _ rfl b1 rfl _ _ HB1.out.2 rfl Tryz.underlying25 sizeM rfl ?_)
  go_wp2_with fail
  refine Calls.mono K1.out ?_
  rintro e w2 ⟨hr, hb2⟩
  have HB2 := show Hid (Below w.heap.size w w2) from HB1.out.1.trans (hb2.mono HB1.out.1.size)
  clear K1 hb2
  rcases hr with ⟨O, Ra, rfl, -, hg⟩ | ⟨rfl, hg⟩
  · have HG := show Hid _ from hg
    clear hg
    go_wp2_with fail
    go_ret
    exact ⟨0, rfl, Or.inl ⟨HG.out, rfl⟩, HB2.out⟩
  · have HG := show Hid _ from hg
    clear hg
    go_wp2_with fail
    go_ret
    exact ⟨170, rfl, Or.inr ⟨HG.out, rfl⟩, HB2.out⟩
def AsR (w' : World) (B : Nat) (M : Nat → Nat → Bool) (m : Md) (a : Int) (e : Ending) : Prop :=
  (∃ O Ra, e = .returned (.tuple #[.slice (some ⟨O, 0, none⟩) m.up.length m.up.length, .int .i64 0]) ∧ Ob w' B O m.up.length m.up.length Ra M ∧ Wd.Good m ∧ inW m.up.length a = true) ∨ (e = .returned (.tuple #[.slice none 0 0, .int .i64 170]) ∧ ¬ Wd.Good m) ∨ (e = .returned (.tuple #[.slice none 0 0, .int .i64 2]) ∧ Wd.Good m ∧ inW m.up.length a = false)
set_option maxRecDepth 100000 in
set_option maxHeartbeats 2000000 in
theorem asked_any (w : World) {M : Nat → Nat → Bool} {L : Nat} {uv vv : Value} {m : Md} (hO : IsO m.up M) (hm : IsM w L uv vv m) (hf : Fit m) (hL : L ≤ w.heap.size) (a : Int) (ha : -9223372036854775808 ≤ a ∧ a ≤ 9223372036854775807) :
    Calls Tryz.prog 26 #[.agg #[uv, vv], .int .i64 a] w fun e w' => AsR w' w.heap.size M m a e ∧ Below w.heap.size w w' := by
  have K := show Hid (∀ W, Below w.heap.size w W → Calls Tryz.prog 27 #[.agg #[uv, vv]] W fun e w' => ((∃ O Ra, e = .returned (.tuple #[.slice (some ⟨O, 0, none⟩) m.up.length m.up.length, .bool true]) ∧ Ob w' W.heap.size O m.up.length m.up.length Ra M ∧ Wd.Good m) ∨ (e = .returned (.tuple #[.slice none 0 0, .bool false]) ∧ ¬ Wd.Good m)) ∧ Below W.heap.size W w') from fun W hW => right_any W hO (hm.below (hW.mono hL)) hf (Nat.le_trans hL hW.size)
  have hn := hf.1
  clear hm hf hO
  go_enter Tryz.func26, Tryz.ntmps26
  go_wp2_with (refine wpList_box 25 _ rfl _ rfl rfl ?_)
  intro w1 b1 hN
  have HB1 := show Hid (Below w.heap.size w w1 ∧ Cl w1 b1 #[uv, vv] 25) from ⟨hN.bel, hN.blk⟩
  have K1 := show Hid _ from K.out w1 hN.bel
  clear hN K
  go_wp2_with (refine wpList_ldw 25 _ rfl b1 rfl _ _ HB1.out.2 rfl Tryz.underlying25 sizeM rfl ?_)
  go_wp2_with fail
  refine Calls.mono K1.out ?_
  rintro e w2 ⟨hr, hb2⟩
  have HB2 := show Hid (Below w.heap.size w w2) from HB1.out.1.trans (hb2.mono HB1.out.1.size)
  clear K1 hb2
  rcases hr with ⟨O, Ra, rfl, hob, hg⟩ | ⟨rfl, hg⟩
  · have HG := show Hid (Wd.Good m ∧ Ob w2 w.heap.size O m.up.length m.up.length Ra M) from ⟨hg, hob.base HB1.out.1.size⟩
    clear hg hob HB1
    have HIN := show Hid ((0 ≤ a ∧ a < (m.up.length : Int) → inW m.up.length a = true) ∧ (¬ (0 ≤ a ∧ a < (m.up.length : Int)) → inW m.up.length a = false)) from by
      unfold inW
      refine ⟨fun h => by simp [h.1, h.2], fun h => ?_⟩
      by_cases h1 : 0 ≤ a <;> by_cases h2 : a < (m.up.length : Int) <;> simp [h1, h2] <;> exact h ⟨h1, h2⟩
    by_cases h1 : a < 0
    · have h1i : decide (a < 0) = true := by simp [h1]
      have HE := show Hid _ from HIN.out.2 (fun h => by omega)
      go_wp2_with fail
      go_ret2
      exact ⟨Or.inr (Or.inr ⟨rfl, HG.out.1, HE.out⟩), HB2.out⟩
    · have h1i : decide (a < 0) = false := by simp; omega
      by_cases h2 : a < (m.up.length : Int)
      · have HE := show Hid _ from HIN.out.1 ⟨by omega, h2⟩
        have h2i : decide ((m.up.length : Int) ≤ a) = false := by simp; omega
        go_wp2_with fail
        go_ret2
        exact ⟨Or.inl ⟨O, Ra, rfl, HG.out.2, HG.out.1, HE.out⟩, HB2.out⟩
      · have HE := show Hid _ from HIN.out.2 (fun h => h2 h.2)
        have h2i : decide ((m.up.length : Int) ≤ a) = true := by simp; omega
        go_wp2_with fail
        go_ret2
        exact ⟨Or.inr (Or.inr ⟨rfl, HG.out.1, HE.out⟩), HB2.out⟩
  · have HG := show Hid _ from hg
    clear hg
    go_wp2_with fail
    go_ret2
    exact ⟨Or.inr (Or.inl ⟨rfl, HG.out⟩), HB2.out⟩
end Go.Proofs.YtjbnbaiidpdpoaaGreatDoor.Wm
/-
  The document's Leq, True, Above: of any model. No condition.
-/
namespace Go.Proofs.YtjbnbaiidpdpoaaGreatDoor.Wm
open Go.RowKit Go.Maps
open Wd (Md allW inW names Sub Rc vl)
set_option linter.unusedSimpArgs false

theorem inW_nat {n : Nat} {a : Int} (h : inW n a = true) : ∃ k : Nat, a = (k : Int) ∧ k < n := by
  simp only [inW, Bool.and_eq_true, decide_eq_true_eq] at h
  exact ⟨a.toNat, by omega, by omega⟩
theorem inW_iff {n : Nat} {a : Int} : (0 ≤ a ∧ a < (n : Int) → inW n a = true) ∧ (¬ (0 ≤ a ∧ a < (n : Int)) → inW n a = false) := by
  unfold inW
  refine ⟨fun h => by simp [h.1, h.2], fun h => ?_⟩
  by_cases h1 : 0 ≤ a <;> by_cases h2 : a < (n : Int) <;> simp [h1, h2] <;> exact h ⟨h1, h2⟩
set_option maxRecDepth 100000 in
set_option maxHeartbeats 2000000 in
theorem rleq_any (w : World) {M : Nat → Nat → Bool} {L : Nat} {uv vv : Value} {m : Md} (hO : IsO m.up M) (hm : IsM w L uv vv m) (hf : Fit m) (hL : L ≤ w.heap.size) (a b : Int) (ha : -9223372036854775808 ≤ a ∧ a ≤ 9223372036854775807) (hb : -9223372036854775808 ≤ b ∧ b ≤ 9223372036854775807) :
    Calls Tryz.prog 9 #[.agg #[uv, vv], .int .i64 a, .int .i64 b] w fun e w' => ∃ (r : Bool) (er : Int), e = .returned (.tuple #[.bool r, .int .i64 er]) ∧ ((¬ Wd.Good m ∧ r = false ∧ er = 170) ∨ (Wd.Good m ∧ (inW m.up.length a && inW m.up.length b) = false ∧ r = false ∧ er = 2) ∨ (Wd.Good m ∧ (inW m.up.length a && inW m.up.length b) = true ∧ r = M a.toNat b.toNat ∧ er = 0)) ∧ Below w.heap.size w w' := by
  have K := show Hid (∀ W, Below w.heap.size w W → Calls Tryz.prog 26 #[.agg #[uv, vv], .int .i64 a] W fun e w' => AsR w' W.heap.size M m a e ∧ Below W.heap.size W w') from fun W hW => asked_any W hO (hm.below (hW.mono hL)) hf (Nat.le_trans hL hW.size) a ha
  have hn := hf.1
  clear hm hf hO
  go_enter Tryz.func9, Tryz.ntmps9
  go_wp2_with (refine wpList_box 25 _ rfl _ rfl rfl ?_)
  intro w1 b1 hN
  have HB1 := show Hid (Below w.heap.size w w1 ∧ Cl w1 b1 #[uv, vv] 25) from ⟨hN.bel, hN.blk⟩
  have K1 := show Hid _ from K.out w1 hN.bel
  clear hN K
  go_wp2_with (refine wpList_ldw 25 _ rfl b1 rfl _ _ HB1.out.2 rfl Tryz.underlying25 sizeM rfl ?_)
  go_wp2_with fail
  refine Calls.mono K1.out ?_
  rintro e w2 ⟨hr, hb2⟩
  have HB2 := show Hid (Below w.heap.size w w2) from HB1.out.1.trans (hb2.mono HB1.out.1.size)
  clear K1 hb2
  rcases hr with ⟨O, Ra, rfl, hob, hg, hi⟩ | ⟨rfl, hg⟩ | ⟨rfl, hg, hi⟩
  · obtain ⟨ka, rfl, hka⟩ := inW_nat hi
    have HG := show Hid (Wd.Good m ∧ inW m.up.length (ka : Int) = true ∧ Ob w2 w1.heap.size O m.up.length m.up.length Ra M) from ⟨hg, hi, hob⟩
    clear hg hi hob HB1
    by_cases h1 : b < 0
    · have h1i : decide (b < 0) = true := by simp [h1]
      have HE := show Hid (inW m.up.length b = false) from inW_iff.2 (fun h => by omega)
      go_wp2_with fail
      go_ret2
      exact ⟨false, 2, rfl, Or.inr (Or.inl ⟨HG.out.1, by rw [HE.out, Bool.and_false], rfl, rfl⟩), HB2.out⟩
    · have h1i : decide (b < 0) = false := by simp; omega
      by_cases h2 : b < (m.up.length : Int)
      · have HE := show Hid (inW m.up.length b = true) from inW_iff.1 ⟨by omega, h2⟩
        have h2i : decide ((m.up.length : Int) ≤ b) = false := by simp; omega
        obtain ⟨kb, rfl⟩ := Int.eq_ofNat_of_zero_le (show 0 ≤ b by omega)
        have c1 := (HG.out.2.2.out.cell hka).trans (by rw [if_pos hka])
        have c2 := (HG.out.2.2.row ka hka).1.cell (j := kb) (by omega)
        have hai : (ka : Int) < (m.up.length : Int) := by omega
        go_wp2_with fail
        go_ret2
        exact ⟨_, 0, rfl, Or.inr (Or.inr ⟨HG.out.1, by rw [HG.out.2.1, HE.out]; rfl, by simp, rfl⟩), HB2.out⟩
      · have HE := show Hid (inW m.up.length b = false) from inW_iff.2 (fun h => h2 h.2)
        have h2i : decide ((m.up.length : Int) ≤ b) = true := by simp; omega
        go_wp2_with fail
        go_ret2
        exact ⟨false, 2, rfl, Or.inr (Or.inl ⟨HG.out.1, by rw [HE.out, Bool.and_false], rfl, rfl⟩), HB2.out⟩
  · have HG := show Hid _ from hg
    clear hg
    go_wp2_with fail
    go_ret2
    exact ⟨false, 170, rfl, Or.inl ⟨HG.out, rfl, rfl⟩, HB2.out⟩
  · have HG := show Hid (Wd.Good m ∧ inW m.up.length a = false) from ⟨hg, hi⟩
    clear hg hi
    go_wp2_with fail
    go_ret2
    exact ⟨false, 2, rfl, Or.inr (Or.inl ⟨HG.out.1, by rw [HG.out.2, Bool.false_and], rfl, rfl⟩), HB2.out⟩
set_option maxRecDepth 100000 in
set_option maxHeartbeats 2000000 in
theorem rtrue_any (w : World) {L : Nat} {uv vv : Value} {m : Md} (hm : IsM w L uv vv m) (hf : Fit m) (hL : L ≤ w.heap.size) (a : Int) (ha : -9223372036854775808 ≤ a ∧ a ≤ 9223372036854775807) (s : ByteArray) :
    Calls Tryz.prog 16 #[.agg #[uv, vv], .int .i64 a, .string s] w fun e w' => ∃ (r : Bool) (er : Int), e = .returned (.tuple #[.bool r, .int .i64 er]) ∧ ((¬ Wd.Good m ∧ r = false ∧ er = 170) ∨ (Wd.Good m ∧ inW m.up.length a = false ∧ r = false ∧ er = 2) ∨ (Wd.Good m ∧ inW m.up.length a = true ∧ r = inS s (vl m a.toNat) ∧ er = 0)) ∧ Below w.heap.size w w' := by
  obtain ⟨M, hO⟩ := isO_ex m.up
  have K := show Hid (∀ W, Below w.heap.size w W → Calls Tryz.prog 26 #[.agg #[uv, vv], .int .i64 a] W fun e w' => AsR w' W.heap.size M m a e ∧ Below W.heap.size W w') from fun W hW => asked_any W hO (hm.below (hW.mono hL)) hf (Nat.le_trans hL hW.size) a ha
  have hn := hf.1
  obtain ⟨pu, cu, rfl⟩ := IsS.form hm.up
  obtain ⟨pv, cv, rfl, hv⟩ := hm.val.row
  have HV := show Hid (∀ (j : Nat) (hj : j < m.val.length), ∃ b o q n, pv = some ⟨b, o, none⟩ ∧ b < L ∧ w.cell? ⟨b, o + j, none⟩ = some (.slice q m.val[j].length n) ∧ IsN w L (.slice q m.val[j].length n) m.val[j]) from hv
  have HFV := show Hid (∀ (j : Nat) (hj : j < m.val.length), m.val[j].length ≤ 140737488351232) from fun j hj => (hf.2.2.2 _ (List.getElem_mem hj)).1
  clear hm hf hO hv
  go_enter Tryz.func16, Tryz.ntmps16
  go_wp2_with (refine wpList_box 25 _ rfl _ rfl rfl ?_)
  intro w1 b1 hN
  have HB1 := show Hid (Below w.heap.size w w1 ∧ Cl w1 b1 #[.slice pu m.up.length cu, .slice pv m.val.length cv] 25) from ⟨hN.bel, hN.blk⟩
  have K1 := show Hid _ from K.out w1 hN.bel
  clear hN K
  go_wp2_with (refine wpList_ldw 25 _ rfl b1 rfl _ _ HB1.out.2 rfl Tryz.underlying25 sizeM rfl ?_)
  go_wp2_with fail
  refine Calls.mono K1.out ?_
  rintro e w2 ⟨hr, hb2⟩
  have HB2 := show Hid (Below w.heap.size w w2 ∧ Cl w2 b1 #[.slice pu m.up.length cu, .slice pv m.val.length cv] 25) from ⟨HB1.out.1.trans (hb2.mono HB1.out.1.size), HB1.out.2.later hb2⟩
  clear K1 hb2 HB1
  rcases hr with ⟨O, Ra, rfl, -, hg, hi⟩ | ⟨rfl, hg⟩ | ⟨rfl, hg, hi⟩
  · obtain ⟨ka, rfl, hka⟩ := inW_nat hi
    have HG := show Hid (Wd.Good m ∧ inW m.up.length (ka : Int) = true) from ⟨hg, hi⟩
    have hvl := (Wd.shaped_and hg.shape).2.2.1
    have hkv : ka < m.val.length := by omega
    have HVL := show Hid (vl m ((ka : Int)).toNat = m.val[ka]) from by
      show vl m ((ka : Int)).toNat = m.val[ka]
      rw [Int.toNat_natCast]
      exact vl_at hkv
    obtain ⟨bv, ov, q, c, rfl, h1, h2, h3⟩ := HV.out ka hkv
    have KH := show Hid _ from has_ref w2 (IsN.keep h3 fun i hi => HB2.out.1.block i (by omega)) (Nat.le_trans hL HB2.out.1.size) (HFV.out ka hkv) s
    have c1 : w2.cell? ⟨b1, 1, none⟩ = some (.slice (some ⟨bv, ov, none⟩) m.val.length cv) := HB2.out.2.cell 1
    have c2 : w2.cell? ⟨bv, ov + ka, none⟩ = some (.slice q m.val[ka].length c) := (World.cell?_of_block (a := ⟨bv, ov + ka, none⟩) (HB2.out.1.block bv (by omega))).trans h2
    have hkvi : (ka : Int) < (m.val.length : Int) := by omega
    clear hg hi hvl h2 h3
    go_wp2_with fail
    refine Calls.mono KH.out ?_
    rintro e w3 ⟨rfl, hb3⟩
    have HB3 := show Hid (Below w.heap.size w w3) from HB2.out.1.trans (hb3.mono HB2.out.1.size)
    clear KH hb3
    go_wp2_with fail
    go_ret2
    exact ⟨_, 0, rfl, Or.inr (Or.inr ⟨HG.out.1, HG.out.2, by rw [HVL.out], rfl⟩), HB3.out⟩
  · have HG := show Hid _ from hg
    clear hg
    go_wp2_with fail
    go_ret2
    exact ⟨false, 170, rfl, Or.inl ⟨HG.out, rfl, rfl⟩, HB2.out.1⟩
  · have HG := show Hid (Wd.Good m ∧ inW m.up.length a = false) from ⟨hg, hi⟩
    clear hg hi
    go_wp2_with fail
    go_ret2
    exact ⟨false, 2, rfl, Or.inr (Or.inl ⟨HG.out.1, HG.out.2, rfl, rfl⟩), HB2.out.1⟩
set_option maxRecDepth 100000 in
set_option maxHeartbeats 4000000 in
theorem rabove_any (w : World) {M : Nat → Nat → Bool} {L : Nat} {uv vv : Value} {m : Md} (hO : IsO m.up M) (hm : IsM w L uv vv m) (hf : Fit m) (hL : L ≤ w.heap.size) (a : Int) (ha : -9223372036854775808 ≤ a ∧ a ≤ 9223372036854775807) :
    Calls Tryz.prog 7 #[.agg #[uv, vv], .int .i64 a] w fun e w' => ∃ (v : Value) (er : Int), e = .returned (.tuple #[v, .int .i64 er]) ∧ AbvR w' w.heap.size M m a v er ∧ Below w.heap.size w w' := by
  have K := show Hid (∀ W, Below w.heap.size w W → Calls Tryz.prog 26 #[.agg #[uv, vv], .int .i64 a] W fun e w' => AsR w' W.heap.size M m a e ∧ Below W.heap.size W w') from fun W hW => asked_any W hO (hm.below (hW.mono hL)) hf (Nat.le_trans hL hW.size) a ha
  obtain ⟨i0, hi, hz0, hz1, hz2⟩ := info_parts infoI
  clear hm hf hO
  go_enter Tryz.func7, Tryz.ntmps7
  go_wp2_with (refine wpList_box 25 _ rfl _ rfl rfl ?_)
  intro w1 b1 hN
  have HB1 := show Hid (Below w.heap.size w w1 ∧ Cl w1 b1 #[uv, vv] 25) from ⟨hN.bel, hN.blk⟩
  have K1 := show Hid _ from K.out w1 hN.bel
  clear hN K
  go_wp2_with (refine wpList_ldw 25 _ rfl b1 rfl _ _ HB1.out.2 rfl Tryz.underlying25 sizeM rfl ?_)
  go_wp2_with fail
  refine Calls.mono K1.out ?_
  rintro e w2 ⟨hr, hb2⟩
  have HB2 := show Hid (Below w.heap.size w w2) from HB1.out.1.trans (hb2.mono HB1.out.1.size)
  clear K1 hb2
  rcases hr with ⟨O, Ra, rfl, hob, hg, hi1⟩ | ⟨rfl, hg⟩ | ⟨rfl, hg, hi1⟩
  · obtain ⟨ka, rfl, hka⟩ := inW_nat hi1
    have HG := show Hid (Wd.Good m ∧ inW m.up.length (ka : Int) = true ∧ Ob w2 w1.heap.size O m.up.length m.up.length Ra M) from ⟨hg, hi1, hob⟩
    have hn := (Wd.shaped_and hg.shape).2.1
    have hai : (ka : Int) < (m.up.length : Int) := by omega
    have HQ := show Hid (∀ W, Below w2.heap.size w2 W → W.cell? ⟨O, ka, none⟩ = some (.slice (some ⟨Ra ka, 0, none⟩) m.up.length m.up.length) ∧ ∀ b, b < m.up.length → W.cell? ⟨Ra ka, b, none⟩ = some (.bool (M ka b))) from fun W hW => by
      have ho := HG.out.2.2.later hW
      exact ⟨(ho.out.cell hka).trans (by rw [if_pos hka]), fun b hb => (ho.row ka hka).1.cell hb⟩
    have HST := show Hid (∀ k, numsTo (abP M ka) (k + 1) = numsTo (abP M ka) k ++ if M ka k then [k] else []) from fun k => by
      show numsTo (abP M ka) (k + 1) = numsTo (abP M ka) k ++ if M ka k then [k] else []
      rw [numsTo_step]
      show _ ++ (if M ka ((k : Int)).toNat then [k] else []) = _
      rw [Int.toNat_natCast]
    have HLN := show Hid (∀ k, (numsTo (abP M ka) k).length ≤ k) from numsTo_len _
    have HTO := show Hid (((ka : Int)).toNat = ka) from Int.toNat_natCast ka
    clear hg hi1 hob HB1
    go_wp2_with fail
    go_loopw [8, 9] (fun v i wr => ∃ k : Nat, k ≤ m.up.length ∧ i = .int .i64 (k : Int) ∧ Hid (OwnI w2.heap.size wr v (numsTo (abP M ka) k) ∧ Below w2.heap.size w2 wr)) (fun _ i _ => m.up.length - (intOf i).toNat)
    case atStart => exact ⟨0, Nat.zero_le _, rfl, World.ownsRow_nil _ _ _ _, Below.refl _ _⟩
    case round =>
      obtain ⟨k, hk, rfl, HI⟩ := hrel
      by_cases hlt : k < m.up.length
      · have HS := show Hid (numsTo (abP M ka) (k + 1) = numsTo (abP M ka) k ++ if M ka k then [k] else []) from HST.out k
        have hle := HLN.out k
        have hki : (k : Int) < (m.up.length : Int) := by omega
        have c1 := (HQ.out wr HI.out.2).1
        have c2 := (HQ.out wr HI.out.2).2 k hlt
        clear HST HLN
        generalize numsTo (abP M ka) k = l at *
        obtain ⟨pv, cv, rfl⟩ := HI.out.1.slice
        cases hy : M ka k
        · rw [hy] at c2
          have HS2 := show Hid (numsTo (abP M ka) (k + 1) = l) from by
            show numsTo (abP M ka) (k + 1) = l
            have h := HS.out
            rw [hy] at h
            simpa using h
          clear HS hy
          go_wp2_with fail
          go_roundw
          case rel => exact ⟨k + 1, by omega, val_int (by omega), by rw [HS2.out]; exact HI.out.1, HI.out.2⟩
          case measure => (simp only [intOf]; omega)
        · rw [hy] at c2
          have HS2 := show Hid (numsTo (abP M ka) (k + 1) = l ++ [k]) from by
            show numsTo (abP M ka) (k + 1) = l ++ [k]
            have h := HS.out
            rw [hy] at h
            simpa using h
          clear HS hy
          go_wp2_with (at_builtin; refine wpList_append_own _ rfl (.tmp 32) (.tmp 34) 27 rfl w2.heap.size 3 i0 (.int .i64 0) 1 8 Tryz.underlying27 hi hz0 hz1 hz2 rfl (by decide) _ l.length (intsV l) rfl (HI.out.1.later (below_alloc wr _)) ⟨wr.heap.size, 0, none⟩ 1 1 [.int .i64 (k : Int)] rfl rfl (cell_one_new _ _ _) (by simp [Value.oneCell']) (by unfold maxLen; omega) (by omega) (by have := HI.out.2.size; simp; omega) ?_)
          intro v' w3 ho3 hg3 _
          have HQ3 := show Hid (OwnI w2.heap.size w3 v' (l ++ [k]) ∧ Below w2.heap.size w2 w3) from by
            have := HI.out.1.grow ho3 hg3 HI.out.2.size
            exact ⟨this.1, HI.out.2.trans this.2⟩
          clear ho3 hg3 HI c1 c2
          go_wp2_with fail
          go_roundw
          case rel => exact ⟨k + 1, by omega, val_int (by omega), by rw [HS2.out]; exact HQ3.out.1, HQ3.out.2⟩
          case measure => (simp only [intOf]; omega)
      · obtain rfl : k = m.up.length := by omega
        go_wp2_with fail
        go_ret2
        exact ⟨_, 0, rfl, Or.inr (Or.inr ⟨HG.out.1, HG.out.2.1, by rw [HTO.out]; exact OwnI.base HI.out.1 HB2.out.size, rfl⟩), HB2.out.trans (HI.out.2.mono HB2.out.size)⟩
  · have HG := show Hid _ from hg
    clear hg
    go_wp2_with fail
    go_ret2
    exact ⟨_, 170, rfl, Or.inl ⟨HG.out, rfl, rfl⟩, HB2.out⟩
  · have HG := show Hid (Wd.Good m ∧ inW m.up.length a = false) from ⟨hg, hi1⟩
    clear hg hi1
    go_wp2_with fail
    go_ret2
    exact ⟨_, 2, rfl, Or.inr (Or.inl ⟨HG.out.1, HG.out.2, rfl, rfl⟩), HB2.out⟩
end Go.Proofs.YtjbnbaiidpdpoaaGreatDoor.Wm
/-
  The document's Root: of any model. No condition.
-/
namespace Go.Proofs.YtjbnbaiidpdpoaaGreatDoor.Wm
open Go.RowKit Go.Maps
open Wd (Md allW inW names Sub Rc vl)
set_option linter.unusedSimpArgs false

theorem allTo_step (p : Nat → Bool) (k : Nat) : (List.range (k + 1)).all p = ((List.range k).all p && p k) := by
  rw [List.range_succ, List.all_append]
  simp
set_option maxRecDepth 100000 in
set_option maxHeartbeats 4000000 in
theorem rroot_any (w : World) {M : Nat → Nat → Bool} {L : Nat} {uv vv : Value} {m : Md} (hO : IsO m.up M) (hm : IsM w L uv vv m) (hf : Fit m) (hL : L ≤ w.heap.size) :
    Calls Tryz.prog 14 #[.agg #[uv, vv]] w fun e w' => ∃ (r : Int) (ok : Bool), e = .returned (.tuple #[.int .i64 r, .bool ok]) ∧ RootR M m r ok ∧ Below w.heap.size w w' := by
  have K := show Hid (∀ W, Below w.heap.size w W → Calls Tryz.prog 27 #[.agg #[uv, vv]] W fun e w' => ((∃ O Ra, e = .returned (.tuple #[.slice (some ⟨O, 0, none⟩) m.up.length m.up.length, .bool true]) ∧ Ob w' W.heap.size O m.up.length m.up.length Ra M ∧ Wd.Good m) ∨ (e = .returned (.tuple #[.slice none 0 0, .bool false]) ∧ ¬ Wd.Good m)) ∧ Below W.heap.size W w') from fun W hW => right_any W hO (hm.below (hW.mono hL)) hf (Nat.le_trans hL hW.size)
  clear hm hf hO
  go_enter Tryz.func14, Tryz.ntmps14
  go_wp2_with (refine wpList_box 25 _ rfl _ rfl rfl ?_)
  intro w1 b1 hN
  have HB1 := show Hid (Below w.heap.size w w1 ∧ Cl w1 b1 #[uv, vv] 25) from ⟨hN.bel, hN.blk⟩
  have K1 := show Hid _ from K.out w1 hN.bel
  clear hN K
  go_wp2_with (refine wpList_ldw 25 _ rfl b1 rfl _ _ HB1.out.2 rfl Tryz.underlying25 sizeM rfl ?_)
  go_wp2_with fail
  refine Calls.mono K1.out ?_
  rintro e w2 ⟨hr, hb2⟩
  have HB2 := show Hid (Below w.heap.size w w2) from HB1.out.1.trans (hb2.mono HB1.out.1.size)
  clear K1 hb2
  rcases hr with ⟨O, Ra, rfl, hob, hg⟩ | ⟨rfl, hg⟩
  · have HG := show Hid (Wd.Good m ∧ Ob w2 w1.heap.size O m.up.length m.up.length Ra M) from ⟨hg, hob⟩
    have hn := (Wd.shaped_and hg.shape).2.1
    have HQ := show Hid (∀ a, a < m.up.length → w2.cell? ⟨O, a, none⟩ = some (.slice (some ⟨Ra a, 0, none⟩) m.up.length m.up.length) ∧ ∀ b, b < m.up.length → w2.cell? ⟨Ra a, b, none⟩ = some (.bool (M a b))) from fun a ha =>
      ⟨(HG.out.2.out.cell ha).trans (by rw [if_pos ha]), fun b hb => (HG.out.2.row a ha).1.cell hb⟩
    clear hg hob HB1
    go_wp2_with fail
    go_loop [6, 7, 8] (fun i _ _ => ∃ k : Nat, k ≤ m.up.length ∧ i = .int .i64 (k : Int) ∧ Hid (∀ a, a < k → (List.range m.up.length).all (M a) = false)) (fun i _ _ => m.up.length - (intOf i).toNat)
    case atStart => exact ⟨0, Nat.zero_le _, rfl, fun a h => absurd h (Nat.not_lt_zero _)⟩
    case round =>
      obtain ⟨aw, haw, rfl, HI⟩ := hrel
      by_cases hla : aw < m.up.length
      · have hai : (aw : Int) < (m.up.length : Int) := by omega
        have HS := show Hid ((List.range m.up.length).all (M aw) = false → ∀ a, a < aw + 1 → (List.range m.up.length).all (M a) = false) from fun h a ha => by
          by_cases e : a = aw
          · rw [e]; exact h
          · exact HI.out a (by omega)
        have HYES := show Hid ((List.range m.up.length).all (M aw) = true → RootR M m (aw : Int) true) from fun h => Or.inr (Or.inr ⟨aw, HG.out.1, hla, rfl, rfl, h, HI.out⟩)
        clear HI
        have c1 := (HQ.out aw hla).1
        go_wp2_with fail
        go_loop [7, 8] (fun v i => ∃ k : Nat, k ≤ m.up.length ∧ i = .int .i64 (k : Int) ∧ v = .bool ((List.range k).all (M aw))) (fun _ i => m.up.length - (intOf i).toNat)
        case atStart => exact ⟨0, Nat.zero_le _, rfl, rfl⟩
        case round =>
          obtain ⟨b, hb, rfl, rfl⟩ := hrel
          by_cases hlb : b < m.up.length
          · have hbi : (b : Int) < (m.up.length : Int) := by omega
            have c2 := (HQ.out aw hla).2 b hlb
            have HST := show Hid ((List.range (b + 1)).all (M aw) = ((List.range b).all (M aw) && M aw b)) from allTo_step _ _
            generalize (List.range b).all (M aw) = y at *
            generalize M aw b = z at *
            cases y
            · go_wp2_with fail
              go_round
              case rel => exact ⟨b + 1, by omega, val_int (by omega), by rw [HST.out]; rfl⟩
              case measure => (simp only [intOf]; omega)
            · go_wp2_with fail
              go_round
              case rel => exact ⟨b + 1, by omega, val_int (by omega), by rw [HST.out]; rfl⟩
              case measure => (simp only [intOf]; omega)
          · obtain rfl : b = m.up.length := by omega
            generalize (List.range m.up.length).all (M aw) = y at *
            cases y
            · have HS2 := show Hid _ from HS.out (by first | rfl | trivial)
              clear HS HYES
              go_wp2_with fail
              go_round
              case rel => exact ⟨aw + 1, by omega, val_int (by omega), HS2⟩
              case measure => (simp only [intOf]; omega)
            · have HY2 := show Hid (RootR M m (aw : Int) true) from HYES.out (by first | rfl | trivial)
              clear HS HYES
              go_wp2_with fail
              go_ret2
              exact ⟨(aw : Int), Or.inr ⟨rfl, HY2.out, HB2.out⟩⟩
      · obtain rfl : aw = m.up.length := by omega
        go_wp2_with fail
        go_ret2
        exact ⟨0, Or.inl ⟨rfl, Or.inr (Or.inl ⟨HG.out.1, rfl, rfl, HI.out⟩), HB2.out⟩⟩
  · have HG := show Hid _ from hg
    clear hg
    go_wp2_with fail
    go_ret2
    exact ⟨0, false, rfl, Or.inl ⟨HG.out, rfl, rfl⟩, HB2.out⟩
end Go.Proofs.YtjbnbaiidpdpoaaGreatDoor.Wm
