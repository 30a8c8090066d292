/-
  The document's put: a name into names that rise. For every row of the caller's own, of at most 1024 names. No other condition.
-/
import Derived.Test.YthdcppkohalkmaaGreatRName
namespace Go.Proofs.YthdcppkohalkmaaGreat
open Go.RowKit Go.Maps
open Fm (Nd)

def rise (l : List (List UInt8)) : List (List UInt8) := l.mergeSort fun x y => decide (x ≤ y)
theorem rise_perm (l : List (List UInt8)) : (rise l).Perm l := List.mergeSort_perm _ _
theorem rise_len (l : List (List UInt8)) : (rise l).length = l.length := (rise_perm l).length_eq
theorem rise_asc (l : List (List UInt8)) : (rise l).Pairwise (· ≤ ·) := by
  have h := List.pairwise_mergeSort (le := fun x y : List UInt8 => decide (x ≤ y)) (fun a b c h1 h2 => by simp only [decide_eq_true_eq] at *; exact List.le_trans h1 h2) (fun a b => by simp only [Bool.or_eq_true, decide_eq_true_eq]; exact List.le_total a b) l
  exact h.imp (fun h => by simpa using h)
theorem asc_unique {a b : List (List UInt8)} (ha : a.Pairwise (· ≤ ·)) (hb : b.Pairwise (· ≤ ·)) (h : a.Perm b) : a = b :=
  List.Perm.eq_of_pairwise (fun _ _ _ _ h1 h2 => List.le_antisymm h1 h2) ha hb h
theorem rise_snoc (l : List (List UInt8)) (x : List UInt8) : rise (rise l ++ [x]) = rise (l ++ [x]) :=
  asc_unique (rise_asc _) (rise_asc _) ((rise_perm _).trans (((rise_perm l).append_right [x]).trans (rise_perm _).symm))
/-- Where a name comes into names that rise. -/
theorem rise_at (x : List UInt8) (L : List (List UInt8)) (m : Nat) (hL : L.Pairwise (· ≤ ·)) (h1 : ∀ v ∈ L.drop m, x < v) (h2 : ∀ v ∈ L.take m, v ≤ x) : rise (L ++ [x]) = L.take m ++ x :: L.drop m := by
  refine asc_unique (rise_asc _) ?_ ((rise_perm _).trans ?_)
  · rw [List.pairwise_append]
    have hs := hL
    rw [← List.take_append_drop m L, List.pairwise_append] at hs
    refine ⟨hs.1, List.pairwise_cons.2 ⟨fun v hv => List.le_of_lt (h1 v hv), hs.2.1⟩, fun a ha b hb => ?_⟩
    rcases List.mem_cons.1 hb with e | e
    · rw [e]; exact h2 a ha
    · exact hs.2.2 a ha b e
  · have h := (List.perm_middle (a := x) (l₁ := L.take m) (l₂ := L.drop m)).symm
    rw [List.take_append_drop] at h
    exact (List.perm_append_comm (l₁ := L) (l₂ := [x])).trans h
theorem asc_take {L : List (List UInt8)} (h : L.Pairwise (· ≤ ·)) {m : Nat} (hm : m < L.length) {x : List UInt8} (hx : L[m] ≤ x) : ∀ v ∈ L.take (m + 1), v ≤ x := by
  intro v hv
  obtain ⟨j, hj, e⟩ := List.mem_iff_getElem.1 hv
  rw [List.length_take] at hj
  rw [List.getElem_take] at e
  by_cases e2 : j = m
  · subst e2; rw [← e]; exact hx
  · rw [← e]
    exact List.le_trans (List.pairwise_iff_getElem.1 h j m (by omega) hm (by omega)) hx
theorem gtr_names (a b : List UInt8) : (b < a → Op.bytesLess a b = false ∧ (a == b) = false) ∧ (¬ b < a → Op.bytesLess a b = true ∨ a = b) := by
  rw [bytesLess_eq]
  refine ⟨fun h => ⟨?_, ?_⟩, fun h => ?_⟩
  · exact decide_eq_false fun h2 => absurd (List.lt_trans h h2) (List.lt_irrefl _)
  · exact beq_eq_false_iff_ne.2 fun e => by subst e; exact List.lt_irrefl _ h
  · by_cases h1 : a < b
    · exact Or.inl (decide_eq_true h1)
    · exact Or.inr (List.le_antisymm h h1)
section
variable {W W' : World} {B n g cap : Nat} {xs : List (List UInt8)}
theorem ownN_cell (h : W.ownsRow B 9 1 (.slice (some ⟨g, 0, none⟩) n cap) n (xs.map encStr)) {j : Nat} (hj : j < n) (hx : j < xs.length) : W.cell? ⟨g, j, none⟩ = some (encStr xs[j]) := by
  rcases h.2 with ⟨hn, _⟩ | ⟨g2, cap2, cur, hn, hg, hh, h1, h2, h3, h4⟩
  · cases hn
  · obtain ⟨e1, -, -⟩ := Value.slice.inj hn
    cases e1
    rw [cell_of_row W g j cur _ _ hh, ← Array.getElem?_toList]
    have e : (cur.toList.take (n * 1))[j]? = (xs.map encStr)[j]? := by rw [h4]
    rw [List.getElem?_take, if_pos (by omega)] at e
    rw [e]
    simp [hx]
theorem ownN_fr (h : W.ownsRow B 9 1 (.slice (some ⟨g, 0, none⟩) n cap) n (xs.map encStr)) (j : Nat) : W.frozen? ⟨g, j, none⟩ = false := by
  rcases h.2 with ⟨hn, _⟩ | ⟨g2, cap2, cur, hn, hg, hh, _⟩
  · cases hn
  · obtain ⟨e1, -, -⟩ := Value.slice.inj hn
    cases e1
    exact frozen_of_row W g j _ _ hh
theorem ownN_set (h : W.ownsRow B 9 1 (.slice (some ⟨g, 0, none⟩) n cap) n (xs.map encStr)) (j : Nat) (y : List UInt8) : (W.setCell ⟨g, j, none⟩ (encStr y)).ownsRow B 9 1 (.slice (some ⟨g, 0, none⟩) n cap) n ((xs.set j y).map encStr) := by
  rcases h with ⟨hl, ⟨hn, _⟩ | ⟨g2, cap2, cur, hn, hg, hh, h1, h2, h3, h4⟩⟩
  · cases hn
  · obtain ⟨e1, -, e3⟩ := Value.slice.inj hn
    cases e1
    subst e3
    refine ⟨by simpa using hl, Or.inr ⟨g, cap, cur.setIfInBounds j (encStr y), rfl, hg, heap_setCell_same W g j _ _ _ hh, h1, h2, by simpa using h3, ?_⟩⟩
    rw [Array.toList_setIfInBounds, List.take_set, h4, List.map_set]
theorem ownN_ge (h : W.ownsRow B 9 1 (.slice (some ⟨g, 0, none⟩) n cap) n (xs.map encStr)) : B ≤ g ∧ g < W.heap.size := by
  rcases h.2 with ⟨hn, _⟩ | ⟨g2, cap2, cur, hn, hg, hh, _⟩
  · cases hn
  · obtain ⟨e1, -, -⟩ := Value.slice.inj hn
    cases e1
    exact ⟨hg, lt_of_block hh⟩
theorem grownBy_set (W : World) (b j : Nat) (v : Value) : W.grownBy (W.setCell ⟨b, j, none⟩ v) (some b) :=
  ⟨rfl, rfl, rfl, by simp, fun k _ hne => Below.heap_setCell W ⟨b, j, none⟩ v k (fun e => hne (by rw [e]))⟩
end
/-- What a put leaves: the row with the name in its place, in a block that was the row's or is new; all else is as it was. -/
def Put (w : World) (B : Nat) (v : Value) (R : List (List UInt8)) (e : Ending) (w' : World) : Prop :=
  ∃ g c, e = .returned (.slice (some ⟨g, 0, none⟩) R.length c) ∧ w'.ownsRow B 9 1 (.slice (some ⟨g, 0, none⟩) R.length c) R.length (R.map encStr) ∧ w.grownBy w' v.ownBlock ∧ (w.heap.size ≤ g ∨ v.ownBlock = some g)
set_option maxRecDepth 100000 in
set_option maxHeartbeats 1200000 in
theorem nput_any (w : World) (B : Nat) (hB : B ≤ w.heap.size) (v : Value) (L : List (List UInt8)) (x : List UInt8) (hO : w.ownsRow B 9 1 v L.length (L.map encStr)) (hA : L.Pairwise (· ≤ ·)) (hl : L.length ≤ 1024) :
    Calls Tryz.prog 46 #[v, encStr x] w (Put w B v (rise (L ++ [x]))) := by
  obtain ⟨i0, hi', hz0, hz1, hz2⟩ := info_parts info_str
  have HAT := show Hid (∀ m, (∀ v ∈ L.drop m, x < v) → (∀ v ∈ L.take m, v ≤ x) → rise (L ++ [x]) = L.take m ++ x :: L.drop m) from fun m => rise_at x L m hA
  have HTK := show Hid (∀ m (hm : m < L.length), L[m] ≤ x → ∀ v ∈ L.take (m + 1), v ≤ x) from fun m hm => asc_take hA hm
  have hRl : (rise (L ++ [x])).length = L.length + 1 := by rw [rise_len]; simp
  have HOW := show Hid (w.ownsRow B 9 1 v L.length (L.map encStr)) from hO
  obtain ⟨pl, cl, hle⟩ := own_slice hO
  subst hle
  unfold Put
  rw [hRl]
  generalize rise (L ++ [x]) = R at *
  have HGL := show Hid (∀ a b : List UInt8, (b < a → Op.bytesLess a b = false ∧ (a == b) = false) ∧ (¬ b < a → Op.bytesLess a b = true ∨ a = b)) from gtr_names
  clear hO hA
  go_enter Tryz.func46, Tryz.ntmps46
  go_wp2_with (at_builtin; refine wpList_append_own_at _ rfl (.tmp 8) (.tmp 10) 37 rfl B 9 i0 _ 1 16 Tryz.underlying37 hi' hz0 hz1 hz2 rfl (by decide) (.slice pl L.length cl) L.length (L.map encStr) rfl (HOW.out.alloc _) ⟨w.heap.size, 0, none⟩ 1 1 [encStr x] rfl rfl (cell_one_new _ _ _) (by intro u hu; simp at hu; subst hu; rfl) (by unfold maxLen; omega) (by omega) (by simp; omega) ?_)
  intro v2 w2 hown hgr hnil hat
  obtain ⟨g, cap, rfl⟩ : ∃ g cap, v2 = .slice (some ⟨g, 0, none⟩) (L.length + 1) cap := by
    rcases hown.2 with ⟨_, hn⟩ | ⟨g, cap, cur, e1, _⟩
    · omega
    · exact ⟨g, cap, e1⟩
  have HG := show Hid (w.heap.size ≤ g ∨ (Value.slice pl L.length cl).ownBlock = some g) from by
    rcases hat with h | h
    · exact Or.inr h.symm
    · left
      have := Option.some.inj h
      simp at this
      omega
  have HI0 := show Hid (w2.ownsRow B 9 1 (.slice (some ⟨g, 0, none⟩) (L.length + 1) cap) (L.length + 1) ((L.take L.length ++ x :: L.drop L.length).map encStr) ∧ w.grownBy w2 (Value.slice pl L.length cl).ownBlock ∧ ∀ v ∈ L.drop L.length, x < v) from by
    refine ⟨?_, (World.grownBy_alloc w _ _).trans hgr, fun v hv => ?_⟩
    · rw [List.take_length, List.drop_length, List.map_append]
      exact hown
    · rw [List.drop_length] at hv; cases hv
  clear hown hgr hnil hat HOW
  go_wp2_with fail
  go_loopw [5] (fun av wr => ∃ (m : Nat) (y : List UInt8), m ≤ L.length ∧ av = .int .i64 (m : Int) ∧ Hid (wr.ownsRow B 9 1 (.slice (some ⟨g, 0, none⟩) (L.length + 1) cap) (L.length + 1) ((L.take m ++ y :: L.drop m).map encStr) ∧ w.grownBy wr (Value.slice pl L.length cl).ownBlock ∧ ∀ v ∈ L.drop m, x < v)) (fun av _ => (intOf av).toNat)
  case atStart => exact ⟨L.length, x, Nat.le_refl _, rfl, HI0.out⟩
  case round =>
    obtain ⟨m, y, hm, rfl, HI2⟩ := hrel
    clear HI0
    have hmi : (m : Int) < ((L.length + 1 : Nat) : Int) := by omega
    have hmi2 : (m : Int) < (L.length : Int) + 1 := by omega
    have HRL := show Hid ((L.take m ++ y :: L.drop m).length = L.length + 1) from (by simp; omega : (L.take m ++ y :: L.drop m).length = L.length + 1)
    by_cases hm0 : m = 0
    · subst hm0
      have HTA := show Hid (∀ v ∈ L.take 0, v ≤ x) from fun v hv => by simp at hv
      obtain ⟨z0, b0⟩ : ∃ z, wr.cell? ⟨g, 0, none⟩ = some (Value.string z) := ⟨_, ownN_cell HI2.out.1 (j := 0) (by omega) (by rw [HRL.out]; omega)⟩
      have bf := ownN_fr HI2.out.1
      have HN := show Hid ((wr.setCell ⟨g, 0, none⟩ (encStr x)).ownsRow B 9 1 (.slice (some ⟨g, 0, none⟩) (L.length + 1) cap) (L.length + 1) (R.map encStr) ∧ w.grownBy (wr.setCell ⟨g, 0, none⟩ (encStr x)) (Value.slice pl L.length cl).ownBlock) from by
        have h := ownN_set HI2.out.1 0 x
        rw [show (L.take 0 ++ y :: L.drop 0).set 0 x = L.take 0 ++ x :: L.drop 0 from by rfl, ← HAT.out 0 HI2.out.2.2 HTA.out] at h
        exact ⟨h, HI2.out.2.1.andThen (grownBy_set wr g 0 _) (fun j e => by cases e; exact HG.out)⟩
      clear HI2 HTA HRL HAT HTK
      go_wp2_with fail
      go_ret
      exact ⟨g, cap, rfl, HN.out.1, HN.out.2, HG.out⟩
    · obtain ⟨m2, rfl⟩ : ∃ m2, m = m2 + 1 := ⟨m - 1, by omega⟩
      have hz : 0 < ((m2 + 1 : Nat) : Int) := by omega
      have hm2 : m2 < L.length := by omega
      have e0 : wr.cell? ⟨g, m2, none⟩ = some (encStr L[m2]) := by
        have h := ownN_cell HI2.out.1 (j := m2) (by omega) (by rw [HRL.out]; omega)
        rw [List.getElem_append_left (by rw [List.length_take]; omega), List.getElem_take] at h
        exact h
      have e1 : ((m2 + 1 : Nat) : Int) - 1 = (m2 : Int) := by omega
      have hm2i : (m2 : Int) < ((L.length + 1 : Nat) : Int) := by omega
      obtain ⟨z0, b0⟩ : ∃ z, wr.cell? ⟨g, m2 + 1, none⟩ = some (Value.string z) := ⟨_, ownN_cell HI2.out.1 (j := m2 + 1) (by omega) (by rw [HRL.out]; omega)⟩
      have bf := ownN_fr HI2.out.1
      by_cases hlx : x < L[m2]
      · have HN := show Hid ((wr.setCell ⟨g, m2 + 1, none⟩ (encStr L[m2])).ownsRow B 9 1 (.slice (some ⟨g, 0, none⟩) (L.length + 1) cap) (L.length + 1) ((L.take m2 ++ L[m2] :: L.drop m2).map encStr) ∧ w.grownBy (wr.setCell ⟨g, m2 + 1, none⟩ (encStr L[m2])) (Value.slice pl L.length cl).ownBlock ∧ ∀ v ∈ L.drop m2, x < v) from by
          have h := ownN_set HI2.out.1 (m2 + 1) L[m2]
          rw [show (L.take (m2 + 1) ++ y :: L.drop (m2 + 1)).set (m2 + 1) L[m2] = L.take m2 ++ L[m2] :: L.drop m2 from by
            rw [List.set_append_right _ _ (by rw [List.length_take]; omega), show m2 + 1 - (L.take (m2 + 1)).length = 0 from by rw [List.length_take]; omega]
            show L.take (m2 + 1) ++ L[m2] :: L.drop (m2 + 1) = _
            rw [List.take_succ_eq_append_getElem hm2, List.append_assoc, List.drop_eq_getElem_cons hm2]
            rfl] at h
          refine ⟨h, HI2.out.2.1.andThen (grownBy_set wr g _ _) (fun j e => by cases e; exact HG.out), fun v hv => ?_⟩
          rw [List.drop_eq_getElem_cons hm2] at hv
          rcases List.mem_cons.1 hv with e | e
          · rw [e]; exact hlx
          · exact HI2.out.2.2 v e
        clear HI2 HRL HAT HTK
        obtain ⟨z, hze⟩ : ∃ z, z = L[m2] := ⟨_, rfl⟩
        rw [← hze] at e0 hlx HN
        clear hze
        obtain ⟨hg1, hg2⟩ := (HGL.out z x).1 hlx
        clear HGL
        go_wp2_with fail
        go_roundw
        case rel => exact ⟨m2, z, by omega, by go_num, HN⟩
        case measure => first | (simp [intOf]; done) | (simp [intOf]; omega)
      · have HTA := show Hid (∀ v ∈ L.take (m2 + 1), v ≤ x) from HTK.out m2 hm2 hlx
        have HN := show Hid ((wr.setCell ⟨g, m2 + 1, none⟩ (encStr x)).ownsRow B 9 1 (.slice (some ⟨g, 0, none⟩) (L.length + 1) cap) (L.length + 1) (R.map encStr) ∧ w.grownBy (wr.setCell ⟨g, m2 + 1, none⟩ (encStr x)) (Value.slice pl L.length cl).ownBlock) from by
          have h := ownN_set HI2.out.1 (m2 + 1) x
          rw [show (L.take (m2 + 1) ++ y :: L.drop (m2 + 1)).set (m2 + 1) x = L.take (m2 + 1) ++ x :: L.drop (m2 + 1) from by rw [List.set_append_right _ _ (by rw [List.length_take]; omega), show m2 + 1 - (L.take (m2 + 1)).length = 0 from by rw [List.length_take]; omega]; rfl, ← HAT.out (m2 + 1) HI2.out.2.2 HTA.out] at h
          exact ⟨h, HI2.out.2.1.andThen (grownBy_set wr g _ _) (fun j e => by cases e; exact HG.out)⟩
        obtain ⟨z, hze⟩ : ∃ z, z = L[m2] := ⟨_, rfl⟩
        rw [← hze] at e0 hlx
        clear hze
        have hor := (HGL.out z x).2 hlx
        clear HGL HI2 HTA HRL HAT HTK
        rcases hor with hg1 | hg1
        · go_wp2_with fail
          go_ret
          exact ⟨g, cap, rfl, HN.out.1, HN.out.2, HG.out⟩
        · subst hg1
          go_wp2_with fail
          go_ret
          exact ⟨g, cap, rfl, HN.out.1, HN.out.2, HG.out⟩
end Go.Proofs.YthdcppkohalkmaaGreat
