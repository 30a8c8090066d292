/-
  shaped: of any model. No condition.
-/
import Derived.Test.YtjbnbaiidpdpoaaDoorWRow
namespace Go.Proofs.YtjbnbaiidpdpoaaDoor.Wm
open Go.RowKit Go.Maps
open Wd (Md inW allW names past Sub lt)
set_option linter.unusedSimpArgs false

theorem sizeM : (Tryd.prog.info? 25).map (·.size) = some 2 := by kernel_rfl
theorem IsU.row {w : World} {L : Nat} {v : Value} {u : List (List Int)} (h : IsU w L v u) : ∃ p c, v = .slice p u.length c ∧ ∀ (j : Nat) (hj : j < u.length), ∃ b o q n, p = some ⟨b, o, none⟩ ∧ b < L ∧ w.cell? ⟨b, o + j, none⟩ = some (.slice q u[j].length n) ∧ IsI w L (.slice q u[j].length n) u[j] := by
  obtain ⟨p, c, hv, h⟩ := h
  refine ⟨p, c, hv, fun j hj => ?_⟩
  obtain ⟨b, o, hb, hp, h⟩ := h (by omega)
  obtain ⟨x, hx, hi⟩ := h j hj
  obtain ⟨q, n, rfl⟩ := IsS.form hi
  exact ⟨b, o, q, n, hp, hb, hx, hi⟩
theorem IsV.row {w : World} {L : Nat} {v : Value} {u : List (List ByteArray)} (h : IsV w L v u) : ∃ p c, v = .slice p u.length c ∧ ∀ (j : Nat) (hj : j < u.length), ∃ b o q n, p = some ⟨b, o, none⟩ ∧ b < L ∧ w.cell? ⟨b, o + j, none⟩ = some (.slice q u[j].length n) ∧ IsN w L (.slice q u[j].length n) u[j] := by
  obtain ⟨p, c, hv, h⟩ := h
  refine ⟨p, c, hv, fun j hj => ?_⟩
  obtain ⟨b, o, hb, hp, h⟩ := h (by omega)
  obtain ⟨x, hx, hi⟩ := h j hj
  obtain ⟨q, n, rfl⟩ := IsS.form hi
  exact ⟨b, o, q, n, hp, hb, hx, hi⟩
theorem shaped_few {m : Md} (h : m.up.length < 1 ∨ 512 < m.up.length ∨ m.val.length ≠ m.up.length) : Wd.shaped m = false := by
  unfold Wd.shaped
  rcases h with h | h | h
  · rw [decide_eq_false (show ¬ 1 ≤ m.up.length by omega)]; rfl
  · rw [decide_eq_false (show ¬ m.up.length ≤ 512 by omega)]; simp
  · rw [decide_eq_false (p := m.val.length = m.up.length) h]; simp
theorem shaped_row {m : Md} {k : Nat} (hk : k < m.up.length) (hv : k < m.val.length) (h : allW m.up.length m.up[k] = false ∨ names none m.val[k] = false) : Wd.shaped m = false := by
  unfold Wd.shaped
  rcases h with h | h
  · rw [show m.up.all (allW m.up.length) = false from List.all_eq_false.2 ⟨_, List.getElem_mem hk, by rw [h]; simp⟩]; simp
  · rw [show m.val.all (names none) = false from List.all_eq_false.2 ⟨_, List.getElem_mem hv, by rw [h]; simp⟩]; simp
theorem shaped_all {m : Md} (h1 : 1 ≤ m.up.length) (h2 : m.up.length ≤ 512) (h3 : m.val.length = m.up.length) (h : ∀ (k : Nat) (hk : k < m.up.length), allW m.up.length m.up[k] = true ∧ names none (m.val.getD k []) = true) : Wd.shaped m = true := by
  unfold Wd.shaped
  rw [decide_eq_true h1, decide_eq_true h2, decide_eq_true h3, show m.up.all (allW m.up.length) = true from List.all_eq_true.2 fun r hr => by
    obtain ⟨k, hk, rfl⟩ := List.mem_iff_getElem.1 hr
    exact (h k hk).1, show m.val.all (names none) = true from List.all_eq_true.2 fun r hr => by
    obtain ⟨k, hk, rfl⟩ := List.mem_iff_getElem.1 hr
    have := (h k (by omega)).2
    rwa [List.getD_eq_getElem?_getD, List.getElem?_eq_getElem hk] at this]
  rfl
set_option maxRecDepth 100000 in
set_option maxHeartbeats 4000000 in
theorem shaped_any (w : World) {L : Nat} {uv vv : Value} {m : Md} (hm : IsM w L uv vv m) (hf : Fit m) (hL : L ≤ w.heap.size) :
    Calls Tryd.prog 44 #[.agg #[uv, vv]] w fun e w' => e = .returned (.bool (Wd.shaped m)) ∧ Below w.heap.size w w' := by
  obtain ⟨pu, cu, rfl, hu⟩ := hm.up.row
  obtain ⟨pv, cv, rfl, hv⟩ := hm.val.row
  have HU := show Hid (∀ (j : Nat) (hj : j < m.up.length), ∃ b o q n, pu = some ⟨b, o, none⟩ ∧ b < L ∧ w.cell? ⟨b, o + j, none⟩ = some (.slice q m.up[j].length n) ∧ IsI w L (.slice q m.up[j].length n) m.up[j]) from hu
  have HV := show Hid (∀ (j : Nat) (hj : j < m.val.length), ∃ b o q n, pv = some ⟨b, o, none⟩ ∧ b < L ∧ w.cell? ⟨b, o + j, none⟩ = some (.slice q m.val[j].length n) ∧ IsN w L (.slice q m.val[j].length n) m.val[j]) from hv
  have HFU := show Hid (∀ (j : Nat) (hj : j < m.up.length), m.up[j].length ≤ 140737488351232 ∧ ∀ i ∈ m.up[j], -9223372036854775808 ≤ i ∧ i ≤ 9223372036854775807) from fun j hj => hf.2.2.1 _ (List.getElem_mem hj)
  have HFV := show Hid (∀ (j : Nat) (hj : j < m.val.length), m.val[j].length ≤ 140737488351232 ∧ ∀ i ∈ m.val[j], i.size ≤ 140737488351232) from fun j hj => hf.2.2.2 _ (List.getElem_mem hj)
  have hn1 := hf.1
  have hn2 := hf.2.1
  have HA := show Hid (1 ≤ m.up.length → m.up.length ≤ 512 → m.val.length = m.up.length → (∀ (k : Nat) (hk : k < m.up.length), allW m.up.length m.up[k] = true ∧ names none (m.val.getD k []) = true) → Wd.shaped m = true) from shaped_all
  have HF := show Hid ((m.up.length < 1 ∨ 512 < m.up.length ∨ m.val.length ≠ m.up.length) → Wd.shaped m = false) from shaped_few
  have HR := show Hid (∀ (k : Nat) (hk : k < m.up.length) (hv : k < m.val.length), (allW m.up.length m.up[k] = false ∨ names none m.val[k] = false) → Wd.shaped m = false) from fun k hk hv h => shaped_row hk hv h
  generalize Wd.shaped m = ans at *
  clear hm hf hu hv
  obtain ⟨up, val⟩ := m
  simp only at *
  go_enter Tryd.func44, Tryd.ntmps44
  go_wp2_with (refine wpList_box 25 _ rfl _ rfl rfl ?_)
  intro w1 b1 hN
  have hc0 : w1.cell? ⟨b1, 0, none⟩ = some (.slice pu up.length cu) := Cl.cell (T := 25) hN.blk 0
  have hc1 : w1.cell? ⟨b1, 1, none⟩ = some (.slice pv val.length cv) := Cl.cell (T := 25) hN.blk 1
  have HB := show Hid (Below w.heap.size w w1 ∧ Cl w1 b1 #[.slice pu up.length cu, .slice pv val.length cv] 25) from ⟨hN.bel, hN.blk⟩
  clear hN
  by_cases h1 : up.length < 1
  · have h1i : decide ((up.length : Int) < 1) = true := by simp; omega
    have HE := show Hid (ans = false) from HF.out (Or.inl h1)
    go_wp2_with fail
    go_ret
    exact ⟨ret_bool HE.out.symm, HB.out.1⟩
  have h1i : decide ((up.length : Int) < 1) = false := by simp; omega
  by_cases h2 : 512 < up.length
  · have h2i : decide (512 < (up.length : Int)) = true := by simp; omega
    have HE := show Hid (ans = false) from HF.out (Or.inr (Or.inl h2))
    go_wp2_with fail
    go_ret
    exact ⟨ret_bool HE.out.symm, HB.out.1⟩
  have h2i : decide (512 < (up.length : Int)) = false := by simp; omega
  by_cases h3 : val.length = up.length
  · have h3i : ((val.length : Int) != (up.length : Int)) = false := by simp [h3]
    have HA2 := show Hid _ from HA.out (by omega) (by omega) h3
    have HLV := show Hid (val.length = up.length) from h3
    clear HF HA h3
    go_wp2_with fail
    go_loopw [4, 22] (fun _ i wr => ∃ k : Nat, k ≤ up.length ∧ i = .int .i64 (k : Int) ∧ Hid (Below w1.heap.size w1 wr ∧ ∀ (j : Nat) (hj : j < up.length), j < k → allW up.length up[j] = true ∧ names none (val.getD j []) = true)) (fun _ i _ => up.length - (intOf i).toNat)
    case atStart => exact ⟨0, Nat.zero_le _, rfl, Below.refl _ _, fun j _ h => absurd h (Nat.not_lt_zero _)⟩
    case round =>
      obtain ⟨k, hk, rfl, HI⟩ := hrel
      by_cases hlt : k < up.length
      · have hltv : k < val.length := by have := HLV.out; omega
        obtain ⟨bu, ou, qu, nu, rfl, hbu, hcu, hiu⟩ := HU.out k hlt
        obtain ⟨bv, ov, qv, nv, rfl, hbv, hcv, hiv⟩ := HV.out k hltv
        have HBW := show Hid (Below w.heap.size w wr) from HB.out.1.trans (HI.out.1.mono HB.out.1.size)
        have hbl : ∀ k, k < L → wr.heap[k]? = w.heap[k]? := fun k hk => HBW.out.block k (by omega)
        have hu1 : wr.cell? ⟨bu, ou + k, none⟩ = some (.slice qu up[k].length nu) := (HBW.out.cell (p := ⟨bu, ou + k, none⟩) (by show bu < _; omega)).trans hcu
        have hr0 : wr.cell? ⟨b1, 0, none⟩ = some (.slice (some ⟨bu, ou, none⟩) up.length cu) := (HI.out.1.cell (p := ⟨b1, 0, none⟩) HB.out.2.lt).trans hc0
        have hr1 : wr.cell? ⟨b1, 1, none⟩ = some (.slice (some ⟨bv, ov, none⟩) val.length cv) := (HI.out.1.cell (p := ⟨b1, 1, none⟩) HB.out.2.lt).trans hc1
        have KA := show Hid _ from areWorlds_any wr (n := up.length) (IsI.keep hiu hbl) (Nat.le_trans hL HBW.out.size) (HFU.out k hlt).1 (HFU.out k hlt).2 hn1
        have KN := show Hid (∀ W, Below wr.heap.size wr W → Calls Tryd.prog 69 #[.slice qv val[k].length nv] W fun e w' => e = .returned (.bool (names none val[k])) ∧ w' = W) from fun W hW => areNames_any W (IsN.keep hiv fun k hk => (hW.block k (by have := HBW.out.size; omega)).trans (hbl k hk)) (HFV.out k hltv).1 (HFV.out k hltv).2
        have HCV := show Hid (∀ W, Below wr.heap.size wr W → W.cell? ⟨b1, 1, none⟩ = some (.slice (some ⟨bv, ov, none⟩) val.length cv) ∧ W.cell? ⟨bv, ov + k, none⟩ = some (.slice qv val[k].length nv)) from fun W hW => ⟨(hW.cell (p := ⟨b1, 1, none⟩) (World.block_lt_of_cell? wr _ hr1)).trans hr1, by
          have h9 : wr.cell? ⟨bv, ov + k, none⟩ = some (.slice qv val[k].length nv) := (HBW.out.cell (p := ⟨bv, ov + k, none⟩) (by show bv < _; omega)).trans hcv
          exact (hW.cell (p := ⟨bv, ov + k, none⟩) (World.block_lt_of_cell? wr _ h9)).trans h9⟩
        have HRK := show Hid _ from HR.out k hlt hltv
        have HS := show Hid (allW up.length up[k] = true → names none val[k] = true → ∀ (j : Nat) (hj : j < up.length), j < k + 1 → allW up.length up[j] = true ∧ names none (val.getD j []) = true) from fun h1 h2 j hj hjk => by
          by_cases e : j = k
          · subst e
            refine ⟨h1, ?_⟩
            rw [List.getD_eq_getElem?_getD, List.getElem?_eq_getElem hltv]
            exact h2
          · exact HI.out.2 j hj (by omega)
        have hki : (k : Int) < (up.length : Int) := by omega
        have hkv : (k : Int) < (val.length : Int) := by omega
        clear hiu hiv hcu hcv HR HU HV HFU HFV HA2 hbl hc0 hc1
        generalize allW up.length up[k] = y at *
        generalize names none val[k] = z at *
        go_wp2_with fail
        refine Calls.mono KA.out ?_
        rintro e w2 ⟨rfl, hb2⟩
        have HB2 := show Hid (Below w1.heap.size w1 w2 ∧ Below w.heap.size w w2) from ⟨HI.out.1.trans (hb2.mono HI.out.1.size), HBW.out.trans (hb2.mono HBW.out.size)⟩
        have hv1 := (HCV.out w2 hb2).1
        have hv2 := (HCV.out w2 hb2).2
        have KN2 := show Hid _ from KN.out w2 hb2
        clear hb2 KN HCV KA HI HBW
        cases y
        · have HE := show Hid (ans = false) from HRK.out (Or.inl (by first | rfl | trivial))
          clear HS
          go_wp2_with fail
          go_ret
          exact ⟨ret_bool HE.out.symm, HB2.out.2⟩
        · go_wp2_with fail
          refine Calls.mono KN2.out ?_
          rintro e w3 ⟨rfl, rfl⟩
          cases z
          · have HE := show Hid (ans = false) from HRK.out (Or.inr (by first | rfl | trivial))
            clear HS
            go_wp2_with fail
            go_ret
            exact ⟨ret_bool HE.out.symm, HB2.out.2⟩
          · have HS2 := show Hid _ from HS.out (by first | rfl | trivial) (by first | rfl | trivial)
            clear HS HRK
            go_wp2_with fail
            go_roundw
            case rel => exact ⟨k + 1, by omega, val_int (by omega), HB2.out.1, HS2.out⟩
            case measure => (simp only [intOf]; omega)
      · have HE := show Hid (ans = true) from HA2.out fun j hj => HI.out.2 j hj (by omega)
        go_wp2_with fail
        go_ret
        exact ⟨ret_bool HE.out.symm, HB.out.1.trans (HI.out.1.mono HB.out.1.size)⟩
  · have h3i : ((val.length : Int) != (up.length : Int)) = true := by simp; omega
    have HE := show Hid (ans = false) from HF.out (Or.inr (Or.inr h3))
    go_wp2_with fail
    go_ret
    exact ⟨ret_bool HE.out.symm, HB.out.1⟩
end Go.Proofs.YtjbnbaiidpdpoaaDoor.Wm
