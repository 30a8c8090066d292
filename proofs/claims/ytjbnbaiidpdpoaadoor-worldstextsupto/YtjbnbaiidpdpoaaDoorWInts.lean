/-
  The document's comparisons: Ints, Names, Same. No condition.
-/
import Derived.Test.YtjbnbaiidpdpoaaDoorWDia
namespace Go.Proofs.YtjbnbaiidpdpoaaDoor.Wm
open Go.RowKit Go.Maps
open Wd (Md)
set_option linter.unusedSimpArgs false

set_option maxRecDepth 100000 in
set_option maxHeartbeats 2000000 in
theorem ints_any (w : World) {La Lb : Nat} {u v : Value} {a b : List Int} (ha : IsI w La u a) (hb : IsI w Lb v b) (hla : a.length ≤ 140737488351232) (hlb : b.length ≤ 140737488351232) :
    Calls Tryd.prog 27 #[u, v] w fun e w' => (∃ r : Bool, e = .returned (.bool r) ∧ (r = true ↔ a = b)) ∧ Below w.heap.size w w' := by
  obtain ⟨p, c, rfl, hat⟩ := ha
  obtain ⟨q, d, rfl, hbt⟩ := hb
  have HA := show Hid (∀ (j : Nat) (hj : j < a.length), ∃ bb o, bb < w.heap.size ∧ p = some ⟨bb, o, none⟩ ∧ w.cell? ⟨bb, o + j, none⟩ = some (.int .i64 a[j])) from fun j hj => by
    obtain ⟨bb, o, _, h1, h2⟩ := hat (by omega)
    obtain ⟨x, hx, rfl⟩ := h2 j hj
    exact ⟨bb, o, World.block_lt_of_cell? w _ hx, h1, hx⟩
  have HB := show Hid (∀ (j : Nat) (hj : j < b.length), ∃ bb o, bb < w.heap.size ∧ q = some ⟨bb, o, none⟩ ∧ w.cell? ⟨bb, o + j, none⟩ = some (.int .i64 b[j])) from fun j hj => by
    obtain ⟨bb, o, _, h1, h2⟩ := hbt (by omega)
    obtain ⟨x, hx, rfl⟩ := h2 j hj
    exact ⟨bb, o, World.block_lt_of_cell? w _ hx, h1, hx⟩
  clear hat hbt
  by_cases hl : a.length = b.length
  · have hli : ((a.length : Int) != (b.length : Int)) = false := by simp [hl]
    have HL := show Hid (a.length = b.length) from hl
    clear hl
    go_enter Tryd.func27, Tryd.ntmps27
    go_wp2_with fail
    go_loopw [5] (fun i wr => ∃ k : Nat, k ≤ a.length ∧ i = .int .i64 (k : Int) ∧ Hid (Below w.heap.size w wr ∧ ∀ (j : Nat) (h1 : j < a.length) (h2 : j < b.length), j < k → a[j] = b[j])) (fun i _ => a.length - (intOf i).toNat)
    case atStart => exact ⟨0, Nat.zero_le _, rfl, Below.refl _ _, fun _ _ _ h => absurd h (Nat.not_lt_zero _)⟩
    case round =>
      obtain ⟨k, hk, rfl, HI⟩ := hrel
      by_cases hlt : k < a.length
      · have hltb : k < b.length := by have := HL.out; omega
        obtain ⟨ba, oa, hba, rfl, hca⟩ := HA.out k hlt
        obtain ⟨bb, ob, hbb, rfl, hcb⟩ := HB.out k hltb
        have ha2 : wr.cell? ⟨ba, oa + k, none⟩ = some (.int .i64 a[k]) := (HI.out.1.cell (p := ⟨ba, oa + k, none⟩) hba).trans hca
        have hb2 : wr.cell? ⟨bb, ob + k, none⟩ = some (.int .i64 b[k]) := (HI.out.1.cell (p := ⟨bb, ob + k, none⟩) hbb).trans hcb
        have HS := show Hid (a[k] = b[k] → ∀ (j : Nat) (h1 : j < a.length) (h2 : j < b.length), j < k + 1 → a[j] = b[j]) from fun h j h1 h2 hj => by
          by_cases e : j = k
          · subst e; exact h
          · exact HI.out.2 j h1 h2 (by omega)
        have HN := show Hid (a[k] ≠ b[k] → ¬ a = b) from fun h e => h (by subst e; rfl)
        have HBL := show Hid (Below w.heap.size w wr) from HI.out.1
        have hki : (k : Int) < (a.length : Int) := by omega
        have hkj : (k : Int) < (b.length : Int) := by omega
        clear hca hcb HA HB HI
        generalize a[k] = x at *
        generalize b[k] = y at *
        by_cases exy : x = y
        · have HS2 := show Hid _ from HS.out exy
          have hne : (x != y) = false := by simp [exy]
          clear HS HN exy
          go_wp2_with fail
          go_region
          go_wp2_with fail
          go_roundw
          case rel => exact ⟨k + 1, by omega, val_int (by omega), HBL.out.drew, HS2.out⟩
          case measure => (simp only [intOf]; omega)
        · have HN2 := show Hid _ from HN.out exy
          have hne : (x != y) = true := by simpa using exy
          clear HS HN exy
          go_wp2_with fail
          go_region
          go_wp2_with fail
          go_ret
          first | exact ⟨⟨false, rfl, ⟨fun h => (by cases h), fun h => absurd h HN2.out⟩⟩, HBL.out.drew⟩ | exact ⟨Or.inl ⟨rfl, HN2.out⟩, HBL.out.drew⟩
      · have HE := show Hid (a = b) from List.ext_getElem HL.out fun j h1 h2 => HI.out.2 j h1 h2 (by omega)
        go_wp2_with fail
        go_ret
        first | exact ⟨⟨true, rfl, ⟨fun _ => HE.out, fun _ => rfl⟩⟩, HI.out.1⟩ | exact ⟨Or.inr ⟨rfl, HE.out⟩, HI.out.1⟩
  · have hli : ((a.length : Int) != (b.length : Int)) = true := by simp; omega
    have HN := show Hid (¬ a = b) from fun e => hl (by rw [e])
    clear hl
    go_enter Tryd.func27, Tryd.ntmps27
    go_wp2_with fail
    go_ret
    first | exact ⟨⟨false, rfl, ⟨fun h => (by cases h), fun h => absurd h HN.out⟩⟩, Below.refl _ _⟩ | exact ⟨Or.inl ⟨rfl, HN.out⟩, Below.refl _ _⟩
set_option maxRecDepth 100000 in
set_option maxHeartbeats 2000000 in
theorem rnames_any (w : World) {La Lb : Nat} {u v : Value} {a b : List ByteArray} (ha : IsN w La u a) (hb : IsN w Lb v b) (hla : a.length ≤ 140737488351232) (hlb : b.length ≤ 140737488351232) :
    Calls Tryd.prog 28 #[u, v] w fun e w' => (∃ r : Bool, e = .returned (.bool r) ∧ (r = true ↔ a = b)) ∧ Below w.heap.size w w' := by
  obtain ⟨p, c, rfl, hat⟩ := ha
  obtain ⟨q, d, rfl, hbt⟩ := hb
  have HA := show Hid (∀ (j : Nat) (hj : j < a.length), ∃ bb o, bb < w.heap.size ∧ p = some ⟨bb, o, none⟩ ∧ w.cell? ⟨bb, o + j, none⟩ = some (.string a[j])) from fun j hj => by
    obtain ⟨bb, o, _, h1, h2⟩ := hat (by omega)
    obtain ⟨x, hx, rfl⟩ := h2 j hj
    exact ⟨bb, o, World.block_lt_of_cell? w _ hx, h1, hx⟩
  have HB := show Hid (∀ (j : Nat) (hj : j < b.length), ∃ bb o, bb < w.heap.size ∧ q = some ⟨bb, o, none⟩ ∧ w.cell? ⟨bb, o + j, none⟩ = some (.string b[j])) from fun j hj => by
    obtain ⟨bb, o, _, h1, h2⟩ := hbt (by omega)
    obtain ⟨x, hx, rfl⟩ := h2 j hj
    exact ⟨bb, o, World.block_lt_of_cell? w _ hx, h1, hx⟩
  clear hat hbt
  by_cases hl : a.length = b.length
  · have hli : ((a.length : Int) != (b.length : Int)) = false := by simp [hl]
    have HL := show Hid (a.length = b.length) from hl
    clear hl
    go_enter Tryd.func28, Tryd.ntmps28
    go_wp2_with fail
    go_loopw [5] (fun i wr => ∃ k : Nat, k ≤ a.length ∧ i = .int .i64 (k : Int) ∧ Hid (Below w.heap.size w wr ∧ ∀ (j : Nat) (h1 : j < a.length) (h2 : j < b.length), j < k → a[j] = b[j])) (fun i _ => a.length - (intOf i).toNat)
    case atStart => exact ⟨0, Nat.zero_le _, rfl, Below.refl _ _, fun _ _ _ h => absurd h (Nat.not_lt_zero _)⟩
    case round =>
      obtain ⟨k, hk, rfl, HI⟩ := hrel
      by_cases hlt : k < a.length
      · have hltb : k < b.length := by have := HL.out; omega
        obtain ⟨ba, oa, hba, rfl, hca⟩ := HA.out k hlt
        obtain ⟨bb, ob, hbb, rfl, hcb⟩ := HB.out k hltb
        have ha2 : wr.cell? ⟨ba, oa + k, none⟩ = some (.string a[k]) := (HI.out.1.cell (p := ⟨ba, oa + k, none⟩) hba).trans hca
        have hb2 : wr.cell? ⟨bb, ob + k, none⟩ = some (.string b[k]) := (HI.out.1.cell (p := ⟨bb, ob + k, none⟩) hbb).trans hcb
        have HS := show Hid (a[k] = b[k] → ∀ (j : Nat) (h1 : j < a.length) (h2 : j < b.length), j < k + 1 → a[j] = b[j]) from fun h j h1 h2 hj => by
          by_cases e : j = k
          · subst e; exact h
          · exact HI.out.2 j h1 h2 (by omega)
        have HN := show Hid (a[k] ≠ b[k] → ¬ a = b) from fun h e => h (by subst e; rfl)
        have HBL := show Hid (Below w.heap.size w wr) from HI.out.1
        have hki : (k : Int) < (a.length : Int) := by omega
        have hkj : (k : Int) < (b.length : Int) := by omega
        clear hca hcb HA HB HI
        generalize a[k] = x at *
        generalize b[k] = y at *
        by_cases exy : x = y
        · have HS2 := show Hid _ from HS.out exy
          have hne := beqS_eq exy
          clear HS HN exy
          go_wp2_with fail
          go_region
          go_wp2_with fail
          go_roundw
          case rel => exact ⟨k + 1, by omega, val_int (by omega), HBL.out.drew, HS2.out⟩
          case measure => (simp only [intOf]; omega)
        · have HN2 := show Hid _ from HN.out exy
          have hne := beqS_ne exy
          clear HS HN exy
          go_wp2_with fail
          go_region
          go_wp2_with fail
          go_ret
          first | exact ⟨⟨false, rfl, ⟨fun h => (by cases h), fun h => absurd h HN2.out⟩⟩, HBL.out.drew⟩ | exact ⟨Or.inl ⟨rfl, HN2.out⟩, HBL.out.drew⟩
      · have HE := show Hid (a = b) from List.ext_getElem HL.out fun j h1 h2 => HI.out.2 j h1 h2 (by omega)
        go_wp2_with fail
        go_ret
        first | exact ⟨⟨true, rfl, ⟨fun _ => HE.out, fun _ => rfl⟩⟩, HI.out.1⟩ | exact ⟨Or.inr ⟨rfl, HE.out⟩, HI.out.1⟩
  · have hli : ((a.length : Int) != (b.length : Int)) = true := by simp; omega
    have HN := show Hid (¬ a = b) from fun e => hl (by rw [e])
    clear hl
    go_enter Tryd.func28, Tryd.ntmps28
    go_wp2_with fail
    go_ret
    first | exact ⟨⟨false, rfl, ⟨fun h => (by cases h), fun h => absurd h HN.out⟩⟩, Below.refl _ _⟩ | exact ⟨Or.inl ⟨rfl, HN.out⟩, Below.refl _ _⟩
end Go.Proofs.YtjbnbaiidpdpoaaDoor.Wm
