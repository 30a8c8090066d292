/-
  The document's has: of any names. No condition.
-/
import Derived.Test.YtjbnbaiidpdpoaaDoorWBf
namespace Go.Proofs.YtjbnbaiidpdpoaaDoor.Wm
open Go.RowKit Go.Maps
open Wd (Md allW upd)
set_option linter.unusedSimpArgs false

theorem inS_mem {s : ByteArray} {l : List ByteArray} (h : s ∈ l) : inS s l = true := by
  unfold inS
  exact List.any_eq_true.2 ⟨s, h, by simp⟩
theorem inS_not {s : ByteArray} {l : List ByteArray} (h : s ∉ l) : inS s l = false := by
  unfold inS
  refine List.any_eq_false.2 fun x hx e => h ?_
  have e1 : x.data.toList = s.data.toList := by simpa using e
  rw [← ba_ext e1]
  exact hx
set_option maxRecDepth 100000 in
set_option maxHeartbeats 2000000 in
theorem has_ref (w : World) {L : Nat} {v : Value} {l : List ByteArray} (hl : IsN w L v l) (hL : L ≤ w.heap.size) (hlen : l.length ≤ 140737488351232) (s : ByteArray) :
    Calls Tryd.prog 68 #[v, .string s] w fun e w' => e = .returned (.bool (inS s l)) ∧ Below w.heap.size w w' := by
  obtain ⟨p, c, rfl, hat⟩ := hl
  have HA := show Hid (∀ (k : Nat) (hk : k < l.length), ∃ b o, b < w.heap.size ∧ p = some ⟨b, o, none⟩ ∧ w.cell? ⟨b, o + k, none⟩ = some (.string l[k])) from fun k hk => by
    obtain ⟨b, o, hb, e, h⟩ := hat (by omega)
    obtain ⟨x, hx, rfl⟩ := h k hk
    exact ⟨b, o, by omega, e, hx⟩
  have HT := show Hid (s ∈ l → inS s l = true) from inS_mem
  have HF := show Hid (s ∉ l → inS s l = false) from inS_not
  generalize inS s l = ans at *
  clear hat
  go_enter Tryd.func68, Tryd.ntmps68
  go_wp2_with fail
  go_loopw [5] (fun i wr => ∃ k : Nat, k ≤ l.length ∧ i = .int .i64 (k : Int) ∧ Hid (Below w.heap.size w wr ∧ ∀ (j : Nat) (h1 : j < l.length), j < k → l[j] ≠ s)) (fun i _ => l.length - (intOf i).toNat)
  case atStart => exact ⟨0, Nat.zero_le _, rfl, Below.refl _ _, fun _ _ h => absurd h (Nat.not_lt_zero _)⟩
  case round =>
    obtain ⟨k, hk, rfl, HI⟩ := hrel
    by_cases hlt : k < l.length
    · obtain ⟨ba, oa, hba, rfl, hca⟩ := HA.out k hlt
      have ha2 : wr.cell? ⟨ba, oa + k, none⟩ = some (.string l[k]) := (HI.out.1.cell (p := ⟨ba, oa + k, none⟩) hba).trans hca
      have HS := show Hid (l[k] ≠ s → ∀ (j : Nat) (h1 : j < l.length), j < k + 1 → l[j] ≠ s) from fun h j h1 hj => by
        by_cases e : j = k
        · subst e; exact h
        · exact HI.out.2 j h1 (by omega)
      have HN := show Hid (l[k] = s → ans = true) from fun h => HT.out (h ▸ List.getElem_mem hlt)
      have HBL := show Hid (Below w.heap.size w wr) from HI.out.1
      have hki : (k : Int) < (l.length : Int) := by omega
      clear hca HA HI
      generalize l[k] = x at *
      by_cases exy : x = s
      · have HS2 := show Hid _ from HN.out exy
        have hne := beqS_eq exy
        clear HS HN exy
        go_wp2_with fail
        go_ret
        exact ⟨ret_bool HS2.out.symm, HBL.out⟩
      · have HS2 := show Hid _ from HS.out exy
        have hne := beqS_ne exy
        clear HS HN exy
        go_wp2_with fail
        go_roundw
        case rel => exact ⟨k + 1, by omega, val_int (by omega), HBL.out, HS2.out⟩
        case measure => (simp only [intOf]; omega)
    · have HE := show Hid (ans = false) from HF.out fun h => by
        obtain ⟨j, hj, e⟩ := List.mem_iff_getElem.1 h
        exact HI.out.2 j hj (by omega) e
      go_wp2_with fail
      go_ret
      exact ⟨ret_bool HE.out.symm, HI.out.1⟩
end Go.Proofs.YtjbnbaiidpdpoaaDoor.Wm
