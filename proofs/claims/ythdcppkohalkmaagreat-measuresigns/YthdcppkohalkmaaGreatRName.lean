/-
  The document's call Names of two rows of the same names, and a name put into names that rise. For every such row. No other condition.
-/
import Derived.Test.YthdcppkohalkmaaGreatRRow
import Derived.Test.YthdcppkohalkmaaGreatMName
namespace Go.Proofs.YthdcppkohalkmaaGreat
open Go.RowKit Go.Maps
open Fm (Nd)

/-- A slice that holds these names, wherever it lies. -/
def IsN (w : World) (v : Value) (l : List (List UInt8)) : Prop :=
  ∃ p c, v = .slice p l.length c ∧ l.length ≤ 9223372036854775807 ∧ ∀ k (hk : k < l.length), ∃ b o, p = some ⟨b, o, none⟩ ∧ w.cell? ⟨b, o + k, none⟩ = some (encStr l[k])
theorem IsN.later {w w' : World} {v : Value} {l : List (List UInt8)} (h : IsN w v l) (hb : Below w.heap.size w w') : IsN w' v l := by
  obtain ⟨p, c, hv, h1, h2⟩ := h
  refine ⟨p, c, hv, h1, fun k hk => ?_⟩
  obtain ⟨b, o, hp, hc⟩ := h2 k hk
  exact ⟨b, o, hp, (hb.cell (p := ⟨b, _, none⟩) (World.block_lt_of_cell? w _ hc)).trans hc⟩
theorem isN_own {w : World} {B : Nat} {v : Value} {n : Nat} {l : List (List UInt8)} (h : w.ownsRow B 9 1 v n (l.map encStr)) (hn : n ≤ 9223372036854775807) : IsN w v l := by
  have hl : l.length = n := by simpa using h.1
  subst hl
  rcases h.2 with ⟨rfl, h0⟩ | ⟨g, cap, cur, rfl, hg, hh, h1, h2, h3, h4⟩
  · obtain rfl : l = [] := by simpa using h0
    exact ⟨_, _, rfl, hn, fun k hk => by simp at hk⟩
  · refine ⟨_, _, rfl, hn, fun k hk => ⟨g, 0, rfl, ?_⟩⟩
    rw [cell_of_row w g _ cur _ _ hh, Nat.zero_add, ← Array.getElem?_toList]
    have e1 : (cur.toList.take (l.length * 1))[k]? = (l.map encStr)[k]? := by rw [h4]
    rw [List.getElem?_take, if_pos (by omega), List.getElem?_map, List.getElem?_eq_getElem hk] at e1
    exact e1
set_option maxRecDepth 100000 in
set_option maxHeartbeats 1200000 in
theorem rnames_eq (w : World) (va vb : Value) (a : List (List UInt8)) (ha : IsN w va a) (hb : IsN w vb a) :
    Calls Tryz.prog 24 #[va, vb] w fun e w' => e = .returned (.bool true) ∧ Below w.heap.size w w' := by
  obtain ⟨pa, ca, rfl, hla, hca⟩ := ha
  obtain ⟨pb, cb, rfl, hlb, hcb⟩ := hb
  have HA := show Hid (∀ k (hk : k < a.length), ∃ (b o : Nat) (x : ByteArray), pa = some ⟨b, o, none⟩ ∧ w.cell? ⟨b, o + k, none⟩ = some (.string x) ∧ encStr a[k] = .string x) from fun k hk => by
    obtain ⟨b, o, h1, h2⟩ := hca k hk
    exact ⟨b, o, _, h1, h2, rfl⟩
  have HB := show Hid (∀ k (hk : k < a.length), ∃ (b o : Nat), pb = some ⟨b, o, none⟩ ∧ w.cell? ⟨b, o + k, none⟩ = some (encStr a[k])) from hcb
  clear hca hcb
  go_enter Tryz.func24, Tryz.ntmps24
  go_wp2_with fail
  go_loopw [5] (fun i wr => ∃ k n : Nat, k ≤ a.length ∧ i = .int .i64 (k : Int) ∧ wr = w.drewN n) (fun i _ => a.length - (intOf i).toNat)
  case atStart => exact ⟨0, 0, by omega, rfl, rfl⟩
  case round =>
    obtain ⟨k, n, hk, rfl, rfl⟩ := hrel
    by_cases hlt : k < a.length
    · obtain ⟨ba, oa, x, rfl, c0, ex⟩ := HA.out k hlt
      obtain ⟨bb, ob, rfl, d0⟩ := HB.out k hlt
      rw [ex] at d0
      have hki : (k : Int) < (a.length : Int) := by omega
      clear HA HB ex
      go_wp2_with fail
      go_quiet (fail)
      go_wp2_with fail
      go_roundw
      case rel => exact ⟨k + 1, _, by omega, by go_num, rfl⟩
      case measure => first | (simp [intOf]; done) | (simp [intOf]; omega)
    · go_wp2_with fail
      go_ret
      exact ⟨rfl, below_drewN (Below.refl _ _) _⟩
end Go.Proofs.YthdcppkohalkmaaGreat
