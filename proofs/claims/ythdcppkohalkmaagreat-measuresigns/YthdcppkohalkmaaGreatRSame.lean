/-
  The document's call Same: for every two slices of rows or of numbers that hold so many. No other condition.
-/
import Derived.Test.YthdcppkohalkmaaGreatFFrom
namespace Go.Proofs.YthdcppkohalkmaaGreat
open Go.RowKit Go.Maps
open Fm (Nd)

theorem below_drewN {B : Nat} {a w : World} (h : Below B a w) (n : Nat) : Below B a (w.drewN n) := ⟨h.os, h.tape, h.output, h.size, h.block⟩
set_option maxRecDepth 100000 in
set_option maxHeartbeats 2000000 in
theorem same_eq (w : World) (v1 v2 : Value) (ts : List Nd) (h1 : IsR w v1 ts) (h2 : IsR w v2 ts) :
    Calls Tryz.prog 69 #[v1, v2] w fun e w' => e = .returned (.bool true) ∧ ∃ n, w' = w.drewN n := by
  obtain ⟨p1, c1, rfl, hc1, hd1, hp1⟩ := h1
  obtain ⟨p2, c2, rfl, hc2, hd2, hp2⟩ := h2
  have H1 := show Hid (0 < ts.length → ∃ b o, p1 = some ⟨b, o, none⟩ ∧ ∀ k (hk : k < ts.length), At4 w b (o + k * 4) ts[k]) from hp1
  have H2 := show Hid (0 < ts.length → ∃ b o, p2 = some ⟨b, o, none⟩ ∧ ∀ k (hk : k < ts.length), At4 w b (o + k * 4) ts[k]) from hp2
  clear hp1 hp2
  go_enter Tryz.func69, Tryz.ntmps69
  go_wp2_with fail
  go_loopw [5] (fun i wr => ∃ k n : Nat, k ≤ ts.length ∧ i = .int .i64 k ∧ wr = w.drewN n) (fun i _ => ts.length - (intOf i).toNat)
  case atStart => exact ⟨0, 0, by omega, rfl, rfl⟩
  case round =>
    obtain ⟨k, n, hk, rfl, rfl⟩ := hrel
    by_cases hlt : k < ts.length
    · obtain ⟨b, o, rfl, hcell⟩ := H1.out (by omega)
      obtain ⟨b2, o2, rfl, hcell2⟩ := H2.out (by omega)
      have hA := hcell k hlt
      have hB := hcell2 k hlt
      clear hcell hcell2
      generalize ts[k] = t at *
      obtain ⟨tk, tt, tl, tr⟩ := t
      have a0 := hA.c0; have a1 := hA.c1; have a2 := hA.c2; have a3 := hA.c3
      have e0 := hB.c0; have e1 := hB.c1; have e2 := hB.c2; have e3 := hB.c3
      simp only at a0 a1 a2 a3 e0 e1 e2 e3
      have hki : (k : Int) < (ts.length : Int) := by omega
      clear hA hB
      go_wp2_with fail
      go_quiet (fail)
      go_wp2_with fail
      go_roundw
      case rel => exact ⟨k + 1, _, by omega, by go_num, rfl⟩
      case measure => first | (simp [intOf]; done) | (simp [intOf]; omega)
    · go_wp2_with fail
      go_ret
      exact ⟨rfl, _, rfl⟩
theorem ints_cell {w : World} {B : Nat} {v : Value} {l : List Nat} (h : IsI w B v l) : ∃ p c, v = .slice p l.length c ∧ l.length ≤ c ∧ c ≤ 9223372036854775807 ∧ (0 < l.length → ∃ g, p = some ⟨g, 0, none⟩ ∧ ∀ k (hk : k < l.length), w.cell? ⟨g, k, none⟩ = some (.int .i64 (l[k] : Int))) := by
  rcases h.2 with ⟨rfl, h0⟩ | ⟨g, cap, cur, rfl, hg, hh, h1, h2, h3, h4⟩
  · exact ⟨none, 0, by rw [h0], by omega, by omega, fun hp => by omega⟩
  · refine ⟨_, cap, rfl, h1, by unfold maxLen at h2; omega, fun _ => ⟨g, rfl, fun k hk => ?_⟩⟩
    rw [cell_of_row w g k cur _ _ hh]
    have e : (ints l)[k]? = some (.int .i64 (l[k] : Int)) := by simp [ints, hk]
    rw [← h4, List.getElem?_take, if_pos (by omega)] at e
    simpa using e
end Go.Proofs.YthdcppkohalkmaaGreat
