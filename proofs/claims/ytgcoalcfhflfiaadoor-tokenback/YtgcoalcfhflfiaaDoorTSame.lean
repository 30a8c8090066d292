/-
  The law's call same at two rows of the same tokens: true; and rows of tokens of a call's own. No condition.
-/
import Derived.Test.YtgcoalcfhflfiaaDoorTJoin
namespace Go.Proofs.YtgcoalcfhflfiaaDoor
open Go.RowKit Go.Sort

def rtC (t : Rt) : List Value := [.int .i64 t.k, .string t.s, .int .i64 t.n, .int .i64 t.l, .int .i64 t.c, .int .i64 t.o]
theorem rtC_at : ∀ (ts : List Rt) (k j : Nat) (hk : k < ts.length), j < 6 → (ts.flatMap rtC)[k * 6 + j]? = (rtC ts[k])[j]?
  | [], k, j, hk, _ => absurd hk (by simp)
  | t :: ts, 0, j, hk, hj => by
    rw [List.flatMap_cons, List.getElem?_append_left (by show 0 * 6 + j < 6; omega), Nat.zero_mul, Nat.zero_add]
    rfl
  | t :: ts, k + 1, j, hk, hj => by
    have hl : (rtC t).length = 6 := rfl
    rw [List.flatMap_cons, List.getElem?_append_right (by rw [hl]; omega), hl, show (k + 1) * 6 + j - 6 = k * 6 + j by omega]
    rw [rtC_at ts k j (by simpa using hk) hj]
    rfl
theorem rtC_len (ts : List Rt) : (ts.flatMap rtC).length = ts.length * 6 := by
  induction ts with
  | nil => rfl
  | cons t r ih => rw [List.flatMap_cons, List.length_append, ih, List.length_cons]; show 6 + _ = _; omega
theorem own_isT {w : World} {B n : Nat} {v : Value} {ts : List Rt} (h : w.ownsRow B 37 6 v n (ts.flatMap rtC)) : IsT w v ts ∧ n = ts.length := by
  have hn : n = ts.length := by have := h.1; rw [rtC_len] at this; omega
  subst hn
  refine ⟨?_, rfl⟩
  rcases h.2 with ⟨rfl, h0⟩ | ⟨g, cap, cur, rfl, hg, hh, h1, h2, h3, h4⟩
  · exact ⟨none, 0, by rw [h0], by omega, by omega, fun hp => by omega⟩
  · refine ⟨_, cap, rfl, h1, by unfold maxLen at h2; omega, fun _ => ⟨g, 0, rfl, fun k hk => ?_⟩⟩
    have hc : ∀ j, j < 6 → w.cell? ⟨g, k * 6 + j, none⟩ = (rtC ts[k])[j]? := fun j hj => by
      rw [cell_of_row w g _ cur _ _ hh, ← rtC_at ts k j hk hj, ← h4, List.getElem?_take, if_pos (by omega)]
      simp
    rw [Nat.zero_add]
    exact ⟨hc 0 (by omega), hc 1 (by omega), hc 2 (by omega), hc 3 (by omega), hc 4 (by omega), hc 5 (by omega)⟩
/-- The tokens of a scan as rows of tokens. -/
def rtOf (s : List UInt8) (t : Tk.Tok × Nat) : Rt := ⟨t.1.1, ⟨t.1.2.1.toArray⟩, t.1.2.2, (Tk.spot s t.2).1, (Tk.spot s t.2).2, (t.2 : Int)⟩
theorem toksC_eq (s : List UInt8) (a : List (Tk.Tok × Nat)) : toksC s a = (a.map (rtOf s)).flatMap rtC := by
  rw [List.flatMap_map]
  rfl
set_option maxRecDepth 100000 in
set_option maxHeartbeats 2000000 in
theorem same_eq (w : World) (v1 v2 : Value) (ts : List Rt) (h1 : IsT w v1 ts) (h2 : IsT w v2 ts) (hn : ts.length ≤ 140737488355328) :
    Calls Tryd.prog 16 #[v1, v2] w fun e w' => e = .returned (.bool true) ∧ ∃ n, w' = w.drewN n := by
  obtain ⟨p1, c1, rfl, hc1, hd1, hp1⟩ := h1
  obtain ⟨p2, c2, rfl, hc2, hd2, hp2⟩ := h2
  have H1 := show Hid (0 < ts.length → ∃ b o, p1 = some ⟨b, o, none⟩ ∧ ∀ k (hk : k < ts.length), At6 w b (o + k * 6) ts[k]) from hp1
  have H2 := show Hid (0 < ts.length → ∃ b o, p2 = some ⟨b, o, none⟩ ∧ ∀ k (hk : k < ts.length), At6 w b (o + k * 6) ts[k]) from hp2
  clear hp1 hp2
  go_enter Tryd.func16, Tryd.ntmps16
  go_wp2
  go_loopw [5] (fun i wr => ∃ k n : Nat, k ≤ ts.length ∧ i = .int .i64 k ∧ wr = w.drewN n) (fun i _ => ts.length - (intOf i).toNat)
  case atStart => exact ⟨0, 0, by omega, rfl, rfl⟩
  case round =>
    obtain ⟨k, n, hk, rfl, rfl⟩ := hrel
    by_cases hlt : k < ts.length
    · obtain ⟨b, o, rfl, hcell⟩ := H1.out (by omega)
      obtain ⟨b2, o2, rfl, hcell2⟩ := H2.out (by omega)
      obtain ⟨a0, a1, a2, a3, a4, a5⟩ := hcell k hlt
      obtain ⟨e0, e1, e2, e3, e4, e5⟩ := hcell2 k hlt
      clear hcell hcell2
      generalize ts[k] = t at *
      obtain ⟨tk, tt, ti, tl, tc, tO⟩ := t
      simp only at a0 a1 a2 a3 a4 a5 e0 e1 e2 e3 e4 e5
      have hki : (k : Int) < (ts.length : Int) := by omega
      go_wp2
      go_quiet (fail)
      go_wp2
      go_roundw
      case rel => exact ⟨k + 1, _, by omega, by go_num, rfl⟩
      case measure => simp [intOf]; omega
    · go_wp2
      go_ret
      exact ⟨rfl, _, rfl⟩
end Go.Proofs.YtgcoalcfhflfiaaDoor
