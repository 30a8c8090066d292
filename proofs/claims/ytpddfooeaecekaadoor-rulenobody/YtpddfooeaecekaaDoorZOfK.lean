/-
  Rows of trials in memory: read, written, cloned, emptied behind. No condition.
-/
import Derived.Test.YtpddfooeaecekaaDoorZNew
import Derived.Test.YtpddfooeaecekaaDoorFG3
import Derived.Deep.MidRow
namespace Go.Proofs.YtpddfooeaecekaaDoor
open Go.RowKit Go.Shelf Go.Maps
open Fm (Nd)
set_option linter.unusedSimpArgs false

def Rt (w : World) (g : Nat) (L : List T3) : Prop :=
  ∃ cur, w.heap[g]? = some (.cells cur 96 (0, 0)) ∧ L.length * 3 ≤ cur.size ∧ ∀ j (hj : j < L.length), cur[j * 3]? = some (.int .i64 L[j].n) ∧ cur[j * 3 + 1]? = some L[j].fv ∧ cur[j * 3 + 2]? = some L[j].pv
theorem cellsT_len (l : List T3) : (cellsT l).length = l.length * 3 := by
  induction l with
  | nil => rfl
  | cons n r ih => show (c3 n ++ cellsT r).length = _; rw [List.length_append, ih, List.length_cons]; show 3 + _ = _; omega
theorem cellsT_at : ∀ (t : List T3) (k j : Nat) (hk : k < t.length), j < 3 → (cellsT t)[k * 3 + j]? = (c3 t[k])[j]?
  | [], k, j, hk, _ => absurd hk (by simp)
  | n :: t, 0, j, hk, hj => by
    show (c3 n ++ cellsT t)[0 * 3 + j]? = _
    rw [List.getElem?_append_left (by show 0 * 3 + j < 3; omega), Nat.zero_mul, Nat.zero_add]
    rfl
  | n :: t, k + 1, j, hk, hj => by
    have hl : (c3 n).length = 3 := rfl
    show (c3 n ++ cellsT t)[(k + 1) * 3 + j]? = _
    rw [List.getElem?_append_right (by rw [hl]; omega), hl, show (k + 1) * 3 + j - 3 = k * 3 + j by omega]
    rw [cellsT_at t k j (by simpa using hk) hj]
    rfl
theorem c3_one (x : T3) : ∀ u ∈ c3 x, u.oneCell' = true := by
  intro u hu
  simp only [c3, List.mem_cons, List.not_mem_nil, or_false] at hu
  rcases hu with rfl | rfl | rfl <;> rfl
theorem cellsT_one (t : List T3) : ∀ u ∈ cellsT t, u.oneCell' = true := by
  intro u hu
  obtain ⟨n, _, hn⟩ := List.mem_flatMap.1 hu
  exact c3_one n u hn
theorem rt_of_take {w : World} {g : Nat} {L : List T3} {cur : Array Value} (h : w.heap[g]? = some (.cells cur 96 (0, 0))) (hs : L.length * 3 ≤ cur.size) (ht : cur.toList.take (L.length * 3) = cellsT L) : Rt w g L := by
  refine ⟨cur, h, hs, fun j hj => ?_⟩
  have hc : ∀ q, q < 3 → cur[j * 3 + q]? = (c3 L[j])[q]? := fun q hq => by
    rw [← cellsT_at L j q hj hq, ← ht, List.getElem?_take, if_pos (by omega)]
    simp
  exact ⟨hc 0 (by omega), hc 1 (by omega), hc 2 (by omega)⟩
theorem rt_of_cl {w : World} {g : Nat} {L : List T3} (h : Cl w g (cellsT L).toArray 96) : Rt w g L :=
  rt_of_take h (by simp [cellsT_len]) (by rw [← cellsT_len]; simp)
section
variable {w w' : World} {g : Nat} {L : List T3}
theorem Rt.lt (h : Rt w g L) : g < w.heap.size := by obtain ⟨cur, h, _⟩ := h; exact lt_of_block h
theorem Rt.keep (h : Rt w g L) (hk : w'.heap[g]? = w.heap[g]?) : Rt w' g L := by
  obtain ⟨cur, h1, h2⟩ := h
  exact ⟨cur, hk.trans h1, h2⟩
theorem Rt.later (h : Rt w g L) (hb : Below w.heap.size w w') : Rt w' g L := h.keep (hb.block g h.lt)
theorem Rt.range (h : Rt w g L) {j : Nat} (hj : j < L.length) : w.rangeAt g (j * 3) (c3 L[j]) := fun q v hv => by
  obtain ⟨cur, h1, _, h3⟩ := h
  obtain ⟨e0, e1, e2⟩ := h3 j hj
  rw [cell_of_row w g _ _ _ _ h1]
  match q, hv with
  | 0, hv => rw [Nat.add_zero, e0]; exact hv
  | 1, hv => rw [e1]; exact hv
  | 2, hv => rw [e2]; exact hv
theorem sizeT : (Tryd.prog.info? 96).map (·.size) = some 3 := by kernel_rfl
theorem Rt.load (h : Rt w g L) {j : Nat} (hj : j < L.length) : (Instr.loadAt 96 (.pointer (some ⟨g, j * 3, none⟩))).run Tryd.prog w = .ok (.agg (c3 L[j]).toArray) w :=
  run_loadAt_mid (P := Tryd.prog) w g (j * 3) 96 (c3 L[j]) _ (h.range hj) Tryd.underlying96 rfl (by rw [sizeT]; rfl)
theorem Rt.set (h : Rt w g L) {i : Nat} (hi : i < L.length) (x : T3) : ∃ w', (Instr.storeAt 96 (.pointer (some ⟨g, i * 3, none⟩)) (.agg (c3 x).toArray)).run Tryd.prog w = .ok () w' ∧ Rt w' g (L.set i x) ∧ KpP g w w' := by
  obtain ⟨cur, h1, h2, h3⟩ := h
  refine ⟨_, run_storeAt_mid (P := Tryd.prog) w g (i * 3) 96 (c3 x).toArray ?_ (by rw [sizeT]; rfl) ?_, ?_, setCells_kp g _ _ w⟩
  · intro j hj
    have hj' : j < 3 := hj
    refine ⟨?_, frozen_of_row w g _ _ _ h1⟩
    rw [cell_of_row w g _ _ _ _ h1]
    simp
    omega
  · simp [c3, Value.oneCell', T3.fv, T3.pv]
  · refine ⟨_, setCells_block g 96 _ _ w cur h1, ?_, fun j hj => ?_⟩
    · simp only [c3, updC, List.length_set]
      simpa using h2
    · have hj2 : j < L.length := by simpa using hj
      obtain ⟨e0, e1, e2⟩ := h3 j hj2
      have hu : updC cur (i * 3) (c3 x) = ((cur.setIfInBounds (i * 3) (.int .i64 x.n)).setIfInBounds (i * 3 + 1) x.fv).setIfInBounds (i * 3 + 2) x.pv := rfl
      rw [show ((c3 x).toArray).toList = c3 x from rfl, hu]
      by_cases e : i = j
      · subst e
        have g0 : i * 3 < cur.size := by omega
        have g1 : i * 3 + 1 < cur.size := by omega
        have g2 : i * 3 + 2 < cur.size := by omega
        rw [List.getElem_set_self]
        refine ⟨?_, ?_, ?_⟩
        · rw [Array.getElem?_setIfInBounds_ne (by omega), Array.getElem?_setIfInBounds_ne (by omega)]
          simp [g0]
        · rw [Array.getElem?_setIfInBounds_ne (by omega)]
          simp [g1]
        · simp [g2]
      · rw [List.getElem_set_ne e]
        refine ⟨?_, ?_, ?_⟩
        · rw [Array.getElem?_setIfInBounds_ne (by omega), Array.getElem?_setIfInBounds_ne (by omega), Array.getElem?_setIfInBounds_ne (by omega)]; exact e0
        · rw [Array.getElem?_setIfInBounds_ne (by omega), Array.getElem?_setIfInBounds_ne (by omega), Array.getElem?_setIfInBounds_ne (by omega)]; exact e1
        · rw [Array.getElem?_setIfInBounds_ne (by omega), Array.getElem?_setIfInBounds_ne (by omega), Array.getElem?_setIfInBounds_ne (by omega)]; exact e2
theorem Rt.take (h : Rt w g L) (n : Nat) : Rt w g (L.take n) := by
  obtain ⟨cur, h1, h2, h3⟩ := h
  refine ⟨cur, h1, by rw [List.length_take]; omega, fun j hj => ?_⟩
  rw [List.getElem_take]
  exact h3 j (by rw [List.length_take] at hj; omega)
end
theorem zeroT3 (w : World) : (zeroValue 96).run Tryd.prog w = .ok (.agg #[.int .i64 0, Value.nilFunc, Value.nilFunc]) w := by kernel_rfl
theorem zerosT_one (n : Nat) : ∀ u ∈ (Builtin.zeroCells #[.int .i64 0, Value.nilFunc, Value.nilFunc] n).toList, u.oneCell' = true := by
  intro u hu
  unfold Builtin.zeroCells at hu
  simp at hu
  obtain ⟨a, _, rfl⟩ := hu
  have h4 : a % 3 = 0 ∨ a % 3 = 1 ∨ a % 3 = 2 := by omega
  rcases h4 with h4 | h4 | h4 <;> rw [h4] <;> rfl
theorem Rt.clear {w : World} {g : Nat} {L : List T3} (h : Rt w g L) (ty : TypeId) (i c : Nat) (hi : i ≤ L.length) : ∃ w', (Builtin.clear_ #[102] ty #[.slice (some ⟨g, i * 3, none⟩) (L.length - i) c]).run Tryd.prog w = .ok (.tuple #[]) w' ∧ Rt w' g (L.take i) ∧ KpP g w w' := by
  by_cases e : L.length - i = 0
  · refine ⟨w, ?_, h.take i, Kp.refl _ w⟩
    rw [e]
    simp [Builtin.clear_, run_underlying Tryd.underlying102]
  · obtain ⟨n, hn⟩ : ∃ n, L.length - i = n + 1 := ⟨L.length - i - 1, by omega⟩
    obtain ⟨cur, h1, h2, h3⟩ := h
    rw [hn]
    have hsz : (Builtin.zeroCells #[.int .i64 0, Value.nilFunc, Value.nilFunc] (n + 1)).toList.length = (n + 1) * 3 := by
      rw [Array.length_toList, size_zeroCells]
      rfl
    have hone := zerosT_one (n + 1)
    have hcl : ∀ w' : World, (storeCells ⟨g, i * 3, none⟩ (Builtin.zeroCells #[.int .i64 0, Value.nilFunc, Value.nilFunc] (n + 1)).toList).run Tryd.prog w = .ok () w' → (Builtin.clear_ #[102] ty #[.slice (some ⟨g, i * 3, none⟩) (n + 1) c]).run Tryd.prog w = .ok (.tuple #[]) w' := by
      intro w' h
      have hz := zeroT3 w
      simp [Builtin.clear_, run_underlying Tryd.underlying102, hz, Value.cells, Result.andThen, h]
    generalize (Builtin.zeroCells #[.int .i64 0, Value.nilFunc, Value.nilFunc] (n + 1)).toList = zs at *
    have hst := run_storeCells_at Tryd.prog g (i * 3) 96 zs 0 cur w h1 (by rw [hsz]; omega) hone
    simp only [Nat.add_zero] at hst
    have hl : (cur.toList.take (i * 3)).length = i * 3 := by rw [List.length_take, Array.length_toList]; omega
    refine ⟨_, hcl _ hst, ⟨_, setRow_heap w g cur _ 96 _ h1, ?_, fun j hj => ?_⟩, setRow_kp w g _⟩
    · simp only [List.size_toArray, List.length_append, List.length_drop, Array.length_toList, hl, hsz, List.length_take]
      omega
    · have hj2 : j < i := by rw [List.length_take] at hj; omega
      have hp : ∀ q, q < i * 3 → (cur.toList.take (i * 3) ++ zs ++ cur.toList.drop (i * 3 + zs.length)).toArray[q]? = cur[q]? := fun q hq => by
        simp only [List.getElem?_toArray, List.append_assoc]
        rw [List.getElem?_append_left (by omega), List.getElem?_take, if_pos hq]
        simp
      rw [List.getElem_take, hp _ (by omega), hp _ (by omega), hp _ (by omega)]
      exact h3 j (by omega)
theorem info_trial : (Tryd.prog.info? 96).map (fun i => (i.zero, i.size, i.bytes)) = some (some (.agg #[.int .i64 0, Value.nilFunc, Value.nilFunc]), 3, 24) := by kernel_rfl
theorem run_eqT_in (w : World) (d : Nat) (a : Addr) (l c : Nat) : (Op.equalIn (d + 1) 102 (.slice (some a) l c) (.slice none 0 0)).run Tryd.prog w = .ok false w := by
  simp [Op.equalIn, run_underlying Tryd.underlying102]
theorem run_eqT_nil (w : World) (a : Addr) (l c : Nat) : (binOp .eql 102 (.slice (some a) l c) (.slice none 0 0)).run Tryd.prog w = .ok (.bool false) w := by
  simp only [binOp]
  have e : (Op.equal 102 (.slice (some a) l c) (.slice none 0 0)).run Tryd.prog w = .ok false w := run_eqT_in w 9999 a l c
  simp [e]
theorem rt_of_own {w : World} {B n : Nat} {v : Value} {t : List T3} (h : w.ownsRow B 96 3 v n (cellsT t)) (h0 : t ≠ []) : ∃ g cap, v = .slice (some ⟨g, 0, none⟩) t.length cap ∧ Rt w g t ∧ B ≤ g ∧ t.length ≤ cap ∧ cap ≤ maxLen := by
  have hn : n = t.length := by have := h.1; rw [cellsT_len] at this; omega
  subst hn
  rcases h.2 with ⟨rfl, e0⟩ | ⟨g, cap, cur, rfl, hg, hh, h1, h2, h3, h4⟩
  · exact absurd (List.eq_nil_of_length_eq_zero e0) h0
  · exact ⟨g, cap, rfl, rt_of_take hh (by omega) h4, hg, h1, h2⟩
set_option maxRecDepth 100000 in
set_option maxHeartbeats 1000000 in
theorem cloneT_any (w : World) {T c : Nat} {t : List T3} (h : Rt w T t) (h0 : t ≠ []) (hl : t.length ≤ 1000) :
    Calls Tryd.prog 85 #[.slice (some ⟨T, 0, none⟩) t.length c] w fun e w' => ∃ g cap, e = .returned (.slice (some ⟨g, 0, none⟩) t.length cap) ∧ Rt w' g t ∧ w.heap.size ≤ g ∧ t.length ≤ cap ∧ cap ≤ maxLen ∧ Below w.heap.size w w' := by
  have hq := fun w a l c => run_eqT_nil w a l c
  obtain ⟨i0, hi, hz0, hz1, hz2⟩ := info_parts info_trial
  have HSRC := show Hid (∀ j u, (cellsT t)[j]? = some u → (w.alloc (Obj.cells #[] 96)).cell? ((⟨T, 0, none⟩ : Addr).add j) = some u) from fun j u hu => by
    obtain ⟨hj, _⟩ := List.getElem?_eq_some_iff.1 hu
    rw [cellsT_len] at hj
    obtain ⟨cur, h1, _, h3⟩ := h.later (below_alloc w (Obj.cells #[] 96))
    have hk : j / 3 < t.length := by omega
    obtain ⟨e0, e1, e2⟩ := h3 (j / 3) hk
    have e := cellsT_at t (j / 3) (j % 3) hk (by omega)
    rw [show j / 3 * 3 + j % 3 = j by omega, hu] at e
    rw [Addr.add_lit, Nat.zero_add, cell_of_row _ T _ _ _ _ h1]
    have h4 : j % 3 = 0 ∨ j % 3 = 1 ∨ j % 3 = 2 := by omega
    rcases h4 with h4 | h4 | h4
    · rw [h4] at e
      rw [show j = j / 3 * 3 by omega, e0, e]; rfl
    · rw [h4] at e
      rw [show j = j / 3 * 3 + 1 by omega, e1, e]; rfl
    · rw [h4] at e
      rw [show j = j / 3 * 3 + 2 by omega, e2, e]; rfl
  obtain ⟨xs, hxs⟩ : ∃ xs, xs = cellsT t := ⟨_, rfl⟩
  have HXS := show Hid (xs = cellsT t) from hxs
  rw [← hxs] at HSRC
  have HXL := show Hid (xs.length = t.length * 3) from by rw [hxs]; exact cellsT_len t
  have HX1 := show Hid (∀ u ∈ xs, u.oneCell' = true) from by rw [hxs]; exact cellsT_one t
  clear hxs h
  go_enter Tryd.func85, Tryd.ntmps85
  go_wp2_with (at_builtin; refine wpList_append_own_at _ rfl (.tmp 5) (.tmp 6) 102 rfl w.heap.size 96 i0 _ 3 24 Tryd.underlying102 hi hz0 hz1 hz2 rfl (by decide) (.slice (some ⟨w.heap.size, 0, none⟩) 0 0) 0 [] rfl (World.ownsRow_made w #[] 0 (Nat.le_refl _) (Nat.zero_le _) rfl) ⟨T, 0, none⟩ t.length c xs rfl HXL.out HSRC.out HX1.out (by unfold maxLen; omega) (by omega) (by simp) ?_)
  intro v' w1 hown hgr hnil hat
  have HOW := show Hid (w1.ownsRow w.heap.size 96 3 v' t.length xs) from hown
  have HGR := show Hid ((w.alloc (Obj.cells #[] 96)).grownBy w1 (some w.heap.size)) from hgr
  clear hown hgr hnil hat
  go_wp2_with fail
  go_ret
  have h1 := HOW.out
  rw [HXS.out] at h1
  obtain ⟨g, cap, hv, r1, r2, r3, r4⟩ := rt_of_own h1 h0
  exact ⟨g, cap, by rw [← hv]; rfl, r1, r2, r3, r4, (below_alloc _ _).grown HGR.out (by simp) (fun k hk => by cases hk; exact Nat.le_refl _)⟩
end Go.Proofs.YtpddfooeaecekaaDoor
