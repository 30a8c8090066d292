/-
  The document's table: Has and Find. No condition.
-/
import Derived.Test.YtkpbpecikibohaaDoorFFrom
import Derived.Test.YtkpbpecikibohaaDoorRWord
namespace Go.Proofs.YtkpbpecikibohaaDoor
open Go.RowKit Go.Maps
open Fm (Nd)

section
variable (w : World) {c : Nat} {u : Value} {t : List Nd}
set_option maxHeartbeats 400000 in
theorem rhas_any (h : Tr w c u t) (i : Int) :
    Calls Tryd.prog 6 #[.pointer (some ⟨c, 0, none⟩), .int .i64 i] w fun e w' => e = .returned (.bool (Fm.has t i)) ∧ w' = w := by
  have h0 := h.c0
  obtain ⟨p, cp, rfl⟩ := h.row.form
  have HE := show Hid _ from has_eq t i
  generalize Fm.has t i = r at *
  have hl := h.ok.len
  clear h
  generalize t.length = n at *
  by_cases hi : 0 ≤ i
  all_goals
    go_enter Tryd.func6, Tryd.ntmps6
    go_wp2
    go_ret
    exact ⟨ret_bool (by rw [HE.out, Bool.eq_iff_iff]; simp; try omega), rfl⟩
theorem idx_first {t : List Nd} {n : Nd} {k : Nat} (hk : k < t.length) (h : ∀ j (hj : j < t.length), j < k → t[j] ≠ n) (e : t[k] = n) : numOf t n = k ∧ decide (n ∈ t) = true := by
  have hm : n ∈ t := by rw [← e]; exact List.getElem_mem hk
  refine ⟨?_, decide_eq_true hm⟩
  unfold numOf
  rw [if_pos hm]
  have h1 := List.idxOf_lt_length_iff.2 hm
  have h2 : t[t.idxOf n] = n := List.getElem_idxOf h1
  have h3 : ¬ t.idxOf n < k := fun hlt => h _ h1 hlt h2
  have h4 : ¬ k < t.idxOf n := fun hlt => by
    have := List.not_of_lt_findIdx (p := fun x => x == n) (xs := t) (i := k) hlt
    simp [e] at this
  have h5 : t.idxOf n = k := by omega
  rw [h5]
theorem idx_none {t : List Nd} {n : Nd} (h : ∀ j (hj : j < t.length), t[j] ≠ n) : numOf t n = 0 ∧ decide (n ∈ t) = false := by
  have hm : n ∉ t := fun hm => by
    obtain ⟨j, hj, e⟩ := List.mem_iff_getElem.1 hm
    exact h j hj e
  exact ⟨if_neg hm, decide_eq_false hm⟩
set_option maxRecDepth 100000 in
set_option maxHeartbeats 1000000 in
theorem rfind_any (h : Tr w c u t) (n : Nd) (hn : Fm.good n) :
    Calls Tryd.prog 36 #[.pointer (some ⟨c, 0, none⟩), ndV n] w fun e w' => e = .returned (.tuple #[.int .i64 (numOf t n), .bool (decide (n ∈ t))]) ∧ Below w.heap.size w w' := by
  have HGD := show Hid (∀ x ∈ t, Fm.good x) from h.ok.gd
  have HGN := show Hid (Fm.good n) from hn
  have hlen := h.ok.len
  have HF := show Hid (∀ k (hk : k < t.length), (∀ j (hj : j < t.length), j < k → t[j] ≠ n) → t[k] = n → numOf t n = k ∧ decide (n ∈ t) = true) from fun k hk h e => idx_first hk h e
  have HO := show Hid ((∀ j (hj : j < t.length), t[j] ≠ n) → numOf t n = 0 ∧ decide (n ∈ t) = false) from fun h => idx_none h
  generalize numOf t n = nu at *
  generalize decide (n ∈ t) = dm at *
  obtain ⟨p, cp, hv, hc1, hc2, hat⟩ := h.row.isR.at
  have HAT := show Hid (0 < t.length → ∃ b o, p = some ⟨b, o, none⟩ ∧ ∀ w', Below w.heap.size w w' → ∀ k (hk : k < t.length), At4 w' b (o + k * 4) t[k]) from hat
  subst hv
  have HC := show Hid (∀ w', Below w.heap.size w w' → w'.cell? ⟨c, 0, none⟩ = some (.slice p t.length cp)) from fun w' hb => (h.later hb).c0
  obtain ⟨w0, hw0⟩ : ∃ w0, w0 = w.alloc (Obj.cells #[.int .i64 n.k, .string n.s, .int .i64 n.l, .int .i64 n.r] 54) := ⟨_, rfl⟩
  have HB := show Hid (Below w.heap.size w w0) from by rw [hw0]; exact below_alloc w _
  have HR := show Hid (N4 w0 w.heap.size n) from by rw [hw0]; exact heap_alloc_new w _
  unfold ndV at *
  have HEQ := show Hid (∀ (x : Nd), x ∈ t → ∀ w, (Op.equalIn 10000 54 (.agg #[.int .i64 x.k, .string x.s, .int .i64 x.l, .int .i64 x.r]) (.agg #[.int .i64 n.k, .string n.s, .int .i64 n.l, .int .i64 n.r])).run Tryd.prog w = .ok (decide (x = n)) w) from fun x hx w => eq_nd w (HGD.out x hx) hn
  clear h hn hat
  go_enter Tryd.func36, Tryd.ntmps36
  go_wp2_with fail
  rw [← hw0]
  clear hw0
  go_loopw [6] (fun i wr => ∃ k d : Nat, k ≤ t.length ∧ i = .int .i64 (k : Int) ∧ wr = w0.drewN d ∧ Hid (∀ j (hj : j < t.length), j < k → t[j] ≠ n)) (fun i _ => t.length - (intOf i).toNat)
  case atStart => exact ⟨0, 0, by omega, rfl, rfl, fun j hj h => by omega⟩
  case round =>
    obtain ⟨k, d, hk, rfl, rfl, HI⟩ := hrel
    have c0 := HC.out w0 HB.out
    have d0 := HR.out.c0; have d1 := HR.out.c1; have d2 := HR.out.c2; have d3 := HR.out.c3
    by_cases hlt : k < t.length
    · obtain ⟨rb, ro, rfl, hat⟩ := HAT.out (by omega)
      have hA := hat w0 HB.out k hlt
      have hki : (k : Int) < (t.length : Int) := by omega
      have heq := HEQ.out t[k] (List.getElem_mem hlt)
      have HFK := show Hid (t[k] = n → nu = k ∧ dm = true) from HF.out k hlt HI.out
      have HNK := show Hid (t[k] ≠ n → ∀ j (hj : j < t.length), j < k + 1 → t[j] ≠ n) from fun hne j hj h => by
        by_cases e : j = k
        · subst e; exact hne
        · exact HI.out j hj (by omega)
      generalize t[k] = nd at *
      obtain ⟨q, hq⟩ : ∃ q, q = decide (nd = n) := ⟨_, rfl⟩
      rw [← hq] at heq
      have HQ := show Hid (q = decide (nd = n)) from hq
      have a0 := hA.c0; have a1 := hA.c1; have a2 := hA.c2; have a3 := hA.c3
      clear hq hA hat HEQ HF HO
      go_wp2_with fail
      go_quiet (fail)
      cases q
      · have hne : nd ≠ n := of_decide_eq_false HQ.out.symm
        have HN2 := show Hid (∀ j (hj : j < t.length), j < k + 1 → t[j] ≠ n) from HNK.out hne
        clear hne HNK HFK HQ
        go_wp2_with fail
        go_roundw
        case rel => exact ⟨k + 1, _, by omega, by go_num, rfl, HN2⟩
        case measure => first | (simp [intOf]; done) | (simp [intOf]; omega)
      · have he : nd = n := of_decide_eq_true HQ.out.symm
        obtain ⟨hnu, hdm⟩ := HFK.out he
        subst hnu hdm
        clear he HNK HFK HQ
        go_wp2_with fail
        go_ret2
        exact ⟨rfl, ⟨HB.out.os, HB.out.tape, HB.out.output, HB.out.size, HB.out.block⟩⟩
    · have hki : ¬ (k : Int) < (t.length : Int) := by omega
      obtain ⟨hnu, hdm⟩ := HO.out fun j hj => HI.out j hj (by omega)
      subst hnu hdm
      clear HEQ HF HO
      go_wp2_with fail
      go_ret2
      exact ⟨rfl, ⟨HB.out.os, HB.out.tape, HB.out.output, HB.out.size, HB.out.block⟩⟩
end
end Go.Proofs.YtkpbpecikibohaaDoor
