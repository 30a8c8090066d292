/-
  The law's call asks: what two tables with the same rows tell is the same. No condition beyond values that a machine can hold.
-/
import Derived.Test.YtphoeedccknihaaLPlayC
namespace Go.Proofs.Ytphoeedccknihaa
open Go.RowKit Go.Maps
open Fm (Nd)

theorem IsI.later {w w' : World} {B : Nat} {v : Value} {l : List Nat} (h : IsI w B v l) (hb : Below w.heap.size w w') : IsI w' B v l := by
  refine ⟨h.1, ?_⟩
  rcases h.2 with h2 | ⟨g, cap, cur, rfl, hg, hh, r⟩
  · exact Or.inl h2
  · exact Or.inr ⟨g, cap, cur, rfl, hg, (hb.block g (lt_of_block hh)).trans hh, r⟩
theorem IsI.drewN {w : World} {B : Nat} {v : Value} {l : List Nat} (h : IsI w B v l) (n : Nat) : IsI (w.drewN n) B v l := h.later ⟨rfl, rfl, rfl, Nat.le_refl _, fun _ _ => rfl⟩
set_option maxRecDepth 100000 in
set_option maxHeartbeats 16000000 in
theorem asks_any (w0 w : World) {b m c : Nat} {v u : Value} {t : List Nd} (h : Pair w0 w b m v c u t t) (id : Int) (n : Nd) (hn : Fm.good n) :
    Calls Try.prog 11 #[.pointer (some ⟨b, 0, none⟩), .pointer (some ⟨c, 0, none⟩), .int .i64 id, ndV n] w fun e w' => e = .returned (.bool true) ∧ Below w.heap.size w w' := by
  obtain ⟨w1, hw1⟩ : ∃ w1, w1 = w.alloc (Obj.cells #[.int .i64 n.k, .string n.s, .int .i64 n.l, .int .i64 n.r] 34) := ⟨_, rfl⟩
  have HB1 := show Hid (Below w.heap.size w w1) from by rw [hw1]; exact below_alloc w _
  have HN1 := show Hid (N4 w1 w.heap.size n) from by rw [hw1]; exact heap_alloc_new w _
  have KN := show Hid (∀ w', Below w.heap.size w w' → Calls Try.prog 38 #[.pointer (some ⟨b, 0, none⟩), .int .i64 id] w' fun e w'' => e = .returned (.tuple #[.agg #[.int .i64 (nodeOf t id).k, .string (nodeOf t id).s, .int .i64 (nodeOf t id).l, .int .i64 (nodeOf t id).r], .bool (Fm.has t id)]) ∧ Below w'.heap.size w' w'') from fun w' hb => node_any w' (h.tb.later hb) id
  have KH := show Hid (∀ w', Below w.heap.size w w' → Calls Try.prog 39 #[.pointer (some ⟨c, 0, none⟩), .int .i64 id] w' fun e w'' => e = .returned (.bool (Fm.has t id)) ∧ w'' = w') from fun w' hb => rhas_any w' (h.tr.later hb) id
  have KF := show Hid (∀ w', Below w.heap.size w w' → Calls Try.prog 21 #[.pointer (some ⟨b, 0, none⟩), .agg #[.int .i64 n.k, .string n.s, .int .i64 n.l, .int .i64 n.r]] w' fun e w'' => e = .returned (.tuple #[.int .i64 (numOf t n), .bool (decide (n ∈ t))]) ∧ Below w'.heap.size w' w'') from fun w' hb => find_any w' (h.tb.later hb) n hn
  have KG := show Hid (∀ w', Below w.heap.size w w' → Calls Try.prog 40 #[.pointer (some ⟨c, 0, none⟩), .agg #[.int .i64 n.k, .string n.s, .int .i64 n.l, .int .i64 n.r]] w' fun e w'' => e = .returned (.tuple #[.int .i64 (numOf t n), .bool (decide (n ∈ t))]) ∧ Below w'.heap.size w' w'') from fun w' hb => rfind_any w' (h.tr.later hb) n hn
  have KB := show Hid (∀ w', Below w.heap.size w w' → Calls Try.prog 41 #[.pointer (some ⟨b, 0, none⟩), .int .i64 id] w' fun e w'' => ∃ x, e = .returned (.tuple #[x, .int .i64 (belowR t id).2]) ∧ IsI w'' w'.heap.size x (belowR t id).1 ∧ Below w'.heap.size w' w'') from fun w' hb => below_any w' (h.tb.later hb) id
  have KC := show Hid (∀ w', Below w.heap.size w w' → Calls Try.prog 42 #[.pointer (some ⟨c, 0, none⟩), .int .i64 id] w' fun e w'' => ∃ x, e = .returned (.tuple #[x, .int .i64 (belowR t id).2]) ∧ IsI w'' w'.heap.size x (belowR t id).1 ∧ Below w'.heap.size w' w'') from fun w' hb => rbelow_any w' (h.tr.later hb) id
  have KL := show Hid (∀ w', Below w.heap.size w w' → Calls Try.prog 44 #[.pointer (some ⟨b, 0, none⟩)] w' fun e w'' => e = .returned (.int .i64 (t.length : Int)) ∧ w'' = w') from fun w' hb => len_any w' (h.tb.later hb)
  obtain ⟨p, cp, hu, hc1, hc2, hat⟩ := h.tr.row.isR.at
  subst hu
  have HCT := show Hid (∀ w', Below w.heap.size w w' → w'.cell? ⟨c, 0, none⟩ = some (.slice p t.length cp)) from fun w' hb => (h.tr.later hb).c0
  have HAT := show Hid (∀ w', Below w.heap.size w w' → Fm.has t id = true → ∃ j : Nat, id = j ∧ j < t.length ∧ ∃ rb ro, p = some ⟨rb, ro, none⟩ ∧ At4 w' rb (ro + j * 4) (nodeOf t id)) from fun w' hb hh => by
    obtain ⟨h0, h1⟩ := Fm.has_iff.1 hh
    obtain ⟨j, rfl⟩ : ∃ j : Nat, id = j := ⟨id.toNat, by omega⟩
    have hj : j < t.length := by omega
    obtain ⟨rb, ro, hp, hat2⟩ := hat (by omega)
    refine ⟨j, rfl, hj, rb, ro, hp, ?_⟩
    have e : nodeOf t (j : Int) = t[j] := by
      unfold nodeOf
      rw [if_pos hh, Int.toNat_natCast, List.getD_eq_getElem?_getD, List.getElem?_eq_getElem hj]
      rfl
    rw [e]
    exact hat2 w' hb j hj
  have HZ := show Hid (Fm.has t id = false → nodeOf t id = Fm.z) from fun hh => by unfold nodeOf; rw [hh]; rfl
  generalize nodeOf t id = nd at *
  generalize Fm.has t id = hv at *
  generalize numOf t n = nu at *
  generalize decide (n ∈ t) = dm at *
  generalize belowR t id = br at *
  obtain ⟨bl, be⟩ := br
  unfold ndV
  obtain ⟨nk, ns, nl, nr⟩ := n
  simp only at hw1 KF KG KB KC ⊢
  clear h hn hat
  go_enter Try.func11, Try.ntmps11
  go_wp2_with fail
  rw [← hw1]
  clear hw1
  refine (KN.out _ HB1.out).mono ?_
  rintro e w2 ⟨rfl, hb2⟩
  have HB2 := show Hid (Below w.heap.size w w2) from HB1.out.trans (hb2.mono HB1.out.size)
  have HN2 := show Hid (N4 w2 w.heap.size ⟨nk, ns, nl, nr⟩) from (hb2.block _ (lt_of_block HN1.out)).trans HN1.out
  clear hb2 KN HB1 HN1
  go_wp2_with fail
  have HB3 := show Hid (Below w.heap.size w ((w2.alloc (Obj.cells #[.int .i64 nd.k, .string nd.s, .int .i64 nd.l, .int .i64 nd.r] 34)).alloc (Obj.cells #[.int .i64 0, .string ⟨#[]⟩, .int .i64 0, .int .i64 0] 34))) from (HB2.out.alloc HB2.out.size _).alloc (by have := HB2.out.size; simp; omega) _
  have HN3 := show Hid (N4 ((w2.alloc (Obj.cells #[.int .i64 nd.k, .string nd.s, .int .i64 nd.l, .int .i64 nd.r] 34)).alloc (Obj.cells #[.int .i64 0, .string ⟨#[]⟩, .int .i64 0, .int .i64 0] 34)) w.heap.size ⟨nk, ns, nl, nr⟩ ∧ N4 ((w2.alloc (Obj.cells #[.int .i64 nd.k, .string nd.s, .int .i64 nd.l, .int .i64 nd.r] 34)).alloc (Obj.cells #[.int .i64 0, .string ⟨#[]⟩, .int .i64 0, .int .i64 0] 34)) w2.heap.size nd ∧ N4 ((w2.alloc (Obj.cells #[.int .i64 nd.k, .string nd.s, .int .i64 nd.l, .int .i64 nd.r] 34)).alloc (Obj.cells #[.int .i64 0, .string ⟨#[]⟩, .int .i64 0, .int .i64 0] 34)) (w2.heap.size + 1) Fm.z) from ⟨(HN2.out.alloc _).alloc _, heap_alloc2_old _ _ _, heap_alloc2_new _ _ _⟩
  have HLT := show Hid (w.heap.size < w2.heap.size) from lt_of_block HN2.out
  generalize (w2.alloc (Obj.cells #[.int .i64 nd.k, .string nd.s, .int .i64 nd.l, .int .i64 nd.r] 34)).alloc (Obj.cells #[.int .i64 0, .string ⟨#[]⟩, .int .i64 0, .int .i64 0] 34) = w3 at *
  refine (KH.out _ HB3.out).mono ?_
  rintro e w4 ⟨rfl, hw4⟩
  subst w4
  cases hv
  · have hz := HZ.out rfl
    subst hz
    obtain ⟨w4, hw4⟩ : ∃ w4, w4 = w3 := ⟨_, rfl⟩
    have n0 : N4 w4 w.heap.size ⟨nk, ns, nl, nr⟩ := hw4 ▸ HN3.out.1
    have n1 : N4 w4 w2.heap.size Fm.z := hw4 ▸ HN3.out.2.1
    have n2 : N4 w4 (w2.heap.size + 1) Fm.z := hw4 ▸ HN3.out.2.2
    have hb4 : Below w.heap.size w w4 := hw4 ▸ HB3.out
    subst w4
    have HN4 := show Hid (N4 w3 w.heap.size ⟨nk, ns, nl, nr⟩ ∧ N4 w3 w2.heap.size Fm.z ∧ N4 w3 (w2.heap.size + 1) Fm.z) from ⟨n0, n1, n2⟩
    have HB4 := show Hid (Below w.heap.size w w3) from hb4
    clear n0 n1 n2 hb4
    have d0 := HN4.out.1.c0; have d1 := HN4.out.1.c1; have d2 := HN4.out.1.c2; have d3 := HN4.out.1.c3
    simp only at d0 d1 d2 d3
    go_wp2_with fail
    refine (KF.out _ HB4.out).mono ?_
    rintro e w5 ⟨rfl, hb5⟩
    have HB5 := show Hid (Below w.heap.size w w5) from HB4.out.trans (hb5.mono HB4.out.size)
    have HN5 := show Hid (N4 w5 w.heap.size ⟨nk, ns, nl, nr⟩ ∧ N4 w5 w2.heap.size Fm.z ∧ N4 w5 (w2.heap.size + 1) Fm.z) from ⟨(hb5.block _ (lt_of_block HN4.out.1)).trans HN4.out.1, (hb5.block _ (lt_of_block HN4.out.2.1)).trans HN4.out.2.1, (hb5.block _ (lt_of_block HN4.out.2.2)).trans HN4.out.2.2⟩
    clear hb5 HN4 HB4 d0 d1 d2 d3
    have d0 := HN5.out.1.c0; have d1 := HN5.out.1.c1; have d2 := HN5.out.1.c2; have d3 := HN5.out.1.c3
    simp only at d0 d1 d2 d3
    go_wp2_with fail
    refine (KG.out _ HB5.out).mono ?_
    rintro e w6 ⟨rfl, hb6⟩
    have HB6 := show Hid (Below w.heap.size w w6) from HB5.out.trans (hb6.mono HB5.out.size)
    have HN6 := show Hid (N4 w6 w2.heap.size Fm.z ∧ N4 w6 (w2.heap.size + 1) Fm.z) from ⟨(hb6.block _ (lt_of_block HN5.out.2.1)).trans HN5.out.2.1, (hb6.block _ (lt_of_block HN5.out.2.2)).trans HN5.out.2.2⟩
    clear hb6 HN5 HB5 d0 d1 d2 d3
    go_wp2_with fail
    refine (KB.out _ HB6.out).mono ?_
    rintro e w7 ⟨x7, rfl, hI7, hb7⟩
    have HB7 := show Hid (Below w.heap.size w w7) from HB6.out.trans (hb7.mono HB6.out.size)
    have HN7 := show Hid (N4 w7 w2.heap.size Fm.z ∧ N4 w7 (w2.heap.size + 1) Fm.z) from ⟨(hb7.block _ (lt_of_block HN6.out.1)).trans HN6.out.1, (hb7.block _ (lt_of_block HN6.out.2)).trans HN6.out.2⟩
    have HI7 := show Hid (IsI w7 w6.heap.size x7 bl) from hI7
    clear hb7 hI7 HN6 HB6
    go_wp2_with fail
    refine (KC.out _ HB7.out).mono ?_
    rintro e w8 ⟨x8, rfl, hI8, hb8⟩
    have HB8 := show Hid (Below w.heap.size w w8) from HB7.out.trans (hb8.mono HB7.out.size)
    have HN8 := show Hid (N4 w8 w2.heap.size Fm.z ∧ N4 w8 (w2.heap.size + 1) Fm.z) from ⟨(hb8.block _ (lt_of_block HN7.out.1)).trans HN7.out.1, (hb8.block _ (lt_of_block HN7.out.2)).trans HN7.out.2⟩
    have HI8 := show Hid (IsI w8 w7.heap.size x8 bl ∧ IsI w8 w6.heap.size x7 bl) from ⟨hI8, HI7.out.later hb8⟩
    clear hb8 hI8 HN7 HB7 HI7
    have a0 := HN8.out.1.c0; have a1 := HN8.out.1.c1; have a2 := HN8.out.1.c2; have a3 := HN8.out.1.c3
    have b0 := HN8.out.2.c0; have b1 := HN8.out.2.c1; have b2 := HN8.out.2.c2; have b3 := HN8.out.2.c3
    have c8 := HCT.out w8 HB8.out
    have KI := show Hid (∀ n, Calls Try.prog 43 #[x7, x8] (w8.drewN n) fun e w'' => e = .returned (.bool true) ∧ ∃ m, w'' = (w8.drewN n).drewN m) from fun n => ints_eq (w8.drewN n) _ _ _ _ bl (IsI.drewN HI8.out.2 n) (IsI.drewN HI8.out.1 n)
    have KHH := show Hid (∀ n, Calls Try.prog 39 #[.pointer (some ⟨c, 0, none⟩), .int .i64 id] (w8.drewN n) fun e w'' => e = .returned (.bool false) ∧ w'' = w8.drewN n) from fun n => KH.out _ (below_drewN HB8.out n)
    have KLL := show Hid (∀ n, Calls Try.prog 44 #[.pointer (some ⟨b, 0, none⟩)] (w8.drewN n) fun e w'' => e = .returned (.int .i64 (t.length : Int)) ∧ w'' = w8.drewN n) from fun n => KL.out _ (below_drewN HB8.out n)
    go_wp2_with fail
    go_quiet ((first | (go_at_call 39; exact Calls.quiet_of_same (KHH.out _)) | (go_at_call 43; exact Calls.quiet_of (KI.out _)) | (go_at_call 44; exact Calls.quiet_of_same (KLL.out _))))
    go_wp2_with fail
    go_ret
    exact ⟨rfl, below_drewN HB8.out _⟩
  · obtain ⟨j, rfl, hj, rb, ro, rfl, hA⟩ := HAT.out w3 HB3.out rfl
    have c0 := HCT.out w3 HB3.out
    have g0 := hA.c0; have g1 := hA.c1; have g2 := hA.c2; have g3 := hA.c3
    have z0 := HN3.out.2.2.c0; have z1 := HN3.out.2.2.c1; have z2 := HN3.out.2.2.c2; have z3 := HN3.out.2.2.c3; have zf := HN3.out.2.2.fr
    have hji : (j : Int) < (t.length : Int) := by omega
    have HW := show Hid (Below w.heap.size w ((((w3.setCell ⟨w2.heap.size + 1, 0, none⟩ (.int .i64 nd.k)).setCell ⟨w2.heap.size + 1, 1, none⟩ (.string nd.s)).setCell ⟨w2.heap.size + 1, 2, none⟩ (.int .i64 nd.l)).setCell ⟨w2.heap.size + 1, 3, none⟩ (.int .i64 nd.r)) ∧ N4 ((((w3.setCell ⟨w2.heap.size + 1, 0, none⟩ (.int .i64 nd.k)).setCell ⟨w2.heap.size + 1, 1, none⟩ (.string nd.s)).setCell ⟨w2.heap.size + 1, 2, none⟩ (.int .i64 nd.l)).setCell ⟨w2.heap.size + 1, 3, none⟩ (.int .i64 nd.r)) w.heap.size ⟨nk, ns, nl, nr⟩ ∧ N4 ((((w3.setCell ⟨w2.heap.size + 1, 0, none⟩ (.int .i64 nd.k)).setCell ⟨w2.heap.size + 1, 1, none⟩ (.string nd.s)).setCell ⟨w2.heap.size + 1, 2, none⟩ (.int .i64 nd.l)).setCell ⟨w2.heap.size + 1, 3, none⟩ (.int .i64 nd.r)) w2.heap.size nd ∧ N4 ((((w3.setCell ⟨w2.heap.size + 1, 0, none⟩ (.int .i64 nd.k)).setCell ⟨w2.heap.size + 1, 1, none⟩ (.string nd.s)).setCell ⟨w2.heap.size + 1, 2, none⟩ (.int .i64 nd.l)).setCell ⟨w2.heap.size + 1, 3, none⟩ (.int .i64 nd.r)) (w2.heap.size + 1) nd) from by
      have hlt := HLT.out
      refine ⟨below_set4 HB3.out (by omega) _ _ _ _, ?_, ?_, HN3.out.2.2.set nd⟩
      · exact (Below.heap_setCell _ _ _ _ (by simp; omega)).trans ((Below.heap_setCell _ _ _ _ (by simp; omega)).trans ((Below.heap_setCell _ _ _ _ (by simp; omega)).trans ((Below.heap_setCell _ _ _ _ (by simp; omega)).trans HN3.out.1)))
      · exact (Below.heap_setCell _ _ _ _ (by simp)).trans ((Below.heap_setCell _ _ _ _ (by simp)).trans ((Below.heap_setCell _ _ _ _ (by simp)).trans ((Below.heap_setCell _ _ _ _ (by simp)).trans HN3.out.2.1)))
    have dd0 := HW.out.2.1.c0; have dd1 := HW.out.2.1.c1; have dd2 := HW.out.2.1.c2; have dd3 := HW.out.2.1.c3
    clear hA
    go_wp2_with fail
    have n0 := HW.out.2.1; have n1 := HW.out.2.2.1; have n2 := HW.out.2.2.2; have hb4 := HW.out.1
    clear HW dd0 dd1 dd2 dd3 z0 z1 z2 z3 zf g0 g1 g2 g3 c0
    generalize (((w3.setCell ⟨w2.heap.size + 1, 0, none⟩ (.int .i64 nd.k)).setCell ⟨w2.heap.size + 1, 1, none⟩ (.string nd.s)).setCell ⟨w2.heap.size + 1, 2, none⟩ (.int .i64 nd.l)).setCell ⟨w2.heap.size + 1, 3, none⟩ (.int .i64 nd.r) = w4 at *
    have HN4 := show Hid (N4 w4 w.heap.size ⟨nk, ns, nl, nr⟩ ∧ N4 w4 w2.heap.size nd ∧ N4 w4 (w2.heap.size + 1) nd) from ⟨n0, n1, n2⟩
    have HB4 := show Hid (Below w.heap.size w w4) from hb4
    clear n0 n1 n2 hb4
    refine (KF.out _ HB4.out).mono ?_
    rintro e w5 ⟨rfl, hb5⟩
    have HB5 := show Hid (Below w.heap.size w w5) from HB4.out.trans (hb5.mono HB4.out.size)
    have HN5 := show Hid (N4 w5 w.heap.size ⟨nk, ns, nl, nr⟩ ∧ N4 w5 w2.heap.size nd ∧ N4 w5 (w2.heap.size + 1) nd) from ⟨(hb5.block _ (lt_of_block HN4.out.1)).trans HN4.out.1, (hb5.block _ (lt_of_block HN4.out.2.1)).trans HN4.out.2.1, (hb5.block _ (lt_of_block HN4.out.2.2)).trans HN4.out.2.2⟩
    clear hb5 HN4 HB4
    have d0 := HN5.out.1.c0; have d1 := HN5.out.1.c1; have d2 := HN5.out.1.c2; have d3 := HN5.out.1.c3
    simp only at d0 d1 d2 d3
    go_wp2_with fail
    refine (KG.out _ HB5.out).mono ?_
    rintro e w6 ⟨rfl, hb6⟩
    have HB6 := show Hid (Below w.heap.size w w6) from HB5.out.trans (hb6.mono HB5.out.size)
    have HN6 := show Hid (N4 w6 w2.heap.size nd ∧ N4 w6 (w2.heap.size + 1) nd) from ⟨(hb6.block _ (lt_of_block HN5.out.2.1)).trans HN5.out.2.1, (hb6.block _ (lt_of_block HN5.out.2.2)).trans HN5.out.2.2⟩
    clear hb6 HN5 HB5 d0 d1 d2 d3
    go_wp2_with fail
    refine (KB.out _ HB6.out).mono ?_
    rintro e w7 ⟨x7, rfl, hI7, hb7⟩
    have HB7 := show Hid (Below w.heap.size w w7) from HB6.out.trans (hb7.mono HB6.out.size)
    have HN7 := show Hid (N4 w7 w2.heap.size nd ∧ N4 w7 (w2.heap.size + 1) nd) from ⟨(hb7.block _ (lt_of_block HN6.out.1)).trans HN6.out.1, (hb7.block _ (lt_of_block HN6.out.2)).trans HN6.out.2⟩
    have HI7 := show Hid (IsI w7 w6.heap.size x7 bl) from hI7
    clear hb7 hI7 HN6 HB6
    go_wp2_with fail
    refine (KC.out _ HB7.out).mono ?_
    rintro e w8 ⟨x8, rfl, hI8, hb8⟩
    have HB8 := show Hid (Below w.heap.size w w8) from HB7.out.trans (hb8.mono HB7.out.size)
    have HN8 := show Hid (N4 w8 w2.heap.size nd ∧ N4 w8 (w2.heap.size + 1) nd) from ⟨(hb8.block _ (lt_of_block HN7.out.1)).trans HN7.out.1, (hb8.block _ (lt_of_block HN7.out.2)).trans HN7.out.2⟩
    have HI8 := show Hid (IsI w8 w7.heap.size x8 bl ∧ IsI w8 w6.heap.size x7 bl) from ⟨hI8, HI7.out.later hb8⟩
    clear hb8 hI8 HN7 HB7 HI7
    have a0 := HN8.out.1.c0; have a1 := HN8.out.1.c1; have a2 := HN8.out.1.c2; have a3 := HN8.out.1.c3
    have b0 := HN8.out.2.c0; have b1 := HN8.out.2.c1; have b2 := HN8.out.2.c2; have b3 := HN8.out.2.c3
    have c8 := HCT.out w8 HB8.out
    have KI := show Hid (∀ n, Calls Try.prog 43 #[x7, x8] (w8.drewN n) fun e w'' => e = .returned (.bool true) ∧ ∃ m, w'' = (w8.drewN n).drewN m) from fun n => ints_eq (w8.drewN n) _ _ _ _ bl (IsI.drewN HI8.out.2 n) (IsI.drewN HI8.out.1 n)
    have KHH := show Hid (∀ n, Calls Try.prog 39 #[.pointer (some ⟨c, 0, none⟩), .int .i64 (j : Int)] (w8.drewN n) fun e w'' => e = .returned (.bool true) ∧ w'' = w8.drewN n) from fun n => KH.out _ (below_drewN HB8.out n)
    have KLL := show Hid (∀ n, Calls Try.prog 44 #[.pointer (some ⟨b, 0, none⟩)] (w8.drewN n) fun e w'' => e = .returned (.int .i64 (t.length : Int)) ∧ w'' = w8.drewN n) from fun n => KL.out _ (below_drewN HB8.out n)
    go_wp2_with fail
    go_quiet ((first | (go_at_call 39; exact Calls.quiet_of_same (KHH.out _)) | (go_at_call 43; exact Calls.quiet_of (KI.out _)) | (go_at_call 44; exact Calls.quiet_of_same (KLL.out _))))
    go_wp2_with fail
    go_ret
    exact ⟨rfl, below_drewN HB8.out _⟩
end Go.Proofs.Ytphoeedccknihaa
