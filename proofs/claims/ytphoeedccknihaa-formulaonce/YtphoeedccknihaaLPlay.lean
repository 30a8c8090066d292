/-
  The law's call play: an action on both tables. No condition beyond values that a machine can hold.
-/
import Derived.Test.YtphoeedccknihaaLAct
namespace Go.Proofs.Ytphoeedccknihaa
open Go.RowKit Go.Maps
open Fm (Nd)

section
variable {w0 w : World} {b m c g : Nat} {v u : Value} {t r t' r' : List Nd} {x : Ac} {f : FuncId} {args : Array Value} {E : Ending}
theorem pairT (hC : Calls Try.prog f args w fun e w' => e = E ∧ After w b m v t' w') (hP : Pair w0 w b m v c u t r) (hA : A8 w g x) (hg : ¬ Ft b m v g) :
    Calls Try.prog f args w fun e w' => e = E ∧ ∃ v', Pair w0 w' b m v' c u t' r ∧ A8 w' g x := hC.mono fun e w' ⟨he, ha⟩ => by
  have hk : w'.heap[g]? = w.heap[g]? := by
    obtain ⟨v', _, _, hK⟩ := ha
    exact hK.block g (lt_of_block hA) hg
  obtain ⟨v', hp⟩ := hP.stepT ha
  exact ⟨he, v', hp, hk.trans hA⟩
theorem pairR (hC : Calls Try.prog f args w fun e w' => e = E ∧ AfterR w c u r' w') (hP : Pair w0 w b m v c u t r) :
    Calls Try.prog f args w fun e w' => e = E ∧ ∃ u', Pair w0 w' b m v c u' t r' := hC.mono fun _ _ ⟨he, ha⟩ => ⟨he, hP.stepR ha⟩
end
/-- What play leaves. -/
def Played (w0 w' : World) (b m c : Nat) (q : Bool) (t r : List Nd) (x : Ac) : Prop := (t = r → q = true) ∧ ∃ v' u', Pair w0 w' b m v' c u' (actR t x) (actR r x)
set_option maxRecDepth 100000 in
set_option maxHeartbeats 4000000 in
theorem play0 (w0 w : World) {b m c : Nat} {v u : Value} {t r : List Nd} (h : Pair w0 w b m v c u t r) (s : ByteArray) (a bb : Int) (nd : Nd) (_hs : s.size ≤ 140737488351232) (_ha : Fm.i64 a) (_hb : Fm.i64 bb) (_hn : Fm.good nd) :
    Calls Try.prog 10 #[.pointer (some ⟨b, 0, none⟩), .pointer (some ⟨c, 0, none⟩), acV ⟨0, s, a, bb, nd⟩] w fun e w' => ∃ q, e = .returned (.bool q) ∧ Played w0 w' b m c q t r ⟨0, s, a, bb, nd⟩ := by
  obtain ⟨w1, hw1⟩ : ∃ w1, w1 = w.alloc (Obj.cells #[.int .i64 0, .string s, .int .i64 a, .int .i64 bb, .int .i64 nd.k, .string nd.s, .int .i64 nd.l, .int .i64 nd.r] 36) := ⟨_, rfl⟩
  have hP1 : Pair w0 w1 b m v c u t r := h.later (by rw [hw1]; exact below_alloc w _)
  have hA1 : A8 w1 w.heap.size ⟨0, s, a, bb, nd⟩ := by rw [hw1]; exact heap_alloc_new w _
  have hF1 : ¬ Ft b m v w.heap.size := fun e => by have := h.tb.foot _ e; omega
  have KT := show Hid (Calls Try.prog 18 #[.pointer (some ⟨b, 0, none⟩), .string s] w1 fun e w' => e = .returned (.tuple #[.int .i64 (Fm.put t (atomN s)).1, .int .i64 (Fm.put t (atomN s)).2.1]) ∧ ∃ v', Pair w0 w' b m v' c u (Fm.put t (atomN s)).2.2 r ∧ A8 w' w.heap.size ⟨0, s, a, bb, nd⟩) from pairT (atom_any w1 hP1.tb s _hs) hP1 hA1 hF1
  have KR := show Hid (∀ (w2 : World) (v2 : Value), Pair w0 w2 b m v2 c u (Fm.put t (atomN s)).2.2 r → Calls Try.prog 23 #[.pointer (some ⟨c, 0, none⟩), .string s] w2 fun e w' => e = .returned (.tuple #[.int .i64 (Fm.put r (atomN s)).1, .int .i64 (Fm.put r (atomN s)).2.1]) ∧ ∃ u', Pair w0 w' b m v2 c u' (Fm.put t (atomN s)).2.2 (Fm.put r (atomN s)).2.2) from fun w2 v2 h2 => pairR (ratom_any w2 h2.tr s _hs) h2
  have HET := show Hid (actR t ⟨0, s, a, bb, nd⟩ = (Fm.put t (atomN s)).2.2 ∧ actR r ⟨0, s, a, bb, nd⟩ = (Fm.put r (atomN s)).2.2) from ⟨rfl, rfl⟩
  have HEQ := show Hid (t = r → Fm.put t (atomN s) = Fm.put r (atomN s)) from fun e => by rw [e]
  generalize Fm.put t (atomN s) = pt at *
  generalize Fm.put r (atomN s) = pr at *
  obtain ⟨p1, p2, p3⟩ := pt
  obtain ⟨r1, r2, r3⟩ := pr
  simp only at KT KR HET HEQ
  unfold acV
  obtain ⟨nk, ns, nl, nr⟩ := nd
  simp only at hw1 KR KT ⊢
  clear h hP1 hA1 hF1
  go_enter Try.func10, Try.ntmps10
  go_wp2_with fail
  rw [← hw1]
  clear hw1
  refine KT.out.mono ?_
  rintro e w2 ⟨rfl, v2, hp2, ha2⟩
  have HP2 := show Hid (Pair w0 w2 b m v2 c u p3 r) from hp2
  have dc1 := ha2.at.c1
  simp only [Nat.zero_add] at dc1
  clear hp2 ha2 KT
  go_wp2_with fail
  refine (KR.out _ _ HP2.out).mono ?_
  rintro e w3 ⟨rfl, u3, hp3⟩
  have HP3 := show Hid (Pair w0 w3 b m v2 c u3 p3 r3) from hp3
  clear hp3 KR dc1
  have HF := show Hid (∃ v' u', Pair w0 w3 b m v' c u' (actR t ⟨0, s, a, bb, ⟨nk, ns, nl, nr⟩⟩) (actR r ⟨0, s, a, bb, ⟨nk, ns, nl, nr⟩⟩)) from by rw [HET.out.1, HET.out.2]; exact ⟨v2, u3, HP3.out⟩
  by_cases h1 : p1 = r1
  · subst h1
    by_cases h2 : p2 = r2
    · subst h2
      go_wp2_with fail
      go_ret
      exact ⟨_, rfl, fun _ => by simp, HF.out⟩
    · have hne : (p2 == r2) = false := beq_eq_false_iff_ne.2 h2
      go_wp2_with fail
      go_ret
      exact ⟨_, rfl, fun e => absurd (Prod.mk.inj (Prod.mk.inj (HEQ.out e)).2).1 h2, HF.out⟩
  · have hne : (p1 == r1) = false := beq_eq_false_iff_ne.2 h1
    go_wp2_with fail
    go_ret
    exact ⟨_, rfl, fun e => absurd (Prod.mk.inj (HEQ.out e)).1 h1, HF.out⟩
set_option maxRecDepth 100000 in
set_option maxHeartbeats 4000000 in
theorem play1 (w0 w : World) {b m c : Nat} {v u : Value} {t r : List Nd} (h : Pair w0 w b m v c u t r) (s : ByteArray) (a bb : Int) (nd : Nd) (_hs : s.size ≤ 140737488351232) (_ha : Fm.i64 a) (_hb : Fm.i64 bb) (_hn : Fm.good nd) :
    Calls Try.prog 10 #[.pointer (some ⟨b, 0, none⟩), .pointer (some ⟨c, 0, none⟩), acV ⟨1, s, a, bb, nd⟩] w fun e w' => ∃ q, e = .returned (.bool q) ∧ Played w0 w' b m c q t r ⟨1, s, a, bb, nd⟩ := by
  obtain ⟨w1, hw1⟩ : ∃ w1, w1 = w.alloc (Obj.cells #[.int .i64 1, .string s, .int .i64 a, .int .i64 bb, .int .i64 nd.k, .string nd.s, .int .i64 nd.l, .int .i64 nd.r] 36) := ⟨_, rfl⟩
  have hP1 : Pair w0 w1 b m v c u t r := h.later (by rw [hw1]; exact below_alloc w _)
  have hA1 : A8 w1 w.heap.size ⟨1, s, a, bb, nd⟩ := by rw [hw1]; exact heap_alloc_new w _
  have hF1 : ¬ Ft b m v w.heap.size := fun e => by have := h.tb.foot _ e; omega
  have KT := show Hid (Calls Try.prog 24 #[.pointer (some ⟨b, 0, none⟩)] w1 fun e w' => e = .returned (.tuple #[.int .i64 (Fm.put t Fm.bot).1, .int .i64 (Fm.put t Fm.bot).2.1]) ∧ ∃ v', Pair w0 w' b m v' c u (Fm.put t Fm.bot).2.2 r ∧ A8 w' w.heap.size ⟨1, s, a, bb, nd⟩) from pairT (bot_any w1 hP1.tb) hP1 hA1 hF1
  have KR := show Hid (∀ (w2 : World) (v2 : Value), Pair w0 w2 b m v2 c u (Fm.put t Fm.bot).2.2 r → Calls Try.prog 25 #[.pointer (some ⟨c, 0, none⟩)] w2 fun e w' => e = .returned (.tuple #[.int .i64 (Fm.put r Fm.bot).1, .int .i64 (Fm.put r Fm.bot).2.1]) ∧ ∃ u', Pair w0 w' b m v2 c u' (Fm.put t Fm.bot).2.2 (Fm.put r Fm.bot).2.2) from fun w2 v2 h2 => pairR (rbot_any w2 h2.tr) h2
  have HET := show Hid (actR t ⟨1, s, a, bb, nd⟩ = (Fm.put t Fm.bot).2.2 ∧ actR r ⟨1, s, a, bb, nd⟩ = (Fm.put r Fm.bot).2.2) from ⟨rfl, rfl⟩
  have HEQ := show Hid (t = r → Fm.put t Fm.bot = Fm.put r Fm.bot) from fun e => by rw [e]
  generalize Fm.put t Fm.bot = pt at *
  generalize Fm.put r Fm.bot = pr at *
  obtain ⟨p1, p2, p3⟩ := pt
  obtain ⟨r1, r2, r3⟩ := pr
  simp only at KT KR HET HEQ
  unfold acV
  obtain ⟨nk, ns, nl, nr⟩ := nd
  simp only at hw1 KR KT ⊢
  clear h hP1 hA1 hF1
  go_enter Try.func10, Try.ntmps10
  go_wp2_with fail
  rw [← hw1]
  clear hw1
  refine KT.out.mono ?_
  rintro e w2 ⟨rfl, v2, hp2, ha2⟩
  have HP2 := show Hid (Pair w0 w2 b m v2 c u p3 r) from hp2
  clear hp2 ha2 KT
  go_wp2_with fail
  refine (KR.out _ _ HP2.out).mono ?_
  rintro e w3 ⟨rfl, u3, hp3⟩
  have HP3 := show Hid (Pair w0 w3 b m v2 c u3 p3 r3) from hp3
  clear hp3 KR
  have HF := show Hid (∃ v' u', Pair w0 w3 b m v' c u' (actR t ⟨1, s, a, bb, ⟨nk, ns, nl, nr⟩⟩) (actR r ⟨1, s, a, bb, ⟨nk, ns, nl, nr⟩⟩)) from by rw [HET.out.1, HET.out.2]; exact ⟨v2, u3, HP3.out⟩
  by_cases h1 : p1 = r1
  · subst h1
    by_cases h2 : p2 = r2
    · subst h2
      go_wp2_with fail
      go_ret
      exact ⟨_, rfl, fun _ => by simp, HF.out⟩
    · have hne : (p2 == r2) = false := beq_eq_false_iff_ne.2 h2
      go_wp2_with fail
      go_ret
      exact ⟨_, rfl, fun e => absurd (Prod.mk.inj (Prod.mk.inj (HEQ.out e)).2).1 h2, HF.out⟩
  · have hne : (p1 == r1) = false := beq_eq_false_iff_ne.2 h1
    go_wp2_with fail
    go_ret
    exact ⟨_, rfl, fun e => absurd (Prod.mk.inj (HEQ.out e)).1 h1, HF.out⟩
set_option maxRecDepth 100000 in
set_option maxHeartbeats 4000000 in
theorem play2 (w0 w : World) {b m c : Nat} {v u : Value} {t r : List Nd} (h : Pair w0 w b m v c u t r) (s : ByteArray) (a bb : Int) (nd : Nd) (_hs : s.size ≤ 140737488351232) (_ha : Fm.i64 a) (_hb : Fm.i64 bb) (_hn : Fm.good nd) :
    Calls Try.prog 10 #[.pointer (some ⟨b, 0, none⟩), .pointer (some ⟨c, 0, none⟩), acV ⟨2, s, a, bb, nd⟩] w fun e w' => ∃ q, e = .returned (.bool q) ∧ Played w0 w' b m c q t r ⟨2, s, a, bb, nd⟩ := by
  obtain ⟨w1, hw1⟩ : ∃ w1, w1 = w.alloc (Obj.cells #[.int .i64 2, .string s, .int .i64 a, .int .i64 bb, .int .i64 nd.k, .string nd.s, .int .i64 nd.l, .int .i64 nd.r] 36) := ⟨_, rfl⟩
  have hP1 : Pair w0 w1 b m v c u t r := h.later (by rw [hw1]; exact below_alloc w _)
  have hA1 : A8 w1 w.heap.size ⟨2, s, a, bb, nd⟩ := by rw [hw1]; exact heap_alloc_new w _
  have hF1 : ¬ Ft b m v w.heap.size := fun e => by have := h.tb.foot _ e; omega
  have KT := show Hid (Calls Try.prog 26 #[.pointer (some ⟨b, 0, none⟩), .int .i64 a, .int .i64 bb] w1 fun e w' => e = .returned (.tuple #[.int .i64 (Fm.put t (joinN 3 a bb)).1, .int .i64 (Fm.put t (joinN 3 a bb)).2.1]) ∧ ∃ v', Pair w0 w' b m v' c u (Fm.put t (joinN 3 a bb)).2.2 r ∧ A8 w' w.heap.size ⟨2, s, a, bb, nd⟩) from pairT (and_any w1 hP1.tb a bb _ha _hb) hP1 hA1 hF1
  have KR := show Hid (∀ (w2 : World) (v2 : Value), Pair w0 w2 b m v2 c u (Fm.put t (joinN 3 a bb)).2.2 r → Calls Try.prog 27 #[.pointer (some ⟨c, 0, none⟩), .int .i64 3, .int .i64 a, .int .i64 bb] w2 fun e w' => e = .returned (.tuple #[.int .i64 (Fm.put r (joinN 3 a bb)).1, .int .i64 (Fm.put r (joinN 3 a bb)).2.1]) ∧ ∃ u', Pair w0 w' b m v2 c u' (Fm.put t (joinN 3 a bb)).2.2 (Fm.put r (joinN 3 a bb)).2.2) from fun w2 v2 h2 => pairR (rtwo_any w2 h2.tr 3 a bb (by omega) (by omega) _ha _hb) h2
  have HET := show Hid (actR t ⟨2, s, a, bb, nd⟩ = (Fm.put t (joinN 3 a bb)).2.2 ∧ actR r ⟨2, s, a, bb, nd⟩ = (Fm.put r (joinN 3 a bb)).2.2) from ⟨rfl, rfl⟩
  have HEQ := show Hid (t = r → Fm.put t (joinN 3 a bb) = Fm.put r (joinN 3 a bb)) from fun e => by rw [e]
  generalize Fm.put t (joinN 3 a bb) = pt at *
  generalize Fm.put r (joinN 3 a bb) = pr at *
  obtain ⟨p1, p2, p3⟩ := pt
  obtain ⟨r1, r2, r3⟩ := pr
  simp only at KT KR HET HEQ
  unfold acV
  obtain ⟨nk, ns, nl, nr⟩ := nd
  simp only at hw1 KR KT ⊢
  clear h hP1 hA1 hF1
  go_enter Try.func10, Try.ntmps10
  go_wp2_with fail
  rw [← hw1]
  clear hw1
  refine KT.out.mono ?_
  rintro e w2 ⟨rfl, v2, hp2, ha2⟩
  have HP2 := show Hid (Pair w0 w2 b m v2 c u p3 r) from hp2
  have dc2 := ha2.at.c2
  have dc3 := ha2.at.c3
  simp only [Nat.zero_add] at dc2 dc3
  clear hp2 ha2 KT
  go_wp2_with fail
  refine (KR.out _ _ HP2.out).mono ?_
  rintro e w3 ⟨rfl, u3, hp3⟩
  have HP3 := show Hid (Pair w0 w3 b m v2 c u3 p3 r3) from hp3
  clear hp3 KR dc2 dc3
  have HF := show Hid (∃ v' u', Pair w0 w3 b m v' c u' (actR t ⟨2, s, a, bb, ⟨nk, ns, nl, nr⟩⟩) (actR r ⟨2, s, a, bb, ⟨nk, ns, nl, nr⟩⟩)) from by rw [HET.out.1, HET.out.2]; exact ⟨v2, u3, HP3.out⟩
  by_cases h1 : p1 = r1
  · subst h1
    by_cases h2 : p2 = r2
    · subst h2
      go_wp2_with fail
      go_ret
      exact ⟨_, rfl, fun _ => by simp, HF.out⟩
    · have hne : (p2 == r2) = false := beq_eq_false_iff_ne.2 h2
      go_wp2_with fail
      go_ret
      exact ⟨_, rfl, fun e => absurd (Prod.mk.inj (Prod.mk.inj (HEQ.out e)).2).1 h2, HF.out⟩
  · have hne : (p1 == r1) = false := beq_eq_false_iff_ne.2 h1
    go_wp2_with fail
    go_ret
    exact ⟨_, rfl, fun e => absurd (Prod.mk.inj (HEQ.out e)).1 h1, HF.out⟩
set_option maxRecDepth 100000 in
set_option maxHeartbeats 4000000 in
theorem play3 (w0 w : World) {b m c : Nat} {v u : Value} {t r : List Nd} (h : Pair w0 w b m v c u t r) (s : ByteArray) (a bb : Int) (nd : Nd) (_hs : s.size ≤ 140737488351232) (_ha : Fm.i64 a) (_hb : Fm.i64 bb) (_hn : Fm.good nd) :
    Calls Try.prog 10 #[.pointer (some ⟨b, 0, none⟩), .pointer (some ⟨c, 0, none⟩), acV ⟨3, s, a, bb, nd⟩] w fun e w' => ∃ q, e = .returned (.bool q) ∧ Played w0 w' b m c q t r ⟨3, s, a, bb, nd⟩ := by
  obtain ⟨w1, hw1⟩ : ∃ w1, w1 = w.alloc (Obj.cells #[.int .i64 3, .string s, .int .i64 a, .int .i64 bb, .int .i64 nd.k, .string nd.s, .int .i64 nd.l, .int .i64 nd.r] 36) := ⟨_, rfl⟩
  have hP1 : Pair w0 w1 b m v c u t r := h.later (by rw [hw1]; exact below_alloc w _)
  have hA1 : A8 w1 w.heap.size ⟨3, s, a, bb, nd⟩ := by rw [hw1]; exact heap_alloc_new w _
  have hF1 : ¬ Ft b m v w.heap.size := fun e => by have := h.tb.foot _ e; omega
  have KT := show Hid (Calls Try.prog 28 #[.pointer (some ⟨b, 0, none⟩), .int .i64 a, .int .i64 bb] w1 fun e w' => e = .returned (.tuple #[.int .i64 (Fm.put t (joinN 4 a bb)).1, .int .i64 (Fm.put t (joinN 4 a bb)).2.1]) ∧ ∃ v', Pair w0 w' b m v' c u (Fm.put t (joinN 4 a bb)).2.2 r ∧ A8 w' w.heap.size ⟨3, s, a, bb, nd⟩) from pairT (or_any w1 hP1.tb a bb _ha _hb) hP1 hA1 hF1
  have KR := show Hid (∀ (w2 : World) (v2 : Value), Pair w0 w2 b m v2 c u (Fm.put t (joinN 4 a bb)).2.2 r → Calls Try.prog 27 #[.pointer (some ⟨c, 0, none⟩), .int .i64 4, .int .i64 a, .int .i64 bb] w2 fun e w' => e = .returned (.tuple #[.int .i64 (Fm.put r (joinN 4 a bb)).1, .int .i64 (Fm.put r (joinN 4 a bb)).2.1]) ∧ ∃ u', Pair w0 w' b m v2 c u' (Fm.put t (joinN 4 a bb)).2.2 (Fm.put r (joinN 4 a bb)).2.2) from fun w2 v2 h2 => pairR (rtwo_any w2 h2.tr 4 a bb (by omega) (by omega) _ha _hb) h2
  have HET := show Hid (actR t ⟨3, s, a, bb, nd⟩ = (Fm.put t (joinN 4 a bb)).2.2 ∧ actR r ⟨3, s, a, bb, nd⟩ = (Fm.put r (joinN 4 a bb)).2.2) from ⟨rfl, rfl⟩
  have HEQ := show Hid (t = r → Fm.put t (joinN 4 a bb) = Fm.put r (joinN 4 a bb)) from fun e => by rw [e]
  generalize Fm.put t (joinN 4 a bb) = pt at *
  generalize Fm.put r (joinN 4 a bb) = pr at *
  obtain ⟨p1, p2, p3⟩ := pt
  obtain ⟨r1, r2, r3⟩ := pr
  simp only at KT KR HET HEQ
  unfold acV
  obtain ⟨nk, ns, nl, nr⟩ := nd
  simp only at hw1 KR KT ⊢
  clear h hP1 hA1 hF1
  go_enter Try.func10, Try.ntmps10
  go_wp2_with fail
  rw [← hw1]
  clear hw1
  refine KT.out.mono ?_
  rintro e w2 ⟨rfl, v2, hp2, ha2⟩
  have HP2 := show Hid (Pair w0 w2 b m v2 c u p3 r) from hp2
  have dc2 := ha2.at.c2
  have dc3 := ha2.at.c3
  simp only [Nat.zero_add] at dc2 dc3
  clear hp2 ha2 KT
  go_wp2_with fail
  refine (KR.out _ _ HP2.out).mono ?_
  rintro e w3 ⟨rfl, u3, hp3⟩
  have HP3 := show Hid (Pair w0 w3 b m v2 c u3 p3 r3) from hp3
  clear hp3 KR dc2 dc3
  have HF := show Hid (∃ v' u', Pair w0 w3 b m v' c u' (actR t ⟨3, s, a, bb, ⟨nk, ns, nl, nr⟩⟩) (actR r ⟨3, s, a, bb, ⟨nk, ns, nl, nr⟩⟩)) from by rw [HET.out.1, HET.out.2]; exact ⟨v2, u3, HP3.out⟩
  by_cases h1 : p1 = r1
  · subst h1
    by_cases h2 : p2 = r2
    · subst h2
      go_wp2_with fail
      go_ret
      exact ⟨_, rfl, fun _ => by simp, HF.out⟩
    · have hne : (p2 == r2) = false := beq_eq_false_iff_ne.2 h2
      go_wp2_with fail
      go_ret
      exact ⟨_, rfl, fun e => absurd (Prod.mk.inj (Prod.mk.inj (HEQ.out e)).2).1 h2, HF.out⟩
  · have hne : (p1 == r1) = false := beq_eq_false_iff_ne.2 h1
    go_wp2_with fail
    go_ret
    exact ⟨_, rfl, fun e => absurd (Prod.mk.inj (HEQ.out e)).1 h1, HF.out⟩
set_option maxRecDepth 100000 in
set_option maxHeartbeats 4000000 in
theorem play4 (w0 w : World) {b m c : Nat} {v u : Value} {t r : List Nd} (h : Pair w0 w b m v c u t r) (s : ByteArray) (a bb : Int) (nd : Nd) (_hs : s.size ≤ 140737488351232) (_ha : Fm.i64 a) (_hb : Fm.i64 bb) (_hn : Fm.good nd) :
    Calls Try.prog 10 #[.pointer (some ⟨b, 0, none⟩), .pointer (some ⟨c, 0, none⟩), acV ⟨4, s, a, bb, nd⟩] w fun e w' => ∃ q, e = .returned (.bool q) ∧ Played w0 w' b m c q t r ⟨4, s, a, bb, nd⟩ := by
  obtain ⟨w1, hw1⟩ : ∃ w1, w1 = w.alloc (Obj.cells #[.int .i64 4, .string s, .int .i64 a, .int .i64 bb, .int .i64 nd.k, .string nd.s, .int .i64 nd.l, .int .i64 nd.r] 36) := ⟨_, rfl⟩
  have hP1 : Pair w0 w1 b m v c u t r := h.later (by rw [hw1]; exact below_alloc w _)
  have hA1 : A8 w1 w.heap.size ⟨4, s, a, bb, nd⟩ := by rw [hw1]; exact heap_alloc_new w _
  have hF1 : ¬ Ft b m v w.heap.size := fun e => by have := h.tb.foot _ e; omega
  have KT := show Hid (Calls Try.prog 29 #[.pointer (some ⟨b, 0, none⟩), .int .i64 a, .int .i64 bb] w1 fun e w' => e = .returned (.tuple #[.int .i64 (Fm.put t (joinN 5 a bb)).1, .int .i64 (Fm.put t (joinN 5 a bb)).2.1]) ∧ ∃ v', Pair w0 w' b m v' c u (Fm.put t (joinN 5 a bb)).2.2 r ∧ A8 w' w.heap.size ⟨4, s, a, bb, nd⟩) from pairT (imp_any w1 hP1.tb a bb _ha _hb) hP1 hA1 hF1
  have KR := show Hid (∀ (w2 : World) (v2 : Value), Pair w0 w2 b m v2 c u (Fm.put t (joinN 5 a bb)).2.2 r → Calls Try.prog 30 #[.pointer (some ⟨c, 0, none⟩), .int .i64 a, .int .i64 bb] w2 fun e w' => e = .returned (.tuple #[.int .i64 (Fm.put r (joinN 5 a bb)).1, .int .i64 (Fm.put r (joinN 5 a bb)).2.1]) ∧ ∃ u', Pair w0 w' b m v2 c u' (Fm.put t (joinN 5 a bb)).2.2 (Fm.put r (joinN 5 a bb)).2.2) from fun w2 v2 h2 => pairR (rimp_any w2 h2.tr a bb _ha _hb) h2
  have HET := show Hid (actR t ⟨4, s, a, bb, nd⟩ = (Fm.put t (joinN 5 a bb)).2.2 ∧ actR r ⟨4, s, a, bb, nd⟩ = (Fm.put r (joinN 5 a bb)).2.2) from ⟨rfl, rfl⟩
  have HEQ := show Hid (t = r → Fm.put t (joinN 5 a bb) = Fm.put r (joinN 5 a bb)) from fun e => by rw [e]
  generalize Fm.put t (joinN 5 a bb) = pt at *
  generalize Fm.put r (joinN 5 a bb) = pr at *
  obtain ⟨p1, p2, p3⟩ := pt
  obtain ⟨r1, r2, r3⟩ := pr
  simp only at KT KR HET HEQ
  unfold acV
  obtain ⟨nk, ns, nl, nr⟩ := nd
  simp only at hw1 KR KT ⊢
  clear h hP1 hA1 hF1
  go_enter Try.func10, Try.ntmps10
  go_wp2_with fail
  rw [← hw1]
  clear hw1
  refine KT.out.mono ?_
  rintro e w2 ⟨rfl, v2, hp2, ha2⟩
  have HP2 := show Hid (Pair w0 w2 b m v2 c u p3 r) from hp2
  have dc2 := ha2.at.c2
  have dc3 := ha2.at.c3
  simp only [Nat.zero_add] at dc2 dc3
  clear hp2 ha2 KT
  go_wp2_with fail
  refine (KR.out _ _ HP2.out).mono ?_
  rintro e w3 ⟨rfl, u3, hp3⟩
  have HP3 := show Hid (Pair w0 w3 b m v2 c u3 p3 r3) from hp3
  clear hp3 KR dc2 dc3
  have HF := show Hid (∃ v' u', Pair w0 w3 b m v' c u' (actR t ⟨4, s, a, bb, ⟨nk, ns, nl, nr⟩⟩) (actR r ⟨4, s, a, bb, ⟨nk, ns, nl, nr⟩⟩)) from by rw [HET.out.1, HET.out.2]; exact ⟨v2, u3, HP3.out⟩
  by_cases h1 : p1 = r1
  · subst h1
    by_cases h2 : p2 = r2
    · subst h2
      go_wp2_with fail
      go_ret
      exact ⟨_, rfl, fun _ => by simp, HF.out⟩
    · have hne : (p2 == r2) = false := beq_eq_false_iff_ne.2 h2
      go_wp2_with fail
      go_ret
      exact ⟨_, rfl, fun e => absurd (Prod.mk.inj (Prod.mk.inj (HEQ.out e)).2).1 h2, HF.out⟩
  · have hne : (p1 == r1) = false := beq_eq_false_iff_ne.2 h1
    go_wp2_with fail
    go_ret
    exact ⟨_, rfl, fun e => absurd (Prod.mk.inj (HEQ.out e)).1 h1, HF.out⟩
set_option maxRecDepth 100000 in
set_option maxHeartbeats 4000000 in
theorem play5 (w0 w : World) {b m c : Nat} {v u : Value} {t r : List Nd} (h : Pair w0 w b m v c u t r) (s : ByteArray) (a bb : Int) (nd : Nd) (_hs : s.size ≤ 140737488351232) (_ha : Fm.i64 a) (_hb : Fm.i64 bb) (_hn : Fm.good nd) :
    Calls Try.prog 10 #[.pointer (some ⟨b, 0, none⟩), .pointer (some ⟨c, 0, none⟩), acV ⟨5, s, a, bb, nd⟩] w fun e w' => ∃ q, e = .returned (.bool q) ∧ Played w0 w' b m c q t r ⟨5, s, a, bb, nd⟩ := by
  obtain ⟨w1, hw1⟩ : ∃ w1, w1 = w.alloc (Obj.cells #[.int .i64 5, .string s, .int .i64 a, .int .i64 bb, .int .i64 nd.k, .string nd.s, .int .i64 nd.l, .int .i64 nd.r] 36) := ⟨_, rfl⟩
  have hP1 : Pair w0 w1 b m v c u t r := h.later (by rw [hw1]; exact below_alloc w _)
  have hA1 : A8 w1 w.heap.size ⟨5, s, a, bb, nd⟩ := by rw [hw1]; exact heap_alloc_new w _
  have hF1 : ¬ Ft b m v w.heap.size := fun e => by have := h.tb.foot _ e; omega
  have KT := show Hid (Calls Try.prog 31 #[.pointer (some ⟨b, 0, none⟩), .int .i64 a] w1 fun e w' => e = .returned (.tuple #[.int .i64 (Fm.notp t a).1, .int .i64 (Fm.notp t a).2.1]) ∧ ∃ v', Pair w0 w' b m v' c u (Fm.notp t a).2.2 r ∧ A8 w' w.heap.size ⟨5, s, a, bb, nd⟩) from pairT (not_any w1 hP1.tb a _ha) hP1 hA1 hF1
  have KR := show Hid (∀ (w2 : World) (v2 : Value), Pair w0 w2 b m v2 c u (Fm.notp t a).2.2 r → Calls Try.prog 32 #[.pointer (some ⟨c, 0, none⟩), .int .i64 a] w2 fun e w' => e = .returned (.tuple #[.int .i64 (Fm.notp r a).1, .int .i64 (Fm.notp r a).2.1]) ∧ ∃ u', Pair w0 w' b m v2 c u' (Fm.notp t a).2.2 (Fm.notp r a).2.2) from fun w2 v2 h2 => pairR (rnot_any w2 h2.tr a _ha) h2
  have HET := show Hid (actR t ⟨5, s, a, bb, nd⟩ = (Fm.notp t a).2.2 ∧ actR r ⟨5, s, a, bb, nd⟩ = (Fm.notp r a).2.2) from ⟨rfl, rfl⟩
  have HEQ := show Hid (t = r → Fm.notp t a = Fm.notp r a) from fun e => by rw [e]
  generalize Fm.notp t a = pt at *
  generalize Fm.notp r a = pr at *
  obtain ⟨p1, p2, p3⟩ := pt
  obtain ⟨r1, r2, r3⟩ := pr
  simp only at KT KR HET HEQ
  unfold acV
  obtain ⟨nk, ns, nl, nr⟩ := nd
  simp only at hw1 KR KT ⊢
  clear h hP1 hA1 hF1
  go_enter Try.func10, Try.ntmps10
  go_wp2_with fail
  rw [← hw1]
  clear hw1
  refine KT.out.mono ?_
  rintro e w2 ⟨rfl, v2, hp2, ha2⟩
  have HP2 := show Hid (Pair w0 w2 b m v2 c u p3 r) from hp2
  have dc2 := ha2.at.c2
  simp only [Nat.zero_add] at dc2
  clear hp2 ha2 KT
  go_wp2_with fail
  refine (KR.out _ _ HP2.out).mono ?_
  rintro e w3 ⟨rfl, u3, hp3⟩
  have HP3 := show Hid (Pair w0 w3 b m v2 c u3 p3 r3) from hp3
  clear hp3 KR dc2
  have HF := show Hid (∃ v' u', Pair w0 w3 b m v' c u' (actR t ⟨5, s, a, bb, ⟨nk, ns, nl, nr⟩⟩) (actR r ⟨5, s, a, bb, ⟨nk, ns, nl, nr⟩⟩)) from by rw [HET.out.1, HET.out.2]; exact ⟨v2, u3, HP3.out⟩
  by_cases h1 : p1 = r1
  · subst h1
    by_cases h2 : p2 = r2
    · subst h2
      go_wp2_with fail
      go_ret
      exact ⟨_, rfl, fun _ => by simp, HF.out⟩
    · have hne : (p2 == r2) = false := beq_eq_false_iff_ne.2 h2
      go_wp2_with fail
      go_ret
      exact ⟨_, rfl, fun e => absurd (Prod.mk.inj (Prod.mk.inj (HEQ.out e)).2).1 h2, HF.out⟩
  · have hne : (p1 == r1) = false := beq_eq_false_iff_ne.2 h1
    go_wp2_with fail
    go_ret
    exact ⟨_, rfl, fun e => absurd (Prod.mk.inj (HEQ.out e)).1 h1, HF.out⟩
set_option maxRecDepth 100000 in
set_option maxHeartbeats 4000000 in
theorem play6 (w0 w : World) {b m c : Nat} {v u : Value} {t r : List Nd} (h : Pair w0 w b m v c u t r) (s : ByteArray) (a bb : Int) (nd : Nd) (_hs : s.size ≤ 140737488351232) (_ha : Fm.i64 a) (_hb : Fm.i64 bb) (_hn : Fm.good nd) :
    Calls Try.prog 10 #[.pointer (some ⟨b, 0, none⟩), .pointer (some ⟨c, 0, none⟩), acV ⟨6, s, a, bb, nd⟩] w fun e w' => ∃ q, e = .returned (.bool q) ∧ Played w0 w' b m c q t r ⟨6, s, a, bb, nd⟩ := by
  obtain ⟨w1, hw1⟩ : ∃ w1, w1 = w.alloc (Obj.cells #[.int .i64 6, .string s, .int .i64 a, .int .i64 bb, .int .i64 nd.k, .string nd.s, .int .i64 nd.l, .int .i64 nd.r] 36) := ⟨_, rfl⟩
  have hP1 : Pair w0 w1 b m v c u t r := h.later (by rw [hw1]; exact below_alloc w _)
  have hA1 : A8 w1 w.heap.size ⟨6, s, a, bb, nd⟩ := by rw [hw1]; exact heap_alloc_new w _
  have hF1 : ¬ Ft b m v w.heap.size := fun e => by have := h.tb.foot _ e; omega
  have KT := show Hid (Calls Try.prog 33 #[.pointer (some ⟨b, 0, none⟩), .agg #[.int .i64 nd.k, .string nd.s, .int .i64 nd.l, .int .i64 nd.r]] w1 fun e w' => e = .returned (.tuple #[.int .i64 (Fm.put t nd).1, .int .i64 (Fm.put t nd).2.1]) ∧ ∃ v', Pair w0 w' b m v' c u (Fm.put t nd).2.2 r ∧ A8 w' w.heap.size ⟨6, s, a, bb, nd⟩) from pairT (put_any w1 hP1.tb nd _hn) hP1 hA1 hF1
  have KR := show Hid (∀ (w2 : World) (v2 : Value), Pair w0 w2 b m v2 c u (Fm.put t nd).2.2 r → Calls Try.prog 34 #[.pointer (some ⟨c, 0, none⟩), .agg #[.int .i64 nd.k, .string nd.s, .int .i64 nd.l, .int .i64 nd.r]] w2 fun e w' => e = .returned (.tuple #[.int .i64 (Fm.put r nd).1, .int .i64 (Fm.put r nd).2.1]) ∧ ∃ u', Pair w0 w' b m v2 c u' (Fm.put t nd).2.2 (Fm.put r nd).2.2) from fun w2 v2 h2 => pairR (rput_any w2 h2.tr nd _hn) h2
  have HET := show Hid (actR t ⟨6, s, a, bb, nd⟩ = (Fm.put t nd).2.2 ∧ actR r ⟨6, s, a, bb, nd⟩ = (Fm.put r nd).2.2) from ⟨rfl, rfl⟩
  have HEQ := show Hid (t = r → Fm.put t nd = Fm.put r nd) from fun e => by rw [e]
  generalize Fm.put t nd = pt at *
  generalize Fm.put r nd = pr at *
  obtain ⟨p1, p2, p3⟩ := pt
  obtain ⟨r1, r2, r3⟩ := pr
  simp only at KT KR HET HEQ
  unfold acV
  obtain ⟨nk, ns, nl, nr⟩ := nd
  simp only at hw1 KR KT ⊢
  clear h hP1 hA1 hF1
  go_enter Try.func10, Try.ntmps10
  go_wp2_with fail
  rw [← hw1]
  clear hw1
  refine KT.out.mono ?_
  rintro e w2 ⟨rfl, v2, hp2, ha2⟩
  have HP2 := show Hid (Pair w0 w2 b m v2 c u p3 r) from hp2
  have dc4 := ha2.at.c4
  have dc5 := ha2.at.c5
  have dc6 := ha2.at.c6
  have dc7 := ha2.at.c7
  simp only [Nat.zero_add] at dc4 dc5 dc6 dc7
  clear hp2 ha2 KT
  go_wp2_with fail
  refine (KR.out _ _ HP2.out).mono ?_
  rintro e w3 ⟨rfl, u3, hp3⟩
  have HP3 := show Hid (Pair w0 w3 b m v2 c u3 p3 r3) from hp3
  clear hp3 KR dc4 dc5 dc6 dc7
  have HF := show Hid (∃ v' u', Pair w0 w3 b m v' c u' (actR t ⟨6, s, a, bb, ⟨nk, ns, nl, nr⟩⟩) (actR r ⟨6, s, a, bb, ⟨nk, ns, nl, nr⟩⟩)) from by rw [HET.out.1, HET.out.2]; exact ⟨v2, u3, HP3.out⟩
  by_cases h1 : p1 = r1
  · subst h1
    by_cases h2 : p2 = r2
    · subst h2
      go_wp2_with fail
      go_ret
      exact ⟨_, rfl, fun _ => by simp, HF.out⟩
    · have hne : (p2 == r2) = false := beq_eq_false_iff_ne.2 h2
      go_wp2_with fail
      go_ret
      exact ⟨_, rfl, fun e => absurd (Prod.mk.inj (Prod.mk.inj (HEQ.out e)).2).1 h2, HF.out⟩
  · have hne : (p1 == r1) = false := beq_eq_false_iff_ne.2 h1
    go_wp2_with fail
    go_ret
    exact ⟨_, rfl, fun e => absurd (Prod.mk.inj (HEQ.out e)).1 h1, HF.out⟩
end Go.Proofs.Ytphoeedccknihaa
