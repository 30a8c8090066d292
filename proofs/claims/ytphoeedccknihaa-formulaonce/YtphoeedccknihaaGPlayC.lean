/-
  The law's call play at a copy, at a cut, and at no action. No condition beyond values that a machine can hold.
-/
import Derived.Test.YtphoeedccknihaaGPlay
import Derived.Deep.RegionHeld3
namespace Go.Proofs.Ytphoeedccknihaa.Gp
open Go.RowKit Go.Maps
open Fm (Nd)

set_option maxRecDepth 100000 in
set_option maxHeartbeats 4000000 in
theorem playNo (G : Nat → Option Obj) (w0 w : World) {b m c : Nat} {v u : Value} {t r : List Nd} (h : Pair G w0 w b m v c u t r) (x : Ac) (h0 : (x.k == 0) = false) (h1 : (x.k == 1) = false) (h2 : (x.k == 2) = false) (h3 : (x.k == 3) = false) (h4 : (x.k == 4) = false) (h5 : (x.k == 5) = false) (h6 : (x.k == 6) = false) (h7 : (x.k == 7) = false) (h8 : (x.k == 8) = false) :
    Calls Try.prog 10 #[.pointer (some ⟨b, 0, none⟩), .pointer (some ⟨c, 0, none⟩), acV x] w fun e w' => ∃ q, e = .returned (.bool q) ∧ Played G w0 w' b m c q t r x := by
  have HA := show Hid (∀ t, actR t x = t) from fun t => by
    unfold actR
    rw [if_neg (ne_of_beq_false h0), if_neg (ne_of_beq_false h1), if_neg (ne_of_beq_false h2), if_neg (ne_of_beq_false h3), if_neg (ne_of_beq_false h4), if_neg (ne_of_beq_false h5), if_neg (ne_of_beq_false h6), if_neg (ne_of_beq_false h8)]
  have HP := show Hid (∀ o, Pair G w0 (w.alloc o) b m v c u t r) from fun o => h.later (below_alloc w o)
  have HF := show Hid (∀ o, ∃ v' u', Pair G w0 (w.alloc o) b m v' c u' (actR t x) (actR r x)) from fun o => by rw [HA.out, HA.out]; exact ⟨v, u, HP.out o⟩
  unfold acV
  clear h
  go_enter Try.func10, Try.ntmps10
  go_wp2_with fail
  go_ret
  exact ⟨_, rfl, fun _ => rfl, HF.out _⟩
set_option maxRecDepth 100000 in
set_option maxHeartbeats 4000000 in
theorem play8 (G : Nat → Option Obj) (w0 w : World) {b m c : Nat} {v u : Value} {t r : List Nd} (h : Pair G w0 w b m v c u t r) (s : ByteArray) (a bb : Int) (nd : Nd) :
    Calls Try.prog 10 #[.pointer (some ⟨b, 0, none⟩), .pointer (some ⟨c, 0, none⟩), acV ⟨8, s, a, bb, nd⟩] w fun e w' => ∃ q, e = .returned (.bool q) ∧ Played G w0 w' b m c q t r ⟨8, s, a, bb, nd⟩ := by
  obtain ⟨w1, hw1⟩ : ∃ w1, w1 = w.alloc (Obj.cells #[.int .i64 8, .string s, .int .i64 a, .int .i64 bb, .int .i64 nd.k, .string nd.s, .int .i64 nd.l, .int .i64 nd.r] 36) := ⟨_, rfl⟩
  have hP1 : Pair G w0 w1 b m v c u t r := h.later (by rw [hw1]; exact below_alloc w _)
  have hA1 : A8 w1 w.heap.size ⟨8, s, a, bb, nd⟩ := by rw [hw1]; exact heap_alloc_new w _
  have hF1 : ¬ Ft b m v w.heap.size := fun e => by have := h.tb.foot _ e; omega
  have hF2 : ¬ Fr c u w.heap.size := fun e => by have := h.tr.foot _ e; omega
  have KT := show Hid (Calls Try.prog 36 #[.pointer (some ⟨b, 0, none⟩), .int .i64 a] w1.drew fun e w' => e = .returned (.int .i64 (cutR t a).1) ∧ ∃ v', Pair G w0 w' b m v' c u (cutR t a).2 r ∧ A8 w' w.heap.size ⟨8, s, a, bb, nd⟩) from pairT (cut_any w1.drew hP1.tb.drew a) (hP1.later (Below.refl _ w1).drew) hA1 hF1
  have KR := show Hid (∀ (w2 : World) (v2 : Value), Pair G w0 w2 b m v2 c u (cutR t a).2 r → A8 w2 w.heap.size ⟨8, s, a, bb, nd⟩ → Calls Try.prog 37 #[.pointer (some ⟨c, 0, none⟩), .int .i64 a] w2 fun e w' => e = .returned (.int .i64 (cutR r a).1) ∧ (∃ u', Pair G w0 w' b m v2 c u' (cutR t a).2 (cutR r a).2) ∧ A8 w' w.heap.size ⟨8, s, a, bb, nd⟩) from fun w2 v2 h2 ha2 => (rcut_any w2 h2.tr a).mono fun e w' ⟨he, haf⟩ => by
    have hk : w'.heap[w.heap.size]? = w2.heap[w.heap.size]? := by
      obtain ⟨u', _, _, hK⟩ := haf
      exact hK.block _ (lt_of_block ha2) hF2
    exact ⟨he, h2.stepR haf, hk.trans ha2⟩
  have HET := show Hid (actR t ⟨8, s, a, bb, nd⟩ = (cutR t a).2 ∧ actR r ⟨8, s, a, bb, nd⟩ = (cutR r a).2) from ⟨rfl, rfl⟩
  have HEQ := show Hid (t = r → cutR t a = cutR r a) from fun e => by rw [e]
  have dc2 := hA1.at.c2
  simp only [Nat.zero_add] at dc2
  generalize cutR t a = pt at *
  generalize cutR r a = pr at *
  obtain ⟨p1, p3⟩ := pt
  obtain ⟨r1, r3⟩ := pr
  simp only at KT KR HET HEQ
  unfold acV
  obtain ⟨nk, ns, nl, nr⟩ := nd
  simp only at hw1 KR KT ⊢
  clear h hP1 hA1 hF1 hF2
  go_enter Try.func10, Try.ntmps10
  go_wp2_with fail
  rw [← hw1]
  clear hw1
  go_region_held3 (fun wx => wx.cell? ⟨w.heap.size, 2, none⟩ = some (.int .i64 a)) (first | go_keep | exact (A8.at (by assumption)).c2) (first | (go_at_call 36; refine KT.out.mono ?_; rintro e w2 ⟨rfl, v2, hp2, ha2⟩) | (go_at_call 37; refine (KR.out _ _ hp2 ha2).mono ?_; rintro e w3 ⟨rfl, ⟨u3, hp3⟩, ha3⟩))
  all_goals
    have HF := show Hid (∃ v' u', Pair G w0 w3 b m v' c u' (actR t ⟨8, s, a, bb, ⟨nk, ns, nl, nr⟩⟩) (actR r ⟨8, s, a, bb, ⟨nk, ns, nl, nr⟩⟩)) from by rw [HET.out.1, HET.out.2]; exact ⟨_, u3, hp3⟩
    clear hp3 ha3 hp2 ha2
    go_wp2_with fail
    go_ret
    exact ⟨_, rfl, fun e => by simp [(Prod.mk.inj (HEQ.out e)).1], HF.out⟩
set_option maxRecDepth 100000 in
set_option maxHeartbeats 8000000 in
theorem play7 (G : Nat → Option Obj) (w0 w : World) {b m c : Nat} {v u : Value} {t r : List Nd} (h : Pair G w0 w b m v c u t r) (s : ByteArray) (a bb : Int) (nd : Nd) (hai : Fm.i64 a) :
    Calls Try.prog 10 #[.pointer (some ⟨b, 0, none⟩), .pointer (some ⟨c, 0, none⟩), acV ⟨7, s, a, bb, nd⟩] w fun e w' => ∃ q, e = .returned (.bool q) ∧ Played G w0 w' b m c q t r ⟨7, s, a, bb, nd⟩ := by
  obtain ⟨w1, hw1⟩ : ∃ w1, w1 = w.alloc (Obj.cells #[.int .i64 7, .string s, .int .i64 a, .int .i64 bb, .int .i64 nd.k, .string nd.s, .int .i64 nd.l, .int .i64 nd.r] 36) := ⟨_, rfl⟩
  have HP1 := show Hid (Pair G w0 w1 b m v c u t r) from h.later (by rw [hw1]; exact below_alloc w _)
  have HA1 := show Hid (A8 w1 w.heap.size ⟨7, s, a, bb, nd⟩) from by rw [hw1]; exact heap_alloc_new w _
  have HN1 := show Hid ((∀ k, Ft b m v k ∨ Fr c u k → k < w1.heap.size) ∧ ∀ k o, G k = some o → k < w1.heap.size) from ⟨fun k hk => by
    rcases hk with e | e
    · exact HP1.out.tb.foot k e
    · exact HP1.out.tr.foot k e, fun k o hk => lt_of_block (HP1.out.kep k o hk).1⟩
  have KC := show Hid (Calls Try.prog 35 #[.pointer (some ⟨b, 0, none⟩)] w1 fun e w' => Copied w1 w' e t) from copy_any w1 HP1.out.tb
  have HET := show Hid (actR t ⟨7, s, a, bb, nd⟩ = t ∧ actR r ⟨7, s, a, bb, nd⟩ = r) from ⟨rfl, rfl⟩
  obtain ⟨p, cp, hu⟩ := h.tr.row.form
  subst hu
  have HAI := show Hid (Fm.i64 a) from hai
  unfold acV
  obtain ⟨nk, ns, nl, nr⟩ := nd
  simp only at hw1 ⊢
  clear h hai
  go_enter Try.func10, Try.ntmps10
  go_wp2_with fail
  rw [← hw1]
  clear hw1
  refine KC.out.mono ?_
  rintro e w2 ⟨B, M, vc, rfl, hT2, hf2, hb2⟩
  have HP2 := show Hid (Pair G w0 w2 b m v c (.slice p r.length cp) t r) from HP1.out.later hb2
  have HT2 := show Hid (Tb w2 B M vc t ∧ ∀ k, Ft B M vc k → w1.heap.size ≤ k) from ⟨hT2, hf2⟩
  have HA2 := show Hid (A8 w2 w.heap.size ⟨7, s, a, bb, ⟨nk, ns, nl, nr⟩⟩) from (hb2.block _ (lt_of_block HA1.out)).trans HA1.out
  have HS2 := show Hid (w1.heap.size ≤ w2.heap.size ∧ w0.heap.size ≤ w1.heap.size ∧ w.heap.size < w1.heap.size) from ⟨hb2.size, HP1.out.bel.size, lt_of_block HA1.out⟩
  clear hT2 hf2 hb2 KC HA1
  have HC := show Hid (∀ w', Below w2.heap.size w2 w' → w'.cell? ⟨c, 0, none⟩ = some (.slice p r.length cp)) from fun w' hb => (HP2.out.tr.later hb).c0
  have KR := show Hid (∀ w', Below w2.heap.size w2 w' → Calls Try.prog 12 #[.pointer (some ⟨B, 0, none⟩)] w' fun e w'' => ∃ p' c', e = .returned (.slice p' t.length c') ∧ Rw w'' (.slice p' t.length c') t ∧ Below w2.heap.size w2 w'') from fun w' hb => (rows_any w' (HT2.out.1.later hb)).mono fun e w'' ⟨v', he, hf⟩ => by
    obtain ⟨p', c', rfl⟩ := hf.1.form
    exact ⟨p', c', he, hf.1, hb.trans (hf.2.2.mono hb.size)⟩
  have KS := show Hid (∀ (w' : World) (p' : Option Addr) (c' : Nat), Below w2.heap.size w2 w' → Rw w' (.slice p' t.length c') t → Calls Try.prog 13 #[.slice p' t.length c', .slice p r.length cp] w' fun e w'' => e = .returned (.bool (decide (t = r))) ∧ Below w2.heap.size w2 w'') from fun w' p' c' hb hr => (same_any w' _ _ t r hr.isR (HP2.out.tr.later hb).row.isR HT2.out.1.ok.gd HP2.out.tr.ok.gd).mono fun e w'' ⟨he, n, hn⟩ => by
    subst hn
    exact ⟨he, below_drewN hb n⟩
  have c0 := HP2.out.tr.c0
  have HB0 := show Hid (Below w2.heap.size w2 w2.drew) from (Below.refl _ _).drew
  obtain ⟨q, hq⟩ : ∃ q, q = decide (t = r) := ⟨_, rfl⟩
  rw [← hq] at KS
  have HQ := show Hid (q = decide (t = r)) from hq
  clear hq
  cases q
  all_goals
    go_wp2_with fail
    go_region_held3 (fun wx => wx.cell? ⟨c, 0, none⟩ = some (.slice p r.length cp)) (first | go_keep | exact HC.out _ (by assumption)) (first | (go_at_call 12; refine (KR.out _ ?_).mono ?_; (first | exact HB0.out | assumption); rintro e w3 ⟨p3, c3, rfl, hr3, hb3⟩) | (go_at_call 13; refine (KS.out _ _ _ hb3 hr3).mono ?_; rintro e w4 ⟨rfl, hb4⟩))
  · have HF := show Hid (∃ v' u', Pair G w0 w4 b m v' c u' (actR t ⟨7, s, a, bb, ⟨nk, ns, nl, nr⟩⟩) (actR r ⟨7, s, a, bb, ⟨nk, ns, nl, nr⟩⟩)) from by rw [HET.out.1, HET.out.2]; exact ⟨_, _, HP2.out.later hb4⟩
    clear hb4 hb3 hr3
    go_wp2_with fail
    go_ret
    exact ⟨_, rfl, fun e => absurd e (of_decide_eq_false HQ.out.symm), HF.out⟩
  · have HP4 := show Hid (Pair G w0 w4 b m v c (.slice p r.length cp) t r) from HP2.out.later hb4
    have HT4 := show Hid (Tb w4 B M vc t) from HT2.out.1.later hb4
    have HA4 := show Hid (A8 w4 w.heap.size ⟨7, s, a, bb, ⟨nk, ns, nl, nr⟩⟩) from (hb4.block _ (lt_of_block HA2.out)).trans HA2.out
    have HS4 := show Hid (w1.heap.size ≤ w4.heap.size) from Nat.le_trans HS2.out.1 hb4.size
    clear hb4 hb3 hr3 KR KS HC
    have KA := show Hid (Calls Try.prog 18 #[.pointer (some ⟨B, 0, none⟩), .string ⟨#[99, 111, 112, 105, 101, 100]⟩] w4 fun e w' => e = .returned (.tuple #[.int .i64 (Fm.put t (atomN ⟨#[99, 111, 112, 105, 101, 100]⟩)).1, .int .i64 (Fm.put t (atomN ⟨#[99, 111, 112, 105, 101, 100]⟩)).2.1]) ∧ After w4 B M vc (Fm.put t (atomN ⟨#[99, 111, 112, 105, 101, 100]⟩)).2.2 w') from atom_any w4 HT4.out _ (by decide)
    generalize Fm.put t (atomN ⟨#[99, 111, 112, 105, 101, 100]⟩) = pa at *
    go_wp2_with fail
    refine KA.out.mono ?_
    rintro e w5 ⟨rfl, haf⟩
    obtain ⟨hP5, ⟨vc5, hT5, hf5⟩, hk5, hs5⟩ := copy_step HP4.out HN1.out HT2.out.2 HS4.out HS2.out.2.1 haf
    have HP5 := show Hid (Pair G w0 w5 b m v c (.slice p r.length cp) t r ∧ (∀ k, Ft B M vc5 k → w1.heap.size ≤ k) ∧ w1.heap.size ≤ w5.heap.size) from ⟨hP5, hf5, hs5⟩
    have HA5 := show Hid (A8 w5 w.heap.size ⟨7, s, a, bb, ⟨nk, ns, nl, nr⟩⟩) from (hk5 _ HS2.out.2.2).trans HA4.out
    have dc2 := HA5.out.at.c2
    simp only [Nat.zero_add] at dc2
    have KN := show Hid (Calls Try.prog 31 #[.pointer (some ⟨B, 0, none⟩), .int .i64 a] w5 fun e w' => e = .returned (.tuple #[.int .i64 (Fm.notp pa.2.2 a).1, .int .i64 (Fm.notp pa.2.2 a).2.1]) ∧ After w5 B M vc5 (Fm.notp pa.2.2 a).2.2 w') from not_any w5 hT5 a HAI.out
    clear haf hP5 hT5 hf5 hk5 hs5 KA HA4 HP4 HT4
    go_wp2_with fail
    refine KN.out.mono ?_
    rintro e w6 ⟨rfl, haf⟩
    obtain ⟨hP6, -, -, -⟩ := copy_step HP5.out.1 HN1.out HP5.out.2.1 HP5.out.2.2 HS2.out.2.1 haf
    have HF := show Hid (∃ v' u', Pair G w0 w6 b m v' c u' (actR t ⟨7, s, a, bb, ⟨nk, ns, nl, nr⟩⟩) (actR r ⟨7, s, a, bb, ⟨nk, ns, nl, nr⟩⟩)) from by rw [HET.out.1, HET.out.2]; exact ⟨_, _, hP6⟩
    clear haf hP6 KN dc2
    go_wp2_with fail
    go_ret
    exact ⟨_, rfl, fun _ => rfl, HF.out⟩
theorem play_any (G : Nat → Option Obj) (w0 w : World) {b m c : Nat} {v u : Value} {t r : List Nd} (h : Pair G w0 w b m v c u t r) (x : Ac) (hx : goodA x) :
    Calls Try.prog 10 #[.pointer (some ⟨b, 0, none⟩), .pointer (some ⟨c, 0, none⟩), acV x] w fun e w' => ∃ q, e = .returned (.bool q) ∧ Played G w0 w' b m c q t r x := by
  obtain ⟨k, s, a, bb, nd⟩ := x
  obtain ⟨_, hs, ha, hb, hn⟩ := hx
  by_cases h0 : k = 0
  · subst h0; exact play0 G w0 w h s a bb nd hs ha hb hn
  by_cases h1 : k = 1
  · subst h1; exact play1 G w0 w h s a bb nd hs ha hb hn
  by_cases h2 : k = 2
  · subst h2; exact play2 G w0 w h s a bb nd hs ha hb hn
  by_cases h3 : k = 3
  · subst h3; exact play3 G w0 w h s a bb nd hs ha hb hn
  by_cases h4 : k = 4
  · subst h4; exact play4 G w0 w h s a bb nd hs ha hb hn
  by_cases h5 : k = 5
  · subst h5; exact play5 G w0 w h s a bb nd hs ha hb hn
  by_cases h6 : k = 6
  · subst h6; exact play6 G w0 w h s a bb nd hs ha hb hn
  by_cases h7 : k = 7
  · subst h7; exact play7 G w0 w h s a bb nd ha
  by_cases h8 : k = 8
  · subst h8; exact play8 G w0 w h s a bb nd
  exact playNo G w0 w h _ (beq_eq_false_iff_ne.2 h0) (beq_eq_false_iff_ne.2 h1) (beq_eq_false_iff_ne.2 h2) (beq_eq_false_iff_ne.2 h3) (beq_eq_false_iff_ne.2 h4) (beq_eq_false_iff_ne.2 h5) (beq_eq_false_iff_ne.2 h6) (beq_eq_false_iff_ne.2 h7) (beq_eq_false_iff_ne.2 h8)
end Go.Proofs.Ytphoeedccknihaa.Gp
