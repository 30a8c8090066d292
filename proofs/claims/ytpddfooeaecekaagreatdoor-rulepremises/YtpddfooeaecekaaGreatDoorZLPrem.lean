/-
  The law RulePremises, as the program walks it: true for every row of formulas, every sequent, every number of a rule and of a formula. Where the table of TrailingZeros stands as the program's text lays it.
-/
import Derived.Test.YtpddfooeaecekaaGreatDoorZRpN
import Derived.Test.YtpddfooeaecekaaGreatDoorZH2
import Derived.Test.YtpddfooeaecekaaGreatDoorZH2
import Derived.Test.YtpddfooeaecekaaGreatDoorZLX
namespace Go.Proofs.YtpddfooeaecekaaGreatDoor
open Go.RowKit Go.Shelf Go.Maps
open Fm (Nd)
open Bt.Bs (Ok wd)
set_option linter.unusedSimpArgs false

set_option maxRecDepth 100000 in
set_option maxHeartbeats 1000000 in
theorem rseqs_zero (w : World) (p p2 : Option Addr) (c c2 : Nat) : Calls Tryz.prog 19 #[.slice p 0 c, .slice p2 0 c2] w fun e w' => e = .returned (.bool true) ∧ Below w.heap.size w w' := by
  go_enter Tryz.func19, Tryz.ntmps19
  go_wp2_with fail
  go_loopw [5] (fun v wr => v = .int .i64 0 ∧ wr = w) (fun _ _ => 0)
  case atStart => exact ⟨rfl, rfl⟩
  case round =>
    obtain ⟨rfl, rfl⟩ := hrel
    go_wp2_with fail
    go_ret
    exact ⟨rfl, Below.refl _ _⟩
theorem SqR.form {w : World} {sv : Value} {l : List SQ} (h : SqR sv l w) : ∃ p c, sv = .slice p l.length c := by
  rcases h with ⟨rfl, rfl⟩ | ⟨q, rfl, _⟩
  · exact ⟨_, _, rfl⟩
  · exact ⟨_, _, rfl⟩
theorem SqR.later {w w' : World} {sv : Value} {l : List SQ} (h : SqR sv l w) (hb : Below w.heap.size w w') : SqR sv l w' := by
  rcases h with h | ⟨q, h1, h2⟩
  · exact Or.inl h
  · exact Or.inr ⟨q, h1, h2.later hb⟩
theorem SqR.keepR {w w' : World} {sv : Value} {l : List SQ} {c : Nat} {u : Value} {t t' : List Nd} (h : SqR sv l w) (hT : Tr w c u t) (ha : AfterR w c u t' w') : SqR sv l w' := by
  rcases h with h | ⟨q, h1, h2⟩
  · exact Or.inl h
  · obtain ⟨u2, _, _, hK⟩ := ha
    refine Or.inr ⟨q, h1, (hK.block q h2.lt fun e => ?_).trans h2⟩
    have h3 : w.heap[q]? = some (.cells (cellsQs l) 27 (0, 0)) := h2
    rcases e with e | e
    · subst e
      rw [hT.tab] at h3
      simp at h3
    · obtain ⟨_, cur, hh⟩ := hT.row.lt q e
      rw [hh] at h3
      simp at h3
theorem rseqs_any (w : World) {l : List SQ} (hl : ∀ s ∈ l, s.1.length = 16) (hn : l.length ≤ 1000) {sv sv2 : Value} (h1 : SqR sv l w) (h2 : SqR sv2 l w) :
    Calls Tryz.prog 19 #[sv, sv2] w fun e w' => e = .returned (.bool true) ∧ Below w.heap.size w w' := by
  rcases h1 with ⟨rfl, rfl⟩ | ⟨q, rfl, hc⟩
  · obtain ⟨p, c, rfl⟩ := h2.form
    exact rseqs_zero w _ _ _ _
  · rcases h2 with ⟨rfl, rfl⟩ | ⟨q2, rfl, hc2⟩
    · exact rseqs_zero w _ _ _ _
    · exact rseqs_row w hl hn hc hc2
set_option maxRecDepth 100000 in
set_option maxHeartbeats 4000000 in
theorem rulePremises_any (w : World) (rv : Value) (rs : List Nd) (hR : IsR w rv rs) (hg : ∀ n ∈ rs, Fm.good n) (hl : rs.length * 40 ≤ 140737488351232) (hv : rv = .slice none 0 0 ∨ ∃ a n c, rv = .slice (some a) n c)
    {r : List Nat} (hr : Ok r) (g ru main : Int) (hZ : Bt.Tz w) :
    Calls Tryz.prog 4 #[rv, .agg (cellsQ r g), .int .i64 ru, .int .i64 main] w fun e w' => e = .returned (.bool true) ∧ Below w.heap.size w w' := by
  have hr16 := hr.1
  have KT := show Hid (∀ w', Below w.heap.size w w' → Calls Tryz.prog 5 #[rv] w' fun e w'' => IsBoth w' w'' e (Fm.fr [] rs)) from fun w' hb => both_any w' rv rs (hR.later hb) hg hl hv
  have KH := show Hid (∀ w' : World, Below w.heap.size w w' → Calls Tryz.prog 6 #[] w' fun e w'' => e = .returned (.bool true) ∧ Below w'.heap.size w' w'') from fun w' hb => heads9_any w' (Bt.tz_block hZ hb)
  have HZ := show Hid (∀ W : World, Below w.heap.size w W → Bt.Tz W) from fun W hb => Bt.tz_block hZ hb
  have HOK := show Hid (Ok r) from hr
  have hsl : ∃ p n cc, rv = .slice p n cc := by
    rcases hv with rfl | ⟨a, n, cc, rfl⟩
    · exact ⟨_, _, _, rfl⟩
    · exact ⟨_, _, _, rfl⟩
  obtain ⟨p, n, cc, rfl⟩ := hsl
  generalize Fm.fr [] rs = ans at *
  clear hR hg hl hv hZ hr
  go_enter Tryz.func4, Tryz.ntmps4
  go_wp2_with (refine wpList_box 27 _ rfl _ rfl rfl ?_)
  intro w1 b5 hn1
  have H1 := show Hid (RS1 w w1 b5 r g) from ⟨hn1.blk, hn1.bel, hn1.ge⟩
  clear hn1
  go_wp2_with fail
  refine Calls.mono (KT.out _ H1.out.bel) ?_
  rintro e w2 (⟨_, B, M, v, C, u, rfl, hP⟩ | ⟨_, rfl, hb⟩)
  · have H2 := show Hid (LX w w1 w2 b5 B M v C u ans.2 ans.2 r g) from LX.mk1 H1.out hP
    clear hP H1 KT
    generalize ans.2 = t at *
    obtain ⟨P, hP⟩ : ∃ P, P = premF t r g ru main := ⟨_, rfl⟩
    have K1 := show Hid (Calls Tryz.prog 17 #[.pointer (some ⟨B, 0, none⟩), .agg (cellsQ r g), .int .i64 ru, .int .i64 main] w2 fun e w' => ∃ sv, e = .returned (.tuple #[sv, .int .i64 P.2.2]) ∧ SqR sv P.1 w' ∧ After w2 B M v P.2.1 w') from by rw [hP]; exact prem_any w2 H2.out.pr.tb (HZ.out _ H2.out.bel) HOK.out g ru main
    have HPR := show Hid ((∀ s ∈ P.1, s.1.length = 16) ∧ P.1.length ≤ 1000) from by
      have h := prem_rows (t := t) HOK.out g ru main
      rw [← hP] at h
      exact ⟨fun s hs => (h.1 s hs).1, by omega⟩
    have HPP := show Hid (P = premF t r g ru main) from hP
    clear hP
    go_wp2_with (refine wpList_ldQQ _ _ rfl b5 rfl H2.out.s hr16 rfl ?_)
    refine Calls.mono K1.out ?_
    rintro e w3 ⟨sv, rfl, hS, hA⟩
    obtain ⟨v3, hP3⟩ := H2.out.pr.stepT hA
    have H3 := show Hid (LX w w1 w3 b5 B M v3 C u P.2.1 t r g ∧ SqR sv P.1 w3) from ⟨⟨hP3, (show SeqAt w3 b5 r g from by
      obtain ⟨_, _, _, hK⟩ := hA
      exact (hK.block b5 H2.out.s.lt (fun e => by
        have h1 := H2.out.pr.bt b5 e
        have h2 := H2.out.s
        obtain ⟨D, ⟨es, cl, hm, _⟩, _⟩ := H2.out.pr.tb.map
        have h3 : w2.heap[b5]? = some (.cells (cellsQ r g) 27 (0, 0)) := h2
        rcases e with e | e | e
        · subst e
          rw [H2.out.pr.tb.tab] at h3
          simp at h3
        · subst e
          rw [hm] at h3
          cases h3
        · obtain ⟨_, cur, hh⟩ := H2.out.pr.tb.row.lt b5 e
          rw [hh] at h3
          simp at h3)).trans H2.out.s), H2.out.b1⟩, hS⟩
    clear hS hA hP3 H2 K1
    have K2 := show Hid (Calls Tryz.prog 10 #[.pointer (some ⟨C, 0, none⟩), .agg (cellsQ r g)] w3 fun e w' => e = .returned (.bool (rightQ t r g)) ∧ Below w3.heap.size w3 w') from rright_any w3 H3.out.1.pr.tr HOK.out g
    obtain ⟨ps, cs, hsv⟩ := H3.out.2.form
    subst hsv
    go_wp2_with (refine wpList_ldQQ _ _ rfl b5 rfl H3.out.1.s hr16 rfl ?_)
    refine Calls.mono K2.out ?_
    rintro e w4 ⟨rfl, hb4⟩
    have H4 := show Hid (LX w w1 w4 b5 B M v3 C u P.2.1 t r g ∧ SqR (.slice ps P.1.length cs) P.1 w4) from ⟨H3.out.1.later hb4, H3.out.2.later hb4⟩
    clear hb4 H3 K2
    have HRZ := show Hid (refZ t r g = if rightQ t r g then 0 else 31) from ref_right HOK.out g
    cases hq : rightQ t r g with
    | false =>
      rw [hq, if_neg Bool.false_ne_true] at HRZ
      obtain rfl : P = ([], t, 31) := by
        rw [HPP.out]
        unfold premF
        rw [HRZ.out]
        rfl
      clear HPP HRZ HPR
      simp only [List.length_nil] at H4
      have K5 := show Hid _ from like_any w1 w4 H4.out.1.pr
      go_wp2_with fail
      refine Calls.mono K5.out ?_
      rintro e w5 ⟨rfl, hb5⟩
      have H5 := show Hid _ from H4.out.1.later hb5
      clear hb5 H4 K5
      go_wp2_with fail
      refine Calls.mono (KH.out _ H5.out.bel) ?_
      rintro e w6 ⟨rfl, hb6⟩
      have H6 := show Hid _ from H5.out.later hb6
      clear hb6 H5 KH
      go_wp2_with fail
      go_ret
      exact ⟨rfl, H6.out.bel⟩
    | true =>
      rw [hq, if_pos rfl] at HRZ
      have K5 := show Hid (Calls Tryz.prog 18 #[.pointer (some ⟨C, 0, none⟩), .agg (cellsQ r g), .int .i64 ru, .int .i64 main] w4 fun e w' => ∃ sv, e = .returned (.tuple #[sv, .int .i64 P.2.2]) ∧ SqR sv P.1 w' ∧ AfterR w4 C u P.2.1 w') from by rw [HPP.out]; exact rprem_any w4 H4.out.1.pr.tr HOK.out g ru main HRZ.out
      clear HPP HRZ
      go_wp2_with (refine wpList_ldQQ _ _ rfl b5 rfl H4.out.1.s hr16 rfl ?_)
      refine Calls.mono K5.out ?_
      rintro e w5 ⟨sv2, rfl, hS2, hA2⟩
      obtain ⟨u5, hP5⟩ := H4.out.1.pr.stepR hA2
      have H5 := show Hid (Pair w1 w5 B M v3 C u5 P.2.1 P.2.1 ∧ SqR (.slice ps P.1.length cs) P.1 w5 ∧ SqR sv2 P.1 w5 ∧ Below w.heap.size w w1) from ⟨hP5, H4.out.2.keepR H4.out.1.pr.tr hA2, hS2, H4.out.1.b1⟩
      clear hS2 hA2 hP5 H4 K5
      have K6 := show Hid _ from rseqs_any w5 HPR.out.1 HPR.out.2 H5.out.2.1 H5.out.2.2.1
      obtain ⟨ps2, cs2, hsv2⟩ := H5.out.2.2.1.form
      subst hsv2
      clear HPR
      go_wp2_with fail
      refine Calls.mono K6.out ?_
      rintro e w6 ⟨rfl, hb6⟩
      have H6 := show Hid (Pair w1 w6 B M v3 C u5 P.2.1 P.2.1 ∧ Below w.heap.size w w1) from ⟨H5.out.1.later hb6, H5.out.2.2.2⟩
      clear hb6 H5 K6
      have K7 := show Hid _ from like_any w1 w6 H6.out.1
      go_wp2_with fail
      refine Calls.mono K7.out ?_
      rintro e w7 ⟨rfl, hb7⟩
      have H7 := show Hid (Below w.heap.size w w7) from H6.out.2.trans ((H6.out.1.later hb7).bel.mono H6.out.2.size)
      clear hb7 H6 K7
      go_wp2_with fail
      refine Calls.mono (KH.out _ H7.out) ?_
      rintro e w8 ⟨rfl, hb8⟩
      have H8 := show Hid (Below w.heap.size w w8) from H7.out.trans (hb8.mono H7.out.size)
      clear hb8 H7 KH
      go_wp2_with fail
      go_ret
      exact ⟨rfl, H8.out⟩
  · have H2 := show Hid (Below w.heap.size w w2) from H1.out.bel.trans (hb.mono H1.out.bel.size)
    clear hb H1 KT
    go_wp2_with fail
    refine Calls.mono (KH.out _ H2.out) ?_
    rintro e w3 ⟨rfl, hb3⟩
    have H3 := show Hid (Below w.heap.size w w3) from H2.out.trans (hb3.mono H2.out.size)
    clear hb3 H2 KH
    go_wp2_with fail
    go_ret
    exact ⟨rfl, H3.out⟩
end Go.Proofs.YtpddfooeaecekaaGreatDoor
