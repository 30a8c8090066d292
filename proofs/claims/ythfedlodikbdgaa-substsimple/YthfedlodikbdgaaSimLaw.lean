/-
  The law SubstSimple, as the program walks it: true for every row that a machine can hold and every number. No other condition.
-/
import Derived.Test.YthfedlodikbdgaaUHeads
import Derived.Test.YthfedlodikbdgaaUSimp
import Derived.Test.YthfedlodikbdgaaLLike
import Derived.Test.YthfedlodikbdgaaRSimC
namespace Go.Proofs.Ythfedlodikbdgaa
open Go.RowKit Go.Maps
open Fm (Nd)

theorem simR_twice {t : List Nd} (h : Fm.Ok t) (id : Int) (h0 : (Sb.simR t id).2.1 = 0) : Sb.simR (Sb.simR t id).2.2 (Sb.simR t id).1 = ((Sb.simR t id).1, 0, (Sb.simR t id).2.2) := by
  rcases refR_vals t [id] with ⟨h1, h2⟩ | h1
  · have hh := h2 id (by simp)
    obtain ⟨hx, hy⟩ := Fm.has_iff.1 hh
    have e : Sb.simR t id = Sb.anew (fun t _ n => Sb.simF t n) t id.toNat := by unfold Sb.simR; rw [if_pos h1]
    rw [e] at h0 ⊢
    obtain ⟨g1, g2, g3⟩ := Sb.simple_twice h (id := id.toNat) (by omega) h0
    unfold Sb.simR
    rw [if_pos (by unfold Sb.refR; rw [if_pos (by simp [g2])])]
    exact g3
  · have e : Sb.simR t id = (0, 31, t) := by unfold Sb.simR; rw [if_neg (by rw [h1]; decide)]
    rw [e] at h0
    cases h0
set_option maxRecDepth 100000 in
set_option maxHeartbeats 4000000 in
theorem substSimple_any (w : World) (rv : Value) (rs : List Nd) (hR : IsR w rv rs) (hg : ∀ n ∈ rs, Fm.good n) (hl : rs.length * 40 ≤ 140737488351232) (hv : rv = .slice none 0 0 ∨ ∃ a n c, rv = .slice (some a) n c) (x : Int) :
    Calls Try.prog 5 #[rv, .int .i64 x] w fun e w' => e = .returned (.bool true) ∧ Below w.heap.size w w' := by
  have KB := show Hid (Calls Try.prog 9 #[rv] w fun e w' => IsBoth w w' e (Fm.fr [] rs)) from both_any w rv rs hR hg hl hv
  have KH := show Hid (∀ w1 : World, Below w.heap.size w w1 → Calls Try.prog 10 #[] w1 fun e w' => e = .returned (.bool true) ∧ Below w.heap.size w w') from fun w1 hb => (heads_any w1).mono fun e w' ⟨he, hb'⟩ => ⟨he, hb.trans (hb'.mono hb.size)⟩
  generalize Fm.fr [] rs = ans at *
  have hsl : ∃ p n cc, rv = .slice p n cc := by
    rcases hv with rfl | ⟨a, n, cc, rfl⟩
    · exact ⟨_, _, _, rfl⟩
    · exact ⟨_, _, _, rfl⟩
  obtain ⟨p, n, cc, rfl⟩ := hsl
  clear hR hg hl hv
  go_enter Try.func5, Try.ntmps5
  go_wp2_with fail
  refine KB.out.mono ?_
  rintro e w1 (⟨h0, B, M, v, C, u, rfl, hP⟩ | ⟨h0, rfl, hb1⟩)
  · obtain ⟨a0, t⟩ := ans
    simp only at h0 hP
    have hok := hP.tb.ok
    have K2 := show Hid (Calls Try.prog 21 #[.pointer (some ⟨B, 0, none⟩), .int .i64 x] w1 fun e w' => e = .returned (.tuple #[.int .i64 (Sb.simR t x).1, .int .i64 (Sb.simR t x).2.1]) ∧ ∃ v', Pair w w' B M v' C u (Sb.simR t x).2.2 t) from (Simple_any w1 hP.tb x).mono fun e w' ⟨he, hA⟩ => ⟨he, hP.stepT hA⟩
    have KR := show Hid (∀ w2 v2, Pair w w2 B M v2 C u (Sb.simR t x).2.2 t → Calls Try.prog 22 #[.pointer (some ⟨C, 0, none⟩), .int .i64 x] w2 fun e w' => e = .returned (.tuple #[.int .i64 (Sb.simR t x).1, .int .i64 (Sb.simR t x).2.1]) ∧ ∃ u', Pair w w' B M v2 C u' (Sb.simR t x).2.2 (Sb.simR t x).2.2) from fun w2 v2 hP2 => (rsimple_any w2 hP2.tr x).mono fun e w' ⟨he, hA⟩ => ⟨he, hP2.stepR hA⟩
    have HT := show Hid ((Sb.simR t x).2.1 = 0 → Sb.simR (Sb.simR t x).2.2 (Sb.simR t x).1 = ((Sb.simR t x).1, 0, (Sb.simR t x).2.2)) from simR_twice hok x
    clear KB hP hok
    generalize Sb.simR t x = r at *
    obtain ⟨a, e0, t1⟩ := r
    simp only at K2 KR HT
    go_wp2_with fail
    refine K2.out.mono ?_
    rintro e w2 ⟨rfl, v2, hP2⟩
    have K3 := show Hid (Calls Try.prog 22 #[.pointer (some ⟨C, 0, none⟩), .int .i64 x] w2 fun e w' => e = .returned (.tuple #[.int .i64 a, .int .i64 e0]) ∧ ∃ u', Pair w w' B M v2 C u' t1 t1) from KR.out w2 v2 hP2
    clear K2 KR hP2
    go_wp2_with fail
    refine K3.out.mono ?_
    rintro e w3 ⟨rfl, u3, hP3⟩
    have K4 := show Hid (Calls Try.prog 13 #[.pointer (some ⟨B, 0, none⟩), .pointer (some ⟨C, 0, none⟩)] w3 fun e w' => e = .returned (.bool true) ∧ Below w3.heap.size w3 w') from like_any w w3 hP3
    have HP3 := show Hid (Pair w w3 B M v2 C u3 t1 t1) from hP3
    clear K3 hP3
    go_wp2_with fail
    refine K4.out.mono ?_
    rintro e w4 ⟨rfl, hb4⟩
    have HP4 := show Hid (Pair w w4 B M v2 C u3 t1 t1) from HP3.out.later hb4
    clear K4 HP3 hb4
    by_cases he : e0 = 0
    · subst he
      have hts := HT.out rfl
      have KL := show Hid (Calls Try.prog 23 #[.pointer (some ⟨B, 0, none⟩)] w4 fun e w' => e = .returned (.int .i64 (t1.length : Int)) ∧ w' = w4) from len_any w4 HP4.out.tb
      have K5 := show Hid (Calls Try.prog 21 #[.pointer (some ⟨B, 0, none⟩), .int .i64 a] w4 fun e w' => e = .returned (.tuple #[.int .i64 a, .int .i64 0]) ∧ ∃ v', Pair w w' B M v' C u3 t1 t1) from (by
        have h := Simple_any w4 HP4.out.tb a
        rw [hts] at h
        exact h.mono fun e w' ⟨he, hA⟩ => ⟨he, HP4.out.stepT hA⟩)
      clear HP4 HT hts
      go_wp2_with fail
      refine KL.out.mono ?_
      rintro e wl ⟨rfl, hwl⟩
      subst wl
      clear KL
      go_wp2_with fail
      refine K5.out.mono ?_
      rintro e w5 ⟨rfl, v5, hP5⟩
      have KL := show Hid (Calls Try.prog 23 #[.pointer (some ⟨B, 0, none⟩)] w5 fun e w' => e = .returned (.int .i64 (t1.length : Int)) ∧ w' = w5) from len_any w5 hP5.tb
      have KHw := show Hid (Calls Try.prog 10 #[] w5 fun e w' => e = .returned (.bool true) ∧ Below w.heap.size w w') from KH.out w5 hP5.bel
      clear K5 KH hP5
      go_wp2_with fail
      refine KL.out.mono ?_
      rintro e wl ⟨rfl, hwl⟩
      subst wl
      clear KL
      go_wp2_with fail
      refine KHw.out.mono ?_
      rintro e w6 ⟨rfl, hb6⟩
      have HB := show Hid (Below w.heap.size w w6) from hb6
      clear KHw hb6
      go_wp2_with fail
      go_ret
      exact ⟨rfl, HB.out⟩
    · have hne : (e0 != 0) = true := by simpa using he
      have KHw := show Hid (Calls Try.prog 10 #[] w4 fun e w' => e = .returned (.bool true) ∧ Below w.heap.size w w') from KH.out w4 HP4.out.bel
      clear HP4 HT KH
      go_wp2_with fail
      refine KHw.out.mono ?_
      rintro e w6 ⟨rfl, hb6⟩
      have HB := show Hid (Below w.heap.size w w6) from hb6
      clear KHw hb6
      go_wp2_with fail
      go_ret
      exact ⟨rfl, HB.out⟩
  · have KHw := show Hid (Calls Try.prog 10 #[] w1 fun e w' => e = .returned (.bool true) ∧ Below w.heap.size w w') from KH.out w1 hb1
    clear KB KH hb1
    go_wp2_with fail
    refine KHw.out.mono ?_
    rintro e w6 ⟨rfl, hb6⟩
    have HB := show Hid (Below w.heap.size w w6) from hb6
    clear KHw hb6
    go_wp2_with fail
    go_ret
    exact ⟨rfl, HB.out⟩
end Go.Proofs.Ythfedlodikbdgaa
