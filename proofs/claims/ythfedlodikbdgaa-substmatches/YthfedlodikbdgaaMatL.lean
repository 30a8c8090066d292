/-
  What a pattern tells, put into it, makes the formula. No condition.
-/
import Derived.Test.YthfedlodikbdgaaUMref
import Derived.Test.YthfedlodikbdgaaUSimp
import Derived.Test.YthfedlodikbdgaaRPutC
import Derived.Test.YthfedlodikbdgaaUHeads
import Derived.Test.YthfedlodikbdgaaUHyps
import Derived.Test.YthfedlodikbdgaaLLike
import Derived.Test.YthfedlodikbdgaaRMatG
namespace Go.Proofs.Ythfedlodikbdgaa
open Fm (Nd)

theorem dist_perm {a b : Sb.Hs} (hp : a.Perm b) (h : Sb.Dist b) : Sb.Dist a := by
  unfold Sb.Dist at *
  exact (hp.map (fun x => x.1)).nodup_iff.2 h
theorem look_dist {l : Sb.Hs} (hd : Sb.Dist l) {s : ByteArray} {x : Int} (hm : (s, x) ∈ l) : Sb.look l s = some x := by
  cases hq : Sb.look l s with
  | none =>
    have := (look_isSome l s).2 (List.mem_map.2 ⟨(s, x), hm, rfl⟩)
    rw [hq] at this
    cases this
  | some f =>
    have h1 := Sb.look_mem hq
    obtain ⟨i, hi, e1⟩ := List.mem_iff_getElem.1 hm
    obtain ⟨j, hj, e2⟩ := List.mem_iff_getElem.1 h1
    by_cases e : i = j
    · subst e
      rw [e1] at e2
      cases e2
      rfl
    · exfalso
      unfold Sb.Dist at hd
      rcases Nat.lt_or_gt_of_ne e with h | h
      · exact List.pairwise_iff_getElem.1 hd i j (by simpa using hi) (by simpa using hj) h (by simp [e1, e2])
      · exact List.pairwise_iff_getElem.1 hd j i (by simpa using hj) (by simpa using hi) h (by simp [e1, e2])
theorem bot_inj {t : List Nd} (h : Fm.Ok t) {a b : Nat} (la : a < t.length) (lb : b < t.length) (ka : (Ms.row t a).k = 2) (kb : (Ms.row t b).k = 2) : a = b := by
  refine Sb.row_inj h la lb ?_
  rcases Sb.row_kind h la with r | r | r
  · rw [r.1] at ka; cases ka
  · rcases Sb.row_kind h lb with q | q | q
    · rw [q.1] at kb; cases kb
    · generalize Ms.row t a = x at *
      generalize Ms.row t b = z at *
      obtain ⟨xk, xs, xl, xr⟩ := x
      obtain ⟨zk, zs, zl, zr⟩ := z
      simp only at r q
      obtain ⟨rfl, _, rfl, rfl, rfl⟩ := r
      obtain ⟨rfl, _, rfl, rfl, rfl⟩ := q
      rfl
    · exact absurd kb q.2.2.1
  · exact absurd ka r.2.2.1
/-- What fits, as what is put. -/
theorem fits_put {t : List Nd} (h : Fm.Ok t) {pat : Nat} (hp : pat < t.length) {y : Nat → Int} (hy : Sb.Fits t pat y) (hh : ∀ j ∈ Fm.below t pat, Fm.has t (y j) = true) {l : Sb.Hs} (hW : Sb.Words l)
    (ha : ∀ i ∈ Fm.below t pat, (Ms.row t i).k = 1 → Sb.look l (Ms.row t i).s = some (y i)) : Sb.anew (Sb.putF l) t pat = (y pat, 0, t) := by
  refine Sb.anew_fix h hp y fun i hi => ?_
  have li : i < t.length := by have := Ms.below_lt t pat i hi; omega
  unfold Sb.putF
  have hhi := hh i hi
  obtain ⟨q0, q1⟩ := Fm.has_iff.1 hhi
  rcases Sb.row_kind h li with r | r | r
  · have e : Sb.rowI t y i = Ms.row t i := by unfold Sb.rowI; rw [if_neg (by rw [r.2.1]; simp)]
    rw [e, ha i hi r.1]
  · have e : Sb.rowI t y i = Ms.row t i := by unfold Sb.rowI; rw [if_neg (by rw [r.2.1]; simp)]
    rw [e, r.2.2.1, Sb.look_empty hW]
    have hk := (hy i hi (by rw [r.1]; decide)).1
    rw [Sb.nd_in hhi, r.1] at hk
    have := bot_inj h li (b := (y i).toNat) (by omega) r.1 hk.symm
    rw [show y i = ((i : Nat) : Int) from by omega]
    exact Sb.put_self h li
  · rw [Sb.rowI_at h li y r.1]
    simp only
    rw [Sb.look_empty hW]
    obtain ⟨h1, h2⟩ := hy i hi r.2.1
    obtain ⟨h3, h4⟩ := h2 r.1
    have lx : (y i).toNat < t.length := by omega
    have hrow : Ms.row t (y i).toNat = ⟨(Ms.row t i).k, ⟨#[]⟩, y (Ms.row t i).l.toNat, y (Ms.row t i).r.toNat⟩ := by
      rw [Sb.nd_in hhi] at h1 h3 h4
      have hs : (Ms.row t (y i).toNat).s = ⟨#[]⟩ := by
        rcases Sb.row_kind h lx with z | z | z
        · rw [← h1] at z; exact absurd z.1 r.2.1
        · exact z.2.2.1
        · exact z.2.2.2
      generalize Ms.row t (y i).toNat = m at *
      obtain ⟨mk, ms, ml, mr⟩ := m
      simp only at h1 h3 h4 hs
      rw [h1, h3, h4, hs]
    have := Sb.put_there h lx hrow
    rw [this]
    simp only [Prod.mk.injEq, and_true]
    omega
/-- What Match tells makes the formula of the pattern. -/
theorem match_put {t : List Nd} (h : Fm.Ok t) {pat id : Int} (hm : (matchR t pat id).2.1 = true) : Sb.putR t pat (matchR t pat id).1 = (id, 0, t) := by
  unfold matchR at hm ⊢
  rcases refR_vals t [pat, id] with ⟨h0, h1⟩ | h0
  · rw [if_pos h0] at hm ⊢
    have hpat := h1 pat (by simp)
    have hid := h1 id (by simp)
    obtain ⟨q0, q1⟩ := Fm.has_iff.1 hpat
    have hp : pat.toNat < t.length := by omega
    by_cases hg : (Sb.mrun t (Fm.below t pat.toNat).reverse pat.toNat id).2.2 = true
    · rw [if_pos hg] at hm ⊢
      simp only
      have hd := match_dist h hp hid hg
      obtain ⟨y, hy, hy0, hh⟩ := Sb.match_told h hp hid hg
      have hm2 := congrArg Prod.fst (Sb.match_is h hp hy hy0)
      simp only at hm2
      rw [hm2] at hd ⊢
      have hperm := srt_perm (Sb.atomsOf t y (Fm.below t pat.toNat).reverse)
      have hmem : ∀ z ∈ srt (Sb.atomsOf t y (Fm.below t pat.toNat).reverse), ∃ i ∈ Fm.below t pat.toNat, (Ms.row t i).k = 1 ∧ z = ((Ms.row t i).s, y i) := fun z hz => by
        have h2 := hperm.mem_iff.1 hz
        unfold Sb.atomsOf at h2
        obtain ⟨i, hi, e⟩ := List.mem_map.1 h2
        obtain ⟨hi1, hi2⟩ := List.mem_filter.1 hi
        exact ⟨i, by simpa using hi1, of_decide_eq_true hi2, e.symm⟩
      have hwords : Sb.Words (srt (Sb.atomsOf t y (Fm.below t pat.toNat).reverse)) := fun z hz => by
        obtain ⟨i, hi, hk, rfl⟩ := hmem z hz
        have li : i < t.length := by have := Ms.below_lt t pat.toNat i hi; omega
        rcases Sb.row_kind h li with r | r | r
        · exact r.2.2.2.2
        · rw [r.1] at hk; cases hk
        · exact absurd hk r.2.1
      rw [(putR_ways t pat _).1 ⟨hpat, fun z hz => by
        obtain ⟨i, hi, _, rfl⟩ := hmem z hz
        exact hh i hi, dist_perm hperm hd, hwords⟩, fits_put h hp hy hh hwords fun i hi hk => look_dist (dist_perm hperm hd) (hperm.mem_iff.2 (by
        unfold Sb.atomsOf
        exact List.mem_map.2 ⟨i, List.mem_filter.2 ⟨by simpa using hi, decide_eq_true hk⟩, rfl⟩)), hy0]
    · rw [if_neg hg] at hm
      cases hm
  · rw [if_neg (by rw [h0]; decide)] at hm
    cases hm
end Go.Proofs.Ythfedlodikbdgaa
/-
  The law SubstMatches, as the program walks it: true for every row that a machine can hold and every two numbers. No other condition.
-/
namespace Go.Proofs.Ythfedlodikbdgaa
open Go.RowKit Go.Maps
open Fm (Nd)

theorem match_forms {t : List Nd} (h : Fm.Ok t) {pat id : Int} : GoodH (matchR t pat id).1 ∧ ((matchR t pat id).2.1 = false → (matchR t pat id).1 = []) := by
  unfold matchR
  rcases refR_vals t [pat, id] with ⟨h0, h1⟩ | h0
  · rw [if_pos h0]
    have hpat := h1 pat (by simp)
    have hid := h1 id (by simp)
    obtain ⟨q0, q1⟩ := Fm.has_iff.1 hpat
    have hp : pat.toNat < t.length := by omega
    by_cases hg : (Sb.mrun t (Fm.below t pat.toNat).reverse pat.toNat id).2.2 = true
    · rw [if_pos hg]
      refine ⟨fun z hz => ?_, fun h => by cases h⟩
      obtain ⟨y, hy, hy0, hh⟩ := Sb.match_told h hp hid hg
      have hm2 := congrArg Prod.fst (Sb.match_is h hp hy hy0)
      simp only at hm2 hz
      rw [hm2] at hz
      have h2 := (srt_perm _).mem_iff.1 hz
      unfold Sb.atomsOf at h2
      obtain ⟨i, hi, e⟩ := List.mem_map.1 h2
      obtain ⟨hi1, hi2⟩ := List.mem_filter.1 hi
      have hi3 : i ∈ Fm.below t pat.toNat := by simpa using hi1
      have li : i < t.length := by have := Ms.below_lt t pat.toNat i hi3; omega
      rw [← e]
      exact ⟨(Sb.good_row h i li).2.1, (Sb.has_i64 h (hh i hi3)).2.2⟩
    · rw [if_neg hg]
      exact ⟨(fun z hz => by cases hz), fun _ => rfl⟩
  · rw [if_neg (by rw [h0]; decide)]
    exact ⟨(fun z hz => by cases hz), fun _ => rfl⟩
set_option maxRecDepth 100000 in
set_option maxHeartbeats 4000000 in
theorem substMatches_any (w : World) (rv : Value) (rs : List Nd) (hR : IsR w rv rs) (hg : ∀ n ∈ rs, Fm.good n) (hl : rs.length * 40 ≤ 140737488351232) (hv : rv = .slice none 0 0 ∨ ∃ a n c, rv = .slice (some a) n c) (x y : Int) :
    Calls Try.prog 4 #[rv, .int .i64 x, .int .i64 y] w fun e w' => e = .returned (.bool true) ∧ Below w.heap.size w w' := by
  have KB := show Hid (Calls Try.prog 9 #[rv] w fun e w' => IsBoth w w' e (Fm.fr [] rs)) from both_any w rv rs hR hg hl hv
  have KH := show Hid (∀ w1 : World, Below w.heap.size w w1 → Calls Try.prog 10 #[] w1 fun e w' => e = .returned (.bool true) ∧ Below w.heap.size w w') from fun w1 hb => (heads_any w1).mono fun e w' ⟨he, hb'⟩ => ⟨he, hb.trans (hb'.mono hb.size)⟩
  generalize Fm.fr [] rs = ans at *
  have hsl : ∃ p n cc, rv = .slice p n cc := by
    rcases hv with rfl | ⟨a, n, cc, rfl⟩
    · exact ⟨_, _, _, rfl⟩
    · exact ⟨_, _, _, rfl⟩
  obtain ⟨p, n, cc, rfl⟩ := hsl
  clear hR hg hl hv
  go_enter Try.func4, Try.ntmps4
  go_wp2_with fail
  refine KB.out.mono ?_
  rintro e w1 (⟨h0, B, M, v, C, u, rfl, hP⟩ | ⟨h0, rfl, hb1⟩)
  · obtain ⟨a0, t⟩ := ans
    simp only at h0 hP
    have hok := hP.tb.ok
    have K2 := show Hid (Calls Try.prog 19 #[.pointer (some ⟨B, 0, none⟩), .int .i64 x, .int .i64 y] w1 fun e w' => ∃ pa ca, e = .returned (.tuple #[.slice pa (matchR t x y).1.length ca, .bool (matchR t x y).2.1, .int .i64 (matchR t x y).2.2]) ∧ IsH w' (.slice pa (matchR t x y).1.length ca) (matchR t x y).1 ∧ Pair w w' B M v C u t t) from (Match_any w1 hP.tb x y).mono fun e w' ⟨sv, he, hI, _, hb⟩ => by
      obtain ⟨pa, ca, rfl, h1, h2⟩ := hI
      exact ⟨pa, ca, he, ⟨pa, ca, rfl, h1, h2⟩, hP.later hb⟩
    have KR := show Hid (∀ w2, Pair w w2 B M v C u t t → Calls Try.prog 20 #[.pointer (some ⟨C, 0, none⟩), .int .i64 x, .int .i64 y] w2 fun e w' => ∃ pb cb, e = .returned (.tuple #[.slice pb (matchR t x y).1.length cb, .bool (matchR t x y).2.1, .int .i64 (matchR t x y).2.2]) ∧ IsH w' (.slice pb (matchR t x y).1.length cb) (matchR t x y).1 ∧ Below w2.heap.size w2 w') from fun w2 hP2 => (rmatch_any w2 hP2.tr x y).mono fun e w' ⟨sv, he, hI, _, hb⟩ => by
      obtain ⟨pa, ca, rfl, h1, h2⟩ := hI
      exact ⟨pa, ca, he, ⟨pa, ca, rfl, h1, h2⟩, hb⟩
    have HMP := show Hid ((matchR t x y).2.1 = true → Sb.putR t x (matchR t x y).1 = (y, 0, t)) from fun h => match_put hok h
    have HGH := show Hid (GoodH (matchR t x y).1) from (match_forms hok).1
    clear KB hP hok
    generalize matchR t x y = r at *
    obtain ⟨hs, ok, er⟩ := r
    simp only at K2 KR HMP HGH
    go_wp2_with fail
    refine K2.out.mono ?_
    rintro e w2 ⟨pa, ca, rfl, hI2, hP2⟩
    have K3 := show Hid _ from KR.out w2 hP2
    have HP2 := show Hid (Pair w w2 B M v C u t t ∧ IsH w2 (.slice pa hs.length ca) hs) from ⟨hP2, hI2⟩
    clear K2 KR hP2 hI2
    go_wp2_with fail
    refine Calls.mono K3.out ?_
    rintro e w3 ⟨pb, cb, rfl, hI3, hb3⟩
    have HP3 := show Hid (Pair w w3 B M v C u t t ∧ IsH w3 (.slice pa hs.length ca) hs) from ⟨HP2.out.1.later hb3, HP2.out.2.later hb3⟩
    have K4 := show Hid (Calls Try.prog 14 #[.slice pa hs.length ca, .slice pb hs.length cb] w3 fun e w' => e = .returned (.bool true) ∧ Below w3.heap.size w3 w') from hyps_eq w3 _ _ hs HP3.out.2 hI3
    clear K3 HP2 hI3 hb3
    go_wp2_with fail
    refine K4.out.mono ?_
    rintro e w4 ⟨rfl, hb4⟩
    have HP4 := show Hid (Pair w w4 B M v C u t t ∧ IsH w4 (.slice pa hs.length ca) hs) from ⟨HP3.out.1.later hb4, HP3.out.2.later hb4⟩
    have K5 := show Hid (Calls Try.prog 13 #[.pointer (some ⟨B, 0, none⟩), .pointer (some ⟨C, 0, none⟩)] w4 fun e w' => e = .returned (.bool true) ∧ Below w4.heap.size w4 w') from like_any w w4 HP4.out.1
    clear K4 HP3 hb4
    go_wp2_with fail
    refine K5.out.mono ?_
    rintro e w5 ⟨rfl, hb5⟩
    have HP5 := show Hid (Pair w w5 B M v C u t t ∧ IsH w5 (.slice pa hs.length ca) hs) from ⟨HP4.out.1.later hb5, HP4.out.2.later hb5⟩
    clear K5 HP4 hb5
    cases ok with
    | true =>
      have hts := HMP.out rfl
      have K6 := show Hid (Calls Try.prog 11 #[.pointer (some ⟨B, 0, none⟩), .int .i64 x, .slice pa hs.length ca] w5 fun e w' => e = .returned (.tuple #[.int .i64 y, .int .i64 0]) ∧ ∃ v', Pair w w' B M v' C u t t) from (by
        have h := Put_any w5 HP5.out.1.tb x _ hs HP5.out.2 HGH.out
        rw [hts] at h
        exact h.mono fun e w' ⟨he, hA⟩ => ⟨he, HP5.out.1.stepT hA⟩)
      clear HP5 HMP hts HGH
      go_wp2_with fail
      refine K6.out.mono ?_
      rintro e w6 ⟨rfl, v6, hP6⟩
      have KHw := show Hid (Calls Try.prog 10 #[] w6 fun e w' => e = .returned (.bool true) ∧ Below w.heap.size w w') from KH.out w6 hP6.bel
      clear K6 KH hP6
      go_wp2_with fail
      refine KHw.out.mono ?_
      rintro e w7 ⟨rfl, hb7⟩
      have HB := show Hid (Below w.heap.size w w7) from hb7
      clear KHw hb7
      go_wp2_with fail
      go_ret
      exact ⟨rfl, HB.out⟩
    | false =>
      have KHw := show Hid (Calls Try.prog 10 #[] w5 fun e w' => e = .returned (.bool true) ∧ Below w.heap.size w w') from KH.out w5 HP5.out.1.bel
      clear HP5 HMP HGH KH
      go_wp2_with fail
      refine KHw.out.mono ?_
      rintro e w6 ⟨rfl, hb6⟩
      have HB := show Hid (Below w.heap.size w w6) from hb6
      clear KHw hb6
      go_wp2_with fail
      go_ret
      exact ⟨rfl, HB.out⟩
  · have KHw := show Hid (Calls Try.prog 10 #[] w1 fun e w' => e = .returned (.bool true) ∧ Below w.heap.size w w') from KH.out w1 hb1
    clear KB KH hb1
    go_wp2_with fail
    refine KHw.out.mono ?_
    rintro e w6 ⟨rfl, hb6⟩
    have HB := show Hid (Below w.heap.size w w6) from hb6
    clear KHw hb6
    go_wp2_with fail
    go_ret
    exact ⟨rfl, HB.out⟩
end Go.Proofs.Ythfedlodikbdgaa
