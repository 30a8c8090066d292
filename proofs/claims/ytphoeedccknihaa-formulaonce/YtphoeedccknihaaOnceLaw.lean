/-
  The law FormulaOnce, as the program walks it: true for every slice of rows and every row of actions that a machine can hold.
-/
import Derived.Test.YtphoeedccknihaaGPlayC
namespace Go.Proofs.Ytphoeedccknihaa
open Go.RowKit Go.Maps
open Fm (Nd)

/-- The blocks of a slice, as they are in w2. -/
def wasG (w2 : World) (x : Value) : Nat → Option Obj := fun k => if x.ownBlock = some k then w2.heap[k]? else none
theorem was_keep {w w2 wr : World} {x : Value} {t0 : List Nd} {b m c : Nat} {v u : Value} {t r : List Nd} (h : Rw w2 x t0) (hp : Gp.Pair (wasG w2 x) w wr b m v c u t r) : Rw wr x t0 := h.keep fun k hk => by
  obtain ⟨_, cur, hc⟩ := h.lt k hk
  rw [(hp.kep k _ (by unfold wasG; rw [if_pos hk]; exact hc)).1, hc]
theorem pair_box {w w1 w2 : World} {B M : Nat} {v x : Value} {t0 : List Nd} (hO : OwnT w w1 B M v t0) (hF : Fresh w1 w2 x t0) :
    Gp.Pair (wasG w2 x) w (w2.alloc (Obj.cells #[.slice none 0 0] 30)) B M v w2.heap.size (.slice none 0 0) t0 [] := by
  have h2 := hO.later hF.2.2
  refine ⟨⟨h2.1.later (below_alloc _ _), ⟨heap_alloc_new _ _, rw_nil _, Fm.ok_nil⟩, fun k _ e => by simp [Value.ownBlock] at e, h2.2.1, fun k hk => ?_, h2.2.2.trans ((below_alloc w2 _).mono h2.2.2.size)⟩, fun k o hk => ?_⟩
  · rcases hk with rfl | hk
    · exact h2.2.2.size
    · simp [Value.ownBlock] at hk
  · unfold wasG at hk
    split at hk
    · rename_i hx
      have hlt := lt_of_block hk
      refine ⟨((below_alloc w2 _).block k hlt).trans hk, fun e => ?_, fun e => ?_⟩
      · have h3 := hO.1.foot k e
        have h4 := hF.2.1 k hx
        omega
      · rcases e with rfl | e
        · omega
        · simp [Value.ownBlock] at e
    · cases hk
theorem rows_form {w : World} {b m : Nat} {v : Value} {t : List Nd} (h : Tb w b m v t) :
    Calls Try.prog 12 #[.pointer (some ⟨b, 0, none⟩)] w fun e w' => ∃ p c, e = .returned (.slice p t.length c) ∧ Fresh w w' (.slice p t.length c) t :=
  (rows_any w h).mono fun e w' ⟨v', he, hf⟩ => by
    obtain ⟨p, c, rfl⟩ := hf.1.form
    exact ⟨p, c, he, hf⟩
theorem isR_take {w : World} {p : Option Addr} {c : Nat} {t t0 s : List Nd} (ht : t = t0 ++ s) (h : IsR w (.slice p t.length c) t) : IsR w (.slice p t0.length c) t0 := by
  subst ht
  obtain ⟨p', c', hv, h1, h2, h3⟩ := h
  obtain ⟨rfl, -, rfl⟩ := Value.slice.inj hv
  refine ⟨p, c, rfl, by simp at h1; omega, h2, fun h0 => ?_⟩
  obtain ⟨b, o, hb, hat⟩ := h3 (by simp; omega)
  refine ⟨b, o, hb, fun k hk => ?_⟩
  have := hat k (by simp; omega)
  rw [List.getElem_append_left hk] at this
  exact this
theorem notp_grows (t : List Nd) (a : Int) : ∃ s, (Fm.notp t a).2.2 = t ++ s := by
  unfold Fm.notp
  obtain ⟨s1, h1⟩ := (Fm.put_len t Fm.bot).2
  split
  · split
    · obtain ⟨s2, h2⟩ := (Fm.put_len (Fm.put t Fm.bot).2.2 ⟨5, ⟨#[]⟩, a, (Fm.put t Fm.bot).1⟩).2
      exact ⟨s1 ++ s2, by rw [h2, h1, List.append_assoc]⟩
    · exact ⟨s1, h1⟩
  · exact ⟨[], (List.append_nil _).symm⟩
theorem actR_grows (t : List Nd) (x : Ac) (h : x.k ≠ 8) : ∃ s, actR t x = t ++ s := by
  unfold actR
  rw [if_neg h]
  repeat' split
  · exact (Fm.put_len t _).2
  · exact (Fm.put_len t _).2
  · exact (Fm.put_len t _).2
  · exact (Fm.put_len t _).2
  · exact (Fm.put_len t _).2
  · exact notp_grows t _
  · exact (Fm.put_len t _).2
  · exact ⟨[], (List.append_nil _).symm⟩
theorem numOf_at {t : List Nd} (h : Fm.Ok t) {i : Nat} (hi : i < t.length) : numOf t t[i] = (i : Int) ∧ decide (t[i] ∈ t) = true := by
  have hm : t[i] ∈ t := List.getElem_mem hi
  refine ⟨?_, decide_eq_true hm⟩
  unfold numOf
  rw [if_pos hm]
  have hl := List.idxOf_lt_length_iff.2 hm
  have he : t[t.idxOf t[i]] = t[i] := List.getElem_idxOf hl
  have hd := List.pairwise_iff_getElem.1 h.nd
  rcases Nat.lt_trichotomy (t.idxOf t[i]) i with h1 | h1 | h1
  · exact absurd he (hd _ _ hl hi h1)
  · rw [h1]
  · exact absurd he.symm (hd _ _ hi hl h1)
set_option maxRecDepth 100000 in
set_option maxHeartbeats 16000000 in
theorem formulaOnce_any (w : World) (rv : Value) (rs : List Nd) (hR : IsR w rv rs) (hg : ∀ n ∈ rs, Fm.good n) (hl : rs.length * 40 ≤ 140737488351232) (hv : rv = .slice none 0 0 ∨ ∃ a n c, rv = .slice (some a) n c) (sv : Value) (ps : List Ac) (hA : IsA w sv ps) (hX : ∀ x ∈ ps, goodA x) :
    Calls Try.prog 6 #[rv, sv] w fun e w' => e = .returned (.bool true) ∧ Below w.heap.size w w' := by
  have KH := show Hid (∀ w' : World, Calls Try.prog 15 #[] w' fun e w'' => e = .returned (.bool true) ∧ Below w'.heap.size w' w'') from fun w' => heads_any w'
  have KB := show Hid (Calls Try.prog 8 #[rv] w fun e w' => IsBoth w w' e (Fm.fr [] rs)) from both_any w rv rs hR hg hl hv
  have KN := show Hid (∀ w' : World, Calls Try.prog 9 #[] w' fun e w'' => e = .returned (.pointer (some ⟨w'.heap.size + 1, 0, none⟩)) ∧ Tb w'' (w'.heap.size + 1) w'.heap.size (.slice none 0 0) [] ∧ Below w'.heap.size w' w'') from fun w' => new_any w'
  obtain ⟨sp, sc, rfl, hc1, hc2, hA⟩ := hA
  have HA := show Hid (0 < ps.length → ∃ b o, sp = some ⟨b, o, none⟩ ∧ ∀ k (hk : k < ps.length), At8 w b (o + k * 8) ps[k]) from hA
  have HX := show Hid (∀ x ∈ ps, goodA x) from hX
  generalize Fm.fr [] rs = ans at *
  have hrv : ∃ p l c, rv = .slice p l c := by rcases hv with rfl | ⟨a, n, c, rfl⟩ <;> exact ⟨_, _, _, rfl⟩
  obtain ⟨rp, rl, rc, rfl⟩ := hrv
  clear hR hg hl hv hA hX
  go_enter Try.func6, Try.ntmps6
  go_wp2_with fail
  refine KB.out.mono ?_
  rintro e w1 hB
  rcases hB with ⟨-, B, M, v1, C0, u1, rfl, hp⟩ | ⟨-, rfl, hb⟩
  · obtain ⟨v, t0, HO⟩ : ∃ v t0, Hid (OwnT w w1 B M v t0) := ⟨_, _, hp.tb, hp.bt, hp.bel⟩
    clear hp KB KN
    go_wp2_with fail
    have KR1 := show Hid (Calls Try.prog 12 #[.pointer (some ⟨B, 0, none⟩)] w1 fun e w' => ∃ p c, e = .returned (.slice p t0.length c) ∧ Fresh w1 w' (.slice p t0.length c) t0) from rows_form HO.out.1
    refine KR1.out.mono ?_
    rintro e w2 ⟨pw, cw, rfl, hF⟩
    have HW := show Hid (Rw w2 (.slice pw t0.length cw) t0) from hF.1
    have HP := show Hid (Gp.Pair (wasG w2 (.slice pw t0.length cw)) w (w2.alloc (Obj.cells #[.slice none 0 0] 30)) B M v w2.heap.size (.slice none 0 0) t0 []) from pair_box HO.out hF
    clear hF HO KR1
    go_wp2_with fail
    generalize w2.alloc (Obj.cells #[.slice none 0 0] 30) = w9 at *
    generalize hC : w2.heap.size = C at *
    clear hC
    go_loopw [10] (fun i wr => ∃ k : Nat, k ≤ ps.length ∧ i = .int .i64 (k : Int) ∧ Hid (∃ v u s r, Gp.Pair (wasG w2 (.slice pw t0.length cw)) w wr B M v C u (t0 ++ s) r)) (fun i _ => ps.length - (intOf i).toNat)
    case atStart => exact ⟨0, by omega, rfl, v, _, [], [], by rw [List.append_nil]; exact HP.out⟩
    case round =>
      obtain ⟨k, hk, rfl, HI⟩ := hrel
      clear HP
      by_cases hlt : k < ps.length
      · obtain ⟨sb, so, hsp, hS⟩ := HA.out (by omega)
        have hX := HX.out _ (List.getElem_mem hlt)
        obtain ⟨v5, u5, s5, r5, hp⟩ := HI.out
        have hA8 := (hS k hlt).keep hp.bel
        have KP := show Hid (Calls Try.prog 10 #[.pointer (some ⟨B, 0, none⟩), .pointer (some ⟨C, 0, none⟩), .agg #[.int .i64 ps[k].k, .string ps[k].s, .int .i64 ps[k].a, .int .i64 ps[k].b, .int .i64 ps[k].n.k, .string ps[k].n.s, .int .i64 ps[k].n.l, .int .i64 ps[k].n.r]] wr fun e w' => ∃ q, e = .returned (.bool q) ∧ Gp.Played (wasG w2 (.slice pw t0.length cw)) w w' B M C q (t0 ++ s5) r5 ps[k]) from Gp.play_any _ w wr hp ps[k] hX
        have HGR := show Hid (ps[k].k ≠ 8 → ∃ s, actR (t0 ++ s5) ps[k] = (t0 ++ s5) ++ s) from actR_grows _ _
        have a0 := hA8.c0; have a1 := hA8.c1; have a2 := hA8.c2; have a3 := hA8.c3; have a4 := hA8.c4; have a5 := hA8.c5; have a6 := hA8.c6; have a7 := hA8.c7
        have hki : (k : Int) < (ps.length : Int) := by omega
        clear hS hX hA8 hp HA
        generalize ps[k] = x at *
        subst hsp
        by_cases h8 : x.k = 8
        · have hb8 : (x.k != 8) = false := by simp [h8]
          clear KP HGR h8
          go_wp2_with fail
          go_roundw
          case rel => exact ⟨k + 1, by omega, by go_num, HI.out⟩
          case measure => first | (simp [intOf]; done) | (simp [intOf]; omega)
        · have hb8 : (x.k != 8) = true := by simp [h8]
          have HG8 := show Hid (∃ s, actR (t0 ++ s5) x = (t0 ++ s5) ++ s) from HGR.out h8
          clear HGR h8
          go_wp2_with fail
          refine KP.out.mono ?_
          rintro e w3 ⟨q, rfl, hpl⟩
          have HI3 := show Hid (∃ v u s r, Gp.Pair (wasG w2 (.slice pw t0.length cw)) w w3 B M v C u (t0 ++ s) r) from by
            obtain ⟨_, v', u', h'⟩ := hpl
            obtain ⟨s', hs'⟩ := HG8.out
            rw [hs', List.append_assoc] at h'
            exact ⟨v', u', s5 ++ s', _, h'⟩
          clear hpl HG8 a0 a1 a2 a3 a4 a5 a6 a7 KP
          go_wp2_with fail
          go_roundw
          case rel => exact ⟨k + 1, by omega, by go_num, HI3.out⟩
          case measure => first | (simp [intOf]; done) | (simp [intOf]; omega)
      · have hki : ¬ (k : Int) < (ps.length : Int) := by omega
        obtain ⟨v3, u3, s, r3, hP⟩ := HI.out
        obtain ⟨t, ht⟩ : ∃ t, t = t0 ++ s := ⟨_, rfl⟩
        have HTS := show Hid (t = t0 ++ s) from ht
        rw [← ht] at hP
        have HT := show Hid (OwnT w wr B M v3 t) from ⟨hP.old.tb, hP.old.bt, hP.old.bel⟩
        have HWR := show Hid (Rw wr (.slice pw t0.length cw) t0) from was_keep HW.out hP
        have hlen : ¬ (t.length : Int) < (t0.length : Int) := by rw [ht]; simp; omega
        have hlen2 : t0.length ≤ t.length := by omega
        have KR := show Hid (Calls Try.prog 12 #[.pointer (some ⟨B, 0, none⟩)] wr fun e w' => ∃ p c, e = .returned (.slice p t.length c) ∧ Fresh wr w' (.slice p t.length c) t) from rows_form hP.tb
        clear hP HI HA HX ht HW
        go_wp2_with fail
        refine KR.out.mono ?_
        rintro e w4 ⟨p1, c1, rfl, hF⟩
        have HT4 := show Hid (OwnT w w4 B M v3 t) from HT.out.later hF.2.2
        have HL4 := show Hid (IsR w4 (.slice p1 t.length c1) t) from hF.1.isR
        have HLT := show Hid (IsR w4 (.slice p1 t0.length c1) t0) from isR_take HTS.out hF.1.isR
        have HW4 := show Hid (IsR w4 (.slice pw t0.length cw) t0) from HWR.out.isR.later hF.2.2
        have HG0 := show Hid (∀ n ∈ t0, Fm.good n) from fun n hn => HT4.out.1.ok.gd n (by rw [HTS.out]; exact List.mem_append_left _ hn)
        have KS := show Hid (Calls Try.prog 13 #[.slice p1 t0.length c1, .slice pw t0.length cw] w4 fun e w'' => e = .returned (.bool true) ∧ ∃ n, w'' = w4.drewN n) from (same_any w4 _ _ t0 t0 HLT.out HW4.out HG0.out HG0.out).mono fun e w'' ⟨he, hn⟩ => ⟨by rw [he, decide_eq_true rfl], hn⟩
        have hcc : t.length ≤ c1 := by
          obtain ⟨_, _, hv, h1, _⟩ := HL4.out
          obtain ⟨-, -, rfl⟩ := Value.slice.inj hv
          exact h1
        clear hF KR HT HWR HLT HW4 HG0
        go_wp2_with fail
        refine KS.out.mono ?_
        rintro e w5 ⟨rfl, n5, hw5⟩
        have HT5 := show Hid (OwnT w w5 B M v3 t) from HT4.out.later (by rw [hw5]; exact below_drewN (Below.refl _ _) n5)
        have HL5 := show Hid (IsR w5 (.slice p1 t.length c1) t) from HL4.out.later (by rw [hw5]; exact below_drewN (Below.refl _ _) n5)
        have HTL := show Hid (t.length ≤ 1024) from HT5.out.1.ok.len
        clear KS HT4 HL4 hw5 HTS
        go_wp2_with fail
        have hdn : decide (t.length < t0.length) = false := decide_eq_false (by omega)
        simp only [hdn]
        clear hlen hlen2 hdn
        go_loopw [12] (fun i wy => ∃ k : Nat, k ≤ t.length ∧ i = .int .i64 (k : Int) ∧ Hid (Below w5.heap.size w5 wy)) (fun i _ => t.length - (intOf i).toNat)
        case atStart => exact ⟨0, by omega, rfl, Below.refl _ _⟩
        case round =>
          obtain ⟨k, hk, rfl, HY⟩ := hrel
          by_cases hlt : k < t.length
          · obtain ⟨hnu, hdm⟩ := numOf_at HT5.out.1.ok hlt
            have HAT := show Hid (∃ g o, p1 = some ⟨g, o, none⟩ ∧ ∀ w', Below w5.heap.size w5 w' → At4 w' g (o + k * 4) t[k]) from by
              obtain ⟨p', c', hv, _, _, hat⟩ := HL5.out.at
              obtain ⟨rfl, -, -⟩ := Value.slice.inj hv
              obtain ⟨g, o, hp, h2⟩ := hat (by omega)
              exact ⟨g, o, hp, fun w' hb => h2 w' hb k hlt⟩
            have KF := show Hid (Calls Try.prog 21 #[.pointer (some ⟨B, 0, none⟩), .agg #[.int .i64 t[k].k, .string t[k].s, .int .i64 t[k].l, .int .i64 t[k].r]] wr fun e w'' => e = .returned (.tuple #[.int .i64 (k : Int), .bool true]) ∧ Below wr.heap.size wr w'') from by
              have h := find_any wr (HT5.out.1.later HY.out) t[k] (HT5.out.1.ok.gd _ (List.getElem_mem hlt))
              rw [hnu, hdm] at h
              exact h
            have HKD := show Hid (t[k].k = 1 ∨ t[k].k = 2 ∨ Fm.jn t[k].k = true) from Fm.ok_kind HT5.out.1.ok hlt
            have HPT := show Hid (Fm.jn t[k].k = true → (0 ≤ t[k].l ∧ t[k].l < k) ∧ 0 ≤ t[k].r ∧ t[k].r < k) from Fm.ok_parts HT5.out.1.ok hlt
            clear hnu hdm
            generalize t[k] = x at *
            obtain ⟨xk, xs, xl, xr⟩ := x
            simp only at KF HKD HPT
            obtain ⟨g, o, hp, hat⟩ := HAT.out
            have HA4 := show Hid (∀ w', Below w5.heap.size w5 w' → At4 w' g (o + k * 4) ⟨xk, xs, xl, xr⟩) from hat
            have hki : (k : Int) < (t.length : Int) := by omega
            have htl := HTL.out
            have a0 := (hat _ HY.out).c0; have a1 := (hat _ HY.out).c1; have a2 := (hat _ HY.out).c2; have a3 := (hat _ HY.out).c3
            simp only at a0 a1 a2 a3
            clear hat HAT
            subst hp
            go_wp2_with fail
            refine KF.out.mono ?_
            rintro e w6 ⟨rfl, hb6⟩
            have HB6 := show Hid (Below w5.heap.size w5 w6) from HY.out.trans (hb6.mono HY.out.size)
            have b0 := (HA4.out _ HB6.out).c0; have b1 := (HA4.out _ HB6.out).c1; have b2 := (HA4.out _ HB6.out).c2; have b3 := (HA4.out _ HB6.out).c3
            simp only at b0 b1 b2 b3
            clear a0 a1 a2 a3 hb6 KF HY HA4
            by_cases hj : Fm.jn xk = true
            · obtain ⟨⟨hl0, hl1⟩, hr0, hr1⟩ := HPT.out hj
              have hl2 : ¬ (k : Int) ≤ xl := by omega
              have hr2 : ¬ (k : Int) ≤ xr := by omega
              have hl3 : ¬ xl < 0 := by omega
              have hr3 : ¬ xr < 0 := by omega
              have hk3 : xk = 3 ∨ xk = 4 ∨ xk = 5 := by
                unfold Fm.jn at hj
                simp at hj
                omega
              clear hj HPT HKD
              rcases hk3 with rfl | rfl | rfl
              all_goals
                go_wp2_with fail
                go_roundw
                case rel => exact ⟨k + 1, by omega, by go_num, HB6.out⟩
                case measure => first | (simp [intOf]; done) | (simp [intOf]; omega)
            · have hk2 : xk = 1 ∨ xk = 2 := by
                rcases HKD.out with h | h | h
                · exact Or.inl h
                · exact Or.inr h
                · exact absurd h hj
              clear hj HPT HKD
              rcases hk2 with rfl | rfl
              all_goals
                go_wp2_with fail
                go_roundw
                case rel => exact ⟨k + 1, by omega, by go_num, HB6.out⟩
                case measure => first | (simp [intOf]; done) | (simp [intOf]; omega)
          · have hki : ¬ (k : Int) < (t.length : Int) := by omega
            have HBY := show Hid (Below w.heap.size w wr) from HT5.out.2.2.trans (HY.out.mono HT5.out.2.2.size)
            have HLY := show Hid (IsR wr (.slice p1 t.length c1) t) from HL5.out.later HY.out
            have HGD := show Hid (∀ n ∈ t, Fm.good n) from HT5.out.1.ok.gd
            have KF := show Hid (Calls Try.prog 16 #[.slice p1 t.length c1] wr fun e w' => (∃ B M v, e = .returned (.tuple #[.pointer (some ⟨B, 0, none⟩), .int .i64 0]) ∧ Tb w' B M v t) ∧ Below wr.heap.size wr w') from (from_any wr _ t HLY.out HGD.out (by have := HTL.out; omega)).mono fun e w' ⟨hF, hb⟩ => by
              rw [Fm.fr_self HT5.out.1.ok] at hF
              rcases hF with ⟨_, B, M, v, he, hT, _⟩ | ⟨h0, _⟩
              · exact ⟨⟨B, M, v, he, hT⟩, hb⟩
              · exact absurd rfl h0
            clear HY HT5 HL5
            go_wp2_with fail
            refine KF.out.mono ?_
            rintro e w6 ⟨⟨B6, M6, v6, rfl, hT6⟩, hb6⟩
            have HB6 := show Hid (Below w.heap.size w w6) from HBY.out.trans (hb6.mono HBY.out.size)
            have HL6 := show Hid (IsR w6 (.slice p1 t.length c1) t) from HLY.out.later hb6
            have KR := show Hid (Calls Try.prog 12 #[.pointer (some ⟨B6, 0, none⟩)] w6 fun e w' => ∃ p c, e = .returned (.slice p t.length c) ∧ Fresh w6 w' (.slice p t.length c) t) from rows_form hT6
            clear hT6 hb6 KF HLY HBY
            go_wp2_with fail
            refine KR.out.mono ?_
            rintro e w7 ⟨p7, c7, rfl, hF7⟩
            have HB7 := show Hid (Below w.heap.size w w7) from HB6.out.trans (hF7.2.2.mono HB6.out.size)
            have KS := show Hid (Calls Try.prog 13 #[.slice p7 t.length c7, .slice p1 t.length c1] w7 fun e w'' => e = .returned (.bool true) ∧ ∃ n, w'' = w7.drewN n) from (same_any w7 _ _ t t hF7.1.isR (HL6.out.later hF7.2.2) HGD.out HGD.out).mono fun e w'' ⟨he, hn⟩ => ⟨by rw [he, decide_eq_true rfl], hn⟩
            clear hF7 KR
            go_wp2_with fail
            refine KS.out.mono ?_
            rintro e w8 ⟨rfl, n8, hw8⟩
            have HB8 := show Hid (Below w.heap.size w w8) from by rw [hw8]; exact below_drewN HB7.out n8
            clear KS hw8
            go_wp2_with fail
            refine (KH.out _).mono ?_
            rintro e w10 ⟨rfl, hb10⟩
            have HB10 := show Hid (Below w.heap.size w w10) from HB8.out.trans (hb10.mono HB8.out.size)
            clear hb10
            go_wp2_with fail
            go_ret
            exact ⟨rfl, HB10.out⟩
  · have HB1 := show Hid (Below w.heap.size w w1) from hb
    clear hb KB
    go_wp2_with fail
    refine (KN.out _).mono ?_
    rintro e wB ⟨rfl, hT, hb2⟩
    obtain ⟨v, t0, HO⟩ : ∃ v t0, Hid (OwnT w wB (w1.heap.size + 1) w1.heap.size v t0) := ⟨_, _, hT, by
      have := HB1.out.size
      rintro k (e | e | e)
      · omega
      · omega
      · simp [Value.ownBlock] at e, HB1.out.trans (hb2.mono HB1.out.size)⟩
    generalize hB : w1.heap.size + 1 = B at *
    generalize hM : w1.heap.size = M at *
    clear hT hb2 KN HB1 hB hM
    go_wp2_with fail
    have KR1 := show Hid (Calls Try.prog 12 #[.pointer (some ⟨B, 0, none⟩)] wB fun e w' => ∃ p c, e = .returned (.slice p t0.length c) ∧ Fresh wB w' (.slice p t0.length c) t0) from rows_form HO.out.1
    refine KR1.out.mono ?_
    rintro e w2 ⟨pw, cw, rfl, hF⟩
    have HW := show Hid (Rw w2 (.slice pw t0.length cw) t0) from hF.1
    have HP := show Hid (Gp.Pair (wasG w2 (.slice pw t0.length cw)) w (w2.alloc (Obj.cells #[.slice none 0 0] 30)) B M v w2.heap.size (.slice none 0 0) t0 []) from pair_box HO.out hF
    clear hF HO KR1
    go_wp2_with fail
    generalize w2.alloc (Obj.cells #[.slice none 0 0] 30) = w9 at *
    generalize hC : w2.heap.size = C at *
    clear hC
    go_loopw [10] (fun i wr => ∃ k : Nat, k ≤ ps.length ∧ i = .int .i64 (k : Int) ∧ Hid (∃ v u s r, Gp.Pair (wasG w2 (.slice pw t0.length cw)) w wr B M v C u (t0 ++ s) r)) (fun i _ => ps.length - (intOf i).toNat)
    case atStart => exact ⟨0, by omega, rfl, v, _, [], [], by rw [List.append_nil]; exact HP.out⟩
    case round =>
      obtain ⟨k, hk, rfl, HI⟩ := hrel
      clear HP
      by_cases hlt : k < ps.length
      · obtain ⟨sb, so, hsp, hS⟩ := HA.out (by omega)
        have hX := HX.out _ (List.getElem_mem hlt)
        obtain ⟨v5, u5, s5, r5, hp⟩ := HI.out
        have hA8 := (hS k hlt).keep hp.bel
        have KP := show Hid (Calls Try.prog 10 #[.pointer (some ⟨B, 0, none⟩), .pointer (some ⟨C, 0, none⟩), .agg #[.int .i64 ps[k].k, .string ps[k].s, .int .i64 ps[k].a, .int .i64 ps[k].b, .int .i64 ps[k].n.k, .string ps[k].n.s, .int .i64 ps[k].n.l, .int .i64 ps[k].n.r]] wr fun e w' => ∃ q, e = .returned (.bool q) ∧ Gp.Played (wasG w2 (.slice pw t0.length cw)) w w' B M C q (t0 ++ s5) r5 ps[k]) from Gp.play_any _ w wr hp ps[k] hX
        have HGR := show Hid (ps[k].k ≠ 8 → ∃ s, actR (t0 ++ s5) ps[k] = (t0 ++ s5) ++ s) from actR_grows _ _
        have a0 := hA8.c0; have a1 := hA8.c1; have a2 := hA8.c2; have a3 := hA8.c3; have a4 := hA8.c4; have a5 := hA8.c5; have a6 := hA8.c6; have a7 := hA8.c7
        have hki : (k : Int) < (ps.length : Int) := by omega
        clear hS hX hA8 hp HA
        generalize ps[k] = x at *
        subst hsp
        by_cases h8 : x.k = 8
        · have hb8 : (x.k != 8) = false := by simp [h8]
          clear KP HGR h8
          go_wp2_with fail
          go_roundw
          case rel => exact ⟨k + 1, by omega, by go_num, HI.out⟩
          case measure => first | (simp [intOf]; done) | (simp [intOf]; omega)
        · have hb8 : (x.k != 8) = true := by simp [h8]
          have HG8 := show Hid (∃ s, actR (t0 ++ s5) x = (t0 ++ s5) ++ s) from HGR.out h8
          clear HGR h8
          go_wp2_with fail
          refine KP.out.mono ?_
          rintro e w3 ⟨q, rfl, hpl⟩
          have HI3 := show Hid (∃ v u s r, Gp.Pair (wasG w2 (.slice pw t0.length cw)) w w3 B M v C u (t0 ++ s) r) from by
            obtain ⟨_, v', u', h'⟩ := hpl
            obtain ⟨s', hs'⟩ := HG8.out
            rw [hs', List.append_assoc] at h'
            exact ⟨v', u', s5 ++ s', _, h'⟩
          clear hpl HG8 a0 a1 a2 a3 a4 a5 a6 a7 KP
          go_wp2_with fail
          go_roundw
          case rel => exact ⟨k + 1, by omega, by go_num, HI3.out⟩
          case measure => first | (simp [intOf]; done) | (simp [intOf]; omega)
      · have hki : ¬ (k : Int) < (ps.length : Int) := by omega
        obtain ⟨v3, u3, s, r3, hP⟩ := HI.out
        obtain ⟨t, ht⟩ : ∃ t, t = t0 ++ s := ⟨_, rfl⟩
        have HTS := show Hid (t = t0 ++ s) from ht
        rw [← ht] at hP
        have HT := show Hid (OwnT w wr B M v3 t) from ⟨hP.old.tb, hP.old.bt, hP.old.bel⟩
        have HWR := show Hid (Rw wr (.slice pw t0.length cw) t0) from was_keep HW.out hP
        have hlen : ¬ (t.length : Int) < (t0.length : Int) := by rw [ht]; simp; omega
        have hlen2 : t0.length ≤ t.length := by omega
        have KR := show Hid (Calls Try.prog 12 #[.pointer (some ⟨B, 0, none⟩)] wr fun e w' => ∃ p c, e = .returned (.slice p t.length c) ∧ Fresh wr w' (.slice p t.length c) t) from rows_form hP.tb
        clear hP HI HA HX ht HW
        go_wp2_with fail
        refine KR.out.mono ?_
        rintro e w4 ⟨p1, c1, rfl, hF⟩
        have HT4 := show Hid (OwnT w w4 B M v3 t) from HT.out.later hF.2.2
        have HL4 := show Hid (IsR w4 (.slice p1 t.length c1) t) from hF.1.isR
        have HLT := show Hid (IsR w4 (.slice p1 t0.length c1) t0) from isR_take HTS.out hF.1.isR
        have HW4 := show Hid (IsR w4 (.slice pw t0.length cw) t0) from HWR.out.isR.later hF.2.2
        have HG0 := show Hid (∀ n ∈ t0, Fm.good n) from fun n hn => HT4.out.1.ok.gd n (by rw [HTS.out]; exact List.mem_append_left _ hn)
        have KS := show Hid (Calls Try.prog 13 #[.slice p1 t0.length c1, .slice pw t0.length cw] w4 fun e w'' => e = .returned (.bool true) ∧ ∃ n, w'' = w4.drewN n) from (same_any w4 _ _ t0 t0 HLT.out HW4.out HG0.out HG0.out).mono fun e w'' ⟨he, hn⟩ => ⟨by rw [he, decide_eq_true rfl], hn⟩
        have hcc : t.length ≤ c1 := by
          obtain ⟨_, _, hv, h1, _⟩ := HL4.out
          obtain ⟨-, -, rfl⟩ := Value.slice.inj hv
          exact h1
        clear hF KR HT HWR HLT HW4 HG0
        go_wp2_with fail
        refine KS.out.mono ?_
        rintro e w5 ⟨rfl, n5, hw5⟩
        have HT5 := show Hid (OwnT w w5 B M v3 t) from HT4.out.later (by rw [hw5]; exact below_drewN (Below.refl _ _) n5)
        have HL5 := show Hid (IsR w5 (.slice p1 t.length c1) t) from HL4.out.later (by rw [hw5]; exact below_drewN (Below.refl _ _) n5)
        have HTL := show Hid (t.length ≤ 1024) from HT5.out.1.ok.len
        clear KS HT4 HL4 hw5 HTS
        go_wp2_with fail
        have hdn : decide (t.length < t0.length) = false := decide_eq_false (by omega)
        simp only [hdn]
        clear hlen hlen2 hdn
        go_loopw [12] (fun i wy => ∃ k : Nat, k ≤ t.length ∧ i = .int .i64 (k : Int) ∧ Hid (Below w5.heap.size w5 wy)) (fun i _ => t.length - (intOf i).toNat)
        case atStart => exact ⟨0, by omega, rfl, Below.refl _ _⟩
        case round =>
          obtain ⟨k, hk, rfl, HY⟩ := hrel
          by_cases hlt : k < t.length
          · obtain ⟨hnu, hdm⟩ := numOf_at HT5.out.1.ok hlt
            have HAT := show Hid (∃ g o, p1 = some ⟨g, o, none⟩ ∧ ∀ w', Below w5.heap.size w5 w' → At4 w' g (o + k * 4) t[k]) from by
              obtain ⟨p', c', hv, _, _, hat⟩ := HL5.out.at
              obtain ⟨rfl, -, -⟩ := Value.slice.inj hv
              obtain ⟨g, o, hp, h2⟩ := hat (by omega)
              exact ⟨g, o, hp, fun w' hb => h2 w' hb k hlt⟩
            have KF := show Hid (Calls Try.prog 21 #[.pointer (some ⟨B, 0, none⟩), .agg #[.int .i64 t[k].k, .string t[k].s, .int .i64 t[k].l, .int .i64 t[k].r]] wr fun e w'' => e = .returned (.tuple #[.int .i64 (k : Int), .bool true]) ∧ Below wr.heap.size wr w'') from by
              have h := find_any wr (HT5.out.1.later HY.out) t[k] (HT5.out.1.ok.gd _ (List.getElem_mem hlt))
              rw [hnu, hdm] at h
              exact h
            have HKD := show Hid (t[k].k = 1 ∨ t[k].k = 2 ∨ Fm.jn t[k].k = true) from Fm.ok_kind HT5.out.1.ok hlt
            have HPT := show Hid (Fm.jn t[k].k = true → (0 ≤ t[k].l ∧ t[k].l < k) ∧ 0 ≤ t[k].r ∧ t[k].r < k) from Fm.ok_parts HT5.out.1.ok hlt
            clear hnu hdm
            generalize t[k] = x at *
            obtain ⟨xk, xs, xl, xr⟩ := x
            simp only at KF HKD HPT
            obtain ⟨g, o, hp, hat⟩ := HAT.out
            have HA4 := show Hid (∀ w', Below w5.heap.size w5 w' → At4 w' g (o + k * 4) ⟨xk, xs, xl, xr⟩) from hat
            have hki : (k : Int) < (t.length : Int) := by omega
            have htl := HTL.out
            have a0 := (hat _ HY.out).c0; have a1 := (hat _ HY.out).c1; have a2 := (hat _ HY.out).c2; have a3 := (hat _ HY.out).c3
            simp only at a0 a1 a2 a3
            clear hat HAT
            subst hp
            go_wp2_with fail
            refine KF.out.mono ?_
            rintro e w6 ⟨rfl, hb6⟩
            have HB6 := show Hid (Below w5.heap.size w5 w6) from HY.out.trans (hb6.mono HY.out.size)
            have b0 := (HA4.out _ HB6.out).c0; have b1 := (HA4.out _ HB6.out).c1; have b2 := (HA4.out _ HB6.out).c2; have b3 := (HA4.out _ HB6.out).c3
            simp only at b0 b1 b2 b3
            clear a0 a1 a2 a3 hb6 KF HY HA4
            by_cases hj : Fm.jn xk = true
            · obtain ⟨⟨hl0, hl1⟩, hr0, hr1⟩ := HPT.out hj
              have hl2 : ¬ (k : Int) ≤ xl := by omega
              have hr2 : ¬ (k : Int) ≤ xr := by omega
              have hl3 : ¬ xl < 0 := by omega
              have hr3 : ¬ xr < 0 := by omega
              have hk3 : xk = 3 ∨ xk = 4 ∨ xk = 5 := by
                unfold Fm.jn at hj
                simp at hj
                omega
              clear hj HPT HKD
              rcases hk3 with rfl | rfl | rfl
              all_goals
                go_wp2_with fail
                go_roundw
                case rel => exact ⟨k + 1, by omega, by go_num, HB6.out⟩
                case measure => first | (simp [intOf]; done) | (simp [intOf]; omega)
            · have hk2 : xk = 1 ∨ xk = 2 := by
                rcases HKD.out with h | h | h
                · exact Or.inl h
                · exact Or.inr h
                · exact absurd h hj
              clear hj HPT HKD
              rcases hk2 with rfl | rfl
              all_goals
                go_wp2_with fail
                go_roundw
                case rel => exact ⟨k + 1, by omega, by go_num, HB6.out⟩
                case measure => first | (simp [intOf]; done) | (simp [intOf]; omega)
          · have hki : ¬ (k : Int) < (t.length : Int) := by omega
            have HBY := show Hid (Below w.heap.size w wr) from HT5.out.2.2.trans (HY.out.mono HT5.out.2.2.size)
            have HLY := show Hid (IsR wr (.slice p1 t.length c1) t) from HL5.out.later HY.out
            have HGD := show Hid (∀ n ∈ t, Fm.good n) from HT5.out.1.ok.gd
            have KF := show Hid (Calls Try.prog 16 #[.slice p1 t.length c1] wr fun e w' => (∃ B M v, e = .returned (.tuple #[.pointer (some ⟨B, 0, none⟩), .int .i64 0]) ∧ Tb w' B M v t) ∧ Below wr.heap.size wr w') from (from_any wr _ t HLY.out HGD.out (by have := HTL.out; omega)).mono fun e w' ⟨hF, hb⟩ => by
              rw [Fm.fr_self HT5.out.1.ok] at hF
              rcases hF with ⟨_, B, M, v, he, hT, _⟩ | ⟨h0, _⟩
              · exact ⟨⟨B, M, v, he, hT⟩, hb⟩
              · exact absurd rfl h0
            clear HY HT5 HL5
            go_wp2_with fail
            refine KF.out.mono ?_
            rintro e w6 ⟨⟨B6, M6, v6, rfl, hT6⟩, hb6⟩
            have HB6 := show Hid (Below w.heap.size w w6) from HBY.out.trans (hb6.mono HBY.out.size)
            have HL6 := show Hid (IsR w6 (.slice p1 t.length c1) t) from HLY.out.later hb6
            have KR := show Hid (Calls Try.prog 12 #[.pointer (some ⟨B6, 0, none⟩)] w6 fun e w' => ∃ p c, e = .returned (.slice p t.length c) ∧ Fresh w6 w' (.slice p t.length c) t) from rows_form hT6
            clear hT6 hb6 KF HLY HBY
            go_wp2_with fail
            refine KR.out.mono ?_
            rintro e w7 ⟨p7, c7, rfl, hF7⟩
            have HB7 := show Hid (Below w.heap.size w w7) from HB6.out.trans (hF7.2.2.mono HB6.out.size)
            have KS := show Hid (Calls Try.prog 13 #[.slice p7 t.length c7, .slice p1 t.length c1] w7 fun e w'' => e = .returned (.bool true) ∧ ∃ n, w'' = w7.drewN n) from (same_any w7 _ _ t t hF7.1.isR (HL6.out.later hF7.2.2) HGD.out HGD.out).mono fun e w'' ⟨he, hn⟩ => ⟨by rw [he, decide_eq_true rfl], hn⟩
            clear hF7 KR
            go_wp2_with fail
            refine KS.out.mono ?_
            rintro e w8 ⟨rfl, n8, hw8⟩
            have HB8 := show Hid (Below w.heap.size w w8) from by rw [hw8]; exact below_drewN HB7.out n8
            clear KS hw8
            go_wp2_with fail
            refine (KH.out _).mono ?_
            rintro e w10 ⟨rfl, hb10⟩
            have HB10 := show Hid (Below w.heap.size w w10) from HB8.out.trans (hb10.mono HB8.out.size)
            clear hb10
            go_wp2_with fail
            go_ret
            exact ⟨rfl, HB10.out⟩
end Go.Proofs.Ytphoeedccknihaa
