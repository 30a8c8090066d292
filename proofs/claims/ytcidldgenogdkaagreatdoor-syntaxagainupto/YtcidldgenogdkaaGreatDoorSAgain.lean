/-
  The law SyntaxAgain, as the program walks it: true for every row that a machine can hold and every text of at most 2^39 bytes, where the tables stand as the program's text lays them.
-/
import Derived.Test.YtcidldgenogdkaaGreatDoorSBack
import Derived.Test.YtcidldgenogdkaaGreatDoorAParse
namespace Go.Proofs.YtcidldgenogdkaaGreatDoor
open Go.RowKit Go.Maps
open Fm (Nd)

/-- A table of the call's own, and a slice of rows beside it. -/
structure WasT (w wi : World) (b m : Nat) (v : Value) (t : List Nd) (wv : Value) (t0 : List Nd) : Prop where
  o : OwnT w wi b m v t
  r : Rw wi wv t0
  d : ∀ k, wv.ownBlock = some k → ¬ Ft b m v k
section
variable {w wi w2 : World} {b m g : Nat} {v wv : Value} {t t' t0 : List Nd} {e l c o : Int}
theorem WasT.after (h : WasT w wi b m v t wv t0) (ha : After wi b m v t' w2) : ∃ v', WasT w w2 b m v' t' wv t0 := by
  obtain ⟨v', hT, hL, hK⟩ := ha
  refine ⟨v', ⟨hT, ?_, h.o.2.2.trans (hK.below h.o.2.2.size h.o.2.1)⟩, h.r.keep fun k hk => hK.block k (h.r.lt k hk).1 (h.d k hk), fun k hk => ?_⟩
  · rintro k (e | e | e)
    · exact h.o.2.1 k (Or.inl e)
    · exact h.o.2.1 k (Or.inr (Or.inl e))
    · rcases hL k e with h1 | h1
      · exact h.o.2.1 k (Or.inr (Or.inr h1))
      · exact Nat.le_trans h.o.2.2.size h1
  · rintro (e | e | e)
    · exact h.d k hk (Or.inl e)
    · exact h.d k hk (Or.inr (Or.inl e))
    · rcases hL k e with h1 | h1
      · exact h.d k hk (Or.inr (Or.inr h1))
      · have := (h.r.lt k hk).1
        omega
theorem WasT.later (h : WasT w wi b m v t wv t0) (hb : Below wi.heap.size wi w2) : WasT w w2 b m v t wv t0 := ⟨h.o.later hb, h.r.keep fun k hk => hb.block k (h.r.lt k hk).1, h.d⟩
theorem WasT.drewN (h : WasT w wi b m v t wv t0) (n : Nat) : WasT w (wi.drewN n) b m v t wv t0 := h.later (below_drewN (Below.refl _ _) n)
end
theorem rw_take {w : World} {p : Option Addr} {c : Nat} {t u : List Nd} (h : Rw w (.slice p (t ++ u).length c) (t ++ u)) : IsR w (.slice p t.length c) t := by
  obtain ⟨p', c', hv, h1, h2, h3⟩ := h.isR
  obtain ⟨rfl, _, rfl⟩ := Value.slice.inj hv
  rw [List.length_append] at h1
  refine ⟨p, c, rfl, by omega, h2, fun hp => ?_⟩
  obtain ⟨b, o, e, hat⟩ := h3 (by rw [List.length_append]; omega)
  refine ⟨b, o, e, fun k hk => ?_⟩
  have := hat k (by rw [List.length_append]; omega)
  rwa [List.getElem_append_left hk] at this
set_option maxRecDepth 100000 in
set_option maxHeartbeats 8000000 in
theorem syntaxAgain_any (w : World) (rv : Value) (rs : List Nd) (s : ByteArray) (hR : IsR w rv rs) (hg : ∀ n ∈ rs, Fm.good n) (hl : rs.length * 40 ≤ 140737488351232) (hv : rv = .slice none 0 0 ∨ ∃ a n c, rv = .slice (some a) n c) (hs : s.size ≤ 549755813888) (hL : Tw.Laid w) :
    Calls Tryz.prog 7 #[rv, .string s] w fun e w' => e = .returned (.bool true) ∧ Below w.heap.size w w' := by
  have KT := show Hid (Calls Tryz.prog 8 #[rv] w fun e w' => ∃ B M v C, e = .returned (.tuple #[.pointer (some ⟨B, 0, none⟩), .pointer (some ⟨C, 0, none⟩)]) ∧ OwnT w w' B M v (tabOf rs)) from (tables_any w rv rs hR hg hl hv).mono fun e w' ⟨B, M, v, C, u, h1, h2⟩ => ⟨B, M, v, C, h1, h2.own⟩
  have KW := show Hid (∀ (w1 : World) (B M : Nat) (v : Value) (t : List Nd), OwnT w w1 B M v t → Calls Tryz.prog 21 #[.pointer (some ⟨B, 0, none⟩)] w1 fun e w' => ∃ v', e = .returned v' ∧ Fresh w1 w' v' t ∧ WasT w w' B M v t v' t) from fun w1 B M v t h => (rows_any w1 h.1).mono fun e w' ⟨v', h1, h2⟩ => ⟨v', h1, h2, h.later h2.2.2, h2.1, fun k hk hf => by have := h2.2.1 k hk; have := h.1.foot k hf; omega⟩
  have KQ := show Hid (∀ (w1 : World) (B M : Nat) (v : Value) (t : List Nd) (x : ByteArray), x.size ≤ 1099511627776 → OwnT w w1 B M v t → Calls Tryz.prog 9 #[.pointer (some ⟨B, 0, none⟩), .string x] w1 fun e w' => e = .returned (parseV (parseR x.data.toList t).1) ∧ After w1 B M v (parseR x.data.toList t).2 w') from fun w1 B M v t x hx h => parse_any w1 h.1 x hx (hL.later h.2.2)
  have KL := show Hid (∀ (w1 : World) (B M : Nat) (v : Value) (t : List Nd), OwnT w w1 B M v t → Calls Tryz.prog 20 #[.pointer (some ⟨B, 0, none⟩)] w1 fun e w' => e = .returned (.int .i64 (t.length : Int)) ∧ w' = w1) from fun w1 B M v t h => len_any w1 h.1
  have KS := show Hid (∀ (w1 : World) (v1 v2 : Value) (ts : List Nd), IsR w1 v1 ts → IsR w1 v2 ts → Calls Tryz.prog 22 #[v1, v2] w1 fun e w' => e = .returned (.bool true) ∧ ∃ n, w' = w1.drewN n) from fun w1 v1 v2 ts h1 h2 => same_eq w1 v1 v2 ts h1 h2
  have KH := show Hid (∀ w' : World, Below w.heap.size w w' → Calls Tryz.prog 14 #[] w' fun e w'' => e = .returned (.bool true) ∧ Below w'.heap.size w' w'') from fun w' hb => heads_any w' (hL.later hb)
  generalize tabOf rs = tt at *
  clear hR hg hl hL
  have hsl : ∃ p n cc, rv = .slice p n cc := by
    rcases hv with rfl | ⟨a, n, cc, rfl⟩
    · exact ⟨_, _, _, rfl⟩
    · exact ⟨_, _, _, rfl⟩
  obtain ⟨p, n, cc, rfl⟩ := hsl
  clear hv
  go_enter Tryz.func7, Tryz.ntmps7
  go_wp2_with fail
  refine KT.out.mono ?_
  rintro e w1 ⟨B, M, v, C, rfl, hp⟩
  have hlen : tt.length ≤ 1024 := hp.1.ok.len
  have HOk := show Hid (Fm.Ok tt) from hp.1.ok
  have K1 := show Hid (Calls Tryz.prog 21 #[.pointer (some ⟨B, 0, none⟩)] w1 fun e w' => ∃ v', e = .returned v' ∧ WasT w w' B M v tt v' tt) from (KW.out _ _ _ _ _ hp).mono fun e w' ⟨v', h1, _, h2⟩ => ⟨v', h1, h2⟩
  clear hp KT
  go_wp2_with fail
  refine K1.out.mono ?_
  rintro e w2 ⟨wv, rfl, hw2⟩
  have P2 := show Hid (WasT w w2 B M v tt wv tt) from hw2
  obtain ⟨wp, wc, hwv⟩ := hw2.r.form
  subst hwv
  have K2 := show Hid (Calls Tryz.prog 9 #[.pointer (some ⟨B, 0, none⟩), .string s] w2 fun e w' => e = .returned (parseV (parseR s.data.toList tt).1) ∧ After w2 B M v (parseR s.data.toList tt).2 w') from KQ.out _ _ _ _ _ s (by omega) hw2.o
  clear hw2 K1
  by_cases h0 : (parseR s.data.toList tt).1.2.1 = 0
  · have hag := Ap.parse_again HOk.out h0
    generalize hpr : parseR s.data.toList tt = pr at *
    obtain ⟨⟨pa, pe, pt⟩, t'⟩ := pr
    simp only at h0 hag K2
    obtain ⟨hag1, ⟨tv, hag2⟩, hag3, hag4, hag5⟩ := hag
    obtain ⟨rfl, rfl⟩ := Prod.mk.inj (Prod.mk.inj hag1).2
    have HLen := show Hid (t' = tt ++ tv) from hag2
    have HA := show Hid (parseR s.data.toList t' = ((pa, 0, Sx.tz), t')) from hag4
    have HP := show Hid (s.data.toList.length < 1000 → parseR (40 :: (s.data.toList ++ [10, 41])) t' = ((pa, 0, Sx.tz), t')) from hag5
    have hlen2 : t'.length ≤ 1024 := hag3.len
    clear hag1 hag2 hag3 hag4 hag5 hpr h0
    unfold parseV at K2
    go_wp2_with fail
    refine K2.out.mono ?_
    rintro e w3 ⟨rfl, ha⟩
    obtain ⟨v3, h3⟩ := P2.out.after ha
    have hbf : Below w3.heap.size w3 (w3.alloc (Obj.cells #[.int .i64 0, .int .i64 0, .int .i64 0, .int .i64 0] 31)) := below_alloc _ _
    have P3 := show Hid (WasT w (w3.alloc (Obj.cells #[.int .i64 0, .int .i64 0, .int .i64 0, .int .i64 0] 31)) B M v3 t' (.slice wp tt.length wc) tt ∧ Fl (w3.alloc (Obj.cells #[.int .i64 0, .int .i64 0, .int .i64 0, .int .i64 0] 31)) w3.heap.size 0 0 0 0) from ⟨h3.later hbf, fl_new _ _ _ _ _⟩
    clear ha h3 hbf K2 P2
    simp only [Sx.tz]
    go_wp2_with fail
    refine (KL.out _ _ _ _ _ P3.out.1.o).mono ?_
    rintro e w4 ⟨rfl, hw4⟩
    subst w4
    have K3 := show Hid (Calls Tryz.prog 9 #[.pointer (some ⟨B, 0, none⟩), .string s] (w3.alloc (Obj.cells #[.int .i64 0, .int .i64 0, .int .i64 0, .int .i64 0] 31)) fun e w' => e = .returned (.tuple #[.int .i64 pa, .agg #[.int .i64 0, .int .i64 0, .int .i64 0, .int .i64 0]]) ∧ After (w3.alloc (Obj.cells #[.int .i64 0, .int .i64 0, .int .i64 0, .int .i64 0] 31)) B M v3 t' w') from (KQ.out _ _ _ _ _ s (by omega) P3.out.1.o).mono fun e w' ⟨h1, h2⟩ => by
      rw [HA.out] at h1 h2
      exact ⟨h1, h2⟩
    go_wp2_with fail
    refine K3.out.mono ?_
    rintro e w5 ⟨rfl, ha⟩
    obtain ⟨v5, h5⟩ := P3.out.1.after ha
    have hbf : Below w5.heap.size w5 (w5.alloc (Obj.cells #[.int .i64 0, .int .i64 0, .int .i64 0, .int .i64 0] 31)) := below_alloc _ _
    have P5 := show Hid (WasT w (w5.alloc (Obj.cells #[.int .i64 0, .int .i64 0, .int .i64 0, .int .i64 0] 31)) B M v5 t' (.slice wp tt.length wc) tt ∧ Fl (w5.alloc (Obj.cells #[.int .i64 0, .int .i64 0, .int .i64 0, .int .i64 0] 31)) w3.heap.size 0 0 0 0 ∧ Fl (w5.alloc (Obj.cells #[.int .i64 0, .int .i64 0, .int .i64 0, .int .i64 0] 31)) w5.heap.size 0 0 0 0) from ⟨h5.later hbf, (P3.out.2.after P3.out.1.o.1 ha).later hbf, fl_new _ _ _ _ _⟩
    clear ha h5 hbf K3 P3
    have a0 := P5.out.2.1.c0; have a1 := P5.out.2.1.c1; have a2 := P5.out.2.1.c2; have a3 := P5.out.2.1.c3
    go_wp2_with fail
    refine (KL.out _ _ _ _ _ P5.out.1.o).mono ?_
    rintro e w6 ⟨rfl, hw6⟩
    subst w6
    by_cases hs1 : (s.size : Int) < 1000
    · have K6 := show Hid (∀ (x : ByteArray) w', x.data.toList = 40 :: (s.data.toList ++ [10, 41]) → OwnT w w' B M v5 t' → Calls Tryz.prog 9 #[.pointer (some ⟨B, 0, none⟩), .string x] w' fun e w'' => e = .returned (.tuple #[.int .i64 pa, .agg #[.int .i64 0, .int .i64 0, .int .i64 0, .int .i64 0]]) ∧ After w' B M v5 t' w'') from fun x w' hx h => (KQ.out _ _ _ _ _ x (by
          have h1 := congrArg List.length hx
          have h2 : x.data.toList.length = x.size := rfl
          have h3 : s.data.toList.length = s.size := rfl
          rw [List.length_cons, List.length_append] at h1
          simp only [List.length_cons, List.length_nil] at h1
          omega) h).mono fun e w'' ⟨h1, h2⟩ => by
        rw [hx, HP.out (by show s.size < 1000; omega)] at h1 h2
        exact ⟨h1, h2⟩
      have hsz : 1 + s.size ≤ 1000 := by omega
      go_wp2_with fail
      refine (K6.out _ _ ?_ P5.out.1.o).mono ?_
      · simp
      rintro e w7 ⟨rfl, ha⟩
      obtain ⟨v7, h7⟩ := P5.out.1.after ha
      have hbf : Below w7.heap.size w7 (w7.alloc (Obj.cells #[.int .i64 0, .int .i64 0, .int .i64 0, .int .i64 0] 31)) := below_alloc _ _
      have P7 := show Hid (WasT w (w7.alloc (Obj.cells #[.int .i64 0, .int .i64 0, .int .i64 0, .int .i64 0] 31)) B M v7 t' (.slice wp tt.length wc) tt ∧ Fl (w7.alloc (Obj.cells #[.int .i64 0, .int .i64 0, .int .i64 0, .int .i64 0] 31)) w3.heap.size 0 0 0 0) from ⟨h7.later hbf, (P5.out.2.1.after P5.out.1.o.1 ha).later hbf⟩
      clear ha h7 hbf K6 P5 a0 a1 a2 a3
      have a0 := P7.out.2.c0; have a1 := P7.out.2.c1; have a2 := P7.out.2.c2; have a3 := P7.out.2.c3
      go_wp2_with fail
      refine (KL.out _ _ _ _ _ P7.out.1.o).mono ?_
      rintro e w8 ⟨rfl, hw8⟩
      subst w8
      go_wp2_with fail
      have KR := show Hid (∀ w', WasT w w' B M v7 t' (.slice wp tt.length wc) tt → Calls Tryz.prog 21 #[.pointer (some ⟨B, 0, none⟩)] w' fun e w'' => ∃ p2 c2, e = .returned (.slice p2 t'.length c2) ∧ Rw w'' (.slice p2 t'.length c2) t' ∧ WasT w w'' B M v7 t' (.slice wp tt.length wc) tt) from fun w' h => (KW.out _ _ _ _ _ h.o).mono fun e w'' ⟨v', h1, h2, h3⟩ => by
        obtain ⟨p2, c2, e2⟩ := h2.1.form
        subst e2
        exact ⟨p2, c2, h1, h2.1, h.later h2.2.2⟩
      refine (KR.out _ P7.out.1).mono ?_
      rintro e w9 ⟨p2, c2, rfl, hr9, hw9⟩
      have P9 := show Hid (Rw w9 (.slice p2 t'.length c2) t' ∧ WasT w w9 B M v7 t' (.slice wp tt.length wc) tt) from ⟨hr9, hw9⟩
      have hle : tt.length ≤ t'.length := by rw [HLen.out, List.length_append]; omega
      have hlei : (tt.length : Int) ≤ (t'.length : Int) := by omega
      have hcp : t'.length ≤ c2 := by
        obtain ⟨_, _, e2, h1, _⟩ := hr9.isR
        obtain ⟨_, _, rfl⟩ := Value.slice.inj e2
        exact h1
      have hcp2 : c2 ≤ 9223372036854775807 := by
        obtain ⟨_, _, e2, _, h1, _⟩ := hr9.isR
        obtain ⟨_, _, rfl⟩ := Value.slice.inj e2
        exact h1
      have hcpi : (tt.length : Int) ≤ (c2 : Int) := by omega
      have KS9 := show Hid (Calls Tryz.prog 22 #[.slice p2 tt.length c2, .slice wp tt.length wc] w9 fun e w' => e = .returned (.bool true) ∧ ∃ n, w' = w9.drewN n) from KS.out _ _ _ tt (by
        have h := hr9
        have e := HLen.out
        subst e
        exact rw_take h) hw9.r.isR
      clear hr9 hw9 KR
      go_wp2_with fail
      refine KS9.out.mono ?_
      rintro e w10 ⟨rfl, n10, rfl⟩
      have P10 := show Hid (Below w.heap.size w (w9.drewN n10)) from below_drewN P9.out.2.o.2.2 n10
      clear KS9
      go_wp2_with fail
      refine (KH.out _ P10.out).mono ?_
      rintro e w11 ⟨rfl, hb11⟩
      have P11 := show Hid (Below w.heap.size w w11) from P10.out.trans (hb11.mono P10.out.size)
      clear hb11
      go_wp2_with fail
      go_ret
      exact ⟨rfl, P11.out⟩
    · go_wp2_with fail
      have KR := show Hid (∀ w', WasT w w' B M v5 t' (.slice wp tt.length wc) tt → Calls Tryz.prog 21 #[.pointer (some ⟨B, 0, none⟩)] w' fun e w'' => ∃ p2 c2, e = .returned (.slice p2 t'.length c2) ∧ Rw w'' (.slice p2 t'.length c2) t' ∧ WasT w w'' B M v5 t' (.slice wp tt.length wc) tt) from fun w' h => (KW.out _ _ _ _ _ h.o).mono fun e w'' ⟨v', h1, h2, h3⟩ => by
        obtain ⟨p2, c2, e2⟩ := h2.1.form
        subst e2
        exact ⟨p2, c2, h1, h2.1, h.later h2.2.2⟩
      refine (KR.out _ P5.out.1).mono ?_
      rintro e w9 ⟨p2, c2, rfl, hr9, hw9⟩
      have P9 := show Hid (Rw w9 (.slice p2 t'.length c2) t' ∧ WasT w w9 B M v5 t' (.slice wp tt.length wc) tt) from ⟨hr9, hw9⟩
      have hle : tt.length ≤ t'.length := by rw [HLen.out, List.length_append]; omega
      have hlei : (tt.length : Int) ≤ (t'.length : Int) := by omega
      have hcp : t'.length ≤ c2 := by
        obtain ⟨_, _, e2, h1, _⟩ := hr9.isR
        obtain ⟨_, _, rfl⟩ := Value.slice.inj e2
        exact h1
      have hcp2 : c2 ≤ 9223372036854775807 := by
        obtain ⟨_, _, e2, _, h1, _⟩ := hr9.isR
        obtain ⟨_, _, rfl⟩ := Value.slice.inj e2
        exact h1
      have hcpi : (tt.length : Int) ≤ (c2 : Int) := by omega
      have KS9 := show Hid (Calls Tryz.prog 22 #[.slice p2 tt.length c2, .slice wp tt.length wc] w9 fun e w' => e = .returned (.bool true) ∧ ∃ n, w' = w9.drewN n) from KS.out _ _ _ tt (by
        have h := hr9
        have e := HLen.out
        subst e
        exact rw_take h) hw9.r.isR
      clear hr9 hw9 KR
      go_wp2_with fail
      refine KS9.out.mono ?_
      rintro e w10 ⟨rfl, n10, rfl⟩
      have P10 := show Hid (Below w.heap.size w (w9.drewN n10)) from below_drewN P9.out.2.o.2.2 n10
      clear KS9
      go_wp2_with fail
      refine (KH.out _ P10.out).mono ?_
      rintro e w11 ⟨rfl, hb11⟩
      have P11 := show Hid (Below w.heap.size w w11) from P10.out.trans (hb11.mono P10.out.size)
      clear hb11
      go_wp2_with fail
      go_ret
      exact ⟨rfl, P11.out⟩
  · obtain ⟨hb1, hb2⟩ := Ap.parse_bad h0
    generalize hpr : parseR s.data.toList tt = pr at *
    obtain ⟨⟨pa, pe, pt⟩, t'⟩ := pr
    simp only at h0 hb1 hb2 K2
    subst pa
    subst t'
    clear hpr
    obtain ⟨tk, tx, tn, tl, tc, to⟩ := pt
    unfold parseV at K2
    simp only at K2
    go_wp2_with fail
    refine K2.out.mono ?_
    rintro e w3 ⟨rfl, ha⟩
    obtain ⟨v3, h3⟩ := P2.out.after ha
    have hbf : Below w3.heap.size w3 (w3.alloc (Obj.cells #[.int .i64 pe, .int .i64 tl, .int .i64 tc, .int .i64 to] 31)) := below_alloc _ _
    have P3 := show Hid (WasT w (w3.alloc (Obj.cells #[.int .i64 pe, .int .i64 tl, .int .i64 tc, .int .i64 to] 31)) B M v3 tt (.slice wp tt.length wc) tt) from h3.later hbf
    clear ha h3 hbf K2 P2
    go_wp2_with fail
    have KR := show Hid (∀ w', WasT w w' B M v3 tt (.slice wp tt.length wc) tt → Calls Tryz.prog 21 #[.pointer (some ⟨B, 0, none⟩)] w' fun e w'' => ∃ p2 c2, e = .returned (.slice p2 tt.length c2) ∧ Rw w'' (.slice p2 tt.length c2) tt ∧ WasT w w'' B M v3 tt (.slice wp tt.length wc) tt) from fun w' h => (KW.out _ _ _ _ _ h.o).mono fun e w'' ⟨v', h1, h2, h3⟩ => by
      obtain ⟨p2, c2, e2⟩ := h2.1.form
      subst e2
      exact ⟨p2, c2, h1, h2.1, h.later h2.2.2⟩
    refine (KR.out _ P3.out).mono ?_
    rintro e w9 ⟨p2, c2, rfl, hr9, hw9⟩
    have P9 := show Hid (WasT w w9 B M v3 tt (.slice wp tt.length wc) tt) from hw9
    have KS9 := show Hid (Calls Tryz.prog 22 #[.slice wp tt.length wc, .slice p2 tt.length c2] w9 fun e w' => e = .returned (.bool true) ∧ ∃ n, w' = w9.drewN n) from KS.out _ _ _ tt hw9.r.isR hr9.isR
    clear hr9 hw9 KR
    go_wp2_with fail
    refine KS9.out.mono ?_
    rintro e w10 ⟨rfl, n10, rfl⟩
    have P10 := show Hid (Below w.heap.size w (w9.drewN n10)) from below_drewN P9.out.o.2.2 n10
    clear KS9
    go_wp2_with fail
    refine (KH.out _ P10.out).mono ?_
    rintro e w11 ⟨rfl, hb11⟩
    have P11 := show Hid (Below w.heap.size w w11) from P10.out.trans (hb11.mono P10.out.size)
    clear hb11
    go_wp2_with fail
    go_ret
    exact ⟨rfl, P11.out⟩
end Go.Proofs.YtcidldgenogdkaaGreatDoor
