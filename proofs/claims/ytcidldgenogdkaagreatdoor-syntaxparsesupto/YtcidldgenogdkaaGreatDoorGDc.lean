/-
  The document's parser: its call single: what is read and put of every list of tokens. No other condition.
-/
import Derived.Test.YtcidldgenogdkaaGreatDoorGDb
namespace Go.Proofs.YtcidldgenogdkaaGreatDoor
open Go.RowKit Go.Maps
open Fm (Nd)
open Sx (Tn T Lv)

section
variable {w0 : World} {p C g cap : Nat} {ts : List Tn}
/-- The world behind the first call of single: the parser, the token that it has put by. -/
structure Sg (w0 w wi : World) (p C g cap b : Nat) (ts : List Tn) (q : Ds) (t : Tn) : Prop where
  d : Dw w0 wi p C g cap ts q
  f : Tf w wi
  b : T6' wi b (.int .i64 t.k) (.string t.s) (.int .i64 t.n) (.int .i64 t.l) (.int .i64 t.c) (.int .i64 t.o)
theorem Sg.later {w wi w2 : World} {b : Nat} {q : Ds} {t : Tn} (h : Sg w0 w wi p C g cap b ts q t) (hb : Below wi.heap.size wi w2) : Sg w0 w w2 p C g cap b ts q t :=
  ⟨h.d.later hb, h.f.trans (Tf.of_below hb), (hb.block _ (lt_of_block h.b)).trans h.b⟩
theorem Sg.next {w wi w2 : World} {b : Nat} {q q' : Ds} {t : Tn} (h : Sg w0 w wi p C g cap b ts q t) (hd : Dw w0 w2 p C g cap ts q') (hf : Tf wi w2) : Sg w0 w w2 p C g cap b ts q' t :=
  ⟨hd, h.f.trans hf, (hf _ _ _ h.b).trans h.b⟩
theorem shut_not {t : Tn} (h : Sx.sgn t [41] = true) : Sx.counts t = false := by
  unfold Sx.sgn at h
  simp only [Bool.and_eq_true, beq_iff_eq] at h
  unfold Sx.counts
  rw [h.1, h.2]
  decide
theorem open_not {t : Tn} (h : Sx.sgn t [40] = true) : Sx.counts t = false := by
  unfold Sx.sgn at h
  simp only [Bool.and_eq_true, beq_iff_eq] at h
  unfold Sx.counts
  rw [h.1, h.2]
  decide
theorem ref41 {i n : Nat} {o : Sx.Out} (h : some (Sx.refuse ts i n) = some o) (h40 : ∀ x, o ≠ .bad 40 x) : o = .bad 41 (Sx.tk ts i) := by
  have h' : Sx.refuse ts i n = o := Option.some.inj h
  rw [← h']
  unfold Sx.refuse at h' ⊢
  split
  · rename_i hh
    rw [if_pos hh] at h'
    exact absurd h'.symm (h40 _)
  · rfl
theorem fail_ok {w : World} {q : Ds} (h : Dw w0 w p C g cap ts q) (he : q.e = 0) (x : Int) : Calls Tryz.prog 35 #[.pointer (some ⟨p, 0, none⟩), .int .i64 x] w fun e w' => e = .returned (.tuple #[]) ∧ Dw w0 w' p C g cap ts (q.flt x (Sx.tk ts q.i)) ∧ Tf w w' := by
  have := dfail_any w h x
  rw [if_pos he] at this
  exact this
theorem fail_bad {w : World} {q q1 : Ds} {er : Int} {t : Tn} {y : Int} (h : Dw w0 w p C g cap ts q1) (hb : Dout q (.bad er t) y q1) (x : Int) : Calls Tryz.prog 35 #[.pointer (some ⟨p, 0, none⟩), .int .i64 x] w fun e w' => e = .returned (.tuple #[]) ∧ Dw w0 w' p C g cap ts q1 ∧ Tf w w' := by
  have := dfail_any w h x
  rw [if_neg (by rw [hb.2.1]; exact hb.1)] at this
  exact this
/-- The start of single. -/
theorem start_any {w : World} {q : Ds} (h : Dw w0 w p C g cap ts q) : Calls Tryz.prog 34 #[.pointer (some ⟨p, 0, none⟩)] w fun e w' => e = .returned (tnV (Sx.tk ts q.i)) ∧ Sg w0 w (w'.alloc (Obj.cells #[.int .i64 (Sx.tk ts q.i).k, .string (Sx.tk ts q.i).s, .int .i64 (Sx.tk ts q.i).n, .int .i64 (Sx.tk ts q.i).l, .int .i64 (Sx.tk ts q.i).c, .int .i64 (Sx.tk ts q.i).o] 45)) p C g cap w'.heap.size ts q (Sx.tk ts q.i) :=
  (tok_any w h).mono fun _ _ hh => ⟨hh.1, (h.later hh.2).later (below_alloc _ _), (Tf.of_below hh.2).trans (Tf.of_below (below_alloc _ _)), heap_alloc_new _ _⟩
set_option maxRecDepth 100000 in
set_option maxHeartbeats 4000000 in
theorem single_not (f : Nat) (hs : DCon w0 p C g cap ts 138 .single f) (w : World) (q : Ds) (o : Sx.Out) (hD : Dw w0 w p C g cap ts q) (he : q.e = 0) (hq : q.i ≤ ts.length) (hd : q.d ≤ 1024) (h40 : ∀ x, o ≠ .bad 40 x) (hsg : Sx.sgn (Sx.tk ts q.i) [126] = true)
    (hr : (Sx.stp ts q.i q.n fun n => Sx.bnd (Sx.rd ts f .single (q.i + 1) n q.d) fun a i n => some (.ok (.neg a) i n)) = some o) : Calls Tryz.prog 138 #[.pointer (some ⟨p, 0, none⟩)] w fun e w' => Dres w0 w p C g cap ts q o e w' := by
  have hlt := Sx.sgn_lt hsg
  rcases Sx.stp_cases hr with ⟨_, ho⟩ | ⟨hu, hk⟩
  · exact absurd ho (h40 _)
  have K0 := show Hid _ from start_any hD
  have HF := show Hid (q.e = 0 ∧ q.i ≤ ts.length ∧ q.d ≤ 1024 ∧ q.i < ts.length ∧ Sx.up ts q.i q.n ≤ 512) from ⟨he, hq, hd, hlt, hu⟩
  have HSG := show Hid (Sx.sgn (Sx.tk ts q.i) [126] = true) from hsg
  have HS := show Hid (DCon w0 p C g cap ts 138 .single f) from hs
  have H40 := show Hid (∀ x, o ≠ .bad 40 x) from h40
  have KI := show Hid (∀ w1, Dw w0 w1 p C g cap ts q → Calls Tryz.prog 61 #[.pointer (some ⟨p, 0, none⟩), .string ⟨#[126]⟩] w1 fun e w' => e = .returned (.bool true) ∧ Below w1.heap.size w1 w') from fun w1 h => by
    have := is_ok h he ⟨#[126]⟩
    rw [show (⟨#[126]⟩ : ByteArray).data.toList = [126] from rfl, hsg] at this
    exact this
  clear hD hr hs h40 hq hd hlt hu
  generalize htk : Sx.tk ts q.i = t at *
  obtain ⟨tk, tx, tn, tl, tc, to⟩ := t
  unfold tnV at K0
  simp only at K0
  go_enter Tryz.func138, Tryz.ntmps138
  go_wp2_with fail
  refine (show Calls _ _ _ _ _ from K0.out).mono ?_
  rintro e w1 ⟨rfl, hg1⟩
  have G1 := show Hid _ from hg1
  have c6 := hg1.d.pb.c6
  rw [he] at c6
  clear hg1 K0
  go_wp2_with fail
  refine (KI.out _ G1.out.d).mono ?_
  rintro e w2 ⟨rfl, hb2⟩
  have G2 := show Hid _ from G1.out.later hb2
  clear hb2 G1 c6 KI
  go_wp2_with fail
  refine (dtake_any w2 G2.out.d HF.out.1 HF.out.2.1 HF.out.2.2.2.2).mono ?_
  rintro e w3 ⟨rfl, hD3, hT3⟩
  have X3 := show Hid (Dw w0 w3 p C g cap ts (q.to (q.i + 1) (Sx.up ts q.i q.n) (q.t, q.fl)) ∧ Tf w w3) from ⟨hD3, G2.out.f.trans hT3⟩
  clear hD3 hT3 G2
  rcases Sx.bnd_cases hk with ⟨er, t, hx, ho⟩ | ⟨a, i2, n2, hx, hk2⟩
  · have K2 := show Hid (Calls Tryz.prog 138 #[.pointer (some ⟨p, 0, none⟩)] w3 fun e w' => Dres w0 w3 p C g cap ts (q.to (q.i + 1) (Sx.up ts q.i q.n) (q.t, q.fl)) (.bad er t) e w') from HS.out w3 _ _ X3.out.1 HF.out.1 HF.out.2.2.2.1 HF.out.2.2.2.2 HF.out.2.2.1 hx (by rw [← ho]; exact H40.out)
    have HO := show Hid (o = .bad er t) from ho
    clear hk hx ho
    go_wp2_with fail
    refine K2.out.mono ?_
    rintro e w4 ⟨y, q4, rfl, hy, hD4, hT4, ho⟩
    have X4 := show Hid (Fm.i64 y ∧ Dw w0 w4 p C g cap ts q4 ∧ Tf w w4 ∧ Dout (q.to (q.i + 1) (Sx.up ts q.i q.n) (q.t, q.fl)) (.bad er t) y q4) from ⟨hy, hD4, X3.out.2.trans hT4, ho⟩
    clear hy hD4 hT4 ho K2
    go_wp2_with fail
    refine (show Calls Tryz.prog 95 #[.pointer (some ⟨p, 0, none⟩), .agg #[.int .i64 2, .string ⟨#[]⟩, .int .i64 0, .int .i64 0]] _ _ from putn_bad X4.out.2.1 X4.out.2.2.2 Fm.bot Fm.good_bot).mono ?_
    rintro e w5 ⟨rfl, hD5, hT5⟩
    have X5 := show Hid (Dw w0 w5 p C g cap ts q4 ∧ Tf w w5) from ⟨hD5, X4.out.2.2.1.trans hT5⟩
    clear hD5 hT5
    go_wp2_with fail
    refine (two_bad X5.out.1 X4.out.2.2.2 5 y 0 (Dp.i64_k (by omega)) X4.out.1 Dp.i64_0).mono ?_
    rintro e w6 ⟨rfl, hD6, hT6⟩
    have X6 := show Hid (Dw w0 w6 p C g cap ts q4 ∧ Tf w w6) from ⟨hD6, X5.out.2.trans hT6⟩
    clear hD6 hT6
    go_wp2_with fail
    go_ret
    exact ⟨_, q4, rfl, Dp.i64_0, X6.out.1, X6.out.2, by rw [HO.out]; exact X4.out.2.2.2⟩
  · have K2 := show Hid (Calls Tryz.prog 138 #[.pointer (some ⟨p, 0, none⟩)] w3 fun e w' => Dres w0 w3 p C g cap ts (q.to (q.i + 1) (Sx.up ts q.i q.n) (q.t, q.fl)) (.ok a i2 n2) e w') from HS.out w3 _ _ X3.out.1 HF.out.1 HF.out.2.2.2.1 HF.out.2.2.2.2 HF.out.2.2.1 hx (fun _ h => by cases h)
    have ho : Sx.Out.ok (.neg a) i2 n2 = o := by simpa using hk2
    subst ho
    clear hk hx hk2
    go_wp2_with fail
    refine K2.out.mono ?_
    rintro e w4 ⟨y, q4, rfl, hy, hD4, hT4, hyy, hq4⟩
    have X4 := show Hid (Fm.i64 (Dp.str a (q.t, q.fl)).1 ∧ Dw w0 w4 p C g cap ts (q.to i2 n2 (Dp.str a (q.t, q.fl)).2) ∧ Tf w w4) from by
      subst hyy
      subst hq4
      exact ⟨hy, hD4, X3.out.2.trans hT4⟩
    have hyy2 : y = (Dp.str a (q.t, q.fl)).1 := hyy
    clear hy hD4 hT4 hyy hq4 K2
    subst hyy2
    go_wp2_with fail
    refine (show Calls Tryz.prog 95 #[.pointer (some ⟨p, 0, none⟩), .agg #[.int .i64 2, .string ⟨#[]⟩, .int .i64 0, .int .i64 0]] _ _ from putn_ok X4.out.2.1 HF.out.1 Fm.bot Fm.good_bot).mono ?_
    rintro e w5 ⟨rfl, hD5, hT5⟩
    have X5 := show Hid (Fm.i64 (Dp.sput (Dp.str a (q.t, q.fl)).2 Fm.bot).1 ∧ Dw w0 w5 p C g cap ts (q.to i2 n2 (Dp.sput (Dp.str a (q.t, q.fl)).2 Fm.bot).2) ∧ Tf w w5) from ⟨(Dp.sput_gd X4.out.2.1.ok Fm.good_bot).2, hD5, X4.out.2.2.trans hT5⟩
    clear hD5 hT5
    simp only [Ds.to]
    go_wp2_with fail
    refine (two_ok X5.out.2.1 HF.out.1 5 (Dp.str a (q.t, q.fl)).1 (Dp.sput (Dp.str a (q.t, q.fl)).2 Fm.bot).1 (Dp.i64_k (by omega)) X4.out.1 X5.out.1).mono ?_
    rintro e w6 ⟨rfl, hD6, hT6⟩
    have X6 := show Hid (Fm.i64 (Dp.str (.neg a) (q.t, q.fl)).1 ∧ Dw w0 w6 p C g cap ts (q.to i2 n2 (Dp.str (.neg a) (q.t, q.fl)).2) ∧ Tf w w6) from ⟨(Dp.sput_gd X5.out.2.1.ok (Dp.jn_good (Dp.i64_k (by omega)) X4.out.1 X5.out.1)).2, hD6, X5.out.2.2.trans hT6⟩
    clear hD6 hT6
    go_wp2_with fail
    go_ret
    exact ⟨_, _, rfl, X6.out.1, X6.out.2.1, X6.out.2.2, rfl, rfl⟩
end
end Go.Proofs.YtcidldgenogdkaaGreatDoor
/-
  The document's parser: its call single at a parenthesis. For every list of tokens. No other condition.
-/
namespace Go.Proofs.YtcidldgenogdkaaGreatDoor
open Go.RowKit Go.Maps
open Fm (Nd)
open Sx (Tn T Lv)

section
variable {w0 : World} {p C g cap : Nat} {ts : List Tn}
theorem is_at {w : World} {q : Ds} (h : Dw w0 w p C g cap ts q) (he : q.e = 0) {l : List UInt8} {b : Bool} (hb : Sx.sgn (Sx.tk ts q.i) l = b) (s : ByteArray) (hs : s.data.toList = l) : Calls Tryz.prog 61 #[.pointer (some ⟨p, 0, none⟩), .string s] w fun e w' => e = .returned (.bool b) ∧ Below w.heap.size w w' := by
  have := is_ok h he s
  rw [hs, hb] at this
  exact this
set_option maxRecDepth 100000 in
set_option maxHeartbeats 4000000 in
theorem single_paren (f : Nat) (hfm : DCon w0 p C g cap ts 33 .formula f) (w : World) (q : Ds) (o : Sx.Out) (hD : Dw w0 w p C g cap ts q) (he : q.e = 0) (hn : q.n ≤ 512) (hd : q.d ≤ 1024) (h40 : ∀ x, o ≠ .bad 40 x) (hnot : Sx.sgn (Sx.tk ts q.i) [126] = false) (hsg : Sx.sgn (Sx.tk ts q.i) [40] = true)
    (hr : (if q.d = 1024 then some (Sx.refuse ts q.i q.n) else Sx.stp ts q.i q.n fun n => Sx.bnd (Sx.rd ts f .formula (q.i + 1) n (q.d + 1)) fun a i n => if Sx.sgn (Sx.tk ts i) [41] then Sx.stp ts i n fun n => some (.ok a (i + 1) n) else some (Sx.refuse ts i n)) = some o) : Calls Tryz.prog 138 #[.pointer (some ⟨p, 0, none⟩)] w fun e w' => Dres w0 w p C g cap ts q o e w' := by
  have hlt := Sx.sgn_lt hsg
  have hcl : ts.length ≤ 4611686018427387904 := by obtain ⟨cur, _, _, _, _, h1⟩ := hD.tk; exact h1
  have hup : Sx.up ts q.i q.n = q.n := by unfold Sx.up; rw [open_not hsg]; rfl
  have K0 := show Hid _ from start_any hD
  have HF := show Hid (q.e = 0 ∧ q.i < ts.length ∧ q.n ≤ 512) from ⟨he, hlt, hn⟩
  have H40 := show Hid (∀ x, o ≠ .bad 40 x) from h40
  have KI := show Hid (∀ w1, Dw w0 w1 p C g cap ts q → Calls Tryz.prog 61 #[.pointer (some ⟨p, 0, none⟩), .string ⟨#[126]⟩] w1 fun e w' => e = .returned (.bool false) ∧ Below w1.heap.size w1 w') from fun w1 h => is_at h he hnot ⟨#[126]⟩ rfl
  have KJ := show Hid (∀ w1, Dw w0 w1 p C g cap ts q → Calls Tryz.prog 61 #[.pointer (some ⟨p, 0, none⟩), .string ⟨#[40]⟩] w1 fun e w' => e = .returned (.bool true) ∧ Below w1.heap.size w1 w') from fun w1 h => is_at h he hsg ⟨#[40]⟩ rfl
  have HFM := show Hid (DCon w0 p C g cap ts 33 .formula f) from hfm
  clear hD hfm h40 hnot hsg hn
  generalize htk : Sx.tk ts q.i = t at *
  have HTK := show Hid (Sx.tk ts q.i = t) from htk
  clear htk
  by_cases hd1 : q.d = 1024
  · rw [if_pos hd1] at hr
    have HO := show Hid (o = .bad 41 t) from by
      show o = .bad 41 t
      rw [← HTK.out]
      exact ref41 hr H40.out
    obtain ⟨tk, tx, tn, tl, tc, to⟩ := t
    unfold tnV at K0
    simp only at K0
    clear hr hup hd
    go_enter Tryz.func138, Tryz.ntmps138
    go_wp2_with fail
    refine (show Calls _ _ _ _ _ from K0.out).mono ?_
    rintro e w1 ⟨rfl, hg1⟩
    have G1 := show Hid _ from hg1
    have c6 := hg1.d.pb.c6
    rw [he] at c6
    clear hg1 K0
    go_wp2_with fail
    refine (KI.out _ G1.out.d).mono ?_
    rintro e w2 ⟨rfl, hb2⟩
    have G2 := show Hid _ from G1.out.later hb2
    clear hb2 G1 c6 KI
    go_wp2_with fail
    refine (KJ.out _ G2.out.d).mono ?_
    rintro e w3 ⟨rfl, hb3⟩
    have G3 := show Hid _ from G2.out.later hb3
    have c4 := G3.out.d.pb.c4
    rw [hd1] at c4
    clear hb3 G2 KJ
    go_wp2_with fail
    refine (fail_ok G3.out.d HF.out.1 41).mono ?_
    rintro e w4 ⟨rfl, hD4, hT4⟩
    have X4 := show Hid (Dw w0 w4 p C g cap ts (q.flt 41 (Sx.tk ts q.i)) ∧ Tf w w4) from ⟨hD4, G3.out.f.trans hT4⟩
    clear hD4 hT4
    go_wp2_with fail
    go_ret
    exact ⟨_, _, rfl, Dp.i64_0, X4.out.1, X4.out.2, by rw [HO.out, HTK.out]; exact ⟨by decide, rfl, rfl, rfl, rfl⟩⟩
  · rw [if_neg hd1] at hr
    rcases Sx.stp_cases hr with ⟨_, ho⟩ | ⟨hu, hk⟩
    · exact absurd ho (H40.out _)
    rw [hup] at hk
    have hdi : ¬ (1024 : Int) ≤ (q.d : Int) := by omega
    have hd2 : q.d + 1 ≤ 1024 := by omega
    obtain ⟨tk, tx, tn, tl, tc, to⟩ := t
    unfold tnV at K0
    simp only at K0
    clear hr hup hu
    go_enter Tryz.func138, Tryz.ntmps138
    go_wp2_with fail
    refine (show Calls _ _ _ _ _ from K0.out).mono ?_
    rintro e w1 ⟨rfl, hg1⟩
    have G1 := show Hid _ from hg1
    have c6 := hg1.d.pb.c6
    rw [he] at c6
    clear hg1 K0
    go_wp2_with fail
    refine (KI.out _ G1.out.d).mono ?_
    rintro e w2 ⟨rfl, hb2⟩
    have G2 := show Hid _ from G1.out.later hb2
    clear hb2 G1 c6 KI
    go_wp2_with fail
    refine (KJ.out _ G2.out.d).mono ?_
    rintro e w3 ⟨rfl, hb3⟩
    have G3 := show Hid _ from G2.out.later hb3
    have c4 := G3.out.d.pb.c4
    have c2 := G3.out.d.pb.c2
    have fr := G3.out.d.pb.fr
    clear hb3 G2 KJ
    go_wp2_with fail
    have X4 := show Hid (Dw w0 ((w3.setCell ⟨p, 4, none⟩ (.int .i64 ((q.d : Int) + 1))).setCell ⟨p, 2, none⟩ (.int .i64 ((q.i : Int) + 1))) p C g cap ts { q with d := q.d + 1, i := q.i + 1 } ∧ Tf w ((w3.setCell ⟨p, 4, none⟩ (.int .i64 ((q.d : Int) + 1))).setCell ⟨p, 2, none⟩ (.int .i64 ((q.i : Int) + 1)))) from by
      have h1 := G3.out.d.s4 (q.d + 1)
      have h2 := h1.s2 (q.i + 1)
      have t1 := G3.out.d.tset 4 (.int .i64 ((q.d + 1 : Nat) : Int))
      have t2 := h1.tset 2 (.int .i64 ((q.i + 1 : Nat) : Int))
      exact ⟨h2, (G3.out.f.trans t1).trans t2⟩
    generalize (w3.setCell ⟨p, 4, none⟩ (.int .i64 ((q.d : Int) + 1))).setCell ⟨p, 2, none⟩ (.int .i64 ((q.i : Int) + 1)) = w4 at *
    rcases Sx.bnd_cases hk with ⟨er, t, hx, ho⟩ | ⟨a, i2, n2, hx, hk2⟩
    · have K2 := show Hid (Calls Tryz.prog 33 #[.pointer (some ⟨p, 0, none⟩)] w4 fun e w' => Dres w0 w4 p C g cap ts { q with d := q.d + 1, i := q.i + 1 } (.bad er t) e w') from HFM.out w4 _ _ X4.out.1 HF.out.1 HF.out.2.1 HF.out.2.2 hd2 hx (by rw [← ho]; exact H40.out)
      have HO := show Hid (o = .bad er t) from ho
      clear hk hx ho c2 c4 fr
      refine K2.out.mono ?_
      rintro e w5 ⟨y, q5, rfl, hy, hD5, hT5, ho⟩
      have X5 := show Hid (Fm.i64 y ∧ Dw w0 w5 p C g cap ts q5 ∧ Tf w w5 ∧ Dout { q with d := q.d + 1, i := q.i + 1 } (.bad er t) y q5) from ⟨hy, hD5, X4.out.2.trans hT5, ho⟩
      clear hy hD5 hT5 ho K2
      go_wp2_with fail
      refine (is_bad X5.out.2.1 X5.out.2.2.2 ⟨#[41]⟩).mono ?_
      rintro e w6 ⟨rfl, hb6⟩
      have X6 := show Hid (Dw w0 w6 p C g cap ts q5 ∧ Tf w w6) from ⟨X5.out.2.1.later hb6, X5.out.2.2.1.trans (Tf.of_below hb6)⟩
      clear hb6
      go_wp2_with fail
      refine (fail_bad X6.out.1 X5.out.2.2.2 41).mono ?_
      rintro e w7 ⟨rfl, hD7, hT7⟩
      have X7 := show Hid (Dw w0 w7 p C g cap ts q5 ∧ Tf w w7) from ⟨hD7, X6.out.2.trans hT7⟩
      clear hD7 hT7
      go_wp2_with fail
      go_ret
      exact ⟨_, q5, rfl, Dp.i64_0, X7.out.1, X7.out.2, by rw [HO.out]; exact X5.out.2.2.2⟩
    · have K2 := show Hid (Calls Tryz.prog 33 #[.pointer (some ⟨p, 0, none⟩)] w4 fun e w' => Dres w0 w4 p C g cap ts { q with d := q.d + 1, i := q.i + 1 } (.ok a i2 n2) e w') from HFM.out w4 _ _ X4.out.1 HF.out.1 HF.out.2.1 HF.out.2.2 hd2 hx (fun _ h => by cases h)
      have hfi := Sx.rd_fine ts f .formula (q.i + 1) _ (q.d + 1) _ HF.out.2.1 hx _ _ _ rfl
      have hi2 : i2 ≤ 4611686018427387904 := by have := hfi.2.1; omega
      clear hk hx c2 c4 fr
      refine K2.out.mono ?_
      rintro e w5 ⟨y, q5, rfl, hy, hD5, hT5, hyy, hq5⟩
      have X5 := show Hid (Fm.i64 (Dp.str a (q.t, q.fl)).1 ∧ Dw w0 w5 p C g cap ts (Ds.to { q with d := q.d + 1, i := q.i + 1 } i2 n2 (Dp.str a (q.t, q.fl)).2) ∧ Tf w w5) from by
        subst hyy
        subst hq5
        exact ⟨hy, hD5, X4.out.2.trans hT5⟩
      have hyy2 : y = (Dp.str a (q.t, q.fl)).1 := hyy
      clear hy hD5 hT5 hyy hq5 K2
      subst hyy2
      cases hsh : Sx.sgn (Sx.tk ts i2) [41]
      · have KS := show Hid (Calls Tryz.prog 61 #[.pointer (some ⟨p, 0, none⟩), .string ⟨#[41]⟩] w5 fun e w' => e = .returned (.bool false) ∧ Below w5.heap.size w5 w') from is_at X5.out.2.1 HF.out.1 hsh ⟨#[41]⟩ rfl
        have hk3 : (if Sx.sgn (Sx.tk ts i2) [41] then _ else some (Sx.refuse ts i2 n2)) = some o := hk2
        rw [hsh] at hk3
        have HO := show Hid (o = .bad 41 (Sx.tk ts i2)) from ref41 hk3 H40.out
        clear hk2 hk3 hsh
        go_wp2_with fail
        refine KS.out.mono ?_
        rintro e w6 ⟨rfl, hb6⟩
        have X6 := show Hid (Dw w0 w6 p C g cap ts (Ds.to { q with d := q.d + 1, i := q.i + 1 } i2 n2 (Dp.str a (q.t, q.fl)).2) ∧ Tf w w6) from ⟨X5.out.2.1.later hb6, X5.out.2.2.trans (Tf.of_below hb6)⟩
        clear hb6 KS
        go_wp2_with fail
        refine (fail_ok X6.out.1 HF.out.1 41).mono ?_
        rintro e w7 ⟨rfl, hD7, hT7⟩
        have X7 := show Hid (Dw w0 w7 p C g cap ts ((Ds.to { q with d := q.d + 1, i := q.i + 1 } i2 n2 (Dp.str a (q.t, q.fl)).2).flt 41 (Sx.tk ts i2)) ∧ Tf w w7) from ⟨hD7, X6.out.2.trans hT7⟩
        clear hD7 hT7
        go_wp2_with fail
        go_ret
        exact ⟨_, _, rfl, Dp.i64_0, X7.out.1, X7.out.2, by rw [HO.out]; exact ⟨by decide, rfl, rfl, rfl, rfl⟩⟩
      · have KS := show Hid (Calls Tryz.prog 61 #[.pointer (some ⟨p, 0, none⟩), .string ⟨#[41]⟩] w5 fun e w' => e = .returned (.bool true) ∧ Below w5.heap.size w5 w') from is_at X5.out.2.1 HF.out.1 hsh ⟨#[41]⟩ rfl
        have hk3 : (if Sx.sgn (Sx.tk ts i2) [41] then Sx.stp ts i2 n2 fun n => some (.ok a (i2 + 1) n) else some (Sx.refuse ts i2 n2)) = some o := hk2
        rw [hsh, if_pos rfl] at hk3
        have hup2 : Sx.up ts i2 n2 = n2 := by unfold Sx.up; rw [shut_not hsh]; rfl
        have ho : Sx.Out.ok a (i2 + 1) n2 = o := by
          rcases Sx.stp_cases hk3 with ⟨_, ho⟩ | ⟨_, hk4⟩
          · exact absurd ho (H40.out _)
          · rw [hup2] at hk4
            exact Option.some.inj hk4
        subst ho
        clear hk2 hk3 hsh hup2
        go_wp2_with fail
        refine KS.out.mono ?_
        rintro e w6 ⟨rfl, hb6⟩
        have X6 := show Hid (Dw w0 w6 p C g cap ts (Ds.to { q with d := q.d + 1, i := q.i + 1 } i2 n2 (Dp.str a (q.t, q.fl)).2) ∧ Tf w w6) from ⟨X5.out.2.1.later hb6, X5.out.2.2.trans (Tf.of_below hb6)⟩
        have c4 : w6.cell? ⟨p, 4, none⟩ = some (.int .i64 ((q.d : Int) + 1)) := X6.out.1.pb.c4
        have c2 : w6.cell? ⟨p, 2, none⟩ = some (.int .i64 (i2 : Int)) := X6.out.1.pb.c2
        have fr := X6.out.1.pb.fr
        clear hb6 KS
        go_wp2_with fail
        go_ret
        have h1 := X6.out.1.s4 q.d
        have h2 := h1.s2 (i2 + 1)
        have t1 := X6.out.1.tset 4 (.int .i64 (q.d : Int))
        have t2 := h1.tset 2 (.int .i64 ((i2 + 1 : Nat) : Int))
        have h3 : Dw w0 ((w6.setCell ⟨p, 4, none⟩ (.int .i64 (q.d : Int))).setCell ⟨p, 2, none⟩ (.int .i64 ((i2 : Int) + 1))) p C g cap ts (q.to (i2 + 1) n2 (Dp.str a (q.t, q.fl)).2) := h2
        have t3 : Tf w ((w6.setCell ⟨p, 4, none⟩ (.int .i64 (q.d : Int))).setCell ⟨p, 2, none⟩ (.int .i64 ((i2 : Int) + 1))) := (X6.out.2.trans t1).trans t2
        clear h1 h2 t1 t2
        exact ⟨_, _, rfl, X5.out.1, h3, t3, rfl, rfl⟩
end
end Go.Proofs.YtcidldgenogdkaaGreatDoor
/-
  The document's parser: its call single at a name, and where no formula begins; all of its calls together. For every list of tokens. No other condition.
-/
namespace Go.Proofs.YtcidldgenogdkaaGreatDoor
open Go.RowKit Go.Maps
open Fm (Nd)
open Sx (Tn T Lv)

theorem name_ne {x : ByteArray} {l : List UInt8} (h : x ≠ ⟨l.toArray⟩) : (x.toList == l) = false := beq_eq_false_iff_ne.2 fun e => h (by
  rw [← e, ByteArray.toList_eq])
section
variable {w0 : World} {p C g cap : Nat} {ts : List Tn}
set_option maxRecDepth 100000 in
set_option maxHeartbeats 4000000 in
theorem single_else (w : World) (q : Ds) (o : Sx.Out) (hD : Dw w0 w p C g cap ts q) (he : q.e = 0) (h40 : ∀ x, o ≠ .bad 40 x) (hnot : Sx.sgn (Sx.tk ts q.i) [126] = false) (hsg : Sx.sgn (Sx.tk ts q.i) [40] = false) (hk : (Sx.tk ts q.i).k ≠ 1)
    (hr : some (Sx.refuse ts q.i q.n) = some o) : Calls Tryz.prog 138 #[.pointer (some ⟨p, 0, none⟩)] w fun e w' => Dres w0 w p C g cap ts q o e w' := by
  have K0 := show Hid _ from start_any hD
  have HE := show Hid (q.e = 0) from he
  have KI := show Hid (∀ w1, Dw w0 w1 p C g cap ts q → Calls Tryz.prog 61 #[.pointer (some ⟨p, 0, none⟩), .string ⟨#[126]⟩] w1 fun e w' => e = .returned (.bool false) ∧ Below w1.heap.size w1 w') from fun w1 h => is_at h he hnot ⟨#[126]⟩ rfl
  have KJ := show Hid (∀ w1, Dw w0 w1 p C g cap ts q → Calls Tryz.prog 61 #[.pointer (some ⟨p, 0, none⟩), .string ⟨#[40]⟩] w1 fun e w' => e = .returned (.bool false) ∧ Below w1.heap.size w1 w') from fun w1 h => is_at h he hsg ⟨#[40]⟩ rfl
  have HO := show Hid (o = .bad 41 (Sx.tk ts q.i)) from ref41 hr h40
  clear hD hr h40 hnot hsg
  generalize htk : Sx.tk ts q.i = t at *
  have HTK := show Hid (Sx.tk ts q.i = t) from htk
  rw [← HTK.out] at HO
  clear htk
  obtain ⟨tk, tx, tn, tl, tc, to⟩ := t
  unfold tnV at K0
  simp only at K0 hk
  go_enter Tryz.func138, Tryz.ntmps138
  go_wp2_with fail
  refine (show Calls _ _ _ _ _ from K0.out).mono ?_
  rintro e w1 ⟨rfl, hg1⟩
  have G1 := show Hid _ from hg1
  have c6 := hg1.d.pb.c6
  rw [he] at c6
  clear hg1 K0
  go_wp2_with fail
  refine (KI.out _ G1.out.d).mono ?_
  rintro e w2 ⟨rfl, hb2⟩
  have G2 := show Hid _ from G1.out.later hb2
  clear hb2 G1 c6 KI
  go_wp2_with fail
  refine (KJ.out _ G2.out.d).mono ?_
  rintro e w3 ⟨rfl, hb3⟩
  have G3 := show Hid _ from G2.out.later hb3
  have b0 := G3.out.b.c0; have b1 := G3.out.b.c1
  simp only at b0 b1
  clear hb3 G2 KJ
  go_wp2_with fail
  refine (fail_ok G3.out.d HE.out 41).mono ?_
  rintro e w8 ⟨rfl, hD8, hT8⟩
  have X8 := show Hid (Dw w0 w8 p C g cap ts (q.flt 41 (Sx.tk ts q.i)) ∧ Tf w w8) from ⟨hD8, G3.out.f.trans hT8⟩
  clear hD8 hT8
  go_wp2_with fail
  go_ret
  exact ⟨_, _, rfl, Dp.i64_0, X8.out.1, X8.out.2, by rw [HO.out]; exact ⟨by decide, rfl, rfl, rfl, rfl⟩⟩
set_option maxRecDepth 100000 in
set_option maxHeartbeats 4000000 in
theorem single_noname (w : World) (q : Ds) (o : Sx.Out) (hD : Dw w0 w p C g cap ts q) (he : q.e = 0) (h40 : ∀ x, o ≠ .bad 40 x) (hnot : Sx.sgn (Sx.tk ts q.i) [126] = false) (hsg : Sx.sgn (Sx.tk ts q.i) [40] = false) (hk : (Sx.tk ts q.i).k = 1) (hz : (Sx.tk ts q.i).s.size ≤ 140737488351232) (hn1 : (Sx.tk ts q.i).s ≠ ⟨#[116, 114, 117, 101]⟩) (hn2 : (Sx.tk ts q.i).s ≠ ⟨#[102, 97, 108, 115, 101]⟩) (hw : Fm.word (Sx.tk ts q.i).s.data.toList = false)
    (hr : some (Sx.refuse ts q.i q.n) = some o) : Calls Tryz.prog 138 #[.pointer (some ⟨p, 0, none⟩)] w fun e w' => Dres w0 w p C g cap ts q o e w' := by
  have K0 := show Hid _ from start_any hD
  have HE := show Hid (q.e = 0) from he
  have KI := show Hid (∀ w1, Dw w0 w1 p C g cap ts q → Calls Tryz.prog 61 #[.pointer (some ⟨p, 0, none⟩), .string ⟨#[126]⟩] w1 fun e w' => e = .returned (.bool false) ∧ Below w1.heap.size w1 w') from fun w1 h => is_at h he hnot ⟨#[126]⟩ rfl
  have KJ := show Hid (∀ w1, Dw w0 w1 p C g cap ts q → Calls Tryz.prog 61 #[.pointer (some ⟨p, 0, none⟩), .string ⟨#[40]⟩] w1 fun e w' => e = .returned (.bool false) ∧ Below w1.heap.size w1 w') from fun w1 h => is_at h he hsg ⟨#[40]⟩ rfl
  have HO := show Hid (o = .bad 41 (Sx.tk ts q.i)) from ref41 hr h40
  have KW := show Hid (∀ w1, Calls Tryz.prog 99 #[.string (Sx.tk ts q.i).s] w1 fun e w' => e = .returned (.bool (Fm.word (Sx.tk ts q.i).s.data.toList)) ∧ Below w1.heap.size w1 w') from fun w1 => rword_any w1 _ hz
  rw [hw] at KW
  clear hD hr h40 hnot hsg hw hz
  generalize htk : Sx.tk ts q.i = t at *
  have HTK := show Hid (Sx.tk ts q.i = t) from htk
  rw [← HTK.out] at HO
  clear htk
  obtain ⟨tk, tx, tn, tl, tc, to⟩ := t
  unfold tnV at K0
  simp only at K0 hk hn1 hn2 KW
  subst hk
  have hm1 : (tx.toList == [116, 114, 117, 101]) = false := name_ne hn1
  have hm2 : (tx.toList == [102, 97, 108, 115, 101]) = false := name_ne hn2
  clear hn1 hn2
  go_enter Tryz.func138, Tryz.ntmps138
  go_wp2_with fail
  refine (show Calls _ _ _ _ _ from K0.out).mono ?_
  rintro e w1 ⟨rfl, hg1⟩
  have G1 := show Hid _ from hg1
  have c6 := hg1.d.pb.c6
  rw [he] at c6
  clear hg1 K0
  go_wp2_with fail
  refine (KI.out _ G1.out.d).mono ?_
  rintro e w2 ⟨rfl, hb2⟩
  have G2 := show Hid _ from G1.out.later hb2
  clear hb2 G1 c6 KI
  go_wp2_with fail
  refine (KJ.out _ G2.out.d).mono ?_
  rintro e w3 ⟨rfl, hb3⟩
  have G3 := show Hid _ from G2.out.later hb3
  have b0 := G3.out.b.c0; have b1 := G3.out.b.c1
  simp only at b0 b1
  clear hb3 G2 KJ
  go_wp2_with fail
  refine (KW.out _).mono ?_
  rintro e w4 ⟨rfl, hb4⟩
  have G4 := show Hid _ from G3.out.later hb4
  clear hb4 KW
  go_wp2_with fail
  refine (fail_ok G4.out.d HE.out 41).mono ?_
  rintro e w8 ⟨rfl, hD8, hT8⟩
  have X8 := show Hid (Dw w0 w8 p C g cap ts (q.flt 41 (Sx.tk ts q.i)) ∧ Tf w w8) from ⟨hD8, G4.out.f.trans hT8⟩
  clear hD8 hT8
  go_wp2_with fail
  go_ret
  exact ⟨_, _, rfl, Dp.i64_0, X8.out.1, X8.out.2, by rw [HO.out]; exact ⟨by decide, rfl, rfl, rfl, rfl⟩⟩
set_option maxRecDepth 100000 in
set_option maxHeartbeats 4000000 in
theorem single_true (w : World) (q : Ds) (o : Sx.Out) (hD : Dw w0 w p C g cap ts q) (he : q.e = 0) (h40 : ∀ x, o ≠ .bad 40 x) (hnot : Sx.sgn (Sx.tk ts q.i) [126] = false) (hsg : Sx.sgn (Sx.tk ts q.i) [40] = false) (hq : q.i ≤ ts.length) (hk : (Sx.tk ts q.i).k = 1) (hs : (Sx.tk ts q.i).s = ⟨#[116, 114, 117, 101]⟩)
    (hr : (Sx.stp ts q.i q.n fun n => some (.ok .top (q.i + 1) n)) = some o) : Calls Tryz.prog 138 #[.pointer (some ⟨p, 0, none⟩)] w fun e w' => Dres w0 w p C g cap ts q o e w' := by
  have K0 := show Hid _ from start_any hD
  have HE := show Hid (q.e = 0) from he
  have KI := show Hid (∀ w1, Dw w0 w1 p C g cap ts q → Calls Tryz.prog 61 #[.pointer (some ⟨p, 0, none⟩), .string ⟨#[126]⟩] w1 fun e w' => e = .returned (.bool false) ∧ Below w1.heap.size w1 w') from fun w1 h => is_at h he hnot ⟨#[126]⟩ rfl
  have KJ := show Hid (∀ w1, Dw w0 w1 p C g cap ts q → Calls Tryz.prog 61 #[.pointer (some ⟨p, 0, none⟩), .string ⟨#[40]⟩] w1 fun e w' => e = .returned (.bool false) ∧ Below w1.heap.size w1 w') from fun w1 h => is_at h he hsg ⟨#[40]⟩ rfl
  rcases Sx.stp_cases hr with ⟨_, ho⟩ | ⟨hu, hk2⟩
  · exact absurd ho (h40 _)
  have ho : Sx.Out.ok .top (q.i + 1) (Sx.up ts q.i q.n) = o := Option.some.inj hk2
  subst ho
  have HI := show Hid (q.i ≤ ts.length ∧ Sx.up ts q.i q.n ≤ 512) from ⟨hq, hu⟩
  clear hD hr h40 hnot hsg hk2 hu hq
  generalize htk : Sx.tk ts q.i = t at *
  have HTK := show Hid (Sx.tk ts q.i = t) from htk
  clear htk
  obtain ⟨tk, tx, tn, tl, tc, to⟩ := t
  unfold tnV at K0
  simp only at K0 hk hs
  subst hk
  subst hs
  go_enter Tryz.func138, Tryz.ntmps138
  go_wp2_with fail
  refine (show Calls _ _ _ _ _ from K0.out).mono ?_
  rintro e w1 ⟨rfl, hg1⟩
  have G1 := show Hid _ from hg1
  have c6 := hg1.d.pb.c6
  rw [he] at c6
  clear hg1 K0
  go_wp2_with fail
  refine (KI.out _ G1.out.d).mono ?_
  rintro e w2 ⟨rfl, hb2⟩
  have G2 := show Hid _ from G1.out.later hb2
  clear hb2 G1 c6 KI
  go_wp2_with fail
  refine (KJ.out _ G2.out.d).mono ?_
  rintro e w3 ⟨rfl, hb3⟩
  have G3 := show Hid _ from G2.out.later hb3
  have b0 := G3.out.b.c0; have b1 := G3.out.b.c1
  simp only at b0 b1
  clear hb3 G2 KJ
  go_wp2_with fail
  refine (dtake_any _ G3.out.d HE.out HI.out.1 HI.out.2).mono ?_
  rintro e w5 ⟨rfl, hD5, hT5⟩
  have G5 := show Hid (Sg w0 w w5 p C g cap w1.heap.size ts (q.to (q.i + 1) (Sx.up ts q.i q.n) (q.t, q.fl)) ⟨1, ⟨#[116, 114, 117, 101]⟩, tn, tl, tc, to⟩) from G3.out.next hD5 hT5
  clear hD5 hT5
  go_wp2_with fail
  refine (show Calls Tryz.prog 95 #[.pointer (some ⟨p, 0, none⟩), .agg #[.int .i64 2, .string ⟨#[]⟩, .int .i64 0, .int .i64 0]] _ _ from putn_ok G5.out.d HE.out Fm.bot Fm.good_bot).mono ?_
  rintro e w6 ⟨rfl, hD6, hT6⟩
  have X6 := show Hid (Fm.i64 (Dp.sput (q.t, q.fl) Fm.bot).1 ∧ Dw w0 w6 p C g cap ts (q.to (q.i + 1) (Sx.up ts q.i q.n) (Dp.sput (q.t, q.fl) Fm.bot).2) ∧ Tf w w6) from ⟨(Dp.sput_gd G5.out.d.ok Fm.good_bot).2, hD6, G5.out.f.trans hT6⟩
  clear hD6 hT6
  simp only [Ds.to]
  go_wp2_with fail
  refine (two_ok X6.out.2.1 HE.out 5 (Dp.sput (q.t, q.fl) Fm.bot).1 (Dp.sput (q.t, q.fl) Fm.bot).1 (Dp.i64_k (by omega)) X6.out.1 X6.out.1).mono ?_
  rintro e w7 ⟨rfl, hD7, hT7⟩
  have X7 := show Hid (Fm.i64 (Dp.str .top (q.t, q.fl)).1 ∧ Dw w0 w7 p C g cap ts (q.to (q.i + 1) (Sx.up ts q.i q.n) (Dp.str .top (q.t, q.fl)).2) ∧ Tf w w7) from ⟨(Dp.sput_gd X6.out.2.1.ok (Dp.jn_good (Dp.i64_k (by omega)) X6.out.1 X6.out.1)).2, hD7, X6.out.2.2.trans hT7⟩
  clear hD7 hT7
  go_wp2_with fail
  go_ret
  exact ⟨_, _, rfl, X7.out.1, X7.out.2.1, X7.out.2.2, rfl, rfl⟩
set_option maxRecDepth 100000 in
set_option maxHeartbeats 4000000 in
theorem single_false (w : World) (q : Ds) (o : Sx.Out) (hD : Dw w0 w p C g cap ts q) (he : q.e = 0) (h40 : ∀ x, o ≠ .bad 40 x) (hnot : Sx.sgn (Sx.tk ts q.i) [126] = false) (hsg : Sx.sgn (Sx.tk ts q.i) [40] = false) (hq : q.i ≤ ts.length) (hk : (Sx.tk ts q.i).k = 1) (hs : (Sx.tk ts q.i).s = ⟨#[102, 97, 108, 115, 101]⟩)
    (hr : (Sx.stp ts q.i q.n fun n => some (.ok .bot (q.i + 1) n)) = some o) : Calls Tryz.prog 138 #[.pointer (some ⟨p, 0, none⟩)] w fun e w' => Dres w0 w p C g cap ts q o e w' := by
  have K0 := show Hid _ from start_any hD
  have HE := show Hid (q.e = 0) from he
  have KI := show Hid (∀ w1, Dw w0 w1 p C g cap ts q → Calls Tryz.prog 61 #[.pointer (some ⟨p, 0, none⟩), .string ⟨#[126]⟩] w1 fun e w' => e = .returned (.bool false) ∧ Below w1.heap.size w1 w') from fun w1 h => is_at h he hnot ⟨#[126]⟩ rfl
  have KJ := show Hid (∀ w1, Dw w0 w1 p C g cap ts q → Calls Tryz.prog 61 #[.pointer (some ⟨p, 0, none⟩), .string ⟨#[40]⟩] w1 fun e w' => e = .returned (.bool false) ∧ Below w1.heap.size w1 w') from fun w1 h => is_at h he hsg ⟨#[40]⟩ rfl
  rcases Sx.stp_cases hr with ⟨_, ho⟩ | ⟨hu, hk2⟩
  · exact absurd ho (h40 _)
  have ho : Sx.Out.ok .bot (q.i + 1) (Sx.up ts q.i q.n) = o := Option.some.inj hk2
  subst ho
  have HI := show Hid (q.i ≤ ts.length ∧ Sx.up ts q.i q.n ≤ 512) from ⟨hq, hu⟩
  clear hD hr h40 hnot hsg hk2 hu hq
  generalize htk : Sx.tk ts q.i = t at *
  have HTK := show Hid (Sx.tk ts q.i = t) from htk
  clear htk
  obtain ⟨tk, tx, tn, tl, tc, to⟩ := t
  unfold tnV at K0
  simp only at K0 hk hs
  subst hk
  subst hs
  go_enter Tryz.func138, Tryz.ntmps138
  go_wp2_with fail
  refine (show Calls _ _ _ _ _ from K0.out).mono ?_
  rintro e w1 ⟨rfl, hg1⟩
  have G1 := show Hid _ from hg1
  have c6 := hg1.d.pb.c6
  rw [he] at c6
  clear hg1 K0
  go_wp2_with fail
  refine (KI.out _ G1.out.d).mono ?_
  rintro e w2 ⟨rfl, hb2⟩
  have G2 := show Hid _ from G1.out.later hb2
  clear hb2 G1 c6 KI
  go_wp2_with fail
  refine (KJ.out _ G2.out.d).mono ?_
  rintro e w3 ⟨rfl, hb3⟩
  have G3 := show Hid _ from G2.out.later hb3
  have b0 := G3.out.b.c0; have b1 := G3.out.b.c1
  simp only at b0 b1
  clear hb3 G2 KJ
  go_wp2_with fail
  refine (dtake_any _ G3.out.d HE.out HI.out.1 HI.out.2).mono ?_
  rintro e w5 ⟨rfl, hD5, hT5⟩
  have G5 := show Hid (Sg w0 w w5 p C g cap w1.heap.size ts (q.to (q.i + 1) (Sx.up ts q.i q.n) (q.t, q.fl)) ⟨1, ⟨#[102, 97, 108, 115, 101]⟩, tn, tl, tc, to⟩) from G3.out.next hD5 hT5
  clear hD5 hT5
  go_wp2_with fail
  refine (show Calls Tryz.prog 95 #[.pointer (some ⟨p, 0, none⟩), .agg #[.int .i64 2, .string ⟨#[]⟩, .int .i64 0, .int .i64 0]] _ _ from putn_ok G5.out.d HE.out Fm.bot Fm.good_bot).mono ?_
  rintro e w6 ⟨rfl, hD6, hT6⟩
  have X6 := show Hid (Fm.i64 (Dp.sput (q.t, q.fl) Fm.bot).1 ∧ Dw w0 w6 p C g cap ts (q.to (q.i + 1) (Sx.up ts q.i q.n) (Dp.sput (q.t, q.fl) Fm.bot).2) ∧ Tf w w6) from ⟨(Dp.sput_gd G5.out.d.ok Fm.good_bot).2, hD6, G5.out.f.trans hT6⟩
  clear hD6 hT6
  simp only [Ds.to]
  go_wp2_with fail
  go_ret
  exact ⟨_, _, rfl, X6.out.1, X6.out.2.1, X6.out.2.2, rfl, rfl⟩
set_option maxRecDepth 100000 in
set_option maxHeartbeats 4000000 in
theorem single_word (w : World) (q : Ds) (o : Sx.Out) (hD : Dw w0 w p C g cap ts q) (he : q.e = 0) (h40 : ∀ x, o ≠ .bad 40 x) (hnot : Sx.sgn (Sx.tk ts q.i) [126] = false) (hsg : Sx.sgn (Sx.tk ts q.i) [40] = false) (hq : q.i ≤ ts.length) (hk : (Sx.tk ts q.i).k = 1) (hz : (Sx.tk ts q.i).s.size ≤ 140737488351232) (hn1 : (Sx.tk ts q.i).s ≠ ⟨#[116, 114, 117, 101]⟩) (hn2 : (Sx.tk ts q.i).s ≠ ⟨#[102, 97, 108, 115, 101]⟩) (hw : Fm.word (Sx.tk ts q.i).s.data.toList = true)
    (hr : (Sx.stp ts q.i q.n fun n => some (.ok (.atom (Sx.tk ts q.i).s) (q.i + 1) n)) = some o) : Calls Tryz.prog 138 #[.pointer (some ⟨p, 0, none⟩)] w fun e w' => Dres w0 w p C g cap ts q o e w' := by
  have K0 := show Hid _ from start_any hD
  have HE := show Hid (q.e = 0) from he
  have KI := show Hid (∀ w1, Dw w0 w1 p C g cap ts q → Calls Tryz.prog 61 #[.pointer (some ⟨p, 0, none⟩), .string ⟨#[126]⟩] w1 fun e w' => e = .returned (.bool false) ∧ Below w1.heap.size w1 w') from fun w1 h => is_at h he hnot ⟨#[126]⟩ rfl
  have KJ := show Hid (∀ w1, Dw w0 w1 p C g cap ts q → Calls Tryz.prog 61 #[.pointer (some ⟨p, 0, none⟩), .string ⟨#[40]⟩] w1 fun e w' => e = .returned (.bool false) ∧ Below w1.heap.size w1 w') from fun w1 h => is_at h he hsg ⟨#[40]⟩ rfl
  rcases Sx.stp_cases hr with ⟨_, ho⟩ | ⟨hu, hk2⟩
  · exact absurd ho (h40 _)
  have ho : Sx.Out.ok (.atom (Sx.tk ts q.i).s) (q.i + 1) (Sx.up ts q.i q.n) = o := Option.some.inj hk2
  subst ho
  have HI := show Hid (q.i ≤ ts.length ∧ Sx.up ts q.i q.n ≤ 512) from ⟨hq, hu⟩
  have KW := show Hid (∀ w1, Calls Tryz.prog 99 #[.string (Sx.tk ts q.i).s] w1 fun e w' => e = .returned (.bool (Fm.word (Sx.tk ts q.i).s.data.toList)) ∧ Below w1.heap.size w1 w') from fun w1 => rword_any w1 _ hz
  rw [hw] at KW
  have HG := show Hid (Fm.good ⟨1, (Sx.tk ts q.i).s, 0, 0⟩) from Dp.atom_good hw
  clear hD hr h40 hnot hsg hk2 hu hq hw hz
  generalize htk : Sx.tk ts q.i = t at *
  have HTK := show Hid (Sx.tk ts q.i = t) from htk
  clear htk
  obtain ⟨tk, tx, tn, tl, tc, to⟩ := t
  unfold tnV at K0
  simp only at K0 hk hn1 hn2 KW HG
  subst hk
  have hm1 : (tx.toList == [116, 114, 117, 101]) = false := name_ne hn1
  have hm2 : (tx.toList == [102, 97, 108, 115, 101]) = false := name_ne hn2
  clear hn1 hn2
  go_enter Tryz.func138, Tryz.ntmps138
  go_wp2_with fail
  refine (show Calls _ _ _ _ _ from K0.out).mono ?_
  rintro e w1 ⟨rfl, hg1⟩
  have G1 := show Hid _ from hg1
  have c6 := hg1.d.pb.c6
  rw [he] at c6
  clear hg1 K0
  go_wp2_with fail
  refine (KI.out _ G1.out.d).mono ?_
  rintro e w2 ⟨rfl, hb2⟩
  have G2 := show Hid _ from G1.out.later hb2
  clear hb2 G1 c6 KI
  go_wp2_with fail
  refine (KJ.out _ G2.out.d).mono ?_
  rintro e w3 ⟨rfl, hb3⟩
  have G3 := show Hid _ from G2.out.later hb3
  have b0 := G3.out.b.c0; have b1 := G3.out.b.c1
  simp only at b0 b1
  clear hb3 G2 KJ
  go_wp2_with fail
  refine (KW.out _).mono ?_
  rintro e w4 ⟨rfl, hb4⟩
  have G4 := show Hid _ from G3.out.later hb4
  clear hb4 KW
  go_wp2_with fail
  refine (dtake_any _ G4.out.d HE.out HI.out.1 HI.out.2).mono ?_
  rintro e w5 ⟨rfl, hD5, hT5⟩
  have G5 := show Hid (Sg w0 w w5 p C g cap w1.heap.size ts (q.to (q.i + 1) (Sx.up ts q.i q.n) (q.t, q.fl)) ⟨1, tx, tn, tl, tc, to⟩) from G4.out.next hD5 hT5
  clear hD5 hT5
  have d1 := G5.out.b.c1
  simp only at d1
  go_wp2_with fail
  refine (show Calls Tryz.prog 95 #[.pointer (some ⟨p, 0, none⟩), .agg #[.int .i64 1, .string tx, .int .i64 0, .int .i64 0]] _ _ from putn_ok G5.out.d HE.out ⟨1, tx, 0, 0⟩ HG.out).mono ?_
  rintro e w6 ⟨rfl, hD6, hT6⟩
  have X6 := show Hid (Fm.i64 (Dp.str (.atom tx) (q.t, q.fl)).1 ∧ Dw w0 w6 p C g cap ts (q.to (q.i + 1) (Sx.up ts q.i q.n) (Dp.str (.atom tx) (q.t, q.fl)).2) ∧ Tf w w6) from ⟨(Dp.sput_gd G5.out.d.ok HG.out).2, hD6, G5.out.f.trans hT6⟩
  clear hD6 hT6
  go_wp2_with fail
  go_ret
  exact ⟨_, _, rfl, X6.out.1, X6.out.2.1, X6.out.2.2, by first | rfl | (rw [HTK.out]; rfl), by first | rfl | (rw [HTK.out])⟩
theorem dsingle (f : Nat) (hz : ∀ t ∈ ts, t.s.size ≤ 31) (hs : DCon w0 p C g cap ts 138 .single f) (hf : DCon w0 p C g cap ts 33 .formula f) : DCon w0 p C g cap ts 138 .single (f + 1) := by
  intro w q o hD he hq hn hd hr h40
  have hr' : (if Sx.sgn (Sx.tk ts q.i) [126] then Sx.stp ts q.i q.n fun n => Sx.bnd (Sx.rd ts f .single (q.i + 1) n q.d) fun a i n => some (.ok (.neg a) i n)
    else if Sx.sgn (Sx.tk ts q.i) [40] then (if q.d = 1024 then some (Sx.refuse ts q.i q.n) else Sx.stp ts q.i q.n fun n => Sx.bnd (Sx.rd ts f .formula (q.i + 1) n (q.d + 1)) fun a i n => if Sx.sgn (Sx.tk ts i) [41] then Sx.stp ts i n fun n => some (.ok a (i + 1) n) else some (Sx.refuse ts i n))
    else if (Sx.tk ts q.i).k = 1 then (match Sx.named (Sx.tk ts q.i).s with | none => some (Sx.refuse ts q.i q.n) | some a => Sx.stp ts q.i q.n fun n => some (.ok a (q.i + 1) n)) else some (Sx.refuse ts q.i q.n)) = some o := hr
  clear hr
  cases h1 : Sx.sgn (Sx.tk ts q.i) [126]
  · rw [h1, if_neg (by simp)] at hr'
    cases h2 : Sx.sgn (Sx.tk ts q.i) [40]
    · rw [h2, if_neg (by simp)] at hr'
      by_cases hk : (Sx.tk ts q.i).k = 1
      · rw [if_pos hk] at hr'
        have hsz : (Sx.tk ts q.i).s.size ≤ 140737488351232 := by
          have hlt := Sx.tk_lt (ts := ts) (i := q.i) (by omega)
          rw [tk_get hlt]
          have := hz _ (List.getElem_mem hlt)
          omega
        have hlist : ∀ (s : ByteArray) (l : List UInt8), s.data.toList = l ↔ s = ⟨l.toArray⟩ := fun s l => ⟨fun h => by rw [← h], fun h => by rw [h]⟩
        unfold Sx.named at hr'
        by_cases hF : (Sx.tk ts q.i).s = ⟨#[102, 97, 108, 115, 101]⟩
        · rw [if_pos ((hlist _ _).2 hF)] at hr'
          exact single_false w q o hD he h40 h1 h2 hq hk hF hr'
        · rw [if_neg (fun h => hF ((hlist _ _).1 h))] at hr'
          by_cases hT : (Sx.tk ts q.i).s = ⟨#[116, 114, 117, 101]⟩
          · rw [if_pos ((hlist _ _).2 hT)] at hr'
            exact single_true w q o hD he h40 h1 h2 hq hk hT hr'
          · rw [if_neg (fun h => hT ((hlist _ _).1 h))] at hr'
            cases hw : Fm.word (Sx.tk ts q.i).s.data.toList
            · rw [hw, if_neg (by simp)] at hr'
              exact single_noname w q o hD he h40 h1 h2 hk hsz hT hF hw hr'
            · rw [hw, if_pos rfl] at hr'
              exact single_word w q o hD he h40 h1 h2 hq hk hsz hT hF hw hr'
      · rw [if_neg hk] at hr'
        exact single_else w q o hD he h40 h1 h2 hk hr'
    · rw [h2, if_pos rfl] at hr'
      exact single_paren f hf w q o hD he hn hd h40 h1 h2 hr'
  · rw [h1, if_pos rfl] at hr'
    exact single_not f hs w q o hD he hq hd h40 h1 hr'
theorem dzero (F : Nat) (lv : Lv) : DCon w0 p C g cap ts F lv 0 := fun w q o _ _ _ _ _ hr _ => absurd hr (by simp [Sx.rd])
/-- All of the parser's calls, by the fuel of reading. -/
theorem dall (hz : ∀ t ∈ ts, t.s.size ≤ 31) : ∀ f : Nat, (DCon w0 p C g cap ts 33 .formula f ∧ DCon w0 p C g cap ts 60 .implied f ∧ DCon w0 p C g cap ts 94 .joined f) ∧ ∀ f' ≤ f, DCon w0 p C g cap ts 124 .both f' ∧ DCon w0 p C g cap ts 138 .single f'
  | 0 => ⟨⟨dzero _ _, dzero _ _, dzero _ _⟩, fun f' h => by obtain rfl : f' = 0 := by omega
                                                            exact ⟨dzero _ _, dzero _ _⟩⟩
  | f + 1 => by
    obtain ⟨⟨h1, h2, h3⟩, h4⟩ := dall hz f
    refine ⟨⟨dformula f h2 h1, dimplied f h3 h2, djoined f fun f' h => (h4 f' h).1⟩, fun f' h => ?_⟩
    by_cases he : f' ≤ f
    · exact h4 f' he
    · obtain rfl : f' = f + 1 := by omega
      exact ⟨dboth f fun f' h => (h4 f' h).2, dsingle f hz (h4 f (Nat.le_refl _)).2 h1⟩
end
end Go.Proofs.YtcidldgenogdkaaGreatDoor
