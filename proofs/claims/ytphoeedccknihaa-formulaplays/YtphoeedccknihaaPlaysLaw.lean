/-
  The law FormulaPlays, as the program walks it: true for every slice of rows and every row of actions that a machine can hold.
-/
import Derived.Test.YtphoeedccknihaaLAsk
import Derived.Test.YtphoeedccknihaaFromLaw
import Derived.Deep.RegionHeld3
namespace Go.Proofs.Ytphoeedccknihaa
open Go.RowKit Go.Maps
open Fm (Nd)

theorem pair_new {w w3 : World} {B M : Nat} (hT : Tb w3 B M (.slice none 0 0) []) (hf : ∀ k, Ft B M (.slice none 0 0) k → w.heap.size ≤ k) (hb : Below w.heap.size w w3) :
    Pair w (w3.alloc (Obj.cells #[.slice none 0 0] 30)) B M (.slice none 0 0) w3.heap.size (.slice none 0 0) [] [] :=
  ⟨hT.later (below_alloc _ _), ⟨heap_alloc_new _ _, rw_nil _, Fm.ok_nil⟩, fun k hk => by simp [Value.ownBlock] at hk, hf, fun k hk => by
    rcases hk with rfl | hk
    · exact hb.size
    · simp [Value.ownBlock] at hk, hb.trans ((below_alloc w3 _).mono hb.size)⟩
set_option maxRecDepth 100000 in
set_option maxHeartbeats 16000000 in
theorem formulaPlays_any (w : World) (rv : Value) (rs : List Nd) (hR : IsR w rv rs) (hg : ∀ n ∈ rs, Fm.good n) (hl : rs.length * 40 ≤ 140737488351232) (hv : rv = .slice none 0 0 ∨ ∃ a n c, rv = .slice (some a) n c) (sv : Value) (ps : List Ac) (hA : IsA w sv ps) (hX : ∀ x ∈ ps, goodA x) :
    Calls Try.prog 3 #[rv, sv] w fun e w' => e = .returned (.bool true) ∧ Below w.heap.size w w' := by
  have KH := show Hid (∀ w' : World, Calls Try.prog 15 #[] w' fun e w'' => e = .returned (.bool true) ∧ Below w'.heap.size w' w'') from fun w' => heads_any w'
  have KL := show Hid (∀ (w' : World) (b m c : Nat) (v u : Value) (t : List Nd), Pair w w' b m v c u t t → Calls Try.prog 14 #[.pointer (some ⟨b, 0, none⟩), .pointer (some ⟨c, 0, none⟩)] w' fun e w'' => e = .returned (.bool true) ∧ Below w'.heap.size w' w'') from fun w' b m c v u t h => like_any w w' h
  have KB := show Hid (Calls Try.prog 8 #[rv] w fun e w' => IsBoth w w' e (Fm.fr [] rs)) from both_any w rv rs hR hg hl hv
  have KN := show Hid (∀ w' : World, Calls Try.prog 9 #[] w' fun e w'' => e = .returned (.pointer (some ⟨w'.heap.size + 1, 0, none⟩)) ∧ Tb w'' (w'.heap.size + 1) w'.heap.size (.slice none 0 0) [] ∧ Below w'.heap.size w' w'') from fun w' => new_any w'
  obtain ⟨sp, sc, rfl, hc1, hc2, hA⟩ := hA
  have HA := show Hid (0 < ps.length → ∃ b o, sp = some ⟨b, o, none⟩ ∧ ∀ k (hk : k < ps.length), At8 w b (o + k * 8) ps[k]) from hA
  have HX := show Hid (∀ x ∈ ps, goodA x) from hX
  generalize Fm.fr [] rs = ans at *
  have hrv : ∃ p l c, rv = .slice p l c := by rcases hv with rfl | ⟨a, n, c, rfl⟩ <;> exact ⟨_, _, _, rfl⟩
  obtain ⟨rp, rl, rc, rfl⟩ := hrv
  clear hR hg hl hv hA hX
  go_enter Try.func3, Try.ntmps3
  go_wp2_with fail
  refine KB.out.mono ?_
  rintro e w1 hB
  rcases hB with ⟨-, B, M, v, C, u, rfl, hp⟩ | ⟨-, rfl, hb⟩
  · have HP := show Hid (Pair w w1 B M v C u ans.2 ans.2) from hp
    clear hp KB KN
    go_wp2_with fail
    go_loopw [8] (fun i wr => ∃ k : Nat, k ≤ ps.length ∧ i = .int .i64 (k : Int) ∧ Hid (∃ v u t, Pair w wr B M v C u t t)) (fun i _ => ps.length - (intOf i).toNat)
    case atStart => exact ⟨0, by omega, rfl, _, _, _, HP.out⟩
    case round =>
      obtain ⟨k, hk, rfl, HI⟩ := hrel
      clear HP
      by_cases hlt : k < ps.length
      · obtain ⟨sb, so, hsp, hS⟩ := HA.out (by omega)
        have hX := HX.out _ (List.getElem_mem hlt)
        have HS := show Hid (∀ wx, (∃ v u t, Pair w wx B M v C u t t) → At8 wx sb (so + k * 8) ps[k]) from fun wx ⟨_, _, _, hp⟩ => (hS k hlt).keep hp.bel
        have KP := show Hid (∀ wx, (∃ v u t, Pair w wx B M v C u t t) → Calls Try.prog 10 #[.pointer (some ⟨B, 0, none⟩), .pointer (some ⟨C, 0, none⟩), .agg #[.int .i64 ps[k].k, .string ps[k].s, .int .i64 ps[k].a, .int .i64 ps[k].b, .int .i64 ps[k].n.k, .string ps[k].n.s, .int .i64 ps[k].n.l, .int .i64 ps[k].n.r]] wx fun e w' => e = .returned (.bool true) ∧ ∃ v u t, Pair w w' B M v C u t t) from fun wx ⟨_, _, _, hp⟩ => (play_any w wx hp ps[k] hX).mono fun e w' ⟨q, he, hq, v', u', h'⟩ => by
          have := hq rfl
          subst this
          exact ⟨he, v', u', _, h'⟩
        have KA := show Hid (∀ wx, (∃ v u t, Pair w wx B M v C u t t) → Calls Try.prog 11 #[.pointer (some ⟨B, 0, none⟩), .pointer (some ⟨C, 0, none⟩), .int .i64 ps[k].b, .agg #[.int .i64 ps[k].n.k, .string ps[k].n.s, .int .i64 ps[k].n.l, .int .i64 ps[k].n.r]] wx fun e w' => e = .returned (.bool true) ∧ ∃ v u t, Pair w w' B M v C u t t) from fun wx ⟨v', u', t', hp⟩ => (asks_any w wx hp ps[k].b ps[k].n hX.2.2.2.2).mono fun e w' ⟨he, hb⟩ => ⟨he, v', u', t', hp.later hb⟩
        have HI0 := show Hid (∃ v u t, Pair w wr.drew B M v C u t t) from by
          obtain ⟨v', u', t', hp⟩ := HI.out
          exact ⟨v', u', t', hp.later (Below.refl _ wr).drew⟩
        have a0 := (HS.out wr HI.out).c0; have a1 := (HS.out wr HI.out).c1; have a2 := (HS.out wr HI.out).c2; have a3 := (HS.out wr HI.out).c3; have a4 := (HS.out wr HI.out).c4; have a5 := (HS.out wr HI.out).c5; have a6 := (HS.out wr HI.out).c6; have a7 := (HS.out wr HI.out).c7
        have hki : (k : Int) < (ps.length : Int) := by omega
        have HC8 := show Hid (∀ wx, (∃ v u t, Pair w wx B M v C u t t) → wx.cell? ⟨sb, so + k * 8, none⟩ = some (.int .i64 ps[k].k) ∧ wx.cell? ⟨sb, so + k * 8 + 1, none⟩ = some (.string ps[k].s) ∧ wx.cell? ⟨sb, so + k * 8 + 2, none⟩ = some (.int .i64 ps[k].a) ∧ wx.cell? ⟨sb, so + k * 8 + 3, none⟩ = some (.int .i64 ps[k].b) ∧ wx.cell? ⟨sb, so + k * 8 + 4, none⟩ = some (.int .i64 ps[k].n.k) ∧ wx.cell? ⟨sb, so + k * 8 + 5, none⟩ = some (.string ps[k].n.s) ∧ wx.cell? ⟨sb, so + k * 8 + 6, none⟩ = some (.int .i64 ps[k].n.l) ∧ wx.cell? ⟨sb, so + k * 8 + 7, none⟩ = some (.int .i64 ps[k].n.r)) from fun wx h => ⟨(HS.out wx h).c0, (HS.out wx h).c1, (HS.out wx h).c2, (HS.out wx h).c3, (HS.out wx h).c4, (HS.out wx h).c5, (HS.out wx h).c6, (HS.out wx h).c7⟩
        clear hS hX HS
        generalize ps[k] = x at *
        obtain ⟨xk, xs, xa, xb, ⟨yk, ys, yl, yr⟩⟩ := x
        simp only at a0 a1 a2 a3 a4 a5 a6 a7 KP KA HC8
        subst hsp
        go_wp2_with fail
        go_region_held3 (fun wx => wx.cell? ⟨sb, so + k * 8, none⟩ = some (.int .i64 xk) ∧ wx.cell? ⟨sb, so + k * 8 + 1, none⟩ = some (.string xs) ∧ wx.cell? ⟨sb, so + k * 8 + 2, none⟩ = some (.int .i64 xa) ∧ wx.cell? ⟨sb, so + k * 8 + 3, none⟩ = some (.int .i64 xb) ∧ wx.cell? ⟨sb, so + k * 8 + 4, none⟩ = some (.int .i64 yk) ∧ wx.cell? ⟨sb, so + k * 8 + 5, none⟩ = some (.string ys) ∧ wx.cell? ⟨sb, so + k * 8 + 6, none⟩ = some (.int .i64 yl) ∧ wx.cell? ⟨sb, so + k * 8 + 7, none⟩ = some (.int .i64 yr)) (first | exact HC8.out _ HI0.out | exact HC8.out _ (by assumption)) (first | (go_at_call 10; refine (KP.out _ HI0.out).mono ?_; rintro e w2 ⟨rfl, hp2⟩) | (go_at_call 11; refine (KA.out _ hp2).mono ?_; rintro e w3 ⟨rfl, hp3⟩))
        have HI3 := show Hid (∃ v u t, Pair w w3 B M v C u t t) from hp3
        clear hp2 hp3 a0 a1 a2 a3 a4 a5 a6 a7 KP KA HC8 HI0 HA
        go_wp2_with fail
        go_roundw
        case rel => exact ⟨k + 1, by omega, by go_num, HI3.out⟩
        case measure => first | (simp [intOf]; done) | (simp [intOf]; omega)
      · have hki : ¬ (k : Int) < (ps.length : Int) := by omega
        obtain ⟨v3, u3, t, hP⟩ := HI.out
        have KR := show Hid (Calls Try.prog 12 #[.pointer (some ⟨B, 0, none⟩)] wr fun e w' => ∃ v', e = .returned v' ∧ Fresh wr w' v' t) from rows_any wr hP.tb
        have HP := show Hid (Pair w wr B M v3 C u3 t t) from hP
        clear hP HI HA HX
        go_wp2_with fail
        refine KR.out.mono ?_
        rintro e w3 ⟨v', rfl, hF⟩
        obtain ⟨p1, c1, rfl⟩ := hF.1.form
        obtain ⟨pu, cu, rfl⟩ := HP.out.tr.row.form
        have HF := show Hid (Fresh wr w3 (.slice p1 t.length c1) t) from hF
        have HP3 := show Hid (Pair w w3 B M v3 C (.slice pu t.length cu) t t) from HP.out.later hF.2.2
        have c0 := HP3.out.tr.c0
        have KS := show Hid (Calls Try.prog 13 #[.slice p1 t.length c1, .slice pu t.length cu] w3 fun e w'' => e = .returned (.bool true) ∧ ∃ n, w'' = w3.drewN n) from (same_any w3 _ _ t t hF.1.isR HP3.out.tr.row.isR HP3.out.tb.ok.gd HP3.out.tb.ok.gd).mono fun e w'' ⟨he, hn⟩ => ⟨by rw [he, decide_eq_true rfl], hn⟩
        clear hF KR
        go_wp2_with fail
        refine KS.out.mono ?_
        rintro e w4 ⟨rfl, n4, hw4⟩
        have HP4 := show Hid (Pair w w4 B M v3 C (.slice pu t.length cu) t t) from HP3.out.later (by rw [hw4]; exact below_drewN (Below.refl _ _) n4)
        have HF4 := show Hid (Rw w4 (.slice p1 t.length c1) t) from HF.out.1.keep fun k _ => by rw [hw4]; rfl
        have HG4 := show Hid (∀ k, (Value.slice p1 t.length c1).ownBlock = some k → w.heap.size ≤ k ∧ ¬ (Ft B M v3 k ∨ Fr C (.slice pu t.length cu) k)) from fun k hk => ⟨Nat.le_trans HP.out.bel.size (HF.out.2.1 k hk), fun e => by
          have h1 := HF.out.2.1 k hk
          rcases e with e | e
          · have := HP.out.tb.foot k e; omega
          · have := HP.out.tr.foot k e; omega⟩
        have HH3 := show Hid (0 < t.length → ∃ g, p1 = some ⟨g, 0, none⟩ ∧ Has4 w4 g t.length) from fun h0 => rw_has4 HF4.out h0
        have HTL := show Hid (t.length ≤ 1024) from HP.out.tb.ok.len
        clear HF HP HP3 KS hw4 c0 HF4
        go_wp2_with fail
        go_loopw [11] (fun i wy => ∃ k : Nat, k ≤ t.length ∧ i = .int .i64 (k : Int) ∧ Hid (Kp (fun k => (Value.slice p1 t.length c1).ownBlock = some k) w4 wy) ∧ Hid (0 < t.length → ∃ g, p1 = some ⟨g, 0, none⟩ ∧ Has4 wy g t.length)) (fun i _ => t.length - (intOf i).toNat)
        case atStart => exact ⟨0, by omega, rfl, Kp.refl _ _, HH3.out⟩
        case round =>
          obtain ⟨k, hk, rfl, HK, HH⟩ := hrel
          clear HH3
          by_cases hlt : k < t.length
          · obtain ⟨g, hp, hh⟩ := HH.out (by omega)
            have HGB := show Hid ((Value.slice p1 t.length c1).ownBlock = some g) from by rw [hp]; rfl
            obtain ⟨x0, hx0⟩ := hh.cell (j := k * 4) (by omega)
            have hfr := hh.fr
            have HG5 := show Hid (Has4 wr g t.length) from hh
            have hki : (k : Int) < (t.length : Int) := by omega
            have htl := HTL.out
            clear hh HH
            subst hp
            go_wp2_with fail
            go_roundw
            case rel => exact ⟨k + 1, by omega, by go_num, HK.out.trans (S' := fun k => k = g) (kp_set (Kp.refl _ wr) _ _) (fun i hi => Or.inl (by rw [HGB.out, hi])), fun _ => ⟨g, rfl, HG5.out.set _ _⟩⟩
            case measure => first | (simp [intOf]; done) | (simp [intOf]; omega)
          · have hki : ¬ (k : Int) < (t.length : Int) := by omega
            have HBW := show Hid (Below w.heap.size w wr) from HP4.out.bel.trans (HK.out.below HP4.out.bel.size fun k hk => (HG4.out k hk).1)
            have HPW := show Hid (Pair w wr B M v3 C (.slice pu t.length cu) t t) from HP4.out.kept (fun k hk => HK.out.block k (by
              rcases hk with h | h
              · exact HP4.out.tb.foot k h
              · exact HP4.out.tr.foot k h) (fun e => (HG4.out k e).2 hk)) HBW.out
            go_wp2_with fail
            refine (KL.out _ _ _ _ _ _ _ HPW.out).mono ?_
            rintro e w5 ⟨rfl, hb5⟩
            have HB5 := show Hid (Below w.heap.size w w5) from HBW.out.trans (hb5.mono HBW.out.size)
            clear hb5
            go_wp2_with fail
            refine (KH.out _).mono ?_
            rintro e w6 ⟨rfl, hb6⟩
            have HB6 := show Hid (Below w.heap.size w w6) from HB5.out.trans (hb6.mono HB5.out.size)
            clear hb6
            go_wp2_with fail
            go_ret
            exact ⟨rfl, HB6.out⟩
  · have HB1 := show Hid (Below w.heap.size w w1) from hb
    clear hb KB
    go_wp2_with fail
    refine (KN.out _).mono ?_
    rintro e w2 ⟨rfl, hT, hb2⟩
    have HP := show Hid (Pair w (w2.alloc (Obj.cells #[.slice none 0 0] 30)) (w1.heap.size + 1) w1.heap.size (.slice none 0 0) w2.heap.size (.slice none 0 0) [] []) from pair_new hT (by
      have := HB1.out.size
      rintro k (e | e | e)
      · omega
      · omega
      · simp [Value.ownBlock] at e) (HB1.out.trans (hb2.mono HB1.out.size))
    generalize hB : w1.heap.size + 1 = B at *
    generalize hM : w1.heap.size = M at *
    clear hT hb2 KN HB1 hB hM
    go_wp2_with fail
    generalize hC : w2.heap.size = C at *
    clear hC
    generalize w2.alloc (Obj.cells #[.slice none 0 0] 30) = w9 at *
    go_loopw [8] (fun i wr => ∃ k : Nat, k ≤ ps.length ∧ i = .int .i64 (k : Int) ∧ Hid (∃ v u t, Pair w wr B M v C u t t)) (fun i _ => ps.length - (intOf i).toNat)
    case atStart => exact ⟨0, by omega, rfl, _, _, _, HP.out⟩
    case round =>
      obtain ⟨k, hk, rfl, HI⟩ := hrel
      clear HP
      by_cases hlt : k < ps.length
      · obtain ⟨sb, so, hsp, hS⟩ := HA.out (by omega)
        have hX := HX.out _ (List.getElem_mem hlt)
        have HS := show Hid (∀ wx, (∃ v u t, Pair w wx B M v C u t t) → At8 wx sb (so + k * 8) ps[k]) from fun wx ⟨_, _, _, hp⟩ => (hS k hlt).keep hp.bel
        have KP := show Hid (∀ wx, (∃ v u t, Pair w wx B M v C u t t) → Calls Try.prog 10 #[.pointer (some ⟨B, 0, none⟩), .pointer (some ⟨C, 0, none⟩), .agg #[.int .i64 ps[k].k, .string ps[k].s, .int .i64 ps[k].a, .int .i64 ps[k].b, .int .i64 ps[k].n.k, .string ps[k].n.s, .int .i64 ps[k].n.l, .int .i64 ps[k].n.r]] wx fun e w' => e = .returned (.bool true) ∧ ∃ v u t, Pair w w' B M v C u t t) from fun wx ⟨_, _, _, hp⟩ => (play_any w wx hp ps[k] hX).mono fun e w' ⟨q, he, hq, v', u', h'⟩ => by
          have := hq rfl
          subst this
          exact ⟨he, v', u', _, h'⟩
        have KA := show Hid (∀ wx, (∃ v u t, Pair w wx B M v C u t t) → Calls Try.prog 11 #[.pointer (some ⟨B, 0, none⟩), .pointer (some ⟨C, 0, none⟩), .int .i64 ps[k].b, .agg #[.int .i64 ps[k].n.k, .string ps[k].n.s, .int .i64 ps[k].n.l, .int .i64 ps[k].n.r]] wx fun e w' => e = .returned (.bool true) ∧ ∃ v u t, Pair w w' B M v C u t t) from fun wx ⟨v', u', t', hp⟩ => (asks_any w wx hp ps[k].b ps[k].n hX.2.2.2.2).mono fun e w' ⟨he, hb⟩ => ⟨he, v', u', t', hp.later hb⟩
        have HI0 := show Hid (∃ v u t, Pair w wr.drew B M v C u t t) from by
          obtain ⟨v', u', t', hp⟩ := HI.out
          exact ⟨v', u', t', hp.later (Below.refl _ wr).drew⟩
        have a0 := (HS.out wr HI.out).c0; have a1 := (HS.out wr HI.out).c1; have a2 := (HS.out wr HI.out).c2; have a3 := (HS.out wr HI.out).c3; have a4 := (HS.out wr HI.out).c4; have a5 := (HS.out wr HI.out).c5; have a6 := (HS.out wr HI.out).c6; have a7 := (HS.out wr HI.out).c7
        have hki : (k : Int) < (ps.length : Int) := by omega
        have HC8 := show Hid (∀ wx, (∃ v u t, Pair w wx B M v C u t t) → wx.cell? ⟨sb, so + k * 8, none⟩ = some (.int .i64 ps[k].k) ∧ wx.cell? ⟨sb, so + k * 8 + 1, none⟩ = some (.string ps[k].s) ∧ wx.cell? ⟨sb, so + k * 8 + 2, none⟩ = some (.int .i64 ps[k].a) ∧ wx.cell? ⟨sb, so + k * 8 + 3, none⟩ = some (.int .i64 ps[k].b) ∧ wx.cell? ⟨sb, so + k * 8 + 4, none⟩ = some (.int .i64 ps[k].n.k) ∧ wx.cell? ⟨sb, so + k * 8 + 5, none⟩ = some (.string ps[k].n.s) ∧ wx.cell? ⟨sb, so + k * 8 + 6, none⟩ = some (.int .i64 ps[k].n.l) ∧ wx.cell? ⟨sb, so + k * 8 + 7, none⟩ = some (.int .i64 ps[k].n.r)) from fun wx h => ⟨(HS.out wx h).c0, (HS.out wx h).c1, (HS.out wx h).c2, (HS.out wx h).c3, (HS.out wx h).c4, (HS.out wx h).c5, (HS.out wx h).c6, (HS.out wx h).c7⟩
        clear hS hX HS
        generalize ps[k] = x at *
        obtain ⟨xk, xs, xa, xb, ⟨yk, ys, yl, yr⟩⟩ := x
        simp only at a0 a1 a2 a3 a4 a5 a6 a7 KP KA HC8
        subst hsp
        go_wp2_with fail
        go_region_held3 (fun wx => wx.cell? ⟨sb, so + k * 8, none⟩ = some (.int .i64 xk) ∧ wx.cell? ⟨sb, so + k * 8 + 1, none⟩ = some (.string xs) ∧ wx.cell? ⟨sb, so + k * 8 + 2, none⟩ = some (.int .i64 xa) ∧ wx.cell? ⟨sb, so + k * 8 + 3, none⟩ = some (.int .i64 xb) ∧ wx.cell? ⟨sb, so + k * 8 + 4, none⟩ = some (.int .i64 yk) ∧ wx.cell? ⟨sb, so + k * 8 + 5, none⟩ = some (.string ys) ∧ wx.cell? ⟨sb, so + k * 8 + 6, none⟩ = some (.int .i64 yl) ∧ wx.cell? ⟨sb, so + k * 8 + 7, none⟩ = some (.int .i64 yr)) (first | exact HC8.out _ HI0.out | exact HC8.out _ (by assumption)) (first | (go_at_call 10; refine (KP.out _ HI0.out).mono ?_; rintro e w2 ⟨rfl, hp2⟩) | (go_at_call 11; refine (KA.out _ hp2).mono ?_; rintro e w3 ⟨rfl, hp3⟩))
        have HI3 := show Hid (∃ v u t, Pair w w3 B M v C u t t) from hp3
        clear hp2 hp3 a0 a1 a2 a3 a4 a5 a6 a7 KP KA HC8 HI0 HA
        go_wp2_with fail
        go_roundw
        case rel => exact ⟨k + 1, by omega, by go_num, HI3.out⟩
        case measure => first | (simp [intOf]; done) | (simp [intOf]; omega)
      · have hki : ¬ (k : Int) < (ps.length : Int) := by omega
        obtain ⟨v3, u3, t, hP⟩ := HI.out
        have KR := show Hid (Calls Try.prog 12 #[.pointer (some ⟨B, 0, none⟩)] wr fun e w' => ∃ v', e = .returned v' ∧ Fresh wr w' v' t) from rows_any wr hP.tb
        have HP := show Hid (Pair w wr B M v3 C u3 t t) from hP
        clear hP HI HA HX
        go_wp2_with fail
        refine KR.out.mono ?_
        rintro e w3 ⟨v', rfl, hF⟩
        obtain ⟨p1, c1, rfl⟩ := hF.1.form
        obtain ⟨pu, cu, rfl⟩ := HP.out.tr.row.form
        have HF := show Hid (Fresh wr w3 (.slice p1 t.length c1) t) from hF
        have HP3 := show Hid (Pair w w3 B M v3 C (.slice pu t.length cu) t t) from HP.out.later hF.2.2
        have c0 := HP3.out.tr.c0
        have KS := show Hid (Calls Try.prog 13 #[.slice p1 t.length c1, .slice pu t.length cu] w3 fun e w'' => e = .returned (.bool true) ∧ ∃ n, w'' = w3.drewN n) from (same_any w3 _ _ t t hF.1.isR HP3.out.tr.row.isR HP3.out.tb.ok.gd HP3.out.tb.ok.gd).mono fun e w'' ⟨he, hn⟩ => ⟨by rw [he, decide_eq_true rfl], hn⟩
        clear hF KR
        go_wp2_with fail
        refine KS.out.mono ?_
        rintro e w4 ⟨rfl, n4, hw4⟩
        have HP4 := show Hid (Pair w w4 B M v3 C (.slice pu t.length cu) t t) from HP3.out.later (by rw [hw4]; exact below_drewN (Below.refl _ _) n4)
        have HF4 := show Hid (Rw w4 (.slice p1 t.length c1) t) from HF.out.1.keep fun k _ => by rw [hw4]; rfl
        have HG4 := show Hid (∀ k, (Value.slice p1 t.length c1).ownBlock = some k → w.heap.size ≤ k ∧ ¬ (Ft B M v3 k ∨ Fr C (.slice pu t.length cu) k)) from fun k hk => ⟨Nat.le_trans HP.out.bel.size (HF.out.2.1 k hk), fun e => by
          have h1 := HF.out.2.1 k hk
          rcases e with e | e
          · have := HP.out.tb.foot k e; omega
          · have := HP.out.tr.foot k e; omega⟩
        have HH3 := show Hid (0 < t.length → ∃ g, p1 = some ⟨g, 0, none⟩ ∧ Has4 w4 g t.length) from fun h0 => rw_has4 HF4.out h0
        have HTL := show Hid (t.length ≤ 1024) from HP.out.tb.ok.len
        clear HF HP HP3 KS hw4 c0 HF4
        go_wp2_with fail
        go_loopw [11] (fun i wy => ∃ k : Nat, k ≤ t.length ∧ i = .int .i64 (k : Int) ∧ Hid (Kp (fun k => (Value.slice p1 t.length c1).ownBlock = some k) w4 wy) ∧ Hid (0 < t.length → ∃ g, p1 = some ⟨g, 0, none⟩ ∧ Has4 wy g t.length)) (fun i _ => t.length - (intOf i).toNat)
        case atStart => exact ⟨0, by omega, rfl, Kp.refl _ _, HH3.out⟩
        case round =>
          obtain ⟨k, hk, rfl, HK, HH⟩ := hrel
          clear HH3
          by_cases hlt : k < t.length
          · obtain ⟨g, hp, hh⟩ := HH.out (by omega)
            have HGB := show Hid ((Value.slice p1 t.length c1).ownBlock = some g) from by rw [hp]; rfl
            obtain ⟨x0, hx0⟩ := hh.cell (j := k * 4) (by omega)
            have hfr := hh.fr
            have HG5 := show Hid (Has4 wr g t.length) from hh
            have hki : (k : Int) < (t.length : Int) := by omega
            have htl := HTL.out
            clear hh HH
            subst hp
            go_wp2_with fail
            go_roundw
            case rel => exact ⟨k + 1, by omega, by go_num, HK.out.trans (S' := fun k => k = g) (kp_set (Kp.refl _ wr) _ _) (fun i hi => Or.inl (by rw [HGB.out, hi])), fun _ => ⟨g, rfl, HG5.out.set _ _⟩⟩
            case measure => first | (simp [intOf]; done) | (simp [intOf]; omega)
          · have hki : ¬ (k : Int) < (t.length : Int) := by omega
            have HBW := show Hid (Below w.heap.size w wr) from HP4.out.bel.trans (HK.out.below HP4.out.bel.size fun k hk => (HG4.out k hk).1)
            have HPW := show Hid (Pair w wr B M v3 C (.slice pu t.length cu) t t) from HP4.out.kept (fun k hk => HK.out.block k (by
              rcases hk with h | h
              · exact HP4.out.tb.foot k h
              · exact HP4.out.tr.foot k h) (fun e => (HG4.out k e).2 hk)) HBW.out
            go_wp2_with fail
            refine (KL.out _ _ _ _ _ _ _ HPW.out).mono ?_
            rintro e w5 ⟨rfl, hb5⟩
            have HB5 := show Hid (Below w.heap.size w w5) from HBW.out.trans (hb5.mono HBW.out.size)
            clear hb5
            go_wp2_with fail
            refine (KH.out _).mono ?_
            rintro e w6 ⟨rfl, hb6⟩
            have HB6 := show Hid (Below w.heap.size w w6) from HB5.out.trans (hb6.mono HB5.out.size)
            clear hb6
            go_wp2_with fail
            go_ret
            exact ⟨rfl, HB6.out⟩
end Go.Proofs.Ytphoeedccknihaa
