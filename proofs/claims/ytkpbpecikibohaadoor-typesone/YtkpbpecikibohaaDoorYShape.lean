/-
  Layer 12's named, shaped and Check, at any term. The table of shapes stands.
-/
import Derived.Test.YtkpbpecikibohaaDoorYLev
import Derived.Test.YtkpbpecikibohaaDoorFWord
import Derived.Test.YtkpbpecikibohaaDoorYArm
namespace Go.Proofs.YtkpbpecikibohaaDoor.Ya
open Go.RowKit Go.Maps
open Fm (Nd)
open Ty (Tm nodesF levF shapedF shapedL fine named parts names)
set_option linter.unusedSimpArgs false

def Shp (w : World) : Prop := ∀ K : Nat, 1 ≤ K → K ≤ 12 → w.cell? ⟨1, K * 3, none⟩ = some (.int .i64 (parts K : Int)) ∧ w.cell? ⟨1, K * 3 + 1, none⟩ = some (.int .i64 (names K : Int)) ∧ w.cell? ⟨1, K * 3 + 2, none⟩ = some (.bool (K == 11))
theorem Shp.lt {w : World} (h : Shp w) : 1 < w.heap.size := World.block_lt_of_cell? w _ (h 1 (by decide) (by decide)).1
theorem Shp.later {w w' : World} (h : Shp w) {L : Nat} (hb : Below L w w') (hl : 1 < L) : Shp w' := fun K h1 h2 => by
  have e : ∀ j, w'.cell? ⟨1, j, none⟩ = w.cell? ⟨1, j, none⟩ := fun j => World.cell?_of_block (a := ⟨_, j, none⟩) (hb.block _ hl)
  obtain ⟨a, b, c⟩ := h K h1 h2
  exact ⟨(e _).trans a, (e _).trans b, (e _).trans c⟩
set_option maxRecDepth 100000 in
theorem named_any (w : World) (s : ByteArray) (hs : s.size ≤ 140737488351232) (y : Bool) :
    Calls Tryd.prog 68 #[.string s, .bool y] w fun e w' => e = .returned (.bool (named s y)) ∧ w' = w := by
  have KW := show Hid (Calls Tryd.prog 63 #[.string s] w fun e w' => e = .returned (.bool (Fm.word s.data.toList)) ∧ w' = w) from word_any w s hs
  cases y
  · have hn : named s false = (s.size == 0) := rfl
    go_enter Tryd.func68, Tryd.ntmps68
    go_wp2_with fail
    go_ret
    refine ⟨ret_bool ?_, rfl⟩
    rw [hn]
    obtain ⟨⟨l⟩⟩ := s
    rw [ByteArray.toList_eq]
    cases l <;> rfl
  · have hn : named s true = Fm.word s.data.toList := rfl
    rw [hn]
    generalize Fm.word s.data.toList = q at *
    go_enter Tryd.func68, Tryd.ntmps68
    go_wp2_with fail
    refine KW.out.mono ?_
    rintro e w1 ⟨rfl, hw⟩
    subst w1
    go_wp2_with fail
    go_ret
    exact ⟨rfl, rfl⟩
theorem shapedF_eq (x : Tm) : shapedF x = (fine x.k x.n x.o x.f x.sub.length && shapedL x.sub) := by cases x; rw [shapedF]; rfl
theorem zeroShape (w : World) : (zeroValue 127).run Tryd.prog w = .ok (.agg #[.int .i64 0, .int .i64 0, .bool false]) w := by kernel_rfl
theorem sizeShape : (Tryd.prog.info? 127).map (·.size) = some 3 := by kernel_rfl
theorem shape_all (x y : Int) (z : Bool) : (#[.int .i64 x, .int .i64 y, .bool z] : Array Value).all (·.oneCell') = true := by simp [Value.oneCell']
set_option maxRecDepth 100000 in
set_option maxHeartbeats 4000000 in
theorem shaped_any : ∀ (sz : Nat) (x : Tm), x.rk < sz → ∀ (w : World) (L : Nat) (sv : Value), Kid w L x sv → Gt x → L ≤ w.heap.size → Shp w →
    Calls Tryd.prog 51 #[tmV x sv] w fun e w' => e = .returned (.bool (shapedF x)) ∧ Below w.heap.size w w'
  | 0, _, h, _, _, _, _, _, _, _ => absurd h (Nat.not_lt_zero _)
  | sz + 1, x, hsz, w, L, sv, hK, hG, hL, hS => by
    have KC := show Hid (∀ y ∈ x.sub, ∀ (W : World) (kv : Value), Kid W L y kv → L ≤ W.heap.size → Shp W → Calls Tryd.prog 51 #[tmV y kv] W fun e w' => e = .returned (.bool (shapedF y)) ∧ Below W.heap.size W w') from
      fun y hy W kv hk hl hs => shaped_any sz y (by have := Ty.rk_sub hy; omega) W L kv hk (hG.sub.2 y hy) hl hs
    have HS := show Hid (∀ W : World, Below w.heap.size w W → Shp W) from fun W hb => hS.later hb hS.lt
    obtain ⟨p, c, rfl, hat⟩ := hK.subs
    have HA := show Hid _ from hat
    have hlen : x.sub.length ≤ 140737488351232 := hG.sub.1
    obtain ⟨hgk, hgn, hgo, hgf⟩ := hG.parts
    have hsf := shapedF_eq x
    generalize shapedF x = ans at *
    clear hK hat hG hS hsz
    unfold tmV
    generalize x.k = xk at *
    generalize x.n = xn at *
    generalize x.o = xo at *
    generalize x.f = xf at *
    generalize x.sub = s at *
    have KN1 := show Hid (∀ (W : World) (y : Bool), Calls Tryd.prog 68 #[.string xn, .bool y] W fun e w' => e = .returned (.bool (named xn y)) ∧ w' = W) from fun W y => named_any W xn hgn y
    have KN2 := show Hid (∀ (W : World) (y : Bool), Calls Tryd.prog 68 #[.string xo, .bool y] W fun e w' => e = .returned (.bool (named xo y)) ∧ w' = W) from fun W y => named_any W xo hgo y
    go_enter Tryd.func51, Tryd.ntmps51
    go_wp2_with (refine wpList_box 27 _ rfl _ rfl rfl ?_)
    intro w1 b1 hn1
    have d0 : w1.cell? ⟨b1, 0, none⟩ = some (.int .i64 xk) := Cl.cell hn1.blk 0
    have d1 : w1.cell? ⟨b1, 1, none⟩ = some (.string xn) := Cl.cell hn1.blk 1
    have d2 : w1.cell? ⟨b1, 2, none⟩ = some (.string xo) := Cl.cell hn1.blk 2
    have d3 : w1.cell? ⟨b1, 3, none⟩ = some (.int .i64 xf) := Cl.cell hn1.blk 3
    have d4 : w1.cell? ⟨b1, 4, none⟩ = some (.slice p s.length c) := Cl.cell hn1.blk 4
    have HN1 := show Hid (New w w1 b1 #[.int .i64 xk, .string xn, .string xo, .int .i64 xf, .slice p s.length c] 27) from hn1
    clear hn1
    by_cases hr1 : xk < 1
    · have hb1 : decide (xk < 1) = true := by simpa using hr1
      have ha : ans = false := by rw [hsf]; unfold fine; simp; intros; omega
      clear hsf
      subst ha
      go_wp2_with fail
      go_ret
      exact ⟨rfl, HN1.out.bel⟩
    by_cases hr2 : 12 < xk
    · have hb1 : decide (xk < 1) = false := by simpa using hr1
      have hb2 : decide (12 < xk) = true := by simpa using hr2
      have ha : ans = false := by rw [hsf]; unfold fine; simp; intros; omega
      clear hsf
      subst ha
      go_wp2_with fail
      go_ret
      exact ⟨rfl, HN1.out.bel⟩
    have hb1 : decide (xk < 1) = false := by simpa using hr1
    have hb2 : decide (12 < xk) = false := by simpa using hr2
    obtain ⟨K, rfl⟩ : ∃ K : Nat, xk = (K : Int) := ⟨xk.toNat, by omega⟩
    obtain ⟨s0, s1, s2⟩ := HS.out w1 HN1.out.bel K (by omega) (by omega)
    go_wp2_with (refine wpList_alloc 127 rfl _ zeroShape rfl ?_)
    intro w2 b2 hn2
    go_wp2_with (refine wpList_st 127 rfl rfl _ _ rfl b2 rfl _ rfl _ _ hn2.blk sizeShape rfl (shape_all _ _ _) ?_)
    intro w3 hc3 hk3
    have hb13 : Below w1.heap.size w1 w3 := bel_kp hn2.bel hk3 hn2.ge
    have HB3 := show Hid (Below w.heap.size w w3) from HN1.out.bel.trans (hb13.mono HN1.out.bel.size)
    have q0 : w3.cell? ⟨b2, 0, none⟩ = some (.int .i64 (parts K : Int)) := hc3.cell 0
    have q1 : w3.cell? ⟨b2, 1, none⟩ = some (.int .i64 (names K : Int)) := hc3.cell 1
    have q2 : w3.cell? ⟨b2, 2, none⟩ = some (.bool (K == 11)) := hc3.cell 2
    have h1 : Cl w3 b1 _ _ := Cl.later (show Cl w1 b1 _ _ from HN1.out.blk) hb13
    have e0 : w3.cell? ⟨b1, 0, none⟩ = some (.int .i64 (K : Int)) := h1.cell 0
    have e1 : w3.cell? ⟨b1, 1, none⟩ = some (.string xn) := h1.cell 1
    have e2 : w3.cell? ⟨b1, 2, none⟩ = some (.string xo) := h1.cell 2
    have e3 : w3.cell? ⟨b1, 3, none⟩ = some (.int .i64 xf) := h1.cell 3
    have e4 : w3.cell? ⟨b1, 4, none⟩ = some (.slice p s.length c) := h1.cell 4
    clear d0 d1 d2 d3 d4 s0 s1 s2 hn2 hc3 hk3 hb13 h1 hb1 hb2
    have hfin : fine (K : Int) xn xo xf s.length = ((s.length == parts (K : Int) && named xn (decide (0 < names (K : Int))) && named xo (decide (1 < names (K : Int)))) && (xf == 0 || ((K : Int) == 11 && decide (0 ≤ xf) && decide (xf < 1024)))) := by
      unfold fine
      rw [decide_eq_true (show (1 : Int) ≤ K by omega), decide_eq_true (show (K : Int) ≤ 12 by omega)]
      rfl
    rw [hfin] at hsf
    have hpd : (decide ((0 : Int) < (names (K : Int) : Int))) = decide (0 < names (K : Int)) := decide_eq_decide.2 (by omega)
    have hpd1 : (decide ((1 : Int) < (names (K : Int) : Int))) = decide (1 < names (K : Int)) := decide_eq_decide.2 (by omega)
    have HPD := show Hid _ from And.intro hpd hpd1
    generalize parts (K : Int) = P at *
    generalize names (K : Int) = M at *
    clear hfin hpd hpd1
    by_cases hP : s.length = P
    · have hPb : ((s.length : Int) != (P : Int)) = false := by simp; omega
      rw [show (s.length == P) = true by simpa using hP, Bool.true_and] at hsf
      have HSF := show Hid _ from hsf
      clear hsf hP
      go_wp2_with fail
      refine Calls.mono (KN1.out w3 _) ?_
      rintro e w4 ⟨rfl, hw⟩
      subst w4
      try rw [HPD.out.1]
      cases hn1 : named xn (decide (0 < M))
      · have ha : ans = false := by rw [HSF.out, hn1]; rfl
        clear HSF hn1
        subst ha
        go_wp2_with fail
        go_ret
        exact ⟨rfl, HB3.out⟩
      have hsf := HSF.out
      rw [hn1, Bool.true_and] at hsf
      have HSF := show Hid _ from hsf
      clear hsf hn1
      go_wp2_with fail
      refine Calls.mono (KN2.out w3 _) ?_
      rintro e w4 ⟨rfl, hw⟩
      subst w4
      try rw [HPD.out.2]
      cases hn2 : named xo (decide (1 < M))
      · have ha : ans = false := by rw [HSF.out, hn2]; rfl
        clear HSF hn2
        subst ha
        go_wp2_with fail
        go_ret
        exact ⟨rfl, HB3.out⟩
      have hsf := HSF.out
      rw [hn2, Bool.true_and] at hsf
      clear hn2 KN1 KN2 HPD e1 e2 q0 q1
      have hK11 : (K == 11) = ((K : Int) == 11) := by
        by_cases h : K = 11
        · subst h; rfl
        · have h2 : ¬ (K : Int) = 11 := by omega
          rw [beq_eq_false_iff_ne.2 h, beq_eq_false_iff_ne.2 h2]
      rw [← hK11] at hsf
      generalize (K == 11) = F at *
      clear hK11
      by_cases hf0 : xf = 0
      · subst hf0
        have HA0 := show Hid (ans = shapedL s) from hsf
        clear hsf
        go_wp2_with fail
        go_loopw [5, 63] (fun _ i wr => ∃ j : Nat, j ≤ s.length ∧ i = .int .i64 (j : Int) ∧ Hid (shapedL (s.drop j) = ans) ∧ Hid (Below w.heap.size w wr)) (fun _ i _ => s.length - (intOf i).toNat)
        case atStart => exact ⟨0, Nat.zero_le _, rfl, by rw [List.drop_zero]; exact HA0.out.symm, HB3⟩
        case round =>
          obtain ⟨j, hj, rfl, HF, HB⟩ := hrel
          clear HA0 HB3
          by_cases hlt : j < s.length
          · obtain ⟨b, o, hbl, rfl, hat⟩ := HA.out (by omega)
            have hBL : Below L w wr := HB.out.mono hL
            obtain ⟨kv, h5, hkid⟩ := hat wr hBL j hlt
            have hmem : s[j] ∈ s := List.getElem_mem hlt
            have hst := HF.out
            rw [List.drop_eq_getElem_cons hlt, shapedL] at hst
            have hsz := HB.out.size
            have KC2 := show Hid (∀ W : World, Below wr.heap.size wr W → Calls Tryd.prog 51 #[tmV s[j] kv] W fun e w' => e = .returned (.bool (shapedF s[j])) ∧ Below W.heap.size W w') from
              fun W hW => KC.out s[j] hmem W kv (hkid.below (hW.mono (by omega))) (by have := hW.size; omega) (HS.out W (HB.out.trans (hW.mono hsz)))
            obtain ⟨kp, kn, kc, rfl⟩ := hkid.form
            generalize s[j] = y at *
            unfold tmV at KC2
            obtain ⟨a0, a1, a2, a3, a4⟩ := h5
            generalize y.k = yk at *
            generalize y.n = yn at *
            generalize y.o = yo at *
            generalize y.f = yf at *
            generalize shapedF y = sy at *
            have HST := show Hid _ from hst
            have hji : (j : Int) < (s.length : Int) := by omega
            clear hst HF hat hkid hmem hBL KC
            go_wp2_with fail
            refine Calls.mono (KC2.out _ (below_alloc _ _)) ?_
            rintro e w5 ⟨rfl, hb5⟩
            have HBN := show Hid (Below w.heap.size w w5) from HB.out.trans (((below_alloc _ _).trans (hb5.mono (by simp))).mono hsz)
            clear hb5 KC2 HB a0 a1 a2 a3 a4
            cases sy with
            | false =>
              have ha : ans = false := HST.out.symm
              clear HST
              subst ha
              go_wp2_with fail
              go_ret
              exact ⟨rfl, HBN.out⟩
            | true =>
              have HF2 := show Hid (shapedL (s.drop (j + 1)) = ans) from HST.out
              clear HST
              go_wp2_with fail
              go_roundw
              case rel => exact ⟨j + 1, by omega, by go_num, HF2, HBN⟩
              case measure => first | (simp [intOf]; done) | (simp [intOf]; omega)
          · have hje : j = s.length := by omega
            have hst := HF.out
            rw [hje, List.drop_length, shapedL] at hst
            subst hst
            have hji : ¬ (j : Int) < (s.length : Int) := by omega
            clear hje HF
            go_wp2_with fail
            go_ret
            exact ⟨rfl, HB.out⟩
      have hf0b : (xf != 0) = true := by simpa using hf0
      have hf0c : (xf == 0) = false := by simpa using hf0
      rw [hf0c, Bool.false_or] at hsf
      clear hf0c
      cases F with
      | false =>
        have ha : ans = false := hsf
        clear hsf
        subst ha
        go_wp2_with fail
        go_ret
        exact ⟨rfl, HB3.out⟩
      | true =>
        rw [Bool.true_and] at hsf
        by_cases hx0 : xf < 0
        · have hx : decide (0 ≤ xf) = false := by simpa using hx0
          have hxb : decide (xf < 0) = true := by simpa using hx0
          have ha : ans = false := by rw [hsf, hx]; rfl
          clear hsf hx
          subst ha
          go_wp2_with fail
          go_ret
          exact ⟨rfl, HB3.out⟩
        have hxb : decide (xf < 0) = false := by simpa using hx0
        rw [decide_eq_true (show 0 ≤ xf by omega), Bool.true_and] at hsf
        by_cases hx1 : 1024 ≤ xf
        · have hx : decide (xf < 1024) = false := by simpa using hx1
          have hxc : decide (1024 ≤ xf) = true := by simpa using hx1
          have ha : ans = false := by rw [hsf, hx]; rfl
          clear hsf hx
          subst ha
          go_wp2_with fail
          go_ret
          exact ⟨rfl, HB3.out⟩
        have hxc : decide (1024 ≤ xf) = false := by simpa using hx1
        rw [decide_eq_true (show xf < 1024 by omega), Bool.true_and] at hsf
        have HA0 := show Hid (ans = shapedL s) from hsf
        clear hsf
        go_wp2_with fail
        go_loopw [5, 63] (fun _ i wr => ∃ j : Nat, j ≤ s.length ∧ i = .int .i64 (j : Int) ∧ Hid (shapedL (s.drop j) = ans) ∧ Hid (Below w.heap.size w wr)) (fun _ i _ => s.length - (intOf i).toNat)
        case atStart => exact ⟨0, Nat.zero_le _, rfl, by rw [List.drop_zero]; exact HA0.out.symm, HB3⟩
        case round =>
          obtain ⟨j, hj, rfl, HF, HB⟩ := hrel
          clear HA0 HB3
          by_cases hlt : j < s.length
          · obtain ⟨b, o, hbl, rfl, hat⟩ := HA.out (by omega)
            have hBL : Below L w wr := HB.out.mono hL
            obtain ⟨kv, h5, hkid⟩ := hat wr hBL j hlt
            have hmem : s[j] ∈ s := List.getElem_mem hlt
            have hst := HF.out
            rw [List.drop_eq_getElem_cons hlt, shapedL] at hst
            have hsz := HB.out.size
            have KC2 := show Hid (∀ W : World, Below wr.heap.size wr W → Calls Tryd.prog 51 #[tmV s[j] kv] W fun e w' => e = .returned (.bool (shapedF s[j])) ∧ Below W.heap.size W w') from
              fun W hW => KC.out s[j] hmem W kv (hkid.below (hW.mono (by omega))) (by have := hW.size; omega) (HS.out W (HB.out.trans (hW.mono hsz)))
            obtain ⟨kp, kn, kc, rfl⟩ := hkid.form
            generalize s[j] = y at *
            unfold tmV at KC2
            obtain ⟨a0, a1, a2, a3, a4⟩ := h5
            generalize y.k = yk at *
            generalize y.n = yn at *
            generalize y.o = yo at *
            generalize y.f = yf at *
            generalize shapedF y = sy at *
            have HST := show Hid _ from hst
            have hji : (j : Int) < (s.length : Int) := by omega
            clear hst HF hat hkid hmem hBL KC
            go_wp2_with fail
            refine Calls.mono (KC2.out _ (below_alloc _ _)) ?_
            rintro e w5 ⟨rfl, hb5⟩
            have HBN := show Hid (Below w.heap.size w w5) from HB.out.trans (((below_alloc _ _).trans (hb5.mono (by simp))).mono hsz)
            clear hb5 KC2 HB a0 a1 a2 a3 a4
            cases sy with
            | false =>
              have ha : ans = false := HST.out.symm
              clear HST
              subst ha
              go_wp2_with fail
              go_ret
              exact ⟨rfl, HBN.out⟩
            | true =>
              have HF2 := show Hid (shapedL (s.drop (j + 1)) = ans) from HST.out
              clear HST
              go_wp2_with fail
              go_roundw
              case rel => exact ⟨j + 1, by omega, by go_num, HF2, HBN⟩
              case measure => first | (simp [intOf]; done) | (simp [intOf]; omega)
          · have hje : j = s.length := by omega
            have hst := HF.out
            rw [hje, List.drop_length, shapedL] at hst
            subst hst
            have hji : ¬ (j : Int) < (s.length : Int) := by omega
            clear hje HF
            go_wp2_with fail
            go_ret
            exact ⟨rfl, HB.out⟩
    · have hPb : ((s.length : Int) != (P : Int)) = true := by simp; omega
      have ha : ans = false := by rw [hsf, show (s.length == P) = false by simpa using hP]; rfl
      clear hsf
      subst ha
      go_wp2_with fail
      go_ret
      exact ⟨rfl, HB3.out⟩
set_option maxRecDepth 100000 in
set_option maxHeartbeats 4000000 in
theorem checkT_any (x : Tm) (w : World) (L : Nat) (sv : Value) (hK : Kid w L x sv) (hG : Gt x) (hL : L ≤ w.heap.size) (hS : Shp w) :
    Calls Tryd.prog 27 #[tmV x sv] w fun e w' => e = .returned (.int .i64 (Ty.checkF x)) ∧ Below w.heap.size w w' := by
  have K1 := show Hid (∀ W : World, Below w.heap.size w W → Calls Tryd.prog 49 #[tmV x sv] W fun e w' => e = .returned (.int .i64 (nodesF x 65537 : Int)) ∧ Below W.heap.size W w') from
    fun W hW => size_any x W L sv (hK.below (hW.mono hL)) hG (Nat.le_trans hL hW.size)
  have K2 := show Hid (∀ W : World, Below w.heap.size w W → Calls Tryd.prog 50 #[sv, .int .i64 ((1025 : Nat) : Int), .map none] W fun e w' => e = .returned (.int .i64 (levF x 1025 : Int)) ∧ Below W.heap.size W w') from
    fun W hW => levels_any _ x (Nat.lt_succ_self _) W L sv (hK.below (hW.mono hL)) hG (Nat.le_trans hL hW.size) 1025 (by decide) (by decide)
  have K3 := show Hid (∀ W : World, Below w.heap.size w W → Calls Tryd.prog 51 #[tmV x sv] W fun e w' => e = .returned (.bool (shapedF x)) ∧ Below W.heap.size W w') from
    fun W hW => shaped_any _ x (Nat.lt_succ_self _) W L sv (hK.below (hW.mono hL)) hG (Nat.le_trans hL hW.size) (hS.later hW hS.lt)
  obtain ⟨p, n, c, rfl⟩ := hK.form
  have hans : Ty.checkF x = if 65536 < nodesF x 65537 ∨ 1024 < levF x 1025 then 121 else if shapedF x then 0 else 120 := rfl
  generalize Ty.checkF x = ans at *
  generalize nodesF x 65537 = N at *
  generalize levF x 1025 = D at *
  generalize shapedF x = S at *
  unfold tmV at K1 K3 ⊢
  clear hK hG hS
  generalize x.k = xk at *
  generalize x.n = xn at *
  generalize x.o = xo at *
  generalize x.f = xf at *
  have HANS := show Hid _ from hans
  clear hans
  go_enter Tryd.func27, Tryd.ntmps27
  go_wp2_with (refine wpList_box 27 _ rfl _ rfl rfl ?_)
  intro w1 b1 hn1
  have HC := show Hid (∀ W, Below w1.heap.size w1 W → Cl W b1 #[.int .i64 xk, .string xn, .string xo, .int .i64 xf, .slice p n c] 27) from fun W hW => Cl.later (show Cl w1 b1 _ _ from hn1.blk) hW
  have HB1 := show Hid (Below w.heap.size w w1) from hn1.bel
  have d0 : w1.cell? ⟨b1, 0, none⟩ = some (.int .i64 xk) := Cl.cell hn1.blk 0
  have d1 : w1.cell? ⟨b1, 1, none⟩ = some (.string xn) := Cl.cell hn1.blk 1
  have d2 : w1.cell? ⟨b1, 2, none⟩ = some (.string xo) := Cl.cell hn1.blk 2
  have d3 : w1.cell? ⟨b1, 3, none⟩ = some (.int .i64 xf) := Cl.cell hn1.blk 3
  have d4 : w1.cell? ⟨b1, 4, none⟩ = some (.slice p n c) := Cl.cell hn1.blk 4
  clear hn1
  go_wp2_with fail
  refine Calls.mono (K1.out w1 HB1.out) ?_
  rintro e w2 ⟨rfl, hb2⟩
  have hc2 := HC.out w2 hb2
  have HB2 := show Hid (Below w.heap.size w w2) from HB1.out.trans (hb2.mono HB1.out.size)
  have HB12 := show Hid (Below w1.heap.size w1 w2) from hb2
  have f4 : w2.cell? ⟨b1, 4, none⟩ = some (.slice p n c) := hc2.cell 4
  clear d0 d1 d2 d3 d4 hc2 hb2 K1
  by_cases hN : 65536 < N
  · have hNi : (65536 : Int) < (N : Int) := by omega
    obtain rfl : ans = 121 := by rw [HANS.out, if_pos (Or.inl hN)]
    clear HANS
    go_wp2_with fail
    go_ret
    exact ⟨rfl, HB2.out⟩
  have hNi : ¬ (65536 : Int) < (N : Int) := by omega
  go_wp2_with fail
  refine Calls.mono (K2.out w2 HB2.out) ?_
  rintro e w3 ⟨rfl, hb3⟩
  have hc3 := HC.out w3 (HB12.out.trans (hb3.mono HB12.out.size))
  have HB3 := show Hid (Below w.heap.size w w3) from HB2.out.trans (hb3.mono HB2.out.size)
  have d0 : w3.cell? ⟨b1, 0, none⟩ = some (.int .i64 xk) := hc3.cell 0
  have d1 : w3.cell? ⟨b1, 1, none⟩ = some (.string xn) := hc3.cell 1
  have d2 : w3.cell? ⟨b1, 2, none⟩ = some (.string xo) := hc3.cell 2
  have d3 : w3.cell? ⟨b1, 3, none⟩ = some (.int .i64 xf) := hc3.cell 3
  have d4 : w3.cell? ⟨b1, 4, none⟩ = some (.slice p n c) := hc3.cell 4
  clear f4 hc3 hb3 K2 HC
  by_cases hD : 1024 < D
  · have hDi : (1024 : Int) < (D : Int) := by omega
    obtain rfl : ans = 121 := by rw [HANS.out, if_pos (Or.inr hD)]
    clear HANS
    go_wp2_with fail
    go_ret
    exact ⟨rfl, HB3.out⟩
  have hDi : ¬ (1024 : Int) < (D : Int) := by omega
  have hans : ans = if S = true then 0 else 120 := by rw [HANS.out, if_neg (by omega)]
  clear HANS
  have HANS := show Hid _ from hans
  clear hans
  go_wp2_with fail
  refine Calls.mono (K3.out w3 HB3.out) ?_
  rintro e w4 ⟨rfl, hb4⟩
  have HB4 := show Hid (Below w.heap.size w w4) from HB3.out.trans (hb4.mono HB3.out.size)
  clear d0 d1 d2 d3 d4 hb4 K3 HB3
  cases S with
  | true =>
    obtain rfl : ans = 0 := HANS.out
    clear HANS
    go_wp2_with fail
    go_ret
    exact ⟨rfl, HB4.out⟩
  | false =>
    obtain rfl : ans = 120 := HANS.out
    clear HANS
    go_wp2_with fail
    go_ret
    exact ⟨rfl, HB4.out⟩
end Go.Proofs.YtkpbpecikibohaaDoor.Ya
