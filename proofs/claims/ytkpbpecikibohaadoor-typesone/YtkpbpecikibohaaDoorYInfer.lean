/-
  Infer, Check; and Where, Infer, Check at a table that no call made. The tables of shapes and of the errors' type stand. (Written by genyinf.py.)
-/
import Derived.Test.YtkpbpecikibohaaDoorYWhere
namespace Go.Proofs.YtkpbpecikibohaaDoor.Ya
open Go.RowKit Go.Maps
open Fm (Nd)
open Ty (Tm An Hs env aheadF whF inF)
set_option linter.unusedSimpArgs false

theorem Kid.up {w w' : World} {x : Tm} {sv : Value} (h : Kid w w.heap.size x sv) (hb : Below w.heap.size w w') : Kid w' w'.heap.size x sv := (h.below hb).wide hb.size
theorem IsH.up {w w' : World} {v : Value} {l : Hs} (h : IsH w w.heap.size v l) (hb : Below w.heap.size w w') : IsH w' w'.heap.size v l := by
  obtain ⟨p, c, hv, h1, h2⟩ := h.below hb
  refine ⟨p, c, hv, h1, fun k hk => ?_⟩
  obtain ⟨b, o, hl, r⟩ := h2 k hk
  exact ⟨b, o, Nat.lt_of_lt_of_le hl hb.size, r⟩
set_option maxRecDepth 100000 in
set_option maxHeartbeats 4000000 in
theorem infer_any (w : World) {b mt : Nat} {v : Value} {t : List Nd} {hv sv : Value} {hs : Hs} {x : Tm} (hT : Tb w b mt v t) (hH : IsH w w.heap.size hv hs) (hG : GoodH hs) (hK : Kid w w.heap.size x sv) (hX : Gt x) (hS : Std w) :
    Calls Tryd.prog 8 #[.pointer (some ⟨b, 0, none⟩), hv, tmV x sv] w fun r w' => r = .returned (.tuple #[.int .i64 (inF t hs x).1, .int .i64 (inF t hs x).2]) ∧ Below w.heap.size w w' := by
  have hlen : hs.length ≤ 5864062014639 := hH.choose_spec.choose_spec.2.1
  have hTB : TbB w w.heap.size b mt v t := fun W hW => hT.later hW
  have KB := show Hid (∀ W fv, Below w.heap.size w W → W.ownsRow w.heap.size 3 1 fv ([] : List Int).length (intsI []) → Calls Tryd.prog 16 #[.pointer (some ⟨b, 0, none⟩), hv, tmV x sv, fv] W fun r w' => BgP w' r w.heap.size hs.length (.pointer (some ⟨b, 0, none⟩)) (env hs) (aheadF t [] hs x) ∧ Kp (fun k => fv.ownBlock = some k) W w') from
    fun W fv hW hf => begin_any W (hTB.later hW) (hH.below hW) hG (hK.below hW) hX hW.size hf (by simp) (hS.shp.later hW hS.shp.lt) hS.shp.lt
  have KC := show Hid (aheadF t [] hs x = 0 → ∀ W C m, Below w.heap.size w W → Ck W w.heap.size C m hs.length (.pointer (some ⟨b, 0, none⟩)) (env hs) (.slice none 0 0) [] → Calls Tryd.prog 18 #[.pointer (some ⟨C, 0, none⟩), tmV x sv] W fun r w' => ∃ wv2, TlP w.heap.size w' r wv2 (Ty.told t (Ty.toTr x) (env hs) []) ∧ ∃ n', Af W w' w.heap.size C m n' (.pointer (some ⟨b, 0, none⟩)) (env hs) (.slice none 0 0) wv2 []) from fun h0 W C m hW hc => by
    have hc0 : Ty.checkF x = 0 := by
      unfold aheadF at h0
      split at h0
      · cases h0
      · exact h0
    obtain ⟨hx, hsz⟩ := Ty.check_zero hc0
    have hkk := hK.below hW
    have hxx := hX
    rw [hx] at hkk hxx
    have := (rec_all (B := w.heap.size) (C := C) (m := m) (tb := b) (mt := mt) (v := v) (t := t) (Ty.toTr x)).1 W hs.length (env hs) (.slice none 0 0) sv [] (hTB.later hW) hc hW.size hkk hxx (by omega) (by simp; omega)
    rw [← hx] at this
    refine this.mono ?_
    rintro r w' ⟨wv2, h1, h2⟩
    exact ⟨wv2, h1, _, h2⟩
  have HS := show Hid (∀ W, Below w.heap.size w W → Ety W) from fun W hW => hS.ety.later hW hS.ety.lt
  have HWH := show Hid (inF t hs x = if aheadF t [] hs x ≠ 0 then (0, aheadF t [] hs x) else ((Ty.told t (Ty.toTr x) (env hs) []).val, (Ty.told t (Ty.toTr x) (env hs) []).err)) from rfl
  obtain ⟨p, n, c, rfl⟩ := hK.form
  obtain ⟨ph, ch, rfl, _⟩ := hH
  clear hT hTB hG hK hX hS
  generalize inF t hs x = ans at *
  generalize aheadF t [] hs x = ea at *
  generalize Ty.told t (Ty.toTr x) (env hs) [] = A at *
  unfold tmV at KB KC ⊢
  generalize x.k = xk at *
  generalize x.n = xn at *
  generalize x.o = xo at *
  generalize x.f = xf at *
  have hq1 := neq_if
  have hq2 := neq_no
  go_enter Tryd.func8, Tryd.ntmps8
  go_wp2_with (refine wpList_box 27 _ rfl _ rfl rfl ?_)
  intro w1 bx hn1
  have HN1 := show Hid (New w w1 bx #[.int .i64 xk, .string xn, .string xo, .int .i64 xf, .slice p n c] 27) from hn1
  have x0 : w1.cell? ⟨bx, 0, none⟩ = some (.int .i64 xk) := Cl.cell hn1.blk 0
  have x1 : w1.cell? ⟨bx, 1, none⟩ = some (.string xn) := Cl.cell hn1.blk 1
  have x2 : w1.cell? ⟨bx, 2, none⟩ = some (.string xo) := Cl.cell hn1.blk 2
  have x3 : w1.cell? ⟨bx, 3, none⟩ = some (.int .i64 xf) := Cl.cell hn1.blk 3
  have x4 : w1.cell? ⟨bx, 4, none⟩ = some (.slice p n c) := Cl.cell hn1.blk 4
  have K2 := show Hid _ from KB.out w1 (.slice none 0 0) hn1.bel ⟨rfl, Or.inl ⟨rfl, rfl⟩⟩
  have HB1 := show Hid _ from hn1.bel
  clear hn1 KB
  go_wp2_with fail
  refine Calls.mono K2.out ?_
  rintro e w3 ⟨⟨hP1, hP2⟩, hk3⟩
  have hb13 : Below w1.heap.size w1 w3 := ⟨hk3.os, hk3.tape, hk3.output, hk3.size, fun k hk => hk3.block k hk fun e => by cases e⟩
  have hb3 : Below w.heap.size w w3 := HB1.out.trans (hb13.mono HB1.out.size)
  have HX3 := show Hid (Cl w3 bx #[.int .i64 xk, .string xn, .string xo, .int .i64 xf, .slice p n c] 27) from Cl.later (show Cl w1 bx _ _ from HN1.out.blk) hb13
  clear hb13 x0 x1 x2 x3 x4 HN1 HB1
  have HB3 := show Hid _ from hb3
  by_cases he : ea = 0
  · obtain ⟨C, m, rfl, hck⟩ := hP2 he
    have KC3 := show Hid _ from KC.out he w3 C m hb3 hck
    have hans := HWH.out
    rw [if_neg (by simpa using he)] at hans
    have HANS := show Hid _ from hans
    have x0 : w3.cell? ⟨bx, 0, none⟩ = some (.int .i64 xk) := Cl.cell HX3.out 0
    have x1 : w3.cell? ⟨bx, 1, none⟩ = some (.string xn) := Cl.cell HX3.out 1
    have x2 : w3.cell? ⟨bx, 2, none⟩ = some (.string xo) := Cl.cell HX3.out 2
    have x3 : w3.cell? ⟨bx, 3, none⟩ = some (.int .i64 xf) := Cl.cell HX3.out 3
    have x4 : w3.cell? ⟨bx, 4, none⟩ = some (.slice p n c) := Cl.cell HX3.out 4
    have HCK := show Hid _ from hck
    clear hP1 hP2 hck hk3 hb3 he KC K2 hans HWH
    go_wp2_with fail
    refine Calls.mono KC3.out ?_
    rintro e w4 ⟨wv4, hP4, n4, haf4⟩
    have hb4 : Below w.heap.size w w4 := HB3.out.trans (HCK.out.below haf4.kp HB3.out.size)
    have HB4 := show Hid _ from hb4
    have HP4 := show Hid _ from hP4
    clear x0 x1 x2 x3 x4 KC3 hP4 haf4 hb4
    cases A with
    | ok f =>
      obtain rfl := HP4.out
      have KA := show Hid _ from ask_nil w4
      clear HP4
      go_wp2_with fail
      refine Calls.mono KA.out ?_
      rintro e w5 ⟨rfl, hb5⟩
      have HB5 := show Hid (Below w.heap.size w w5) from HB4.out.trans (hb5.mono HB4.out.size)
      clear hb5 KA
      go_wp2_with fail
      go_ret2
      rw [HANS.out]
      exact ⟨rfl, HB5.out⟩
    | no er wy =>
      obtain ⟨q, rfl, hrf⟩ := HP4.out
      have KA := show Hid _ from ask_ref w4 (HS.out w4 HB4.out) hrf
      clear HP4 hrf
      go_wp2_with fail
      refine Calls.mono KA.out ?_
      rintro e w5 ⟨yv, rfl, ho5, hb5⟩
      obtain ⟨yp, yc, rfl⟩ := own_form ho5
      have HB5 := show Hid (Below w.heap.size w w5) from HB4.out.trans (hb5.mono HB4.out.size)
      clear hb5 KA ho5
      go_wp2_with fail
      go_ret2
      rw [HANS.out]
      exact ⟨rfl, HB5.out⟩
  · obtain ⟨q, rfl, hrf⟩ := hP1 he
    have hans := HWH.out
    rw [if_pos he] at hans
    have HANS := show Hid _ from hans
    have KA := show Hid _ from ask_ref w3 (HS.out w3 hb3) hrf
    clear hP1 hP2 hk3 hb3 he KC K2 hans HWH hrf
    go_wp2_with fail
    refine Calls.mono KA.out ?_
    rintro e w5 ⟨yv, rfl, ho5, hb5⟩
    obtain ⟨yp, yc, rfl⟩ := own_form ho5
    have HB5 := show Hid (Below w.heap.size w w5) from HB3.out.trans (hb5.mono HB3.out.size)
    clear hb5 KA ho5
    go_wp2_with fail
    go_ret2
    rw [HANS.out]
    exact ⟨rfl, HB5.out⟩
set_option maxRecDepth 100000 in
set_option maxHeartbeats 1000000 in
theorem check_of (w : World) {pv hv sv : Value} {x : Tm} {id : Int} {a : List Int × Int} (hK : ∃ p n c, sv = .slice p n c) (hW : ∀ W, Below w.heap.size w W → Calls Tryd.prog 14 #[pv, hv, tmV x sv, .int .i64 id] W fun r w' => WhP W w' r a) :
    Calls Tryd.prog 9 #[pv, hv, tmV x sv, .int .i64 id] w fun r w' => r = .returned (.int .i64 a.2) ∧ Below w.heap.size w w' := by
  obtain ⟨p, n, c, rfl⟩ := hK
  have KW := show Hid _ from hW
  clear hW
  unfold tmV at KW ⊢
  generalize x.k = xk at *
  generalize x.n = xn at *
  generalize x.o = xo at *
  generalize x.f = xf at *
  go_enter Tryd.func9, Tryd.ntmps9
  go_wp2_with (refine wpList_box 27 _ rfl _ rfl rfl ?_)
  intro w1 bx hn1
  have x0 : w1.cell? ⟨bx, 0, none⟩ = some (.int .i64 xk) := Cl.cell hn1.blk 0
  have x1 : w1.cell? ⟨bx, 1, none⟩ = some (.string xn) := Cl.cell hn1.blk 1
  have x2 : w1.cell? ⟨bx, 2, none⟩ = some (.string xo) := Cl.cell hn1.blk 2
  have x3 : w1.cell? ⟨bx, 3, none⟩ = some (.int .i64 xf) := Cl.cell hn1.blk 3
  have x4 : w1.cell? ⟨bx, 4, none⟩ = some (.slice p n c) := Cl.cell hn1.blk 4
  have K1 := show Hid _ from KW.out w1 hn1.bel
  have HB1 := show Hid _ from hn1.bel
  clear hn1 KW
  go_wp2_with fail
  refine Calls.mono K1.out ?_
  rintro e w2 ⟨yv, rfl, ho2, hb2⟩
  obtain ⟨yp, yc, rfl⟩ := own_form ho2
  have HB2 := show Hid (Below w.heap.size w w2) from HB1.out.trans (hb2.mono HB1.out.size)
  clear hb2 ho2 K1 x0 x1 x2 x3 x4
  go_wp2_with fail
  go_ret
  exact ⟨rfl, HB2.out⟩
theorem check_any (w : World) {b mt : Nat} {v : Value} {t : List Nd} {hv sv : Value} {hs : Hs} {x : Tm} (hT : Tb w b mt v t) (hH : IsH w w.heap.size hv hs) (hG : GoodH hs) (hK : Kid w w.heap.size x sv) (hX : Gt x) (hS : Std w) (id : Int) :
    Calls Tryd.prog 9 #[.pointer (some ⟨b, 0, none⟩), hv, tmV x sv, .int .i64 id] w fun r w' => r = .returned (.int .i64 (whF t hs x id).2) ∧ Below w.heap.size w w' :=
  check_of w hK.form fun W hW => where_any W (hT.later hW) (hH.up hW) hG (hK.up hW) hX (hS.later hW) id
set_option maxRecDepth 100000 in
set_option maxHeartbeats 1000000 in
theorem where_none (w : World) {q0 : Option Addr} {hv sv : Value} {x : Tm} (hN : Nob w (.pointer q0)) (hK : ∃ p n c, sv = .slice p n c) (hS : Std w) (id : Int) :
    Calls Tryd.prog 14 #[.pointer q0, hv, tmV x sv, .int .i64 id] w fun r w' => WhP w w' r ([], 1) := by
  obtain ⟨p, n, c, rfl⟩ := hK
  have KB := show Hid (∀ W fv, Below w.heap.size w W → Calls Tryd.prog 16 #[.pointer q0, hv, tmV x (.slice p n c), fv] W fun r w' => BgP w' r w.heap.size 0 (.pointer q0) (fun _ => none) 1 ∧ Below W.heap.size W w') from fun W fv hW => begin_none W (Nob.later hN hW) ⟨_, _, _, rfl⟩ hW.size
  have HS := show Hid (∀ W, Below w.heap.size w W → Ety W) from fun W hW => hS.ety.later hW hS.ety.lt
  clear hN hS
  unfold tmV at KB ⊢
  generalize x.k = xk at *
  generalize x.n = xn at *
  generalize x.o = xo at *
  generalize x.f = xf at *
  have hq1 := neq_if
  go_enter Tryd.func14, Tryd.ntmps14
  go_wp2_with (refine wpList_box 27 _ rfl _ rfl rfl ?_)
  intro w1 bx hn1
  have x0 : w1.cell? ⟨bx, 0, none⟩ = some (.int .i64 xk) := Cl.cell hn1.blk 0
  have x1 : w1.cell? ⟨bx, 1, none⟩ = some (.string xn) := Cl.cell hn1.blk 1
  have x2 : w1.cell? ⟨bx, 2, none⟩ = some (.string xo) := Cl.cell hn1.blk 2
  have x3 : w1.cell? ⟨bx, 3, none⟩ = some (.int .i64 xf) := Cl.cell hn1.blk 3
  have x4 : w1.cell? ⟨bx, 4, none⟩ = some (.slice p n c) := Cl.cell hn1.blk 4
  have HB1 := show Hid _ from hn1.bel
  clear hn1
  go_wp2_with (refine wpList_bsI rfl _ rfl _ rfl ?_)
  intro w2 q2 hn2
  have hb2 := bel_new HB1.out hn2
  have K2 := show Hid _ from KB.out w2 (.slice (some ⟨q2, 0, none⟩) 1 1) hb2
  have HB2 := show Hid _ from hb2
  clear hn2 hb2 x0 x1 x2 x3 x4 HB1 KB
  go_wp2_with fail
  refine Calls.mono K2.out ?_
  rintro e w3 ⟨⟨hP1, _⟩, hb3⟩
  obtain ⟨q, rfl, hrf⟩ := hP1 (by decide)
  have hb := HB2.out.trans (hb3.mono HB2.out.size)
  have KA := show Hid _ from ask_ref w3 (HS.out w3 hb) hrf
  have HB3 := show Hid _ from hb
  clear hP1 hb3 hrf hb K2 HB2
  go_wp2_with fail
  refine Calls.mono KA.out ?_
  rintro e w5 ⟨yv, rfl, ho5, hb5⟩
  have HB5 := show Hid (Below w.heap.size w w5) from HB3.out.trans (hb5.mono HB3.out.size)
  have HO5 := show Hid _ from ho5
  clear hb5 KA ho5
  go_wp2_with fail
  go_ret2
  exact ⟨_, rfl, HO5.out, HB5.out⟩
set_option maxRecDepth 100000 in
set_option maxHeartbeats 1000000 in
theorem infer_none (w : World) {q0 : Option Addr} {hv sv : Value} {x : Tm} (hN : Nob w (.pointer q0)) (hK : ∃ p n c, sv = .slice p n c) (hS : Std w) :
    Calls Tryd.prog 8 #[.pointer q0, hv, tmV x sv] w fun r w' => r = .returned (.tuple #[.int .i64 0, .int .i64 1]) ∧ Below w.heap.size w w' := by
  obtain ⟨p, n, c, rfl⟩ := hK
  have KB := show Hid (∀ W fv, Below w.heap.size w W → Calls Tryd.prog 16 #[.pointer q0, hv, tmV x (.slice p n c), fv] W fun r w' => BgP w' r w.heap.size 0 (.pointer q0) (fun _ => none) 1 ∧ Below W.heap.size W w') from fun W fv hW => begin_none W (Nob.later hN hW) ⟨_, _, _, rfl⟩ hW.size
  have HS := show Hid (∀ W, Below w.heap.size w W → Ety W) from fun W hW => hS.ety.later hW hS.ety.lt
  clear hN hS
  unfold tmV at KB ⊢
  generalize x.k = xk at *
  generalize x.n = xn at *
  generalize x.o = xo at *
  generalize x.f = xf at *
  have hq1 := neq_if
  go_enter Tryd.func8, Tryd.ntmps8
  go_wp2_with (refine wpList_box 27 _ rfl _ rfl rfl ?_)
  intro w1 bx hn1
  have x0 : w1.cell? ⟨bx, 0, none⟩ = some (.int .i64 xk) := Cl.cell hn1.blk 0
  have x1 : w1.cell? ⟨bx, 1, none⟩ = some (.string xn) := Cl.cell hn1.blk 1
  have x2 : w1.cell? ⟨bx, 2, none⟩ = some (.string xo) := Cl.cell hn1.blk 2
  have x3 : w1.cell? ⟨bx, 3, none⟩ = some (.int .i64 xf) := Cl.cell hn1.blk 3
  have x4 : w1.cell? ⟨bx, 4, none⟩ = some (.slice p n c) := Cl.cell hn1.blk 4
  have HB1 := show Hid _ from hn1.bel
  clear hn1
  have K2 := show Hid _ from KB.out w1 (.slice none 0 0) HB1.out
  have HB2 := show Hid _ from HB1.out
  clear KB
  go_wp2_with fail
  refine Calls.mono K2.out ?_
  rintro e w3 ⟨⟨hP1, _⟩, hb3⟩
  obtain ⟨q, rfl, hrf⟩ := hP1 (by decide)
  have hb := HB2.out.trans (hb3.mono HB2.out.size)
  have KA := show Hid _ from ask_ref w3 (HS.out w3 hb) hrf
  have HB3 := show Hid _ from hb
  clear hP1 hb3 hrf hb K2 HB2 x0 x1 x2 x3 x4 HB1
  go_wp2_with fail
  refine Calls.mono KA.out ?_
  rintro e w5 ⟨yv, rfl, ho5, hb5⟩
  have HB5 := show Hid (Below w.heap.size w w5) from HB3.out.trans (hb5.mono HB3.out.size)
  obtain ⟨yp, yc, rfl⟩ := own_form ho5
  clear hb5 KA ho5
  go_wp2_with fail
  go_ret2
  exact ⟨rfl, HB5.out⟩
theorem check_none (w : World) {q0 : Option Addr} {hv sv : Value} {x : Tm} (hN : Nob w (.pointer q0)) (hK : ∃ p n c, sv = .slice p n c) (hS : Std w) (id : Int) :
    Calls Tryd.prog 9 #[.pointer q0, hv, tmV x sv, .int .i64 id] w fun r w' => r = .returned (.int .i64 1) ∧ Below w.heap.size w w' :=
  check_of (a := ([], 1)) w hK fun W hW => where_none W (Nob.later hN hW) hK (hS.later hW) id
end Go.Proofs.YtkpbpecikibohaaDoor.Ya
