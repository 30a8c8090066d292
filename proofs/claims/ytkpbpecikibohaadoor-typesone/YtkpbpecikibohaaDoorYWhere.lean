/-
  Where, Infer, Check. The tables of shapes and of the errors' type stand.
-/
import Derived.Test.YtkpbpecikibohaaDoorYBegin
namespace Go.Proofs.YtkpbpecikibohaaDoor.Ya
open Go.RowKit Go.Maps
open Fm (Nd)
open Ty (Tm An Hs env aheadF whF inF)
set_option linter.unusedSimpArgs false

theorem own_one {w w' : World} {B q : Nat} {i : Int} (h : New w w' q #[.int .i64 i] 3) (hb : B ≤ q) : w'.ownsRow B 3 1 (.slice (some ⟨q, 0, none⟩) 1 1) [i].length (intsI [i]) :=
  ⟨rfl, Or.inr ⟨q, 1, _, rfl, hb, h.blk, Nat.le_refl _, by unfold maxLen; show 1 ≤ _; omega, rfl, rfl⟩⟩
theorem own_base {w : World} {B B' : Nat} {v : Value} {n : Nat} {xs : List Value} (h : w.ownsRow B 3 1 v n xs) (hb : B' ≤ B) : w.ownsRow B' 3 1 v n xs := by
  refine ⟨h.1, ?_⟩
  rcases h.2 with h2 | ⟨g, cap, cur, h2, h3, r⟩
  · exact Or.inl h2
  · exact Or.inr ⟨g, cap, cur, h2, by omega, r⟩
structure Std (w : World) : Prop where
  shp : Shp w
  ety : Ety w
theorem Std.later {w w' : World} (h : Std w) (hb : Below w.heap.size w w') : Std w' := ⟨h.shp.later hb h.shp.lt, h.ety.later hb h.ety.lt⟩
def WhP (w w' : World) (r : Ending) (a : List Int × Int) : Prop := ∃ yv, r = .returned (.tuple #[yv, .int .i64 a.2]) ∧ w'.ownsRow w.heap.size 3 1 yv a.1.length (intsI a.1) ∧ Below w.heap.size w w'
set_option maxRecDepth 100000 in
set_option maxHeartbeats 4000000 in
theorem where_any (w : World) {b mt : Nat} {v : Value} {t : List Nd} {hv sv : Value} {hs : Hs} {x : Tm} (hT : Tb w b mt v t) (hH : IsH w w.heap.size hv hs) (hG : GoodH hs) (hK : Kid w w.heap.size x sv) (hX : Gt x) (hS : Std w) (id : Int) :
    Calls Tryd.prog 14 #[.pointer (some ⟨b, 0, none⟩), hv, tmV x sv, .int .i64 id] w fun r w' => WhP w w' r (whF t hs x id) := by
  have hlen : hs.length ≤ 5864062014639 := hH.choose_spec.choose_spec.2.1
  have hTB : TbB w w.heap.size b mt v t := fun W hW => hT.later hW
  have KB := show Hid (∀ W fv, Below w.heap.size w W → W.ownsRow w.heap.size 3 1 fv [id].length (intsI [id]) → Calls Tryd.prog 16 #[.pointer (some ⟨b, 0, none⟩), hv, tmV x sv, fv] W fun r w' => BgP w' r w.heap.size hs.length (.pointer (some ⟨b, 0, none⟩)) (env hs) (aheadF t [id] hs x) ∧ Kp (fun k => fv.ownBlock = some k) W w') from
    fun W fv hW hf => begin_any W (hTB.later hW) (hH.below hW) hG (hK.below hW) hX hW.size hf (by simp) (hS.shp.later hW hS.shp.lt) hS.shp.lt
  have KC := show Hid (aheadF t [id] hs x = 0 → ∀ W C m, Below w.heap.size w W → Ck W w.heap.size C m hs.length (.pointer (some ⟨b, 0, none⟩)) (env hs) (.slice none 0 0) [] → Calls Tryd.prog 22 #[.pointer (some ⟨C, 0, none⟩), tmV x sv, .int .i64 id] W fun r w' => ∃ wv2, ChP w.heap.size w' r wv2 (Ty.chkd t (Ty.toTr x) (env hs) [] id) ∧ ∃ n', Af W w' w.heap.size C m n' (.pointer (some ⟨b, 0, none⟩)) (env hs) (.slice none 0 0) wv2 []) from fun h0 W C m hW hc => by
    have hc0 : Ty.checkF x = 0 := by
      unfold aheadF at h0
      split at h0
      · cases h0
      · exact h0
    obtain ⟨hx, hsz⟩ := Ty.check_zero hc0
    have hkk := hK.below hW
    have hxx := hX
    rw [hx] at hkk hxx
    have := (rec_all (B := w.heap.size) (C := C) (m := m) (tb := b) (mt := mt) (v := v) (t := t) (Ty.toTr x)).2 W hs.length (env hs) (.slice none 0 0) sv [] id (hTB.later hW) hc hW.size hkk hxx (by omega) (by simp; omega)
    rw [← hx] at this
    refine this.mono ?_
    rintro r w' ⟨wv2, h1, h2⟩
    exact ⟨wv2, h1, _, h2⟩
  have HS := show Hid (∀ W, Below w.heap.size w W → Ety W) from fun W hW => hS.ety.later hW hS.ety.lt
  have HWH := show Hid (whF t hs x id = if aheadF t [id] hs x ≠ 0 then ([], aheadF t [id] hs x) else ((Ty.chkd t (Ty.toTr x) (env hs) [] id).way, (Ty.chkd t (Ty.toTr x) (env hs) [] id).err)) from rfl
  obtain ⟨p, n, c, rfl⟩ := hK.form
  obtain ⟨ph, ch, rfl, _⟩ := hH
  clear hT hTB hG hK hX hS
  generalize whF t hs x id = ans at *
  generalize aheadF t [id] hs x = ea at *
  generalize Ty.chkd t (Ty.toTr x) (env hs) [] id = A at *
  unfold tmV at KB KC ⊢
  generalize x.k = xk at *
  generalize x.n = xn at *
  generalize x.o = xo at *
  generalize x.f = xf at *
  have hq1 := neq_if
  have hq2 := neq_no
  go_enter Tryd.func14, Tryd.ntmps14
  go_wp2_with (refine wpList_box 27 _ rfl _ rfl rfl ?_)
  intro w1 bx hn1
  have HN1 := show Hid (New w w1 bx #[.int .i64 xk, .string xn, .string xo, .int .i64 xf, .slice p n c] 27) from hn1
  have x0 : w1.cell? ⟨bx, 0, none⟩ = some (.int .i64 xk) := Cl.cell hn1.blk 0
  have x1 : w1.cell? ⟨bx, 1, none⟩ = some (.string xn) := Cl.cell hn1.blk 1
  have x2 : w1.cell? ⟨bx, 2, none⟩ = some (.string xo) := Cl.cell hn1.blk 2
  have x3 : w1.cell? ⟨bx, 3, none⟩ = some (.int .i64 xf) := Cl.cell hn1.blk 3
  have x4 : w1.cell? ⟨bx, 4, none⟩ = some (.slice p n c) := Cl.cell hn1.blk 4
  clear hn1
  go_wp2_with (refine wpList_bsI rfl _ rfl _ rfl ?_)
  intro w2 q2 hn2
  have hb2 := bel_new HN1.out.bel hn2
  have K2 := show Hid _ from KB.out w2 _ hb2 (own_one hn2 (by have := HN1.out.bel.size; have := hn2.ge; omega))
  have HX2 := show Hid (Cl w2 bx #[.int .i64 xk, .string xn, .string xo, .int .i64 xf, .slice p n c] 27) from Cl.new HN1.out.blk hn2
  have HB2 := show Hid (Below w.heap.size w w2) from hb2
  have HQ2 := show Hid (w1.heap.size ≤ q2 ∧ bx < w1.heap.size ∧ w.heap.size ≤ w1.heap.size) from ⟨hn2.ge, Cl.lt HN1.out.blk, HN1.out.bel.size⟩
  clear hn2 hb2 x0 x1 x2 x3 x4 HN1 KB
  go_wp2_with fail
  refine Calls.mono K2.out ?_
  rintro e w3 ⟨⟨hP1, hP2⟩, hk3⟩
  have hb3 : Below w.heap.size w w3 := HB2.out.trans ⟨hk3.os, hk3.tape, hk3.output, hk3.size, fun k hk => hk3.block k (Nat.lt_of_lt_of_le hk HB2.out.size) fun e => by
    have : q2 = k := Option.some.inj e
    have := HQ2.out
    omega⟩
  have HX3 := show Hid (Cl w3 bx #[.int .i64 xk, .string xn, .string xo, .int .i64 xf, .slice p n c] 27) from (hk3.block bx (Cl.lt HX2.out) fun e => by
    have : q2 = bx := Option.some.inj e
    have := HQ2.out
    omega).trans HX2.out
  have HB3 := show Hid _ from hb3
  by_cases he : ea = 0
  · obtain ⟨C, m, rfl, hck⟩ := hP2 he
    have KC3 := show Hid _ from KC.out he w3 C m hb3 hck
    have hans := HWH.out
    rw [if_neg (by simpa using he)] at hans
    have HANS := show Hid _ from hans
    have x0 : w3.cell? ⟨bx, 0, none⟩ = some (.int .i64 xk) := Cl.cell HX3.out 0
    have x1 : w3.cell? ⟨bx, 1, none⟩ = some (.string xn) := Cl.cell HX3.out 1
    have x2 : w3.cell? ⟨bx, 2, none⟩ = some (.string xo) := Cl.cell HX3.out 2
    have x3 : w3.cell? ⟨bx, 3, none⟩ = some (.int .i64 xf) := Cl.cell HX3.out 3
    have x4 : w3.cell? ⟨bx, 4, none⟩ = some (.slice p n c) := Cl.cell HX3.out 4
    have HCK := show Hid _ from hck
    clear hP1 hP2 hck hk3 hb3 he KC K2 hans HWH HX2
    go_wp2_with fail
    refine Calls.mono KC3.out ?_
    rintro e w4 ⟨wv4, hP4, n4, haf4⟩
    have hb4 : Below w.heap.size w w4 := HB3.out.trans (HCK.out.below haf4.kp HB3.out.size)
    have HB4 := show Hid _ from hb4
    have HP4 := show Hid _ from hP4
    clear x0 x1 x2 x3 x4 KC3 hP4 haf4 hb4
    cases A with
    | ok f =>
      obtain rfl := HP4.out
      have KA := show Hid _ from ask_nil w4
      clear HP4
      go_wp2_with fail
      refine Calls.mono KA.out ?_
      rintro e w5 ⟨rfl, hb5⟩
      have HB5 := show Hid (Below w.heap.size w w5) from HB4.out.trans (hb5.mono HB4.out.size)
      clear hb5 KA
      go_wp2_with fail
      go_ret2
      rw [HANS.out]
      exact ⟨_, rfl, ⟨rfl, Or.inl ⟨rfl, rfl⟩⟩, HB5.out⟩
    | no er wy =>
      obtain ⟨q, rfl, hrf⟩ := HP4.out
      have KA := show Hid _ from ask_ref w4 (HS.out w4 HB4.out) hrf
      clear HP4 hrf
      go_wp2_with fail
      refine Calls.mono KA.out ?_
      rintro e w5 ⟨yv, rfl, ho5, hb5⟩
      have HB5 := show Hid (Below w.heap.size w w5) from HB4.out.trans (hb5.mono HB4.out.size)
      have HO5 := show Hid _ from ho5
      clear hb5 KA ho5
      go_wp2_with fail
      go_ret2
      rw [HANS.out]
      exact ⟨_, rfl, HO5.out, HB5.out⟩
  · obtain ⟨q, rfl, hrf⟩ := hP1 he
    have hans := HWH.out
    rw [if_pos he] at hans
    have HANS := show Hid _ from hans
    have KA := show Hid _ from ask_ref w3 (HS.out w3 hb3) hrf
    clear hP1 hP2 hk3 hb3 he KC K2 hans HWH HX2 hrf
    go_wp2_with fail
    refine Calls.mono KA.out ?_
    rintro e w5 ⟨yv, rfl, ho5, hb5⟩
    have HB5 := show Hid (Below w.heap.size w w5) from HB3.out.trans (hb5.mono HB3.out.size)
    have HO5 := show Hid _ from ho5
    clear hb5 KA ho5
    go_wp2_with fail
    go_ret2
    rw [HANS.out]
    exact ⟨_, rfl, HO5.out, HB5.out⟩
end Go.Proofs.YtkpbpecikibohaaDoor.Ya
