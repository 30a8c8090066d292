/-
  toldApp, toldThe, toldLet, toldCase, out of what is answered of the parts. No condition but sizes. (Written by genycalls.py.)
-/
import Derived.Test.YtkpbpecikibohaaDoorYRec
namespace Go.Proofs.YtkpbpecikibohaaDoor.Ya
open Go.RowKit Go.Maps
open Fm (Nd)
open Ty (Tm An)
set_option linter.unusedSimpArgs false
set_option maxRecDepth 100000 in
set_option maxHeartbeats 4000000 in
theorem toldApp_app {B C m tb mt : Nat} {v : Value} {t : List Nd} {a : Ty.Tr} {b : Ty.Tr}  (hAa : TolC B C m tb mt v t a) (hCb : ChkC B C m tb mt v t b) (w : World) {N : Nat} {g : Ty.Env} {wv sv : Value} {way : List Int} (hT : TbB w B tb mt v t) (h : Ck w B C m N (.pointer (some ⟨tb, 0, none⟩)) g wv way) (hB : B ≤ w.heap.size) (hK : Kid w B (Ty.Tr.app a b).tm sv) (hG : Gt (Ty.Tr.app a b).tm) (hn : N + 4 * (Ty.Tr.app a b).size ≤ 90000000000000) (hw : way.length + (Ty.Tr.app a b).size ≤ 900000) :
    Calls Tryd.prog 30 #[.pointer (some ⟨C, 0, none⟩), tmV (Ty.Tr.app a b).tm sv] w fun r w' => ∃ wv2, TlP B w' r wv2 (Ty.told t (Ty.Tr.app a b) g way) ∧ Af w w' B C m (N + 4 * (Ty.Tr.app a b).size) (.pointer (some ⟨tb, 0, none⟩)) g wv wv2 way := by
  obtain ⟨p, nk, kc, rfl⟩ := hK.form
  obtain ⟨hgk, hgn, hgo, hgf⟩ := hG.parts
  have hgs := hG.sub
  have HB0 := show Hid (∀ W n' wv', Af w W B C m n' (.pointer (some ⟨tb, 0, none⟩)) g wv wv' way → Below B w W) from fun W n' wv' ha => h.below ha.kp hB
  have HBS := show Hid (∀ W n' wv', Af w W B C m n' (.pointer (some ⟨tb, 0, none⟩)) g wv wv' way → B ≤ W.heap.size) from fun W n' wv' ha => Nat.le_trans hB ha.kp.size
  have hsz : (Ty.Tr.app a b).size = a.size + b.size + 1 := rfl
  have KJ := show Hid (∀ (W : World) (n' : Nat) (wv' : Value), Af w W B C m n' (.pointer (some ⟨tb, 0, none⟩)) g wv wv' way → n' + 4 * a.size ≤ 90000000000000 → Calls Tryd.prog 31 #[.pointer (some ⟨C, 0, none⟩), (.agg #[.int .i64 3, .string Ty.e0, .string Ty.e0, .int .i64 0, (.slice p nk kc)]), .int .i64 5] W fun r w' => ∃ wv2, NdP B w' r wv2 (jnR t way 5 (Ty.told t a g (way ++ [0]))) ∧ Af W w' B C m (n' + 4 * a.size) (.pointer (some ⟨tb, 0, none⟩)) g wv' wv2 way) from fun W n' wv' ha hn' => toldJoined_any hAa W (show 0 < (Ty.Tr.app a b).tm.sub.length from by simp [Ty.Tr.tm, Tm.sub]) rfl (hT.later (HB0.out W n' wv' ha)) ha.ck (HBS.out W n' wv' ha) (hK.below (HB0.out W n' wv' ha)) hG hn' (by omega) 5
  have KB := show Hid (∀ (W : World) (n' : Nat) (wv' : Value) (id' : Int), Af w W B C m n' (.pointer (some ⟨tb, 0, none⟩)) g wv wv' way → n' + 4 * b.size ≤ 90000000000000 → Calls Tryd.prog 56 #[.pointer (some ⟨C, 0, none⟩), (.agg #[.int .i64 3, .string Ty.e0, .string Ty.e0, .int .i64 0, (.slice p nk kc)]), .int .i64 1, .int .i64 id'] W fun r w' => ∃ wv2, ChP B w' r wv2 (Ty.chkd t b g (way ++ [1]) id') ∧ Af W w' B C m (n' + 4 * b.size) (.pointer (some ⟨tb, 0, none⟩)) g wv' wv2 way) from fun W n' wv' id' ha hn' => checkedPart_any W 1 (show 1 < (Ty.Tr.app a b).tm.sub.length from by simp [Ty.Tr.tm, Tm.sub]) rfl ha.ck (by omega) (HBS.out W n' wv' ha) (hK.below (HB0.out W n' wv' ha)) hgs.1 id' (fun W2 kv wv2 hW2 hk hc2 => hCb W2 n' g wv2 kv (way ++ [((1 : Nat) : Int)]) id' ((hT.later (HB0.out W n' wv' ha)).later hW2) hc2 (Nat.le_trans (HBS.out W n' wv' ha) hW2.size) hk (hgs.2 b.tm (by simp [Ty.Tr.tm, Tm.sub])) (by omega) (by simp; omega))
  have HNS := show Hid ((Ty.Tr.app a b).size = a.size + b.size + 1 ∧ N + 4 * (Ty.Tr.app a b).size ≤ 90000000000000) from ⟨hsz, hn⟩
  have HANS := show Hid (Ty.told t (Ty.Tr.app a b) g way = match jnR t way 5 (Ty.told t a g (way ++ [0])) with | .error e => .no e.1 e.2 | .ok d => (Ty.chkd t b g (way ++ [1]) d.l).bind fun _ => .ok d.r) from jn_is t way 5 _ _
  generalize jnR t way 5 (Ty.told t a g (way ++ [0])) = J at *
  generalize Ty.told t (Ty.Tr.app a b) g way = ANS at *
  clear hsz hn HB0 HBS
  have HAF0 := show Hid (Af w w B C m N (.pointer (some ⟨tb, 0, none⟩)) g wv wv way) from Af.refl h
  have hq1 := neq_if
  have hq2 := neq_no
  clear hK h hT hG hgs hgk hgn hgo hgf hw hB hAa hCb
  show Calls _ _ #[.pointer (some ⟨C, 0, none⟩), (.agg #[.int .i64 3, .string Ty.e0, .string Ty.e0, .int .i64 0, (.slice p nk kc)])] _ _
  go_enter Tryd.func30, Tryd.ntmps30
  go_wp2_with (refine wpList_box 27 _ rfl _ rfl rfl ?_)
  intro w1 bx hn1
  have HX1 := show Hid (Cl w1 bx #[.int .i64 3, .string Ty.e0, .string Ty.e0, .int .i64 0, .slice p nk kc] 27) from hn1.blk
  have HAF1 := show Hid _ from HAF0.out.then hn1.bel
  have hgx : w.heap.size ≤ bx := hn1.ge
  have HGX := show Hid (w.heap.size ≤ bx) from hgx
  clear hn1 HAF0 hgx
  have x0 : w1.cell? ⟨bx, 0, none⟩ = some (.int .i64 3) := Cl.cell HX1.out 0
  have x1 : w1.cell? ⟨bx, 1, none⟩ = some (.string Ty.e0) := Cl.cell HX1.out 1
  have x2 : w1.cell? ⟨bx, 2, none⟩ = some (.string Ty.e0) := Cl.cell HX1.out 2
  have x3 : w1.cell? ⟨bx, 3, none⟩ = some (.int .i64 0) := Cl.cell HX1.out 3
  have x4 : w1.cell? ⟨bx, 4, none⟩ = some (.slice p nk kc) := Cl.cell HX1.out 4
  go_wp2_with fail
  clear x0 x1 x2 x3 x4
  refine Calls.mono (KJ.out w1 _ _ HAF1.out (by have := HNS.out; omega)) ?_
  rintro e w2 ⟨wv2, hP2, haf2⟩
  have HX2 := show Hid _ from Cl.af HX1.out HAF1.out.ck haf2.kp (by decide) (by decide)
  have HAF2 := show Hid _ from HAF1.out.trans haf2
  have HP2 := show Hid _ from hP2
  clear hP2 haf2 HX1 HAF1 KJ
  cases J with
  | error er =>
    obtain ⟨q, rfl, hrf⟩ := HP2.out
    have HRF0 := show Hid _ from hrf
    have hA : ANS = .no er.1 er.2 := HANS.out
    have HA := show Hid (ANS = .no er.1 er.2) from hA
    clear HP2 hrf hA HANS
    unfold ndV
    go_wp2_with (refine wpList_alloc 54 rfl _ zeroNode rfl ?_)
    intro w3 br4 hn3
    go_wp2_with (refine wpList_st 54 rfl rfl _ _ rfl br4 rfl _ rfl _ _ hn3.blk sizeNode rfl (node_all Fm.z) ?_)
    intro w4 hc4 hk4
    have hge4 : w.heap.size ≤ br4 := Nat.le_trans HAF2.out.kp.size hn3.ge
    have HAF4 := show Hid _ from (HAF2.out.then hn3.bel).own hn3.blk (by decide) (by decide) hk4 hge4
    have HX4 := show Hid _ from Cl.kp (Cl.new HX2.out hn3) hk4 (by have := Cl.lt HX2.out; have := hn3.ge; omega)
    have HN4 := show Hid (Cl w4 br4 #[.int .i64 (Fm.z).k, .string (Fm.z).s, .int .i64 (Fm.z).l, .int .i64 (Fm.z).r] 54) from hc4
    have HRF := show Hid _ from (HRF0.out.later hn3.bel).other hn3.blk (by decide) (by decide) hk4
    clear hn3 hc4 hk4 hge4 HX2 HAF2 HN4
    go_wp2_with fail
    go_ret2
    exact ⟨_, by rw [HA.out]; exact ⟨q, rfl, HRF.out⟩, HAF4.out.mono (by have := HNS.out; omega)⟩
  | ok d =>
    obtain rfl := HP2.out
    clear HP2
    unfold ndV
    go_wp2_with (refine wpList_alloc 54 rfl _ zeroNode rfl ?_)
    intro w3 br4 hn3
    go_wp2_with (refine wpList_st 54 rfl rfl _ _ rfl br4 rfl _ rfl _ _ hn3.blk sizeNode rfl (node_all d) ?_)
    intro w4 hc4 hk4
    have hge4 : w.heap.size ≤ br4 := Nat.le_trans HAF2.out.kp.size hn3.ge
    have HAF4 := show Hid _ from (HAF2.out.then hn3.bel).own hn3.blk (by decide) (by decide) hk4 hge4
    have HX4 := show Hid _ from Cl.kp (Cl.new HX2.out hn3) hk4 (by have := Cl.lt HX2.out; have := hn3.ge; omega)
    have HN4 := show Hid (Cl w4 br4 #[.int .i64 (d).k, .string (d).s, .int .i64 (d).l, .int .i64 (d).r] 54) from hc4
    clear hn3 hc4 hk4 hge4 HX2 HAF2
    have x0 : w4.cell? ⟨bx, 0, none⟩ = some (.int .i64 3) := Cl.cell HX4.out 0
    have x1 : w4.cell? ⟨bx, 1, none⟩ = some (.string Ty.e0) := Cl.cell HX4.out 1
    have x2 : w4.cell? ⟨bx, 2, none⟩ = some (.string Ty.e0) := Cl.cell HX4.out 2
    have x3 : w4.cell? ⟨bx, 3, none⟩ = some (.int .i64 0) := Cl.cell HX4.out 3
    have x4 : w4.cell? ⟨bx, 4, none⟩ = some (.slice p nk kc) := Cl.cell HX4.out 4
    have y2 : w4.cell? ⟨br4, 2, none⟩ = some (.int .i64 d.l) := Cl.cell HN4.out 2
    have y3 : w4.cell? ⟨br4, 3, none⟩ = some (.int .i64 d.r) := Cl.cell HN4.out 3
    go_wp2_with fail
    clear x0 x1 x2 x3 x4 y2 y3
    refine Calls.mono (KB.out w4 _ _ d.l HAF4.out (by have := HNS.out; omega)) ?_
    rintro e w5 ⟨wv5, hP5, haf5⟩
    have HX5 := show Hid _ from Cl.af HX4.out HAF4.out.ck haf5.kp (by decide) (by decide)
    have HN5 := show Hid _ from Cl.af HN4.out HAF4.out.ck haf5.kp (by decide) (by decide)
    have HAF5 := show Hid _ from HAF4.out.trans haf5
    have HP5 := show Hid _ from hP5
    clear hP5 haf5 HX4 HAF4 HN4 KB
    generalize Ty.chkd t b g (way ++ [1]) d.l = A5 at *
    cases A5 with
    | no er5 wy5 =>
      obtain ⟨q, rfl, hrf⟩ := HP5.out
      have HRF := show Hid _ from hrf
      have HA := show Hid (ANS = .no er5 wy5) from HANS.out
      clear HP5 hrf HANS
      go_wp2_with fail
      go_ret2
      exact ⟨_, by rw [HA.out]; exact ⟨q, rfl, HRF.out⟩, HAF5.out.mono (by have := HNS.out; omega)⟩
    | ok f5 =>
      obtain rfl := HP5.out
      clear HP5
      have HA := show Hid (ANS = .ok d.r) from HANS.out
      clear HANS
      have x0 : w5.cell? ⟨bx, 0, none⟩ = some (.int .i64 3) := Cl.cell HX5.out 0
      have x1 : w5.cell? ⟨bx, 1, none⟩ = some (.string Ty.e0) := Cl.cell HX5.out 1
      have x2 : w5.cell? ⟨bx, 2, none⟩ = some (.string Ty.e0) := Cl.cell HX5.out 2
      have x3 : w5.cell? ⟨bx, 3, none⟩ = some (.int .i64 0) := Cl.cell HX5.out 3
      have x4 : w5.cell? ⟨bx, 4, none⟩ = some (.slice p nk kc) := Cl.cell HX5.out 4
      have y2 : w5.cell? ⟨br4, 2, none⟩ = some (.int .i64 d.l) := Cl.cell HN5.out 2
      have y3 : w5.cell? ⟨br4, 3, none⟩ = some (.int .i64 d.r) := Cl.cell HN5.out 3
      go_wp2_with fail
      go_ret2
      exact ⟨_, by rw [HA.out]; exact (show (_ : Ending) = _ from rfl), HAF5.out.mono (by have := HNS.out; omega)⟩
set_option maxRecDepth 100000 in
set_option maxHeartbeats 4000000 in
theorem toldThe_the {B C m tb mt : Nat} {v : Value} {t : List Nd} {a : Ty.Tr}  {fo : Int} (hCa : ChkC B C m tb mt v t a) (w : World) {N : Nat} {g : Ty.Env} {wv sv : Value} {way : List Int} (hT : TbB w B tb mt v t) (h : Ck w B C m N (.pointer (some ⟨tb, 0, none⟩)) g wv way) (hB : B ≤ w.heap.size) (hK : Kid w B (Ty.Tr.the fo a).tm sv) (hG : Gt (Ty.Tr.the fo a).tm) (hn : N + 4 * (Ty.Tr.the fo a).size ≤ 90000000000000) (hw : way.length + (Ty.Tr.the fo a).size ≤ 900000) :
    Calls Tryd.prog 32 #[.pointer (some ⟨C, 0, none⟩), tmV (Ty.Tr.the fo a).tm sv] w fun r w' => ∃ wv2, TlP B w' r wv2 (Ty.told t (Ty.Tr.the fo a) g way) ∧ Af w w' B C m (N + 4 * (Ty.Tr.the fo a).size) (.pointer (some ⟨tb, 0, none⟩)) g wv wv2 way := by
  obtain ⟨p, nk, kc, rfl⟩ := hK.form
  obtain ⟨hgk, hgn, hgo, hgf⟩ := hG.parts
  have hgs := hG.sub
  have HB0 := show Hid (∀ W n' wv', Af w W B C m n' (.pointer (some ⟨tb, 0, none⟩)) g wv wv' way → Below B w W) from fun W n' wv' ha => h.below ha.kp hB
  have HBS := show Hid (∀ W n' wv', Af w W B C m n' (.pointer (some ⟨tb, 0, none⟩)) g wv wv' way → B ≤ W.heap.size) from fun W n' wv' ha => Nat.le_trans hB ha.kp.size
  have hsz : (Ty.Tr.the fo a).size = a.size + 1 := rfl
  have KL := show Hid (∀ (W : World) (n' : Nat) (wv' : Value) (f' : Int), Af w W B C m n' (.pointer (some ⟨tb, 0, none⟩)) g wv wv' way → Calls Tryd.prog 26 #[.pointer (some ⟨C, 0, none⟩), .int .i64 f'] W fun r w' => r = .returned (.bool (!Fm.has t f')) ∧ Below W.heap.size W w') from fun W n' wv' f' ha => lacks_any W ha.ck (hT.later (HB0.out W n' wv' ha)).here f'
  have KB := show Hid (∀ (W : World) (n' : Nat) (wv' : Value) (id' : Int), Af w W B C m n' (.pointer (some ⟨tb, 0, none⟩)) g wv wv' way → n' + 4 * a.size ≤ 90000000000000 → Calls Tryd.prog 56 #[.pointer (some ⟨C, 0, none⟩), (.agg #[.int .i64 11, .string Ty.e0, .string Ty.e0, .int .i64 fo, (.slice p nk kc)]), .int .i64 0, .int .i64 id'] W fun r w' => ∃ wv2, ChP B w' r wv2 (Ty.chkd t a g (way ++ [0]) id') ∧ Af W w' B C m (n' + 4 * a.size) (.pointer (some ⟨tb, 0, none⟩)) g wv' wv2 way) from fun W n' wv' id' ha hn' => checkedPart_any W 0 (show 0 < (Ty.Tr.the fo a).tm.sub.length from by simp [Ty.Tr.tm, Tm.sub]) rfl ha.ck (by omega) (HBS.out W n' wv' ha) (hK.below (HB0.out W n' wv' ha)) hgs.1 id' (fun W2 kv wv2 hW2 hk hc2 => hCa W2 n' g wv2 kv (way ++ [((0 : Nat) : Int)]) id' ((hT.later (HB0.out W n' wv' ha)).later hW2) hc2 (Nat.le_trans (HBS.out W n' wv' ha) hW2.size) hk (hgs.2 a.tm (by simp [Ty.Tr.tm, Tm.sub])) (by omega) (by simp; omega))
  have KR := show Hid (∀ (W : World) (n' : Nat) (wv' : Value), Af w W B C m n' (.pointer (some ⟨tb, 0, none⟩)) g wv wv' way → Calls Tryd.prog 24 #[.pointer (some ⟨C, 0, none⟩), .int .i64 31] W fun r w' => ∃ q, r = .returned (.iface 80 (.pointer (some ⟨q, 0, none⟩))) ∧ Rf w' B q 31 way wv' ∧ Below W.heap.size W w') from fun W n' wv' ha => refuse_any W ha.ck (by omega) (HBS.out W n' wv' ha) 31
  have HNS := show Hid ((Ty.Tr.the fo a).size = a.size + 1 ∧ N + 4 * (Ty.Tr.the fo a).size ≤ 90000000000000) from ⟨hsz, hn⟩
  have HANS := show Hid (Ty.told t (Ty.Tr.the fo a) g way = if Fm.has t fo then (Ty.chkd t a g (way ++ [0]) fo).bind fun _ => .ok fo else .no 31 way) from rfl
  generalize Ty.told t (Ty.Tr.the fo a) g way = ANS at *
  clear hsz hn HB0 HBS
  have HAF0 := show Hid (Af w w B C m N (.pointer (some ⟨tb, 0, none⟩)) g wv wv way) from Af.refl h
  have hq1 := neq_if
  have hq2 := neq_no
  clear hK h hT hG hgs hgk hgn hgo hgf hw hB hCa
  show Calls _ _ #[.pointer (some ⟨C, 0, none⟩), (.agg #[.int .i64 11, .string Ty.e0, .string Ty.e0, .int .i64 fo, (.slice p nk kc)])] _ _
  go_enter Tryd.func32, Tryd.ntmps32
  go_wp2_with (refine wpList_box 27 _ rfl _ rfl rfl ?_)
  intro w1 bx hn1
  have HX1 := show Hid (Cl w1 bx #[.int .i64 11, .string Ty.e0, .string Ty.e0, .int .i64 fo, .slice p nk kc] 27) from hn1.blk
  have HAF1 := show Hid _ from HAF0.out.then hn1.bel
  have hgx : w.heap.size ≤ bx := hn1.ge
  have HGX := show Hid (w.heap.size ≤ bx) from hgx
  clear hn1 HAF0 hgx
  have x0 : w1.cell? ⟨bx, 0, none⟩ = some (.int .i64 11) := Cl.cell HX1.out 0
  have x1 : w1.cell? ⟨bx, 1, none⟩ = some (.string Ty.e0) := Cl.cell HX1.out 1
  have x2 : w1.cell? ⟨bx, 2, none⟩ = some (.string Ty.e0) := Cl.cell HX1.out 2
  have x3 : w1.cell? ⟨bx, 3, none⟩ = some (.int .i64 fo) := Cl.cell HX1.out 3
  have x4 : w1.cell? ⟨bx, 4, none⟩ = some (.slice p nk kc) := Cl.cell HX1.out 4
  go_wp2_with fail
  clear x0 x1 x2 x3 x4
  refine Calls.mono (KL.out w1 _ _ fo HAF1.out) ?_
  rintro e w2 ⟨rfl, hb2⟩
  have HX2 := show Hid _ from Cl.later HX1.out hb2
  have HAF2 := show Hid _ from HAF1.out.then hb2
  clear HX1 HAF1 KL hb2
  cases hh : Fm.has t fo with
  | false =>
    have HA := show Hid (ANS = .no 31 way) from by have := HANS.out; rw [hh, if_neg Bool.false_ne_true] at this; exact this
    clear HANS hh
    have x0 : w2.cell? ⟨bx, 0, none⟩ = some (.int .i64 11) := Cl.cell HX2.out 0
    have x1 : w2.cell? ⟨bx, 1, none⟩ = some (.string Ty.e0) := Cl.cell HX2.out 1
    have x2 : w2.cell? ⟨bx, 2, none⟩ = some (.string Ty.e0) := Cl.cell HX2.out 2
    have x3 : w2.cell? ⟨bx, 3, none⟩ = some (.int .i64 fo) := Cl.cell HX2.out 3
    have x4 : w2.cell? ⟨bx, 4, none⟩ = some (.slice p nk kc) := Cl.cell HX2.out 4
    go_wp2_with fail
    clear x0 x1 x2 x3 x4
    refine Calls.mono (KR.out w2 _ _ HAF2.out) ?_
    rintro e w3 ⟨q, rfl, hrf, hb3⟩
    have HX3 := show Hid _ from Cl.later HX2.out hb3
    have HAF3 := show Hid _ from HAF2.out.then hb3
    clear HX2 HAF2 KR hb3
    have HRF := show Hid _ from hrf
    clear hrf
    go_wp2_with fail
    go_ret2
    exact ⟨_, by rw [HA.out]; exact ⟨q, rfl, HRF.out⟩, HAF3.out.mono (by have := HNS.out; omega)⟩
  | true =>
    have HANS2 := show Hid (ANS = (Ty.chkd t a g (way ++ [0]) fo).bind fun _ => .ok fo) from by have := HANS.out; rw [hh, if_pos rfl] at this; exact this
    clear HANS hh
    have HANS := show Hid _ from HANS2.out
    clear HANS2
    have x0 : w2.cell? ⟨bx, 0, none⟩ = some (.int .i64 11) := Cl.cell HX2.out 0
    have x1 : w2.cell? ⟨bx, 1, none⟩ = some (.string Ty.e0) := Cl.cell HX2.out 1
    have x2 : w2.cell? ⟨bx, 2, none⟩ = some (.string Ty.e0) := Cl.cell HX2.out 2
    have x3 : w2.cell? ⟨bx, 3, none⟩ = some (.int .i64 fo) := Cl.cell HX2.out 3
    have x4 : w2.cell? ⟨bx, 4, none⟩ = some (.slice p nk kc) := Cl.cell HX2.out 4
    go_wp2_with fail
    clear x0 x1 x2 x3 x4
    refine Calls.mono (KB.out w2 _ _ fo HAF2.out (by have := HNS.out; omega)) ?_
    rintro e w3 ⟨wv3, hP3, haf3⟩
    have HX3 := show Hid _ from Cl.af HX2.out HAF2.out.ck haf3.kp (by decide) (by decide)
    have HAF3 := show Hid _ from HAF2.out.trans haf3
    have HP3 := show Hid _ from hP3
    clear hP3 haf3 HX2 HAF2 KB
    generalize Ty.chkd t a g (way ++ [0]) fo = A3 at *
    cases A3 with
    | no er3 wy3 =>
      obtain ⟨q, rfl, hrf⟩ := HP3.out
      have HRF := show Hid _ from hrf
      have HA := show Hid (ANS = .no er3 wy3) from HANS.out
      clear HP3 hrf HANS
      go_wp2_with fail
      go_ret2
      exact ⟨_, by rw [HA.out]; exact ⟨q, rfl, HRF.out⟩, HAF3.out.mono (by have := HNS.out; omega)⟩
    | ok f3 =>
      obtain rfl := HP3.out
      clear HP3
      have HA := show Hid (ANS = .ok fo) from HANS.out
      clear HANS
      have x0 : w3.cell? ⟨bx, 0, none⟩ = some (.int .i64 11) := Cl.cell HX3.out 0
      have x1 : w3.cell? ⟨bx, 1, none⟩ = some (.string Ty.e0) := Cl.cell HX3.out 1
      have x2 : w3.cell? ⟨bx, 2, none⟩ = some (.string Ty.e0) := Cl.cell HX3.out 2
      have x3 : w3.cell? ⟨bx, 3, none⟩ = some (.int .i64 fo) := Cl.cell HX3.out 3
      have x4 : w3.cell? ⟨bx, 4, none⟩ = some (.slice p nk kc) := Cl.cell HX3.out 4
      go_wp2_with fail
      go_ret2
      exact ⟨_, by rw [HA.out]; exact (show (_ : Ending) = _ from rfl), HAF3.out.mono (by have := HNS.out; omega)⟩
set_option maxRecDepth 100000 in
set_option maxHeartbeats 4000000 in
theorem toldLet_lt {B C m tb mt : Nat} {v : Value} {t : List Nd} {a : Ty.Tr} {b : Ty.Tr} {nn : ByteArray} (hAa : TolC B C m tb mt v t a) (hAb : TolC B C m tb mt v t b) (w : World) {N : Nat} {g : Ty.Env} {wv sv : Value} {way : List Int} (hT : TbB w B tb mt v t) (h : Ck w B C m N (.pointer (some ⟨tb, 0, none⟩)) g wv way) (hB : B ≤ w.heap.size) (hK : Kid w B (Ty.Tr.lt nn a b).tm sv) (hG : Gt (Ty.Tr.lt nn a b).tm) (hn : N + 4 * (Ty.Tr.lt nn a b).size ≤ 90000000000000) (hw : way.length + (Ty.Tr.lt nn a b).size ≤ 900000) :
    Calls Tryd.prog 33 #[.pointer (some ⟨C, 0, none⟩), tmV (Ty.Tr.lt nn a b).tm sv] w fun r w' => ∃ wv2, TlP B w' r wv2 (Ty.told t (Ty.Tr.lt nn a b) g way) ∧ Af w w' B C m (N + 4 * (Ty.Tr.lt nn a b).size) (.pointer (some ⟨tb, 0, none⟩)) g wv wv2 way := by
  obtain ⟨p, nk, kc, rfl⟩ := hK.form
  obtain ⟨hgk, hgn, hgo, hgf⟩ := hG.parts
  have hgs := hG.sub
  have HB0 := show Hid (∀ W n' wv', Af w W B C m n' (.pointer (some ⟨tb, 0, none⟩)) g wv wv' way → Below B w W) from fun W n' wv' ha => h.below ha.kp hB
  have HBS := show Hid (∀ W n' wv', Af w W B C m n' (.pointer (some ⟨tb, 0, none⟩)) g wv wv' way → B ≤ W.heap.size) from fun W n' wv' ha => Nat.le_trans hB ha.kp.size
  have hsz : (Ty.Tr.lt nn a b).size = a.size + b.size + 1 := rfl
  have KP := show Hid (∀ (W : World) (n' : Nat) (wv' : Value), Af w W B C m n' (.pointer (some ⟨tb, 0, none⟩)) g wv wv' way → n' + 4 * a.size ≤ 90000000000000 → Calls Tryd.prog 57 #[.pointer (some ⟨C, 0, none⟩), (.agg #[.int .i64 12, .string nn, .string Ty.e0, .int .i64 0, (.slice p nk kc)]), .int .i64 0] W fun r w' => ∃ wv2, TlP B w' r wv2 (Ty.told t a g (way ++ [0])) ∧ Af W w' B C m (n' + 4 * a.size) (.pointer (some ⟨tb, 0, none⟩)) g wv' wv2 way) from fun W n' wv' ha hn' => toldPart_any W 0 (show 0 < (Ty.Tr.lt nn a b).tm.sub.length from by simp [Ty.Tr.tm, Tm.sub]) rfl ha.ck (by omega) (HBS.out W n' wv' ha) (hK.below (HB0.out W n' wv' ha)) hgs.1 (fun W2 kv wv2 hW2 hk hc2 => hAa W2 n' g wv2 kv (way ++ [((0 : Nat) : Int)]) ((hT.later (HB0.out W n' wv' ha)).later hW2) hc2 (Nat.le_trans (HBS.out W n' wv' ha) hW2.size) hk (hgs.2 a.tm (by simp [Ty.Tr.tm, Tm.sub])) (by omega) (by simp; omega))
  have KW := show Hid (∀ (W : World) (n' : Nat) (wv' : Value) (f' : Int), Af w W B C m n' (.pointer (some ⟨tb, 0, none⟩)) g wv wv' way → n' + 4 * b.size + 2 ≤ 90000000000000 → Calls Tryd.prog 59 #[.pointer (some ⟨C, 0, none⟩), (.agg #[.int .i64 12, .string nn, .string Ty.e0, .int .i64 0, (.slice p nk kc)]), .int .i64 1, .string nn, .int .i64 f'] W fun r w' => ∃ wv2, TlP B w' r wv2 (Ty.told t b (Ty.upd g nn f') (way ++ [1])) ∧ Af W w' B C m (n' + 1 + 4 * b.size + 1) (.pointer (some ⟨tb, 0, none⟩)) g wv' wv2 way) from fun W n' wv' f' ha hn' => toldWith_any W 1 (show 1 < (Ty.Tr.lt nn a b).tm.sub.length from by simp [Ty.Tr.tm, Tm.sub]) rfl ha.ck (by omega) (HBS.out W n' wv' ha) (hK.below (HB0.out W n' wv' ha)) hgs.1 (by omega) (by omega) nn hgn f' (fun W2 kv wv2 hW2 hk hc2 => hAb W2 (n' + 1) (Ty.upd g nn f') wv2 kv (way ++ [((1 : Nat) : Int)]) ((hT.later (HB0.out W n' wv' ha)).later hW2) hc2 (Nat.le_trans (HBS.out W n' wv' ha) hW2.size) hk (hgs.2 b.tm (by simp [Ty.Tr.tm, Tm.sub])) (by omega) (by simp; omega))
  have HNS := show Hid ((Ty.Tr.lt nn a b).size = a.size + b.size + 1 ∧ N + 4 * (Ty.Tr.lt nn a b).size ≤ 90000000000000) from ⟨hsz, hn⟩
  have HANS := show Hid (Ty.told t (Ty.Tr.lt nn a b) g way = (Ty.told t a g (way ++ [0])).bind fun f => Ty.told t b (Ty.upd g nn f) (way ++ [1])) from rfl
  generalize Ty.told t (Ty.Tr.lt nn a b) g way = ANS at *
  clear hsz hn HB0 HBS
  have HAF0 := show Hid (Af w w B C m N (.pointer (some ⟨tb, 0, none⟩)) g wv wv way) from Af.refl h
  have hq1 := neq_if
  have hq2 := neq_no
  clear hK h hT hG hgs hgk hgn hgo hgf hw hB hAa hAb
  show Calls _ _ #[.pointer (some ⟨C, 0, none⟩), (.agg #[.int .i64 12, .string nn, .string Ty.e0, .int .i64 0, (.slice p nk kc)])] _ _
  go_enter Tryd.func33, Tryd.ntmps33
  go_wp2_with (refine wpList_box 27 _ rfl _ rfl rfl ?_)
  intro w1 bx hn1
  have HX1 := show Hid (Cl w1 bx #[.int .i64 12, .string nn, .string Ty.e0, .int .i64 0, .slice p nk kc] 27) from hn1.blk
  have HAF1 := show Hid _ from HAF0.out.then hn1.bel
  have hgx : w.heap.size ≤ bx := hn1.ge
  have HGX := show Hid (w.heap.size ≤ bx) from hgx
  clear hn1 HAF0 hgx
  have x0 : w1.cell? ⟨bx, 0, none⟩ = some (.int .i64 12) := Cl.cell HX1.out 0
  have x1 : w1.cell? ⟨bx, 1, none⟩ = some (.string nn) := Cl.cell HX1.out 1
  have x2 : w1.cell? ⟨bx, 2, none⟩ = some (.string Ty.e0) := Cl.cell HX1.out 2
  have x3 : w1.cell? ⟨bx, 3, none⟩ = some (.int .i64 0) := Cl.cell HX1.out 3
  have x4 : w1.cell? ⟨bx, 4, none⟩ = some (.slice p nk kc) := Cl.cell HX1.out 4
  go_wp2_with fail
  clear x0 x1 x2 x3 x4
  refine Calls.mono (KP.out w1 _ _ HAF1.out (by have := HNS.out; omega)) ?_
  rintro e w2 ⟨wv2, hP2, haf2⟩
  have HX2 := show Hid _ from Cl.af HX1.out HAF1.out.ck haf2.kp (by decide) (by decide)
  have HAF2 := show Hid _ from HAF1.out.trans haf2
  have HP2 := show Hid _ from hP2
  clear hP2 haf2 HX1 HAF1 KP
  generalize Ty.told t a g (way ++ [0]) = A2 at *
  cases A2 with
  | no er2 wy2 =>
    obtain ⟨q, rfl, hrf⟩ := HP2.out
    have HRF := show Hid _ from hrf
    have HA := show Hid (ANS = .no er2 wy2) from HANS.out
    clear HP2 hrf HANS
    go_wp2_with fail
    go_ret2
    exact ⟨_, by rw [HA.out]; exact ⟨q, rfl, HRF.out⟩, HAF2.out.mono (by have := HNS.out; omega)⟩
  | ok f2 =>
    obtain rfl := HP2.out
    clear HP2
    have HANS2 := show Hid (ANS = Ty.told t b (Ty.upd g nn f2) (way ++ [1])) from HANS.out
    clear HANS
    have HANS := show Hid _ from HANS2.out
    clear HANS2
    have x0 : w2.cell? ⟨bx, 0, none⟩ = some (.int .i64 12) := Cl.cell HX2.out 0
    have x1 : w2.cell? ⟨bx, 1, none⟩ = some (.string nn) := Cl.cell HX2.out 1
    have x2 : w2.cell? ⟨bx, 2, none⟩ = some (.string Ty.e0) := Cl.cell HX2.out 2
    have x3 : w2.cell? ⟨bx, 3, none⟩ = some (.int .i64 0) := Cl.cell HX2.out 3
    have x4 : w2.cell? ⟨bx, 4, none⟩ = some (.slice p nk kc) := Cl.cell HX2.out 4
    go_wp2_with fail
    clear x0 x1 x2 x3 x4
    refine Calls.mono (KW.out w2 _ _ f2 HAF2.out (by have := HNS.out; omega)) ?_
    rintro e w3 ⟨wv3, hP3, haf3⟩
    have HX3 := show Hid _ from Cl.af HX2.out HAF2.out.ck haf3.kp (by decide) (by decide)
    have HAF3 := show Hid _ from HAF2.out.trans haf3
    have HP3 := show Hid _ from hP3
    clear hP3 haf3 HX2 HAF2 KW
    generalize Ty.told t b (Ty.upd g nn f2) (way ++ [1]) = A3 at *
    cases A3 with
    | no er3 wy3 =>
      obtain ⟨q, rfl, hrf⟩ := HP3.out
      have HRF := show Hid _ from hrf
      have HA := show Hid (ANS = .no er3 wy3) from HANS.out
      clear HP3 hrf HANS
      go_wp2_with fail
      go_ret2
      exact ⟨_, by rw [HA.out]; exact ⟨q, rfl, HRF.out⟩, HAF3.out.mono (by have := HNS.out; omega)⟩
    | ok f3 =>
      obtain rfl := HP3.out
      clear HP3
      have HA := show Hid (ANS = .ok f3) from HANS.out
      clear HANS
      go_wp2_with fail
      go_ret2
      exact ⟨_, by rw [HA.out]; exact (show (_ : Ending) = _ from rfl), HAF3.out.mono (by have := HNS.out; omega)⟩
set_option maxRecDepth 100000 in
set_option maxHeartbeats 4000000 in
theorem toldCase_cas {B C m tb mt : Nat} {v : Value} {t : List Nd} {a : Ty.Tr} {b : Ty.Tr} {c : Ty.Tr} {nn : ByteArray} {oo : ByteArray} (hAa : TolC B C m tb mt v t a) (hAb : TolC B C m tb mt v t b) (hAc : TolC B C m tb mt v t c) (w : World) {N : Nat} {g : Ty.Env} {wv sv : Value} {way : List Int} (hT : TbB w B tb mt v t) (h : Ck w B C m N (.pointer (some ⟨tb, 0, none⟩)) g wv way) (hB : B ≤ w.heap.size) (hK : Kid w B (Ty.Tr.cas nn oo a b c).tm sv) (hG : Gt (Ty.Tr.cas nn oo a b c).tm) (hn : N + 4 * (Ty.Tr.cas nn oo a b c).size ≤ 90000000000000) (hw : way.length + (Ty.Tr.cas nn oo a b c).size ≤ 900000) :
    Calls Tryd.prog 34 #[.pointer (some ⟨C, 0, none⟩), tmV (Ty.Tr.cas nn oo a b c).tm sv] w fun r w' => ∃ wv2, TlP B w' r wv2 (Ty.told t (Ty.Tr.cas nn oo a b c) g way) ∧ Af w w' B C m (N + 4 * (Ty.Tr.cas nn oo a b c).size) (.pointer (some ⟨tb, 0, none⟩)) g wv wv2 way := by
  obtain ⟨p, nk, kc, rfl⟩ := hK.form
  obtain ⟨hgk, hgn, hgo, hgf⟩ := hG.parts
  have hgs := hG.sub
  have HB0 := show Hid (∀ W n' wv', Af w W B C m n' (.pointer (some ⟨tb, 0, none⟩)) g wv wv' way → Below B w W) from fun W n' wv' ha => h.below ha.kp hB
  have HBS := show Hid (∀ W n' wv', Af w W B C m n' (.pointer (some ⟨tb, 0, none⟩)) g wv wv' way → B ≤ W.heap.size) from fun W n' wv' ha => Nat.le_trans hB ha.kp.size
  have hsz : (Ty.Tr.cas nn oo a b c).size = a.size + b.size + c.size + 1 := rfl
  have KJ := show Hid (∀ (W : World) (n' : Nat) (wv' : Value), Af w W B C m n' (.pointer (some ⟨tb, 0, none⟩)) g wv wv' way → n' + 4 * a.size ≤ 90000000000000 → Calls Tryd.prog 31 #[.pointer (some ⟨C, 0, none⟩), (.agg #[.int .i64 9, .string nn, .string oo, .int .i64 0, (.slice p nk kc)]), .int .i64 4] W fun r w' => ∃ wv2, NdP B w' r wv2 (jnR t way 4 (Ty.told t a g (way ++ [0]))) ∧ Af W w' B C m (n' + 4 * a.size) (.pointer (some ⟨tb, 0, none⟩)) g wv' wv2 way) from fun W n' wv' ha hn' => toldJoined_any hAa W (show 0 < (Ty.Tr.cas nn oo a b c).tm.sub.length from by simp [Ty.Tr.tm, Tm.sub]) rfl (hT.later (HB0.out W n' wv' ha)) ha.ck (HBS.out W n' wv' ha) (hK.below (HB0.out W n' wv' ha)) hG hn' (by omega) 4
  have KW := show Hid (∀ (W : World) (n' : Nat) (wv' : Value) (f' : Int), Af w W B C m n' (.pointer (some ⟨tb, 0, none⟩)) g wv wv' way → n' + 4 * b.size + 2 ≤ 90000000000000 → Calls Tryd.prog 59 #[.pointer (some ⟨C, 0, none⟩), (.agg #[.int .i64 9, .string nn, .string oo, .int .i64 0, (.slice p nk kc)]), .int .i64 1, .string nn, .int .i64 f'] W fun r w' => ∃ wv2, TlP B w' r wv2 (Ty.told t b (Ty.upd g nn f') (way ++ [1])) ∧ Af W w' B C m (n' + 1 + 4 * b.size + 1) (.pointer (some ⟨tb, 0, none⟩)) g wv' wv2 way) from fun W n' wv' f' ha hn' => toldWith_any W 1 (show 1 < (Ty.Tr.cas nn oo a b c).tm.sub.length from by simp [Ty.Tr.tm, Tm.sub]) rfl ha.ck (by omega) (HBS.out W n' wv' ha) (hK.below (HB0.out W n' wv' ha)) hgs.1 (by omega) (by omega) nn hgn f' (fun W2 kv wv2 hW2 hk hc2 => hAb W2 (n' + 1) (Ty.upd g nn f') wv2 kv (way ++ [((1 : Nat) : Int)]) ((hT.later (HB0.out W n' wv' ha)).later hW2) hc2 (Nat.le_trans (HBS.out W n' wv' ha) hW2.size) hk (hgs.2 b.tm (by simp [Ty.Tr.tm, Tm.sub])) (by omega) (by simp; omega))
  have KV := show Hid (∀ (W : World) (n' : Nat) (wv' : Value) (f' : Int), Af w W B C m n' (.pointer (some ⟨tb, 0, none⟩)) g wv wv' way → n' + 4 * c.size + 2 ≤ 90000000000000 → Calls Tryd.prog 59 #[.pointer (some ⟨C, 0, none⟩), (.agg #[.int .i64 9, .string nn, .string oo, .int .i64 0, (.slice p nk kc)]), .int .i64 2, .string oo, .int .i64 f'] W fun r w' => ∃ wv2, TlP B w' r wv2 (Ty.told t c (Ty.upd g oo f') (way ++ [2])) ∧ Af W w' B C m (n' + 1 + 4 * c.size + 1) (.pointer (some ⟨tb, 0, none⟩)) g wv' wv2 way) from fun W n' wv' f' ha hn' => toldWith_any W 2 (show 2 < (Ty.Tr.cas nn oo a b c).tm.sub.length from by simp [Ty.Tr.tm, Tm.sub]) rfl ha.ck (by omega) (HBS.out W n' wv' ha) (hK.below (HB0.out W n' wv' ha)) hgs.1 (by omega) (by omega) oo hgo f' (fun W2 kv wv2 hW2 hk hc2 => hAc W2 (n' + 1) (Ty.upd g oo f') wv2 kv (way ++ [((2 : Nat) : Int)]) ((hT.later (HB0.out W n' wv' ha)).later hW2) hc2 (Nat.le_trans (HBS.out W n' wv' ha) hW2.size) hk (hgs.2 c.tm (by simp [Ty.Tr.tm, Tm.sub])) (by omega) (by simp; omega))
  have KR := show Hid (∀ (W : World) (n' : Nat) (wv' : Value), Af w W B C m n' (.pointer (some ⟨tb, 0, none⟩)) g wv wv' way → Calls Tryd.prog 24 #[.pointer (some ⟨C, 0, none⟩), .int .i64 130] W fun r w' => ∃ q, r = .returned (.iface 80 (.pointer (some ⟨q, 0, none⟩))) ∧ Rf w' B q 130 way wv' ∧ Below W.heap.size W w') from fun W n' wv' ha => refuse_any W ha.ck (by omega) (HBS.out W n' wv' ha) 130
  have HNS := show Hid ((Ty.Tr.cas nn oo a b c).size = a.size + b.size + c.size + 1 ∧ N + 4 * (Ty.Tr.cas nn oo a b c).size ≤ 90000000000000) from ⟨hsz, hn⟩
  have HANS := show Hid (Ty.told t (Ty.Tr.cas nn oo a b c) g way = match jnR t way 4 (Ty.told t a g (way ++ [0])) with | .error e => .no e.1 e.2 | .ok d => (Ty.told t b (Ty.upd g nn d.l) (way ++ [1])).bind fun x => (Ty.told t c (Ty.upd g oo d.r) (way ++ [2])).bind fun y => if x = y then .ok x else .no 130 way) from jn_is t way 4 _ _
  generalize jnR t way 4 (Ty.told t a g (way ++ [0])) = J at *
  generalize Ty.told t (Ty.Tr.cas nn oo a b c) g way = ANS at *
  clear hsz hn HB0 HBS
  have HAF0 := show Hid (Af w w B C m N (.pointer (some ⟨tb, 0, none⟩)) g wv wv way) from Af.refl h
  have hq1 := neq_if
  have hq2 := neq_no
  clear hK h hT hG hgs hgk hgn hgo hgf hw hB hAa hAb hAc
  show Calls _ _ #[.pointer (some ⟨C, 0, none⟩), (.agg #[.int .i64 9, .string nn, .string oo, .int .i64 0, (.slice p nk kc)])] _ _
  go_enter Tryd.func34, Tryd.ntmps34
  go_wp2_with (refine wpList_box 27 _ rfl _ rfl rfl ?_)
  intro w1 bx hn1
  have HX1 := show Hid (Cl w1 bx #[.int .i64 9, .string nn, .string oo, .int .i64 0, .slice p nk kc] 27) from hn1.blk
  have HAF1 := show Hid _ from HAF0.out.then hn1.bel
  have hgx : w.heap.size ≤ bx := hn1.ge
  have HGX := show Hid (w.heap.size ≤ bx) from hgx
  clear hn1 HAF0 hgx
  have x0 : w1.cell? ⟨bx, 0, none⟩ = some (.int .i64 9) := Cl.cell HX1.out 0
  have x1 : w1.cell? ⟨bx, 1, none⟩ = some (.string nn) := Cl.cell HX1.out 1
  have x2 : w1.cell? ⟨bx, 2, none⟩ = some (.string oo) := Cl.cell HX1.out 2
  have x3 : w1.cell? ⟨bx, 3, none⟩ = some (.int .i64 0) := Cl.cell HX1.out 3
  have x4 : w1.cell? ⟨bx, 4, none⟩ = some (.slice p nk kc) := Cl.cell HX1.out 4
  go_wp2_with fail
  clear x0 x1 x2 x3 x4
  refine Calls.mono (KJ.out w1 _ _ HAF1.out (by have := HNS.out; omega)) ?_
  rintro e w2 ⟨wv2, hP2, haf2⟩
  have HX2 := show Hid _ from Cl.af HX1.out HAF1.out.ck haf2.kp (by decide) (by decide)
  have HAF2 := show Hid _ from HAF1.out.trans haf2
  have HP2 := show Hid _ from hP2
  clear hP2 haf2 HX1 HAF1 KJ
  cases J with
  | error er =>
    obtain ⟨q, rfl, hrf⟩ := HP2.out
    have HRF0 := show Hid _ from hrf
    have hA : ANS = .no er.1 er.2 := HANS.out
    have HA := show Hid (ANS = .no er.1 er.2) from hA
    clear HP2 hrf hA HANS
    unfold ndV
    go_wp2_with (refine wpList_alloc 54 rfl _ zeroNode rfl ?_)
    intro w3 br4 hn3
    go_wp2_with (refine wpList_st 54 rfl rfl _ _ rfl br4 rfl _ rfl _ _ hn3.blk sizeNode rfl (node_all Fm.z) ?_)
    intro w4 hc4 hk4
    have hge4 : w.heap.size ≤ br4 := Nat.le_trans HAF2.out.kp.size hn3.ge
    have HAF4 := show Hid _ from (HAF2.out.then hn3.bel).own hn3.blk (by decide) (by decide) hk4 hge4
    have HX4 := show Hid _ from Cl.kp (Cl.new HX2.out hn3) hk4 (by have := Cl.lt HX2.out; have := hn3.ge; omega)
    have HN4 := show Hid (Cl w4 br4 #[.int .i64 (Fm.z).k, .string (Fm.z).s, .int .i64 (Fm.z).l, .int .i64 (Fm.z).r] 54) from hc4
    have HRF := show Hid _ from (HRF0.out.later hn3.bel).other hn3.blk (by decide) (by decide) hk4
    clear hn3 hc4 hk4 hge4 HX2 HAF2 HN4
    go_wp2_with fail
    go_ret2
    exact ⟨_, by rw [HA.out]; exact ⟨q, rfl, HRF.out⟩, HAF4.out.mono (by have := HNS.out; omega)⟩
  | ok d =>
    obtain rfl := HP2.out
    clear HP2
    unfold ndV
    go_wp2_with (refine wpList_alloc 54 rfl _ zeroNode rfl ?_)
    intro w3 br4 hn3
    go_wp2_with (refine wpList_st 54 rfl rfl _ _ rfl br4 rfl _ rfl _ _ hn3.blk sizeNode rfl (node_all d) ?_)
    intro w4 hc4 hk4
    have hge4 : w.heap.size ≤ br4 := Nat.le_trans HAF2.out.kp.size hn3.ge
    have HAF4 := show Hid _ from (HAF2.out.then hn3.bel).own hn3.blk (by decide) (by decide) hk4 hge4
    have HX4 := show Hid _ from Cl.kp (Cl.new HX2.out hn3) hk4 (by have := Cl.lt HX2.out; have := hn3.ge; omega)
    have HN4 := show Hid (Cl w4 br4 #[.int .i64 (d).k, .string (d).s, .int .i64 (d).l, .int .i64 (d).r] 54) from hc4
    clear hn3 hc4 hk4 hge4 HX2 HAF2
    have x0 : w4.cell? ⟨bx, 0, none⟩ = some (.int .i64 9) := Cl.cell HX4.out 0
    have x1 : w4.cell? ⟨bx, 1, none⟩ = some (.string nn) := Cl.cell HX4.out 1
    have x2 : w4.cell? ⟨bx, 2, none⟩ = some (.string oo) := Cl.cell HX4.out 2
    have x3 : w4.cell? ⟨bx, 3, none⟩ = some (.int .i64 0) := Cl.cell HX4.out 3
    have x4 : w4.cell? ⟨bx, 4, none⟩ = some (.slice p nk kc) := Cl.cell HX4.out 4
    have y2 : w4.cell? ⟨br4, 2, none⟩ = some (.int .i64 d.l) := Cl.cell HN4.out 2
    have y3 : w4.cell? ⟨br4, 3, none⟩ = some (.int .i64 d.r) := Cl.cell HN4.out 3
    go_wp2_with fail
    clear x0 x1 x2 x3 x4 y2 y3
    refine Calls.mono (KW.out w4 _ _ d.l HAF4.out (by have := HNS.out; omega)) ?_
    rintro e w5 ⟨wv5, hP5, haf5⟩
    have HX5 := show Hid _ from Cl.af HX4.out HAF4.out.ck haf5.kp (by decide) (by decide)
    have HN5 := show Hid _ from Cl.af HN4.out HAF4.out.ck haf5.kp (by decide) (by decide)
    have HAF5 := show Hid _ from HAF4.out.trans haf5
    have HP5 := show Hid _ from hP5
    clear hP5 haf5 HX4 HAF4 HN4 KW
    generalize Ty.told t b (Ty.upd g nn d.l) (way ++ [1]) = A5 at *
    cases A5 with
    | no er5 wy5 =>
      obtain ⟨q, rfl, hrf⟩ := HP5.out
      have HRF := show Hid _ from hrf
      have HA := show Hid (ANS = .no er5 wy5) from HANS.out
      clear HP5 hrf HANS
      go_wp2_with fail
      go_ret2
      exact ⟨_, by rw [HA.out]; exact ⟨q, rfl, HRF.out⟩, HAF5.out.mono (by have := HNS.out; omega)⟩
    | ok f5 =>
      obtain rfl := HP5.out
      clear HP5
      have HANS2 := show Hid (ANS = (Ty.told t c (Ty.upd g oo d.r) (way ++ [2])).bind fun y => if f5 = y then .ok f5 else .no 130 way) from HANS.out
      clear HANS
      have HANS := show Hid _ from HANS2.out
      clear HANS2
      have x0 : w5.cell? ⟨bx, 0, none⟩ = some (.int .i64 9) := Cl.cell HX5.out 0
      have x1 : w5.cell? ⟨bx, 1, none⟩ = some (.string nn) := Cl.cell HX5.out 1
      have x2 : w5.cell? ⟨bx, 2, none⟩ = some (.string oo) := Cl.cell HX5.out 2
      have x3 : w5.cell? ⟨bx, 3, none⟩ = some (.int .i64 0) := Cl.cell HX5.out 3
      have x4 : w5.cell? ⟨bx, 4, none⟩ = some (.slice p nk kc) := Cl.cell HX5.out 4
      have y2 : w5.cell? ⟨br4, 2, none⟩ = some (.int .i64 d.l) := Cl.cell HN5.out 2
      have y3 : w5.cell? ⟨br4, 3, none⟩ = some (.int .i64 d.r) := Cl.cell HN5.out 3
      go_wp2_with fail
      clear x0 x1 x2 x3 x4 y2 y3
      refine Calls.mono (KV.out w5 _ _ d.r HAF5.out (by have := HNS.out; omega)) ?_
      rintro e w6 ⟨wv6, hP6, haf6⟩
      have HX6 := show Hid _ from Cl.af HX5.out HAF5.out.ck haf6.kp (by decide) (by decide)
      have HN6 := show Hid _ from Cl.af HN5.out HAF5.out.ck haf6.kp (by decide) (by decide)
      have HAF6 := show Hid _ from HAF5.out.trans haf6
      have HP6 := show Hid _ from hP6
      clear hP6 haf6 HX5 HAF5 HN5 KV
      generalize Ty.told t c (Ty.upd g oo d.r) (way ++ [2]) = A6 at *
      cases A6 with
      | no er6 wy6 =>
        obtain ⟨q, rfl, hrf⟩ := HP6.out
        have HRF := show Hid _ from hrf
        have HA := show Hid (ANS = .no er6 wy6) from HANS.out
        clear HP6 hrf HANS
        go_wp2_with fail
        go_ret2
        exact ⟨_, by rw [HA.out]; exact ⟨q, rfl, HRF.out⟩, HAF6.out.mono (by have := HNS.out; omega)⟩
      | ok f6 =>
        obtain rfl := HP6.out
        clear HP6
        by_cases hxy : f5 = f6
        · have HA := show Hid (ANS = .ok f5) from by have := HANS.out; exact this.trans (if_pos hxy)
          have hxb : (f5 != f6) = false := by simpa using hxy
          clear HANS hxy
          go_wp2_with fail
          go_ret2
          exact ⟨_, by rw [HA.out]; exact (show (_ : Ending) = _ from rfl), HAF6.out.mono (by have := HNS.out; omega)⟩
        · have HA := show Hid (ANS = .no 130 way) from by have := HANS.out; exact this.trans (if_neg hxy)
          have hxb : (f5 != f6) = true := by simpa using hxy
          clear HANS hxy
          have x0 : w6.cell? ⟨bx, 0, none⟩ = some (.int .i64 9) := Cl.cell HX6.out 0
          have x1 : w6.cell? ⟨bx, 1, none⟩ = some (.string nn) := Cl.cell HX6.out 1
          have x2 : w6.cell? ⟨bx, 2, none⟩ = some (.string oo) := Cl.cell HX6.out 2
          have x3 : w6.cell? ⟨bx, 3, none⟩ = some (.int .i64 0) := Cl.cell HX6.out 3
          have x4 : w6.cell? ⟨bx, 4, none⟩ = some (.slice p nk kc) := Cl.cell HX6.out 4
          have y2 : w6.cell? ⟨br4, 2, none⟩ = some (.int .i64 d.l) := Cl.cell HN6.out 2
          have y3 : w6.cell? ⟨br4, 3, none⟩ = some (.int .i64 d.r) := Cl.cell HN6.out 3
          go_wp2_with fail
          clear x0 x1 x2 x3 x4 y2 y3
          refine Calls.mono (KR.out w6 _ _ HAF6.out) ?_
          rintro e w7 ⟨q, rfl, hrf, hb7⟩
          have HX7 := show Hid _ from Cl.later HX6.out hb7
          have HN7 := show Hid _ from Cl.later HN6.out hb7
          have HAF7 := show Hid _ from HAF6.out.then hb7
          clear HX6 HAF6 HN6 KR hb7
          have HRF := show Hid _ from hrf
          clear hrf
          go_wp2_with fail
          go_ret2
          exact ⟨_, by rw [HA.out]; exact ⟨q, rfl, HRF.out⟩, HAF7.out.mono (by have := HNS.out; omega)⟩
end Go.Proofs.YtkpbpecikibohaaDoor.Ya
