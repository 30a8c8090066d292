/-
  checkedLam, checkedPair, checkedSide, checkedCase, checkedLet, out of what is answered of the parts. No condition but sizes. (Written by genycalls.py.)
-/
import Derived.Test.YtkpbpecikibohaaDoorYRec
namespace Go.Proofs.YtkpbpecikibohaaDoor.Ya
open Go.RowKit Go.Maps
open Fm (Nd)
open Ty (Tm An)
set_option linter.unusedSimpArgs false
set_option maxRecDepth 100000 in
set_option maxHeartbeats 4000000 in
theorem checkedLam_lam {B C m tb mt : Nat} {v : Value} {t : List Nd} {a : Ty.Tr} {n : ByteArray} (hCa : ChkC B C m tb mt v t a) (w : World) {N : Nat} {g : Ty.Env} {wv sv : Value} {way : List Int} (id : Int) (hT : TbB w B tb mt v t) (h : Ck w B C m N (.pointer (some ⟨tb, 0, none⟩)) g wv way) (hB : B ≤ w.heap.size) (hK : Kid w B (Ty.Tr.lam n a).tm sv) (hG : Gt (Ty.Tr.lam n a).tm) (hn : N + 4 * (Ty.Tr.lam n a).size ≤ 90000000000000) (hw : way.length + (Ty.Tr.lam n a).size ≤ 900000) :
    Calls Tryd.prog 39 #[.pointer (some ⟨C, 0, none⟩), tmV (Ty.Tr.lam n a).tm sv, .int .i64 id] w fun r w' => ∃ wv2, ChP B w' r wv2 (Ty.chkd t (Ty.Tr.lam n a) g way id) ∧ Af w w' B C m (N + 4 * (Ty.Tr.lam n a).size) (.pointer (some ⟨tb, 0, none⟩)) g wv wv2 way := by
  obtain ⟨p, nk, kc, rfl⟩ := hK.form
  obtain ⟨hgk, hgn, hgo, hgf⟩ := hG.parts
  have hgs := hG.sub
  have HB0 := show Hid (∀ W n' wv', Af w W B C m n' (.pointer (some ⟨tb, 0, none⟩)) g wv wv' way → Below B w W) from fun W n' wv' ha => h.below ha.kp hB
  have HBS := show Hid (∀ W n' wv', Af w W B C m n' (.pointer (some ⟨tb, 0, none⟩)) g wv wv' way → B ≤ W.heap.size) from fun W n' wv' ha => Nat.le_trans hB ha.kp.size
  have hsz : (Ty.Tr.lam n a).size = a.size + 1 := rfl
  have KN := show Hid (∀ (W : World) (n' : Nat) (wv' : Value), Af w W B C m n' (.pointer (some ⟨tb, 0, none⟩)) g wv wv' way → Calls Tryd.prog 58 #[.pointer (some ⟨C, 0, none⟩), .int .i64 id, .int .i64 5] W fun r w' => NdP B w' r wv' (jnR t way 5 (.ok id)) ∧ Below W.heap.size W w') from fun W n' wv' ha => (joined_any W ha.ck (hT.later (HB0.out W n' wv' ha)).here (by omega) (HBS.out W n' wv' ha) id 5).mono fun r w' hj => hj.nd
  have KW := show Hid (∀ (W : World) (n' : Nat) (wv' : Value) (f' : Int) (id' : Int), Af w W B C m n' (.pointer (some ⟨tb, 0, none⟩)) g wv wv' way → n' + 4 * a.size + 2 ≤ 90000000000000 → Calls Tryd.prog 64 #[.pointer (some ⟨C, 0, none⟩), (.agg #[.int .i64 2, .string n, .string Ty.e0, .int .i64 0, (.slice p nk kc)]), .int .i64 0, .string n, .int .i64 f', .int .i64 id'] W fun r w' => ∃ wv2, ChP B w' r wv2 (Ty.chkd t a (Ty.upd g n f') (way ++ [0]) id') ∧ Af W w' B C m (n' + 1 + 4 * a.size + 1) (.pointer (some ⟨tb, 0, none⟩)) g wv' wv2 way) from fun W n' wv' f' id' ha hn' => checkedWith_any W 0 (show 0 < (Ty.Tr.lam n a).tm.sub.length from by simp [Ty.Tr.tm, Tm.sub]) rfl ha.ck (by omega) (HBS.out W n' wv' ha) (hK.below (HB0.out W n' wv' ha)) hgs.1 (by omega) (by omega) n hgn f' id' (fun W2 kv wv2 hW2 hk hc2 => hCa W2 (n' + 1) (Ty.upd g n f') wv2 kv (way ++ [((0 : Nat) : Int)]) id' ((hT.later (HB0.out W n' wv' ha)).later hW2) hc2 (Nat.le_trans (HBS.out W n' wv' ha) hW2.size) hk (hgs.2 a.tm (by simp [Ty.Tr.tm, Tm.sub])) (by omega) (by simp; omega))
  have HNS := show Hid ((Ty.Tr.lam n a).size = a.size + 1 ∧ N + 4 * (Ty.Tr.lam n a).size ≤ 90000000000000) from ⟨hsz, hn⟩
  have HANS := show Hid (Ty.chkd t (Ty.Tr.lam n a) g way id = match jnR t way 5 (.ok id) with | .error e => .no e.1 e.2 | .ok d => Ty.chkd t a (Ty.upd g n d.l) (way ++ [0]) d.r) from jn_is t way 5 (.ok id) (fun d => Ty.chkd t a (Ty.upd g n d.l) (way ++ [0]) d.r)
  generalize jnR t way 5 (.ok id) = J at *
  generalize Ty.chkd t (Ty.Tr.lam n a) g way id = ANS at *
  clear hsz hn HB0 HBS
  have HAF0 := show Hid (Af w w B C m N (.pointer (some ⟨tb, 0, none⟩)) g wv wv way) from Af.refl h
  have hq1 := neq_if
  have hq2 := neq_no
  clear hK h hT hG hgs hgk hgn hgo hgf hw hB hCa
  show Calls _ _ #[.pointer (some ⟨C, 0, none⟩), (.agg #[.int .i64 2, .string n, .string Ty.e0, .int .i64 0, (.slice p nk kc)]), .int .i64 id] _ _
  go_enter Tryd.func39, Tryd.ntmps39
  go_wp2_with (refine wpList_box 27 _ rfl _ rfl rfl ?_)
  intro w1 bx hn1
  have HX1 := show Hid (Cl w1 bx #[.int .i64 2, .string n, .string Ty.e0, .int .i64 0, .slice p nk kc] 27) from hn1.blk
  have HAF1 := show Hid _ from HAF0.out.then hn1.bel
  have hgx : w.heap.size ≤ bx := hn1.ge
  have HGX := show Hid (w.heap.size ≤ bx) from hgx
  clear hn1 HAF0 hgx
  have x0 : w1.cell? ⟨bx, 0, none⟩ = some (.int .i64 2) := Cl.cell HX1.out 0
  have x1 : w1.cell? ⟨bx, 1, none⟩ = some (.string n) := Cl.cell HX1.out 1
  have x2 : w1.cell? ⟨bx, 2, none⟩ = some (.string Ty.e0) := Cl.cell HX1.out 2
  have x3 : w1.cell? ⟨bx, 3, none⟩ = some (.int .i64 0) := Cl.cell HX1.out 3
  have x4 : w1.cell? ⟨bx, 4, none⟩ = some (.slice p nk kc) := Cl.cell HX1.out 4
  go_wp2_with fail
  clear x0 x1 x2 x3 x4
  refine Calls.mono (KN.out w1 _ _ HAF1.out) ?_
  rintro e w2 ⟨hP2, hb2⟩
  have HX2 := show Hid _ from Cl.later HX1.out hb2
  have HAF2 := show Hid _ from HAF1.out.then hb2
  clear HX1 HAF1 KN hb2
  have HP2 := show Hid _ from hP2
  clear hP2
  cases J with
  | error er =>
    obtain ⟨q, rfl, hrf⟩ := HP2.out
    have HRF0 := show Hid _ from hrf
    have HA := show Hid (ANS = .no er.1 er.2) from HANS.out
    clear HP2 hrf HANS
    unfold ndV
    go_wp2_with (refine wpList_alloc 54 rfl _ zeroNode rfl ?_)
    intro w3 br4 hn3
    go_wp2_with (refine wpList_st 54 rfl rfl _ _ rfl br4 rfl _ rfl _ _ hn3.blk sizeNode rfl (node_all Fm.z) ?_)
    intro w4 hc4 hk4
    have hge4 : w.heap.size ≤ br4 := Nat.le_trans HAF2.out.kp.size hn3.ge
    have HAF4 := show Hid _ from (HAF2.out.then hn3.bel).own hn3.blk (by decide) (by decide) hk4 hge4
    have HX4 := show Hid _ from Cl.kp (Cl.new HX2.out hn3) hk4 (by have := Cl.lt HX2.out; have := hn3.ge; omega)
    have HN4 := show Hid (Cl w4 br4 #[.int .i64 (Fm.z).k, .string (Fm.z).s, .int .i64 (Fm.z).l, .int .i64 (Fm.z).r] 54) from hc4
    have HRF := show Hid _ from (HRF0.out.later hn3.bel).other hn3.blk (by decide) (by decide) hk4
    clear hn3 hc4 hk4 hge4 HX2 HAF2 HN4
    go_wp2_with fail
    go_ret
    exact ⟨_, by rw [HA.out]; exact ⟨q, rfl, HRF.out⟩, HAF4.out.mono (by have := HNS.out; omega)⟩
  | ok d =>
    obtain rfl := HP2.out
    clear HP2
    unfold ndV
    go_wp2_with (refine wpList_alloc 54 rfl _ zeroNode rfl ?_)
    intro w3 br4 hn3
    go_wp2_with (refine wpList_st 54 rfl rfl _ _ rfl br4 rfl _ rfl _ _ hn3.blk sizeNode rfl (node_all d) ?_)
    intro w4 hc4 hk4
    have hge4 : w.heap.size ≤ br4 := Nat.le_trans HAF2.out.kp.size hn3.ge
    have HAF4 := show Hid _ from (HAF2.out.then hn3.bel).own hn3.blk (by decide) (by decide) hk4 hge4
    have HX4 := show Hid _ from Cl.kp (Cl.new HX2.out hn3) hk4 (by have := Cl.lt HX2.out; have := hn3.ge; omega)
    have HN4 := show Hid (Cl w4 br4 #[.int .i64 (d).k, .string (d).s, .int .i64 (d).l, .int .i64 (d).r] 54) from hc4
    clear hn3 hc4 hk4 hge4 HX2 HAF2
    have x0 : w4.cell? ⟨bx, 0, none⟩ = some (.int .i64 2) := Cl.cell HX4.out 0
    have x1 : w4.cell? ⟨bx, 1, none⟩ = some (.string n) := Cl.cell HX4.out 1
    have x2 : w4.cell? ⟨bx, 2, none⟩ = some (.string Ty.e0) := Cl.cell HX4.out 2
    have x3 : w4.cell? ⟨bx, 3, none⟩ = some (.int .i64 0) := Cl.cell HX4.out 3
    have x4 : w4.cell? ⟨bx, 4, none⟩ = some (.slice p nk kc) := Cl.cell HX4.out 4
    have y2 : w4.cell? ⟨br4, 2, none⟩ = some (.int .i64 d.l) := Cl.cell HN4.out 2
    have y3 : w4.cell? ⟨br4, 3, none⟩ = some (.int .i64 d.r) := Cl.cell HN4.out 3
    go_wp2_with fail
    clear x0 x1 x2 x3 x4 y2 y3
    refine Calls.mono (KW.out w4 _ _ d.l d.r HAF4.out (by have := HNS.out; omega)) ?_
    rintro e w5 ⟨wv5, hP5, haf5⟩
    have HX5 := show Hid _ from Cl.af HX4.out HAF4.out.ck haf5.kp (by decide) (by decide)
    have HN5 := show Hid _ from Cl.af HN4.out HAF4.out.ck haf5.kp (by decide) (by decide)
    have HAF5 := show Hid _ from HAF4.out.trans haf5
    have HP5 := show Hid _ from hP5
    clear hP5 haf5 HX4 HAF4 HN4 KW
    generalize Ty.chkd t a (Ty.upd g n d.l) (way ++ [0]) d.r = A5 at *
    cases A5 with
    | no er5 wy5 =>
      obtain ⟨q, rfl, hrf⟩ := HP5.out
      have HRF := show Hid _ from hrf
      have HA := show Hid (ANS = .no er5 wy5) from HANS.out
      clear HP5 hrf HANS
      go_wp2_with fail
      go_ret
      exact ⟨_, by rw [HA.out]; exact ⟨q, rfl, HRF.out⟩, HAF5.out.mono (by have := HNS.out; omega)⟩
    | ok f5 =>
      obtain rfl := HP5.out
      clear HP5
      have HA := show Hid (ANS = .ok f5) from HANS.out
      clear HANS
      go_wp2_with fail
      go_ret
      exact ⟨_, by rw [HA.out]; exact (show (_ : Ending) = _ from rfl), HAF5.out.mono (by have := HNS.out; omega)⟩
set_option maxRecDepth 100000 in
set_option maxHeartbeats 4000000 in
theorem checkedPair_pair {B C m tb mt : Nat} {v : Value} {t : List Nd} {a : Ty.Tr} {b : Ty.Tr}  (hCa : ChkC B C m tb mt v t a) (hCb : ChkC B C m tb mt v t b) (w : World) {N : Nat} {g : Ty.Env} {wv sv : Value} {way : List Int} (id : Int) (hT : TbB w B tb mt v t) (h : Ck w B C m N (.pointer (some ⟨tb, 0, none⟩)) g wv way) (hB : B ≤ w.heap.size) (hK : Kid w B (Ty.Tr.pair a b).tm sv) (hG : Gt (Ty.Tr.pair a b).tm) (hn : N + 4 * (Ty.Tr.pair a b).size ≤ 90000000000000) (hw : way.length + (Ty.Tr.pair a b).size ≤ 900000) :
    Calls Tryd.prog 40 #[.pointer (some ⟨C, 0, none⟩), tmV (Ty.Tr.pair a b).tm sv, .int .i64 id] w fun r w' => ∃ wv2, ChP B w' r wv2 (Ty.chkd t (Ty.Tr.pair a b) g way id) ∧ Af w w' B C m (N + 4 * (Ty.Tr.pair a b).size) (.pointer (some ⟨tb, 0, none⟩)) g wv wv2 way := by
  obtain ⟨p, nk, kc, rfl⟩ := hK.form
  obtain ⟨hgk, hgn, hgo, hgf⟩ := hG.parts
  have hgs := hG.sub
  have HB0 := show Hid (∀ W n' wv', Af w W B C m n' (.pointer (some ⟨tb, 0, none⟩)) g wv wv' way → Below B w W) from fun W n' wv' ha => h.below ha.kp hB
  have HBS := show Hid (∀ W n' wv', Af w W B C m n' (.pointer (some ⟨tb, 0, none⟩)) g wv wv' way → B ≤ W.heap.size) from fun W n' wv' ha => Nat.le_trans hB ha.kp.size
  have hsz : (Ty.Tr.pair a b).size = a.size + b.size + 1 := rfl
  have KN := show Hid (∀ (W : World) (n' : Nat) (wv' : Value), Af w W B C m n' (.pointer (some ⟨tb, 0, none⟩)) g wv wv' way → Calls Tryd.prog 58 #[.pointer (some ⟨C, 0, none⟩), .int .i64 id, .int .i64 3] W fun r w' => NdP B w' r wv' (jnR t way 3 (.ok id)) ∧ Below W.heap.size W w') from fun W n' wv' ha => (joined_any W ha.ck (hT.later (HB0.out W n' wv' ha)).here (by omega) (HBS.out W n' wv' ha) id 3).mono fun r w' hj => hj.nd
  have KA := show Hid (∀ (W : World) (n' : Nat) (wv' : Value) (id' : Int), Af w W B C m n' (.pointer (some ⟨tb, 0, none⟩)) g wv wv' way → n' + 4 * a.size ≤ 90000000000000 → Calls Tryd.prog 56 #[.pointer (some ⟨C, 0, none⟩), (.agg #[.int .i64 4, .string Ty.e0, .string Ty.e0, .int .i64 0, (.slice p nk kc)]), .int .i64 0, .int .i64 id'] W fun r w' => ∃ wv2, ChP B w' r wv2 (Ty.chkd t a g (way ++ [0]) id') ∧ Af W w' B C m (n' + 4 * a.size) (.pointer (some ⟨tb, 0, none⟩)) g wv' wv2 way) from fun W n' wv' id' ha hn' => checkedPart_any W 0 (show 0 < (Ty.Tr.pair a b).tm.sub.length from by simp [Ty.Tr.tm, Tm.sub]) rfl ha.ck (by omega) (HBS.out W n' wv' ha) (hK.below (HB0.out W n' wv' ha)) hgs.1 id' (fun W2 kv wv2 hW2 hk hc2 => hCa W2 n' g wv2 kv (way ++ [((0 : Nat) : Int)]) id' ((hT.later (HB0.out W n' wv' ha)).later hW2) hc2 (Nat.le_trans (HBS.out W n' wv' ha) hW2.size) hk (hgs.2 a.tm (by simp [Ty.Tr.tm, Tm.sub])) (by omega) (by simp; omega))
  have KB := show Hid (∀ (W : World) (n' : Nat) (wv' : Value) (id' : Int), Af w W B C m n' (.pointer (some ⟨tb, 0, none⟩)) g wv wv' way → n' + 4 * b.size ≤ 90000000000000 → Calls Tryd.prog 56 #[.pointer (some ⟨C, 0, none⟩), (.agg #[.int .i64 4, .string Ty.e0, .string Ty.e0, .int .i64 0, (.slice p nk kc)]), .int .i64 1, .int .i64 id'] W fun r w' => ∃ wv2, ChP B w' r wv2 (Ty.chkd t b g (way ++ [1]) id') ∧ Af W w' B C m (n' + 4 * b.size) (.pointer (some ⟨tb, 0, none⟩)) g wv' wv2 way) from fun W n' wv' id' ha hn' => checkedPart_any W 1 (show 1 < (Ty.Tr.pair a b).tm.sub.length from by simp [Ty.Tr.tm, Tm.sub]) rfl ha.ck (by omega) (HBS.out W n' wv' ha) (hK.below (HB0.out W n' wv' ha)) hgs.1 id' (fun W2 kv wv2 hW2 hk hc2 => hCb W2 n' g wv2 kv (way ++ [((1 : Nat) : Int)]) id' ((hT.later (HB0.out W n' wv' ha)).later hW2) hc2 (Nat.le_trans (HBS.out W n' wv' ha) hW2.size) hk (hgs.2 b.tm (by simp [Ty.Tr.tm, Tm.sub])) (by omega) (by simp; omega))
  have HNS := show Hid ((Ty.Tr.pair a b).size = a.size + b.size + 1 ∧ N + 4 * (Ty.Tr.pair a b).size ≤ 90000000000000) from ⟨hsz, hn⟩
  have HANS := show Hid (Ty.chkd t (Ty.Tr.pair a b) g way id = match jnR t way 3 (.ok id) with | .error e => .no e.1 e.2 | .ok d => (Ty.chkd t a g (way ++ [0]) d.l).bind fun _ => Ty.chkd t b g (way ++ [1]) d.r) from jn_is t way 3 (.ok id) (fun d => (Ty.chkd t a g (way ++ [0]) d.l).bind fun _ => Ty.chkd t b g (way ++ [1]) d.r)
  generalize jnR t way 3 (.ok id) = J at *
  generalize Ty.chkd t (Ty.Tr.pair a b) g way id = ANS at *
  clear hsz hn HB0 HBS
  have HAF0 := show Hid (Af w w B C m N (.pointer (some ⟨tb, 0, none⟩)) g wv wv way) from Af.refl h
  have hq1 := neq_if
  have hq2 := neq_no
  clear hK h hT hG hgs hgk hgn hgo hgf hw hB hCa hCb
  show Calls _ _ #[.pointer (some ⟨C, 0, none⟩), (.agg #[.int .i64 4, .string Ty.e0, .string Ty.e0, .int .i64 0, (.slice p nk kc)]), .int .i64 id] _ _
  go_enter Tryd.func40, Tryd.ntmps40
  go_wp2_with (refine wpList_box 27 _ rfl _ rfl rfl ?_)
  intro w1 bx hn1
  have HX1 := show Hid (Cl w1 bx #[.int .i64 4, .string Ty.e0, .string Ty.e0, .int .i64 0, .slice p nk kc] 27) from hn1.blk
  have HAF1 := show Hid _ from HAF0.out.then hn1.bel
  have hgx : w.heap.size ≤ bx := hn1.ge
  have HGX := show Hid (w.heap.size ≤ bx) from hgx
  clear hn1 HAF0 hgx
  have x0 : w1.cell? ⟨bx, 0, none⟩ = some (.int .i64 4) := Cl.cell HX1.out 0
  have x1 : w1.cell? ⟨bx, 1, none⟩ = some (.string Ty.e0) := Cl.cell HX1.out 1
  have x2 : w1.cell? ⟨bx, 2, none⟩ = some (.string Ty.e0) := Cl.cell HX1.out 2
  have x3 : w1.cell? ⟨bx, 3, none⟩ = some (.int .i64 0) := Cl.cell HX1.out 3
  have x4 : w1.cell? ⟨bx, 4, none⟩ = some (.slice p nk kc) := Cl.cell HX1.out 4
  go_wp2_with fail
  clear x0 x1 x2 x3 x4
  refine Calls.mono (KN.out w1 _ _ HAF1.out) ?_
  rintro e w2 ⟨hP2, hb2⟩
  have HX2 := show Hid _ from Cl.later HX1.out hb2
  have HAF2 := show Hid _ from HAF1.out.then hb2
  clear HX1 HAF1 KN hb2
  have HP2 := show Hid _ from hP2
  clear hP2
  cases J with
  | error er =>
    obtain ⟨q, rfl, hrf⟩ := HP2.out
    have HRF0 := show Hid _ from hrf
    have HA := show Hid (ANS = .no er.1 er.2) from HANS.out
    clear HP2 hrf HANS
    unfold ndV
    go_wp2_with (refine wpList_alloc 54 rfl _ zeroNode rfl ?_)
    intro w3 br4 hn3
    go_wp2_with (refine wpList_st 54 rfl rfl _ _ rfl br4 rfl _ rfl _ _ hn3.blk sizeNode rfl (node_all Fm.z) ?_)
    intro w4 hc4 hk4
    have hge4 : w.heap.size ≤ br4 := Nat.le_trans HAF2.out.kp.size hn3.ge
    have HAF4 := show Hid _ from (HAF2.out.then hn3.bel).own hn3.blk (by decide) (by decide) hk4 hge4
    have HX4 := show Hid _ from Cl.kp (Cl.new HX2.out hn3) hk4 (by have := Cl.lt HX2.out; have := hn3.ge; omega)
    have HN4 := show Hid (Cl w4 br4 #[.int .i64 (Fm.z).k, .string (Fm.z).s, .int .i64 (Fm.z).l, .int .i64 (Fm.z).r] 54) from hc4
    have HRF := show Hid _ from (HRF0.out.later hn3.bel).other hn3.blk (by decide) (by decide) hk4
    clear hn3 hc4 hk4 hge4 HX2 HAF2 HN4
    go_wp2_with fail
    go_ret
    exact ⟨_, by rw [HA.out]; exact ⟨q, rfl, HRF.out⟩, HAF4.out.mono (by have := HNS.out; omega)⟩
  | ok d =>
    obtain rfl := HP2.out
    clear HP2
    unfold ndV
    go_wp2_with (refine wpList_alloc 54 rfl _ zeroNode rfl ?_)
    intro w3 br4 hn3
    go_wp2_with (refine wpList_st 54 rfl rfl _ _ rfl br4 rfl _ rfl _ _ hn3.blk sizeNode rfl (node_all d) ?_)
    intro w4 hc4 hk4
    have hge4 : w.heap.size ≤ br4 := Nat.le_trans HAF2.out.kp.size hn3.ge
    have HAF4 := show Hid _ from (HAF2.out.then hn3.bel).own hn3.blk (by decide) (by decide) hk4 hge4
    have HX4 := show Hid _ from Cl.kp (Cl.new HX2.out hn3) hk4 (by have := Cl.lt HX2.out; have := hn3.ge; omega)
    have HN4 := show Hid (Cl w4 br4 #[.int .i64 (d).k, .string (d).s, .int .i64 (d).l, .int .i64 (d).r] 54) from hc4
    clear hn3 hc4 hk4 hge4 HX2 HAF2
    have x0 : w4.cell? ⟨bx, 0, none⟩ = some (.int .i64 4) := Cl.cell HX4.out 0
    have x1 : w4.cell? ⟨bx, 1, none⟩ = some (.string Ty.e0) := Cl.cell HX4.out 1
    have x2 : w4.cell? ⟨bx, 2, none⟩ = some (.string Ty.e0) := Cl.cell HX4.out 2
    have x3 : w4.cell? ⟨bx, 3, none⟩ = some (.int .i64 0) := Cl.cell HX4.out 3
    have x4 : w4.cell? ⟨bx, 4, none⟩ = some (.slice p nk kc) := Cl.cell HX4.out 4
    have y2 : w4.cell? ⟨br4, 2, none⟩ = some (.int .i64 d.l) := Cl.cell HN4.out 2
    have y3 : w4.cell? ⟨br4, 3, none⟩ = some (.int .i64 d.r) := Cl.cell HN4.out 3
    go_wp2_with fail
    clear x0 x1 x2 x3 x4 y2 y3
    refine Calls.mono (KA.out w4 _ _ d.l HAF4.out (by have := HNS.out; omega)) ?_
    rintro e w5 ⟨wv5, hP5, haf5⟩
    have HX5 := show Hid _ from Cl.af HX4.out HAF4.out.ck haf5.kp (by decide) (by decide)
    have HN5 := show Hid _ from Cl.af HN4.out HAF4.out.ck haf5.kp (by decide) (by decide)
    have HAF5 := show Hid _ from HAF4.out.trans haf5
    have HP5 := show Hid _ from hP5
    clear hP5 haf5 HX4 HAF4 HN4 KA
    generalize Ty.chkd t a g (way ++ [0]) d.l = A5 at *
    cases A5 with
    | no er5 wy5 =>
      obtain ⟨q, rfl, hrf⟩ := HP5.out
      have HRF := show Hid _ from hrf
      have HA := show Hid (ANS = .no er5 wy5) from HANS.out
      clear HP5 hrf HANS
      go_wp2_with fail
      go_ret
      exact ⟨_, by rw [HA.out]; exact ⟨q, rfl, HRF.out⟩, HAF5.out.mono (by have := HNS.out; omega)⟩
    | ok f5 =>
      obtain rfl := HP5.out
      clear HP5
      have HANS2 := show Hid (ANS = Ty.chkd t b g (way ++ [1]) d.r) from HANS.out
      clear HANS
      have HANS := show Hid _ from HANS2.out
      clear HANS2
      have x0 : w5.cell? ⟨bx, 0, none⟩ = some (.int .i64 4) := Cl.cell HX5.out 0
      have x1 : w5.cell? ⟨bx, 1, none⟩ = some (.string Ty.e0) := Cl.cell HX5.out 1
      have x2 : w5.cell? ⟨bx, 2, none⟩ = some (.string Ty.e0) := Cl.cell HX5.out 2
      have x3 : w5.cell? ⟨bx, 3, none⟩ = some (.int .i64 0) := Cl.cell HX5.out 3
      have x4 : w5.cell? ⟨bx, 4, none⟩ = some (.slice p nk kc) := Cl.cell HX5.out 4
      have y2 : w5.cell? ⟨br4, 2, none⟩ = some (.int .i64 d.l) := Cl.cell HN5.out 2
      have y3 : w5.cell? ⟨br4, 3, none⟩ = some (.int .i64 d.r) := Cl.cell HN5.out 3
      go_wp2_with fail
      clear x0 x1 x2 x3 x4 y2 y3
      refine Calls.mono (KB.out w5 _ _ d.r HAF5.out (by have := HNS.out; omega)) ?_
      rintro e w6 ⟨wv6, hP6, haf6⟩
      have HX6 := show Hid _ from Cl.af HX5.out HAF5.out.ck haf6.kp (by decide) (by decide)
      have HN6 := show Hid _ from Cl.af HN5.out HAF5.out.ck haf6.kp (by decide) (by decide)
      have HAF6 := show Hid _ from HAF5.out.trans haf6
      have HP6 := show Hid _ from hP6
      clear hP6 haf6 HX5 HAF5 HN5 KB
      generalize Ty.chkd t b g (way ++ [1]) d.r = A6 at *
      cases A6 with
      | no er6 wy6 =>
        obtain ⟨q, rfl, hrf⟩ := HP6.out
        have HRF := show Hid _ from hrf
        have HA := show Hid (ANS = .no er6 wy6) from HANS.out
        clear HP6 hrf HANS
        go_wp2_with fail
        go_ret
        exact ⟨_, by rw [HA.out]; exact ⟨q, rfl, HRF.out⟩, HAF6.out.mono (by have := HNS.out; omega)⟩
      | ok f6 =>
        obtain rfl := HP6.out
        clear HP6
        have HA := show Hid (ANS = .ok f6) from HANS.out
        clear HANS
        go_wp2_with fail
        go_ret
        exact ⟨_, by rw [HA.out]; exact (show (_ : Ending) = _ from rfl), HAF6.out.mono (by have := HNS.out; omega)⟩
set_option maxRecDepth 100000 in
set_option maxHeartbeats 4000000 in
theorem checkedSide_inl {B C m tb mt : Nat} {v : Value} {t : List Nd} {a : Ty.Tr}  (hCa : ChkC B C m tb mt v t a) (w : World) {N : Nat} {g : Ty.Env} {wv sv : Value} {way : List Int} (id : Int) (hT : TbB w B tb mt v t) (h : Ck w B C m N (.pointer (some ⟨tb, 0, none⟩)) g wv way) (hB : B ≤ w.heap.size) (hK : Kid w B (Ty.Tr.inl a).tm sv) (hG : Gt (Ty.Tr.inl a).tm) (hn : N + 4 * (Ty.Tr.inl a).size ≤ 90000000000000) (hw : way.length + (Ty.Tr.inl a).size ≤ 900000) :
    Calls Tryd.prog 41 #[.pointer (some ⟨C, 0, none⟩), tmV (Ty.Tr.inl a).tm sv, .int .i64 id] w fun r w' => ∃ wv2, ChP B w' r wv2 (Ty.chkd t (Ty.Tr.inl a) g way id) ∧ Af w w' B C m (N + 4 * (Ty.Tr.inl a).size) (.pointer (some ⟨tb, 0, none⟩)) g wv wv2 way := by
  obtain ⟨p, nk, kc, rfl⟩ := hK.form
  obtain ⟨hgk, hgn, hgo, hgf⟩ := hG.parts
  have hgs := hG.sub
  have HB0 := show Hid (∀ W n' wv', Af w W B C m n' (.pointer (some ⟨tb, 0, none⟩)) g wv wv' way → Below B w W) from fun W n' wv' ha => h.below ha.kp hB
  have HBS := show Hid (∀ W n' wv', Af w W B C m n' (.pointer (some ⟨tb, 0, none⟩)) g wv wv' way → B ≤ W.heap.size) from fun W n' wv' ha => Nat.le_trans hB ha.kp.size
  have hsz : (Ty.Tr.inl a).size = a.size + 1 := rfl
  have KN := show Hid (∀ (W : World) (n' : Nat) (wv' : Value), Af w W B C m n' (.pointer (some ⟨tb, 0, none⟩)) g wv wv' way → Calls Tryd.prog 58 #[.pointer (some ⟨C, 0, none⟩), .int .i64 id, .int .i64 4] W fun r w' => NdP B w' r wv' (jnR t way 4 (.ok id)) ∧ Below W.heap.size W w') from fun W n' wv' ha => (joined_any W ha.ck (hT.later (HB0.out W n' wv' ha)).here (by omega) (HBS.out W n' wv' ha) id 4).mono fun r w' hj => hj.nd
  have KA := show Hid (∀ (W : World) (n' : Nat) (wv' : Value) (id' : Int), Af w W B C m n' (.pointer (some ⟨tb, 0, none⟩)) g wv wv' way → n' + 4 * a.size ≤ 90000000000000 → Calls Tryd.prog 56 #[.pointer (some ⟨C, 0, none⟩), (.agg #[.int .i64 7, .string Ty.e0, .string Ty.e0, .int .i64 0, (.slice p nk kc)]), .int .i64 0, .int .i64 id'] W fun r w' => ∃ wv2, ChP B w' r wv2 (Ty.chkd t a g (way ++ [0]) id') ∧ Af W w' B C m (n' + 4 * a.size) (.pointer (some ⟨tb, 0, none⟩)) g wv' wv2 way) from fun W n' wv' id' ha hn' => checkedPart_any W 0 (show 0 < (Ty.Tr.inl a).tm.sub.length from by simp [Ty.Tr.tm, Tm.sub]) rfl ha.ck (by omega) (HBS.out W n' wv' ha) (hK.below (HB0.out W n' wv' ha)) hgs.1 id' (fun W2 kv wv2 hW2 hk hc2 => hCa W2 n' g wv2 kv (way ++ [((0 : Nat) : Int)]) id' ((hT.later (HB0.out W n' wv' ha)).later hW2) hc2 (Nat.le_trans (HBS.out W n' wv' ha) hW2.size) hk (hgs.2 a.tm (by simp [Ty.Tr.tm, Tm.sub])) (by omega) (by simp; omega))
  have HNS := show Hid ((Ty.Tr.inl a).size = a.size + 1 ∧ N + 4 * (Ty.Tr.inl a).size ≤ 90000000000000) from ⟨hsz, hn⟩
  have HANS := show Hid (Ty.chkd t (Ty.Tr.inl a) g way id = match jnR t way 4 (.ok id) with | .error e => .no e.1 e.2 | .ok d => Ty.chkd t a g (way ++ [0]) d.l) from jn_is t way 4 (.ok id) (fun d => Ty.chkd t a g (way ++ [0]) d.l)
  generalize jnR t way 4 (.ok id) = J at *
  generalize Ty.chkd t (Ty.Tr.inl a) g way id = ANS at *
  clear hsz hn HB0 HBS
  have HAF0 := show Hid (Af w w B C m N (.pointer (some ⟨tb, 0, none⟩)) g wv wv way) from Af.refl h
  have hq1 := neq_if
  have hq2 := neq_no
  clear hK h hT hG hgs hgk hgn hgo hgf hw hB hCa
  show Calls _ _ #[.pointer (some ⟨C, 0, none⟩), (.agg #[.int .i64 7, .string Ty.e0, .string Ty.e0, .int .i64 0, (.slice p nk kc)]), .int .i64 id] _ _
  go_enter Tryd.func41, Tryd.ntmps41
  go_wp2_with (refine wpList_box 27 _ rfl _ rfl rfl ?_)
  intro w1 bx hn1
  have HX1 := show Hid (Cl w1 bx #[.int .i64 7, .string Ty.e0, .string Ty.e0, .int .i64 0, .slice p nk kc] 27) from hn1.blk
  have HAF1 := show Hid _ from HAF0.out.then hn1.bel
  have hgx : w.heap.size ≤ bx := hn1.ge
  have HGX := show Hid (w.heap.size ≤ bx) from hgx
  clear hn1 HAF0 hgx
  have x0 : w1.cell? ⟨bx, 0, none⟩ = some (.int .i64 7) := Cl.cell HX1.out 0
  have x1 : w1.cell? ⟨bx, 1, none⟩ = some (.string Ty.e0) := Cl.cell HX1.out 1
  have x2 : w1.cell? ⟨bx, 2, none⟩ = some (.string Ty.e0) := Cl.cell HX1.out 2
  have x3 : w1.cell? ⟨bx, 3, none⟩ = some (.int .i64 0) := Cl.cell HX1.out 3
  have x4 : w1.cell? ⟨bx, 4, none⟩ = some (.slice p nk kc) := Cl.cell HX1.out 4
  go_wp2_with fail
  clear x0 x1 x2 x3 x4
  refine Calls.mono (KN.out w1 _ _ HAF1.out) ?_
  rintro e w2 ⟨hP2, hb2⟩
  have HX2 := show Hid _ from Cl.later HX1.out hb2
  have HAF2 := show Hid _ from HAF1.out.then hb2
  clear HX1 HAF1 KN hb2
  have HP2 := show Hid _ from hP2
  clear hP2
  cases J with
  | error er =>
    obtain ⟨q, rfl, hrf⟩ := HP2.out
    have HRF0 := show Hid _ from hrf
    have HA := show Hid (ANS = .no er.1 er.2) from HANS.out
    clear HP2 hrf HANS
    unfold ndV
    go_wp2_with (refine wpList_alloc 54 rfl _ zeroNode rfl ?_)
    intro w3 br4 hn3
    go_wp2_with (refine wpList_st 54 rfl rfl _ _ rfl br4 rfl _ rfl _ _ hn3.blk sizeNode rfl (node_all Fm.z) ?_)
    intro w4 hc4 hk4
    have hge4 : w.heap.size ≤ br4 := Nat.le_trans HAF2.out.kp.size hn3.ge
    have HAF4 := show Hid _ from (HAF2.out.then hn3.bel).own hn3.blk (by decide) (by decide) hk4 hge4
    have HX4 := show Hid _ from Cl.kp (Cl.new HX2.out hn3) hk4 (by have := Cl.lt HX2.out; have := hn3.ge; omega)
    have HN4 := show Hid (Cl w4 br4 #[.int .i64 (Fm.z).k, .string (Fm.z).s, .int .i64 (Fm.z).l, .int .i64 (Fm.z).r] 54) from hc4
    have HRF := show Hid _ from (HRF0.out.later hn3.bel).other hn3.blk (by decide) (by decide) hk4
    clear hn3 hc4 hk4 hge4 HX2 HAF2 HN4
    go_wp2_with fail
    go_ret
    exact ⟨_, by rw [HA.out]; exact ⟨q, rfl, HRF.out⟩, HAF4.out.mono (by have := HNS.out; omega)⟩
  | ok d =>
    obtain rfl := HP2.out
    clear HP2
    unfold ndV
    go_wp2_with (refine wpList_alloc 54 rfl _ zeroNode rfl ?_)
    intro w3 br4 hn3
    go_wp2_with (refine wpList_st 54 rfl rfl _ _ rfl br4 rfl _ rfl _ _ hn3.blk sizeNode rfl (node_all d) ?_)
    intro w4 hc4 hk4
    have hge4 : w.heap.size ≤ br4 := Nat.le_trans HAF2.out.kp.size hn3.ge
    have HAF4 := show Hid _ from (HAF2.out.then hn3.bel).own hn3.blk (by decide) (by decide) hk4 hge4
    have HX4 := show Hid _ from Cl.kp (Cl.new HX2.out hn3) hk4 (by have := Cl.lt HX2.out; have := hn3.ge; omega)
    have HN4 := show Hid (Cl w4 br4 #[.int .i64 (d).k, .string (d).s, .int .i64 (d).l, .int .i64 (d).r] 54) from hc4
    clear hn3 hc4 hk4 hge4 HX2 HAF2
    have x0 : w4.cell? ⟨bx, 0, none⟩ = some (.int .i64 7) := Cl.cell HX4.out 0
    have x1 : w4.cell? ⟨bx, 1, none⟩ = some (.string Ty.e0) := Cl.cell HX4.out 1
    have x2 : w4.cell? ⟨bx, 2, none⟩ = some (.string Ty.e0) := Cl.cell HX4.out 2
    have x3 : w4.cell? ⟨bx, 3, none⟩ = some (.int .i64 0) := Cl.cell HX4.out 3
    have x4 : w4.cell? ⟨bx, 4, none⟩ = some (.slice p nk kc) := Cl.cell HX4.out 4
    have y2 : w4.cell? ⟨br4, 2, none⟩ = some (.int .i64 d.l) := Cl.cell HN4.out 2
    have y3 : w4.cell? ⟨br4, 3, none⟩ = some (.int .i64 d.r) := Cl.cell HN4.out 3
    go_wp2_with fail
    clear x0 x1 x2 x3 x4 y2 y3
    refine Calls.mono (KA.out w4 _ _ d.l HAF4.out (by have := HNS.out; omega)) ?_
    rintro e w5 ⟨wv5, hP5, haf5⟩
    have HX5 := show Hid _ from Cl.af HX4.out HAF4.out.ck haf5.kp (by decide) (by decide)
    have HN5 := show Hid _ from Cl.af HN4.out HAF4.out.ck haf5.kp (by decide) (by decide)
    have HAF5 := show Hid _ from HAF4.out.trans haf5
    have HP5 := show Hid _ from hP5
    clear hP5 haf5 HX4 HAF4 HN4 KA
    generalize Ty.chkd t a g (way ++ [0]) d.l = A5 at *
    cases A5 with
    | no er5 wy5 =>
      obtain ⟨q, rfl, hrf⟩ := HP5.out
      have HRF := show Hid _ from hrf
      have HA := show Hid (ANS = .no er5 wy5) from HANS.out
      clear HP5 hrf HANS
      go_wp2_with fail
      go_ret
      exact ⟨_, by rw [HA.out]; exact ⟨q, rfl, HRF.out⟩, HAF5.out.mono (by have := HNS.out; omega)⟩
    | ok f5 =>
      obtain rfl := HP5.out
      clear HP5
      have HA := show Hid (ANS = .ok f5) from HANS.out
      clear HANS
      go_wp2_with fail
      go_ret
      exact ⟨_, by rw [HA.out]; exact (show (_ : Ending) = _ from rfl), HAF5.out.mono (by have := HNS.out; omega)⟩
set_option maxRecDepth 100000 in
set_option maxHeartbeats 4000000 in
theorem checkedSide_inr {B C m tb mt : Nat} {v : Value} {t : List Nd} {a : Ty.Tr}  (hCa : ChkC B C m tb mt v t a) (w : World) {N : Nat} {g : Ty.Env} {wv sv : Value} {way : List Int} (id : Int) (hT : TbB w B tb mt v t) (h : Ck w B C m N (.pointer (some ⟨tb, 0, none⟩)) g wv way) (hB : B ≤ w.heap.size) (hK : Kid w B (Ty.Tr.inr a).tm sv) (hG : Gt (Ty.Tr.inr a).tm) (hn : N + 4 * (Ty.Tr.inr a).size ≤ 90000000000000) (hw : way.length + (Ty.Tr.inr a).size ≤ 900000) :
    Calls Tryd.prog 41 #[.pointer (some ⟨C, 0, none⟩), tmV (Ty.Tr.inr a).tm sv, .int .i64 id] w fun r w' => ∃ wv2, ChP B w' r wv2 (Ty.chkd t (Ty.Tr.inr a) g way id) ∧ Af w w' B C m (N + 4 * (Ty.Tr.inr a).size) (.pointer (some ⟨tb, 0, none⟩)) g wv wv2 way := by
  obtain ⟨p, nk, kc, rfl⟩ := hK.form
  obtain ⟨hgk, hgn, hgo, hgf⟩ := hG.parts
  have hgs := hG.sub
  have HB0 := show Hid (∀ W n' wv', Af w W B C m n' (.pointer (some ⟨tb, 0, none⟩)) g wv wv' way → Below B w W) from fun W n' wv' ha => h.below ha.kp hB
  have HBS := show Hid (∀ W n' wv', Af w W B C m n' (.pointer (some ⟨tb, 0, none⟩)) g wv wv' way → B ≤ W.heap.size) from fun W n' wv' ha => Nat.le_trans hB ha.kp.size
  have hsz : (Ty.Tr.inr a).size = a.size + 1 := rfl
  have KN := show Hid (∀ (W : World) (n' : Nat) (wv' : Value), Af w W B C m n' (.pointer (some ⟨tb, 0, none⟩)) g wv wv' way → Calls Tryd.prog 58 #[.pointer (some ⟨C, 0, none⟩), .int .i64 id, .int .i64 4] W fun r w' => NdP B w' r wv' (jnR t way 4 (.ok id)) ∧ Below W.heap.size W w') from fun W n' wv' ha => (joined_any W ha.ck (hT.later (HB0.out W n' wv' ha)).here (by omega) (HBS.out W n' wv' ha) id 4).mono fun r w' hj => hj.nd
  have KA := show Hid (∀ (W : World) (n' : Nat) (wv' : Value) (id' : Int), Af w W B C m n' (.pointer (some ⟨tb, 0, none⟩)) g wv wv' way → n' + 4 * a.size ≤ 90000000000000 → Calls Tryd.prog 56 #[.pointer (some ⟨C, 0, none⟩), (.agg #[.int .i64 8, .string Ty.e0, .string Ty.e0, .int .i64 0, (.slice p nk kc)]), .int .i64 0, .int .i64 id'] W fun r w' => ∃ wv2, ChP B w' r wv2 (Ty.chkd t a g (way ++ [0]) id') ∧ Af W w' B C m (n' + 4 * a.size) (.pointer (some ⟨tb, 0, none⟩)) g wv' wv2 way) from fun W n' wv' id' ha hn' => checkedPart_any W 0 (show 0 < (Ty.Tr.inr a).tm.sub.length from by simp [Ty.Tr.tm, Tm.sub]) rfl ha.ck (by omega) (HBS.out W n' wv' ha) (hK.below (HB0.out W n' wv' ha)) hgs.1 id' (fun W2 kv wv2 hW2 hk hc2 => hCa W2 n' g wv2 kv (way ++ [((0 : Nat) : Int)]) id' ((hT.later (HB0.out W n' wv' ha)).later hW2) hc2 (Nat.le_trans (HBS.out W n' wv' ha) hW2.size) hk (hgs.2 a.tm (by simp [Ty.Tr.tm, Tm.sub])) (by omega) (by simp; omega))
  have HNS := show Hid ((Ty.Tr.inr a).size = a.size + 1 ∧ N + 4 * (Ty.Tr.inr a).size ≤ 90000000000000) from ⟨hsz, hn⟩
  have HANS := show Hid (Ty.chkd t (Ty.Tr.inr a) g way id = match jnR t way 4 (.ok id) with | .error e => .no e.1 e.2 | .ok d => Ty.chkd t a g (way ++ [0]) d.r) from jn_is t way 4 (.ok id) (fun d => Ty.chkd t a g (way ++ [0]) d.r)
  generalize jnR t way 4 (.ok id) = J at *
  generalize Ty.chkd t (Ty.Tr.inr a) g way id = ANS at *
  clear hsz hn HB0 HBS
  have HAF0 := show Hid (Af w w B C m N (.pointer (some ⟨tb, 0, none⟩)) g wv wv way) from Af.refl h
  have hq1 := neq_if
  have hq2 := neq_no
  clear hK h hT hG hgs hgk hgn hgo hgf hw hB hCa
  show Calls _ _ #[.pointer (some ⟨C, 0, none⟩), (.agg #[.int .i64 8, .string Ty.e0, .string Ty.e0, .int .i64 0, (.slice p nk kc)]), .int .i64 id] _ _
  go_enter Tryd.func41, Tryd.ntmps41
  go_wp2_with (refine wpList_box 27 _ rfl _ rfl rfl ?_)
  intro w1 bx hn1
  have HX1 := show Hid (Cl w1 bx #[.int .i64 8, .string Ty.e0, .string Ty.e0, .int .i64 0, .slice p nk kc] 27) from hn1.blk
  have HAF1 := show Hid _ from HAF0.out.then hn1.bel
  have hgx : w.heap.size ≤ bx := hn1.ge
  have HGX := show Hid (w.heap.size ≤ bx) from hgx
  clear hn1 HAF0 hgx
  have x0 : w1.cell? ⟨bx, 0, none⟩ = some (.int .i64 8) := Cl.cell HX1.out 0
  have x1 : w1.cell? ⟨bx, 1, none⟩ = some (.string Ty.e0) := Cl.cell HX1.out 1
  have x2 : w1.cell? ⟨bx, 2, none⟩ = some (.string Ty.e0) := Cl.cell HX1.out 2
  have x3 : w1.cell? ⟨bx, 3, none⟩ = some (.int .i64 0) := Cl.cell HX1.out 3
  have x4 : w1.cell? ⟨bx, 4, none⟩ = some (.slice p nk kc) := Cl.cell HX1.out 4
  go_wp2_with fail
  clear x0 x1 x2 x3 x4
  refine Calls.mono (KN.out w1 _ _ HAF1.out) ?_
  rintro e w2 ⟨hP2, hb2⟩
  have HX2 := show Hid _ from Cl.later HX1.out hb2
  have HAF2 := show Hid _ from HAF1.out.then hb2
  clear HX1 HAF1 KN hb2
  have HP2 := show Hid _ from hP2
  clear hP2
  cases J with
  | error er =>
    obtain ⟨q, rfl, hrf⟩ := HP2.out
    have HRF0 := show Hid _ from hrf
    have HA := show Hid (ANS = .no er.1 er.2) from HANS.out
    clear HP2 hrf HANS
    unfold ndV
    go_wp2_with (refine wpList_alloc 54 rfl _ zeroNode rfl ?_)
    intro w3 br4 hn3
    go_wp2_with (refine wpList_st 54 rfl rfl _ _ rfl br4 rfl _ rfl _ _ hn3.blk sizeNode rfl (node_all Fm.z) ?_)
    intro w4 hc4 hk4
    have hge4 : w.heap.size ≤ br4 := Nat.le_trans HAF2.out.kp.size hn3.ge
    have HAF4 := show Hid _ from (HAF2.out.then hn3.bel).own hn3.blk (by decide) (by decide) hk4 hge4
    have HX4 := show Hid _ from Cl.kp (Cl.new HX2.out hn3) hk4 (by have := Cl.lt HX2.out; have := hn3.ge; omega)
    have HN4 := show Hid (Cl w4 br4 #[.int .i64 (Fm.z).k, .string (Fm.z).s, .int .i64 (Fm.z).l, .int .i64 (Fm.z).r] 54) from hc4
    have HRF := show Hid _ from (HRF0.out.later hn3.bel).other hn3.blk (by decide) (by decide) hk4
    clear hn3 hc4 hk4 hge4 HX2 HAF2 HN4
    go_wp2_with fail
    go_ret
    exact ⟨_, by rw [HA.out]; exact ⟨q, rfl, HRF.out⟩, HAF4.out.mono (by have := HNS.out; omega)⟩
  | ok d =>
    obtain rfl := HP2.out
    clear HP2
    unfold ndV
    go_wp2_with (refine wpList_alloc 54 rfl _ zeroNode rfl ?_)
    intro w3 br4 hn3
    go_wp2_with (refine wpList_st 54 rfl rfl _ _ rfl br4 rfl _ rfl _ _ hn3.blk sizeNode rfl (node_all d) ?_)
    intro w4 hc4 hk4
    have hge4 : w.heap.size ≤ br4 := Nat.le_trans HAF2.out.kp.size hn3.ge
    have HAF4 := show Hid _ from (HAF2.out.then hn3.bel).own hn3.blk (by decide) (by decide) hk4 hge4
    have HX4 := show Hid _ from Cl.kp (Cl.new HX2.out hn3) hk4 (by have := Cl.lt HX2.out; have := hn3.ge; omega)
    have HN4 := show Hid (Cl w4 br4 #[.int .i64 (d).k, .string (d).s, .int .i64 (d).l, .int .i64 (d).r] 54) from hc4
    clear hn3 hc4 hk4 hge4 HX2 HAF2
    have x0 : w4.cell? ⟨bx, 0, none⟩ = some (.int .i64 8) := Cl.cell HX4.out 0
    have x1 : w4.cell? ⟨bx, 1, none⟩ = some (.string Ty.e0) := Cl.cell HX4.out 1
    have x2 : w4.cell? ⟨bx, 2, none⟩ = some (.string Ty.e0) := Cl.cell HX4.out 2
    have x3 : w4.cell? ⟨bx, 3, none⟩ = some (.int .i64 0) := Cl.cell HX4.out 3
    have x4 : w4.cell? ⟨bx, 4, none⟩ = some (.slice p nk kc) := Cl.cell HX4.out 4
    have y2 : w4.cell? ⟨br4, 2, none⟩ = some (.int .i64 d.l) := Cl.cell HN4.out 2
    have y3 : w4.cell? ⟨br4, 3, none⟩ = some (.int .i64 d.r) := Cl.cell HN4.out 3
    go_wp2_with fail
    clear x0 x1 x2 x3 x4 y2 y3
    refine Calls.mono (KA.out w4 _ _ d.r HAF4.out (by have := HNS.out; omega)) ?_
    rintro e w5 ⟨wv5, hP5, haf5⟩
    have HX5 := show Hid _ from Cl.af HX4.out HAF4.out.ck haf5.kp (by decide) (by decide)
    have HN5 := show Hid _ from Cl.af HN4.out HAF4.out.ck haf5.kp (by decide) (by decide)
    have HAF5 := show Hid _ from HAF4.out.trans haf5
    have HP5 := show Hid _ from hP5
    clear hP5 haf5 HX4 HAF4 HN4 KA
    generalize Ty.chkd t a g (way ++ [0]) d.r = A5 at *
    cases A5 with
    | no er5 wy5 =>
      obtain ⟨q, rfl, hrf⟩ := HP5.out
      have HRF := show Hid _ from hrf
      have HA := show Hid (ANS = .no er5 wy5) from HANS.out
      clear HP5 hrf HANS
      go_wp2_with fail
      go_ret
      exact ⟨_, by rw [HA.out]; exact ⟨q, rfl, HRF.out⟩, HAF5.out.mono (by have := HNS.out; omega)⟩
    | ok f5 =>
      obtain rfl := HP5.out
      clear HP5
      have HA := show Hid (ANS = .ok f5) from HANS.out
      clear HANS
      go_wp2_with fail
      go_ret
      exact ⟨_, by rw [HA.out]; exact (show (_ : Ending) = _ from rfl), HAF5.out.mono (by have := HNS.out; omega)⟩
set_option maxRecDepth 100000 in
set_option maxHeartbeats 4000000 in
theorem checkedCase_cas {B C m tb mt : Nat} {v : Value} {t : List Nd} {a : Ty.Tr} {b : Ty.Tr} {c : Ty.Tr} {nn : ByteArray} {oo : ByteArray} (hAa : TolC B C m tb mt v t a) (hCb : ChkC B C m tb mt v t b) (hCc : ChkC B C m tb mt v t c) (w : World) {N : Nat} {g : Ty.Env} {wv sv : Value} {way : List Int} (id : Int) (hT : TbB w B tb mt v t) (h : Ck w B C m N (.pointer (some ⟨tb, 0, none⟩)) g wv way) (hB : B ≤ w.heap.size) (hK : Kid w B (Ty.Tr.cas nn oo a b c).tm sv) (hG : Gt (Ty.Tr.cas nn oo a b c).tm) (hn : N + 4 * (Ty.Tr.cas nn oo a b c).size ≤ 90000000000000) (hw : way.length + (Ty.Tr.cas nn oo a b c).size ≤ 900000) :
    Calls Tryd.prog 42 #[.pointer (some ⟨C, 0, none⟩), tmV (Ty.Tr.cas nn oo a b c).tm sv, .int .i64 id] w fun r w' => ∃ wv2, ChP B w' r wv2 (Ty.chkd t (Ty.Tr.cas nn oo a b c) g way id) ∧ Af w w' B C m (N + 4 * (Ty.Tr.cas nn oo a b c).size) (.pointer (some ⟨tb, 0, none⟩)) g wv wv2 way := by
  obtain ⟨p, nk, kc, rfl⟩ := hK.form
  obtain ⟨hgk, hgn, hgo, hgf⟩ := hG.parts
  have hgs := hG.sub
  have HB0 := show Hid (∀ W n' wv', Af w W B C m n' (.pointer (some ⟨tb, 0, none⟩)) g wv wv' way → Below B w W) from fun W n' wv' ha => h.below ha.kp hB
  have HBS := show Hid (∀ W n' wv', Af w W B C m n' (.pointer (some ⟨tb, 0, none⟩)) g wv wv' way → B ≤ W.heap.size) from fun W n' wv' ha => Nat.le_trans hB ha.kp.size
  have hsz : (Ty.Tr.cas nn oo a b c).size = a.size + b.size + c.size + 1 := rfl
  have KJ := show Hid (∀ (W : World) (n' : Nat) (wv' : Value), Af w W B C m n' (.pointer (some ⟨tb, 0, none⟩)) g wv wv' way → n' + 4 * a.size ≤ 90000000000000 → Calls Tryd.prog 31 #[.pointer (some ⟨C, 0, none⟩), (.agg #[.int .i64 9, .string nn, .string oo, .int .i64 0, (.slice p nk kc)]), .int .i64 4] W fun r w' => ∃ wv2, NdP B w' r wv2 (jnR t way 4 (Ty.told t a g (way ++ [0]))) ∧ Af W w' B C m (n' + 4 * a.size) (.pointer (some ⟨tb, 0, none⟩)) g wv' wv2 way) from fun W n' wv' ha hn' => toldJoined_any hAa W (show 0 < (Ty.Tr.cas nn oo a b c).tm.sub.length from by simp [Ty.Tr.tm, Tm.sub]) rfl (hT.later (HB0.out W n' wv' ha)) ha.ck (HBS.out W n' wv' ha) (hK.below (HB0.out W n' wv' ha)) hG hn' (by omega) 4
  have KW := show Hid (∀ (W : World) (n' : Nat) (wv' : Value) (f' : Int) (id' : Int), Af w W B C m n' (.pointer (some ⟨tb, 0, none⟩)) g wv wv' way → n' + 4 * b.size + 2 ≤ 90000000000000 → Calls Tryd.prog 64 #[.pointer (some ⟨C, 0, none⟩), (.agg #[.int .i64 9, .string nn, .string oo, .int .i64 0, (.slice p nk kc)]), .int .i64 1, .string nn, .int .i64 f', .int .i64 id'] W fun r w' => ∃ wv2, ChP B w' r wv2 (Ty.chkd t b (Ty.upd g nn f') (way ++ [1]) id') ∧ Af W w' B C m (n' + 1 + 4 * b.size + 1) (.pointer (some ⟨tb, 0, none⟩)) g wv' wv2 way) from fun W n' wv' f' id' ha hn' => checkedWith_any W 1 (show 1 < (Ty.Tr.cas nn oo a b c).tm.sub.length from by simp [Ty.Tr.tm, Tm.sub]) rfl ha.ck (by omega) (HBS.out W n' wv' ha) (hK.below (HB0.out W n' wv' ha)) hgs.1 (by omega) (by omega) nn hgn f' id' (fun W2 kv wv2 hW2 hk hc2 => hCb W2 (n' + 1) (Ty.upd g nn f') wv2 kv (way ++ [((1 : Nat) : Int)]) id' ((hT.later (HB0.out W n' wv' ha)).later hW2) hc2 (Nat.le_trans (HBS.out W n' wv' ha) hW2.size) hk (hgs.2 b.tm (by simp [Ty.Tr.tm, Tm.sub])) (by omega) (by simp; omega))
  have KV := show Hid (∀ (W : World) (n' : Nat) (wv' : Value) (f' : Int) (id' : Int), Af w W B C m n' (.pointer (some ⟨tb, 0, none⟩)) g wv wv' way → n' + 4 * c.size + 2 ≤ 90000000000000 → Calls Tryd.prog 64 #[.pointer (some ⟨C, 0, none⟩), (.agg #[.int .i64 9, .string nn, .string oo, .int .i64 0, (.slice p nk kc)]), .int .i64 2, .string oo, .int .i64 f', .int .i64 id'] W fun r w' => ∃ wv2, ChP B w' r wv2 (Ty.chkd t c (Ty.upd g oo f') (way ++ [2]) id') ∧ Af W w' B C m (n' + 1 + 4 * c.size + 1) (.pointer (some ⟨tb, 0, none⟩)) g wv' wv2 way) from fun W n' wv' f' id' ha hn' => checkedWith_any W 2 (show 2 < (Ty.Tr.cas nn oo a b c).tm.sub.length from by simp [Ty.Tr.tm, Tm.sub]) rfl ha.ck (by omega) (HBS.out W n' wv' ha) (hK.below (HB0.out W n' wv' ha)) hgs.1 (by omega) (by omega) oo hgo f' id' (fun W2 kv wv2 hW2 hk hc2 => hCc W2 (n' + 1) (Ty.upd g oo f') wv2 kv (way ++ [((2 : Nat) : Int)]) id' ((hT.later (HB0.out W n' wv' ha)).later hW2) hc2 (Nat.le_trans (HBS.out W n' wv' ha) hW2.size) hk (hgs.2 c.tm (by simp [Ty.Tr.tm, Tm.sub])) (by omega) (by simp; omega))
  have HNS := show Hid ((Ty.Tr.cas nn oo a b c).size = a.size + b.size + c.size + 1 ∧ N + 4 * (Ty.Tr.cas nn oo a b c).size ≤ 90000000000000) from ⟨hsz, hn⟩
  have HANS := show Hid (Ty.chkd t (Ty.Tr.cas nn oo a b c) g way id = match jnR t way 4 (Ty.told t a g (way ++ [0])) with | .error e => .no e.1 e.2 | .ok d => (Ty.chkd t b (Ty.upd g nn d.l) (way ++ [1]) id).bind fun _ => Ty.chkd t c (Ty.upd g oo d.r) (way ++ [2]) id) from jn_is t way 4 _ _
  generalize jnR t way 4 (Ty.told t a g (way ++ [0])) = J at *
  generalize Ty.chkd t (Ty.Tr.cas nn oo a b c) g way id = ANS at *
  clear hsz hn HB0 HBS
  have HAF0 := show Hid (Af w w B C m N (.pointer (some ⟨tb, 0, none⟩)) g wv wv way) from Af.refl h
  have hq1 := neq_if
  have hq2 := neq_no
  clear hK h hT hG hgs hgk hgn hgo hgf hw hB hAa hCb hCc
  show Calls _ _ #[.pointer (some ⟨C, 0, none⟩), (.agg #[.int .i64 9, .string nn, .string oo, .int .i64 0, (.slice p nk kc)]), .int .i64 id] _ _
  go_enter Tryd.func42, Tryd.ntmps42
  go_wp2_with (refine wpList_box 27 _ rfl _ rfl rfl ?_)
  intro w1 bx hn1
  have HX1 := show Hid (Cl w1 bx #[.int .i64 9, .string nn, .string oo, .int .i64 0, .slice p nk kc] 27) from hn1.blk
  have HAF1 := show Hid _ from HAF0.out.then hn1.bel
  have hgx : w.heap.size ≤ bx := hn1.ge
  have HGX := show Hid (w.heap.size ≤ bx) from hgx
  clear hn1 HAF0 hgx
  have x0 : w1.cell? ⟨bx, 0, none⟩ = some (.int .i64 9) := Cl.cell HX1.out 0
  have x1 : w1.cell? ⟨bx, 1, none⟩ = some (.string nn) := Cl.cell HX1.out 1
  have x2 : w1.cell? ⟨bx, 2, none⟩ = some (.string oo) := Cl.cell HX1.out 2
  have x3 : w1.cell? ⟨bx, 3, none⟩ = some (.int .i64 0) := Cl.cell HX1.out 3
  have x4 : w1.cell? ⟨bx, 4, none⟩ = some (.slice p nk kc) := Cl.cell HX1.out 4
  go_wp2_with fail
  clear x0 x1 x2 x3 x4
  refine Calls.mono (KJ.out w1 _ _ HAF1.out (by have := HNS.out; omega)) ?_
  rintro e w2 ⟨wv2, hP2, haf2⟩
  have HX2 := show Hid _ from Cl.af HX1.out HAF1.out.ck haf2.kp (by decide) (by decide)
  have HAF2 := show Hid _ from HAF1.out.trans haf2
  have HP2 := show Hid _ from hP2
  clear hP2 haf2 HX1 HAF1 KJ
  cases J with
  | error er =>
    obtain ⟨q, rfl, hrf⟩ := HP2.out
    have HRF0 := show Hid _ from hrf
    have hA : ANS = .no er.1 er.2 := HANS.out
    have HA := show Hid (ANS = .no er.1 er.2) from hA
    clear HP2 hrf hA HANS
    unfold ndV
    go_wp2_with (refine wpList_alloc 54 rfl _ zeroNode rfl ?_)
    intro w3 br4 hn3
    go_wp2_with (refine wpList_st 54 rfl rfl _ _ rfl br4 rfl _ rfl _ _ hn3.blk sizeNode rfl (node_all Fm.z) ?_)
    intro w4 hc4 hk4
    have hge4 : w.heap.size ≤ br4 := Nat.le_trans HAF2.out.kp.size hn3.ge
    have HAF4 := show Hid _ from (HAF2.out.then hn3.bel).own hn3.blk (by decide) (by decide) hk4 hge4
    have HX4 := show Hid _ from Cl.kp (Cl.new HX2.out hn3) hk4 (by have := Cl.lt HX2.out; have := hn3.ge; omega)
    have HN4 := show Hid (Cl w4 br4 #[.int .i64 (Fm.z).k, .string (Fm.z).s, .int .i64 (Fm.z).l, .int .i64 (Fm.z).r] 54) from hc4
    have HRF := show Hid _ from (HRF0.out.later hn3.bel).other hn3.blk (by decide) (by decide) hk4
    clear hn3 hc4 hk4 hge4 HX2 HAF2 HN4
    go_wp2_with fail
    go_ret
    exact ⟨_, by rw [HA.out]; exact ⟨q, rfl, HRF.out⟩, HAF4.out.mono (by have := HNS.out; omega)⟩
  | ok d =>
    obtain rfl := HP2.out
    clear HP2
    unfold ndV
    go_wp2_with (refine wpList_alloc 54 rfl _ zeroNode rfl ?_)
    intro w3 br4 hn3
    go_wp2_with (refine wpList_st 54 rfl rfl _ _ rfl br4 rfl _ rfl _ _ hn3.blk sizeNode rfl (node_all d) ?_)
    intro w4 hc4 hk4
    have hge4 : w.heap.size ≤ br4 := Nat.le_trans HAF2.out.kp.size hn3.ge
    have HAF4 := show Hid _ from (HAF2.out.then hn3.bel).own hn3.blk (by decide) (by decide) hk4 hge4
    have HX4 := show Hid _ from Cl.kp (Cl.new HX2.out hn3) hk4 (by have := Cl.lt HX2.out; have := hn3.ge; omega)
    have HN4 := show Hid (Cl w4 br4 #[.int .i64 (d).k, .string (d).s, .int .i64 (d).l, .int .i64 (d).r] 54) from hc4
    clear hn3 hc4 hk4 hge4 HX2 HAF2
    have x0 : w4.cell? ⟨bx, 0, none⟩ = some (.int .i64 9) := Cl.cell HX4.out 0
    have x1 : w4.cell? ⟨bx, 1, none⟩ = some (.string nn) := Cl.cell HX4.out 1
    have x2 : w4.cell? ⟨bx, 2, none⟩ = some (.string oo) := Cl.cell HX4.out 2
    have x3 : w4.cell? ⟨bx, 3, none⟩ = some (.int .i64 0) := Cl.cell HX4.out 3
    have x4 : w4.cell? ⟨bx, 4, none⟩ = some (.slice p nk kc) := Cl.cell HX4.out 4
    have y2 : w4.cell? ⟨br4, 2, none⟩ = some (.int .i64 d.l) := Cl.cell HN4.out 2
    have y3 : w4.cell? ⟨br4, 3, none⟩ = some (.int .i64 d.r) := Cl.cell HN4.out 3
    go_wp2_with fail
    clear x0 x1 x2 x3 x4 y2 y3
    refine Calls.mono (KW.out w4 _ _ d.l id HAF4.out (by have := HNS.out; omega)) ?_
    rintro e w5 ⟨wv5, hP5, haf5⟩
    have HX5 := show Hid _ from Cl.af HX4.out HAF4.out.ck haf5.kp (by decide) (by decide)
    have HN5 := show Hid _ from Cl.af HN4.out HAF4.out.ck haf5.kp (by decide) (by decide)
    have HAF5 := show Hid _ from HAF4.out.trans haf5
    have HP5 := show Hid _ from hP5
    clear hP5 haf5 HX4 HAF4 HN4 KW
    generalize Ty.chkd t b (Ty.upd g nn d.l) (way ++ [1]) id = A5 at *
    cases A5 with
    | no er5 wy5 =>
      obtain ⟨q, rfl, hrf⟩ := HP5.out
      have HRF := show Hid _ from hrf
      have HA := show Hid (ANS = .no er5 wy5) from HANS.out
      clear HP5 hrf HANS
      go_wp2_with fail
      go_ret
      exact ⟨_, by rw [HA.out]; exact ⟨q, rfl, HRF.out⟩, HAF5.out.mono (by have := HNS.out; omega)⟩
    | ok f5 =>
      obtain rfl := HP5.out
      clear HP5
      have HANS2 := show Hid (ANS = Ty.chkd t c (Ty.upd g oo d.r) (way ++ [2]) id) from HANS.out
      clear HANS
      have HANS := show Hid _ from HANS2.out
      clear HANS2
      have x0 : w5.cell? ⟨bx, 0, none⟩ = some (.int .i64 9) := Cl.cell HX5.out 0
      have x1 : w5.cell? ⟨bx, 1, none⟩ = some (.string nn) := Cl.cell HX5.out 1
      have x2 : w5.cell? ⟨bx, 2, none⟩ = some (.string oo) := Cl.cell HX5.out 2
      have x3 : w5.cell? ⟨bx, 3, none⟩ = some (.int .i64 0) := Cl.cell HX5.out 3
      have x4 : w5.cell? ⟨bx, 4, none⟩ = some (.slice p nk kc) := Cl.cell HX5.out 4
      have y2 : w5.cell? ⟨br4, 2, none⟩ = some (.int .i64 d.l) := Cl.cell HN5.out 2
      have y3 : w5.cell? ⟨br4, 3, none⟩ = some (.int .i64 d.r) := Cl.cell HN5.out 3
      go_wp2_with fail
      clear x0 x1 x2 x3 x4 y2 y3
      refine Calls.mono (KV.out w5 _ _ d.r id HAF5.out (by have := HNS.out; omega)) ?_
      rintro e w6 ⟨wv6, hP6, haf6⟩
      have HX6 := show Hid _ from Cl.af HX5.out HAF5.out.ck haf6.kp (by decide) (by decide)
      have HN6 := show Hid _ from Cl.af HN5.out HAF5.out.ck haf6.kp (by decide) (by decide)
      have HAF6 := show Hid _ from HAF5.out.trans haf6
      have HP6 := show Hid _ from hP6
      clear hP6 haf6 HX5 HAF5 HN5 KV
      generalize Ty.chkd t c (Ty.upd g oo d.r) (way ++ [2]) id = A6 at *
      cases A6 with
      | no er6 wy6 =>
        obtain ⟨q, rfl, hrf⟩ := HP6.out
        have HRF := show Hid _ from hrf
        have HA := show Hid (ANS = .no er6 wy6) from HANS.out
        clear HP6 hrf HANS
        go_wp2_with fail
        go_ret
        exact ⟨_, by rw [HA.out]; exact ⟨q, rfl, HRF.out⟩, HAF6.out.mono (by have := HNS.out; omega)⟩
      | ok f6 =>
        obtain rfl := HP6.out
        clear HP6
        have HA := show Hid (ANS = .ok f6) from HANS.out
        clear HANS
        go_wp2_with fail
        go_ret
        exact ⟨_, by rw [HA.out]; exact (show (_ : Ending) = _ from rfl), HAF6.out.mono (by have := HNS.out; omega)⟩
set_option maxRecDepth 100000 in
set_option maxHeartbeats 4000000 in
theorem checkedLet_lt {B C m tb mt : Nat} {v : Value} {t : List Nd} {a : Ty.Tr} {b : Ty.Tr} {nn : ByteArray} (hAa : TolC B C m tb mt v t a) (hCb : ChkC B C m tb mt v t b) (w : World) {N : Nat} {g : Ty.Env} {wv sv : Value} {way : List Int} (id : Int) (hT : TbB w B tb mt v t) (h : Ck w B C m N (.pointer (some ⟨tb, 0, none⟩)) g wv way) (hB : B ≤ w.heap.size) (hK : Kid w B (Ty.Tr.lt nn a b).tm sv) (hG : Gt (Ty.Tr.lt nn a b).tm) (hn : N + 4 * (Ty.Tr.lt nn a b).size ≤ 90000000000000) (hw : way.length + (Ty.Tr.lt nn a b).size ≤ 900000) :
    Calls Tryd.prog 43 #[.pointer (some ⟨C, 0, none⟩), tmV (Ty.Tr.lt nn a b).tm sv, .int .i64 id] w fun r w' => ∃ wv2, ChP B w' r wv2 (Ty.chkd t (Ty.Tr.lt nn a b) g way id) ∧ Af w w' B C m (N + 4 * (Ty.Tr.lt nn a b).size) (.pointer (some ⟨tb, 0, none⟩)) g wv wv2 way := by
  obtain ⟨p, nk, kc, rfl⟩ := hK.form
  obtain ⟨hgk, hgn, hgo, hgf⟩ := hG.parts
  have hgs := hG.sub
  have HB0 := show Hid (∀ W n' wv', Af w W B C m n' (.pointer (some ⟨tb, 0, none⟩)) g wv wv' way → Below B w W) from fun W n' wv' ha => h.below ha.kp hB
  have HBS := show Hid (∀ W n' wv', Af w W B C m n' (.pointer (some ⟨tb, 0, none⟩)) g wv wv' way → B ≤ W.heap.size) from fun W n' wv' ha => Nat.le_trans hB ha.kp.size
  have hsz : (Ty.Tr.lt nn a b).size = a.size + b.size + 1 := rfl
  have KP := show Hid (∀ (W : World) (n' : Nat) (wv' : Value), Af w W B C m n' (.pointer (some ⟨tb, 0, none⟩)) g wv wv' way → n' + 4 * a.size ≤ 90000000000000 → Calls Tryd.prog 57 #[.pointer (some ⟨C, 0, none⟩), (.agg #[.int .i64 12, .string nn, .string Ty.e0, .int .i64 0, (.slice p nk kc)]), .int .i64 0] W fun r w' => ∃ wv2, TlP B w' r wv2 (Ty.told t a g (way ++ [0])) ∧ Af W w' B C m (n' + 4 * a.size) (.pointer (some ⟨tb, 0, none⟩)) g wv' wv2 way) from fun W n' wv' ha hn' => toldPart_any W 0 (show 0 < (Ty.Tr.lt nn a b).tm.sub.length from by simp [Ty.Tr.tm, Tm.sub]) rfl ha.ck (by omega) (HBS.out W n' wv' ha) (hK.below (HB0.out W n' wv' ha)) hgs.1 (fun W2 kv wv2 hW2 hk hc2 => hAa W2 n' g wv2 kv (way ++ [((0 : Nat) : Int)]) ((hT.later (HB0.out W n' wv' ha)).later hW2) hc2 (Nat.le_trans (HBS.out W n' wv' ha) hW2.size) hk (hgs.2 a.tm (by simp [Ty.Tr.tm, Tm.sub])) (by omega) (by simp; omega))
  have KW := show Hid (∀ (W : World) (n' : Nat) (wv' : Value) (f' : Int) (id' : Int), Af w W B C m n' (.pointer (some ⟨tb, 0, none⟩)) g wv wv' way → n' + 4 * b.size + 2 ≤ 90000000000000 → Calls Tryd.prog 64 #[.pointer (some ⟨C, 0, none⟩), (.agg #[.int .i64 12, .string nn, .string Ty.e0, .int .i64 0, (.slice p nk kc)]), .int .i64 1, .string nn, .int .i64 f', .int .i64 id'] W fun r w' => ∃ wv2, ChP B w' r wv2 (Ty.chkd t b (Ty.upd g nn f') (way ++ [1]) id') ∧ Af W w' B C m (n' + 1 + 4 * b.size + 1) (.pointer (some ⟨tb, 0, none⟩)) g wv' wv2 way) from fun W n' wv' f' id' ha hn' => checkedWith_any W 1 (show 1 < (Ty.Tr.lt nn a b).tm.sub.length from by simp [Ty.Tr.tm, Tm.sub]) rfl ha.ck (by omega) (HBS.out W n' wv' ha) (hK.below (HB0.out W n' wv' ha)) hgs.1 (by omega) (by omega) nn hgn f' id' (fun W2 kv wv2 hW2 hk hc2 => hCb W2 (n' + 1) (Ty.upd g nn f') wv2 kv (way ++ [((1 : Nat) : Int)]) id' ((hT.later (HB0.out W n' wv' ha)).later hW2) hc2 (Nat.le_trans (HBS.out W n' wv' ha) hW2.size) hk (hgs.2 b.tm (by simp [Ty.Tr.tm, Tm.sub])) (by omega) (by simp; omega))
  have HNS := show Hid ((Ty.Tr.lt nn a b).size = a.size + b.size + 1 ∧ N + 4 * (Ty.Tr.lt nn a b).size ≤ 90000000000000) from ⟨hsz, hn⟩
  have HANS := show Hid (Ty.chkd t (Ty.Tr.lt nn a b) g way id = (Ty.told t a g (way ++ [0])).bind fun f => Ty.chkd t b (Ty.upd g nn f) (way ++ [1]) id) from rfl
  generalize Ty.chkd t (Ty.Tr.lt nn a b) g way id = ANS at *
  clear hsz hn HB0 HBS
  have HAF0 := show Hid (Af w w B C m N (.pointer (some ⟨tb, 0, none⟩)) g wv wv way) from Af.refl h
  have hq1 := neq_if
  have hq2 := neq_no
  clear hK h hT hG hgs hgk hgn hgo hgf hw hB hAa hCb
  show Calls _ _ #[.pointer (some ⟨C, 0, none⟩), (.agg #[.int .i64 12, .string nn, .string Ty.e0, .int .i64 0, (.slice p nk kc)]), .int .i64 id] _ _
  go_enter Tryd.func43, Tryd.ntmps43
  go_wp2_with (refine wpList_box 27 _ rfl _ rfl rfl ?_)
  intro w1 bx hn1
  have HX1 := show Hid (Cl w1 bx #[.int .i64 12, .string nn, .string Ty.e0, .int .i64 0, .slice p nk kc] 27) from hn1.blk
  have HAF1 := show Hid _ from HAF0.out.then hn1.bel
  have hgx : w.heap.size ≤ bx := hn1.ge
  have HGX := show Hid (w.heap.size ≤ bx) from hgx
  clear hn1 HAF0 hgx
  have x0 : w1.cell? ⟨bx, 0, none⟩ = some (.int .i64 12) := Cl.cell HX1.out 0
  have x1 : w1.cell? ⟨bx, 1, none⟩ = some (.string nn) := Cl.cell HX1.out 1
  have x2 : w1.cell? ⟨bx, 2, none⟩ = some (.string Ty.e0) := Cl.cell HX1.out 2
  have x3 : w1.cell? ⟨bx, 3, none⟩ = some (.int .i64 0) := Cl.cell HX1.out 3
  have x4 : w1.cell? ⟨bx, 4, none⟩ = some (.slice p nk kc) := Cl.cell HX1.out 4
  go_wp2_with fail
  clear x0 x1 x2 x3 x4
  refine Calls.mono (KP.out w1 _ _ HAF1.out (by have := HNS.out; omega)) ?_
  rintro e w2 ⟨wv2, hP2, haf2⟩
  have HX2 := show Hid _ from Cl.af HX1.out HAF1.out.ck haf2.kp (by decide) (by decide)
  have HAF2 := show Hid _ from HAF1.out.trans haf2
  have HP2 := show Hid _ from hP2
  clear hP2 haf2 HX1 HAF1 KP
  generalize Ty.told t a g (way ++ [0]) = A2 at *
  cases A2 with
  | no er2 wy2 =>
    obtain ⟨q, rfl, hrf⟩ := HP2.out
    have HRF := show Hid _ from hrf
    have HA := show Hid (ANS = .no er2 wy2) from HANS.out
    clear HP2 hrf HANS
    go_wp2_with fail
    go_ret
    exact ⟨_, by rw [HA.out]; exact ⟨q, rfl, HRF.out⟩, HAF2.out.mono (by have := HNS.out; omega)⟩
  | ok f2 =>
    obtain rfl := HP2.out
    clear HP2
    have HANS2 := show Hid (ANS = Ty.chkd t b (Ty.upd g nn f2) (way ++ [1]) id) from HANS.out
    clear HANS
    have HANS := show Hid _ from HANS2.out
    clear HANS2
    have x0 : w2.cell? ⟨bx, 0, none⟩ = some (.int .i64 12) := Cl.cell HX2.out 0
    have x1 : w2.cell? ⟨bx, 1, none⟩ = some (.string nn) := Cl.cell HX2.out 1
    have x2 : w2.cell? ⟨bx, 2, none⟩ = some (.string Ty.e0) := Cl.cell HX2.out 2
    have x3 : w2.cell? ⟨bx, 3, none⟩ = some (.int .i64 0) := Cl.cell HX2.out 3
    have x4 : w2.cell? ⟨bx, 4, none⟩ = some (.slice p nk kc) := Cl.cell HX2.out 4
    go_wp2_with fail
    clear x0 x1 x2 x3 x4
    refine Calls.mono (KW.out w2 _ _ f2 id HAF2.out (by have := HNS.out; omega)) ?_
    rintro e w3 ⟨wv3, hP3, haf3⟩
    have HX3 := show Hid _ from Cl.af HX2.out HAF2.out.ck haf3.kp (by decide) (by decide)
    have HAF3 := show Hid _ from HAF2.out.trans haf3
    have HP3 := show Hid _ from hP3
    clear hP3 haf3 HX2 HAF2 KW
    generalize Ty.chkd t b (Ty.upd g nn f2) (way ++ [1]) id = A3 at *
    cases A3 with
    | no er3 wy3 =>
      obtain ⟨q, rfl, hrf⟩ := HP3.out
      have HRF := show Hid _ from hrf
      have HA := show Hid (ANS = .no er3 wy3) from HANS.out
      clear HP3 hrf HANS
      go_wp2_with fail
      go_ret
      exact ⟨_, by rw [HA.out]; exact ⟨q, rfl, HRF.out⟩, HAF3.out.mono (by have := HNS.out; omega)⟩
    | ok f3 =>
      obtain rfl := HP3.out
      clear HP3
      have HA := show Hid (ANS = .ok f3) from HANS.out
      clear HANS
      go_wp2_with fail
      go_ret
      exact ⟨_, by rw [HA.out]; exact (show (_ : Ending) = _ from rfl), HAF3.out.mono (by have := HNS.out; omega)⟩
end Go.Proofs.YtkpbpecikibohaaDoor.Ya
