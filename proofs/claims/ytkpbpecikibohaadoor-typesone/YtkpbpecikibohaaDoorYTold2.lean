/-
  told, kind by kind. No condition but sizes. (Written by genycalls.py.)
-/
import Derived.Test.YtkpbpecikibohaaDoorYTold
namespace Go.Proofs.YtkpbpecikibohaaDoor.Ya
open Go.RowKit Go.Maps
open Fm (Nd)
open Ty (Tm An)
set_option linter.unusedSimpArgs false
set_option maxRecDepth 100000 in
set_option maxHeartbeats 4000000 in
theorem told_var {B C m tb mt : Nat} {v : Value} {t : List Nd}  {n : ByteArray}  (w : World) {N : Nat} {g : Ty.Env} {wv sv : Value} {way : List Int} (_hT : TbB w B tb mt v t) (h : Ck w B C m N (.pointer (some ⟨tb, 0, none⟩)) g wv way) (hB : B ≤ w.heap.size) (hK : Kid w B (Ty.Tr.var n).tm sv) (hG : Gt (Ty.Tr.var n).tm) (hn : N + 4 * (Ty.Tr.var n).size ≤ 90000000000000) (hw : way.length + (Ty.Tr.var n).size ≤ 900000) :
    Calls Tryd.prog 18 #[.pointer (some ⟨C, 0, none⟩), tmV (Ty.Tr.var n).tm sv] w fun r w' => ∃ wv2, TlP B w' r wv2 (Ty.told t (Ty.Tr.var n) g way) ∧ Af w w' B C m (N + 4 * (Ty.Tr.var n).size) (.pointer (some ⟨tb, 0, none⟩)) g wv wv2 way := by
  obtain ⟨p, nk, kc, rfl⟩ := hK.form
  obtain ⟨hgk, hgn, hgo, hgf⟩ := hG.parts
  have hgs := hG.sub
  have HB0 := show Hid (∀ W n' wv', Af w W B C m n' (.pointer (some ⟨tb, 0, none⟩)) g wv wv' way → Below B w W) from fun W n' wv' ha => h.below ha.kp hB
  have HBS := show Hid (∀ W n' wv', Af w W B C m n' (.pointer (some ⟨tb, 0, none⟩)) g wv wv' way → B ≤ W.heap.size) from fun W n' wv' ha => Nat.le_trans hB ha.kp.size
  have hsz : (Ty.Tr.var n).size = 1 := rfl
  have KN := show Hid (∀ (W : World) (n' : Nat) (wv' : Value), Af w W B C m n' (.pointer (some ⟨tb, 0, none⟩)) g wv wv' way → Calls Tryd.prog 29 #[.pointer (some ⟨C, 0, none⟩), .string n] W fun r w' => TlP B w' r wv' (match g n with | some x => .ok x | none => .no 131 way) ∧ Below W.heap.size W w') from fun W n' wv' ha => toldName_any W ha.ck (by omega) (HBS.out W n' wv' ha) n hgn
  have HNS := show Hid ((Ty.Tr.var n).size = 1 ∧ N + 4 * (Ty.Tr.var n).size ≤ 90000000000000) from ⟨hsz, hn⟩
  have HANS := show Hid (Ty.told t (Ty.Tr.var n) g way = match g n with | some x => .ok x | none => .no 131 way) from rfl
  generalize (match g n with | some x => An.ok x | none => An.no 131 way) = A0 at *
  generalize Ty.told t (Ty.Tr.var n) g way = ANS at *
  clear hsz hn HB0 HBS
  have HAF0 := show Hid (Af w w B C m N (.pointer (some ⟨tb, 0, none⟩)) g wv wv way) from Af.refl h
  have hq1 := neq_if
  have hq2 := neq_no
  clear hK h _hT hG hgs hgk hgn hgo hgf hw hB
  show Calls _ _ #[.pointer (some ⟨C, 0, none⟩), (.agg #[.int .i64 1, .string n, .string Ty.e0, .int .i64 0, (.slice p nk kc)])] _ _
  go_enter Tryd.func18, Tryd.ntmps18
  go_wp2_with (refine wpList_box 27 _ rfl _ rfl rfl ?_)
  intro w1 bx hn1
  have HX1 := show Hid (Cl w1 bx #[.int .i64 1, .string n, .string Ty.e0, .int .i64 0, .slice p nk kc] 27) from hn1.blk
  have HAF1 := show Hid _ from HAF0.out.then hn1.bel
  have hgx : w.heap.size ≤ bx := hn1.ge
  have HGX := show Hid (w.heap.size ≤ bx) from hgx
  clear hn1 HAF0 hgx
  have x0 : w1.cell? ⟨bx, 0, none⟩ = some (.int .i64 1) := Cl.cell HX1.out 0
  have x1 : w1.cell? ⟨bx, 1, none⟩ = some (.string n) := Cl.cell HX1.out 1
  have x2 : w1.cell? ⟨bx, 2, none⟩ = some (.string Ty.e0) := Cl.cell HX1.out 2
  have x3 : w1.cell? ⟨bx, 3, none⟩ = some (.int .i64 0) := Cl.cell HX1.out 3
  have x4 : w1.cell? ⟨bx, 4, none⟩ = some (.slice p nk kc) := Cl.cell HX1.out 4
  go_wp2_with fail
  clear x0 x1 x2 x3 x4
  refine Calls.mono (KN.out w1 _ _ HAF1.out) ?_
  rintro e w2 ⟨hP2, hb2⟩
  have HX2 := show Hid _ from Cl.later HX1.out hb2
  have HAF2 := show Hid _ from HAF1.out.then hb2
  clear HX1 HAF1 KN hb2
  have HP2 := show Hid _ from hP2
  clear hP2
  cases A0 with
  | no er wy =>
    obtain ⟨q, rfl, hrf⟩ := HP2.out
    have HRF := show Hid _ from hrf
    clear HP2 hrf
    have x0 : w2.cell? ⟨bx, 0, none⟩ = some (.int .i64 1) := Cl.cell HX2.out 0
    have x1 : w2.cell? ⟨bx, 1, none⟩ = some (.string n) := Cl.cell HX2.out 1
    have x2 : w2.cell? ⟨bx, 2, none⟩ = some (.string Ty.e0) := Cl.cell HX2.out 2
    have x3 : w2.cell? ⟨bx, 3, none⟩ = some (.int .i64 0) := Cl.cell HX2.out 3
    have x4 : w2.cell? ⟨bx, 4, none⟩ = some (.slice p nk kc) := Cl.cell HX2.out 4
    go_wp2_with fail
    go_ret2
    exact ⟨_, by rw [HANS.out]; exact ⟨q, rfl, HRF.out⟩, HAF2.out.mono (by have := HNS.out; omega)⟩
  | ok f =>
    obtain rfl := HP2.out
    clear HP2
    have x0 : w2.cell? ⟨bx, 0, none⟩ = some (.int .i64 1) := Cl.cell HX2.out 0
    have x1 : w2.cell? ⟨bx, 1, none⟩ = some (.string n) := Cl.cell HX2.out 1
    have x2 : w2.cell? ⟨bx, 2, none⟩ = some (.string Ty.e0) := Cl.cell HX2.out 2
    have x3 : w2.cell? ⟨bx, 3, none⟩ = some (.int .i64 0) := Cl.cell HX2.out 3
    have x4 : w2.cell? ⟨bx, 4, none⟩ = some (.slice p nk kc) := Cl.cell HX2.out 4
    go_wp2_with fail
    go_ret2
    exact ⟨_, by rw [HANS.out]; exact (show (_ : Ending) = _ from rfl), HAF2.out.mono (by have := HNS.out; omega)⟩
set_option maxRecDepth 100000 in
set_option maxHeartbeats 4000000 in
theorem told_lam {B C m tb mt : Nat} {v : Value} {t : List Nd} {a : Ty.Tr} {n : ByteArray}  (w : World) {N : Nat} {g : Ty.Env} {wv sv : Value} {way : List Int} (_hT : TbB w B tb mt v t) (h : Ck w B C m N (.pointer (some ⟨tb, 0, none⟩)) g wv way) (hB : B ≤ w.heap.size) (hK : Kid w B (Ty.Tr.lam n a).tm sv) (hG : Gt (Ty.Tr.lam n a).tm) (hn : N + 4 * (Ty.Tr.lam n a).size ≤ 90000000000000) (hw : way.length + (Ty.Tr.lam n a).size ≤ 900000) :
    Calls Tryd.prog 18 #[.pointer (some ⟨C, 0, none⟩), tmV (Ty.Tr.lam n a).tm sv] w fun r w' => ∃ wv2, TlP B w' r wv2 (Ty.told t (Ty.Tr.lam n a) g way) ∧ Af w w' B C m (N + 4 * (Ty.Tr.lam n a).size) (.pointer (some ⟨tb, 0, none⟩)) g wv wv2 way := by
  obtain ⟨p, nk, kc, rfl⟩ := hK.form
  obtain ⟨hgk, hgn, hgo, hgf⟩ := hG.parts
  have hgs := hG.sub
  have HB0 := show Hid (∀ W n' wv', Af w W B C m n' (.pointer (some ⟨tb, 0, none⟩)) g wv wv' way → Below B w W) from fun W n' wv' ha => h.below ha.kp hB
  have HBS := show Hid (∀ W n' wv', Af w W B C m n' (.pointer (some ⟨tb, 0, none⟩)) g wv wv' way → B ≤ W.heap.size) from fun W n' wv' ha => Nat.le_trans hB ha.kp.size
  have hsz : (Ty.Tr.lam n a).size = a.size + 1 := rfl
  have KR := show Hid (∀ (W : World) (n' : Nat) (wv' : Value), Af w W B C m n' (.pointer (some ⟨tb, 0, none⟩)) g wv wv' way → Calls Tryd.prog 24 #[.pointer (some ⟨C, 0, none⟩), .int .i64 132] W fun r w' => ∃ q, r = .returned (.iface 80 (.pointer (some ⟨q, 0, none⟩))) ∧ Rf w' B q 132 way wv' ∧ Below W.heap.size W w') from fun W n' wv' ha => refuse_any W ha.ck (by omega) (HBS.out W n' wv' ha) 132
  have HNS := show Hid ((Ty.Tr.lam n a).size = a.size + 1 ∧ N + 4 * (Ty.Tr.lam n a).size ≤ 90000000000000) from ⟨hsz, hn⟩
  have HANS := show Hid (Ty.told t (Ty.Tr.lam n a) g way = .no 132 way) from rfl
  generalize Ty.told t (Ty.Tr.lam n a) g way = ANS at *
  clear hsz hn HB0 HBS
  have HAF0 := show Hid (Af w w B C m N (.pointer (some ⟨tb, 0, none⟩)) g wv wv way) from Af.refl h
  have hq1 := neq_if
  have hq2 := neq_no
  clear hK h _hT hG hgs hgk hgn hgo hgf hw hB
  show Calls _ _ #[.pointer (some ⟨C, 0, none⟩), (.agg #[.int .i64 2, .string n, .string Ty.e0, .int .i64 0, (.slice p nk kc)])] _ _
  go_enter Tryd.func18, Tryd.ntmps18
  go_wp2_with (refine wpList_box 27 _ rfl _ rfl rfl ?_)
  intro w1 bx hn1
  have HX1 := show Hid (Cl w1 bx #[.int .i64 2, .string n, .string Ty.e0, .int .i64 0, .slice p nk kc] 27) from hn1.blk
  have HAF1 := show Hid _ from HAF0.out.then hn1.bel
  have hgx : w.heap.size ≤ bx := hn1.ge
  have HGX := show Hid (w.heap.size ≤ bx) from hgx
  clear hn1 HAF0 hgx
  have x0 : w1.cell? ⟨bx, 0, none⟩ = some (.int .i64 2) := Cl.cell HX1.out 0
  have x1 : w1.cell? ⟨bx, 1, none⟩ = some (.string n) := Cl.cell HX1.out 1
  have x2 : w1.cell? ⟨bx, 2, none⟩ = some (.string Ty.e0) := Cl.cell HX1.out 2
  have x3 : w1.cell? ⟨bx, 3, none⟩ = some (.int .i64 0) := Cl.cell HX1.out 3
  have x4 : w1.cell? ⟨bx, 4, none⟩ = some (.slice p nk kc) := Cl.cell HX1.out 4
  go_wp2_with fail
  clear x0 x1 x2 x3 x4
  refine Calls.mono (KR.out w1 _ _ HAF1.out) ?_
  rintro e w2 ⟨q, rfl, hrf, hb2⟩
  have HX2 := show Hid _ from Cl.later HX1.out hb2
  have HAF2 := show Hid _ from HAF1.out.then hb2
  clear HX1 HAF1 KR hb2
  have HRF := show Hid _ from hrf
  clear hrf
  go_wp2_with fail
  go_ret2
  exact ⟨_, by rw [HANS.out]; exact ⟨q, rfl, HRF.out⟩, HAF2.out.mono (by have := HNS.out; omega)⟩
set_option maxRecDepth 100000 in
set_option maxHeartbeats 4000000 in
theorem told_pair {B C m tb mt : Nat} {v : Value} {t : List Nd} {a : Ty.Tr} {b : Ty.Tr}   (w : World) {N : Nat} {g : Ty.Env} {wv sv : Value} {way : List Int} (_hT : TbB w B tb mt v t) (h : Ck w B C m N (.pointer (some ⟨tb, 0, none⟩)) g wv way) (hB : B ≤ w.heap.size) (hK : Kid w B (Ty.Tr.pair a b).tm sv) (hG : Gt (Ty.Tr.pair a b).tm) (hn : N + 4 * (Ty.Tr.pair a b).size ≤ 90000000000000) (hw : way.length + (Ty.Tr.pair a b).size ≤ 900000) :
    Calls Tryd.prog 18 #[.pointer (some ⟨C, 0, none⟩), tmV (Ty.Tr.pair a b).tm sv] w fun r w' => ∃ wv2, TlP B w' r wv2 (Ty.told t (Ty.Tr.pair a b) g way) ∧ Af w w' B C m (N + 4 * (Ty.Tr.pair a b).size) (.pointer (some ⟨tb, 0, none⟩)) g wv wv2 way := by
  obtain ⟨p, nk, kc, rfl⟩ := hK.form
  obtain ⟨hgk, hgn, hgo, hgf⟩ := hG.parts
  have hgs := hG.sub
  have HB0 := show Hid (∀ W n' wv', Af w W B C m n' (.pointer (some ⟨tb, 0, none⟩)) g wv wv' way → Below B w W) from fun W n' wv' ha => h.below ha.kp hB
  have HBS := show Hid (∀ W n' wv', Af w W B C m n' (.pointer (some ⟨tb, 0, none⟩)) g wv wv' way → B ≤ W.heap.size) from fun W n' wv' ha => Nat.le_trans hB ha.kp.size
  have hsz : (Ty.Tr.pair a b).size = a.size + b.size + 1 := rfl
  have KR := show Hid (∀ (W : World) (n' : Nat) (wv' : Value), Af w W B C m n' (.pointer (some ⟨tb, 0, none⟩)) g wv wv' way → Calls Tryd.prog 24 #[.pointer (some ⟨C, 0, none⟩), .int .i64 132] W fun r w' => ∃ q, r = .returned (.iface 80 (.pointer (some ⟨q, 0, none⟩))) ∧ Rf w' B q 132 way wv' ∧ Below W.heap.size W w') from fun W n' wv' ha => refuse_any W ha.ck (by omega) (HBS.out W n' wv' ha) 132
  have HNS := show Hid ((Ty.Tr.pair a b).size = a.size + b.size + 1 ∧ N + 4 * (Ty.Tr.pair a b).size ≤ 90000000000000) from ⟨hsz, hn⟩
  have HANS := show Hid (Ty.told t (Ty.Tr.pair a b) g way = .no 132 way) from rfl
  generalize Ty.told t (Ty.Tr.pair a b) g way = ANS at *
  clear hsz hn HB0 HBS
  have HAF0 := show Hid (Af w w B C m N (.pointer (some ⟨tb, 0, none⟩)) g wv wv way) from Af.refl h
  have hq1 := neq_if
  have hq2 := neq_no
  clear hK h _hT hG hgs hgk hgn hgo hgf hw hB
  show Calls _ _ #[.pointer (some ⟨C, 0, none⟩), (.agg #[.int .i64 4, .string Ty.e0, .string Ty.e0, .int .i64 0, (.slice p nk kc)])] _ _
  go_enter Tryd.func18, Tryd.ntmps18
  go_wp2_with (refine wpList_box 27 _ rfl _ rfl rfl ?_)
  intro w1 bx hn1
  have HX1 := show Hid (Cl w1 bx #[.int .i64 4, .string Ty.e0, .string Ty.e0, .int .i64 0, .slice p nk kc] 27) from hn1.blk
  have HAF1 := show Hid _ from HAF0.out.then hn1.bel
  have hgx : w.heap.size ≤ bx := hn1.ge
  have HGX := show Hid (w.heap.size ≤ bx) from hgx
  clear hn1 HAF0 hgx
  have x0 : w1.cell? ⟨bx, 0, none⟩ = some (.int .i64 4) := Cl.cell HX1.out 0
  have x1 : w1.cell? ⟨bx, 1, none⟩ = some (.string Ty.e0) := Cl.cell HX1.out 1
  have x2 : w1.cell? ⟨bx, 2, none⟩ = some (.string Ty.e0) := Cl.cell HX1.out 2
  have x3 : w1.cell? ⟨bx, 3, none⟩ = some (.int .i64 0) := Cl.cell HX1.out 3
  have x4 : w1.cell? ⟨bx, 4, none⟩ = some (.slice p nk kc) := Cl.cell HX1.out 4
  go_wp2_with fail
  clear x0 x1 x2 x3 x4
  refine Calls.mono (KR.out w1 _ _ HAF1.out) ?_
  rintro e w2 ⟨q, rfl, hrf, hb2⟩
  have HX2 := show Hid _ from Cl.later HX1.out hb2
  have HAF2 := show Hid _ from HAF1.out.then hb2
  clear HX1 HAF1 KR hb2
  have HRF := show Hid _ from hrf
  clear hrf
  go_wp2_with fail
  go_ret2
  exact ⟨_, by rw [HANS.out]; exact ⟨q, rfl, HRF.out⟩, HAF2.out.mono (by have := HNS.out; omega)⟩
set_option maxRecDepth 100000 in
set_option maxHeartbeats 4000000 in
theorem told_inl {B C m tb mt : Nat} {v : Value} {t : List Nd} {a : Ty.Tr}   (w : World) {N : Nat} {g : Ty.Env} {wv sv : Value} {way : List Int} (_hT : TbB w B tb mt v t) (h : Ck w B C m N (.pointer (some ⟨tb, 0, none⟩)) g wv way) (hB : B ≤ w.heap.size) (hK : Kid w B (Ty.Tr.inl a).tm sv) (hG : Gt (Ty.Tr.inl a).tm) (hn : N + 4 * (Ty.Tr.inl a).size ≤ 90000000000000) (hw : way.length + (Ty.Tr.inl a).size ≤ 900000) :
    Calls Tryd.prog 18 #[.pointer (some ⟨C, 0, none⟩), tmV (Ty.Tr.inl a).tm sv] w fun r w' => ∃ wv2, TlP B w' r wv2 (Ty.told t (Ty.Tr.inl a) g way) ∧ Af w w' B C m (N + 4 * (Ty.Tr.inl a).size) (.pointer (some ⟨tb, 0, none⟩)) g wv wv2 way := by
  obtain ⟨p, nk, kc, rfl⟩ := hK.form
  obtain ⟨hgk, hgn, hgo, hgf⟩ := hG.parts
  have hgs := hG.sub
  have HB0 := show Hid (∀ W n' wv', Af w W B C m n' (.pointer (some ⟨tb, 0, none⟩)) g wv wv' way → Below B w W) from fun W n' wv' ha => h.below ha.kp hB
  have HBS := show Hid (∀ W n' wv', Af w W B C m n' (.pointer (some ⟨tb, 0, none⟩)) g wv wv' way → B ≤ W.heap.size) from fun W n' wv' ha => Nat.le_trans hB ha.kp.size
  have hsz : (Ty.Tr.inl a).size = a.size + 1 := rfl
  have KR := show Hid (∀ (W : World) (n' : Nat) (wv' : Value), Af w W B C m n' (.pointer (some ⟨tb, 0, none⟩)) g wv wv' way → Calls Tryd.prog 24 #[.pointer (some ⟨C, 0, none⟩), .int .i64 132] W fun r w' => ∃ q, r = .returned (.iface 80 (.pointer (some ⟨q, 0, none⟩))) ∧ Rf w' B q 132 way wv' ∧ Below W.heap.size W w') from fun W n' wv' ha => refuse_any W ha.ck (by omega) (HBS.out W n' wv' ha) 132
  have HNS := show Hid ((Ty.Tr.inl a).size = a.size + 1 ∧ N + 4 * (Ty.Tr.inl a).size ≤ 90000000000000) from ⟨hsz, hn⟩
  have HANS := show Hid (Ty.told t (Ty.Tr.inl a) g way = .no 132 way) from rfl
  generalize Ty.told t (Ty.Tr.inl a) g way = ANS at *
  clear hsz hn HB0 HBS
  have HAF0 := show Hid (Af w w B C m N (.pointer (some ⟨tb, 0, none⟩)) g wv wv way) from Af.refl h
  have hq1 := neq_if
  have hq2 := neq_no
  clear hK h _hT hG hgs hgk hgn hgo hgf hw hB
  show Calls _ _ #[.pointer (some ⟨C, 0, none⟩), (.agg #[.int .i64 7, .string Ty.e0, .string Ty.e0, .int .i64 0, (.slice p nk kc)])] _ _
  go_enter Tryd.func18, Tryd.ntmps18
  go_wp2_with (refine wpList_box 27 _ rfl _ rfl rfl ?_)
  intro w1 bx hn1
  have HX1 := show Hid (Cl w1 bx #[.int .i64 7, .string Ty.e0, .string Ty.e0, .int .i64 0, .slice p nk kc] 27) from hn1.blk
  have HAF1 := show Hid _ from HAF0.out.then hn1.bel
  have hgx : w.heap.size ≤ bx := hn1.ge
  have HGX := show Hid (w.heap.size ≤ bx) from hgx
  clear hn1 HAF0 hgx
  have x0 : w1.cell? ⟨bx, 0, none⟩ = some (.int .i64 7) := Cl.cell HX1.out 0
  have x1 : w1.cell? ⟨bx, 1, none⟩ = some (.string Ty.e0) := Cl.cell HX1.out 1
  have x2 : w1.cell? ⟨bx, 2, none⟩ = some (.string Ty.e0) := Cl.cell HX1.out 2
  have x3 : w1.cell? ⟨bx, 3, none⟩ = some (.int .i64 0) := Cl.cell HX1.out 3
  have x4 : w1.cell? ⟨bx, 4, none⟩ = some (.slice p nk kc) := Cl.cell HX1.out 4
  go_wp2_with fail
  clear x0 x1 x2 x3 x4
  refine Calls.mono (KR.out w1 _ _ HAF1.out) ?_
  rintro e w2 ⟨q, rfl, hrf, hb2⟩
  have HX2 := show Hid _ from Cl.later HX1.out hb2
  have HAF2 := show Hid _ from HAF1.out.then hb2
  clear HX1 HAF1 KR hb2
  have HRF := show Hid _ from hrf
  clear hrf
  go_wp2_with fail
  go_ret2
  exact ⟨_, by rw [HANS.out]; exact ⟨q, rfl, HRF.out⟩, HAF2.out.mono (by have := HNS.out; omega)⟩
set_option maxRecDepth 100000 in
set_option maxHeartbeats 4000000 in
theorem told_inr {B C m tb mt : Nat} {v : Value} {t : List Nd} {a : Ty.Tr}   (w : World) {N : Nat} {g : Ty.Env} {wv sv : Value} {way : List Int} (_hT : TbB w B tb mt v t) (h : Ck w B C m N (.pointer (some ⟨tb, 0, none⟩)) g wv way) (hB : B ≤ w.heap.size) (hK : Kid w B (Ty.Tr.inr a).tm sv) (hG : Gt (Ty.Tr.inr a).tm) (hn : N + 4 * (Ty.Tr.inr a).size ≤ 90000000000000) (hw : way.length + (Ty.Tr.inr a).size ≤ 900000) :
    Calls Tryd.prog 18 #[.pointer (some ⟨C, 0, none⟩), tmV (Ty.Tr.inr a).tm sv] w fun r w' => ∃ wv2, TlP B w' r wv2 (Ty.told t (Ty.Tr.inr a) g way) ∧ Af w w' B C m (N + 4 * (Ty.Tr.inr a).size) (.pointer (some ⟨tb, 0, none⟩)) g wv wv2 way := by
  obtain ⟨p, nk, kc, rfl⟩ := hK.form
  obtain ⟨hgk, hgn, hgo, hgf⟩ := hG.parts
  have hgs := hG.sub
  have HB0 := show Hid (∀ W n' wv', Af w W B C m n' (.pointer (some ⟨tb, 0, none⟩)) g wv wv' way → Below B w W) from fun W n' wv' ha => h.below ha.kp hB
  have HBS := show Hid (∀ W n' wv', Af w W B C m n' (.pointer (some ⟨tb, 0, none⟩)) g wv wv' way → B ≤ W.heap.size) from fun W n' wv' ha => Nat.le_trans hB ha.kp.size
  have hsz : (Ty.Tr.inr a).size = a.size + 1 := rfl
  have KR := show Hid (∀ (W : World) (n' : Nat) (wv' : Value), Af w W B C m n' (.pointer (some ⟨tb, 0, none⟩)) g wv wv' way → Calls Tryd.prog 24 #[.pointer (some ⟨C, 0, none⟩), .int .i64 132] W fun r w' => ∃ q, r = .returned (.iface 80 (.pointer (some ⟨q, 0, none⟩))) ∧ Rf w' B q 132 way wv' ∧ Below W.heap.size W w') from fun W n' wv' ha => refuse_any W ha.ck (by omega) (HBS.out W n' wv' ha) 132
  have HNS := show Hid ((Ty.Tr.inr a).size = a.size + 1 ∧ N + 4 * (Ty.Tr.inr a).size ≤ 90000000000000) from ⟨hsz, hn⟩
  have HANS := show Hid (Ty.told t (Ty.Tr.inr a) g way = .no 132 way) from rfl
  generalize Ty.told t (Ty.Tr.inr a) g way = ANS at *
  clear hsz hn HB0 HBS
  have HAF0 := show Hid (Af w w B C m N (.pointer (some ⟨tb, 0, none⟩)) g wv wv way) from Af.refl h
  have hq1 := neq_if
  have hq2 := neq_no
  clear hK h _hT hG hgs hgk hgn hgo hgf hw hB
  show Calls _ _ #[.pointer (some ⟨C, 0, none⟩), (.agg #[.int .i64 8, .string Ty.e0, .string Ty.e0, .int .i64 0, (.slice p nk kc)])] _ _
  go_enter Tryd.func18, Tryd.ntmps18
  go_wp2_with (refine wpList_box 27 _ rfl _ rfl rfl ?_)
  intro w1 bx hn1
  have HX1 := show Hid (Cl w1 bx #[.int .i64 8, .string Ty.e0, .string Ty.e0, .int .i64 0, .slice p nk kc] 27) from hn1.blk
  have HAF1 := show Hid _ from HAF0.out.then hn1.bel
  have hgx : w.heap.size ≤ bx := hn1.ge
  have HGX := show Hid (w.heap.size ≤ bx) from hgx
  clear hn1 HAF0 hgx
  have x0 : w1.cell? ⟨bx, 0, none⟩ = some (.int .i64 8) := Cl.cell HX1.out 0
  have x1 : w1.cell? ⟨bx, 1, none⟩ = some (.string Ty.e0) := Cl.cell HX1.out 1
  have x2 : w1.cell? ⟨bx, 2, none⟩ = some (.string Ty.e0) := Cl.cell HX1.out 2
  have x3 : w1.cell? ⟨bx, 3, none⟩ = some (.int .i64 0) := Cl.cell HX1.out 3
  have x4 : w1.cell? ⟨bx, 4, none⟩ = some (.slice p nk kc) := Cl.cell HX1.out 4
  go_wp2_with fail
  clear x0 x1 x2 x3 x4
  refine Calls.mono (KR.out w1 _ _ HAF1.out) ?_
  rintro e w2 ⟨q, rfl, hrf, hb2⟩
  have HX2 := show Hid _ from Cl.later HX1.out hb2
  have HAF2 := show Hid _ from HAF1.out.then hb2
  clear HX1 HAF1 KR hb2
  have HRF := show Hid _ from hrf
  clear hrf
  go_wp2_with fail
  go_ret2
  exact ⟨_, by rw [HANS.out]; exact ⟨q, rfl, HRF.out⟩, HAF2.out.mono (by have := HNS.out; omega)⟩
set_option maxRecDepth 100000 in
set_option maxHeartbeats 4000000 in
theorem told_abo {B C m tb mt : Nat} {v : Value} {t : List Nd} {a : Ty.Tr}   (w : World) {N : Nat} {g : Ty.Env} {wv sv : Value} {way : List Int} (_hT : TbB w B tb mt v t) (h : Ck w B C m N (.pointer (some ⟨tb, 0, none⟩)) g wv way) (hB : B ≤ w.heap.size) (hK : Kid w B (Ty.Tr.abo a).tm sv) (hG : Gt (Ty.Tr.abo a).tm) (hn : N + 4 * (Ty.Tr.abo a).size ≤ 90000000000000) (hw : way.length + (Ty.Tr.abo a).size ≤ 900000) :
    Calls Tryd.prog 18 #[.pointer (some ⟨C, 0, none⟩), tmV (Ty.Tr.abo a).tm sv] w fun r w' => ∃ wv2, TlP B w' r wv2 (Ty.told t (Ty.Tr.abo a) g way) ∧ Af w w' B C m (N + 4 * (Ty.Tr.abo a).size) (.pointer (some ⟨tb, 0, none⟩)) g wv wv2 way := by
  obtain ⟨p, nk, kc, rfl⟩ := hK.form
  obtain ⟨hgk, hgn, hgo, hgf⟩ := hG.parts
  have hgs := hG.sub
  have HB0 := show Hid (∀ W n' wv', Af w W B C m n' (.pointer (some ⟨tb, 0, none⟩)) g wv wv' way → Below B w W) from fun W n' wv' ha => h.below ha.kp hB
  have HBS := show Hid (∀ W n' wv', Af w W B C m n' (.pointer (some ⟨tb, 0, none⟩)) g wv wv' way → B ≤ W.heap.size) from fun W n' wv' ha => Nat.le_trans hB ha.kp.size
  have hsz : (Ty.Tr.abo a).size = a.size + 1 := rfl
  have KR := show Hid (∀ (W : World) (n' : Nat) (wv' : Value), Af w W B C m n' (.pointer (some ⟨tb, 0, none⟩)) g wv wv' way → Calls Tryd.prog 24 #[.pointer (some ⟨C, 0, none⟩), .int .i64 132] W fun r w' => ∃ q, r = .returned (.iface 80 (.pointer (some ⟨q, 0, none⟩))) ∧ Rf w' B q 132 way wv' ∧ Below W.heap.size W w') from fun W n' wv' ha => refuse_any W ha.ck (by omega) (HBS.out W n' wv' ha) 132
  have HNS := show Hid ((Ty.Tr.abo a).size = a.size + 1 ∧ N + 4 * (Ty.Tr.abo a).size ≤ 90000000000000) from ⟨hsz, hn⟩
  have HANS := show Hid (Ty.told t (Ty.Tr.abo a) g way = .no 132 way) from rfl
  generalize Ty.told t (Ty.Tr.abo a) g way = ANS at *
  clear hsz hn HB0 HBS
  have HAF0 := show Hid (Af w w B C m N (.pointer (some ⟨tb, 0, none⟩)) g wv wv way) from Af.refl h
  have hq1 := neq_if
  have hq2 := neq_no
  clear hK h _hT hG hgs hgk hgn hgo hgf hw hB
  show Calls _ _ #[.pointer (some ⟨C, 0, none⟩), (.agg #[.int .i64 10, .string Ty.e0, .string Ty.e0, .int .i64 0, (.slice p nk kc)])] _ _
  go_enter Tryd.func18, Tryd.ntmps18
  go_wp2_with (refine wpList_box 27 _ rfl _ rfl rfl ?_)
  intro w1 bx hn1
  have HX1 := show Hid (Cl w1 bx #[.int .i64 10, .string Ty.e0, .string Ty.e0, .int .i64 0, .slice p nk kc] 27) from hn1.blk
  have HAF1 := show Hid _ from HAF0.out.then hn1.bel
  have hgx : w.heap.size ≤ bx := hn1.ge
  have HGX := show Hid (w.heap.size ≤ bx) from hgx
  clear hn1 HAF0 hgx
  have x0 : w1.cell? ⟨bx, 0, none⟩ = some (.int .i64 10) := Cl.cell HX1.out 0
  have x1 : w1.cell? ⟨bx, 1, none⟩ = some (.string Ty.e0) := Cl.cell HX1.out 1
  have x2 : w1.cell? ⟨bx, 2, none⟩ = some (.string Ty.e0) := Cl.cell HX1.out 2
  have x3 : w1.cell? ⟨bx, 3, none⟩ = some (.int .i64 0) := Cl.cell HX1.out 3
  have x4 : w1.cell? ⟨bx, 4, none⟩ = some (.slice p nk kc) := Cl.cell HX1.out 4
  go_wp2_with fail
  clear x0 x1 x2 x3 x4
  refine Calls.mono (KR.out w1 _ _ HAF1.out) ?_
  rintro e w2 ⟨q, rfl, hrf, hb2⟩
  have HX2 := show Hid _ from Cl.later HX1.out hb2
  have HAF2 := show Hid _ from HAF1.out.then hb2
  clear HX1 HAF1 KR hb2
  have HRF := show Hid _ from hrf
  clear hrf
  go_wp2_with fail
  go_ret2
  exact ⟨_, by rw [HANS.out]; exact ⟨q, rfl, HRF.out⟩, HAF2.out.mono (by have := HNS.out; omega)⟩
set_option maxRecDepth 100000 in
set_option maxHeartbeats 4000000 in
theorem told_fst {B C m tb mt : Nat} {v : Value} {t : List Nd} {a : Ty.Tr}  (hAa : TolC B C m tb mt v t a) (w : World) {N : Nat} {g : Ty.Env} {wv sv : Value} {way : List Int} (hT : TbB w B tb mt v t) (h : Ck w B C m N (.pointer (some ⟨tb, 0, none⟩)) g wv way) (hB : B ≤ w.heap.size) (hK : Kid w B (Ty.Tr.fst a).tm sv) (hG : Gt (Ty.Tr.fst a).tm) (hn : N + 4 * (Ty.Tr.fst a).size ≤ 90000000000000) (hw : way.length + (Ty.Tr.fst a).size ≤ 900000) :
    Calls Tryd.prog 18 #[.pointer (some ⟨C, 0, none⟩), tmV (Ty.Tr.fst a).tm sv] w fun r w' => ∃ wv2, TlP B w' r wv2 (Ty.told t (Ty.Tr.fst a) g way) ∧ Af w w' B C m (N + 4 * (Ty.Tr.fst a).size) (.pointer (some ⟨tb, 0, none⟩)) g wv wv2 way := by
  obtain ⟨p, nk, kc, rfl⟩ := hK.form
  obtain ⟨hgk, hgn, hgo, hgf⟩ := hG.parts
  have hgs := hG.sub
  have HB0 := show Hid (∀ W n' wv', Af w W B C m n' (.pointer (some ⟨tb, 0, none⟩)) g wv wv' way → Below B w W) from fun W n' wv' ha => h.below ha.kp hB
  have HBS := show Hid (∀ W n' wv', Af w W B C m n' (.pointer (some ⟨tb, 0, none⟩)) g wv wv' way → B ≤ W.heap.size) from fun W n' wv' ha => Nat.le_trans hB ha.kp.size
  have hsz : (Ty.Tr.fst a).size = a.size + 1 := rfl
  have KJ := show Hid (∀ (W : World) (n' : Nat) (wv' : Value), Af w W B C m n' (.pointer (some ⟨tb, 0, none⟩)) g wv wv' way → n' + 4 * a.size ≤ 90000000000000 → Calls Tryd.prog 31 #[.pointer (some ⟨C, 0, none⟩), (.agg #[.int .i64 5, .string Ty.e0, .string Ty.e0, .int .i64 0, (.slice p nk kc)]), .int .i64 3] W fun r w' => ∃ wv2, NdP B w' r wv2 (jnR t way 3 (Ty.told t a g (way ++ [0]))) ∧ Af W w' B C m (n' + 4 * a.size) (.pointer (some ⟨tb, 0, none⟩)) g wv' wv2 way) from fun W n' wv' ha hn' => toldJoined_any hAa W (show 0 < (Ty.Tr.fst a).tm.sub.length from by simp [Ty.Tr.tm, Tm.sub]) rfl (hT.later (HB0.out W n' wv' ha)) ha.ck (HBS.out W n' wv' ha) (hK.below (HB0.out W n' wv' ha)) hG hn' (by omega) 3
  have HNS := show Hid ((Ty.Tr.fst a).size = a.size + 1 ∧ N + 4 * (Ty.Tr.fst a).size ≤ 90000000000000) from ⟨hsz, hn⟩
  have HANS := show Hid (Ty.told t (Ty.Tr.fst a) g way = match jnR t way 3 (Ty.told t a g (way ++ [0])) with | .error e => .no e.1 e.2 | .ok d => .ok d.l) from jn_is t way 3 _ _
  generalize jnR t way 3 (Ty.told t a g (way ++ [0])) = J at *
  generalize Ty.told t (Ty.Tr.fst a) g way = ANS at *
  clear hsz hn HB0 HBS
  have HAF0 := show Hid (Af w w B C m N (.pointer (some ⟨tb, 0, none⟩)) g wv wv way) from Af.refl h
  have hq1 := neq_if
  have hq2 := neq_no
  clear hK h hT hG hgs hgk hgn hgo hgf hw hB hAa
  show Calls _ _ #[.pointer (some ⟨C, 0, none⟩), (.agg #[.int .i64 5, .string Ty.e0, .string Ty.e0, .int .i64 0, (.slice p nk kc)])] _ _
  go_enter Tryd.func18, Tryd.ntmps18
  go_wp2_with (refine wpList_box 27 _ rfl _ rfl rfl ?_)
  intro w1 bx hn1
  have HX1 := show Hid (Cl w1 bx #[.int .i64 5, .string Ty.e0, .string Ty.e0, .int .i64 0, .slice p nk kc] 27) from hn1.blk
  have HAF1 := show Hid _ from HAF0.out.then hn1.bel
  have hgx : w.heap.size ≤ bx := hn1.ge
  have HGX := show Hid (w.heap.size ≤ bx) from hgx
  clear hn1 HAF0 hgx
  have x0 : w1.cell? ⟨bx, 0, none⟩ = some (.int .i64 5) := Cl.cell HX1.out 0
  have x1 : w1.cell? ⟨bx, 1, none⟩ = some (.string Ty.e0) := Cl.cell HX1.out 1
  have x2 : w1.cell? ⟨bx, 2, none⟩ = some (.string Ty.e0) := Cl.cell HX1.out 2
  have x3 : w1.cell? ⟨bx, 3, none⟩ = some (.int .i64 0) := Cl.cell HX1.out 3
  have x4 : w1.cell? ⟨bx, 4, none⟩ = some (.slice p nk kc) := Cl.cell HX1.out 4
  go_wp2_with fail
  clear x0 x1 x2 x3 x4
  refine Calls.mono (KJ.out w1 _ _ HAF1.out (by have := HNS.out; omega)) ?_
  rintro e w2 ⟨wv2, hP2, haf2⟩
  have HX2 := show Hid _ from Cl.af HX1.out HAF1.out.ck haf2.kp (by decide) (by decide)
  have HAF2 := show Hid _ from HAF1.out.trans haf2
  have HP2 := show Hid _ from hP2
  clear hP2 haf2 HX1 HAF1 KJ
  cases J with
  | error er =>
    obtain ⟨q, rfl, hrf⟩ := HP2.out
    have HRF0 := show Hid _ from hrf
    have HA := show Hid (ANS = .no er.1 er.2) from HANS.out
    clear HP2 hrf HANS
    unfold ndV
    go_wp2_with (refine wpList_alloc 54 rfl _ zeroNode rfl ?_)
    intro w3 br4 hn3
    go_wp2_with (refine wpList_st 54 rfl rfl _ _ rfl br4 rfl _ rfl _ _ hn3.blk sizeNode rfl (node_all Fm.z) ?_)
    intro w4 hc4 hk4
    have hge4 : w.heap.size ≤ br4 := Nat.le_trans HAF2.out.kp.size hn3.ge
    have HAF4 := show Hid _ from (HAF2.out.then hn3.bel).own hn3.blk (by decide) (by decide) hk4 hge4
    have HX4 := show Hid _ from Cl.kp (Cl.new HX2.out hn3) hk4 (by have := Cl.lt HX2.out; have := hn3.ge; omega)
    have HN4 := show Hid (Cl w4 br4 #[.int .i64 (Fm.z).k, .string (Fm.z).s, .int .i64 (Fm.z).l, .int .i64 (Fm.z).r] 54) from hc4
    have HRF := show Hid _ from (HRF0.out.later hn3.bel).other hn3.blk (by decide) (by decide) hk4
    clear hn3 hc4 hk4 hge4 HX2 HAF2
    have y2 : w4.cell? ⟨br4, 2, none⟩ = some (.int .i64 0) := Cl.cell HN4.out 2
    have y3 : w4.cell? ⟨br4, 3, none⟩ = some (.int .i64 0) := Cl.cell HN4.out 3
    go_wp2_with fail
    go_ret2
    exact ⟨_, by rw [HA.out]; exact ⟨q, rfl, HRF.out⟩, HAF4.out.mono (by have := HNS.out; omega)⟩
  | ok d =>
    obtain rfl := HP2.out
    have HA := show Hid (ANS = .ok d.l) from HANS.out
    clear HP2 HANS
    unfold ndV
    go_wp2_with (refine wpList_alloc 54 rfl _ zeroNode rfl ?_)
    intro w3 br4 hn3
    go_wp2_with (refine wpList_st 54 rfl rfl _ _ rfl br4 rfl _ rfl _ _ hn3.blk sizeNode rfl (node_all d) ?_)
    intro w4 hc4 hk4
    have hge4 : w.heap.size ≤ br4 := Nat.le_trans HAF2.out.kp.size hn3.ge
    have HAF4 := show Hid _ from (HAF2.out.then hn3.bel).own hn3.blk (by decide) (by decide) hk4 hge4
    have HX4 := show Hid _ from Cl.kp (Cl.new HX2.out hn3) hk4 (by have := Cl.lt HX2.out; have := hn3.ge; omega)
    have HN4 := show Hid (Cl w4 br4 #[.int .i64 (d).k, .string (d).s, .int .i64 (d).l, .int .i64 (d).r] 54) from hc4
    clear hn3 hc4 hk4 hge4 HX2 HAF2
    have x0 : w4.cell? ⟨bx, 0, none⟩ = some (.int .i64 5) := Cl.cell HX4.out 0
    have x1 : w4.cell? ⟨bx, 1, none⟩ = some (.string Ty.e0) := Cl.cell HX4.out 1
    have x2 : w4.cell? ⟨bx, 2, none⟩ = some (.string Ty.e0) := Cl.cell HX4.out 2
    have x3 : w4.cell? ⟨bx, 3, none⟩ = some (.int .i64 0) := Cl.cell HX4.out 3
    have x4 : w4.cell? ⟨bx, 4, none⟩ = some (.slice p nk kc) := Cl.cell HX4.out 4
    have y2 : w4.cell? ⟨br4, 2, none⟩ = some (.int .i64 d.l) := Cl.cell HN4.out 2
    have y3 : w4.cell? ⟨br4, 3, none⟩ = some (.int .i64 d.r) := Cl.cell HN4.out 3
    go_wp2_with fail
    go_ret2
    exact ⟨_, by rw [HA.out]; exact (show (_ : Ending) = _ from rfl), HAF4.out.mono (by have := HNS.out; omega)⟩
set_option maxRecDepth 100000 in
set_option maxHeartbeats 4000000 in
theorem told_snd {B C m tb mt : Nat} {v : Value} {t : List Nd} {a : Ty.Tr}  (hAa : TolC B C m tb mt v t a) (w : World) {N : Nat} {g : Ty.Env} {wv sv : Value} {way : List Int} (hT : TbB w B tb mt v t) (h : Ck w B C m N (.pointer (some ⟨tb, 0, none⟩)) g wv way) (hB : B ≤ w.heap.size) (hK : Kid w B (Ty.Tr.snd a).tm sv) (hG : Gt (Ty.Tr.snd a).tm) (hn : N + 4 * (Ty.Tr.snd a).size ≤ 90000000000000) (hw : way.length + (Ty.Tr.snd a).size ≤ 900000) :
    Calls Tryd.prog 18 #[.pointer (some ⟨C, 0, none⟩), tmV (Ty.Tr.snd a).tm sv] w fun r w' => ∃ wv2, TlP B w' r wv2 (Ty.told t (Ty.Tr.snd a) g way) ∧ Af w w' B C m (N + 4 * (Ty.Tr.snd a).size) (.pointer (some ⟨tb, 0, none⟩)) g wv wv2 way := by
  obtain ⟨p, nk, kc, rfl⟩ := hK.form
  obtain ⟨hgk, hgn, hgo, hgf⟩ := hG.parts
  have hgs := hG.sub
  have HB0 := show Hid (∀ W n' wv', Af w W B C m n' (.pointer (some ⟨tb, 0, none⟩)) g wv wv' way → Below B w W) from fun W n' wv' ha => h.below ha.kp hB
  have HBS := show Hid (∀ W n' wv', Af w W B C m n' (.pointer (some ⟨tb, 0, none⟩)) g wv wv' way → B ≤ W.heap.size) from fun W n' wv' ha => Nat.le_trans hB ha.kp.size
  have hsz : (Ty.Tr.snd a).size = a.size + 1 := rfl
  have KJ := show Hid (∀ (W : World) (n' : Nat) (wv' : Value), Af w W B C m n' (.pointer (some ⟨tb, 0, none⟩)) g wv wv' way → n' + 4 * a.size ≤ 90000000000000 → Calls Tryd.prog 31 #[.pointer (some ⟨C, 0, none⟩), (.agg #[.int .i64 6, .string Ty.e0, .string Ty.e0, .int .i64 0, (.slice p nk kc)]), .int .i64 3] W fun r w' => ∃ wv2, NdP B w' r wv2 (jnR t way 3 (Ty.told t a g (way ++ [0]))) ∧ Af W w' B C m (n' + 4 * a.size) (.pointer (some ⟨tb, 0, none⟩)) g wv' wv2 way) from fun W n' wv' ha hn' => toldJoined_any hAa W (show 0 < (Ty.Tr.snd a).tm.sub.length from by simp [Ty.Tr.tm, Tm.sub]) rfl (hT.later (HB0.out W n' wv' ha)) ha.ck (HBS.out W n' wv' ha) (hK.below (HB0.out W n' wv' ha)) hG hn' (by omega) 3
  have HNS := show Hid ((Ty.Tr.snd a).size = a.size + 1 ∧ N + 4 * (Ty.Tr.snd a).size ≤ 90000000000000) from ⟨hsz, hn⟩
  have HANS := show Hid (Ty.told t (Ty.Tr.snd a) g way = match jnR t way 3 (Ty.told t a g (way ++ [0])) with | .error e => .no e.1 e.2 | .ok d => .ok d.r) from jn_is t way 3 _ _
  generalize jnR t way 3 (Ty.told t a g (way ++ [0])) = J at *
  generalize Ty.told t (Ty.Tr.snd a) g way = ANS at *
  clear hsz hn HB0 HBS
  have HAF0 := show Hid (Af w w B C m N (.pointer (some ⟨tb, 0, none⟩)) g wv wv way) from Af.refl h
  have hq1 := neq_if
  have hq2 := neq_no
  clear hK h hT hG hgs hgk hgn hgo hgf hw hB hAa
  show Calls _ _ #[.pointer (some ⟨C, 0, none⟩), (.agg #[.int .i64 6, .string Ty.e0, .string Ty.e0, .int .i64 0, (.slice p nk kc)])] _ _
  go_enter Tryd.func18, Tryd.ntmps18
  go_wp2_with (refine wpList_box 27 _ rfl _ rfl rfl ?_)
  intro w1 bx hn1
  have HX1 := show Hid (Cl w1 bx #[.int .i64 6, .string Ty.e0, .string Ty.e0, .int .i64 0, .slice p nk kc] 27) from hn1.blk
  have HAF1 := show Hid _ from HAF0.out.then hn1.bel
  have hgx : w.heap.size ≤ bx := hn1.ge
  have HGX := show Hid (w.heap.size ≤ bx) from hgx
  clear hn1 HAF0 hgx
  have x0 : w1.cell? ⟨bx, 0, none⟩ = some (.int .i64 6) := Cl.cell HX1.out 0
  have x1 : w1.cell? ⟨bx, 1, none⟩ = some (.string Ty.e0) := Cl.cell HX1.out 1
  have x2 : w1.cell? ⟨bx, 2, none⟩ = some (.string Ty.e0) := Cl.cell HX1.out 2
  have x3 : w1.cell? ⟨bx, 3, none⟩ = some (.int .i64 0) := Cl.cell HX1.out 3
  have x4 : w1.cell? ⟨bx, 4, none⟩ = some (.slice p nk kc) := Cl.cell HX1.out 4
  go_wp2_with fail
  clear x0 x1 x2 x3 x4
  refine Calls.mono (KJ.out w1 _ _ HAF1.out (by have := HNS.out; omega)) ?_
  rintro e w2 ⟨wv2, hP2, haf2⟩
  have HX2 := show Hid _ from Cl.af HX1.out HAF1.out.ck haf2.kp (by decide) (by decide)
  have HAF2 := show Hid _ from HAF1.out.trans haf2
  have HP2 := show Hid _ from hP2
  clear hP2 haf2 HX1 HAF1 KJ
  cases J with
  | error er =>
    obtain ⟨q, rfl, hrf⟩ := HP2.out
    have HRF0 := show Hid _ from hrf
    have HA := show Hid (ANS = .no er.1 er.2) from HANS.out
    clear HP2 hrf HANS
    unfold ndV
    go_wp2_with (refine wpList_alloc 54 rfl _ zeroNode rfl ?_)
    intro w3 br4 hn3
    go_wp2_with (refine wpList_st 54 rfl rfl _ _ rfl br4 rfl _ rfl _ _ hn3.blk sizeNode rfl (node_all Fm.z) ?_)
    intro w4 hc4 hk4
    have hge4 : w.heap.size ≤ br4 := Nat.le_trans HAF2.out.kp.size hn3.ge
    have HAF4 := show Hid _ from (HAF2.out.then hn3.bel).own hn3.blk (by decide) (by decide) hk4 hge4
    have HX4 := show Hid _ from Cl.kp (Cl.new HX2.out hn3) hk4 (by have := Cl.lt HX2.out; have := hn3.ge; omega)
    have HN4 := show Hid (Cl w4 br4 #[.int .i64 (Fm.z).k, .string (Fm.z).s, .int .i64 (Fm.z).l, .int .i64 (Fm.z).r] 54) from hc4
    have HRF := show Hid _ from (HRF0.out.later hn3.bel).other hn3.blk (by decide) (by decide) hk4
    clear hn3 hc4 hk4 hge4 HX2 HAF2
    have y2 : w4.cell? ⟨br4, 2, none⟩ = some (.int .i64 0) := Cl.cell HN4.out 2
    have y3 : w4.cell? ⟨br4, 3, none⟩ = some (.int .i64 0) := Cl.cell HN4.out 3
    go_wp2_with fail
    go_ret2
    exact ⟨_, by rw [HA.out]; exact ⟨q, rfl, HRF.out⟩, HAF4.out.mono (by have := HNS.out; omega)⟩
  | ok d =>
    obtain rfl := HP2.out
    have HA := show Hid (ANS = .ok d.r) from HANS.out
    clear HP2 HANS
    unfold ndV
    go_wp2_with (refine wpList_alloc 54 rfl _ zeroNode rfl ?_)
    intro w3 br4 hn3
    go_wp2_with (refine wpList_st 54 rfl rfl _ _ rfl br4 rfl _ rfl _ _ hn3.blk sizeNode rfl (node_all d) ?_)
    intro w4 hc4 hk4
    have hge4 : w.heap.size ≤ br4 := Nat.le_trans HAF2.out.kp.size hn3.ge
    have HAF4 := show Hid _ from (HAF2.out.then hn3.bel).own hn3.blk (by decide) (by decide) hk4 hge4
    have HX4 := show Hid _ from Cl.kp (Cl.new HX2.out hn3) hk4 (by have := Cl.lt HX2.out; have := hn3.ge; omega)
    have HN4 := show Hid (Cl w4 br4 #[.int .i64 (d).k, .string (d).s, .int .i64 (d).l, .int .i64 (d).r] 54) from hc4
    clear hn3 hc4 hk4 hge4 HX2 HAF2
    have x0 : w4.cell? ⟨bx, 0, none⟩ = some (.int .i64 6) := Cl.cell HX4.out 0
    have x1 : w4.cell? ⟨bx, 1, none⟩ = some (.string Ty.e0) := Cl.cell HX4.out 1
    have x2 : w4.cell? ⟨bx, 2, none⟩ = some (.string Ty.e0) := Cl.cell HX4.out 2
    have x3 : w4.cell? ⟨bx, 3, none⟩ = some (.int .i64 0) := Cl.cell HX4.out 3
    have x4 : w4.cell? ⟨bx, 4, none⟩ = some (.slice p nk kc) := Cl.cell HX4.out 4
    have y2 : w4.cell? ⟨br4, 2, none⟩ = some (.int .i64 d.l) := Cl.cell HN4.out 2
    have y3 : w4.cell? ⟨br4, 3, none⟩ = some (.int .i64 d.r) := Cl.cell HN4.out 3
    go_wp2_with fail
    go_ret2
    exact ⟨_, by rw [HA.out]; exact (show (_ : Ending) = _ from rfl), HAF4.out.mono (by have := HNS.out; omega)⟩
set_option maxRecDepth 100000 in
set_option maxHeartbeats 4000000 in
theorem told_app {B C m tb mt : Nat} {v : Value} {t : List Nd} {a : Ty.Tr} {b : Ty.Tr}  (hAa : TolC B C m tb mt v t a) (hCb : ChkC B C m tb mt v t b) (w : World) {N : Nat} {g : Ty.Env} {wv sv : Value} {way : List Int} (hT : TbB w B tb mt v t) (h : Ck w B C m N (.pointer (some ⟨tb, 0, none⟩)) g wv way) (hB : B ≤ w.heap.size) (hK : Kid w B (Ty.Tr.app a b).tm sv) (hG : Gt (Ty.Tr.app a b).tm) (hn : N + 4 * (Ty.Tr.app a b).size ≤ 90000000000000) (hw : way.length + (Ty.Tr.app a b).size ≤ 900000) :
    Calls Tryd.prog 18 #[.pointer (some ⟨C, 0, none⟩), tmV (Ty.Tr.app a b).tm sv] w fun r w' => ∃ wv2, TlP B w' r wv2 (Ty.told t (Ty.Tr.app a b) g way) ∧ Af w w' B C m (N + 4 * (Ty.Tr.app a b).size) (.pointer (some ⟨tb, 0, none⟩)) g wv wv2 way := by
  obtain ⟨p, nk, kc, rfl⟩ := hK.form
  obtain ⟨hgk, hgn, hgo, hgf⟩ := hG.parts
  have hgs := hG.sub
  have HB0 := show Hid (∀ W n' wv', Af w W B C m n' (.pointer (some ⟨tb, 0, none⟩)) g wv wv' way → Below B w W) from fun W n' wv' ha => h.below ha.kp hB
  have HBS := show Hid (∀ W n' wv', Af w W B C m n' (.pointer (some ⟨tb, 0, none⟩)) g wv wv' way → B ≤ W.heap.size) from fun W n' wv' ha => Nat.le_trans hB ha.kp.size
  have hsz : (Ty.Tr.app a b).size = a.size + b.size + 1 := rfl
  have KF := show Hid (∀ (W : World) (n' : Nat) (wv' : Value), Af w W B C m n' (.pointer (some ⟨tb, 0, none⟩)) g wv wv' way → n' ≤ N → Calls Tryd.prog 30 #[.pointer (some ⟨C, 0, none⟩), (.agg #[.int .i64 3, .string Ty.e0, .string Ty.e0, .int .i64 0, (.slice p nk kc)])] W fun r w' => ∃ wv2, TlP B w' r wv2 (Ty.told t (Ty.Tr.app a b) g way) ∧ Af W w' B C m (n' + 4 * (Ty.Tr.app a b).size) (.pointer (some ⟨tb, 0, none⟩)) g wv' wv2 way) from fun W n' wv' ha hn' => toldApp_app hAa hCb W (hT.later (HB0.out W n' wv' ha)) ha.ck (HBS.out W n' wv' ha) (hK.below (HB0.out W n' wv' ha)) hG (by omega) hw
  have HNS := show Hid ((Ty.Tr.app a b).size = a.size + b.size + 1 ∧ N + 4 * (Ty.Tr.app a b).size ≤ 90000000000000) from ⟨hsz, hn⟩
  generalize Ty.told t (Ty.Tr.app a b) g way = ANS at *
  clear hsz hn HB0 HBS
  have HAF0 := show Hid (Af w w B C m N (.pointer (some ⟨tb, 0, none⟩)) g wv wv way) from Af.refl h
  have hq1 := neq_if
  have hq2 := neq_no
  clear hK h hT hG hgs hgk hgn hgo hgf hw hB hAa hCb
  show Calls _ _ #[.pointer (some ⟨C, 0, none⟩), (.agg #[.int .i64 3, .string Ty.e0, .string Ty.e0, .int .i64 0, (.slice p nk kc)])] _ _
  go_enter Tryd.func18, Tryd.ntmps18
  go_wp2_with (refine wpList_box 27 _ rfl _ rfl rfl ?_)
  intro w1 bx hn1
  have HX1 := show Hid (Cl w1 bx #[.int .i64 3, .string Ty.e0, .string Ty.e0, .int .i64 0, .slice p nk kc] 27) from hn1.blk
  have HAF1 := show Hid _ from HAF0.out.then hn1.bel
  have hgx : w.heap.size ≤ bx := hn1.ge
  have HGX := show Hid (w.heap.size ≤ bx) from hgx
  clear hn1 HAF0 hgx
  have x0 : w1.cell? ⟨bx, 0, none⟩ = some (.int .i64 3) := Cl.cell HX1.out 0
  have x1 : w1.cell? ⟨bx, 1, none⟩ = some (.string Ty.e0) := Cl.cell HX1.out 1
  have x2 : w1.cell? ⟨bx, 2, none⟩ = some (.string Ty.e0) := Cl.cell HX1.out 2
  have x3 : w1.cell? ⟨bx, 3, none⟩ = some (.int .i64 0) := Cl.cell HX1.out 3
  have x4 : w1.cell? ⟨bx, 4, none⟩ = some (.slice p nk kc) := Cl.cell HX1.out 4
  go_wp2_with fail
  clear x0 x1 x2 x3 x4
  refine Calls.mono (KF.out w1 _ _ HAF1.out (Nat.le_refl _)) ?_
  rintro e w2 ⟨wv2, hP2, haf2⟩
  have HX2 := show Hid _ from Cl.af HX1.out HAF1.out.ck haf2.kp (by decide) (by decide)
  have HAF2 := show Hid _ from HAF1.out.trans haf2
  have HP2 := show Hid _ from hP2
  clear hP2 haf2 HX1 HAF1 KF
  cases ANS with
  | no er wy =>
    obtain ⟨q, rfl, hrf⟩ := HP2.out
    have HRF := show Hid _ from hrf
    clear HP2 hrf
    have x0 : w2.cell? ⟨bx, 0, none⟩ = some (.int .i64 3) := Cl.cell HX2.out 0
    have x1 : w2.cell? ⟨bx, 1, none⟩ = some (.string Ty.e0) := Cl.cell HX2.out 1
    have x2 : w2.cell? ⟨bx, 2, none⟩ = some (.string Ty.e0) := Cl.cell HX2.out 2
    have x3 : w2.cell? ⟨bx, 3, none⟩ = some (.int .i64 0) := Cl.cell HX2.out 3
    have x4 : w2.cell? ⟨bx, 4, none⟩ = some (.slice p nk kc) := Cl.cell HX2.out 4
    go_wp2_with fail
    go_ret2
    exact ⟨_, ⟨q, rfl, HRF.out⟩, HAF2.out⟩
  | ok f =>
    obtain rfl := HP2.out
    clear HP2
    have x0 : w2.cell? ⟨bx, 0, none⟩ = some (.int .i64 3) := Cl.cell HX2.out 0
    have x1 : w2.cell? ⟨bx, 1, none⟩ = some (.string Ty.e0) := Cl.cell HX2.out 1
    have x2 : w2.cell? ⟨bx, 2, none⟩ = some (.string Ty.e0) := Cl.cell HX2.out 2
    have x3 : w2.cell? ⟨bx, 3, none⟩ = some (.int .i64 0) := Cl.cell HX2.out 3
    have x4 : w2.cell? ⟨bx, 4, none⟩ = some (.slice p nk kc) := Cl.cell HX2.out 4
    go_wp2_with fail
    go_ret2
    exact ⟨_, (show (_ : Ending) = _ from rfl), HAF2.out⟩
set_option maxRecDepth 100000 in
set_option maxHeartbeats 4000000 in
theorem told_the {B C m tb mt : Nat} {v : Value} {t : List Nd} {a : Ty.Tr}  {fo : Int} (hCa : ChkC B C m tb mt v t a) (w : World) {N : Nat} {g : Ty.Env} {wv sv : Value} {way : List Int} (hT : TbB w B tb mt v t) (h : Ck w B C m N (.pointer (some ⟨tb, 0, none⟩)) g wv way) (hB : B ≤ w.heap.size) (hK : Kid w B (Ty.Tr.the fo a).tm sv) (hG : Gt (Ty.Tr.the fo a).tm) (hn : N + 4 * (Ty.Tr.the fo a).size ≤ 90000000000000) (hw : way.length + (Ty.Tr.the fo a).size ≤ 900000) :
    Calls Tryd.prog 18 #[.pointer (some ⟨C, 0, none⟩), tmV (Ty.Tr.the fo a).tm sv] w fun r w' => ∃ wv2, TlP B w' r wv2 (Ty.told t (Ty.Tr.the fo a) g way) ∧ Af w w' B C m (N + 4 * (Ty.Tr.the fo a).size) (.pointer (some ⟨tb, 0, none⟩)) g wv wv2 way := by
  obtain ⟨p, nk, kc, rfl⟩ := hK.form
  obtain ⟨hgk, hgn, hgo, hgf⟩ := hG.parts
  have hgs := hG.sub
  have HB0 := show Hid (∀ W n' wv', Af w W B C m n' (.pointer (some ⟨tb, 0, none⟩)) g wv wv' way → Below B w W) from fun W n' wv' ha => h.below ha.kp hB
  have HBS := show Hid (∀ W n' wv', Af w W B C m n' (.pointer (some ⟨tb, 0, none⟩)) g wv wv' way → B ≤ W.heap.size) from fun W n' wv' ha => Nat.le_trans hB ha.kp.size
  have hsz : (Ty.Tr.the fo a).size = a.size + 1 := rfl
  have KF := show Hid (∀ (W : World) (n' : Nat) (wv' : Value), Af w W B C m n' (.pointer (some ⟨tb, 0, none⟩)) g wv wv' way → n' ≤ N → Calls Tryd.prog 32 #[.pointer (some ⟨C, 0, none⟩), (.agg #[.int .i64 11, .string Ty.e0, .string Ty.e0, .int .i64 fo, (.slice p nk kc)])] W fun r w' => ∃ wv2, TlP B w' r wv2 (Ty.told t (Ty.Tr.the fo a) g way) ∧ Af W w' B C m (n' + 4 * (Ty.Tr.the fo a).size) (.pointer (some ⟨tb, 0, none⟩)) g wv' wv2 way) from fun W n' wv' ha hn' => toldThe_the  hCa W (hT.later (HB0.out W n' wv' ha)) ha.ck (HBS.out W n' wv' ha) (hK.below (HB0.out W n' wv' ha)) hG (by omega) hw
  have HNS := show Hid ((Ty.Tr.the fo a).size = a.size + 1 ∧ N + 4 * (Ty.Tr.the fo a).size ≤ 90000000000000) from ⟨hsz, hn⟩
  generalize Ty.told t (Ty.Tr.the fo a) g way = ANS at *
  clear hsz hn HB0 HBS
  have HAF0 := show Hid (Af w w B C m N (.pointer (some ⟨tb, 0, none⟩)) g wv wv way) from Af.refl h
  have hq1 := neq_if
  have hq2 := neq_no
  clear hK h hT hG hgs hgk hgn hgo hgf hw hB hCa
  show Calls _ _ #[.pointer (some ⟨C, 0, none⟩), (.agg #[.int .i64 11, .string Ty.e0, .string Ty.e0, .int .i64 fo, (.slice p nk kc)])] _ _
  go_enter Tryd.func18, Tryd.ntmps18
  go_wp2_with (refine wpList_box 27 _ rfl _ rfl rfl ?_)
  intro w1 bx hn1
  have HX1 := show Hid (Cl w1 bx #[.int .i64 11, .string Ty.e0, .string Ty.e0, .int .i64 fo, .slice p nk kc] 27) from hn1.blk
  have HAF1 := show Hid _ from HAF0.out.then hn1.bel
  have hgx : w.heap.size ≤ bx := hn1.ge
  have HGX := show Hid (w.heap.size ≤ bx) from hgx
  clear hn1 HAF0 hgx
  have x0 : w1.cell? ⟨bx, 0, none⟩ = some (.int .i64 11) := Cl.cell HX1.out 0
  have x1 : w1.cell? ⟨bx, 1, none⟩ = some (.string Ty.e0) := Cl.cell HX1.out 1
  have x2 : w1.cell? ⟨bx, 2, none⟩ = some (.string Ty.e0) := Cl.cell HX1.out 2
  have x3 : w1.cell? ⟨bx, 3, none⟩ = some (.int .i64 fo) := Cl.cell HX1.out 3
  have x4 : w1.cell? ⟨bx, 4, none⟩ = some (.slice p nk kc) := Cl.cell HX1.out 4
  go_wp2_with fail
  clear x0 x1 x2 x3 x4
  refine Calls.mono (KF.out w1 _ _ HAF1.out (Nat.le_refl _)) ?_
  rintro e w2 ⟨wv2, hP2, haf2⟩
  have HX2 := show Hid _ from Cl.af HX1.out HAF1.out.ck haf2.kp (by decide) (by decide)
  have HAF2 := show Hid _ from HAF1.out.trans haf2
  have HP2 := show Hid _ from hP2
  clear hP2 haf2 HX1 HAF1 KF
  cases ANS with
  | no er wy =>
    obtain ⟨q, rfl, hrf⟩ := HP2.out
    have HRF := show Hid _ from hrf
    clear HP2 hrf
    have x0 : w2.cell? ⟨bx, 0, none⟩ = some (.int .i64 11) := Cl.cell HX2.out 0
    have x1 : w2.cell? ⟨bx, 1, none⟩ = some (.string Ty.e0) := Cl.cell HX2.out 1
    have x2 : w2.cell? ⟨bx, 2, none⟩ = some (.string Ty.e0) := Cl.cell HX2.out 2
    have x3 : w2.cell? ⟨bx, 3, none⟩ = some (.int .i64 fo) := Cl.cell HX2.out 3
    have x4 : w2.cell? ⟨bx, 4, none⟩ = some (.slice p nk kc) := Cl.cell HX2.out 4
    go_wp2_with fail
    go_ret2
    exact ⟨_, ⟨q, rfl, HRF.out⟩, HAF2.out⟩
  | ok f =>
    obtain rfl := HP2.out
    clear HP2
    have x0 : w2.cell? ⟨bx, 0, none⟩ = some (.int .i64 11) := Cl.cell HX2.out 0
    have x1 : w2.cell? ⟨bx, 1, none⟩ = some (.string Ty.e0) := Cl.cell HX2.out 1
    have x2 : w2.cell? ⟨bx, 2, none⟩ = some (.string Ty.e0) := Cl.cell HX2.out 2
    have x3 : w2.cell? ⟨bx, 3, none⟩ = some (.int .i64 fo) := Cl.cell HX2.out 3
    have x4 : w2.cell? ⟨bx, 4, none⟩ = some (.slice p nk kc) := Cl.cell HX2.out 4
    go_wp2_with fail
    go_ret2
    exact ⟨_, (show (_ : Ending) = _ from rfl), HAF2.out⟩
set_option maxRecDepth 100000 in
set_option maxHeartbeats 4000000 in
theorem told_lt {B C m tb mt : Nat} {v : Value} {t : List Nd} {a : Ty.Tr} {b : Ty.Tr} {nn : ByteArray} (hAa : TolC B C m tb mt v t a) (hAb : TolC B C m tb mt v t b) (w : World) {N : Nat} {g : Ty.Env} {wv sv : Value} {way : List Int} (hT : TbB w B tb mt v t) (h : Ck w B C m N (.pointer (some ⟨tb, 0, none⟩)) g wv way) (hB : B ≤ w.heap.size) (hK : Kid w B (Ty.Tr.lt nn a b).tm sv) (hG : Gt (Ty.Tr.lt nn a b).tm) (hn : N + 4 * (Ty.Tr.lt nn a b).size ≤ 90000000000000) (hw : way.length + (Ty.Tr.lt nn a b).size ≤ 900000) :
    Calls Tryd.prog 18 #[.pointer (some ⟨C, 0, none⟩), tmV (Ty.Tr.lt nn a b).tm sv] w fun r w' => ∃ wv2, TlP B w' r wv2 (Ty.told t (Ty.Tr.lt nn a b) g way) ∧ Af w w' B C m (N + 4 * (Ty.Tr.lt nn a b).size) (.pointer (some ⟨tb, 0, none⟩)) g wv wv2 way := by
  obtain ⟨p, nk, kc, rfl⟩ := hK.form
  obtain ⟨hgk, hgn, hgo, hgf⟩ := hG.parts
  have hgs := hG.sub
  have HB0 := show Hid (∀ W n' wv', Af w W B C m n' (.pointer (some ⟨tb, 0, none⟩)) g wv wv' way → Below B w W) from fun W n' wv' ha => h.below ha.kp hB
  have HBS := show Hid (∀ W n' wv', Af w W B C m n' (.pointer (some ⟨tb, 0, none⟩)) g wv wv' way → B ≤ W.heap.size) from fun W n' wv' ha => Nat.le_trans hB ha.kp.size
  have hsz : (Ty.Tr.lt nn a b).size = a.size + b.size + 1 := rfl
  have KF := show Hid (∀ (W : World) (n' : Nat) (wv' : Value), Af w W B C m n' (.pointer (some ⟨tb, 0, none⟩)) g wv wv' way → n' ≤ N → Calls Tryd.prog 33 #[.pointer (some ⟨C, 0, none⟩), (.agg #[.int .i64 12, .string nn, .string Ty.e0, .int .i64 0, (.slice p nk kc)])] W fun r w' => ∃ wv2, TlP B w' r wv2 (Ty.told t (Ty.Tr.lt nn a b) g way) ∧ Af W w' B C m (n' + 4 * (Ty.Tr.lt nn a b).size) (.pointer (some ⟨tb, 0, none⟩)) g wv' wv2 way) from fun W n' wv' ha hn' => toldLet_lt hAa hAb  W (hT.later (HB0.out W n' wv' ha)) ha.ck (HBS.out W n' wv' ha) (hK.below (HB0.out W n' wv' ha)) hG (by omega) hw
  have HNS := show Hid ((Ty.Tr.lt nn a b).size = a.size + b.size + 1 ∧ N + 4 * (Ty.Tr.lt nn a b).size ≤ 90000000000000) from ⟨hsz, hn⟩
  generalize Ty.told t (Ty.Tr.lt nn a b) g way = ANS at *
  clear hsz hn HB0 HBS
  have HAF0 := show Hid (Af w w B C m N (.pointer (some ⟨tb, 0, none⟩)) g wv wv way) from Af.refl h
  have hq1 := neq_if
  have hq2 := neq_no
  clear hK h hT hG hgs hgk hgn hgo hgf hw hB hAa hAb
  show Calls _ _ #[.pointer (some ⟨C, 0, none⟩), (.agg #[.int .i64 12, .string nn, .string Ty.e0, .int .i64 0, (.slice p nk kc)])] _ _
  go_enter Tryd.func18, Tryd.ntmps18
  go_wp2_with (refine wpList_box 27 _ rfl _ rfl rfl ?_)
  intro w1 bx hn1
  have HX1 := show Hid (Cl w1 bx #[.int .i64 12, .string nn, .string Ty.e0, .int .i64 0, .slice p nk kc] 27) from hn1.blk
  have HAF1 := show Hid _ from HAF0.out.then hn1.bel
  have hgx : w.heap.size ≤ bx := hn1.ge
  have HGX := show Hid (w.heap.size ≤ bx) from hgx
  clear hn1 HAF0 hgx
  have x0 : w1.cell? ⟨bx, 0, none⟩ = some (.int .i64 12) := Cl.cell HX1.out 0
  have x1 : w1.cell? ⟨bx, 1, none⟩ = some (.string nn) := Cl.cell HX1.out 1
  have x2 : w1.cell? ⟨bx, 2, none⟩ = some (.string Ty.e0) := Cl.cell HX1.out 2
  have x3 : w1.cell? ⟨bx, 3, none⟩ = some (.int .i64 0) := Cl.cell HX1.out 3
  have x4 : w1.cell? ⟨bx, 4, none⟩ = some (.slice p nk kc) := Cl.cell HX1.out 4
  go_wp2_with fail
  clear x0 x1 x2 x3 x4
  refine Calls.mono (KF.out w1 _ _ HAF1.out (Nat.le_refl _)) ?_
  rintro e w2 ⟨wv2, hP2, haf2⟩
  have HX2 := show Hid _ from Cl.af HX1.out HAF1.out.ck haf2.kp (by decide) (by decide)
  have HAF2 := show Hid _ from HAF1.out.trans haf2
  have HP2 := show Hid _ from hP2
  clear hP2 haf2 HX1 HAF1 KF
  cases ANS with
  | no er wy =>
    obtain ⟨q, rfl, hrf⟩ := HP2.out
    have HRF := show Hid _ from hrf
    clear HP2 hrf
    have x0 : w2.cell? ⟨bx, 0, none⟩ = some (.int .i64 12) := Cl.cell HX2.out 0
    have x1 : w2.cell? ⟨bx, 1, none⟩ = some (.string nn) := Cl.cell HX2.out 1
    have x2 : w2.cell? ⟨bx, 2, none⟩ = some (.string Ty.e0) := Cl.cell HX2.out 2
    have x3 : w2.cell? ⟨bx, 3, none⟩ = some (.int .i64 0) := Cl.cell HX2.out 3
    have x4 : w2.cell? ⟨bx, 4, none⟩ = some (.slice p nk kc) := Cl.cell HX2.out 4
    go_wp2_with fail
    go_ret2
    exact ⟨_, ⟨q, rfl, HRF.out⟩, HAF2.out⟩
  | ok f =>
    obtain rfl := HP2.out
    clear HP2
    have x0 : w2.cell? ⟨bx, 0, none⟩ = some (.int .i64 12) := Cl.cell HX2.out 0
    have x1 : w2.cell? ⟨bx, 1, none⟩ = some (.string nn) := Cl.cell HX2.out 1
    have x2 : w2.cell? ⟨bx, 2, none⟩ = some (.string Ty.e0) := Cl.cell HX2.out 2
    have x3 : w2.cell? ⟨bx, 3, none⟩ = some (.int .i64 0) := Cl.cell HX2.out 3
    have x4 : w2.cell? ⟨bx, 4, none⟩ = some (.slice p nk kc) := Cl.cell HX2.out 4
    go_wp2_with fail
    go_ret2
    exact ⟨_, (show (_ : Ending) = _ from rfl), HAF2.out⟩
set_option maxRecDepth 100000 in
set_option maxHeartbeats 4000000 in
theorem told_cas {B C m tb mt : Nat} {v : Value} {t : List Nd} {a : Ty.Tr} {b : Ty.Tr} {c : Ty.Tr} {nn : ByteArray} {oo : ByteArray} (hAa : TolC B C m tb mt v t a) (hAb : TolC B C m tb mt v t b) (hAc : TolC B C m tb mt v t c) (w : World) {N : Nat} {g : Ty.Env} {wv sv : Value} {way : List Int} (hT : TbB w B tb mt v t) (h : Ck w B C m N (.pointer (some ⟨tb, 0, none⟩)) g wv way) (hB : B ≤ w.heap.size) (hK : Kid w B (Ty.Tr.cas nn oo a b c).tm sv) (hG : Gt (Ty.Tr.cas nn oo a b c).tm) (hn : N + 4 * (Ty.Tr.cas nn oo a b c).size ≤ 90000000000000) (hw : way.length + (Ty.Tr.cas nn oo a b c).size ≤ 900000) :
    Calls Tryd.prog 18 #[.pointer (some ⟨C, 0, none⟩), tmV (Ty.Tr.cas nn oo a b c).tm sv] w fun r w' => ∃ wv2, TlP B w' r wv2 (Ty.told t (Ty.Tr.cas nn oo a b c) g way) ∧ Af w w' B C m (N + 4 * (Ty.Tr.cas nn oo a b c).size) (.pointer (some ⟨tb, 0, none⟩)) g wv wv2 way := by
  obtain ⟨p, nk, kc, rfl⟩ := hK.form
  obtain ⟨hgk, hgn, hgo, hgf⟩ := hG.parts
  have hgs := hG.sub
  have HB0 := show Hid (∀ W n' wv', Af w W B C m n' (.pointer (some ⟨tb, 0, none⟩)) g wv wv' way → Below B w W) from fun W n' wv' ha => h.below ha.kp hB
  have HBS := show Hid (∀ W n' wv', Af w W B C m n' (.pointer (some ⟨tb, 0, none⟩)) g wv wv' way → B ≤ W.heap.size) from fun W n' wv' ha => Nat.le_trans hB ha.kp.size
  have hsz : (Ty.Tr.cas nn oo a b c).size = a.size + b.size + c.size + 1 := rfl
  have KF := show Hid (∀ (W : World) (n' : Nat) (wv' : Value), Af w W B C m n' (.pointer (some ⟨tb, 0, none⟩)) g wv wv' way → n' ≤ N → Calls Tryd.prog 34 #[.pointer (some ⟨C, 0, none⟩), (.agg #[.int .i64 9, .string nn, .string oo, .int .i64 0, (.slice p nk kc)])] W fun r w' => ∃ wv2, TlP B w' r wv2 (Ty.told t (Ty.Tr.cas nn oo a b c) g way) ∧ Af W w' B C m (n' + 4 * (Ty.Tr.cas nn oo a b c).size) (.pointer (some ⟨tb, 0, none⟩)) g wv' wv2 way) from fun W n' wv' ha hn' => toldCase_cas hAa hAb hAc  W (hT.later (HB0.out W n' wv' ha)) ha.ck (HBS.out W n' wv' ha) (hK.below (HB0.out W n' wv' ha)) hG (by omega) hw
  have HNS := show Hid ((Ty.Tr.cas nn oo a b c).size = a.size + b.size + c.size + 1 ∧ N + 4 * (Ty.Tr.cas nn oo a b c).size ≤ 90000000000000) from ⟨hsz, hn⟩
  generalize Ty.told t (Ty.Tr.cas nn oo a b c) g way = ANS at *
  clear hsz hn HB0 HBS
  have HAF0 := show Hid (Af w w B C m N (.pointer (some ⟨tb, 0, none⟩)) g wv wv way) from Af.refl h
  have hq1 := neq_if
  have hq2 := neq_no
  clear hK h hT hG hgs hgk hgn hgo hgf hw hB hAa hAb hAc
  show Calls _ _ #[.pointer (some ⟨C, 0, none⟩), (.agg #[.int .i64 9, .string nn, .string oo, .int .i64 0, (.slice p nk kc)])] _ _
  go_enter Tryd.func18, Tryd.ntmps18
  go_wp2_with (refine wpList_box 27 _ rfl _ rfl rfl ?_)
  intro w1 bx hn1
  have HX1 := show Hid (Cl w1 bx #[.int .i64 9, .string nn, .string oo, .int .i64 0, .slice p nk kc] 27) from hn1.blk
  have HAF1 := show Hid _ from HAF0.out.then hn1.bel
  have hgx : w.heap.size ≤ bx := hn1.ge
  have HGX := show Hid (w.heap.size ≤ bx) from hgx
  clear hn1 HAF0 hgx
  have x0 : w1.cell? ⟨bx, 0, none⟩ = some (.int .i64 9) := Cl.cell HX1.out 0
  have x1 : w1.cell? ⟨bx, 1, none⟩ = some (.string nn) := Cl.cell HX1.out 1
  have x2 : w1.cell? ⟨bx, 2, none⟩ = some (.string oo) := Cl.cell HX1.out 2
  have x3 : w1.cell? ⟨bx, 3, none⟩ = some (.int .i64 0) := Cl.cell HX1.out 3
  have x4 : w1.cell? ⟨bx, 4, none⟩ = some (.slice p nk kc) := Cl.cell HX1.out 4
  go_wp2_with fail
  clear x0 x1 x2 x3 x4
  refine Calls.mono (KF.out w1 _ _ HAF1.out (Nat.le_refl _)) ?_
  rintro e w2 ⟨wv2, hP2, haf2⟩
  have HX2 := show Hid _ from Cl.af HX1.out HAF1.out.ck haf2.kp (by decide) (by decide)
  have HAF2 := show Hid _ from HAF1.out.trans haf2
  have HP2 := show Hid _ from hP2
  clear hP2 haf2 HX1 HAF1 KF
  cases ANS with
  | no er wy =>
    obtain ⟨q, rfl, hrf⟩ := HP2.out
    have HRF := show Hid _ from hrf
    clear HP2 hrf
    have x0 : w2.cell? ⟨bx, 0, none⟩ = some (.int .i64 9) := Cl.cell HX2.out 0
    have x1 : w2.cell? ⟨bx, 1, none⟩ = some (.string nn) := Cl.cell HX2.out 1
    have x2 : w2.cell? ⟨bx, 2, none⟩ = some (.string oo) := Cl.cell HX2.out 2
    have x3 : w2.cell? ⟨bx, 3, none⟩ = some (.int .i64 0) := Cl.cell HX2.out 3
    have x4 : w2.cell? ⟨bx, 4, none⟩ = some (.slice p nk kc) := Cl.cell HX2.out 4
    go_wp2_with fail
    go_ret2
    exact ⟨_, ⟨q, rfl, HRF.out⟩, HAF2.out⟩
  | ok f =>
    obtain rfl := HP2.out
    clear HP2
    have x0 : w2.cell? ⟨bx, 0, none⟩ = some (.int .i64 9) := Cl.cell HX2.out 0
    have x1 : w2.cell? ⟨bx, 1, none⟩ = some (.string nn) := Cl.cell HX2.out 1
    have x2 : w2.cell? ⟨bx, 2, none⟩ = some (.string oo) := Cl.cell HX2.out 2
    have x3 : w2.cell? ⟨bx, 3, none⟩ = some (.int .i64 0) := Cl.cell HX2.out 3
    have x4 : w2.cell? ⟨bx, 4, none⟩ = some (.slice p nk kc) := Cl.cell HX2.out 4
    go_wp2_with fail
    go_ret2
    exact ⟨_, (show (_ : Ending) = _ from rfl), HAF2.out⟩
end Go.Proofs.YtkpbpecikibohaaDoor.Ya
