/-
  toldWith and checkedWith: a name stands for a formula while a part is gone through; given what the call at the part leaves. No condition but sizes. (Written by genywith.py.)
-/
import Derived.Test.YtkpbpecikibohaaDoorYPart
namespace Go.Proofs.YtkpbpecikibohaaDoor.Ya
open Go.RowKit Go.Maps
open Fm (Nd)
open Ty (Tm An)
set_option linter.unusedSimpArgs false

set_option maxRecDepth 100000 in
set_option maxHeartbeats 4000000 in
theorem toldWith_any (w : World) {B C m n n' : Nat} {pt : Value} {g : Ty.Env} {wv sv : Value} {way : List Int} {x y : Tm} (i : Nat) (hi : i < x.sub.length) (hy : x.sub[i] = y) (h : Ck w B C m n pt g wv way) (hl : way.length + 1 ≤ 1000000) (hB : B ≤ w.heap.size) (hK : Kid w B x sv) (hx : x.sub.length ≤ 140737488351232) (hn : n < 100000000000000) (hn' : n' < 100000000000000) (s : ByteArray) (hs : s.size ≤ 140737488351232) (f : Int) {A : An} 
    (hC : ∀ (W : World) (kv wv' : Value), Below B w W → Kid W B y kv → Ck W B C m (n + 1) pt (Ty.upd g s f) wv' (way ++ [(i : Int)]) → Calls Tryd.prog 18 #[.pointer (some ⟨C, 0, none⟩), tmV y kv] W fun r w' => ∃ wv2, TlP B w' r wv2 A ∧ Af W w' B C m n' pt (Ty.upd g s f) wv' wv2 (way ++ [(i : Int)])) :
    Calls Tryd.prog 59 #[.pointer (some ⟨C, 0, none⟩), tmV x sv, .int .i64 (i : Int), .string s, .int .i64 f] w fun r w' => ∃ wv2, TlP B w' r wv2 A ∧ Af w w' B C m (n' + 1) pt g wv wv2 way := by
  have HKID := show Hid (∀ W, Below B w W → Kid W B x sv) from fun W hW => hK.below hW
  have HCC := show Hid _ from hC
  have HCK := show Hid (Ck w B C m n pt g wv way) from h
  obtain ⟨p, nn, c, rfl⟩ := hK.form
  have KG := show Hid (∀ W, Below w.heap.size w W → Calls Tryd.prog 72 #[.pointer (some ⟨C, 0, none⟩), .string s, .int .i64 f] W fun r w' => ∃ b0 b1 b2 b3, r = .returned (.func (.func 77) #[] #[.pointer (some ⟨b0, 0, none⟩), .pointer (some ⟨b1, 0, none⟩), .pointer (some ⟨b2, 0, none⟩), .pointer (some ⟨b3, 0, none⟩)]) ∧ Gv w' C b0 b1 b2 b3 (g s).isSome ((g s).getD 0) s ∧ W.heap.size ≤ b1 ∧ Ck w' B C m (n + 1) pt (Ty.upd g s f) wv way ∧ Kp (fun k => k = m) W w') from fun W hW => give_any W (h.later hW) hn (Nat.le_trans hB hW.size) s hs f
  have KP := show Hid (∀ W, Below B w W → B ≤ W.heap.size → Ck W B C m (n + 1) pt (Ty.upd g s f) wv way → Calls Tryd.prog 57 #[.pointer (some ⟨C, 0, none⟩), tmV x (.slice p nn c), .int .i64 (i : Int)] W fun r w' => ∃ wv2, TlP B w' r wv2 A ∧ Af W w' B C m n' pt (Ty.upd g s f) wv wv2 way) from
    fun W hW hbW hc => toldPart_any W i hi hy hc hl hbW (HKID.out W hW) hx fun W2 kv wv2 hW2 hk hc2 => HCC.out W2 kv wv2 (hW.trans hW2) hk hc2
  clear hK hC h
  unfold tmV at KP ⊢
  generalize x.k = xk at *
  generalize x.n = xn at *
  generalize x.o = xo at *
  generalize x.f = xf at *
  go_enter_defers Tryd.func59, Tryd.ntmps59
  go_wp2_with (refine wpList_box 27 _ rfl _ rfl rfl ?_)
  intro w1 bx hn1
  have HN1 := show Hid (New w w1 bx #[.int .i64 xk, .string xn, .string xo, .int .i64 xf, .slice p nn c] 27) from hn1
  clear hn1
  go_wp2_with fail
  refine Calls.mono (KG.out w1 HN1.out.bel) ?_
  rintro e w2 ⟨b0, b1, b2, b3, rfl, hv2, hge2, hck2, hk2⟩
  have ck1 := HCK.out.later HN1.out.bel
  have hx2 : Cl w2 bx #[.int .i64 xk, .string xn, .string xo, .int .i64 xf, .slice p nn c] 27 := (hk2.block bx (show bx < _ from Cl.lt HN1.out.blk) (ck1.mne HN1.out.blk)).trans HN1.out.blk
  have kpF : Kp (Fc C m wv) w1 w2 := kp_imp hk2 fun k e => Or.inr (Or.inl e)
  have haf2 : Af w w2 B C m (n + 1) pt (Ty.upd g s f) wv wv way := (Af.new HCK.out HN1.out.bel).trans ⟨hck2, fun k e => Or.inl e, kpF⟩
  have hbB : Below B w w2 := HCK.out.below haf2.kp hB
  have KP2 := show Hid _ from KP.out w2 hbB (Nat.le_trans hB haf2.kp.size) hck2
  have HAF2 := show Hid _ from haf2
  have HV2 := show Hid _ from hv2
  have HG2 := show Hid (¬ Fc C m wv b1) from (by
    rintro (e | e | e)
    · have := ck1.blk.lt; omega
    · have := ck1.map.lt; omega
    · have := (own_blk ck1.row b1 e).2.1; omega : ¬ Fc C m wv b1)
  have x0 : w2.cell? ⟨bx, 0, none⟩ = some (.int .i64 xk) := hx2.cell 0
  have x1 : w2.cell? ⟨bx, 1, none⟩ = some (.string xn) := hx2.cell 1
  have x2 : w2.cell? ⟨bx, 2, none⟩ = some (.string xo) := hx2.cell 2
  have x3 : w2.cell? ⟨bx, 3, none⟩ = some (.int .i64 xf) := hx2.cell 3
  have x4 : w2.cell? ⟨bx, 4, none⟩ = some (.slice p nn c) := hx2.cell 4
  clear KG KP HKID HCC hx2 kpF haf2 hbB hv2 hge2 hk2 ck1
  go_wp2_with fail
  refine Calls.mono KP2.out ?_
  rintro e w3 ⟨wv3, hP3, haf3⟩
  have hv3 : Gv w3 C b0 b1 b2 b3 (g s).isSome ((g s).getD 0) s :=
    ⟨Cl.af HV2.out.c0 hck2 haf3.kp (by decide) (by decide), (haf3.kp.block b1 HV2.out.c1.lt HG2.out).trans HV2.out.c1, Cl.af HV2.out.c2 hck2 haf3.kp (by decide) (by decide), Cl.af HV2.out.c3 hck2 haf3.kp (by decide) (by decide)⟩
  have HV3 := show Hid _ from hv3
  have HAF3 := show Hid _ from haf3
  have HP3 := show Hid _ from hP3
  clear KP2 hck2 hP3 haf3 hv3 HV2 HG2 x0 x1 x2 x3 x4
  cases A with
  | ok fo =>
    obtain rfl := HP3.out
    clear HP3
    go_wp2_with fail
    refine leaves_cons (f := 77) (args := #[.pointer (some ⟨b0, 0, none⟩), .pointer (some ⟨b1, 0, none⟩), .pointer (some ⟨b2, 0, none⟩), .pointer (some ⟨b3, 0, none⟩)]) (by simp) (by simp [go_sem]) ?_
    refine (give1_any w3 .returning HAF3.out.ck hn' hs HV3.out).mono ?_
    rintro e u' w4 ⟨rfl, rfl, hck4, hk4⟩
    exact ⟨_, results_tmp2 rfl _ _ _, wv3, (show (_ : Ending) = _ from rfl), HAF2.out.trans (HAF3.out.trans ⟨hck4, fun k e => Or.inl e, kp_imp hk4 fun k e => Or.inr (Or.inl e)⟩)⟩
  | no er wy =>
    obtain ⟨q, rfl, hrf⟩ := HP3.out
    have HRF := show Hid _ from hrf
    clear HP3 hrf
    go_wp2_with fail
    refine leaves_cons (f := 77) (args := #[.pointer (some ⟨b0, 0, none⟩), .pointer (some ⟨b1, 0, none⟩), .pointer (some ⟨b2, 0, none⟩), .pointer (some ⟨b3, 0, none⟩)]) (by simp) (by simp [go_sem]) ?_
    refine (give1_any w3 .returning HAF3.out.ck hn' hs HV3.out).mono ?_
    rintro e u' w4 ⟨rfl, rfl, hck4, hk4⟩
    exact ⟨_, results_tmp2 rfl _ _ _, wv3, ⟨q, rfl, HRF.out.af HAF3.out.ck (kp_imp hk4 fun k e => Or.inr (Or.inl e))⟩, HAF2.out.trans (HAF3.out.trans ⟨hck4, fun k e => Or.inl e, kp_imp hk4 fun k e => Or.inr (Or.inl e)⟩)⟩

set_option maxRecDepth 100000 in
set_option maxHeartbeats 4000000 in
theorem checkedWith_any (w : World) {B C m n n' : Nat} {pt : Value} {g : Ty.Env} {wv sv : Value} {way : List Int} {x y : Tm} (i : Nat) (hi : i < x.sub.length) (hy : x.sub[i] = y) (h : Ck w B C m n pt g wv way) (hl : way.length + 1 ≤ 1000000) (hB : B ≤ w.heap.size) (hK : Kid w B x sv) (hx : x.sub.length ≤ 140737488351232) (hn : n < 100000000000000) (hn' : n' < 100000000000000) (s : ByteArray) (hs : s.size ≤ 140737488351232) (f : Int) {A : An} (id : Int)
    (hC : ∀ (W : World) (kv wv' : Value), Below B w W → Kid W B y kv → Ck W B C m (n + 1) pt (Ty.upd g s f) wv' (way ++ [(i : Int)]) → Calls Tryd.prog 22 #[.pointer (some ⟨C, 0, none⟩), tmV y kv, .int .i64 id] W fun r w' => ∃ wv2, ChP B w' r wv2 A ∧ Af W w' B C m n' pt (Ty.upd g s f) wv' wv2 (way ++ [(i : Int)])) :
    Calls Tryd.prog 64 #[.pointer (some ⟨C, 0, none⟩), tmV x sv, .int .i64 (i : Int), .string s, .int .i64 f, .int .i64 id] w fun r w' => ∃ wv2, ChP B w' r wv2 A ∧ Af w w' B C m (n' + 1) pt g wv wv2 way := by
  have HKID := show Hid (∀ W, Below B w W → Kid W B x sv) from fun W hW => hK.below hW
  have HCC := show Hid _ from hC
  have HCK := show Hid (Ck w B C m n pt g wv way) from h
  obtain ⟨p, nn, c, rfl⟩ := hK.form
  have KG := show Hid (∀ W, Below w.heap.size w W → Calls Tryd.prog 72 #[.pointer (some ⟨C, 0, none⟩), .string s, .int .i64 f] W fun r w' => ∃ b0 b1 b2 b3, r = .returned (.func (.func 77) #[] #[.pointer (some ⟨b0, 0, none⟩), .pointer (some ⟨b1, 0, none⟩), .pointer (some ⟨b2, 0, none⟩), .pointer (some ⟨b3, 0, none⟩)]) ∧ Gv w' C b0 b1 b2 b3 (g s).isSome ((g s).getD 0) s ∧ W.heap.size ≤ b1 ∧ Ck w' B C m (n + 1) pt (Ty.upd g s f) wv way ∧ Kp (fun k => k = m) W w') from fun W hW => give_any W (h.later hW) hn (Nat.le_trans hB hW.size) s hs f
  have KP := show Hid (∀ W, Below B w W → B ≤ W.heap.size → Ck W B C m (n + 1) pt (Ty.upd g s f) wv way → Calls Tryd.prog 56 #[.pointer (some ⟨C, 0, none⟩), tmV x (.slice p nn c), .int .i64 (i : Int), .int .i64 id] W fun r w' => ∃ wv2, ChP B w' r wv2 A ∧ Af W w' B C m n' pt (Ty.upd g s f) wv wv2 way) from
    fun W hW hbW hc => checkedPart_any W i hi hy hc hl hbW (HKID.out W hW) hx id fun W2 kv wv2 hW2 hk hc2 => HCC.out W2 kv wv2 (hW.trans hW2) hk hc2
  clear hK hC h
  unfold tmV at KP ⊢
  generalize x.k = xk at *
  generalize x.n = xn at *
  generalize x.o = xo at *
  generalize x.f = xf at *
  go_enter_defers Tryd.func64, Tryd.ntmps64
  go_wp2_with (refine wpList_box 27 _ rfl _ rfl rfl ?_)
  intro w1 bx hn1
  have HN1 := show Hid (New w w1 bx #[.int .i64 xk, .string xn, .string xo, .int .i64 xf, .slice p nn c] 27) from hn1
  clear hn1
  go_wp2_with fail
  refine Calls.mono (KG.out w1 HN1.out.bel) ?_
  rintro e w2 ⟨b0, b1, b2, b3, rfl, hv2, hge2, hck2, hk2⟩
  have ck1 := HCK.out.later HN1.out.bel
  have hx2 : Cl w2 bx #[.int .i64 xk, .string xn, .string xo, .int .i64 xf, .slice p nn c] 27 := (hk2.block bx (show bx < _ from Cl.lt HN1.out.blk) (ck1.mne HN1.out.blk)).trans HN1.out.blk
  have kpF : Kp (Fc C m wv) w1 w2 := kp_imp hk2 fun k e => Or.inr (Or.inl e)
  have haf2 : Af w w2 B C m (n + 1) pt (Ty.upd g s f) wv wv way := (Af.new HCK.out HN1.out.bel).trans ⟨hck2, fun k e => Or.inl e, kpF⟩
  have hbB : Below B w w2 := HCK.out.below haf2.kp hB
  have KP2 := show Hid _ from KP.out w2 hbB (Nat.le_trans hB haf2.kp.size) hck2
  have HAF2 := show Hid _ from haf2
  have HV2 := show Hid _ from hv2
  have HG2 := show Hid (¬ Fc C m wv b1) from (by
    rintro (e | e | e)
    · have := ck1.blk.lt; omega
    · have := ck1.map.lt; omega
    · have := (own_blk ck1.row b1 e).2.1; omega : ¬ Fc C m wv b1)
  have x0 : w2.cell? ⟨bx, 0, none⟩ = some (.int .i64 xk) := hx2.cell 0
  have x1 : w2.cell? ⟨bx, 1, none⟩ = some (.string xn) := hx2.cell 1
  have x2 : w2.cell? ⟨bx, 2, none⟩ = some (.string xo) := hx2.cell 2
  have x3 : w2.cell? ⟨bx, 3, none⟩ = some (.int .i64 xf) := hx2.cell 3
  have x4 : w2.cell? ⟨bx, 4, none⟩ = some (.slice p nn c) := hx2.cell 4
  clear KG KP HKID HCC hx2 kpF haf2 hbB hv2 hge2 hk2 ck1
  go_wp2_with fail
  refine Calls.mono KP2.out ?_
  rintro e w3 ⟨wv3, hP3, haf3⟩
  have hv3 : Gv w3 C b0 b1 b2 b3 (g s).isSome ((g s).getD 0) s :=
    ⟨Cl.af HV2.out.c0 hck2 haf3.kp (by decide) (by decide), (haf3.kp.block b1 HV2.out.c1.lt HG2.out).trans HV2.out.c1, Cl.af HV2.out.c2 hck2 haf3.kp (by decide) (by decide), Cl.af HV2.out.c3 hck2 haf3.kp (by decide) (by decide)⟩
  have HV3 := show Hid _ from hv3
  have HAF3 := show Hid _ from haf3
  have HP3 := show Hid _ from hP3
  clear KP2 hck2 hP3 haf3 hv3 HV2 HG2 x0 x1 x2 x3 x4
  cases A with
  | ok fo =>
    obtain rfl := HP3.out
    clear HP3
    go_wp2_with fail
    refine leaves_cons (f := 77) (args := #[.pointer (some ⟨b0, 0, none⟩), .pointer (some ⟨b1, 0, none⟩), .pointer (some ⟨b2, 0, none⟩), .pointer (some ⟨b3, 0, none⟩)]) (by simp) (by simp [go_sem]) ?_
    refine (give1_any w3 .returning HAF3.out.ck hn' hs HV3.out).mono ?_
    rintro e u' w4 ⟨rfl, rfl, hck4, hk4⟩
    exact ⟨_, results_tmp rfl _ _ _, wv3, (show (_ : Ending) = _ from rfl), HAF2.out.trans (HAF3.out.trans ⟨hck4, fun k e => Or.inl e, kp_imp hk4 fun k e => Or.inr (Or.inl e)⟩)⟩
  | no er wy =>
    obtain ⟨q, rfl, hrf⟩ := HP3.out
    have HRF := show Hid _ from hrf
    clear HP3 hrf
    go_wp2_with fail
    refine leaves_cons (f := 77) (args := #[.pointer (some ⟨b0, 0, none⟩), .pointer (some ⟨b1, 0, none⟩), .pointer (some ⟨b2, 0, none⟩), .pointer (some ⟨b3, 0, none⟩)]) (by simp) (by simp [go_sem]) ?_
    refine (give1_any w3 .returning HAF3.out.ck hn' hs HV3.out).mono ?_
    rintro e u' w4 ⟨rfl, rfl, hck4, hk4⟩
    exact ⟨_, results_tmp rfl _ _ _, wv3, ⟨q, rfl, HRF.out.af HAF3.out.ck (kp_imp hk4 fun k e => Or.inr (Or.inl e))⟩, HAF2.out.trans (HAF3.out.trans ⟨hck4, fun k e => Or.inl e, kp_imp hk4 fun k e => Or.inr (Or.inl e)⟩)⟩
end Go.Proofs.YtkpbpecikibohaaDoor.Ya
