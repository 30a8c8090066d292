/-
  toldPart and checkedPart: the way goes down to a part and up again; given what the call at the part leaves. No condition but that the way is short. (Written by genypart.py.)
-/
import Derived.Test.YtkpbpecikibohaaDoorYGive
import Derived.Maps.AppendAt
namespace Go.Proofs.YtkpbpecikibohaaDoor.Ya
open Go.RowKit Go.Maps
open Fm (Nd)
open Ty (Tm An)
set_option linter.unusedSimpArgs false

theorem own_cut {w : World} {B g cap : Nat} {way : List Int} {i : Int} (h : w.ownsRow B 3 1 (.slice (some ⟨g, 0, none⟩) (way.length + 1) cap) (way ++ [i]).length (intsI (way ++ [i]))) : w.ownsRow B 3 1 (.slice (some ⟨g, 0, none⟩) way.length cap) way.length (intsI way) := by
  refine ⟨by simp [intsI], Or.inr ?_⟩
  rcases h.2 with ⟨h0, _⟩ | ⟨g', cap', cur, hv, hg, hh, h1, h2, h3, h4⟩
  · cases h0
  · obtain ⟨h5, _, h6⟩ := Value.slice.inj hv
    obtain rfl : g = g' := by injection h5 with h5; injection h5
    subst h6
    simp only [List.length_append, List.length_singleton] at h1 h4
    refine ⟨g, cap, cur, rfl, hg, hh, by omega, h2, h3, ?_⟩
    have := congrArg (List.take way.length) h4
    rw [List.take_take] at this
    simp [intsI] at this ⊢
    first | exact this | (rw [Nat.min_eq_left (by omega)] at this; exact this)
theorem cell_one {w : World} {q : Nat} {v : Value} (h : w.cell? ⟨q, 0, none⟩ = some v) : ∀ (j : Nat) (u : Value), [v][j]? = some u → w.cell? ((⟨q, 0, none⟩ : Addr).add j) = some u := by
  intro j u hu
  match j, hu with
  | 0, hu =>
    rw [Addr.add_lit]
    simp at hu
    rw [← hu]
    exact h
theorem kp_imp {S S' : Nat → Prop} {w w' : World} (h : Kp S w w') (hS : ∀ k, S k → S' k) : Kp S' w w' := ⟨h.os, h.tape, h.output, h.size, fun k hk hn => h.block k hk fun h' => hn (hS k h')⟩
theorem run_stW {w : World} {C : Nat} {a1 a2 a3 : Value} {T0 : TypeId} (h : Cl w C #[a1, a2, a3] T0) (p : Option Addr) (n c : Nat) : (Instr.storeAt 56 (.pointer (some ⟨C, 2, none⟩)) (.slice p n c)).run Tryd.prog w = .ok () (w.setCell ⟨C, 2, none⟩ (.slice p n c)) := by
  have hc : w.cell? ⟨C, 2, none⟩ = some a3 := h.cell 2
  have hf := h.fr 2
  go_simp
theorem wpList_stW {ops : Array Oper} {rest : List Oper} {o : Oper} {a : Act} {Q : Exit → Act → World → Prop} {w : World} (hg : o.guard = none) (hd : o.dst = none) (x y : Operand) (hop : o.op = Op.store 56 x y) (C : Nat) (hx : a.eval x = .pointer (some ⟨C, 2, none⟩)) (p : Option Addr) (n c : Nat) (hy : a.eval y = .slice p n c) {a1 a2 a3 : Value} {T0 : TypeId} (h : Cl w C #[a1, a2, a3] T0)
    (hK : ∀ w', Cl w' C #[a1, a2, .slice p n c] T0 → KpP C w w' → wpList Tryd.prog ops Q rest a w') : wpList Tryd.prog ops Q (o :: rest) a w := by
  refine wpList_plain hg fun K' hK' => ?_
  have hrun := run_stW h p n c
  unfold Oper.wp
  simp [execOp, hop, hx, hy, hrun, Result.andThen]
  rw [Oper.upon_skip, hd]
  exact hK' _ _ (hK _ (heap_setCell_same w C 2 _ _ _ h) (KpP.set (Kp.refl _ w) 2 _))
theorem own_form1 {w : World} {B l : Nat} {e : TypeId} {v : Value} {xs : List Value} (h : w.ownsRow B e 1 v (l + 1) xs) : ∃ g c, v = .slice (some ⟨g, 0, none⟩) (l + 1) c ∧ l + 1 ≤ c ∧ c ≤ 9223372036854775807 := by
  rcases h.2 with ⟨_, h0⟩ | ⟨g, cap, cur, rfl, _, _, h1, h2, _⟩
  · cases h0
  · exact ⟨g, cap, rfl, h1, by unfold maxLen at h2; omega⟩
theorem Cl.set2 {w : World} {C : Nat} {a b c : Value} {T : TypeId} (h : Cl w C #[a, b, c] T) (v : Value) : Cl (w.setCell ⟨C, 2, none⟩ v) C #[a, b, v] T := heap_setCell_same w C 2 _ _ _ h
theorem Ck.way2 {w w' : World} {B C m n : Nat} {pt : Value} {g : Ty.Env} {wv v' : Value} {way way' : List Int} (h : Ck w B C m n pt g wv way) (hg : Kp (fun k => k = C ∨ wv.ownBlock = some k) w w') (hb : Cl w' C #[pt, .map (some m), v'] 75) (ho : w'.ownsRow B 3 1 v' way'.length (intsI way')) : Ck w' B C m n pt g v' way' :=
  ⟨hb, h.map.keep (hg.block m h.map.lt fun e => by
    rcases e with e | e
    · exact h.Cm e.symm
    · exact h.wm e), ho, h.cB, h.mB⟩

set_option maxRecDepth 100000 in
set_option maxHeartbeats 4000000 in
theorem toldPart_any (w : World) {B C m n n' : Nat} {pt : Value} {g : Ty.Env} {wv sv : Value} {way : List Int} {x y : Tm} (i : Nat) (hi : i < x.sub.length) (hy : x.sub[i] = y) (h : Ck w B C m n pt g wv way) (hl : way.length + 1 ≤ 1000000) (hB : B ≤ w.heap.size) (hK : Kid w B x sv) (hx : x.sub.length ≤ 140737488351232) {A : An} 
    (hC : ∀ (W : World) (kv wv' : Value), Below B w W → Kid W B y kv → Ck W B C m n pt g wv' (way ++ [(i : Int)]) → Calls Tryd.prog 18 #[.pointer (some ⟨C, 0, none⟩), tmV y kv] W fun r w' => ∃ wv2, TlP B w' r wv2 A ∧ Af W w' B C m n' pt g wv' wv2 (way ++ [(i : Int)])) :
    Calls Tryd.prog 57 #[.pointer (some ⟨C, 0, none⟩), tmV x sv, .int .i64 (i : Int)] w fun r w' => ∃ wv2, TlP B w' r wv2 A ∧ Af w w' B C m n' pt g wv wv2 way := by
  obtain ⟨p, c, rfl, hat⟩ := hK.subs
  obtain ⟨b, o, hbl, rfl, hat2⟩ := hat (by omega)
  have HAT := show Hid (∀ W, Below B w W → ∃ kv, At5 W b (o + i * 5) y kv ∧ Kid W B y kv) from fun W hW => hy ▸ hat2 W hW i hi
  have HCC := show Hid _ from hC
  have HCK := show Hid (Ck w B C m n pt g wv way) from h
  obtain ⟨pw, cw, rfl⟩ := own_form h.row
  clear hat hat2 hK hC hy
  unfold tmV
  generalize x.sub.length = sl at *
  generalize x.k = xk at *
  generalize x.n = xn at *
  generalize x.o = xo at *
  generalize x.f = xf at *
  go_enter Tryd.func57, Tryd.ntmps57
  go_wp2_with (refine wpList_box 27 _ rfl _ rfl rfl ?_)
  intro w1 bx hn1
  have HN1 := show Hid (New w w1 bx #[.int .i64 xk, .string xn, .string xo, .int .i64 xf, .slice (some ⟨b, o, none⟩) sl c] 27) from hn1
  have HK1 := show Hid _ from h.later hn1.bel
  have c2 : w1.cell? ⟨C, 2, none⟩ = some (.slice pw way.length cw) := HK1.out.blk.cell 2
  clear hn1 h
  go_wp2_with (refine wpList_bsI rfl _ rfl _ rfl ?_)
  intro w2 q2 hn2
  have HN2 := show Hid (New w1 w2 q2 #[.int .i64 (i : Int)] 3) from hn2
  have HK2 := show Hid _ from HK1.out.later hn2.bel
  have HX2 := show Hid (Cl w2 bx _ _) from Cl.new HN1.out.blk hn2
  have hcq : w2.cell? ⟨q2, 0, none⟩ = some (.int .i64 (i : Int)) := Cl.cell hn2.blk 0
  obtain ⟨i0, hi0, hz0, hz1, hz2⟩ := info_parts infoI1
  have hB2 : B ≤ w2.heap.size := by have := HN1.out.bel.size; have := hn2.bel.size; omega
  clear hn2 c2
  go_wp2_with (at_builtin; refine wpList_append_own_at _ rfl (.tmp 14) (.tmp 16) 56 rfl B 3 i0 (.int .i64 0) 1 8 Tryd.underlying56 hi0 hz0 hz1 hz2 rfl (by decide) (.slice pw way.length cw) way.length (intsI way) rfl HK2.out.row ⟨q2, 0, none⟩ 1 1 [.int .i64 (i : Int)] rfl rfl (cell_one hcq) (by intro u hu; simp at hu; subst hu; rfl) (by unfold maxLen; omega) (by omega) hB2 ?_)
  intro v3 w3 ho3 hg3 _ hat3
  have hon : w3.ownsRow B 3 1 v3 (way.length + 1) (intsI (way ++ [(i : Int)])) := by
    have e : intsI (way ++ [(i : Int)]) = intsI way ++ [.int .i64 (i : Int)] := by simp [intsI]
    rw [e]
    exact ho3
  obtain ⟨g3, cp3, rfl, hle3, _⟩ := own_form1 hon
  have kp3 : Kp (fun k => k = C ∨ (Value.slice pw way.length cw).ownBlock = some k) w2 w3 := ⟨hg3.os, hg3.tape, hg3.output, hg3.size, fun k hk hne => hg3.block k hk fun e => hne (Or.inr e.symm)⟩
  have hC3 : Cl w3 C #[pt, .map (some m), .slice pw way.length cw] 75 := (hg3.block C HK2.out.blk.lt fun e => HK2.out.wC e.symm).trans HK2.out.blk
  have H3 := show Hid (Cl w3 C #[pt, .map (some m), .slice pw way.length cw] 75) from hC3
  have HO3 := show Hid _ from And.intro hon (And.intro kp3 hat3)
  clear hi0 hz0 hz1 hz2 hcq hg3 ho3 hat3 hon kp3 hC3
  go_wp2_with (refine wpList_stW rfl rfl _ _ rfl C rfl (some ⟨g3, 0, none⟩) (way.length + 1) cp3 rfl H3.out ?_)
  intro w4 hc4 hk4
  obtain ⟨hon, kp3, hat3⟩ := HO3.out
  have kp4 : Kp (fun k => k = C ∨ (Value.slice pw way.length cw).ownBlock = some k) w2 w4 := kp3.trans (kp_imp (S' := fun k => k = C ∨ (Value.slice pw way.length cw).ownBlock = some k) hk4 fun k e => Or.inl e) fun k e => Or.inl e
  have hck4 : Ck w4 B C m n pt g (.slice (some ⟨g3, 0, none⟩) (way.length + 1) cp3) (way ++ [(i : Int)]) :=
    HK2.out.way2 kp4 hc4 (by
      rw [List.length_append, List.length_singleton]
      refine own_kp hon fun k e => ?_
      obtain ⟨_, hlt, cur, hh⟩ := own_blk hon k e
      refine hk4.block k hlt fun e2 => ?_
      subst e2
      rw [show w3.heap[_]? = _ from H3.out] at hh
      injection hh with hh
      injection hh with _ h3 _
      exact absurd h3 (by decide))
  have haf4 : Af w w4 B C m n pt g (.slice pw way.length cw) (.slice (some ⟨g3, 0, none⟩) (way.length + 1) cp3) (way ++ [(i : Int)]) := by
    refine ⟨hck4, fun k e => ?_, ?_⟩
    · rcases hat3 with e2 | e2
      · exact Or.inl (e2 ▸ e)
      · have : k = w2.heap.size := Option.some.inj (e.symm.trans e2)
        have := HN1.out.bel.size
        have := HN2.out.bel.size
        exact Or.inr (by omega)
    · refine ((Kp.of_below HN1.out.bel).trans ((Kp.of_below HN2.out.bel).trans (kp_imp kp4 (S' := Fc C m (Value.slice pw way.length cw)) ?_) fun k e => Or.inl e) fun k e => Or.inl e)
      rintro k (e | e)
      · exact Or.inl e
      · exact Or.inr (Or.inr e)
  have hx4 : Cl w4 bx #[.int .i64 xk, .string xn, .string xo, .int .i64 xf, .slice (some ⟨b, o, none⟩) sl c] 27 :=
    (kp4.block bx HX2.out.lt (by
      rintro (e | e)
      · exact HK2.out.nf HX2.out (by decide) (by decide) (Or.inl e)
      · exact HK2.out.nf HX2.out (by decide) (by decide) (Or.inr (Or.inr e)))).trans HX2.out
  have hbB : Below B w w4 := HCK.out.below haf4.kp hB
  obtain ⟨kv, h5, hkid⟩ := HAT.out w4 hbB
  have KT := show Hid _ from HCC.out w4 kv (.slice (some ⟨g3, 0, none⟩) (way.length + 1) cp3) hbB hkid hck4
  obtain ⟨kp, kn, kc, rfl⟩ := hkid.form
  obtain ⟨a0, a1, a2, a3, a4⟩ := h5
  have x4 : w4.cell? ⟨bx, 4, none⟩ = some (.slice (some ⟨b, o, none⟩) sl c) := hx4.cell 4
  have HAF := show Hid (Af w w4 B C m n pt g (.slice pw way.length cw) (.slice (some ⟨g3, 0, none⟩) (way.length + 1) cp3) (way ++ [(i : Int)])) from haf4
  have hii : (i : Int) < (sl : Int) := by omega
  unfold tmV at KT
  generalize y.k = yk at *
  generalize y.n = yn at *
  generalize y.o = yo at *
  generalize y.f = yf at *
  clear hc4 hk4 kp4 hck4 haf4 hx4 hbB hkid hon kp3 hat3 HO3 H3 HCC HAT HK1 HK2 HN1 HN2 HX2
  go_wp2_with fail
  refine Calls.mono KT.out ?_
  rintro e w5 ⟨wv5, hP5, haf5⟩
  have hlen5 : (way ++ [(i : Int)]).length = way.length + 1 := by simp
  have hrow5 : w5.ownsRow B 3 1 wv5 (way.length + 1) (intsI (way ++ [(i : Int)])) := hlen5 ▸ haf5.ck.row
  obtain ⟨g5, cp5, rfl, hle5, hmx5⟩ := own_form1 hrow5
  have HAF5 := show Hid _ from haf5
  have HP5 := show Hid _ from hP5
  have c5 : w5.cell? ⟨C, 2, none⟩ = some (.slice (some ⟨g5, 0, none⟩) (way.length + 1) cp5) := haf5.ck.blk.cell 2
  have f5 : w5.frozen? ⟨C, 2, none⟩ = false := haf5.ck.blk.fr 2
  have HEND := show Hid (Af w (w5.drew.setCell ⟨C, 2, none⟩ (.slice (some ⟨g5, 0, none⟩) way.length cp5)) B C m n' pt g (.slice pw way.length cw) (.slice (some ⟨g5, 0, none⟩) way.length cp5) way ∧ ∀ q e wy, Rf w5 B q e wy (.slice (some ⟨g5, 0, none⟩) (way.length + 1) cp5) → Rf (w5.drew.setCell ⟨C, 2, none⟩ (.slice (some ⟨g5, 0, none⟩) way.length cp5)) B q e wy (.slice (some ⟨g5, 0, none⟩) way.length cp5)) from by
    have ck5 : Ck w5.drew B C m n' pt g (.slice (some ⟨g5, 0, none⟩) (way.length + 1) cp5) (way ++ [(i : Int)]) := haf5.ck.later (Below.refl _ _).drew
    have kpC : KpP C w5.drew (w5.drew.setCell ⟨C, 2, none⟩ (.slice (some ⟨g5, 0, none⟩) way.length cp5)) := KpP.set (Kp.refl _ _) 2 _
    have kpF : Kp (Fc C m (.slice (some ⟨g5, 0, none⟩) (way.length + 1) cp5)) w5.drew (w5.drew.setCell ⟨C, 2, none⟩ (.slice (some ⟨g5, 0, none⟩) way.length cp5)) := kp_imp kpC fun k e => Or.inl e
    have ck6 : Ck (w5.drew.setCell ⟨C, 2, none⟩ (.slice (some ⟨g5, 0, none⟩) way.length cp5)) B C m n' pt g (.slice (some ⟨g5, 0, none⟩) way.length cp5) way := by
      refine ck5.way2 (kp_imp kpC fun k e => Or.inl e) (heap_setCell_same _ C 2 _ _ _ ck5.blk) ?_
      refine own_kp (own_cut ck5.row) fun k e => ?_
      obtain ⟨_, hlt, cur, hh⟩ := own_blk ck5.row k e
      refine kpC.block k hlt fun e2 => ?_
      subst e2
      exact ck5.wC e
    refine ⟨?_, fun q e wy hrf => ?_⟩
    · refine (HAF.out.trans haf5).trans ((Af.new haf5.ck (Below.refl _ _).drew).trans ⟨ck6, fun k e => Or.inl e, kpF⟩)
    · exact ((hrf.later (Below.refl _ _).drew).af ck5 kpF).wv rfl
  clear haf5 hP5 hrow5 KT HAF HAF5 a0 a1 a2 a3 a4 x4
  have hb1 : (way.length : Int) ≤ (cp5 : Int) := by omega
  have hb2 : way.length ≤ cp5 := by omega
  cases A with
  | ok f =>
    obtain rfl := HP5.out
    clear HP5
    go_wp2_with fail
    go_region
    go_wp2_with fail
    go_ret2
    exact ⟨_, rfl, HEND.out.1⟩
  | no er wy =>
    obtain ⟨q, rfl, hrf⟩ := HP5.out
    have HR := show Hid _ from HEND.out.2 _ _ _ hrf
    clear HP5 hrf
    go_wp2_with fail
    go_region
    go_wp2_with fail
    go_ret2
    exact ⟨_, ⟨q, rfl, HR.out⟩, HEND.out.1⟩

set_option maxRecDepth 100000 in
set_option maxHeartbeats 4000000 in
theorem checkedPart_any (w : World) {B C m n n' : Nat} {pt : Value} {g : Ty.Env} {wv sv : Value} {way : List Int} {x y : Tm} (i : Nat) (hi : i < x.sub.length) (hy : x.sub[i] = y) (h : Ck w B C m n pt g wv way) (hl : way.length + 1 ≤ 1000000) (hB : B ≤ w.heap.size) (hK : Kid w B x sv) (hx : x.sub.length ≤ 140737488351232) {A : An} (id : Int)
    (hC : ∀ (W : World) (kv wv' : Value), Below B w W → Kid W B y kv → Ck W B C m n pt g wv' (way ++ [(i : Int)]) → Calls Tryd.prog 22 #[.pointer (some ⟨C, 0, none⟩), tmV y kv, .int .i64 id] W fun r w' => ∃ wv2, ChP B w' r wv2 A ∧ Af W w' B C m n' pt g wv' wv2 (way ++ [(i : Int)])) :
    Calls Tryd.prog 56 #[.pointer (some ⟨C, 0, none⟩), tmV x sv, .int .i64 (i : Int), .int .i64 id] w fun r w' => ∃ wv2, ChP B w' r wv2 A ∧ Af w w' B C m n' pt g wv wv2 way := by
  obtain ⟨p, c, rfl, hat⟩ := hK.subs
  obtain ⟨b, o, hbl, rfl, hat2⟩ := hat (by omega)
  have HAT := show Hid (∀ W, Below B w W → ∃ kv, At5 W b (o + i * 5) y kv ∧ Kid W B y kv) from fun W hW => hy ▸ hat2 W hW i hi
  have HCC := show Hid _ from hC
  have HCK := show Hid (Ck w B C m n pt g wv way) from h
  obtain ⟨pw, cw, rfl⟩ := own_form h.row
  clear hat hat2 hK hC hy
  unfold tmV
  generalize x.sub.length = sl at *
  generalize x.k = xk at *
  generalize x.n = xn at *
  generalize x.o = xo at *
  generalize x.f = xf at *
  go_enter Tryd.func56, Tryd.ntmps56
  go_wp2_with (refine wpList_box 27 _ rfl _ rfl rfl ?_)
  intro w1 bx hn1
  have HN1 := show Hid (New w w1 bx #[.int .i64 xk, .string xn, .string xo, .int .i64 xf, .slice (some ⟨b, o, none⟩) sl c] 27) from hn1
  have HK1 := show Hid _ from h.later hn1.bel
  have c2 : w1.cell? ⟨C, 2, none⟩ = some (.slice pw way.length cw) := HK1.out.blk.cell 2
  clear hn1 h
  go_wp2_with (refine wpList_bsI rfl _ rfl _ rfl ?_)
  intro w2 q2 hn2
  have HN2 := show Hid (New w1 w2 q2 #[.int .i64 (i : Int)] 3) from hn2
  have HK2 := show Hid _ from HK1.out.later hn2.bel
  have HX2 := show Hid (Cl w2 bx _ _) from Cl.new HN1.out.blk hn2
  have hcq : w2.cell? ⟨q2, 0, none⟩ = some (.int .i64 (i : Int)) := Cl.cell hn2.blk 0
  obtain ⟨i0, hi0, hz0, hz1, hz2⟩ := info_parts infoI1
  have hB2 : B ≤ w2.heap.size := by have := HN1.out.bel.size; have := hn2.bel.size; omega
  clear hn2 c2
  go_wp2_with (at_builtin; refine wpList_append_own_at _ rfl (.tmp 14) (.tmp 16) 56 rfl B 3 i0 (.int .i64 0) 1 8 Tryd.underlying56 hi0 hz0 hz1 hz2 rfl (by decide) (.slice pw way.length cw) way.length (intsI way) rfl HK2.out.row ⟨q2, 0, none⟩ 1 1 [.int .i64 (i : Int)] rfl rfl (cell_one hcq) (by intro u hu; simp at hu; subst hu; rfl) (by unfold maxLen; omega) (by omega) hB2 ?_)
  intro v3 w3 ho3 hg3 _ hat3
  have hon : w3.ownsRow B 3 1 v3 (way.length + 1) (intsI (way ++ [(i : Int)])) := by
    have e : intsI (way ++ [(i : Int)]) = intsI way ++ [.int .i64 (i : Int)] := by simp [intsI]
    rw [e]
    exact ho3
  obtain ⟨g3, cp3, rfl, hle3, _⟩ := own_form1 hon
  have kp3 : Kp (fun k => k = C ∨ (Value.slice pw way.length cw).ownBlock = some k) w2 w3 := ⟨hg3.os, hg3.tape, hg3.output, hg3.size, fun k hk hne => hg3.block k hk fun e => hne (Or.inr e.symm)⟩
  have hC3 : Cl w3 C #[pt, .map (some m), .slice pw way.length cw] 75 := (hg3.block C HK2.out.blk.lt fun e => HK2.out.wC e.symm).trans HK2.out.blk
  have H3 := show Hid (Cl w3 C #[pt, .map (some m), .slice pw way.length cw] 75) from hC3
  have HO3 := show Hid _ from And.intro hon (And.intro kp3 hat3)
  clear hi0 hz0 hz1 hz2 hcq hg3 ho3 hat3 hon kp3 hC3
  go_wp2_with (refine wpList_stW rfl rfl _ _ rfl C rfl (some ⟨g3, 0, none⟩) (way.length + 1) cp3 rfl H3.out ?_)
  intro w4 hc4 hk4
  obtain ⟨hon, kp3, hat3⟩ := HO3.out
  have kp4 : Kp (fun k => k = C ∨ (Value.slice pw way.length cw).ownBlock = some k) w2 w4 := kp3.trans (kp_imp (S' := fun k => k = C ∨ (Value.slice pw way.length cw).ownBlock = some k) hk4 fun k e => Or.inl e) fun k e => Or.inl e
  have hck4 : Ck w4 B C m n pt g (.slice (some ⟨g3, 0, none⟩) (way.length + 1) cp3) (way ++ [(i : Int)]) :=
    HK2.out.way2 kp4 hc4 (by
      rw [List.length_append, List.length_singleton]
      refine own_kp hon fun k e => ?_
      obtain ⟨_, hlt, cur, hh⟩ := own_blk hon k e
      refine hk4.block k hlt fun e2 => ?_
      subst e2
      rw [show w3.heap[_]? = _ from H3.out] at hh
      injection hh with hh
      injection hh with _ h3 _
      exact absurd h3 (by decide))
  have haf4 : Af w w4 B C m n pt g (.slice pw way.length cw) (.slice (some ⟨g3, 0, none⟩) (way.length + 1) cp3) (way ++ [(i : Int)]) := by
    refine ⟨hck4, fun k e => ?_, ?_⟩
    · rcases hat3 with e2 | e2
      · exact Or.inl (e2 ▸ e)
      · have : k = w2.heap.size := Option.some.inj (e.symm.trans e2)
        have := HN1.out.bel.size
        have := HN2.out.bel.size
        exact Or.inr (by omega)
    · refine ((Kp.of_below HN1.out.bel).trans ((Kp.of_below HN2.out.bel).trans (kp_imp kp4 (S' := Fc C m (Value.slice pw way.length cw)) ?_) fun k e => Or.inl e) fun k e => Or.inl e)
      rintro k (e | e)
      · exact Or.inl e
      · exact Or.inr (Or.inr e)
  have hx4 : Cl w4 bx #[.int .i64 xk, .string xn, .string xo, .int .i64 xf, .slice (some ⟨b, o, none⟩) sl c] 27 :=
    (kp4.block bx HX2.out.lt (by
      rintro (e | e)
      · exact HK2.out.nf HX2.out (by decide) (by decide) (Or.inl e)
      · exact HK2.out.nf HX2.out (by decide) (by decide) (Or.inr (Or.inr e)))).trans HX2.out
  have hbB : Below B w w4 := HCK.out.below haf4.kp hB
  obtain ⟨kv, h5, hkid⟩ := HAT.out w4 hbB
  have KT := show Hid _ from HCC.out w4 kv (.slice (some ⟨g3, 0, none⟩) (way.length + 1) cp3) hbB hkid hck4
  obtain ⟨kp, kn, kc, rfl⟩ := hkid.form
  obtain ⟨a0, a1, a2, a3, a4⟩ := h5
  have x4 : w4.cell? ⟨bx, 4, none⟩ = some (.slice (some ⟨b, o, none⟩) sl c) := hx4.cell 4
  have HAF := show Hid (Af w w4 B C m n pt g (.slice pw way.length cw) (.slice (some ⟨g3, 0, none⟩) (way.length + 1) cp3) (way ++ [(i : Int)])) from haf4
  have hii : (i : Int) < (sl : Int) := by omega
  unfold tmV at KT
  generalize y.k = yk at *
  generalize y.n = yn at *
  generalize y.o = yo at *
  generalize y.f = yf at *
  clear hc4 hk4 kp4 hck4 haf4 hx4 hbB hkid hon kp3 hat3 HO3 H3 HCC HAT HK1 HK2 HN1 HN2 HX2
  go_wp2_with fail
  refine Calls.mono KT.out ?_
  rintro e w5 ⟨wv5, hP5, haf5⟩
  have hlen5 : (way ++ [(i : Int)]).length = way.length + 1 := by simp
  have hrow5 : w5.ownsRow B 3 1 wv5 (way.length + 1) (intsI (way ++ [(i : Int)])) := hlen5 ▸ haf5.ck.row
  obtain ⟨g5, cp5, rfl, hle5, hmx5⟩ := own_form1 hrow5
  have HAF5 := show Hid _ from haf5
  have HP5 := show Hid _ from hP5
  have c5 : w5.cell? ⟨C, 2, none⟩ = some (.slice (some ⟨g5, 0, none⟩) (way.length + 1) cp5) := haf5.ck.blk.cell 2
  have f5 : w5.frozen? ⟨C, 2, none⟩ = false := haf5.ck.blk.fr 2
  have HEND := show Hid (Af w (w5.drew.setCell ⟨C, 2, none⟩ (.slice (some ⟨g5, 0, none⟩) way.length cp5)) B C m n' pt g (.slice pw way.length cw) (.slice (some ⟨g5, 0, none⟩) way.length cp5) way ∧ ∀ q e wy, Rf w5 B q e wy (.slice (some ⟨g5, 0, none⟩) (way.length + 1) cp5) → Rf (w5.drew.setCell ⟨C, 2, none⟩ (.slice (some ⟨g5, 0, none⟩) way.length cp5)) B q e wy (.slice (some ⟨g5, 0, none⟩) way.length cp5)) from by
    have ck5 : Ck w5.drew B C m n' pt g (.slice (some ⟨g5, 0, none⟩) (way.length + 1) cp5) (way ++ [(i : Int)]) := haf5.ck.later (Below.refl _ _).drew
    have kpC : KpP C w5.drew (w5.drew.setCell ⟨C, 2, none⟩ (.slice (some ⟨g5, 0, none⟩) way.length cp5)) := KpP.set (Kp.refl _ _) 2 _
    have kpF : Kp (Fc C m (.slice (some ⟨g5, 0, none⟩) (way.length + 1) cp5)) w5.drew (w5.drew.setCell ⟨C, 2, none⟩ (.slice (some ⟨g5, 0, none⟩) way.length cp5)) := kp_imp kpC fun k e => Or.inl e
    have ck6 : Ck (w5.drew.setCell ⟨C, 2, none⟩ (.slice (some ⟨g5, 0, none⟩) way.length cp5)) B C m n' pt g (.slice (some ⟨g5, 0, none⟩) way.length cp5) way := by
      refine ck5.way2 (kp_imp kpC fun k e => Or.inl e) (heap_setCell_same _ C 2 _ _ _ ck5.blk) ?_
      refine own_kp (own_cut ck5.row) fun k e => ?_
      obtain ⟨_, hlt, cur, hh⟩ := own_blk ck5.row k e
      refine kpC.block k hlt fun e2 => ?_
      subst e2
      exact ck5.wC e
    refine ⟨?_, fun q e wy hrf => ?_⟩
    · refine (HAF.out.trans haf5).trans ((Af.new haf5.ck (Below.refl _ _).drew).trans ⟨ck6, fun k e => Or.inl e, kpF⟩)
    · exact ((hrf.later (Below.refl _ _).drew).af ck5 kpF).wv rfl
  clear haf5 hP5 hrow5 KT HAF HAF5 a0 a1 a2 a3 a4 x4
  have hb1 : (way.length : Int) ≤ (cp5 : Int) := by omega
  have hb2 : way.length ≤ cp5 := by omega
  cases A with
  | ok f =>
    obtain rfl := HP5.out
    clear HP5
    go_wp2_with fail
    go_region
    go_wp2_with fail
    go_ret
    exact ⟨_, rfl, HEND.out.1⟩
  | no er wy =>
    obtain ⟨q, rfl, hrf⟩ := HP5.out
    have HR := show Hid _ from HEND.out.2 _ _ _ hrf
    clear HP5 hrf
    go_wp2_with fail
    go_region
    go_wp2_with fail
    go_ret
    exact ⟨_, ⟨q, rfl, HR.out⟩, HEND.out.1⟩
end Go.Proofs.YtkpbpecikibohaaDoor.Ya
