/-
  begin: a checker, unless what is refused ahead of the rules is. The tables of shapes and of the errors' type stand.
-/
import Derived.Test.YtkpbpecikibohaaDoorYTop
import Derived.Test.YtkpbpecikibohaaDoorFBelow
import Derived.Test.YtkpbpecikibohaaDoorYPlain
namespace Go.Proofs.YtkpbpecikibohaaDoor.Ya
open Go.RowKit Go.Maps
open Fm (Nd)
open Ty (Tm An Hs env envF_snoc)
set_option linter.unusedSimpArgs false

def GoodH (l : Hs) : Prop := ∀ h ∈ l, h.1.size ≤ 140737488351232 ∧ Fm.i64 h.2
def IsH (w : World) (L : Nat) (v : Value) (l : Hs) : Prop :=
  ∃ p c, v = .slice p l.length c ∧ l.length ≤ 5864062014639 ∧ ∀ k (hk : k < l.length), ∃ b o, b < L ∧ p = some ⟨b, o, none⟩ ∧ w.cell? ⟨b, o + k * 2, none⟩ = some (.string l[k].1) ∧ w.cell? ⟨b, o + k * 2 + 1, none⟩ = some (.int .i64 l[k].2)
theorem IsH.below {w w' : World} {L : Nat} {v : Value} {l : Hs} (h : IsH w L v l) (hb : Below L w w') : IsH w' L v l := by
  obtain ⟨p, c, hv, h1, h2⟩ := h
  refine ⟨p, c, hv, h1, fun k hk => ?_⟩
  obtain ⟨b, o, hl, hp, hc, hc'⟩ := h2 k hk
  have e : ∀ j, w'.cell? ⟨b, j, none⟩ = w.cell? ⟨b, j, none⟩ := fun j => World.cell?_of_block (a := ⟨b, j, none⟩) (hb.block b hl)
  exact ⟨b, o, hl, hp, (e _).trans hc, (e _).trans hc'⟩
def Nob (w : World) (pv : Value) : Prop := ∀ w', Below w.heap.size w w' → Calls Tryd.prog 37 #[pv] w' fun e w'' => e = .returned (.bool false) ∧ w'' = w'
theorem Nob.later {w w1 : World} {pv : Value} (h : Nob w pv) (hb : Below w.heap.size w w1) : Nob w1 pv := fun w' hb' => h w' (hb.trans (hb'.mono hb.size))
theorem nob_nil (w : World) : Nob w (.pointer none) := fun w' _ => made_nil w'
theorem nob_zero (w : World) (b : Nat) (h : w.heap[b]? = some (.cells #[.slice none 0 0, .map none] 44 (0, 0))) : Nob w (.pointer (some ⟨b, 0, none⟩)) := fun w' hb => made_any w' b none (by rw [cell_of_row _ _ 1 _ _ _ ((hb.block b (lt_of_block h)).trans h)]; rfl)
set_option maxHeartbeats 400000 in
theorem below_none (w : World) {pv : Value} (h : Nob w pv) (x : Int) :
    Calls Tryd.prog 45 #[pv, .int .i64 x] w fun e w' => e = .returned (.tuple #[.slice none 0 0, .int .i64 1]) ∧ w' = w := by
  have K := show Hid (Calls Tryd.prog 37 #[pv] w fun e w'' => e = .returned (.bool false) ∧ w'' = w) from h w (Below.refl _ _)
  clear h
  go_enter Tryd.func45, Tryd.ntmps45
  go_wp2_with fail
  refine K.out.mono ?_
  rintro e w1 ⟨rfl, hw⟩
  subst w1
  go_wp2_with fail
  go_ret2
  exact ⟨rfl, rfl⟩
theorem madeT_any (w : World) {b mt : Nat} {v : Value} {t : List Nd} (hT : Tb w b mt v t) :
    Calls Tryd.prog 23 #[.pointer (some ⟨b, 0, none⟩)] w fun e w' => e = .returned (.bool true) ∧ Below w.heap.size w w' := by
  have K := show Hid _ from below_any w hT (-1)
  have h2 : (belowR t (-1)).2 = 31 := by
    unfold belowR
    rw [if_neg (by simp [Fm.has])]
  clear hT
  go_enter Tryd.func23, Tryd.ntmps23
  go_wp2_with fail
  refine Calls.mono K.out ?_
  rintro e w1 ⟨v', rfl, _, hb⟩
  rw [h2]
  have HB := show Hid _ from hb
  clear hb K h2
  go_wp2_with fail
  go_ret
  exact ⟨rfl, HB.out⟩
theorem madeT_none (w : World) {pv : Value} (h : Nob w pv) :
    Calls Tryd.prog 23 #[pv] w fun e w' => e = .returned (.bool false) ∧ Below w.heap.size w w' := by
  have K := show Hid _ from below_none w h (-1)
  clear h
  go_enter Tryd.func23, Tryd.ntmps23
  go_wp2_with fail
  refine Calls.mono K.out ?_
  rintro e w1 ⟨rfl, hw⟩
  subst w1
  clear K
  go_wp2_with fail
  go_ret
  exact ⟨rfl, Below.refl _ _⟩
theorem buildCk (w : World) (pt : Option Addr) (m : Nat) : (Instr.build 75 #[(0, .pointer pt), (1, .map (some m))]).run Tryd.prog w = .ok (.agg #[.pointer pt, .map (some m), .slice none 0 0]) w := by kernel_rfl
theorem makeMapS (w : World) : (Instr.makeMap 73 none).run Tryd.prog w = .ok (.map (some w.heap.size)) (w.alloc (.map #[] 0)) := by kernel_rfl
def BgP (w' : World) (r : Ending) (B n : Nat) (pt : Value) (g : Ty.Env) (e : Int) : Prop :=
  (e ≠ 0 → ∃ q, r = .returned (.tuple #[.pointer none, .iface 80 (.pointer (some ⟨q, 0, none⟩))]) ∧ Rf w' B q e [] (.slice none 0 0)) ∧
  (e = 0 → ∃ C m, r = .returned (.tuple #[.pointer (some ⟨C, 0, none⟩), .nilIface]) ∧ Ck w' B C m n pt g (.slice none 0 0) [])
set_option maxRecDepth 100000 in
set_option maxHeartbeats 2000000 in
theorem begin_none (w : World) {B : Nat} {q0 : Option Addr} {hv fv sv : Value} {x : Tm} (hN : Nob w (.pointer q0)) (hK : ∃ p n c, sv = .slice p n c) (hB : B ≤ w.heap.size) :
    Calls Tryd.prog 16 #[.pointer q0, hv, tmV x sv, fv] w fun r w' => BgP w' r B 0 (.pointer q0) (fun _ => none) 1 ∧ Below w.heap.size w w' := by
  obtain ⟨p, n, c, rfl⟩ := hK
  have HN := show Hid (Nob w (.pointer q0)) from hN
  unfold tmV
  generalize x.k = xk at *
  generalize x.n = xn at *
  generalize x.o = xo at *
  generalize x.f = xf at *
  clear hN
  have hbk := buildCk
  have hmk := makeMapS
  go_enter Tryd.func16, Tryd.ntmps16
  go_wp2_with (refine wpList_box 27 _ rfl _ rfl rfl ?_)
  intro w1 bx hn1
  have HN1 := show Hid _ from hn1
  clear hn1
  go_wp2_with (refine wpList_box 75 _ rfl _ rfl rfl ?_)
  intro w3 C hn3
  have hm1 : Below w1.heap.size w1 (w1.alloc (.map #[] 0)) := below_alloc _ _
  have hb3 : Below w.heap.size w w3 := (HN1.out.bel.trans (hm1.mono HN1.out.bel.size)).trans (hn3.bel.mono (Nat.le_trans HN1.out.bel.size hm1.size))
  have hck : Ck w3 B C w1.heap.size 0 (.pointer q0) (fun _ => none) (.slice none 0 0) [] := ⟨hn3.blk, (mz_made w1).later hn3.bel, ⟨rfl, Or.inl ⟨rfl, rfl⟩⟩, by have := hn3.ge; have := hm1.size; have := HN1.out.bel.size; omega, by have := HN1.out.bel.size; omega⟩
  have KM := show Hid _ from madeT_none w3 (HN.out.later hb3)
  have KR := show Hid (∀ W, Below w3.heap.size w3 W → _) from fun W hW => refuse_any W (hck.later hW) (Nat.zero_le _) (Nat.le_trans hB (Nat.le_trans hb3.size hW.size)) 1
  have HB3 := show Hid _ from hb3
  clear hn3 hm1 hb3 hck HN HN1
  go_wp2_with fail
  refine Calls.mono KM.out ?_
  rintro e w4 ⟨rfl, hb4⟩
  have KR4 := show Hid _ from KR.out w4 hb4
  have HB4 := show Hid (Below w.heap.size w w4) from HB3.out.trans (hb4.mono HB3.out.size)
  clear hb4 KM KR
  go_wp2_with fail
  refine Calls.mono KR4.out ?_
  rintro e w5 ⟨q, rfl, hrf, hb5⟩
  have HF := show Hid _ from And.intro hrf (HB4.out.trans (hb5.mono HB4.out.size))
  clear hrf hb5 KR4
  go_wp2_with fail
  go_ret2
  exact ⟨⟨fun _ => ⟨q, rfl, HF.out.1⟩, fun h => absurd h (by decide)⟩, HF.out.2⟩
theorem zeroHyp (w : World) : (zeroValue 29).run Tryd.prog w = .ok (.agg #[.string ⟨#[]⟩, .int .i64 0]) w := by kernel_rfl
theorem sizeHyp : (Tryd.prog.info? 29).map (·.size) = some 2 := by kernel_rfl
theorem hyp_all (s : ByteArray) (f : Int) : (#[.string s, .int .i64 f] : Array Value).all (·.oneCell') = true := by simp [Value.oneCell']
structure Lb (w W : World) (B C m bx j : Nat) (pt : Value) (hs : Hs) (l0 : List Int) (f0 fv : Value) (xc : Array Value) : Prop where
  ck : Ck W B C m j pt (env (hs.take j)) (.slice none 0 0) []
  ro : W.ownsRow B 3 1 fv (l0 ++ (hs.take j).map (·.2)).length (intsI (l0 ++ (hs.take j).map (·.2)))
  bx : Cl W bx xc 27
  be : Below B w W
  ge : B ≤ W.heap.size
  kp : Kp (fun k => f0.ownBlock = some k) w W
  li : Lies w.heap.size f0 fv
theorem Lb.later {w W W' : World} {B C m bx j : Nat} {pt : Value} {hs : Hs} {l0 : List Int} {f0 fv : Value} {xc : Array Value} (h : Lb w W B C m bx j pt hs l0 f0 fv xc) (hb : Below W.heap.size W W') : Lb w W' B C m bx j pt hs l0 f0 fv xc :=
  ⟨h.ck.later hb, own_kp h.ro fun k e => hb.block k (own_blk h.ro k e).2.1, h.bx.later hb, h.be.trans (hb.mono h.ge), Nat.le_trans h.ge hb.size, h.kp.trans (Kp.of_below (S := fun _ => False) hb) (fun _ e => e.elim), h.li⟩
theorem kp_drew {S : Nat → Prop} {w w' : World} (h : Kp S w.drew w') : Kp S w w' := (Kp.of_below (S := S) (Below.refl w.heap.size w).drew).trans h fun _ e => Or.inl e
theorem Lb.grow {w W W' : World} {B C m bx j n : Nat} {pt : Value} {hs : Hs} {l0 : List Int} {f0 fv : Value} {xc : Array Value} {xs : List Value} (h : Lb w W B C m bx j pt hs l0 f0 fv xc) (hr : W.ownsRow B 3 1 fv n xs) (hg : W.grownBy W' fv.ownBlock) :
    Ck W' B C m j pt (env (hs.take j)) (.slice none 0 0) [] ∧ Cl W' bx xc 27 ∧ Below B w W' ∧ B ≤ W'.heap.size ∧ Kp (fun k => f0.ownBlock = some k) w W' ∧ ∀ {k : Nat} {cs : Array Value} {T : TypeId}, Cl W k cs T → T ≠ 3 → Cl W' k cs T := by
  have nm : ∀ {k : Nat} {cs : Array Value} {T : TypeId}, Cl W k cs T → T ≠ 3 → Cl W' k cs T := fun {k cs T} hc hT => (hg.block k hc.lt fun e => by
    obtain ⟨_, _, cur, hh⟩ := own_blk hr k e.symm
    rw [show W.heap[k]? = _ from hc] at hh
    injection hh with hh
    injection hh with _ h3 _
    exact hT h3).trans hc
  refine ⟨⟨nm h.ck.blk (by decide), h.ck.map.keep (hg.block m h.ck.map.lt fun e => by
    obtain ⟨_, _, cur, hh⟩ := own_blk hr m e.symm
    exact h.ck.mne (show Cl W m cur _ from hh) rfl), ⟨rfl, Or.inl ⟨rfl, rfl⟩⟩, h.ck.cB, h.ck.mB⟩, nm h.bx (by decide), h.be.trans ⟨hg.os, hg.tape, hg.output, hg.size, fun k hk => hg.block k (Nat.lt_of_lt_of_le hk h.ge) fun e => ?_⟩, Nat.le_trans h.ge hg.size, h.kp.trans (S' := fun k => fv.ownBlock = some k) ⟨hg.os, hg.tape, hg.output, hg.size, fun k hk hne => hg.block k hk fun e => hne e.symm⟩ (fun k e => h.li k e), nm⟩
  have := (own_blk hr k e.symm).1
  omega
set_option maxRecDepth 100000 in
set_option maxHeartbeats 8000000 in
theorem begin_any (w : World) {B b mt : Nat} {v : Value} {t : List Nd} {hv fv sv : Value} {hs : Hs} {l0 : List Int} {x : Tm} (hT : TbB w B b mt v t) (hH : IsH w B hv hs) (hG : GoodH hs) (hK : Kid w B x sv) (hX : Gt x) (hB : B ≤ w.heap.size) (hF : w.ownsRow B 3 1 fv l0.length (intsI l0)) (hl0 : l0.length ≤ 1) (hS : Shp w) (hSB : 1 < B) :
    Calls Tryd.prog 16 #[.pointer (some ⟨b, 0, none⟩), hv, tmV x sv, fv] w fun r w' => BgP w' r B hs.length (.pointer (some ⟨b, 0, none⟩)) (env hs) (if (l0 ++ hs.map (·.2)).any (fun i => !Fm.has t i) then 31 else Ty.checkF x) ∧ Kp (fun k => fv.ownBlock = some k) w w' := by
  have hlen := hH.choose_spec.choose_spec.2.1
  have HH := show Hid (∀ W, Below B w W → IsH W B hv hs) from fun W hW => hH.below hW
  have HT := show Hid (TbB w B b mt v t) from hT
  have HGH := show Hid (GoodH hs) from hG
  have KCH := show Hid (∀ W, Below B w W → B ≤ W.heap.size → Calls Tryd.prog 27 #[tmV x sv] W fun e w' => e = .returned (.int .i64 (Ty.checkF x)) ∧ Below W.heap.size W w') from fun W hW hb => checkT_any x W B sv (hK.below hW) hX hb (hS.later hW hSB)
  obtain ⟨p, n, c, rfl⟩ := hK.form
  obtain ⟨hp, hc, rfl, _, hat⟩ := hH
  have HAT := show Hid (∀ W, Below B w W → ∀ k (hk : k < hs.length), ∃ bb o, hp = some ⟨bb, o, none⟩ ∧ W.cell? ⟨bb, o + k * 2, none⟩ = some (.string hs[k].1) ∧ W.cell? ⟨bb, o + k * 2 + 1, none⟩ = some (.int .i64 hs[k].2)) from fun W hW k hk => by
    obtain ⟨_, _, hv2, _, h4⟩ := HH.out W hW
    obtain ⟨rfl, _, _⟩ := Value.slice.inj hv2
    obtain ⟨bb, o, _, hp2, hc1, hc2⟩ := h4 k hk
    exact ⟨bb, o, hp2, hc1, hc2⟩
  generalize hans : (if (l0 ++ hs.map (·.2)).any (fun i => !Fm.has t i) then (31 : Int) else Ty.checkF x) = ans
  have HANS := show Hid _ from hans
  clear hans hK hX hS hT hG hat HH
  unfold tmV at KCH ⊢
  generalize x.k = xk at *
  generalize x.n = xn at *
  generalize x.o = xo at *
  generalize x.f = xf at *
  generalize Ty.checkF x = cx at *
  have HF := show Hid _ from hF
  obtain ⟨pf, cf, rfl⟩ := own_form hF
  clear hF
  have hbk := buildCk
  have hmk := makeMapS
  go_enter Tryd.func16, Tryd.ntmps16
  go_wp2_with (refine wpList_box 27 _ rfl _ rfl rfl ?_)
  intro w1 bx hn1
  have HN1 := show Hid _ from hn1
  clear hn1
  go_wp2_with (refine wpList_box 75 _ rfl _ rfl rfl ?_)
  intro w3 C hn3
  have hm1 : Below w1.heap.size w1 (w1.alloc (.map #[] 0)) := below_alloc _ _
  have hb3 : Below w.heap.size w w3 := (HN1.out.bel.trans (hm1.mono HN1.out.bel.size)).trans (hn3.bel.mono (Nat.le_trans HN1.out.bel.size hm1.size))
  have hck : Ck w3 B C w1.heap.size 0 (.pointer (some ⟨b, 0, none⟩)) (fun _ => none) (.slice none 0 0) [] := ⟨hn3.blk, (mz_made w1).later hn3.bel, ⟨rfl, Or.inl ⟨rfl, rfl⟩⟩, by have := hn3.ge; have := hm1.size; have := HN1.out.bel.size; omega, by have := HN1.out.bel.size; omega⟩
  have hx3 : Cl w3 bx #[.int .i64 xk, .string xn, .string xo, .int .i64 xf, .slice p n c] 27 := ((show Cl w1 bx _ _ from HN1.out.blk).later hm1).later hn3.bel
  have HL3 := show Hid (Lb w w3 B C w1.heap.size bx 0 (.pointer (some ⟨b, 0, none⟩)) hs l0 (.slice pf l0.length cf) (.slice pf l0.length cf) #[.int .i64 xk, .string xn, .string xo, .int .i64 xf, .slice p n c]) from
    ⟨hck, by simpa using own_kp HF.out fun k e => hb3.block k (own_blk HF.out k e).2.1, hx3, hb3.mono hB, Nat.le_trans hB hb3.size, Kp.of_below hb3, fun k e => Or.inl e⟩
  have KM := show Hid _ from madeT_any w3 (HT.out.later (hb3.mono hB)).here
  have HW1 := show Hid (w.heap.size ≤ w1.heap.size) from HN1.out.bel.size
  clear hn3 hm1 hb3 hck hx3 HN1 HF
  have HMG := show Hid (w.heap.size ≤ w1.heap.size) from HW1.out
  clear HW1
  generalize w1.heap.size = m at *
  go_wp2_with fail
  refine Calls.mono KM.out ?_
  rintro e w4 ⟨rfl, hb4⟩
  have HL4 := show Hid _ from HL3.out.later hb4
  clear hb4 KM HL3
  go_wp2_with fail
  go_loopw [3, 12, 25] (fun fv _ i wr => ∃ j : Nat, j ≤ hs.length ∧ i = .int .i64 (j : Int) ∧ Hid (Lb w wr B C m bx j (.pointer (some ⟨b, 0, none⟩)) hs l0 (.slice pf l0.length cf) fv #[.int .i64 xk, .string xn, .string xo, .int .i64 xf, .slice p n c])) (fun _ _ i _ => hs.length - (intOf i).toNat)
  case atStart => exact ⟨0, Nat.zero_le _, rfl, HL4⟩
  case round =>
    obtain ⟨j, hj, rfl, HL⟩ := hrel
    clear HL4
    by_cases hlt : j < hs.length
    · obtain ⟨bb, o, rfl, a0, a1⟩ := HAT.out wr HL.out.be j hlt
      have hgh := HGH.out _ (List.getElem_mem hlt)
      have htk : hs.take (j + 1) = hs.take j ++ [hs[j]] := (List.take_append_getElem hlt).symm
      have HTK := show Hid _ from htk
      generalize hs[j] = hh at *
      obtain ⟨hnm, hfo⟩ := hh
      simp only at a0 a1
      have hji : (j : Int) < (hs.length : Int) := by omega
      have HGN := show Hid _ from hgh
      clear hgh htk
      go_wp2_with (refine wpList_alloc 29 rfl _ zeroHyp rfl ?_)
      intro wa bh hna
      go_wp2_with (refine wpList_st 29 rfl rfl _ _ rfl bh rfl _ rfl _ _ hna.blk sizeHyp rfl (hyp_all hnm hfo) ?_)
      intro wb hcb hkb
      have hbb : Below wr.heap.size wr wb := bel_kp hna.bel hkb hna.ge
      have HLb := show Hid (Lb w wb B C m bx j (.pointer (some ⟨b, 0, none⟩)) hs l0 (.slice pf l0.length cf) _ #[.int .i64 xk, .string xn, .string xo, .int .i64 xf, .slice p n c]) from HL.out.later hbb
      obtain ⟨ll, hll⟩ : ∃ ll, ll = l0 ++ (hs.take j).map (·.2) := ⟨_, rfl⟩
      have hro := HL.out.ro
      rw [← hll] at hro
      obtain ⟨pg, cg, rfl⟩ := own_form hro
      have hlm : ll.length ≤ 6000000000000 := by rw [hll]; simp; omega
      have HLL := show Hid _ from hll
      clear hro hll
      have HCb := show Hid (Cl wb bh #[.string hnm, .int .i64 hfo] 29) from hcb
      have q1 : wb.cell? ⟨bh, 1, none⟩ = some (.int .i64 hfo) := hcb.cell 1
      clear hna hcb hkb hbb a0 a1 HL
      go_wp2_with (refine wpList_bsI rfl _ rfl _ rfl ?_)
      intro wc qc hnc
      have HLc := show Hid (Lb w wc B C m bx j (.pointer (some ⟨b, 0, none⟩)) hs l0 (.slice pf l0.length cf) _ #[.int .i64 xk, .string xn, .string xo, .int .i64 xf, .slice p n c]) from HLb.out.later hnc.bel
      have HCc := show Hid (Cl wc bh #[.string hnm, .int .i64 hfo] 29) from HCb.out.new hnc
      have hcq : wc.cell? ⟨qc, 0, none⟩ = some (.int .i64 hfo) := Cl.cell hnc.blk 0
      obtain ⟨i0, hi0, hz0, hz1, hz2⟩ := info_parts infoI1
      have hgeC := HLc.out.ge
      have hroC := HLc.out.ro
      rw [← HLL.out] at hroC
      clear hnc q1 HLb HCb
      go_wp2_with (at_builtin; refine wpList_append_own_at _ rfl (.tmp 29) (.tmp 32) 56 rfl B 3 i0 (.int .i64 0) 1 8 Tryd.underlying56 hi0 hz0 hz1 hz2 rfl (by decide) (.slice pg ll.length cg) ll.length (intsI ll) rfl hroC ⟨qc, 0, none⟩ 1 1 [.int .i64 hfo] rfl rfl (cell_one hcq) (by intro u hu; simp at hu; subst hu; rfl) (by unfold maxLen; omega) (by omega) hgeC ?_)
      intro v3 wd ho3 hg3 _ hat3
      obtain ⟨ckd, bxd, bed, ged, kpd, nmd⟩ := HLc.out.grow hroC hg3
      have hcd : Cl wd bh #[.string hnm, .int .i64 hfo] 29 := nmd HCc.out (by decide)
      have ckd2 : Ck wd.drew B C m j (.pointer (some ⟨b, 0, none⟩)) (env (hs.take j)) (.slice none 0 0) [] := ckd.later (Below.refl _ _).drew
      have d0 : wd.cell? ⟨bh, 0, none⟩ = some (.string hnm) := hcd.cell 0
      have d1 : wd.cell? ⟨bh, 1, none⟩ = some (.int .i64 hfo) := hcd.cell 1
      have e1 : wd.cell? ⟨C, 1, none⟩ = some (.map (some m)) := ckd.blk.cell 1
      obtain ⟨we, hup, hMe, hke⟩ := ckd2.map.put (by unfold maxLen; omega) HGN.out.1 hfo
      have nme : ∀ {k : Nat} {cs : Array Value} {T : TypeId}, Cl wd k cs T → Cl we k cs T := fun hb => (hke.block _ (show _ < wd.drew.heap.size from hb.lt) (ckd2.mne hb.drew)).trans hb
      have hle : (l0 ++ (hs.take (j + 1)).map (·.2)) = ll ++ [hfo] := by rw [HTK.out, HLL.out, List.map_append, ← List.append_assoc]; rfl
      have HLE := show Hid (Lb w we B C m bx (j + 1) (.pointer (some ⟨b, 0, none⟩)) hs l0 (.slice pf l0.length cf) v3 #[.int .i64 xk, .string xn, .string xo, .int .i64 xf, .slice p n c]) from by
        have hr3 : wd.drew.ownsRow B 3 1 v3 (ll ++ [hfo]).length (intsI (ll ++ [hfo])) := by
          have e : intsI (ll ++ [hfo]) = intsI ll ++ [.int .i64 hfo] := by simp [intsI]
          rw [e, List.length_append]
          exact ho3
        have henv : env (hs.take (j + 1)) = Ty.upd (env (hs.take j)) hnm hfo := by rw [HTK.out]; exact envF_snoc _ _ _
        refine ⟨⟨nme ckd.blk, ?_, ⟨rfl, Or.inl ⟨rfl, rfl⟩⟩, ckd.cB, ckd.mB⟩, ?_, nme bxd, bed.trans ⟨hke.os, hke.tape, hke.output, hke.size, fun k hk => hke.block k (Nat.lt_of_lt_of_le hk ged) fun e => ?_⟩, Nat.le_trans ged hke.size, kpd.trans (S' := fun k => k = m) (kp_drew hke) (fun k e => Or.inr ?_), fun k e => ?_⟩
        · rw [henv]
          exact hMe
        · rw [hle]
          exact own_kp hr3 fun k e => hke.block k (own_blk hr3 k e).2.1 fun e2 => by
            obtain ⟨_, _, cur, hh⟩ := own_blk hr3 k e
            exact ckd2.mne (show Cl wd.drew k cur _ from hh) e2
        · have := ckd.mB
          omega
        · subst e
          exact HMG.out
        · rcases hat3 with e2 | e2
          · exact HLc.out.li k (e2 ▸ e)
          · have h1 : k = wc.heap.size := Option.some.inj (e.symm.trans e2)
            have := HLc.out.kp.size
            exact Or.inr (by omega)
      clear ho3 hg3 hat3 ckd bxd bed ged kpd nmd hcd ckd2 hMe hke nme hle hroC HLc HCc hcq hi0 hz0 hz1 hz2
      go_wp2_with fail
      go_region
      clear hup d0 d1 e1
      go_wp2_with fail
      go_roundw
      case rel => exact ⟨j + 1, by omega, by go_num, HLE⟩
      case measure => first | (simp [intOf]; done) | (simp [intOf]; omega)
    · have hje : j = hs.length := by omega
      subst hje
      have hji : ¬ (hs.length : Int) < (hs.length : Int) := by omega
      obtain ⟨hck, hro, hbx, hbe, hge, hkp, _⟩ := HL.out
      rw [List.take_length] at hck hro
      obtain ⟨ll, hll⟩ : ∃ ll, ll = l0 ++ hs.map (·.2) := ⟨_, rfl⟩
      have hans := HANS.out
      rw [← hll] at hro hans
      have hlm : ll.length ≤ 6000000000000 := by rw [hll]; simp; omega
      have HK0 := show Hid (∀ W, Below wr.heap.size wr W → Ck W B C m hs.length (.pointer (some ⟨b, 0, none⟩)) (env hs) (.slice none 0 0) []) from fun W hW => hck.later hW
      have HX0 := show Hid (∀ W, Below wr.heap.size wr W → Cl W bx #[.int .i64 xk, .string xn, .string xo, .int .i64 xf, .slice p n c] 27) from fun W hW => hbx.later hW
      have HB0 := show Hid (∀ W, Below wr.heap.size wr W → Below B w W ∧ B ≤ W.heap.size) from fun W hW => ⟨hbe.trans (hW.mono hge), Nat.le_trans hge hW.size⟩
      have HKP := show Hid (∀ W, Below wr.heap.size wr W → Kp (fun k => (Value.slice pf l0.length cf).ownBlock = some k) w W) from fun W hW => hkp.trans (Kp.of_below (S := fun _ => False) hW) (fun _ e => e.elim)
      have hin := own_in hro (by omega)
      have KL := show Hid _ from contains_any wr hin C (fun i => !Fm.has t i) (fun W hW i => lacks_any W (hck.later hW) (HT.out.later (hbe.trans (hW.mono hge))).here i)
      obtain ⟨pg, cg, rfl⟩ := own_form hro
      generalize ll.any (fun i => !Fm.has t i) = bad at *
      have HAN := show Hid ((if bad = true then 31 else cx) = ans) from hans
      have hmf : ∀ (fn : Fn) (first cap : Array Value) (w : World), (Instr.makeFunc fn first cap).run Tryd.prog w = .ok (.func fn first cap) w := fun _ _ _ _ => rfl
      clear hck hro hbx hbe hge hin hkp HL HAT hll hans HANS
      go_wp2_with fail
      refine Calls.mono KL.out ?_
      rintro e w5 ⟨rfl, hb5⟩
      have HB5 := show Hid (Below wr.heap.size wr w5) from hb5
      clear hb5 KL hmf
      cases bad with
      | true =>
        have KR := show Hid _ from refuse_any w5 (HK0.out w5 HB5.out) (Nat.zero_le _) (HB0.out w5 HB5.out).2 31
        obtain rfl : 31 = ans := HAN.out
        clear HAN
        go_wp2_with fail
        refine Calls.mono KR.out ?_
        rintro e w6 ⟨q, rfl, hrf, hb6⟩
        have HE := show Hid _ from And.intro hrf (HKP.out w6 (HB5.out.trans (hb6.mono HB5.out.size)))
        clear hrf hb6 KR
        go_wp2_with fail
        go_ret2
        exact ⟨⟨fun _ => ⟨q, rfl, HE.out.1⟩, fun h => absurd h (by decide)⟩, HE.out.2⟩
      | false =>
        obtain rfl : cx = ans := HAN.out
        have hx5 := HX0.out w5 HB5.out
        have x0 : w5.cell? ⟨bx, 0, none⟩ = some (.int .i64 xk) := hx5.cell 0
        have x1 : w5.cell? ⟨bx, 1, none⟩ = some (.string xn) := hx5.cell 1
        have x2 : w5.cell? ⟨bx, 2, none⟩ = some (.string xo) := hx5.cell 2
        have x3 : w5.cell? ⟨bx, 3, none⟩ = some (.int .i64 xf) := hx5.cell 3
        have x4 : w5.cell? ⟨bx, 4, none⟩ = some (.slice p n c) := hx5.cell 4
        have KC5 := show Hid _ from KCH.out w5 (HB0.out w5 HB5.out).1 (HB0.out w5 HB5.out).2
        clear HAN hx5
        go_wp2_with fail
        refine Calls.mono KC5.out ?_
        rintro e w6 ⟨rfl, hb6⟩
        have HB6 := show Hid (Below wr.heap.size wr w6) from HB5.out.trans (hb6.mono HB5.out.size)
        clear hb6 KC5 x0 x1 x2 x3 x4
        by_cases hcx : cx = 0
        · have hcb : (cx != 0) = false := by simpa using hcx
          have HCX := show Hid (cx = 0) from hcx
          clear hcx
          go_wp2_with fail
          go_ret2
          exact ⟨⟨fun h => absurd HCX.out h, fun _ => ⟨C, m, rfl, HK0.out w6 HB6.out⟩⟩, HKP.out w6 HB6.out⟩
        · have hcb : (cx != 0) = true := by simpa using hcx
          have KR := show Hid _ from refuse_any w6 (HK0.out w6 HB6.out) (Nat.zero_le _) (HB0.out w6 HB6.out).2 cx
          have HCX := show Hid (cx ≠ 0) from hcx
          clear hcx
          go_wp2_with fail
          refine Calls.mono KR.out ?_
          rintro e w7 ⟨q, rfl, hrf, hb7⟩
          have HE := show Hid _ from And.intro hrf (HKP.out w7 (HB6.out.trans (hb7.mono HB6.out.size)))
          clear hrf hb7 KR
          go_wp2_with fail
          go_ret2
          exact ⟨⟨fun _ => ⟨q, rfl, HE.out.1⟩, fun h => absurd h HCX.out⟩, HE.out.2⟩
end Go.Proofs.YtkpbpecikibohaaDoor.Ya
