/-
  In a law of layer 9: the boxed sequent, the two tables. No condition.
-/
import Derived.Test.YtkejippimkjjaaaDoorKG8
import Derived.Test.YtkejippimkjjaaaDoorZG4
import Derived.Test.YtkejippimkjjaaaDoorRG1
import Derived.Test.YtkejippimkjjaaaDoorZT1
namespace Go.Proofs.YtkejippimkjjaaaDoor
open Go.RowKit Go.Shelf Go.Maps
open Fm (Nd)
open Bt.Bs (Ok wd)
set_option linter.unusedSimpArgs false

structure LX (w w1 W : World) (b5 B M : Nat) (v : Value) (C : Nat) (u : Value) (t t2 : List Nd) (r : List Nat) (g : Int) : Prop where
  pr : Pair w1 W B M v C u t t2
  s : SeqAt W b5 r g
  b1 : Below w.heap.size w w1
theorem LX.bel {w w1 W : World} {b5 B M C : Nat} {v u : Value} {t t2 : List Nd} {r : List Nat} {g : Int} (h : LX w w1 W b5 B M v C u t t2 r g) : Below w.heap.size w W := h.b1.trans (h.pr.bel.mono h.b1.size)
theorem LX.later {w w1 W W' : World} {b5 B M C : Nat} {v u : Value} {t t2 : List Nd} {r : List Nat} {g : Int} (h : LX w w1 W b5 B M v C u t t2 r g) (hb : Below W.heap.size W W') : LX w w1 W' b5 B M v C u t t2 r g := ⟨h.pr.later hb, h.s.later hb h.s.lt, h.b1⟩
theorem LX.mk1 {w w1 W : World} {b5 B M C : Nat} {v u : Value} {t t2 : List Nd} {r : List Nat} {g : Int} (h : RS1 w w1 b5 r g) (hp : Pair w1 W B M v C u t t2) : LX w w1 W b5 B M v C u t t2 r g := ⟨hp, h.s.later hp.bel h.s.lt, h.bel⟩
end Go.Proofs.YtkejippimkjjaaaDoor
/-
  The laws' calls told and with of layer 11; what told tells is true. No other condition than that the table of TrailingZeros stands.
-/
namespace Go.Proofs.YtkejippimkjjaaaDoor
open Go.RowKit Go.Shelf Go.Maps
open Fm (Nd)
open Bt.Bs (Ok wd)
set_option linter.unusedSimpArgs false

def tellF (t : List Nd) (s : SQ) : Int := if (runF t s 4096).err ≠ 0 then -1 else if (runF t s 4096).pv = true then 1 else 0
def tellT (t : List Nd) (s : SQ) : List Nd := (runF t s 4096).t
set_option maxRecDepth 100000 in
set_option maxHeartbeats 4000000 in
theorem told_any (w : World) {b m : Nat} {v : Value} {t : List Nd} (hT : Tb w b m v t) (hZ : Bt.Tz w) {s : SQ} (hr : Ok s.1) :
    Calls Tryd.prog 13 #[.pointer (some ⟨b, 0, none⟩), .agg (cellsQ s.1 s.2)] w fun e w' => e = .returned (.int .i64 (tellF t s)) ∧ After w b m v (tellT t s) w' := by
  have hl := hr.1
  have KR := show Hid (∀ W : World, Below w.heap.size w W → Calls Tryd.prog 10 #[.pointer (some ⟨b, 0, none⟩), .agg (cellsQ s.1 s.2), .int .i64 4096] W fun e w' => ∃ sv, e = .returned (.tuple #[.agg (fndC (runF t s 4096).pv sv (runF t s 4096).vs), .int .i64 (runF t s 4096).err]) ∧ (∃ kvs, Sts w' W.heap.size sv (runF t s 4096).st kvs) ∧ After w b m v (runF t s 4096).t w') from fun W h => (run_any W (hT.later h) (Bt.tz_block hZ h) hr 4096).mono fun e w' ⟨sv, h1, h2, h3⟩ => ⟨sv, h1, h2, h3.from_below h⟩
  have HE := show Hid (tellF t s = if (runF t s 4096).err ≠ 0 then -1 else if (runF t s 4096).pv = true then 1 else 0) from rfl
  have HT := show Hid (tellT t s = (runF t s 4096).t) from rfl
  generalize tellF t s = X at *
  generalize tellT t s = Y at *
  generalize runF t s 4096 = F at *
  clear hT hZ
  go_enter Tryd.func13, Tryd.ntmps13
  go_wp2_with (refine wpList_box 27 _ rfl _ rfl rfl ?_)
  intro w1 b3 hn1
  have K1 := show Hid _ from KR.out w1 hn1.bel
  have H1 := show Hid (SeqAt w1 b3 s.1 s.2) from hn1.blk
  clear hn1 KR
  go_wp2_with (refine wpList_ldQQ _ _ rfl b3 rfl H1.out hl rfl ?_)
  refine Calls.mono K1.out ?_
  rintro e w2 ⟨sv, rfl, ⟨kvs, hS⟩, hA⟩
  obtain ⟨p, c, rfl⟩ := hS.form
  obtain rfl := HT.out
  clear HT H1 K1 hS
  go_wp2_with (refine wpList_alloc 35 rfl _ zeroFnd rfl ?_)
  intro w3 b5 hn3
  go_wp2_with (refine wpList_st 35 rfl rfl _ _ rfl b5 rfl _ rfl _ _ hn3.blk (by rw [sizeF]; rfl) rfl (fndC_all ..) ?_)
  intro w4 hc4 hk4
  have hA4 : After w b m v F.t w4 := by
    obtain ⟨v2, hT2, hL2, hK2⟩ := hA
    have hb : Below w2.heap.size w2 w4 := bel_kp hn3.bel hk4 hn3.ge
    exact ⟨v2, hT2.later hb, hL2, hK2.trans (Kp.of_below (S := fun _ => False) hb) (fun _ h => h.elim)⟩
  clear hA hn3 hk4
  by_cases he : F.err = 0
  · have heb : (F.err != 0) = false := by rw [he]; rfl
    have c0 : w4.cell? ⟨b5, 0, none⟩ = some (.bool F.pv) := hc4.cell 0
    have hX := HE.out
    rw [if_neg (by rw [he]; simp)] at hX
    clear HE hc4
    have HA4 := show Hid _ from hA4
    clear hA4
    cases hp : F.pv
    · rw [hp] at hX c0
      rw [if_neg Bool.false_ne_true] at hX
      subst hX
      go_wp2_with fail
      go_ret
      exact ⟨rfl, HA4.out⟩
    · rw [hp] at hX c0
      rw [if_pos rfl] at hX
      subst hX
      go_wp2_with fail
      go_ret
      exact ⟨rfl, HA4.out⟩
  · have heb : (F.err != 0) = true := by simpa using he
    have hX := HE.out
    rw [if_pos he] at hX
    subst hX
    clear HE hc4
    have HA4 := show Hid _ from hA4
    clear hA4
    go_wp2_with fail
    go_ret
    exact ⟨rfl, HA4.out⟩
theorem zeroBK (w : World) : (zeroValue 25).run Tryd.prog w = .ok (.agg (Bt.cellsB Bt.Bs.zero)) w := by kernel_rfl
theorem results_seq {fn : Func} {p q : Tmp} (h : fn.results = #[.cell p 27, .tmp q]) (tmps : Array Value) (w : World) (b : Nat) {r : List Nat} {g : Int} (hp : tmps.getD p undef = .pointer (some ⟨b, 0, none⟩)) (hc : SeqAt w b r g) (hs : r.length = 16) :
    (results fn tmps).run Tryd.prog w = .ok (.tuple #[.agg (cellsQ r g), tmps.getD q undef]) w := by
  rw [_root_.Go.results_cell_tmp h, hp]
  simp [asAddr, run_loadVar_row w b 27 27 (cellsQ r g) (0, 0) _ hc Tryd.underlying27 rfl (by rw [sizeQ, cellsQ_size hs]), Result.andThen]
set_option maxRecDepth 100000 in
set_option maxHeartbeats 4000000 in
theorem lwith_any (w : World) {r : List Nat} (hr : Ok r) (g id : Int) (hp : (Bt.putI r id).1.length = 16) :
    Calls Tryd.prog 11 #[.agg (cellsQ r g), .int .i64 id] w fun e w' => e = .returned (.tuple #[.agg (cellsQ (Bt.putI r id).1 g), .bool ((Bt.putI r id).2 == 0)]) ∧ Below w.heap.size w w' := by
  have hl := hr.1
  have KP := show Hid (∀ W : World, Calls Tryd.prog 23 #[.agg (Bt.cellsB r), .int .i64 id] W fun e w' => e = .returned (.tuple #[.agg (Bt.cellsB (Bt.putI r id).1), .int .i64 (Bt.putI r id).2]) ∧ Below W.heap.size W w') from fun W => Bt.rput_any W hr id
  generalize Bt.putI r id = X at *
  obtain ⟨x, er⟩ := X
  simp only at hp KP ⊢
  go_enter Tryd.func11, Tryd.ntmps11
  go_wp2_with (refine wpList_box 27 _ rfl _ rfl rfl ?_)
  intro w1 b2 hn1
  go_wp2_with (refine wpList_alloc 27 rfl _ zeroSeq rfl ?_)
  intro w2 b4 hn2
  have H2 := show Hid (SeqAt w2 b2 r g ∧ SeqAt w2 b4 Bt.Bs.zero 0 ∧ Below w.heap.size w w2 ∧ w.heap.size ≤ b2 ∧ w.heap.size ≤ b4 ∧ b2 ≠ b4 ∧ b2 < w2.heap.size ∧ b4 < w2.heap.size) from (by
    have e1 := hn1.ge; have e2 := hn1.up; have e3 := hn2.ge; have e4 := hn2.up
    exact ⟨Cl.new hn1.blk hn2, hn2.blk, bel_new hn1.bel hn2, by omega, by omega, by omega, by omega, by omega⟩)
  clear hn1 hn2
  go_wp2_with (refine wpList_ldQ _ _ rfl b2 rfl H2.out.1 hl rfl ?_)
  refine Calls.mono (KP.out w2) ?_
  rintro e w3 ⟨rfl, hb3⟩
  have H3 := show Hid (SeqAt w3 b2 r g ∧ SeqAt w3 b4 Bt.Bs.zero 0 ∧ Below w.heap.size w w3) from ⟨H2.out.1.later hb3 H2.out.1.lt, H2.out.2.1.later hb3 H2.out.2.1.lt, H2.out.2.2.1.trans (hb3.mono H2.out.2.2.1.size)⟩
  have hz3 := hb3.size
  clear hb3 KP
  go_wp2_with (refine wpList_alloc 25 rfl _ zeroBK rfl ?_)
  intro w4 b6 hn4
  go_wp2_with (refine wpList_st 25 rfl rfl _ _ rfl b6 rfl (Bt.cellsB x) rfl _ _ hn4.blk (by rw [Bt.sizeB, Bt.cellsB_size hp]) (by rw [Bt.cellsB_size hp]; rfl) (by simp [Bt.cellsB, Value.oneCell']) ?_)
  intro w5 hc5 hk5
  have hb5 : Below w3.heap.size w3 w5 := bel_kp hn4.bel hk5 hn4.ge
  have H5 := show Hid (SeqAt w5 b2 r g ∧ SeqAt w5 b4 Bt.Bs.zero 0 ∧ Below w.heap.size w w5) from ⟨H3.out.1.later hb5 H3.out.1.lt, H3.out.2.1.later hb5 H3.out.2.1.lt, H3.out.2.2.trans (hb5.mono H3.out.2.2.size)⟩
  have HC5 := show Hid (Cl w5 b6 (Bt.cellsB x) 25) from hc5
  clear hn4 hk5 hb5 H3 hc5 hz3
  go_wp2_with (first | (refine wpList_ldw 25 _ rfl b6 rfl _ _ HC5.out rfl Bt.under25 (by rw [Bt.sizeB, Bt.cellsB_size hp]) rfl ?_) | (refine wpList_stBQ _ rfl rfl _ _ rfl b2 rfl rfl H5.out.1 hl hp ?_))
  intro w6 hs6 hk6
  have H6 := show Hid (SeqAt w6 b2 x g ∧ SeqAt w6 b4 Bt.Bs.zero 0 ∧ Below w.heap.size w w6) from ⟨hs6, (hk6.block b4 H5.out.2.1.lt (fun e => H2.out.2.2.2.2.2.1 e.symm)).trans H5.out.2.1, bel_kp H5.out.2.2 hk6 H2.out.2.2.2.1⟩
  clear hs6 hk6 H5 HC5
  go_wp2_with (first | (refine wpList_ldQQ _ _ rfl b2 rfl H6.out.1 hp rfl ?_) | (refine wpList_st 27 rfl rfl _ _ rfl b4 rfl (cellsQ x g) rfl _ _ H6.out.2.1 (by rw [sizeQ, cellsQ_size hp]) (by rw [cellsQ_size hp]; rfl) (cellsQ_one _ _) ?_))
  intro w7 hc7 hk7
  go_wp2_with fail
  refine bodyPost_ret (results_seq rfl _ _ b4 rfl hc7 hp) rfl ?_
  exact ⟨rfl, bel_kp H6.out.2.2 hk7 H2.out.2.2.2.2.1⟩
/-! ### plain -/
theorem run_ok {t : List Nd} (hO : Fm.Ok t) {s : SQ} (hr : Ok s.1) (bud : Int) : Fm.Ok (runF t s bud).t ∧ Ext t (runF t s bud).t := by
  unfold runF
  split
  · exact ⟨hO, Ext.refl _⟩
  · rename_i hz
    split
    · exact ⟨hO, Ext.refl _⟩
    · have hq : rgt t.length s := by
        have hz : refZ t s.1 s.2 = 0 := by simpa using hz
        rw [ref_right hr] at hz
        refine rgt_iff.1 ?_
        cases h : rightQ t s.1 s.2
        · rw [h, if_neg Bool.false_ne_true] at hz
          exact absurd hz (by decide)
        · rfl
      have hp := dec_post bud.toNat bud.toNat ⟨t, [], 0⟩ s ⟨hO, fun x hx => (by cases hx), fun i j x y h => (by simp at h), fun i x h => (by simp at h)⟩ (Nat.zero_le _) hq hr
      split
      · exact ⟨hO, Ext.refl _⟩
      · exact ⟨hp.gd.ok, hp.ext⟩
theorem tell_ok {t : List Nd} (hO : Fm.Ok t) {s : SQ} (hr : Ok s.1) : Fm.Ok (tellT t s) ∧ Ext t (tellT t s) := run_ok hO hr 4096
theorem tell_is {t : List Nd} (hO : Fm.Ok t) {s : SQ} (hr : Ok s.1) (hq : rgt t.length s) : (tellF t s = 1 → Val t s) ∧ (tellF t s = 0 → Ref t s) := by
  have hp := dec_post 4096 4096 ⟨t, [], 0⟩ s ⟨hO, fun x hx => (by cases hx), fun i j x y h => (by simp at h), fun i x h => (by simp at h)⟩ (Nat.zero_le _) hq hr
  have e : runF t s 4096 = if (decF 4096 4096 ⟨t, [], 0⟩ s).2.1 ≠ 0 then ⟨(decF 4096 4096 ⟨t, [], 0⟩ s).2.1, t, false, [], 0⟩ else ⟨0, (decF 4096 4096 ⟨t, [], 0⟩ s).1.t, ((decF 4096 4096 ⟨t, [], 0⟩ s).1.st.getD (decF 4096 4096 ⟨t, [], 0⟩ s).2.2 stp0).pv, (decF 4096 4096 ⟨t, [], 0⟩ s).1.st, (decF 4096 4096 ⟨t, [], 0⟩ s).1.vs⟩ := by
    unfold runF
    rw [if_neg (show ¬ refZ t s.1 s.2 ≠ 0 by rw [ref_zero hr hq]; simp), if_neg (show ¬ ((4096 : Int) < 1 ∨ (4096 : Int) < 4096) by omega)]
    rfl
  unfold tellF
  rw [e]
  clear e
  generalize decF 4096 4096 ⟨t, [], 0⟩ s = q at *
  by_cases he : q.2.1 ≠ 0
  · rw [if_pos he]
    refine ⟨fun h => ?_, fun h => ?_⟩
    · rw [if_pos he] at h
      cases h
    · rw [if_pos he] at h
      cases h
  · rw [if_neg he]
    have he : q.2.1 = 0 := by simpa using he
    obtain ⟨y, hy, hys, htr⟩ := hp.at he
    simp only
    rw [if_neg (by simp), getD_some hy]
    have hE : Ext t q.1.t := hp.ext
    cases hpv : y.pv
    · refine ⟨fun h => (by simp at h), fun _ => ?_⟩
      have := htr.no hpv
      rw [hys] at this
      exact this.back hE
    · refine ⟨fun _ => ?_, fun h => (by simp at h)⟩
      have := htr.yes hpv
      rw [hys] at this
      exact this.back hO hp.gd.ok hq hE
theorem put_rgt {n : Nat} {r : List Nat} (hr : Ok r) {g : Int} {k : Nat} (hk : k < 1024) (h : rgt n (Bt.Bs.put r k, g)) : rgt n (r, g) ∧ k < n := by
  refine ⟨⟨fun j hj hh => h.1 j hj ?_, h.2⟩, h.1 k hk ?_⟩
  · show Bt.Bs.has (Bt.Bs.put r k) j = true
    rw [Bt.Bs.has_put hr hk, hh]
    rfl
  · show Bt.Bs.has (Bt.Bs.put r k) k = true
    rw [Bt.Bs.has_put hr hk]
    simp
theorem weak_not {t t1 : List Nd} (hO1 : Fm.Ok t1) (hE : Ext t t1) {r : List Nat} (hr : Ok r) {g : Int} {k : Nat} (hk : k < 1024) (hq : rgt t.length (Bt.Bs.put r k, g)) (hO : Fm.Ok t) (ha : tellF t (r, g) = 1) (hb : tellF t1 (Bt.Bs.put r k, g) = 0) : False := by
  have h1 := (tell_is hO hr (put_rgt hr hk hq).1).1 ha
  obtain ⟨M, F, a, hF, h2, h3⟩ := ((tell_is hO1 (Bt.Bs.put_ok hr k) (rgt_ext hE hq)).2 hb).back hE
  exact h3 (h1 M F hF a ((ff_put hr hk).1 h2).1)
theorem cut_not {t t1 t2 : List Nd} (hO : Fm.Ok t) (hO1 : Fm.Ok t1) (hO2 : Fm.Ok t2) (hE : Ext t t1) (hE2 : Ext t1 t2) {r : List Nat} (hr : Ok r) {g : Int} {k : Nat} (hk : k < 1024) (hq : rgt t.length (Bt.Bs.put r k, g)) (ha : tellF t (r, (k : Int)) = 1) (hb : tellF t1 (Bt.Bs.put r k, g) = 1) (hc : tellF t2 (r, g) = 0) : False := by
  obtain ⟨hq1, hkn⟩ := put_rgt hr hk hq
  have h1 := (tell_is hO hr (s := (r, (k : Int))) ⟨hq1.1, by simp only; omega, by simp only; omega⟩).1 ha
  have h2 := ((tell_is hO1 (Bt.Bs.put_ok hr k) (rgt_ext hE hq)).1 hb).back hO hO1 hq hE
  obtain ⟨M, F, a, hF, h3, h4⟩ := ((tell_is hO2 hr (rgt_ext (hE.trans hE2) hq1)).2 hc).back (hE.trans hE2)
  have h5 := h1 M F hF a h3
  rw [show (r, (k : Int)).2.toNat = k from Int.toNat_natCast k] at h5
  exact h4 (h2 M F hF a ((ff_put hr hk).2 ⟨h3, h5⟩))
theorem ded_is {t t1 : List Nd} (hO : Fm.Ok t) (hO1 : Fm.Ok t1) (hE : Ext t t1) {r : List Nat} (hr : Ok r) {g k f : Nat} (hq : rgt t.length (Bt.Bs.put r k, (g : Int))) (hk : k < 1024) (hf : f < t.length) (hn : nodeOf t (f : Int) = joinN 5 k g) :
    ¬ (tellF t (Bt.Bs.put r k, (g : Int)) = 1 ∧ tellF t1 (r, (f : Int)) = 0) ∧ ¬ (tellF t (Bt.Bs.put r k, (g : Int)) = 0 ∧ tellF t1 (r, (f : Int)) = 1) := by
  obtain ⟨hq1, hkn⟩ := put_rgt hr hk hq
  have hlen := hO.len
  have hgn : g < t.length := by have h := hq.2.2; simp only at h; omega
  have hqf : rgt t.length (r, (f : Int)) := ⟨hq1.1, by simp only; omega, by simp only; omega⟩
  have hw := tell_is hO (Bt.Bs.put_ok hr k) hq
  have hs := tell_is hO1 hr (s := (r, (f : Int))) (rgt_ext hE hqf)
  refine ⟨fun ⟨ha, hb⟩ => ?_, fun ⟨ha, hb⟩ => ?_⟩
  · have h1 := hw.1 ha
    obtain ⟨M, F, a, hF, h3, h4⟩ := (hs.2 hb).back hE
    rw [show (r, (f : Int)).2.toNat = f from Int.toNat_natCast f] at h4
    refine h4 ((hF.imp hf hn a).2 fun c hac hkc => ?_)
    have := h1 M F hF c ((ff_put hr hk).2 ⟨fun n hn2 hh => Fo.stay hO hF n (hq1.1 n hn2 hh) a c hac (h3 n hn2 hh), hkc⟩)
    rwa [show (Bt.Bs.put r k, (g : Int)).2.toNat = g from Int.toNat_natCast g] at this
  · obtain ⟨M, F, a, hF, h3, h4⟩ := hw.2 ha
    have h1 := (hs.1 hb).back hO hO1 hqf hE
    obtain ⟨h5, h6⟩ := (ff_put hr hk).1 h3
    have h7 := h1 M F hF a h5
    rw [show (r, (f : Int)).2.toNat = f from Int.toNat_natCast f] at h7
    rw [show (Bt.Bs.put r k, (g : Int)).2.toNat = g from Int.toNat_natCast g] at h4
    exact h4 ((hF.imp hf hn a).1 h7 a (M.rf a) h6)
theorem truth_is {t : List Nd} (hO : Fm.Ok t) {f : Nat → Bool} (hR : Resp t f) {s : SQ} (hr : Ok s.1) (hq : rgt t.length s) (ha : tellF t s = 1) (hl : ∀ n, n < 1024 → Bt.Bs.has s.1 n = true → f n = true) : f s.2.toNat = true := by
  have h1 := (tell_is hO hr hq).1 ha
  let M : Km := ⟨Unit, fun _ _ => True, fun _ => trivial, fun _ _ _ _ _ => trivial, fun _ j => f j = true, fun _ _ _ _ h => h⟩
  have hF : Fo M t (fun _ j => f j = true) := fun j hj a => by
    have h2 := hR j hj
    unfold Cls
    simp only []
    by_cases e1 : (nodeOf t (j : Int)).k = 1
    · rw [if_pos e1]
    rw [if_neg e1]
    by_cases e2 : (nodeOf t (j : Int)).k = 2
    · rw [if_pos e2, h2.1 e2]
      simp
    rw [if_neg e2]
    by_cases e3 : (nodeOf t (j : Int)).k = 3
    · rw [if_pos e3, h2.2.1 e3, Bool.and_eq_true]
    rw [if_neg e3]
    by_cases e4 : (nodeOf t (j : Int)).k = 4
    · rw [if_pos e4, h2.2.2.1 e4, Bool.or_eq_true]
    rw [if_neg e4]
    have e5 : (nodeOf t (j : Int)).k = 5 := by
      rw [nodeOf_nat hj] at *
      rcases Fm.ok_kind hO hj with e | e | e
      · exact absurd e e1
      · exact absurd e e2
      · simp only [Fm.jn, Bool.or_eq_true, beq_iff_eq] at e
        omega
    rw [h2.2.2.2 e5]
    constructor
    · intro h b _ h3
      simp [h3] at h
      exact h
    · intro h
      have := h a trivial
      cases h4 : f (nodeOf t (j : Int)).l.toNat
      · rfl
      · simp [this h4]
  exact h1 M (fun _ j => f j = true) hF () hl
structure LY (w w1 W : World) (b4 b10 B M : Nat) (v : Value) (C : Nat) (u : Value) (t t2 : List Nd) (r x : List Nat) (g : Int) : Prop where
  pr : Pair w1 W B M v C u t t2
  s : SeqAt W b4 r g
  s2 : SeqAt W b10 x g
  b1 : Below w.heap.size w w1
section
variable {w w1 W W' : World} {b4 b10 B M C : Nat} {v u : Value} {t t2 t' : List Nd} {r x : List Nat} {g : Int}
theorem LY.bel (h : LY w w1 W b4 b10 B M v C u t t2 r x g) : Below w.heap.size w W := h.b1.trans (h.pr.bel.mono h.b1.size)
theorem LY.later (h : LY w w1 W b4 b10 B M v C u t t2 r x g) (hb : Below W.heap.size W W') : LY w w1 W' b4 b10 B M v C u t t2 r x g := ⟨h.pr.later hb, h.s.later hb h.s.lt, h.s2.later hb h.s2.lt, h.b1⟩
theorem LY.next (h : LY w w1 W b4 b10 B M v C u t t2 r x g) (ha : After W B M v t' W') : ∃ v', LY w w1 W' b4 b10 B M v' C u t' t2 r x g := by
  obtain ⟨v3, hP3⟩ := h.pr.stepT ha
  exact ⟨v3, hP3, Cl.aft h.s h.pr.tb (by decide) (by decide) ha, Cl.aft h.s2 h.pr.tb (by decide) (by decide) ha, h.b1⟩
end
theorem putI_len {r : List Nat} (hr : Ok r) (id : Int) : (Bt.putI r id).1.length = 16 := by
  unfold Bt.putI
  split
  · exact (Bt.Bs.put_ok hr _).1
  · rfl
end Go.Proofs.YtkejippimkjjaaaDoor
