/-
  The search's call follow: a step by its premises. Where decide answers as it is told to.
-/
import Derived.Test.YtkejippimkjjaaaGreatDoorKG3
import Derived.Test.YtkejippimkjjaaaGreatDoorKG5
import Derived.Test.YtkejippimkjjaaaGreatDoorKG4
import Derived.Test.YtkejippimkjjaaaGreatDoorZG9
namespace Go.Proofs.YtkejippimkjjaaaGreatDoor
open Go.RowKit Go.Shelf Go.Maps
open Fm (Nd)
open Bt.Bs (Ok wd)
set_option linter.unusedSimpArgs false

def DecC (base rb pm b m B n : Nat) (d : Dcd) : Prop := ∀ (w : World) (v sv : Value) (kvs : List Value) (R : Rs) (s : SQ), Rn w base rb pm b m v sv kvs B R → Gd R → R.vs ≤ B → R.st.length ≤ R.vs → B ≤ R.vs + n → rgt R.t.length s → Ok s.1 →
  Calls Tryz.prog 15 #[.pointer (some ⟨rb, 0, none⟩), .agg (cellsQ s.1 s.2)] w fun e w' => e = .returned (.tuple #[.int .i64 ((d R s).2.2 : Int), .int .i64 (d R s).2.1]) ∧ ∃ v' sv' kvs', Rn w' base rb pm b m v' sv' kvs' B (d R s).1 ∧ AfR w w' rb pm b m v sv kvs v' sv' kvs'
structure Gs (B n : Nat) (R : Rs) : Prop where
  gd : Gd R
  vs : R.vs ≤ B
  st : R.st.length ≤ R.vs
  fu : B ≤ R.vs + n
  mx : B ≤ 4096
theorem Gs.dec {B n : Nat} {R : Rs} {s : SQ} {d : Dcd} (h : Gs B n R) (hd : Dsp B d) (hq : rgt R.t.length s) (hr : Ok s.1) : Gs B n (d R s).1 := by
  have h1 := hd R s h.gd h.vs hq hr
  have h2 := h1.ct.1
  have h3 := h1.vs
  have h4 := h.st
  have h5 := h.fu
  exact ⟨h1.gd, h3.2, by omega, by omega, h.mx⟩
structure FL (w0 W : World) (base rb pm b m : Nat) (v0 sv0 : Value) (kvs0 : List Value) (v sv : Value) (kvs : List Value) (B : Nat) (R : Rs) (b4 b6 : Nat) (x : Stp) (kv pv : Value) (ps : List SQ) : Prop where
  rn : Rn W base rb pm b m v sv kvs B R
  af : AfR w0 W rb pm b m v0 sv0 kvs0 v sv kvs
  c4 : Cl W b4 (stpC x kv) 46
  c6 : Cl W b6 (stpC stp0 (.slice none 0 0)) 46
  g4 : w0.heap.size ≤ b4
  g6 : w0.heap.size ≤ b6
  ne : b4 ≠ b6
  n4 : sv.ownBlock ≠ some b4
  n6 : sv.ownBlock ≠ some b6
  kd : W.ownsRow w0.heap.size 3 1 kv x.kd.length (kdV x.kd)
  kn : ∀ k, kv.ownBlock = some k → ¬ Kb kvs k
  sq : SqR pv ps W
theorem SqR.kp {W W' : World} {pv : Value} {l : List SQ} (h : SqR pv l W) (hk : ∀ (k : Nat) (cs : Array Value), Cl W k cs 27 → W'.heap[k]? = W.heap[k]?) : SqR pv l W' := by
  rcases h with h | ⟨q, h1, h2⟩
  · exact Or.inl h
  · exact Or.inr ⟨q, h1, (hk q _ h2).trans h2⟩
theorem cl_type {W : World} {k : Nat} {cs cs' : Array Value} {T T' : TypeId} {f f' : Nat × Nat} (h : W.heap[k]? = some (.cells cs T f)) (h' : W.heap[k]? = some (.cells cs' T' f')) : T = T' := by
  rw [h] at h'
  injection h' with h'
  injection h'
section
variable {w0 W W' W2 : World} {base rb pm b m : Nat} {v0 sv0 v sv v' sv' : Value} {kvs0 kvs kvs' : List Value} {B : Nat} {R R' : Rs} {b4 b6 : Nat} {x : Stp} {kv pv : Value} {ps : List SQ}
theorem FL.call (h : FL w0 W base rb pm b m v0 sv0 kvs0 v sv kvs B R b4 b6 x kv pv ps) (hr : Rn W' base rb pm b m v' sv' kvs' B R') (ha : AfR W W' rb pm b m v sv kvs v' sv' kvs') : FL w0 W' base rb pm b m v0 sv0 kvs0 v' sv' kvs' B R' b4 b6 x kv pv ps := by
  have n4 := h.rn.other h.c4 (by decide) (by decide) (by decide) (Or.inr h.n4)
  have n6 := h.rn.other h.c6 (by decide) (by decide) (by decide) (Or.inr h.n6)
  refine ⟨hr, h.af.trans ha, ha.cl h.c4 n4, ha.cl h.c6 n6, h.g4, h.g6, h.ne, fun e => ?_, fun e => ?_, own_kp h.kd fun k e => ?_, fun k e hb => ?_, h.sq.kp fun k cs hc => ha.kp.block k hc.lt (h.rn.other hc (by decide) (by decide) (by decide) (Or.inl (by decide)))⟩
  · rcases ha.ls b4 e with e | e
    · exact h.n4 e
    · have := h.c4.lt; omega
  · rcases ha.ls b6 e with e | e
    · exact h.n6 e
    · have := h.c6.lt; omega
  · obtain ⟨_, h2, cur, hc⟩ := own_blk h.kd k e
    exact ha.kp.block k h2 (h.rn.other hc (by decide) (by decide) (by decide) (Or.inl (by decide)))
  · rcases ha.lk k hb with h1 | h1
    · exact h.kn k e h1
    · have := (own_blk h.kd k e).2.1; omega
theorem FL.later (h : FL w0 W base rb pm b m v0 sv0 kvs0 v sv kvs B R b4 b6 x kv pv ps) (hb : Below W.heap.size W W') : FL w0 W' base rb pm b m v0 sv0 kvs0 v sv kvs B R b4 b6 x kv pv ps := h.call (h.rn.later hb) (AfR.of_below hb)
theorem FL.set4 (h : FL w0 W base rb pm b m v0 sv0 kvs0 v sv kvs B R b4 b6 x kv pv ps) {x' : Stp} {kv' : Value} (hc : Cl W' b4 (stpC x' kv') 46) (hk : KpP b4 W W') (hd : W.ownsRow w0.heap.size 3 1 kv' x'.kd.length (kdV x'.kd)) (hkn : ∀ k, kv'.ownBlock = some k → ¬ Kb kvs k) (hG : 0 < w0.heap.size) : FL w0 W' base rb pm b m v0 sv0 kvs0 v sv kvs B R b4 b6 x' kv' pv ps := by
  have n4 := h.rn.other h.c4 (by decide) (by decide) (by decide) (Or.inr h.n4)
  have e4 := h.g4
  refine ⟨h.rn.own n4 (h.rn.sts.nkb h.c4 (by decide)) (by omega) hk, ⟨h.af.lv, h.af.ls, h.af.lk, h.af.kp.trans (S' := fun k => k = b4) hk (fun i hi => Or.inr (by omega))⟩, hc, (hk.block b6 h.c6.lt (fun e => h.ne e.symm)).trans h.c6, h.g4, h.g6, h.ne, h.n4, h.n6, own_kp hd fun k e => ?_, hkn, h.sq.kp fun k cs hq => hk.block k hq.lt (fun e => ?_)⟩
  · obtain ⟨_, h2, cur, hcc⟩ := own_blk hd k e
    refine hk.block k h2 (fun e2 => ?_)
    subst e2
    exact absurd (cl_type hcc h.c4) (by decide)
  · subst e
    exact absurd (cl_type hq h.c4) (by decide)
theorem FL.cell4 (h : FL w0 W base rb pm b m v0 sv0 kvs0 v sv kvs B R b4 b6 x kv pv ps) (hg : W.grownBy W' kv.ownBlock) : Cl W' b4 (stpC x kv) 46 := (hg.block b4 h.c4.lt (fun e => by
  obtain ⟨_, _, cur, hc⟩ := own_blk h.kd b4 e.symm
  exact absurd (cl_type hc h.c4) (by decide))).trans h.c4
theorem FL.app4 (h : FL w0 W base rb pm b m v0 sv0 kvs0 v sv kvs B R b4 b6 x kv pv ps) (hg : W.grownBy W' kv.ownBlock) {x' : Stp} {kv' : Value} (ho : W'.ownsRow w0.heap.size 3 1 kv' x'.kd.length (kdV x'.kd)) (hat : kv'.ownBlock = kv.ownBlock ∨ kv'.ownBlock = some W.heap.size) (hc : Cl W2 b4 (stpC x' kv') 46) (hk : KpP b4 W' W2) (hG : 0 < w0.heap.size) : FL w0 W2 base rb pm b m v0 sv0 kvs0 v sv kvs B R b4 b6 x' kv' pv ps := by
  have e4 := h.g4
  have n4 := h.rn.other h.c4 (by decide) (by decide) (by decide) (Or.inr h.n4)
  have hS : ∀ k, kv.ownBlock = some k → w0.heap.size ≤ k ∧ ∃ cur, W.heap[k]? = some (.cells cur 3 (0, 0)) := fun k e => ⟨(own_blk h.kd k e).1, (own_blk h.kd k e).2.2⟩
  have hk1 : Kp (fun k => kv.ownBlock = some k ∨ k = b4) W W2 := by
    refine Kp.trans (S := fun k => kv.ownBlock = some k ∨ k = b4) (S' := fun k => k = b4) ⟨hg.os, hg.tape, hg.output, hg.size, fun k hk hn => hg.block k hk (fun e => hn (Or.inl e.symm))⟩ hk (fun i hi => Or.inl (Or.inr hi))
  have hn : ∀ k, FtR rb pm b m v sv k → ¬ (kv.ownBlock = some k ∨ k = b4) := fun k hf e => by
    rcases e with e | e
    · obtain ⟨_, cur, hc⟩ := hS k e
      exact h.rn.other hc (by decide) (by decide) (by decide) (Or.inl (by decide)) hf
    · exact n4 (e ▸ hf)
  have hkb : ∀ k, Kb kvs k → ¬ (kv.ownBlock = some k ∨ k = b4) := fun k hb e => by
    rcases e with e | e
    · exact h.kn k e hb
    · exact h.rn.sts.nkb h.c4 (by decide) (e ▸ hb)
  refine ⟨h.rn.keep hk1.size (fun k hf => hk1.block k (h.rn.foot k hf) (hn k hf)) (fun k hb => hk1.block k (h.rn.sts.kb hb).2.1 (hkb k hb)) (tz_kp h.rn.tz hk1 (fun e => ?_)), ⟨h.af.lv, h.af.ls, h.af.lk, h.af.kp.trans hk1 (fun i hi => Or.inr ?_)⟩, hc, (hk1.block b6 h.c6.lt (fun e => ?_)).trans h.c6, h.g4, h.g6, h.ne, h.n4, h.n6, own_kp ho fun k e => ?_, fun k e hb => ?_, h.sq.kp fun k cs hq => hk1.block k hq.lt (fun e => ?_)⟩
  · rcases e with e | e
    · have := (hS _ e).1; omega
    · omega
  · rcases hi with e | e
    · exact (hS _ e).1
    · omega
  · rcases e with e | e
    · obtain ⟨_, cur, h2⟩ := hS _ e
      exact absurd (cl_type h2 h.c6) (by decide)
    · exact h.ne e.symm
  · obtain ⟨_, h2, cur, h3⟩ := own_blk ho k e
    refine hk.block k h2 (fun e2 => ?_)
    subst e2
    exact absurd (cl_type h3 (h.cell4 hg)) (by decide)
  · rcases hat with h1 | h1
    · exact h.kn k (h1 ▸ e) hb
    · rw [h1] at e
      cases e
      have := (h.rn.sts.kb hb).2.1
      omega
  · rcases e with e | e
    · obtain ⟨_, cur, h2⟩ := hS _ e
      exact absurd (cl_type h2 hq) (by decide)
    · subst e
      exact absurd (cl_type hq h.c4) (by decide)
theorem FL.set6 (h : FL w0 W base rb pm b m v0 sv0 kvs0 v sv kvs B R b4 b6 x kv pv ps) (hk : KpP b6 W W') (hG : 0 < w0.heap.size) : Rn W' base rb pm b m v sv kvs B R ∧ AfR w0 W' rb pm b m v0 sv0 kvs0 v sv kvs ∧ W'.ownsRow w0.heap.size 3 1 kv x.kd.length (kdV x.kd) := by
  have n6 := h.rn.other h.c6 (by decide) (by decide) (by decide) (Or.inr h.n6)
  have e6 := h.g6
  refine ⟨h.rn.own n6 (h.rn.sts.nkb h.c6 (by decide)) (by omega) hk, ⟨h.af.lv, h.af.ls, h.af.lk, h.af.kp.trans (S' := fun k => k = b6) hk (fun i hi => Or.inr (by omega))⟩, own_kp h.kd fun k e => ?_⟩
  obtain ⟨_, h2, cur, hcc⟩ := own_blk h.kd k e
  refine hk.block k h2 (fun e2 => ?_)
  subst e2
  exact absurd (cl_type hcc h.c6) (by decide)
end
theorem infoI1 : (Tryz.prog.info? 3).map (fun i => (i.zero, i.size, i.bytes)) = some (some (.int .i64 0), 1, 8) := by kernel_rfl
theorem kdV_snoc (l : List Nat) (k : Nat) : kdV (l ++ [k]) = kdV l ++ [.int .i64 (k : Int)] := by simp [kdV]
theorem own_new1 {w w' : World} {base q : Nat} {k : Nat} (h : New w w' q #[.int .i64 (k : Int)] 3) (hb : base ≤ q) : w'.ownsRow base 3 1 (.slice (some ⟨q, 0, none⟩) 1 1) [k].length (kdV [k]) := ⟨rfl, Or.inr ⟨q, 1, _, rfl, hb, h.blk, Nat.le_refl _, by unfold maxLen; show 1 ≤ _; omega, rfl, rfl⟩⟩
theorem own_nil0 {w : World} {base : Nat} {e : TypeId} : w.ownsRow base e 1 (.slice none 0 0) ([] : List Nat).length (kdV []) := ⟨rfl, Or.inl ⟨rfl, rfl⟩⟩
set_option maxRecDepth 100000 in
set_option maxHeartbeats 4000000 in
theorem fol_any {base rb pm b m B n : Nat} {d : Dcd} (hD : DecC base rb pm b m B n d) (hd : Dsp B d) (w : World) {v sv : Value} {kvs : List Value} {R : Rs} (hR : Rn w base rb pm b m v sv kvs B R) (hG : Gs B n R) {x : Stp} (hx : Ok x.s.1) (hk : x.kd = []) {ps : List SQ} {pv : Value} (hps : SqR pv ps w) (hrg : ∀ p ∈ ps, rgt R.t.length p ∧ Ok p.1) (hpl : ps.length ≤ 1000) :
    Calls Tryz.prog 52 #[.pointer (some ⟨rb, 0, none⟩), .agg (stpC x (.slice none 0 0)), pv] w fun e w' => ∃ kv, e = .returned (.tuple #[.agg (stpC (folF d R x ps).2.2 kv), .int .i64 (folF d R x ps).2.1]) ∧ w'.ownsRow w.heap.size 3 1 kv (folF d R x ps).2.2.kd.length (kdV (folF d R x ps).2.2.kd) ∧ ∃ v' sv' kvs', (∀ k, kv.ownBlock = some k → ¬ Kb kvs' k) ∧ Rn w' base rb pm b m v' sv' kvs' B (folF d R x ps).1 ∧ AfR w w' rb pm b m v sv kvs v' sv' kvs' := by
  obtain ⟨pp, pc, rfl⟩ := hps.form
  have HG := show Hid (0 < w.heap.size) from Bt.tz_lt hR.tz
  have HD := show Hid (DecC base rb pm b m B n d) from hD
  have HDP := show Hid (Dsp B d) from hd
  have HL := show Hid (∀ s ∈ ps, s.1.length = 16) from fun s hs => (hrg s hs).2.1
  have hx16 := hx.1
  obtain ⟨P, hP⟩ : ∃ P, P = folF d R x ps := ⟨_, rfl⟩
  rw [← hP]
  have HP := show Hid (P = folF d R x ps) from hP
  clear hP
  go_enter Tryz.func52, Tryz.ntmps52
  go_wp2_with (refine wpList_box 46 _ rfl _ rfl rfl ?_)
  intro w1 b4 hn1
  go_wp2_with (refine wpList_alloc 46 rfl _ zeroStp rfl ?_)
  intro w2 b6 hn2
  have H2 := show Hid (FL w w2 base rb pm b m v sv kvs v sv kvs B R b4 b6 x (.slice none 0 0) (.slice pp ps.length pc) ps) from (by
    have e1 := hn1.ge; have e2 := hn1.up; have e3 := hn2.ge; have e4 := hn2.eq; have e5 := hn1.eq
    have hb := bel_new hn1.bel hn2
    refine ⟨hR.later hb, AfR.of_below hb, Cl.new hn1.blk hn2, hn2.blk, by omega, by omega, by omega, fun e => ?_, fun e => ?_, ⟨by rw [hk]; rfl, Or.inl ⟨rfl, by rw [hk]; rfl⟩⟩, fun k e => (by cases e), hps.later hb⟩
    · have := (hR.sts.blk e).2.1; omega
    · have := (hR.sts.blk e).2.1; omega)
  clear hn1 hn2 hR hps
  have HRG := show Hid (∀ p ∈ ps, rgt R.t.length p ∧ Ok p.1) from hrg
  have HGS := show Hid (Gs B n R) from hG
  clear hG hrg hD hd
  go_wp2_with fail
  go_loopw [14] (fun iv wr => ∃ (i : Nat) (R' : Rs) (x' : Stp) (kv v' sv' : Value) (kvs' : List Value), i ≤ ps.length ∧ iv = .int .i64 (i : Int) ∧ Hid (P = folF d R' x' (ps.drop i)) ∧ Hid (FL w wr base rb pm b m v sv kvs v' sv' kvs' B R' b4 b6 x' kv (.slice pp ps.length pc) ps) ∧ Hid (Gs B n R') ∧ Hid (Ext R.t R'.t) ∧ x'.s.1.length = 16 ∧ Hid (x'.kd.length = i)) (fun iv _ => ps.length - (intOf iv).toNat)
  case atStart => exact ⟨0, R, x, _, _, _, _, by omega, rfl, HP, H2, HGS, Ext.refl _, hx16, show x.kd.length = 0 from by rw [hk]; rfl⟩
  case round =>
    obtain ⟨i, R', x', kv, v', sv', kvs', hi, rfl, HP2, HF, HG2, HE, hx2, HKL⟩ := hrel
    clear HP H2 HGS
    by_cases hlt : i < ps.length
    · have hil : (i : Int) < (ps.length : Int) := by omega
      obtain ⟨q, rfl, hin⟩ := HF.out.sq.at HL.out hlt
      have hrp := HRG.out _ (List.getElem_mem hlt)
      have hp16 := hrp.2.1
      have HIN := show Hid _ from hin
      have HRP := show Hid (rgt R'.t.length ps[i] ∧ Ok ps[i].1) from ⟨rgt_ext HE.out hrp.1, hrp.2⟩
      have hp3 : P = folF d R' x' (ps[i] :: ps.drop (i + 1)) := by rw [HP2.out, List.drop_eq_getElem_cons hlt]
      have HP3 := show Hid (P = folF d R' x' (ps[i] :: ps.drop (i + 1))) from hp3
      clear hin hrp HP2 hp3
      generalize ps[i] = p at *
      go_wp2_with (first | (refine wpList_ldS _ rfl _ rfl q _ rfl HIN.out hp16 ?_) | (refine wpList_alloc 27 rfl _ zeroSeq rfl ?_))
      intro w3 b9 hn3
      go_wp2_with (refine wpList_st 27 rfl rfl _ _ rfl b9 rfl (cellsQ p.1 p.2) rfl (cellsQ Bt.Bs.zero 0) 27 hn3.blk (by rw [sizeQ, cellsQ_size hp16]) (by rw [cellsQ_size hp16]; rfl) (cellsQ_one _ _) ?_)
      intro w4 hc9 hk9
      have hb4 : Below wr.heap.size wr w4 := bel_kp hn3.bel hk9 hn3.ge
      have H4 := show Hid (FL w w4 base rb pm b m v sv kvs v' sv' kvs' B R' b4 b6 x' kv (.slice (some ⟨q, 0, none⟩) ps.length pc) ps ∧ SeqAt w4 b9 p.1 p.2) from ⟨HF.out.later hb4, hc9⟩
      clear HF hn3 hc9 hk9 hb4 HIN
      have KD := show Hid _ from HD.out w4 v' sv' kvs' R' p H4.out.1.rn HG2.out.gd HG2.out.vs HG2.out.st HG2.out.fu HRP.out.1 HRP.out.2
      have HS := show Hid (Pst B R' p (d R' p) ∧ Gs B n (d R' p).1) from ⟨HDP.out R' p HG2.out.gd HG2.out.vs HRP.out.1 HRP.out.2, HG2.out.dec HDP.out HRP.out.1 HRP.out.2⟩
      have hfo : folF d R' x' (p :: ps.drop (i + 1)) = if (d R' p).2.1 ≠ 0 then ((d R' p).1, (d R' p).2.1, stp0)
    else if ((d R' p).1.st.getD (d R' p).2.2 stp0).pv = false then ((d R' p).1, 0, { x' with kd := [(d R' p).2.2] })
    else folF d (d R' p).1 { x' with kd := x'.kd ++ [(d R' p).2.2] } (ps.drop (i + 1)) := rfl
      rw [hfo] at HP3
      clear hfo
      generalize hq : d R' p = qd at *
      clear hq
      go_wp2_with (refine wpList_ldQQ _ _ rfl b9 rfl H4.out.2 hp16 rfl ?_)
      refine Calls.mono KD.out ?_
      rintro e w5 ⟨rfl, v5, sv5, kvs5, hR5, hA5⟩
      have H5 := show Hid (FL w w5 base rb pm b m v sv kvs v5 sv5 kvs5 B qd.1 b4 b6 x' kv (.slice (some ⟨q, 0, none⟩) ps.length pc) ps) from H4.out.1.call hR5 hA5
      clear hR5 hA5 H4 KD
      by_cases he : qd.2.1 = 0
      · have heb : (qd.2.1 != 0) = false := by rw [he]; rfl
        obtain ⟨y, hy, hys, hyt⟩ := HS.out.1.at he
        obtain ⟨gs, cs, rfl, hpc⟩ := H5.out.rn.sts.pv hy
        have hlt5 := (List.getElem?_eq_some_iff.1 hy).1
        have c3 := H5.out.rn.run.cell 3
        have hil2 : (qd.2.2 : Int) < (qd.1.st.length : Int) := by omega
        have hgd := getD_some hy stp0
        rw [if_neg (by rw [he]; simp), hgd] at HP3
        simp only [List.getElem?_toArray, List.getElem?_cons_succ, List.getElem?_cons_zero] at c3
        clear hgd
        cases hpv : y.pv with
        | false =>
          rw [hpv] at hpc HP3
          rw [if_pos rfl] at HP3
          clear hpv hyt
          go_wp2_with (refine wpList_bsI rfl _ rfl _ rfl ?_)
          intro w6 q6 hn6
          have hsz := H5.out.af.kp.size
          have hge := hn6.ge
          have H6 := show Hid _ from H5.out.later hn6.bel
          have HO6 := show Hid (w6.ownsRow w.heap.size 3 1 (.slice (some ⟨q6, 0, none⟩) 1 1) [qd.2.2].length (kdV [qd.2.2])) from own_new1 hn6 (by omega)
          have HK6 := show Hid (∀ k, (Value.slice (some ⟨q6, 0, none⟩) 1 1).ownBlock = some k → ¬ Kb kvs5 k) from fun k e hb => by
            obtain rfl : q6 = k := Option.some.inj e
            have := (H5.out.rn.sts.kb hb).2.1
            omega
          clear hn6 hge hsz H5 c3 hpc
          go_wp2_with (refine wpList_stK rfl rfl _ _ rfl b4 rfl (some ⟨q6, 0, none⟩) 1 1 rfl hx2 H6.out.c4 [qd.2.2] ?_)
          intro w7 hc7 hk7
          have H7 := show Hid _ from H6.out.set4 (x' := { x' with kd := [qd.2.2] }) hc7 hk7 HO6.out HK6.out HG.out
          clear hc7 hk7 H6 HO6
          go_wp2_with (first | (refine wpList_ldS1 _ rfl b4 rfl (s := { x' with kd := [qd.2.2] }) hx2 H7.out.c4 rfl ?_) | (refine wpList_stS rfl rfl _ _ rfl b6 rfl (s := { x' with kd := [qd.2.2] }) hx2 rfl rfl rfl H7.out.c6 ?_))
          intro w8 hc8 hk8
          obtain ⟨hR8, hA8, hO8⟩ := H7.out.set6 hk8 HG.out
          obtain rfl := HP3.out
          clear HP3 H7
          go_wp2_with fail
          refine bodyPost_ret (results_step rfl _ _ b6 rfl hc8 (stpC_size (x := { x' with kd := [qd.2.2] }) hx2 _)) rfl ?_
          exact ⟨_, rfl, hO8, v5, _, kvs5, HK6.out, hR8, hA8⟩
        | true =>
          rw [hpv] at hpc HP3
          rw [if_neg (by simp)] at HP3
          clear hpv hyt
          have c20 := (stpC_cell hx2 H5.out.c4).1
          go_wp2_with (refine wpList_bsI rfl _ rfl _ rfl ?_)
          intro w6 q6 hn6
          have H6 := show Hid _ from H5.out.later hn6.bel
          have hcq : w6.cell? ⟨q6, 0, none⟩ = some (.int .i64 (qd.2.2 : Int)) := Cl.cell hn6.blk 0
          obtain ⟨i0, hi0, hz0, hz1, hz2⟩ := info_parts infoI1
          have HKL2 := HKL.out
          have hsz := H6.out.af.kp.size
          clear hn6 H5 c3 hpc c20
          go_wp2_with (at_builtin; refine wpList_append_own_at _ rfl (.tmp 42) (.tmp 44) 44 rfl w.heap.size 3 i0 (.int .i64 0) 1 8 Tryz.underlying44 hi0 hz0 hz1 hz2 rfl (by decide) kv x'.kd.length (kdV x'.kd) rfl H6.out.kd ⟨q6, 0, none⟩ 1 1 [.int .i64 (qd.2.2 : Int)] rfl rfl (cell_one hcq) (by intro u hu; simp at hu; subst hu; rfl) (by unfold maxLen; omega) (by omega) hsz ?_)
          intro kv7 w7 ho7 hg7 _ hat7
          have hln : x'.kd.length + 1 = (x'.kd ++ [qd.2.2]).length := by simp
          have HO7 := show Hid (w7.ownsRow w.heap.size 3 1 kv7 (x'.kd ++ [qd.2.2]).length (kdV (x'.kd ++ [qd.2.2])) ∧ w6.grownBy w7 kv.ownBlock ∧ (kv7.ownBlock = kv.ownBlock ∨ kv7.ownBlock = some w6.heap.size)) from ⟨by rw [kdV_snoc, ← hln, HKL2]; exact ho7, hg7, hat7⟩
          have C7 := show Hid _ from H6.out.cell4 hg7
          obtain ⟨p7, n7, c7, rfl⟩ : ∃ p n c, kv7 = .slice p n c := by
            rcases ho7.2 with ⟨h1, _⟩ | ⟨g, cap, cur, h1, _⟩
            · exact ⟨_, _, _, h1⟩
            · exact ⟨_, _, _, h1⟩
          clear ho7 hg7 hat7 hcq hi0 hz0 hz1 hz2 hln
          go_wp2_with (refine wpList_stK rfl rfl _ _ rfl b4 rfl p7 n7 c7 rfl hx2 C7.out (x'.kd ++ [qd.2.2]) ?_)
          intro w8 hc8 hk8
          have H8 := show Hid _ from H6.out.app4 HO7.out.2.1 (x' := { x' with kd := x'.kd ++ [qd.2.2] }) HO7.out.1 HO7.out.2.2 hc8 hk8 HG.out
          have HE8 := show Hid (Ext R.t qd.1.t) from HE.out.trans HS.out.1.ext
          have HG8 := show Hid (Gs B n qd.1) from HS.out.2
          clear hc8 hk8 H6 HO7 C7 HE HG2 HS
          go_wp2_with fail
          go_roundw
          case rel => exact ⟨i + 1, _, _, _, _, _, _, by omega, by go_num, HP3, H8, HG8, HE8, hx2, show (x'.kd ++ [qd.2.2]).length = i + 1 from by rw [List.length_append, HKL2]; rfl⟩
          case measure => first | (simp [intOf]; done) | (simp [intOf]; omega)
      · have heb : (qd.2.1 != 0) = true := by simpa using he
        rw [if_pos he] at HP3
        go_wp2_with (first | (refine wpList_bldS0 rfl rfl ?_) | (refine wpList_stS rfl rfl _ _ rfl b6 rfl (s := stp0) rfl rfl rfl rfl H5.out.c6 ?_))
        intro w8 hc8 hk8
        obtain ⟨hR8, hA8, _⟩ := H5.out.set6 hk8 HG.out
        obtain rfl := HP3.out
        clear HP3 H5
        go_wp2_with fail
        refine bodyPost_ret (results_step rfl _ _ b6 rfl hc8 (stpC_size (x := stp0) rfl _)) rfl ?_
        exact ⟨_, rfl, own_nil0, v5, _, kvs5, fun k e => (by cases e), hR8, hA8⟩
    · have hil : ¬ (i : Int) < (ps.length : Int) := by omega
      have hp3 : P = (R', 0, { x' with pv := true }) := by rw [HP2.out, List.drop_of_length_le (by omega)]; rfl
      clear HP2
      go_wp2_with (refine wpList_stB rfl rfl _ _ rfl b4 rfl true rfl hx2 HF.out.c4 ?_)
      intro w7 hc7 hk7
      have H7 := show Hid _ from HF.out.set4 (x' := { x' with pv := true }) hc7 hk7 HF.out.kd HF.out.kn HG.out
      clear hc7 hk7 HF
      go_wp2_with (first | (refine wpList_ldS1 _ rfl b4 rfl (s := { x' with pv := true }) hx2 H7.out.c4 rfl ?_) | (refine wpList_stS rfl rfl _ _ rfl b6 rfl (s := { x' with pv := true }) hx2 (own_oneC H7.out.kd) rfl rfl H7.out.c6 ?_))
      intro w8 hc8 hk8
      obtain ⟨hR8, hA8, hO8⟩ := H7.out.set6 hk8 HG.out
      have HK8 := H7.out.kn
      subst hp3
      clear H7
      go_wp2_with fail
      refine bodyPost_ret (results_step rfl _ _ b6 rfl hc8 (stpC_size (x := { x' with pv := true }) hx2 _)) rfl ?_
      exact ⟨_, rfl, hO8, v', _, kvs', HK8, hR8, hA8⟩
end Go.Proofs.YtkejippimkjjaaaGreatDoor
/-
  The search's call enter: the step of a sequent that has none yet. Where decide and choose answer as they are told to. (Written by genkent.py.)
-/
namespace Go.Proofs.YtkejippimkjjaaaGreatDoor
open Go.RowKit Go.Shelf Go.Maps
open Fm (Nd)
open Bt.Bs (Ok wd)
set_option linter.unusedSimpArgs false

def StpP (w : World) (base rb pm b m : Nat) (v sv : Value) (kvs : List Value) (B : Nat) (Q : Rs × Int × Stp) (e : Ending) (w' : World) : Prop := ∃ kv, e = .returned (.tuple #[.agg (stpC Q.2.2 kv), .int .i64 Q.2.1]) ∧ w'.ownsRow w.heap.size 3 1 kv Q.2.2.kd.length (kdV Q.2.2.kd) ∧ ∃ v' sv' kvs', (∀ k, kv.ownBlock = some k → ¬ Kb kvs' k) ∧ Rn w' base rb pm b m v' sv' kvs' B Q.1 ∧ AfR w w' rb pm b m v sv kvs v' sv' kvs'
def ChoC (base rb pm b m B n : Nat) (d : Dcd) : Prop := ∀ (w : World) (v sv : Value) (kvs : List Value) (R : Rs) (s : SQ), Rn w base rb pm b m v sv kvs B R → Gs B n R → rgt R.t.length s → Ok s.1 → (applyF R.t s.1 s.2).1 = 14 →
  Calls Tryz.prog 50 #[.pointer (some ⟨rb, 0, none⟩), .agg (cellsQ s.1 s.2)] w fun e w' => StpP w base rb pm b m v sv kvs B (chsF d s R (choF R.t s.1 s.2) []) e w'
structure EL (w0 W : World) (base rb pm b m : Nat) (v0 sv0 : Value) (kvs0 : List Value) (v sv : Value) (kvs : List Value) (B : Nat) (R : Rs) (b3 b4 : Nat) (s : SQ) : Prop where
  rn : Rn W base rb pm b m v sv kvs B R
  af : AfR w0 W rb pm b m v0 sv0 kvs0 v sv kvs
  s3 : SeqAt W b3 s.1 s.2
  c4 : Cl W b4 (stpC stp0 (.slice none 0 0)) 46
  g4 : w0.heap.size ≤ b4
  n4 : sv.ownBlock ≠ some b4
section
variable {w0 W W' : World} {base rb pm b m : Nat} {v0 sv0 v sv v' sv' : Value} {kvs0 kvs kvs' : List Value} {B : Nat} {R R' : Rs} {b3 b4 : Nat} {s : SQ}
theorem EL.call (h : EL w0 W base rb pm b m v0 sv0 kvs0 v sv kvs B R b3 b4 s) (hr : Rn W' base rb pm b m v' sv' kvs' B R') (ha : AfR W W' rb pm b m v sv kvs v' sv' kvs') : EL w0 W' base rb pm b m v0 sv0 kvs0 v' sv' kvs' B R' b3 b4 s := by
  have n4 := h.rn.other h.c4 (by decide) (by decide) (by decide) (Or.inr h.n4)
  have n3 := h.rn.other h.s3 (by decide) (by decide) (by decide) (Or.inl (by decide))
  refine ⟨hr, h.af.trans ha, ha.cl h.s3 n3, ha.cl h.c4 n4, h.g4, fun e => ?_⟩
  rcases ha.ls b4 e with e | e
  · exact h.n4 e
  · have := h.c4.lt; omega
theorem EL.later (h : EL w0 W base rb pm b m v0 sv0 kvs0 v sv kvs B R b3 b4 s) (hb : Below W.heap.size W W') : EL w0 W' base rb pm b m v0 sv0 kvs0 v sv kvs B R b3 b4 s := h.call (h.rn.later hb) (AfR.of_below hb)
theorem EL.drew (h : EL w0 W base rb pm b m v0 sv0 kvs0 v sv kvs B R b3 b4 s) : EL w0 W.drew base rb pm b m v0 sv0 kvs0 v sv kvs B R b3 b4 s := h.later (Below.refl _ _).drew
theorem EL.table (h : EL w0 W base rb pm b m v0 sv0 kvs0 v sv kvs B R b3 b4 s) {t' : List Nd} (ha : After W b m v t' W') : ∃ v', EL w0 W' base rb pm b m v0 sv0 kvs0 v' sv kvs B ⟨t', R.st, R.vs⟩ b3 b4 s := by
  obtain ⟨v', h1, h2⟩ := h.rn.table ha
  exact ⟨v', h.call h1 h2⟩
theorem EL.set4 (h : EL w0 W base rb pm b m v0 sv0 kvs0 v sv kvs B R b3 b4 s) (hk : KpP b4 W W') (hG : 0 < w0.heap.size) : Rn W' base rb pm b m v sv kvs B R ∧ AfR w0 W' rb pm b m v0 sv0 kvs0 v sv kvs := by
  have n4 := h.rn.other h.c4 (by decide) (by decide) (by decide) (Or.inr h.n4)
  have e4 := h.g4
  exact ⟨h.rn.own n4 (h.rn.sts.nkb h.c4 (by decide)) (by omega) hk, ⟨h.af.lv, h.af.ls, h.af.lk, h.af.kp.trans (S' := fun k => k = b4) hk (fun i hi => Or.inr (by omega))⟩⟩
theorem el_new {w w1 w2 : World} {s : SQ} (hR : Rn w base rb pm b m v sv kvs B R) (hn1 : New w w1 b3 (cellsQ s.1 s.2) 27) (hn2 : New w1 w2 b4 (stpC stp0 (.slice none 0 0)) 46) : EL w w2 base rb pm b m v sv kvs v sv kvs B R b3 b4 s := by
  have e1 := hn1.ge; have e2 := hn1.up; have e3 := hn2.ge; have e4 := hn2.eq; have e5 := hn1.eq
  have hb := bel_new hn1.bel hn2
  refine ⟨hR.later hb, AfR.of_below hb, Cl.new hn1.blk hn2, hn2.blk, by omega, fun e => ?_⟩
  have := (hR.sts.blk e).2.1; omega
theorem own_other {W W' : World} {base base' k n : Nat} {kv : Value} {xs : List Value} (ho : W.ownsRow base 3 1 kv n xs) (hb : base' ≤ base) {cs : Array Value} (hc : Cl W k cs 46) (hk : KpP k W W') : W'.ownsRow base' 3 1 kv n xs := own_base (own_kp ho fun i e => by
  obtain ⟨_, h2, cur, hcc⟩ := own_blk ho i e
  refine hk.block i h2 (fun e2 => ?_)
  subst e2
  exact absurd (cl_type hcc hc) (by decide)) hb
end
theorem stp0_or {d : Dcd} : ∀ (ps : List SQ) (R : Rs) (x : Stp), x.s.1.length = 16 → (folF d R x ps).2.2.s.1.length = 16
  | [], R, x, h => h
  | p :: ps, R, x, h => by
    unfold folF
    split
    · rfl
    · split
      · exact h
      · exact stp0_or ps _ _ h
theorem chs_len {d : Dcd} {s : SQ} (h : s.1.length = 16) : ∀ (cs : List (Int × Int)) (R : Rs) (ks : List Nat), (chsF d s R cs ks).2.2.s.1.length = 16
  | [], R, ks => h
  | c :: cs, R, ks => by
    unfold chsF
    split
    · rfl
    · split
      · rfl
      · split
        · exact stp0_or _ _ _ h
        · exact chs_len h cs _ _
theorem ent_len {B n : Nat} {d : Dcd} (_hd : Dsp B d) {R : Rs} (_hG : Gs B n R) {s : SQ} (_hq : rgt R.t.length s) (hr : Ok s.1) {P : Rs × Int × Stp} (hP : P = entF d R s) : P.2.2.s.1.length = 16 := by
  subst hP
  unfold entF
  split
  · rfl
  · split
    · exact chs_len hr.1 _ _ _
    · split
      · rfl
      · exact stp0_or _ _ _ hr.1
set_option maxRecDepth 100000 in
set_option maxHeartbeats 4000000 in
theorem ent_any {base rb pm b m B n : Nat} {d : Dcd} (hD : DecC base rb pm b m B n d) (hd : Dsp B d) (hC : ChoC base rb pm b m B n d) (w : World) {v sv : Value} {kvs : List Value} {R : Rs} (hR : Rn w base rb pm b m v sv kvs B R) (hG : Gs B n R) {s : SQ} (hq : rgt R.t.length s) (hr : Ok s.1) :
    Calls Tryz.prog 31 #[.pointer (some ⟨rb, 0, none⟩), .agg (cellsQ s.1 s.2)] w fun e w' => StpP w base rb pm b m v sv kvs B (entF d R s) e w' := by
  have hl := hr.1
  have HGZ := show Hid (0 < w.heap.size) from Bt.tz_lt hR.tz
  have HD := show Hid (DecC base rb pm b m B n d) from hD
  have HDP := show Hid (Dsp B d) from hd
  have HC := show Hid (ChoC base rb pm b m B n d) from hC
  have HGS := show Hid (Gs B n R) from hG
  have HQ := show Hid (rgt R.t.length s ∧ Ok s.1) from ⟨hq, hr⟩
  obtain ⟨P, hP⟩ : ∃ P, P = entF d R s := ⟨_, rfl⟩
  rw [← hP]
  have HP := show Hid (P = entF d R s) from hP
  have hz0 : refZ R.t s.1 s.2 = 0 := ref_zero hr hq
  have HA := show Hid ((applyF R.t s.1 s.2).1 ≠ 14 → findF R.t s.1 s.2 (applyF R.t s.1 s.2).1 (applyF R.t s.1 s.2).2 = true) from apply_find hG.gd.ok hr hz0
  have KA := show Hid (∀ W : World, ∀ v' : Value, Tb W b m v' R.t → Bt.Tz W → Calls Tryz.prog 13 #[.pointer (some ⟨b, 0, none⟩), .agg (cellsQ s.1 s.2)] W fun e w' => e = .returned (.tuple #[.int .i64 (applyF R.t s.1 s.2).1, .int .i64 (applyF R.t s.1 s.2).2, .int .i64 0]) ∧ Below W.heap.size W w') from fun W v' h1 h2 => by
    have h := apply_any W h1 h2 hr s.2
    rw [hz0, if_pos rfl, if_pos rfl] at h
    exact h
  have HEF := show Hid (entF d R s = if (applyF R.t s.1 s.2).1 = 14 then chsF d s R (choF R.t s.1 s.2) []
  else if (premF R.t s.1 s.2 (applyF R.t s.1 s.2).1 (applyF R.t s.1 s.2).2).2.2 ≠ 0 then (⟨(premF R.t s.1 s.2 (applyF R.t s.1 s.2).1 (applyF R.t s.1 s.2).2).2.1, R.st, R.vs⟩, (premF R.t s.1 s.2 (applyF R.t s.1 s.2).1 (applyF R.t s.1 s.2).2).2.2, stp0)
  else folF d ⟨(premF R.t s.1 s.2 (applyF R.t s.1 s.2).1 (applyF R.t s.1 s.2).2).2.1, R.st, R.vs⟩ ⟨s, false, (applyF R.t s.1 s.2).1, (applyF R.t s.1 s.2).2, []⟩ (premF R.t s.1 s.2 (applyF R.t s.1 s.2).1 (applyF R.t s.1 s.2).2).1) from by
    unfold entF
    rw [hz0, if_neg (by simp)]
    exact rfl
  have HPL := show Hid (P.2.2.s.1.length = 16) from ent_len hd hG hq hr hP
  clear hP hz0 hG hD hd hC hq
  generalize hap : applyF R.t s.1 s.2 = ap at *
  go_enter Tryz.func31, Tryz.ntmps31
  go_wp2_with (refine wpList_box 27 _ rfl _ rfl rfl ?_)
  intro w1 b3 hn1
  go_wp2_with (refine wpList_alloc 46 rfl _ zeroStp rfl ?_)
  intro w2 b4 hn2
  have H2 := show Hid (EL w w2 base rb pm b m v sv kvs v sv kvs B R b3 b4 s) from el_new hR hn1 hn2
  clear hn1 hn2 hR hr
  go_wp2_with fail
  refine wp_region_one (by kernel_rfl) 5 [some 11, some 12, some 13, some 14, some 15, some 16, some 10, some 17, some 18, some 19, some 6, some 7, some 8] [[], [0], [1], [2], [], [3, 4], [5], [6], [6], [6], [7], [8], [9]] [[], [0], [1, 0], [2, 1, 0], [], [3, 2, 1, 0, 4], [5, 3, 2, 1, 0, 4], [6, 5, 3, 2, 1, 0, 4], [6, 5, 3, 2, 1, 0, 4], [6, 5, 3, 2, 1, 0, 4], [7, 6, 5, 3, 2, 1, 0, 4], [8, 6, 5, 3, 2, 1, 0, 4], [9, 6, 5, 3, 2, 1, 0, 4]] (by kernel_rfl) (by decide) (fun ii vv w1 => match ii with | 0 => vv = .pointer (some ⟨rb, 0, none⟩) | 1 => vv = .pointer (some ⟨rb, 0, none⟩) | 2 => vv = .pointer (some ⟨rb, 0, none⟩) | 3 => vv = .pointer (some ⟨b, 0, none⟩) | 4 => vv = .agg (cellsQ s.1 s.2) | 5 => vv = .tuple #[.int .i64 ap.1, .int .i64 ap.2, .int .i64 0] ∧ Below w2.drew.heap.size w2.drew w1 | 6 => vv = .tuple #[.int .i64 ap.1, .int .i64 ap.2, .int .i64 0] | 7 => vv = .int .i64 ap.1 | 8 => vv = .int .i64 ap.2 | 9 => vv = .int .i64 0 | 10 => vv = .int .i64 ap.1 | 11 => vv = .int .i64 ap.2 | 12 => vv = .int .i64 0 | _ => True) ?hfree (allLt 13 ?steps) ?fin
  case hfree =>
    intro j v w1 w2 hj hn h
    match j, h, hj, hn with
    | 0, h, _, _ => exact h
    | 1, h, _, _ => exact h
    | 2, h, _, _ => exact h
    | 3, h, _, _ => exact h
    | 4, h, _, _ => exact h
    | 5, _, hj, _ => exact absurd rfl hj
    | 6, _, _, hn => exact absurd (by decide) hn
    | 7, _, _, hn => exact absurd (by decide) hn
    | 8, _, _, hn => exact absurd (by decide) hn
    | 9, _, _, hn => exact absurd (by decide) hn
    | 10, _, _, hn => exact absurd (by decide) hn
    | 11, _, _, hn => exact absurd (by decide) hn
    | 12, _, _, hn => exact absurd (by decide) hn
    | _ + 13, _, _, _ => trivial
  case steps =>
    refine ⟨⟨⟨⟨⟨⟨⟨⟨⟨⟨⟨⟨⟨trivial, ?s0⟩, ?s1⟩, ?s2⟩, ?s3⟩, ?s4⟩, ?s5⟩, ?s6⟩, ?s7⟩, ?s8⟩, ?s9⟩, ?s10⟩, ?s11⟩, ?s12⟩
    case s0 =>
      intro a w1 hw hO hN
      obtain rfl : w1 = w2.drew := hw (by decide)
      have o0 : a.tmps[0]? = some (.pointer (some ⟨rb, 0, none⟩)) := (hO.out 0 (by decide)).trans rfl
      exact relVal rfl (.pointer (some ⟨rb, 0, none⟩)) _ rfl (by go_simp) ⟨_, rfl, rfl, fun _ => rfl⟩
    case s1 =>
      intro a w1 hw hO hN
      obtain rfl : w1 = w2.drew := hw (by decide)
      obtain ⟨v0, g0, r0⟩ := hN 0 (by decide)
      have g0 : a.tmps[11]? = some v0 := g0
      have e0 : v0 = .pointer (some ⟨rb, 0, none⟩) := r0
      rw [e0] at g0
      exact relVal rfl (.pointer (some ⟨rb, 0, none⟩)) _ rfl (by go_simp) ⟨_, rfl, rfl, fun _ => rfl⟩
    case s2 =>
      intro a w1 hw hO hN
      obtain rfl : w1 = w2.drew := hw (by decide)
      obtain ⟨v1, g1, r1⟩ := hN 1 (by decide)
      have g1 : a.tmps[12]? = some v1 := g1
      have e1 : v1 = .pointer (some ⟨rb, 0, none⟩) := r1
      rw [e1] at g1
      exact relVal rfl (.pointer (some ⟨rb, 0, none⟩)) _ rfl (by go_simp) ⟨_, rfl, rfl, fun _ => rfl⟩
    case s3 =>
      intro a w1 hw hO hN
      obtain rfl : w1 = w2.drew := hw (by decide)
      obtain ⟨v2, g2, r2⟩ := hN 2 (by decide)
      have g2 : a.tmps[13]? = some v2 := g2
      have e2 : v2 = .pointer (some ⟨rb, 0, none⟩) := r2
      rw [e2] at g2
      have hc : w2.drew.cell? ⟨rb, 0, none⟩ = some (.pointer (some ⟨b, 0, none⟩)) := H2.out.drew.rn.run.cell 0
      exact relVal rfl (.pointer (some ⟨b, 0, none⟩)) _ rfl (by go_simp) ⟨_, rfl, rfl, fun _ => rfl⟩
    case s4 =>
      intro a w1 hw hO hN
      obtain rfl : w1 = w2.drew := hw (by decide)
      have o3 : a.tmps[3]? = some (.pointer (some ⟨b3, 0, none⟩)) := (hO.out 3 (by decide)).trans rfl
      have hl := loadQQ w2.drew b3 H2.out.drew.s3 hl
      exact relVal rfl (.agg (cellsQ s.1 s.2)) _ rfl (by simp [execOp, Act.eval, o3, hl, Result.andThen]) ⟨_, rfl, rfl, fun _ => rfl⟩
    case s5 =>
      intro a w1 hw hO hN
      obtain rfl : w1 = w2.drew := hw (by decide)
      obtain ⟨v3, g3, r3⟩ := hN 3 (by decide)
      have g3 : a.tmps[14]? = some v3 := g3
      have e3 : v3 = .pointer (some ⟨b, 0, none⟩) := r3
      rw [e3] at g3
      obtain ⟨v4, g4, r4⟩ := hN 4 (by decide)
      have g4 : a.tmps[15]? = some v4 := g4
      have e4 : v4 = .agg (cellsQ s.1 s.2) := r4
      rw [e4] at g4
      refine relCallF rfl rfl 13 [.tmp 14, .tmp 15] #[28, 27] rfl [.pointer (some ⟨b, 0, none⟩), .agg (cellsQ s.1 s.2)] (by simp [Act.eval, g3, g4]) (enters_of Tryz.func13 (by kernel_rfl) rfl) (Calls.mono (KA.out w2.drew v H2.out.drew.rn.tb H2.out.drew.rn.tz) ?_)
      rintro e w3 ⟨rfl, hb⟩
      exact ⟨_, rfl, _, rfl, ⟨rfl, hb⟩, fun h => absurd rfl h⟩
    case s6 =>
      intro a w1 hw hO hN
      obtain ⟨v5, g5, r5⟩ := hN 5 (by decide)
      have g5 : a.tmps[16]? = some v5 := g5
      obtain ⟨rfl, _⟩ := r5
      exact relVal rfl (.tuple #[.int .i64 ap.1, .int .i64 ap.2, .int .i64 0]) _ rfl (by go_simp) ⟨_, rfl, rfl, fun _ => rfl⟩
    case s7 =>
      intro a w1 hw hO hN
      obtain ⟨v6, g6, r6⟩ := hN 6 (by decide)
      have g6 : a.tmps[10]? = some v6 := g6
      have e6 : v6 = .tuple #[.int .i64 ap.1, .int .i64 ap.2, .int .i64 0] := r6
      rw [e6] at g6
      exact relVal rfl (.int .i64 ap.1) _ rfl (by go_simp) ⟨_, rfl, rfl, fun _ => rfl⟩
    case s8 =>
      intro a w1 hw hO hN
      obtain ⟨v6, g6, r6⟩ := hN 6 (by decide)
      have g6 : a.tmps[10]? = some v6 := g6
      have e6 : v6 = .tuple #[.int .i64 ap.1, .int .i64 ap.2, .int .i64 0] := r6
      rw [e6] at g6
      exact relVal rfl (.int .i64 ap.2) _ rfl (by go_simp) ⟨_, rfl, rfl, fun _ => rfl⟩
    case s9 =>
      intro a w1 hw hO hN
      obtain ⟨v6, g6, r6⟩ := hN 6 (by decide)
      have g6 : a.tmps[10]? = some v6 := g6
      have e6 : v6 = .tuple #[.int .i64 ap.1, .int .i64 ap.2, .int .i64 0] := r6
      rw [e6] at g6
      exact relVal rfl (.int .i64 0) _ rfl (by go_simp) ⟨_, rfl, rfl, fun _ => rfl⟩
    case s10 =>
      intro a w1 hw hO hN
      obtain ⟨v7, g7, r7⟩ := hN 7 (by decide)
      have g7 : a.tmps[17]? = some v7 := g7
      have e7 : v7 = .int .i64 ap.1 := r7
      rw [e7] at g7
      exact relVal rfl (.int .i64 ap.1) _ rfl (by go_simp) ⟨_, rfl, rfl, fun _ => rfl⟩
    case s11 =>
      intro a w1 hw hO hN
      obtain ⟨v8, g8, r8⟩ := hN 8 (by decide)
      have g8 : a.tmps[18]? = some v8 := g8
      have e8 : v8 = .int .i64 ap.2 := r8
      rw [e8] at g8
      exact relVal rfl (.int .i64 ap.2) _ rfl (by go_simp) ⟨_, rfl, rfl, fun _ => rfl⟩
    case s12 =>
      intro a w1 hw hO hN
      obtain ⟨v9, g9, r9⟩ := hN 9 (by decide)
      have g9 : a.tmps[19]? = some v9 := g9
      have e9 : v9 = .int .i64 0 := r9
      rw [e9] at g9
      exact relVal rfl (.int .i64 0) _ rfl (by go_simp) ⟨_, rfl, rfl, fun _ => rfl⟩
  case fin =>
    intro vs W1 hV
    have e6 : vs 6 = .tuple #[.int .i64 ap.1, .int .i64 ap.2, .int .i64 0] := hV 6 (by decide)
    have e7 : vs 7 = .int .i64 ap.1 := hV 7 (by decide)
    have e8 : vs 8 = .int .i64 ap.2 := hV 8 (by decide)
    have e9 : vs 9 = .int .i64 0 := hV 9 (by decide)
    have e10 : vs 10 = .int .i64 ap.1 := hV 10 (by decide)
    have e11 : vs 11 = .int .i64 ap.2 := hV 11 (by decide)
    have e12 : vs 12 = .int .i64 0 := hV 12 (by decide)
    obtain ⟨e5, hb5⟩ : vs 5 = .tuple #[.int .i64 ap.1, .int .i64 ap.2, .int .i64 0] ∧ Below w2.drew.heap.size w2.drew W1 := hV 5 (by decide)
    have H3 := show Hid _ from H2.out.drew.later hb5
    clear hb5 H2 hV
    simp only [putAll, Act.put, List.setIfInBounds_toArray, List.set_cons_zero, List.set_cons_succ, e10, e11, e12]
    clear e5 e6 e7 e8 e9 e10 e11 e12
    by_cases h14 : ap.1 = 14
    · have hp : P = chsF d s R (choF R.t s.1 s.2) [] := by rw [HP.out, HEF.out, if_pos h14]
      have KC := show Hid _ from HC.out W1 v sv kvs R s H3.out.rn HGS.out HQ.out.1 HQ.out.2 (by rw [hap]; exact h14)
      rw [← hp] at KC
      have hbk : (ap.1 == 14) = true := by rw [h14]; rfl
      clear hp HP HEF hap
      go_wp2_with (refine wpList_ldQQ _ _ rfl b3 rfl H3.out.s3 hl rfl ?_)
      refine Calls.mono KC.out ?_
      rintro e w4 ⟨kv, rfl, ho4, v4, sv4, kvs4, hn4, hR4, hA4⟩
      have H4 := show Hid (EL w w4 base rb pm b m v sv kvs v4 sv4 kvs4 B P.1 b3 b4 s) from H3.out.call hR4 hA4
      have HS4 := show Hid (w.heap.size ≤ W1.heap.size) from H3.out.af.kp.size
      have HO4 := show Hid (w4.ownsRow W1.heap.size 3 1 kv P.2.2.kd.length (kdV P.2.2.kd) ∧ (∀ k, kv.ownBlock = some k → ¬ Kb kvs4 k) ∧ P.2.2.s.1.length = 16) from ⟨ho4, hn4, HPL.out⟩
      clear ho4 hn4 hR4 hA4 KC H3
      go_wp2_with (refine wpList_stS rfl rfl _ _ rfl b4 rfl HO4.out.2.2 (own_oneC HO4.out.1) rfl rfl H4.out.c4 ?_)
      intro w5 hc5 hk5
      obtain ⟨hR5, hA5⟩ := H4.out.set4 hk5 HGZ.out
      have hO5 := own_other HO4.out.1 HS4.out H4.out.c4 hk5
      clear H4
      go_wp2_with fail
      refine bodyPost_ret (results_step rfl _ _ b4 rfl hc5 (stpC_size HO4.out.2.2 _)) rfl ?_
      exact ⟨_, rfl, hO5, v4, sv4, kvs4, HO4.out.2.1, hR5, hA5⟩
    · have hbk : (ap.1 == 14) = false := by simpa using h14
      have HF := show Hid (findF R.t s.1 s.2 ap.1 ap.2 = true) from HA.out h14
      have hp : P = if (premF R.t s.1 s.2 ap.1 ap.2).2.2 ≠ 0 then (⟨(premF R.t s.1 s.2 ap.1 ap.2).2.1, R.st, R.vs⟩, (premF R.t s.1 s.2 ap.1 ap.2).2.2, stp0) else folF d ⟨(premF R.t s.1 s.2 ap.1 ap.2).2.1, R.st, R.vs⟩ ⟨s, false, ap.1, ap.2, []⟩ (premF R.t s.1 s.2 ap.1 ap.2).1 := by rw [HP.out, HEF.out, if_neg h14]
      have HP2 := show Hid _ from hp
      have KP := show Hid (∀ W : World, Tb W b m v R.t → Bt.Tz W → Calls Tryz.prog 51 #[.pointer (some ⟨b, 0, none⟩), .agg (cellsQ s.1 s.2), .int .i64 ap.1, .int .i64 ap.2] W fun e w' => ∃ sv, e = .returned (.tuple #[sv, .int .i64 (premF R.t s.1 s.2 ap.1 ap.2).2.2]) ∧ SqR sv (premF R.t s.1 s.2 ap.1 ap.2).1 w' ∧ After W b m v (premF R.t s.1 s.2 ap.1 ap.2).2.1 w') from fun W h1 h2 => prem_any W h1 h2 HQ.out.2 s.2 ap.1 ap.2
      have HPA := show Hid ((premF R.t s.1 s.2 ap.1 ap.2).2.2 = 0 → Fm.Ok (premF R.t s.1 s.2 ap.1 ap.2).2.1 ∧ Ext R.t (premF R.t s.1 s.2 ap.1 ap.2).2.1 ∧ (∀ p ∈ (premF R.t s.1 s.2 ap.1 ap.2).1, rgt (premF R.t s.1 s.2 ap.1 ap.2).2.1.length p ∧ Ok p.1)) from fun h0 => by
        obtain ⟨a1, a2, a3, _⟩ := prem_all HGS.out.gd.ok HQ.out.2 HQ.out.1 HF.out h0
        exact ⟨a1, a2, a3⟩
      have HPL2 := show Hid ((premF R.t s.1 s.2 ap.1 ap.2).1.length ≤ 2) from (prem_rows (t := R.t) HQ.out.2 s.2 ap.1 ap.2).2
      clear hp HP HEF hap HF HA KA HC
      generalize premF R.t s.1 s.2 ap.1 ap.2 = pf at *
      go_wp2_with fail
      refine wp_region_one (by kernel_rfl) 7 [some 32, some 33, some 34, some 35, some 36, some 37, some 38, some 39, some 31, some 40, some 41, some 9, some 8] [[], [0], [1], [2], [], [], [], [3, 4, 5, 6], [7], [8], [8], [9], [10]] [[], [0], [1, 0], [2, 1, 0], [], [], [], [3, 2, 1, 0, 4, 5, 6], [7, 3, 2, 1, 0, 4, 5, 6], [8, 7, 3, 2, 1, 0, 4, 5, 6], [8, 7, 3, 2, 1, 0, 4, 5, 6], [9, 8, 7, 3, 2, 1, 0, 4, 5, 6], [10, 8, 7, 3, 2, 1, 0, 4, 5, 6]] (by kernel_rfl) (by decide) (fun ii vv w1 => match ii with | 0 => vv = .pointer (some ⟨rb, 0, none⟩) | 1 => vv = .pointer (some ⟨rb, 0, none⟩) | 2 => vv = .pointer (some ⟨rb, 0, none⟩) | 3 => vv = .pointer (some ⟨b, 0, none⟩) | 4 => vv = .agg (cellsQ s.1 s.2) | 5 => vv = .int .i64 ap.1 | 6 => vv = .int .i64 ap.2 | 7 => ∃ sv, vv = .tuple #[sv, .int .i64 pf.2.2] ∧ SqR sv pf.1 w1 ∧ After W1.drew b m v pf.2.1 w1 | 8 => ∃ sv, vv = .tuple #[sv, .int .i64 pf.2.2] ∧ SqR sv pf.1 w1 ∧ After W1.drew b m v pf.2.1 w1 | 9 => SqR vv pf.1 w1 ∧ After W1.drew b m v pf.2.1 w1 | 10 => vv = .int .i64 pf.2.2 | 11 => SqR vv pf.1 w1 ∧ After W1.drew b m v pf.2.1 w1 | 12 => vv = .int .i64 pf.2.2 | _ => True) ?hfree (allLt 13 ?steps) ?fin
      case hfree =>
        intro j v w1 w2 hj hn h
        match j, h, hj, hn with
        | 0, h, _, _ => exact h
        | 1, h, _, _ => exact h
        | 2, h, _, _ => exact h
        | 3, h, _, _ => exact h
        | 4, h, _, _ => exact h
        | 5, h, _, _ => exact h
        | 6, h, _, _ => exact h
        | 7, _, hj, _ => exact absurd rfl hj
        | 8, _, _, hn => exact absurd (by decide) hn
        | 9, _, _, hn => exact absurd (by decide) hn
        | 10, _, _, hn => exact absurd (by decide) hn
        | 11, _, _, hn => exact absurd (by decide) hn
        | 12, _, _, hn => exact absurd (by decide) hn
        | _ + 13, _, _, _ => trivial
      case steps =>
        refine ⟨⟨⟨⟨⟨⟨⟨⟨⟨⟨⟨⟨⟨trivial, ?s0⟩, ?s1⟩, ?s2⟩, ?s3⟩, ?s4⟩, ?s5⟩, ?s6⟩, ?s7⟩, ?s8⟩, ?s9⟩, ?s10⟩, ?s11⟩, ?s12⟩
        case s0 =>
          intro a w1 hw hO hN
          obtain rfl : w1 = W1.drew := hw (by decide)
          have o0 : a.tmps[0]? = some (.pointer (some ⟨rb, 0, none⟩)) := (hO.out 0 (by decide)).trans rfl
          exact relVal rfl (.pointer (some ⟨rb, 0, none⟩)) _ rfl (by go_simp) ⟨_, rfl, rfl, fun _ => rfl⟩
        case s1 =>
          intro a w1 hw hO hN
          obtain rfl : w1 = W1.drew := hw (by decide)
          obtain ⟨v0, g0, r0⟩ := hN 0 (by decide)
          have g0 : a.tmps[32]? = some v0 := g0
          have e0 : v0 = .pointer (some ⟨rb, 0, none⟩) := r0
          rw [e0] at g0
          exact relVal rfl (.pointer (some ⟨rb, 0, none⟩)) _ rfl (by go_simp) ⟨_, rfl, rfl, fun _ => rfl⟩
        case s2 =>
          intro a w1 hw hO hN
          obtain rfl : w1 = W1.drew := hw (by decide)
          obtain ⟨v1, g1, r1⟩ := hN 1 (by decide)
          have g1 : a.tmps[33]? = some v1 := g1
          have e1 : v1 = .pointer (some ⟨rb, 0, none⟩) := r1
          rw [e1] at g1
          exact relVal rfl (.pointer (some ⟨rb, 0, none⟩)) _ rfl (by go_simp) ⟨_, rfl, rfl, fun _ => rfl⟩
        case s3 =>
          intro a w1 hw hO hN
          obtain rfl : w1 = W1.drew := hw (by decide)
          obtain ⟨v2, g2, r2⟩ := hN 2 (by decide)
          have g2 : a.tmps[34]? = some v2 := g2
          have e2 : v2 = .pointer (some ⟨rb, 0, none⟩) := r2
          rw [e2] at g2
          have hc : W1.drew.cell? ⟨rb, 0, none⟩ = some (.pointer (some ⟨b, 0, none⟩)) := H3.out.drew.rn.run.cell 0
          exact relVal rfl (.pointer (some ⟨b, 0, none⟩)) _ rfl (by go_simp) ⟨_, rfl, rfl, fun _ => rfl⟩
        case s4 =>
          intro a w1 hw hO hN
          obtain rfl : w1 = W1.drew := hw (by decide)
          have o3 : a.tmps[3]? = some (.pointer (some ⟨b3, 0, none⟩)) := (hO.out 3 (by decide)).trans rfl
          have hl := loadQQ W1.drew b3 H3.out.drew.s3 hl
          exact relVal rfl (.agg (cellsQ s.1 s.2)) _ rfl (by simp [execOp, Act.eval, o3, hl, Result.andThen]) ⟨_, rfl, rfl, fun _ => rfl⟩
        case s5 =>
          intro a w1 hw hO hN
          obtain rfl : w1 = W1.drew := hw (by decide)
          have o6 : a.tmps[6]? = some (.int .i64 ap.1) := (hO.out 6 (by decide)).trans rfl
          exact relVal rfl (.int .i64 ap.1) _ rfl (by go_simp) ⟨_, rfl, rfl, fun _ => rfl⟩
        case s6 =>
          intro a w1 hw hO hN
          obtain rfl : w1 = W1.drew := hw (by decide)
          have o7 : a.tmps[7]? = some (.int .i64 ap.2) := (hO.out 7 (by decide)).trans rfl
          exact relVal rfl (.int .i64 ap.2) _ rfl (by go_simp) ⟨_, rfl, rfl, fun _ => rfl⟩
        case s7 =>
          intro a w1 hw hO hN
          obtain rfl : w1 = W1.drew := hw (by decide)
          obtain ⟨v3, g3, r3⟩ := hN 3 (by decide)
          have g3 : a.tmps[35]? = some v3 := g3
          have e3 : v3 = .pointer (some ⟨b, 0, none⟩) := r3
          rw [e3] at g3
          obtain ⟨v4, g4, r4⟩ := hN 4 (by decide)
          have g4 : a.tmps[36]? = some v4 := g4
          have e4 : v4 = .agg (cellsQ s.1 s.2) := r4
          rw [e4] at g4
          obtain ⟨v5, g5, r5⟩ := hN 5 (by decide)
          have g5 : a.tmps[37]? = some v5 := g5
          have e5 : v5 = .int .i64 ap.1 := r5
          rw [e5] at g5
          obtain ⟨v6, g6, r6⟩ := hN 6 (by decide)
          have g6 : a.tmps[38]? = some v6 := g6
          have e6 : v6 = .int .i64 ap.2 := r6
          rw [e6] at g6
          refine relCallF rfl rfl 51 [.tmp 35, .tmp 36, .tmp 37, .tmp 38] #[28, 27, 43, 3] rfl [.pointer (some ⟨b, 0, none⟩), .agg (cellsQ s.1 s.2), .int .i64 ap.1, .int .i64 ap.2] (by simp [Act.eval, g3, g4, g5, g6]) (enters_of Tryz.func51 (by kernel_rfl) rfl) (Calls.mono (KP.out W1.drew H3.out.drew.rn.tb H3.out.drew.rn.tz) ?_)
          rintro e w3 ⟨sq, rfl, hs, ha⟩
          exact ⟨_, rfl, _, rfl, ⟨sq, rfl, hs, ha⟩, fun h => absurd rfl h⟩
        case s8 =>
          intro a w1 hw hO hN
          obtain ⟨v7, g7, r7⟩ := hN 7 (by decide)
          have g7 : a.tmps[39]? = some v7 := g7
          obtain ⟨sq, rfl, hs, ha⟩ := r7
          exact relVal rfl (.tuple #[sq, .int .i64 pf.2.2]) _ rfl (by go_simp) ⟨_, rfl, ⟨sq, rfl, hs, ha⟩, fun _ => rfl⟩
        case s9 =>
          intro a w1 hw hO hN
          obtain ⟨v8, g8, r8⟩ := hN 8 (by decide)
          have g8 : a.tmps[31]? = some v8 := g8
          obtain ⟨sq, rfl, hs, ha⟩ := r8
          exact relVal rfl sq _ rfl (by go_simp) ⟨_, rfl, ⟨hs, ha⟩, fun _ => rfl⟩
        case s10 =>
          intro a w1 hw hO hN
          obtain ⟨v8, g8, r8⟩ := hN 8 (by decide)
          have g8 : a.tmps[31]? = some v8 := g8
          obtain ⟨sq, rfl, hs, ha⟩ := r8
          exact relVal rfl (.int .i64 pf.2.2) _ rfl (by go_simp) ⟨_, rfl, rfl, fun _ => rfl⟩
        case s11 =>
          intro a w1 hw hO hN
          obtain ⟨v9, g9, r9⟩ := hN 9 (by decide)
          have g9 : a.tmps[40]? = some v9 := g9
          exact relVal rfl v9 _ rfl (by go_simp) ⟨_, rfl, r9, fun _ => rfl⟩
        case s12 =>
          intro a w1 hw hO hN
          obtain ⟨v10, g10, r10⟩ := hN 10 (by decide)
          have g10 : a.tmps[41]? = some v10 := g10
          have e10 : v10 = .int .i64 pf.2.2 := r10
          rw [e10] at g10
          exact relVal rfl (.int .i64 pf.2.2) _ rfl (by go_simp) ⟨_, rfl, rfl, fun _ => rfl⟩
      case fin =>
        intro vs w1 hV
        have e12 : vs 12 = .int .i64 pf.2.2 := hV 12 (by decide)
        have e10 : vs 10 = .int .i64 pf.2.2 := hV 10 (by decide)
        obtain ⟨hs11, ha11⟩ : SqR (vs 11) pf.1 w1 ∧ After W1.drew b m v pf.2.1 w1 := hV 11 (by decide)
        obtain ⟨v4, hE4⟩ := H3.out.drew.table ha11
        have H4 := show Hid (EL w w1 base rb pm b m v sv kvs v4 sv kvs B ⟨pf.2.1, R.st, R.vs⟩ b3 b4 s ∧ SqR (vs 11) pf.1 w1) from ⟨hE4, hs11⟩
        clear hE4 hs11 ha11 hV H3 KP
        simp only [putAll, Act.put, List.setIfInBounds_toArray, List.set_cons_zero, List.set_cons_succ, e12]
        clear e12 e10
        generalize vs 11 = sq at *
        by_cases hpe : pf.2.2 = 0
        · have hpb : (pf.2.2 != 0) = false := by rw [hpe]; rfl
          obtain ⟨hO1, hE1, hrg⟩ := HPA.out hpe
          have HP3 := show Hid (P = folF d ⟨pf.2.1, R.st, R.vs⟩ ⟨s, false, ap.1, ap.2, []⟩ pf.1) from by rw [HP2.out, if_neg (by rw [hpe]; simp)]; exact rfl
          have KF := show Hid _ from fol_any HD.out HDP.out w1 H4.out.1.rn ⟨HGS.out.gd.grow hO1 hE1, HGS.out.vs, HGS.out.st, HGS.out.fu, HGS.out.mx⟩ (x := ⟨s, false, ap.1, ap.2, []⟩) HQ.out.2 rfl H4.out.2 hrg (by have := HPL2.out; omega)
          rw [← HP3.out] at KF
          clear hO1 hE1 hrg HP2 HP3 HPA
          go_wp2_with (first | (refine wpList_ldQQ _ _ rfl b3 rfl H4.out.1.s3 hl rfl ?_) | (refine wpList_bldS3 rfl _ _ _ rfl rfl rfl rfl hl ?_))
          refine Calls.mono KF.out ?_
          rintro e w4 ⟨kv, rfl, ho4, v5, sv5, kvs5, hn5, hR5, hA5⟩
          have H5 := show Hid (EL w w4 base rb pm b m v sv kvs v5 sv5 kvs5 B P.1 b3 b4 s) from H4.out.1.call hR5 hA5
          have HS4 := show Hid (w.heap.size ≤ w1.heap.size) from H4.out.1.af.kp.size
          have HO5 := show Hid (w4.ownsRow w1.heap.size 3 1 kv P.2.2.kd.length (kdV P.2.2.kd) ∧ (∀ k, kv.ownBlock = some k → ¬ Kb kvs5 k) ∧ P.2.2.s.1.length = 16) from ⟨ho4, hn5, HPL.out⟩
          clear ho4 hn5 hR5 hA5 KF H4
          go_wp2_with (refine wpList_stS rfl rfl _ _ rfl b4 rfl HO5.out.2.2 (own_oneC HO5.out.1) rfl rfl H5.out.c4 ?_)
          intro w5 hc5 hk5
          obtain ⟨hR5, hA5⟩ := H5.out.set4 hk5 HGZ.out
          have hO6 := own_other HO5.out.1 HS4.out H5.out.c4 hk5
          clear H5
          go_wp2_with fail
          refine bodyPost_ret (results_step rfl _ _ b4 rfl hc5 (stpC_size HO5.out.2.2 _)) rfl ?_
          exact ⟨_, rfl, hO6, v5, sv5, kvs5, HO5.out.2.1, hR5, hA5⟩
        · have hpb : (pf.2.2 != 0) = true := by simpa using hpe
          have hp3 : P = (⟨pf.2.1, R.st, R.vs⟩, pf.2.2, stp0) := by rw [HP2.out, if_pos hpe]
          clear HP2
          go_wp2_with (first | (refine wpList_bldS0 rfl rfl ?_) | (refine wpList_stS rfl rfl _ _ rfl b4 rfl (s := stp0) rfl rfl rfl rfl H4.out.1.c4 ?_))
          intro w5 hc5 hk5
          obtain ⟨hR5, hA5⟩ := H4.out.1.set4 hk5 HGZ.out
          subst hp3
          clear H4
          go_wp2_with fail
          refine bodyPost_ret (results_step rfl _ _ b4 rfl hc5 (stpC_size (x := stp0) rfl _)) rfl ?_
          exact ⟨_, rfl, own_nil0, v4, sv, kvs, fun k e => (by cases e), hR5, hA5⟩
end Go.Proofs.YtkejippimkjjaaaGreatDoor
