/-
  The call Run of the search: for every table that calls made, every sequent, every budget. Where the table of TrailingZeros stands as the program's text lays it. (Written by genkrn.py.)
-/
import Derived.Test.YtkejippimkjjaabDoorKG7
import Derived.Test.YtkejippimkjjaabDoorFG3
import Derived.Test.YtkejippimkjjaabDoorFG2
namespace Go.Proofs.YtkejippimkjjaabDoor
open Go.RowKit Go.Shelf Go.Maps
open Fm (Nd)
open Bt.Bs (Ok wd)
set_option linter.unusedSimpArgs false

structure Fnd where
  err : Int
  t : List Nd
  pv : Bool
  st : List Stp
  vs : Nat
deriving DecidableEq
def runF (t : List Nd) (s : SQ) (bud : Int) : Fnd :=
  if refZ t s.1 s.2 ≠ 0 then ⟨refZ t s.1 s.2, t, false, [], 0⟩
  else if bud < 1 ∨ 4096 < bud then ⟨2, t, false, [], 0⟩
  else if (decF bud.toNat bud.toNat ⟨t, [], 0⟩ s).2.1 ≠ 0 then ⟨(decF bud.toNat bud.toNat ⟨t, [], 0⟩ s).2.1, t, false, [], 0⟩
  else ⟨0, (decF bud.toNat bud.toNat ⟨t, [], 0⟩ s).1.t, ((decF bud.toNat bud.toNat ⟨t, [], 0⟩ s).1.st.getD (decF bud.toNat bud.toNat ⟨t, [], 0⟩ s).2.2 stp0).pv, (decF bud.toNat bud.toNat ⟨t, [], 0⟩ s).1.st, (decF bud.toNat bud.toNat ⟨t, [], 0⟩ s).1.vs⟩
def fndC (pv : Bool) (sv : Value) (vs : Nat) : Array Value := #[.bool pv, sv, .int .i64 (vs : Int)]
theorem sizeF : (Tryd.prog.info? 30).map (·.size) = some 3 := by kernel_rfl
theorem zeroFnd (w : World) : (zeroValue 30).run Tryd.prog w = .ok (.agg (fndC false (.slice none 0 0) 0)) w := by kernel_rfl
theorem bldF0 (w : World) : (Instr.build 30 #[]).run Tryd.prog w = .ok (.agg (fndC false (.slice none 0 0) 0)) w := by kernel_rfl
theorem bldF3 (w : World) (pv : Bool) (p : Option Addr) (n c vs : Nat) : (Instr.build 30 #[(0, .bool pv), (1, .slice p n c), (2, .int .i64 (vs : Int))]).run Tryd.prog w = .ok (.agg (fndC pv (.slice p n c) vs)) w := by kernel_rfl
theorem bldR (w : World) (b B pm : Nat) : (Instr.build 48 #[(0, .pointer (some ⟨b, 0, none⟩)), (1, .int .i64 (B : Int)), (4, .map (some pm))]).run Tryd.prog w = .ok (.agg (runC b B 0 pm (.slice none 0 0))) w := by kernel_rfl
theorem results_fnd {fn : Func} {p q : Tmp} (h : fn.results = #[.cell p 30, .tmp q]) (tmps : Array Value) (w : World) (b : Nat) {cs : Array Value} (hp : tmps.getD p undef = .pointer (some ⟨b, 0, none⟩)) (hc : Cl w b cs 30) (hs : cs.size = 3) :
    (results fn tmps).run Tryd.prog w = .ok (.tuple #[.agg cs, tmps.getD q undef]) w := by
  rw [_root_.Go.results_cell_tmp h, hp]
  simp [asAddr, run_loadVar_row w b 30 30 cs (0, 0) _ hc Tryd.underlying30 rfl (by rw [sizeF, hs]), Result.andThen]
theorem fndC_all (pv : Bool) (p : Option Addr) (n c vs : Nat) : (fndC pv (.slice p n c) vs).all (·.oneCell') = true := by simp [fndC, Value.oneCell']
section
variable {ops : Array Oper} {rest : List Oper} {o : Oper} {a : Act} {Q : Exit → Act → World → Prop} {w : World}
theorem wpList_bldF0 (hg : o.guard = none) (hop : o.op = Op.build 30 #[]) (hK : wpList Tryd.prog ops Q rest (a.put o.dst (.agg (fndC false (.slice none 0 0) 0))) w) : wpList Tryd.prog ops Q (o :: rest) a w := by
  refine wpList_plain hg fun K' hK' => ?_
  have hrun := bldF0 w
  unfold Oper.wp
  simp [execOp, hop, hrun, Result.andThen]
  exact hK' _ _ hK
theorem wpList_bldR (hg : o.guard = none) (x y z : Operand) (hop : o.op = Op.build 48 #[(0, x), (1, y), (4, z)]) (b B pm : Nat) (hx : a.eval x = .pointer (some ⟨b, 0, none⟩)) (hy : a.eval y = .int .i64 (B : Int)) (hz : a.eval z = .map (some pm)) (hK : wpList Tryd.prog ops Q rest (a.put o.dst (.agg (runC b B 0 pm (.slice none 0 0)))) w) : wpList Tryd.prog ops Q (o :: rest) a w := by
  refine wpList_plain hg fun K' hK' => ?_
  have hrun := bldR w b B pm
  unfold Oper.wp
  simp [execOp, hop, hx, hy, hz, hrun, Result.andThen]
  exact hK' _ _ hK
theorem wpList_mkM (hg : o.guard = none) (hop : o.op = Op.makeMap 46 none) (hK : ∀ w' q, ownsQ w' q (.map []) → Below w.heap.size w w' → q = w.heap.size → w'.heap.size = q + 1 → wpList Tryd.prog ops Q rest (a.put o.dst (.map (some q))) w') : wpList Tryd.prog ops Q (o :: rest) a w := by
  refine wpList_plain hg fun K' hK' => ?_
  have hrun := run_makeMap (P := Tryd.prog) 46 w
  unfold Oper.wp
  simp [execOp, hop, hrun, Result.andThen]
  exact hK' _ _ (hK _ _ (ownQ_size (World.ownsMap_made w Tryd.prog 26 (plainElem Tryd.prog 3))) (below_alloc w _) rfl (by simp))
end
theorem Ext.take {t t1 : List Nd} (h : Ext t t1) : t1.take t.length = t := by
  have hl := h.len
  apply List.ext_getElem
  · simp; omega
  · intro i h1 h2
    have := h.nod i h2
    rw [nodeOf_nat h2, nodeOf_nat (show i < t1.length by omega)] at this
    simpa using this
theorem tz_nft {w : World} {b m : Nat} {v : Value} {t : List Nd} (hT : Tb w b m v t) (hz : Bt.Tz w) (hp : 0 < t.length) : ¬ Ft b m v 0 := by
  have h0 := hz 0 (by decide)
  rintro (e | e | e)
  · subst e
    obtain ⟨p, c, rfl⟩ := hT.row.form
    have h1 := hT.c0
    rw [h1] at h0
    cases h0
  · obtain ⟨D, ⟨es, cl, hm, _⟩, _⟩ := hT.map
    subst e
    simp [World.cell?, hm] at h0
  · rcases hT.row with ⟨rfl, _⟩ | ⟨g, cap, cur, rfl, hh, h1, h2, h3, h4⟩
    · cases e
    · obtain rfl : g = _ := Option.some.inj e
      rw [cell_of_row w _ 0 cur _ _ hh] at h0
      have h5 : (cellsOf t)[0]? = (ndC t[0])[0]? := cellsOf_at t 0 0 hp (by omega)
      rw [← h4, List.getElem?_take, if_pos (by omega)] at h5
      simp only [Array.getElem?_toList] at h5
      rw [h0] at h5
      cases h5
structure RL (w0 W : World) (b4 b6 : Nat) (s : SQ) : Prop where
  s4 : SeqAt W b4 s.1 s.2
  c6 : Cl W b6 (fndC false (.slice none 0 0) 0) 30
  bel : Below w0.heap.size w0 W
  g6 : w0.heap.size ≤ b6
theorem RL.later {w0 W W' : World} {b4 b6 : Nat} {s : SQ} (h : RL w0 W b4 b6 s) (hb : Below W.heap.size W W') : RL w0 W' b4 b6 s := ⟨h.s4.later hb h.s4.lt, h.c6.later hb, h.bel.trans (hb.mono h.bel.size), h.g6⟩
structure RM (w0 W : World) (base rb pm b m : Nat) (v v' sv' : Value) (kvs' : List Value) (B : Nat) (R : Rs) (b6 : Nat) : Prop where
  rn : Rn W base rb pm b m v' sv' kvs' B R
  lv : Lies w0.heap.size v v'
  kp : Kp (Ft b m v) w0 W
  c6 : Cl W b6 (fndC false (.slice none 0 0) 0) 30
  g6 : w0.heap.size ≤ b6
theorem RM.drew {w0 W : World} {base rb pm b m : Nat} {v v' sv' : Value} {kvs' : List Value} {B : Nat} {R : Rs} {b6 : Nat} (h : RM w0 W base rb pm b m v v' sv' kvs' B R b6) : RM w0 W.drew base rb pm b m v v' sv' kvs' B R b6 := ⟨h.rn.drew, h.lv, h.kp.drew, h.c6, h.g6⟩
theorem RM.set {w0 W W' : World} {base rb pm b m : Nat} {v v' sv' : Value} {kvs' : List Value} {B : Nat} {R : Rs} {b6 : Nat} (h : RM w0 W base rb pm b m v v' sv' kvs' B R b6) (hk : KpP b6 W W') : Sts W' base sv' R.st kvs' ∧ After w0 b m v R.t W' := by
  have n6 := h.rn.other h.c6 (by decide) (by decide) (by decide) (Or.inl (by decide))
  have k6 := h.rn.sts.nkb h.c6 (by decide)
  have g6 := h.g6
  exact ⟨h.rn.sts.keep (fun k e => hk.block k (h.rn.sts.blk e).2.1 (fun e2 => n6 (e2 ▸ Or.inr (Or.inr (Or.inl e))))) (fun k e => hk.block k (h.rn.sts.kb e).2.1 (fun e2 => k6 (e2 ▸ e))), v', h.rn.tb.keep (fun k e => hk.block k (h.rn.tb.foot k e) (fun e2 => n6 (e2 ▸ Or.inr (Or.inr (Or.inr e))))), h.lv, h.kp.trans (S' := fun k => k = b6) hk (fun i hi => Or.inr (by omega))⟩
set_option maxRecDepth 100000 in
set_option maxHeartbeats 4000000 in
theorem run_any (w : World) {b m : Nat} {v : Value} {t : List Nd} (hT : Tb w b m v t) (hZ : Bt.Tz w) {s : SQ} (hr : Ok s.1) (bud : Int) :
    Calls Tryd.prog 4 #[.pointer (some ⟨b, 0, none⟩), .agg (cellsQ s.1 s.2), .int .i64 bud] w fun e w' => ∃ sv, e = .returned (.tuple #[.agg (fndC (runF t s bud).pv sv (runF t s bud).vs), .int .i64 (runF t s bud).err]) ∧ (∃ kvs, Sts w' w.heap.size sv (runF t s bud).st kvs) ∧ After w b m v (runF t s bud).t w' := by
  have hl := hr.1
  have HT := show Hid (∀ W : World, Below w.heap.size w W → Tb W b m v t ∧ Bt.Tz W) from fun W h => ⟨hT.later h, Bt.tz_block hZ h⟩
  have HA := show Hid (∀ W : World, Below w.heap.size w W → After w b m v t W) from fun W h => After.of_below hT h
  have HR := show Hid (Ok s.1) from hr
  have HGT := show Hid (refZ t s.1 s.2 = 0 → rgt t.length s) from fun h => by
    rw [ref_right hr] at h
    refine rgt_iff.1 ?_
    cases hq : rightQ t s.1 s.2
    · rw [hq, if_neg Bool.false_ne_true] at h
      exact absurd h (by decide)
    · rfl
  have HF := show Hid (runF t s bud = if refZ t s.1 s.2 ≠ 0 then ⟨refZ t s.1 s.2, t, false, [], 0⟩
  else if bud < 1 ∨ 4096 < bud then ⟨2, t, false, [], 0⟩
  else if (decF bud.toNat bud.toNat ⟨t, [], 0⟩ s).2.1 ≠ 0 then ⟨(decF bud.toNat bud.toNat ⟨t, [], 0⟩ s).2.1, t, false, [], 0⟩
  else ⟨0, (decF bud.toNat bud.toNat ⟨t, [], 0⟩ s).1.t, ((decF bud.toNat bud.toNat ⟨t, [], 0⟩ s).1.st.getD (decF bud.toNat bud.toNat ⟨t, [], 0⟩ s).2.2 stp0).pv, (decF bud.toNat bud.toNat ⟨t, [], 0⟩ s).1.st, (decF bud.toNat bud.toNat ⟨t, [], 0⟩ s).1.vs⟩) from rfl
  generalize runF t s bud = X at *
  clear hT hZ hr
  go_enter Tryd.func4, Tryd.ntmps4
  go_wp2_with (refine wpList_box 26 _ rfl _ rfl rfl ?_)
  intro w1 b4 hn1
  go_wp2_with (refine wpList_alloc 30 rfl _ zeroFnd rfl ?_)
  intro w2 b6 hn2
  have H2 := show Hid (RL w w2 b4 b6 s) from ⟨Cl.new hn1.blk hn2, hn2.blk, bel_new hn1.bel hn2, by have := hn1.bel.size; have := hn2.ge; omega⟩
  clear hn1 hn2
  have KA := show Hid _ from apply_any w2 (HT.out w2 H2.out.bel).1 (HT.out w2 H2.out.bel).2 HR.out s.2
  obtain ⟨rq, hrq⟩ : ∃ q, q = refZ t s.1 s.2 := ⟨_, rfl⟩
  rw [← hrq] at KA HF HGT
  clear hrq
  go_wp2_with (refine wpList_ldQQ _ _ rfl b4 rfl H2.out.s4 hl rfl ?_)
  refine Calls.mono KA.out ?_
  rintro e w3 ⟨rfl, hb3⟩
  have H3 := show Hid _ from H2.out.later hb3
  clear H2 hb3 KA
  by_cases hz : rq = 0
  · subst hz
    simp only [if_true]
    have HG := show Hid (rgt t.length s) from HGT.out (by trivial)
    have hX1 : X = if bud < 1 ∨ 4096 < bud then ⟨2, t, false, [], 0⟩ else if (decF bud.toNat bud.toNat ⟨t, [], 0⟩ s).2.1 ≠ 0 then ⟨(decF bud.toNat bud.toNat ⟨t, [], 0⟩ s).2.1, t, false, [], 0⟩ else ⟨0, (decF bud.toNat bud.toNat ⟨t, [], 0⟩ s).1.t, ((decF bud.toNat bud.toNat ⟨t, [], 0⟩ s).1.st.getD (decF bud.toNat bud.toNat ⟨t, [], 0⟩ s).2.2 stp0).pv, (decF bud.toNat bud.toNat ⟨t, [], 0⟩ s).1.st, (decF bud.toNat bud.toNat ⟨t, [], 0⟩ s).1.vs⟩ := by rw [HF.out, if_neg (by simp)]
    have HX1 := show Hid _ from hX1
    clear hX1 HF HGT
    generalize (if (0 : Int) = 0 then (applyF t s.1 s.2).1 else 0) = k1 at *
    generalize (if (0 : Int) = 0 then (applyF t s.1 s.2).2 else 0) = k2 at *
    by_cases hbd : bud < 1 ∨ 4096 < bud
    · have hX : X = ⟨2, t, false, [], 0⟩ := by rw [HX1.out, if_pos hbd]
      subst hX
      clear HX1
      rcases hbd with hbd | hbd
      · go_wp2_with (first | (refine wpList_bldF0 rfl rfl ?_) | (refine wpList_st 30 rfl rfl _ _ rfl b6 rfl _ rfl _ _ H3.out.c6 (by rw [sizeF]; rfl) rfl (fndC_all ..) ?_))
        intro w4 hc4 hk4
        go_wp2_with fail
        refine bodyPost_ret (results_fnd rfl _ _ b6 rfl hc4 rfl) rfl ?_
        exact ⟨_, rfl, ⟨[], sts_nil _ _⟩, HA.out _ (bel_kp H3.out.bel hk4 H3.out.g6)⟩
      · have hb1 : ¬ bud < 1 := by omega
        go_wp2_with (first | (refine wpList_bldF0 rfl rfl ?_) | (refine wpList_st 30 rfl rfl _ _ rfl b6 rfl _ rfl _ _ H3.out.c6 (by rw [sizeF]; rfl) rfl (fndC_all ..) ?_))
        intro w4 hc4 hk4
        go_wp2_with fail
        refine bodyPost_ret (results_fnd rfl _ _ b6 rfl hc4 rfl) rfl ?_
        exact ⟨_, rfl, ⟨[], sts_nil _ _⟩, HA.out _ (bel_kp H3.out.bel hk4 H3.out.g6)⟩
    · have hX2 := HX1.out
      rw [if_neg hbd] at hX2
      obtain ⟨B, hBB⟩ : ∃ B : Nat, bud = B := ⟨bud.toNat, by omega⟩
      subst hBB
      rw [Int.toNat_natCast] at hX2
      have hb1 : ¬ (B : Int) < 1 := by omega
      have hb2 : ¬ (4096 : Int) < (B : Int) := by omega
      have HX2 := show Hid _ from hX2
      clear hX2 HX1 hbd
      have KL := show Hid _ from len_any w3 (HT.out w3 H3.out.bel).1
      go_wp2_with fail
      refine Calls.mono KL.out ?_
      rintro e w3' ⟨rfl, hw3⟩
      subst w3'
      clear KL
      go_wp2_with (refine wpList_mkM rfl rfl ?_)
      intro w4 pm hm4 hb4 hpm4 hs4
      have H4 := show Hid (RL w w4 b4 b6 s ∧ ownsQ w4 pm (.map []) ∧ pm = w3.heap.size ∧ w4.heap.size = pm + 1) from ⟨H3.out.later hb4, hm4, hpm4, hs4⟩
      clear hm4 hb4 hpm4 hs4
      go_wp2_with (first | (refine wpList_bldR rfl _ _ _ rfl b B pm rfl rfl rfl ?_) | (refine wpList_box 48 _ rfl _ rfl rfl ?_))
      intro w5 rb hn5
      have H5 := show Hid (RL w w5 b4 b6 s ∧ Rn w5 w.heap.size rb pm b m v (.slice none 0 0) [] B ⟨t, [], 0⟩) from (by
        have hL := H4.out.1.later hn5.bel
        have e3 := H3.out.bel.size; have e4 := H4.out.2.2.1; have e5 := H4.out.2.2.2; have e6 := hn5.ge; have e7 := hn5.eq
        have hT5 := HT.out w5 hL.bel
        have hlt : 0 < w.heap.size := (by have h := Bt.tz_lt (HT.out w (Below.refl _ _)).2; exact h)
        have hpos : 0 < t.length := (by have h2 := HG.out.2; omega)
        have hnf := tz_nft hT5.1 hT5.2 hpos
        have hmw := (HT.out w (Below.refl _ _)).1.mlt
        refine ⟨hL, hn5.blk, hT5.1, hT5.2, sts_nil _ _, ⟨.map [], ownQ_kp H4.out.2.1 (hn5.bel.block pm (by omega)), tiedQ_nil⟩, ⟨by omega, by omega, hL.bel.size⟩, ?_, by omega⟩
        rintro (e | e | e | e)
        · omega
        · omega
        · cases e
        · exact hnf e)
      clear hn5 H4 H3
      have HGD := show Hid (Gd ⟨t, [], 0⟩) from ⟨(HT.out w (Below.refl _ _)).1.ok, fun x hx => (by cases hx), fun i j x y h => (by simp at h), fun i x h => (by simp at h)⟩
      have KD := show Hid _ from dec_all (base := w.heap.size) (rb := rb) (pm := pm) (b := b) (m := m) (B := B) (by omega) B w5 v (.slice none 0 0) [] ⟨t, [], 0⟩ s H5.out.2 HGD.out (Nat.zero_le _) (Nat.le_refl _) (by simp only; omega) HG.out HR.out
      have HPS := show Hid (Pst B ⟨t, [], 0⟩ s (decF B B ⟨t, [], 0⟩ s)) from dec_post B B _ s HGD.out (Nat.zero_le _) HG.out HR.out
      generalize decF B B ⟨t, [], 0⟩ s = q at *
      go_wp2_with (refine wpList_ldQQ _ _ rfl b4 rfl H5.out.1.s4 hl rfl ?_)
      refine Calls.mono KD.out ?_
      rintro e w6 ⟨rfl, v6, sv6, kvs6, hR6, hA6⟩
      have H6 := show Hid (RM w w6 w.heap.size rb pm b m v v6 sv6 kvs6 B q.1 b6) from (by
        have n6 := H5.out.2.other H5.out.1.c6 (by decide) (by decide) (by decide) (Or.inl (by decide))
        have hsz := H5.out.1.bel.size
        refine ⟨hR6, fun k e => ?_, (Kp.of_below (S := Ft b m v) H5.out.1.bel).trans hA6.kp (fun k hf => ?_), hA6.cl H5.out.1.c6 n6, H5.out.1.g6⟩
        · rcases hA6.lv k e with h1 | h1
          · exact Or.inl h1
          · exact Or.inr (by omega)
        · rcases hf with e | e | e | e
          · have := H5.out.2.bs.1; exact Or.inr (by omega)
          · have := H5.out.2.bs.2.1; exact Or.inr (by omega)
          · cases e
          · exact Or.inl e)
      clear hR6 hA6 KD H5
      by_cases he : q.2.1 = 0
      · have heb : (q.2.1 != 0) = false := by rw [he]; rfl
        obtain ⟨y, hy, _, _⟩ := HPS.out.at he
        have hlt6 := (List.getElem?_eq_some_iff.1 hy).1
        obtain ⟨pv, hpv⟩ : ∃ pv, pv = y.pv := ⟨_, rfl⟩
        have hX3 : X = ⟨0, q.1.t, pv, q.1.st, q.1.vs⟩ := by rw [HX2.out, if_neg (by rw [he]; simp), getD_some hy stp0, hpv]
        subst hX3
        obtain ⟨gs, cs, rfl, hpc⟩ := H6.out.rn.sts.pv hy
        have HPC := show Hid (w6.cell? ⟨gs, q.2.2 * 21 + 17, none⟩ = some (.bool pv)) from by rw [hpv]; exact hpc
        have hil : (q.2.2 : Int) < (q.1.st.length : Int) := by omega
        clear HX2 HPS hy hpc hpv
        go_wp2_with fail
        refine wp_region_one (by kernel_rfl) 17 [some 53, some 54, some 55, some 56, some 57, some 58, some 59, some 60, some 61, some 62, some 63, some 64, some 65, some 66, some 67, some 68, some 69, none, some 7] [[], [0], [1], [2], [], [3, 4], [5], [6], [], [8], [9], [10], [], [12], [13], [14], [7, 11, 15], [16], []] [[], [0], [1, 0], [2, 1, 0], [], [3, 2, 1, 0, 4], [5, 3, 2, 1, 0, 4], [6, 5, 3, 2, 1, 0, 4], [], [8], [9, 8], [10, 9, 8], [], [12], [13, 12], [14, 13, 12], [7, 6, 5, 3, 2, 1, 0, 4, 11, 10, 9, 8, 15, 14, 13, 12], [16, 7, 6, 5, 3, 2, 1, 0, 4, 11, 10, 9, 8, 15, 14, 13, 12], []] (by kernel_rfl) (by decide) (fun ii vv w1 => match ii with | 0 => vv = .pointer (some ⟨rb, 0, none⟩) | 1 => vv = .pointer (some ⟨rb, 0, none⟩) | 2 => vv = .pointer (some ⟨rb, 3, none⟩) | 3 => vv = .slice (some ⟨gs, 0, none⟩) q.1.st.length cs | 4 => vv = .int .i64 (q.2.2 : Int) | 5 => vv = .pointer (some ⟨gs, q.2.2 * 21, none⟩) | 6 => vv = .pointer (some ⟨gs, q.2.2 * 21 + 17, none⟩) | 7 => vv = .bool pv | 8 => vv = .pointer (some ⟨rb, 0, none⟩) | 9 => vv = .pointer (some ⟨rb, 0, none⟩) | 10 => vv = .pointer (some ⟨rb, 3, none⟩) | 11 => vv = .slice (some ⟨gs, 0, none⟩) q.1.st.length cs | 12 => vv = .pointer (some ⟨rb, 0, none⟩) | 13 => vv = .pointer (some ⟨rb, 0, none⟩) | 14 => vv = .pointer (some ⟨rb, 2, none⟩) | 15 => vv = .int .i64 (q.1.vs : Int) | 16 => vv = .agg (fndC pv (.slice (some ⟨gs, 0, none⟩) q.1.st.length cs) q.1.vs) | 17 => Cl w1 b6 (fndC pv (.slice (some ⟨gs, 0, none⟩) q.1.st.length cs) q.1.vs) 30 ∧ KpP b6 w6.drew w1 | 18 => vv = .int .i64 0 | _ => True) ?hfree (allLt 19 ?steps) ?fin
        case hfree =>
          intro j v w1 w2 hj hn h
          match j, h, hj, hn with
          | 0, h, _, _ => exact h
          | 1, h, _, _ => exact h
          | 2, h, _, _ => exact h
          | 3, h, _, _ => exact h
          | 4, h, _, _ => exact h
          | 5, h, _, _ => exact h
          | 6, h, _, _ => exact h
          | 7, h, _, _ => exact h
          | 8, h, _, _ => exact h
          | 9, h, _, _ => exact h
          | 10, h, _, _ => exact h
          | 11, h, _, _ => exact h
          | 12, h, _, _ => exact h
          | 13, h, _, _ => exact h
          | 14, h, _, _ => exact h
          | 15, h, _, _ => exact h
          | 16, h, _, _ => exact h
          | 17, _, hj, _ => exact absurd rfl hj
          | 18, h, _, _ => exact h
          | _ + 19, _, _, _ => trivial
        case steps =>
          refine ⟨⟨⟨⟨⟨⟨⟨⟨⟨⟨⟨⟨⟨⟨⟨⟨⟨⟨⟨trivial, ?s0⟩, ?s1⟩, ?s2⟩, ?s3⟩, ?s4⟩, ?s5⟩, ?s6⟩, ?s7⟩, ?s8⟩, ?s9⟩, ?s10⟩, ?s11⟩, ?s12⟩, ?s13⟩, ?s14⟩, ?s15⟩, ?s16⟩, ?s17⟩, ?s18⟩
          case s0 =>
            intro a w1 hw hO hN
            obtain rfl : w1 = w6.drew := hw (by decide)
            have o12 : a.tmps[12]? = some (.pointer (some ⟨rb, 0, none⟩)) := (hO.out 12 (by decide)).trans rfl
            exact relVal rfl (.pointer (some ⟨rb, 0, none⟩)) _ rfl (by go_simp) ⟨_, rfl, rfl, fun _ => rfl⟩
          case s1 =>
            intro a w1 hw hO hN
            obtain rfl : w1 = w6.drew := hw (by decide)
            obtain ⟨v0, g0, r0⟩ := hN 0 (by decide)
            have g0 : a.tmps[53]? = some v0 := g0
            have e0 : v0 = .pointer (some ⟨rb, 0, none⟩) := r0
            rw [e0] at g0
            exact relVal rfl (.pointer (some ⟨rb, 0, none⟩)) _ rfl (by go_simp) ⟨_, rfl, rfl, fun _ => rfl⟩
          case s2 =>
            intro a w1 hw hO hN
            obtain rfl : w1 = w6.drew := hw (by decide)
            obtain ⟨v1, g1, r1⟩ := hN 1 (by decide)
            have g1 : a.tmps[54]? = some v1 := g1
            have e1 : v1 = .pointer (some ⟨rb, 0, none⟩) := r1
            rw [e1] at g1
            exact relVal rfl (.pointer (some ⟨rb, 3, none⟩)) _ rfl (by go_simp) ⟨_, rfl, rfl, fun _ => rfl⟩
          case s3 =>
            intro a w1 hw hO hN
            obtain rfl : w1 = w6.drew := hw (by decide)
            obtain ⟨v2, g2, r2⟩ := hN 2 (by decide)
            have g2 : a.tmps[55]? = some v2 := g2
            have e2 : v2 = .pointer (some ⟨rb, 3, none⟩) := r2
            rw [e2] at g2
            have hc : w6.drew.cell? ⟨rb, 3, none⟩ = some (.slice (some ⟨gs, 0, none⟩) q.1.st.length cs) := H6.out.drew.rn.run.cell 3
            exact relVal rfl (.slice (some ⟨gs, 0, none⟩) q.1.st.length cs) _ rfl (by go_simp) ⟨_, rfl, rfl, fun _ => rfl⟩
          case s4 =>
            intro a w1 hw hO hN
            obtain rfl : w1 = w6.drew := hw (by decide)
            have o13 : a.tmps[13]? = some (.int .i64 (q.2.2 : Int)) := (hO.out 13 (by decide)).trans rfl
            exact relVal rfl (.int .i64 (q.2.2 : Int)) _ rfl (by go_simp) ⟨_, rfl, rfl, fun _ => rfl⟩
          case s5 =>
            intro a w1 hw hO hN
            obtain rfl : w1 = w6.drew := hw (by decide)
            obtain ⟨v3, g3, r3⟩ := hN 3 (by decide)
            have g3 : a.tmps[56]? = some v3 := g3
            have e3 : v3 = .slice (some ⟨gs, 0, none⟩) q.1.st.length cs := r3
            rw [e3] at g3
            obtain ⟨v4, g4, r4⟩ := hN 4 (by decide)
            have g4 : a.tmps[57]? = some v4 := g4
            have e4 : v4 = .int .i64 (q.2.2 : Int) := r4
            rw [e4] at g4
            exact relVal rfl (.pointer (some ⟨gs, q.2.2 * 21, none⟩)) _ rfl (by go_simp) ⟨_, rfl, rfl, fun _ => rfl⟩
          case s6 =>
            intro a w1 hw hO hN
            obtain rfl : w1 = w6.drew := hw (by decide)
            obtain ⟨v5, g5, r5⟩ := hN 5 (by decide)
            have g5 : a.tmps[58]? = some v5 := g5
            have e5 : v5 = .pointer (some ⟨gs, q.2.2 * 21, none⟩) := r5
            rw [e5] at g5
            exact relVal rfl (.pointer (some ⟨gs, q.2.2 * 21 + 17, none⟩)) _ rfl (by go_simp) ⟨_, rfl, rfl, fun _ => rfl⟩
          case s7 =>
            intro a w1 hw hO hN
            obtain rfl : w1 = w6.drew := hw (by decide)
            obtain ⟨v6, g6, r6⟩ := hN 6 (by decide)
            have g6 : a.tmps[59]? = some v6 := g6
            have e6 : v6 = .pointer (some ⟨gs, q.2.2 * 21 + 17, none⟩) := r6
            rw [e6] at g6
            have hc : w6.drew.cell? ⟨gs, q.2.2 * 21 + 17, none⟩ = some (.bool pv) := HPC.out
            exact relVal rfl (.bool pv) _ rfl (by go_simp) ⟨_, rfl, rfl, fun _ => rfl⟩
          case s8 =>
            intro a w1 hw hO hN
            obtain rfl : w1 = w6.drew := hw (by decide)
            have o12 : a.tmps[12]? = some (.pointer (some ⟨rb, 0, none⟩)) := (hO.out 12 (by decide)).trans rfl
            exact relVal rfl (.pointer (some ⟨rb, 0, none⟩)) _ rfl (by go_simp) ⟨_, rfl, rfl, fun _ => rfl⟩
          case s9 =>
            intro a w1 hw hO hN
            obtain rfl : w1 = w6.drew := hw (by decide)
            obtain ⟨v8, g8, r8⟩ := hN 8 (by decide)
            have g8 : a.tmps[61]? = some v8 := g8
            have e8 : v8 = .pointer (some ⟨rb, 0, none⟩) := r8
            rw [e8] at g8
            exact relVal rfl (.pointer (some ⟨rb, 0, none⟩)) _ rfl (by go_simp) ⟨_, rfl, rfl, fun _ => rfl⟩
          case s10 =>
            intro a w1 hw hO hN
            obtain rfl : w1 = w6.drew := hw (by decide)
            obtain ⟨v9, g9, r9⟩ := hN 9 (by decide)
            have g9 : a.tmps[62]? = some v9 := g9
            have e9 : v9 = .pointer (some ⟨rb, 0, none⟩) := r9
            rw [e9] at g9
            exact relVal rfl (.pointer (some ⟨rb, 3, none⟩)) _ rfl (by go_simp) ⟨_, rfl, rfl, fun _ => rfl⟩
          case s11 =>
            intro a w1 hw hO hN
            obtain rfl : w1 = w6.drew := hw (by decide)
            obtain ⟨v10, g10, r10⟩ := hN 10 (by decide)
            have g10 : a.tmps[63]? = some v10 := g10
            have e10 : v10 = .pointer (some ⟨rb, 3, none⟩) := r10
            rw [e10] at g10
            have hc : w6.drew.cell? ⟨rb, 3, none⟩ = some (.slice (some ⟨gs, 0, none⟩) q.1.st.length cs) := H6.out.drew.rn.run.cell 3
            exact relVal rfl (.slice (some ⟨gs, 0, none⟩) q.1.st.length cs) _ rfl (by go_simp) ⟨_, rfl, rfl, fun _ => rfl⟩
          case s12 =>
            intro a w1 hw hO hN
            obtain rfl : w1 = w6.drew := hw (by decide)
            have o12 : a.tmps[12]? = some (.pointer (some ⟨rb, 0, none⟩)) := (hO.out 12 (by decide)).trans rfl
            exact relVal rfl (.pointer (some ⟨rb, 0, none⟩)) _ rfl (by go_simp) ⟨_, rfl, rfl, fun _ => rfl⟩
          case s13 =>
            intro a w1 hw hO hN
            obtain rfl : w1 = w6.drew := hw (by decide)
            obtain ⟨v12, g12, r12⟩ := hN 12 (by decide)
            have g12 : a.tmps[65]? = some v12 := g12
            have e12 : v12 = .pointer (some ⟨rb, 0, none⟩) := r12
            rw [e12] at g12
            exact relVal rfl (.pointer (some ⟨rb, 0, none⟩)) _ rfl (by go_simp) ⟨_, rfl, rfl, fun _ => rfl⟩
          case s14 =>
            intro a w1 hw hO hN
            obtain rfl : w1 = w6.drew := hw (by decide)
            obtain ⟨v13, g13, r13⟩ := hN 13 (by decide)
            have g13 : a.tmps[66]? = some v13 := g13
            have e13 : v13 = .pointer (some ⟨rb, 0, none⟩) := r13
            rw [e13] at g13
            exact relVal rfl (.pointer (some ⟨rb, 2, none⟩)) _ rfl (by go_simp) ⟨_, rfl, rfl, fun _ => rfl⟩
          case s15 =>
            intro a w1 hw hO hN
            obtain rfl : w1 = w6.drew := hw (by decide)
            obtain ⟨v14, g14, r14⟩ := hN 14 (by decide)
            have g14 : a.tmps[67]? = some v14 := g14
            have e14 : v14 = .pointer (some ⟨rb, 2, none⟩) := r14
            rw [e14] at g14
            have hc : w6.drew.cell? ⟨rb, 2, none⟩ = some (.int .i64 (q.1.vs : Int)) := H6.out.drew.rn.run.cell 2
            exact relVal rfl (.int .i64 (q.1.vs : Int)) _ rfl (by go_simp) ⟨_, rfl, rfl, fun _ => rfl⟩
          case s16 =>
            intro a w1 hw hO hN
            obtain rfl : w1 = w6.drew := hw (by decide)
            obtain ⟨v7, g7, r7⟩ := hN 7 (by decide)
            have g7 : a.tmps[60]? = some v7 := g7
            have e7 : v7 = .bool pv := r7
            rw [e7] at g7
            obtain ⟨v11, g11, r11⟩ := hN 11 (by decide)
            have g11 : a.tmps[64]? = some v11 := g11
            have e11 : v11 = .slice (some ⟨gs, 0, none⟩) q.1.st.length cs := r11
            rw [e11] at g11
            obtain ⟨v15, g15, r15⟩ := hN 15 (by decide)
            have g15 : a.tmps[68]? = some v15 := g15
            have e15 : v15 = .int .i64 (q.1.vs : Int) := r15
            rw [e15] at g15
            have hb1 := bldF3 w6.drew pv (some ⟨gs, 0, none⟩) q.1.st.length cs q.1.vs
            exact relVal rfl (.agg (fndC pv (.slice (some ⟨gs, 0, none⟩) q.1.st.length cs) q.1.vs)) _ rfl (by simp [execOp, Act.eval, g7, g11, g15, hb1, Result.andThen]) ⟨_, rfl, rfl, fun _ => rfl⟩
          case s17 =>
            intro a w1 hw hO hN
            obtain rfl : w1 = w6.drew := hw (by decide)
            obtain ⟨v16, g16, r16⟩ := hN 16 (by decide)
            have g16 : a.tmps[69]? = some v16 := g16
            have e16 : v16 = .agg (fndC pv (.slice (some ⟨gs, 0, none⟩) q.1.st.length cs) q.1.vs) := r16
            rw [e16] at g16
            have o6 : a.tmps[6]? = some (.pointer (some ⟨b6, 0, none⟩)) := (hO.out 6 (by decide)).trans rfl
            have hst : (Instr.storeAt 30 (.pointer (some ⟨b6, 0, none⟩)) (.agg (fndC pv (.slice (some ⟨gs, 0, none⟩) q.1.st.length cs) q.1.vs))).run Tryd.prog w6.drew = .ok () (w6.drew.setRow b6 (fndC pv (.slice (some ⟨gs, 0, none⟩) q.1.st.length cs) q.1.vs)) := by
              simp only [Instr.storeAt, Instr.sureAddr, Sem.run_bind, Sem.run_pure, Result.andThen]
              exact run_storeVar_row w6.drew b6 30 30 _ _ H6.out.drew.c6 (by rw [sizeF]; rfl) rfl (fndC_all ..)
            exact relStore rfl rfl 30 (.tmp 6) (.tmp 69) rfl (by simp [Act.eval, o6]) (by simp [Act.eval, g16]) hst ⟨_, rfl, ⟨setRow_heap w6.drew b6 _ _ _ _ H6.out.drew.c6, setRow_kp w6.drew b6 _⟩, fun h => absurd rfl h⟩
          case s18 =>
            intro a w1 hw hO hN
            exact relVal rfl (.int .i64 0) _ rfl (by go_simp) ⟨_, rfl, rfl, fun _ => rfl⟩
        case fin =>
          intro vs w1 hV
          obtain ⟨hc17, hk17⟩ : Cl w1 b6 (fndC pv (.slice (some ⟨gs, 0, none⟩) q.1.st.length cs) q.1.vs) 30 ∧ KpP b6 w6.drew w1 := hV 17 (by decide)
          have e18 : vs 18 = .int .i64 0 := hV 18 (by decide)
          obtain ⟨hS8, hA8⟩ := H6.out.drew.set hk17
          clear hV H6 hk17
          simp only [putAll, Act.put, List.setIfInBounds_toArray, List.set_cons_zero, List.set_cons_succ, e18]
          clear e18
          go_wp2_with fail
          refine bodyPost_ret (results_fnd rfl _ _ b6 rfl hc17 rfl) rfl ?_
          exact ⟨_, rfl, ⟨kvs6, hS8⟩, hA8⟩
      · have heb : (q.2.1 != 0) = true := by simpa using he
        have hX3 : X = ⟨q.2.1, t, false, [], 0⟩ := by rw [HX2.out, if_pos he]
        have hcr : cutR q.1.t (t.length : Int) = (0, t) := by
          have hE := HPS.out.ext
          have hlen := hE.len
          simp only at hlen
          unfold cutR
          rw [if_pos ⟨by omega, by omega⟩, Int.toNat_natCast]
          rw [show q.1.t.take t.length = t from hE.take]
        have KC := show Hid _ from cut_any w6 H6.out.rn.tb (t.length : Int)
        rw [hcr] at KC
        subst hX3
        clear HX2 hcr HPS
        go_wp2_with fail
        refine Calls.mono KC.out ?_
        rintro e w7 ⟨rfl, ha7⟩
        have n6 := H6.out.rn.other H6.out.c6 (by decide) (by decide) (by decide) (Or.inl (by decide))
        have H7 := show Hid (Cl w7 b6 (fndC false (.slice none 0 0) 0) 30 ∧ After w b m v t w7 ∧ w.heap.size ≤ b6) from (by
          refine ⟨?_, After.trans H6.out.lv H6.out.kp ha7, H6.out.g6⟩
          obtain ⟨_, _, _, hk7⟩ := ha7
          exact (hk7.block b6 H6.out.c6.lt (fun hf => n6 (Or.inr (Or.inr (Or.inr hf))))).trans H6.out.c6)
        clear ha7 n6 H6 KC
        go_wp2_with (first | (refine wpList_bldF0 rfl rfl ?_) | (refine wpList_st 30 rfl rfl _ _ rfl b6 rfl _ rfl _ _ H7.out.1 (by rw [sizeF]; rfl) rfl (fndC_all ..) ?_))
        intro w8 hc8 hk8
        go_wp2_with fail
        refine bodyPost_ret (results_fnd rfl _ _ b6 rfl hc8 rfl) rfl ?_
        refine ⟨_, rfl, ⟨[], sts_nil _ _⟩, ?_⟩
        obtain ⟨v7, hT7, hl7, hk7⟩ := H7.out.2.1
        have hg6 := H7.out.2.2
        refine ⟨v7, hT7.keep (fun k hf => hk8.block k (hT7.foot k hf) (fun e => ?_)), hl7, hk7.trans (S' := fun k => k = b6) hk8 (fun i hi => Or.inr (by omega))⟩
        subst e
        exact cells_nft H7.out.1 (by decide) (by decide) hT7 hf
  · have hzb : (rq != 0) = true := by simpa using hz
    have hX : X = ⟨rq, t, false, [], 0⟩ := by rw [HF.out, if_pos hz]
    subst hX
    rw [if_neg hz, if_neg hz]
    clear HF HGT hz
    go_wp2_with (first | (refine wpList_bldF0 rfl rfl ?_) | (refine wpList_st 30 rfl rfl _ _ rfl b6 rfl _ rfl _ _ H3.out.c6 (by rw [sizeF]; rfl) rfl (fndC_all ..) ?_))
    intro w4 hc4 hk4
    go_wp2_with fail
    refine bodyPost_ret (results_fnd rfl _ _ b6 rfl hc4 rfl) rfl ?_
    exact ⟨_, rfl, ⟨[], sts_nil _ _⟩, HA.out _ (bel_kp H3.out.bel hk4 H3.out.g6)⟩
end Go.Proofs.YtkejippimkjjaabDoor
