/-
  A step put behind a search's steps: the region that draws its order. No condition.
-/
import Derived.Test.YtkejippimkjjaaaGreatDoorKG6
import Derived.Test.YtkejippimkjjaaaGreatDoorKG4
import Derived.Test.YtkejippimkjjaaaGreatDoorKCho
import Derived.Test.YtkejippimkjjaaaGreatDoorFG3
import Derived.Test.YtkejippimkjjaaaGreatDoorFG2
namespace Go.Proofs.YtkejippimkjjaaaGreatDoor
open Go.RowKit Go.Shelf Go.Maps
open Fm (Nd)
open Bt.Bs (Ok wd)
set_option linter.unusedSimpArgs false

def runC (b B vs pm : Nat) (sv : Value) : Array Value := #[.pointer (some ⟨b, 0, none⟩), .int .i64 (B : Int), .int .i64 (vs : Int), sv, .map (some pm)]
theorem bsS16 (w : World) (r0 r1 r2 r3 r4 r5 r6 r7 r8 r9 r10 r11 r12 r13 r14 r15 : Nat) (g ru mn : Int) (pv : Bool) (kd : List Nat) (kv : Value) : (Instr.buildSlice 33 1 #[(0, .agg (stpC ⟨([r0, r1, r2, r3, r4, r5, r6, r7, r8, r9, r10, r11, r12, r13, r14, r15], g), pv, ru, mn, kd⟩ kv))]).run Tryz.prog w = .ok (.slice (some ⟨w.heap.size, 0, none⟩) 1 1) (w.alloc (.cells (stpC ⟨([r0, r1, r2, r3, r4, r5, r6, r7, r8, r9, r10, r11, r12, r13, r14, r15], g), pv, ru, mn, kd⟩ kv) 46)) := by kernel_rfl
theorem bsS (w : World) {x : Stp} (hx : x.s.1.length = 16) (kv : Value) : (Instr.buildSlice 33 1 #[(0, .agg (stpC x kv))]).run Tryz.prog w = .ok (.slice (some ⟨w.heap.size, 0, none⟩) 1 1) (w.alloc (.cells (stpC x kv) 46)) := by
  obtain ⟨⟨r, g⟩, pv, ru, mn, kd⟩ := x
  simp only at hx
  match r, hx with
  | [r0, r1, r2, r3, r4, r5, r6, r7, r8, r9, r10, r11, r12, r13, r14, r15], _ => exact bsS16 ..
theorem run_stV {w : World} {b B vs pm rb : Nat} {sv : Value} (h : Cl w rb (runC b B vs pm sv) 62) (p : Option Addr) (n c : Nat) : (Instr.storeAt 33 (.pointer (some ⟨rb, 3, none⟩)) (.slice p n c)).run Tryz.prog w = .ok () (w.setCell ⟨rb, 3, none⟩ (.slice p n c)) := by
  have hc : w.cell? ⟨rb, 3, none⟩ = some sv := h.cell 3
  have hf := h.fr 3
  go_simp
theorem run_set {w : World} {b B vs pm rb : Nat} {sv : Value} (h : Cl w rb (runC b B vs pm sv) 62) (sv' : Value) : Cl (w.setCell ⟨rb, 3, none⟩ sv') rb (runC b B vs pm sv') 62 := heap_setCell_same w rb 3 _ _ _ h
def FtA (rb : Nat) (sv : Value) (i k : Nat) : Prop := (i = 7 ∧ sv.ownBlock = some k) ∨ (i = 10 ∧ k = rb)
section
variable {W : World} {base rb b B vs pm b8 n : Nat} {sv kv : Value} {x : Stp} {xs : List Value}
theorem app_le (hrb : rb < W.heap.size) (hsv : ∀ k, sv.ownBlock = some k → k < W.heap.size) (hne : sv.ownBlock ≠ some rb) : ∀ (i j : Nat) (vv : Value) (w w' : World), i ≠ j → i ∉ ([[], [], [1], [2, 1], [3, 2, 1], [], [5], [4, 3, 2, 1, 6, 5], [0], [8, 0], [9, 8, 0, 7, 4, 3, 2, 1, 6, 5]] : List (List Nat)).getD j [] → Kp (FtA rb sv i) w w' →
    (fun ii vv w1 => match ii with | 0 => vv = .pointer (some ⟨rb, 0, none⟩) | 1 => vv = .pointer (some ⟨rb, 0, none⟩) | 2 => vv = .pointer (some ⟨rb, 0, none⟩) | 3 => vv = .pointer (some ⟨rb, 3, none⟩) | 4 => vv = sv | 5 => vv = .agg (stpC x kv) | 6 => ∃ q, vv = .slice (some ⟨q, 0, none⟩) 1 1 ∧ Cl w1 q (stpC x kv) 46 ∧ W.heap.size ≤ q | 7 => w1.ownsRow base 46 21 vv (n + 1) (xs ++ stpL x kv) ∧ Lies W.heap.size sv vv | 8 => vv = .pointer (some ⟨rb, 0, none⟩) | 9 => vv = .pointer (some ⟨rb, 3, none⟩) | 10 => ∃ sv', Cl w1 rb (runC b B vs pm sv') 62 ∧ w1.ownsRow base 46 21 sv' (n + 1) (xs ++ stpL x kv) ∧ Lies W.heap.size sv sv' | _ => True : Nat → Value → World → Prop) j vv w →
    (fun ii vv w1 => match ii with | 0 => vv = .pointer (some ⟨rb, 0, none⟩) | 1 => vv = .pointer (some ⟨rb, 0, none⟩) | 2 => vv = .pointer (some ⟨rb, 0, none⟩) | 3 => vv = .pointer (some ⟨rb, 3, none⟩) | 4 => vv = sv | 5 => vv = .agg (stpC x kv) | 6 => ∃ q, vv = .slice (some ⟨q, 0, none⟩) 1 1 ∧ Cl w1 q (stpC x kv) 46 ∧ W.heap.size ≤ q | 7 => w1.ownsRow base 46 21 vv (n + 1) (xs ++ stpL x kv) ∧ Lies W.heap.size sv vv | 8 => vv = .pointer (some ⟨rb, 0, none⟩) | 9 => vv = .pointer (some ⟨rb, 3, none⟩) | 10 => ∃ sv', Cl w1 rb (runC b B vs pm sv') 62 ∧ w1.ownsRow base 46 21 sv' (n + 1) (xs ++ stpL x kv) ∧ Lies W.heap.size sv sv' | _ => True : Nat → Value → World → Prop) j vv w' := by
  intro i j vv w w' hij hn hk h
  match j, h, hn, hij with
  | 0, h, _, _ => exact h
  | 1, h, _, _ => exact h
  | 2, h, _, _ => exact h
  | 3, h, _, _ => exact h
  | 4, h, _, _ => exact h
  | 5, h, _, _ => exact h
  | 6, h, _, _ =>
    obtain ⟨q, hv, hc, hq⟩ := h
    refine ⟨q, hv, (hk.block q hc.lt (fun hf => ?_)).trans hc, hq⟩
    rcases hf with ⟨_, e⟩ | ⟨_, e⟩
    · have := hsv q e; omega
    · omega
  | 7, h, _, hij =>
    refine ⟨own_kp h.1 fun k e => hk.block k (own_blk h.1 k e).2.1 (fun hf => ?_), h.2⟩
    rcases hf with ⟨e7, _⟩ | ⟨_, e2⟩
    · exact hij e7
    · rcases h.2 k e with h1 | h1
      · exact hne (e2 ▸ h1)
      · omega
  | 8, h, _, _ => exact h
  | 9, h, _, _ => exact h
  | 10, h, hn, hij =>
    have hno : ∀ k, ¬ FtA rb sv i k := fun k hf => by
      rcases hf with ⟨e7, _⟩ | ⟨e10, _⟩
      · exact hn (by rw [e7]; decide)
      · exact hij e10
    obtain ⟨sv', h1, h2, h3⟩ := h
    exact ⟨sv', (hk.block rb h1.lt (hno rb)).trans h1, own_kp h2 fun k e => hk.block k (own_blk h2 k e).2.1 (hno k), h3⟩
  | _ + 11, _, _, _ => trivial
structure SA (W w : World) (base rb b B vs pm b8 n : Nat) (sv kv : Value) (x : Stp) (xs : List Value) (done : Nat → Bool) : Prop where
  kp : Kp (fun k => k = rb ∨ sv.ownBlock = some k) W w
  row : done 7 = false → w.ownsRow base 46 21 sv n xs
  run : done 10 = false → Cl w rb (runC b B vs pm sv) 62
theorem SA.other {w w' : World} {done : Nat → Bool} (h : SA W w base rb b B vs pm b8 n sv kv x xs done) (i : Nat) (hb : Below w.heap.size w w') : SA W w' base rb b B vs pm b8 n sv kv x xs (fun j => j == i || done j) := by
  refine ⟨h.kp.trans (Kp.of_below (S := fun _ => False) hb) (fun _ hf => hf.elim), fun hd => ?_, fun hd => ?_⟩
  · simp only [Bool.or_eq_false_iff] at hd
    exact own_kp (h.row hd.2) fun k e => hb.block k (own_blk (h.row hd.2) k e).2.1
  · simp only [Bool.or_eq_false_iff] at hd
    exact (h.run hd.2).later hb
end
theorem Rn.put {W W1 W2 : World} {base base' rb pm b m : Nat} {v sv sv' kv : Value} {kvs : List Value} {B : Nat} {R : Rs} {x : Stp} (h : Rn W base rb pm b m v sv kvs B R) (hx : Ok x.s.1) (hkv : W.ownsRow base' 3 1 kv x.kd.length (kdV x.kd)) (hb : base ≤ base')
    (hm1 : ∃ D', ownsQ W1 pm D' ∧ TiedQ D' (R.st ++ [x])) (hk1 : Kp (fun k => k = pm) W W1) (hrun : Cl W2 rb (runC b B R.vs pm sv') 62) (hrow : W2.ownsRow base 46 21 sv' (R.st.length + 1) (stsL R.st kvs ++ stpL x kv)) (hl : Lies W1.heap.size sv sv') (hk2 : Kp (fun k => k = rb ∨ sv.ownBlock = some k) W1 W2) :
    Rn W2 base rb pm b m v sv' (kvs ++ [kv]) B ⟨R.t, R.st ++ [x], R.vs⟩ ∧ Lies W.heap.size sv sv' ∧ Kp (FtR rb pm b m v sv) W W2 := by
  have hk : Kp (fun k => k = pm ∨ k = rb ∨ sv.ownBlock = some k) W W2 := Kp.trans (S := fun k => k = pm ∨ k = rb ∨ sv.ownBlock = some k) ⟨hk1.os, hk1.tape, hk1.output, hk1.size, fun k hk hn => hk1.block k hk (fun e => hn (Or.inl e))⟩ hk2 (fun i hi => Or.inl (Or.inr hi))
  have hkF : Kp (FtR rb pm b m v sv) W W2 := ⟨hk.os, hk.tape, hk.output, hk.size, fun k hlt hn => hk.block k hlt (fun e => by
    rcases e with e | e | e
    · exact hn (Or.inr (Or.inl e))
    · exact hn (Or.inl e)
    · exact hn (Or.inr (Or.inr (Or.inl e))))⟩
  have hl2 : Lies W.heap.size sv sv' := fun k e => by
    rcases hl k e with h1 | h1
    · exact Or.inl h1
    · exact Or.inr (Nat.le_trans hk1.size h1)
  have hnT : ∀ k, Ft b m v k → ¬ (k = pm ∨ k = rb ∨ sv.ownBlock = some k) := fun k hf e => by
    rcases e with rfl | rfl | e
    · obtain ⟨D, hD, _⟩ := h.map
      obtain ⟨es, cl, h5⟩ := own_map hD
      rcases hf with rfl | rfl | e
      · rw [h.tb.tab] at h5; cases h5
      · exact h.mne rfl
      · obtain ⟨_, cur, hh⟩ := h.tb.row.lt _ e
        rw [h5] at hh; cases hh
    · exact cells_nft h.run (by decide) (by decide) h.tb hf
    · obtain ⟨_, _, cur, hc⟩ := h.sts.blk e
      exact cells_nft hc (by decide) (by decide) h.tb hf
  have hnK : ∀ k (cur : Array Value), W.heap[k]? = some (.cells cur 3 (0, 0)) → ¬ (k = pm ∨ k = rb ∨ sv.ownBlock = some k) := fun k cur hc e => by
    refine h.other hc (by decide) (by decide) (by decide) (Or.inl (by decide)) ?_
    rcases e with e | e | e
    · exact Or.inr (Or.inl e)
    · exact Or.inl e
    · exact Or.inr (Or.inr (Or.inl e))
  obtain ⟨D', hD', hT'⟩ := hm1
  refine ⟨⟨hrun, h.tb.keep fun k hf => hk.block k (h.tb.foot k hf) (hnT k hf), tz_kp h.tz hkF h.ng, ⟨fun y hy => ?_, ?_, ?_, fun i y u hy hu => ?_⟩, ⟨D', ownQ_kp hD' (hk2.block pm ?_ (fun e => ?_)), hT'⟩, ⟨h.bs.1, h.bs.2.1, Nat.le_trans h.bs.2.2 hk.size⟩, fun hf => ?_, h.mne⟩, hl2, hkF⟩
  · rcases List.mem_append.1 hy with hy | hy
    · exact h.sts.ok y hy
    · obtain rfl := List.mem_singleton.1 hy
      exact hx
  · have := h.sts.len
    simp [this]
  · show W2.ownsRow base _ 21 sv' (R.st ++ [x]).length _
    rw [stsL_snoc x kv _ _ h.sts.len, List.length_append, List.length_singleton]
    exact hrow
  · have hlen := h.sts.len
    have keep : ∀ {bb n : Nat} {u : Value} {zs : List Value}, W.ownsRow bb 3 1 u n zs → W2.ownsRow bb 3 1 u n zs := fun ho => own_kp ho fun k e => by
      obtain ⟨_, h2, cur, hc⟩ := own_blk ho k e
      exact hk.block k h2 (hnK k cur hc)
    by_cases hi : i < R.st.length
    · have hy : (R.st ++ [x])[i]? = some y := hy
      rw [List.getElem?_append_left hi] at hy
      rw [List.getElem?_append_left (by omega)] at hu
      exact keep (h.sts.kid i y u hy hu)
    · have hy : (R.st ++ [x])[i]? = some y := hy
      rw [List.getElem?_append_right (by omega)] at hy
      rw [List.getElem?_append_right (by omega)] at hu
      have e0 : i - R.st.length = 0 := by
        have := (List.getElem?_eq_some_iff.1 hy).1
        simp at this
        omega
      rw [e0] at hy
      rw [hlen, e0] at hu
      simp at hy hu
      subst hy
      subst hu
      exact own_base (keep hkv) hb
  · obtain ⟨es, cl, h5⟩ := own_map hD'
    exact lt_of_block h5
  · obtain ⟨es, cl, h5⟩ := own_map hD'
    rcases e with e | e
    · have := h.run
      unfold Cl at this
      rw [← e] at this
      obtain ⟨D, hD, _⟩ := h.map
      obtain ⟨es, cl, h6⟩ := own_map hD
      rw [this] at h6
      cases h6
    · obtain ⟨_, _, cur, hc⟩ := h.sts.blk e
      obtain ⟨D, hD, _⟩ := h.map
      obtain ⟨es, cl, h6⟩ := own_map hD
      rw [hc] at h6
      cases h6
  · rcases hf with e | e | e | e
    · exact h.ng (Or.inl e)
    · exact h.ng (Or.inr (Or.inl e))
    · rcases hl2 _ e with h1 | h1
      · exact h.ng (Or.inr (Or.inr (Or.inl h1)))
      · have := Bt.tz_lt h.tz
        omega
    · exact h.ng (Or.inr (Or.inr (Or.inr e)))
theorem Rn.visit {W W1 : World} {base rb pm b m : Nat} {v sv : Value} {kvs : List Value} {B : Nat} {R : Rs} (h : Rn W base rb pm b m v sv kvs B R) (hc : Cl W1 rb (runC b B (R.vs + 1) pm sv) 62) (hk : KpP rb W W1) : Rn W1 base rb pm b m v sv kvs B ⟨R.t, R.st, R.vs + 1⟩ ∧ AfR W W1 rb pm b m v sv kvs v sv kvs := by
  have hkF : Kp (FtR rb pm b m v sv) W W1 := ⟨hk.os, hk.tape, hk.output, hk.size, fun k hlt hn => hk.block k hlt (fun e => hn (Or.inl e))⟩
  obtain ⟨D, hD, hT⟩ := h.map
  refine ⟨⟨hc, h.tb.keep fun k hf => hk.block k (h.tb.foot k hf) (fun e => ?_), tz_kp h.tz hkF h.ng, h.sts.keep (fun k e => hk.block k (h.sts.blk e).2.1 (fun e2 => ?_)) (fun k hb => hk.block k (h.sts.kb hb).2.1 (fun e => ?_)), ⟨D, ownQ_kp hD (hk.block pm h.pmlt (fun e => ?_)), hT⟩, ⟨h.bs.1, h.bs.2.1, Nat.le_trans h.bs.2.2 hk.size⟩, h.ng, h.mne⟩, ⟨Lies.refl _ _, Lies.refl _ _, fun _ h => Or.inl h, hkF⟩⟩
  · subst e
    exact cells_nft h.run (by decide) (by decide) h.tb hf
  · subst e2
    obtain ⟨_, _, cur, hc2⟩ := h.sts.blk e
    exact absurd (cl_type hc2 h.run) (by decide)
  · subst e
    exact h.sts.nkb h.run (by decide) hb
  · subst e
    obtain ⟨es, cl, h6⟩ := own_map hD
    have := h.run
    unfold Cl at this
    rw [h6] at this
    cases this
section
variable {ops : Array Oper} {rest : List Oper} {o : Oper} {a : Act} {Q : Exit → Act → World → Prop} {w : World}
theorem run_stI {b B vs pm rb : Nat} {sv : Value} (h : Cl w rb (runC b B vs pm sv) 62) (y : Int) : (Instr.storeAt 3 (.pointer (some ⟨rb, 2, none⟩)) (.int .i64 y)).run Tryz.prog w = .ok () (w.setCell ⟨rb, 2, none⟩ (.int .i64 y)) := by
  have hc : w.cell? ⟨rb, 2, none⟩ = some (.int .i64 (vs : Int)) := h.cell 2
  have hf := h.fr 2
  go_simp
theorem wpList_stI (hg : o.guard = none) (hd : o.dst = none) (x y : Operand) (hop : o.op = Op.store 3 x y) (rb : Nat) (hx : a.eval x = .pointer (some ⟨rb, 2, none⟩)) (vs' : Nat) (hy : a.eval y = .int .i64 (vs' : Int)) {b B vs pm : Nat} {sv : Value} (h : Cl w rb (runC b B vs pm sv) 62)
    (hK : ∀ w', Cl w' rb (runC b B vs' pm sv) 62 → KpP rb w w' → wpList Tryz.prog ops Q rest a w') : wpList Tryz.prog ops Q (o :: rest) a w := by
  refine wpList_plain hg fun K' hK' => ?_
  have hrun := run_stI h (vs' : Int)
  unfold Oper.wp
  simp [execOp, hop, hx, hy, hrun, Result.andThen]
  rw [Oper.upon_skip, hd]
  exact hK' _ _ (hK _ (heap_setCell_same w rb 2 _ _ _ h) (setCell_kpP w rb 2 _))
end
end Go.Proofs.YtkejippimkjjaaaGreatDoor
/-
  The search's call decide, by induction over what is left of the budget. (Written by genkdec.py.)
-/
namespace Go.Proofs.YtkejippimkjjaaaGreatDoor
open Go.RowKit Go.Shelf Go.Maps
open Fm (Nd)
open Bt.Bs (Ok wd)
set_option linter.unusedSimpArgs false

def decG (B : Nat) (R : Rs) (s : SQ) (q : Rs × Int × Stp) : Rs × Int × Nat := match look R.st s with
  | some p => (R, 0, p)
  | none => if R.vs = B then (R, 110, 0) else if q.2.1 ≠ 0 then (q.1, q.2.1, 0) else (⟨q.1.t, q.1.st ++ [q.2.2], q.1.vs⟩, 0, q.1.st.length)
structure DL (w0 W : World) (base rb pm b m : Nat) (v0 sv0 : Value) (kvs0 : List Value) (v sv : Value) (kvs : List Value) (B : Nat) (R : Rs) (b3 : Nat) (s : SQ) : Prop where
  rn : Rn W base rb pm b m v sv kvs B R
  af : AfR w0 W rb pm b m v0 sv0 kvs0 v sv kvs
  s3 : SeqAt W b3 s.1 s.2
section
variable {w0 W W' : World} {base rb pm b m : Nat} {v0 sv0 v sv v' sv' : Value} {kvs0 kvs kvs' : List Value} {B : Nat} {R R' : Rs} {b3 : Nat} {s : SQ}
theorem DL.call (h : DL w0 W base rb pm b m v0 sv0 kvs0 v sv kvs B R b3 s) (hr : Rn W' base rb pm b m v' sv' kvs' B R') (ha : AfR W W' rb pm b m v sv kvs v' sv' kvs') : DL w0 W' base rb pm b m v0 sv0 kvs0 v' sv' kvs' B R' b3 s :=
  ⟨hr, h.af.trans ha, ha.cl h.s3 (h.rn.other h.s3 (by decide) (by decide) (by decide) (Or.inl (by decide)))⟩
theorem DL.later (h : DL w0 W base rb pm b m v0 sv0 kvs0 v sv kvs B R b3 s) (hb : Below W.heap.size W W') : DL w0 W' base rb pm b m v0 sv0 kvs0 v sv kvs B R b3 s := h.call (h.rn.later hb) (AfR.of_below hb)
theorem DL.drew (h : DL w0 W base rb pm b m v0 sv0 kvs0 v sv kvs B R b3 s) : DL w0 W.drew base rb pm b m v0 sv0 kvs0 v sv kvs B R b3 s := h.later (Below.refl _ _).drew
end
set_option maxRecDepth 100000 in
set_option maxHeartbeats 4000000 in
theorem dec_walk {base rb pm b m B : Nat} (w : World) {v sv : Value} {kvs : List Value} {R : Rs} (hR : Rn w base rb pm b m v sv kvs B R) (hB : B ≤ 4096) (hvs : R.vs ≤ B) {s : SQ} (hs : gq s) (q : Rs × Int × Stp)
    (hE : R.vs ≠ B → look R.st s = none → (∀ (W : World) (v' sv' : Value) (kvs' : List Value), Rn W base rb pm b m v' sv' kvs' B ⟨R.t, R.st, R.vs + 1⟩ → Calls Tryz.prog 31 #[.pointer (some ⟨rb, 0, none⟩), .agg (cellsQ s.1 s.2)] W fun e w' => StpP W base rb pm b m v' sv' kvs' B q e w') ∧ q.2.2.s.1.length = 16 ∧ (q.2.1 = 0 → q.2.2.s = s ∧ q.1.st.length ≤ 4096)) :
    Calls Tryz.prog 15 #[.pointer (some ⟨rb, 0, none⟩), .agg (cellsQ s.1 s.2)] w fun e w' => e = .returned (.tuple #[.int .i64 ((decG B R s q).2.2 : Int), .int .i64 (decG B R s q).2.1]) ∧ ∃ v' sv' kvs', Rn w' base rb pm b m v' sv' kvs' B (decG B R s q).1 ∧ AfR w w' rb pm b m v sv kvs v' sv' kvs' := by
  have hl := hs.1.1
  have HGZ := show Hid (0 < w.heap.size) from Bt.tz_lt hR.tz
  have HS := show Hid (gq s) from hs
  have HE := show Hid _ from hE
  have HDG := show Hid (decG B R s q = match look R.st s with | some p => (R, 0, p) | none => if R.vs = B then (R, 110, 0) else if q.2.1 ≠ 0 then (q.1, q.2.1, 0) else (⟨q.1.t, q.1.st ++ [q.2.2], q.1.vs⟩, 0, q.1.st.length)) from rfl
  have HLK := show Hid (∀ W : World, ∀ v' sv' : Value, ∀ kvs' : List Value, Rn W base rb pm b m v' sv' kvs' B R → (Instr.lookup 60 (.map (some pm)) (.agg (cellsQ s.1 s.2)) true).run Tryz.prog W = .ok (.tuple #[.int .i64 (((look R.st s).getD 0 : Nat) : Int), .bool (look R.st s).isSome]) W) from fun W v' sv' kvs' h => by
    obtain ⟨D, hD, hT⟩ := h.map
    exact lookQ hD hT hs
  generalize decG B R s q = X at *
  have HBS := show Hid (base ≤ w.heap.size) from hR.bs.2.2
  clear hE hs
  generalize look R.st s = lo at *
  go_enter Tryz.func15, Tryz.ntmps15
  go_wp2_with (refine wpList_box 27 _ rfl _ rfl rfl ?_)
  intro w2 b3 hn2
  have H2 := show Hid (DL w w2 base rb pm b m v sv kvs v sv kvs B R b3 s) from ⟨hR.later hn2.bel, AfR.of_below hn2.bel, hn2.blk⟩
  clear hn2 hR
  go_wp2_with fail
  refine wp_region_one (by kernel_rfl) 5 [some 12, some 13, some 14, some 15, some 16, some 17, some 11, some 18, some 19, some 6, some 7] [[], [0], [1], [2], [], [3, 4], [5], [6], [6], [7], [8]] [[], [0], [1, 0], [2, 1, 0], [], [3, 2, 1, 0, 4], [5, 3, 2, 1, 0, 4], [6, 5, 3, 2, 1, 0, 4], [6, 5, 3, 2, 1, 0, 4], [7, 6, 5, 3, 2, 1, 0, 4], [8, 6, 5, 3, 2, 1, 0, 4]] (by kernel_rfl) (by decide) (fun ii vv w1 => match ii with | 0 => vv = .pointer (some ⟨rb, 0, none⟩) | 1 => vv = .pointer (some ⟨rb, 0, none⟩) | 2 => vv = .pointer (some ⟨rb, 4, none⟩) | 3 => vv = .map (some pm) | 4 => vv = .agg (cellsQ s.1 s.2) | 5 => vv = .tuple #[.int .i64 ((lo.getD 0 : Nat) : Int), .bool lo.isSome] ∧ w1 = w2.drew | 6 => vv = .tuple #[.int .i64 ((lo.getD 0 : Nat) : Int), .bool lo.isSome] | 7 => vv = .int .i64 ((lo.getD 0 : Nat) : Int) | 8 => vv = .bool lo.isSome | 9 => vv = .int .i64 ((lo.getD 0 : Nat) : Int) | 10 => vv = .bool lo.isSome | _ => True) ?hfree (allLt 11 ?steps) ?fin
  case hfree =>
    intro j v w1 w2 hj hn h
    match j, h, hj, hn with
    | 0, h, _, _ => exact h
    | 1, h, _, _ => exact h
    | 2, h, _, _ => exact h
    | 3, h, _, _ => exact h
    | 4, h, _, _ => exact h
    | 5, _, hj, _ => exact absurd rfl hj
    | 6, _, _, hn => exact absurd (by decide) hn
    | 7, _, _, hn => exact absurd (by decide) hn
    | 8, _, _, hn => exact absurd (by decide) hn
    | 9, _, _, hn => exact absurd (by decide) hn
    | 10, _, _, hn => exact absurd (by decide) hn
    | _ + 11, _, _, _ => trivial
  case steps =>
    refine ⟨⟨⟨⟨⟨⟨⟨⟨⟨⟨⟨trivial, ?s0⟩, ?s1⟩, ?s2⟩, ?s3⟩, ?s4⟩, ?s5⟩, ?s6⟩, ?s7⟩, ?s8⟩, ?s9⟩, ?s10⟩
    case s0 =>
      intro a w1 hw hO hN
      obtain rfl : w1 = w2.drew := hw (by decide)
      have o0 : a.tmps[0]? = some (.pointer (some ⟨rb, 0, none⟩)) := (hO.out 0 (by decide)).trans rfl
      exact relVal rfl (.pointer (some ⟨rb, 0, none⟩)) _ rfl (by go_simp) ⟨_, rfl, rfl, fun _ => rfl⟩
    case s1 =>
      intro a w1 hw hO hN
      obtain rfl : w1 = w2.drew := hw (by decide)
      obtain ⟨v0, g0, r0⟩ := hN 0 (by decide)
      have g0 : a.tmps[12]? = some v0 := g0
      have e0 : v0 = .pointer (some ⟨rb, 0, none⟩) := r0
      rw [e0] at g0
      exact relVal rfl (.pointer (some ⟨rb, 0, none⟩)) _ rfl (by go_simp) ⟨_, rfl, rfl, fun _ => rfl⟩
    case s2 =>
      intro a w1 hw hO hN
      obtain rfl : w1 = w2.drew := hw (by decide)
      obtain ⟨v1, g1, r1⟩ := hN 1 (by decide)
      have g1 : a.tmps[13]? = some v1 := g1
      have e1 : v1 = .pointer (some ⟨rb, 0, none⟩) := r1
      rw [e1] at g1
      exact relVal rfl (.pointer (some ⟨rb, 4, none⟩)) _ rfl (by go_simp) ⟨_, rfl, rfl, fun _ => rfl⟩
    case s3 =>
      intro a w1 hw hO hN
      obtain rfl : w1 = w2.drew := hw (by decide)
      obtain ⟨v2, g2, r2⟩ := hN 2 (by decide)
      have g2 : a.tmps[14]? = some v2 := g2
      have e2 : v2 = .pointer (some ⟨rb, 4, none⟩) := r2
      rw [e2] at g2
      have hc : w2.drew.cell? ⟨rb, 4, none⟩ = some (.map (some pm)) := H2.out.drew.rn.run.cell 4
      exact relVal rfl (.map (some pm)) _ rfl (by go_simp) ⟨_, rfl, rfl, fun _ => rfl⟩
    case s4 =>
      intro a w1 hw hO hN
      obtain rfl : w1 = w2.drew := hw (by decide)
      have o3 : a.tmps[3]? = some (.pointer (some ⟨b3, 0, none⟩)) := (hO.out 3 (by decide)).trans rfl
      have hl := loadQQ w2.drew b3 H2.out.drew.s3 hl
      exact relVal rfl (.agg (cellsQ s.1 s.2)) _ rfl (by simp [execOp, Act.eval, o3, hl, Result.andThen]) ⟨_, rfl, rfl, fun _ => rfl⟩
    case s5 =>
      intro a w1 hw hO hN
      obtain rfl : w1 = w2.drew := hw (by decide)
      obtain ⟨v3, g3, r3⟩ := hN 3 (by decide)
      have g3 : a.tmps[15]? = some v3 := g3
      have e3 : v3 = .map (some pm) := r3
      rw [e3] at g3
      obtain ⟨v4, g4, r4⟩ := hN 4 (by decide)
      have g4 : a.tmps[16]? = some v4 := g4
      have e4 : v4 = .agg (cellsQ s.1 s.2) := r4
      rw [e4] at g4
      have hk := HLK.out w2.drew v sv kvs H2.out.drew.rn
      exact relVal rfl (.tuple #[.int .i64 ((lo.getD 0 : Nat) : Int), .bool lo.isSome]) _ rfl (by simp [execOp, Act.eval, g3, g4, hk, Result.andThen]) ⟨_, rfl, ⟨rfl, rfl⟩, fun h => absurd rfl h⟩
    case s6 =>
      intro a w1 hw hO hN
      obtain ⟨v5, g5, r5⟩ := hN 5 (by decide)
      have g5 : a.tmps[17]? = some v5 := g5
      obtain ⟨rfl, _⟩ := r5
      exact relVal rfl (.tuple #[.int .i64 ((lo.getD 0 : Nat) : Int), .bool lo.isSome]) _ rfl (by go_simp) ⟨_, rfl, rfl, fun _ => rfl⟩
    case s7 =>
      intro a w1 hw hO hN
      obtain ⟨v6, g6, r6⟩ := hN 6 (by decide)
      have g6 : a.tmps[11]? = some v6 := g6
      have e6 : v6 = .tuple #[.int .i64 ((lo.getD 0 : Nat) : Int), .bool lo.isSome] := r6
      rw [e6] at g6
      exact relVal rfl (.int .i64 ((lo.getD 0 : Nat) : Int)) _ rfl (by go_simp) ⟨_, rfl, rfl, fun _ => rfl⟩
    case s8 =>
      intro a w1 hw hO hN
      obtain ⟨v6, g6, r6⟩ := hN 6 (by decide)
      have g6 : a.tmps[11]? = some v6 := g6
      have e6 : v6 = .tuple #[.int .i64 ((lo.getD 0 : Nat) : Int), .bool lo.isSome] := r6
      rw [e6] at g6
      exact relVal rfl (.bool lo.isSome) _ rfl (by go_simp) ⟨_, rfl, rfl, fun _ => rfl⟩
    case s9 =>
      intro a w1 hw hO hN
      obtain ⟨v7, g7, r7⟩ := hN 7 (by decide)
      have g7 : a.tmps[18]? = some v7 := g7
      have e7 : v7 = .int .i64 ((lo.getD 0 : Nat) : Int) := r7
      rw [e7] at g7
      exact relVal rfl (.int .i64 ((lo.getD 0 : Nat) : Int)) _ rfl (by go_simp) ⟨_, rfl, rfl, fun _ => rfl⟩
    case s10 =>
      intro a w1 hw hO hN
      obtain ⟨v8, g8, r8⟩ := hN 8 (by decide)
      have g8 : a.tmps[19]? = some v8 := g8
      have e8 : v8 = .bool lo.isSome := r8
      rw [e8] at g8
      exact relVal rfl (.bool lo.isSome) _ rfl (by go_simp) ⟨_, rfl, rfl, fun _ => rfl⟩
  case fin =>
    intro vs w1 hV
    obtain ⟨_, rfl⟩ : vs 5 = .tuple #[.int .i64 ((lo.getD 0 : Nat) : Int), .bool lo.isSome] ∧ w1 = w2.drew := hV 5 (by decide)
    have e9 : vs 9 = .int .i64 ((lo.getD 0 : Nat) : Int) := hV 9 (by decide)
    have e10 : vs 10 = .bool lo.isSome := hV 10 (by decide)
    have H3 := show Hid _ from H2.out.drew
    clear H2 hV HLK
    simp only [putAll, Act.put, List.setIfInBounds_toArray, List.set_cons_zero, List.set_cons_succ, e9, e10]
    clear e9 e10
    generalize w2.drew = w3 at *
    cases lo with
    | some p =>
      have hX : X = (R, 0, p) := HDG.out
      subst hX
      simp only [Option.isSome_some, Option.getD_some]
      go_wp2_with fail
      go_ret2
      exact ⟨rfl, v, sv, kvs, H3.out.rn, H3.out.af⟩
    | none =>
      simp only [Option.isSome_none, Option.getD_none]
      have HX := show Hid (X = if R.vs = B then (R, 110, 0) else if q.2.1 ≠ 0 then (q.1, q.2.1, 0) else (⟨q.1.t, q.1.st ++ [q.2.2], q.1.vs⟩, 0, q.1.st.length)) from HDG.out
      clear HDG
      go_wp2_with fail
      refine wp_region_one (by kernel_rfl) 8 [some 22, some 23, some 24, some 25, some 26, some 27, some 28, some 29, some 30] [[], [0], [1], [2], [], [4], [5], [6], [3, 7]] [[], [0], [1, 0], [2, 1, 0], [], [4], [5, 4], [6, 5, 4], [3, 2, 1, 0, 7, 6, 5, 4]] (by kernel_rfl) (by decide) (fun ii vv w1 => match ii with | 0 => vv = .pointer (some ⟨rb, 0, none⟩) | 1 => vv = .pointer (some ⟨rb, 0, none⟩) | 2 => vv = .pointer (some ⟨rb, 2, none⟩) | 3 => vv = .int .i64 (R.vs : Int) | 4 => vv = .pointer (some ⟨rb, 0, none⟩) | 5 => vv = .pointer (some ⟨rb, 0, none⟩) | 6 => vv = .pointer (some ⟨rb, 1, none⟩) | 7 => vv = .int .i64 (B : Int) | 8 => vv = .bool ((R.vs : Int) == (B : Int)) ∧ w1 = w3.drew | _ => True) ?hfree (allLt 9 ?steps) ?fin
      case hfree =>
        intro j v w1 w2 hj hn h
        match j, h, hj, hn with
        | 0, h, _, _ => exact h
        | 1, h, _, _ => exact h
        | 2, h, _, _ => exact h
        | 3, h, _, _ => exact h
        | 4, h, _, _ => exact h
        | 5, h, _, _ => exact h
        | 6, h, _, _ => exact h
        | 7, h, _, _ => exact h
        | 8, _, hj, _ => exact absurd rfl hj
        | _ + 9, _, _, _ => trivial
      case steps =>
        refine ⟨⟨⟨⟨⟨⟨⟨⟨⟨trivial, ?s0⟩, ?s1⟩, ?s2⟩, ?s3⟩, ?s4⟩, ?s5⟩, ?s6⟩, ?s7⟩, ?s8⟩
        case s0 =>
          intro a w1 hw hO hN
          obtain rfl : w1 = w3.drew := hw (by decide)
          have o0 : a.tmps[0]? = some (.pointer (some ⟨rb, 0, none⟩)) := (hO.out 0 (by decide)).trans rfl
          exact relVal rfl (.pointer (some ⟨rb, 0, none⟩)) _ rfl (by go_simp) ⟨_, rfl, rfl, fun _ => rfl⟩
        case s1 =>
          intro a w1 hw hO hN
          obtain rfl : w1 = w3.drew := hw (by decide)
          obtain ⟨v0, g0, r0⟩ := hN 0 (by decide)
          have g0 : a.tmps[22]? = some v0 := g0
          have e0 : v0 = .pointer (some ⟨rb, 0, none⟩) := r0
          rw [e0] at g0
          exact relVal rfl (.pointer (some ⟨rb, 0, none⟩)) _ rfl (by go_simp) ⟨_, rfl, rfl, fun _ => rfl⟩
        case s2 =>
          intro a w1 hw hO hN
          obtain rfl : w1 = w3.drew := hw (by decide)
          obtain ⟨v1, g1, r1⟩ := hN 1 (by decide)
          have g1 : a.tmps[23]? = some v1 := g1
          have e1 : v1 = .pointer (some ⟨rb, 0, none⟩) := r1
          rw [e1] at g1
          exact relVal rfl (.pointer (some ⟨rb, 2, none⟩)) _ rfl (by go_simp) ⟨_, rfl, rfl, fun _ => rfl⟩
        case s3 =>
          intro a w1 hw hO hN
          obtain rfl : w1 = w3.drew := hw (by decide)
          obtain ⟨v2, g2, r2⟩ := hN 2 (by decide)
          have g2 : a.tmps[24]? = some v2 := g2
          have e2 : v2 = .pointer (some ⟨rb, 2, none⟩) := r2
          rw [e2] at g2
          have hc : w3.drew.cell? ⟨rb, 2, none⟩ = some (.int .i64 (R.vs : Int)) := H3.out.drew.rn.run.cell 2
          exact relVal rfl (.int .i64 (R.vs : Int)) _ rfl (by go_simp) ⟨_, rfl, rfl, fun _ => rfl⟩
        case s4 =>
          intro a w1 hw hO hN
          obtain rfl : w1 = w3.drew := hw (by decide)
          have o0 : a.tmps[0]? = some (.pointer (some ⟨rb, 0, none⟩)) := (hO.out 0 (by decide)).trans rfl
          exact relVal rfl (.pointer (some ⟨rb, 0, none⟩)) _ rfl (by go_simp) ⟨_, rfl, rfl, fun _ => rfl⟩
        case s5 =>
          intro a w1 hw hO hN
          obtain rfl : w1 = w3.drew := hw (by decide)
          obtain ⟨v4, g4, r4⟩ := hN 4 (by decide)
          have g4 : a.tmps[26]? = some v4 := g4
          have e4 : v4 = .pointer (some ⟨rb, 0, none⟩) := r4
          rw [e4] at g4
          exact relVal rfl (.pointer (some ⟨rb, 0, none⟩)) _ rfl (by go_simp) ⟨_, rfl, rfl, fun _ => rfl⟩
        case s6 =>
          intro a w1 hw hO hN
          obtain rfl : w1 = w3.drew := hw (by decide)
          obtain ⟨v5, g5, r5⟩ := hN 5 (by decide)
          have g5 : a.tmps[27]? = some v5 := g5
          have e5 : v5 = .pointer (some ⟨rb, 0, none⟩) := r5
          rw [e5] at g5
          exact relVal rfl (.pointer (some ⟨rb, 1, none⟩)) _ rfl (by go_simp) ⟨_, rfl, rfl, fun _ => rfl⟩
        case s7 =>
          intro a w1 hw hO hN
          obtain rfl : w1 = w3.drew := hw (by decide)
          obtain ⟨v6, g6, r6⟩ := hN 6 (by decide)
          have g6 : a.tmps[28]? = some v6 := g6
          have e6 : v6 = .pointer (some ⟨rb, 1, none⟩) := r6
          rw [e6] at g6
          have hc : w3.drew.cell? ⟨rb, 1, none⟩ = some (.int .i64 (B : Int)) := H3.out.drew.rn.run.cell 1
          exact relVal rfl (.int .i64 (B : Int)) _ rfl (by go_simp) ⟨_, rfl, rfl, fun _ => rfl⟩
        case s8 =>
          intro a w1 hw hO hN
          obtain rfl : w1 = w3.drew := hw (by decide)
          obtain ⟨v3, g3, r3⟩ := hN 3 (by decide)
          have g3 : a.tmps[25]? = some v3 := g3
          have e3 : v3 = .int .i64 (R.vs : Int) := r3
          rw [e3] at g3
          obtain ⟨v7, g7, r7⟩ := hN 7 (by decide)
          have g7 : a.tmps[29]? = some v7 := g7
          have e7 : v7 = .int .i64 (B : Int) := r7
          rw [e7] at g7
          exact relVal rfl (.bool ((R.vs : Int) == (B : Int))) _ rfl (by go_simp) ⟨_, rfl, ⟨rfl, rfl⟩, fun h => absurd rfl h⟩
      case fin =>
        intro vs w1 hV
        obtain ⟨e8, rfl⟩ : vs 8 = .bool ((R.vs : Int) == (B : Int)) ∧ w1 = w3.drew := hV 8 (by decide)
        have H4 := show Hid _ from H3.out.drew
        clear H3 hV
        simp only [putAll, Act.put, List.setIfInBounds_toArray, List.set_cons_zero, List.set_cons_succ, e8]
        clear e8
        generalize w3.drew = w4 at *
        by_cases hvB : R.vs = B
        · have heq : ((R.vs : Int) == (B : Int)) = true := by rw [hvB]; simp
          have hX : X = (R, 110, 0) := by rw [HX.out, if_pos hvB]
          subst hX
          rw [heq]
          clear HX heq
          go_wp2_with fail
          go_ret2
          exact ⟨rfl, v, sv, kvs, H4.out.rn, H4.out.af⟩
        · have heq : ((R.vs : Int) == (B : Int)) = false := by rw [beq_eq_false_iff_ne]; intro h; exact hvB (by omega)
          rw [heq]
          have hX2 : X = if q.2.1 ≠ 0 then (q.1, q.2.1, 0) else (⟨q.1.t, q.1.st ++ [q.2.2], q.1.vs⟩, 0, q.1.st.length) := by rw [HX.out, if_neg hvB]
          have HX2 := show Hid _ from hX2
          obtain ⟨hK, hq16, hq0⟩ := HE.out hvB (by trivial)
          have HK := show Hid _ from hK
          have HQ0 := show Hid (q.2.1 = 0 → q.2.2.s = s ∧ q.1.st.length ≤ 4096) from hq0
          clear HX heq hX2 HE hK hq0
          have c2 : w4.cell? ⟨rb, 2, none⟩ = some (.int .i64 (R.vs : Int)) := H4.out.rn.run.cell 2
          have hvl : R.vs < 4096 := by omega
          go_wp2_with (refine wpList_stI rfl rfl _ _ rfl rb rfl (R.vs + 1) (by go_num) H4.out.rn.run ?_)
          intro w5 hc5 hk5
          obtain ⟨hR5, hA5⟩ := H4.out.rn.visit hc5 hk5
          have H5 := show Hid (DL w w5 base rb pm b m v sv kvs v sv kvs B ⟨R.t, R.st, R.vs + 1⟩ b3 s) from H4.out.call hR5 hA5
          have KE := show Hid _ from HK.out w5 v sv kvs hR5
          clear hc5 hk5 hR5 hA5 H4 c2 HK
          go_wp2_with (refine wpList_ldQQ _ _ rfl b3 rfl H5.out.s3 hl rfl ?_)
          refine Calls.mono KE.out ?_
          rintro e w6 ⟨kv, rfl, ho6, v6, sv6, kvs6, hn6, hR6, hA6⟩
          have H6 := show Hid (DL w w6 base rb pm b m v sv kvs v6 sv6 kvs6 B q.1 b3 s ∧ w6.ownsRow w5.heap.size 3 1 kv q.2.2.kd.length (kdV q.2.2.kd) ∧ w.heap.size ≤ w5.heap.size) from ⟨H5.out.call hR6 hA6, ho6, H5.out.af.kp.size⟩
          clear ho6 hn6 hR6 hA6 KE H5
          go_wp2_with (refine wpList_alloc 46 rfl _ zeroStp rfl ?_)
          intro w7 b8 hn7
          go_wp2_with (refine wpList_stS rfl rfl _ _ rfl b8 rfl hq16 (own_oneC H6.out.2.1) rfl (s0 := stp0) rfl hn7.blk ?_)
          intro w8 hc8 hk8
          have hb8 : Below w6.heap.size w6 w8 := bel_kp hn7.bel hk8 hn7.ge
          have H8 := show Hid (DL w w8 base rb pm b m v sv kvs v6 sv6 kvs6 B q.1 b3 s ∧ w8.ownsRow w5.heap.size 3 1 kv q.2.2.kd.length (kdV q.2.2.kd) ∧ w.heap.size ≤ w5.heap.size ∧ Cl w8 b8 (stpC q.2.2 kv) 46 ∧ sv6.ownBlock ≠ some b8) from ⟨H6.out.1.later hb8, own_kp H6.out.2.1 (fun k e => hb8.block k (own_blk H6.out.2.1 k e).2.1), H6.out.2.2, hc8, fun e => (by have := (H6.out.1.rn.sts.blk e).2.1; have := hn7.ge; omega)⟩
          clear hn7 hc8 hk8 hb8 H6
          by_cases he : q.2.1 = 0
          · have heb : (q.2.1 != 0) = false := by rw [he]; rfl
            obtain ⟨hqs, hqn⟩ := HQ0.out he
            have hX3 : X = (⟨q.1.t, q.1.st ++ [q.2.2], q.1.vs⟩, 0, q.1.st.length) := by rw [HX2.out, if_neg (by rw [he]; simp)]
            subst hX3
            have HQS := show Hid (q.2.2.s = s) from hqs
            clear HX2 HQ0 hqs
            have c3 : w8.cell? ⟨rb, 3, none⟩ = some sv6 := H8.out.1.rn.run.cell 3
            obtain ⟨ps, cs, rfl⟩ := H8.out.1.rn.sts.form
            go_wp2_with fail
            refine wp_region_one (by kernel_rfl) 6 [some 52, some 53, some 54, some 55, some 56, some 57, none] [[], [0], [1], [2], [], [], [3, 4, 5]] [[], [0], [1, 0], [2, 1, 0], [], [], [3, 2, 1, 0, 4, 5]] (by kernel_rfl) (by decide) (fun ii vv w1 => match ii with | 0 => vv = .pointer (some ⟨rb, 0, none⟩) | 1 => vv = .pointer (some ⟨rb, 0, none⟩) | 2 => vv = .pointer (some ⟨rb, 4, none⟩) | 3 => vv = .map (some pm) | 4 => vv = .agg (cellsQ s.1 s.2) | 5 => vv = .int .i64 (q.1.st.length : Int) | 6 => (∃ D2, ownsQ w1 pm D2 ∧ TiedQ D2 (q.1.st ++ [q.2.2])) ∧ Kp (fun k => k = pm) w8.drew w1 | _ => True) ?hfree (allLt 7 ?steps) ?fin
            case hfree =>
              intro j v w1 w2 hj hn h
              match j, h, hj, hn with
              | 0, h, _, _ => exact h
              | 1, h, _, _ => exact h
              | 2, h, _, _ => exact h
              | 3, h, _, _ => exact h
              | 4, h, _, _ => exact h
              | 5, h, _, _ => exact h
              | 6, _, hj, _ => exact absurd rfl hj
              | _ + 7, _, _, _ => trivial
            case steps =>
              refine ⟨⟨⟨⟨⟨⟨⟨trivial, ?s0⟩, ?s1⟩, ?s2⟩, ?s3⟩, ?s4⟩, ?s5⟩, ?s6⟩
              case s0 =>
                intro a w1 hw hO hN
                obtain rfl : w1 = w8.drew := hw (by decide)
                have o0 : a.tmps[0]? = some (.pointer (some ⟨rb, 0, none⟩)) := (hO.out 0 (by decide)).trans rfl
                exact relVal rfl (.pointer (some ⟨rb, 0, none⟩)) _ rfl (by go_simp) ⟨_, rfl, rfl, fun _ => rfl⟩
              case s1 =>
                intro a w1 hw hO hN
                obtain rfl : w1 = w8.drew := hw (by decide)
                obtain ⟨v0, g0, r0⟩ := hN 0 (by decide)
                have g0 : a.tmps[52]? = some v0 := g0
                have e0 : v0 = .pointer (some ⟨rb, 0, none⟩) := r0
                rw [e0] at g0
                exact relVal rfl (.pointer (some ⟨rb, 0, none⟩)) _ rfl (by go_simp) ⟨_, rfl, rfl, fun _ => rfl⟩
              case s2 =>
                intro a w1 hw hO hN
                obtain rfl : w1 = w8.drew := hw (by decide)
                obtain ⟨v1, g1, r1⟩ := hN 1 (by decide)
                have g1 : a.tmps[53]? = some v1 := g1
                have e1 : v1 = .pointer (some ⟨rb, 0, none⟩) := r1
                rw [e1] at g1
                exact relVal rfl (.pointer (some ⟨rb, 4, none⟩)) _ rfl (by go_simp) ⟨_, rfl, rfl, fun _ => rfl⟩
              case s3 =>
                intro a w1 hw hO hN
                obtain rfl : w1 = w8.drew := hw (by decide)
                obtain ⟨v2, g2, r2⟩ := hN 2 (by decide)
                have g2 : a.tmps[54]? = some v2 := g2
                have e2 : v2 = .pointer (some ⟨rb, 4, none⟩) := r2
                rw [e2] at g2
                have hc : w8.drew.cell? ⟨rb, 4, none⟩ = some (.map (some pm)) := H8.out.1.drew.rn.run.cell 4
                exact relVal rfl (.map (some pm)) _ rfl (by go_simp) ⟨_, rfl, rfl, fun _ => rfl⟩
              case s4 =>
                intro a w1 hw hO hN
                obtain rfl : w1 = w8.drew := hw (by decide)
                have o3 : a.tmps[3]? = some (.pointer (some ⟨b3, 0, none⟩)) := (hO.out 3 (by decide)).trans rfl
                have hl := loadQQ w8.drew b3 H8.out.1.drew.s3 hl
                exact relVal rfl (.agg (cellsQ s.1 s.2)) _ rfl (by simp [execOp, Act.eval, o3, hl, Result.andThen]) ⟨_, rfl, rfl, fun _ => rfl⟩
              case s5 =>
                intro a w1 hw hO hN
                obtain rfl : w1 = w8.drew := hw (by decide)
                have o10 : a.tmps[10]? = some (.int .i64 (q.1.st.length : Int)) := (hO.out 10 (by decide)).trans rfl
                exact relVal rfl (.int .i64 (q.1.st.length : Int)) _ rfl (by go_simp) ⟨_, rfl, rfl, fun _ => rfl⟩
              case s6 =>
                intro a w1 hw hO hN
                obtain rfl : w1 = w8.drew := hw (by decide)
                obtain ⟨v3, g3, r3⟩ := hN 3 (by decide)
                have g3 : a.tmps[55]? = some v3 := g3
                have e3 : v3 = .map (some pm) := r3
                rw [e3] at g3
                obtain ⟨v4, g4, r4⟩ := hN 4 (by decide)
                have g4 : a.tmps[56]? = some v4 := g4
                have e4 : v4 = .agg (cellsQ s.1 s.2) := r4
                rw [e4] at g4
                obtain ⟨v5, g5, r5⟩ := hN 5 (by decide)
                have g5 : a.tmps[57]? = some v5 := g5
                have e5 : v5 = .int .i64 (q.1.st.length : Int) := r5
                rw [e5] at g5
                obtain ⟨D, hD, hT⟩ := H8.out.1.drew.rn.map
                obtain ⟨w9, hup, hm9, hk9⟩ := storeQm hD hT (by omega) (x := q.2.2) (by rw [HQS.out]; exact HS.out)
                rw [HQS.out] at hup
                exact relSkip rfl w9 rfl (by simp [execOp, Act.eval, g3, g4, g5, hup, Result.andThen]) ⟨_, rfl, ⟨hm9, hk9⟩, fun h => absurd rfl h⟩
            case fin =>
              intro vs W9 hV
              obtain ⟨hm9, hk9⟩ : (∃ D2, ownsQ W9 pm D2 ∧ TiedQ D2 (q.1.st ++ [q.2.2])) ∧ Kp (fun k => k = pm) w8.drew W9 := hV 6 (by decide)
              clear hV
              simp only [putAll, Act.put, List.setIfInBounds_toArray, List.set_cons_zero, List.set_cons_succ]
              have H9 := show Hid (((∃ D2, ownsQ W9 pm D2 ∧ TiedQ D2 (q.1.st ++ [q.2.2])) ∧ Kp (fun k => k = pm) w8.drew W9) ∧ Cl W9 rb (runC b B q.1.vs pm (.slice ps q.1.st.length cs)) 62 ∧ Cl W9 b8 (stpC q.2.2 kv) 46 ∧ W9.ownsRow base 46 21 (.slice ps q.1.st.length cs) q.1.st.length (stsL q.1.st kvs6)) from (by
                have hne : ∀ (k : Nat) (c : Array Value) (T : TypeId), w8.heap[k]? = some (.cells c T (0, 0)) → k ≠ pm := fun k c T hc e => by
                  subst e
                  obtain ⟨D, hD, _⟩ := H8.out.1.rn.map
                  obtain ⟨es, cl, h6⟩ := own_map hD
                  rw [hc] at h6
                  cases h6
                have hrn := H8.out.1.rn
                exact ⟨⟨hm9, hk9⟩, (hk9.block rb hrn.run.lt (hne _ _ _ hrn.run)).trans hrn.run, (hk9.block b8 H8.out.2.2.2.1.lt (hne _ _ _ H8.out.2.2.2.1)).trans H8.out.2.2.2.1, own_kp hrn.sts.row fun k e => (by obtain ⟨_, h2, cur, hc⟩ := own_blk hrn.sts.row k e; exact hk9.block k h2 (hne _ _ _ hc))⟩)
              have HLT := show Hid (rb < W9.heap.size ∧ (∀ k, (Value.slice ps q.1.st.length cs).ownBlock = some k → k < W9.heap.size) ∧ (Value.slice ps q.1.st.length cs).ownBlock ≠ some rb ∧ base ≤ W9.heap.size) from ⟨H9.out.2.1.lt, fun k e => (own_blk H9.out.2.2.2 k e).2.1, fun e => (by obtain ⟨_, _, cur, hc⟩ := own_blk H9.out.2.2.2 _ e; exact absurd (cl_type hc H9.out.2.1) (by decide)), Nat.le_trans H8.out.1.rn.bs.2.2 hk9.size⟩
              clear hm9 hk9 c3
              go_wp2_with fail
              refine wp_region_dep (by kernel_rfl) [some 58, some 59, some 60, some 61, some 62, some 63, some 64, some 65, some 66, some 67, none] [[], [], [1], [2], [3], [], [5], [4, 6], [0], [8], [9, 7]] [[], [], [1], [2, 1], [3, 2, 1], [], [5], [4, 3, 2, 1, 6, 5], [0], [8, 0], [9, 8, 0, 7, 4, 3, 2, 1, 6, 5]] (by kernel_rfl) (by decide) (fun ii vv w1 => match ii with | 0 => vv = .pointer (some ⟨rb, 0, none⟩) | 1 => vv = .pointer (some ⟨rb, 0, none⟩) | 2 => vv = .pointer (some ⟨rb, 0, none⟩) | 3 => vv = .pointer (some ⟨rb, 3, none⟩) | 4 => vv = .slice ps q.1.st.length cs | 5 => vv = .agg (stpC q.2.2 kv) | 6 => ∃ q6, vv = .slice (some ⟨q6, 0, none⟩) 1 1 ∧ Cl w1 q6 (stpC q.2.2 kv) 46 ∧ W9.heap.size ≤ q6 | 7 => w1.ownsRow base 46 21 vv (q.1.st.length + 1) (stsL q.1.st kvs6 ++ stpL q.2.2 kv) ∧ Lies W9.heap.size (.slice ps q.1.st.length cs) vv | 8 => vv = .pointer (some ⟨rb, 0, none⟩) | 9 => vv = .pointer (some ⟨rb, 3, none⟩) | 10 => ∃ sv', Cl w1 rb (runC b B q.1.vs pm sv') 62 ∧ w1.ownsRow base 46 21 sv' (q.1.st.length + 1) (stsL q.1.st kvs6 ++ stpL q.2.2 kv) ∧ Lies W9.heap.size (.slice ps q.1.st.length cs) sv' | _ => True) (fun done w1 => SA W9 w1 base rb b B q.1.vs pm b8 q.1.st.length (.slice ps q.1.st.length cs) kv q.2.2 (stsL q.1.st kvs6) done) (fun i w1 w2 => Kp (FtA rb (.slice ps q.1.st.length cs) i) w1 w2) (app_le HLT.out.1 HLT.out.2.1 HLT.out.2.2.1) ?start (allLt 11 ?steps) ?fin
              case start => exact ⟨(Kp.refl _ _).drew, fun _ => own_kp H9.out.2.2.2 (fun _ _ => rfl), fun _ => H9.out.2.1⟩
              case steps =>
                refine ⟨⟨⟨⟨⟨⟨⟨⟨⟨⟨⟨trivial, ?s0⟩, ?s1⟩, ?s2⟩, ?s3⟩, ?s4⟩, ?s5⟩, ?s6⟩, ?s7⟩, ?s8⟩, ?s9⟩, ?s10⟩
                case s0 =>
                  intro done a w1 hS h0 hd hno hO hN
                  have o0 : a.tmps[0]? = some (.pointer (some ⟨rb, 0, none⟩)) := (hO.out 0 (by decide)).trans rfl
                  exact relVal rfl (.pointer (some ⟨rb, 0, none⟩)) _ rfl (by go_simp) ⟨_, rfl, rfl, hS.other 0 (Below.refl _ _), Kp.refl _ _⟩
                case s1 =>
                  intro done a w1 hS h0 hd hno hO hN
                  have o0 : a.tmps[0]? = some (.pointer (some ⟨rb, 0, none⟩)) := (hO.out 0 (by decide)).trans rfl
                  exact relVal rfl (.pointer (some ⟨rb, 0, none⟩)) _ rfl (by go_simp) ⟨_, rfl, rfl, hS.other 1 (Below.refl _ _), Kp.refl _ _⟩
                case s2 =>
                  intro done a w1 hS h0 hd hno hO hN
                  obtain ⟨v1, g1, r1⟩ := hN 1 (by decide)
                  have g1 : a.tmps[59]? = some v1 := g1
                  have e1 : v1 = .pointer (some ⟨rb, 0, none⟩) := r1
                  rw [e1] at g1
                  exact relVal rfl (.pointer (some ⟨rb, 0, none⟩)) _ rfl (by go_simp) ⟨_, rfl, rfl, hS.other 2 (Below.refl _ _), Kp.refl _ _⟩
                case s3 =>
                  intro done a w1 hS h0 hd hno hO hN
                  obtain ⟨v2, g2, r2⟩ := hN 2 (by decide)
                  have g2 : a.tmps[60]? = some v2 := g2
                  have e2 : v2 = .pointer (some ⟨rb, 0, none⟩) := r2
                  rw [e2] at g2
                  exact relVal rfl (.pointer (some ⟨rb, 3, none⟩)) _ rfl (by go_simp) ⟨_, rfl, rfl, hS.other 3 (Below.refl _ _), Kp.refl _ _⟩
                case s4 =>
                  intro done a w1 hS h0 hd hno hO hN
                  obtain ⟨v3, g3, r3⟩ := hN 3 (by decide)
                  have g3 : a.tmps[61]? = some v3 := g3
                  have e3 : v3 = .pointer (some ⟨rb, 3, none⟩) := r3
                  rw [e3] at g3
                  have hc : w1.cell? ⟨rb, 3, none⟩ = some (.slice ps q.1.st.length cs) := (hS.run (hno 10 (by decide))).cell 3
                  exact relVal rfl (.slice ps q.1.st.length cs) _ rfl (by go_simp) ⟨_, rfl, rfl, hS.other 4 (Below.refl _ _), Kp.refl _ _⟩
                case s5 =>
                  intro done a w1 hS h0 hd hno hO hN
                  have o8 : a.tmps[8]? = some (.pointer (some ⟨b8, 0, none⟩)) := (hO.out 8 (by decide)).trans rfl
                  have hc8 : Cl w1 b8 (stpC q.2.2 kv) 46 := (hS.kp.block b8 H9.out.2.2.1.lt (fun e => (by
                    rcases e with e | e
                    · have hx := H9.out.2.2.1; rw [e] at hx; exact absurd (cl_type hx H9.out.2.1) (by decide)
                    · exact H8.out.2.2.2.2 e))).trans H9.out.2.2.1
                  have hl5 := run_loadVar_row (P := Tryz.prog) w1 b8 46 46 (stpC q.2.2 kv) (0, 0) _ hc8 Tryz.underlying46 rfl (by rw [sizeS1, stpC_size hq16])
                  have hl6 : (Instr.loadAt 46 (.pointer (some ⟨b8, 0, none⟩))).run Tryz.prog w1 = .ok (.agg (stpC q.2.2 kv)) w1 := by
                    simp only [Instr.loadAt, Instr.sureAddr, Sem.run_bind, Sem.run_pure, Result.andThen]
                    exact hl5
                  exact relVal rfl (.agg (stpC q.2.2 kv)) _ rfl (by simp [execOp, Act.eval, o8, hl6, Result.andThen]) ⟨_, rfl, rfl, hS.other 5 (Below.refl _ _), Kp.refl _ _⟩
                case s6 =>
                  intro done a w1 hS h0 hd hno hO hN
                  obtain ⟨v5, g5, r5⟩ := hN 5 (by decide)
                  have g5 : a.tmps[63]? = some v5 := g5
                  have e5 : v5 = .agg (stpC q.2.2 kv) := r5
                  rw [e5] at g5
                  have hb6 := bsS w1 hq16 kv
                  have hsz := hS.kp.size
                  exact relVal rfl (.slice (some ⟨w1.heap.size, 0, none⟩) 1 1) (w1.alloc (.cells (stpC q.2.2 kv) 46)) rfl (by simp [execOp, Act.eval, g5, hb6, Result.andThen]) ⟨_, rfl, ⟨w1.heap.size, rfl, heap_alloc_new w1 _, hsz⟩, hS.other 6 (below_alloc w1 _), Kp.of_below (below_alloc w1 _)⟩
                case s7 =>
                  intro done a w1 hS h0 hd hno hO hN
                  obtain ⟨v4, g4, r4⟩ := hN 4 (by decide)
                  have g4 : a.tmps[62]? = some v4 := g4
                  have e4 : v4 = .slice ps q.1.st.length cs := r4
                  rw [e4] at g4
                  obtain ⟨v6, g6, r6⟩ := hN 6 (by decide)
                  have g6 : a.tmps[64]? = some v6 := g6
                  obtain ⟨q6, rfl, hc6, hq6⟩ := r6
                  obtain ⟨i0, hi0, hz0, hz1, hz2⟩ := info_parts infoS
                  have how := hS.row h0
                  obtain ⟨sv7, w7, hrun7, ho7, hgr7, _, hat7⟩ := run_append_own_at (P := Tryz.prog) (w := w1) base 33 33 46 i0 _ 21 184 Tryz.underlying33 hi0 hz0 hz1 hz2 rfl (by decide) (.slice ps q.1.st.length cs) q.1.st.length (stsL q.1.st kvs6) how ⟨q6, 0, none⟩ 1 1 (stpL q.2.2 kv) (by rw [stpL_len hq16]) (fun j u hu => (by rw [Addr.add_lit, Nat.zero_add, hc6.cell]; unfold stpC; rw [List.getElem?_toArray]; exact hu)) (stpL_one q.2.2 (own_oneC H8.out.2.1)) (by unfold maxLen; omega) (by omega) (Nat.le_trans HLT.out.2.2.2 hS.kp.size)
                  have hk7 : Kp (FtA rb (.slice ps q.1.st.length cs) 7) w1 w7 := ⟨hgr7.os, hgr7.tape, hgr7.output, hgr7.size, fun k hk hn2 => hgr7.block k hk (fun e => hn2 (Or.inl ⟨rfl, e.symm⟩))⟩
                  have hsz := hS.kp.size
                  refine relVal rfl sv7 w7 rfl (by simp [execOp, Act.eval, resolve, invoke, builtin, g4, g6, hrun7, Result.andThen]) ⟨_, rfl, ⟨ho7, fun k e => ?_⟩, ⟨hS.kp.trans hk7 (fun k hf => ?_), fun h => (by simp at h), fun h => ?_⟩, hk7⟩
                  · rcases hat7 with h1 | h1
                    · exact Or.inl (h1 ▸ e)
                    · rw [h1] at e; cases e; exact Or.inr hsz
                  · rcases hf with ⟨_, e⟩ | ⟨e, _⟩
                    · exact Or.inl (Or.inr e)
                    · cases e
                  · have hr1 := hS.run (by simpa using h)
                    refine (hk7.block rb hr1.lt (fun hf => ?_)).trans hr1
                    rcases hf with ⟨_, e⟩ | ⟨e, _⟩
                    · exact HLT.out.2.2.1 e
                    · cases e
                case s8 =>
                  intro done a w1 hS h0 hd hno hO hN
                  obtain ⟨v0, g0, r0⟩ := hN 0 (by decide)
                  have g0 : a.tmps[58]? = some v0 := g0
                  have e0 : v0 = .pointer (some ⟨rb, 0, none⟩) := r0
                  rw [e0] at g0
                  exact relVal rfl (.pointer (some ⟨rb, 0, none⟩)) _ rfl (by go_simp) ⟨_, rfl, rfl, hS.other 8 (Below.refl _ _), Kp.refl _ _⟩
                case s9 =>
                  intro done a w1 hS h0 hd hno hO hN
                  obtain ⟨v8, g8, r8⟩ := hN 8 (by decide)
                  have g8 : a.tmps[66]? = some v8 := g8
                  have e8 : v8 = .pointer (some ⟨rb, 0, none⟩) := r8
                  rw [e8] at g8
                  exact relVal rfl (.pointer (some ⟨rb, 3, none⟩)) _ rfl (by go_simp) ⟨_, rfl, rfl, hS.other 9 (Below.refl _ _), Kp.refl _ _⟩
                case s10 =>
                  intro done a w1 hS h0 hd hno hO hN
                  obtain ⟨v9, g9, r9⟩ := hN 9 (by decide)
                  have g9 : a.tmps[67]? = some v9 := g9
                  have e9 : v9 = .pointer (some ⟨rb, 3, none⟩) := r9
                  rw [e9] at g9
                  obtain ⟨v7, g7, r7⟩ := hN 7 (by decide)
                  have g7 : a.tmps[65]? = some v7 := g7
                  obtain ⟨ho7, hl7⟩ := r7
                  have hr1 := hS.run h0
                  obtain ⟨p7, n7, c7, rfl⟩ : ∃ p n c, v7 = .slice p n c := by
                    rcases ho7.2 with ⟨h1, _⟩ | ⟨g, cap, cur, h1, _⟩
                    · exact ⟨_, _, _, h1⟩
                    · exact ⟨_, _, _, h1⟩
                  have hk10 : Kp (FtA rb (.slice ps q.1.st.length cs) 10) w1 (w1.setCell ⟨rb, 3, none⟩ (.slice p7 n7 c7)) := ⟨rfl, rfl, rfl, by simp [World.setCell], fun k _ hk => Below.heap_setCell _ _ _ _ (fun e => hk (Or.inr ⟨rfl, e⟩))⟩
                  have d7 : done 7 = true := hd 7 (by decide)
                  refine relStore rfl rfl 33 (.tmp 67) (.tmp 65) rfl (by simp [Act.eval, g9]) (by simp [Act.eval, g7]) (run_stV hr1 p7 n7 c7) ⟨_, rfl, ⟨_, run_set hr1 _, own_kp ho7 fun k e => ?_, hl7⟩, ⟨hS.kp.trans hk10 (fun k hf => ?_), fun h => (by simp [d7] at h), fun h => (by simp at h)⟩, hk10⟩
                  · refine hk10.block k (own_blk ho7 k e).2.1 (fun hf => ?_)
                    rcases hf with ⟨e2, _⟩ | ⟨_, e2⟩
                    · cases e2
                    · subst e2
                      obtain ⟨_, _, cur, hc⟩ := own_blk ho7 _ e
                      exact absurd (cl_type hc hr1) (by decide)
                  · rcases hf with ⟨e, _⟩ | ⟨_, e⟩
                    · cases e
                    · exact Or.inl (Or.inl e)
              case fin =>
                intro vs done w9 hdone hS hV
                obtain ⟨sv9, hr9, ho9, hl9⟩ : ∃ sv', Cl w9 rb (runC b B q.1.vs pm sv') 62 ∧ w9.ownsRow base 46 21 sv' (q.1.st.length + 1) (stsL q.1.st kvs6 ++ stpL q.2.2 kv) ∧ Lies W9.heap.size (.slice ps q.1.st.length cs) sv' := hV 10 (by decide)
                have hbs : base ≤ w5.heap.size := Nat.le_trans HBS.out H8.out.2.2.1
                obtain ⟨hR9, hl10, hk10⟩ := H8.out.1.drew.rn.put (x := q.2.2) (by rw [HQS.out]; exact HS.out.1) (own_kp H8.out.2.1 (fun _ _ => rfl)) hbs H9.out.1.1 H9.out.1.2 hr9 ho9 hl9 hS.kp
                have hA9 : AfR w8.drew w9 rb pm b m v6 (.slice ps q.1.st.length cs) kvs6 v6 sv9 (kvs6 ++ [kv]) ∨ True := Or.inr trivial
                have hlk : ∀ k, Kb (kvs6 ++ [kv]) k → Kb kvs k ∨ w.heap.size ≤ k := fun k hk => by
                  obtain ⟨u, hu, e⟩ := hk
                  rcases List.mem_append.1 hu with hu | hu
                  · exact H8.out.1.af.lk k ⟨u, hu, e⟩
                  · obtain rfl := List.mem_singleton.1 hu
                    exact Or.inr (Nat.le_trans H8.out.2.2.1 (own_blk H8.out.2.1 k e).1)
                have hAA : AfR w w9 rb pm b m v sv kvs v6 sv9 (kvs6 ++ [kv]) := ⟨H8.out.1.af.lv, H8.out.1.af.ls.trans hl10 H8.out.1.drew.af.kp.size, hlk, H8.out.1.drew.af.kp.trans hk10 fun _ hi => H8.out.1.drew.af.foot hi⟩
                simp only [putAll, Act.put, List.setIfInBounds_toArray, List.set_cons_zero, List.set_cons_succ]
                clear hV hS H9 H8 hr9 ho9 hl9 hl10 hk10 hA9 hlk
                go_wp2_with fail
                go_ret2
                exact ⟨rfl, v6, sv9, kvs6 ++ [kv], hR9, hAA⟩
          · have heb : (q.2.1 != 0) = true := by simpa using he
            have hX3 : X = (q.1, q.2.1, 0) := by rw [HX2.out, if_pos he]
            subst hX3
            go_wp2_with fail
            go_ret2
            exact ⟨rfl, v6, sv6, kvs6, H8.out.1.rn, H8.out.1.af⟩
theorem dec_all {base rb pm b m B : Nat} (hB : B ≤ 4096) : ∀ n, DecC base rb pm b m B n (decF B n)
  | 0 => fun w v sv kvs R s hR hG hv _ hf hq hr => by
    have hg := hq.2
    have hs : gq s := ⟨hr, by have := hG.ok.len; exact ⟨by omega, by omega⟩⟩
    have h := dec_walk w hR hB hv hs (R, 0, stp0) (fun h1 => absurd (show R.vs = B by omega) h1)
    have e : decG B R s (R, 0, stp0) = decF B 0 R s := by
      unfold decG decF
      cases look R.st s with
      | some p => rfl
      | none =>
        simp only
        rw [if_pos (by omega)]
    rw [e] at h
    exact h
  | n + 1 => fun w v sv kvs R s hR hG hv hst hf hq hr => by
    have hg := hq.2
    have hs : gq s := ⟨hr, by have := hG.ok.len; exact ⟨by omega, by omega⟩⟩
    have hd := dec_post B n
    have hD := dec_all (base := base) (rb := rb) (pm := pm) (b := b) (m := m) hB n
    have h := dec_walk w hR hB hv hs (entF (decF B n) ⟨R.t, R.st, R.vs + 1⟩ s) (fun h1 _ => by
      have hG1 : Gd ⟨R.t, R.st, R.vs + 1⟩ := ⟨hG.ok, hG.tru, hG.one, hG.kid⟩
      have hGs : Gs B n ⟨R.t, R.st, R.vs + 1⟩ := ⟨hG1, by simp only; omega, by simp only; omega, by simp only; omega, hB⟩
      have hp := ent_post hd (R := ⟨R.t, R.st, R.vs + 1⟩) (s := s) hG1 hGs.vs hq hr
      refine ⟨fun W v' sv' kvs' hR' => ent_any hD hd (cho_any hD hd) W hR' hGs hq hr, ent_len hd hGs hq hr rfl, fun h0 => ⟨(hp.tru h0).1, ?_⟩⟩
      have h2 := hp.way.ct.1
      have h3 := hp.way.vs.2
      have h4 := hGs.st
      simp only at h2 h4
      omega)
    have e : decG B R s (entF (decF B n) ⟨R.t, R.st, R.vs + 1⟩ s) = decF B (n + 1) R s := by
      unfold decG decF
      cases look R.st s with
      | some p => rfl
      | none => rfl
    rw [e] at h
    exact h
end Go.Proofs.YtkejippimkjjaaaGreatDoor
/-
  The call Run of the search: for every table that calls made, every sequent, every budget. Where the table of TrailingZeros stands as the program's text lays it. (Written by genkrn.py.)
-/
namespace Go.Proofs.YtkejippimkjjaaaGreatDoor
open Go.RowKit Go.Shelf Go.Maps
open Fm (Nd)
open Bt.Bs (Ok wd)
set_option linter.unusedSimpArgs false

structure Fnd where
  err : Int
  t : List Nd
  pv : Bool
  st : List Stp
  vs : Nat
deriving DecidableEq
def runF (t : List Nd) (s : SQ) (bud : Int) : Fnd :=
  if refZ t s.1 s.2 ≠ 0 then ⟨refZ t s.1 s.2, t, false, [], 0⟩
  else if bud < 1 ∨ 4096 < bud then ⟨2, t, false, [], 0⟩
  else if (decF bud.toNat bud.toNat ⟨t, [], 0⟩ s).2.1 ≠ 0 then ⟨(decF bud.toNat bud.toNat ⟨t, [], 0⟩ s).2.1, t, false, [], 0⟩
  else ⟨0, (decF bud.toNat bud.toNat ⟨t, [], 0⟩ s).1.t, ((decF bud.toNat bud.toNat ⟨t, [], 0⟩ s).1.st.getD (decF bud.toNat bud.toNat ⟨t, [], 0⟩ s).2.2 stp0).pv, (decF bud.toNat bud.toNat ⟨t, [], 0⟩ s).1.st, (decF bud.toNat bud.toNat ⟨t, [], 0⟩ s).1.vs⟩
def fndC (pv : Bool) (sv : Value) (vs : Nat) : Array Value := #[.bool pv, sv, .int .i64 (vs : Int)]
theorem sizeF : (Tryz.prog.info? 35).map (·.size) = some 3 := by kernel_rfl
theorem zeroFnd (w : World) : (zeroValue 35).run Tryz.prog w = .ok (.agg (fndC false (.slice none 0 0) 0)) w := by kernel_rfl
theorem bldF0 (w : World) : (Instr.build 35 #[]).run Tryz.prog w = .ok (.agg (fndC false (.slice none 0 0) 0)) w := by kernel_rfl
theorem bldF3 (w : World) (pv : Bool) (p : Option Addr) (n c vs : Nat) : (Instr.build 35 #[(0, .bool pv), (1, .slice p n c), (2, .int .i64 (vs : Int))]).run Tryz.prog w = .ok (.agg (fndC pv (.slice p n c) vs)) w := by kernel_rfl
theorem bldR (w : World) (b B pm : Nat) : (Instr.build 62 #[(0, .pointer (some ⟨b, 0, none⟩)), (1, .int .i64 (B : Int)), (4, .map (some pm))]).run Tryz.prog w = .ok (.agg (runC b B 0 pm (.slice none 0 0))) w := by kernel_rfl
theorem results_fnd {fn : Func} {p q : Tmp} (h : fn.results = #[.cell p 35, .tmp q]) (tmps : Array Value) (w : World) (b : Nat) {cs : Array Value} (hp : tmps.getD p undef = .pointer (some ⟨b, 0, none⟩)) (hc : Cl w b cs 35) (hs : cs.size = 3) :
    (results fn tmps).run Tryz.prog w = .ok (.tuple #[.agg cs, tmps.getD q undef]) w := by
  rw [_root_.Go.results_cell_tmp h, hp]
  simp [asAddr, run_loadVar_row w b 35 35 cs (0, 0) _ hc Tryz.underlying35 rfl (by rw [sizeF, hs]), Result.andThen]
theorem fndC_all (pv : Bool) (p : Option Addr) (n c vs : Nat) : (fndC pv (.slice p n c) vs).all (·.oneCell') = true := by simp [fndC, Value.oneCell']
section
variable {ops : Array Oper} {rest : List Oper} {o : Oper} {a : Act} {Q : Exit → Act → World → Prop} {w : World}
theorem wpList_bldF0 (hg : o.guard = none) (hop : o.op = Op.build 35 #[]) (hK : wpList Tryz.prog ops Q rest (a.put o.dst (.agg (fndC false (.slice none 0 0) 0))) w) : wpList Tryz.prog ops Q (o :: rest) a w := by
  refine wpList_plain hg fun K' hK' => ?_
  have hrun := bldF0 w
  unfold Oper.wp
  simp [execOp, hop, hrun, Result.andThen]
  exact hK' _ _ hK
theorem wpList_bldR (hg : o.guard = none) (x y z : Operand) (hop : o.op = Op.build 62 #[(0, x), (1, y), (4, z)]) (b B pm : Nat) (hx : a.eval x = .pointer (some ⟨b, 0, none⟩)) (hy : a.eval y = .int .i64 (B : Int)) (hz : a.eval z = .map (some pm)) (hK : wpList Tryz.prog ops Q rest (a.put o.dst (.agg (runC b B 0 pm (.slice none 0 0)))) w) : wpList Tryz.prog ops Q (o :: rest) a w := by
  refine wpList_plain hg fun K' hK' => ?_
  have hrun := bldR w b B pm
  unfold Oper.wp
  simp [execOp, hop, hx, hy, hz, hrun, Result.andThen]
  exact hK' _ _ hK
theorem wpList_mkM (hg : o.guard = none) (hop : o.op = Op.makeMap 60 none) (hK : ∀ w' q, ownsQ w' q (.map []) → Below w.heap.size w w' → q = w.heap.size → w'.heap.size = q + 1 → wpList Tryz.prog ops Q rest (a.put o.dst (.map (some q))) w') : wpList Tryz.prog ops Q (o :: rest) a w := by
  refine wpList_plain hg fun K' hK' => ?_
  have hrun := run_makeMap (P := Tryz.prog) 60 w
  unfold Oper.wp
  simp [execOp, hop, hrun, Result.andThen]
  exact hK' _ _ (hK _ _ (ownQ_size (World.ownsMap_made w Tryz.prog 27 (plainElem Tryz.prog 3))) (below_alloc w _) rfl (by simp))
end
theorem Ext.take {t t1 : List Nd} (h : Ext t t1) : t1.take t.length = t := by
  have hl := h.len
  apply List.ext_getElem
  · simp; omega
  · intro i h1 h2
    have := h.nod i h2
    rw [nodeOf_nat h2, nodeOf_nat (show i < t1.length by omega)] at this
    simpa using this
theorem tz_nft {w : World} {b m : Nat} {v : Value} {t : List Nd} (hT : Tb w b m v t) (hz : Bt.Tz w) (hp : 0 < t.length) : ¬ Ft b m v 0 := by
  have h0 := hz 0 (by decide)
  rintro (e | e | e)
  · subst e
    obtain ⟨p, c, rfl⟩ := hT.row.form
    have h1 := hT.c0
    rw [h1] at h0
    cases h0
  · obtain ⟨D, ⟨es, cl, hm, _⟩, _⟩ := hT.map
    subst e
    simp [World.cell?, hm] at h0
  · rcases hT.row with ⟨rfl, _⟩ | ⟨g, cap, cur, rfl, hh, h1, h2, h3, h4⟩
    · cases e
    · obtain rfl : g = _ := Option.some.inj e
      rw [cell_of_row w _ 0 cur _ _ hh] at h0
      have h5 : (cellsOf t)[0]? = (ndC t[0])[0]? := cellsOf_at t 0 0 hp (by omega)
      rw [← h4, List.getElem?_take, if_pos (by omega)] at h5
      simp only [Array.getElem?_toList] at h5
      rw [h0] at h5
      cases h5
structure RL (w0 W : World) (b4 b6 : Nat) (s : SQ) : Prop where
  s4 : SeqAt W b4 s.1 s.2
  c6 : Cl W b6 (fndC false (.slice none 0 0) 0) 35
  bel : Below w0.heap.size w0 W
  g6 : w0.heap.size ≤ b6
theorem RL.later {w0 W W' : World} {b4 b6 : Nat} {s : SQ} (h : RL w0 W b4 b6 s) (hb : Below W.heap.size W W') : RL w0 W' b4 b6 s := ⟨h.s4.later hb h.s4.lt, h.c6.later hb, h.bel.trans (hb.mono h.bel.size), h.g6⟩
structure RM (w0 W : World) (base rb pm b m : Nat) (v v' sv' : Value) (kvs' : List Value) (B : Nat) (R : Rs) (b6 : Nat) : Prop where
  rn : Rn W base rb pm b m v' sv' kvs' B R
  lv : Lies w0.heap.size v v'
  kp : Kp (Ft b m v) w0 W
  c6 : Cl W b6 (fndC false (.slice none 0 0) 0) 35
  g6 : w0.heap.size ≤ b6
theorem RM.drew {w0 W : World} {base rb pm b m : Nat} {v v' sv' : Value} {kvs' : List Value} {B : Nat} {R : Rs} {b6 : Nat} (h : RM w0 W base rb pm b m v v' sv' kvs' B R b6) : RM w0 W.drew base rb pm b m v v' sv' kvs' B R b6 := ⟨h.rn.drew, h.lv, h.kp.drew, h.c6, h.g6⟩
theorem RM.set {w0 W W' : World} {base rb pm b m : Nat} {v v' sv' : Value} {kvs' : List Value} {B : Nat} {R : Rs} {b6 : Nat} (h : RM w0 W base rb pm b m v v' sv' kvs' B R b6) (hk : KpP b6 W W') : Sts W' base sv' R.st kvs' ∧ After w0 b m v R.t W' := by
  have n6 := h.rn.other h.c6 (by decide) (by decide) (by decide) (Or.inl (by decide))
  have k6 := h.rn.sts.nkb h.c6 (by decide)
  have g6 := h.g6
  exact ⟨h.rn.sts.keep (fun k e => hk.block k (h.rn.sts.blk e).2.1 (fun e2 => n6 (e2 ▸ Or.inr (Or.inr (Or.inl e))))) (fun k e => hk.block k (h.rn.sts.kb e).2.1 (fun e2 => k6 (e2 ▸ e))), v', h.rn.tb.keep (fun k e => hk.block k (h.rn.tb.foot k e) (fun e2 => n6 (e2 ▸ Or.inr (Or.inr (Or.inr e))))), h.lv, h.kp.trans (S' := fun k => k = b6) hk (fun i hi => Or.inr (by omega))⟩
set_option maxRecDepth 100000 in
set_option maxHeartbeats 4000000 in
theorem run_any (w : World) {b m : Nat} {v : Value} {t : List Nd} (hT : Tb w b m v t) (hZ : Bt.Tz w) {s : SQ} (hr : Ok s.1) (bud : Int) :
    Calls Tryz.prog 6 #[.pointer (some ⟨b, 0, none⟩), .agg (cellsQ s.1 s.2), .int .i64 bud] w fun e w' => ∃ sv, e = .returned (.tuple #[.agg (fndC (runF t s bud).pv sv (runF t s bud).vs), .int .i64 (runF t s bud).err]) ∧ (∃ kvs, Sts w' w.heap.size sv (runF t s bud).st kvs) ∧ After w b m v (runF t s bud).t w' := by
  have hl := hr.1
  have HT := show Hid (∀ W : World, Below w.heap.size w W → Tb W b m v t ∧ Bt.Tz W) from fun W h => ⟨hT.later h, Bt.tz_block hZ h⟩
  have HA := show Hid (∀ W : World, Below w.heap.size w W → After w b m v t W) from fun W h => After.of_below hT h
  have HR := show Hid (Ok s.1) from hr
  have HGT := show Hid (refZ t s.1 s.2 = 0 → rgt t.length s) from fun h => by
    rw [ref_right hr] at h
    refine rgt_iff.1 ?_
    cases hq : rightQ t s.1 s.2
    · rw [hq, if_neg Bool.false_ne_true] at h
      exact absurd h (by decide)
    · rfl
  have HF := show Hid (runF t s bud = if refZ t s.1 s.2 ≠ 0 then ⟨refZ t s.1 s.2, t, false, [], 0⟩
  else if bud < 1 ∨ 4096 < bud then ⟨2, t, false, [], 0⟩
  else if (decF bud.toNat bud.toNat ⟨t, [], 0⟩ s).2.1 ≠ 0 then ⟨(decF bud.toNat bud.toNat ⟨t, [], 0⟩ s).2.1, t, false, [], 0⟩
  else ⟨0, (decF bud.toNat bud.toNat ⟨t, [], 0⟩ s).1.t, ((decF bud.toNat bud.toNat ⟨t, [], 0⟩ s).1.st.getD (decF bud.toNat bud.toNat ⟨t, [], 0⟩ s).2.2 stp0).pv, (decF bud.toNat bud.toNat ⟨t, [], 0⟩ s).1.st, (decF bud.toNat bud.toNat ⟨t, [], 0⟩ s).1.vs⟩) from rfl
  generalize runF t s bud = X at *
  clear hT hZ hr
  go_enter Tryz.func6, Tryz.ntmps6
  go_wp2_with (refine wpList_box 27 _ rfl _ rfl rfl ?_)
  intro w1 b4 hn1
  go_wp2_with (refine wpList_alloc 35 rfl _ zeroFnd rfl ?_)
  intro w2 b6 hn2
  have H2 := show Hid (RL w w2 b4 b6 s) from ⟨Cl.new hn1.blk hn2, hn2.blk, bel_new hn1.bel hn2, by have := hn1.bel.size; have := hn2.ge; omega⟩
  clear hn1 hn2
  have KA := show Hid _ from apply_any w2 (HT.out w2 H2.out.bel).1 (HT.out w2 H2.out.bel).2 HR.out s.2
  obtain ⟨rq, hrq⟩ : ∃ q, q = refZ t s.1 s.2 := ⟨_, rfl⟩
  rw [← hrq] at KA HF HGT
  clear hrq
  go_wp2_with (refine wpList_ldQQ _ _ rfl b4 rfl H2.out.s4 hl rfl ?_)
  refine Calls.mono KA.out ?_
  rintro e w3 ⟨rfl, hb3⟩
  have H3 := show Hid _ from H2.out.later hb3
  clear H2 hb3 KA
  by_cases hz : rq = 0
  · subst hz
    simp only [if_true]
    have HG := show Hid (rgt t.length s) from HGT.out (by trivial)
    have hX1 : X = if bud < 1 ∨ 4096 < bud then ⟨2, t, false, [], 0⟩ else if (decF bud.toNat bud.toNat ⟨t, [], 0⟩ s).2.1 ≠ 0 then ⟨(decF bud.toNat bud.toNat ⟨t, [], 0⟩ s).2.1, t, false, [], 0⟩ else ⟨0, (decF bud.toNat bud.toNat ⟨t, [], 0⟩ s).1.t, ((decF bud.toNat bud.toNat ⟨t, [], 0⟩ s).1.st.getD (decF bud.toNat bud.toNat ⟨t, [], 0⟩ s).2.2 stp0).pv, (decF bud.toNat bud.toNat ⟨t, [], 0⟩ s).1.st, (decF bud.toNat bud.toNat ⟨t, [], 0⟩ s).1.vs⟩ := by rw [HF.out, if_neg (by simp)]
    have HX1 := show Hid _ from hX1
    clear hX1 HF HGT
    generalize (if (0 : Int) = 0 then (applyF t s.1 s.2).1 else 0) = k1 at *
    generalize (if (0 : Int) = 0 then (applyF t s.1 s.2).2 else 0) = k2 at *
    by_cases hbd : bud < 1 ∨ 4096 < bud
    · have hX : X = ⟨2, t, false, [], 0⟩ := by rw [HX1.out, if_pos hbd]
      subst hX
      clear HX1
      rcases hbd with hbd | hbd
      · go_wp2_with (first | (refine wpList_bldF0 rfl rfl ?_) | (refine wpList_st 35 rfl rfl _ _ rfl b6 rfl _ rfl _ _ H3.out.c6 (by rw [sizeF]; rfl) rfl (fndC_all ..) ?_))
        intro w4 hc4 hk4
        go_wp2_with fail
        refine bodyPost_ret (results_fnd rfl _ _ b6 rfl hc4 rfl) rfl ?_
        exact ⟨_, rfl, ⟨[], sts_nil _ _⟩, HA.out _ (bel_kp H3.out.bel hk4 H3.out.g6)⟩
      · have hb1 : ¬ bud < 1 := by omega
        go_wp2_with (first | (refine wpList_bldF0 rfl rfl ?_) | (refine wpList_st 35 rfl rfl _ _ rfl b6 rfl _ rfl _ _ H3.out.c6 (by rw [sizeF]; rfl) rfl (fndC_all ..) ?_))
        intro w4 hc4 hk4
        go_wp2_with fail
        refine bodyPost_ret (results_fnd rfl _ _ b6 rfl hc4 rfl) rfl ?_
        exact ⟨_, rfl, ⟨[], sts_nil _ _⟩, HA.out _ (bel_kp H3.out.bel hk4 H3.out.g6)⟩
    · have hX2 := HX1.out
      rw [if_neg hbd] at hX2
      obtain ⟨B, hBB⟩ : ∃ B : Nat, bud = B := ⟨bud.toNat, by omega⟩
      subst hBB
      rw [Int.toNat_natCast] at hX2
      have hb1 : ¬ (B : Int) < 1 := by omega
      have hb2 : ¬ (4096 : Int) < (B : Int) := by omega
      have HX2 := show Hid _ from hX2
      clear hX2 HX1 hbd
      have KL := show Hid _ from len_any w3 (HT.out w3 H3.out.bel).1
      go_wp2_with fail
      refine Calls.mono KL.out ?_
      rintro e w3' ⟨rfl, hw3⟩
      subst w3'
      clear KL
      go_wp2_with (refine wpList_mkM rfl rfl ?_)
      intro w4 pm hm4 hb4 hpm4 hs4
      have H4 := show Hid (RL w w4 b4 b6 s ∧ ownsQ w4 pm (.map []) ∧ pm = w3.heap.size ∧ w4.heap.size = pm + 1) from ⟨H3.out.later hb4, hm4, hpm4, hs4⟩
      clear hm4 hb4 hpm4 hs4
      go_wp2_with (first | (refine wpList_bldR rfl _ _ _ rfl b B pm rfl rfl rfl ?_) | (refine wpList_box 62 _ rfl _ rfl rfl ?_))
      intro w5 rb hn5
      have H5 := show Hid (RL w w5 b4 b6 s ∧ Rn w5 w.heap.size rb pm b m v (.slice none 0 0) [] B ⟨t, [], 0⟩) from (by
        have hL := H4.out.1.later hn5.bel
        have e3 := H3.out.bel.size; have e4 := H4.out.2.2.1; have e5 := H4.out.2.2.2; have e6 := hn5.ge; have e7 := hn5.eq
        have hT5 := HT.out w5 hL.bel
        have hlt : 0 < w.heap.size := (by have h := Bt.tz_lt (HT.out w (Below.refl _ _)).2; exact h)
        have hpos : 0 < t.length := (by have h2 := HG.out.2; omega)
        have hnf := tz_nft hT5.1 hT5.2 hpos
        have hmw := (HT.out w (Below.refl _ _)).1.mlt
        refine ⟨hL, hn5.blk, hT5.1, hT5.2, sts_nil _ _, ⟨.map [], ownQ_kp H4.out.2.1 (hn5.bel.block pm (by omega)), tiedQ_nil⟩, ⟨by omega, by omega, hL.bel.size⟩, ?_, by omega⟩
        rintro (e | e | e | e)
        · omega
        · omega
        · cases e
        · exact hnf e)
      clear hn5 H4 H3
      have HGD := show Hid (Gd ⟨t, [], 0⟩) from ⟨(HT.out w (Below.refl _ _)).1.ok, fun x hx => (by cases hx), fun i j x y h => (by simp at h), fun i x h => (by simp at h)⟩
      have KD := show Hid _ from dec_all (base := w.heap.size) (rb := rb) (pm := pm) (b := b) (m := m) (B := B) (by omega) B w5 v (.slice none 0 0) [] ⟨t, [], 0⟩ s H5.out.2 HGD.out (Nat.zero_le _) (Nat.le_refl _) (by simp only; omega) HG.out HR.out
      have HPS := show Hid (Pst B ⟨t, [], 0⟩ s (decF B B ⟨t, [], 0⟩ s)) from dec_post B B _ s HGD.out (Nat.zero_le _) HG.out HR.out
      generalize decF B B ⟨t, [], 0⟩ s = q at *
      go_wp2_with (refine wpList_ldQQ _ _ rfl b4 rfl H5.out.1.s4 hl rfl ?_)
      refine Calls.mono KD.out ?_
      rintro e w6 ⟨rfl, v6, sv6, kvs6, hR6, hA6⟩
      have H6 := show Hid (RM w w6 w.heap.size rb pm b m v v6 sv6 kvs6 B q.1 b6) from (by
        have n6 := H5.out.2.other H5.out.1.c6 (by decide) (by decide) (by decide) (Or.inl (by decide))
        have hsz := H5.out.1.bel.size
        refine ⟨hR6, fun k e => ?_, (Kp.of_below (S := Ft b m v) H5.out.1.bel).trans hA6.kp (fun k hf => ?_), hA6.cl H5.out.1.c6 n6, H5.out.1.g6⟩
        · rcases hA6.lv k e with h1 | h1
          · exact Or.inl h1
          · exact Or.inr (by omega)
        · rcases hf with e | e | e | e
          · have := H5.out.2.bs.1; exact Or.inr (by omega)
          · have := H5.out.2.bs.2.1; exact Or.inr (by omega)
          · cases e
          · exact Or.inl e)
      clear hR6 hA6 KD H5
      by_cases he : q.2.1 = 0
      · have heb : (q.2.1 != 0) = false := by rw [he]; rfl
        obtain ⟨y, hy, _, _⟩ := HPS.out.at he
        have hlt6 := (List.getElem?_eq_some_iff.1 hy).1
        obtain ⟨pv, hpv⟩ : ∃ pv, pv = y.pv := ⟨_, rfl⟩
        have hX3 : X = ⟨0, q.1.t, pv, q.1.st, q.1.vs⟩ := by rw [HX2.out, if_neg (by rw [he]; simp), getD_some hy stp0, hpv]
        subst hX3
        obtain ⟨gs, cs, rfl, hpc⟩ := H6.out.rn.sts.pv hy
        have HPC := show Hid (w6.cell? ⟨gs, q.2.2 * 21 + 17, none⟩ = some (.bool pv)) from by rw [hpv]; exact hpc
        have hil : (q.2.2 : Int) < (q.1.st.length : Int) := by omega
        clear HX2 HPS hy hpc hpv
        go_wp2_with fail
        refine wp_region_one (by kernel_rfl) 17 [some 53, some 54, some 55, some 56, some 57, some 58, some 59, some 60, some 61, some 62, some 63, some 64, some 65, some 66, some 67, some 68, some 69, none, some 7] [[], [0], [1], [2], [], [3, 4], [5], [6], [], [8], [9], [10], [], [12], [13], [14], [7, 11, 15], [16], []] [[], [0], [1, 0], [2, 1, 0], [], [3, 2, 1, 0, 4], [5, 3, 2, 1, 0, 4], [6, 5, 3, 2, 1, 0, 4], [], [8], [9, 8], [10, 9, 8], [], [12], [13, 12], [14, 13, 12], [7, 6, 5, 3, 2, 1, 0, 4, 11, 10, 9, 8, 15, 14, 13, 12], [16, 7, 6, 5, 3, 2, 1, 0, 4, 11, 10, 9, 8, 15, 14, 13, 12], []] (by kernel_rfl) (by decide) (fun ii vv w1 => match ii with | 0 => vv = .pointer (some ⟨rb, 0, none⟩) | 1 => vv = .pointer (some ⟨rb, 0, none⟩) | 2 => vv = .pointer (some ⟨rb, 3, none⟩) | 3 => vv = .slice (some ⟨gs, 0, none⟩) q.1.st.length cs | 4 => vv = .int .i64 (q.2.2 : Int) | 5 => vv = .pointer (some ⟨gs, q.2.2 * 21, none⟩) | 6 => vv = .pointer (some ⟨gs, q.2.2 * 21 + 17, none⟩) | 7 => vv = .bool pv | 8 => vv = .pointer (some ⟨rb, 0, none⟩) | 9 => vv = .pointer (some ⟨rb, 0, none⟩) | 10 => vv = .pointer (some ⟨rb, 3, none⟩) | 11 => vv = .slice (some ⟨gs, 0, none⟩) q.1.st.length cs | 12 => vv = .pointer (some ⟨rb, 0, none⟩) | 13 => vv = .pointer (some ⟨rb, 0, none⟩) | 14 => vv = .pointer (some ⟨rb, 2, none⟩) | 15 => vv = .int .i64 (q.1.vs : Int) | 16 => vv = .agg (fndC pv (.slice (some ⟨gs, 0, none⟩) q.1.st.length cs) q.1.vs) | 17 => Cl w1 b6 (fndC pv (.slice (some ⟨gs, 0, none⟩) q.1.st.length cs) q.1.vs) 35 ∧ KpP b6 w6.drew w1 | 18 => vv = .int .i64 0 | _ => True) ?hfree (allLt 19 ?steps) ?fin
        case hfree =>
          intro j v w1 w2 hj hn h
          match j, h, hj, hn with
          | 0, h, _, _ => exact h
          | 1, h, _, _ => exact h
          | 2, h, _, _ => exact h
          | 3, h, _, _ => exact h
          | 4, h, _, _ => exact h
          | 5, h, _, _ => exact h
          | 6, h, _, _ => exact h
          | 7, h, _, _ => exact h
          | 8, h, _, _ => exact h
          | 9, h, _, _ => exact h
          | 10, h, _, _ => exact h
          | 11, h, _, _ => exact h
          | 12, h, _, _ => exact h
          | 13, h, _, _ => exact h
          | 14, h, _, _ => exact h
          | 15, h, _, _ => exact h
          | 16, h, _, _ => exact h
          | 17, _, hj, _ => exact absurd rfl hj
          | 18, h, _, _ => exact h
          | _ + 19, _, _, _ => trivial
        case steps =>
          refine ⟨⟨⟨⟨⟨⟨⟨⟨⟨⟨⟨⟨⟨⟨⟨⟨⟨⟨⟨trivial, ?s0⟩, ?s1⟩, ?s2⟩, ?s3⟩, ?s4⟩, ?s5⟩, ?s6⟩, ?s7⟩, ?s8⟩, ?s9⟩, ?s10⟩, ?s11⟩, ?s12⟩, ?s13⟩, ?s14⟩, ?s15⟩, ?s16⟩, ?s17⟩, ?s18⟩
          case s0 =>
            intro a w1 hw hO hN
            obtain rfl : w1 = w6.drew := hw (by decide)
            have o12 : a.tmps[12]? = some (.pointer (some ⟨rb, 0, none⟩)) := (hO.out 12 (by decide)).trans rfl
            exact relVal rfl (.pointer (some ⟨rb, 0, none⟩)) _ rfl (by go_simp) ⟨_, rfl, rfl, fun _ => rfl⟩
          case s1 =>
            intro a w1 hw hO hN
            obtain rfl : w1 = w6.drew := hw (by decide)
            obtain ⟨v0, g0, r0⟩ := hN 0 (by decide)
            have g0 : a.tmps[53]? = some v0 := g0
            have e0 : v0 = .pointer (some ⟨rb, 0, none⟩) := r0
            rw [e0] at g0
            exact relVal rfl (.pointer (some ⟨rb, 0, none⟩)) _ rfl (by go_simp) ⟨_, rfl, rfl, fun _ => rfl⟩
          case s2 =>
            intro a w1 hw hO hN
            obtain rfl : w1 = w6.drew := hw (by decide)
            obtain ⟨v1, g1, r1⟩ := hN 1 (by decide)
            have g1 : a.tmps[54]? = some v1 := g1
            have e1 : v1 = .pointer (some ⟨rb, 0, none⟩) := r1
            rw [e1] at g1
            exact relVal rfl (.pointer (some ⟨rb, 3, none⟩)) _ rfl (by go_simp) ⟨_, rfl, rfl, fun _ => rfl⟩
          case s3 =>
            intro a w1 hw hO hN
            obtain rfl : w1 = w6.drew := hw (by decide)
            obtain ⟨v2, g2, r2⟩ := hN 2 (by decide)
            have g2 : a.tmps[55]? = some v2 := g2
            have e2 : v2 = .pointer (some ⟨rb, 3, none⟩) := r2
            rw [e2] at g2
            have hc : w6.drew.cell? ⟨rb, 3, none⟩ = some (.slice (some ⟨gs, 0, none⟩) q.1.st.length cs) := H6.out.drew.rn.run.cell 3
            exact relVal rfl (.slice (some ⟨gs, 0, none⟩) q.1.st.length cs) _ rfl (by go_simp) ⟨_, rfl, rfl, fun _ => rfl⟩
          case s4 =>
            intro a w1 hw hO hN
            obtain rfl : w1 = w6.drew := hw (by decide)
            have o13 : a.tmps[13]? = some (.int .i64 (q.2.2 : Int)) := (hO.out 13 (by decide)).trans rfl
            exact relVal rfl (.int .i64 (q.2.2 : Int)) _ rfl (by go_simp) ⟨_, rfl, rfl, fun _ => rfl⟩
          case s5 =>
            intro a w1 hw hO hN
            obtain rfl : w1 = w6.drew := hw (by decide)
            obtain ⟨v3, g3, r3⟩ := hN 3 (by decide)
            have g3 : a.tmps[56]? = some v3 := g3
            have e3 : v3 = .slice (some ⟨gs, 0, none⟩) q.1.st.length cs := r3
            rw [e3] at g3
            obtain ⟨v4, g4, r4⟩ := hN 4 (by decide)
            have g4 : a.tmps[57]? = some v4 := g4
            have e4 : v4 = .int .i64 (q.2.2 : Int) := r4
            rw [e4] at g4
            exact relVal rfl (.pointer (some ⟨gs, q.2.2 * 21, none⟩)) _ rfl (by go_simp) ⟨_, rfl, rfl, fun _ => rfl⟩
          case s6 =>
            intro a w1 hw hO hN
            obtain rfl : w1 = w6.drew := hw (by decide)
            obtain ⟨v5, g5, r5⟩ := hN 5 (by decide)
            have g5 : a.tmps[58]? = some v5 := g5
            have e5 : v5 = .pointer (some ⟨gs, q.2.2 * 21, none⟩) := r5
            rw [e5] at g5
            exact relVal rfl (.pointer (some ⟨gs, q.2.2 * 21 + 17, none⟩)) _ rfl (by go_simp) ⟨_, rfl, rfl, fun _ => rfl⟩
          case s7 =>
            intro a w1 hw hO hN
            obtain rfl : w1 = w6.drew := hw (by decide)
            obtain ⟨v6, g6, r6⟩ := hN 6 (by decide)
            have g6 : a.tmps[59]? = some v6 := g6
            have e6 : v6 = .pointer (some ⟨gs, q.2.2 * 21 + 17, none⟩) := r6
            rw [e6] at g6
            have hc : w6.drew.cell? ⟨gs, q.2.2 * 21 + 17, none⟩ = some (.bool pv) := HPC.out
            exact relVal rfl (.bool pv) _ rfl (by go_simp) ⟨_, rfl, rfl, fun _ => rfl⟩
          case s8 =>
            intro a w1 hw hO hN
            obtain rfl : w1 = w6.drew := hw (by decide)
            have o12 : a.tmps[12]? = some (.pointer (some ⟨rb, 0, none⟩)) := (hO.out 12 (by decide)).trans rfl
            exact relVal rfl (.pointer (some ⟨rb, 0, none⟩)) _ rfl (by go_simp) ⟨_, rfl, rfl, fun _ => rfl⟩
          case s9 =>
            intro a w1 hw hO hN
            obtain rfl : w1 = w6.drew := hw (by decide)
            obtain ⟨v8, g8, r8⟩ := hN 8 (by decide)
            have g8 : a.tmps[61]? = some v8 := g8
            have e8 : v8 = .pointer (some ⟨rb, 0, none⟩) := r8
            rw [e8] at g8
            exact relVal rfl (.pointer (some ⟨rb, 0, none⟩)) _ rfl (by go_simp) ⟨_, rfl, rfl, fun _ => rfl⟩
          case s10 =>
            intro a w1 hw hO hN
            obtain rfl : w1 = w6.drew := hw (by decide)
            obtain ⟨v9, g9, r9⟩ := hN 9 (by decide)
            have g9 : a.tmps[62]? = some v9 := g9
            have e9 : v9 = .pointer (some ⟨rb, 0, none⟩) := r9
            rw [e9] at g9
            exact relVal rfl (.pointer (some ⟨rb, 3, none⟩)) _ rfl (by go_simp) ⟨_, rfl, rfl, fun _ => rfl⟩
          case s11 =>
            intro a w1 hw hO hN
            obtain rfl : w1 = w6.drew := hw (by decide)
            obtain ⟨v10, g10, r10⟩ := hN 10 (by decide)
            have g10 : a.tmps[63]? = some v10 := g10
            have e10 : v10 = .pointer (some ⟨rb, 3, none⟩) := r10
            rw [e10] at g10
            have hc : w6.drew.cell? ⟨rb, 3, none⟩ = some (.slice (some ⟨gs, 0, none⟩) q.1.st.length cs) := H6.out.drew.rn.run.cell 3
            exact relVal rfl (.slice (some ⟨gs, 0, none⟩) q.1.st.length cs) _ rfl (by go_simp) ⟨_, rfl, rfl, fun _ => rfl⟩
          case s12 =>
            intro a w1 hw hO hN
            obtain rfl : w1 = w6.drew := hw (by decide)
            have o12 : a.tmps[12]? = some (.pointer (some ⟨rb, 0, none⟩)) := (hO.out 12 (by decide)).trans rfl
            exact relVal rfl (.pointer (some ⟨rb, 0, none⟩)) _ rfl (by go_simp) ⟨_, rfl, rfl, fun _ => rfl⟩
          case s13 =>
            intro a w1 hw hO hN
            obtain rfl : w1 = w6.drew := hw (by decide)
            obtain ⟨v12, g12, r12⟩ := hN 12 (by decide)
            have g12 : a.tmps[65]? = some v12 := g12
            have e12 : v12 = .pointer (some ⟨rb, 0, none⟩) := r12
            rw [e12] at g12
            exact relVal rfl (.pointer (some ⟨rb, 0, none⟩)) _ rfl (by go_simp) ⟨_, rfl, rfl, fun _ => rfl⟩
          case s14 =>
            intro a w1 hw hO hN
            obtain rfl : w1 = w6.drew := hw (by decide)
            obtain ⟨v13, g13, r13⟩ := hN 13 (by decide)
            have g13 : a.tmps[66]? = some v13 := g13
            have e13 : v13 = .pointer (some ⟨rb, 0, none⟩) := r13
            rw [e13] at g13
            exact relVal rfl (.pointer (some ⟨rb, 2, none⟩)) _ rfl (by go_simp) ⟨_, rfl, rfl, fun _ => rfl⟩
          case s15 =>
            intro a w1 hw hO hN
            obtain rfl : w1 = w6.drew := hw (by decide)
            obtain ⟨v14, g14, r14⟩ := hN 14 (by decide)
            have g14 : a.tmps[67]? = some v14 := g14
            have e14 : v14 = .pointer (some ⟨rb, 2, none⟩) := r14
            rw [e14] at g14
            have hc : w6.drew.cell? ⟨rb, 2, none⟩ = some (.int .i64 (q.1.vs : Int)) := H6.out.drew.rn.run.cell 2
            exact relVal rfl (.int .i64 (q.1.vs : Int)) _ rfl (by go_simp) ⟨_, rfl, rfl, fun _ => rfl⟩
          case s16 =>
            intro a w1 hw hO hN
            obtain rfl : w1 = w6.drew := hw (by decide)
            obtain ⟨v7, g7, r7⟩ := hN 7 (by decide)
            have g7 : a.tmps[60]? = some v7 := g7
            have e7 : v7 = .bool pv := r7
            rw [e7] at g7
            obtain ⟨v11, g11, r11⟩ := hN 11 (by decide)
            have g11 : a.tmps[64]? = some v11 := g11
            have e11 : v11 = .slice (some ⟨gs, 0, none⟩) q.1.st.length cs := r11
            rw [e11] at g11
            obtain ⟨v15, g15, r15⟩ := hN 15 (by decide)
            have g15 : a.tmps[68]? = some v15 := g15
            have e15 : v15 = .int .i64 (q.1.vs : Int) := r15
            rw [e15] at g15
            have hb1 := bldF3 w6.drew pv (some ⟨gs, 0, none⟩) q.1.st.length cs q.1.vs
            exact relVal rfl (.agg (fndC pv (.slice (some ⟨gs, 0, none⟩) q.1.st.length cs) q.1.vs)) _ rfl (by simp [execOp, Act.eval, g7, g11, g15, hb1, Result.andThen]) ⟨_, rfl, rfl, fun _ => rfl⟩
          case s17 =>
            intro a w1 hw hO hN
            obtain rfl : w1 = w6.drew := hw (by decide)
            obtain ⟨v16, g16, r16⟩ := hN 16 (by decide)
            have g16 : a.tmps[69]? = some v16 := g16
            have e16 : v16 = .agg (fndC pv (.slice (some ⟨gs, 0, none⟩) q.1.st.length cs) q.1.vs) := r16
            rw [e16] at g16
            have o6 : a.tmps[6]? = some (.pointer (some ⟨b6, 0, none⟩)) := (hO.out 6 (by decide)).trans rfl
            have hst : (Instr.storeAt 35 (.pointer (some ⟨b6, 0, none⟩)) (.agg (fndC pv (.slice (some ⟨gs, 0, none⟩) q.1.st.length cs) q.1.vs))).run Tryz.prog w6.drew = .ok () (w6.drew.setRow b6 (fndC pv (.slice (some ⟨gs, 0, none⟩) q.1.st.length cs) q.1.vs)) := by
              simp only [Instr.storeAt, Instr.sureAddr, Sem.run_bind, Sem.run_pure, Result.andThen]
              exact run_storeVar_row w6.drew b6 35 35 _ _ H6.out.drew.c6 (by rw [sizeF]; rfl) rfl (fndC_all ..)
            exact relStore rfl rfl 35 (.tmp 6) (.tmp 69) rfl (by simp [Act.eval, o6]) (by simp [Act.eval, g16]) hst ⟨_, rfl, ⟨setRow_heap w6.drew b6 _ _ _ _ H6.out.drew.c6, setRow_kp w6.drew b6 _⟩, fun h => absurd rfl h⟩
          case s18 =>
            intro a w1 hw hO hN
            exact relVal rfl (.int .i64 0) _ rfl (by go_simp) ⟨_, rfl, rfl, fun _ => rfl⟩
        case fin =>
          intro vs w1 hV
          obtain ⟨hc17, hk17⟩ : Cl w1 b6 (fndC pv (.slice (some ⟨gs, 0, none⟩) q.1.st.length cs) q.1.vs) 35 ∧ KpP b6 w6.drew w1 := hV 17 (by decide)
          have e18 : vs 18 = .int .i64 0 := hV 18 (by decide)
          obtain ⟨hS8, hA8⟩ := H6.out.drew.set hk17
          clear hV H6 hk17
          simp only [putAll, Act.put, List.setIfInBounds_toArray, List.set_cons_zero, List.set_cons_succ, e18]
          clear e18
          go_wp2_with fail
          refine bodyPost_ret (results_fnd rfl _ _ b6 rfl hc17 rfl) rfl ?_
          exact ⟨_, rfl, ⟨kvs6, hS8⟩, hA8⟩
      · have heb : (q.2.1 != 0) = true := by simpa using he
        have hX3 : X = ⟨q.2.1, t, false, [], 0⟩ := by rw [HX2.out, if_pos he]
        have hcr : cutR q.1.t (t.length : Int) = (0, t) := by
          have hE := HPS.out.ext
          have hlen := hE.len
          simp only at hlen
          unfold cutR
          rw [if_pos ⟨by omega, by omega⟩, Int.toNat_natCast]
          rw [show q.1.t.take t.length = t from hE.take]
        have KC := show Hid _ from cut_any w6 H6.out.rn.tb (t.length : Int)
        rw [hcr] at KC
        subst hX3
        clear HX2 hcr HPS
        go_wp2_with fail
        refine Calls.mono KC.out ?_
        rintro e w7 ⟨rfl, ha7⟩
        have n6 := H6.out.rn.other H6.out.c6 (by decide) (by decide) (by decide) (Or.inl (by decide))
        have H7 := show Hid (Cl w7 b6 (fndC false (.slice none 0 0) 0) 35 ∧ After w b m v t w7 ∧ w.heap.size ≤ b6) from (by
          refine ⟨?_, After.trans H6.out.lv H6.out.kp ha7, H6.out.g6⟩
          obtain ⟨_, _, _, hk7⟩ := ha7
          exact (hk7.block b6 H6.out.c6.lt (fun hf => n6 (Or.inr (Or.inr (Or.inr hf))))).trans H6.out.c6)
        clear ha7 n6 H6 KC
        go_wp2_with (first | (refine wpList_bldF0 rfl rfl ?_) | (refine wpList_st 35 rfl rfl _ _ rfl b6 rfl _ rfl _ _ H7.out.1 (by rw [sizeF]; rfl) rfl (fndC_all ..) ?_))
        intro w8 hc8 hk8
        go_wp2_with fail
        refine bodyPost_ret (results_fnd rfl _ _ b6 rfl hc8 rfl) rfl ?_
        refine ⟨_, rfl, ⟨[], sts_nil _ _⟩, ?_⟩
        obtain ⟨v7, hT7, hl7, hk7⟩ := H7.out.2.1
        have hg6 := H7.out.2.2
        refine ⟨v7, hT7.keep (fun k hf => hk8.block k (hT7.foot k hf) (fun e => ?_)), hl7, hk7.trans (S' := fun k => k = b6) hk8 (fun i hi => Or.inr (by omega))⟩
        subst e
        exact cells_nft H7.out.1 (by decide) (by decide) hT7 hf
  · have hzb : (rq != 0) = true := by simpa using hz
    have hX : X = ⟨rq, t, false, [], 0⟩ := by rw [HF.out, if_pos hz]
    subst hX
    rw [if_neg hz, if_neg hz]
    clear HF HGT hz
    go_wp2_with (first | (refine wpList_bldF0 rfl rfl ?_) | (refine wpList_st 35 rfl rfl _ _ rfl b6 rfl _ rfl _ _ H3.out.c6 (by rw [sizeF]; rfl) rfl (fndC_all ..) ?_))
    intro w4 hc4 hk4
    go_wp2_with fail
    refine bodyPost_ret (results_fnd rfl _ _ b6 rfl hc4 rfl) rfl ?_
    exact ⟨_, rfl, ⟨[], sts_nil _ _⟩, HA.out _ (bel_kp H3.out.bel hk4 H3.out.g6)⟩
end Go.Proofs.YtkejippimkjjaaaGreatDoor
