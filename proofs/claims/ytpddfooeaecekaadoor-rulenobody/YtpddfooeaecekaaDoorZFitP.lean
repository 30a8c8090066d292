/-
  What goes through the rules that fit, plain; shapes and trials in memory while it does. No condition.
-/
import Derived.Test.YtpddfooeaecekaaDoorZSides
import Derived.Test.YtpddfooeaecekaaDoorZTurn
import Derived.Test.YtpddfooeaecekaaDoorZArmI
namespace Go.Proofs.YtpddfooeaecekaaDoor
open Go.RowKit Go.Shelf Go.Maps
open Fm (Nd)
open Bt.Bs (Ok wd)
set_option linter.unusedSimpArgs false

section
variable (r : List Nat) (g : Int)
def oneF (m : Sh) (i : Nat) : List (Int × Int) := if fitS r g i m then [((i : Int) + 1, m.id)] else []
def tl3 (m : Sh) (I : List Nat) : List (Int × Int) := I.flatMap (oneF r g m)
def tl2 (I : List Nat) (ms : List Sh) : List (Int × Int) := ms.flatMap fun m => tl3 r g m I
def tl1 (ms : List Sh) (ts : List (List Int)) : List (Int × Int) := ts.flatMap fun u => tl2 r g (plcs u) ms
theorem tl3_drop (m : Sh) (I : List Nat) (p : Nat) (h : p < I.length) : tl3 r g m (I.drop p) = oneF r g m I[p] ++ tl3 r g m (I.drop (p + 1)) := by
  unfold tl3; rw [List.drop_eq_getElem_cons h, List.flatMap_cons]
theorem tl2_drop (I : List Nat) (ms : List Sh) (j : Nat) (h : j < ms.length) : tl2 r g I (ms.drop j) = tl3 r g ms[j] I ++ tl2 r g I (ms.drop (j + 1)) := by
  unfold tl2; rw [List.drop_eq_getElem_cons h, List.flatMap_cons]
theorem tl1_drop (ms : List Sh) (ts : List (List Int)) (i : Nat) (h : i < ts.length) : tl1 r g ms (ts.drop i) = tl2 r g (plcs (ts.getD i [])) ms ++ tl1 r g ms (ts.drop (i + 1)) := by
  have e : ts.getD i [] = ts[i] := by simp [List.getD, h]
  rw [e]
  unfold tl1; rw [List.drop_eq_getElem_cons h, List.flatMap_cons]
end
def ShR (w : World) (q : Nat) (ms : List Sh) : Prop := ∃ cur, w.heap[q]? = some (.cells cur 98 (0, 0)) ∧ ms.length * 7 ≤ cur.size ∧ cur.toList.take (ms.length * 7) = cellsS ms
theorem cellsS_len (l : List Sh) : (cellsS l).length = l.length * 7 := by
  induction l with
  | nil => rfl
  | cons n r ih => show ((shC n).toList ++ cellsS r).length = _; rw [List.length_append, ih, List.length_cons]; show 7 + _ = _; omega
theorem cellsS_at : ∀ (t : List Sh) (k j : Nat) (hk : k < t.length), j < 7 → (cellsS t)[k * 7 + j]? = (shC t[k]).toList[j]?
  | [], k, j, hk, _ => absurd hk (by simp)
  | n :: t, 0, j, hk, hj => by
    show ((shC n).toList ++ cellsS t)[0 * 7 + j]? = _
    rw [List.getElem?_append_left (by show 0 * 7 + j < 7; omega), Nat.zero_mul, Nat.zero_add]
    rfl
  | n :: t, k + 1, j, hk, hj => by
    have hl : (shC n).toList.length = 7 := rfl
    show ((shC n).toList ++ cellsS t)[(k + 1) * 7 + j]? = _
    rw [List.getElem?_append_right (by rw [hl]; omega), hl, show (k + 1) * 7 + j - 7 = k * 7 + j by omega]
    rw [cellsS_at t k j (by simpa using hk) hj]
    rfl
section
variable {w w' : World} {q : Nat} {ms : List Sh}
theorem ShR.same (h : ShR w q ms) (hs : Same w w') : ShR w' q ms := by
  obtain ⟨cur, h1, h2⟩ := h
  exact ⟨cur, (hs.2 q cur _ _ h1 (by decide) (by decide)).trans h1, h2⟩
theorem ShR.load (h : ShR w q ms) {j : Nat} (hj : j < ms.length) : (Instr.loadAt 98 (.pointer (some ⟨q, j * 7, none⟩))).run Tryd.prog w = .ok (.agg (shC ms[j])) w := by
  obtain ⟨cur, h1, h2, h3⟩ := h
  refine run_loadAt_mid (P := Tryd.prog) w q (j * 7) 98 (shC ms[j]).toList _ (fun i v hv => ?_) Tryd.underlying98 rfl (by rw [sizeS]; rfl)
  have hi : i < 7 := (List.getElem?_eq_some_iff.1 hv).1
  rw [cell_of_row w q _ _ _ _ h1]
  have e := cellsS_at ms j i hj hi
  rw [← h3, List.getElem?_take, if_pos (by omega)] at e
  rw [← hv, ← e]
  simp
theorem shR_of_own {base : Nat} {v : Value} (h : OwnS base w v ms) (h0 : ms ≠ []) : ∃ q cap, v = .slice (some ⟨q, 0, none⟩) ms.length cap ∧ ShR w q ms ∧ base ≤ q := by
  rcases h.2 with ⟨rfl, e0⟩ | ⟨g, cap, cur, rfl, hg, hh, h1, h2, h3, h4⟩
  · exact absurd (List.eq_nil_of_length_eq_zero e0) h0
  · exact ⟨g, cap, rfl, ⟨cur, hh, by omega, h4⟩, hg⟩
theorem Rt.same {L : List T3} (h : Rt w q L) (hs : Same w w') : Rt w' q L := by
  obtain ⟨cur, h1, h2⟩ := h
  exact ⟨cur, (hs.2 q cur _ _ h1 (by decide) (by decide)).trans h1, h2⟩
end
theorem FitOf.x {w : World} {x : T3} {p : Sh → Bool} (h : FitOf w x.fv p) : (∀ vs w, (callFunc x.gf vs).run Tryd.prog w = .ok (.enter x.gf vs) w) ∧ ∀ W m, Same w W → Calls Tryd.prog x.gf ([shV m] ++ x.cs).toArray W fun e w' => e = .returned (.bool (p m)) ∧ Below W.heap.size W w' := by
  obtain ⟨gf, cs, h1, h2, h3⟩ := h
  unfold T3.fv at h1
  injection h1 with e1 _ e2
  injection e1 with e1
  have e3 : x.cs = cs := by
    have := congrArg Array.toList e2
    simpa using this
  rw [e1, e3]
  exact ⟨h2, h3⟩
structure FM (W : World) (B bt bw bm q qm cm k b T wb : Nat) (r : List Nat) (g : Int) (L : List T3) (ts : List (List Int)) (ms : List Sh) : Prop where
  tb : Cl W bt #[.slice (some ⟨q, 0, none⟩) ts.length ts.length] 89
  tr : Trn W B q (.slice (some ⟨q, 0, none⟩) ts.length ts.length) ts
  bx : Cl W bw #[.pointer (some ⟨k, 0, none⟩)] 86
  mb : Cl W bm #[.slice (some ⟨qm, 0, none⟩) ms.length cm] 117
  ml : ShR W qm ms
  md : Made W k b T wb r g L
def KQ (B N : Nat) (W W' : World) : Prop := Same W W' ∧ ∀ k, B ≤ k → k < N → W'.heap[k]? = W.heap[k]?
theorem kq_t {B N : Nat} {A A' C : World} (h : KQ B N A A') (k : KQ B N A' C) : KQ B N A C := ⟨h.1.trans k.1, fun i h1 h2 => (k.2 i h1 h2).trans (h.2 i h1 h2)⟩
theorem kq_b {B N : Nat} {w : World} (hq : N ≤ w.heap.size) (W : World) (l : Nat) (o o' : Obj) (hl : w.heap.size ≤ l) (ho : W.heap[l]? = some o) (hc : o.isCells = false) (_ : o.isWalk = false) : KQ B N W (W.putObj l o') := by
  refine ⟨⟨by simp, fun k cs T fr hk _ _ => World.putObj_heap_other (fun e => ?_)⟩, fun k _ h2 => World.putObj_heap_other (by omega)⟩
  subst e
  rw [hk] at ho
  cases ho
  cases hc
theorem KQ.of_below {B N : Nat} {W W' : World} (hb : Below W.heap.size W W') (hq : N ≤ W.heap.size) : KQ B N W W' := ⟨Same.of_below hb, fun k _ h => hb.block k (by omega)⟩
structure FN (W : World) (B N q : Nat) (ts : List (List Int)) : Prop where
  sz : N ≤ W.heap.size
  ql : q < N
  row : ∀ i, i < ts.length → ∃ rv, W.cell? ⟨q, i, none⟩ = some rv ∧ ∃ p, rv = .slice (some ⟨p, 0, none⟩) (ts.getD i []).length (ts.getD i []).length ∧ p < N
theorem FN.keep {W W' : World} {B N q : Nat} {ts : List (List Int)} (h : FN W B N q ts) (hq : B ≤ q) (hk : KQ B N W W') : FN W' B N q ts := by
  refine ⟨Nat.le_trans h.sz hk.1.1, h.ql, fun i hi => ?_⟩
  obtain ⟨rv, h1, h2⟩ := h.row i hi
  exact ⟨rv, (World.cell?_of_block (a := ⟨q, i, none⟩) (hk.2 q hq h.ql)).trans h1, h2⟩
theorem Trn.fn {W : World} {B q : Nat} {v : Value} {ts : List (List Int)} (h : Trn W B q v ts) : FN W B W.heap.size q ts := by
  refine ⟨Nat.le_refl _, h.lt, fun i hi => ?_⟩
  obtain ⟨rv, h1, p, h2, h3, _, _⟩ := h.row i hi
  exact ⟨rv, h1, p, h2, h3.lt⟩
theorem Trn.keep {W W' : World} {B N q : Nat} {v : Value} {ts : List (List Int)} (h : Trn W B q v ts) (hn : FN W B N q ts) (hk : KQ B N W W') : Trn W' B q v ts := by
  refine ⟨h.val, Nat.lt_of_lt_of_le h.lt hk.1.1, h.ge, fun i hi => ?_⟩
  obtain ⟨rv, hc, p, hv, hcl, hl, hp⟩ := h.row i hi
  obtain ⟨rv2, hc2, p2, hv2, hp2⟩ := hn.row i hi
  have e : rv = rv2 := Option.some.inj (hc.symm.trans hc2)
  have e2 : p = p2 := by
    rw [hv, hv2] at e
    injection e with e _ _
    injection e with e
    injection e
  subst e2
  exact ⟨rv, (World.cell?_of_block (a := ⟨q, i, none⟩) (hk.2 q h.ge hn.ql)).trans hc, p, hv, (hk.2 p hp hp2).trans hcl, hl, hp⟩
section
variable {W W' : World} {B N bt bw bm q qm cm k b T wb : Nat} {r : List Nat} {g : Int} {L : List T3} {ts : List (List Int)} {ms : List Sh}
theorem FM.keep (h : FM W B bt bw bm q qm cm k b T wb r g L ts ms) (hn : FN W B N q ts) (hk : KQ B N W W') : FM W' B bt bw bm q qm cm k b T wb r g L ts ms :=
  ⟨h.tb.same (by decide) (by decide) hk.1, h.tr.keep hn hk, h.bx.same (by decide) (by decide) hk.1, h.mb.same (by decide) (by decide) hk.1, h.ml.same hk.1, h.md.same hk.1⟩
theorem FM.later (h : FM W B bt bw bm q qm cm k b T wb r g L ts ms) (hb : Below W.heap.size W W') : FM W' B bt bw bm q qm cm k b T wb r g L ts ms := h.keep h.tr.fn (KQ.of_below hb (Nat.le_refl _))
def FQ (W : World) (B N bt bw bm q qm cm k b T wb : Nat) (r : List Nat) (g : Int) (L : List T3) (ts : List (List Int)) (ms : List Sh) : Prop := FM W B bt bw bm q qm cm k b T wb r g L ts ms ∧ FN W B N q ts
theorem FQ.keep (h : FQ W B N bt bw bm q qm cm k b T wb r g L ts ms) (hk : KQ B N W W') : FQ W' B N bt bw bm q qm cm k b T wb r g L ts ms := ⟨h.1.keep h.2 hk, h.2.keep h.1.tr.ge hk⟩
theorem FQ.later (h : FQ W B N bt bw bm q qm cm k b T wb r g L ts ms) (hb : Below W.heap.size W W') : FQ W' B N bt bw bm q qm cm k b T wb r g L ts ms := h.keep (KQ.of_below hb h.2.sz)
end
theorem zeroSl (w : World) : (zeroValue 117).run Tryd.prog w = .ok (.slice none 0 0) w := by kernel_rfl
theorem plcs_le (u : List Int) : (plcs u).length ≤ 13 := by
  have := List.length_filter_le (fun i : Nat => u.contains ((i : Int) + 1)) (List.range 13)
  rwa [List.length_range] at this
theorem plcs_lt (u : List Int) (p : Nat) (h : p < (plcs u).length) : (plcs u)[p] < 13 := by
  have := List.getElem_mem h
  unfold plcs at this
  exact List.mem_range.1 (List.mem_filter.1 this).1
set_option maxRecDepth 100000 in
set_option maxHeartbeats 1000000 in
theorem fitting_any (w0 : World) {b mm : Nat} {v : Value} {t : List Nd} (hT : Tb w0 b mm v t) (hZ : Bt.Tz w0) {k T wb : Nat} {r : List Nat} {g : Int} {L : List T3} (hM : Made w0 k b T wb r g L) (hr : Ok r) (hs0 : sidesF t r g ≠ []) {B q : Nat} {tv : Value} {ts : List (List Int)} (ht : Trn w0 B q tv ts) :
    Calls Tryd.prog 33 #[.pointer (some ⟨k, 0, none⟩), tv] w0 fun e w' => ∃ bt bw bm qm cm, e = .returned (.func (.func 49) #[] #[.pointer (some ⟨bt, 0, none⟩), .pointer (some ⟨bw, 0, none⟩), .pointer (some ⟨bm, 0, none⟩)]) ∧ FM w' B bt bw bm q qm cm k b T wb r g L ts (sidesF t r g) ∧ Below w0.heap.size w0 w' := by
  have hl := hr.1
  have KS := show Hid (∀ W : World, Below w0.heap.size w0 W → Calls Tryd.prog 48 #[.pointer (some ⟨k, 0, none⟩)] W fun e w' => ∃ v', e = .returned v' ∧ OwnS W.heap.size w' v' (sidesF t r g) ∧ Below W.heap.size W w') from fun W h => sides_any W (hT.later h) (Bt.tz_block hZ h) (hM.wk.later h) hr
  have HM := show Hid (∀ W : World, Below w0.heap.size w0 W → Made W k b T wb r g L) from fun W h => hM.later h
  have HT := show Hid (∀ W : World, Below w0.heap.size w0 W → Trn W B q tv ts) from fun W h => ht.later h
  have HV := show Hid _ from ht.val
  have htc : ∃ p n c, tv = .slice p n c := ⟨_, _, _, ht.val⟩
  clear hT hZ hM ht
  go_enter Tryd.func33, Tryd.ntmps33
  go_wp2_with (refine wpList_box1 86 _ rfl _ rfl rfl rfl ?_)
  intro w1 bw hn1
  go_wp2_with (refine wpList_box1 89 _ rfl _ rfl (by obtain ⟨p, n, c, rfl⟩ := htc; rfl) rfl ?_)
  intro w2 bt hn2
  have H2 := show Hid (Below w0.heap.size w0 w2 ∧ Cl w2 bw #[.pointer (some ⟨k, 0, none⟩)] 86 ∧ Cl w2 bt #[tv] 89) from ⟨bel_new hn1.bel hn2, Cl.new hn1.blk hn2, hn2.blk⟩
  have c2 : w2.cell? ⟨bw, 0, none⟩ = some (.pointer (some ⟨k, 0, none⟩)) := H2.out.2.1.cell 0
  clear hn1 hn2
  go_wp2_with fail
  refine Calls.mono (KS.out w2 H2.out.1) ?_
  rintro e w3 ⟨v', rfl, ho, hb3⟩
  obtain ⟨qm, cm, rfl, hsr, hqm⟩ := shR_of_own ho hs0
  have H3 := show Hid (Below w0.heap.size w0 w3 ∧ Cl w3 bw #[.pointer (some ⟨k, 0, none⟩)] 86 ∧ Cl w3 bt #[tv] 89 ∧ ShR w3 qm (sidesF t r g)) from ⟨H2.out.1.trans (hb3.mono H2.out.1.size), H2.out.2.1.later hb3, H2.out.2.2.later hb3, hsr⟩
  clear ho hb3 hsr hqm KS H2 c2
  go_wp2_with (refine wpList_alloc1 117 rfl (.slice none 0 0) zeroSl rfl rfl ?_)
  intro w4 bm hn4
  have HS := show Hid (Cl (w4.setCell ⟨bm, 0, none⟩ (.slice (some ⟨qm, 0, none⟩) (sidesF t r g).length cm)) bm #[.slice (some ⟨qm, 0, none⟩) (sidesF t r g).length cm] 117) from heap_setCell_same w4 bm 0 _ _ _ hn4.blk
  have HK := show Hid (KpP bm w4 (w4.setCell ⟨bm, 0, none⟩ (.slice (some ⟨qm, 0, none⟩) (sidesF t r g).length cm))) from KpP.set (Kp.refl _ w4) 0 _
  have c4 : w4.cell? ⟨bm, 0, none⟩ = some (.slice none 0 0) := Cl.cell hn4.blk 0
  have f4 := Cl.fr hn4.blk 0
  have HN4 := show Hid _ from hn4
  clear hn4
  go_wp2_with fail
  go_ret
  generalize (w4.setCell ⟨bm, 0, none⟩ (.slice (some ⟨qm, 0, none⟩) (sidesF t r g).length cm)) = w5 at *
  have hb5 : Below w3.heap.size w3 w5 := bel_kp HN4.out.bel HK.out HN4.out.ge
  have hb50 := H3.out.1.trans (hb5.mono H3.out.1.size)
  refine ⟨bt, bw, bm, qm, cm, rfl, ⟨?_, ?_, H3.out.2.1.later hb5, HS.out, H3.out.2.2.2.same (Same.of_below hb5), HM.out w5 hb50⟩, hb50⟩
  · rw [← HV.out]
    exact H3.out.2.2.1.later hb5
  · have := HT.out w5 hb50
    rw [HV.out] at this
    exact this
end Go.Proofs.YtpddfooeaecekaaDoor
