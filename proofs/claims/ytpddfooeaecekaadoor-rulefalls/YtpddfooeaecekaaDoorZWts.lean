/-
  The document's call Weights: the weights of a sequent's formulas, falling. For every table of the document's that calls made, every sequent of rows' numbers. (Written by genzwts.py.)
-/
import Derived.Test.YtpddfooeaecekaaDoorZWtK
import Derived.Test.YtpddfooeaecekaaDoorZT1
import Derived.Test.YtpddfooeaecekaaDoorZRel
import Derived.Test.YtpddfooeaecekaaDoorZG7
import Derived.Test.YtpddfooeaecekaaDoorZFind
import Derived.Test.YtpddfooeaecekaaDoorBG5
namespace Go.Proofs.YtpddfooeaecekaaDoor
open Go.RowKit Go.Shelf Go.Maps
open Fm (Nd)
open Bt.Bs (Ok wd)
set_option linter.unusedSimpArgs false

structure VW (w1 W : World) (bw : Nat) (t : List Nd) (k : Nat) (f : Nat → Nat) : Prop where
  ex : ∃ h, WR W bw t.length h ∧ ∀ j, j < k → h j = f j
  bel : Below w1.heap.size w1 W
structure XS (w1 W : World) (bw n b7 : Nat) (nd : Nd) (h : Nat → Nat) : Prop where
  wr : WR W bw n h
  nd : Cl W b7 (ndC nd).toArray 62
  bel : Below w1.heap.size w1 W
theorem XS.drew {w1 W : World} {bw n b7 : Nat} {nd : Nd} {h : Nat → Nat} (hX : XS w1 W bw n b7 nd h) : XS w1 W.drew bw n b7 nd h := ⟨hX.wr, hX.nd, hX.bel.drew⟩
theorem infoU : (Tryd.prog.info? 23).map (fun i => (i.zero, i.size, i.bytes)) = some (some (.int .u64 0), 1, 8) := by kernel_rfl
theorem made_wr (w : World) (n : Nat) : WR (w.alloc (.cells (madeCells #[.int .u64 0] n) 23)) w.heap.size n (fun _ => 0) := by
  have e : madeCells #[.int .u64 0] n = wcs n (fun _ => 0) := by
    apply Array.ext'
    apply List.ext_getElem?
    intro j
    unfold wcs
    by_cases hj : j < n
    · simp [madeCells, hj, Nat.mod_one]
    · simp [madeCells, hj]
  rw [e]
  exact (new_alloc w _ _).blk
def uvs (l : List Nat) : List Value := l.map fun x : Nat => Value.int .u64 (x : Int)
section
variable {W W' : World} {B n q cap : Nat} {xs : List Nat}
theorem ownU_cell (h : W.ownsRow B 23 1 (.slice (some ⟨q, 0, none⟩) n cap) n (uvs xs)) {j : Nat} (hj : j < n) (hx : j < xs.length) : W.cell? ⟨q, j, none⟩ = some (.int .u64 (xs[j] : Int)) := by
  rcases h.2 with ⟨hn, _⟩ | ⟨g2, cap2, cur, hn, hg, hh, h1, h2, h3, h4⟩
  · cases hn
  · obtain ⟨e1, -, -⟩ := Value.slice.inj hn
    cases e1
    rw [cell_of_row W q j cur _ _ hh, ← Array.getElem?_toList]
    have e : (cur.toList.take (n * 1))[j]? = (uvs xs)[j]? := by rw [h4]
    rw [List.getElem?_take, if_pos (by omega)] at e
    rw [e]
    simp [uvs, hx]
theorem ownU_fr (h : W.ownsRow B 23 1 (.slice (some ⟨q, 0, none⟩) n cap) n (uvs xs)) (j : Nat) : W.frozen? ⟨q, j, none⟩ = false := by
  rcases h.2 with ⟨hn, _⟩ | ⟨g2, cap2, cur, hn, hg, hh, _⟩
  · cases hn
  · obtain ⟨e1, -, -⟩ := Value.slice.inj hn
    cases e1
    exact frozen_of_row W q j _ _ hh
theorem ownU_set (h : W.ownsRow B 23 1 (.slice (some ⟨q, 0, none⟩) n cap) n (uvs xs)) (j y : Nat) : (W.setCell ⟨q, j, none⟩ (.int .u64 (y : Int))).ownsRow B 23 1 (.slice (some ⟨q, 0, none⟩) n cap) n (uvs (xs.set j y)) := by
  rcases h with ⟨hl, ⟨hn, _⟩ | ⟨g2, cap2, cur, hn, hg, hh, h1, h2, h3, h4⟩⟩
  · cases hn
  · obtain ⟨e1, -, e3⟩ := Value.slice.inj hn
    cases e1
    subst e3
    refine ⟨by simpa [uvs] using hl, Or.inr ⟨q, cap, cur.setIfInBounds j (.int .u64 (y : Int)), rfl, hg, heap_setCell_same W q j _ _ _ hh, h1, h2, by simpa using h3, ?_⟩⟩
    rw [Array.toList_setIfInBounds, List.take_set, h4]
    simp [uvs, List.map_set]
theorem ownU_ge (h : W.ownsRow B 23 1 (.slice (some ⟨q, 0, none⟩) n cap) n (uvs xs)) : B ≤ q ∧ q < W.heap.size := by
  rcases h.2 with ⟨hn, _⟩ | ⟨g2, cap2, cur, hn, hg, hh, _⟩
  · cases hn
  · obtain ⟨e1, -, -⟩ := Value.slice.inj hn
    cases e1
    exact ⟨hg, lt_of_block hh⟩
end
theorem own_isI {base : Nat} {w : World} {v : Value} {l : List Nat} (h : Bt.OwnI base w v l) : ∃ p c, v = .slice p l.length c ∧ ∀ k (hk : k < l.length), ∃ lb lo, p = some ⟨lb, lo, none⟩ ∧ w.cell? ⟨lb, lo + k, none⟩ = some (.int .i64 (l[k] : Int)) := by
  rcases h.2 with ⟨rfl, h0⟩ | ⟨q, cap, cur, rfl, hg, hh, h1, h2, h3, h4⟩
  · obtain rfl : l = [] := List.eq_nil_of_length_eq_zero h0
    exact ⟨_, _, rfl, fun k hk => absurd hk (by simp)⟩
  · refine ⟨_, _, rfl, fun k hk => ⟨q, 0, rfl, ?_⟩⟩
    have := h.cellAt k (by omega)
    rw [Nat.zero_add, this]
    simp [Bt.intsV, hk]
structure OQ (w4 W : World) (q n cap : Nat) (R : List Nat) : Prop where
  ow : W.ownsRow w4.heap.size 23 1 (.slice (some ⟨q, 0, none⟩) n cap) n (uvs R)
  bel : Below w4.heap.size w4 W
theorem OQ.drew {w4 W : World} {q n cap : Nat} {R : List Nat} (h : OQ w4 W q n cap R) : OQ w4 W.drew q n cap R := ⟨h.ow, h.bel.drew⟩
theorem OQ.set {w4 W : World} {q n cap : Nat} {R : List Nat} (h : OQ w4 W q n cap R) (j y : Nat) : OQ w4 (W.setCell ⟨q, j, none⟩ (.int .u64 (y : Int))) q n cap (R.set j y) := ⟨ownU_set h.ow j y, h.bel.setCell (ownU_ge h.ow).1 _⟩
theorem set_mid (L : List Nat) {m : Nat} (hm : m ≤ L.length) (y z : Nat) : (L.take m ++ y :: L.drop m).set m z = L.take m ++ z :: L.drop m := by
  rw [List.set_append_right _ _ (by rw [List.length_take]; omega), show m - (L.take m).length = 0 from by rw [List.length_take]; omega]
  rfl
theorem shift_mid (L : List Nat) {m : Nat} (hm : m < L.length) (y : Nat) : (L.take (m + 1) ++ y :: L.drop (m + 1)).set (m + 1) L[m] = L.take m ++ L[m] :: L.drop m := by
  rw [set_mid L (by omega), List.take_succ_eq_append_getElem hm, List.append_assoc, List.drop_eq_getElem_cons hm]
  rfl
def IsU (w : World) (v : Value) (l : List Nat) : Prop := ∃ p c, v = .slice p l.length c ∧ ∀ k (hk : k < l.length), ∃ b, p = some ⟨b, 0, none⟩ ∧ w.cell? ⟨b, k, none⟩ = some (.int .u64 (l[k] : Int))
theorem IsU.later {w w' : World} {v : Value} {l : List Nat} (h : IsU w v l) (hb : Below w.heap.size w w') : IsU w' v l := by
  obtain ⟨p, c, hv, h2⟩ := h
  refine ⟨p, c, hv, fun k hk => ?_⟩
  obtain ⟨b, hp, hc⟩ := h2 k hk
  exact ⟨b, hp, (hb.cell (p := ⟨b, _, none⟩) (World.block_lt_of_cell? w _ hc)).trans hc⟩
theorem isU_own {B n : Nat} {W : World} {v : Value} {L : List Nat} (h : W.ownsRow B 23 1 v n (uvs L)) : IsU W v L := by
  have hl := h.1
  rw [uvs, List.length_map, Nat.mul_one] at hl
  subst hl
  rcases h.2 with ⟨rfl, h0⟩ | ⟨q, cap, cur, e, _⟩
  · exact ⟨_, _, by rw [h0], fun k hk => by omega⟩
  · subst e
    exact ⟨_, _, rfl, fun k hk => ⟨q, rfl, ownU_cell h hk hk⟩⟩
structure Fl (L M : List Nat) : Prop where
  pw : L.Pairwise (fun x y => y ≤ x)
  ct : ∀ v, L.count v = M.count v
theorem Fl.len {L M : List Nat} (h : Fl L M) : L.length = M.length := (List.perm_iff_count.2 fun v => h.ct v).length_eq
theorem Fl.ins {L M : List Nat} (h : Fl L M) {x m : Nat} (h1 : ∀ v ∈ L.drop m, v < x) (h2 : ∀ v ∈ L.take m, x ≤ v) : Fl (L.take m ++ x :: L.drop m) (M ++ [x]) := by
  refine ⟨?_, fun v => ?_⟩
  · rw [List.pairwise_append, List.pairwise_cons]
    refine ⟨h.pw.sublist (List.take_sublist m L), ⟨fun v hv => by have := h1 v hv; omega, h.pw.sublist (List.drop_sublist m L)⟩, fun a ha b hb => ?_⟩
    rcases List.mem_cons.1 hb with rfl | hb
    · exact h2 a ha
    · have := h1 b hb
      have := h2 a ha
      omega
  · rw [List.count_append, List.count_cons, List.count_append, ← h.ct v, List.count_cons, List.count_nil]
    have e := congrArg (List.count v) (List.take_append_drop m L)
    rw [List.count_append] at e
    omega
theorem fl_take {L : List Nat} (h : L.Pairwise (fun x y => y ≤ x)) {m : Nat} (hm : m < L.length) {x : Nat} (hx : x ≤ L[m]) : ∀ v ∈ L.take (m + 1), x ≤ v := by
  intro v hv
  obtain ⟨j, hj, e⟩ := List.mem_iff_getElem.1 hv
  rw [List.length_take] at hj
  rw [List.getElem_take] at e
  by_cases e2 : j = m
  · subst e2; omega
  · have := List.pairwise_iff_getElem.1 h j m (by omega) hm (by omega)
    omega
theorem wr_all {W : World} {b n : Nat} {h f : Nat → Nat} (hW : WR W b n h) (he : ∀ j, j < n → h j = f j) : WR W b n f := by
  have e : wcs n h = wcs n f := by
    unfold wcs
    congr 1
    refine List.map_congr_left fun j hj => ?_
    rw [he j (List.mem_range.1 hj)]
  unfold WR at *
  rwa [← e]
theorem wrapI64 {a : Nat} (h : a < 1000000) : IntKind.i64.wrap (a : Int) = (a : Int) := by
  simp [IntKind.wrap, IntKind.bits, IntKind.signed]
  split <;> omega
theorem wrapU64 {a : Nat} (h : a < 18446744073709551616) : IntKind.u64.wrap (a : Int) = (a : Int) := by
  have e : IntKind.u64.wrap (a : Int) = (a : Int) % 18446744073709551616 := by simp [IntKind.wrap, IntKind.bits, IntKind.signed]
  rw [e]
  omega
set_option maxRecDepth 100000 in
set_option maxHeartbeats 4000000 in
theorem rwts_any (w0 : World) {c : Nat} {u : Value} {t : List Nd} (hT : Tr w0 c u t) {r : List Nat} (hr : Ok r) {g : Int} (hq : rgt t.length (r, g)) {f : Nat → Nat} (hW : Wtp t f) :
    Calls Tryd.prog 11 #[.pointer (some ⟨c, 0, none⟩), .agg (cellsQ r g)] w0 fun e w' => ∃ sv, e = .returned sv ∧ ∃ L, IsU w' sv L ∧ Fl L (idsW f (r, g)) ∧ Below w0.heap.size w0 w' := by
  have hl := hr.1
  have hO := hT.ok
  have hlen := hO.len
  have HT := show Hid (∀ W : World, Below w0.heap.size w0 W → Tr W c u t) from fun W hb => hT.later hb
  obtain ⟨p, cp, hu, hc1, hc2, hat⟩ := hT.row.isR.at
  subst hu
  have HR := show Hid (∀ W : World, Below w0.heap.size w0 W → W.cell? ⟨c, 0, none⟩ = some (.slice p t.length cp) ∧ ∀ k (hk : k < t.length), ∃ rg ro, p = some ⟨rg, ro, none⟩ ∧ At4 W rg (ro + k * 4) t[k]) from fun W hb => ⟨(HT.out W hb).c0, fun k hk => by
    obtain ⟨rg, ro, hp, h4⟩ := hat (by omega)
    exact ⟨rg, ro, hp, h4 W hb k hk⟩⟩
  have hmk : ∀ w : World, (Instr.makeSlice 42 (.int .i64 (t.length : Int)) (.int .i64 (t.length : Int))).run Tryd.prog w = .ok (.slice (some ⟨w.heap.size, 0, none⟩) t.length t.length) (w.alloc (.cells (madeCells #[.int .u64 0] t.length) 23)) := fun w => by
    have h := run_make_row' (P := Tryd.prog) 42 23 (.int .u64 0) 8 Tryd.underlying42 infoU rfl .i64 .i64 t.length (by omega) (by omega) w
    exact h
  have HO := show Hid (Fm.Ok t) from hO
  have HWT := show Hid (Wtp t f) from hW
  obtain ⟨gn, hgn⟩ : ∃ gn : Nat, g = gn := ⟨g.toNat, by have h9 : 0 ≤ g := hq.2.1; omega⟩
  subst hgn
  have hnl : (Bt.Bs.nums r).length ≤ 1024 := Bt.Bs.nums_len_le r
  have KL := show Hid (∀ W : World, Calls Tryd.prog 26 #[.agg (Bt.cellsB r)] W fun e w' => ∃ v, e = .returned v ∧ Bt.OwnI W.heap.size w' v (Bt.Bs.nums r) ∧ Below W.heap.size W w') from fun W => Bt.rlist_any W hr
  have HID := show Hid (∀ x ∈ Bt.Bs.nums r ++ [gn], x < t.length) from fun x hx => by
    rcases List.mem_append.1 hx with h | h
    · have := Bt.Bs.mem_nums.1 h
      exact hq.1 x this.1 this.2
    · obtain rfl := List.mem_singleton.1 h
      have h9 : (x : Int) < (t.length : Int) := hq.2.2
      omega
  have HIW := show Hid (idsW f (r, (gn : Int)) = (Bt.Bs.nums r ++ [gn]).map f) from (by unfold idsW; simp : idsW f (r, (gn : Int)) = (Bt.Bs.nums r ++ [gn]).map f)
  obtain ⟨i0, hi0, hz0, hz1, hz2⟩ := info_parts Bt.infoI
  obtain ⟨j0, hj0, jz0, jz1, jz2⟩ := info_parts infoU
  clear hT hat hO hW
  generalize idsW f (r, (gn : Int)) = IW at *
  go_enter Tryd.func11, Tryd.ntmps11
  go_wp2_with (refine wpList_box 27 _ rfl _ rfl rfl ?_)
  intro w1 b3 hn1
  have H1 := show Hid (RS1 w0 w1 b3 r (gn : Int)) from ⟨hn1.blk, hn1.bel, hn1.ge⟩
  clear hn1
  have c0 := (HR.out w1 H1.out.bel).1
  have hmk1 := hmk w1
  go_wp2_with fail
  clear hmk hmk1 c0
  have H2 := show Hid (VW w1 (w1.alloc (.cells (madeCells #[.int .u64 0] t.length) 23)) w1.heap.size t 0 f) from ⟨⟨_, made_wr w1 _, fun j h => by omega⟩, below_alloc w1 _⟩
  obtain ⟨bw, hbw⟩ : ∃ bw, bw = w1.heap.size := ⟨_, rfl⟩
  have HBW := show Hid (w1.heap.size ≤ bw) from (by omega : w1.heap.size ≤ bw)
  rw [← hbw] at H2 ⊢
  clear hbw
  generalize w1.alloc (.cells (madeCells #[.int .u64 0] t.length) 23) = w2 at *
  go_loopw [6, 7, 8] (fun iv _ _ wr => ∃ i : Nat, i ≤ t.length ∧ iv = .int .i64 (i : Int) ∧ Hid (VW w1 wr bw t i f)) (fun iv _ _ _ => t.length - (intOf iv).toNat)
  case atStart => exact ⟨0, by omega, rfl, H2⟩
  case round =>
    obtain ⟨ix, hi, rfl, HI⟩ := hrel
    clear H2
    have HB0 := show Hid (Below w0.heap.size w0 wr) from H1.out.bel.trans (HI.out.bel.mono H1.out.bel.size)
    have c0 := (HR.out wr HB0.out).1
    by_cases hlt : ix < t.length
    · have hkl : (ix : Int) < (t.length : Int) := by omega
      obtain ⟨rg, ro, rfl, hA⟩ := (HR.out wr HB0.out).2 ix hlt
      have HA := show Hid (At4 wr rg (ro + ix * 4) t[ix]) from hA
      have hkd := Fm.ok_kind HO.out hlt
      have HND := show Hid (nodeOf t (ix : Int) = t[ix]) from nodeOf_nat hlt
      have HKD := show Hid (t[ix].k = 3 ∨ t[ix].k = 4 ∨ t[ix].k = 5 → ∃ x y : Nat, t[ix].l = x ∧ t[ix].r = y ∧ x < ix ∧ y < ix) from kids HO.out hlt
      have HFI := show Hid (f ix = wtOf t[ix] f) from (by rw [← HND.out]; exact HWT.out ix hlt : f ix = wtOf t[ix] f)
      clear hA
      obtain ⟨nd, hnd⟩ : ∃ nd, nd = t[ix] := ⟨_, rfl⟩
      rw [← hnd] at HA hkd HND HKD HFI
      clear hnd
      go_wp2_with (first | (refine wpList_ld4 _ rfl _ rfl rg (ro + ix * 4) rfl HA.out ?_) | (refine wpList_alloc 62 rfl _ zeroN rfl ?_))
      intro w3 b7 hn3
      go_wp2_with (refine wpList_st 62 rfl rfl _ _ rfl b7 rfl (ndC nd).toArray rfl _ _ hn3.blk (by rw [sizeN]; rfl) rfl (ndC_all nd) ?_)
      intro w4 hc4 hk4
      obtain ⟨h0, hh0, hlo⟩ := HI.out.ex
      have HNE := show Hid (b7 ≠ bw) from (by have e1 := Cl.lt hh0; have e2 := hn3.ge; omega : b7 ≠ bw)
      have hb7 : w1.heap.size ≤ b7 := Nat.le_trans HI.out.bel.size hn3.ge
      have H4 := show Hid (XS w1 w4 bw t.length b7 nd h0) from ⟨Cl.kp (Cl.new hh0 hn3) hk4 (fun e => HNE.out e.symm), hc4, bel_kp (bel_new HI.out.bel hn3) hk4 hb7⟩
      have HLO := show Hid (∀ j, j < ix → h0 j = f j) from hlo
      clear hh0 hlo hn3 hc4 hk4 HI HA c0 hb7
      go_wp2_with (refine wpList_stU rfl rfl _ _ rfl bw ix rfl 1 rfl H4.out.wr hlt ?_)
      intro w5 hw5 hk5
      have H5a := show Hid (XS w1 w5 bw t.length b7 nd (updN h0 ix 1)) from ⟨hw5, Cl.kp H4.out.nd hk5 HNE.out, bel_kp H4.out.bel hk5 HBW.out⟩
      have HL2 := show Hid (∀ j, j < ix → updN h0 ix 1 j = f j) from fun j hj => (updN_ne (by omega)).trans (HLO.out j hj)
      have HI1 := show Hid (updN h0 ix 1 ix = 1) from updN_at h0 ix 1
      clear hw5 hk5 H4 HLO
      generalize updN h0 ix 1 = h at *
      have d0 : w5.cell? ⟨b7, 0, none⟩ = some (.int .i64 nd.k) := H5a.out.nd.cell 0
      rcases hkd with e1 | e1 | e1
      · rw [e1] at d0
        have HN := show Hid (VW w1 w5 bw t (ix + 1) f) from ⟨⟨h, H5a.out.wr, fun j hj => by
          by_cases e : j = ix
          · subst e; rw [HI1.out, HFI.out]; unfold wtOf; rw [if_pos (Or.inl e1)]
          · exact HL2.out j (by omega)⟩, H5a.out.bel⟩
        clear H5a HL2 HI1 HFI HKD HND e1
        go_wp2_with fail
        go_roundw
        case rel => exact ⟨ix + 1, by omega, by go_num, HN⟩
        case measure => first | (simp [intOf]; done) | (simp [intOf]; omega)
      · rw [e1] at d0
        have HN := show Hid (VW w1 w5 bw t (ix + 1) f) from ⟨⟨h, H5a.out.wr, fun j hj => by
          by_cases e : j = ix
          · subst e; rw [HI1.out, HFI.out]; unfold wtOf; rw [if_pos (Or.inr e1)]
          · exact HL2.out j (by omega)⟩, H5a.out.bel⟩
        clear H5a HL2 HI1 HFI HKD HND e1
        go_wp2_with fail
        go_roundw
        case rel => exact ⟨ix + 1, by omega, by go_num, HN⟩
        case measure => first | (simp [intOf]; done) | (simp [intOf]; omega)
      · simp only [Fm.jn, Bool.or_eq_true, beq_iff_eq] at e1
        obtain ⟨x, y, ex, ey, lx, ly⟩ := HKD.out (by omega)
        have HD2 := show Hid (∀ W : World, Cl W b7 (ndC nd).toArray 62 → W.cell? ⟨b7, 2, none⟩ = some (.int .i64 (x : Int))) from fun W h => by rw [← ex]; exact h.cell 2
        have HD3 := show Hid (∀ W : World, Cl W b7 (ndC nd).toArray 62 → W.cell? ⟨b7, 3, none⟩ = some (.int .i64 (y : Int))) from fun W h => by rw [← ey]; exact h.cell 3
        have hx2 := HL2.out x lx
        have hy2 := HL2.out y ly
        have hbx := HWT.out.le (j := x) (by omega)
        have hby := HWT.out.le (j := y) (by omega)
        have HFX := show Hid (∀ more : Nat, more = (if nd.k = 3 then 2 else 1) → f ix = min 4611686018427387904 (f x + f y + more)) from fun more hm => by
          rw [HFI.out]
          unfold wtOf
          rw [if_neg (by omega), ex, ey, Int.toNat_natCast, Int.toNat_natCast, hm]
        have HST0 := show Hid (∀ (W : World) (z : Nat), z = f ix → XS w1 W bw t.length b7 nd (updN h ix z) → VW w1 W bw t (ix + 1) f) from fun W z hz hX => ⟨⟨_, hX.wr, fun j hj => by
          by_cases e : j = ix
          · subst e; rw [updN_at, hz]
          · rw [updN_ne e]; exact HL2.out j (by omega)⟩, hX.bel⟩
        have HX1 := show Hid (∀ (b : Bool) (z : Nat), (if b = true then updN h ix z else h) x = f x) from fun b z => by
          cases b
          · exact hx2
          · exact (updN_ne (by omega)).trans hx2
        have HX2 := show Hid (∀ (b : Bool) (z : Nat), (if b = true then updN h ix z else h) y = f y) from fun b z => by
          cases b
          · exact hy2
          · exact (updN_ne (by omega)).trans hy2
        have H5 := show Hid (XS w1 w5 bw t.length b7 nd h) from H5a.out
        have hxI : (x : Int) < (t.length : Int) := by omega
        have hyI : (y : Int) < (t.length : Int) := by omega
        clear H5a HL2 HI1 HFI HKD HND ex ey hx2 hy2
        by_cases h3 : nd.k = 3
        · rw [h3] at d0
          have HST := show Hid (∀ W : World, XS w1 W bw t.length b7 nd (updN h ix (min 4611686018427387904 (f x + f y + 2))) → VW w1 W bw t (ix + 1) f) from fun W hX => HST0.out W _ (HFX.out 2 (by rw [if_pos h3])).symm hX
          clear HST0 HFX h3 e1
          obtain ⟨fx, hfx⟩ : ∃ z, z = f x := ⟨_, rfl⟩
          obtain ⟨fy, hfy⟩ : ∃ z, z = f y := ⟨_, rfl⟩
          rw [← hfx] at HST HX1 hbx
          rw [← hfy] at HST HX2 hby
          clear hfx hfy
          have HSU := show Hid (IntKind.u64.wrap ((fx : Int) + (fy : Int)) = ((fx + fy : Nat) : Int) ∧ IntKind.u64.wrap (((fx + fy : Nat) : Int) + ((2 : Nat) : Int)) = ((fx + fy + 2 : Nat) : Int)) from ⟨by rw [← Int.natCast_add]; exact wrapU64 (by omega), by rw [← Int.natCast_add]; exact wrapU64 (by omega)⟩
          go_wp2_with fail
          refine wp_region_rel (by kernel_rfl) [some 49, some 50, some 51, some 52, some 53, some 54, some 55, some 56, some 57, some 58, some 59, some 60, some 61, some 62, some 63, some 64, some 65, none] [[], [], [], [], [3], [2, 4], [5], [], [], [8], [7, 9], [10], [6, 11], [], [12, 13], [14], [0, 1], [16, 15]] (by kernel_rfl) (fun i v w => match i with | 0 => v = .slice (some ⟨bw, 0, none⟩) t.length t.length | 1 => v = .int .i64 (ix : Int) | 2 => v = .slice (some ⟨bw, 0, none⟩) t.length t.length | 3 => v = .pointer (some ⟨b7, 2, none⟩) | 4 => v = .int .i64 (x : Int) | 5 => v = .pointer (some ⟨bw, x, none⟩) | 6 => v = .int .u64 (fx : Int) | 7 => v = .slice (some ⟨bw, 0, none⟩) t.length t.length | 8 => v = .pointer (some ⟨b7, 3, none⟩) | 9 => v = .int .i64 (y : Int) | 10 => v = .pointer (some ⟨bw, y, none⟩) | 11 => v = .int .u64 (fy : Int) | 12 => v = .int .u64 ((fx + fy : Nat) : Int) | 13 => v = .int .u64 ((2 : Nat) : Int) | 14 => v = .int .u64 ((fx + fy + 2 : Nat) : Int) | 15 => v = .int .u64 ((min 4611686018427387904 (fx + fy + 2) : Nat) : Int) | 16 => v = .pointer (some ⟨bw, ix, none⟩) | 17 => True | _ => True) (fun done W => XS w1 W bw t.length b7 nd (if done 17 then updN h ix (min 4611686018427387904 (fx + fy + 2) : Nat) else h)) (fun _ _ => True) ?hle (by simpa using H5.out.drew) (allLt 18 ?steps) ?fin
          case hle =>
            intro i v w w1 hl h
            match i, h with
            | 0, h => exact h
            | 1, h => exact h
            | 2, h => exact h
            | 3, h => exact h
            | 4, h => exact h
            | 5, h => exact h
            | 6, h => exact h
            | 7, h => exact h
            | 8, h => exact h
            | 9, h => exact h
            | 10, h => exact h
            | 11, h => exact h
            | 12, h => exact h
            | 13, h => exact h
            | 14, h => exact h
            | 15, h => exact h
            | 16, h => exact h
            | 17, h => exact h
            | _ + 18, h => trivial
          case steps =>
            refine ⟨⟨⟨⟨⟨⟨⟨⟨⟨⟨⟨⟨⟨⟨⟨⟨⟨⟨trivial, ?s0⟩, ?s1⟩, ?s2⟩, ?s3⟩, ?s4⟩, ?s5⟩, ?s6⟩, ?s7⟩, ?s8⟩, ?s9⟩, ?s10⟩, ?s11⟩, ?s12⟩, ?s13⟩, ?s14⟩, ?s15⟩, ?s16⟩, ?s17⟩
            case s0 =>
              intro done a w hS h0 hd hn hO hN
              have o5 : a.tmps[5]? = some (.slice (some ⟨bw, 0, none⟩) t.length t.length) := (hO.out 5 (by decide)).trans rfl
              refine relVal rfl (.slice (some ⟨bw, 0, none⟩) t.length t.length) w rfl (by go_simp) ⟨_, rfl, rfl, by simpa [h0] using hS, trivial⟩
            case s1 =>
              intro done a w hS h0 hd hn hO hN
              have o6 : a.tmps[6]? = some (.int .i64 (ix : Int)) := (hO.out 6 (by decide)).trans rfl
              refine relVal rfl (.int .i64 (ix : Int)) w rfl (by go_simp) ⟨_, rfl, rfl, by simpa [h0] using hS, trivial⟩
            case s2 =>
              intro done a w hS h0 hd hn hO hN
              have o5 : a.tmps[5]? = some (.slice (some ⟨bw, 0, none⟩) t.length t.length) := (hO.out 5 (by decide)).trans rfl
              refine relVal rfl (.slice (some ⟨bw, 0, none⟩) t.length t.length) w rfl (by go_simp) ⟨_, rfl, rfl, by simpa [h0] using hS, trivial⟩
            case s3 =>
              intro done a w hS h0 hd hn hO hN
              have o7 : a.tmps[7]? = some (.pointer (some ⟨b7, 0, none⟩)) := (hO.out 7 (by decide)).trans rfl
              refine relVal rfl (.pointer (some ⟨b7, 2, none⟩)) w rfl (by go_simp) ⟨_, rfl, rfl, by simpa [h0] using hS, trivial⟩
            case s4 =>
              intro done a w hS h0 hd hn hO hN
              obtain ⟨v3, g3, r3⟩ := hN 3 (by decide)
              have g3 : a.tmps[52]? = some v3 := g3
              obtain rfl : v3 = .pointer (some ⟨b7, 2, none⟩) := r3
              have hc : w.cell? ⟨b7, 2, none⟩ = some (.int .i64 (x : Int)) := HD2.out w hS.nd
              refine relVal rfl (.int .i64 (x : Int)) w rfl (by go_simp) ⟨_, rfl, rfl, by simpa [h0] using hS, trivial⟩
            case s5 =>
              intro done a w hS h0 hd hn hO hN
              obtain ⟨v2, g2, r2⟩ := hN 2 (by decide)
              have g2 : a.tmps[51]? = some v2 := g2
              obtain rfl : v2 = .slice (some ⟨bw, 0, none⟩) t.length t.length := r2
              obtain ⟨v4, g4, r4⟩ := hN 4 (by decide)
              have g4 : a.tmps[53]? = some v4 := g4
              obtain rfl : v4 = .int .i64 (x : Int) := r4
              refine relVal rfl (.pointer (some ⟨bw, x, none⟩)) w rfl (by go_simp) ⟨_, rfl, rfl, by simpa [h0] using hS, trivial⟩
            case s6 =>
              intro done a w hS h0 hd hn hO hN
              obtain ⟨v5, g5, r5⟩ := hN 5 (by decide)
              have g5 : a.tmps[54]? = some v5 := g5
              obtain rfl : v5 = .pointer (some ⟨bw, x, none⟩) := r5
              have hc : w.cell? ⟨bw, x, none⟩ = some (.int .u64 (fx : Int)) := by have h9 := hS.wr.cell (j := x) (by omega); rw [HX1.out (done 17)] at h9; exact h9
              refine relVal rfl (.int .u64 (fx : Int)) w rfl (by go_simp) ⟨_, rfl, rfl, by simpa [h0] using hS, trivial⟩
            case s7 =>
              intro done a w hS h0 hd hn hO hN
              have o5 : a.tmps[5]? = some (.slice (some ⟨bw, 0, none⟩) t.length t.length) := (hO.out 5 (by decide)).trans rfl
              refine relVal rfl (.slice (some ⟨bw, 0, none⟩) t.length t.length) w rfl (by go_simp) ⟨_, rfl, rfl, by simpa [h0] using hS, trivial⟩
            case s8 =>
              intro done a w hS h0 hd hn hO hN
              have o7 : a.tmps[7]? = some (.pointer (some ⟨b7, 0, none⟩)) := (hO.out 7 (by decide)).trans rfl
              refine relVal rfl (.pointer (some ⟨b7, 3, none⟩)) w rfl (by go_simp) ⟨_, rfl, rfl, by simpa [h0] using hS, trivial⟩
            case s9 =>
              intro done a w hS h0 hd hn hO hN
              obtain ⟨v8, g8, r8⟩ := hN 8 (by decide)
              have g8 : a.tmps[57]? = some v8 := g8
              obtain rfl : v8 = .pointer (some ⟨b7, 3, none⟩) := r8
              have hc : w.cell? ⟨b7, 3, none⟩ = some (.int .i64 (y : Int)) := HD3.out w hS.nd
              refine relVal rfl (.int .i64 (y : Int)) w rfl (by go_simp) ⟨_, rfl, rfl, by simpa [h0] using hS, trivial⟩
            case s10 =>
              intro done a w hS h0 hd hn hO hN
              obtain ⟨v7, g7, r7⟩ := hN 7 (by decide)
              have g7 : a.tmps[56]? = some v7 := g7
              obtain rfl : v7 = .slice (some ⟨bw, 0, none⟩) t.length t.length := r7
              obtain ⟨v9, g9, r9⟩ := hN 9 (by decide)
              have g9 : a.tmps[58]? = some v9 := g9
              obtain rfl : v9 = .int .i64 (y : Int) := r9
              refine relVal rfl (.pointer (some ⟨bw, y, none⟩)) w rfl (by go_simp) ⟨_, rfl, rfl, by simpa [h0] using hS, trivial⟩
            case s11 =>
              intro done a w hS h0 hd hn hO hN
              obtain ⟨v10, g10, r10⟩ := hN 10 (by decide)
              have g10 : a.tmps[59]? = some v10 := g10
              obtain rfl : v10 = .pointer (some ⟨bw, y, none⟩) := r10
              have hc : w.cell? ⟨bw, y, none⟩ = some (.int .u64 (fy : Int)) := by have h9 := hS.wr.cell (j := y) (by omega); rw [HX2.out (done 17)] at h9; exact h9
              refine relVal rfl (.int .u64 (fy : Int)) w rfl (by go_simp) ⟨_, rfl, rfl, by simpa [h0] using hS, trivial⟩
            case s12 =>
              intro done a w hS h0 hd hn hO hN
              obtain ⟨v6, g6, r6⟩ := hN 6 (by decide)
              have g6 : a.tmps[55]? = some v6 := g6
              obtain rfl : v6 = .int .u64 (fx : Int) := r6
              obtain ⟨v11, g11, r11⟩ := hN 11 (by decide)
              have g11 : a.tmps[60]? = some v11 := g11
              obtain rfl : v11 = .int .u64 (fy : Int) := r11
              have hs1 := HSU.out.1
              refine relVal rfl (.int .u64 ((fx + fy : Nat) : Int)) w rfl (by go_simp) ⟨_, rfl, rfl, by simpa [h0] using hS, trivial⟩
            case s13 =>
              intro done a w hS h0 hd hn hO hN
              have o8 : a.tmps[8]? = some (.int .u64 ((2 : Nat) : Int)) := (hO.out 8 (by decide)).trans rfl
              refine relVal rfl (.int .u64 ((2 : Nat) : Int)) w rfl (by go_simp) ⟨_, rfl, rfl, by simpa [h0] using hS, trivial⟩
            case s14 =>
              intro done a w hS h0 hd hn hO hN
              obtain ⟨v12, g12, r12⟩ := hN 12 (by decide)
              have g12 : a.tmps[61]? = some v12 := g12
              obtain rfl : v12 = .int .u64 ((fx + fy : Nat) : Int) := r12
              obtain ⟨v13, g13, r13⟩ := hN 13 (by decide)
              have g13 : a.tmps[62]? = some v13 := g13
              obtain rfl : v13 = .int .u64 ((2 : Nat) : Int) := r13
              have hs2 : IntKind.u64.wrap ((fx : Int) + (fy : Int) + 2) = (fx : Int) + (fy : Int) + 2 := by have h9 := HSU.out.2; simpa using h9
              refine relVal rfl (.int .u64 ((fx + fy + 2 : Nat) : Int)) w rfl (by go_simp) ⟨_, rfl, rfl, by simpa [h0] using hS, trivial⟩
            case s15 =>
              intro done a w hS h0 hd hn hO hN
              obtain ⟨v14, g14, r14⟩ := hN 14 (by decide)
              have g14 : a.tmps[63]? = some v14 := g14
              obtain rfl : v14 = .int .u64 ((fx + fy + 2 : Nat) : Int) := r14
              refine relVal rfl (.int .u64 ((min 4611686018427387904 (fx + fy + 2) : Nat) : Int)) w rfl (by go_simp; omega) ⟨_, rfl, rfl, by simpa [h0] using hS, trivial⟩
            case s16 =>
              intro done a w hS h0 hd hn hO hN
              obtain ⟨v0, g0, r0⟩ := hN 0 (by decide)
              have g0 : a.tmps[49]? = some v0 := g0
              obtain rfl : v0 = .slice (some ⟨bw, 0, none⟩) t.length t.length := r0
              obtain ⟨v1, g1, r1⟩ := hN 1 (by decide)
              have g1 : a.tmps[50]? = some v1 := g1
              obtain rfl : v1 = .int .i64 (ix : Int) := r1
              refine relVal rfl (.pointer (some ⟨bw, ix, none⟩)) w rfl (by go_simp) ⟨_, rfl, rfl, by simpa [h0] using hS, trivial⟩
            case s17 =>
              intro done a w hS h0 hd hn hO hN
              obtain ⟨v16, g16, r16⟩ := hN 16 (by decide)
              have g16 : a.tmps[65]? = some v16 := g16
              obtain rfl : v16 = .pointer (some ⟨bw, ix, none⟩) := r16
              obtain ⟨v15, g15, r15⟩ := hN 15 (by decide)
              have g15 : a.tmps[64]? = some v15 := g15
              obtain rfl : v15 = .int .u64 ((min 4611686018427387904 (fx + fy + 2) : Nat) : Int) := r15
              have hW : WR w bw t.length h := by have h9 := hS.wr; simpa [h0] using h9
              refine relStore rfl rfl 23 (.tmp 65) (.tmp 64) rfl (px := .pointer (some ⟨bw, ix, none⟩)) (vy := .int .u64 ((min 4611686018427387904 (fx + fy + 2) : Nat) : Int)) (by simp [Act.eval, g16]) (by simp [Act.eval, g15]) (run_stU hW (by omega) _) ⟨_, rfl, trivial, ?_, trivial⟩
              have hk := setCell_kp w bw ix (.int .u64 ((min 4611686018427387904 (fx + fy + 2) : Nat) : Int))
              refine ⟨?_, Cl.kp hS.nd hk HNE.out, bel_kp hS.bel hk HBW.out⟩
              simp only [beq_self_eq_true, Bool.true_or, if_true]
              exact hW.set ix _
          case fin =>
            intro vs done w hdone hS hR
            have hS2 := hS
            have h17 : done 17 = true := hdone 17 (by decide)
            rw [h17, if_pos rfl] at hS2
            have HS := show Hid (XS w1 w bw t.length b7 nd (updN h ix (min 4611686018427387904 (fx + fy + 2) : Nat))) from hS2
            simp only [putAll, Act.put, List.setIfInBounds_toArray, List.set_cons_zero, List.set_cons_succ]
            clear hS hR hdone hS2 h17
            generalize vs 0 = x0, vs 1 = x1, vs 2 = x2, vs 3 = x3, vs 4 = x4, vs 5 = x5, vs 6 = x6, vs 7 = x7, vs 8 = x8, vs 9 = x9, vs 10 = x10, vs 11 = x11, vs 12 = x12, vs 13 = x13, vs 14 = x14, vs 15 = x15, vs 16 = x16
            have HN := show Hid (VW w1 w bw t (ix + 1) f) from HST.out w HS.out
            go_wp2_with fail
            go_roundw
            case rel => exact ⟨ix + 1, by omega, by go_num, HN⟩
            case measure => first | (simp [intOf]; done) | (simp [intOf]; omega)
        · have h3b : (nd.k == 3) = false := by simpa using h3
          have h1b : (nd.k != 1) = true := by simp; omega
          have h2b : (nd.k != 2) = true := by simp; omega
          have HST := show Hid (∀ W : World, XS w1 W bw t.length b7 nd (updN h ix (min 4611686018427387904 (f x + f y + 1))) → VW w1 W bw t (ix + 1) f) from fun W hX => HST0.out W _ (HFX.out 1 (by rw [if_neg h3])).symm hX
          clear HST0 HFX h3 e1
          obtain ⟨fx, hfx⟩ : ∃ z, z = f x := ⟨_, rfl⟩
          obtain ⟨fy, hfy⟩ : ∃ z, z = f y := ⟨_, rfl⟩
          rw [← hfx] at HST HX1 hbx
          rw [← hfy] at HST HX2 hby
          clear hfx hfy
          have HSU := show Hid (IntKind.u64.wrap ((fx : Int) + (fy : Int)) = ((fx + fy : Nat) : Int) ∧ IntKind.u64.wrap (((fx + fy : Nat) : Int) + ((1 : Nat) : Int)) = ((fx + fy + 1 : Nat) : Int)) from ⟨by rw [← Int.natCast_add]; exact wrapU64 (by omega), by rw [← Int.natCast_add]; exact wrapU64 (by omega)⟩
          go_wp2_with fail
          refine wp_region_rel (by kernel_rfl) [some 49, some 50, some 51, some 52, some 53, some 54, some 55, some 56, some 57, some 58, some 59, some 60, some 61, some 62, some 63, some 64, some 65, none] [[], [], [], [], [3], [2, 4], [5], [], [], [8], [7, 9], [10], [6, 11], [], [12, 13], [14], [0, 1], [16, 15]] (by kernel_rfl) (fun i v w => match i with | 0 => v = .slice (some ⟨bw, 0, none⟩) t.length t.length | 1 => v = .int .i64 (ix : Int) | 2 => v = .slice (some ⟨bw, 0, none⟩) t.length t.length | 3 => v = .pointer (some ⟨b7, 2, none⟩) | 4 => v = .int .i64 (x : Int) | 5 => v = .pointer (some ⟨bw, x, none⟩) | 6 => v = .int .u64 (fx : Int) | 7 => v = .slice (some ⟨bw, 0, none⟩) t.length t.length | 8 => v = .pointer (some ⟨b7, 3, none⟩) | 9 => v = .int .i64 (y : Int) | 10 => v = .pointer (some ⟨bw, y, none⟩) | 11 => v = .int .u64 (fy : Int) | 12 => v = .int .u64 ((fx + fy : Nat) : Int) | 13 => v = .int .u64 ((1 : Nat) : Int) | 14 => v = .int .u64 ((fx + fy + 1 : Nat) : Int) | 15 => v = .int .u64 ((min 4611686018427387904 (fx + fy + 1) : Nat) : Int) | 16 => v = .pointer (some ⟨bw, ix, none⟩) | 17 => True | _ => True) (fun done W => XS w1 W bw t.length b7 nd (if done 17 then updN h ix (min 4611686018427387904 (fx + fy + 1) : Nat) else h)) (fun _ _ => True) ?hle (by simpa using H5.out.drew) (allLt 18 ?steps) ?fin
          case hle =>
            intro i v w w1 hl h
            match i, h with
            | 0, h => exact h
            | 1, h => exact h
            | 2, h => exact h
            | 3, h => exact h
            | 4, h => exact h
            | 5, h => exact h
            | 6, h => exact h
            | 7, h => exact h
            | 8, h => exact h
            | 9, h => exact h
            | 10, h => exact h
            | 11, h => exact h
            | 12, h => exact h
            | 13, h => exact h
            | 14, h => exact h
            | 15, h => exact h
            | 16, h => exact h
            | 17, h => exact h
            | _ + 18, h => trivial
          case steps =>
            refine ⟨⟨⟨⟨⟨⟨⟨⟨⟨⟨⟨⟨⟨⟨⟨⟨⟨⟨trivial, ?s0⟩, ?s1⟩, ?s2⟩, ?s3⟩, ?s4⟩, ?s5⟩, ?s6⟩, ?s7⟩, ?s8⟩, ?s9⟩, ?s10⟩, ?s11⟩, ?s12⟩, ?s13⟩, ?s14⟩, ?s15⟩, ?s16⟩, ?s17⟩
            case s0 =>
              intro done a w hS h0 hd hn hO hN
              have o5 : a.tmps[5]? = some (.slice (some ⟨bw, 0, none⟩) t.length t.length) := (hO.out 5 (by decide)).trans rfl
              refine relVal rfl (.slice (some ⟨bw, 0, none⟩) t.length t.length) w rfl (by go_simp) ⟨_, rfl, rfl, by simpa [h0] using hS, trivial⟩
            case s1 =>
              intro done a w hS h0 hd hn hO hN
              have o6 : a.tmps[6]? = some (.int .i64 (ix : Int)) := (hO.out 6 (by decide)).trans rfl
              refine relVal rfl (.int .i64 (ix : Int)) w rfl (by go_simp) ⟨_, rfl, rfl, by simpa [h0] using hS, trivial⟩
            case s2 =>
              intro done a w hS h0 hd hn hO hN
              have o5 : a.tmps[5]? = some (.slice (some ⟨bw, 0, none⟩) t.length t.length) := (hO.out 5 (by decide)).trans rfl
              refine relVal rfl (.slice (some ⟨bw, 0, none⟩) t.length t.length) w rfl (by go_simp) ⟨_, rfl, rfl, by simpa [h0] using hS, trivial⟩
            case s3 =>
              intro done a w hS h0 hd hn hO hN
              have o7 : a.tmps[7]? = some (.pointer (some ⟨b7, 0, none⟩)) := (hO.out 7 (by decide)).trans rfl
              refine relVal rfl (.pointer (some ⟨b7, 2, none⟩)) w rfl (by go_simp) ⟨_, rfl, rfl, by simpa [h0] using hS, trivial⟩
            case s4 =>
              intro done a w hS h0 hd hn hO hN
              obtain ⟨v3, g3, r3⟩ := hN 3 (by decide)
              have g3 : a.tmps[52]? = some v3 := g3
              obtain rfl : v3 = .pointer (some ⟨b7, 2, none⟩) := r3
              have hc : w.cell? ⟨b7, 2, none⟩ = some (.int .i64 (x : Int)) := HD2.out w hS.nd
              refine relVal rfl (.int .i64 (x : Int)) w rfl (by go_simp) ⟨_, rfl, rfl, by simpa [h0] using hS, trivial⟩
            case s5 =>
              intro done a w hS h0 hd hn hO hN
              obtain ⟨v2, g2, r2⟩ := hN 2 (by decide)
              have g2 : a.tmps[51]? = some v2 := g2
              obtain rfl : v2 = .slice (some ⟨bw, 0, none⟩) t.length t.length := r2
              obtain ⟨v4, g4, r4⟩ := hN 4 (by decide)
              have g4 : a.tmps[53]? = some v4 := g4
              obtain rfl : v4 = .int .i64 (x : Int) := r4
              refine relVal rfl (.pointer (some ⟨bw, x, none⟩)) w rfl (by go_simp) ⟨_, rfl, rfl, by simpa [h0] using hS, trivial⟩
            case s6 =>
              intro done a w hS h0 hd hn hO hN
              obtain ⟨v5, g5, r5⟩ := hN 5 (by decide)
              have g5 : a.tmps[54]? = some v5 := g5
              obtain rfl : v5 = .pointer (some ⟨bw, x, none⟩) := r5
              have hc : w.cell? ⟨bw, x, none⟩ = some (.int .u64 (fx : Int)) := by have h9 := hS.wr.cell (j := x) (by omega); rw [HX1.out (done 17)] at h9; exact h9
              refine relVal rfl (.int .u64 (fx : Int)) w rfl (by go_simp) ⟨_, rfl, rfl, by simpa [h0] using hS, trivial⟩
            case s7 =>
              intro done a w hS h0 hd hn hO hN
              have o5 : a.tmps[5]? = some (.slice (some ⟨bw, 0, none⟩) t.length t.length) := (hO.out 5 (by decide)).trans rfl
              refine relVal rfl (.slice (some ⟨bw, 0, none⟩) t.length t.length) w rfl (by go_simp) ⟨_, rfl, rfl, by simpa [h0] using hS, trivial⟩
            case s8 =>
              intro done a w hS h0 hd hn hO hN
              have o7 : a.tmps[7]? = some (.pointer (some ⟨b7, 0, none⟩)) := (hO.out 7 (by decide)).trans rfl
              refine relVal rfl (.pointer (some ⟨b7, 3, none⟩)) w rfl (by go_simp) ⟨_, rfl, rfl, by simpa [h0] using hS, trivial⟩
            case s9 =>
              intro done a w hS h0 hd hn hO hN
              obtain ⟨v8, g8, r8⟩ := hN 8 (by decide)
              have g8 : a.tmps[57]? = some v8 := g8
              obtain rfl : v8 = .pointer (some ⟨b7, 3, none⟩) := r8
              have hc : w.cell? ⟨b7, 3, none⟩ = some (.int .i64 (y : Int)) := HD3.out w hS.nd
              refine relVal rfl (.int .i64 (y : Int)) w rfl (by go_simp) ⟨_, rfl, rfl, by simpa [h0] using hS, trivial⟩
            case s10 =>
              intro done a w hS h0 hd hn hO hN
              obtain ⟨v7, g7, r7⟩ := hN 7 (by decide)
              have g7 : a.tmps[56]? = some v7 := g7
              obtain rfl : v7 = .slice (some ⟨bw, 0, none⟩) t.length t.length := r7
              obtain ⟨v9, g9, r9⟩ := hN 9 (by decide)
              have g9 : a.tmps[58]? = some v9 := g9
              obtain rfl : v9 = .int .i64 (y : Int) := r9
              refine relVal rfl (.pointer (some ⟨bw, y, none⟩)) w rfl (by go_simp) ⟨_, rfl, rfl, by simpa [h0] using hS, trivial⟩
            case s11 =>
              intro done a w hS h0 hd hn hO hN
              obtain ⟨v10, g10, r10⟩ := hN 10 (by decide)
              have g10 : a.tmps[59]? = some v10 := g10
              obtain rfl : v10 = .pointer (some ⟨bw, y, none⟩) := r10
              have hc : w.cell? ⟨bw, y, none⟩ = some (.int .u64 (fy : Int)) := by have h9 := hS.wr.cell (j := y) (by omega); rw [HX2.out (done 17)] at h9; exact h9
              refine relVal rfl (.int .u64 (fy : Int)) w rfl (by go_simp) ⟨_, rfl, rfl, by simpa [h0] using hS, trivial⟩
            case s12 =>
              intro done a w hS h0 hd hn hO hN
              obtain ⟨v6, g6, r6⟩ := hN 6 (by decide)
              have g6 : a.tmps[55]? = some v6 := g6
              obtain rfl : v6 = .int .u64 (fx : Int) := r6
              obtain ⟨v11, g11, r11⟩ := hN 11 (by decide)
              have g11 : a.tmps[60]? = some v11 := g11
              obtain rfl : v11 = .int .u64 (fy : Int) := r11
              have hs1 := HSU.out.1
              refine relVal rfl (.int .u64 ((fx + fy : Nat) : Int)) w rfl (by go_simp) ⟨_, rfl, rfl, by simpa [h0] using hS, trivial⟩
            case s13 =>
              intro done a w hS h0 hd hn hO hN
              have o8 : a.tmps[8]? = some (.int .u64 ((1 : Nat) : Int)) := (hO.out 8 (by decide)).trans rfl
              refine relVal rfl (.int .u64 ((1 : Nat) : Int)) w rfl (by go_simp) ⟨_, rfl, rfl, by simpa [h0] using hS, trivial⟩
            case s14 =>
              intro done a w hS h0 hd hn hO hN
              obtain ⟨v12, g12, r12⟩ := hN 12 (by decide)
              have g12 : a.tmps[61]? = some v12 := g12
              obtain rfl : v12 = .int .u64 ((fx + fy : Nat) : Int) := r12
              obtain ⟨v13, g13, r13⟩ := hN 13 (by decide)
              have g13 : a.tmps[62]? = some v13 := g13
              obtain rfl : v13 = .int .u64 ((1 : Nat) : Int) := r13
              have hs2 : IntKind.u64.wrap ((fx : Int) + (fy : Int) + 1) = (fx : Int) + (fy : Int) + 1 := by have h9 := HSU.out.2; simpa using h9
              refine relVal rfl (.int .u64 ((fx + fy + 1 : Nat) : Int)) w rfl (by go_simp) ⟨_, rfl, rfl, by simpa [h0] using hS, trivial⟩
            case s15 =>
              intro done a w hS h0 hd hn hO hN
              obtain ⟨v14, g14, r14⟩ := hN 14 (by decide)
              have g14 : a.tmps[63]? = some v14 := g14
              obtain rfl : v14 = .int .u64 ((fx + fy + 1 : Nat) : Int) := r14
              refine relVal rfl (.int .u64 ((min 4611686018427387904 (fx + fy + 1) : Nat) : Int)) w rfl (by go_simp; omega) ⟨_, rfl, rfl, by simpa [h0] using hS, trivial⟩
            case s16 =>
              intro done a w hS h0 hd hn hO hN
              obtain ⟨v0, g0, r0⟩ := hN 0 (by decide)
              have g0 : a.tmps[49]? = some v0 := g0
              obtain rfl : v0 = .slice (some ⟨bw, 0, none⟩) t.length t.length := r0
              obtain ⟨v1, g1, r1⟩ := hN 1 (by decide)
              have g1 : a.tmps[50]? = some v1 := g1
              obtain rfl : v1 = .int .i64 (ix : Int) := r1
              refine relVal rfl (.pointer (some ⟨bw, ix, none⟩)) w rfl (by go_simp) ⟨_, rfl, rfl, by simpa [h0] using hS, trivial⟩
            case s17 =>
              intro done a w hS h0 hd hn hO hN
              obtain ⟨v16, g16, r16⟩ := hN 16 (by decide)
              have g16 : a.tmps[65]? = some v16 := g16
              obtain rfl : v16 = .pointer (some ⟨bw, ix, none⟩) := r16
              obtain ⟨v15, g15, r15⟩ := hN 15 (by decide)
              have g15 : a.tmps[64]? = some v15 := g15
              obtain rfl : v15 = .int .u64 ((min 4611686018427387904 (fx + fy + 1) : Nat) : Int) := r15
              have hW : WR w bw t.length h := by have h9 := hS.wr; simpa [h0] using h9
              refine relStore rfl rfl 23 (.tmp 65) (.tmp 64) rfl (px := .pointer (some ⟨bw, ix, none⟩)) (vy := .int .u64 ((min 4611686018427387904 (fx + fy + 1) : Nat) : Int)) (by simp [Act.eval, g16]) (by simp [Act.eval, g15]) (run_stU hW (by omega) _) ⟨_, rfl, trivial, ?_, trivial⟩
              have hk := setCell_kp w bw ix (.int .u64 ((min 4611686018427387904 (fx + fy + 1) : Nat) : Int))
              refine ⟨?_, Cl.kp hS.nd hk HNE.out, bel_kp hS.bel hk HBW.out⟩
              simp only [beq_self_eq_true, Bool.true_or, if_true]
              exact hW.set ix _
          case fin =>
            intro vs done w hdone hS hR
            have hS2 := hS
            have h17 : done 17 = true := hdone 17 (by decide)
            rw [h17, if_pos rfl] at hS2
            have HS := show Hid (XS w1 w bw t.length b7 nd (updN h ix (min 4611686018427387904 (fx + fy + 1) : Nat))) from hS2
            simp only [putAll, Act.put, List.setIfInBounds_toArray, List.set_cons_zero, List.set_cons_succ]
            clear hS hR hdone hS2 h17
            generalize vs 0 = x0, vs 1 = x1, vs 2 = x2, vs 3 = x3, vs 4 = x4, vs 5 = x5, vs 6 = x6, vs 7 = x7, vs 8 = x8, vs 9 = x9, vs 10 = x10, vs 11 = x11, vs 12 = x12, vs 13 = x13, vs 14 = x14, vs 15 = x15, vs 16 = x16
            have HN := show Hid (VW w1 w bw t (ix + 1) f) from HST.out w HS.out
            go_wp2_with fail
            go_roundw
            case rel => exact ⟨ix + 1, by omega, by go_num, HN⟩
            case measure => first | (simp [intOf]; done) | (simp [intOf]; omega)
    · have hge : ¬ (ix : Int) < (t.length : Int) := by omega
      obtain ⟨h, hwr, hlo⟩ := HI.out.ex
      have HWR := show Hid (WR wr bw t.length f) from wr_all hwr (fun j hj => hlo j (by omega))
      have HS := show Hid (SeqAt wr b3 r (gn : Int)) from H1.out.s.later HI.out.bel H1.out.s.lt
      clear hwr hlo HI HO HWT HR HT
      go_wp2_with (refine wpList_ldQ _ _ rfl _ rfl HS.out hl rfl ?_)
      refine (KL.out wr).mono ?_
      rintro e w3 ⟨v9, rfl, ho3, hb3⟩
      have HO3 := show Hid (Bt.OwnI wr.heap.size w3 v9 (Bt.Bs.nums r) ∧ Below wr.heap.size wr w3) from ⟨ho3, hb3⟩
      have HS3 := show Hid (SeqAt w3 b3 r (gn : Int)) from HS.out.later hb3 HS.out.lt
      have c16 := HS3.out.goal hl
      obtain ⟨p9, c9, hv9⟩ := ho3.slice
      subst hv9
      clear ho3 hb3 KL HS
      generalize Bt.Bs.nums r = nl at *
      go_wp2_with (at_builtin; refine wpList_append_own _ rfl (.tmp 69) (.tmp 72) 28 rfl wr.heap.size 3 i0 (.int .i64 0) 1 8 Tryd.underlying28 hi0 hz0 hz1 hz2 rfl (by decide) _ nl.length (Bt.intsV nl) rfl (HO3.out.1.later (below_alloc w3 _)) ⟨w3.heap.size, 0, none⟩ 1 1 [.int .i64 (gn : Int)] rfl rfl (cell_one_new _ _ _) (by simp [Value.oneCell']) (by unfold maxLen; omega) (by omega) (by have h9 := HO3.out.2.size; simp only [World.size_alloc]; omega) ?_)
      intro v4 w4 ho4 hg4 _
      have hb4 : Below wr.heap.size wr w4 := (HO3.out.2.alloc HO3.out.2.size _).grown hg4 (HO3.out.2.alloc HO3.out.2.size _).size (fun q hq => (HO3.out.1.lt q hq).1)
      have hoi : Bt.OwnI wr.heap.size w4 v4 (nl ++ [gn]) := by
        unfold Bt.OwnI
        rw [List.length_append, List.length_singleton, show Bt.intsV (nl ++ [gn]) = Bt.intsV nl ++ [.int .i64 (gn : Int)] by simp [Bt.intsV]]
        exact ho4
      obtain ⟨p4, c4, hv4⟩ := hoi.slice
      subst hv4
      have HIL := show Hid (∀ W : World, Below w4.heap.size w4 W → ∀ k (hk : k < (nl ++ [gn]).length), ∃ lb lo, p4 = some ⟨lb, lo, none⟩ ∧ W.cell? ⟨lb, lo + k, none⟩ = some (.int .i64 ((nl ++ [gn])[k] : Int))) from fun W hb k hk => by
        obtain ⟨p', c', hv', hcl⟩ := own_isI hoi
        obtain ⟨rfl, -, -⟩ := Value.slice.inj hv'
        obtain ⟨lb, lo, hp, hc⟩ := hcl k hk
        exact ⟨lb, lo, hp, (hb.cell (p := ⟨lb, _, none⟩) (World.block_lt_of_cell? w4 _ hc)).trans hc⟩
      have HW4 := show Hid (∀ W : World, Below w4.heap.size w4 W → WR W bw t.length f) from fun W hb => Cl.later (Cl.later HWR.out hb4) hb
      have HB4 := show Hid (Below w0.heap.size w0 w4) from HB0.out.trans (hb4.mono HB0.out.size)
      have hidl : (nl ++ [gn]).length ≤ 1025 := by rw [List.length_append, List.length_singleton]; omega
      clear ho4 hg4 hb4 hoi HO3 HS3 HWR HB0 H1 HBW c16 c0 hge hnl
      generalize nl ++ [gn] = ids at *
      go_wp2_with fail
      go_loopw [10, 11, 12] (fun ov iv _ wr => ∃ (k : Nat) (L : List Nat), k ≤ ids.length ∧ iv = .int .i64 (k : Int) ∧ Hid (wr.ownsRow w4.heap.size 23 1 ov k (uvs L) ∧ Below w4.heap.size w4 wr ∧ Fl L ((ids.take k).map f))) (fun _ iv _ _ => ids.length - (intOf iv).toNat)
      case atStart => exact ⟨0, [], by omega, rfl, World.ownsRow_nil _ _ _ _, Below.refl _ _, ⟨List.Pairwise.nil, fun v => by simp⟩⟩
      case round =>
        obtain ⟨k, L, hk, rfl, HI⟩ := hrel
        by_cases hklt : k < ids.length
        · have hkI : (k : Int) < (ids.length : Int) := by omega
          obtain ⟨lb, lo, hp4, hcl⟩ := HIL.out wr HI.out.2.1 k hklt
          have hdt := HID.out _ (List.getElem_mem hklt)
          have HLC := show Hid (∀ W : World, Below w4.heap.size w4 W → W.cell? ⟨lb, lo + k, none⟩ = some (.int .i64 (ids[k] : Int))) from fun W hb => by
            obtain ⟨lb', lo', hp', hc'⟩ := HIL.out W hb k hklt
            rw [hp4] at hp'
            cases hp'
            exact hc'
          subst hp4
          have HWC := show Hid (∀ W : World, Below w4.heap.size w4 W → W.cell? ⟨bw, ids[k], none⟩ = some (.int .u64 (f ids[k] : Int))) from fun W hb => (HW4.out W hb).cell hdt
          have HTK := show Hid ((ids.take (k + 1)).map f = (ids.take k).map f ++ [f ids[k]]) from (by rw [List.take_succ_eq_append_getElem hklt, List.map_append]; rfl : (ids.take (k + 1)).map f = (ids.take k).map f ++ [f ids[k]])
          have hL : L.length = k := by
            have h9 := HI.out.2.2.len
            rw [List.length_map, List.length_take] at h9
            omega
          have HLK := show Hid (L.length = k) from hL
          have HFL := show Hid (Fl L ((ids.take k).map f)) from HI.out.2.2
          have HOW := show Hid (wr.ownsRow w4.heap.size 23 1 u10 k (uvs L)) from HI.out.1
          have HBR := show Hid (Below w4.heap.size w4 wr) from HI.out.2.1
          obtain ⟨pl, cl, hle⟩ : ∃ p c, u10 = .slice p k c := by
            rcases HOW.out.2 with ⟨e1, e2⟩ | ⟨g2, cap2, cur, e1, _⟩
            · exact ⟨_, _, by rw [e1, e2]⟩
            · exact ⟨_, _, e1⟩
          clear HI HIL hcl hL
          subst hle
          have cl0 := HLC.out wr HBR.out
          have cw0 := HWC.out wr HBR.out
          have hdI : ((ids[k] : Nat) : Int) < (t.length : Int) := by omega
          obtain ⟨d, hd⟩ : ∃ d, d = ids[k] := ⟨_, rfl⟩
          rw [← hd] at HLC HWC HTK cl0 cw0 hdI hdt
          obtain ⟨x, hx⟩ : ∃ x, x = f d := ⟨_, rfl⟩
          rw [← hx] at HWC HTK cw0
          clear hd hx
          go_wp2_with (at_builtin; refine wpList_append_own _ rfl (.tmp 82) (.tmp 90) 42 rfl w4.heap.size 23 j0 (.int .u64 0) 1 8 Tryd.underlying42 hj0 jz0 jz1 jz2 rfl (by decide) (.slice pl k cl) k (uvs L) rfl (own_later HOW.out (below_alloc wr _)) ⟨wr.heap.size, 0, none⟩ 1 1 [.int .u64 (x : Int)] rfl rfl (cell_one_new _ _ _) (by simp [Value.oneCell']) (by unfold maxLen; omega) (by omega) (by have h9 := HBR.out.size; simp only [World.size_alloc]; omega) ?_)
          intro v5 w5 ho5 hg5 _
          obtain ⟨q, cap, hv5⟩ : ∃ q cap, v5 = .slice (some ⟨q, 0, none⟩) (k + 1) cap := by
            rcases ho5.2 with ⟨_, hn⟩ | ⟨g2, cap2, cur, e1, _⟩
            · omega
            · exact ⟨_, _, e1⟩
          subst hv5
          have HI0 := show Hid (OQ w4 w5 q (k + 1) cap (L.take k ++ x :: L.drop k) ∧ ∀ v ∈ L.drop k, v < x) from by
            have hLk := HLK.out
            refine ⟨⟨?_, (HBR.out.alloc HBR.out.size _).grown hg5 (HBR.out.alloc HBR.out.size _).size (fun j e => ?_)⟩, fun v hv => ?_⟩
            · rw [show L.take k ++ x :: L.drop k = L ++ [x] from by rw [← hLk, List.take_length, List.drop_length], uvs, List.map_append]
              exact ho5
            · rcases HOW.out.2 with ⟨e1, _⟩ | ⟨g2, cap2, cur, e1, e2, _⟩
              · rw [e1] at e; cases e
              · rw [e1] at e; cases e; exact e2
            · rw [← hLk, List.drop_length] at hv; cases hv
          clear ho5 hg5 HOW HBR cl0 cw0
          go_wp2_with fail
          go_loopw [12] (fun av wr => ∃ (m : Nat) (y : Nat), m ≤ k ∧ av = .int .i64 (m : Int) ∧ Hid (OQ w4 wr q (k + 1) cap (L.take m ++ y :: L.drop m) ∧ ∀ v ∈ L.drop m, v < x)) (fun av _ => (intOf av).toNat)
          case atStart => exact ⟨k, x, Nat.le_refl _, rfl, HI0.out⟩
          case round =>
            obtain ⟨m, y, hm, rfl, HI2⟩ := hrel
            clear HI0
            have hmi : (m : Int) < ((k + 1 : Nat) : Int) := by omega
            have hmi2 : (m : Int) < (k : Int) + 1 := by omega
            have HRL := show Hid ((L.take m ++ y :: L.drop m).length = k + 1) from (by have := HLK.out; simp; omega : (L.take m ++ y :: L.drop m).length = k + 1)
            have HEND := show Hid (∀ W : World, OQ w4 W q (k + 1) cap (L.take m ++ y :: L.drop m) → (∀ v ∈ L.take m, x ≤ v) → (W.setCell ⟨q, m, none⟩ (.int .u64 (x : Int))).ownsRow w4.heap.size 23 1 (.slice (some ⟨q, 0, none⟩) (k + 1) cap) (k + 1) (uvs (L.take m ++ x :: L.drop m)) ∧ Below w4.heap.size w4 (W.setCell ⟨q, m, none⟩ (.int .u64 (x : Int))) ∧ Fl (L.take m ++ x :: L.drop m) ((ids.take (k + 1)).map f)) from fun W h hta => by
              have h9 := h.set m x
              rw [set_mid L (by have := HLK.out; omega)] at h9
              refine ⟨h9.ow, h9.bel, ?_⟩
              rw [HTK.out]
              exact HFL.out.ins HI2.out.2 hta
            by_cases hm0 : m = 0
            · subst hm0
              have HTA := show Hid (∀ v ∈ L.take 0, x ≤ v) from fun v hv => by simp at hv
              simp only [Int.natCast_zero] at hmi hmi2 ⊢
              go_wp2_with fail
              refine wp_region_rel (by kernel_rfl) [some 92, some 93, some 94, some 95, some 96, some 97, some 98, some 99, some 100, some 101, some 102, some 103, some 104, some 105, some 106, some 107, some 108] [[], [0], [1], [2], [2], [2], [2], [2], [2], [2], [2], [2], [2], [2], [2], [2], [2, 15]] (by kernel_rfl) (fun i v w => match i with | 0 => v = .int .i64 0 | 1 => v = .bool false | 2 => v = .bool false | 3 => v = undef | 4 => v = undef | 5 => v = undef | 6 => v = undef | 7 => v = undef | 8 => v = undef | 9 => v = undef | 10 => v = undef | 11 => v = undef | 12 => v = undef | 13 => v = undef | 14 => v = undef | 15 => v = undef | 16 => v = .bool false | _ => True) (fun _ W => OQ w4 W q (k + 1) cap (L.take 0 ++ y :: L.drop 0)) (fun _ _ => True) ?hle (HI2.out.1.drew) (allLt 17 ?steps) ?fin
              case hle =>
                intro i v w w1 hl h
                match i, h with
                | 0, h => exact h
                | 1, h => exact h
                | 2, h => exact h
                | 3, h => exact h
                | 4, h => exact h
                | 5, h => exact h
                | 6, h => exact h
                | 7, h => exact h
                | 8, h => exact h
                | 9, h => exact h
                | 10, h => exact h
                | 11, h => exact h
                | 12, h => exact h
                | 13, h => exact h
                | 14, h => exact h
                | 15, h => exact h
                | 16, h => exact h
                | _ + 17, h => trivial
              case steps =>
                refine ⟨⟨⟨⟨⟨⟨⟨⟨⟨⟨⟨⟨⟨⟨⟨⟨⟨trivial, ?s0⟩, ?s1⟩, ?s2⟩, ?s3⟩, ?s4⟩, ?s5⟩, ?s6⟩, ?s7⟩, ?s8⟩, ?s9⟩, ?s10⟩, ?s11⟩, ?s12⟩, ?s13⟩, ?s14⟩, ?s15⟩, ?s16⟩
                case s0 =>
                  intro done a w hS h0 hd hn hO hN
                  have o12 : a.tmps[12]? = some (.int .i64 0) := (hO.out 12 (by decide)).trans rfl
                  refine relVal rfl (.int .i64 0) w rfl (by go_simp) ⟨_, rfl, rfl, hS, trivial⟩
                case s1 =>
                  intro done a w hS h0 hd hn hO hN
                  obtain ⟨v0, g0, r0⟩ := hN 0 (by decide)
                  have g0 : a.tmps[92]? = some v0 := g0
                  obtain rfl : v0 = .int .i64 0 := r0
                  refine relVal rfl (.bool false) w rfl (by go_simp) ⟨_, rfl, rfl, hS, trivial⟩
                case s2 =>
                  intro done a w hS h0 hd hn hO hN
                  obtain ⟨v1, g1, r1⟩ := hN 1 (by decide)
                  have g1 : a.tmps[93]? = some v1 := g1
                  obtain rfl : v1 = .bool false := r1
                  refine relVal rfl (.bool false) w rfl (by go_simp) ⟨_, rfl, rfl, hS, trivial⟩
                case s3 =>
                  intro done a w hS h0 hd hn hO hN
                  obtain ⟨v2, g2, r2⟩ := hN 2 (by decide)
                  have g2 : a.tmps[94]? = some v2 := g2
                  obtain rfl : v2 = .bool false := r2
                  refine relNo rfl ((wanted_is rfl rfl g2).trans rfl) ⟨_, rfl, rfl, hS, trivial⟩
                case s4 =>
                  intro done a w hS h0 hd hn hO hN
                  obtain ⟨v2, g2, r2⟩ := hN 2 (by decide)
                  have g2 : a.tmps[94]? = some v2 := g2
                  obtain rfl : v2 = .bool false := r2
                  refine relNo rfl ((wanted_is rfl rfl g2).trans rfl) ⟨_, rfl, rfl, hS, trivial⟩
                case s5 =>
                  intro done a w hS h0 hd hn hO hN
                  obtain ⟨v2, g2, r2⟩ := hN 2 (by decide)
                  have g2 : a.tmps[94]? = some v2 := g2
                  obtain rfl : v2 = .bool false := r2
                  refine relNo rfl ((wanted_is rfl rfl g2).trans rfl) ⟨_, rfl, rfl, hS, trivial⟩
                case s6 =>
                  intro done a w hS h0 hd hn hO hN
                  obtain ⟨v2, g2, r2⟩ := hN 2 (by decide)
                  have g2 : a.tmps[94]? = some v2 := g2
                  obtain rfl : v2 = .bool false := r2
                  refine relNo rfl ((wanted_is rfl rfl g2).trans rfl) ⟨_, rfl, rfl, hS, trivial⟩
                case s7 =>
                  intro done a w hS h0 hd hn hO hN
                  obtain ⟨v2, g2, r2⟩ := hN 2 (by decide)
                  have g2 : a.tmps[94]? = some v2 := g2
                  obtain rfl : v2 = .bool false := r2
                  refine relNo rfl ((wanted_is rfl rfl g2).trans rfl) ⟨_, rfl, rfl, hS, trivial⟩
                case s8 =>
                  intro done a w hS h0 hd hn hO hN
                  obtain ⟨v2, g2, r2⟩ := hN 2 (by decide)
                  have g2 : a.tmps[94]? = some v2 := g2
                  obtain rfl : v2 = .bool false := r2
                  refine relNo rfl ((wanted_is rfl rfl g2).trans rfl) ⟨_, rfl, rfl, hS, trivial⟩
                case s9 =>
                  intro done a w hS h0 hd hn hO hN
                  obtain ⟨v2, g2, r2⟩ := hN 2 (by decide)
                  have g2 : a.tmps[94]? = some v2 := g2
                  obtain rfl : v2 = .bool false := r2
                  refine relNo rfl ((wanted_is rfl rfl g2).trans rfl) ⟨_, rfl, rfl, hS, trivial⟩
                case s10 =>
                  intro done a w hS h0 hd hn hO hN
                  obtain ⟨v2, g2, r2⟩ := hN 2 (by decide)
                  have g2 : a.tmps[94]? = some v2 := g2
                  obtain rfl : v2 = .bool false := r2
                  refine relNo rfl ((wanted_is rfl rfl g2).trans rfl) ⟨_, rfl, rfl, hS, trivial⟩
                case s11 =>
                  intro done a w hS h0 hd hn hO hN
                  obtain ⟨v2, g2, r2⟩ := hN 2 (by decide)
                  have g2 : a.tmps[94]? = some v2 := g2
                  obtain rfl : v2 = .bool false := r2
                  refine relNo rfl ((wanted_is rfl rfl g2).trans rfl) ⟨_, rfl, rfl, hS, trivial⟩
                case s12 =>
                  intro done a w hS h0 hd hn hO hN
                  obtain ⟨v2, g2, r2⟩ := hN 2 (by decide)
                  have g2 : a.tmps[94]? = some v2 := g2
                  obtain rfl : v2 = .bool false := r2
                  refine relNo rfl ((wanted_is rfl rfl g2).trans rfl) ⟨_, rfl, rfl, hS, trivial⟩
                case s13 =>
                  intro done a w hS h0 hd hn hO hN
                  obtain ⟨v2, g2, r2⟩ := hN 2 (by decide)
                  have g2 : a.tmps[94]? = some v2 := g2
                  obtain rfl : v2 = .bool false := r2
                  refine relNo rfl ((wanted_is rfl rfl g2).trans rfl) ⟨_, rfl, rfl, hS, trivial⟩
                case s14 =>
                  intro done a w hS h0 hd hn hO hN
                  obtain ⟨v2, g2, r2⟩ := hN 2 (by decide)
                  have g2 : a.tmps[94]? = some v2 := g2
                  obtain rfl : v2 = .bool false := r2
                  refine relNo rfl ((wanted_is rfl rfl g2).trans rfl) ⟨_, rfl, rfl, hS, trivial⟩
                case s15 =>
                  intro done a w hS h0 hd hn hO hN
                  obtain ⟨v2, g2, r2⟩ := hN 2 (by decide)
                  have g2 : a.tmps[94]? = some v2 := g2
                  obtain rfl : v2 = .bool false := r2
                  refine relNo rfl ((wanted_is rfl rfl g2).trans rfl) ⟨_, rfl, rfl, hS, trivial⟩
                case s16 =>
                  intro done a w hS h0 hd hn hO hN
                  obtain ⟨v2, g2, r2⟩ := hN 2 (by decide)
                  have g2 : a.tmps[94]? = some v2 := g2
                  obtain rfl : v2 = .bool false := r2
                  obtain ⟨v15, g15, r15⟩ := hN 15 (by decide)
                  have g15 : a.tmps[107]? = some v15 := g15
                  obtain rfl : v15 = undef := r15
                  refine relVal rfl (.bool false) w rfl (by go_simp) ⟨_, rfl, rfl, hS, trivial⟩
              case fin =>
                intro vs done w hdone hS hR
                have e16 : vs 16 = .bool false := hR 16 (by decide)
                have HS := show Hid (OQ w4 w q (k + 1) cap (L.take 0 ++ y :: L.drop 0)) from hS
                simp only [putAll, Act.put, List.setIfInBounds_toArray, List.set_cons_zero, List.set_cons_succ, e16]
                clear hS hR hdone e16
                generalize vs 0 = x0, vs 1 = x1, vs 2 = x2, vs 3 = x3, vs 4 = x4, vs 5 = x5, vs 6 = x6, vs 7 = x7, vs 8 = x8, vs 9 = x9, vs 10 = x10, vs 11 = x11, vs 12 = x12, vs 13 = x13, vs 14 = x14, vs 15 = x15
                obtain ⟨z0, b0⟩ : ∃ z, w.cell? ⟨q, 0, none⟩ = some (.int .u64 z) := ⟨_, ownU_cell HS.out.ow (j := 0) (by omega) (by rw [HRL.out]; omega)⟩
                have bf := ownU_fr HS.out.ow
                have HN := show Hid _ from HEND.out w HS.out HTA.out
                have cl9 := HLC.out w HS.out.bel
                have cw9 := HWC.out w HS.out.bel
                clear HS HI2 HEND HTA HRL HLC HWC
                go_wp2_with fail
                go_roundw
                case rel => exact ⟨k + 1, _, by omega, by go_num, HN⟩
                case measure => first | (simp [intOf]; done) | (simp [intOf]; omega)
            · obtain ⟨m2, rfl⟩ : ∃ m2, m = m2 + 1 := ⟨m - 1, by omega⟩
              have hm2 : m2 < L.length := by have := HLK.out; omega
              have hzp : (0 : Int) < ((m2 + 1 : Nat) : Int) := by omega
              have hm2i : (m2 : Int) < ((k + 1 : Nat) : Int) := by omega
              have hsub : ((m2 + 1 : Nat) : Int) - 1 = (m2 : Int) := by omega
              have hm2j : (m2 : Int) < (k : Int) + 1 := by omega
              have HZC := show Hid (∀ W : World, OQ w4 W q (k + 1) cap (L.take (m2 + 1) ++ y :: L.drop (m2 + 1)) → W.cell? ⟨q, m2, none⟩ = some (.int .u64 (L[m2] : Int))) from fun W hO => by
                have h := ownU_cell hO.ow (j := m2) (by omega) (by rw [HRL.out]; omega)
                rw [List.getElem_append_left (by rw [List.length_take]; omega), List.getElem_take] at h
                exact h
              have HSH := show Hid (∀ W : World, OQ w4 W q (k + 1) cap (L.take (m2 + 1) ++ y :: L.drop (m2 + 1)) → L[m2] < x → OQ w4 (W.setCell ⟨q, m2 + 1, none⟩ (.int .u64 (L[m2] : Int))) q (k + 1) cap (L.take m2 ++ L[m2] :: L.drop m2) ∧ ∀ v ∈ L.drop m2, v < x) from fun W h hlx => by
                have h9 := h.set (m2 + 1) L[m2]
                rw [shift_mid L hm2] at h9
                refine ⟨h9, fun v hv => ?_⟩
                rw [List.drop_eq_getElem_cons hm2] at hv
                rcases List.mem_cons.1 hv with e | e
                · rw [e]; exact hlx
                · exact HI2.out.2 v e
              have HTA := show Hid (¬ L[m2] < x → ∀ v ∈ L.take (m2 + 1), x ≤ v) from fun h => fl_take HFL.out.pw hm2 (by omega)
              obtain ⟨z, hz⟩ : ∃ z, z = L[m2] := ⟨_, rfl⟩
              rw [← hz] at HZC HSH HTA
              clear hz
              by_cases hzx : z < x
              · have hzxI : (z : Int) < (x : Int) := by omega
                clear HTA HEND
                go_wp2_with fail
                refine wp_region_rel (by kernel_rfl) [some 92, some 93, some 94, some 95, some 96, some 97, some 98, some 99, some 100, some 101, some 102, some 103, some 104, some 105, some 106, some 107, some 108] [[], [0], [1], [2], [2], [4, 2], [3, 5, 2], [6, 2], [2], [2], [2], [9, 10, 2], [11, 2], [8, 12, 2], [13, 2], [7, 14, 2], [2, 15]] (by kernel_rfl) (fun i v w => match i with | 0 => v = .int .i64 ((m2 + 1 : Nat) : Int) | 1 => v = .bool true | 2 => v = .bool true | 3 => v = .slice (some ⟨q, 0, none⟩) (k + 1) cap | 4 => v = .int .i64 ((m2 + 1 : Nat) : Int) | 5 => v = .int .i64 (m2 : Int) | 6 => v = .pointer (some ⟨q, m2, none⟩) | 7 => v = .int .u64 (z : Int) | 8 => v = .slice (some ⟨bw, 0, none⟩) t.length t.length | 9 => v = .slice (some ⟨lb, lo, none⟩) ids.length c4 | 10 => v = .int .i64 (k : Int) | 11 => v = .pointer (some ⟨lb, lo + k, none⟩) | 12 => v = .int .i64 (d : Int) | 13 => v = .pointer (some ⟨bw, d, none⟩) | 14 => v = .int .u64 (x : Int) | 15 => v = .bool true | 16 => v = .bool true | _ => True) (fun _ W => OQ w4 W q (k + 1) cap (L.take (m2 + 1) ++ y :: L.drop (m2 + 1))) (fun _ _ => True) ?hle (HI2.out.1.drew) (allLt 17 ?steps) ?fin
                case hle =>
                  intro i v w w1 hl h
                  match i, h with
                  | 0, h => exact h
                  | 1, h => exact h
                  | 2, h => exact h
                  | 3, h => exact h
                  | 4, h => exact h
                  | 5, h => exact h
                  | 6, h => exact h
                  | 7, h => exact h
                  | 8, h => exact h
                  | 9, h => exact h
                  | 10, h => exact h
                  | 11, h => exact h
                  | 12, h => exact h
                  | 13, h => exact h
                  | 14, h => exact h
                  | 15, h => exact h
                  | 16, h => exact h
                  | _ + 17, h => trivial
                case steps =>
                  refine ⟨⟨⟨⟨⟨⟨⟨⟨⟨⟨⟨⟨⟨⟨⟨⟨⟨trivial, ?s0⟩, ?s1⟩, ?s2⟩, ?s3⟩, ?s4⟩, ?s5⟩, ?s6⟩, ?s7⟩, ?s8⟩, ?s9⟩, ?s10⟩, ?s11⟩, ?s12⟩, ?s13⟩, ?s14⟩, ?s15⟩, ?s16⟩
                  case s0 =>
                    intro done a w hS h0 hd hn hO hN
                    have o12 : a.tmps[12]? = some (.int .i64 ((m2 + 1 : Nat) : Int)) := (hO.out 12 (by decide)).trans rfl
                    refine relVal rfl (.int .i64 ((m2 + 1 : Nat) : Int)) w rfl (by go_simp) ⟨_, rfl, rfl, hS, trivial⟩
                  case s1 =>
                    intro done a w hS h0 hd hn hO hN
                    obtain ⟨v0, g0, r0⟩ := hN 0 (by decide)
                    have g0 : a.tmps[92]? = some v0 := g0
                    obtain rfl : v0 = .int .i64 ((m2 + 1 : Nat) : Int) := r0
                    refine relVal rfl (.bool true) w rfl (by go_simp) ⟨_, rfl, rfl, hS, trivial⟩
                  case s2 =>
                    intro done a w hS h0 hd hn hO hN
                    obtain ⟨v1, g1, r1⟩ := hN 1 (by decide)
                    have g1 : a.tmps[93]? = some v1 := g1
                    obtain rfl : v1 = .bool true := r1
                    refine relVal rfl (.bool true) w rfl (by go_simp) ⟨_, rfl, rfl, hS, trivial⟩
                  case s3 =>
                    intro done a w hS h0 hd hn hO hN
                    obtain ⟨v2, g2, r2⟩ := hN 2 (by decide)
                    have g2 : a.tmps[94]? = some v2 := g2
                    obtain rfl : v2 = .bool true := r2
                    have o10 : a.tmps[10]? = some (.slice (some ⟨q, 0, none⟩) (k + 1) cap) := (hO.out 10 (by decide)).trans rfl
                    refine relValW rfl (.slice (some ⟨q, 0, none⟩) (k + 1) cap) w ((wanted_is rfl rfl g2).trans rfl) (by go_simp) ⟨_, rfl, rfl, hS, trivial⟩
                  case s4 =>
                    intro done a w hS h0 hd hn hO hN
                    obtain ⟨v2, g2, r2⟩ := hN 2 (by decide)
                    have g2 : a.tmps[94]? = some v2 := g2
                    obtain rfl : v2 = .bool true := r2
                    have o12 : a.tmps[12]? = some (.int .i64 ((m2 + 1 : Nat) : Int)) := (hO.out 12 (by decide)).trans rfl
                    refine relValW rfl (.int .i64 ((m2 + 1 : Nat) : Int)) w ((wanted_is rfl rfl g2).trans rfl) (by go_simp) ⟨_, rfl, rfl, hS, trivial⟩
                  case s5 =>
                    intro done a w hS h0 hd hn hO hN
                    obtain ⟨v4, g4, r4⟩ := hN 4 (by decide)
                    have g4 : a.tmps[96]? = some v4 := g4
                    obtain rfl : v4 = .int .i64 ((m2 + 1 : Nat) : Int) := r4
                    obtain ⟨v2, g2, r2⟩ := hN 2 (by decide)
                    have g2 : a.tmps[94]? = some v2 := g2
                    obtain rfl : v2 = .bool true := r2
                    have hw9 : IntKind.i64.wrap (m2 : Int) = (m2 : Int) := wrapI64 (by omega)
                    refine relValW rfl (.int .i64 (m2 : Int)) w ((wanted_is rfl rfl g2).trans rfl) (by go_simp) ⟨_, rfl, rfl, hS, trivial⟩
                  case s6 =>
                    intro done a w hS h0 hd hn hO hN
                    obtain ⟨v3, g3, r3⟩ := hN 3 (by decide)
                    have g3 : a.tmps[95]? = some v3 := g3
                    obtain rfl : v3 = .slice (some ⟨q, 0, none⟩) (k + 1) cap := r3
                    obtain ⟨v5, g5, r5⟩ := hN 5 (by decide)
                    have g5 : a.tmps[97]? = some v5 := g5
                    obtain rfl : v5 = .int .i64 (m2 : Int) := r5
                    obtain ⟨v2, g2, r2⟩ := hN 2 (by decide)
                    have g2 : a.tmps[94]? = some v2 := g2
                    obtain rfl : v2 = .bool true := r2
                    refine relValW rfl (.pointer (some ⟨q, m2, none⟩)) w ((wanted_is rfl rfl g2).trans rfl) (by go_simp) ⟨_, rfl, rfl, hS, trivial⟩
                  case s7 =>
                    intro done a w hS h0 hd hn hO hN
                    obtain ⟨v6, g6, r6⟩ := hN 6 (by decide)
                    have g6 : a.tmps[98]? = some v6 := g6
                    obtain rfl : v6 = .pointer (some ⟨q, m2, none⟩) := r6
                    obtain ⟨v2, g2, r2⟩ := hN 2 (by decide)
                    have g2 : a.tmps[94]? = some v2 := g2
                    obtain rfl : v2 = .bool true := r2
                    have hc : w.cell? ⟨q, m2, none⟩ = some (.int .u64 (z : Int)) := HZC.out w hS
                    refine relValW rfl (.int .u64 (z : Int)) w ((wanted_is rfl rfl g2).trans rfl) (by go_simp) ⟨_, rfl, rfl, hS, trivial⟩
                  case s8 =>
                    intro done a w hS h0 hd hn hO hN
                    obtain ⟨v2, g2, r2⟩ := hN 2 (by decide)
                    have g2 : a.tmps[94]? = some v2 := g2
                    obtain rfl : v2 = .bool true := r2
                    have o5 : a.tmps[5]? = some (.slice (some ⟨bw, 0, none⟩) t.length t.length) := (hO.out 5 (by decide)).trans rfl
                    refine relValW rfl (.slice (some ⟨bw, 0, none⟩) t.length t.length) w ((wanted_is rfl rfl g2).trans rfl) (by go_simp) ⟨_, rfl, rfl, hS, trivial⟩
                  case s9 =>
                    intro done a w hS h0 hd hn hO hN
                    obtain ⟨v2, g2, r2⟩ := hN 2 (by decide)
                    have g2 : a.tmps[94]? = some v2 := g2
                    obtain rfl : v2 = .bool true := r2
                    have o9 : a.tmps[9]? = some (.slice (some ⟨lb, lo, none⟩) ids.length c4) := (hO.out 9 (by decide)).trans rfl
                    refine relValW rfl (.slice (some ⟨lb, lo, none⟩) ids.length c4) w ((wanted_is rfl rfl g2).trans rfl) (by go_simp) ⟨_, rfl, rfl, hS, trivial⟩
                  case s10 =>
                    intro done a w hS h0 hd hn hO hN
                    obtain ⟨v2, g2, r2⟩ := hN 2 (by decide)
                    have g2 : a.tmps[94]? = some v2 := g2
                    obtain rfl : v2 = .bool true := r2
                    have o11 : a.tmps[11]? = some (.int .i64 (k : Int)) := (hO.out 11 (by decide)).trans rfl
                    refine relValW rfl (.int .i64 (k : Int)) w ((wanted_is rfl rfl g2).trans rfl) (by go_simp) ⟨_, rfl, rfl, hS, trivial⟩
                  case s11 =>
                    intro done a w hS h0 hd hn hO hN
                    obtain ⟨v9, g9, r9⟩ := hN 9 (by decide)
                    have g9 : a.tmps[101]? = some v9 := g9
                    obtain rfl : v9 = .slice (some ⟨lb, lo, none⟩) ids.length c4 := r9
                    obtain ⟨v10, g10, r10⟩ := hN 10 (by decide)
                    have g10 : a.tmps[102]? = some v10 := g10
                    obtain rfl : v10 = .int .i64 (k : Int) := r10
                    obtain ⟨v2, g2, r2⟩ := hN 2 (by decide)
                    have g2 : a.tmps[94]? = some v2 := g2
                    obtain rfl : v2 = .bool true := r2
                    refine relValW rfl (.pointer (some ⟨lb, lo + k, none⟩)) w ((wanted_is rfl rfl g2).trans rfl) (by go_simp) ⟨_, rfl, rfl, hS, trivial⟩
                  case s12 =>
                    intro done a w hS h0 hd hn hO hN
                    obtain ⟨v11, g11, r11⟩ := hN 11 (by decide)
                    have g11 : a.tmps[103]? = some v11 := g11
                    obtain rfl : v11 = .pointer (some ⟨lb, lo + k, none⟩) := r11
                    obtain ⟨v2, g2, r2⟩ := hN 2 (by decide)
                    have g2 : a.tmps[94]? = some v2 := g2
                    obtain rfl : v2 = .bool true := r2
                    have hc : w.cell? ⟨lb, lo + k, none⟩ = some (.int .i64 (d : Int)) := HLC.out w hS.bel
                    refine relValW rfl (.int .i64 (d : Int)) w ((wanted_is rfl rfl g2).trans rfl) (by go_simp) ⟨_, rfl, rfl, hS, trivial⟩
                  case s13 =>
                    intro done a w hS h0 hd hn hO hN
                    obtain ⟨v8, g8, r8⟩ := hN 8 (by decide)
                    have g8 : a.tmps[100]? = some v8 := g8
                    obtain rfl : v8 = .slice (some ⟨bw, 0, none⟩) t.length t.length := r8
                    obtain ⟨v12, g12, r12⟩ := hN 12 (by decide)
                    have g12 : a.tmps[104]? = some v12 := g12
                    obtain rfl : v12 = .int .i64 (d : Int) := r12
                    obtain ⟨v2, g2, r2⟩ := hN 2 (by decide)
                    have g2 : a.tmps[94]? = some v2 := g2
                    obtain rfl : v2 = .bool true := r2
                    refine relValW rfl (.pointer (some ⟨bw, d, none⟩)) w ((wanted_is rfl rfl g2).trans rfl) (by go_simp) ⟨_, rfl, rfl, hS, trivial⟩
                  case s14 =>
                    intro done a w hS h0 hd hn hO hN
                    obtain ⟨v13, g13, r13⟩ := hN 13 (by decide)
                    have g13 : a.tmps[105]? = some v13 := g13
                    obtain rfl : v13 = .pointer (some ⟨bw, d, none⟩) := r13
                    obtain ⟨v2, g2, r2⟩ := hN 2 (by decide)
                    have g2 : a.tmps[94]? = some v2 := g2
                    obtain rfl : v2 = .bool true := r2
                    have hc : w.cell? ⟨bw, d, none⟩ = some (.int .u64 (x : Int)) := HWC.out w hS.bel
                    refine relValW rfl (.int .u64 (x : Int)) w ((wanted_is rfl rfl g2).trans rfl) (by go_simp) ⟨_, rfl, rfl, hS, trivial⟩
                  case s15 =>
                    intro done a w hS h0 hd hn hO hN
                    obtain ⟨v7, g7, r7⟩ := hN 7 (by decide)
                    have g7 : a.tmps[99]? = some v7 := g7
                    obtain rfl : v7 = .int .u64 (z : Int) := r7
                    obtain ⟨v14, g14, r14⟩ := hN 14 (by decide)
                    have g14 : a.tmps[106]? = some v14 := g14
                    obtain rfl : v14 = .int .u64 (x : Int) := r14
                    obtain ⟨v2, g2, r2⟩ := hN 2 (by decide)
                    have g2 : a.tmps[94]? = some v2 := g2
                    obtain rfl : v2 = .bool true := r2
                    refine relValW rfl (.bool true) w ((wanted_is rfl rfl g2).trans rfl) (by go_simp) ⟨_, rfl, rfl, hS, trivial⟩
                  case s16 =>
                    intro done a w hS h0 hd hn hO hN
                    obtain ⟨v2, g2, r2⟩ := hN 2 (by decide)
                    have g2 : a.tmps[94]? = some v2 := g2
                    obtain rfl : v2 = .bool true := r2
                    obtain ⟨v15, g15, r15⟩ := hN 15 (by decide)
                    have g15 : a.tmps[107]? = some v15 := g15
                    obtain rfl : v15 = .bool true := r15
                    refine relVal rfl (.bool true) w rfl (by go_simp) ⟨_, rfl, rfl, hS, trivial⟩
                case fin =>
                  intro vs done w hdone hS hR
                  have e16 : vs 16 = .bool true := hR 16 (by decide)
                  have HS := show Hid (OQ w4 w q (k + 1) cap (L.take (m2 + 1) ++ y :: L.drop (m2 + 1))) from hS
                  simp only [putAll, Act.put, List.setIfInBounds_toArray, List.set_cons_zero, List.set_cons_succ, e16]
                  clear hS hR hdone e16
                  generalize vs 0 = x0, vs 1 = x1, vs 2 = x2, vs 3 = x3, vs 4 = x4, vs 5 = x5, vs 6 = x6, vs 7 = x7, vs 8 = x8, vs 9 = x9, vs 10 = x10, vs 11 = x11, vs 12 = x12, vs 13 = x13, vs 14 = x14, vs 15 = x15
                  obtain ⟨z0, b0⟩ : ∃ z, w.cell? ⟨q, m2 + 1, none⟩ = some (.int .u64 z) := ⟨_, ownU_cell HS.out.ow (j := m2 + 1) (by omega) (by rw [HRL.out]; omega)⟩
                  have bf := ownU_fr HS.out.ow
                  have e0 := HZC.out w HS.out
                  have HN := show Hid _ from HSH.out w HS.out hzx
                  clear HS HI2 HSH HRL HLC HWC HZC
                  go_wp2_with fail
                  go_roundw
                  case rel => exact ⟨m2, z, by omega, by go_num, HN⟩
                  case measure => first | (simp [intOf]; done) | (simp [intOf]; omega)
              · have hzxI : ¬ (z : Int) < (x : Int) := by omega
                clear HSH
                go_wp2_with fail
                refine wp_region_rel (by kernel_rfl) [some 92, some 93, some 94, some 95, some 96, some 97, some 98, some 99, some 100, some 101, some 102, some 103, some 104, some 105, some 106, some 107, some 108] [[], [0], [1], [2], [2], [4, 2], [3, 5, 2], [6, 2], [2], [2], [2], [9, 10, 2], [11, 2], [8, 12, 2], [13, 2], [7, 14, 2], [2, 15]] (by kernel_rfl) (fun i v w => match i with | 0 => v = .int .i64 ((m2 + 1 : Nat) : Int) | 1 => v = .bool true | 2 => v = .bool true | 3 => v = .slice (some ⟨q, 0, none⟩) (k + 1) cap | 4 => v = .int .i64 ((m2 + 1 : Nat) : Int) | 5 => v = .int .i64 (m2 : Int) | 6 => v = .pointer (some ⟨q, m2, none⟩) | 7 => v = .int .u64 (z : Int) | 8 => v = .slice (some ⟨bw, 0, none⟩) t.length t.length | 9 => v = .slice (some ⟨lb, lo, none⟩) ids.length c4 | 10 => v = .int .i64 (k : Int) | 11 => v = .pointer (some ⟨lb, lo + k, none⟩) | 12 => v = .int .i64 (d : Int) | 13 => v = .pointer (some ⟨bw, d, none⟩) | 14 => v = .int .u64 (x : Int) | 15 => v = .bool false | 16 => v = .bool false | _ => True) (fun _ W => OQ w4 W q (k + 1) cap (L.take (m2 + 1) ++ y :: L.drop (m2 + 1))) (fun _ _ => True) ?hle (HI2.out.1.drew) (allLt 17 ?steps) ?fin
                case hle =>
                  intro i v w w1 hl h
                  match i, h with
                  | 0, h => exact h
                  | 1, h => exact h
                  | 2, h => exact h
                  | 3, h => exact h
                  | 4, h => exact h
                  | 5, h => exact h
                  | 6, h => exact h
                  | 7, h => exact h
                  | 8, h => exact h
                  | 9, h => exact h
                  | 10, h => exact h
                  | 11, h => exact h
                  | 12, h => exact h
                  | 13, h => exact h
                  | 14, h => exact h
                  | 15, h => exact h
                  | 16, h => exact h
                  | _ + 17, h => trivial
                case steps =>
                  refine ⟨⟨⟨⟨⟨⟨⟨⟨⟨⟨⟨⟨⟨⟨⟨⟨⟨trivial, ?s0⟩, ?s1⟩, ?s2⟩, ?s3⟩, ?s4⟩, ?s5⟩, ?s6⟩, ?s7⟩, ?s8⟩, ?s9⟩, ?s10⟩, ?s11⟩, ?s12⟩, ?s13⟩, ?s14⟩, ?s15⟩, ?s16⟩
                  case s0 =>
                    intro done a w hS h0 hd hn hO hN
                    have o12 : a.tmps[12]? = some (.int .i64 ((m2 + 1 : Nat) : Int)) := (hO.out 12 (by decide)).trans rfl
                    refine relVal rfl (.int .i64 ((m2 + 1 : Nat) : Int)) w rfl (by go_simp) ⟨_, rfl, rfl, hS, trivial⟩
                  case s1 =>
                    intro done a w hS h0 hd hn hO hN
                    obtain ⟨v0, g0, r0⟩ := hN 0 (by decide)
                    have g0 : a.tmps[92]? = some v0 := g0
                    obtain rfl : v0 = .int .i64 ((m2 + 1 : Nat) : Int) := r0
                    refine relVal rfl (.bool true) w rfl (by go_simp) ⟨_, rfl, rfl, hS, trivial⟩
                  case s2 =>
                    intro done a w hS h0 hd hn hO hN
                    obtain ⟨v1, g1, r1⟩ := hN 1 (by decide)
                    have g1 : a.tmps[93]? = some v1 := g1
                    obtain rfl : v1 = .bool true := r1
                    refine relVal rfl (.bool true) w rfl (by go_simp) ⟨_, rfl, rfl, hS, trivial⟩
                  case s3 =>
                    intro done a w hS h0 hd hn hO hN
                    obtain ⟨v2, g2, r2⟩ := hN 2 (by decide)
                    have g2 : a.tmps[94]? = some v2 := g2
                    obtain rfl : v2 = .bool true := r2
                    have o10 : a.tmps[10]? = some (.slice (some ⟨q, 0, none⟩) (k + 1) cap) := (hO.out 10 (by decide)).trans rfl
                    refine relValW rfl (.slice (some ⟨q, 0, none⟩) (k + 1) cap) w ((wanted_is rfl rfl g2).trans rfl) (by go_simp) ⟨_, rfl, rfl, hS, trivial⟩
                  case s4 =>
                    intro done a w hS h0 hd hn hO hN
                    obtain ⟨v2, g2, r2⟩ := hN 2 (by decide)
                    have g2 : a.tmps[94]? = some v2 := g2
                    obtain rfl : v2 = .bool true := r2
                    have o12 : a.tmps[12]? = some (.int .i64 ((m2 + 1 : Nat) : Int)) := (hO.out 12 (by decide)).trans rfl
                    refine relValW rfl (.int .i64 ((m2 + 1 : Nat) : Int)) w ((wanted_is rfl rfl g2).trans rfl) (by go_simp) ⟨_, rfl, rfl, hS, trivial⟩
                  case s5 =>
                    intro done a w hS h0 hd hn hO hN
                    obtain ⟨v4, g4, r4⟩ := hN 4 (by decide)
                    have g4 : a.tmps[96]? = some v4 := g4
                    obtain rfl : v4 = .int .i64 ((m2 + 1 : Nat) : Int) := r4
                    obtain ⟨v2, g2, r2⟩ := hN 2 (by decide)
                    have g2 : a.tmps[94]? = some v2 := g2
                    obtain rfl : v2 = .bool true := r2
                    have hw9 : IntKind.i64.wrap (m2 : Int) = (m2 : Int) := wrapI64 (by omega)
                    refine relValW rfl (.int .i64 (m2 : Int)) w ((wanted_is rfl rfl g2).trans rfl) (by go_simp) ⟨_, rfl, rfl, hS, trivial⟩
                  case s6 =>
                    intro done a w hS h0 hd hn hO hN
                    obtain ⟨v3, g3, r3⟩ := hN 3 (by decide)
                    have g3 : a.tmps[95]? = some v3 := g3
                    obtain rfl : v3 = .slice (some ⟨q, 0, none⟩) (k + 1) cap := r3
                    obtain ⟨v5, g5, r5⟩ := hN 5 (by decide)
                    have g5 : a.tmps[97]? = some v5 := g5
                    obtain rfl : v5 = .int .i64 (m2 : Int) := r5
                    obtain ⟨v2, g2, r2⟩ := hN 2 (by decide)
                    have g2 : a.tmps[94]? = some v2 := g2
                    obtain rfl : v2 = .bool true := r2
                    refine relValW rfl (.pointer (some ⟨q, m2, none⟩)) w ((wanted_is rfl rfl g2).trans rfl) (by go_simp) ⟨_, rfl, rfl, hS, trivial⟩
                  case s7 =>
                    intro done a w hS h0 hd hn hO hN
                    obtain ⟨v6, g6, r6⟩ := hN 6 (by decide)
                    have g6 : a.tmps[98]? = some v6 := g6
                    obtain rfl : v6 = .pointer (some ⟨q, m2, none⟩) := r6
                    obtain ⟨v2, g2, r2⟩ := hN 2 (by decide)
                    have g2 : a.tmps[94]? = some v2 := g2
                    obtain rfl : v2 = .bool true := r2
                    have hc : w.cell? ⟨q, m2, none⟩ = some (.int .u64 (z : Int)) := HZC.out w hS
                    refine relValW rfl (.int .u64 (z : Int)) w ((wanted_is rfl rfl g2).trans rfl) (by go_simp) ⟨_, rfl, rfl, hS, trivial⟩
                  case s8 =>
                    intro done a w hS h0 hd hn hO hN
                    obtain ⟨v2, g2, r2⟩ := hN 2 (by decide)
                    have g2 : a.tmps[94]? = some v2 := g2
                    obtain rfl : v2 = .bool true := r2
                    have o5 : a.tmps[5]? = some (.slice (some ⟨bw, 0, none⟩) t.length t.length) := (hO.out 5 (by decide)).trans rfl
                    refine relValW rfl (.slice (some ⟨bw, 0, none⟩) t.length t.length) w ((wanted_is rfl rfl g2).trans rfl) (by go_simp) ⟨_, rfl, rfl, hS, trivial⟩
                  case s9 =>
                    intro done a w hS h0 hd hn hO hN
                    obtain ⟨v2, g2, r2⟩ := hN 2 (by decide)
                    have g2 : a.tmps[94]? = some v2 := g2
                    obtain rfl : v2 = .bool true := r2
                    have o9 : a.tmps[9]? = some (.slice (some ⟨lb, lo, none⟩) ids.length c4) := (hO.out 9 (by decide)).trans rfl
                    refine relValW rfl (.slice (some ⟨lb, lo, none⟩) ids.length c4) w ((wanted_is rfl rfl g2).trans rfl) (by go_simp) ⟨_, rfl, rfl, hS, trivial⟩
                  case s10 =>
                    intro done a w hS h0 hd hn hO hN
                    obtain ⟨v2, g2, r2⟩ := hN 2 (by decide)
                    have g2 : a.tmps[94]? = some v2 := g2
                    obtain rfl : v2 = .bool true := r2
                    have o11 : a.tmps[11]? = some (.int .i64 (k : Int)) := (hO.out 11 (by decide)).trans rfl
                    refine relValW rfl (.int .i64 (k : Int)) w ((wanted_is rfl rfl g2).trans rfl) (by go_simp) ⟨_, rfl, rfl, hS, trivial⟩
                  case s11 =>
                    intro done a w hS h0 hd hn hO hN
                    obtain ⟨v9, g9, r9⟩ := hN 9 (by decide)
                    have g9 : a.tmps[101]? = some v9 := g9
                    obtain rfl : v9 = .slice (some ⟨lb, lo, none⟩) ids.length c4 := r9
                    obtain ⟨v10, g10, r10⟩ := hN 10 (by decide)
                    have g10 : a.tmps[102]? = some v10 := g10
                    obtain rfl : v10 = .int .i64 (k : Int) := r10
                    obtain ⟨v2, g2, r2⟩ := hN 2 (by decide)
                    have g2 : a.tmps[94]? = some v2 := g2
                    obtain rfl : v2 = .bool true := r2
                    refine relValW rfl (.pointer (some ⟨lb, lo + k, none⟩)) w ((wanted_is rfl rfl g2).trans rfl) (by go_simp) ⟨_, rfl, rfl, hS, trivial⟩
                  case s12 =>
                    intro done a w hS h0 hd hn hO hN
                    obtain ⟨v11, g11, r11⟩ := hN 11 (by decide)
                    have g11 : a.tmps[103]? = some v11 := g11
                    obtain rfl : v11 = .pointer (some ⟨lb, lo + k, none⟩) := r11
                    obtain ⟨v2, g2, r2⟩ := hN 2 (by decide)
                    have g2 : a.tmps[94]? = some v2 := g2
                    obtain rfl : v2 = .bool true := r2
                    have hc : w.cell? ⟨lb, lo + k, none⟩ = some (.int .i64 (d : Int)) := HLC.out w hS.bel
                    refine relValW rfl (.int .i64 (d : Int)) w ((wanted_is rfl rfl g2).trans rfl) (by go_simp) ⟨_, rfl, rfl, hS, trivial⟩
                  case s13 =>
                    intro done a w hS h0 hd hn hO hN
                    obtain ⟨v8, g8, r8⟩ := hN 8 (by decide)
                    have g8 : a.tmps[100]? = some v8 := g8
                    obtain rfl : v8 = .slice (some ⟨bw, 0, none⟩) t.length t.length := r8
                    obtain ⟨v12, g12, r12⟩ := hN 12 (by decide)
                    have g12 : a.tmps[104]? = some v12 := g12
                    obtain rfl : v12 = .int .i64 (d : Int) := r12
                    obtain ⟨v2, g2, r2⟩ := hN 2 (by decide)
                    have g2 : a.tmps[94]? = some v2 := g2
                    obtain rfl : v2 = .bool true := r2
                    refine relValW rfl (.pointer (some ⟨bw, d, none⟩)) w ((wanted_is rfl rfl g2).trans rfl) (by go_simp) ⟨_, rfl, rfl, hS, trivial⟩
                  case s14 =>
                    intro done a w hS h0 hd hn hO hN
                    obtain ⟨v13, g13, r13⟩ := hN 13 (by decide)
                    have g13 : a.tmps[105]? = some v13 := g13
                    obtain rfl : v13 = .pointer (some ⟨bw, d, none⟩) := r13
                    obtain ⟨v2, g2, r2⟩ := hN 2 (by decide)
                    have g2 : a.tmps[94]? = some v2 := g2
                    obtain rfl : v2 = .bool true := r2
                    have hc : w.cell? ⟨bw, d, none⟩ = some (.int .u64 (x : Int)) := HWC.out w hS.bel
                    refine relValW rfl (.int .u64 (x : Int)) w ((wanted_is rfl rfl g2).trans rfl) (by go_simp) ⟨_, rfl, rfl, hS, trivial⟩
                  case s15 =>
                    intro done a w hS h0 hd hn hO hN
                    obtain ⟨v7, g7, r7⟩ := hN 7 (by decide)
                    have g7 : a.tmps[99]? = some v7 := g7
                    obtain rfl : v7 = .int .u64 (z : Int) := r7
                    obtain ⟨v14, g14, r14⟩ := hN 14 (by decide)
                    have g14 : a.tmps[106]? = some v14 := g14
                    obtain rfl : v14 = .int .u64 (x : Int) := r14
                    obtain ⟨v2, g2, r2⟩ := hN 2 (by decide)
                    have g2 : a.tmps[94]? = some v2 := g2
                    obtain rfl : v2 = .bool true := r2
                    refine relValW rfl (.bool false) w ((wanted_is rfl rfl g2).trans rfl) (by go_simp) ⟨_, rfl, rfl, hS, trivial⟩
                  case s16 =>
                    intro done a w hS h0 hd hn hO hN
                    obtain ⟨v2, g2, r2⟩ := hN 2 (by decide)
                    have g2 : a.tmps[94]? = some v2 := g2
                    obtain rfl : v2 = .bool true := r2
                    obtain ⟨v15, g15, r15⟩ := hN 15 (by decide)
                    have g15 : a.tmps[107]? = some v15 := g15
                    obtain rfl : v15 = .bool false := r15
                    refine relVal rfl (.bool false) w rfl (by go_simp) ⟨_, rfl, rfl, hS, trivial⟩
                case fin =>
                  intro vs done w hdone hS hR
                  have e16 : vs 16 = .bool false := hR 16 (by decide)
                  have HS := show Hid (OQ w4 w q (k + 1) cap (L.take (m2 + 1) ++ y :: L.drop (m2 + 1))) from hS
                  simp only [putAll, Act.put, List.setIfInBounds_toArray, List.set_cons_zero, List.set_cons_succ, e16]
                  clear hS hR hdone e16
                  generalize vs 0 = x0, vs 1 = x1, vs 2 = x2, vs 3 = x3, vs 4 = x4, vs 5 = x5, vs 6 = x6, vs 7 = x7, vs 8 = x8, vs 9 = x9, vs 10 = x10, vs 11 = x11, vs 12 = x12, vs 13 = x13, vs 14 = x14, vs 15 = x15
                  obtain ⟨z0, b0⟩ : ∃ z, w.cell? ⟨q, (m2 + 1), none⟩ = some (.int .u64 z) := ⟨_, ownU_cell HS.out.ow (j := (m2 + 1)) (by omega) (by rw [HRL.out]; omega)⟩
                  have bf := ownU_fr HS.out.ow
                  have HN := show Hid _ from HEND.out w HS.out (HTA.out hzx)
                  have cl9 := HLC.out w HS.out.bel
                  have cw9 := HWC.out w HS.out.bel
                  clear HS HI2 HEND HTA HRL HLC HWC
                  go_wp2_with fail
                  go_roundw
                  case rel => exact ⟨k + 1, _, by omega, by go_num, HN⟩
                  case measure => first | (simp [intOf]; done) | (simp [intOf]; omega)
        · have hkI : ¬ (k : Int) < (ids.length : Int) := by omega
          have hI := HI.out
          rw [List.take_of_length_le (by omega), ← HIW.out] at hI
          have HF := show Hid (IsU wr u10 L ∧ Fl L IW ∧ Below w0.heap.size w0 wr) from ⟨isU_own hI.1, hI.2.2, HB4.out.trans (hI.2.1.mono HB4.out.size)⟩
          clear HI hI
          go_wp2_with fail
          go_ret
          exact ⟨_, rfl, L, HF.out.1, HF.out.2.1, HF.out.2.2⟩
end Go.Proofs.YtpddfooeaecekaaDoor
