/-
  The document's Ints, of two equal lists of numbers, wherever they lie. No condition.
-/
import Derived.Test.YtkejippimkjjaaaGreatDoorBG4
import Derived.Test.YtkejippimkjjaaaGreatDoorBG5
import Derived.BigQuiet
import Derived.Test.YtkejippimkjjaaaGreatDoorKG7
import Derived.Test.YtkejippimkjjaaaGreatDoorFG3
import Derived.Test.YtkejippimkjjaaaGreatDoorZG4
import Derived.Test.YtkejippimkjjaaaGreatDoorRG1
namespace Go.Proofs.YtkejippimkjjaaaGreatDoor
open Go.RowKit
set_option linter.unusedSimpArgs false

theorem kbelowDrewN {b : Nat} {w v : World} (h : Below b w v) (k : Nat) : Below b w (v.drewN k) := ⟨h.os, h.tape, h.output, h.size, h.block⟩
set_option maxRecDepth 100000 in
set_option maxHeartbeats 4000000 in
theorem kints_any (w : World) (u v : Value) (l : List Int) (hu : Bt.IsL w u l) (hv : Bt.IsL w v l) : Calls Tryz.prog 12 #[u, v] w fun e w' => e = .returned (.bool true) ∧ Below w.heap.size w w' := by
  obtain ⟨p, c, rfl, hlen, hcell⟩ := hu
  obtain ⟨q, d, rfl, -, hcell2⟩ := hv
  have HC := show Hid (∀ k (hk : k < l.length), ∃ b o, p = some ⟨b, o, none⟩ ∧ w.cell? ⟨b, o + k, none⟩ = some (.int .i64 l[k])) from hcell
  have HD := show Hid (∀ k (hk : k < l.length), ∃ b o, q = some ⟨b, o, none⟩ ∧ w.cell? ⟨b, o + k, none⟩ = some (.int .i64 l[k])) from hcell2
  clear hcell hcell2
  go_enter Tryz.func12, Tryz.ntmps12
  go_wp2
  go_loopw [5] (fun n wr => ∃ k : Nat, k ≤ l.length ∧ n = .int .i64 (k : Int) ∧ Hid (Below w.heap.size w wr)) (fun n _ => l.length - (intOf n).toNat)
  case atStart => exact ⟨0, by omega, rfl, Below.refl _ _⟩
  case round =>
    obtain ⟨k, hk, rfl, HQ⟩ := hrel
    by_cases hlt : k < l.length
    · obtain ⟨bb, o, rfl, hc0⟩ := HC.out k hlt
      obtain ⟨bb2, o2, rfl, hc2⟩ := HD.out k hlt
      have hc : wr.cell? ⟨bb, o + k, none⟩ = some (.int .i64 l[k]) := (HQ.out.cell (p := ⟨bb, _, none⟩) (World.block_lt_of_cell? w _ hc0)).trans hc0
      have hd : wr.cell? ⟨bb2, o2 + k, none⟩ = some (.int .i64 l[k]) := (HQ.out.cell (p := ⟨bb2, _, none⟩) (World.block_lt_of_cell? w _ hc2)).trans hc2
      have hltI : (k : Int) < (l.length : Int) := by omega
      clear hc0 hc2 HC HD
      generalize l[k] = n at *
      go_wp2
      go_quiet (fail)
      have HZ := show Hid (Below w.heap.size w (wr.drewN nq)) from kbelowDrewN HQ.out nq
      generalize wr.drewN nq = wz at *
      clear hc hd HQ
      go_wp2
      go_roundw
      case rel => exact ⟨k + 1, by omega, by go_num, HZ.out⟩
      case measure => (simp only [intOf]; omega)
    · have hge : ¬ (k : Int) < (l.length : Int) := by omega
      clear HC HD
      go_wp2
      go_ret
      exact ⟨rfl, HQ.out⟩
end Go.Proofs.YtkejippimkjjaaaGreatDoor
/-
  The law's call heads of layer 11: true. No other condition than that the table of TrailingZeros stands.
-/
namespace Go.Proofs.YtkejippimkjjaaaGreatDoor
open Go.RowKit Go.Shelf Go.Maps
open Fm (Nd)
open Bt.Bs (Ok wd)
set_option linter.unusedSimpArgs false

def kT6 : List Nd := [atomN ⟨#[112]⟩, atomN ⟨#[113]⟩, Fm.bot, joinN 4 0 1, joinN 5 0 2, joinN 4 0 4]
def bwK (x : Nat) : List Nat := x :: List.replicate 15 0
theorem bwK_ok (x : Nat) (h : x < 2 ^ 64) : Ok (bwK x) := ⟨rfl, fun y hy => by
  unfold bwK at hy
  rcases List.mem_cons.1 hy with e | e
  · omega
  · have := (List.mem_replicate.1 e).2
    omega⟩
section
set_option maxRecDepth 100000
theorem h11fr : Fm.fr [] kT6 = (0, kT6) := by decide +kernel
theorem h11a : runF kT6 (Bt.Bs.zero, 5) 4 = ⟨0, kT6, false, [⟨(Bt.Bs.zero, 0), false, 14, 0, []⟩, ⟨(bwK 1, 2), false, 14, 0, []⟩, ⟨(Bt.Bs.zero, 4), false, 8, 4, [1]⟩, ⟨(Bt.Bs.zero, 5), false, 14, 0, [0, 2]⟩], 4⟩ := by decide +kernel
theorem h11b : runF kT6 (Bt.Bs.zero, 5) 3 = ⟨110, kT6, false, [], 0⟩ := by decide +kernel
theorem h11c : runF kT6 (bwK 1, 3) 9 = ⟨0, kT6, true, [⟨(bwK 1, 0), true, 2, 0, []⟩, ⟨(bwK 1, 3), true, 11, 3, [0]⟩], 2⟩ := by decide +kernel
end
theorem kT6_good : ∀ n ∈ kT6, Fm.good n := by
  have z : ∀ k : Int, 0 ≤ k → k ≤ 1024 → Fm.i64 k := fun k h1 h2 => Fm.i64_small (by omega) (by omega)
  intro n hn
  simp only [kT6, List.mem_cons, List.not_mem_nil, or_false] at hn
  rcases hn with rfl | rfl | rfl | rfl | rfl | rfl
  · exact good_atom (by decide)
  · exact good_atom (by decide)
  · exact Fm.good_bot
  · exact good_joinN (by omega) (by omega) (z 0 (by omega) (by omega)) (z 1 (by omega) (by omega))
  · exact good_joinN (by omega) (by omega) (z 0 (by omega) (by omega)) (z 2 (by omega) (by omega))
  · exact good_joinN (by omega) (by omega) (z 0 (by omega) (by omega)) (z 4 (by omega) (by omega))
theorem k11rows (w : World) : IsR (w.alloc (Obj.cells (cellsOf kT6).toArray 54)) (.slice (some ⟨w.heap.size, 0, none⟩) 6 6) kT6 := by
  refine ⟨_, 6, rfl, by decide, by decide, fun _ => ⟨w.heap.size, 0, rfl, fun k hk => ?_⟩⟩
  have hc : ∀ j, j < 4 → (w.alloc (Obj.cells (cellsOf kT6).toArray 54)).cell? ⟨w.heap.size, 0 + k * 4 + j, none⟩ = (ndC kT6[k])[j]? := fun j hj => by
    rw [cell_of_row _ _ _ _ _ _ (heap_alloc_new _ _), Nat.zero_add, ← cellsOf_at kT6 k j hk hj]
    simp
  exact ⟨hc 0 (by omega), hc 1 (by omega), hc 2 (by omega), hc 3 (by omega)⟩
structure OK1 (w wi : World) (b m : Nat) (v : Value) (t : List Nd) : Prop where
  tb : Tb wi b m v t
  tz : Bt.Tz wi
  ge : ∀ k, Ft b m v k → w.heap.size ≤ k
  bel : Below w.heap.size w wi
theorem OK1.later {w wi w2 : World} {b m : Nat} {v : Value} {t : List Nd} (h : OK1 w wi b m v t) (hb : Below wi.heap.size wi w2) : OK1 w w2 b m v t := ⟨h.tb.later hb, Bt.tz_block h.tz hb, h.ge, h.bel.trans (hb.mono h.bel.size)⟩
theorem OK1.after {w wi w2 : World} {b m : Nat} {v : Value} {t t' : List Nd} (hZ : Bt.Tz w) (h : OK1 w wi b m v t) (ha : After wi b m v t' w2) : ∃ v', OK1 w w2 b m v' t' := by
  obtain ⟨v', hT, hL, hK⟩ := ha
  have hb := h.bel.trans (hK.below h.bel.size h.ge)
  refine ⟨v', hT, Bt.tz_block hZ hb, ?_, hb⟩
  rintro k (e | e | e)
  · exact h.ge k (Or.inl e)
  · exact h.ge k (Or.inr (Or.inl e))
  · rcases hL k e with h1 | h1
    · exact h.ge k (Or.inr (Or.inr h1))
    · exact Nat.le_trans h.bel.size h1
theorem Cl.aft {w w' : World} {b m q : Nat} {v : Value} {t t' : List Nd} {cs : Array Value} {T : TypeId} (h : Cl w q cs T) (hT : Tb w b m v t) (h1 : T ≠ 91) (h2 : T ≠ 54) (ha : After w b m v t' w') : Cl w' q cs T := by
  obtain ⟨v', _, _, hK⟩ := ha
  exact (hK.block q h.lt (cells_nft h h1 h2 hT)).trans h
theorem Sts.aft {w w' : World} {b m base : Nat} {v sv : Value} {t t' : List Nd} {st : List Stp} {kvs : List Value} (h : Sts w base sv st kvs) (hT : Tb w b m v t) (ha : After w b m v t' w') : Sts w' base sv st kvs := by
  obtain ⟨v', _, _, hK⟩ := ha
  refine h.keep (fun k e => ?_) (fun k e => ?_)
  · obtain ⟨_, h2, cur, hc⟩ := h.blk e
    exact hK.block k h2 (cells_nft hc (by decide) (by decide) hT)
  · obtain ⟨_, h2, cur, hc⟩ := h.kb e
    exact hK.block k h2 (cells_nft hc (by decide) (by decide) hT)
theorem Sts.later {w w' : World} {base : Nat} {sv : Value} {st : List Stp} {kvs : List Value} (h : Sts w base sv st kvs) (hb : Below w.heap.size w w') : Sts w' base sv st kvs := h.keep (fun k e => hb.block k (h.blk e).2.1) (fun k e => hb.block k (h.kb e).2.1)
theorem Sts.at {w : World} {base : Nat} {sv : Value} {st : List Stp} {kvs : List Value} (h : Sts w base sv st kvs) (hp : 0 < st.length) : ∃ g cap, sv = .slice (some ⟨g, 0, none⟩) st.length cap ∧ ∀ (i : Nat) (x : Stp), st[i]? = some x → ∃ kv, w.ownsRow base 3 1 kv x.kd.length (kdV x.kd) ∧ ∀ j, j < 21 → w.cell? ⟨g, i * 21 + j, none⟩ = (stpL x kv)[j]? := by
  have hl := h.len
  rcases h.row.2 with ⟨rfl, h0⟩ | ⟨g, cap, cur, rfl, _, hh, h1, h2, h3, h4⟩
  · omega
  · refine ⟨g, cap, rfl, fun i x hx => ?_⟩
    have hi := (List.getElem?_eq_some_iff.1 hx).1
    have hki : i < kvs.length := by omega
    refine ⟨kvs[i], h.kid i x _ hx (List.getElem?_eq_getElem hki), fun j hj => ?_⟩
    have e := stsL_at st kvs (fun y hy => (h.ok y hy).1) i j x kvs[i] hx (List.getElem?_eq_getElem hki) hj
    rw [← h4, List.getElem?_take, if_pos (by omega)] at e
    rw [cell_of_row w g _ cur _ _ hh]
    simpa using e
theorem stpL_ru {x : Stp} (h : x.s.1.length = 16) (kv : Value) : (stpL x kv)[18]? = some (.int .i64 x.ru) := by
  have hl : (Bt.listB x.s.1).length = 16 := listB_ln h
  unfold stpL
  rw [List.getElem?_append_right (by omega), hl]
  rfl
def kdI (l : List Nat) : List Int := l.map fun k : Nat => (k : Int)
theorem own_isK {w : World} {base : Nat} {v : Value} {l : List Nat} (h : w.ownsRow base 3 1 v l.length (kdV l)) : Bt.IsL w v (kdI l) := by
  rcases h.2 with ⟨rfl, h0⟩ | ⟨g, cap, cur, rfl, _, hh, h1, h2, h3, h4⟩
  · refine ⟨none, 0, by simp [kdI, h0], by simp [kdI]; omega, fun k hk => ?_⟩
    simp [kdI] at hk
    omega
  · refine ⟨_, cap, by simp [kdI], by simp [kdI]; unfold maxLen at h2; omega, fun k hk => ⟨g, 0, rfl, ?_⟩⟩
    have hk' : k < l.length := by simpa [kdI] using hk
    have e : (kdV l)[k]? = some (.int .i64 ((l[k] : Nat) : Int)) := by simp [kdV, hk']
    rw [← h4, List.getElem?_take, if_pos (by omega)] at e
    rw [Nat.zero_add, cell_of_row w g k cur _ _ hh]
    simpa [kdI] using e
theorem isL_new1 (w : World) (x : Int) : Bt.IsL (w.alloc (.cells #[.int .i64 x] 3)) (.slice (some ⟨w.heap.size, 0, none⟩) 1 1) [x] := ⟨_, 1, rfl, by simp, fun k hk => ⟨w.heap.size, 0, rfl, by
  obtain rfl : k = 0 := by simp at hk; omega
  rw [World.cell?_alloc_new]
  rfl⟩⟩
theorem isL_new2 (w : World) (x y : Int) : Bt.IsL (w.alloc (.cells #[.int .i64 x, .int .i64 y] 3)) (.slice (some ⟨w.heap.size, 0, none⟩) 2 2) [x, y] := ⟨_, 2, rfl, by simp, fun k hk => ⟨w.heap.size, 0, rfl, by
  have hk : k < 2 := by simpa using hk
  rw [World.cell?_alloc_new]
  match k, hk with
  | 0, _ => rfl
  | 1, _ => rfl⟩⟩
section
variable {ops : Array Oper} {rest : List Oper} {o : Oper} {a : Act} {Q : Exit → Act → World → Prop}
theorem bldGK (w : World) (g : Int) : (Instr.build 27 #[(1, .int .i64 g)]).run Tryz.prog w = .ok (.agg (cellsQ Bt.Bs.zero g)) w := by kernel_rfl
theorem wpList_bldGK (w : World) (hg : Region.wanted o (yielded ops a.tmps) = true) (y : Operand) (hop : o.op = Op.build 27 #[(1, y)]) {g : Int} (hy : a.eval y = .int .i64 g)
    (hK : wpList Tryz.prog ops Q rest (a.put o.dst (.agg (cellsQ Bt.Bs.zero g))) w) : wpList Tryz.prog ops Q (o :: rest) a w := by
  refine Bt.wpList_want hg fun K' hK' => ?_
  have hrun := bldGK w g
  unfold Oper.wp
  simp [execOp, hop, hy, hrun, Result.andThen]
  exact hK' _ _ hK
theorem bldB1 (w : World) : (Instr.build 25 #[(0, .int .u64 1)]).run Tryz.prog w = .ok (.agg (Bt.cellsB (bwK 1))) w := by kernel_rfl
theorem wpList_bldB1 (w : World) (hg : Region.wanted o (yielded ops a.tmps) = true) (y : Operand) (hop : o.op = Op.build 25 #[(0, y)]) (hy : a.eval y = .int .u64 1)
    (hK : wpList Tryz.prog ops Q rest (a.put o.dst (.agg (Bt.cellsB (bwK 1)))) w) : wpList Tryz.prog ops Q (o :: rest) a w := by
  refine Bt.wpList_want hg fun K' hK' => ?_
  have hrun := bldB1 w
  unfold Oper.wp
  simp [execOp, hop, hy, hrun, Result.andThen]
  exact hK' _ _ hK
theorem wpList_bldQK (w : World) (hg : Region.wanted o (yielded ops a.tmps) = true) (x y : Operand) (hop : o.op = Op.build 27 #[(0, x), (1, y)]) {r : List Nat} {g : Int} (hx : a.eval x = .agg (Bt.cellsB r)) (hy : a.eval y = .int .i64 g) (hr : r.length = 16)
    (hK : wpList Tryz.prog ops Q rest (a.put o.dst (.agg (cellsQ r g))) w) : wpList Tryz.prog ops Q (o :: rest) a w := by
  refine Bt.wpList_want hg fun K' hK' => ?_
  have hrun := buildQ w hr g
  unfold Oper.wp
  simp [execOp, hop, hx, hy, hrun, Result.andThen]
  exact hK' _ _ hK
end
theorem runK (w W : World) (hZ : Bt.Tz w) {b m : Nat} {v : Value} {t : List Nd} (h : OK1 w W b m v t) {s : SQ} (hr : Ok s.1) (bud : Int) {F : Fnd} (hF : runF t s bud = F) : Calls Tryz.prog 6 #[.pointer (some ⟨b, 0, none⟩), .agg (cellsQ s.1 s.2), .int .i64 bud] W fun e w' => ∃ sv, e = .returned (.tuple #[.agg (fndC F.pv sv F.vs), .int .i64 F.err]) ∧ (∃ kvs, Sts w' W.heap.size sv F.st kvs) ∧ (∃ v', OK1 w w' b m v' F.t) ∧ After W b m v F.t w' := by
  have := run_any W h.tb h.tz hr bud
  rw [hF] at this
  exact this.mono fun e w' ⟨sv, he, hk, ha⟩ => ⟨sv, he, hk, h.after hZ ha, ha⟩
set_option maxRecDepth 100000 in
set_option maxHeartbeats 4000000 in
theorem heads11_any (w : World) (hZ : Bt.Tz w) : Calls Tryz.prog 5 #[] w fun e w' => e = .returned (.bool true) ∧ Below w.heap.size w w' := by
  have HZ := show Hid (Bt.Tz w) from hZ
  have KF := show Hid (Calls Tryz.prog 11 #[.slice (some ⟨w.heap.size, 0, none⟩) 6 6] (w.alloc (Obj.cells (cellsOf kT6).toArray 54)) fun e w' => ∃ B M v, e = .returned (.tuple #[.pointer (some ⟨B, 0, none⟩), .int .i64 0]) ∧ OK1 w w' B M v kT6) from
    (from_any _ _ _ (k11rows w) kT6_good (by decide)).mono fun e w' h => by
      rw [h11fr] at h
      have hb : Below w.heap.size w w' := (below_alloc w _).trans (h.2.mono (below_alloc w _).size)
      rcases h.1 with ⟨_, B, M, v, he, hT, hge⟩ | ⟨h0, _⟩
      · exact ⟨B, M, v, he, hT, Bt.tz_block hZ hb, fun k hk => Nat.le_trans (by simp) (hge k hk), hb⟩
      · exact absurd rfl h0
  have KA := show Hid (∀ (W : World) (b m : Nat) (v : Value), OK1 w W b m v kT6 → Calls Tryz.prog 6 #[.pointer (some ⟨b, 0, none⟩), .agg (cellsQ Bt.Bs.zero 5), .int .i64 4] W fun e w' => ∃ sv, e = .returned (.tuple #[.agg (fndC false sv 4), .int .i64 0]) ∧ (∃ kvs, Sts w' W.heap.size sv [⟨(Bt.Bs.zero, 0), false, 14, 0, []⟩, ⟨(bwK 1, 2), false, 14, 0, []⟩, ⟨(Bt.Bs.zero, 4), false, 8, 4, [1]⟩, ⟨(Bt.Bs.zero, 5), false, 14, 0, [0, 2]⟩] kvs) ∧ (∃ v', OK1 w w' b m v' kT6) ∧ After W b m v kT6 w') from fun W b m v h => runK w W HZ.out h (s := (Bt.Bs.zero, 5)) Bt.Bs.zero_ok 4 h11a
  have KB := show Hid (∀ (W : World) (b m : Nat) (v : Value), OK1 w W b m v kT6 → Calls Tryz.prog 6 #[.pointer (some ⟨b, 0, none⟩), .agg (cellsQ Bt.Bs.zero 5), .int .i64 3] W fun e w' => ∃ sv, e = .returned (.tuple #[.agg (fndC false sv 0), .int .i64 110]) ∧ (∃ kvs, Sts w' W.heap.size sv [] kvs) ∧ (∃ v', OK1 w w' b m v' kT6) ∧ After W b m v kT6 w') from fun W b m v h => runK w W HZ.out h (s := (Bt.Bs.zero, 5)) Bt.Bs.zero_ok 3 h11b
  have KC := show Hid (∀ (W : World) (b m : Nat) (v : Value), OK1 w W b m v kT6 → Calls Tryz.prog 6 #[.pointer (some ⟨b, 0, none⟩), .agg (cellsQ (bwK 1) 3), .int .i64 9] W fun e w' => ∃ sv, e = .returned (.tuple #[.agg (fndC true sv 2), .int .i64 0]) ∧ (∃ kvs, Sts w' W.heap.size sv [⟨(bwK 1, 0), true, 2, 0, []⟩, ⟨(bwK 1, 3), true, 11, 3, [0]⟩] kvs) ∧ (∃ v', OK1 w w' b m v' kT6) ∧ After W b m v kT6 w') from fun W b m v h => runK w W HZ.out h (s := (bwK 1, 3)) (bwK_ok 1 (by decide)) 9 h11c
  have KI := show Hid (∀ (W : World) (u v : Value) (l : List Int), Bt.IsL W u l → Bt.IsL W v l → Calls Tryz.prog 12 #[u, v] W fun e w' => e = .returned (.bool true) ∧ Below W.heap.size W w') from fun W u v l h1 h2 => kints_any W u v l h1 h2
  clear hZ
  go_enter Tryz.func5, Tryz.ntmps5
  go_wp2_with fail
  refine KF.out.mono ?_
  rintro e w1 ⟨b, m, v, rfl, hO1⟩
  clear KF
  have H1 := show Hid _ from hO1
  clear hO1
  go_wp2_with (refine wpList_bldGK _ rfl _ rfl rfl ?_)
  refine Calls.mono (KA.out _ _ _ _ H1.out) ?_
  rintro e w2 ⟨sva, rfl, ⟨kvsa, hSa⟩, ⟨v2, hO2⟩, -⟩
  have H2 := show Hid (OK1 w w2 b m v2 kT6 ∧ Sts w2 w1.heap.size sva [⟨(Bt.Bs.zero, 0), false, 14, 0, []⟩, ⟨(bwK 1, 2), false, 14, 0, []⟩, ⟨(Bt.Bs.zero, 4), false, 8, 4, [1]⟩, ⟨(Bt.Bs.zero, 5), false, 14, 0, [0, 2]⟩] kvsa) from ⟨hO2, hSa⟩
  obtain ⟨pa, ca, rfl⟩ := hSa.form
  clear hSa hO2 H1 KA
  go_wp2_with (refine wpList_alloc 35 rfl _ zeroFnd rfl ?_)
  intro w3 b3 hn3
  go_wp2_with (refine wpList_st 35 rfl rfl _ _ rfl b3 rfl _ rfl _ _ hn3.blk (by rw [sizeF]; rfl) rfl (fndC_all ..) ?_)
  intro w4 hc4 hk4
  have hb4 : Below w2.heap.size w2 w4 := bel_kp hn3.bel hk4 hn3.ge
  have H4 := show Hid (OK1 w w4 b m v2 kT6 ∧ Sts w4 w1.heap.size (.slice pa 4 ca) [⟨(Bt.Bs.zero, 0), false, 14, 0, []⟩, ⟨(bwK 1, 2), false, 14, 0, []⟩, ⟨(Bt.Bs.zero, 4), false, 8, 4, [1]⟩, ⟨(Bt.Bs.zero, 5), false, 14, 0, [0, 2]⟩] kvsa ∧ Cl w4 b3 (fndC false (.slice pa 4 ca) 4) 35) from ⟨H2.out.1.later hb4, H2.out.2.later hb4, hc4⟩
  clear hn3 hc4 hk4 hb4 H2
  go_wp2_with (refine wpList_bldGK _ rfl _ rfl rfl ?_)
  refine Calls.mono (KB.out _ _ _ _ H4.out.1) ?_
  rintro e w5 ⟨svb, rfl, ⟨kvsb, hSb⟩, ⟨v5, hO5⟩, hA5⟩
  obtain ⟨pb, cb, rfl⟩ := hSb.form
  have H5 := show Hid (OK1 w w5 b m v5 kT6 ∧ Sts w5 w1.heap.size (.slice pa 4 ca) [⟨(Bt.Bs.zero, 0), false, 14, 0, []⟩, ⟨(bwK 1, 2), false, 14, 0, []⟩, ⟨(Bt.Bs.zero, 4), false, 8, 4, [1]⟩, ⟨(Bt.Bs.zero, 5), false, 14, 0, [0, 2]⟩] kvsa ∧ Cl w5 b3 (fndC false (.slice pa 4 ca) 4) 35) from ⟨hO5, H4.out.2.1.aft H4.out.1.tb hA5, H4.out.2.2.aft H4.out.1.tb (by decide) (by decide) hA5⟩
  clear hSb hO5 hA5 H4 KB
  go_wp2_with (refine wpList_alloc 35 rfl _ zeroFnd rfl ?_)
  intro w6 b5 hn6
  go_wp2_with (refine wpList_st 35 rfl rfl _ _ rfl b5 rfl _ rfl _ _ hn6.blk (by rw [sizeF]; rfl) rfl (fndC_all ..) ?_)
  intro w7 hc7 hk7
  have hb7 : Below w5.heap.size w5 w7 := bel_kp hn6.bel hk7 hn6.ge
  have H7 := show Hid (OK1 w w7 b m v5 kT6 ∧ Sts w7 w1.heap.size (.slice pa 4 ca) [⟨(Bt.Bs.zero, 0), false, 14, 0, []⟩, ⟨(bwK 1, 2), false, 14, 0, []⟩, ⟨(Bt.Bs.zero, 4), false, 8, 4, [1]⟩, ⟨(Bt.Bs.zero, 5), false, 14, 0, [0, 2]⟩] kvsa ∧ Cl w7 b3 (fndC false (.slice pa 4 ca) 4) 35) from ⟨H5.out.1.later hb7, H5.out.2.1.later hb7, H5.out.2.2.later hb7⟩
  clear hn6 hc7 hk7 hb7 H5
  go_wp2_with (first | (refine wpList_bldB1 _ rfl _ rfl rfl ?_) | (refine wpList_bldQK _ rfl _ _ rfl rfl rfl rfl ?_))
  refine Calls.mono (KC.out _ _ _ _ H7.out.1) ?_
  rintro e w8 ⟨svc, rfl, ⟨kvsc, hSc⟩, ⟨v8, hO8⟩, hA8⟩
  have H8 := show Hid (OK1 w w8 b m v8 kT6 ∧ Sts w8 w1.heap.size (.slice pa 4 ca) [⟨(Bt.Bs.zero, 0), false, 14, 0, []⟩, ⟨(bwK 1, 2), false, 14, 0, []⟩, ⟨(Bt.Bs.zero, 4), false, 8, 4, [1]⟩, ⟨(Bt.Bs.zero, 5), false, 14, 0, [0, 2]⟩] kvsa ∧ Cl w8 b3 (fndC false (.slice pa 4 ca) 4) 35 ∧ Sts w8 w7.heap.size svc [⟨(bwK 1, 0), true, 2, 0, []⟩, ⟨(bwK 1, 3), true, 11, 3, [0]⟩] kvsc) from ⟨hO8, H7.out.2.1.aft H7.out.1.tb hA8, H7.out.2.2.aft H7.out.1.tb (by decide) (by decide) hA8, hSc⟩
  obtain ⟨pc, cc, rfl⟩ := hSc.form
  clear hSc hO8 hA8 H7 KC
  go_wp2_with (refine wpList_alloc 35 rfl _ zeroFnd rfl ?_)
  intro w9 b7 hn9
  go_wp2_with (refine wpList_st 35 rfl rfl _ _ rfl b7 rfl _ rfl _ _ hn9.blk (by rw [sizeF]; rfl) rfl (fndC_all ..) ?_)
  intro w10 hc10 hk10
  have hb10 : Below w8.heap.size w8 w10 := bel_kp hn9.bel hk10 hn9.ge
  have hSa := H8.out.2.1.later hb10
  have hSc := H8.out.2.2.2.later hb10
  have hca := H8.out.2.2.1.later hb10
  have HB := show Hid (Below w.heap.size w w10) from (H8.out.1.later hb10).bel
  clear hn9 hk10 hb10 H8
  obtain ⟨ga, cap, hpa, hxa⟩ := hSa.at (by decide)
  obtain ⟨hpa, _, _⟩ := Value.slice.inj hpa
  subst hpa
  obtain ⟨gc, cap2, hpc, hxc⟩ := hSc.at (by decide)
  obtain ⟨hpc, _, _⟩ := Value.slice.inj hpc
  subst hpc
  obtain ⟨k2, ho2, hx2⟩ := hxa 2 _ rfl
  obtain ⟨k3, ho3, hx3⟩ := hxa 3 _ rfl
  obtain ⟨k1, ho1, hx1⟩ := hxc 1 _ rfl
  have a0 : w10.cell? ⟨b3, 0, none⟩ = some (.bool false) := hca.cell 0
  have a1 : w10.cell? ⟨b3, 1, none⟩ = some (.slice (some ⟨ga, 0, none⟩) 4 ca) := hca.cell 1
  have a2 : w10.cell? ⟨b3, 2, none⟩ = some (.int .i64 4) := hca.cell 2
  have d0 : w10.cell? ⟨b7, 0, none⟩ = some (.bool true) := hc10.cell 0
  have d1 : w10.cell? ⟨b7, 1, none⟩ = some (.slice (some ⟨gc, 0, none⟩) 2 cc) := hc10.cell 1
  have r2 : w10.cell? ⟨ga, 60, none⟩ = some (.int .i64 8) := (hx2 18 (by omega)).trans (stpL_ru (x := ⟨(Bt.Bs.zero, 4), false, 8, 4, [1]⟩) rfl k2)
  have q2 : w10.cell? ⟨ga, 62, none⟩ = some k2 := (hx2 20 (by omega)).trans (stpL_kd (x := ⟨(Bt.Bs.zero, 4), false, 8, 4, [1]⟩) rfl k2)
  have HX3 := show Hid (w10.cell? ⟨ga, 81, none⟩ = some (.int .i64 14) ∧ w10.cell? ⟨ga, 83, none⟩ = some k3) from ⟨(hx3 18 (by omega)).trans (stpL_ru (x := ⟨(Bt.Bs.zero, 5), false, 14, 0, [0, 2]⟩) rfl k3), (hx3 20 (by omega)).trans (stpL_kd (x := ⟨(Bt.Bs.zero, 5), false, 14, 0, [0, 2]⟩) rfl k3)⟩
  have HX1 := show Hid (w10.cell? ⟨gc, 39, none⟩ = some (.int .i64 11)) from (hx1 18 (by omega)).trans (stpL_ru (x := ⟨(bwK 1, 3), true, 11, 3, [0]⟩) rfl k1)
  have HK2 := show Hid (Bt.IsL w10 k2 [1]) from own_isK ho2
  have HK3 := show Hid (Bt.IsL w10 k3 [0, 2]) from own_isK ho3
  have HCS := show Hid (Cl w10 b3 (fndC false (.slice (some ⟨ga, 0, none⟩) 4 ca) 4) 35 ∧ Cl w10 b7 (fndC true (.slice (some ⟨gc, 0, none⟩) 2 cc) 2) 35) from ⟨hca, hc10⟩
  clear ho1 ho2 ho3 hx1 hx2 hx3 hxa hxc hSa hSc hca hc10
  go_wp2_with fail
  refine Calls.mono (KI.out _ _ _ _ (HK2.out.later (below_alloc w10 _)) (isL_new1 w10 1)) ?_
  rintro e w11 ⟨rfl, hb11⟩
  have hb11 : Below w10.heap.size w10 w11 := (below_alloc w10 _).trans (hb11.mono (below_alloc w10 _).size)
  have HL := show Hid (∀ {g j : Nat} {x : Value}, w10.cell? ⟨g, j, none⟩ = some x → w11.cell? ⟨g, j, none⟩ = some x) from fun {g j x} h => (hb11.cell (p := ⟨g, j, none⟩) (World.block_lt_of_cell? w10 _ h)).trans h
  have HB2 := show Hid (Below w.heap.size w w11) from HB.out.trans (hb11.mono HB.out.size)
  have HK3' := show Hid (Bt.IsL w11 k3 [0, 2]) from HK3.out.later hb11
  have HCS2 := show Hid (Cl w11 b3 (fndC false (.slice (some ⟨ga, 0, none⟩) 4 ca) 4) 35 ∧ Cl w11 b7 (fndC true (.slice (some ⟨gc, 0, none⟩) 2 cc) 2) 35) from ⟨HCS.out.1.later hb11, HCS.out.2.later hb11⟩
  have a1' : w11.cell? ⟨b3, 1, none⟩ = some (.slice (some ⟨ga, 0, none⟩) 4 ca) := HCS2.out.1.cell 1
  have r3 : w11.cell? ⟨ga, 81, none⟩ = some (.int .i64 14) := HL.out HX3.out.1
  have q3 : w11.cell? ⟨ga, 83, none⟩ = some k3 := HL.out HX3.out.2
  have HX1' := show Hid (w11.cell? ⟨gc, 39, none⟩ = some (.int .i64 11)) from HL.out HX1.out
  clear hb11 a0 a1 a2 d0 d1 r2 q2 HX3 HX1 HL HK2 HK3 HCS HB
  go_wp2_with fail
  refine Calls.mono (KI.out _ _ _ _ (HK3'.out.later (below_alloc w11 _)) (isL_new2 w11 0 2)) ?_
  rintro e w12 ⟨rfl, hb12⟩
  have hb12 : Below w11.heap.size w11 w12 := (below_alloc w11 _).trans (hb12.mono (below_alloc w11 _).size)
  have HB3 := show Hid (Below w.heap.size w w12) from HB2.out.trans (hb12.mono HB2.out.size)
  have d1' : w12.cell? ⟨b7, 1, none⟩ = some (.slice (some ⟨gc, 0, none⟩) 2 cc) := (HCS2.out.2.later hb12).cell 1
  have r1 : w12.cell? ⟨gc, 39, none⟩ = some (.int .i64 11) := (hb12.cell (p := ⟨gc, 39, none⟩) (World.block_lt_of_cell? w11 _ HX1'.out)).trans HX1'.out
  clear hb12 a1' r3 q3 HX1' HCS2 HB2 HK3'
  go_wp2_with fail
  go_ret
  exact ⟨rfl, HB3.out⟩
end Go.Proofs.YtkejippimkjjaaaGreatDoor
/-
  In a law of layer 9: the boxed sequent, the two tables. No condition.
-/
namespace Go.Proofs.YtkejippimkjjaaaGreatDoor
open Go.RowKit Go.Shelf Go.Maps
open Fm (Nd)
open Bt.Bs (Ok wd)
set_option linter.unusedSimpArgs false

structure LX (w w1 W : World) (b5 B M : Nat) (v : Value) (C : Nat) (u : Value) (t t2 : List Nd) (r : List Nat) (g : Int) : Prop where
  pr : Pair w1 W B M v C u t t2
  s : SeqAt W b5 r g
  b1 : Below w.heap.size w w1
theorem LX.bel {w w1 W : World} {b5 B M C : Nat} {v u : Value} {t t2 : List Nd} {r : List Nat} {g : Int} (h : LX w w1 W b5 B M v C u t t2 r g) : Below w.heap.size w W := h.b1.trans (h.pr.bel.mono h.b1.size)
theorem LX.later {w w1 W W' : World} {b5 B M C : Nat} {v u : Value} {t t2 : List Nd} {r : List Nat} {g : Int} (h : LX w w1 W b5 B M v C u t t2 r g) (hb : Below W.heap.size W W') : LX w w1 W' b5 B M v C u t t2 r g := ⟨h.pr.later hb, h.s.later hb h.s.lt, h.b1⟩
theorem LX.mk1 {w w1 W : World} {b5 B M C : Nat} {v u : Value} {t t2 : List Nd} {r : List Nat} {g : Int} (h : RS1 w w1 b5 r g) (hp : Pair w1 W B M v C u t t2) : LX w w1 W b5 B M v C u t t2 r g := ⟨hp, h.s.later hp.bel h.s.lt, h.bel⟩
end Go.Proofs.YtkejippimkjjaaaGreatDoor
