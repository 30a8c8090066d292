/-
  What the law's heads asks of layer 13. The tables of shapes and of the errors' type stand.
-/
import Derived.Test.YtkpbpecikibohaaDoorYInfer
import Derived.Test.YtkpbpecikibohaaDoorFFrom
namespace Go.Proofs.YtkpbpecikibohaaDoor.Ya
open Go.RowKit Go.Maps
open Fm (Nd)
open Ty (Tm An Hs env aheadF whF inF)
set_option linter.unusedSimpArgs false

def hT : List Nd := [⟨1, ⟨#[112]⟩, 0, 0⟩, ⟨1, ⟨#[113]⟩, 0, 0⟩, ⟨3, ⟨#[]⟩, 0, 1⟩, ⟨5, ⟨#[]⟩, 2, 0⟩, ⟨2, ⟨#[]⟩, 0, 0⟩]
def bX : ByteArray := ⟨#[120]⟩
def bY : ByteArray := ⟨#[121]⟩
def vT (s : ByteArray) : Tm := .mk 1 s Ty.e0 0 []
def oneT (k : Int) (y : Tm) : Tm := .mk k Ty.e0 Ty.e0 0 [y]
def lamT (y : Tm) : Tm := .mk 2 bX Ty.e0 0 [y]
theorem hT_fr : Fm.fr [] hT = (0, hT) := by decide +kernel
theorem h_a : whF hT [] (lamT (oneT 5 (vT bX))) 3 = ([], 0) := by decide +kernel
theorem h_b : whF hT [] (lamT (oneT 6 (vT bX))) 3 = ([0], 130) := by decide +kernel
theorem h_c : inF hT [(bX, 2)] (oneT 6 (vT bX)) = (1, 0) := by decide +kernel
theorem h_d : inF hT [] (vT bY) = (0, 131) := by decide +kernel
theorem h_e : inF hT [] (lamT (vT bX)) = (0, 132) := by decide +kernel
theorem h_f : whF hT [(bX, 4)] (oneT 10 (vT bX)) 1 = ([], 0) := by decide +kernel
theorem hT_good : ∀ n ∈ hT, Fm.good n := by
  intro n hn
  have h64 : ∀ x : Int, 0 ≤ x → x ≤ 1024 → Fm.i64 x := fun x h0 h1 => Fm.i64_small h0 h1
  simp only [hT, List.mem_cons, List.not_mem_nil, or_false] at hn
  rcases hn with rfl | rfl | rfl | rfl | rfl
  all_goals exact ⟨h64 _ (by decide) (by decide), by decide, h64 _ (by decide) (by decide), h64 _ (by decide) (by decide)⟩
theorem hT_rows (w : World) : IsR (w.alloc (Obj.cells (cellsOf hT).toArray 54)) (.slice (some ⟨w.heap.size, 0, none⟩) 5 5) hT := by
  refine ⟨_, 5, rfl, by decide, by decide, fun _ => ⟨w.heap.size, 0, rfl, fun k hk => ?_⟩⟩
  have hc : ∀ j, j < 4 → (w.alloc (Obj.cells (cellsOf hT).toArray 54)).cell? ⟨w.heap.size, 0 + k * 4 + j, none⟩ = (ndC hT[k])[j]? := fun j hj => by
    rw [cell_of_row _ _ _ _ _ _ (heap_alloc_new _ _), Nat.zero_add, ← cellsOf_at hT k j hk hj]
    simp
  exact ⟨hc 0 (by omega), hc 1 (by omega), hc 2 (by omega), hc 3 (by omega)⟩
theorem zeroTm (w : World) : (zeroValue 27).run Tryd.prog w = .ok (.agg #[.int .i64 0, .string ⟨#[]⟩, .string ⟨#[]⟩, .int .i64 0, .slice none 0 0]) w := by kernel_rfl
theorem sizeTm : (Tryd.prog.info? 27).map (·.size) = some 5 := by kernel_rfl
theorem tm_all (k : Int) (n o : ByteArray) (f : Int) (p : Option Addr) (l c : Nat) : (#[.int .i64 k, .string n, .string o, .int .i64 f, .slice p l c] : Array Value).all (·.oneCell') = true := by simp [Value.oneCell']
theorem Kid.var (w : World) (L : Nat) (s : ByteArray) : Kid w L (vT s) (.slice none 0 0) := by
  unfold vT
  rw [Kid]
  exact Or.inl ⟨rfl, none, 0, rfl⟩
theorem Kid.one {w : World} {L q : Nat} {k : Int} {n o : ByteArray} {f : Int} {y : Tm} {kv : Value} (h : Cl w q #[.int .i64 y.k, .string y.n, .string y.o, .int .i64 y.f, kv] 27) (hq : q < L) (hy : Kid w L y kv) : Kid w L (.mk k n o f [y]) (.slice (some ⟨q, 0, none⟩) 1 1) := by
  rw [Kid]
  refine Or.inr ⟨q, 0, 1, hq, rfl, ?_⟩
  rw [KidL]
  exact ⟨⟨kv, ⟨h.cell 0, h.cell 1, h.cell 2, h.cell 3, h.cell 4⟩, hy⟩, by rw [KidL]; trivial⟩
theorem bsT (w : World) (k : Int) (n o : ByteArray) (f : Int) (p : Option Addr) (l c : Nat) : (Instr.buildSlice 25 1 #[(0, .agg #[.int .i64 k, .string n, .string o, .int .i64 f, .slice p l c])]).run Tryd.prog w = .ok (.slice (some ⟨w.heap.size, 0, none⟩) 1 1) (w.alloc (.cells #[.int .i64 k, .string n, .string o, .int .i64 f, .slice p l c] 27)) := by kernel_rfl
theorem bsH (w : World) (s : ByteArray) (f : Int) : (Instr.buildSlice 23 1 #[(0, .agg #[.string s, .int .i64 f])]).run Tryd.prog w = .ok (.slice (some ⟨w.heap.size, 0, none⟩) 1 1) (w.alloc (.cells #[.string s, .int .i64 f] 29)) := by kernel_rfl
section
variable {ops : Array Oper} {rest : List Oper} {o : Oper} {a : Act} {Q : Exit → Act → World → Prop} {w : World}
theorem wpList_bsT (hg : o.guard = none) (x : Operand) (hop : o.op = Op.buildSlice 25 1 #[(0, x)]) (k : Int) (n m : ByteArray) (f : Int) (p : Option Addr) (l c : Nat) (hx : a.eval x = .agg #[.int .i64 k, .string n, .string m, .int .i64 f, .slice p l c])
    (hK : ∀ w' q, New w w' q #[.int .i64 k, .string n, .string m, .int .i64 f, .slice p l c] 27 → wpList Tryd.prog ops Q rest (a.put o.dst (.slice (some ⟨q, 0, none⟩) 1 1)) w') : wpList Tryd.prog ops Q (o :: rest) a w := by
  refine wpList_plain hg fun K' hK' => ?_
  have hrun := bsT w k n m f p l c
  unfold Oper.wp
  simp [execOp, hop, hx, hrun, Result.andThen]
  exact hK' _ _ (hK _ _ (new_alloc w _ _))
theorem wpList_bsH (hg : o.guard = none) (x : Operand) (hop : o.op = Op.buildSlice 23 1 #[(0, x)]) (n : ByteArray) (f : Int) (hx : a.eval x = .agg #[.string n, .int .i64 f])
    (hK : ∀ w' q, New w w' q #[.string n, .int .i64 f] 29 → wpList Tryd.prog ops Q rest (a.put o.dst (.slice (some ⟨q, 0, none⟩) 1 1)) w') : wpList Tryd.prog ops Q (o :: rest) a w := by
  refine wpList_plain hg fun K' hK' => ?_
  have hrun := bsH w n f
  unfold Oper.wp
  simp [execOp, hop, hx, hrun, Result.andThen]
  exact hK' _ _ (hK _ _ (new_alloc w _ _))
end
theorem results_tm {fn : Func} {p : Tmp} (h : fn.results = #[.cell p 27]) (tmps : Array Value) (w : World) (b : Nat) {x0 x1 x2 x3 x4 : Value} (hp : tmps.getD p undef = .pointer (some ⟨b, 0, none⟩)) (hc : Cl w b #[x0, x1, x2, x3, x4] 27) :
    (results fn tmps).run Tryd.prog w = .ok (.agg #[x0, x1, x2, x3, x4]) w := by
  have hp2 : tmps[p]?.getD undef = .pointer (some ⟨b, 0, none⟩) := by simpa using hp
  simp [results, h, hp2, asAddr, run_loadVar_row w b 27 27 _ (0, 0) _ hc Tryd.underlying27 rfl sizeTm, Result.andThen]
set_option maxRecDepth 100000 in
theorem v_any (w : World) (s : ByteArray) : Calls Tryd.prog 13 #[.string s] w fun e w' => e = .returned (.agg #[.int .i64 1, .string s, .string Ty.e0, .int .i64 0, .slice none 0 0]) ∧ Below w.heap.size w w' := by
  go_enter Tryd.func13, Tryd.ntmps13
  go_wp2_with (refine wpList_alloc 27 rfl _ zeroTm rfl ?_)
  intro w1 b1 hn1
  go_wp2_with (refine wpList_st 27 rfl rfl _ _ rfl b1 rfl _ rfl _ _ hn1.blk sizeTm rfl (tm_all ..) ?_)
  intro w2 hc2 hk2
  have HB := show Hid _ from bel_kp hn1.bel hk2 hn1.ge
  have HC := show Hid _ from hc2
  clear hn1 hc2 hk2
  go_wp2_with fail
  refine bodyPost_ret (results_tm rfl _ _ b1 rfl HC.out) rfl ?_
  exact ⟨rfl, HB.out⟩
theorem isH_nil (w : World) (L : Nat) : IsH w L (.slice none 0 0) [] := ⟨none, 0, rfl, by decide, fun k hk => absurd hk (by simp)⟩
theorem isH_one {w : World} {L q : Nat} {s : ByteArray} {f : Int} (h : Cl w q #[.string s, .int .i64 f] 29) (hq : q < L) : IsH w L (.slice (some ⟨q, 0, none⟩) 1 1) [(s, f)] := by
  refine ⟨_, 1, rfl, by simp, fun k hk => ?_⟩
  obtain rfl : k = 0 := by simpa using hk
  exact ⟨q, 0, hq, rfl, h.cell 0, h.cell 1⟩
theorem gt_v (s : ByteArray) (hs : s.size ≤ 140737488351232) : Gt (vT s) := by
  unfold vT
  rw [Gt, GtL]
  exact ⟨⟨by decide, by decide⟩, hs, by decide, ⟨by decide, by decide⟩, by simp, trivial⟩
theorem gt_one {k : Int} {n o : ByteArray} {y : Tm} (hk : Fm.i64 k) (hn : n.size ≤ 140737488351232) (ho : o.size ≤ 140737488351232) (hy : Gt y) : Gt (.mk k n o 0 [y]) := by
  rw [Gt, GtL, GtL]
  exact ⟨hk, hn, ho, ⟨by decide, by decide⟩, by simp, hy, trivial⟩
theorem s_small {k : Int} (h0 : 0 ≤ k) (h1 : k ≤ 1024) : Fm.i64 k := Fm.i64_small h0 h1
set_option maxRecDepth 100000 in
set_option maxHeartbeats 4000000 in
theorem intsE_any (w : World) (u v : Value) (l : List Int) (hu : InI w u l) (hv : InI w v l) : Calls Tryd.prog 15 #[u, v] w fun e w' => e = .returned (.bool true) ∧ Below w.heap.size w w' := by
  obtain ⟨p, c, rfl, hlen, hcell⟩ := hu
  obtain ⟨q, d, rfl, -, hcell2⟩ := hv
  have HC := show Hid (∀ W, Below w.heap.size w W → ∀ k (hk : k < l.length), ∃ b, p = some ⟨b, 0, none⟩ ∧ W.cell? ⟨b, k, none⟩ = some (.int .i64 l[k])) from fun W hW k hk => by
    obtain ⟨b, hp, hc⟩ := hcell k hk
    exact ⟨b, hp, (hW.cell (p := ⟨b, _, none⟩) (World.block_lt_of_cell? w _ hc)).trans hc⟩
  have HD := show Hid (∀ W, Below w.heap.size w W → ∀ k (hk : k < l.length), ∃ b, q = some ⟨b, 0, none⟩ ∧ W.cell? ⟨b, k, none⟩ = some (.int .i64 l[k])) from fun W hW k hk => by
    obtain ⟨b, hp, hc⟩ := hcell2 k hk
    exact ⟨b, hp, (hW.cell (p := ⟨b, _, none⟩) (World.block_lt_of_cell? w _ hc)).trans hc⟩
  clear hcell hcell2
  go_enter Tryd.func15, Tryd.ntmps15
  go_wp2
  go_loopw [5] (fun n wr => ∃ k : Nat, k ≤ l.length ∧ n = .int .i64 (k : Int) ∧ Hid (Below w.heap.size w wr)) (fun n _ => l.length - (intOf n).toNat)
  case atStart => exact ⟨0, by omega, rfl, Below.refl _ _⟩
  case round =>
    obtain ⟨k, hk, rfl, HQ⟩ := hrel
    by_cases hlt : k < l.length
    · obtain ⟨b1, rfl, hc⟩ := HC.out wr HQ.out k hlt
      obtain ⟨b2, rfl, hd⟩ := HD.out wr HQ.out k hlt
      have hltI : (k : Int) < (l.length : Int) := by omega
      have HZ := show Hid (Below w.heap.size w wr.drew) from HQ.out.drew
      clear HC HD HQ
      generalize l[k] = n at *
      go_wp2
      go_region
      clear hc hd
      go_wp2
      go_roundw
      case rel => exact ⟨k + 1, by omega, by go_num, HZ.out⟩
      case measure => (simp only [intOf]; omega)
    · have hge : ¬ (k : Int) < (l.length : Int) := by omega
      clear HC HD
      go_wp2
      go_ret
      exact ⟨rfl, HQ.out⟩
structure Hd (w W : World) (b m : Nat) (v : Value) (b3 q3 b4 q4 : Nat) : Prop where
  tb : Tb W b m v hT
  sd : Std W
  be : Below w.heap.size w W
  c3 : Cl W b3 #[.int .i64 5, .string Ty.e0, .string Ty.e0, .int .i64 0, .slice (some ⟨q3, 0, none⟩) 1 1] 27
  k3 : Kid W W.heap.size (oneT 5 (vT bX)) (.slice (some ⟨q3, 0, none⟩) 1 1)
  c4 : Cl W b4 #[.int .i64 6, .string Ty.e0, .string Ty.e0, .int .i64 0, .slice (some ⟨q4, 0, none⟩) 1 1] 27
  k4 : Kid W W.heap.size (oneT 6 (vT bX)) (.slice (some ⟨q4, 0, none⟩) 1 1)
theorem Hd.later {w W W' : World} {b m : Nat} {v : Value} {b3 q3 b4 q4 : Nat} (h : Hd w W b m v b3 q3 b4 q4) (hb : Below W.heap.size W W') : Hd w W' b m v b3 q3 b4 q4 :=
  ⟨h.tb.later hb, h.sd.later hb, h.be.trans (hb.mono h.be.size), h.c3.later hb, h.k3.up hb, h.c4.later hb, h.k4.up hb⟩
set_option maxRecDepth 100000 in
set_option maxHeartbeats 8000000 in
theorem heads13_any (w : World) (hS : Std w) : Calls Tryd.prog 7 #[] w fun e w' => e = .returned (.bool true) ∧ Below w.heap.size w w' := by
  have KF := show Hid (Calls Tryd.prog 12 #[.slice (some ⟨w.heap.size, 0, none⟩) 5 5] (w.alloc (Obj.cells (cellsOf hT).toArray 54)) fun e w' => ∃ B M v, e = .returned (.tuple #[.pointer (some ⟨B, 0, none⟩), .int .i64 0]) ∧ Tb w' B M v hT ∧ Std w' ∧ Below w.heap.size w w') from
    (from_any _ _ _ (hT_rows w) hT_good (by decide)).mono fun e w' h => by
      rw [hT_fr] at h
      have hb : Below w.heap.size w w' := (below_alloc w _).trans (h.2.mono (below_alloc w _).size)
      rcases h.1 with ⟨_, B, M, v, he, hT, hge⟩ | ⟨h0, _⟩
      · exact ⟨B, M, v, he, hT, hS.later hb, hb⟩
      · exact absurd rfl h0
  have KV := show Hid _ from v_any
  clear hS
  go_enter Tryd.func7, Tryd.ntmps7
  go_wp2_with fail
  refine KF.out.mono ?_
  rintro e w1 ⟨b, m, v, rfl, hT1, hS1, hB1⟩
  have H1 := show Hid _ from And.intro hT1 (And.intro hS1 hB1)
  clear KF hT1 hS1 hB1
  go_wp2_with fail
  refine Calls.mono (KV.out w1 bX) ?_
  rintro e w2 ⟨rfl, hb2⟩
  have HB2 := show Hid (Below w1.heap.size w1 w2) from hb2
  clear hb2
  go_wp2_with (refine wpList_bsT rfl _ rfl _ _ _ _ _ _ _ rfl ?_)
  intro w3 q3 hn3
  have HN3 := show Hid _ from hn3
  clear hn3
  go_wp2_with (refine wpList_alloc 27 rfl _ zeroTm rfl ?_)
  intro w4 b3 hn4
  go_wp2_with (refine wpList_st 27 rfl rfl _ _ rfl b3 rfl _ rfl _ _ hn4.blk sizeTm rfl (tm_all ..) ?_)
  intro w5 hc5 hk5
  have HB5 := show Hid (Below w3.heap.size w3 w5) from bel_kp hn4.bel hk5 hn4.ge
  have HC5 := show Hid (Cl w5 b3 #[.int .i64 5, .string Ty.e0, .string Ty.e0, .int .i64 0, .slice (some ⟨q3, 0, none⟩) 1 1] 27) from hc5
  clear hn4 hc5 hk5
  go_wp2_with fail
  refine Calls.mono (KV.out w5 bX) ?_
  rintro e w6 ⟨rfl, hb6⟩
  have HB6 := show Hid (Below w5.heap.size w5 w6) from hb6
  clear hb6
  go_wp2_with (refine wpList_bsT rfl _ rfl _ _ _ _ _ _ _ rfl ?_)
  intro w7 q4 hn7
  have HN7 := show Hid _ from hn7
  clear hn7
  go_wp2_with (refine wpList_alloc 27 rfl _ zeroTm rfl ?_)
  intro w8 b4 hn8
  go_wp2_with (refine wpList_st 27 rfl rfl _ _ rfl b4 rfl _ rfl _ _ hn8.blk sizeTm rfl (tm_all ..) ?_)
  intro w9 hc9 hk9
  have HH9 := show Hid (Hd w w9 b m v b3 q3 b4 q4) from by
    have b79 : Below w7.heap.size w7 w9 := bel_kp hn8.bel hk9 hn8.ge
    have b69 : Below w6.heap.size w6 w9 := HN7.out.bel.trans (b79.mono HN7.out.bel.size)
    have b59 : Below w5.heap.size w5 w9 := HB6.out.trans (b69.mono HB6.out.size)
    have b39 : Below w3.heap.size w3 w9 := HB5.out.trans (b59.mono HB5.out.size)
    have b29 : Below w2.heap.size w2 w9 := HN3.out.bel.trans (b39.mono HN3.out.bel.size)
    have b19 : Below w1.heap.size w1 w9 := HB2.out.trans (b29.mono HB2.out.size)
    have c3 : Cl w9 q3 _ _ := Cl.later (show Cl w3 q3 #[.int .i64 1, .string bX, .string Ty.e0, .int .i64 0, .slice none 0 0] 27 from HN3.out.blk) b39
    have c4 : Cl w9 q4 _ _ := Cl.later (show Cl w7 q4 #[.int .i64 1, .string bX, .string Ty.e0, .int .i64 0, .slice none 0 0] 27 from HN7.out.blk) b79
    exact ⟨H1.out.1.later b19, H1.out.2.1.later b19, H1.out.2.2.trans (b19.mono H1.out.2.2.size), Cl.later HC5.out b59, Kid.one (y := vT bX) c3 c3.lt (Kid.var _ _ _), hc9, Kid.one (y := vT bX) c4 c4.lt (Kid.var _ _ _)⟩
  clear hn8 hc9 hk9 HB2 HN3 HB5 HC5 HB6 HN7 H1
  go_wp2_with (first | (refine wpList_ldw 27 _ rfl b3 rfl _ _ HH9.out.c3 rfl Tryd.underlying27 sizeTm rfl ?_) | (refine wpList_bsT rfl _ rfl _ _ _ _ _ _ _ rfl ?_))
  intro w10 q10 hn10
  have HH10 := show Hid _ from HH9.out.later hn10.bel
  have KQ := show Hid _ from check_any w10 (hs := []) (x := (lamT (oneT 5 (vT bX)))) (sv := .slice (some ⟨q10, 0, none⟩) 1 1) HH10.out.tb (isH_nil _ _) (fun _ h => by cases h) (Kid.one (y := oneT 5 (vT bX)) hn10.blk (Cl.lt hn10.blk) HH10.out.k3) (gt_one (s_small (by decide) (by decide)) (by decide) (by decide) (gt_one (s_small (by decide) (by decide)) (by decide) (by decide) (gt_v bX (by decide)))) HH10.out.sd 3
  clear hn10 HH9
  rw [h_a] at KQ
  go_wp2_with fail
  refine Calls.mono KQ.out ?_
  rintro e w11 ⟨rfl, hb11⟩
  have HH11 := show Hid _ from HH10.out.later hb11
  clear hb11 KQ HH10
  go_wp2_with (first | (refine wpList_ldw 27 _ rfl b4 rfl _ _ HH11.out.c4 rfl Tryd.underlying27 sizeTm rfl ?_) | (refine wpList_bsT rfl _ rfl _ _ _ _ _ _ _ rfl ?_))
  intro w12 q12 hn12
  have HH12 := show Hid _ from HH11.out.later hn12.bel
  have KQ := show Hid _ from where_any w12 (hs := []) (x := (lamT (oneT 6 (vT bX)))) (sv := .slice (some ⟨q12, 0, none⟩) 1 1) HH12.out.tb (isH_nil _ _) (fun _ h => by cases h) (Kid.one (y := oneT 6 (vT bX)) hn12.blk (Cl.lt hn12.blk) HH12.out.k4) (gt_one (s_small (by decide) (by decide)) (by decide) (by decide) (gt_one (s_small (by decide) (by decide)) (by decide) (by decide) (gt_v bX (by decide)))) HH12.out.sd 3
  clear hn12 HH11
  rw [h_b] at KQ
  go_wp2_with fail
  refine Calls.mono KQ.out ?_
  rintro e w13 ⟨yv, rfl, ho13, hb13⟩
  have HH13 := show Hid _ from HH12.out.later hb13
  have HW13 := show Hid (InI w13 yv [0]) from own_in ho13 (by simp)
  obtain ⟨yp, yc, rfl⟩ := own_form ho13
  clear hb13 KQ HH12 ho13
  go_wp2_with (refine wpList_bsH rfl _ rfl _ _ rfl ?_)
  intro w14 q14 hn14
  have HH14 := show Hid _ from HH13.out.later hn14.bel
  have HW14 := show Hid _ from InI.later HW13.out hn14.bel
  have KQ := show Hid _ from infer_any w14 (hs := [(bX, 2)]) (x := oneT 6 (vT bX)) HH14.out.tb (isH_one hn14.blk (Cl.lt hn14.blk)) (fun h hh => by simp at hh; subst hh; exact ⟨by decide, s_small (by decide) (by decide)⟩) HH14.out.k4 (gt_one (s_small (by decide) (by decide)) (by decide) (by decide) (gt_v bX (by decide))) HH14.out.sd
  rw [h_c] at KQ
  clear hn14 HH13 HW13
  go_wp2_with (refine wpList_ldw 27 _ rfl b4 rfl _ _ HH14.out.c4 rfl Tryd.underlying27 sizeTm rfl ?_)
  refine Calls.mono KQ.out ?_
  rintro e w15 ⟨rfl, hb15⟩
  have HH15 := show Hid _ from HH14.out.later hb15
  have HW15 := show Hid _ from InI.later HW14.out hb15
  clear hb15 KQ HH14 HW14
  go_wp2_with fail
  refine Calls.mono (KV.out w15 bY) ?_
  rintro e w16 ⟨rfl, hb16⟩
  have HH16 := show Hid _ from HH15.out.later hb16
  have HW16 := show Hid _ from InI.later HW15.out hb16
  have KQ := show Hid _ from infer_any w16 (hs := []) (x := vT bY) HH16.out.tb (isH_nil _ _) (fun _ h => by cases h) (Kid.var _ _ _) (gt_v bY (by decide)) HH16.out.sd
  rw [h_d] at KQ
  clear hb16 HH15 HW15
  go_wp2_with fail
  refine Calls.mono KQ.out ?_
  rintro e w17 ⟨rfl, hb17⟩
  have HH17 := show Hid _ from HH16.out.later hb17
  have HW17 := show Hid _ from InI.later HW16.out hb17
  clear hb17 KQ HH16 HW16
  go_wp2_with fail
  refine Calls.mono (KV.out w17 bX) ?_
  rintro e w18 ⟨rfl, hb18⟩
  have HH18 := show Hid _ from HH17.out.later hb18
  have HW18 := show Hid _ from InI.later HW17.out hb18
  clear hb18 HH17 HW17
  go_wp2_with (refine wpList_bsT rfl _ rfl _ _ _ _ _ _ _ rfl ?_)
  intro w19 q19 hn19
  have HH19 := show Hid _ from HH18.out.later hn19.bel
  have HW19 := show Hid _ from InI.later HW18.out hn19.bel
  have KQ := show Hid _ from infer_any w19 (hs := []) (x := lamT (vT bX)) HH19.out.tb (isH_nil _ _) (fun _ h => by cases h) (Kid.one (y := vT bX) hn19.blk (Cl.lt hn19.blk) (Kid.var _ _ _)) (gt_one (s_small (by decide) (by decide)) (by decide) (by decide) (gt_v bX (by decide))) HH19.out.sd
  rw [h_e] at KQ
  clear hn19 HH18 HW18
  go_wp2_with fail
  refine Calls.mono KQ.out ?_
  rintro e w20 ⟨rfl, hb20⟩
  have HH20 := show Hid _ from HH19.out.later hb20
  have HW20 := show Hid _ from InI.later HW19.out hb20
  clear hb20 KQ HH19 HW19
  go_wp2_with (refine wpList_bsH rfl _ rfl _ _ rfl ?_)
  intro w21 q21 hn21
  have HH21 := show Hid _ from HH20.out.later hn21.bel
  have HW21 := show Hid _ from InI.later HW20.out hn21.bel
  have HQ21 := show Hid (Cl w21 q21 #[.string bX, .int .i64 4] 29) from hn21.blk
  clear hn21 HH20 HW20
  go_wp2_with fail
  refine Calls.mono (KV.out w21 bX) ?_
  rintro e w22 ⟨rfl, hb22⟩
  have HH22 := show Hid _ from HH21.out.later hb22
  have HW22 := show Hid _ from InI.later HW21.out hb22
  have HQ22 := show Hid (Cl w22 q21 #[.string bX, .int .i64 4] 29) from Cl.later HQ21.out hb22
  clear hb22 HH21 HW21 HQ21
  go_wp2_with (refine wpList_bsT rfl _ rfl _ _ _ _ _ _ _ rfl ?_)
  intro w23 q23 hn23
  have HH23 := show Hid _ from HH22.out.later hn23.bel
  have HW23 := show Hid _ from InI.later HW22.out hn23.bel
  have hq23 : Cl w23 q21 #[.string bX, .int .i64 4] 29 := Cl.later HQ22.out hn23.bel
  have KQ := show Hid _ from check_any w23 (hs := [(bX, 4)]) (x := oneT 10 (vT bX)) HH23.out.tb (isH_one hq23 hq23.lt) (fun h hh => by simp at hh; subst hh; exact ⟨by decide, s_small (by decide) (by decide)⟩) (Kid.one (y := vT bX) hn23.blk (Cl.lt hn23.blk) (Kid.var _ _ _)) (gt_one (s_small (by decide) (by decide)) (by decide) (by decide) (gt_v bX (by decide))) HH23.out.sd 1
  rw [h_f] at KQ
  clear hn23 HH22 HW22 HQ22 hq23
  go_wp2_with fail
  refine Calls.mono KQ.out ?_
  rintro e w24 ⟨rfl, hb24⟩
  have HH24 := show Hid _ from HH23.out.later hb24
  have HW24 := show Hid _ from InI.later HW23.out hb24
  clear hb24 KQ HH23 HW23
  go_wp2_with fail
  have hb25 : Below w24.heap.size w24 (w24.alloc (Obj.cells #[Value.int IntKind.i64 0] 3)) := below_alloc _ _
  refine Calls.mono (intsE_any _ (.slice yp 1 yc) (.slice (some ⟨w24.heap.size, 0, none⟩) 1 1) [0] (InI.later HW24.out hb25) ⟨_, 1, rfl, by simp, fun k hk => ⟨w24.heap.size, rfl, ?_⟩⟩) ?_
  · obtain rfl : k = 0 := by simpa using hk
    exact Cl.cell (show Cl _ _ _ _ from (new_alloc w24 #[.int .i64 0] 3).blk) 0
  rintro e w26 ⟨rfl, hb26⟩
  have HB := show Hid (Below w.heap.size w w26) from (HH24.out.later hb25).be.trans (hb26.mono (HH24.out.later hb25).be.size)
  clear hb25 hb26 HH24 HW24 KV
  go_wp2_with fail
  go_ret
  exact ⟨rfl, HB.out⟩
end Go.Proofs.YtkpbpecikibohaaDoor.Ya
