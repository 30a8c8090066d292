/-
  The law SearchLists, as the program walks it: true for every row of formulas, every sequent, every budget. Where the table of TrailingZeros stands as the program's text lays it. (Written by genklst.py.)
-/
import Derived.Test.YtkejippimkjjaaaDoorKG9
import Derived.Test.YtkejippimkjjaaaDoorKG4
import Derived.Test.YtkejippimkjjaaaDoorRG1
namespace Go.Proofs.YtkejippimkjjaaaDoor
open Go.RowKit Go.Shelf Go.Maps
open Fm (Nd)
open Bt.Bs (Ok wd)
set_option linter.unusedSimpArgs false

structure Lsd (F : Fnd) (s : SQ) (bud : Int) : Prop where
  pos : 0 < F.st.length
  vs : F.vs = F.st.length
  bud : (F.st.length : Int) ≤ bud
  last : ∃ y, F.st[F.st.length - 1]? = some y ∧ y.s = s ∧ y.pv = F.pv
  kid : ∀ (i : Nat) (x : Stp), F.st[i]? = some x → ∀ j ∈ x.kd, j < i ∧ ∃ y, F.st[j]? = some y ∧ y.pv = x.pv
  one : ∀ (i j : Nat) (x y : Stp), F.st[i]? = some x → F.st[j]? = some y → x.s = y.s → i = j
  ok : ∀ x ∈ F.st, x.s.1.length = 16
  sml : F.st.length ≤ 4096
theorem run_lists {t : List Nd} (hO : Fm.Ok t) {s : SQ} (hr : Ok s.1) (bud : Int) : ((runF t s bud).err ≠ 0 → (runF t s bud).st = [] ∧ (runF t s bud).vs = 0 ∧ (runF t s bud).pv = false) ∧ ((runF t s bud).err = 0 → Lsd (runF t s bud) s bud) := by
  unfold runF
  split
  · rename_i h
    exact ⟨fun _ => ⟨rfl, rfl, rfl⟩, fun h0 => absurd h0 h⟩
  · rename_i hz
    split
    · exact ⟨fun _ => ⟨rfl, rfl, rfl⟩, fun h0 => absurd h0 (by simp)⟩
    · rename_i hb
      have hq : rgt t.length s := by
        have hz : refZ t s.1 s.2 = 0 := by simpa using hz
        rw [ref_right hr] at hz
        refine rgt_iff.1 ?_
        cases h : rightQ t s.1 s.2
        · rw [h, if_neg Bool.false_ne_true] at hz
          exact absurd hz (by decide)
        · rfl
      have hp := dec_post bud.toNat bud.toNat ⟨t, [], 0⟩ s ⟨hO, fun x hx => (by cases hx), fun i j x y h => (by simp at h), fun i x h => (by simp at h)⟩ (Nat.zero_le _) hq hr
      have hlast : (decF bud.toNat bud.toNat ⟨t, [], 0⟩ s).2.1 = 0 → (decF bud.toNat bud.toNat ⟨t, [], 0⟩ s).2.2 + 1 = (decF bud.toNat bud.toNat ⟨t, [], 0⟩ s).1.st.length := by
        obtain ⟨k, hk⟩ : ∃ k, bud.toNat = k + 1 := ⟨bud.toNat - 1, by omega⟩
        rw [hk]
        intro h0
        unfold decF at h0 ⊢
        simp only [look_nil] at h0 ⊢
        rw [if_neg (by omega)] at h0 ⊢
        by_cases he : (entF (decF (k + 1) k) ⟨t, [], 0 + 1⟩ s).2.1 ≠ 0
        · rw [if_pos he] at h0
          exact absurd h0 he
        · rw [if_neg he]
          simp
      split
      · rename_i he
        exact ⟨fun _ => ⟨rfl, rfl, rfl⟩, fun h0 => absurd h0 he⟩
      · rename_i he
        have he : (decF bud.toNat bud.toNat ⟨t, [], 0⟩ s).2.1 = 0 := by simpa using he
        have hl := hlast he
        obtain ⟨y, hy, hys, htr⟩ := hp.at he
        have hct := hp.ct.2 he
        have hvs := hp.vs.2
        have hgd := hp.gd
        generalize decF bud.toNat bud.toNat ⟨t, [], 0⟩ s = q at *
        refine ⟨fun h => absurd rfl h, fun _ => ⟨?_, ?_, ?_, ⟨y, ?_, hys, ?_⟩, fun i x hx j hj => ?_, hgd.one, fun x hx => (hgd.tru x hx).ok.1, ?_⟩⟩
        · simp only; omega
        · simp at hct; simp only; omega
        · simp at hct; simp only; omega
        · show q.1.st[q.1.st.length - 1]? = some y
          rw [← hl, Nat.add_sub_cancel]
          exact hy
        · show y.pv = _
          rw [getD_some hy]
        · obtain ⟨y2, hy2, hp2⟩ := hgd.kid i x hx j hj
          have hji := (List.getElem?_eq_some_iff.1 hy2).1
          rw [List.getElem?_take] at hy2
          split at hy2
          · rename_i hji2
            exact ⟨hji2, y2, hy2, hp2⟩
          · cases hy2
        · simp at hct; simp only; omega
structure LL (w W : World) (b4 b10 base : Nat) (sv : Value) (F : Fnd) (kvs : List Value) (s : SQ) : Prop where
  s4 : SeqAt W b4 s.1 s.2
  c10 : Cl W b10 (fndC F.pv sv F.vs) 35
  sts : Sts W base sv F.st kvs
  bel : Below w.heap.size w W
theorem LL.drew {w W : World} {b4 b10 base : Nat} {sv : Value} {F : Fnd} {kvs : List Value} {s : SQ} (h : LL w W b4 b10 base sv F kvs s) : LL w W.drew b4 b10 base sv F kvs s := ⟨h.s4, h.c10, h.sts.later (Below.refl _ _).drew, h.bel.drew⟩
theorem Sts.seq {w : World} {base : Nat} {sv : Value} {st : List Stp} {kvs : List Value} (h : Sts w base sv st kvs) {g : Nat} {p : Option Addr} {n c : Nat} (hv : sv = .slice p n c) (hp : p = some ⟨g, 0, none⟩) {i : Nat} {x : Stp} (hx : st[i]? = some x) : SeqIn w g (i * 21) x.s.1 x.s.2 := fun j v hj => by
  have hpos : 0 < st.length := Nat.lt_of_le_of_lt (Nat.zero_le _) (List.getElem?_eq_some_iff.1 hx).1
  obtain ⟨g2, cap, hs, hc⟩ := h.at hpos
  rw [hv, hp] at hs
  obtain ⟨h1, _, _⟩ := Value.slice.inj hs
  injection h1 with h1
  injection h1 with h1
  subst h1
  obtain ⟨kv, _, hcell⟩ := hc i x hx
  have hl := (h.ok x (List.mem_of_getElem? hx)).1
  have hlb : (Bt.listB x.s.1).length = 16 := listB_ln hl
  have hj17 : j < 17 := by
    have := (List.getElem?_eq_some_iff.1 hj).1
    simp [hlb] at this
    omega
  rw [hcell j (by omega)]
  unfold stpL
  rw [show Bt.listB x.s.1 ++ [.int .i64 x.s.2, .bool x.pv, .int .i64 x.ru, .int .i64 x.mn, kv] = (Bt.listB x.s.1 ++ [.int .i64 x.s.2]) ++ [.bool x.pv, .int .i64 x.ru, .int .i64 x.mn, kv] from by simp]
  rw [List.getElem?_append_left (by simp [hlb]; omega)]
  exact hj
theorem LL.step {w W : World} {b4 b10 base g n c : Nat} {F : Fnd} {kvs : List Value} {s : SQ} (h : LL w W b4 b10 base (.slice (some ⟨g, 0, none⟩) n c) F kvs s) {i : Nat} {x : Stp} (hx : F.st[i]? = some x) : W.cell? ⟨g, i * 21 + 17, none⟩ = some (.bool x.pv) ∧ SeqIn W g (i * 21) x.s.1 x.s.2 ∧ ∃ p cc, kvs[i]? = some (.slice p x.kd.length cc) ∧ W.cell? ⟨g, i * 21 + 20, none⟩ = some (.slice p x.kd.length cc) ∧ ∀ k (hk : k < x.kd.length), ∃ b, p = some ⟨b, 0, none⟩ ∧ W.cell? ⟨b, k, none⟩ = some (.int .i64 ((x.kd[k] : Nat) : Int)) := by
  have hi := (List.getElem?_eq_some_iff.1 hx).1
  have hki : i < kvs.length := by rw [h.sts.len]; exact hi
  obtain ⟨g1, cap, hs1, hpv⟩ := h.sts.pv hx
  have hg : g1 = g := by
    have := (Value.slice.inj hs1).1
    injection this with this
    injection this with this
    exact this.symm
  rw [hg] at hpv
  have ho := h.sts.kid i x _ hx (List.getElem?_eq_getElem hki)
  have hkd : W.cell? ⟨g, i * 21 + 20, none⟩ = some kvs[i] := by
    rcases h.sts.row.2 with ⟨h1, _⟩ | ⟨g2, cap2, cur, h1, _, hh, h2, h3, h4, h5⟩
    · cases h1
    · have hg2 : g2 = g := by
        have := (Value.slice.inj h1).1
        injection this with this
        injection this with this
        exact this.symm
      have e := stsL_at F.st kvs (fun y hy => (h.sts.ok y hy).1) i 20 x kvs[i] hx (List.getElem?_eq_getElem hki) (by omega)
      rw [← h5, List.getElem?_take, if_pos (by omega), stpL_kd (h.sts.ok x (List.mem_of_getElem? hx)).1] at e
      rw [← hg2, cell_of_row W g2 _ cur _ _ hh]
      simpa using e
  refine ⟨hpv, h.sts.seq rfl rfl hx, ?_⟩
  rcases ho.2 with ⟨h1, h0⟩ | ⟨b, cap2, cur, h1, _, hh, h2, h3, h4, h5⟩
  · refine ⟨none, 0, ?_, ?_, fun k hk => by omega⟩
    · rw [List.getElem?_eq_getElem hki, h1, h0]
    · rw [hkd, h1, h0]
  · refine ⟨some ⟨b, 0, none⟩, cap2, ?_, ?_, fun k hk => ⟨b, rfl, ?_⟩⟩
    · rw [List.getElem?_eq_getElem hki, h1]
    · rw [hkd, h1]
    · have e : (kdV x.kd)[k]? = some (.int .i64 ((x.kd[k] : Nat) : Int)) := by simp [kdV, hk]
      rw [← h5, List.getElem?_take, if_pos (by omega)] at e
      rw [cell_of_row W b k cur _ _ hh]
      simpa using e
theorem wrap_i64n {m : Nat} (h : m < 9223372036854775808) : IntKind.i64.wrap (m : Int) = (m : Int) := by
  rw [IntKind.wrap_i64]
  omega
theorem relEqQ {ops : Array Oper} {Q : Exit → Act → World → Prop} {i : Nat} {o : Oper} {a : Act} {w : World} {K : Act → World → Prop} (ho : ops[i]? = some o) (hw : Region.wanted o (yielded ops a.tmps) = true) (x y : Operand) (t : TypeId) (hop : o.op = Op.binOp .eql 27 x y t) {p q : List Nat} {g h : Int} (hx : a.eval x = .agg (cellsQ p g)) (hy : a.eval y = .agg (cellsQ q h)) (hp : p.length = 16) (hq : q.length = 16) (hK : K (a.put o.dst (.bool (sameQ p g q h))) w) : wpOp Tryd.prog ops Q i K a w := by
  have hrun := (eql_seq w hp hq g h).1
  refine relValW ho _ w hw ?_ hK
  simp only [execOp, hop, hx, hy]
  simp [eqGuard, guardQ, hrun, Result.andThen]
theorem relNeQ {ops : Array Oper} {Q : Exit → Act → World → Prop} {i : Nat} {o : Oper} {a : Act} {w : World} {K : Act → World → Prop} (ho : ops[i]? = some o) (hw : Region.wanted o (yielded ops a.tmps) = true) (x y : Operand) (t : TypeId) (hop : o.op = Op.binOp .neq 27 x y t) {p q : List Nat} {g h : Int} (hx : a.eval x = .agg (cellsQ p g)) (hy : a.eval y = .agg (cellsQ q h)) (hp : p.length = 16) (hq : q.length = 16) (hK : K (a.put o.dst (.bool (!sameQ p g q h))) w) : wpOp Tryd.prog ops Q i K a w := by
  have hrun := (eql_seq w hp hq g h).2
  refine relValW ho _ w hw ?_ hK
  simp only [execOp, hop, hx, hy]
  simp [eqGuard, guardQ, hrun, Result.andThen]
theorem sameQ_ne {x y : SQ} (h : x ≠ y) : sameQ x.1 x.2 y.1 y.2 = false := by
  unfold sameQ
  cases h1 : decide (x.1 = y.1)
  · rfl
  · cases h2 : (x.2 == y.2)
    · rfl
    · exact absurd (Prod.ext (of_decide_eq_true h1) (by simpa using h2)) h
set_option maxRecDepth 100000 in
set_option maxHeartbeats 8000000 in
theorem searchLists_any (w : World) (rv : Value) (rs : List Nd) (hR : IsR w rv rs) (hg : ∀ n ∈ rs, Fm.good n) (hl : rs.length * 40 ≤ 140737488351232) (hv : rv = .slice none 0 0 ∨ ∃ a n c, rv = .slice (some a) n c)
    {s : SQ} (hr : Ok s.1) (bud : Int) (hZ : Bt.Tz w) :
    Calls Tryd.prog 3 #[rv, .agg (cellsQ s.1 s.2), .int .i64 bud] w fun e w' => e = .returned (.bool true) ∧ Below w.heap.size w w' := by
  have hr16 := hr.1
  have KT := show Hid (∀ w', Below w.heap.size w w' → Calls Tryd.prog 8 #[rv] w' fun e w'' => IsBoth w' w'' e (Fm.fr [] rs)) from fun w' hb => both_any w' rv rs (hR.later hb) hg hl hv
  have KH := show Hid (∀ w' : World, Below w.heap.size w w' → Calls Tryd.prog 9 #[] w' fun e w'' => e = .returned (.bool true) ∧ Below w'.heap.size w' w'') from fun w' hb => heads11_any w' (Bt.tz_block hZ hb)
  have HZ := show Hid (∀ W : World, Below w.heap.size w W → Bt.Tz W) from fun W hb => Bt.tz_block hZ hb
  have HOK := show Hid (Ok s.1) from hr
  have hsl : ∃ p n cc, rv = .slice p n cc := by
    rcases hv with rfl | ⟨a, n, cc, rfl⟩
    · exact ⟨_, _, _, rfl⟩
    · exact ⟨_, _, _, rfl⟩
  obtain ⟨p, n, cc, rfl⟩ := hsl
  generalize Fm.fr [] rs = ans at *
  clear hR hg hl hv hZ hr
  go_enter Tryd.func3, Tryd.ntmps3
  go_wp2_with (refine wpList_box 27 _ rfl _ rfl rfl ?_)
  intro w1 b4 hn1
  have H1 := show Hid (RS1 w w1 b4 s.1 s.2) from ⟨hn1.blk, hn1.bel, hn1.ge⟩
  clear hn1
  go_wp2_with fail
  refine Calls.mono (KT.out _ H1.out.bel) ?_
  rintro e w2 (⟨_, B, M, v, C, u, rfl, hP⟩ | ⟨_, rfl, hb⟩)
  · have H2 := show Hid (LX w w1 w2 b4 B M v C u ans.2 ans.2 s.1 s.2) from LX.mk1 H1.out hP
    clear hP H1 KT
    generalize ans.2 = t at *
    have KR := show Hid _ from run_any w2 H2.out.pr.tb (HZ.out _ H2.out.bel) HOK.out bud
    have HRL := show Hid (((runF t s bud).err ≠ 0 → (runF t s bud).st = [] ∧ (runF t s bud).vs = 0 ∧ (runF t s bud).pv = false) ∧ ((runF t s bud).err = 0 → Lsd (runF t s bud) s bud)) from run_lists H2.out.pr.tb.ok HOK.out bud
    generalize runF t s bud = F at *
    go_wp2_with (refine wpList_ldQQ _ _ rfl b4 rfl H2.out.s hr16 rfl ?_)
    refine Calls.mono KR.out ?_
    rintro e w3 ⟨sv, rfl, ⟨kvs, hS3⟩, hA3⟩
    have H3 := show Hid (SeqAt w3 b4 s.1 s.2 ∧ Sts w3 w2.heap.size sv F.st kvs ∧ Below w.heap.size w w3) from (by
      obtain ⟨v4, hP4⟩ := H2.out.pr.stepT hA3
      exact ⟨Cl.aft H2.out.s H2.out.pr.tb (by decide) (by decide) hA3, hS3, H2.out.b1.trans (hP4.bel.mono H2.out.b1.size)⟩)
    obtain ⟨sp, sc, rfl⟩ := hS3.form
    clear hA3 hS3 H2 KR
    go_wp2_with (refine wpList_alloc 35 rfl _ zeroFnd rfl ?_)
    intro w4 b10 hn4
    go_wp2_with (refine wpList_st 35 rfl rfl _ _ rfl b10 rfl _ rfl _ _ hn4.blk (by rw [sizeF]; rfl) rfl (fndC_all ..) ?_)
    intro w5 hc5 hk5
    have hb5 : Below w3.heap.size w3 w5 := bel_kp hn4.bel hk5 hn4.ge
    have H5 := show Hid (LL w w5 b4 b10 w2.heap.size (.slice sp F.st.length sc) F kvs s) from ⟨H3.out.1.later hb5 H3.out.1.lt, hc5, H3.out.2.1.later hb5, H3.out.2.2.trans (hb5.mono H3.out.2.2.size)⟩
    clear hn4 hc5 hk5 hb5 H3
    generalize w2.heap.size = base at *
    have c1 : w5.cell? ⟨b10, 1, none⟩ = some (.slice sp F.st.length sc) := H5.out.c10.cell 1
    by_cases he : F.err = 0
    · have heb : (F.err != 0) = false := by rw [he]; rfl
      have HL := show Hid (Lsd F s bud) from HRL.out.2 he
      obtain ⟨n, hn⟩ : ∃ n : Nat, n = F.st.length := ⟨_, rfl⟩
      obtain ⟨g, hgs⟩ : ∃ g, sp = some ⟨g, 0, none⟩ := by
        have hpos := HL.out.pos
        rcases H5.out.sts.row.2 with ⟨_, h0⟩ | ⟨g, cap, cur, h1, _⟩
        · omega
        · exact ⟨g, (Value.slice.inj h1).1⟩
      subst hgs
      have HN := show Hid (n = F.st.length) from hn
      rw [← hn] at H5 c1
      clear HRL hn
      have hnp : 0 < n := by rw [HN.out]; exact HL.out.pos
      have hn4 : n ≤ 4096 := by rw [HN.out]; exact HL.out.sml
      obtain ⟨m, hm⟩ : ∃ m, n = m + 1 := ⟨n - 1, by omega⟩
      have HMX := show Hid (n = m + 1) from hm
      have HST := show Hid (w5.drew.cell? ⟨g, m * 21 + 17, none⟩ = some (.bool F.pv) ∧ SeqIn w5.drew g (m * 21) s.1 s.2) from (by
        obtain ⟨y, hy, hys, hyp⟩ := HL.out.last
        rw [← HN.out, hm, Nat.add_sub_cancel] at hy
        obtain ⟨h1, h2, _⟩ := H5.out.drew.step hy
        rw [hyp] at h1
        rw [hys] at h2
        exact ⟨h1, h2⟩)
      clear hm
      go_wp2_with fail
      refine wp_region_one (by kernel_rfl) 35 [some 55, some 56, some 57, some 58, some 59, some 60, some 61, some 62, some 63, some 64, some 65, some 66, some 67, some 68, some 69, some 70, some 71, some 72, some 73, some 74, some 75, some 76, some 77, some 78, some 79, some 80, some 81, some 82, some 83, some 84, some 85, some 86, some 87, some 88, some 89, some 90] [[], [0], [1], [2], [2], [4, 2], [3, 5, 2], [2, 6], [7], [8], [8], [9, 10, 8], [8, 11], [12], [13], [14, 13], [13], [16, 13], [15, 17, 13], [18, 13], [19, 13], [13], [20, 21, 13], [13, 22], [23], [24], [25, 24], [24], [27, 24], [26, 28, 24], [29, 24], [30, 24], [24], [32, 24], [31, 33, 24], [24, 34]] [[], [0], [1, 0], [2, 1, 0], [2, 1, 0], [4, 2, 1, 0], [3, 2, 1, 0, 5, 4], [2, 1, 0, 6, 3, 5, 4], [7, 2, 1, 0, 6, 3, 5, 4], [8, 7, 2, 1, 0, 6, 3, 5, 4], [8, 7, 2, 1, 0, 6, 3, 5, 4], [9, 8, 7, 2, 1, 0, 6, 3, 5, 4, 10], [8, 7, 2, 1, 0, 6, 3, 5, 4, 11, 9, 10], [12, 8, 7, 2, 1, 0, 6, 3, 5, 4, 11, 9, 10], [13, 12, 8, 7, 2, 1, 0, 6, 3, 5, 4, 11, 9, 10], [14, 13, 12, 8, 7, 2, 1, 0, 6, 3, 5, 4, 11, 9, 10], [13, 12, 8, 7, 2, 1, 0, 6, 3, 5, 4, 11, 9, 10], [16, 13, 12, 8, 7, 2, 1, 0, 6, 3, 5, 4, 11, 9, 10], [15, 14, 13, 12, 8, 7, 2, 1, 0, 6, 3, 5, 4, 11, 9, 10, 17, 16], [18, 15, 14, 13, 12, 8, 7, 2, 1, 0, 6, 3, 5, 4, 11, 9, 10, 17, 16], [19, 18, 15, 14, 13, 12, 8, 7, 2, 1, 0, 6, 3, 5, 4, 11, 9, 10, 17, 16], [13, 12, 8, 7, 2, 1, 0, 6, 3, 5, 4, 11, 9, 10], [20, 19, 18, 15, 14, 13, 12, 8, 7, 2, 1, 0, 6, 3, 5, 4, 11, 9, 10, 17, 16, 21], [13, 12, 8, 7, 2, 1, 0, 6, 3, 5, 4, 11, 9, 10, 22, 20, 19, 18, 15, 14, 17, 16, 21], [23, 13, 12, 8, 7, 2, 1, 0, 6, 3, 5, 4, 11, 9, 10, 22, 20, 19, 18, 15, 14, 17, 16, 21], [24, 23, 13, 12, 8, 7, 2, 1, 0, 6, 3, 5, 4, 11, 9, 10, 22, 20, 19, 18, 15, 14, 17, 16, 21], [25, 24, 23, 13, 12, 8, 7, 2, 1, 0, 6, 3, 5, 4, 11, 9, 10, 22, 20, 19, 18, 15, 14, 17, 16, 21], [24, 23, 13, 12, 8, 7, 2, 1, 0, 6, 3, 5, 4, 11, 9, 10, 22, 20, 19, 18, 15, 14, 17, 16, 21], [27, 24, 23, 13, 12, 8, 7, 2, 1, 0, 6, 3, 5, 4, 11, 9, 10, 22, 20, 19, 18, 15, 14, 17, 16, 21], [26, 25, 24, 23, 13, 12, 8, 7, 2, 1, 0, 6, 3, 5, 4, 11, 9, 10, 22, 20, 19, 18, 15, 14, 17, 16, 21, 28, 27], [29, 26, 25, 24, 23, 13, 12, 8, 7, 2, 1, 0, 6, 3, 5, 4, 11, 9, 10, 22, 20, 19, 18, 15, 14, 17, 16, 21, 28, 27], [30, 29, 26, 25, 24, 23, 13, 12, 8, 7, 2, 1, 0, 6, 3, 5, 4, 11, 9, 10, 22, 20, 19, 18, 15, 14, 17, 16, 21, 28, 27], [24, 23, 13, 12, 8, 7, 2, 1, 0, 6, 3, 5, 4, 11, 9, 10, 22, 20, 19, 18, 15, 14, 17, 16, 21], [32, 24, 23, 13, 12, 8, 7, 2, 1, 0, 6, 3, 5, 4, 11, 9, 10, 22, 20, 19, 18, 15, 14, 17, 16, 21], [31, 30, 29, 26, 25, 24, 23, 13, 12, 8, 7, 2, 1, 0, 6, 3, 5, 4, 11, 9, 10, 22, 20, 19, 18, 15, 14, 17, 16, 21, 28, 27, 33, 32], [24, 23, 13, 12, 8, 7, 2, 1, 0, 6, 3, 5, 4, 11, 9, 10, 22, 20, 19, 18, 15, 14, 17, 16, 21, 34, 31, 30, 29, 26, 25, 28, 27, 33, 32]] (by kernel_rfl) (by decide) (fun ii vv w1 => match ii with | 0 => vv = .int .i64 (n : Int) | 1 => vv = .bool false | 2 => vv = .bool false | 3 => vv = .int .i64 (n : Int) | 4 => vv = .pointer (some ⟨b10, 2, none⟩) | 5 => vv = .int .i64 (n : Int) | 6 => vv = .bool false | 7 => vv = .bool false | 8 => vv = .bool false | 9 => vv = .int .i64 (n : Int) | 10 => vv = .int .i64 bud | 11 => vv = .bool false | 12 => vv = .bool false | 13 => vv = .bool false | 14 => vv = .pointer (some ⟨b10, 1, none⟩) | 15 => vv = .slice (some ⟨g, 0, none⟩) n sc | 16 => vv = .int .i64 (n : Int) | 17 => vv = .int .i64 ((m : Nat) : Int) | 18 => vv = .pointer (some ⟨g, m * 21, none⟩) | 19 => vv = .pointer (some ⟨g, m * 21, none⟩) | 20 => vv = .agg (cellsQ s.1 s.2) | 21 => vv = .agg (cellsQ s.1 s.2) | 22 => vv = .bool false | 23 => vv = .bool false | 24 => vv = .bool false | 25 => vv = .pointer (some ⟨b10, 1, none⟩) | 26 => vv = .slice (some ⟨g, 0, none⟩) n sc | 27 => vv = .int .i64 (n : Int) | 28 => vv = .int .i64 ((m : Nat) : Int) | 29 => vv = .pointer (some ⟨g, m * 21, none⟩) | 30 => vv = .pointer (some ⟨g, m * 21 + 17, none⟩) | 31 => vv = .bool F.pv | 32 => vv = .pointer (some ⟨b10, 0, none⟩) | 33 => vv = .bool F.pv | 34 => vv = .bool false | 35 => vv = .bool false ∧ w1 = w5.drew | _ => True) ?hfree (allLt 36 ?steps) ?fin
      case hfree =>
        intro j v w1 w2 hj hn h
        match j, h, hj, hn with
        | 0, h, _, _ => exact h
        | 1, h, _, _ => exact h
        | 2, h, _, _ => exact h
        | 3, h, _, _ => exact h
        | 4, h, _, _ => exact h
        | 5, h, _, _ => exact h
        | 6, h, _, _ => exact h
        | 7, h, _, _ => exact h
        | 8, h, _, _ => exact h
        | 9, h, _, _ => exact h
        | 10, h, _, _ => exact h
        | 11, h, _, _ => exact h
        | 12, h, _, _ => exact h
        | 13, h, _, _ => exact h
        | 14, h, _, _ => exact h
        | 15, h, _, _ => exact h
        | 16, h, _, _ => exact h
        | 17, h, _, _ => exact h
        | 18, h, _, _ => exact h
        | 19, h, _, _ => exact h
        | 20, h, _, _ => exact h
        | 21, h, _, _ => exact h
        | 22, h, _, _ => exact h
        | 23, h, _, _ => exact h
        | 24, h, _, _ => exact h
        | 25, h, _, _ => exact h
        | 26, h, _, _ => exact h
        | 27, h, _, _ => exact h
        | 28, h, _, _ => exact h
        | 29, h, _, _ => exact h
        | 30, h, _, _ => exact h
        | 31, h, _, _ => exact h
        | 32, h, _, _ => exact h
        | 33, h, _, _ => exact h
        | 34, h, _, _ => exact h
        | 35, _, hj, _ => exact absurd rfl hj
        | _ + 36, _, _, _ => trivial
      case steps =>
        refine ⟨⟨⟨⟨⟨⟨⟨⟨⟨⟨⟨⟨⟨⟨⟨⟨⟨⟨⟨⟨⟨⟨⟨⟨⟨⟨⟨⟨⟨⟨⟨⟨⟨⟨⟨⟨trivial, ?s0⟩, ?s1⟩, ?s2⟩, ?s3⟩, ?s4⟩, ?s5⟩, ?s6⟩, ?s7⟩, ?s8⟩, ?s9⟩, ?s10⟩, ?s11⟩, ?s12⟩, ?s13⟩, ?s14⟩, ?s15⟩, ?s16⟩, ?s17⟩, ?s18⟩, ?s19⟩, ?s20⟩, ?s21⟩, ?s22⟩, ?s23⟩, ?s24⟩, ?s25⟩, ?s26⟩, ?s27⟩, ?s28⟩, ?s29⟩, ?s30⟩, ?s31⟩, ?s32⟩, ?s33⟩, ?s34⟩, ?s35⟩
        case s0 =>
          intro a w1 hw hO hN
          obtain rfl : w1 = w5.drew := hw (by decide)
          have o12 : a.tmps[12]? = some (.int .i64 (n : Int)) := (hO.out 12 (by decide)).trans rfl
          exact relVal rfl (.int .i64 (n : Int)) _ rfl (by go_simp) ⟨_, rfl, rfl, fun _ => rfl⟩
        case s1 =>
          intro a w1 hw hO hN
          obtain rfl : w1 = w5.drew := hw (by decide)
          obtain ⟨v0, g0, r0⟩ := hN 0 (by decide)
          have g0 : a.tmps[55]? = some v0 := g0
          have e0 : v0 = .int .i64 (n : Int) := r0
          rw [e0] at g0
          have hne : ¬ n = 0 := by omega
          exact relVal rfl (.bool false) _ rfl (by go_simp) ⟨_, rfl, rfl, fun _ => rfl⟩
        case s2 =>
          intro a w1 hw hO hN
          obtain rfl : w1 = w5.drew := hw (by decide)
          obtain ⟨v1, g1, r1⟩ := hN 1 (by decide)
          have g1 : a.tmps[56]? = some v1 := g1
          have e1 : v1 = .bool false := r1
          rw [e1] at g1
          exact relVal rfl (.bool false) _ rfl (by go_simp) ⟨_, rfl, rfl, fun _ => rfl⟩
        case s3 =>
          intro a w1 hw hO hN
          obtain rfl : w1 = w5.drew := hw (by decide)
          obtain ⟨v2, g2, r2⟩ := hN 2 (by decide)
          have g2 : a.tmps[57]? = some v2 := g2
          have e2 : v2 = .bool false := r2
          rw [e2] at g2
          have o12 : a.tmps[12]? = some (.int .i64 (n : Int)) := (hO.out 12 (by decide)).trans rfl
          exact relValW rfl (.int .i64 (n : Int)) _ ((wanted_is (b := false) (want := false) rfl rfl g2).trans rfl) (by go_simp) ⟨_, rfl, rfl, fun _ => rfl⟩
        case s4 =>
          intro a w1 hw hO hN
          obtain rfl : w1 = w5.drew := hw (by decide)
          obtain ⟨v2, g2, r2⟩ := hN 2 (by decide)
          have g2 : a.tmps[57]? = some v2 := g2
          have e2 : v2 = .bool false := r2
          rw [e2] at g2
          have o10 : a.tmps[10]? = some (.pointer (some ⟨b10, 0, none⟩)) := (hO.out 10 (by decide)).trans rfl
          exact relValW rfl (.pointer (some ⟨b10, 2, none⟩)) _ ((wanted_is (b := false) (want := false) rfl rfl g2).trans rfl) (by go_simp) ⟨_, rfl, rfl, fun _ => rfl⟩
        case s5 =>
          intro a w1 hw hO hN
          obtain rfl : w1 = w5.drew := hw (by decide)
          obtain ⟨v4, g4, r4⟩ := hN 4 (by decide)
          have g4 : a.tmps[59]? = some v4 := g4
          have e4 : v4 = .pointer (some ⟨b10, 2, none⟩) := r4
          rw [e4] at g4
          obtain ⟨v2, g2, r2⟩ := hN 2 (by decide)
          have g2 : a.tmps[57]? = some v2 := g2
          have e2 : v2 = .bool false := r2
          rw [e2] at g2
          have hc : w5.drew.cell? ⟨b10, 2, none⟩ = some (.int .i64 (n : Int)) := by
            have h := H5.out.drew.c10.cell 2
            rw [h]
            show some (Value.int .i64 (F.vs : Int)) = _
            rw [HL.out.vs, ← HN.out]
          exact relValW rfl (.int .i64 (n : Int)) _ ((wanted_is (b := false) (want := false) rfl rfl g2).trans rfl) (by go_simp) ⟨_, rfl, rfl, fun _ => rfl⟩
        case s6 =>
          intro a w1 hw hO hN
          obtain rfl : w1 = w5.drew := hw (by decide)
          obtain ⟨v3, g3, r3⟩ := hN 3 (by decide)
          have g3 : a.tmps[58]? = some v3 := g3
          have e3 : v3 = .int .i64 (n : Int) := r3
          rw [e3] at g3
          obtain ⟨v5, g5, r5⟩ := hN 5 (by decide)
          have g5 : a.tmps[60]? = some v5 := g5
          have e5 : v5 = .int .i64 (n : Int) := r5
          rw [e5] at g5
          obtain ⟨v2, g2, r2⟩ := hN 2 (by decide)
          have g2 : a.tmps[57]? = some v2 := g2
          have e2 : v2 = .bool false := r2
          rw [e2] at g2
          exact relValW rfl (.bool false) _ ((wanted_is (b := false) (want := false) rfl rfl g2).trans rfl) (by go_simp) ⟨_, rfl, rfl, fun _ => rfl⟩
        case s7 =>
          intro a w1 hw hO hN
          obtain rfl : w1 = w5.drew := hw (by decide)
          obtain ⟨v2, g2, r2⟩ := hN 2 (by decide)
          have g2 : a.tmps[57]? = some v2 := g2
          have e2 : v2 = .bool false := r2
          rw [e2] at g2
          obtain ⟨v6, g6, r6⟩ := hN 6 (by decide)
          have g6 : a.tmps[61]? = some v6 := g6
          have e6 : v6 = .bool false := r6
          rw [e6] at g6
          exact relVal rfl (.bool false) _ rfl (by go_simp) ⟨_, rfl, rfl, fun _ => rfl⟩
        case s8 =>
          intro a w1 hw hO hN
          obtain rfl : w1 = w5.drew := hw (by decide)
          obtain ⟨v7, g7, r7⟩ := hN 7 (by decide)
          have g7 : a.tmps[62]? = some v7 := g7
          have e7 : v7 = .bool false := r7
          rw [e7] at g7
          exact relVal rfl (.bool false) _ rfl (by go_simp) ⟨_, rfl, rfl, fun _ => rfl⟩
        case s9 =>
          intro a w1 hw hO hN
          obtain rfl : w1 = w5.drew := hw (by decide)
          obtain ⟨v8, g8, r8⟩ := hN 8 (by decide)
          have g8 : a.tmps[63]? = some v8 := g8
          have e8 : v8 = .bool false := r8
          rw [e8] at g8
          have o12 : a.tmps[12]? = some (.int .i64 (n : Int)) := (hO.out 12 (by decide)).trans rfl
          exact relValW rfl (.int .i64 (n : Int)) _ ((wanted_is (b := false) (want := false) rfl rfl g8).trans rfl) (by go_simp) ⟨_, rfl, rfl, fun _ => rfl⟩
        case s10 =>
          intro a w1 hw hO hN
          obtain rfl : w1 = w5.drew := hw (by decide)
          obtain ⟨v8, g8, r8⟩ := hN 8 (by decide)
          have g8 : a.tmps[63]? = some v8 := g8
          have e8 : v8 = .bool false := r8
          rw [e8] at g8
          have o2 : a.tmps[2]? = some (.int .i64 bud) := (hO.out 2 (by decide)).trans rfl
          exact relValW rfl (.int .i64 bud) _ ((wanted_is (b := false) (want := false) rfl rfl g8).trans rfl) (by go_simp) ⟨_, rfl, rfl, fun _ => rfl⟩
        case s11 =>
          intro a w1 hw hO hN
          obtain rfl : w1 = w5.drew := hw (by decide)
          obtain ⟨v9, g9, r9⟩ := hN 9 (by decide)
          have g9 : a.tmps[64]? = some v9 := g9
          have e9 : v9 = .int .i64 (n : Int) := r9
          rw [e9] at g9
          obtain ⟨v10, g10, r10⟩ := hN 10 (by decide)
          have g10 : a.tmps[65]? = some v10 := g10
          have e10 : v10 = .int .i64 bud := r10
          rw [e10] at g10
          obtain ⟨v8, g8, r8⟩ := hN 8 (by decide)
          have g8 : a.tmps[63]? = some v8 := g8
          have e8 : v8 = .bool false := r8
          rw [e8] at g8
          have hle : ¬ bud < (n : Int) := by have := HL.out.bud; rw [← HN.out] at this; omega
          exact relValW rfl (.bool false) _ ((wanted_is (b := false) (want := false) rfl rfl g8).trans rfl) (by go_simp) ⟨_, rfl, rfl, fun _ => rfl⟩
        case s12 =>
          intro a w1 hw hO hN
          obtain rfl : w1 = w5.drew := hw (by decide)
          obtain ⟨v8, g8, r8⟩ := hN 8 (by decide)
          have g8 : a.tmps[63]? = some v8 := g8
          have e8 : v8 = .bool false := r8
          rw [e8] at g8
          obtain ⟨v11, g11, r11⟩ := hN 11 (by decide)
          have g11 : a.tmps[66]? = some v11 := g11
          have e11 : v11 = .bool false := r11
          rw [e11] at g11
          exact relVal rfl (.bool false) _ rfl (by go_simp) ⟨_, rfl, rfl, fun _ => rfl⟩
        case s13 =>
          intro a w1 hw hO hN
          obtain rfl : w1 = w5.drew := hw (by decide)
          obtain ⟨v12, g12, r12⟩ := hN 12 (by decide)
          have g12 : a.tmps[67]? = some v12 := g12
          have e12 : v12 = .bool false := r12
          rw [e12] at g12
          exact relVal rfl (.bool false) _ rfl (by go_simp) ⟨_, rfl, rfl, fun _ => rfl⟩
        case s14 =>
          intro a w1 hw hO hN
          obtain rfl : w1 = w5.drew := hw (by decide)
          obtain ⟨v13, g13, r13⟩ := hN 13 (by decide)
          have g13 : a.tmps[68]? = some v13 := g13
          have e13 : v13 = .bool false := r13
          rw [e13] at g13
          have o10 : a.tmps[10]? = some (.pointer (some ⟨b10, 0, none⟩)) := (hO.out 10 (by decide)).trans rfl
          exact relValW rfl (.pointer (some ⟨b10, 1, none⟩)) _ ((wanted_is (b := false) (want := false) rfl rfl g13).trans rfl) (by go_simp) ⟨_, rfl, rfl, fun _ => rfl⟩
        case s15 =>
          intro a w1 hw hO hN
          obtain rfl : w1 = w5.drew := hw (by decide)
          obtain ⟨v14, g14, r14⟩ := hN 14 (by decide)
          have g14 : a.tmps[69]? = some v14 := g14
          have e14 : v14 = .pointer (some ⟨b10, 1, none⟩) := r14
          rw [e14] at g14
          obtain ⟨v13, g13, r13⟩ := hN 13 (by decide)
          have g13 : a.tmps[68]? = some v13 := g13
          have e13 : v13 = .bool false := r13
          rw [e13] at g13
          have hc : w5.drew.cell? ⟨b10, 1, none⟩ = some (.slice (some ⟨g, 0, none⟩) n sc) := c1
          exact relValW rfl (.slice (some ⟨g, 0, none⟩) n sc) _ ((wanted_is (b := false) (want := false) rfl rfl g13).trans rfl) (by go_simp) ⟨_, rfl, rfl, fun _ => rfl⟩
        case s16 =>
          intro a w1 hw hO hN
          obtain rfl : w1 = w5.drew := hw (by decide)
          obtain ⟨v13, g13, r13⟩ := hN 13 (by decide)
          have g13 : a.tmps[68]? = some v13 := g13
          have e13 : v13 = .bool false := r13
          rw [e13] at g13
          have o12 : a.tmps[12]? = some (.int .i64 (n : Int)) := (hO.out 12 (by decide)).trans rfl
          exact relValW rfl (.int .i64 (n : Int)) _ ((wanted_is (b := false) (want := false) rfl rfl g13).trans rfl) (by go_simp) ⟨_, rfl, rfl, fun _ => rfl⟩
        case s17 =>
          intro a w1 hw hO hN
          obtain rfl : w1 = w5.drew := hw (by decide)
          obtain ⟨v16, g16, r16⟩ := hN 16 (by decide)
          have g16 : a.tmps[71]? = some v16 := g16
          have e16 : v16 = .int .i64 (n : Int) := r16
          rw [e16] at g16
          obtain ⟨v13, g13, r13⟩ := hN 13 (by decide)
          have g13 : a.tmps[68]? = some v13 := g13
          have e13 : v13 = .bool false := r13
          rw [e13] at g13
          have hm1 : (n : Int) - 1 = ((m : Nat) : Int) := by have := HMX.out; omega
          have hm2 : IntKind.i64.wrap ((m : Nat) : Int) = ((m : Nat) : Int) := wrap_i64n (by have := HMX.out; omega)
          exact relValW rfl (.int .i64 ((m : Nat) : Int)) _ ((wanted_is (b := false) (want := false) rfl rfl g13).trans rfl) (by go_simp) ⟨_, rfl, rfl, fun _ => rfl⟩
        case s18 =>
          intro a w1 hw hO hN
          obtain rfl : w1 = w5.drew := hw (by decide)
          obtain ⟨v15, g15, r15⟩ := hN 15 (by decide)
          have g15 : a.tmps[70]? = some v15 := g15
          have e15 : v15 = .slice (some ⟨g, 0, none⟩) n sc := r15
          rw [e15] at g15
          obtain ⟨v17, g17, r17⟩ := hN 17 (by decide)
          have g17 : a.tmps[72]? = some v17 := g17
          have e17 : v17 = .int .i64 ((m : Nat) : Int) := r17
          rw [e17] at g17
          obtain ⟨v13, g13, r13⟩ := hN 13 (by decide)
          have g13 : a.tmps[68]? = some v13 := g13
          have e13 : v13 = .bool false := r13
          rw [e13] at g13
          have hmn : ((m : Nat) : Int) < (n : Int) := by have := HMX.out; omega
          exact relValW rfl (.pointer (some ⟨g, m * 21, none⟩)) _ ((wanted_is (b := false) (want := false) rfl rfl g13).trans rfl) (by go_simp) ⟨_, rfl, rfl, fun _ => rfl⟩
        case s19 =>
          intro a w1 hw hO hN
          obtain rfl : w1 = w5.drew := hw (by decide)
          obtain ⟨v18, g18, r18⟩ := hN 18 (by decide)
          have g18 : a.tmps[73]? = some v18 := g18
          have e18 : v18 = .pointer (some ⟨g, m * 21, none⟩) := r18
          rw [e18] at g18
          obtain ⟨v13, g13, r13⟩ := hN 13 (by decide)
          have g13 : a.tmps[68]? = some v13 := g13
          have e13 : v13 = .bool false := r13
          rw [e13] at g13
          exact relValW rfl (.pointer (some ⟨g, m * 21, none⟩)) _ ((wanted_is (b := false) (want := false) rfl rfl g13).trans rfl) (by go_simp) ⟨_, rfl, rfl, fun _ => rfl⟩
        case s20 =>
          intro a w1 hw hO hN
          obtain rfl : w1 = w5.drew := hw (by decide)
          obtain ⟨v19, g19, r19⟩ := hN 19 (by decide)
          have g19 : a.tmps[74]? = some v19 := g19
          have e19 : v19 = .pointer (some ⟨g, m * 21, none⟩) := r19
          rw [e19] at g19
          obtain ⟨v13, g13, r13⟩ := hN 13 (by decide)
          have g13 : a.tmps[68]? = some v13 := g13
          have e13 : v13 = .bool false := r13
          rw [e13] at g13
          have hl1 := loadQin w5.drew g (m * 21) HST.out.2 hr16
          exact relValW rfl (.agg (cellsQ s.1 s.2)) _ ((wanted_is (b := false) (want := false) rfl rfl g13).trans rfl) (by simp [execOp, Act.eval, g19, hl1, Result.andThen]) ⟨_, rfl, rfl, fun _ => rfl⟩
        case s21 =>
          intro a w1 hw hO hN
          obtain rfl : w1 = w5.drew := hw (by decide)
          obtain ⟨v13, g13, r13⟩ := hN 13 (by decide)
          have g13 : a.tmps[68]? = some v13 := g13
          have e13 : v13 = .bool false := r13
          rw [e13] at g13
          have o4 : a.tmps[4]? = some (.pointer (some ⟨b4, 0, none⟩)) := (hO.out 4 (by decide)).trans rfl
          have hl1 := loadQQ w5.drew b4 H5.out.drew.s4 hr16
          exact relValW rfl (.agg (cellsQ s.1 s.2)) _ ((wanted_is (b := false) (want := false) rfl rfl g13).trans rfl) (by simp [execOp, Act.eval, o4, hl1, Result.andThen]) ⟨_, rfl, rfl, fun _ => rfl⟩
        case s22 =>
          intro a w1 hw hO hN
          obtain rfl : w1 = w5.drew := hw (by decide)
          obtain ⟨v20, g20, r20⟩ := hN 20 (by decide)
          have g20 : a.tmps[75]? = some v20 := g20
          have e20 : v20 = .agg (cellsQ s.1 s.2) := r20
          rw [e20] at g20
          obtain ⟨v21, g21, r21⟩ := hN 21 (by decide)
          have g21 : a.tmps[76]? = some v21 := g21
          have e21 : v21 = .agg (cellsQ s.1 s.2) := r21
          rw [e21] at g21
          obtain ⟨v13, g13, r13⟩ := hN 13 (by decide)
          have g13 : a.tmps[68]? = some v13 := g13
          have e13 : v13 = .bool false := r13
          rw [e13] at g13
          have x1 : a.eval (.tmp 75) = .agg (cellsQ s.1 s.2) := by simp [Act.eval, g20]
          have x2 : a.eval (.tmp 76) = .agg (cellsQ s.1 s.2) := by simp [Act.eval, g21]
          exact relNeQ rfl ((wanted_is (b := false) (want := false) rfl rfl g13).trans rfl) _ _ _ rfl x1 x2 hr16 hr16 ⟨_, rfl, by rw [sameQ_self]; rfl, fun _ => rfl⟩
        case s23 =>
          intro a w1 hw hO hN
          obtain rfl : w1 = w5.drew := hw (by decide)
          obtain ⟨v13, g13, r13⟩ := hN 13 (by decide)
          have g13 : a.tmps[68]? = some v13 := g13
          have e13 : v13 = .bool false := r13
          rw [e13] at g13
          obtain ⟨v22, g22, r22⟩ := hN 22 (by decide)
          have g22 : a.tmps[77]? = some v22 := g22
          have e22 : v22 = .bool false := r22
          rw [e22] at g22
          exact relVal rfl (.bool false) _ rfl (by go_simp) ⟨_, rfl, rfl, fun _ => rfl⟩
        case s24 =>
          intro a w1 hw hO hN
          obtain rfl : w1 = w5.drew := hw (by decide)
          obtain ⟨v23, g23, r23⟩ := hN 23 (by decide)
          have g23 : a.tmps[78]? = some v23 := g23
          have e23 : v23 = .bool false := r23
          rw [e23] at g23
          exact relVal rfl (.bool false) _ rfl (by go_simp) ⟨_, rfl, rfl, fun _ => rfl⟩
        case s25 =>
          intro a w1 hw hO hN
          obtain rfl : w1 = w5.drew := hw (by decide)
          obtain ⟨v24, g24, r24⟩ := hN 24 (by decide)
          have g24 : a.tmps[79]? = some v24 := g24
          have e24 : v24 = .bool false := r24
          rw [e24] at g24
          have o10 : a.tmps[10]? = some (.pointer (some ⟨b10, 0, none⟩)) := (hO.out 10 (by decide)).trans rfl
          exact relValW rfl (.pointer (some ⟨b10, 1, none⟩)) _ ((wanted_is (b := false) (want := false) rfl rfl g24).trans rfl) (by go_simp) ⟨_, rfl, rfl, fun _ => rfl⟩
        case s26 =>
          intro a w1 hw hO hN
          obtain rfl : w1 = w5.drew := hw (by decide)
          obtain ⟨v25, g25, r25⟩ := hN 25 (by decide)
          have g25 : a.tmps[80]? = some v25 := g25
          have e25 : v25 = .pointer (some ⟨b10, 1, none⟩) := r25
          rw [e25] at g25
          obtain ⟨v24, g24, r24⟩ := hN 24 (by decide)
          have g24 : a.tmps[79]? = some v24 := g24
          have e24 : v24 = .bool false := r24
          rw [e24] at g24
          have hc : w5.drew.cell? ⟨b10, 1, none⟩ = some (.slice (some ⟨g, 0, none⟩) n sc) := c1
          exact relValW rfl (.slice (some ⟨g, 0, none⟩) n sc) _ ((wanted_is (b := false) (want := false) rfl rfl g24).trans rfl) (by go_simp) ⟨_, rfl, rfl, fun _ => rfl⟩
        case s27 =>
          intro a w1 hw hO hN
          obtain rfl : w1 = w5.drew := hw (by decide)
          obtain ⟨v24, g24, r24⟩ := hN 24 (by decide)
          have g24 : a.tmps[79]? = some v24 := g24
          have e24 : v24 = .bool false := r24
          rw [e24] at g24
          have o12 : a.tmps[12]? = some (.int .i64 (n : Int)) := (hO.out 12 (by decide)).trans rfl
          exact relValW rfl (.int .i64 (n : Int)) _ ((wanted_is (b := false) (want := false) rfl rfl g24).trans rfl) (by go_simp) ⟨_, rfl, rfl, fun _ => rfl⟩
        case s28 =>
          intro a w1 hw hO hN
          obtain rfl : w1 = w5.drew := hw (by decide)
          obtain ⟨v27, g27, r27⟩ := hN 27 (by decide)
          have g27 : a.tmps[82]? = some v27 := g27
          have e27 : v27 = .int .i64 (n : Int) := r27
          rw [e27] at g27
          obtain ⟨v24, g24, r24⟩ := hN 24 (by decide)
          have g24 : a.tmps[79]? = some v24 := g24
          have e24 : v24 = .bool false := r24
          rw [e24] at g24
          have hm1 : (n : Int) - 1 = ((m : Nat) : Int) := by have := HMX.out; omega
          have hm2 : IntKind.i64.wrap ((m : Nat) : Int) = ((m : Nat) : Int) := wrap_i64n (by have := HMX.out; omega)
          exact relValW rfl (.int .i64 ((m : Nat) : Int)) _ ((wanted_is (b := false) (want := false) rfl rfl g24).trans rfl) (by go_simp) ⟨_, rfl, rfl, fun _ => rfl⟩
        case s29 =>
          intro a w1 hw hO hN
          obtain rfl : w1 = w5.drew := hw (by decide)
          obtain ⟨v26, g26, r26⟩ := hN 26 (by decide)
          have g26 : a.tmps[81]? = some v26 := g26
          have e26 : v26 = .slice (some ⟨g, 0, none⟩) n sc := r26
          rw [e26] at g26
          obtain ⟨v28, g28, r28⟩ := hN 28 (by decide)
          have g28 : a.tmps[83]? = some v28 := g28
          have e28 : v28 = .int .i64 ((m : Nat) : Int) := r28
          rw [e28] at g28
          obtain ⟨v24, g24, r24⟩ := hN 24 (by decide)
          have g24 : a.tmps[79]? = some v24 := g24
          have e24 : v24 = .bool false := r24
          rw [e24] at g24
          have hmn : ((m : Nat) : Int) < (n : Int) := by have := HMX.out; omega
          exact relValW rfl (.pointer (some ⟨g, m * 21, none⟩)) _ ((wanted_is (b := false) (want := false) rfl rfl g24).trans rfl) (by go_simp) ⟨_, rfl, rfl, fun _ => rfl⟩
        case s30 =>
          intro a w1 hw hO hN
          obtain rfl : w1 = w5.drew := hw (by decide)
          obtain ⟨v29, g29, r29⟩ := hN 29 (by decide)
          have g29 : a.tmps[84]? = some v29 := g29
          have e29 : v29 = .pointer (some ⟨g, m * 21, none⟩) := r29
          rw [e29] at g29
          obtain ⟨v24, g24, r24⟩ := hN 24 (by decide)
          have g24 : a.tmps[79]? = some v24 := g24
          have e24 : v24 = .bool false := r24
          rw [e24] at g24
          exact relValW rfl (.pointer (some ⟨g, m * 21 + 17, none⟩)) _ ((wanted_is (b := false) (want := false) rfl rfl g24).trans rfl) (by go_simp) ⟨_, rfl, rfl, fun _ => rfl⟩
        case s31 =>
          intro a w1 hw hO hN
          obtain rfl : w1 = w5.drew := hw (by decide)
          obtain ⟨v30, g30, r30⟩ := hN 30 (by decide)
          have g30 : a.tmps[85]? = some v30 := g30
          have e30 : v30 = .pointer (some ⟨g, m * 21 + 17, none⟩) := r30
          rw [e30] at g30
          obtain ⟨v24, g24, r24⟩ := hN 24 (by decide)
          have g24 : a.tmps[79]? = some v24 := g24
          have e24 : v24 = .bool false := r24
          rw [e24] at g24
          have hc : w5.drew.cell? ⟨g, m * 21 + 17, none⟩ = some (.bool F.pv) := HST.out.1
          exact relValW rfl (.bool F.pv) _ ((wanted_is (b := false) (want := false) rfl rfl g24).trans rfl) (by go_simp) ⟨_, rfl, rfl, fun _ => rfl⟩
        case s32 =>
          intro a w1 hw hO hN
          obtain rfl : w1 = w5.drew := hw (by decide)
          obtain ⟨v24, g24, r24⟩ := hN 24 (by decide)
          have g24 : a.tmps[79]? = some v24 := g24
          have e24 : v24 = .bool false := r24
          rw [e24] at g24
          have o10 : a.tmps[10]? = some (.pointer (some ⟨b10, 0, none⟩)) := (hO.out 10 (by decide)).trans rfl
          exact relValW rfl (.pointer (some ⟨b10, 0, none⟩)) _ ((wanted_is (b := false) (want := false) rfl rfl g24).trans rfl) (by go_simp) ⟨_, rfl, rfl, fun _ => rfl⟩
        case s33 =>
          intro a w1 hw hO hN
          obtain rfl : w1 = w5.drew := hw (by decide)
          obtain ⟨v32, g32, r32⟩ := hN 32 (by decide)
          have g32 : a.tmps[87]? = some v32 := g32
          have e32 : v32 = .pointer (some ⟨b10, 0, none⟩) := r32
          rw [e32] at g32
          obtain ⟨v24, g24, r24⟩ := hN 24 (by decide)
          have g24 : a.tmps[79]? = some v24 := g24
          have e24 : v24 = .bool false := r24
          rw [e24] at g24
          have hc : w5.drew.cell? ⟨b10, 0, none⟩ = some (.bool F.pv) := H5.out.drew.c10.cell 0
          exact relValW rfl (.bool F.pv) _ ((wanted_is (b := false) (want := false) rfl rfl g24).trans rfl) (by go_simp) ⟨_, rfl, rfl, fun _ => rfl⟩
        case s34 =>
          intro a w1 hw hO hN
          obtain rfl : w1 = w5.drew := hw (by decide)
          obtain ⟨v31, g31, r31⟩ := hN 31 (by decide)
          have g31 : a.tmps[86]? = some v31 := g31
          have e31 : v31 = .bool F.pv := r31
          rw [e31] at g31
          obtain ⟨v33, g33, r33⟩ := hN 33 (by decide)
          have g33 : a.tmps[88]? = some v33 := g33
          have e33 : v33 = .bool F.pv := r33
          rw [e33] at g33
          obtain ⟨v24, g24, r24⟩ := hN 24 (by decide)
          have g24 : a.tmps[79]? = some v24 := g24
          have e24 : v24 = .bool false := r24
          rw [e24] at g24
          exact relValW rfl (.bool false) _ ((wanted_is (b := false) (want := false) rfl rfl g24).trans rfl) (by go_simp) ⟨_, rfl, rfl, fun _ => rfl⟩
        case s35 =>
          intro a w1 hw hO hN
          obtain rfl : w1 = w5.drew := hw (by decide)
          obtain ⟨v24, g24, r24⟩ := hN 24 (by decide)
          have g24 : a.tmps[79]? = some v24 := g24
          have e24 : v24 = .bool false := r24
          rw [e24] at g24
          obtain ⟨v34, g34, r34⟩ := hN 34 (by decide)
          have g34 : a.tmps[89]? = some v34 := g34
          have e34 : v34 = .bool false := r34
          rw [e34] at g34
          exact relVal rfl (.bool false) _ rfl (by go_simp) ⟨_, rfl, ⟨rfl, rfl⟩, fun h => absurd rfl h⟩
      case fin =>
        intro vs w1 hV
        obtain ⟨e35, rfl⟩ : vs 35 = .bool false ∧ w1 = w5.drew := hV 35 (by decide)
        have H6 := show Hid (LL w w5.drew b4 b10 base (.slice (some ⟨g, 0, none⟩) n sc) F kvs s) from H5.out.drew
        clear H5 hV c1 HST HMX
        simp only [putAll, Act.put, List.setIfInBounds_toArray, List.set_cons_zero, List.set_cons_succ, e35]
        clear e35
        generalize w5.drew = w6 at *
        go_wp2_with fail
        go_loopw [13] (fun iv wr => ∃ i : Nat, i ≤ n ∧ iv = .int .i64 (i : Int) ∧ Hid (LL w wr b4 b10 base (.slice (some ⟨g, 0, none⟩) n sc) F kvs s)) (fun iv _ => n - (intOf iv).toNat)
        case atStart => exact ⟨0, by omega, rfl, H6⟩
        case round =>
          obtain ⟨i, hi, rfl, HI⟩ := hrel
          clear H6
          by_cases hlt : i < n
          · have hil : (i : Int) < (n : Int) := by omega
            obtain ⟨x, hx⟩ : ∃ x, F.st[i]? = some x := ⟨_, List.getElem?_eq_getElem (by rw [← HN.out]; exact hlt)⟩
            have HX := show Hid (F.st[i]? = some x) from hx
            obtain ⟨_, _, kp, kc, hkv, _, _⟩ := HI.out.step hx
            have HKV := show Hid (kvs[i]? = some (.slice kp x.kd.length kc)) from hkv
            have HXK := show Hid (∀ (W : World), LL w W b4 b10 base (.slice (some ⟨g, 0, none⟩) n sc) F kvs s → W.cell? ⟨b10, 1, none⟩ = some (.slice (some ⟨g, 0, none⟩) n sc) ∧ W.cell? ⟨g, i * 21 + 20, none⟩ = some (.slice kp x.kd.length kc) ∧ ∀ k (hk : k < x.kd.length), ∃ b, kp = some ⟨b, 0, none⟩ ∧ W.cell? ⟨b, k, none⟩ = some (.int .i64 ((x.kd[k] : Nat) : Int))) from fun W h => by
              obtain ⟨_, _, p2, c2, hv2, hc2, hk2⟩ := h.step HX.out
              rw [HKV.out] at hv2
              injection hv2 with hv2
              obtain ⟨e1, _, e3⟩ := Value.slice.inj hv2
              subst e1
              subst e3
              exact ⟨h.c10.cell 1, hc2, hk2⟩
            have hkl : x.kd.length ≤ 9223372036854775807 := by
              have ho := HI.out.sts.kid i x _ hx HKV.out
              rcases ho.2 with ⟨_, h0⟩ | ⟨_, cap, _, _, _, _, h1, h2, _⟩
              · omega
              · unfold maxLen at h2; omega
            clear hx hkv
            go_wp2_with fail
            go_loopw [14] (fun kv wr2 => ∃ k : Nat, k ≤ x.kd.length ∧ kv = .int .i64 (k : Int) ∧ Hid (LL w wr2 b4 b10 base (.slice (some ⟨g, 0, none⟩) n sc) F kvs s)) (fun kv _ => x.kd.length - (intOf kv).toNat)
            case atStart => exact ⟨0, by omega, rfl, HI⟩
            case round =>
              obtain ⟨k, hk, rfl, HJ⟩ := hrel
              clear HI
              obtain ⟨d1, d20, hkk⟩ := HXK.out _ HJ.out
              by_cases hlt2 : k < x.kd.length
              · have hkl2 : (k : Int) < (x.kd.length : Int) := by omega
                obtain ⟨kb, rfl, hkc⟩ := hkk k hlt2
                obtain ⟨hji, y, hy, hyp⟩ := HL.out.kid i x HX.out x.kd[k] (List.getElem_mem hlt2)
                have HY := show Hid (F.st[x.kd[k]]? = some y ∧ y.pv = x.pv ∧ x.kd[k] < i) from ⟨hy, hyp, hji⟩
                clear hy hyp hji hkk
                generalize x.kd[k] = j at *
                go_wp2_with fail
                refine wp_region_one (by kernel_rfl) 21 [some 116, some 117, some 118, some 119, some 120, some 121, some 122, some 123, some 124, some 125, some 126, some 127, some 128, some 129, some 130, some 131, some 132, some 133, some 134, some 135, some 136, some 137] [[], [0], [1], [2], [2], [3, 4, 2], [2, 5], [6], [7], [8, 7], [7], [9, 10, 7], [11, 7], [12, 7], [7], [14, 7], [7], [15, 16, 7], [17, 7], [18, 7], [13, 19, 7], [7, 20]] [[], [0], [1, 0], [2, 1, 0], [2, 1, 0], [3, 2, 1, 0, 4], [2, 1, 0, 5, 3, 4], [6, 2, 1, 0, 5, 3, 4], [7, 6, 2, 1, 0, 5, 3, 4], [8, 7, 6, 2, 1, 0, 5, 3, 4], [7, 6, 2, 1, 0, 5, 3, 4], [9, 8, 7, 6, 2, 1, 0, 5, 3, 4, 10], [11, 9, 8, 7, 6, 2, 1, 0, 5, 3, 4, 10], [12, 11, 9, 8, 7, 6, 2, 1, 0, 5, 3, 4, 10], [7, 6, 2, 1, 0, 5, 3, 4], [14, 7, 6, 2, 1, 0, 5, 3, 4], [7, 6, 2, 1, 0, 5, 3, 4], [15, 14, 7, 6, 2, 1, 0, 5, 3, 4, 16], [17, 15, 14, 7, 6, 2, 1, 0, 5, 3, 4, 16], [18, 17, 15, 14, 7, 6, 2, 1, 0, 5, 3, 4, 16], [13, 12, 11, 9, 8, 7, 6, 2, 1, 0, 5, 3, 4, 10, 19, 18, 17, 15, 14, 16], [7, 6, 2, 1, 0, 5, 3, 4, 20, 13, 12, 11, 9, 8, 10, 19, 18, 17, 15, 14, 16]] (by kernel_rfl) (by decide) (fun ii vv w1 => match ii with | 0 => vv = .int .i64 (j : Int) | 1 => vv = .bool false | 2 => vv = .bool false | 3 => vv = .int .i64 (j : Int) | 4 => vv = .int .i64 (i : Int) | 5 => vv = .bool false | 6 => vv = .bool false | 7 => vv = .bool false | 8 => vv = .pointer (some ⟨b10, 1, none⟩) | 9 => vv = .slice (some ⟨g, 0, none⟩) n sc | 10 => vv = .int .i64 (j : Int) | 11 => vv = .pointer (some ⟨g, j * 21, none⟩) | 12 => vv = .pointer (some ⟨g, j * 21 + 17, none⟩) | 13 => vv = .bool x.pv | 14 => vv = .pointer (some ⟨b10, 1, none⟩) | 15 => vv = .slice (some ⟨g, 0, none⟩) n sc | 16 => vv = .int .i64 (i : Int) | 17 => vv = .pointer (some ⟨g, i * 21, none⟩) | 18 => vv = .pointer (some ⟨g, i * 21 + 17, none⟩) | 19 => vv = .bool x.pv | 20 => vv = .bool false | 21 => vv = .bool false ∧ w1 = wr.drew | _ => True) ?hfree (allLt 22 ?steps) ?fin
                case hfree =>
                  intro j v w1 w2 hj hn h
                  match j, h, hj, hn with
                  | 0, h, _, _ => exact h
                  | 1, h, _, _ => exact h
                  | 2, h, _, _ => exact h
                  | 3, h, _, _ => exact h
                  | 4, h, _, _ => exact h
                  | 5, h, _, _ => exact h
                  | 6, h, _, _ => exact h
                  | 7, h, _, _ => exact h
                  | 8, h, _, _ => exact h
                  | 9, h, _, _ => exact h
                  | 10, h, _, _ => exact h
                  | 11, h, _, _ => exact h
                  | 12, h, _, _ => exact h
                  | 13, h, _, _ => exact h
                  | 14, h, _, _ => exact h
                  | 15, h, _, _ => exact h
                  | 16, h, _, _ => exact h
                  | 17, h, _, _ => exact h
                  | 18, h, _, _ => exact h
                  | 19, h, _, _ => exact h
                  | 20, h, _, _ => exact h
                  | 21, _, hj, _ => exact absurd rfl hj
                  | _ + 22, _, _, _ => trivial
                case steps =>
                  refine ⟨⟨⟨⟨⟨⟨⟨⟨⟨⟨⟨⟨⟨⟨⟨⟨⟨⟨⟨⟨⟨⟨trivial, ?s0⟩, ?s1⟩, ?s2⟩, ?s3⟩, ?s4⟩, ?s5⟩, ?s6⟩, ?s7⟩, ?s8⟩, ?s9⟩, ?s10⟩, ?s11⟩, ?s12⟩, ?s13⟩, ?s14⟩, ?s15⟩, ?s16⟩, ?s17⟩, ?s18⟩, ?s19⟩, ?s20⟩, ?s21⟩
                  case s0 =>
                    intro a w1 hw hO hN
                    obtain rfl : w1 = wr.drew := hw (by decide)
                    have o15 : a.tmps[15]? = some (.int .i64 (j : Int)) := (hO.out 15 (by decide)).trans rfl
                    exact relVal rfl (.int .i64 (j : Int)) _ rfl (by go_simp) ⟨_, rfl, rfl, fun _ => rfl⟩
                  case s1 =>
                    intro a w1 hw hO hN
                    obtain rfl : w1 = wr.drew := hw (by decide)
                    obtain ⟨v0, g0, r0⟩ := hN 0 (by decide)
                    have g0 : a.tmps[116]? = some v0 := g0
                    have e0 : v0 = .int .i64 (j : Int) := r0
                    rw [e0] at g0
                    have hj0 : ¬ (j : Int) < 0 := by omega
                    exact relVal rfl (.bool false) _ rfl (by go_simp) ⟨_, rfl, rfl, fun _ => rfl⟩
                  case s2 =>
                    intro a w1 hw hO hN
                    obtain rfl : w1 = wr.drew := hw (by decide)
                    obtain ⟨v1, g1, r1⟩ := hN 1 (by decide)
                    have g1 : a.tmps[117]? = some v1 := g1
                    have e1 : v1 = .bool false := r1
                    rw [e1] at g1
                    exact relVal rfl (.bool false) _ rfl (by go_simp) ⟨_, rfl, rfl, fun _ => rfl⟩
                  case s3 =>
                    intro a w1 hw hO hN
                    obtain rfl : w1 = wr.drew := hw (by decide)
                    obtain ⟨v2, g2, r2⟩ := hN 2 (by decide)
                    have g2 : a.tmps[118]? = some v2 := g2
                    have e2 : v2 = .bool false := r2
                    rw [e2] at g2
                    have o15 : a.tmps[15]? = some (.int .i64 (j : Int)) := (hO.out 15 (by decide)).trans rfl
                    exact relValW rfl (.int .i64 (j : Int)) _ ((wanted_is (b := false) (want := false) rfl rfl g2).trans rfl) (by go_simp) ⟨_, rfl, rfl, fun _ => rfl⟩
                  case s4 =>
                    intro a w1 hw hO hN
                    obtain rfl : w1 = wr.drew := hw (by decide)
                    obtain ⟨v2, g2, r2⟩ := hN 2 (by decide)
                    have g2 : a.tmps[118]? = some v2 := g2
                    have e2 : v2 = .bool false := r2
                    rw [e2] at g2
                    have o13 : a.tmps[13]? = some (.int .i64 (i : Int)) := (hO.out 13 (by decide)).trans rfl
                    exact relValW rfl (.int .i64 (i : Int)) _ ((wanted_is (b := false) (want := false) rfl rfl g2).trans rfl) (by go_simp) ⟨_, rfl, rfl, fun _ => rfl⟩
                  case s5 =>
                    intro a w1 hw hO hN
                    obtain rfl : w1 = wr.drew := hw (by decide)
                    obtain ⟨v3, g3, r3⟩ := hN 3 (by decide)
                    have g3 : a.tmps[119]? = some v3 := g3
                    have e3 : v3 = .int .i64 (j : Int) := r3
                    rw [e3] at g3
                    obtain ⟨v4, g4, r4⟩ := hN 4 (by decide)
                    have g4 : a.tmps[120]? = some v4 := g4
                    have e4 : v4 = .int .i64 (i : Int) := r4
                    rw [e4] at g4
                    obtain ⟨v2, g2, r2⟩ := hN 2 (by decide)
                    have g2 : a.tmps[118]? = some v2 := g2
                    have e2 : v2 = .bool false := r2
                    rw [e2] at g2
                    have hji : ¬ (i : Int) ≤ (j : Int) := by have := HY.out.2.2; omega
                    exact relValW rfl (.bool false) _ ((wanted_is (b := false) (want := false) rfl rfl g2).trans rfl) (by go_simp) ⟨_, rfl, rfl, fun _ => rfl⟩
                  case s6 =>
                    intro a w1 hw hO hN
                    obtain rfl : w1 = wr.drew := hw (by decide)
                    obtain ⟨v2, g2, r2⟩ := hN 2 (by decide)
                    have g2 : a.tmps[118]? = some v2 := g2
                    have e2 : v2 = .bool false := r2
                    rw [e2] at g2
                    obtain ⟨v5, g5, r5⟩ := hN 5 (by decide)
                    have g5 : a.tmps[121]? = some v5 := g5
                    have e5 : v5 = .bool false := r5
                    rw [e5] at g5
                    exact relVal rfl (.bool false) _ rfl (by go_simp) ⟨_, rfl, rfl, fun _ => rfl⟩
                  case s7 =>
                    intro a w1 hw hO hN
                    obtain rfl : w1 = wr.drew := hw (by decide)
                    obtain ⟨v6, g6, r6⟩ := hN 6 (by decide)
                    have g6 : a.tmps[122]? = some v6 := g6
                    have e6 : v6 = .bool false := r6
                    rw [e6] at g6
                    exact relVal rfl (.bool false) _ rfl (by go_simp) ⟨_, rfl, rfl, fun _ => rfl⟩
                  case s8 =>
                    intro a w1 hw hO hN
                    obtain rfl : w1 = wr.drew := hw (by decide)
                    obtain ⟨v7, g7, r7⟩ := hN 7 (by decide)
                    have g7 : a.tmps[123]? = some v7 := g7
                    have e7 : v7 = .bool false := r7
                    rw [e7] at g7
                    have o10 : a.tmps[10]? = some (.pointer (some ⟨b10, 0, none⟩)) := (hO.out 10 (by decide)).trans rfl
                    exact relValW rfl (.pointer (some ⟨b10, 1, none⟩)) _ ((wanted_is (b := false) (want := false) rfl rfl g7).trans rfl) (by go_simp) ⟨_, rfl, rfl, fun _ => rfl⟩
                  case s9 =>
                    intro a w1 hw hO hN
                    obtain rfl : w1 = wr.drew := hw (by decide)
                    obtain ⟨v8, g8, r8⟩ := hN 8 (by decide)
                    have g8 : a.tmps[124]? = some v8 := g8
                    have e8 : v8 = .pointer (some ⟨b10, 1, none⟩) := r8
                    rw [e8] at g8
                    obtain ⟨v7, g7, r7⟩ := hN 7 (by decide)
                    have g7 : a.tmps[123]? = some v7 := g7
                    have e7 : v7 = .bool false := r7
                    rw [e7] at g7
                    have hc : wr.drew.cell? ⟨b10, 1, none⟩ = some (.slice (some ⟨g, 0, none⟩) n sc) := d1
                    exact relValW rfl (.slice (some ⟨g, 0, none⟩) n sc) _ ((wanted_is (b := false) (want := false) rfl rfl g7).trans rfl) (by go_simp) ⟨_, rfl, rfl, fun _ => rfl⟩
                  case s10 =>
                    intro a w1 hw hO hN
                    obtain rfl : w1 = wr.drew := hw (by decide)
                    obtain ⟨v7, g7, r7⟩ := hN 7 (by decide)
                    have g7 : a.tmps[123]? = some v7 := g7
                    have e7 : v7 = .bool false := r7
                    rw [e7] at g7
                    have o15 : a.tmps[15]? = some (.int .i64 (j : Int)) := (hO.out 15 (by decide)).trans rfl
                    exact relValW rfl (.int .i64 (j : Int)) _ ((wanted_is (b := false) (want := false) rfl rfl g7).trans rfl) (by go_simp) ⟨_, rfl, rfl, fun _ => rfl⟩
                  case s11 =>
                    intro a w1 hw hO hN
                    obtain rfl : w1 = wr.drew := hw (by decide)
                    obtain ⟨v9, g9, r9⟩ := hN 9 (by decide)
                    have g9 : a.tmps[125]? = some v9 := g9
                    have e9 : v9 = .slice (some ⟨g, 0, none⟩) n sc := r9
                    rw [e9] at g9
                    obtain ⟨v10, g10, r10⟩ := hN 10 (by decide)
                    have g10 : a.tmps[126]? = some v10 := g10
                    have e10 : v10 = .int .i64 (j : Int) := r10
                    rw [e10] at g10
                    obtain ⟨v7, g7, r7⟩ := hN 7 (by decide)
                    have g7 : a.tmps[123]? = some v7 := g7
                    have e7 : v7 = .bool false := r7
                    rw [e7] at g7
                    have hjn : (j : Int) < (n : Int) := by have := HY.out.2.2; omega
                    exact relValW rfl (.pointer (some ⟨g, j * 21, none⟩)) _ ((wanted_is (b := false) (want := false) rfl rfl g7).trans rfl) (by go_simp) ⟨_, rfl, rfl, fun _ => rfl⟩
                  case s12 =>
                    intro a w1 hw hO hN
                    obtain rfl : w1 = wr.drew := hw (by decide)
                    obtain ⟨v11, g11, r11⟩ := hN 11 (by decide)
                    have g11 : a.tmps[127]? = some v11 := g11
                    have e11 : v11 = .pointer (some ⟨g, j * 21, none⟩) := r11
                    rw [e11] at g11
                    obtain ⟨v7, g7, r7⟩ := hN 7 (by decide)
                    have g7 : a.tmps[123]? = some v7 := g7
                    have e7 : v7 = .bool false := r7
                    rw [e7] at g7
                    exact relValW rfl (.pointer (some ⟨g, j * 21 + 17, none⟩)) _ ((wanted_is (b := false) (want := false) rfl rfl g7).trans rfl) (by go_simp) ⟨_, rfl, rfl, fun _ => rfl⟩
                  case s13 =>
                    intro a w1 hw hO hN
                    obtain rfl : w1 = wr.drew := hw (by decide)
                    obtain ⟨v12, g12, r12⟩ := hN 12 (by decide)
                    have g12 : a.tmps[128]? = some v12 := g12
                    have e12 : v12 = .pointer (some ⟨g, j * 21 + 17, none⟩) := r12
                    rw [e12] at g12
                    obtain ⟨v7, g7, r7⟩ := hN 7 (by decide)
                    have g7 : a.tmps[123]? = some v7 := g7
                    have e7 : v7 = .bool false := r7
                    rw [e7] at g7
                    have hc : wr.drew.cell? ⟨g, j * 21 + 17, none⟩ = some (.bool x.pv) := by rw [← HY.out.2.1]; exact (HJ.out.step HY.out.1).1
                    exact relValW rfl (.bool x.pv) _ ((wanted_is (b := false) (want := false) rfl rfl g7).trans rfl) (by go_simp) ⟨_, rfl, rfl, fun _ => rfl⟩
                  case s14 =>
                    intro a w1 hw hO hN
                    obtain rfl : w1 = wr.drew := hw (by decide)
                    obtain ⟨v7, g7, r7⟩ := hN 7 (by decide)
                    have g7 : a.tmps[123]? = some v7 := g7
                    have e7 : v7 = .bool false := r7
                    rw [e7] at g7
                    have o10 : a.tmps[10]? = some (.pointer (some ⟨b10, 0, none⟩)) := (hO.out 10 (by decide)).trans rfl
                    exact relValW rfl (.pointer (some ⟨b10, 1, none⟩)) _ ((wanted_is (b := false) (want := false) rfl rfl g7).trans rfl) (by go_simp) ⟨_, rfl, rfl, fun _ => rfl⟩
                  case s15 =>
                    intro a w1 hw hO hN
                    obtain rfl : w1 = wr.drew := hw (by decide)
                    obtain ⟨v14, g14, r14⟩ := hN 14 (by decide)
                    have g14 : a.tmps[130]? = some v14 := g14
                    have e14 : v14 = .pointer (some ⟨b10, 1, none⟩) := r14
                    rw [e14] at g14
                    obtain ⟨v7, g7, r7⟩ := hN 7 (by decide)
                    have g7 : a.tmps[123]? = some v7 := g7
                    have e7 : v7 = .bool false := r7
                    rw [e7] at g7
                    have hc : wr.drew.cell? ⟨b10, 1, none⟩ = some (.slice (some ⟨g, 0, none⟩) n sc) := d1
                    exact relValW rfl (.slice (some ⟨g, 0, none⟩) n sc) _ ((wanted_is (b := false) (want := false) rfl rfl g7).trans rfl) (by go_simp) ⟨_, rfl, rfl, fun _ => rfl⟩
                  case s16 =>
                    intro a w1 hw hO hN
                    obtain rfl : w1 = wr.drew := hw (by decide)
                    obtain ⟨v7, g7, r7⟩ := hN 7 (by decide)
                    have g7 : a.tmps[123]? = some v7 := g7
                    have e7 : v7 = .bool false := r7
                    rw [e7] at g7
                    have o13 : a.tmps[13]? = some (.int .i64 (i : Int)) := (hO.out 13 (by decide)).trans rfl
                    exact relValW rfl (.int .i64 (i : Int)) _ ((wanted_is (b := false) (want := false) rfl rfl g7).trans rfl) (by go_simp) ⟨_, rfl, rfl, fun _ => rfl⟩
                  case s17 =>
                    intro a w1 hw hO hN
                    obtain rfl : w1 = wr.drew := hw (by decide)
                    obtain ⟨v15, g15, r15⟩ := hN 15 (by decide)
                    have g15 : a.tmps[131]? = some v15 := g15
                    have e15 : v15 = .slice (some ⟨g, 0, none⟩) n sc := r15
                    rw [e15] at g15
                    obtain ⟨v16, g16, r16⟩ := hN 16 (by decide)
                    have g16 : a.tmps[132]? = some v16 := g16
                    have e16 : v16 = .int .i64 (i : Int) := r16
                    rw [e16] at g16
                    obtain ⟨v7, g7, r7⟩ := hN 7 (by decide)
                    have g7 : a.tmps[123]? = some v7 := g7
                    have e7 : v7 = .bool false := r7
                    rw [e7] at g7
                    have hin : (i : Int) < (n : Int) := by omega
                    exact relValW rfl (.pointer (some ⟨g, i * 21, none⟩)) _ ((wanted_is (b := false) (want := false) rfl rfl g7).trans rfl) (by go_simp) ⟨_, rfl, rfl, fun _ => rfl⟩
                  case s18 =>
                    intro a w1 hw hO hN
                    obtain rfl : w1 = wr.drew := hw (by decide)
                    obtain ⟨v17, g17, r17⟩ := hN 17 (by decide)
                    have g17 : a.tmps[133]? = some v17 := g17
                    have e17 : v17 = .pointer (some ⟨g, i * 21, none⟩) := r17
                    rw [e17] at g17
                    obtain ⟨v7, g7, r7⟩ := hN 7 (by decide)
                    have g7 : a.tmps[123]? = some v7 := g7
                    have e7 : v7 = .bool false := r7
                    rw [e7] at g7
                    exact relValW rfl (.pointer (some ⟨g, i * 21 + 17, none⟩)) _ ((wanted_is (b := false) (want := false) rfl rfl g7).trans rfl) (by go_simp) ⟨_, rfl, rfl, fun _ => rfl⟩
                  case s19 =>
                    intro a w1 hw hO hN
                    obtain rfl : w1 = wr.drew := hw (by decide)
                    obtain ⟨v18, g18, r18⟩ := hN 18 (by decide)
                    have g18 : a.tmps[134]? = some v18 := g18
                    have e18 : v18 = .pointer (some ⟨g, i * 21 + 17, none⟩) := r18
                    rw [e18] at g18
                    obtain ⟨v7, g7, r7⟩ := hN 7 (by decide)
                    have g7 : a.tmps[123]? = some v7 := g7
                    have e7 : v7 = .bool false := r7
                    rw [e7] at g7
                    have hc : wr.drew.cell? ⟨g, i * 21 + 17, none⟩ = some (.bool x.pv) := (HJ.out.step HX.out).1
                    exact relValW rfl (.bool x.pv) _ ((wanted_is (b := false) (want := false) rfl rfl g7).trans rfl) (by go_simp) ⟨_, rfl, rfl, fun _ => rfl⟩
                  case s20 =>
                    intro a w1 hw hO hN
                    obtain rfl : w1 = wr.drew := hw (by decide)
                    obtain ⟨v13, g13, r13⟩ := hN 13 (by decide)
                    have g13 : a.tmps[129]? = some v13 := g13
                    have e13 : v13 = .bool x.pv := r13
                    rw [e13] at g13
                    obtain ⟨v19, g19, r19⟩ := hN 19 (by decide)
                    have g19 : a.tmps[135]? = some v19 := g19
                    have e19 : v19 = .bool x.pv := r19
                    rw [e19] at g19
                    obtain ⟨v7, g7, r7⟩ := hN 7 (by decide)
                    have g7 : a.tmps[123]? = some v7 := g7
                    have e7 : v7 = .bool false := r7
                    rw [e7] at g7
                    exact relValW rfl (.bool false) _ ((wanted_is (b := false) (want := false) rfl rfl g7).trans rfl) (by go_simp) ⟨_, rfl, rfl, fun _ => rfl⟩
                  case s21 =>
                    intro a w1 hw hO hN
                    obtain rfl : w1 = wr.drew := hw (by decide)
                    obtain ⟨v7, g7, r7⟩ := hN 7 (by decide)
                    have g7 : a.tmps[123]? = some v7 := g7
                    have e7 : v7 = .bool false := r7
                    rw [e7] at g7
                    obtain ⟨v20, g20, r20⟩ := hN 20 (by decide)
                    have g20 : a.tmps[136]? = some v20 := g20
                    have e20 : v20 = .bool false := r20
                    rw [e20] at g20
                    exact relVal rfl (.bool false) _ rfl (by go_simp) ⟨_, rfl, ⟨rfl, rfl⟩, fun h => absurd rfl h⟩
                case fin =>
                  intro vs w1 hV
                  obtain ⟨e21, rfl⟩ : vs 21 = .bool false ∧ w1 = wr.drew := hV 21 (by decide)
                  have HJ2 := show Hid _ from HJ.out.drew
                  clear hV HJ d1 d20 hkc HY
                  simp only [putAll, Act.put, List.setIfInBounds_toArray, List.set_cons_zero, List.set_cons_succ, e21]
                  clear e21
                  go_wp2_with fail
                  go_roundw
                  case rel => exact ⟨k + 1, by omega, by go_num, HJ2⟩
                  case measure => first | (simp [intOf]; done) | (simp [intOf]; omega)
              · have hkl2 : ¬ (k : Int) < (x.kd.length : Int) := by omega
                clear hkk
                go_wp2_with fail
                go_loopw [16] (fun kv wr3 => ∃ k : Nat, k ≤ i ∧ kv = .int .i64 (k : Int) ∧ Hid (LL w wr3 b4 b10 base (.slice (some ⟨g, 0, none⟩) n sc) F kvs s)) (fun kv _ => i - (intOf kv).toNat)
                case atStart => exact ⟨0, by omega, rfl, HJ⟩
                case round =>
                  obtain ⟨k3, hk3, rfl, HM⟩ := hrel
                  clear HJ d1 d20
                  by_cases hlt3 : k3 < i
                  · have hkl3 : (k3 : Int) < (i : Int) := by omega
                    obtain ⟨z, hz⟩ : ∃ z, F.st[k3]? = some z := ⟨_, List.getElem?_eq_getElem (by rw [← HN.out]; omega)⟩
                    have hne : z.s ≠ x.s := fun e => (by have := HL.out.one k3 i z x hz HX.out e; omega)
                    have hz16 := HL.out.ok z (List.mem_of_getElem? hz)
                    have hx16 := HL.out.ok x (List.mem_of_getElem? HX.out)
                    have HZ3 := show Hid (F.st[k3]? = some z ∧ sameQ z.s.1 z.s.2 x.s.1 x.s.2 = false) from ⟨hz, sameQ_ne hne⟩
                    clear hz hne
                    go_wp2_with fail
                    refine wp_region_one (by kernel_rfl) 12 [some 143, some 144, some 145, some 146, some 147, some 148, some 149, some 150, some 151, some 152, some 153, some 154, some 155] [[], [0], [], [1, 2], [3], [4], [], [6], [], [7, 8], [9], [10], [5, 11]] [[], [0], [], [1, 0, 2], [3, 1, 0, 2], [4, 3, 1, 0, 2], [], [6], [], [7, 6, 8], [9, 7, 6, 8], [10, 9, 7, 6, 8], [5, 4, 3, 1, 0, 2, 11, 10, 9, 7, 6, 8]] (by kernel_rfl) (by decide) (fun ii vv w1 => match ii with | 0 => vv = .pointer (some ⟨b10, 1, none⟩) | 1 => vv = .slice (some ⟨g, 0, none⟩) n sc | 2 => vv = .int .i64 (k3 : Int) | 3 => vv = .pointer (some ⟨g, k3 * 21, none⟩) | 4 => vv = .pointer (some ⟨g, k3 * 21, none⟩) | 5 => vv = .agg (cellsQ z.s.1 z.s.2) | 6 => vv = .pointer (some ⟨b10, 1, none⟩) | 7 => vv = .slice (some ⟨g, 0, none⟩) n sc | 8 => vv = .int .i64 (i : Int) | 9 => vv = .pointer (some ⟨g, i * 21, none⟩) | 10 => vv = .pointer (some ⟨g, i * 21, none⟩) | 11 => vv = .agg (cellsQ x.s.1 x.s.2) | 12 => vv = .bool false ∧ w1 = wr.drew | _ => True) ?hfree (allLt 13 ?steps) ?fin
                    case hfree =>
                      intro j v w1 w2 hj hn h
                      match j, h, hj, hn with
                      | 0, h, _, _ => exact h
                      | 1, h, _, _ => exact h
                      | 2, h, _, _ => exact h
                      | 3, h, _, _ => exact h
                      | 4, h, _, _ => exact h
                      | 5, h, _, _ => exact h
                      | 6, h, _, _ => exact h
                      | 7, h, _, _ => exact h
                      | 8, h, _, _ => exact h
                      | 9, h, _, _ => exact h
                      | 10, h, _, _ => exact h
                      | 11, h, _, _ => exact h
                      | 12, _, hj, _ => exact absurd rfl hj
                      | _ + 13, _, _, _ => trivial
                    case steps =>
                      refine ⟨⟨⟨⟨⟨⟨⟨⟨⟨⟨⟨⟨⟨trivial, ?s0⟩, ?s1⟩, ?s2⟩, ?s3⟩, ?s4⟩, ?s5⟩, ?s6⟩, ?s7⟩, ?s8⟩, ?s9⟩, ?s10⟩, ?s11⟩, ?s12⟩
                      case s0 =>
                        intro a w1 hw hO hN
                        obtain rfl : w1 = wr.drew := hw (by decide)
                        have o10 : a.tmps[10]? = some (.pointer (some ⟨b10, 0, none⟩)) := (hO.out 10 (by decide)).trans rfl
                        exact relVal rfl (.pointer (some ⟨b10, 1, none⟩)) _ rfl (by go_simp) ⟨_, rfl, rfl, fun _ => rfl⟩
                      case s1 =>
                        intro a w1 hw hO hN
                        obtain rfl : w1 = wr.drew := hw (by decide)
                        obtain ⟨v0, g0, r0⟩ := hN 0 (by decide)
                        have g0 : a.tmps[143]? = some v0 := g0
                        have e0 : v0 = .pointer (some ⟨b10, 1, none⟩) := r0
                        rw [e0] at g0
                        have hc : wr.drew.cell? ⟨b10, 1, none⟩ = some (.slice (some ⟨g, 0, none⟩) n sc) := HM.out.c10.cell 1
                        exact relVal rfl (.slice (some ⟨g, 0, none⟩) n sc) _ rfl (by go_simp) ⟨_, rfl, rfl, fun _ => rfl⟩
                      case s2 =>
                        intro a w1 hw hO hN
                        obtain rfl : w1 = wr.drew := hw (by decide)
                        have o16 : a.tmps[16]? = some (.int .i64 (k3 : Int)) := (hO.out 16 (by decide)).trans rfl
                        exact relVal rfl (.int .i64 (k3 : Int)) _ rfl (by go_simp) ⟨_, rfl, rfl, fun _ => rfl⟩
                      case s3 =>
                        intro a w1 hw hO hN
                        obtain rfl : w1 = wr.drew := hw (by decide)
                        obtain ⟨v1, g1, r1⟩ := hN 1 (by decide)
                        have g1 : a.tmps[144]? = some v1 := g1
                        have e1 : v1 = .slice (some ⟨g, 0, none⟩) n sc := r1
                        rw [e1] at g1
                        obtain ⟨v2, g2, r2⟩ := hN 2 (by decide)
                        have g2 : a.tmps[145]? = some v2 := g2
                        have e2 : v2 = .int .i64 (k3 : Int) := r2
                        rw [e2] at g2
                        have hjn : (k3 : Int) < (n : Int) := by omega
                        exact relVal rfl (.pointer (some ⟨g, k3 * 21, none⟩)) _ rfl (by go_simp) ⟨_, rfl, rfl, fun _ => rfl⟩
                      case s4 =>
                        intro a w1 hw hO hN
                        obtain rfl : w1 = wr.drew := hw (by decide)
                        obtain ⟨v3, g3, r3⟩ := hN 3 (by decide)
                        have g3 : a.tmps[146]? = some v3 := g3
                        have e3 : v3 = .pointer (some ⟨g, k3 * 21, none⟩) := r3
                        rw [e3] at g3
                        exact relVal rfl (.pointer (some ⟨g, k3 * 21, none⟩)) _ rfl (by go_simp) ⟨_, rfl, rfl, fun _ => rfl⟩
                      case s5 =>
                        intro a w1 hw hO hN
                        obtain rfl : w1 = wr.drew := hw (by decide)
                        obtain ⟨v4, g4, r4⟩ := hN 4 (by decide)
                        have g4 : a.tmps[147]? = some v4 := g4
                        have e4 : v4 = .pointer (some ⟨g, k3 * 21, none⟩) := r4
                        rw [e4] at g4
                        have hl1 := loadQin wr.drew g (k3 * 21) (HM.out.drew.step HZ3.out.1).2.1 hz16
                        exact relVal rfl (.agg (cellsQ z.s.1 z.s.2)) _ rfl (by simp [execOp, Act.eval, g4, hl1, Result.andThen]) ⟨_, rfl, rfl, fun _ => rfl⟩
                      case s6 =>
                        intro a w1 hw hO hN
                        obtain rfl : w1 = wr.drew := hw (by decide)
                        have o10 : a.tmps[10]? = some (.pointer (some ⟨b10, 0, none⟩)) := (hO.out 10 (by decide)).trans rfl
                        exact relVal rfl (.pointer (some ⟨b10, 1, none⟩)) _ rfl (by go_simp) ⟨_, rfl, rfl, fun _ => rfl⟩
                      case s7 =>
                        intro a w1 hw hO hN
                        obtain rfl : w1 = wr.drew := hw (by decide)
                        obtain ⟨v6, g6, r6⟩ := hN 6 (by decide)
                        have g6 : a.tmps[149]? = some v6 := g6
                        have e6 : v6 = .pointer (some ⟨b10, 1, none⟩) := r6
                        rw [e6] at g6
                        have hc : wr.drew.cell? ⟨b10, 1, none⟩ = some (.slice (some ⟨g, 0, none⟩) n sc) := HM.out.c10.cell 1
                        exact relVal rfl (.slice (some ⟨g, 0, none⟩) n sc) _ rfl (by go_simp) ⟨_, rfl, rfl, fun _ => rfl⟩
                      case s8 =>
                        intro a w1 hw hO hN
                        obtain rfl : w1 = wr.drew := hw (by decide)
                        have o13 : a.tmps[13]? = some (.int .i64 (i : Int)) := (hO.out 13 (by decide)).trans rfl
                        exact relVal rfl (.int .i64 (i : Int)) _ rfl (by go_simp) ⟨_, rfl, rfl, fun _ => rfl⟩
                      case s9 =>
                        intro a w1 hw hO hN
                        obtain rfl : w1 = wr.drew := hw (by decide)
                        obtain ⟨v7, g7, r7⟩ := hN 7 (by decide)
                        have g7 : a.tmps[150]? = some v7 := g7
                        have e7 : v7 = .slice (some ⟨g, 0, none⟩) n sc := r7
                        rw [e7] at g7
                        obtain ⟨v8, g8, r8⟩ := hN 8 (by decide)
                        have g8 : a.tmps[151]? = some v8 := g8
                        have e8 : v8 = .int .i64 (i : Int) := r8
                        rw [e8] at g8
                        have hin : (i : Int) < (n : Int) := by omega
                        exact relVal rfl (.pointer (some ⟨g, i * 21, none⟩)) _ rfl (by go_simp) ⟨_, rfl, rfl, fun _ => rfl⟩
                      case s10 =>
                        intro a w1 hw hO hN
                        obtain rfl : w1 = wr.drew := hw (by decide)
                        obtain ⟨v9, g9, r9⟩ := hN 9 (by decide)
                        have g9 : a.tmps[152]? = some v9 := g9
                        have e9 : v9 = .pointer (some ⟨g, i * 21, none⟩) := r9
                        rw [e9] at g9
                        exact relVal rfl (.pointer (some ⟨g, i * 21, none⟩)) _ rfl (by go_simp) ⟨_, rfl, rfl, fun _ => rfl⟩
                      case s11 =>
                        intro a w1 hw hO hN
                        obtain rfl : w1 = wr.drew := hw (by decide)
                        obtain ⟨v10, g10, r10⟩ := hN 10 (by decide)
                        have g10 : a.tmps[153]? = some v10 := g10
                        have e10 : v10 = .pointer (some ⟨g, i * 21, none⟩) := r10
                        rw [e10] at g10
                        have hl1 := loadQin wr.drew g (i * 21) (HM.out.drew.step HX.out).2.1 hx16
                        exact relVal rfl (.agg (cellsQ x.s.1 x.s.2)) _ rfl (by simp [execOp, Act.eval, g10, hl1, Result.andThen]) ⟨_, rfl, rfl, fun _ => rfl⟩
                      case s12 =>
                        intro a w1 hw hO hN
                        obtain rfl : w1 = wr.drew := hw (by decide)
                        obtain ⟨v5, g5, r5⟩ := hN 5 (by decide)
                        have g5 : a.tmps[148]? = some v5 := g5
                        have e5 : v5 = .agg (cellsQ z.s.1 z.s.2) := r5
                        rw [e5] at g5
                        obtain ⟨v11, g11, r11⟩ := hN 11 (by decide)
                        have g11 : a.tmps[154]? = some v11 := g11
                        have e11 : v11 = .agg (cellsQ x.s.1 x.s.2) := r11
                        rw [e11] at g11
                        have x1 : a.eval (.tmp 148) = .agg (cellsQ z.s.1 z.s.2) := by simp [Act.eval, g5]
                        have x2 : a.eval (.tmp 154) = .agg (cellsQ x.s.1 x.s.2) := by simp [Act.eval, g11]
                        exact relEqQ rfl rfl _ _ _ rfl x1 x2 hz16 hx16 ⟨_, rfl, ⟨by rw [HZ3.out.2], rfl⟩, fun h => absurd rfl h⟩
                    case fin =>
                      intro vs w1 hV
                      obtain ⟨e12, rfl⟩ : vs 12 = .bool false ∧ w1 = wr.drew := hV 12 (by decide)
                      have HM2 := show Hid _ from HM.out.drew
                      clear hV HM HZ3
                      simp only [putAll, Act.put, List.setIfInBounds_toArray, List.set_cons_zero, List.set_cons_succ, e12]
                      clear e12
                      go_wp2_with fail
                      go_roundw
                      case rel => exact ⟨k3 + 1, by omega, by go_num, HM2⟩
                      case measure => first | (simp [intOf]; done) | (simp [intOf]; omega)
                  · have hkl3 : ¬ (k3 : Int) < (i : Int) := by omega
                    clear HX HKV HXK
                    go_wp2_with fail
                    go_roundw
                    case rel => exact ⟨i + 1, by omega, by omega⟩
                    case measure => first | (simp [intOf]; done) | (simp [intOf]; omega)
          · have hil : ¬ (i : Int) < (n : Int) := by omega
            have HBI := show Hid (Below w.heap.size w wr) from HI.out.bel
            clear HI
            go_wp2_with fail
            refine Calls.mono (KH.out _ HBI.out) ?_
            rintro e w7 ⟨rfl, hb7⟩
            have HB := show Hid (Below w.heap.size w w7) from HBI.out.trans (hb7.mono HBI.out.size)
            clear hb7 HBI KH
            go_wp2_with fail
            go_ret
            exact ⟨rfl, HB.out⟩
    · have heb : (F.err != 0) = true := by simpa using he
      obtain ⟨hst, hvs, hpv⟩ := HRL.out.1 he
      have hln : F.st.length = 0 := by rw [hst]; rfl
      have c0 : w5.cell? ⟨b10, 0, none⟩ = some (.bool false) := by rw [← hpv]; exact H5.out.c10.cell 0
      have c2 : w5.cell? ⟨b10, 2, none⟩ = some (.int .i64 0) := by
        have := H5.out.c10.cell 2
        rw [this, hvs]
        rfl
      rw [hln] at c1
      have HB5 := show Hid (Below w.heap.size w w5) from H5.out.bel
      clear H5 HRL hst hvs hpv
      go_wp2_with fail
      refine Calls.mono (KH.out _ HB5.out) ?_
      rintro e w7 ⟨rfl, hb7⟩
      have HB := show Hid (Below w.heap.size w w7) from HB5.out.trans (hb7.mono HB5.out.size)
      clear hb7 HB5 KH
      go_wp2_with fail
      go_ret
      exact ⟨rfl, HB.out⟩
  · have H2 := show Hid (Below w.heap.size w w2) from H1.out.bel.trans (hb.mono H1.out.bel.size)
    clear hb H1 KT
    go_wp2_with fail
    refine Calls.mono (KH.out _ H2.out) ?_
    rintro e w7 ⟨rfl, hb7⟩
    have HB := show Hid (Below w.heap.size w w7) from H2.out.trans (hb7.mono H2.out.size)
    clear hb7 H2 KH
    go_wp2_with fail
    go_ret
    exact ⟨rfl, HB.out⟩
end Go.Proofs.YtkejippimkjjaaaDoor
