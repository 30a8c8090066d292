/-
  The document's calls Atom, Bot, Two, Imp, Not and Cut: for every text and number. No other condition.
-/
import Derived.Test.YtpddfooeaecekaaGreatDoorRG1
import Derived.Test.YtpddfooeaecekaaGreatDoorFG3
import Derived.Test.YtpddfooeaecekaaGreatDoorZG6
import Derived.Test.YtpddfooeaecekaaGreatDoorBG6
import Derived.Test.YtpddfooeaecekaaGreatDoorBG5
namespace Go.Proofs.YtpddfooeaecekaaGreatDoor
open Go.RowKit Go.Maps
open Fm (Nd)

section
variable (w : World) {c : Nat} {u : Value} {t : List Nd}
set_option maxHeartbeats 400000 in
theorem rtwo_any (h : Tr w c u t) (k x y : Int) (h0 : 0 ≤ k) (h1 : k ≤ 1024) (hx : Fm.i64 x) (hy : Fm.i64 y) :
    Calls Tryz.prog 59 #[.pointer (some ⟨c, 0, none⟩), .int .i64 k, .int .i64 x, .int .i64 y] w fun e w' => e = .returned (.tuple #[.int .i64 (Fm.put t (joinN k x y)).1, .int .i64 (Fm.put t (joinN k x y)).2.1]) ∧ AfterR w c u (Fm.put t (joinN k x y)).2.2 w' := by
  have K := show Hid (Calls Tryz.prog 43 #[.pointer (some ⟨c, 0, none⟩), .agg #[.int .i64 k, .string ⟨#[]⟩, .int .i64 x, .int .i64 y]] w fun e w' => e = .returned (.tuple #[.int .i64 (Fm.put t (joinN k x y)).1, .int .i64 (Fm.put t (joinN k x y)).2.1]) ∧ AfterR w c u (Fm.put t (joinN k x y)).2.2 w') from rput_any w h (joinN k x y) (good_joinN h0 h1 hx hy)
  generalize Fm.put t (joinN k x y) = r at *
  clear h
  go_enter Tryz.func59, Tryz.ntmps59
  go_wp2_with fail
  refine K.out.mono ?_
  rintro e w1 ⟨rfl, ha⟩
  have HA := show Hid _ from ha
  clear ha K
  go_wp2_with fail
  go_ret2
  exact ⟨rfl, HA.out⟩
set_option maxHeartbeats 400000 in
theorem rimp_any (h : Tr w c u t) (x y : Int) (hx : Fm.i64 x) (hy : Fm.i64 y) :
    Calls Tryz.prog 42 #[.pointer (some ⟨c, 0, none⟩), .int .i64 x, .int .i64 y] w fun e w' => e = .returned (.tuple #[.int .i64 (Fm.put t (joinN 5 x y)).1, .int .i64 (Fm.put t (joinN 5 x y)).2.1]) ∧ AfterR w c u (Fm.put t (joinN 5 x y)).2.2 w' := by
  have K := show Hid (Calls Tryz.prog 59 #[.pointer (some ⟨c, 0, none⟩), .int .i64 5, .int .i64 x, .int .i64 y] w fun e w' => e = .returned (.tuple #[.int .i64 (Fm.put t (joinN 5 x y)).1, .int .i64 (Fm.put t (joinN 5 x y)).2.1]) ∧ AfterR w c u (Fm.put t (joinN 5 x y)).2.2 w') from rtwo_any w h 5 x y (by omega) (by omega) hx hy
  generalize Fm.put t (joinN 5 x y) = r at *
  clear h
  go_enter Tryz.func42, Tryz.ntmps42
  go_wp2_with fail
  refine K.out.mono ?_
  rintro e w1 ⟨rfl, ha⟩
  have HA := show Hid _ from ha
  clear ha K
  go_wp2_with fail
  go_ret2
  exact ⟨rfl, HA.out⟩
set_option maxHeartbeats 1000000 in
theorem rcut_world {j : Nat} (h : Tr w c u t) (hj : j ≤ t.length) : (∀ p cp, u = .slice p t.length cp → ∀ u', (u' = .slice p j j) → AfterR w c u (t.take j) (w.setCell ⟨c, 0, none⟩ u')) := by
  rintro p cp rfl u' rfl
  refine ⟨.slice p j j, ⟨heap_setCell_same _ c 0 _ _ _ h.tab, ?_, Fm.ok_take h.ok j⟩, fun k hk => Or.inl (by cases p <;> exact hk), ⟨rfl, rfl, rfl, by simp [World.setCell], fun k hk hn => Below.heap_setCell _ _ _ _ (fun e => hn (Or.inl e))⟩⟩
  have hlj : (t.take j).length = j := by rw [List.length_take]; omega
  rcases h.row with ⟨hv, ht⟩ | ⟨g, cap, cur, hv, hg, hnc, hcm, hcs, htake⟩
  · obtain ⟨rfl, _, _⟩ := Value.slice.inj hv
    subst ht
    have : j = 0 := by simpa using hj
    subst this
    exact Or.inl ⟨rfl, rfl⟩
  · obtain ⟨rfl, _, _⟩ := Value.slice.inj hv
    have hcg : g ≠ c := fun e => h.uc (by rw [← e]; rfl)
    refine Or.inr ⟨g, j, cur, by rw [hlj], (Below.heap_setCell _ _ _ _ hcg).trans hg, by rw [hlj]; exact Nat.le_refl _, by unfold maxLen at *; omega, by omega, ?_⟩
    rw [hlj, ← cellsOf_take t j hj, ← htake, List.take_take, Nat.min_eq_left (by omega)]
set_option maxRecDepth 100000 in
set_option maxHeartbeats 1000000 in
theorem rcut_any (h : Tr w c u t) (n : Int) :
    Calls Tryz.prog 58 #[.pointer (some ⟨c, 0, none⟩), .int .i64 n] w fun e w' => e = .returned (.int .i64 (cutR t n).1) ∧ AfterR w c u (cutR t n).2 w' := by
  have c0 := h.c0
  have hf := h.fr
  have HT := show Hid (Tr w c u t) from h
  have hlen := h.ok.len
  have HCR := show Hid (cutR t n = if 0 ≤ n ∧ n ≤ t.length then (0, t.take n.toNat) else (2, t)) from rfl
  generalize cutR t n = r at *
  by_cases hn : 0 ≤ n ∧ n ≤ t.length
  · obtain ⟨j, rfl⟩ : ∃ j : Nat, n = j := ⟨n.toNat, by omega⟩
    have hj : j ≤ t.length := by omega
    have hr := HCR.out
    rw [if_pos hn] at hr
    simp only [Int.toNat_natCast] at hr
    subst hr
    have HW := show Hid (∀ p cp, u = .slice p t.length cp → ∀ u', (u' = .slice p j j) → AfterR w c u (t.take j) (w.setCell ⟨c, 0, none⟩ u')) from rcut_world w h hj
    have hj0 : ¬ (j : Int) < 0 := by omega
    have hj1 : ¬ (t.length : Int) < (j : Int) := by omega
    have hjl : (j : Int) ≤ (t.length : Int) := by omega
    rcases slice_cases h.row with ⟨rfl, rfl⟩ | ⟨g, cap, cur, rfl, -, hnc, hcm, -, -⟩
    · obtain rfl : j = 0 := by simpa using hj
      have HW2 := show Hid _ from HW.out none 0 rfl (.slice none 0 0) rfl
      clear h hn HCR HW
      go_enter Tryz.func58, Tryz.ntmps58
      go_wp2_with fail
      go_ret
      exact ⟨rfl, HW2.out⟩
    · unfold maxLen at hcm
      have hjc : (j : Int) ≤ (cap : Int) := by omega
      have hjc2 : j ≤ cap := by omega
      have HW2 := show Hid _ from HW.out _ cap rfl (.slice (some ⟨g, 0, none⟩) j j) rfl
      clear h hn HCR HW
      go_enter Tryz.func58, Tryz.ntmps58
      go_wp2_with fail
      go_ret
      exact ⟨rfl, HW2.out⟩
  · have hr := HCR.out
    rw [if_neg hn] at hr
    subst hr
    obtain ⟨p, cp, rfl⟩ := h.row.form
    clear h HCR
    by_cases hn0 : n < 0
    · go_enter Tryz.func58, Tryz.ntmps58
      go_wp2_with fail
      go_ret
      exact ⟨rfl, AfterR.of_below HT.out (Below.refl _ _)⟩
    · have hn1 : (t.length : Int) < n := by omega
      go_enter Tryz.func58, Tryz.ntmps58
      go_wp2_with fail
      go_ret
      exact ⟨rfl, AfterR.of_below HT.out (Below.refl _ _)⟩
end
end Go.Proofs.YtpddfooeaecekaaGreatDoor
/-
  The document's calls kind, with and to. No other condition than that the numbers are rows'.
-/
namespace Go.Proofs.YtpddfooeaecekaaGreatDoor
open Go.RowKit Go.Shelf Go.Maps
open Fm (Nd)
open Bt.Bs (Ok wd)
set_option linter.unusedSimpArgs false

theorem wpList_ldBQ {ops : Array Oper} {rest : List Oper} {o : Oper} {a : Act} {Q : Exit → Act → World → Prop} (w : World) (hg : Region.wanted o (yielded ops a.tmps) = true) (x : Operand) (hop : o.op = Op.load 25 x) (b k : Nat) (hx : a.eval x = .pointer (some ⟨b, k, none⟩)) {r : List Nat} {g : Int} (h : SeqIn w b k r g) (hs : r.length = 16)
    (hK : wpList Tryz.prog ops Q rest (a.put o.dst (.agg (Bt.cellsB r))) w) : wpList Tryz.prog ops Q (o :: rest) a w := by
  refine Bt.wpList_want hg fun K' hK' => ?_
  have hrun := loadBin w b k h hs
  unfold Oper.wp
  simp [execOp, hop, hx, hrun, Result.andThen]
  exact hK' _ _ hK
set_option maxRecDepth 100000 in
set_option maxHeartbeats 1000000 in
theorem rkind_any (w : World) {c : Nat} {u : Value} {t : List Nd} (h : Tr w c u t) (i : Nat) (hi : i < t.length) :
    Calls Tryz.prog 32 #[.pointer (some ⟨c, 0, none⟩), .int .i64 (i : Int)] w fun e w' => e = .returned (.int .i64 (t[i].k)) ∧ w' = w := by
  have c0 := h.c0
  have hlen := h.ok.len
  obtain ⟨p, cp, rfl, hc1, hc2, hat⟩ := h.row.isR.at
  obtain ⟨b, o, rfl, hat4⟩ := hat (by omega)
  have a0 := (hat4 w (Below.refl _ _) i hi).c0
  have hiI : (i : Int) < (t.length : Int) := by omega
  clear h hat hat4
  generalize t[i].k = x at *
  go_enter Tryz.func32, Tryz.ntmps32
  go_wp2_with fail
  go_ret
  exact ⟨rfl, rfl⟩
set_option maxRecDepth 100000 in
set_option maxHeartbeats 1000000 in
theorem rto_any (w : World) {r : List Nat} (hr : r.length = 16) (g x : Int) : Calls Tryz.prog 41 #[.agg (cellsQ r g), .int .i64 x] w fun e w' => e = .returned (.agg (cellsQ r x)) ∧ Below w.heap.size w w' := by
  go_enter Tryz.func41, Tryz.ntmps41
  go_wp2_with (refine wpList_box _ _ rfl _ rfl rfl ?_)
  intro w1 b1 hn1
  go_wp2_with (refine wpList_alloc _ rfl _ zeroValQ rfl ?_)
  intro w2 b2 hn2
  obtain ⟨rfl, rfl, hq⟩ := two_new hn1 hn2
  clear hn1 hn2
  have h16 := hq.s.goal hr
  have f16 := hq.s.fr 16
  have HQ := show Hid _ from hq.put (hq.s.setG hr x) (KpP.set (Kp.refl _ w2) 16 (.int .i64 x))
  clear hq
  go_wp2_with (first | (refine wpList_ldQQ _ _ rfl _ rfl HQ.out.s hr rfl ?_) | (refine wpList_stQ _ rfl rfl _ _ rfl _ rfl rfl HQ.out.z zero_len hr ?_))
  refine bodyPost_ret (results_seq1 rfl _ _ (w.heap.size + 1) rfl (HQ.out.z.setRow _ _) hr) rfl ?_
  exact ⟨rfl, below_setRow HQ.out.bel (Nat.le_succ _)⟩
theorem putI_nat {r : List Nat} {n : Nat} (h : n < 1024) : (Bt.putI r (n : Int)).1 = Bt.Bs.put r n := by
  unfold Bt.putI
  rw [if_pos ⟨by omega, by omega⟩]
  simp
set_option maxRecDepth 100000 in
set_option maxHeartbeats 1000000 in
theorem rwith_any (w : World) {r : List Nat} (hr : Ok r) (g : Int) (x y : Nat) (hx : x < 1024) (hy : y < 1024) : Calls Tryz.prog 39 #[.agg (cellsQ r g), .int .i64 (x : Int), .int .i64 (y : Int)] w fun e w' => e = .returned (.agg (cellsQ (withF r [(x : Int), (y : Int)]) g)) ∧ Below w.heap.size w w' := by
  have hl := hr.1
  have hr1 := putI_okZ hr (x : Int)
  have hr2 := putI_okZ hr1 (y : Int)
  have hl1 := hr1.1
  have hl2 := hr2.1
  show Calls Tryz.prog 39 #[.agg (cellsQ r g), .int .i64 (x : Int), .int .i64 (y : Int)] w fun e w' => e = .returned (.agg (cellsQ (Bt.putI (Bt.putI r (x : Int)).1 (y : Int)).1 g)) ∧ Below w.heap.size w w'
  have K1 := show Hid (∀ W : World, Calls Tryz.prog 57 #[.agg (Bt.cellsB r), .int .i64 (x : Int)] W fun e w' => e = .returned (.agg (Bt.cellsB (Bt.putI r (x : Int)).1)) ∧ Below W.heap.size W w') from fun W => by rw [putI_nat hx]; exact Bt.with_any W hr x hx
  have K2 := show Hid (∀ W : World, Calls Tryz.prog 57 #[.agg (Bt.cellsB (Bt.putI r (x : Int)).1), .int .i64 (y : Int)] W fun e w' => e = .returned (.agg (Bt.cellsB (Bt.putI (Bt.putI r (x : Int)).1 (y : Int)).1)) ∧ Below W.heap.size W w') from fun W => by rw [putI_nat (n := y) hy]; exact Bt.with_any W hr1 y hy
  generalize (Bt.putI (Bt.putI r (x : Int)).1 (y : Int)).1 = r2 at *
  generalize (Bt.putI r (x : Int)).1 = r1 at *
  clear hr hr1 hr2 hx hy
  go_enter Tryz.func39, Tryz.ntmps39
  go_wp2_with (refine wpList_box 27 _ rfl _ rfl rfl ?_)
  intro w1 b1 hn1
  go_wp2_with (refine wpList_alloc 27 rfl _ zeroValQ rfl ?_)
  intro w2 b2 hn2
  obtain ⟨rfl, rfl, hq⟩ := two_new hn1 hn2
  have H2 := show Hid _ from hq
  clear hn1 hn2 hq
  go_wp2_with (refine wpList_ldBQ _ rfl _ rfl w.heap.size 0 rfl H2.out.s.seqIn hl ?_)
  refine Calls.mono (K1.out w2) ?_
  rintro e w3 ⟨rfl, hb3⟩
  have H3 := show Hid _ from H2.out.later hb3
  clear H2 hb3 K1
  go_wp2_with fail
  refine Calls.mono (K2.out w3) ?_
  rintro e w4 ⟨rfl, hb4⟩
  have H4 := show Hid _ from H3.out.later hb4
  clear H3 hb4 K2
  go_wp2_with (refine wpList_stBQ _ rfl rfl _ _ rfl w.heap.size rfl rfl H4.out.s hl hl2 ?_)
  intro w5 hs5 hk5
  have H5 := show Hid _ from H4.out.put hs5 hk5
  clear H4 hs5 hk5
  go_wp2_with (first | (refine wpList_ldQQ _ _ rfl _ rfl H5.out.s hl2 rfl ?_) | (refine wpList_stQ _ rfl rfl _ _ rfl _ rfl rfl H5.out.z zero_len hl2 ?_))
  refine bodyPost_ret (results_seq1 rfl _ _ (w.heap.size + 1) rfl (H5.out.z.setRow _ _) hl2) rfl ?_
  exact ⟨rfl, below_setRow H5.out.bel (Nat.le_succ _)⟩
end Go.Proofs.YtpddfooeaecekaaGreatDoor
/-
  The document's call Right of a sequent: for every table of the document's that calls made and every sequent. No other condition.
-/
namespace Go.Proofs.YtpddfooeaecekaaGreatDoor
open Go.RowKit Go.Shelf Go.Maps
open Fm (Nd)
open Bt.Bs (Ok wd)
set_option linter.unusedSimpArgs false

def rightQ (t : List Nd) (r : List Nat) (g : Int) : Bool := ((Bt.Bs.nums r).map fun n : Nat => (n : Int)).all (Fm.has t) && Fm.has t g
theorem ref_right {t : List Nd} {r : List Nat} (hr : Ok r) (g : Int) : refZ t r g = if rightQ t r g then 0 else 31 := by
  unfold refZ rightQ
  have hn : (Bt.nextI r (t.length : Int)).isSome = !((Bt.Bs.nums r).map fun n : Nat => (n : Int)).all (Fm.has t) := by
    unfold Bt.nextI
    rw [Int.toNat_natCast]
    cases h : Bt.Bs.next r t.length with
    | none =>
      have h2 := Bt.Bs.next_none hr h
      have : ((Bt.Bs.nums r).map fun n : Nat => (n : Int)).all (Fm.has t) = true := by
        rw [List.all_eq_true]
        intro x hx
        obtain ⟨n, hn, rfl⟩ := List.mem_map.1 hx
        have h3 := (Bt.Bs.mem_nums.1 hn).2
        rw [Fm.has_iff]
        refine ⟨by omega, ?_⟩
        by_cases hlt : n < t.length
        · omega
        · rw [h2 n (by omega)] at h3
          cases h3
      rw [this]
      rfl
    | some m =>
      obtain ⟨h1, h2, h3, _⟩ := Bt.Bs.next_lt h
      have : ((Bt.Bs.nums r).map fun n : Nat => (n : Int)).all (Fm.has t) = false := by
        rw [List.all_eq_false]
        refine ⟨(m : Int), List.mem_map.2 ⟨m, Bt.Bs.mem_nums.2 ⟨h2, h3⟩, rfl⟩, ?_⟩
        rw [Fm.has_iff]
        omega
      rw [this]
      rfl
  rw [hn]
  cases ((Bt.Bs.nums r).map fun n : Nat => (n : Int)).all (Fm.has t) <;> cases Fm.has t g <;> rfl
structure CK (w W : World) (r : List Nat) (g : Int) : Prop where
  seq : SeqAt W w.heap.size r g
  bel : Below w.heap.size w W
theorem CK.later {w W W' : World} {r : List Nat} {g : Int} (h : CK w W r g) (hb : Below W.heap.size W W') : CK w W' r g := ⟨h.seq.later hb h.seq.lt, h.bel.trans (hb.mono h.bel.size)⟩
set_option maxRecDepth 100000 in
set_option maxHeartbeats 2000000 in
theorem rright_any (w : World) {c : Nat} {u : Value} {t : List Nd} (hT : Tr w c u t) {r : List Nat} (hr : Ok r) (g : Int) :
    Calls Tryz.prog 10 #[.pointer (some ⟨c, 0, none⟩), .agg (cellsQ r g)] w fun e w' => e = .returned (.bool (rightQ t r g)) ∧ Below w.heap.size w w' := by
  have hl := hr.1
  have hnl : (Bt.Bs.nums r).length ≤ 1024 := Bt.Bs.nums_len_le r
  have KL := show Hid (∀ w', Calls Tryz.prog 29 #[.agg (Bt.cellsB r)] w' fun e w'' => ∃ p cc, e = .returned (.slice p (Bt.Bs.nums r).length cc) ∧ (∀ k (hk : k < (Bt.Bs.nums r).length), ∃ b o, p = some ⟨b, o, none⟩ ∧ w''.cell? ⟨b, o + k, none⟩ = some (.int .i64 (((Bt.Bs.nums r)[k] : Nat) : Int))) ∧ Below w'.heap.size w' w'') from fun w' => (Bt.rlist_any w' hr).mono fun e w'' ⟨v, he, ho, hb⟩ => by
    obtain ⟨p, cc, hv, _, hcell⟩ := ho.isL hnl
    rw [List.length_map] at hv
    refine ⟨p, cc, by rw [he, hv], fun k hk => ?_, hb⟩
    obtain ⟨b, o, hp, hc⟩ := hcell k (by simpa using hk)
    exact ⟨b, o, hp, by simpa using hc⟩
  have KH := show Hid (∀ w' x, Below w.heap.size w w' → Calls Tryz.prog 30 #[.pointer (some ⟨c, 0, none⟩), .int .i64 x] w' fun e w'' => e = .returned (.bool (Fm.has t x)) ∧ w'' = w') from fun w' x hb => rhas_any w' (hT.later hb) x
  have HA := show Hid (∀ k (hk : k < (Bt.Bs.nums r).length), Fm.has t (((Bt.Bs.nums r)[k] : Nat) : Int) = false → rightQ t r g = false) from fun k hk h => by
    unfold rightQ
    rw [Bool.and_eq_false_iff]
    left
    rw [List.all_eq_false]
    exact ⟨_, List.mem_map.2 ⟨_, List.getElem_mem hk, rfl⟩, by rw [h]; simp⟩
  have HE := show Hid ((∀ k (hk : k < (Bt.Bs.nums r).length), Fm.has t (((Bt.Bs.nums r)[k] : Nat) : Int) = true) → rightQ t r g = Fm.has t g) from fun h => by
    unfold rightQ
    have h2 : ((Bt.Bs.nums r).map fun n : Nat => (n : Int)).all (Fm.has t) = true := by
      rw [List.all_eq_true]
      intro x hx
      obtain ⟨n, hn, rfl⟩ := List.mem_map.1 hx
      obtain ⟨k, hk, rfl⟩ := List.mem_iff_getElem.1 hn
      exact h k hk
    rw [h2, Bool.true_and]
  have HC := show Hid (CK w (w.alloc (.cells (cellsQ r g) 27)) r g) from ⟨seq_new w r g, below_alloc w _⟩
  clear hT hr
  generalize rightQ t r g = rq at *
  generalize Bt.Bs.nums r = l at *
  go_enter Tryz.func10, Tryz.ntmps10
  go_wp2_with (refine wpList_ldQ _ _ rfl _ rfl HC.out.seq hl rfl ?_)
  refine (KL.out _).mono ?_
  rintro e w1 ⟨p, cc, rfl, hcell, hb1⟩
  have H1 := show Hid (CK w w1 r g) from HC.out.later hb1
  have HL := show Hid (∀ k (hk : k < l.length), ∃ b o, p = some ⟨b, o, none⟩ ∧ w1.cell? ⟨b, o + k, none⟩ = some (.int .i64 ((l[k] : Nat) : Int))) from hcell
  clear hcell hb1 HC KL
  go_wp2_with fail
  go_loopw [6] (fun iv wr => ∃ k : Nat, k ≤ l.length ∧ iv = .int .i64 (k : Int) ∧ wr = w1 ∧ Hid (∀ j (hj : j < l.length), j < k → Fm.has t ((l[j] : Nat) : Int) = true)) (fun iv _ => l.length - (intOf iv).toNat)
  case atStart => exact ⟨0, by omega, rfl, rfl, fun j _ h => by omega⟩
  case round =>
    obtain ⟨k, hk, rfl, hwr, HI⟩ := hrel
    subst wr
    by_cases hlt : k < l.length
    · have hki : (k : Int) < (l.length : Int) := by omega
      obtain ⟨b, o, rfl, hc⟩ := HL.out k hlt
      have KX := show Hid _ from KH.out w1 ((l[k] : Nat) : Int) H1.out.bel
      cases hx : Fm.has t ((l[k] : Nat) : Int)
      · have hq := HA.out k hlt hx
        rw [hx] at KX
        generalize ((l[k] : Nat) : Int) = x at *
        subst hq
        clear HA HE HI KH HL
        go_wp2_with fail
        refine Calls.mono KX.out ?_
        rintro e w' ⟨rfl, hw'⟩
        subst w'
        clear KX
        go_wp2_with fail
        go_ret
        exact ⟨rfl, H1.out.bel⟩
      · have HI2 := show Hid (∀ j (hj : j < l.length), j < k + 1 → Fm.has t ((l[j] : Nat) : Int) = true) from fun j hj h => by
          by_cases e : j = k
          · subst e; exact hx
          · exact HI.out j hj (by omega)
        rw [hx] at KX
        generalize ((l[k] : Nat) : Int) = x at *
        clear HA HE HI KH HL
        go_wp2_with fail
        refine Calls.mono KX.out ?_
        rintro e w' ⟨rfl, hw'⟩
        subst w'
        clear KX
        go_wp2_with fail
        go_roundw
        case rel => exact ⟨k + 1, by omega, by go_num, by simp, HI2⟩
        case measure => first | (simp [intOf]; done) | (simp [intOf]; omega)
    · have hki : ¬ (k : Int) < (l.length : Int) := by omega
      have hq := HE.out (fun j hj => HI.out j hj (by omega))
      subst hq
      have c0 := H1.out.seq.goal hl
      have KX := show Hid _ from KH.out w1 g H1.out.bel
      clear HA HE HI KH HL
      go_wp2_with fail
      refine Calls.mono KX.out ?_
      rintro e w' ⟨rfl, hw'⟩
      subst w'
      clear KX
      go_wp2_with fail
      go_ret
      exact ⟨rfl, H1.out.bel⟩
end Go.Proofs.YtpddfooeaecekaaGreatDoor
/-
  The document's call Fits: as the program's, for every table, every sequent, every number of a rule and of a formula. (Written by genzrfits.py.)
-/
namespace Go.Proofs.YtpddfooeaecekaaGreatDoor
open Go.RowKit Go.Shelf Go.Maps
open Fm (Nd)
open Bt.Bs (Ok wd)
set_option linter.unusedSimpArgs false

theorem put_same_iff {r : List Nat} (hr : Ok r) {n : Nat} (hn : n < 1024) : (Bt.Bs.put r n = r) ↔ Bt.Bs.has r n = true := by
  constructor
  · intro h
    have := Bt.Bs.has_put hr hn n
    rw [h] at this
    simpa using this
  · intro h
    have ho : Ok (Bt.Bs.put r n) := by have := putI_okZ hr (n : Int); rwa [putI_nat hn] at this
    refine Bt.Bs.has_ext ho hr fun m _ => ?_
    rw [Bt.Bs.has_put hr hn]
    by_cases e : m = n
    · subst e; rw [h]; rfl
    · simp [e]
theorem inL_has {r : List Nat} (hr : Ok r) {n : Nat} (hn : n < 1024) : inL r (n : Int) = Bt.Bs.hasI r (n : Int) := by
  unfold inL Bt.Bs.hasI
  rw [putI_nat hn, Int.toNat_natCast]
  have h1 : decide ((0 : Int) ≤ (n : Int)) = true := by simp
  have h2 : decide ((n : Int) < 1024) = true := by simp; omega
  rw [h1, h2, Bool.true_and, Bool.true_and, Bool.eq_iff_iff, decide_eq_true_iff]
  exact put_same_iff hr hn
theorem kids {t : List Nd} (hO : Fm.Ok t) {i : Nat} (hi : i < t.length) (hj : t[i].k = 3 ∨ t[i].k = 4 ∨ t[i].k = 5) : ∃ x y : Nat, t[i].l = x ∧ t[i].r = y ∧ x < i ∧ y < i := by
  have h := hO.chk i hi
  unfold Fm.check at h
  cases hs : Fm.shaped (t.take i) t[i] with
  | false => rw [hs, if_neg Bool.false_ne_true] at h; omega
  | true =>
    unfold Fm.shaped at hs
    have n1 : ¬ t[i].k = 1 := by omega
    have n2 : ¬ t[i].k = 2 := by omega
    rw [if_neg n1, if_neg n2] at hs
    split at hs
    · simp only [Bool.and_eq_true] at hs
      have h1 := Fm.has_iff.1 hs.1.2
      have h2 := Fm.has_iff.1 hs.2
      have hl : (t.take i).length = i := by rw [List.length_take]; omega
      rw [hl] at h1 h2
      exact ⟨t[i].l.toNat, t[i].r.toNat, by omega, by omega, by omega, by omega⟩
    · cases hs
theorem nodeOf_nat {t : List Nd} {i : Nat} (hi : i < t.length) : nodeOf t (i : Int) = t[i] := by
  unfold nodeOf
  rw [if_pos (Fm.has_iff.2 ⟨by omega, by omega⟩)]
  simp [List.getD, hi]
theorem run_ld4 (w : World) {b o : Nat} {n : Nd} (h : At4 w b o n) : (Instr.loadAt 65 (.pointer (some ⟨b, o, none⟩))).run Tryz.prog w = .ok (.agg (ndC n).toArray) w :=
  run_loadAt_mid (P := Tryz.prog) w b o 65 (ndC n) _ (fun j v hv => by
    match j, hv with
    | 0, hv => rw [Nat.add_zero, h.c0]; exact hv
    | 1, hv => rw [h.c1]; exact hv
    | 2, hv => rw [h.c2]; exact hv
    | 3, hv => rw [h.c3]; exact hv) Tryz.underlying65 rfl (by rw [sizeN]; rfl)
theorem wpList_ld4 {ops : Array Oper} {rest : List Oper} {o : Oper} {a : Act} {Q : Exit → Act → World → Prop} (w : World) (hg : Region.wanted o (yielded ops a.tmps) = true) (x : Operand) (hop : o.op = Op.load 65 x) (b k : Nat) (hx : a.eval x = .pointer (some ⟨b, k, none⟩)) {n : Nd} (h : At4 w b k n)
    (hK : wpList Tryz.prog ops Q rest (a.put o.dst (.agg (ndC n).toArray)) w) : wpList Tryz.prog ops Q (o :: rest) a w := by
  refine Bt.wpList_want hg fun K' hK' => ?_
  have hrun := run_ld4 w h
  unfold Oper.wp
  simp [execOp, hop, hx, hrun, Result.andThen]
  exact hK' _ _ hK
theorem ndC_all (n : Nd) : (ndC n).toArray.all (·.oneCell') = true := by simp [ndC, Value.oneCell']
structure RF (w W : World) (b5 b9 : Nat) (r : List Nat) (g : Int) (n : Nd) : Prop where
  s : SeqAt W b5 r g
  n : Cl W b9 (ndC n).toArray 65
  bel : Below w.heap.size w W
theorem RF.later {w W W' : World} {b5 b9 : Nat} {r : List Nat} {g : Int} {n : Nd} (h : RF w W b5 b9 r g n) (hb : Below W.heap.size W W') : RF w W' b5 b9 r g n := ⟨h.s.later hb h.s.lt, h.n.later hb, h.bel.trans (hb.mono h.bel.size)⟩
set_option maxRecDepth 100000 in
set_option maxHeartbeats 1000000 in
theorem rfits_no (w : World) {c : Nat} {u : Value} {t : List Nd} (hT : Tr w c u t) {r : List Nat} (g ru main : Int) (hm : Fm.has t main = false) :
    Calls Tryz.prog 15 #[.pointer (some ⟨c, 0, none⟩), .agg (cellsQ r g), .int .i64 ru, .int .i64 main] w fun e w' => e = .returned (.bool (findF t r g ru main)) ∧ Below w.heap.size w w' := by
  have hf : findF t r g ru main = false := by unfold findF; rw [hm]; rfl
  rw [hf]
  have KH := show Hid (∀ W : World, Below w.heap.size w W → Calls Tryz.prog 30 #[.pointer (some ⟨c, 0, none⟩), .int .i64 main] W fun e w'' => e = .returned (.bool false) ∧ w'' = W) from fun W hb => by have := rhas_any W (hT.later hb) main; rw [hm] at this; exact this
  clear hT hm hf
  go_enter Tryz.func15, Tryz.ntmps15
  go_wp2_with (refine wpList_box 27 _ rfl _ rfl rfl ?_)
  intro w1 b5 hn1
  go_wp2_with fail
  refine Calls.mono (KH.out _ hn1.bel) ?_
  rintro e w2 ⟨rfl, hw⟩
  subst w2
  go_wp2_with fail
  go_ret
  exact ⟨rfl, hn1.bel⟩
end Go.Proofs.YtpddfooeaecekaaGreatDoor
