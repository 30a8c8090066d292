/-
  The document's calls Atom, Bot, Two, Imp, Not and Cut: for every text and number. No other condition.
-/
import Derived.Test.YtkmmlimekachbaaGreatDoorRG1
import Derived.Test.YtkmmlimekachbaaGreatDoorQG6
import Derived.Test.YtkmmlimekachbaaGreatDoorQRight
import Derived.Test.YtkmmlimekachbaaGreatDoorQHG
namespace Go.Proofs.YtkmmlimekachbaaGreatDoor
open Go.RowKit Go.Maps
open Fm (Nd)

section
variable (w : World) {c : Nat} {u : Value} {t : List Nd}
set_option maxHeartbeats 400000 in
theorem rtwo_any (h : Tr w c u t) (k x y : Int) (h0 : 0 ≤ k) (h1 : k ≤ 1024) (hx : Fm.i64 x) (hy : Fm.i64 y) :
    Calls Tryz.prog 70 #[.pointer (some ⟨c, 0, none⟩), .int .i64 k, .int .i64 x, .int .i64 y] w fun e w' => e = .returned (.tuple #[.int .i64 (Fm.put t (joinN k x y)).1, .int .i64 (Fm.put t (joinN k x y)).2.1]) ∧ AfterR w c u (Fm.put t (joinN k x y)).2.2 w' := by
  have K := show Hid (Calls Tryz.prog 76 #[.pointer (some ⟨c, 0, none⟩), .agg #[.int .i64 k, .string ⟨#[]⟩, .int .i64 x, .int .i64 y]] w fun e w' => e = .returned (.tuple #[.int .i64 (Fm.put t (joinN k x y)).1, .int .i64 (Fm.put t (joinN k x y)).2.1]) ∧ AfterR w c u (Fm.put t (joinN k x y)).2.2 w') from rput_any w h (joinN k x y) (good_joinN h0 h1 hx hy)
  generalize Fm.put t (joinN k x y) = r at *
  clear h
  go_enter Tryz.func70, Tryz.ntmps70
  go_wp2_with fail
  refine K.out.mono ?_
  rintro e w1 ⟨rfl, ha⟩
  have HA := show Hid _ from ha
  clear ha K
  go_wp2_with fail
  go_ret2
  exact ⟨rfl, HA.out⟩
set_option maxHeartbeats 400000 in
theorem rimp_any (h : Tr w c u t) (x y : Int) (hx : Fm.i64 x) (hy : Fm.i64 y) :
    Calls Tryz.prog 72 #[.pointer (some ⟨c, 0, none⟩), .int .i64 x, .int .i64 y] w fun e w' => e = .returned (.tuple #[.int .i64 (Fm.put t (joinN 5 x y)).1, .int .i64 (Fm.put t (joinN 5 x y)).2.1]) ∧ AfterR w c u (Fm.put t (joinN 5 x y)).2.2 w' := by
  have K := show Hid (Calls Tryz.prog 70 #[.pointer (some ⟨c, 0, none⟩), .int .i64 5, .int .i64 x, .int .i64 y] w fun e w' => e = .returned (.tuple #[.int .i64 (Fm.put t (joinN 5 x y)).1, .int .i64 (Fm.put t (joinN 5 x y)).2.1]) ∧ AfterR w c u (Fm.put t (joinN 5 x y)).2.2 w') from rtwo_any w h 5 x y (by omega) (by omega) hx hy
  generalize Fm.put t (joinN 5 x y) = r at *
  clear h
  go_enter Tryz.func72, Tryz.ntmps72
  go_wp2_with fail
  refine K.out.mono ?_
  rintro e w1 ⟨rfl, ha⟩
  have HA := show Hid _ from ha
  clear ha K
  go_wp2_with fail
  go_ret2
  exact ⟨rfl, HA.out⟩
theorem rcut_world {j : Nat} (h : Tr w c u t) (hj : j ≤ t.length) : (∀ p cp, u = .slice p t.length cp → ∀ u', (u' = .slice p j j) → AfterR w c u (t.take j) (w.setCell ⟨c, 0, none⟩ u')) := by
  rintro p cp rfl u' rfl
  refine ⟨.slice p j j, ⟨heap_setCell_same _ c 0 _ _ _ h.tab, ?_, Fm.ok_take h.ok j⟩, fun k hk => Or.inl (by cases p <;> exact hk), ⟨rfl, rfl, rfl, by simp [World.setCell], fun k hk hn => Below.heap_setCell _ _ _ _ (fun e => hn (Or.inl e))⟩⟩
  have hlj : (t.take j).length = j := by rw [List.length_take]; omega
  rcases h.row with ⟨hv, ht⟩ | ⟨g, cap, cur, hv, hg, hnc, hcm, hcs, htake⟩
  · obtain ⟨rfl, _, _⟩ := Value.slice.inj hv
    subst ht
    have : j = 0 := by simpa using hj
    subst this
    exact Or.inl ⟨rfl, rfl⟩
  · obtain ⟨rfl, _, _⟩ := Value.slice.inj hv
    have hcg : g ≠ c := fun e => h.uc (by rw [← e]; rfl)
    refine Or.inr ⟨g, j, cur, by rw [hlj], (Below.heap_setCell _ _ _ _ hcg).trans hg, by rw [hlj]; exact Nat.le_refl _, by unfold maxLen at *; omega, by omega, ?_⟩
    rw [hlj, ← cellsOf_take t j hj, ← htake, List.take_take, Nat.min_eq_left (by omega)]
set_option maxRecDepth 100000 in
set_option maxHeartbeats 1000000 in
theorem rcut_any (h : Tr w c u t) (n : Int) :
    Calls Tryz.prog 71 #[.pointer (some ⟨c, 0, none⟩), .int .i64 n] w fun e w' => e = .returned (.int .i64 (cutR t n).1) ∧ AfterR w c u (cutR t n).2 w' := by
  have c0 := h.c0
  have hf := h.fr
  have HT := show Hid (Tr w c u t) from h
  have hlen := h.ok.len
  have HCR := show Hid (cutR t n = if 0 ≤ n ∧ n ≤ t.length then (0, t.take n.toNat) else (2, t)) from rfl
  generalize cutR t n = r at *
  by_cases hn : 0 ≤ n ∧ n ≤ t.length
  · obtain ⟨j, rfl⟩ : ∃ j : Nat, n = j := ⟨n.toNat, by omega⟩
    have hj : j ≤ t.length := by omega
    have hr := HCR.out
    rw [if_pos hn] at hr
    simp only [Int.toNat_natCast] at hr
    subst hr
    have HW := show Hid (∀ p cp, u = .slice p t.length cp → ∀ u', (u' = .slice p j j) → AfterR w c u (t.take j) (w.setCell ⟨c, 0, none⟩ u')) from rcut_world w h hj
    have hj0 : ¬ (j : Int) < 0 := by omega
    have hj1 : ¬ (t.length : Int) < (j : Int) := by omega
    have hjl : (j : Int) ≤ (t.length : Int) := by omega
    rcases slice_cases h.row with ⟨rfl, rfl⟩ | ⟨g, cap, cur, rfl, -, hnc, hcm, -, -⟩
    · obtain rfl : j = 0 := by simpa using hj
      have HW2 := show Hid _ from HW.out none 0 rfl (.slice none 0 0) rfl
      clear h hn HCR HW
      go_enter Tryz.func71, Tryz.ntmps71
      go_wp2_with fail
      go_ret
      exact ⟨rfl, HW2.out⟩
    · unfold maxLen at hcm
      have hjc : (j : Int) ≤ (cap : Int) := by omega
      have hjc2 : j ≤ cap := by omega
      have HW2 := show Hid _ from HW.out _ cap rfl (.slice (some ⟨g, 0, none⟩) j j) rfl
      clear h hn HCR HW
      go_enter Tryz.func71, Tryz.ntmps71
      go_wp2_with fail
      go_ret
      exact ⟨rfl, HW2.out⟩
  · have hr := HCR.out
    rw [if_neg hn] at hr
    subst hr
    obtain ⟨p, cp, rfl⟩ := h.row.form
    clear h HCR
    by_cases hn0 : n < 0
    · go_enter Tryz.func71, Tryz.ntmps71
      go_wp2_with fail
      go_ret
      exact ⟨rfl, AfterR.of_below HT.out (Below.refl _ _)⟩
    · have hn1 : (t.length : Int) < n := by omega
      go_enter Tryz.func71, Tryz.ntmps71
      go_wp2_with fail
      go_ret
      exact ⟨rfl, AfterR.of_below HT.out (Below.refl _ _)⟩
end
end Go.Proofs.YtkmmlimekachbaaGreatDoor
/-
  The document's Whole and Curry: the same answers as the program's. No condition.
-/
namespace Go.Proofs.YtkmmlimekachbaaGreatDoor
open Go.RowKit Go.Maps
open Fm (Nd)
open Bt.Bs (Ok)

theorem up_no {p : Nat → Bool} : ∀ {f n : Nat}, Bt.Bs.up p f n = none → ∀ k, n ≤ k → k < n + f → p k = false
  | 0, _, _, k, h1, h2 => by omega
  | f + 1, n, h, k, h1, h2 => by
    unfold Bt.Bs.up at h
    cases hp : p n with
    | true => rw [hp] at h; cases h
    | false =>
      rw [hp] at h
      simp only [Bool.false_eq_true, if_false] at h
      by_cases e : k = n
      · subst e; exact hp
      · exact up_no h k (by omega) (by omega)
theorem nums_none {r : List Nat} (h : Bt.Bs.next r 0 = none) : Bt.Bs.nums r = [] := by
  unfold Bt.Bs.nums
  rw [List.filter_eq_nil_iff]
  intro k hk
  have := up_no h k (by omega) (by have := List.mem_range.1 hk; omega)
  simp [this]
set_option maxRecDepth 100000 in
theorem nums_some {r : List Nat} (hr : Ok r) {a : Nat} (h : Bt.Bs.next r 0 = some a) : a < 1024 ∧ Bt.Bs.nums r = a :: Bt.Bs.nums (Bt.Bs.drop r a) := by
  obtain ⟨-, h2, h3, h4⟩ := Bt.Bs.up_some h
  have ha : a < 1024 := by omega
  refine ⟨ha, ?_⟩
  unfold Bt.Bs.nums
  have e : List.range 1024 = List.range' 0 a ++ a :: List.range' (a + 1) (1023 - a) := by
    rw [List.range_eq_range']
    have h5 : List.range' 0 1024 = List.range' 0 a ++ List.range' a (1024 - a) := by
      have := @List.range'_append_1 0 a (1024 - a)
      rw [Nat.zero_add] at this
      rw [this]
      congr 1
      omega
    rw [h5, show 1024 - a = (1023 - a) + 1 by omega, List.range'_succ]
  rw [e, List.filter_append, List.filter_append]
  have n1 : (List.range' 0 a).filter (Bt.Bs.has r) = [] := by
    rw [List.filter_eq_nil_iff]
    intro k hk
    have := List.mem_range'_1.1 hk
    simp [h4 k (by omega) (by omega)]
  have n2 : (List.range' 0 a).filter (Bt.Bs.has (Bt.Bs.drop r a)) = [] := by
    rw [List.filter_eq_nil_iff]
    intro k hk
    have := List.mem_range'_1.1 hk
    simp [Bt.Bs.has_drop hr ha, h4 k (by omega) (by omega)]
  have n3 : Bt.Bs.has (Bt.Bs.drop r a) a = false := by rw [Bt.Bs.has_drop hr ha]; simp
  rw [n1, n2, List.nil_append, List.nil_append, List.filter_cons, List.filter_cons, if_pos h3, n3, if_neg (by simp)]
  refine congrArg (List.cons a) (List.filter_congr ?_)
  intro k hk
  have := List.mem_range'_1.1 hk
  rw [Bt.Bs.has_drop hr ha]
  simp [show k ≠ a by omega]
theorem whole_nil {t : List Nd} {r : List Nat} {g : Int} (hr : Ok r) (h : rightQ t r g = true) (hn : Bt.Bs.nums r = []) : wholeQ t r g = ((g, 0), t) := by
  rw [wholeQ_n, chk_right, h, if_pos rfl, if_pos rfl]
  cases hx : Bt.Bs.next r 0 with
  | none => rfl
  | some a => rw [(nums_some hr hx).2] at hn; cases hn
set_option maxRecDepth 100000 in
theorem whole_cons {t : List Nd} {r : List Nat} {g : Int} (hr : Ok r) (h : rightQ t r g = true) {a : Nat} {l : List Nat} (hn : Bt.Bs.nums r = a :: l) : wholeQ t r g = wholeE t g (andF t a l) := by
  rw [wholeQ_n, chk_right, h, if_pos rfl, if_pos rfl]
  cases hx : Bt.Bs.next r 0 with
  | none => rw [nums_none hx] at hn; cases hn
  | some b =>
    obtain ⟨h1, h2⟩ := nums_some hr hx
    rw [h2] at hn
    injection hn with e1 e2
    subst e1
    show wholeE t g (andF t b (Bt.Bs.nums (Bt.dropI r (b : Int)))) = _
    rw [Bt.dropI_nat r h1, e2]
theorem right_not {t : List Nd} {r : List Nat} {g : Int} (h : rightQ t r g = false) : wholeQ t r g = ((0, 31), t) ∧ curryQ t r g = ((0, 31), t) := by
  rw [wholeQ_n]
  unfold curryQ
  rw [chk_right, h]
  exact ⟨rfl, rfl⟩
structure Way (t t1 : List Nd) (a : Int) : Prop where
  ok : Fm.Ok t1
  ix : Fm.i64 a
  on : ∃ s, t1 = t ++ s
theorem Way.put {t t1 : List Nd} {a x y : Int} (h : Way t t1 a) {k : Int} (h0 : 0 ≤ k) (h1 : k ≤ 1024) (hx : Fm.i64 x) (hy : Fm.i64 y) : Way t (Fm.put t1 (joinN k x y)).2.2 (Fm.put t1 (joinN k x y)).1 := by
  obtain ⟨s, hs⟩ := h.on
  obtain ⟨_, s2, h2⟩ := Fm.put_len t1 (joinN k x y)
  have h3 := Fm.put_id h.ok (joinN k x y)
  exact ⟨Fm.ok_put h.ok (good_joinN h0 h1 hx hy), Fm.i64_small h3.1 h3.2, s ++ s2, by rw [h2, hs, List.append_assoc]⟩
theorem Way.cut {t t1 : List Nd} {a : Int} (h : Way t t1 a) : cutR t1 (t.length : Int) = (0, t) := by
  obtain ⟨s, rfl⟩ := h.on
  unfold cutR
  rw [if_pos ⟨by omega, by simp; omega⟩]
  simp
def WhI (t : List Nd) (l : List Nat) (k : Nat) (a : Int) (t1 : List Nd) : Prop := andF t (l.headD 0 : Nat) ((l.drop 1).take (k - 1)) = ((a, 0), t1) ∧ Way t t1 a
theorem small_i64 {n : Nat} (h : n < 1024) : Fm.i64 (n : Int) := Fm.i64_small (by omega) (by omega)
theorem whI_start {t : List Nd} (ht : Fm.Ok t) {l : List Nat} (hl : ∀ n ∈ l, n < 1024) (h : 0 < l.length) : WhI t l 1 (l[0] : Nat) t := by
  match l, h with
  | a :: l, _ => exact ⟨rfl, ht, small_i64 (hl a (by simp)), [], by simp⟩
theorem take_next {l : List Nat} {k : Nat} (h1 : 0 < k) (hk : k < l.length) : (l.drop 1).take (k + 1 - 1) = (l.drop 1).take (k - 1) ++ [l[k]] := by
  rw [show k + 1 - 1 = (k - 1) + 1 by omega, List.take_add_one, List.getElem?_drop, show 1 + (k - 1) = k by omega, List.getElem?_eq_getElem hk]
  rfl
theorem whI_step {t : List Nd} {l : List Nat} (hl : ∀ n ∈ l, n < 1024) {k : Nat} (h1 : 0 < k) (hk : k < l.length) {a : Int} {t1 : List Nd} (h : WhI t l k a t1) :
    ((Fm.put t1 (joinN 3 a (l[k] : Nat))).2.1 = 0 → WhI t l (k + 1) (Fm.put t1 (joinN 3 a (l[k] : Nat))).1 (Fm.put t1 (joinN 3 a (l[k] : Nat))).2.2) ∧
    ((Fm.put t1 (joinN 3 a (l[k] : Nat))).2.1 ≠ 0 → ∀ g, wholeE t g (andF t (l.headD 0 : Nat) (l.drop 1)) = ((0, (Fm.put t1 (joinN 3 a (l[k] : Nat))).2.1), t)) := by
  obtain ⟨h2, h3⟩ := h
  have e : andF t (l.headD 0 : Nat) ((l.drop 1).take (k + 1 - 1)) = (((Fm.put t1 (joinN 3 a (l[k] : Nat))).1, (Fm.put t1 (joinN 3 a (l[k] : Nat))).2.1), (Fm.put t1 (joinN 3 a (l[k] : Nat))).2.2) := by
    rw [take_next h1 hk, andF_snoc, h2]
    rfl
  refine ⟨fun h0 => ⟨by rw [e, h0], h3.put (by omega) (by omega) h3.ix (small_i64 (hl _ (List.getElem_mem hk)))⟩, fun h0 g => ?_⟩
  have e2 : andF t (l.headD 0 : Nat) (l.drop 1) = andF t (l.headD 0 : Nat) ((l.drop 1).take (k + 1 - 1)) := by
    conv => lhs; rw [← List.take_append_drop (k + 1 - 1) (l.drop 1)]
    exact andF_stop t _ (by rw [e]; exact h0) _
  rw [e2, e]
  unfold wholeE
  rw [if_neg h0]
theorem whI_end {t : List Nd} {l : List Nat} {a : Int} {t1 : List Nd} (h : WhI t l l.length a t1) (g : Int) :
    ((Fm.put t1 (joinN 5 a g)).2.1 = 0 → wholeE t g (andF t (l.headD 0 : Nat) (l.drop 1)) = (((Fm.put t1 (joinN 5 a g)).1, 0), (Fm.put t1 (joinN 5 a g)).2.2)) ∧
    ((Fm.put t1 (joinN 5 a g)).2.1 ≠ 0 → wholeE t g (andF t (l.headD 0 : Nat) (l.drop 1)) = ((0, (Fm.put t1 (joinN 5 a g)).2.1), t)) := by
  have e : andF t (l.headD 0 : Nat) (l.drop 1) = ((a, 0), t1) := by
    rw [← h.1]
    congr 1
    rw [List.take_of_length_le (by simp)]
  rw [e]
  unfold wholeE
  rw [if_pos rfl]
  exact ⟨fun h0 => by rw [if_pos h0], fun h0 => by rw [if_neg h0]⟩
theorem whole_l {t : List Nd} {r : List Nat} {g : Int} (hr : Ok r) (h : rightQ t r g = true) (hn : 0 < (Bt.Bs.nums r).length) : wholeQ t r g = wholeE t g (andF t ((Bt.Bs.nums r).headD 0 : Nat) ((Bt.Bs.nums r).drop 1)) := by
  cases hx : Bt.Bs.nums r with
  | nil => rw [hx] at hn; cases hn
  | cons a l => rw [whole_cons hr h hx]; rfl
theorem cell_heap {W W' : World} {q o : Nat} (h : W'.heap[q]? = W.heap[q]?) : W'.cell? ⟨q, o, none⟩ = W.cell? ⟨q, o, none⟩ := by simp only [World.cell?, h]
theorem AfterR.apart {w1 W : World} {c : Nat} {u : Value} {t1 : List Nd} (h : AfterR w1 c u t1 W) {k : Nat} (hk : k < w1.heap.size) (hn : ¬ Fr c u k) : W.heap[k]? = w1.heap[k]? := by
  obtain ⟨_, _, _, h3⟩ := h
  exact h3.block k hk hn
theorem AfterR.call {w1 W W2 : World} {c : Nat} {u u1 : Value} {t2 : List Nd} (hl : Lies w1.heap.size u u1) (hk : Kp (Fr c u) w1 W) (ha : AfterR W c u1 t2 W2) : AfterR w1 c u t2 W2 := AfterR.trans hl hk ha
end Go.Proofs.YtkmmlimekachbaaGreatDoor
/-
  The document's Whole answers what the program's answers. No condition.
-/
namespace Go.Proofs.YtkmmlimekachbaaGreatDoor
open Go.RowKit Go.Maps
open Fm (Nd)
open Bt.Bs (Ok)

structure RWay (w1 : World) (c : Nat) (u : Value) (t1 : List Nd) (q : Nat) (r : List Nat) (g : Int) (p : Option Addr) (l : List Nat) (W : World) : Prop where
  af : AfterR w1 c u t1 W
  sq : SeqAt W q r g
  ls : ∀ k (hk : k < l.length), ∃ b, p = some ⟨b, 0, none⟩ ∧ W.cell? ⟨b, k, none⟩ = some (.int .i64 ((l[k] : Nat) : Int))
def FreeL (w1 : World) (c : Nat) (u : Value) (q : Nat) (p : Option Addr) (l : List Nat) : Prop := (q < w1.heap.size ∧ ¬ Fr c u q) ∧ ∀ k (_ : k < l.length), ∃ b, p = some ⟨b, 0, none⟩ ∧ b < w1.heap.size ∧ ¬ Fr c u b
theorem RWay.call {w1 W W2 : World} {c q : Nat} {u u1 : Value} {t1 t2 : List Nd} {r : List Nat} {g : Int} {p : Option Addr} {l : List Nat} (h : RWay w1 c u t1 q r g p l W) (hf : FreeL w1 c u q p l) (_h1 : Tr W c u1 t1) (h2 : Lies w1.heap.size u u1) (h3 : Kp (Fr c u) w1 W) (ha : AfterR W c u1 t2 W2) : RWay w1 c u t2 q r g p l W2 := by
  have hA := AfterR.call h2 h3 ha
  refine ⟨hA, ?_, fun k hk => ?_⟩
  · have e1 := h.af.apart hf.1.1 hf.1.2
    have e2 := hA.apart hf.1.1 hf.1.2
    exact (e2.trans e1.symm).trans h.sq
  · obtain ⟨b, hp, hc⟩ := h.ls k hk
    obtain ⟨b', hp', hb, hn⟩ := hf.2 k hk
    have : b' = b := by rw [hp] at hp'; injection hp' with e; injection e with e; exact e.symm
    subst this
    refine ⟨_, hp, ?_⟩
    have e1 := h.af.apart hb hn
    have e2 := hA.apart hb hn
    rw [← hc]
    exact cell_heap (e2.trans e1.symm)
set_option maxRecDepth 100000 in
set_option maxHeartbeats 2000000 in
theorem rqwhole_any (w : World) {c : Nat} {u : Value} {t : List Nd} (hT : Tr w c u t) {r : List Nat} (hr : Ok r) (g : Int) (hgi : Fm.i64 g) :
    Calls Tryz.prog 25 #[.pointer (some ⟨c, 0, none⟩), .agg (cellsQ r g)] w fun e w' => e = .returned (.tuple #[.int .i64 (wholeQ t r g).1.1, .int .i64 (wholeQ t r g).1.2]) ∧ AfterR w c u (wholeQ t r g).2 w' := by
  have hl := hr.1
  have hnl : (Bt.Bs.nums r).length ≤ 1024 := Bt.Bs.nums_len_le r
  have KR := show Hid (∀ w', Below w.heap.size w w' → Calls Tryz.prog 16 #[.pointer (some ⟨c, 0, none⟩), .agg (cellsQ r g)] w' fun e w'' => e = .returned (.bool (rightQ t r g)) ∧ Below w'.heap.size w' w'') from fun w' hb => rright_any w' (hT.later hb) hr g
  have KL := show Hid (∀ w', Calls Tryz.prog 32 #[.agg (Bt.cellsB r)] w' fun e w'' => ∃ p cc, e = .returned (.slice p (Bt.Bs.nums r).length cc) ∧ (∀ k (hk : k < (Bt.Bs.nums r).length), ∃ b, p = some ⟨b, 0, none⟩ ∧ w'.heap.size ≤ b ∧ b < w''.heap.size ∧ w''.cell? ⟨b, k, none⟩ = some (.int .i64 (((Bt.Bs.nums r)[k] : Nat) : Int))) ∧ Below w'.heap.size w' w'') from fun w' => (Bt.rlist_any w' hr).mono fun e w'' ⟨v, he, ho, hb⟩ => by
    obtain ⟨p, cc, hv, hcell⟩ := own_ints ho
    refine ⟨p, cc, by rw [he, hv], fun k hk => ?_, hb⟩
    obtain ⟨b, cur, hp, hB, hh, hc⟩ := hcell k hk
    refine ⟨b, hp, hB, lt_of_block hh, ?_⟩
    rw [cell_of_row w'' b k _ _ _ hh]
    exact hc
  have HF := show Hid (rightQ t r g = false → wholeQ t r g = ((0, 31), t)) from fun h => (right_not h).1
  have HN := show Hid (rightQ t r g = true → Bt.Bs.nums r = [] → wholeQ t r g = ((g, 0), t)) from fun h hn => whole_nil hr h hn
  have HL := show Hid (rightQ t r g = true → 0 < (Bt.Bs.nums r).length → wholeQ t r g = wholeE t g (andF t ((Bt.Bs.nums r).headD 0 : Nat) ((Bt.Bs.nums r).drop 1))) from fun h hn => whole_l hr h hn
  have HM := show Hid (∀ n ∈ Bt.Bs.nums r, n < 1024) from fun n hn => (Bt.Bs.mem_nums.1 hn).1
  have HC := show Hid (CK w (w.alloc (.cells (cellsQ r g) 27)) r g) from ⟨seq_new w r g, below_alloc w _⟩
  have HT := show Hid (Tr w c u t) from hT
  have hlen := hT.ok.len
  obtain ⟨pu, cu, hu⟩ := hT.row.form
  have c0 := hT.c0
  rw [hu] at c0
  clear hT hr hu
  generalize rightQ t r g = rq at *
  generalize wholeQ t r g = wq at *
  generalize Bt.Bs.nums r = l at *
  go_enter Tryz.func25, Tryz.ntmps25
  go_wp2_with (refine wpList_ldQQ _ _ rfl _ rfl HC.out.seq hl rfl ?_)
  refine (KR.out _ HC.out.bel).mono ?_
  rintro e w0 ⟨rfl, hb0⟩
  have H0 := show Hid (CK w w0 r g) from HC.out.later hb0
  clear HC KR hb0
  cases rq
  · have hq := HF.out rfl
    subst hq
    clear HF HN HL KL c0
    go_wp2_with fail
    go_ret2
    exact ⟨rfl, AfterR.of_below HT.out H0.out.bel⟩
  · have c1 : w0.cell? ⟨c, 0, none⟩ = some (.slice pu t.length cu) := cell_later H0.out.bel c0
    have HL2 := show Hid (0 < l.length → wq = wholeE t g (andF t (l.headD 0 : Nat) (l.drop 1))) from HL.out rfl
    have HN2 := show Hid (l = [] → wq = ((g, 0), t)) from HN.out rfl
    clear HF c0 HL HN
    go_wp2_with (refine wpList_ldQ _ _ rfl _ rfl H0.out.seq hl rfl ?_)
    refine (KL.out _).mono ?_
    rintro e w1 ⟨p, cc, rfl, hcell, hb1⟩
    have H1 := show Hid (CK w w1 r g) from H0.out.later hb1
    have HP := show Hid (FreeL w1 c u w.heap.size p l) from by
      have hno : ∀ k, w.heap.size ≤ k → ¬ Fr c u k := fun k hk h => by have := HT.out.foot k h; omega
      refine ⟨⟨H1.out.seq.lt, hno _ (Nat.le_refl _)⟩, fun k hk => ?_⟩
      obtain ⟨b, hp, hB, hlt, _⟩ := hcell k hk
      exact ⟨b, hp, hlt, hno _ (Nat.le_trans H0.out.bel.size hB)⟩
    have HW := show Hid (RWay w1 c u t w.heap.size r g p l w1) from ⟨AfterR.of_below (HT.out.later H1.out.bel) (Below.refl _ _), H1.out.seq, fun k hk => by
      obtain ⟨b, hp, _, _, hc⟩ := hcell k hk
      exact ⟨b, hp, hc⟩⟩
    have HB := show Hid (Below w.heap.size w w1) from H1.out.bel
    clear hcell hb1 H0 KL c1
    by_cases h0 : l.length = 0
    · have hq := HN2.out (List.length_eq_zero_iff.1 h0)
      subst hq
      have hli : ((l.length : Nat) : Int) = 0 := by omega
      have cg := H1.out.seq.goal hl
      clear HN2 HL2 HM
      go_wp2_with fail
      go_ret2
      exact ⟨rfl, AfterR.of_below HT.out HB.out⟩
    · have hpos : 0 < l.length := by omega
      have hli : ((l.length : Int) == 0) = false := by
        have : (l.length : Int) ≠ 0 := by omega
        simpa using this
      have HQ := show Hid _ from HL2.out hpos
      have hX := whI_start HT.out.ok HM.out hpos
      obtain ⟨lb, hp, hc0⟩ := HW.out.ls 0 hpos
      subst hp
      have hlt0 : (0 : Int) < (l.length : Int) := by omega
      generalize l[0] = x0 at *
      have HX := show Hid (WhI t l 1 (x0 : Nat) t) from hX
      clear hX HL2 HN2 H1
      go_wp2_with fail
      go_loopw [8, 9] (fun av iv wr => ∃ (k : Nat) (a : Int) (t1 : List Nd), k ≤ l.length ∧ iv = .int .i64 (k : Int) ∧ av = .int .i64 a ∧ Hid (0 < k ∧ WhI t l k a t1 ∧ RWay w1 c u t1 w.heap.size r g (some ⟨lb, 0, none⟩) l wr)) (fun _ iv _ => l.length - (intOf iv).toNat)
      case atStart => exact ⟨1, _, t, by omega, rfl, rfl, by omega, HX.out, HW.out⟩
      case round =>
        obtain ⟨k, a, t1, hk, rfl, rfl, HI⟩ := hrel
        clear hc0 HW HX
        by_cases hlt : k < l.length
        · have hki : (k : Int) < (l.length : Int) := by omega
          obtain ⟨lb2, hp2, hc⟩ := HI.out.2.2.ls k hlt
          injection hp2 with hp2
          injection hp2 with hp2
          subst hp2
          have hst := whI_step HM.out HI.out.1 hlt HI.out.2.1
          obtain ⟨u1, hT1, hL1, hK1⟩ := HI.out.2.2.af
          have KT := show Hid (Calls Tryz.prog 70 #[.pointer (some ⟨c, 0, none⟩), .int .i64 3, .int .i64 a, .int .i64 ((l[k] : Nat) : Int)] wr fun e w' => e = .returned (.tuple #[.int .i64 (Fm.put t1 (joinN 3 a (l[k] : Nat))).1, .int .i64 (Fm.put t1 (joinN 3 a (l[k] : Nat))).2.1]) ∧ RWay w1 c u (Fm.put t1 (joinN 3 a (l[k] : Nat))).2.2 w.heap.size r g (some ⟨lb, 0, none⟩) l w') from (rtwo_any wr hT1 3 a _ (by omega) (by omega) HI.out.2.1.2.ix (small_i64 (HM.out _ (List.getElem_mem hlt)))).mono fun e w' h => ⟨h.1, HI.out.2.2.call HP.out hT1 hL1 hK1 h.2⟩
          have HWY := show Hid (Way t (Fm.put t1 (joinN 3 a (l[k] : Nat))).2.2 (Fm.put t1 (joinN 3 a (l[k] : Nat))).1) from HI.out.2.1.2.put (by omega) (by omega) HI.out.2.1.2.ix (small_i64 (HM.out _ (List.getElem_mem hlt)))
          have HST := show Hid _ from hst
          clear hst hT1 hL1 hK1 HI
          generalize Fm.put t1 (joinN 3 a (l[k] : Nat)) = pr at *
          obtain ⟨x, e, t2⟩ := pr
          simp only at KT HST HWY
          generalize ((l[k] : Nat) : Int) = y at *
          go_wp2_with fail
          refine KT.out.mono ?_
          rintro e' w2 ⟨rfl, hw2⟩
          have HW2 := show Hid _ from hw2
          clear hw2 KT
          by_cases h0 : e = 0
          · have hn2 := HST.out.1 h0
            subst h0
            have HN2 := show Hid (WhI t l (k + 1) x t2) from hn2
            clear hn2 HST HWY hc
            go_wp2_with fail
            go_roundw
            case rel => exact ⟨k + 1, x, t2, by omega, by go_num, rfl, by omega, HN2.out, HW2.out⟩
            case measure => first | (simp [intOf]; done) | (simp [intOf]; omega)
          · have hq := HQ.out.trans (HST.out.2 h0 g)
            subst hq
            obtain ⟨u2, hT2, hL2, hK2⟩ := HW2.out.af
            have KC := show Hid (Calls Tryz.prog 71 #[.pointer (some ⟨c, 0, none⟩), .int .i64 (t.length : Int)] w2 fun e w' => e = .returned (.int .i64 0) ∧ AfterR w c u t w') from (rcut_any w2 hT2 (t.length : Int)).mono fun e w' h => by
              rw [HWY.out.cut] at h
              exact ⟨h.1, (AfterR.call hL2 hK2 h.2).from_below HB.out⟩
            have hne : (e != 0) = true := by simp [h0]
            clear hT2 hL2 hK2 HW2 HST HWY HQ hc
            go_wp2_with fail
            refine KC.out.mono ?_
            rintro e' w3 ⟨rfl, hw3⟩
            have HA3 := show Hid _ from hw3
            clear hw3 KC
            go_wp2_with fail
            go_ret2
            exact ⟨rfl, HA3.out⟩
        · have hki : ¬ (k : Int) < (l.length : Int) := by omega
          have hke : k = l.length := by omega
          have HI2 := show Hid (WhI t l l.length a t1 ∧ RWay w1 c u t1 w.heap.size r g (some ⟨lb, 0, none⟩) l wr) from by rw [← hke]; exact HI.out.2
          have cg := HI2.out.2.sq.goal hl
          have hst := whI_end HI2.out.1 g
          obtain ⟨u1, hT1, hL1, hK1⟩ := HI2.out.2.af
          have KT := show Hid (Calls Tryz.prog 72 #[.pointer (some ⟨c, 0, none⟩), .int .i64 a, .int .i64 g] wr fun e w' => e = .returned (.tuple #[.int .i64 (Fm.put t1 (joinN 5 a g)).1, .int .i64 (Fm.put t1 (joinN 5 a g)).2.1]) ∧ AfterR w1 c u (Fm.put t1 (joinN 5 a g)).2.2 w') from (rimp_any wr hT1 a g HI2.out.1.2.ix hgi).mono fun e w' h => ⟨h.1, AfterR.call hL1 hK1 h.2⟩
          have HWY := show Hid (Way t (Fm.put t1 (joinN 5 a g)).2.2 (Fm.put t1 (joinN 5 a g)).1) from HI2.out.1.2.put (by omega) (by omega) HI2.out.1.2.ix hgi
          have HST := show Hid _ from hst
          clear hst hT1 hL1 hK1 HI HI2 hke
          generalize Fm.put t1 (joinN 5 a g) = pr at *
          obtain ⟨x, e, t2⟩ := pr
          simp only at KT HST HWY
          go_wp2_with fail
          refine KT.out.mono ?_
          rintro e' w2 ⟨rfl, hw2⟩
          have HW2 := show Hid (AfterR w1 c u t2 w2) from hw2
          clear hw2 KT
          by_cases h0 : e = 0
          · have hq := HQ.out.trans (HST.out.1 h0)
            subst hq
            subst h0
            clear HST HWY HQ
            go_wp2_with fail
            go_ret2
            exact ⟨rfl, HW2.out.from_below HB.out⟩
          · have hq := HQ.out.trans (HST.out.2 h0)
            subst hq
            obtain ⟨u2, hT2, hL2, hK2⟩ := HW2.out
            have KC := show Hid (Calls Tryz.prog 71 #[.pointer (some ⟨c, 0, none⟩), .int .i64 (t.length : Int)] w2 fun e w' => e = .returned (.int .i64 0) ∧ AfterR w c u t w') from (rcut_any w2 hT2 (t.length : Int)).mono fun e w' h => by
              rw [HWY.out.cut] at h
              exact ⟨h.1, (AfterR.call hL2 hK2 h.2).from_below HB.out⟩
            have hne : (e != 0) = true := by simp [h0]
            clear hT2 hL2 hK2 HW2 HST HWY HQ
            go_wp2_with fail
            refine KC.out.mono ?_
            rintro e' w3 ⟨rfl, hw3⟩
            have HA3 := show Hid _ from hw3
            clear hw3 KC
            go_wp2_with fail
            go_ret2
            exact ⟨rfl, HA3.out⟩
end Go.Proofs.YtkmmlimekachbaaGreatDoor
/-
  The document's Curry answers what the program's answers. No condition.
-/
namespace Go.Proofs.YtkmmlimekachbaaGreatDoor
open Go.RowKit Go.Maps
open Fm (Nd)
open Bt.Bs (Ok)

def CuI (t : List Nd) (g : Int) (l : List Nat) (j : Nat) (a : Int) (t1 : List Nd) : Prop := curF t g (l.drop j).reverse = ((a, 0), t1) ∧ Way t t1 a
theorem cuI_start {t : List Nd} (ht : Fm.Ok t) {g : Int} (hg : Fm.i64 g) (l : List Nat) : CuI t g l l.length g t := by
  refine ⟨?_, ht, hg, [], by simp⟩
  rw [List.drop_length]
  rfl
theorem cuI_step {t : List Nd} {g : Int} {l : List Nat} (hl : ∀ n ∈ l, n < 1024) {j : Nat} (hj : j < l.length) {a : Int} {t1 : List Nd} (h : CuI t g l (j + 1) a t1) :
    ((Fm.put t1 (joinN 5 (l[j] : Nat) a)).2.1 = 0 → CuI t g l j (Fm.put t1 (joinN 5 (l[j] : Nat) a)).1 (Fm.put t1 (joinN 5 (l[j] : Nat) a)).2.2) ∧
    ((Fm.put t1 (joinN 5 (l[j] : Nat) a)).2.1 ≠ 0 → curryE t (curF t g l.reverse) = ((0, (Fm.put t1 (joinN 5 (l[j] : Nat) a)).2.1), t)) := by
  obtain ⟨h2, h3⟩ := h
  have e : curF t g (l.drop j).reverse = (((Fm.put t1 (joinN 5 (l[j] : Nat) a)).1, (Fm.put t1 (joinN 5 (l[j] : Nat) a)).2.1), (Fm.put t1 (joinN 5 (l[j] : Nat) a)).2.2) := by
    rw [List.drop_eq_getElem_cons hj, List.reverse_cons, curF_snoc, h2]
    rfl
  refine ⟨fun h0 => ⟨by rw [e, h0], h3.put (by omega) (by omega) (small_i64 (hl _ (List.getElem_mem hj))) h3.ix⟩, fun h0 => ?_⟩
  have e2 : curF t g l.reverse = curF t g (l.drop j).reverse := by
    have : l.reverse = (l.drop j).reverse ++ (l.take j).reverse := by rw [← List.reverse_append, List.take_append_drop]
    rw [this]
    exact curF_stop t _ (by rw [e]; exact h0) _
  rw [e2, e]
  unfold curryE
  rw [if_neg h0]
theorem cuI_end {t : List Nd} {g : Int} {l : List Nat} {a : Int} {t1 : List Nd} (h : CuI t g l 0 a t1) : curryE t (curF t g l.reverse) = ((a, 0), t1) := by
  have e := h.1
  rw [List.drop_zero] at e
  rw [e]
  rfl
theorem curry_l {t : List Nd} {r : List Nat} {g : Int} (h : rightQ t r g = true) : curryQ t r g = curryE t (curF t g (Bt.Bs.nums r).reverse) := by
  unfold curryQ
  rw [chk_right, h, if_pos rfl, if_pos rfl]
set_option maxRecDepth 100000 in
set_option maxHeartbeats 2000000 in
theorem rqcurry_any (w : World) {c : Nat} {u : Value} {t : List Nd} (hT : Tr w c u t) {r : List Nat} (hr : Ok r) (g : Int) (hgi : Fm.i64 g) :
    Calls Tryz.prog 27 #[.pointer (some ⟨c, 0, none⟩), .agg (cellsQ r g)] w fun e w' => e = .returned (.tuple #[.int .i64 (curryQ t r g).1.1, .int .i64 (curryQ t r g).1.2]) ∧ AfterR w c u (curryQ t r g).2 w' := by
  have hl := hr.1
  have hnl : (Bt.Bs.nums r).length ≤ 1024 := Bt.Bs.nums_len_le r
  have KR := show Hid (∀ w', Below w.heap.size w w' → Calls Tryz.prog 16 #[.pointer (some ⟨c, 0, none⟩), .agg (cellsQ r g)] w' fun e w'' => e = .returned (.bool (rightQ t r g)) ∧ Below w'.heap.size w' w'') from fun w' hb => rright_any w' (hT.later hb) hr g
  have KL := show Hid (∀ w', Calls Tryz.prog 32 #[.agg (Bt.cellsB r)] w' fun e w'' => ∃ p cc, e = .returned (.slice p (Bt.Bs.nums r).length cc) ∧ (∀ k (hk : k < (Bt.Bs.nums r).length), ∃ b, p = some ⟨b, 0, none⟩ ∧ w'.heap.size ≤ b ∧ b < w''.heap.size ∧ w''.cell? ⟨b, k, none⟩ = some (.int .i64 (((Bt.Bs.nums r)[k] : Nat) : Int))) ∧ Below w'.heap.size w' w'') from fun w' => (Bt.rlist_any w' hr).mono fun e w'' ⟨v, he, ho, hb⟩ => by
    obtain ⟨p, cc, hv, hcell⟩ := own_ints ho
    refine ⟨p, cc, by rw [he, hv], fun k hk => ?_, hb⟩
    obtain ⟨b, cur, hp, hB, hh, hc⟩ := hcell k hk
    refine ⟨b, hp, hB, lt_of_block hh, ?_⟩
    rw [cell_of_row w'' b k _ _ _ hh]
    exact hc
  have HF := show Hid (rightQ t r g = false → curryQ t r g = ((0, 31), t)) from fun h => (right_not h).2
  have HL := show Hid (rightQ t r g = true → curryQ t r g = curryE t (curF t g (Bt.Bs.nums r).reverse)) from fun h => curry_l h
  have HM := show Hid (∀ n ∈ Bt.Bs.nums r, n < 1024) from fun n hn => (Bt.Bs.mem_nums.1 hn).1
  have HC := show Hid (CK w (w.alloc (.cells (cellsQ r g) 27)) r g) from ⟨seq_new w r g, below_alloc w _⟩
  have HT := show Hid (Tr w c u t) from hT
  have hlen := hT.ok.len
  obtain ⟨pu, cu, hu⟩ := hT.row.form
  have c0 := hT.c0
  rw [hu] at c0
  clear hT hr hu
  generalize rightQ t r g = rq at *
  generalize curryQ t r g = wq at *
  generalize Bt.Bs.nums r = l at *
  go_enter Tryz.func27, Tryz.ntmps27
  go_wp2_with (refine wpList_ldQQ _ _ rfl _ rfl HC.out.seq hl rfl ?_)
  refine (KR.out _ HC.out.bel).mono ?_
  rintro e w0 ⟨rfl, hb0⟩
  have H0 := show Hid (CK w w0 r g) from HC.out.later hb0
  clear HC KR hb0
  cases rq
  · have hq := HF.out rfl
    subst hq
    clear HF HL KL c0
    go_wp2_with fail
    go_ret2
    exact ⟨rfl, AfterR.of_below HT.out H0.out.bel⟩
  · have c1 : w0.cell? ⟨c, 0, none⟩ = some (.slice pu t.length cu) := cell_later H0.out.bel c0
    have HL2 := show Hid _ from HL.out rfl
    clear HF c0 HL
    go_wp2_with (refine wpList_ldQ _ _ rfl _ rfl H0.out.seq hl rfl ?_)
    refine (KL.out _).mono ?_
    rintro e w1 ⟨p, cc, rfl, hcell, hb1⟩
    have H1 := show Hid (CK w w1 r g) from H0.out.later hb1
    have HP := show Hid (FreeL w1 c u w.heap.size p l) from by
      have hno : ∀ k, w.heap.size ≤ k → ¬ Fr c u k := fun k hk h => by have := HT.out.foot k h; omega
      refine ⟨⟨H1.out.seq.lt, hno _ (Nat.le_refl _)⟩, fun k hk => ?_⟩
      obtain ⟨b, hp, hB, hlt, _⟩ := hcell k hk
      exact ⟨b, hp, hlt, hno _ (Nat.le_trans H0.out.bel.size hB)⟩
    have HW := show Hid (RWay w1 c u t w.heap.size r g p l w1) from ⟨AfterR.of_below (HT.out.later H1.out.bel) (Below.refl _ _), H1.out.seq, fun k hk => by
      obtain ⟨b, hp, _, _, hc⟩ := hcell k hk
      exact ⟨b, hp, hc⟩⟩
    have HB := show Hid (Below w.heap.size w w1) from H1.out.bel
    have HQ := show Hid _ from HL2.out
    have HX := show Hid (CuI t g l l.length g t) from cuI_start HT.out.ok hgi l
    have cg := H1.out.seq.goal hl
    clear hcell hb1 H0 KL c1 HL2 H1
    go_wp2_with fail
    go_loopw [8, 9] (fun av iv wr => ∃ (j : Nat) (a : Int) (t1 : List Nd), j ≤ l.length ∧ iv = .int .i64 ((j : Int) - 1) ∧ av = .int .i64 a ∧ Hid (CuI t g l j a t1 ∧ RWay w1 c u t1 w.heap.size r g p l wr)) (fun _ iv _ => (intOf iv + 1).toNat)
    case atStart => exact ⟨l.length, _, t, by omega, rfl, rfl, HX.out, HW.out⟩
    case round =>
      obtain ⟨j, a, t1, hj, rfl, rfl, HI⟩ := hrel
      clear HW HX cg
      by_cases hpos : 0 < j
      · obtain ⟨i, rfl⟩ : ∃ i, j = i + 1 := ⟨j - 1, by omega⟩
        have ei : ((i + 1 : Nat) : Int) - 1 = (i : Int) := by omega
        rw [ei]
        have hlt : i < l.length := by omega
        have hi0 : (0 : Int) ≤ (i : Int) := by omega
        have hki : (i : Int) < (l.length : Int) := by omega
        obtain ⟨lb, hp2, hc⟩ := HI.out.2.ls i hlt
        subst hp2
        have hst := cuI_step HM.out hlt HI.out.1
        obtain ⟨u1, hT1, hL1, hK1⟩ := HI.out.2.af
        have KT := show Hid (Calls Tryz.prog 72 #[.pointer (some ⟨c, 0, none⟩), .int .i64 ((l[i] : Nat) : Int), .int .i64 a] wr fun e w' => e = .returned (.tuple #[.int .i64 (Fm.put t1 (joinN 5 (l[i] : Nat) a)).1, .int .i64 (Fm.put t1 (joinN 5 (l[i] : Nat) a)).2.1]) ∧ RWay w1 c u (Fm.put t1 (joinN 5 (l[i] : Nat) a)).2.2 w.heap.size r g (some ⟨lb, 0, none⟩) l w') from (rimp_any wr hT1 _ a (small_i64 (HM.out _ (List.getElem_mem hlt))) HI.out.1.2.ix).mono fun e w' h => ⟨h.1, HI.out.2.call HP.out hT1 hL1 hK1 h.2⟩
        have HWY := show Hid (Way t (Fm.put t1 (joinN 5 (l[i] : Nat) a)).2.2 (Fm.put t1 (joinN 5 (l[i] : Nat) a)).1) from HI.out.1.2.put (by omega) (by omega) (small_i64 (HM.out _ (List.getElem_mem hlt))) HI.out.1.2.ix
        have HST := show Hid _ from hst
        clear hst hT1 hL1 hK1 HI
        generalize Fm.put t1 (joinN 5 (l[i] : Nat) a) = pr at *
        obtain ⟨x, e, t2⟩ := pr
        simp only at KT HST HWY
        generalize ((l[i] : Nat) : Int) = y at *
        clear ei
        go_wp2_with fail
        refine KT.out.mono ?_
        rintro e' w2 ⟨rfl, hw2⟩
        have HW2 := show Hid _ from hw2
        clear hw2 KT
        by_cases h0 : e = 0
        · have hn2 := HST.out.1 h0
          subst h0
          have HN2 := show Hid (CuI t g l i x t2) from hn2
          clear hn2 HST HWY hc
          go_wp2_with fail
          go_roundw
          case rel => exact ⟨i, x, t2, by omega, by first | rfl | go_num, rfl, HN2.out, HW2.out⟩
          case measure => first | (simp [intOf]; done) | (simp [intOf]; omega)
        · have hq := HQ.out.trans (HST.out.2 h0)
          subst hq
          obtain ⟨u2, hT2, hL2, hK2⟩ := HW2.out.af
          have KC := show Hid (Calls Tryz.prog 71 #[.pointer (some ⟨c, 0, none⟩), .int .i64 (t.length : Int)] w2 fun e w' => e = .returned (.int .i64 0) ∧ AfterR w c u t w') from (rcut_any w2 hT2 (t.length : Int)).mono fun e w' h => by
            rw [HWY.out.cut] at h
            exact ⟨h.1, (AfterR.call hL2 hK2 h.2).from_below HB.out⟩
          have hne : (e != 0) = true := by simp [h0]
          clear hT2 hL2 hK2 HW2 HST HWY HQ hc
          go_wp2_with fail
          refine KC.out.mono ?_
          rintro e' w3 ⟨rfl, hw3⟩
          have HA3 := show Hid _ from hw3
          clear hw3 KC
          go_wp2_with fail
          go_ret2
          exact ⟨rfl, HA3.out⟩
      · obtain rfl : j = 0 := by omega
        have hq := HQ.out.trans (cuI_end HI.out.1)
        subst hq
        have HA := show Hid (AfterR w c u t1 wr) from HI.out.2.af.from_below HB.out
        clear HI HQ HP
        go_wp2_with fail
        go_ret2
        exact ⟨rfl, HA.out⟩
end Go.Proofs.YtkmmlimekachbaaGreatDoor
/-
  Both tables beside each other, whatever was put into them, and the sequent handed in. No condition.
-/
namespace Go.Proofs.YtkmmlimekachbaaGreatDoor
open Go.RowKit Go.Maps
open Fm (Nd)
open Bt.Bs (Ok)

structure LF (w W : World) (B M : Nat) (v : Value) (C : Nat) (u : Value) (t : List Nd) (r : List Nat) (g : Int) : Prop where
  pr : Pair w W B M v C u t t
  sq : SeqAt W w.heap.size r g
  nt : ∀ k, Ft B M v k → w.heap.size < k
  nr : ∀ k, Fr C u k → w.heap.size < k
theorem LF.later {w W W2 : World} {B M C : Nat} {v u : Value} {t : List Nd} {r : List Nat} {g : Int} (h : LF w W B M v C u t r g) (hb : Below W.heap.size W W2) : LF w W2 B M v C u t r g :=
  ⟨h.pr.later hb, h.sq.later hb h.sq.lt, h.nt, h.nr⟩
structure LG (w W : World) (B M : Nat) (v : Value) (C : Nat) (u : Value) (t t' : List Nd) (r : List Nat) (g : Int) : Prop where
  pr : Pair w W B M v C u t t'
  sq : SeqAt W w.heap.size r g
  nt : ∀ k, Ft B M v k → w.heap.size < k
  nr : ∀ k, Fr C u k → w.heap.size < k
theorem LF.stepT {w W W2 : World} {B M C : Nat} {v u : Value} {t t' : List Nd} {r : List Nat} {g : Int} (h : LF w W B M v C u t r g) (ha : After W B M v t' W2) : ∃ v', LG w W2 B M v' C u t' t r g := by
  have hs := h.sq.lt
  obtain ⟨v', hT, hL, hK⟩ := ha
  obtain ⟨v2, hP⟩ := h.pr.stepT ⟨v', hT, hL, hK⟩
  have e : v2 = v' := tb_same hP.tb hT
  subst e
  refine ⟨v2, hP, (hK.block _ hs fun hk => Nat.lt_irrefl _ (h.nt _ hk)).trans h.sq, ?_, h.nr⟩
  rintro k (e | e | e)
  · exact h.nt k (Or.inl e)
  · exact h.nt k (Or.inr (Or.inl e))
  · rcases hL k e with e | e
    · exact h.nt k (Or.inr (Or.inr e))
    · omega
theorem tr_same {W : World} {c : Nat} {u u' : Value} {t t' : List Nd} (h : Tr W c u t) (h' : Tr W c u' t') : u = u' := by
  have h1 := h.tab
  rw [h'.tab] at h1
  injection h1 with h1
  injection h1 with h1 _ _
  injection h1 with h1
  injection h1 with h1 _
  exact h1.symm
theorem LG.stepR {w W W2 : World} {B M C : Nat} {v u : Value} {t t' : List Nd} {r : List Nat} {g : Int} (h : LG w W B M v C u t' t r g) (ha : AfterR W C u t' W2) : ∃ u', LF w W2 B M v C u' t' r g := by
  have hs := h.sq.lt
  obtain ⟨u', hT, hL, hK⟩ := ha
  obtain ⟨u2, hP⟩ := h.pr.stepR ⟨u', hT, hL, hK⟩
  have e : u2 = u' := tr_same hP.tr hT
  subst e
  refine ⟨u2, hP, (hK.block _ hs fun hk => Nat.lt_irrefl _ (h.nr _ hk)).trans h.sq, h.nt, ?_⟩
  rintro k (e | e)
  · exact h.nr k (Or.inl e)
  · rcases hL k e with e | e
    · exact h.nr k (Or.inr e)
    · omega
theorem LF.notG {w W : World} {B M C : Nat} {v u : Value} {t : List Nd} {r : List Nat} {g : Int} (h : LF w W B M v C u t r g) {G : Nat} (hG : G < w.heap.size) : ¬ Ft B M v G := fun hk => by have := h.nt G hk; omega
end Go.Proofs.YtkmmlimekachbaaGreatDoor
