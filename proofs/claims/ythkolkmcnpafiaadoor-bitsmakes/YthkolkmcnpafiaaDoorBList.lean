/-
  The document's List: for every set: its numbers, rising. No condition.
-/
import Derived.Test.YthkolkmcnpafiaaDoorBHeads
import Derived.Laws.AppendOwn
import Derived.Maps.AppendAt
namespace Go.Proofs.YthkolkmcnpafiaaDoor
open Go.RowKit Go.Maps
open Bs (Ok wd)

theorem infoI : (Tryd.prog.info? 3).map (fun i => (i.zero, i.size, i.bytes)) = some (some (.int .i64 0), 1, 8) := by kernel_rfl
def intsV (l : List Nat) : List Value := l.map fun n : Nat => Value.int .i64 (n : Int)
theorem intsV_len (l : List Nat) : (intsV l).length = l.length := by simp [intsV]
/-- The numbers below k. -/
def numsTo (r : List Nat) (k : Nat) : List Nat := (List.range k).filter (Bs.has r)
theorem numsTo_step (r : List Nat) (k : Nat) : numsTo r (k + 1) = numsTo r k ++ if Bs.has r k then [k] else [] := by
  unfold numsTo
  rw [List.range_succ, List.filter_append, List.filter_cons, List.filter_nil]
theorem numsTo_len (r : List Nat) (k : Nat) : (numsTo r k).length ≤ k := by
  have := List.length_filter_le (Bs.has r) (List.range k)
  rwa [List.length_range] at this
/-- A slice of these numbers in a block of its own, from base on. -/
def OwnI (base : Nat) (w : World) (v : Value) (l : List Nat) : Prop := w.ownsRow base 3 1 v l.length (intsV l)
theorem OwnI.later {base : Nat} {w w' : World} {v : Value} {l : List Nat} (h : OwnI base w v l) (hb : Below w.heap.size w w') : OwnI base w' v l := by
  refine ⟨h.1, ?_⟩
  rcases h.2 with h2 | ⟨g, cap, cur, rfl, hg, hh, r⟩
  · exact Or.inl h2
  · exact Or.inr ⟨g, cap, cur, rfl, hg, (hb.block g (lt_of_block hh)).trans hh, r⟩
theorem OwnI.slice {base : Nat} {w : World} {v : Value} {l : List Nat} (h : OwnI base w v l) : ∃ p c, v = .slice p l.length c := by
  rcases h.2 with ⟨rfl, h0⟩ | ⟨g, cap, cur, rfl, _⟩
  · exact ⟨_, _, by rw [h0]⟩
  · exact ⟨_, _, rfl⟩
theorem OwnI.isL {base : Nat} {w : World} {v : Value} {l : List Nat} (h : OwnI base w v l) (hl : l.length ≤ 1024) : IsL w v (l.map fun n : Nat => (n : Int)) := by
  rcases h.2 with ⟨rfl, h0⟩ | ⟨g, cap, cur, rfl, hg, hh, h1, h2, h3, h4⟩
  · obtain rfl : l = [] := List.eq_nil_of_length_eq_zero h0
    exact ⟨_, _, rfl, by simp, fun k hk => absurd hk (by simp)⟩
  · refine ⟨_, _, by rw [List.length_map], by rw [List.length_map]; omega, fun k hk => ⟨g, 0, rfl, ?_⟩⟩
    have hk' : k < l.length := by simpa using hk
    have := h.cellAt k (by omega)
    rw [Nat.zero_add, this]
    simp [intsV, hk']
theorem OwnI.base {b b' : Nat} {w : World} {v : Value} {l : List Nat} (h : OwnI b w v l) (hb : b' ≤ b) : OwnI b' w v l := by
  refine ⟨h.1, ?_⟩
  rcases h.2 with h2 | ⟨g, cap, cur, rfl, hg, hh, r⟩
  · exact Or.inl h2
  · exact Or.inr ⟨g, cap, cur, rfl, Nat.le_trans hb hg, hh, r⟩
theorem OwnI.lt {base : Nat} {w : World} {v : Value} {l : List Nat} (h : OwnI base w v l) : ∀ k, v.ownBlock = some k → base ≤ k ∧ k < w.heap.size := by
  intro k hk
  rcases h.2 with ⟨rfl, _⟩ | ⟨g, cap, cur, rfl, hg, hh, _⟩
  · cases hk
  · obtain rfl : g = k := Option.some.inj hk
    exact ⟨hg, lt_of_block hh⟩
/-- What the loop holds: the set in its box, the numbers so far. -/
def LQ (w wr : World) (r : List Nat) (v : Value) (l : List Nat) : Prop := RowAt wr w.heap.size r ∧ OwnI (w.heap.size + 1) wr v l ∧ Below w.heap.size w wr ∧ w.heap.size < wr.heap.size
theorem LQ.later {w wr w' : World} {r : List Nat} {v : Value} {l : List Nat} (h : LQ w wr r v l) (hb : Below wr.heap.size wr w') : LQ w w' r v l :=
  ⟨h.1.keep hb h.1.lt, h.2.1.later hb, h.2.2.1.trans (hb.mono h.2.2.1.size), Nat.lt_of_lt_of_le h.2.2.2 hb.size⟩
theorem LQ.grow {w w1 w2 : World} {r : List Nat} {v v' : Value} {l : List Nat} {k : Nat} {o : Obj} (h : LQ w w1 r v l) (ho : w2.ownsRow (w.heap.size + 1) 3 1 v' (l.length + 1) (intsV l ++ [.int .i64 (k : Int)])) (hg : (w1.alloc o).grownBy w2 v.ownBlock) : LQ w w2 r v' (l ++ [k]) := by
  have hb1 := below_alloc w1 o
  have h1 := h.later hb1
  have hb2 : Below (w.heap.size + 1) (w1.alloc o) w2 := (Below.refl _ _).grown hg (by have := h1.2.2.2; omega) (fun q hq => (h1.2.1.lt q hq).1)
  refine ⟨h1.1.keep hb2 (Nat.lt_succ_self _), ?_, h1.2.2.1.trans (hb2.mono (Nat.le_succ _)), Nat.lt_of_lt_of_le h1.2.2.2 hb2.size⟩
  unfold OwnI
  rw [List.length_append, List.length_singleton, show intsV (l ++ [k]) = intsV l ++ [.int .i64 (k : Int)] by simp [intsV]]
  exact ho
set_option maxRecDepth 100000 in
set_option maxHeartbeats 4000000 in
theorem rlist_any (w : World) {r : List Nat} (hr : Ok r) : Calls Tryd.prog 18 #[.agg (cellsB r)] w fun e w' => ∃ v, e = .returned v ∧ OwnI w.heap.size w' v (Bs.nums r) ∧ Below w.heap.size w w' := by
  obtain ⟨i0, hi, hz0, hz1, hz2⟩ := info_parts infoI
  have KH := show Hid (∀ (k : Nat) w, k < 1024 → Calls Tryd.prog 13 #[.agg (cellsB r), .int .i64 (k : Int)] w fun e w' => e = .returned (.bool (Bs.has r k)) ∧ w' = w.alloc (.cells (cellsB r) 25)) from fun k w hk => by
    have := rhas_any w hr (k : Int)
    rwa [hasI_nat r hk] at this
  have HL := show Hid (r.length = 16) from hr.1
  have HST := show Hid (∀ k, numsTo r (k + 1) = numsTo r k ++ if Bs.has r k then [k] else []) from numsTo_step r
  have HLN := show Hid (∀ k, (numsTo r k).length ≤ k) from numsTo_len r
  have HE := show Hid (numsTo r 1024 = Bs.nums r) from rfl
  have HT := show Hid (RowAt (w.alloc (.cells (cellsB r) 25)) w.heap.size r) from heap_alloc_last w _
  have H0 := show Hid (numsTo r 0 = []) from rfl
  generalize Bs.nums r = R at *
  clear hr
  go_enter Tryd.func18, Tryd.ntmps18
  go_wp2
  go_loopw [3, 4] (fun v n wr => ∃ k : Nat, k ≤ 1024 ∧ n = .int .i64 (k : Int) ∧ Hid (LQ w wr r v (numsTo r k))) (fun _ n _ => 1024 - (intOf n).toNat)
  case atStart => exact ⟨0, by omega, rfl, HT.out, by rw [H0.out]; exact World.ownsRow_nil _ _ _ _, below_alloc w _, by simp⟩
  case round =>
    obtain ⟨k, hk, rfl, HQ⟩ := hrel
    clear HT H0
    by_cases hlt : k < 1024
    · have KH2 := show Hid (∀ w, Calls Tryd.prog 13 #[.agg (cellsB r), .int .i64 (k : Int)] w fun e w' => e = .returned (.bool (Bs.has r k)) ∧ w' = w.alloc (.cells (cellsB r) 25)) from fun w => KH.out k w hlt
      have HS := show Hid (numsTo r (k + 1) = numsTo r k ++ if Bs.has r k then [k] else []) from HST.out k
      have hle := HLN.out k
      clear KH HST HLN HE
      generalize numsTo r k = L at *
      cases hh : Bs.has r k
      · have HS2 := show Hid (numsTo r (k + 1) = L) from by
          show numsTo r (k + 1) = L
          have := HS.out
          rw [hh] at this
          simpa using this
        rw [hh] at KH2
        clear hh HS
        go_wp2_with (first | (refine wpList_ld _ _ rfl _ rfl (r := r) HQ.out.1 HL.out rfl ?_) | (go_at_call 13; refine (KH2.out _).mono ?_; rintro e w' ⟨rfl, rfl⟩))
        go_roundw
        case rel => exact ⟨k + 1, by omega, val_int (by omega), by rw [HS2.out]; exact HQ.out.later (below_alloc _ _)⟩
        case measure => (simp only [intOf]; omega)
      · have HS2 := show Hid (numsTo r (k + 1) = L ++ [k]) from by
          show numsTo r (k + 1) = L ++ [k]
          have := HS.out
          rw [hh] at this
          simpa using this
        rw [hh] at KH2
        clear hh HS
        obtain ⟨pv, cv, rfl⟩ := HQ.out.2.1.slice
        have hm : L.length + 1 ≤ maxLen := by unfold maxLen; omega
        go_wp2_with (first | (refine wpList_ld _ _ rfl _ rfl (r := r) HQ.out.1 HL.out rfl ?_) | (go_at_call 13; refine (KH2.out _).mono ?_; rintro e w' ⟨rfl, hw⟩; have HQ1 := show Hid (LQ w w' r (.slice pv L.length cv) L) from (by rw [hw]; exact HQ.out.later (below_alloc _ _)); clear hw) | (at_builtin; refine wpList_append_own _ rfl (.tmp 12) (.tmp 14) 22 rfl (w.heap.size + 1) 3 i0 (.int .i64 0) 1 8 Tryd.underlying22 hi hz0 hz1 hz2 rfl (by decide) _ L.length (intsV L) rfl (HQ1.out.2.1.later (below_alloc w' _)) ⟨w'.heap.size, 0, none⟩ 1 1 [.int .i64 (k : Int)] rfl rfl (cell_one_new _ _ _) (by simp [Value.oneCell']) hm (by omega) (by have := HQ1.out.2.2.2; simp; omega) ?_; intro v' w2 ho2 hg2 _; have HQ2 := show Hid (LQ w w2 r v' (L ++ [k])) from HQ1.out.grow ho2 hg2; obtain ⟨pv2, cv2, rfl⟩ := HQ2.out.2.1.slice; clear ho2 hg2))
        go_roundw
        case rel =>
          refine ⟨k + 1, by omega, val_int (by omega), ?_⟩
          have hq := HQ2.out
          rw [show (L ++ [k]).length = L.length + 1 by simp] at hq
          rw [HS2.out]
          exact hq
        case measure => (simp only [intOf]; omega)
    · have HK := show Hid (numsTo r k = R) from by rw [show k = 1024 by omega]; exact HE.out
      have HQ2 := show Hid (LQ w wr r u3 R) from by rw [← HK.out]; exact HQ.out
      clear KH HST HLN HE HQ HK
      go_wp2
      go_ret
      exact ⟨_, rfl, HQ2.out.2.1.base (Nat.le_succ _), HQ2.out.2.2.1⟩
end Go.Proofs.YthkolkmcnpafiaaDoor
