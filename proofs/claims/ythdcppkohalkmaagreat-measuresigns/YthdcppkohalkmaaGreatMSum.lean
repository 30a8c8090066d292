/-
  Rows of numbers in memory; the call sum; what the four counts make of the counts of two parts. For counts from 0 to 2^40.
-/
import Derived.Test.YthdcppkohalkmaaGreatMKit
namespace Go.Proofs.YthdcppkohalkmaaGreat
open Go.RowKit Go.Maps
open Fm (Nd)

/-- A slice that holds these numbers, wherever it lies. -/
def IsL (w : World) (v : Value) (l : List Int) : Prop :=
  ∃ p c, v = .slice p l.length c ∧ l.length ≤ 9223372036854775807 ∧ ∀ k (hk : k < l.length), ∃ b o, p = some ⟨b, o, none⟩ ∧ w.cell? ⟨b, o + k, none⟩ = some (.int .i64 l[k])
theorem IsL.later {w w' : World} {v : Value} {l : List Int} (h : IsL w v l) (hb : Below w.heap.size w w') : IsL w' v l := by
  obtain ⟨p, c, hv, h1, h2⟩ := h
  refine ⟨p, c, hv, h1, fun k hk => ?_⟩
  obtain ⟨b, o, hp, hc⟩ := h2 k hk
  exact ⟨b, o, hp, (hb.cell (p := ⟨b, _, none⟩) (World.block_lt_of_cell? w _ hc)).trans hc⟩
theorem sums_snoc (l : List Int) (x a : Int) : Ms.sums (l ++ [x]) a = min (Ms.sums l a + x) Ms.M := by
  induction l generalizing a with
  | nil => rfl
  | cons y l ih => exact ih _
theorem sums_in (l : List Int) (h : ∀ x ∈ l, 0 ≤ x ∧ x ≤ Ms.M) (a : Int) (ha : 0 ≤ a ∧ a ≤ Ms.M) : 0 ≤ Ms.sums l a ∧ Ms.sums l a ≤ Ms.M := by
  induction l generalizing a with
  | nil => exact ha
  | cons y l ih =>
    refine ih (fun x hx => h x (by simp [hx])) _ ?_
    have := h y (by simp)
    unfold Ms.M at *
    omega
set_option maxRecDepth 100000 in
set_option maxHeartbeats 1000000 in
theorem sum_any (w : World) (v : Value) (l : List Int) (hv : IsL w v l) (hl : ∀ x ∈ l, 0 ≤ x ∧ x ≤ Ms.M) :
    Calls Tryz.prog 64 #[v] w fun e w' => e = .returned (.int .i64 (Ms.sums l 0)) ∧ w' = w := by
  obtain ⟨p, c, rfl, hlen, hcell⟩ := hv
  have HC := show Hid (∀ k (hk : k < l.length), ∃ b o, p = some ⟨b, o, none⟩ ∧ w.cell? ⟨b, o + k, none⟩ = some (.int .i64 l[k])) from hcell
  have HS := show Hid (∀ k (hk : k < l.length), Ms.sums (l.take (k + 1)) 0 = min (Ms.sums (l.take k) 0 + l[k]) Ms.M) from fun k hk => by rw [List.take_succ_eq_append_getElem hk, sums_snoc]
  have HI := show Hid (∀ k, 0 ≤ Ms.sums (l.take k) 0 ∧ Ms.sums (l.take k) 0 ≤ 1099511627776) from fun k => sums_in _ (fun x hx => hl x (List.mem_of_mem_take hx)) 0 (by unfold Ms.M; omega)
  have HX := show Hid (∀ k (hk : k < l.length), 0 ≤ l[k] ∧ l[k] ≤ 1099511627776) from fun k hk => hl _ (List.getElem_mem hk)
  have HE := show Hid (Ms.sums (l.take l.length) 0 = Ms.sums l 0) from by show Ms.sums (l.take l.length) 0 = Ms.sums l 0; rw [List.take_length]
  generalize Ms.sums l 0 = ans at *
  clear hcell hl
  go_enter Tryz.func64, Tryz.ntmps64
  go_wp2
  go_loopw [3, 8] (fun s i wr => ∃ k : Nat, k ≤ l.length ∧ i = .int .i64 (k : Int) ∧ s = .int .i64 (Ms.sums (l.take k) 0) ∧ wr = w) (fun _ i _ => l.length - (intOf i).toNat)
  case atStart => exact ⟨0, by omega, rfl, rfl, rfl⟩
  case round =>
    obtain ⟨k, hk, rfl, rfl, rfl⟩ := hrel
    by_cases hlt : k < l.length
    · obtain ⟨b, o, rfl, hc⟩ := HC.out k hlt
      have hs := HS.out k hlt
      have hi := HI.out k
      have hx := HX.out k hlt
      have hki : (k : Int) < (l.length : Int) := by omega
      have HS2 := show Hid (Ms.sums (l.take (k + 1)) 0 = min (Ms.sums (l.take k) 0 + l[k]) 1099511627776) from hs
      clear hs HS HC HI HX HE
      generalize l[k] = x at *
      generalize Ms.sums (l.take k) 0 = s at *
      by_cases hm : 1099511627776 < s + x
      · go_wp2
        go_roundw
        case rel => exact ⟨k + 1, by omega, by go_num, (by rw [HS2.out]; exact val_int (by omega)), (by first | rfl | trivial)⟩
        case measure => first | (simp [intOf]; done) | (simp [intOf]; omega)
      · go_wp2
        go_roundw
        case rel => exact ⟨k + 1, by omega, by go_num, (by rw [HS2.out]; exact val_int (by omega)), (by first | rfl | trivial)⟩
        case measure => first | (simp [intOf]; done) | (simp [intOf]; omega)
    · have hke : k = l.length := by omega
      subst hke
      have hE := HE.out
      rw [hE]
      clear HS HC HI HX HE hE
      go_wp2
      go_ret
      exact ⟨rfl, rfl⟩
theorem isL3 (w : World) (x y z : Int) : IsL (w.alloc (Obj.cells #[.int .i64 x, .int .i64 y, .int .i64 z] 3)) (.slice (some ⟨w.heap.size, 0, none⟩) 3 3) [x, y, z] := by
  refine ⟨_, _, rfl, by simp, fun k hk => ⟨_, _, rfl, ?_⟩⟩
  rw [cell_of_row _ _ _ _ _ _ (heap_alloc_new _ _)]
  have : k = 0 ∨ k = 1 ∨ k = 2 := by simp at hk; omega
  rcases this with rfl | rfl | rfl <;> rfl
theorem three_in {a b c : Int} (ha : 0 ≤ a ∧ a ≤ 1099511627776) (hb : 0 ≤ b ∧ b ≤ 1099511627776) (hc : 0 ≤ c ∧ c ≤ 1099511627776) : ∀ x ∈ [a, b, c], 0 ≤ x ∧ x ≤ Ms.M := by
  intro x hx
  simp only [List.mem_cons, List.not_mem_nil, or_false] at hx
  rcases hx with rfl | rfl | rfl
  · exact ha
  · exact hb
  · exact hc
theorem sum3 {a b c : Int} (ha : 0 ≤ a ∧ a ≤ 1099511627776) (hb : 0 ≤ b ∧ b ≤ 1099511627776) (hc : 0 ≤ c ∧ c ≤ 1099511627776) (w : World) :
    Calls Tryz.prog 64 #[.slice (some ⟨w.heap.size, 0, none⟩) 3 3] (w.alloc (Obj.cells #[.int .i64 a, .int .i64 b, .int .i64 c] 3)) fun e w' => e = .returned (.int .i64 (Ms.sums [a, b, c] 0)) ∧ w' = w.alloc (Obj.cells #[.int .i64 a, .int .i64 b, .int .i64 c] 3) :=
  sum_any (w.alloc (Obj.cells #[.int .i64 a, .int .i64 b, .int .i64 c] 3)) (.slice (some ⟨w.heap.size, 0, none⟩) 3 3) [a, b, c] (isL3 w a b c) (three_in ha hb hc)
/-- A function that makes a count of two counts. -/
def Joins (g : Nat) (f : Int → Int → Int → Int) : Prop := ∀ (w : World) (k a b : Int), (0 ≤ a ∧ a ≤ 1099511627776) → (0 ≤ b ∧ b ≤ 1099511627776) →
  Calls Tryz.prog g #[.int .i64 k, .int .i64 a, .int .i64 b] w fun e w' => e = .returned (.int .i64 (f k a b)) ∧ Below w.heap.size w w'
set_option maxHeartbeats 1000000 in
theorem joins_size : Joins 63 Ms.sizeF := by
  intro w k a b ha hb
  have K := show Hid (∀ w : World, Calls Tryz.prog 64 #[.slice (some ⟨w.heap.size, 0, none⟩) 3 3] (w.alloc (Obj.cells #[.int .i64 a, .int .i64 b, .int .i64 1] 3)) fun e w' => e = .returned (.int .i64 (Ms.sums [a, b, 1] 0)) ∧ w' = w.alloc (Obj.cells #[.int .i64 a, .int .i64 b, .int .i64 1] 3)) from fun w => sum3 ha hb (by omega) w
  have HR := show Hid (Ms.sizeF k a b = Ms.sums [a, b, 1] 0) from rfl
  rw [HR.out]
  clear HR
  generalize Ms.sums [a, b, 1] 0 = r at *
  go_enter Tryz.func63, Tryz.ntmps63
  go_wp2_with fail
  refine (K.out _).mono ?_
  rintro e w' ⟨rfl, rfl⟩
  go_wp2_with fail
  go_ret
  exact ⟨rfl, below_alloc _ _⟩
set_option maxHeartbeats 1000000 in
theorem joins_weight : Joins 66 Ms.weightF := by
  intro w k a b ha hb
  have K1 := show Hid (∀ w : World, Calls Tryz.prog 64 #[.slice (some ⟨w.heap.size, 0, none⟩) 3 3] (w.alloc (Obj.cells #[.int .i64 a, .int .i64 b, .int .i64 1] 3)) fun e w' => e = .returned (.int .i64 (Ms.sums [a, b, 1] 0)) ∧ w' = w.alloc (Obj.cells #[.int .i64 a, .int .i64 b, .int .i64 1] 3)) from fun w => sum3 ha hb (by omega) w
  have K2 := show Hid (∀ w : World, Calls Tryz.prog 64 #[.slice (some ⟨w.heap.size, 0, none⟩) 3 3] (w.alloc (Obj.cells #[.int .i64 a, .int .i64 b, .int .i64 2] 3)) fun e w' => e = .returned (.int .i64 (Ms.sums [a, b, 2] 0)) ∧ w' = w.alloc (Obj.cells #[.int .i64 a, .int .i64 b, .int .i64 2] 3)) from fun w => sum3 ha hb (by omega) w
  have HR := show Hid (Ms.weightF k a b = if k = 3 then Ms.sums [a, b, 2] 0 else Ms.sums [a, b, 1] 0) from rfl
  generalize Ms.weightF k a b = r at *
  generalize Ms.sums [a, b, 1] 0 = r1 at *
  generalize Ms.sums [a, b, 2] 0 = r2 at *
  by_cases hk : k = 3
  · have hr := HR.out
    rw [if_pos hk] at hr
    subst hr
    subst hk
    clear HR
    go_enter Tryz.func66, Tryz.ntmps66
    go_wp2_with fail
    refine (K2.out _).mono ?_
    rintro e w' ⟨rfl, rfl⟩
    go_wp2_with fail
    go_ret
    exact ⟨rfl, below_alloc _ _⟩
  · have hr := HR.out
    rw [if_neg hk] at hr
    subst hr
    clear HR
    go_enter Tryz.func66, Tryz.ntmps66
    go_wp2_with fail
    refine (K1.out _).mono ?_
    rintro e w' ⟨rfl, rfl⟩
    go_wp2_with fail
    go_ret
    exact ⟨rfl, below_alloc _ _⟩
set_option maxHeartbeats 1000000 in
theorem joins_depth : Joins 65 Ms.depthF := by
  intro w k a b ha hb
  have HR := show Hid (Ms.depthF k a b = 1 + max a b) from rfl
  generalize Ms.depthF k a b = r at *
  by_cases h : a < b
  · have HR2 := show Hid (r = 1 + b) from by show r = 1 + b; rw [HR.out]; omega
    clear HR
    go_enter Tryz.func65, Tryz.ntmps65
    go_wp2_with fail
    go_ret
    exact ⟨by rw [HR2.out]; rfl, Below.refl _ _⟩
  · have HR2 := show Hid (r = 1 + a) from by show r = 1 + a; rw [HR.out]; omega
    clear HR
    go_enter Tryz.func65, Tryz.ntmps65
    go_wp2_with fail
    go_ret
    exact ⟨by rw [HR2.out]; rfl, Below.refl _ _⟩
set_option maxHeartbeats 1000000 in
theorem joins_grade : Joins 67 Ms.gradeF := by
  intro w k a b ha hb
  have HR := show Hid (Ms.gradeF k a b = if k = 5 then max (a + 1) b else max a b) from rfl
  generalize Ms.gradeF k a b = r at *
  by_cases hk : k = 5
  · subst hk
    by_cases h : a + 1 < b
    · have HR2 := show Hid (r = b) from by show r = b; rw [HR.out, if_pos rfl]; omega
      clear HR
      go_enter Tryz.func67, Tryz.ntmps67
      go_wp2_with fail
      go_ret
      exact ⟨by rw [HR2.out]; rfl, Below.refl _ _⟩
    · have HR2 := show Hid (r = a + 1) from by show r = a + 1; rw [HR.out, if_pos rfl]; omega
      clear HR
      go_enter Tryz.func67, Tryz.ntmps67
      go_wp2_with fail
      go_ret
      exact ⟨by rw [HR2.out]; rfl, Below.refl _ _⟩
  · by_cases h : a < b
    · have HR2 := show Hid (r = b) from by show r = b; rw [HR.out, if_neg hk]; omega
      clear HR
      go_enter Tryz.func67, Tryz.ntmps67
      go_wp2_with fail
      go_ret
      exact ⟨by rw [HR2.out]; rfl, Below.refl _ _⟩
    · have HR2 := show Hid (r = a) from by show r = a; rw [HR.out, if_neg hk]; omega
      clear HR
      go_enter Tryz.func67, Tryz.ntmps67
      go_wp2_with fail
      go_ret
      exact ⟨by rw [HR2.out]; rfl, Below.refl _ _⟩
end Go.Proofs.YthdcppkohalkmaaGreat
