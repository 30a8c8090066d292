/-
  Count and Next, and the document's Compare and Next: for every set, every number. The table that TrailingZeros64 reads stands.
-/
import Derived.Test.YthkolkmcnpafiaaDoorBBits
namespace Go.Proofs.YthkolkmcnpafiaaDoor
open Go.RowKit
open Bs (Ok wd)

theorem pop_le (x : Nat) : Bs.pop x ≤ 64 := by
  have := List.countP_le_length (p := x.testBit) (l := List.range 64)
  rwa [List.length_range] at this
theorem count_le {r : List Nat} (h : r.length = 16) : ∀ k, k ≤ 16 → Bs.count r k ≤ 64 * k
  | 0, _ => by simp [Bs.count]
  | k + 1, hk => by
    have := count_le h k (by omega)
    have h2 := pop_le (wd r k)
    rw [Bs.count_step h (by omega)]
    omega
theorem index_bits (w : World) {r : List Nat} (h : r.length = 16) {k : Nat} (hk : k < 16) : (Instr.index 25 (.agg (cellsB r)) (.int .i64 (k : Int))).run Tryd.prog w = .ok (.int .u64 (wd r k : Int)) w := by
  have hp := part_bits w (p := r) (i := k) (by rw [h]; exact hk)
  simp [Instr.index, run_underlying under25]
  show (if 0 ≤ (k : Int) ∧ (k : Int) < 16 then Sem.run Tryd.prog (part 23 (cellsB r) (k : Int).toNat) w else _) = _
  rw [if_pos (by omega), Int.toNat_natCast]
  exact hp
set_option maxRecDepth 100000 in
set_option maxHeartbeats 2000000 in
theorem count_any (w : World) {r : List Nat} (hr : Ok r) : Calls Tryd.prog 30 #[.agg (cellsB r)] w fun e w' => e = .returned (.int .i64 ((Bs.count r 16 : Nat) : Int)) ∧ w' = w.alloc (.cells (cellsB r) 25) := by
  have KO := show Hid (∀ k w, Calls Tryd.prog 42 #[.int .u64 (wd r k : Int)] w fun e w' => e = .returned (.int .i64 ((Bs.pop (wd r k) : Nat) : Int)) ∧ w' = w) from fun k w => ones_any w (Bs.wd_lt hr k)
  have HS := show Hid (∀ k, k < 16 → Bs.count r (k + 1) = Bs.count r k + Bs.pop (wd r k)) from fun k hk => Bs.count_step hr.1 hk
  have HL := show Hid (∀ k, k ≤ 16 → Bs.count r k ≤ 1024) from fun k hk => Nat.le_trans (count_le hr.1 k hk) (by omega)
  have HR := show Hid (r.length = 16) from hr.1
  have HP := show Hid (∀ x, Bs.pop x ≤ 64) from pop_le
  clear hr
  go_enter Tryd.func30, Tryd.ntmps30
  go_wp2_with (refine wpList_load16 _ rfl _ rfl _ rfl (r := r) (heap_alloc_last w _) HR.out ?_)
  go_loopw [3, 7] (fun m n wr => ∃ k : Nat, k ≤ 16 ∧ n = .int .i64 (k : Int) ∧ m = .int .i64 ((Bs.count r k : Nat) : Int) ∧ wr = w.alloc (.cells (cellsB r) 25)) (fun _ n _ => 16 - (intOf n).toNat)
  case atStart => exact ⟨0, by omega, rfl, rfl, rfl⟩
  case round =>
    obtain ⟨k, hk, rfl, rfl, rfl⟩ := hrel
    by_cases hlt : k < 16
    · have hix := fun w => index_bits w HR.out hlt
      have KO2 := show Hid (∀ w, Calls Tryd.prog 42 #[.int .u64 (wd r k : Int)] w fun e w' => e = .returned (.int .i64 ((Bs.pop (wd r k) : Nat) : Int)) ∧ w' = w) from KO.out k
      have HN := show Hid (Bs.count r (k + 1) = Bs.count r k + Bs.pop (wd r k)) from HS.out k hlt
      have h1 := HL.out k hk
      have h2 := HP.out (wd r k)
      clear KO HS HL HP
      generalize Bs.pop (wd r k) = p at *
      generalize wd r k = x at *
      generalize Bs.count r k = c at *
      go_wp2_with (go_at_call 42; refine (KO2.out _).mono ?_; rintro e w' ⟨rfl, rfl⟩)
      go_roundw
      case rel => exact ⟨k + 1, by omega, val_int (by omega), val_int (by rw [HN.out]; omega), by trivial⟩
      case measure => (simp only [intOf]; omega)
    · have HK := show Hid (Bs.count r k = Bs.count r 16) from by rw [show k = 16 by omega]; exact rfl
      clear KO HS HL HP
      generalize Bs.count r k = c at *
      go_wp2
      go_ret
      exact ⟨ret_int (by rw [HK.out]), rfl⟩
/-- What Next answers. -/
def nextI (r : List Nat) (n : Int) : Option Nat := Bs.next r n.toNat
def nextV (o : Option Nat) : Value := match o with
  | none => .tuple #[.int .i64 0, .bool false]
  | some m => .tuple #[.int .i64 (m : Int), .bool true]
theorem max0 (n : Int) : max n 0 = ((n.toNat : Nat) : Int) := by omega
theorem max0' (n : Int) : max 0 n = ((n.toNat : Nat) : Int) := by omega
theorem case0 (n : Int) : (0 < n ∧ n = ((n.toNat : Nat) : Int)) ∨ (n ≤ 0 ∧ n.toNat = 0) := by omega
set_option maxRecDepth 100000 in
set_option maxHeartbeats 2000000 in
theorem rnext_any (w : World) {r : List Nat} (hr : Ok r) (n : Int) : Calls Tryd.prog 21 #[.agg (cellsB r), .int .i64 n] w fun e w' => e = .returned (nextV (nextI r n)) ∧ Below w.heap.size w w' := by
  have KH := show Hid (∀ (k : Nat) w, k < 1024 → Calls Tryd.prog 13 #[.agg (cellsB r), .int .i64 (k : Int)] w fun e w' => e = .returned (.bool (Bs.has r k)) ∧ w' = w.alloc (.cells (cellsB r) 25)) from fun k w hk => by
    have := rhas_any w hr (k : Int)
    rwa [hasI_nat r hk] at this
  have HR := show Hid (r.length = 16) from hr.1
  have hcase := case0 n
  have HNX := show Hid (nextI r n = Bs.next r n.toNat) from rfl
  have HT := show Hid (RowAt (w.alloc (.cells (cellsB r) 25)) w.heap.size r) from heap_alloc_last w _
  generalize n.toNat = m at *
  clear hr
  rcases hcase with ⟨hpos, rfl⟩ | ⟨hpos, hm0⟩
  all_goals try have HM0 := show Hid (m = 0) from hm0
  all_goals try clear hm0
  all_goals
    go_enter Tryd.func21, Tryd.ntmps21
    go_wp2
  all_goals
    go_loopw [6] (fun n wr => ∃ k : Nat, n = .int .i64 (k : Int) ∧ Hid (m ≤ k ∧ RowAt wr w.heap.size r ∧ Below w.heap.size w wr ∧ ∀ i, m ≤ i → i < k → Bs.has r i = false)) (fun n _ => 1024 - (intOf n).toNat)
    case atStart => first | exact ⟨m, rfl, by omega, HT.out, below_alloc w _, fun i h1 h2 => by omega⟩ | exact ⟨0, rfl, by rw [HM0.out]; omega, HT.out, below_alloc w _, fun i h1 h2 => by omega⟩
    case round =>
      obtain ⟨k, rfl, HQ⟩ := hrel
      clear HT hpos
      by_cases hlt : k < 1024
      · have KH2 := show Hid (∀ w, Calls Tryd.prog 13 #[.agg (cellsB r), .int .i64 (k : Int)] w fun e w' => e = .returned (.bool (Bs.has r k)) ∧ w' = w.alloc (.cells (cellsB r) 25)) from fun w => KH.out k w hlt
        clear KH
        cases hh : Bs.has r k
        · have HH := show Hid (Bs.has r k = false) from hh
          rw [hh] at KH2
          clear hh
          go_wp2_with (first | (refine wpList_load16 _ rfl _ rfl _ rfl (r := r) HQ.out.2.1 HR.out ?_) | (go_at_call 13; refine (KH2.out _).mono ?_; rintro e w' ⟨rfl, rfl⟩))
          go_roundw
          case rel =>
            refine ⟨k + 1, val_int (by omega), by have := HQ.out.1; omega, HQ.out.2.1.keep (n := wr.heap.size) (below_alloc wr _) ?_, HQ.out.2.2.1.alloc HQ.out.2.2.1.size _, fun i h1 h2 => ?_⟩
            · exact (Array.getElem?_eq_some_iff.1 HQ.out.2.1).1
            · by_cases e : i = k
              · rw [e]; exact HH.out
              · exact HQ.out.2.2.2 i h1 (by omega)
          case measure => (simp only [intOf]; omega)
        · have HH := show Hid (Bs.next r m = some k) from Bs.up_eq_some HQ.out.1 (by have := HQ.out.1; omega) hh HQ.out.2.2.2
          rw [hh] at KH2
          clear hh
          go_wp2_with (first | (refine wpList_load16 _ rfl _ rfl _ rfl (r := r) HQ.out.2.1 HR.out ?_) | (go_at_call 13; refine (KH2.out _).mono ?_; rintro e w' ⟨rfl, rfl⟩))
          go_ret2
          exact ⟨by rw [HNX.out, HH.out]; rfl, HQ.out.2.2.1.alloc HQ.out.2.2.1.size _⟩
      · have HH := show Hid (Bs.next r m = none) from Bs.up_eq_none fun i h1 h2 => HQ.out.2.2.2 i h1 (by omega)
        clear KH
        go_wp2
        go_ret2
        exact ⟨by rw [HNX.out, HH.out]; rfl, HQ.out.2.2.1⟩
end Go.Proofs.YthkolkmcnpafiaaDoor
