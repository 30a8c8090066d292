/-
  Has, Put, Drop, and the document's Has, With, Put, Drop: for every set and every number. No condition.
-/
import Derived.Test.YthkolkmcnpafiaaDoorBMem
namespace Go.Proofs.YthkolkmcnpafiaaDoor
open Go.RowKit
open Bs (Ok wd)

theorem inRow_yes (w : World) {m : Nat} (hm : m < 1024) : Calls Tryd.prog 38 #[.int .i64 (m : Int)] w fun e w' => e = .returned (.bool true) ∧ w' = w := by
  have := inRow_any w (m : Int)
  rwa [show (decide (0 ≤ (m : Int)) && decide ((m : Int) < 1024)) = true by simp; omega] at this
theorem inRow_no (w : World) {n : Int} (hn : ¬ (0 ≤ n ∧ n < 1024)) : Calls Tryd.prog 38 #[.int .i64 n] w fun e w' => e = .returned (.bool false) ∧ w' = w := by
  have := inRow_any w n
  have hI : (decide (0 ≤ n) && decide (n < 1024)) = false := by
    cases h : (decide (0 ≤ n) && decide (n < 1024))
    · rfl
    · exfalso; apply hn; simpa using h
  rwa [hI] at this
theorem hasI_nat (r : List Nat) {m : Nat} (hm : m < 1024) : Bs.hasI r (m : Int) = Bs.has r m := by
  simp only [Bs.hasI, show (decide (0 ≤ (m : Int)) && decide ((m : Int) < 1024)) = true by simp; omega, Bool.true_and, Int.toNat_natCast]
theorem hasI_out (r : List Nat) {n : Int} (hn : ¬ (0 ≤ n ∧ n < 1024)) : Bs.hasI r n = false := by
  cases h : Bs.hasI r n
  · rfl
  · exfalso
    simp only [Bs.hasI, Bool.and_eq_true, decide_eq_true_iff] at h
    exact hn h.1
theorem and_ne (x s : Nat) : ((((x &&& 2 ^ s : Nat) : Int)) != 0) = x.testBit s := by
  cases h : x.testBit s
  · rw [(Bs.and_pow _ _).2 h]; rfl
  · have : ¬ (x &&& 2 ^ s = 0) := fun e => by
      rw [(Bs.and_pow _ _).1 e] at h; cases h
    simpa using this
theorem ret_bool {x y : Bool} (h : x = y) : Ending.returned (.bool x) = Ending.returned (.bool y) := by rw [h]

/-- What Put and Drop answer, of any number. -/
def putI (r : List Nat) (n : Int) : List Nat × Int := if 0 ≤ n ∧ n < 1024 then (Bs.put r n.toNat, 0) else (Bs.zero, 50)
def dropI (r : List Nat) (n : Int) : List Nat := if 0 ≤ n ∧ n < 1024 then Bs.drop r n.toNat else r
theorem putI_nat (r : List Nat) {m : Nat} (hm : m < 1024) : putI r (m : Int) = (Bs.put r m, 0) := by rw [putI, if_pos (by omega)]; rfl
theorem putI_out (r : List Nat) {n : Int} (hn : ¬ (0 ≤ n ∧ n < 1024)) : putI r n = (Bs.zero, 50) := by rw [putI, if_neg hn]
theorem dropI_nat (r : List Nat) {m : Nat} (hm : m < 1024) : dropI r (m : Int) = Bs.drop r m := by rw [dropI, if_pos (by omega)]; rfl
theorem dropI_out (r : List Nat) {n : Int} (hn : ¬ (0 ≤ n ∧ n < 1024)) : dropI r n = r := by rw [dropI, if_neg hn]

theorem has_any (w : World) {r : List Nat} (hr : Ok r) (n : Int) : Calls Tryd.prog 12 #[.agg (cellsB r), .int .i64 n] w fun e w' => e = .returned (.bool (Bs.hasI r n)) ∧ Below w.heap.size w w' := by
  by_cases hn : 0 ≤ n ∧ n < 1024
  · obtain ⟨m, rfl⟩ := Int.eq_ofNat_of_zero_le hn.1
    have hm : m < 1024 := by omega
    have HA := show Hid (Bs.hasI r (m : Int) = (wd r (m / 64)).testBit (m % 64)) from hasI_nat r hm
    have KI := show Hid (∀ w, Calls Tryd.prog 38 #[.int .i64 (m : Int)] w fun e w' => e = .returned (.bool true) ∧ w' = w) from fun w => inRow_yes w hm
    have KP := show Hid (∀ w, Calls Tryd.prog 39 #[.int .i64 (m : Int)] w fun e w' => e = .returned (.tuple #[.int .i64 ((m / 64 : Nat) : Int), .int .u64 ((2 ^ (m % 64) : Nat) : Int)]) ∧ w' = w.drew) from fun w => place_any w m hm
    have hq : m / 64 < 16 := by omega
    have hc := cellsB_at (r := r) (i := m / 64) (by rw [hr.1]; exact hq)
    have hand := u64_and_nat (wd r (m / 64)) (2 ^ (m % 64)) (Bs.wd_lt hr _) (Bs.pow_lt (Nat.mod_lt _ (by omega)))
    have HB := show Hid ((((wd r (m / 64) &&& 2 ^ (m % 64) : Nat) : Int) != 0) = (wd r (m / 64)).testBit (m % 64)) from and_ne _ _
    generalize m / 64 = q at *
    generalize 2 ^ (m % 64) = p at *
    generalize m % 64 = s at *
    generalize wd r q = x at *
    clear hn hm
    go_enter Tryd.func12, Tryd.ntmps12
    go_wp2_with (first | (go_at_call 38; refine (KI.out _).mono ?_; rintro e w' ⟨rfl, rfl⟩) | (go_at_call 39; refine (KP.out _).mono ?_; rintro e w' ⟨rfl, rfl⟩))
    go_ret
    exact ⟨ret_bool (by rw [HA.out]; exact HB.out), (below_alloc w _).drew⟩
  · have HA := show Hid (Bs.hasI r n = false) from hasI_out r hn
    have KI := show Hid (∀ w, Calls Tryd.prog 38 #[.int .i64 n] w fun e w' => e = .returned (.bool false) ∧ w' = w) from fun w => inRow_no w hn
    clear hn
    go_enter Tryd.func12, Tryd.ntmps12
    go_wp2_with (go_at_call 38; refine (KI.out _).mono ?_; rintro e w' ⟨rfl, rfl⟩)
    go_ret
    exact ⟨ret_bool HA.out.symm, below_alloc w _⟩
theorem shr_bit {x : Nat} (s : Nat) (hx : x < 18446744073709551616) : (bits .and .u64 ((x : Int) / 2 ^ s) 1 == 1) = x.testBit s := by
  have e : ((x : Int) / 2 ^ s) = ((x / 2 ^ s : Nat) : Int) := by simp
  have hlt : x / 2 ^ s < 18446744073709551616 := Nat.lt_of_le_of_lt (Nat.div_le_self _ _) hx
  have := u64_and_nat (x / 2 ^ s) 1 hlt (by omega)
  rw [e, show (1 : Int) = ((1 : Nat) : Int) by rfl, this, Nat.testBit_eq_decide_div_mod_eq, Nat.and_one_is_mod]
  have h2 : x / 2 ^ s % 2 = 0 ∨ x / 2 ^ s % 2 = 1 := by omega
  rcases h2 with h | h <;> rw [h] <;> rfl
set_option maxRecDepth 100000 in
theorem rhas_any (w : World) {r : List Nat} (hr : Ok r) (n : Int) : Calls Tryd.prog 13 #[.agg (cellsB r), .int .i64 n] w fun e w' => e = .returned (.bool (Bs.hasI r n)) ∧ w' = w.alloc (.cells (cellsB r) 25) := by
  by_cases hn : 0 ≤ n ∧ n < 1024
  · obtain ⟨m, rfl⟩ := Int.eq_ofNat_of_zero_le hn.1
    have hm : m < 1024 := by omega
    have HA := show Hid (Bs.hasI r (m : Int) = (wd r (m / 64)).testBit (m % 64)) from hasI_nat r hm
    have hq : m / 64 < 16 := by omega
    have hc := cellsB_at (r := r) (i := m / 64) (by rw [hr.1]; exact hq)
    have HB := show Hid ((bits .and .u64 ((wd r (m / 64) : Int) / 2 ^ (m % 64)) 1 == 1) = (wd r (m / 64)).testBit (m % 64)) from shr_bit _ (Bs.wd_lt hr _)
    generalize wd r (m / 64) = x at *
    clear hn
    go_enter Tryd.func13, Tryd.ntmps13
    go_wp2
    go_ret
    exact ⟨ret_bool (by rw [HA.out]; exact HB.out), rfl⟩
  · have HA := show Hid (Bs.hasI r n = false) from hasI_out r hn
    by_cases h0 : 0 ≤ n
    · have h1 : ¬ n < 1024 := fun h => hn ⟨h0, h⟩
      clear hn
      go_enter Tryd.func13, Tryd.ntmps13
      go_wp2
      go_ret
      exact ⟨ret_bool HA.out.symm, rfl⟩
    · clear hn
      go_enter Tryd.func13, Tryd.ntmps13
      go_wp2
      go_ret
      exact ⟨ret_bool HA.out.symm, rfl⟩
theorem with_any (w : World) {r : List Nat} (hr : Ok r) (m : Nat) (hm : m < 1024) : Calls Tryd.prog 40 #[.agg (cellsB r), .int .i64 (m : Int)] w fun e w' => e = .returned (.agg (cellsB (Bs.put r m))) ∧ Below w.heap.size w w' := by
  have hq : m / 64 < 16 := by omega
  have hc := cellsB_at (r := r) (i := m / 64) (by rw [hr.1]; exact hq)
  have hor := u64_or_nat (wd r (m / 64)) (2 ^ (m % 64)) (Bs.wd_lt hr _) (Bs.pow_lt (Nat.mod_lt _ (by omega)))
  have hset := cellsB_set r (m / 64) (wd r (m / 64) ||| 2 ^ (m % 64))
  have hp := pow64 m
  have HS := show Hid ((Bs.put r m).length = 16) from (Bs.put_ok hr m).1
  rw [show r.set (m / 64) (wd r (m / 64) ||| 2 ^ (m % 64)) = Bs.put r m from rfl, ← hor, ← hp] at hset
  generalize Bs.put r m = r' at *
  generalize wd r (m / 64) = x at *
  clear hor hp
  go_enter Tryd.func40, Tryd.ntmps40
  go_wp2_with (first | (refine wpList_load16 _ rfl _ rfl _ rfl (r := r') (heap_two w _ _).1 HS.out ?_) | (refine wpList_store16 _ rfl rfl _ _ rfl _ rfl rfl (r := Bs.zero) (heap_two w _ _).2 Bs.zero_ok.1 HS.out ?_))
  refine bodyPost_ret (results_bits rfl _ _ (w.heap.size + 1) (r := r') rfl (RowAt.setRow (r := Bs.zero) (heap_two w _ _).2 r') HS.out) rfl ?_
  exact ⟨rfl, below_setRow (below_two w _ _) (Nat.le_succ _) _⟩
set_option maxRecDepth 100000 in
theorem rput_any (w : World) {r : List Nat} (hr : Ok r) (n : Int) : Calls Tryd.prog 11 #[.agg (cellsB r), .int .i64 n] w fun e w' => e = .returned (.tuple #[.agg (cellsB (putI r n).1), .int .i64 (putI r n).2]) ∧ Below w.heap.size w w' := by
  by_cases hn : 0 ≤ n ∧ n < 1024
  · obtain ⟨m, rfl⟩ := Int.eq_ofNat_of_zero_le hn.1
    have hm : m < 1024 := by omega
    have HP := show Hid (putI r (m : Int) = (Bs.put r m, 0)) from putI_nat r hm
    have KW := show Hid (∀ w, Calls Tryd.prog 40 #[.agg (cellsB r), .int .i64 (m : Int)] w fun e w' => e = .returned (.agg (cellsB (Bs.put r m))) ∧ Below w.heap.size w w') from fun w => with_any w hr m hm
    have HS := show Hid ((Bs.put r m).length = 16) from (Bs.put_ok hr m).1
    have HR := show Hid (r.length = 16) from hr.1
    generalize Bs.put r m = r' at *
    clear hn
    go_enter Tryd.func11, Tryd.ntmps11
    go_wp2_with (first | (refine wpList_load16 _ rfl _ rfl _ rfl (r := r) (heap_two w _ _).1 HR.out ?_) | (go_at_call 40; refine (KW.out _).mono ?_; rintro e w1 ⟨rfl, hb⟩; have HB := show Hid (RowAt w1 (w.heap.size + 1) Bs.zero) from (hb.block _ (by simp)).trans (heap_two w _ _).2; have HC := show Hid (Below w.heap.size w w1) from (below_two w _ _).trans (hb.mono (by simp; omega)); clear hb) | (refine wpList_store16 _ rfl rfl _ _ rfl _ rfl rfl (r := Bs.zero) HB.out Bs.zero_ok.1 HS.out ?_))
    refine bodyPost_ret (results_bits_tmp rfl _ _ (w.heap.size + 1) (r := r') rfl (RowAt.setRow (r := Bs.zero) HB.out r') HS.out) rfl ?_
    exact ⟨by rw [HP.out]; rfl, below_setRow HC.out (Nat.le_succ _) _⟩
  · have HP := show Hid (putI r n = (Bs.zero, 50)) from putI_out r hn
    by_cases h0 : 0 ≤ n
    · have h1 : ¬ n < 1024 := fun h => hn ⟨h0, h⟩
      clear hn
      go_enter Tryd.func11, Tryd.ntmps11
      go_wp2_with (refine wpList_store16 _ rfl rfl _ _ rfl _ rfl (r' := Bs.zero) rfl (r := Bs.zero) (heap_two w _ _).2 Bs.zero_ok.1 Bs.zero_ok.1 ?_)
      refine bodyPost_ret (results_bits_tmp rfl _ _ (w.heap.size + 1) (r := Bs.zero) rfl (RowAt.setRow (r := Bs.zero) (heap_two w _ _).2 Bs.zero) Bs.zero_ok.1) rfl ?_
      exact ⟨by rw [HP.out]; rfl, below_setRow (below_two w _ _) (Nat.le_succ _) _⟩
    · clear hn
      go_enter Tryd.func11, Tryd.ntmps11
      go_wp2_with (refine wpList_store16 _ rfl rfl _ _ rfl _ rfl (r' := Bs.zero) rfl (r := Bs.zero) (heap_two w _ _).2 Bs.zero_ok.1 Bs.zero_ok.1 ?_)
      refine bodyPost_ret (results_bits_tmp rfl _ _ (w.heap.size + 1) (r := Bs.zero) rfl (RowAt.setRow (r := Bs.zero) (heap_two w _ _).2 Bs.zero) Bs.zero_ok.1) rfl ?_
      exact ⟨by rw [HP.out]; rfl, below_setRow (below_two w _ _) (Nat.le_succ _) _⟩
theorem put_any (w : World) {r : List Nat} (hr : Ok r) (n : Int) : Calls Tryd.prog 10 #[.agg (cellsB r), .int .i64 n] w fun e w' => e = .returned (.tuple #[.agg (cellsB (putI r n).1), .int .i64 (putI r n).2]) ∧ Below w.heap.size w w' := by
  by_cases hn : 0 ≤ n ∧ n < 1024
  · obtain ⟨m, rfl⟩ := Int.eq_ofNat_of_zero_le hn.1
    have hm : m < 1024 := by omega
    have HP := show Hid (putI r (m : Int) = (Bs.put r m, 0)) from putI_nat r hm
    have KI := show Hid (∀ w, Calls Tryd.prog 38 #[.int .i64 (m : Int)] w fun e w' => e = .returned (.bool true) ∧ w' = w) from fun w => inRow_yes w hm
    have KP := show Hid (∀ w, Calls Tryd.prog 39 #[.int .i64 (m : Int)] w fun e w' => e = .returned (.tuple #[.int .i64 ((m / 64 : Nat) : Int), .int .u64 ((2 ^ (m % 64) : Nat) : Int)]) ∧ w' = w.drew) from fun w => place_any w m hm
    have hq : m / 64 < 16 := by omega
    have hc := cellsB_at (r := r) (i := m / 64) (by rw [hr.1]; exact hq)
    have hor := u64_or_nat (wd r (m / 64)) (2 ^ (m % 64)) (Bs.wd_lt hr _) (Bs.pow_lt (Nat.mod_lt _ (by omega)))
    have hset := cellsB_set r (m / 64) (wd r (m / 64) ||| 2 ^ (m % 64))
    have HS := show Hid ((Bs.put r m).length = 16) from (Bs.put_ok hr m).1
    rw [show r.set (m / 64) (wd r (m / 64) ||| 2 ^ (m % 64)) = Bs.put r m from rfl] at hset
    generalize Bs.put r m = r' at *
    generalize m / 64 = q at *
    generalize 2 ^ (m % 64) = p at *
    generalize wd r q = x at *
    clear hn
    go_enter Tryd.func10, Tryd.ntmps10
    go_wp2_with (first | (go_at_call 38; refine (KI.out _).mono ?_; rintro e w' ⟨rfl, rfl⟩) | (go_at_call 39; refine (KP.out _).mono ?_; rintro e w' ⟨rfl, rfl⟩) | (refine wpList_load16 _ rfl _ rfl _ rfl (r := r') (heap_two w _ _).1 HS.out ?_) | (refine wpList_store16 _ rfl rfl _ _ rfl _ rfl rfl (r := Bs.zero) (heap_two w _ _).2 Bs.zero_ok.1 HS.out ?_))
    refine bodyPost_ret (results_bits_tmp rfl _ _ (w.heap.size + 1) (r := r') rfl (RowAt.setRow (r := Bs.zero) (heap_two w _ _).2 r') HS.out) rfl ?_
    exact ⟨by rw [HP.out]; rfl, below_setRow (below_two w _ _).drew (Nat.le_succ _) _⟩
  · have HP := show Hid (putI r n = (Bs.zero, 50)) from putI_out r hn
    have KI := show Hid (∀ w, Calls Tryd.prog 38 #[.int .i64 n] w fun e w' => e = .returned (.bool false) ∧ w' = w) from fun w => inRow_no w hn
    clear hn
    go_enter Tryd.func10, Tryd.ntmps10
    go_wp2_with (first | (go_at_call 38; refine (KI.out _).mono ?_; rintro e w' ⟨rfl, rfl⟩) | (refine wpList_store16 _ rfl rfl _ _ rfl _ rfl (r' := Bs.zero) rfl (r := Bs.zero) (heap_two w _ _).2 Bs.zero_ok.1 Bs.zero_ok.1 ?_))
    refine bodyPost_ret (results_bits_tmp rfl _ _ (w.heap.size + 1) (r := Bs.zero) rfl (RowAt.setRow (r := Bs.zero) (heap_two w _ _).2 Bs.zero) Bs.zero_ok.1) rfl ?_
    exact ⟨by rw [HP.out]; rfl, below_setRow (below_two w _ _) (Nat.le_succ _) _⟩
theorem drop_any (w : World) {r : List Nat} (hr : Ok r) (n : Int) : Calls Tryd.prog 14 #[.agg (cellsB r), .int .i64 n] w fun e w' => e = .returned (.agg (cellsB (dropI r n))) ∧ Below w.heap.size w w' := by
  by_cases hn : 0 ≤ n ∧ n < 1024
  · obtain ⟨m, rfl⟩ := Int.eq_ofNat_of_zero_le hn.1
    have hm : m < 1024 := by omega
    have HP := show Hid (dropI r (m : Int) = Bs.drop r m) from dropI_nat r hm
    have KI := show Hid (∀ w, Calls Tryd.prog 38 #[.int .i64 (m : Int)] w fun e w' => e = .returned (.bool true) ∧ w' = w) from fun w => inRow_yes w hm
    have KP := show Hid (∀ w, Calls Tryd.prog 39 #[.int .i64 (m : Int)] w fun e w' => e = .returned (.tuple #[.int .i64 ((m / 64 : Nat) : Int), .int .u64 ((2 ^ (m % 64) : Nat) : Int)]) ∧ w' = w.drew) from fun w => place_any w m hm
    have hq : m / 64 < 16 := by omega
    have hc := cellsB_at (r := r) (i := m / 64) (by rw [hr.1]; exact hq)
    have hor := u64_andNot_nat (wd r (m / 64)) (2 ^ (m % 64)) (Bs.wd_lt hr _) (Bs.pow_lt (Nat.mod_lt _ (by omega)))
    have hset := cellsB_set r (m / 64) (wd r (m / 64) &&& (18446744073709551615 - 2 ^ (m % 64)))
    have HS := show Hid ((Bs.drop r m).length = 16) from (Bs.drop_ok hr m).1
    rw [show r.set (m / 64) (wd r (m / 64) &&& (18446744073709551615 - 2 ^ (m % 64))) = Bs.drop r m from rfl] at hset
    generalize Bs.drop r m = r' at *
    generalize m / 64 = q at *
    generalize 2 ^ (m % 64) = p at *
    generalize wd r q = x at *
    clear hn
    go_enter Tryd.func14, Tryd.ntmps14
    go_wp2_with (first | (go_at_call 38; refine (KI.out _).mono ?_; rintro e w' ⟨rfl, rfl⟩) | (go_at_call 39; refine (KP.out _).mono ?_; rintro e w' ⟨rfl, rfl⟩) | (refine wpList_load16 _ rfl _ rfl _ rfl (r := r') (heap_two w _ _).1 HS.out ?_) | (refine wpList_store16 _ rfl rfl _ _ rfl _ rfl rfl (r := Bs.zero) (heap_two w _ _).2 Bs.zero_ok.1 HS.out ?_))
    refine bodyPost_ret (results_bits rfl _ _ (w.heap.size + 1) (r := r') rfl (RowAt.setRow (r := Bs.zero) (heap_two w _ _).2 r') HS.out) rfl ?_
    exact ⟨by rw [HP.out], below_setRow (below_two w _ _).drew (Nat.le_succ _) _⟩
  · have HP := show Hid (dropI r n = r) from dropI_out r hn
    have KI := show Hid (∀ w, Calls Tryd.prog 38 #[.int .i64 n] w fun e w' => e = .returned (.bool false) ∧ w' = w) from fun w => inRow_no w hn
    have HR := show Hid (r.length = 16) from hr.1
    clear hn
    go_enter Tryd.func14, Tryd.ntmps14
    go_wp2_with (first | (go_at_call 38; refine (KI.out _).mono ?_; rintro e w' ⟨rfl, rfl⟩) | (refine wpList_load16 _ rfl _ rfl _ rfl (r := r) (heap_two w _ _).1 HR.out ?_) | (refine wpList_store16 _ rfl rfl _ _ rfl _ rfl rfl (r := Bs.zero) (heap_two w _ _).2 Bs.zero_ok.1 HR.out ?_))
    refine bodyPost_ret (results_bits rfl _ _ (w.heap.size + 1) (r := r) rfl (RowAt.setRow (r := Bs.zero) (heap_two w _ _).2 r) HR.out) rfl ?_
    exact ⟨by rw [HP.out], below_setRow (below_two w _ _) (Nat.le_succ _) _⟩
end Go.Proofs.YthkolkmcnpafiaaDoor
