/-
  How a set lies in memory, and small laws of it that the walks lean on. No condition.
-/
import Derived.Test.YtkejippimkjjaaaGreatDoorProg
import Derived.Test.YtkejippimkjjaaaGreatDoorBG1
import Derived.WalkKit
import Derived.WalkLawsBesides
import Derived.WalkSpells
import Derived.ProofKit
import Derived.Deep.WholeRow
import Derived.Laws.BitsAllLaws
import Derived.Laws.ShiftsVarLaws
import Derived.Laws.ResultCell
import Derived.Deep.RegionHeld3
import Derived.Laws.CopyOwn
import Derived.ChangeKeysEq
import Derived.Deep.MidRow
namespace Go.Proofs.YtkejippimkjjaaaGreatDoor.Bt
open Go.RowKit
open Bs (Ok wd)

def cellsB (r : List Nat) : Array Value := (r.map fun x : Nat => Value.int .u64 (x : Int)).toArray
theorem cellsB_size {r : List Nat} (h : r.length = 16) : (cellsB r).size = 16 := by simp [cellsB, h]
theorem cellsB_at {r : List Nat} {i : Nat} (h : i < r.length) : (cellsB r)[i]? = some (.int .u64 (wd r i : Int)) := by
  rw [Bs.wd_get h]
  simp [cellsB, h]
theorem cellsB_set (r : List Nat) (i x : Nat) : (cellsB r).setIfInBounds i (.int .u64 (x : Int)) = cellsB (r.set i x) := by
  simp [cellsB, List.map_set]
theorem cellsB_one (r : List Nat) : (cellsB r).all (·.oneCell') = true := by
  simp [cellsB, Value.oneCell']
theorem sizeB : (Tryz.prog.info? 25).map (·.size) = some 16 := by kernel_rfl
theorem val_int {k : IntKind} {a b : Int} (h : a = b) : Value.int k a = Value.int k b := by rw [h]
theorem below_alloc (w : World) (o : Obj) : Below w.heap.size w (w.alloc o) := (Below.refl _ _).alloc (Nat.le_refl _) _

theorem inRow_any (w : World) (n : Int) : Calls Tryz.prog 117 #[.int .i64 n] w fun e w' => e = .returned (.bool (decide (0 ≤ n) && decide (n < 1024))) ∧ w' = w := by
  by_cases h : 0 ≤ n
  · go_enter Tryz.func117, Tryz.ntmps117
    go_wp2
    go_ret
    exact ⟨by simp [h], rfl⟩
  · go_enter Tryz.func117, Tryz.ntmps117
    go_wp2
    go_ret
    exact ⟨by rw [decide_eq_false (show ¬ 0 ≤ n by omega)]; rfl, rfl⟩
theorem pow64 (n : Nat) : IntKind.u64.wrap (2 ^ (n % 64)) = ((2 ^ (n % 64) : Nat) : Int) := by
  have := Bs.pow_lt (Nat.mod_lt n (show 64 > 0 by omega))
  rw [IntKind.wrap_u64, show (2 : Int) ^ (n % 64) = ((2 ^ (n % 64) : Nat) : Int) by simp]
  generalize 2 ^ (n % 64) = p at *
  omega
theorem place_any (w : World) (n : Nat) (hn : n < 1024) : Calls Tryz.prog 118 #[.int .i64 (n : Int)] w fun e w' => e = .returned (.tuple #[.int .i64 ((n / 64 : Nat) : Int), .int .u64 ((2 ^ (n % 64) : Nat) : Int)]) ∧ w' = w.drew := by
  go_enter Tryz.func118, Tryz.ntmps118
  go_wp2
  go_region
  go_wp2
  go_ret2
  exact ⟨by rw [← pow64]; rfl, rfl⟩
end Go.Proofs.YtkejippimkjjaaaGreatDoor.Bt
/-
  A whole set loaded and stored by value, and handed back out of its cells: laws that the walks lean on. No condition.
-/
namespace Go.Proofs.YtkejippimkjjaaaGreatDoor.Bt
open Go.RowKit
open Bs (Ok wd)

def RowAt (w : World) (g : Nat) (r : List Nat) : Prop := w.heap[g]? = some (.cells (cellsB r) 25 (0, 0))
theorem heap_two (w : World) (a b : Obj) : ((w.alloc a).alloc b).heap[w.heap.size]? = some a ∧ ((w.alloc a).alloc b).heap[w.heap.size + 1]? = some b := by
  constructor
  · show ((w.heap.push a).push b)[w.heap.size]? = some a
    rw [Array.getElem?_push_lt (by simp)]
    simp
  · show ((w.heap.push a).push b)[w.heap.size + 1]? = some b
    have : w.heap.size + 1 = (w.heap.push a).size := by simp
    rw [this, Array.getElem?_push_size]
theorem below_two (w : World) (a b : Obj) : Below w.heap.size w ((w.alloc a).alloc b) := (below_alloc w a).alloc (by rw [World.size_alloc]; omega) b
theorem under25 : Tryz.prog.underlying 25 = some (.array 16 23) := by kernel_rfl
theorem load25 (w : World) (g : Nat) {r : List Nat} (h : RowAt w g r) (hs : r.length = 16) : (Instr.loadAt 25 (.pointer (some ⟨g, 0, none⟩))).run Tryz.prog w = .ok (.agg (cellsB r)) w := by
  simp only [Instr.loadAt, Instr.sureAddr, Sem.run_bind, Sem.run_pure, Result.andThen]
  exact run_loadVar_row w g 25 25 (cellsB r) (0, 0) _ h under25 rfl (by rw [sizeB, cellsB_size hs])
theorem store25 (w : World) (g : Nat) {r r' : List Nat} (h : RowAt w g r) (hs : r.length = 16) (hs' : r'.length = 16) : (Instr.storeAt 25 (.pointer (some ⟨g, 0, none⟩)) (.agg (cellsB r'))).run Tryz.prog w = .ok () (w.setRow g (cellsB r')) := by
  simp only [Instr.storeAt, Instr.sureAddr, Sem.run_bind, Sem.run_pure, Result.andThen]
  exact run_storeVar_row w g 25 25 (cellsB r) (cellsB r') h (by rw [sizeB, cellsB_size hs']) (by rw [cellsB_size hs, cellsB_size hs']) (cellsB_one r')
theorem wpList_want {ops : Array Oper} {rest : List Oper} {o : Oper} {a : Act} {w : World} {Q : Exit → Act → World → Prop} (hw : Region.wanted o (yielded ops a.tmps) = true)
    (h : ∀ K : Act → World → Prop, (∀ a w, wpList Tryz.prog ops Q rest a w → K a w) → o.wp Tryz.prog a w K Q) : wpList Tryz.prog ops Q (o :: rest) a w :=
  wpList_step fun K hK => by rw [if_pos hw]; exact h K hK
theorem wpList_load16 {ops : Array Oper} {rest : List Oper} {o : Oper} {a : Act} {Q : Exit → Act → World → Prop} (w : World) (hg : Region.wanted o (yielded ops a.tmps) = true) (x : Operand) (hop : o.op = Op.load 25 x) (g : Nat) (hx : a.eval x = .pointer (some ⟨g, 0, none⟩))
    {r : List Nat} (h : RowAt w g r) (hs : r.length = 16) (hK : wpList Tryz.prog ops Q rest (a.put o.dst (.agg (cellsB r))) w) : wpList Tryz.prog ops Q (o :: rest) a w := by
  refine wpList_want hg fun K' hK' => ?_
  have hrun := load25 w g h hs
  unfold Oper.wp
  simp [execOp, hop, hx, hrun, Result.andThen]
  exact hK' _ _ hK
theorem wpList_store16 {ops : Array Oper} {rest : List Oper} {o : Oper} {a : Act} {Q : Exit → Act → World → Prop} (w : World) (hg : o.guard = none) (hd : o.dst = none) (x y : Operand) (hop : o.op = Op.store 25 x y) (g : Nat) (hx : a.eval x = .pointer (some ⟨g, 0, none⟩))
    {r' : List Nat} (hy : a.eval y = .agg (cellsB r')) {r : List Nat} (h : RowAt w g r) (hs : r.length = 16) (hs' : r'.length = 16) (hK : wpList Tryz.prog ops Q rest a (w.setRow g (cellsB r'))) : wpList Tryz.prog ops Q (o :: rest) a w := by
  refine wpList_plain hg fun K' hK' => ?_
  have hrun := store25 w g h hs hs'
  unfold Oper.wp
  simp [execOp, hop, hx, hy, hrun, Result.andThen]
  rw [Oper.upon_skip, hd]
  exact hK' _ _ hK
theorem RowAt.setRow {w : World} {g : Nat} {r : List Nat} (h : RowAt w g r) (r' : List Nat) : RowAt (w.setRow g (cellsB r')) g r' := setRow_heap w g _ _ _ _ h
theorem results_bits {fn : Func} {p : Tmp} (h : fn.results = #[.cell p 25]) (tmps : Array Value) (w : World) (g : Nat) {r : List Nat} (hp : tmps.getD p undef = .pointer (some ⟨g, 0, none⟩)) (hr : RowAt w g r) (hs : r.length = 16) :
    (results fn tmps).run Tryz.prog w = .ok (.agg (cellsB r)) w :=
  results_cell_row h tmps w g _ (cellsB r) _ _ hp hr under25 rfl (by rw [sizeB, cellsB_size hs])
theorem results_bits_tmp {fn : Func} {p t2 : Tmp} (h : fn.results = #[.cell p 25, .tmp t2]) (tmps : Array Value) (w : World) (g : Nat) {r : List Nat} (hp : tmps.getD p undef = .pointer (some ⟨g, 0, none⟩)) (hr : RowAt w g r) (hs : r.length = 16) :
    (results fn tmps).run Tryz.prog w = .ok (.tuple #[.agg (cellsB r), tmps.getD t2 undef]) w := by
  rw [results_cell_tmp h, hp]
  simp [asAddr, run_loadVar_row w g 25 25 (cellsB r) (0, 0) _ hr under25 rfl (by rw [sizeB, cellsB_size hs]), Result.andThen]
end Go.Proofs.YtkejippimkjjaaaGreatDoor.Bt
/-
  Union, Meet, Minus, the program's and the document's: for every two sets. No condition.
-/
namespace Go.Proofs.YtkejippimkjjaaaGreatDoor.Bt
open Go.RowKit
open Bs (Ok wd)

theorem RowAt.keep {w w' : World} {g n : Nat} {r : List Nat} (h : RowAt w g r) (hb : Below n w w') (hg : g < n) : RowAt w' g r := (hb.block g hg).trans h
theorem RowAt.cell {w : World} {g : Nat} {r : List Nat} (h : RowAt w g r) {i : Nat} (hi : i < r.length) : w.cell? ⟨g, i, none⟩ = some (.int .u64 (wd r i : Int)) := by rw [cell_of_row w g i _ _ _ h, cellsB_at hi]
theorem RowAt.fr {w : World} {g : Nat} {r : List Nat} (h : RowAt w g r) (i : Nat) : w.frozen? ⟨g, i, none⟩ = false := frozen_of_row w g i _ _ h
theorem RowAt.setCell {w : World} {g : Nat} {r : List Nat} (h : RowAt w g r) (i x : Nat) : RowAt (w.setCell ⟨g, i, none⟩ (.int .u64 (x : Int))) g (r.set i x) := by
  have := heap_setCell_same w g i (cellsB r) 25 (.int .u64 (x : Int)) h
  rw [cellsB_set] at this
  exact this
theorem RowAt.other {w : World} {g : Nat} {r : List Nat} (h : RowAt w g r) {p : Addr} (hp : g ≠ p.block) (v : Value) : RowAt (w.setCell p v) g r := (Below.heap_setCell w p v g hp).trans h
end Go.Proofs.YtkejippimkjjaaaGreatDoor.Bt
/-
  Two sets compared whole, and the tests of sets that lean on it: Sub, Compare, Count, Next, and the document's. No condition.
-/
namespace Go.Proofs.YtkejippimkjjaaaGreatDoor.Bt
open Go.RowKit
open Bs (Ok wd)

theorem under23 : Tryz.prog.underlying 23 = some (.int .u64) := by kernel_rfl
theorem cells23 : Tryz.prog.cellsOf 23 = 1 := by kernel_rfl
theorem agg23 (w : World) : (isAgg 23).run Tryz.prog w = .ok false w := by
  simp [isAgg, run_underlying under23]
theorem part_bits (w : World) {p : List Nat} {i : Nat} (hi : i < p.length) : (part 23 (cellsB p) i).run Tryz.prog w = .ok (.int .u64 (wd p i : Int)) w := by
  simp only [part, Sem.run_bind, agg23, Result.andThen_ok, Bool.false_eq_true, if_false, cellsB_at hi]
  rfl
theorem eqItems_bits (w : World) (d : Nat) {p q : List Nat} (hp : p.length = 16) (hq : q.length = 16) : ∀ is : List Nat, (∀ i ∈ is, i < 16) → (Op.eqItems (d + 1) 23 1 (cellsB p) (cellsB q) is).run Tryz.prog w = .ok (is.all fun i => wd p i == wd q i) w
  | [], _ => rfl
  | i :: is, h => by
    have hi := h i List.mem_cons_self
    have ih := eqItems_bits w d hp hq is (fun j hj => h j (List.mem_cons_of_mem _ hj))
    have e1 : (Op.equalIn (d + 1) 23 (.int .u64 (wd p i : Int)) (.int .u64 (wd q i : Int))).run Tryz.prog w = .ok (wd p i == wd q i) w := by
      simp only [Op.equalIn, Sem.run_bind, run_underlying under23, Result.andThen_ok, if_true, Sem.run_pure]
      congr 1
      rw [Bool.eq_iff_iff]
      simp only [beq_iff_eq]
      omega
    simp only [Op.eqItems, Sem.run_bind, Nat.mul_one, part_bits w (show i < p.length by omega), part_bits w (show i < q.length by omega), Result.andThen_ok, e1]
    cases h1 : (wd p i == wd q i)
    · simp [h1]
    · simp only [Bool.not_true, Bool.false_eq_true, if_false, ih, List.all_cons, h1, Bool.true_and]
end Go.Proofs.YtkejippimkjjaaaGreatDoor.Bt
/-
  Has, Put, Drop, and the document's Has, With, Put, Drop: for every set and every number. No condition.
-/
namespace Go.Proofs.YtkejippimkjjaaaGreatDoor.Bt
open Go.RowKit
open Bs (Ok wd)

theorem inRow_yes (w : World) {m : Nat} (hm : m < 1024) : Calls Tryz.prog 117 #[.int .i64 (m : Int)] w fun e w' => e = .returned (.bool true) ∧ w' = w := by
  have := inRow_any w (m : Int)
  rwa [show (decide (0 ≤ (m : Int)) && decide ((m : Int) < 1024)) = true by simp; omega] at this
theorem inRow_no (w : World) {n : Int} (hn : ¬ (0 ≤ n ∧ n < 1024)) : Calls Tryz.prog 117 #[.int .i64 n] w fun e w' => e = .returned (.bool false) ∧ w' = w := by
  have := inRow_any w n
  have hI : (decide (0 ≤ n) && decide (n < 1024)) = false := by
    cases h : (decide (0 ≤ n) && decide (n < 1024))
    · rfl
    · exfalso; apply hn; simpa using h
  rwa [hI] at this
theorem hasI_nat (r : List Nat) {m : Nat} (hm : m < 1024) : Bs.hasI r (m : Int) = Bs.has r m := by
  simp only [Bs.hasI, show (decide (0 ≤ (m : Int)) && decide ((m : Int) < 1024)) = true by simp; omega, Bool.true_and, Int.toNat_natCast]
theorem hasI_out (r : List Nat) {n : Int} (hn : ¬ (0 ≤ n ∧ n < 1024)) : Bs.hasI r n = false := by
  cases h : Bs.hasI r n
  · rfl
  · exfalso
    simp only [Bs.hasI, Bool.and_eq_true, decide_eq_true_iff] at h
    exact hn h.1
theorem ret_bool {x y : Bool} (h : x = y) : Ending.returned (.bool x) = Ending.returned (.bool y) := by rw [h]

def putI (r : List Nat) (n : Int) : List Nat × Int := if 0 ≤ n ∧ n < 1024 then (Bs.put r n.toNat, 0) else (Bs.zero, 50)
def dropI (r : List Nat) (n : Int) : List Nat := if 0 ≤ n ∧ n < 1024 then Bs.drop r n.toNat else r
theorem putI_nat (r : List Nat) {m : Nat} (hm : m < 1024) : putI r (m : Int) = (Bs.put r m, 0) := by rw [putI, if_pos (by omega)]; rfl
theorem putI_out (r : List Nat) {n : Int} (hn : ¬ (0 ≤ n ∧ n < 1024)) : putI r n = (Bs.zero, 50) := by rw [putI, if_neg hn]
theorem dropI_nat (r : List Nat) {m : Nat} (hm : m < 1024) : dropI r (m : Int) = Bs.drop r m := by rw [dropI, if_pos (by omega)]; rfl
theorem dropI_out (r : List Nat) {n : Int} (hn : ¬ (0 ≤ n ∧ n < 1024)) : dropI r n = r := by rw [dropI, if_neg hn]

theorem shr_bit {x : Nat} (s : Nat) (hx : x < 18446744073709551616) : (bits .and .u64 ((x : Int) / 2 ^ s) 1 == 1) = x.testBit s := by
  have e : ((x : Int) / 2 ^ s) = ((x / 2 ^ s : Nat) : Int) := by simp
  have hlt : x / 2 ^ s < 18446744073709551616 := Nat.lt_of_le_of_lt (Nat.div_le_self _ _) hx
  have := u64_and_nat (x / 2 ^ s) 1 hlt (by omega)
  rw [e, show (1 : Int) = ((1 : Nat) : Int) by rfl, this, Nat.testBit_eq_decide_div_mod_eq, Nat.and_one_is_mod]
  have h2 : x / 2 ^ s % 2 = 0 ∨ x / 2 ^ s % 2 = 1 := by omega
  rcases h2 with h | h <;> rw [h] <;> rfl
set_option maxRecDepth 100000 in
theorem rhas_any (w : World) {r : List Nat} (hr : Ok r) (n : Int) : Calls Tryz.prog 53 #[.agg (cellsB r), .int .i64 n] w fun e w' => e = .returned (.bool (Bs.hasI r n)) ∧ w' = w.alloc (.cells (cellsB r) 25) := by
  by_cases hn : 0 ≤ n ∧ n < 1024
  · obtain ⟨m, rfl⟩ := Int.eq_ofNat_of_zero_le hn.1
    have hm : m < 1024 := by omega
    have HA := show Hid (Bs.hasI r (m : Int) = (wd r (m / 64)).testBit (m % 64)) from hasI_nat r hm
    have hq : m / 64 < 16 := by omega
    have hc := cellsB_at (r := r) (i := m / 64) (by rw [hr.1]; exact hq)
    have HB := show Hid ((bits .and .u64 ((wd r (m / 64) : Int) / 2 ^ (m % 64)) 1 == 1) = (wd r (m / 64)).testBit (m % 64)) from shr_bit _ (Bs.wd_lt hr _)
    generalize wd r (m / 64) = x at *
    clear hn
    go_enter Tryz.func53, Tryz.ntmps53
    go_wp2
    go_ret
    exact ⟨ret_bool (by rw [HA.out]; exact HB.out), rfl⟩
  · have HA := show Hid (Bs.hasI r n = false) from hasI_out r hn
    by_cases h0 : 0 ≤ n
    · have h1 : ¬ n < 1024 := fun h => hn ⟨h0, h⟩
      clear hn
      go_enter Tryz.func53, Tryz.ntmps53
      go_wp2
      go_ret
      exact ⟨ret_bool HA.out.symm, rfl⟩
    · clear hn
      go_enter Tryz.func53, Tryz.ntmps53
      go_wp2
      go_ret
      exact ⟨ret_bool HA.out.symm, rfl⟩
theorem with_any (w : World) {r : List Nat} (hr : Ok r) (m : Nat) (hm : m < 1024) : Calls Tryz.prog 101 #[.agg (cellsB r), .int .i64 (m : Int)] w fun e w' => e = .returned (.agg (cellsB (Bs.put r m))) ∧ Below w.heap.size w w' := by
  have hq : m / 64 < 16 := by omega
  have hc := cellsB_at (r := r) (i := m / 64) (by rw [hr.1]; exact hq)
  have hor := u64_or_nat (wd r (m / 64)) (2 ^ (m % 64)) (Bs.wd_lt hr _) (Bs.pow_lt (Nat.mod_lt _ (by omega)))
  have hset := cellsB_set r (m / 64) (wd r (m / 64) ||| 2 ^ (m % 64))
  have hp := pow64 m
  have HS := show Hid ((Bs.put r m).length = 16) from (Bs.put_ok hr m).1
  rw [show r.set (m / 64) (wd r (m / 64) ||| 2 ^ (m % 64)) = Bs.put r m from rfl, ← hor, ← hp] at hset
  generalize Bs.put r m = r' at *
  generalize wd r (m / 64) = x at *
  clear hor hp
  go_enter Tryz.func101, Tryz.ntmps101
  go_wp2_with (first | (refine wpList_load16 _ rfl _ rfl _ rfl (r := r') (heap_two w _ _).1 HS.out ?_) | (refine wpList_store16 _ rfl rfl _ _ rfl _ rfl rfl (r := Bs.zero) (heap_two w _ _).2 Bs.zero_ok.1 HS.out ?_))
  refine bodyPost_ret (results_bits rfl _ _ (w.heap.size + 1) (r := r') rfl (RowAt.setRow (r := Bs.zero) (heap_two w _ _).2 r') HS.out) rfl ?_
  exact ⟨rfl, below_setRow (below_two w _ _) (Nat.le_succ _) _⟩
theorem put_any (w : World) {r : List Nat} (hr : Ok r) (n : Int) : Calls Tryz.prog 109 #[.agg (cellsB r), .int .i64 n] w fun e w' => e = .returned (.tuple #[.agg (cellsB (putI r n).1), .int .i64 (putI r n).2]) ∧ Below w.heap.size w w' := by
  by_cases hn : 0 ≤ n ∧ n < 1024
  · obtain ⟨m, rfl⟩ := Int.eq_ofNat_of_zero_le hn.1
    have hm : m < 1024 := by omega
    have HP := show Hid (putI r (m : Int) = (Bs.put r m, 0)) from putI_nat r hm
    have KI := show Hid (∀ w, Calls Tryz.prog 117 #[.int .i64 (m : Int)] w fun e w' => e = .returned (.bool true) ∧ w' = w) from fun w => inRow_yes w hm
    have KP := show Hid (∀ w, Calls Tryz.prog 118 #[.int .i64 (m : Int)] w fun e w' => e = .returned (.tuple #[.int .i64 ((m / 64 : Nat) : Int), .int .u64 ((2 ^ (m % 64) : Nat) : Int)]) ∧ w' = w.drew) from fun w => place_any w m hm
    have hq : m / 64 < 16 := by omega
    have hc := cellsB_at (r := r) (i := m / 64) (by rw [hr.1]; exact hq)
    have hor := u64_or_nat (wd r (m / 64)) (2 ^ (m % 64)) (Bs.wd_lt hr _) (Bs.pow_lt (Nat.mod_lt _ (by omega)))
    have hset := cellsB_set r (m / 64) (wd r (m / 64) ||| 2 ^ (m % 64))
    have HS := show Hid ((Bs.put r m).length = 16) from (Bs.put_ok hr m).1
    rw [show r.set (m / 64) (wd r (m / 64) ||| 2 ^ (m % 64)) = Bs.put r m from rfl] at hset
    generalize Bs.put r m = r' at *
    generalize m / 64 = q at *
    generalize 2 ^ (m % 64) = p at *
    generalize wd r q = x at *
    clear hn
    go_enter Tryz.func109, Tryz.ntmps109
    go_wp2_with (first | (go_at_call 117; refine (KI.out _).mono ?_; rintro e w' ⟨rfl, rfl⟩) | (go_at_call 118; refine (KP.out _).mono ?_; rintro e w' ⟨rfl, rfl⟩) | (refine wpList_load16 _ rfl _ rfl _ rfl (r := r') (heap_two w _ _).1 HS.out ?_) | (refine wpList_store16 _ rfl rfl _ _ rfl _ rfl rfl (r := Bs.zero) (heap_two w _ _).2 Bs.zero_ok.1 HS.out ?_))
    refine bodyPost_ret (results_bits_tmp rfl _ _ (w.heap.size + 1) (r := r') rfl (RowAt.setRow (r := Bs.zero) (heap_two w _ _).2 r') HS.out) rfl ?_
    exact ⟨by rw [HP.out]; rfl, below_setRow (below_two w _ _).drew (Nat.le_succ _) _⟩
  · have HP := show Hid (putI r n = (Bs.zero, 50)) from putI_out r hn
    have KI := show Hid (∀ w, Calls Tryz.prog 117 #[.int .i64 n] w fun e w' => e = .returned (.bool false) ∧ w' = w) from fun w => inRow_no w hn
    clear hn
    go_enter Tryz.func109, Tryz.ntmps109
    go_wp2_with (first | (go_at_call 117; refine (KI.out _).mono ?_; rintro e w' ⟨rfl, rfl⟩) | (refine wpList_store16 _ rfl rfl _ _ rfl _ rfl (r' := Bs.zero) rfl (r := Bs.zero) (heap_two w _ _).2 Bs.zero_ok.1 Bs.zero_ok.1 ?_))
    refine bodyPost_ret (results_bits_tmp rfl _ _ (w.heap.size + 1) (r := Bs.zero) rfl (RowAt.setRow (r := Bs.zero) (heap_two w _ _).2 Bs.zero) Bs.zero_ok.1) rfl ?_
    exact ⟨by rw [HP.out]; rfl, below_setRow (below_two w _ _) (Nat.le_succ _) _⟩
theorem drop_any (w : World) {r : List Nat} (hr : Ok r) (n : Int) : Calls Tryz.prog 110 #[.agg (cellsB r), .int .i64 n] w fun e w' => e = .returned (.agg (cellsB (dropI r n))) ∧ Below w.heap.size w w' := by
  by_cases hn : 0 ≤ n ∧ n < 1024
  · obtain ⟨m, rfl⟩ := Int.eq_ofNat_of_zero_le hn.1
    have hm : m < 1024 := by omega
    have HP := show Hid (dropI r (m : Int) = Bs.drop r m) from dropI_nat r hm
    have KI := show Hid (∀ w, Calls Tryz.prog 117 #[.int .i64 (m : Int)] w fun e w' => e = .returned (.bool true) ∧ w' = w) from fun w => inRow_yes w hm
    have KP := show Hid (∀ w, Calls Tryz.prog 118 #[.int .i64 (m : Int)] w fun e w' => e = .returned (.tuple #[.int .i64 ((m / 64 : Nat) : Int), .int .u64 ((2 ^ (m % 64) : Nat) : Int)]) ∧ w' = w.drew) from fun w => place_any w m hm
    have hq : m / 64 < 16 := by omega
    have hc := cellsB_at (r := r) (i := m / 64) (by rw [hr.1]; exact hq)
    have hor := u64_andNot_nat (wd r (m / 64)) (2 ^ (m % 64)) (Bs.wd_lt hr _) (Bs.pow_lt (Nat.mod_lt _ (by omega)))
    have hset := cellsB_set r (m / 64) (wd r (m / 64) &&& (18446744073709551615 - 2 ^ (m % 64)))
    have HS := show Hid ((Bs.drop r m).length = 16) from (Bs.drop_ok hr m).1
    rw [show r.set (m / 64) (wd r (m / 64) &&& (18446744073709551615 - 2 ^ (m % 64))) = Bs.drop r m from rfl] at hset
    generalize Bs.drop r m = r' at *
    generalize m / 64 = q at *
    generalize 2 ^ (m % 64) = p at *
    generalize wd r q = x at *
    clear hn
    go_enter Tryz.func110, Tryz.ntmps110
    go_wp2_with (first | (go_at_call 117; refine (KI.out _).mono ?_; rintro e w' ⟨rfl, rfl⟩) | (go_at_call 118; refine (KP.out _).mono ?_; rintro e w' ⟨rfl, rfl⟩) | (refine wpList_load16 _ rfl _ rfl _ rfl (r := r') (heap_two w _ _).1 HS.out ?_) | (refine wpList_store16 _ rfl rfl _ _ rfl _ rfl rfl (r := Bs.zero) (heap_two w _ _).2 Bs.zero_ok.1 HS.out ?_))
    refine bodyPost_ret (results_bits rfl _ _ (w.heap.size + 1) (r := r') rfl (RowAt.setRow (r := Bs.zero) (heap_two w _ _).2 r') HS.out) rfl ?_
    exact ⟨by rw [HP.out], below_setRow (below_two w _ _).drew (Nat.le_succ _) _⟩
  · have HP := show Hid (dropI r n = r) from dropI_out r hn
    have KI := show Hid (∀ w, Calls Tryz.prog 117 #[.int .i64 n] w fun e w' => e = .returned (.bool false) ∧ w' = w) from fun w => inRow_no w hn
    have HR := show Hid (r.length = 16) from hr.1
    clear hn
    go_enter Tryz.func110, Tryz.ntmps110
    go_wp2_with (first | (go_at_call 117; refine (KI.out _).mono ?_; rintro e w' ⟨rfl, rfl⟩) | (refine wpList_load16 _ rfl _ rfl _ rfl (r := r) (heap_two w _ _).1 HR.out ?_) | (refine wpList_store16 _ rfl rfl _ _ rfl _ rfl rfl (r := Bs.zero) (heap_two w _ _).2 Bs.zero_ok.1 HR.out ?_))
    refine bodyPost_ret (results_bits rfl _ _ (w.heap.size + 1) (r := r) rfl (RowAt.setRow (r := Bs.zero) (heap_two w _ _).2 r) HR.out) rfl ?_
    exact ⟨by rw [HP.out], below_setRow (below_two w _ _) (Nat.le_succ _) _⟩
end Go.Proofs.YtkejippimkjjaaaGreatDoor.Bt
/-
  Sub, Compare, and the document's Sub, Compare, Next: for every two sets, every number. No condition.
-/
namespace Go.Proofs.YtkejippimkjjaaaGreatDoor.Bt
open Go.RowKit
open Bs (Ok wd)

def listB (r : List Nat) : List Value := r.map fun x : Nat => Value.int .u64 (x : Int)
theorem RowAt.range {w : World} {g : Nat} {r : List Nat} (h : RowAt w g r) : w.rangeAt g 0 (listB r) := fun j v hv => by
  rw [Nat.zero_add, cell_of_row w g j _ _ _ h]
  simpa [cellsB, listB] using hv
theorem ne_zero_int {z : Nat} : (((z : Int)) != 0) = (z != 0) := by
  rw [Bool.eq_iff_iff]; simp
theorem ret_int {x y : Int} (h : x = y) : Ending.returned (.int .i64 x) = Ending.returned (.int .i64 y) := by rw [h]
end Go.Proofs.YtkejippimkjjaaaGreatDoor.Bt
/-
  Regions that draw their order and load whole sets: what may be taken first is, and the calls come in their order. No condition.
-/
namespace Go.Proofs.YtkejippimkjjaaaGreatDoor.Bt
open Go.RowKit
open Bs (Ok wd)

section
variable {ops : Array Oper} {Q : Exit → Act → World → Prop} {S : World → Prop} {fuel : Nat} {listed : Array Bool} {a : Act} {w : World}
end
theorem RowAt.lt {w : World} {g : Nat} {r : List Nat} (h : RowAt w g r) : g < w.heap.size := (Array.getElem?_eq_some_iff.1 h).1
end Go.Proofs.YtkejippimkjjaaaGreatDoor.Bt
/-
  Regions that draw their order and store a whole set: step by step, whichever comes up. No condition.
-/
namespace Go.Proofs.YtkejippimkjjaaaGreatDoor.Bt
open Go.RowKit
open Bs (Ok wd)

section
variable {ops : Array Oper} {Q : Exit → Act → World → Prop} {S : World → Prop} {fuel : Nat} {listed : Array Bool} {a : Act} {w : World}
end
end Go.Proofs.YtkejippimkjjaaaGreatDoor.Bt
