/-
  Is a rule one of some: slices.Index, slices.Contains at rules, and the function that tells what is struck out. For every row of rules. No condition.
-/
import Derived.Test.YtpddfooeaecekaaDoorZNew
namespace Go.Proofs.YtpddfooeaecekaaDoor
open Go.RowKit Go.Shelf Go.Maps
open Fm (Nd)
open Bt.Bs (Ok wd)
set_option linter.unusedSimpArgs false

set_option maxRecDepth 100000 in
set_option maxHeartbeats 1000000 in
theorem indexR_any (w : World) (v : Value) (xs : List Int) (hv : Bt.IsL w v xs) (x : Int) : Calls Tryd.prog 100 #[v, .int .i64 x] w fun e w' => (∃ i : Int, e = .returned (.int .i64 i) ∧ decide (i ≥ 0) = xs.contains x) ∧ w' = w := by
  obtain ⟨p, c, rfl, hlen, hcell⟩ := hv
  have HC := show Hid (∀ k (hk : k < xs.length), ∃ b o, p = some ⟨b, o, none⟩ ∧ w.cell? ⟨b, o + k, none⟩ = some (.int .i64 xs[k])) from hcell
  clear hcell
  go_enter Tryd.func100, Tryd.ntmps100
  go_wp2_with fail
  go_loopw [8] (fun n wr => ∃ (k : Nat), k ≤ xs.length ∧ n = .int .i64 (k : Int) ∧ Hid (∀ j (hj : j < xs.length), j < k → xs[j] ≠ x) ∧ wr = w) (fun n _ => xs.length - (intOf n).toNat)
  case atStart => exact ⟨0, by omega, rfl, fun j _ h => by omega, rfl⟩
  case round =>
    obtain ⟨k, hk, rfl, HI, hw⟩ := hrel
    subst hw
    by_cases hlt : k < xs.length
    · obtain ⟨bb, o, rfl, hc⟩ := HC.out k hlt
      have hltI : (k : Int) < (xs.length : Int) := by omega
      by_cases hx : xs[k] = x
      · have hb : (x == xs[k]) = true := by simpa using hx.symm
        have HX := show Hid (xs.contains x = true) from by
          show xs.contains x = true
          rw [List.contains_iff_mem, ← hx]
          exact List.getElem_mem hlt
        clear HI HC hx
        generalize xs[k] = y at *
        go_wp2_with fail
        go_ret
        refine ⟨⟨(k : Int), rfl, ?_⟩, rfl⟩
        rw [HX.out]
        simp
      · have hb : (x == xs[k]) = false := by simpa using fun e : x = xs[k] => hx e.symm
        have HI2 := show Hid (∀ j (hj : j < xs.length), j < k + 1 → xs[j] ≠ x) from fun j hj h => by
          by_cases e : j = k
          · subst e; exact hx
          · exact HI.out j hj (by omega)
        clear HI HC hx
        generalize xs[k] = y at *
        go_wp2_with fail
        go_roundw
        case rel => exact ⟨k + 1, by omega, val_int (by omega), HI2.out, trivial⟩
        case measure => (simp only [intOf]; omega)
    · obtain rfl : k = xs.length := by omega
      have HX := show Hid (xs.contains x = false) from by
        show xs.contains x = false
        cases h : xs.contains x with
        | false => rfl
        | true =>
          obtain ⟨j, hj, e⟩ := List.mem_iff_getElem.1 (List.contains_iff_mem.1 h)
          exact absurd e (HI.out j hj hj)
      clear HI HC
      go_wp2_with fail
      go_ret
      refine ⟨⟨-1, rfl, ?_⟩, rfl⟩
      rw [HX.out]
      rfl
set_option maxRecDepth 100000 in
set_option maxHeartbeats 1000000 in
theorem containsR_any (w : World) (v : Value) (xs : List Int) (hv : Bt.IsL w v xs) (x : Int) : Calls Tryd.prog 87 #[v, .int .i64 x] w fun e w' => e = .returned (.bool (xs.contains x)) ∧ w' = w := by
  have K := show Hid _ from indexR_any w v xs hv x
  clear hv
  generalize xs.contains x = q at *
  go_enter Tryd.func87, Tryd.ntmps87
  go_wp2_with fail
  refine Calls.mono K.out ?_
  rintro e w1 ⟨⟨i, rfl, hi⟩, rfl⟩
  have HI := show Hid _ from hi
  clear hi K
  go_wp2_with fail
  go_ret
  refine ⟨?_, rfl⟩
  rw [← HI.out]
  rfl
set_option maxRecDepth 100000 in
set_option maxHeartbeats 1000000 in
theorem of1_any (w0 : World) {rb : Nat} {rv : Value} (xs : List Int) (hb : Cl w0 rb #[rv] 68) (hv : Bt.IsL w0 rv xs) (x : T3) : Calls Tryd.prog 86 #[.agg (c3 x).toArray, .pointer (some ⟨rb, 0, none⟩)] w0 fun e w' => e = .returned (.bool (!xs.contains x.n)) ∧ Below w0.heap.size w0 w' := by
  have KC := show Hid (∀ W : World, Below w0.heap.size w0 W → Calls Tryd.prog 87 #[rv, .int .i64 x.n] W fun e w' => e = .returned (.bool (xs.contains x.n)) ∧ w' = W) from fun W h => containsR_any W rv xs (hv.later h) x.n
  have HB := show Hid (∀ W : World, Below w0.heap.size w0 W → W.cell? ⟨rb, 0, none⟩ = some rv) from fun W h => (hb.later h).cell 0
  obtain ⟨p, c, rfl, -⟩ := hv
  clear hb
  generalize xs.contains x.n = q at *
  go_enter Tryd.func86, Tryd.ntmps86
  go_wp2_with (refine wpList_box 96 _ rfl _ rfl rfl ?_)
  intro w1 b2 hn1
  have H1 := show Hid (Below w0.heap.size w0 w1) from hn1.bel
  have c1 := HB.out w1 hn1.bel
  have d0 : w1.cell? ⟨b2, 0, none⟩ = some (.int .i64 x.n) := Cl.cell hn1.blk 0
  have KX := show Hid _ from KC.out w1 hn1.bel
  clear hn1 HB KC
  go_wp2_with fail
  refine Calls.mono KX.out ?_
  rintro e w2 ⟨rfl, hw2⟩
  subst w2
  clear KX
  go_wp2_with fail
  go_ret
  exact ⟨rfl, H1.out⟩
end Go.Proofs.YtpddfooeaecekaaDoor
