/-
  The document's Ints, of two equal lists of numbers, wherever they lie. No condition.
-/
import Derived.Test.YthkolkmcnpafiaaDoorBHeads
import Derived.BigQuiet
namespace Go.Proofs.YthkolkmcnpafiaaDoor
open Go.RowKit

theorem belowDrewN {b : Nat} {w v : World} (h : Below b w v) (k : Nat) : Below b w (v.drewN k) := ⟨h.os, h.tape, h.output, h.size, h.block⟩
set_option maxRecDepth 100000 in
set_option maxHeartbeats 4000000 in
theorem ints_any (w : World) (u v : Value) (l : List Int) (hu : IsL w u l) (hv : IsL w v l) : Calls Tryd.prog 16 #[u, v] w fun e w' => e = .returned (.bool true) ∧ Below w.heap.size w w' := by
  obtain ⟨p, c, rfl, hlen, hcell⟩ := hu
  obtain ⟨q, d, rfl, -, hcell2⟩ := hv
  have HC := show Hid (∀ k (hk : k < l.length), ∃ b o, p = some ⟨b, o, none⟩ ∧ w.cell? ⟨b, o + k, none⟩ = some (.int .i64 l[k])) from hcell
  have HD := show Hid (∀ k (hk : k < l.length), ∃ b o, q = some ⟨b, o, none⟩ ∧ w.cell? ⟨b, o + k, none⟩ = some (.int .i64 l[k])) from hcell2
  clear hcell hcell2
  go_enter Tryd.func16, Tryd.ntmps16
  go_wp2
  go_loopw [5] (fun n wr => ∃ k : Nat, k ≤ l.length ∧ n = .int .i64 (k : Int) ∧ Hid (Below w.heap.size w wr)) (fun n _ => l.length - (intOf n).toNat)
  case atStart => exact ⟨0, by omega, rfl, Below.refl _ _⟩
  case round =>
    obtain ⟨k, hk, rfl, HQ⟩ := hrel
    by_cases hlt : k < l.length
    · obtain ⟨bb, o, rfl, hc0⟩ := HC.out k hlt
      obtain ⟨bb2, o2, rfl, hc2⟩ := HD.out k hlt
      have hc : wr.cell? ⟨bb, o + k, none⟩ = some (.int .i64 l[k]) := cell_later HQ.out hc0
      have hd : wr.cell? ⟨bb2, o2 + k, none⟩ = some (.int .i64 l[k]) := cell_later HQ.out hc2
      have hltI : (k : Int) < (l.length : Int) := by omega
      clear hc0 hc2 HC HD
      generalize l[k] = n at *
      go_wp2
      go_quiet (fail)
      have HZ := show Hid (Below w.heap.size w (wr.drewN nq)) from belowDrewN HQ.out nq
      generalize wr.drewN nq = wz at *
      clear hc hd HQ
      go_wp2
      go_roundw
      case rel => exact ⟨k + 1, by omega, val_int (by omega), HZ.out⟩
      case measure => (simp only [intOf]; omega)
    · have hge : ¬ (k : Int) < (l.length : Int) := by omega
      clear HC HD
      go_wp2
      go_ret
      exact ⟨rfl, HQ.out⟩
end Go.Proofs.YthkolkmcnpafiaaDoor
