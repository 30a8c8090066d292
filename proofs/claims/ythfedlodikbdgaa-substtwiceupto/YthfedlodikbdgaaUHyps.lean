/-
  The law's call Hyps: rows that are alike. For rows that a machine can hold.
-/
import Derived.Test.YthfedlodikbdgaaUName
namespace Go.Proofs.Ythfedlodikbdgaa
open Go.RowKit Go.Maps
open Fm (Nd)

theorem below_drewH {B : Nat} {a w : World} (h : Below B a w) (n : Nat) : Below B a (w.drewN n) := ⟨h.os, h.tape, h.output, h.size, h.block⟩
set_option maxRecDepth 100000 in
set_option maxHeartbeats 2000000 in
theorem hyps_eq (w : World) (va vb : Value) (a : Sb.Hs) (ha : IsH w va a) (hb : IsH w vb a) :
    Calls Try.prog 14 #[va, vb] w fun e w' => e = .returned (.bool true) ∧ Below w.heap.size w w' := by
  obtain ⟨pa, ca, rfl, hla, hca⟩ := ha
  obtain ⟨pb, cb, rfl, hlb, hcb⟩ := hb
  have HA := show Hid (∀ k (hk : k < a.length), ∃ b o, pa = some ⟨b, o, none⟩ ∧ w.cell? ⟨b, o + k * 2, none⟩ = some (.string a[k].1) ∧ w.cell? ⟨b, o + k * 2 + 1, none⟩ = some (.int .i64 a[k].2)) from hca
  have HB := show Hid (∀ k (hk : k < a.length), ∃ g o, pb = some ⟨g, o, none⟩ ∧ w.cell? ⟨g, o + k * 2, none⟩ = some (.string a[k].1) ∧ w.cell? ⟨g, o + k * 2 + 1, none⟩ = some (.int .i64 a[k].2)) from hcb
  clear hca hcb
  go_enter Try.func14, Try.ntmps14
  go_wp2_with fail
  go_loopw [5] (fun i wr => ∃ k n : Nat, k ≤ a.length ∧ i = .int .i64 (k : Int) ∧ wr = w.drewN n) (fun i _ => a.length - (intOf i).toNat)
  case atStart => exact ⟨0, 0, by omega, rfl, rfl⟩
  case round =>
    obtain ⟨k, n, hk, rfl, rfl⟩ := hrel
    by_cases hlt : k < a.length
    · obtain ⟨ba, oa, rfl, c0, c1⟩ := HA.out k hlt
      obtain ⟨bb, ob, rfl, d0, d1⟩ := HB.out k hlt
      have hki : (k : Int) < (a.length : Int) := by omega
      clear HA HB
      generalize a[k] = x at *
      obtain ⟨xs, xi⟩ := x
      simp only at c0 c1 d0 d1
      go_wp2_with fail
      go_quiet (fail)
      go_wp2_with fail
      go_roundw
      case rel => exact ⟨k + 1, _, by omega, by go_num, rfl⟩
      case measure => first | (simp [intOf]; done) | (simp [intOf]; omega)
    · go_wp2_with fail
      go_ret
      exact ⟨rfl, below_drewH (Below.refl _ _) _⟩
end Go.Proofs.Ythfedlodikbdgaa
