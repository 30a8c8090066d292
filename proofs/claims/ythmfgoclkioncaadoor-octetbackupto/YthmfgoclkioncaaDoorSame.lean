/-
  The document's call Same: are two rows of bytes the same: for every two rows.
-/
import Derived.Test.YthmfgoclkioncaaDoorKit
import Derived.BigQuiet
import Derived.Test.YthmfgoclkioncaaDoorSumByte
namespace Go.Proofs.YthmfgoclkioncaaDoor
open Go.RowKit

theorem ret_bool {a b : Bool} (h : a = b) : Ending.returned (.bool a) = .returned (.bool b) := by rw [h]
theorem same_step (l r : List UInt8) (k : Nat) (h1 : k < l.length) (h2 : k < r.length) (he : l[k] = r[k]) (h : l.take k = r.take k) : l.take (k + 1) = r.take (k + 1) := by
  rw [List.take_succ_eq_append_getElem h1, List.take_succ_eq_append_getElem h2, h, he]
set_option maxHeartbeats 1000000 in
theorem same_any (w : World) (v v2 : Value) (l r : List UInt8) (hv : IsB w v l) (hv2 : IsB w v2 r) :
    Calls Tryd.prog 10 #[v, v2] w fun e w' => e = .returned (.bool (decide (l = r))) ∧ ∃ n, w' = w.drewN n := by
  obtain ⟨p, c, rfl, hc1, hc2, hpn, hb⟩ := hv
  obtain ⟨p2, c2, rfl, hd1, hd2, hqn, hb2⟩ := hv2
  clear hpn hqn
  by_cases hlen : l.length = r.length
  · have HLEN := show Hid (l.length = r.length) from hlen
    have hle : l.length ≤ r.length := by omega
    have hle2 : r.length ≤ l.length := by omega
    have hbne : ((l.length : Int) != (r.length : Int)) = false := by simp [hlen]
    clear hlen
    go_enter Tryd.func10, Tryd.ntmps10
    go_wp2
    go_loopw [5] (fun i wr => ∃ k : Nat, k ≤ l.length ∧ i = .int .i64 k ∧ Hid (l.take k = r.take k) ∧ ∃ n, wr = w.drewN n) (fun i _ => l.length - (intOf i).toNat)
    case atStart => exact ⟨0, by omega, rfl, rfl, 0, rfl⟩
    case round =>
      obtain ⟨k, hk, rfl, HE, n0, rfl⟩ := hrel
      by_cases hlt : k < l.length
      · obtain ⟨b, o, rfl, hcell⟩ := bytes_cell hb (by omega)
        obtain ⟨b2, o2, rfl, hcell2⟩ := bytes_cell hb2 (by omega)
        have hck := hcell k hlt
        have hck2 := hcell2 k (by omega)
        clear hcell hcell2 hb hb2
        by_cases he : l[k] = r[k]'(by omega)
        · have hne : (((l[k]).toNat : Int) != ((r[k]'(by omega)).toNat : Int)) = false := by rw [he]; simp
          have HS := show Hid (l.take (k + 1) = r.take (k + 1)) from same_step l r k hlt (by omega) he HE.out
          clear he HE
          generalize (l[k]).toNat = m at *
          generalize (r[k]'(by omega)).toNat = m2 at *
          go_wp2
          go_quiet (fail)
          go_wp2
          go_roundw
          case rel => exact ⟨k + 1, by omega, by go_num, HS, _, rfl⟩
          case measure => simp [intOf]; omega
        · have hne : (((l[k]).toNat : Int) != ((r[k]'(by omega)).toNat : Int)) = true := by
            rw [bne_iff_ne]
            intro h
            exact he (UInt8.toNat_inj.1 (Int.ofNat_inj.1 h))
          have HNE : Hid (l ≠ r) := fun e => he (by subst e; rfl)
          clear he HE
          generalize (l[k]).toNat = m at *
          generalize (r[k]'(by omega)).toNat = m2 at *
          go_wp2
          go_quiet (fail)
          go_wp2
          go_ret
          exact ⟨ret_bool (decide_eq_false HNE.out).symm, _, World.drewN_drewN _ _ _⟩
      · have hkl : k = l.length := by omega
        have HS := show Hid (l = r) from by
          have := HE.out
          rwa [hkl, List.take_length, HLEN.out, List.take_length] at this
        clear hkl
        go_wp2
        go_ret
        exact ⟨ret_bool (decide_eq_true HS.out).symm, _, rfl⟩
  · have hbne : ((l.length : Int) != (r.length : Int)) = true := by
      rw [bne_iff_ne]
      intro h
      exact hlen (Int.ofNat_inj.1 h)
    have HNE : Hid (l ≠ r) := fun e => hlen (by rw [e])
    clear hlen hb hb2
    go_enter Tryd.func10, Tryd.ntmps10
    go_wp2
    go_ret
    exact ⟨ret_bool (decide_eq_false HNE.out).symm, 0, rfl⟩
end Go.Proofs.YthmfgoclkioncaaDoor
