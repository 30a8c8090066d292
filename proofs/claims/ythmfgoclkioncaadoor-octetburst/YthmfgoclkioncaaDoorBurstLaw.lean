/-
  OctetBurst, as a walk: for every bytes, place and mask it answers true and changes nothing that was there, where the library's tables stand as the program's text lays them, and the bytes are at most 2^47 - 4096.
-/
import Derived.Test.YthmfgoclkioncaaDoorHeads
import Derived.Test.YthmfgoclkioncaaDoorTurn
namespace Go.Proofs.YthmfgoclkioncaaDoor
open Go.RowKit

theorem place (a : Int) (n : Nat) (hn : n ≤ 140737488351232) : ∃ K : Nat, wrap64 ((IntKind.u64.wrap a).tmod (8 * ((n : Int) + 4))) = (K : Int) ∧ K < 8 * (n + 4) := by
  have h0 : 0 ≤ IntKind.u64.wrap a := by rw [IntKind.wrap_u64]; omega
  rw [Int.tmod_eq_emod_of_nonneg h0]
  have h1 := Int.emod_nonneg (IntKind.u64.wrap a) (show 8 * ((n : Int) + 4) ≠ 0 by omega)
  have h2 := Int.emod_lt_of_pos (IntKind.u64.wrap a) (show 0 < 8 * ((n : Int) + 4) by omega)
  obtain ⟨K, hK⟩ := Int.eq_ofNat_of_zero_le h1
  refine ⟨K, ?_, by omega⟩
  rw [IntWalk.wrap64_in _ ⟨by omega, by omega⟩, hK]
theorem bit_test (m j : Nat) (h : m < 4294967296) : bits .and .u32 ((m : Int) / 2 ^ j) 1 = if m.testBit j then 1 else 0 := by
  have e : (m : Int) / 2 ^ j = ((m / 2 ^ j : Nat) : Int) := by simp
  rw [e, and_one _ (Nat.lt_of_le_of_lt (Nat.div_le_self _ _) h), Nat.testBit_eq_decide_div_mod_eq]
  rcases Nat.mod_two_eq_zero_or_one (m / 2 ^ j) with h1 | h1 <;> rw [h1] <;> simp
theorem vals_flip (l : List UInt8) (p : Nat) (ch : UInt8) (hch : l.getD (p / 8) 0 = ch) : vals (Oct.flip l p) = (vals l).set (p / 8) (.int .u8 (bits .xor .u8 (ch.toNat : Int) (2 ^ (p % 8) % 256))) := by
  have h1 : 2 ^ (p % 8) < 256 := Nat.pow_lt_pow_right (n := 8) (a := 2) (by omega) (by omega)
  have hx := u8_xor_nat ch.toNat (2 ^ (p % 8)) (toNat_lt ch) h1
  have e : ((2 : Int) ^ (p % 8) % 256) = ((2 ^ (p % 8) : Nat) : Int) := by
    have h2 : (2 : Int) ^ (p % 8) = ((2 ^ (p % 8) : Nat) : Int) := by simp
    rw [h2]
    generalize 2 ^ (p % 8) = x at *
    omega
  rw [e, hx, Oct.flip, hch]
  have hlt : ch.toNat ^^^ 2 ^ (p % 8) < 256 := Nat.xor_lt_two_pow (n := 8) (toNat_lt ch) h1
  unfold vals
  rw [List.map_set, Oct.ofNat_toNat, Nat.mod_eq_of_lt hlt]
set_option maxRecDepth 100000 in
set_option maxHeartbeats 2000000 in
theorem burst_tail (w wr : World) (l : List UInt8) (K m j g : Nat) (hm : l.length ≤ 140737488351232) (hj : j ≤ 32) (hKj : K + j ≤ 8 * (l.length + 4)) (hown : wr.ownsRow w.heap.size 5 1 (.slice (some ⟨g, 0, none⟩) (l.length + 4) (l.length + 4)) (l.length + 4) (vals (Oct.turn (Oct.sealed l) K m j))) :
    Calls Tryd.prog 24 #[.slice (some ⟨g, 0, none⟩) (l.length + 4) (l.length + 4)] wr fun e w' => Below wr.heap.size wr w' ∧ ∃ p n c, e = .returned (.tuple #[.slice p n c, .int .i64 (if Oct.some m j then 13 else 0)]) := by
  have htl := Oct.turn_length (Oct.sealed l) K m j
  rw [Oct.sealed_length] at htl
  refine (open_any wr _ (Oct.turn (Oct.sealed l) K m j) (IsB.of_owns hown) (by omega) (by omega)).mono ?_
  have e4 : (Oct.turn (Oct.sealed l) K m j).length - 4 = l.length := by omega
  rw [e4]
  have ht := Oct.told_burst l K m j hj hKj
  rintro e w' ⟨hb, ⟨hy, g2, rfl, _⟩ | ⟨hno, rfl⟩⟩
  · exact ⟨hb, _, _, _, by rw [ht.1 hy]; rfl⟩
  · refine ⟨hb, none, 0, 0, ?_⟩
    cases hs : Oct.some m j with
    | false => exact absurd (ht.2 hs) hno
    | true => rfl
set_option maxRecDepth 100000 in
set_option maxHeartbeats 4000000 in
theorem burst_any (w : World) (v : Value) (l : List UInt8) (at_ : Int) (m : Nat) (hv : IsB w v l) (hm : l.length ≤ 140737488351232) (hmask : m < 4294967296) (hT : Tabs w) (hP : Pows w) :
    Calls Tryd.prog 7 #[v, .int .i64 at_, .int .u32 (m : Int)] w fun e w' => e = .returned (.bool true) ∧ Below w.heap.size w w' := by
  have CS := show Hid (Calls Tryd.prog 20 #[v] w fun e w' => ∃ g, e = .returned (.slice (some ⟨g, 0, none⟩) (l.length + 4) (l.length + 4)) ∧
      w'.ownsRow w.heap.size 5 1 (.slice (some ⟨g, 0, none⟩) (l.length + 4) (l.length + 4)) (l.length + 4) (vals (Oct.sealed l)) ∧ Below w.heap.size w w') from seal_any w v l hv (by omega)
  obtain ⟨p, c, rfl, hc1, hc2, hpn, hb⟩ := hv
  have HT := show Hid (Tabs w) from hT
  have HP := show Hid (Pows w) from hP
  clear hb hpn hT hP
  go_enter Tryd.func7, Tryd.ntmps7
  go_wp2_with fail
  refine CS.out.mono ?_
  rintro e w1 ⟨g, rfl, hown1, hb1⟩
  go_wp2
  obtain ⟨K, hK, hKlt⟩ := place at_ l.length hm
  rw [hK]
  clear hK CS
  go_loopw [9, 10] (fun t i wr => ∃ j : Nat, j ≤ 32 ∧ K + j ≤ 8 * (l.length + 4) ∧ i = .int .i64 (j : Int) ∧ t = .bool (Oct.some m j) ∧
      wr.ownsRow w.heap.size 5 1 (.slice (some ⟨g, 0, none⟩) (l.length + 4) (l.length + 4)) (l.length + 4) (vals (Oct.turn (Oct.sealed l) K m j)) ∧ Below w.heap.size w wr) (fun _ i _ => 32 - (intOf i).toNat)
  case atStart => exact ⟨0, by omega, by omega, rfl, rfl, hown1, hb1⟩
  case round =>
    obtain ⟨j, hj, hKj, rfl, rfl, hown, hb⟩ := hrel
    clear hown1 hb1
    by_cases hgo : j < 32 ∧ K + j < 8 * (l.length + 4)
    · obtain ⟨hj32, hKjn⟩ := hgo
      have hdj : decide ((j : Int) < 32) = true := by simp; omega
      have htl := Oct.turn_length (Oct.sealed l) K m j
      rw [Oct.sealed_length] at htl
      have htest := bit_test m j hmask
      cases hbit : m.testBit j with
      | false =>
        rw [hbit] at htest
        have ht0 : (bits BinOp.and IntKind.u32 ((m : Int) / 2 ^ j) 1 == 1) = false := by rw [htest]; rfl
        have HTB := show Hid (m.testBit j = false) from hbit
        clear htest hbit htl
        go_wp2
        go_roundw
        case rel =>
          refine ⟨j + 1, by omega, by omega, by go_num, by rw [Oct.some, HTB.out, Bool.or_false], ?_, hb⟩
          rw [Oct.turn, HTB.out]
          exact hown
        case measure => simp [intOf]; omega
      | true =>
        rw [hbit] at htest
        have ht0 : (bits BinOp.and IntKind.u32 ((m : Int) / 2 ^ j) 1 == 1) = true := by rw [htest]; rfl
        have hcell : wr.cell? ⟨g, (K + j) / 8, none⟩ = some (.int .u8 (((Oct.turn (Oct.sealed l) K m j).getD ((K + j) / 8) 0).toNat : Int)) := by
          rw [hown.cellAt _ (by omega)]
          simp [vals, List.getD, htl, show (K + j) / 8 < l.length + 4 by omega]
        have hfz := hown.frozenAt ((K + j) / 8)
        have hst := hown.stored ((K + j) / 8)
        have HST := show Hid (∀ u, (wr.setCell ⟨g, (K + j) / 8, none⟩ u).ownsRow w.heap.size 5 1 (.slice (some ⟨g, 0, none⟩) (l.length + 4) (l.length + 4)) (l.length + 4) ((vals (Oct.turn (Oct.sealed l) K m j)).set ((K + j) / 8) u)) from fun u => (hst u).1
        have HTB := show Hid (m.testBit j = true) from hbit
        have hc0 := toNat_lt ((Oct.turn (Oct.sealed l) K m j).getD ((K + j) / 8) 0)
        generalize hgc : ((Oct.turn (Oct.sealed l) K m j).getD ((K + j) / 8) 0) = ch at *
        have HGC := show Hid (((Oct.turn (Oct.sealed l) K m j).getD ((K + j) / 8) 0) = ch) from hgc
        clear htest hbit htl hst hgc
        go_wp2
        go_roundw
        case rel =>
          have hgb := (hown.lt g rfl).1
          refine ⟨j + 1, by omega, by omega, by go_num, by rw [Oct.some, HTB.out, Bool.or_true], ?_, hb.setCell (by exact hgb) _⟩
          rw [Oct.turn, HTB.out, if_pos rfl, vals_flip _ _ ch HGC.out]
          exact HST.out _
        case measure => simp [intOf]; omega
    · have CO := burst_tail w wr l K m j g hm hj hKj hown
      have HB := show Hid (Below w.heap.size w wr) from hb
      have hsz := hb.size
      clear hown hb
      cases hs : Oct.some m j with
      | false =>
        rw [hs] at CO
        have HCO := show Hid (Calls Tryd.prog 24 #[.slice (some ⟨g, 0, none⟩) (l.length + 4) (l.length + 4)] wr fun e w' => Below wr.heap.size wr w' ∧ ∃ p n c, e = .returned (.tuple #[.slice p n c, .int .i64 0])) from CO
        clear CO hs
        by_cases hj32 : j < 32
        · have hdj : decide ((j : Int) < 32) = true := by simp; omega
          have hKn : 8 * (l.length + 4) ≤ K + j := by omega
          clear hgo
          go_wp2_with fail
          refine HCO.out.mono ?_
          rintro e w2 ⟨hb2, p2, n2, c2, rfl⟩
          have HB2 := show Hid (Below w.heap.size w w2) from HB.out.trans (hb2.mono HB.out.size)
          have CH := show Hid (Calls Tryd.prog 11 #[] w2 fun e w' => e = .returned (.bool true) ∧ Below w2.heap.size w2 w') from heads_any w2 (HT.out.later HB2.out) (HP.out.later HB2.out)
          clear HCO hb2
          go_wp2_with fail
          refine CH.out.mono ?_
          rintro e w3 ⟨rfl, hb3⟩
          have HB3 := show Hid (Below w.heap.size w w3) from HB2.out.trans (hb3.mono HB2.out.size)
          clear CH hb3
          go_wp2
          go_ret
          exact ⟨rfl, HB3.out⟩
        · have hdj : decide ((j : Int) < 32) = false := by simp; omega
          clear hgo
          go_wp2_with fail
          refine HCO.out.mono ?_
          rintro e w2 ⟨hb2, p2, n2, c2, rfl⟩
          have HB2 := show Hid (Below w.heap.size w w2) from HB.out.trans (hb2.mono HB.out.size)
          have CH := show Hid (Calls Tryd.prog 11 #[] w2 fun e w' => e = .returned (.bool true) ∧ Below w2.heap.size w2 w') from heads_any w2 (HT.out.later HB2.out) (HP.out.later HB2.out)
          clear HCO hb2
          go_wp2_with fail
          refine CH.out.mono ?_
          rintro e w3 ⟨rfl, hb3⟩
          have HB3 := show Hid (Below w.heap.size w w3) from HB2.out.trans (hb3.mono HB2.out.size)
          clear CH hb3
          go_wp2
          go_ret
          exact ⟨rfl, HB3.out⟩
      | true =>
        rw [hs] at CO
        have HCO := show Hid (Calls Tryd.prog 24 #[.slice (some ⟨g, 0, none⟩) (l.length + 4) (l.length + 4)] wr fun e w' => Below wr.heap.size wr w' ∧ ∃ p n c, e = .returned (.tuple #[.slice p n c, .int .i64 13])) from CO
        clear CO hs
        by_cases hj32 : j < 32
        · have hdj : decide ((j : Int) < 32) = true := by simp; omega
          have hKn : 8 * (l.length + 4) ≤ K + j := by omega
          clear hgo
          go_wp2_with fail
          refine HCO.out.mono ?_
          rintro e w2 ⟨hb2, p2, n2, c2, rfl⟩
          have HB2 := show Hid (Below w.heap.size w w2) from HB.out.trans (hb2.mono HB.out.size)
          have CH := show Hid (Calls Tryd.prog 11 #[] w2 fun e w' => e = .returned (.bool true) ∧ Below w2.heap.size w2 w') from heads_any w2 (HT.out.later HB2.out) (HP.out.later HB2.out)
          clear HCO hb2
          go_wp2_with fail
          refine CH.out.mono ?_
          rintro e w3 ⟨rfl, hb3⟩
          have HB3 := show Hid (Below w.heap.size w w3) from HB2.out.trans (hb3.mono HB2.out.size)
          clear CH hb3
          go_wp2
          go_ret
          exact ⟨rfl, HB3.out⟩
        · have hdj : decide ((j : Int) < 32) = false := by simp; omega
          clear hgo
          go_wp2_with fail
          refine HCO.out.mono ?_
          rintro e w2 ⟨hb2, p2, n2, c2, rfl⟩
          have HB2 := show Hid (Below w.heap.size w w2) from HB.out.trans (hb2.mono HB.out.size)
          have CH := show Hid (Calls Tryd.prog 11 #[] w2 fun e w' => e = .returned (.bool true) ∧ Below w2.heap.size w2 w') from heads_any w2 (HT.out.later HB2.out) (HP.out.later HB2.out)
          clear HCO hb2
          go_wp2_with fail
          refine CH.out.mono ?_
          rintro e w3 ⟨rfl, hb3⟩
          have HB3 := show Hid (Below w.heap.size w w3) from HB2.out.trans (hb3.mono HB2.out.size)
          clear CH hb3
          go_wp2
          go_ret
          exact ⟨rfl, HB3.out⟩
end Go.Proofs.YthmfgoclkioncaaDoor
