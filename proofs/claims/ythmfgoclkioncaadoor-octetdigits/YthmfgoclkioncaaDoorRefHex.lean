/-
  The document's calls Hex and Unhex answer as the program's do: for every bytes and every text of at most 2^47 bytes.
-/
import Derived.Test.YthmfgoclkioncaaDoorRefDigits
import Derived.Test.YthmfgoclkioncaaDoorHeads
import Derived.BigQuiet
namespace Go.Proofs.YthmfgoclkioncaaDoor
open Go.RowKit

theorem ret_str {a b : ByteArray} (h : a = b) : Ending.returned (.string a) = .returned (.string b) := by rw [h]
theorem sub_hex (W : World) (j : Nat) (hj : j < 16) : (Instr.slice 9 (.string ⟨#[48, 49, 50, 51, 52, 53, 54, 55, 56, 57, 97, 98, 99, 100, 101, 102]⟩) (some (.int .u8 (j : Int))) (some (.int .u8 ((j : Int) + 1))) none).run Tryd.prog W = .ok (.string ⟨#[hexd j]⟩) W := by
  obtain rfl | rfl | rfl | rfl | rfl | rfl | rfl | rfl | rfl | rfl | rfl | rfl | rfl | rfl | rfl | rfl : j = 0 ∨ j = 1 ∨ j = 2 ∨ j = 3 ∨ j = 4 ∨ j = 5 ∨ j = 6 ∨ j = 7 ∨ j = 8 ∨ j = 9 ∨ j = 10 ∨ j = 11 ∨ j = 12 ∨ j = 13 ∨ j = 14 ∨ j = 15 := by omega
  all_goals kernel_rfl
set_option maxRecDepth 100000 in
set_option maxHeartbeats 2000000 in
theorem rhex_any (w : World) (v : Value) (l : List UInt8) (hv : IsB w v l) (hm : l.length ≤ 140737488355328) :
    Calls Tryd.prog 32 #[v] w fun e w' => e = .returned (.string ⟨(hexOf l).toArray⟩) ∧ Below w.heap.size w w' := by
  obtain ⟨p, c, rfl, hc1, hc2, hpn, hb⟩ := hv
  clear hpn
  go_enter Tryd.func32, Tryd.ntmps32
  go_wp2
  go_loopw [4, 5] (fun s i wr => ∃ (k : Nat) (b : ByteArray), k ≤ l.length ∧ i = .int .i64 (k : Int) ∧ s = .string b ∧ b.size = 2 * k ∧ Hid (b.data.toList = hexOf (l.take k)) ∧ ∃ n, wr = w.drewN n) (fun _ i _ => l.length - (intOf i).toNat)
  case atStart => exact ⟨0, ⟨#[]⟩, by omega, rfl, rfl, rfl, rfl, 0, rfl⟩
  case round =>
    obtain ⟨k, b, hk, rfl, rfl, hbs, HB, n0, rfl⟩ := hrel
    have hble : b.size ≤ 2 * l.length := by omega
    have HBS := show Hid (b.size = 2 * k) from hbs
    clear hbs
    by_cases hlt : k < l.length
    · obtain ⟨bb, o, rfl, hcell⟩ := bytes_cell hb (by omega)
      have hck := hcell k hlt
      have hm1 := toNat_lt l[k]
      have hsn := hex_snoc l k hlt
      generalize (l[k]).toNat = m at *
      have hx1 : ∀ W, (Instr.slice 9 (.string ⟨#[48, 49, 50, 51, 52, 53, 54, 55, 56, 57, 97, 98, 99, 100, 101, 102]⟩) (some (.int .u8 ((m : Int) / 16))) (some (.int .u8 ((m : Int) / 16 + 1))) none).run Tryd.prog W = .ok (.string ⟨#[hexd (m / 16)]⟩) W := fun W => by
        have := sub_hex W (m / 16) (by omega)
        simpa using this
      have e2 : bits .and .u8 (m : Int) 15 = ((m % 16 : Nat) : Int) := by
        have h := u8_and_nat m 15 hm1 (by omega)
        rw [show (15 : Nat) = 2 ^ 4 - 1 from rfl, Nat.and_two_pow_sub_one_eq_mod] at h
        exact h
      have hx2 : ∀ W, (Instr.slice 9 (.string ⟨#[48, 49, 50, 51, 52, 53, 54, 55, 56, 57, 97, 98, 99, 100, 101, 102]⟩) (some (.int .u8 ((m : Int) % 16))) (some (.int .u8 ((m : Int) % 16 + 1))) none).run Tryd.prog W = .ok (.string ⟨#[hexd (m % 16)]⟩) W := fun W => by
        have := sub_hex W (m % 16) (by omega)
        simpa using this
      have HS := show Hid (hexOf (l.take (k + 1)) = hexOf (l.take k) ++ [hexd (m / 16), hexd (m % 16)]) from hsn
      generalize hexd (m / 16) = d1 at *
      generalize hexd (m % 16) = d2 at *
      clear hcell hb hsn e2
      go_wp2
      go_quiet (fail)
      go_wp2
      go_roundw
      case rel =>
        refine ⟨k + 1, _, by omega, by go_num, rfl, ?_, ?_, _, rfl⟩
        · have := HBS.out
          simp [ByteArray.size_append]
          show b.size + 1 + 1 = 2 * (k + 1)
          omega
        · show (b ++ ⟨#[d1]⟩ ++ ⟨#[d2]⟩ : ByteArray).data.toList = hexOf (l.take (k + 1))
          rw [HS.out, ← HB.out]
          simp [ByteArray.data_append]
      case measure => simp [intOf]; omega
    · have hkl : k = l.length := by omega
      have hfin : b = ⟨(hexOf l).toArray⟩ := by
        have := HB.out
        rw [hkl, List.take_length] at this
        cases b
        simp only [ByteArray.mk.injEq]
        rw [← this]
      have HF := show Hid (b = ⟨(hexOf l).toArray⟩) from hfin
      clear hkl hfin hb
      go_wp2
      go_ret
      exact ⟨ret_str HF.out, below_drewN w n0⟩
theorem sum_vals (x y : Nat) (hx : x < 16) (hy : y < 16) : #[Value.int IntKind.u8 (16 * (x : Int) + (y : Int))].toList = vals [UInt8.ofNat (16 * x + y)] := by
  show [Value.int .u8 (16 * (x : Int) + (y : Int))] = [Value.int .u8 ((UInt8.ofNat (16 * x + y)).toNat : Int)]
  rw [Oct.ofNat_toNat, Nat.mod_eq_of_lt (by omega)]
  simp
set_option maxRecDepth 100000 in
set_option maxHeartbeats 4000000 in
theorem runhex_any (w : World) (s : ByteArray) (hs : s.size ≤ 140737488355328) :
    Calls Tryd.prog 28 #[.string s] w fun e w' => Below w.heap.size w w' ∧ UnhexPost s.data.toList e w' := by
  have hsz : s.data.toList.length = s.size := rfl
  have HSZ := show Hid (s.data.toList.length = s.size) from hsz
  clear hsz
  by_cases hodd : s.size % 2 = 0
  · obtain ⟨h, hh⟩ : ∃ h, s.size = 2 * h := ⟨s.size / 2, by omega⟩
    obtain ⟨i0, hi, hz0, hz1, hz2⟩ := info_parts info_u8
    have hne : ((s.size : Int) % 2 == 1) = false := by simp; omega
    have HH := show Hid (s.size = 2 * h) from hh
    have hle1 : s.size ≤ 2 * h := by omega
    have hle2 : 2 * h ≤ s.size := by omega
    clear hh hodd
    go_enter Tryd.func28, Tryd.ntmps28
    go_wp2
    go_loopw [4, 5] (fun out i wr => ∃ k : Nat, k ≤ h ∧ i = .int .i64 ((2 * k : Nat) : Int) ∧ wr.ownsRow w.heap.size 5 1 out k (vals (pairs s.data.toList k)) ∧
        Hid (∀ i (hi : i < s.data.toList.length), i < 2 * k → okc s.data.toList[i] = true) ∧ Below w.heap.size w wr) (fun _ i _ => s.size - (intOf i).toNat)
    case atStart => exact ⟨0, by omega, rfl, World.ownsRow_nil _ _ _ _, fun i _ e => by omega, Below.refl _ _⟩
    case round =>
      obtain ⟨k, hk, rfl, hown, HO, hbel⟩ := hrel
      have hsize := hbel.size
      by_cases hlt : k < h
      · have hl0 : 2 * k < s.size := by omega
        have hl1 : 2 * k + 1 < s.size := by omega
        have hc0 := toNat_lt s[2 * k]
        have hc1 := toNat_lt s[2 * k + 1]
        have HV0 := show Hid (s.data.toList.getD (2 * k) 0 = s[2 * k]) from by show s.data.toList.getD (2 * k) 0 = s[2 * k]; simp [List.getD, HSZ.out, hl0]; rfl
        have HV1 := show Hid (s.data.toList.getD (2 * k + 1) 0 = s[2 * k + 1]) from by show s.data.toList.getD (2 * k + 1) 0 = s[2 * k + 1]; simp [List.getD, HSZ.out, hl1]; rfl
        have HB0 := show Hid (hexv (s[2 * k]).toNat = none → unhexOk s.data.toList = false) from fun e => not_all _ (2 * k) hl0 (by show (hexv (s[2 * k]).toNat).isSome = false; rw [e]; rfl)
        have HB1 := show Hid (hexv (s[2 * k + 1]).toNat = none → unhexOk s.data.toList = false) from fun e => not_all _ (2 * k + 1) hl1 (by show (hexv (s[2 * k + 1]).toNat).isSome = false; rw [e]; rfl)
        have D0 := show Hid (∀ W, Calls Tryd.prog 47 #[.int .u8 ((s[2 * k]).toNat : Int)] W fun e w' => (∃ x, hexv (s[2 * k]).toNat = some x ∧ e = .returned (.int .i64 (x : Int)) ∧ w' = W) ∨ (hexv (s[2 * k]).toNat = none ∧ e = .returned (.int .i64 (-1)) ∧ w' = W)) from fun W => digit_any W _ hc0
        have D1 := show Hid (∀ W, Calls Tryd.prog 47 #[.int .u8 ((s[2 * k + 1]).toNat : Int)] W fun e w' => (∃ x, hexv (s[2 * k + 1]).toNat = some x ∧ e = .returned (.int .i64 (x : Int)) ∧ w' = W) ∨ (hexv (s[2 * k + 1]).toNat = none ∧ e = .returned (.int .i64 (-1)) ∧ w' = W)) from fun W => digit_any W _ hc1
        clear hc0 hc1
        go_wp2_with fail
        refine (D0.out wr).mono ?_
        rintro e w2 (⟨x, hx0, rfl, hw2⟩ | ⟨hn0, rfl, hw2⟩)
        · subst hw2
          have H0 := show Hid (hexv (s[2 * k]).toNat = some x) from hx0
          have hx16 := hexv_lt hx0
          clear hx0 D0
          go_wp2_with fail
          refine (D1.out w2).mono ?_
          rintro e w3 (⟨y, hy0, rfl, hw3⟩ | ⟨hn1, rfl, hw3⟩)
          · subst hw3
            have H1 := show Hid (hexv (s[2 * k + 1]).toNat = some y) from hy0
            have hy16 := hexv_lt hy0
            have hb0 : decide ((x : Int) < 0) = false := by simp
            have hb1 : decide ((y : Int) < 0) = false := by simp
            obtain ⟨c, hc⟩ : ∃ c, c = UInt8.ofNat (16 * x + y) := ⟨_, rfl⟩
            have HM := show Hid (#[Value.int IntKind.u8 (16 * (x : Int) + (y : Int))].toList = vals [c]) from by
              rw [hc]
              exact sum_vals x y hx16 hy16
            have HP2 := show Hid (pairs s.data.toList (k + 1) = pairs s.data.toList k ++ [c]) from by
              rw [pairs_succ, HV0.out, HV1.out, (hx_some H0.out).1, (hx_some H1.out).1, hc]
              rfl
            have HO2 := show Hid (∀ i (hi : i < s.data.toList.length), i < 2 * (k + 1) → okc s.data.toList[i] = true) from fun i hi hik => by
              by_cases e0 : i = 2 * k
              · subst e0; exact (hx_some H0.out).2
              · by_cases e1 : i = 2 * k + 1
                · subst e1; exact (hx_some H1.out).2
                · exact HO.out i hi (by omega)
            clear hy0 hc D1 HO HB0 HB1 H0 H1 HV0 HV1
            go_wp2_with (at_builtin; refine wpList_append_own _ rfl (.tmp 33) (.tmp 39) 24 rfl w.heap.size 5 i0 (.int .u8 0) 1 1 Tryd.underlying24 hi hz0 hz1 hz2 rfl (by decide) _ k (vals (pairs s.data.toList k)) rfl (hown.alloc _) ⟨w3.heap.size, 0, none⟩ 1 1 (vals [c]) rfl rfl (lit_news _ _ _ _ HM.out) (vals_one _) (by unfold maxLen; omega) (by omega) (by simp; omega) ?_)
            intro v4 w4 hown4 hg4 _
            have HB4 := show Hid (Below w.heap.size w w4) from (hbel.alloc (by omega) _).grown hg4 (by simp; omega) (fun j e => (hown.lt j e).1)
            have HO4 := show Hid (w4.ownsRow w.heap.size 5 1 v4 (k + 1) (vals (pairs s.data.toList (k + 1)))) from by
              rw [HP2.out, vals_append]
              exact hown4
            clear hown4 hg4 hown HM HP2
            go_wp2
            go_roundw
            case rel => exact ⟨k + 1, by omega, val_int (by omega), HO4.out, HO2, HB4.out⟩
            case measure => simp [intOf]; omega
          · subst hw3
            have hb0 : decide ((x : Int) < 0) = false := by simp
            have HBAD := show Hid (unhexOk s.data.toList = false) from HB1.out hn1
            have HBE := show Hid (Below w.heap.size w w3) from hbel
            clear hn1 D1 HO HB0 HB1 H0 HV0 HV1 hown hbel
            go_wp2
            go_ret2
            exact ⟨HBE.out, Or.inr ⟨HBAD.out, rfl⟩⟩
        · subst hw2
          have HBAD := show Hid (unhexOk s.data.toList = false) from HB0.out hn0
          have HBE := show Hid (Below w.heap.size w w2) from hbel
          clear hn0 D0 hown hbel HO HB0 HB1 HV0 HV1
          go_wp2_with fail
          refine (D1.out w2).mono ?_
          rintro e w3 (⟨y, hy0, rfl, hw3⟩ | ⟨hn1, rfl, hw3⟩)
          · subst hw3
            clear hy0 D1
            go_wp2
            go_ret2
            exact ⟨HBE.out, Or.inr ⟨HBAD.out, rfl⟩⟩
          · subst hw3
            clear hn1 D1
            go_wp2
            go_ret2
            exact ⟨HBE.out, Or.inr ⟨HBAD.out, rfl⟩⟩
      · have hkk : k = h := by omega
        have hlen : s.data.toList.length = 2 * h := by rw [HSZ.out, HH.out]
        have HOK := show Hid (unhexOk s.data.toList = true) from by
          have h1 := all_take s.data.toList (fun i hi => HO.out i hi (by omega))
          show unhexOk s.data.toList = true
          rw [unhexOk, h1, hlen]
          simp
        have hib := IsB.of_owns hown
        have HIB := show Hid (∀ v, IsB wr v (pairs s.data.toList k) → IsB wr v (pairs s.data.toList (s.data.toList.length / 2))) from fun v hv => by
          rw [hlen, show 2 * h / 2 = k by omega]
          exact hv
        have HIS := show Hid (IsB wr u4 (pairs s.data.toList k)) from hib
        have HBE := show Hid (Below w.heap.size w wr) from hbel
        clear hkk hlen hown hbel HO hib
        go_wp2
        go_ret2
        exact ⟨HBE.out, Or.inl ⟨HOK.out, _, rfl, HIB.out _ HIS.out⟩⟩
  · have hne : ((s.size : Int) % 2 == 1) = true := by simp; omega
    have HBAD := show Hid (unhexOk s.data.toList = false) from by
      show unhexOk s.data.toList = false
      rw [unhexOk, HSZ.out]
      simp [hodd]
    clear hodd
    go_enter Tryd.func28, Tryd.ntmps28
    go_wp2
    go_ret2
    exact ⟨Below.refl _ _, Or.inr ⟨HBAD.out, rfl⟩⟩
end Go.Proofs.YthmfgoclkioncaaDoor
