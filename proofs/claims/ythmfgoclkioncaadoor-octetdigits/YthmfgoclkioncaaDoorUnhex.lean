/-
  The calls hexValue and Unhex: digits are read by twos into bytes, or the error is told: for every text of at most 2^48 bytes.
-/
import Derived.Test.YthmfgoclkioncaaDoorHexPure
import Derived.Test.YthmfgoclkioncaaDoorUndec
import Derived.Lib.OthersKept
namespace Go.Proofs.YthmfgoclkioncaaDoor
open Go.RowKit

set_option maxHeartbeats 400000 in
theorem hexValue_some (w : World) (c x : Nat) (h : hexv c = some x) :
    Calls Tryd.prog 46 #[.int .i32 (c : Int)] w fun e w' => e = .returned (.tuple #[.int .u8 (x : Int), .bool true]) ∧ w' = w := by
  by_cases h1 : 48 ≤ c ∧ c ≤ 57
  · have hx : x = c - 48 := by rw [hexv, if_pos h1] at h; exact (Option.some.inj h).symm
    have HX := show Hid (x = c - 48) from hx
    obtain ⟨ha, hb⟩ := h1
    clear h hx
    go_enter Tryd.func46, Tryd.ntmps46
    go_wp2
    go_ret2
    refine ⟨?_, rfl⟩
    have : ((c : Int) - 48) = (x : Int) := by have := HX.out; omega
    rw [← this]
    rfl
  · by_cases h2 : 97 ≤ c ∧ c ≤ 102
    · have hx : x = c - 87 := by rw [hexv, if_neg h1, if_pos h2] at h; exact (Option.some.inj h).symm
      have HX := show Hid (x = c - 87) from hx
      obtain ⟨ha, hb⟩ := h2
      have h57 : decide ((c : Int) ≤ 57) = false := by simp; omega
      clear h hx h1
      go_enter Tryd.func46, Tryd.ntmps46
      go_wp2
      go_ret2
      refine ⟨?_, rfl⟩
      have : ((c : Int) - 97 + 10) = (x : Int) := by have := HX.out; omega
      rw [← this]
      rfl
    · rw [hexv, if_neg h1, if_neg h2] at h
      cases h
set_option maxHeartbeats 400000 in
theorem hexValue_none (w : World) (c : Nat) (h : hexv c = none) :
    Calls Tryd.prog 46 #[.int .i32 (c : Int)] w fun e w' => e = .returned (.tuple #[.int .u8 0, .bool false]) ∧ w' = w := by
  have h1 : ¬ (48 ≤ c ∧ c ≤ 57) := fun hc => by rw [hexv, if_pos hc] at h; cases h
  have h2 : ¬ (97 ≤ c ∧ c ≤ 102) := fun hc => by rw [hexv, if_neg h1, if_pos hc] at h; cases h
  clear h
  by_cases ha : c < 48
  · have d1 : decide (48 ≤ (c : Int)) = false := by simp; omega
    have d2 : decide (97 ≤ (c : Int)) = false := by simp; omega
    clear h1 h2
    go_enter Tryd.func46, Tryd.ntmps46
    go_wp2
    go_ret2
    exact ⟨rfl, rfl⟩
  · by_cases hb : c < 97
    · have d1 : decide (48 ≤ (c : Int)) = true := by simp; omega
      have d3 : decide ((c : Int) ≤ 57) = false := by simp; omega
      have d2 : decide (97 ≤ (c : Int)) = false := by simp; omega
      clear h1 h2
      go_enter Tryd.func46, Tryd.ntmps46
      go_wp2
      go_ret2
      exact ⟨rfl, rfl⟩
    · have d1 : decide (48 ≤ (c : Int)) = true := by simp; omega
      have d3 : decide ((c : Int) ≤ 57) = false := by simp; omega
      have d2 : decide (97 ≤ (c : Int)) = true := by simp; omega
      have d4 : decide ((c : Int) ≤ 102) = false := by simp; omega
      clear h1 h2
      go_enter Tryd.func46, Tryd.ntmps46
      go_wp2
      go_ret2
      exact ⟨rfl, rfl⟩
theorem own_iter {w : World} {B n cap : Nat} {g ib : Nat} {xs : List Value} (h : w.ownsRow B 5 1 (.slice (some ⟨g, 0, none⟩) n cap) n xs) (hne : g ≠ ib) (s : ByteArray) (k : Nat) : (w.iterAt ib s k).ownsRow B 5 1 (.slice (some ⟨g, 0, none⟩) n cap) n xs := by
  refine ⟨h.1, ?_⟩
  rcases h.2 with ⟨h', _⟩ | ⟨g', cap', cur, hv, hg, hh, r⟩
  · simp at h'
  · obtain ⟨he, _, rfl⟩ := Value.slice.inj hv
    obtain rfl : g = g' := by simpa using he
    exact Or.inr ⟨g, cap, cur, rfl, hg, by rw [Lib.iterAt_other _ _ _ _ _ hne]; exact hh, r⟩
theorem nibbles (x y a : Nat) (ha : a < 16) (hx : x = 16 * a) (hy : y < 16) : #[Value.int IntKind.u8 (bits .or .u8 (x : Int) (y : Int))].toList = vals [UInt8.ofNat (x + y)] := by
  have hor := u8_or_nat x y (by omega) (by omega)
  have e2 : x ||| y = x + y := by rw [hx]; exact or_nibble a ha y hy
  rw [e2] at hor
  rw [hor]
  show [Value.int .u8 ((x + y : Nat) : Int)] = [Value.int .u8 ((UInt8.ofNat (x + y)).toNat : Int)]
  rw [Oct.ofNat_toNat, Nat.mod_eq_of_lt (by omega)]
/-- What Unhex answers. -/
def UnhexPost (l : List UInt8) (e : Ending) (w' : World) : Prop :=
  (unhexOk l = true ∧ ∃ v, e = .returned (.tuple #[v, .int .i64 0]) ∧ IsB w' v (pairs l (l.length / 2))) ∨ (unhexOk l = false ∧ e = .returned (.tuple #[.slice none 0 0, .int .i64 2]))
set_option maxRecDepth 100000 in
set_option maxHeartbeats 4000000 in
theorem unhex_any (w : World) (s : ByteArray) (hs : s.size ≤ 281474976710656) :
    Calls Tryd.prog 27 #[.string s] w fun e w' => Below w.heap.size w w' ∧ UnhexPost s.data.toList e w' := by
  have hsz : s.data.toList.length = s.size := rfl
  have HSZ := show Hid (s.data.toList.length = s.size) from hsz
  clear hsz
  by_cases hodd : s.size % 2 = 0
  · obtain ⟨h, hh⟩ : ∃ h, s.size = 2 * h := ⟨s.size / 2, by omega⟩
    obtain ⟨i0, hi, hz0, hz1, hz2⟩ := info_parts info_u8
    have hne : ((s.size : Int) % 2 != 0) = false := by simp; omega
    have hdiv : (s.size : Int) / 2 = (h : Int) := by omega
    have HH := show Hid (s.size = 2 * h) from hh
    have hle1 : s.size ≤ 2 * h := by omega
    have hle2 : 2 * h ≤ s.size := by omega
    clear hh hodd
    go_enter Tryd.func27, Tryd.ntmps27
    go_wp2_with (at_make; refine wpList_make_own _ rfl _ _ 24 rfl (w.heap.size) 5 i0 (.int .u8 0) 1 Tryd.underlying24 hi hz0 hz1 _ _ _ h rfl rfl (by omega) (by rw [hz2]; omega) (by unfold maxLen; omega) (by omega) ?_)
    intro w1 hown1 hg1
    have hw1s := (hown1.lt _ rfl).2
    have HB1 := show Hid (Below w.heap.size w w1) from (Below.refl _ _).grown hg1 (Nat.le_refl _) (fun k e => (nomatch e))
    go_wp2
    have hib : w.heap.size < w1.heap.size := hw1s
    go_loopw [4, 5] (fun out high wr => ∃ k x : Nat, k ≤ s.size ∧ wr.heap[w1.heap.size]? = some (.stringIter s k) ∧ out = .slice (some ⟨w.heap.size, 0, none⟩) (k / 2) h ∧
        wr.ownsRow w.heap.size 5 1 (.slice (some ⟨w.heap.size, 0, none⟩) (k / 2) h) (k / 2) (vals (pairs s.data.toList (k / 2))) ∧ high = .int .u8 (x : Int) ∧ Hid (k % 2 = 1 → x = 16 * hx (s.data.toList.getD (k - 1) 0)) ∧
        Hid (∀ i (hi : i < s.data.toList.length), i < k → okc s.data.toList[i] = true) ∧ Below w.heap.size w wr) (fun _ _ wr => s.size - wr.iterPos w1.heap.size)
    case atStart =>
      exact ⟨0, 0, by omega, by simp [World.iter_heap], rfl, hown1.alloc _, rfl, fun e => by omega, fun i _ e => by omega, HB1.out.alloc (by omega) _⟩
    case round =>
      obtain ⟨k, x, hk, hit, rfl, hown, rfl, HX, HO, hbel⟩ := hrel
      clear hown1 hg1 HB1
      by_cases hlt : k < s.size
      · have hc256 := toNat_lt s[k]
        have hval : s.data.toList.getD k 0 = s[k] := by simp [List.getD, HSZ.out, hlt]; rfl
        have HVAL := show Hid (s.data.toList.getD k 0 = s[k]) from hval
        clear hval
        cases hv : hexv (s[k]).toNat with
        | none =>
          have HBAD := show Hid (unhexOk s.data.toList = false) from not_all _ k hlt (by show (hexv (s[k]).toNat).isSome = false; rw [hv]; rfl)
          obtain ⟨c, d, hn, hc⟩ : ∃ c d : Nat, (∀ ty, (Instr.next (.pointer (some ⟨w1.heap.size, 0, none⟩)) true ty).run Tryd.prog wr = .ok (.tuple #[.bool true, .int .i64 (k : Int), .int .i32 (c : Int)]) (wr.iterAt w1.heap.size s d)) ∧ hexv c = none := by
            by_cases h128 : (s[k]).toNat < 128
            · exact ⟨(s[k]).toNat, k + 1, fun ty => Lib.run_next_ascii_at wr _ s k ty hit hlt h128, hv⟩
            · have hh := (decode_high s k hlt (by omega)).1
              exact ⟨(Utf8.decode s k).1, k + (Utf8.decode s k).2, fun ty => Lib.run_next_any_at wr _ s k ty hit hlt, by rw [hexv, if_neg (by omega), if_neg (by omega)]⟩
          have C := show Hid (Calls Tryd.prog 46 #[.int .i32 (c : Int)] (wr.iterAt w1.heap.size s d) fun e w' => e = .returned (.tuple #[.int .u8 0, .bool false]) ∧ w' = wr.iterAt w1.heap.size s d) from hexValue_none _ c hc
          have HBW := show Hid (Below w.heap.size w (wr.iterAt w1.heap.size s d)) from Lib.below_iterAt hbel (by omega) s d
          generalize wr.iterAt w1.heap.size s d = wx at *
          clear hv hc hit hown HX HO hbel
          go_wp2_with fail
          refine C.out.mono ?_
          rintro e w2 ⟨rfl, hw2⟩
          subst hw2
          go_wp2
          go_ret2
          exact ⟨HBW.out, Or.inr ⟨HBAD.out, rfl⟩⟩
        | some y =>
          have h128 : (s[k]).toNat < 128 := by
            by_cases h1 : 48 ≤ (s[k]).toNat ∧ (s[k]).toNat ≤ 57
            · omega
            · by_cases h2 : 97 ≤ (s[k]).toNat ∧ (s[k]).toNat ≤ 102
              · omega
              · rw [hexv, if_neg h1, if_neg h2] at hv; cases hv
          have hy := hexv_lt hv
          have hhx := hx_some hv
          have HHX := show Hid (hx s[k] = y) from hhx.1
          have HO2 := show Hid (∀ i (hi : i < s.data.toList.length), i < k + 1 → okc s.data.toList[i] = true) from fun i hi hik => by
            by_cases e : i = k
            · subst e; exact hhx.2
            · exact HO.out i hi (by omega)
          have hn : ∀ ty, (Instr.next (.pointer (some ⟨w1.heap.size, 0, none⟩)) true ty).run Tryd.prog wr = .ok (.tuple #[.bool true, .int .i64 (k : Int), .int .i32 ((s[k]).toNat : Int)]) (wr.iterAt w1.heap.size s (k + 1)) := fun ty => Lib.run_next_ascii_at wr _ s k ty hit hlt h128
          have C := show Hid (Calls Tryd.prog 46 #[.int .i32 ((s[k]).toNat : Int)] (wr.iterAt w1.heap.size s (k + 1)) fun e w' => e = .returned (.tuple #[.int .u8 (y : Int), .bool true]) ∧ w' = wr.iterAt w1.heap.size s (k + 1)) from hexValue_some _ _ y hv
          have hbw : Below w.heap.size w (wr.iterAt w1.heap.size s (k + 1)) := Lib.below_iterAt hbel (by omega) s _
          have how := own_iter (ib := w1.heap.size) hown (by omega) s (k + 1)
          have hpos : wr.iterPos w1.heap.size = k := by simp [World.iterPos, hit]
          have hit2 := Lib.iterAt_heap wr w1.heap.size s k (k + 1) hit
          generalize hwx : wr.iterAt w1.heap.size s (k + 1) = wx at *
          generalize hch : (s[k]).toNat = ch at *
          clear hv hit hown HO hbel h128 hhx hwx hch
          have hibx := lt_of_block hit2
          have HPOS := show Hid (wr.iterPos w1.heap.size = k) from hpos
          clear hpos
          have HIT := show Hid (wx.heap[w1.heap.size]? = some (.stringIter s (k + 1))) from hit2
          clear hit2
          by_cases hev : k % 2 = 0
          · have hb0 : ((k : Int) % 2 == 0) = true := by simp; omega
            go_wp2_with fail
            refine C.out.mono ?_
            rintro e w2 ⟨rfl, hw2⟩
            subst hw2
            clear C hn
            go_wp2
            go_roundw
            case rel =>
              refine ⟨k + 1, 16 * y, by omega, HIT.out, by rw [show (k + 1) / 2 = k / 2 by omega], by rw [show (k + 1) / 2 = k / 2 by omega]; exact how, ?_, fun _ => by rw [Nat.add_sub_cancel, HVAL.out, HHX.out], HO2, hbw⟩
              exact val_int (by omega)
            case measure =>
              have e1 : w2.iterPos w1.heap.size = k + 1 := by simp [World.iterPos, HIT.out]
              have e2 := HPOS.out
              simp only [e1, e2]
              omega
          · have hb0 : ((k : Int) % 2 == 0) = false := by simp; omega
            have hxx := HX.out (by omega)
            have hlo := hx_lt (s.data.toList.getD (k - 1) 0)
            obtain ⟨c, hc⟩ : ∃ c, c = UInt8.ofNat (x + y) := ⟨_, rfl⟩
            have HM := show Hid (#[Value.int IntKind.u8 (bits .or .u8 (x : Int) (y : Int))].toList = vals [c]) from by
              rw [hc]
              exact nibbles x y _ hlo hxx hy
            have HP2 := show Hid (pairs s.data.toList (k / 2 + 1) = pairs s.data.toList (k / 2) ++ [c]) from by
              have e1 : 2 * (k / 2) = k - 1 := by omega
              have e2 : k - 1 + 1 = k := by omega
              rw [pairs_succ, e1, e2, HVAL.out, HHX.out, ← hxx, hc]
              rfl
            clear hc hxx hlo HX
            go_wp2_with (first | (go_at_call 46; refine C.out.mono ?_; rintro e w2 ⟨rfl, hw2⟩; subst hw2) | (at_builtin; refine wpList_append_fits _ rfl (.tmp 36) (.tmp 40) 24 rfl w.heap.size 5 i0 1 Tryd.underlying24 hi hz1 w.heap.size (k / 2) h (vals (pairs s.data.toList (k / 2))) rfl (how.alloc _) ⟨w2.heap.size, 0, none⟩ 1 1 (vals [c]) rfl rfl (lit_news _ _ _ _ HM.out) (vals_one _) (by omega) ?_))
            intro w3 hown3 hg3
            have hit3 : w3.heap[w1.heap.size]? = some (.stringIter s (k + 1)) := by
              rw [hg3.block _ (by simp; omega) (fun e => by have := Option.some.inj e; omega), Below.heap_alloc _ _ _ hibx]
              exact HIT.out
            have HIT3 := show Hid (w3.heap[w1.heap.size]? = some (.stringIter s (k + 1))) from hit3
            have HB3 := show Hid (Below w.heap.size w w3) from (hbw.alloc (by omega) _).grown hg3 (by simp; omega) (fun j e => by have := Option.some.inj e; omega)
            have HO3 := show Hid (w3.ownsRow w.heap.size 5 1 (.slice (some ⟨w.heap.size, 0, none⟩) (k / 2 + 1) h) (k / 2 + 1) (vals (pairs s.data.toList (k / 2 + 1)))) from by
              rw [HP2.out, vals_append]
              exact hown3
            clear hit3 hown3 hg3 how HM HP2 HIT hn C
            go_wp2
            go_roundw
            case rel =>
              refine ⟨k + 1, x, by omega, HIT3.out, by rw [show (k + 1) / 2 = k / 2 + 1 by omega], by rw [show (k + 1) / 2 = k / 2 + 1 by omega]; exact HO3.out, rfl, fun e => by omega, HO2, HB3.out⟩
            case measure =>
              have e1 : w3.iterPos w1.heap.size = k + 1 := by simp [World.iterPos, HIT3.out]
              have e2 := HPOS.out
              simp only [e1, e2]
              omega
      · have hkk : k = 2 * h := by omega
        have hn : ∀ ty, (Instr.next (.pointer (some ⟨w1.heap.size, 0, none⟩)) true ty).run Tryd.prog wr = .ok (.tuple #[.bool false]) wr := fun ty => Lib.run_next_end_at wr _ s k ty hit hlt
        have hlen : s.data.toList.length = 2 * h := by rw [HSZ.out, HH.out]
        have HOK := show Hid (unhexOk s.data.toList = true) from by
          have h1 := all_take s.data.toList (fun i hi => HO.out i hi (by omega))
          show unhexOk s.data.toList = true
          rw [unhexOk, h1, hlen]
          simp
        have HIB := show Hid (IsB wr (.slice (some ⟨w.heap.size, 0, none⟩) (k / 2) h) (pairs s.data.toList (s.data.toList.length / 2))) from by
          have := IsB.of_owns hown
          rw [hlen]
          rw [show k / 2 = 2 * h / 2 by omega] at this ⊢
          exact this
        have HBE := show Hid (Below w.heap.size w wr) from hbel
        clear hkk hlen hown hit hbel HO HX
        go_wp2
        go_ret2
        exact ⟨HBE.out, Or.inl ⟨HOK.out, _, rfl, HIB.out⟩⟩
  · have hne : ((s.size : Int) % 2 != 0) = true := by simp; omega
    have HBAD := show Hid (unhexOk s.data.toList = false) from by
      show unhexOk s.data.toList = false
      rw [unhexOk, HSZ.out]
      simp [hodd]
    clear hodd
    go_enter Tryd.func27, Tryd.ntmps27
    go_wp2
    go_ret2
    exact ⟨Below.refl _ _, Or.inr ⟨HBAD.out, rfl⟩⟩
end Go.Proofs.YthmfgoclkioncaaDoor
