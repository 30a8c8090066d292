/-
  The document's calls Num and Text: a number by seven bits a byte; a text behind its length, or the error: for every number and every text of at most 2^62 bytes.
-/
import Derived.Test.YthmfgoclkioncaaDoorWriterF
import Derived.Test.YthmfgoclkioncaaDoorIsText
namespace Go.Proofs.YthmfgoclkioncaaDoor
open Go.RowKit

theorem more_byte2 (n : Nat) (hn : n < 18446744073709551616) : #[Value.int IntKind.u8 (bits .or .u8 (bits .and .u64 (n : Int) 127 % 256) 128)].toList = vals [UInt8.ofNat (n % 128 + 128)] := by
  have ha : bits .and .u64 (n : Int) 127 = ((n % 128 : Nat) : Int) := by
    have h := u64_and_nat n 127 hn (by omega)
    rw [show (127 : Nat) = 2 ^ 7 - 1 from rfl, Nat.and_two_pow_sub_one_eq_mod] at h
    exact h
  have h := u8_or_nat (n % 128) 128 (by omega) (by omega)
  rw [or_128 _ (by omega)] at h
  have e : ((n % 128 : Nat) : Int) % 256 = ((n % 128 : Nat) : Int) := by omega
  rw [ha, e]
  show [Value.int IntKind.u8 (bits .or .u8 ((n % 128 : Nat) : Int) ((128 : Nat) : Int))] = _
  rw [h]
  simp only [vals, List.map_cons, List.map_nil, Oct.ofNat_toNat]
  congr 2
  omega
theorem slice_of' {w : World} {B n : Nat} {v : Value} {xs : List Value} (h : w.ownsRow B 5 1 v n xs) : ∃ p m c, v = .slice p m c := by
  rcases h.2 with ⟨h, _⟩ | ⟨g, cap, cur, h, _⟩
  · exact ⟨_, _, _, h⟩
  · exact ⟨_, _, _, h⟩
set_option maxRecDepth 100000 in
set_option maxHeartbeats 1000000 in
theorem rnum_any (w : World) (x : Nat) (hx : x < 18446744073709551616) :
    Calls Tryd.prog 36 #[.int .u64 (x : Int)] w fun e w' => ∃ p m c, e = .returned (.slice p m c) ∧ w'.ownsRow w.heap.size 5 1 (.slice p m c) (Oct.num x).length (vals (Oct.num x)) ∧ Below w.heap.size w w' := by
  obtain ⟨i0, hi, hz0, hz1, hz2⟩ := info_parts info_u8
  have HX : Hid ([] ++ Oct.numF 10 x = Oct.num x) := rfl
  have HXL := show Hid (x < 18446744073709551616) from hx
  clear hx
  go_enter Tryd.func36, Tryd.ntmps36
  go_wp2
  go_loopw [0, 3] (fun s v wr => ∃ (f n : Nat) (pre : List UInt8) (pv : Option Addr) (mv cv : Nat), s = .int .u64 (n : Int) ∧ v = .slice pv mv cv ∧ Hid (n < 18446744073709551616) ∧ Hid (n < 128 ^ f) ∧ pre.length + f = 10 ∧ Hid (pre ++ Oct.numF f n = Oct.num x) ∧ wr.ownsRow w.heap.size 5 1 (.slice pv mv cv) pre.length (vals pre) ∧ Below w.heap.size w wr) (fun s _ _ => (intOf s).toNat)
  case atStart => exact ⟨10, x, [], none, 0, 0, rfl, rfl, HXL, show x < 128 ^ 10 from by have := HXL.out; omega, rfl, HX, World.ownsRow_nil _ _ _ _, Below.refl _ _⟩
  case round =>
    obtain ⟨f, n, pre, pv, mv, cv, rfl, rfl, hn, hf, hpl, hp, hown, hb⟩ := hrel
    clear HX
    have hsz := hb.size
    by_cases h128 : 128 ≤ n
    · obtain ⟨c, hc⟩ : ∃ c, c = UInt8.ofNat (n % 128 + 128) := ⟨_, rfl⟩
      have hm1 := more_byte2 n hn.out
      rw [← hc] at hm1
      have HC := show Hid (c = UInt8.ofNat (n % 128 + 128)) from hc
      have HM := show Hid (#[Value.int IntKind.u8 (bits .or .u8 (bits .and .u64 (n : Int) 127 % 256) 128)].toList = vals [c]) from hm1
      clear hc hm1
      go_wp2_with (at_builtin; refine wpList_append_own _ rfl (.tmp 6) (.tmp 11) 24 rfl w.heap.size 5 i0 (.int .u8 0) 1 1 Tryd.underlying24 hi hz0 hz1 hz2 rfl (by decide) _ pre.length (vals pre) rfl (hown.alloc _) ⟨wr.heap.size, 0, none⟩ 1 1 (vals [c]) rfl rfl (lit_news _ _ _ _ HM.out) (vals_one _) (by unfold maxLen; omega) (by omega) (by simp; omega) ?_)
      intro v' w1 hown' hg _
      obtain ⟨p3, m3, c3, rfl⟩ := slice_of' hown'
      have HB := show Hid (Below w.heap.size w w1) from (hb.alloc (by omega) _).grown hg (by simp; omega) (fun k e => (hown.lt k e).1)
      have HO := show Hid (w1.ownsRow w.heap.size 5 1 (.slice p3 m3 c3) (pre ++ [c]).length (vals (pre ++ [c]))) from by
        show w1.ownsRow w.heap.size 5 1 (.slice p3 m3 c3) (pre ++ [c]).length (vals (pre ++ [c]))
        rw [vals_append, List.length_append]
        exact hown'
      clear hown' hg hown
      go_wp2
      go_roundw
      case rel =>
        obtain ⟨f', rfl⟩ : ∃ f', f = f' + 1 := by
          cases f with
          | zero => have := hf.out; simp at this; omega
          | succ f' => exact ⟨f', rfl⟩
        refine ⟨f', n / 128, pre ++ [c], _, _, _, by go_num, rfl, show n / 128 < 18446744073709551616 from by have := hn.out; omega, ?_, by simp; omega, ?_, HO.out, HB.out⟩
        · show n / 128 < 128 ^ f'
          have := hf.out
          rw [Nat.pow_succ] at this
          exact Nat.div_lt_of_lt_mul (by omega)
        · have := hp.out
          rw [Oct.numF_more f' n h128, ← HC.out] at this
          show (pre ++ [c]) ++ Oct.numF f' (n / 128) = Oct.num x
          rw [← this]
          simp
      case measure => simp [intOf]; omega
    · have hn128 : n < 128 := by omega
      clear h128
      obtain ⟨c, hc⟩ : ∃ c, c = UInt8.ofNat n := ⟨_, rfl⟩
      have hm1 := last_byte n hn128
      rw [← hc] at hm1
      have HC := show Hid (c = UInt8.ofNat n) from hc
      have HM := show Hid (#[Value.int IntKind.u8 (n : Int)].toList = vals [c]) from hm1
      clear hc hm1
      go_wp2_with (at_builtin; refine wpList_append_own _ rfl (.tmp 15) (.tmp 18) 24 rfl w.heap.size 5 i0 (.int .u8 0) 1 1 Tryd.underlying24 hi hz0 hz1 hz2 rfl (by decide) _ pre.length (vals pre) rfl (hown.alloc _) ⟨wr.heap.size, 0, none⟩ 1 1 (vals [c]) rfl rfl (lit_news _ _ _ _ HM.out) (vals_one _) (by unfold maxLen; omega) (by omega) (by simp; omega) ?_)
      intro v' w1 hown' hg _
      obtain ⟨p3, m3, c3, rfl⟩ := slice_of' hown'
      have HB := show Hid (Below w.heap.size w w1) from (hb.alloc (by omega) _).grown hg (by simp; omega) (fun k e => (hown.lt k e).1)
      have HO := show Hid (w1.ownsRow w.heap.size 5 1 (.slice p3 m3 c3) (Oct.num x).length (vals (Oct.num x))) from by
        show w1.ownsRow w.heap.size 5 1 (.slice p3 m3 c3) (Oct.num x).length (vals (Oct.num x))
        have hq := hp.out
        rw [Oct.numF_last f n hn128, ← HC.out] at hq
        rw [← hq, vals_append, List.length_append]
        exact hown'
      clear hown' hg hown
      go_wp2
      go_ret
      exact ⟨_, _, _, rfl, HO.out, HB.out⟩
set_option maxRecDepth 100000 in
set_option maxHeartbeats 1000000 in
theorem rtext_any (w : World) (s : ByteArray) (hs : s.size ≤ 4611686018427387904) :
    Calls Tryd.prog 37 #[.string s] w fun e w' => ∃ p m c, e = .returned (.tuple #[.slice p m c, .int .i64 (textErr s.data.toList)]) ∧ w'.ownsRow w.heap.size 5 1 (.slice p m c) (textOf s.data.toList).length (vals (textOf s.data.toList)) ∧ Below w.heap.size w w' := by
  obtain ⟨i0, hi, hz0, hz1, hz2⟩ := info_parts info_u8
  have hsz : s.data.toList.length = s.size := rfl
  have HC := show Hid (Calls Tryd.prog 43 #[.string s] w fun e w' => e = .returned (.bool (Lib.validD s.data.toList)) ∧ w' = w) from isText_any w s hs
  cases hV : Lib.validD s.data.toList with
  | false =>
    have e1 : textErr s.data.toList = 12 := by simp [textErr, hV]
    have e2 : textOf s.data.toList = [] := by simp [textOf, e1]
    rw [e1, e2]
    rw [hV] at HC
    clear e1 e2 hV hsz
    go_enter Tryd.func37, Tryd.ntmps37
    go_wp2_with fail
    refine HC.out.mono ?_
    rintro e w1 ⟨rfl, rfl⟩
    go_wp2
    go_ret2
    exact ⟨_, _, _, rfl, World.ownsRow_nil _ _ _ _, Below.refl _ _⟩
  | true =>
    by_cases hl : 65536 < s.size
    · have e1 : textErr s.data.toList = 11 := by simp only [textErr, hV, hsz]; simp [hl]
      have e2 : textOf s.data.toList = [] := by simp [textOf, e1]
      rw [e1, e2]
      rw [hV] at HC
      clear e1 e2 hV hsz
      go_enter Tryd.func37, Tryd.ntmps37
      go_wp2_with fail
      refine HC.out.mono ?_
      rintro e w1 ⟨rfl, rfl⟩
      go_wp2
      go_ret2
      exact ⟨_, _, _, rfl, World.ownsRow_nil _ _ _ _, Below.refl _ _⟩
    · have e1 : textErr s.data.toList = 0 := by simp only [textErr, hV, hsz]; simp [hl]
      have e2 : textOf s.data.toList = Oct.num s.size ++ s.data.toList := by simp only [textOf, e1, hsz]; simp
      rw [e1, e2]
      rw [hV] at HC
      clear e1 e2 hV hsz
      have hl' : s.size ≤ 65536 := by omega
      clear hl
      have hnl := Oct.num_length s.size
      have CN0 := rnum_any w s.size (by omega)
      generalize Oct.num s.size = nm at *
      have CN := show Hid (Calls Tryd.prog 36 #[.int .u64 (s.size : Int)] w fun e w' => ∃ p m c, e = .returned (.slice p m c) ∧ w'.ownsRow w.heap.size 5 1 (.slice p m c) nm.length (vals nm) ∧ Below w.heap.size w w') from CN0
      clear CN0
      go_enter Tryd.func37, Tryd.ntmps37
      go_wp2_with fail
      refine HC.out.mono ?_
      rintro e w1 ⟨rfl, rfl⟩
      clear HC
      go_wp2_with fail
      refine CN.out.mono ?_
      rintro e w2 ⟨p2, m2, c2, rfl, hown, hb⟩
      have hsz2 := hb.size
      clear CN
      go_wp2_with (at_builtin; refine Lib.wpList_append_own_string _ rfl (.tmp 13) (.tmp 14) 24 9 rfl w1.heap.size 5 i0 Tryd.underlying24 Tryd.underlying9 hi hz0 hz1 hz2 _ nm.length (vals nm) rfl hown s rfl (by unfold maxLen; omega) (by omega) (by omega) ?_)
      intro v' w3 hown' hg _
      obtain ⟨p3, m3, c3, rfl⟩ := slice_of' hown'
      have HB := show Hid (Below w1.heap.size w1 w3) from hb.grown hg (by omega) (fun k e => (hown.lt k e).1)
      have HO := show Hid (w3.ownsRow w1.heap.size 5 1 (.slice p3 m3 c3) (nm ++ s.data.toList).length (vals (nm ++ s.data.toList))) from by
        show w3.ownsRow w1.heap.size 5 1 (.slice p3 m3 c3) (nm ++ s.data.toList).length (vals (nm ++ s.data.toList))
        rw [vals_append, List.length_append]
        exact hown'
      clear hown' hg hown
      go_wp2
      go_ret2
      exact ⟨_, _, _, rfl, HO.out, HB.out⟩
end Go.Proofs.YthmfgoclkioncaaDoor
