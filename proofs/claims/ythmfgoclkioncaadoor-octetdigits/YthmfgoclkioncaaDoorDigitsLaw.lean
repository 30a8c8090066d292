/-
  OctetDigits, as a walk: for every bytes, text and numbers it answers true and changes nothing that was there, where the library's tables stand as the program's text lays them, and bytes and text are at most 2^47 - 4096 each.
-/
import Derived.Test.YthmfgoclkioncaaDoorRefDec
namespace Go.Proofs.YthmfgoclkioncaaDoor
open Go.RowKit

theorem rdec_any (w : World) (n : Int) (h0 : -9223372036854775808 ≤ n) (h1 : n ≤ 9223372036854775807) :
    Calls Tryd.prog 33 #[.int .i64 n] w fun e w' => e = .returned (.string ⟨(Lib.itoa n).toArray⟩) ∧ Below w.heap.size w w' := by
  by_cases hn : n < 0
  · have h := rdec_loop w n n.natAbs [45] (by omega) (Or.inl ⟨hn, by rw [IntKind.wrap_u64, IntKind.wrap_u64]; omega, rfl⟩)
    have e : Lib.itoa n = [45] ++ Lib.decDigits n.natAbs := by rw [Lib.itoa, if_pos hn]; rfl
    rw [e]
    exact h
  · have h := rdec_loop w n n.toNat [] (by omega) (Or.inr ⟨by omega, by rw [IntKind.wrap_u64]; omega, rfl⟩)
    have e : Lib.itoa n = [] ++ Lib.decDigits n.toNat := by rw [Lib.itoa, if_neg hn]; rfl
    rw [e]
    exact h
theorem digs_append (r : List UInt8) : ∀ (l : List UInt8) (a : Nat), digs a (l ++ r) = (digs a l).bind fun n => digs n r
  | [], a => rfl
  | c :: l, a => by
    simp only [List.cons_append, digs]
    split
    · rfl
    · exact digs_append r l _
theorem digs_one (a x : Nat) (h : x < 10) : digs a [UInt8.ofNat (48 + x)] = some (a * 10 + x) := by
  have e : (UInt8.ofNat (48 + x)).toNat = 48 + x := by rw [Oct.ofNat_toNat, Nat.mod_eq_of_lt (by omega)]
  simp only [digs, e]
  rw [if_neg (by omega), show 48 + x - 48 = x by omega]
theorem digs_dec : ∀ (k u : Nat), u < 10 ^ (k + 1) → digs 0 (Lib.decDigits u) = some u
  | 0, u, h => by rw [dec_small (by omega), digs_one 0 u (by omega)]; simp
  | k + 1, u, h => by
    by_cases hu : u < 10
    · rw [dec_small hu, digs_one 0 u hu]; simp
    · rw [dec_big hu, digs_append, digs_dec k (u / 10) (by rw [Nat.pow_succ] at h; exact Nat.div_lt_of_lt_mul (by omega))]
      show digs (u / 10) [UInt8.ofNat (48 + u % 10)] = some u
      rw [digs_one _ _ (by omega)]
      congr 1
      omega
theorem head_dec : ∀ (k u : Nat), u < 10 ^ (k + 1) → 1 ≤ u → ∃ c r, Lib.decDigits u = c :: r ∧ c.toNat ≠ 48
  | 0, u, h, h1 => by
    refine ⟨_, [], dec_small (by omega), ?_⟩
    rw [Oct.ofNat_toNat, Nat.mod_eq_of_lt (by omega)]
    omega
  | k + 1, u, h, h1 => by
    by_cases hu : u < 10
    · refine ⟨_, [], dec_small hu, ?_⟩
      rw [Oct.ofNat_toNat, Nat.mod_eq_of_lt (by omega)]
      omega
    · obtain ⟨c, r, e, hc⟩ := head_dec k (u / 10) (by rw [Nat.pow_succ] at h; exact Nat.div_lt_of_lt_mul (by omega)) (by omega)
      exact ⟨c, r ++ [UInt8.ofNat (48 + u % 10)], by rw [dec_big hu, e]; rfl, hc⟩
/-- The two ways of Undec, in one. -/
def undecB (s : ByteArray) (most : Int) : Int × Int :=
  if s.size = 0 ∨ 10 < s.size then (0, 2) else if 2 ≤ s.size ∧ (s.data.toList.getD 0 0).toNat = 48 then (0, 2) else told (digs 0 s.data.toList) most
theorem first_at (s : ByteArray) (h : 0 < s.size) : s.data.toList.getD 0 0 = s[0] := by
  have : 0 < s.data.toList.length := h
  rw [List.getD, List.getElem?_eq_getElem this]
  rfl
theorem undec_both (f : FuncId) (w : World) (s : ByteArray) (most : Int)
    (c1 : (s.size = 0 ∨ 10 < s.size) → Calls Tryd.prog f #[.string s, .int .i64 most] w fun e w' => e = .returned (.tuple #[.int .i64 0, .int .i64 2]) ∧ Below w.heap.size w w')
    (c2 : s.size ≤ 10 → ∀ h1 : 2 ≤ s.size, (((s[0]'(by omega)).toNat : Int) == 48) = true → Calls Tryd.prog f #[.string s, .int .i64 most] w fun e w' => e = .returned (.tuple #[.int .i64 0, .int .i64 2]) ∧ Below w.heap.size w w')
    (c3 : s.size ≤ 10 → ∀ h1 : 1 ≤ s.size, ((((s[0]'h1).toNat : Int) == 48) = false ∨ s.size ≤ 1) → Calls Tryd.prog f #[.string s, .int .i64 most] w fun e w' => e = .returned (.tuple #[.int .i64 (told (digs 0 s.data.toList) most).1, .int .i64 (told (digs 0 s.data.toList) most).2]) ∧ Below w.heap.size w w') :
    Calls Tryd.prog f #[.string s, .int .i64 most] w fun e w' => e = .returned (.tuple #[.int .i64 (undecB s most).1, .int .i64 (undecB s most).2]) ∧ Below w.heap.size w w' := by
  by_cases h1 : s.size = 0 ∨ 10 < s.size
  · rw [undecB, if_pos h1]
    exact c1 h1
  · by_cases h2 : 2 ≤ s.size ∧ (s.data.toList.getD 0 0).toNat = 48
    · rw [undecB, if_neg h1, if_pos h2]
      refine c2 (by omega) h2.1 ?_
      rw [first_at s (by omega)] at h2
      simp [h2.2]
    · rw [undecB, if_neg h1, if_neg h2]
      refine c3 (by omega) (by omega) ?_
      by_cases hs : s.size ≤ 1
      · exact Or.inr hs
      · left
        rw [first_at s (by omega)] at h2
        rw [beq_eq_false_iff_ne]
        intro e
        exact h2 ⟨by omega, by omega⟩
theorem undec_all (w : World) (s : ByteArray) (most : Int) (hs : s.size ≤ 9223372036854775807) :
    Calls Tryd.prog 29 #[.string s, .int .i64 most] w fun e w' => e = .returned (.tuple #[.int .i64 (undecB s most).1, .int .i64 (undecB s most).2]) ∧ Below w.heap.size w w' :=
  undec_both _ w s most (fun h => (undec_short w s most hs h).mono fun _ _ ⟨a, b⟩ => ⟨a, by rw [b]; exact Below.refl _ _⟩) (fun h h1 h48 => (undec_lead w s most h h1 h48).mono fun _ _ ⟨a, b⟩ => ⟨a, by rw [b]; exact Below.refl _ _⟩)
    (fun h h1 h48 => (undec_loop w s most h h1 h48).mono fun _ _ ⟨a, b⟩ => ⟨b, a⟩)
theorem rundec_all (w : World) (s : ByteArray) (most : Int) (hs : s.size ≤ 9223372036854775807) :
    Calls Tryd.prog 30 #[.string s, .int .i64 most] w fun e w' => e = .returned (.tuple #[.int .i64 (undecB s most).1, .int .i64 (undecB s most).2]) ∧ Below w.heap.size w w' :=
  undec_both _ w s most (fun h => (rundec_short w s most hs h).mono fun _ _ ⟨a, b⟩ => ⟨a, by rw [b]; exact Below.refl _ _⟩) (fun h h1 h48 => (rundec_lead w s most h h1 h48).mono fun _ _ ⟨a, b⟩ => ⟨a, by rw [b]; exact Below.refl _ _⟩)
    (fun h h1 h48 => (rundec_loop w s most h h1 h48).mono fun _ _ ⟨a, b⟩ => ⟨b, by rw [a]; exact Below.refl _ _⟩)
theorem undec_dec (n : Int) (h0 : 0 ≤ n) (h1 : n ≤ 9999999999) : undecB ⟨(Lib.itoa n).toArray⟩ n = (n, 0) := by
  obtain ⟨u, rfl⟩ := Int.eq_ofNat_of_zero_le h0
  have hu : u < 10 ^ (9 + 1) := by omega
  have e : Lib.itoa (u : Int) = Lib.decDigits u := by rw [Lib.itoa, if_neg (by omega)]; simp
  have hl := dec_len 9 u hu
  have hp := dec_pos u
  have hsz : (⟨(Lib.itoa (u : Int)).toArray⟩ : ByteArray).size = (Lib.decDigits u).length := by rw [e]; simp [ByteArray.size]
  have hd : (⟨(Lib.itoa (u : Int)).toArray⟩ : ByteArray).data.toList = Lib.decDigits u := by rw [e]
  rw [undecB, hsz, hd, if_neg (by omega), if_neg, digs_dec 9 u hu]
  · simp [told]
  · rintro ⟨h2, h48⟩
    by_cases hu1 : 1 ≤ u
    · obtain ⟨c, r, e2, hc⟩ := head_dec 9 u hu hu1
      rw [e2] at h48
      exact hc h48
    · have : u = 0 := by omega
      rw [this, dec_small (by omega)] at h2
      simp at h2
def uhR (l : List UInt8) : List UInt8 := if unhexOk l = true then pairs l (l.length / 2) else []
def uhE (l : List UInt8) : Int := if unhexOk l = true then 0 else 2
theorem uh_post {l : List UInt8} {e : Ending} {w' : World} (h : UnhexPost l e w') : ∃ v, e = .returned (.tuple #[v, .int .i64 (uhE l)]) ∧ IsB w' v (uhR l) := by
  rcases h with ⟨ho, v, he, hv⟩ | ⟨ho, he⟩
  · refine ⟨v, ?_, ?_⟩
    · rw [uhE, if_pos ho]; exact he
    · rw [uhR, if_pos ho]; exact hv
  · refine ⟨.slice none 0 0, ?_, ?_⟩
    · rw [uhE, if_neg (by rw [ho]; decide)]; exact he
    · rw [uhR, if_neg (by rw [ho]; decide)]; exact IsB.nil w'
set_option maxRecDepth 100000 in
set_option maxHeartbeats 8000000 in
theorem digits_any (w : World) (v : Value) (l : List UInt8) (s : ByteArray) (n most : Int) (hv : IsB w v l) (hm : l.length ≤ 140737488351232) (hs : s.size ≤ 140737488351232) (h0 : -9223372036854775808 ≤ n) (h1 : n ≤ 9223372036854775807) (hT : Tabs w) (hP : Pows w) :
    Calls Tryd.prog 8 #[v, .string s, .int .i64 n, .int .i64 most] w fun e w' => e = .returned (.bool true) ∧ Below w.heap.size w w' := by
  have HT := show Hid (Tabs w) from hT
  have HP := show Hid (Pows w) from hP
  have HV := show Hid (IsB w v l) from hv
  have hXs : (⟨(hexOf l).toArray⟩ : ByteArray).size = 2 * l.length := by simp [ByteArray.size, hexOf_length]
  have hXd : (⟨(hexOf l).toArray⟩ : ByteArray).data.toList = hexOf l := rfl
  have hok := unhexOk_hex l
  have hR : uhR (hexOf l) = l := by rw [uhR, if_pos hok, hexOf_length, show 2 * l.length / 2 = l.length by omega, pairs_hex]
  have hE : uhE (hexOf l) = 0 := by rw [uhE, if_pos hok]
  have cX : ∀ W, Calls Tryd.prog 27 #[.string ⟨(hexOf l).toArray⟩] W fun e w' => ∃ c, e = .returned (.tuple #[c, .int .i64 0]) ∧ IsB w' c l ∧ Below W.heap.size W w' := fun W => by
    refine (unhex_any W _ (by rw [hXs]; omega)).mono ?_
    rintro e w' ⟨hb, hp⟩
    rw [hXd] at hp
    obtain ⟨c, he, hc⟩ := uh_post hp
    rw [hE] at he
    rw [hR] at hc
    exact ⟨c, he, hc, hb⟩
  have C1 := show Hid (Calls Tryd.prog 26 #[v] w fun e w' => e = .returned (.string ⟨(hexOf l).toArray⟩) ∧ Below w.heap.size w w') from hex_any w v l hv hm
  have C8 := show Hid (∀ W, IsB W v l → Calls Tryd.prog 32 #[v] W fun e w' => e = .returned (.string ⟨(hexOf l).toArray⟩) ∧ Below W.heap.size W w') from fun W h => rhex_any W v l h (by omega)
  have C3 := show Hid (∀ W, Calls Tryd.prog 27 #[.string s] W fun e w' => ∃ c, e = .returned (.tuple #[c, .int .i64 (uhE s.data.toList)]) ∧ IsB w' c (uhR s.data.toList) ∧ Below W.heap.size W w') from fun W => by
    refine (unhex_any W s (by omega)).mono ?_
    rintro e w' ⟨hb, hp⟩
    obtain ⟨c, he, hc⟩ := uh_post hp
    exact ⟨c, he, hc, hb⟩
  have C4 := show Hid (∀ W, Calls Tryd.prog 28 #[.string s] W fun e w' => ∃ c, e = .returned (.tuple #[c, .int .i64 (uhE s.data.toList)]) ∧ IsB w' c (uhR s.data.toList) ∧ Below W.heap.size W w') from fun W => by
    refine (runhex_any W s (by omega)).mono ?_
    rintro e w' ⟨hb, hp⟩
    obtain ⟨c, he, hc⟩ := uh_post hp
    exact ⟨c, he, hc, hb⟩
  have C5 := show Hid (∀ W, Calls Tryd.prog 29 #[.string s, .int .i64 most] W fun e w' => e = .returned (.tuple #[.int .i64 (undecB s most).1, .int .i64 (undecB s most).2]) ∧ Below W.heap.size W w') from fun W => undec_all W s most (by omega)
  have C6 := show Hid (∀ W, Calls Tryd.prog 30 #[.string s, .int .i64 most] W fun e w' => e = .returned (.tuple #[.int .i64 (undecB s most).1, .int .i64 (undecB s most).2]) ∧ Below W.heap.size W w') from fun W => rundec_all W s most (by omega)
  have C7 := show Hid (∀ W, Pows W → Calls Tryd.prog 31 #[.int .i64 n] W fun e w' => e = .returned (.string ⟨(Lib.itoa n).toArray⟩) ∧ Below W.heap.size W w') from fun W h => dec_any W n h0 h1 h
  have C11 := show Hid (∀ W, Calls Tryd.prog 33 #[.int .i64 n] W fun e w' => e = .returned (.string ⟨(Lib.itoa n).toArray⟩) ∧ Below W.heap.size W w') from fun W => rdec_any W n h0 h1
  have C12 := show Hid (0 ≤ n → n ≤ 9999999999 → ∀ W, Calls Tryd.prog 29 #[.string ⟨(Lib.itoa n).toArray⟩, .int .i64 n] W fun e w' => e = .returned (.tuple #[.int .i64 n, .int .i64 0]) ∧ Below W.heap.size W w') from fun a b W => by
    have hu : (Lib.itoa n).length ≤ 20 := by
      rw [Lib.itoa, if_neg (by omega)]
      exact dec_len 19 _ (by omega)
    have h := undec_all W ⟨(Lib.itoa n).toArray⟩ n (by simp [ByteArray.size]; omega)
    rw [undec_dec n a b] at h
    exact h
  have C2 := show Hid (∀ W, Calls Tryd.prog 27 #[.string ⟨(hexOf l).toArray⟩] W fun e w' => ∃ c, e = .returned (.tuple #[c, .int .i64 0]) ∧ IsB w' c l ∧ Below W.heap.size W w') from cX
  have CH := show Hid (∀ W, Below w.heap.size w W → Calls Tryd.prog 11 #[] W fun e w' => e = .returned (.bool true) ∧ Below W.heap.size W w') from fun W hb => heads_any W (HT.out.later hb) (HP.out.later hb)
  generalize (⟨(hexOf l).toArray⟩ : ByteArray) = X at *
  generalize (⟨(Lib.itoa n).toArray⟩ : ByteArray) = T at *
  generalize uhE s.data.toList = E at *
  generalize uhR s.data.toList = R at *
  generalize (undecB s most).1 = a1 at *
  generalize (undecB s most).2 = a2 at *
  obtain ⟨p, c, rfl, _, _, _, _⟩ := hv
  clear hXs hXd hok hR hE cX hT hP
  go_enter Tryd.func8, Tryd.ntmps8
  go_wp2_with fail
  refine C1.out.mono ?_
  rintro e w1 ⟨rfl, hb1⟩
  have HB1 := show Hid (Below w.heap.size w w1) from hb1
  clear hb1 C1
  go_wp2_with fail
  refine (C2.out w1).mono ?_
  rintro e w2 ⟨vc, rfl, hc2, hb2⟩
  have HB2 := show Hid (Below w.heap.size w w2) from HB1.out.trans (hb2.mono HB1.out.size)
  have HC2 := show Hid (IsB w2 vc l) from hc2
  clear hb2 hc2 C2 HB1
  go_wp2_with fail
  refine (C3.out w2).mono ?_
  rintro e w3 ⟨vd, rfl, hc3, hb3⟩
  have HB3 := show Hid (Below w.heap.size w w3) from HB2.out.trans (hb3.mono HB2.out.size)
  have HC3 := show Hid (IsB w3 vc l) from HC2.out.later hb3
  have HD3 := show Hid (IsB w3 vd R) from hc3
  clear hb3 hc3 C3 HB2 HC2
  go_wp2_with fail
  refine (C4.out w3).mono ?_
  rintro e w4 ⟨vw, rfl, hc4, hb4⟩
  have HB4 := show Hid (Below w.heap.size w w4) from HB3.out.trans (hb4.mono HB3.out.size)
  have HC4 := show Hid (IsB w4 vc l) from HC3.out.later hb4
  have HD4 := show Hid (IsB w4 vd R) from HD3.out.later hb4
  have HW4 := show Hid (IsB w4 vw R) from hc4
  clear hb4 hc4 C4 HB3 HC3 HD3
  go_wp2_with fail
  refine (C5.out w4).mono ?_
  rintro e w5 ⟨rfl, hb5⟩
  have HB5 := show Hid (Below w.heap.size w w5) from HB4.out.trans (hb5.mono HB4.out.size)
  have HC5 := show Hid (IsB w5 vc l) from HC4.out.later hb5
  have HD5 := show Hid (IsB w5 vd R) from HD4.out.later hb5
  have HW5 := show Hid (IsB w5 vw R) from HW4.out.later hb5
  clear hb5 C5 HB4 HC4 HD4 HW4
  go_wp2_with fail
  refine (C6.out w5).mono ?_
  rintro e w6 ⟨rfl, hb6⟩
  have HB6 := show Hid (Below w.heap.size w w6) from HB5.out.trans (hb6.mono HB5.out.size)
  have HC6 := show Hid (IsB w6 vc l) from HC5.out.later hb6
  have HD6 := show Hid (IsB w6 vd R) from HD5.out.later hb6
  have HW6 := show Hid (IsB w6 vw R) from HW5.out.later hb6
  clear hb6 C6 HB5 HC5 HD5 HW5
  go_wp2_with fail
  refine (C7.out w6 (HP.out.later HB6.out)).mono ?_
  rintro e w7 ⟨rfl, hb7⟩
  have HB7 := show Hid (Below w.heap.size w w7) from HB6.out.trans (hb7.mono HB6.out.size)
  have HC7 := show Hid (IsB w7 vc l) from HC6.out.later hb7
  have HD7 := show Hid (IsB w7 vd R) from HD6.out.later hb7
  have HW7 := show Hid (IsB w7 vw R) from HW6.out.later hb7
  clear hb7 C7 HB6 HC6 HD6 HW6
  go_wp2_with fail
  refine (C8.out w7 (HV.out.later HB7.out)).mono ?_
  rintro e w8 ⟨rfl, hb8⟩
  have HB8 := show Hid (Below w.heap.size w w8) from HB7.out.trans (hb8.mono HB7.out.size)
  have HC8 := show Hid (IsB w8 vc l) from HC7.out.later hb8
  have HD8 := show Hid (IsB w8 vd R) from HD7.out.later hb8
  have HW8 := show Hid (IsB w8 vw R) from HW7.out.later hb8
  clear hb8 C8 HB7 HC7 HD7 HW7
  have S1 := show Hid (Calls Tryd.prog 10 #[vc, .slice p l.length c] w8 fun e w' => e = .returned (.bool true) ∧ Below w8.heap.size w8 w') from by
    refine (same_any w8 _ _ l l HC8.out (HV.out.later HB8.out)).mono ?_
    rintro e w' ⟨rfl, q, rfl⟩
    exact ⟨ret_bool (by simp), below_drewN _ _⟩
  go_wp2_with fail
  refine S1.out.mono ?_
  rintro e w9 ⟨rfl, hb9⟩
  have HB9 := show Hid (Below w.heap.size w w9) from HB8.out.trans (hb9.mono HB8.out.size)
  have S2 := show Hid (Calls Tryd.prog 10 #[vd, vw] w9 fun e w' => e = .returned (.bool true) ∧ Below w9.heap.size w9 w') from by
    refine (same_any w9 _ _ R R (HD8.out.later hb9) (HW8.out.later hb9)).mono ?_
    rintro e w' ⟨rfl, q, rfl⟩
    exact ⟨ret_bool (by simp), below_drewN _ _⟩
  clear hb9 S1 HB8 HC8 HD8 HW8
  go_wp2_with fail
  refine S2.out.mono ?_
  rintro e w10 ⟨rfl, hb10⟩
  have HB10 := show Hid (Below w.heap.size w w10) from HB9.out.trans (hb10.mono HB9.out.size)
  clear hb10 S2 HB9
  go_wp2_with fail
  refine (C11.out w10).mono ?_
  rintro e w11 ⟨rfl, hb11⟩
  have HB11 := show Hid (Below w.heap.size w w11) from HB10.out.trans (hb11.mono HB10.out.size)
  clear hb11 C11 HB10
  by_cases hn0 : n < 0
  · have d1 : decide (n < 0) = true := by simpa using hn0
    go_wp2_with fail
    refine (CH.out w11 HB11.out).mono ?_
    rintro e w12 ⟨rfl, hb12⟩
    have HB12 := show Hid (Below w.heap.size w w12) from HB11.out.trans (hb12.mono HB11.out.size)
    clear hb12 HB11
    go_wp2
    go_ret
    exact ⟨rfl, HB12.out⟩
  · have d1 : decide (n < 0) = false := by simpa using hn0
    by_cases hn1 : 9999999999 < n
    · have d2 : decide (9999999999 < n) = true := by simpa using hn1
      go_wp2_with fail
      refine (CH.out w11 HB11.out).mono ?_
      rintro e w12 ⟨rfl, hb12⟩
      have HB12 := show Hid (Below w.heap.size w w12) from HB11.out.trans (hb12.mono HB11.out.size)
      clear hb12 HB11
      go_wp2
      go_ret
      exact ⟨rfl, HB12.out⟩
    · have d2 : decide (9999999999 < n) = false := by simpa using hn1
      have C13 := show Hid (Calls Tryd.prog 29 #[.string T, .int .i64 n] w11 fun e w' => e = .returned (.tuple #[.int .i64 n, .int .i64 0]) ∧ Below w11.heap.size w11 w') from C12.out (by omega) (by omega) w11
      clear C12
      go_wp2_with fail
      refine C13.out.mono ?_
      rintro e w12 ⟨rfl, hb12⟩
      have HB12 := show Hid (Below w.heap.size w w12) from HB11.out.trans (hb12.mono HB11.out.size)
      clear hb12 HB11 C13
      go_wp2_with fail
      refine (CH.out w12 HB12.out).mono ?_
      rintro e w13 ⟨rfl, hb13⟩
      have HB13 := show Hid (Below w.heap.size w w13) from HB12.out.trans (hb13.mono HB12.out.size)
      clear hb13 HB12
      go_wp2
      go_ret
      exact ⟨rfl, HB13.out⟩
end Go.Proofs.YthmfgoclkioncaaDoor
