/-
  OctetReads, as a walk: for every bytes and every row of kinds it answers true and changes nothing that was there, where the library's tables stand as the program's text lays them, and the bytes are at most 2^47 - 4096.
-/
import Derived.Test.YthmfgoclkioncaaDoorTakeText
import Derived.Test.YthmfgoclkioncaaDoorRefSeal
import Derived.Test.YthmfgoclkioncaaDoorHeads
namespace Go.Proofs.YthmfgoclkioncaaDoor
open Go.RowKit

/-- The value v is a slice of just the numbers zs, wherever they lie. -/
def IsK (w : World) (v : Value) (zs : List Int) : Prop :=
  ∃ p c, v = .slice p zs.length c ∧ zs.length ≤ c ∧ c ≤ 9223372036854775807 ∧ (0 < zs.length → ∃ b o, p = some ⟨b, o, none⟩ ∧ ∀ k (hk : k < zs.length), w.cell? ⟨b, o + k, none⟩ = some (.int .i64 zs[k]))
/-- A Reader of its own bytes: they lie from block B on. -/
def RdB (B : Nat) (w : World) (pr : Nat) (l : List UInt8) : Prop :=
  ∃ v t, t ≠ 5 ∧ w.heap[pr]? = some (.cells #[v, .bool true] t (0, 0)) ∧ IsB w v l ∧ (∀ k, v.ownBlock = some k → k ≠ pr) ∧ B ≤ pr ∧ ∀ k, v.ownBlock = some k → B ≤ k
theorem RdB.rd {B : Nat} {w : World} {pr : Nat} {l : List UInt8} (h : RdB B w pr l) : Rd w pr l := by
  obtain ⟨v, t, h1, h2, h3, h4, _, _⟩ := h
  exact ⟨v, t, h1, h2, h3, h4⟩
theorem RdB.setCell {B : Nat} {w : World} {pr : Nat} {l : List UInt8} (h : RdB B w pr l) (g i : Nat) (hg : g < B) (u : Value) : RdB B (w.setCell ⟨g, i, none⟩ u) pr l := by
  obtain ⟨v, t, h1, h2, ⟨p, c, rfl, h31, h32, h33, h34⟩, h4, h5, h6⟩ := h
  refine ⟨_, t, h1, ?_, ⟨p, c, rfl, h31, h32, h33, fun hn => ?_⟩, h4, h5, h6⟩
  · rw [Below.heap_setCell _ _ _ _ (by show pr ≠ g; omega)]; exact h2
  · obtain ⟨b, o, rfl, hc⟩ := h34 hn
    have hb : B ≤ b := h6 b rfl
    refine ⟨b, o, rfl, fun i' hi => ?_⟩
    rw [World.cell?_of_block (w := w) (a := ⟨b, o + i', none⟩) (Below.heap_setCell _ _ _ _ (by show b ≠ g; omega))]
    exact hc i' hi
set_option maxHeartbeats 400000 in
theorem newReader_own (w : World) (v : Value) (l : List UInt8) (hv : IsB w v l) (hm : l.length ≤ 140737488355328) :
    Calls Tryd.prog 12 #[v] w fun e w' => ∃ pr, e = .returned (.pointer (some ⟨pr, 0, none⟩)) ∧ RdB w.heap.size w' pr l ∧ Below w.heap.size w w' := by
  have cC : Calls Tryd.prog 39 #[v] w fun e w' => ∃ v', e = .returned v' ∧ w'.ownsRow w.heap.size 5 1 v' l.length (vals l) ∧ Below w.heap.size w w' := by
    obtain ⟨p, c, rfl, hc1, hc2, hpn, hb⟩ := hv
    cases p with
    | none =>
      have h0 : l.length = 0 := by have := hpn rfl; omega
      refine (Tryd.bytes_Clone_nil l.length c w).mono ?_
      rintro e w1 ⟨rfl, rfl⟩
      obtain rfl : l = [] := List.eq_nil_of_length_eq_zero h0
      exact ⟨_, rfl, World.ownsRow_nil _ _ _ _, Below.refl _ _⟩
    | some a =>
      refine (Tryd.bytes_Clone_at a l.length c (ints l) w (ints_length l) hm (fun i hi => ?_)).mono ?_
      · obtain ⟨b, o, hp, hc⟩ := hb (by omega)
        obtain rfl := Option.some.inj hp
        rw [Addr.add_lit]
        exact hc i hi
      · rintro e w1 ⟨v', rfl, h1, _, h2⟩
        rw [← vals_eq] at h1
        exact ⟨v', rfl, h1, h2⟩
  have CC := show Hid (Calls Tryd.prog 39 #[v] w fun e w' => ∃ v', e = .returned v' ∧ w'.ownsRow w.heap.size 5 1 v' l.length (vals l) ∧ Below w.heap.size w w') from cC
  clear cC hv
  go_enter Tryd.func12, Tryd.ntmps12
  go_wp2_with fail
  refine CC.out.mono ?_
  rintro e w1 ⟨v', rfl, hown, hb⟩
  obtain ⟨pv, nv, cv, hv'⟩ : ∃ pv nv cv, v' = .slice pv nv cv := by
    rcases hown.2 with ⟨h, _⟩ | ⟨g, cap, cur, h, _⟩
    · exact ⟨_, _, _, h⟩
    · exact ⟨_, _, _, h⟩
  subst hv'
  have hsz := hb.size
  clear CC
  go_wp2
  go_ret
  refine ⟨w1.heap.size, rfl, ⟨_, _, ?_, heap_alloc_new _ _, (IsB.of_owns hown).alloc _, fun k hk => ?_, hsz, fun k hk => (hown.lt k hk).1⟩, hb.alloc hsz _⟩
  · decide
  · have := (hown.lt k hk).2; omega
theorem owns_later {w w' : World} {B n : Nat} {v : Value} {xs : List Value} (h : w.ownsRow B 5 1 v n xs) (hb : Below w.heap.size w w') : w'.ownsRow B 5 1 v n xs := by
  refine ⟨h.1, ?_⟩
  rcases h.2 with h | ⟨g, cap, cur, h1, h2, h3, h4⟩
  · exact Or.inl h
  · exact Or.inr ⟨g, cap, cur, h1, h2, by rw [hb.block g (lt_of_block h3)]; exact h3, h4⟩
theorem xor_vals (m : List UInt8) (k x : Nat) (hk : k < m.length) (hx : x < 256) : (vals m).set k (.int .u8 (bits .xor .u8 ((m[k]).toNat : Int) (x : Int))) = vals (m.set k (UInt8.ofNat ((m[k]).toNat ^^^ x))) := by
  have hlt : (m[k]).toNat ^^^ x < 256 := Nat.xor_lt_two_pow (n := 8) (toNat_lt _) hx
  rw [u8_xor_nat _ _ (toNat_lt _) hx]
  unfold vals
  rw [List.map_set, Oct.ofNat_toNat, Nat.mod_eq_of_lt hlt]
theorem takeE_zero (q : List UInt8) (h : takeE q = 0) : (Oct.lead q).2.2 = 0 ∧ (Oct.lead q).2.1 + (Oct.lead q).1 ≤ q.length := by
  unfold takeE at h
  split at h
  · rename_i h1; exact absurd h h1
  · rename_i h1
    split at h
    · exact absurd h (by decide)
    · split at h
      · exact absurd h (by decide)
      · exact ⟨by omega, by omega⟩
theorem takeN_one (q : List UInt8) (h : takeE q = 0) : 1 ≤ takeN q := by
  have h1 := leadF_used q 0 0 (takeE_zero q h).1
  have h2 : 1 ≤ (Oct.lead q).2.1 := by have := h1.1; exact this
  rw [takeN, if_pos h]
  omega
theorem takeN_le (q : List UInt8) (h : takeE q = 0) : takeN q ≤ q.length := by
  rw [takeN, if_pos h]
  exact (takeE_zero q h).2
set_option maxRecDepth 100000 in
set_option maxHeartbeats 16000000 in
theorem reads_any (w : World) (v : Value) (l : List UInt8) (kv : Value) (ks : List Int) (hv : IsB w v l) (hk : IsK w kv ks) (hm : l.length ≤ 140737488351232) (hT : Tabs w) (hP : Pows w) :
    Calls Tryd.prog 4 #[v, kv] w fun e w' => e = .returned (.bool true) ∧ Below w.heap.size w w' := by
  have HT := show Hid (Tabs w) from hT
  have HP := show Hid (Pows w) from hP
  have HV := show Hid (IsB w v l) from hv
  have HK := show Hid (IsK w kv ks) from hk
  obtain ⟨p, c, rfl, hc1, hc2, hpn, hb⟩ := hv
  obtain ⟨pk, ck, rfl, hk1, hk2, hkc⟩ := hk
  have HPN := show Hid (p = none → c = 0) from hpn
  have HBB := show Hid (Lib.BytesIn w p l.length (ints l)) from hb
  clear hpn hb hT hP hkc
  go_enter Tryd.func4, Tryd.ntmps4
  go_wp2_with (at_builtin; refine copied w w.heap.size (Nat.le_refl _) rfl (.tmp 23) (.tmp 24) rfl l p c (by omega) HPN.out hc1 HBB.out rfl rfl ?_)
  intro g cap w1 hown1 hb1
  have CN := show Hid (Calls Tryd.prog 12 #[.slice (some ⟨g, 0, none⟩) l.length cap] w1 fun e w' => ∃ pr, e = .returned (.pointer (some ⟨pr, 0, none⟩)) ∧ RdB w1.heap.size w' pr l ∧ Below w1.heap.size w1 w') from newReader_own w1 _ l (IsB.of_owns hown1) (by omega)
  clear HPN HBB
  go_wp2_with fail
  refine CN.out.mono ?_
  rintro e w2 ⟨pr, rfl, hR2, hb2⟩
  have hgl := hown1.lt g rfl
  have hown2 := owns_later hown1 hb2
  have hcapl : l.length ≤ cap := by
    rcases hown1.2 with ⟨h, _⟩ | ⟨g', cap', cur, h, _, _, h3, _⟩
    · cases h
    · obtain ⟨_, _, rfl⟩ := Value.slice.inj h
      exact h3
  have HB2 := show Hid (Below w.heap.size w w2) from hb1.trans (hb2.mono hb1.size)
  have HW1 := show Hid (w.heap.size ≤ w1.heap.size) from hb1.size
  clear CN hown1 hb1 hb2
  go_wp2
  go_loopw [7] (fun i wr => ∃ (k : Nat) (m : List UInt8), k ≤ l.length ∧ m.length = l.length ∧ i = .int .i64 k ∧ wr.ownsRow w.heap.size 5 1 (.slice (some ⟨g, 0, none⟩) l.length cap) l.length (vals m) ∧ RdB w1.heap.size wr pr l ∧ Hid (Below w.heap.size w wr)) (fun i _ => l.length - (intOf i).toNat)
  case atStart => exact ⟨0, l, by omega, rfl, rfl, hown2, hR2, HB2⟩
  case round =>
    obtain ⟨k, m, hk, hml, rfl, hown, hR, HB⟩ := hrel
    clear hown2 hR2 HB2
    by_cases hlt : k < l.length
    · have hcell : wr.cell? ⟨g, k, none⟩ = some (.int .u8 ((m[k]'(by omega)).toNat : Int)) := by
        rw [hown.cellAt _ (by omega)]
        simp [vals, hml, hlt]
      have hfz := hown.frozenAt k
      have HST := show Hid (∀ u, (wr.setCell ⟨g, k, none⟩ u).ownsRow w.heap.size 5 1 (.slice (some ⟨g, 0, none⟩) l.length cap) l.length ((vals m).set k u)) from fun u => (hown.stored k u).1
      have HXV := show Hid ((vals m).set k (.int .u8 (bits .xor .u8 ((m[k]'(by omega)).toNat : Int) 85)) = vals (m.set k (UInt8.ofNat ((m[k]'(by omega)).toNat ^^^ 85)))) from xor_vals m k 85 (by omega) (by omega)
      have hmk := toNat_lt (m[k]'(by omega))
      generalize UInt8.ofNat ((m[k]'(by omega)).toNat ^^^ 85) = y at *
      generalize (m[k]'(by omega)).toNat = x at *
      have HR := show Hid (RdB w1.heap.size wr pr l) from hR
      clear hown hR
      go_wp2
      go_roundw
      case rel => exact ⟨k + 1, m.set k y, by omega, by simp [hml], by go_num, by rw [← HXV.out]; exact HST.out _, HR.out.setCell g k hgl.2 _, HB.out.setCell (by exact hgl.1) _⟩
      case measure => simp [intOf]; omega
    · have hpr : w.heap.size ≤ pr := by
        obtain ⟨_, _, _, _, _, _, h, _⟩ := hR
        have := HW1.out
        omega
      have HRD := show Hid (Rd wr pr l) from hR.rd
      have HPR := show Hid (w.heap.size ≤ pr) from hpr
      clear hown hR hml hpr hgl
      go_wp2
      go_loopw [8, 9] (fun lf i ws => ∃ (k : Nat) (q : List UInt8), k ≤ ks.length ∧ i = .int .i64 k ∧ Hid (IsB w lf q) ∧ Hid (Rd ws pr q) ∧ Hid (Below w.heap.size w ws)) (fun _ i _ => ks.length - (intOf i).toNat)
      case atStart => exact ⟨0, l, by omega, rfl, HV, HRD, HB⟩
      case round =>
        obtain ⟨k, q, hk, rfl, HL, HR, HBS⟩ := hrel
        clear HV HRD HB
        by_cases hlt2 : k < ks.length
        · obtain ⟨pk', ck', hkv, _, _, hkc⟩ := HK.out
          obtain ⟨rfl, _, rfl⟩ := Value.slice.inj hkv
          obtain ⟨kb, ko, rfl, hkc2⟩ := hkc (by omega)
          have hkk := cell_later HBS.out (hkc2 k hlt2)
          obtain ⟨z, hz⟩ : ∃ z, z = ks[k] := ⟨_, rfl⟩
          rw [← hz] at hkk
          clear hkv hkc hkc2 hz
          obtain ⟨pl, cl, rfl, hl1, hl2, hln, hlb⟩ := HL.out
          have CLE := show Hid (∀ W q, Rd W pr q → Calls Tryd.prog 18 #[.pointer (some ⟨pr, 0, none⟩)] W fun e w' => e = .returned (.int .i64 (q.length : Int)) ∧ w' = W) from fun W q h => rLeft_any W pr _ h
          have CEN := show Hid (∀ W q, Rd W pr q → Calls Tryd.prog 19 #[.pointer (some ⟨pr, 0, none⟩)] W fun e w' => e = .returned (.int .i64 (if 0 < q.length then 11 else 0)) ∧ w' = W) from fun W q h => rEnd_any W pr _ h
          by_cases h0 : z = 0
          · subst h0
            cases q with
            | nil =>
              have CU := show Hid (Calls Tryd.prog 13 #[.pointer (some ⟨pr, 0, none⟩)] wr fun e w' => e = .returned (.tuple #[.int .u8 0, .int .i64 10]) ∧ w' = wr) from rU8_short wr pr HR.out
              clear hlb hln
              go_wp2_with fail
              refine CU.out.mono ?_
              rintro e w3 ⟨rfl, rfl⟩
              go_wp2_with fail
              refine (CLE.out _ [] HR.out).mono ?_
              rintro e w8 ⟨rfl, rfl⟩
              go_wp2_with fail
              refine (CEN.out _ [] HR.out).mono ?_
              rintro e w9 ⟨rfl, rfl⟩
              rw [if_neg (by simp)]
              go_wp2
              go_roundw
              case rel => exact ⟨k + 1, [], by omega, by go_num, HL, HR, HBS⟩
              case measure => simp [intOf]; omega
            | cons x r =>
              obtain ⟨lb, lo, rfl, hlc⟩ := bytes_cell hlb (by simp)
              have CU := show Hid (Calls Tryd.prog 13 #[.pointer (some ⟨pr, 0, none⟩)] wr fun e w' => e = .returned (.tuple #[.int .u8 (x.toNat : Int), .int .i64 0]) ∧ Rd w' pr r ∧ ∀ B, B ≤ pr → Below B wr w') from rU8_ok wr pr x r HR.out
              have HL' := show Hid (∀ dd a, dd = cl - 1 → (¬ cl = 1 → a = (⟨lb, lo + 1, none⟩ : Addr)) → IsB w (.slice (some a) r.length dd) r) from fun dd a hd ha => IsB.drop (l := x :: r) hl1 hl2 hlc 1 r.length dd (by simp) (by simp) hd a ha
              have hx0 : w.cell? ⟨lb, lo, none⟩ = some (.int .u8 (x.toNat : Int)) := hlc 0 (by simp)
              have HX0 := show Hid (w.cell? ⟨lb, lo, none⟩ = some (.int .u8 (x.toNat : Int))) from hx0
              have hl1' : r.length + 1 ≤ cl := hl1
              clear hlb hln hlc hl1 hx0
              by_cases hr : r = []
              · subst hr
                by_cases hcl : cl = 1
                · subst hcl
                  have HLn := show Hid (IsB w (.slice (some ⟨lb, lo, none⟩) 0 0) []) from HL'.out 0 _ rfl (fun h => absurd rfl h)
                  go_wp2_with fail
                  refine CU.out.mono ?_
                  rintro e w3 ⟨rfl, hR3, hb3⟩
                  have HR3 := show Hid (Rd w3 pr []) from hR3
                  have HB3 := show Hid (Below w.heap.size w w3) from HBS.out.trans (hb3 _ HPR.out)
                  have hx3 := cell_later HB3.out HX0.out
                  clear hR3 hb3
                  go_wp2_with fail
                  refine (CLE.out _ [] HR3.out).mono ?_
                  rintro e w8 ⟨rfl, rfl⟩
                  go_wp2_with fail
                  refine (CEN.out _ [] HR3.out).mono ?_
                  rintro e w9 ⟨rfl, rfl⟩
                  rw [if_neg (by simp)]
                  go_wp2
                  go_roundw
                  case rel => exact ⟨k + 1, [], by omega, by go_num, HLn, HR3, HB3⟩
                  case measure => simp [intOf]; omega
                · have HLn := show Hid (IsB w (.slice (some ⟨lb, lo + 1, none⟩) 0 (cl - 1)) []) from HL'.out (cl - 1) _ rfl (fun h => rfl)
                  go_wp2_with fail
                  refine CU.out.mono ?_
                  rintro e w3 ⟨rfl, hR3, hb3⟩
                  have HR3 := show Hid (Rd w3 pr []) from hR3
                  have HB3 := show Hid (Below w.heap.size w w3) from HBS.out.trans (hb3 _ HPR.out)
                  have hx3 := cell_later HB3.out HX0.out
                  clear hR3 hb3
                  go_wp2_with fail
                  refine (CLE.out _ [] HR3.out).mono ?_
                  rintro e w8 ⟨rfl, rfl⟩
                  go_wp2_with fail
                  refine (CEN.out _ [] HR3.out).mono ?_
                  rintro e w9 ⟨rfl, rfl⟩
                  rw [if_neg (by simp)]
                  go_wp2
                  go_roundw
                  case rel => exact ⟨k + 1, [], by omega, by go_num, HLn, HR3, HB3⟩
                  case measure => simp [intOf]; omega
              · have hl0 : 0 < r.length := List.length_pos_iff.2 hr
                have hcl : ¬ cl = 1 := by omega
                have HLn := show Hid (IsB w (.slice (some ⟨lb, lo + 1, none⟩) r.length (cl - 1)) r) from HL'.out (cl - 1) _ rfl (fun h => rfl)
                go_wp2_with fail
                refine CU.out.mono ?_
                rintro e w3 ⟨rfl, hR3, hb3⟩
                have HR3 := show Hid (Rd w3 pr r) from hR3
                have HB3 := show Hid (Below w.heap.size w w3) from HBS.out.trans (hb3 _ HPR.out)
                have hx3 := cell_later HB3.out HX0.out
                clear hR3 hb3
                go_wp2_with fail
                refine (CLE.out _ r HR3.out).mono ?_
                rintro e w8 ⟨rfl, rfl⟩
                go_wp2_with fail
                refine (CEN.out _ r HR3.out).mono ?_
                rintro e w9 ⟨rfl, rfl⟩
                rw [if_pos hl0]
                go_wp2
                go_roundw
                case rel => exact ⟨k + 1, r, by omega, by go_num, HLn, HR3, HB3⟩
                case measure => simp [intOf]; omega
          · by_cases h1 : z = 1
            · subst h1
              clear h0
              have CT := show Hid (∀ W, Below w.heap.size w W → Calls Tryd.prog 15 #[.slice pl q.length cl] W fun e w' => e = .returned (.tuple #[.int .u64 ((Oct.lead q).1 : Int), .int .i64 ((Oct.lead q).2.1 : Int), .int .i64 ((Oct.lead q).2.2 : Int)]) ∧ w' = W) from fun W h => tnum_any W _ q (HL.out.later h)
              by_cases her : (Oct.lead q).2.2 = 0
              · have CU := show Hid (Calls Tryd.prog 14 #[.pointer (some ⟨pr, 0, none⟩)] wr fun e w' => e = .returned (.tuple #[.int .u64 ((Oct.lead q).1 : Int), .int .i64 0]) ∧ Rd w' pr (q.drop (Oct.lead q).2.1) ∧ ∀ B, B ≤ pr → Below B wr w') from rNum_ok wr pr q HR.out her
                have hu := leadF_used q 0 0 her
                have hn1 : 1 ≤ (Oct.lead q).2.1 := by have := hu.1; exact this
                have hn2 : (Oct.lead q).2.1 ≤ q.length := by have := hu.2; rw [Nat.zero_add] at this; exact this
                rw [her] at CT
                clear hu her
                generalize (Oct.lead q).1 = x at *
                generalize (Oct.lead q).2.1 = n at *
                obtain ⟨m, hm'⟩ : ∃ m, q.length = n + m := ⟨q.length - n, by omega⟩
                obtain ⟨q', hq'⟩ : ∃ q', q' = q.drop n := ⟨_, rfl⟩
                have hql : q'.length = m := by rw [hq', List.length_drop]; omega
                obtain ⟨lb, lo, rfl, hlc⟩ := bytes_cell hlb (by omega)
                have HLA := show Hid (∀ dd a, dd = cl - n → (¬ cl = n → a = (⟨lb, lo + n, none⟩ : Addr)) → IsB w (.slice (some a) m dd) q') from fun dd a hd ha => by
                  rw [hq']; exact IsB.drop (l := q) hl1 hl2 hlc n m dd (by omega) (by omega) hd a ha
                rw [← hq'] at CU
                have CLE1 := show Hid (∀ W, Rd W pr q' → Calls Tryd.prog 18 #[.pointer (some ⟨pr, 0, none⟩)] W fun e w' => e = .returned (.int .i64 (m : Int)) ∧ w' = W) from fun W h => by
                  rw [← hql]; exact rLeft_any W pr _ h
                have CEN1 := show Hid (∀ W, Rd W pr q' → Calls Tryd.prog 19 #[.pointer (some ⟨pr, 0, none⟩)] W fun e w' => e = .returned (.int .i64 (if 0 < m then 11 else 0)) ∧ w' = W) from fun W h => by
                  rw [← hql]; exact rEnd_any W pr _ h
                clear hq' hql hlc hlb hln CLE CEN hn2
                generalize q.length = L at *
                subst hm'
                by_cases hcl : cl = n
                · obtain rfl : m = 0 := by omega
                  subst hcl
                  have HLn := show Hid (IsB w (.slice (some ⟨lb, lo, none⟩) 0 0) q') from HLA.out 0 _ (by omega) (fun h => absurd rfl h)
                  go_wp2_with fail
                  refine CU.out.mono ?_
                  rintro e w3 ⟨rfl, hR3, hb3⟩
                  have HR3 := show Hid (Rd w3 pr q') from hR3
                  have HB3 := show Hid (Below w.heap.size w w3) from HBS.out.trans (hb3 _ HPR.out)
                  clear hR3 hb3
                  go_wp2_with fail
                  refine (CT.out _ HB3.out).mono ?_
                  rintro e w4 ⟨rfl, rfl⟩
                  go_wp2_with fail
                  refine (CLE1.out _ HR3.out).mono ?_
                  rintro e w8 ⟨rfl, rfl⟩
                  go_wp2_with fail
                  refine (CEN1.out _ HR3.out).mono ?_
                  rintro e w9 ⟨rfl, rfl⟩
                  rw [if_neg (by omega)]
                  go_wp2
                  go_roundw
                  case rel => exact ⟨k + 1, q', by omega, by go_num, HLn, HR3, HB3⟩
                  case measure => simp [intOf]; omega
                · by_cases hl0 : 0 < m
                  · have HLn := show Hid (IsB w (.slice (some ⟨lb, lo + n, none⟩) m (cl - n)) q') from HLA.out _ _ rfl (fun _ => rfl)
                    go_wp2_with fail
                    refine CU.out.mono ?_
                    rintro e w3 ⟨rfl, hR3, hb3⟩
                    have HR3 := show Hid (Rd w3 pr q') from hR3
                    have HB3 := show Hid (Below w.heap.size w w3) from HBS.out.trans (hb3 _ HPR.out)
                    clear hR3 hb3
                    go_wp2_with fail
                    refine (CT.out _ HB3.out).mono ?_
                    rintro e w4 ⟨rfl, rfl⟩
                    go_wp2_with fail
                    refine (CLE1.out _ HR3.out).mono ?_
                    rintro e w8 ⟨rfl, rfl⟩
                    go_wp2_with fail
                    refine (CEN1.out _ HR3.out).mono ?_
                    rintro e w9 ⟨rfl, rfl⟩
                    rw [if_pos hl0]
                    go_wp2
                    go_roundw
                    case rel => exact ⟨k + 1, q', by omega, by go_num, HLn, HR3, HB3⟩
                    case measure => simp [intOf]; omega
                  · obtain rfl : m = 0 := by omega
                    have HLn := show Hid (IsB w (.slice (some ⟨lb, lo + n, none⟩) 0 (cl - n)) q') from HLA.out _ _ rfl (fun _ => rfl)
                    go_wp2_with fail
                    refine CU.out.mono ?_
                    rintro e w3 ⟨rfl, hR3, hb3⟩
                    have HR3 := show Hid (Rd w3 pr q') from hR3
                    have HB3 := show Hid (Below w.heap.size w w3) from HBS.out.trans (hb3 _ HPR.out)
                    clear hR3 hb3
                    go_wp2_with fail
                    refine (CT.out _ HB3.out).mono ?_
                    rintro e w4 ⟨rfl, rfl⟩
                    go_wp2_with fail
                    refine (CLE1.out _ HR3.out).mono ?_
                    rintro e w8 ⟨rfl, rfl⟩
                    go_wp2_with fail
                    refine (CEN1.out _ HR3.out).mono ?_
                    rintro e w9 ⟨rfl, rfl⟩
                    rw [if_neg (by omega)]
                    go_wp2
                    go_roundw
                    case rel => exact ⟨k + 1, q', by omega, by go_num, HLn, HR3, HB3⟩
                    case measure => simp [intOf]; omega
              · have CU := show Hid (Calls Tryd.prog 14 #[.pointer (some ⟨pr, 0, none⟩)] wr fun e w' => e = .returned (.tuple #[.int .u64 0, .int .i64 ((Oct.lead q).2.2 : Int)]) ∧ Rd w' pr q ∧ ∀ B, B ≤ pr → Below B wr w') from (rNum_bad wr pr q HR.out her).mono fun _ _ ⟨h, hw⟩ => ⟨h, by rw [hw]; exact HR.out, fun B _ => by rw [hw]; exact Below.refl _ _⟩
                have hbad := leadF_bad q 0 0 her
                have hb1 : (Oct.lead q).1 = 0 := by show (Oct.leadF 0 0 q).1 = 0; rw [hbad]
                have hb2 : (Oct.lead q).2.1 = 0 := by show (Oct.leadF 0 0 q).2.1 = 0; rw [hbad]
                rw [hb1, hb2] at CT
                clear hbad hb1 hb2
                generalize (Oct.lead q).2.2 = er at *
                clear hlb
                cases pl with
                | none =>
                  have hcl0 := hln rfl
                  subst hcl0
                  obtain rfl : q = [] := List.eq_nil_of_length_eq_zero (by omega)
                  clear hln
                  go_wp2_with fail
                  refine CU.out.mono ?_
                  rintro e w3 ⟨rfl, hR3, hb3⟩
                  have HR3 := show Hid (Rd w3 pr []) from hR3
                  have HB3 := show Hid (Below w.heap.size w w3) from HBS.out.trans (hb3 _ HPR.out)
                  clear hR3 hb3
                  go_wp2_with fail
                  refine (CT.out _ HB3.out).mono ?_
                  rintro e w4 ⟨rfl, rfl⟩
                  go_wp2_with fail
                  refine (CLE.out _ [] HR3.out).mono ?_
                  rintro e w8 ⟨rfl, rfl⟩
                  go_wp2_with fail
                  refine (CEN.out _ [] HR3.out).mono ?_
                  rintro e w9 ⟨rfl, rfl⟩
                  rw [if_neg (by simp)]
                  go_wp2
                  go_roundw
                  case rel => exact ⟨k + 1, [], by omega, by go_num, HL, HR3, HB3⟩
                  case measure => simp [intOf]; omega
                | some la =>
                  clear hln
                  by_cases hq : q = []
                  · subst hq
                    go_wp2_with fail
                    refine CU.out.mono ?_
                    rintro e w3 ⟨rfl, hR3, hb3⟩
                    have HR3 := show Hid (Rd w3 pr []) from hR3
                    have HB3 := show Hid (Below w.heap.size w w3) from HBS.out.trans (hb3 _ HPR.out)
                    clear hR3 hb3
                    go_wp2_with fail
                    refine (CT.out _ HB3.out).mono ?_
                    rintro e w4 ⟨rfl, rfl⟩
                    go_wp2_with fail
                    refine (CLE.out _ [] HR3.out).mono ?_
                    rintro e w8 ⟨rfl, rfl⟩
                    go_wp2_with fail
                    refine (CEN.out _ [] HR3.out).mono ?_
                    rintro e w9 ⟨rfl, rfl⟩
                    rw [if_neg (by simp)]
                    go_wp2
                    go_roundw
                    case rel => exact ⟨k + 1, [], by omega, by go_num, HL, HR3, HB3⟩
                    case measure => simp [intOf]; omega
                  · have hl0 : 0 < q.length := List.length_pos_iff.2 hq
                    go_wp2_with fail
                    refine CU.out.mono ?_
                    rintro e w3 ⟨rfl, hR3, hb3⟩
                    have HR3 := show Hid (Rd w3 pr q) from hR3
                    have HB3 := show Hid (Below w.heap.size w w3) from HBS.out.trans (hb3 _ HPR.out)
                    clear hR3 hb3
                    go_wp2_with fail
                    refine (CT.out _ HB3.out).mono ?_
                    rintro e w4 ⟨rfl, rfl⟩
                    go_wp2_with fail
                    refine (CLE.out _ q HR3.out).mono ?_
                    rintro e w8 ⟨rfl, rfl⟩
                    go_wp2_with fail
                    refine (CEN.out _ q HR3.out).mono ?_
                    rintro e w9 ⟨rfl, rfl⟩
                    rw [if_pos hl0]
                    go_wp2
                    go_roundw
                    case rel => exact ⟨k + 1, q, by omega, by go_num, HL, HR3, HB3⟩
                    case measure => simp [intOf]; omega
            · by_cases h2 : z = 2
              · subst h2
                clear h0 h1
                have CT := show Hid (∀ W, Below w.heap.size w W → Calls Tryd.prog 17 #[.slice pl q.length cl] W fun e w' => e = .returned (.tuple #[.string ⟨(takeS q).toArray⟩, .int .i64 (takeN q : Int), .int .i64 (takeE q : Int)]) ∧ w' = W) from fun W h => ttext_any W _ q (HL.out.later h)
                have CU := show Hid (Calls Tryd.prog 16 #[.pointer (some ⟨pr, 0, none⟩)] wr fun e w' => e = .returned (.tuple #[.string ⟨(takeS q).toArray⟩, .int .i64 (takeE q : Int)]) ∧ Rd w' pr (q.drop (takeN q)) ∧ ∀ B, B ≤ pr → Below B wr w') from rText_any wr pr q HR.out (HT.out.later HBS.out)
                by_cases her : takeE q = 0
                · have hn1 := takeN_one q her
                  have hn2 := takeN_le q her
                  rw [her] at CT CU
                  clear her
                  generalize takeN q = n at *
                  generalize (⟨(takeS q).toArray⟩ : ByteArray) = S at *
                  obtain ⟨m, hm'⟩ : ∃ m, q.length = n + m := ⟨q.length - n, by omega⟩
                  obtain ⟨q', hq'⟩ : ∃ q', q' = q.drop n := ⟨_, rfl⟩
                  have hql : q'.length = m := by rw [hq', List.length_drop]; omega
                  obtain ⟨lb, lo, rfl, hlc⟩ := bytes_cell hlb (by omega)
                  have HLA := show Hid (∀ dd a, dd = cl - n → (¬ cl = n → a = (⟨lb, lo + n, none⟩ : Addr)) → IsB w (.slice (some a) m dd) q') from fun dd a hd ha => by
                    rw [hq']; exact IsB.drop (l := q) hl1 hl2 hlc n m dd (by omega) (by omega) hd a ha
                  rw [← hq'] at CU
                  have CLE1 := show Hid (∀ W, Rd W pr q' → Calls Tryd.prog 18 #[.pointer (some ⟨pr, 0, none⟩)] W fun e w' => e = .returned (.int .i64 (m : Int)) ∧ w' = W) from fun W h => by
                    rw [← hql]; exact rLeft_any W pr _ h
                  have CEN1 := show Hid (∀ W, Rd W pr q' → Calls Tryd.prog 19 #[.pointer (some ⟨pr, 0, none⟩)] W fun e w' => e = .returned (.int .i64 (if 0 < m then 11 else 0)) ∧ w' = W) from fun W h => by
                    rw [← hql]; exact rEnd_any W pr _ h
                  clear hq' hql hlc hlb hln CLE CEN hn2
                  generalize q.length = L at *
                  subst hm'
                  by_cases hcl : cl = n
                  · obtain rfl : m = 0 := by omega
                    subst hcl
                    have HLn := show Hid (IsB w (.slice (some ⟨lb, lo, none⟩) 0 0) q') from HLA.out 0 _ (by omega) (fun h => absurd rfl h)
                    go_wp2_with fail
                    refine CU.out.mono ?_
                    rintro e w3 ⟨rfl, hR3, hb3⟩
                    have HR3 := show Hid (Rd w3 pr q') from hR3
                    have HB3 := show Hid (Below w.heap.size w w3) from HBS.out.trans (hb3 _ HPR.out)
                    clear hR3 hb3
                    go_wp2_with fail
                    refine (CT.out _ HB3.out).mono ?_
                    rintro e w4 ⟨rfl, rfl⟩
                    go_wp2_with fail
                    refine (CLE1.out _ HR3.out).mono ?_
                    rintro e w8 ⟨rfl, rfl⟩
                    go_wp2_with fail
                    refine (CEN1.out _ HR3.out).mono ?_
                    rintro e w9 ⟨rfl, rfl⟩
                    rw [if_neg (by omega)]
                    go_wp2
                    go_roundw
                    case rel => exact ⟨k + 1, q', by omega, by go_num, HLn, HR3, HB3⟩
                    case measure => simp [intOf]; omega
                  · by_cases hl0 : 0 < m
                    · have HLn := show Hid (IsB w (.slice (some ⟨lb, lo + n, none⟩) m (cl - n)) q') from HLA.out _ _ rfl (fun _ => rfl)
                      go_wp2_with fail
                      refine CU.out.mono ?_
                      rintro e w3 ⟨rfl, hR3, hb3⟩
                      have HR3 := show Hid (Rd w3 pr q') from hR3
                      have HB3 := show Hid (Below w.heap.size w w3) from HBS.out.trans (hb3 _ HPR.out)
                      clear hR3 hb3
                      go_wp2_with fail
                      refine (CT.out _ HB3.out).mono ?_
                      rintro e w4 ⟨rfl, rfl⟩
                      go_wp2_with fail
                      refine (CLE1.out _ HR3.out).mono ?_
                      rintro e w8 ⟨rfl, rfl⟩
                      go_wp2_with fail
                      refine (CEN1.out _ HR3.out).mono ?_
                      rintro e w9 ⟨rfl, rfl⟩
                      rw [if_pos hl0]
                      go_wp2
                      go_roundw
                      case rel => exact ⟨k + 1, q', by omega, by go_num, HLn, HR3, HB3⟩
                      case measure => simp [intOf]; omega
                    · obtain rfl : m = 0 := by omega
                      have HLn := show Hid (IsB w (.slice (some ⟨lb, lo + n, none⟩) 0 (cl - n)) q') from HLA.out _ _ rfl (fun _ => rfl)
                      go_wp2_with fail
                      refine CU.out.mono ?_
                      rintro e w3 ⟨rfl, hR3, hb3⟩
                      have HR3 := show Hid (Rd w3 pr q') from hR3
                      have HB3 := show Hid (Below w.heap.size w w3) from HBS.out.trans (hb3 _ HPR.out)
                      clear hR3 hb3
                      go_wp2_with fail
                      refine (CT.out _ HB3.out).mono ?_
                      rintro e w4 ⟨rfl, rfl⟩
                      go_wp2_with fail
                      refine (CLE1.out _ HR3.out).mono ?_
                      rintro e w8 ⟨rfl, rfl⟩
                      go_wp2_with fail
                      refine (CEN1.out _ HR3.out).mono ?_
                      rintro e w9 ⟨rfl, rfl⟩
                      rw [if_neg (by omega)]
                      go_wp2
                      go_roundw
                      case rel => exact ⟨k + 1, q', by omega, by go_num, HLn, HR3, HB3⟩
                      case measure => simp [intOf]; omega
                · have hb1 : takeS q = [] := by rw [takeS, if_neg her]
                  have hb2 : takeN q = 0 := by rw [takeN, if_neg her]
                  rw [hb1, hb2] at CT CU
                  rw [List.drop_zero] at CU
                  clear hb1 hb2
                  generalize takeE q = er at *
                  clear hlb
                  cases pl with
                  | none =>
                    have hcl0 := hln rfl
                    subst hcl0
                    obtain rfl : q = [] := List.eq_nil_of_length_eq_zero (by omega)
                    clear hln
                    go_wp2_with fail
                    refine CU.out.mono ?_
                    rintro e w3 ⟨rfl, hR3, hb3⟩
                    have HR3 := show Hid (Rd w3 pr []) from hR3
                    have HB3 := show Hid (Below w.heap.size w w3) from HBS.out.trans (hb3 _ HPR.out)
                    clear hR3 hb3
                    go_wp2_with fail
                    refine (CT.out _ HB3.out).mono ?_
                    rintro e w4 ⟨rfl, rfl⟩
                    go_wp2_with fail
                    refine (CLE.out _ [] HR3.out).mono ?_
                    rintro e w8 ⟨rfl, rfl⟩
                    go_wp2_with fail
                    refine (CEN.out _ [] HR3.out).mono ?_
                    rintro e w9 ⟨rfl, rfl⟩
                    rw [if_neg (by simp)]
                    go_wp2
                    go_roundw
                    case rel => exact ⟨k + 1, [], by omega, by go_num, HL, HR3, HB3⟩
                    case measure => simp [intOf]; omega
                  | some la =>
                    clear hln
                    by_cases hq : q = []
                    · subst hq
                      go_wp2_with fail
                      refine CU.out.mono ?_
                      rintro e w3 ⟨rfl, hR3, hb3⟩
                      have HR3 := show Hid (Rd w3 pr []) from hR3
                      have HB3 := show Hid (Below w.heap.size w w3) from HBS.out.trans (hb3 _ HPR.out)
                      clear hR3 hb3
                      go_wp2_with fail
                      refine (CT.out _ HB3.out).mono ?_
                      rintro e w4 ⟨rfl, rfl⟩
                      go_wp2_with fail
                      refine (CLE.out _ [] HR3.out).mono ?_
                      rintro e w8 ⟨rfl, rfl⟩
                      go_wp2_with fail
                      refine (CEN.out _ [] HR3.out).mono ?_
                      rintro e w9 ⟨rfl, rfl⟩
                      rw [if_neg (by simp)]
                      go_wp2
                      go_roundw
                      case rel => exact ⟨k + 1, [], by omega, by go_num, HL, HR3, HB3⟩
                      case measure => simp [intOf]; omega
                    · have hl0 : 0 < q.length := List.length_pos_iff.2 hq
                      go_wp2_with fail
                      refine CU.out.mono ?_
                      rintro e w3 ⟨rfl, hR3, hb3⟩
                      have HR3 := show Hid (Rd w3 pr q) from hR3
                      have HB3 := show Hid (Below w.heap.size w w3) from HBS.out.trans (hb3 _ HPR.out)
                      clear hR3 hb3
                      go_wp2_with fail
                      refine (CT.out _ HB3.out).mono ?_
                      rintro e w4 ⟨rfl, rfl⟩
                      go_wp2_with fail
                      refine (CLE.out _ q HR3.out).mono ?_
                      rintro e w8 ⟨rfl, rfl⟩
                      go_wp2_with fail
                      refine (CEN.out _ q HR3.out).mono ?_
                      rintro e w9 ⟨rfl, rfl⟩
                      rw [if_pos hl0]
                      go_wp2
                      go_roundw
                      case rel => exact ⟨k + 1, q, by omega, by go_num, HL, HR3, HB3⟩
                      case measure => simp [intOf]; omega
              · have e0 : (z == 0) = false := by simp [h0]
                have e1 : (z == 1) = false := by simp [h1]
                have e2 : (z == 2) = false := by simp [h2]
                clear h0 h1 h2 hlb hln
                by_cases hq : q = []
                · subst hq
                  go_wp2_with fail
                  refine (CLE.out _ [] HR.out).mono ?_
                  rintro e w8 ⟨rfl, rfl⟩
                  go_wp2_with fail
                  refine (CEN.out _ [] HR.out).mono ?_
                  rintro e w9 ⟨rfl, rfl⟩
                  rw [if_neg (by simp)]
                  go_wp2
                  go_roundw
                  case rel => exact ⟨k + 1, [], by omega, by go_num, HL, HR, HBS⟩
                  case measure => simp [intOf]; omega
                · have hl0 : 0 < q.length := List.length_pos_iff.2 hq
                  go_wp2_with fail
                  refine (CLE.out _ q HR.out).mono ?_
                  rintro e w8 ⟨rfl, rfl⟩
                  go_wp2_with fail
                  refine (CEN.out _ q HR.out).mono ?_
                  rintro e w9 ⟨rfl, rfl⟩
                  rw [if_pos hl0]
                  go_wp2
                  go_roundw
                  case rel => exact ⟨k + 1, q, by omega, by go_num, HL, HR, HBS⟩
                  case measure => simp [intOf]; omega
        · have CH := show Hid (Calls Tryd.prog 11 #[] wr fun e w' => e = .returned (.bool true) ∧ Below wr.heap.size wr w') from heads_any wr (HT.out.later HBS.out) (HP.out.later HBS.out)
          go_wp2_with fail
          refine CH.out.mono ?_
          rintro e w3 ⟨rfl, hb3⟩
          have HB3 := show Hid (Below w.heap.size w w3) from HBS.out.trans (hb3.mono HBS.out.size)
          clear CH hb3
          go_wp2
          go_ret
          exact ⟨rfl, HB3.out⟩
end Go.Proofs.YthmfgoclkioncaaDoor
