/-
  The Reader's call Text: a text is taken, or the error is told and nothing is taken: for every Reader that NewReader made, where the library's tables stand as the program's text lays them.
-/
import Derived.Test.YthmfgoclkioncaaDoorReadU8
import Derived.Test.YthmfgoclkioncaaDoorText
import Derived.Test.YthmfgoclkioncaaDoorHex
namespace Go.Proofs.YthmfgoclkioncaaDoor
open Go.RowKit

/-- The text at the beginning: its error, its bytes, how many bytes it takes with its length. -/
def takeX (l : List UInt8) : List UInt8 := (l.drop (Oct.lead l).2.1).take (Oct.lead l).1
def takeE (l : List UInt8) : Nat :=
  if (Oct.lead l).2.2 ≠ 0 then (Oct.lead l).2.2 else if 65536 < (Oct.lead l).1 then 11 else if l.length < (Oct.lead l).2.1 + (Oct.lead l).1 then 10 else if Lib.validD (takeX l) = false then 12 else 0
def takeS (l : List UInt8) : List UInt8 := if takeE l = 0 then takeX l else []
def takeN (l : List UInt8) : Nat := if takeE l = 0 then (Oct.lead l).2.1 + (Oct.lead l).1 else 0
theorem tup_text {s : List UInt8} {a b : Int} (h : a = b) : Ending.returned (.tuple #[.string ⟨s.toArray⟩, .int .i64 a]) = Ending.returned (.tuple #[.string ⟨s.toArray⟩, .int .i64 b]) := by rw [h]
theorem rText_of (w w' : World) (pr : Nat) (l : List UInt8) (e : Ending) (h : Rd w pr l) (E : Nat) (hE : takeE l = E) (h0 : E ≠ 0) (he : e = .returned (.tuple #[.string ⟨#[]⟩, .int .i64 (E : Int)])) (hb : Below w.heap.size w w') :
    e = .returned (.tuple #[.string ⟨(takeS l).toArray⟩, .int .i64 (takeE l : Int)]) ∧ Rd w' pr (l.drop (takeN l)) ∧ ∀ B, B ≤ pr → Below B w w' := by
  have h1 : takeS l = [] := by rw [takeS, hE, if_neg h0]
  have h2 : takeN l = 0 := by rw [takeN, hE, if_neg h0]
  rw [h1, h2, hE, List.drop_zero]
  exact ⟨he, h.later hb, fun B hB => hb.mono (by have := h.lt; omega)⟩
theorem conv_part {w : World} {b o : Nat} {l : List UInt8} (hc : ∀ k (hk : k < l.length), w.cell? ⟨b, o + k, none⟩ = some (.int .u8 ((l[k]).toNat : Int))) (n x d : Nat) (h : n + x ≤ l.length) (a : Addr) (ha : 0 < x → a = ⟨b, o + n, none⟩) :
    (convert 24 9 (.slice (some a) x d)).run Tryd.prog w = .ok (.string ⟨((l.drop n).take x).toArray⟩) w := by
  have hl : ((l.drop n).take x).length = x := by simp; omega
  have hb' : Lib.BytesIn w (some a) x (ints ((l.drop n).take x)) := fun hpos => by
    rw [ha hpos]
    refine ⟨b, o + n, rfl, fun i hi => ?_⟩
    rw [Nat.add_assoc, hc (n + i) (by omega), ints_getD _ _ (by omega)]
    simp
  have := hb'.convert (P := Tryd.prog) (by rw [ints_length, hl]) d 24 5 9 Tryd.underlying24 Tryd.underlying5 Tryd.underlying9
  rw [this]
  simp only [strOfNums_ints]
set_option maxRecDepth 100000 in
set_option maxHeartbeats 1000000 in
theorem rText_bad (w : World) (pr : Nat) (l : List UInt8) (h : Rd w pr l) (hbad : (Oct.lead l).2.2 ≠ 0) :
    Calls Tryd.prog 16 #[.pointer (some ⟨pr, 0, none⟩)] w fun e w' => e = .returned (.tuple #[.string ⟨#[]⟩, .int .i64 ((Oct.lead l).2.2 : Int)]) ∧ w' = w := by
  obtain ⟨v, t, ht, hv, hB, hne⟩ := h
  have h0 : w.cell? ⟨pr, 0, none⟩ = some v := by simp [World.cell?, hv]
  have h1 : w.cell? ⟨pr, 1, none⟩ = some (.bool true) := by simp [World.cell?, hv]
  have C := show Hid (Calls Tryd.prog 40 #[.pointer (some ⟨pr, 0, none⟩)] w fun e w' => e = .returned (.bool true) ∧ w' = w) from usable_at w pr true h1
  have cL := lead_any w v l hB
  generalize Oct.lead l = ans at *
  obtain ⟨x, n, er⟩ := ans
  obtain ⟨p, c, rfl, hc1, hc2, hpn, hb⟩ := hB
  simp only [] at cL hbad ⊢
  have CL := show Hid (Calls Tryd.prog 41 #[.slice p l.length c] w fun e w' => e = .returned (.tuple #[.int .u64 (x : Int), .int .i64 (n : Int), .int .i64 (er : Int)]) ∧ w' = w) from cL
  have hneq : ((er : Int) != 0) = true := by simp; omega
  clear hv hne cL hb hpn hbad
  go_enter Tryd.func16, Tryd.ntmps16
  go_wp2_with fail
  refine C.out.mono ?_
  rintro e w1 ⟨rfl, rfl⟩
  go_wp2_with fail
  refine CL.out.mono ?_
  rintro e w2 ⟨rfl, rfl⟩
  go_wp2
  go_ret2
  exact ⟨rfl, rfl⟩
set_option maxRecDepth 100000 in
set_option maxHeartbeats 1000000 in
theorem rText_long (w : World) (pr : Nat) (l : List UInt8) (h : Rd w pr l) (hok : (Oct.lead l).2.2 = 0) (hx : 65536 < (Oct.lead l).1) :
    Calls Tryd.prog 16 #[.pointer (some ⟨pr, 0, none⟩)] w fun e w' => e = .returned (.tuple #[.string ⟨#[]⟩, .int .i64 11]) ∧ w' = w := by
  obtain ⟨v, t, ht, hv, hB, hne⟩ := h
  have h0 : w.cell? ⟨pr, 0, none⟩ = some v := by simp [World.cell?, hv]
  have h1 : w.cell? ⟨pr, 1, none⟩ = some (.bool true) := by simp [World.cell?, hv]
  have C := show Hid (Calls Tryd.prog 40 #[.pointer (some ⟨pr, 0, none⟩)] w fun e w' => e = .returned (.bool true) ∧ w' = w) from usable_at w pr true h1
  have cL := lead_any w v l hB
  generalize Oct.lead l = ans at *
  obtain ⟨x, n, er⟩ := ans
  obtain ⟨p, c, rfl, hc1, hc2, hpn, hb⟩ := hB
  simp only [] at cL hok hx ⊢
  subst hok
  have CL := show Hid (Calls Tryd.prog 41 #[.slice p l.length c] w fun e w' => e = .returned (.tuple #[.int .u64 (x : Int), .int .i64 (n : Int), .int .i64 0]) ∧ w' = w) from cL
  clear hv hne cL hb hpn
  go_enter Tryd.func16, Tryd.ntmps16
  go_wp2_with fail
  refine C.out.mono ?_
  rintro e w1 ⟨rfl, rfl⟩
  go_wp2_with fail
  refine CL.out.mono ?_
  rintro e w2 ⟨rfl, rfl⟩
  go_wp2
  go_ret2
  exact ⟨rfl, rfl⟩
set_option maxRecDepth 100000 in
set_option maxHeartbeats 1000000 in
theorem rText_short (w : World) (pr : Nat) (l : List UInt8) (h : Rd w pr l) (hok : (Oct.lead l).2.2 = 0) (hx : (Oct.lead l).1 ≤ 65536) (hs : l.length < (Oct.lead l).2.1 + (Oct.lead l).1) :
    Calls Tryd.prog 16 #[.pointer (some ⟨pr, 0, none⟩)] w fun e w' => e = .returned (.tuple #[.string ⟨#[]⟩, .int .i64 10]) ∧ w' = w := by
  obtain ⟨v, t, ht, hv, hB, hne⟩ := h
  have h0 : w.cell? ⟨pr, 0, none⟩ = some v := by simp [World.cell?, hv]
  have h1 : w.cell? ⟨pr, 1, none⟩ = some (.bool true) := by simp [World.cell?, hv]
  have C := show Hid (Calls Tryd.prog 40 #[.pointer (some ⟨pr, 0, none⟩)] w fun e w' => e = .returned (.bool true) ∧ w' = w) from usable_at w pr true h1
  have cL := lead_any w v l hB
  have hu := lead_ten l
  generalize Oct.lead l = ans at *
  obtain ⟨x, n, er⟩ := ans
  obtain ⟨p, c, rfl, hc1, hc2, hpn, hb⟩ := hB
  simp only [] at cL hok hx hs hu ⊢
  subst hok
  have CL := show Hid (Calls Tryd.prog 41 #[.slice p l.length c] w fun e w' => e = .returned (.tuple #[.int .u64 (x : Int), .int .i64 (n : Int), .int .i64 0]) ∧ w' = w) from cL
  clear hv hne cL hb hpn
  go_enter Tryd.func16, Tryd.ntmps16
  go_wp2_with fail
  refine C.out.mono ?_
  rintro e w1 ⟨rfl, rfl⟩
  go_wp2_with fail
  refine CL.out.mono ?_
  rintro e w2 ⟨rfl, rfl⟩
  go_wp2
  go_ret2
  exact ⟨rfl, rfl⟩
set_option maxRecDepth 100000 in
set_option maxHeartbeats 2000000 in
theorem rText_full (w : World) (pr : Nat) (l : List UInt8) (h : Rd w pr l) (hok : (Oct.lead l).2.2 = 0) (hx : (Oct.lead l).1 ≤ 65536) (hs : (Oct.lead l).2.1 + (Oct.lead l).1 ≤ l.length) (hT : Tabs w) :
    Calls Tryd.prog 16 #[.pointer (some ⟨pr, 0, none⟩)] w fun e w' => (Lib.validD (takeX l) = false → e = .returned (.tuple #[.string ⟨#[]⟩, .int .i64 12]) ∧ Below w.heap.size w w') ∧
      (Lib.validD (takeX l) = true → e = .returned (.tuple #[.string ⟨(takeX l).toArray⟩, .int .i64 0]) ∧ Rd w' pr (l.drop ((Oct.lead l).2.1 + (Oct.lead l).1)) ∧ ∀ B, B ≤ pr → Below B w w') := by
  obtain ⟨v, t, ht, hv, hB, hne⟩ := h
  have h0 : w.cell? ⟨pr, 0, none⟩ = some v := by simp [World.cell?, hv]
  have h1 : w.cell? ⟨pr, 1, none⟩ = some (.bool true) := by simp [World.cell?, hv]
  have hf0 : w.frozen? ⟨pr, 0, none⟩ = false := by simp [World.frozen?, hv]
  have C := show Hid (Calls Tryd.prog 40 #[.pointer (some ⟨pr, 0, none⟩)] w fun e w' => e = .returned (.bool true) ∧ w' = w) from usable_at w pr true h1
  have cL := lead_any w v l hB
  have hu := leadF_used l 0 0 hok
  have hu1 : 1 ≤ (Oct.lead l).2.1 := by have := hu.1; exact this
  clear hu
  have HX := show Hid (takeX l = (l.drop (Oct.lead l).2.1).take (Oct.lead l).1) from rfl
  generalize takeX l = X at *
  generalize Oct.lead l = ans at *
  obtain ⟨x, n, er⟩ := ans
  obtain ⟨p, c, rfl, hc1, hc2, hpn, hb⟩ := hB
  simp only [] at cL hok hx hs hu1 HX ⊢
  subst hok
  obtain ⟨b, o, rfl, hc⟩ := bytes_cell hb (by omega)
  have CL := show Hid (Calls Tryd.prog 41 #[.slice (some ⟨b, o, none⟩) l.length c] w fun e w' => e = .returned (.tuple #[.int .u64 (x : Int), .int .i64 (n : Int), .int .i64 0]) ∧ w' = w) from cL
  have HV := show Hid (w.heap[pr]? = some (.cells #[.slice (some ⟨b, o, none⟩) l.length c, .bool true] t (0, 0))) from hv
  have HC := show Hid (∀ k (hk : k < l.length), w.cell? ⟨b, o + k, none⟩ = some (.int .u8 ((l[k]).toNat : Int))) from hc
  have HNE := show Hid (b ≠ pr) from hne b rfl
  have CV := show Hid (Calls Tryd.prog 42 #[.string ⟨X.toArray⟩] w fun e w' => e = .returned (.bool (Lib.validD X)) ∧ Below w.heap.size w w') from Tryd.utf8_ValidString ⟨X.toArray⟩ w (by rw [HX.out]; simp [ByteArray.size]; omega) hT
  have hcvA : c = n → (convert 24 9 (.slice (some ⟨b, o, none⟩) x 0)).run Tryd.prog w = .ok (.string ⟨X.toArray⟩) w := fun e => by
    rw [HX.out]; exact conv_part hc n x 0 hs ⟨b, o, none⟩ (fun h => by omega)
  have hcvB : (convert 24 9 (.slice (some ⟨b, o + n, none⟩) x (c - n))).run Tryd.prog w = .ok (.string ⟨X.toArray⟩) w := by
    rw [HX.out]; exact conv_part hc n x _ hs ⟨b, o + n, none⟩ (fun h => rfl)
  have HR := show Hid (∀ w', Below w.heap.size w w' → ∀ d a, d = c - (n + x) → (¬ c = n + x → a = (⟨b, o + (n + x), none⟩ : Addr)) → a.block = b → Rd (w'.setCell ⟨pr, 0, none⟩ (.slice (some a) (l.length - (n + x)) d)) pr (l.drop (n + x)) ∧ ∀ B, B ≤ pr → Below B w (w'.setCell ⟨pr, 0, none⟩ (.slice (some a) (l.length - (n + x)) d))) from fun w' hbw d a hd ha hab => by
    have hlt := lt_of_block hv
    have hv' : w'.heap[pr]? = some (.cells #[.slice (some ⟨b, o, none⟩) l.length c, .bool true] t (0, 0)) := by rw [hbw.block pr hlt]; exact hv
    have hc' : ∀ k (hk : k < l.length), w'.cell? ⟨b, o + k, none⟩ = some (.int .u8 ((l[k]).toNat : Int)) := fun k hk => cell_later hbw (hc k hk)
    have R := rd_setCell ht hv' (IsB.drop (l := l) hc1 hc2 hc' (n + x) (l.length - (n + x)) d (by omega) rfl hd a ha) (fun k hk => by obtain rfl : a.block = k := Option.some.inj hk; rw [hab]; exact hne b rfl)
    exact ⟨R.1, fun B hB => (hbw.mono (by omega)).trans (R.2 B hB)⟩
  have HF := show Hid (∀ w', Below w.heap.size w w' → w'.cell? ⟨pr, 0, none⟩ = some (.slice (some ⟨b, o, none⟩) l.length c) ∧ w'.frozen? ⟨pr, 0, none⟩ = false) from fun w' hbw => by
    have hlt := lt_of_block hv
    have hv' : w'.heap[pr]? = some (.cells #[.slice (some ⟨b, o, none⟩) l.length c, .bool true] t (0, 0)) := by rw [hbw.block pr hlt]; exact hv
    exact ⟨by simp [World.cell?, hv'], by simp [World.frozen?, hv']⟩
  clear hv hne cL hb hpn hc hT HC HNE HV hf0
  by_cases hcn : c = n
  · have hA := hcvA hcn
    clear hcvA hcvB
    subst hcn
    go_enter Tryd.func16, Tryd.ntmps16
    go_wp2_with fail
    refine C.out.mono ?_
    rintro e w1 ⟨rfl, rfl⟩
    go_wp2_with fail
    refine CL.out.mono ?_
    rintro e w2 ⟨rfl, rfl⟩
    go_wp2_with fail
    refine CV.out.mono ?_
    rintro e w3 ⟨rfl, hb3⟩
    have hf3 := (HF.out w3 hb3).1
    have hg3 := (HF.out w3 hb3).2
    have HB3 := show Hid (Below w2.heap.size w2 w3) from hb3
    clear hb3
    cases hV : Lib.validD X with
    | false =>
      go_wp2
      go_ret2
      exact ⟨fun _ => ⟨rfl, HB3.out⟩, fun h => absurd (hV.symm.trans h) (by decide)⟩
    | true =>
      go_wp2
      go_ret2
      have hx0 : x = 0 := by omega
      exact ⟨fun h => absurd (hV.symm.trans h) (by decide), fun _ => ⟨rfl, HR.out w3 HB3.out 0 ⟨b, o, none⟩ (by omega) (fun h => absurd (by omega) h) rfl⟩⟩
  · clear hcvA
    go_enter Tryd.func16, Tryd.ntmps16
    go_wp2_with fail
    refine C.out.mono ?_
    rintro e w1 ⟨rfl, rfl⟩
    go_wp2_with fail
    refine CL.out.mono ?_
    rintro e w2 ⟨rfl, rfl⟩
    go_wp2_with fail
    refine CV.out.mono ?_
    rintro e w3 ⟨rfl, hb3⟩
    have hf3 := (HF.out w3 hb3).1
    have hg3 := (HF.out w3 hb3).2
    have HB3 := show Hid (Below w2.heap.size w2 w3) from hb3
    clear hb3
    cases hV : Lib.validD X with
    | false =>
      go_wp2
      go_ret2
      exact ⟨fun _ => ⟨rfl, HB3.out⟩, fun h => absurd (hV.symm.trans h) (by decide)⟩
    | true =>
      go_wp2
      · go_ret2
        have hcn : c = n + x := by assumption
        first | exact ⟨fun h => absurd (hV.symm.trans h) (by decide), fun _ => ⟨rfl, HR.out w3 HB3.out 0 ⟨b, o, none⟩ (by omega) (fun h => absurd hcn h) rfl⟩⟩ | exact ⟨rfl, HR.out w3 HB3.out 0 ⟨b, o, none⟩ (by omega) (fun h => absurd hcn h) rfl⟩
      · go_ret2
        first | exact ⟨fun h => absurd (hV.symm.trans h) (by decide), fun _ => ⟨rfl, HR.out w3 HB3.out (c - (n + x)) ⟨b, o + (n + x), none⟩ rfl (fun _ => rfl) rfl⟩⟩ | exact ⟨rfl, HR.out w3 HB3.out (c - (n + x)) ⟨b, o + (n + x), none⟩ rfl (fun _ => rfl) rfl⟩
theorem rText_any (w : World) (pr : Nat) (l : List UInt8) (h : Rd w pr l) (hT : Tabs w) :
    Calls Tryd.prog 16 #[.pointer (some ⟨pr, 0, none⟩)] w fun e w' => e = .returned (.tuple #[.string ⟨(takeS l).toArray⟩, .int .i64 (takeE l : Int)]) ∧ Rd w' pr (l.drop (takeN l)) ∧ ∀ B, B ≤ pr → Below B w w' := by
  by_cases h1 : (Oct.lead l).2.2 ≠ 0
  · have hE : takeE l = (Oct.lead l).2.2 := by rw [takeE, if_pos h1]
    refine (rText_bad w pr l h h1).mono ?_
    rintro e w' ⟨he, rfl⟩
    exact rText_of _ _ pr l e h _ hE h1 he (Below.refl _ _)
  · have h1' : (Oct.lead l).2.2 = 0 := by omega
    by_cases h2 : 65536 < (Oct.lead l).1
    · have hE : takeE l = 11 := by rw [takeE, if_neg h1, if_pos h2]
      refine (rText_long w pr l h h1' h2).mono ?_
      rintro e w' ⟨he, rfl⟩
      exact rText_of _ _ pr l e h _ hE (by decide) he (Below.refl _ _)
    · by_cases h3 : l.length < (Oct.lead l).2.1 + (Oct.lead l).1
      · have hE : takeE l = 10 := by rw [takeE, if_neg h1, if_neg h2, if_pos h3]
        refine (rText_short w pr l h h1' (by omega) h3).mono ?_
        rintro e w' ⟨he, rfl⟩
        exact rText_of _ _ pr l e h _ hE (by decide) he (Below.refl _ _)
      · refine (rText_full w pr l h h1' (by omega) (by omega) hT).mono ?_
        rintro e w' ⟨hno, hyes⟩
        cases hV : Lib.validD (takeX l) with
        | false =>
          have hE : takeE l = 12 := by rw [takeE, if_neg h1, if_neg h2, if_neg h3, if_pos hV]
          obtain ⟨he, hb⟩ := hno hV
          exact rText_of _ _ pr l e h _ hE (by decide) he hb
        | true =>
          have hE : takeE l = 0 := by rw [takeE, if_neg h1, if_neg h2, if_neg h3, if_neg (by rw [hV]; decide)]
          obtain ⟨he, hb⟩ := hyes hV
          rw [takeS, takeN, if_pos hE, if_pos hE, hE]
          exact ⟨he, hb⟩
end Go.Proofs.YthmfgoclkioncaaDoor
