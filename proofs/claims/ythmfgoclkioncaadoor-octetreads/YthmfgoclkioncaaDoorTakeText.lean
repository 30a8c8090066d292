/-
  The document's call TakeText: the text at the beginning of a row of bytes, how many bytes it takes, the error: for every row of bytes.
-/
import Derived.Test.YthmfgoclkioncaaDoorTakeNum
import Derived.Test.YthmfgoclkioncaaDoorReadText
import Derived.Test.YthmfgoclkioncaaDoorIsText
namespace Go.Proofs.YthmfgoclkioncaaDoor
open Go.RowKit

set_option maxRecDepth 100000 in
set_option maxHeartbeats 1000000 in
theorem ttext_bad (w : World) (v : Value) (l : List UInt8) (hB : IsB w v l) (hbad : (Oct.lead l).2.2 ≠ 0) :
    Calls Tryd.prog 17 #[v] w fun e w' => e = .returned (.tuple #[.string ⟨#[]⟩, .int .i64 0, .int .i64 ((Oct.lead l).2.2 : Int)]) ∧ w' = w := by
  have cL := tnum_any w v l hB
  generalize Oct.lead l = ans at *
  obtain ⟨x, n, er⟩ := ans
  obtain ⟨p, c, rfl, hc1, hc2, hpn, hb⟩ := hB
  simp only [] at cL hbad ⊢
  have CL := show Hid (Calls Tryd.prog 15 #[.slice p l.length c] w fun e w' => e = .returned (.tuple #[.int .u64 (x : Int), .int .i64 (n : Int), .int .i64 (er : Int)]) ∧ w' = w) from cL
  have hneq : ((er : Int) != 0) = true := by simp; omega
  clear cL hb hpn hbad
  go_enter Tryd.func17, Tryd.ntmps17
  go_wp2_with fail
  refine CL.out.mono ?_
  rintro e w2 ⟨rfl, rfl⟩
  go_wp2
  go_ret3
  exact ⟨rfl, rfl⟩
set_option maxRecDepth 100000 in
set_option maxHeartbeats 1000000 in
theorem ttext_long (w : World) (v : Value) (l : List UInt8) (hB : IsB w v l) (hok : (Oct.lead l).2.2 = 0) (hx : 65536 < (Oct.lead l).1) :
    Calls Tryd.prog 17 #[v] w fun e w' => e = .returned (.tuple #[.string ⟨#[]⟩, .int .i64 0, .int .i64 11]) ∧ w' = w := by
  have cL := tnum_any w v l hB
  generalize Oct.lead l = ans at *
  obtain ⟨x, n, er⟩ := ans
  obtain ⟨p, c, rfl, hc1, hc2, hpn, hb⟩ := hB
  simp only [] at cL hok hx ⊢
  subst hok
  have CL := show Hid (Calls Tryd.prog 15 #[.slice p l.length c] w fun e w' => e = .returned (.tuple #[.int .u64 (x : Int), .int .i64 (n : Int), .int .i64 0]) ∧ w' = w) from cL
  clear cL hb hpn
  go_enter Tryd.func17, Tryd.ntmps17
  go_wp2_with fail
  refine CL.out.mono ?_
  rintro e w2 ⟨rfl, rfl⟩
  go_wp2
  go_ret3
  exact ⟨rfl, rfl⟩
set_option maxRecDepth 100000 in
set_option maxHeartbeats 1000000 in
theorem ttext_short (w : World) (v : Value) (l : List UInt8) (hB : IsB w v l) (hok : (Oct.lead l).2.2 = 0) (hx : (Oct.lead l).1 ≤ 65536) (hs : l.length < (Oct.lead l).2.1 + (Oct.lead l).1) :
    Calls Tryd.prog 17 #[v] w fun e w' => e = .returned (.tuple #[.string ⟨#[]⟩, .int .i64 0, .int .i64 10]) ∧ w' = w := by
  have cL := tnum_any w v l hB
  have hu := leadF_used l 0 0 hok
  have hu2 : (Oct.lead l).2.1 ≤ l.length := by have := hu.2; rw [Nat.zero_add] at this; exact this
  clear hu
  generalize Oct.lead l = ans at *
  obtain ⟨x, n, er⟩ := ans
  obtain ⟨p, c, rfl, hc1, hc2, hpn, hb⟩ := hB
  simp only [] at cL hok hx hs hu2 ⊢
  subst hok
  have CL := show Hid (Calls Tryd.prog 15 #[.slice p l.length c] w fun e w' => e = .returned (.tuple #[.int .u64 (x : Int), .int .i64 (n : Int), .int .i64 0]) ∧ w' = w) from cL
  clear cL hb hpn
  go_enter Tryd.func17, Tryd.ntmps17
  go_wp2_with fail
  refine CL.out.mono ?_
  rintro e w2 ⟨rfl, rfl⟩
  go_wp2
  go_ret3
  exact ⟨rfl, rfl⟩
set_option maxRecDepth 100000 in
set_option maxHeartbeats 2000000 in
theorem ttext_full (w : World) (v : Value) (l : List UInt8) (hB : IsB w v l) (hok : (Oct.lead l).2.2 = 0) (hx : (Oct.lead l).1 ≤ 65536) (hs : (Oct.lead l).2.1 + (Oct.lead l).1 ≤ l.length) :
    Calls Tryd.prog 17 #[v] w fun e w' => (Lib.validD (takeX l) = false → e = .returned (.tuple #[.string ⟨#[]⟩, .int .i64 0, .int .i64 12])) ∧
      (Lib.validD (takeX l) = true → e = .returned (.tuple #[.string ⟨(takeX l).toArray⟩, .int .i64 (((Oct.lead l).2.1 : Int) + ((Oct.lead l).1 : Int)), .int .i64 0])) ∧ w' = w := by
  have cL := tnum_any w v l hB
  have hu := leadF_used l 0 0 hok
  have hu1 : 1 ≤ (Oct.lead l).2.1 := by have := hu.1; exact this
  clear hu
  have HX := show Hid (takeX l = (l.drop (Oct.lead l).2.1).take (Oct.lead l).1) from rfl
  generalize takeX l = X at *
  generalize Oct.lead l = ans at *
  obtain ⟨x, n, er⟩ := ans
  obtain ⟨p, c, rfl, hc1, hc2, hpn, hb⟩ := hB
  simp only [] at cL hok hx hs hu1 HX ⊢
  subst hok
  obtain ⟨b, o, rfl, hc⟩ := bytes_cell hb (by omega)
  have CL := show Hid (Calls Tryd.prog 15 #[.slice (some ⟨b, o, none⟩) l.length c] w fun e w' => e = .returned (.tuple #[.int .u64 (x : Int), .int .i64 (n : Int), .int .i64 0]) ∧ w' = w) from cL
  have CV := show Hid (Calls Tryd.prog 43 #[.string ⟨X.toArray⟩] w fun e w' => e = .returned (.bool (Lib.validD X)) ∧ w' = w) from isText_any w ⟨X.toArray⟩ (by rw [HX.out]; simp [ByteArray.size]; omega)
  have hcvA : c = n → (convert 24 9 (.slice (some ⟨b, o, none⟩) x 0)).run Tryd.prog w = .ok (.string ⟨X.toArray⟩) w := fun e => by
    rw [HX.out]; exact conv_part hc n x 0 hs ⟨b, o, none⟩ (fun h => by omega)
  have hcvB : (convert 24 9 (.slice (some ⟨b, o + n, none⟩) x (c - n))).run Tryd.prog w = .ok (.string ⟨X.toArray⟩) w := by
    rw [HX.out]; exact conv_part hc n x _ hs ⟨b, o + n, none⟩ (fun h => rfl)
  clear cL hb hpn hc
  by_cases hcn : c = n
  · have hA := hcvA hcn
    clear hcvA hcvB
    subst hcn
    go_enter Tryd.func17, Tryd.ntmps17
    go_wp2_with fail
    refine CL.out.mono ?_
    rintro e w2 ⟨rfl, rfl⟩
    go_wp2_with fail
    refine CV.out.mono ?_
    rintro e w3 ⟨rfl, rfl⟩
    cases hV : Lib.validD X with
    | false =>
      go_wp2
      go_ret3
      exact ⟨fun _ => rfl, fun h => absurd (hV.symm.trans h) (by decide), rfl⟩
    | true =>
      go_wp2
      go_ret3
      exact ⟨fun h => absurd (hV.symm.trans h) (by decide), fun _ => rfl, rfl⟩
  · clear hcvA
    go_enter Tryd.func17, Tryd.ntmps17
    go_wp2_with fail
    refine CL.out.mono ?_
    rintro e w2 ⟨rfl, rfl⟩
    go_wp2_with fail
    refine CV.out.mono ?_
    rintro e w3 ⟨rfl, rfl⟩
    cases hV : Lib.validD X with
    | false =>
      go_wp2
      go_ret3
      exact ⟨fun _ => rfl, fun h => absurd (hV.symm.trans h) (by decide), rfl⟩
    | true =>
      go_wp2
      go_ret3
      exact ⟨fun h => absurd (hV.symm.trans h) (by decide), fun _ => rfl, rfl⟩
theorem ttext_of (w w' : World) (l : List UInt8) (e : Ending) (E : Nat) (hE : takeE l = E) (h0 : E ≠ 0) (he : e = .returned (.tuple #[.string ⟨#[]⟩, .int .i64 0, .int .i64 (E : Int)])) (hb : w' = w) :
    e = .returned (.tuple #[.string ⟨(takeS l).toArray⟩, .int .i64 (takeN l : Int), .int .i64 (takeE l : Int)]) ∧ w' = w := by
  have h1 : takeS l = [] := by rw [takeS, hE, if_neg h0]
  have h2 : takeN l = 0 := by rw [takeN, hE, if_neg h0]
  rw [h1, h2, hE]
  exact ⟨he, hb⟩
theorem ttext_any (w : World) (v : Value) (l : List UInt8) (h : IsB w v l) :
    Calls Tryd.prog 17 #[v] w fun e w' => e = .returned (.tuple #[.string ⟨(takeS l).toArray⟩, .int .i64 (takeN l : Int), .int .i64 (takeE l : Int)]) ∧ w' = w := by
  by_cases h1 : (Oct.lead l).2.2 ≠ 0
  · have hE : takeE l = (Oct.lead l).2.2 := by rw [takeE, if_pos h1]
    exact (ttext_bad w v l h h1).mono fun e w' ⟨he, hw⟩ => ttext_of _ _ l e _ hE h1 he hw
  · have h1' : (Oct.lead l).2.2 = 0 := by omega
    by_cases h2 : 65536 < (Oct.lead l).1
    · have hE : takeE l = 11 := by rw [takeE, if_neg h1, if_pos h2]
      exact (ttext_long w v l h h1' h2).mono fun e w' ⟨he, hw⟩ => ttext_of _ _ l e _ hE (by decide) he hw
    · by_cases h3 : l.length < (Oct.lead l).2.1 + (Oct.lead l).1
      · have hE : takeE l = 10 := by rw [takeE, if_neg h1, if_neg h2, if_pos h3]
        exact (ttext_short w v l h h1' (by omega) h3).mono fun e w' ⟨he, hw⟩ => ttext_of _ _ l e _ hE (by decide) he hw
      · refine (ttext_full w v l h h1' (by omega) (by omega)).mono ?_
        rintro e w' ⟨hno, hyes, hw⟩
        cases hV : Lib.validD (takeX l) with
        | false =>
          have hE : takeE l = 12 := by rw [takeE, if_neg h1, if_neg h2, if_neg h3, if_pos hV]
          exact ttext_of _ _ l e _ hE (by decide) (hno hV) hw
        | true =>
          have hE : takeE l = 0 := by rw [takeE, if_neg h1, if_neg h2, if_neg h3, if_neg (by rw [hV]; decide)]
          rw [takeS, takeN, if_pos hE, if_pos hE, hE]
          exact ⟨hyes hV, hw⟩
end Go.Proofs.YthmfgoclkioncaaDoor
