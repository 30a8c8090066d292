/-
  The Reader's calls U8, Num and Text once more, where they answer OK, with all that they leave as it was: whatever lies in another block than the Reader's own. No other condition than those that each names.
-/
import Derived.Test.YthmfgoclkioncaaDoorReadText
namespace Go.Proofs.YthmfgoclkioncaaDoor
open Go.RowKit

/-- From w to w' only the block pr has turned, and new ones have come. -/
def RdK (w w' : World) (pr : Nat) : Prop := (∀ B, B ≤ pr → Below B w w') ∧ ∀ k, k < w.heap.size → k ≠ pr → w'.heap[k]? = w.heap[k]?
theorem rd_setCellF {w : World} {pr : Nat} {v v' : Value} {t : TypeId} {r : List UInt8} (ht : t ≠ 5) (hv : w.heap[pr]? = some (.cells #[v, .bool true] t (0, 0))) (hr : IsB w v' r) (hne : ∀ k, v'.ownBlock = some k → k ≠ pr) :
    Rd (w.setCell ⟨pr, 0, none⟩ v') pr r ∧ RdK w (w.setCell ⟨pr, 0, none⟩ v') pr := by
  refine ⟨⟨v', t, ht, ?_, ?_, hne⟩, fun B hB => (Below.refl _ _).setCell hB _, fun k _ hp => Below.heap_setCell _ _ _ _ hp⟩
  · have hlt := lt_of_block hv
    have h' : w.heap[pr] = .cells #[v, .bool true] t (0, 0) := by simpa [Array.getElem?_eq_getElem hlt] using hv
    show (w.heap.modify pr _)[pr]? = _
    rw [Array.getElem?_eq_getElem (by simpa using hlt), Array.getElem_modify_self, h']
    rfl
  · obtain ⟨p, c, rfl, h1, h2, h3, h4⟩ := hr
    refine ⟨p, c, rfl, h1, h2, h3, fun hn => ?_⟩
    obtain ⟨b, o, rfl, hc⟩ := h4 hn
    refine ⟨b, o, rfl, fun i hi => ?_⟩
    have hb : b ≠ pr := hne b rfl
    rw [World.cell?_of_block (w := w) (a := ⟨b, o + i, none⟩) (Below.heap_setCell _ _ _ _ hb)]
    exact hc i hi
set_option maxRecDepth 100000 in
set_option maxHeartbeats 1000000 in
theorem rU8_okF (w : World) (pr : Nat) (x : UInt8) (r : List UInt8) (h : Rd w pr (x :: r)) :
    Calls Tryd.prog 13 #[.pointer (some ⟨pr, 0, none⟩)] w fun e w' => e = .returned (.tuple #[.int .u8 (x.toNat : Int), .int .i64 0]) ∧ Rd w' pr r ∧ RdK w w' pr := by
  obtain ⟨v, t, ht, hv, ⟨p, c, rfl, hc1, hc2, hpn, hb⟩, hne⟩ := h
  obtain ⟨b, o, rfl, hc⟩ := bytes_cell hb (by simp)
  have hl : (x :: r).length = r.length + 1 := rfl
  have hx : w.cell? ⟨b, o, none⟩ = some (.int .u8 (x.toNat : Int)) := hc 0 (by simp)
  have h0 : w.cell? ⟨pr, 0, none⟩ = some (.slice (some ⟨b, o, none⟩) (r.length + 1) c) := by simp [World.cell?, hv]
  have h1 : w.cell? ⟨pr, 1, none⟩ = some (.bool true) := by simp [World.cell?, hv]
  have hf0 : w.frozen? ⟨pr, 0, none⟩ = false := by simp [World.frozen?, hv]
  have C := show Hid (Calls Tryd.prog 40 #[.pointer (some ⟨pr, 0, none⟩)] w fun e w' => e = .returned (.bool true) ∧ w' = w) from usable_at w pr true h1
  have HR := show Hid (∀ d a, d = c - 1 → (¬ c = 1 → a = (⟨b, o + 1, none⟩ : Addr)) → a.block = b → Rd (w.setCell ⟨pr, 0, none⟩ (.slice (some a) r.length d)) pr r ∧ RdK w (w.setCell ⟨pr, 0, none⟩ (.slice (some a) r.length d)) pr) from fun d a hd ha hab =>
    rd_setCellF ht hv (IsB.drop (l := x :: r) hc1 hc2 hc 1 r.length d (by simp) (by simp) hd a ha) (fun k hk => by obtain rfl : a.block = k := Option.some.inj hk; rw [hab]; exact hne b rfl)
  rw [hl] at hc1
  clear hv hne hb hpn hc hl
  go_enter Tryd.func13, Tryd.ntmps13
  go_wp2_with fail
  refine C.out.mono ?_
  rintro e w1 ⟨rfl, rfl⟩
  go_wp2
  · go_ret2
    have hcn : c = 1 := by assumption
    exact ⟨rfl, HR.out 0 ⟨b, o, none⟩ (by omega) (fun h => absurd hcn h) rfl⟩
  · go_ret2
    exact ⟨rfl, HR.out (c - 1) ⟨b, o + 1, none⟩ rfl (fun _ => rfl) rfl⟩
set_option maxRecDepth 100000 in
set_option maxHeartbeats 1000000 in
theorem rNum_okF (w : World) (pr : Nat) (l : List UInt8) (h : Rd w pr l) (hok : (Oct.lead l).2.2 = 0) :
    Calls Tryd.prog 14 #[.pointer (some ⟨pr, 0, none⟩)] w fun e w' => e = .returned (.tuple #[.int .u64 ((Oct.lead l).1 : Int), .int .i64 0]) ∧ Rd w' pr (l.drop (Oct.lead l).2.1) ∧ RdK w w' pr := by
  obtain ⟨v, t, ht, hv, hB, hne⟩ := h
  have h0 : w.cell? ⟨pr, 0, none⟩ = some v := by simp [World.cell?, hv]
  have h1 : w.cell? ⟨pr, 1, none⟩ = some (.bool true) := by simp [World.cell?, hv]
  have hf0 : w.frozen? ⟨pr, 0, none⟩ = false := by simp [World.frozen?, hv]
  have C := show Hid (Calls Tryd.prog 40 #[.pointer (some ⟨pr, 0, none⟩)] w fun e w' => e = .returned (.bool true) ∧ w' = w) from usable_at w pr true h1
  have cL := lead_any w v l hB
  have hu := leadF_used l 0 0 hok
  have hu1 : 1 ≤ (Oct.lead l).2.1 := by have := hu.1; exact this
  have hu2 : (Oct.lead l).2.1 ≤ l.length := by have := hu.2; rw [Nat.zero_add] at this; exact this
  clear hu
  generalize Oct.lead l = ans at *
  obtain ⟨x, n, er⟩ := ans
  obtain ⟨p, c, rfl, hc1, hc2, hpn, hb⟩ := hB
  simp only [] at cL hok hu1 hu2 ⊢
  subst hok
  obtain ⟨b, o, rfl, hc⟩ := bytes_cell hb (by omega)
  have CL := show Hid (Calls Tryd.prog 41 #[.slice (some ⟨b, o, none⟩) l.length c] w fun e w' => e = .returned (.tuple #[.int .u64 (x : Int), .int .i64 (n : Int), .int .i64 0]) ∧ w' = w) from cL
  have HV := show Hid (w.heap[pr]? = some (.cells #[.slice (some ⟨b, o, none⟩) l.length c, .bool true] t (0, 0))) from hv
  have HC := show Hid (∀ k (hk : k < l.length), w.cell? ⟨b, o + k, none⟩ = some (.int .u8 ((l[k]).toNat : Int))) from hc
  have HNE := show Hid (b ≠ pr) from hne b rfl
  clear hv hne cL hb hpn hc
  go_enter Tryd.func14, Tryd.ntmps14
  go_wp2_with fail
  refine C.out.mono ?_
  rintro e w1 ⟨rfl, rfl⟩
  go_wp2_with fail
  refine CL.out.mono ?_
  rintro e w2 ⟨rfl, rfl⟩
  go_wp2
  · go_ret2
    have hcn : c = n := by assumption
    have hcn0 : 0 = c - n := by omega
    have R := rd_setCellF ht HV.out (IsB.drop hc1 hc2 HC.out n (l.length - n) 0 hu2 rfl hcn0 ⟨b, o, none⟩ (fun h => absurd (by assumption) h)) (fun k hk => by obtain rfl : b = k := Option.some.inj hk; exact HNE.out)
    exact ⟨rfl, R⟩
  · go_ret2
    have R := rd_setCellF ht HV.out (IsB.drop hc1 hc2 HC.out n (l.length - n) (c - n) hu2 rfl rfl ⟨b, o + n, none⟩ (fun _ => rfl)) (fun k hk => by obtain rfl : b = k := Option.some.inj hk; exact HNE.out)
    exact ⟨rfl, R⟩
set_option maxRecDepth 100000 in
set_option maxHeartbeats 2000000 in
theorem rText_fullF (w : World) (pr : Nat) (l : List UInt8) (h : Rd w pr l) (hok : (Oct.lead l).2.2 = 0) (hx : (Oct.lead l).1 ≤ 65536) (hs : (Oct.lead l).2.1 + (Oct.lead l).1 ≤ l.length) (hT : Tabs w) :
    Calls Tryd.prog 16 #[.pointer (some ⟨pr, 0, none⟩)] w fun e w' => (Lib.validD (takeX l) = false → e = .returned (.tuple #[.string ⟨#[]⟩, .int .i64 12]) ∧ Below w.heap.size w w') ∧
      (Lib.validD (takeX l) = true → e = .returned (.tuple #[.string ⟨(takeX l).toArray⟩, .int .i64 0]) ∧ Rd w' pr (l.drop ((Oct.lead l).2.1 + (Oct.lead l).1)) ∧ RdK w w' pr) := by
  obtain ⟨v, t, ht, hv, hB, hne⟩ := h
  have h0 : w.cell? ⟨pr, 0, none⟩ = some v := by simp [World.cell?, hv]
  have h1 : w.cell? ⟨pr, 1, none⟩ = some (.bool true) := by simp [World.cell?, hv]
  have hf0 : w.frozen? ⟨pr, 0, none⟩ = false := by simp [World.frozen?, hv]
  have C := show Hid (Calls Tryd.prog 40 #[.pointer (some ⟨pr, 0, none⟩)] w fun e w' => e = .returned (.bool true) ∧ w' = w) from usable_at w pr true h1
  have cL := lead_any w v l hB
  have hu := leadF_used l 0 0 hok
  have hu1 : 1 ≤ (Oct.lead l).2.1 := by have := hu.1; exact this
  clear hu
  have HX := show Hid (takeX l = (l.drop (Oct.lead l).2.1).take (Oct.lead l).1) from rfl
  generalize takeX l = X at *
  generalize Oct.lead l = ans at *
  obtain ⟨x, n, er⟩ := ans
  obtain ⟨p, c, rfl, hc1, hc2, hpn, hb⟩ := hB
  simp only [] at cL hok hx hs hu1 HX ⊢
  subst hok
  obtain ⟨b, o, rfl, hc⟩ := bytes_cell hb (by omega)
  have CL := show Hid (Calls Tryd.prog 41 #[.slice (some ⟨b, o, none⟩) l.length c] w fun e w' => e = .returned (.tuple #[.int .u64 (x : Int), .int .i64 (n : Int), .int .i64 0]) ∧ w' = w) from cL
  have HV := show Hid (w.heap[pr]? = some (.cells #[.slice (some ⟨b, o, none⟩) l.length c, .bool true] t (0, 0))) from hv
  have HC := show Hid (∀ k (hk : k < l.length), w.cell? ⟨b, o + k, none⟩ = some (.int .u8 ((l[k]).toNat : Int))) from hc
  have HNE := show Hid (b ≠ pr) from hne b rfl
  have CV := show Hid (Calls Tryd.prog 42 #[.string ⟨X.toArray⟩] w fun e w' => e = .returned (.bool (Lib.validD X)) ∧ Below w.heap.size w w') from Tryd.utf8_ValidString ⟨X.toArray⟩ w (by rw [HX.out]; simp [ByteArray.size]; omega) hT
  have hcvA : c = n → (convert 24 9 (.slice (some ⟨b, o, none⟩) x 0)).run Tryd.prog w = .ok (.string ⟨X.toArray⟩) w := fun e => by
    rw [HX.out]; exact conv_part hc n x 0 hs ⟨b, o, none⟩ (fun h => by omega)
  have hcvB : (convert 24 9 (.slice (some ⟨b, o + n, none⟩) x (c - n))).run Tryd.prog w = .ok (.string ⟨X.toArray⟩) w := by
    rw [HX.out]; exact conv_part hc n x _ hs ⟨b, o + n, none⟩ (fun h => rfl)
  have HR := show Hid (∀ w', Below w.heap.size w w' → ∀ d a, d = c - (n + x) → (¬ c = n + x → a = (⟨b, o + (n + x), none⟩ : Addr)) → a.block = b → Rd (w'.setCell ⟨pr, 0, none⟩ (.slice (some a) (l.length - (n + x)) d)) pr (l.drop (n + x)) ∧ RdK w (w'.setCell ⟨pr, 0, none⟩ (.slice (some a) (l.length - (n + x)) d)) pr) from fun w' hbw d a hd ha hab => by
    have hlt := lt_of_block hv
    have hv' : w'.heap[pr]? = some (.cells #[.slice (some ⟨b, o, none⟩) l.length c, .bool true] t (0, 0)) := by rw [hbw.block pr hlt]; exact hv
    have hc' : ∀ k (hk : k < l.length), w'.cell? ⟨b, o + k, none⟩ = some (.int .u8 ((l[k]).toNat : Int)) := fun k hk => cell_later hbw (hc k hk)
    have R := rd_setCellF ht hv' (IsB.drop (l := l) hc1 hc2 hc' (n + x) (l.length - (n + x)) d (by omega) rfl hd a ha) (fun k hk => by obtain rfl : a.block = k := Option.some.inj hk; rw [hab]; exact hne b rfl)
    have hsz := hbw.size
    exact ⟨R.1, fun B hB => (hbw.mono (by omega)).trans (R.2.1 B hB), fun k hk hp => by rw [R.2.2 k (by omega) hp, hbw.block k hk]⟩
  have HF := show Hid (∀ w', Below w.heap.size w w' → w'.cell? ⟨pr, 0, none⟩ = some (.slice (some ⟨b, o, none⟩) l.length c) ∧ w'.frozen? ⟨pr, 0, none⟩ = false) from fun w' hbw => by
    have hlt := lt_of_block hv
    have hv' : w'.heap[pr]? = some (.cells #[.slice (some ⟨b, o, none⟩) l.length c, .bool true] t (0, 0)) := by rw [hbw.block pr hlt]; exact hv
    exact ⟨by simp [World.cell?, hv'], by simp [World.frozen?, hv']⟩
  clear hv hne cL hb hpn hc hT HC HNE HV hf0
  by_cases hcn : c = n
  · have hA := hcvA hcn
    clear hcvA hcvB
    subst hcn
    go_enter Tryd.func16, Tryd.ntmps16
    go_wp2_with fail
    refine C.out.mono ?_
    rintro e w1 ⟨rfl, rfl⟩
    go_wp2_with fail
    refine CL.out.mono ?_
    rintro e w2 ⟨rfl, rfl⟩
    go_wp2_with fail
    refine CV.out.mono ?_
    rintro e w3 ⟨rfl, hb3⟩
    have hf3 := (HF.out w3 hb3).1
    have hg3 := (HF.out w3 hb3).2
    have HB3 := show Hid (Below w2.heap.size w2 w3) from hb3
    clear hb3
    cases hV : Lib.validD X with
    | false =>
      go_wp2
      go_ret2
      exact ⟨fun _ => ⟨rfl, HB3.out⟩, fun h => absurd (hV.symm.trans h) (by decide)⟩
    | true =>
      go_wp2
      go_ret2
      have hx0 : x = 0 := by omega
      exact ⟨fun h => absurd (hV.symm.trans h) (by decide), fun _ => ⟨rfl, HR.out w3 HB3.out 0 ⟨b, o, none⟩ (by omega) (fun h => absurd (by omega) h) rfl⟩⟩
  · clear hcvA
    go_enter Tryd.func16, Tryd.ntmps16
    go_wp2_with fail
    refine C.out.mono ?_
    rintro e w1 ⟨rfl, rfl⟩
    go_wp2_with fail
    refine CL.out.mono ?_
    rintro e w2 ⟨rfl, rfl⟩
    go_wp2_with fail
    refine CV.out.mono ?_
    rintro e w3 ⟨rfl, hb3⟩
    have hf3 := (HF.out w3 hb3).1
    have hg3 := (HF.out w3 hb3).2
    have HB3 := show Hid (Below w2.heap.size w2 w3) from hb3
    clear hb3
    cases hV : Lib.validD X with
    | false =>
      go_wp2
      go_ret2
      exact ⟨fun _ => ⟨rfl, HB3.out⟩, fun h => absurd (hV.symm.trans h) (by decide)⟩
    | true =>
      go_wp2
      · go_ret2
        have hcn : c = n + x := by assumption
        first | exact ⟨fun h => absurd (hV.symm.trans h) (by decide), fun _ => ⟨rfl, HR.out w3 HB3.out 0 ⟨b, o, none⟩ (by omega) (fun h => absurd hcn h) rfl⟩⟩ | exact ⟨rfl, HR.out w3 HB3.out 0 ⟨b, o, none⟩ (by omega) (fun h => absurd hcn h) rfl⟩
      · go_ret2
        first | exact ⟨fun h => absurd (hV.symm.trans h) (by decide), fun _ => ⟨rfl, HR.out w3 HB3.out (c - (n + x)) ⟨b, o + (n + x), none⟩ rfl (fun _ => rfl) rfl⟩⟩ | exact ⟨rfl, HR.out w3 HB3.out (c - (n + x)) ⟨b, o + (n + x), none⟩ rfl (fun _ => rfl) rfl⟩
end Go.Proofs.YthmfgoclkioncaaDoor
