/-
  The document's Dec and Text: for every number of the row, every set. No condition.
-/
import Derived.Test.YthkolkmcnpafiaaDoorBPars
import Derived.Test.YthkolkmcnpafiaaDoorBHeads
import Derived.Lib.SlBytesConst
import Derived.Laws.BytesString
import Derived.Laws.BytesArg
namespace Go.Proofs.YthkolkmcnpafiaaDoor
open Go.RowKit
open Bs (Ok wd)

namespace Rd
theorem ret_str {a b : ByteArray} (h : a = b) : Ending.returned (.string a) = .returned (.string b) := by rw [h]
theorem ofNat_toNat (n : Nat) : (UInt8.ofNat n).toNat = n % 256 := UInt8.toNat_ofNat'
theorem dec_small {u : Nat} (h : u < 10) : Lib.decDigits u = [UInt8.ofNat (48 + u)] := Lib.decDigits_one h
theorem dec_big {u : Nat} (h : ¬ u < 10) : Lib.decDigits u = Lib.decDigits (u / 10) ++ [UInt8.ofNat (48 + u % 10)] := by rw [Lib.decDigits, dif_neg h]
theorem dec_len : ∀ (k u : Nat), u < 10 ^ (k + 1) → (Lib.decDigits u).length ≤ k + 1
  | 0, u, h => by rw [dec_small (by omega)]; simp
  | k + 1, u, h => by
    by_cases hu : u < 10
    · rw [dec_small hu]; simp
    · rw [dec_big hu, List.length_append]
      have := dec_len k (u / 10) (by rw [Nat.pow_succ] at h; exact Nat.div_lt_of_lt_mul (by omega))
      simp; omega
theorem dec_pos : ∀ (u : Nat), 1 ≤ (Lib.decDigits u).length := by
  intro u
  by_cases hu : u < 10
  · rw [dec_small hu]; simp
  · rw [dec_big hu, List.length_append]; simp
/-- What is still to be put ahead. -/
def front (u : Nat) : List UInt8 := if u = 0 then [] else Lib.decDigits u
theorem front_step (u : Nat) : front (u / 10) ++ [UInt8.ofNat (48 + u % 10)] = Lib.decDigits u := by
  by_cases hu : u < 10
  · rw [dec_small hu, front, if_pos (by omega), Nat.mod_eq_of_lt hu]; rfl
  · rw [dec_big hu, front, if_neg (by omega)]
def DecRel (U u : Nat) (bs : List UInt8) : Prop := (bs = [] ∧ u = U) ∨ (bs ≠ [] ∧ front u ++ bs = Lib.decDigits U)
theorem DecRel.step {U u : Nat} {bs : List UInt8} (h : DecRel U u bs) (hgo : 0 < u ∨ bs = []) : DecRel U (u / 10) (UInt8.ofNat (48 + u % 10) :: bs) := by
  refine Or.inr ⟨by simp, ?_⟩
  rcases h with ⟨rfl, rfl⟩ | ⟨hne, he⟩
  · exact front_step u
  · have hu : u ≠ 0 := by
      rcases hgo with h | h
      · omega
      · exact absurd h hne
    rw [front, if_neg hu, ← front_step u] at he
    simpa using he
theorem DecRel.len {U u : Nat} {bs : List UInt8} (h : DecRel U u bs) (hU : U < 18446744073709551616) : bs.length ≤ 20 := by
  rcases h with ⟨rfl, _⟩ | ⟨_, he⟩
  · simp
  · have := dec_len 19 U (by omega)
    rw [← he, List.length_append] at this
    omega
theorem DecRel.fin {U : Nat} {bs : List UInt8} (h : DecRel U 0 bs) (hne : bs ≠ []) : bs = Lib.decDigits U := by
  rcases h with ⟨h, _⟩ | ⟨_, he⟩
  · exact absurd h hne
  · simpa [front] using he
def emptyOf : Value → Nat
  | .string b => if b.data.toList = [] then 1 else 0
  | _ => 0
theorem conv_one (w : World) (d : UInt8) (x : Int) (hx : x = (d.toNat : Int)) : (convert 60 9 (.slice (some ⟨w.heap.size, 0, none⟩) 1 1)).run Tryd.prog (w.alloc (.cells #[.int .u8 x] 5)) = .ok (.string ⟨#[d]⟩) (w.alloc (.cells #[.int .u8 x] 5)) := by
  subst hx
  have hl : (loadCells ⟨w.heap.size, 0, none⟩ 1).run Tryd.prog (w.alloc (.cells #[.int .u8 (d.toNat : Int)] 5)) = .ok ([(d.toNat : Int)].map (Value.int .u8)).toArray (w.alloc (.cells #[.int .u8 (d.toNat : Int)] 5)) := by
    have := run_loadCells_list (P := Tryd.prog) (w.alloc (.cells #[.int .u8 (d.toNat : Int)] 5)) ⟨w.heap.size, 0, none⟩ [.int .u8 (d.toNat : Int)] (fun j v hv => by
      have hadd : (⟨w.heap.size, 0, none⟩ : Addr).add j = ⟨w.heap.size, j, none⟩ := by unfold Addr.add; split <;> simp_all
      rw [hadd, World.cell?_alloc_new]
      simpa using hv)
    simpa using this
  rw [run_convert_bytes_string _ _ _ _ _ _ _ Tryd.underlying60 Tryd.underlying5 Tryd.underlying9, run_bytesToString _ _ 1 1 [(d.toNat : Int)] hl]
  simp
  rfl
theorem add_data (a b : ByteArray) : (a ++ b).data.toList = a.data.toList ++ b.data.toList := by simp [ByteArray.data_append]
set_option maxRecDepth 100000 in
set_option maxHeartbeats 4000000 in
theorem rdec_loop (w : World) (n : Int) (U : Nat) (sg : List UInt8) (hU : U < 18446744073709551616)
    (hcase : (n < 0 ∧ IntKind.u64.wrap (-IntKind.u64.wrap n) = (U : Int) ∧ sg = [45]) ∨ (0 ≤ n ∧ IntKind.u64.wrap n = (U : Int) ∧ sg = [])) :
    Calls Tryd.prog 54 #[.int .i64 n] w fun e w' => e = .returned (.string ⟨(sg ++ Lib.decDigits U).toArray⟩) ∧ Below w.heap.size w w' := by
  have HUL := show Hid (U < 18446744073709551616) from hU
  clear hU
  rcases hcase with ⟨hn, hw, hsg⟩ | ⟨hn, hw, hsg⟩
  · have hd : decide (n < 0) = true := by simpa using hn
    have HSG := show Hid (∀ b : ByteArray, b.data.toList = Lib.decDigits U → (⟨#[45]⟩ ++ b : ByteArray) = ⟨(sg ++ Lib.decDigits U).toArray⟩) from fun b hb => by
      rw [hsg, ← hb]
      cases b
      simp [ByteArray.ext_iff, ByteArray.data_append]
    clear hsg
    go_enter Tryd.func54, Tryd.ntmps54
    go_wp2
    go_loopw [3, 5] (fun uV sV wr => ∃ (u : Nat) (b : ByteArray), uV = .int .u64 (u : Int) ∧ sV = .string b ∧ Hid (u < 18446744073709551616) ∧ Hid (DecRel U u b.data.toList) ∧ Below w.heap.size w wr) (fun uV sV _ => (intOf uV).toNat + emptyOf sV)
    case atStart => exact ⟨U, ⟨#[]⟩, rfl, rfl, HUL, Or.inl ⟨rfl, rfl⟩, Below.refl _ _⟩
    case round =>
      obtain ⟨u, b, rfl, rfl, HU, HD, hbel⟩ := hrel
      have hbl := HD.out.len HUL.out
      have hbs : b.size ≤ 20 := hbl
      have hsize := hbel.size
      clear hbl
      have HNX := show Hid (IntKind.u64.wrap ((u : Int) / 10) = ((u / 10 : Nat) : Int)) from by
        show IntKind.u64.wrap ((u : Int) / 10) = ((u / 10 : Nat) : Int)
        have := HU.out
        rw [IntKind.wrap_u64, Int.emod_eq_of_lt (by omega) (by omega)]
        simp
      obtain ⟨d, hdd⟩ : ∃ d, d = UInt8.ofNat (48 + u % 10) := ⟨_, rfl⟩
      have hcv := conv_one wr d (48 + (u : Int) % 10) (by rw [hdd, ofNat_toNat, Nat.mod_eq_of_lt (by omega)]; simp)
      have HDD := show Hid (d = UInt8.ofNat (48 + u % 10)) from hdd
      clear hdd
      have HB2 := show Hid (Below w.heap.size w (wr.alloc (.cells #[.int .u8 (48 + (u : Int) % 10)] 5))) from hbel.alloc hsize _
      by_cases hu0 : 0 < u
      · have HD2 := show Hid (DecRel U (u / 10) (⟨#[d]⟩ ++ b : ByteArray).data.toList) from by
          show DecRel U (u / 10) (⟨#[d]⟩ ++ b : ByteArray).data.toList
          rw [add_data, HDD.out]
          exact HD.out.step (Or.inl hu0)
        clear HD
        go_wp2
        go_roundw
        case rel => exact ⟨u / 10, _, val_int HNX.out, rfl, show u / 10 < 18446744073709551616 from by have := HU.out; omega, HD2, HB2.out⟩
        case measure =>
          have e0 : emptyOf (.string (⟨#[d]⟩ ++ b)) = 0 := by simp [emptyOf]
          rw [HNX.out]
          simp only [intOf]
          rw [e0]
          omega
      · have hu00 : u = 0 := by omega
        by_cases hbe : b.data.toList = []
        · obtain rfl : b = ⟨#[]⟩ := by
            cases b
            simpa using hbe
          subst hu00
          have HD2 := show Hid (DecRel U (0 / 10) (⟨#[d]⟩ ++ ⟨#[]⟩ : ByteArray).data.toList) from by
            show DecRel U (0 / 10) (⟨#[d]⟩ ++ ⟨#[]⟩ : ByteArray).data.toList
            rw [add_data, HDD.out]
            exact HD.out.step (Or.inr rfl)
          have hcv0 : (convert 60 9 (.slice (some ⟨wr.heap.size, 0, none⟩) 1 1)).run Tryd.prog (wr.alloc (.cells #[.int .u8 48] 5)) = .ok (.string ⟨#[d]⟩) (wr.alloc (.cells #[.int .u8 48] 5)) := hcv
          clear HD hbe hu0 hcv
          go_wp2
          go_roundw
          case rel => exact ⟨0, _, rfl, rfl, by show (0 : Nat) < 18446744073709551616; omega, HD2, HB2.out⟩
          case measure => simp [intOf, emptyOf]
        · have hem : b.toList.isEmpty = false := by
            have : b.toList = b.data.toList := ByteArray.toList_eq b
            rw [this]
            simpa using hbe
          have HF := show Hid (b.data.toList = Lib.decDigits U) from by
            have := HD.out
            rw [hu00] at this
            exact this.fin hbe
          have HBE := show Hid (Below w.heap.size w wr) from hbel
          clear HD hu00 hbe hcv HB2 hbel
          go_wp2
          go_ret
          exact ⟨ret_str (HSG.out b HF.out), HBE.out⟩
  · have hd : decide (n < 0) = false := by simpa using hn
    have HSG := show Hid (∀ b : ByteArray, b.data.toList = Lib.decDigits U → (⟨#[]⟩ ++ b : ByteArray) = ⟨(sg ++ Lib.decDigits U).toArray⟩) from fun b hb => by
      rw [hsg, ← hb]
      cases b
      simp [ByteArray.ext_iff, ByteArray.data_append]
    clear hsg
    go_enter Tryd.func54, Tryd.ntmps54
    go_wp2
    go_loopw [3, 5] (fun uV sV wr => ∃ (u : Nat) (b : ByteArray), uV = .int .u64 (u : Int) ∧ sV = .string b ∧ Hid (u < 18446744073709551616) ∧ Hid (DecRel U u b.data.toList) ∧ Below w.heap.size w wr) (fun uV sV _ => (intOf uV).toNat + emptyOf sV)
    case atStart => exact ⟨U, ⟨#[]⟩, rfl, rfl, HUL, Or.inl ⟨rfl, rfl⟩, Below.refl _ _⟩
    case round =>
      obtain ⟨u, b, rfl, rfl, HU, HD, hbel⟩ := hrel
      have hbl := HD.out.len HUL.out
      have hbs : b.size ≤ 20 := hbl
      have hsize := hbel.size
      clear hbl
      have HNX := show Hid (IntKind.u64.wrap ((u : Int) / 10) = ((u / 10 : Nat) : Int)) from by
        show IntKind.u64.wrap ((u : Int) / 10) = ((u / 10 : Nat) : Int)
        have := HU.out
        rw [IntKind.wrap_u64, Int.emod_eq_of_lt (by omega) (by omega)]
        simp
      obtain ⟨d, hdd⟩ : ∃ d, d = UInt8.ofNat (48 + u % 10) := ⟨_, rfl⟩
      have hcv := conv_one wr d (48 + (u : Int) % 10) (by rw [hdd, ofNat_toNat, Nat.mod_eq_of_lt (by omega)]; simp)
      have HDD := show Hid (d = UInt8.ofNat (48 + u % 10)) from hdd
      clear hdd
      have HB2 := show Hid (Below w.heap.size w (wr.alloc (.cells #[.int .u8 (48 + (u : Int) % 10)] 5))) from hbel.alloc hsize _
      by_cases hu0 : 0 < u
      · have HD2 := show Hid (DecRel U (u / 10) (⟨#[d]⟩ ++ b : ByteArray).data.toList) from by
          show DecRel U (u / 10) (⟨#[d]⟩ ++ b : ByteArray).data.toList
          rw [add_data, HDD.out]
          exact HD.out.step (Or.inl hu0)
        clear HD
        go_wp2
        go_roundw
        case rel => exact ⟨u / 10, _, val_int HNX.out, rfl, show u / 10 < 18446744073709551616 from by have := HU.out; omega, HD2, HB2.out⟩
        case measure =>
          have e0 : emptyOf (.string (⟨#[d]⟩ ++ b)) = 0 := by simp [emptyOf]
          rw [HNX.out]
          simp only [intOf]
          rw [e0]
          omega
      · have hu00 : u = 0 := by omega
        by_cases hbe : b.data.toList = []
        · obtain rfl : b = ⟨#[]⟩ := by
            cases b
            simpa using hbe
          subst hu00
          have HD2 := show Hid (DecRel U (0 / 10) (⟨#[d]⟩ ++ ⟨#[]⟩ : ByteArray).data.toList) from by
            show DecRel U (0 / 10) (⟨#[d]⟩ ++ ⟨#[]⟩ : ByteArray).data.toList
            rw [add_data, HDD.out]
            exact HD.out.step (Or.inr rfl)
          have hcv0 : (convert 60 9 (.slice (some ⟨wr.heap.size, 0, none⟩) 1 1)).run Tryd.prog (wr.alloc (.cells #[.int .u8 48] 5)) = .ok (.string ⟨#[d]⟩) (wr.alloc (.cells #[.int .u8 48] 5)) := hcv
          clear HD hbe hu0 hcv
          go_wp2
          go_roundw
          case rel => exact ⟨0, _, rfl, rfl, by show (0 : Nat) < 18446744073709551616; omega, HD2, HB2.out⟩
          case measure => simp [intOf, emptyOf]
        · have hem : b.toList.isEmpty = false := by
            have : b.toList = b.data.toList := ByteArray.toList_eq b
            rw [this]
            simpa using hbe
          have HF := show Hid (b.data.toList = Lib.decDigits U) from by
            have := HD.out
            rw [hu00] at this
            exact this.fin hbe
          have HBE := show Hid (Below w.heap.size w wr) from hbel
          clear HD hu00 hbe hcv HB2 hbel
          go_wp2
          go_ret
          exact ⟨ret_str (HSG.out b HF.out), HBE.out⟩
end Rd
theorem rdec_any (w : World) (n : Nat) (h : n < 1024) : Calls Tryd.prog 54 #[.int .i64 (n : Int)] w fun e w' => e = .returned (.string (strB (Bs.dec n))) ∧ Below w.heap.size w w' :=
  Rd.rdec_loop w (n : Int) n [] (by omega) (Or.inr ⟨by omega, by rw [IntKind.wrap_u64]; omega, rfl⟩)
end Go.Proofs.YthkolkmcnpafiaaDoor
