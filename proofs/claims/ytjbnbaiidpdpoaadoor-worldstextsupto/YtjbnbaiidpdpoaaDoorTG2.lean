/-
  The document's Check: of any model. No condition.
-/
import Derived.Test.YtjbnbaiidpdpoaaDoorWRight
import Derived.Lib.SlBytesConst
import Derived.Laws.BytesString
import Derived.Laws.BytesArg
namespace Go.Proofs.YtjbnbaiidpdpoaaDoor.Wm
open Go.RowKit Go.Maps
open Wd (Md allW inW names Sub Rc vl)
set_option linter.unusedSimpArgs false

set_option maxRecDepth 100000 in
set_option maxHeartbeats 2000000 in
theorem rcheck_any (w : World) {L : Nat} {uv vv : Value} {m : Md} (hm : IsM w L uv vv m) (hf : Fit m) (hL : L ≤ w.heap.size) :
    Calls Tryd.prog 25 #[.agg #[uv, vv]] w fun e w' => ∃ er : Int, e = .returned (.int .i64 er) ∧ ((Wd.Good m ∧ er = 0) ∨ (¬ Wd.Good m ∧ er = 170)) ∧ Below w.heap.size w w' := by
  obtain ⟨M, hO⟩ := isO_ex m.up
  have K := show Hid (∀ W, Below w.heap.size w W → Calls Tryd.prog 43 #[.agg #[uv, vv]] W fun e w' => ((∃ O Ra, e = .returned (.tuple #[.slice (some ⟨O, 0, none⟩) m.up.length m.up.length, .bool true]) ∧ Ob w' W.heap.size O m.up.length m.up.length Ra M ∧ Wd.Good m) ∨ (e = .returned (.tuple #[.slice none 0 0, .bool false]) ∧ ¬ Wd.Good m)) ∧ Below W.heap.size W w') from fun W hW => right_any W hO (hm.below (hW.mono hL)) hf (Nat.le_trans hL hW.size)
  clear hm hf hO
  go_enter Tryd.func25, Tryd.ntmps25
  go_wp2_with (refine wpList_box 25 _ rfl _ rfl rfl ?_)
  intro w1 b1 hN
  have HB1 := show Hid (Below w.heap.size w w1 ∧ Cl w1 b1 #[uv, vv] 25) from ⟨hN.bel, hN.blk⟩
  have K1 := show Hid _ from K.out w1 hN.bel
  clear hN K
  go_wp2_with (refine wpList_ldw 25 _ rfl b1 rfl _ _ HB1.out.2 rfl Tryd.underlying25 sizeM rfl ?_)
  go_wp2_with fail
  refine Calls.mono K1.out ?_
  rintro e w2 ⟨hr, hb2⟩
  have HB2 := show Hid (Below w.heap.size w w2) from HB1.out.1.trans (hb2.mono HB1.out.1.size)
  clear K1 hb2
  rcases hr with ⟨O, Ra, rfl, -, hg⟩ | ⟨rfl, hg⟩
  · have HG := show Hid _ from hg
    clear hg
    go_wp2_with fail
    go_ret
    exact ⟨0, rfl, Or.inl ⟨HG.out, rfl⟩, HB2.out⟩
  · have HG := show Hid _ from hg
    clear hg
    go_wp2_with fail
    go_ret
    exact ⟨170, rfl, Or.inr ⟨HG.out, rfl⟩, HB2.out⟩
end Go.Proofs.YtjbnbaiidpdpoaaDoor.Wm
/-
  The document's Dec: of every number. No condition.
-/
namespace Go.Proofs.YtjbnbaiidpdpoaaDoor.Wm
open Go.RowKit
set_option linter.unusedSimpArgs false

namespace Rd
theorem ret_str {a b : ByteArray} (h : a = b) : Ending.returned (.string a) = .returned (.string b) := by rw [h]
theorem ofNat_toNat (n : Nat) : (UInt8.ofNat n).toNat = n % 256 := UInt8.toNat_ofNat'
theorem dec_small {u : Nat} (h : u < 10) : Lib.decDigits u = [UInt8.ofNat (48 + u)] := Lib.decDigits_one h
theorem dec_big {u : Nat} (h : ¬ u < 10) : Lib.decDigits u = Lib.decDigits (u / 10) ++ [UInt8.ofNat (48 + u % 10)] := by rw [Lib.decDigits, dif_neg h]
theorem dec_len : ∀ (k u : Nat), u < 10 ^ (k + 1) → (Lib.decDigits u).length ≤ k + 1
  | 0, u, h => by rw [dec_small (by omega)]; simp
  | k + 1, u, h => by
    by_cases hu : u < 10
    · rw [dec_small hu]; simp
    · rw [dec_big hu, List.length_append]
      have := dec_len k (u / 10) (by rw [Nat.pow_succ] at h; exact Nat.div_lt_of_lt_mul (by omega))
      simp; omega
theorem dec_pos : ∀ (u : Nat), 1 ≤ (Lib.decDigits u).length := by
  intro u
  by_cases hu : u < 10
  · rw [dec_small hu]; simp
  · rw [dec_big hu, List.length_append]; simp
def front (u : Nat) : List UInt8 := if u = 0 then [] else Lib.decDigits u
theorem front_step (u : Nat) : front (u / 10) ++ [UInt8.ofNat (48 + u % 10)] = Lib.decDigits u := by
  by_cases hu : u < 10
  · rw [dec_small hu, front, if_pos (by omega), Nat.mod_eq_of_lt hu]; rfl
  · rw [dec_big hu, front, if_neg (by omega)]
def DecRel (U u : Nat) (bs : List UInt8) : Prop := (bs = [] ∧ u = U) ∨ (bs ≠ [] ∧ front u ++ bs = Lib.decDigits U)
theorem DecRel.step {U u : Nat} {bs : List UInt8} (h : DecRel U u bs) (hgo : 0 < u ∨ bs = []) : DecRel U (u / 10) (UInt8.ofNat (48 + u % 10) :: bs) := by
  refine Or.inr ⟨by simp, ?_⟩
  rcases h with ⟨rfl, rfl⟩ | ⟨hne, he⟩
  · exact front_step u
  · have hu : u ≠ 0 := by
      rcases hgo with h | h
      · omega
      · exact absurd h hne
    rw [front, if_neg hu, ← front_step u] at he
    simpa using he
theorem DecRel.len {U u : Nat} {bs : List UInt8} (h : DecRel U u bs) (hU : U < 18446744073709551616) : bs.length ≤ 20 := by
  rcases h with ⟨rfl, _⟩ | ⟨_, he⟩
  · simp
  · have := dec_len 19 U (by omega)
    rw [← he, List.length_append] at this
    omega
theorem DecRel.fin {U : Nat} {bs : List UInt8} (h : DecRel U 0 bs) (hne : bs ≠ []) : bs = Lib.decDigits U := by
  rcases h with ⟨h, _⟩ | ⟨_, he⟩
  · exact absurd h hne
  · simpa [front] using he
def emptyOf : Value → Nat
  | .string b => if b.data.toList = [] then 1 else 0
  | _ => 0
theorem conv_one (w : World) (d : UInt8) (x : Int) (hx : x = (d.toNat : Int)) : (convert 45 9 (.slice (some ⟨w.heap.size, 0, none⟩) 1 1)).run Tryd.prog (w.alloc (.cells #[.int .u8 x] 5)) = .ok (.string ⟨#[d]⟩) (w.alloc (.cells #[.int .u8 x] 5)) := by
  subst hx
  have hl : (loadCells ⟨w.heap.size, 0, none⟩ 1).run Tryd.prog (w.alloc (.cells #[.int .u8 (d.toNat : Int)] 5)) = .ok ([(d.toNat : Int)].map (Value.int .u8)).toArray (w.alloc (.cells #[.int .u8 (d.toNat : Int)] 5)) := by
    have := run_loadCells_list (P := Tryd.prog) (w.alloc (.cells #[.int .u8 (d.toNat : Int)] 5)) ⟨w.heap.size, 0, none⟩ [.int .u8 (d.toNat : Int)] (fun j v hv => by
      have hadd : (⟨w.heap.size, 0, none⟩ : Addr).add j = ⟨w.heap.size, j, none⟩ := by unfold Addr.add; split <;> simp_all
      rw [hadd, World.cell?_alloc_new]
      simpa using hv)
    simpa using this
  rw [run_convert_bytes_string _ _ _ _ _ _ _ Tryd.underlying45 Tryd.underlying5 Tryd.underlying9, run_bytesToString _ _ 1 1 [(d.toNat : Int)] hl]
  simp
  rfl
theorem add_data (a b : ByteArray) : (a ++ b).data.toList = a.data.toList ++ b.data.toList := by simp [ByteArray.data_append]
set_option maxRecDepth 100000 in
set_option maxHeartbeats 4000000 in
theorem rdec_loop (w : World) (n : Int) (U : Nat) (sg : List UInt8) (hU : U < 18446744073709551616)
    (hcase : (n < 0 ∧ IntKind.u64.wrap (-IntKind.u64.wrap n) = (U : Int) ∧ sg = [45]) ∨ (0 ≤ n ∧ IntKind.u64.wrap n = (U : Int) ∧ sg = [])) :
    Calls Tryd.prog 26 #[.int .i64 n] w fun e w' => e = .returned (.string ⟨(sg ++ Lib.decDigits U).toArray⟩) ∧ Below w.heap.size w w' := by
  have HUL := show Hid (U < 18446744073709551616) from hU
  clear hU
  rcases hcase with ⟨hn, hw, hsg⟩ | ⟨hn, hw, hsg⟩
  · have hd : decide (n < 0) = true := by simpa using hn
    have HSG := show Hid (∀ b : ByteArray, b.data.toList = Lib.decDigits U → (⟨#[45]⟩ ++ b : ByteArray) = ⟨(sg ++ Lib.decDigits U).toArray⟩) from fun b hb => by
      rw [hsg, ← hb]
      cases b
      simp [ByteArray.ext_iff, ByteArray.data_append]
    clear hsg
    go_enter Tryd.func26, Tryd.ntmps26
    go_wp2
    go_loopw [3, 5] (fun uV sV wr => ∃ (u : Nat) (b : ByteArray), uV = .int .u64 (u : Int) ∧ sV = .string b ∧ Hid (u < 18446744073709551616) ∧ Hid (DecRel U u b.data.toList) ∧ Below w.heap.size w wr) (fun uV sV _ => (intOf uV).toNat + emptyOf sV)
    case atStart => exact ⟨U, ⟨#[]⟩, rfl, rfl, HUL, Or.inl ⟨rfl, rfl⟩, Below.refl _ _⟩
    case round =>
      obtain ⟨u, b, rfl, rfl, HU, HD, hbel⟩ := hrel
      have hbl := HD.out.len HUL.out
      have hbs : b.size ≤ 20 := hbl
      have hsize := hbel.size
      clear hbl
      have HNX := show Hid (IntKind.u64.wrap ((u : Int) / 10) = ((u / 10 : Nat) : Int)) from by
        show IntKind.u64.wrap ((u : Int) / 10) = ((u / 10 : Nat) : Int)
        have := HU.out
        rw [IntKind.wrap_u64, Int.emod_eq_of_lt (by omega) (by omega)]
        simp
      obtain ⟨d, hdd⟩ : ∃ d, d = UInt8.ofNat (48 + u % 10) := ⟨_, rfl⟩
      have hcv := conv_one wr d (48 + (u : Int) % 10) (by rw [hdd, ofNat_toNat, Nat.mod_eq_of_lt (by omega)]; simp)
      have HDD := show Hid (d = UInt8.ofNat (48 + u % 10)) from hdd
      clear hdd
      have HB2 := show Hid (Below w.heap.size w (wr.alloc (.cells #[.int .u8 (48 + (u : Int) % 10)] 5))) from hbel.alloc hsize _
      by_cases hu0 : 0 < u
      · have HD2 := show Hid (DecRel U (u / 10) (⟨#[d]⟩ ++ b : ByteArray).data.toList) from by
          show DecRel U (u / 10) (⟨#[d]⟩ ++ b : ByteArray).data.toList
          rw [add_data, HDD.out]
          exact HD.out.step (Or.inl hu0)
        clear HD
        go_wp2
        go_roundw
        case rel => exact ⟨u / 10, _, val_int HNX.out, rfl, show u / 10 < 18446744073709551616 from by have := HU.out; omega, HD2, HB2.out⟩
        case measure =>
          have e0 : emptyOf (.string (⟨#[d]⟩ ++ b)) = 0 := by simp [emptyOf]
          rw [HNX.out]
          simp only [intOf]
          rw [e0]
          omega
      · have hu00 : u = 0 := by omega
        by_cases hbe : b.data.toList = []
        · obtain rfl : b = ⟨#[]⟩ := by
            cases b
            simpa using hbe
          subst hu00
          have HD2 := show Hid (DecRel U (0 / 10) (⟨#[d]⟩ ++ ⟨#[]⟩ : ByteArray).data.toList) from by
            show DecRel U (0 / 10) (⟨#[d]⟩ ++ ⟨#[]⟩ : ByteArray).data.toList
            rw [add_data, HDD.out]
            exact HD.out.step (Or.inr rfl)
          have hcv0 : (convert 45 9 (.slice (some ⟨wr.heap.size, 0, none⟩) 1 1)).run Tryd.prog (wr.alloc (.cells #[.int .u8 48] 5)) = .ok (.string ⟨#[d]⟩) (wr.alloc (.cells #[.int .u8 48] 5)) := hcv
          clear HD hbe hu0 hcv
          go_wp2
          go_roundw
          case rel => exact ⟨0, _, rfl, rfl, by show (0 : Nat) < 18446744073709551616; omega, HD2, HB2.out⟩
          case measure => simp [intOf, emptyOf]
        · have hem : b.toList.isEmpty = false := by
            have : b.toList = b.data.toList := ByteArray.toList_eq b
            rw [this]
            simpa using hbe
          have HF := show Hid (b.data.toList = Lib.decDigits U) from by
            have := HD.out
            rw [hu00] at this
            exact this.fin hbe
          have HBE := show Hid (Below w.heap.size w wr) from hbel
          clear HD hu00 hbe hcv HB2 hbel
          go_wp2
          go_ret
          exact ⟨ret_str (HSG.out b HF.out), HBE.out⟩
  · have hd : decide (n < 0) = false := by simpa using hn
    have HSG := show Hid (∀ b : ByteArray, b.data.toList = Lib.decDigits U → (⟨#[]⟩ ++ b : ByteArray) = ⟨(sg ++ Lib.decDigits U).toArray⟩) from fun b hb => by
      rw [hsg, ← hb]
      cases b
      simp [ByteArray.ext_iff, ByteArray.data_append]
    clear hsg
    go_enter Tryd.func26, Tryd.ntmps26
    go_wp2
    go_loopw [3, 5] (fun uV sV wr => ∃ (u : Nat) (b : ByteArray), uV = .int .u64 (u : Int) ∧ sV = .string b ∧ Hid (u < 18446744073709551616) ∧ Hid (DecRel U u b.data.toList) ∧ Below w.heap.size w wr) (fun uV sV _ => (intOf uV).toNat + emptyOf sV)
    case atStart => exact ⟨U, ⟨#[]⟩, rfl, rfl, HUL, Or.inl ⟨rfl, rfl⟩, Below.refl _ _⟩
    case round =>
      obtain ⟨u, b, rfl, rfl, HU, HD, hbel⟩ := hrel
      have hbl := HD.out.len HUL.out
      have hbs : b.size ≤ 20 := hbl
      have hsize := hbel.size
      clear hbl
      have HNX := show Hid (IntKind.u64.wrap ((u : Int) / 10) = ((u / 10 : Nat) : Int)) from by
        show IntKind.u64.wrap ((u : Int) / 10) = ((u / 10 : Nat) : Int)
        have := HU.out
        rw [IntKind.wrap_u64, Int.emod_eq_of_lt (by omega) (by omega)]
        simp
      obtain ⟨d, hdd⟩ : ∃ d, d = UInt8.ofNat (48 + u % 10) := ⟨_, rfl⟩
      have hcv := conv_one wr d (48 + (u : Int) % 10) (by rw [hdd, ofNat_toNat, Nat.mod_eq_of_lt (by omega)]; simp)
      have HDD := show Hid (d = UInt8.ofNat (48 + u % 10)) from hdd
      clear hdd
      have HB2 := show Hid (Below w.heap.size w (wr.alloc (.cells #[.int .u8 (48 + (u : Int) % 10)] 5))) from hbel.alloc hsize _
      by_cases hu0 : 0 < u
      · have HD2 := show Hid (DecRel U (u / 10) (⟨#[d]⟩ ++ b : ByteArray).data.toList) from by
          show DecRel U (u / 10) (⟨#[d]⟩ ++ b : ByteArray).data.toList
          rw [add_data, HDD.out]
          exact HD.out.step (Or.inl hu0)
        clear HD
        go_wp2
        go_roundw
        case rel => exact ⟨u / 10, _, val_int HNX.out, rfl, show u / 10 < 18446744073709551616 from by have := HU.out; omega, HD2, HB2.out⟩
        case measure =>
          have e0 : emptyOf (.string (⟨#[d]⟩ ++ b)) = 0 := by simp [emptyOf]
          rw [HNX.out]
          simp only [intOf]
          rw [e0]
          omega
      · have hu00 : u = 0 := by omega
        by_cases hbe : b.data.toList = []
        · obtain rfl : b = ⟨#[]⟩ := by
            cases b
            simpa using hbe
          subst hu00
          have HD2 := show Hid (DecRel U (0 / 10) (⟨#[d]⟩ ++ ⟨#[]⟩ : ByteArray).data.toList) from by
            show DecRel U (0 / 10) (⟨#[d]⟩ ++ ⟨#[]⟩ : ByteArray).data.toList
            rw [add_data, HDD.out]
            exact HD.out.step (Or.inr rfl)
          have hcv0 : (convert 45 9 (.slice (some ⟨wr.heap.size, 0, none⟩) 1 1)).run Tryd.prog (wr.alloc (.cells #[.int .u8 48] 5)) = .ok (.string ⟨#[d]⟩) (wr.alloc (.cells #[.int .u8 48] 5)) := hcv
          clear HD hbe hu0 hcv
          go_wp2
          go_roundw
          case rel => exact ⟨0, _, rfl, rfl, by show (0 : Nat) < 18446744073709551616; omega, HD2, HB2.out⟩
          case measure => simp [intOf, emptyOf]
        · have hem : b.toList.isEmpty = false := by
            have : b.toList = b.data.toList := ByteArray.toList_eq b
            rw [this]
            simpa using hbe
          have HF := show Hid (b.data.toList = Lib.decDigits U) from by
            have := HD.out
            rw [hu00] at this
            exact this.fin hbe
          have HBE := show Hid (Below w.heap.size w wr) from hbel
          clear HD hu00 hbe hcv HB2 hbel
          go_wp2
          go_ret
          exact ⟨ret_str (HSG.out b HF.out), HBE.out⟩
end Rd
theorem itoa_cases (n : Int) (h0 : -9223372036854775808 ≤ n) (h1 : n ≤ 9223372036854775807) : ∃ (U : Nat) (sg : List UInt8), U < 18446744073709551616 ∧ ((n < 0 ∧ IntKind.u64.wrap (-IntKind.u64.wrap n) = (U : Int) ∧ sg = [45]) ∨ (0 ≤ n ∧ IntKind.u64.wrap n = (U : Int) ∧ sg = [])) ∧ sg ++ Lib.decDigits U = Lib.itoa n := by
  by_cases h : n < 0
  · refine ⟨n.natAbs, [45], by omega, Or.inl ⟨h, ?_, rfl⟩, ?_⟩
    · simp only [IntKind.wrap_u64]; omega
    · unfold Lib.itoa
      rw [if_pos h]
      rfl
  · refine ⟨n.toNat, [], by omega, Or.inr ⟨by omega, ?_, rfl⟩, ?_⟩
    · simp only [IntKind.wrap_u64]; omega
    · unfold Lib.itoa
      rw [if_neg h]
      rfl
theorem rdec_any (w : World) (n : Int) (h0 : -9223372036854775808 ≤ n) (h1 : n ≤ 9223372036854775807) : Calls Tryd.prog 26 #[.int .i64 n] w fun e w' => e = .returned (.string ⟨(Lib.itoa n).toArray⟩) ∧ Below w.heap.size w w' := by
  obtain ⟨U, sg, hU, hc, he⟩ := itoa_cases n h0 h1
  rw [← he]
  exact Rd.rdec_loop w n U sg hU hc
end Go.Proofs.YtjbnbaiidpdpoaaDoor.Wm
/-
  The document's Text: of any model whose text a machine can hold. No other condition.
-/
namespace Go.Proofs.YtjbnbaiidpdpoaaDoor.Wm
open Go.RowKit Go.Maps
open Wd (Md)
set_option linter.unusedSimpArgs false

theorem ba_app (a b : ByteArray) : (a ++ b).data.toList = a.data.toList ++ b.data.toList := by simp [ByteArray.data_append]
theorem ba_size (a : ByteArray) : a.size = a.data.toList.length := rfl
theorem ba_mk (l : List UInt8) : (⟨l.toArray⟩ : ByteArray).data.toList = l := rfl
def pre1 (m : Md) (k : Nat) : List UInt8 := textTo m k ++ Lib.itoa (k : Int)
def pre2 (m : Md) (k : Nat) (row : List Int) (j : Nat) : List UInt8 := pre1 m k ++ (if row.isEmpty then [] else rowTo [32, 62] (row.map Lib.itoa) j)
def pre3 (m : Md) (k : Nat) (row : List Int) (ns : List ByteArray) (j : Nat) : List UInt8 := pre1 m k ++ rowT [32, 62] (row.map Lib.itoa) ++ (if ns.isEmpty then [] else rowTo [32, 58] (ns.map fun s => s.data.toList) j)
theorem pre2_end (m : Md) (k : Nat) (row : List Int) : pre2 m k row row.length = pre1 m k ++ rowT [32, 62] (row.map Lib.itoa) := by
  unfold pre2 rowT
  cases row with
  | nil => rfl
  | cons x r => simp [rowTo, List.take_of_length_le]
theorem pre3_none (m : Md) (k : Nat) (row : List Int) : pre3 m k row [] 0 = pre1 m k ++ rowT [32, 62] (row.map Lib.itoa) := by
  unfold pre3; simp
theorem pre3_end (m : Md) (k : Nat) (row : List Int) (ns : List ByteArray) : pre3 m k row ns ns.length ++ [10] = textTo m k ++ lineF k row ns := by
  unfold pre3 lineF pre1 rowT
  cases ns with
  | nil => simp
  | cons x r => simp [rowTo, List.take_of_length_le]
theorem pre2_step (m : Md) (k : Nat) (row : List Int) (j : Nat) (hj : j < row.length) : pre2 m k row (j + 1) = pre2 m k row j ++ [32] ++ Lib.itoa row[j] := by
  unfold pre2
  have h0 : row.isEmpty = false := by cases row with | nil => exact absurd hj (by simp) | cons => rfl
  rw [h0, if_neg (by simp), if_neg (by simp), rowTo_succ _ _ _ (by simpa using hj)]
  simp
theorem pre3_step (m : Md) (k : Nat) (row : List Int) (ns : List ByteArray) (j : Nat) (hj : j < ns.length) : pre3 m k row ns (j + 1) = pre3 m k row ns j ++ [32] ++ ns[j].data.toList := by
  unfold pre3
  have h0 : ns.isEmpty = false := by cases ns with | nil => exact absurd hj (by simp) | cons => rfl
  rw [h0, if_neg (by simp), if_neg (by simp), rowTo_succ _ _ _ (by simpa using hj)]
  simp
theorem flat_take_le (l : List (List UInt8)) (j : Nat) : ((l.take j).flatMap fun x => 32 :: x).length ≤ (l.flatMap fun x => 32 :: x).length := by
  have e : l = l.take j ++ l.drop j := (List.take_append_drop j l).symm
  conv => rhs; rw [e]
  rw [List.flatMap_append]
  simp
theorem rowTo_leA (sign : List UInt8) (l : List (List UInt8)) (j : Nat) : (rowTo sign l j).length ≤ (rowTo sign l l.length).length := by
  unfold rowTo
  rw [List.length_append, List.length_append, List.take_length]
  have := flat_take_le l j
  omega
theorem pre3_le {m : Md} {k : Nat} (hk : k < m.up.length) (j : Nat) : (pre3 m k (m.up.getD k []) (m.val.getD k []) j).length + 1 ≤ (textF m).length := by
  have h1 := textTo_le m (show k + 1 ≤ m.up.length from hk)
  rw [textTo_succ, ← pre3_end, List.length_append, List.length_singleton] at h1
  have h2 : (pre3 m k (m.up.getD k []) (m.val.getD k []) j).length ≤ (pre3 m k (m.up.getD k []) (m.val.getD k []) (m.val.getD k []).length).length := by
    unfold pre3
    split
    · exact Nat.le_refl _
    · simp only [List.length_append]
      have := rowTo_leA [32, 58] ((m.val.getD k []).map fun s => s.data.toList) j
      rw [List.length_map] at this
      omega
  exact Nat.le_trans (Nat.add_le_add_right h2 1) h1
theorem pre2_le {m : Md} {k : Nat} (hk : k < m.up.length) (j : Nat) : (pre2 m k (m.up.getD k []) j).length + 1 ≤ (textF m).length := by
  have h1 := pre3_le hk 0
  have h2 : (pre2 m k (m.up.getD k []) j).length ≤ (pre2 m k (m.up.getD k []) (m.up.getD k []).length).length := by
    unfold pre2
    split
    · exact Nat.le_refl _
    · simp only [List.length_append]
      have := rowTo_leA [32, 62] ((m.up.getD k []).map Lib.itoa) j
      rw [List.length_map] at this
      omega
  rw [pre2_end] at h2
  unfold pre3 at h1
  simp only [List.length_append] at h1 h2
  omega
set_option maxRecDepth 100000 in
set_option maxHeartbeats 8000000 in
theorem rtext_any (w : World) {L : Nat} {uv vv : Value} {m : Md} (hm : IsM w L uv vv m) (hf : Fit m) (hL : L ≤ w.heap.size) (hb : (textF m).length ≤ 140737488351232) :
    Calls Tryd.prog 8 #[.agg #[uv, vv]] w fun e w' => e = .returned (.string ⟨(textF m).toArray⟩) ∧ Below w.heap.size w w' := by
  obtain ⟨pu, cu, rfl, hu⟩ := hm.up.row
  obtain ⟨pv, cv, rfl, hv⟩ := hm.val.row
  have HU := show Hid (∀ (j : Nat) (hj : j < m.up.length), ∃ b o q n, pu = some ⟨b, o, none⟩ ∧ (∀ W, Below w.heap.size w W → W.cell? ⟨b, o + j, none⟩ = some (.slice q m.up[j].length n)) ∧ ∀ (i : Nat) (hi : i < m.up[j].length), ∃ br orr, q = some ⟨br, orr, none⟩ ∧ ∀ W, Below w.heap.size w W → W.cell? ⟨br, orr + i, none⟩ = some (.int .i64 (m.up[j][i]))) from fun j hj => by
    obtain ⟨b, o, q, n, e1, h1, h2, p', c', e3, h3⟩ := hu j hj
    obtain ⟨rfl, _, rfl⟩ := Value.slice.inj e3
    refine ⟨b, o, q, n, e1, fun W hW => (World.cell?_of_block (a := ⟨b, o + j, none⟩) (hW.block b (by omega))).trans h2, fun i hi => ?_⟩
    obtain ⟨br, orr, hl, e4, h4⟩ := h3 (by omega)
    obtain ⟨x, hx, rfl⟩ := h4 i hi
    exact ⟨br, orr, e4, fun W hW => (World.cell?_of_block (a := ⟨br, orr + i, none⟩) (hW.block br (by omega))).trans hx⟩
  have HV := show Hid (∀ (j : Nat) (hj : j < m.val.length), ∃ b o q n, pv = some ⟨b, o, none⟩ ∧ (∀ W, Below w.heap.size w W → W.cell? ⟨b, o + j, none⟩ = some (.slice q m.val[j].length n)) ∧ ∀ (i : Nat) (hi : i < m.val[j].length), ∃ br orr, q = some ⟨br, orr, none⟩ ∧ ∀ W, Below w.heap.size w W → W.cell? ⟨br, orr + i, none⟩ = some (.string (m.val[j][i]))) from fun j hj => by
    obtain ⟨b, o, q, n, e1, h1, h2, p', c', e3, h3⟩ := hv j hj
    obtain ⟨rfl, _, rfl⟩ := Value.slice.inj e3
    refine ⟨b, o, q, n, e1, fun W hW => (World.cell?_of_block (a := ⟨b, o + j, none⟩) (hW.block b (by omega))).trans h2, fun i hi => ?_⟩
    obtain ⟨br, orr, hl, e4, h4⟩ := h3 (by omega)
    obtain ⟨x, hx, rfl⟩ := h4 i hi
    exact ⟨br, orr, e4, fun W hW => (World.cell?_of_block (a := ⟨br, orr + i, none⟩) (hW.block br (by omega))).trans hx⟩
  have HF := show Hid (Fit m) from hf
  have hn1 := hf.1
  have hn2 := hf.2.1
  have HTL := show Hid ((textF m).length ≤ 140737488351232) from hb
  clear hm hf hu hv hb
  go_enter Tryd.func8, Tryd.ntmps8
  go_wp2_with (refine wpList_box 25 _ rfl _ rfl rfl ?_)
  intro w1 b1 hN1
  have HC := show Hid (∀ W, Below w1.heap.size w1 W → Below w.heap.size w W ∧ W.cell? ⟨b1, 0, none⟩ = some (.slice pu m.up.length cu) ∧ W.cell? ⟨b1, 1, none⟩ = some (.slice pv m.val.length cv)) from fun W hW => by
    have h := (show Cl w1 b1 #[.slice pu m.up.length cu, .slice pv m.val.length cv] 25 from hN1.blk).later hW
    exact ⟨hN1.bel.trans (hW.mono hN1.bel.size), h.cell 0, h.cell 1⟩
  clear hN1
  go_wp2_with fail
  go_loopw [3, 4, 5, 6] (fun s i _ _ wr => ∃ (k : Nat) (b : ByteArray), k ≤ m.up.length ∧ i = .int .i64 (k : Int) ∧ s = .string b ∧ Hid (b.data.toList = textTo m k) ∧ Hid (Below w1.heap.size w1 wr)) (fun _ i _ _ _ => m.up.length - (intOf i).toNat)
  case atStart => exact ⟨0, ⟨#[]⟩, Nat.zero_le _, rfl, rfl, rfl, Below.refl _ _⟩
  case round =>
    obtain ⟨k, bt, hk, rfl, rfl, HB, HW⟩ := hrel
    obtain ⟨hbw, c0, c1⟩ := HC.out wr HW.out
    by_cases hlt : k < m.up.length
    · have hki : (k : Int) < (m.up.length : Int) := by omega
      obtain ⟨bu, ou, qu, nu, rfl, hcu, hcx⟩ := HU.out k hlt
      have HCU := show Hid (∀ W, Below w1.heap.size w1 W → W.cell? ⟨b1, 0, none⟩ = some (.slice (some ⟨bu, ou, none⟩) m.up.length cu) ∧ W.cell? ⟨bu, ou + k, none⟩ = some (.slice qu m.up[k].length nu) ∧ W.cell? ⟨b1, 1, none⟩ = some (.slice pv m.val.length cv)) from fun W hW => ⟨(HC.out W hW).2.1, hcu W (HC.out W hW).1, (HC.out W hW).2.2⟩
      have HCX := show Hid (∀ (i : Nat) (hi : i < m.up[k].length), ∃ br orr, qu = some ⟨br, orr, none⟩ ∧ ∀ W, Below w1.heap.size w1 W → W.cell? ⟨br, orr + i, none⟩ = some (.int .i64 (m.up[k][i]))) from fun i hi => by
        obtain ⟨br, orr, e, h⟩ := hcx i hi
        exact ⟨br, orr, e, fun W hW => h W (HC.out W hW).1⟩
      have egu : m.up.getD k [] = m.up[k] := by rw [List.getD_eq_getElem?_getD, List.getElem?_eq_getElem hlt]; rfl
      have HP2 := show Hid (∀ j, (pre2 m k m.up[k] j).length + 1 ≤ 140737488351232) from fun j => by
        have h := pre2_le hlt j
        rw [egu] at h
        exact Nat.le_trans h HTL.out
      have HP3 := show Hid (∀ j, (pre3 m k m.up[k] (m.val.getD k []) j).length + 1 ≤ 140737488351232) from fun j => by
        have h := pre3_le hlt j
        rw [egu] at h
        exact Nat.le_trans h HTL.out
      have HEND := show Hid (textTo m (k + 1) = pre3 m k m.up[k] (m.val.getD k []) (m.val.getD k []).length ++ [10]) from by
        show textTo m (k + 1) = pre3 m k m.up[k] (m.val.getD k []) (m.val.getD k []).length ++ [10]
        rw [textTo_succ, egu, pre3_end]
      have HIB := show Hid (∀ i ∈ m.up[k], -9223372036854775808 ≤ i ∧ i ≤ 9223372036854775807) from (HF.out.2.2.1 _ (List.getElem_mem hlt)).2
      have hrl := (HF.out.2.2.1 _ (List.getElem_mem hlt)).1
      clear hcu hcx egu
      generalize m.up[k] = row at *
      have KD := show Hid _ from rdec_any wr (k : Int) (by omega) (by omega)
      have HS1 := show Hid (bt.data.toList ++ Lib.itoa (k : Int) = pre1 m k) from by
        show bt.data.toList ++ Lib.itoa (k : Int) = pre1 m k
        rw [HB.out]; rfl
      have HZ1 := show Hid (bt.size + (Lib.itoa (k : Int)).length = (pre1 m k).length) from by
        show bt.size + (Lib.itoa (k : Int)).length = (pre1 m k).length
        rw [← HS1.out, List.length_append]; rfl
      have HL1 := show Hid ((pre1 m k).length ≤ 140737488351232) from by
        have h := HP2.out 0
        unfold pre2 at h
        simp only [List.length_append] at h
        show (pre1 m k).length ≤ 140737488351232
        omega
      have hz1 : ¬ 9223372036854775807 < bt.size + (Lib.itoa (k : Int)).length := by have h1 := HZ1.out; have h2 := HL1.out; omega
      go_wp2_with fail
      refine Calls.mono KD.out ?_
      rintro e w2 ⟨rfl, hb2⟩
      have HW2 := show Hid (Below w1.heap.size w1 w2) from HW.out.trans (hb2.mono HW.out.size)
      clear hb2 KD HW hbw c0 c1
      have HB1 := show Hid (∃ b1 : ByteArray, b1 = bt ++ ⟨(Lib.itoa (k : Int)).toArray⟩ ∧ b1.data.toList = pre1 m k) from ⟨_, rfl, by rw [ba_app, ba_mk, HS1.out]⟩
      obtain ⟨t1, ht1, ht2⟩ := HB1.out
      have HT1 := show Hid (t1.data.toList = pre1 m k) from ht2
      go_upto_region 6 with fail
      rw [← ht1]
      clear ht1 ht2 HB1 HS1 HZ1 hz1 HB
      obtain ⟨d0, d1, d2⟩ := HCU.out w2 HW2.out
      go_upto_if 24 with fail
      go_cut [3] from 7 to 87 (fun s wx => ∃ b : ByteArray, s = .string b ∧ Hid (b.data.toList = pre2 m k row 0) ∧ wx = w2)
      case first =>
        by_cases hr0 : 0 < row.length
        · have hri : (0 : Int) < (row.length : Int) := by omega
          have hsz : ¬ 9223372036854775807 < t1.size + 2 := by
            have h2 := HL1.out
            rw [ba_size, HT1.out]; omega
          have HN := show Hid ((t1 ++ ⟨#[32, 62]⟩ : ByteArray).data.toList = pre2 m k row 0) from by
            show (t1 ++ ⟨#[32, 62]⟩ : ByteArray).data.toList = pre2 m k row 0
            have h0 : row.isEmpty = false := by cases row with | nil => exact absurd hr0 (by simp) | cons => rfl
            rw [ba_app, HT1.out, pre2, h0]
            simp [rowTo]
          go_wp2_with fail
          go_meet
          exact ⟨_, rfl, HN, rfl⟩
        · have hri : ¬ (0 : Int) < (row.length : Int) := by omega
          have HN := show Hid (t1.data.toList = pre2 m k row 0) from by
            show t1.data.toList = pre2 m k row 0
            have h0 : row = [] := List.eq_nil_of_length_eq_zero (by omega)
            rw [HT1.out, pre2, h0]
            simp
          go_wp2_with fail
          go_meet
          exact ⟨_, rfl, HN, rfl⟩
      case rest =>
        obtain ⟨t2, rfl, HT2, rfl⟩ := hcut
        clear HT1 HL1 d0 d1 d2
        go_wp2_with fail
        go_loopw [3, 5] (fun s j wr => ∃ (jj : Nat) (b : ByteArray), jj ≤ row.length ∧ j = .int .i64 (jj : Int) ∧ s = .string b ∧ Hid (b.data.toList = pre2 m k row jj) ∧ Hid (Below w1.heap.size w1 wr)) (fun _ j _ => row.length - (intOf j).toNat)
        case atStart => exact ⟨0, _, Nat.zero_le _, rfl, rfl, HT2.out, HW2.out⟩
        case round =>
          clear HT2 HW2
          obtain ⟨j, t3, hj, rfl, rfl, HT3, HW3⟩ := hrel
          obtain ⟨d0, d1, d2⟩ := HCU.out wr HW3.out
          by_cases hjl : j < row.length
          · have hji : (j : Int) < (row.length : Int) := by omega
            obtain ⟨br, orr, rfl, hcx⟩ := HCX.out j hjl
            have d3 := hcx wr HW3.out
            have HX := HIB.out row[j] (List.getElem_mem hjl)
            have HST := show Hid (pre2 m k row (j + 1) = pre2 m k row j ++ [32] ++ Lib.itoa row[j]) from pre2_step m k row j hjl
            generalize row[j] = x at *
            have KD := show Hid _ from rdec_any wr x HX.1 HX.2
            have hl2 := HP2.out (j + 1)
            rw [HST.out, List.length_append, List.length_append, List.length_singleton, ← HT3.out] at hl2
            rw [← ba_size] at hl2
            have hz1 : ¬ 9223372036854775807 < t3.size + 1 := by omega
            have hz2 : ¬ 9223372036854775807 < t3.size + 1 + (Lib.itoa x).length := by omega
            have HN := show Hid ((t3 ++ ⟨#[32]⟩ ++ ⟨(Lib.itoa x).toArray⟩ : ByteArray).data.toList = pre2 m k row (j + 1)) from by
              show (t3 ++ ⟨#[32]⟩ ++ ⟨(Lib.itoa x).toArray⟩ : ByteArray).data.toList = pre2 m k row (j + 1)
              rw [ba_app, ba_app, HT3.out, HST.out]
            clear hl2 hcx
            go_wp2_with fail
            refine Calls.mono KD.out ?_
            rintro e w4 ⟨rfl, hb4⟩
            have HW4 := show Hid (Below w1.heap.size w1 w4) from HW3.out.trans (hb4.mono HW3.out.size)
            clear hb4 KD HW3 d0 d1 d2 d3
            go_wp2_with fail
            go_roundw
            case rel => exact ⟨j + 1, _, by omega, val_int (by omega), rfl, HN.out, HW4.out⟩
            case measure => (simp only [intOf]; omega)
          · obtain rfl : j = row.length := by omega
            have hji : ¬ (row.length : Int) < (row.length : Int) := by omega
            have HT3e := show Hid (t3.data.toList = pre1 m k ++ rowT [32, 62] (row.map Lib.itoa)) from by
              show t3.data.toList = pre1 m k ++ rowT [32, 62] (row.map Lib.itoa)
              rw [HT3.out, pre2_end]
            clear HT3 hjl HP2
            have HK1 := show Hid (textTo m (k + 1) = pre3 m k row (m.val.getD k []) (m.val.getD k []).length ++ [10]) from HEND.out
            by_cases hkv : k < m.val.length
            · have hkvi : (k : Int) < (m.val.length : Int) := by omega
              obtain ⟨bv, ov, qv, nv, rfl, hcv, hcx⟩ := HV.out k hkv
              have HCV := show Hid (∀ W, Below w1.heap.size w1 W → W.cell? ⟨b1, 1, none⟩ = some (.slice (some ⟨bv, ov, none⟩) m.val.length cv) ∧ W.cell? ⟨bv, ov + k, none⟩ = some (.slice qv m.val[k].length nv)) from fun W hW => ⟨(HCU.out W hW).2.2, hcv W (HC.out W hW).1⟩
              have HCY := show Hid (∀ (i : Nat) (hi : i < m.val[k].length), ∃ br orr, qv = some ⟨br, orr, none⟩ ∧ ∀ W, Below w1.heap.size w1 W → W.cell? ⟨br, orr + i, none⟩ = some (.string (m.val[k][i]))) from fun i hi => by
                obtain ⟨br, orr, e, h⟩ := hcx i hi
                exact ⟨br, orr, e, fun W hW => h W (HC.out W hW).1⟩
              have egv : m.val.getD k [] = m.val[k] := by rw [List.getD_eq_getElem?_getD, List.getElem?_eq_getElem hkv]; rfl
              have hnl := (HF.out.2.2.2 _ (List.getElem_mem hkv)).1
              rw [egv] at HK1 HP3
              obtain ⟨f1, f2⟩ := HCV.out wr HW3.out
              clear hcv hcx egv HEND HIB
              generalize m.val[k] = ns at *
              by_cases hn0 : 0 < ns.length
              · have hni : (0 : Int) < (ns.length : Int) := by omega
                have hemp : ns.isEmpty = false := by cases ns with | nil => exact absurd hn0 (by simp) | cons => rfl
                have HT4 := show Hid ((t3 ++ ⟨#[32, 58]⟩ : ByteArray).data.toList = pre3 m k row ns 0) from by
                  show (t3 ++ ⟨#[32, 58]⟩ : ByteArray).data.toList = pre3 m k row ns 0
                  rw [ba_app, HT3e.out, pre3, hemp]
                  simp [rowTo]
                have hl3 := HP3.out 0
                rw [← HT4.out, ← ba_size] at hl3
                have hsz : ¬ 9223372036854775807 < t3.size + 2 := by
                  have e : (t3 ++ ⟨#[32, 58]⟩ : ByteArray).size = t3.size + 2 := by rw [ByteArray.size_append]; rfl
                  omega
                clear hl3 hemp HT3e
                go_wp2_with fail
                clear hsz f1 f2
                generalize (t3 ++ ⟨#[32, 58]⟩ : ByteArray) = t4 at *
                go_loopw [3, 6] (fun s j wr => ∃ (jj : Nat) (b : ByteArray), jj ≤ ns.length ∧ j = .int .i64 (jj : Int) ∧ s = .string b ∧ Hid (b.data.toList = pre3 m k row ns jj) ∧ Hid (Below w1.heap.size w1 wr)) (fun _ j _ => ns.length - (intOf j).toNat)
                case atStart => exact ⟨0, _, Nat.zero_le _, rfl, rfl, HT4.out, HW3.out⟩
                case round =>
                  clear HT4 HW3
                  obtain ⟨j, t5, hj, rfl, rfl, HT5, HW5⟩ := hrel
                  obtain ⟨f1, f2⟩ := HCV.out _ HW5.out
                  by_cases hjl : j < ns.length
                  · have hji : (j : Int) < (ns.length : Int) := by omega
                    obtain ⟨br, orr, rfl, hcx⟩ := HCY.out j hjl
                    have f3 := hcx _ HW5.out
                    have HST := show Hid (pre3 m k row ns (j + 1) = pre3 m k row ns j ++ [32] ++ ns[j].data.toList) from pre3_step m k row ns j hjl
                    generalize ns[j] = x at *
                    have hl2 := HP3.out (j + 1)
                    rw [HST.out, List.length_append, List.length_append, List.length_singleton, ← HT5.out] at hl2
                    rw [← ba_size, ← ba_size] at hl2
                    have hz1 : ¬ 9223372036854775807 < t5.size + 1 := by omega
                    have hz2 : ¬ 9223372036854775807 < t5.size + 1 + x.size := by omega
                    have HN := show Hid ((t5 ++ ⟨#[32]⟩ ++ x : ByteArray).data.toList = pre3 m k row ns (j + 1)) from by
                      show (t5 ++ ⟨#[32]⟩ ++ x : ByteArray).data.toList = pre3 m k row ns (j + 1)
                      rw [ba_app, ba_app, HT5.out, HST.out]
                    clear hl2 hcx
                    go_wp2_with fail
                    go_roundw
                    case rel => exact ⟨j + 1, _, by omega, val_int (by omega), rfl, HN.out, HW5.out⟩
                    case measure => (simp only [intOf]; omega)
                  · obtain rfl : j = ns.length := by omega
                    have hji : ¬ (ns.length : Int) < (ns.length : Int) := by omega
                    have hl2 := HP3.out ns.length
                    rw [← HT5.out, ← ba_size] at hl2
                    have hz1 : ¬ 9223372036854775807 < t5.size + 1 := by omega
                    have HN := show Hid ((t5 ++ ⟨#[10]⟩ : ByteArray).data.toList = textTo m (k + 1)) from by
                      show (t5 ++ ⟨#[10]⟩ : ByteArray).data.toList = textTo m (k + 1)
                      rw [ba_app, HT5.out, HK1.out]
                    clear hl2 hjl
                    go_wp2_with fail
                    go_roundw
                    case rel => exact ⟨k + 1, _, by omega, val_int (by omega), rfl, HN.out, HW5.out⟩
                    case measure => (simp only [intOf]; omega)
              · have hni : ¬ (0 : Int) < (ns.length : Int) := by omega
                obtain rfl : ns = [] := List.eq_nil_of_length_eq_zero (by omega)
                have hl2 := HP3.out 0
                rw [pre3_none, ← HT3e.out, ← ba_size] at hl2
                have hz1 : ¬ 9223372036854775807 < t3.size + 1 := by omega
                have HN := show Hid ((t3 ++ ⟨#[10]⟩ : ByteArray).data.toList = textTo m (k + 1)) from by
                  show (t3 ++ ⟨#[10]⟩ : ByteArray).data.toList = textTo m (k + 1)
                  rw [ba_app, HT3e.out, HK1.out, List.length_nil, pre3_none]
                clear hl2 hn0
                go_wp2_with fail
                go_roundw
                case rel => exact ⟨k + 1, _, by omega, val_int (by omega), rfl, HN.out, HW3.out⟩
                case measure => (simp only [intOf]; omega)
            · have hkvi : ¬ (k : Int) < (m.val.length : Int) := by omega
              have egv : m.val.getD k [] = [] := by rw [List.getD_eq_getElem?_getD, List.getElem?_eq_none (by omega)]; rfl
              rw [egv] at HK1 HP3
              have hl2 := HP3.out 0
              rw [pre3_none, ← HT3e.out, ← ba_size] at hl2
              have hz1 : ¬ 9223372036854775807 < t3.size + 1 := by omega
              have HN := show Hid ((t3 ++ ⟨#[10]⟩ : ByteArray).data.toList = textTo m (k + 1)) from by
                show (t3 ++ ⟨#[10]⟩ : ByteArray).data.toList = textTo m (k + 1)
                rw [ba_app, HT3e.out, HK1.out, List.length_nil, pre3_none]
              clear hl2 egv
              go_wp2_with fail
              go_roundw
              case rel => exact ⟨k + 1, _, by omega, val_int (by omega), rfl, HN.out, HW3.out⟩
              case measure => (simp only [intOf]; omega)
    · obtain rfl : k = m.up.length := by omega
      have hki : ¬ (m.up.length : Int) < (m.up.length : Int) := by omega
      have HR := show Hid (bt = ⟨(textF m).toArray⟩ ∧ Below w.heap.size w wr) from ⟨ba_ext (by rw [HB.out, ba_mk]; rfl), hbw⟩
      clear hbw HB HW
      go_wp2_with fail
      go_ret
      obtain ⟨hr1, hr2⟩ := HR.out
      rw [hr1]
      exact ⟨rfl, hr2⟩
end Go.Proofs.YtjbnbaiidpdpoaaDoor.Wm
