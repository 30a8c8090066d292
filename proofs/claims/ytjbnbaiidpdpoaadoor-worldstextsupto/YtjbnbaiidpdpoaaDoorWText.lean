/-
  Text: of any model whose text a machine can hold. The tables that the library reads stand.
-/
import Derived.Test.YtjbnbaiidpdpoaaDoorWBld
import Derived.Test.YtjbnbaiidpdpoaaDoorWTop3
import Derived.Test.YtjbnbaiidpdpoaaDoorShelfA
import Derived.Lib.LaidU8
namespace Go.Proofs.YtjbnbaiidpdpoaaDoor.Wm
open Go.RowKit Go.Maps
open Wd (Md Mid Rc Ed Sub upd vl allW inW names)
set_option linter.unusedSimpArgs false

structure Tb (w : World) : Prop where
  pows : Lib.TabIs Tryd.prog w "internal/strconv.uint64pow10" .u64 Lib.pow10Tab
  sp : Lib.TabIs Tryd.prog w "strings.asciiSpace" .u8 Lib.asciiSpaceTab
  wh : Lib.WhiteTab 1 w
  ml : ∃ m : Int, w.cell? ⟨2, 0, none⟩ = some (.int .i64 m)
theorem tab_later {n : String} {k : IntKind} {t : List Int} {g : Nat} (hn : Tryd.prog.globalNamed n = some g) {w w' : World} (h : Lib.TabIs Tryd.prog w n k t) (hb : Below w.heap.size w w') : Lib.TabIs Tryd.prog w' n k t := by
  have h' := h
  unfold Lib.TabIs World.var? at h' ⊢
  simp only [hn, Option.bind_some] at h' ⊢
  have hlt : g < w.heap.size := by
    rcases Nat.lt_or_ge g w.heap.size with hh | hh
    · exact hh
    · simp [Array.getElem?_eq_none hh] at h'
  rw [hb.block _ hlt]
  exact h'
theorem Tb.later {w w' : World} (h : Tb w) (hb : Below w.heap.size w w') : Tb w' :=
  ⟨tab_later (g := 3) (by kernel_rfl) h.pows hb, tab_later (g := 0) (by kernel_rfl) h.sp hb, WhiteTab_below h.wh hb, by
    obtain ⟨m, hm⟩ := h.ml
    exact ⟨m, (hb.cell (p := ⟨2, 0, none⟩) (World.block_lt_of_cell? w _ hm)).trans hm⟩⟩
theorem Tb.at {n : Nat} {w w' : World} (h : Tb w) (hn : w.heap.size ≤ n) (hb : Below n w w') : Tb w' := h.later (hb.mono hn)
theorem below_grow (w : World) (q : Nat) (os : Array Obj) : Below w.heap.size w (Sort.grow (w.drewN q) os) :=
  ⟨rfl, rfl, rfl, by simp [Sort.grow], fun k hk => by simp [Sort.grow, Array.getElem?_append, hk]⟩
theorem dec_any (w : World) (n : Int) (h0 : -9223372036854775808 ≤ n) (h1 : n ≤ 9223372036854775807) (hP : Tb w) : Calls Tryd.prog 16 #[.int .i64 n] w fun e w' => e = .returned (.string ⟨(Lib.itoa n).toArray⟩) ∧ Below w.heap.size w w' := by
  have C := show Hid _ from Tryd.strconv_Itoa n h0 h1 w hP.pows
  clear h0 h1 hP
  go_enter Tryd.func16, Tryd.ntmps16
  go_wp2_with fail
  refine Calls.mono C.out ?_
  rintro e w1 ⟨rfl, k, os, hw⟩
  have hb : Below w.heap.size w w1 := by rw [hw]; exact below_grow w k os
  clear hw
  go_wp2
  go_ret
  exact ⟨rfl, hb⟩
def rowT (sign : List UInt8) (l : List (List UInt8)) : List UInt8 := if l.isEmpty then [] else sign ++ l.flatMap fun x => 32 :: x
def lineF (a : Nat) (row : List Int) (ns : List ByteArray) : List UInt8 := Lib.itoa (a : Int) ++ rowT [32, 62] (row.map Lib.itoa) ++ rowT [32, 58] (ns.map fun s => s.data.toList) ++ [10]
def textTo (m : Md) (k : Nat) : List UInt8 := (List.range k).flatMap fun a => lineF a (m.up.getD a []) (m.val.getD a [])
def textF (m : Md) : List UInt8 := textTo m m.up.length
theorem textTo_succ (m : Md) (k : Nat) : textTo m (k + 1) = textTo m k ++ lineF k (m.up.getD k []) (m.val.getD k []) := by
  unfold textTo; rw [List.range_succ, List.flatMap_append]; simp
theorem textTo_le (m : Md) : ∀ {k n : Nat}, k ≤ n → (textTo m k).length ≤ (textTo m n).length := by
  intro k n h
  induction n with
  | zero => obtain rfl : k = 0 := by omega
            exact Nat.le_refl _
  | succ n ih =>
    by_cases e : k = n + 1
    · rw [e]; exact Nat.le_refl _
    · rw [textTo_succ, List.length_append]; have := ih (by omega); omega
theorem bcells_app (a b : List UInt8) : Lib.byteCells (a ++ b) = Lib.byteCells a ++ Lib.byteCells b := by simp [Lib.byteCells]
abbrev IsBb (B b : Nat) (l : List UInt8) (w : World) : Prop := IsBd B b (Lib.byteCells l) w
theorem put_str (w : World) {B b : Nat} {l : List UInt8} (h : IsBb B b l w) (s : ByteArray) (hlen : l.length + s.size ≤ 140737488355328) (hBw : B ≤ w.heap.size) :
    Calls Tryd.prog 15 #[.pointer (some ⟨b, 0, none⟩), .string s] w fun e w' => ∃ v, e = .returned v ∧ IsBb B b (l ++ s.data.toList) w' ∧ Below B w w' := by
  refine (write_str w h s (by rw [Lib.byteCells_length]; exact hlen) hBw).mono ?_
  rintro e w' ⟨rfl, h1, h2⟩
  refine ⟨_, rfl, ?_, h2⟩
  show IsBd B b (Lib.byteCells (l ++ s.data.toList)) w'
  rw [bcells_app]
  exact h1
theorem put_byte (w : World) {B b : Nat} {l : List UInt8} (h : IsBb B b l w) (c : UInt8) (hlen : l.length + 1 ≤ 140737488355328) (hBw : B ≤ w.heap.size) :
    Calls Tryd.prog 20 #[.pointer (some ⟨b, 0, none⟩), .int .u8 (c.toNat : Int)] w fun e w' => ∃ v, e = .returned v ∧ IsBb B b (l ++ [c]) w' ∧ Below B w w' := by
  refine (write_byte w h c (by rw [Lib.byteCells_length]; exact hlen) hBw).mono ?_
  rintro e w' ⟨rfl, h1, h2⟩
  refine ⟨_, rfl, ?_, h2⟩
  show IsBd B b (Lib.byteCells (l ++ [c])) w'
  rw [bcells_app]
  exact h1
def Wrt {α : Type} (B : Nat) (w : World) (fv : Value) (enc : α → Value) (D : α → Prop) (tx : α → List UInt8) : Prop :=
  ∃ (f : FuncId) (cs : List Value), fv = .func (.func f) #[] cs.toArray ∧ Cf f ∧ ∀ (W : World) (x : α), Below B w W → D x → Calls Tryd.prog f ([enc x] ++ cs).toArray W fun e w' => e = .returned (.string ⟨(tx x).toArray⟩) ∧ Below W.heap.size W w'
def rowTo (sign : List UInt8) (l : List (List UInt8)) (k : Nat) : List UInt8 := sign ++ (l.take k).flatMap fun x => 32 :: x
theorem rowTo_succ (sign : List UInt8) (l : List (List UInt8)) (k : Nat) (h : k < l.length) : rowTo sign l (k + 1) = rowTo sign l k ++ [32] ++ l[k] := by
  unfold rowTo; rw [List.take_succ_eq_append_getElem h, List.flatMap_append]; simp
theorem rowTo_le (sign : List UInt8) (l : List (List UInt8)) {k : Nat} (_h : k ≤ l.length) : (rowTo sign l k).length ≤ (rowTo sign l l.length).length := by
  have e : l = l.take k ++ l.drop k := (List.take_append_drop k l).symm
  unfold rowTo
  rw [List.take_length]
  conv => rhs; rw [e]
  rw [List.flatMap_append]
  simp
set_option maxRecDepth 100000 in
set_option maxHeartbeats 4000000 in
theorem putRowI_any (w : World) {B b L : Nat} {bs : List UInt8} {v fv : Value} {l : List Int} (h : IsBb B b bs w) (hl : IsI w L v l) (hLB : L ≤ B) (hBw : B ≤ w.heap.size) (hlen : l.length ≤ 140737488351232) (sign : ByteArray) (hW : Wrt B w fv (Value.int .i64) (fun x => x ∈ l) Lib.itoa) (hb : (bs ++ rowT sign.data.toList (l.map Lib.itoa)).length ≤ 140737488351232) :
    Calls Tryd.prog 17 #[.pointer (some ⟨b, 0, none⟩), .string sign, v, fv] w fun e w' => e = .returned (.tuple #[]) ∧ IsBb B b (bs ++ rowT sign.data.toList (l.map Lib.itoa)) w' ∧ Below B w w' := by
  obtain ⟨f, cs, rfl, hcf, hc⟩ := hW
  obtain ⟨q, c, rfl, hat⟩ := hl
  by_cases h0 : l.length = 0
  · obtain rfl : l = [] := List.eq_nil_of_length_eq_zero h0
    have HB := show Hid (IsBb B b (bs ++ rowT sign.data.toList (([] : List Int).map Lib.itoa)) w) from by
      show IsBb B b (bs ++ rowT sign.data.toList (([] : List Int).map Lib.itoa)) w
      rw [show rowT sign.data.toList (([] : List Int).map Lib.itoa) = [] from rfl, List.append_nil]; exact h
    clear h hb hat hc hcf
    simp only [List.length_nil] at *
    go_enter Tryd.func17, Tryd.ntmps17
    go_wp2_with fail
    refine bodyPost_ret (results_none rfl _ _ _) rfl ?_
    exact ⟨rfl, HB.out, Below.refl _ _⟩
  · have hne : ((l.length : Int) == 0) = false := by rw [beq_eq_false_iff_ne]; omega
    have HR := show Hid (bs ++ rowTo sign.data.toList (l.map Lib.itoa) l.length = bs ++ rowT sign.data.toList (l.map Lib.itoa)) from by
      show bs ++ rowTo sign.data.toList (l.map Lib.itoa) l.length = bs ++ rowT sign.data.toList (l.map Lib.itoa)
      unfold rowT rowTo
      rw [if_neg (by cases l with | nil => exact absurd rfl h0 | cons => simp), List.take_of_length_le (by simp)]
    have HLE := show Hid (∀ k, k ≤ l.length → (bs ++ rowTo sign.data.toList (l.map Lib.itoa) k).length ≤ 140737488351232) from fun k hk => by
      have h1 := rowTo_le sign.data.toList (l.map Lib.itoa) (k := k) (by simpa using hk)
      rw [List.length_map] at h1
      rw [← HR.out] at hb
      rw [List.length_append] at hb ⊢
      omega
    have K1 := show Hid _ from put_str w h sign (by
      have h1 := HLE.out 0 (Nat.zero_le _)
      rw [List.length_append] at h1
      have h2 : (rowTo sign.data.toList (l.map Lib.itoa) 0).length = sign.size := by unfold rowTo; simp
      omega) hBw
    have HC := show Hid (∀ (W : World) (x : Int), Below B w W → x ∈ l → Calls Tryd.prog f ([Value.int .i64 x] ++ cs).toArray W fun e w' => e = .returned (.string ⟨(Lib.itoa x).toArray⟩) ∧ Below W.heap.size W w') from hc
    have HCF := show Hid (Cf f) from hcf
    have HA := show Hid (0 < l.length → ∃ b o, b < L ∧ q = some ⟨b, o, none⟩ ∧ ∀ (j : Nat) (hj : j < l.length), ∃ x, w.cell? ⟨b, o + j, none⟩ = some x ∧ isI l[j] x) from hat
    have HBW := show Hid (B ≤ w.heap.size ∧ L ≤ B) from ⟨hBw, hLB⟩
    clear h hb hat hc hcf h0 hLB hBw
    go_enter Tryd.func17, Tryd.ntmps17
    go_wp2_with fail
    refine Calls.mono K1.out ?_
    rintro e w1 ⟨v1, rfl, hb1, hbel1⟩
    have H1 := show Hid (IsBb B b (bs ++ rowTo sign.data.toList (l.map Lib.itoa) 0) w1 ∧ Below B w w1) from ⟨by
      rw [show rowTo sign.data.toList (l.map Lib.itoa) 0 = sign.data.toList by unfold rowTo; simp]; exact hb1, hbel1⟩
    clear K1 hb1 hbel1
    go_wp2_with fail
    go_loopw [9, 18] (fun _ i wr => ∃ k : Nat, k ≤ l.length ∧ i = .int .i64 (k : Int) ∧ Hid (IsBb B b (bs ++ rowTo sign.data.toList (l.map Lib.itoa) k) wr ∧ Below B w wr)) (fun _ i _ => l.length - (intOf i).toNat)
    case atStart => exact ⟨0, Nat.zero_le _, rfl, H1.out⟩
    case round =>
      obtain ⟨k, hk, rfl, H2⟩ := hrel
      clear H1
      by_cases hlt : k < l.length
      · obtain ⟨br, or_, hbr, rfl, hat⟩ := HA.out (by omega)
        obtain ⟨x, hx, rfl⟩ := hat k hlt
        have hcx : wr.cell? ⟨br, or_ + k, none⟩ = some (.int .i64 l[k]) := (H2.out.2.cell (p := ⟨br, or_ + k, none⟩) (by have := HBW.out; show br < B; omega)).trans hx
        have HS := show Hid (rowTo sign.data.toList (l.map Lib.itoa) (k + 1) = rowTo sign.data.toList (l.map Lib.itoa) k ++ [32] ++ Lib.itoa l[k]) from by
          show rowTo sign.data.toList (l.map Lib.itoa) (k + 1) = rowTo sign.data.toList (l.map Lib.itoa) k ++ [32] ++ Lib.itoa l[k]
          rw [rowTo_succ _ _ k (by simpa using hlt), List.getElem_map]
        have hl1 := HLE.out (k + 1) hlt
        rw [HS.out] at hl1
        simp only [List.length_append, List.length_singleton] at hl1
        have HL1 := show Hid (bs.length + ((rowTo sign.data.toList (l.map Lib.itoa) k).length + 1 + (Lib.itoa l[k]).length) ≤ 140737488351232) from hl1
        have KB := show Hid _ from put_byte wr H2.out.1 32 (by rw [List.length_append]; omega) (Nat.le_trans HBW.out.1 H2.out.2.size)
        have KD := show Hid (∀ W, Below B w W → Calls Tryd.prog f ([Value.int .i64 l[k]] ++ cs).toArray W fun e w' => e = .returned (.string ⟨(Lib.itoa l[k]).toArray⟩) ∧ Below W.heap.size W w') from fun W hW => HC.out W l[k] hW (List.getElem_mem hlt)
        have hki : (k : Int) < (l.length : Int) := by omega
        clear hat hx HA HC HLE hl1
        generalize l[k] = x at *
        generalize rowTo sign.data.toList (l.map Lib.itoa) k = tk at *
        go_wp2_with fail
        refine Calls.mono KB.out ?_
        rintro e w3 ⟨v3, rfl, hb3, hbel3⟩
        have H3 := show Hid (IsBb B b (bs ++ tk ++ [32]) w3 ∧ Below B w w3) from ⟨hb3, H2.out.2.trans hbel3⟩
        have K3 := show Hid _ from KD.out w3 H3.out.2
        clear hb3 hbel3 KB KD H2 hcx
        go_wp2_with (refine wpList_callV rfl f _ [.tmp 26] _ rfl [.int .i64 x] cs rfl rfl HCF.out ?_)
        refine Calls.mono K3.out ?_
        rintro e w4 ⟨rfl, hb4⟩
        refine ⟨_, rfl, ?_⟩
        have hB3 : B ≤ w3.heap.size := Nat.le_trans HBW.out.1 H3.out.2.size
        have H4 := show Hid (IsBb B b (bs ++ tk ++ [32]) w4 ∧ Below B w w4) from ⟨bd_later H3.out.1 hb4, H3.out.2.trans (hb4.mono hB3)⟩
        have K4 := show Hid _ from put_str w4 H4.out.1 ⟨(Lib.itoa x).toArray⟩ (by
          have h9 : (⟨(Lib.itoa x).toArray⟩ : ByteArray).size = (Lib.itoa x).length := by show (Lib.itoa x).toArray.size = _; simp
          rw [h9]; simp only [List.length_append, List.length_singleton]; have := HL1.out; omega) (Nat.le_trans HBW.out.1 H4.out.2.size)
        clear hb4 K3 H3 hB3
        go_wp2_with fail
        refine Calls.mono K4.out ?_
        rintro e w5 ⟨v5, rfl, hb5, hbel5⟩
        have H5 := show Hid (IsBb B b (bs ++ rowTo sign.data.toList (l.map Lib.itoa) (k + 1)) w5 ∧ Below B w w5) from ⟨by
          rw [HS.out]
          have e9 : bs ++ (tk ++ [32] ++ Lib.itoa x) = bs ++ tk ++ [32] ++ (⟨(Lib.itoa x).toArray⟩ : ByteArray).data.toList := by simp
          rw [e9]; exact hb5, H4.out.2.trans hbel5⟩
        clear hb5 hbel5 K4 H4
        go_wp2_with fail
        go_roundw
        case rel => exact ⟨k + 1, by omega, val_int (by omega), H5⟩
        case measure => (simp only [intOf]; omega)
      · obtain rfl : k = l.length := by omega
        go_wp2_with fail
        go_end0
        rw [← HR.out]
        exact ⟨rfl, H2.out⟩
set_option maxRecDepth 100000 in
set_option maxHeartbeats 4000000 in
theorem putRowS_any (tx : ByteArray → List UInt8) (w : World) {B b L : Nat} {bs : List UInt8} {v fv : Value} {l : List ByteArray} (h : IsBb B b bs w) (hl : IsN w L v l) (hLB : L ≤ B) (hBw : B ≤ w.heap.size) (hlen : l.length ≤ 140737488351232) (sign : ByteArray) (hW : Wrt B w fv Value.string (fun x => x ∈ l) tx) (hb : (bs ++ rowT sign.data.toList (l.map tx)).length ≤ 140737488351232) :
    Calls Tryd.prog 18 #[.pointer (some ⟨b, 0, none⟩), .string sign, v, fv] w fun e w' => e = .returned (.tuple #[]) ∧ IsBb B b (bs ++ rowT sign.data.toList (l.map tx)) w' ∧ Below B w w' := by
  obtain ⟨f, cs, rfl, hcf, hc⟩ := hW
  obtain ⟨q, c, rfl, hat⟩ := hl
  by_cases h0 : l.length = 0
  · obtain rfl : l = [] := List.eq_nil_of_length_eq_zero h0
    have HB := show Hid (IsBb B b (bs ++ rowT sign.data.toList (([] : List ByteArray).map tx)) w) from by
      show IsBb B b (bs ++ rowT sign.data.toList (([] : List ByteArray).map tx)) w
      rw [show rowT sign.data.toList (([] : List ByteArray).map tx) = [] from rfl, List.append_nil]; exact h
    clear h hb hat hc hcf
    simp only [List.length_nil] at *
    go_enter Tryd.func18, Tryd.ntmps18
    go_wp2_with fail
    refine bodyPost_ret (results_none rfl _ _ _) rfl ?_
    exact ⟨rfl, HB.out, Below.refl _ _⟩
  · have hne : ((l.length : Int) == 0) = false := by rw [beq_eq_false_iff_ne]; omega
    have HR := show Hid (bs ++ rowTo sign.data.toList (l.map tx) l.length = bs ++ rowT sign.data.toList (l.map tx)) from by
      show bs ++ rowTo sign.data.toList (l.map tx) l.length = bs ++ rowT sign.data.toList (l.map tx)
      unfold rowT rowTo
      rw [if_neg (by cases l with | nil => exact absurd rfl h0 | cons => simp), List.take_of_length_le (by simp)]
    have HLE := show Hid (∀ k, k ≤ l.length → (bs ++ rowTo sign.data.toList (l.map tx) k).length ≤ 140737488351232) from fun k hk => by
      have h1 := rowTo_le sign.data.toList (l.map tx) (k := k) (by simpa using hk)
      rw [List.length_map] at h1
      rw [← HR.out] at hb
      rw [List.length_append] at hb ⊢
      omega
    have K1 := show Hid _ from put_str w h sign (by
      have h1 := HLE.out 0 (Nat.zero_le _)
      rw [List.length_append] at h1
      have h2 : (rowTo sign.data.toList (l.map tx) 0).length = sign.size := by unfold rowTo; simp
      omega) hBw
    have HC := show Hid (∀ (W : World) (x : ByteArray), Below B w W → x ∈ l → Calls Tryd.prog f ([Value.string x] ++ cs).toArray W fun e w' => e = .returned (.string ⟨(tx x).toArray⟩) ∧ Below W.heap.size W w') from hc
    have HCF := show Hid (Cf f) from hcf
    have HA := show Hid (0 < l.length → ∃ b o, b < L ∧ q = some ⟨b, o, none⟩ ∧ ∀ (j : Nat) (hj : j < l.length), ∃ x, w.cell? ⟨b, o + j, none⟩ = some x ∧ isT l[j] x) from hat
    have HBW := show Hid (B ≤ w.heap.size ∧ L ≤ B) from ⟨hBw, hLB⟩
    clear h hb hat hc hcf h0 hLB hBw
    go_enter Tryd.func18, Tryd.ntmps18
    go_wp2_with fail
    refine Calls.mono K1.out ?_
    rintro e w1 ⟨v1, rfl, hb1, hbel1⟩
    have H1 := show Hid (IsBb B b (bs ++ rowTo sign.data.toList (l.map tx) 0) w1 ∧ Below B w w1) from ⟨by
      rw [show rowTo sign.data.toList (l.map tx) 0 = sign.data.toList by unfold rowTo; simp]; exact hb1, hbel1⟩
    clear K1 hb1 hbel1
    go_wp2_with fail
    go_loopw [9, 18] (fun _ i wr => ∃ k : Nat, k ≤ l.length ∧ i = .int .i64 (k : Int) ∧ Hid (IsBb B b (bs ++ rowTo sign.data.toList (l.map tx) k) wr ∧ Below B w wr)) (fun _ i _ => l.length - (intOf i).toNat)
    case atStart => exact ⟨0, Nat.zero_le _, rfl, H1.out⟩
    case round =>
      obtain ⟨k, hk, rfl, H2⟩ := hrel
      clear H1
      by_cases hlt : k < l.length
      · obtain ⟨br, or_, hbr, rfl, hat⟩ := HA.out (by omega)
        obtain ⟨x, hx, rfl⟩ := hat k hlt
        have hcx : wr.cell? ⟨br, or_ + k, none⟩ = some (.string l[k]) := (H2.out.2.cell (p := ⟨br, or_ + k, none⟩) (by have := HBW.out; show br < B; omega)).trans hx
        have HS := show Hid (rowTo sign.data.toList (l.map tx) (k + 1) = rowTo sign.data.toList (l.map tx) k ++ [32] ++ tx l[k]) from by
          show rowTo sign.data.toList (l.map tx) (k + 1) = rowTo sign.data.toList (l.map tx) k ++ [32] ++ tx l[k]
          rw [rowTo_succ _ _ k (by simpa using hlt), List.getElem_map]
        have hl1 := HLE.out (k + 1) hlt
        rw [HS.out] at hl1
        simp only [List.length_append, List.length_singleton] at hl1
        have HL1 := show Hid (bs.length + ((rowTo sign.data.toList (l.map tx) k).length + 1 + (tx l[k]).length) ≤ 140737488351232) from hl1
        have KB := show Hid _ from put_byte wr H2.out.1 32 (by rw [List.length_append]; omega) (Nat.le_trans HBW.out.1 H2.out.2.size)
        have KD := show Hid (∀ W, Below B w W → Calls Tryd.prog f ([Value.string l[k]] ++ cs).toArray W fun e w' => e = .returned (.string ⟨(tx l[k]).toArray⟩) ∧ Below W.heap.size W w') from fun W hW => HC.out W l[k] hW (List.getElem_mem hlt)
        have hki : (k : Int) < (l.length : Int) := by omega
        clear hat hx HA HC HLE hl1
        generalize l[k] = x at *
        generalize rowTo sign.data.toList (l.map tx) k = tk at *
        go_wp2_with fail
        refine Calls.mono KB.out ?_
        rintro e w3 ⟨v3, rfl, hb3, hbel3⟩
        have H3 := show Hid (IsBb B b (bs ++ tk ++ [32]) w3 ∧ Below B w w3) from ⟨hb3, H2.out.2.trans hbel3⟩
        have K3 := show Hid _ from KD.out w3 H3.out.2
        clear hb3 hbel3 KB KD H2 hcx
        go_wp2_with (refine wpList_callV rfl f _ [.tmp 26] _ rfl [.string x] cs rfl rfl HCF.out ?_)
        refine Calls.mono K3.out ?_
        rintro e w4 ⟨rfl, hb4⟩
        refine ⟨_, rfl, ?_⟩
        have hB3 : B ≤ w3.heap.size := Nat.le_trans HBW.out.1 H3.out.2.size
        have H4 := show Hid (IsBb B b (bs ++ tk ++ [32]) w4 ∧ Below B w w4) from ⟨bd_later H3.out.1 hb4, H3.out.2.trans (hb4.mono hB3)⟩
        have K4 := show Hid _ from put_str w4 H4.out.1 ⟨(tx x).toArray⟩ (by
          have h9 : (⟨(tx x).toArray⟩ : ByteArray).size = (tx x).length := by show (tx x).toArray.size = _; simp
          rw [h9]; simp only [List.length_append, List.length_singleton]; have := HL1.out; omega) (Nat.le_trans HBW.out.1 H4.out.2.size)
        clear hb4 K3 H3 hB3
        go_wp2_with fail
        refine Calls.mono K4.out ?_
        rintro e w5 ⟨v5, rfl, hb5, hbel5⟩
        have H5 := show Hid (IsBb B b (bs ++ rowTo sign.data.toList (l.map tx) (k + 1)) w5 ∧ Below B w w5) from ⟨by
          rw [HS.out]
          have e9 : bs ++ (tk ++ [32] ++ tx x) = bs ++ tk ++ [32] ++ (⟨(tx x).toArray⟩ : ByteArray).data.toList := by simp
          rw [e9]; exact hb5, H4.out.2.trans hbel5⟩
        clear hb5 hbel5 K4 H4
        go_wp2_with fail
        go_roundw
        case rel => exact ⟨k + 1, by omega, val_int (by omega), H5⟩
        case measure => (simp only [intOf]; omega)
      · obtain rfl : k = l.length := by omega
        go_wp2_with fail
        go_end0
        rw [← HR.out]
        exact ⟨rfl, H2.out⟩
theorem cf_dec : Cf 16 := fun _ _ => by kernel_rfl
theorem cf_txt1 : Cf 19 := fun _ _ => by kernel_rfl
theorem txt1_any (w : World) (s : ByteArray) : Calls Tryd.prog 19 #[.string s] w fun e w' => e = .returned (.string s) ∧ w' = w := by
  go_enter Tryd.func19, Tryd.ntmps19
  go_wp2
  go_ret
  exact ⟨rfl, rfl⟩
theorem wrt_dec {B : Nat} {w : World} {l : List Int} (hT : Tb w) (hB : w.heap.size ≤ B) (hl : ∀ x ∈ l, -9223372036854775808 ≤ x ∧ x ≤ 9223372036854775807) : Wrt B w (.func (.func 16) #[] #[]) (Value.int .i64) (fun x => x ∈ l) Lib.itoa :=
  ⟨_, [], rfl, cf_dec, fun W x hW hx => dec_any W x (hl x hx).1 (hl x hx).2 (hT.at hB hW)⟩
theorem wrt_txt (B : Nat) (w : World) (l : List ByteArray) : Wrt B w (.func (.func 19) #[] #[]) Value.string (fun x => x ∈ l) (fun s => s.data.toList) :=
  ⟨_, [], rfl, cf_txt1, fun W x _ _ => (txt1_any W x).mono fun e w' h => ⟨h.1, by rw [h.2]; exact Below.refl _ _⟩⟩
theorem zero_bd (w : World) : (zeroValue 47).run Tryd.prog w = .ok (.agg #[.pointer none, .slice none 0 0]) w := by kernel_rfl
theorem lineF_le (a : Nat) (row : List Int) (ns : List ByteArray) : (Lib.itoa (a : Int)).length + (rowT [32, 62] (row.map Lib.itoa)).length + (rowT [32, 58] (ns.map fun s => s.data.toList)).length + 1 = (lineF a row ns).length := by
  unfold lineF; simp only [List.length_append, List.length_singleton]
set_option maxRecDepth 100000 in
set_option maxHeartbeats 4000000 in
theorem text_any (w : World) {L : Nat} {uv vv : Value} {m : Md} (hm : IsM w L uv vv m) (hf : Fit m) (hL : L ≤ w.heap.size) (hT : Tb w) (hb : (textF m).length ≤ 140737488351232) :
    Calls Tryd.prog 5 #[.agg #[uv, vv]] w fun e w' => e = .returned (.string ⟨(textF m).toArray⟩) ∧ Below w.heap.size w w' := by
  obtain ⟨pu, cu, rfl, hu⟩ := hm.up.row
  obtain ⟨pv, cv, rfl, hv⟩ := hm.val.row
  have HU := show Hid (∀ (j : Nat) (hj : j < m.up.length), ∃ b o q n, pu = some ⟨b, o, none⟩ ∧ b < L ∧ w.cell? ⟨b, o + j, none⟩ = some (.slice q m.up[j].length n) ∧ IsI w L (.slice q m.up[j].length n) m.up[j]) from hu
  have HV := show Hid (∀ (j : Nat) (hj : j < m.val.length), ∃ b o q n, pv = some ⟨b, o, none⟩ ∧ b < L ∧ w.cell? ⟨b, o + j, none⟩ = some (.slice q m.val[j].length n) ∧ IsN w L (.slice q m.val[j].length n) m.val[j]) from hv
  have HFU := show Hid (∀ (j : Nat) (hj : j < m.up.length), m.up[j].length ≤ 140737488351232 ∧ ∀ i ∈ m.up[j], -9223372036854775808 ≤ i ∧ i ≤ 9223372036854775807) from fun j hj => hf.2.2.1 _ (List.getElem_mem hj)
  have HFV := show Hid (∀ (j : Nat) (hj : j < m.val.length), m.val[j].length ≤ 140737488351232) from fun j hj => (hf.2.2.2 _ (List.getElem_mem hj)).1
  have hn1 := hf.1
  have hn2 := hf.2.1
  have HTT := show Hid (Tb w) from hT
  have HLE := show Hid (∀ k, k ≤ m.up.length → (textTo m k).length ≤ 140737488351232) from fun k hk => Nat.le_trans (textTo_le m hk) hb
  have HE := show Hid (textTo m m.up.length = textF m) from rfl
  generalize textF m = ans at *
  clear hm hf hu hv hT hb
  go_enter Tryd.func5, Tryd.ntmps5
  go_wp2_with (refine wpList_box 25 _ rfl _ rfl rfl ?_)
  intro w1 b1 hN1
  have H1 := show Hid (Below w.heap.size w w1 ∧ Cl w1 b1 #[.slice pu m.up.length cu, .slice pv m.val.length cv] 25) from ⟨hN1.bel, hN1.blk⟩
  clear hN1
  go_wp2_with (refine wpList_alloc 47 rfl _ zero_bd rfl ?_)
  intro w2 b hN2
  have H2 := show Hid (IsBb w1.heap.size b (textTo m 0) w2 ∧ Below w1.heap.size w1 w2) from ⟨Or.inl ⟨hN2.ge, .slice none 0 0, hN2.blk, World.ownsRow_nil _ _ _ _, fun h => (by cases h)⟩, hN2.bel⟩
  have c0 : w2.cell? ⟨b1, 0, none⟩ = some (.slice pu m.up.length cu) := Cl.cell (T := 25) (H1.out.2.later hN2.bel) 0
  clear hN2
  go_wp2_with fail
  go_loopw [4, 5, 9] (fun _ _ i wr => ∃ k : Nat, k ≤ m.up.length ∧ i = .int .i64 (k : Int) ∧ Hid (IsBb w1.heap.size b (textTo m k) wr ∧ Below w1.heap.size w1 wr)) (fun _ _ i _ => m.up.length - (intOf i).toNat)
  case atStart => exact ⟨0, Nat.zero_le _, rfl, H2.out⟩
  case round =>
    obtain ⟨k, hk, rfl, H3⟩ := hrel
    clear H2 c0
    have HLB := show Hid (w.heap.size ≤ w1.heap.size ∧ L ≤ w1.heap.size ∧ b1 < w1.heap.size) from ⟨H1.out.1.size, Nat.le_trans hL H1.out.1.size, H1.out.2.lt⟩
    by_cases hlt : k < m.up.length
    · obtain ⟨bu, ou, qu, nu, rfl, hbu, hcu, hiu⟩ := HU.out k hlt
      have HW := show Hid (∀ W, Below w1.heap.size w1 W → (∀ j, j < L → W.heap[j]? = w.heap[j]?) ∧ Tb W ∧ W.cell? ⟨b1, 1, none⟩ = some (.slice pv m.val.length cv) ∧ w1.heap.size ≤ W.heap.size) from fun W hW => ⟨fun j hj => (hW.block j (by have := HLB.out; omega)).trans (H1.out.1.block j (by omega)), (HTT.out.later H1.out.1).later hW, (hW.cell (p := ⟨b1, 1, none⟩) HLB.out.2.2).trans (Cl.cell (T := 25) H1.out.2 1), hW.size⟩
      have cu2 : wr.cell? ⟨bu, ou + k, none⟩ = some (.slice qu m.up[k].length nu) := (World.cell?_of_block (a := ⟨bu, ou + k, none⟩) ((HW.out wr H3.out.2).1 bu hbu)).trans hcu
      have HTX := show Hid (textTo m (k + 1) = textTo m k ++ lineF k m.up[k] (m.val.getD k [])) from by
        show textTo m (k + 1) = textTo m k ++ lineF k m.up[k] (m.val.getD k [])
        rw [textTo_succ, show m.up.getD k [] = m.up[k] by rw [List.getD_eq_getElem?_getD, List.getElem?_eq_getElem hlt]; rfl]
      have hl1 := HLE.out (k + 1) hlt
      rw [HTX.out, List.length_append, ← lineF_le] at hl1
      have HL1 := show Hid _ from hl1
      have KD := show Hid _ from dec_any wr (k : Int) (by omega) (by omega) (HW.out wr H3.out.2).2.1
      have KU := show Hid (∀ W, Below w1.heap.size w1 W → ∀ bs : List UInt8, IsBb w1.heap.size b bs W → (bs ++ rowT [32, 62] (m.up[k].map Lib.itoa)).length ≤ 140737488351232 → Calls Tryd.prog 17 #[.pointer (some ⟨b, 0, none⟩), .string ⟨#[32, 62]⟩, .slice qu m.up[k].length nu, .func (.func 16) #[] #[]] W fun e w' => e = .returned (.tuple #[]) ∧ IsBb w1.heap.size b (bs ++ rowT [32, 62] (m.up[k].map Lib.itoa)) w' ∧ Below w1.heap.size W w') from fun W hW bs hbs hle =>
        putRowI_any W hbs (IsI.keep hiu (HW.out W hW).1) HLB.out.2.1 (HW.out W hW).2.2.2 (HFU.out k hlt).1 ⟨#[32, 62]⟩ ⟨_, [], rfl, cf_dec, fun W' x hW' hx => dec_any W' x ((HFU.out k hlt).2 x hx).1 ((HFU.out k hlt).2 x hx).2 ((HW.out W' (hW.trans hW')).2.1)⟩ hle
      have hki : (k : Int) < (m.up.length : Int) := by omega
      clear hcu hiu HU HFU HLE hl1
      generalize m.up[k] = ru at *
      go_wp2_with fail
      refine Calls.mono KD.out ?_
      rintro e w4 ⟨rfl, hb4⟩
      have H4 := show Hid (IsBb w1.heap.size b (textTo m k) w4 ∧ Below w1.heap.size w1 w4) from ⟨bd_later H3.out.1 hb4, H3.out.2.trans (hb4.mono (HW.out wr H3.out.2).2.2.2)⟩
      have K4 := show Hid _ from put_str w4 H4.out.1 ⟨(Lib.itoa (k : Int)).toArray⟩ (by
          have h9 : (⟨(Lib.itoa (k : Int)).toArray⟩ : ByteArray).size = (Lib.itoa (k : Int)).length := by show (Lib.itoa (k : Int)).toArray.size = _; simp
          rw [h9]; have := HL1.out; omega) (HW.out w4 H4.out.2).2.2.2
      clear hb4 KD H3 cu2
      go_wp2_with fail
      refine Calls.mono K4.out ?_
      rintro e w5 ⟨v5, rfl, hb5, hbel5⟩
      have H5 := show Hid (IsBb w1.heap.size b (textTo m k ++ Lib.itoa (k : Int)) w5 ∧ Below w1.heap.size w1 w5) from ⟨hb5, H4.out.2.trans hbel5⟩
      have K5 := show Hid _ from KU.out w5 H5.out.2 _ H5.out.1 (by simp only [List.length_append]; have := HL1.out; omega)
      clear hb5 hbel5 K4 H4 KU
      go_wp2_with fail
      refine Calls.mono K5.out ?_
      rintro e w6 ⟨rfl, hb6, hbel6⟩
      have H6 := show Hid (IsBb w1.heap.size b (textTo m k ++ Lib.itoa (k : Int) ++ rowT [32, 62] (ru.map Lib.itoa)) w6 ∧ Below w1.heap.size w1 w6) from ⟨hb6, H5.out.2.trans hbel6⟩
      have c6 := (HW.out w6 H6.out.2).2.2.1
      clear hb6 hbel6 K5 H5
      by_cases hkv : k < m.val.length
      · obtain ⟨bv, ov, qv, nv, rfl, hbv, hcv, hiv⟩ := HV.out k hkv
        have cv6 : w6.cell? ⟨bv, ov + k, none⟩ = some (.slice qv m.val[k].length nv) := (World.cell?_of_block (a := ⟨bv, ov + k, none⟩) ((HW.out w6 H6.out.2).1 bv hbv)).trans hcv
        have HG := show Hid (m.val.getD k [] = m.val[k]) from by
          show m.val.getD k [] = m.val[k]
          rw [List.getD_eq_getElem?_getD, List.getElem?_eq_getElem hkv]; rfl
        rw [HG.out] at HL1 HTX
        have K6 := show Hid _ from putRowS_any (fun s => s.data.toList) w6 H6.out.1 (IsN.keep hiv (HW.out w6 H6.out.2).1) HLB.out.2.1 (HW.out w6 H6.out.2).2.2.2 (HFV.out k hkv) ⟨#[32, 58]⟩ (wrt_txt _ w6 _) (by
          simp only [List.length_append]; have := HL1.out; omega)
        have hkvi : (k : Int) < (m.val.length : Int) := by omega
        clear hcv hiv HV HFV HG
        generalize m.val[k] = rv at *
        go_wp2_with fail
        refine Calls.mono K6.out ?_
        rintro e w7 ⟨rfl, hb7, hbel7⟩
        have H7 := show Hid (IsBb w1.heap.size b (textTo m k ++ Lib.itoa (k : Int) ++ rowT [32, 62] (ru.map Lib.itoa) ++ rowT [32, 58] (rv.map fun s => s.data.toList)) w7 ∧ Below w1.heap.size w1 w7) from ⟨hb7, H6.out.2.trans hbel7⟩
        have K7 := show Hid _ from put_byte w7 H7.out.1 10 (by simp only [List.length_append]; have := HL1.out; omega) (HW.out w7 H7.out.2).2.2.2
        clear hb7 hbel7 K6 H6 c6 cv6
        go_wp2_with fail
        refine Calls.mono K7.out ?_
        rintro e w8 ⟨v8, rfl, hb8, hbel8⟩
        have H8 := show Hid (IsBb w1.heap.size b (textTo m (k + 1)) w8 ∧ Below w1.heap.size w1 w8) from ⟨by rw [HTX.out]; unfold lineF; simpa [List.append_assoc] using hb8, H7.out.2.trans hbel8⟩
        clear hb8 hbel8 K7 H7
        go_wp2_with fail
        go_roundw
        case rel => exact ⟨k + 1, by omega, val_int (by omega), H8⟩
        case measure => (simp only [intOf]; omega)
      · have HG := show Hid (m.val.getD k [] = []) from by
          show m.val.getD k [] = []
          rw [List.getD_eq_getElem?_getD, List.getElem?_eq_none (by omega)]; rfl
        rw [HG.out] at HL1 HTX
        have K7 := show Hid _ from put_byte w6 H6.out.1 10 (by simp only [List.length_append]; have := HL1.out; omega) (HW.out w6 H6.out.2).2.2.2
        have hkvi : ¬ (k : Int) < (m.val.length : Int) := by omega
        clear HV HFV HG
        go_wp2_with fail
        refine Calls.mono K7.out ?_
        rintro e w8 ⟨v8, rfl, hb8, hbel8⟩
        have H8 := show Hid (IsBb w1.heap.size b (textTo m (k + 1)) w8 ∧ Below w1.heap.size w1 w8) from ⟨by
          rw [HTX.out]; unfold lineF
          rw [show rowT [32, 58] (([] : List ByteArray).map fun s => s.data.toList) = [] from rfl]
          simpa [List.append_assoc] using hb8, H6.out.2.trans hbel8⟩
        clear hb8 hbel8 K7 H6
        go_wp2_with fail
        go_roundw
        case rel => exact ⟨k + 1, by omega, val_int (by omega), H8⟩
        case measure => (simp only [intOf]; omega)
    · obtain rfl : k = m.up.length := by omega
      have K9 := show Hid _ from Tryd.Builder_String_any w1.heap.size b (textTo m m.up.length) wr H3.out.1 H3.out.2.size
      rw [HE.out] at K9
      clear HU HV HFU HFV HLE
      go_wp2_with fail
      refine Calls.mono K9.out ?_
      rintro e w9 ⟨rfl, hb9⟩
      have H9 := show Hid (Below w.heap.size w w9) from H1.out.1.trans ((H3.out.2.trans hb9).mono H1.out.1.size)
      clear hb9 K9
      go_wp2_with fail
      go_ret
      exact ⟨rfl, H9.out⟩
end Go.Proofs.YtjbnbaiidpdpoaaDoor.Wm
