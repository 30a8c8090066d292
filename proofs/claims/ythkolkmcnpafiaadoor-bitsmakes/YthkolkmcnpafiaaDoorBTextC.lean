/-
  Text: for every set. The tables that TrailingZeros64 and strconv read stand.
-/
import Derived.Test.YthkolkmcnpafiaaDoorBText
namespace Go.Proofs.YthkolkmcnpafiaaDoor
open Go.RowKit Go.Sort
open Bs (Ok wd)

theorem cells_append (a b : List UInt8) : Lib.byteCells (a ++ b) = Lib.byteCells a ++ Lib.byteCells b := by simp [Lib.byteCells]
theorem str_cells (l : List UInt8) : Lib.strCells ⟨l.toArray⟩ = Lib.byteCells l := rfl
/-- What Text's loop holds: the set in its box, the Builder with the bytes l. -/
def TQ (w wr : World) (r : List Nat) (l : List UInt8) : Prop :=
  RowAt wr w.heap.size r ∧ IsBd (w.heap.size + 1) (w.heap.size + 1) (Lib.byteCells l) wr ∧ Below w.heap.size w wr ∧ w.heap.size + 1 < wr.heap.size
theorem TQ.later {w wr w' : World} {r : List Nat} {l : List UInt8} (h : TQ w wr r l) (hb : Below wr.heap.size wr w') : TQ w w' r l :=
  ⟨h.1.keep hb h.1.lt, bd_later h.2.1 hb, h.2.2.1.trans (hb.mono h.2.2.1.size), Nat.lt_of_lt_of_le h.2.2.2 hb.size⟩
theorem TQ.write {w wr w' : World} {r : List Nat} {l l' : List UInt8} (h : TQ w wr r l) (hb : Below (w.heap.size + 1) wr w') (hd : IsBd (w.heap.size + 1) (w.heap.size + 1) (Lib.byteCells l') w') : TQ w w' r l' :=
  ⟨h.1.keep hb (Nat.lt_succ_self _), hd, h.2.2.1.trans (hb.mono (Nat.le_succ _)), Nat.lt_of_lt_of_le h.2.2.2 hb.size⟩
theorem bd_fresh (w : World) (o : Obj) : IsBd (w.heap.size + 1) (w.heap.size + 1) (Lib.byteCells []) ((w.alloc o).alloc (.cells #[.pointer none, .slice none 0 0] 62)) :=
  Or.inl ⟨Nat.le_refl _, .slice none 0 0, (heap_two w _ _).2, World.ownsRow_nil _ _ _ _, by simp [Value.ownBlock]⟩
/-- What Next hands back first. -/
def nxF (o : Option Nat) : Value := .int .i64 (match o with | none => 0 | some m => (m : Int))
theorem nextV_eq (o : Option Nat) : nextV o = .tuple #[nxF o, .bool o.isSome] := by cases o <;> rfl
theorem nextI_nat (r : List Nat) (n : Nat) : nextI r (n : Int) = Bs.next r n := by rw [nextI, Int.toNat_natCast]
/-- What is left to go through. -/
def left (f ok : Value) : Nat := match ok with | .bool true => 1025 - (intOf f).toNat | _ => 0
theorem left_less (o : Option Nat) {m : Nat} (hm : m < 1024) (h : ∀ q, o = some q → m < q) : left (nxF o) (.bool o.isSome) < left (.int .i64 (m : Int)) (.bool true) := by
  cases o with
  | none => simp only [left, intOf, Option.isSome]; omega
  | some q =>
    have := h q rfl
    simp only [left, intOf, nxF, Option.isSome]
    omega
set_option maxRecDepth 100000 in
set_option maxHeartbeats 4000000 in
theorem text_any (w : World) (hT : Tabs w) {r : List Nat} (hr : Ok r) : Calls Tryd.prog 34 #[.agg (cellsB r)] w fun e w' => e = .returned (.string ⟨(Bs.text r).toArray⟩) ∧ Below w.heap.size w w' := by
  have KN := show Hid (∀ (n : Nat) wr, n ≤ 1024 → Below w.heap.size w wr → Calls Tryd.prog 20 #[.agg (cellsB r), .int .i64 (n : Int)] wr fun e w' => e = .returned (.tuple #[nxF (Bs.next r n), .bool (Bs.next r n).isSome]) ∧ w' = wr.alloc (.cells (cellsB r) 25)) from fun n wr hn hb => by
    have := next_any wr (hT.later hb).1 hr (n : Int) (by omega)
    rwa [nextI_nat, nextV_eq] at this
  have KE := show Hid (∀ (f : Nat) wr, f < 1024 → Calls Tryd.prog 44 #[.agg (cellsB r), .int .i64 (f : Int)] wr fun e w' => e = .returned (.int .i64 ((Bs.ende r f : Nat) : Int)) ∧ Below wr.heap.size wr w') from fun f wr hf => runEnd_any wr hr f hf
  have KT := show Hid (∀ (f l : Nat) wr, f < 1024 → l < 1024 → Below w.heap.size w wr → Calls Tryd.prog 48 #[.int .i64 (f : Int), .int .i64 (l : Int)] wr fun e w' => e = .returned (.string ⟨(Bs.runT (f, l)).toArray⟩) ∧ Below wr.heap.size wr w') from fun f l wr hf hl hb => runText_any wr f l hf hl (hT.later hb)
  have HL := show Hid (r.length = 16) from hr.1
  have HOK := show Hid (Ok r) from hr
  have HS := show Hid (TQ w ((w.alloc (.cells (cellsB r) 25)).alloc (.cells #[.pointer none, .slice none 0 0] 62)) r []) from ⟨(heap_two w _ _).1, bd_fresh w _, below_two w _ _, by simp⟩
  have KN0 := show Hid (Calls Tryd.prog 20 #[.agg (cellsB r), .int .i64 0] ((w.alloc (.cells (cellsB r) 25)).alloc (.cells #[.pointer none, .slice none 0 0] 62)) fun e w' => e = .returned (.tuple #[nxF (Bs.next r 0), .bool (Bs.next r 0).isSome]) ∧ w' = ((w.alloc (.cells (cellsB r) 25)).alloc (.cells #[.pointer none, .slice none 0 0] 62)).alloc (.cells (cellsB r) 25)) from KN.out 0 _ (by omega) (below_two w _ _)
  clear hr hT
  go_enter Tryd.func34, Tryd.ntmps34
  go_wp2_with (first | (refine wpList_load16 _ rfl _ rfl _ rfl (r := r) HS.out.1 HL.out ?_) | (go_at_call 20; refine KN0.out.mono ?_; rintro e w' ⟨rfl, hw⟩; have HS2 := show Hid (TQ w w' r []) from (by rw [hw]; exact HS.out.later (below_alloc _ _)); clear hw))
  clear KN0 HS
  go_loopw [4, 5] (fun f ok wr => ∃ (n : Nat) (l : List UInt8), n ≤ 1024 ∧ l.length ≤ 10 * n ∧ f = nxF (Bs.next r n) ∧ ok = .bool (Bs.next r n).isSome ∧ Hid (Bs.Clean r n ∧ (Bs.runs r n).foldl Bs.add l = Bs.text r ∧ TQ w wr r l)) (fun f ok _ => left f ok)
  case atStart => exact ⟨0, [], by omega, by simp, rfl, rfl, Or.inl rfl, rfl, HS2.out⟩
  case round =>
    obtain ⟨n, l, hn, hl, rfl, rfl, HQ⟩ := hrel
    clear HS2
    cases hx : Bs.next r n with
    | none =>
      have HE := show Hid (Bs.text r = l) from by
        have := HQ.out.2.1
        rw [Bs.runs_none HOK.out hx] at this
        exact this.symm
      have KS := show Hid (Calls Tryd.prog 49 #[.pointer (some ⟨w.heap.size + 1, 0, none⟩)] wr fun e w' => e = .returned (.string ⟨l.toArray⟩) ∧ Below (w.heap.size + 1) wr w') from Tryd.Builder_String_any (w.heap.size + 1) (w.heap.size + 1) l wr HQ.out.2.2.2.1 (by have := HQ.out.2.2.2.2.2; omega)
      clear KN KE KT
      go_wp2_with (go_at_call 49; refine KS.out.mono ?_; rintro e w' ⟨rfl, hb⟩; have HB := show Hid (Below w.heap.size w w') from HQ.out.2.2.2.2.1.trans (hb.mono (Nat.le_succ _)); clear hb)
      go_ret
      exact ⟨ret_string (by rw [HE.out]), HB.out⟩
    | some m =>
      obtain ⟨hm1, hm2, hm3, hm4⟩ := Bs.next_lt hx
      have he := Bs.ende_spec HOK.out hm2
      have HE := show Hid (Bs.Clean r (Bs.ende r m + 1) ∧ (Bs.runs r (Bs.ende r m + 1)).foldl Bs.add (Bs.add l (m, Bs.ende r m)) = Bs.text r ∧ (Bs.add l (m, Bs.ende r m)).length ≤ 10 * (Bs.ende r m + 1)) from by
        refine ⟨Bs.clean_ende HOK.out hm2, ?_, ?_⟩
        · have := HQ.out.2.1
          rw [Bs.runs_some HOK.out HQ.out.1 hx] at this
          exact this
        · have := Bs.add_len (s := l) (p := (m, Bs.ende r m)) hm2 he.2.1
          omega
      have KE2 := show Hid (∀ wr, Calls Tryd.prog 44 #[.agg (cellsB r), .int .i64 (m : Int)] wr fun e w' => e = .returned (.int .i64 ((Bs.ende r m : Nat) : Int)) ∧ Below wr.heap.size wr w') from fun wr => KE.out m wr hm2
      have KT2 := show Hid (∀ wr, Below w.heap.size w wr → Calls Tryd.prog 48 #[.int .i64 (m : Int), .int .i64 ((Bs.ende r m : Nat) : Int)] wr fun e w' => e = .returned (.string ⟨(Bs.runT (m, Bs.ende r m)).toArray⟩) ∧ Below wr.heap.size wr w') from fun wr hb => KT.out m _ wr hm2 he.2.1 hb
      have KN2 := show Hid (∀ wr, Below w.heap.size w wr → Calls Tryd.prog 20 #[.agg (cellsB r), .int .i64 (((Bs.ende r m : Nat) : Int) + 1)] wr fun e w' => e = .returned (.tuple #[nxF (Bs.next r (Bs.ende r m + 1)), .bool (Bs.next r (Bs.ende r m + 1)).isSome]) ∧ w' = wr.alloc (.cells (cellsB r) 25)) from fun wr hb => by
        have := KN.out (Bs.ende r m + 1) wr (by omega) hb
        rwa [show (((Bs.ende r m + 1 : Nat)) : Int) = ((Bs.ende r m : Nat) : Int) + 1 by simp] at this
      have hrl := Bs.runT_len (p := (m, Bs.ende r m)) hm2 he.2.1
      have hME : m ≤ Bs.ende r m ∧ Bs.ende r m < 1024 := ⟨he.1, he.2.1⟩
      have HAD := show Hid (Bs.add l (m, Bs.ende r m) = (if l = [] then [] else l ++ [44]) ++ Bs.runT (m, Bs.ende r m)) from rfl
      have HNE := show Hid (∀ q, Bs.next r (Bs.ende r m + 1) = some q → Bs.ende r m < q ∧ q < 1024) from fun q hq => by
        have := Bs.next_lt hq
        omega
      clear KN KE KT he hx hm3 hm4
      generalize Bs.runT (m, Bs.ende r m) = rt at *
      generalize Bs.add l (m, Bs.ende r m) = l2 at *
      generalize Bs.ende r m = E at *
      have hlt : l.length ≤ 10240 := by omega
      by_cases hl0 : l = []
      · subst hl0
        have HL2 := show Hid (l2 = rt) from HAD.out
        have KL := show Hid (∀ wr, IsBd (w.heap.size + 1) (w.heap.size + 1) (Lib.byteCells []) wr → Calls Tryd.prog 45 #[.pointer (some ⟨w.heap.size + 1, 0, none⟩)] wr fun e w' => e = .returned (.int .i64 0) ∧ w' = wr) from fun wr h => Tryd.Builder_Len _ _ _ wr h
        have KW := show Hid (∀ wr, IsBd (w.heap.size + 1) (w.heap.size + 1) (Lib.byteCells []) wr → w.heap.size + 1 ≤ wr.heap.size → Calls Tryd.prog 47 #[.pointer (some ⟨w.heap.size + 1, 0, none⟩), .string ⟨rt.toArray⟩] wr fun e w' => e = .returned (.tuple #[.int .i64 ((⟨rt.toArray⟩ : ByteArray).size : Int), .nilIface]) ∧ IsBd (w.heap.size + 1) (w.heap.size + 1) (Lib.byteCells rt) w' ∧ Below (w.heap.size + 1) wr w') from fun wr h hs => by
          have := write_str wr h ⟨rt.toArray⟩ (by simp [Lib.byteCells, ByteArray.size]; omega) hs
          rwa [str_cells, ← cells_append, List.nil_append] at this
        generalize ((⟨rt.toArray⟩ : ByteArray).size : Int) = sz at *
        generalize (⟨rt.toArray⟩ : ByteArray) = rs at *
        clear HAD
        go_wp2_with (first | (refine wpList_load16 _ rfl _ rfl _ rfl (r := r) (by first | exact HT5.out.1 | exact HQ.out.2.2.1) HL.out ?_) | (go_at_call 44; refine (KE2.out _).mono ?_; rintro e w2 ⟨rfl, hb⟩; have HT2 := show Hid (TQ w w2 r []) from HQ.out.2.2.later hb; clear hb) | (go_at_call 45; refine (KL.out _ HT2.out.2.1).mono ?_; rintro e w3 ⟨rfl, rfl⟩) | (go_at_call 48; refine (KT2.out _ HT2.out.2.2.1).mono ?_; rintro e w4 ⟨rfl, hb⟩; have HT4 := show Hid (TQ w w4 r []) from HT2.out.later hb; clear hb) | (go_at_call 47; refine (KW.out _ HT4.out.2.1 (by have := HT4.out.2.2.2; omega)).mono ?_; rintro e w5 ⟨rfl, hd, hb⟩; have HT5 := show Hid (TQ w w5 r rt) from HT4.out.write hb hd; clear hd hb) | (go_at_call 20; refine (KN2.out _ HT5.out.2.2.1).mono ?_; rintro e w6 ⟨rfl, hw⟩; have HT6 := show Hid (TQ w w6 r rt) from (by rw [hw]; exact HT5.out.later (below_alloc _ _)); clear hw))
        go_roundw
        case rel => exact ⟨E + 1, rt, by omega, by have := HE.out.2.2; rw [HL2.out] at this; exact this, rfl, rfl, HE.out.1, by have := HE.out.2.1; rw [HL2.out] at this; exact this, HT6.out⟩
        case measure => exact left_less _ hm2 fun q hq => by have := HNE.out q hq; omega
      · have HL2 := show Hid (l2 = l ++ [44] ++ rt) from by
          have := HAD.out
          rw [if_neg hl0] at this
          exact this
        have hpos : 0 < l.length := List.length_pos_iff.2 hl0
        have KL := show Hid (∀ wr, IsBd (w.heap.size + 1) (w.heap.size + 1) (Lib.byteCells l) wr → Calls Tryd.prog 45 #[.pointer (some ⟨w.heap.size + 1, 0, none⟩)] wr fun e w' => e = .returned (.int .i64 (l.length : Int)) ∧ w' = wr) from fun wr h => by
          have := Tryd.Builder_Len _ _ _ wr h
          rwa [Lib.byteCells_length] at this
        have KB := show Hid (∀ wr, IsBd (w.heap.size + 1) (w.heap.size + 1) (Lib.byteCells l) wr → w.heap.size + 1 ≤ wr.heap.size → Calls Tryd.prog 46 #[.pointer (some ⟨w.heap.size + 1, 0, none⟩), .int .u8 44] wr fun e w' => e = .returned .nilIface ∧ IsBd (w.heap.size + 1) (w.heap.size + 1) (Lib.byteCells (l ++ [44])) w' ∧ Below (w.heap.size + 1) wr w') from fun wr h hs => by
          have := write_byte wr h 44 (by rw [Lib.byteCells_length]; omega) hs
          rw [show [Value.int .u8 (((44 : UInt8).toNat : Nat) : Int)] = Lib.byteCells [44] by rfl, ← cells_append] at this
          exact this
        have KW := show Hid (∀ wr, IsBd (w.heap.size + 1) (w.heap.size + 1) (Lib.byteCells (l ++ [44])) wr → w.heap.size + 1 ≤ wr.heap.size → Calls Tryd.prog 47 #[.pointer (some ⟨w.heap.size + 1, 0, none⟩), .string ⟨rt.toArray⟩] wr fun e w' => e = .returned (.tuple #[.int .i64 ((⟨rt.toArray⟩ : ByteArray).size : Int), .nilIface]) ∧ IsBd (w.heap.size + 1) (w.heap.size + 1) (Lib.byteCells (l ++ [44] ++ rt)) w' ∧ Below (w.heap.size + 1) wr w') from fun wr h hs => by
          have := write_str wr h ⟨rt.toArray⟩ (by simp [Lib.byteCells, ByteArray.size]; omega) hs
          rwa [str_cells, ← cells_append] at this
        generalize ((⟨rt.toArray⟩ : ByteArray).size : Int) = sz at *
        generalize (⟨rt.toArray⟩ : ByteArray) = rs at *
        clear HAD hl0
        go_wp2_with (first | (refine wpList_load16 _ rfl _ rfl _ rfl (r := r) (by first | exact HT5.out.1 | exact HQ.out.2.2.1) HL.out ?_) | (go_at_call 44; refine (KE2.out _).mono ?_; rintro e w2 ⟨rfl, hb⟩; have HT2 := show Hid (TQ w w2 r l) from HQ.out.2.2.later hb; clear hb) | (go_at_call 45; refine (KL.out _ HT2.out.2.1).mono ?_; rintro e w3 ⟨rfl, rfl⟩) | (go_at_call 46; refine (KB.out _ HT2.out.2.1 (by have := HT2.out.2.2.2; omega)).mono ?_; rintro e w3 ⟨rfl, hd, hb⟩; have HT3 := show Hid (TQ w w3 r (l ++ [44])) from HT2.out.write hb hd; clear hd hb) | (go_at_call 48; refine (KT2.out _ HT3.out.2.2.1).mono ?_; rintro e w4 ⟨rfl, hb⟩; have HT4 := show Hid (TQ w w4 r (l ++ [44])) from HT3.out.later hb; clear hb) | (go_at_call 47; refine (KW.out _ HT4.out.2.1 (by have := HT4.out.2.2.2; omega)).mono ?_; rintro e w5 ⟨rfl, hd, hb⟩; have HT5 := show Hid (TQ w w5 r (l ++ [44] ++ rt)) from HT4.out.write hb hd; clear hd hb) | (go_at_call 20; refine (KN2.out _ HT5.out.2.2.1).mono ?_; rintro e w6 ⟨rfl, hw⟩; have HT6 := show Hid (TQ w w6 r (l ++ [44] ++ rt)) from (by rw [hw]; exact HT5.out.later (below_alloc _ _)); clear hw))
        go_roundw
        case rel => exact ⟨E + 1, l ++ [44] ++ rt, by omega, by have := HE.out.2.2; rw [HL2.out] at this; exact this, rfl, rfl, HE.out.1, by have := HE.out.2.1; rw [HL2.out] at this; exact this, HT6.out⟩
        case measure => exact left_less _ hm2 fun q hq => by have := HNE.out q hq; omega
end Go.Proofs.YthkolkmcnpafiaaDoor
