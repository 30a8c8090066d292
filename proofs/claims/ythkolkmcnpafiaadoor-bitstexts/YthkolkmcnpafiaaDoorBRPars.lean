/-
  The document's Parse: for every text. No condition.
-/
import Derived.Test.YthkolkmcnpafiaaDoorBRTextC
import Derived.Test.YthkolkmcnpafiaaDoorBGo
namespace Go.Proofs.YthkolkmcnpafiaaDoor
open Go.RowKit
open Bs (Ok wd)

def fsV (o : Option Nat) : Int := match o with | none => -1 | some f => (f : Int)
theorem ext_piece (s : ByteArray) (a k : Nat) : (s.extract a k).data.toList = (s.data.toList.drop a).take (k - a) := by
  rw [ByteArray.data_extract]
  simp
theorem piece_more {l : List UInt8} {a k : Nat} (ha : a ≤ k) (hk : k < l.length) : (l.drop a).take (k - a) ++ [l[k]] = (l.drop a).take (k + 1 - a) := by
  rw [show k + 1 - a = (k - a) + 1 by omega, List.take_succ_eq_append_getElem (by simp; omega)]
  simp [show a + (k - a) = k by omega]
theorem piece_none (l : List UInt8) (k : Nat) : (l.drop (k + 1)).take (k + 1 - (k + 1)) = [] := by simp
/-- What a round finds: the piece so far, the first number of a run, the set so far. -/
def GoAt (l : List UInt8) (G : Option (List Nat)) (k a : Nat) (fs : Option Nat) (b : List Nat) : Prop := (k ≤ l.length ∧ Bs.go (l.drop k) ((l.drop a).take (k - a)) fs b = G) ∨ (k = l.length + 1 ∧ G = some b)
theorem go_digit {l : List UInt8} {G : Option (List Nat)} {k a : Nat} {fs : Option Nat} {b : List Nat} (h : GoAt l G k a fs b) (ha : a ≤ k) (hk : k < l.length) (hd : Bs.dg l[k] = true) : GoAt l G (k + 1) a fs b := by
  rcases h with ⟨_, h⟩ | ⟨h, _⟩
  · left
    rw [List.drop_eq_getElem_cons hk, Bs.go, if_pos hd, piece_more ha hk] at h
    exact ⟨by omega, h⟩
  · omega
theorem go_bad {l : List UInt8} {G : Option (List Nat)} {k a : Nat} {fs : Option Nat} {b : List Nat} (h : GoAt l G k a fs b) (hk : k ≤ l.length) (hd : ∀ hk : k < l.length, Bs.dg l[k] = false) (hn : Bs.num ((l.drop a).take (k - a)) = none) : G = none := by
  rcases h with ⟨_, h⟩ | ⟨h, _⟩
  · by_cases hlt : k < l.length
    · rw [List.drop_eq_getElem_cons hlt, Bs.go, if_neg (by rw [hd hlt]; decide), hn] at h
      exact h.symm
    · rw [List.drop_eq_nil_of_le (by omega), Bs.go, hn] at h
      exact h.symm
  · omega
theorem go_next {l : List UInt8} {G : Option (List Nat)} {k a n : Nat} {fs : Option Nat} {b : List Nat} (h : GoAt l G k a fs b) (hk : k < l.length) (hd : Bs.dg l[k] = false) (hn : Bs.num ((l.drop a).take (k - a)) = some n) : GoAt l G (k + 1) (k + 1) (if l[k] = 45 then some n else none) (Bs.ap fs n b) := by
  rcases h with ⟨_, h⟩ | ⟨h, _⟩
  · left
    rw [List.drop_eq_getElem_cons hk, Bs.go, if_neg (by rw [hd]; decide), hn] at h
    refine ⟨by omega, ?_⟩
    rw [piece_none]
    exact h
  · omega
theorem go_last {l : List UInt8} {G : Option (List Nat)} {a n : Nat} {fs : Option Nat} {b : List Nat} (h : GoAt l G l.length a fs b) (hn : Bs.num ((l.drop a).take (l.length - a)) = some n) : GoAt l G (l.length + 1) (l.length + 1) none (Bs.ap fs n b) := by
  rcases h with ⟨_, h⟩ | ⟨h, _⟩
  · right
    rw [List.drop_eq_nil_of_le (Nat.le_refl _), Bs.go, hn] at h
    exact ⟨rfl, h.symm⟩
  · omega
/-- The set with the numbers from f on, d of them. -/
def upTo (b : List Nat) (f : Nat) : Nat → List Nat
  | 0 => b
  | d + 1 => Bs.put (upTo b f d) (f + d)
theorem upTo_ok {b : List Nat} (h : Ok b) (f : Nat) : ∀ d, Ok (upTo b f d)
  | 0 => h
  | d + 1 => Bs.put_ok (upTo_ok h f d) _
theorem upTo_all (b : List Nat) (f : Nat) : ∀ d, upTo b f (d + 1) = Bs.putAll b f d
  | 0 => rfl
  | d + 1 => by
    show Bs.put (upTo b f (d + 1)) (f + (d + 1)) = _
    rw [upTo_all b f d]
    rfl
theorem upTo_ap (b : List Nat) (f n : Nat) : upTo b f (n + 1 - f) = Bs.ap (some f) n b := by
  show _ = if f ≤ n then _ else _
  by_cases h : f ≤ n
  · rw [if_pos h, show n + 1 - f = (n - f) + 1 by omega, upTo_all]
  · rw [if_neg h, show n + 1 - f = 0 by omega]
    rfl
set_option maxRecDepth 100000 in
set_option maxHeartbeats 8000000 in
theorem rparse_none (w : World) (s : ByteArray) (hl0 : s.data.toList = []) : Calls Tryd.prog 36 #[.string s] w fun e w' => e = .returned (.tuple #[.agg (cellsB (parR (Bs.parse s.data.toList)).1), .int .i64 (parR (Bs.parse s.data.toList)).2]) ∧ Below w.heap.size w w' := by
  have HR := show Hid (Bs.rparse s.data.toList = Bs.parse s.data.toList) from Bs.rparse_eq _
  have HT := show Hid (PQ w ((w.alloc (.cells #[.int .u64 0, .int .u64 0, .int .u64 0, .int .u64 0, .int .u64 0, .int .u64 0, .int .u64 0, .int .u64 0, .int .u64 0, .int .u64 0, .int .u64 0, .int .u64 0, .int .u64 0, .int .u64 0, .int .u64 0, .int .u64 0] 25)).alloc (.cells (cellsB Bs.zero) 25)) Bs.zero) from ⟨(heap_two w _ _).1, (heap_two w _ _).2, below_two w _ _⟩
  have hsz1 : (w.alloc (.cells #[.int .u64 0, .int .u64 0, .int .u64 0, .int .u64 0, .int .u64 0, .int .u64 0, .int .u64 0, .int .u64 0, .int .u64 0, .int .u64 0, .int .u64 0, .int .u64 0, .int .u64 0, .int .u64 0, .int .u64 0, .int .u64 0] 25)).heap.size = w.heap.size + 1 := by simp
  have KX := show Hid (∀ b, Ok b → ∀ w, Calls Tryd.prog 37 #[.agg (cellsB b)] w fun e w' => e = .returned (.string (strB (Bs.text b))) ∧ Below w.heap.size w w') from fun b hb w => rtext_any w hb
  have HZL := show Hid (Bs.zero.length = 16) from Bs.zero_ok.1
  have HSE := show Hid (strB s.data.toList = s) from strB_self s
  have HSL := show Hid (s.size = s.data.toList.length) from rfl
  have e0 : s = ⟨#[]⟩ := by rw [← HSE.out, hl0]; rfl
  have HRR := show Hid (Bs.parse s.data.toList = some Bs.zero) from by
    show Bs.parse s.data.toList = some Bs.zero
    rw [Bs.parse, if_pos hl0]
  have HTZ := show Hid (strB (Bs.text Bs.zero) = ⟨#[]⟩) from by
    have := (Bs.parse_some (show Bs.parse [] = some Bs.zero by rw [Bs.parse, if_pos rfl])).2
    show strB (Bs.text Bs.zero) = _
    rw [this]; rfl
  have KX2 := show Hid (∀ w, Calls Tryd.prog 37 #[.agg (cellsB Bs.zero)] w fun e w' => e = .returned (.string ⟨#[]⟩) ∧ Below w.heap.size w w') from fun w => by
    have := KX.out Bs.zero Bs.zero_ok w
    rwa [HTZ.out] at this
  generalize Bs.parse s.data.toList = R at *
  subst e0
  clear hl0 KX HTZ HSE HSL HR
  go_enter Tryd.func36, Tryd.ntmps36
  go_wp2_with (refine wpList_st (w.alloc (.cells #[.int .u64 0, .int .u64 0, .int .u64 0, .int .u64 0, .int .u64 0, .int .u64 0, .int .u64 0, .int .u64 0, .int .u64 0, .int .u64 0, .int .u64 0, .int .u64 0, .int .u64 0, .int .u64 0, .int .u64 0, .int .u64 0] 25)) _ _ _ rfl rfl rfl rfl (by rw [hsz1]; rfl) (r' := Bs.zero) rfl HZL.out ?_)
  clear hsz1
  generalize ((w.alloc (.cells #[.int .u64 0, .int .u64 0, .int .u64 0, .int .u64 0, .int .u64 0, .int .u64 0, .int .u64 0, .int .u64 0, .int .u64 0, .int .u64 0, .int .u64 0, .int .u64 0, .int .u64 0, .int .u64 0, .int .u64 0, .int .u64 0] 25)).alloc (.cells (cellsB Bs.zero) 25)) = w0 at *
  go_loopw [5, 6, 7] (fun av fv iv wr => av = .int .i64 0 ∧ fv = .int .i64 (-1) ∧ iv = .int .i64 0 ∧ wr = w0) (fun _ _ _ _ => 0)
  case atStart => exact ⟨rfl, rfl, rfl, rfl⟩
  case round =>
    obtain ⟨rfl, rfl, rfl, rfl⟩ := hrel
    go_wp2_with (first | (refine wpList_ld _ _ rfl _ rfl (r := Bs.zero) HT.out.2.1 HZL.out rfl ?_) | (go_at_call 37; refine (KX2.out _).mono ?_; rintro e w1 ⟨rfl, hb⟩; have HT1 := show Hid (PQ w w1 Bs.zero) from HT.out.later hb; clear hb HT) | (refine wpList_ld _ _ rfl _ rfl (r := Bs.zero) HT1.out.2.1 HZL.out rfl ?_) | (refine wpList_store16 _ rfl rfl _ _ rfl _ rfl (r' := Bs.zero) rfl (r := Bs.zero) HT1.out.1 HZL.out HZL.out ?_))
    refine bodyPost_ret (results_bits_tmp rfl _ _ w.heap.size (r := Bs.zero) rfl (RowAt.setRow (r := Bs.zero) HT1.out.1 Bs.zero) HZL.out) rfl ?_
    exact ⟨by rw [HRR.out]; rfl, below_setRow HT1.out.2.2 (Nat.le_refl _) _⟩
theorem index_str (s : ByteArray) {k : Nat} (hk : k < s.data.toList.length) (w : World) : (Instr.index 9 (.string s) (.int .i64 (k : Int))).run Tryd.prog w = .ok (.int .u8 ((s.data.toList[k].toNat : Nat) : Int)) w := by
  have hk2 : k < s.size := hk
  unfold Instr.index
  simp only [Sem.run_bind, run_underlying Tryd.underlying9, Result.andThen_ok, show (asIntOf (.int .i64 (k : Int))).run Tryd.prog w = .ok (.i64, (k : Int)) w from rfl, if_pos (show (0 : Int) ≤ (k : Int) by omega), Int.toNat_natCast, getElem?_pos s k hk2]
  rfl
set_option maxRecDepth 100000 in
set_option maxHeartbeats 8000000 in
theorem rparse_any (w : World) (s : ByteArray) (hs : s.size ≤ 140737488355328) : Calls Tryd.prog 36 #[.string s] w fun e w' => e = .returned (.tuple #[.agg (cellsB (parR (Bs.parse s.data.toList)).1), .int .i64 (parR (Bs.parse s.data.toList)).2]) ∧ Below w.heap.size w w' := by
  have HR := show Hid (Bs.rparse s.data.toList = Bs.parse s.data.toList) from Bs.rparse_eq _
  have HT := show Hid (PQ w ((w.alloc (.cells #[.int .u64 0, .int .u64 0, .int .u64 0, .int .u64 0, .int .u64 0, .int .u64 0, .int .u64 0, .int .u64 0, .int .u64 0, .int .u64 0, .int .u64 0, .int .u64 0, .int .u64 0, .int .u64 0, .int .u64 0, .int .u64 0] 25)).alloc (.cells (cellsB Bs.zero) 25)) Bs.zero) from ⟨(heap_two w _ _).1, (heap_two w _ _).2, below_two w _ _⟩
  have hsz1 : (w.alloc (.cells #[.int .u64 0, .int .u64 0, .int .u64 0, .int .u64 0, .int .u64 0, .int .u64 0, .int .u64 0, .int .u64 0, .int .u64 0, .int .u64 0, .int .u64 0, .int .u64 0, .int .u64 0, .int .u64 0, .int .u64 0, .int .u64 0] 25)).heap.size = w.heap.size + 1 := by simp
  have KX := show Hid (∀ b, Ok b → ∀ w, Calls Tryd.prog 37 #[.agg (cellsB b)] w fun e w' => e = .returned (.string (strB (Bs.text b))) ∧ Below w.heap.size w w') from fun b hb w => rtext_any w hb
  have HZL := show Hid (Bs.zero.length = 16) from Bs.zero_ok.1
  have HSE := show Hid (strB s.data.toList = s) from strB_self s
  have HSL := show Hid (s.size = s.data.toList.length) from rfl
  by_cases hl0 : s.data.toList = []
  · exact rparse_none w s hl0
  · have hem : s.toList.isEmpty = false := by
      rw [ByteArray.toList_eq]
      cases hq : s.data.toList with
      | nil => exact absurd hq hl0
      | cons _ _ => rfl
    have HG := show Hid (Bs.parse s.data.toList = match Bs.go s.data.toList [] none Bs.zero with | none => none | some b => if Bs.text b = s.data.toList then some b else none) from by
      show Bs.parse s.data.toList = _
      rw [← HR.out, Bs.rparse, if_neg hl0]
      rfl
    have HG0 := show Hid (GoAt s.data.toList (Bs.go s.data.toList [] none Bs.zero) 0 0 none Bs.zero) from Or.inl ⟨Nat.zero_le _, rfl⟩
    have HTX := show Hid (∀ b, (Bs.text b = s.data.toList → strB (Bs.text b) = s) ∧ (Bs.text b ≠ s.data.toList → strB (Bs.text b) ≠ s)) from fun b => ⟨fun h => by rw [h, HSE.out], fun h e => h (by rw [← e]; rfl)⟩
    have KU := show Hid (∀ (a k : Nat) w, Calls Tryd.prog 53 #[.string (s.extract a k), .int .i64 1023] w fun e w' => e = .returned (.tuple #[.int .i64 (numR (Bs.num ((s.data.toList.drop a).take (k - a)))).1, .int .i64 (numR (Bs.num ((s.data.toList.drop a).take (k - a)))).2]) ∧ Below w.heap.size w w') from fun a k w => by
      have hsz : (s.extract a k).size ≤ 9223372036854775807 := by
        show (s.extract a k).data.toList.length ≤ _
        rw [ext_piece]
        have h1 := List.length_take_le (k - a) (s.data.toList.drop a)
        rw [List.length_take, List.length_drop]
        have := HSL.out
        omega
      have := rundec_all w (s.extract a k) 1023 hsz
      rwa [undec_num, ext_piece] at this
    have KW := show Hid (∀ (b : List Nat) (m : Nat) w, Ok b → m < 1024 → Calls Tryd.prog 40 #[.agg (cellsB b), .int .i64 (m : Int)] w fun e w' => e = .returned (.agg (cellsB (Bs.put b m))) ∧ Below w.heap.size w w') from fun b m w hb hm => with_any w hb m hm
    have HIX := show Hid (∀ (k : Nat) (hk : k < s.data.toList.length) w, (Instr.index 9 (.string s) (.int .i64 (k : Int))).run Tryd.prog w = .ok (.int .u8 ((s.data.toList[k].toNat : Nat) : Int)) w) from fun k hk w => index_str s hk w
    have hSL := HSL.out
    clear hl0 HR HSE HSL
    generalize Bs.parse s.data.toList = R at *
    generalize Bs.go s.data.toList [] none Bs.zero = G at *
    generalize s.data.toList = l at *
    go_enter Tryd.func36, Tryd.ntmps36
    go_wp2_with (refine wpList_st (w.alloc (.cells #[.int .u64 0, .int .u64 0, .int .u64 0, .int .u64 0, .int .u64 0, .int .u64 0, .int .u64 0, .int .u64 0, .int .u64 0, .int .u64 0, .int .u64 0, .int .u64 0, .int .u64 0, .int .u64 0, .int .u64 0, .int .u64 0] 25)) _ _ _ rfl rfl rfl rfl (by rw [hsz1]; rfl) (r' := Bs.zero) rfl HZL.out ?_)
    clear hsz1
    generalize ((w.alloc (.cells #[.int .u64 0, .int .u64 0, .int .u64 0, .int .u64 0, .int .u64 0, .int .u64 0, .int .u64 0, .int .u64 0, .int .u64 0, .int .u64 0, .int .u64 0, .int .u64 0, .int .u64 0, .int .u64 0, .int .u64 0, .int .u64 0] 25)).alloc (.cells (cellsB Bs.zero) 25)) = w0 at *
    go_loopw [5, 6, 7] (fun av fv iv wr => ∃ (k a : Nat) (fs : Option Nat) (b : List Nat), k ≤ s.size + 1 ∧ a ≤ k ∧ av = .int .i64 (a : Int) ∧ fv = .int .i64 (fsV fs) ∧ iv = .int .i64 (k : Int) ∧ Hid (Ok b ∧ PQ w wr b ∧ (∀ f, fs = some f → f < 1024) ∧ GoAt l G k a fs b)) (fun _ _ iv _ => s.size + 1 - (intOf iv).toNat)
    case atStart => exact ⟨0, 0, none, Bs.zero, by omega, Nat.le_refl _, rfl, rfl, rfl, Bs.zero_ok, HT.out, fun f h => (nomatch h), HG0.out⟩
    case round =>
      obtain ⟨k, a, fs, b, hk, hak, rfl, rfl, rfl, HQ⟩ := hrel
      clear HT HG0
      have HLB := show Hid (b.length = 16) from HQ.out.1.1
      by_cases hle : k ≤ s.size
      · have hleI : (k : Int) ≤ (s.size : Int) := by omega
        have hakI : (a : Int) ≤ (k : Int) := by omega
        by_cases hlt : k < s.size
        · have hltl : k < l.length := by omega
          have hltI : (k : Int) < (s.size : Int) := by omega
          have hix := HIX.out k hltl
          by_cases hdg : 48 ≤ l[k].toNat ∧ l[k].toNat ≤ 57
          · have HNX := show Hid (GoAt l G (k + 1) a fs b) from go_digit HQ.out.2.2.2 hak hltl (by unfold Bs.dg; rw [decide_eq_true hdg.1, decide_eq_true hdg.2]; rfl)
            obtain ⟨hd1, hd2⟩ := hdg
            generalize l[k].toNat = cn at *
            clear KU KW KX HIX HTX HG
            go_wp2
            go_roundw
            case rel => exact ⟨k + 1, a, fs, b, by omega, by omega, rfl, rfl, val_int (by omega), HQ.out.1, HQ.out.2.1, HQ.out.2.2.1, HNX.out⟩
            case measure => (simp only [intOf]; omega)
          · have hdf : Bs.dg l[k] = false := by
              cases h : Bs.dg l[k]
              · rfl
              · exfalso; apply hdg; simpa [Bs.dg] using h
            clear HIX
            by_cases h45 : l[k] = 45
            · have hc : l[k].toNat = 45 := by rw [h45]; rfl
              rw [hc] at hix
              cases hn : Bs.num ((l.drop a).take (k - a)) with
              | none =>
                have HRR := show Hid (R = none) from by
                  show R = none
                  rw [HG.out, go_bad HQ.out.2.2.2 (by omega) (fun _ => hdf) hn]
                have KU2 := show Hid (∀ w, Calls Tryd.prog 53 #[.string (s.extract a k), .int .i64 1023] w fun e w' => e = .returned (.tuple #[.int .i64 0, .int .i64 2]) ∧ Below w.heap.size w w') from fun w => by
                  have := KU.out a k w
                  rwa [hn] at this
                clear KU KW KX HTX HG hn hdf hdg h45 hc
                go_wp2_with (first | (go_at_call 53; refine (KU2.out _).mono ?_; clear KU2; rintro e w1 ⟨rfl, hb⟩; have HQ1 := show Hid (PQ w w1 b) from HQ.out.2.1.later hb; clear hb) | (refine wpList_store16 _ rfl rfl _ _ rfl _ rfl (r' := Bs.zero) rfl (r := Bs.zero) HQ1.out.1 HZL.out HZL.out ?_))
                refine bodyPost_ret (results_bits_tmp rfl _ _ w.heap.size (r := Bs.zero) rfl (RowAt.setRow (r := Bs.zero) HQ1.out.1 Bs.zero) HZL.out) rfl ?_
                exact ⟨by rw [HRR.out]; rfl, below_setRow HQ1.out.2.2 (Nat.le_refl _) _⟩
              | some m =>
                cases fs with
                | none =>
                  have hm := (Bs.num_some hn).2
                  have KU2 := show Hid (∀ w, Calls Tryd.prog 53 #[.string (s.extract a k), .int .i64 1023] w fun e w' => e = .returned (.tuple #[.int .i64 (m : Int), .int .i64 0]) ∧ Below w.heap.size w w') from fun w => by
                    have := KU.out a k w
                    rwa [hn] at this
                  have HNX := show Hid (GoAt l G (k + 1) (k + 1) (some m) (Bs.ap none m b)) from by
                    have := go_next HQ.out.2.2.2 hltl hdf hn
                    rwa [if_pos h45] at this
                  have HNO := show Hid (Ok (Bs.put b m)) from Bs.put_ok HQ.out.1 m
                  have KW2 := show Hid (∀ w, Calls Tryd.prog 40 #[.agg (cellsB b), .int .i64 (m : Int)] w fun e w' => e = .returned (.agg (cellsB (Bs.put b m))) ∧ Below w.heap.size w w') from fun w => KW.out b m w HQ.out.1 hm
                  have HNX2 := show Hid (GoAt l G (k + 1) (k + 1) (some m) (Bs.put b m)) from HNX.out
                  clear KU KW KX HTX HG hn HNX
                  generalize Bs.put b m = b2 at *
                  simp only [fsV]
                  clear hdf hdg h45 hc
                  go_wp2_with (first | (go_at_call 53; refine (KU2.out _).mono ?_; clear KU2; rintro e w1 ⟨rfl, hb⟩; have HQ1 := show Hid (PQ w w1 b) from HQ.out.2.1.later hb; clear hb) | (refine wpList_ld _ _ rfl _ rfl (r := b) HQ1.out.2.1 HLB.out rfl ?_) | (go_at_call 40; refine (KW2.out _).mono ?_; clear KW2; rintro e w2 ⟨rfl, hb⟩; have HQ2 := show Hid (PQ w w2 b) from HQ1.out.later hb; clear hb HQ1) | (refine wpList_store16 _ rfl rfl _ _ rfl _ rfl (r' := b2) rfl (r := b) HQ2.out.2.1 HLB.out HNO.out.1 ?_))
                  have HQ3 := show Hid (PQ w (w2.setRow (w.heap.size + 1) (cellsB b2)) b2) from ⟨(setRow_other w2 (w.heap.size + 1) w.heap.size _ (by omega)).trans HQ2.out.1, HQ2.out.2.1.setRow b2, below_setRow HQ2.out.2.2 (Nat.le_succ _) _⟩
                  generalize w2.setRow (w.heap.size + 1) (cellsB b2) = w3 at *
                  go_loopw [10] (fun _ wr => wr = w3) (fun _ _ => 0)
                  case atStart => rfl
                  case round =>
                    subst hrel
                    go_wp2
                    go_roundw
                    case rel => exact ⟨k + 1, k + 1, some m, b2, by omega, Nat.le_refl _, val_int (by omega), by first | rfl | exact val_int rfl, val_int (by omega), HNO.out, HQ3.out, fun f hf => (by first | (cases hf; exact hm) | cases hf), HNX2.out⟩
                    case measure => (simp only [intOf]; omega)
                | some f =>
                  have hm := (Bs.num_some hn).2
                  have KU2 := show Hid (∀ w, Calls Tryd.prog 53 #[.string (s.extract a k), .int .i64 1023] w fun e w' => e = .returned (.tuple #[.int .i64 (m : Int), .int .i64 0]) ∧ Below w.heap.size w w') from fun w => by
                    have := KU.out a k w
                    rwa [hn] at this
                  have hf := HQ.out.2.2.1 f rfl
                  have HNX := show Hid (GoAt l G (k + 1) (k + 1) (some m) (Bs.ap (some f) m b)) from by
                    have := go_next HQ.out.2.2.2 hltl hdf hn
                    rwa [if_pos h45] at this
                  have HUP := show Hid (upTo b f (m + 1 - f) = Bs.ap (some f) m b) from upTo_ap b f m
                  have HUO := show Hid (∀ d, Ok (upTo b f d)) from upTo_ok HQ.out.1 f
                  have HUS := show Hid (∀ d, upTo b f (d + 1) = Bs.put (upTo b f d) (f + d)) from fun d => rfl
                  have HU0 := show Hid (upTo b f 0 = b) from rfl
                  clear KU KX HTX HG hn
                  generalize Bs.ap (some f) m b = b2 at *
                  generalize upTo b f = P at *
                  simp only [fsV]
                  clear hdf hdg h45 hc
                  go_wp2_with (first | (go_at_call 53; refine (KU2.out _).mono ?_; clear KU2; rintro e w1 ⟨rfl, hb⟩; have HQ1 := show Hid (PQ w w1 b) from HQ.out.2.1.later hb; clear hb))
                  go_loopw [10] (fun kv wr => ∃ d : Nat, d ≤ m + 1 - f ∧ kv = .int .i64 ((f + d : Nat) : Int) ∧ Hid (PQ w wr (P d))) (fun kv _ => 1025 - (intOf kv).toNat)
                  case atStart => exact ⟨0, by omega, rfl, by rw [HU0.out]; exact HQ1.out⟩
                  case round =>
                    obtain ⟨d, hd, rfl, HD⟩ := hrel
                    clear HQ1
                    by_cases hdm : f + d ≤ m
                    · have hdI : ((f + d : Nat) : Int) ≤ (m : Int) := by omega
                      have KW2 := show Hid (∀ w, Calls Tryd.prog 40 #[.agg (cellsB (P d)), .int .i64 ((f + d : Nat) : Int)] w fun e w' => e = .returned (.agg (cellsB (P (d + 1)))) ∧ Below w.heap.size w w') from fun w => by
                        have := KW.out (P d) (f + d) w (HUO.out d) (by omega)
                        rwa [← HUS.out d] at this
                      have HL1 := show Hid ((P d).length = 16) from (HUO.out d).1
                      have HL2 := show Hid ((P (d + 1)).length = 16) from (HUO.out (d + 1)).1
                      obtain ⟨b4, hb4⟩ : ∃ x, x = P (d + 1) := ⟨_, rfl⟩
                      obtain ⟨q, hq⟩ : ∃ x, x = f + d := ⟨_, rfl⟩
                      rw [← hb4, ← hq] at KW2
                      rw [← hb4] at HL2
                      rw [← hq] at hdI ⊢
                      have HB4 := show Hid (b4 = P (d + 1)) from hb4
                      have HQD := show Hid (q = f + d ∧ f + d ≤ m) from ⟨hq, hdm⟩
                      have hqm : q ≤ m := by omega
                      clear KW HUS HUO HUP HU0 hb4 hq hdm
                      generalize P d = b3 at *
                      go_wp2_with (first | (refine wpList_ld _ _ rfl _ rfl (r := b3) HD.out.2.1 HL1.out rfl ?_) | (go_at_call 40; refine (KW2.out _).mono ?_; clear KW2; rintro e w2 ⟨rfl, hb⟩; have HQ2 := show Hid (PQ w w2 b3) from HD.out.later hb; clear hb HD) | (refine wpList_store16 _ rfl rfl _ _ rfl _ rfl (r' := b4) rfl (r := b3) HQ2.out.2.1 HL1.out HL2.out ?_))
                      have HQ3 := show Hid (PQ w (w2.setRow (w.heap.size + 1) (cellsB b4)) b4) from ⟨(setRow_other w2 (w.heap.size + 1) w.heap.size _ (by omega)).trans HQ2.out.1, HQ2.out.2.1.setRow b4, below_setRow HQ2.out.2.2 (Nat.le_succ _) _⟩
                      generalize w2.setRow (w.heap.size + 1) (cellsB b4) = w3 at *
                      go_wp2
                      go_roundw
                      case rel => exact ⟨d + 1, by have := HQD.out.2; omega, val_int (by have := HQD.out.1; omega), by rw [← HB4.out]; exact HQ3.out⟩
                      case measure => (have := HQD.out; simp only [intOf]; omega)
                    · have hdI : ¬ ((f + d : Nat) : Int) ≤ (m : Int) := by omega
                      have HQ3 := show Hid (PQ w wr b2 ∧ Ok b2) from by
                        have e : d = m + 1 - f := by omega
                        rw [← HUP.out, ← e]
                        exact ⟨HD.out, HUO.out d⟩
                      clear KW HUS HUO HUP HU0 HD
                      generalize f + d = q at *
                      go_wp2
                      go_roundw
                      case rel => exact ⟨k + 1, k + 1, some m, b2, by omega, Nat.le_refl _, val_int (by omega), by first | rfl | exact val_int rfl, val_int (by omega), HQ3.out.2, HQ3.out.1, fun f hf => (by first | (cases hf; exact hm) | cases hf), HNX.out⟩
                      case measure => (simp only [intOf]; omega)
            · by_cases hlo : l[k].toNat < 48
              · have hd1 : l[k].toNat < 48 := hlo
                have hd2 : ((l[k].toNat : Nat) : Int) ≠ 45 := by
                  intro e
                  apply h45
                  exact UInt8.toNat_inj.1 (by show l[k].toNat = 45; omega)
                cases hn : Bs.num ((l.drop a).take (k - a)) with
                | none =>
                  have HRR := show Hid (R = none) from by
                    show R = none
                    rw [HG.out, go_bad HQ.out.2.2.2 (by omega) (fun _ => hdf) hn]
                  have KU2 := show Hid (∀ w, Calls Tryd.prog 53 #[.string (s.extract a k), .int .i64 1023] w fun e w' => e = .returned (.tuple #[.int .i64 0, .int .i64 2]) ∧ Below w.heap.size w w') from fun w => by
                    have := KU.out a k w
                    rwa [hn] at this
                  clear KU KW KX HTX HG hn hdf hdg h45
                  generalize l[k].toNat = cn at *
                  go_wp2_with (first | (go_at_call 53; refine (KU2.out _).mono ?_; clear KU2; rintro e w1 ⟨rfl, hb⟩; have HQ1 := show Hid (PQ w w1 b) from HQ.out.2.1.later hb; clear hb) | (refine wpList_store16 _ rfl rfl _ _ rfl _ rfl (r' := Bs.zero) rfl (r := Bs.zero) HQ1.out.1 HZL.out HZL.out ?_))
                  refine bodyPost_ret (results_bits_tmp rfl _ _ w.heap.size (r := Bs.zero) rfl (RowAt.setRow (r := Bs.zero) HQ1.out.1 Bs.zero) HZL.out) rfl ?_
                  exact ⟨by rw [HRR.out]; rfl, below_setRow HQ1.out.2.2 (Nat.le_refl _) _⟩
                | some m =>
                  cases fs with
                  | none =>
                    have hm := (Bs.num_some hn).2
                    have KU2 := show Hid (∀ w, Calls Tryd.prog 53 #[.string (s.extract a k), .int .i64 1023] w fun e w' => e = .returned (.tuple #[.int .i64 (m : Int), .int .i64 0]) ∧ Below w.heap.size w w') from fun w => by
                      have := KU.out a k w
                      rwa [hn] at this
                    have HNX := show Hid (GoAt l G (k + 1) (k + 1) (none) (Bs.ap none m b)) from by
                      have := go_next HQ.out.2.2.2 hltl hdf hn
                      rwa [if_neg h45] at this
                    have HNO := show Hid (Ok (Bs.put b m)) from Bs.put_ok HQ.out.1 m
                    have KW2 := show Hid (∀ w, Calls Tryd.prog 40 #[.agg (cellsB b), .int .i64 (m : Int)] w fun e w' => e = .returned (.agg (cellsB (Bs.put b m))) ∧ Below w.heap.size w w') from fun w => KW.out b m w HQ.out.1 hm
                    have HNX2 := show Hid (GoAt l G (k + 1) (k + 1) (none) (Bs.put b m)) from HNX.out
                    clear KU KW KX HTX HG hn HNX
                    generalize Bs.put b m = b2 at *
                    simp only [fsV]
                    clear hdf hdg h45
                    generalize l[k].toNat = cn at *
                    go_wp2_with (first | (go_at_call 53; refine (KU2.out _).mono ?_; clear KU2; rintro e w1 ⟨rfl, hb⟩; have HQ1 := show Hid (PQ w w1 b) from HQ.out.2.1.later hb; clear hb) | (refine wpList_ld _ _ rfl _ rfl (r := b) HQ1.out.2.1 HLB.out rfl ?_) | (go_at_call 40; refine (KW2.out _).mono ?_; clear KW2; rintro e w2 ⟨rfl, hb⟩; have HQ2 := show Hid (PQ w w2 b) from HQ1.out.later hb; clear hb HQ1) | (refine wpList_store16 _ rfl rfl _ _ rfl _ rfl (r' := b2) rfl (r := b) HQ2.out.2.1 HLB.out HNO.out.1 ?_))
                    have HQ3 := show Hid (PQ w (w2.setRow (w.heap.size + 1) (cellsB b2)) b2) from ⟨(setRow_other w2 (w.heap.size + 1) w.heap.size _ (by omega)).trans HQ2.out.1, HQ2.out.2.1.setRow b2, below_setRow HQ2.out.2.2 (Nat.le_succ _) _⟩
                    generalize w2.setRow (w.heap.size + 1) (cellsB b2) = w3 at *
                    go_loopw [10] (fun _ wr => wr = w3) (fun _ _ => 0)
                    case atStart => rfl
                    case round =>
                      subst hrel
                      go_wp2
                      go_roundw
                      case rel => exact ⟨k + 1, k + 1, none, b2, by omega, Nat.le_refl _, val_int (by omega), by first | rfl | exact val_int rfl, val_int (by omega), HNO.out, HQ3.out, fun f hf => (by first | (cases hf; exact hm) | cases hf), HNX2.out⟩
                      case measure => (simp only [intOf]; omega)
                  | some f =>
                    have hm := (Bs.num_some hn).2
                    have KU2 := show Hid (∀ w, Calls Tryd.prog 53 #[.string (s.extract a k), .int .i64 1023] w fun e w' => e = .returned (.tuple #[.int .i64 (m : Int), .int .i64 0]) ∧ Below w.heap.size w w') from fun w => by
                      have := KU.out a k w
                      rwa [hn] at this
                    have hf := HQ.out.2.2.1 f rfl
                    have HNX := show Hid (GoAt l G (k + 1) (k + 1) (none) (Bs.ap (some f) m b)) from by
                      have := go_next HQ.out.2.2.2 hltl hdf hn
                      rwa [if_neg h45] at this
                    have HUP := show Hid (upTo b f (m + 1 - f) = Bs.ap (some f) m b) from upTo_ap b f m
                    have HUO := show Hid (∀ d, Ok (upTo b f d)) from upTo_ok HQ.out.1 f
                    have HUS := show Hid (∀ d, upTo b f (d + 1) = Bs.put (upTo b f d) (f + d)) from fun d => rfl
                    have HU0 := show Hid (upTo b f 0 = b) from rfl
                    clear KU KX HTX HG hn
                    generalize Bs.ap (some f) m b = b2 at *
                    generalize upTo b f = P at *
                    simp only [fsV]
                    clear hdf hdg h45
                    generalize l[k].toNat = cn at *
                    go_wp2_with (first | (go_at_call 53; refine (KU2.out _).mono ?_; clear KU2; rintro e w1 ⟨rfl, hb⟩; have HQ1 := show Hid (PQ w w1 b) from HQ.out.2.1.later hb; clear hb))
                    go_loopw [10] (fun kv wr => ∃ d : Nat, d ≤ m + 1 - f ∧ kv = .int .i64 ((f + d : Nat) : Int) ∧ Hid (PQ w wr (P d))) (fun kv _ => 1025 - (intOf kv).toNat)
                    case atStart => exact ⟨0, by omega, rfl, by rw [HU0.out]; exact HQ1.out⟩
                    case round =>
                      obtain ⟨d, hd, rfl, HD⟩ := hrel
                      clear HQ1
                      by_cases hdm : f + d ≤ m
                      · have hdI : ((f + d : Nat) : Int) ≤ (m : Int) := by omega
                        have KW2 := show Hid (∀ w, Calls Tryd.prog 40 #[.agg (cellsB (P d)), .int .i64 ((f + d : Nat) : Int)] w fun e w' => e = .returned (.agg (cellsB (P (d + 1)))) ∧ Below w.heap.size w w') from fun w => by
                          have := KW.out (P d) (f + d) w (HUO.out d) (by omega)
                          rwa [← HUS.out d] at this
                        have HL1 := show Hid ((P d).length = 16) from (HUO.out d).1
                        have HL2 := show Hid ((P (d + 1)).length = 16) from (HUO.out (d + 1)).1
                        obtain ⟨b4, hb4⟩ : ∃ x, x = P (d + 1) := ⟨_, rfl⟩
                        obtain ⟨q, hq⟩ : ∃ x, x = f + d := ⟨_, rfl⟩
                        rw [← hb4, ← hq] at KW2
                        rw [← hb4] at HL2
                        rw [← hq] at hdI ⊢
                        have HB4 := show Hid (b4 = P (d + 1)) from hb4
                        have HQD := show Hid (q = f + d ∧ f + d ≤ m) from ⟨hq, hdm⟩
                        have hqm : q ≤ m := by omega
                        clear KW HUS HUO HUP HU0 hb4 hq hdm
                        generalize P d = b3 at *
                        go_wp2_with (first | (refine wpList_ld _ _ rfl _ rfl (r := b3) HD.out.2.1 HL1.out rfl ?_) | (go_at_call 40; refine (KW2.out _).mono ?_; clear KW2; rintro e w2 ⟨rfl, hb⟩; have HQ2 := show Hid (PQ w w2 b3) from HD.out.later hb; clear hb HD) | (refine wpList_store16 _ rfl rfl _ _ rfl _ rfl (r' := b4) rfl (r := b3) HQ2.out.2.1 HL1.out HL2.out ?_))
                        have HQ3 := show Hid (PQ w (w2.setRow (w.heap.size + 1) (cellsB b4)) b4) from ⟨(setRow_other w2 (w.heap.size + 1) w.heap.size _ (by omega)).trans HQ2.out.1, HQ2.out.2.1.setRow b4, below_setRow HQ2.out.2.2 (Nat.le_succ _) _⟩
                        generalize w2.setRow (w.heap.size + 1) (cellsB b4) = w3 at *
                        go_wp2
                        go_roundw
                        case rel => exact ⟨d + 1, by have := HQD.out.2; omega, val_int (by have := HQD.out.1; omega), by rw [← HB4.out]; exact HQ3.out⟩
                        case measure => (have := HQD.out; simp only [intOf]; omega)
                      · have hdI : ¬ ((f + d : Nat) : Int) ≤ (m : Int) := by omega
                        have HQ3 := show Hid (PQ w wr b2 ∧ Ok b2) from by
                          have e : d = m + 1 - f := by omega
                          rw [← HUP.out, ← e]
                          exact ⟨HD.out, HUO.out d⟩
                        clear KW HUS HUO HUP HU0 HD
                        generalize f + d = q at *
                        go_wp2
                        go_roundw
                        case rel => exact ⟨k + 1, k + 1, none, b2, by omega, Nat.le_refl _, val_int (by omega), by first | rfl | exact val_int rfl, val_int (by omega), HQ3.out.2, HQ3.out.1, fun f hf => (by first | (cases hf; exact hm) | cases hf), HNX.out⟩
                        case measure => (simp only [intOf]; omega)
              · have hd1 : 57 < l[k].toNat := by omega
                cases hn : Bs.num ((l.drop a).take (k - a)) with
                | none =>
                  have HRR := show Hid (R = none) from by
                    show R = none
                    rw [HG.out, go_bad HQ.out.2.2.2 (by omega) (fun _ => hdf) hn]
                  have KU2 := show Hid (∀ w, Calls Tryd.prog 53 #[.string (s.extract a k), .int .i64 1023] w fun e w' => e = .returned (.tuple #[.int .i64 0, .int .i64 2]) ∧ Below w.heap.size w w') from fun w => by
                    have := KU.out a k w
                    rwa [hn] at this
                  clear KU KW KX HTX HG hn hdf hdg h45
                  generalize l[k].toNat = cn at *
                  go_wp2_with (first | (go_at_call 53; refine (KU2.out _).mono ?_; clear KU2; rintro e w1 ⟨rfl, hb⟩; have HQ1 := show Hid (PQ w w1 b) from HQ.out.2.1.later hb; clear hb) | (refine wpList_store16 _ rfl rfl _ _ rfl _ rfl (r' := Bs.zero) rfl (r := Bs.zero) HQ1.out.1 HZL.out HZL.out ?_))
                  refine bodyPost_ret (results_bits_tmp rfl _ _ w.heap.size (r := Bs.zero) rfl (RowAt.setRow (r := Bs.zero) HQ1.out.1 Bs.zero) HZL.out) rfl ?_
                  exact ⟨by rw [HRR.out]; rfl, below_setRow HQ1.out.2.2 (Nat.le_refl _) _⟩
                | some m =>
                  cases fs with
                  | none =>
                    have hm := (Bs.num_some hn).2
                    have KU2 := show Hid (∀ w, Calls Tryd.prog 53 #[.string (s.extract a k), .int .i64 1023] w fun e w' => e = .returned (.tuple #[.int .i64 (m : Int), .int .i64 0]) ∧ Below w.heap.size w w') from fun w => by
                      have := KU.out a k w
                      rwa [hn] at this
                    have HNX := show Hid (GoAt l G (k + 1) (k + 1) (none) (Bs.ap none m b)) from by
                      have := go_next HQ.out.2.2.2 hltl hdf hn
                      rwa [if_neg h45] at this
                    have HNO := show Hid (Ok (Bs.put b m)) from Bs.put_ok HQ.out.1 m
                    have KW2 := show Hid (∀ w, Calls Tryd.prog 40 #[.agg (cellsB b), .int .i64 (m : Int)] w fun e w' => e = .returned (.agg (cellsB (Bs.put b m))) ∧ Below w.heap.size w w') from fun w => KW.out b m w HQ.out.1 hm
                    have HNX2 := show Hid (GoAt l G (k + 1) (k + 1) (none) (Bs.put b m)) from HNX.out
                    clear KU KW KX HTX HG hn HNX
                    generalize Bs.put b m = b2 at *
                    simp only [fsV]
                    clear hdf hdg h45
                    generalize l[k].toNat = cn at *
                    go_wp2_with (first | (go_at_call 53; refine (KU2.out _).mono ?_; clear KU2; rintro e w1 ⟨rfl, hb⟩; have HQ1 := show Hid (PQ w w1 b) from HQ.out.2.1.later hb; clear hb) | (refine wpList_ld _ _ rfl _ rfl (r := b) HQ1.out.2.1 HLB.out rfl ?_) | (go_at_call 40; refine (KW2.out _).mono ?_; clear KW2; rintro e w2 ⟨rfl, hb⟩; have HQ2 := show Hid (PQ w w2 b) from HQ1.out.later hb; clear hb HQ1) | (refine wpList_store16 _ rfl rfl _ _ rfl _ rfl (r' := b2) rfl (r := b) HQ2.out.2.1 HLB.out HNO.out.1 ?_))
                    have HQ3 := show Hid (PQ w (w2.setRow (w.heap.size + 1) (cellsB b2)) b2) from ⟨(setRow_other w2 (w.heap.size + 1) w.heap.size _ (by omega)).trans HQ2.out.1, HQ2.out.2.1.setRow b2, below_setRow HQ2.out.2.2 (Nat.le_succ _) _⟩
                    generalize w2.setRow (w.heap.size + 1) (cellsB b2) = w3 at *
                    go_loopw [10] (fun _ wr => wr = w3) (fun _ _ => 0)
                    case atStart => rfl
                    case round =>
                      subst hrel
                      go_wp2
                      go_roundw
                      case rel => exact ⟨k + 1, k + 1, none, b2, by omega, Nat.le_refl _, val_int (by omega), by first | rfl | exact val_int rfl, val_int (by omega), HNO.out, HQ3.out, fun f hf => (by first | (cases hf; exact hm) | cases hf), HNX2.out⟩
                      case measure => (simp only [intOf]; omega)
                  | some f =>
                    have hm := (Bs.num_some hn).2
                    have KU2 := show Hid (∀ w, Calls Tryd.prog 53 #[.string (s.extract a k), .int .i64 1023] w fun e w' => e = .returned (.tuple #[.int .i64 (m : Int), .int .i64 0]) ∧ Below w.heap.size w w') from fun w => by
                      have := KU.out a k w
                      rwa [hn] at this
                    have hf := HQ.out.2.2.1 f rfl
                    have HNX := show Hid (GoAt l G (k + 1) (k + 1) (none) (Bs.ap (some f) m b)) from by
                      have := go_next HQ.out.2.2.2 hltl hdf hn
                      rwa [if_neg h45] at this
                    have HUP := show Hid (upTo b f (m + 1 - f) = Bs.ap (some f) m b) from upTo_ap b f m
                    have HUO := show Hid (∀ d, Ok (upTo b f d)) from upTo_ok HQ.out.1 f
                    have HUS := show Hid (∀ d, upTo b f (d + 1) = Bs.put (upTo b f d) (f + d)) from fun d => rfl
                    have HU0 := show Hid (upTo b f 0 = b) from rfl
                    clear KU KX HTX HG hn
                    generalize Bs.ap (some f) m b = b2 at *
                    generalize upTo b f = P at *
                    simp only [fsV]
                    clear hdf hdg h45
                    generalize l[k].toNat = cn at *
                    go_wp2_with (first | (go_at_call 53; refine (KU2.out _).mono ?_; clear KU2; rintro e w1 ⟨rfl, hb⟩; have HQ1 := show Hid (PQ w w1 b) from HQ.out.2.1.later hb; clear hb))
                    go_loopw [10] (fun kv wr => ∃ d : Nat, d ≤ m + 1 - f ∧ kv = .int .i64 ((f + d : Nat) : Int) ∧ Hid (PQ w wr (P d))) (fun kv _ => 1025 - (intOf kv).toNat)
                    case atStart => exact ⟨0, by omega, rfl, by rw [HU0.out]; exact HQ1.out⟩
                    case round =>
                      obtain ⟨d, hd, rfl, HD⟩ := hrel
                      clear HQ1
                      by_cases hdm : f + d ≤ m
                      · have hdI : ((f + d : Nat) : Int) ≤ (m : Int) := by omega
                        have KW2 := show Hid (∀ w, Calls Tryd.prog 40 #[.agg (cellsB (P d)), .int .i64 ((f + d : Nat) : Int)] w fun e w' => e = .returned (.agg (cellsB (P (d + 1)))) ∧ Below w.heap.size w w') from fun w => by
                          have := KW.out (P d) (f + d) w (HUO.out d) (by omega)
                          rwa [← HUS.out d] at this
                        have HL1 := show Hid ((P d).length = 16) from (HUO.out d).1
                        have HL2 := show Hid ((P (d + 1)).length = 16) from (HUO.out (d + 1)).1
                        obtain ⟨b4, hb4⟩ : ∃ x, x = P (d + 1) := ⟨_, rfl⟩
                        obtain ⟨q, hq⟩ : ∃ x, x = f + d := ⟨_, rfl⟩
                        rw [← hb4, ← hq] at KW2
                        rw [← hb4] at HL2
                        rw [← hq] at hdI ⊢
                        have HB4 := show Hid (b4 = P (d + 1)) from hb4
                        have HQD := show Hid (q = f + d ∧ f + d ≤ m) from ⟨hq, hdm⟩
                        have hqm : q ≤ m := by omega
                        clear KW HUS HUO HUP HU0 hb4 hq hdm
                        generalize P d = b3 at *
                        go_wp2_with (first | (refine wpList_ld _ _ rfl _ rfl (r := b3) HD.out.2.1 HL1.out rfl ?_) | (go_at_call 40; refine (KW2.out _).mono ?_; clear KW2; rintro e w2 ⟨rfl, hb⟩; have HQ2 := show Hid (PQ w w2 b3) from HD.out.later hb; clear hb HD) | (refine wpList_store16 _ rfl rfl _ _ rfl _ rfl (r' := b4) rfl (r := b3) HQ2.out.2.1 HL1.out HL2.out ?_))
                        have HQ3 := show Hid (PQ w (w2.setRow (w.heap.size + 1) (cellsB b4)) b4) from ⟨(setRow_other w2 (w.heap.size + 1) w.heap.size _ (by omega)).trans HQ2.out.1, HQ2.out.2.1.setRow b4, below_setRow HQ2.out.2.2 (Nat.le_succ _) _⟩
                        generalize w2.setRow (w.heap.size + 1) (cellsB b4) = w3 at *
                        go_wp2
                        go_roundw
                        case rel => exact ⟨d + 1, by have := HQD.out.2; omega, val_int (by have := HQD.out.1; omega), by rw [← HB4.out]; exact HQ3.out⟩
                        case measure => (have := HQD.out; simp only [intOf]; omega)
                      · have hdI : ¬ ((f + d : Nat) : Int) ≤ (m : Int) := by omega
                        have HQ3 := show Hid (PQ w wr b2 ∧ Ok b2) from by
                          have e : d = m + 1 - f := by omega
                          rw [← HUP.out, ← e]
                          exact ⟨HD.out, HUO.out d⟩
                        clear KW HUS HUO HUP HU0 HD
                        generalize f + d = q at *
                        go_wp2
                        go_roundw
                        case rel => exact ⟨k + 1, k + 1, none, b2, by omega, Nat.le_refl _, val_int (by omega), by first | rfl | exact val_int rfl, val_int (by omega), HQ3.out.2, HQ3.out.1, fun f hf => (by first | (cases hf; exact hm) | cases hf), HNX.out⟩
                        case measure => (simp only [intOf]; omega)
        · have hke : k = l.length := by omega
          have hltI : ¬ (k : Int) < (s.size : Int) := by omega
          clear HIX
          cases hn : Bs.num ((l.drop a).take (k - a)) with
          | none =>
            have HRR := show Hid (R = none) from by
              show R = none
              rw [HG.out, go_bad HQ.out.2.2.2 (by omega) (fun h => absurd h (by omega)) hn]
            have KU2 := show Hid (∀ w, Calls Tryd.prog 53 #[.string (s.extract a k), .int .i64 1023] w fun e w' => e = .returned (.tuple #[.int .i64 0, .int .i64 2]) ∧ Below w.heap.size w w') from fun w => by
              have := KU.out a k w
              rwa [hn] at this
            clear KU KW KX HTX HG hn hke
            go_wp2_with (first | (go_at_call 53; refine (KU2.out _).mono ?_; clear KU2; rintro e w1 ⟨rfl, hb⟩; have HQ1 := show Hid (PQ w w1 b) from HQ.out.2.1.later hb; clear hb) | (refine wpList_store16 _ rfl rfl _ _ rfl _ rfl (r' := Bs.zero) rfl (r := Bs.zero) HQ1.out.1 HZL.out HZL.out ?_))
            refine bodyPost_ret (results_bits_tmp rfl _ _ w.heap.size (r := Bs.zero) rfl (RowAt.setRow (r := Bs.zero) HQ1.out.1 Bs.zero) HZL.out) rfl ?_
            exact ⟨by rw [HRR.out]; rfl, below_setRow HQ1.out.2.2 (Nat.le_refl _) _⟩
          | some m =>
            cases fs with
            | none =>
              have hm := (Bs.num_some hn).2
              have KU2 := show Hid (∀ w, Calls Tryd.prog 53 #[.string (s.extract a k), .int .i64 1023] w fun e w' => e = .returned (.tuple #[.int .i64 (m : Int), .int .i64 0]) ∧ Below w.heap.size w w') from fun w => by
                have := KU.out a k w
                rwa [hn] at this
              have HNX := show Hid (GoAt l G (k + 1) (k + 1) (none) (Bs.ap none m b)) from by
                subst hke
                exact go_last HQ.out.2.2.2 hn
              have HNO := show Hid (Ok (Bs.put b m)) from Bs.put_ok HQ.out.1 m
              have KW2 := show Hid (∀ w, Calls Tryd.prog 40 #[.agg (cellsB b), .int .i64 (m : Int)] w fun e w' => e = .returned (.agg (cellsB (Bs.put b m))) ∧ Below w.heap.size w w') from fun w => KW.out b m w HQ.out.1 hm
              have HNX2 := show Hid (GoAt l G (k + 1) (k + 1) (none) (Bs.put b m)) from HNX.out
              clear KU KW KX HTX HG hn HNX hke
              generalize Bs.put b m = b2 at *
              simp only [fsV]
              go_wp2_with (first | (go_at_call 53; refine (KU2.out _).mono ?_; clear KU2; rintro e w1 ⟨rfl, hb⟩; have HQ1 := show Hid (PQ w w1 b) from HQ.out.2.1.later hb; clear hb) | (refine wpList_ld _ _ rfl _ rfl (r := b) HQ1.out.2.1 HLB.out rfl ?_) | (go_at_call 40; refine (KW2.out _).mono ?_; clear KW2; rintro e w2 ⟨rfl, hb⟩; have HQ2 := show Hid (PQ w w2 b) from HQ1.out.later hb; clear hb HQ1) | (refine wpList_store16 _ rfl rfl _ _ rfl _ rfl (r' := b2) rfl (r := b) HQ2.out.2.1 HLB.out HNO.out.1 ?_))
              have HQ3 := show Hid (PQ w (w2.setRow (w.heap.size + 1) (cellsB b2)) b2) from ⟨(setRow_other w2 (w.heap.size + 1) w.heap.size _ (by omega)).trans HQ2.out.1, HQ2.out.2.1.setRow b2, below_setRow HQ2.out.2.2 (Nat.le_succ _) _⟩
              generalize w2.setRow (w.heap.size + 1) (cellsB b2) = w3 at *
              go_loopw [10] (fun _ wr => wr = w3) (fun _ _ => 0)
              case atStart => rfl
              case round =>
                subst hrel
                go_wp2
                go_roundw
                case rel => exact ⟨k + 1, k + 1, none, b2, by omega, Nat.le_refl _, val_int (by omega), by first | rfl | exact val_int rfl, val_int (by omega), HNO.out, HQ3.out, fun f hf => (by first | (cases hf; exact hm) | cases hf), HNX2.out⟩
                case measure => (simp only [intOf]; omega)
            | some f =>
              have hm := (Bs.num_some hn).2
              have KU2 := show Hid (∀ w, Calls Tryd.prog 53 #[.string (s.extract a k), .int .i64 1023] w fun e w' => e = .returned (.tuple #[.int .i64 (m : Int), .int .i64 0]) ∧ Below w.heap.size w w') from fun w => by
                have := KU.out a k w
                rwa [hn] at this
              have hf := HQ.out.2.2.1 f rfl
              have HNX := show Hid (GoAt l G (k + 1) (k + 1) (none) (Bs.ap (some f) m b)) from by
                subst hke
                exact go_last HQ.out.2.2.2 hn
              have HUP := show Hid (upTo b f (m + 1 - f) = Bs.ap (some f) m b) from upTo_ap b f m
              have HUO := show Hid (∀ d, Ok (upTo b f d)) from upTo_ok HQ.out.1 f
              have HUS := show Hid (∀ d, upTo b f (d + 1) = Bs.put (upTo b f d) (f + d)) from fun d => rfl
              have HU0 := show Hid (upTo b f 0 = b) from rfl
              clear KU KX HTX HG hn hke
              generalize Bs.ap (some f) m b = b2 at *
              generalize upTo b f = P at *
              simp only [fsV]
              go_wp2_with (first | (go_at_call 53; refine (KU2.out _).mono ?_; clear KU2; rintro e w1 ⟨rfl, hb⟩; have HQ1 := show Hid (PQ w w1 b) from HQ.out.2.1.later hb; clear hb))
              go_loopw [10] (fun kv wr => ∃ d : Nat, d ≤ m + 1 - f ∧ kv = .int .i64 ((f + d : Nat) : Int) ∧ Hid (PQ w wr (P d))) (fun kv _ => 1025 - (intOf kv).toNat)
              case atStart => exact ⟨0, by omega, rfl, by rw [HU0.out]; exact HQ1.out⟩
              case round =>
                obtain ⟨d, hd, rfl, HD⟩ := hrel
                clear HQ1
                by_cases hdm : f + d ≤ m
                · have hdI : ((f + d : Nat) : Int) ≤ (m : Int) := by omega
                  have KW2 := show Hid (∀ w, Calls Tryd.prog 40 #[.agg (cellsB (P d)), .int .i64 ((f + d : Nat) : Int)] w fun e w' => e = .returned (.agg (cellsB (P (d + 1)))) ∧ Below w.heap.size w w') from fun w => by
                    have := KW.out (P d) (f + d) w (HUO.out d) (by omega)
                    rwa [← HUS.out d] at this
                  have HL1 := show Hid ((P d).length = 16) from (HUO.out d).1
                  have HL2 := show Hid ((P (d + 1)).length = 16) from (HUO.out (d + 1)).1
                  obtain ⟨b4, hb4⟩ : ∃ x, x = P (d + 1) := ⟨_, rfl⟩
                  obtain ⟨q, hq⟩ : ∃ x, x = f + d := ⟨_, rfl⟩
                  rw [← hb4, ← hq] at KW2
                  rw [← hb4] at HL2
                  rw [← hq] at hdI ⊢
                  have HB4 := show Hid (b4 = P (d + 1)) from hb4
                  have HQD := show Hid (q = f + d ∧ f + d ≤ m) from ⟨hq, hdm⟩
                  have hqm : q ≤ m := by omega
                  clear KW HUS HUO HUP HU0 hb4 hq hdm
                  generalize P d = b3 at *
                  go_wp2_with (first | (refine wpList_ld _ _ rfl _ rfl (r := b3) HD.out.2.1 HL1.out rfl ?_) | (go_at_call 40; refine (KW2.out _).mono ?_; clear KW2; rintro e w2 ⟨rfl, hb⟩; have HQ2 := show Hid (PQ w w2 b3) from HD.out.later hb; clear hb HD) | (refine wpList_store16 _ rfl rfl _ _ rfl _ rfl (r' := b4) rfl (r := b3) HQ2.out.2.1 HL1.out HL2.out ?_))
                  have HQ3 := show Hid (PQ w (w2.setRow (w.heap.size + 1) (cellsB b4)) b4) from ⟨(setRow_other w2 (w.heap.size + 1) w.heap.size _ (by omega)).trans HQ2.out.1, HQ2.out.2.1.setRow b4, below_setRow HQ2.out.2.2 (Nat.le_succ _) _⟩
                  generalize w2.setRow (w.heap.size + 1) (cellsB b4) = w3 at *
                  go_wp2
                  go_roundw
                  case rel => exact ⟨d + 1, by have := HQD.out.2; omega, val_int (by have := HQD.out.1; omega), by rw [← HB4.out]; exact HQ3.out⟩
                  case measure => (have := HQD.out; simp only [intOf]; omega)
                · have hdI : ¬ ((f + d : Nat) : Int) ≤ (m : Int) := by omega
                  have HQ3 := show Hid (PQ w wr b2 ∧ Ok b2) from by
                    have e : d = m + 1 - f := by omega
                    rw [← HUP.out, ← e]
                    exact ⟨HD.out, HUO.out d⟩
                  clear KW HUS HUO HUP HU0 HD
                  generalize f + d = q at *
                  go_wp2
                  go_roundw
                  case rel => exact ⟨k + 1, k + 1, none, b2, by omega, Nat.le_refl _, val_int (by omega), by first | rfl | exact val_int rfl, val_int (by omega), HQ3.out.2, HQ3.out.1, fun f hf => (by first | (cases hf; exact hm) | cases hf), HNX.out⟩
                  case measure => (simp only [intOf]; omega)
      · have HGB := show Hid (G = some b) from by
          rcases HQ.out.2.2.2 with ⟨h, _⟩ | ⟨_, h⟩
          · omega
          · exact h
        have KX2 := show Hid (∀ w, Calls Tryd.prog 37 #[.agg (cellsB b)] w fun e w' => e = .returned (.string (strB (Bs.text b))) ∧ Below w.heap.size w w') from KX.out b HQ.out.1
        have hgt : ¬ (k : Int) ≤ (s.size : Int) := by omega
        clear KX KU KW HIX
        by_cases ht : Bs.text b = l
        · have HRR := show Hid (R = some b) from by
            show R = some b
            rw [HG.out, HGB.out]
            exact if_pos ht
          have hts := (HTX.out b).1 ht
          rw [hts] at KX2
          clear ht HTX HG HGB hts
          go_wp2_with (first | (refine wpList_ld _ _ rfl _ rfl (r := b) HQ.out.2.1.2.1 HLB.out rfl ?_) | (go_at_call 37; refine (KX2.out _).mono ?_; clear KX2; rintro e w1 ⟨rfl, hb⟩; have HT1 := show Hid (PQ w w1 b) from HQ.out.2.1.later hb; clear hb HQ) | (refine wpList_ld _ _ rfl _ rfl (r := b) HT1.out.2.1 HLB.out rfl ?_) | (refine wpList_store16 _ rfl rfl _ _ rfl _ rfl (r' := b) rfl (r := Bs.zero) HT1.out.1 HZL.out HLB.out ?_))
          refine bodyPost_ret (results_bits_tmp rfl _ _ w.heap.size (r := b) rfl (RowAt.setRow (r := Bs.zero) HT1.out.1 b) HLB.out) rfl ?_
          exact ⟨by rw [HRR.out]; rfl, below_setRow HT1.out.2.2 (Nat.le_refl _) _⟩
        · have HRR := show Hid (R = none) from by
            show R = none
            rw [HG.out, HGB.out]
            exact if_neg ht
          have hts := (HTX.out b).2 ht
          generalize strB (Bs.text b) = tb at *
          have hn1 : (tb.toList == s.toList) = false := by
            rw [beq_eq_false_iff_ne]
            intro e
            apply hts
            rw [ByteArray.toList_eq, ByteArray.toList_eq] at e
            exact ByteArray.ext (Array.toList_inj.1 e)
          clear ht HTX HG HGB hts
          go_wp2_with (first | (refine wpList_ld _ _ rfl _ rfl (r := b) HQ.out.2.1.2.1 HLB.out rfl ?_) | (go_at_call 37; refine (KX2.out _).mono ?_; clear KX2; rintro e w1 ⟨rfl, hb⟩; have HT1 := show Hid (PQ w w1 b) from HQ.out.2.1.later hb; clear hb HQ) | (refine wpList_store16 _ rfl rfl _ _ rfl _ rfl (r' := Bs.zero) rfl (r := Bs.zero) HT1.out.1 HZL.out HZL.out ?_))
          refine bodyPost_ret (results_bits_tmp rfl _ _ w.heap.size (r := Bs.zero) rfl (RowAt.setRow (r := Bs.zero) HT1.out.1 Bs.zero) HZL.out) rfl ?_
          exact ⟨by rw [HRR.out]; rfl, below_setRow HT1.out.2.2 (Nat.le_refl _) _⟩
end Go.Proofs.YthkolkmcnpafiaaDoor
