/-
  The law SequentNobody, as the program walks it: true for every sequent, every text and every row of numbers that a machine can hold. Where the tables stand as the program's text lays them.
-/
import Derived.Test.YtkmmlimekachbabGreatDoorQNob
import Derived.Test.YtkmmlimekachbabGreatDoorQEq
namespace Go.Proofs.YtkmmlimekachbabGreatDoor
open Go.RowKit Go.Maps
open Bt.Bs (Ok)

theorem st_oneN {wi w0 w3 : World} (hb : Below wi.heap.size wi w0) (hk : KpP wi.heap.size w0 w3) : Below wi.heap.size wi w3 :=
  ⟨hk.os.trans hb.os, hk.tape.trans hb.tape, hk.output.trans hb.output, Nat.le_trans hb.size hk.size, fun k hlt => (hk.block k (Nat.lt_of_lt_of_le hlt hb.size) (by omega)).trans (hb.block k hlt)⟩
theorem seq_zeroN (w : World) : SeqAt (w.alloc (Obj.cells #[.int .u64 0, .int .u64 0, .int .u64 0, .int .u64 0, .int .u64 0, .int .u64 0, .int .u64 0, .int .u64 0, .int .u64 0, .int .u64 0, .int .u64 0, .int .u64 0, .int .u64 0, .int .u64 0, .int .u64 0, .int .u64 0, .int .i64 0] 26)) w.heap.size Bt.Bs.zero 0 ∧ Below w.heap.size w (w.alloc (Obj.cells #[.int .u64 0, .int .u64 0, .int .u64 0, .int .u64 0, .int .u64 0, .int .u64 0, .int .u64 0, .int .u64 0, .int .u64 0, .int .u64 0, .int .u64 0, .int .u64 0, .int .u64 0, .int .u64 0, .int .u64 0, .int .u64 0, .int .i64 0] 26)) := ⟨seq_new w Bt.Bs.zero 0, below_alloc w _⟩
theorem seq_flt (w : World) : SeqAt ((w.alloc (Obj.cells #[.int .u64 0, .int .u64 0, .int .u64 0, .int .u64 0, .int .u64 0, .int .u64 0, .int .u64 0, .int .u64 0, .int .u64 0, .int .u64 0, .int .u64 0, .int .u64 0, .int .u64 0, .int .u64 0, .int .u64 0, .int .u64 0, .int .i64 0] 26)).alloc (Obj.cells #[.int .i64 0, .int .i64 0, .int .i64 0, .int .i64 0] 49)) w.heap.size Bt.Bs.zero 0 ∧ Fl ((w.alloc (Obj.cells #[.int .u64 0, .int .u64 0, .int .u64 0, .int .u64 0, .int .u64 0, .int .u64 0, .int .u64 0, .int .u64 0, .int .u64 0, .int .u64 0, .int .u64 0, .int .u64 0, .int .u64 0, .int .u64 0, .int .u64 0, .int .u64 0, .int .i64 0] 26)).alloc (Obj.cells #[.int .i64 0, .int .i64 0, .int .i64 0, .int .i64 0] 49)) (w.heap.size + 1) 0 0 0 0 ∧ Below w.heap.size w ((w.alloc (Obj.cells #[.int .u64 0, .int .u64 0, .int .u64 0, .int .u64 0, .int .u64 0, .int .u64 0, .int .u64 0, .int .u64 0, .int .u64 0, .int .u64 0, .int .u64 0, .int .u64 0, .int .u64 0, .int .u64 0, .int .u64 0, .int .u64 0, .int .i64 0] 26)).alloc (Obj.cells #[.int .i64 0, .int .i64 0, .int .i64 0, .int .i64 0] 49)) := ⟨(Bt.heap_two w _ _).1, (Bt.heap_two w _ _).2, Bt.below_two w _ _⟩
structure NB (w W : World) (r : List Nat) (g : Int) (k1 k2 k3 : Nat) : Prop where
  ck : CK w W r g
  s1 : SeqAt W k1 Bt.Bs.zero 0
  s2 : SeqAt W k2 Bt.Bs.zero 0
  fl : Fl W k3 1 0 0 0
theorem NB.later {w W W2 : World} {r : List Nat} {g : Int} {k1 k2 k3 : Nat} (h : NB w W r g k1 k2 k3) (hb : Below W.heap.size W W2) : NB w W2 r g k1 k2 k3 :=
  ⟨h.ck.later hb, h.s1.later hb h.s1.lt, h.s2.later hb h.s2.lt, (hb.block _ (lt_of_block h.fl)).trans h.fl⟩
set_option maxRecDepth 100000 in
set_option maxHeartbeats 4000000 in
theorem nobody8_any (w : World) (hZ : Bt.Tz w) {q0 : Option Addr} (hN : Nob w (.pointer q0)) {r : List Nat} (hr : Ok r) (g : Int) (s : ByteArray) (p : Option Addr) (n c : Nat) :
    Calls Tryz.prog 10 #[.pointer q0, .agg (cellsQ r g), .string s, .slice p n c] w fun e w' => e = .returned (.bool true) ∧ Below w.heap.size w w' := by
  have hr16 := hr.1
  have KO := show Hid (∀ w', Below w.heap.size w w' → Calls Tryz.prog 25 #[.pointer q0, .slice p n c, .int .i64 0] w' fun e w'' => e = .returned (.tuple #[.agg (cellsQ Bt.Bs.zero 0), .int .i64 1]) ∧ Below w'.heap.size w' w'') from fun w' hb => qof_none w' (hN.later hb) p n c 0
  have KP := show Hid (∀ w', Below w.heap.size w w' → Calls Tryz.prog 18 #[.pointer q0, .string s] w' fun e w'' => e = .returned (.tuple #[.agg (cellsQ Bt.Bs.zero 0), .agg #[.int .i64 1, .int .i64 0, .int .i64 0, .int .i64 0]]) ∧ Below w'.heap.size w' w'') from fun w' hb => qparse_none w' (hN.later hb) s
  have KPr := show Hid (∀ w', Below w.heap.size w w' → Calls Tryz.prog 19 #[.pointer q0, .agg (cellsQ r g)] w' fun e w'' => e = .returned (.tuple #[.string ⟨#[]⟩, .int .i64 1]) ∧ Below w'.heap.size w' w'') from fun w' hb => qprint_none w' (hN.later hb) hr16 g
  have KW := show Hid (∀ w', Below w.heap.size w w' → Calls Tryz.prog 22 #[.pointer q0, .agg (cellsQ r g)] w' fun e w'' => ∃ p c, e = .returned (.tuple #[.slice p 0 c, .int .i64 1]) ∧ Below w'.heap.size w' w'') from fun w' hb => qweights_none w' (Bt.tz_block hZ hb) (hN.later hb) hr g
  have KWh := show Hid (∀ w', Below w.heap.size w w' → Calls Tryz.prog 20 #[.pointer q0, .agg (cellsQ r g)] w' fun e w'' => e = .returned (.tuple #[.int .i64 0, .int .i64 1]) ∧ Below w'.heap.size w' w'') from fun w' hb => qwhole_none w' (hN.later hb) hr16 g
  have KC := show Hid (∀ w', Below w.heap.size w w' → Calls Tryz.prog 21 #[.pointer q0, .agg (cellsQ r g)] w' fun e w'' => e = .returned (.tuple #[.int .i64 0, .int .i64 1]) ∧ Below w'.heap.size w' w'') from fun w' hb => qcurry_none w' (hN.later hb) hr16 g
  have KCh := show Hid (∀ w', Below w.heap.size w w' → Calls Tryz.prog 24 #[.pointer q0, .agg (cellsQ r g)] w' fun e w'' => e = .returned (.int .i64 1) ∧ Below w'.heap.size w' w'') from fun w' hb => qcheck_none w' (hN.later hb) hr16 g
  have hSQ : sameQ Bt.Bs.zero 0 Bt.Bs.zero 0 = true := sameQ_self _ _
  have HC := show Hid (CK w (w.alloc (.cells (cellsQ r g) 26)) r g) from ⟨seq_new w r g, below_alloc w _⟩
  clear hN hZ hr
  go_enter Tryz.func10, Tryz.ntmps10
  go_wp2_with fail
  refine (KO.out _ HC.out.bel).mono ?_
  rintro e w1 ⟨rfl, hb1⟩
  have H1 := show Hid (CK w w1 r g) from HC.out.later hb1
  have HS1 := show Hid (SeqAt (w1.alloc (Obj.cells #[.int .u64 0, .int .u64 0, .int .u64 0, .int .u64 0, .int .u64 0, .int .u64 0, .int .u64 0, .int .u64 0, .int .u64 0, .int .u64 0, .int .u64 0, .int .u64 0, .int .u64 0, .int .u64 0, .int .u64 0, .int .u64 0, .int .i64 0] 26)) w1.heap.size Bt.Bs.zero 0 ∧ Below w1.heap.size w1 (w1.alloc (Obj.cells #[.int .u64 0, .int .u64 0, .int .u64 0, .int .u64 0, .int .u64 0, .int .u64 0, .int .u64 0, .int .u64 0, .int .u64 0, .int .u64 0, .int .u64 0, .int .u64 0, .int .u64 0, .int .u64 0, .int .u64 0, .int .u64 0, .int .i64 0] 26))) from seq_zeroN w1
  clear hb1 HC KO
  go_wp2_with (refine wpList_stQA _ rfl rfl _ _ rfl _ rfl (r' := Bt.Bs.zero) (g' := 0) rfl HS1.out.1 zero_len zero_len ?_)
  intro w2 hs2 hk2
  have hb2 := st_oneN HS1.out.2 hk2
  have H2 := show Hid (CK w w2 r g ∧ SeqAt w2 w1.heap.size Bt.Bs.zero 0) from ⟨H1.out.later hb2, hs2⟩
  clear hs2 hk2 hb2 HS1 H1
  generalize w1.heap.size = k1 at *
  go_wp2_with fail
  refine (KP.out _ H2.out.1.bel).mono ?_
  rintro e w3 ⟨rfl, hb3⟩
  have H3 := show Hid (CK w w3 r g ∧ SeqAt w3 k1 Bt.Bs.zero 0) from ⟨H2.out.1.later hb3, H2.out.2.later hb3 H2.out.2.lt⟩
  have HS3 := show Hid (SeqAt ((w3.alloc (Obj.cells #[.int .u64 0, .int .u64 0, .int .u64 0, .int .u64 0, .int .u64 0, .int .u64 0, .int .u64 0, .int .u64 0, .int .u64 0, .int .u64 0, .int .u64 0, .int .u64 0, .int .u64 0, .int .u64 0, .int .u64 0, .int .u64 0, .int .i64 0] 26)).alloc (Obj.cells #[.int .i64 0, .int .i64 0, .int .i64 0, .int .i64 0] 49)) w3.heap.size Bt.Bs.zero 0 ∧ Fl ((w3.alloc (Obj.cells #[.int .u64 0, .int .u64 0, .int .u64 0, .int .u64 0, .int .u64 0, .int .u64 0, .int .u64 0, .int .u64 0, .int .u64 0, .int .u64 0, .int .u64 0, .int .u64 0, .int .u64 0, .int .u64 0, .int .u64 0, .int .u64 0, .int .i64 0] 26)).alloc (Obj.cells #[.int .i64 0, .int .i64 0, .int .i64 0, .int .i64 0] 49)) (w3.heap.size + 1) 0 0 0 0 ∧ Below w3.heap.size w3 ((w3.alloc (Obj.cells #[.int .u64 0, .int .u64 0, .int .u64 0, .int .u64 0, .int .u64 0, .int .u64 0, .int .u64 0, .int .u64 0, .int .u64 0, .int .u64 0, .int .u64 0, .int .u64 0, .int .u64 0, .int .u64 0, .int .u64 0, .int .u64 0, .int .i64 0] 26)).alloc (Obj.cells #[.int .i64 0, .int .i64 0, .int .i64 0, .int .i64 0] 49))) from seq_flt w3
  clear hb3 H2 KP
  go_wp2_with (refine wpList_stQA _ rfl rfl _ _ rfl _ rfl (r' := Bt.Bs.zero) (g' := 0) rfl HS3.out.1 zero_len zero_len ?_)
  intro w4 hs hk
  have HF := show Hid (Fl w4 (w3.heap.size + 1) 0 0 0 0) from Fl.kp HS3.out.2.1 hk (by omega)
  go_wp2_with (refine wpList_stFA _ rfl rfl _ _ rfl _ rfl rfl HF.out ?_)
  intro w5 hf5 hk5
  have hx := st_all HS3.out.2.2 hk hs hk5 hf5
  clear hs hk hk5 hf5 HF HS3
  have X5 := show Hid (NB w w5 r g k1 w3.heap.size (w3.heap.size + 1)) from ⟨H3.out.1.later hx.2.2, H3.out.2.later hx.2.2 H3.out.2.lt, hx.1, hx.2.1⟩
  clear hx H3
  generalize w3.heap.size + 1 = k3 at *
  generalize w3.heap.size = k2 at *
  go_wp2_with (refine wpList_ldQQ _ _ rfl w.heap.size rfl X5.out.ck.seq hr16 rfl ?_)
  refine (KPr.out _ X5.out.ck.bel).mono ?_
  rintro e w6 ⟨rfl, hb6⟩
  have X6 := show Hid (NB w w6 r g k1 k2 k3) from X5.out.later hb6
  clear hb6 X5 KPr
  go_wp2_with (refine wpList_ldQQ _ _ rfl w.heap.size rfl X6.out.ck.seq hr16 rfl ?_)
  refine (KW.out _ X6.out.ck.bel).mono ?_
  rintro e w7 ⟨pw, cw, rfl, hb7⟩
  have X7 := show Hid (NB w w7 r g k1 k2 k3) from X6.out.later hb7
  clear hb7 X6 KW
  go_wp2_with (refine wpList_ldQQ _ _ rfl w.heap.size rfl X7.out.ck.seq hr16 rfl ?_)
  refine (KWh.out _ X7.out.ck.bel).mono ?_
  rintro e w8 ⟨rfl, hb8⟩
  have X8 := show Hid (NB w w8 r g k1 k2 k3) from X7.out.later hb8
  clear hb8 X7 KWh
  go_wp2_with (refine wpList_ldQQ _ _ rfl w.heap.size rfl X8.out.ck.seq hr16 rfl ?_)
  refine (KC.out _ X8.out.ck.bel).mono ?_
  rintro e w9 ⟨rfl, hb9⟩
  have X9 := show Hid (NB w w9 r g k1 k2 k3) from X8.out.later hb9
  clear hb9 X8 KC
  have a0 := X9.out.fl.c0
  have a1 := X9.out.fl.c1
  have a2 := X9.out.fl.c2
  have a3 := X9.out.fl.c3
  go_wp2_with (first | (refine wpList_ldQQ _ _ rfl k1 rfl X9.out.s1 zero_len rfl ?_) | (refine wpList_ldQQ _ _ rfl k2 rfl X9.out.s2 zero_len rfl ?_) | (refine wpList_ldQQ _ _ rfl w.heap.size rfl X9.out.ck.seq hr16 rfl ?_) | (refine wpList_eqQ _ _ _ _ rfl (p := Bt.Bs.zero) (q := Bt.Bs.zero) (g := 0) (h := 0) rfl rfl zero_len zero_len rfl ?_; rw [hSQ]))
  refine (KCh.out _ X9.out.ck.bel).mono ?_
  rintro e w10 ⟨rfl, hb10⟩
  have H10 := show Hid (Below w.heap.size w w10) from (X9.out.later hb10).ck.bel
  clear hb10 X9 KCh a0 a1 a2 a3
  go_wp2_with fail
  go_ret
  exact ⟨rfl, H10.out⟩
set_option maxRecDepth 100000 in
set_option maxHeartbeats 4000000 in
theorem sequentNobody_any (w : World) {r : List Nat} (hr : Ok r) (g : Int) (s : ByteArray) (p : Option Addr) (n c : Nat) (hL : Tw.Laid w) (hZ : Bt.Tz w) :
    Calls Tryz.prog 4 #[.agg (cellsQ r g), .string s, .slice p n c] w fun e w' => e = .returned (.bool true) ∧ Below w.heap.size w w' := by
  have hr16 := hr.1
  have K1 := show Hid (∀ w', Below w.heap.size w w' → Calls Tryz.prog 10 #[.pointer none, .agg (cellsQ r g), .string s, .slice p n c] w' fun e w'' => e = .returned (.bool true) ∧ Below w'.heap.size w' w'') from fun w' hb => nobody8_any w' (Bt.tz_block hZ hb) (nob_nil w') hr g s p n c
  have K2 := show Hid (∀ w', Below w.heap.size w w' → Calls Tryz.prog 10 #[.pointer (some ⟨w'.heap.size, 0, none⟩), .agg (cellsQ r g), .string s, .slice p n c] (w'.alloc (Obj.cells #[.slice none 0 0, .map none] 38)) fun e w'' => e = .returned (.bool true) ∧ Below (w'.alloc (Obj.cells #[.slice none 0 0, .map none] 38)).heap.size (w'.alloc (Obj.cells #[.slice none 0 0, .map none] 38)) w'') from fun w' hb => nobody8_any _ (Bt.tz_block hZ (hb.alloc hb.size _)) (nob_zero _ w'.heap.size (heap_alloc_new w' _)) hr g s p n c
  have KH := show Hid (∀ w' : World, Below w.heap.size w w' → Calls Tryz.prog 9 #[] w' fun e w'' => e = .returned (.bool true) ∧ Below w'.heap.size w' w'') from fun w' hb => qheads_any w' (hL.later hb) (Bt.tz_block hZ hb)
  have HC := show Hid (CK w (w.alloc (.cells (cellsQ r g) 26)) r g) from ⟨seq_new w r g, below_alloc w _⟩
  clear hL hZ hr
  go_enter Tryz.func4, Tryz.ntmps4
  go_wp2_with (refine wpList_ldQQ _ _ rfl w.heap.size rfl HC.out.seq hr16 rfl ?_)
  refine (K1.out _ HC.out.bel).mono ?_
  rintro e w1 ⟨rfl, hb1⟩
  have H1 := show Hid (CK w w1 r g) from HC.out.later hb1
  have H1A := show Hid (CK w (w1.alloc (Obj.cells #[.slice none 0 0, .map none] 38)) r g) from H1.out.later (below_alloc _ _)
  clear hb1 HC K1
  go_wp2_with (refine wpList_ldQQ _ _ rfl w.heap.size rfl H1A.out.seq hr16 rfl ?_)
  refine (K2.out _ H1.out.bel).mono ?_
  rintro e w2 ⟨rfl, hb2⟩
  have H2 := show Hid (Below w.heap.size w w2) from (H1A.out.later hb2).bel
  clear hb2 H1 H1A K2
  go_wp2_with fail
  refine (KH.out _ H2.out).mono ?_
  rintro e w3 ⟨rfl, hb3⟩
  have H3 := show Hid (Below w.heap.size w w3) from H2.out.trans (hb3.mono H2.out.size)
  clear hb3 H2
  go_wp2_with fail
  go_ret
  exact ⟨rfl, H3.out⟩
end Go.Proofs.YtkmmlimekachbabGreatDoor
