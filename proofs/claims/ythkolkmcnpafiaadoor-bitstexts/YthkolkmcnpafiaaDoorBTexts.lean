/-
  BitsTexts: for every set and every text the law answers true. The tables stand.
-/
import Derived.Test.YthkolkmcnpafiaaDoorBLaid
import Derived.Test.YthkolkmcnpafiaaDoorBRPars
namespace Go.Proofs.YthkolkmcnpafiaaDoor
open Go.RowKit
open Bs (Ok wd)

theorem parR_ok (o : Option (List Nat)) (h : ∀ r, o = some r → Ok r) : Ok (parR o).1 := by
  cases o with
  | none => exact Bs.zero_ok
  | some r => exact h r rfl
set_option maxRecDepth 100000 in
set_option maxHeartbeats 8000000 in
theorem texts_any (w : World) (hT : Tabs w) {b : List Nat} (hb : Ok b) (s : ByteArray) (hs : s.size ≤ 140737488355328) : Calls Tryd.prog 6 #[.agg (cellsB b), .string s] w fun e w' => e = .returned (.bool true) ∧ Below w.heap.size w w' := by
  have K1 := show Hid (∀ w', Below w.heap.size w w' → Calls Tryd.prog 34 #[.agg (cellsB b)] w' fun e w'' => e = .returned (.string (strB (Bs.text b))) ∧ Below w'.heap.size w' w'') from fun w' h => text_any w' (hT.later h) hb
  have K2 := show Hid (∀ w', Calls Tryd.prog 35 #[.string (strB (Bs.text b))] w' fun e w'' => e = .returned (.tuple #[.agg (cellsB b), .int .i64 0]) ∧ Below w'.heap.size w' w'') from fun w' => by
    have hlen : (strB (Bs.text b)).size ≤ 9223372036854775807 := by
      show (Bs.text b).length ≤ _
      have := textTo_len hb 1024 (Nat.le_refl _)
      have e : textTo b 1024 = Bs.text b := rfl
      rw [e] at this
      omega
    have := parse_any w' (strB (Bs.text b)) hlen
    rw [strB_data, Bs.parse_text hb] at this
    exact this
  have K3 := show Hid (∀ w', Calls Tryd.prog 35 #[.string s] w' fun e w'' => e = .returned (.tuple #[.agg (cellsB (parR (Bs.parse s.data.toList)).1), .int .i64 (parR (Bs.parse s.data.toList)).2]) ∧ Below w'.heap.size w' w'') from fun w' => parse_any w' s (by omega)
  have K4 := show Hid (∀ w', Calls Tryd.prog 36 #[.string s] w' fun e w'' => e = .returned (.tuple #[.agg (cellsB (parR (Bs.parse s.data.toList)).1), .int .i64 (parR (Bs.parse s.data.toList)).2]) ∧ Below w'.heap.size w' w'') from fun w' => rparse_any w' s hs
  have K5 := show Hid (∀ w', Calls Tryd.prog 37 #[.agg (cellsB b)] w' fun e w'' => e = .returned (.string (strB (Bs.text b))) ∧ Below w'.heap.size w' w'') from fun w' => rtext_any w' hb
  have KH := show Hid (∀ w', Below w.heap.size w w' → Calls Tryd.prog 19 #[] w' fun e w'' => e = .returned (.bool true) ∧ Below w'.heap.size w' w'') from fun w' h => heads_any w' (hT.later h)
  have HLb := show Hid (b.length = 16) from hb.1
  have HLp := show Hid ((parR (Bs.parse s.data.toList)).1.length = 16) from (parR_ok _ fun r hr => (Bs.parse_some hr).1).1
  have X0 := show Hid (HF w b (w.alloc (.cells (cellsB b) 25)) w.heap.size) from ⟨below_alloc w _, heap_alloc_last w _⟩
  clear hT hb hs
  generalize (parR (Bs.parse s.data.toList)).1 = p at *
  generalize (parR (Bs.parse s.data.toList)).2 = q at *
  generalize strB (Bs.text b) = t at *
  go_enter Tryd.func6, Tryd.ntmps6
  go_wp2_with (refine wpList_ld _ _ rfl _ rfl (r := b) X0.out.2 HLb.out rfl ?_)
  refine (K1.out _ X0.out.1).mono ?_
  rintro e w1 ⟨rfl, hb⟩
  have X1 := show Hid (HF w b w1 w.heap.size) from X0.out.later hb
  clear hb X0 K1
  go_wp2_with fail
  refine (K2.out _).mono ?_
  rintro e w2 ⟨rfl, hb⟩
  have X2 := show Hid (HF w b (w2.alloc (.cells (cellsB b) 25)) w.heap.size ∧ RowAt (w2.alloc (.cells (cellsB b) 25)) w2.heap.size b) from ⟨(X1.out.later hb).later (below_alloc _ _), heap_alloc_last w2 _⟩
  clear hb X1 K2
  go_wp2_with (refine wpList_st w2 _ _ _ rfl rfl rfl rfl rfl (r' := b) rfl HLb.out ?_)
  refine (K3.out _).mono ?_
  rintro e w3 ⟨rfl, hb⟩
  have X3 := show Hid (HF w b w3 w.heap.size ∧ RowAt w3 w2.heap.size b) from ⟨X2.out.1.later hb, X2.out.2.keep hb X2.out.2.lt⟩
  have X4 := show Hid ((HF w b (w3.alloc (.cells (cellsB p) 25)) w.heap.size ∧ RowAt (w3.alloc (.cells (cellsB p) 25)) w2.heap.size b) ∧ RowAt (w3.alloc (.cells (cellsB p) 25)) w3.heap.size p) from ⟨⟨X3.out.1.later (below_alloc _ _), X3.out.2.keep (below_alloc _ _) X3.out.2.lt⟩, heap_alloc_last w3 _⟩
  clear hb X2 X3 K3
  go_wp2_with (refine wpList_st w3 _ _ _ rfl rfl rfl rfl rfl (r' := p) rfl HLp.out ?_)
  refine (K4.out _).mono ?_
  rintro e w4 ⟨rfl, hb⟩
  have X5 := show Hid ((HF w b w4 w.heap.size ∧ RowAt w4 w2.heap.size b) ∧ RowAt w4 w3.heap.size p) from ⟨⟨X4.out.1.1.later hb, X4.out.1.2.keep hb X4.out.1.2.lt⟩, X4.out.2.keep hb X4.out.2.lt⟩
  have X6 := show Hid (((HF w b (w4.alloc (.cells (cellsB p) 25)) w.heap.size ∧ RowAt (w4.alloc (.cells (cellsB p) 25)) w2.heap.size b) ∧ RowAt (w4.alloc (.cells (cellsB p) 25)) w3.heap.size p) ∧ RowAt (w4.alloc (.cells (cellsB p) 25)) w4.heap.size p) from ⟨⟨⟨X5.out.1.1.later (below_alloc _ _), X5.out.1.2.keep (below_alloc _ _) X5.out.1.2.lt⟩, X5.out.2.keep (below_alloc _ _) X5.out.2.lt⟩, heap_alloc_last w4 _⟩
  clear hb X4 X5 K4
  go_wp2_with (first | (refine wpList_st w4 _ _ _ rfl rfl rfl rfl rfl (r' := p) rfl HLp.out ?_) | (refine wpList_ld _ _ rfl _ rfl (r := b) X6.out.1.1.1.2 HLb.out rfl ?_))
  refine (K5.out _).mono ?_
  rintro e w5 ⟨rfl, hb⟩
  have X7 := show Hid (((HF w b w5 w.heap.size ∧ RowAt w5 w2.heap.size b) ∧ RowAt w5 w3.heap.size p) ∧ RowAt w5 w4.heap.size p) from ⟨⟨⟨X6.out.1.1.1.later hb, X6.out.1.1.2.keep hb X6.out.1.1.2.lt⟩, X6.out.1.2.keep hb X6.out.1.2.lt⟩, X6.out.2.keep hb X6.out.2.lt⟩
  clear hb X6 K5
  generalize w2.heap.size = g2 at *
  generalize w3.heap.size = g3 at *
  generalize w4.heap.size = g4 at *
  go_wp2_with (first | (refine wpList_ld _ _ rfl _ rfl (r := b) X7.out.1.1.1.2 HLb.out rfl ?_) | (refine wpList_ld _ _ rfl _ rfl (r := b) X7.out.1.1.2 HLb.out rfl ?_) | (refine wpList_ld _ _ rfl _ rfl (r := p) X7.out.1.2 HLp.out rfl ?_) | (refine wpList_ld _ _ rfl _ rfl (r := p) X7.out.2 HLp.out rfl ?_) | (refine wpList_eq _ _ _ _ rfl (p := b) rfl rfl HLb.out rfl ?_) | (refine wpList_eq _ _ _ _ rfl (p := p) rfl rfl HLp.out rfl ?_))
  refine (KH.out _ X7.out.1.1.1.1).mono ?_
  rintro e w6 ⟨rfl, hb⟩
  have HZ := show Hid (Below w.heap.size w w6) from X7.out.1.1.1.1.trans (hb.mono X7.out.1.1.1.1.size)
  clear hb X7
  go_wp2
  go_ret
  exact ⟨rfl, HZ.out⟩
end Go.Proofs.YthkolkmcnpafiaaDoor
