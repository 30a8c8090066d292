/-
  heads: what must come at any rate comes. The tables stand.
-/
import Derived.Test.YthkolkmcnpafiaaDoorBOf
import Derived.Test.YthkolkmcnpafiaaDoorBTextC
namespace Go.Proofs.YthkolkmcnpafiaaDoor
open Go.RowKit Go.Sort
open Bs (Ok wd)

def hd5 : List Nat := [39, 1, 0, 0, 0, 0, 0, 0, 0, 0, 0, 0, 0, 0, 0, 0]
def hdT : List UInt8 := [48, 45, 50, 44, 53, 44, 54, 52]
theorem hd_ok : Ok hd5 := by
  refine ⟨rfl, ?_⟩
  decide
theorem hd_of : ofR [0, 1, 2, 5, 64] Bs.zero = (hd5, 0) := by decide +kernel
theorem hd_next : Bs.next hd5 6 = some 64 := by decide +kernel
theorem hd_parse : Bs.parse hdT = some hd5 := by decide +kernel
theorem hd_parse3 : Bs.parse [51, 45, 51] = none := by decide +kernel
theorem hd_text : Bs.text hd5 = hdT := (Bs.parse_some hd_parse).2
theorem hd_put : putI hd5 1024 = (Bs.zero, 50) := rfl
theorem hd_count : Bs.count hd5 16 = 5 := by decide +kernel
theorem hd_has : Bs.hasI hd5 64 = true := by decide +kernel
theorem hd_cmp : Bs.cmp hd5 Bs.zero = -1 := by decide +kernel
/-- A set stored into a variable that has just been made. -/
theorem wpList_store_new {ops : Array Oper} {rest : List Oper} {o : Oper} {a : Act} {Q : Exit → Act → World → Prop} (w : World) (z : Array Value) (hz : z = cellsB Bs.zero) (hg : o.guard = none) (hd : o.dst = none) (x y : Operand) (hop : o.op = Op.store 25 x y) (hx : a.eval x = .pointer (some ⟨w.heap.size, 0, none⟩))
    {r' : List Nat} (hy : a.eval y = .agg (cellsB r')) (hs' : r'.length = 16) (hK : wpList Tryd.prog ops Q rest a (w.alloc (.cells (cellsB r') 25))) : wpList Tryd.prog ops Q (o :: rest) a (w.alloc (.cells z 25)) := by
  subst hz
  refine wpList_store16 _ hg hd x y hop w.heap.size hx hy (r := Bs.zero) (heap_alloc_last w _) Bs.zero_ok.1 hs' ?_
  rw [World.setRow_alloc_new]
  exact hK
theorem isL_lit (w : World) (cs : Array Value) (l : List Int) (h : cs.toList = l.map (Value.int .i64)) (t : TypeId) {n : Nat} (hn : n = l.length) (hl : l.length ≤ 100) : IsL (w.alloc (.cells cs t)) (.slice (some ⟨w.heap.size, 0, none⟩) n n) l := by
  subst hn
  refine ⟨_, _, rfl, by omega, fun k hk => ⟨_, _, rfl, ?_⟩⟩
  rw [World.cell?_alloc_new, ← Array.getElem?_toList, h]
  simp [hk]
theorem wpList_ld {ops : Array Oper} {rest : List Oper} {o : Oper} {a : Act} {Q : Exit → Act → World → Prop} (w : World) (x : Operand) (hop : o.op = Op.load 25 x) (g : Nat) (hx : a.eval x = .pointer (some ⟨g, 0, none⟩))
    {r : List Nat} (h : RowAt w g r) (hs : r.length = 16) (hg : Region.wanted o (yielded ops a.tmps) = true) (hK : wpList Tryd.prog ops Q rest (a.put o.dst (.agg (cellsB r))) w) : wpList Tryd.prog ops Q (o :: rest) a w := wpList_load16 w hg x hop g hx h hs hK
theorem wpList_eq {ops : Array Oper} {rest : List Oper} {o : Oper} {a : Act} {Q : Exit → Act → World → Prop} (w : World) (x y : Operand) (t : TypeId) (hop : o.op = Op.binOp .eql 25 x y t)
    {p : List Nat} (hx : a.eval x = .agg (cellsB p)) (hy : a.eval y = .agg (cellsB p)) (hp : p.length = 16) (hg : Region.wanted o (yielded ops a.tmps) = true) (hK : wpList Tryd.prog ops Q rest (a.put o.dst (.bool true)) w) : wpList Tryd.prog ops Q (o :: rest) a w :=
  wpList_eql16 w hg x y t hop hx hy hp hp (by rw [decide_eq_true rfl]; exact hK)
theorem wpList_st {ops : Array Oper} {rest : List Oper} {o : Oper} {a : Act} {Q : Exit → Act → World → Prop} (w : World) (z : Array Value) (x y : Operand) (hop : o.op = Op.store 25 x y) (hz : z = cellsB Bs.zero) (hg : o.guard = none) (hd : o.dst = none) (hx : a.eval x = .pointer (some ⟨w.heap.size, 0, none⟩))
    {r' : List Nat} (hy : a.eval y = .agg (cellsB r')) (hs' : r'.length = 16) (hK : wpList Tryd.prog ops Q rest a (w.alloc (.cells (cellsB r') 25))) : wpList Tryd.prog ops Q (o :: rest) a (w.alloc (.cells z 25)) := wpList_store_new w z hz hg hd x y hop hx hy hs' hK
/-- What is held: the world below, and the first set. -/
def HF (w : World) (h : List Nat) (wx : World) (g : Nat) : Prop := Below w.heap.size w wx ∧ RowAt wx g h
theorem HF.later {w wx w' : World} {h : List Nat} {g : Nat} (q : HF w h wx g) (hb : Below wx.heap.size wx w') : HF w h w' g := ⟨q.1.trans (hb.mono q.1.size), q.2.keep hb q.2.lt⟩
set_option maxRecDepth 100000 in
set_option maxHeartbeats 8000000 in
theorem heads_any (w : World) (hT : Tabs w) : Calls Tryd.prog 19 #[] w fun e w' => e = .returned (.bool true) ∧ Below w.heap.size w w' := by
  have K1 := show Hid (∀ w v, IsL w v [0, 1, 2, 5, 64] → Calls Tryd.prog 8 #[v] w fun e w' => e = .returned (.tuple #[.agg (cellsB hd5), .int .i64 0]) ∧ Below w.heap.size w w') from fun w v h => by
    have := of_any w v _ h
    rwa [hd_of] at this
  have K2 := show Hid (∀ w', Below w.heap.size w w' → Calls Tryd.prog 20 #[.agg (cellsB hd5), .int .i64 6] w' fun e w'' => e = .returned (.tuple #[.int .i64 64, .bool true]) ∧ w'' = w'.alloc (.cells (cellsB hd5) 25)) from fun w' hb => by
    have := next_any w' (hT.later hb).1 hd_ok 6 (by omega)
    rw [show nextI hd5 6 = some 64 from hd_next] at this
    exact this
  have K3 := show Hid (∀ w, Calls Tryd.prog 35 #[.string ⟨#[48, 45, 50, 44, 53, 44, 54, 52]⟩] w fun e w' => e = .returned (.tuple #[.agg (cellsB hd5), .int .i64 0]) ∧ Below w.heap.size w w') from fun w => by
    have := parse_any w ⟨#[48, 45, 50, 44, 53, 44, 54, 52]⟩ (by decide)
    rw [show Bs.parse (⟨#[48, 45, 50, 44, 53, 44, 54, 52]⟩ : ByteArray).data.toList = some hd5 from hd_parse] at this
    exact this
  have K4 := show Hid (∀ w, Calls Tryd.prog 35 #[.string ⟨#[51, 45, 51]⟩] w fun e w' => e = .returned (.tuple #[.agg (cellsB Bs.zero), .int .i64 50]) ∧ Below w.heap.size w w') from fun w => by
    have := parse_any w ⟨#[51, 45, 51]⟩ (by decide)
    rw [show Bs.parse (⟨#[51, 45, 51]⟩ : ByteArray).data.toList = none from hd_parse3] at this
    exact this
  have K5 := show Hid (∀ w, Calls Tryd.prog 10 #[.agg (cellsB hd5), .int .i64 1024] w fun e w' => e = .returned (.tuple #[.agg (cellsB Bs.zero), .int .i64 50]) ∧ Below w.heap.size w w') from fun w => by
    have := put_any w hd_ok 1024
    rwa [hd_put] at this
  have K6 := show Hid (∀ w', Below w.heap.size w w' → Calls Tryd.prog 34 #[.agg (cellsB hd5)] w' fun e w'' => e = .returned (.string ⟨#[48, 45, 50, 44, 53, 44, 54, 52]⟩) ∧ Below w'.heap.size w' w'') from fun w' hb => by
    have := text_any w' (hT.later hb) hd_ok
    rwa [hd_text] at this
  have K7 := show Hid (∀ w, Calls Tryd.prog 30 #[.agg (cellsB hd5)] w fun e w' => e = .returned (.int .i64 5) ∧ w' = w.alloc (.cells (cellsB hd5) 25)) from fun w => by
    have := count_any w hd_ok
    rwa [hd_count] at this
  have K8 := show Hid (∀ w, Calls Tryd.prog 12 #[.agg (cellsB hd5), .int .i64 64] w fun e w' => e = .returned (.bool true) ∧ Below w.heap.size w w') from fun w => by
    have := has_any w hd_ok 64
    rwa [hd_has] at this
  have K9 := show Hid (∀ w, Calls Tryd.prog 31 #[.agg (cellsB hd5), .agg (cellsB Bs.zero)] w fun e w' => e = .returned (.int .i64 (-1)) ∧ Below w.heap.size w w') from fun w => by
    have := cmp_any w hd_ok Bs.zero_ok
    rwa [hd_cmp] at this
  have HL := show Hid (hd5.length = 16) from rfl
  clear hT
  generalize hd5 = h5 at *
  go_enter Tryd.func19, Tryd.ntmps19
  go_wp2_with fail
  refine (K1.out _ _ (isL_lit w _ [0, 1, 2, 5, 64] rfl _ rfl (by decide))).mono ?_
  rintro e w1 ⟨rfl, hb⟩
  have B1 := show Hid (Below w.heap.size w w1) from (below_alloc w _).trans (hb.mono (by simp))
  have C1 := show Hid (HF w h5 (w1.alloc (.cells (cellsB h5) 25)) w1.heap.size) from ⟨B1.out.alloc B1.out.size _, heap_alloc_last w1 _⟩
  clear hb B1 K1
  go_wp2_with (first | (refine wpList_st w1 _ _ _ rfl rfl rfl rfl rfl (r' := h5) rfl HL.out ?_) | (refine wpList_ld _ _ rfl _ rfl (r := h5) C1.out.2 HL.out rfl ?_))
  refine (K2.out _ C1.out.1).mono ?_
  rintro e w2 ⟨rfl, hw⟩
  have C2 := show Hid (HF w h5 w2 w1.heap.size) from (by rw [hw]; exact C1.out.later (below_alloc _ _))
  clear hw C1 K2
  go_wp2_with fail
  refine (K3.out _).mono ?_
  rintro e w3 ⟨rfl, hb⟩
  have C4 := show Hid (HF w h5 (w3.alloc (.cells (cellsB h5) 25)) w1.heap.size ∧ RowAt (w3.alloc (.cells (cellsB h5) 25)) w3.heap.size h5) from ⟨(C2.out.later hb).later (below_alloc _ _), heap_alloc_last w3 _⟩
  clear hb C2 K3
  go_wp2_with (refine wpList_st w3 _ _ _ rfl rfl rfl rfl rfl (r' := h5) rfl HL.out ?_)
  refine (K4.out _).mono ?_
  rintro e w4 ⟨rfl, hb⟩
  have C5 := show Hid (HF w h5 w4 w1.heap.size ∧ RowAt w4 w3.heap.size h5) from ⟨C4.out.1.later hb, C4.out.2.keep hb C4.out.2.lt⟩
  have C6 := show Hid (HF w h5 (w4.alloc (.cells (cellsB Bs.zero) 25)) w1.heap.size ∧ RowAt (w4.alloc (.cells (cellsB Bs.zero) 25)) w3.heap.size h5) from ⟨C5.out.1.later (below_alloc _ _), C5.out.2.keep (below_alloc _ _) C5.out.2.lt⟩
  clear hb C4 C5 K4
  go_wp2_with (first | (refine wpList_st w4 _ _ _ rfl rfl rfl rfl rfl (r' := Bs.zero) rfl Bs.zero_ok.1 ?_) | (refine wpList_ld _ _ rfl _ rfl (r := h5) C6.out.1.2 HL.out rfl ?_))
  refine (K5.out _).mono ?_
  rintro e w5 ⟨rfl, hb⟩
  have C7 := show Hid (HF w h5 w5 w1.heap.size ∧ RowAt w5 w3.heap.size h5) from ⟨C6.out.1.later hb, C6.out.2.keep hb C6.out.2.lt⟩
  have C8 := show Hid ((HF w h5 (w5.alloc (.cells (cellsB Bs.zero) 25)) w1.heap.size ∧ RowAt (w5.alloc (.cells (cellsB Bs.zero) 25)) w3.heap.size h5) ∧ RowAt (w5.alloc (.cells (cellsB Bs.zero) 25)) w5.heap.size Bs.zero) from ⟨⟨C7.out.1.later (below_alloc _ _), C7.out.2.keep (below_alloc _ _) C7.out.2.lt⟩, heap_alloc_last w5 _⟩
  clear hb C6 C7 K5
  go_wp2_with (first | (refine wpList_st w5 _ _ _ rfl rfl rfl rfl rfl (r' := Bs.zero) rfl Bs.zero_ok.1 ?_) | (refine wpList_ld _ _ rfl _ rfl (r := h5) C8.out.1.1.2 HL.out rfl ?_))
  refine (K6.out _ C8.out.1.1.1).mono ?_
  rintro e w6 ⟨rfl, hb⟩
  have C9 := show Hid ((HF w h5 w6 w1.heap.size ∧ RowAt w6 w3.heap.size h5) ∧ RowAt w6 w5.heap.size Bs.zero) from ⟨⟨C8.out.1.1.later hb, C8.out.1.2.keep hb C8.out.1.2.lt⟩, C8.out.2.keep hb C8.out.2.lt⟩
  clear hb C8 K6
  generalize w1.heap.size = g1 at *
  generalize w3.heap.size = g3 at *
  generalize w5.heap.size = g5 at *
  go_wp2_with (first | (refine wpList_ld _ _ rfl _ rfl (r := h5) C9.out.1.1.2 HL.out rfl ?_) | (refine wpList_ld _ _ rfl _ rfl (r := h5) C9.out.1.2 HL.out rfl ?_) | (refine wpList_ld _ _ rfl _ rfl (r := Bs.zero) C9.out.2 Bs.zero_ok.1 rfl ?_) | (refine wpList_eq _ _ _ _ rfl (p := h5) rfl rfl HL.out rfl ?_) | (refine wpList_eq _ _ _ _ rfl (p := Bs.zero) rfl rfl Bs.zero_ok.1 rfl ?_))
  refine (K7.out _).mono ?_
  rintro e w7 ⟨rfl, hw⟩
  have D1 := show Hid (HF w h5 w7 g1 ∧ RowAt w7 g5 Bs.zero) from (by rw [hw]; exact ⟨C9.out.1.1.later (below_alloc _ _), C9.out.2.keep (below_alloc _ _) C9.out.2.lt⟩)
  clear hw C9 K7
  go_wp2_with (refine wpList_ld _ _ rfl _ rfl (r := h5) D1.out.1.2 HL.out rfl ?_)
  refine (K8.out _).mono ?_
  rintro e w8 ⟨rfl, hb⟩
  have D2 := show Hid (HF w h5 w8 g1 ∧ RowAt w8 g5 Bs.zero) from ⟨D1.out.1.later hb, D1.out.2.keep hb D1.out.2.lt⟩
  clear hb D1 K8
  go_wp2_with (first | (refine wpList_ld _ _ rfl _ rfl (r := h5) D2.out.1.2 HL.out rfl ?_) | (refine wpList_ld _ _ rfl _ rfl (r := Bs.zero) D2.out.2 Bs.zero_ok.1 rfl ?_))
  refine (K9.out _).mono ?_
  rintro e w9 ⟨rfl, hb⟩
  have D3 := show Hid (HF w h5 w9 g1) from D2.out.1.later hb
  clear hb D2 K9
  go_wp2
  go_ret
  exact ⟨rfl, D3.out.1⟩
end Go.Proofs.YthkolkmcnpafiaaDoor
