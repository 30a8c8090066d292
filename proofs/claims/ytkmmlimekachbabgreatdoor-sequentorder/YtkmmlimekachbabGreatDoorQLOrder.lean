/-
  The document's Compare, and the law SequentOrder, as the program walks it: true for every three sequents. Where the tables stand as the program's text lays them.
-/
import Derived.Test.YtkmmlimekachbabGreatDoorQOrdP
import Derived.Test.YtkmmlimekachbabGreatDoorQHeads
import Derived.Deep.CutRange
namespace Go.Proofs.YtkmmlimekachbabGreatDoor
open Go.RowKit Go.Maps
open Bt.Bs (Ok)

set_option maxRecDepth 100000 in
set_option maxHeartbeats 1000000 in
theorem rqcmp_any (w : World) {a b : List Nat} (ha : Ok a) (hb : Ok b) (x y : Int) :
    Calls Tryz.prog 6 #[.agg (cellsQ a x), .agg (cellsQ b y)] w fun e w' => e = .returned (.int .i64 (cmpQ a b x y)) ∧ Below w.heap.size w w' := by
  have KC := show Hid (∀ w : World, Calls Tryz.prog 14 #[.agg (Bt.cellsB a), .agg (Bt.cellsB b)] w fun e w' => e = .returned (.int .i64 (Bt.Bs.cmp a b)) ∧ Below w.heap.size w w') from fun w => Bt.rcmp_any w ha hb
  have hla := ha.1
  have hlb := hb.1
  have HI := show Hid (cmpQ a b x y = if Bt.Bs.cmp a b = 0 then Lib.compareInt x y else Bt.Bs.cmp a b) from by
    show cmpQ a b x y = _
    rfl
  have hI := cmpI_three x y
  have HS := show Hid (SeqAt ((w.alloc (.cells (cellsQ a x) 26)).alloc (.cells (cellsQ b y) 26)) w.heap.size a x ∧ SeqAt ((w.alloc (.cells (cellsQ a x) 26)).alloc (.cells (cellsQ b y) 26)) (w.heap.size + 1) b y ∧ Below w.heap.size w ((w.alloc (.cells (cellsQ a x) 26)).alloc (.cells (cellsQ b y) 26))) from ⟨(two_seqs w a b x y).1, (two_seqs w a b x y).2, Bt.below_two w _ _⟩
  clear ha hb
  generalize cmpQ a b x y = q at *
  generalize Bt.Bs.cmp a b = cc at *
  go_enter Tryz.func6, Tryz.ntmps6
  go_wp2_with (first | (refine wpList_ldQ _ _ rfl _ rfl HS.out.1 hla rfl ?_) | (refine wpList_ldQ _ _ rfl _ rfl HS.out.2.1 hlb rfl ?_))
  refine (KC.out _).mono ?_
  rintro e w1 ⟨rfl, hb1⟩
  have H1 := show Hid (SeqAt w1 w.heap.size a x ∧ SeqAt w1 (w.heap.size + 1) b y ∧ Below w.heap.size w w1) from ⟨HS.out.1.later hb1 HS.out.1.lt, HS.out.2.1.later hb1 HS.out.2.1.lt, HS.out.2.2.trans (hb1.mono HS.out.2.2.size)⟩
  clear hb1 HS KC
  have g1 := H1.out.1.goal hla
  have g2 := H1.out.2.1.goal hlb
  by_cases hc : cc = 0
  · have hq := HI.out
    rw [if_pos hc] at hq
    subst hc
    clear HI
    rcases hI with ⟨h, hv⟩ | ⟨h, hv⟩ | ⟨h, hv⟩
    · rw [hv] at hq
      subst hq
      go_wp2_with fail
      go_ret
      exact ⟨rfl, H1.out.2.2⟩
    · rw [hv] at hq
      subst hq
      subst h
      have h1 : ¬ x < x := by omega
      go_wp2_with fail
      go_ret
      exact ⟨rfl, H1.out.2.2⟩
    · rw [hv] at hq
      subst hq
      have h1 : ¬ x < y := by omega
      go_wp2_with fail
      go_ret
      exact ⟨rfl, H1.out.2.2⟩
  · have hq := HI.out
    rw [if_neg hc] at hq
    subst hq
    have hne : (q != 0) = true := by simpa using hc
    clear HI hI
    go_wp2_with fail
    go_ret
    exact ⟨rfl, H1.out.2.2⟩
theorem run_ldQQ {a : Act} {oi : Oper} {w : World} (x : Operand) (ho : oi.op = .load 26 x) (b : Nat) (hx : a.eval x = .pointer (some ⟨b, 0, none⟩)) {r : List Nat} {g : Int} (h : SeqAt w b r g) (hl : r.length = 16) : (execOp a.eval oi).run Tryz.prog w = .ok (.value (.agg (cellsQ r g))) w := by
  have := loadQQ w b h hl
  simp [execOp, ho, hx, this, Result.andThen]
theorem cs_of {wab wbc wac wba sb sq : Bool} {x y : Int} (h1 : wab = (decide (x = y) && sb)) (h2 : wab = true → wbc = true → wac = true) (h3 : wab = true → wba = true → sq = true) :
    ((x == y) = false ∧ wab = false) ∨ ((x == y) = true ∧ sb = false ∧ wab = false) ∨ ((x == y) = true ∧ sb = true ∧ wab = true ∧ wbc = false ∧ wba = false) ∨ ((x == y) = true ∧ sb = true ∧ wab = true ∧ wbc = true ∧ wac = true ∧ wba = false) ∨ ((x == y) = true ∧ sb = true ∧ wab = true ∧ wbc = false ∧ wba = true ∧ sq = true) ∨ ((x == y) = true ∧ sb = true ∧ wab = true ∧ wbc = true ∧ wac = true ∧ wba = true ∧ sq = true) := by
  by_cases hxy : x = y
  · rw [decide_eq_true hxy, Bool.true_and] at h1
    have hx2 : (x == y) = true := by simpa using hxy
    clear hxy
    cases sb <;> cases wbc <;> cases wba <;> simp_all
  · rw [decide_eq_false hxy, Bool.false_and] at h1
    exact Or.inl ⟨by simpa using hxy, h1⟩
structure Q3 (w wx : World) (a b c : List Nat) (x y z : Int) : Prop where
  one : SeqAt wx w.heap.size a x
  two : SeqAt wx (w.heap.size + 1) b y
  tri : SeqAt wx (w.heap.size + 1 + 1) c z
  bel : Below w.heap.size w wx
theorem Q3.later {w wx w' : World} {a b c : List Nat} {x y z : Int} (h : Q3 w wx a b c x y z) (hb : Below wx.heap.size wx w') : Q3 w w' a b c x y z :=
  ⟨h.one.later hb h.one.lt, h.two.later hb h.two.lt, h.tri.later hb h.tri.lt, h.bel.trans (hb.mono h.bel.size)⟩
theorem Q3.drew {w wx : World} {a b c : List Nat} {x y z : Int} (h : Q3 w wx a b c x y z) : Q3 w wx.drew a b c x y z := ⟨h.one, h.two, h.tri, h.bel.drew⟩
theorem q3_new (w : World) (a b c : List Nat) (x y z : Int) : Q3 w (((w.alloc (.cells (cellsQ a x) 26)).alloc (.cells (cellsQ b y) 26)).alloc (.cells (cellsQ c z) 26)) a b c x y z := by
  obtain ⟨h1, h2⟩ := two_seqs w a b x y
  have hb := below_alloc ((w.alloc (.cells (cellsQ a x) 26)).alloc (.cells (cellsQ b y) 26)) (.cells (cellsQ c z) 26)
  have h3 := seq_new ((w.alloc (.cells (cellsQ a x) 26)).alloc (.cells (cellsQ b y) 26)) c z
  have e : ((w.alloc (.cells (cellsQ a x) 26)).alloc (.cells (cellsQ b y) 26)).heap.size = w.heap.size + 1 + 1 := by simp
  rw [e] at h3
  have h4 := Bt.below_two w (.cells (cellsQ a x) 26) (.cells (cellsQ b y) 26)
  exact ⟨h1.later hb h1.lt, h2.later hb h2.lt, h3, h4.trans (hb.mono h4.size)⟩
set_option maxRecDepth 100000 in
set_option maxHeartbeats 4000000 in
theorem sequentOrder_any (w : World) {a b c : List Nat} (ha : Ok a) (hb : Ok b) (hc : Ok c) (x y z : Int) (hL : Tw.Laid w) (hZ : Bt.Tz w) :
    Calls Tryz.prog 3 #[.agg (cellsQ a x), .agg (cellsQ b y), .agg (cellsQ c z)] w fun e w' => e = .returned (.bool true) ∧ Below w.heap.size w w' := by
  have hla := ha.1
  have hlb := hb.1
  have hlc := hc.1
  have KAB := show Hid (∀ w : World, Calls Tryz.prog 5 #[.agg (cellsQ a x), .agg (cellsQ b y)] w fun e w' => e = .returned (.int .i64 (cmpQ a b x y)) ∧ Below w.heap.size w w') from fun w => compare_any w ha hb x y
  have KBA := show Hid (∀ w : World, Calls Tryz.prog 5 #[.agg (cellsQ b y), .agg (cellsQ a x)] w fun e w' => e = .returned (.int .i64 (-cmpQ a b x y)) ∧ Below w.heap.size w w') from fun w => by
    have := compare_any w hb ha y x
    rwa [cmpQ_turn ha hb x y] at this
  have KBC := show Hid (∀ w : World, Calls Tryz.prog 5 #[.agg (cellsQ b y), .agg (cellsQ c z)] w fun e w' => e = .returned (.int .i64 (cmpQ b c y z)) ∧ Below w.heap.size w w') from fun w => compare_any w hb hc y z
  have KAC := show Hid (∀ w : World, Calls Tryz.prog 5 #[.agg (cellsQ a x), .agg (cellsQ c z)] w fun e w' => e = .returned (.int .i64 (cmpQ a c x z)) ∧ Below w.heap.size w w') from fun w => compare_any w ha hc x z
  have KR := show Hid (∀ w : World, Calls Tryz.prog 6 #[.agg (cellsQ a x), .agg (cellsQ b y)] w fun e w' => e = .returned (.int .i64 (cmpQ a b x y)) ∧ Below w.heap.size w w') from fun w => rqcmp_any w ha hb x y
  have KW1 := show Hid (∀ w : World, Calls Tryz.prog 7 #[.agg (cellsQ a x), .agg (cellsQ b y)] w fun e w' => e = .returned (.bool (wkQ a x b y)) ∧ Below w.heap.size w w') from fun w => weaker_any w ha hb x y
  have KW2 := show Hid (∀ w : World, Calls Tryz.prog 7 #[.agg (cellsQ b y), .agg (cellsQ c z)] w fun e w' => e = .returned (.bool (wkQ b y c z)) ∧ Below w.heap.size w w') from fun w => weaker_any w hb hc y z
  have KW3 := show Hid (∀ w : World, Calls Tryz.prog 7 #[.agg (cellsQ a x), .agg (cellsQ c z)] w fun e w' => e = .returned (.bool (wkQ a x c z)) ∧ Below w.heap.size w w') from fun w => weaker_any w ha hc x z
  have KW4 := show Hid (∀ w : World, Calls Tryz.prog 7 #[.agg (cellsQ b y), .agg (cellsQ a x)] w fun e w' => e = .returned (.bool (wkQ b y a x)) ∧ Below w.heap.size w w') from fun w => weaker_any w hb ha y x
  have KW5 := show Hid (∀ w : World, Calls Tryz.prog 7 #[.agg (cellsQ a x), .agg (cellsQ a x)] w fun e w' => e = .returned (.bool true) ∧ Below w.heap.size w w') from fun w => by
    have := weaker_any w ha ha x x
    rwa [show (decide (x = x) && Bt.Bs.sub a a) = true from wkQ_self ha x] at this
  have KS := show Hid (∀ w : World, Calls Tryz.prog 8 #[.agg (Bt.cellsB b), .agg (Bt.cellsB a)] w fun e w' => e = .returned (.bool (Bt.Bs.sub b a)) ∧ Below w.heap.size w w') from fun w => Bt.rsub_any w hb ha
  have KH := show Hid (∀ w' : World, Below w.heap.size w w' → Calls Tryz.prog 9 #[] w' fun e w'' => e = .returned (.bool true) ∧ Below w'.heap.size w' w'') from fun w' hb => qheads_any w' (hL.later hb) (Bt.tz_block hZ hb)
  have hv1 := cmpQ_vals a b x y
  have HSZ := show Hid (decide (cmpQ a b x y = 0) = sameQ a x b y) from same_zero ha hb x y
  have HTR := show Hid (cmpQ a b x y ≤ 0 → cmpQ b c y z ≤ 0 → cmpQ a c x z ≤ 0) from cmpQ_trans ha hb hc x y z
  have HW := show Hid (wkQ a x b y = (decide (x = y) && Bt.Bs.sub b a)) from rfl
  have HWT := show Hid (wkQ a x b y = true → wkQ b y c z = true → wkQ a x c z = true) from wkQ_trans ha hb hc
  have HWA := show Hid (wkQ a x b y = true → wkQ b y a x = true → sameQ a x b y = true) from wkQ_anti ha hb
  have H0 := show Hid (Q3 w (((w.alloc (.cells (cellsQ a x) 26)).alloc (.cells (cellsQ b y) 26)).alloc (.cells (cellsQ c z) 26)) a b c x y z) from q3_new w a b c x y z
  clear hL hZ ha hb hc
  have hbd : -1 ≤ cmpQ a b x y ∧ cmpQ a b x y ≤ 1 := by omega
  clear hv1
  obtain ⟨hbd1, hbd2⟩ := hbd
  generalize cmpQ a b x y = ab at *
  generalize cmpQ b c y z = bc at *
  generalize cmpQ a c x z = ac at *
  generalize wkQ a x b y = wab at *
  generalize wkQ b y c z = wbc at *
  generalize wkQ a x c z = wac at *
  generalize wkQ b y a x = wba at *
  generalize Bt.Bs.sub b a = sb at *
  go_enter Tryz.func3, Tryz.ntmps3
  go_wp2_with fail
  refine wp_region_held_drew (S := fun wx => Q3 w wx a b c x y z) (by kernel_rfl) H0.out.drew (fun hH => ?_)
  clear H0
  refine takeV 0 (some 13) (.agg (cellsQ a x)) rfl rfl (by kernel_rfl) (by kernel_rfl) (by kernel_rfl) (fun _ _ _ h => h) rfl (fun wx hx => run_ldQQ _ rfl (w.heap.size) rfl hx.one hla) hH ?_
  simp only [Act.put, List.setIfInBounds_toArray, List.set_cons_zero, List.set_cons_succ]
  refine takeV 1 (some 14) (.agg (cellsQ b y)) rfl rfl (by kernel_rfl) (by kernel_rfl) (by kernel_rfl) (fun _ _ _ h => h) rfl (fun wx hx => run_ldQQ _ rfl (w.heap.size + 1) rfl hx.two hlb) hH ?_
  simp only [Act.put, List.setIfInBounds_toArray, List.set_cons_zero, List.set_cons_succ]
  refine takeV 3 (some 16) (.agg (cellsQ b y)) rfl rfl (by kernel_rfl) (by kernel_rfl) (by kernel_rfl) (fun _ _ _ h => h) rfl (fun wx hx => run_ldQQ _ rfl (w.heap.size + 1) rfl hx.two hlb) hH ?_
  simp only [Act.put, List.setIfInBounds_toArray, List.set_cons_zero, List.set_cons_succ]
  refine takeV 4 (some 17) (.agg (cellsQ a x)) rfl rfl (by kernel_rfl) (by kernel_rfl) (by kernel_rfl) (fun _ _ _ h => h) rfl (fun wx hx => run_ldQQ _ rfl (w.heap.size) rfl hx.one hla) hH ?_
  simp only [Act.put, List.setIfInBounds_toArray, List.set_cons_zero, List.set_cons_succ]
  refine takeV 6 (some 19) (.agg (cellsQ b y)) rfl rfl (by kernel_rfl) (by kernel_rfl) (by kernel_rfl) (fun _ _ _ h => h) rfl (fun wx hx => run_ldQQ _ rfl (w.heap.size + 1) rfl hx.two hlb) hH ?_
  simp only [Act.put, List.setIfInBounds_toArray, List.set_cons_zero, List.set_cons_succ]
  refine takeV 7 (some 20) (.agg (cellsQ c z)) rfl rfl (by kernel_rfl) (by kernel_rfl) (by kernel_rfl) (fun _ _ _ h => h) rfl (fun wx hx => run_ldQQ _ rfl (w.heap.size + 1 + 1) rfl hx.tri hlc) hH ?_
  simp only [Act.put, List.setIfInBounds_toArray, List.set_cons_zero, List.set_cons_succ]
  refine takeV 9 (some 22) (.agg (cellsQ a x)) rfl rfl (by kernel_rfl) (by kernel_rfl) (by kernel_rfl) (fun _ _ _ h => h) rfl (fun wx hx => run_ldQQ _ rfl (w.heap.size) rfl hx.one hla) hH ?_
  simp only [Act.put, List.setIfInBounds_toArray, List.set_cons_zero, List.set_cons_succ]
  refine takeV 10 (some 23) (.agg (cellsQ c z)) rfl rfl (by kernel_rfl) (by kernel_rfl) (by kernel_rfl) (fun _ _ _ h => h) rfl (fun wx hx => run_ldQQ _ rfl (w.heap.size + 1 + 1) rfl hx.tri hlc) hH ?_
  simp only [Act.put, List.setIfInBounds_toArray, List.set_cons_zero, List.set_cons_succ]
  refine oneH 2 (by kernel_rfl) rfl (stepC 2 (some 15) rfl rfl 5 _ _ rfl [.agg (cellsQ a x), .agg (cellsQ b y)] rfl (fun _ _ => Tryz.call5 _ _) ?_)
  refine (KAB.out _).mono ?_
  rintro e w1 ⟨rfl, hb1⟩
  have hH1 : Q3 w w1 a b c x y z := hH.later hb1
  refine ⟨_, rfl, hH1, fun _ => ?_⟩
  simp only [Act.put, List.setIfInBounds_toArray, List.set_cons_zero, List.set_cons_succ]
  clear hH hb1
  refine oneH 5 (by kernel_rfl) rfl (stepC 5 (some 18) rfl rfl 5 _ _ rfl [.agg (cellsQ b y), .agg (cellsQ a x)] rfl (fun _ _ => Tryz.call5 _ _) ?_)
  refine (KBA.out _).mono ?_
  rintro e w2 ⟨rfl, hb2⟩
  have hH2 : Q3 w w2 a b c x y z := hH1.later hb2
  refine ⟨_, rfl, hH2, fun _ => ?_⟩
  simp only [Act.put, List.setIfInBounds_toArray, List.set_cons_zero, List.set_cons_succ]
  clear hH1 hb2
  refine oneH 8 (by kernel_rfl) rfl (stepC 8 (some 21) rfl rfl 5 _ _ rfl [.agg (cellsQ b y), .agg (cellsQ c z)] rfl (fun _ _ => Tryz.call5 _ _) ?_)
  refine (KBC.out _).mono ?_
  rintro e w3 ⟨rfl, hb3⟩
  have hH3 : Q3 w w3 a b c x y z := hH2.later hb3
  refine ⟨_, rfl, hH3, fun _ => ?_⟩
  simp only [Act.put, List.setIfInBounds_toArray, List.set_cons_zero, List.set_cons_succ]
  clear hH2 hb3
  refine oneH 11 (by kernel_rfl) rfl (stepC 11 (some 24) rfl rfl 5 _ _ rfl [.agg (cellsQ a x), .agg (cellsQ c z)] rfl (fun _ _ => Tryz.call5 _ _) ?_)
  refine (KAC.out _).mono ?_
  rintro e w4 ⟨rfl, hb4⟩
  have hH4 : Q3 w w4 a b c x y z := hH3.later hb4
  refine ⟨_, rfl, hH4, fun _ => ?_⟩
  simp only [Act.put, List.setIfInBounds_toArray, List.set_cons_zero, List.set_cons_succ]
  clear hH3 hb4
  refine takeV 12 (some 7) (.int .i64 ab) rfl rfl (by kernel_rfl) (by kernel_rfl) (by kernel_rfl) (fun _ _ _ h => h) rfl (fun wx hx => by go_simp) hH4 ?_
  simp only [Act.put, List.setIfInBounds_toArray, List.set_cons_zero, List.set_cons_succ]
  refine takeV 13 (some 8) (.int .i64 (-ab)) rfl rfl (by kernel_rfl) (by kernel_rfl) (by kernel_rfl) (fun _ _ _ h => h) rfl (fun wx hx => by go_simp) hH4 ?_
  simp only [Act.put, List.setIfInBounds_toArray, List.set_cons_zero, List.set_cons_succ]
  refine takeV 14 (some 9) (.int .i64 bc) rfl rfl (by kernel_rfl) (by kernel_rfl) (by kernel_rfl) (fun _ _ _ h => h) rfl (fun wx hx => by go_simp) hH4 ?_
  simp only [Act.put, List.setIfInBounds_toArray, List.set_cons_zero, List.set_cons_succ]
  refine takeV 15 (some 10) (.int .i64 ac) rfl rfl (by kernel_rfl) (by kernel_rfl) (by kernel_rfl) (fun _ _ _ h => h) rfl (fun wx hx => by go_simp) hH4 ?_
  simp only [Act.put, List.setIfInBounds_toArray, List.set_cons_zero, List.set_cons_succ]
  refine wpAnyH_done (by kernel_rfl) ?_ _
  have H4 := show Hid (Q3 w w4 a b c x y z) from hH4
  clear hH4 KAB KBA KBC KAC
  have hse := HSZ.out
  generalize hsq : sameQ a x b y = sq at *
  have HSQ := show Hid (sameQ a x b y = sq) from hsq
  clear hsq HSZ
  have hse2 : (ab == 0) = sq := by rw [← hse]; rfl
  have hadd : ab + -ab = 0 := by omega
  have hcond : (ab ≤ 0 ∧ bc ≤ 0 ∧ ¬ 0 < ac) ∨ (ab ≤ 0 ∧ ¬ bc ≤ 0) ∨ ¬ ab ≤ 0 := by
    by_cases h1 : ab ≤ 0
    · by_cases h2 : bc ≤ 0
      · have := HTR.out h1 h2
        exact Or.inl ⟨h1, h2, by omega⟩
      · exact Or.inr (Or.inl ⟨h1, h2⟩)
    · exact Or.inr (Or.inr h1)
  have hcs := cs_of (sq := sq) HW.out HWT.out (fun a1 a2 => HSQ.out ▸ HWA.out a1 a2)
  have HCD := show Hid _ from hcond
  have HCS := show Hid _ from hcs
  clear HTR HW HWT HWA hse hcond hcs
  go_upto_region 2 with fail
  go_cut [55] from 25 to 55 (fun s wx => s = .bool false ∧ Hid (Q3 w wx a b c x y z))
  case first =>
    go_wp2_with (first | (refine wpList_ldQQ _ _ rfl w.heap.size rfl H4.out.one hla rfl ?_) | (refine wpList_ldQQ _ _ rfl (w.heap.size + 1) rfl H4.out.two hlb rfl ?_))
    refine (KR.out _).mono ?_
    rintro e w5 ⟨rfl, hb5⟩
    have H5 := show Hid (Q3 w w5 a b c x y z) from H4.out.later hb5
    clear hb5 H4 KR
    rcases HCD.out with ⟨c1, c2, c3⟩ | ⟨c1, c2⟩ | c1
    all_goals
      clear HCD HCS
      go_wp2_with (first | (refine wpList_ldQQ _ _ rfl w.heap.size rfl H5.out.one hla rfl ?_) | (refine wpList_ldQQ _ _ rfl (w.heap.size + 1) rfl H5.out.two hlb rfl ?_) | (refine wpList_eqQ _ _ _ _ rfl (p := a) (q := b) (g := x) (h := y) rfl rfl hla hlb rfl ?_; rw [HSQ.out]))
      go_meet
      exact ⟨by first | rfl | (simp; omega), H5⟩
  case rest =>
    obtain ⟨rfl, H5⟩ := hcut
    clear H4 KR HCD hadd hse2 hbd1 hbd2
    go_wp2_with (first | (refine wpList_ldQQ _ _ rfl w.heap.size rfl H5.out.one hla rfl ?_) | (refine wpList_ldQQ _ _ rfl (w.heap.size + 1) rfl H5.out.two hlb rfl ?_))
    refine (KW1.out _).mono ?_
    rintro e w6 ⟨rfl, hb6⟩
    have H6 := show Hid (Q3 w w6 a b c x y z) from H5.out.later hb6
    clear hb6 H5 KW1
    go_wp2_with (first | (refine wpList_ldQQ _ _ rfl (w.heap.size + 1) rfl H6.out.two hlb rfl ?_) | (refine wpList_ldQQ _ _ rfl (w.heap.size + 1 + 1) rfl H6.out.tri hlc rfl ?_))
    refine (KW2.out _).mono ?_
    rintro e w7 ⟨rfl, hb7⟩
    have H7 := show Hid (Q3 w w7 a b c x y z) from H6.out.later hb7
    clear hb7 H6 KW2
    go_upto_region 6 with fail
    go_cut [100] from 62 to 100 (fun s wx => s = .bool false ∧ Hid (Q3 w wx a b c x y z))
    case first =>
      have g1 := H7.out.one.goal hla
      have g2 := H7.out.two.goal hlb
      rcases HCS.out with ⟨d1, d2⟩ | ⟨d1, d2, d3⟩ | ⟨d1, d2, d3, d4, d5⟩ | ⟨d1, d2, d3, d4, d5, d6⟩ | ⟨d1, d2, d3, d4, d5, d6⟩ | ⟨d1, d2, d3, d4, d5, d6, d7⟩
      · subst d2
        clear HCS
        go_wp2_with fail
        go_meet
        exact ⟨rfl, H7⟩
      · subst d2 d3
        clear HCS
        go_wp2_with (first | (refine wpList_ldQ _ _ rfl w.heap.size rfl H7.out.one hla rfl ?_) | (refine wpList_ldQ _ _ rfl (w.heap.size + 1) rfl H7.out.two hlb rfl ?_))
        refine (KS.out _).mono ?_
        rintro e w8 ⟨rfl, hb8⟩
        have H8 := show Hid (Q3 w w8 a b c x y z) from H7.out.later hb8
        clear hb8 H7 g1 g2
        go_wp2_with fail
        go_meet
        exact ⟨rfl, H8⟩
      · subst d2 d3 d4 d5
        clear HCS
        go_wp2_with (first | (refine wpList_ldQ _ _ rfl w.heap.size rfl H7.out.one hla rfl ?_) | (refine wpList_ldQ _ _ rfl (w.heap.size + 1) rfl H7.out.two hlb rfl ?_))
        refine (KS.out _).mono ?_
        rintro e w8 ⟨rfl, hb8⟩
        have H8 := show Hid (Q3 w w8 a b c x y z) from H7.out.later hb8
        clear hb8 H7 g1 g2
        go_wp2_with (first | (refine wpList_ldQQ _ _ rfl w.heap.size rfl H8.out.one hla rfl ?_) | (refine wpList_ldQQ _ _ rfl (w.heap.size + 1) rfl H8.out.two hlb rfl ?_))
        refine (KW4.out _).mono ?_
        rintro e w9 ⟨rfl, hb9⟩
        have H9 := show Hid (Q3 w w9 a b c x y z) from H8.out.later hb9
        clear hb9 H8
        go_wp2_with fail
        go_meet
        exact ⟨rfl, H9⟩
      · subst d2 d3 d4 d5 d6
        clear HCS
        go_wp2_with (first | (refine wpList_ldQ _ _ rfl w.heap.size rfl H7.out.one hla rfl ?_) | (refine wpList_ldQ _ _ rfl (w.heap.size + 1) rfl H7.out.two hlb rfl ?_))
        refine (KS.out _).mono ?_
        rintro e w8 ⟨rfl, hb8⟩
        have H8 := show Hid (Q3 w w8 a b c x y z) from H7.out.later hb8
        clear hb8 H7 g1 g2
        go_wp2_with (first | (refine wpList_ldQQ _ _ rfl w.heap.size rfl H8.out.one hla rfl ?_) | (refine wpList_ldQQ _ _ rfl (w.heap.size + 1 + 1) rfl H8.out.tri hlc rfl ?_))
        refine (KW3.out _).mono ?_
        rintro e w9 ⟨rfl, hb9⟩
        have H9 := show Hid (Q3 w w9 a b c x y z) from H8.out.later hb9
        clear hb9 H8
        go_wp2_with (first | (refine wpList_ldQQ _ _ rfl w.heap.size rfl H9.out.one hla rfl ?_) | (refine wpList_ldQQ _ _ rfl (w.heap.size + 1) rfl H9.out.two hlb rfl ?_))
        refine (KW4.out _).mono ?_
        rintro e w10 ⟨rfl, hb10⟩
        have H10 := show Hid (Q3 w w10 a b c x y z) from H9.out.later hb10
        clear hb10 H9
        go_wp2_with fail
        go_meet
        exact ⟨rfl, H10⟩
      · subst d2 d3 d4 d5 d6
        clear HCS
        go_wp2_with (first | (refine wpList_ldQ _ _ rfl w.heap.size rfl H7.out.one hla rfl ?_) | (refine wpList_ldQ _ _ rfl (w.heap.size + 1) rfl H7.out.two hlb rfl ?_))
        refine (KS.out _).mono ?_
        rintro e w8 ⟨rfl, hb8⟩
        have H8 := show Hid (Q3 w w8 a b c x y z) from H7.out.later hb8
        clear hb8 H7 g1 g2
        go_wp2_with (first | (refine wpList_ldQQ _ _ rfl w.heap.size rfl H8.out.one hla rfl ?_) | (refine wpList_ldQQ _ _ rfl (w.heap.size + 1) rfl H8.out.two hlb rfl ?_))
        refine (KW4.out _).mono ?_
        rintro e w9 ⟨rfl, hb9⟩
        have H9 := show Hid (Q3 w w9 a b c x y z) from H8.out.later hb9
        clear hb9 H8
        go_wp2_with (first | (refine wpList_ldQQ _ _ rfl w.heap.size rfl H9.out.one hla rfl ?_) | (refine wpList_ldQQ _ _ rfl (w.heap.size + 1) rfl H9.out.two hlb rfl ?_) | (refine wpList_neQ _ _ _ _ rfl (p := a) (q := b) (g := x) (h := y) rfl rfl hla hlb rfl ?_; rw [HSQ.out]))
        go_meet
        exact ⟨rfl, H9⟩
      · subst d2 d3 d4 d5 d6 d7
        clear HCS
        go_wp2_with (first | (refine wpList_ldQ _ _ rfl w.heap.size rfl H7.out.one hla rfl ?_) | (refine wpList_ldQ _ _ rfl (w.heap.size + 1) rfl H7.out.two hlb rfl ?_))
        refine (KS.out _).mono ?_
        rintro e w8 ⟨rfl, hb8⟩
        have H8 := show Hid (Q3 w w8 a b c x y z) from H7.out.later hb8
        clear hb8 H7 g1 g2
        go_wp2_with (first | (refine wpList_ldQQ _ _ rfl w.heap.size rfl H8.out.one hla rfl ?_) | (refine wpList_ldQQ _ _ rfl (w.heap.size + 1 + 1) rfl H8.out.tri hlc rfl ?_))
        refine (KW3.out _).mono ?_
        rintro e w9 ⟨rfl, hb9⟩
        have H9 := show Hid (Q3 w w9 a b c x y z) from H8.out.later hb9
        clear hb9 H8
        go_wp2_with (first | (refine wpList_ldQQ _ _ rfl w.heap.size rfl H9.out.one hla rfl ?_) | (refine wpList_ldQQ _ _ rfl (w.heap.size + 1) rfl H9.out.two hlb rfl ?_))
        refine (KW4.out _).mono ?_
        rintro e w10 ⟨rfl, hb10⟩
        have H10 := show Hid (Q3 w w10 a b c x y z) from H9.out.later hb10
        clear hb10 H9
        go_wp2_with (first | (refine wpList_ldQQ _ _ rfl w.heap.size rfl H10.out.one hla rfl ?_) | (refine wpList_ldQQ _ _ rfl (w.heap.size + 1) rfl H10.out.two hlb rfl ?_) | (refine wpList_neQ _ _ _ _ rfl (p := a) (q := b) (g := x) (h := y) rfl rfl hla hlb rfl ?_; rw [HSQ.out]))
        go_meet
        exact ⟨rfl, H10⟩
    case rest =>
      obtain ⟨rfl, H8⟩ := hcut
      clear H7 HCS KS KW3 KW4
      go_wp2_with (first | (refine wpList_ldQQ _ _ rfl w.heap.size rfl H8.out.one hla rfl ?_))
      refine (KW5.out _).mono ?_
      rintro e w20 ⟨rfl, hb20⟩
      have H20 := show Hid (Below w.heap.size w w20) from (H8.out.later hb20).bel
      clear hb20 H8
      go_wp2_with fail
      refine (KH.out _ H20.out).mono ?_
      rintro e w21 ⟨rfl, hb21⟩
      have H21 := show Hid (Below w.heap.size w w21) from H20.out.trans (hb21.mono H20.out.size)
      clear hb21
      go_wp2_with fail
      go_ret
      exact ⟨rfl, H21.out⟩
end Go.Proofs.YtkmmlimekachbabGreatDoor
