/-
  The call Join: tokens written, a blank between each two: for every row of at most 2^20 tokens with texts of at most 2^20 bytes, where the tables stand as the program's text lays them.
-/
import Derived.Test.YtgcoalcfhflfiaaDoorTName
import Derived.OwnWalk
namespace Go.Proofs.YtgcoalcfhflfiaaDoor
open Go.RowKit Go.Sort

/-- A token as it comes in. -/
structure Rt where
  k : Int
  s : ByteArray
  n : Int
  l : Int
  c : Int
  o : Int
def Rt.tok (t : Rt) : Tk.Tok := (t.k, t.s.data.toList, t.n)
def Rt.ok (t : Rt) : Prop := t.s.size ≤ 1048576 ∧ -9223372036854775808 ≤ t.n ∧ t.n ≤ 9223372036854775807
def Small (ts : List Rt) : Prop := ts.length ≤ 1048576 ∧ ∀ t ∈ ts, t.ok
/-- A token lies at six cells. -/
def At6 (w : World) (b o : Nat) (t : Rt) : Prop :=
  w.cell? ⟨b, o, none⟩ = some (.int .i64 t.k) ∧ w.cell? ⟨b, o + 1, none⟩ = some (.string t.s) ∧ w.cell? ⟨b, o + 2, none⟩ = some (.int .i64 t.n) ∧ w.cell? ⟨b, o + 3, none⟩ = some (.int .i64 t.l) ∧ w.cell? ⟨b, o + 4, none⟩ = some (.int .i64 t.c) ∧ w.cell? ⟨b, o + 5, none⟩ = some (.int .i64 t.o)
theorem At6.later {w w' : World} {b o : Nat} {t : Rt} (h : At6 w b o t) (hb : Below w.heap.size w w') : At6 w' b o t :=
  ⟨cell_later hb h.1, cell_later hb h.2.1, cell_later hb h.2.2.1, cell_later hb h.2.2.2.1, cell_later hb h.2.2.2.2.1, cell_later hb h.2.2.2.2.2⟩
/-- The value v is a row of just the tokens ts. -/
def IsT (w : World) (v : Value) (ts : List Rt) : Prop :=
  ∃ p c, v = .slice p ts.length c ∧ ts.length ≤ c ∧ c ≤ 9223372036854775807 ∧ (0 < ts.length → ∃ b o, p = some ⟨b, o, none⟩ ∧ ∀ k (hk : k < ts.length), At6 w b (o + k * 6) ts[k])
theorem IsT.later {w w' : World} {v : Value} {ts : List Rt} (h : IsT w v ts) (hb : Below w.heap.size w w') : IsT w' v ts := by
  obtain ⟨p, c, hv, h1, h2, h3⟩ := h
  refine ⟨p, c, hv, h1, h2, fun hp => ?_⟩
  obtain ⟨b, o, e, hc⟩ := h3 hp
  exact ⟨b, o, e, fun k hk => (hc k hk).later hb⟩
/-- What Join answers. -/
def jnF : List Tk.Tok → List (List UInt8) → List UInt8 × Int
  | [], acc => (Lib.join acc [32], 0)
  | t :: r, acc => if (wrt t).2 ≠ 0 then ([], (wrt t).2) else if t.1 = 0 ∧ r ≠ [] then ([], 2) else jnF r (acc ++ [(wrt t).1])
def jn (ts : List Tk.Tok) : List UInt8 × Int := jnF ts []
theorem wrt_length (t : Rt) (h : t.ok) : (wrt t.tok).1.length ≤ 1048597 := by
  unfold wrt
  split
  · unfold rawText
    split
    · have := Lib.itoa_length_le t.n h.2.1 h.2.2
      show (Lib.itoa t.n).length ≤ _
      omega
    · have e : t.s.data.toList.length = t.s.size := rfl
      show t.s.data.toList.length ≤ _
      have := h.1
      omega
  · simp
theorem lens_le (m : Nat) : ∀ (xs : List (List UInt8)), (∀ x ∈ xs, x.length ≤ m) → Lib.lens xs ≤ xs.length * m
  | [], _ => by simp [Lib.lens]
  | x :: r, h => by
    have h1 := lens_le m r fun y hy => h y (by simp [hy])
    have h2 := h x (by simp)
    simp only [Lib.lens, List.map_cons, List.sum_cons, List.length_cons] at h1 ⊢
    rw [Nat.succ_mul]
    omega
theorem join_le (xs : List (List UInt8)) (hn : xs.length ≤ 1048576) (h : ∀ x ∈ xs, x.length ≤ 1048597) : (Lib.join xs [32]).length ≤ 140737488355328 := by
  cases xs with
  | nil => simp [Lib.join_nil]
  | cons x r =>
    rw [Lib.join_cons, List.length_append, Lib.joinTail_length]
    have h1 := lens_le 1048597 r fun y hy => h y (by simp [hy])
    have h2 := h x (by simp)
    simp only [List.length_cons] at hn
    have h3 : r.length * 1048597 ≤ 1048576 * 1048597 := Nat.mul_le_mul_right _ (by omega)
    simp only [List.length_singleton, Nat.one_mul]
    omega
def strV (xs : List (List UInt8)) : List Value := xs.map fun x => .string ⟨x.toArray⟩
theorem info_str : (Tryd.prog.info? 9).map (fun i => (i.zero, i.size, i.bytes)) = some (some (.string ⟨#[]⟩), 1, 16) := by kernel_rfl
theorem own_ltS {w : World} {B n : Nat} {v : Value} {xs : List Value} (h : w.ownsRow B 9 1 v n xs) : ∀ k, v.ownBlock = some k → B ≤ k ∧ k < w.heap.size := by
  intro k hk
  rcases h.2 with ⟨rfl, _⟩ | ⟨g, cap, cur, rfl, hg, hh, r⟩
  · cases hk
  · obtain rfl : g = k := Option.some.inj hk
    exact ⟨hg, lt_of_block hh⟩
theorem own_belowS {w w' : World} {B n : Nat} {v : Value} {xs : List Value} (h : w.ownsRow B 9 1 v n xs) (hb : Below w.heap.size w w') : w'.ownsRow B 9 1 v n xs := by
  refine ⟨h.1, ?_⟩
  rcases h.2 with h2 | ⟨g, cap, cur, rfl, hg, hh, r⟩
  · exact Or.inl h2
  · exact Or.inr ⟨g, cap, cur, rfl, hg, (hb.block g (lt_of_block hh)).trans hh, r⟩
set_option maxRecDepth 100000 in
set_option maxHeartbeats 4000000 in
theorem join_any (w : World) (v : Value) (ts : List Rt) (hT : IsT w v ts) (hsm : Small ts) (hL : Laid w) (hP : Pows w) :
    Calls Tryd.prog 19 #[v] w fun e w' => e = .returned (.tuple #[.string ⟨(jn (ts.map Rt.tok)).1.toArray⟩, .int .i64 (jn (ts.map Rt.tok)).2]) ∧ Below w.heap.size w w' := by
  obtain ⟨pp, pc, rfl, hpc1, hpc2, hpc⟩ := hT
  have HPC := show Hid (0 < ts.length → ∃ b o, pp = some ⟨b, o, none⟩ ∧ ∀ k (hk : k < ts.length), At6 w b (o + k * 6) ts[k]) from hpc
  have HL := show Hid (Laid w) from hL
  have HP := show Hid (Pows w) from hP
  have HSM := show Hid (∀ t ∈ ts, t.ok) from hsm.2
  have hn := hsm.1
  obtain ⟨i0, hi, hz0, hz1, hz2⟩ := info_parts info_str
  have HX : Hid (jnF ((ts.drop 0).map Rt.tok) [] = jn (ts.map Rt.tok)) := rfl
  clear hpc hL hP hsm
  generalize jn (ts.map Rt.tok) = ans at *
  go_enter Tryd.func19, Tryd.ntmps19
  go_wp2_with (refine wpList_make_own _ rfl (.const (.int .i64 0)) (.tmp 10) 49 rfl w.heap.size 9 i0 _ 1 Tryd.underlying49 hi hz0 hz1 .i64 .i64 (ts.length : Int) ts.length rfl rfl rfl (by rw [hz2]; omega) (by unfold maxLen; omega) (Nat.le_refl _) ?_)
  intro w1 hown1 hg1
  have HO1 := show Hid (w1.ownsRow w.heap.size 9 1 (.slice (some ⟨w.heap.size, 0, none⟩) 0 ts.length) 0 []) from hown1
  have HB1 := show Hid (Below w.heap.size w w1) from (Below.refl _ _).grown hg1 (Nat.le_refl _) (fun k e => by cases e)
  clear hown1 hg1
  go_wp2_with fail
  go_loopw [4, 14] (fun v4 v14 wr => ∃ (k : Nat) (xs : List (List UInt8)), k ≤ ts.length ∧ v14 = .int .i64 k ∧ v4 = .slice (some ⟨w.heap.size, 0, none⟩) k ts.length ∧ Hid (xs.length = k ∧ (∀ x ∈ xs, x.length ≤ 1048597)) ∧ Hid (jnF ((ts.drop k).map Rt.tok) xs = ans) ∧ Hid (wr.ownsRow w.heap.size 9 1 (.slice (some ⟨w.heap.size, 0, none⟩) k ts.length) k (strV xs)) ∧ Hid (Below w.heap.size w wr)) (fun _ v14 _ => ts.length - (intOf v14).toNat)
  case atStart => exact ⟨0, [], by omega, rfl, rfl, ⟨rfl, fun x hx => by cases hx⟩, HX, HO1, HB1⟩
  case round =>
    obtain ⟨k, xs, hk, rfl, rfl, HXS, HJ, HO, HB⟩ := hrel
    clear HX
    by_cases hlt : k < ts.length
    · obtain ⟨b, o, rfl, hcell⟩ := HPC.out (by omega)
      have hck := (hcell k hlt).later (HB.out)
      have hj := HJ.out
      rw [List.drop_eq_getElem_cons hlt, List.map_cons, jnF] at hj
      have hok := HSM.out ts[k] (List.getElem_mem hlt)
      have hrest : ((ts.drop (k + 1)).map Rt.tok ≠ []) ↔ k + 1 < ts.length := by
        rw [Ne, List.map_eq_nil_iff, List.drop_eq_nil_iff]
        omega
      have hwl := wrt_length ts[k] hok
      generalize ts[k] = t at *
      obtain ⟨tk, tt, ti, tl, tc, tO⟩ := t
      obtain ⟨hc0, hc1, hc2, hc3, hc4, hc5⟩ := hck
      simp only at hc0 hc1 hc2 hc3 hc4 hc5
      have CW := show Hid (∀ w1, Below w.heap.size w w1 → Calls Tryd.prog 17 #[.agg #[.int .i64 tk, .string tt, .int .i64 ti, .int .i64 tl, .int .i64 tc, .int .i64 tO]] w1 fun e w' => e = .returned (.tuple #[.string ⟨(wrt (tk, tt.data.toList, ti)).1.toArray⟩, .int .i64 (wrt (tk, tt.data.toList, ti)).2]) ∧ Below w1.heap.size w1 w') from fun w1 hb => write_any w1 tk tt ti tl tc tO (Nat.le_trans hok.1 (by omega)) hok.2.1 hok.2.2 (HL.out.later hb) (HP.out.later hb)
      have hj2 : (if (wrt (tk, tt.data.toList, ti)).2 ≠ 0 then ([], (wrt (tk, tt.data.toList, ti)).2) else if tk = 0 ∧ (ts.drop (k + 1)).map Rt.tok ≠ [] then ([], 2) else jnF ((ts.drop (k + 1)).map Rt.tok) (xs ++ [(wrt (tk, tt.data.toList, ti)).1])) = ans := hj
      have hwl2 : (wrt (tk, tt.data.toList, ti)).1.length ≤ 1048597 := hwl
      clear hj hwl hok hcell
      generalize wrt (tk, tt.data.toList, ti) = wr1 at *
      obtain ⟨wt, we⟩ := wr1
      simp only at hj2 hwl2
      have HJ2 := show Hid _ from hj2
      have HRE := show Hid _ from hrest
      have HWL := show Hid (wt.length ≤ 1048597) from hwl2
      clear hj2 hrest hwl2 HJ
      have hltg : w.heap.size < wr.heap.size := (own_ltS HO.out _ rfl).2
      go_wp2_with fail
      refine (CW.out _ (HB.out.alloc (by omega) _)).mono ?_
      rintro e w2 ⟨rfl, hb2⟩
      have hbr : Below wr.heap.size wr w2 := (below_alloc _ _).trans (hb2.mono (by simp))
      have HO2 := show Hid (w2.ownsRow w.heap.size 9 1 (.slice (some ⟨w.heap.size, 0, none⟩) k ts.length) k (strV xs)) from own_belowS HO.out hbr
      have HB2 := show Hid (Below w.heap.size w w2) from HB.out.trans (hbr.mono (by omega))
      have ht0 : w2.cell? ⟨wr.heap.size, 0, none⟩ = some (.int .i64 tk) := by
        have h : T6 w2 wr.heap.size _ _ _ _ _ _ := (hb2.block _ (by simp)).trans (heap_alloc_new _ _)
        exact h.c0
      have hlt2 : wr.heap.size ≤ w2.heap.size := hbr.size
      clear hbr hb2 CW HO HB hc0 hc1 hc2 hc3 hc4 hc5
      by_cases hwe : we = 0
      · subst hwe
        have hJ := HJ2.out
        rw [if_neg (by simp)] at hJ
        by_cases hend : tk = 0 ∧ k + 1 < ts.length
        · rw [if_pos ⟨hend.1, HRE.out.2 hend.2⟩] at hJ
          subst hJ
          obtain ⟨h1, h2⟩ := hend
          subst h1
          have q : decide ((k : Int) < (ts.length : Int) - 1) = true := decide_eq_true (by omega)
          clear HJ2 h2
          go_wp2_with fail
          go_ret2
          exact ⟨rfl, HB2.out⟩
        · rw [if_neg (fun h => hend ⟨h.1, HRE.out.1 h.2⟩)] at hJ
          have HJ3 := show Hid (jnF ((ts.drop (k + 1)).map Rt.tok) (xs ++ [wt]) = ans) from hJ
          clear hJ HJ2
          have hor : (tk == 0) = false ∨ ((tk == 0) = true ∧ decide ((k : Int) < (ts.length : Int) - 1) = false) := by
            by_cases h : tk = 0
            · exact Or.inr ⟨beq_iff_eq.2 h, decide_eq_false (by omega)⟩
            · exact Or.inl (beq_eq_false_iff_ne.2 h)
          clear hend
          rcases hor with q1 | ⟨q1, q2⟩
          all_goals
            go_wp2_with (at_builtin; refine wpList_append_fits _ rfl (.tmp 37) (.tmp 39) 49 rfl w.heap.size 9 i0 1 Tryd.underlying49 hi hz1 w.heap.size k ts.length (strV xs) rfl (own_belowS HO2.out (below_alloc _ _)) ⟨w2.heap.size, 0, none⟩ 1 1 [.string ⟨wt.toArray⟩] rfl rfl (lit_newsV _ _ _ _ rfl) (by intro u hu; simp at hu; subst hu; rfl) (by omega) ?_)
            intro w3 hown3 hg3
            have HO3 := show Hid (w3.ownsRow w.heap.size 9 1 (.slice (some ⟨w.heap.size, 0, none⟩) (k + 1) ts.length) (k + 1) (strV (xs ++ [wt]))) from by
              rw [show strV (xs ++ [wt]) = strV xs ++ [.string ⟨wt.toArray⟩] by simp [strV]]
              exact hown3
            have HB3 := show Hid (Below w.heap.size w w3) from (HB2.out.alloc (by omega) _).grown hg3 (by simp; omega) (fun j e => by cases e; exact Nat.le_refl _)
            clear hown3 hg3 HO2 HB2
            go_wp2_with fail
            go_roundw
            case rel =>
              refine ⟨k + 1, xs ++ [wt], by omega, by go_num, rfl, ⟨by simp [HXS.out.1], fun x hx => ?_⟩, HJ3, HO3, HB3⟩
              rcases List.mem_append.1 hx with h | h
              · exact HXS.out.2 x h
              · rw [List.mem_singleton.1 h]; exact HWL.out
            case measure => simp [intOf]; omega
      · have hwe0 : (we != 0) = true := by simp [hwe]
        have hJ := HJ2.out
        rw [if_pos hwe] at hJ
        subst hJ
        clear HJ2 hwe
        go_wp2_with fail
        go_ret2
        exact ⟨rfl, HB2.out⟩
    · obtain rfl : k = ts.length := by omega
      have hJ := HJ.out
      rw [List.drop_eq_nil_of_le (Nat.le_refl _), List.map_nil, jnF] at hJ
      subst hJ
      have CJ := show Hid (Calls Tryd.prog 35 #[.slice (some ⟨w.heap.size, 0, none⟩) ts.length ts.length, .string ⟨#[32]⟩] wr fun e w' => e = .returned (.string ⟨(Lib.join xs [32]).toArray⟩) ∧ Below wr.heap.size wr w') from by
        have hx := HXS.out
        have hl : (xs.map fun x => (⟨x.toArray⟩ : ByteArray)).length = ts.length := by rw [List.length_map]; exact hx.1
        have hm : (xs.map fun x => (⟨x.toArray⟩ : ByteArray)).map (fun x => x.data.toList) = xs := by
          rw [List.map_map]
          conv => rhs; rw [← List.map_id xs]
          exact List.map_congr_left fun x _ => by simp
        have := Tryd.strings_Join w.heap.size 0 ts.length (xs.map fun x => (⟨x.toArray⟩ : ByteArray)) ⟨#[32]⟩ wr (fun j x hj => by
          have hj' : (strV xs)[j]? = some (.string x) := by
            rw [List.getElem?_map] at hj
            unfold strV
            rw [List.getElem?_map]
            cases hxj : xs[j]? with
            | none => rw [hxj] at hj; cases hj
            | some y => rw [hxj] at hj; cases hj; rfl
          have hjl : j < ts.length := by
            have := (List.getElem?_eq_some_iff.1 hj).1
            rw [hl] at this
            exact this
          have hc := HO.out.cellAt j (by omega)
          rw [Nat.zero_add, hc]
          exact hj') (own_ltS HO.out _ rfl).2 (by omega) (by omega) (by rw [hm]; exact join_le xs (by omega) hx.2)
        rw [hm, hl] at this
        exact this
      clear HJ
      go_wp2_with fail
      refine CJ.out.mono ?_
      rintro e w2 ⟨rfl, hb2⟩
      have HB2 := show Hid (Below w.heap.size w w2) from HB.out.trans (hb2.mono HB.out.size)
      clear hb2 CJ
      go_wp2_with fail
      go_ret2
      exact ⟨rfl, HB2.out⟩
end Go.Proofs.YtgcoalcfhflfiaaDoor
