/-
  The calls below, Within and places: how often each row stands in a formula. For every table that calls made.
-/
import Derived.Test.YthdcppkohalkmaaGreatMBack
import Derived.Test.YthdcppkohalkmaaGreatMLess
import Derived.Maps.OwnIn
namespace Go.Proofs.YthdcppkohalkmaaGreat
open Go.RowKit Go.Shelf Go.Maps
open Fm (Nd)
attribute [local go_sem] Oper.semAt_some

theorem isI_slice {w : World} {B : Nat} {v : Value} {l : List Nat} (h : IsI w B v l) : ∃ p c, v = .slice p l.length c := by
  rcases h.2 with ⟨rfl, h0⟩ | ⟨g, cap, cur, rfl, _⟩
  · exact ⟨_, _, by rw [h0]⟩
  · exact ⟨_, _, rfl⟩
theorem isI_isL {w : World} {B : Nat} {v : Value} {l : List Nat} (h : IsI w B v l) (hn : l.length ≤ 9223372036854775807) : IsL w v (l.map fun n : Nat => (n : Int)) := by
  have h' : w.ownsRow B 3 1 v l.length ((l.map fun n : Nat => (n : Int)).map (Value.int .i64)) := by
    have e : (l.map fun n : Nat => (n : Int)).map (Value.int .i64) = ints l := by simp [ints]
    rw [e]
    exact h
  exact isL_own h' hn
section
variable {b m : Nat} {v : Value} {t : List Nd}
theorem belowR_len (hok : Fm.Ok t) (i : Int) : (belowR t i).1.length ≤ 1024 := by
  have := hok.len
  unfold belowR
  split
  · rename_i hh
    have := Fm.has_iff.1 hh
    have h2 : (Fm.below t i.toNat).length ≤ i.toNat + 1 := by
      unfold Fm.below
      refine Nat.le_trans (List.length_filter_le _ _) ?_
      simp
    show (Fm.below t i.toNat).length ≤ 1024
    omega
  · simp
set_option maxHeartbeats 1000000 in
theorem belowM_any (w : World) (hT : Tb w b m v t) (i : Int) :
    Calls Tryz.prog 54 #[.pointer (some ⟨b, 0, none⟩), .int .i64 i] w fun e w' => ∃ p c, e = .returned (.slice p (belowR t i).1.length c) ∧ IsI w' w.heap.size (.slice p (belowR t i).1.length c) (belowR t i).1 ∧ Below w.heap.size w w' := by
  have K := show Hid (Calls Tryz.prog 33 #[.pointer (some ⟨b, 0, none⟩), .int .i64 i] w fun e w' => ∃ p c, e = .returned (.tuple #[.slice p (belowR t i).1.length c, .int .i64 (belowR t i).2]) ∧ IsI w' w.heap.size (.slice p (belowR t i).1.length c) (belowR t i).1 ∧ Below w.heap.size w w') from (below_any w hT i).mono fun e w' ⟨v', he, hi, hb⟩ => by
    obtain ⟨p, c, rfl⟩ := isI_slice hi
    exact ⟨p, c, he, hi, hb⟩
  generalize belowR t i = r at *
  clear hT
  go_enter Tryz.func54, Tryz.ntmps54
  go_wp2_with fail
  refine K.out.mono ?_
  rintro e w' ⟨p, c, rfl, h1, h2⟩
  have HH := show Hid (IsI w' w.heap.size (.slice p r.1.length c) r.1 ∧ Below w.heap.size w w') from ⟨h1, h2⟩
  clear h1 h2 K
  go_wp2_with fail
  go_ret
  exact ⟨p, c, rfl, HH.out⟩
set_option maxHeartbeats 1000000 in
theorem within_any (w : World) (hT : Tb w b m v t) (part i : Int) :
    Calls Tryz.prog 26 #[.pointer (some ⟨b, 0, none⟩), .int .i64 part, .int .i64 i] w fun e w' => e = .returned (.bool (((belowR t i).1.map fun n : Nat => (n : Int)).contains part)) ∧ Below w.heap.size w w' := by
  have K := show Hid (Calls Tryz.prog 54 #[.pointer (some ⟨b, 0, none⟩), .int .i64 i] w fun e w' => ∃ p c, e = .returned (.slice p (belowR t i).1.length c) ∧ IsI w' w.heap.size (.slice p (belowR t i).1.length c) (belowR t i).1 ∧ Below w.heap.size w w') from belowM_any w hT i
  have hlen := belowR_len hT.ok i
  have hsort : ((belowR t i).1.map fun n : Nat => (n : Int)).Pairwise (· ≤ ·) := by
    unfold belowR
    split
    · refine List.Pairwise.map _ (fun a b (h : a < b) => ?_) (Ms.below_sorted t i.toNat)
      show (a : Int) ≤ (b : Int)
      omega
    · exact List.Pairwise.nil
  have KS := show Hid (∀ w1 p c, IsI w1 w.heap.size (.slice p (belowR t i).1.length c) (belowR t i).1 → Calls Tryz.prog 53 #[.slice p (belowR t i).1.length c, .int .i64 part] w1 fun e w' => (∃ k, e = .returned (.tuple #[.int .i64 k, .bool (((belowR t i).1.map fun n : Nat => (n : Int)).contains part)])) ∧ ∃ q, w' = w1.drewN q) from fun w1 p c hI => by
    obtain ⟨p2, c2, hv, _, hcell⟩ := isI_isL hI (by omega)
    generalize (belowR t i).1 = l at *
    cases hl : l with
    | nil =>
      exact (Tryz.slices_BinarySearch_int_empty p c part w1).mono fun e w' ⟨he, hw⟩ => ⟨⟨_, he⟩, 0, hw⟩
    | cons x r =>
      rw [← hl]
      have hp : 0 < (l.map fun n : Nat => (n : Int)).length := by rw [hl]; simp
      obtain ⟨g, o, hp2, _⟩ := hcell 0 hp
      obtain ⟨rfl, _, rfl⟩ := Value.slice.inj hv
      subst hp2
      have h := Tryz.slices_BinarySearch_int g o l.length c (l.map fun n : Nat => (n : Int)) part w1 (by simp) (by omega) (fun j hj => by
        obtain ⟨g2, o2, e2, h2⟩ := hcell j hj
        cases e2
        rw [h2, List.getD_eq_getElem?_getD, List.getElem?_eq_getElem hj]
        rfl) (by rw [List.take_of_length_le (by simp)]; exact hsort)
      rw [List.take_of_length_le (by simp)] at h
      exact h.mono fun e w' ⟨he, hw⟩ => ⟨⟨_, he⟩, hw⟩
  generalize ((belowR t i).1.map fun n : Nat => (n : Int)).contains part = r at *
  generalize belowR t i = l at *
  clear hT hsort
  go_enter Tryz.func26, Tryz.ntmps26
  go_wp2_with fail
  refine K.out.mono ?_
  rintro e w1 ⟨p, c, rfl, h1, h2⟩
  have K2 := show Hid (Calls Tryz.prog 53 #[.slice p l.1.length c, .int .i64 part] w1 fun e w' => (∃ k, e = .returned (.tuple #[.int .i64 k, .bool r])) ∧ ∃ q, w' = w1.drewN q) from KS.out w1 p c h1
  have HB := show Hid (Below w.heap.size w w1) from h2
  clear h1 h2 K KS
  go_wp2_with fail
  refine K2.out.mono ?_
  rintro e w2 ⟨⟨k, rfl⟩, q, rfl⟩
  clear K2
  go_wp2_with fail
  go_ret
  exact ⟨rfl, ⟨HB.out.os, HB.out.tape, HB.out.output, HB.out.size, HB.out.block⟩⟩
end
/-! ### places -/
theorem range_exG {F : Fence} {n : Nat} {P : Program} {α : Type} {g : Operand} {ps : Array Tmp} {assign body : Code} {Q : Exit → Act → World → Prop} {a : Act} {w : World}
    (hro : F.round = none) (h1 : 1 ≤ n) {gf : Nat} {lb : Array Value} (hg : a.eval g = .func (.func gf) #[] lb) (hFg : F.fn gf) (eg : ∀ args w, (callFunc gf args).run P w = .ok (.enter gf args) w)
    {encs : α → Array Value} {n₁ mm : Nat} {S Sp : List α → Prop} {N : Nat} {w0 : World} (hseq : SeqStopsK F (n - 1) P gf lb encs (KB n₁ mm) S Sp N w0)
    (hn₁ : n₁ ≤ w.heap.size) (hb0 : Below w0.heap.size w0 w) (hps : ∀ x, (encs x).size = ps.size)
    (I : List α → World → Prop) (hI : OwnFrom w.heap.size I) (h0 : I [] w)
    (hab : ∃ a₁ : α → Act, (∀ (l : Nat) (x : α) (W : World) (K : Act → World → Prop), K (a₁ x) W →
      assign.wpIn (F.inRound l) (n - 1 - 1) P (Exit.then K (fun _ _ _ => False)) { tmps := (ps.zip (encs x)).foldl (fun t (p, v) => t.setIfInBounds p v) a.tmps, defers := [] } W) ∧
     (∀ (l : Nat) (pre : List α) (x : α) (W : World), I pre W → pre.length < N → body.wpIn (F.inRound l) (n - 1 - 1) P (ownPostG w.heap.size (KB n₁ mm) I (fun _ _ _ => False) (pre ++ [x]) W) (a₁ x) W))
    (hdone : ∀ (D : Nat) (xs : List α) (W : World), w.heap.size ≤ D → S xs → I xs W → W.heap[D]? = some (.deferred (some [])) → Q .normal { a with defers := { target := .collected D, args := #[] } :: a.defers } W) :
    (Code.rangeFunc g ps assign body).wpIn F n P Q a w := by
  obtain ⟨a₁, ha, hb⟩ := hab
  exact wpIn_rangeFunc_ownG hro h1 hg hFg eg hseq kb_t (kb_b hn₁) hb0 hps I (fun _ _ _ => False) hI (fun _ _ _ _ _ h _ _ => h) h0 a₁ ha hb hdone (fun _ _ _ _ _ _ h _ => h.elim)
/-- A map of pairs of counts. -/
def Mc (W : World) (M n N : Nat) (c : Ms.C) : Prop := ∃ g, Mp W M n g ∧ ∀ j : Nat, j < N → (g (j : Int)).getD (sdV (0, 0)) = sdV (c j)
theorem Mc.keep {W W' : World} {M n N : Nat} {c : Ms.C} (h : Mc W M n N c) (hk : W'.heap[M]? = W.heap[M]?) : Mc W' M n N c := by
  obtain ⟨g, hM, hg⟩ := h
  exact ⟨g, hM.keep hk, hg⟩
theorem Mc.later {W W' : World} {M n N : Nat} {c : Ms.C} (h : Mc W M n N c) (hb : Below W.heap.size W W') : Mc W' M n N c := by
  obtain ⟨g, hM, hg⟩ := h
  exact ⟨g, hM.later hb, hg⟩
theorem zero_sides (w : World) : (zeroValue 80).run Tryz.prog w = .ok (sdV (0, 0)) w := by kernel_rfl
theorem Mc.look {W : World} {M n N : Nat} {c : Ms.C} (h : Mc W M n N c) {j : Nat} (hj : j < N) (hN : N ≤ 1024) : (Instr.lookup 103 (.map (some M)) (.int .i64 (j : Int)) false).run Tryz.prog W = .ok (sdV (c j)) W := by
  obtain ⟨g, hM, hg⟩ := h
  rw [← hg j hj]
  exact hM.look1 Tryz.underlying103 (zero_sides W) ⟨by omega, by omega⟩
theorem Mc.put {W : World} {M n N : Nat} {c : Ms.C} (h : Mc W M n N c) (hn : n < 9000) (hN : N ≤ 1024) {j : Nat} (hj : j < N) (x : Int × Int) :
    ∃ W', (Instr.mapUpdate 103 (.map (some M)) (.int .i64 (j : Int)) (sdV x)).run Tryz.prog W = .ok () W' ∧ Mc W' M (n + 1) N (Ms.at2 c j x) ∧ Kp (fun k => k = M) W W' := by
  obtain ⟨g, hM, hg⟩ := h
  obtain ⟨W', hr, hM', hK⟩ := hM.put Tryz.underlying103 (by unfold maxLen; omega) (i := (j : Int)) ⟨by omega, by omega⟩ (sdV x)
  refine ⟨W', hr, ⟨_, hM', fun i hi => ?_⟩, hK⟩
  unfold updM Ms.at2
  by_cases e : i = j
  · subst e; rw [if_pos rfl, if_pos rfl]; rfl
  · rw [if_neg (by omega), if_neg e]; exact hg i hi
/-- The counts when some rows have come. -/
def cPre {N : Nat} (t : List Nd) (id : Nat) (pre : List (It N)) : Ms.C := pre.foldl (fun c x => Ms.stp t x.2.val c) (Ms.c0 id)
theorem cPre_snoc {N : Nat} (t : List Nd) (id : Nat) (pre : List (It N)) (x : It N) : cPre t id (pre ++ [x]) = Ms.stp t x.2.val (cPre t id pre) := by
  unfold cPre; rw [List.foldl_append]; rfl
theorem inr_cPre {N : Nat} (t : List Nd) (id : Nat) (pre : List (It N)) : Ms.Inr (cPre t id pre) := by
  have : ∀ (l : List (It N)) (c : Ms.C), Ms.Inr c → Ms.Inr (l.foldl (fun c x => Ms.stp t x.2.val c) c) := fun l => by
    induction l with
    | nil => exact fun c h => h
    | cons x l ih => exact fun c h => ih _ (Ms.inr_stp t _ h)
  exact this pre _ (Ms.inr_c0 id)
theorem in_of {c : Ms.C} (h : Ms.Inr c) (j : Nat) : In (c j) := by
  have := h j
  unfold Ms.M at this
  exact ⟨⟨this.1, this.2.1⟩, this.2.2.1, this.2.2.2⟩
/-- What holds between two rounds. -/
def MI {N : Nat} (t : List Nd) (id : Nat) (w : World) (M : Nat) (pre : List (It N)) (W : World) : Prop := Mc W M (1 + 2 * pre.length) t.length (cPre t id pre) ∧ KB w.heap.size M w W
theorem mi_own {N : Nat} (t : List Nd) (id : Nat) (w : World) {M : Nat} (hM : M < w.heap.size) : OwnFrom w.heap.size (MI (N := N) t id w M) := fun s W W' row h hg hr => by
  refine ⟨?_, h.2.then ⟨hg.os, hg.tape, hg.output, hg.size, fun k hk hn => hg.block k hk fun e => ?_⟩⟩
  · obtain ⟨g, hMp, _⟩ := h.1
    exact h.1.keep (hg.block M hMp.lt (fun e => by have := (hr M e.symm).1; omega))
  · have := (hr k e.symm).1
    exact hn (Or.inr this)
/-- What a round turns. -/
theorem keepsFrom_of {B M : Nat} {W W' : World} (h : Kp (fun k => k = M) W W') (hM : M < B) : KeepsFrom B W W' :=
  ⟨h.size, fun k o hB hk _ => (h.block k (lt_of_block hk) (by omega)).trans hk⟩
end Go.Proofs.YthdcppkohalkmaaGreat
