/-
  The call anew: a formula made anew by the images that a function tells. For every table that calls made and every function that keeps to it.
-/
import Derived.Test.YthfedlodikbdgaaUKit
import Derived.RegionTactic
namespace Go.Proofs.Ythfedlodikbdgaa
open Go.RowKit Go.Maps
open Fm (Nd)

theorem Lies.weak {B B' : Nat} {v v' : Value} (h : Lies B v v') (hb : B' ≤ B) : Lies B' v v' := fun k hk => (h k hk).imp id fun h' => Nat.le_trans hb h'
/-- What a function that tells images keeps to, at a world w. -/
def Tells (w : World) (b m : Nat) (v : Value) (t : List Nd) (f : FuncId) (cs : List Value) (F : List Nd → Nat → Nd → Sb.Img) : Prop :=
  ∀ (w1 : World) (v1 : Value) (t1 : List Nd) (i : Nat) (n : Nd), Kp (Ft b m v) w w1 → Tb w1 b m v1 t1 → Lies w.heap.size v v1 → (∃ u, t1 = t ++ u) → i < t.length → Fm.good n → (Fm.jn n.k = true → Fm.has t1 n.l = true ∧ Fm.has t1 n.r = true) →
    Calls Try.prog f ([.int .i64 (i : Int), ndV n] ++ cs).toArray w1 fun e w2 => e = .returned (.tuple #[.int .i64 (F t1 i n).1, .int .i64 (F t1 i n).2.1]) ∧ After w1 b m v1 (F t1 i n).2.2 w2
/-- What holds ahead of each round. -/
def AnI (w1 : World) (b m : Nat) (v : Value) (M k : Nat) (s : Sb.St) (wr : World) : Prop :=
  ∃ v1 n, Tb wr b m v1 s.2.2 ∧ Lies w1.heap.size v v1 ∧ Kp (fun k => Ft b m v k ∨ k = M) w1 wr ∧ Mi wr M n s.1 ∧ n ≤ k ∧ s.2.1 = 0
theorem cut_back {t u : List Nd} : cutR (t ++ u) (t.length : Int) = (0, t) := by
  unfold cutR
  rw [if_pos ⟨by omega, by simp; omega⟩]
  simp
theorem anew_cases (F : List Nd → Nat → Nd → Sb.Img) (t : List Nd) (id : Nat) :
    ((Sb.run F (Fm.below t id) t).2.1 = 0 → Sb.anew F t id = ((Sb.run F (Fm.below t id) t).1 id, 0, (Sb.run F (Fm.below t id) t).2.2)) ∧ ((Sb.run F (Fm.below t id) t).2.1 ≠ 0 → Sb.anew F t id = (0, (Sb.run F (Fm.below t id) t).2.1, t)) :=
  ⟨fun h => by unfold Sb.anew; rw [if_pos h], fun h => by unfold Sb.anew; rw [if_neg h]⟩
section
variable {b m : Nat} {v : Value} {t : List Nd}
theorem kind_join {t : List Nd} (h : Fm.Ok t) {i : Nat} (hi : i < t.length) : ((Ms.row t i).k != 1 && (Ms.row t i).k != 2) = Fm.jn (Ms.row t i).k := by
  rw [Ms.row_at hi]
  rcases Fm.ok_kind h hi with e | e | e
  · rw [e]; rfl
  · rw [e]; rfl
  · rw [e]
    have h1 : t[i].k ≠ 1 := fun e1 => by rw [e1] at e; cases e
    have h2 : t[i].k ≠ 2 := fun e1 => by rw [e1] at e; cases e
    simp [h1, h2]
theorem nodeOf_in {t : List Nd} {i : Nat} (h : i < t.length) : nodeOf t (i : Int) = Ms.row t i ∧ Fm.has t (i : Int) = true := by
  have hh : Fm.has t (i : Int) = true := Fm.has_iff.2 ⟨by omega, by omega⟩
  refine ⟨?_, hh⟩
  unfold nodeOf
  rw [if_pos hh, Int.toNat_natCast]
/-- A round: what the function tells, and what is left. -/
theorem an_next {w1 wr w2 w3 : World} {M k n i : Nat} {v1 : Value} {s : Sb.St} {r : Sb.Img} (hL : Lies w1.heap.size v v1) (hK : Kp (fun k => Ft b m v k ∨ k = M) w1 wr) (hB : Below wr.heap.size wr w2) (hA : After w2 b m v1 r.2.2 w3) (hM : Mi w2 M n s.1) (hMv : ¬ Ft b m v M) (hM1 : M < w1.heap.size) (hn : n ≤ k) (hk : k < 9000) (hi : i ≤ 9223372036854775807) :
    ∃ v3 w4, (Instr.mapUpdate 96 (.map (some M)) (.int .i64 (i : Int)) (.int .i64 r.1)).run Try.prog w3 = .ok () w4 ∧ Tb w4 b m v3 r.2.2 ∧ Lies w1.heap.size v v3 ∧ Kp (fun k => Ft b m v k ∨ k = M) w1 w4 ∧ Mi w4 M (n + 1) (Sb.updI s.1 i r.1) := by
  obtain ⟨v3, hT3, hL3, hK3⟩ := hA
  have hs1 := hK.size
  have hs2 := hB.size
  have hf : ∀ k, Ft b m v1 k → Ft b m v k ∨ w1.heap.size ≤ k := by
    rintro k (e | e | e)
    · exact Or.inl (Or.inl e)
    · exact Or.inl (Or.inr (Or.inl e))
    · rcases hL k e with h | h
      · exact Or.inl (Or.inr (Or.inr h))
      · exact Or.inr h
  have hM3 : Mi w3 M n s.1 := hM.keep (hK3.block M (by omega) fun h' => by
    rcases hf M h' with h' | h'
    · exact hMv h'
    · omega)
  obtain ⟨w4, hup, hM4, hK4⟩ := hM3.put (by omega) hi r.1
  have hL' : Lies w1.heap.size v v3 := hL.trans hL3 (by omega)
  refine ⟨v3, w4, hup, hT3.keep fun j hj => hK4.block j (hT3.foot j hj) fun e => ?_, hL', ?_, hM4⟩
  · subst e
    rcases hj with e | e | e
    · exact hMv (Or.inl e)
    · exact hMv (Or.inr (Or.inl e))
    · rcases hL' _ e with h' | h'
      · exact hMv (Or.inr (Or.inr h'))
      · omega
  · refine Kp.then (b := w3) ?_ (hK4.mono fun j e => Or.inr e)
    exact (hK.belows hB).trans hK3 fun j hj => (hf j hj).imp Or.inl id
set_option maxRecDepth 100000 in
set_option maxHeartbeats 8000000 in
theorem anew_any (w : World) (h : Tb w b m v t) (id : Nat) (hid : id < t.length) (f : FuncId) (cs : List Value) (hcf : ∀ vs w, (callFunc f vs).run Try.prog w = .ok (.enter f vs) w) (F : List Nd → Nat → Nd → Sb.Img) (hF : Sb.Fair t F) (hC : Tells w b m v t f cs F) :
    Calls Try.prog 37 #[.pointer (some ⟨b, 0, none⟩), .int .i64 (id : Int), .func (.func f) #[] cs.toArray] w fun e w' => e = .returned (.tuple #[.int .i64 (Sb.anew F t id).1, .int .i64 (Sb.anew F t id).2.1]) ∧ After w b m v (Sb.anew F t id).2.2 w' := by
  have hok := h.ok
  have hlen := hok.len
  have hlt : ∀ i ∈ Fm.below t id, i < t.length := fun i hi => by have := Ms.below_lt t id i hi; omega
  have hbr : belowR t (id : Int) = (Fm.below t id, 0) := by
    unfold belowR
    rw [if_pos (Fm.has_iff.2 ⟨by omega, by omega⟩)]
    simp
  have hbl : (Fm.below t id).length ≤ 1024 := by have := belowR_len hok (id : Int); rw [hbr] at this; exact this
  have KL := show Hid (Calls Try.prog 23 #[.pointer (some ⟨b, 0, none⟩)] w fun e w' => e = .returned (.int .i64 (t.length : Int)) ∧ w' = w) from len_any w h
  have KB := show Hid (Calls Try.prog 48 #[.pointer (some ⟨b, 0, none⟩), .int .i64 (id : Int)] w fun e w' => ∃ p c, e = .returned (.tuple #[.slice p (Fm.below t id).length c, .int .i64 0]) ∧ IsI w' w.heap.size (.slice p (Fm.below t id).length c) (Fm.below t id) ∧ Below w.heap.size w w') from (below_any w h (id : Int)).mono fun e w' ⟨v', he, hi, hb⟩ => by
    rw [hbr] at he hi
    obtain ⟨p, c, rfl⟩ := isI_slice hi
    exact ⟨p, c, he, hi, hb⟩
  have KJ := show Hid (∀ (w : World) (k : Int), Calls Try.prog 51 #[.int .i64 k] w fun e w' => e = .returned (.bool (k != 1 && k != 2)) ∧ w' = w) from joinsU_any
  have HRU := show Hid (∀ k, Sb.Runs t (Sb.run F ((Fm.below t id).take k) t)) from fun k => Sb.runs_run hok (by omega) hF _ fun i hi => hlt i (List.mem_of_mem_take hi)
  have HSN := show Hid (∀ k (hk : k < (Fm.below t id).length), Sb.run F ((Fm.below t id).take (k + 1)) t = Sb.step F (Sb.run F ((Fm.below t id).take k) t) (Fm.below t id)[k]) from fun k hk => by
    rw [List.take_succ_eq_append_getElem hk, Sb.run_snoc]
  have HER := show Hid (∀ k, (Sb.run F ((Fm.below t id).take k) t).2.1 ≠ 0 → Sb.run F (Fm.below t id) t = Sb.run F ((Fm.below t id).take k) t) from fun k hk => by
    have := Sb.run_err F ((Fm.below t id).take k) ((Fm.below t id).drop k) t hk
    rwa [List.take_append_drop] at this
  have HAN := show Hid _ from anew_cases F t id
  have HTB := show Hid (Tb w b m v t) from h
  have HLT := show Hid (∀ k (hk : k < (Fm.below t id).length), (Fm.below t id)[k] < t.length) from fun k hk => hlt _ (List.getElem_mem hk)
  have HC := show Hid (Tells w b m v t f cs F) from hC
  have HFA := show Hid (Sb.Fair t F) from hF
  generalize Sb.anew F t id = ans at *
  clear h hC hF hlt hbr
  generalize Fm.below t id = l at *
  go_enter Try.func37, Try.ntmps37
  go_wp2_with fail
  refine KL.out.mono ?_
  rintro e w0 ⟨rfl, hw0⟩
  subst w0
  clear KL
  go_wp2_with fail
  refine KB.out.mono ?_
  rintro e w1 ⟨p, c, rfl, hI, hb1⟩
  clear KB
  obtain ⟨w2, hw2⟩ : ∃ w2, w2 = w1.alloc (.map #[] 0) := ⟨_, rfl⟩
  have hB2 : Below w.heap.size w w2 := by rw [hw2]; exact hb1.alloc hb1.size _
  have hs2 : w2.heap.size = w1.heap.size + 1 := by rw [hw2]; simp
  have hs1 := hb1.size
  have hM2 : Mi w2 w1.heap.size 0 (fun _ => 0) := by rw [hw2]; exact ⟨fun _ => none, mp_made w1, fun j => rfl⟩
  have H0 := show Hid (AnI w2 b m v w1.heap.size 0 (fun _ => 0, 0, t) w2) from ⟨v, 0, HTB.out.later hB2, Lies.refl _ _, Kp.refl _ _, hM2, Nat.le_refl _, rfl⟩
  have HCE := show Hid (∀ wr, Kp (fun k => Ft b m v k ∨ k = w1.heap.size) w2 wr → ∀ k (hk : k < l.length), ∃ g o, p = some ⟨g, o, none⟩ ∧ wr.cell? ⟨g, o + k, none⟩ = some (.int .i64 ((l[k] : Nat) : Int))) from fun wr hK k hk => by
    obtain ⟨p', c', hv, _, hcell⟩ := isI_isL hI (by omega)
    obtain ⟨rfl, _, rfl⟩ := Value.slice.inj hv
    obtain ⟨g, o, hp, hcg⟩ := hcell k (by simpa using hk)
    have hlg := World.block_lt_of_cell? w1 _ hcg
    simp only at hlg
    have hge := (IsI.own_lt hI g (by
      rcases hI.2 with ⟨hn, h0⟩ | ⟨g2, cap, cur, hn, _⟩
      · omega
      · obtain ⟨h1, _, _⟩ := Value.slice.inj hn
        rw [hp] at h1
        cases h1
        rw [hp]
        rfl)).1
    refine ⟨g, o, hp, ?_⟩
    have h2 : w2.cell? ⟨g, o + k, none⟩ = some (.int .i64 ((l[k] : Nat) : Int)) := by
      rw [hw2]
      have := (Kp.of_below (S := fun _ => False) (below_alloc w1 (.map #[] 0))).cell hcg (fun h => h)
      simpa using this
    exact hK.cell h2 fun h' => by
      rcases h' with h' | h'
      · have := HTB.out.foot g h'; omega
      · omega
  have HMV := show Hid (¬ Ft b m v w1.heap.size) from fun h' => by have := HTB.out.foot _ h'; omega
  have HB2 := show Hid (Below w.heap.size w w2) from hB2
  clear hI hb1 hB2 hM2
  have hmk := run_makeMapN Try.underlying96 (l.length : Int) w1
  have hmk2 : (Instr.makeMap 96 (some (.int .i64 (l.length : Int)))).run Try.prog w1 = .ok (.map (some w1.heap.size)) w2 := by rw [hw2]; exact hmk
  clear hmk hw2
  go_wp2_with fail
  go_loopw [10, 29] (fun e i wr => ∃ k : Nat, k ≤ l.length ∧ i = .int .i64 (k : Int) ∧ e = .int .i64 0 ∧ Hid (AnI w2 b m v w1.heap.size k (Sb.run F (l.take k) t) wr)) (fun _ i _ => l.length - (intOf i).toNat)
  case atStart => exact ⟨0, by omega, rfl, rfl, H0.out⟩
  case round =>
    obtain ⟨k, hk, rfl, rfl, HI⟩ := hrel
    by_cases hlt : k < l.length
    · obtain ⟨v1, n, hT, hL, hK, hM, hn, h0⟩ := HI.out
      obtain ⟨gb, go, rfl, hc⟩ := HCE.out wr hK k hlt
      have hki : (k : Int) < (l.length : Int) := by omega
      have hrun := HRU.out k
      have hsn := HSN.out k hlt
      have her := HER.out (k + 1)
      have hil := HLT.out k hlt
      rw [hsn] at her
      clear HRU HSN HER HLT HCE HI
      generalize l[k] = i at *
      generalize Sb.run F (l.take k) t = s at *
      obtain ⟨im, er, t1⟩ := s
      simp only at hT hM h0
      subst h0
      obtain ⟨u, hu⟩ := hrun.ext
      have hu' : t1 = t ++ u := hu
      have hi1 : i < t1.length := by rw [hu', List.length_append]; omega
      have hok1 : Fm.Ok t1 := hrun.ok
      obtain ⟨⟨nk, ns, nl, nr⟩, hrow⟩ : ∃ n, n = Ms.row t1 i := ⟨_, rfl⟩
      have KN := show Hid (Calls Try.prog 28 #[.pointer (some ⟨b, 0, none⟩), .int .i64 (i : Int)] wr fun e w' => e = .returned (.tuple #[.agg #[.int .i64 nk, .string ns, .int .i64 nl, .int .i64 nr], .bool true]) ∧ Below wr.heap.size wr w') from by
        have h' := node_any wr hT (i : Int)
        rw [(nodeOf_in hi1).1, (nodeOf_in hi1).2, ← hrow] at h'
        exact h'
      have HJ := show Hid ((nk != 1 && nk != 2) = Fm.jn nk) from by
        have := kind_join hok1 hi1
        rw [← hrow] at this
        exact this
      have hgood := Sb.good_rowI hok1 hrun.im hi1
      have hrI : Sb.rowI t1 im i = if Fm.jn nk then ⟨nk, ns, im nl.toNat, im nr.toNat⟩ else ⟨nk, ns, nl, nr⟩ := by unfold Sb.rowI; rw [← hrow]
      have HP := show Hid (Fm.jn nk = true → 0 ≤ nl ∧ nl ≤ 1024 ∧ 0 ≤ nr ∧ nr ≤ 1024) from fun hj => by
        have := Ms.parts_lt hok1 hi1 (by rw [← hrow]; exact hj)
        rw [← hrow] at this
        simp only at this
        have := hok1.len
        omega
      have HS := show Hid (Tb wr b m v1 t1 ∧ Lies w2.heap.size v v1 ∧ Kp (fun k => Ft b m v k ∨ k = w1.heap.size) w2 wr ∧ Mi wr w1.heap.size n im ∧ n ≤ k ∧ Sb.Runs t (im, 0, t1)) from ⟨hT, hL, hK, hM, hn, hrun⟩
      have HG := show Hid _ from hgood
      have HRI := show Hid _ from hrI
      have HER2 := show Hid _ from her
      have HSN2 := show Hid _ from hsn
      clear hT hL hK hM hn hrun hu hu' hok1 hrow hgood hrI her hsn
      go_wp2_with fail
      refine KN.out.mono ?_
      rintro e w3 ⟨rfl, hb3⟩
      clear KN
      cases hj : Fm.jn nk with
      | true =>
        obtain ⟨hl0, hl1, hr0, hr1⟩ := HP.out hj
        obtain ⟨jl, rfl⟩ : ∃ jl : Nat, nl = jl := ⟨nl.toNat, by omega⟩
        obtain ⟨jr, rfl⟩ : ∃ jr : Nat, nr = jr := ⟨nr.toNat, by omega⟩
        obtain ⟨w4, hw4⟩ : ∃ w4, w4 = w3.alloc (Obj.cells #[.int .i64 nk, .string ns, .int .i64 (jl : Int), .int .i64 (jr : Int)] 59) := ⟨_, rfl⟩
        have KJ2 := show Hid (∀ w : World, Calls Try.prog 51 #[.int .i64 nk] w fun e w' => e = .returned (.bool true) ∧ w' = w) from fun w => by
          have h' := KJ.out w nk
          rw [HJ.out, hj] at h'
          exact h'
        clear KJ HJ HP
        go_wp2_with (go_at_call 51; refine (KJ2.out _).mono ?_; rintro e w' ⟨rfl, rfl⟩)
        rw [← hw4]
        have hN : N4 w4 w3.heap.size ⟨nk, ns, jl, jr⟩ := by rw [hw4]; exact heap_alloc_new _ _
        have hb4 : Below wr.heap.size wr w4 := by rw [hw4]; exact hb3.alloc hb3.size _
        have hs34 : w4.heap.size = w3.heap.size + 1 := by rw [hw4]; simp
        have HM4 := show Hid (Mi w4 w1.heap.size n im) from HS.out.2.2.2.1.later hb4
        have hlk1 := (HM4.out.keep (w' := w4.drew) rfl).look (j := jl) (by omega)
        have hlk2 := (HM4.out.keep (w' := w4.drew) rfl).look (j := jr) (by omega)
        have hM1s : w1.heap.size < w3.heap.size := by have := hb3.size; have := HS.out.2.2.1.size; omega
        have hlk3 := (HM4.out.keep (w' := (w4.setCell ⟨w3.heap.size, 2, none⟩ (.int .i64 (im jl))).drew) (((Below.refl w3.heap.size w4).setCell (Nat.le_refl _) _).block _ hM1s)).look (j := jr) (by omega)
        have hlk4 := (HM4.out.keep (w' := (w4.setCell ⟨w3.heap.size, 3, none⟩ (.int .i64 (im jr))).drew) (((Below.refl w3.heap.size w4).setCell (Nat.le_refl _) _).block _ hM1s)).look (j := jl) (by omega)
        have c2 := hN.c2
        have c3 := hN.c3
        have f2 := hN.fr 2
        have f3 := hN.fr 3
        have HN := show Hid _ from hN
        clear hN hw4 KJ2
        simp only at c2 c3
        go_region
        obtain ⟨w5, hw5⟩ : ∃ w5, w5 = ((w4.setCell ⟨w3.heap.size, 2, none⟩ (.int .i64 (im jl))).setCell ⟨w3.heap.size, 3, none⟩ (.int .i64 (im jr))).drew := ⟨_, rfl⟩
        rw [← hw5]
        have HB5 := show Hid (Below wr.heap.size wr w5) from by rw [hw5]; exact ((hb4.setCell hb3.size _).setCell hb3.size _).drew
        have HN5 := show Hid (N4 w5 w3.heap.size ⟨nk, ns, im jl, im jr⟩) from by
          rw [hw5]
          exact heap_setCell_same _ _ 3 _ _ _ (heap_setCell_same _ _ 2 _ _ _ HN.out)
        have HROW := show Hid (Sb.rowI t1 im i = ⟨nk, ns, im jl, im jr⟩) from by
          show Sb.rowI t1 im i = ⟨nk, ns, im jl, im jr⟩
          rw [HRI.out, if_pos hj]
          rfl
        clear hlk1 hlk2 hlk3 hlk4 c2 c3 f2 f3 HN HM4 hw5 hb4 hb3
        have KC := show Hid (Calls Try.prog f ([Value.int .i64 (i : Int), Value.agg #[.int .i64 nk, .string ns, .int .i64 (im jl), .int .i64 (im jr)]] ++ cs).toArray w5 fun e w' => e = .returned (.tuple #[.int .i64 (F t1 i (Sb.rowI t1 im i)).1, .int .i64 (F t1 i (Sb.rowI t1 im i)).2.1]) ∧ After w5 b m v1 (F t1 i (Sb.rowI t1 im i)).2.2 w') from by
          have h' := HC.out w5 v1 t1 i (Sb.rowI t1 im i) (((Kp.of_below HB2.out).trans HS.out.2.2.1 (fun i h => h.imp (fun h => h) (fun e => by omega))).belows HB5.out) (HS.out.1.later HB5.out) (HS.out.2.1.weak (by omega)) HS.out.2.2.2.2.2.ext hil HG.out.1 HG.out.2
          have e5 : ndV (Sb.rowI t1 im i) = .agg #[.int .i64 nk, .string ns, .int .i64 (im jl), .int .i64 (im jr)] := by rw [HROW.out]; rfl
          rw [e5] at h'
          exact h'
        have HST := show Hid (Sb.step F (im, 0, t1) i = (if (F t1 i (Sb.rowI t1 im i)).2.1 = 0 then Sb.updI im i (F t1 i (Sb.rowI t1 im i)).1 else im, (F t1 i (Sb.rowI t1 im i)).2)) from by
          show Sb.step F (im, 0, t1) i = _
          unfold Sb.step
          rw [if_pos rfl]
        have HEX := show Hid (∃ u, (F t1 i (Sb.rowI t1 im i)).2.2 = t ++ u) from by
          obtain ⟨_, ⟨u2, h2⟩, _⟩ := HFA.out t1 i (Sb.rowI t1 im i) HS.out.2.2.2.2.2.ok HS.out.2.2.2.2.2.ext hil HG.out.1 HG.out.2
          obtain ⟨u1, h1⟩ := HS.out.2.2.2.2.2.ext
          exact ⟨u1 ++ u2, by rw [h2, show t1 = t ++ u1 from h1, List.append_assoc]⟩
        clear HC HFA HROW
        generalize F t1 i (Sb.rowI t1 im i) = r at *
        obtain ⟨x, e2, t2⟩ := r
        have c0 := HN5.out.c0
        have c1 := HN5.out.c1
        have c2 := HN5.out.c2
        have c3 := HN5.out.c3
        simp only at c0 c1 c2 c3
        go_wp2_with fail
        refine KC.out.mono ?_
        rintro e w6 ⟨rfl, hA6⟩
        obtain ⟨v3, w7, hup, hT7, hL7, hK7, hM7⟩ := an_next (i := i) (s := (im, 0, t1)) (r := (x, e2, t2)) HS.out.2.1 HS.out.2.2.1 HB5.out hA6 (HS.out.2.2.2.1.later HB5.out) HMV.out (by omega) HS.out.2.2.2.2.1 (by omega) (by omega)
        simp only at hup hT7 hM7
        have H7 := show Hid (Tb w7 b m v3 t2 ∧ Lies w2.heap.size v v3 ∧ Kp (fun k => Ft b m v k ∨ k = w1.heap.size) w2 w7 ∧ Mi w7 w1.heap.size (n + 1) (Sb.updI im i x)) from ⟨hT7, hL7, hK7, hM7⟩
        clear hT7 hL7 hK7 hM7 hA6 KC c0 c1 c2 c3 HN5
        by_cases he : e2 = 0
        · subst he
          go_wp2_with fail
          go_roundw
          case rel =>
            refine ⟨k + 1, by omega, by go_num, rfl, ?_⟩
            rw [HSN2.out, HST.out]
            exact ⟨v3, n + 1, H7.out.1, H7.out.2.1, H7.out.2.2.1, H7.out.2.2.2, by have := HS.out.2.2.2.2.1; omega, rfl⟩
          case measure => first | (simp [intOf]; done) | (simp [intOf]; omega)
        · have hne : (e2 != 0) = true := by simpa using he
          have KX := show Hid (Calls Try.prog 63 #[.pointer (some ⟨b, 0, none⟩), .int .i64 (t.length : Int)] w7 fun e w' => e = .returned (.int .i64 0) ∧ After w7 b m v3 t w') from by
            have h' := cut_any w7 H7.out.1 (t.length : Int)
            obtain ⟨u, hu⟩ := HEX.out
            have hu' : t2 = t ++ u := hu
            rw [hu', cut_back] at h'
            exact h'
          have HAN2 := show Hid (ans = (0, e2, t)) from by
            show ans = (0, e2, t)
            have h1 := HER2.out (by rw [HST.out]; exact he)
            have h2 := HAN.out.2 (by rw [h1, HST.out]; exact he)
            rw [h2, h1, HST.out]
          clear HAN HER2 HSN2 HEX
          go_wp2_with fail
          refine KX.out.mono ?_
          rintro e w8 ⟨rfl, hA8⟩
          have HA8 := show Hid (After w7 b m v3 t w8) from hA8
          clear KX hA8
          go_wp2_with fail
          go_ret2
          refine ⟨by rw [HAN2.out]; rfl, ?_⟩
          rw [HAN2.out]
          exact After.trans (H7.out.2.1.weak (by omega)) ((Kp.of_below HB2.out).trans H7.out.2.2.1 (fun i h => h.imp (fun h => h) (fun e => by omega))) HA8.out
      | false =>
        obtain ⟨w5, hw5⟩ : ∃ w5, w5 = w3.alloc (Obj.cells #[.int .i64 nk, .string ns, .int .i64 nl, .int .i64 nr] 59) := ⟨_, rfl⟩
        have KJ2 := show Hid (∀ w : World, Calls Try.prog 51 #[.int .i64 nk] w fun e w' => e = .returned (.bool false) ∧ w' = w) from fun w => by
          have h' := KJ.out w nk
          rw [HJ.out, hj] at h'
          exact h'
        clear KJ HJ HP
        have HB5 := show Hid (Below wr.heap.size wr w5) from by rw [hw5]; exact hb3.alloc hb3.size _
        have HN5 := show Hid (N4 w5 w3.heap.size ⟨nk, ns, nl, nr⟩) from by rw [hw5]; exact heap_alloc_new _ _
        have HROW := show Hid (Sb.rowI t1 im i = ⟨nk, ns, nl, nr⟩) from by show Sb.rowI t1 im i = ⟨nk, ns, nl, nr⟩; rw [HRI.out, hj]; rfl
        go_wp2_with (first | (go_at_call 51; refine (KJ2.out _).mono ?_; rintro e w' ⟨rfl, rfl⟩) | fail)
        have KC := show Hid (Calls Try.prog f ([Value.int .i64 (i : Int), Value.agg #[.int .i64 nk, .string ns, .int .i64 nl, .int .i64 nr]] ++ cs).toArray w5 fun e w' => e = .returned (.tuple #[.int .i64 (F t1 i (Sb.rowI t1 im i)).1, .int .i64 (F t1 i (Sb.rowI t1 im i)).2.1]) ∧ After w5 b m v1 (F t1 i (Sb.rowI t1 im i)).2.2 w') from by
          have h' := HC.out w5 v1 t1 i (Sb.rowI t1 im i) (((Kp.of_below HB2.out).trans HS.out.2.2.1 (fun i h => h.imp (fun h => h) (fun e => by omega))).belows HB5.out) (HS.out.1.later HB5.out) (HS.out.2.1.weak (by omega)) HS.out.2.2.2.2.2.ext hil HG.out.1 HG.out.2
          have e5 : ndV (Sb.rowI t1 im i) = .agg #[.int .i64 nk, .string ns, .int .i64 nl, .int .i64 nr] := by rw [HROW.out]; rfl
          rw [e5] at h'
          exact h'
        have HST := show Hid (Sb.step F (im, 0, t1) i = (if (F t1 i (Sb.rowI t1 im i)).2.1 = 0 then Sb.updI im i (F t1 i (Sb.rowI t1 im i)).1 else im, (F t1 i (Sb.rowI t1 im i)).2)) from by
          show Sb.step F (im, 0, t1) i = _
          unfold Sb.step
          rw [if_pos rfl]
        have HEX := show Hid (∃ u, (F t1 i (Sb.rowI t1 im i)).2.2 = t ++ u) from by
          obtain ⟨_, ⟨u2, h2⟩, _⟩ := HFA.out t1 i (Sb.rowI t1 im i) HS.out.2.2.2.2.2.ok HS.out.2.2.2.2.2.ext hil HG.out.1 HG.out.2
          obtain ⟨u1, h1⟩ := HS.out.2.2.2.2.2.ext
          exact ⟨u1 ++ u2, by rw [h2, show t1 = t ++ u1 from h1, List.append_assoc]⟩
        clear HC HFA HROW
        generalize F t1 i (Sb.rowI t1 im i) = r at *
        obtain ⟨x, e2, t2⟩ := r
        have c0 := HN5.out.c0
        have c1 := HN5.out.c1
        have c2 := HN5.out.c2
        have c3 := HN5.out.c3
        simp only at c0 c1 c2 c3
        rw [← hw5]
        refine KC.out.mono ?_
        rintro e w6 ⟨rfl, hA6⟩
        obtain ⟨v3, w7, hup, hT7, hL7, hK7, hM7⟩ := an_next (i := i) (s := (im, 0, t1)) (r := (x, e2, t2)) HS.out.2.1 HS.out.2.2.1 HB5.out hA6 (HS.out.2.2.2.1.later HB5.out) HMV.out (by omega) HS.out.2.2.2.2.1 (by omega) (by omega)
        simp only at hup hT7 hM7
        have H7 := show Hid (Tb w7 b m v3 t2 ∧ Lies w2.heap.size v v3 ∧ Kp (fun k => Ft b m v k ∨ k = w1.heap.size) w2 w7 ∧ Mi w7 w1.heap.size (n + 1) (Sb.updI im i x)) from ⟨hT7, hL7, hK7, hM7⟩
        clear hT7 hL7 hK7 hM7 hA6 KC c0 c1 c2 c3 HN5
        by_cases he : e2 = 0
        · subst he
          go_wp2_with fail
          go_roundw
          case rel =>
            refine ⟨k + 1, by omega, by go_num, rfl, ?_⟩
            rw [HSN2.out, HST.out]
            exact ⟨v3, n + 1, H7.out.1, H7.out.2.1, H7.out.2.2.1, H7.out.2.2.2, by have := HS.out.2.2.2.2.1; omega, rfl⟩
          case measure => first | (simp [intOf]; done) | (simp [intOf]; omega)
        · have hne : (e2 != 0) = true := by simpa using he
          have KX := show Hid (Calls Try.prog 63 #[.pointer (some ⟨b, 0, none⟩), .int .i64 (t.length : Int)] w7 fun e w' => e = .returned (.int .i64 0) ∧ After w7 b m v3 t w') from by
            have h' := cut_any w7 H7.out.1 (t.length : Int)
            obtain ⟨u, hu⟩ := HEX.out
            have hu' : t2 = t ++ u := hu
            rw [hu', cut_back] at h'
            exact h'
          have HAN2 := show Hid (ans = (0, e2, t)) from by
            show ans = (0, e2, t)
            have h1 := HER2.out (by rw [HST.out]; exact he)
            have h2 := HAN.out.2 (by rw [h1, HST.out]; exact he)
            rw [h2, h1, HST.out]
          clear HAN HER2 HSN2 HEX
          go_wp2_with fail
          refine KX.out.mono ?_
          rintro e w8 ⟨rfl, hA8⟩
          have HA8 := show Hid (After w7 b m v3 t w8) from hA8
          clear KX hA8
          go_wp2_with fail
          go_ret2
          refine ⟨by rw [HAN2.out]; rfl, ?_⟩
          rw [HAN2.out]
          exact After.trans (H7.out.2.1.weak (by omega)) ((Kp.of_below HB2.out).trans H7.out.2.2.1 (fun i h => h.imp (fun h => h) (fun e => by omega))) HA8.out
    · have hke : k = l.length := by omega
      subst hke
      have hEx := HI.out
      rw [List.take_length] at hEx
      obtain ⟨v1, n, hT, hL, hK, hM, hn, h0⟩ := hEx
      have hlk := hM.look (j := id) (by omega)
      have ea := HAN.out.1 h0
      have HE := show Hid (After w b m v (Sb.run F l t).2.2 wr) from ⟨v1, hT, hL.weak (by omega), (Kp.of_below HB2.out).trans hK (fun i h => h.imp (fun h => h) (fun e => by omega))⟩
      clear HRU HSN HER HLT HCE HI HAN hT hL hK hM hn h0
      generalize Sb.run F l t = s at *
      subst ea
      go_wp2_with fail
      go_ret2
      exact ⟨rfl, HE.out⟩
end
end Go.Proofs.Ythfedlodikbdgaa
