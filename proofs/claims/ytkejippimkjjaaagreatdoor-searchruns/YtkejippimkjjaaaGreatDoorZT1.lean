/-
  Plain mathematics of layer 9's rules: which rows they fit with, what their premises are. No condition.
-/
import Derived.Test.YtkejippimkjjaaaGreatDoorZG6
import Derived.Test.YtkejippimkjjaaaGreatDoorRG1
import Derived.Test.YtkejippimkjjaaaGreatDoorBG5
namespace Go.Proofs.YtkejippimkjjaaaGreatDoor
open Go.RowKit Go.Shelf Go.Maps
open Fm (Nd)
open Bt.Bs (Ok wd)
set_option linter.unusedSimpArgs false

theorem putI_nat {r : List Nat} {n : Nat} (h : n < 1024) : (Bt.putI r (n : Int)).1 = Bt.Bs.put r n := by
  unfold Bt.putI
  rw [if_pos ⟨by omega, by omega⟩]
  simp
theorem put_same_iff {r : List Nat} (hr : Ok r) {n : Nat} (hn : n < 1024) : (Bt.Bs.put r n = r) ↔ Bt.Bs.has r n = true := by
  constructor
  · intro h
    have := Bt.Bs.has_put hr hn n
    rw [h] at this
    simpa using this
  · intro h
    have ho : Ok (Bt.Bs.put r n) := by have := putI_okZ hr (n : Int); rwa [putI_nat hn] at this
    refine Bt.Bs.has_ext ho hr fun m _ => ?_
    rw [Bt.Bs.has_put hr hn]
    by_cases e : m = n
    · subst e; rw [h]; rfl
    · simp [e]
theorem inL_has {r : List Nat} (hr : Ok r) {n : Nat} (hn : n < 1024) : inL r (n : Int) = Bt.Bs.hasI r (n : Int) := by
  unfold inL Bt.Bs.hasI
  rw [putI_nat hn, Int.toNat_natCast]
  have h1 : decide ((0 : Int) ≤ (n : Int)) = true := by simp
  have h2 : decide ((n : Int) < 1024) = true := by simp; omega
  rw [h1, h2, Bool.true_and, Bool.true_and, Bool.eq_iff_iff, decide_eq_true_iff]
  exact put_same_iff hr hn
theorem kids {t : List Nd} (hO : Fm.Ok t) {i : Nat} (hi : i < t.length) (hj : t[i].k = 3 ∨ t[i].k = 4 ∨ t[i].k = 5) : ∃ x y : Nat, t[i].l = x ∧ t[i].r = y ∧ x < i ∧ y < i := by
  have h := hO.chk i hi
  unfold Fm.check at h
  cases hs : Fm.shaped (t.take i) t[i] with
  | false => rw [hs, if_neg Bool.false_ne_true] at h; omega
  | true =>
    unfold Fm.shaped at hs
    have n1 : ¬ t[i].k = 1 := by omega
    have n2 : ¬ t[i].k = 2 := by omega
    rw [if_neg n1, if_neg n2] at hs
    split at hs
    · simp only [Bool.and_eq_true] at hs
      have h1 := Fm.has_iff.1 hs.1.2
      have h2 := Fm.has_iff.1 hs.2
      have hl : (t.take i).length = i := by rw [List.length_take]; omega
      rw [hl] at h1 h2
      exact ⟨t[i].l.toNat, t[i].r.toNat, by omega, by omega, by omega, by omega⟩
    · cases hs
theorem nodeOf_nat {t : List Nd} {i : Nat} (hi : i < t.length) : nodeOf t (i : Int) = t[i] := by
  unfold nodeOf
  rw [if_pos (Fm.has_iff.2 ⟨by omega, by omega⟩)]
  simp [List.getD, hi]
theorem find_nat {t : List Nd} {r : List Nat} {g ru : Int} {i : Nat} (hi : i < t.length) : findF t r g ru (i : Int) = ((decide (1 ≤ ru) && decide (ru ≤ 13)) && fitS r g (ru - 1).toNat (shp t (i : Int))) := by
  unfold findF
  rw [Fm.has_iff.2 ⟨by omega, by omega⟩, Bool.true_and]
theorem shp_nat {t : List Nd} {i : Nat} (hi : i < t.length) : shp t (i : Int) = ⟨i, t[i].k, t[i].l, t[i].r, if t[i].k = 5 then (nodeOf t t[i].l).k else 0, if t[i].k = 5 then (nodeOf t t[i].l).l else 0, if t[i].k = 5 then (nodeOf t t[i].l).r else 0⟩ := by
  unfold shp
  rw [nodeOf_nat hi]
theorem imp_eq (b : Bool) (k q n : Int) (hn : n ≠ 0) : ((if k = 5 then q else 0) == n && b) = (b && (k == 5) && (q == n)) := by
  by_cases h : k = 5
  · rw [if_pos h]
    subst h
    cases b <;> cases (q == n) <;> rfl
  · rw [if_neg h]
    have h1 : ((0 : Int) == n) = false := by simpa using fun e => hn e.symm
    have h2 : (k == 5) = false := by simpa using h
    rw [h1, h2]
    cases b <;> rfl
theorem with_two {r : List Nat} (hr : Ok r) (n : Int) : withF r [n, n] = withF r [n] := by
  unfold withF withF withF
  unfold Bt.putI
  by_cases h : 0 ≤ n ∧ n < 1024
  · rw [if_pos h, if_pos h]
    have h2 : n.toNat < 1024 := by omega
    exact (put_same_iff (Bt.Bs.put_ok hr n.toNat) h2).2 (by rw [Bt.Bs.has_put hr h2]; simp)
  · rw [if_neg h, if_neg h]
theorem put_30 {t : List Nd} {a b : Int} (ha : Fm.has t a = true) (hb : Fm.has t b = true) : (Fm.put t (joinN 5 a b)).2.1 = 0 ∨ (Fm.put t (joinN 5 a b)).2.1 = 30 := by
  have hc : Fm.check t (joinN 5 a b) = 0 := by
    unfold Fm.check Fm.shaped joinN
    simp [Fm.jn, ha, hb]
    rfl
  unfold Fm.put
  rw [if_pos hc]
  split
  · exact Or.inl rfl
  · split
    · exact Or.inr rfl
    · exact Or.inl rfl
theorem put_in {t : List Nd} {n : Nd} (h : (Fm.put t n).2.1 = 0) : Fm.has (Fm.put t n).2.2 (Fm.put t n).1 = true := by
  rw [Fm.has_iff]
  unfold Fm.put at *
  split at h
  · rename_i hc
    rw [if_pos hc]
    split at h
    · rename_i hm
      rw [if_pos hm]
      have := List.idxOf_lt_length_iff.2 hm
      simp only
      omega
    · rename_i hm
      rw [if_neg hm]
      split at h
      · exact absurd h (by simp)
      · rename_i hx
        rw [if_neg hx]
        simp
        omega
  · rename_i hc
    exact absurd h hc
theorem has_put2 {t : List Nd} {n : Nd} {a : Int} (h : Fm.has t a = true) : Fm.has (Fm.put t n).2.2 a = true := by
  have h1 := Fm.has_iff.1 h
  have h2 := (Fm.put_len t n).1
  exact Fm.has_iff.2 ⟨h1.1, by omega⟩
theorem find_imp {t : List Nd} {r : List Nat} {g : Int} {i : Nat} (hi : i < t.length) (ru k : Int) (hk : (ru = 4 ∧ k = 1) ∨ (ru = 5 ∧ k = 2) ∨ (ru = 6 ∧ k = 3) ∨ (ru = 7 ∧ k = 4) ∨ (ru = 13 ∧ k = 5)) (h : findF t r g ru (i : Int) = true) : t[i].k = 5 ∧ (nodeOf t t[i].l).k = k := by
  rw [find_nat hi, shp_nat hi] at h
  have aux : ∀ q n : Int, n ≠ 0 → ((if t[i].k = 5 then q else 0) == n) = true → t[i].k = 5 ∧ q = n := fun q n hn h => by
    by_cases h5 : t[i].k = 5
    · rw [if_pos h5] at h
      exact ⟨h5, by simpa using h⟩
    · rw [if_neg h5] at h
      exact absurd (by simpa using h) (fun e : (0 : Int) = n => hn e.symm)
  rcases hk with ⟨rfl, rfl⟩ | ⟨rfl, rfl⟩ | ⟨rfl, rfl⟩ | ⟨rfl, rfl⟩ | ⟨rfl, rfl⟩
  · have h2 : ((((if t[i].k = 5 then (nodeOf t t[i].l).k else 0) == 1) && inL r (i : Int)) && inL r t[i].l) = true := h
    simp only [Bool.and_eq_true] at h2
    exact aux _ 1 (by decide) h2.1.1
  · have h2 : (((if t[i].k = 5 then (nodeOf t t[i].l).k else 0) == 2) && inL r (i : Int)) = true := h
    simp only [Bool.and_eq_true] at h2
    exact aux _ 2 (by decide) h2.1
  · have h2 : (((if t[i].k = 5 then (nodeOf t t[i].l).k else 0) == 3) && inL r (i : Int)) = true := h
    simp only [Bool.and_eq_true] at h2
    exact aux _ 3 (by decide) h2.1
  · have h2 : (((if t[i].k = 5 then (nodeOf t t[i].l).k else 0) == 4) && inL r (i : Int)) = true := h
    simp only [Bool.and_eq_true] at h2
    exact aux _ 4 (by decide) h2.1
  · have h2 : (((if t[i].k = 5 then (nodeOf t t[i].l).k else 0) == 5) && inL r (i : Int)) = true := h
    simp only [Bool.and_eq_true] at h2
    exact aux _ 5 (by decide) h2.1
theorem find_kind {t : List Nd} {r : List Nat} {g : Int} {i : Nat} (hi : i < t.length) (ru k : Int) (hk : (ru = 3 ∧ k = 3) ∨ (ru = 8 ∧ k = 5) ∨ (ru = 9 ∧ k = 3) ∨ (ru = 10 ∧ k = 4) ∨ (ru = 11 ∧ k = 4) ∨ (ru = 12 ∧ k = 4)) (h : findF t r g ru (i : Int) = true) : t[i].k = k := by
  rw [find_nat hi, shp_nat hi] at h
  rcases hk with ⟨rfl, rfl⟩ | ⟨rfl, rfl⟩ | ⟨rfl, rfl⟩ | ⟨rfl, rfl⟩ | ⟨rfl, rfl⟩ | ⟨rfl, rfl⟩
  · have h2 : ((t[i].k == 3) && inL r (i : Int)) = true := h
    simp only [Bool.and_eq_true, beq_iff_eq] at h2
    exact h2.1
  · have h2 : ((t[i].k == 5) && ((i : Int) == g)) = true := h
    simp only [Bool.and_eq_true, beq_iff_eq] at h2
    exact h2.1
  · have h2 : ((t[i].k == 3) && ((i : Int) == g)) = true := h
    simp only [Bool.and_eq_true, beq_iff_eq] at h2
    exact h2.1
  · have h2 : ((t[i].k == 4) && inL r (i : Int)) = true := h
    simp only [Bool.and_eq_true, beq_iff_eq] at h2
    exact h2.1
  · have h2 : ((t[i].k == 4) && ((i : Int) == g)) = true := h
    simp only [Bool.and_eq_true, beq_iff_eq] at h2
    exact h2.1
  · have h2 : ((t[i].k == 4) && ((i : Int) == g)) = true := h
    simp only [Bool.and_eq_true, beq_iff_eq] at h2
    exact h2.1
theorem premF_is {t : List Nd} {r : List Nat} {g ru main : Int} (hz : refZ t r g = 0) (hf : findF t r g ru main = true) : premF t r g ru main = if (prmF (ru - 1).toNat t r g (shp t main)).2.2 = true then ([], t, 30) else ((prmF (ru - 1).toNat t r g (shp t main)).1, (prmF (ru - 1).toNat t r g (shp t main)).2.1, 0) := by
  unfold premF
  rw [if_neg (by simp [hz]), if_neg (by simp [hf])]
theorem shp_imp {t : List Nd} {i : Nat} (hi : i < t.length) (h5 : t[i].k = 5) {xl : Nat} (hx : t[i].l = xl) (hxt : xl < t.length) : shp t (i : Int) = ⟨i, 5, xl, t[i].r, t[xl].k, t[xl].l, t[xl].r⟩ := by
  rw [shp_nat hi, hx, nodeOf_nat hxt, h5, if_pos rfl, if_pos rfl, if_pos rfl]
theorem prem_rows {t : List Nd} {r : List Nat} (hr : Ok r) (g ru main : Int) : (∀ s ∈ (premF t r g ru main).1, Ok s.1) ∧ (premF t r g ru main).1.length ≤ 2 := by
  unfold premF
  repeat' split
  all_goals try exact ⟨fun s h => (by cases h), by simp⟩
  have hrs : ∀ x : Int, Ok (Bt.dropI r x) := fun x => dropI_okZ hr x
  have hw : ∀ (q : List Nat) (l : List Int), Ok q → Ok (withF q l) := fun q l h => withF_ok l h
  unfold prmF
  split <;> refine ⟨fun s h => ?_, by simp⟩ <;> simp at h
  case h_1 => subst h; exact hw _ _ (hrs _)
  case h_2 => subst h; exact hw _ _ (hrs _)
  case h_3 => subst h; exact hrs _
  case h_4 => subst h; exact hw _ _ (hrs _)
  case h_5 => subst h; exact hw _ _ (hrs _)
  case h_6 => subst h; exact hw _ _ hr
  case h_7 => rcases h with h | h <;> subst h <;> exact hr
  case h_8 => rcases h with h | h <;> subst h <;> exact hw _ _ (hrs _)
  case h_9 => subst h; exact hr
  case h_10 => subst h; exact hr
  case h_11 => rcases h with h | h <;> subst h <;> exact hw _ _ (hrs _)
theorem run_ld4 (w : World) {b o : Nat} {n : Nd} (h : At4 w b o n) : (Instr.loadAt 54 (.pointer (some ⟨b, o, none⟩))).run Tryz.prog w = .ok (.agg (ndC n).toArray) w :=
  run_loadAt_mid (P := Tryz.prog) w b o 54 (ndC n) _ (fun j v hv => by
    match j, hv with
    | 0, hv => rw [Nat.add_zero, h.c0]; exact hv
    | 1, hv => rw [h.c1]; exact hv
    | 2, hv => rw [h.c2]; exact hv
    | 3, hv => rw [h.c3]; exact hv) Tryz.underlying54 rfl (by rw [sizeN]; rfl)
theorem wpList_ld4 {ops : Array Oper} {rest : List Oper} {o : Oper} {a : Act} {Q : Exit → Act → World → Prop} (w : World) (hg : Region.wanted o (yielded ops a.tmps) = true) (x : Operand) (hop : o.op = Op.load 54 x) (b k : Nat) (hx : a.eval x = .pointer (some ⟨b, k, none⟩)) {n : Nd} (h : At4 w b k n)
    (hK : wpList Tryz.prog ops Q rest (a.put o.dst (.agg (ndC n).toArray)) w) : wpList Tryz.prog ops Q (o :: rest) a w := by
  refine Bt.wpList_want hg fun K' hK' => ?_
  have hrun := run_ld4 w h
  unfold Oper.wp
  simp [execOp, hop, hx, hrun, Result.andThen]
  exact hK' _ _ hK
theorem ndC_all (n : Nd) : (ndC n).toArray.all (·.oneCell') = true := by simp [ndC, Value.oneCell']
end Go.Proofs.YtkejippimkjjaaaGreatDoor
/-
  The document's call Right of a sequent: for every table of the document's that calls made and every sequent. No other condition.
-/
namespace Go.Proofs.YtkejippimkjjaaaGreatDoor
open Go.RowKit Go.Shelf Go.Maps
open Fm (Nd)
open Bt.Bs (Ok wd)
set_option linter.unusedSimpArgs false

def rightQ (t : List Nd) (r : List Nat) (g : Int) : Bool := ((Bt.Bs.nums r).map fun n : Nat => (n : Int)).all (Fm.has t) && Fm.has t g
theorem ref_right {t : List Nd} {r : List Nat} (hr : Ok r) (g : Int) : refZ t r g = if rightQ t r g then 0 else 31 := by
  unfold refZ rightQ
  have hn : (Bt.nextI r (t.length : Int)).isSome = !((Bt.Bs.nums r).map fun n : Nat => (n : Int)).all (Fm.has t) := by
    unfold Bt.nextI
    rw [Int.toNat_natCast]
    cases h : Bt.Bs.next r t.length with
    | none =>
      have h2 := Bt.Bs.next_none hr h
      have : ((Bt.Bs.nums r).map fun n : Nat => (n : Int)).all (Fm.has t) = true := by
        rw [List.all_eq_true]
        intro x hx
        obtain ⟨n, hn, rfl⟩ := List.mem_map.1 hx
        have h3 := (Bt.Bs.mem_nums.1 hn).2
        rw [Fm.has_iff]
        refine ⟨by omega, ?_⟩
        by_cases hlt : n < t.length
        · omega
        · rw [h2 n (by omega)] at h3
          cases h3
      rw [this]
      rfl
    | some m =>
      obtain ⟨h1, h2, h3, _⟩ := Bt.Bs.next_lt h
      have : ((Bt.Bs.nums r).map fun n : Nat => (n : Int)).all (Fm.has t) = false := by
        rw [List.all_eq_false]
        refine ⟨(m : Int), List.mem_map.2 ⟨m, Bt.Bs.mem_nums.2 ⟨h2, h3⟩, rfl⟩, ?_⟩
        rw [Fm.has_iff]
        omega
      rw [this]
      rfl
  rw [hn]
  cases ((Bt.Bs.nums r).map fun n : Nat => (n : Int)).all (Fm.has t) <;> cases Fm.has t g <;> rfl
structure CK (w W : World) (r : List Nat) (g : Int) : Prop where
  seq : SeqAt W w.heap.size r g
  bel : Below w.heap.size w W
theorem CK.later {w W W' : World} {r : List Nat} {g : Int} (h : CK w W r g) (hb : Below W.heap.size W W') : CK w W' r g := ⟨h.seq.later hb h.seq.lt, h.bel.trans (hb.mono h.bel.size)⟩
set_option maxRecDepth 100000 in
set_option maxHeartbeats 2000000 in
theorem rright_any (w : World) {c : Nat} {u : Value} {t : List Nd} (hT : Tr w c u t) {r : List Nat} (hr : Ok r) (g : Int) :
    Calls Tryz.prog 17 #[.pointer (some ⟨c, 0, none⟩), .agg (cellsQ r g)] w fun e w' => e = .returned (.bool (rightQ t r g)) ∧ Below w.heap.size w w' := by
  have hl := hr.1
  have hnl : (Bt.Bs.nums r).length ≤ 1024 := Bt.Bs.nums_len_le r
  have KL := show Hid (∀ w', Calls Tryz.prog 32 #[.agg (Bt.cellsB r)] w' fun e w'' => ∃ p cc, e = .returned (.slice p (Bt.Bs.nums r).length cc) ∧ (∀ k (hk : k < (Bt.Bs.nums r).length), ∃ b o, p = some ⟨b, o, none⟩ ∧ w''.cell? ⟨b, o + k, none⟩ = some (.int .i64 (((Bt.Bs.nums r)[k] : Nat) : Int))) ∧ Below w'.heap.size w' w'') from fun w' => (Bt.rlist_any w' hr).mono fun e w'' ⟨v, he, ho, hb⟩ => by
    obtain ⟨p, cc, hv, _, hcell⟩ := ho.isL hnl
    rw [List.length_map] at hv
    refine ⟨p, cc, by rw [he, hv], fun k hk => ?_, hb⟩
    obtain ⟨b, o, hp, hc⟩ := hcell k (by simpa using hk)
    exact ⟨b, o, hp, by simpa using hc⟩
  have KH := show Hid (∀ w' x, Below w.heap.size w w' → Calls Tryz.prog 33 #[.pointer (some ⟨c, 0, none⟩), .int .i64 x] w' fun e w'' => e = .returned (.bool (Fm.has t x)) ∧ w'' = w') from fun w' x hb => rhas_any w' (hT.later hb) x
  have HA := show Hid (∀ k (hk : k < (Bt.Bs.nums r).length), Fm.has t (((Bt.Bs.nums r)[k] : Nat) : Int) = false → rightQ t r g = false) from fun k hk h => by
    unfold rightQ
    rw [Bool.and_eq_false_iff]
    left
    rw [List.all_eq_false]
    exact ⟨_, List.mem_map.2 ⟨_, List.getElem_mem hk, rfl⟩, by rw [h]; simp⟩
  have HE := show Hid ((∀ k (hk : k < (Bt.Bs.nums r).length), Fm.has t (((Bt.Bs.nums r)[k] : Nat) : Int) = true) → rightQ t r g = Fm.has t g) from fun h => by
    unfold rightQ
    have h2 : ((Bt.Bs.nums r).map fun n : Nat => (n : Int)).all (Fm.has t) = true := by
      rw [List.all_eq_true]
      intro x hx
      obtain ⟨n, hn, rfl⟩ := List.mem_map.1 hx
      obtain ⟨k, hk, rfl⟩ := List.mem_iff_getElem.1 hn
      exact h k hk
    rw [h2, Bool.true_and]
  have HC := show Hid (CK w (w.alloc (.cells (cellsQ r g) 27)) r g) from ⟨seq_new w r g, below_alloc w _⟩
  clear hT hr
  generalize rightQ t r g = rq at *
  generalize Bt.Bs.nums r = l at *
  go_enter Tryz.func17, Tryz.ntmps17
  go_wp2_with (refine wpList_ldQ _ _ rfl _ rfl HC.out.seq hl rfl ?_)
  refine (KL.out _).mono ?_
  rintro e w1 ⟨p, cc, rfl, hcell, hb1⟩
  have H1 := show Hid (CK w w1 r g) from HC.out.later hb1
  have HL := show Hid (∀ k (hk : k < l.length), ∃ b o, p = some ⟨b, o, none⟩ ∧ w1.cell? ⟨b, o + k, none⟩ = some (.int .i64 ((l[k] : Nat) : Int))) from hcell
  clear hcell hb1 HC KL
  go_wp2_with fail
  go_loopw [6] (fun iv wr => ∃ k : Nat, k ≤ l.length ∧ iv = .int .i64 (k : Int) ∧ wr = w1 ∧ Hid (∀ j (hj : j < l.length), j < k → Fm.has t ((l[j] : Nat) : Int) = true)) (fun iv _ => l.length - (intOf iv).toNat)
  case atStart => exact ⟨0, by omega, rfl, rfl, fun j _ h => by omega⟩
  case round =>
    obtain ⟨k, hk, rfl, hwr, HI⟩ := hrel
    subst wr
    by_cases hlt : k < l.length
    · have hki : (k : Int) < (l.length : Int) := by omega
      obtain ⟨b, o, rfl, hc⟩ := HL.out k hlt
      have KX := show Hid _ from KH.out w1 ((l[k] : Nat) : Int) H1.out.bel
      cases hx : Fm.has t ((l[k] : Nat) : Int)
      · have hq := HA.out k hlt hx
        rw [hx] at KX
        generalize ((l[k] : Nat) : Int) = x at *
        subst hq
        clear HA HE HI KH HL
        go_wp2_with fail
        refine Calls.mono KX.out ?_
        rintro e w' ⟨rfl, hw'⟩
        subst w'
        clear KX
        go_wp2_with fail
        go_ret
        exact ⟨rfl, H1.out.bel⟩
      · have HI2 := show Hid (∀ j (hj : j < l.length), j < k + 1 → Fm.has t ((l[j] : Nat) : Int) = true) from fun j hj h => by
          by_cases e : j = k
          · subst e; exact hx
          · exact HI.out j hj (by omega)
        rw [hx] at KX
        generalize ((l[k] : Nat) : Int) = x at *
        clear HA HE HI KH HL
        go_wp2_with fail
        refine Calls.mono KX.out ?_
        rintro e w' ⟨rfl, hw'⟩
        subst w'
        clear KX
        go_wp2_with fail
        go_roundw
        case rel => exact ⟨k + 1, by omega, by go_num, by simp, HI2⟩
        case measure => first | (simp [intOf]; done) | (simp [intOf]; omega)
    · have hki : ¬ (k : Int) < (l.length : Int) := by omega
      have hq := HE.out (fun j hj => HI.out j hj (by omega))
      subst hq
      have c0 := H1.out.seq.goal hl
      have KX := show Hid _ from KH.out w1 g H1.out.bel
      clear HA HE HI KH HL
      go_wp2_with fail
      refine Calls.mono KX.out ?_
      rintro e w' ⟨rfl, hw'⟩
      subst w'
      clear KX
      go_wp2_with fail
      go_ret
      exact ⟨rfl, H1.out.bel⟩
end Go.Proofs.YtkejippimkjjaaaGreatDoor
/-
  The premises of a rule that fits, told once for all: which rows it speaks of, which formulas stand in the premises. No condition but that the rows are a table's.
-/
namespace Go.Proofs.YtkejippimkjjaaaGreatDoor
open Go.RowKit Go.Shelf Go.Maps
open Fm (Nd)
open Bt.Bs (Ok wd)
set_option linter.unusedSimpArgs false

structure Ext (t t1 : List Nd) : Prop where
  len : t.length ≤ t1.length
  nod : ∀ j : Nat, j < t.length → nodeOf t1 (j : Int) = nodeOf t (j : Int)
theorem Ext.refl (t : List Nd) : Ext t t := ⟨Nat.le_refl _, fun _ _ => rfl⟩
theorem Ext.trans {t t1 t2 : List Nd} (h : Ext t t1) (h' : Ext t1 t2) : Ext t t2 := ⟨Nat.le_trans h.len h'.len, fun j hj => (h'.nod j (Nat.lt_of_lt_of_le hj h.len)).trans (h.nod j hj)⟩
theorem put_at {t : List Nd} {n : Nd} (h : (Fm.put t n).2.1 = 0) : ∃ f : Nat, (Fm.put t n).1 = f ∧ f < (Fm.put t n).2.2.length ∧ nodeOf (Fm.put t n).2.2 (f : Int) = n ∧ Ext t (Fm.put t n).2.2 := by
  unfold Fm.put at *
  split at h
  · rename_i hc
    rw [if_pos hc]
    split at h
    · rename_i hm
      rw [if_pos hm]
      have hlt := List.idxOf_lt_length_iff.2 hm
      refine ⟨t.idxOf n, rfl, hlt, ?_, Ext.refl t⟩
      rw [nodeOf_nat hlt]
      simp
    · rename_i hm
      rw [if_neg hm]
      split at h
      · exact absurd h (by simp)
      · rename_i hx
        rw [if_neg hx]
        refine ⟨t.length, rfl, by simp, ?_, by simp, fun j hj => ?_⟩
        · rw [nodeOf_nat (by simp)]
          simp
        · rw [nodeOf_nat (by simp; omega), nodeOf_nat hj]
          simp [hj]
  · rename_i hc
    exact absurd h hc
inductive PC (t : List Nd) (r : List Nat) (g : Int) (i : Nat) : Int → List SQ → List Nd → Prop
  | bot (hk : (nodeOf t (i : Int)).k = 2) (hm : Bt.Bs.has r i = true) : PC t r g i 1 [] t
  | same (hg : g = (i : Int)) (hm : Bt.Bs.has r i = true) : PC t r g i 2 [] t
  | andL (x y : Nat) (hn : nodeOf t (i : Int) = joinN 3 x y) (hx : x < i) (hy : y < i) (hm : Bt.Bs.has r i = true) : PC t r g i 3 [(Bt.Bs.put (Bt.Bs.put (Bt.Bs.drop r i) x) y, g)] t
  | atom (x y : Nat) (hn : nodeOf t (i : Int) = joinN 5 x y) (hx : x < i) (hy : y < i) (hm : Bt.Bs.has r i = true) (ha : Bt.Bs.has r x = true) : PC t r g i 4 [(Bt.Bs.put (Bt.Bs.drop r i) y, g)] t
  | nix (x y : Nat) (hn : nodeOf t (i : Int) = joinN 5 x y) (hx : x < i) (hy : y < i) (hm : Bt.Bs.has r i = true) (hk : (nodeOf t (x : Int)).k = 2) : PC t r g i 5 [(Bt.Bs.drop r i, g)] t
  | andI (x y c d : Nat) (hn : nodeOf t (i : Int) = joinN 5 x y) (hx : x < i) (hy : y < i) (hm : Bt.Bs.has r i = true) (hn2 : nodeOf t (x : Int) = joinN 3 c d) (hc : c < x) (hd : d < x) (f1 f2 : Nat) (t1 t2 : List Nd) (e1 : Ext t t1) (e2 : Ext t1 t2) (h1 : f1 < t1.length) (h2 : f2 < t2.length) (n1 : nodeOf t1 (f1 : Int) = joinN 5 d y) (n2 : nodeOf t2 (f2 : Int) = joinN 5 c f1) : PC t r g i 6 [(Bt.Bs.put (Bt.Bs.drop r i) f2, g)] t2
  | orI (x y c d : Nat) (hn : nodeOf t (i : Int) = joinN 5 x y) (hx : x < i) (hy : y < i) (hm : Bt.Bs.has r i = true) (hn2 : nodeOf t (x : Int) = joinN 4 c d) (hc : c < x) (hd : d < x) (f1 f2 : Nat) (t1 t2 : List Nd) (e1 : Ext t t1) (e2 : Ext t1 t2) (h1 : f1 < t1.length) (h2 : f2 < t2.length) (n1 : nodeOf t1 (f1 : Int) = joinN 5 c y) (n2 : nodeOf t2 (f2 : Int) = joinN 5 d y) : PC t r g i 7 [(Bt.Bs.put (Bt.Bs.put (Bt.Bs.drop r i) f1) f2, g)] t2
  | impR (x y : Nat) (hn : nodeOf t (i : Int) = joinN 5 x y) (hx : x < i) (hy : y < i) (hg : g = (i : Int)) : PC t r g i 8 [(Bt.Bs.put r x, (y : Int))] t
  | andR (x y : Nat) (hn : nodeOf t (i : Int) = joinN 3 x y) (hx : x < i) (hy : y < i) (hg : g = (i : Int)) : PC t r g i 9 [(r, (x : Int)), (r, (y : Int))] t
  | orL (x y : Nat) (hn : nodeOf t (i : Int) = joinN 4 x y) (hx : x < i) (hy : y < i) (hm : Bt.Bs.has r i = true) : PC t r g i 10 [(Bt.Bs.put (Bt.Bs.drop r i) x, g), (Bt.Bs.put (Bt.Bs.drop r i) y, g)] t
  | orR1 (x y : Nat) (hn : nodeOf t (i : Int) = joinN 4 x y) (hx : x < i) (hy : y < i) (hg : g = (i : Int)) : PC t r g i 11 [(r, (x : Int))] t
  | orR2 (x y : Nat) (hn : nodeOf t (i : Int) = joinN 4 x y) (hx : x < i) (hy : y < i) (hg : g = (i : Int)) : PC t r g i 12 [(r, (y : Int))] t
  | impI (x y c d : Nat) (hn : nodeOf t (i : Int) = joinN 5 x y) (hx : x < i) (hy : y < i) (hm : Bt.Bs.has r i = true) (hn2 : nodeOf t (x : Int) = joinN 5 c d) (hc : c < x) (hd : d < x) (f1 : Nat) (t1 : List Nd) (e1 : Ext t t1) (h1 : f1 < t1.length) (n1 : nodeOf t1 (f1 : Int) = joinN 5 d y) : PC t r g i 13 [(Bt.Bs.put (Bt.Bs.drop r i) f1, (x : Int)), (Bt.Bs.put (Bt.Bs.drop r i) y, g)] t1
theorem join_of {t : List Nd} (hO : Fm.Ok t) {i : Nat} (hi : i < t.length) {k : Int} (hk : t[i].k = k) (h3 : k = 3 ∨ k = 4 ∨ k = 5) : ∃ x y : Nat, nodeOf t (i : Int) = joinN k x y ∧ x < i ∧ y < i ∧ t[i].l = x ∧ t[i].r = y := by
  subst hk
  obtain ⟨x, y, hx, hy, lx, ly⟩ := kids hO hi h3
  have hs : t[i].s = ⟨#[]⟩ := by
    have hc := Fm.check_shaped (hO.chk i hi)
    unfold Fm.shaped at hc
    rw [if_neg (by omega), if_neg (by omega)] at hc
    split at hc
    · simp only [Bool.and_eq_true, beq_iff_eq] at hc
      have h0 := hc.1.1
      have : t[i].s.data = #[] := Array.eq_empty_of_size_eq_zero h0
      cases hh : t[i].s with
      | mk d => rw [hh] at this; simp only at this; rw [this]
    · cases hc
  refine ⟨x, y, ?_, lx, ly, hx, hy⟩
  rw [nodeOf_nat hi]
  unfold joinN
  rw [← hx, ← hy, ← hs]
theorem dropI_nat {r : List Nat} {n : Nat} (h : n < 1024) : Bt.dropI r (n : Int) = Bt.Bs.drop r n := by
  unfold Bt.dropI
  rw [if_pos ⟨by omega, by omega⟩]
  simp
theorem with1 {r : List Nat} {n : Nat} (h : n < 1024) : withF r [(n : Int)] = Bt.Bs.put r n := by
  have e : withF r [(n : Int)] = (Bt.putI r (n : Int)).1 := by rw [withF, withF]
  rw [e, putI_nat h]
theorem with2 {r : List Nat} {n m : Nat} (h : n < 1024) (h' : m < 1024) : withF r [(n : Int), (m : Int)] = Bt.Bs.put (Bt.Bs.put r n) m := by
  rw [withF, putI_nat h, with1 h']
theorem inL_nat {r : List Nat} (hr : Ok r) {n : Nat} (hn : n < 1024) (h : inL r (n : Int) = true) : Bt.Bs.has r n = true := by
  rw [inL_has hr hn] at h
  unfold Bt.Bs.hasI at h
  simp only [Bool.and_eq_true] at h
  simpa using h.2
theorem prem_pc {t : List Nd} (hO : Fm.Ok t) {r : List Nat} (hr : Ok r) {g ru main : Int} (hz : refZ t r g = 0) (hf : findF t r g ru main = true) (h0 : (premF t r g ru main).2.2 = 0) :
    ∃ i : Nat, main = i ∧ i < t.length ∧ PC t r g i ru (premF t r g ru main).1 (premF t r g ru main).2.1 ∧ Fm.Ok (premF t r g ru main).2.1 := by
  have hh : Fm.has t main = true := by
    unfold findF at hf
    simp only [Bool.and_eq_true] at hf
    exact hf.1.1
  have hrng := findF_rng hf
  have hpos : 1 ≤ ru := by
    unfold findF at hf
    simp only [Bool.and_eq_true, decide_eq_true_eq] at hf
    exact hf.1.2.1
  have h1 := Fm.has_iff.1 hh
  obtain ⟨i, rfl⟩ : ∃ i : Nat, main = i := ⟨main.toNat, by omega⟩
  have hi : i < t.length := by omega
  have hlen := hO.len
  have hfm := hf
  rw [find_nat hi] at hfm
  simp only [Bool.and_eq_true] at hfm
  have hfs := hfm.2
  have hg1024 : ∀ {t1 : List Nd}, Fm.Ok t1 → ∀ f : Nat, f < t1.length → f < 1024 := fun h f hf => Nat.lt_of_lt_of_le hf h.len
  refine ⟨i, rfl, hi, ?_⟩
  rw [premF_is hz hf] at h0 ⊢
  have hru : ru = 1 ∨ ru = 2 ∨ ru = 3 ∨ ru = 4 ∨ ru = 5 ∨ ru = 6 ∨ ru = 7 ∨ ru = 8 ∨ ru = 9 ∨ ru = 10 ∨ ru = 11 ∨ ru = 12 ∨ ru = 13 := by omega
  have hL : ∀ n : Nat, n < t.length → inL r (n : Int) = true → Bt.Bs.has r n = true := fun n hn h => inL_nat hr (by omega) h
  rcases hru with rfl | rfl | rfl | rfl | rfl | rfl | rfl | rfl | rfl | rfl | rfl | rfl | rfl
  · rw [shp_nat hi] at hfs
    have h2 : ((t[i].k == 2) && inL r (i : Int)) = true := hfs
    simp only [Bool.and_eq_true, beq_iff_eq] at h2
    exact ⟨.bot (by rw [nodeOf_nat hi]; exact h2.1) (hL i hi h2.2), hO⟩
  · rw [shp_nat hi] at hfs
    have h2 : (((i : Int) == g) && inL r (i : Int)) = true := hfs
    simp only [Bool.and_eq_true, beq_iff_eq] at h2
    exact ⟨.same h2.1.symm (hL i hi h2.2), hO⟩
  · obtain ⟨x, y, hn, hx, hy, ex, ey⟩ := join_of hO hi (find_kind hi 3 3 (by omega) hf) (by omega)
    rw [shp_nat hi] at hfs ⊢
    have h2 : ((t[i].k == 3) && inL r (i : Int)) = true := hfs
    simp only [Bool.and_eq_true, beq_iff_eq] at h2
    rw [ex, ey]
    show PC t r g i 3 [(withF (Bt.dropI r (i : Int)) [(x : Int), (y : Int)], g)] t ∧ Fm.Ok t
    rw [dropI_nat (by omega), with2 (by omega) (by omega)]
    exact ⟨.andL x y hn hx hy (hL i hi h2.2), hO⟩
  · obtain ⟨x, y, hn, hx, hy, ex, ey⟩ := join_of hO hi (find_imp hi 4 1 (by omega) hf).1 (by omega)
    rw [shp_nat hi] at hfs ⊢
    rw [ex] at hfs
    have h2 : ((((if t[i].k = 5 then (nodeOf t (x : Int)).k else 0) == 1) && inL r (i : Int)) && inL r (x : Int)) = true := hfs
    simp only [Bool.and_eq_true] at h2
    rw [ex, ey]
    show PC t r g i 4 [(withF (Bt.dropI r (i : Int)) [(y : Int)], g)] t ∧ Fm.Ok t
    rw [dropI_nat (by omega), with1 (by omega)]
    exact ⟨.atom x y hn hx hy (hL i hi h2.1.2) (hL x (by omega) h2.2), hO⟩
  · obtain ⟨hk5, hk2⟩ := find_imp hi 5 2 (by omega) hf
    obtain ⟨x, y, hn, hx, hy, ex, ey⟩ := join_of hO hi hk5 (by omega)
    rw [shp_nat hi] at hfs ⊢
    rw [ex] at hk2
    have h2 : (((if t[i].k = 5 then (nodeOf t t[i].l).k else 0) == 2) && inL r (i : Int)) = true := hfs
    simp only [Bool.and_eq_true] at h2
    show PC t r g i 5 [(Bt.dropI r (i : Int), g)] t ∧ Fm.Ok t
    rw [dropI_nat (by omega)]
    exact ⟨.nix x y hn hx hy (hL i hi h2.2) hk2, hO⟩
  · obtain ⟨hk5, hk2⟩ := find_imp hi 6 3 (by omega) hf
    obtain ⟨x, y, hn, hx, hy, ex, ey⟩ := join_of hO hi hk5 (by omega)
    rw [ex, nodeOf_nat (show x < t.length by omega)] at hk2
    obtain ⟨c, d, hn2, hc, hd, ec, ed⟩ := join_of hO (show x < t.length by omega) hk2 (by omega)
    have h2 : (((if t[i].k = 5 then (nodeOf t t[i].l).k else 0) == 3) && inL r (i : Int)) = true := by rw [shp_nat hi] at hfs; exact hfs
    simp only [Bool.and_eq_true] at h2
    rw [shp_imp hi hk5 ex (show x < t.length by omega), ec, ed, ey] at h0 ⊢
    have e0 : (if ((false || ((Fm.put t (joinN 5 (d : Int) (y : Int))).2.1 != 0)) || ((Fm.put (Fm.put t (joinN 5 (d : Int) (y : Int))).2.2 (joinN 5 (c : Int) (Fm.put t (joinN 5 (d : Int) (y : Int))).1)).2.1 != 0)) = true then (([] : List SQ), t, (30 : Int)) else ([(withF (Bt.dropI r (i : Int)) [(Fm.put (Fm.put t (joinN 5 (d : Int) (y : Int))).2.2 (joinN 5 (c : Int) (Fm.put t (joinN 5 (d : Int) (y : Int))).1)).1], g)], (Fm.put (Fm.put t (joinN 5 (d : Int) (y : Int))).2.2 (joinN 5 (c : Int) (Fm.put t (joinN 5 (d : Int) (y : Int))).1)).2.2, 0)).2.2 = 0 := h0
    have hb : ((false || ((Fm.put t (joinN 5 (d : Int) (y : Int))).2.1 != 0)) || ((Fm.put (Fm.put t (joinN 5 (d : Int) (y : Int))).2.2 (joinN 5 (c : Int) (Fm.put t (joinN 5 (d : Int) (y : Int))).1)).2.1 != 0)) = false := by
      cases hq : ((false || ((Fm.put t (joinN 5 (d : Int) (y : Int))).2.1 != 0)) || ((Fm.put (Fm.put t (joinN 5 (d : Int) (y : Int))).2.2 (joinN 5 (c : Int) (Fm.put t (joinN 5 (d : Int) (y : Int))).1)).2.1 != 0))
      · rfl
      · rw [hq, if_pos rfl] at e0
        exact absurd (show (30 : Int) = 0 from e0) (by decide)
    show PC t r g i 6 (if _ = true then (([] : List SQ), t, (30 : Int)) else _).1 (if _ = true then (([] : List SQ), t, (30 : Int)) else _).2.1 ∧ Fm.Ok (if _ = true then (([] : List SQ), t, (30 : Int)) else _).2.1
    rw [if_neg (by rw [show (prmF ((6 : Int) - 1).toNat t r g ⟨(i : Int), 5, (x : Int), (y : Int), t[x].k, (c : Int), (d : Int)⟩).2.2 = _ from hb]; decide)]
    simp only [Bool.false_or, Bool.or_eq_false_iff, bne_eq_false_iff_eq] at hb
    obtain ⟨f1, e1, l1, n1, x1⟩ := put_at hb.1
    have hO1 : Fm.Ok (Fm.put t (joinN 5 (d : Int) (y : Int))).2.2 := Fm.ok_put hO (good_joinN (by omega) (by omega) (Fm.i64_small (by omega) (by omega)) (Fm.i64_small (by omega) (by omega)))
    have hl1 := hO1.len
    obtain ⟨f2, e2, l2, n2, x2⟩ := put_at hb.2
    have hO2 : Fm.Ok (Fm.put (Fm.put t (joinN 5 (d : Int) (y : Int))).2.2 (joinN 5 (c : Int) (Fm.put t (joinN 5 (d : Int) (y : Int))).1)).2.2 := Fm.ok_put hO1 (good_joinN (by omega) (by omega) (Fm.i64_small (by omega) (by omega)) (Fm.i64_small (by omega) (by omega)))
    have hl2 := hO2.len
    show PC t r g i 6 [(withF (Bt.dropI r (i : Int)) [(Fm.put (Fm.put t (joinN 5 (d : Int) (y : Int))).2.2 (joinN 5 (c : Int) (Fm.put t (joinN 5 (d : Int) (y : Int))).1)).1], g)] (Fm.put (Fm.put t (joinN 5 (d : Int) (y : Int))).2.2 (joinN 5 (c : Int) (Fm.put t (joinN 5 (d : Int) (y : Int))).1)).2.2 ∧ _
    rw [e2, dropI_nat (by omega), with1 (by omega)]
    exact ⟨.andI x y c d hn hx hy (hL i hi h2.2) hn2 hc hd f1 f2 _ _ x1 x2 l1 l2 n1 (by rw [n2, e1]), hO2⟩
  · obtain ⟨hk5, hk2⟩ := find_imp hi 7 4 (by omega) hf
    obtain ⟨x, y, hn, hx, hy, ex, ey⟩ := join_of hO hi hk5 (by omega)
    rw [ex, nodeOf_nat (show x < t.length by omega)] at hk2
    obtain ⟨c, d, hn2, hc, hd, ec, ed⟩ := join_of hO (show x < t.length by omega) hk2 (by omega)
    have h2 : (((if t[i].k = 5 then (nodeOf t t[i].l).k else 0) == 4) && inL r (i : Int)) = true := by rw [shp_nat hi] at hfs; exact hfs
    simp only [Bool.and_eq_true] at h2
    rw [shp_imp hi hk5 ex (show x < t.length by omega), ec, ed, ey] at h0 ⊢
    have e0 : (if ((false || ((Fm.put t (joinN 5 (c : Int) (y : Int))).2.1 != 0)) || ((Fm.put (Fm.put t (joinN 5 (c : Int) (y : Int))).2.2 (joinN 5 (d : Int) (y : Int))).2.1 != 0)) = true then (([] : List SQ), t, (30 : Int)) else ([(withF (Bt.dropI r (i : Int)) [(Fm.put t (joinN 5 (c : Int) (y : Int))).1, (Fm.put (Fm.put t (joinN 5 (c : Int) (y : Int))).2.2 (joinN 5 (d : Int) (y : Int))).1], g)], (Fm.put (Fm.put t (joinN 5 (c : Int) (y : Int))).2.2 (joinN 5 (d : Int) (y : Int))).2.2, 0)).2.2 = 0 := h0
    have hb : ((false || ((Fm.put t (joinN 5 (c : Int) (y : Int))).2.1 != 0)) || ((Fm.put (Fm.put t (joinN 5 (c : Int) (y : Int))).2.2 (joinN 5 (d : Int) (y : Int))).2.1 != 0)) = false := by
      cases hq : ((false || ((Fm.put t (joinN 5 (c : Int) (y : Int))).2.1 != 0)) || ((Fm.put (Fm.put t (joinN 5 (c : Int) (y : Int))).2.2 (joinN 5 (d : Int) (y : Int))).2.1 != 0))
      · rfl
      · rw [hq, if_pos rfl] at e0
        exact absurd (show (30 : Int) = 0 from e0) (by decide)
    show PC t r g i 7 (if _ = true then (([] : List SQ), t, (30 : Int)) else _).1 (if _ = true then (([] : List SQ), t, (30 : Int)) else _).2.1 ∧ Fm.Ok (if _ = true then (([] : List SQ), t, (30 : Int)) else _).2.1
    rw [if_neg (by rw [show (prmF ((7 : Int) - 1).toNat t r g ⟨(i : Int), 5, (x : Int), (y : Int), t[x].k, (c : Int), (d : Int)⟩).2.2 = _ from hb]; decide)]
    simp only [Bool.false_or, Bool.or_eq_false_iff, bne_eq_false_iff_eq] at hb
    obtain ⟨f1, e1, l1, n1, x1⟩ := put_at hb.1
    have hO1 : Fm.Ok (Fm.put t (joinN 5 (c : Int) (y : Int))).2.2 := Fm.ok_put hO (good_joinN (by omega) (by omega) (Fm.i64_small (by omega) (by omega)) (Fm.i64_small (by omega) (by omega)))
    have hl1 := hO1.len
    obtain ⟨f2, e2, l2, n2, x2⟩ := put_at hb.2
    have hO2 : Fm.Ok (Fm.put (Fm.put t (joinN 5 (c : Int) (y : Int))).2.2 (joinN 5 (d : Int) (y : Int))).2.2 := Fm.ok_put hO1 (good_joinN (by omega) (by omega) (Fm.i64_small (by omega) (by omega)) (Fm.i64_small (by omega) (by omega)))
    have hl2 := hO2.len
    show PC t r g i 7 [(withF (Bt.dropI r (i : Int)) [(Fm.put t (joinN 5 (c : Int) (y : Int))).1, (Fm.put (Fm.put t (joinN 5 (c : Int) (y : Int))).2.2 (joinN 5 (d : Int) (y : Int))).1], g)] (Fm.put (Fm.put t (joinN 5 (c : Int) (y : Int))).2.2 (joinN 5 (d : Int) (y : Int))).2.2 ∧ _
    rw [e1, e2, dropI_nat (by omega), with2 (by omega) (by omega)]
    exact ⟨.orI x y c d hn hx hy (hL i hi h2.2) hn2 hc hd f1 f2 _ _ x1 x2 l1 l2 n1 n2, hO2⟩
  · obtain ⟨x, y, hn, hx, hy, ex, ey⟩ := join_of hO hi (find_kind hi 8 5 (by omega) hf) (by omega)
    rw [shp_nat hi] at hfs ⊢
    have h2 : ((t[i].k == 5) && ((i : Int) == g)) = true := hfs
    simp only [Bool.and_eq_true, beq_iff_eq] at h2
    rw [ex, ey]
    show PC t r g i 8 [(withF r [(x : Int)], (y : Int))] t ∧ Fm.Ok t
    rw [with1 (by omega)]
    exact ⟨.impR x y hn hx hy h2.2.symm, hO⟩
  · obtain ⟨x, y, hn, hx, hy, ex, ey⟩ := join_of hO hi (find_kind hi 9 3 (by omega) hf) (by omega)
    rw [shp_nat hi] at hfs ⊢
    have h2 : ((t[i].k == 3) && ((i : Int) == g)) = true := hfs
    simp only [Bool.and_eq_true, beq_iff_eq] at h2
    rw [ex, ey]
    exact ⟨.andR x y hn hx hy h2.2.symm, hO⟩
  · obtain ⟨x, y, hn, hx, hy, ex, ey⟩ := join_of hO hi (find_kind hi 10 4 (by omega) hf) (by omega)
    rw [shp_nat hi] at hfs ⊢
    have h2 : ((t[i].k == 4) && inL r (i : Int)) = true := hfs
    simp only [Bool.and_eq_true, beq_iff_eq] at h2
    rw [ex, ey]
    show PC t r g i 10 [(withF (Bt.dropI r (i : Int)) [(x : Int)], g), (withF (Bt.dropI r (i : Int)) [(y : Int)], g)] t ∧ Fm.Ok t
    rw [dropI_nat (by omega), with1 (by omega), with1 (by omega)]
    exact ⟨.orL x y hn hx hy (hL i hi h2.2), hO⟩
  · obtain ⟨x, y, hn, hx, hy, ex, ey⟩ := join_of hO hi (find_kind hi 11 4 (by omega) hf) (by omega)
    rw [shp_nat hi] at hfs ⊢
    have h2 : ((t[i].k == 4) && ((i : Int) == g)) = true := hfs
    simp only [Bool.and_eq_true, beq_iff_eq] at h2
    rw [ex, ey]
    exact ⟨.orR1 x y hn hx hy h2.2.symm, hO⟩
  · obtain ⟨x, y, hn, hx, hy, ex, ey⟩ := join_of hO hi (find_kind hi 12 4 (by omega) hf) (by omega)
    rw [shp_nat hi] at hfs ⊢
    have h2 : ((t[i].k == 4) && ((i : Int) == g)) = true := hfs
    simp only [Bool.and_eq_true, beq_iff_eq] at h2
    rw [ex, ey]
    exact ⟨.orR2 x y hn hx hy h2.2.symm, hO⟩
  · obtain ⟨hk5, hk2⟩ := find_imp hi 13 5 (by omega) hf
    obtain ⟨x, y, hn, hx, hy, ex, ey⟩ := join_of hO hi hk5 (by omega)
    rw [ex, nodeOf_nat (show x < t.length by omega)] at hk2
    obtain ⟨c, d, hn2, hc, hd, ec, ed⟩ := join_of hO (show x < t.length by omega) hk2 (by omega)
    have h2 : (((if t[i].k = 5 then (nodeOf t t[i].l).k else 0) == 5) && inL r (i : Int)) = true := by rw [shp_nat hi] at hfs; exact hfs
    simp only [Bool.and_eq_true] at h2
    rw [shp_imp hi hk5 ex (show x < t.length by omega), ec, ed, ey] at h0 ⊢
    have e0 : (if (false || ((Fm.put t (joinN 5 (d : Int) (y : Int))).2.1 != 0)) = true then (([] : List SQ), t, (30 : Int)) else ([(withF (Bt.dropI r (i : Int)) [(Fm.put t (joinN 5 (d : Int) (y : Int))).1], (x : Int)), (withF (Bt.dropI r (i : Int)) [(y : Int)], g)], (Fm.put t (joinN 5 (d : Int) (y : Int))).2.2, 0)).2.2 = 0 := h0
    have hb : (false || ((Fm.put t (joinN 5 (d : Int) (y : Int))).2.1 != 0)) = false := by
      cases hq : (false || ((Fm.put t (joinN 5 (d : Int) (y : Int))).2.1 != 0))
      · rfl
      · rw [hq, if_pos rfl] at e0
        exact absurd (show (30 : Int) = 0 from e0) (by decide)
    show PC t r g i 13 (if _ = true then (([] : List SQ), t, (30 : Int)) else _).1 (if _ = true then (([] : List SQ), t, (30 : Int)) else _).2.1 ∧ Fm.Ok (if _ = true then (([] : List SQ), t, (30 : Int)) else _).2.1
    rw [if_neg (by rw [show (prmF ((13 : Int) - 1).toNat t r g ⟨(i : Int), 5, (x : Int), (y : Int), t[x].k, (c : Int), (d : Int)⟩).2.2 = _ from hb]; decide)]
    simp only [Bool.false_or, bne_eq_false_iff_eq] at hb
    obtain ⟨f1, e1, l1, n1, x1⟩ := put_at hb
    have hO1 : Fm.Ok (Fm.put t (joinN 5 (d : Int) (y : Int))).2.2 := Fm.ok_put hO (good_joinN (by omega) (by omega) (Fm.i64_small (by omega) (by omega)) (Fm.i64_small (by omega) (by omega)))
    have hl1 := hO1.len
    show PC t r g i 13 [(withF (Bt.dropI r (i : Int)) [(Fm.put t (joinN 5 (d : Int) (y : Int))).1], (x : Int)), (withF (Bt.dropI r (i : Int)) [(y : Int)], g)] (Fm.put t (joinN 5 (d : Int) (y : Int))).2.2 ∧ _
    rw [e1, dropI_nat (by omega), with1 (by omega), with1 (by omega)]
    exact ⟨.impI x y c d hn hx hy (hL i hi h2.2) hn2 hc hd f1 _ x1 l1 n1, hO1⟩
end Go.Proofs.YtkejippimkjjaaaGreatDoor
/-
  The rules are sound, and those without a choice invertible, told plainly: over any values that follow the rows. No condition.
-/
namespace Go.Proofs.YtkejippimkjjaaaGreatDoor
open Go.RowKit Go.Shelf Go.Maps
open Fm (Nd)
open Bt.Bs (Ok wd)
set_option linter.unusedSimpArgs false

def Rsp (n : Nd) (f : Nat → Bool) (j : Nat) : Prop := (n.k = 2 → f j = false) ∧ (n.k = 3 → f j = (f n.l.toNat && f n.r.toNat)) ∧ (n.k = 4 → f j = (f n.l.toNat || f n.r.toNat)) ∧ (n.k = 5 → f j = (!f n.l.toNat || f n.r.toNat))
def Resp (t : List Nd) (f : Nat → Bool) : Prop := ∀ j : Nat, j < t.length → Rsp (nodeOf t (j : Int)) f j
theorem Resp.ext {t t1 : List Nd} {f : Nat → Bool} (h : Resp t1 f) (e : Ext t t1) : Resp t f := fun j hj => by
  have := h j (Nat.lt_of_lt_of_le hj e.len)
  rwa [e.nod j hj] at this
theorem Resp.and {t : List Nd} {f : Nat → Bool} (h : Resp t f) {j x y : Nat} (hj : j < t.length) (hn : nodeOf t (j : Int) = joinN 3 x y) : f j = (f x && f y) := by
  have h1 := (h j hj).2.1
  rw [hn] at h1
  exact h1 rfl
theorem Resp.or {t : List Nd} {f : Nat → Bool} (h : Resp t f) {j x y : Nat} (hj : j < t.length) (hn : nodeOf t (j : Int) = joinN 4 x y) : f j = (f x || f y) := by
  have h1 := (h j hj).2.2.1
  rw [hn] at h1
  exact h1 rfl
theorem Resp.imp {t : List Nd} {f : Nat → Bool} (h : Resp t f) {j x y : Nat} (hj : j < t.length) (hn : nodeOf t (j : Int) = joinN 5 x y) : f j = (!f x || f y) := by
  have h1 := (h j hj).2.2.2
  rw [hn] at h1
  exact h1 rfl
def tt (f : Nat → Bool) (r : List Nat) : Prop := ∀ n, n < 1024 → Bt.Bs.has r n = true → f n = true
theorem tt_put {f : Nat → Bool} {r : List Nat} (hr : Ok r) {n : Nat} (hn : n < 1024) : tt f (Bt.Bs.put r n) ↔ tt f r ∧ f n = true := by
  constructor
  · intro h
    exact ⟨fun m hm hh => h m hm (by rw [Bt.Bs.has_put hr hn, hh]; rfl), h n hn (by rw [Bt.Bs.has_put hr hn]; simp)⟩
  · rintro ⟨h1, h2⟩ m hm hh
    rw [Bt.Bs.has_put hr hn, Bool.or_eq_true, decide_eq_true_eq] at hh
    rcases hh with hh | rfl
    · exact h1 m hm hh
    · exact h2
theorem tt_drop {f : Nat → Bool} {r : List Nat} (hr : Ok r) {n : Nat} (hn : n < 1024) (hm : Bt.Bs.has r n = true) : tt f r ↔ tt f (Bt.Bs.drop r n) ∧ f n = true := by
  constructor
  · intro h
    refine ⟨fun m hm2 hh => ?_, h n hn hm⟩
    rw [Bt.Bs.has_drop hr hn, Bool.and_eq_true] at hh
    exact h m hm2 hh.1
  · rintro ⟨h1, h2⟩ m hm2 hh
    by_cases e : m = n
    · subst e; exact h2
    · exact h1 m hm2 (by rw [Bt.Bs.has_drop hr hn, hh]; simp [e])
theorem drop_ok {r : List Nat} (hr : Ok r) {n : Nat} (hn : n < 1024) : Ok (Bt.Bs.drop r n) := by
  have := dropI_okZ hr (n : Int)
  rwa [dropI_nat hn] at this
def wrg (f : Nat → Bool) (s : SQ) : Prop := tt f s.1 ∧ f s.2.toNat = false
def wrF (f : Nat → Bool) (s : SQ) : Bool := (Bt.Bs.nums s.1).all f && !f s.2.toNat
theorem wrF_iff {f : Nat → Bool} {s : SQ} : wrF f s = true ↔ wrg f s := by
  unfold wrF wrg tt
  rw [Bool.and_eq_true, List.all_eq_true, Bool.not_eq_true']
  refine and_congr ⟨fun h n hn hh => h n (Bt.Bs.mem_nums.2 ⟨hn, hh⟩), fun h n hn => h n (Bt.Bs.mem_nums.1 hn).1 (Bt.Bs.mem_nums.1 hn).2⟩ Iff.rfl
section
variable {t : List Nd} {r : List Nat} {g : Int} {i : Nat} {ru : Int} {l : List SQ} {t' : List Nd} {f : Nat → Bool}
theorem pc_ext (h : PC t r g i ru l t') : Ext t t' := by
  cases h with
  | andI x y c d hn hx hy hm hn2 hc hd f1 f2 t1 t2 e1 e2 => exact e1.trans e2
  | orI x y c d hn hx hy hm hn2 hc hd f1 f2 t1 t2 e1 e2 => exact e1.trans e2
  | impI x y c d hn hx hy hm hn2 hc hd f1 t1 e1 => exact e1
  | _ => exact Ext.refl t
theorem pc_sound (hO' : Fm.Ok t') (hr : Ok r) (hi : i < t.length) (h : PC t r g i ru l t') (hR : Resp t' f) (hw : wrg f (r, g)) : ∃ s ∈ l, wrg f s := by
  have hlen := hO'.len
  have hex := pc_ext h
  have hxl := hex.len
  have hR0 := hR.ext hex
  have hd := drop_ok hr (show i < 1024 by omega)
  obtain ⟨h1, h2⟩ := hw
  simp only at h1 h2
  cases h with
  | bot hk hm =>
    have := (hR0 i hi).1 hk
    rw [h1 i (by omega) hm] at this
    cases this
  | same hg hm =>
    subst hg
    rw [Int.toNat_natCast, h1 i (by omega) hm] at h2
    cases h2
  | andL x y hn hx hy hm =>
    have e := hR0.and hi hn
    obtain ⟨h3, h4⟩ := (tt_drop hr (by omega) hm).1 h1
    rw [e, Bool.and_eq_true] at h4
    exact ⟨_, List.mem_singleton.2 rfl, (tt_put (Bt.Bs.put_ok hd _) (by omega)).2 ⟨(tt_put hd (by omega)).2 ⟨h3, h4.1⟩, h4.2⟩, h2⟩
  | atom x y hn hx hy hm ha =>
    have e := hR0.imp hi hn
    obtain ⟨h3, h4⟩ := (tt_drop hr (by omega) hm).1 h1
    rw [e, h1 x (by omega) ha] at h4
    exact ⟨_, List.mem_singleton.2 rfl, (tt_put hd (by omega)).2 ⟨h3, by simpa using h4⟩, h2⟩
  | nix x y hn hx hy hm hk =>
    exact ⟨_, List.mem_singleton.2 rfl, ((tt_drop hr (by omega) hm).1 h1).1, h2⟩
  | andI x y c d hn hx hy hm hn2 hc hdd f1 f2 t1 t2 e1 e2 l1 l2 n1 n2 =>
    have a1 := hR0.imp hi hn
    have a2 := hR0.and (show x < t.length by omega) hn2
    have a3 := (hR.ext e2).imp l1 n1
    have a4 := hR.imp l2 n2
    obtain ⟨h3, h4⟩ := (tt_drop hr (by omega) hm).1 h1
    refine ⟨_, List.mem_singleton.2 rfl, (tt_put hd (by omega)).2 ⟨h3, ?_⟩, h2⟩
    rw [a1, a2] at h4
    rw [a4, a3]
    revert h4
    cases f c <;> cases f d <;> cases f y <;> simp
  | orI x y c d hn hx hy hm hn2 hc hdd f1 f2 t1 t2 e1 e2 l1 l2 n1 n2 =>
    have a1 := hR0.imp hi hn
    have a2 := hR0.or (show x < t.length by omega) hn2
    have a3 := (hR.ext e2).imp l1 n1
    have a4 := hR.imp l2 n2
    have := e2.len
    obtain ⟨h3, h4⟩ := (tt_drop hr (by omega) hm).1 h1
    rw [a1, a2] at h4
    refine ⟨_, List.mem_singleton.2 rfl, (tt_put (Bt.Bs.put_ok hd _) (by omega)).2 ⟨(tt_put hd (by omega)).2 ⟨h3, ?_⟩, ?_⟩, h2⟩
    · rw [a3]
      revert h4
      cases f c <;> cases f d <;> cases f y <;> simp
    · rw [a4]
      revert h4
      cases f c <;> cases f d <;> cases f y <;> simp
  | impR x y hn hx hy hg =>
    subst hg
    have e := hR0.imp hi hn
    rw [Int.toNat_natCast, e] at h2
    refine ⟨_, List.mem_singleton.2 rfl, (tt_put hr (by omega)).2 ⟨h1, ?_⟩, ?_⟩
    · revert h2
      cases f x <;> cases f y <;> simp
    · show f (y : Int).toNat = false
      rw [Int.toNat_natCast]
      revert h2
      cases f x <;> cases f y <;> simp
  | andR x y hn hx hy hg =>
    subst hg
    have e := hR0.and hi hn
    rw [Int.toNat_natCast, e] at h2
    cases hfx : f x with
    | false => exact ⟨(r, (x : Int)), List.mem_cons_self .., h1, by rw [Int.toNat_natCast]; exact hfx⟩
    | true =>
      rw [hfx, Bool.true_and] at h2
      exact ⟨(r, (y : Int)), List.mem_cons_of_mem _ (List.mem_singleton.2 rfl), h1, by rw [Int.toNat_natCast]; exact h2⟩
  | orL x y hn hx hy hm =>
    have e := hR0.or hi hn
    obtain ⟨h3, h4⟩ := (tt_drop hr (by omega) hm).1 h1
    rw [e, Bool.or_eq_true] at h4
    rcases h4 with h4 | h4
    · exact ⟨_, List.mem_cons_self .., (tt_put hd (by omega)).2 ⟨h3, h4⟩, h2⟩
    · exact ⟨_, List.mem_cons_of_mem _ (List.mem_singleton.2 rfl), (tt_put hd (by omega)).2 ⟨h3, h4⟩, h2⟩
  | orR1 x y hn hx hy hg =>
    subst hg
    have e := hR0.or hi hn
    rw [Int.toNat_natCast, e, Bool.or_eq_false_iff] at h2
    exact ⟨_, List.mem_singleton.2 rfl, h1, by rw [Int.toNat_natCast]; exact h2.1⟩
  | orR2 x y hn hx hy hg =>
    subst hg
    have e := hR0.or hi hn
    rw [Int.toNat_natCast, e, Bool.or_eq_false_iff] at h2
    exact ⟨_, List.mem_singleton.2 rfl, h1, by rw [Int.toNat_natCast]; exact h2.2⟩
  | impI x y c d hn hx hy hm hn2 hc hdd f1 t1 e1 l1 n1 =>
    have a1 := hR0.imp hi hn
    have a2 := hR0.imp (show x < t.length by omega) hn2
    have a3 := hR.imp l1 n1
    obtain ⟨h3, h4⟩ := (tt_drop hr (by omega) hm).1 h1
    rw [a1] at h4
    cases hfx : f x with
    | true =>
      rw [hfx] at h4
      exact ⟨_, List.mem_cons_of_mem _ (List.mem_singleton.2 rfl), (tt_put hd (by omega)).2 ⟨h3, by simpa using h4⟩, h2⟩
    | false =>
      refine ⟨_, List.mem_cons_self .., (tt_put hd (by omega)).2 ⟨h3, ?_⟩, by rw [Int.toNat_natCast]; exact hfx⟩
      rw [a2] at hfx
      rw [a3]
      revert hfx
      cases f c <;> cases f d <;> simp
theorem pc_inv (hO' : Fm.Ok t') (hr : Ok r) (hi : i < t.length) (h : PC t r g i ru l t') (hR : Resp t' f) (h11 : ru ≠ 11) (h12 : ru ≠ 12) (h13 : ru ≠ 13) {s : SQ} (hs : s ∈ l) (hw : wrg f s) : wrg f (r, g) := by
  have hlen := hO'.len
  have hex := pc_ext h
  have hxl := hex.len
  have hR0 := hR.ext hex
  have hd := drop_ok hr (show i < 1024 by omega)
  obtain ⟨h1, h2⟩ := hw
  cases h with
  | bot hk hm => cases hs
  | same hg hm => cases hs
  | andL x y hn hx hy hm =>
    obtain rfl := List.mem_singleton.1 hs
    have e := hR0.and hi hn
    obtain ⟨h3, h4⟩ := (tt_put (Bt.Bs.put_ok hd _) (by omega)).1 h1
    obtain ⟨h5, h6⟩ := (tt_put hd (by omega)).1 h3
    exact ⟨(tt_drop hr (by omega) hm).2 ⟨h5, by rw [e, h6, h4]; rfl⟩, h2⟩
  | atom x y hn hx hy hm ha =>
    obtain rfl := List.mem_singleton.1 hs
    have e := hR0.imp hi hn
    obtain ⟨h3, h4⟩ := (tt_put hd (by omega)).1 h1
    exact ⟨(tt_drop hr (by omega) hm).2 ⟨h3, by rw [e, h4]; simp⟩, h2⟩
  | nix x y hn hx hy hm hk =>
    obtain rfl := List.mem_singleton.1 hs
    have e := hR0.imp hi hn
    have e2 := (hR0 x (by omega)).1 hk
    exact ⟨(tt_drop hr (by omega) hm).2 ⟨h1, by rw [e, e2]; rfl⟩, h2⟩
  | andI x y c d hn hx hy hm hn2 hc hdd f1 f2 t1 t2 e1 e2 l1 l2 n1 n2 =>
    obtain rfl := List.mem_singleton.1 hs
    have a1 := hR0.imp hi hn
    have a2 := hR0.and (show x < t.length by omega) hn2
    have a3 := (hR.ext e2).imp l1 n1
    have a4 := hR.imp l2 n2
    obtain ⟨h3, h4⟩ := (tt_put hd (by omega)).1 h1
    refine ⟨(tt_drop hr (by omega) hm).2 ⟨h3, ?_⟩, h2⟩
    rw [a4, a3] at h4
    rw [a1, a2]
    revert h4
    cases f c <;> cases f d <;> cases f y <;> simp
  | orI x y c d hn hx hy hm hn2 hc hdd f1 f2 t1 t2 e1 e2 l1 l2 n1 n2 =>
    obtain rfl := List.mem_singleton.1 hs
    have a1 := hR0.imp hi hn
    have a2 := hR0.or (show x < t.length by omega) hn2
    have a3 := (hR.ext e2).imp l1 n1
    have a4 := hR.imp l2 n2
    have := e2.len
    obtain ⟨h3, h4⟩ := (tt_put (Bt.Bs.put_ok hd _) (by omega)).1 h1
    obtain ⟨h5, h6⟩ := (tt_put hd (by omega)).1 h3
    refine ⟨(tt_drop hr (by omega) hm).2 ⟨h5, ?_⟩, h2⟩
    rw [a4] at h4
    rw [a3] at h6
    rw [a1, a2]
    revert h4 h6
    cases f c <;> cases f d <;> cases f y <;> simp
  | impR x y hn hx hy hg =>
    obtain rfl := List.mem_singleton.1 hs
    subst hg
    have e := hR0.imp hi hn
    obtain ⟨h3, h4⟩ := (tt_put hr (by omega)).1 h1
    refine ⟨h3, ?_⟩
    have h5 : f (y : Int).toNat = false := h2
    rw [Int.toNat_natCast] at h5
    show f (i : Int).toNat = false
    rw [Int.toNat_natCast, e, h4, h5]
    rfl
  | andR x y hn hx hy hg =>
    subst hg
    have e := hR0.and hi hn
    rcases List.mem_cons.1 hs with rfl | hs
    · refine ⟨h1, ?_⟩
      have h5 : f (x : Int).toNat = false := h2
      rw [Int.toNat_natCast] at h5
      show f (i : Int).toNat = false
      rw [Int.toNat_natCast, e, h5]
      rfl
    · obtain rfl := List.mem_singleton.1 hs
      refine ⟨h1, ?_⟩
      have h5 : f (y : Int).toNat = false := h2
      rw [Int.toNat_natCast] at h5
      show f (i : Int).toNat = false
      rw [Int.toNat_natCast, e, h5, Bool.and_false]
  | orL x y hn hx hy hm =>
    have e := hR0.or hi hn
    rcases List.mem_cons.1 hs with rfl | hs
    · obtain ⟨h3, h4⟩ := (tt_put hd (by omega)).1 h1
      exact ⟨(tt_drop hr (by omega) hm).2 ⟨h3, by rw [e, h4]; rfl⟩, h2⟩
    · obtain rfl := List.mem_singleton.1 hs
      obtain ⟨h3, h4⟩ := (tt_put hd (by omega)).1 h1
      exact ⟨(tt_drop hr (by omega) hm).2 ⟨h3, by rw [e, h4]; simp⟩, h2⟩
  | orR1 x y hn hx hy hg => exact absurd rfl h11
  | orR2 x y hn hx hy hg => exact absurd rfl h12
  | impI x y c d hn hx hy hm hn2 hc hdd f1 t1 e1 l1 n1 => exact absurd rfl h13
def rgt (n : Nat) (s : SQ) : Prop := (∀ m, m < 1024 → Bt.Bs.has s.1 m = true → m < n) ∧ 0 ≤ s.2 ∧ s.2 < n
theorem rgt_iff {t : List Nd} {s : SQ} : rightQ t s.1 s.2 = true ↔ rgt t.length s := by
  unfold rightQ rgt
  rw [Bool.and_eq_true, List.all_eq_true, Fm.has_iff]
  refine and_congr ⟨fun h m hm hh => ?_, fun h x hx => ?_⟩ Iff.rfl
  · have := Fm.has_iff.1 (h (m : Int) (List.mem_map.2 ⟨m, Bt.Bs.mem_nums.2 ⟨hm, hh⟩, rfl⟩))
    omega
  · obtain ⟨m, hm, rfl⟩ := List.mem_map.1 hx
    have := Bt.Bs.mem_nums.1 hm
    exact Fm.has_iff.2 ⟨by omega, by have := h m this.1 this.2; omega⟩
theorem rgt_put {n m : Nat} {r : List Nat} {g : Int} (hr : Ok r) (hm : m < 1024) (hn : m < n) (h : rgt n (r, g)) : rgt n (Bt.Bs.put r m, g) := ⟨fun j hj hh => by
  have hh : Bt.Bs.has (Bt.Bs.put r m) j = true := hh
  rw [Bt.Bs.has_put hr hm, Bool.or_eq_true, decide_eq_true_eq] at hh
  rcases hh with hh | rfl
  · exact h.1 j hj hh
  · exact hn, h.2⟩
theorem rgt_drop {n m : Nat} {r : List Nat} {g : Int} (hr : Ok r) (hm : m < 1024) (h : rgt n (r, g)) : rgt n (Bt.Bs.drop r m, g) := ⟨fun j hj hh => by
  have hh : Bt.Bs.has (Bt.Bs.drop r m) j = true := hh
  rw [Bt.Bs.has_drop hr hm, Bool.and_eq_true] at hh
  exact h.1 j hj hh.1, h.2⟩
theorem rgt_goal {n : Nat} {r : List Nat} {g g' : Int} (h : rgt n (r, g)) (h0 : 0 ≤ g') (h1 : g' < n) : rgt n (r, g') := ⟨h.1, h0, h1⟩
theorem pc_right (hO' : Fm.Ok t') (hr : Ok r) (hi : i < t.length) (h : PC t r g i ru l t') (hq : rgt t.length (r, g)) : rgt t'.length (r, g) ∧ ∀ s ∈ l, rgt t'.length s := by
  have hlen := hO'.len
  have hxl := (pc_ext h).len
  have hd := drop_ok hr (show i < 1024 by omega)
  have hq' : rgt t'.length (r, g) := ⟨fun m hm hh => Nat.lt_of_lt_of_le (hq.1 m hm hh) hxl, hq.2.1, by have := hq.2.2; simp only at this ⊢; omega⟩
  refine ⟨hq', ?_⟩
  have hqd := rgt_drop hr (show i < 1024 by omega) hq'
  cases h with
  | bot hk hm => intro s hs; cases hs
  | same hg hm => intro s hs; cases hs
  | andL x y hn hx hy hm =>
    intro s hs
    obtain rfl := List.mem_singleton.1 hs
    exact rgt_put (Bt.Bs.put_ok hd _) (by omega) (by omega) (rgt_put hd (by omega) (by omega) hqd)
  | atom x y hn hx hy hm ha =>
    intro s hs
    obtain rfl := List.mem_singleton.1 hs
    exact rgt_put hd (by omega) (by omega) hqd
  | nix x y hn hx hy hm hk =>
    intro s hs
    obtain rfl := List.mem_singleton.1 hs
    exact hqd
  | andI x y c d hn hx hy hm hn2 hc hdd f1 f2 t1 t2 e1 e2 l1 l2 n1 n2 =>
    intro s hs
    obtain rfl := List.mem_singleton.1 hs
    exact rgt_put hd (by omega) (by omega) hqd
  | orI x y c d hn hx hy hm hn2 hc hdd f1 f2 t1 t2 e1 e2 l1 l2 n1 n2 =>
    intro s hs
    obtain rfl := List.mem_singleton.1 hs
    have := e2.len
    exact rgt_put (Bt.Bs.put_ok hd _) (by omega) (by omega) (rgt_put hd (by omega) (by omega) hqd)
  | impR x y hn hx hy hg =>
    intro s hs
    obtain rfl := List.mem_singleton.1 hs
    exact rgt_goal (rgt_put hr (by omega) (by omega) hq') (by omega) (by omega)
  | andR x y hn hx hy hg =>
    intro s hs
    rcases List.mem_cons.1 hs with rfl | hs
    · exact rgt_goal hq' (by omega) (by omega)
    · obtain rfl := List.mem_singleton.1 hs
      exact rgt_goal hq' (by omega) (by omega)
  | orL x y hn hx hy hm =>
    intro s hs
    rcases List.mem_cons.1 hs with rfl | hs
    · exact rgt_put hd (by omega) (by omega) hqd
    · obtain rfl := List.mem_singleton.1 hs
      exact rgt_put hd (by omega) (by omega) hqd
  | orR1 x y hn hx hy hg =>
    intro s hs
    obtain rfl := List.mem_singleton.1 hs
    exact rgt_goal hq' (by omega) (by omega)
  | orR2 x y hn hx hy hg =>
    intro s hs
    obtain rfl := List.mem_singleton.1 hs
    exact rgt_goal hq' (by omega) (by omega)
  | impI x y c d hn hx hy hm hn2 hc hdd f1 t1 e1 l1 n1 =>
    intro s hs
    rcases List.mem_cons.1 hs with rfl | hs
    · exact rgt_goal (rgt_put hd (by omega) (by omega) hqd) (by omega) (by omega)
    · obtain rfl := List.mem_singleton.1 hs
      exact rgt_put hd (by omega) (by omega) hqd
end
end Go.Proofs.YtkejippimkjjaaaGreatDoor
