/-
  The document's call Print; and the law's call Tables. For every table and number, every row that a machine can hold. No other condition.
-/
import Derived.Test.YtkmmlimekachbaaGreatDoorPRM
import Derived.Test.YtkmmlimekachbaaGreatDoorSPQ
import Derived.Test.YtkmmlimekachbaaGreatDoorRG1
import Derived.Test.YtkmmlimekachbaaGreatDoorQPrJ
import Derived.Test.YtkmmlimekachbaaGreatDoorQG5
import Derived.Test.YtkmmlimekachbaaGreatDoorQG6
import Derived.Test.YtkmmlimekachbaaGreatDoorQHG
namespace Go.Proofs.YtkmmlimekachbaaGreatDoor
open Go.RowKit Go.Maps
open Fm (Nd)

set_option maxRecDepth 100000 in
set_option maxHeartbeats 2000000 in
theorem rprint_any (w : World) {c : Nat} {u : Value} {t : List Nd} (h : Tr w c u t) (i : Int) :
    Calls Tryz.prog 63 #[.pointer (some ⟨c, 0, none⟩), .int .i64 i] w fun e w' => e = .returned (.tuple #[.string ⟨(printR t i).1.toArray⟩, .int .i64 (printR t i).2]) ∧ Below w.heap.size w w' := by
  have KH := show Hid (Calls Tryz.prog 31 #[.pointer (some ⟨c, 0, none⟩), .int .i64 i] w fun e w' => e = .returned (.bool (Fm.has t i)) ∧ w' = w) from rhas_any w h i
  by_cases hi : Fm.has t i = true
  · have h0 := Fm.has_iff.1 hi
    obtain ⟨k, rfl⟩ : ∃ k : Nat, i = k := ⟨i.toNat, by omega⟩
    have hk : k < t.length := by omega
    have hki : (k : Int) < (t.length : Int) := by omega
    have h1024 : t.length ≤ 1024 := h.ok.len
    have HPR := show Hid (printR t (k : Int) = if (Pr.text t (k : Int)).length ≤ 65536 then (Pr.text t (k : Int), 0) else ([], 11)) from by show printR t (k : Int) = _; unfold printR; rw [if_pos hi]
    have HWD := show Hid (Pr.wd t (k : Int) = min (Pr.text t (k : Int)).length 65537) from rfl
    have KW := show Hid (Calls Tryz.prog 62 #[.pointer (some ⟨c, 0, none⟩)] w fun e w' => ∃ f : Nat → Nat, e = .returned (.slice (some ⟨w.heap.size, 0, none⟩) t.length t.length) ∧ f k = Pr.wd t (k : Int) ∧ Wz w w' c t.length u t f) from (rwidths_any w h (by omega)).mono fun e w' ⟨f, h1, h2, h3⟩ => ⟨f, h1, h2 k hk, h3⟩
    have KT := show Hid (∀ w', Tr w' c u t → (Pr.text t (k : Int)).length ≤ 65536 → Calls Tryz.prog 123 #[.pointer (some ⟨c, 0, none⟩), .int .i64 (k : Int)] w' fun e w'' => e = .returned (.string ⟨(Pr.text t (k : Int)).toArray⟩) ∧ Below w'.heap.size w' w'') from fun w' hT hl => rtext_any (k + 1) w' hT k hi (by simp) hl
    rw [hi] at KH
    generalize printR t (k : Int) = pr at *
    generalize Pr.wd t (k : Int) = wn at *
    generalize Pr.text t (k : Int) = tx at *
    clear h h0 hi
    go_enter Tryz.func63, Tryz.ntmps63
    go_wp2_with fail
    refine KH.out.mono ?_
    rintro e w1 ⟨rfl, hw⟩
    subst w1
    go_wp2_with fail
    refine KW.out.mono ?_
    rintro e w2 ⟨f, rfl, hf, hz⟩
    have Z := show Hid (Wz w w2 c t.length u t f) from hz
    have cg := hz.a.cell hk
    rw [hf] at cg
    clear hz hf KW KH
    by_cases hl : tx.length ≤ 65536
    · have hpr := HPR.out
      rw [if_pos hl] at hpr
      subst hpr
      have hwn : ¬ 65536 < (wn : Int) := by have := HWD.out; omega
      go_wp2_with fail
      refine (KT.out _ Z.out.tr hl).mono ?_
      rintro e w3 ⟨rfl, hb3⟩
      have HB3 := show Hid (Below w.heap.size w w3) from Z.out.be.trans (hb3.mono Z.out.be.size)
      clear hb3 KT Z cg
      go_wp2_with fail
      go_ret2
      exact ⟨rfl, HB3.out⟩
    · have hpr := HPR.out
      rw [if_neg hl] at hpr
      subst hpr
      have hwn : 65536 < (wn : Int) := by have := HWD.out; omega
      go_wp2_with fail
      go_ret2
      exact ⟨rfl, Z.out.be⟩
  · have hpr : printR t i = ([], 31) := by unfold printR; rw [if_neg hi]
    rw [hpr]
    rw [show Fm.has t i = false from by simpa using hi] at KH
    clear h hi hpr
    go_enter Tryz.func63, Tryz.ntmps63
    go_wp2_with fail
    refine KH.out.mono ?_
    rintro e w1 ⟨rfl, hw⟩
    subst w1
    go_wp2_with fail
    go_ret2
    exact ⟨rfl, Below.refl _ _⟩
end Go.Proofs.YtkmmlimekachbaaGreatDoor
/-
  The text of a sequent: what the program writes step by step, told at once; the document's widths. No condition.
-/
namespace Go.Proofs.YtkmmlimekachbaaGreatDoor
open Go.RowKit Go.Maps
open Fm (Nd)
open Bt.Bs (Ok)

theorem text_pos {t : List Nd} (hT : Fm.Ok t) {i : Int} (hi : Fm.has t i = true) : 0 < (Pr.text t i).length := by
  rw [Rp.text_r hT hi]
  have hs : ∀ k, 0 < (Pr.sign k).data.toList.length := fun k => by
    unfold Pr.sign
    repeat' split
    all_goals decide
  split
  · rename_i h1
    obtain ⟨k, rfl, hk, hn⟩ := Pr.node_at hi
    rw [hn] at h1 ⊢
    have hc := hT.chk k hk
    unfold Fm.check at hc
    rw [if_pos h1] at hc
    cases hl : t[k].s.data.toList with
    | cons a l => simp
    | nil =>
      rw [hl] at hc
      simp [Fm.word] at hc
      split at hc <;> omega
  · split
    · simp
    · split
      · simp
      · split
        · simp
        · have := hs (nodeOf t i).k
          rw [List.length_append, List.length_append]
          omega
def smF (t : List Nd) (l : List Nat) (n : Nat) : Nat := l.foldl (fun (n i : Nat) => n + Pr.wd t (i : Int) + 2) n
theorem smF_snoc (t : List Nd) (l : List Nat) (i n : Nat) : smF t (l ++ [i]) n = smF t l n + Pr.wd t (i : Int) + 2 := by simp [smF]
theorem smF_le (t : List Nd) : ∀ (l : List Nat) (n : Nat), smF t l n ≤ n + l.length * 65539 ∧ n ≤ smF t l n
  | [], n => ⟨by simp [smF], Nat.le_refl _⟩
  | i :: l, n => by
    have h := smF_le t l (n + Pr.wd t (i : Int) + 2)
    have hw : Pr.wd t (i : Int) ≤ 65537 := by unfold Pr.wd; omega
    have e : smF t (i :: l) n = smF t l (n + Pr.wd t (i : Int) + 2) := rfl
    rw [e, List.length_cons]
    omega
def lnF (t : List Nd) (l : List Nat) (n : Nat) : Nat := l.foldl (fun (n i : Nat) => n + (Pr.text t (i : Int)).length + 2) n
theorem lnF_add (t : List Nd) : ∀ (l : List Nat) (n m : Nat), lnF t l (n + m) = lnF t l n + m
  | [], _, _ => rfl
  | i :: l, n, m => by
    show lnF t l (n + m + (Pr.text t (i : Int)).length + 2) = lnF t l (n + (Pr.text t (i : Int)).length + 2) + m
    rw [← lnF_add t l (n + (Pr.text t (i : Int)).length + 2) m]
    congr 1
    omega
theorem jn_len (t : List Nd) : ∀ (l : List Nat) (s : List UInt8), 0 < s.length → (l.foldl (jnS t) s).length + 2 = lnF t l (s.length + 2)
  | [], _, _ => rfl
  | i :: l, s, hs => by
    have e : (jnS t s i).length = s.length + 2 + (Pr.text t (i : Int)).length := by
      unfold jnS
      rw [if_pos hs]
      simp
      omega
    rw [List.foldl_cons, jn_len t l (jnS t s i) (by omega), e]
    rfl
theorem jnF_len {t : List Nd} (hT : Fm.Ok t) {i : Nat} {l : List Nat} (hi : Fm.has t (i : Int) = true) : (jnF t (i :: l)).length + 2 = lnF t (i :: l) 0 ∧ 0 < (jnF t (i :: l)).length := by
  have hp := text_pos hT hi
  have e : jnS t [] i = Pr.text t (i : Int) := rfl
  have h : jnF t (i :: l) = l.foldl (jnS t) (Pr.text t (i : Int)) := by rw [jnF, List.foldl_cons, e]
  rw [h]
  refine ⟨?_, Nat.lt_of_lt_of_le hp (jn_grow t l _)⟩
  rw [jn_len t l _ hp]
  show lnF t l _ = lnF t l (0 + _ + 2)
  rw [Nat.zero_add]
theorem smF_lnF (t : List Nd) : ∀ (l : List Nat) (n m : Nat), n ≤ m → smF t l n ≤ lnF t l m
  | [], _, _, h => h
  | i :: l, n, m, h => by
    have hw : Pr.wd t (i : Int) ≤ (Pr.text t (i : Int)).length := by unfold Pr.wd; omega
    exact smF_lnF t l (n + Pr.wd t (i : Int) + 2) (m + (Pr.text t (i : Int)).length + 2) (by omega)
theorem smF_eq (t : List Nd) : ∀ (l : List Nat) (n : Nat), smF t l n ≤ 65538 → lnF t l n = smF t l n
  | [], _, _ => rfl
  | i :: l, n, h => by
    have h1 : smF t l (n + Pr.wd t (i : Int) + 2) ≤ 65538 := h
    have h2 := (smF_le t l (n + Pr.wd t (i : Int) + 2)).2
    have hw : Pr.wd t (i : Int) = (Pr.text t (i : Int)).length := by unfold Pr.wd at h2 h1 ⊢; omega
    have h3 := smF_eq t l (n + Pr.wd t (i : Int) + 2) h1
    show lnF t l (n + (Pr.text t (i : Int)).length + 2) = smF t l (n + Pr.wd t (i : Int) + 2)
    rw [← h3, hw]
theorem sum_tells {t : List Nd} (hT : Fm.Ok t) {l : List Nat} (hl : ∀ i ∈ l, Fm.has t (i : Int) = true) (g : Int) :
    (smF t l (3 + Pr.wd t g) - (if l.length = 0 then 0 else 1) ≤ 65536 ↔ (ahQ (jnF t l) ++ Pr.text t g).length ≤ 65536) := by
  have hL : (ahQ (jnF t l) ++ Pr.text t g).length = lnF t l (3 + (Pr.text t g).length) - (if l.length = 0 then 0 else 1) := by
    rw [List.length_append]
    cases l with
    | nil => rfl
    | cons i l =>
      obtain ⟨h1, h2⟩ := jnF_len (l := l) hT (hl i (by simp))
      have h3 := lnF_add t (i :: l) 0 (3 + (Pr.text t g).length)
      rw [Nat.zero_add] at h3
      rw [h3, if_neg (by simp)]
      unfold ahQ
      rw [if_pos h2]
      simp
      omega
  rw [hL]
  have hw : Pr.wd t g ≤ (Pr.text t g).length := by unfold Pr.wd; omega
  have h1 := smF_lnF t l (3 + Pr.wd t g) (3 + (Pr.text t g).length) (by omega)
  constructor
  · intro h
    have h2 : smF t l (3 + Pr.wd t g) ≤ 65538 := by split at h <;> omega
    have h3 := smF_eq t l _ h2
    have h4 := (smF_le t l (3 + Pr.wd t g)).2
    have h5 : Pr.wd t g = (Pr.text t g).length := by unfold Pr.wd at h4 h2 ⊢; omega
    rw [← h5, h3]
    exact h
  · intro h
    split at h <;> rename_i h0 <;> simp only [h0, if_true, if_false] at * <;> omega
end Go.Proofs.YtkmmlimekachbaaGreatDoor
/-
  The document's Print answers what the program's answers. No condition.
-/
namespace Go.Proofs.YtkmmlimekachbaaGreatDoor
open Go.RowKit Go.Maps
open Fm (Nd)
open Bt.Bs (Ok)

theorem jnF_take (t : List Nd) (l : List Nat) (k : Nat) : (jnF t (l.take k)).length ≤ (jnF t l).length := by
  conv => rhs; rw [← List.take_append_drop k l, jnF, List.foldl_append]
  exact jn_grow t _ _
theorem jnF_at (t : List Nd) (l : List Nat) {k : Nat} (hk : k < l.length) : (Pr.text t (l[k] : Nat)).length ≤ (jnF t l).length := by
  have h := jnF_take t l (k + 1)
  rw [List.take_add_one, List.getElem?_eq_getElem hk] at h
  simp only [Option.toList] at h
  rw [jnF_snoc] at h
  exact Nat.le_trans (jnS_len t _ _).2 h
theorem jnF_next (t : List Nd) (l : List Nat) {k : Nat} (hk : k < l.length) : jnF t (l.take (k + 1)) = jnS t (jnF t (l.take k)) l[k] := by
  rw [List.take_add_one, List.getElem?_eq_getElem hk]
  exact jnF_snoc t _ _
theorem smF_next (t : List Nd) (l : List Nat) {k : Nat} (hk : k < l.length) (n : Nat) : smF t (l.take (k + 1)) n = smF t (l.take k) n + Pr.wd t (l[k] : Nat) + 2 := by
  rw [List.take_add_one, List.getElem?_eq_getElem hk]
  exact smF_snoc t _ _ n
theorem jnF_pos {t : List Nd} (hT : Fm.Ok t) {l : List Nat} (hl : ∀ i ∈ l, Fm.has t (i : Int) = true) {k : Nat} (hk : 0 < k) (hkl : k ≤ l.length) : 0 < (jnF t (l.take k)).length := by
  cases l with
  | nil => simp at hkl; omega
  | cons a l =>
    obtain ⟨j, rfl⟩ : ∃ j, k = j + 1 := ⟨k - 1, by omega⟩
    rw [List.take_succ_cons]
    exact (jnF_len hT (hl a (by simp))).2
theorem right_has {t : List Nd} {r : List Nat} {g : Int} (h : rightQ t r g = true) : (∀ i ∈ Bt.Bs.nums r, Fm.has t (i : Int) = true) ∧ Fm.has t g = true := by
  unfold rightQ at h
  rw [Bool.and_eq_true, List.all_eq_true] at h
  exact ⟨fun i hi => h.1 _ (List.mem_map.2 ⟨i, hi, rfl⟩), h.2⟩
structure PrQ (w W : World) (c : Nat) (u : Value) (t : List Nd) (r : List Nat) (g : Int) (z : Nat) (p : Option Addr) (l : List Nat) : Prop where
  tr : Tr W c u t
  sq : SeqAt W w.heap.size r g
  wd : ∀ j : Nat, j < t.length → W.cell? ⟨z, j, none⟩ = some (.int .i64 ((Pr.wd t (j : Int) : Nat) : Int))
  ls : ∀ k (hk : k < l.length), ∃ b, p = some ⟨b, 0, none⟩ ∧ W.cell? ⟨b, k, none⟩ = some (.int .i64 ((l[k] : Nat) : Int))
  be : Below w.heap.size w W
theorem PrQ.later {w W W2 : World} {c z : Nat} {u : Value} {t : List Nd} {r : List Nat} {g : Int} {p : Option Addr} {l : List Nat} (h : PrQ w W c u t r g z p l) (hb : Below W.heap.size W W2) : PrQ w W2 c u t r g z p l :=
  ⟨h.tr.later hb, h.sq.later hb h.sq.lt, fun j hj => cell_later hb (h.wd j hj), fun k hk => by
    obtain ⟨b, hp, hc⟩ := h.ls k hk
    exact ⟨b, hp, cell_later hb hc⟩, h.be.trans (hb.mono h.be.size)⟩
set_option maxRecDepth 100000 in
set_option maxHeartbeats 2000000 in
theorem rqprint_any (w : World) {c : Nat} {u : Value} {t : List Nd} (hT : Tr w c u t) {r : List Nat} (hr : Ok r) (g : Int) :
    Calls Tryz.prog 23 #[.pointer (some ⟨c, 0, none⟩), .agg (cellsQ r g)] w fun e w' => e = .returned (.tuple #[.string ⟨(printQ t r g).1.toArray⟩, .int .i64 (printQ t r g).2]) ∧ Below w.heap.size w w' := by
  have hl := hr.1
  have hnl : (Bt.Bs.nums r).length ≤ 1024 := Bt.Bs.nums_len_le r
  have KR := show Hid (∀ w', Below w.heap.size w w' → Calls Tryz.prog 16 #[.pointer (some ⟨c, 0, none⟩), .agg (cellsQ r g)] w' fun e w'' => e = .returned (.bool (rightQ t r g)) ∧ Below w'.heap.size w' w'') from fun w' hb => rright_any w' (hT.later hb) hr g
  have KL := show Hid (∀ w', Calls Tryz.prog 32 #[.agg (Bt.cellsB r)] w' fun e w'' => ∃ p cc, e = .returned (.slice p (Bt.Bs.nums r).length cc) ∧ (∀ k (hk : k < (Bt.Bs.nums r).length), ∃ b, p = some ⟨b, 0, none⟩ ∧ w''.cell? ⟨b, k, none⟩ = some (.int .i64 (((Bt.Bs.nums r)[k] : Nat) : Int))) ∧ Below w'.heap.size w' w'') from fun w' => (Bt.rlist_any w' hr).mono fun e w'' ⟨v, he, ho, hb⟩ => by
    obtain ⟨p, cc, hv, hcell⟩ := own_ints ho
    refine ⟨p, cc, by rw [he, hv], fun k hk => ?_, hb⟩
    obtain ⟨b, cur, hp, hB, hh, hc⟩ := hcell k hk
    refine ⟨b, hp, ?_⟩
    rw [cell_of_row w'' b k _ _ _ hh]
    exact hc
  have KW := show Hid (∀ w', Below w.heap.size w w' → 0 < t.length → Calls Tryz.prog 62 #[.pointer (some ⟨c, 0, none⟩)] w' fun e w'' => e = .returned (.slice (some ⟨w'.heap.size, 0, none⟩) t.length t.length) ∧ (∀ j : Nat, j < t.length → w''.cell? ⟨w'.heap.size, j, none⟩ = some (.int .i64 ((Pr.wd t (j : Int) : Nat) : Int))) ∧ Below w'.heap.size w' w'') from fun w' hb hp => (rwidths_any w' (hT.later hb) hp).mono fun e w'' ⟨f, h1, h2, h3⟩ => ⟨h1, fun j hj => by rw [← h2 j hj]; exact h3.a.cell hj, h3.be⟩
  have KP := show Hid (∀ w' i, Below w.heap.size w w' → Fm.has t i = true → (Pr.text t i).length ≤ 65536 → Calls Tryz.prog 63 #[.pointer (some ⟨c, 0, none⟩), .int .i64 i] w' fun e w'' => e = .returned (.tuple #[.string ⟨(Pr.text t i).toArray⟩, .int .i64 0]) ∧ Below w'.heap.size w' w'') from fun w' i hb hi hl => by
    have h := rprint_any w' (hT.later hb) i
    unfold printR at h
    rw [if_pos hi, if_pos hl] at h
    exact h
  have HF := show Hid (rightQ t r g = false → printQ t r g = ([], 31)) from fun h => print_not h
  have HG := show Hid (rightQ t r g = true → printQ t r g = if (ahQ (jnF t (Bt.Bs.nums r)) ++ Pr.text t g).length ≤ 65536 then (ahQ (jnF t (Bt.Bs.nums r)) ++ Pr.text t g, 0) else ([], 11)) from fun h => print_once h
  have HS := show Hid (rightQ t r g = true → (smF t (Bt.Bs.nums r) (3 + Pr.wd t g) - (if (Bt.Bs.nums r).length = 0 then 0 else 1) ≤ 65536 ↔ (ahQ (jnF t (Bt.Bs.nums r)) ++ Pr.text t g).length ≤ 65536)) from fun h => sum_tells hT.ok (right_has h).1 g
  have HH := show Hid (rightQ t r g = true → (∀ i ∈ Bt.Bs.nums r, Fm.has t (i : Int) = true) ∧ Fm.has t g = true) from fun h => right_has h
  have HC := show Hid (CK w (w.alloc (.cells (cellsQ r g) 27)) r g) from ⟨seq_new w r g, below_alloc w _⟩
  have HT := show Hid (Tr w c u t) from hT
  have hlen := hT.ok.len
  clear hT hr
  generalize rightQ t r g = rq at *
  generalize printQ t r g = pq at *
  generalize Bt.Bs.nums r = l at *
  go_enter Tryz.func23, Tryz.ntmps23
  go_wp2_with (refine wpList_ldQQ _ _ rfl _ rfl HC.out.seq hl rfl ?_)
  refine (KR.out _ HC.out.bel).mono ?_
  rintro e w0 ⟨rfl, hb0⟩
  have H0 := show Hid (CK w w0 r g) from HC.out.later hb0
  clear HC KR hb0
  cases rq
  · have hq := HF.out rfl
    subst hq
    clear HF HG HS HH KL KW KP
    go_wp2_with fail
    go_ret2
    exact ⟨rfl, H0.out.bel⟩
  · have hq := HG.out rfl
    have hs := HS.out rfl
    obtain ⟨hh, hgh⟩ := HH.out rfl
    have hg0 := Fm.has_iff.1 hgh
    obtain ⟨gn, rfl⟩ : ∃ gn : Nat, g = gn := ⟨g.toNat, by omega⟩
    have hgn : gn < t.length := by omega
    have hgi : (gn : Int) < (t.length : Int) := by omega
    have HQ := show Hid _ from hq
    have HS2 := show Hid _ from hs
    have HH2 := show Hid (∀ i ∈ l, Fm.has t (i : Int) = true) from hh
    have HGH := show Hid (Fm.has t (gn : Int) = true) from hgh
    clear hq hs hh hgh hg0 HF HG HS HH
    go_wp2_with fail
    refine (KW.out _ H0.out.bel (by omega)).mono ?_
    rintro e w1 ⟨rfl, hw1, hb1⟩
    have H1 := show Hid (CK w w1 r (gn : Int) ∧ ∀ j : Nat, j < t.length → w1.cell? ⟨w0.heap.size, j, none⟩ = some (.int .i64 ((Pr.wd t (j : Int) : Nat) : Int))) from ⟨H0.out.later hb1, hw1⟩
    clear KW hw1 hb1 H0
    generalize w0.heap.size = z at *
    go_wp2_with (refine wpList_ldQ _ _ rfl _ rfl H1.out.1.seq hl rfl ?_)
    refine (KL.out _).mono ?_
    rintro e w2 ⟨p, cc, rfl, hcell, hb2⟩
    have X := show Hid (PrQ w w2 c u t r (gn : Int) z p l) from ⟨HT.out.later (H1.out.1.later hb2).bel, (H1.out.1.later hb2).seq, fun j hj => cell_later hb2 (H1.out.2 j hj), hcell, (H1.out.1.later hb2).bel⟩
    clear KL hcell hb2 H1
    have cg := X.out.sq.goal hl
    have cw := X.out.wd gn hgn
    have hwg : Pr.wd t (gn : Int) ≤ 65537 := by unfold Pr.wd; omega
    have HN0 := show Hid (∀ k, smF t (l.take k) (3 + Pr.wd t (gn : Int)) ≤ 67300000) from fun k => by
      have h1 := (smF_le t (l.take k) (3 + Pr.wd t (gn : Int))).1
      have h2 : (l.take k).length ≤ 1024 := by rw [List.length_take]; omega
      have := Nat.mul_le_mul_right 65539 h2
      omega
    have HW := show Hid (∀ i : Nat, Pr.wd t (i : Int) ≤ 65537) from fun i => by unfold Pr.wd; omega
    generalize hwgE : Pr.wd t (gn : Int) = wg at *
    have HWE := show Hid _ from hwgE
    clear hwgE
    go_wp2_with fail
    go_loopw [8, 9] (fun nv iv wr => ∃ (k n : Nat), k ≤ l.length ∧ n ≤ 67300000 ∧ iv = .int .i64 (k : Int) ∧ nv = .int .i64 (n : Int) ∧ wr = w2 ∧ Hid (n = smF t (l.take k) (3 + wg))) (fun _ iv _ => l.length - (intOf iv).toNat)
    case atStart => exact ⟨0, 3 + wg, by omega, by omega, rfl, by simp, rfl, rfl⟩
    case round =>
      obtain ⟨k, n, hk, hn, rfl, rfl, hwr, HI⟩ := hrel
      subst wr
      clear cw
      by_cases hlt : k < l.length
      · have hki : (k : Int) < (l.length : Int) := by omega
        obtain ⟨lb, hp, hc⟩ := X.out.ls k hlt
        subst hp
        have hx := Fm.has_iff.1 (HH2.out _ (List.getElem_mem hlt))
        have hxl : l[k] < t.length := by omega
        have hc2 := X.out.wd l[k] hxl
        have hwx := HW.out l[k]
        have HI2 := show Hid (n + Pr.wd t (l[k] : Nat) + 2 = smF t (l.take (k + 1)) (3 + wg)) from by
          have := smF_next t l hlt (3 + wg)
          rw [← HI.out] at this
          exact this.symm
        have hn2 := HN0.out (k + 1)
        rw [← HI2.out] at hn2
        generalize Pr.wd t ((l[k] : Nat) : Int) = wx at *
        generalize l[k] = x at *
        have hxi : (x : Int) < (t.length : Int) := by omega
        clear hx
        go_wp2_with fail
        go_roundw
        case rel => exact ⟨k + 1, n + wx + 2, by omega, by omega, by go_num, by simp, by simp, HI2⟩
        case measure => first | (simp [intOf]; done) | (simp [intOf]; omega)
      · have hki : ¬ (k : Int) < (l.length : Int) := by omega
        have hke : k = l.length := by omega
        have HI2 := show Hid (n = smF t l (3 + wg)) from by have := HI.out; rw [hke, List.take_length] at this; exact this
        clear hke
        by_cases h0 : l.length = 0
        · have hli : ¬ (0 : Int) < (l.length : Int) := by omega
          have hs2 := HS2.out
          rw [if_pos h0, ← HI2.out, Nat.sub_zero] at hs2
          have hq := HQ.out
          by_cases hbig : n ≤ 65536
          · rw [if_pos (hs2.1 hbig)] at hq
            have htot := hs2.1 hbig
            rw [List.length_append] at htot
            have hah : (jnF t l).length ≤ (ahQ (jnF t l)).length := by unfold ahQ; split <;> simp <;> omega
            have HJ := show Hid (∀ k, (jnF t (l.take k)).length ≤ 65536) from fun k => Nat.le_trans (jnF_take t l k) (by omega)
            have HA := show Hid (∀ k (hk : k < l.length), (Pr.text t (l[k] : Nat)).length ≤ 65536) from fun k hk => Nat.le_trans (jnF_at t l hk) (by omega)
            have HGT := show Hid ((Pr.text t (gn : Int)).length ≤ 65536 ∧ (jnF t l).length ≤ 65536) from ⟨by omega, by omega⟩
            have HPQ := show Hid (pq = (ahQ (jnF t l) ++ Pr.text t (gn : Int), 0)) from hq
            clear hq hs2 htot hah HS2 HQ
            have hbi : ¬ 65536 < (n : Int) := by omega
            go_wp2_with fail
            go_loopw [10, 11] (fun ov iv wr => ∃ (k : Nat) (x : List UInt8), k ≤ l.length ∧ x.length ≤ 65536 ∧ iv = .int .i64 (k : Int) ∧ ov = .string ⟨x.toArray⟩ ∧ Hid (x = jnF t (l.take k) ∧ PrQ w wr c u t r (gn : Int) z p l)) (fun _ iv _ => l.length - (intOf iv).toNat)
            case atStart => exact ⟨0, [], by omega, by simp, rfl, rfl, (by first | rfl | trivial), X.out⟩
            case round =>
              obtain ⟨k, x, hk, hx, rfl, rfl, HX⟩ := hrel
              clear X
              by_cases hlt : k < l.length
              · omega
              · have hki : ¬ (k : Int) < (l.length : Int) := by omega
                have hke : k = l.length := by omega
                have HX2 := show Hid (x = jnF t l ∧ PrQ w wr c u t r (gn : Int) z p l) from by have := HX.out; rw [hke, List.take_length] at this; exact this
                have HAH := show Hid (ahQ x = x ++ [124, 45, 32]) from by
                  have hx0 : x = [] := by rw [HX2.out.1, List.length_eq_zero_iff.1 h0]; rfl
                  rw [hx0]; rfl
                have KX := show Hid _ from KP.out wr (gn : Int) HX2.out.2.be HGH.out HGT.out.1
                have cg := HX2.out.2.sq.goal hl
                have htg := HGT.out.1
                have HPQ2 := show Hid (pq = (ahQ x ++ Pr.text t (gn : Int), 0)) from by rw [HX2.out.1]; exact HPQ.out
                generalize Pr.text t (gn : Int) = tx at *
                clear HX hke HJ HA HPQ KP
                go_wp2_with fail
                refine Calls.mono KX.out ?_
                rintro e w3 ⟨rfl, hb3⟩
                have HB3 := show Hid (Below w.heap.size w w3) from (HX2.out.2.later hb3).be
                clear hb3 KX cg
                go_wp2_with fail
                go_ret2
                exact ⟨by rw [HPQ2.out, HAH.out]; exact congrArg (fun x => Ending.returned (.tuple #[.string x, .int .i64 0])) ((congrArg (· ++ (⟨tx.toArray⟩ : ByteArray)) (add_bytes x [124, 45, 32])).trans (add_bytes (x ++ [124, 45, 32]) tx)), HB3.out⟩
          · rw [if_neg (fun h => hbig (hs2.2 h))] at hq
            subst hq
            have hbi : 65536 < (n : Int) := by omega
            clear hs2 HS2 HQ
            go_wp2_with fail
            go_ret2
            exact ⟨rfl, X.out.be⟩
        · have hli : (0 : Int) < (l.length : Int) := by omega
          have hs2 := HS2.out
          rw [if_neg h0, ← HI2.out] at hs2
          have hq := HQ.out
          have hn1 : 1 ≤ n := by have h1 := (smF_le t l (3 + wg)).2; rw [← HI2.out] at h1; omega
          by_cases hbig : n - 1 ≤ 65536
          · rw [if_pos (hs2.1 hbig)] at hq
            have htot := hs2.1 hbig
            rw [List.length_append] at htot
            have hah : (jnF t l).length ≤ (ahQ (jnF t l)).length := by unfold ahQ; split <;> simp <;> omega
            have HJ := show Hid (∀ k, (jnF t (l.take k)).length ≤ 65536) from fun k => Nat.le_trans (jnF_take t l k) (by omega)
            have HA := show Hid (∀ k (hk : k < l.length), (Pr.text t (l[k] : Nat)).length ≤ 65536) from fun k hk => Nat.le_trans (jnF_at t l hk) (by omega)
            have HGT := show Hid ((Pr.text t (gn : Int)).length ≤ 65536 ∧ (jnF t l).length ≤ 65536) from ⟨by omega, by omega⟩
            have HPQ := show Hid (pq = (ahQ (jnF t l) ++ Pr.text t (gn : Int), 0)) from hq
            clear hq hs2 htot hah HS2 HQ
            have hbi : ¬ 65536 < (n : Int) - 1 := by omega
            go_wp2_with fail
            go_loopw [10, 11] (fun ov iv wr => ∃ (k : Nat) (x : List UInt8), k ≤ l.length ∧ x.length ≤ 65536 ∧ iv = .int .i64 (k : Int) ∧ ov = .string ⟨x.toArray⟩ ∧ Hid (x = jnF t (l.take k) ∧ PrQ w wr c u t r (gn : Int) z p l)) (fun _ iv _ => l.length - (intOf iv).toNat)
            case atStart => exact ⟨0, [], by omega, by simp, rfl, rfl, (by first | rfl | trivial), X.out⟩
            case round =>
              obtain ⟨k, x, hk, hx, rfl, rfl, HX⟩ := hrel
              clear X
              by_cases hlt : k < l.length
              · have hki : (k : Int) < (l.length : Int) := by omega
                obtain ⟨lb, hp, hc⟩ := HX.out.2.ls k hlt
                subst hp
                have KX := show Hid _ from KP.out wr (l[k] : Nat) HX.out.2.be (HH2.out _ (List.getElem_mem hlt)) (HA.out k hlt)
                have hta := HA.out k hlt
                have HN := show Hid (jnF t (l.take (k + 1)) = (if 0 < x.length then x ++ [44, 32] else x) ++ Pr.text t ((l[k] : Nat) : Int)) from by
                  show jnF t (l.take (k + 1)) = _
                  rw [jnF_next t l hlt, ← HX.out.1]
                  rfl
                have HJ1 := show Hid ((jnF t (l.take (k + 1))).length ≤ 65536) from HJ.out (k + 1)
                have HP1 := show Hid (0 < k → 0 < x.length) from fun h => by rw [HX.out.1]; exact jnF_pos HT.out.ok HH2.out h (by omega)
                have HP0 := show Hid (k = 0 → x = []) from fun h => by rw [HX.out.1, h]; rfl
                generalize Pr.text t ((l[k] : Nat) : Int) = tx at *
                generalize ((l[k] : Nat) : Int) = y at *
                go_wp2_with fail
                refine Calls.mono KX.out ?_
                rintro e w3 ⟨rfl, hb3⟩
                have X3 := show Hid (PrQ w w3 c u t r (gn : Int) z (some ⟨lb, 0, none⟩) l) from HX.out.2.later hb3
                clear hb3 KX hc
                by_cases hk0 : k = 0
                · have hx0 := HP0.out hk0
                  subst hx0
                  subst hk0
                  have hn2 : tx = jnF t (l.take (0 + 1)) := by rw [HN.out]; simp
                  have HN2 := show Hid (tx = jnF t (l.take (0 + 1))) from hn2
                  clear hn2
                  clear HN HJ1 HP1 HP0 HX
                  go_wp2_with fail
                  go_roundw
                  case rel => exact ⟨0 + 1, tx, by omega, hta, by first | rfl | go_num, by first | rfl | (simp [ByteArray.append]; rfl) | exact congrArg Value.string (add_bytes [] tx), HN2.out, X3.out⟩
                  case measure => first | (simp [intOf]; done) | (simp [intOf]; omega)
                · have hkp : (0 : Int) < (k : Int) := by omega
                  have hn2 : (x ++ [44, 32]) ++ tx = jnF t (l.take (k + 1)) := by rw [HN.out, if_pos (HP1.out (by omega))]
                  have HN2 := show Hid ((x ++ [44, 32]) ++ tx = jnF t (l.take (k + 1))) from hn2
                  clear hn2
                  have hl3 : ((x ++ [44, 32]) ++ tx).length ≤ 65536 := by rw [HN2.out]; exact HJ1.out
                  clear HN HJ1 HP1 HP0 HX
                  go_wp2_with fail
                  go_roundw
                  case rel => exact ⟨k + 1, (x ++ [44, 32]) ++ tx, by omega, hl3, by go_num, congrArg Value.string ((congrArg (· ++ (⟨tx.toArray⟩ : ByteArray)) (add_bytes x [44, 32])).trans (add_bytes (x ++ [44, 32]) tx)), HN2.out, X3.out⟩
                  case measure => first | (simp [intOf]; done) | (simp [intOf]; omega)
              · have hki : ¬ (k : Int) < (l.length : Int) := by omega
                have hke : k = l.length := by omega
                have HX2 := show Hid (x = jnF t l ∧ PrQ w wr c u t r (gn : Int) z p l) from by have := HX.out; rw [hke, List.take_length] at this; exact this
                have HAH := show Hid (ahQ x = x ++ [32] ++ [124, 45, 32]) from by
                  have hp : 0 < x.length := by have := jnF_pos HT.out.ok HH2.out (k := l.length) (by omega) (Nat.le_refl _); rw [List.take_length] at this; rw [HX2.out.1]; exact this
                  show ahQ x = _
                  unfold ahQ; rw [if_pos hp]
                have KX := show Hid _ from KP.out wr (gn : Int) HX2.out.2.be HGH.out HGT.out.1
                have cg := HX2.out.2.sq.goal hl
                have htg := HGT.out.1
                have HPQ2 := show Hid (pq = (ahQ x ++ Pr.text t (gn : Int), 0)) from by rw [HX2.out.1]; exact HPQ.out
                generalize Pr.text t (gn : Int) = tx at *
                clear HX hke HJ HA HPQ KP
                go_wp2_with fail
                refine Calls.mono KX.out ?_
                rintro e w3 ⟨rfl, hb3⟩
                have HB3 := show Hid (Below w.heap.size w w3) from (HX2.out.2.later hb3).be
                clear hb3 KX cg
                go_wp2_with fail
                go_ret2
                exact ⟨by rw [HPQ2.out, HAH.out]; exact congrArg (fun x => Ending.returned (.tuple #[.string x, .int .i64 0])) ((congrArg (fun y => y ++ (⟨#[124, 45, 32]⟩ : ByteArray) ++ (⟨tx.toArray⟩ : ByteArray)) (add_bytes x [32])).trans ((congrArg (· ++ (⟨tx.toArray⟩ : ByteArray)) (add_bytes (x ++ [32]) [124, 45, 32])).trans (add_bytes (x ++ [32] ++ [124, 45, 32]) tx))), HB3.out⟩
          · rw [if_neg (fun h => hbig (hs2.2 h))] at hq
            subst hq
            have hbi : 65536 < (n : Int) - 1 := by omega
            clear hs2 HS2 HQ
            go_wp2_with fail
            go_ret2
            exact ⟨rfl, X.out.be⟩
end Go.Proofs.YtkmmlimekachbaaGreatDoor
/-
  The law SequentPrints, as the program walks it: true for every row of formulas and every sequent that a machine can hold. Where the tables stand as the program's text lays them.
-/
namespace Go.Proofs.YtkmmlimekachbaaGreatDoor
open Go.RowKit Go.Maps
open Fm (Nd)
open Bt.Bs (Ok)

set_option maxRecDepth 100000 in
set_option maxHeartbeats 4000000 in
theorem sequentPrints_any (w : World) (rv : Value) (rs : List Nd) (hR : IsR w rv rs) (hg : ∀ n ∈ rs, Fm.good n) (hl : rs.length * 40 ≤ 140737488351232) (hv : rv = .slice none 0 0 ∨ ∃ a n c, rv = .slice (some a) n c)
    (r : List Nat) (hr : Ok r) (gl : Int) (hL : Tw.Laid w) (hZ : Bt.Tz w) :
    Calls Tryz.prog 5 #[rv, .agg (cellsQ r gl)] w fun e w' => e = .returned (.bool true) ∧ Below w.heap.size w w' := by
  have hr16 := hr.1
  have KT := show Hid (∀ w', Below w.heap.size w w' → Calls Tryz.prog 9 #[rv] w' fun e w'' => ∃ B M v C u, e = .returned (.tuple #[.pointer (some ⟨B, 0, none⟩), .pointer (some ⟨C, 0, none⟩)]) ∧ Pair w' w'' B M v C u (tabOf rs) (tabOf rs)) from fun w' hb => tables_any w' rv rs (hR.later hb) hg hl hv
  have KH := show Hid (∀ w' : World, Below w.heap.size w w' → Calls Tryz.prog 19 #[] w' fun e w'' => e = .returned (.bool true) ∧ Below w'.heap.size w' w'') from fun w' hb => qheads_any w' (hL.later hb) (Bt.tz_block hZ hb)
  have KM := show Hid (∀ (w : World) (x : Int), Calls Tryz.prog 14 #[.int .i64 x] w fun e w' => e = .returned (.int .i64 x) ∧ w' = w) from qnum_any
  generalize tabOf rs = t at *
  have hsl : ∃ p n cc, rv = .slice p n cc := by
    rcases hv with rfl | ⟨a, n, cc, rfl⟩
    · exact ⟨_, _, _, rfl⟩
    · exact ⟨_, _, _, rfl⟩
  obtain ⟨p, n, cc, rfl⟩ := hsl
  have HZ := show Hid (Bt.Tz w) from hZ
  have HC := show Hid (SeqAt (w.alloc (.cells (cellsQ r gl) 27)) w.heap.size r gl ∧ Below w.heap.size w (w.alloc (.cells (cellsQ r gl) 27))) from ⟨seq_new w r gl, below_alloc w _⟩
  have HOK := show Hid (Ok r) from hr
  clear hR hg hl hv hL hZ hr
  go_enter Tryz.func5, Tryz.ntmps5
  go_wp2_with fail
  refine (KT.out _ HC.out.2).mono ?_
  rintro e w1 ⟨B, M, v, C, u, rfl, hP⟩
  have X1 := show Hid (LR w w1 w1 B M v C u t r gl) from ⟨hP.base HC.out.2, HC.out.1.later hP.bel HC.out.1.lt, Below.refl _ _⟩
  clear KT hP HC
  have K2 := show Hid (Calls Tryz.prog 22 #[.pointer (some ⟨B, 0, none⟩), .agg (cellsQ r gl)] w1 fun e w' => e = .returned (.tuple #[.string ⟨(printQ t r gl).1.toArray⟩, .int .i64 (printQ t r gl).2]) ∧ Below w1.heap.size w1 w') from qprint_any w1 X1.out.pr.tb (Bt.tz_block HZ.out X1.out.pr.bel) HOK.out gl
  have K3 := show Hid (∀ w', LR w w1 w' B M v C u t r gl → Calls Tryz.prog 23 #[.pointer (some ⟨C, 0, none⟩), .agg (cellsQ r gl)] w' fun e w'' => e = .returned (.tuple #[.string ⟨(printQ t r gl).1.toArray⟩, .int .i64 (printQ t r gl).2]) ∧ Below w'.heap.size w' w'') from fun w' h => rqprint_any w' h.pr.tr HOK.out gl
  generalize printQ t r gl = pq at *
  obtain ⟨tx, ec⟩ := pq
  simp only at K2 K3
  go_wp2_with (refine wpList_ldQQ _ _ rfl _ rfl X1.out.sq hr16 rfl ?_)
  refine K2.out.mono ?_
  rintro e w2 ⟨rfl, hb2⟩
  have X2 := show Hid (LR w w1 w2 B M v C u t r gl) from X1.out.later hb2
  clear hb2 K2 X1
  go_wp2_with (refine wpList_ldQQ _ _ rfl _ rfl X2.out.sq hr16 rfl ?_)
  refine (K3.out _ X2.out).mono ?_
  rintro e w3 ⟨rfl, hb3⟩
  have X3 := show Hid (LR w w1 w3 B M v C u t r gl) from X2.out.later hb3
  clear hb3 K3 X2
  have K4 := show Hid (Calls Tryz.prog 18 #[.pointer (some ⟨B, 0, none⟩), .pointer (some ⟨C, 0, none⟩)] w3 fun e w' => e = .returned (.bool true) ∧ Below w3.heap.size w3 w') from qsame_any w w3 X3.out.pr
  go_wp2_with (go_at_call 14; refine (KM.out _ _).mono ?_; rintro e w' ⟨rfl, rfl⟩)
  refine K4.out.mono ?_
  rintro e w4 ⟨rfl, hb4⟩
  have H4 := show Hid (Below w.heap.size w w4) from (X3.out.later hb4).pr.bel
  clear hb4 K4 X3
  go_wp2_with fail
  refine (KH.out _ H4.out).mono ?_
  rintro e w5 ⟨rfl, hb5⟩
  have H5 := show Hid (Below w.heap.size w w5) from H4.out.trans (hb5.mono H4.out.size)
  clear hb5
  go_wp2_with fail
  go_ret
  exact ⟨rfl, H5.out⟩
end Go.Proofs.YtkmmlimekachbaaGreatDoor
