/-
  What is printed of a well-formed model is read as the same model, by the program and by the document's loose reading (plain).
-/
import Derived.Test.YtjbnbaiidpdpoaaDoorWParse
import Derived.Test.YtjbnbaiidpdpoaaDoorWUnd
namespace Go.Proofs.YtjbnbaiidpdpoaaDoor.Wm
open Wd (Md)
set_option linter.unusedSimpArgs false
set_option linter.unusedVariables false


theorem dd_small {u : Nat} (h : u < 10) : Lib.decDigits u = [UInt8.ofNat (48 + u)] := by rw [Lib.decDigits, dif_pos h]
theorem dd_big {u : Nat} (h : ¬ u < 10) : Lib.decDigits u = Lib.decDigits (u / 10) ++ [UInt8.ofNat (48 + u % 10)] := by rw [Lib.decDigits, dif_neg h]
theorem nat8 (n : Nat) (h : n < 256) : (UInt8.ofNat n).toNat = n := by rw [UInt8.toNat_ofNat']; omega
def Dig (c : UInt8) : Prop := 48 ≤ c.toNat ∧ c.toNat ≤ 57
theorem dd_dig (u : Nat) : ∀ c ∈ Lib.decDigits u, Dig c := by
  induction u using Nat.strongRecOn with
  | _ u ih =>
    intro c hc
    by_cases h : u < 10
    · rw [dd_small h] at hc
      rw [List.mem_singleton.1 hc]
      unfold Dig
      rw [nat8 _ (by omega)]; omega
    · rw [dd_big h, List.mem_append] at hc
      rcases hc with hc | hc
      · exact ih (u / 10) (by omega) c hc
      · rw [List.mem_singleton.1 hc]
        unfold Dig
        rw [nat8 _ (by omega)]; omega
theorem dd_ne (u : Nat) : Lib.decDigits u ≠ [] := by
  by_cases h : u < 10
  · rw [dd_small h]; simp
  · rw [dd_big h]; simp
theorem dd_len : ∀ (k u : Nat), u < 10 ^ (k + 1) → (Lib.decDigits u).length ≤ k + 1
  | 0, u, h => by rw [dd_small (by omega)]; simp
  | k + 1, u, h => by
    by_cases hu : u < 10
    · rw [dd_small hu]; simp
    · rw [dd_big hu, List.length_append]
      have := dd_len k (u / 10) (by rw [Nat.pow_succ] at h; exact Nat.div_lt_of_lt_mul (by omega))
      simp; omega
theorem dd_lead (u : Nat) (h0 : 0 < u) : ((Lib.decDigits u).getD 0 0).toNat ≠ 48 := by
  induction u using Nat.strongRecOn with
  | _ u ih =>
    by_cases h : u < 10
    · rw [dd_small h]
      simp only [List.getD_cons_zero]
      rw [nat8 _ (by omega)]; omega
    · rw [dd_big h]
      have := ih (u / 10) (by omega) (by omega)
      cases hd : Lib.decDigits (u / 10) with
      | nil => exact absurd hd (dd_ne _)
      | cons a r => rw [hd] at this; simpa using this
theorem digs_app : ∀ (l : List UInt8) (acc : Nat) (c : UInt8), (∀ x ∈ l, Dig x) → Dig c → digs acc (l ++ [c]) = (digs acc l).map fun n => n * 10 + (c.toNat - 48)
  | [], acc, c, _, hc => by
    have := hc.1; have := hc.2
    simp only [List.nil_append, digs]
    rw [if_neg (by omega)]; rfl
  | x :: l, acc, c, hl, hc => by
    have h := hl x (by simp)
    have := h.1; have := h.2
    have hh : ¬ (x.toNat < 48 ∨ 57 < x.toNat) := by omega
    simp only [List.cons_append, digs, if_neg hh]
    exact digs_app l _ c (fun y hy => hl y (by simp [hy])) hc
theorem digs_dd (u : Nat) : digs 0 (Lib.decDigits u) = some u := by
  induction u using Nat.strongRecOn with
  | _ u ih =>
    by_cases h : u < 10
    · rw [dd_small h]
      simp only [digs]
      rw [nat8 _ (by omega), if_neg (by omega)]
      simp
    · rw [dd_big h, digs_app _ _ _ (dd_dig _) ⟨by rw [nat8 _ (by omega)]; omega, by rw [nat8 _ (by omega)]; omega⟩, ih (u / 10) (by omega)]
      rw [nat8 _ (by omega)]
      simp; omega
theorem undec_itoa {i most : Int} (h0 : 0 ≤ i) (h1 : i ≤ most) (h2 : most < 1000) : undecB (baOf (Lib.itoa i)) most = (i, 0) := by
  have e : Lib.itoa i = Lib.decDigits i.toNat := by unfold Lib.itoa; rw [if_neg (by omega)]
  have e2 : (baOf (Lib.itoa i)).data.toList = Lib.decDigits i.toNat := by rw [e]; rfl
  have hl := dd_len 2 i.toNat (by omega)
  have hne : (Lib.decDigits i.toNat).length ≠ 0 := by have := dd_ne i.toNat; intro h; exact this (List.eq_nil_of_length_eq_zero h)
  have hs : (baOf (Lib.itoa i)).size = (Lib.decDigits i.toNat).length := by rw [baOf_size, e]
  unfold undecB
  rw [if_neg (by omega), if_neg, e2, digs_dd, told]
  · rw [if_neg (by omega), Int.toNat_of_nonneg h0]
  · rintro ⟨ha, hb⟩
    rw [e2] at hb
    by_cases hz : i.toNat = 0
    · rw [hs, hz, dd_small (by omega)] at ha
      simp at ha
    · exact dd_lead _ (by omega) hb
theorem itoa_dig {i : Int} (h0 : 0 ≤ i) : ∀ c ∈ Lib.itoa i, Dig c := by
  have e : Lib.itoa i = Lib.decDigits i.toNat := by unfold Lib.itoa; rw [if_neg (by omega)]
  rw [e]; exact dd_dig _
theorem itoa_ne {i : Int} (h0 : 0 ≤ i) : Lib.itoa i ≠ [] := by
  have e : Lib.itoa i = Lib.decDigits i.toNat := by unfold Lib.itoa; rw [if_neg (by omega)]
  rw [e]; exact dd_ne _
def Blk (c : UInt8) : Prop := 33 ≤ c.toNat ∧ c.toNat < 128
def Wrd (l : List UInt8) : Prop := l ≠ [] ∧ ∀ c ∈ l, Blk c
theorem itoa_wrd {i : Int} (h0 : 0 ≤ i) : Wrd (Lib.itoa i) := ⟨itoa_ne h0, fun c hc => by have := itoa_dig h0 c hc; unfold Dig at this; unfold Blk; omega⟩
theorem isSp_blk {c : UInt8} (h : Blk c) : Lib.isSp c = false := by
  unfold Blk at h
  unfold Lib.isSp
  have k : ∀ d : UInt8, d.toNat ≤ 32 → (c == d) = false := fun d hd => by
    rw [beq_eq_false_iff_ne]; rintro rfl; omega
  simp [k 9 (by decide), k 10 (by decide), k 11 (by decide), k 12 (by decide), k 13 (by decide), k 32 (by decide)]
theorem fieldsGo_word : ∀ (x cur r : List UInt8), (∀ c ∈ x, Blk c) → Lib.fieldsGo cur (x ++ r) = Lib.fieldsGo (cur ++ x) r
  | [], cur, r, _ => by simp
  | c :: x, cur, r, h => by
    rw [List.cons_append, Lib.fieldsGo, isSp_blk (h c (by simp)), if_neg (by simp), fieldsGo_word x _ r fun d hd => h d (by simp [hd])]
    simp
theorem fieldsGo_row (e : List UInt8) (he : e = [] ∨ e = [10]) : ∀ (l : List (List UInt8)) (cur : List UInt8), (∀ x ∈ l, Wrd x) → Lib.fieldsGo cur ((l.flatMap fun x => 32 :: x) ++ e) = (if cur = [] then [] else [cur]) ++ l
  | [], cur, _ => by
    rcases he with rfl | rfl
    · cases cur <;> simp [Lib.fieldsGo]
    · cases cur <;> simp [Lib.fieldsGo, show Lib.isSp 10 = true from rfl]
  | x :: l, cur, h => by
    have hx := h x (by simp)
    rw [List.flatMap_cons, List.append_assoc, List.cons_append, Lib.fieldsGo, if_pos (show Lib.isSp 32 = true from rfl), fieldsGo_word x [] _ hx.2, List.nil_append, fieldsGo_row e he l x fun y hy => h y (by simp [hy]), if_neg hx.1]
    cases cur <;> simp
theorem fieldsD_row {e : List UInt8} (he : e = [] ∨ e = [10]) {l : List (List UInt8)} (h : ∀ x ∈ l, Wrd x) : Lib.fieldsD ((l.flatMap fun x => 32 :: x) ++ e) = l := by
  rw [Lib.fieldsD_ascii, Lib.fields, fieldsGo_row e he l [] h]
  · simp
  · intro b hb
    rw [List.mem_append] at hb
    rcases hb with hb | hb
    · obtain ⟨x, hx, hb⟩ := List.mem_flatMap.1 hb
      rcases List.mem_cons.1 hb with rfl | hb
      · decide
      · exact ((h x hx).2 b hb).2
    · rcases he with rfl | rfl
      · cases hb
      · rw [List.mem_singleton.1 hb]; decide
theorem index_none2 {a b : UInt8} : ∀ {x : List UInt8}, b ∉ x → Lib.index x [a, b] = -1
  | [], _ => rfl
  | c :: x, h => by
    have h2 : b ∉ x := fun hb => h (by simp [hb])
    have hp : List.isPrefixOf [a, b] (c :: x) = false := by
      cases x with
      | nil => simp [List.isPrefixOf]
      | cons d x =>
        have : b ≠ d := fun e => h2 (by simp [e])
        simp [List.isPrefixOf, this]
    rw [Lib.index, hp, index_none2 h2]
    simp
theorem index_at2 {a b : UInt8} (hab : a ≠ b) : ∀ (x y : List UInt8), b ∉ x → Lib.index (x ++ a :: b :: y) [a, b] = (x.length : Int)
  | [], y, _ => by simp [Lib.index, List.isPrefixOf]
  | c :: x, y, h => by
    have h2 : b ∉ x := fun hb => h (by simp [hb])
    have hp : List.isPrefixOf [a, b] (c :: (x ++ a :: b :: y)) = false := by
      cases x with
      | nil =>
        have : b ≠ a := fun e => hab e.symm
        simp [List.isPrefixOf, this]
      | cons d x =>
        have : b ≠ d := fun e => h2 (by simp [e])
        simp [List.isPrefixOf, this]
    rw [List.cons_append, Lib.index, hp, index_at2 hab x y h2, if_neg (by simp)]
    have : (((x.length : Nat) : Int) == -1) = false := by rw [beq_eq_false_iff_ne]; omega
    rw [this]; simp
theorem cut_none2 {a b : UInt8} {x : List UInt8} (h : b ∉ x) : Lib.cut x [a, b] = (x, [], false) := by
  unfold Lib.cut
  rw [index_none2 h, if_neg (by omega)]
theorem cut_at2 {a b : UInt8} (hab : a ≠ b) {x : List UInt8} (y : List UInt8) (h : b ∉ x) : Lib.cut (x ++ a :: b :: y) [a, b] = (x, y, true) := by
  unfold Lib.cut
  rw [index_at2 hab x y h, if_pos (by omega)]
  simp
def lineN (a : Nat) (row : List Int) (ns : List ByteArray) : List UInt8 := Lib.itoa (a : Int) ++ rowT [32, 62] (row.map Lib.itoa) ++ rowT [32, 58] (ns.map fun s => s.data.toList)
theorem lineF_N (a : Nat) (row : List Int) (ns : List ByteArray) : lineF a row ns = lineN a row ns ++ [10] := rfl
structure LineOk (row : List Int) (ns : List ByteArray) : Prop where
  row : ∀ i ∈ row, 0 ≤ i ∧ i ≤ 511
  ns : ∀ s ∈ ns, Fm.word s.data.toList = true
theorem isL_blk {c : UInt8} (h : Fm.isL c = true) : 65 ≤ c.toNat ∧ c.toNat < 128 := by
  unfold Fm.isL at h
  simp only [Bool.or_eq_true, Bool.and_eq_true, decide_eq_true_eq, UInt8.le_iff_toNat_le] at h
  have e1 : (97 : UInt8).toNat = 97 := rfl
  have e2 : (122 : UInt8).toNat = 122 := rfl
  have e3 : (65 : UInt8).toNat = 65 := rfl
  have e4 : (90 : UInt8).toNat = 90 := rfl
  omega
theorem inN_blk {c : UInt8} (h : Fm.inN c = true) : Blk c ∧ c ≠ 58 ∧ c ≠ 62 := by
  unfold Fm.inN at h
  simp only [Bool.or_eq_true, Bool.and_eq_true, decide_eq_true_eq, UInt8.le_iff_toNat_le, beq_iff_eq] at h
  have e1 : (48 : UInt8).toNat = 48 := rfl
  have e2 : (57 : UInt8).toNat = 57 := rfl
  unfold Blk
  rcases h with ((h | h) | rfl) | rfl
  · have := isL_blk h
    refine ⟨by omega, ?_, ?_⟩ <;> (rintro rfl; simp [Fm.isL] at h)
  · refine ⟨by omega, ?_, ?_⟩ <;> (rintro rfl; simp at h)
  · exact ⟨by decide, by decide, by decide⟩
  · exact ⟨by decide, by decide, by decide⟩
theorem word_in {l : List UInt8} (h : Fm.word l = true) : Wrd l ∧ 58 ∉ l ∧ 62 ∉ l := by
  unfold Fm.word at h
  simp only [Bool.and_eq_true, bne_iff_ne, ne_eq, decide_eq_true_eq, List.all_eq_true] at h
  obtain ⟨⟨⟨⟨h1, _⟩, h2⟩, h3⟩, _⟩ := h
  cases l with
  | nil => exact absurd rfl h1
  | cons c r =>
    have hc : Fm.inN c = true := by
      unfold Fm.inN
      simp only [List.headD_cons] at h2
      simp [h2]
    have hall : ∀ d ∈ c :: r, Fm.inN d = true := fun d hd => by
      rcases List.mem_cons.1 hd with rfl | hd
      · exact hc
      · exact h3 d hd
    exact ⟨⟨by simp, fun d hd => (inN_blk (hall d hd)).1⟩, fun hd => (inN_blk (hall _ hd)).2.1 rfl, fun hd => (inN_blk (hall _ hd)).2.2 rfl⟩
theorem dig_no {c d : UInt8} (h : Dig c) (hd : d.toNat < 48 ∨ 57 < d.toNat) : c ≠ d := by
  rintro rfl; unfold Dig at h; omega
theorem itoa_no {i : Int} (h0 : 0 ≤ i) {d : UInt8} (hd : d.toNat < 48 ∨ 57 < d.toNat) : d ∉ Lib.itoa i := fun h => dig_no (itoa_dig h0 d h) hd rfl
theorem flat_no {d : UInt8} (hd : d ≠ 32) {l : List (List UInt8)} (h : ∀ x ∈ l, d ∉ x) : d ∉ l.flatMap fun x => 32 :: x := fun hm => by
  obtain ⟨x, hx, hm⟩ := List.mem_flatMap.1 hm
  rcases List.mem_cons.1 hm with e | hm
  · exact hd e
  · exact h x hx hm
theorem row_no {row : List Int} (h : ∀ i ∈ row, 0 ≤ i ∧ i ≤ 511) {d : UInt8} (hd : d.toNat < 48 ∨ 57 < d.toNat) : ∀ x ∈ row.map Lib.itoa, d ∉ x := fun x hx => by
  obtain ⟨i, hi, rfl⟩ := List.mem_map.1 hx
  exact itoa_no (h i hi).1 hd
theorem row_wrd {row : List Int} (h : ∀ i ∈ row, 0 ≤ i ∧ i ≤ 511) : ∀ x ∈ row.map Lib.itoa, Wrd x := fun x hx => by
  obtain ⟨i, hi, rfl⟩ := List.mem_map.1 hx
  exact itoa_wrd (h i hi).1
theorem ns_wrd {ns : List ByteArray} (h : ∀ s ∈ ns, Fm.word s.data.toList = true) : ∀ x ∈ ns.map fun s => s.data.toList, Wrd x ∧ 58 ∉ x ∧ 62 ∉ x := fun x hx => by
  obtain ⟨i, hi, rfl⟩ := List.mem_map.1 hx
  exact word_in (h i hi)
theorem map_ba (ns : List ByteArray) : (ns.map fun s => s.data.toList).map baOf = ns := by
  rw [List.map_map]
  conv => rhs; rw [← List.map_id ns]
  rfl
theorem rdN_row : ∀ {row : List Int}, (∀ i ∈ row, 0 ≤ i ∧ i ≤ 511) → rdN ((row.map Lib.itoa).map baOf) = some row
  | [], _ => rfl
  | i :: r, h => by
    have hi := h i (by simp)
    rw [List.map_cons, List.map_cons, rdN, undec_itoa hi.1 hi.2 (by omega), if_pos rfl, rdN_row fun j hj => h j (by simp [hj])]
    rfl
theorem left_no {a : Nat} {row : List Int} {ns : List ByteArray} (h : LineOk row ns) : 58 ∉ Lib.itoa (a : Int) ++ rowT [32, 62] (row.map Lib.itoa) := by
  rw [List.mem_append]
  rintro (hm | hm)
  · exact itoa_no (by omega) (by decide) hm
  · unfold rowT at hm
    split at hm
    · cases hm
    · rw [List.mem_append] at hm
      rcases hm with hm | hm
      · revert hm; decide
      · exact flat_no (by decide) (row_no h.row (by decide)) hm
theorem cut_line {a : Nat} {row : List Int} {ns : List ByteArray} (h : LineOk row ns) :
    ∃ e, (e = [] ∨ e = [10]) ∧ (Lib.cut (lineF a row ns) [32, 58]).1 = Lib.itoa (a : Int) ++ rowT [32, 62] (row.map Lib.itoa) ++ e ∧ Lib.fieldsD (Lib.cut (lineF a row ns) [32, 58]).2.1 = ns.map fun s => s.data.toList := by
  cases hn : ns with
  | nil =>
    refine ⟨[10], Or.inr rfl, ?_⟩
    have e : lineF a row [] = Lib.itoa (a : Int) ++ rowT [32, 62] (row.map Lib.itoa) ++ [10] := by simp [lineF, rowT]
    have hno : 58 ∉ Lib.itoa (a : Int) ++ rowT [32, 62] (row.map Lib.itoa) ++ [10] := by
      rw [List.mem_append]
      rintro (hm | hm)
      · exact left_no h hm
      · revert hm; decide
    rw [e, cut_none2 hno]
    exact ⟨rfl, rfl⟩
  | cons s r =>
    refine ⟨[], Or.inl rfl, ?_⟩
    rw [← hn]
    have e : lineF a row ns = (Lib.itoa (a : Int) ++ rowT [32, 62] (row.map Lib.itoa)) ++ 32 :: 58 :: (((ns.map fun s => s.data.toList).flatMap fun x => 32 :: x) ++ [10]) := by
      rw [hn]; simp [lineF, rowT]
    rw [e, cut_at2 (by decide) _ (left_no h)]
    exact ⟨by simp, fieldsD_row (Or.inr rfl) fun x hx => (ns_wrd h.ns x hx).1⟩
theorem up_line {a : Nat} {row : List Int} {ns : List ByteArray} (h : LineOk row ns) : upL (baOf (lineF a row ns)) = some row := by
  obtain ⟨e, he, h1, _⟩ := cut_line (a := a) h
  show rdN ((Lib.fieldsD (Lib.cut (Lib.cut (lineF a row ns) [32, 58]).1 [32, 62]).2.1).map baOf) = some row
  rw [h1]
  have hf : Lib.fieldsD (Lib.cut (Lib.itoa (a : Int) ++ rowT [32, 62] (row.map Lib.itoa) ++ e) [32, 62]).2.1 = row.map Lib.itoa := by
    have hno : (62 : UInt8) ∉ Lib.itoa (a : Int) := itoa_no (by omega) (by decide)
    cases hr : row with
    | nil =>
      have hno2 : (62 : UInt8) ∉ Lib.itoa (a : Int) ++ rowT [32, 62] (([] : List Int).map Lib.itoa) ++ e := by
        rw [List.mem_append, List.mem_append]
        rintro ((hm | hm) | hm)
        · exact hno hm
        · cases hm
        · rcases he with rfl | rfl
          · cases hm
          · revert hm; decide
      rw [cut_none2 hno2]
      rfl
    | cons i r =>
      rw [← hr]
      have e2 : Lib.itoa (a : Int) ++ rowT [32, 62] (row.map Lib.itoa) ++ e = Lib.itoa (a : Int) ++ 32 :: 62 :: (((row.map Lib.itoa).flatMap fun x => 32 :: x) ++ e) := by
        rw [hr]; simp [rowT]
      rw [e2, cut_at2 (by decide) _ hno]
      exact fieldsD_row he (row_wrd h.row)
  rw [hf]
  exact rdN_row h.row
theorem va_line {a : Nat} {row : List Int} {ns : List ByteArray} (h : LineOk row ns) : vaL (baOf (lineF a row ns)) = ns := by
  obtain ⟨e, he, _, h2⟩ := cut_line (a := a) h
  show (Lib.fieldsD (Lib.cut (lineF a row ns) [32, 58]).2.1).map baOf = ns
  rw [h2]
  exact map_ba ns
theorem lineN_no {a : Nat} {row : List Int} {ns : List ByteArray} (h : LineOk row ns) : 10 ∉ lineN a row ns := by
  unfold lineN rowT
  rw [List.mem_append, List.mem_append]
  rintro ((hm | hm) | hm)
  · exact itoa_no (by omega) (by decide) hm
  · split at hm
    · cases hm
    · rw [List.mem_append] at hm
      rcases hm with hm | hm
      · revert hm; decide
      · exact flat_no (by decide) (row_no h.row (by decide)) hm
  · split at hm
    · cases hm
    · rw [List.mem_append] at hm
      rcases hm with hm | hm
      · revert hm; decide
      · refine flat_no (d := 10) (by decide) (fun x hx hd => ?_) hm
        have := (ns_wrd h.ns x hx).1.2 10 hd
        revert this; unfold Blk; decide
theorem byte_at {x r : List UInt8} {c : UInt8} (h : c ∉ x) : Lib.indexByte (x ++ c :: r) c = (x.length : Int) := by
  induction x with
  | nil => simp [Lib.indexByte]
  | cons d x ih =>
    have hd : (d == c) = false := by rw [beq_eq_false_iff_ne]; rintro rfl; exact h (by simp)
    rw [List.cons_append, Lib.indexByte, hd, ih fun hm => h (by simp [hm])]
    have : (((x.length : Nat) : Int) == -1) = false := by rw [beq_eq_false_iff_ne]; omega
    rw [this]; simp
theorem lines_app {x r : List UInt8} (h : 10 ∉ x) : linesF (x ++ 10 :: r) = (x ++ [10]) :: linesF r := by
  have hb := byte_at (r := r) h
  rw [lines_cons (by rw [List.length_append, List.length_cons]; omega) (by rw [hb]; omega), hb]
  have e : ((x.length : Int)).toNat = x.length := by simp
  rw [e]
  have t : (x ++ 10 :: r).take (x.length + 1) = x ++ [10] := by rw [List.take_append]; simp [List.take_of_length_le]
  have d : (x ++ 10 :: r).drop (x.length + 1) = r := by rw [List.drop_append]; simp [List.drop_of_length_le]
  rw [t, d]
theorem lines_flat {α : Type} (f : α → List UInt8) : ∀ (l : List α), (∀ x ∈ l, 10 ∉ f x) → linesF (l.flatMap fun x => f x ++ [10]) = l.map fun x => f x ++ [10]
  | [], _ => rfl
  | x :: l, h => by
    rw [List.flatMap_cons, List.append_assoc, List.singleton_append, lines_app (h x (by simp)), lines_flat f l fun y hy => h y (by simp [hy])]
    rfl
theorem get_range {α : Type} (l : List α) (d : α) : (List.range l.length).map (fun a => l.getD a d) = l := by
  refine List.ext_getElem (by simp) fun i h1 h2 => ?_
  simp [List.getElem?_eq_getElem h2]
theorem good_line {m : Md} (h : Wd.Good m) (a : Nat) : LineOk (m.up.getD a []) (m.val.getD a []) := by
  obtain ⟨_, h5, _, h3, h4⟩ := Wd.shaped_and h.shape
  constructor
  · rw [List.getD_eq_getElem?_getD]
    cases hr : m.up[a]? with
    | none => intro i hi; cases hi
    | some r =>
      intro i hi
      have := h3 r (List.mem_of_getElem? hr)
      unfold Wd.allW Wd.inW at this
      simp only [List.all_eq_true, Bool.and_eq_true, decide_eq_true_eq] at this
      have := this i hi
      omega
  · rw [List.getD_eq_getElem?_getD]
    cases hr : m.val[a]? with
    | none => intro i hi; cases hi
    | some r =>
      have := h4 r (List.mem_of_getElem? hr)
      revert this
      have : ∀ (l : List ByteArray) (p : Option ByteArray), Wd.names p l = true → ∀ s ∈ l, Fm.word s.data.toList = true := by
        intro l
        induction l with
        | nil => intro p _ s hs; cases hs
        | cons x l ih =>
          intro p hp s hs
          rw [Wd.names] at hp
          simp only [Bool.and_eq_true] at hp
          rcases List.mem_cons.1 hs with rfl | hs
          · exact hp.1.1
          · exact ih _ hp.2 s hs
      exact this r none
theorem text_lines {m : Md} (h : Wd.Good m) : linesF (textF m) = (List.range m.up.length).map fun a => lineF a (m.up.getD a []) (m.val.getD a []) :=
  lines_flat (fun a => lineN a (m.up.getD a []) (m.val.getD a [])) _ fun a _ => lineN_no (good_line h a)
theorem back_mdL {m : Md} (h : Wd.Good m) : mdL (linesB (baOf (textF m))) = m ∧ ∀ x ∈ linesB (baOf (textF m)), (upL x).isSome = true := by
  have e : linesB (baOf (textF m)) = (List.range m.up.length).map fun a => baOf (lineF a (m.up.getD a []) (m.val.getD a [])) := by
    show (linesF (textF m)).map baOf = _
    rw [text_lines h, List.map_map]
    rfl
  rw [e]
  constructor
  · unfold mdL
    rw [List.map_map, List.map_map]
    have h1 : (List.range m.up.length).map ((fun x => (upL x).getD []) ∘ fun a => baOf (lineF a (m.up.getD a []) (m.val.getD a []))) = m.up := by
      conv => rhs; rw [← get_range m.up []]
      refine List.map_congr_left fun a _ => ?_
      show (upL (baOf _)).getD [] = _
      rw [up_line (good_line h a)]
      rfl
    have h2 : (List.range m.up.length).map (vaL ∘ fun a => baOf (lineF a (m.up.getD a []) (m.val.getD a []))) = m.val := by
      rw [← (Wd.shaped_and h.shape).2.2.1]
      conv => rhs; rw [← get_range m.val []]
      refine List.map_congr_left fun a _ => va_line (good_line h a)
    rw [h1, h2]
  · intro x hx
    obtain ⟨a, _, rfl⟩ := List.mem_map.1 hx
    rw [up_line (good_line h a)]
    rfl
def wordsA : List UInt8 → List UInt8 → List (List UInt8)
  | acc, [] => [acc]
  | acc, c :: r => if c = 32 then acc :: wordsA [] r else wordsA (acc ++ [c]) r
def linesA : List UInt8 → List UInt8 → List (List UInt8)
  | _, [] => []
  | acc, c :: r => if c = 10 then acc :: linesA [] r else linesA (acc ++ [c]) r
def wordsB (x : List UInt8) : List ByteArray := (wordsA [] x).map baOf
def runW : List Int → List ByteArray → Bool → List ByteArray → Option (List Int × List ByteArray)
  | u, v, _, [] => some (u, v)
  | u, v, nm, x :: r => if x = baOf [58] then runW u v true r else if nm then runW u (v ++ [x]) nm r else if x = baOf [62] then runW u v nm r else if (undecB x 512).2 = 0 then runW (u ++ [(undecB x 512).1]) v nm r else none
def runL : List (List Int) → List (List ByteArray) → List (List UInt8) → Option Md
  | U, V, [] => some ⟨U, V⟩
  | U, V, x :: r => match runW [] [] false ((wordsB x).drop 1) with
    | none => none
    | some (u, v) => if 512 < U.length + 1 then none else runL (U ++ [u]) (V ++ [v]) r
def docR (s : List UInt8) : Option Md := runL [] [] (linesA [] s)
theorem wordsA_app {x : List UInt8} : ∀ (acc r : List UInt8), 32 ∉ x → wordsA acc (x ++ 32 :: r) = (acc ++ x) :: wordsA [] r := by
  induction x with
  | nil => intro acc r _; simp [wordsA]
  | cons c x ih =>
    intro acc r h
    have hc : ¬ c = 32 := fun e => h (by simp [e])
    rw [List.cons_append, wordsA, if_neg hc, ih _ _ fun hm => h (by simp [hm])]
    simp
theorem wordsA_end {x : List UInt8} : ∀ (acc : List UInt8), 32 ∉ x → wordsA acc x = [acc ++ x] := by
  induction x with
  | nil => intro acc _; simp [wordsA]
  | cons c x ih =>
    intro acc h
    have hc : ¬ c = 32 := fun e => h (by simp [e])
    rw [wordsA, if_neg hc, ih _ fun hm => h (by simp [hm])]
    simp
theorem wordsA_row : ∀ (l : List (List UInt8)) (x : List UInt8), 32 ∉ x → (∀ y ∈ l, 32 ∉ y) → wordsA [] (x ++ l.flatMap fun y => 32 :: y) = x :: l
  | [], x, h, _ => by simpa using wordsA_end [] h
  | y :: l, x, h, hl => by
    rw [List.flatMap_cons, List.cons_append, wordsA_app _ _ h, wordsA_row l y (hl y (by simp)) fun z hz => hl z (by simp [hz])]
    rfl
theorem linesA_app {x : List UInt8} : ∀ (acc r : List UInt8), 10 ∉ x → linesA acc (x ++ 10 :: r) = (acc ++ x) :: linesA [] r := by
  induction x with
  | nil => intro acc r _; simp [linesA]
  | cons c x ih =>
    intro acc r h
    have hc : ¬ c = 10 := fun e => h (by simp [e])
    rw [List.cons_append, linesA, if_neg hc, ih _ _ fun hm => h (by simp [hm])]
    simp
theorem linesA_flat {α : Type} (f : α → List UInt8) : ∀ (l : List α), (∀ x ∈ l, 10 ∉ f x) → linesA [] (l.flatMap fun x => f x ++ [10]) = l.map f
  | [], _ => rfl
  | x :: l, h => by
    rw [List.flatMap_cons, List.append_assoc, List.singleton_append, linesA_app _ _ (h x (by simp)), linesA_flat f l fun y hy => h y (by simp [hy])]
    rfl
def wrds (row : List Int) (ns : List ByteArray) : List (List UInt8) := (if row = [] then [] else [62] :: row.map Lib.itoa) ++ (if ns = [] then [] else [58] :: ns.map fun s => s.data.toList)
theorem lineN_words (a : Nat) (row : List Int) (ns : List ByteArray) : lineN a row ns = Lib.itoa (a : Int) ++ (wrds row ns).flatMap fun y => 32 :: y := by
  unfold lineN wrds rowT
  cases row <;> cases ns <;> simp
theorem wrds_no {row : List Int} {ns : List ByteArray} (h : LineOk row ns) : ∀ y ∈ wrds row ns, 32 ∉ y := fun y hy => by
  have hw : ∀ z : List UInt8, Wrd z → 32 ∉ z := fun z hz hm => by have := hz.2 32 hm; revert this; unfold Blk; decide
  unfold wrds at hy
  rw [List.mem_append] at hy
  rcases hy with hy | hy
  · split at hy
    · cases hy
    · rcases List.mem_cons.1 hy with rfl | hy
      · decide
      · exact hw _ (row_wrd h.row y hy)
  · split at hy
    · cases hy
    · rcases List.mem_cons.1 hy with rfl | hy
      · decide
      · exact hw _ (ns_wrd h.ns y hy).1
theorem words_line {a : Nat} {row : List Int} {ns : List ByteArray} (h : LineOk row ns) : (wordsB (lineN a row ns)).drop 1 = (wrds row ns).map baOf := by
  unfold wordsB
  rw [lineN_words, wordsA_row _ _ (itoa_no (by omega) (by decide)) (wrds_no h)]
  rfl
theorem ba_one {x y : List UInt8} (h : baOf x = baOf y) : x = y := by
  have := congrArg (fun b : ByteArray => b.data.toList) h
  exact this
theorem runW_row : ∀ (row : List Int) (u : List Int) (v : List ByteArray) (R : List ByteArray), (∀ i ∈ row, 0 ≤ i ∧ i ≤ 511) → runW u v false ((row.map fun i => baOf (Lib.itoa i)) ++ R) = runW (u ++ row) v false R
  | [], u, v, R, _ => by simp
  | i :: row, u, v, R, h => by
    have hi := h i (by simp)
    have h1 : ¬ baOf (Lib.itoa i) = baOf [58] := fun e => by
      have := itoa_dig hi.1 58 (by rw [ba_one e]; simp)
      revert this; unfold Dig; decide
    have h2 : ¬ baOf (Lib.itoa i) = baOf [62] := fun e => by
      have := itoa_dig hi.1 62 (by rw [ba_one e]; simp)
      revert this; unfold Dig; decide
    rw [List.map_cons, List.cons_append, runW, if_neg h1, if_neg (by simp), if_neg h2, undec_itoa hi.1 (by omega) (by omega), if_pos rfl, runW_row row _ v R fun j hj => h j (by simp [hj])]
    simp
theorem runW_ns : ∀ (ns : List ByteArray) (u : List Int) (v : List ByteArray), (∀ s ∈ ns, Fm.word s.data.toList = true) → runW u v true ns = some (u, v ++ ns)
  | [], u, v, _ => by simp [runW]
  | s :: ns, u, v, h => by
    have h1 : ¬ s = baOf [58] := fun e => by
      have := (word_in (h s (by simp))).2.1
      rw [e] at this
      exact this (by show (58 : UInt8) ∈ [58]; simp)
    rw [runW, if_neg h1, if_pos rfl, runW_ns ns u _ fun y hy => h y (by simp [hy])]
    simp
theorem run_line {a : Nat} {row : List Int} {ns : List ByteArray} (h : LineOk row ns) : runW [] [] false ((wordsB (lineN a row ns)).drop 1) = some (row, ns) := by
  rw [words_line h]
  unfold wrds
  rw [List.map_append]
  have hns : ∀ u, runW u [] false ((if ns = [] then [] else [58] :: ns.map fun s => s.data.toList).map baOf) = some (u, ns) := fun u => by
    split
    · rename_i e; rw [e]; rfl
    · rw [List.map_cons, map_ba, runW, if_pos rfl, runW_ns ns u [] h.ns]; simp
  split
  · rename_i e; rw [e]; exact hns []
  · have hne : ¬ baOf [62] = baOf [58] := fun e => by have := ba_one e; simp at this
    rw [List.map_cons, List.map_map, List.cons_append, runW, if_neg hne, if_neg (by simp), if_pos rfl]
    rw [show row.map (baOf ∘ Lib.itoa) = row.map fun i => baOf (Lib.itoa i) from rfl, runW_row row [] [] _ h.row]
    exact hns _
theorem runL_range {m : Md} (hg : ∀ a, LineOk (m.up.getD a []) (m.val.getD a [])) : ∀ (l : List Nat) (U : List (List Int)) (V : List (List ByteArray)), U.length + l.length ≤ 512 →
    runL U V (l.map fun a => lineN a (m.up.getD a []) (m.val.getD a [])) = some ⟨U ++ l.map fun a => m.up.getD a [], V ++ l.map fun a => m.val.getD a []⟩
  | [], U, V, _ => by simp [runL]
  | a :: l, U, V, h => by
    rw [List.length_cons] at h
    rw [List.map_cons, runL, run_line (hg a)]
    show (if 512 < U.length + 1 then none else _) = _
    rw [if_neg (by omega), runL_range hg l _ _ (by rw [List.length_append]; simp; omega)]
    simp
theorem back_doc {m : Md} (h : Wd.Good m) : docR (textF m) = some m := by
  obtain ⟨_, h5, h2, _, _⟩ := Wd.shaped_and h.shape
  unfold docR
  rw [show linesA [] (textF m) = (List.range m.up.length).map fun a => lineN a (m.up.getD a []) (m.val.getD a []) from linesA_flat (fun a => lineN a (m.up.getD a []) (m.val.getD a [])) _ fun a _ => lineN_no (good_line h a),
    runL_range (good_line h) _ _ _ (by simp; omega)]
  simp only [List.nil_append, get_range]
  rw [← h2, get_range]
def DO (s : ByteArray) (m : Md) : Prop := s.size ≤ 65536 ∧ docR s.data.toList = some m ∧ textF m = s.data.toList ∧ Wd.Good m
theorem doc_po {s : ByteArray} {m : Md} (h : DO s m) : PO s ∧ mdL (linesB s) = m := by
  obtain ⟨h1, h2, h3, h4⟩ := h
  have e : s = baOf (textF m) := by rw [h3]; exact ba_ext rfl
  have hb := back_mdL h4
  rw [← e] at hb
  exact ⟨⟨h1, hb.2, by rw [hb.1]; exact h4, by rw [hb.1]; exact h3⟩, hb.1⟩
theorem po_doc {s : ByteArray} (h : PO s) : DO s (mdL (linesB s)) := by
  obtain ⟨h1, h2, h3, h4⟩ := h
  refine ⟨h1, ?_, h4, h3⟩
  rw [← h4]
  exact back_doc h3
theorem po_text {m : Md} (h : Wd.Good m) (hl : (textF m).length ≤ 65536) : PO (baOf (textF m)) ∧ mdL (linesB (baOf (textF m))) = m := by
  have hb := back_mdL h
  refine ⟨⟨by rw [baOf_size]; exact hl, hb.2, by rw [hb.1]; exact h, ?_⟩, hb.1⟩
  rw [hb.1]
  rfl
end Go.Proofs.YtjbnbaiidpdpoaaDoor.Wm
/-
  The document's words: of any text. No condition but what a machine can hold.
-/
namespace Go.Proofs.YtjbnbaiidpdpoaaDoor.Wm
open Go.RowKit Go.Maps
open Wd (Md)
set_option linter.unusedSimpArgs false
set_option linter.unusedVariables false

theorem infoT : (Tryd.prog.info? 9).map (fun i => (i.zero, i.size, i.bytes)) = some (some (.string ⟨#[]⟩), 1, 16) := by kernel_rfl
theorem baOf_extract (s : ByteArray) (j k : Nat) : s.extract j k = baOf ((s.data.toList.take k).drop j) := baOf_cut s.data.toList j k
structure WdI (s : ByteArray) (k j : Nat) (done : List ByteArray) : Prop where
  hk : k ≤ s.size + 1
  hj : k ≤ s.size → j ≤ k
  len : done.length ≤ k
  rest : k ≤ s.size → done ++ (wordsA ((s.data.toList.take k).drop j) (s.data.toList.drop k)).map baOf = wordsB s.data.toList
  fin : k = s.size + 1 → done = wordsB s.data.toList
theorem WdI.start (s : ByteArray) : WdI s 0 0 [] := ⟨by omega, fun _ => Nat.le_refl _, Nat.le_refl _, fun _ => by simp [wordsB], fun h => by omega⟩
theorem take_drop_succ {l : List UInt8} {j k : Nat} (hj : j ≤ k) (hk : k < l.length) : (l.take (k + 1)).drop j = (l.take k).drop j ++ [l[k]] := by
  rw [List.take_succ_eq_append_getElem hk, List.drop_append_of_le_length (by rw [List.length_take]; omega)]
theorem take_drop_self {l : List UInt8} {k : Nat} : (l.take k).drop k = [] := by
  rw [List.drop_eq_nil_iff, List.length_take]; omega
theorem WdI.skip {s : ByteArray} {k j : Nat} {done : List ByteArray} (h : WdI s k j done) (hk : k < s.size) (hc : ((s[k].toNat : Int) == 32) = false) : WdI s (k + 1) j done := by
  have hl : k < s.data.toList.length := hk
  refine ⟨by omega, fun _ => by have := h.hj (by omega); omega, by have := h.len; omega, fun _ => ?_, fun h => by omega⟩
  have hne : ¬ s.data.toList[k] = 32 := fun e => by
    have e2 : s[k] = s.data.toList[k] := rfl
    rw [e2, e] at hc
    revert hc; decide
  have hr := h.rest (by omega)
  rw [drop_at _ k hl, wordsA, if_neg hne] at hr
  rw [take_drop_succ (h.hj (by omega)) hl]
  exact hr
theorem WdI.cut {s : ByteArray} {k j : Nat} {done : List ByteArray} (h : WdI s k j done) (hk : k < s.size) (hc : ((s[k].toNat : Int) == 32) = true) : WdI s (k + 1) (k + 1) (done ++ [s.extract j k]) := by
  have hl : k < s.data.toList.length := hk
  refine ⟨by omega, fun _ => by omega, by rw [List.length_append]; have := h.len; simp; omega, fun _ => ?_, fun h => by omega⟩
  have he : s.data.toList[k] = 32 := by
    have e2 : s[k] = s.data.toList[k] := rfl
    rw [e2] at hc
    have h3 : s.data.toList[k].toNat = 32 := by
      have h4 : (s.data.toList[k].toNat : Int) = 32 := eq_of_beq hc
      omega
    exact UInt8.toNat_inj.1 (by rw [h3]; rfl)
  have hr := h.rest (by omega)
  rw [drop_at _ k hl, wordsA, if_pos he, List.map_cons] at hr
  rw [take_drop_self, baOf_extract, ← hr]
  simp
theorem WdI.last {s : ByteArray} {k j : Nat} {done : List ByteArray} (h : WdI s k j done) (hk : k = s.size) (at' : Nat) : WdI s (k + 1) at' (done ++ [s.extract j k]) := by
  refine ⟨by omega, fun h => by omega, by rw [List.length_append]; have := h.len; simp; omega, fun h => by omega, fun _ => ?_⟩
  have hr := h.rest (by omega)
  rw [List.drop_of_length_le (show s.data.toList.length ≤ k by rw [hk]; exact Nat.le_refl _), wordsA] at hr
  rw [baOf_extract, ← hr]
  rfl
theorem OwnN.slice {base : Nat} {w : World} {v : Value} {l : List ByteArray} (h : OwnN base w v l) : ∃ p c, v = .slice p l.length c := own_form h
theorem OwnN.later {base : Nat} {w w' : World} {v : Value} {l : List ByteArray} (h : OwnN base w v l) (hb : Below w.heap.size w w') : OwnN base w' v l := own_later h hb
theorem OwnN.grow {B : Nat} {w1 w2 : World} {v v' : Value} {l : List ByteArray} {x : ByteArray} {o : Obj} (h : OwnN B w1 v l) (ho : w2.ownsRow B 9 1 v' (l.length + 1) (l.map Value.string ++ [.string x])) (hg : (w1.alloc o).grownBy w2 v.ownBlock) (hB : B ≤ w1.heap.size) : OwnN B w2 v' (l ++ [x]) ∧ Below B w1 w2 := by
  have hb1 := below_alloc w1 o
  have hb2 : Below B (w1.alloc o) w2 := (Below.refl _ _).grown hg (Nat.le_trans hB hb1.size) (fun q hq => (World.ownsRow.lt h q hq).1)
  refine ⟨?_, (hb1.mono hB).trans hb2⟩
  unfold OwnN
  rw [List.length_append, List.length_singleton, List.map_append]
  exact ho
set_option maxRecDepth 100000 in
set_option maxHeartbeats 4000000 in
theorem words_any (w : World) (s : ByteArray) (hs : s.size ≤ 65536) :
    Calls Tryd.prog 23 #[.string s] w fun e w' => ∃ v, e = .returned v ∧ OwnN w.heap.size w' v (wordsB s.data.toList) ∧ Below w.heap.size w w' := by
  obtain ⟨i0, hi, hz0, hz1, hz2⟩ := info_parts infoT
  go_enter Tryd.func23, Tryd.ntmps23
  go_wp2_with fail
  go_loopw [3, 4, 5] (fun l at' i wr => ∃ (k j : Nat) (done : List ByteArray), i = .int .i64 (k : Int) ∧ at' = .int .i64 (j : Int) ∧ k ≤ s.size + 1 ∧ Hid (WdI s k j done) ∧ Hid (OwnN w.heap.size wr l done ∧ Below w.heap.size w wr)) (fun _ _ i _ => s.size + 1 - (intOf i).toNat)
  case atStart => exact ⟨0, 0, [], rfl, rfl, by omega, WdI.start s, World.ownsRow_nil _ _ _ _, Below.refl _ _⟩
  case round =>
    obtain ⟨k, j, done, rfl, rfl, hk, HI, HO⟩ := hrel
    obtain ⟨pl, cl, rfl⟩ := HO.out.1.slice
    by_cases hle : k ≤ s.size
    · have hki : (k : Int) ≤ (s.size : Int) := by omega
      have hjk := HI.out.hj hle
      have hln := HI.out.len
      by_cases heq : k = s.size
      · have q1 : ((k : Int) == (s.size : Int)) = true := by simp [heq]
        have HN := show Hid (WdI s (k + 1) (k + 1) (done ++ [s.extract j k])) from HI.out.last heq _
        clear HI heq
        go_wp2_with (at_builtin; refine wpList_append_own _ rfl (.tmp 22) (.tmp 27) 39 rfl w.heap.size 9 i0 (.string ⟨#[]⟩) 1 16 Tryd.underlying39 hi hz0 hz1 hz2 rfl (by decide) _ done.length (done.map Value.string) rfl (HO.out.1.later (below_alloc wr _)) ⟨wr.heap.size, 0, none⟩ 1 1 [.string (s.extract j k)] rfl rfl (cell_one_new _ _ _) (by simp [Value.oneCell']) (by unfold maxLen; omega) (by omega) (by have := HO.out.2.size; simp; omega) ?_)
        intro v' w8 ho3 hg3 _
        have HQ := show Hid (OwnN w.heap.size w8 v' (done ++ [s.extract j k]) ∧ Below w.heap.size w w8) from by
          have := HO.out.1.grow ho3 hg3 HO.out.2.size
          exact ⟨this.1, HO.out.2.trans this.2⟩
        clear ho3 hg3 HO
        go_wp2_with fail
        go_roundw
        case rel => exact ⟨k + 1, k + 1, _, val_int (by omega), val_int (by omega), by omega, HN.out, HQ.out⟩
        case measure => (simp only [intOf]; omega)
      · have q1 : ((k : Int) == (s.size : Int)) = false := by simp; omega
        have hlt : k < s.size := by omega
        have hlti : (k : Int) < (s.size : Int) := by omega
        by_cases hc : ((s[k].toNat : Int) == 32) = true
        · have HN := show Hid (WdI s (k + 1) (k + 1) (done ++ [s.extract j k])) from HI.out.cut hlt hc
          clear HI heq
          go_wp2_with (at_builtin; refine wpList_append_own _ rfl (.tmp 22) (.tmp 27) 39 rfl w.heap.size 9 i0 (.string ⟨#[]⟩) 1 16 Tryd.underlying39 hi hz0 hz1 hz2 rfl (by decide) _ done.length (done.map Value.string) rfl (HO.out.1.later (below_alloc wr _)) ⟨wr.heap.size, 0, none⟩ 1 1 [.string (s.extract j k)] rfl rfl (cell_one_new _ _ _) (by simp [Value.oneCell']) (by unfold maxLen; omega) (by omega) (by have := HO.out.2.size; simp; omega) ?_)
          intro v' w8 ho3 hg3 _
          have HQ := show Hid (OwnN w.heap.size w8 v' (done ++ [s.extract j k]) ∧ Below w.heap.size w w8) from by
            have := HO.out.1.grow ho3 hg3 HO.out.2.size
            exact ⟨this.1, HO.out.2.trans this.2⟩
          clear ho3 hg3 HO
          go_wp2_with fail
          go_roundw
          case rel => exact ⟨k + 1, k + 1, _, val_int (by omega), val_int (by omega), by omega, HN.out, HQ.out⟩
          case measure => (simp only [intOf]; omega)
        · have hc : ((s[k].toNat : Int) == 32) = false := by simpa using hc
          have HN := show Hid (WdI s (k + 1) j done) from HI.out.skip hlt hc
          clear HI heq
          go_wp2_with fail
          go_roundw
          case rel => exact ⟨k + 1, j, done, val_int (by omega), rfl, by omega, HN.out, HO.out⟩
          case measure => (simp only [intOf]; omega)
    · obtain rfl : k = s.size + 1 := by omega
      have HE := show Hid (done = wordsB s.data.toList) from HI.out.fin rfl
      have hki : ¬ ((s.size + 1 : Nat) : Int) ≤ (s.size : Int) := by omega
      clear HI hle
      go_wp2_with fail
      go_ret
      exact ⟨_, rfl, by rw [← HE.out]; exact HO.out.1, HO.out.2⟩
end Go.Proofs.YtjbnbaiidpdpoaaDoor.Wm
/-
  The document's Undec: a number in up to ten digits, or the error: for every text and every bound. No condition.
-/
namespace Go.Proofs.YtjbnbaiidpdpoaaDoor.Wm
open Go.RowKit
set_option linter.unusedSimpArgs false

set_option maxRecDepth 100000 in
set_option maxHeartbeats 2000000 in
theorem rundec_short (w : World) (s : ByteArray) (most : Int) (hs : s.size ≤ 9223372036854775807) (h : s.size = 0 ∨ 10 < s.size) :
    Calls Tryd.prog 24 #[.string s, .int .i64 most] w fun e w' => e = .returned (.tuple #[.int .i64 0, .int .i64 2]) ∧ w' = w := by
  rcases h with h | h
  · have hb : decide ((s.size : Int) < 1) = true := by simp; omega
    clear h
    go_enter Tryd.func24, Tryd.ntmps24
    go_wp2
    all_goals go_ret2
    all_goals exact ⟨rfl, rfl⟩
  · have hb : decide ((s.size : Int) < 1) = false := by simp; omega
    have hb2 : decide (10 < (s.size : Int)) = true := by simp; omega
    go_enter Tryd.func24, Tryd.ntmps24
    go_wp2
    all_goals go_ret2
    all_goals exact ⟨rfl, rfl⟩
set_option maxRecDepth 100000 in
set_option maxHeartbeats 2000000 in
theorem rundec_lead (w : World) (s : ByteArray) (most : Int) (hs : s.size ≤ 10) (h1 : 2 ≤ s.size) (h48 : (((s[0]'(by omega)).toNat : Int) == 48) = true) :
    Calls Tryd.prog 24 #[.string s, .int .i64 most] w fun e w' => e = .returned (.tuple #[.int .i64 0, .int .i64 2]) ∧ w' = w := by
  have hb : decide ((s.size : Int) < 1) = false := by simp; omega
  have hb2 : decide (10 < (s.size : Int)) = false := by simp; omega
  have hb3 : decide (1 < (s.size : Int)) = true := by simp; omega
  go_enter Tryd.func24, Tryd.ntmps24
  go_wp2
  all_goals go_ret2
  all_goals exact ⟨rfl, rfl⟩
set_option maxRecDepth 100000 in
set_option maxHeartbeats 4000000 in
theorem rundec_loop (w : World) (s : ByteArray) (most : Int) (hs : s.size ≤ 10) (h1 : 1 ≤ s.size) (h48 : (((s[0]'h1).toNat : Int) == 48) = false ∨ s.size ≤ 1) :
    Calls Tryd.prog 24 #[.string s, .int .i64 most] w fun e w' => w' = w ∧ e = .returned (.tuple #[.int .i64 (told (digs 0 s.data.toList) most).1, .int .i64 (told (digs 0 s.data.toList) most).2]) := by
  have HX : Hid (digs 0 (s.data.toList.drop 0) = digs 0 s.data.toList) := rfl
  generalize digs 0 s.data.toList = ans at *
  have hsz : s.data.toList.length = s.size := rfl
  have HSZ := show Hid (s.data.toList.length = s.size) from hsz
  have hb0 : decide ((s.size : Int) < 1) = false := by simp; omega
  have hb10 : decide (10 < (s.size : Int)) = false := by simp; omega
  clear hsz
  have h48' : (decide (1 < (s.size : Int)) = true ∧ (((s[0]'h1).toNat : Int) == 48) = false) ∨ decide (1 < (s.size : Int)) = false := by
    by_cases h : 1 < s.size
    · rcases h48 with h4 | h4
      · exact Or.inl ⟨by simp; omega, h4⟩
      · omega
    · exact Or.inr (by simp; omega)
  clear h48
  rcases h48' with ⟨hq, h48⟩ | hq
  all_goals
    go_enter Tryd.func24, Tryd.ntmps24
    go_wp2
    go_loop [6, 7] (fun n i => ∃ k acc : Nat, k ≤ s.size ∧ i = .int .i64 (k : Int) ∧ n = .int .i64 (acc : Int) ∧ acc < 10 ^ k ∧ Hid (digs acc (s.data.toList.drop k) = ans)) (fun _ i => s.size - (intOf i).toNat)
    case atStart => exact ⟨0, 0, by omega, rfl, rfl, by decide, HX⟩
    case round =>
      obtain ⟨k, acc, hk, rfl, rfl, hacc, HA⟩ := hrel
      clear HX
      have hp10 : 10 ^ k ≤ 10 ^ 10 := Nat.pow_le_pow_right (by omega) (by omega)
      have hacc2 : acc < 10000000000 := by omega
      have HAC := show Hid (acc < 10 ^ k) from hacc
      clear hacc hp10
      by_cases hlt : k < s.size
      · have hm256 := toNat_lt s[k]
        by_cases hd : 48 ≤ (s[k]).toNat ∧ (s[k]).toNat ≤ 57
        · have hA := HA.out
          rw [digs_step s.data.toList k acc hlt hd.1 hd.2, bytes_at s k hlt] at hA
          have HA2 := show Hid (digs (acc * 10 + ((s[k]).toNat - 48)) (s.data.toList.drop (k + 1)) = ans) from hA
          obtain ⟨hd1, hd2⟩ := hd
          have hb1 : decide (((s[k]).toNat : Int) < 48) = false := by simp; omega
          have hb2 : decide (57 < ((s[k]).toNat : Int)) = false := by simp; omega
          clear hA HA
          go_wp2
          go_round
          case rel =>
            refine ⟨k + 1, acc * 10 + ((s[k]).toNat - 48), by omega, by go_num, val_int (by omega), ?_, HA2⟩
            have := HAC.out
            rw [Nat.pow_succ]
            omega
          case measure => simp [intOf]; omega
        · have hbad : (s[k]).toNat < 48 ∨ 57 < (s[k]).toNat := by omega
          have hA := HA.out
          rw [digs_bad s.data.toList k acc hlt hbad] at hA
          have HA2 := show Hid (none = ans) from hA
          clear hA HA hd
          rcases hbad with hbad | hbad
          · have hb1 : decide (((s[k]).toNat : Int) < 48) = true := by simp; omega
            go_wp2
            go_ret2
            exact ⟨rfl, tup2 (by rw [← HA2.out]; rfl) (by rw [← HA2.out]; rfl)⟩
          · have hb1 : decide (((s[k]).toNat : Int) < 48) = false := by simp; omega
            have hb2 : decide (57 < ((s[k]).toNat : Int)) = true := by simp; omega
            go_wp2
            go_ret2
            exact ⟨rfl, tup2 (by rw [← HA2.out]; rfl) (by rw [← HA2.out]; rfl)⟩
      · have hA := HA.out
        rw [List.drop_eq_nil_of_le (by rw [HSZ.out]; omega)] at hA
        have HA2 := show Hid (some acc = ans) from hA
        clear hA HA
        by_cases hm : most < (acc : Int)
        · go_wp2
          go_ret2
          exact ⟨rfl, tup2 (by rw [← HA2.out]; simp only [told, if_pos hm]) (by rw [← HA2.out]; simp only [told, if_pos hm])⟩
        · go_wp2
          go_ret2
          exact ⟨rfl, tup2 (by rw [← HA2.out]; simp only [told, if_neg (Int.not_lt.2 hm)]) (by rw [← HA2.out]; simp only [told, if_neg (Int.not_lt.2 hm)])⟩
theorem rundec_all (w : World) (s : ByteArray) (most : Int) (hs : s.size ≤ 9223372036854775807) :
    Calls Tryd.prog 24 #[.string s, .int .i64 most] w fun e w' => e = .returned (.tuple #[.int .i64 (undecB s most).1, .int .i64 (undecB s most).2]) ∧ Below w.heap.size w w' :=
  undec_both _ w s most (fun h => (rundec_short w s most hs h).mono fun _ _ ⟨a, b⟩ => ⟨a, by rw [b]; exact Below.refl _ _⟩) (fun h h1 h48 => (rundec_lead w s most h h1 h48).mono fun _ _ ⟨a, b⟩ => ⟨a, by rw [b]; exact Below.refl _ _⟩)
    (fun h h1 h48 => (rundec_loop w s most h h1 h48).mono fun _ _ ⟨a, b⟩ => ⟨b, by rw [a]; exact Below.refl _ _⟩)
end Go.Proofs.YtjbnbaiidpdpoaaDoor.Wm
/-
  The document's Parse: how far a text is read (plain).
-/
namespace Go.Proofs.YtjbnbaiidpdpoaaDoor.Wm
open Go.RowKit Go.Maps
open Wd (Md)
set_option linter.unusedSimpArgs false
set_option linter.unusedVariables false

theorem wordsA_len : ∀ (l acc : List UInt8), (wordsA acc l).length ≤ l.length + 1 ∧ ∀ x ∈ wordsA acc l, x.length ≤ acc.length + l.length
  | [], acc => by simp [wordsA]
  | c :: l, acc => by
    rw [wordsA]
    split
    · have h := wordsA_len l []
      refine ⟨by simp; exact h.1, fun x hx => ?_⟩
      rcases List.mem_cons.1 hx with rfl | hx
      · simp
      · have := h.2 x hx; simp at this ⊢; omega
    · have h := wordsA_len l (acc ++ [c])
      refine ⟨by simp; omega, fun x hx => ?_⟩
      have := h.2 x hx
      simp at this ⊢; omega
theorem wordsA_ne : ∀ (l acc : List UInt8), wordsA acc l ≠ []
  | [], acc => by simp [wordsA]
  | c :: l, acc => by
    rw [wordsA]
    split
    · simp
    · exact wordsA_ne l _
theorem wordsB_ok {x : List UInt8} (hx : x.length ≤ 65536) : 1 ≤ (wordsB x).length ∧ (wordsB x).length ≤ 65537 ∧ ∀ y ∈ wordsB x, y.size ≤ 65536 := by
  have h := wordsA_len x []
  have h1 := wordsA_ne x []
  unfold wordsB
  rw [List.length_map]
  refine ⟨?_, by omega, fun y hy => ?_⟩
  · cases e : wordsA [] x with
    | nil => exact absurd e h1
    | cons => simp
  · obtain ⟨z, hz, rfl⟩ := List.mem_map.1 hy
    rw [baOf_size]
    have := h.2 z hz
    simp at this; omega
structure LI (s : ByteArray) (k j : Nat) (U : List (List Int)) (V : List (List ByteArray)) : Prop where
  hk : k ≤ s.size
  hj : j ≤ k
  run : runL U V (linesA ((s.data.toList.take k).drop j) (s.data.toList.drop k)) = docR s.data.toList
  len : V.length = U.length
  le : U.length ≤ 512
  fu : ∀ r ∈ U, r.length ≤ 65538 ∧ ∀ i ∈ r, 0 ≤ i ∧ i ≤ 512
  fv : ∀ r ∈ V, r.length ≤ 65538 ∧ ∀ y ∈ r, y.size ≤ 65536
theorem LI.start (s : ByteArray) : LI s 0 0 [] [] := ⟨by omega, by omega, by simp [docR], rfl, by simp, fun r h => (by cases h), fun r h => (by cases h)⟩
theorem at_byte {s : ByteArray} {k : Nat} (hk : k < s.size) {c : UInt8} (hc : ((s[k].toNat : Int) == (c.toNat : Int)) = true) : s.data.toList[k]'hk = c := by
  have h4 : (s[k].toNat : Int) = (c.toNat : Int) := eq_of_beq hc
  have h5 : s[k].toNat = c.toNat := by omega
  exact UInt8.toNat_inj.1 h5
theorem at_no {s : ByteArray} {k : Nat} (hk : k < s.size) {c : UInt8} (hc : ((s[k].toNat : Int) == (c.toNat : Int)) = false) : ¬ s.data.toList[k]'hk = c := fun e => by
  have e2 : s[k] = s.data.toList[k]'hk := rfl
  rw [e2, e] at hc
  simp at hc
theorem LI.skip {s : ByteArray} {k j : Nat} {U : List (List Int)} {V : List (List ByteArray)} (h : LI s k j U V) (hk : k < s.size) (hc : ((s[k].toNat : Int) == 10) = false) : LI s (k + 1) j U V := by
  have hl : k < s.data.toList.length := hk
  have hr := h.run
  rw [drop_at _ k hl, linesA, if_neg (at_no (c := 10) hk hc)] at hr
  exact ⟨hk, by have := h.hj; omega, by rw [take_drop_succ h.hj hl]; exact hr, h.len, h.le, h.fu, h.fv⟩
theorem LI.line {s : ByteArray} {k j : Nat} {U : List (List Int)} {V : List (List ByteArray)} (h : LI s k j U V) (hk : k < s.size) (hc : ((s[k].toNat : Int) == 10) = true) :
    runL U V ((s.extract j k).data.toList :: linesA [] (s.data.toList.drop (k + 1))) = docR s.data.toList := by
  have hl : k < s.data.toList.length := hk
  have hr := h.run
  rw [drop_at _ k hl, linesA, if_pos (at_byte (c := 10) hk hc)] at hr
  rw [baOf_extract]
  exact hr
theorem LI.bad {s : ByteArray} {k j : Nat} {U : List (List Int)} {V : List (List ByteArray)} (h : LI s k j U V) (hk : k < s.size) (hc : ((s[k].toNat : Int) == 10) = true)
    (hb : runW [] [] false ((wordsB (s.extract j k).data.toList).drop 1) = none) : docR s.data.toList = none := by
  rw [← h.line hk hc, runL, hb]
theorem LI.many {s : ByteArray} {k j : Nat} {U : List (List Int)} {V : List (List ByteArray)} (h : LI s k j U V) (hk : k < s.size) (hc : ((s[k].toNat : Int) == 10) = true) {u : List Int} {v : List ByteArray}
    (hb : runW [] [] false ((wordsB (s.extract j k).data.toList).drop 1) = some (u, v)) (hm : 512 < U.length + 1) : docR s.data.toList = none := by
  rw [← h.line hk hc, runL, hb]
  exact if_pos hm
theorem LI.next {s : ByteArray} {k j : Nat} {U : List (List Int)} {V : List (List ByteArray)} (h : LI s k j U V) (hk : k < s.size) (hc : ((s[k].toNat : Int) == 10) = true) {u : List Int} {v : List ByteArray}
    (hb : runW [] [] false ((wordsB (s.extract j k).data.toList).drop 1) = some (u, v)) (hm : ¬ 512 < U.length + 1) (hu : u.length ≤ 65538 ∧ ∀ i ∈ u, 0 ≤ i ∧ i ≤ 512) (hv : v.length ≤ 65538 ∧ ∀ y ∈ v, y.size ≤ 65536) : LI s (k + 1) (k + 1) (U ++ [u]) (V ++ [v]) := by
  refine ⟨hk, Nat.le_refl _, ?_, by simp [h.len], by simp; omega, fun r hr => ?_, fun r hr => ?_⟩
  · rw [← h.line hk hc, take_drop_self, runL, hb]
    exact (if_neg hm).symm
  · rcases List.mem_append.1 hr with hr | hr
    · exact h.fu r hr
    · rw [List.mem_singleton.1 hr]; exact hu
  · rcases List.mem_append.1 hr with hr | hr
    · exact h.fv r hr
    · rw [List.mem_singleton.1 hr]; exact hv
theorem LI.fin {s : ByteArray} {j : Nat} {U : List (List Int)} {V : List (List ByteArray)} (h : LI s s.size j U V) : docR s.data.toList = some ⟨U, V⟩ := by
  rw [← h.run, List.drop_of_length_le (show s.data.toList.length ≤ s.size from Nat.le_refl _)]
  rfl
structure WI (ws : List ByteArray) (q : Nat) (u : List Int) (v : List ByteArray) (nm : Bool) : Prop where
  hq : 1 ≤ q
  run : runW u v nm (ws.drop q) = runW [] [] false (ws.drop 1)
  lu : u.length ≤ q
  lv : v.length ≤ q
  fu : ∀ i ∈ u, 0 ≤ i ∧ i ≤ 512
  fv : ∀ y ∈ v, y.size ≤ 65536
theorem WI.start (ws : List ByteArray) : WI ws 1 [] [] false := ⟨by omega, rfl, by simp, by simp, fun i h => (by cases h), fun y h => (by cases h)⟩
theorem dropB (l : List ByteArray) (k : Nat) (h : k < l.length) : l.drop k = l[k] :: l.drop (k + 1) := List.drop_eq_getElem_cons h
theorem WI.colon {ws : List ByteArray} {q : Nat} {u : List Int} {v : List ByteArray} {nm : Bool} (h : WI ws q u v nm) (hq : q < ws.length) (hx : ws[q] = baOf [58]) : WI ws (q + 1) u v true := by
  have hr := h.run
  rw [dropB _ q hq, runW, if_pos hx] at hr
  exact ⟨by omega, hr, by have := h.lu; omega, by have := h.lv; omega, h.fu, h.fv⟩
theorem WI.name {ws : List ByteArray} {q : Nat} {u : List Int} {v : List ByteArray} (h : WI ws q u v true) (hq : q < ws.length) (hx : ¬ ws[q] = baOf [58]) (hs : ws[q].size ≤ 65536) : WI ws (q + 1) u (v ++ [ws[q]]) true := by
  have hr := h.run
  rw [dropB _ q hq, runW, if_neg hx, if_pos rfl] at hr
  refine ⟨by omega, hr, by have := h.lu; omega, by rw [List.length_append]; have := h.lv; simp; omega, h.fu, fun y hy => ?_⟩
  rcases List.mem_append.1 hy with hy | hy
  · exact h.fv y hy
  · rw [List.mem_singleton.1 hy]; exact hs
theorem WI.arrow {ws : List ByteArray} {q : Nat} {u : List Int} {v : List ByteArray} (h : WI ws q u v false) (hq : q < ws.length) (hx : ¬ ws[q] = baOf [58]) (hy : ws[q] = baOf [62]) : WI ws (q + 1) u v false := by
  have hr := h.run
  rw [dropB _ q hq, runW, if_neg hx, if_neg (by simp), if_pos hy] at hr
  exact ⟨by omega, hr, by have := h.lu; omega, by have := h.lv; omega, h.fu, h.fv⟩
theorem undec_fits (x : ByteArray) (most : Int) : ((undecB x most).2 = 0 ∧ 0 ≤ (undecB x most).1 ∧ (undecB x most).1 ≤ most) ∨ (undecB x most).2 = 2 := by
  unfold undecB
  split
  · exact Or.inr rfl
  · split
    · exact Or.inr rfl
    · unfold told
      split
      · exact Or.inr rfl
      · split
        · exact Or.inr rfl
        · refine Or.inl ⟨rfl, ?_, ?_⟩
          · simp only; omega
          · simp only; omega
theorem WI.num {ws : List ByteArray} {q : Nat} {u : List Int} {v : List ByteArray} (h : WI ws q u v false) (hq : q < ws.length) (hx : ¬ ws[q] = baOf [58]) (hy : ¬ ws[q] = baOf [62]) (hn : (undecB ws[q] 512).2 = 0 ∧ 0 ≤ (undecB ws[q] 512).1 ∧ (undecB ws[q] 512).1 ≤ 512) : WI ws (q + 1) (u ++ [(undecB ws[q] 512).1]) v false := by
  have hr := h.run
  rw [dropB _ q hq, runW, if_neg hx, if_neg (by simp), if_neg hy, if_pos hn.1] at hr
  refine ⟨by omega, hr, by rw [List.length_append]; have := h.lu; simp; omega, by have := h.lv; omega, fun i hi => ?_, h.fv⟩
  rcases List.mem_append.1 hi with hi | hi
  · exact h.fu i hi
  · rw [List.mem_singleton.1 hi]; exact hn.2
theorem WI.none {ws : List ByteArray} {q : Nat} {u : List Int} {v : List ByteArray} (h : WI ws q u v false) (hq : q < ws.length) (hx : ¬ ws[q] = baOf [58]) (hy : ¬ ws[q] = baOf [62]) (hn : (undecB ws[q] 512).2 = 2) : runW [] [] false (ws.drop 1) = none := by
  have hr := h.run
  rw [dropB _ q hq, runW, if_neg hx, if_neg (by simp), if_neg hy, if_neg (by rw [hn]; decide)] at hr
  exact hr.symm
theorem WI.fin {ws : List ByteArray} {q : Nat} {u : List Int} {v : List ByteArray} {nm : Bool} (h : WI ws q u v nm) (hq : ws.length ≤ q) : runW [] [] false (ws.drop 1) = some (u, v) := by
  rw [← h.run, List.drop_of_length_le hq]
  rfl
theorem po_no {s : ByteArray} (h : docR s.data.toList = none) : ¬ PO s := fun hp => by
  have := (po_doc hp).2.1
  rw [h] at this; cases this
theorem po_one {s : ByteArray} {m : Md} (hr : docR s.data.toList = some m) (hp : PO s) : mdL (linesB s) = m ∧ textF m = s.data.toList ∧ Wd.Good m := by
  have h := po_doc hp
  have e : mdL (linesB s) = m := Option.some.inj (h.2.1.symm.trans hr)
  rw [← e]
  exact ⟨rfl, h.2.2⟩
theorem fit_doc {m : Md} (hl : m.val.length = m.up.length) (h5 : m.up.length ≤ 512) (hu : ∀ r ∈ m.up, r.length ≤ 65538 ∧ ∀ i ∈ r, 0 ≤ i ∧ i ≤ 512) (hv : ∀ r ∈ m.val, r.length ≤ 65538 ∧ ∀ y ∈ r, y.size ≤ 65536) : Fit m :=
  ⟨by omega, by omega, fun r hr => ⟨by have := (hu r hr).1; omega, fun i hi => by have := (hu r hr).2 i hi; omega⟩, fun r hr => ⟨by have := (hv r hr).1; omega, fun y hy => by have := (hv r hr).2 y hy; omega⟩⟩
end Go.Proofs.YtjbnbaiidpdpoaaDoor.Wm
