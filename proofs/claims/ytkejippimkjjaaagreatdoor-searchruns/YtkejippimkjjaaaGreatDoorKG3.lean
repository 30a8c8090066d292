/-
  A map whose keys are sequents: what it tells is the place of the last step of a sequent. No condition.
-/
import Derived.Test.YtkejippimkjjaaaGreatDoorKG2
import Derived.Test.YtkejippimkjjaaaGreatDoorZSeq
import Derived.Test.YtkejippimkjjaaaGreatDoorZH1
import Derived.Test.YtkejippimkjjaaaGreatDoorZG6
import Derived.Laws.ResultCell
import Derived.Maps.AppendAt
namespace Go.Proofs.YtkejippimkjjaaaGreatDoor
open Go.RowKit Go.Shelf Go.Maps
open Fm (Nd)
open Bt.Bs (Ok wd)
set_option linter.unusedSimpArgs false

def gq (s : SQ) : Prop := Ok s.1 ∧ Fm.i64 s.2
def litsQ (s : SQ) : List Lit := s.1.map (fun x : Nat => Lit.int .u64 (x : Int)) ++ [.int .i64 s.2]
def klQ (s : SQ) : Lit := .string (keyBytes (litsQ s))
theorem lawQ : Keyed Tryz.prog 27 := Keyed.of_law (deep_law_laid (m := 3) laidOut (by omega) (of_decide_eq_true (by kernel_rfl)) (by kernel_rfl) (by kernel_rfl))
theorem mapM_some {α β : Type} {f : α → Option β} {g : α → β} : ∀ (l : List α), (∀ x ∈ l, f x = some (g x)) → l.mapM f = some (l.map g)
  | [], _ => by simp
  | x :: l, h => by
    rw [List.mapM_cons, h x (List.mem_cons_self ..), mapM_some l (fun y hy => h y (List.mem_cons_of_mem _ hy))]
    rfl
theorem cells_seq : Tryz.prog.cellsOf 27 = 17 := by kernel_rfl
theorem cells_bits : Tryz.prog.cellsOf 25 = 16 := by kernel_rfl
theorem fieldsQ1 : (Tryz.prog.fieldsOf 27).toList.map (fun f => (f.name, f.type, f.offset)) = [("Left", 25, 0), ("Goal", 3, 16)] := by kernel_rfl
theorem underQ : Tryz.prog.underlying 27 = some (.struct (Tryz.prog.fieldsOf 27)) := by kernel_rfl
theorem wf_u64 {x : Nat} (h : x < 18446744073709551616) : (Lit.int .u64 (x : Int)).wf = true := by
  have h1 : IntKind.u64.min = 0 := by decide
  have h2 : IntKind.u64.max = 18446744073709551615 := by decide
  simp [Lit.wf, h1, h2]
  omega
theorem keyLits_u64 (d : Nat) {x : Nat} (h : x < 18446744073709551616) : Tryz.prog.keyLits (d + 1) 23 [.int .u64 (x : Int)] = some [.int .u64 (x : Int)] := by
  simp [Program.keyLits, Tryz.underlying23, wf_u64 h]
theorem listB_ln {r : List Nat} (h : r.length = 16) : (Bt.listB r).length = 16 := by simp [Bt.listB, h]
theorem flat_one {α : Type} : ∀ l : List α, (l.map fun x => [x]).flatten = l
  | [] => rfl
  | x :: l => by simp [flat_one l]
theorem drop_take {α : Type} {l : List α} {i : Nat} (h : i < l.length) : (l.drop i).take 1 = [l[i]] := by
  rw [List.drop_eq_getElem_cons h, List.take_succ_cons, List.take_zero]
theorem keyLits_bits (d : Nat) {r : List Nat} (hr : Ok r) : Tryz.prog.keyLits (d + 1 + 1) 25 (Bt.listB r) = some (r.map fun x : Nat => Lit.int .u64 (x : Int)) := by
  have hl := hr.1
  have hlb : (Bt.listB r).length = 16 := listB_ln hl
  unfold Program.keyLits
  simp only [Bt.under25, hlb, cells_bits, if_true, Bt.cells23, Nat.mul_one]
  rw [mapM_some (g := fun i => [Lit.int .u64 ((wd r i : Nat) : Int)]) (List.range 16) (fun i hi => by
    have hi := List.mem_range.1 hi
    rw [drop_take (by rw [hlb]; exact hi)]
    have e : (Bt.listB r)[i]'(by rw [hlb]; exact hi) = .int .u64 ((wd r i : Nat) : Int) := by
      simp [Bt.listB, wd, List.getD, hl, hi]
    rw [e]
    refine keyLits_u64 d (hr.2 _ ?_)
    simp [wd, List.getD, hl, hi])]
  match r, hl with
  | [_, _, _, _, _, _, _, _, _, _, _, _, _, _, _, _], _ => rfl
theorem keyLits_seq (d : Nat) {s : SQ} (h : gq s) : Tryz.prog.keyLits (d + 1 + 1 + 1) 27 (cellsQ s.1 s.2).toList = some (litsQ s) := by
  have hl := h.1.1
  have hlb : (Bt.listB s.1).length = 16 := listB_ln hl
  have hlc : (cellsQ s.1 s.2).toList = Bt.listB s.1 ++ [.int .i64 s.2] := rfl
  obtain ⟨f1, f2, hfs, ⟨m1, t1, o1⟩, m2, t2, o2⟩ := fields_two fieldsQ1
  unfold Program.keyLits
  simp only [underQ]
  rw [if_pos ⟨by rw [hlc, List.length_append, hlb, cells_seq]; rfl, by
    rw [← Array.all_toList, hfs]
    simp [m1, m2]⟩, hfs]
  rw [mapM_some (g := fun f : Field => if f.offset = 0 then s.1.map (fun x : Nat => Lit.int .u64 (x : Int)) else [.int .i64 s.2]) [f1, f2] (fun f hf => by
    rcases List.mem_cons.1 hf with rfl | hf
    · rw [t1, o1, if_pos rfl, cells_bits, hlc, List.drop_zero]
      rw [List.take_append_of_le_length (by omega), List.take_of_length_le (by omega)]
      exact keyLits_bits d h.1
    · obtain rfl := List.mem_singleton.1 hf
      rw [t2, o2, if_neg (by omega), cells_int, hlc, List.drop_append_of_le_length (by omega), List.drop_of_length_le (by omega), List.nil_append]
      have := wf64 h.2
      simp [Program.keyLits, Tryz.underlying3, this])]
  simp [o1, o2, litsQ]
theorem key_seq {s : SQ} (h : gq s) : keyOf Tryz.prog 27 (.agg (cellsQ s.1 s.2)) = some (klQ s) := by
  have hts : Tryz.prog.types.size + 1 = 195 - 1 + 1 + 1 + 1 := by kernel_rfl
  have hkt : Tryz.prog.keyType 27 = true := by kernel_rfl
  unfold keyOf
  simp only [underQ, hkt, Bool.true_and]
  rw [if_pos (by simp [Value.formed, underQ, cells_seq, cellsQ_size h.1.1])]
  rw [hts]
  show (Tryz.prog.keyLits _ 27 (cellsQ s.1 s.2).toList).map _ = _
  rw [keyLits_seq _ h]
  rfl
theorem keyQ_inj {a b : SQ} (ha : gq a) (hb : gq b) (h : klQ a = klQ b) : a = b := by
  have e := lawQ.inj (key_seq ha) (h ▸ key_seq hb)
  have e : cellsQ a.1 a.2 = cellsQ b.1 b.2 := by injection e
  have e : Bt.listB a.1 ++ [Value.int .i64 a.2] = Bt.listB b.1 ++ [Value.int .i64 b.2] := by
    have := congrArg Array.toList e
    exact this
  obtain ⟨e1, e2⟩ := List.append_inj' e rfl
  have e2 : a.2 = b.2 := by simpa using e2
  have e1 : a.1 = b.1 := by
    unfold Bt.listB at e1
    refine (List.map_inj_right (fun x y hxy => ?_)).1 e1
    injection hxy with _ h
    omega
  exact Prod.ext e1 e2
structure TiedQ (D : DataW Unit) (st : List Stp) : Prop where
  map : IsMap D
  tidy : Tidy D
  size : Maps.size D ≤ st.length
  has : ∀ s, gq s → Maps.has D (klQ s) = (look st s).isSome
  num : ∀ s p, gq s → look st s = some p → ∀ z, D.atKey (klQ s) z = .lit (.int .i64 (p : Int))
abbrev ownsQ (w : World) (m : Nat) (D : DataW Unit) : Prop := w.ownsMap Tryz.prog 27 (plainElem Tryz.prog 3) m (Maps.size D) D
theorem ownQ_size {w : World} {m n : Nat} {D : DataW Unit} (h : w.ownsMap Tryz.prog 27 (plainElem Tryz.prog 3) m n D) : ownsQ w m D := by
  obtain ⟨es, clock, hb, F, _, rfl⟩ := h
  refine ⟨es, clock, hb, F, ?_, rfl⟩
  simp [Maps.size, length_sorted]
theorem klQ_key {s : SQ} (h : gq s) : WideAt.IsKeyLit (klQ s) := lawQ.key (key_seq h)
theorem tiedQ_nil : TiedQ (.map []) [] := ⟨isMap_empty, tidy_empty, Nat.le_refl _, fun s _ => by simp [Maps.has, look_nil], fun s p _ h => by cases h⟩
theorem TiedQ.put {D : DataW Unit} {st : List Stp} (h : TiedQ D st) {x : Stp} (hx : gq x.s) : TiedQ (D.put (klQ x.s) (.lit (.int .i64 (st.length : Int)))) (st ++ [x]) := by
  have hk := klQ_key hx
  refine ⟨h.map.put _ _, h.tidy.put hk _, ?_, fun s hs => ?_, fun s p hs hp z => ?_⟩
  · rw [size_put h.tidy]
    have := h.size
    rw [List.length_append, List.length_singleton]
    split <;> omega
  · rw [look_snoc]
    by_cases e : x.s = s
    · subst e
      rw [has_put_same h.map hk, if_pos rfl]
      rfl
    · rw [has_put_other (fun e' => e (keyQ_inj hx hs e'.symm)), h.has s hs, if_neg e]
  · rw [look_snoc] at hp
    by_cases e : x.s = s
    · subst e
      rw [if_pos rfl] at hp
      cases hp
      rw [atKey_put_same h.map hk]
    · rw [if_neg e] at hp
      rw [atKey_put_other (fun e' => e (keyQ_inj hx hs e'.symm))]
      exact h.num s p hs hp z
theorem lookQ {w : World} {m : Nat} {D : DataW Unit} {st : List Stp} (h : ownsQ w m D) (hT : TiedQ D st) {s : SQ} (hs : gq s) :
    (Instr.lookup 60 (.map (some m)) (.agg (cellsQ s.1 s.2)) true).run Tryz.prog w = .ok (.tuple #[.int .i64 (((look st s).getD 0 : Nat) : Int), .bool (look st s).isSome]) w := by
  obtain ⟨v, ps, hrun, hv⟩ := h.look_ok lawQ Tryz.underlying60 (zero_int w) (plainElem_int Tryz.underlying3 (by decide)) (key_seq hs)
  obtain ⟨c, rfl, hc, _⟩ := plainElem_int_inv Tryz.underlying3 hv
  rw [hrun, hT.has s hs]
  have e : c = (((look st s).getD 0 : Nat) : Int) := by
    have h1 := congrArg Prod.fst hc
    simp only at h1
    cases hl : look st s with
    | some p =>
      rw [hT.num s p hs hl] at h1
      simpa using h1.symm
    | none =>
      rw [atKey_of_not_has (by rw [hT.has s hs, hl]; rfl)] at h1
      simpa using h1.symm
  rw [e]
theorem storeQm {w : World} {m : Nat} {D : DataW Unit} {st : List Stp} (h : ownsQ w m D) (hT : TiedQ D st) (hl : st.length ≤ 1048576) {x : Stp} (hx : gq x.s) :
    ∃ w', (Instr.mapUpdate 60 (.map (some m)) (.agg (cellsQ x.s.1 x.s.2)) (.int .i64 (st.length : Int))).run Tryz.prog w = .ok () w' ∧ (∃ D', ownsQ w' m D' ∧ TiedQ D' (st ++ [x])) ∧ Kp (fun k => k = m) w w' := by
  obtain ⟨w3, hrun, hown, hturn⟩ := World.ownsMap.store (w := w) h lawQ Tryz.underlying60 (by have := hT.size; unfold maxLen; omega) (key_seq hx) (plainElem_int (a := (st.length : Int)) Tryz.underlying3 (WalkArith.wf_i64 (by omega)))
  exact ⟨w3, hrun, ⟨_, ownQ_size hown, hT.put hx⟩, ⟨hturn.grown.os, hturn.grown.tape, hturn.grown.output, hturn.grown.size, fun k hk hne => hturn.grown.block k hk (fun e => hne (by simpa using e))⟩⟩
end Go.Proofs.YtkejippimkjjaaaGreatDoor
/-
  Rows of steps in memory; a search on its way; what stays of it. No condition.
-/
namespace Go.Proofs.YtkejippimkjjaaaGreatDoor
open Go.RowKit Go.Shelf Go.Maps
open Fm (Nd)
open Bt.Bs (Ok wd)
set_option linter.unusedSimpArgs false

def kdV (l : List Nat) : List Value := l.map fun k : Nat => Value.int .i64 (k : Int)
def stpL (x : Stp) (kv : Value) : List Value := Bt.listB x.s.1 ++ [.int .i64 x.s.2, .bool x.pv, .int .i64 x.ru, .int .i64 x.mn, kv]
def stpC (x : Stp) (kv : Value) : Array Value := (stpL x kv).toArray
theorem stpL_len {x : Stp} (h : x.s.1.length = 16) (kv : Value) : (stpL x kv).length = 21 := by simp [stpL, Bt.listB, h]
theorem stpC_size {x : Stp} (h : x.s.1.length = 16) (kv : Value) : (stpC x kv).size = 21 := by simp [stpC, stpL_len h]
def stsL : List Stp → List Value → List Value
  | x :: st, kv :: kvs => stpL x kv ++ stsL st kvs
  | _, _ => []
theorem stsL_snoc (x : Stp) (kv : Value) : ∀ (st : List Stp) (kvs : List Value), kvs.length = st.length → stsL (st ++ [x]) (kvs ++ [kv]) = stsL st kvs ++ stpL x kv
  | [], [], _ => by simp [stsL]
  | y :: st, k :: kvs, h => by
    show stpL y k ++ stsL (st ++ [x]) (kvs ++ [kv]) = _
    rw [stsL_snoc x kv st kvs (by simpa using h), ← List.append_assoc]
    rfl
  | [], _ :: _, h => by simp at h
  | _ :: _, [], h => by simp at h
theorem stsL_at : ∀ (st : List Stp) (kvs : List Value), (∀ x ∈ st, x.s.1.length = 16) → ∀ (i j : Nat) (x : Stp) (kv : Value), st[i]? = some x → kvs[i]? = some kv → j < 21 → (stsL st kvs)[i * 21 + j]? = (stpL x kv)[j]?
  | y :: st, k :: kvs, hl, 0, j, x, kv, hx, hk, hj => by
    simp at hx hk
    subst hx
    subst hk
    show (stpL y k ++ _)[0 * 21 + j]? = _
    rw [List.getElem?_append_left (by rw [stpL_len (hl y (List.mem_cons_self ..))]; omega)]
    simp
  | y :: st, k :: kvs, hl, i + 1, j, x, kv, hx, hk, hj => by
    show (stpL y k ++ _)[(i + 1) * 21 + j]? = _
    rw [List.getElem?_append_right (by rw [stpL_len (hl y (List.mem_cons_self ..))]; omega), stpL_len (hl y (List.mem_cons_self ..)), show (i + 1) * 21 + j - 21 = i * 21 + j by omega]
    exact stsL_at st kvs (fun z hz => hl z (List.mem_cons_of_mem _ hz)) i j x kv (by simpa using hx) (by simpa using hk) hj
  | [], _, _, _, _, _, _, hx, _, _ => by simp at hx
  | _ :: _, [], _, _, _, _, _, _, hk, _ => by simp at hk
theorem stpL_pv {x : Stp} (h : x.s.1.length = 16) (kv : Value) : (stpL x kv)[17]? = some (.bool x.pv) := by
  have hl : (Bt.listB x.s.1).length = 16 := listB_ln h
  unfold stpL
  rw [List.getElem?_append_right (by omega), hl]
  rfl
theorem stpL_kd {x : Stp} (h : x.s.1.length = 16) (kv : Value) : (stpL x kv)[20]? = some kv := by
  have hl : (Bt.listB x.s.1).length = 16 := listB_ln h
  unfold stpL
  rw [List.getElem?_append_right (by omega), hl]
  rfl
theorem own_oneC {w : World} {base n : Nat} {e : TypeId} {v : Value} {xs : List Value} (h : w.ownsRow base e 1 v n xs) : v.oneCell' = true := by
  rcases h.2 with ⟨rfl, _⟩ | ⟨g, cap, cur, rfl, _⟩ <;> rfl
theorem stpL_one (x : Stp) {kv : Value} (hk : kv.oneCell' = true) : ∀ u ∈ stpL x kv, u.oneCell' = true := by
  intro u hu
  unfold stpL Bt.listB at hu
  rcases List.mem_append.1 hu with hu | hu
  · obtain ⟨n, _, rfl⟩ := List.mem_map.1 hu
    rfl
  · simp only [List.mem_cons, List.not_mem_nil, or_false] at hu
    rcases hu with rfl | rfl | rfl | rfl | rfl
    · rfl
    · rfl
    · rfl
    · rfl
    · exact hk
theorem stpC_one (x : Stp) {kv : Value} (hk : kv.oneCell' = true) : (stpC x kv).all (·.oneCell') = true := by
  rw [Array.all_eq_true_iff_forall_mem]
  intro u hu
  exact stpL_one x hk u (by simpa [stpC] using hu)
structure Sts (w : World) (base : Nat) (sv : Value) (st : List Stp) (kvs : List Value) : Prop where
  ok : ∀ x ∈ st, Ok x.s.1
  len : kvs.length = st.length
  row : w.ownsRow base 46 21 sv st.length (stsL st kvs)
  kid : ∀ (i : Nat) (x : Stp) (kv : Value), st[i]? = some x → kvs[i]? = some kv → w.ownsRow base 3 1 kv x.kd.length (kdV x.kd)
def Kb (kvs : List Value) (k : Nat) : Prop := ∃ u ∈ kvs, u.ownBlock = some k
section
variable {w w' : World} {base : Nat} {sv : Value} {st : List Stp} {kvs : List Value}
theorem Sts.kb (h : Sts w base sv st kvs) {k : Nat} (hk : Kb kvs k) : base ≤ k ∧ k < w.heap.size ∧ ∃ cur, w.heap[k]? = some (.cells cur 3 (0, 0)) := by
  obtain ⟨u, hu, e⟩ := hk
  obtain ⟨i, hi, rfl⟩ := List.mem_iff_getElem.1 hu
  have hi2 : i < st.length := by rw [← h.len]; exact hi
  exact own_blk (h.kid i _ _ (List.getElem?_eq_getElem hi2) (List.getElem?_eq_getElem hi)) k e
theorem Sts.keep (h : Sts w base sv st kvs) (h1 : ∀ k, sv.ownBlock = some k → w'.heap[k]? = w.heap[k]?) (h2 : ∀ k, Kb kvs k → w'.heap[k]? = w.heap[k]?) : Sts w' base sv st kvs :=
  ⟨h.ok, h.len, own_kp h.row h1, fun i x kv hx hv => own_kp (h.kid i x kv hx hv) fun k e => h2 k ⟨kv, List.mem_of_getElem? hv, e⟩⟩
theorem Sts.blk (h : Sts w base sv st kvs) {k : Nat} (e : sv.ownBlock = some k) : base ≤ k ∧ k < w.heap.size ∧ ∃ cur, w.heap[k]? = some (.cells cur 46 (0, 0)) := own_blk h.row k e
theorem Sts.form (h : Sts w base sv st kvs) : ∃ p c, sv = .slice p st.length c := by
  rcases h.row.2 with ⟨rfl, h0⟩ | ⟨g, cap, cur, rfl, _⟩
  · exact ⟨none, 0, by rw [h0]⟩
  · exact ⟨_, _, rfl⟩
theorem Sts.pv (h : Sts w base sv st kvs) {i : Nat} {x : Stp} (hx : st[i]? = some x) : ∃ g cap, sv = .slice (some ⟨g, 0, none⟩) st.length cap ∧ w.cell? ⟨g, i * 21 + 17, none⟩ = some (.bool x.pv) := by
  have hi := (List.getElem?_eq_some_iff.1 hx).1
  have hl := h.len
  rcases h.row.2 with ⟨rfl, h0⟩ | ⟨g, cap, cur, rfl, _, hh, h1, h2, h3, h4⟩
  · omega
  · refine ⟨g, cap, rfl, ?_⟩
    have hki : i < kvs.length := by omega
    have e := stsL_at st kvs (fun y hy => (h.ok y hy).1) i 17 x kvs[i] hx (List.getElem?_eq_getElem hki) (by omega)
    rw [stpL_pv (h.ok x (List.mem_of_getElem? hx)).1, ← h4, List.getElem?_take, if_pos (by omega)] at e
    rw [cell_of_row w g _ cur _ _ hh]
    simpa using e
end
theorem sts_nil (w : World) (base : Nat) : Sts w base (.slice none 0 0) [] [] := ⟨fun x hx => (by cases hx), rfl, ⟨rfl, Or.inl ⟨rfl, rfl⟩⟩, fun i x kv hx => by simp at hx⟩
theorem infoS : (Tryz.prog.info? 46).map (fun i => (i.zero, i.size, i.bytes)) = some (some (.agg (stpC ⟨(Bt.Bs.zero, 0), false, 0, 0, []⟩ (.slice none 0 0))), 21, 184) := by kernel_rfl
theorem sizeS1 : (Tryz.prog.info? 46).map (·.size) = some 21 := by kernel_rfl
def stp0 : Stp := ⟨(Bt.Bs.zero, 0), false, 0, 0, []⟩
theorem zeroStp (w : World) : (zeroValue 46).run Tryz.prog w = .ok (.agg (stpC stp0 (.slice none 0 0))) w := by kernel_rfl
/-! ### the search on its way -/
def FtR (rb pm b m : Nat) (v sv : Value) (k : Nat) : Prop := k = rb ∨ k = pm ∨ sv.ownBlock = some k ∨ Ft b m v k
structure Rn (w : World) (base rb pm b m : Nat) (v sv : Value) (kvs : List Value) (B : Nat) (R : Rs) : Prop where
  run : Cl w rb #[.pointer (some ⟨b, 0, none⟩), .int .i64 (B : Int), .int .i64 (R.vs : Int), sv, .map (some pm)] 62
  tb : Tb w b m v R.t
  tz : Bt.Tz w
  sts : Sts w base sv R.st kvs
  map : ∃ D, ownsQ w pm D ∧ TiedQ D R.st
  bs : base ≤ rb ∧ base ≤ pm ∧ base ≤ w.heap.size
  ng : ¬ FtR rb pm b m v sv 0
  mne : pm ≠ m
theorem tz_kp {w w' : World} {S : Nat → Prop} (h : Bt.Tz w) (hk : Kp S w w') (hn : ¬ S 0) : Bt.Tz w' := fun j hj => by
  have hlt := Bt.tz_lt h
  have h1 := hk.block _ hlt hn
  have h2 := h j hj
  unfold World.cell? at h2 ⊢
  simp only at h2 ⊢
  rw [h1]
  exact h2
theorem own_map {w : World} {m : Nat} {D : DataW Unit} (h : ownsQ w m D) : ∃ es cl, w.heap[m]? = some (.map es cl) := by
  obtain ⟨es, cl, hb, _⟩ := h
  exact ⟨es, cl, hb⟩
theorem ownQ_kp {w w' : World} {m : Nat} {D : DataW Unit} (h : ownsQ w m D) (hb : w'.heap[m]? = w.heap[m]?) : ownsQ w' m D := by
  obtain ⟨es, cl, h1, r⟩ := h
  exact ⟨es, cl, hb.trans h1, r⟩
section
variable {w w' : World} {base rb pm b m : Nat} {v sv : Value} {kvs : List Value} {B : Nat} {R : Rs}
theorem Rn.pmlt (h : Rn w base rb pm b m v sv kvs B R) : pm < w.heap.size := by
  obtain ⟨D, hD, _⟩ := h.map
  obtain ⟨es, cl, h1⟩ := own_map hD
  exact lt_of_block h1
theorem Rn.foot (h : Rn w base rb pm b m v sv kvs B R) : ∀ k, FtR rb pm b m v sv k → k < w.heap.size := by
  rintro k (rfl | rfl | e | e)
  · exact h.run.lt
  · exact h.pmlt
  · exact (h.sts.blk e).2.1
  · exact h.tb.foot k e
theorem Rn.other (h : Rn w base rb pm b m v sv kvs B R) {k : Nat} {cs : Array Value} {T : TypeId} {fr : Nat × Nat} (hk : w.heap[k]? = some (.cells cs T fr)) (h1 : T ≠ 62) (h2 : T ≠ 91) (h3 : T ≠ 54) (h4 : T ≠ 46 ∨ sv.ownBlock ≠ some k) : ¬ FtR rb pm b m v sv k := by
  rintro (rfl | rfl | e | e)
  · have := h.run
    unfold Cl at this
    rw [hk] at this
    injection this with this
    injection this with _ e _
    exact h1 e
  · obtain ⟨D, hD, _⟩ := h.map
    obtain ⟨es, cl, h5⟩ := own_map hD
    rw [hk] at h5
    cases h5
  · rcases h4 with h4 | h4
    · obtain ⟨_, _, cur, hc⟩ := h.sts.blk e
      rw [hk] at hc
      injection hc with hc
      injection hc with _ e2 _
      exact h4 e2
    · exact h4 e
  · exact cells_nft hk h2 h3 h.tb e
theorem Rn.keep (h : Rn w base rb pm b m v sv kvs B R) (hs : w.heap.size ≤ w'.heap.size) (h1 : ∀ k, FtR rb pm b m v sv k → w'.heap[k]? = w.heap[k]?) (h2 : ∀ k, Kb kvs k → w'.heap[k]? = w.heap[k]?) (hz : Bt.Tz w') : Rn w' base rb pm b m v sv kvs B R := by
  obtain ⟨D, hD, hT⟩ := h.map
  exact ⟨(h1 rb (Or.inl rfl)).trans h.run, h.tb.keep fun k hk => h1 k (Or.inr (Or.inr (Or.inr hk))), hz, h.sts.keep (fun k e => h1 k (Or.inr (Or.inr (Or.inl e)))) h2, ⟨D, ownQ_kp hD (h1 pm (Or.inr (Or.inl rfl))), hT⟩, ⟨h.bs.1, h.bs.2.1, Nat.le_trans h.bs.2.2 hs⟩, h.ng, h.mne⟩
theorem Rn.later (h : Rn w base rb pm b m v sv kvs B R) (hb : Below w.heap.size w w') : Rn w' base rb pm b m v sv kvs B R := h.keep hb.size (fun k hk => hb.block k (h.foot k hk)) (fun k hk => hb.block k (h.sts.kb hk).2.1) (Bt.tz_block h.tz hb)
theorem Rn.drew (h : Rn w base rb pm b m v sv kvs B R) : Rn w.drew base rb pm b m v sv kvs B R := h.keep (Nat.le_refl _) (fun _ _ => rfl) (fun _ _ => rfl) h.tz
end
theorem Rn.nkb {w : World} {base rb pm b m : Nat} {v sv : Value} {kvs : List Value} {B : Nat} {R : Rs} (h : Rn w base rb pm b m v sv kvs B R) {k : Nat} (hk : Kb kvs k) : ¬ FtR rb pm b m v sv k := by
  obtain ⟨_, _, cur, hc⟩ := h.sts.kb hk
  exact h.other hc (by decide) (by decide) (by decide) (Or.inl (by decide))
structure AfR (w w' : World) (rb pm b m : Nat) (v sv : Value) (kvs : List Value) (v' sv' : Value) (kvs' : List Value) : Prop where
  lv : Lies w.heap.size v v'
  ls : Lies w.heap.size sv sv'
  lk : ∀ k, Kb kvs' k → Kb kvs k ∨ w.heap.size ≤ k
  kp : Kp (FtR rb pm b m v sv) w w'
section
variable {w w' w2 : World} {base rb pm b m : Nat} {v sv v' sv' v2 sv2 : Value} {kvs kvs' kvs2 : List Value} {B : Nat} {R R' : Rs}
theorem AfR.refl (w : World) (rb pm b m : Nat) (v sv : Value) (kvs : List Value) : AfR w w rb pm b m v sv kvs v sv kvs := ⟨Lies.refl _ _, Lies.refl _ _, fun _ h => Or.inl h, Kp.refl _ _⟩
theorem AfR.of_below (hb : Below w.heap.size w w') : AfR w w' rb pm b m v sv kvs v sv kvs := ⟨Lies.refl _ _, Lies.refl _ _, fun _ h => Or.inl h, Kp.of_below hb⟩
theorem AfR.foot (h : AfR w w' rb pm b m v sv kvs v' sv' kvs') {k : Nat} (hk : FtR rb pm b m v' sv' k) : FtR rb pm b m v sv k ∨ w.heap.size ≤ k := by
  rcases hk with e | e | e | e
  · exact Or.inl (Or.inl e)
  · exact Or.inl (Or.inr (Or.inl e))
  · rcases h.ls k e with h1 | h1
    · exact Or.inl (Or.inr (Or.inr (Or.inl h1)))
    · exact Or.inr h1
  · rcases e with e | e | e
    · exact Or.inl (Or.inr (Or.inr (Or.inr (Or.inl e))))
    · exact Or.inl (Or.inr (Or.inr (Or.inr (Or.inr (Or.inl e)))))
    · rcases h.lv k e with h1 | h1
      · exact Or.inl (Or.inr (Or.inr (Or.inr (Or.inr (Or.inr h1)))))
      · exact Or.inr h1
theorem AfR.trans (h : AfR w w' rb pm b m v sv kvs v' sv' kvs') (k : AfR w' w2 rb pm b m v' sv' kvs' v2 sv2 kvs2) : AfR w w2 rb pm b m v sv kvs v2 sv2 kvs2 :=
  ⟨h.lv.trans k.lv h.kp.size, h.ls.trans k.ls h.kp.size, fun i hi => by
    rcases k.lk i hi with h1 | h1
    · exact h.lk i h1
    · exact Or.inr (Nat.le_trans h.kp.size h1), h.kp.trans k.kp fun _ hi => h.foot hi⟩
theorem AfR.ng (h : AfR w w' rb pm b m v sv kvs v' sv' kvs') (hz : Bt.Tz w) (hn : ¬ FtR rb pm b m v sv 0) : ¬ FtR rb pm b m v' sv' 0 := fun hk => by
  rcases h.foot hk with h1 | h1
  · exact hn h1
  · have := Bt.tz_lt hz
    omega
theorem AfR.cl (h : AfR w w' rb pm b m v sv kvs v' sv' kvs') {k : Nat} {cs : Array Value} {T : TypeId} (hc : Cl w k cs T) (hn : ¬ FtR rb pm b m v sv k) : Cl w' k cs T := (h.kp.block k hc.lt hn).trans hc
theorem Rn.table (h : Rn w base rb pm b m v sv kvs B R) {t' : List Nd} (ha : After w b m v t' w') : ∃ v', Rn w' base rb pm b m v' sv kvs B ⟨t', R.st, R.vs⟩ ∧ AfR w w' rb pm b m v sv kvs v' sv kvs := by
  obtain ⟨v', hT, hl, hk⟩ := ha
  have hA : AfR w w' rb pm b m v sv kvs v' sv kvs := ⟨hl, Lies.refl _ _, fun _ h => Or.inl h, ⟨hk.os, hk.tape, hk.output, hk.size, fun k hlt hn => hk.block k hlt (fun hf => hn (Or.inr (Or.inr (Or.inr hf))))⟩⟩
  have hz : Bt.Tz w' := tz_kp h.tz hk (fun hf => h.ng (Or.inr (Or.inr (Or.inr hf))))
  obtain ⟨D, hD, hTd⟩ := h.map
  have hpm : w'.heap[pm]? = w.heap[pm]? := hk.block pm h.pmlt (fun hf => by
    obtain ⟨es, cl, h5⟩ := own_map hD
    rcases hf with rfl | rfl | e
    · rw [h.tb.tab] at h5; cases h5
    · exact absurd rfl h.mne
    · obtain ⟨_, cur, hh⟩ := h.tb.row.lt pm e
      rw [h5] at hh; cases hh)
  refine ⟨v', ⟨(hk.block rb h.run.lt (fun hf => cells_nft h.run (by decide) (by decide) h.tb hf)).trans h.run, hT, hz, h.sts.keep (fun k e => ?_) (fun k hb => ?_), ⟨D, ownQ_kp hD hpm, hTd⟩, ⟨h.bs.1, h.bs.2.1, Nat.le_trans h.bs.2.2 hk.size⟩, hA.ng h.tz h.ng, h.mne⟩, hA⟩
  · obtain ⟨_, _, cur, hc⟩ := h.sts.blk e
    exact hk.block k (lt_of_block hc) (fun hf => cells_nft hc (by decide) (by decide) h.tb hf)
  · obtain ⟨_, _, cur, hc⟩ := h.sts.kb hb
    exact hk.block k (lt_of_block hc) (fun hf => cells_nft hc (by decide) (by decide) h.tb hf)
theorem Rn.own (h : Rn w base rb pm b m v sv kvs B R) {k : Nat} (hn : ¬ FtR rb pm b m v sv k) (hb : ¬ Kb kvs k) (hz : k ≠ 0) (hk : KpP k w w') : Rn w' base rb pm b m v sv kvs B R :=
  h.keep hk.size (fun i hi => hk.block i (h.foot i hi) (fun e => hn (e ▸ hi))) (fun i hi => hk.block i (h.sts.kb hi).2.1 (fun e => hb (e ▸ hi))) (tz_kp h.tz hk (fun e => hz e.symm))
theorem Sts.nkb {st : List Stp} (h : Sts w base sv st kvs) {k : Nat} {cs : Array Value} {T : TypeId} {fr : Nat × Nat} (hc : w.heap[k]? = some (.cells cs T fr)) (hT : T ≠ 3) : ¬ Kb kvs k := fun hk => by
  obtain ⟨_, _, cur, h2⟩ := h.kb hk
  rw [hc] at h2
  injection h2 with h2
  injection h2 with _ e2 _
  exact hT e2
end
end Go.Proofs.YtkejippimkjjaaaGreatDoor
/-
  Arms of the walks of the search: steps built, stored and loaded. No condition.
-/
namespace Go.Proofs.YtkejippimkjjaaaGreatDoor
open Go.RowKit Go.Shelf Go.Maps
open Fm (Nd)
open Bt.Bs (Ok wd)
set_option linter.unusedSimpArgs false

theorem stpC_kid {x : Stp} (h : x.s.1.length = 16) (kv u : Value) (l : List Nat) : (stpC x kv).setIfInBounds 20 u = stpC { x with kd := l } u := by
  have hl : (Bt.listB x.s.1).length = 16 := listB_ln h
  unfold stpC stpL
  rw [List.setIfInBounds_toArray, List.set_append_right _ _ (by omega), hl]
  rfl
theorem stpC_prv {x : Stp} (h : x.s.1.length = 16) (kv : Value) (p : Bool) : (stpC x kv).setIfInBounds 17 (.bool p) = stpC { x with pv := p } kv := by
  have hl : (Bt.listB x.s.1).length = 16 := listB_ln h
  unfold stpC stpL
  rw [List.setIfInBounds_toArray, List.set_append_right _ _ (by omega), hl]
  rfl
theorem stpC_cell {w : World} {b : Nat} {x : Stp} (h : x.s.1.length = 16) {kv : Value} (hc : Cl w b (stpC x kv) 46) : w.cell? ⟨b, 20, none⟩ = some kv ∧ w.cell? ⟨b, 17, none⟩ = some (.bool x.pv) := by
  rw [hc.cell, hc.cell]
  unfold stpC
  rw [List.getElem?_toArray, List.getElem?_toArray]
  exact ⟨stpL_kd h kv, stpL_pv h kv⟩
theorem results_step {fn : Func} {p q : Tmp} (h : fn.results = #[.cell p 46, .tmp q]) (tmps : Array Value) (w : World) (b : Nat) {cs : Array Value} (hp : tmps.getD p undef = .pointer (some ⟨b, 0, none⟩)) (hc : Cl w b cs 46) (hs : cs.size = 21) :
    (results fn tmps).run Tryz.prog w = .ok (.tuple #[.agg cs, tmps.getD q undef]) w := by
  rw [_root_.Go.results_cell_tmp h, hp]
  simp [asAddr, run_loadVar_row w b 46 46 cs (0, 0) _ hc Tryz.underlying46 rfl (by rw [sizeS1, hs]), Result.andThen]
theorem zeroSeq (w : World) : (zeroValue 27).run Tryz.prog w = .ok (.agg (cellsQ Bt.Bs.zero 0)) w := by kernel_rfl
theorem bldS0 (w : World) : (Instr.build 46 #[]).run Tryz.prog w = .ok (.agg (stpC stp0 (.slice none 0 0))) w := by kernel_rfl
theorem bldS3_16 (w : World) (r0 r1 r2 r3 r4 r5 r6 r7 r8 r9 r10 r11 r12 r13 r14 r15 : Nat) (g ru mn : Int) : (Instr.build 46 #[(0, .agg (cellsQ [r0, r1, r2, r3, r4, r5, r6, r7, r8, r9, r10, r11, r12, r13, r14, r15] g)), (2, .int .i64 ru), (3, .int .i64 mn)]).run Tryz.prog w = .ok (.agg (stpC ⟨([r0, r1, r2, r3, r4, r5, r6, r7, r8, r9, r10, r11, r12, r13, r14, r15], g), false, ru, mn, []⟩ (.slice none 0 0))) w := by kernel_rfl
theorem bldS2_16 (w : World) (r0 r1 r2 r3 r4 r5 r6 r7 r8 r9 r10 r11 r12 r13 r14 r15 : Nat) (g ru : Int) : (Instr.build 46 #[(0, .agg (cellsQ [r0, r1, r2, r3, r4, r5, r6, r7, r8, r9, r10, r11, r12, r13, r14, r15] g)), (2, .int .i64 ru)]).run Tryz.prog w = .ok (.agg (stpC ⟨([r0, r1, r2, r3, r4, r5, r6, r7, r8, r9, r10, r11, r12, r13, r14, r15], g), false, ru, 0, []⟩ (.slice none 0 0))) w := by kernel_rfl
theorem bldS3 (w : World) {r : List Nat} (hr : r.length = 16) (g ru mn : Int) : (Instr.build 46 #[(0, .agg (cellsQ r g)), (2, .int .i64 ru), (3, .int .i64 mn)]).run Tryz.prog w = .ok (.agg (stpC ⟨(r, g), false, ru, mn, []⟩ (.slice none 0 0))) w := by
  match r, hr with
  | [r0, r1, r2, r3, r4, r5, r6, r7, r8, r9, r10, r11, r12, r13, r14, r15], _ => exact bldS3_16 ..
theorem bldS2 (w : World) {r : List Nat} (hr : r.length = 16) (g ru : Int) : (Instr.build 46 #[(0, .agg (cellsQ r g)), (2, .int .i64 ru)]).run Tryz.prog w = .ok (.agg (stpC ⟨(r, g), false, ru, 0, []⟩ (.slice none 0 0))) w := by
  match r, hr with
  | [r0, r1, r2, r3, r4, r5, r6, r7, r8, r9, r10, r11, r12, r13, r14, r15], _ => exact bldS2_16 ..
theorem bsI (w : World) (n : Int) : (Instr.buildSlice 44 1 #[(0, .int .i64 n)]).run Tryz.prog w = .ok (.slice (some ⟨w.heap.size, 0, none⟩) 1 1) (w.alloc (.cells #[.int .i64 n] 3)) := by kernel_rfl
section
variable {ops : Array Oper} {rest : List Oper} {o : Oper} {a : Act} {Q : Exit → Act → World → Prop} {w : World}
theorem wpList_bldS0 (hg : o.guard = none) (hop : o.op = Op.build 46 #[]) (hK : wpList Tryz.prog ops Q rest (a.put o.dst (.agg (stpC stp0 (.slice none 0 0)))) w) : wpList Tryz.prog ops Q (o :: rest) a w := by
  refine wpList_plain hg fun K' hK' => ?_
  have hrun := bldS0 w
  unfold Oper.wp
  simp [execOp, hop, hrun, Result.andThen]
  exact hK' _ _ hK
theorem wpList_bldS3 (hg : o.guard = none) (x y z : Operand) (hop : o.op = Op.build 46 #[(0, x), (2, y), (3, z)]) {r : List Nat} {g ru mn : Int} (hx : a.eval x = .agg (cellsQ r g)) (hy : a.eval y = .int .i64 ru) (hz : a.eval z = .int .i64 mn) (hr : r.length = 16)
    (hK : wpList Tryz.prog ops Q rest (a.put o.dst (.agg (stpC ⟨(r, g), false, ru, mn, []⟩ (.slice none 0 0)))) w) : wpList Tryz.prog ops Q (o :: rest) a w := by
  refine wpList_plain hg fun K' hK' => ?_
  have hrun := bldS3 w hr g ru mn
  unfold Oper.wp
  simp [execOp, hop, hx, hy, hz, hrun, Result.andThen]
  exact hK' _ _ hK
theorem wpList_bldS2 (hg : o.guard = none) (x y : Operand) (hop : o.op = Op.build 46 #[(0, x), (2, y)]) {r : List Nat} {g ru : Int} (hx : a.eval x = .agg (cellsQ r g)) (hy : a.eval y = .int .i64 ru) (hr : r.length = 16)
    (hK : wpList Tryz.prog ops Q rest (a.put o.dst (.agg (stpC ⟨(r, g), false, ru, 0, []⟩ (.slice none 0 0)))) w) : wpList Tryz.prog ops Q (o :: rest) a w := by
  refine wpList_plain hg fun K' hK' => ?_
  have hrun := bldS2 w hr g ru
  unfold Oper.wp
  simp [execOp, hop, hx, hy, hrun, Result.andThen]
  exact hK' _ _ hK
theorem wpList_bsI (hg : o.guard = none) (x : Operand) (hop : o.op = Op.buildSlice 44 1 #[(0, x)]) (n : Int) (hx : a.eval x = .int .i64 n)
    (hK : ∀ w' q, New w w' q #[.int .i64 n] 3 → wpList Tryz.prog ops Q rest (a.put o.dst (.slice (some ⟨q, 0, none⟩) 1 1)) w') : wpList Tryz.prog ops Q (o :: rest) a w := by
  refine wpList_plain hg fun K' hK' => ?_
  have hrun := bsI w n
  unfold Oper.wp
  simp [execOp, hop, hx, hrun, Result.andThen]
  exact hK' _ _ (hK _ _ (new_alloc w _ _))
theorem run_stK {b j : Nat} {cs : Array Value} {T0 : TypeId} (h : Cl w b cs T0) (hj : j < cs.size) (p : Option Addr) (n c : Nat) : (Instr.storeAt 44 (.pointer (some ⟨b, j, none⟩)) (.slice p n c)).run Tryz.prog w = .ok () (w.setCell ⟨b, j, none⟩ (.slice p n c)) := by
  have hc := h.cell j
  rw [Array.getElem?_eq_getElem hj] at hc
  have hf := h.fr j
  go_simp
theorem run_stB {b j : Nat} {cs : Array Value} {T0 : TypeId} (h : Cl w b cs T0) (hj : j < cs.size) (p : Bool) : (Instr.storeAt 4 (.pointer (some ⟨b, j, none⟩)) (.bool p)).run Tryz.prog w = .ok () (w.setCell ⟨b, j, none⟩ (.bool p)) := by
  have hc := h.cell j
  rw [Array.getElem?_eq_getElem hj] at hc
  have hf := h.fr j
  go_simp
theorem setCell_kpP (w : World) (b i : Nat) (v : Value) : KpP b w (w.setCell ⟨b, i, none⟩ v) := ⟨rfl, rfl, rfl, by simp [World.setCell], fun k _ hk => Below.heap_setCell _ _ _ _ hk⟩
theorem wpList_stK (hg : o.guard = none) (hd : o.dst = none) (x y : Operand) (hop : o.op = Op.store 44 x y) (b : Nat) (hx : a.eval x = .pointer (some ⟨b, 20, none⟩)) (p : Option Addr) (n c : Nat) (hy : a.eval y = .slice p n c) {s : Stp} (hs : s.s.1.length = 16) {kv : Value} (h : Cl w b (stpC s kv) 46) (l : List Nat)
    (hK : ∀ w', Cl w' b (stpC { s with kd := l } (.slice p n c)) 46 → KpP b w w' → wpList Tryz.prog ops Q rest a w') : wpList Tryz.prog ops Q (o :: rest) a w := by
  refine wpList_plain hg fun K' hK' => ?_
  have hrun := run_stK h (show 20 < _ by rw [stpC_size hs]; omega) p n c
  unfold Oper.wp
  simp [execOp, hop, hx, hy, hrun, Result.andThen]
  rw [Oper.upon_skip, hd]
  refine hK' _ _ (hK _ ?_ (setCell_kpP w b 20 _))
  rw [← stpC_kid hs kv]
  exact heap_setCell_same w b 20 _ _ _ h
theorem wpList_stB (hg : o.guard = none) (hd : o.dst = none) (x y : Operand) (hop : o.op = Op.store 4 x y) (b : Nat) (hx : a.eval x = .pointer (some ⟨b, 17, none⟩)) (p : Bool) (hy : a.eval y = .bool p) {s : Stp} (hs : s.s.1.length = 16) {kv : Value} (h : Cl w b (stpC s kv) 46)
    (hK : ∀ w', Cl w' b (stpC { s with pv := p } kv) 46 → KpP b w w' → wpList Tryz.prog ops Q rest a w') : wpList Tryz.prog ops Q (o :: rest) a w := by
  refine wpList_plain hg fun K' hK' => ?_
  have hrun := run_stB h (show 17 < _ by rw [stpC_size hs]; omega) p
  unfold Oper.wp
  simp [execOp, hop, hx, hy, hrun, Result.andThen]
  rw [Oper.upon_skip, hd]
  refine hK' _ _ (hK _ ?_ (setCell_kpP w b 17 _))
  rw [← stpC_prv hs kv]
  exact heap_setCell_same w b 17 _ _ _ h
theorem wpList_stS (hg : o.guard = none) (hd : o.dst = none) (x y : Operand) (hop : o.op = Op.store 46 x y) (b : Nat) (hx : a.eval x = .pointer (some ⟨b, 0, none⟩)) {s : Stp} (hs : s.s.1.length = 16) {kv : Value} (hkv : kv.oneCell' = true) (hy : a.eval y = .agg (stpC s kv)) {s0 : Stp} (hs0 : s0.s.1.length = 16) {kv0 : Value} (h : Cl w b (stpC s0 kv0) 46)
    (hK : ∀ w', Cl w' b (stpC s kv) 46 → KpP b w w' → wpList Tryz.prog ops Q rest a w') : wpList Tryz.prog ops Q (o :: rest) a w :=
  wpList_st 46 hg hd x y hop b hx (stpC s kv) hy (stpC s0 kv0) 46 h (by rw [sizeS1, stpC_size hs]) (by rw [stpC_size hs, stpC_size hs0]) (stpC_one s hkv) hK
theorem wpList_ldS1 (x : Operand) (hop : o.op = Op.load 46 x) (b : Nat) (hx : a.eval x = .pointer (some ⟨b, 0, none⟩)) {s : Stp} (hs : s.s.1.length = 16) {kv : Value} (h : Cl w b (stpC s kv) 46) (hg : Region.wanted o (yielded ops a.tmps) = true)
    (hK : wpList Tryz.prog ops Q rest (a.put o.dst (.agg (stpC s kv))) w) : wpList Tryz.prog ops Q (o :: rest) a w :=
  wpList_ldw 46 x hop b hx (stpC s kv) 46 h rfl Tryz.underlying46 (by rw [sizeS1, stpC_size hs]) hg hK
end
end Go.Proofs.YtkejippimkjjaaaGreatDoor
