/-
  How an argument that is a model is opened; what the listed tables give to the walks; a world that holds them, for a row's witness. No condition.
-/
import Derived.Test.YtjbnbaiidpdpoaaDoorCards
import Derived.Test.YtjbnbaiidpdpoaaDoorTie
import Derived.Test.YtjbnbaiidpdpoaaDoorWText
import Derived.Lib.LaidIn
import Derived.Lib.LaidTab
import Derived.Lib.LaidU8
import Derived.LaidHandle
import Derived.Deep.DeepHandedRow
import Derived.Deep.DeepWitnessRowRef
import Derived.Deep.Slices
import Derived.Deep.DeepLaidRun
import Derived.ProofKit
import Derived.OpenShut
import Derived.SizedLaws
import Derived.Shelf.Vars
import Derived.Lib.ItoaLen
namespace Go.Proofs.YtjbnbaiidpdpoaaDoor.Wm
open Go.ChangeShapes Go.WideShapes Go.ChangeAt Go.RowKit
open Wd (Md)
set_option linter.unusedSimpArgs false

theorem ownW : ownKnob Tryd.prog.godebug = none := by kernel_rfl
theorem laidOutW : laidOutB Tryd.prog = true := by kernel_rfl
/-! ### what is laid -/
theorem e_pow : Rows.laid_internal_strconv_uint64pow10 (H := Unit) = Lib.tabData .u64 Lib.pow10Tab := by kernel_rfl
theorem e_sp : Rows.laid_strings_asciiSpace (H := Unit) = Lib.tabData .u8 Lib.asciiSpaceTab := by kernel_rfl
theorem e_wh : Rows.laid_unicode_White_Space (H := Unit) = Lib.whiteData := by kernel_rfl
theorem g_pow : Tryd.prog.globalNamed "internal/strconv.uint64pow10" = some 3 := by kernel_rfl
theorem g_sp : Tryd.prog.globalNamed "strings.asciiSpace" = some 0 := by kernel_rfl
theorem pows_of {W : World} {l : List (String × DataW Unit)} (h : laidMet Tryd.prog l W) (h3 : ("internal/strconv.uint64pow10", Rows.laid_internal_strconv_uint64pow10) ∈ l) : Lib.TabIs Tryd.prog W "internal/strconv.uint64pow10" .u64 Lib.pow10Tab := by
  rw [e_pow] at h3
  obtain ⟨g, t, cs, fuel, p, hg, hty, hvar, hd⟩ := Lib.laidMet.reads h h3
  obtain rfl := Option.some.inj (g_pow.symm.trans hg)
  obtain rfl := Option.some.inj ((show (Tryd.prog.globals[3]?).map (·.type) = some 151 by kernel_rfl).symm.trans hty)
  unfold Lib.TabIs
  rw [hvar, ← Lib.cells_of_tab Tryd.underlying151 Tryd.underlying36 (by kernel_rfl) (by kernel_rfl) hd]
theorem sp_of {W : World} {l : List (String × DataW Unit)} (h : laidMet Tryd.prog l W) (h3 : ("strings.asciiSpace", Rows.laid_strings_asciiSpace) ∈ l) : Lib.TabIs Tryd.prog W "strings.asciiSpace" .u8 Lib.asciiSpaceTab := by
  rw [e_sp] at h3
  obtain ⟨g, t, cs, fuel, p, hg, hty, hvar, hd⟩ := Lib.laidMet.reads h h3
  obtain rfl := Option.some.inj (g_sp.symm.trans hg)
  obtain rfl := Option.some.inj ((show (Tryd.prog.globals[0]?).map (·.type) = some 107 by kernel_rfl).symm.trans hty)
  unfold Lib.TabIs
  rw [hvar, ← Lib.cells_of_tab Tryd.underlying107 Tryd.underlying5 (by kernel_rfl) (by kernel_rfl) hd]
theorem lays199 : Lays.n199 Tryd.prog Tryd.lays157_ren := { Tryd.lays157 with }
theorem white_x : WhiteExtra Tryd.prog Tryd.lays157_ren := ⟨by kernel_rfl, by kernel_rfl, by kernel_rfl, by kernel_rfl, by kernel_rfl, by kernel_rfl, by kernel_rfl, by kernel_rfl⟩
theorem wh_of {W : World} {l : List (String × DataW Unit)} (h : laidMet Tryd.prog l W) (h3 : ("unicode.White_Space", Rows.laid_unicode_White_Space) ∈ l) : Lib.WhiteTab 1 W := by
  rw [e_wh] at h3
  exact whiteTab_of_reads lays199 white_x (Lib.laidMet.reads h h3)
theorem ml_of {W : World} (h : W.ShapedOpen Tryd.prog) : ∃ m : Int, W.cell? ⟨2, 0, none⟩ = some (.int .i64 m) :=
  cell_of_shapedOpen_int (zero := #[.int .i64 0]) (t := 3) h (of_decide_eq_true (by kernel_rfl)) (by kernel_rfl) rfl (by kernel_rfl) (by kernel_rfl) Tryd.underlying3
/-! ### arguments -/
theorem sized_all {H : Type} {ts : List TypeId} {ds : List (DataW H)} (h : (DataW.weightsEach Tryd.prog ts ds).all (· ≤ reachBytes) = true) {j : Nat} {t : TypeId} {d : DataW H} (ht : ts[j]? = some t) (hd : ds[j]? = some d) :
    ∀ n ∈ d.weights Tryd.prog t, n ≤ 140737488351232 := fun n hn => by
  have h1 := List.all_eq_true.1 h _ (DataW.weights_mem_each ht hd n hn)
  have h2 : n ≤ reachBytes := by simpa using h1
  unfold reachBytes at h2
  omega
theorem weights_all {H : Type} {t : TypeId} {d : DataW H} {l : List (DataW H)} (h : d ∈ l) : ∀ n ∈ d.weights Tryd.prog t, n ∈ DataW.weightsAll Tryd.prog t l := by
  induction l with
  | nil => cases h
  | cons x r ih =>
    intro n hn
    rw [DataW.weightsAll]
    rcases List.mem_cons.1 h with rfl | h
    · exact List.mem_append_left _ hn
    · exact List.mem_append_right _ (ih h n hn)
def Opens {H : Type} (enc : TypeId × Value → H) (W : World) {α : Type} (T : TypeId) (R : α → Value → Prop) (G : α → Prop) : Prop :=
  ∀ (fuel : Nat) (v : Value) (y : DataW H × List MemPlace), DataW.trod enc Tryd.prog W 0 (fun _ => true) true fuel T [v] = some y → (∀ n ∈ y.1.weights Tryd.prog T, n ≤ 140737488351232) → ∃ x, R x v ∧ G x
set_option maxRecDepth 100000 in
theorem opens_slice {H : Type} {enc : TypeId × Value → H} {W : World} {α : Type} [Inhabited α] {R : α → Value → Prop} {G : α → Prop} {TS TE : TypeId} (nb : Nat) (hu : Tryd.prog.underlying TS = some (.slice TE)) (hc : Tryd.prog.cellsOf TE = 1) (hnb : Tryd.prog.bytesOf TE = nb)
    (hE : Opens enc W TE R G) : Opens enc W TS (fun l v => IsS W W.heap.size R v l) (fun l => (∀ x ∈ l, G x) ∧ l.length * nb ≤ 140737488351232) := by
  intro fuel v y h hw
  rcases DataW.trod_slice hu h with ⟨hcs, _⟩ | ⟨a, len, cap, elems, rest, n, hn, hcs, hx, hb, hle, hm, hel1, hel, _, _⟩
  · have e : v = .slice none 0 0 := by simpa using hcs
    subst e
    exact ⟨[], ⟨none, 0, rfl, fun h => absurd h (by simp)⟩, fun x hx => (by cases hx), by simp⟩
  · have e : v = .slice (some a) len cap := by simpa using hcs
    subst e
    rw [hx, DataW.weights, hu] at hw
    have hb1 := hw _ List.mem_cons_self
    rw [hnb] at hb1
    simp only [List.length_map] at hb1
    rw [hc] at hel
    have each : ∀ i, i < len → ∃ q : α × Value, W.cell? (a.add i) = some q.2 ∧ R q.1 q.2 ∧ G q.1 := by
      intro i hi
      have h1 := hel i hi
      rw [List.getElem?_eq_getElem (by omega)] at h1
      obtain ⟨cs', h2, h3⟩ := Option.bind_eq_some_iff.1 h1
      obtain ⟨_, hlen', hcell⟩ := World.cells?_some h2
      match cs', hlen' with
      | [v'], _ =>
        have hmem : elems[i].1 ∈ elems.map (·.1) := List.mem_map_of_mem (List.getElem_mem _)
        obtain ⟨x, hx, hg⟩ := hE n v' elems[i] h3 fun n' hn' => hw _ (List.mem_cons_of_mem _ (List.mem_append_left _ (weights_all hmem n' hn')))
        refine ⟨(x, v'), ?_, hx, hg⟩
        have e := hcell 0 (by simp)
        rw [Deep.add_add, Nat.mul_one, Nat.add_zero] at e
        exact e.trans rfl
    have : Inhabited (α × Value) := ⟨(default, .nilIface)⟩
    obtain ⟨q, hq⟩ := Deep.choose_lt each
    refine ⟨(List.range len).map fun i => (q i).1, ⟨some a, cap, by simp, fun h0 => ?_⟩, fun x hx => ?_, ?_⟩
    · simp only [List.length_map, List.length_range] at h0
      obtain ⟨b, o, sp⟩ := a
      have h00 := (hq 0 h0).1
      obtain rfl : sp = none := by simpa [Addr.add] using World.cell?_spot h00
      have hlt : b < W.heap.size := by
        rw [add_plain] at h00
        exact World.block_lt_of_cell? W _ h00
      refine ⟨b, o, hlt, rfl, fun j hj => ?_⟩
      simp only [List.length_map, List.length_range] at hj
      have h1 := hq j hj
      rw [add_plain] at h1
      simp only [List.getElem_map, List.getElem_range]
      exact ⟨_, h1.1, h1.2.1⟩
    · obtain ⟨i, hi, rfl⟩ := List.mem_map.1 hx
      exact (hq i (List.mem_range.1 hi)).2.2
    · simp only [List.length_map, List.length_range]
      refine Nat.le_trans (Nat.mul_le_mul_right nb ?_) hb1
      omega
theorem opens_int {H : Type} {enc : TypeId × Value → H} {W : World} : Opens enc W 3 isI (fun i => -9223372036854775808 ≤ i ∧ i ≤ 9223372036854775807) := by
  intro fuel v y h _
  obtain ⟨z, hz, _, wz⟩ := DataW.trod_int Tryd.underlying3 h
  have e : v = .int .i64 z := by simpa using hz
  have hb := bounds_i64 wz
  exact ⟨z, e, by omega, by omega⟩
theorem opens_str {H : Type} {enc : TypeId × Value → H} {W : World} : Opens enc W 9 isT (fun s => s.size ≤ 140737488351232) := by
  intro fuel v y h hw
  obtain ⟨s, hs, hs2, _⟩ := DataW.trod_string Tryd.underlying9 h
  have e : v = .string s := by simpa using hs
  exact ⟨s, e, hw _ (by rw [hs2]; show s.size ∈ [s.data.toList.length]; exact List.mem_singleton.2 rfl)⟩
theorem agg_of {v : Value} {cs : List Value} (h : v.cells.toList = cs) (hl : cs.length ≠ 1) : v = .agg cs.toArray := by
  have e : v.cells = cs.toArray := Array.ext' (by rw [h])
  have one : ∀ u : Value, v.cells = #[u] → False := fun u hu => by
    rw [hu] at h
    subst h
    simp at hl
  cases v with
  | agg ds => exact congrArg Value.agg e
  | _ => exact (one _ rfl).elim
theorem cells_md : Tryd.prog.cellsOf 25 = 2 := by kernel_rfl
set_option maxRecDepth 100000 in
theorem open_md {H : Type} {enc : TypeId × Value → H} {W : World} {v : Value} {d : DataW H} {p : List MemPlace} (h : DataW.Trod enc Tryd.prog W 0 (fun _ => true) true 25 v d p) (hsz : ∀ n ∈ d.weights Tryd.prog 25, n ≤ 140737488351232) :
    ∃ uv vv m, v = .agg #[uv, vv] ∧ IsM W W.heap.size uv vv m ∧ Fit m ∧ ∀ r ∈ m.val, r.length * 16 ≤ 140737488355328 := by
  obtain ⟨fuel, hf⟩ := h
  obtain ⟨xs, k, hk, hxy, hl, hxl, hfs⟩ := DataW.trod_struct Tryd.underlying25 hf
  rw [cells_md] at hl
  have hv := agg_of (v := v) rfl (by rw [hl]; decide)
  generalize hcs : v.cells.toList = cs at *
  match xs, hxl, cs, hl with
  | [y0, y1], _, [v0, v1], _ =>
    have g0 : DataW.trod enc Tryd.prog W 0 (fun _ => true) true k 22 [v0] = some y0 := by have := hfs 0 _ rfl; simpa [show Tryd.prog.cellsOf 22 = 1 by kernel_rfl] using this
    have g1 : DataW.trod enc Tryd.prog W 0 (fun _ => true) true k 23 [v1] = some y1 := by have := hfs 1 _ rfl; simpa [show Tryd.prog.cellsOf 23 = 1 by kernel_rfl] using this
    have hD : d = .agg [y0.1, y1.1] := by have := congrArg Prod.fst hxy; simpa using this
    rw [hD, DataW.weights, Tryd.underlying25] at hsz
    obtain ⟨u, hu, hgu, hlu⟩ := opens_slice 24 Tryd.underlying22 (by kernel_rfl) (by kernel_rfl) (opens_slice 8 Tryd.underlying42 (by kernel_rfl) (by kernel_rfl) (opens_int (enc := enc) (W := W))) k v0 y0 g0 fun n hn => hsz _ (DataW.weights_mem_each (j := 0) (t := 22) (d := y0.1) rfl rfl _ hn)
    obtain ⟨s, hs, hgs, hls⟩ := opens_slice 24 Tryd.underlying23 (by kernel_rfl) (by kernel_rfl) (opens_slice 16 Tryd.underlying39 (by kernel_rfl) (by kernel_rfl) (opens_str (enc := enc) (W := W))) k v1 y1 g1 fun n hn => hsz _ (DataW.weights_mem_each (j := 1) (t := 23) (d := y1.1) rfl rfl _ hn)
    refine ⟨v0, v1, ⟨u, s⟩, hv, ⟨hu, hs⟩, ⟨?_, ?_, fun r hr => ⟨?_, (hgu r hr).1⟩, fun r hr => ⟨?_, (hgs r hr).1⟩⟩, fun r hr => ?_⟩
    · show u.length ≤ _; omega
    · show s.length ≤ _; omega
    · have := (hgu r hr).2; omega
    · have := (hgs r hr).2; omega
    · have := (hgs r hr).2; omega
noncomputable def laidWorldW (os : Os) : World :=
  let N := (World.settled Tryd.prog os).heap.size
  let w0 := World.holding Tryd.prog os ⟨#[.cells (Lib.whiteT.map fun (z : Nat) => Value.int .u16 (z : Int)).toArray (Tryd.lays157_ren.t 198), .cells #[.slice (some ⟨N, 0, none⟩) 7 7, .slice none 0 0, .int .i64 2] (Tryd.lays157_ren.t 196)], #[], []⟩
  let put (h : Array Obj) (g : Nat) (cs : Array Value) : Array Obj := h.modify g fun
    | .cells _ t frozen => .cells cs t frozen
    | o => o
  let h1 := put w0.heap 0 (Lib.asciiSpaceTab.map fun z => Value.int .u8 z).toArray
  let h2 := put h1 1 #[.pointer (some ⟨N + 1, 0, none⟩)]
  let h3 := put h2 3 (Lib.pow10Tab.map fun z => Value.int .u64 z).toArray
  let h4 := put h3 4 #[.int .u8 0, .int .u8 1, .int .u8 28, .int .u8 2, .int .u8 29, .int .u8 14, .int .u8 24, .int .u8 3, .int .u8 30, .int .u8 22, .int .u8 20, .int .u8 15, .int .u8 25, .int .u8 17, .int .u8 4, .int .u8 8, .int .u8 31, .int .u8 27, .int .u8 13, .int .u8 23, .int .u8 21, .int .u8 19, .int .u8 16, .int .u8 7, .int .u8 26, .int .u8 12, .int .u8 18, .int .u8 6, .int .u8 11, .int .u8 5, .int .u8 10, .int .u8 9]
  let h5 := put h4 5 #[.int .u8 0, .int .u8 1, .int .u8 56, .int .u8 2, .int .u8 57, .int .u8 49, .int .u8 28, .int .u8 3, .int .u8 61, .int .u8 58, .int .u8 42, .int .u8 50, .int .u8 38, .int .u8 29, .int .u8 17, .int .u8 4, .int .u8 62, .int .u8 47, .int .u8 59, .int .u8 36, .int .u8 45, .int .u8 43, .int .u8 51, .int .u8 22, .int .u8 53, .int .u8 39, .int .u8 33, .int .u8 30, .int .u8 24, .int .u8 18, .int .u8 12, .int .u8 5, .int .u8 63, .int .u8 55, .int .u8 48, .int .u8 27, .int .u8 60, .int .u8 41, .int .u8 37, .int .u8 16, .int .u8 46, .int .u8 35, .int .u8 44, .int .u8 21, .int .u8 52, .int .u8 32, .int .u8 23, .int .u8 11, .int .u8 54, .int .u8 26, .int .u8 40, .int .u8 15, .int .u8 34, .int .u8 20, .int .u8 31, .int .u8 10, .int .u8 25, .int .u8 14, .int .u8 19, .int .u8 9, .int .u8 13, .int .u8 8, .int .u8 7, .int .u8 6]
  { w0 with heap := h5 }
end Go.Proofs.YtjbnbaiidpdpoaaDoor.Wm
/-
  A model as an argument, with the length of its text, where it is of small bulk. No other condition.
-/
namespace Go.Proofs.YtjbnbaiidpdpoaaDoor.Wm
open Go.ChangeShapes Go.WideShapes Go.ChangeAt Go.RowKit
open Wd (Md)
set_option linter.unusedSimpArgs false
set_option linter.unusedVariables false

theorem sum_range_le {β : Type} (g : β → Nat) : ∀ (l : List β) (f : Nat → Nat), (∀ (i : Nat) (h : i < l.length), f i ≤ g l[i]) → ((List.range l.length).map f).sum ≤ (l.map g).sum
  | [], f, _ => by simp
  | x :: l, f, h => by
    rw [List.length_cons, List.range_succ_eq_map, List.map_cons, List.map_map, List.sum_cons, List.map_cons, List.sum_cons]
    have h0 : f 0 ≤ g x := h 0 (by simp)
    have h1 := sum_range_le g l (f ∘ Nat.succ) fun i hi => h (i + 1) (by simpa using hi)
    omega
theorem sum_getD_le {β : Type} (g : β → Nat) (d : β) (hd : g d = 0) : ∀ (k : Nat) (l : List β), ((List.range k).map fun a => g (l.getD a d)).sum ≤ (l.map g).sum
  | 0, l => by simp
  | k + 1, [] => by
    have h := sum_getD_le g d hd k []
    rw [List.range_succ_eq_map, List.map_cons, List.sum_cons, List.map_map]
    have e : ((List.range k).map ((fun a => g (([] : List β).getD a d)) ∘ Nat.succ)) = (List.range k).map fun a => g (([] : List β).getD a d) := rfl
    rw [e]
    simp only [List.getD_nil, hd] at h ⊢
    omega
  | k + 1, x :: l => by
    have h := sum_getD_le g d hd k l
    rw [List.range_succ_eq_map, List.map_cons, List.sum_cons, List.map_map, List.map_cons, List.sum_cons]
    have e : ((List.range k).map ((fun a => g ((x :: l).getD a d)) ∘ Nat.succ)) = (List.range k).map fun a => g (l.getD a d) := rfl
    rw [e, List.getD_cons_zero]
    omega
def cI (r : List Int) : Nat := r.length
def cN (r : List ByteArray) : Nat := (r.map fun s => s.size + 1).sum
theorem flat_sum {α : Type} (f : α → List UInt8) : ∀ (l : List α), (l.flatMap f).length = (l.map fun x => (f x).length).sum
  | [] => rfl
  | x :: l => by rw [List.flatMap_cons, List.length_append, flat_sum f l]; rfl
theorem flat_nums : ∀ (row : List Int), (∀ i ∈ row, -9223372036854775808 ≤ i ∧ i ≤ 9223372036854775807) → ((row.map Lib.itoa).flatMap fun x => 32 :: x).length ≤ 22 * row.length
  | [], _ => by simp
  | i :: r, h => by
    have h1 := Lib.itoa_length_le i (h i (by simp)).1 (h i (by simp)).2
    have h2 := flat_nums r fun j hj => h j (by simp [hj])
    rw [List.map_cons, List.flatMap_cons, List.length_append, List.length_cons, List.length_cons]
    omega
theorem row_nums {row : List Int} (h : ∀ i ∈ row, -9223372036854775808 ≤ i ∧ i ≤ 9223372036854775807) : (rowT [32, 62] (row.map Lib.itoa)).length ≤ 2 + 22 * cI row := by
  unfold rowT
  split
  · simp
  · rw [List.length_append]
    have := flat_nums row h
    unfold cI
    simp only [List.length_cons, List.length_nil]
    omega
theorem flat_names : ∀ (ns : List ByteArray), ((ns.map fun s => s.data.toList).flatMap fun x => 32 :: x).length = cN ns
  | [] => rfl
  | s :: r => by
    unfold cN
    rw [List.map_cons, List.flatMap_cons, List.length_append, flat_names r, List.map_cons, List.sum_cons, List.length_cons]
    rfl
theorem row_names (ns : List ByteArray) : (rowT [32, 58] (ns.map fun s => s.data.toList)).length ≤ 2 + cN ns := by
  unfold rowT
  split
  · simp
  · rw [List.length_append, flat_names]
    simp only [List.length_cons, List.length_nil]
    omega
theorem text_bulk {m : Md} (hf : Fit m) (hn : m.up.length ≤ 9223372036854775807) : (textF m).length ≤ 26 * m.up.length + 22 * (m.up.map cI).sum + (m.val.map cN).sum := by
  have hl : ∀ a, a < m.up.length → (lineF a (m.up.getD a []) (m.val.getD a [])).length ≤ 26 + 22 * cI (m.up.getD a []) + cN (m.val.getD a []) := fun a ha => by
    rw [← lineF_le]
    have i1 := Lib.itoa_length_le (a : Int) (by omega) (by omega)
    have r1 := row_nums (row := m.up.getD a []) (by
      rw [List.getD_eq_getElem?_getD, List.getElem?_eq_getElem ha]
      exact (hf.2.2.1 _ (List.getElem_mem ha)).2)
    have r2 := row_names (m.val.getD a [])
    omega
  have hk : ∀ k, k ≤ m.up.length → (textTo m k).length ≤ 26 * k + 22 * ((List.range k).map fun a => cI (m.up.getD a [])).sum + ((List.range k).map fun a => cN (m.val.getD a [])).sum := by
    intro k
    induction k with
    | zero => intro _; simp [textTo]
    | succ k ih =>
      intro hk
      have h1 := ih (by omega)
      have h2 := hl k (by omega)
      rw [textTo_succ, List.length_append, List.range_succ, List.map_append, List.map_append, List.sum_append, List.sum_append]
      simp only [List.map_cons, List.map_nil, List.sum_cons, List.sum_nil]
      omega
  have h := hk m.up.length (Nat.le_refl _)
  have h1 := sum_getD_le cI [] rfl m.up.length m.up
  have h2 := sum_getD_le cN [] rfl m.up.length m.val
  unfold textF
  omega
theorem bulkAll_sum {H : Type} : ∀ (l : List (DataW H)), Rows.uptoBulkAll l = (l.map Rows.uptoBulk).sum
  | [] => by simp [Rows.uptoBulkAll]
  | d :: r => by rw [Rows.uptoBulkAll, bulkAll_sum r]; rfl
def OpensC {H : Type} (enc : TypeId × Value → H) (W : World) {α : Type} (T : TypeId) (R : α → Value → Prop) (G : α → Prop) (c : α → Nat) : Prop :=
  ∀ (fuel : Nat) (v : Value) (y : DataW H × List MemPlace), DataW.trod enc Tryd.prog W 0 (fun _ => true) true fuel T [v] = some y → (∀ n ∈ y.1.weights Tryd.prog T, n ≤ 140737488351232) → ∃ x, R x v ∧ G x ∧ c x ≤ Rows.uptoBulk y.1
set_option maxRecDepth 100000 in
theorem opensC_slice {H : Type} {enc : TypeId × Value → H} {W : World} {α : Type} [Inhabited α] {R : α → Value → Prop} {G : α → Prop} {c : α → Nat} {TS TE : TypeId} (nb : Nat) (hu : Tryd.prog.underlying TS = some (.slice TE)) (hc : Tryd.prog.cellsOf TE = 1) (hnb : Tryd.prog.bytesOf TE = nb)
    (hE : OpensC enc W TE R G c) : OpensC enc W TS (fun l v => IsS W W.heap.size R v l) (fun l => (∀ x ∈ l, G x) ∧ l.length * nb ≤ 140737488351232) (fun l => (l.map c).sum + 1) := by
  intro fuel v y h hw
  rcases DataW.trod_slice hu h with ⟨hcs, _⟩ | ⟨a, len, cap, elems, rest, n, hn, hcs, hx, hb, hle, hm, hel1, hel, _, _⟩
  · have e : v = .slice none 0 0 := by simpa using hcs
    subst e
    rename_i hyn
    refine ⟨[], ⟨none, 0, rfl, fun h => absurd h (by simp)⟩, ⟨fun x hx => (by cases hx), by simp⟩, ?_⟩
    rw [hyn]
    show 1 ≤ Rows.uptoBulk _
    rw [Rows.uptoBulk]
    exact Nat.le_refl _
  · have e : v = .slice (some a) len cap := by simpa using hcs
    subst e
    rw [hx, DataW.weights, hu] at hw
    have hb1 := hw _ List.mem_cons_self
    rw [hnb] at hb1
    simp only [List.length_map] at hb1
    rw [hc] at hel
    have each : ∀ i, i < len → ∃ q : α × Value, W.cell? (a.add i) = some q.2 ∧ R q.1 q.2 ∧ G q.1 ∧ ∀ hi : i < elems.length, c q.1 ≤ Rows.uptoBulk elems[i].1 := by
      intro i hi
      have h1 := hel i hi
      rw [List.getElem?_eq_getElem (by omega)] at h1
      obtain ⟨cs', h2, h3⟩ := Option.bind_eq_some_iff.1 h1
      obtain ⟨_, hlen', hcell⟩ := World.cells?_some h2
      match cs', hlen' with
      | [v'], _ =>
        have hmem : elems[i].1 ∈ elems.map (·.1) := List.mem_map_of_mem (List.getElem_mem _)
        obtain ⟨x, hx, hg, hcx⟩ := hE n v' elems[i] h3 fun n' hn' => hw _ (List.mem_cons_of_mem _ (List.mem_append_left _ (weights_all hmem n' hn')))
        refine ⟨(x, v'), ?_, hx, hg, fun _ => hcx⟩
        have e := hcell 0 (by simp)
        rw [Deep.add_add, Nat.mul_one, Nat.add_zero] at e
        exact e.trans rfl
    have : Inhabited (α × Value) := ⟨(default, .nilIface)⟩
    obtain ⟨q, hq⟩ := Deep.choose_lt each
    refine ⟨(List.range len).map fun i => (q i).1, ⟨some a, cap, by simp, fun h0 => ?_⟩, ⟨fun x hx => ?_, ?_⟩, ?_⟩
    · simp only [List.length_map, List.length_range] at h0
      obtain ⟨b, o, sp⟩ := a
      have h00 := (hq 0 h0).1
      obtain rfl : sp = none := by simpa [Addr.add] using World.cell?_spot h00
      have hlt : b < W.heap.size := by
        rw [add_plain] at h00
        exact World.block_lt_of_cell? W _ h00
      refine ⟨b, o, hlt, rfl, fun j hj => ?_⟩
      simp only [List.length_map, List.length_range] at hj
      have h1 := hq j hj
      rw [add_plain] at h1
      simp only [List.getElem_map, List.getElem_range]
      exact ⟨_, h1.1, h1.2.1⟩
    · obtain ⟨i, hi, rfl⟩ := List.mem_map.1 hx
      exact (hq i (List.mem_range.1 hi)).2.2.1
    · simp only [List.length_map, List.length_range]
      refine Nat.le_trans (Nat.mul_le_mul_right nb ?_) hb1
      omega
    · rw [hx]
      show (((List.range len).map fun i => (q i).1).map c).sum + 1 ≤ Rows.uptoBulk (.slice (elems.map fun x => x.1) (rest.map fun x => x.1))
      rw [Rows.uptoBulk, bulkAll_sum, List.map_map, List.map_map]
      have hle2 : len = elems.length := by omega
      subst hle2
      have h9 : ((List.range elems.length).map fun i => c (q i).1).sum ≤ (elems.map fun e => Rows.uptoBulk e.1).sum := sum_range_le (fun e : DataW H × List MemPlace => Rows.uptoBulk e.1) elems (fun i => c (q i).1) fun i hi => (hq i hi).2.2.2 hi
      exact Nat.add_le_add_right (Nat.le_trans h9 (Nat.le_add_right _ _)) 1
theorem opensC_int {H : Type} {enc : TypeId × Value → H} {W : World} : OpensC enc W 3 isI (fun i => -9223372036854775808 ≤ i ∧ i ≤ 9223372036854775807) (fun _ => 1) := by
  intro fuel v y h hw
  obtain ⟨z, hz, hz2, wz⟩ := DataW.trod_int Tryd.underlying3 h
  have e : v = .int .i64 z := by simpa using hz
  have hb := bounds_i64 wz
  refine ⟨z, e, ⟨by omega, by omega⟩, ?_⟩
  rw [hz2]
  show 1 ≤ Rows.uptoBulk (.lit (.int .i64 z))
  rw [Rows.uptoBulk] <;> simp
theorem opensC_str {H : Type} {enc : TypeId × Value → H} {W : World} : OpensC enc W 9 isT (fun s => s.size ≤ 140737488351232) (fun s => s.size + 1) := by
  intro fuel v y h hw
  obtain ⟨s, hs, hs2, _⟩ := DataW.trod_string Tryd.underlying9 h
  have e : v = .string s := by simpa using hs
  refine ⟨s, e, hw _ (by rw [hs2]; show s.size ∈ [s.data.toList.length]; exact List.mem_singleton.2 rfl), ?_⟩
  rw [hs2]
  show s.size + 1 ≤ Rows.uptoBulk (.lit (.string s.data.toList))
  rw [Rows.uptoBulk]
  exact Nat.le_refl _
theorem sum_plus {β : Type} (g : β → Nat) (l : List β) : (l.map fun x => g x + 1).sum = (l.map g).sum + l.length := by
  induction l with
  | nil => rfl
  | cons x r ih => rw [List.map_cons, List.sum_cons, ih, List.map_cons, List.sum_cons, List.length_cons]; omega
theorem sum_ones (r : List Int) : (r.map fun _ => 1).sum = cI r := by
  unfold cI
  induction r with
  | nil => rfl
  | cons x r ih => rw [List.map_cons, List.sum_cons, ih, List.length_cons]; omega
set_option maxRecDepth 100000 in
theorem open_mdC {H : Type} {enc : TypeId × Value → H} {W : World} {v : Value} {d : DataW H} {p : List MemPlace} (h : DataW.Trod enc Tryd.prog W 0 (fun _ => true) true 25 v d p) (hsz : ∀ n ∈ d.weights Tryd.prog 25, n ≤ 140737488351232) (hbk : Rows.uptoBulk d ≤ 1048576) :
    ∃ uv vv m, v = .agg #[uv, vv] ∧ IsM W W.heap.size uv vv m ∧ Fit m ∧ (textF m).length ≤ 140737488351232 := by
  obtain ⟨fuel, hf⟩ := h
  obtain ⟨xs, k, hk, hxy, hl, hxl, hfs⟩ := DataW.trod_struct Tryd.underlying25 hf
  rw [cells_md] at hl
  have hv := agg_of (v := v) rfl (by rw [hl]; decide)
  generalize hcs : v.cells.toList = cs at *
  match xs, hxl, cs, hl with
  | [y0, y1], _, [v0, v1], _ =>
    have g0 : DataW.trod enc Tryd.prog W 0 (fun _ => true) true k 22 [v0] = some y0 := by have := hfs 0 _ rfl; simpa [show Tryd.prog.cellsOf 22 = 1 by kernel_rfl] using this
    have g1 : DataW.trod enc Tryd.prog W 0 (fun _ => true) true k 23 [v1] = some y1 := by have := hfs 1 _ rfl; simpa [show Tryd.prog.cellsOf 23 = 1 by kernel_rfl] using this
    have hD : d = .agg [y0.1, y1.1] := by have := congrArg Prod.fst hxy; simpa using this
    rw [hD, Rows.uptoBulk] at hbk
    simp only [Rows.uptoBulkAll] at hbk
    rw [hD, DataW.weights, Tryd.underlying25] at hsz
    obtain ⟨u, hu, ⟨hgu, hlu⟩, hcu⟩ := opensC_slice 24 Tryd.underlying22 (by kernel_rfl) (by kernel_rfl) (opensC_slice 8 Tryd.underlying42 (by kernel_rfl) (by kernel_rfl) (opensC_int (enc := enc) (W := W))) k v0 y0 g0 fun n hn => hsz _ (DataW.weights_mem_each (j := 0) (t := 22) (d := y0.1) rfl rfl _ hn)
    obtain ⟨s, hs, ⟨hgs, hls⟩, hcs⟩ := opensC_slice 24 Tryd.underlying23 (by kernel_rfl) (by kernel_rfl) (opensC_slice 16 Tryd.underlying39 (by kernel_rfl) (by kernel_rfl) (opensC_str (enc := enc) (W := W))) k v1 y1 g1 fun n hn => hsz _ (DataW.weights_mem_each (j := 1) (t := 23) (d := y1.1) rfl rfl _ hn)
    have hfit : Fit ⟨u, s⟩ := by
      refine ⟨?_, ?_, fun r hr => ⟨?_, (hgu r hr).1⟩, fun r hr => ⟨?_, (hgs r hr).1⟩⟩
      · show u.length ≤ _; omega
      · show s.length ≤ _; omega
      · have := (hgu r hr).2; omega
      · have := (hgs r hr).2; omega
    refine ⟨v0, v1, ⟨u, s⟩, hv, ⟨hu, hs⟩, hfit, ?_⟩
    have ht := text_bulk hfit (by show u.length ≤ _; omega)
    have e1 : (u.map fun l => (l.map fun _ => 1).sum + 1).sum = (u.map cI).sum + u.length := by
      rw [← sum_plus cI u]
      congr 1
      exact List.map_congr_left fun r _ => by rw [sum_ones r]
    simp only at hcu hcs
    rw [e1] at hcu
    have e2 : (s.map fun l => (l.map fun s => s.size + 1).sum + 1).sum = (s.map cN).sum + s.length := sum_plus cN s
    rw [e2] at hcs
    simp only at ht
    omega
end Go.Proofs.YtjbnbaiidpdpoaaDoor.Wm
