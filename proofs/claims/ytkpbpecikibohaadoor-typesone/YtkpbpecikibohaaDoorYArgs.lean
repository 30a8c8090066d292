/-
  How arguments of types Term and []Hyp are opened; what the listed variables give to the walks; a world that holds them, for a row's witness. No condition.
-/
import Derived.Test.YtkpbpecikibohaaDoorCards
import Derived.Test.YtkpbpecikibohaaDoorTie
import Derived.Test.YtkpbpecikibohaaDoorYWhere
import Derived.Lib.LaidIn
import Derived.Lib.LaidTab
import Derived.Lib.LaidU8
import Derived.LaidHandle
import Derived.Deep.DeepHandedRow
import Derived.Deep.DeepWitnessRowRef
import Derived.Deep.Slices
import Derived.ProofKit
import Derived.OpenShut
import Derived.SizedLaws
namespace Go.Proofs.YtkpbpecikibohaaDoor.Ya
open Go.ChangeShapes Go.WideShapes Go.ChangeAt Go.RowKit
open Ty (Tm Hs)
set_option linter.unusedSimpArgs false

theorem ownY : ownKnob Tryd.prog.godebug = none := by kernel_rfl
theorem laidOutY : laidOutB Tryd.prog = true := by kernel_rfl
theorem boundsY64 {x : Int} (h : (Lit.int .i64 x).wf = true) : Fm.i64 x := by
  have hb := bounds_i64 h
  exact ⟨by omega, by omega⟩
/-! ### what is laid -/
theorem et_global : Tryd.prog.globalNamed "errors.errorType" = some 0 := by kernel_rfl
theorem et_rt : (Tryd.prog.cutTypes.find? (·.1 == "internal/reflectlite.rtype")).map (·.2) = some 131 := by kernel_rfl
theorem et_row : ((List.range Tryd.prog.types.size).filter fun t => Tryd.prog.rowNamed t [101, 114, 114, 111, 114]) = [62] := by kernel_rfl
set_option maxRecDepth 100000 in
theorem ety_of {W : World} {l : List (String × DataW Unit)} (h : handlesMet Tryd.prog l W) (hm : ("errors.errorType", Rows.laid_errors_errorType) ∈ l) : Ety W := by
  obtain ⟨name, u, ty, e1, e2, e3, e4, e5⟩ := h _ hm
  have en : name = [101, 114, 114, 111, 114] := (Option.some.inj e1).symm
  subst en
  obtain rfl := Option.some.inj (et_rt.symm.trans e2)
  have hm : ty ∈ (List.range Tryd.prog.types.size).filter fun t => Tryd.prog.rowNamed t [101, 114, 114, 111, 114] := List.mem_filter.2 ⟨List.mem_range.2 e3, e4⟩
  rw [et_row] at hm
  obtain rfl := List.mem_singleton.1 hm
  have hh : typeHandle Tryd.prog 62 = .pointer (some ⟨2, 62, none⟩) := by kernel_rfl
  rw [hh] at e5
  simpa [Ety] using World.var?_cell et_global e5 0
theorem sh_global : Tryd.prog.globalNamed "dictum/term.shapes" = some 1 := by kernel_rfl
theorem cells_shape : Tryd.prog.cellsOf 127 = 3 := by kernel_rfl
theorem cells_shapes : Tryd.prog.cellsOf 128 = 39 := by kernel_rfl
theorem cells_i : Tryd.prog.cellsOf 3 = 1 := by kernel_rfl
theorem cells_b : Tryd.prog.cellsOf 4 = 1 := by kernel_rfl
theorem cells_s : Tryd.prog.cellsOf 9 = 1 := by kernel_rfl
def shD (H : Type) (a b : Int) (c : Bool) : DataW H := .agg [.lit (.int .i64 a), .lit (.int .i64 b), .lit (.bool c)]
set_option maxRecDepth 100000 in
theorem one_shape {H : Type} {enc : TypeId × Value → H} {W : World} {base : Nat} {sp : Nat → Bool} {held : Bool} {fuel : Nat} {cs : List Value} {a b : Int} {c : Bool} {p : List MemPlace} (h : DataW.trod enc Tryd.prog W base sp held fuel 127 cs = some (shD H a b c, p)) : cs = [.int .i64 a, .int .i64 b, .bool c] := by
  obtain ⟨xs, k, _, hxy, hl, hxl, hfs⟩ := DataW.trod_struct Tryd.underlying127 h
  rw [cells_shape] at hl
  match xs, hxl, cs, hl with
  | [y0, y1, y2], _, [v0, v1, v2], _ =>
    have g0 : DataW.trod enc Tryd.prog W base sp held k 3 [v0] = some y0 := by have := hfs 0 _ rfl; simpa [cells_i] using this
    have g1 : DataW.trod enc Tryd.prog W base sp held k 3 [v1] = some y1 := by have := hfs 1 _ rfl; simpa [cells_i] using this
    have g2 : DataW.trod enc Tryd.prog W base sp held k 4 [v2] = some y2 := by have := hfs 2 _ rfl; simpa [cells_b] using this
    obtain ⟨z0, hz0, hz02, _⟩ := DataW.trod_int Tryd.underlying3 g0
    obtain ⟨z1, hz1, hz12, _⟩ := DataW.trod_int Tryd.underlying3 g1
    obtain ⟨z2, hz2, hz22⟩ := DataW.trod_bool Tryd.underlying4 g2
    have hd : shD H a b c = .agg [y0.1, y1.1, y2.1] := by have := congrArg Prod.fst hxy; simpa using this
    rw [hz02, hz12, hz22] at hd
    simp only [shD, DataW.agg.injEq, List.cons.injEq, DataW.lit.injEq, Lit.int.injEq, Lit.bool.injEq, true_and, and_true] at hd
    obtain ⟨rfl, rfl, rfl⟩ := hd
    simp at hz0 hz1 hz2
    rw [hz0, hz1, hz2]
theorem e_shapes : Rows.laid_dictum_term_shapes (H := Unit) = .agg ((List.range 13).map fun K : Nat => shD Unit (if K = 0 then 0 else (Ty.parts (K : Int) : Int)) (if K = 0 then 0 else (Ty.names (K : Int) : Int)) (K == 11)) := by kernel_rfl
set_option maxRecDepth 100000 in
theorem shp_of {W : World} {l : List (String × DataW Unit)} (h : laidMet Tryd.prog l W) (hm : ("dictum/term.shapes", Rows.laid_dictum_term_shapes) ∈ l) : Shp W := by
  obtain ⟨g, t, cs, fuel, p, hg, hty, hvar, hd⟩ := Lib.laidMet.reads h hm
  obtain rfl := Option.some.inj (sh_global.symm.trans hg)
  obtain rfl := Option.some.inj ((show (Tryd.prog.globals[1]?).map (·.type) = some 128 by kernel_rfl).symm.trans hty)
  obtain ⟨xs, k, _, hxy, hl, hxl, hel⟩ := DataW.trod_array Tryd.underlying128 hd
  rw [cells_shapes] at hl
  have hxs : xs.map (·.1) = (List.range 13).map fun K : Nat => shD Unit (if K = 0 then 0 else (Ty.parts (K : Int) : Int)) (if K = 0 then 0 else (Ty.names (K : Int) : Int)) (K == 11) := by
    have := congrArg Prod.fst hxy
    rw [e_shapes] at this
    simpa using this.symm
  intro K h1 h2
  have hK : K < 13 := by omega
  have hx := hel K hK
  rw [cells_shape] at hx
  have hxk : xs[K]? = some (xs[K]'(by omega)) := List.getElem?_eq_getElem (by omega)
  have h3 : (xs[K]'(by omega)).1 = shD Unit (Ty.parts (K : Int) : Int) (Ty.names (K : Int) : Int) (K == 11) := by
    have := congrArg (fun q => q[K]?) hxs
    simp only [List.getElem?_map, hxk, Option.map_some] at this
    rw [List.getElem?_range hK] at this
    simp only [Option.map_some, Option.some.injEq] at this
    rw [this, if_neg (by omega), if_neg (by omega)]
  rw [hxk] at hx
  generalize xs[K]'(by omega) = yy at *
  obtain ⟨yd, yp⟩ := yy
  simp only at h3
  subst h3
  have hc := one_shape hx
  have hcell : ∀ j, j < 3 → W.cell? ⟨1, K * 3 + j, none⟩ = ([Value.int .i64 (Ty.parts (K : Int) : Int), .int .i64 (Ty.names (K : Int) : Int), .bool (K == 11)])[j]? := fun j hj => by
    rw [World.var?_cell sh_global hvar (K * 3 + j), ← hc, List.getElem?_take, if_pos hj, List.getElem?_drop]
    simp
  exact ⟨hcell 0 (by omega), hcell 1 (by omega), hcell 2 (by omega)⟩
noncomputable def laidWorldY (os : Os) : World :=
  let w0 := World.holding Tryd.prog os ⟨#[], #[], []⟩
  let put (h : Array Obj) (g : Nat) (cs : Array Value) : Array Obj := h.modify g fun
    | .cells _ t frozen => .cells cs t frozen
    | o => o
  let h5 := put w0.heap 0 #[.iface 131 (.agg #[.pointer (some ⟨2, 62, none⟩)])]
  let h6 := put h5 1 #[.int .i64 0, .int .i64 0, .bool false, .int .i64 0, .int .i64 1, .bool false, .int .i64 1, .int .i64 1, .bool false, .int .i64 2, .int .i64 0, .bool false, .int .i64 2, .int .i64 0, .bool false, .int .i64 1, .int .i64 0, .bool false, .int .i64 1, .int .i64 0, .bool false, .int .i64 1, .int .i64 0, .bool false, .int .i64 1, .int .i64 0, .bool false, .int .i64 3, .int .i64 2, .bool false, .int .i64 1, .int .i64 0, .bool false, .int .i64 1, .int .i64 0, .bool true, .int .i64 2, .int .i64 1, .bool false]
  { w0 with heap := h6 }
/-! ### arguments -/
theorem bytes_tm : Tryd.prog.bytesOf 27 = 72 := by kernel_rfl
theorem cells_tm : Tryd.prog.cellsOf 27 = 5 := by kernel_rfl
theorem bytes_hyp : Tryd.prog.bytesOf 29 = 24 := by kernel_rfl
theorem cells_hyp : Tryd.prog.cellsOf 29 = 2 := by kernel_rfl
theorem sized_all {H : Type} {ts : List TypeId} {ds : List (DataW H)} (h : (DataW.weightsEach Tryd.prog ts ds).all (· ≤ reachBytes) = true) {j : Nat} {t : TypeId} {d : DataW H} (ht : ts[j]? = some t) (hd : ds[j]? = some d) :
    ∀ n ∈ d.weights Tryd.prog t, n ≤ 140737488351232 := fun n hn => by
  have h1 := List.all_eq_true.1 h _ (DataW.weights_mem_each ht hd n hn)
  have h2 : n ≤ reachBytes := by simpa using h1
  unfold reachBytes at h2
  omega
theorem weights_all {H : Type} {t : TypeId} {d : DataW H} {l : List (DataW H)} (h : d ∈ l) : ∀ n ∈ d.weights Tryd.prog t, n ∈ DataW.weightsAll Tryd.prog t l := by
  induction l with
  | nil => cases h
  | cons x r ih =>
    intro n hn
    rw [DataW.weightsAll]
    rcases List.mem_cons.1 h with rfl | h
    · exact List.mem_append_left _ hn
    · exact List.mem_append_right _ (ih h n hn)
theorem KidL.of {w : World} {L : Nat} : ∀ {s : List Tm} {b o : Nat}, (∀ (i : Nat) (hi : i < s.length), ∃ sv, At5 w b (o + i * 5) s[i] sv ∧ Kid w L s[i] sv) → KidL w L s b o
  | [], _, _, _ => by rw [KidL]; trivial
  | x :: r, b, o, h => by
    rw [KidL]
    refine ⟨by have := h 0 (by simp); rw [Nat.zero_mul, Nat.add_zero] at this; exact this, KidL.of fun i hi => ?_⟩
    have := h (i + 1) (by simpa using hi)
    rw [show o + (i + 1) * 5 = o + 5 + i * 5 by omega] at this
    exact this
theorem GtL.of : ∀ {s : List Tm}, (∀ x ∈ s, Gt x) → GtL s
  | [], _ => by rw [GtL]; trivial
  | x :: r, h => by
    rw [GtL]
    exact ⟨h x (by simp), GtL.of fun y hy => h y (by simp [hy])⟩
set_option maxRecDepth 100000 in
set_option maxHeartbeats 2000000 in
theorem open_tmc {H : Type} {enc : TypeId × Value → H} {W : World} : ∀ (fuel : Nat) (cs : List Value) (y : DataW H × List MemPlace), DataW.trod enc Tryd.prog W 0 (fun _ => true) true fuel 27 cs = some y → (∀ n ∈ y.1.weights Tryd.prog 27, n ≤ 140737488351232) →
    ∃ x sv, cs = tmC x sv ∧ Kid W W.heap.size x sv ∧ Gt x := by
  intro fuel
  induction fuel using Nat.strongRecOn with
  | _ fuel ih =>
    intro cs y h hw
    obtain ⟨xs, k, hk, hxy, hl, hxl, hfs⟩ := DataW.trod_struct Tryd.underlying27 h
    rw [cells_tm] at hl
    match xs, hxl, cs, hl with
    | [y0, y1, y2, y3, y4], _, [v0, v1, v2, v3, v4], _ =>
      have g0 : DataW.trod enc Tryd.prog W 0 (fun _ => true) true k 24 [v0] = some y0 := by have := hfs 0 _ rfl; simpa [show Tryd.prog.cellsOf 24 = 1 by kernel_rfl] using this
      have g1 : DataW.trod enc Tryd.prog W 0 (fun _ => true) true k 9 [v1] = some y1 := by have := hfs 1 _ rfl; simpa [cells_s] using this
      have g2 : DataW.trod enc Tryd.prog W 0 (fun _ => true) true k 9 [v2] = some y2 := by have := hfs 2 _ rfl; simpa [cells_s] using this
      have g3 : DataW.trod enc Tryd.prog W 0 (fun _ => true) true k 3 [v3] = some y3 := by have := hfs 3 _ rfl; simpa [cells_i] using this
      have g4 : DataW.trod enc Tryd.prog W 0 (fun _ => true) true k 25 [v4] = some y4 := by have := hfs 4 _ rfl; simpa [show Tryd.prog.cellsOf 25 = 1 by kernel_rfl] using this
      obtain ⟨z0, hz0, _, wz0⟩ := DataW.trod_int Tryd.underlying24 g0
      obtain ⟨s1, hs1, hs12, _⟩ := DataW.trod_string Tryd.underlying9 g1
      obtain ⟨s2, hs2, hs22, _⟩ := DataW.trod_string Tryd.underlying9 g2
      obtain ⟨z3, hz3, _, wz3⟩ := DataW.trod_int Tryd.underlying3 g3
      have e0 : v0 = .int .i64 z0 := by simpa using hz0
      have e1 : v1 = .string s1 := by simpa using hs1
      have e2 : v2 = .string s2 := by simpa using hs2
      have e3 : v3 = .int .i64 z3 := by simpa using hz3
      have hD : y.1 = .agg [y0.1, y1.1, y2.1, y3.1, y4.1] := by rw [hxy]; simp
      rw [hD, DataW.weights, Tryd.underlying27] at hw
      have w1 : s1.size ≤ 140737488351232 := hw _ (DataW.weights_mem_each (j := 1) (t := 9) (d := y1.1) rfl rfl _ (by rw [hs12]; show s1.size ∈ [s1.data.toList.length]; exact List.mem_singleton.2 rfl))
      have w2 : s2.size ≤ 140737488351232 := hw _ (DataW.weights_mem_each (j := 2) (t := 9) (d := y2.1) rfl rfl _ (by rw [hs22]; show s2.size ∈ [s2.data.toList.length]; exact List.mem_singleton.2 rfl))
      have w4 : ∀ n ∈ y4.1.weights Tryd.prog 25, n ≤ 140737488351232 := fun n hn => hw _ (DataW.weights_mem_each (j := 4) (t := 25) (d := y4.1) rfl rfl _ hn)
      rcases DataW.trod_slice Tryd.underlying25 g4 with ⟨hcs, _⟩ | ⟨a, len, cap, elems, rest, n, hn, hcs, hx4, hb, hle, hm, hel1, hel, _, _⟩
      · have e4 : v4 = .slice none 0 0 := by simpa using hcs
        refine ⟨.mk z0 s1 s2 z3 [], .slice none 0 0, by rw [e0, e1, e2, e3, e4]; rfl, ?_, ?_⟩
        · rw [Kid]
          exact Or.inl ⟨rfl, none, 0, rfl⟩
        · rw [Gt, GtL]
          exact ⟨boundsY64 wz0, w1, w2, boundsY64 wz3, by simp, trivial⟩
      · have e4 : v4 = .slice (some a) len cap := by simpa using hcs
        rw [hx4, DataW.weights, Tryd.underlying25] at w4
        have hb1 := w4 _ List.mem_cons_self
        rw [bytes_tm] at hb1
        simp only [List.length_map] at hb1
        rw [cells_tm] at hel
        have each : ∀ i, i < len → ∃ q : Tm × Value, (∀ j, j < 5 → W.cell? (a.add (i * 5 + j)) = (tmC q.1 q.2)[j]?) ∧ Kid W W.heap.size q.1 q.2 ∧ Gt q.1 := by
          intro i hi
          have h1 := hel i hi
          rw [List.getElem?_eq_getElem (by omega)] at h1
          obtain ⟨cs', h2, h3⟩ := Option.bind_eq_some_iff.1 h1
          obtain ⟨_, hlen', hcell⟩ := World.cells?_some h2
          have hmem : elems[i].1 ∈ elems.map (·.1) := List.mem_map_of_mem (List.getElem_mem _)
          obtain ⟨x, sv, hx, hkid, hgt⟩ := ih n (by omega) cs' elems[i] h3 fun n' hn' => w4 _ (List.mem_cons_of_mem _ (List.mem_append_left _ (weights_all hmem n' hn')))
          refine ⟨(x, sv), fun j hj => ?_, hkid, hgt⟩
          have e := hcell j (by omega)
          rw [Deep.add_add] at e
          rw [e]
          subst hx
          simp [tmC, hj]
        have : Inhabited (Tm × Value) := ⟨(.mk 0 Ty.e0 Ty.e0 0 [], .nilIface)⟩
        obtain ⟨q, hq⟩ := Deep.choose_lt each
        refine ⟨.mk z0 s1 s2 z3 ((List.range len).map fun i => (q i).1), .slice (some a) len cap, by rw [e0, e1, e2, e3, e4]; rfl, ?_, ?_⟩
        · rw [Kid]
          by_cases h0 : len = 0
          · subst h0
            exact Or.inl ⟨rfl, some a, cap, rfl⟩
          · right
            obtain ⟨b, o, sp⟩ := a
            have h00 := (hq 0 (by omega)).1 0 (by omega)
            have h01 : W.cell? ((⟨b, o, sp⟩ : Addr).add (0 * 5 + 0)) = some (.int .i64 (q 0).1.k) := h00
            obtain rfl : sp = none := by simpa [Addr.add] using World.cell?_spot h01
            have hlt : b < W.heap.size := by
              rw [add_plain] at h01
              exact World.block_lt_of_cell? W _ h01
            refine ⟨b, o, cap, hlt, by simp, KidL.of fun i hi => ?_⟩
            simp only [List.length_map, List.length_range] at hi
            obtain ⟨hc5, hkid, _⟩ := hq i hi
            simp only [add_plain] at hc5
            simp only [List.getElem_map, List.getElem_range]
            exact ⟨(q i).2, ⟨by have := hc5 0 (by omega); rw [Nat.add_zero] at this; exact this, by have := hc5 1 (by omega); rw [← Nat.add_assoc] at this; exact this, by have := hc5 2 (by omega); rw [← Nat.add_assoc] at this; exact this, by have := hc5 3 (by omega); rw [← Nat.add_assoc] at this; exact this, by have := hc5 4 (by omega); rw [← Nat.add_assoc] at this; exact this⟩, hkid⟩
        · rw [Gt]
          refine ⟨boundsY64 wz0, w1, w2, boundsY64 wz3, by simp; omega, GtL.of fun x hx => ?_⟩
          obtain ⟨i, hi, rfl⟩ := List.mem_map.1 hx
          exact (hq i (List.mem_range.1 hi)).2.2
theorem agg_of {v : Value} {cs : List Value} (h : v.cells.toList = cs) (hl : cs.length ≠ 1) : v = .agg cs.toArray := by
  have e : v.cells = cs.toArray := Array.ext' (by rw [h])
  have one : ∀ u : Value, v.cells = #[u] → False := fun u hu => by
    rw [hu] at h
    subst h
    simp at hl
  cases v with
  | agg ds => exact congrArg Value.agg e
  | _ => exact (one _ rfl).elim
theorem open_tm {H : Type} {enc : TypeId × Value → H} {W : World} {v : Value} {d : DataW H} {p : List MemPlace} (h : DataW.Trod enc Tryd.prog W 0 (fun _ => true) true 27 v d p) (hsz : ∀ n ∈ d.weights Tryd.prog 27, n ≤ 140737488351232) : ∃ x sv, v = tmV x sv ∧ Kid W W.heap.size x sv ∧ Gt x := by
  obtain ⟨fuel, hf⟩ := h
  obtain ⟨x, sv, hcs, hK, hG⟩ := open_tmc fuel _ _ hf hsz
  exact ⟨x, sv, agg_of hcs (by simp [tmC]), hK, hG⟩
set_option maxRecDepth 100000 in
theorem open_hpc {H : Type} {enc : TypeId × Value → H} {W : World} {fuel : Nat} {cs : List Value} {y : DataW H × List MemPlace}
    (h2 : DataW.trod enc Tryd.prog W 0 (fun _ => true) true fuel 29 cs = some y) (hlen : cs.length = 2) :
    ∃ q : ByteArray × Int, cs = [.string q.1, .int .i64 q.2] ∧ q.1.size ∈ y.1.weights Tryd.prog 29 ∧ Fm.i64 q.2 := by
  obtain ⟨xs, k, hk, hxy, _, hxl, hfs⟩ := DataW.trod_struct Tryd.underlying29 h2
  match xs, hxl, cs, hlen with
  | [y0, y1], _, [v0, v1], _ =>
    have g0 : DataW.trod enc Tryd.prog W 0 (fun _ => true) true k 9 [v0] = some y0 := by have := hfs 0 _ rfl; simpa [cells_s] using this
    have g1 : DataW.trod enc Tryd.prog W 0 (fun _ => true) true k 3 [v1] = some y1 := by have := hfs 1 _ rfl; simpa [cells_i] using this
    obtain ⟨s, hs, hs2, hs3⟩ := DataW.trod_string Tryd.underlying9 g0
    obtain ⟨z1, hz1, hz12, hz13⟩ := DataW.trod_int Tryd.underlying3 g1
    have e0 : v0 = .string s := by simpa using hs
    have e1 : v1 = .int .i64 z1 := by simpa using hz1
    refine ⟨(s, z1), by rw [e0, e1], ?_, boundsY64 hz13⟩
    have hD : y.1 = .agg [y0.1, y1.1] := by rw [hxy]; simp
    rw [hD, DataW.weights, Tryd.underlying29]
    exact DataW.weights_mem_each (j := 0) (t := 9) (d := y0.1) rfl rfl _ (by rw [hs2]; show s.size ∈ [s.data.toList.length]; exact List.mem_singleton.2 rfl)
set_option maxRecDepth 100000 in
theorem open_hys {H : Type} {enc : TypeId × Value → H} {W : World} {base : Nat} {v : Value} {d : DataW H} {p : List MemPlace} (hval : Value.okWide Tryd.prog W .any base 23 v)
    (h : DataW.Trod enc Tryd.prog W 0 (fun _ => true) true 23 v d p) (hsz : ∀ n ∈ d.weights Tryd.prog 23, n ≤ 140737488351232) : ∃ ps : Hs, IsH W W.heap.size v ps ∧ GoodH ps ∧ (∃ a n c, v = .slice a n c) := by
  obtain ⟨a0, len, cap, rfl⟩ := okWide_slice Tryd.underlying23 hval
  obtain ⟨fuel, hf⟩ := h
  rcases Deep.open_slice Tryd.underlying23 hf with ⟨hcs, hx⟩ | ⟨a, len', cap', m, n, D, Pl, hcs, hb, hl, hm, hmm, hx, hel⟩
  · simp only [Value.cells, List.cons.injEq, and_true] at hcs
    obtain ⟨rfl, rfl, rfl⟩ := Value.slice.inj (by simpa using hcs)
    exact ⟨[], ⟨none, 0, rfl, by simp, fun k hk => by simp at hk⟩, (fun t ht => by cases ht), _, _, _, rfl⟩
  · obtain ⟨rfl, rfl, rfl⟩ := Value.slice.inj (by simpa [Value.cells] using hcs)
    simp only [if_true] at hmm
    subst hmm
    obtain ⟨rfl, rfl⟩ := Prod.mk.inj hx
    rw [cells_hyp] at hel
    have each : ∀ i, i < m → ∃ q : ByteArray × Int, (∀ j, j < 2 → W.cell? (a.add (i * 2 + j)) = ([Value.string q.1, .int .i64 q.2])[j]?) ∧ q.1.size ∈ (D i).weights Tryd.prog 29 ∧ Fm.i64 q.2 := by
      intro i hi
      obtain ⟨cs', h1, h2⟩ := hel i hi
      obtain ⟨_, hlen, hcell⟩ := World.cells?_some h1
      obtain ⟨q, hq, hq2⟩ := open_hpc h2 hlen
      refine ⟨q, fun j hj => ?_, hq2⟩
      have e := hcell j (by omega)
      rw [Deep.add_add] at e
      rw [e]
      subst hq
      simp [hj]
    have : Inhabited (ByteArray × Int) := ⟨(⟨#[]⟩, 0)⟩
    obtain ⟨q, hq⟩ := Deep.choose_lt each
    have hlen : ((List.range len).map q).length = len := by simp
    rw [DataW.weights, Tryd.underlying23] at hsz
    have hb1 := hsz _ List.mem_cons_self
    rw [bytes_hyp] at hb1
    simp only [List.length_map, List.length_range] at hb1
    refine ⟨(List.range len).map q, ⟨some a, m, by rw [hlen], by rw [hlen]; omega, fun k hk => ?_⟩, fun r hr => ?_, _, _, _, rfl⟩
    · rw [hlen] at hk
      obtain ⟨b, o, s⟩ := a
      have h00 := (hq 0 (by omega)).1 0 (by omega)
      have h01 : W.cell? ((⟨b, o, s⟩ : Addr).add (0 * 2 + 0)) = some (.string (q 0).1) := h00
      obtain rfl : s = none := by simpa [Addr.add] using World.cell?_spot h01
      have hlt : b < W.heap.size := by
        rw [add_plain] at h01
        exact World.block_lt_of_cell? W _ h01
      refine ⟨b, o, hlt, rfl, ?_⟩
      have hk' := (hq k (by omega)).1
      simp only [add_plain] at hk'
      simp only [List.getElem_map, List.getElem_range]
      exact ⟨by have := hk' 0 (by omega); rw [Nat.add_zero] at this; exact this, by have := hk' 1 (by omega); rw [← Nat.add_assoc] at this; exact this⟩
    · obtain ⟨i, hi, rfl⟩ := List.mem_map.1 hr
      have hi' := List.mem_range.1 hi
      have h1 := (hq i (by omega)).2
      have h2 := weights_all (t := 29) (List.mem_map_of_mem (f := D) hi) _ h1.1
      exact ⟨hsz _ (List.mem_cons_of_mem _ (List.mem_append_left _ h2)), h1.2⟩
end Go.Proofs.YtkpbpecikibohaaDoor.Ya
