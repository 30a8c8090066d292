/-
  What told and checked leave, as contracts; toldJoined. No condition but sizes.
-/
import Derived.Test.YtkpbpecikibohaaDoorYWith
namespace Go.Proofs.YtkpbpecikibohaaDoor.Ya
open Go.RowKit Go.Maps
open Fm (Nd)
open Ty (Tm An)
set_option linter.unusedSimpArgs false

def TbB (w : World) (B b mt : Nat) (v : Value) (t : List Nd) : Prop := ∀ W, Below B w W → Tb W b mt v t
theorem TbB.later {w w' : World} {B b mt : Nat} {v : Value} {t : List Nd} (h : TbB w B b mt v t) (hb : Below B w w') : TbB w' B b mt v t := fun W hW => h W (hb.trans hW)
theorem TbB.here {w : World} {B b mt : Nat} {v : Value} {t : List Nd} (h : TbB w B b mt v t) : Tb w b mt v t := h w (Below.refl _ _)
theorem Ck.mono {w : World} {B C m n n' : Nat} {pt : Value} {g : Ty.Env} {wv : Value} {way : List Int} (h : Ck w B C m n pt g wv way) (hn : n ≤ n') : Ck w B C m n' pt g wv way := ⟨h.blk, h.map.mono hn, h.row, h.cB, h.mB⟩
theorem Af.mono {w w' : World} {B C m n n' : Nat} {pt : Value} {g : Ty.Env} {wv wv' : Value} {way : List Int} (h : Af w w' B C m n pt g wv wv' way) (hn : n ≤ n') : Af w w' B C m n' pt g wv wv' way := ⟨h.ck.mono hn, h.li, h.kp⟩
theorem Af.own {w w' w'' : World} {B C m n : Nat} {pt : Value} {g : Ty.Env} {wv wv' : Value} {way : List Int} (h : Af w w' B C m n pt g wv wv' way) {br : Nat} {cs : Array Value} {T : TypeId} (hb : Cl w' br cs T) (h1 : T ≠ 75) (h2 : T ≠ 3) (hk : KpP br w' w'') (hge : w.heap.size ≤ br) : Af w w'' B C m n pt g wv wv' way := by
  have nf := h.ck.nf hb h1 h2
  refine ⟨⟨Cl.kp h.ck.blk hk fun e => nf (Or.inl e.symm), h.ck.map.keep (hk.block m h.ck.map.lt fun e => nf (Or.inr (Or.inl e.symm))), own_kp h.ck.row fun k e => hk.block k (own_blk h.ck.row k e).2.1 fun e2 => nf (Or.inr (Or.inr (e2 ▸ e))), h.ck.cB, h.ck.mB⟩, h.li, h.kp.trans hk fun k e => Or.inr (by omega)⟩
def TolC (B C m b mt : Nat) (v : Value) (t : List Nd) (x : Ty.Tr) : Prop :=
  ∀ (w : World) (n : Nat) (g : Ty.Env) (wv sv : Value) (way : List Int), TbB w B b mt v t → Ck w B C m n (.pointer (some ⟨b, 0, none⟩)) g wv way → B ≤ w.heap.size → Kid w B x.tm sv → Gt x.tm → n + 4 * x.size ≤ 90000000000000 → way.length + x.size ≤ 900000 →
    Calls Tryd.prog 18 #[.pointer (some ⟨C, 0, none⟩), tmV x.tm sv] w fun r w' => ∃ wv2, TlP B w' r wv2 (Ty.told t x g way) ∧ Af w w' B C m (n + 4 * x.size) (.pointer (some ⟨b, 0, none⟩)) g wv wv2 way
def ChkC (B C m b mt : Nat) (v : Value) (t : List Nd) (x : Ty.Tr) : Prop :=
  ∀ (w : World) (n : Nat) (g : Ty.Env) (wv sv : Value) (way : List Int) (id : Int), TbB w B b mt v t → Ck w B C m n (.pointer (some ⟨b, 0, none⟩)) g wv way → B ≤ w.heap.size → Kid w B x.tm sv → Gt x.tm → n + 4 * x.size ≤ 90000000000000 → way.length + x.size ≤ 900000 →
    Calls Tryd.prog 22 #[.pointer (some ⟨C, 0, none⟩), tmV x.tm sv, .int .i64 id] w fun r w' => ∃ wv2, ChP B w' r wv2 (Ty.chkd t x g way id) ∧ Af w w' B C m (n + 4 * x.size) (.pointer (some ⟨b, 0, none⟩)) g wv wv2 way
def jnR (t : List Nd) (way : List Int) (k : Int) (A : An) : Except (Int × List Int) Nd := match A with
  | .no e wy => .error (e, wy)
  | .ok f => if (nodeOf t f).k = k then .ok (nodeOf t f) else .error (130, way)
theorem jn_is (t : List Nd) (way : List Int) (k : Int) (A : An) (F : Nd → An) : (A.bind fun f => Ty.jnd t way k f F) = match jnR t way k A with
    | .error e => .no e.1 e.2
    | .ok d => F d := by
  cases A with
  | no e wy => rfl
  | ok f =>
    show (if (Ty.nodeOf t f).k = k then F (Ty.nodeOf t f) else .no 130 way) = _
    unfold jnR
    show (if (nodeOf t f).k = k then F (nodeOf t f) else .no 130 way) = _
    by_cases h : (nodeOf t f).k = k
    · simp only [if_pos h]
    · simp only [if_neg h]
def NdP (B : Nat) (w' : World) (r : Ending) (wv : Value) : Except (Int × List Int) Nd → Prop
  | .ok nd => r = .returned (.tuple #[ndV nd, .nilIface])
  | .error e => ∃ q, r = .returned (.tuple #[ndV Fm.z, .iface 80 (.pointer (some ⟨q, 0, none⟩))]) ∧ Rf w' B q e.1 e.2 wv
theorem JnP.nd {B : Nat} {w w' : World} {r : Ending} {way : List Int} {wv : Value} {t : List Nd} {f k : Int} (h : JnP B w w' r way wv (nodeOf t f) k) : NdP B w' r wv (jnR t way k (.ok f)) ∧ Below w.heap.size w w' := by
  obtain ⟨h1, h2, h3⟩ := h
  refine ⟨?_, h3⟩
  unfold jnR
  by_cases hk : (nodeOf t f).k = k
  · simp only [if_pos hk]
    exact h1 hk
  · simp only [if_neg hk]
    exact h2 hk
theorem neq_if (w : World) (q : Nat) : (binOp .neq 62 (.iface 80 (.pointer (some ⟨q, 0, none⟩))) .nilIface).run Tryd.prog w = .ok (.bool true) w := by kernel_rfl
theorem neq_no (w : World) : (binOp .neq 62 .nilIface .nilIface).run Tryd.prog w = .ok (.bool false) w := by kernel_rfl
set_option maxRecDepth 100000 in
set_option maxHeartbeats 4000000 in
theorem toldJoined_any {B C m b mt : Nat} {v : Value} {t : List Nd} {a : Ty.Tr} (hA : TolC B C m b mt v t a) (w : World) {n : Nat} {g : Ty.Env} {wv sv : Value} {way : List Int} {x : Tm} (hi : 0 < x.sub.length) (hy : x.sub[0] = a.tm) (hT : TbB w B b mt v t) (h : Ck w B C m n (.pointer (some ⟨b, 0, none⟩)) g wv way) (hB : B ≤ w.heap.size) (hK : Kid w B x sv) (hG : Gt x) (hn : n + 4 * a.size ≤ 90000000000000) (hw : way.length + 1 + a.size ≤ 900000) (k : Int) :
    Calls Tryd.prog 31 #[.pointer (some ⟨C, 0, none⟩), tmV x sv, .int .i64 k] w fun r w' => ∃ wv2, NdP B w' r wv2 (jnR t way k (Ty.told t a g (way ++ [0]))) ∧ Af w w' B C m (n + 4 * a.size) (.pointer (some ⟨b, 0, none⟩)) g wv wv2 way := by
  have hx := hG.sub.1
  have hGa : Gt a.tm := hy ▸ hG.sub.2 _ (List.getElem_mem hi)
  have KP := show Hid (∀ W, Below w.heap.size w W → Calls Tryd.prog 57 #[.pointer (some ⟨C, 0, none⟩), tmV x sv, .int .i64 ((0 : Nat) : Int)] W fun r w' => ∃ wv2, TlP B w' r wv2 (Ty.told t a g (way ++ [0])) ∧ Af W w' B C m (n + 4 * a.size) (.pointer (some ⟨b, 0, none⟩)) g wv wv2 way) from
    fun W hW => toldPart_any W 0 hi hy (h.later hW) (by omega) (Nat.le_trans hB hW.size) (hK.below (hW.mono hB)) hx fun W2 kv wv2 hW2 hk hc2 => hA W2 n g wv2 kv (way ++ [((0 : Nat) : Int)]) (hT.later ((hW.mono hB).trans hW2)) hc2 (Nat.le_trans hB (Nat.le_trans hW.size hW2.size)) hk hGa hn (by simp; omega)
  have HCK := show Hid (Ck w B C m n (.pointer (some ⟨b, 0, none⟩)) g wv way) from h
  have HT := show Hid (TbB w B b mt v t) from hT
  obtain ⟨p, nn, c, rfl⟩ := hK.form
  clear hK h hT hA hGa
  generalize Ty.told t a g (way ++ [0]) = A at *
  unfold tmV at KP ⊢
  generalize x.k = xk at *
  generalize x.n = xn at *
  generalize x.o = xo at *
  generalize x.f = xf at *
  have hq1 := neq_if
  have hq2 := neq_no
  go_enter Tryd.func31, Tryd.ntmps31
  go_wp2_with (refine wpList_box 27 _ rfl _ rfl rfl ?_)
  intro w1 bx hn1
  have hx1 : Cl w1 bx _ _ := hn1.blk
  have HN1 := show Hid _ from hn1.bel
  clear hn1
  go_wp2_with (refine wpList_alloc 54 rfl _ zeroNode rfl ?_)
  intro w2 br hn2
  have hx2 := hx1.new hn2
  have x0 : w2.cell? ⟨bx, 0, none⟩ = some (.int .i64 xk) := hx2.cell 0
  have x1 : w2.cell? ⟨bx, 1, none⟩ = some (.string xn) := hx2.cell 1
  have x2 : w2.cell? ⟨bx, 2, none⟩ = some (.string xo) := hx2.cell 2
  have x3 : w2.cell? ⟨bx, 3, none⟩ = some (.int .i64 xf) := hx2.cell 3
  have x4 : w2.cell? ⟨bx, 4, none⟩ = some (.slice p nn c) := hx2.cell 4
  have HB2 := show Hid (Below w.heap.size w w2) from bel_new HN1.out hn2
  have HR2 := show Hid (Cl w2 br #[.int .i64 0, .string ⟨#[]⟩, .int .i64 0, .int .i64 0] 54) from hn2.blk
  have HGE := show Hid (w.heap.size ≤ br) from Nat.le_trans HN1.out.size hn2.ge
  clear hx1 hx2 hn2 HN1
  go_wp2_with fail
  refine Calls.mono (KP.out w2 HB2.out) ?_
  rintro e w3 ⟨wv3, hP3, haf3⟩
  have ck2 := HCK.out.later HB2.out
  have HR3 := show Hid _ from Cl.af HR2.out ck2 haf3.kp (by decide) (by decide)
  have HAF3 := show Hid _ from haf3
  have HAF := show Hid (Af w w3 B C m (n + 4 * a.size) (.pointer (some ⟨b, 0, none⟩)) g wv wv3 way) from (Af.new HCK.out HB2.out).trans haf3
  have HP3 := show Hid _ from hP3
  clear x0 x1 x2 x3 x4 hP3 haf3 KP HR2 ck2
  cases A with
  | no er wy =>
    obtain ⟨q, rfl, hrf⟩ := HP3.out
    have HRF := show Hid _ from hrf
    clear HP3 hrf
    go_wp2_with (refine wpList_st 54 rfl rfl _ _ rfl br rfl _ rfl _ _ HR3.out sizeNode rfl (node_all Fm.z) ?_)
    intro w4 hc4 hk4
    go_wp2_with fail
    refine bodyPost_ret (results_node (nd := Fm.z) rfl _ _ br rfl hc4) rfl ?_
    exact ⟨wv3, ⟨q, rfl, HRF.out.other HR3.out (by decide) (by decide) hk4⟩, HAF.out.own HR3.out (by decide) (by decide) hk4 HGE.out⟩
  | ok f =>
    obtain rfl := HP3.out
    clear HP3
    have hbB : Below B w w3 := HCK.out.below HAF.out.kp hB
    have KJ := show Hid (Calls Tryd.prog 58 #[.pointer (some ⟨C, 0, none⟩), .int .i64 f, .int .i64 k] w3 fun r w' => JnP B w3 w' r way wv3 (nodeOf t f) k) from joined_any w3 HAF.out.ck (HT.out.later hbB).here (by omega) (Nat.le_trans hB HAF.out.kp.size) f k
    have HJ := show Hid (jnR t way k (.ok f) = if (nodeOf t f).k = k then .ok (nodeOf t f) else .error (130, way)) from rfl
    obtain ⟨nd, hnd⟩ : ∃ nd, nd = nodeOf t f := ⟨_, rfl⟩
    rw [← hnd] at KJ HJ
    clear hbB hnd
    go_wp2_with fail
    refine Calls.mono KJ.out ?_
    rintro e w4 ⟨hJ1, hJ2, hb4⟩
    have HR4 := show Hid _ from Cl.later HR3.out hb4
    have HAF4 := show Hid _ from HAF.out.then hb4
    by_cases hk : nd.k = k
    · obtain rfl := hJ1 hk
      have hJ := HJ.out
      rw [if_pos hk] at hJ
      have HJ2 := show Hid _ from hJ
      clear hJ1 hJ2 HJ hk KJ hJ
      unfold ndV
      go_wp2_with (refine wpList_st 54 rfl rfl _ _ rfl br rfl _ rfl _ _ HR4.out sizeNode rfl (node_all nd) ?_)
      intro w5 hc5 hk5
      go_wp2_with fail
      refine bodyPost_ret (results_node (nd := nd) rfl _ _ br rfl hc5) rfl ?_
      exact ⟨wv3, by rw [HJ2.out]; exact (show (_ : Ending) = _ from rfl), HAF4.out.own HR4.out (by decide) (by decide) hk5 HGE.out⟩
    · obtain ⟨q, rfl, hrf⟩ := hJ2 hk
      have hJ := HJ.out
      rw [if_neg hk] at hJ
      have HJ2 := show Hid _ from hJ
      have HRF := show Hid _ from hrf
      clear hJ1 hJ2 HJ hk KJ hrf hJ
      unfold ndV
      go_wp2_with (refine wpList_st 54 rfl rfl _ _ rfl br rfl _ rfl _ _ HR4.out sizeNode rfl (node_all Fm.z) ?_)
      intro w5 hc5 hk5
      go_wp2_with fail
      refine bodyPost_ret (results_node (nd := Fm.z) rfl _ _ br rfl hc5) rfl ?_
      exact ⟨wv3, by rw [HJ2.out]; exact ⟨q, rfl, HRF.out.other HR4.out (by decide) (by decide) hk5⟩, HAF4.out.own HR4.out (by decide) (by decide) hk5 HGE.out⟩
end Go.Proofs.YtkpbpecikibohaaDoor.Ya
