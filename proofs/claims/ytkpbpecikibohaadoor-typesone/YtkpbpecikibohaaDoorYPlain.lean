/-
  Plain: the term that a term as it comes is; how many nodes it has; what Where and Infer answer. No condition.
-/
import Derived.Test.YtkpbpecikibohaaDoorYPure
import Derived.Test.YtkpbpecikibohaaDoorFAsk
namespace Go.Proofs.YtkpbpecikibohaaDoor.Ty
open Fm (Nd)

mutual
def toTr : Tm → Tr
  | .mk k n o f s =>
    let r := toTrL s
    let z := Tr.var e0
    if k = 1 then .var n else if k = 2 then .lam n (r.getD 0 z) else if k = 3 then .app (r.getD 0 z) (r.getD 1 z) else if k = 4 then .pair (r.getD 0 z) (r.getD 1 z)
    else if k = 5 then .fst (r.getD 0 z) else if k = 6 then .snd (r.getD 0 z) else if k = 7 then .inl (r.getD 0 z) else if k = 8 then .inr (r.getD 0 z)
    else if k = 9 then .cas n o (r.getD 0 z) (r.getD 1 z) (r.getD 2 z) else if k = 10 then .abo (r.getD 0 z) else if k = 11 then .the f (r.getD 0 z) else .lt n (r.getD 0 z) (r.getD 1 z)
def toTrL : List Tm → List Tr
  | [] => []
  | x :: r => toTr x :: toTrL r
end
theorem toTr_tm : ∀ y : Tr, toTr y.tm = y := by
  intro y
  induction y <;> simp_all [Tr.tm, toTr, toTrL]
theorem nodesL_full (s : List Tm) (m : Nat) : nodesL s m m = m := by
  cases s with
  | nil => rw [nodesL]
  | cons x r => rw [nodesL, if_pos rfl]
theorem nodesL_cons {x : Tm} {s : Nat} (hx : ∀ m, 1 ≤ m → nodesF x m = min s m) (r : List Tm) {m k : Nat} (hk : k ≤ m) : nodesL (x :: r) m k = nodesL r m (min (k + s) m) := by
  rw [nodesL]
  by_cases e : k = m
  · rw [if_pos e, show min (k + s) m = m by omega, nodesL_full, e]
  · rw [if_neg e, hx (m - k) (by omega), show k + min s (m - k) = min (k + s) m by omega]
theorem nodes_size : ∀ (y : Tr) (m : Nat), 1 ≤ m → nodesF y.tm m = min y.size m := by
  intro y
  induction y with
  | var n => intro m hm; simp only [Tr.tm, nodesF, Tr.size]; rw [nodesL]; omega
  | lam n a ha => intro m hm; simp only [Tr.tm, nodesF, Tr.size]; rw [nodesL_cons ha _ hm, nodesL]; omega
  | app a b ha hb => intro m hm; simp only [Tr.tm, nodesF, Tr.size]; rw [nodesL_cons ha _ hm, nodesL_cons hb _ (by omega), nodesL]; omega
  | pair a b ha hb => intro m hm; simp only [Tr.tm, nodesF, Tr.size]; rw [nodesL_cons ha _ hm, nodesL_cons hb _ (by omega), nodesL]; omega
  | fst a ha => intro m hm; simp only [Tr.tm, nodesF, Tr.size]; rw [nodesL_cons ha _ hm, nodesL]; omega
  | snd a ha => intro m hm; simp only [Tr.tm, nodesF, Tr.size]; rw [nodesL_cons ha _ hm, nodesL]; omega
  | inl a ha => intro m hm; simp only [Tr.tm, nodesF, Tr.size]; rw [nodesL_cons ha _ hm, nodesL]; omega
  | inr a ha => intro m hm; simp only [Tr.tm, nodesF, Tr.size]; rw [nodesL_cons ha _ hm, nodesL]; omega
  | cas n o a b c ha hb hc => intro m hm; simp only [Tr.tm, nodesF, Tr.size]; rw [nodesL_cons ha _ hm, nodesL_cons hb _ (by omega), nodesL_cons hc _ (by omega), nodesL]; omega
  | abo a ha => intro m hm; simp only [Tr.tm, nodesF, Tr.size]; rw [nodesL_cons ha _ hm, nodesL]; omega
  | the f a ha => intro m hm; simp only [Tr.tm, nodesF, Tr.size]; rw [nodesL_cons ha _ hm, nodesL]; omega
  | lt n a b ha hb => intro m hm; simp only [Tr.tm, nodesF, Tr.size]; rw [nodesL_cons ha _ hm, nodesL_cons hb _ (by omega), nodesL]; omega
theorem check_zero {x : Tm} (h : checkF x = 0) : x = (toTr x).tm ∧ (toTr x).size ≤ 65536 := by
  unfold checkF at h
  split at h
  · cases h
  · rename_i hn
    split at h
    · rename_i hs
      obtain ⟨y, rfl⟩ := of_shaped _ x (Nat.lt_succ_self _) hs
      rw [toTr_tm]
      refine ⟨rfl, ?_⟩
      have := nodes_size y 65537 (by decide)
      omega
    · cases h
abbrev Hs := List (ByteArray × Int)
def envF (g : Env) : Hs → Env
  | [] => g
  | h :: r => envF (upd g h.1 h.2) r
theorem envF_snoc (g : Env) : ∀ (l : Hs) (h : ByteArray × Int), envF g (l ++ [h]) = upd (envF g l) h.1 h.2
  | [], _ => rfl
  | _ :: r, h => envF_snoc _ r h
def env (l : Hs) : Env := envF (fun _ => none) l
def aheadF (t : List Nd) (l0 : List Int) (hs : Hs) (x : Tm) : Int := if (l0 ++ hs.map (·.2)).any (fun i => !Fm.has t i) then 31 else checkF x
def An.way : An → List Int
  | .ok _ => []
  | .no _ w => w
def An.err : An → Int
  | .ok _ => 0
  | .no e _ => e
def An.val : An → Int
  | .ok f => f
  | .no _ _ => 0
def whF (t : List Nd) (hs : Hs) (x : Tm) (id : Int) : List Int × Int :=
  if aheadF t [id] hs x ≠ 0 then ([], aheadF t [id] hs x) else ((chkd t (toTr x) (env hs) [] id).way, (chkd t (toTr x) (env hs) [] id).err)
def inF (t : List Nd) (hs : Hs) (x : Tm) : Int × Int :=
  if aheadF t [] hs x ≠ 0 then (0, aheadF t [] hs x) else ((told t (toTr x) (env hs) []).val, (told t (toTr x) (env hs) []).err)
end Go.Proofs.YtkpbpecikibohaaDoor.Ty
