/-
  Plain mathematics of reading sequents: what stands in a row of tokens, what is put, what Parse answers. No condition.
-/
import Derived.Test.YtkmmlimekachbaaGreatDoorSG3
import Derived.Test.YtkmmlimekachbaaGreatDoorBG2
namespace Go.Proofs.YtkmmlimekachbaaGreatDoor.Sq
open Fm (Nd)
open Sx (Tn T Lv Out)
open Sx (tk sgn rd up stp bnd refuse stp_some bnd_some cost adv)
def Ends (ts:List Tn):Prop:=∀ i,(tk ts i).k=1∨(tk ts i).k=3→i+1<ts.length
theorem sgn_stop {ts:List Tn} (H:Ends ts) {i:Nat} {x:List UInt8} (h:sgn (tk ts i) x=true):i+1<ts.length:=by
 simp only [sgn,Bool.and_eq_true,beq_iff_eq] at h
 exact H i (Or.inr h.1)
def Fine2 (ts:List Tn) (lv:Lv) (i n:Nat) (o:Out):Prop:=∀ a i' n',o=.ok a i' n'→i+adv lv≤i'∧i'<ts.length∧(n≤512→n'≤512)
theorem fine2_bad (ts:List Tn) (lv:Lv) (i n:Nat) (e:Int) (t:Tn):Fine2 ts lv i n (.bad e t):=fun _ _ _ h=>by cases h
theorem fine2_refuse (ts:List Tn) (lv:Lv) (i n:Nat) (i' n':Nat):Fine2 ts lv i n (refuse ts i' n'):=by
 unfold refuse
 split <;> exact fine2_bad _ _ _ _ _ _
theorem rd_stop (ts:List Tn) (H:Ends ts):∀ (f:Nat) (lv:Lv) (i n d:Nat),i<ts.length→8 * (ts.length - i)+cost lv≤f→∃ o,rd ts f lv i n d=some o∧Fine2 ts lv i n o
 | 0,lv,i,n,d,hi,hf=>by cases lv <;> simp [cost] at hf
 | f+1,lv,i,n,d,hi,hf=>by
  have ih:=rd_stop ts H f
  have fb:=fine2_bad ts lv i n
  cases lv with
  | formula =>
   simp only [cost] at hf
   refine bnd_some fb (ih .implied i n d hi (by simp only [cost];omega)) fun a i1 n1 h1 => ?_
   have h1:=h1 _ _ _ rfl
   simp only [adv] at h1
   split
   ·rename_i hs
    have hl:=sgn_stop H hs
    refine stp_some fb fun hu=>bnd_some fb (ih .formula (i1+1) _ d (by omega) (by simp only [cost];omega)) fun b i2 n2 h2 => ?_
    have h2:=h2 _ _ _ rfl
    simp only [adv] at h2
    refine ⟨_,rfl,fun a' i' n' e => ?_⟩
    cases e
    simp only [adv]
    exact ⟨by omega,by omega,fun _=>h2.2.2 hu⟩
   ·refine ⟨_,rfl,fun a' i' n' e => ?_⟩
    cases e
    simp only [adv]
    exact ⟨by omega,by omega,h1.2.2⟩
  | implied =>
   simp only [cost] at hf
   refine bnd_some fb (ih .joined i n d hi (by simp only [cost];omega)) fun a i1 n1 h1 => ?_
   have h1:=h1 _ _ _ rfl
   simp only [adv] at h1
   split
   ·rename_i hs
    have hl:=sgn_stop H hs
    refine stp_some fb fun hu=>bnd_some fb (ih .implied (i1+1) _ d (by omega) (by simp only [cost];omega)) fun b i2 n2 h2 => ?_
    have h2:=h2 _ _ _ rfl
    simp only [adv] at h2
    refine ⟨_,rfl,fun a' i' n' e => ?_⟩
    cases e
    simp only [adv]
    exact ⟨by omega,by omega,fun _=>h2.2.2 hu⟩
   ·refine ⟨_,rfl,fun a' i' n' e => ?_⟩
    cases e
    simp only [adv]
    exact ⟨by omega,by omega,h1.2.2⟩
  | joined =>
   simp only [cost] at hf
   refine bnd_some fb (ih .both i n d hi (by simp only [cost];omega)) fun a i1 n1 h1 => ?_
   have h1:=h1 _ _ _ rfl
   simp only [adv] at h1
   obtain ⟨o,ho,h2⟩:=ih (.ors a) i1 n1 d (by omega) (by simp only [cost];omega)
   refine ⟨o,ho,fun a' i' n' e => ?_⟩
   have h2:=h2 _ _ _ e
   simp only [adv] at h2 ⊢
   exact ⟨by omega,by omega,fun h=>h2.2.2 (h1.2.2 h)⟩
  | both =>
   simp only [cost] at hf
   refine bnd_some fb (ih .single i n d hi (by simp only [cost];omega)) fun a i1 n1 h1 => ?_
   have h1:=h1 _ _ _ rfl
   simp only [adv] at h1
   obtain ⟨o,ho,h2⟩:=ih (.ands a) i1 n1 d (by omega) (by simp only [cost];omega)
   refine ⟨o,ho,fun a' i' n' e => ?_⟩
   have h2:=h2 _ _ _ e
   simp only [adv] at h2 ⊢
   exact ⟨by omega,by omega,fun h=>h2.2.2 (h1.2.2 h)⟩
  | ors a =>
   simp only [cost] at hf
   unfold rd
   split
   ·rename_i hs
    have hl:=sgn_stop H hs
    refine stp_some fb fun hu=>bnd_some fb (ih .both (i+1) _ d (by omega) (by simp only [cost];omega)) fun b i2 n2 h2 => ?_
    have h2:=h2 _ _ _ rfl
    simp only [adv] at h2
    obtain ⟨o,ho,h3⟩:=ih (.ors (.bin 4 a b)) i2 n2 d (by omega) (by simp only [cost];omega)
    refine ⟨o,ho,fun a' i' n' e => ?_⟩
    have h3:=h3 _ _ _ e
    simp only [adv] at h3 ⊢
    exact ⟨by omega,by omega,fun _=>h3.2.2 (h2.2.2 hu)⟩
   ·refine ⟨_,rfl,fun a' i' n' e => ?_⟩
    cases e
    simp only [adv]
    exact ⟨by omega,by omega,fun h=>h⟩
  | ands a =>
   simp only [cost] at hf
   unfold rd
   split
   ·rename_i hs
    have hl:=sgn_stop H hs
    refine stp_some fb fun hu=>bnd_some fb (ih .single (i+1) _ d (by omega) (by simp only [cost];omega)) fun b i2 n2 h2 => ?_
    have h2:=h2 _ _ _ rfl
    simp only [adv] at h2
    obtain ⟨o,ho,h3⟩:=ih (.ands (.bin 3 a b)) i2 n2 d (by omega) (by simp only [cost];omega)
    refine ⟨o,ho,fun a' i' n' e => ?_⟩
    have h3:=h3 _ _ _ e
    simp only [adv] at h3 ⊢
    exact ⟨by omega,by omega,fun _=>h3.2.2 (h2.2.2 hu)⟩
   ·refine ⟨_,rfl,fun a' i' n' e => ?_⟩
    cases e
    simp only [adv]
    exact ⟨by omega,by omega,fun h=>h⟩
  | single =>
   simp only [cost] at hf
   unfold rd
   split
   ·rename_i hs
    have hl:=sgn_stop H hs
    refine stp_some fb fun hu=>bnd_some fb (ih .single (i+1) _ d (by omega) (by simp only [cost];omega)) fun b i2 n2 h2 => ?_
    have h2:=h2 _ _ _ rfl
    simp only [adv] at h2
    refine ⟨_,rfl,fun a' i' n' e => ?_⟩
    cases e
    simp only [adv]
    exact ⟨by omega,by omega,fun _=>h2.2.2 hu⟩
   ·split
    ·rename_i hs
     have hl:=sgn_stop H hs
     split
     ·exact ⟨_,rfl,fine2_refuse _ _ _ _ _ _⟩
     ·refine stp_some fb fun hu=>bnd_some fb (ih .formula (i+1) _ (d+1) (by omega) (by simp only [cost];omega)) fun b i2 n2 h2 => ?_
      have h2:=h2 _ _ _ rfl
      simp only [adv] at h2
      split
      ·rename_i hs2
       have hl2:=sgn_stop H hs2
       refine stp_some fb fun hu2=>⟨_,rfl,fun a' i' n' e => ?_⟩
       cases e
       simp only [adv]
       exact ⟨by omega,by omega,fun _=>hu2⟩
      ·exact ⟨_,rfl,fine2_refuse _ _ _ _ _ _⟩
    ·split
     ·rename_i hk
      have hl:=H i (Or.inl hk)
      split
      ·exact ⟨_,rfl,fine2_refuse _ _ _ _ _ _⟩
      ·refine stp_some fb fun hu=>⟨_,rfl,fun a' i' n' e => ?_⟩
       cases e
       simp only [adv]
       exact ⟨by omega,by omega,fun _=>hu⟩
     ·exact ⟨_,rfl,fine2_refuse _ _ _ _ _ _⟩
def B41 (o:Option Out):Prop:=∀ e t,o=some (.bad e t)→e=40∨e=41
theorem b41_bnd {o:Option Out} {k:T→Nat→Nat→Option Out} (h:B41 o) (hk:∀ a i n,B41 (k a i n)):B41 (bnd o k):=by
 intro e t he
 cases o with
 | none=>cases he
 | some x =>
  cases x with
  | ok a i n=>exact hk a i n e t he
  | bad e' t'=>exact h e t he
theorem b41_stp {ts:List Tn} {i n:Nat} {k:Nat→Option Out} (hk:∀ n,B41 (k n)):B41 (stp ts i n k):=by
 intro e t he
 unfold stp at he
 split at he
 ·injection he with he
  injection he with h1 _
  exact Or.inl h1.symm
 ·exact hk _ e t he
theorem b41_ok (a:T) (i n:Nat):B41 (some (.ok a i n)):=fun e t h=>by cases h
theorem b41_ref (ts:List Tn) (i n:Nat):B41 (some (refuse ts i n)):=by
 intro e t h
 unfold refuse at h
 split at h
 ·injection h with h
  injection h with h1 _
  exact Or.inl h1.symm
 ·injection h with h
  injection h with h1 _
  exact Or.inr h1.symm
theorem rd_b41 (ts:List Tn):∀ (f:Nat) (lv:Lv) (i n d:Nat),B41 (rd ts f lv i n d)
 | 0,_,_,_,_=>fun _ _ h=>by cases h
 | f+1,lv,i,n,d=>by
  have ih:=rd_b41 ts f
  cases lv <;> unfold rd
  all_goals repeat (first | exact ih _ _ _ _ | exact b41_ok _ _ _ | exact b41_ref _ _ _ | refine b41_bnd ?_ (fun _ _ _ => ?_) | refine b41_stp (fun _ => ?_) | split)
theorem rd_bad {ts:List Tn} {f:Nat} {lv:Lv} {i n d:Nat} {e:Int} {t:Tn} (h:rd ts f lv i n d=some (.bad e t)):e≠0:=by
 rcases rd_b41 ts f lv i n d e t h with h | h <;> omega
theorem tk_drop (ts:List Tn) (k i:Nat):tk (ts.drop k) i=tk ts (k+i):=by
 unfold tk
 rw [List.getD_eq_getElem?_getD,List.getD_eq_getElem?_getD,List.getElem?_drop]
theorem Ends.drop {ts:List Tn} (H:Ends ts) (k:Nat):Ends (ts.drop k):=fun i h=>by
 rw [tk_drop] at h
 have:=H _ h
 rw [List.length_drop]
 omega
theorem tk_mem {ts:List Tn} {i:Nat} (h:i<ts.length):tk ts i ∈ ts:=by
 unfold tk
 rw [List.getD_eq_getElem?_getD,List.getElem?_eq_getElem h]
 exact List.getElem_mem h
abbrev sComma:List UInt8:=[44]
abbrev sTurn:List UInt8:=[124,45]
def fstR (ts:List Tn):(Int × Tn) ⊕ Nat:=if (whole false ts []).1.2.2.1=0 then .inr (whole false ts []).1.2.1.toNat else .inl ((whole false ts []).1.2.2.1,(whole false ts []).1.2.2.2)
theorem fst_bound {ts:List Tn} (H:Ends ts) (h0:0<ts.length) {n:Nat} (h:fstR ts=.inr n):1≤n∧n<ts.length∧(whole false ts []).1.2.1=(n:Int)∧(whole false ts []).1.2.2.1=0:=by
 unfold fstR at h
 split at h
 ·rename_i he
  injection h with h
  obtain ⟨o,ho,hf⟩:=rd_stop ts H (8 * ts.length+5) .formula 0 0 0 h0 (by simp only [cost];omega)
  unfold whole fin at he h ⊢
  rw [ho] at he h ⊢
  cases o with
  | bad e t =>
   simp only [Option.getD_some,finO,wholeO] at he h
   simp only [Option.getD_some,finO,wholeO]
   exact absurd he (rd_bad ho)
  | ok a i n' =>
   have hb:=hf _ _ _ rfl
   simp only [adv] at hb
   simp only [Option.getD_some,finO,wholeO,Bool.false_eq_true,false_and,if_false] at he h ⊢
   by_cases hp:(Sx.pt a []).2.1=0
   ·simp only [hp,if_true] at he h ⊢
    have:i=n:=by simpa using h
    subst this
    exact ⟨by omega,hb.2.1,rfl,trivial⟩
   ·simp only [hp,if_false] at he
 ·cases h
def lefts:Nat→List (List Tn)→List Tn→Option ((Int × Tn) ⊕ (List (List Tn) × List Tn))
 | 0,_,_=>none
 | f+1,acc,ts =>
  match fstR ts with
  | .inl x=>some (.inl x)
  | .inr n=>if sgn (tk (ts.drop n) 0) sComma then lefts f (acc ++ [ts.take n]) (ts.drop (n+1)) else some (.inr (acc ++ [ts.take n],ts.drop n))
theorem lefts_total:∀ (f:Nat) (acc:List (List Tn)) (ts:List Tn),Ends ts→0<ts.length→ts.length<f→∃ r,lefts f acc ts=some r
 | 0,_,_,_,_,h=>absurd h (by omega)
 | f+1,acc,ts,H,h0,hf=>by
  unfold lefts
  split
  ·exact ⟨_,rfl⟩
  ·rename_i n hn
   have hb:=fst_bound H h0 hn
   split
   ·rename_i hs
    have hl:=sgn_stop (H.drop n) hs
    rw [List.length_drop] at hl
    exact lefts_total f _ _ (H.drop _) (by rw [List.length_drop];omega) (by rw [List.length_drop];omega)
   ·exact ⟨_,rfl⟩
def goalR (ps:List (List Tn)) (l:List Tn):(Int × Tn) ⊕ (List (List Tn) × List Tn) :=
 match fstR l with
 | .inl x=>.inl x
 | .inr n=>if (tk (l.drop n) 0).k=0 then .inr (ps,l.take n) else .inl (41,tk (l.drop n) 0)
def leftsR (ts:List Tn):(Int × Tn) ⊕ (List (List Tn) × List Tn):=(lefts (ts.length+1) [] ts).getD (.inl (0,Sx.tz))
def sidesR (ts:List Tn):(Int × Tn) ⊕ (List (List Tn) × List Tn) :=
 if sgn (tk ts 0) sTurn then goalR [] (ts.drop 1)
 else
  match leftsR ts with
  | .inl x=>.inl x
  | .inr (ps,r)=>if ps.length=1∧(tk r 0).k=0 then .inr ([],ps.headD []) else if sgn (tk r 0) sTurn then goalR ps (r.drop 1) else .inl (41,tk r 0)
def putL:List (List Tn)→List Nat→List Nd→(Int × Tn) ⊕ (List Nat × List Nd)
 | [],r,t=>.inr (r,t)
 | p :: ps,r,t=>if (whole false p t).1.2.2.1=0 then putL ps ((Bt.putI r (whole false p t).1.1).1) (whole false p t).2 else .inl ((whole false p t).1.2.2.1,(whole false p t).1.2.2.2)
abbrev zeroB:List Nat:=Bt.Bs.zero
def putQ (t:List Nd) (ps:List (List Tn)) (l:List Tn):((List Nat × Int) × (Int × Tn)) × List Nd :=
 match putL ps zeroB t with
 | .inl x=>(((zeroB,0),x),t)
 | .inr (r,t1)=>if (whole false l t1).1.2.2.1=0 then (((r,(whole false l t1).1.1),(0,Sx.tz)),(whole false l t1).2) else (((zeroB,0),((whole false l t1).1.2.2.1,(whole false l t1).1.2.2.2)),t)
end Go.Proofs.YtkmmlimekachbaaGreatDoor.Sq
