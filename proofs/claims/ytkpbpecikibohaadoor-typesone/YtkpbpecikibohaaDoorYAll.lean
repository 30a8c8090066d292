/-
  told and checked at every term that may be. No condition but sizes.
-/
import Derived.Test.YtkpbpecikibohaaDoorYChk2
namespace Go.Proofs.YtkpbpecikibohaaDoor.Ya
open Go.RowKit Go.Maps
open Fm (Nd)
open Ty (Tm An)

theorem rec_all {B C m tb mt : Nat} {v : Value} {t : List Nd} : ∀ x : Ty.Tr, TolC B C m tb mt v t x ∧ ChkC B C m tb mt v t x := by
  intro x
  induction x with
  | var n => exact ⟨fun w N g wv sv way hT h hB hK hG hn hw => told_var w hT h hB hK hG hn hw, fun w N g wv sv way id hT h hB hK hG hn hw => checked_var w id hT h hB hK hG hn hw⟩
  | lam n a ha => exact ⟨fun w N g wv sv way hT h hB hK hG hn hw => told_lam w hT h hB hK hG hn hw, fun w N g wv sv way id hT h hB hK hG hn hw => checked_lam ha.2 w id hT h hB hK hG hn hw⟩
  | app a b ha hb => exact ⟨fun w N g wv sv way hT h hB hK hG hn hw => told_app ha.1 hb.2 w hT h hB hK hG hn hw, fun w N g wv sv way id hT h hB hK hG hn hw => checked_app ha.1 hb.2 w id hT h hB hK hG hn hw⟩
  | pair a b ha hb => exact ⟨fun w N g wv sv way hT h hB hK hG hn hw => told_pair w hT h hB hK hG hn hw, fun w N g wv sv way id hT h hB hK hG hn hw => checked_pair ha.2 hb.2 w id hT h hB hK hG hn hw⟩
  | fst a ha => exact ⟨fun w N g wv sv way hT h hB hK hG hn hw => told_fst ha.1 w hT h hB hK hG hn hw, fun w N g wv sv way id hT h hB hK hG hn hw => checked_fst ha.1 w id hT h hB hK hG hn hw⟩
  | snd a ha => exact ⟨fun w N g wv sv way hT h hB hK hG hn hw => told_snd ha.1 w hT h hB hK hG hn hw, fun w N g wv sv way id hT h hB hK hG hn hw => checked_snd ha.1 w id hT h hB hK hG hn hw⟩
  | inl a ha => exact ⟨fun w N g wv sv way hT h hB hK hG hn hw => told_inl w hT h hB hK hG hn hw, fun w N g wv sv way id hT h hB hK hG hn hw => checked_inl ha.2 w id hT h hB hK hG hn hw⟩
  | inr a ha => exact ⟨fun w N g wv sv way hT h hB hK hG hn hw => told_inr w hT h hB hK hG hn hw, fun w N g wv sv way id hT h hB hK hG hn hw => checked_inr ha.2 w id hT h hB hK hG hn hw⟩
  | cas n o a b c ha hb hc => exact ⟨fun w N g wv sv way hT h hB hK hG hn hw => told_cas ha.1 hb.1 hc.1 w hT h hB hK hG hn hw, fun w N g wv sv way id hT h hB hK hG hn hw => checked_cas ha.1 hb.2 hc.2 w id hT h hB hK hG hn hw⟩
  | abo a ha => exact ⟨fun w N g wv sv way hT h hB hK hG hn hw => told_abo w hT h hB hK hG hn hw, fun w N g wv sv way id hT h hB hK hG hn hw => checked_abo ha.1 w id hT h hB hK hG hn hw⟩
  | the f a ha => exact ⟨fun w N g wv sv way hT h hB hK hG hn hw => told_the ha.2 w hT h hB hK hG hn hw, fun w N g wv sv way id hT h hB hK hG hn hw => checked_the ha.2 w id hT h hB hK hG hn hw⟩
  | lt n a b ha hb => exact ⟨fun w N g wv sv way hT h hB hK hG hn hw => told_lt ha.1 hb.1 w hT h hB hK hG hn hw, fun w N g wv sv way id hT h hB hK hG hn hw => checked_lt ha.1 hb.2 w id hT h hB hK hG hn hw⟩
end Go.Proofs.YtkpbpecikibohaaDoor.Ya
