/-
  What was there at a time stays there (8.6): a store's turn by a version behind that time.
-/
import Derived.Test.YtgldgedbinbigaaSActs
namespace Go.Proofs.Ytgldgedbinbigaa
open Go.RowKit Num
open scoped Classical
set_option linter.unusedVariables false

theorem within_all (k : ByteArray) : withinB k ⟨#[]⟩ ⟨#[]⟩ = true := by
  unfold withinB
  rw [show (⟨#[]⟩ : ByteArray).toList = [] by rw [Lib.toList_data], bl_nil]
  rfl
theorem since_put (s : Sto) (v : Ver) {t : Int} (ht : t < v.time) (h : sinceV s.vs ⟨#[]⟩ ⟨#[]⟩ t = true) : sinceV (putS s v).2.vs ⟨#[]⟩ ⟨#[]⟩ t = true := by
  unfold sinceV at h ⊢
  rw [List.any_eq_true] at h ⊢
  obtain ⟨x, hx, hxt⟩ := h
  have hv : (decide (t < v.time) && withinB v.key ⟨#[]⟩ ⟨#[]⟩) = true := by rw [within_all, decide_eq_true ht]; rfl
  unfold putS
  split
  · exact ⟨x, hx, hxt⟩
  · split
    · exact ⟨x, hx, hxt⟩
    · split
      · rename_i hm
        obtain ⟨y, hy, _⟩ := lastAt_iff hm
        obtain ⟨a, b, h1, h2, _, _⟩ := turnV_split hy v
        show ∃ z, z ∈ turnV s.vs v.key v ∧ _
        exact ⟨v, by rw [h2]; simp, hv⟩
      · split
        · exact ⟨x, hx, hxt⟩
        · exact ⟨x, by show x ∈ s.vs ++ [v]; simp [hx], hxt⟩
theorem past_scan (s : Sto) (v : Ver) {t : Int} (ht : t < v.time) {r : List Pr} (h : ScanIs s.vs t ⟨#[]⟩ ⟨#[]⟩ r) : ScanIs (putS s v).2.vs t ⟨#[]⟩ ⟨#[]⟩ r := scan_same h (fun k => put_past s v ht k)
end Go.Proofs.Ytgldgedbinbigaa
