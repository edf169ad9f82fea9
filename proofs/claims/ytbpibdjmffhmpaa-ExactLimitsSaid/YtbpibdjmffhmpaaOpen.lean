/- How an argument that is a list of ints is read. Conditions: those of the row's own form. -/
import Derived.Test.YtbpibdjmffhmpaaSmall
import Derived.OpenShut
import Derived.SizedLaws
import Derived.ProofKit
import Derived.ChangeSlices
namespace Go.Proofs.Ytbpibdjmffhmpaa
open Go.ChangeShapes Go.WideShapes Go.ChangeAt Go.RowKit Mth
theorem reads_mk {W : World} {a : Addr} {len cap : Nat} {zs : List Int} (hreach : len * 8 ≤ 140737488351232) (hl : len ≤ cap) (hz : zs.length = cap)
    (hcell : ∀ j, j < zs.length → W.cell? (a.add j) = some (.int .i64 (zs.getD j 0))) (hwz : ∀ n ∈ zs, (Lit.int .i64 n).wf = true)
    (hb : ∀ b off, a = ⟨b, off, none⟩ → 0 < zs.length → b < W.heap.size) : Reads W (.slice (some a) len cap) (zs.take len) := by
  have hlen : (zs.take len).length = len := by rw [List.length_take]; omega
  refine ⟨by rw [hlen]; exact hreach, fun x hx => i64_of_wf (hwz x (List.mem_of_mem_take hx)), ?_⟩
  by_cases h0 : len = 0
  · left
    subst h0
    exact ⟨by simp, _, _, rfl⟩
  · right
    obtain ⟨b, off, spot⟩ := a
    have hspot : spot = none := by simpa [Addr.add] using World.cell?_spot (hcell 0 (by omega))
    subst hspot
    refine ⟨b, off, cap, by rw [hlen], hb b off rfl (by omega), ?_⟩
    intro j hj
    rw [hlen] at hj
    rw [← add_plain, hcell j (by omega)]
    simp [List.getD_eq_getElem?_getD, hj]
end Go.Proofs.Ytbpibdjmffhmpaa
