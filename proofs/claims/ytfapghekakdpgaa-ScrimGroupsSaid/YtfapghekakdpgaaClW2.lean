/- Contracts of the library's calls on lists of strings, in the contracts' own words; and Has, Same, Add, Drop, Mine of layer 3. -/
import Derived.Test.YtfapghekakdpgaaClW1
import Derived.Test.YtfapghekakdpgaaOwnPut
namespace Go.Proofs.Ytfapghekakdpgaa
open Go.RowKit M
theorem at_strs {w : World} {A : Option Addr} {ss : List ByteArray} (ha : At w A (sv ss)) (h0 : 0 < ss.length) :
    ∃ b off, A = some ⟨b, off, none⟩ ∧ b < w.heap.size ∧ ∀ j, j < ss.length → w.cell? ⟨b, off + j, none⟩ = some (.string (ss.getD j ByteArray.empty)) := by
  obtain ⟨b, off, e, hb, hc⟩ := ha (fun e => by have h1 := sv_len ss; rw [e] at h1; simp only [List.length_nil] at h1; omega)
  refine ⟨b, off, e, hb, fun j hj => hc j _ ?_⟩
  rw [sv_at ss j hj]
  simp [hj]
theorem own_nil' (w : World) (base : Nat) (e : TypeId) (size : Nat) : w.ownsRow base e size (.slice none 0 0) 0 [] := ⟨by simp, .inl ⟨rfl, rfl⟩⟩
end Go.Proofs.Ytfapghekakdpgaa
