/- same and sames. -/
import Derived.Test.YtpkdpddillebfaaDoorSQ
namespace Go.Proofs.YtpkdpddillebfaaDoor.S
open Go.RowKit


/-- Rows that can be read: the i-th at the i-th cell. -/
def RowsAt (w : World) (g : Nat) (Gs : List (List Nat)) (c : Nat) : Prop :=
  ∀ i, i < c → ∃ r cap, w.cell? ⟨g, i, none⟩ = some (.slice (some ⟨r, 0, none⟩) (Gs.getD i []).length cap) ∧ ∀ j, j < (Gs.getD i []).length → w.cell? ⟨r, j, none⟩ = some (.int .i64 (((Gs.getD i []).getD j 0 : Nat) : Int))

end Go.Proofs.YtpkdpddillebfaaDoor.S

