/- What the rows' forced cells ask of the program alone. -/
import Derived.Test.YtebcjaenhiiflaaGreatDoorRows
import Derived.JoinedOf
import Derived.KernelRfl
namespace Go.Proofs.YtebcjaenhiiflaaGreatDoor

theorem band {a b : Bool} (h : a = true) (k : b = true) : (a && b) = true := by rw [h, k]; rfl

theorem fp1 : (laidOutB Tryz.prog) = true := by kernel_rfl

theorem fp2 : (mapsRowed Tryz.prog) = true := by kernel_rfl

theorem fp6 : ((Tryz.prog.stops == [])) = true := by kernel_rfl

theorem fp8 : ((Tryz.prog.stopKnobs == [])) = true := by kernel_rfl

theorem fp24 : (Tryz.prog.stopsHeard) = true := by kernel_rfl

theorem fp25 : (Tryz.prog.mayEnter) = true := by kernel_rfl

end Go.Proofs.YtebcjaenhiiflaaGreatDoor
