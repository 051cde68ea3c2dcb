import Derived.Test.YtebcjaenhiiflaaGreatDoorRows
import Derived.JoinedOf
namespace Go.Proofs.YtebcjaenhiiflaaGreatDoor
theorem zbf {a b:Bool} (h:a=true) (k:b=true):(a&&b)=true:=by rw [h,k];rfl
theorem fp1:(laidOutB Tryz.prog)=true:=by kernel_rfl
theorem fp2:(mapsRowed Tryz.prog)=true:=by kernel_rfl
theorem fp6:((Tryz.prog.stops==[]))=true:=by kernel_rfl
theorem fp8:((Tryz.prog.stopKnobs==[]))=true:=by kernel_rfl
theorem yacm:(Tryz.prog.stopsHeard)=true:=by kernel_rfl
theorem yacu:(Tryz.prog.mayEnter)=true:=by kernel_rfl
end Go.Proofs.YtebcjaenhiiflaaGreatDoor
