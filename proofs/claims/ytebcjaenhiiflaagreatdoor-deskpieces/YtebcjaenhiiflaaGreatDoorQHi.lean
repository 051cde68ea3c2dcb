import Derived.Below
namespace Go.Proofs.YtebcjaenhiiflaaGreatDoor
theorem kd {p:Prop} (h:p):Go.RowKit.Hid p:=h
end Go.Proofs.YtebcjaenhiiflaaGreatDoor
