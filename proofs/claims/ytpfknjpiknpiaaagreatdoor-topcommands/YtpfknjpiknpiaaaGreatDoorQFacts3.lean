/- Part of the proof. -/
import Derived.Test.YtpfknjpiknpiaaaGreatDoorQFacts
namespace Go.Proofs.YtpfknjpiknpiaaaGreatDoorQ
open Go
namespace Al
theorem ntmps12 : type_of% Tryz.ntmps12 := Tryz.ntmps12
theorem ntmps13 : type_of% Tryz.ntmps13 := Tryz.ntmps13
theorem ntmps14 : type_of% Tryz.ntmps14 := Tryz.ntmps14
theorem ntmps15 : type_of% Tryz.ntmps15 := Tryz.ntmps15
theorem ntmps16 : type_of% Tryz.ntmps16 := Tryz.ntmps16
theorem ntmps17 : type_of% Tryz.ntmps17 := Tryz.ntmps17
theorem ntmps18 : type_of% Tryz.ntmps18 := Tryz.ntmps18
theorem ntmps19 : type_of% Tryz.ntmps19 := Tryz.ntmps19
theorem ntmps20 : type_of% Tryz.ntmps20 := Tryz.ntmps20
theorem ntmps21 : type_of% Tryz.ntmps21 := Tryz.ntmps21
theorem ntmps22 : type_of% Tryz.ntmps22 := Tryz.ntmps22
theorem ntmps23 : type_of% Tryz.ntmps23 := Tryz.ntmps23
theorem ntmps24 : type_of% Tryz.ntmps24 := Tryz.ntmps24
theorem ntmps36 : type_of% Tryz.ntmps36 := Tryz.ntmps36
theorem ntmps37 : type_of% Tryz.ntmps37 := Tryz.ntmps37
theorem ntmps38 : type_of% Tryz.ntmps38 := Tryz.ntmps38
theorem ntmps39 : type_of% Tryz.ntmps39 := Tryz.ntmps39
theorem ntmps40 : type_of% Tryz.ntmps40 := Tryz.ntmps40
theorem ntmps41 : type_of% Tryz.ntmps41 := Tryz.ntmps41
theorem ntmps42 : type_of% Tryz.ntmps42 := Tryz.ntmps42
theorem ntmps43 : type_of% Tryz.ntmps43 := Tryz.ntmps43
theorem ntmps44 : type_of% Tryz.ntmps44 := Tryz.ntmps44
theorem ntmps46 : type_of% Tryz.ntmps46 := Tryz.ntmps46
theorem ntmps5 : type_of% Tryz.ntmps5 := Tryz.ntmps5
theorem ntmps56 : type_of% Tryz.ntmps56 := Tryz.ntmps56
theorem ntmps57 : type_of% Tryz.ntmps57 := Tryz.ntmps57
theorem ntmps58 : type_of% Tryz.ntmps58 := Tryz.ntmps58
theorem ntmps59 : type_of% Tryz.ntmps59 := Tryz.ntmps59
theorem ntmps6 : type_of% Tryz.ntmps6 := Tryz.ntmps6
theorem ntmps60 : type_of% Tryz.ntmps60 := Tryz.ntmps60
theorem ntmps61 : type_of% Tryz.ntmps61 := Tryz.ntmps61
theorem ntmps7 : type_of% Tryz.ntmps7 := Tryz.ntmps7
theorem ntmps8 : type_of% Tryz.ntmps8 := Tryz.ntmps8
theorem ntmps9 : type_of% Tryz.ntmps9 := Tryz.ntmps9
theorem ntmps92 : type_of% Tryz.ntmps92 := Tryz.ntmps92
theorem ntmps93 : type_of% Tryz.ntmps93 := Tryz.ntmps93
theorem results8 : type_of% Tryz.results8 := Tryz.results8
theorem underlying152 : type_of% (Eq.trans (und 152) Tryz.underlying152) := Eq.trans (und 152) Tryz.underlying152
theorem underlying22 : type_of% (Eq.trans (und 22) Tryz.underlying22) := Eq.trans (und 22) Tryz.underlying22
theorem underlying24 : type_of% (Eq.trans (und 24) Tryz.underlying24) := Eq.trans (und 24) Tryz.underlying24
theorem underlying38 : type_of% (Eq.trans (und 38) Tryz.underlying38) := Eq.trans (und 38) Tryz.underlying38
end Al
end Go.Proofs.YtpfknjpiknpiaaaGreatDoorQ
namespace Go.Proofs.YtpfknjpiknpiaaaGreatDoorQ
open Go
namespace Al
theorem ntmps3 : type_of% Tryz.ntmps3 := Tryz.ntmps3
theorem ntmps4 : type_of% Tryz.ntmps4 := Tryz.ntmps4
theorem results3 : type_of% Tryz.results3 := Tryz.results3
end Al
end Go.Proofs.YtpfknjpiknpiaaaGreatDoorQ
