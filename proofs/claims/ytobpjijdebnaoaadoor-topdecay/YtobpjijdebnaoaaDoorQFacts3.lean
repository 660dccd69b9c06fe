/- Part of the proof. -/
import Derived.Test.YtobpjijdebnaoaaDoorQFacts
namespace Go.Proofs.YtobpjijdebnaoaaDoorQ
open Go
namespace Al
theorem ntmps16 : type_of% Tryd.ntmps16 := Tryd.ntmps16
theorem ntmps17 : type_of% Tryd.ntmps17 := Tryd.ntmps17
theorem ntmps18 : type_of% Tryd.ntmps18 := Tryd.ntmps18
theorem ntmps19 : type_of% Tryd.ntmps19 := Tryd.ntmps19
theorem ntmps20 : type_of% Tryd.ntmps20 := Tryd.ntmps20
theorem ntmps33 : type_of% Tryd.ntmps33 := Tryd.ntmps33
theorem ntmps34 : type_of% Tryd.ntmps34 := Tryd.ntmps34
theorem ntmps35 : type_of% Tryd.ntmps35 := Tryd.ntmps35
theorem ntmps46 : type_of% Tryd.ntmps46 := Tryd.ntmps46
theorem ntmps6 : type_of% Tryd.ntmps6 := Tryd.ntmps6
theorem ntmps8 : type_of% Tryd.ntmps8 := Tryd.ntmps8
theorem underlying76 : type_of% (Eq.trans (und 76) Tryd.underlying76) := Eq.trans (und 76) Tryd.underlying76
end Al
end Go.Proofs.YtobpjijdebnaoaaDoorQ
namespace Go.Proofs.YtobpjijdebnaoaaDoorQ
open Go
namespace Al
theorem ntmps3 : type_of% Tryd.ntmps3 := Tryd.ntmps3
theorem results3 : type_of% Tryd.results3 := Tryd.results3
end Al
end Go.Proofs.YtobpjijdebnaoaaDoorQ
