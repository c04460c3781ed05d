/- Roots of primes by the document's own way, reckoned. -/
import Derived.Test.YtmbpjbghhimedaaGreatDoorSlRfRoot
namespace Go.Proofs.YtmbpjbghhimedaaGreatDoor
set_option maxRecDepth 1000000
theorem cube_59 : rootP 59 3 = 3835390401 := by decide +kernel
theorem cube_61 : rootP 61 3 = 4022224774 := by decide +kernel
theorem cube_67 : rootP 67 3 = 264347078 := by decide +kernel
theorem cube_71 : rootP 71 3 = 604807628 := by decide +kernel
theorem cube_73 : rootP 73 3 = 770255983 := by decide +kernel
theorem cube_79 : rootP 79 3 = 1249150122 := by decide +kernel
theorem cube_83 : rootP 83 3 = 1555081692 := by decide +kernel
theorem cube_89 : rootP 89 3 = 1996064986 := by decide +kernel
theorem cube_97 : rootP 97 3 = 2554220882 := by decide +kernel
theorem cube_101 : rootP 101 3 = 2821834349 := by decide +kernel
theorem cube_103 : rootP 103 3 = 2952996808 := by decide +kernel
theorem cube_107 : rootP 107 3 = 3210313671 := by decide +kernel
theorem cube_109 : rootP 109 3 = 3336571891 := by decide +kernel
theorem cube_113 : rootP 113 3 = 3584528711 := by decide +kernel
theorem cube_127 : rootP 127 3 = 113926993 := by decide +kernel
theorem cube_131 : rootP 131 3 = 338241895 := by decide +kernel
end Go.Proofs.YtmbpjbghhimedaaGreatDoor
