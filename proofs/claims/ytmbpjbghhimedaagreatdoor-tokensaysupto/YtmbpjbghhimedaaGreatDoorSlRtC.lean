/- Roots of primes by the document's own way, reckoned. -/
import Derived.Test.YtmbpjbghhimedaaGreatDoorSlRfRoot
namespace Go.Proofs.YtmbpjbghhimedaaGreatDoor
set_option maxRecDepth 1000000
theorem cube_137 : rootP 137 3 = 666307205 := by decide +kernel
theorem cube_139 : rootP 139 3 = 773529912 := by decide +kernel
theorem cube_149 : rootP 149 3 = 1294757372 := by decide +kernel
theorem cube_151 : rootP 151 3 = 1396182291 := by decide +kernel
theorem cube_157 : rootP 157 3 = 1695183700 := by decide +kernel
theorem cube_163 : rootP 163 3 = 1986661051 := by decide +kernel
theorem cube_167 : rootP 167 3 = 2177026350 := by decide +kernel
theorem cube_173 : rootP 173 3 = 2456956037 := by decide +kernel
theorem cube_179 : rootP 179 3 = 2730485921 := by decide +kernel
theorem cube_181 : rootP 181 3 = 2820302411 := by decide +kernel
theorem cube_191 : rootP 191 3 = 3259730800 := by decide +kernel
theorem cube_193 : rootP 193 3 = 3345764771 := by decide +kernel
theorem cube_197 : rootP 197 3 = 3516065817 := by decide +kernel
theorem cube_199 : rootP 199 3 = 3600352804 := by decide +kernel
theorem cube_211 : rootP 211 3 = 4094571909 := by decide +kernel
theorem cube_223 : rootP 223 3 = 275423344 := by decide +kernel
end Go.Proofs.YtmbpjbghhimedaaGreatDoor
