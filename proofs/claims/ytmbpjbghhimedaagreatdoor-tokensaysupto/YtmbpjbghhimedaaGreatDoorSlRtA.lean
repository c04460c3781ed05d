/- Roots of primes by the document's own way, reckoned. -/
import Derived.Test.YtmbpjbghhimedaaGreatDoorSlRfRoot
namespace Go.Proofs.YtmbpjbghhimedaaGreatDoor
set_option maxRecDepth 1000000
theorem cube_2 : rootP 2 3 = 1116352408 := by decide +kernel
theorem cube_3 : rootP 3 3 = 1899447441 := by decide +kernel
theorem cube_5 : rootP 5 3 = 3049323471 := by decide +kernel
theorem cube_7 : rootP 7 3 = 3921009573 := by decide +kernel
theorem cube_11 : rootP 11 3 = 961987163 := by decide +kernel
theorem cube_13 : rootP 13 3 = 1508970993 := by decide +kernel
theorem cube_17 : rootP 17 3 = 2453635748 := by decide +kernel
theorem cube_19 : rootP 19 3 = 2870763221 := by decide +kernel
theorem cube_23 : rootP 23 3 = 3624381080 := by decide +kernel
theorem cube_29 : rootP 29 3 = 310598401 := by decide +kernel
theorem cube_31 : rootP 31 3 = 607225278 := by decide +kernel
theorem cube_37 : rootP 37 3 = 1426881987 := by decide +kernel
theorem cube_41 : rootP 41 3 = 1925078388 := by decide +kernel
theorem cube_43 : rootP 43 3 = 2162078206 := by decide +kernel
theorem cube_47 : rootP 47 3 = 2614888103 := by decide +kernel
theorem cube_53 : rootP 53 3 = 3248222580 := by decide +kernel
theorem square_2 : rootP 2 2 = 1779033703 := by decide +kernel
theorem square_3 : rootP 3 2 = 3144134277 := by decide +kernel
theorem square_5 : rootP 5 2 = 1013904242 := by decide +kernel
theorem square_7 : rootP 7 2 = 2773480762 := by decide +kernel
theorem square_11 : rootP 11 2 = 1359893119 := by decide +kernel
theorem square_13 : rootP 13 2 = 2600822924 := by decide +kernel
theorem square_17 : rootP 17 2 = 528734635 := by decide +kernel
theorem square_19 : rootP 19 2 = 1541459225 := by decide +kernel
end Go.Proofs.YtmbpjbghhimedaaGreatDoor
