/- Roots of primes by the document's own way, reckoned. -/
import Derived.Test.YtmbpjbghhimedaaGreatDoorSlRfRoot
namespace Go.Proofs.YtmbpjbghhimedaaGreatDoor
set_option maxRecDepth 1000000
theorem cube_227 : rootP 227 3 = 430227734 := by decide +kernel
theorem cube_229 : rootP 229 3 = 506948616 := by decide +kernel
theorem cube_233 : rootP 233 3 = 659060556 := by decide +kernel
theorem cube_239 : rootP 239 3 = 883997877 := by decide +kernel
theorem cube_241 : rootP 241 3 = 958139571 := by decide +kernel
theorem cube_251 : rootP 251 3 = 1322822218 := by decide +kernel
theorem cube_257 : rootP 257 3 = 1537002063 := by decide +kernel
theorem cube_263 : rootP 263 3 = 1747873779 := by decide +kernel
theorem cube_269 : rootP 269 3 = 1955562222 := by decide +kernel
theorem cube_271 : rootP 271 3 = 2024104815 := by decide +kernel
theorem cube_277 : rootP 277 3 = 2227730452 := by decide +kernel
theorem cube_281 : rootP 281 3 = 2361852424 := by decide +kernel
theorem cube_283 : rootP 283 3 = 2428436474 := by decide +kernel
theorem cube_293 : rootP 293 3 = 2756734187 := by decide +kernel
theorem cube_307 : rootP 307 3 = 3204031479 := by decide +kernel
theorem cube_311 : rootP 311 3 = 3329325298 := by decide +kernel
end Go.Proofs.YtmbpjbghhimedaaGreatDoor
