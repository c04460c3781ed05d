/- The roots of the document's primes are the program's constants. -/
import Derived.Test.YtmbpjbghhimedaaGreatDoorSlRtA
import Derived.Test.YtmbpjbghhimedaaGreatDoorSlRtB
import Derived.Test.YtmbpjbghhimedaaGreatDoorSlRtC
import Derived.Test.YtmbpjbghhimedaaGreatDoorSlRtD
import Derived.Test.YtmbpjbghhimedaaGreatDoorSlRfPrP
namespace Go.Proofs.YtmbpjbghhimedaaGreatDoor
set_option maxRecDepth 1000000
theorem roots3 : (prP 312).map (fun p => rootP p 3) = kTab := by
  rw [pr_all]
  simp only [List.map_cons, List.map_nil, cube_2, cube_3, cube_5, cube_7, cube_11, cube_13, cube_17, cube_19, cube_23, cube_29, cube_31, cube_37, cube_41, cube_43, cube_47, cube_53, cube_59, cube_61, cube_67, cube_71, cube_73, cube_79, cube_83, cube_89, cube_97, cube_101, cube_103, cube_107, cube_109, cube_113, cube_127, cube_131, cube_137, cube_139, cube_149, cube_151, cube_157, cube_163, cube_167, cube_173, cube_179, cube_181, cube_191, cube_193, cube_197, cube_199, cube_211, cube_223, cube_227, cube_229, cube_233, cube_239, cube_241, cube_251, cube_257, cube_263, cube_269, cube_271, cube_277, cube_281, cube_283, cube_293, cube_307, cube_311]
  rfl
theorem roots2 : ((prP 312).take 8).map (fun p => rootP p 2) = first8 := by
  rw [pr_all]
  simp only [List.take_succ_cons, List.take_zero, List.map_cons, List.map_nil, square_2, square_3, square_5, square_7, square_11, square_13, square_17, square_19]
  rfl
end Go.Proofs.YtmbpjbghhimedaaGreatDoor
