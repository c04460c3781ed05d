/- Contracts over this translation of the calls of package ptr, at texts of which it is known what they are read as. -/
import Derived.Test.YthdgfehfoidnbabGreatDoorPtrLaws
import Derived.Test.YthdgfehfoidnbabGreatDoorAt
namespace Go.Proofs.YthdgfehfoidnbabGreatDoor
open Go.RowKit
set_option linter.unusedVariables false
set_option linter.unusedSimpArgs false
theorem get_says (N : Nat) (hN : 20 ≤ N) {doc p : ByteArray} {x y : Bs} {v : Array Value} {w : World} (hE : Env w) (hd : doc.size ≤ 8000000) (hp : p.size ≤ 8000000) (hx : doc.data.toList = x) (hy : p.data.toList = y) (hv : getA N x y = v) :
    Says w 6 #[.string doc, .string p] (.tuple v) := by
  intro w1 hb
  subst hx hy hv
  exact get_any N hN doc p w1 hd hp (hE.below hb)
theorem put_says (N : Nat) (hN : 20 ≤ N) {doc p v : ByteArray} {D G : J N} {L : List Bs} {w : World} (hE : Env w) (hd : doc.size ≤ 8000000) (hp : p.size ≤ 8000000) (hv : v.size ≤ 8000000) (h1 : rd20 N doc.data.toList = .ok D) (h2 : stepsE p.data.toList = .ok L) (h3 : rd20 N v.data.toList = .ok G) (hF : ∀ R, putR N D L G = .ok R → Fine N R) :
    Says w 7 #[.string doc, .string p, .string v] (.tuple (madeA N (putR N D L G))) := by
  intro w1 hb
  have e : putA N doc.data.toList p.data.toList v.data.toList = madeA N (putR N D L G) := by
    unfold putA
    rw [h1]
    simp only [h2, h3]
  rw [← e]
  refine putTop_any N hN doc p v w1 hd hp hv (hE.below hb) ?_
  intro D' L' G' R e1 e2 e3 e4
  rw [h1] at e1
  rw [h2] at e2
  rw [h3] at e3
  cases e1
  cases e2
  cases e3
  exact hF R e4
theorem one_says (N : Nat) (hN : 20 ≤ N) {w : World} (hE : Env w) : Says w 6 #[.string ⟨#[49]⟩, .string ⟨#[47, 97]⟩] (.tuple #[.string ByteArray.empty, .int .i64 7]) :=
  get_says N hN (x := [49]) (y := [47, 97]) hE (by show 1 ≤ _; omega) (by show 2 ≤ _; omega) rfl rfl getA_one
theorem size_arr (l : Bs) : (⟨l.toArray⟩ : ByteArray).size = l.length := by simp [ByteArray.size]
end Go.Proofs.YthdgfehfoidnbabGreatDoor
