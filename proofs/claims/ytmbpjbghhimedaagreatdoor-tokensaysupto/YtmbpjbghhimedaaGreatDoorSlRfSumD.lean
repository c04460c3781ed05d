/- Contract over this translation: the document's Copy at numbers of 32 bits; the state behind a block. -/
import Derived.Test.YtmbpjbghhimedaaGreatDoorSlRfSumH
namespace Go.Proofs.YtmbpjbghhimedaaGreatDoor
open Go.RowKit
set_option linter.unusedVariables false
set_option linter.unusedSimpArgs false
set_option maxRecDepth 100000 in
set_option maxHeartbeats 1000000 in
theorem copyU_any {w : World} {B gh c n : Nat} {st : List Nat} (h : w.ownsRow B 85 1 (.slice (some ⟨gh, 0, none⟩) n c) n (Vw st)) (hn0 : 0 < n) (hn : n ≤ 1048576) :
    Calls Tryz.prog 68 #[.slice (some ⟨gh, 0, none⟩) n c] w fun e w' => ∃ g cap, e = .returned (.slice (some ⟨g, 0, none⟩) n cap) ∧ w'.ownsRow w.heap.size 85 1 (.slice (some ⟨g, 0, none⟩) n cap) n (Vw st) ∧ Below w.heap.size w w' := by
  obtain ⟨i0, hi, hz0, hz1, hz2⟩ := info_parts info_u32
  have HH : Hid (w.ownsRow B 85 1 (.slice (some ⟨gh, 0, none⟩) n c) n (Vw st)) := h
  clear h
  go_enter Tryz.func68, Tryz.ntmps68
  go_wp2_with (at_builtin; refine wpList_append_lies _ rfl _ _ 82 rfl w.heap.size 85 i0 (.int .u32 0) 1 4 Tryz.underlying82 hi hz0 hz1 hz2 rfl (by decide) _ 0 [] rfl (World.ownsRow_nil _ _ _ _) ⟨gh, 0, none⟩ n c (Vw st) rfl ?g0 ?g1 ?g2 hn0 ?g3 ?g4 (Nat.le_refl _) _ rfl ?_)
  case g0 => exact HH.out.1
  case g1 => exact HH.out.cells rfl
  case g2 => intro u hu; obtain ⟨x, _, rfl⟩ := List.mem_map.1 hu; rfl
  case g3 => unfold maxLen; omega
  case g4 => omega
  intro g cap w3 hown hgrow _ _
  have HO : Hid (w3.ownsRow w.heap.size 85 1 (.slice (some ⟨g, 0, none⟩) n cap) n (Vw st)) := (by simpa using hown : w3.ownsRow w.heap.size 85 1 (.slice (some ⟨g, 0, none⟩) n cap) n (Vw st))
  have HB : Hid (Below w.heap.size w w3) := (Below.refl _ w).grown hgrow (Nat.le_refl _) (fun k hk => by cases hk)
  clear hown hgrow HH
  go_wp2_with fail
  go_ret
  exact ⟨g, cap, rfl, HO.out, HB.out⟩

theorem low8u (x : Nat) (hx : x < 4294967296) : bits .and .u32 (x : Int) 255 = ((x % 256 : Nat) : Int) := by
  have := u32_and_nat x 255 hx (by decide)
  rw [show ((255 : Nat) : Int) = 255 from rfl] at this
  rw [this]
  congr 1
  exact Nat.and_two_pow_sub_one_eq_mod x 8
/-- a number of the first row is written -/
theorem HK.putH {B : Nat} {w0 w : World} {gh c n m : Nat} {kv : Value} {st ks : List Nat} (h : HK B w0 w (.slice (some ⟨gh, 0, none⟩) n c) n st kv m ks) (j x : Nat) : HK B w0 (w.setCell ⟨gh, j, none⟩ (.int .u32 (x : Int))) (.slice (some ⟨gh, 0, none⟩) n c) n (st.set j x) kv m ks :=
  ⟨h.below.setCell (p := ⟨gh, j, none⟩) (h.h.lt gh rfl).1 _, by simpa [Vw, List.map_set] using (h.h.stored j (.int .u32 (x : Int))).1, own_kept h.k (h.h.stored j _).2 h.apart, h.apart⟩
/-- the state, the first j numbers added up -/
def zipAt (st v : List Nat) (j : Nat) : List Nat := (List.zipWith (fun x y => (x + y) % lim) st v).take j ++ st.drop j
theorem zip_step {st v : List Nat} (hs : St8 st) (hv : St8 v) {j : Nat} (hj : j < 8) : zipAt st v (j + 1) = (zipAt st v j).set j ((st.getD j 0 + v.getD j 0) % lim) ∧ (zipAt st v j).getD j 0 = st.getD j 0 := by
  obtain ⟨a0, a1, a2, a3, a4, a5, a6, a7, rfl, _⟩ := hs.parts
  obtain ⟨b0, b1, b2, b3, b4, b5, b6, b7, rfl, _⟩ := hv.parts
  match j, hj with
  | 0, _ => exact ⟨rfl, rfl⟩
  | 1, _ => exact ⟨rfl, rfl⟩
  | 2, _ => exact ⟨rfl, rfl⟩
  | 3, _ => exact ⟨rfl, rfl⟩
  | 4, _ => exact ⟨rfl, rfl⟩
  | 5, _ => exact ⟨rfl, rfl⟩
  | 6, _ => exact ⟨rfl, rfl⟩
  | 7, _ => exact ⟨rfl, rfl⟩
theorem zip_end {st v : List Nat} (hs : St8 st) (hv : St8 v) : zipAt st v 8 = List.zipWith (fun x y => (x + y) % lim) st v := by
  obtain ⟨a0, a1, a2, a3, a4, a5, a6, a7, rfl, _⟩ := hs.parts
  obtain ⟨b0, b1, b2, b3, b4, b5, b6, b7, rfl, _⟩ := hv.parts
  rfl
theorem zip_len {st v : List Nat} (hs : St8 st) (hv : St8 v) {j : Nat} (hj : j ≤ 8) : (zipAt st v j).length = 8 := by
  unfold zipAt
  rw [List.length_append, List.length_take, List.length_zipWith, List.length_drop, hs.1, hv.1]
  omega
theorem own_cell {w : World} {B g c n : Nat} {l : List Nat} (h : w.ownsRow B 85 1 (.slice (some ⟨g, 0, none⟩) n c) n (Vw l)) {j : Nat} (hj : j < n) : w.cell? ⟨g, j, none⟩ = some (.int .u32 (l.getD j 0 : Nat)) := by
  have hl : l.length = n := by have := h.1; simpa [Vw] using this
  rw [h.cellAt j (by omega)]
  simp [Vw, List.getD_eq_getElem?_getD, show j < l.length by omega]
end Go.Proofs.YtmbpjbghhimedaaGreatDoor
