/- The statement of GrantsMore whose parts come in any order: each part, and all orders. -/
import Derived.Test.YtnjjlnhchfoigaaGrMoreM
namespace Go.Proofs.Ytnjjlnhchfoigaa
open Go.RowKit
set_option linter.unusedVariables false
set_option linter.unusedSimpArgs false
section
variable {Q : Exit → Act → World → Prop} {K : Act → World → Prop} {bg br bb : Nat} {p : Option Addr} {l1 c1 : Nat} {p2 : Option Addr} {l2 c2 : Nat} {pc : Option Addr} {l7 cc : Nat} {pq1 : Option Addr} {l5 cq1 : Nat} {pq2 : Option Addr} {l6 cq2 : Nat} {t1 t2 t3 t4 t5 : ByteArray} {b4 : Bool} {y0 y1 y2 y3 y4 y8 y9 y10 y11 y12 y16 y17 y18 y19 y20 y21 y22 : Value} {x13 x25 x27 x28 x31 x33 x34 x35 : Value} {w0 wa w1 : World} {rs : List Ro} {bs : List Bi} {xr : Ro} {yb : Bi} {cr cb : Array Value} {c : Nat} {d1 d2 d3 : Bool}
set_option maxRecDepth 100000 in
set_option maxHeartbeats 2000000 in
theorem more_o2 (hv : Ros w0 (.slice p l1 c1) rs) (hb0 : Below w0.heap.size w0 w1) (hl : rs.length * 56 ≤ 140737488355328) (h : ∀ v w2, OwnO w0 w1.heap.size w2 v rs → Below w1.heap.size w1 w2 → K (moreF y0 y1 y2 y3 y4 (.pointer (some ⟨bg, 0, none⟩)) (.pointer (some ⟨br, 0, none⟩)) (.pointer (some ⟨bb, 0, none⟩)) y8 y9 y10 y11 y12 y16 y17 y18 y19 y20 y21 y22 (.pointer (some ⟨bg, 0, none⟩)) (.slice p l1 c1) (.agg #[.string t4, .string t5, .slice pc l7 cc]) (.pointer (some ⟨bg, 1, none⟩)) (.slice p2 l2 c2) (.agg #[.string t1, .string t2, .string t3, .bool b4, .slice pq1 l5 cq1, .slice pq2 l6 cq2]) x13 v x27 x28 x31 x33 x34 x35) w2) :
    Oper.wp Try.prog { dst := some 25, op := Op.call { callee := Callee.value (Operand.func 19), args := #[Operand.tmp 24], argTypes := #[22] }, type := 22, pos := "mid.go:409", after := #[{ on := 1, ground := Ground.data }], guard := none } (moreF y0 y1 y2 y3 y4 (.pointer (some ⟨bg, 0, none⟩)) (.pointer (some ⟨br, 0, none⟩)) (.pointer (some ⟨bb, 0, none⟩)) y8 y9 y10 y11 y12 y16 y17 y18 y19 y20 y21 y22 (.pointer (some ⟨bg, 0, none⟩)) (.slice p l1 c1) (.agg #[.string t4, .string t5, .slice pc l7 cc]) (.pointer (some ⟨bg, 1, none⟩)) (.slice p2 l2 c2) (.agg #[.string t1, .string t2, .string t3, .bool b4, .slice pq1 l5 cq1, .slice pq2 l6 cq2]) x13 x25 x27 x28 x31 x33 x34 x35) w1 K Q := by
  have HC : Hid (Calls Try.prog 19 #[.slice p l1 c1] w1 fun e w' => ∃ u, e = .returned u ∧ OwnO w0 w1.heap.size w' u rs ∧ Below w1.heap.size w1 w') := copyO_any _ _ _ _ hv hb0 hl
  clear hv hb0 hl
  have HK : Hid (∀ v w2, OwnO w0 w1.heap.size w2 v rs → Below w1.heap.size w1 w2 → K (moreF y0 y1 y2 y3 y4 (.pointer (some ⟨bg, 0, none⟩)) (.pointer (some ⟨br, 0, none⟩)) (.pointer (some ⟨bb, 0, none⟩)) y8 y9 y10 y11 y12 y16 y17 y18 y19 y20 y21 y22 (.pointer (some ⟨bg, 0, none⟩)) (.slice p l1 c1) (.agg #[.string t4, .string t5, .slice pc l7 cc]) (.pointer (some ⟨bg, 1, none⟩)) (.slice p2 l2 c2) (.agg #[.string t1, .string t2, .string t3, .bool b4, .slice pq1 l5 cq1, .slice pq2 l6 cq2]) x13 v x27 x28 x31 x33 x34 x35) w2) := h
  clear h
  go_wp2_with fail
  refine Calls.mono HC.out ?_
  rintro e w2 ⟨u, rfl, ho, hb⟩
  dsimp only
  exact HK.out u w2 ho hb
set_option maxRecDepth 100000 in
set_option maxHeartbeats 2000000 in
theorem more_o8 (hv : Bis w0 (.slice p2 l2 c2) bs) (hb0 : Below w0.heap.size w0 w1) (hl : bs.length * 104 ≤ 140737488355328) (h : ∀ v w2, OwnBi w0 w1.heap.size w2 v bs → Below w1.heap.size w1 w2 → K (moreF y0 y1 y2 y3 y4 (.pointer (some ⟨bg, 0, none⟩)) (.pointer (some ⟨br, 0, none⟩)) (.pointer (some ⟨bb, 0, none⟩)) y8 y9 y10 y11 y12 y16 y17 y18 y19 y20 y21 y22 (.pointer (some ⟨bg, 0, none⟩)) (.slice p l1 c1) (.agg #[.string t4, .string t5, .slice pc l7 cc]) (.pointer (some ⟨bg, 1, none⟩)) (.slice p2 l2 c2) (.agg #[.string t1, .string t2, .string t3, .bool b4, .slice pq1 l5 cq1, .slice pq2 l6 cq2]) x13 x25 x27 x28 v x33 x34 x35) w2) :
    Oper.wp Try.prog { dst := some 31, op := Op.call { callee := Callee.value (Operand.func 20), args := #[Operand.tmp 30], argTypes := #[23] }, type := 23, pos := "mid.go:409", after := #[{ on := 7, ground := Ground.data }, { on := 5, ground := Ground.chain }], guard := none } (moreF y0 y1 y2 y3 y4 (.pointer (some ⟨bg, 0, none⟩)) (.pointer (some ⟨br, 0, none⟩)) (.pointer (some ⟨bb, 0, none⟩)) y8 y9 y10 y11 y12 y16 y17 y18 y19 y20 y21 y22 (.pointer (some ⟨bg, 0, none⟩)) (.slice p l1 c1) (.agg #[.string t4, .string t5, .slice pc l7 cc]) (.pointer (some ⟨bg, 1, none⟩)) (.slice p2 l2 c2) (.agg #[.string t1, .string t2, .string t3, .bool b4, .slice pq1 l5 cq1, .slice pq2 l6 cq2]) x13 x25 x27 x28 x31 x33 x34 x35) w1 K Q := by
  have HC : Hid (Calls Try.prog 20 #[.slice p2 l2 c2] w1 fun e w' => ∃ u, e = .returned u ∧ OwnBi w0 w1.heap.size w' u bs ∧ Below w1.heap.size w1 w') := copyB_any _ _ _ _ hv hb0 hl
  clear hv hb0 hl
  have HK : Hid (∀ v w2, OwnBi w0 w1.heap.size w2 v bs → Below w1.heap.size w1 w2 → K (moreF y0 y1 y2 y3 y4 (.pointer (some ⟨bg, 0, none⟩)) (.pointer (some ⟨br, 0, none⟩)) (.pointer (some ⟨bb, 0, none⟩)) y8 y9 y10 y11 y12 y16 y17 y18 y19 y20 y21 y22 (.pointer (some ⟨bg, 0, none⟩)) (.slice p l1 c1) (.agg #[.string t4, .string t5, .slice pc l7 cc]) (.pointer (some ⟨bg, 1, none⟩)) (.slice p2 l2 c2) (.agg #[.string t1, .string t2, .string t3, .bool b4, .slice pq1 l5 cq1, .slice pq2 l6 cq2]) x13 x25 x27 x28 v x33 x34 x35) w2) := h
  clear h
  go_wp2_with fail
  refine Calls.mono HC.out ?_
  rintro e w2 ⟨u, rfl, ho, hb⟩
  dsimp only
  exact HK.out u w2 ho hb
set_option maxRecDepth 100000 in
set_option maxHeartbeats 2000000 in
theorem more_o4  (h : K (moreF y0 y1 y2 y3 y4 (.pointer (some ⟨bg, 0, none⟩)) (.pointer (some ⟨br, 0, none⟩)) (.pointer (some ⟨bb, 0, none⟩)) y8 y9 y10 y11 y12 y16 y17 y18 y19 y20 y21 y22 (.pointer (some ⟨bg, 0, none⟩)) (.slice p l1 c1) (.agg #[.string t4, .string t5, .slice pc l7 cc]) (.pointer (some ⟨bg, 1, none⟩)) (.slice p2 l2 c2) (.agg #[.string t1, .string t2, .string t3, .bool b4, .slice pq1 l5 cq1, .slice pq2 l6 cq2]) x13 x25 (.slice (some ⟨w1.heap.size, 0, none⟩) 1 1) x28 x31 x33 x34 x35) (w1.alloc (.cells #[.string t4, .string t5, .slice pc l7 cc] 47))) :
    Oper.wp Try.prog { dst := some 27, op := Op.buildSlice 22 1 #[(0, Operand.tmp 26)], type := 22, pos := "mid.go:409", after := #[{ on := 3, ground := Ground.data }], guard := none } (moreF y0 y1 y2 y3 y4 (.pointer (some ⟨bg, 0, none⟩)) (.pointer (some ⟨br, 0, none⟩)) (.pointer (some ⟨bb, 0, none⟩)) y8 y9 y10 y11 y12 y16 y17 y18 y19 y20 y21 y22 (.pointer (some ⟨bg, 0, none⟩)) (.slice p l1 c1) (.agg #[.string t4, .string t5, .slice pc l7 cc]) (.pointer (some ⟨bg, 1, none⟩)) (.slice p2 l2 c2) (.agg #[.string t1, .string t2, .string t3, .bool b4, .slice pq1 l5 cq1, .slice pq2 l6 cq2]) x13 x25 x27 x28 x31 x33 x34 x35) w1 K Q := by
  have HK : Hid (K (moreF y0 y1 y2 y3 y4 (.pointer (some ⟨bg, 0, none⟩)) (.pointer (some ⟨br, 0, none⟩)) (.pointer (some ⟨bb, 0, none⟩)) y8 y9 y10 y11 y12 y16 y17 y18 y19 y20 y21 y22 (.pointer (some ⟨bg, 0, none⟩)) (.slice p l1 c1) (.agg #[.string t4, .string t5, .slice pc l7 cc]) (.pointer (some ⟨bg, 1, none⟩)) (.slice p2 l2 c2) (.agg #[.string t1, .string t2, .string t3, .bool b4, .slice pq1 l5 cq1, .slice pq2 l6 cq2]) x13 x25 (.slice (some ⟨w1.heap.size, 0, none⟩) 1 1) x28 x31 x33 x34 x35) (w1.alloc (.cells #[.string t4, .string t5, .slice pc l7 cc] 47))) := h
  clear h
  go_simp
  exact HK.out
set_option maxRecDepth 100000 in
set_option maxHeartbeats 2000000 in
theorem more_o10  (h : K (moreF y0 y1 y2 y3 y4 (.pointer (some ⟨bg, 0, none⟩)) (.pointer (some ⟨br, 0, none⟩)) (.pointer (some ⟨bb, 0, none⟩)) y8 y9 y10 y11 y12 y16 y17 y18 y19 y20 y21 y22 (.pointer (some ⟨bg, 0, none⟩)) (.slice p l1 c1) (.agg #[.string t4, .string t5, .slice pc l7 cc]) (.pointer (some ⟨bg, 1, none⟩)) (.slice p2 l2 c2) (.agg #[.string t1, .string t2, .string t3, .bool b4, .slice pq1 l5 cq1, .slice pq2 l6 cq2]) x13 x25 x27 x28 x31 (.slice (some ⟨w1.heap.size, 0, none⟩) 1 1) x34 x35) (w1.alloc (.cells #[.string t1, .string t2, .string t3, .bool b4, .slice pq1 l5 cq1, .slice pq2 l6 cq2] 49))) :
    Oper.wp Try.prog { dst := some 33, op := Op.buildSlice 23 1 #[(0, Operand.tmp 32)], type := 23, pos := "mid.go:409", after := #[{ on := 9, ground := Ground.data }], guard := none } (moreF y0 y1 y2 y3 y4 (.pointer (some ⟨bg, 0, none⟩)) (.pointer (some ⟨br, 0, none⟩)) (.pointer (some ⟨bb, 0, none⟩)) y8 y9 y10 y11 y12 y16 y17 y18 y19 y20 y21 y22 (.pointer (some ⟨bg, 0, none⟩)) (.slice p l1 c1) (.agg #[.string t4, .string t5, .slice pc l7 cc]) (.pointer (some ⟨bg, 1, none⟩)) (.slice p2 l2 c2) (.agg #[.string t1, .string t2, .string t3, .bool b4, .slice pq1 l5 cq1, .slice pq2 l6 cq2]) x13 x25 x27 x28 x31 x33 x34 x35) w1 K Q := by
  have HK : Hid (K (moreF y0 y1 y2 y3 y4 (.pointer (some ⟨bg, 0, none⟩)) (.pointer (some ⟨br, 0, none⟩)) (.pointer (some ⟨bb, 0, none⟩)) y8 y9 y10 y11 y12 y16 y17 y18 y19 y20 y21 y22 (.pointer (some ⟨bg, 0, none⟩)) (.slice p l1 c1) (.agg #[.string t4, .string t5, .slice pc l7 cc]) (.pointer (some ⟨bg, 1, none⟩)) (.slice p2 l2 c2) (.agg #[.string t1, .string t2, .string t3, .bool b4, .slice pq1 l5 cq1, .slice pq2 l6 cq2]) x13 x25 x27 x28 x31 (.slice (some ⟨w1.heap.size, 0, none⟩) 1 1) x34 x35) (w1.alloc (.cells #[.string t1, .string t2, .string t3, .bool b4, .slice pq1 l5 cq1, .slice pq2 l6 cq2] 49))) := h
  clear h
  go_simp
  exact HK.out
set_option maxRecDepth 100000 in
set_option maxHeartbeats 2000000 in
theorem more_o13  (h : K (moreF y0 y1 y2 y3 y4 (.pointer (some ⟨bg, 0, none⟩)) (.pointer (some ⟨br, 0, none⟩)) (.pointer (some ⟨bb, 0, none⟩)) y8 y9 y10 y11 y12 y16 y17 y18 y19 y20 y21 y22 (.pointer (some ⟨bg, 0, none⟩)) (.slice p l1 c1) (.agg #[.string t4, .string t5, .slice pc l7 cc]) (.pointer (some ⟨bg, 1, none⟩)) (.slice p2 l2 c2) (.agg #[.string t1, .string t2, .string t3, .bool b4, .slice pq1 l5 cq1, .slice pq2 l6 cq2]) (.pointer (some ⟨w1.heap.size, 0, none⟩)) x25 x27 x28 x31 x33 x34 x35) (w1.alloc (.cells #[.slice none 0 0, .slice none 0 0] 25))) :
    Oper.wp Try.prog { dst := some 13, op := Op.alloc 25, type := 0, pos := "mid.go:409", after := #[], guard := none } (moreF y0 y1 y2 y3 y4 (.pointer (some ⟨bg, 0, none⟩)) (.pointer (some ⟨br, 0, none⟩)) (.pointer (some ⟨bb, 0, none⟩)) y8 y9 y10 y11 y12 y16 y17 y18 y19 y20 y21 y22 (.pointer (some ⟨bg, 0, none⟩)) (.slice p l1 c1) (.agg #[.string t4, .string t5, .slice pc l7 cc]) (.pointer (some ⟨bg, 1, none⟩)) (.slice p2 l2 c2) (.agg #[.string t1, .string t2, .string t3, .bool b4, .slice pq1 l5 cq1, .slice pq2 l6 cq2]) x13 x25 x27 x28 x31 x33 x34 x35) w1 K Q := by
  have HK : Hid (K (moreF y0 y1 y2 y3 y4 (.pointer (some ⟨bg, 0, none⟩)) (.pointer (some ⟨br, 0, none⟩)) (.pointer (some ⟨bb, 0, none⟩)) y8 y9 y10 y11 y12 y16 y17 y18 y19 y20 y21 y22 (.pointer (some ⟨bg, 0, none⟩)) (.slice p l1 c1) (.agg #[.string t4, .string t5, .slice pc l7 cc]) (.pointer (some ⟨bg, 1, none⟩)) (.slice p2 l2 c2) (.agg #[.string t1, .string t2, .string t3, .bool b4, .slice pq1 l5 cq1, .slice pq2 l6 cq2]) (.pointer (some ⟨w1.heap.size, 0, none⟩)) x25 x27 x28 x31 x33 x34 x35) (w1.alloc (.cells #[.slice none 0 0, .slice none 0 0] 25))) := h
  clear h
  go_simp
  exact HK.out
set_option maxRecDepth 100000 in
set_option maxHeartbeats 2000000 in
theorem more_o5 {B : Nat} (ho : OwnO w0 B w1 x25 rs) (hx : TB w1 x27 cr 47) (hq : QRo w0 xr cr.toList) (hst : cr.toList.length = 3) (hl : (rs.length + 1) * 56 ≤ 140737488355328) (hB : B ≤ w1.heap.size) (h : ∀ v w2, OwnO w0 B w2 v (rs ++ [xr]) → w1.grownBy w2 x25.ownBlock → K (moreF y0 y1 y2 y3 y4 (.pointer (some ⟨bg, 0, none⟩)) (.pointer (some ⟨br, 0, none⟩)) (.pointer (some ⟨bb, 0, none⟩)) y8 y9 y10 y11 y12 y16 y17 y18 y19 y20 y21 y22 (.pointer (some ⟨bg, 0, none⟩)) (.slice p l1 c1) (.agg #[.string t4, .string t5, .slice pc l7 cc]) (.pointer (some ⟨bg, 1, none⟩)) (.slice p2 l2 c2) (.agg #[.string t1, .string t2, .string t3, .bool b4, .slice pq1 l5 cq1, .slice pq2 l6 cq2]) x13 x25 x27 v x31 x33 x34 x35) w2) :
    Oper.wp Try.prog { dst := some 28, op := Op.call { callee := Callee.builtin Builtin.append, args := #[Operand.tmp 25, Operand.tmp 27], argTypes := #[22, 22] }, type := 22, pos := "mid.go:409", after := #[{ on := 2, ground := Ground.data }, { on := 4, ground := Ground.data }, { on := 2, ground := Ground.chain }], guard := none } (moreF y0 y1 y2 y3 y4 (.pointer (some ⟨bg, 0, none⟩)) (.pointer (some ⟨br, 0, none⟩)) (.pointer (some ⟨bb, 0, none⟩)) y8 y9 y10 y11 y12 y16 y17 y18 y19 y20 y21 y22 (.pointer (some ⟨bg, 0, none⟩)) (.slice p l1 c1) (.agg #[.string t4, .string t5, .slice pc l7 cc]) (.pointer (some ⟨bg, 1, none⟩)) (.slice p2 l2 c2) (.agg #[.string t1, .string t2, .string t3, .bool b4, .slice pq1 l5 cq1, .slice pq2 l6 cq2]) x13 x25 x27 x28 x31 x33 x34 x35) w1 K Q := by
  obtain ⟨i0, hi, hz0, hz1, hz2⟩ := info_parts info_role
  obtain ⟨L, hL, h3, hS, hown⟩ := ho
  obtain ⟨b, rfl, hk⟩ := hx
  have hLl : L.length = rs.length := by rw [← hL, List.length_map]
  refine wp_append_own w1 (.tmp 25) (.tmp 27) 22 rfl B 47 i0 (.agg #[.string ⟨#[]⟩, .string ⟨#[]⟩, .slice none 0 0]) 3 56 Try.underlying22 hi hz0 hz1 hz2 rfl (by decide) _ _ _ rfl hown ⟨b, 0, none⟩ 1 1 cr.toList rfl (by rw [hst]) (fun j u hj => ?_) (fun u hu => ?_) (by unfold maxLen; omega) (by rw [hLl]; exact hl) hB ?_
  · rw [plain_add, Nat.zero_add]
    exact hk.cell (by rw [← Array.getElem?_toList]; exact hj)
  · exact flatO_one (L := [(xr, cr.toList)]) (w := w0) (fun p hp => by rw [List.mem_singleton.1 hp]; exact hq) u (by rw [flatC_cons]; exact List.mem_append_left _ hu)
  · intro v' w' h5 h6 _
    refine h v' w' ⟨L ++ [(xr, cr.toList)], by rw [List.map_append, hL]; rfl, fun p hp => ?_, fun p hp => ?_, ?_⟩ h6
    · rcases List.mem_append.1 hp with hp | hp
      · exact h3 p hp
      · rw [List.mem_singleton.1 hp]; exact hst
    · rcases List.mem_append.1 hp with hp | hp
      · exact hS p hp
      · rw [List.mem_singleton.1 hp]; exact hq
    · rw [List.length_append, flatC_append]
      have e : flatC [(xr, cr.toList)] = cr.toList := by rw [flatC_cons]; exact List.append_nil _
      rw [e]
      exact h5
set_option maxRecDepth 100000 in
set_option maxHeartbeats 2000000 in
theorem more_o11 {B : Nat} (ho : OwnBi w0 B w1 x31 bs) (hx : TB w1 x33 cr 49) (hq : QBi w0 yb cr.toList) (hst : cr.toList.length = 6) (hl : (bs.length + 1) * 104 ≤ 140737488355328) (hB : B ≤ w1.heap.size) (h : ∀ v w2, OwnBi w0 B w2 v (bs ++ [yb]) → w1.grownBy w2 x31.ownBlock → K (moreF y0 y1 y2 y3 y4 (.pointer (some ⟨bg, 0, none⟩)) (.pointer (some ⟨br, 0, none⟩)) (.pointer (some ⟨bb, 0, none⟩)) y8 y9 y10 y11 y12 y16 y17 y18 y19 y20 y21 y22 (.pointer (some ⟨bg, 0, none⟩)) (.slice p l1 c1) (.agg #[.string t4, .string t5, .slice pc l7 cc]) (.pointer (some ⟨bg, 1, none⟩)) (.slice p2 l2 c2) (.agg #[.string t1, .string t2, .string t3, .bool b4, .slice pq1 l5 cq1, .slice pq2 l6 cq2]) x13 x25 x27 x28 x31 x33 v x35) w2) :
    Oper.wp Try.prog { dst := some 34, op := Op.call { callee := Callee.builtin Builtin.append, args := #[Operand.tmp 31, Operand.tmp 33], argTypes := #[23, 23] }, type := 23, pos := "mid.go:409", after := #[{ on := 8, ground := Ground.data }, { on := 10, ground := Ground.data }, { on := 8, ground := Ground.chain }], guard := none } (moreF y0 y1 y2 y3 y4 (.pointer (some ⟨bg, 0, none⟩)) (.pointer (some ⟨br, 0, none⟩)) (.pointer (some ⟨bb, 0, none⟩)) y8 y9 y10 y11 y12 y16 y17 y18 y19 y20 y21 y22 (.pointer (some ⟨bg, 0, none⟩)) (.slice p l1 c1) (.agg #[.string t4, .string t5, .slice pc l7 cc]) (.pointer (some ⟨bg, 1, none⟩)) (.slice p2 l2 c2) (.agg #[.string t1, .string t2, .string t3, .bool b4, .slice pq1 l5 cq1, .slice pq2 l6 cq2]) x13 x25 x27 x28 x31 x33 x34 x35) w1 K Q := by
  obtain ⟨i0, hi, hz0, hz1, hz2⟩ := info_parts info_bind
  obtain ⟨L, hL, h3, hS, hown⟩ := ho
  obtain ⟨b, rfl, hk⟩ := hx
  have hLl : L.length = bs.length := by rw [← hL, List.length_map]
  refine wp_append_own w1 (.tmp 31) (.tmp 33) 23 rfl B 49 i0 (.agg #[.string ⟨#[]⟩, .string ⟨#[]⟩, .string ⟨#[]⟩, .bool false, .slice none 0 0, .slice none 0 0]) 6 104 Try.underlying23 hi hz0 hz1 hz2 rfl (by decide) _ _ _ rfl hown ⟨b, 0, none⟩ 1 1 cr.toList rfl (by rw [hst]) (fun j u hj => ?_) (fun u hu => ?_) (by unfold maxLen; omega) (by rw [hLl]; exact hl) hB ?_
  · rw [plain_add, Nat.zero_add]
    exact hk.cell (by rw [← Array.getElem?_toList]; exact hj)
  · exact flatB_one (L := [(yb, cr.toList)]) (w := w0) (fun p hp => by rw [List.mem_singleton.1 hp]; exact hq) u (by rw [flatC_cons]; exact List.mem_append_left _ hu)
  · intro v' w' h5 h6 _
    refine h v' w' ⟨L ++ [(yb, cr.toList)], by rw [List.map_append, hL]; rfl, fun p hp => ?_, fun p hp => ?_, ?_⟩ h6
    · rcases List.mem_append.1 hp with hp | hp
      · exact h3 p hp
      · rw [List.mem_singleton.1 hp]; exact hst
    · rcases List.mem_append.1 hp with hp | hp
      · exact hS p hp
      · rw [List.mem_singleton.1 hp]; exact hq
    · rw [List.length_append, flatC_append]
      have e : flatC [(yb, cr.toList)] = cr.toList := by rw [flatC_cons]; exact List.append_nil _
      rw [e]
      exact h5
end
end Go.Proofs.Ytnjjlnhchfoigaa
