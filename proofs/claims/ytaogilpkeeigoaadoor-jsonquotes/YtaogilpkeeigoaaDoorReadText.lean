/- Contracts over this translation: what is read where a document is a text. -/
import Derived.Test.YtaogilpkeeigoaaDoorRdQuoted
import Derived.Test.YtaogilpkeeigoaaDoorTellText
namespace Go.Proofs.YtaogilpkeeigoaaDoor
open Go.RowKit
set_option linter.unusedVariables false
set_option linter.unusedSimpArgs false
theorem err_ne : ((0 : Int) != 0) = false := by decide
set_option maxRecDepth 100000 in
set_option maxHeartbeats 1000000 in
theorem value_text (b : Nat) (t : ByteArray) (p k q : Nat) (d : Int) (l : Bs) (w : World) (h : Rd b t p k w) (hp : p ≤ t.size) (ht : t.size ≤ 2000) (hk : k < 200) (hc : hd (rest t p) = 34) (hq : quoted (rest t p) = some (l, rest t q)) (hqs : q ≤ t.size) :
    Calls Tryd.prog 19 #[.pointer (some ⟨b, 0, none⟩), .int .i64 d] w fun e w' => e = .returned (.tuple #[textV ⟨l.toArray⟩, .int .i64 0]) ∧ G b w w' ∧ Rd b t q (k + 1) w' := by
  have HR : Hid (Rd b t p k w) := h
  have HC : Hid (hd (rest t p) = 34) := hc
  have HQ : Hid (quoted (rest t p) = some (l, rest t q)) := hq
  have hsk : skipAt t p = p := skipAt_stop hp (by rw [hc]; decide)
  have HS : Hid (skipAt t p = p) := hsk
  clear h hc hq hsk
  go_enter Tryd.func19, Tryd.ntmps19
  go_wp2_with fail
  refine (skipBlanks_any b t p k _ HR.out hp ht).mono ?_
  rintro e w1 ⟨rfl, g1, r1⟩
  have HG1 : Hid (G b w w1) := g1
  have HR1 : Hid (Rd b t p k w1) := by rw [HS.out] at r1; exact r1
  clear g1 r1
  go_wp2_with fail
  refine (begin_ok b t p k d _ HR1.out hp ht (by rw [HC.out]; decide) hk (Or.inr (by rw [HC.out]; decide))).mono ?_
  rintro e w2 ⟨rfl, g1, r1⟩
  have HG2 : Hid (G b w w2) := HG1.out.trans g1
  have HR2 : Hid (Rd b t p (k + 1) w2) := r1
  clear g1 r1
  go_wp2_with fail
  refine (next_g b t p (k + 1) _ HR2.out hp ht).mono ?_
  rintro e w3 ⟨rfl, g1, r1⟩
  have HG3 : Hid (G b w w3) := HG2.out.trans g1
  have HR3 : Hid (Rd b t p (k + 1) w3) := r1
  clear g1 r1
  rw [HC.out]
  go_wp2_with fail
  refine (quoted_any b t p (k + 1) _ HR3.out hp ht).mono ?_
  rintro e w4 ⟨g1, h1⟩
  have HG4 : Hid (G b w w4) := HG3.out.trans g1
  clear g1
  rcases h1 with ⟨h1, _⟩ | ⟨l', q', h1, _, hq', rfl, r1⟩
  · rw [HQ.out] at h1; cases h1
  · rw [HQ.out] at h1
    have e1 : l = l' := by simpa using (congrArg (fun o => o.map Prod.fst) h1)
    have e2 : rest t q = rest t q' := by simpa using (congrArg (fun o => o.map Prod.snd) h1)
    have e3 := rest_inj hqs hq' e2
    subst e1
    subst e3
    have HR4 : Hid (Rd b t q (k + 1) w4) := r1
    clear r1 h1 e2
    go_wp2_with fail
    go_ret2
    exact ⟨rfl, HG4.out, HR4.out⟩
set_option maxRecDepth 100000 in
set_option maxHeartbeats 1000000 in
theorem read_text (t : ByteArray) (l : Bs) (w : World) (ht : t.size ≤ 2000) (hq : quoted (rest t 0) = some (l, [])) :
    Calls Tryd.prog 12 #[.string t] w fun e w' => e = .returned (.tuple #[textV ⟨l.toArray⟩, .int .i64 0]) ∧ Below w.heap.size w w' := by
  have hc : hd (rest t 0) = 34 := by
    unfold quoted at hq
    split at hq
    · assumption
    · cases hq
  have HC : Hid (hd (rest t 0) = 34) := hc
  have HQ : Hid (quoted (rest t 0) = some (l, rest t t.size)) := by rw [rest_nil (Nat.le_refl _)]; exact hq
  clear hc hq
  have hR : Rd w.heap.size t 0 0 (w.alloc (.cells #[.string t, .int .i64 0, .int .i64 0] 49)) := heap_alloc_new w _
  have HR : Hid (Rd w.heap.size t 0 0 (w.alloc (.cells #[.string t, .int .i64 0, .int .i64 0] 49))) := hR
  clear hR
  go_enter Tryd.func12, Tryd.ntmps12
  go_wp2_with fail
  refine (value_text w.heap.size t 0 0 t.size 0 l _ HR.out (Nat.zero_le _) ht (by decide) HC.out HQ.out (Nat.le_refl _)).mono ?_
  rintro e w1 ⟨rfl, g1, r1⟩
  have HB1 : Hid (Below w.heap.size w w1) := below_of_new g1
  have HR1 : Hid (Rd w.heap.size t t.size 1 w1) := r1
  clear g1 r1
  go_wp2_with fail
  refine (skipBlanks_any w.heap.size t t.size 1 _ HR1.out (Nat.le_refl _) ht).mono ?_
  rintro e w2 ⟨rfl, g1, r1⟩
  have HB2 : Hid (Below w.heap.size w w2) := HB1.out.trans (below_of_G g1 HR1.out.lt)
  have e1 : skipAt t t.size = t.size := skipAt_stop (Nat.le_refl _) (by rw [hd_end (Nat.le_refl _)]; decide)
  rw [e1] at r1
  have h1 := r1.place
  clear g1 r1 e1
  go_wp2_with fail
  go_ret2
  exact ⟨rfl, HB2.out⟩
set_option maxRecDepth 100000 in
set_option maxHeartbeats 1000000 in
theorem kind_text (t : ByteArray) (l : Bs) (w : World) (ht : t.size ≤ 2000) (hq : quoted (rest t 0) = some (l, [])) :
    Calls Tryd.prog 11 #[.string t] w fun e w' => e = .returned (.tuple #[.int .i64 4, .int .i64 0]) ∧ Below w.heap.size w w' := by
  have HQ : Hid (quoted (rest t 0) = some (l, [])) := hq
  clear hq
  go_enter Tryd.func11, Tryd.ntmps11
  go_wp2_with fail
  refine (read_text t l _ ht HQ.out).mono ?_
  rintro e w1 ⟨rfl, hb⟩
  have HB : Hid (Below w.heap.size w w1) := hb
  clear hb
  go_wp2_with fail
  refine (kindOf_text _ _).mono ?_
  rintro e w2 ⟨rfl, rfl⟩
  go_wp2_with fail
  go_ret2
  exact ⟨rfl, HB.out⟩
set_option maxRecDepth 100000 in
set_option maxHeartbeats 1000000 in
theorem canon_text (t : ByteArray) (l : Bs) (w : World) (ht : t.size ≤ 2000) (hq : quoted (rest t 0) = some (l, [])) :
    Calls Tryd.prog 6 #[.string t] w fun e w' => e = .returned (.tuple #[.string ⟨(quote l).toArray⟩, .int .i64 0]) ∧ Below w.heap.size w w' := by
  have hl := (quoted_meant hq).2
  rw [rest_len] at hl
  have hl2 : l.length ≤ (quote l).length := by
    have : ∀ s : Bs, s.length ≤ (s.flatMap quoteB).length := by
      intro s
      induction s with
      | nil => simp
      | cons c s ih =>
        have : 1 ≤ (quoteB c).length := by
          unfold quoteB
          split
          · simp
          · split
            · simp
            · split <;> simp
        simp only [List.flatMap_cons, List.length_append, List.length_cons]
        omega
    have := this l
    simp only [quote, List.length_cons, List.length_append]
    omega
  have hz := size_toArray l
  have h1 : (⟨l.toArray⟩ : ByteArray).size ≤ 1000000 := by rw [hz]; simp at hl; omega
  have h2 : (quote (⟨l.toArray⟩ : ByteArray).data.toList).length ≤ 10000000 := by simp at hl ⊢; omega
  have HQ : Hid (quoted (rest t 0) = some (l, [])) := hq
  have H1 : Hid ((⟨l.toArray⟩ : ByteArray).size ≤ 1000000) := h1
  have H2 : Hid ((quote (⟨l.toArray⟩ : ByteArray).data.toList).length ≤ 10000000) := h2
  clear hq h1 h2 hz hl hl2
  go_enter Tryd.func6, Tryd.ntmps6
  go_wp2_with fail
  refine (read_text t l _ ht HQ.out).mono ?_
  rintro e w1 ⟨rfl, hb⟩
  have HB : Hid (Below w.heap.size w w1) := hb
  clear hb
  go_wp2_with fail
  refine (text_text _ _ (Nat.le_trans H1.out (by omega)) (Nat.le_trans H2.out (by omega))).mono ?_
  rintro e w2 ⟨rfl, hb⟩
  have HB2 : Hid (Below w.heap.size w w2) := HB.out.trans (hb.mono HB.out.size)
  clear hb
  go_wp2_with fail
  go_ret2
  exact ⟨by simp, HB2.out⟩
end Go.Proofs.YtaogilpkeeigoaaDoor
