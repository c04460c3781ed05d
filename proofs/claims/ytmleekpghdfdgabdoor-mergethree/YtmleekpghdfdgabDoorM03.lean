/- Several texts in one: RdBegin, RdRow, RdList. -/
import Derived.Test.YtmleekpghdfdgabDoorM02
import Derived.Laws.Externs
/- Contracts of the reader's methods over this translation: where a value begins, words, one sign of a text. -/
namespace Go.Proofs.YtmleekpghdfdgabDoor
open Go.RowKit
set_option linter.unusedVariables false
set_option linter.unusedSimpArgs false
theorem run_index (s : ByteArray) (n : Int) (w : World) : Sem.run Tryd.prog (callFunc 62 #[.string s, .int .u8 n]) w = .ok (.value (.int .i64 (firstIdx s n.toNat.toUInt8))) w := by
  rw [run_callFunc_extern (e := Extern.BytealgIndexByte.indexByte) Tryd.func62 (by kernel_rfl) (by kernel_rfl) (by kernel_rfl) (by kernel_rfl)]
  rw [run_indexByte_string]
  rfl
set_option maxRecDepth 100000 in
set_option maxHeartbeats 400000 in
theorem index_any (s : ByteArray) (n : Int) (w : World) : Calls Tryd.prog 35 #[.string s, .int .u8 n] w fun e w' => e = .returned (.int .i64 (firstIdx s n.toNat.toUInt8)) ∧ w' = w := by
  have h := run_index
  go_enter Tryd.func35, Tryd.ntmps35
  go_wp2
  go_ret
  exact ⟨rfl, rfl⟩
def opensT : ByteArray := { data := #[110, 116, 102, 34, 91, 123, 45, 48, 49, 50, 51, 52, 53, 54, 55, 56, 57] }
theorem opens_all : ∀ n : Fin 256, decide (firstIdx opensT (UInt8.ofNat n.val) < 0) = !(opens.contains (UInt8.ofNat n.val)) := by decide +kernel
theorem opens_idx (c : UInt8) : decide (firstIdx opensT c < 0) = !(opens.contains c) := by
  have := opens_all ⟨c.toNat, c.toNat_lt⟩
  simpa using this
theorem idx_neg {c : UInt8} (h : ¬ c ∈ opens) : firstIdx opensT c < 0 := by
  have := opens_idx c
  have e : opens.contains c = false := by simpa using h
  rw [e] at this
  simpa using this
theorem idx_pos {c : UInt8} (h : c ∈ opens) : ¬ firstIdx opensT c < 0 := by
  have := opens_idx c
  have e : opens.contains c = true := by simpa using h
  rw [e] at this
  simpa using this
set_option maxRecDepth 100000 in
set_option maxHeartbeats 400000 in
theorem begin_syntax (b : Nat) (t : ByteArray) (p k : Nat) (d : Int) (w : World) (h : Rd b t p k w) (hp : p ≤ t.size) (ht : t.size ≤ 2000) (hc : ¬ hd (rest t p) ∈ opens) :
    Calls Tryd.prog 25 #[.pointer (some ⟨b, 0, none⟩), .int .i64 d] w fun e w' => e = .returned (.int .i64 3) ∧ G b w w' := by
  have HR : Hid (Rd b t p k w) := h
  have hi := idx_neg hc
  clear h hc
  go_enter Tryd.func25, Tryd.ntmps25
  go_wp2_with fail
  refine (next_g b t p k _ HR.out hp ht).mono ?_
  rintro e w1 ⟨rfl, g1, r1⟩
  have HG1 : Hid (G b w w1) := g1
  clear g1 r1
  go_wp2_with fail
  refine (index_any opensT _ _).mono ?_
  rintro e w2 ⟨rfl, rfl⟩
  go_wp2_with fail
  go_ret
  exact ⟨rfl, HG1.out⟩
set_option maxRecDepth 100000 in
set_option maxHeartbeats 400000 in
theorem begin_large (b : Nat) (t : ByteArray) (p k : Nat) (d : Int) (w : World) (h : Rd b t p k w) (hp : p ≤ t.size) (ht : t.size ≤ 2000) (hc : hd (rest t p) ∈ opens) (hk : 200 ≤ k) (hk' : k ≤ 2000) :
    Calls Tryd.prog 25 #[.pointer (some ⟨b, 0, none⟩), .int .i64 d] w fun e w' => e = .returned (.int .i64 2) ∧ G b w w' := by
  have HR : Hid (Rd b t p k w) := h
  have hi := idx_pos hc
  clear h hc
  go_enter Tryd.func25, Tryd.ntmps25
  go_wp2_with fail
  refine (next_g b t p k _ HR.out hp ht).mono ?_
  rintro e w1 ⟨rfl, g1, r1⟩
  have HG1 : Hid (G b w w1) := g1
  have h1 := r1.many
  have h2 := r1.free 2
  clear g1 r1
  go_wp2_with fail
  refine (index_any opensT _ _).mono ?_
  rintro e w2 ⟨rfl, rfl⟩
  go_wp2_with fail
  go_ret
  exact ⟨rfl, HG1.out.setCell 2 _⟩
set_option maxRecDepth 100000 in
set_option maxHeartbeats 400000 in
theorem begin_deep (b : Nat) (t : ByteArray) (p k : Nat) (d : Int) (w : World) (h : Rd b t p k w) (hp : p ≤ t.size) (ht : t.size ≤ 2000) (hk : k < 200) (hd10 : 10 ≤ d) (hc : hd (rest t p) = 91 ∨ hd (rest t p) = 123) :
    Calls Tryd.prog 25 #[.pointer (some ⟨b, 0, none⟩), .int .i64 d] w fun e w' => e = .returned (.int .i64 4) ∧ G b w w' := by
  have HR : Hid (Rd b t p k w) := h
  have hi := idx_pos (c := hd (rest t p)) (by rcases hc with hc | hc <;> rw [hc] <;> decide)
  rcases hc with hc | hc
  all_goals
    clear h
    go_enter Tryd.func25, Tryd.ntmps25
    go_wp2_with fail
    refine (next_g b t p k _ HR.out hp ht).mono ?_
    rintro e w1 ⟨rfl, g1, r1⟩
    have HG1 : Hid (G b w w1) := g1
    have h1 := r1.many
    have h2 := r1.free 2
    clear g1 r1
    go_wp2_with fail
    refine (index_any opensT _ _).mono ?_
    rintro e w2 ⟨rfl, rfl⟩
    go_wp2_with fail
    go_ret
    exact ⟨rfl, HG1.out.setCell 2 _⟩
theorem ne_bool {c : UInt8} (n : Nat) (hn : n < 256) (h : c ≠ UInt8.ofNat n) : ((c.toNat : Int) == (n : Int)) = false := by
  rw [beq_eq_false_iff_ne]
  intro e
  apply h
  have : c.toNat = n := by omega
  rw [← this]
  simp
set_option maxRecDepth 100000 in
set_option maxHeartbeats 400000 in
theorem begin_ok (b : Nat) (t : ByteArray) (p k : Nat) (d : Int) (w : World) (h : Rd b t p k w) (hp : p ≤ t.size) (ht : t.size ≤ 2000) (ho : hd (rest t p) ∈ opens) (hk : k < 200) (hc : d < 10 ∨ (hd (rest t p) ≠ 91 ∧ hd (rest t p) ≠ 123)) :
    Calls Tryd.prog 25 #[.pointer (some ⟨b, 0, none⟩), .int .i64 d] w fun e w' => e = .returned (.int .i64 0) ∧ G b w w' ∧ Rd b t p (k + 1) w' := by
  have HR : Hid (Rd b t p k w) := h
  have hi := idx_pos ho
  have hc' : (decide (10 ≤ d) = false) ∨ ((((hd (rest t p)).toNat : Int) == 91) = false ∧ (((hd (rest t p)).toNat : Int) == 123) = false) := by
    rcases hc with hc | hc
    · exact Or.inl (decide_eq_false (by omega))
    · exact Or.inr ⟨ne_bool 91 (by decide) hc.1, ne_bool 123 (by decide) hc.2⟩
  clear h ho hc
  rcases hc' with hc | ⟨hc1, hc2⟩
  all_goals
    go_enter Tryd.func25, Tryd.ntmps25
    go_wp2_with fail
    refine (next_g b t p k _ HR.out hp ht).mono ?_
    rintro e w1 ⟨rfl, g1, r1⟩
    have HG1 : Hid (G b w w1) := g1
    have HR1 : Hid (Rd b t p k w1) := r1
    have h1 := r1.many
    have h2 := r1.free 2
    clear g1 r1
    go_wp2_with fail
    refine (index_any opensT _ _).mono ?_
    rintro e w2 ⟨rfl, rfl⟩
    go_wp2_with fail
    all_goals
      go_ret
      exact ⟨rfl, HG1.out.setCell 2 _, HR1.out.count (k + 1)⟩
end Go.Proofs.YtmleekpghdfdgabDoor
/- Contract of the reader's method over this translation that reads a row: parts with a sign between them, up to the sign that ends it. -/
namespace Go.Proofs.YtmleekpghdfdgabDoor
open Go.RowKit
set_option linter.unusedVariables false
set_option linter.unusedSimpArgs false
theorem skip_skip : ∀ r : Bs, skip (skip r) = skip r
  | [] => rfl
  | c :: r => by
    rw [skip]
    split
    · exact skip_skip r
    · rename_i h
      rw [skip, if_neg h]
theorem skipAt_skipAt (t : ByteArray) (p : Nat) (hp : p ≤ t.size) : skipAt t (skipAt t p) = skipAt t p := by
  have h1 := rest_skip t p hp
  have h2 := rest_skip t (skipAt t p) (skipAt_le t p)
  rw [h1, skip_skip, ← h1] at h2
  exact rest_inj (skipAt_le _ _) (skipAt_le _ _) h2
/-- What a function value does that reads one part of a row: s is what has been gathered. -/
def OneOK {σ : Type} (f : Nat) (cs : Array Value) (b : Nat) (t : ByteArray) (w0 : World) (one : σ → Nat → Bs → Except Nat (σ × Nat × Bs)) (Inv : σ → Nat → World → Prop) (EInv : World → Prop) : Prop :=
  ∀ s p k w, Inv s k w → G b w0 w → Rd b t p k w → p ≤ t.size → k ≤ 200 →
    Calls Tryd.prog f cs w fun e w' => G b w0 w' ∧
      ((∃ er : Nat, one s k (rest t p) = .error er ∧ er ≠ 0 ∧ er < 100 ∧ e = .returned (.int .i64 er) ∧ EInv w') ∨
        ∃ s' k' q, one s k (rest t p) = .ok (s', k', rest t q) ∧ p < q ∧ q ≤ t.size ∧ k' ≤ 200 ∧ e = .returned (.int .i64 0) ∧ Rd b t q k' w' ∧ Inv s' k' w')
def RowPost {σ : Type} (b : Nat) (t : ByteArray) (w0 : World) (r : Except Nat (σ × Nat × Bs)) (p : Nat) (Inv : σ → Nat → World → Prop) (EInv : World → Prop) (e : Ending) (w' : World) : Prop :=
  G b w0 w' ∧ ((∃ er : Nat, r = .error er ∧ er ≠ 0 ∧ er < 100 ∧ e = .returned (.int .i64 er) ∧ EInv w') ∨
    ∃ s' k' q, r = .ok (s', k', rest t q) ∧ p < q ∧ q ≤ t.size ∧ k' ≤ 200 ∧ e = .returned (.int .i64 0) ∧ Rd b t q k' w' ∧ Inv s' k' w')
theorem rowGo_succ {σ : Type} (z : UInt8) (one : σ → Nat → Bs → Except Nat (σ × Nat × Bs)) (f : Nat) (s : σ) (k : Nat) (r : Bs) : rowGo z one (f + 1) s k r =
    match one s k r with
    | .error e => .error e
    | .ok (s', k', r1) =>
      if hd (skip r1) = z then .ok (s', k', (skip r1).tail)
      else if hd (skip r1) = 44 then rowGo z one f s' k' (skip r1).tail
      else .error eSyntax := rfl
theorem err_bool {n : Nat} (h : n ≠ 0) : ((n : Int) != 0) = true := by
  rw [bne_iff_ne]
  omega
set_option maxRecDepth 100000 in
set_option maxHeartbeats 4000000 in
theorem row_list {σ : Type} (b : Nat) (t : ByteArray) (p k c0 c1 c2 : Nat) (z : UInt8) (s : σ) (w0 w : World) (one : σ → Nat → Bs → Except Nat (σ × Nat × Bs)) (Inv : σ → Nat → World → Prop) (EInv : World → Prop)
    (h : Rd b t p k w) (hlt : p < t.size) (ht : t.size ≤ 2000) (hk : k ≤ 200) (hi : Inv s k w) (hg : G b w0 w) (hz : z ≠ 0)
    (hone : OneOK 39 #[.pointer (some ⟨c0, 0, none⟩), .pointer (some ⟨c1, 0, none⟩), .pointer (some ⟨c2, 0, none⟩)] b t w0 one Inv EInv) (hkept : ∀ s k w w', Inv s k w → G b w w' → Inv s k w') (hE : ∀ s k w, Inv s k w → EInv w) :
    Calls Tryd.prog 38 #[.pointer (some ⟨b, 0, none⟩), .int .u8 z.toNat, .func (.func 39) #[] #[.pointer (some ⟨c0, 0, none⟩), .pointer (some ⟨c1, 0, none⟩), .pointer (some ⟨c2, 0, none⟩)]] w (RowPost b t w0 (row z one s k (rest t p)) p Inv EInv) := by
  have a1 := h.place
  have a2 := h.free 1
  have HR : Hid (Rd b t (p + 1) k (w.setCell ⟨b, 1, none⟩ (.int .i64 ((p : Int) + 1)))) := h.move (p + 1)
  have HG : Hid (G b w0 (w.setCell ⟨b, 1, none⟩ (.int .i64 ((p : Int) + 1)))) := hg.setCell 1 _
  have HI : Hid (Inv s k (w.setCell ⟨b, 1, none⟩ (.int .i64 ((p : Int) + 1)))) := hkept _ _ _ _ hi ((G.refl b w).setCell 1 _)
  have HK : Hid (∀ s k w w', Inv s k w → G b w w' → Inv s k w') := hkept
  have HE : Hid (∀ s k w, Inv s k w → EInv w) := hE
  have HO : Hid (OneOK 39 #[.pointer (some ⟨c0, 0, none⟩), .pointer (some ⟨c1, 0, none⟩), .pointer (some ⟨c2, 0, none⟩)] b t w0 one Inv EInv) := hone
  have HRow : Hid (row z one s k (rest t p) = if hd (skip (rest t (p + 1))) = z then .ok (s, k, (skip (rest t (p + 1))).tail) else rowGo z one ((rest t p).length + 1) s k (skip (rest t (p + 1)))) := by
    show row z one s k (rest t p) = _
    rw [row, rest_tail]
  have HTL : Hid (∀ q, q ≤ t.size → (skip (rest t q)).tail = rest t (skipAt t q + 1)) := fun q hq => by rw [← rest_skip t q hq, rest_tail]
  have HSL : Hid (∀ q, q ≤ t.size → hd (skip (rest t q)) ≠ 0 → skipAt t q < t.size) := fun q hq h => lt_of_hd (by rw [rest_skip t q hq]; exact h)
  clear h hi hg hkept hone hE
  generalize row z one s k (rest t p) = res at *
  go_enter Tryd.func38, Tryd.ntmps38
  go_wp2_with fail
  generalize w.setCell ⟨b, 1, none⟩ (.int .i64 ((p : Int) + 1)) = w1 at *
  clear a1 a2
  by_cases he : hd (skip (rest t (p + 1))) = z
  · have hs1 := HSL.out (p + 1) (by omega) (by rw [he]; exact hz)
    have hge := skipAt_ge t (p + 1) (by omega)
    have HEz : Hid (hd (skip (rest t (p + 1))) = z) := he
    clear he
    refine (takeSign_yes b t (p + 1) k z _ HR.out (by omega) ht HEz.out hz).mono ?_
    rintro e w2 ⟨rfl, g1, r1⟩
    have HG2 : Hid (G b w0 w2) := HG.out.trans g1
    have HR2 : Hid (Rd b t (skipAt t (p + 1) + 1) k w2) := r1
    have HI2 : Hid (Inv s k w2) := HK.out _ _ _ _ HI.out g1
    clear g1 r1
    go_wp2_with fail
    go_ret
    refine ⟨HG2.out, Or.inr ⟨s, k, skipAt t (p + 1) + 1, ?_, by omega, by omega, hk, rfl, HR2.out, HI2.out⟩⟩
    rw [HRow.out, if_pos HEz.out, HTL.out _ (by omega)]
  have HNE : Hid (hd (skip (rest t (p + 1))) ≠ z) := he
  have hge := skipAt_ge t (p + 1) (by omega)
  have hle := skipAt_le t (p + 1)
  have HSK : Hid (rest t (skipAt t (p + 1)) = skip (rest t (p + 1))) := rest_skip t (p + 1) (by omega)
  have hlen : (rest t p).length = t.size - p := rest_len t p
  clear he
  refine (takeSign_no b t (p + 1) k z _ HR.out (by omega) ht HNE.out).mono ?_
  rintro e w2 ⟨rfl, g1, r1⟩
  have HG2 : Hid (G b w0 w2) := HG.out.trans g1
  have HR2 : Hid (Rd b t (skipAt t (p + 1)) k w2) := r1
  have HI2 : Hid (Inv s k w2) := HK.out _ _ _ _ HI.out g1
  have HR0 : Hid (res = rowGo z one ((rest t p).length + 1) s k (rest t (skipAt t (p + 1)))) := by
    show res = _
    rw [HRow.out, if_neg HNE.out, HSK.out]
  clear g1 r1
  go_wp2_with fail
  go_loopw [7] (fun _ wr => ∃ s' k' q f, q ≤ t.size ∧ k' ≤ 200 ∧ p < q ∧ t.size - q < f ∧ res = rowGo z one f s' k' (rest t q) ∧ Inv s' k' wr ∧ Rd b t q k' wr ∧ G b w0 wr) (fun _ wr => t.size - placeOf b wr)
  case atStart => exact ⟨s, k, skipAt t (p + 1), (rest t p).length + 1, hle, hk, by omega, by omega, HR0.out, HI2.out, HR2.out, HG2.out⟩
  case round =>
    obtain ⟨s', k', q, f, hq, hk', hpq, hf, hres, hinv, hR, hG⟩ := hrel
    obtain ⟨f, rfl⟩ : ∃ f', f = f' + 1 := ⟨f - 1, by omega⟩
    have HRes : Hid (res = rowGo z one (f + 1) s' k' (rest t q)) := hres
    have HI' : Hid (Inv s' k' wr) := hinv
    have HR' : Hid (Rd b t q k' wr) := hR
    have HG' : Hid (G b w0 wr) := hG
    clear hres hinv hR hG
    go_wp2_with fail
    refine (HO.out s' q k' wr HI'.out HG'.out HR'.out hq hk').mono ?_
    rintro e w3 ⟨g3, h3⟩
    have HG3 : Hid (G b w0 w3) := g3
    clear g3
    rcases h3 with ⟨er, hone, her, hlt100, rfl, he3⟩ | ⟨s'', k'', q1, hone, hqq, hq1, hk2, rfl, r3, i3⟩
    · have hbe := err_bool her
      have HOne : Hid (one s' k' (rest t q) = .error er) := hone
      have HE3 : Hid (EInv w3) := he3
      clear hone he3
      go_wp2_with fail
      go_ret
      exact ⟨HG3.out, Or.inl ⟨er, by rw [HRes.out, rowGo_succ, HOne.out], her, hlt100, rfl, HE3.out⟩⟩
    have HOne : Hid (one s' k' (rest t q) = .ok (s'', k'', rest t q1)) := hone
    have HR3 : Hid (Rd b t q1 k'' w3) := r3
    have HI3 : Hid (Inv s'' k'' w3) := i3
    have hge1 := skipAt_ge t q1 hq1
    have hle1 := skipAt_le t q1
    have HRes2 : Hid (res = if hd (skip (rest t q1)) = z then .ok (s'', k'', rest t (skipAt t q1 + 1)) else if hd (skip (rest t q1)) = 44 then rowGo z one f s'' k'' (rest t (skipAt t q1 + 1)) else .error eSyntax) := by
      show res = _
      rw [HRes.out, rowGo_succ, HOne.out]
      simp only [HTL.out q1 hq1]
    clear hone r3 i3
    by_cases he : hd (skip (rest t q1)) = z
    · have hs1 := HSL.out q1 hq1 (by rw [he]; exact hz)
      have HEz : Hid (hd (skip (rest t q1)) = z) := he
      clear he
      go_wp2_with fail
      refine (takeSign_yes b t q1 k'' z _ HR3.out hq1 ht HEz.out hz).mono ?_
      rintro e w4 ⟨rfl, g1, r1⟩
      have HG4 : Hid (G b w0 w4) := HG3.out.trans g1
      have HR4 : Hid (Rd b t (skipAt t q1 + 1) k'' w4) := r1
      have HI4 : Hid (Inv s'' k'' w4) := HK.out _ _ _ _ HI3.out g1
      clear g1 r1
      go_wp2_with fail
      go_ret
      refine ⟨HG4.out, Or.inr ⟨s'', k'', skipAt t q1 + 1, ?_, by omega, by omega, hk2, rfl, HR4.out, HI4.out⟩⟩
      rw [HRes2.out, if_pos HEz.out]
    have HNE : Hid (hd (skip (rest t q1)) ≠ z) := he
    have HSS : Hid (skipAt t (skipAt t q1) = skipAt t q1) := skipAt_skipAt t q1 hq1
    have HSR : Hid (skip (rest t (skipAt t q1)) = skip (rest t q1)) := by
      show skip (rest t (skipAt t q1)) = skip (rest t q1)
      rw [rest_skip t q1 hq1, skip_skip]
    clear he
    go_wp2_with fail
    refine (takeSign_no b t q1 k'' z _ HR3.out hq1 ht HNE.out).mono ?_
    rintro e w4 ⟨rfl, g1, r1⟩
    have HG4 : Hid (G b w0 w4) := HG3.out.trans g1
    have HR4 : Hid (Rd b t (skipAt t q1) k'' w4) := r1
    have HI4 : Hid (Inv s'' k'' w4) := HK.out _ _ _ _ HI3.out g1
    clear g1 r1
    by_cases h44 : hd (skip (rest t q1)) = 44
    · have hs1 := HSL.out q1 hq1 (by rw [h44]; decide)
      have H44 : Hid (hd (skip (rest t q1)) = 44) := h44
      clear h44
      go_wp2_with fail
      refine (takeSign_yes b t (skipAt t q1) k'' 44 _ HR4.out hle1 ht (by rw [HSR.out]; exact H44.out) (by decide)).mono ?_
      rintro e w5 ⟨rfl, g1, r1⟩
      have HG5 : Hid (G b w0 w5) := HG4.out.trans g1
      have HR5 : Hid (Rd b t (skipAt t q1 + 1) k'' w5) := by rw [HSS.out] at r1; exact r1
      have HI5 : Hid (Inv s'' k'' w5) := HK.out _ _ _ _ HI4.out g1
      clear g1 r1
      go_wp2_with fail
      go_roundw
      case rel => exact ⟨s'', k'', skipAt t q1 + 1, f, by omega, hk2, by omega, by omega, by rw [HRes2.out, if_neg HNE.out, if_pos H44.out], HI5.out, HR5.out, HG5.out⟩
      case measure => rw [HR5.out.placeOf_eq, HR'.out.placeOf_eq]; omega
    · have HN44 : Hid (hd (skip (rest t q1)) ≠ 44) := h44
      clear h44
      go_wp2_with fail
      refine (takeSign_no b t (skipAt t q1) k'' 44 _ HR4.out hle1 ht (by rw [HSR.out]; exact HN44.out)).mono ?_
      rintro e w5 ⟨rfl, g1, r1⟩
      have HG5 : Hid (G b w0 w5) := HG4.out.trans g1
      have HE5 : Hid (EInv w5) := HE.out _ _ _ (HK.out _ _ _ _ HI4.out g1)
      clear g1 r1
      go_wp2_with fail
      go_ret
      exact ⟨HG5.out, Or.inl ⟨3, by rw [HRes2.out, if_neg HNE.out, if_neg HN44.out], by decide, by decide, rfl, HE5.out⟩⟩
set_option maxRecDepth 100000 in
set_option maxHeartbeats 4000000 in
theorem row_object {σ : Type} (b : Nat) (t : ByteArray) (p k c0 c1 c2 : Nat) (z : UInt8) (s : σ) (w0 w : World) (one : σ → Nat → Bs → Except Nat (σ × Nat × Bs)) (Inv : σ → Nat → World → Prop) (EInv : World → Prop)
    (h : Rd b t p k w) (hlt : p < t.size) (ht : t.size ≤ 2000) (hk : k ≤ 200) (hi : Inv s k w) (hg : G b w0 w) (hz : z ≠ 0)
    (hone : OneOK 40 #[.pointer (some ⟨c0, 0, none⟩), .pointer (some ⟨c1, 0, none⟩), .pointer (some ⟨c2, 0, none⟩)] b t w0 one Inv EInv) (hkept : ∀ s k w w', Inv s k w → G b w w' → Inv s k w') (hE : ∀ s k w, Inv s k w → EInv w) :
    Calls Tryd.prog 38 #[.pointer (some ⟨b, 0, none⟩), .int .u8 z.toNat, .func (.func 40) #[] #[.pointer (some ⟨c0, 0, none⟩), .pointer (some ⟨c1, 0, none⟩), .pointer (some ⟨c2, 0, none⟩)]] w (RowPost b t w0 (row z one s k (rest t p)) p Inv EInv) := by
  have a1 := h.place
  have a2 := h.free 1
  have HR : Hid (Rd b t (p + 1) k (w.setCell ⟨b, 1, none⟩ (.int .i64 ((p : Int) + 1)))) := h.move (p + 1)
  have HG : Hid (G b w0 (w.setCell ⟨b, 1, none⟩ (.int .i64 ((p : Int) + 1)))) := hg.setCell 1 _
  have HI : Hid (Inv s k (w.setCell ⟨b, 1, none⟩ (.int .i64 ((p : Int) + 1)))) := hkept _ _ _ _ hi ((G.refl b w).setCell 1 _)
  have HK : Hid (∀ s k w w', Inv s k w → G b w w' → Inv s k w') := hkept
  have HE : Hid (∀ s k w, Inv s k w → EInv w) := hE
  have HO : Hid (OneOK 40 #[.pointer (some ⟨c0, 0, none⟩), .pointer (some ⟨c1, 0, none⟩), .pointer (some ⟨c2, 0, none⟩)] b t w0 one Inv EInv) := hone
  have HRow : Hid (row z one s k (rest t p) = if hd (skip (rest t (p + 1))) = z then .ok (s, k, (skip (rest t (p + 1))).tail) else rowGo z one ((rest t p).length + 1) s k (skip (rest t (p + 1)))) := by
    show row z one s k (rest t p) = _
    rw [row, rest_tail]
  have HTL : Hid (∀ q, q ≤ t.size → (skip (rest t q)).tail = rest t (skipAt t q + 1)) := fun q hq => by rw [← rest_skip t q hq, rest_tail]
  have HSL : Hid (∀ q, q ≤ t.size → hd (skip (rest t q)) ≠ 0 → skipAt t q < t.size) := fun q hq h => lt_of_hd (by rw [rest_skip t q hq]; exact h)
  clear h hi hg hkept hone hE
  generalize row z one s k (rest t p) = res at *
  go_enter Tryd.func38, Tryd.ntmps38
  go_wp2_with fail
  generalize w.setCell ⟨b, 1, none⟩ (.int .i64 ((p : Int) + 1)) = w1 at *
  clear a1 a2
  by_cases he : hd (skip (rest t (p + 1))) = z
  · have hs1 := HSL.out (p + 1) (by omega) (by rw [he]; exact hz)
    have hge := skipAt_ge t (p + 1) (by omega)
    have HEz : Hid (hd (skip (rest t (p + 1))) = z) := he
    clear he
    refine (takeSign_yes b t (p + 1) k z _ HR.out (by omega) ht HEz.out hz).mono ?_
    rintro e w2 ⟨rfl, g1, r1⟩
    have HG2 : Hid (G b w0 w2) := HG.out.trans g1
    have HR2 : Hid (Rd b t (skipAt t (p + 1) + 1) k w2) := r1
    have HI2 : Hid (Inv s k w2) := HK.out _ _ _ _ HI.out g1
    clear g1 r1
    go_wp2_with fail
    go_ret
    refine ⟨HG2.out, Or.inr ⟨s, k, skipAt t (p + 1) + 1, ?_, by omega, by omega, hk, rfl, HR2.out, HI2.out⟩⟩
    rw [HRow.out, if_pos HEz.out, HTL.out _ (by omega)]
  have HNE : Hid (hd (skip (rest t (p + 1))) ≠ z) := he
  have hge := skipAt_ge t (p + 1) (by omega)
  have hle := skipAt_le t (p + 1)
  have HSK : Hid (rest t (skipAt t (p + 1)) = skip (rest t (p + 1))) := rest_skip t (p + 1) (by omega)
  have hlen : (rest t p).length = t.size - p := rest_len t p
  clear he
  refine (takeSign_no b t (p + 1) k z _ HR.out (by omega) ht HNE.out).mono ?_
  rintro e w2 ⟨rfl, g1, r1⟩
  have HG2 : Hid (G b w0 w2) := HG.out.trans g1
  have HR2 : Hid (Rd b t (skipAt t (p + 1)) k w2) := r1
  have HI2 : Hid (Inv s k w2) := HK.out _ _ _ _ HI.out g1
  have HR0 : Hid (res = rowGo z one ((rest t p).length + 1) s k (rest t (skipAt t (p + 1)))) := by
    show res = _
    rw [HRow.out, if_neg HNE.out, HSK.out]
  clear g1 r1
  go_wp2_with fail
  go_loopw [7] (fun _ wr => ∃ s' k' q f, q ≤ t.size ∧ k' ≤ 200 ∧ p < q ∧ t.size - q < f ∧ res = rowGo z one f s' k' (rest t q) ∧ Inv s' k' wr ∧ Rd b t q k' wr ∧ G b w0 wr) (fun _ wr => t.size - placeOf b wr)
  case atStart => exact ⟨s, k, skipAt t (p + 1), (rest t p).length + 1, hle, hk, by omega, by omega, HR0.out, HI2.out, HR2.out, HG2.out⟩
  case round =>
    obtain ⟨s', k', q, f, hq, hk', hpq, hf, hres, hinv, hR, hG⟩ := hrel
    obtain ⟨f, rfl⟩ : ∃ f', f = f' + 1 := ⟨f - 1, by omega⟩
    have HRes : Hid (res = rowGo z one (f + 1) s' k' (rest t q)) := hres
    have HI' : Hid (Inv s' k' wr) := hinv
    have HR' : Hid (Rd b t q k' wr) := hR
    have HG' : Hid (G b w0 wr) := hG
    clear hres hinv hR hG
    go_wp2_with fail
    refine (HO.out s' q k' wr HI'.out HG'.out HR'.out hq hk').mono ?_
    rintro e w3 ⟨g3, h3⟩
    have HG3 : Hid (G b w0 w3) := g3
    clear g3
    rcases h3 with ⟨er, hone, her, hlt100, rfl, he3⟩ | ⟨s'', k'', q1, hone, hqq, hq1, hk2, rfl, r3, i3⟩
    · have hbe := err_bool her
      have HOne : Hid (one s' k' (rest t q) = .error er) := hone
      have HE3 : Hid (EInv w3) := he3
      clear hone he3
      go_wp2_with fail
      go_ret
      exact ⟨HG3.out, Or.inl ⟨er, by rw [HRes.out, rowGo_succ, HOne.out], her, hlt100, rfl, HE3.out⟩⟩
    have HOne : Hid (one s' k' (rest t q) = .ok (s'', k'', rest t q1)) := hone
    have HR3 : Hid (Rd b t q1 k'' w3) := r3
    have HI3 : Hid (Inv s'' k'' w3) := i3
    have hge1 := skipAt_ge t q1 hq1
    have hle1 := skipAt_le t q1
    have HRes2 : Hid (res = if hd (skip (rest t q1)) = z then .ok (s'', k'', rest t (skipAt t q1 + 1)) else if hd (skip (rest t q1)) = 44 then rowGo z one f s'' k'' (rest t (skipAt t q1 + 1)) else .error eSyntax) := by
      show res = _
      rw [HRes.out, rowGo_succ, HOne.out]
      simp only [HTL.out q1 hq1]
    clear hone r3 i3
    by_cases he : hd (skip (rest t q1)) = z
    · have hs1 := HSL.out q1 hq1 (by rw [he]; exact hz)
      have HEz : Hid (hd (skip (rest t q1)) = z) := he
      clear he
      go_wp2_with fail
      refine (takeSign_yes b t q1 k'' z _ HR3.out hq1 ht HEz.out hz).mono ?_
      rintro e w4 ⟨rfl, g1, r1⟩
      have HG4 : Hid (G b w0 w4) := HG3.out.trans g1
      have HR4 : Hid (Rd b t (skipAt t q1 + 1) k'' w4) := r1
      have HI4 : Hid (Inv s'' k'' w4) := HK.out _ _ _ _ HI3.out g1
      clear g1 r1
      go_wp2_with fail
      go_ret
      refine ⟨HG4.out, Or.inr ⟨s'', k'', skipAt t q1 + 1, ?_, by omega, by omega, hk2, rfl, HR4.out, HI4.out⟩⟩
      rw [HRes2.out, if_pos HEz.out]
    have HNE : Hid (hd (skip (rest t q1)) ≠ z) := he
    have HSS : Hid (skipAt t (skipAt t q1) = skipAt t q1) := skipAt_skipAt t q1 hq1
    have HSR : Hid (skip (rest t (skipAt t q1)) = skip (rest t q1)) := by
      show skip (rest t (skipAt t q1)) = skip (rest t q1)
      rw [rest_skip t q1 hq1, skip_skip]
    clear he
    go_wp2_with fail
    refine (takeSign_no b t q1 k'' z _ HR3.out hq1 ht HNE.out).mono ?_
    rintro e w4 ⟨rfl, g1, r1⟩
    have HG4 : Hid (G b w0 w4) := HG3.out.trans g1
    have HR4 : Hid (Rd b t (skipAt t q1) k'' w4) := r1
    have HI4 : Hid (Inv s'' k'' w4) := HK.out _ _ _ _ HI3.out g1
    clear g1 r1
    by_cases h44 : hd (skip (rest t q1)) = 44
    · have hs1 := HSL.out q1 hq1 (by rw [h44]; decide)
      have H44 : Hid (hd (skip (rest t q1)) = 44) := h44
      clear h44
      go_wp2_with fail
      refine (takeSign_yes b t (skipAt t q1) k'' 44 _ HR4.out hle1 ht (by rw [HSR.out]; exact H44.out) (by decide)).mono ?_
      rintro e w5 ⟨rfl, g1, r1⟩
      have HG5 : Hid (G b w0 w5) := HG4.out.trans g1
      have HR5 : Hid (Rd b t (skipAt t q1 + 1) k'' w5) := by rw [HSS.out] at r1; exact r1
      have HI5 : Hid (Inv s'' k'' w5) := HK.out _ _ _ _ HI4.out g1
      clear g1 r1
      go_wp2_with fail
      go_roundw
      case rel => exact ⟨s'', k'', skipAt t q1 + 1, f, by omega, hk2, by omega, by omega, by rw [HRes2.out, if_neg HNE.out, if_pos H44.out], HI5.out, HR5.out, HG5.out⟩
      case measure => rw [HR5.out.placeOf_eq, HR'.out.placeOf_eq]; omega
    · have HN44 : Hid (hd (skip (rest t q1)) ≠ 44) := h44
      clear h44
      go_wp2_with fail
      refine (takeSign_no b t (skipAt t q1) k'' 44 _ HR4.out hle1 ht (by rw [HSR.out]; exact HN44.out)).mono ?_
      rintro e w5 ⟨rfl, g1, r1⟩
      have HG5 : Hid (G b w0 w5) := HG4.out.trans g1
      have HE5 : Hid (EInv w5) := HE.out _ _ _ (HK.out _ _ _ _ HI4.out g1)
      clear g1 r1
      go_wp2_with fail
      go_ret
      exact ⟨HG5.out, Or.inl ⟨3, by rw [HRes2.out, if_neg HNE.out, if_neg HN44.out], by decide, by decide, rfl, HE5.out⟩⟩
end Go.Proofs.YtmleekpghdfdgabDoor
/- Contracts over this translation of what reads a list. -/
namespace Go.Proofs.YtmleekpghdfdgabDoor
open Go.RowKit
set_option linter.unusedVariables false
set_option linter.unusedSimpArgs false
theorem info_val : (Tryd.prog.info? 31).map (fun i => (i.zero, i.size, i.bytes)) = some (some .nilIface, 1, 16) := by kernel_rfl
theorem new_one (w : World) (x : Value) (e : TypeId) : ∀ (j : Nat) (u : Value), [x][j]? = some u → (w.alloc (.cells #[x] e)).cell? ((⟨w.heap.size, 0, none⟩ : Addr).add j) = some u := by
  intro j u hj
  match j, hj with
  | 0, hj => simp at hj; subst hj; simp [Addr.add]
theorem one_of {x : Value} (h : x.oneCell' = true) : ∀ u ∈ [x], u.oneCell' = true := by
  intro u hu
  simp at hu
  subst hu
  exact h
theorem row_cells {w : World} {e size g n cap : Nat} {xs : List Value} (h : Row w e size g n cap xs) (o : Obj) : ∀ b, some (⟨g, 0, none⟩ : Addr) = some b → ∀ (j : Nat) (u : Value), xs[j]? = some u → (w.alloc o).cell? (b.add j) = some u := by
  intro b hb j u hu
  cases hb
  have h1 := h.cell j u hu
  rw [Addr.add_lit, Nat.zero_add]
  have h2 := World.cell?_of_block (w := w) (w' := w.alloc o) (a := ⟨g, j, none⟩) (Below.heap_alloc w o g h.lt)
  rw [h2]
  exact h1
set_option maxRecDepth 100000 in
set_option maxHeartbeats 4000000 in
theorem list_one (n b : Nat) (t : ByteArray) (d : Int) (c0 c1 c2 : Nat) (w0 : World) (hV : ValueOK n) (hd : d + n = 10) (hd0 : 0 ≤ d) (ht : t.size ≤ 2000) (hb : b < w0.heap.size)
    (k0 : w0.heap.size ≤ c0) (k1 : w0.heap.size ≤ c1) (k2 : w0.heap.size ≤ c2) (l0 : c0 < c2) (l1 : c1 < c2) :
    OneOK 39 #[.pointer (some ⟨c0, 0, none⟩), .pointer (some ⟨c1, 0, none⟩), .pointer (some ⟨c2, 0, none⟩)] b t w0 (oneItem (value n)) (LInv b d c0 c1 c2 w0.heap.size (c2 + 1) n) (LErr c2) := by
  intro s p k w hI hg hR hp hk
  obtain ⟨hsk, g, cap, vs, hx, hr, hgN, e0, e1, e2, hel⟩ := hI
  obtain ⟨i0, hi, hz0, hz1, hz2⟩ := info_parts info_val
  have a0 := cell_of_one hx.h0
  have a1 := cell_of_one hx.h1
  have hcw := lt_of_block hx.h2
  have hcap := hr.caps
  have HX : Hid (LBox b d c0 c1 c2 w (.slice (some ⟨g, 0, none⟩) s.length cap)) := hx
  have HRw : Hid (Row w 31 1 g s.length cap vs) := hr
  have HEl : Hid (∀ (i : Nat) (x : J n) (u : Value), s[i]? = some x → vs[i]? = some u → St (fun c => c < c2 + 1 ∨ c = g) w n x u) := hel
  have HR : Hid (Rd b t p k w) := hR
  have HG : Hid (G b w0 w) := hg
  have HV : Hid (ValueOK n) := hV
  have hgw := hr.lt
  clear hx hr hel hR hg hV
  go_enter Tryd.func39, Tryd.ntmps39
  go_wp2_with fail
  refine (HV.out b t p k d w HR.out hp ht hk hd hd0).mono ?_
  rintro e w1 ⟨g1, h1⟩
  have hx1 := HX.out.kept g1 (fun e => by cases e; omega) (fun e => by cases e; omega) (fun e => by cases e; omega)
  have hr1 : Row w1 31 1 g s.length cap vs := HRw.out.kept g1 (fun e => by cases e; omega)
  have b2 := cell_of_one hx1.h2
  have b3 := free_of_one hx1.h2
  have HX1 : Hid (LBox b d c0 c1 c2 w1 (.slice (some ⟨g, 0, none⟩) s.length cap)) := hx1
  have HRw1 : Hid (Row w1 31 1 g s.length cap vs) := hr1
  have HG1 : Hid (G b w w1) := g1
  have HG01 : Hid (G b w0 w1) := HG.out.trans g1
  have hc2w := lt_of_block hx1.h2
  clear hx1 hr1 g1 a0 a1
  rcases h1 with ⟨er, v, hv, her, her2, rfl, hone⟩ | ⟨j, k', q, v, hv, hpq, hq, hkk, hk2, rfl, hone, hR', hst⟩
  · have HVal : Hid (value n k (rest t p) = .error er) := hv
    clear hv
    rcases hone with rfl | ⟨T, x, rfl⟩
    · by_cases hroom : s.length + 1 ≤ cap
      · skip
        go_wp2_with (at_builtin; refine wpList_append_fits _ rfl _ _ 66 rfl g 31 i0 1 Tryd.underlying66 hi hz1 g s.length cap vs rfl (World.ownsRow.alloc HRw1.out.owns _) ⟨w1.heap.size, 0, none⟩ 1 1 [.nilIface] rfl rfl (new_one _ _ _) (one_of rfl) hroom ?_)
        intro w2 hown hgrow
        have hrow : Row w2 31 1 g (s.length + 1) cap (vs ++ [.nilIface]) := Row.of_slice hown
        have hx2 := (HX1.out.kept (World.grownBy_alloc w1 _ none) (fun e => by cases e) (fun e => by cases e) (fun e => by cases e)).kept hgrow (fun e => by cases e; exact e0 rfl) (fun e => by cases e; exact e1 rfl) (fun e => by cases e; exact e2 rfl)
        have f2 := cell_of_one hx2.h2
        have f3 := free_of_one hx2.h2
        have HG2 : Hid (G b w0 w2) := (HG01.out.alloc _).grown hgrow (fun k e => by cases e; omega)
        have HX2 : Hid (LBox b d c0 c1 c2 w2 (.slice (some ⟨g, 0, none⟩) s.length cap)) := hx2
        clear hown hgrow hrow hx2 b2 b3
        go_wp2_with fail
        go_ret
        exact ⟨HG2.out.setNew k2 _, Or.inl ⟨er, by rw [oneItem, HVal.out], her, her2, rfl, ⟨_, _, _, one_setCell HX2.out.h2⟩⟩⟩
      · skip
        go_wp2_with (at_builtin; refine wpList_append_grows _ rfl _ _ 66 rfl 31 i0 .nilIface 1 16 Tryd.underlying66 hi hz0 hz1 hz2 rfl (by decide) (some ⟨g, 0, none⟩) s.length cap vs rfl (fun e => by cases e) HRw1.out.1 (row_cells HRw1.out _) ⟨w1.heap.size, 0, none⟩ 1 1 [.nilIface] rfl rfl (new_one _ _ _) (one_of rfl) (by omega) (by unfold maxLen; omega) (by omega) ?_)
        intro v' w2 hown hgrow
        obtain ⟨g', cap', rfl, hg', hrow⟩ := Row.of_owns hown (by omega)
        have hg'' : w1.heap.size < g' := by (try simp at hg'); omega
        have hx2 := (HX1.out.kept (World.grownBy_alloc w1 _ none) (fun e => by cases e) (fun e => by cases e) (fun e => by cases e)).kept hgrow (fun e => by cases e) (fun e => by cases e) (fun e => by cases e)
        have f2 := cell_of_one hx2.h2
        have f3 := free_of_one hx2.h2
        have HG2 : Hid (G b w0 w2) := (HG01.out.alloc _).grown hgrow (fun k e => by cases e)
        have HX2 : Hid (LBox b d c0 c1 c2 w2 (.slice (some ⟨g, 0, none⟩) s.length cap)) := hx2
        clear hown hgrow hrow hx2 b2 b3
        go_wp2_with fail
        go_ret
        exact ⟨HG2.out.setNew k2 _, Or.inl ⟨er, by rw [oneItem, HVal.out], her, her2, rfl, ⟨_, _, _, one_setCell HX2.out.h2⟩⟩⟩
    · by_cases hroom : s.length + 1 ≤ cap
      · skip
        go_wp2_with (at_builtin; refine wpList_append_fits _ rfl _ _ 66 rfl g 31 i0 1 Tryd.underlying66 hi hz1 g s.length cap vs rfl (World.ownsRow.alloc HRw1.out.owns _) ⟨w1.heap.size, 0, none⟩ 1 1 [.iface T x] rfl rfl (new_one _ _ _) (one_of rfl) hroom ?_)
        intro w2 hown hgrow
        have hrow : Row w2 31 1 g (s.length + 1) cap (vs ++ [.iface T x]) := Row.of_slice hown
        have hx2 := (HX1.out.kept (World.grownBy_alloc w1 _ none) (fun e => by cases e) (fun e => by cases e) (fun e => by cases e)).kept hgrow (fun e => by cases e; exact e0 rfl) (fun e => by cases e; exact e1 rfl) (fun e => by cases e; exact e2 rfl)
        have f2 := cell_of_one hx2.h2
        have f3 := free_of_one hx2.h2
        have HG2 : Hid (G b w0 w2) := (HG01.out.alloc _).grown hgrow (fun k e => by cases e; omega)
        have HX2 : Hid (LBox b d c0 c1 c2 w2 (.slice (some ⟨g, 0, none⟩) s.length cap)) := hx2
        clear hown hgrow hrow hx2 b2 b3
        go_wp2_with fail
        go_ret
        exact ⟨HG2.out.setNew k2 _, Or.inl ⟨er, by rw [oneItem, HVal.out], her, her2, rfl, ⟨_, _, _, one_setCell HX2.out.h2⟩⟩⟩
      · skip
        go_wp2_with (at_builtin; refine wpList_append_grows _ rfl _ _ 66 rfl 31 i0 .nilIface 1 16 Tryd.underlying66 hi hz0 hz1 hz2 rfl (by decide) (some ⟨g, 0, none⟩) s.length cap vs rfl (fun e => by cases e) HRw1.out.1 (row_cells HRw1.out _) ⟨w1.heap.size, 0, none⟩ 1 1 [.iface T x] rfl rfl (new_one _ _ _) (one_of rfl) (by omega) (by unfold maxLen; omega) (by omega) ?_)
        intro v' w2 hown hgrow
        obtain ⟨g', cap', rfl, hg', hrow⟩ := Row.of_owns hown (by omega)
        have hg'' : w1.heap.size < g' := by (try simp at hg'); omega
        have hx2 := (HX1.out.kept (World.grownBy_alloc w1 _ none) (fun e => by cases e) (fun e => by cases e) (fun e => by cases e)).kept hgrow (fun e => by cases e) (fun e => by cases e) (fun e => by cases e)
        have f2 := cell_of_one hx2.h2
        have f3 := free_of_one hx2.h2
        have HG2 : Hid (G b w0 w2) := (HG01.out.alloc _).grown hgrow (fun k e => by cases e)
        have HX2 : Hid (LBox b d c0 c1 c2 w2 (.slice (some ⟨g, 0, none⟩) s.length cap)) := hx2
        clear hown hgrow hrow hx2 b2 b3
        go_wp2_with fail
        go_ret
        exact ⟨HG2.out.setNew k2 _, Or.inl ⟨er, by rw [oneItem, HVal.out], her, her2, rfl, ⟨_, _, _, one_setCell HX2.out.h2⟩⟩⟩
  · obtain ⟨T, x, rfl⟩ := hone
    have HVal : Hid (value n k (rest t p) = .ok (j, k', rest t q)) := hv
    have HR' : Hid (Rd b t q k' w1) := hR'
    have HSt : Hid (St (fun c => c < w.heap.size) w1 n j (.iface T x)) := hst
    clear hv hR' hst
    by_cases hroom : s.length + 1 ≤ cap
    · skip
      go_wp2_with (at_builtin; refine wpList_append_fits _ rfl _ _ 66 rfl g 31 i0 1 Tryd.underlying66 hi hz1 g s.length cap vs rfl (World.ownsRow.alloc HRw1.out.owns _) ⟨w1.heap.size, 0, none⟩ 1 1 [.iface T x] rfl rfl (new_one _ _ _) (one_of rfl) hroom ?_)
      intro w2 hown hgrow
      have hrow : Row w2 31 1 g (s.length + 1) cap (vs ++ [.iface T x]) := Row.of_slice hown
      have hx2 := (HX1.out.kept (World.grownBy_alloc w1 _ none) (fun e => by cases e) (fun e => by cases e) (fun e => by cases e)).kept hgrow (fun e => by cases e; exact e0 rfl) (fun e => by cases e; exact e1 rfl) (fun e => by cases e; exact e2 rfl)
      have f2 := cell_of_one hx2.h2
      have f3 := free_of_one hx2.h2
      have HG2 : Hid (G b w0 w2) := (HG01.out.alloc _).grown hgrow (fun k e => by cases e; omega)
      have HX2 : Hid (LBox b d c0 c1 c2 w2 (.slice (some ⟨g, 0, none⟩) s.length cap)) := hx2
      have HL : Hid (LInv b d c0 c1 c2 w0.heap.size (c2 + 1) n (s ++ [j]) k' (w2.setCell ⟨c2, 0, none⟩ (.slice (some ⟨g, 0, none⟩) (s.length + 1) cap))) :=
        linv_step HX.out HRw.out hgN e0 e1 e2 HEl.out hb k0 k1 k2 (by omega) (by omega) (by omega) (by omega) (by omega) (by omega) (by omega) HG1.out HSt.out hgrow hrow (Or.inl ⟨rfl, rfl⟩) (by omega)
      have HR2 : Hid (Rd b t q k' (w2.setCell ⟨c2, 0, none⟩ (.slice (some ⟨g, 0, none⟩) (s.length + 1) cap))) :=
        (((HR'.out.alloc _).kept hgrow (fun e => by cases e; omega))).kept (grownBy_setCell w2 c2 0 _) (fun e => by cases e; omega)
      clear hown hgrow hrow hx2 b2 b3
      go_wp2_with fail
      go_ret
      exact ⟨HG2.out.setNew k2 _, Or.inr ⟨s ++ [j], k', q, by rw [oneItem, HVal.out], hpq, hq, hk2, rfl, HR2.out, HL.out⟩⟩
    · skip
      go_wp2_with (at_builtin; refine wpList_append_grows _ rfl _ _ 66 rfl 31 i0 .nilIface 1 16 Tryd.underlying66 hi hz0 hz1 hz2 rfl (by decide) (some ⟨g, 0, none⟩) s.length cap vs rfl (fun e => by cases e) HRw1.out.1 (row_cells HRw1.out _) ⟨w1.heap.size, 0, none⟩ 1 1 [.iface T x] rfl rfl (new_one _ _ _) (one_of rfl) (by omega) (by unfold maxLen; omega) (by omega) ?_)
      intro v' w2 hown hgrow
      obtain ⟨g', cap', rfl, hg', hrow⟩ := Row.of_owns hown (by omega)
      have hg'' : w1.heap.size < g' := by (try simp at hg'); omega
      have hx2 := (HX1.out.kept (World.grownBy_alloc w1 _ none) (fun e => by cases e) (fun e => by cases e) (fun e => by cases e)).kept hgrow (fun e => by cases e) (fun e => by cases e) (fun e => by cases e)
      have f2 := cell_of_one hx2.h2
      have f3 := free_of_one hx2.h2
      have HG2 : Hid (G b w0 w2) := (HG01.out.alloc _).grown hgrow (fun k e => by cases e)
      have HX2 : Hid (LBox b d c0 c1 c2 w2 (.slice (some ⟨g, 0, none⟩) s.length cap)) := hx2
      have HL : Hid (LInv b d c0 c1 c2 w0.heap.size (c2 + 1) n (s ++ [j]) k' (w2.setCell ⟨c2, 0, none⟩ (.slice (some ⟨g', 0, none⟩) (s.length + 1) cap'))) :=
        linv_step HX.out HRw.out hgN e0 e1 e2 HEl.out hb k0 k1 k2 (by omega) (by omega) (by omega) (by omega) (by omega) (by omega) (by omega) HG1.out HSt.out hgrow hrow (Or.inr ⟨rfl, hg''⟩) (by omega)
      have HR2 : Hid (Rd b t q k' (w2.setCell ⟨c2, 0, none⟩ (.slice (some ⟨g', 0, none⟩) (s.length + 1) cap'))) :=
        (((HR'.out.alloc _).kept hgrow (fun e => by cases e))).kept (grownBy_setCell w2 c2 0 _) (fun e => by cases e; omega)
      clear hown hgrow hrow hx2 b2 b3
      go_wp2_with fail
      go_ret
      exact ⟨HG2.out.setNew k2 _, Or.inr ⟨s ++ [j], k', q, by rw [oneItem, HVal.out], hpq, hq, hk2, rfl, HR2.out, HL.out⟩⟩
theorem linv_start (b : Nat) (d : Int) (n k : Nat) (w : World) (hb : b < w.heap.size) :
    LInv b d w.heap.size (w.heap.size + 1) (w.heap.size + 1 + 1 + 1) w.heap.size (w.heap.size + 1 + 1 + 1 + 1) n [] k ((((w.alloc (.cells #[.pointer (some ⟨b, 0, none⟩)] 54)).alloc (.cells #[.int .i64 d] 3)).alloc (.cells #[] 31)).alloc (.cells #[.slice (some ⟨w.heap.size + 1 + 1, 0, none⟩) 0 0] 66)) := by
  have hz : ∀ (x : World) (o : Obj), (x.alloc o).heap.size = x.heap.size + 1 := fun x o => by simp
  generalize e1 : w.alloc (.cells #[.pointer (some ⟨b, 0, none⟩)] 54) = w1
  generalize e2 : w1.alloc (.cells #[.int .i64 d] 3) = w2
  generalize e3 : w2.alloc (.cells #[] 31) = w3
  have z1 : w1.heap.size = w.heap.size + 1 := by rw [← e1, hz]
  have z2 : w2.heap.size = w.heap.size + 1 + 1 := by rw [← e2, hz, z1]
  have z3 : w3.heap.size = w.heap.size + 1 + 1 + 1 := by rw [← e3, hz, z2]
  have b0 : w1.heap[w.heap.size]? = some (.cells #[.pointer (some ⟨b, 0, none⟩)] 54 (0, 0)) := by rw [← e1]; exact heap_alloc_new w _
  have b1 : w2.heap[w.heap.size + 1]? = some (.cells #[.int .i64 d] 3 (0, 0)) := by rw [← e2, ← z1]; exact heap_alloc_new w1 _
  have b2 : w3.heap[w.heap.size + 1 + 1]? = some (.cells #[] 31 (0, 0)) := by rw [← e3, ← z2]; exact heap_alloc_new w2 _
  have up2 : ∀ c, c < w1.heap.size → w2.heap[c]? = w1.heap[c]? := fun c hc => by rw [← e2]; exact Below.heap_alloc w1 _ c hc
  have up3 : ∀ c, c < w2.heap.size → w3.heap[c]? = w2.heap[c]? := fun c hc => by rw [← e3]; exact Below.heap_alloc w2 _ c hc
  have up4 : ∀ o c, c < w3.heap.size → (w3.alloc o).heap[c]? = w3.heap[c]? := fun o c hc => Below.heap_alloc w3 _ c hc
  refine ⟨Nat.zero_le _, w.heap.size + 1 + 1, 0, [], ⟨?_, ?_, ?_⟩, ⟨rfl, #[], ?_, Nat.le_refl _, by unfold maxLen; omega, rfl, rfl⟩, by omega, by omega, by omega, by omega, fun i x u hx _ => by simp at hx⟩
  · rw [up4 _ _ (by omega), up3 _ (by omega), up2 _ (by omega)]; exact b0
  · rw [up4 _ _ (by omega), up3 _ (by omega)]; exact b1
  · rw [← z3]; exact heap_alloc_new w3 _
  · rw [up4 _ _ (by omega)]; exact b2
def ListPost (b : Nat) (t : ByteArray) (p k n : Nat) (w : World) (e : Ending) (w' : World) : Prop :=
  G b w w' ∧ ((∃ (er : Nat) (v : Value), row 93 (oneItem (value n)) [] k (rest t p) = .error er ∧ er ≠ 0 ∧ er < 100 ∧ e = .returned (.tuple #[v, .int .i64 er]) ∧ (v = .nilIface ∨ ∃ T x, v = .iface T x)) ∨
    ∃ (s : List (J n)) (k' q : Nat) (v : Value), row 93 (oneItem (value n)) [] k (rest t p) = .ok (s, k', rest t q) ∧ p < q ∧ q ≤ t.size ∧ k' ≤ 200 ∧ e = .returned (.tuple #[v, .int .i64 0]) ∧ (∃ T x, v = .iface T x) ∧ Rd b t q k' w' ∧ St (fun c => c < w.heap.size) w' (n + 1) (Sum.inr (Sum.inl s)) v)
set_option maxRecDepth 100000 in
set_option maxHeartbeats 4000000 in
theorem list_any (n b : Nat) (t : ByteArray) (p k : Nat) (d : Int) (w : World) (hV : ValueOK n) (hd : d + n = 10) (hd0 : 0 ≤ d) (h : Rd b t p k w) (hlt : p < t.size) (ht : t.size ≤ 2000) (hk : k ≤ 200) :
    Calls Tryd.prog 29 #[.pointer (some ⟨b, 0, none⟩), .int .i64 d] w (ListPost b t p k n w) := by
  have hbw := h.lt
  have HR : Hid (Rd b t p k w) := h
  have HV : Hid (ValueOK n) := hV
  clear h hV
  have HL : Hid (LInv b d w.heap.size (w.heap.size + 1) (w.heap.size + 1 + 1 + 1) w.heap.size (w.heap.size + 1 + 1 + 1 + 1) n [] k ((((w.alloc (.cells #[.pointer (some ⟨b, 0, none⟩)] 54)).alloc (.cells #[.int .i64 d] 3)).alloc (.cells #[] 31)).alloc (.cells #[.slice (some ⟨w.heap.size + 1 + 1, 0, none⟩) 0 0] 66))) := linv_start b d n k w hbw
  go_enter Tryd.func29, Tryd.ntmps29
  go_wp2_with fail
  refine (row_list b t p k w.heap.size (w.heap.size + 1) (w.heap.size + 1 + 1 + 1) 93 [] w _ (oneItem (value n)) (LInv b d w.heap.size (w.heap.size + 1) (w.heap.size + 1 + 1 + 1) w.heap.size (w.heap.size + 1 + 1 + 1 + 1) n) (LErr (w.heap.size + 1 + 1 + 1))
    ((((HR.out.alloc _).alloc _).alloc _).alloc _) hlt ht hk HL.out (((((G.refl b w).alloc _).alloc _).alloc _).alloc _) (by decide)
    (list_one n b t d _ _ _ w HV.out hd hd0 ht hbw (by omega) (by omega) (by omega) (by omega) (by omega))
    (fun s k w1 w2 hi hg => hi.kept hg hbw (by omega) (by omega) (by omega) (by omega)) (fun s k w1 hi => hi.err)).mono ?_
  rintro e w1 ⟨g1, h1⟩
  have HG1 : Hid (G b w w1) := g1
  clear g1 HL
  rcases h1 with ⟨er, hr, her, h100, rfl, he⟩ | ⟨s, k', q, hr, hpq, hq, hk2, rfl, hR, hI⟩
  · obtain ⟨a, m, cap, hc⟩ := he
    have c2 := cell_of_one hc
    have HRw : Hid (row 93 (oneItem (value n)) [] k (rest t p) = .error er) := hr
    clear hr hc
    go_wp2_with fail
    go_ret2
    exact ⟨HG1.out, Or.inl ⟨er, _, HRw.out, her, h100, rfl, Or.inr ⟨_, _, rfl⟩⟩⟩
  · obtain ⟨hsk, g, cap, vs, hx, hrw, hgN, e0, e1, e2, hel⟩ := hI
    have c2 := cell_of_one hx.h2
    have HRw : Hid (row 93 (oneItem (value n)) [] k (rest t p) = .ok (s, k', rest t q)) := hr
    have HR1 : Hid (Rd b t q k' w1) := hR
    have HS : Hid (St (fun c => c < w.heap.size) w1 (n + 1) (Sum.inr (Sum.inl s)) (.iface 66 (.slice (some ⟨g, 0, none⟩) s.length cap))) :=
      st_list (vs := vs) (by have := hrw.1; omega) hrw.caps.1 hrw.caps.2 (by omega) hrw.lt (fun i u hu => hrw.cell i u hu) (fun i x u hx hu => (hel i x u hx hu).mono (fun c _ hc => Or.inl (by omega)))
    clear hr hx hrw hel hR
    go_wp2_with fail
    go_ret2
    exact ⟨HG1.out, Or.inr ⟨s, k', q, _, HRw.out, hpq, hq, hk2, rfl, ⟨_, _, rfl⟩, HR1.out, HS.out⟩⟩
end Go.Proofs.YtmleekpghdfdgabDoor
