/- Contract of the reader's method over this translation that reads a value, however deep. -/
import Derived.Test.YtaogilpkeeigoaaGreatDoorRdList
import Derived.Test.YtaogilpkeeigoaaGreatDoorRdObject
import Derived.Test.YtaogilpkeeigoaaGreatDoorRdNum
import Derived.Test.YtaogilpkeeigoaaGreatDoorRdQuoted
import Derived.Test.YtaogilpkeeigoaaGreatDoorDocGrow
namespace Go.Proofs.YtaogilpkeeigoaaGreatDoor
open Go.RowKit
set_option linter.unusedVariables false
set_option linter.unusedSimpArgs false
theorem value_err {n k : Nat} {r : Bs} (h : beginE n k (skip r) ≠ 0) : value n k r = .error (beginE n k (skip r)) := by
  cases n with
  | zero => rw [value, if_pos h]
  | succ n => rw [value, if_pos h]
theorem value_leaf {n k : Nat} {r : Bs} (h : beginE n k (skip r) = 0) (h1 : hd (skip r) ≠ 91) (h2 : hd (skip r) ≠ 123) : value n k r = leafAt n k (skip r) := by
  cases n with
  | zero => rw [value, if_neg (by simp [h])]
  | succ n => rw [value, if_neg (by simp [h]), if_neg h1, if_neg h2]
theorem value_list {n k : Nat} {r : Bs} (h : beginE (n + 1) k (skip r) = 0) (h1 : hd (skip r) = 91) : value (n + 1) k r = match row 93 (oneItem (value n)) [] (k + 1) (skip r) with
      | .error e => .error e
      | .ok (s, k', r') => .ok (Sum.inr (Sum.inl s), k', r') := by
  rw [value, if_neg (by simp [h]), if_pos h1]
  cases row 93 (oneItem (value n)) [] (k + 1) (skip r) <;> rfl
theorem value_obj {n k : Nat} {r : Bs} (h : beginE (n + 1) k (skip r) = 0) (h1 : hd (skip r) = 123) : value (n + 1) k r = match row 125 (oneField (value n)) [] (k + 1) (skip r) with
      | .error e => .error e
      | .ok (s, k', r') => .ok (Sum.inr (Sum.inr s), k', r') := by
  rw [value, if_neg (by simp [h]), if_neg (by rw [h1]; decide), if_pos h1]
  cases row 125 (oneField (value n)) [] (k + 1) (skip r) <;> rfl
theorem leafV_iface (l : Leaf) : ∃ T x, leafV l = .iface T x := by
  rcases l with _ | b | i | s <;> exact ⟨_, _, rfl⟩
theorem begin_0 {n k : Nat} {r : Bs} (ho : hd r ∈ opens) (hk : k < 200) (hd' : n ≠ 0 ∨ (hd r ≠ 91 ∧ hd r ≠ 123)) : beginE n k r = 0 := by
  unfold beginE
  rw [if_neg (by simpa using ho), if_neg (by omega), if_neg]
  rintro ⟨h1, h2⟩
  rcases hd' with h | ⟨h3, h4⟩
  · exact h h1
  · rcases h2 with h2 | h2
    · exact h3 h2
    · exact h4 h2
set_option maxRecDepth 100000 in
set_option maxHeartbeats 2000000 in
theorem value_syntax (n b : Nat) (t : ByteArray) (p k : Nat) (d : Int) (w : World) (h : Rd b t p k w) (hp : p ≤ t.size) (ht : t.size ≤ 2000) (hk : k ≤ 200) (hd10 : d + n = 10) (hc : ¬ hd (skip (rest t p)) ∈ opens) :
    Calls Tryz.prog 42 #[.pointer (some ⟨b, 0, none⟩), .int .i64 d] w (ValPost b t p k n w) := by
  have HB : Hid (beginE n k (skip (rest t p)) = 3) := by
    show beginE n k (skip (rest t p)) = 3
    unfold beginE; rw [if_pos hc]
  have hsl := skipAt_le t p
  have hsg := skipAt_ge t p hp
  have hSk : rest t (skipAt t p) = skip (rest t p) := rest_skip t p hp
  rw [← hSk] at hc
  have HR : Hid (Rd b t p k w) := h
  have HSk : Hid (rest t (skipAt t p) = skip (rest t p)) := hSk
  have HC : Hid (¬ hd (rest t (skipAt t p)) ∈ opens) := hc
  clear h hSk hc
  go_enter Tryz.func42, Tryz.ntmps42
  go_wp2_with fail
  refine (skipBlanks_any b t p k _ HR.out hp ht).mono ?_
  rintro e w1 ⟨rfl, g1, r1⟩
  have HG1 : Hid (G b w w1) := g1
  have HR1 : Hid (Rd b t (skipAt t p) k w1) := r1
  clear g1 r1
  go_wp2_with fail
  refine (begin_syntax b t (skipAt t p) k d _ HR1.out hsl ht HC.out).mono ?_
  rintro e w2 ⟨rfl, g1⟩
  have HG2 : Hid (G b w w2) := HG1.out.trans g1
  clear g1
  go_wp2_with fail
  go_ret2
  exact ⟨HG2.out, Or.inl ⟨3, _, by rw [value_err (by rw [HB.out]; decide), HB.out], by decide, by decide, rfl, Or.inl rfl⟩⟩
set_option maxRecDepth 100000 in
set_option maxHeartbeats 2000000 in
theorem value_large (n b : Nat) (t : ByteArray) (p k : Nat) (d : Int) (w : World) (h : Rd b t p k w) (hp : p ≤ t.size) (ht : t.size ≤ 2000) (hk : k ≤ 200) (hd10 : d + n = 10) (hk2 : 200 ≤ k) (hc : hd (skip (rest t p)) ∈ opens) :
    Calls Tryz.prog 42 #[.pointer (some ⟨b, 0, none⟩), .int .i64 d] w (ValPost b t p k n w) := by
  have HB : Hid (beginE n k (skip (rest t p)) = 2) := by
    show beginE n k (skip (rest t p)) = 2
    unfold beginE; rw [if_neg (by simpa using hc), if_pos hk2]
  have hsl := skipAt_le t p
  have hsg := skipAt_ge t p hp
  have hSk : rest t (skipAt t p) = skip (rest t p) := rest_skip t p hp
  rw [← hSk] at hc
  have HR : Hid (Rd b t p k w) := h
  have HSk : Hid (rest t (skipAt t p) = skip (rest t p)) := hSk
  have HC : Hid (hd (rest t (skipAt t p)) ∈ opens) := hc
  clear h hSk hc
  go_enter Tryz.func42, Tryz.ntmps42
  go_wp2_with fail
  refine (skipBlanks_any b t p k _ HR.out hp ht).mono ?_
  rintro e w1 ⟨rfl, g1, r1⟩
  have HG1 : Hid (G b w w1) := g1
  have HR1 : Hid (Rd b t (skipAt t p) k w1) := r1
  clear g1 r1
  go_wp2_with fail
  refine (begin_large b t (skipAt t p) k d _ HR1.out hsl ht HC.out hk2 (by omega)).mono ?_
  rintro e w2 ⟨rfl, g1⟩
  have HG2 : Hid (G b w w2) := HG1.out.trans g1
  clear g1
  go_wp2_with fail
  go_ret2
  exact ⟨HG2.out, Or.inl ⟨2, _, by rw [value_err (by rw [HB.out]; decide), HB.out], by decide, by decide, rfl, Or.inl rfl⟩⟩
set_option maxRecDepth 100000 in
set_option maxHeartbeats 2000000 in
theorem value_deep (n b : Nat) (t : ByteArray) (p k : Nat) (d : Int) (w : World) (h : Rd b t p k w) (hp : p ≤ t.size) (ht : t.size ≤ 2000) (hk : k ≤ 200) (hd10 : d + n = 10) (hk2 : k < 200) (hn : n = 0) (hc : hd (skip (rest t p)) = 91 ∨ hd (skip (rest t p)) = 123) :
    Calls Tryz.prog 42 #[.pointer (some ⟨b, 0, none⟩), .int .i64 d] w (ValPost b t p k n w) := by
  have HB : Hid (beginE n k (skip (rest t p)) = 4) := by
    show beginE n k (skip (rest t p)) = 4
    unfold beginE; rw [if_neg (by rcases hc with hc | hc <;> rw [hc] <;> decide), if_neg (by omega), if_pos ⟨hn, hc⟩]
  have hsl := skipAt_le t p
  have hsg := skipAt_ge t p hp
  have hSk : rest t (skipAt t p) = skip (rest t p) := rest_skip t p hp
  rw [← hSk] at hc
  have HR : Hid (Rd b t p k w) := h
  have HSk : Hid (rest t (skipAt t p) = skip (rest t p)) := hSk
  have HC : Hid (hd (rest t (skipAt t p)) = 91 ∨ hd (rest t (skipAt t p)) = 123) := hc
  clear h hSk hc
  go_enter Tryz.func42, Tryz.ntmps42
  go_wp2_with fail
  refine (skipBlanks_any b t p k _ HR.out hp ht).mono ?_
  rintro e w1 ⟨rfl, g1, r1⟩
  have HG1 : Hid (G b w w1) := g1
  have HR1 : Hid (Rd b t (skipAt t p) k w1) := r1
  clear g1 r1
  go_wp2_with fail
  refine (begin_deep b t (skipAt t p) k d _ HR1.out hsl ht hk2 (by omega) HC.out).mono ?_
  rintro e w2 ⟨rfl, g1⟩
  have HG2 : Hid (G b w w2) := HG1.out.trans g1
  clear g1
  go_wp2_with fail
  go_ret2
  exact ⟨HG2.out, Or.inl ⟨4, _, by rw [value_err (by rw [HB.out]; decide), HB.out], by decide, by decide, rfl, Or.inl rfl⟩⟩
set_option maxRecDepth 100000 in
set_option maxHeartbeats 4000000 in
theorem value_null (n b : Nat) (t : ByteArray) (p k : Nat) (d : Int) (w : World) (h : Rd b t p k w) (hp : p ≤ t.size) (ht : t.size ≤ 2000) (hk2 : k < 200) (hd10 : d + n = 10) (hc : hd (skip (rest t p)) = 110) :
    Calls Tryz.prog 42 #[.pointer (some ⟨b, 0, none⟩), .int .i64 d] w (ValPost b t p k n w) := by
  have HVl : Hid (value n k (rest t p) = leafAt n k (skip (rest t p))) := value_leaf (begin_0 (by rw [hc]; decide) hk2 (Or.inr (by rw [hc]; decide))) (by rw [hc]; decide) (by rw [hc]; decide)
  have HLe : Hid (leafE (skip (rest t p)) = word nullB (skip (rest t p)) (none)) := by
    show leafE (skip (rest t p)) = _
    rw [leafE]
    simp [hc]
  have hsl := skipAt_le t p
  have hsg := skipAt_ge t p hp
  have hSk : rest t (skipAt t p) = skip (rest t p) := rest_skip t p hp
  rw [← hSk] at hc
  have HR : Hid (Rd b t p k w) := h
  have HSk : Hid (rest t (skipAt t p) = skip (rest t p)) := hSk
  have HC : Hid (hd (rest t (skipAt t p)) = 110) := hc
  have HO : Hid (hd (rest t (skipAt t p)) ∈ opens) := by show hd (rest t (skipAt t p)) ∈ opens; rw [hc]; decide
  clear h hSk hc
  go_enter Tryz.func42, Tryz.ntmps42
  go_wp2_with fail
  refine (skipBlanks_any b t p k _ HR.out hp ht).mono ?_
  rintro e w1 ⟨rfl, g1, r1⟩
  have HG1 : Hid (G b w w1) := g1
  have HR1 : Hid (Rd b t (skipAt t p) k w1) := r1
  clear g1 r1
  go_wp2_with fail
  refine (begin_ok b t (skipAt t p) k d _ HR1.out hsl ht HO.out hk2 (Or.inr (by rw [HC.out]; decide))).mono ?_
  rintro e w2 ⟨rfl, g1, r1⟩
  have HG2 : Hid (G b w w2) := HG1.out.trans g1
  have HR2 : Hid (Rd b t (skipAt t p) (k + 1) w2) := r1
  clear g1 r1
  go_wp2_with fail
  refine (next_g b t (skipAt t p) (k + 1) _ HR2.out hsl ht).mono ?_
  rintro e w3 ⟨rfl, g1, r1⟩
  have HG3 : Hid (G b w w3) := HG2.out.trans g1
  have HR3 : Hid (Rd b t (skipAt t p) (k + 1) w3) := r1
  clear g1 r1
  rw [HC.out]
  cases hpre : (nullB).isPrefixOf (rest t (skipAt t p)) with
  | true =>
    have HP : Hid ((nullB).isPrefixOf (rest t (skipAt t p)) = true) := hpre
    have hle : skipAt t p + 4 ≤ t.size := by
      have h1 := List.isPrefixOf_iff_prefix.1 hpre
      have h2 := h1.length_le
      rw [rest_len] at h2
      have h3 : (nullB).length = 4 := rfl
      omega
    clear hpre
    go_wp2_with fail
    refine (word_yes b t { data := #[110, 117, 108, 108] } (skipAt t p) (k + 1) _ HR3.out hsl ht (by decide) HP.out).mono ?_
    rintro e w4 ⟨rfl, g1, r1⟩
    have HG4 : Hid (G b w w4) := HG3.out.trans g1
    have HR4 : Hid (Rd b t (skipAt t p + 4) (k + 1) w4) := r1
    clear g1 r1
    go_wp2_with fail
    go_ret2
    refine ⟨HG4.out, Or.inr ⟨leaf n (none), k + 1, skipAt t p + 4, leafV (none), ?_, by omega, hle, by omega, by omega, rfl, ⟨_, _, rfl⟩, HR4.out, st_leaf _ _ _ _⟩⟩
    rw [HVl.out, leafAt, HLe.out, word, ← HSk.out, if_pos HP.out]
    have : (rest t (skipAt t p)).drop (nullB).length = rest t (skipAt t p + 4) := by
      unfold rest
      rw [List.drop_drop]
      rfl
    rw [this]
  | false =>
    have HP : Hid ((nullB).isPrefixOf (rest t (skipAt t p)) = false) := hpre
    clear hpre
    go_wp2_with fail
    refine (word_no b t { data := #[110, 117, 108, 108] } (skipAt t p) (k + 1) _ HR3.out hsl ht (by decide) HP.out).mono ?_
    rintro e w4 ⟨rfl, g1⟩
    have HG4 : Hid (G b w w4) := HG3.out.trans g1
    clear g1
    go_wp2_with fail
    go_ret2
    refine ⟨HG4.out, Or.inl ⟨3, leafV (none), ?_, by decide, by decide, rfl, Or.inr ⟨_, _, rfl⟩⟩⟩
    rw [HVl.out, leafAt, HLe.out, word, ← HSk.out, if_neg (by rw [HP.out]; decide)]
set_option maxRecDepth 100000 in
set_option maxHeartbeats 4000000 in
theorem value_true (n b : Nat) (t : ByteArray) (p k : Nat) (d : Int) (w : World) (h : Rd b t p k w) (hp : p ≤ t.size) (ht : t.size ≤ 2000) (hk2 : k < 200) (hd10 : d + n = 10) (hc : hd (skip (rest t p)) = 116) :
    Calls Tryz.prog 42 #[.pointer (some ⟨b, 0, none⟩), .int .i64 d] w (ValPost b t p k n w) := by
  have HVl : Hid (value n k (rest t p) = leafAt n k (skip (rest t p))) := value_leaf (begin_0 (by rw [hc]; decide) hk2 (Or.inr (by rw [hc]; decide))) (by rw [hc]; decide) (by rw [hc]; decide)
  have HLe : Hid (leafE (skip (rest t p)) = word trueB (skip (rest t p)) (some (Sum.inl true))) := by
    show leafE (skip (rest t p)) = _
    rw [leafE]
    simp [hc]
  have hsl := skipAt_le t p
  have hsg := skipAt_ge t p hp
  have hSk : rest t (skipAt t p) = skip (rest t p) := rest_skip t p hp
  rw [← hSk] at hc
  have HR : Hid (Rd b t p k w) := h
  have HSk : Hid (rest t (skipAt t p) = skip (rest t p)) := hSk
  have HC : Hid (hd (rest t (skipAt t p)) = 116) := hc
  have HO : Hid (hd (rest t (skipAt t p)) ∈ opens) := by show hd (rest t (skipAt t p)) ∈ opens; rw [hc]; decide
  clear h hSk hc
  go_enter Tryz.func42, Tryz.ntmps42
  go_wp2_with fail
  refine (skipBlanks_any b t p k _ HR.out hp ht).mono ?_
  rintro e w1 ⟨rfl, g1, r1⟩
  have HG1 : Hid (G b w w1) := g1
  have HR1 : Hid (Rd b t (skipAt t p) k w1) := r1
  clear g1 r1
  go_wp2_with fail
  refine (begin_ok b t (skipAt t p) k d _ HR1.out hsl ht HO.out hk2 (Or.inr (by rw [HC.out]; decide))).mono ?_
  rintro e w2 ⟨rfl, g1, r1⟩
  have HG2 : Hid (G b w w2) := HG1.out.trans g1
  have HR2 : Hid (Rd b t (skipAt t p) (k + 1) w2) := r1
  clear g1 r1
  go_wp2_with fail
  refine (next_g b t (skipAt t p) (k + 1) _ HR2.out hsl ht).mono ?_
  rintro e w3 ⟨rfl, g1, r1⟩
  have HG3 : Hid (G b w w3) := HG2.out.trans g1
  have HR3 : Hid (Rd b t (skipAt t p) (k + 1) w3) := r1
  clear g1 r1
  rw [HC.out]
  cases hpre : (trueB).isPrefixOf (rest t (skipAt t p)) with
  | true =>
    have HP : Hid ((trueB).isPrefixOf (rest t (skipAt t p)) = true) := hpre
    have hle : skipAt t p + 4 ≤ t.size := by
      have h1 := List.isPrefixOf_iff_prefix.1 hpre
      have h2 := h1.length_le
      rw [rest_len] at h2
      have h3 : (trueB).length = 4 := rfl
      omega
    clear hpre
    go_wp2_with fail
    refine (word_yes b t { data := #[116, 114, 117, 101] } (skipAt t p) (k + 1) _ HR3.out hsl ht (by decide) HP.out).mono ?_
    rintro e w4 ⟨rfl, g1, r1⟩
    have HG4 : Hid (G b w w4) := HG3.out.trans g1
    have HR4 : Hid (Rd b t (skipAt t p + 4) (k + 1) w4) := r1
    clear g1 r1
    go_wp2_with fail
    go_ret2
    refine ⟨HG4.out, Or.inr ⟨leaf n (some (Sum.inl true)), k + 1, skipAt t p + 4, leafV (some (Sum.inl true)), ?_, by omega, hle, by omega, by omega, rfl, ⟨_, _, rfl⟩, HR4.out, st_leaf _ _ _ _⟩⟩
    rw [HVl.out, leafAt, HLe.out, word, ← HSk.out, if_pos HP.out]
    have : (rest t (skipAt t p)).drop (trueB).length = rest t (skipAt t p + 4) := by
      unfold rest
      rw [List.drop_drop]
      rfl
    rw [this]
  | false =>
    have HP : Hid ((trueB).isPrefixOf (rest t (skipAt t p)) = false) := hpre
    clear hpre
    go_wp2_with fail
    refine (word_no b t { data := #[116, 114, 117, 101] } (skipAt t p) (k + 1) _ HR3.out hsl ht (by decide) HP.out).mono ?_
    rintro e w4 ⟨rfl, g1⟩
    have HG4 : Hid (G b w w4) := HG3.out.trans g1
    clear g1
    go_wp2_with fail
    go_ret2
    refine ⟨HG4.out, Or.inl ⟨3, leafV (some (Sum.inl true)), ?_, by decide, by decide, rfl, Or.inr ⟨_, _, rfl⟩⟩⟩
    rw [HVl.out, leafAt, HLe.out, word, ← HSk.out, if_neg (by rw [HP.out]; decide)]
set_option maxRecDepth 100000 in
set_option maxHeartbeats 4000000 in
theorem value_false (n b : Nat) (t : ByteArray) (p k : Nat) (d : Int) (w : World) (h : Rd b t p k w) (hp : p ≤ t.size) (ht : t.size ≤ 2000) (hk2 : k < 200) (hd10 : d + n = 10) (hc : hd (skip (rest t p)) = 102) :
    Calls Tryz.prog 42 #[.pointer (some ⟨b, 0, none⟩), .int .i64 d] w (ValPost b t p k n w) := by
  have HVl : Hid (value n k (rest t p) = leafAt n k (skip (rest t p))) := value_leaf (begin_0 (by rw [hc]; decide) hk2 (Or.inr (by rw [hc]; decide))) (by rw [hc]; decide) (by rw [hc]; decide)
  have HLe : Hid (leafE (skip (rest t p)) = word falseB (skip (rest t p)) (some (Sum.inl false))) := by
    show leafE (skip (rest t p)) = _
    rw [leafE]
    simp [hc]
  have hsl := skipAt_le t p
  have hsg := skipAt_ge t p hp
  have hSk : rest t (skipAt t p) = skip (rest t p) := rest_skip t p hp
  rw [← hSk] at hc
  have HR : Hid (Rd b t p k w) := h
  have HSk : Hid (rest t (skipAt t p) = skip (rest t p)) := hSk
  have HC : Hid (hd (rest t (skipAt t p)) = 102) := hc
  have HO : Hid (hd (rest t (skipAt t p)) ∈ opens) := by show hd (rest t (skipAt t p)) ∈ opens; rw [hc]; decide
  clear h hSk hc
  go_enter Tryz.func42, Tryz.ntmps42
  go_wp2_with fail
  refine (skipBlanks_any b t p k _ HR.out hp ht).mono ?_
  rintro e w1 ⟨rfl, g1, r1⟩
  have HG1 : Hid (G b w w1) := g1
  have HR1 : Hid (Rd b t (skipAt t p) k w1) := r1
  clear g1 r1
  go_wp2_with fail
  refine (begin_ok b t (skipAt t p) k d _ HR1.out hsl ht HO.out hk2 (Or.inr (by rw [HC.out]; decide))).mono ?_
  rintro e w2 ⟨rfl, g1, r1⟩
  have HG2 : Hid (G b w w2) := HG1.out.trans g1
  have HR2 : Hid (Rd b t (skipAt t p) (k + 1) w2) := r1
  clear g1 r1
  go_wp2_with fail
  refine (next_g b t (skipAt t p) (k + 1) _ HR2.out hsl ht).mono ?_
  rintro e w3 ⟨rfl, g1, r1⟩
  have HG3 : Hid (G b w w3) := HG2.out.trans g1
  have HR3 : Hid (Rd b t (skipAt t p) (k + 1) w3) := r1
  clear g1 r1
  rw [HC.out]
  cases hpre : (falseB).isPrefixOf (rest t (skipAt t p)) with
  | true =>
    have HP : Hid ((falseB).isPrefixOf (rest t (skipAt t p)) = true) := hpre
    have hle : skipAt t p + 5 ≤ t.size := by
      have h1 := List.isPrefixOf_iff_prefix.1 hpre
      have h2 := h1.length_le
      rw [rest_len] at h2
      have h3 : (falseB).length = 5 := rfl
      omega
    clear hpre
    go_wp2_with fail
    refine (word_yes b t { data := #[102, 97, 108, 115, 101] } (skipAt t p) (k + 1) _ HR3.out hsl ht (by decide) HP.out).mono ?_
    rintro e w4 ⟨rfl, g1, r1⟩
    have HG4 : Hid (G b w w4) := HG3.out.trans g1
    have HR4 : Hid (Rd b t (skipAt t p + 5) (k + 1) w4) := r1
    clear g1 r1
    go_wp2_with fail
    go_ret2
    refine ⟨HG4.out, Or.inr ⟨leaf n (some (Sum.inl false)), k + 1, skipAt t p + 5, leafV (some (Sum.inl false)), ?_, by omega, hle, by omega, by omega, rfl, ⟨_, _, rfl⟩, HR4.out, st_leaf _ _ _ _⟩⟩
    rw [HVl.out, leafAt, HLe.out, word, ← HSk.out, if_pos HP.out]
    have : (rest t (skipAt t p)).drop (falseB).length = rest t (skipAt t p + 5) := by
      unfold rest
      rw [List.drop_drop]
      rfl
    rw [this]
  | false =>
    have HP : Hid ((falseB).isPrefixOf (rest t (skipAt t p)) = false) := hpre
    clear hpre
    go_wp2_with fail
    refine (word_no b t { data := #[102, 97, 108, 115, 101] } (skipAt t p) (k + 1) _ HR3.out hsl ht (by decide) HP.out).mono ?_
    rintro e w4 ⟨rfl, g1⟩
    have HG4 : Hid (G b w w4) := HG3.out.trans g1
    clear g1
    go_wp2_with fail
    go_ret2
    refine ⟨HG4.out, Or.inl ⟨3, leafV (some (Sum.inl false)), ?_, by decide, by decide, rfl, Or.inr ⟨_, _, rfl⟩⟩⟩
    rw [HVl.out, leafAt, HLe.out, word, ← HSk.out, if_neg (by rw [HP.out]; decide)]
set_option maxRecDepth 100000 in
set_option maxHeartbeats 4000000 in
theorem value_text (n b : Nat) (t : ByteArray) (p k : Nat) (d : Int) (w : World) (h : Rd b t p k w) (hp : p ≤ t.size) (ht : t.size ≤ 2000) (hk2 : k < 200) (hd10 : d + n = 10) (hc : hd (skip (rest t p)) = 34) :
    Calls Tryz.prog 42 #[.pointer (some ⟨b, 0, none⟩), .int .i64 d] w (ValPost b t p k n w) := by
  have HVl : Hid (value n k (rest t p) = leafAt n k (skip (rest t p))) := value_leaf (begin_0 (by rw [hc]; decide) hk2 (Or.inr (by rw [hc]; decide))) (by rw [hc]; decide) (by rw [hc]; decide)
  have HLe : Hid (leafE (skip (rest t p)) = textE (skip (rest t p))) := by
    show leafE (skip (rest t p)) = _
    rw [leafE]
    simp [hc]
  have hsl := skipAt_le t p
  have hsg := skipAt_ge t p hp
  have hSk : rest t (skipAt t p) = skip (rest t p) := rest_skip t p hp
  rw [← hSk] at hc
  have HR : Hid (Rd b t p k w) := h
  have HSk : Hid (rest t (skipAt t p) = skip (rest t p)) := hSk
  have HC : Hid (hd (rest t (skipAt t p)) = 34) := hc
  have HO : Hid (hd (rest t (skipAt t p)) ∈ opens) := by show hd (rest t (skipAt t p)) ∈ opens; rw [hc]; decide
  clear h hSk hc
  go_enter Tryz.func42, Tryz.ntmps42
  go_wp2_with fail
  refine (skipBlanks_any b t p k _ HR.out hp ht).mono ?_
  rintro e w1 ⟨rfl, g1, r1⟩
  have HG1 : Hid (G b w w1) := g1
  have HR1 : Hid (Rd b t (skipAt t p) k w1) := r1
  clear g1 r1
  go_wp2_with fail
  refine (begin_ok b t (skipAt t p) k d _ HR1.out hsl ht HO.out hk2 (Or.inr (by rw [HC.out]; decide))).mono ?_
  rintro e w2 ⟨rfl, g1, r1⟩
  have HG2 : Hid (G b w w2) := HG1.out.trans g1
  have HR2 : Hid (Rd b t (skipAt t p) (k + 1) w2) := r1
  clear g1 r1
  go_wp2_with fail
  refine (next_g b t (skipAt t p) (k + 1) _ HR2.out hsl ht).mono ?_
  rintro e w3 ⟨rfl, g1, r1⟩
  have HG3 : Hid (G b w w3) := HG2.out.trans g1
  have HR3 : Hid (Rd b t (skipAt t p) (k + 1) w3) := r1
  clear g1 r1
  rw [HC.out]
  go_wp2_with fail
  refine (quoted_any b t (skipAt t p) (k + 1) _ HR3.out hsl ht).mono ?_
  rintro e w4 ⟨g1, h1⟩
  have HG4 : Hid (G b w w4) := HG3.out.trans g1
  clear g1
  rcases h1 with ⟨hq, rfl⟩ | ⟨l, q, hq, hpq, hqs, rfl, r1⟩
  · have HQ : Hid (quoted (rest t (skipAt t p)) = none) := hq
    clear hq
    go_wp2_with fail
    go_ret2
    refine ⟨HG4.out, Or.inl ⟨3, _, ?_, by decide, by decide, rfl, Or.inr ⟨_, _, rfl⟩⟩⟩
    rw [HVl.out, leafAt, HLe.out, textE, ← HSk.out, HQ.out]
  · have HQ : Hid (quoted (rest t (skipAt t p)) = some (l, rest t q)) := hq
    have HR4 : Hid (Rd b t q (k + 1) w4) := r1
    clear hq r1
    go_wp2_with fail
    go_ret2
    refine ⟨HG4.out, Or.inr ⟨leaf n (some (Sum.inr (Sum.inr l))), k + 1, q, leafV (some (Sum.inr (Sum.inr l))), ?_, by omega, hqs, by omega, by omega, rfl, ⟨_, _, rfl⟩, HR4.out, st_leaf _ _ _ _⟩⟩
    rw [HVl.out, leafAt, HLe.out, textE, ← HSk.out, HQ.out]
set_option maxRecDepth 100000 in
set_option maxHeartbeats 4000000 in
theorem value_number (n b : Nat) (t : ByteArray) (p k : Nat) (d : Int) (w : World) (h : Rd b t p k w) (hp : p ≤ t.size) (ht : t.size ≤ 2000) (hk2 : k < 200) (hd10 : d + n = 10) (hc : hd (skip (rest t p)) ∈ opens ∧ hd (skip (rest t p)) ≠ 110 ∧ hd (skip (rest t p)) ≠ 116 ∧ hd (skip (rest t p)) ≠ 102 ∧ hd (skip (rest t p)) ≠ 34 ∧ hd (skip (rest t p)) ≠ 91 ∧ hd (skip (rest t p)) ≠ 123) :
    Calls Tryz.prog 42 #[.pointer (some ⟨b, 0, none⟩), .int .i64 d] w (ValPost b t p k n w) := by
  have HVl : Hid (value n k (rest t p) = leafAt n k (skip (rest t p))) := value_leaf (begin_0 hc.1 hk2 (Or.inr ⟨hc.2.2.2.2.2.1, hc.2.2.2.2.2.2⟩)) hc.2.2.2.2.2.1 hc.2.2.2.2.2.2
  have HLe : Hid (leafE (skip (rest t p)) = number (skip (rest t p))) := by
    show leafE (skip (rest t p)) = _
    rw [leafE]
    simp [hc.2.1, hc.2.2.1, hc.2.2.2.1, hc.2.2.2.2.1]
  have hsl := skipAt_le t p
  have hsg := skipAt_ge t p hp
  have hSk : rest t (skipAt t p) = skip (rest t p) := rest_skip t p hp
  rw [← hSk] at hc
  have HR : Hid (Rd b t p k w) := h
  have HSk : Hid (rest t (skipAt t p) = skip (rest t p)) := hSk
  have HO : Hid (hd (rest t (skipAt t p)) ∈ opens) := hc.1
  have HD : Hid (hd (rest t (skipAt t p)) ≠ 91 ∧ hd (rest t (skipAt t p)) ≠ 123) := ⟨hc.2.2.2.2.2.1, hc.2.2.2.2.2.2⟩
  have x1 := ne_bool 110 (by decide) hc.2.1
  have x2 := ne_bool 116 (by decide) hc.2.2.1
  have x3 := ne_bool 102 (by decide) hc.2.2.2.1
  have x4 := ne_bool 34 (by decide) hc.2.2.2.2.1
  have x5 := ne_bool 91 (by decide) hc.2.2.2.2.2.1
  have x6 := ne_bool 123 (by decide) hc.2.2.2.2.2.2
  clear h hSk hc
  go_enter Tryz.func42, Tryz.ntmps42
  go_wp2_with fail
  refine (skipBlanks_any b t p k _ HR.out hp ht).mono ?_
  rintro e w1 ⟨rfl, g1, r1⟩
  have HG1 : Hid (G b w w1) := g1
  have HR1 : Hid (Rd b t (skipAt t p) k w1) := r1
  clear g1 r1
  go_wp2_with fail
  refine (begin_ok b t (skipAt t p) k d _ HR1.out hsl ht HO.out hk2 (Or.inr HD.out)).mono ?_
  rintro e w2 ⟨rfl, g1, r1⟩
  have HG2 : Hid (G b w w2) := HG1.out.trans g1
  have HR2 : Hid (Rd b t (skipAt t p) (k + 1) w2) := r1
  clear g1 r1
  go_wp2_with fail
  refine (next_g b t (skipAt t p) (k + 1) _ HR2.out hsl ht).mono ?_
  rintro e w3 ⟨rfl, g1, r1⟩
  have HG3 : Hid (G b w w3) := HG2.out.trans g1
  have HR3 : Hid (Rd b t (skipAt t p) (k + 1) w3) := r1
  clear g1 r1
  go_wp2_with fail
  refine (number_any b t (skipAt t p) (k + 1) _ HR3.out hsl ht).mono ?_
  rintro e w4 ⟨g1, h1⟩
  have HG4 : Hid (G b w w4) := HG3.out.trans g1
  clear g1
  rcases h1 with ⟨er, hq, her, her2, rfl⟩ | ⟨l, q, hq, hpq, hqs, rfl, r1⟩
  · have HQ : Hid (number (rest t (skipAt t p)) = .error er) := hq
    clear hq
    go_wp2_with fail
    go_ret2
    refine ⟨HG4.out, Or.inl ⟨er, _, ?_, her, her2, rfl, Or.inl rfl⟩⟩
    rw [HVl.out, leafAt, HLe.out, ← HSk.out, HQ.out]
  · have HQ : Hid (number (rest t (skipAt t p)) = .ok (l, rest t q)) := hq
    have HR4 : Hid (Rd b t q (k + 1) w4) := r1
    clear hq r1
    go_wp2_with fail
    go_ret2
    refine ⟨HG4.out, Or.inr ⟨leaf n l, k + 1, q, leafV l, ?_, by omega, hqs, by omega, by omega, rfl, leafV_iface l, HR4.out, st_leaf _ _ _ _⟩⟩
    rw [HVl.out, leafAt, HLe.out, ← HSk.out, HQ.out]
set_option maxRecDepth 100000 in
set_option maxHeartbeats 4000000 in
theorem value_at_list (n b : Nat) (t : ByteArray) (p k : Nat) (d : Int) (w : World) (hV : ValueOK n) (h : Rd b t p k w) (hp : p ≤ t.size) (ht : t.size ≤ 2000) (hk2 : k < 200) (hd10 : d + (n + 1 : Nat) = 10) (hd0 : 0 ≤ d) (hc : hd (skip (rest t p)) = 91) :
    Calls Tryz.prog 42 #[.pointer (some ⟨b, 0, none⟩), .int .i64 d] w (ValPost b t p k (n + 1) w) := by
  have HVl : Hid (value (n + 1) k (rest t p) = _) := value_list (n := n) (begin_0 (n := n + 1) (by rw [hc]; decide) hk2 (Or.inl (by omega))) hc
  have HV : Hid (ValueOK n) := hV
  have HD1 : Hid (d + 1 + (n : Int) = 10) := by show d + 1 + (n : Int) = 10; omega
  have hd9 : d ≤ 9 := by omega
  clear hV hd10
  have hsl := skipAt_le t p
  have hsg := skipAt_ge t p hp
  have hSk : rest t (skipAt t p) = skip (rest t p) := rest_skip t p hp
  rw [← hSk] at hc
  have HR : Hid (Rd b t p k w) := h
  have HSk : Hid (rest t (skipAt t p) = skip (rest t p)) := hSk
  have HC : Hid (hd (rest t (skipAt t p)) = 91) := hc
  have HO : Hid (hd (rest t (skipAt t p)) ∈ opens) := by show hd (rest t (skipAt t p)) ∈ opens; rw [hc]; decide
  have hlt : skipAt t p < t.size := lt_of_hd (by rw [hc]; decide)
  clear h hSk hc
  go_enter Tryz.func42, Tryz.ntmps42
  go_wp2_with fail
  refine (skipBlanks_any b t p k _ HR.out hp ht).mono ?_
  rintro e w1 ⟨rfl, g1, r1⟩
  have HG1 : Hid (G b w w1) := g1
  have HR1 : Hid (Rd b t (skipAt t p) k w1) := r1
  clear g1 r1
  go_wp2_with fail
  refine (begin_ok b t (skipAt t p) k d _ HR1.out hsl ht HO.out hk2 (Or.inl (by omega))).mono ?_
  rintro e w2 ⟨rfl, g1, r1⟩
  have HG2 : Hid (G b w w2) := HG1.out.trans g1
  have HR2 : Hid (Rd b t (skipAt t p) (k + 1) w2) := r1
  clear g1 r1
  go_wp2_with fail
  refine (next_g b t (skipAt t p) (k + 1) _ HR2.out hsl ht).mono ?_
  rintro e w3 ⟨rfl, g1, r1⟩
  have HG3 : Hid (G b w w3) := HG2.out.trans g1
  have HR3 : Hid (Rd b t (skipAt t p) (k + 1) w3) := r1
  clear g1 r1
  rw [HC.out]
  have hsz3 : w.heap.size ≤ w3.heap.size := HG3.out.size
  go_wp2_with fail
  refine (list_any n b t (skipAt t p) (k + 1) (d + 1) _ HV.out HD1.out (by omega) HR3.out hlt ht (by omega)).mono ?_
  rintro e w4 ⟨g1, h1⟩
  have HG4 : Hid (G b w w4) := HG3.out.trans g1
  clear g1
  rcases h1 with ⟨er, v, hq, her, her2, rfl, hone⟩ | ⟨s, k', q, v, hq, hpq, hqs, hk', rfl, hone, r1, st1⟩
  · have HQ : Hid (row 93 (oneItem (value n)) [] (k + 1) (rest t (skipAt t p)) = .error er) := hq
    clear hq
    go_wp2_with fail
    go_ret2
    refine ⟨HG4.out, Or.inl ⟨er, v, ?_, her, her2, rfl, hone⟩⟩
    rw [HVl.out, ← HSk.out, HQ.out]
  · have HQ : Hid (row 93 (oneItem (value n)) [] (k + 1) (rest t (skipAt t p)) = .ok (s, k', rest t q)) := hq
    have HR4 : Hid (Rd b t q k' w4) := r1
    have HSt : Hid (St (fun c => c < w3.heap.size) w4 (n + 1) (Sum.inr (Sum.inl s)) v) := st1
    have HOne : Hid (∃ T x, v = .iface T x) := hone
    clear hq r1 st1 hone
    go_wp2_with fail
    go_ret2
    have hval : value (n + 1) k (rest t p) = .ok (Sum.inr (Sum.inl s), k', rest t q) := by rw [HVl.out, ← HSk.out, HQ.out]
    exact ⟨HG4.out, Or.inr ⟨Sum.inr (Sum.inl s), k', q, v, hval, by omega, hqs, value_counts _ _ _ _ _ _ hval, hk', rfl, HOne.out, HR4.out, HSt.out.mono (fun c _ hc => by omega)⟩⟩
set_option maxRecDepth 100000 in
set_option maxHeartbeats 4000000 in
theorem value_at_object (n b : Nat) (t : ByteArray) (p k : Nat) (d : Int) (w : World) (hV : ValueOK n) (h : Rd b t p k w) (hp : p ≤ t.size) (ht : t.size ≤ 2000) (hk2 : k < 200) (hd10 : d + (n + 1 : Nat) = 10) (hd0 : 0 ≤ d) (hc : hd (skip (rest t p)) = 123) :
    Calls Tryz.prog 42 #[.pointer (some ⟨b, 0, none⟩), .int .i64 d] w (ValPost b t p k (n + 1) w) := by
  have HVl : Hid (value (n + 1) k (rest t p) = _) := value_obj (n := n) (begin_0 (n := n + 1) (by rw [hc]; decide) hk2 (Or.inl (by omega))) hc
  have HV : Hid (ValueOK n) := hV
  have HD1 : Hid (d + 1 + (n : Int) = 10) := by show d + 1 + (n : Int) = 10; omega
  have hd9 : d ≤ 9 := by omega
  clear hV hd10
  have hsl := skipAt_le t p
  have hsg := skipAt_ge t p hp
  have hSk : rest t (skipAt t p) = skip (rest t p) := rest_skip t p hp
  rw [← hSk] at hc
  have HR : Hid (Rd b t p k w) := h
  have HSk : Hid (rest t (skipAt t p) = skip (rest t p)) := hSk
  have HC : Hid (hd (rest t (skipAt t p)) = 123) := hc
  have HO : Hid (hd (rest t (skipAt t p)) ∈ opens) := by show hd (rest t (skipAt t p)) ∈ opens; rw [hc]; decide
  have hlt : skipAt t p < t.size := lt_of_hd (by rw [hc]; decide)
  clear h hSk hc
  go_enter Tryz.func42, Tryz.ntmps42
  go_wp2_with fail
  refine (skipBlanks_any b t p k _ HR.out hp ht).mono ?_
  rintro e w1 ⟨rfl, g1, r1⟩
  have HG1 : Hid (G b w w1) := g1
  have HR1 : Hid (Rd b t (skipAt t p) k w1) := r1
  clear g1 r1
  go_wp2_with fail
  refine (begin_ok b t (skipAt t p) k d _ HR1.out hsl ht HO.out hk2 (Or.inl (by omega))).mono ?_
  rintro e w2 ⟨rfl, g1, r1⟩
  have HG2 : Hid (G b w w2) := HG1.out.trans g1
  have HR2 : Hid (Rd b t (skipAt t p) (k + 1) w2) := r1
  clear g1 r1
  go_wp2_with fail
  refine (next_g b t (skipAt t p) (k + 1) _ HR2.out hsl ht).mono ?_
  rintro e w3 ⟨rfl, g1, r1⟩
  have HG3 : Hid (G b w w3) := HG2.out.trans g1
  have HR3 : Hid (Rd b t (skipAt t p) (k + 1) w3) := r1
  clear g1 r1
  rw [HC.out]
  have hsz3 : w.heap.size ≤ w3.heap.size := HG3.out.size
  go_wp2_with fail
  refine (object_any n b t (skipAt t p) (k + 1) (d + 1) _ HV.out HD1.out (by omega) HR3.out hlt ht (by omega)).mono ?_
  rintro e w4 ⟨g1, h1⟩
  have HG4 : Hid (G b w w4) := HG3.out.trans g1
  clear g1
  rcases h1 with ⟨er, v, hq, her, her2, rfl, hone⟩ | ⟨s, k', q, v, hq, hpq, hqs, hk', rfl, hone, r1, st1⟩
  · have HQ : Hid (row 125 (oneField (value n)) [] (k + 1) (rest t (skipAt t p)) = .error er) := hq
    clear hq
    go_wp2_with fail
    go_ret2
    refine ⟨HG4.out, Or.inl ⟨er, v, ?_, her, her2, rfl, hone⟩⟩
    rw [HVl.out, ← HSk.out, HQ.out]
  · have HQ : Hid (row 125 (oneField (value n)) [] (k + 1) (rest t (skipAt t p)) = .ok (s, k', rest t q)) := hq
    have HR4 : Hid (Rd b t q k' w4) := r1
    have HSt : Hid (St (fun c => c < w3.heap.size) w4 (n + 1) (Sum.inr (Sum.inr s)) v) := st1
    have HOne : Hid (∃ T x, v = .iface T x) := hone
    clear hq r1 st1 hone
    go_wp2_with fail
    go_ret2
    have hval : value (n + 1) k (rest t p) = .ok (Sum.inr (Sum.inr s), k', rest t q) := by rw [HVl.out, ← HSk.out, HQ.out]
    exact ⟨HG4.out, Or.inr ⟨Sum.inr (Sum.inr s), k', q, v, hval, by omega, hqs, value_counts _ _ _ _ _ _ hval, hk', rfl, HOne.out, HR4.out, HSt.out.mono (fun c _ hc => by omega)⟩⟩
theorem value_ok : ∀ n, ValueOK n
  | 0 => by
    intro b t p k d w h hp ht hk hd10 hd0
    by_cases ho : hd (skip (rest t p)) ∈ opens
    · by_cases hk2 : k < 200
      · by_cases h1 : hd (skip (rest t p)) = 91 ∨ hd (skip (rest t p)) = 123
        · exact value_deep 0 b t p k d w h hp ht hk hd10 hk2 rfl h1
        · by_cases c1 : hd (skip (rest t p)) = 110
          · exact value_null 0 b t p k d w h hp ht hk2 hd10 c1
          by_cases c2 : hd (skip (rest t p)) = 116
          · exact value_true 0 b t p k d w h hp ht hk2 hd10 c2
          by_cases c3 : hd (skip (rest t p)) = 102
          · exact value_false 0 b t p k d w h hp ht hk2 hd10 c3
          by_cases c4 : hd (skip (rest t p)) = 34
          · exact value_text 0 b t p k d w h hp ht hk2 hd10 c4
          · exact value_number 0 b t p k d w h hp ht hk2 hd10 ⟨ho, c1, c2, c3, c4, fun e => h1 (Or.inl e), fun e => h1 (Or.inr e)⟩
      · exact value_large 0 b t p k d w h hp ht hk hd10 (by omega) ho
    · exact value_syntax 0 b t p k d w h hp ht hk hd10 ho
  | n + 1 => by
    have hV := value_ok n
    intro b t p k d w h hp ht hk hd10 hd0
    by_cases ho : hd (skip (rest t p)) ∈ opens
    · by_cases hk2 : k < 200
      · by_cases c5 : hd (skip (rest t p)) = 91
        · exact value_at_list n b t p k d w hV h hp ht hk2 hd10 hd0 c5
        by_cases c6 : hd (skip (rest t p)) = 123
        · exact value_at_object n b t p k d w hV h hp ht hk2 hd10 hd0 c6
        by_cases c1 : hd (skip (rest t p)) = 110
        · exact value_null (n + 1) b t p k d w h hp ht hk2 hd10 c1
        by_cases c2 : hd (skip (rest t p)) = 116
        · exact value_true (n + 1) b t p k d w h hp ht hk2 hd10 c2
        by_cases c3 : hd (skip (rest t p)) = 102
        · exact value_false (n + 1) b t p k d w h hp ht hk2 hd10 c3
        by_cases c4 : hd (skip (rest t p)) = 34
        · exact value_text (n + 1) b t p k d w h hp ht hk2 hd10 c4
        · exact value_number (n + 1) b t p k d w h hp ht hk2 hd10 ⟨ho, c1, c2, c3, c4, c5, c6⟩
      · exact value_large (n + 1) b t p k d w h hp ht hk hd10 (by omega) ho
    · exact value_syntax (n + 1) b t p k d w h hp ht hk hd10 ho
end Go.Proofs.YtaogilpkeeigoaaGreatDoor
