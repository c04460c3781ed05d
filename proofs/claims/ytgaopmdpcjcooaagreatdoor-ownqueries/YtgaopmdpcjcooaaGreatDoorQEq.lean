/- Contract over this translation of the reference's Eq: two lists of texts, held against each other. -/
import Derived.Test.YtgaopmdpcjcooaaGreatDoorQMem
import Derived.WalkKit
import Derived.WalkSpells
import Derived.BigQuiet
namespace Go.Proofs.YtgaopmdpcjcooaaGreatDoor
open Go.RowKit
set_option linter.unusedVariables false
set_option linter.unusedSimpArgs false
theorem ba_injT {a b : Bs} : ((⟨a.toArray⟩ : ByteArray).toList == (⟨b.toArray⟩ : ByteArray).toList) = (a == b) := by
  rw [ByteArray.toList_eq, ByteArray.toList_eq]
theorem eq_atT {l m : List Bs} (h : l.length = m.length) {k : Nat} (hk : k < l.length) (hne : l[k] ≠ m[k]'(by omega)) : (l == m) = false := by
  rw [beq_eq_false_iff_ne]
  rintro rfl
  exact hne rfl
theorem eq_allT {l m : List Bs} (h : l.length = m.length) (ha : ∀ k (hk : k < l.length), l[k] = m[k]'(by omega)) : (l == m) = true := by
  rw [beq_iff_eq]
  exact List.ext_getElem h (fun k h1 h2 => ha k h1)
set_option maxRecDepth 100000 in
set_option maxHeartbeats 2000000 in
theorem rfeq_any (a b : Value) (l m : List Bs) (w : World) (ha : Strs w a l) (hb : Strs w b m) :
    Calls Tryz.prog 30 #[a, b] w fun e w' => e = .returned (.bool (l == m)) ∧ Below w.heap.size w w' := by
  by_cases hl : l.length = m.length
  · rcases ha with ⟨rfl, p0, c0, rfl⟩ | ⟨g, o, cap, rfl, h1, h2, h3, h4⟩
    · have hm : m = [] := List.eq_nil_of_length_eq_zero hl.symm
      subst hm
      have : ∃ p c, b = .slice p 0 c := by
        rcases hb with ⟨_, _, _, rfl⟩ | ⟨g, o, cap, rfl, _⟩
        · exact ⟨_, _, rfl⟩
        · exact ⟨_, _, rfl⟩
      obtain ⟨p, c, rfl⟩ := this
      clear hb hl
      go_enter Tryz.func30, Tryz.ntmps30
      go_wp2_with fail
      go_loopw [14] (fun i wr => i = .int .i64 0 ∧ wr = w) (fun _ _ => 0)
      case atStart => exact ⟨rfl, rfl⟩
      case round =>
        obtain ⟨rfl, rfl⟩ := hrel
        go_wp2_with fail
        go_ret
        exact ⟨rfl, Below.refl _ _⟩
    · have hb' : ∃ p c, b = .slice p m.length c ∧ ∀ k (hk : k < m.length), ∃ g o, p = some ⟨g, o, none⟩ ∧ m.length ≤ c ∧ ∀ w1, Below w.heap.size w w1 → w1.cell? ⟨g, o + k, none⟩ = some (.string ⟨m[k].toArray⟩) := by
        rcases hb with ⟨rfl, _, _, rfl⟩ | ⟨g', o', cap', rfl, k1, k2, k3, k4⟩
        · exact ⟨_, _, rfl, fun k hk => by simp at hk⟩
        · exact ⟨_, _, rfl, fun k hk => ⟨g', o', rfl, k1, fun w1 hb => by rw [hb.cell (p := ⟨g', o' + k, none⟩) k3]; exact k4 k _ (List.getElem?_eq_getElem hk)⟩⟩
      obtain ⟨p, c, rfl, hB⟩ := hb'
      have HA : Hid (∀ w1, Below w.heap.size w w1 → ∀ k (hk : k < l.length), w1.cell? ⟨g, o + k, none⟩ = some (.string ⟨l[k].toArray⟩)) := fun w1 hb k hk => by rw [hb.cell (p := ⟨g, o + k, none⟩) h3]; exact h4 k _ (List.getElem?_eq_getElem hk)
      have HB : Hid (∀ k (hk : k < m.length), ∃ g o, p = some ⟨g, o, none⟩ ∧ m.length ≤ c ∧ ∀ w1, Below w.heap.size w w1 → w1.cell? ⟨g, o + k, none⟩ = some (.string ⟨m[k].toArray⟩)) := hB
      have HT : Hid ((∀ k (hk : k < l.length), l[k] = m[k]'(by omega)) → (l == m) = true) := eq_allT hl
      have HF : Hid (∀ k (hk : k < l.length), l[k] ≠ m[k]'(by omega) → (l == m) = false) := fun k hk => eq_atT hl hk
      unfold maxLen at h2
      clear hB hb h4
      have hlm : ((l.length : Int) != (m.length : Int)) = false := by rw [hl]; simp
      generalize (l == m) = res at *
      go_enter Tryz.func30, Tryz.ntmps30
      go_wp2_with fail
      go_loopw [14] (fun i wr => ∃ k : Nat, k ≤ l.length ∧ i = .int .i64 k ∧ (∀ q (hq : q < l.length), q < k → l[q] = m[q]'(by omega)) ∧ Below w.heap.size w wr) (fun i _ => l.length - (intOf i).toNat)
      case atStart => exact ⟨0, Nat.zero_le _, rfl, fun q hq h => absurd h (Nat.not_lt_zero _), Below.refl _ _⟩
      case round =>
        obtain ⟨k, hk, rfl, hall, hbel⟩ := hrel
        have HBe : Hid (Below w.heap.size w wr) := hbel
        clear hbel
        have HAl : Hid (∀ q (hq : q < l.length), q < k → l[q] = m[q]'(by omega)) := hall
        clear hall
        by_cases hlt : k < l.length
        · have hkm : k < m.length := by omega
          have c1 := HA.out wr HBe.out k hlt
          obtain ⟨g2, o2, rfl, hmc, c2'⟩ := HB.out k hkm
          have c2 := c2' wr HBe.out
          clear c2'
          have HFk : Hid (l[k] ≠ m[k] → res = false) := HF.out k hlt
          have HEq : Hid (((⟨l[k].toArray⟩ : ByteArray).toList == (⟨m[k].toArray⟩ : ByteArray).toList) = (l[k] == m[k])) := ba_injT
          by_cases hx : l[k] = m[k]
          · have HX : Hid (l[k] = m[k]) := hx
            have hne : (((⟨l[k].toArray⟩ : ByteArray).toList == (⟨m[k].toArray⟩ : ByteArray).toList)) = true := by rw [HEq.out, hx]; simp
            clear hx
            generalize (⟨l[k].toArray⟩ : ByteArray) = y at *
            generalize (⟨m[k].toArray⟩ : ByteArray) = z at *
            go_wp2_with fail
            go_roundw
            case rel => exact ⟨k + 1, by omega, by go_num, (fun q hq h => by
              rcases Nat.lt_succ_iff_lt_or_eq.1 h with h | h
              · exact HAl.out q hq h
              · subst h; exact HX.out), HBe.out⟩
            case measure => simp [intOf]; omega
          · have hne : (((⟨l[k].toArray⟩ : ByteArray).toList == (⟨m[k].toArray⟩ : ByteArray).toList)) = false := by rw [HEq.out]; simp [hx]
            have HX : Hid (res = false) := HFk.out hx
            clear hx
            generalize (⟨l[k].toArray⟩ : ByteArray) = y at *
            generalize (⟨m[k].toArray⟩ : ByteArray) = z at *
            go_wp2_with fail
            go_ret
            exact ⟨by rw [HX.out]; rfl, HBe.out⟩
        · have HX : Hid (res = true) := HT.out (fun q hq => HAl.out q hq (by omega))
          go_wp2_with fail
          go_ret
          exact ⟨by rw [HX.out]; rfl, HBe.out⟩
  · have HX : Hid ((l == m) = false) := by
      show _ = false
      rw [beq_eq_false_iff_ne]
      rintro rfl
      exact hl rfl
    have h1 : ∃ p c, a = .slice p l.length c := by
      rcases ha with ⟨rfl, _, _, rfl⟩ | ⟨g, o, cap, rfl, _⟩ <;> exact ⟨_, _, rfl⟩
    have h2 : ∃ p c, b = .slice p m.length c := by
      rcases hb with ⟨rfl, _, _, rfl⟩ | ⟨g, o, cap, rfl, _⟩ <;> exact ⟨_, _, rfl⟩
    obtain ⟨p, c, rfl⟩ := h1
    obtain ⟨p2, c2, rfl⟩ := h2
    have hlm : ((l.length : Int) != (m.length : Int)) = true := by rw [bne_iff_ne]; omega
    clear ha hb
    generalize (l == m) = res at *
    go_enter Tryz.func30, Tryz.ntmps30
    go_wp2_with fail
    go_ret
    exact ⟨by rw [HX.out]; rfl, Below.refl _ _⟩
end Go.Proofs.YtgaopmdpcjcooaaGreatDoor
