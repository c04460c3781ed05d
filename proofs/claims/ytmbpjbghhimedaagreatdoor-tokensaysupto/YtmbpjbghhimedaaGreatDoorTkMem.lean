/- What package token is handed, in memory; slices.Contains at texts; the reference's Eq. -/
import Derived.Test.YtmbpjbghhimedaaGreatDoorTkPlain
import Derived.Test.YtmbpjbghhimedaaGreatDoorTkName
import Derived.Test.YtmbpjbghhimedaaGreatDoorShelf
import Derived.Lib.AppendIntMem
import Derived.BigQuiet
namespace Go.Proofs.YtmbpjbghhimedaaGreatDoor
open Go.RowKit
set_option linter.unusedVariables false
set_option linter.unusedSimpArgs false
/-- an error of the library, in its variable -/
def ErrAt (w : World) (g : Nat) : Prop := g < w.heap.size ∧ ∃ ev, w.cell? ⟨g, 0, none⟩ = some ev ∧ (ev = .nilIface ∨ ∃ te pe, ev = .iface te pe)
theorem ErrAt.below {w w' : World} {g : Nat} (h : ErrAt w g) (hb : Below w.heap.size w w') : ErrAt w' g := by
  obtain ⟨hg, ev, h1, h2⟩ := h
  refine ⟨by have := hb.size; omega, ev, ?_, h2⟩
  rw [hb.cell (p := ⟨g, 0, none⟩) hg]
  exact h1
/-- the variables that package token and what it calls read -/
structure TkW (w : World) : Prop where
  cub : Cub w
  tab : Lib.TabBelow Tryz.prog w.heap.size w "internal/strconv.uint64pow10" .u64 Lib.pow10Tab
  room : 0 < w.heap.size ∧ ∃ m, w.cell? ⟨0, 0, none⟩ = some (.int .i64 m)
  syn : ErrAt w 1
  rng : ErrAt w 2
theorem TkW.below {w w' : World} (h : TkW w) (hb : Below w.heap.size w w') : TkW w' := by
  refine ⟨h.cub.below hb, fun w2 h2 => h.tab w2 (hb.trans (h2.mono hb.size)), ?_, h.syn.below hb, h.rng.below hb⟩
  obtain ⟨h0, m, hm⟩ := h.room
  refine ⟨by have := hb.size; omega, m, ?_⟩
  rw [hb.cell (p := ⟨0, 0, none⟩) h0]
  exact hm
theorem Strs.take {w : World} {p : Option Addr} {n c : Nat} {l : List Bs} (h : Strs w (.slice p n c) l) {k : Nat} (hk : k ≤ l.length) : Strs w (.slice p k c) (l.take k) := by
  rcases h with ⟨rfl, p', c', h⟩ | ⟨g, o, cap, h, h1, h2, h3, h4⟩
  · have : k = 0 := by simpa using hk
    subst this
    exact Or.inl ⟨rfl, _, _, rfl⟩
  · injection h with e1 e2 e3
    subst e1 e3
    have hl : (l.take k).length = k := by rw [List.length_take]; omega
    refine Or.inr ⟨g, o, c, by rw [hl], by omega, h2, h3, fun i s hs => h4 i s ?_⟩
    rw [List.getElem?_take] at hs
    split at hs
    · exact hs
    · cases hs
theorem ba_beq (a b : Bs) : ((Ba a).toList == (Ba b).toList) = decide (a = b) := by
  rw [ba_list, ba_list, Bool.eq_iff_iff, beq_iff_eq, decide_eq_true_iff]
set_option maxHeartbeats 1000000 in
theorem index_of (v : Value) (l : List Bs) (s : Bs) (w : World) (hv : Strs w v l) :
    Calls Tryz.prog 53 #[v, .string (Ba s)] w fun e w' => (∃ n : Int, e = .returned (.int .i64 n) ∧ decide (0 ≤ n) = decide (s ∈ l)) ∧ w' = w := by
  obtain ⟨p, c, rfl, hn, hcell⟩ := hv.open
  have HC : Hid (∀ k (hk : k < l.length), ∃ g o, p = some ⟨g, o, none⟩ ∧ l.length ≤ c ∧ w.cell? ⟨g, o + k, none⟩ = some (.string (Ba l[k]))) := fun k hk => by
    obtain ⟨g, o, h1, h2, h3⟩ := hcell k hk
    exact ⟨g, o, h1, h2, h3 w (Below.refl _ _)⟩
  have HT : Hid (∀ k (hk : k < l.length), s = l[k] → ∀ n : Int, 0 ≤ n → decide (0 ≤ n) = decide (s ∈ l)) := fun k hk h n h0 => by
    have : s ∈ l := by rw [h]; exact List.getElem_mem hk
    simp [this, h0]
  have HF : Hid ((∀ k (hk : k < l.length), s ≠ l[k]) → decide (0 ≤ (-1 : Int)) = decide (s ∈ l)) := fun h => by
    have : s ∉ l := fun hm => by
      obtain ⟨k, hk, he⟩ := List.getElem_of_mem hm
      exact h k hk he.symm
    simp [this]
  clear hcell hv
  generalize hr : decide (s ∈ l) = r at *
  clear hr
  unfold maxLen at hn
  go_enter Tryz.func53, Tryz.ntmps53
  go_wp2_with fail
  go_loop [8] (fun i => ∃ k : Nat, k ≤ l.length ∧ i = .int .i64 k ∧ ∀ j (hj : j < l.length), j < k → s ≠ l[j]) (fun i => l.length - (intOf i).toNat)
  case atStart => exact ⟨0, Nat.zero_le _, rfl, fun j _ h => absurd h (Nat.not_lt_zero _)⟩
  case round =>
    obtain ⟨k, hk, rfl, hall⟩ := hrel
    have HA : Hid (∀ j (hj : j < l.length), j < k → s ≠ l[j]) := hall
    clear hall
    by_cases hlt : k < l.length
    · obtain ⟨g, o, rfl, hlc, hc⟩ := HC.out k hlt
      have hb := ba_beq s l[k]
      by_cases hx : s = l[k]
      · have HX : Hid (∀ n : Int, 0 ≤ n → decide (0 ≤ n) = r) := HT.out k hlt hx
        rw [decide_eq_true hx] at hb
        clear hx HA HF HT
        generalize Ba l[k] = y at *
        generalize Ba s = z at *
        go_wp2_with fail
        go_ret
        exact ⟨⟨k, rfl, HX.out k (by omega)⟩, rfl⟩
      · have HX : Hid (s ≠ l[k]) := hx
        rw [decide_eq_false hx] at hb
        clear hx HF HT
        generalize Ba l[k] = y at *
        generalize Ba s = z at *
        go_wp2_with fail
        go_round
        case rel => exact ⟨k + 1, by omega, by go_num, (fun j hj h => by
          rcases Nat.lt_succ_iff_lt_or_eq.1 h with h | h
          · exact HA.out j hj h
          · subst h; exact HX.out)⟩
        case measure => simp [intOf]; omega
    · have HX : Hid (decide (0 ≤ (-1 : Int)) = r) := HF.out (fun j hj => HA.out j hj (by omega))
      go_wp2_with fail
      go_ret
      exact ⟨⟨-1, rfl, HX.out⟩, rfl⟩
set_option maxHeartbeats 1000000 in
theorem contains_of (v : Value) (l : List Bs) (s : Bs) (w : World) (hv : Strs w v l) :
    Calls Tryz.prog 30 #[v, .string (Ba s)] w fun e w' => e = .returned (.bool (decide (s ∈ l))) ∧ w' = w := by
  have HI : Hid (Calls Tryz.prog 53 #[v, .string (Ba s)] w fun e w' => (∃ n : Int, e = .returned (.int .i64 n) ∧ decide (0 ≤ n) = decide (s ∈ l)) ∧ w' = w) := index_of v l s w hv
  obtain ⟨p, c, rfl, _⟩ := hv.form
  clear hv
  generalize decide (s ∈ l) = r at *
  go_enter Tryz.func30, Tryz.ntmps30
  go_wp2_with fail
  refine Calls.mono HI.out ?_
  rintro e w1 ⟨⟨n, rfl, hn⟩, rfl⟩
  go_wp2_with fail
  go_ret
  exact ⟨by rw [← hn]; rfl, rfl⟩
/-- a box of two cells -/
def Bx2 (w : World) (g : Nat) (a b : Value) (t : TypeId) : Prop := w.heap[g]? = some (.cells #[a, b] t (0, 0))
theorem Bx2.lt {w : World} {g : Nat} {a b : Value} {t : TypeId} (h : Bx2 w g a b t) : g < w.heap.size := lt_of_block h
theorem Bx2.below {w w' : World} {g : Nat} {a b : Value} {t : TypeId} (h : Bx2 w g a b t) (e : Below w.heap.size w w') : Bx2 w' g a b t := (e.block g h.lt).trans h
theorem Bx2.c0 {w : World} {g : Nat} {a b : Value} {t : TypeId} (h : Bx2 w g a b t) : w.cell? ⟨g, 0, none⟩ = some a := by rw [cell_of_row _ _ _ _ _ _ h]; rfl
theorem Bx2.c1 {w : World} {g : Nat} {a b : Value} {t : TypeId} (h : Bx2 w g a b t) : w.cell? ⟨g, 1, none⟩ = some b := by rw [cell_of_row _ _ _ _ _ _ h]; rfl
theorem Bx2.free {w : World} {g : Nat} {a b : Value} {t : TypeId} (h : Bx2 w g a b t) (o : Nat) : w.frozen? ⟨g, o, none⟩ = false := frozen_of_row _ _ _ _ _ h
theorem bx2_new (w : World) (a b : Value) (t : TypeId) : Bx2 (w.alloc (.cells #[a, b] t)) w.heap.size a b t := heap_alloc_new w _
def put2 (w : World) (g : Nat) (a b : Value) : World := (w.setCell ⟨g, 0, none⟩ a).setCell ⟨g, 1, none⟩ b
theorem put2_box {w : World} {g : Nat} {x y : Value} {t : TypeId} (hb : Bx2 w g x y t) (a b : Value) : Bx2 (put2 w g a b) g a b t := by
  unfold put2
  have e0 := heap_setCell_same w g 0 _ _ a hb
  exact heap_setCell_same _ g 1 _ _ b e0
theorem put2_below {w0 w : World} {B g : Nat} (h : Below B w0 w) (hB : B ≤ g) (a b : Value) : Below B w0 (put2 w g a b) :=
  (h.setCell (p := ⟨g, 0, none⟩) hB a).setCell (p := ⟨g, 1, none⟩) hB b
theorem box2 {w w1 : World} {a b : Value} {t : TypeId} (h : Below (w.alloc (.cells #[a, b] t)).heap.size (w.alloc (.cells #[a, b] t)) w1) :
    w1.cell? ⟨w.heap.size, 0, none⟩ = some a ∧ w1.cell? ⟨w.heap.size, 1, none⟩ = some b := by
  rw [h.cell (p := ⟨w.heap.size, 0, none⟩) (by simp), h.cell (p := ⟨w.heap.size, 1, none⟩) (by simp)]
  rw [World.cell?_alloc_at _ _ _ _ rfl, World.cell?_alloc_at _ _ _ _ rfl]
  exact ⟨rfl, rfl⟩
set_option maxHeartbeats 400000 in
theorem nm_any (s : Bs) (w : World) (hs : s.length ≤ maxLen) : Calls Tryz.prog 29 #[.string (Ba s)] w fun e w' => e = .returned (.int .i64 (nmI s)) ∧ w' = w := by
  have HC : Hid (∀ w, Calls Tryz.prog 52 #[.string (Ba s)] w fun e w' => e = .returned (.int .i64 (checkI (Ba s))) ∧ w' = w) := fun w => check_any (Ba s) w (by rw [ba_size]; exact hs)
  have hsz : (Ba s).size = s.length := ba_size s
  have HE : Hid (nmI s = if checkI (Ba s) ≠ 0 then checkI (Ba s) else if 20 < s.length then 2 else 0) := rfl
  generalize nmI s = res at *
  unfold maxLen at hs
  generalize checkI (Ba s) = c at *
  by_cases h1 : c = 0
  · have hn1 : (c != 0) = false := by simp [h1]
    by_cases h2 : 20 < s.length
    · have HX : Hid (res = 2) := by show _ = _; rw [HE.out, if_neg (by simp [h1]), if_pos h2]
      have hI : (20 : Int) < (s.length : Int) := by omega
      clear HE
      go_enter Tryz.func29, Tryz.ntmps29
      go_wp2_with fail
      refine Calls.mono (HC.out _) ?_
      rintro e w1 ⟨rfl, rfl⟩
      go_wp2_with fail
      go_ret
      exact ⟨by rw [HX.out]; rfl, rfl⟩
    · have HX : Hid (res = 0) := by show _ = _; rw [HE.out, if_neg (by simp [h1]), if_neg h2]
      have hI : ¬ (20 : Int) < (s.length : Int) := by omega
      clear HE
      go_enter Tryz.func29, Tryz.ntmps29
      go_wp2_with fail
      refine Calls.mono (HC.out _) ?_
      rintro e w1 ⟨rfl, rfl⟩
      go_wp2_with fail
      go_ret
      exact ⟨by rw [HX.out]; rfl, rfl⟩
  · have hn1 : (c != 0) = true := by simp [h1]
    have HX : Hid (res = c) := by show _ = _; rw [HE.out, if_pos h1]
    clear HE
    go_enter Tryz.func29, Tryz.ntmps29
    go_wp2_with fail
    refine Calls.mono (HC.out _) ?_
    rintro e w1 ⟨rfl, rfl⟩
    go_wp2_with fail
    go_ret
    exact ⟨by rw [HX.out]; rfl, rfl⟩
theorem ba_injT {a b : Bs} : ((⟨a.toArray⟩ : ByteArray).toList == (⟨b.toArray⟩ : ByteArray).toList) = (a == b) := by
  rw [ByteArray.toList_eq, ByteArray.toList_eq]
theorem eq_atT {l m : List Bs} (h : l.length = m.length) {k : Nat} (hk : k < l.length) (hne : l[k] ≠ m[k]'(by omega)) : (l == m) = false := by
  rw [beq_eq_false_iff_ne]
  rintro rfl
  exact hne rfl
theorem eq_allT {l m : List Bs} (h : l.length = m.length) (ha : ∀ k (hk : k < l.length), l[k] = m[k]'(by omega)) : (l == m) = true := by
  rw [beq_iff_eq]
  exact List.ext_getElem h (fun k h1 h2 => ha k h1)
set_option maxRecDepth 100000 in
set_option maxHeartbeats 2000000 in
theorem rfeq_any (a b : Value) (l m : List Bs) (w : World) (ha : Strs w a l) (hb : Strs w b m) :
    Calls Tryz.prog 28 #[a, b] w fun e w' => e = .returned (.bool (l == m)) ∧ Below w.heap.size w w' := by
  by_cases hl : l.length = m.length
  · rcases ha with ⟨rfl, p0, c0, rfl⟩ | ⟨g, o, cap, rfl, h1, h2, h3, h4⟩
    · have hm : m = [] := List.eq_nil_of_length_eq_zero hl.symm
      subst hm
      have : ∃ p c, b = .slice p 0 c := by
        rcases hb with ⟨_, _, _, rfl⟩ | ⟨g, o, cap, rfl, _⟩
        · exact ⟨_, _, rfl⟩
        · exact ⟨_, _, rfl⟩
      obtain ⟨p, c, rfl⟩ := this
      clear hb hl
      go_enter Tryz.func28, Tryz.ntmps28
      go_wp2_with fail
      go_loopw [14] (fun i wr => i = .int .i64 0 ∧ wr = w) (fun _ _ => 0)
      case atStart => exact ⟨rfl, rfl⟩
      case round =>
        obtain ⟨rfl, rfl⟩ := hrel
        go_wp2_with fail
        go_ret
        exact ⟨rfl, Below.refl _ _⟩
    · have hb' : ∃ p c, b = .slice p m.length c ∧ ∀ k (hk : k < m.length), ∃ g o, p = some ⟨g, o, none⟩ ∧ m.length ≤ c ∧ ∀ w1, Below w.heap.size w w1 → w1.cell? ⟨g, o + k, none⟩ = some (.string ⟨m[k].toArray⟩) := by
        rcases hb with ⟨rfl, _, _, rfl⟩ | ⟨g', o', cap', rfl, k1, k2, k3, k4⟩
        · exact ⟨_, _, rfl, fun k hk => by simp at hk⟩
        · exact ⟨_, _, rfl, fun k hk => ⟨g', o', rfl, k1, fun w1 hb => by rw [hb.cell (p := ⟨g', o' + k, none⟩) k3]; exact k4 k _ (List.getElem?_eq_getElem hk)⟩⟩
      obtain ⟨p, c, rfl, hB⟩ := hb'
      have HA : Hid (∀ w1, Below w.heap.size w w1 → ∀ k (hk : k < l.length), w1.cell? ⟨g, o + k, none⟩ = some (.string ⟨l[k].toArray⟩)) := fun w1 hb k hk => by rw [hb.cell (p := ⟨g, o + k, none⟩) h3]; exact h4 k _ (List.getElem?_eq_getElem hk)
      have HB : Hid (∀ k (hk : k < m.length), ∃ g o, p = some ⟨g, o, none⟩ ∧ m.length ≤ c ∧ ∀ w1, Below w.heap.size w w1 → w1.cell? ⟨g, o + k, none⟩ = some (.string ⟨m[k].toArray⟩)) := hB
      have HT : Hid ((∀ k (hk : k < l.length), l[k] = m[k]'(by omega)) → (l == m) = true) := eq_allT hl
      have HF : Hid (∀ k (hk : k < l.length), l[k] ≠ m[k]'(by omega) → (l == m) = false) := fun k hk => eq_atT hl hk
      unfold maxLen at h2
      clear hB hb h4
      have hlm : ((l.length : Int) != (m.length : Int)) = false := by rw [hl]; simp
      generalize (l == m) = res at *
      go_enter Tryz.func28, Tryz.ntmps28
      go_wp2_with fail
      go_loopw [14] (fun i wr => ∃ k : Nat, k ≤ l.length ∧ i = .int .i64 k ∧ (∀ q (hq : q < l.length), q < k → l[q] = m[q]'(by omega)) ∧ Below w.heap.size w wr) (fun i _ => l.length - (intOf i).toNat)
      case atStart => exact ⟨0, Nat.zero_le _, rfl, fun q hq h => absurd h (Nat.not_lt_zero _), Below.refl _ _⟩
      case round =>
        obtain ⟨k, hk, rfl, hall, hbel⟩ := hrel
        have HBe : Hid (Below w.heap.size w wr) := hbel
        clear hbel
        have HAl : Hid (∀ q (hq : q < l.length), q < k → l[q] = m[q]'(by omega)) := hall
        clear hall
        by_cases hlt : k < l.length
        · have hkm : k < m.length := by omega
          have c1 := HA.out wr HBe.out k hlt
          obtain ⟨g2, o2, rfl, hmc, c2'⟩ := HB.out k hkm
          have c2 := c2' wr HBe.out
          clear c2'
          have HFk : Hid (l[k] ≠ m[k] → res = false) := HF.out k hlt
          have HEq : Hid (((⟨l[k].toArray⟩ : ByteArray).toList == (⟨m[k].toArray⟩ : ByteArray).toList) = (l[k] == m[k])) := ba_injT
          by_cases hx : l[k] = m[k]
          · have HX : Hid (l[k] = m[k]) := hx
            have hne : (((⟨l[k].toArray⟩ : ByteArray).toList == (⟨m[k].toArray⟩ : ByteArray).toList)) = true := by rw [HEq.out, hx]; simp
            clear hx
            generalize (⟨l[k].toArray⟩ : ByteArray) = y at *
            generalize (⟨m[k].toArray⟩ : ByteArray) = z at *
            go_wp2_with fail
            go_roundw
            case rel => exact ⟨k + 1, by omega, by go_num, (fun q hq h => by
              rcases Nat.lt_succ_iff_lt_or_eq.1 h with h | h
              · exact HAl.out q hq h
              · subst h; exact HX.out), HBe.out⟩
            case measure => simp [intOf]; omega
          · have hne : (((⟨l[k].toArray⟩ : ByteArray).toList == (⟨m[k].toArray⟩ : ByteArray).toList)) = false := by rw [HEq.out]; simp [hx]
            have HX : Hid (res = false) := HFk.out hx
            clear hx
            generalize (⟨l[k].toArray⟩ : ByteArray) = y at *
            generalize (⟨m[k].toArray⟩ : ByteArray) = z at *
            go_wp2_with fail
            go_ret
            exact ⟨by rw [HX.out]; rfl, HBe.out⟩
        · have HX : Hid (res = true) := HT.out (fun q hq => HAl.out q hq (by omega))
          go_wp2_with fail
          go_ret
          exact ⟨by rw [HX.out]; rfl, HBe.out⟩
  · have HX : Hid ((l == m) = false) := by
      show _ = false
      rw [beq_eq_false_iff_ne]
      rintro rfl
      exact hl rfl
    have h1 : ∃ p c, a = .slice p l.length c := by
      rcases ha with ⟨rfl, _, _, rfl⟩ | ⟨g, o, cap, rfl, _⟩ <;> exact ⟨_, _, rfl⟩
    have h2 : ∃ p c, b = .slice p m.length c := by
      rcases hb with ⟨rfl, _, _, rfl⟩ | ⟨g, o, cap, rfl, _⟩ <;> exact ⟨_, _, rfl⟩
    obtain ⟨p, c, rfl⟩ := h1
    obtain ⟨p2, c2, rfl⟩ := h2
    have hlm : ((l.length : Int) != (m.length : Int)) = true := by rw [bne_iff_ne]; omega
    clear ha hb
    generalize (l == m) = res at *
    go_enter Tryz.func28, Tryz.ntmps28
    go_wp2_with fail
    go_ret
    exact ⟨by rw [HX.out]; rfl, Below.refl _ _⟩
end Go.Proofs.YtmbpjbghhimedaaGreatDoor
