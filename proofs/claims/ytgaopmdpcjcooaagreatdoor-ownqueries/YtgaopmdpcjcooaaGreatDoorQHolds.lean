/- Contracts over this translation: slices.Index and Contains at texts, query.stateOf, query.holds. -/
import Derived.Test.YtgaopmdpcjcooaaGreatDoorQMem
import Derived.Deep.QuietTactic
import Derived.Deep.RegionWith
import Derived.RegionTactic
import Derived.BigQuiet
namespace Go.Proofs.YtgaopmdpcjcooaaGreatDoor
open Go.RowKit
set_option linter.unusedVariables false
set_option linter.unusedSimpArgs false
theorem ba_beq (a b : Bs) : ((Ba a).toList == (Ba b).toList) = decide (a = b) := by
  rw [ba_list, ba_list, Bool.eq_iff_iff, beq_iff_eq, decide_eq_true_iff]
set_option maxHeartbeats 1000000 in
theorem index_of (v : Value) (l : List Bs) (s : Bs) (w : World) (hv : Strs w v l) :
    Calls Tryz.prog 92 #[v, .string (Ba s)] w fun e w' => (∃ n : Int, e = .returned (.int .i64 n) ∧ decide (0 ≤ n) = decide (s ∈ l)) ∧ w' = w := by
  obtain ⟨p, c, rfl, hn, hcell⟩ := hv.open
  have HC : Hid (∀ k (hk : k < l.length), ∃ g o, p = some ⟨g, o, none⟩ ∧ l.length ≤ c ∧ w.cell? ⟨g, o + k, none⟩ = some (.string (Ba l[k]))) := fun k hk => by
    obtain ⟨g, o, h1, h2, h3⟩ := hcell k hk
    exact ⟨g, o, h1, h2, h3 w (Below.refl _ _)⟩
  have HT : Hid (∀ k (hk : k < l.length), s = l[k] → ∀ n : Int, 0 ≤ n → decide (0 ≤ n) = decide (s ∈ l)) := fun k hk h n h0 => by
    have : s ∈ l := by rw [h]; exact List.getElem_mem hk
    simp [this, h0]
  have HF : Hid ((∀ k (hk : k < l.length), s ≠ l[k]) → decide (0 ≤ (-1 : Int)) = decide (s ∈ l)) := fun h => by
    have : s ∉ l := fun hm => by
      obtain ⟨k, hk, he⟩ := List.getElem_of_mem hm
      exact h k hk he.symm
    simp [this]
  clear hcell hv
  generalize hr : decide (s ∈ l) = r at *
  clear hr
  unfold maxLen at hn
  go_enter Tryz.func92, Tryz.ntmps92
  go_wp2_with fail
  go_loop [8] (fun i => ∃ k : Nat, k ≤ l.length ∧ i = .int .i64 k ∧ ∀ j (hj : j < l.length), j < k → s ≠ l[j]) (fun i => l.length - (intOf i).toNat)
  case atStart => exact ⟨0, Nat.zero_le _, rfl, fun j _ h => absurd h (Nat.not_lt_zero _)⟩
  case round =>
    obtain ⟨k, hk, rfl, hall⟩ := hrel
    have HA : Hid (∀ j (hj : j < l.length), j < k → s ≠ l[j]) := hall
    clear hall
    by_cases hlt : k < l.length
    · obtain ⟨g, o, rfl, hlc, hc⟩ := HC.out k hlt
      have hb := ba_beq s l[k]
      by_cases hx : s = l[k]
      · have HX : Hid (∀ n : Int, 0 ≤ n → decide (0 ≤ n) = r) := HT.out k hlt hx
        rw [decide_eq_true hx] at hb
        clear hx HA HF HT
        generalize Ba l[k] = y at *
        generalize Ba s = z at *
        go_wp2_with fail
        go_ret
        exact ⟨⟨k, rfl, HX.out k (by omega)⟩, rfl⟩
      · have HX : Hid (s ≠ l[k]) := hx
        rw [decide_eq_false hx] at hb
        clear hx HF HT
        generalize Ba l[k] = y at *
        generalize Ba s = z at *
        go_wp2_with fail
        go_round
        case rel => exact ⟨k + 1, by omega, by go_num, (fun j hj h => by
          rcases Nat.lt_succ_iff_lt_or_eq.1 h with h | h
          · exact HA.out j hj h
          · subst h; exact HX.out)⟩
        case measure => simp [intOf]; omega
    · have HX : Hid (decide (0 ≤ (-1 : Int)) = r) := HF.out (fun j hj => HA.out j hj (by omega))
      go_wp2_with fail
      go_ret
      exact ⟨⟨-1, rfl, HX.out⟩, rfl⟩
set_option maxHeartbeats 1000000 in
theorem contains_of (v : Value) (l : List Bs) (s : Bs) (w : World) (hv : Strs w v l) :
    Calls Tryz.prog 74 #[v, .string (Ba s)] w fun e w' => e = .returned (.bool (decide (s ∈ l))) ∧ w' = w := by
  have HI : Hid (Calls Tryz.prog 92 #[v, .string (Ba s)] w fun e w' => (∃ n : Int, e = .returned (.int .i64 n) ∧ decide (0 ≤ n) = decide (s ∈ l)) ∧ w' = w) := index_of v l s w hv
  obtain ⟨p, c, rfl, _⟩ := hv.form
  clear hv
  generalize decide (s ∈ l) = r at *
  go_enter Tryz.func74, Tryz.ntmps74
  go_wp2_with fail
  refine Calls.mono HI.out ?_
  rintro e w1 ⟨⟨n, rfl, hn⟩, rfl⟩
  go_wp2_with fail
  go_ret
  exact ⟨by rw [← hn]; rfl, rfl⟩
/-- what labels have of a key, as a value -/
def stV (o : Option Bs) : Value := .agg #[.bool o.isSome, .string (Ba (o.getD []))]
theorem state_end {ls : List Lb} {key : Bs} {k : Nat} (hk : ls.length ≤ k) : stateB (ls.drop k) key = none := by
  rw [List.drop_eq_nil_of_le hk]
  rfl
theorem state_hit {ls : List Lb} {key : Bs} {k : Nat} (hk : k < ls.length) (h : ls[k].1 = key) : stateB (ls.drop k) key = some ls[k].2 := by
  rw [List.drop_eq_getElem_cons hk, stateB, List.find?_cons_of_pos (by simpa using h)]
  rfl
theorem state_step {ls : List Lb} {key : Bs} {k : Nat} (hk : k < ls.length) (h : ls[k].1 ≠ key) : stateB (ls.drop k) key = stateB (ls.drop (k + 1)) key := by
  rw [List.drop_eq_getElem_cons hk, stateB, List.find?_cons_of_neg (by simpa using h)]
  rfl
/-- a box of two cells -/
def Bx2 (w : World) (g : Nat) (a b : Value) (t : TypeId) : Prop := w.heap[g]? = some (.cells #[a, b] t (0, 0))
theorem Bx2.lt {w : World} {g : Nat} {a b : Value} {t : TypeId} (h : Bx2 w g a b t) : g < w.heap.size := lt_of_block h
theorem Bx2.below {w w' : World} {g : Nat} {a b : Value} {t : TypeId} (h : Bx2 w g a b t) (e : Below w.heap.size w w') : Bx2 w' g a b t := (e.block g h.lt).trans h
theorem Bx2.c0 {w : World} {g : Nat} {a b : Value} {t : TypeId} (h : Bx2 w g a b t) : w.cell? ⟨g, 0, none⟩ = some a := by rw [cell_of_row _ _ _ _ _ _ h]; rfl
theorem Bx2.c1 {w : World} {g : Nat} {a b : Value} {t : TypeId} (h : Bx2 w g a b t) : w.cell? ⟨g, 1, none⟩ = some b := by rw [cell_of_row _ _ _ _ _ _ h]; rfl
theorem Bx2.free {w : World} {g : Nat} {a b : Value} {t : TypeId} (h : Bx2 w g a b t) (o : Nat) : w.frozen? ⟨g, o, none⟩ = false := frozen_of_row _ _ _ _ _ h
theorem bx2_new (w : World) (a b : Value) (t : TypeId) : Bx2 (w.alloc (.cells #[a, b] t)) w.heap.size a b t := heap_alloc_new w _
def put2 (w : World) (g : Nat) (a b : Value) : World := (w.setCell ⟨g, 0, none⟩ a).setCell ⟨g, 1, none⟩ b
theorem put2_box {w : World} {g : Nat} {x y : Value} {t : TypeId} (hb : Bx2 w g x y t) (a b : Value) : Bx2 (put2 w g a b) g a b t := by
  unfold put2
  have e0 := heap_setCell_same w g 0 _ _ a hb
  exact heap_setCell_same _ g 1 _ _ b e0
theorem put2_below {w0 w : World} {B g : Nat} (h : Below B w0 w) (hB : B ≤ g) (a b : Value) : Below B w0 (put2 w g a b) :=
  (h.setCell (p := ⟨g, 0, none⟩) hB a).setCell (p := ⟨g, 1, none⟩) hB b
set_option maxHeartbeats 2000000 in
theorem state_of (v : Value) (ls : List Lb) (key : Bs) (w : World) (hv : Labs w v ls) :
    Calls Tryz.prog 50 #[v, .string (Ba key)] w fun e w' => e = .returned (stV (stateB ls key)) ∧ Below w.heap.size w w' := by
  obtain ⟨p, c, rfl, hn, hcell⟩ := hv.open
  have HC : Hid (∀ k (hk : k < ls.length), ∃ g o, p = some ⟨g, o, none⟩ ∧ ls.length ≤ c ∧ ∀ w1, Below w.heap.size w w1 → w1.cell? ⟨g, o + k * 2, none⟩ = some (.string (Ba ls[k].1)) ∧ w1.cell? ⟨g, o + k * 2 + 1, none⟩ = some (.string (Ba ls[k].2))) := fun k hk => by
    obtain ⟨g, o, h1, h2, h3⟩ := hcell k hk
    exact ⟨g, o, h1, h2, fun w1 hb => h3 w1 hb k hk⟩
  have HX : Hid (stV (stateB ls key) = stV (stateB (ls.drop 0) key)) := rfl
  have HG : Hid (Below w.heap.size w (w.alloc (.cells #[.bool false, .string ⟨#[]⟩] 65)) ∧ Bx2 (w.alloc (.cells #[.bool false, .string ⟨#[]⟩] 65)) w.heap.size (.bool false) (.string ⟨#[]⟩) 65) :=
    ⟨(Below.refl _ _).alloc (Nat.le_refl _) _, bx2_new _ _ _ _⟩
  clear hcell hv
  generalize stV (stateB ls key) = res at *
  unfold maxLen at hn
  go_enter Tryz.func50, Tryz.ntmps50
  go_wp2_with fail
  generalize w.alloc (.cells #[.bool false, .string ⟨#[]⟩] 65) = w0 at *
  go_loopw [9] (fun i wr => ∃ k : Nat, k ≤ ls.length ∧ i = .int .i64 k ∧ stateB (ls.drop 0) key = stateB (ls.drop k) key ∧ Below w.heap.size w wr ∧ Bx2 wr w.heap.size (.bool false) (.string ⟨#[]⟩) 65) (fun i _ => ls.length - (intOf i).toNat)
  case atStart => exact ⟨0, Nat.zero_le _, rfl, rfl, HG.out.1, HG.out.2⟩
  case round =>
    obtain ⟨k, hk, rfl, hall, hbel, hbx⟩ := hrel
    have HA : Hid (stateB (ls.drop 0) key = stateB (ls.drop k) key) := hall
    have HB : Hid (Below w.heap.size w wr) := hbel
    have HZ : Hid (Bx2 wr w.heap.size (.bool false) (.string ⟨#[]⟩) 65) := hbx
    clear hall hbel hbx
    by_cases hlt : k < ls.length
    · obtain ⟨g, o, rfl, hlc, hc0⟩ := HC.out k hlt
      obtain ⟨c1, c2⟩ := hc0 wr HB.out
      clear hc0
      have hb := ba_beq ls[k].1 key
      have HB2 : Hid (Below wr.heap.size wr (wr.alloc (.cells #[.string (Ba ls[k].1), .string (Ba ls[k].2)] 31))) := (Below.refl _ _).alloc (Nat.le_refl _) _
      have HZ2 : Hid (Bx2 (wr.alloc (.cells #[.string (Ba ls[k].1), .string (Ba ls[k].2)] 31)) wr.heap.size (.string (Ba ls[k].1)) (.string (Ba ls[k].2)) 31) := bx2_new _ _ _ _
      by_cases hx : ls[k].1 = key
      · have HE : Hid (res = stV (some ls[k].2)) := by show _ = _; rw [HX.out, HA.out, state_hit hlt hx]
        rw [decide_eq_true hx] at hb
        clear hx HA HX
        generalize hs2 : ls[k].2 = s2 at *
        clear hs2
        generalize Ba ls[k].1 = y at *
        generalize Ba key = z at *
        have HB3 : Hid (Below w.heap.size w (wr.alloc (.cells #[.string y, .string (Ba s2)] 31))) := HB.out.trans (HB2.out.mono HB.out.size)
        have HZ3 : Hid (Bx2 (wr.alloc (.cells #[.string y, .string (Ba s2)] 31)) w.heap.size (.bool false) (.string ⟨#[]⟩) 65) := HZ.out.below HB2.out
        have z0 := HZ.out.c0
        have z1 := HZ.out.c1
        have f0 := HZ.out.free 0
        have f1 := HZ.out.free 1
        have hne : ¬ w.heap.size = wr.heap.size := by have := HZ.out.lt; omega
        have F0 := HZ3.out.free 0
        have F1 := HZ3.out.free 1
        have Z0 := HZ3.out.c0
        have Z1 := HZ3.out.c1
        go_wp2_with fail
        change bodyPost _ _ _ _ _ (put2 (wr.alloc (.cells #[.string y, .string (Ba s2)] 31)) w.heap.size (.bool true) (.string (Ba s2)))
        have e6 := put2_box HZ3.out (.bool true) (.string (Ba s2))
        have b6 := put2_below HB3.out (Nat.le_refl _) (.bool true) (.string (Ba s2))
        generalize put2 (wr.alloc (.cells #[.string y, .string (Ba s2)] 31)) w.heap.size (.bool true) (.string (Ba s2)) = W at *
        exact bodyPost_ret (v := .agg #[.bool true, .string (Ba s2)]) (by simp [results, Tryz.results50, go_sem, e6.c0, e6.c1]) rfl ⟨by rw [HE.out]; rfl, b6⟩
      · have HX : Hid (stateB (ls.drop k) key = stateB (ls.drop (k + 1)) key) := state_step hlt hx
        rw [decide_eq_false hx] at hb
        clear hx
        generalize Ba ls[k].1 = y at *
        generalize Ba ls[k].2 = y2 at *
        generalize Ba key = z at *
        go_wp2_with fail
        go_roundw
        case rel => exact ⟨k + 1, by omega, by go_num, HA.out.trans HX.out, HB.out.trans (HB2.out.mono HB.out.size), HZ.out.below HB2.out⟩
        case measure => simp [intOf]; omega
    · have HE : Hid (res = stV none) := by show _ = _; rw [HX.out, HA.out, state_end (by omega)]
      have c0 := HZ.out.c0
      have c1 := HZ.out.c1
      have f0 := HZ.out.free 0
      have f1 := HZ.out.free 1
      have e6 := put2_box HZ.out (.bool false) (.string ⟨#[]⟩)
      have b6 := put2_below HB.out (Nat.le_refl _) (.bool false) (.string ⟨#[]⟩)
      go_wp2_with fail
      change bodyPost _ _ _ _ _ (put2 wr w.heap.size (.bool false) (.string ⟨#[]⟩))
      generalize put2 wr w.heap.size (.bool false) (.string ⟨#[]⟩) = W at *
      exact bodyPost_ret (v := .agg #[.bool false, .string ⟨#[]⟩]) (by simp [results, Tryz.results50, go_sem, e6.c0, e6.c1]) rfl ⟨by rw [HE.out]; rfl, b6⟩
theorem box2_at {w w1 : World} {g : Nat} {a b : Value} {t : TypeId} (h : Bx2 w g a b t) (e : Below w.heap.size w w1) : w1.cell? ⟨g, 0, none⟩ = some a ∧ w1.cell? ⟨g, 1, none⟩ = some b := ⟨(h.below e).c0, (h.below e).c1⟩
theorem holdsB_1 {a : Bs} {vs : List Bs} {o : Option Bs} : holdsB (a, 1, vs) o = match o with | some v => decide (v ∈ vs) | none => false := rfl
theorem holdsB_2 {a : Bs} {vs : List Bs} {o : Option Bs} : holdsB (a, 2, vs) o = match o with | some v => !decide (v ∈ vs) | none => true := rfl
theorem holdsB_3 {a : Bs} {vs : List Bs} {o : Option Bs} : holdsB (a, 3, vs) o = o.isSome := rfl
theorem holdsB_4 {a : Bs} {k : Int} {vs : List Bs} {o : Option Bs} (h1 : ¬ k = 1) (h2 : ¬ k = 2) (h3 : ¬ k = 3) : holdsB (a, k, vs) o = !o.isSome := by
  unfold holdsB
  rw [if_neg h1, if_neg h2, if_neg h3]
set_option maxHeartbeats 2000000 in
theorem holds_of (r : Rq) (v : Value) (o : Option Bs) (w : World) (hv : Strs w v r.2.2) :
    Calls Tryz.prog 49 #[.agg #[.string (Ba r.1), .int .i64 r.2.1, v], stV o] w fun e w' => e = .returned (.bool (holdsB r o)) ∧ Below w.heap.size w w' := by
  obtain ⟨key, kd, vs⟩ := r
  obtain ⟨p, c, rfl, hn⟩ := hv.form
  have HC : Hid (∀ w1 s, Below w.heap.size w w1 → Calls Tryz.prog 74 #[.slice p vs.length c, .string (Ba s)] w1 fun e w' => e = .returned (.bool (decide (s ∈ vs))) ∧ w' = w1) := fun w1 s hb => contains_of _ vs s w1 (hv.below hb)
  clear hv
  unfold stV
  obtain ⟨s, hs⟩ : ∃ s, o.getD [] = s := ⟨_, rfl⟩
  rw [hs]
  have HB1 : Hid (Below w.heap.size w ((w.alloc (.cells #[.string (Ba key), .int .i64 kd, .slice p vs.length c] 35)).alloc (.cells #[.bool o.isSome, .string (Ba s)] 65))) :=
    ((Below.refl _ _).alloc (Nat.le_refl _) _).alloc (by simp) _
  by_cases h1 : kd = 1
  · subst h1
    cases o with
    | none =>
      subst hs
      go_enter Tryz.func49, Tryz.ntmps49
      go_wp2_with fail
      go_ret
      exact ⟨rfl, HB1.out⟩
    | some x =>
      have hx : x = s := hs
      subst hx
      have HX : Hid (holdsB (key, 1, vs) (some x) = decide (x ∈ vs)) := rfl
      clear hs
      generalize holdsB (key, 1, vs) (some x) = res at *
      have HQ := HC.out _ x HB1.out
      have HQ' : Hid (Calls Tryz.prog 74 #[.slice p vs.length c, .string (Ba x)] ((w.alloc (.cells #[.string (Ba key), .int .i64 1, .slice p vs.length c] 35)).alloc (.cells #[.bool (some x).isSome, .string (Ba x)] 65)) fun e w' => e = .returned (.bool (decide (x ∈ vs))) ∧ w' = ((w.alloc (.cells #[.string (Ba key), .int .i64 1, .slice p vs.length c] 35)).alloc (.cells #[.bool (some x).isSome, .string (Ba x)] 65))) := HQ
      clear HQ HC
      generalize decide (x ∈ vs) = d at *
      generalize Ba x = y at *
      go_enter Tryz.func49, Tryz.ntmps49
      go_wp2_with fail
      refine Calls.mono HQ'.out ?_
      rintro e w1 ⟨rfl, rfl⟩
      go_wp2_with fail
      go_ret
      exact ⟨by rw [HX.out]; rfl, HB1.out⟩
  by_cases h2 : kd = 2
  · subst h2
    cases o with
    | none =>
      subst hs
      go_enter Tryz.func49, Tryz.ntmps49
      go_wp2_with fail
      go_ret
      exact ⟨rfl, HB1.out⟩
    | some x =>
      have hx : x = s := hs
      subst hx
      have HX : Hid (holdsB (key, 2, vs) (some x) = !decide (x ∈ vs)) := rfl
      clear hs
      generalize holdsB (key, 2, vs) (some x) = res at *
      have HQ := HC.out _ x HB1.out
      have HQ' : Hid (Calls Tryz.prog 74 #[.slice p vs.length c, .string (Ba x)] ((w.alloc (.cells #[.string (Ba key), .int .i64 2, .slice p vs.length c] 35)).alloc (.cells #[.bool (some x).isSome, .string (Ba x)] 65)) fun e w' => e = .returned (.bool (decide (x ∈ vs))) ∧ w' = ((w.alloc (.cells #[.string (Ba key), .int .i64 2, .slice p vs.length c] 35)).alloc (.cells #[.bool (some x).isSome, .string (Ba x)] 65))) := HQ
      clear HQ HC
      generalize decide (x ∈ vs) = d at *
      generalize Ba x = y at *
      go_enter Tryz.func49, Tryz.ntmps49
      go_wp2_with fail
      refine Calls.mono HQ'.out ?_
      rintro e w1 ⟨rfl, rfl⟩
      go_wp2_with fail
      go_ret
      exact ⟨by rw [HX.out]; rfl, HB1.out⟩
  by_cases h3 : kd = 3
  · subst h3
    have HX : Hid (holdsB (key, 3, vs) o = o.isSome) := rfl
    generalize holdsB (key, 3, vs) o = res at *
    generalize o.isSome = b at *
    clear hs
    go_enter Tryz.func49, Tryz.ntmps49
    go_wp2_with fail
    go_ret
    exact ⟨by rw [HX.out]; rfl, HB1.out⟩
  have HX : Hid (holdsB (key, kd, vs) o = !o.isSome) := holdsB_4 h1 h2 h3
  generalize holdsB (key, kd, vs) o = res at *
  generalize o.isSome = b at *
  have e1 : (kd == 1) = false := by simpa using h1
  have e2 : (kd == 2) = false := by simpa using h2
  have e3 : (kd == 3) = false := by simpa using h3
  clear hs
  go_enter Tryz.func49, Tryz.ntmps49
  go_wp2_with fail
  go_ret
  exact ⟨by rw [HX.out]; rfl, HB1.out⟩
end Go.Proofs.YtgaopmdpcjcooaaGreatDoor
