/- Contracts over this translation: strings.Clone, grants.ownTexts, own: rules in memory of one's own. -/
import Derived.Test.YtnjjlnhchfoigabDoorGrFlat
import Derived.Test.YtnjjlnhchfoigabDoorGrOwnN
import Derived.Test.YtnjjlnhchfoigabDoorShelf
import Derived.Test.YtnjjlnhchfoigabDoorRfOrd
import Derived.Deep.AppendLies
namespace Go.Proofs.YtnjjlnhchfoigabDoor
open Go.RowKit
set_option linter.unusedVariables false
set_option linter.unusedSimpArgs false
theorem clone_any (s : Bs) (w : World) (hs : s.length ≤ 281474976710656) : Calls Tryd.prog 34 #[.string (Ba s)] w fun e w' => e = .returned (.string (Ba s)) ∧ Below w.heap.size w w' := by
  have HC : Hid (Calls Tryd.prog 50 #[.string (Ba s)] w fun e w' => e = .returned (.string (Ba s)) ∧ Below w.heap.size w w') := Tryd.stringslite_Clone (Ba s) w (by rw [ba_size]; exact hs)
  generalize Ba s = y at *
  go_enter Tryd.func34, Tryd.ntmps34
  go_wp2_with fail
  refine Calls.mono HC.out ?_
  rintro e w1 ⟨rfl, b⟩
  have B1 : Hid (Below w.heap.size w w1) := b
  clear b
  go_wp2_with fail
  go_ret
  exact ⟨rfl, B1.out⟩
set_option maxRecDepth 100000 in
set_option maxHeartbeats 4000000 in
theorem ownTexts_any (v : Value) (gs : List Bs) (w : World) (hv : Strs w v gs) (h6 : gs.length ≤ 6) (hg : ∀ g ∈ gs, g.length ≤ 63) :
    Calls Tryd.prog 38 #[v] w fun e w' => ∃ g cap, e = .returned (.slice (some ⟨g, 0, none⟩) gs.length cap) ∧ OwnN w.heap.size w' (.slice (some ⟨g, 0, none⟩) gs.length cap) gs ∧ Below w.heap.size w w' := by
  obtain ⟨i0, hi, hz0, hz1, hz2⟩ := info_parts info_str
  obtain ⟨p, c, rfl, hln, hcell⟩ := hv.open
  have HCg : Hid (∀ k (hk : k < gs.length) w, Calls Tryd.prog 34 #[.string (Ba gs[k])] w fun e w' => e = .returned (.string (Ba gs[k])) ∧ Below w.heap.size w w') := fun k hk w => clone_any _ w (by have := hg _ (List.getElem_mem hk); omega)
  have HC : Hid (∀ k (hk : k < gs.length), ∃ g o, p = some ⟨g, o, none⟩ ∧ gs.length ≤ c ∧ ∀ w1, Below w.heap.size w w1 → w1.cell? ⟨g, o + k, none⟩ = some (.string (Ba gs[k]))) := hcell
  clear hcell hv hg hln
  go_enter Tryd.func38, Tryd.ntmps38
  go_wp2_with (refine wpList_make_own _ rfl _ _ 26 rfl (w.heap.size) 9 i0 (.string ⟨#[]⟩) 1 Tryd.underlying26 hi hz0 hz1 .i64 .i64 _ gs.length rfl rfl rfl (by rw [hz2]; omega) (by unfold maxLen; omega) (by simp) ?_)
  intro w1 hown0 hgr0
  have HB1 : Hid (Below w.heap.size w w1) := (Below.refl _ _).grown hgr0 (Nat.le_refl _) (fun k hk => by cases hk)
  have HO1 : Hid (w1.ownsRow w.heap.size 9 1 (.slice (some ⟨w.heap.size, 0, none⟩) 0 gs.length) 0 ((gs.take 0).map fun s => Value.string (Ba s))) := hown0
  clear hown0 hgr0
  go_wp2_with fail
  go_loopw [3, 11] (fun sv iv wr => ∃ (k g cap : Nat), k ≤ gs.length ∧ iv = .int .i64 k ∧ sv = .slice (some ⟨g, 0, none⟩) k cap ∧ wr.ownsRow w.heap.size 9 1 (.slice (some ⟨g, 0, none⟩) k cap) k ((gs.take k).map fun s => Value.string (Ba s)) ∧ Below w.heap.size w wr) (fun _ iv _ => gs.length - (intOf iv).toNat)
  case atStart => exact ⟨0, w.heap.size, gs.length, Nat.zero_le _, rfl, rfl, HO1.out, HB1.out⟩
  case round =>
    obtain ⟨k, g, cap, hk, rfl, rfl, hown, hbel⟩ := hrel
    have HO : Hid (wr.ownsRow w.heap.size 9 1 (.slice (some ⟨g, 0, none⟩) k cap) k ((gs.take k).map fun s => Value.string (Ba s))) := hown
    have HB : Hid (Below w.heap.size w wr) := hbel
    clear hown hbel HO1 HB1
    by_cases hlt : k < gs.length
    · obtain ⟨g', o', rfl, hlc, hc0⟩ := HC.out k hlt
      have hc1 := hc0 wr HB.out
      have HCk : Hid (∀ w, Calls Tryd.prog 34 #[.string (Ba gs[k])] w fun e w' => e = .returned (.string (Ba gs[k])) ∧ Below w.heap.size w w') := HCg.out k hlt
      have HTk : Hid (((gs.take (k + 1)).map fun s => Value.string (Ba s)) = ((gs.take k).map fun s => Value.string (Ba s)) ++ [.string (Ba gs[k])]) := take_map gs k hlt
      have hkI : (k : Int) < (gs.length : Int) := by omega
      clear hc0
      generalize Ba gs[k] = y at *
      generalize ((gs.take k).map fun s => Value.string (Ba s)) = xs at *
      generalize hx1 : ((gs.take (k + 1)).map fun s => Value.string (Ba s)) = xs1 at *
      go_wp2_with fail
      refine Calls.mono (HCk.out _) ?_
      rintro e w3 ⟨rfl, b⟩
      have HA : Hid ((w3.alloc (.cells #[.string y] 9)).ownsRow w.heap.size 9 1 (.slice (some ⟨g, 0, none⟩) k cap) k xs) := (own_belowG HO.out b).alloc _
      have HB3 : Hid (Below w.heap.size w (w3.alloc (.cells #[.string y] 9))) := by
        have h := HB.out.trans (b.mono HB.out.size)
        exact h.alloc h.size _
      clear b HO HB
      go_wp2_with (at_builtin; refine wpList_append_lies _ rfl _ _ 26 rfl w.heap.size 9 i0 (.string ⟨#[]⟩) 1 16 Tryd.underlying26 hi hz0 hz1 hz2 rfl (by decide) _ _ _ rfl (HA.out) ⟨w3.heap.size, 0, none⟩ 1 1 [.string y] rfl rfl ?g1 ?g2 (by decide) ?g3 ?g4 ?g5 _ rfl ?_)
      case g1 => exact World.news_of_block (heap_alloc_new w3 _)
      case g2 => intro u hu; rw [List.mem_singleton.1 hu]; rfl
      case g3 => unfold maxLen; omega
      case g4 => omega
      case g5 => exact HB3.out.size
      intro g3 cap3 w4 hown' hgrow hlies _
      have HO4 : Hid (w4.ownsRow w.heap.size 9 1 (.slice (some ⟨g3, 0, none⟩) (k + 1) cap3) (k + 1) xs1) := by
        show World.ownsRow _ _ _ _ _ _ _
        rw [HTk.out]
        exact hown'
      have HB4 : Hid (Below w.heap.size w w4) := HB3.out.grown hgrow HB3.out.size (fun b hb => (World.ownsRow.lt HA.out b hb).1)
      clear hown' hgrow hlies
      go_wp2_with fail
      go_roundw
      case rel => exact ⟨k + 1, g3, cap3, by omega, by go_num, rfl, by rw [hx1]; exact HO4.out, HB4.out⟩
      case measure => simp [intOf]; omega
    · have hke : k = gs.length := by omega
      have HN : Hid (OwnN w.heap.size wr (.slice (some ⟨g, 0, none⟩) k cap) gs) := by
        show World.ownsRow _ _ _ _ _ _ _
        have h := HO.out
        rw [hke, List.take_of_length_le (Nat.le_refl _)] at h
        rw [hke]
        exact h
      have hkI : ¬ ((k : Int) < (gs.length : Int)) := by omega
      have HK : Hid (k = gs.length) := hke
      clear hke HO
      go_wp2_with fail
      go_ret
      exact ⟨g, cap, by rw [← HK.out]; rfl, by have := HN.out; rw [HK.out] at this; exact this, HB.out⟩
/-- texts of one's own, beside a row of rules -/
def TxN (B : Nat) (w : World) (u v : Value) (l : List Bs) : Prop := OwnN B w v l ∧ ∃ g, v.ownBlock = some g ∧ u.ownBlock ≠ some g
theorem TxN.below {B : Nat} {w w' : World} {u v : Value} {l : List Bs} (h : TxN B w u v l) (g : Below w.heap.size w w') : TxN B w' u v l := ⟨h.1.below g, h.2⟩
def StO (B : Nat) (w : World) (u : Value) (L : List RV) : Prop := ∀ p ∈ L, TxN B w u p.2.1 p.1.1 ∧ TxN B w u p.2.2.1 p.1.2.1 ∧ TxN B w u p.2.2.2 p.1.2.2
theorem StO.below {B : Nat} {w w' : World} {u : Value} {L : List RV} (h : StO B w u L) (g : Below w.heap.size w w') : StO B w' u L := fun p hp =>
  ⟨(h p hp).1.below g, (h p hp).2.1.below g, (h p hp).2.2.below g⟩
theorem StO.stg {B : Nat} {w : World} {u : Value} {L : List RV} (h : StO B w u L) : StG w L := fun p hp =>
  ⟨(h p hp).1.1.strs, (h p hp).2.1.1.strs, (h p hp).2.2.1.strs⟩
theorem txN_on {B : Nat} {w w5 : World} {o : Obj} {u v : Value} {l : List Bs} {gg m c : Nat} (h : TxN B w u v l) (hg : (w.alloc o).grownBy w5 u.ownBlock) (hl : u.ownBlock = some gg ∨ gg = (w.alloc o).heap.size) :
    TxN B w5 (.slice (some ⟨gg, 0, none⟩) m c) v l := by
  obtain ⟨h1, g, h2, h3⟩ := h
  refine ⟨World.ownsRow.kept (World.ownsRow.alloc h1 o) hg (Or.inr (fun e => h3 (by rw [← e, h2]))), g, h2, fun e => ?_⟩
  have e' : gg = g := Option.some.inj e
  subst e'
  rcases hl with hl | hl
  · exact h3 hl
  · have := (World.ownsRow.lt h1 gg h2).2
    simp at hl
    omega
theorem txN_new {B n0 : Nat} {w w5 : World} {o : Obj} {u : Value} {l : List Bs} {gg m c g n d : Nat} (h : OwnN B w (.slice (some ⟨g, 0, none⟩) n d) l) (hU : ∀ b, u.ownBlock = some b → b < n0) (hG : n0 ≤ g ∧ g < w.heap.size)
    (hg : (w.alloc o).grownBy w5 u.ownBlock) (hl : u.ownBlock = some gg ∨ gg = (w.alloc o).heap.size) : TxN B w5 (.slice (some ⟨gg, 0, none⟩) m c) (.slice (some ⟨g, 0, none⟩) n d) l :=
  txN_on ⟨h, g, rfl, fun e => by have := hU g e; omega⟩ hg hl
theorem stO_snoc {B n0 : Nat} {w w5 : World} {o : Obj} {u : Value} {L : List RV} {r1 : Rl} {gg m c g1 g2 g3 n1 n2 n3 d1 d2 d3 : Nat} (hS : StO B w u L)
    (k1 : OwnN B w (.slice (some ⟨g1, 0, none⟩) n1 d1) r1.1) (k2 : OwnN B w (.slice (some ⟨g2, 0, none⟩) n2 d2) r1.2.1) (k3 : OwnN B w (.slice (some ⟨g3, 0, none⟩) n3 d3) r1.2.2)
    (hU : ∀ b, u.ownBlock = some b → b < n0) (q1 : n0 ≤ g1 ∧ g1 < w.heap.size) (q2 : n0 ≤ g2 ∧ g2 < w.heap.size) (q3 : n0 ≤ g3 ∧ g3 < w.heap.size)
    (hg : (w.alloc o).grownBy w5 u.ownBlock) (hl : u.ownBlock = some gg ∨ gg = (w.alloc o).heap.size) :
    StO B w5 (.slice (some ⟨gg, 0, none⟩) m c) (L ++ [(r1, Value.slice (some ⟨g1, 0, none⟩) n1 d1, Value.slice (some ⟨g2, 0, none⟩) n2 d2, Value.slice (some ⟨g3, 0, none⟩) n3 d3)]) := fun p hp => by
  rcases List.mem_append.1 hp with hp | hp
  · exact ⟨txN_on (hS p hp).1 hg hl, txN_on (hS p hp).2.1 hg hl, txN_on (hS p hp).2.2 hg hl⟩
  · simp only [List.mem_singleton] at hp
    subst hp
    exact ⟨txN_new k1 hU q1 hg hl, txN_new k2 hU q2 hg hl, txN_new k3 hU q3 hg hl⟩
theorem new3G {w : World} {b : Nat} {x y z : Value} {t : TypeId} (hb : b = w.heap.size) : ∀ (j : Nat) (u : Value), [x, y, z][j]? = some u → (w.alloc (.cells #[x, y, z] t)).cell? ((⟨b, 0, none⟩ : Addr).add j) = some u := by
  subst hb
  intro j u hj
  match j, hj with
  | 0, hj => simp at hj; subst hj; simp [Addr.add]
  | 1, hj => simp at hj; subst hj; simp [Addr.add]
  | 2, hj => simp at hj; subst hj; simp [Addr.add]
theorem one3G {a b c : Option Addr} {n1 n2 n3 c1 c2 c3 : Nat} : ∀ u ∈ [Value.slice a n1 c1, .slice b n2 c2, .slice c n3 c3], u.oneCell' = true := by
  intro u hu
  simp only [List.mem_cons, List.not_mem_nil, or_false] at hu
  rcases hu with rfl | rfl | rfl <;> rfl
/-- rules that are short enough to be told -/
def Small (r : Rl) : Prop := (r.1.length ≤ 6 ∧ ∀ s ∈ r.1, s.length ≤ 63) ∧ (r.2.1.length ≤ 6 ∧ ∀ s ∈ r.2.1, s.length ≤ 63) ∧ r.2.2.length ≤ 6 ∧ ∀ s ∈ r.2.2, s.length ≤ 63
set_option maxRecDepth 100000 in
set_option maxHeartbeats 16000000 in
theorem own_any (v : Value) (l : List Rl) (w : World) (hv : Rls w v l) (hl96 : l.length ≤ 96) (hsm : ∀ r ∈ l, Small r) :
    Calls Tryd.prog 17 #[v] w fun e w' => ∃ (y : Value) (L : List RV), e = .returned y ∧ L.map (·.1) = l ∧ w'.ownsRow w.heap.size 40 3 y L.length (flatG L) ∧ StO w.heap.size w' y L ∧ Below w.heap.size w w' := by
  obtain ⟨i0, hi, hz0, hz1, hz2⟩ := info_parts info_rule
  obtain ⟨p, c, rfl, hn, hcell⟩ := Sq.open rlAt_stays hv
  have HC : Hid (∀ k (hk : k < l.length), ∃ g o, p = some ⟨g, o, none⟩ ∧ l.length ≤ c ∧ ∀ w1, Below w.heap.size w w1 → ∃ p1 c1 p2 c2 p3 c3, w1.cell? ⟨g, o + k * 3, none⟩ = some (.slice p1 l[k].1.length c1) ∧ w1.cell? ⟨g, o + k * 3 + 1, none⟩ = some (.slice p2 l[k].2.1.length c2) ∧ w1.cell? ⟨g, o + k * 3 + 2, none⟩ = some (.slice p3 l[k].2.2.length c3) ∧ Strs w1 (.slice p1 l[k].1.length c1) l[k].1 ∧ Strs w1 (.slice p2 l[k].2.1.length c2) l[k].2.1 ∧ Strs w1 (.slice p3 l[k].2.2.length c3) l[k].2.2) := fun k hk => by
    obtain ⟨g, o, h1, h2, h3, h4⟩ := hcell k hk
    refine ⟨g, o, h1, h2, fun w1 hb => ?_⟩
    obtain ⟨a, b, d, k1, k2, k3, s1, s2, s3⟩ := h4 w1 hb
    obtain ⟨p1, c1, rfl, _⟩ := s1.form
    obtain ⟨p2, c2, rfl, _⟩ := s2.form
    obtain ⟨p3, c3, rfl, _⟩ := s3.form
    exact ⟨p1, c1, p2, c2, p3, c3, k1, k2, k3, s1, s2, s3⟩
  have HSm : Hid (∀ k (hk : k < l.length), Small l[k]) := fun k hk => hsm _ (List.getElem_mem hk)
  clear hcell hv hsm hn
  go_enter Tryd.func17, Tryd.ntmps17
  go_wp2_with (refine wpList_make_own _ rfl _ _ 29 rfl (w.heap.size) 40 i0 (.agg #[.slice none 0 0, .slice none 0 0, .slice none 0 0]) 3 Tryd.underlying29 hi hz0 hz1 .i64 .i64 _ l.length rfl rfl rfl (by rw [hz2]; omega) (by unfold maxLen; omega) (by simp) ?_)
  intro w1 hown0 hgr0
  have HB1 : Hid (Below w.heap.size w w1) := (Below.refl _ _).grown hgr0 (Nat.le_refl _) (fun k hk => by cases hk)
  have HO1 : Hid (w1.ownsRow w.heap.size 40 3 (.slice (some ⟨w.heap.size, 0, none⟩) 0 l.length) ([] : List RV).length (flatG [])) := hown0
  clear hown0 hgr0
  go_wp2_with fail
  go_loopw [3, 11] (fun sv iv wr => ∃ (k : Nat) (L : List RV), k ≤ l.length ∧ iv = .int .i64 k ∧ L.map (·.1) = l.take k ∧ L.length = k ∧ wr.ownsRow w.heap.size 40 3 sv L.length (flatG L) ∧ StO w.heap.size wr sv L ∧ Below w.heap.size w wr) (fun _ iv _ => l.length - (intOf iv).toNat)
  case atStart => exact ⟨0, [], Nat.zero_le _, rfl, rfl, rfl, HO1.out, fun p hp => by simp at hp, HB1.out⟩
  case round =>
    obtain ⟨k, L, hk, rfl, hmap, hlk, hown, hst, hbel⟩ := hrel
    have HM : Hid (L.map (·.1) = l.take k) := hmap
    have HLk : Hid (L.length = k) := hlk
    have HO : Hid (wr.ownsRow w.heap.size 40 3 u3 L.length (flatG L)) := hown
    have HSt : Hid (StO w.heap.size wr u3 L) := hst
    have HB : Hid (Below w.heap.size w wr) := hbel
    clear hmap hlk hown hst hbel HO1 HB1
    by_cases hlt : k < l.length
    · obtain ⟨g, o, rfl, hlc, hc0⟩ := HC.out k hlt
      obtain ⟨p1, c1, p2, c2, p3, c3, e1, e2, e3, s1, s2, s3⟩ := hc0 wr HB.out
      have hsk := HSm.out k hlt
      have HTake : Hid (l.take (k + 1) = l.take k ++ [l[k]]) := List.take_succ_eq_append_getElem hlt
      have hkI : (k : Int) < (l.length : Int) := by omega
      generalize l[k] = r1 at *
      obtain ⟨⟨m1, m1'⟩, ⟨m2, m2'⟩, m3, m3'⟩ := hsk
      have HBx : Hid (∀ w1, Below (wr.alloc (.cells #[.slice p1 r1.1.length c1, .slice p2 r1.2.1.length c2, .slice p3 r1.2.2.length c3] 40)).heap.size (wr.alloc (.cells #[.slice p1 r1.1.length c1, .slice p2 r1.2.1.length c2, .slice p3 r1.2.2.length c3] 40)) w1 → w1.cell? ⟨wr.heap.size, 0, none⟩ = some (.slice p1 r1.1.length c1) ∧ w1.cell? ⟨wr.heap.size, 1, none⟩ = some (.slice p2 r1.2.1.length c2) ∧ w1.cell? ⟨wr.heap.size, 2, none⟩ = some (.slice p3 r1.2.2.length c3)) := fun w1 h => bx3 h
      obtain ⟨wn, hwn⟩ : ∃ wn, wn = wr.alloc (.cells #[.slice p1 r1.1.length c1, .slice p2 r1.2.1.length c2, .slice p3 r1.2.2.length c3] 40) := ⟨_, rfl⟩
      have hBn : Below wr.heap.size wr wn := by rw [hwn]; exact (Below.refl _ _).alloc (Nat.le_refl _) _
      have HBn : Hid (Below wr.heap.size wr wn) := hBn
      have HWn : Hid (wn = wr.alloc (.cells #[.slice p1 r1.1.length c1, .slice p2 r1.2.1.length c2, .slice p3 r1.2.2.length c3] 40)) := hwn
      rw [← hwn] at HBx
      have HT1 : Hid (∀ w1, Below wn.heap.size wn w1 → Calls Tryd.prog 38 #[.slice p1 r1.1.length c1] w1 fun e w' => ∃ g d, e = .returned (.slice (some ⟨g, 0, none⟩) r1.1.length d) ∧ OwnN w1.heap.size w' (.slice (some ⟨g, 0, none⟩) r1.1.length d) r1.1 ∧ Below w1.heap.size w1 w') := fun w1 hb => ownTexts_any _ r1.1 w1 (s1.below (hBn.trans (hb.mono hBn.size))) m1 m1'
      have HT2 : Hid (∀ w1, Below wn.heap.size wn w1 → Calls Tryd.prog 38 #[.slice p2 r1.2.1.length c2] w1 fun e w' => ∃ g d, e = .returned (.slice (some ⟨g, 0, none⟩) r1.2.1.length d) ∧ OwnN w1.heap.size w' (.slice (some ⟨g, 0, none⟩) r1.2.1.length d) r1.2.1 ∧ Below w1.heap.size w1 w') := fun w1 hb => ownTexts_any _ r1.2.1 w1 (s2.below (hBn.trans (hb.mono hBn.size))) m2 m2'
      have HT3 : Hid (∀ w1, Below wn.heap.size wn w1 → Calls Tryd.prog 38 #[.slice p3 r1.2.2.length c3] w1 fun e w' => ∃ g d, e = .returned (.slice (some ⟨g, 0, none⟩) r1.2.2.length d) ∧ OwnN w1.heap.size w' (.slice (some ⟨g, 0, none⟩) r1.2.2.length d) r1.2.2 ∧ Below w1.heap.size w1 w') := fun w1 hb => ownTexts_any _ r1.2.2 w1 (s3.below (hBn.trans (hb.mono hBn.size))) m3 m3'
      have HDs : Hid (wn.drew.heap.size = wn.heap.size) := rfl
      have HLow : Hid (wr.heap.size ≤ wn.heap.size) := hBn.size
      have HLw : Hid (w.heap.size ≤ wr.heap.size) := HB.out.size
      have HUlt : Hid (∀ b, u3.ownBlock = some b → b < wr.heap.size) := fun b hb => (World.ownsRow.lt HO.out b hb).2
      clear hc0 s1 s2 s3 m1 m1' m2 m2' m3 m3' hwn hBn
      generalize r1.1.length = n1 at *
      generalize r1.2.1.length = n2 at *
      generalize r1.2.2.length = n3 at *
      go_wp2_with fail
      rw [← HWn.out]
      refine M_begin 12 14 (fun w' => Below wn.heap.size wn w') (by kernel_rfl) rfl ?_
      have hHeld : (fun w' => Below wn.heap.size wn w') wn.drew := (Below.refl _ _).drew
      refine M_take 0 (oi := { dst := some 15, op := Op.move (Operand.tmp 3), type := 29, pos := "held.go:65", after := #[], guard := none }) (v := ?vt1) rfl (by kernel_rfl) (by kernel_rfl) (by kernel_rfl) (by kernel_rfl) (by kernel_rfl) (by decide) (by decide) (by kernel_rfl) (fun _ _ _ h => h) hHeld ?hy1 ?_
      case hy1 => exact (Or.inl ⟨by rfl, by (intro w' hSw; go_simp; try (with_reducible rfl))⟩)
      try simp only [Act.put, List.setIfInBounds_toArray, List.set_cons_zero, List.set_cons_succ]
      refine M_take 1 (oi := { dst := some 16, op := Op.fieldAddr 40 (Operand.tmp 5) 0, type := 0, pos := "held.go:65", after := #[], guard := none }) (v := ?vt2) rfl (by kernel_rfl) (by kernel_rfl) (by kernel_rfl) (by kernel_rfl) (by kernel_rfl) (by decide) (by decide) (by kernel_rfl) (fun _ _ _ h => h) hHeld ?hy2 ?_
      case hy2 => exact (Or.inl ⟨by rfl, by (intro w' hSw; go_simp; try (with_reducible rfl))⟩)
      try simp only [Act.put, List.setIfInBounds_toArray, List.set_cons_zero, List.set_cons_succ]
      refine M_take 2 (oi := { dst := some 17, op := Op.load 26 (Operand.tmp 16), type := 26, pos := "held.go:65", after := #[{ on := 1, ground := Ground.data }], guard := none }) (v := .slice p1 n1 c1) rfl (by kernel_rfl) (by kernel_rfl) (by kernel_rfl) (by kernel_rfl) (by kernel_rfl) (by decide) (by decide) (by kernel_rfl) (fun _ _ _ h => h) hHeld ?hy3 ?_
      case hy3 => exact (Or.inl ⟨by rfl, by (intro w' hSw; have hcell := (HBx.out w' hSw).1; go_simp; try (with_reducible rfl))⟩)
      try simp only [Act.put, List.setIfInBounds_toArray, List.set_cons_zero, List.set_cons_succ]
      refine M_take 4 (oi := { dst := some 19, op := Op.fieldAddr 40 (Operand.tmp 5) 1, type := 0, pos := "held.go:65", after := #[], guard := none }) (v := ?vt4) rfl (by kernel_rfl) (by kernel_rfl) (by kernel_rfl) (by kernel_rfl) (by kernel_rfl) (by decide) (by decide) (by kernel_rfl) (fun _ _ _ h => h) hHeld ?hy4 ?_
      case hy4 => exact (Or.inl ⟨by rfl, by (intro w' hSw; go_simp; try (with_reducible rfl))⟩)
      try simp only [Act.put, List.setIfInBounds_toArray, List.set_cons_zero, List.set_cons_succ]
      refine M_take 5 (oi := { dst := some 20, op := Op.load 26 (Operand.tmp 19), type := 26, pos := "held.go:65", after := #[{ on := 4, ground := Ground.data }], guard := none }) (v := .slice p2 n2 c2) rfl (by kernel_rfl) (by kernel_rfl) (by kernel_rfl) (by kernel_rfl) (by kernel_rfl) (by decide) (by decide) (by kernel_rfl) (fun _ _ _ h => h) hHeld ?hy5 ?_
      case hy5 => exact (Or.inl ⟨by rfl, by (intro w' hSw; have hcell := (HBx.out w' hSw).2.1; go_simp; try (with_reducible rfl))⟩)
      try simp only [Act.put, List.setIfInBounds_toArray, List.set_cons_zero, List.set_cons_succ]
      refine M_take 7 (oi := { dst := some 22, op := Op.fieldAddr 40 (Operand.tmp 5) 2, type := 0, pos := "held.go:65", after := #[], guard := none }) (v := ?vt6) rfl (by kernel_rfl) (by kernel_rfl) (by kernel_rfl) (by kernel_rfl) (by kernel_rfl) (by decide) (by decide) (by kernel_rfl) (fun _ _ _ h => h) hHeld ?hy6 ?_
      case hy6 => exact (Or.inl ⟨by rfl, by (intro w' hSw; go_simp; try (with_reducible rfl))⟩)
      try simp only [Act.put, List.setIfInBounds_toArray, List.set_cons_zero, List.set_cons_succ]
      refine M_take 8 (oi := { dst := some 23, op := Op.load 26 (Operand.tmp 22), type := 26, pos := "held.go:65", after := #[{ on := 7, ground := Ground.data }], guard := none }) (v := .slice p3 n3 c3) rfl (by kernel_rfl) (by kernel_rfl) (by kernel_rfl) (by kernel_rfl) (by kernel_rfl) (by decide) (by decide) (by kernel_rfl) (fun _ _ _ h => h) hHeld ?hy7 ?_
      case hy7 => exact (Or.inl ⟨by rfl, by (intro w' hSw; have hcell := (HBx.out w' hSw).2.2; go_simp; try (with_reducible rfl))⟩)
      try simp only [Act.put, List.setIfInBounds_toArray, List.set_cons_zero, List.set_cons_succ]
      refine M_ready [3] (by kernel_rfl) (by decide) ?_
      refine AllM.cons (i := 3) (o := { dst := some 18, op := Op.call { callee := Callee.value (Operand.func 38), args := #[Operand.tmp 17], argTypes := #[26] }, type := 26, pos := "held.go:65", after := #[{ on := 2, ground := Ground.data }], guard := none }) rfl (fun K hK => ?_) ?_
      · rw [if_pos (by rfl)]
        go_wp2_with fail
        refine Calls.mono (HT1.out _ hHeld) ?_
        rintro e w1 ⟨g1, d1, rfl, hO1, hb1⟩
        dsimp only
        refine hK.out _ _ (hHeld.trans (hb1.mono hHeld.size)) (fun hHeld2 => ?_)
        clear hK K hHeld
        have hHeld := hHeld2
        clear hHeld2
        try simp only [Act.put, List.setIfInBounds_toArray, List.set_cons_zero, List.set_cons_succ]
        refine M_ready [6] (by kernel_rfl) (by decide) ?_
        refine AllM.cons (i := 6) (o := { dst := some 21, op := Op.call { callee := Callee.value (Operand.func 38), args := #[Operand.tmp 20], argTypes := #[26] }, type := 26, pos := "held.go:65", after := #[{ on := 5, ground := Ground.data }, { on := 3, ground := Ground.chain }], guard := none }) rfl (fun K hK => ?_) ?_
        · rw [if_pos (by rfl)]
          go_wp2_with fail
          refine Calls.mono (HT2.out _ hHeld) ?_
          rintro e w2 ⟨g2, d2, rfl, hO2, hb2⟩
          dsimp only
          refine hK.out _ _ (hHeld.trans (hb2.mono hHeld.size)) (fun hHeld2 => ?_)
          clear hK K hHeld
          have hHeld := hHeld2
          clear hHeld2
          try simp only [Act.put, List.setIfInBounds_toArray, List.set_cons_zero, List.set_cons_succ]
          refine M_ready [9] (by kernel_rfl) (by decide) ?_
          refine AllM.cons (i := 9) (o := { dst := some 24, op := Op.call { callee := Callee.value (Operand.func 38), args := #[Operand.tmp 23], argTypes := #[26] }, type := 26, pos := "held.go:65", after := #[{ on := 8, ground := Ground.data }, { on := 6, ground := Ground.chain }], guard := none }) rfl (fun K hK => ?_) ?_
          · rw [if_pos (by rfl)]
            go_wp2_with fail
            refine Calls.mono (HT3.out _ hHeld) ?_
            rintro e w3 ⟨g3, d3, rfl, hO3, hb3⟩
            dsimp only
            refine hK.out _ _ (hHeld.trans (hb3.mono hHeld.size)) (fun hHeld2 => ?_)
            clear hK K hHeld
            have hHeld := hHeld2
            clear hHeld2
            try simp only [Act.put, List.setIfInBounds_toArray, List.set_cons_zero, List.set_cons_succ]
            have HK1 : Hid (OwnN w.heap.size w3 (.slice (some ⟨g1, 0, none⟩) n1 d1) r1.1) := ((hO1.below hb2).below hb3).low (by  have := HDs.out; have := HLow.out; have := HLw.out; omega)
            have HG1 : Hid (wr.heap.size ≤ g1 ∧ g1 < w3.heap.size) := ⟨by  have := HDs.out; have := HLow.out; have := HLw.out; have := (owns_some hO1).1; omega, by have := hb2.size; have := hb3.size; have := (owns_some hO1).2; omega⟩
            have HK2 : Hid (OwnN w.heap.size w3 (.slice (some ⟨g2, 0, none⟩) n2 d2) r1.2.1) := (hO2.below hb3).low (by have := hb1.size; have := HDs.out; have := HLow.out; have := HLw.out; omega)
            have HG2 : Hid (wr.heap.size ≤ g2 ∧ g2 < w3.heap.size) := ⟨by have := hb1.size; have := HDs.out; have := HLow.out; have := HLw.out; have := (owns_some hO2).1; omega, by have := hb3.size; have := (owns_some hO2).2; omega⟩
            have HK3 : Hid (OwnN w.heap.size w3 (.slice (some ⟨g3, 0, none⟩) n3 d3) r1.2.2) := hO3.low (by have := hb1.size; have := hb2.size; have := HDs.out; have := HLow.out; have := HLw.out; omega)
            have HG3 : Hid (wr.heap.size ≤ g3 ∧ g3 < w3.heap.size) := ⟨by have := hb1.size; have := hb2.size; have := HDs.out; have := HLow.out; have := HLw.out; have := (owns_some hO3).1; omega, by  have := (owns_some hO3).2; omega⟩
            have HBe : Hid (Below wn.heap.size wn w3) := hHeld
            clear hO1 hb1 hO2 hb2 hO3 hb3
            refine M_take 10 (oi := { dst := some 25, op := Op.build 40 #[(0, Operand.tmp 18), (1, Operand.tmp 21), (2, Operand.tmp 24)], type := 40, pos := "held.go:65", after := #[{ on := 3, ground := Ground.data }, { on := 6, ground := Ground.data }, { on := 9, ground := Ground.data }], guard := none }) (v := ?vt8) rfl (by kernel_rfl) (by kernel_rfl) (by kernel_rfl) (by kernel_rfl) (by kernel_rfl) (by decide) (by decide) (by kernel_rfl) (fun _ _ _ h => h) hHeld ?hy8 ?_
            case hy8 => exact (Or.inl ⟨by rfl, by (intro w' hSw; go_simp; try (with_reducible rfl))⟩)
            try simp only [Act.put, List.setIfInBounds_toArray, List.set_cons_zero, List.set_cons_succ]
            refine M_ready [11] (by kernel_rfl) (by decide) ?_
            refine AllM.cons (i := 11) (o := { dst := some 26, op := Op.buildSlice 29 1 #[(0, Operand.tmp 25)], type := 29, pos := "held.go:65", after := #[{ on := 10, ground := Ground.data }], guard := none }) rfl (fun K hK => ?_) AllM.nil
            go_simp
            refine hK.out _ _ (hHeld.alloc hHeld.size _) (fun hHeld2 => ?_)
            clear hK K hHeld hHeld2
            try simp only [Act.put, List.setIfInBounds_toArray, List.set_cons_zero, List.set_cons_succ]
            refine M_tail [{ dst := some 27, op := Op.call { callee := Callee.builtin Builtin.append, args := #[Operand.tmp 15, Operand.tmp 26], argTypes := #[29, 29] }, type := 29, pos := "held.go:65", after := #[{ on := 0, ground := Ground.data }, { on := 11, ground := Ground.data }, { on := 9, ground := Ground.chain }], guard := none }, { dst := some 3, op := Op.assign (Operand.tmp 27), type := 29, pos := "held.go:65", after := #[{ on := 12, ground := Ground.data }, { on := 12, ground := Ground.chain }, { on := 0, ground := Ground.phase }, { on := 1, ground := Ground.phase }, { on := 2, ground := Ground.phase }, { on := 3, ground := Ground.phase }, { on := 4, ground := Ground.phase }, { on := 5, ground := Ground.phase }, { on := 6, ground := Ground.phase }, { on := 7, ground := Ground.phase }, { on := 8, ground := Ground.phase }, { on := 9, ground := Ground.phase }, { on := 10, ground := Ground.phase }, { on := 11, ground := Ground.phase }, { on := 12, ground := Ground.phase }], guard := none }] rfl (by kernel_rfl) (by kernel_rfl) ?_
            have HO2 : Hid (w3.ownsRow w.heap.size 40 3 u3 L.length (flatG L)) := own_belowG HO.out (HBn.out.trans (HBe.out.mono HBn.out.size))
            have HS2 : Hid (StO w.heap.size w3 u3 L) := HSt.out.below (HBn.out.trans (HBe.out.mono HBn.out.size))
            have HBW : Hid (Below w.heap.size w w3) := HB.out.trans ((HBn.out.trans (HBe.out.mono HBn.out.size)).mono HB.out.size)
            have hszW : w.heap.size ≤ w3.heap.size := HBW.out.size
            have HSzW : Hid (w.heap.size ≤ w3.heap.size) := hszW
            have hal : (w3.alloc (.cells #[.slice (some ⟨g1, 0, none⟩) n1 d1, .slice (some ⟨g2, 0, none⟩) n2 d2, .slice (some ⟨g3, 0, none⟩) n3 d3] 40)).heap.size = w3.heap.size + 1 := by simp
            have HAl : Hid ((w3.alloc (.cells #[.slice (some ⟨g1, 0, none⟩) n1 d1, .slice (some ⟨g2, 0, none⟩) n2 d2, .slice (some ⟨g3, 0, none⟩) n3 d3] 40)).heap.size = w3.heap.size + 1) := hal
            generalize hLl : L.length = ll at *
            have hll : ll ≤ 96 := by have := HLk.out; omega
            go_wp2_with (at_builtin; refine wpList_append_lies _ rfl _ _ 29 rfl w.heap.size 40 i0 (.agg #[.slice none 0 0, .slice none 0 0, .slice none 0 0]) 3 72 Tryd.underlying29 hi hz0 hz1 hz2 rfl (by decide) _ _ _ rfl (HO2.out.alloc _) ⟨w3.heap.size, 0, none⟩ 1 1 [.slice (some ⟨g1, 0, none⟩) n1 d1, .slice (some ⟨g2, 0, none⟩) n2 d2, .slice (some ⟨g3, 0, none⟩) n3 d3] rfl rfl (new3G rfl) one3G (by decide) (by unfold maxLen; omega) (by omega) (by rw [HAl.out]; have := HSzW.out; omega) _ rfl ?_)
            intro gg capg w5 hown' hgrow hlies hgl
            have HO3 : Hid (w5.ownsRow w.heap.size 40 3 (.slice (some ⟨gg, 0, none⟩) (ll + 1) capg) (L ++ [(r1, Value.slice (some ⟨g1, 0, none⟩) n1 d1, Value.slice (some ⟨g2, 0, none⟩) n2 d2, Value.slice (some ⟨g3, 0, none⟩) n3 d3)]).length (flatG (L ++ [(r1, Value.slice (some ⟨g1, 0, none⟩) n1 d1, Value.slice (some ⟨g2, 0, none⟩) n2 d2, Value.slice (some ⟨g3, 0, none⟩) n3 d3)]))) := by
              show World.ownsRow _ _ _ _ _ _ _
              rw [flatG_append, List.length_append, hLl]
              exact hown'
            have HB5 : Hid (Below w.heap.size w w5) := (HBW.out.alloc HBW.out.size _).grown hgrow (by rw [HAl.out]; have := HSzW.out; omega) (fun b hb => (World.ownsRow.lt HO2.out b hb).1)
            have HS5 : Hid (StO w.heap.size w5 (.slice (some ⟨gg, 0, none⟩) (ll + 1) capg) (L ++ [(r1, Value.slice (some ⟨g1, 0, none⟩) n1 d1, Value.slice (some ⟨g2, 0, none⟩) n2 d2, Value.slice (some ⟨g3, 0, none⟩) n3 d3)])) :=
              stO_snoc HS2.out HK1.out HK2.out HK3.out HUlt.out HG1.out HG2.out HG3.out hgrow (hlies.imp id (fun h => h.trans HAl.out.symm))
            have HM5 : Hid ((L ++ [(r1, Value.slice (some ⟨g1, 0, none⟩) n1 d1, Value.slice (some ⟨g2, 0, none⟩) n2 d2, Value.slice (some ⟨g3, 0, none⟩) n3 d3)]).map (·.1) = l.take (k + 1)) := by
              show _ = _
              rw [List.map_append, HM.out, HTake.out]
              rfl
            have HL5 : Hid ((L ++ [(r1, Value.slice (some ⟨g1, 0, none⟩) n1 d1, Value.slice (some ⟨g2, 0, none⟩) n2 d2, Value.slice (some ⟨g3, 0, none⟩) n3 d3)]).length = k + 1) := by
              show _ = _
              rw [List.length_append, hLl, HLk.out]
              rfl
            clear hown' hgrow hlies hgl
            go_wp2_with fail
            go_roundw
            case rel => exact ⟨k + 1, _, by omega, by go_num, HM5.out, HL5.out, HO3.out, HS5.out, HB5.out⟩
            case measure => simp [intOf]; omega
          exact AllM.nil
        exact AllM.nil
      exact AllM.nil
    · have hke : k = l.length := by omega
      have HN : Hid (L.map (·.1) = l) := by
        show _ = _
        rw [HM.out, hke, List.take_of_length_le (Nat.le_refl _)]
      have hkI : ¬ ((k : Int) < (l.length : Int)) := by omega
      clear hke
      go_wp2_with fail
      go_ret
      refine ⟨u3, ?_⟩
      first
        | exact ⟨L, rfl, HN.out, HO.out, HSt.out, HB.out⟩
        | exact ⟨rfl, L, HN.out, HO.out, HSt.out, HB.out⟩
        | exact ⟨rfl, ⟨L, HN.out, HO.out, HSt.out⟩, HB.out⟩
end Go.Proofs.YtnjjlnhchfoigabDoor
