/- Contracts over this translation: what is made of a value by what is done at the end of a way (putting). -/
import Derived.Test.YtaogilpkeeigoabGreatDoorPtrPut
namespace Go.Proofs.YtaogilpkeeigoabGreatDoor
open Go.RowKit
set_option linter.unusedVariables false
set_option linter.unusedSimpArgs false
/-- what the function that is handed down does -/
def EndOKP (c0 c1 : Nat) (en : (m : Nat) → J m → Except Nat (J m)) (w0 : World) : Prop :=
  ∀ (w : World), Below w0.heap.size w0 w → ∀ (m : Nat) (j : J m) (T : TypeId) (x : Value), 11 ≤ m → S0 w m j (.iface T x) → Rise m j → nodes m j ≤ 2000 →
    Calls Tryz.prog 43 #[.iface T x, .pointer (some ⟨c0, 0, none⟩), .pointer (some ⟨c1, 0, none⟩)] w (MadePost m (en m j) w)
theorem EndOKP.below {c0 c1 : Nat} {en : (m : Nat) → J m → Except Nat (J m)} {w0 w1 : World} (h : EndOKP c0 c1 en w0) (hb : Below w0.heap.size w0 w1) : EndOKP c0 c1 en w1 :=
  fun w hw => h w (hb.trans (hw.mono hb.size))
set_option maxRecDepth 100000 in
set_option maxHeartbeats 2000000 in
theorem changeP_nil (c0 c1 : Nat) (en : (m : Nat) → J m → Except Nat (J m)) (n : Nat) (j : J n) (T : TypeId) (x : Value) (q : Option Addr) (cap : Nat) (w : World) (hn : 11 ≤ n) (hSt : S0 w n j (.iface T x)) (hr : Rise n j) (hnd : nodes n j ≤ 2000) (he : EndOKP c0 c1 en w) :
    Calls Tryz.prog 35 #[.iface T x, .slice q 0 cap, .func (.func 43) #[] #[.pointer (some ⟨c0, 0, none⟩), .pointer (some ⟨c1, 0, none⟩)]] w (MadePost n (en n j) w) := by
  have HC : Hid (Calls Tryz.prog 43 #[.iface T x, .pointer (some ⟨c0, 0, none⟩), .pointer (some ⟨c1, 0, none⟩)] w (MadePost n (en n j) w)) := he w (Below.refl _ _) n j T x hn hSt hr hnd
  clear he hSt hr hnd
  generalize en n j = r at *
  go_enter Tryz.func35, Tryz.ntmps35
  go_wp2_with fail
  refine Calls.mono HC.out ?_
  rintro e w1 ⟨b1, h1⟩
  have HB : Hid (Below w.heap.size w w1) := b1
  clear b1
  rcases h1 with ⟨er, h1, h2, h3, rfl⟩ | ⟨j', T', x', h1, rfl, h2⟩
  · have HR : Hid (r = .error er) := h1
    clear h1
    go_wp2_with fail
    go_ret2
    exact ⟨HB.out, Or.inl ⟨er, HR.out, h2, h3, rfl⟩⟩
  · have HR : Hid (r = .ok j') := h1
    have HS : Hid (S0 w1 n j' (.iface T' x')) := h2
    clear h1 h2
    go_wp2_with fail
    go_ret2
    exact ⟨HB.out, Or.inr ⟨_, _, _, HR.out, rfl, HS.out⟩⟩
set_option maxRecDepth 100000 in
set_option maxHeartbeats 4000000 in
theorem changeP_ok (c0 c1 : Nat) (en : (m : Nat) → J m → Except Nat (J m)) : ∀ (L : List Bs) (n : Nat) (j : J n) (T : TypeId) (x : Value) (vl : Value) (w : World), 11 + L.length ≤ n → S0 w n j (.iface T x) → Rise n j → nodes n j ≤ 2000 → Strs w vl L → (∀ s ∈ L, s.length ≤ 8000000) → Env w → EndOKP c0 c1 en w →
    Calls Tryz.prog 35 #[.iface T x, vl, .func (.func 43) #[] #[.pointer (some ⟨c0, 0, none⟩), .pointer (some ⟨c1, 0, none⟩)]] w (MadePost n (changeP n j L en) w)
  | [], n, j, T, x, vl, w, hn, hSt, hr, hnd, hL, hsz, hE, he => by
    have hc : changeP n j [] en = en n j := by cases n <;> rfl
    rw [hc]
    have hq : ∃ q cap, vl = .slice q 0 cap := by
      rcases hL with ⟨_, q, c, h⟩ | ⟨g, o, cap, h, _⟩
      · exact ⟨q, c, h⟩
      · exact ⟨_, _, h⟩
    obtain ⟨q, cap, rfl⟩ := hq
    exact changeP_nil c0 c1 en n j T x q cap w (by simpa using hn) hSt hr hnd he
  | s :: L, 0, j, T, x, vl, w, hn, hSt, hr, hnd, hL, hsz, hE, he => by simp at hn
  | s :: L, n + 1, j, T, x, vl, w, hn, hSt, hr, hnd, hL, hsz, hE, he => by
    have IH := changeP_ok c0 c1 en L n
    have hq : ∃ g o cap, vl = .slice (some ⟨g, o, none⟩) (s :: L).length cap ∧ (s :: L).length ≤ cap ∧ cap ≤ maxLen ∧ g < w.heap.size ∧ w.cell? ⟨g, o, none⟩ = some (.string ⟨s.toArray⟩) := by
      rcases hL with ⟨h, _⟩ | ⟨g, o, cap, h, h1, h2, h3, h4⟩
      · cases h
      · exact ⟨g, o, cap, h, h1, h2, h3, by have := h4 0 s rfl; exact this⟩
    obtain ⟨g, o, cap, rfl, hlc, hcm, hg, hc0⟩ := hq
    obtain ⟨A, hA⟩ := named_if (cap = 1) ⟨g, o, none⟩ ⟨g, o + 1, none⟩
    have hLt := strs_tail hL hA
    have hzs : (⟨s.toArray⟩ : ByteArray).size ≤ 8000000 := by rw [size_of]; exact hsz s (by simp)
    have hsd : (⟨s.toArray⟩ : ByteArray).data.toList = s := by simp
    have hln : (s :: L).length = L.length + 1 := rfl
    have hL10 : L.length ≤ 10000 ∨ 10000 < L.length := by omega
    have HLead : Hid (Calls Tryz.prog 39 #[.iface T x, .string ⟨s.toArray⟩] w (LeadPost (fun _ => False) (childP j s) w)) := by
      have h := lead_any (fun _ => False) j (.iface T x) ⟨s.toArray⟩ w hSt hr hnd hzs hE
      rw [hsd] at h
      exact h
    have HIn : Hid (∀ w1 c T' x', Below w.heap.size w w1 → childP j s = some c → S0 w1 n c (.iface T' x') → Calls Tryz.prog 35 #[.iface T' x', .slice (some A) L.length (cap - 1), .func (.func 43) #[] #[.pointer (some ⟨c0, 0, none⟩), .pointer (some ⟨c1, 0, none⟩)]] w1 (MadePost n (changeP n c L en) w1)) := by
      intro w1 c T' x' hb hc hs1
      have hnc := nodes_child hr hc
      exact IH c T' x' _ w1 (by simp at hn; omega) hs1 (rise_child hr hc) (by omega) (hLt.below hb) (fun t ht => hsz t (by simp [ht])) (hE.below hb) (he.below hb)
    have HPut : Hid (∀ w1 (c : J n) T' x', Below w.heap.size w w1 → S0 w1 n c (.iface T' x') → Calls Tryz.prog 44 #[.iface T x, .string ⟨s.toArray⟩, .iface T' x'] w1 (MadePost (n + 1) (putAt j s c) w1)) := by
      intro w1 c T' x' hb hs1
      have h := put_any j c (.iface T x) ⟨s.toArray⟩ T' x' w1 (hSt.on hb) hr hnd hs1 hzs (hE.below hb)
      rw [hsd] at h
      exact h
    have HCell : Hid (∀ w1, Below w.heap.size w w1 → w1.cell? ⟨g, o, none⟩ = some (.string ⟨s.toArray⟩)) := fun w1 hb => by
      rw [hb.cell (p := ⟨g, o, none⟩) hg]
      exact hc0
    have HCh : Hid (changeP (n + 1) j (s :: L) en = match childP j s with
        | none => .error eNone
        | some c => match changeP n c L en with
          | .error y => .error y
          | .ok c' => putAt j s c') := rfl
    unfold maxLen at hcm
    rw [hln] at hlc ⊢
    clear IH hL hLt hSt hr hnd hsz hE he hsd hL10 hzs hln
    generalize changeP (n + 1) j (s :: L) en = res at *
    generalize (⟨s.toArray⟩ : ByteArray) = sb at *
    have hI1 : ¬ ((L.length : Int) + 1 = 0) := by omega
    have hlen1 : L.length ≤ 9223372036854775806 := by omega
    go_enter Tryz.func35, Tryz.ntmps35
    go_wp2_with fail
    refine Calls.mono HLead.out ?_
    rintro e w1 ⟨b1, h1⟩
    have HB1 : Hid (Below w.heap.size w w1) := b1
    clear b1
    rcases h1 with ⟨h1, rfl⟩ | ⟨c, T', x', h1, rfl, h2⟩
    · have HR : Hid (res = .error 7) := by have := HCh.out; rw [h1] at this; exact this
      clear h1
      go_wp2_with fail
      go_ret2
      exact ⟨HB1.out, Or.inl ⟨7, HR.out, by decide, by decide, rfl⟩⟩
    · have HCc : Hid (childP j s = some c) := h1
      have HS1 : Hid (S0 w1 n c (.iface T' x')) := h2
      clear h1 h2
      go_wp2_with fail
      refine Calls.mono (HIn.out w1 c T' x' HB1.out HCc.out HS1.out) ?_
      rintro e w2 ⟨b2, h2⟩
      have HB2 : Hid (Below w.heap.size w w2) := HB1.out.trans (b2.mono HB1.out.size)
      clear b2
      rcases h2 with ⟨er, h3, h4, h5, rfl⟩ | ⟨c', T2, x2, h3, rfl, h4⟩
      · have HR : Hid (res = .error er) := by
          have := HCh.out
          rw [HCc.out] at this
          simp only [h3] at this
          exact this
        have hbe : ((er : Int) != 0) = true := by rw [bne_iff_ne]; omega
        clear h3
        go_wp2_with fail
        go_ret2
        exact ⟨HB2.out, Or.inl ⟨er, HR.out, h4, h5, rfl⟩⟩
      · have HR : Hid (res = putAt j s c') := by
          have := HCh.out
          rw [HCc.out] at this
          simp only [h3] at this
          exact this
        have HS2 : Hid (S0 w2 n c' (.iface T2 x2)) := h4
        have hc2 := HCell.out w2 HB2.out
        clear h3 h4
        go_wp2_with fail
        refine Calls.mono (HPut.out w2 c' T2 x2 HB2.out HS2.out) ?_
        rintro e w3 ⟨b3, h3⟩
        have HB3 : Hid (Below w.heap.size w w3) := HB2.out.trans (b3.mono HB2.out.size)
        clear b3
        rcases h3 with ⟨er, h3, h4, h5, rfl⟩ | ⟨j', T3, x3, h3, rfl, h4⟩
        · have HR3 : Hid (res = .error er) := HR.out.trans h3
          clear h3
          go_wp2_with fail
          go_ret2
          exact ⟨HB3.out, Or.inl ⟨er, HR3.out, h4, h5, rfl⟩⟩
        · have HR3 : Hid (res = .ok j') := HR.out.trans h3
          have HS3 : Hid (S0 w3 (n + 1) j' (.iface T3 x3)) := h4
          clear h3 h4
          go_wp2_with fail
          go_ret2
          exact ⟨HB3.out, Or.inr ⟨_, _, _, HR3.out, rfl, HS3.out⟩⟩
end Go.Proofs.YtaogilpkeeigoabGreatDoor
