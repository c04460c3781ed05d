/- The law JsonWraps over this translation: it answers true at every text, and leaves old memory alone. -/
import Derived.Test.YtaogilpkeeigoaaDoorApartWalk
import Derived.Test.YtaogilpkeeigoaaDoorSizeAny
namespace Go.Proofs.YtaogilpkeeigoaaDoor
open Go.RowKit
set_option linter.unusedVariables false
set_option linter.unusedSimpArgs false
theorem ba_of {a : ByteArray} {x : Bs} (h : a.data.toList = x) : (⟨x.toArray⟩ : ByteArray) = a := by
  subst h
  cases a
  simp
theorem wrap_bytes {t : ByteArray} {x : Bs} (h : t.data.toList = x) : (({ data := #[91] } : ByteArray) ++ t ++ { data := #[93] }).data.toList = wrapB x := by
  simp [wrapB, ByteArray.data_append, h]
set_option maxRecDepth 100000 in
set_option maxHeartbeats 4000000 in
theorem wraps_walk (a : ByteArray) (w : World) (ha : a.size ≤ maxLen) (hT : Tab w.heap.size w) :
    Calls Tryd.prog 4 #[.string a] w fun e w' => e = .returned (.bool true) ∧ Below w.heap.size w w' := by
  cases har : read a.data.toList with
  | error ea =>
    have HA : Hid (∀ w1, Below w.heap.size w w1 → Calls Tryd.prog 9 #[.string a] w1 fun e w' => e = .returned (.tuple #[.string ByteArray.empty, .bool false]) ∧ Below w1.heap.size w1 w') := by
      intro w1 hbw
      have h := keepCanon_any a w1 ha ((hT.below hbw).mono hbw.size)
      rw [har] at h
      exact h
    clear hT har
    go_enter Tryd.func4, Tryd.ntmps4
    go_wp2_with fail
    refine Calls.mono (HA.out w (Below.refl _ _)) ?_
    rintro e w1 ⟨rfl, b1⟩
    have HB1 : Hid (Below w.heap.size w w1) := b1
    clear b1
    go_wp2_with fail
    go_ret
    exact ⟨rfl, HB1.out⟩
  | ok j =>
    have hz := read_size har
    have HA : Hid (∀ w1, Below w.heap.size w w1 → Calls Tryd.prog 9 #[.string a] w1 fun e w' => e = .returned (.tuple #[.string ⟨(tell 10 j).toArray⟩, .bool true]) ∧ Below w1.heap.size w1 w') := by
      intro w1 hbw
      have h := keepCanon_any a w1 ha ((hT.below hbw).mono hbw.size)
      rw [har] at h
      exact h
    have HS : Hid (∀ w1, Calls Tryd.prog 8 #[.string a] w1 fun e w' => e = .returned (.tuple #[.int .i64 (nodes 10 j), .int .i64 (depth 10 j), .int .i64 0]) ∧ Below w1.heap.size w1 w') := by
      intro w1
      have h := size_any a w1 ha
      rw [sizeE, har] at h
      exact h
    have hsz := read_short har
    have HW := read_wrap har
    have hbl := wrap_len (tell 10 j)
    generalize ht : (⟨(tell 10 j).toArray⟩ : ByteArray) = t at *
    have htl : t.data.toList = tell 10 j := by rw [← ht]
    have hts : t.size = (tell 10 j).length := by rw [← htl]; simp
    have HBd : Hid ((({ data := #[91] } : ByteArray) ++ t ++ { data := #[93] }).data.toList = wrapB (tell 10 j)) := wrap_bytes htl
    have hBs : (({ data := #[91] } : ByteArray) ++ t ++ { data := #[93] }).size ≤ maxLen := by
      have h := congrArg List.length HBd.out
      rw [hbl] at h
      have h2 : (({ data := #[91] } : ByteArray) ++ t ++ { data := #[93] }).size = (({ data := #[91] } : ByteArray) ++ t ++ { data := #[93] }).data.toList.length := (data_len _).symm
      rw [h2, h]
      unfold maxLen
      omega
    have h1 : ¬ 9223372036854775807 < 1 + t.size := by omega
    have h2 : ¬ 9223372036854775807 < 1 + t.size + 1 := by omega
    have HC0 : Hid (∀ w1, Below w.heap.size w w1 → Calls Tryd.prog 6 #[.string (({ data := #[91] } : ByteArray) ++ t ++ { data := #[93] })] w1 (CanonPost (wrapB (tell 10 j)) w1)) := by
      intro w1 hbw
      have h := canon_any (({ data := #[91] } : ByteArray) ++ t ++ { data := #[93] }) w1 hBs ((hT.below hbw).mono hbw.size)
      rw [HBd.out] at h
      exact h
    have HS0 : Hid (∀ w1, Calls Tryd.prog 8 #[.string (({ data := #[91] } : ByteArray) ++ t ++ { data := #[93] })] w1 fun e w' => e = .returned (.tuple (sizeE (wrapB (tell 10 j)))) ∧ Below w1.heap.size w1 w') := by
      intro w1
      have h := size_any (({ data := #[91] } : ByteArray) ++ t ++ { data := #[93] }) w1 hBs
      rw [HBd.out] at h
      exact h
    rcases HW with ⟨hbig, hr⟩ | ⟨hsm, ⟨j', hr, hr1, hr2, hr3, hr4, hr5⟩ | ⟨hr, hr1⟩ | ⟨hr, hr1⟩⟩
    · have hm : ¬ ((nodes 10 j : Nat) : Int) < 1 := by omega
      have hm2 : (0 : Int) < ((nodes 10 j : Nat) : Int) := by omega
      have hl : (1998 : Int) < (t.size : Int) := by omega
      have HC : Hid (∀ w1, Below w.heap.size w w1 → Calls Tryd.prog 6 #[.string (({ data := #[91] } : ByteArray) ++ t ++ { data := #[93] })] w1 fun e w' => e = .returned (.tuple #[.string ByteArray.empty, .int .i64 2]) ∧ Below w1.heap.size w1 w') := by
        intro w1 hbw
        refine (HC0.out w1 hbw).mono ?_
        rintro e w2 ⟨rfl, b2⟩
        refine ⟨?_, b2⟩
        rw [canonE, hr]
        rfl
      clear hT har HC0 hr
      generalize nodes 10 j = m at *
      generalize depth 10 j = d at *
      clear htl hts HBd hBs hbl HS0 
      go_enter Tryd.func4, Tryd.ntmps4
      go_wp2_with fail
      refine Calls.mono (HA.out w (Below.refl _ _)) ?_
      rintro e w1 ⟨rfl, b1⟩
      have HB1 : Hid (Below w.heap.size w w1) := b1
      clear b1
      go_wp2_with fail
      refine Calls.mono (HS.out w1) ?_
      rintro e w2 ⟨rfl, b2⟩
      have HB2 : Hid (Below w.heap.size w w2) := HB1.out.trans (b2.mono HB1.out.size)
      clear b2
      go_wp2_with fail
      refine Calls.mono (HC.out w2 HB2.out) ?_
      rintro e w3 ⟨rfl, b3⟩
      have HB3 : Hid (Below w.heap.size w w3) := HB2.out.trans (b3.mono HB2.out.size)
      clear b3
      go_wp2_with fail
      go_ret
      exact ⟨rfl, HB3.out⟩
    · have hm : ¬ ((nodes 10 j : Nat) : Int) < 1 := by omega
      have hl : ¬ (1998 : Int) < (t.size : Int) := by omega
      have hm2 : ((nodes 10 j : Nat) : Int) < 200 := by omega
      have hd2 : ((depth 10 j : Nat) : Int) < 10 := by omega
      have HC : Hid (∀ w1, Below w.heap.size w w1 → Calls Tryd.prog 6 #[.string (({ data := #[91] } : ByteArray) ++ t ++ { data := #[93] })] w1 fun e w' => e = .returned (.tuple #[.string (({ data := #[91] } : ByteArray) ++ t ++ { data := #[93] }), .int .i64 0]) ∧ Below w1.heap.size w1 w') := by
        intro w1 hbw
        refine (HC0.out w1 hbw).mono ?_
        rintro e w2 ⟨rfl, b2⟩
        refine ⟨?_, b2⟩
        rw [canonE, hr]
        simp only []
        rw [hr1, ba_of HBd.out]
      have HS2 : Hid (∀ w1, Calls Tryd.prog 8 #[.string (({ data := #[91] } : ByteArray) ++ t ++ { data := #[93] })] w1 fun e w' => e = .returned (.tuple #[.int .i64 (((nodes 10 j : Nat) : Int) + 1), .int .i64 (((depth 10 j : Nat) : Int) + 1), .int .i64 0]) ∧ Below w1.heap.size w1 w') := by
        intro w1
        refine (HS0.out w1).mono ?_
        rintro e w2 ⟨rfl, b2⟩
        refine ⟨?_, b2⟩
        rw [sizeE, hr]
        simp only []
        rw [hr2, hr3]
        simp
      clear hr1 hr2 hr3
      clear hT har HC0 hr
      generalize nodes 10 j = m at *
      generalize depth 10 j = d at *
      clear htl hts HBd hBs hbl HS0 
      go_enter Tryd.func4, Tryd.ntmps4
      go_wp2_with fail
      refine Calls.mono (HA.out w (Below.refl _ _)) ?_
      rintro e w1 ⟨rfl, b1⟩
      have HB1 : Hid (Below w.heap.size w w1) := b1
      clear b1
      go_wp2_with fail
      refine Calls.mono (HS.out w1) ?_
      rintro e w2 ⟨rfl, b2⟩
      have HB2 : Hid (Below w.heap.size w w2) := HB1.out.trans (b2.mono HB1.out.size)
      clear b2
      go_wp2_with fail
      refine Calls.mono (HC.out w2 HB2.out) ?_
      rintro e w3 ⟨rfl, b3⟩
      have HB3 : Hid (Below w.heap.size w w3) := HB2.out.trans (b3.mono HB2.out.size)
      clear b3
      go_wp2_with fail
      refine Calls.mono (HS2.out w3) ?_
      rintro e w4 ⟨rfl, b4⟩
      have HB4 : Hid (Below w.heap.size w w4) := HB3.out.trans (b4.mono HB3.out.size)
      clear b4
      go_wp2_with fail
      go_ret
      exact ⟨rfl, HB4.out⟩
    · have hm : ¬ ((nodes 10 j : Nat) : Int) < 1 := by omega
      have hl : ¬ (1998 : Int) < (t.size : Int) := by omega
      have hm2 : ((nodes 10 j : Nat) : Int) = 200 := by omega
      have HC : Hid (∀ w1, Below w.heap.size w w1 → Calls Tryd.prog 6 #[.string (({ data := #[91] } : ByteArray) ++ t ++ { data := #[93] })] w1 fun e w' => e = .returned (.tuple #[.string ByteArray.empty, .int .i64 2]) ∧ Below w1.heap.size w1 w') := by
        intro w1 hbw
        refine (HC0.out w1 hbw).mono ?_
        rintro e w2 ⟨rfl, b2⟩
        refine ⟨?_, b2⟩
        rw [canonE, hr]
        rfl
      clear hT har HC0 hr
      generalize nodes 10 j = m at *
      generalize depth 10 j = d at *
      clear htl hts HBd hBs hbl HS0 
      clear hr1
      go_enter Tryd.func4, Tryd.ntmps4
      go_wp2_with fail
      refine Calls.mono (HA.out w (Below.refl _ _)) ?_
      rintro e w1 ⟨rfl, b1⟩
      have HB1 : Hid (Below w.heap.size w w1) := b1
      clear b1
      go_wp2_with fail
      refine Calls.mono (HS.out w1) ?_
      rintro e w2 ⟨rfl, b2⟩
      have HB2 : Hid (Below w.heap.size w w2) := HB1.out.trans (b2.mono HB1.out.size)
      clear b2
      go_wp2_with fail
      refine Calls.mono (HC.out w2 HB2.out) ?_
      rintro e w3 ⟨rfl, b3⟩
      have HB3 : Hid (Below w.heap.size w w3) := HB2.out.trans (b3.mono HB2.out.size)
      clear b3
      go_wp2_with fail
      go_ret
      exact ⟨rfl, HB3.out⟩
    · have hm : ¬ ((nodes 10 j : Nat) : Int) < 1 := by omega
      have hl : ¬ (1998 : Int) < (t.size : Int) := by omega
      have hd2 : ((depth 10 j : Nat) : Int) = 10 := by omega
      have HC : Hid (∀ w1, Below w.heap.size w w1 → Calls Tryd.prog 6 #[.string (({ data := #[91] } : ByteArray) ++ t ++ { data := #[93] })] w1 fun e w' => e = .returned (.tuple #[.string ByteArray.empty, .int .i64 4]) ∧ Below w1.heap.size w1 w') := by
        intro w1 hbw
        refine (HC0.out w1 hbw).mono ?_
        rintro e w2 ⟨rfl, b2⟩
        refine ⟨?_, b2⟩
        rw [canonE, hr]
        rfl
      by_cases h200 : ((nodes 10 j : Nat) : Int) = 200
      · clear hT har HC0 hr
        generalize nodes 10 j = m at *
        generalize depth 10 j = d at *
        clear htl hts HBd hBs hbl HS0 
        clear hr1
        go_enter Tryd.func4, Tryd.ntmps4
        go_wp2_with fail
        refine Calls.mono (HA.out w (Below.refl _ _)) ?_
        rintro e w1 ⟨rfl, b1⟩
        have HB1 : Hid (Below w.heap.size w w1) := b1
        clear b1
        go_wp2_with fail
        refine Calls.mono (HS.out w1) ?_
        rintro e w2 ⟨rfl, b2⟩
        have HB2 : Hid (Below w.heap.size w w2) := HB1.out.trans (b2.mono HB1.out.size)
        clear b2
        go_wp2_with fail
        refine Calls.mono (HC.out w2 HB2.out) ?_
        rintro e w3 ⟨rfl, b3⟩
        have HB3 : Hid (Below w.heap.size w w3) := HB2.out.trans (b3.mono HB2.out.size)
        clear b3
        go_wp2_with fail
        go_ret
        exact ⟨rfl, HB3.out⟩
      · clear hT har HC0 hr
        generalize nodes 10 j = m at *
        generalize depth 10 j = d at *
        clear htl hts HBd hBs hbl HS0 
        clear hr1
        go_enter Tryd.func4, Tryd.ntmps4
        go_wp2_with fail
        refine Calls.mono (HA.out w (Below.refl _ _)) ?_
        rintro e w1 ⟨rfl, b1⟩
        have HB1 : Hid (Below w.heap.size w w1) := b1
        clear b1
        go_wp2_with fail
        refine Calls.mono (HS.out w1) ?_
        rintro e w2 ⟨rfl, b2⟩
        have HB2 : Hid (Below w.heap.size w w2) := HB1.out.trans (b2.mono HB1.out.size)
        clear b2
        go_wp2_with fail
        refine Calls.mono (HC.out w2 HB2.out) ?_
        rintro e w3 ⟨rfl, b3⟩
        have HB3 : Hid (Below w.heap.size w w3) := HB2.out.trans (b3.mono HB2.out.size)
        clear b3
        go_wp2_with fail
        go_ret
        exact ⟨rfl, HB3.out⟩
end Go.Proofs.YtaogilpkeeigoaaDoor
