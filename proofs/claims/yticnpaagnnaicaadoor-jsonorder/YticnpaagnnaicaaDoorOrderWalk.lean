/- The law JsonOrder over this translation: it answers true at every two texts, and leaves old memory alone. -/
import Derived.Test.YticnpaagnnaicaaDoorAt
import Derived.Test.YticnpaagnnaicaaDoorDocOrder
namespace Go.Proofs.YticnpaagnnaicaaDoor
open Go.RowKit
set_option linter.unusedVariables false
set_option linter.unusedSimpArgs false
theorem u_bytes {s t : ByteArray} {x y : Bs} (hs : s.data.toList = x) (ht : t.data.toList = y) : (({ data := #[123, 34, 112, 34, 58] } : ByteArray) ++ s ++ { data := #[44, 32, 34, 111, 34, 58] } ++ t ++ { data := #[125] }).data.toList = uB x y := by
  simp [uB, ByteArray.data_append, hs, ht]
theorem v_bytes {s t : ByteArray} {x y : Bs} (hs : s.data.toList = x) (ht : t.data.toList = y) : (({ data := #[123, 34, 111, 34, 58] } : ByteArray) ++ t ++ { data := #[44, 34, 112, 34, 58] } ++ s ++ { data := #[125] }).data.toList = vB x y := by
  simp [vB, ByteArray.data_append, hs, ht]
theorem q_bytes {s t : ByteArray} {x y : Bs} (hs : s.data.toList = x) (ht : t.data.toList = y) : (({ data := #[123, 34, 112, 34, 58] } : ByteArray) ++ s ++ { data := #[44, 34, 112, 34, 58] } ++ t ++ { data := #[125] }).data.toList = qB x y := by
  simp [qB, ByteArray.data_append, hs, ht]
theorem size_le_of {B : ByteArray} {x : Bs} (h : B.data.toList = x) (hl : x.length ≤ 2000) : B.size ≤ maxLen := by
  have e := data_len B
  rw [h] at e
  unfold maxLen
  omega
theorem u_small {x y : Bs} (h : x.length + y.length ≤ 1900) : (uB x y).length ≤ 2000 := by
  simp [uB]
  omega
theorem v_small {x y : Bs} (h : x.length + y.length ≤ 1900) : (vB x y).length ≤ 2000 := by
  simp [vB]
  omega
theorem q_small {x y : Bs} (h : x.length + y.length ≤ 1900) : (qB x y).length ≤ 2000 := by
  simp [qB]
  omega
set_option maxRecDepth 100000 in
set_option maxHeartbeats 8000000 in
theorem order_walk (a b : ByteArray) (w : World) (ha : a.size ≤ maxLen) (hb : b.size ≤ maxLen) (hT : Tab w.heap.size w) :
    Calls Tryd.prog 6 #[.string a, .string b] w fun e w' => e = .returned (.bool true) ∧ Below w.heap.size w w' := by
  cases har : read a.data.toList with
  | error ea =>
    have HA : Hid (Says w 13 #[.string a] (.tuple #[.string ByteArray.empty, .bool false])) := keep_err hT ha rfl har
    cases hbr : read b.data.toList with
    | error eb =>
      have HB : Hid (Says w 13 #[.string b] (.tuple #[.string ByteArray.empty, .bool false])) := keep_err hT hb rfl hbr
      clear hT har hbr
      go_enter Tryd.func6, Tryd.ntmps6
      go_wp2_with fail
      refine Calls.mono (HA.out w (Below.refl _ _)) ?_
      rintro e w1 ⟨rfl, b1⟩
      have HB1 : Hid (Below w.heap.size w w1) := b1
      clear b1
      go_wp2_with fail
      refine Calls.mono (HB.out w1 HB1.out) ?_
      rintro e w2 ⟨rfl, b2⟩
      have HB2 : Hid (Below w.heap.size w w2) := HB1.out.trans (b2.mono HB1.out.size)
      clear b2
      go_wp2_with fail
      go_ret
      exact ⟨rfl, HB2.out⟩
    | ok i =>
      have HB : Hid (Says w 13 #[.string b] (.tuple #[.string ⟨(tell 10 i).toArray⟩, .bool true])) := keep_ok hT hb rfl hbr rfl
      clear hT har hbr
      generalize (⟨(tell 10 i).toArray⟩ : ByteArray) = t at *
      go_enter Tryd.func6, Tryd.ntmps6
      go_wp2_with fail
      refine Calls.mono (HA.out w (Below.refl _ _)) ?_
      rintro e w1 ⟨rfl, b1⟩
      have HB1 : Hid (Below w.heap.size w w1) := b1
      clear b1
      go_wp2_with fail
      refine Calls.mono (HB.out w1 HB1.out) ?_
      rintro e w2 ⟨rfl, b2⟩
      have HB2 : Hid (Below w.heap.size w w2) := HB1.out.trans (b2.mono HB1.out.size)
      clear b2
      go_wp2_with fail
      go_ret
      exact ⟨rfl, HB2.out⟩
  | ok j =>
    cases hbr : read b.data.toList with
    | error eb =>
      have HA : Hid (Says w 13 #[.string a] (.tuple #[.string ⟨(tell 10 j).toArray⟩, .bool true])) := keep_ok hT ha rfl har rfl
      have HB : Hid (Says w 13 #[.string b] (.tuple #[.string ByteArray.empty, .bool false])) := keep_err hT hb rfl hbr
      clear hT har hbr
      generalize (⟨(tell 10 j).toArray⟩ : ByteArray) = s at *
      go_enter Tryd.func6, Tryd.ntmps6
      go_wp2_with fail
      refine Calls.mono (HA.out w (Below.refl _ _)) ?_
      rintro e w1 ⟨rfl, b1⟩
      have HB1 : Hid (Below w.heap.size w w1) := b1
      clear b1
      go_wp2_with fail
      refine Calls.mono (HB.out w1 HB1.out) ?_
      rintro e w2 ⟨rfl, b2⟩
      have HB2 : Hid (Below w.heap.size w w2) := HB1.out.trans (b2.mono HB1.out.size)
      clear b2
      go_wp2_with fail
      go_ret
      exact ⟨rfl, HB2.out⟩
    | ok i =>
      obtain ⟨s, hs⟩ : ∃ s : ByteArray, s.data.toList = tell 10 j := ⟨⟨(tell 10 j).toArray⟩, rfl⟩
      obtain ⟨t, ht⟩ : ∃ t : ByteArray, t.data.toList = tell 10 i := ⟨⟨(tell 10 i).toArray⟩, rfl⟩
      have HA : Hid (Says w 13 #[.string a] (.tuple #[.string s, .bool true])) := keep_ok hT ha rfl har hs
      have HB : Hid (Says w 13 #[.string b] (.tuple #[.string t, .bool true])) := keep_ok hT hb rfl hbr ht
      have hsl := read_short har
      have htl := read_short hbr
      have hss : s.size = (tell 10 j).length := by rw [← hs, data_len]
      have hts : t.size = (tell 10 i).length := by rw [← ht, data_len]
      by_cases h19 : (1900 : Int) < (s.size : Int) + (t.size : Int)
      · clear hT har hbr hs ht
        have hsb : s.size ≤ 2000 := by omega
        have htb : t.size ≤ 2000 := by omega
        clear hsl htl hss hts
        go_enter Tryd.func6, Tryd.ntmps6
        go_wp2_with fail
        refine Calls.mono (HA.out w (Below.refl _ _)) ?_
        rintro e w1 ⟨rfl, b1⟩
        have HB1 : Hid (Below w.heap.size w w1) := b1
        clear b1
        go_wp2_with fail
        refine Calls.mono (HB.out w1 HB1.out) ?_
        rintro e w2 ⟨rfl, b2⟩
        have HB2 : Hid (Below w.heap.size w w2) := HB1.out.trans (b2.mono HB1.out.size)
        clear b2
        go_wp2_with fail
        go_ret
        exact ⟨rfl, HB2.out⟩
      · have hlen : (tell 10 j).length + (tell 10 i).length ≤ 1900 := by omega
        have ub := u_bytes hs ht
        have vb := v_bytes hs ht
        have qb := q_bytes hs ht
        have us := size_le_of ub (u_small hlen)
        have vs := size_le_of vb (v_small hlen)
        have qs := size_le_of qb (q_small hlen)
        have hsb : s.size ≤ 2000 := by omega
        have htb : t.size ≤ 2000 := by omega
        have c1 : ¬ 9223372036854775807 < 5 + s.size := by omega
        have c2 : ¬ 9223372036854775807 < 5 + s.size + 6 := by omega
        have c3 : ¬ 9223372036854775807 < 5 + s.size + 6 + t.size := by omega
        have c4 : ¬ 9223372036854775807 < 5 + s.size + 6 + t.size + 1 := by omega
        have c5 : ¬ 9223372036854775807 < 5 + t.size := by omega
        have c6 : ¬ 9223372036854775807 < 5 + t.size + 5 := by omega
        have c7 : ¬ 9223372036854775807 < 5 + t.size + 5 + s.size := by omega
        have c8 : ¬ 9223372036854775807 < 5 + t.size + 5 + s.size + 1 := by omega
        have c9 : ¬ 9223372036854775807 < 5 + s.size + 5 := by omega
        have c10 : ¬ 9223372036854775807 < 5 + s.size + 5 + t.size := by omega
        have c11 : ¬ 9223372036854775807 < 5 + s.size + 5 + t.size + 1 := by omega
        have hV := read_v (read_good har) (read_good hbr) hlen
        have hU := read_u (read_good har) (read_good hbr) hlen
        rcases hU with ⟨x, hu, hux, hk, hdi, hdj, hq⟩ | ⟨hu, hbad⟩
        · rcases hV with ⟨y, hv, hvy, _, _, _⟩ | ⟨hv, hbad⟩
          · have HU : Hid (Says w 7 #[.string (({ data := #[123, 34, 112, 34, 58] } : ByteArray) ++ s ++ { data := #[44, 32, 34, 111, 34, 58] } ++ t ++ { data := #[125] })] (.tuple #[.string (({ data := #[123, 34, 111, 34, 58] } : ByteArray) ++ t ++ { data := #[44, 34, 112, 34, 58] } ++ s ++ { data := #[125] }), .int .i64 0])) := canon_ok hT us ub hu (by rw [vb, hux])
            have HV : Hid (Says w 7 #[.string (({ data := #[123, 34, 111, 34, 58] } : ByteArray) ++ t ++ { data := #[44, 34, 112, 34, 58] } ++ s ++ { data := #[125] })] (.tuple #[.string (({ data := #[123, 34, 111, 34, 58] } : ByteArray) ++ t ++ { data := #[44, 34, 112, 34, 58] } ++ s ++ { data := #[125] }), .int .i64 0])) := canon_ok hT vs vb hv (by rw [vb, hvy])
            have HQ : Hid (Says w 7 #[.string (({ data := #[123, 34, 112, 34, 58] } : ByteArray) ++ s ++ { data := #[44, 34, 112, 34, 58] } ++ t ++ { data := #[125] })] (.tuple #[.string ByteArray.empty, .int .i64 5])) := canon_err hT qs qb hq
            clear hT har hbr hs ht hu hux hk hdi hdj hq hv hvy ub vb qb us vs qs hss hts hsl htl hlen
            go_enter Tryd.func6, Tryd.ntmps6
            go_wp2_with fail
            refine Calls.mono (HA.out w (Below.refl _ _)) ?_
            rintro e w1 ⟨rfl, b1⟩
            have HB1 : Hid (Below w.heap.size w w1) := b1
            clear b1
            go_wp2_with fail
            refine Calls.mono (HB.out w1 HB1.out) ?_
            rintro e w2 ⟨rfl, b2⟩
            have HB2 : Hid (Below w.heap.size w w2) := HB1.out.trans (b2.mono HB1.out.size)
            clear b2
            go_wp2_with fail
            refine Calls.mono (HU.out w2 HB2.out) ?_
            rintro e w3 ⟨rfl, b3⟩
            have HB3 : Hid (Below w.heap.size w w3) := HB2.out.trans (b3.mono HB2.out.size)
            clear b3
            go_wp2_with fail
            refine Calls.mono (HV.out w3 HB3.out) ?_
            rintro e w4 ⟨rfl, b4⟩
            have HB4 : Hid (Below w.heap.size w w4) := HB3.out.trans (b4.mono HB3.out.size)
            clear b4
            go_wp2_with fail
            refine Calls.mono (HQ.out w4 HB4.out) ?_
            rintro e w5 ⟨rfl, b5⟩
            have HB5 : Hid (Below w.heap.size w w5) := HB4.out.trans (b5.mono HB4.out.size)
            clear b5
            go_wp2_with fail
            go_ret
            exact ⟨rfl, HB5.out⟩
          · omega
        · rcases hV with ⟨y, hv, hvy, _, _, _⟩ | ⟨hv, _⟩
          · omega
          · rcases hu with hu | hu
            all_goals rcases hv with hv | hv
            · have HU : Hid (Says w 7 #[.string (({ data := #[123, 34, 112, 34, 58] } : ByteArray) ++ s ++ { data := #[44, 32, 34, 111, 34, 58] } ++ t ++ { data := #[125] })] (.tuple #[.string ByteArray.empty, .int .i64 2])) := canon_err hT us ub hu
              have HV : Hid (Says w 7 #[.string (({ data := #[123, 34, 111, 34, 58] } : ByteArray) ++ t ++ { data := #[44, 34, 112, 34, 58] } ++ s ++ { data := #[125] })] (.tuple #[.string ByteArray.empty, .int .i64 2])) := canon_err hT vs vb hv
              clear hT har hbr hs ht hu hv ub vb qb us vs qs hss hts hsl htl hlen hbad
              go_enter Tryd.func6, Tryd.ntmps6
              go_wp2_with fail
              refine Calls.mono (HA.out w (Below.refl _ _)) ?_
              rintro e w1 ⟨rfl, b1⟩
              have HB1 : Hid (Below w.heap.size w w1) := b1
              clear b1
              go_wp2_with fail
              refine Calls.mono (HB.out w1 HB1.out) ?_
              rintro e w2 ⟨rfl, b2⟩
              have HB2 : Hid (Below w.heap.size w w2) := HB1.out.trans (b2.mono HB1.out.size)
              clear b2
              go_wp2_with fail
              refine Calls.mono (HU.out w2 HB2.out) ?_
              rintro e w3 ⟨rfl, b3⟩
              have HB3 : Hid (Below w.heap.size w w3) := HB2.out.trans (b3.mono HB2.out.size)
              clear b3
              go_wp2_with fail
              refine Calls.mono (HV.out w3 HB3.out) ?_
              rintro e w4 ⟨rfl, b4⟩
              have HB4 : Hid (Below w.heap.size w w4) := HB3.out.trans (b4.mono HB3.out.size)
              clear b4
              go_wp2_with fail
              go_ret
              exact ⟨rfl, HB4.out⟩
            · have HU : Hid (Says w 7 #[.string (({ data := #[123, 34, 112, 34, 58] } : ByteArray) ++ s ++ { data := #[44, 32, 34, 111, 34, 58] } ++ t ++ { data := #[125] })] (.tuple #[.string ByteArray.empty, .int .i64 2])) := canon_err hT us ub hu
              have HV : Hid (Says w 7 #[.string (({ data := #[123, 34, 111, 34, 58] } : ByteArray) ++ t ++ { data := #[44, 34, 112, 34, 58] } ++ s ++ { data := #[125] })] (.tuple #[.string ByteArray.empty, .int .i64 4])) := canon_err hT vs vb hv
              clear hT har hbr hs ht hu hv ub vb qb us vs qs hss hts hsl htl hlen hbad
              go_enter Tryd.func6, Tryd.ntmps6
              go_wp2_with fail
              refine Calls.mono (HA.out w (Below.refl _ _)) ?_
              rintro e w1 ⟨rfl, b1⟩
              have HB1 : Hid (Below w.heap.size w w1) := b1
              clear b1
              go_wp2_with fail
              refine Calls.mono (HB.out w1 HB1.out) ?_
              rintro e w2 ⟨rfl, b2⟩
              have HB2 : Hid (Below w.heap.size w w2) := HB1.out.trans (b2.mono HB1.out.size)
              clear b2
              go_wp2_with fail
              refine Calls.mono (HU.out w2 HB2.out) ?_
              rintro e w3 ⟨rfl, b3⟩
              have HB3 : Hid (Below w.heap.size w w3) := HB2.out.trans (b3.mono HB2.out.size)
              clear b3
              go_wp2_with fail
              refine Calls.mono (HV.out w3 HB3.out) ?_
              rintro e w4 ⟨rfl, b4⟩
              have HB4 : Hid (Below w.heap.size w w4) := HB3.out.trans (b4.mono HB3.out.size)
              clear b4
              go_wp2_with fail
              go_ret
              exact ⟨rfl, HB4.out⟩
            · have HU : Hid (Says w 7 #[.string (({ data := #[123, 34, 112, 34, 58] } : ByteArray) ++ s ++ { data := #[44, 32, 34, 111, 34, 58] } ++ t ++ { data := #[125] })] (.tuple #[.string ByteArray.empty, .int .i64 4])) := canon_err hT us ub hu
              have HV : Hid (Says w 7 #[.string (({ data := #[123, 34, 111, 34, 58] } : ByteArray) ++ t ++ { data := #[44, 34, 112, 34, 58] } ++ s ++ { data := #[125] })] (.tuple #[.string ByteArray.empty, .int .i64 2])) := canon_err hT vs vb hv
              clear hT har hbr hs ht hu hv ub vb qb us vs qs hss hts hsl htl hlen hbad
              go_enter Tryd.func6, Tryd.ntmps6
              go_wp2_with fail
              refine Calls.mono (HA.out w (Below.refl _ _)) ?_
              rintro e w1 ⟨rfl, b1⟩
              have HB1 : Hid (Below w.heap.size w w1) := b1
              clear b1
              go_wp2_with fail
              refine Calls.mono (HB.out w1 HB1.out) ?_
              rintro e w2 ⟨rfl, b2⟩
              have HB2 : Hid (Below w.heap.size w w2) := HB1.out.trans (b2.mono HB1.out.size)
              clear b2
              go_wp2_with fail
              refine Calls.mono (HU.out w2 HB2.out) ?_
              rintro e w3 ⟨rfl, b3⟩
              have HB3 : Hid (Below w.heap.size w w3) := HB2.out.trans (b3.mono HB2.out.size)
              clear b3
              go_wp2_with fail
              refine Calls.mono (HV.out w3 HB3.out) ?_
              rintro e w4 ⟨rfl, b4⟩
              have HB4 : Hid (Below w.heap.size w w4) := HB3.out.trans (b4.mono HB3.out.size)
              clear b4
              go_wp2_with fail
              go_ret
              exact ⟨rfl, HB4.out⟩
            · have HU : Hid (Says w 7 #[.string (({ data := #[123, 34, 112, 34, 58] } : ByteArray) ++ s ++ { data := #[44, 32, 34, 111, 34, 58] } ++ t ++ { data := #[125] })] (.tuple #[.string ByteArray.empty, .int .i64 4])) := canon_err hT us ub hu
              have HV : Hid (Says w 7 #[.string (({ data := #[123, 34, 111, 34, 58] } : ByteArray) ++ t ++ { data := #[44, 34, 112, 34, 58] } ++ s ++ { data := #[125] })] (.tuple #[.string ByteArray.empty, .int .i64 4])) := canon_err hT vs vb hv
              clear hT har hbr hs ht hu hv ub vb qb us vs qs hss hts hsl htl hlen hbad
              go_enter Tryd.func6, Tryd.ntmps6
              go_wp2_with fail
              refine Calls.mono (HA.out w (Below.refl _ _)) ?_
              rintro e w1 ⟨rfl, b1⟩
              have HB1 : Hid (Below w.heap.size w w1) := b1
              clear b1
              go_wp2_with fail
              refine Calls.mono (HB.out w1 HB1.out) ?_
              rintro e w2 ⟨rfl, b2⟩
              have HB2 : Hid (Below w.heap.size w w2) := HB1.out.trans (b2.mono HB1.out.size)
              clear b2
              go_wp2_with fail
              refine Calls.mono (HU.out w2 HB2.out) ?_
              rintro e w3 ⟨rfl, b3⟩
              have HB3 : Hid (Below w.heap.size w w3) := HB2.out.trans (b3.mono HB2.out.size)
              clear b3
              go_wp2_with fail
              refine Calls.mono (HV.out w3 HB3.out) ?_
              rintro e w4 ⟨rfl, b4⟩
              have HB4 : Hid (Below w.heap.size w w4) := HB3.out.trans (b4.mono HB3.out.size)
              clear b4
              go_wp2_with fail
              go_ret
              exact ⟨rfl, HB4.out⟩
end Go.Proofs.YticnpaagnnaicaaDoor
