/- Contracts over this translation of json.Read and Canon, at every text. -/
import Derived.Test.YtaogilpkeeigoaaGreatDoorRdValue
import Derived.Test.YtaogilpkeeigoaaGreatDoorTellAny
import Derived.Test.YtaogilpkeeigoaaGreatDoorDocShort
namespace Go.Proofs.YtaogilpkeeigoaaGreatDoor
open Go.RowKit
set_option linter.unusedVariables false
set_option linter.unusedSimpArgs false
def ReadPost (s : Bs) (w : World) (e : Ending) (w' : World) : Prop :=
  Below w.heap.size w w' ∧ ((∃ er : Nat, read s = .error er ∧ er ≠ 0 ∧ er < 100 ∧ e = .returned (.tuple #[.nilIface, .int .i64 er])) ∨
    ∃ (j : J 10) (v : Value), read s = .ok j ∧ e = .returned (.tuple #[v, .int .i64 0]) ∧ (∃ T x, v = .iface T x) ∧ St (fun c => c < w.heap.size) w' 10 j v)
theorem rest_zero (t : ByteArray) : rest t 0 = t.data.toList := by simp [rest]
theorem data_len (t : ByteArray) : t.data.toList.length = t.size := by simp
set_option maxRecDepth 100000 in
set_option maxHeartbeats 2000000 in
theorem read_any (t : ByteArray) (w : World) (hs : t.size ≤ maxLen) :
    Calls Tryz.prog 20 #[.string t] w (ReadPost t.data.toList w) := by
  unfold maxLen at hs
  by_cases hbig : (2000 : Int) < (t.size : Int)
  · have HE : Hid (read t.data.toList = .error 2) := by
      show read t.data.toList = .error 2
      unfold read
      rw [if_pos (by rw [data_len]; omega)]
    go_enter Tryz.func20, Tryz.ntmps20
    go_wp2_with fail
    go_ret2
    exact ⟨Below.refl _ _, Or.inl ⟨2, HE.out, by decide, by decide, rfl⟩⟩
  have ht : t.size ≤ 2000 := by omega
  have HE : Hid (read t.data.toList = match value 10 0 (rest t 0) with
      | .error e => .error e
      | .ok (j, _, r) => if skip r = [] then .ok j else .error eSyntax) := by
    show read t.data.toList = _
    unfold read
    rw [if_neg (by rw [data_len]; omega), rest_zero]
    cases value 10 0 t.data.toList <;> rfl
  have HR : Hid (Rd w.heap.size t 0 0 (w.alloc (.cells #[.string t, .int .i64 0, .int .i64 0] 75))) := heap_alloc_new w _
  go_enter Tryz.func20, Tryz.ntmps20
  go_wp2_with fail
  refine (value_ok 10 w.heap.size t 0 0 0 _ HR.out (Nat.zero_le _) ht (by decide) (by decide) (by decide)).mono ?_
  rintro e w1 ⟨g1, h1⟩
  have HB1 : Hid (Below w.heap.size w w1) := below_of_new g1
  clear g1
  rcases h1 with ⟨er, v, hv, her, her2, rfl, hone⟩ | ⟨j, k', q, v, hv, hpq, hq, hkk, hk2, rfl, hone, hR, hst⟩
  · have HV : Hid (value 10 0 (rest t 0) = .error er) := hv
    have hbe : ((er : Int) != 0) = true := by rw [bne_iff_ne]; omega
    clear hv
    go_wp2_with fail
    go_ret2
    exact ⟨HB1.out, Or.inl ⟨er, by rw [HE.out, HV.out], her, her2, rfl⟩⟩
  · have HV : Hid (value 10 0 (rest t 0) = .ok (j, k', rest t q)) := hv
    have HR1 : Hid (Rd w.heap.size t q k' w1) := hR
    have HSt : Hid (St (fun c => c < w.heap.size + 1) w1 10 j v) := by show St (fun c => c < w.heap.size + 1) w1 10 j v; simpa using hst
    have HOne : Hid (∃ T x, v = .iface T x) := hone
    have HE2 : Hid (read t.data.toList = if skip (rest t q) = [] then .ok j else .error eSyntax) := by
      show read t.data.toList = _
      rw [HE.out, HV.out]
    clear hv hR hst hone
    go_wp2_with fail
    refine (skipBlanks_any w.heap.size t q k' _ HR1.out hq ht).mono ?_
    rintro e w2 ⟨rfl, g2, r2⟩
    have HB2 : Hid (Below w.heap.size w w2) := HB1.out.trans (below_of_G g2 HR1.out.lt)
    have HSt2 : Hid (St (fun c => c < w.heap.size) w2 10 j v) := ((HSt.out.grown g2 (fun k e => by cases e; show w.heap.size < w.heap.size + 1; omega)).mono (fun c _ hc => by show c < w.heap.size + 1; omega))
    have c1 := r2.place
    have hsl := skipAt_le t q
    have HSk : Hid (rest t (skipAt t q) = skip (rest t q)) := rest_skip t q hq
    clear g2 r2
    by_cases hend : skipAt t q < t.size
    · have hI : ((skipAt t q : Nat) : Int) < (t.size : Int) := by omega
      have HN : Hid (skip (rest t q) ≠ []) := by
        show skip (rest t q) ≠ []
        rw [← HSk.out, rest_cons hend]
        simp
      go_wp2_with fail
      go_ret2
      exact ⟨HB2.out, Or.inl ⟨3, by rw [HE2.out, if_neg HN.out], by decide, by decide, rfl⟩⟩
    · have hI : ¬ ((skipAt t q : Nat) : Int) < (t.size : Int) := by omega
      have HN : Hid (skip (rest t q) = []) := by
        show skip (rest t q) = []
        rw [← HSk.out, rest_nil (by omega)]
      go_wp2_with fail
      go_ret2
      exact ⟨HB2.out, Or.inr ⟨j, v, by rw [HE2.out, if_pos HN.out], rfl, HOne.out, HSt2.out⟩⟩
/-- what Canon answers -/
def canonE (s : Bs) : Array Value :=
  match read s with
  | .error e => #[.string ByteArray.empty, .int .i64 e]
  | .ok j => #[.string ⟨(tell 10 j).toArray⟩, .int .i64 0]
/-- what is known of Canon's answer -/
def CanonPost (s : Bs) (w : World) (e : Ending) (w' : World) : Prop := e = .returned (.tuple (canonE s)) ∧ Below w.heap.size w w'
set_option maxRecDepth 100000 in
set_option maxHeartbeats 2000000 in
theorem canon_any (t : ByteArray) (w : World) (hs : t.size ≤ maxLen) (hT : Tab w.heap.size w) :
    Calls Tryz.prog 32 #[.string t] w (CanonPost t.data.toList w) := by
  have HT : Hid (Tab w.heap.size w) := hT
  clear hT
  go_enter Tryz.func32, Tryz.ntmps32
  go_wp2_with fail
  refine (read_any t w hs).mono ?_
  rintro e w1 ⟨b1, h1⟩
  have HB1 : Hid (Below w.heap.size w w1) := b1
  clear b1
  rcases h1 with ⟨er, hr, her, her2, rfl⟩ | ⟨j, v, hr, rfl, hone, hst⟩
  · have HE : Hid (canonE t.data.toList = #[.string ByteArray.empty, .int .i64 er]) := by
      show canonE t.data.toList = _
      rw [canonE, hr]
    have hbe : ((er : Int) != 0) = true := by rw [bne_iff_ne]; omega
    clear hr
    go_wp2_with fail
    go_ret2
    exact ⟨by rw [HE.out]; rfl, HB1.out⟩
  · have HE : Hid (canonE t.data.toList = #[.string ⟨(tell 10 j).toArray⟩, .int .i64 0]) := by
      show canonE t.data.toList = _
      rw [canonE, hr]
    have hsh := read_short hr
    have hx := text_any 10 _ j v w1 hst (fit_of_good _ _ (read_good hr)) ((HT.out.below HB1.out).mono HB1.out.size) (by omega)
    have HX : Hid (Calls Tryz.prog 45 #[v] w1 fun e w' => e = .returned (.string ⟨(tell 10 j).toArray⟩) ∧ Below w1.heap.size w1 w') := hx
    clear hr hst hx hsh
    generalize (⟨(tell 10 j).toArray⟩ : ByteArray) = tx at *
    go_wp2_with fail
    refine Calls.mono HX.out ?_
    rintro e w2 ⟨rfl, b2⟩
    have HB2 : Hid (Below w.heap.size w w2) := HB1.out.trans (b2.mono HB1.out.size)
    clear b2
    go_wp2_with fail
    go_ret2
    exact ⟨by rw [HE.out]; rfl, HB2.out⟩
end Go.Proofs.YtaogilpkeeigoaaGreatDoor
