/- Contract over this translation of what reads two documents and tells what is made of them. -/
import Derived.Test.YtjcdklbimaclkaaDoorMrgAll
import Derived.Test.YtjcdklbimaclkaaDoorMrgTell
namespace Go.Proofs.YtjcdklbimaclkaaDoor
open Go.RowKit
set_option linter.unusedVariables false
set_option linter.unusedSimpArgs false
/-- what is answered of two documents -/
def bothA (N : Nat) (r : J N → J N → Except Nat (J N)) (a b : Bs) : Array Value :=
  match rd20 N a with
  | .error e => #[.string ByteArray.empty, .int .i64 e]
  | .ok A => match rd20 N b with
    | .error e => #[.string ByteArray.empty, .int .i64 e]
    | .ok B => match r A B with
      | .error e => #[.string ByteArray.empty, .int .i64 e]
      | .ok j => toldE N j
/-- what the function that is handed over does to two documents, and that what it makes may be told -/
def BothOK (f N : Nat) (r : J N → J N → Except Nat (J N)) : Prop :=
  (∀ (w : World) (A B : J N) (Ta : TypeId) (xa : Value) (Tb : TypeId) (xb : Value), S0 w N A (.iface Ta xa) → S0 w N B (.iface Tb xb) → Told20 N A → Told20 N B → Tab w.heap.size w →
    Calls Tryd.prog f #[.iface Ta xa, .iface Tb xb] w (MadeV (fun _ => False) N (r A B) w)) ∧ ∀ (A B j : J N), Told20 N A → Told20 N B → r A B = .ok j → Fine N j
set_option maxRecDepth 100000 in
set_option maxHeartbeats 2000000 in
theorem ofBoth_any (f N : Nat) (hN : 20 ≤ N) (hcf : ∀ (args : Array Value) (w : World), (callFunc f args).run Tryd.prog w = .ok (.enter f args) w) (r : J N → J N → Except Nat (J N)) (hr : BothOK f N r) (a b : ByteArray) (w : World) (ha : a.size ≤ maxLen) (hb : b.size ≤ maxLen) (hT : Tab w.heap.size w) :
    Calls Tryd.prog 8 #[.string a, .string b, .func (.func f) #[] #[]] w fun e w' => e = .returned (.tuple (bothA N r a.data.toList b.data.toList)) ∧ Below w.heap.size w w' := by
  obtain ⟨res, hres⟩ : ∃ res, bothA N r a.data.toList b.data.toList = res := ⟨_, rfl⟩
  have HG : Hid (bothA N r a.data.toList b.data.toList = res) := hres
  rw [hres]
  have HT : Hid (Tab w.heap.size w) := hT
  have HO : Hid (BothOK f N r) := hr
  have HLa : Hid (a.size ≤ maxLen) := ha
  have HLb : Hid (b.size ≤ maxLen) := hb
  clear hT hr hres ha hb
  go_enter Tryd.func8, Tryd.ntmps8
  go_wp2_with fail
  refine (read20_any N hN a w HLa.out).mono ?_
  rintro e w1 ⟨b1, h1⟩
  have HB1 : Hid (Below w.heap.size w w1) := b1
  clear b1
  rcases h1 with ⟨er, h2, h3, h4, rfl⟩ | ⟨A, Ta, xa, h2, rfl, h3⟩
  · have HR : Hid (res = #[.string ByteArray.empty, .int .i64 er]) := by
      show res = _
      rw [← HG.out, bothA, h2]
    have hbe : ((er : Int) != 0) = true := by rw [bne_iff_ne]; omega
    clear h2
    go_wp2_with fail
    go_ret2
    exact ⟨by rw [HR.out]; rfl, HB1.out⟩
  · have HR1 : Hid (rd20 N a.data.toList = .ok A) := h2
    have HTa : Hid (Told20 N A) := rd20_told hN h2
    have HS1 : Hid (S0 w1 N A (.iface Ta xa)) := h3
    clear h2 h3
    go_wp2_with fail
    refine (read20_any N hN b w1 HLb.out).mono ?_
    rintro e w2 ⟨b2, h2⟩
    have HB2 : Hid (Below w.heap.size w w2) := HB1.out.trans (b2.mono HB1.out.size)
    have HS2 : Hid (S0 w2 N A (.iface Ta xa)) := HS1.out.on b2
    clear b2
    rcases h2 with ⟨er, h2, h3, h4, rfl⟩ | ⟨B, Tb, xb, h2, rfl, h3⟩
    · have HR : Hid (res = #[.string ByteArray.empty, .int .i64 er]) := by
        show res = _
        rw [← HG.out, bothA, HR1.out]
        simp only [h2]
      have hbe : ((er : Int) != 0) = true := by rw [bne_iff_ne]; omega
      clear h2
      go_wp2_with fail
      go_ret2
      exact ⟨by rw [HR.out]; rfl, HB2.out⟩
    · have HRr : Hid (res = match r A B with
          | .error e => #[.string ByteArray.empty, .int .i64 e]
          | .ok j => toldE N j) := by
        show res = _
        rw [← HG.out, bothA, HR1.out]
        simp only [h2]
      have HTb : Hid (Told20 N B) := rd20_told hN h2
      have HSb : Hid (S0 w2 N B (.iface Tb xb)) := h3
      have HC : Hid (Calls Tryd.prog f #[.iface Ta xa, .iface Tb xb] w2 (MadeV (fun _ => False) N (r A B) w2)) := HO.out.1 w2 A B Ta xa Tb xb HS2.out h3 HTa.out (rd20_told hN h2) (HT.out.on HB2.out)
      clear h2 h3
      go_wp2_with fail
      refine Calls.mono HC.out ?_
      rintro e w3 ⟨b3, h3⟩
      have HB3 : Hid (Below w.heap.size w w3) := HB2.out.trans (b3.mono HB2.out.size)
      clear b3
      rcases h3 with ⟨er, h3, h4, h5, rfl⟩ | ⟨j, T, x, h3, rfl, h4⟩
      · have HR : Hid (res = #[.string ByteArray.empty, .int .i64 er]) := by
          show res = _
          rw [HRr.out, h3]
        have hbe : ((er : Int) != 0) = true := by rw [bne_iff_ne]; omega
        clear h3
        go_wp2_with fail
        go_ret2
        exact ⟨by rw [HR.out]; rfl, HB3.out⟩
      · have hF : Fine N j := HO.out.2 A B j HTa.out HTb.out h3
        have HTl := tellJ_any N j (.iface T x) w3 h4 hF (HT.out.on HB3.out)
        obtain ⟨s, er, hform⟩ := toldE_form N j
        rw [hform] at HTl
        have HR3 : Hid (res = #[.string s, .int .i64 er]) := by
          show res = _
          rw [HRr.out, h3]
          exact hform
        have HTl' : Hid (Calls Tryd.prog 12 #[.iface T x] w3 fun e w' => e = .returned (.tuple #[.string s, .int .i64 er]) ∧ Below w3.heap.size w3 w') := HTl
        clear HTl hF h3 h4 hform
        go_wp2_with fail
        refine Calls.mono HTl'.out ?_
        rintro e w4 ⟨rfl, b4⟩
        have HB4 : Hid (Below w.heap.size w w4) := HB3.out.trans (b4.mono HB3.out.size)
        clear b4
        go_wp2_with fail
        go_ret2
        exact ⟨by rw [HR3.out]; rfl, HB4.out⟩
end Go.Proofs.YtjcdklbimaclkaaDoor
