/- Contract over this translation of ptr.Cut. -/
import Derived.Test.YthdgfehfoidnbabGreatDoorM12
import Derived.Test.YthdgfehfoidnbabGreatDoorPtrCut
import Derived.Test.YthdgfehfoidnbabGreatDoorPtrChangeC
namespace Go.Proofs.YthdgfehfoidnbabGreatDoor
open Go.RowKit
set_option linter.unusedVariables false
set_option linter.unusedSimpArgs false
set_option maxRecDepth 100000 in
set_option maxHeartbeats 2000000 in
theorem cutS1_any (c0 n : Nat) (j : J (n + 1)) (T : TypeId) (x : Value) (s : ByteArray) (w : World) (hc0 : w.cell? ⟨c0, 0, none⟩ = some (.string s)) (hSt : S0 w (n + 1) j (.iface T x)) (hr : Rise (n + 1) j) (hn : nodes (n + 1) j ≤ 2000) (hs : s.size ≤ 8000000) (hE : Env w) :
    Calls Tryz.prog 24 #[.iface T x, .pointer (some ⟨c0, 0, none⟩)] w (MadePost (n + 1) (cutE j s.data.toList) w) := by
  have HP : Hid (Calls Tryz.prog 25 #[.iface T x, .string s] w (MadePost (n + 1) (cutE j s.data.toList) w)) := cut_any j (.iface T x) s w hSt hr hn hs hE
  clear hSt hr hn hE
  generalize cutE j s.data.toList = r at *
  go_enter Tryz.func24, Tryz.ntmps24
  go_wp2_with fail
  refine Calls.mono HP.out ?_
  rintro e w1 ⟨b1, h1⟩
  have HB : Hid (Below w.heap.size w w1) := b1
  clear b1
  rcases h1 with ⟨er, h1, h2, h3, rfl⟩ | ⟨j', T2, x2, h1, rfl, h2⟩
  · have HR : Hid (r = .error er) := h1
    clear h1
    go_wp2_with fail
    go_ret2
    exact ⟨HB.out, Or.inl ⟨er, HR.out, h2, h3, rfl⟩⟩
  · have HR : Hid (r = .ok j') := h1
    have HS : Hid (S0 w1 (n + 1) j' (.iface T2 x2)) := h2
    clear h1 h2
    go_wp2_with fail
    go_ret2
    exact ⟨HB.out, Or.inr ⟨_, _, _, HR.out, rfl, HS.out⟩⟩
theorem cut_end {c0 : Nat} {s : ByteArray} {w0 : World} (h0 : c0 < w0.heap.size) (hc0 : w0.cell? ⟨c0, 0, none⟩ = some (.string s)) (hs : s.size ≤ 8000000) (hE : Env w0) :
    EndOKC c0 (cutEnd s.data.toList) w0 := by
  intro w hb m j T x hm hSt hr hn
  cases m with
  | zero => omega
  | succ m =>
    exact cutS1_any c0 m j T x s w (by rw [hb.cell (p := ⟨c0, 0, none⟩) h0]; exact hc0) hSt hr hn hs (hE.below hb)
set_option maxRecDepth 100000 in
set_option maxHeartbeats 2000000 in
theorem changedC_any (N c0 : Nat) (en : (m : Nat) → J m → Except Nat (J m)) (L : List Bs) (D : J N) (T : TypeId) (x : Value) (vl : Value) (w : World) (hN : 11 + L.length ≤ N) (hSt : S0 w N D (.iface T x)) (hr : Rise N D) (hn : nodes N D ≤ 2000) (hL : Strs w vl L) (hsz : ∀ s ∈ L, s.length ≤ 8000000) (hE : Env w) (he : EndOKC c0 en w) (hF : ∀ R, changeP N D L en = .ok R → Fine N R) :
    Calls Tryz.prog 19 #[.iface T x, vl, .func (.func 24) #[] #[.pointer (some ⟨c0, 0, none⟩)]] w fun e w' => e = .returned (.tuple (madeA N (changeP N D L en))) ∧ Below w.heap.size w w' := by
  have HC : Hid (Calls Tryz.prog 35 #[.iface T x, vl, .func (.func 24) #[] #[.pointer (some ⟨c0, 0, none⟩)]] w (MadePost N (changeP N D L en) w)) := changeC_ok c0 en L N D T x vl w hN hSt hr hn hL hsz hE he
  have HF : Hid (∀ R, changeP N D L en = .ok R → Fine N R) := hF
  have HE : Hid (Env w) := hE
  clear hSt hr hn hL hsz hE he hF
  generalize changeP N D L en = r at *
  go_enter Tryz.func19, Tryz.ntmps19
  go_wp2_with fail
  refine Calls.mono HC.out ?_
  rintro e w1 ⟨b1, h1⟩
  have HB : Hid (Below w.heap.size w w1) := b1
  clear b1
  rcases h1 with ⟨er, h1, h2, h3, rfl⟩ | ⟨R, T2, x2, h1, rfl, h2⟩
  · have HR : Hid (r = .error er) := h1
    have hbe : ((er : Int) != 0) = true := by rw [bne_iff_ne]; omega
    clear h1
    go_wp2_with fail
    go_ret2
    exact ⟨by rw [HR.out]; rfl, HB.out⟩
  · have HR : Hid (r = .ok R) := h1
    have HTl := tellJ_any N R (.iface T2 x2) w1 h2 (HF.out R h1) (HE.out.below HB.out).tab
    obtain ⟨s, er, hform⟩ := toldE_form N R
    rw [hform] at HTl
    have HX : Hid (madeA N r = #[.string s, .int .i64 er]) := by show madeA N r = _; rw [h1]; exact hform
    have HTl' : Hid (Calls Tryz.prog 16 #[.iface T2 x2] w1 fun e w' => e = .returned (.tuple #[.string s, .int .i64 er]) ∧ Below w1.heap.size w1 w') := HTl
    clear h1 h2 HTl hform
    go_wp2_with fail
    refine Calls.mono HTl'.out ?_
    rintro e w3 ⟨rfl, b3⟩
    have HB3 : Hid (Below w.heap.size w w3) := HB.out.trans (b3.mono HB.out.size)
    clear b3
    go_wp2_with fail
    go_ret2
    exact ⟨by rw [HX.out]; rfl, HB3.out⟩
/-- what is made by cutting -/
def cutR (N : Nat) (D : J N) (L : List Bs) : Except Nat (J N) := if L = [] then .error 1 else changeP N D L.dropLast (cutEnd (L.getLast?.getD []))
def cutA (N : Nat) (doc p : Bs) : Array Value :=
  match rd20 N doc with
  | .error e => #[.string ByteArray.empty, .int .i64 e]
  | .ok D => match stepsE p with
    | .error e => #[.string ByteArray.empty, .int .i64 e]
    | .ok L => madeA N (cutR N D L)
set_option maxRecDepth 100000 in
set_option maxHeartbeats 4000000 in
theorem cutTop_any (N : Nat) (hN : 20 ≤ N) (doc p : ByteArray) (w : World) (hd' : doc.size ≤ 8000000) (hp : p.size ≤ 8000000) (hE : Env w) (hF : ∀ D L R, rd20 N doc.data.toList = .ok D → stepsE p.data.toList = .ok L → cutR N D L = .ok R → Fine N R) :
    Calls Tryz.prog 10 #[.string doc, .string p] w fun e w' => e = .returned (.tuple (cutA N doc.data.toList p.data.toList)) ∧ Below w.heap.size w w' := by
  have HE : Hid (Env w) := hE
  have HF : Hid (∀ D L R, rd20 N doc.data.toList = .ok D → stepsE p.data.toList = .ok L → cutR N D L = .ok R → Fine N R) := hF
  obtain ⟨res, hres⟩ : ∃ res, cutA N doc.data.toList p.data.toList = res := ⟨_, rfl⟩
  have HG : Hid (cutA N doc.data.toList p.data.toList = res) := hres
  rw [hres]
  have hpl : p.data.toList.length = p.size := by simp
  clear hE hres hF
  go_enter Tryz.func10, Tryz.ntmps10
  go_wp2_with fail
  refine (readDoc_any N hN doc p w hd' hp HE.out).mono ?_
  rintro e w1 ⟨b1, h1⟩
  have HB1 : Hid (Below w.heap.size w w1) := b1
  clear b1
  rcases h1 with ⟨er, h2, h3, h4, rfl⟩ | ⟨D, er, h2, h3, h4, h5, rfl⟩ | ⟨D, L, T, x, q, cap, h2, h3, rfl, h4, h5⟩
  · have HR : Hid (res = #[.string ByteArray.empty, .int .i64 er]) := by
      show res = _
      rw [← HG.out, cutA, h2]
    have hbe : ((er : Int) != 0) = true := by rw [bne_iff_ne]; omega
    clear h2
    go_wp2_with fail
    go_ret2
    exact ⟨by rw [HR.out]; rfl, HB1.out⟩
  · have HR : Hid (res = #[.string ByteArray.empty, .int .i64 er]) := by
      show res = _
      rw [← HG.out, cutA, h2]
      simp only [h3]
    have hbe : ((er : Int) != 0) = true := by rw [bne_iff_ne]; omega
    clear h2 h3
    go_wp2_with fail
    go_ret2
    exact ⟨by rw [HR.out]; rfl, HB1.out⟩
  · have HR2 : Hid (rd20 N doc.data.toList = .ok D) := h2
    have HR3 : Hid (stepsE p.data.toList = .ok L) := h3
    have HS1 : Hid (S0 w1 N D (.iface T x)) := h4
    have HL1 : Hid (Strs w1 (.slice q L.length cap) L) := h5
    have hsum := steps_sum h3
    have hlen := (join_steps h3).2
    have HLs : Hid (∀ s ∈ L, s.length ≤ 8000000) := fun s hs => by
      obtain ⟨i, hi, rfl⟩ := List.getElem_of_mem hs
      have := len_le_sum L i hi
      omega
    have HR : Hid (res = madeA N (cutR N D L)) := by
      show res = _
      rw [← HG.out, cutA, h2]
      simp only [h3]
    clear h2 h3 h4 h5 hsum
    go_wp2_with fail
    by_cases hL0 : L = []
    · subst hL0
      have HRr : Hid (res = #[.string ByteArray.empty, .int .i64 1]) := by show res = _; rw [HR.out]; rfl
      refine (apart_nil q cap w1).mono ?_
      rintro e w3 ⟨rfl, b3⟩
      have hb3a : Below w3.heap.size w3 (w3.alloc (.cells #[.string ByteArray.empty] 9)) := (Below.refl _ _).alloc (Nat.le_refl _) _
      have hwaB : Below w1.heap.size w1 (w3.alloc (.cells #[.string ByteArray.empty] 9)) := b3.trans (hb3a.mono b3.size)
      have HBb : Hid (Below w.heap.size w (w3.alloc (.cells #[.string ByteArray.empty] 9))) := HB1.out.trans (hwaB.mono HB1.out.size)
      clear b3 hb3a hwaB
      go_wp2_with fail
      go_ret2
      exact ⟨by rw [HRr.out]; rfl, HBb.out⟩
    · obtain ⟨M, s, rfl⟩ : ∃ M s, L = M ++ [s] := ⟨L.dropLast, L.getLast hL0, (List.dropLast_concat_getLast hL0).symm⟩
      have hRr : cutR N D (M ++ [s]) = changeP N D M (cutEnd s) := by
        unfold cutR
        rw [if_neg (by simp), List.dropLast_concat]
        simp
      have HRr : Hid (res = madeA N (changeP N D M (cutEnd s))) := by show res = _; rw [HR.out, hRr]
      have HFr : Hid (∀ R, changeP N D M (cutEnd s) = .ok R → Fine N R) := fun R h => HF.out D _ R HR2.out HR3.out (hRr.trans h)
      have hMl : M.length ≤ 9 := by simp at hlen; omega
      have hzs : (⟨s.toArray⟩ : ByteArray).size ≤ 8000000 := by rw [size_of]; exact HLs.out s (by simp)
      have hsd : (⟨s.toArray⟩ : ByteArray).data.toList = s := by simp
      refine (apart_some M s q cap w1 HL1.out (by omega)).mono ?_
      rintro e w3 ⟨rfl, b3, hM3⟩
      have hb3a : Below w3.heap.size w3 (w3.alloc (.cells #[.string ⟨s.toArray⟩] 9)) := (Below.refl _ _).alloc (Nat.le_refl _) _
      have hwaB : Below w1.heap.size w1 (w3.alloc (.cells #[.string ⟨s.toArray⟩] 9)) := b3.trans (hb3a.mono b3.size)
      have HBb : Hid (Below w.heap.size w (w3.alloc (.cells #[.string ⟨s.toArray⟩] 9))) := HB1.out.trans (hwaB.mono HB1.out.size)
      have hc0 : (w3.alloc (.cells #[.string ⟨s.toArray⟩] 9)).cell? ⟨w3.heap.size, 0, none⟩ = some (.string ⟨s.toArray⟩) := by
        rw [cell_of_row _ _ _ _ _ _ (heap_alloc_new w3 _)]
        rfl
      have he := cut_end (c0 := w3.heap.size) (by simp) hc0 hzs (HE.out.below HBb.out)
      rw [hsd] at he
      have hTD := rd20_told hN HR2.out
      have HCh := changedC_any N w3.heap.size (cutEnd s) M D T x (.slice q M.length cap) (w3.alloc (.cells #[.string ⟨s.toArray⟩] 9)) (by omega) (HS1.out.on hwaB) (rise_of_good _ _ hTD.good) (by have := hTD.nodes; omega) (hM3.below hb3a) (fun t ht => HLs.out t (by simp [ht])) (HE.out.below HBb.out) he HFr.out
      obtain ⟨sx, er, hform⟩ := madeA_form N (changeP N D M (cutEnd s))
      rw [hform] at HCh
      have HX : Hid (res = #[.string sx, .int .i64 er]) := HRr.out.trans hform
      have HCh' : Hid (Calls Tryz.prog 19 #[.iface T x, .slice q M.length cap, .func (.func 24) #[] #[.pointer (some ⟨w3.heap.size, 0, none⟩)]] (w3.alloc (.cells #[.string ⟨s.toArray⟩] 9)) fun e w' => e = .returned (.tuple #[.string sx, .int .i64 er]) ∧ Below (w3.alloc (.cells #[.string ⟨s.toArray⟩] 9)).heap.size (w3.alloc (.cells #[.string ⟨s.toArray⟩] 9)) w') := HCh
      clear b3 hb3a hwaB HCh hform he hTD hc0 hM3 hRr hsd hzs hL0
      go_wp2_with fail
      generalize w3.alloc (.cells #[.string ⟨s.toArray⟩] 9) = wb at *
      refine Calls.mono HCh'.out ?_
      rintro e w4 ⟨rfl, b4⟩
      have HB4 : Hid (Below w.heap.size w w4) := HBb.out.trans (b4.mono HBb.out.size)
      clear b4
      go_wp2_with fail
      go_ret2
      exact ⟨by rw [HX.out]; rfl, HB4.out⟩
end Go.Proofs.YthdgfehfoidnbabGreatDoor
