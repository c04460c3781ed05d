/- Contract over this translation of ptr.Put. -/
import Derived.Test.YthdgfehfoidnbabGreatDoorPtrGet
namespace Go.Proofs.YthdgfehfoidnbabGreatDoor
open Go.RowKit
set_option linter.unusedVariables false
set_option linter.unusedSimpArgs false
set_option maxRecDepth 100000 in
set_option maxHeartbeats 1000000 in
theorem apart_nil (q : Option Addr) (cap : Nat) (w : World) : Calls Tryz.prog 18 #[.slice q 0 cap] w fun e w' => e = .returned (.tuple #[.slice none 0 0, .string ByteArray.empty, .bool false]) ∧ Below w.heap.size w w' := by
  go_enter Tryz.func18, Tryz.ntmps18
  go_wp2_with fail
  exact bodyPost_ret (v := .tuple #[.slice none 0 0, .string ByteArray.empty, .bool false]) (by simp [results, Tryz.results18, go_sem]; rfl) rfl ⟨rfl, Below.refl _ _⟩
set_option maxRecDepth 100000 in
set_option maxHeartbeats 2000000 in
theorem apart_some (M : List Bs) (s : Bs) (q : Option Addr) (cap : Nat) (w : World) (hL : Strs w (.slice q (M ++ [s]).length cap) (M ++ [s])) (hlen : M.length ≤ 1000) :
    Calls Tryz.prog 18 #[.slice q (M ++ [s]).length cap] w fun e w' => e = .returned (.tuple #[.slice q M.length cap, .string ⟨s.toArray⟩, .bool true]) ∧ Below w.heap.size w w' ∧ Strs w' (.slice q M.length cap) M := by
  have hl : (M ++ [s]).length = M.length + 1 := by simp
  rw [hl] at hL ⊢
  have hq : ∃ g o, q = some ⟨g, o, none⟩ ∧ M.length + 1 ≤ cap ∧ cap ≤ maxLen ∧ g < w.heap.size ∧ w.cell? ⟨g, o + M.length, none⟩ = some (.string ⟨s.toArray⟩) ∧ ∀ (i : Nat) (t : Bs), M[i]? = some t → w.cell? ⟨g, o + i, none⟩ = some (.string ⟨t.toArray⟩) := by
    rcases hL with ⟨h, _⟩ | ⟨g, o, cap', h, h1, h2, h3, h4⟩
    · simp at h
    · simp only [Value.slice.injEq] at h
      obtain ⟨rfl, _, rfl⟩ := h
      refine ⟨g, o, rfl, by simpa using h1, h2, h3, h4 M.length s (by simp), fun i t ht => h4 i t ?_⟩
      rw [List.getElem?_append_left (List.getElem?_eq_some_iff.1 ht).1]
      exact ht
  obtain ⟨g, o, rfl, hlc, hcm, hg, hc, hcs⟩ := hq
  unfold maxLen at hcm
  have HS : Hid (∀ w1, Below w.heap.size w w1 → Strs w1 (.slice (some ⟨g, o, none⟩) M.length cap) M) := fun w1 hb =>
    (show Strs w (.slice (some ⟨g, o, none⟩) M.length cap) M from Or.inr ⟨g, o, cap, rfl, by omega, by unfold maxLen; omega, hg, hcs⟩).below hb
  have hw1 : IntKind.i64.wrap (M.length : Int) = (M.length : Int) := wrap_nat _ (by omega)
  clear hL hcs hl
  generalize (⟨s.toArray⟩ : ByteArray) = sb at *
  generalize M.length = len at *
  go_enter Tryz.func18, Tryz.ntmps18
  go_wp2_with fail
  go_region
  all_goals go_wp2_with fail
  all_goals exact bodyPost_ret (v := .tuple #[.slice (some ⟨g, o, none⟩) len cap, .string sb, .bool true]) (by simp [results, Tryz.results18, go_sem]) rfl ⟨rfl, (Below.refl _ _).drew, HS.out _ (Below.refl _ _).drew⟩
set_option maxRecDepth 100000 in
set_option maxHeartbeats 2000000 in
theorem putS1_any (c0 c1 n : Nat) (j : J (n + 1)) (c : J n) (T T' : TypeId) (x x' : Value) (s : ByteArray) (w : World) (hc0 : w.cell? ⟨c0, 0, none⟩ = some (.string s)) (hc1 : w.cell? ⟨c1, 0, none⟩ = some (.iface T' x')) (hSt : S0 w (n + 1) j (.iface T x)) (hr : Rise (n + 1) j) (hn : nodes (n + 1) j ≤ 2000) (hx : S0 w n c (.iface T' x')) (hs : s.size ≤ 8000000) (hE : Env w) :
    Calls Tryz.prog 20 #[.iface T x, .pointer (some ⟨c0, 0, none⟩), .pointer (some ⟨c1, 0, none⟩)] w (MadePost (n + 1) (putAt j s.data.toList c) w) := by
  have HP : Hid (Calls Tryz.prog 21 #[.iface T x, .string s, .iface T' x'] w (MadePost (n + 1) (putAt j s.data.toList c) w)) := put_any j c (.iface T x) s T' x' w hSt hr hn hx hs hE
  clear hSt hr hn hx hE
  generalize putAt j s.data.toList c = r at *
  go_enter Tryz.func20, Tryz.ntmps20
  go_wp2_with fail
  refine Calls.mono HP.out ?_
  rintro e w1 ⟨b1, h1⟩
  have HB : Hid (Below w.heap.size w w1) := b1
  clear b1
  rcases h1 with ⟨er, h1, h2, h3, rfl⟩ | ⟨j', T2, x2, h1, rfl, h2⟩
  · have HR : Hid (r = .error er) := h1
    clear h1
    go_wp2_with fail
    go_ret2
    exact ⟨HB.out, Or.inl ⟨er, HR.out, h2, h3, rfl⟩⟩
  · have HR : Hid (r = .ok j') := h1
    have HS : Hid (S0 w1 (n + 1) j' (.iface T2 x2)) := h2
    clear h1 h2
    go_wp2_with fail
    go_ret2
    exact ⟨HB.out, Or.inr ⟨_, _, _, HR.out, rfl, HS.out⟩⟩
/-- what is done at the end of a way into which something is put -/
theorem put_end {N c0 c1 : Nat} {G : J N} {T' : TypeId} {x' : Value} {s : ByteArray} {w0 : World} (h0 : c0 < w0.heap.size) (h1 : c1 < w0.heap.size) (hc0 : w0.cell? ⟨c0, 0, none⟩ = some (.string s)) (hc1 : w0.cell? ⟨c1, 0, none⟩ = some (.iface T' x')) (hG : S0 w0 N G (.iface T' x')) (hd' : depth N G ≤ 10) (hs : s.size ≤ 8000000) (hE : Env w0) :
    EndOKP c0 c1 (putEnd (fun m => lift N m G) s.data.toList) w0 := by
  intro w hb m j T x hm hSt hr hn
  cases m with
  | zero => omega
  | succ m =>
    exact putS1_any c0 c1 m j (lift N m G) T T' x x' s w (by rw [hb.cell (p := ⟨c0, 0, none⟩) h0]; exact hc0) (by rw [hb.cell (p := ⟨c1, 0, none⟩) h1]; exact hc1) hSt hr hn (st_lift N m G _ (by omega) (hG.on hb)) hs (hE.below hb)
/-- what is told of what was made -/
def madeA (N : Nat) (r : Except Nat (J N)) : Array Value :=
  match r with
  | .error e => #[.string ByteArray.empty, .int .i64 e]
  | .ok R => toldE N R
set_option maxRecDepth 100000 in
set_option maxHeartbeats 2000000 in
theorem changedP_any (N c0 c1 : Nat) (en : (m : Nat) → J m → Except Nat (J m)) (L : List Bs) (D : J N) (T : TypeId) (x : Value) (vl : Value) (w : World) (hN : 11 + L.length ≤ N) (hSt : S0 w N D (.iface T x)) (hr : Rise N D) (hn : nodes N D ≤ 2000) (hL : Strs w vl L) (hsz : ∀ s ∈ L, s.length ≤ 8000000) (hE : Env w) (he : EndOKP c0 c1 en w) (hF : ∀ R, changeP N D L en = .ok R → Fine N R) :
    Calls Tryz.prog 19 #[.iface T x, vl, .func (.func 20) #[] #[.pointer (some ⟨c0, 0, none⟩), .pointer (some ⟨c1, 0, none⟩)]] w fun e w' => e = .returned (.tuple (madeA N (changeP N D L en))) ∧ Below w.heap.size w w' := by
  have HC : Hid (Calls Tryz.prog 35 #[.iface T x, vl, .func (.func 20) #[] #[.pointer (some ⟨c0, 0, none⟩), .pointer (some ⟨c1, 0, none⟩)]] w (MadePost N (changeP N D L en) w)) := changeP_ok c0 c1 en L N D T x vl w hN hSt hr hn hL hsz hE he
  have HF : Hid (∀ R, changeP N D L en = .ok R → Fine N R) := hF
  have HE : Hid (Env w) := hE
  clear hSt hr hn hL hsz hE he hF
  generalize changeP N D L en = r at *
  go_enter Tryz.func19, Tryz.ntmps19
  go_wp2_with fail
  refine Calls.mono HC.out ?_
  rintro e w1 ⟨b1, h1⟩
  have HB : Hid (Below w.heap.size w w1) := b1
  clear b1
  rcases h1 with ⟨er, h1, h2, h3, rfl⟩ | ⟨R, T2, x2, h1, rfl, h2⟩
  · have HR : Hid (r = .error er) := h1
    have hbe : ((er : Int) != 0) = true := by rw [bne_iff_ne]; omega
    clear h1
    go_wp2_with fail
    go_ret2
    exact ⟨by rw [HR.out]; rfl, HB.out⟩
  · have HR : Hid (r = .ok R) := h1
    have HTl := tellJ_any N R (.iface T2 x2) w1 h2 (HF.out R h1) (HE.out.below HB.out).tab
    obtain ⟨s, er, hform⟩ := toldE_form N R
    rw [hform] at HTl
    have HX : Hid (madeA N r = #[.string s, .int .i64 er]) := by show madeA N r = _; rw [h1]; exact hform
    have HTl' : Hid (Calls Tryz.prog 16 #[.iface T2 x2] w1 fun e w' => e = .returned (.tuple #[.string s, .int .i64 er]) ∧ Below w1.heap.size w1 w') := HTl
    clear h1 h2 HTl hform
    go_wp2_with fail
    refine Calls.mono HTl'.out ?_
    rintro e w3 ⟨rfl, b3⟩
    have HB3 : Hid (Below w.heap.size w w3) := HB.out.trans (b3.mono HB.out.size)
    clear b3
    go_wp2_with fail
    go_ret2
    exact ⟨by rw [HX.out]; rfl, HB3.out⟩
/-- what is made by putting -/
def putR (N : Nat) (D : J N) (L : List Bs) (G : J N) : Except Nat (J N) := if L = [] then .ok G else changeP N D L.dropLast (putEnd (fun m => lift N m G) (L.getLast?.getD []))
def putA (N : Nat) (doc p v : Bs) : Array Value :=
  match rd20 N doc with
  | .error e => #[.string ByteArray.empty, .int .i64 e]
  | .ok D => match stepsE p with
    | .error e => #[.string ByteArray.empty, .int .i64 e]
    | .ok L => match rd20 N v with
      | .error e => #[.string ByteArray.empty, .int .i64 e]
      | .ok G => madeA N (putR N D L G)
theorem madeA_form (N : Nat) (r : Except Nat (J N)) : ∃ (s : ByteArray) (er : Nat), madeA N r = #[.string s, .int .i64 er] := by
  cases r with
  | error e => exact ⟨_, e, rfl⟩
  | ok R => exact toldE_form N R
set_option maxRecDepth 100000 in
set_option maxHeartbeats 4000000 in
theorem putTop_any (N : Nat) (hN : 20 ≤ N) (doc p v : ByteArray) (w : World) (hd' : doc.size ≤ 8000000) (hp : p.size ≤ 8000000) (hv : v.size ≤ 8000000) (hE : Env w) (hF : ∀ D L G R, rd20 N doc.data.toList = .ok D → stepsE p.data.toList = .ok L → rd20 N v.data.toList = .ok G → putR N D L G = .ok R → Fine N R) :
    Calls Tryz.prog 7 #[.string doc, .string p, .string v] w fun e w' => e = .returned (.tuple (putA N doc.data.toList p.data.toList v.data.toList)) ∧ Below w.heap.size w w' := by
  have HE : Hid (Env w) := hE
  have HF : Hid (∀ D L G R, rd20 N doc.data.toList = .ok D → stepsE p.data.toList = .ok L → rd20 N v.data.toList = .ok G → putR N D L G = .ok R → Fine N R) := hF
  obtain ⟨res, hres⟩ : ∃ res, putA N doc.data.toList p.data.toList v.data.toList = res := ⟨_, rfl⟩
  have HG : Hid (putA N doc.data.toList p.data.toList v.data.toList = res) := hres
  rw [hres]
  have hpl : p.data.toList.length = p.size := by simp
  clear hE hres hF
  go_enter Tryz.func7, Tryz.ntmps7
  go_wp2_with fail
  refine (readDoc_any N hN doc p w hd' hp HE.out).mono ?_
  rintro e w1 ⟨b1, h1⟩
  have HB1 : Hid (Below w.heap.size w w1) := b1
  clear b1
  rcases h1 with ⟨er, h2, h3, h4, rfl⟩ | ⟨D, er, h2, h3, h4, h5, rfl⟩ | ⟨D, L, T, x, q, cap, h2, h3, rfl, h4, h5⟩
  · have HR : Hid (res = #[.string ByteArray.empty, .int .i64 er]) := by
      show res = _
      rw [← HG.out, putA, h2]
    have hbe : ((er : Int) != 0) = true := by rw [bne_iff_ne]; omega
    clear h2
    go_wp2_with fail
    go_ret2
    exact ⟨by rw [HR.out]; rfl, HB1.out⟩
  · have HR : Hid (res = #[.string ByteArray.empty, .int .i64 er]) := by
      show res = _
      rw [← HG.out, putA, h2]
      simp only [h3]
    have hbe : ((er : Int) != 0) = true := by rw [bne_iff_ne]; omega
    clear h2 h3
    go_wp2_with fail
    go_ret2
    exact ⟨by rw [HR.out]; rfl, HB1.out⟩
  · have HR2 : Hid (rd20 N doc.data.toList = .ok D) := h2
    have HR3 : Hid (stepsE p.data.toList = .ok L) := h3
    have HS1 : Hid (S0 w1 N D (.iface T x)) := h4
    have HL1 : Hid (Strs w1 (.slice q L.length cap) L) := h5
    have hsum := steps_sum h3
    have hlen := (join_steps h3).2
    have HLs : Hid (∀ s ∈ L, s.length ≤ 8000000) := fun s hs => by
      obtain ⟨i, hi, rfl⟩ := List.getElem_of_mem hs
      have := len_le_sum L i hi
      omega
    clear h2 h3 h4 h5 hsum
    go_wp2_with fail
    refine (read20_any N hN v w1 hv).mono ?_
    rintro e w2 ⟨b2, h2⟩
    have HB2 : Hid (Below w.heap.size w w2) := HB1.out.trans (b2.mono HB1.out.size)
    have HS2 : Hid (S0 w2 N D (.iface T x)) := HS1.out.on b2
    have HL2 : Hid (Strs w2 (.slice q L.length cap) L) := HL1.out.below b2
    clear b2
    rcases h2 with ⟨er, h3, h4, h5, rfl⟩ | ⟨G, T2, x2, h3, rfl, h4⟩
    · have HR : Hid (res = #[.string ByteArray.empty, .int .i64 er]) := by
        show res = _
        rw [← HG.out, putA, HR2.out]
        simp only [HR3.out, h3]
      have hbe : ((er : Int) != 0) = true := by rw [bne_iff_ne]; omega
      have HBa : Hid (Below w.heap.size w (w2.alloc (.cells #[.nilIface] 36))) := HB2.out.alloc HB2.out.size _
      clear h3
      go_wp2_with fail
      go_ret2
      exact ⟨by rw [HR.out]; rfl, HBa.out⟩
    · have HR4 : Hid (rd20 N v.data.toList = .ok G) := h3
      have hTG := rd20_told hN h3
      have HTG : Hid (Told20 N G) := hTG
      have HR : Hid (res = madeA N (putR N D L G)) := by
        show res = _
        rw [← HG.out, putA, HR2.out]
        simp only [HR3.out, h3]
      have ha := heap_alloc_new w2 (.cells #[.iface T2 x2] 36)
      have hba : Below w2.heap.size w2 (w2.alloc (.cells #[.iface T2 x2] 36)) := (Below.refl _ _).alloc (Nat.le_refl _) _
      have HBa : Hid (Below w.heap.size w (w2.alloc (.cells #[.iface T2 x2] 36))) := HB2.out.trans (hba.mono HB2.out.size)
      have HSa : Hid (S0 (w2.alloc (.cells #[.iface T2 x2] 36)) N D (.iface T x)) := HS2.out.on hba
      have HLa : Hid (Strs (w2.alloc (.cells #[.iface T2 x2] 36)) (.slice q L.length cap) L) := HL2.out.below hba
      have HGa : Hid (S0 (w2.alloc (.cells #[.iface T2 x2] 36)) N G (.iface T2 x2)) := h4.on hba
      have HAa : Hid ((w2.alloc (.cells #[.iface T2 x2] 36)).heap[w2.heap.size]? = some (.cells #[.iface T2 x2] 36 (0, 0))) := ha
      have hlt2 : w2.heap.size < (w2.alloc (.cells #[.iface T2 x2] 36)).heap.size := by simp
      clear h3 h4 hTG ha hba
      go_wp2_with fail
      generalize hwa : w2.alloc (.cells #[.iface T2 x2] 36) = wa at *
      clear hwa
      by_cases hL0 : L = []
      · subst hL0
        have HRr : Hid (res = toldE N G) := by show res = _; rw [HR.out]; rfl
        refine (apart_nil q cap wa).mono ?_
        rintro e w3 ⟨rfl, b3⟩
        have hb3a : Below w3.heap.size w3 (w3.alloc (.cells #[.string ByteArray.empty] 9)) := (Below.refl _ _).alloc (Nat.le_refl _) _
        have hwaB : Below wa.heap.size wa (w3.alloc (.cells #[.string ByteArray.empty] 9)) := b3.trans (hb3a.mono b3.size)
        have HBb : Hid (Below w.heap.size w (w3.alloc (.cells #[.string ByteArray.empty] 9))) := HBa.out.trans (hwaB.mono HBa.out.size)
        have hcc : (w3.alloc (.cells #[.string ByteArray.empty] 9)).cell? ⟨w2.heap.size, 0, none⟩ = some (.iface T2 x2) := by
          rw [hwaB.cell (p := ⟨w2.heap.size, 0, none⟩) hlt2, cell_of_row _ _ _ _ _ _ HAa.out]
          rfl
        have HTl := tellJ_any N G (.iface T2 x2) (w3.alloc (.cells #[.string ByteArray.empty] 9)) (HGa.out.on hwaB) HTG.out.fine (HE.out.below HBb.out).tab
        obtain ⟨s, er, hform⟩ := toldE_form N G
        rw [hform] at HTl
        have HX : Hid (res = #[.string s, .int .i64 er]) := HRr.out.trans hform
        have HTl' : Hid (Calls Tryz.prog 16 #[.iface T2 x2] (w3.alloc (.cells #[.string ByteArray.empty] 9)) fun e w' => e = .returned (.tuple #[.string s, .int .i64 er]) ∧ Below (w3.alloc (.cells #[.string ByteArray.empty] 9)).heap.size (w3.alloc (.cells #[.string ByteArray.empty] 9)) w') := HTl
        clear b3 hb3a hwaB HTl hform
        go_wp2_with fail
        generalize w3.alloc (.cells #[.string ByteArray.empty] 9) = wb at *
        refine Calls.mono HTl'.out ?_
        rintro e w4 ⟨rfl, b4⟩
        have HB4 : Hid (Below w.heap.size w w4) := HBb.out.trans (b4.mono HBb.out.size)
        clear b4
        go_wp2_with fail
        go_ret2
        exact ⟨by rw [HX.out]; rfl, HB4.out⟩
      · obtain ⟨M, s, rfl⟩ : ∃ M s, L = M ++ [s] := ⟨L.dropLast, L.getLast hL0, (List.dropLast_concat_getLast hL0).symm⟩
        have hRr : putR N D (M ++ [s]) G = changeP N D M (putEnd (fun m => lift N m G) s) := by
          unfold putR
          rw [if_neg (by simp), List.dropLast_concat]
          simp
        have HRr : Hid (res = madeA N (changeP N D M (putEnd (fun m => lift N m G) s))) := by show res = _; rw [HR.out, hRr]
        have HFr : Hid (∀ R, changeP N D M (putEnd (fun m => lift N m G) s) = .ok R → Fine N R) := fun R h => HF.out D _ G R HR2.out HR3.out HR4.out (hRr.trans h)
        have hMl : M.length ≤ 9 := by simp at hlen; omega
        have hzs : (⟨s.toArray⟩ : ByteArray).size ≤ 8000000 := by rw [size_of]; exact HLs.out s (by simp)
        have hsd : (⟨s.toArray⟩ : ByteArray).data.toList = s := by simp
        refine (apart_some M s q cap wa HLa.out (by omega)).mono ?_
        rintro e w3 ⟨rfl, b3, hM3⟩
        have hb3a : Below w3.heap.size w3 (w3.alloc (.cells #[.string ⟨s.toArray⟩] 9)) := (Below.refl _ _).alloc (Nat.le_refl _) _
        have hwaB : Below wa.heap.size wa (w3.alloc (.cells #[.string ⟨s.toArray⟩] 9)) := b3.trans (hb3a.mono b3.size)
        have HBb : Hid (Below w.heap.size w (w3.alloc (.cells #[.string ⟨s.toArray⟩] 9))) := HBa.out.trans (hwaB.mono HBa.out.size)
        have hc1 : (w3.alloc (.cells #[.string ⟨s.toArray⟩] 9)).cell? ⟨w2.heap.size, 0, none⟩ = some (.iface T2 x2) := by
          rw [hwaB.cell (p := ⟨w2.heap.size, 0, none⟩) hlt2, cell_of_row _ _ _ _ _ _ HAa.out]
          rfl
        have hc0 : (w3.alloc (.cells #[.string ⟨s.toArray⟩] 9)).cell? ⟨w3.heap.size, 0, none⟩ = some (.string ⟨s.toArray⟩) := by
          rw [cell_of_row _ _ _ _ _ _ (heap_alloc_new w3 _)]
          rfl
        have he := put_end (N := N) (c0 := w3.heap.size) (c1 := w2.heap.size) (G := G) (by simp) (by have := hwaB.size; omega) hc0 hc1 (HGa.out.on hwaB) HTG.out.depth hzs (HE.out.below HBb.out)
        rw [hsd] at he
        have hTD := rd20_told hN HR2.out
        have HCh := changedP_any N w3.heap.size w2.heap.size (putEnd (fun m => lift N m G) s) M D T x (.slice q M.length cap) (w3.alloc (.cells #[.string ⟨s.toArray⟩] 9)) (by omega) (HSa.out.on hwaB) (rise_of_good _ _ hTD.good) (by have := hTD.nodes; omega) (hM3.below hb3a) (fun t ht => HLs.out t (by simp [ht])) (HE.out.below HBb.out) he HFr.out
        obtain ⟨sx, er, hform⟩ := madeA_form N (changeP N D M (putEnd (fun m => lift N m G) s))
        rw [hform] at HCh
        have HX : Hid (res = #[.string sx, .int .i64 er]) := HRr.out.trans hform
        have HCh' : Hid (Calls Tryz.prog 19 #[.iface T x, .slice q M.length cap, .func (.func 20) #[] #[.pointer (some ⟨w3.heap.size, 0, none⟩), .pointer (some ⟨w2.heap.size, 0, none⟩)]] (w3.alloc (.cells #[.string ⟨s.toArray⟩] 9)) fun e w' => e = .returned (.tuple #[.string sx, .int .i64 er]) ∧ Below (w3.alloc (.cells #[.string ⟨s.toArray⟩] 9)).heap.size (w3.alloc (.cells #[.string ⟨s.toArray⟩] 9)) w') := HCh
        clear b3 hb3a hwaB HCh hform he hTD hc0 hc1 hM3 hRr hsd hzs hL0
        go_wp2_with fail
        generalize w3.alloc (.cells #[.string ⟨s.toArray⟩] 9) = wb at *
        refine Calls.mono HCh'.out ?_
        rintro e w4 ⟨rfl, b4⟩
        have HB4 : Hid (Below w.heap.size w w4) := HBb.out.trans (b4.mono HBb.out.size)
        clear b4
        go_wp2_with fail
        go_ret2
        exact ⟨by rw [HX.out]; rfl, HB4.out⟩
end Go.Proofs.YthdgfehfoidnbabGreatDoor
