/- Contract of the reader's method over this translation that reads a field's name and the sign behind it. -/
import Derived.Test.YtaogilpkeeigoaaGreatDoorFind
import Derived.Test.YtaogilpkeeigoaaGreatDoorRdQuoted
namespace Go.Proofs.YtaogilpkeeigoaaGreatDoor
open Go.RowKit
set_option linter.unusedVariables false
set_option linter.unusedSimpArgs false
theorem G.below {b : Nat} {w0 w w' : World} (h : G b w0 w) (g : Below w.heap.size w w') : G b w0 w' :=
  h.trans ⟨g.os, g.tape, g.output, g.size, fun k hk _ => g.block k hk⟩
theorem Rd.below {b : Nat} {t : ByteArray} {p k : Nat} {w w' : World} (h : Rd b t p k w) (g : Below w.heap.size w w') : Rd b t p k w' := (g.block b h.lt).trans h
theorem Fields.kept {α : Type} {w w' : World} {g b : Nat} {fs : List (Bs × α)} {vs : List Value} (h : Fields w g fs vs) (hb : G b w w') (hg : g < w.heap.size) (hne : g ≠ b) : Fields w' g fs vs :=
  ⟨h.1, fun i f u hf hu => by
    have := h.2 i f u hf hu
    have e : w'.heap[g]? = w.heap[g]? := hb.block g hg (fun e => hne (by cases e; rfl))
    rw [World.cell?_of_block (w := w) (w' := w') (a := ⟨g, i * 2, none⟩) e, World.cell?_of_block (w := w) (w' := w') (a := ⟨g, i * 2 + 1, none⟩) e]
    exact this⟩
def NamePost {α : Type} (b : Nat) (t : ByteArray) (p k : Nat) (fs : List (Bs × α)) (w : World) (e : Ending) (w' : World) : Prop :=
  G b w w' ∧ ((∃ er : Nat, nameE fs (rest t p) = .error er ∧ er ≠ 0 ∧ er < 100 ∧ e = .returned (.tuple #[.int .i64 0, .string ByteArray.empty, .int .i64 er])) ∨
    ∃ nm q, nameE fs (rest t p) = .ok (nm, rest t q) ∧ p < q ∧ q ≤ t.size ∧ (fs.any fun f => f.1 == nm) = false ∧ e = .returned (.tuple #[.int .i64 (placeOfName fs nm), .string ⟨nm.toArray⟩, .int .i64 0]) ∧ Rd b t q k w')
set_option maxRecDepth 100000 in
set_option maxHeartbeats 2000000 in
theorem name_any {α : Type} (b : Nat) (t : ByteArray) (p k g cap : Nat) (fs : List (Bs × α)) (vs : List Value) (w : World) (h : Rd b t p k w) (hp : p ≤ t.size) (ht : t.size ≤ 2000)
    (hF : Fields w g fs vs) (hg : g < w.heap.size) (hgb : g ≠ b) (hr : Rising fs) (hl : fs.length ≤ 2000) (hc : fs.length ≤ cap) (hcm : cap ≤ maxLen) :
    Calls Tryz.prog 82 #[.pointer (some ⟨b, 0, none⟩), .slice (some ⟨g, 0, none⟩) fs.length cap] w (NamePost b t p k fs w) := by
  have HR : Hid (Rd b t p k w) := h
  have HF : Hid (Fields w g fs vs) := hF
  have HRi : Hid (Rising fs) := hr
  have hsl := skipAt_le t p
  have hsg := skipAt_ge t p hp
  have HSk : Hid (rest t (skipAt t p) = skip (rest t p)) := rest_skip t p hp
  clear h hF hr
  go_enter Tryz.func82, Tryz.ntmps82
  go_wp2_with fail
  refine (skipBlanks_any b t p k _ HR.out hp ht).mono ?_
  rintro e w1 ⟨rfl, g1, r1⟩
  have HG1 : Hid (G b w w1) := g1
  have HR1 : Hid (Rd b t (skipAt t p) k w1) := r1
  clear g1 r1
  go_wp2_with fail
  refine (quoted_any b t (skipAt t p) k _ HR1.out hsl ht).mono ?_
  rintro e w2 ⟨g2, h2⟩
  have HG2 : Hid (G b w w2) := HG1.out.trans g2
  clear g2
  rw [HSk.out] at h2
  rcases h2 with ⟨hq, rfl⟩ | ⟨nm, q, hq, hpq, hqs, rfl, r2⟩
  · have HQ : Hid (quoted (skip (rest t p)) = none) := hq
    clear hq
    go_wp2_with fail
    go_ret3
    exact ⟨HG2.out, Or.inl ⟨3, by rw [nameE, HQ.out], by decide, by decide, rfl⟩⟩
  have HQ : Hid (quoted (skip (rest t p)) = some (nm, rest t q)) := hq
  have HR2 : Hid (Rd b t q k w2) := r2
  have HN : Hid (nameE fs (rest t p) = if (fs.any fun f => f.1 == nm) = true then .error eTwice else if hd (skip (rest t q)) = 58 then .ok (nm, (skip (rest t q)).tail) else .error eSyntax) := by
    show nameE fs (rest t p) = _
    rw [nameE, HQ.out]
  have HF2 : Hid (Fields w2 g fs vs) := HF.out.kept HG2.out hg hgb
  have hg2 : g < w2.heap.size := by have := HG2.out.size; omega
  clear hq r2
  go_wp2_with fail
  have hfi := find_any g cap fs vs ⟨nm.toArray⟩ w2 HF2.out hg2 HRi.out hl hc hcm
  have HFi : Hid (Calls Tryz.prog 99 #[.slice (some ⟨g, 0, none⟩) fs.length cap, .string ⟨nm.toArray⟩] w2 fun e w' => e = .returned (.tuple #[.int .i64 (placeOfName fs nm), .bool (fs.any fun f => f.1 == nm)]) ∧ Below w2.heap.size w2 w') := hfi
  clear hfi
  refine Calls.mono HFi.out ?_
  rintro e w3 ⟨rfl, b3⟩
  have HG3 : Hid (G b w w3) := HG2.out.below b3
  have HR3 : Hid (Rd b t q k w3) := HR2.out.below b3
  clear b3 HFi
  cases hany : (fs.any fun f => f.1 == nm) with
  | true =>
    have HA : Hid ((fs.any fun f => f.1 == nm) = true) := hany
    clear hany
    go_wp2_with fail
    go_ret3
    exact ⟨HG3.out, Or.inl ⟨5, by rw [HN.out, if_pos HA.out], by decide, by decide, rfl⟩⟩
  | false =>
    have HA : Hid ((fs.any fun f => f.1 == nm) = false) := hany
    have HTL : Hid ((skip (rest t q)).tail = rest t (skipAt t q + 1)) := by
      show (skip (rest t q)).tail = _
      rw [← rest_skip t q hqs, rest_tail]
    have hge := skipAt_ge t q hqs
    clear hany
    by_cases h58 : hd (skip (rest t q)) = 58
    · have H58 : Hid (hd (skip (rest t q)) = 58) := h58
      have hs1 : skipAt t q < t.size := lt_of_hd (by rw [rest_skip t q hqs, h58]; decide)
      clear h58
      go_wp2_with fail
      refine (takeSign_yes b t q k 58 _ HR3.out hqs ht H58.out (by decide)).mono ?_
      rintro e w4 ⟨rfl, g4, r4⟩
      have HG4 : Hid (G b w w4) := HG3.out.trans g4
      have HR4 : Hid (Rd b t (skipAt t q + 1) k w4) := r4
      clear g4 r4
      go_wp2_with fail
      go_ret3
      refine ⟨HG4.out, Or.inr ⟨nm, skipAt t q + 1, ?_, by omega, by omega, HA.out, rfl, HR4.out⟩⟩
      rw [HN.out, if_neg (by rw [HA.out]; decide), if_pos H58.out, HTL.out]
    · have H58 : Hid (hd (skip (rest t q)) ≠ 58) := h58
      clear h58
      go_wp2_with fail
      refine (takeSign_no b t q k 58 _ HR3.out hqs ht H58.out).mono ?_
      rintro e w4 ⟨rfl, g4, r4⟩
      have HG4 : Hid (G b w w4) := HG3.out.trans g4
      clear g4 r4
      go_wp2_with fail
      go_ret3
      exact ⟨HG4.out, Or.inl ⟨3, by rw [HN.out, if_neg (by rw [HA.out]; decide), if_neg H58.out], by decide, by decide, rfl⟩⟩
end Go.Proofs.YtaogilpkeeigoaaGreatDoor
