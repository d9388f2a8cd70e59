/-
  The contracts of Read, the program's and the document's: the text that stands at a place of bytes, or which error.
-/
import Derived.Test.YtnlappoocffcpaaDoorOGet
import Derived.Laws.BytesString
import Derived.Laws.IdiomStrings
namespace Go.Proofs.YtnlappoocffcpaaDoor
set_option maxRecDepth 100000
open Go Go.RowKit

/-- A text of bytes given as numbers. -/
def str (l : List Nat) : ByteArray := ⟨(l.map UInt8.ofNat).toArray⟩

/-- What Read answers: the text's bytes, the place behind it, and which error (0: none). -/
def readS (l : List Nat) (at_ : Int) : List Nat × Nat × Int :=
  if (getS l at_ 1).2.2 ≠ 0 then ([], 0, (getS l at_ 1).2.2)
  else if l.length - (getS l at_ 1).2.1 < (getS l at_ 1).1 then ([], 0, 10)
  else ((l.drop (getS l at_ 1).2.1).take (getS l at_ 1).1, (getS l at_ 1).2.1 + (getS l at_ 1).1, 0)

theorem getS_one {l : List Nat} {a b : Nat} (hb : l[a]? = some b) : getS l (a : Int) 1 = (b, a + 1, 0) := by
  have ha : a < l.length := (List.getElem?_eq_some_iff.1 hb).1
  rw [getS_yes rfl (by omega) (by omega) (by omega)]
  have e : (l.drop a).take 1 = [b] := by
    have h0 : (l.drop a)[0]? = some b := by rw [List.getElem?_drop]; exact hb
    rw [List.take_add_one, h0]
    simp
  simp [e, num]
theorem getS_end {l : List Nat} : getS l (l.length : Int) 1 = (0, 0, 10) := getS_short rfl (by omega) (by omega) (by omega)
theorem readS_err {l : List Nat} {a e : Int} (h : getS l a 1 = (0, 0, e)) (he : e ≠ 0) : readS l a = ([], 0, e) := by
  unfold readS
  rw [h, if_pos he]
theorem readS_short {l : List Nat} {a b : Nat} (hb : l[a]? = some b) (h : l.length < a + 1 + b) : readS l (a : Int) = ([], 0, 10) := by
  have ha : a < l.length := (List.getElem?_eq_some_iff.1 hb).1
  unfold readS
  rw [getS_one hb, if_neg (by simp), if_pos (by simp only; omega)]
theorem readS_yes {l : List Nat} {a b : Nat} (hb : l[a]? = some b) (h : a + 1 + b ≤ l.length) : readS l (a : Int) = ((l.drop (a + 1)).take b, a + 1 + b, 0) := by
  unfold readS
  rw [getS_one hb, if_neg (by simp), if_neg (by simp only; omega)]

theorem conv_zero {P : Program} (w : World) (src dst e : TypeId) (A : Option Addr) (c : Nat) (hs : P.underlying src = some (.slice e)) (he : P.underlying e = some (.int .u8)) (hd : P.underlying dst = some .string) :
    (convert src dst (.slice A 0 c)).run P w = .ok (.string (str [])) w := by
  rw [run_convert_bytes_string w src dst e _ 0 c hs he hd]
  cases A with
  | none => simp [Conv.bytesToString]; rfl
  | some a =>
    have hl := run_loadCells_list (P := P) w a [] (fun j v hj => by simp at hj)
    rw [run_bytesToString w a 0 c [] hl]
    rfl
theorem conv_some {P : Program} {w : World} {B : Nat} {g o : Nat} {l : List Nat} (hr : Rd w B (some ⟨g, o, none⟩) l) (n c : Nat) (hl : l.length = n) (src dst e : TypeId) (hs : P.underlying src = some (.slice e)) (he : P.underlying e = some (.int .u8)) (hd : P.underlying dst = some .string) :
    (convert src dst (.slice (some ⟨g, o, none⟩) n c)).run P w = .ok (.string (str l)) w := by
  subst hl
  by_cases h0 : l.length = 0
  · rw [h0, List.eq_nil_of_length_eq_zero h0]
    exact conv_zero w src dst e _ c hs he hd
  · have e1 : (l.map UInt8.ofNat).length = l.length := by simp
    have h := run_convert_bytes_back (P := P) w src dst e ⟨g, o, none⟩ c (l.map UInt8.ofNat) hs he hd (fun j hj => by
      have hj' : j < l.length := by simpa using hj
      obtain ⟨g', o', x, hA, _, hx, hx2, hc⟩ := hr.at_ hj'
      injection hA with hA
      injection hA with h1 h2
      subst h1; subst h2
      rw [Addr.add_lit, hc]
      have : (l.map UInt8.ofNat)[j] = UInt8.ofNat x := by
        have h3 := List.getElem?_eq_some_iff.1 hx
        simp [h3.2]
      rw [this]
      simp [Nat.mod_eq_of_lt hx2])
    rw [e1] at h
    exact h

end Go.Proofs.YtnlappoocffcpaaDoor
