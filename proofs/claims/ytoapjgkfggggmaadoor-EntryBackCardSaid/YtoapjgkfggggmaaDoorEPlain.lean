/-
  Plain facts on entries: what the functions answer, told in one form; entries that are altered.
-/
import Derived.Test.YtoapjgkfggggmaaDoorEBody
namespace Go.Proofs.YtoapjgkfggggmaaDoor
set_option maxRecDepth 100000
open Go

/-- An entry's bytes, or none, and which error. -/
def eL (e : Ent) : List Nat := if enOk e = true then enL e else []
def eR (e : Ent) : Int := if enOk e = true then 0 else 2
theorem eL_yes {e : Ent} (h : enOk e = true) : eL e = enL e := if_pos h
theorem eR_yes {e : Ent} (h : enOk e = true) : eR e = 0 := if_pos h
theorem eL_no {e : Ent} (h : enOk e = false) : eL e = [] := by unfold eL; rw [h]; rfl
theorem eR_no {e : Ent} (h : enOk e = false) : eR e = 2 := by unfold eR; rw [h]; rfl
/-- A body's bytes, or none, and which error. -/
def pL (x y : Int) (e : Ent) : List Nat := if balE x y = true ∧ enOk e = true then bodyL x y e else []
def pR (x y : Int) (e : Ent) : Int := if balE x y = true ∧ enOk e = true then 0 else 2
theorem pL_yes {x y : Int} {e : Ent} (hb : balE x y = true) (h : enOk e = true) : pL x y e = bodyL x y e := if_pos ⟨hb, h⟩
theorem pR_yes {x y : Int} {e : Ent} (hb : balE x y = true) (h : enOk e = true) : pR x y e = 0 := if_pos ⟨hb, h⟩
theorem pL_nob {x y : Int} {e : Ent} (hb : balE x y = false) : pL x y e = [] := by unfold pL; rw [hb, if_neg (by simp)]
theorem pR_nob {x y : Int} {e : Ent} (hb : balE x y = false) : pR x y e = 2 := by unfold pR; rw [hb, if_neg (by simp)]
theorem pL_no {x y : Int} {e : Ent} (h : enOk e = false) : pL x y e = [] := by unfold pL; rw [h, if_neg (by simp)]
theorem pR_no {x y : Int} {e : Ent} (h : enOk e = false) : pR x y e = 2 := by unfold pR; rw [h, if_neg (by simp)]
/-- What is read at a place: the entry, the place behind it, and which error. -/
def rdE (l : List Nat) (a : Int) : Ent × Nat × Int := if a < 0 ∨ (l.length : Int) < a then ({}, 0, 2) else match enR l a.toNat with | some (e, n) => (e, n, 0) | none => ({}, 0, 90)
theorem rdE_arg {l : List Nat} {a : Int} (h : a < 0 ∨ (l.length : Int) < a) : rdE l a = ({}, 0, 2) := if_pos h
theorem rdE_some {l : List Nat} {a n : Nat} {e : Ent} (ha : a ≤ l.length) (h : enR l a = some (e, n)) : rdE l (a : Int) = (e, n, 0) := by
  unfold rdE
  rw [if_neg (by omega), Int.toNat_natCast, h]
theorem rdE_none {l : List Nat} {a : Nat} (ha : a ≤ l.length) (h : enR l a = none) : rdE l (a : Int) = ({}, 0, 90) := by
  unfold rdE
  rw [if_neg (by omega), Int.toNat_natCast, h]
/-- The body that bytes are: the ballot, the entry, and which error. -/
def psE (l : List Nat) : Nat × Nat × Ent × Int := match bdR l with | some (x, y, e) => (x, y, e, 0) | none => (0, 0, {}, 90)
theorem psE_some {l : List Nat} {x y : Nat} {e : Ent} (h : bdR l = some (x, y, e)) : psE l = (x, y, e, 0) := by unfold psE; rw [h]
theorem psE_none {l : List Nat} (h : bdR l = none) : psE l = (0, 0, {}, 90) := by unfold psE; rw [h]
theorem enR_no {l : List Nat} {a n : Nat} {e : Ent} (h : enRaw l a = some (e, n)) (hk : enOk e = false) : enR l a = none := by unfold enR; rw [h]; simp [hk]
theorem enR_yes {l : List Nat} {a n : Nat} {e : Ent} (h : enRaw l a = some (e, n)) (hk : enOk e = true) : enR l a = some (e, n) := by unfold enR; rw [h]; simp [hk]
theorem enR_raw {l : List Nat} {a : Nat} (h : enRaw l a = none) : enR l a = none := by unfold enR; rw [h]; rfl
theorem enRaw_noop {l : List Nat} {a : Nat} (h : l[a]? = some 1) : enRaw l a = some ({ k := 1 }, a + 1) := by unfold enRaw; rw [if_pos h]
theorem enRaw_op {l : List Nat} {a b1 b2 b3 : Nat} {s1 s2 s3 : ByteArray} (h : l[a]? = some 2) (h9 : a + 9 ≤ l.length) (r1 : rdT l (a + 9) = some (s1, b1)) (r2 : rdT l b1 = some (s2, b2)) (r3 : rdT l b2 = some (s3, b3)) :
    enRaw l a = some ({ k := 2, cl := (l.getD (a + 1) 0 : Nat), sq := (num ((l.drop (a + 2)).take 6) : Nat), ok := l.getD (a + 8) 0, key := s1, old := s2, val := s3 }, b3) := by
  unfold enRaw
  rw [if_neg (by rw [h]; simp), if_pos ⟨h, h9⟩, r1]
  simp only [Option.bind_some]
  rw [r2]
  simp only [Option.bind_some]
  rw [r3]
  rfl
theorem enRaw_kind {l : List Nat} {a x : Nat} (h : l[a]? = some x) (h1 : x ≠ 1) (h2 : x ≠ 2) : enRaw l a = none := by
  unfold enRaw
  rw [if_neg (by rw [h]; simpa using h1), if_neg (by rw [h]; simp [h2])]
theorem enRaw_end {l : List Nat} {a : Nat} (h : l.length ≤ a) : enRaw l a = none := by
  unfold enRaw
  rw [if_neg (by rw [List.getElem?_eq_none h]; simp), if_neg (by rw [List.getElem?_eq_none h]; simp)]
theorem enRaw_nine {l : List Nat} {a : Nat} (h : l[a]? = some 2) (h9 : l.length < a + 9) : enRaw l a = none := by
  unfold enRaw
  rw [if_neg (by rw [h]; simp), if_neg (by omega)]
theorem enRaw_t1 {l : List Nat} {a : Nat} (h : l[a]? = some 2) (r1 : rdT l (a + 9) = none) : enRaw l a = none := by
  unfold enRaw
  rw [if_neg (by rw [h]; simp), r1]
  split <;> rfl
theorem enRaw_t2 {l : List Nat} {a b1 : Nat} {s1 : ByteArray} (h : l[a]? = some 2) (r1 : rdT l (a + 9) = some (s1, b1)) (r2 : rdT l b1 = none) : enRaw l a = none := by
  unfold enRaw
  rw [if_neg (by rw [h]; simp), r1]
  split
  · simp only [Option.bind_some]
    rw [r2]
    rfl
  · rfl
theorem enRaw_t3 {l : List Nat} {a b1 b2 : Nat} {s1 s2 : ByteArray} (h : l[a]? = some 2) (r1 : rdT l (a + 9) = some (s1, b1)) (r2 : rdT l b1 = some (s2, b2)) (r3 : rdT l b2 = none) : enRaw l a = none := by
  unfold enRaw
  rw [if_neg (by rw [h]; simp), r1]
  split
  · simp only [Option.bind_some]
    rw [r2]
    simp only [Option.bind_some]
    rw [r3]
    rfl
  · rfl
/-- An entry that is altered so may not be. -/
theorem bad_of {e : Ent} (h : ¬ ((e.k = 1 ∧ e.cl = 0 ∧ e.sq = 0 ∧ e.ok = 0 ∧ e.key.size = 0 ∧ e.old.size = 0 ∧ e.val.size = 0) ∨ (e.k = 2 ∧ 0 ≤ e.cl ∧ e.cl ≤ 3 ∧ 1 ≤ e.sq ∧ e.sq ≤ 1099511627776 ∧ (1 ≤ e.key.size ∧ e.key.size ≤ 8 ∧ e.old.size ≤ 16 ∧ e.val.size ≤ 16 ∧ (((e.ok = 1 ∨ e.ok = 3) ∧ e.old.size = 0 ∧ e.val.size = 0) ∨ (e.ok = 2 ∧ e.old.size = 0) ∨ e.ok = 4)) ∧ e.ok ≠ 1))) : enOk e = false := by
  rw [Bool.eq_false_iff]
  intro hk
  have := enOk_iff.1 hk
  rw [opOk_iff] at this
  exact h this
theorem good_of {e : Ent} (h : enOk e = true) : ((e.k = 1 ∧ e.cl = 0 ∧ e.sq = 0 ∧ e.ok = 0 ∧ e.key.size = 0 ∧ e.old.size = 0 ∧ e.val.size = 0) ∨ (e.k = 2 ∧ 0 ≤ e.cl ∧ e.cl ≤ 3 ∧ 1 ≤ e.sq ∧ e.sq ≤ 1099511627776 ∧ (1 ≤ e.key.size ∧ e.key.size ≤ 8 ∧ e.old.size ≤ 16 ∧ e.val.size ≤ 16 ∧ (((e.ok = 1 ∨ e.ok = 3) ∧ e.old.size = 0 ∧ e.val.size = 0) ∨ (e.ok = 2 ∧ e.old.size = 0) ∨ e.ok = 4)) ∧ e.ok ≠ 1)) := by
  have := enOk_iff.1 h
  rw [opOk_iff] at this
  exact this
end Go.Proofs.YtoapjgkfggggmaaDoor
