/-
  Plain facts on entries' bytes one behind the other.
-/
import Derived.Test.YtoapjgkfggggmaaDoorEPlain
namespace Go.Proofs.YtoapjgkfggggmaaDoor
open Go

/-- Entries' bytes, one behind the other. -/
def allL : List Ent → List Nat
  | [] => []
  | e :: r => enL e ++ allL r
theorem allL_append (a b : List Ent) : allL (a ++ b) = allL a ++ allL b := by
  induction a with
  | nil => rfl
  | cons e r ih => rw [List.cons_append, allL, ih, allL, List.append_assoc]
theorem allL_snoc {l : List Ent} {j : Nat} {e : Ent} (h : l[j]? = some e) : allL (l.take (j + 1)) = allL (l.take j) ++ enL e := by
  rw [List.take_add_one, h, allL_append]
  simp [allL]
theorem allL_len {l : List Ent} (h : ∀ e ∈ l, enOk e = true) : (allL l).length ≤ 52 * l.length := by
  induction l with
  | nil => simp [allL]
  | cons e r ih =>
    have h1 := enL_len (h e (by simp))
    have h2 := ih fun x hx => h x (by simp [hx])
    rw [allL, List.length_append, List.length_cons]
    omega
theorem allL_split {l : List Ent} {j : Nat} {e : Ent} (h : l[j]? = some e) : allL l = allL (l.take j) ++ enL e ++ allL (l.drop (j + 1)) := by
  have hj : j < l.length := (List.getElem?_eq_some_iff.1 h).1
  conv => lhs; rw [← List.take_append_drop (j + 1) l]
  rw [allL_append, allL_snoc h]
/-- What is read of them. -/
theorem row_read {l : List Ent} {j : Nat} {e : Ent} (ah : List Nat) (h : l[j]? = some e) (hk : enOk e = true) :
    rdE (ah ++ allL l) ((ah.length + (allL (l.take j)).length : Nat) : Int) = (e, ah.length + (allL (l.take (j + 1))).length, 0) := by
  have hs : ah ++ allL l = (ah ++ allL (l.take j)) ++ enL e ++ allL (l.drop (j + 1)) := by rw [allL_split h]; simp
  have hr := en_back hk (ah ++ allL (l.take j)) (allL (l.drop (j + 1)))
  rw [← hs] at hr
  rw [List.length_append] at hr
  rw [rdE_some ?_ hr]
  · rw [allL_snoc h, List.length_append]
    simp only [Nat.add_assoc]
  · rw [hs]
    simp only [List.length_append]
    omega
theorem row_end (ah : List Nat) (l : List Ent) : rdE (ah ++ allL l) ((ah.length + (allL l).length : Nat) : Int) = ({}, 0, 90) :=
  rdE_none (by rw [List.length_append]; exact Nat.le_refl _) (enR_raw (enRaw_end (by rw [List.length_append]; exact Nat.le_refl _)))
end Go.Proofs.YtoapjgkfggggmaaDoor
