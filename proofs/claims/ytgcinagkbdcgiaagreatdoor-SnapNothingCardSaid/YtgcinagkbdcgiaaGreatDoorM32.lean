/-
  What SnapNothing's walk rests on: lists that are sifted; an Open that finds no manifest; what the ghost's calls tell of a shelf's disk.
-/
import Derived.Test.YtgcinagkbdcgiaaGreatDoorM00
import Derived.Test.YtgcinagkbdcgiaaGreatDoorM13
import Derived.Test.YtgcinagkbdcgiaaGreatDoorM14
import Derived.Test.YtgcinagkbdcgiaaGreatDoorM31
namespace Go.Proofs.YtgcinagkbdcgiaaGreatDoor
set_option maxRecDepth 100000
section
open Go Go.RowKit
theorem filt_get {p : Nat → Bool} : ∀ (l : List Nat) (i a : Nat), l[i]? = some a → p a = true → (l.filter p)[((l.take i).filter p).length]? = some a
  | [], i, a, h, _ => by simp at h
  | b :: l, 0, a, h, hp => by
    simp only [List.getElem?_cons_zero, Option.some.injEq] at h
    subst h
    simp [hp]
  | b :: l, i + 1, a, h, hp => by
    simp only [List.getElem?_cons_succ] at h
    have ih := filt_get l i a h hp
    rw [List.take_succ_cons]
    by_cases hb : p b = true
    · rw [List.filter_cons_of_pos hb, List.filter_cons_of_pos hb, List.length_cons, List.getElem?_cons_succ]
      exact ih
    · rw [List.filter_cons_of_neg hb, List.filter_cons_of_neg hb]
      exact ih
theorem filt_take {p : Nat → Bool} {l : List Nat} {i a : Nat} (h : l[i]? = some a) : ((l.take (i + 1)).filter p).length = ((l.take i).filter p).length + (if p a = true then 1 else 0) := by
  rw [List.take_add_one, h, List.filter_append, List.length_append]
  by_cases hp : p a = true
  · rw [if_pos hp]; simp [hp]
  · rw [if_neg hp]; simp [hp]
theorem filt_low {S : Nat → Bool} {k n : Nat} (h : k ≤ n) : ((List.range n).filter S).filter (fun x => decide (x < k)) = (List.range k).filter S := by
  obtain ⟨d, rfl⟩ := Nat.le.dest h
  clear h
  induction d with
  | zero =>
    rw [Nat.add_zero, List.filter_eq_self.2]
    intro x hx
    exact decide_eq_true (List.mem_range.1 (List.mem_filter.1 hx).1)
  | succ d ih =>
    rw [← Nat.add_assoc, List.range_succ, List.filter_append, List.filter_append, ih]
    have e : (List.filter S [k + d]).filter (fun x => decide (x < k)) = [] := by
      rw [List.filter_eq_nil_iff]
      intro x hx
      have := (List.mem_filter.1 hx).1
      rw [List.mem_singleton] at this
      simp
      omega
    rw [e, List.append_nil]
theorem filt_succ (S : Nat → Bool) (k : Nat) : (List.range (k + 1)).filter S = if S k = true then (List.range k).filter S ++ [k] else (List.range k).filter S := by
  rw [List.range_succ, List.filter_append]
  by_cases h : S k = true
  · rw [if_pos h]; simp [h]
  · rw [if_neg h]; simp [h]
theorem ldy_openBad {w0 w : World} {d : Nat} {F : Nat → Prop} {m : DM} (h : DK w0 w d F m) (hL : LaidY w0) (hd : CD m (-1)) (hE : m.loadE 2 2 = 70) :
    Calls Tryz.prog 27 #[.pointer (some ⟨d, 0, none⟩), .int .i64 2, .int .i64 2] w fun e w' => e = .returned (.tuple #[.pointer none, .int .i64 70]) ∧ Ext w w' := by
  have hw := hd.b.waits
  have hsz := hd.b.size
  have hld := LoadsY.of h.disk (hL.ext h.bel) 2 (knownY (by omega) hsz) (by rw [hw]; simp)
  have he : ldE3 (m.loadV 2 2) (m.loadB 2 2) (m.loadE 2 2) = 70 := by unfold ldE3; rw [hE, if_pos (by omega)]
  have := yopen_bad (p := some ⟨d, 0, none⟩) 2 m.size w (by rw [hsz]; omega) (inI_iff.2 (by omega)) (size_pd h.disk) hld (hL.ext h.bel) (loadB_lenY hd.b.ok 2 2) (by rw [he]; omega)
  rw [he] at this
  exact this
theorem ldy_seen {w0 w : World} {d : Nat} {F : Nat → Prop} {m : DM} (h : DK w0 w d F m) (hL : LaidY w0) (hd : CD m (-1)) : Calls Tryz.prog 44 #[.pointer (some ⟨d, 0, none⟩), .int .i64 2] w fun e w' => e = .returned (.tuple #[.bool (m.seenB 2), .int .i64 0]) ∧ Ext w w' :=
  seen_yes h.disk (hL.ext h.bel).f 2 (by rw [hd.b.size]; rfl)
theorem ldy_place {w0 w : World} {d : Nat} {F : Nat → Prop} {m : DM} (h : DK w0 w d F m) (hL : LaidY w0) (hd : CD m (-1)) (g p : Int) (hf : 0 ≤ firstS g p) :
    Calls Tryz.prog 45 #[.pointer (some ⟨d, 0, none⟩), .int .i64 2, .int .i64 g, .int .i64 p] w fun e w' => ∃ b, e = .returned (.tuple #[.bool (anyIn m.hurt (firstS g p) (wid g)), .bool b, .int .i64 0]) ∧ Ext w w' :=
  (place_yes h.disk (hL.ext h.bel).f 2 g p (by
    unfold placeG
    have e : knownG m.size 2 = 0 := by rw [hd.b.size]; rfl
    rw [e, if_neg (by omega), if_neg (by omega)])).mono fun e w' ⟨he, hx⟩ => ⟨_, he, hx⟩
end
end Go.Proofs.YtgcinagkbdcgiaaGreatDoor
