/-
  The contract of the tally's statements' awake: the chapter's examples.
-/
import Derived.Test.YtmnldkfkcfnkdaaTlLaw
namespace Go.Proofs.Ytmnldkfkcfnkdaa
open Go Go.RowKit Go.Maps

theorem pairs_lit {w : World} {b : Nat} {cs : Array Value} {t : TypeId} (l : List PairT) (hl : (l.flatMap PairT.cells).toArray = cs) (hlen : l.length ≤ 1000) (h : w.heap[b]? = some (.cells cs t (0, 0))) : Ls PairT.cells 2 w w.heap.size (some ⟨b, 0, none⟩) l.length l.length l := by
  refine ⟨rfl, Nat.le_refl _, by omega, fun _ => ⟨b, 0, rfl, (Array.getElem?_eq_some_iff.1 h).1, fun j a ha k v hv => ?_⟩, fun e => by cases e⟩
  have hk : k < 2 := by have := (List.getElem?_eq_some_iff.1 hv).1; exact this
  rw [Nat.zero_add, cell_of_row w b _ _ _ _ h, ← hl, List.getElem?_toArray, flat_get (cells := PairT.cells) (N := 2) (fun _ => rfl) (by decide) l j k hk, ha]
  exact hv
def exL : List PairT := [⟨1, 0⟩, ⟨1, 2⟩, ⟨2, 1⟩, ⟨3, 0⟩, ⟨3, 1⟩, ⟨3, 2⟩]
def exC : Array Value := #[.int .i64 1, .int .i64 0, .int .i64 1, .int .i64 2, .int .i64 2, .int .i64 1, .int .i64 3, .int .i64 0, .int .i64 3, .int .i64 1, .int .i64 3, .int .i64 2]
def exT : List (Int × Nat) := [(1, 5), (2, 2), (3, 7)]
def exU : List (Int × Nat) := [(1, 5), (2, 3), (3, 7)]
theorem ex_near : NearT 3 exL := by
  intro p hp
  simp only [exL, List.mem_cons, List.not_mem_nil, or_false] at hp
  rcases hp with rfl | rfl | rfl | rfl | rfl | rfl <;> decide
theorem ex_fold : foldT ((3 : Nat) : Int) exL = exT := by decide
theorem tnoted_ex (w : World) : Calls Try.prog 22 #[.int .i64 3, .slice (some ⟨w.heap.size, 0, none⟩) 6 6] (w.alloc (.cells exC 48)) fun e w' => ∃ h bm, e = .returned (.pointer (some ⟨h, 0, none⟩)) ∧ TQ w' h 3 bm exT ∧ Ext w w' ∧ w.heap.size ≤ h ∧ w.heap.size ≤ bm :=
  (tnoted_of (n := 3) (.inl rfl) (pairs_lit (t := 48) exL rfl (by decide) (heap_alloc_new w (.cells exC 48))) ex_near).mono fun e w' ⟨h, bm, he, hz, hx, h1, h2⟩ => by
    rw [World.size_alloc] at h1 h2
    exact ⟨h, bm, he, by rw [← ex_fold]; exact hz, ((Ext.refl w).alloc _).trans hx, by omega, by omega⟩
theorem tcount_lit {w : World} {h bm : Nat} {L : List (Int × Nat)} (z : TQ w h 3 bm L) (i : Int) (v : Int) (hi : (Lit.int .i64 i).wf = true) (hv : ((cntT 3 L i : Nat) : Int) = v) : Calls Try.prog 15 #[.pointer (some ⟨h, 0, none⟩), .int .i64 i] w fun e w' => e = .returned (.int .i64 v) ∧ Ext w w' := by
  have := tcount_of z i hi
  rw [show (((3 : Nat) : Int)) = 3 from rfl, hv] at this
  exact this
theorem tupto_lit {w : World} {h bm : Nat} {L : List (Int × Nat)} (z : TQ w h 3 bm L) (a : Int) (v : Int) (hi : (Lit.int .i64 a).wf = true) (hv : uptoT 3 L a = v) : Calls Try.prog 17 #[.pointer (some ⟨h, 0, none⟩), .int .i64 a] w fun e w' => e = .returned (.int .i64 v) ∧ Ext w w' := by
  have := tupto_of z a hi
  rw [show (((3 : Nat) : Int)) = 3 from rfl, hv] at this
  exact this
theorem tnote_lit {w : World} {h bm : Nat} {L M : List (Int × Nat)} (z : TQ w h 3 bm L) (i r : Int) (v : Int) (hv : ((errT 3 L i r : Nat) : Int) = v) (hm : noteT 3 L i r = M) : Calls Try.prog 11 #[.pointer (some ⟨h, 0, none⟩), .int .i64 i, .int .i64 r] w fun e w' => e = .returned (.int .i64 v) ∧ TQ w' h 3 bm M ∧ Mod (fun k => k = bm) w w' := by
  have := tnote_of z i r
  rw [show (((3 : Nat) : Int)) = 3 from rfl, hv, hm] at this
  exact this
set_option maxRecDepth 100000 in
set_option maxHeartbeats 3200000 in
theorem tawake_any (w : World) : Calls Try.prog 19 #[] w fun e w' => e = .returned (.bool true) ∧ Ext w w' := by
  have HN := Lib.hid (tnoted_ex w)
  unfold exC at HN
  go_enter Try.func19, Try.ntmps19
  go_wp2_with fail
  refine HN.out.mono ?_
  rintro e w1 ⟨q, bm, rfl, hz, hx, hq, hbm⟩
  have HZ := Lib.hid hz
  have HX := Lib.hid hx
  have HB := Lib.hid hbm
  clear hz hx hq hbm HN
  go_wp2_with fail
  refine (tnew_no 4 (by decide) _).mono ?_
  rintro e w2 ⟨rfl, rfl⟩
  go_wp2_with fail
  refine (tcount_lit HZ.out 1 2 (by decide) (by decide)).mono ?_
  rintro e w2 ⟨rfl, hx⟩
  have HZ := Lib.hid (HZ.out.ext hx)
  have HX := Lib.hid (HX.out.trans hx)
  clear hx
  go_wp2_with fail
  refine (tcount_lit HZ.out 2 1 (by decide) (by decide)).mono ?_
  rintro e w2 ⟨rfl, hx⟩
  have HZ := Lib.hid (HZ.out.ext hx)
  have HX := Lib.hid (HX.out.trans hx)
  clear hx
  go_wp2_with fail
  refine (tcount_lit HZ.out 3 3 (by decide) (by decide)).mono ?_
  rintro e w2 ⟨rfl, hx⟩
  have HZ := Lib.hid (HZ.out.ext hx)
  have HX := Lib.hid (HX.out.trans hx)
  clear hx
  go_wp2_with fail
  refine (tcount_lit HZ.out 4 0 (by decide) (by decide)).mono ?_
  rintro e w2 ⟨rfl, hx⟩
  have HZ := Lib.hid (HZ.out.ext hx)
  have HX := Lib.hid (HX.out.trans hx)
  clear hx
  go_wp2_with fail
  refine (tupto_lit HZ.out 0 1 (by decide) (by decide)).mono ?_
  rintro e w2 ⟨rfl, hx⟩
  have HZ := Lib.hid (HZ.out.ext hx)
  have HX := Lib.hid (HX.out.trans hx)
  clear hx
  go_wp2_with fail
  refine (tupto_lit HZ.out 1 1 (by decide) (by decide)).mono ?_
  rintro e w2 ⟨rfl, hx⟩
  have HZ := Lib.hid (HZ.out.ext hx)
  have HX := Lib.hid (HX.out.trans hx)
  clear hx
  go_wp2_with fail
  refine (tupto_lit HZ.out 2 3 (by decide) (by decide)).mono ?_
  rintro e w2 ⟨rfl, hx⟩
  have HZ := Lib.hid (HZ.out.ext hx)
  have HX := Lib.hid (HX.out.trans hx)
  clear hx
  go_wp2_with fail
  refine (tupto_lit HZ.out 9 9 (by decide) (by decide)).mono ?_
  rintro e w2 ⟨rfl, hx⟩
  have HZ := Lib.hid (HZ.out.ext hx)
  have HX := Lib.hid (HX.out.trans hx)
  clear hx
  go_wp2_with fail
  refine (tupto_lit HZ.out (-1) (-1) (by decide) (by decide)).mono ?_
  rintro e w2 ⟨rfl, hx⟩
  have HZ := Lib.hid (HZ.out.ext hx)
  have HX := Lib.hid (HX.out.trans hx)
  clear hx
  go_wp2_with fail
  refine (tnote_lit (M := exU) HZ.out 2 0 0 (by decide) (by decide)).mono ?_
  rintro e w2 ⟨rfl, hz, hm⟩
  have HZ := Lib.hid hz
  have HX := Lib.hid (show Ext w w2 from Below.mod HX.out hm HX.out.size (fun i hi => by have := HB.out; omega))
  clear hz hm
  go_wp2_with fail
  refine (tupto_lit HZ.out 0 3 (by decide) (by decide)).mono ?_
  rintro e w2 ⟨rfl, hx⟩
  have HZ := Lib.hid (HZ.out.ext hx)
  have HX := Lib.hid (HX.out.trans hx)
  clear hx
  go_wp2_with fail
  refine (tnote_lit (M := exU) HZ.out 0 1 2 (by decide) (by decide)).mono ?_
  rintro e w2 ⟨rfl, hz, hm⟩
  have HZ := Lib.hid hz
  have HX := Lib.hid (show Ext w w2 from Below.mod HX.out hm HX.out.size (fun i hi => by have := HB.out; omega))
  clear hz hm
  go_wp2_with fail
  refine (tnote_lit (M := exU) HZ.out 1 3 2 (by decide) (by decide)).mono ?_
  rintro e w2 ⟨rfl, hz, hm⟩
  have HZ := Lib.hid hz
  have HX := Lib.hid (show Ext w w2 from Below.mod HX.out hm HX.out.size (fun i hi => by have := HB.out; omega))
  clear hz hm
  go_wp2_with fail
  refine (tdrop_of HZ.out 2).mono ?_
  rintro e w2 ⟨rfl, hz, hm⟩
  have HZ := Lib.hid (show TQ w2 q 3 bm [(3, 7)] from hz)
  have HX := Lib.hid (show Ext w w2 from Below.mod HX.out hm HX.out.size (fun i hi => by have := HB.out; omega))
  clear hz hm
  go_wp2_with fail
  refine (tcount_lit HZ.out 2 0 (by decide) (by decide)).mono ?_
  rintro e w2 ⟨rfl, hx⟩
  have HZ := Lib.hid (HZ.out.ext hx)
  have HX := Lib.hid (HX.out.trans hx)
  clear hx
  go_wp2_with fail
  refine (tupto_lit HZ.out 0 0 (by decide) (by decide)).mono ?_
  rintro e w2 ⟨rfl, hx⟩
  have HZ := Lib.hid (HZ.out.ext hx)
  have HX := Lib.hid (HX.out.trans hx)
  clear hx
  go_wp2_with fail
  refine (tupto_lit HZ.out 2 3 (by decide) (by decide)).mono ?_
  rintro e w2 ⟨rfl, hx⟩
  have HZ := Lib.hid (HZ.out.ext hx)
  have HX := Lib.hid (HX.out.trans hx)
  clear hx
  go_wp2_with fail
  go_ret
  exact ⟨rfl, HX.out⟩
end Go.Proofs.Ytmnldkfkcfnkdaa
