/-
  The document's Which and Load over the document's disk.
  The contract of the statements' tells: what the program's disk tells, what the document's tells, and what of it is overwritten.
  The program's disk and the document's disk side by side: an act at either leaves the other as it was.
  Steps of a disk, one behind the other.
-/
import Derived.Test.YtlikhmhomkiadaaGreatDoorR07
import Derived.Test.YtlikhmhomkiadaaGreatDoorR08
import Derived.Test.YtlikhmhomkiadaaGreatDoorR19
import Derived.Test.YtlikhmhomkiadaaGreatDoorR25
import Derived.Test.YtlikhmhomkiadaaGreatDoorR28
namespace Go.Proofs.YtlikhmhomkiadaaGreatDoor
open Go Go.RowKit

/-- Which copy is loaded, case by case. -/
theorem which_both {r g : Int} {x y : List Nat} (ha : stM x r g 0 = 1) (hb : stM y r g 1 = 1) : (mfl x r g 0 3 < mfl y r g 1 3 → atC r g x y = 1) ∧ (¬ mfl x r g 0 3 < mfl y r g 1 3 → atC r g x y = 0) := by
  unfold atC pickP lead0 lead1
  rw [ha, hb]
  refine ⟨fun h => ?_, fun h => ?_⟩
  · rw [decide_eq_false (p := mfl y r g 1 3 ≤ mfl x r g 0 3) (by omega), decide_eq_true (p := mfl x r g 0 3 ≤ mfl y r g 1 3) (by omega)]
    rfl
  · rw [decide_eq_true (p := mfl y r g 1 3 ≤ mfl x r g 0 3) (by omega)]
    rfl
theorem which_first {r g : Int} {x y : List Nat} (ha : stM x r g 0 = 1) (hb : stM y r g 1 ≠ 1) : atC r g x y = 0 := by
  unfold atC pickP lead0
  rw [ha, no_copy hb]
  simp
theorem which_second {r g : Int} {x y : List Nat} (ha : stM x r g 0 ≠ 1) (hb : stM y r g 1 = 1) : atC r g x y = 1 := by
  unfold atC pickP lead0 lead1
  rw [hb, no_copy ha, decide_eq_false ha]
  simp
theorem which_none {r g : Int} {x y : List Nat} (ha : stM x r g 0 ≠ 1) (hb : stM y r g 1 ≠ 1) : atC r g x y = -1 := by
  unfold atC pickP lead0 lead1
  rw [decide_eq_false ha, decide_eq_false hb]
  rfl
theorem cellE_at {r g : Int} {x y : List Nat} (h : atC r g x y ≠ -1) : cellE r g x y = 0 := by unfold cellE; rw [if_neg (fun k => h k.1)]
theorem cellE_blank {r g : Int} {x y : List Nat} (h : stM x r g 0 = 0 ∨ stM y r g 1 = 0) : cellE r g x y = 0 := by
  unfold cellE blankC pickP
  rcases h with h | h
  · rw [h]; rw [if_neg (by simp)]
  · rw [h]
    by_cases h0 : stM x r g 0 = 0
    · rw [if_neg (by simp [h0])]
    · rw [if_neg (by simp [h0])]
theorem cellE_bad {r g : Int} {x y : List Nat} (ha : stM x r g 0 ≠ 1) (hb : stM y r g 1 ≠ 1) (ha0 : stM x r g 0 ≠ 0) (hb0 : stM y r g 1 ≠ 0) : cellE r g x y = 70 := by
  unfold cellE blankC pickP
  rw [which_none ha hb, decide_eq_false ha0, decide_eq_false hb0]
  rfl

set_option maxRecDepth 100000 in
set_option maxHeartbeats 1600000 in
theorem rwhich_of {w : World} {d : Nat} {p : Nat → Nat} {m : DM} (h : RD w d p m) (r g : Int) (hfew : m.waits.length ≤ 1000000) :
    Calls Tryz.prog 68 #[.pointer (some ⟨d, 0, none⟩), .int .i64 r, .int .i64 g] w fun e w' => e = .returned (.tuple #[.int .i64 (atC r g (m.cb g 0) (m.cb g 1)), .int .i64 (cellE r g (m.cb g 0) (m.cb g 1))]) ∧ Ext w w' := by
  have H := Lib.hid h
  have hm0 := fun V (hx : Ext w V) => rcmine_of (h.ext hx) r g 0 hfew
  have hm1 := fun V (hx : Ext w V) => rcmine_of (h.ext hx) r g 1 hfew
  obtain ⟨x, hx⟩ : ∃ x, m.cb g 0 = x := ⟨_, rfl⟩
  obtain ⟨y, hy⟩ : ∃ y, m.cb g 1 = y := ⟨_, rfl⟩
  rw [hx] at hm0
  rw [hy] at hm1
  rw [hx, hy]
  have HM0 := Lib.hid hm0
  have HM1 := Lib.hid hm1
  clear h hm0 hm1 hx hy hfew
  by_cases ha : stM x r g 0 = 1
  · by_cases hb : stM y r g 1 = 1
    · by_cases hv : mfl x r g 0 3 < mfl y r g 1 3
      · have HR : Hid (atC r g x y = 1 ∧ cellE r g x y = 0) := Lib.hid ⟨(which_both ha hb).1 hv, cellE_at (by rw [(which_both ha hb).1 hv]; omega)⟩
        have ea1 : (((stM x r g 0) : Int) == 1) = true := by rw [ha]; rfl
        have eb1 : (((stM y r g 1) : Int) == 1) = true := by rw [hb]; rfl
        rw [HR.out.1, HR.out.2]
        have HX := Lib.hid (Ext.refl w)
        generalize stM x r g 0 = sa at *
        generalize stM y r g 1 = sb at *
        generalize hva : mfl x r g 0 3 = va at *
        generalize hvb : mfl y r g 1 3 = vb at *
        clear hva hvb ha hb
        go_enter Tryz.func68, Tryz.ntmps68
        go_wp2_with fail
        refine (HM0.out _ HX.out).mono ?_
        rintro e w1 ⟨A0, N0, k0, rfl, _, hx⟩
        have HX := Lib.hid (HX.out.trans hx)
        have HX := Lib.hid (HX.out.alloc (.cells #[.int .i64 (mfl x r g 0 0 : Nat), .int .i64 (mfl x r g 0 1 : Nat), .int .i64 (mfl x r g 0 2 : Nat), .int .i64 (va : Nat), .int .i64 (mfl x r g 0 4 : Nat)] 33))
        have HT0 := Lib.hid (heap_alloc_new w1 (.cells #[.int .i64 (mfl x r g 0 0 : Nat), .int .i64 (mfl x r g 0 1 : Nat), .int .i64 (mfl x r g 0 2 : Nat), .int .i64 (va : Nat), .int .i64 (mfl x r g 0 4 : Nat)] 33))
        clear hx
        go_wp2_with fail
        refine (HM1.out _ HX.out).mono ?_
        rintro e w2 ⟨A1, N1, k1, rfl, _, hx⟩
        have HX := Lib.hid (HX.out.trans hx)
        have HT0 := Lib.hid ((hx.block _ (Array.getElem?_eq_some_iff.1 HT0.out).1).trans HT0.out)
        have HT0 := Lib.hid ((heap_alloc_old w2 (.cells #[.int .i64 (mfl y r g 1 0 : Nat), .int .i64 (mfl y r g 1 1 : Nat), .int .i64 (mfl y r g 1 2 : Nat), .int .i64 (vb : Nat), .int .i64 (mfl y r g 1 4 : Nat)] 33) (Array.getElem?_eq_some_iff.1 HT0.out).1).trans HT0.out)
        have HT1 := Lib.hid (heap_alloc_new w2 (.cells #[.int .i64 (mfl y r g 1 0 : Nat), .int .i64 (mfl y r g 1 1 : Nat), .int .i64 (mfl y r g 1 2 : Nat), .int .i64 (vb : Nat), .int .i64 (mfl y r g 1 4 : Nat)] 33))
        have HX := Lib.hid (HX.out.alloc (.cells #[.int .i64 (mfl y r g 1 0 : Nat), .int .i64 (mfl y r g 1 1 : Nat), .int .i64 (mfl y r g 1 2 : Nat), .int .i64 (vb : Nat), .int .i64 (mfl y r g 1 4 : Nat)] 33))
        clear hx
        obtain ⟨⟨_, _, _, x3, _⟩, _⟩ := five_cells HT0.out
        obtain ⟨⟨_, _, _, y3, _⟩, _⟩ := five_cells HT1.out
        go_wp2_with fail
        refine bodyPost_ret (v := .tuple #[.int .i64 (1), .int .i64 0]) (by simp [results, Tryz.results68, go_sem]) rfl ⟨rfl, HX.out⟩
      · have HR : Hid (atC r g x y = 0 ∧ cellE r g x y = 0) := Lib.hid ⟨(which_both ha hb).2 hv, cellE_at (by rw [(which_both ha hb).2 hv]; omega)⟩
        have ea1 : (((stM x r g 0) : Int) == 1) = true := by rw [ha]; rfl
        have eb1 : (((stM y r g 1) : Int) == 1) = true := by rw [hb]; rfl
        rw [HR.out.1, HR.out.2]
        have HX := Lib.hid (Ext.refl w)
        generalize stM x r g 0 = sa at *
        generalize stM y r g 1 = sb at *
        generalize hva : mfl x r g 0 3 = va at *
        generalize hvb : mfl y r g 1 3 = vb at *
        clear hva hvb ha hb
        go_enter Tryz.func68, Tryz.ntmps68
        go_wp2_with fail
        refine (HM0.out _ HX.out).mono ?_
        rintro e w1 ⟨A0, N0, k0, rfl, _, hx⟩
        have HX := Lib.hid (HX.out.trans hx)
        have HX := Lib.hid (HX.out.alloc (.cells #[.int .i64 (mfl x r g 0 0 : Nat), .int .i64 (mfl x r g 0 1 : Nat), .int .i64 (mfl x r g 0 2 : Nat), .int .i64 (va : Nat), .int .i64 (mfl x r g 0 4 : Nat)] 33))
        have HT0 := Lib.hid (heap_alloc_new w1 (.cells #[.int .i64 (mfl x r g 0 0 : Nat), .int .i64 (mfl x r g 0 1 : Nat), .int .i64 (mfl x r g 0 2 : Nat), .int .i64 (va : Nat), .int .i64 (mfl x r g 0 4 : Nat)] 33))
        clear hx
        go_wp2_with fail
        refine (HM1.out _ HX.out).mono ?_
        rintro e w2 ⟨A1, N1, k1, rfl, _, hx⟩
        have HX := Lib.hid (HX.out.trans hx)
        have HT0 := Lib.hid ((hx.block _ (Array.getElem?_eq_some_iff.1 HT0.out).1).trans HT0.out)
        have HT0 := Lib.hid ((heap_alloc_old w2 (.cells #[.int .i64 (mfl y r g 1 0 : Nat), .int .i64 (mfl y r g 1 1 : Nat), .int .i64 (mfl y r g 1 2 : Nat), .int .i64 (vb : Nat), .int .i64 (mfl y r g 1 4 : Nat)] 33) (Array.getElem?_eq_some_iff.1 HT0.out).1).trans HT0.out)
        have HT1 := Lib.hid (heap_alloc_new w2 (.cells #[.int .i64 (mfl y r g 1 0 : Nat), .int .i64 (mfl y r g 1 1 : Nat), .int .i64 (mfl y r g 1 2 : Nat), .int .i64 (vb : Nat), .int .i64 (mfl y r g 1 4 : Nat)] 33))
        have HX := Lib.hid (HX.out.alloc (.cells #[.int .i64 (mfl y r g 1 0 : Nat), .int .i64 (mfl y r g 1 1 : Nat), .int .i64 (mfl y r g 1 2 : Nat), .int .i64 (vb : Nat), .int .i64 (mfl y r g 1 4 : Nat)] 33))
        clear hx
        obtain ⟨⟨_, _, _, x3, _⟩, _⟩ := five_cells HT0.out
        obtain ⟨⟨_, _, _, y3, _⟩, _⟩ := five_cells HT1.out
        go_wp2_with fail
        refine bodyPost_ret (v := .tuple #[.int .i64 (0), .int .i64 0]) (by simp [results, Tryz.results68, go_sem]) rfl ⟨rfl, HX.out⟩
    · have HR : Hid (atC r g x y = 0 ∧ cellE r g x y = 0) := Lib.hid ⟨which_first ha hb, cellE_at (by rw [which_first ha hb]; omega)⟩
      have ea1 : (((stM x r g 0) : Int) == 1) = true := by rw [ha]; rfl
      have eb1 : (((stM y r g 1) : Int) == 1) = false := by rw [beq_eq_false_iff_ne]; intro h; exact hb (by omega)
      rw [HR.out.1, HR.out.2]
      have HX := Lib.hid (Ext.refl w)
      generalize stM x r g 0 = sa at *
      generalize stM y r g 1 = sb at *
      generalize hva : mfl x r g 0 3 = va at *
      generalize hvb : mfl y r g 1 3 = vb at *
      clear hva hvb ha hb
      go_enter Tryz.func68, Tryz.ntmps68
      go_wp2_with fail
      refine (HM0.out _ HX.out).mono ?_
      rintro e w1 ⟨A0, N0, k0, rfl, _, hx⟩
      have HX := Lib.hid (HX.out.trans hx)
      have HX := Lib.hid (HX.out.alloc (.cells #[.int .i64 (mfl x r g 0 0 : Nat), .int .i64 (mfl x r g 0 1 : Nat), .int .i64 (mfl x r g 0 2 : Nat), .int .i64 (va : Nat), .int .i64 (mfl x r g 0 4 : Nat)] 33))
      have HT0 := Lib.hid (heap_alloc_new w1 (.cells #[.int .i64 (mfl x r g 0 0 : Nat), .int .i64 (mfl x r g 0 1 : Nat), .int .i64 (mfl x r g 0 2 : Nat), .int .i64 (va : Nat), .int .i64 (mfl x r g 0 4 : Nat)] 33))
      clear hx
      go_wp2_with fail
      refine (HM1.out _ HX.out).mono ?_
      rintro e w2 ⟨A1, N1, k1, rfl, _, hx⟩
      have HX := Lib.hid (HX.out.trans hx)
      have HT0 := Lib.hid ((hx.block _ (Array.getElem?_eq_some_iff.1 HT0.out).1).trans HT0.out)
      have HT0 := Lib.hid ((heap_alloc_old w2 (.cells #[.int .i64 (mfl y r g 1 0 : Nat), .int .i64 (mfl y r g 1 1 : Nat), .int .i64 (mfl y r g 1 2 : Nat), .int .i64 (vb : Nat), .int .i64 (mfl y r g 1 4 : Nat)] 33) (Array.getElem?_eq_some_iff.1 HT0.out).1).trans HT0.out)
      have HT1 := Lib.hid (heap_alloc_new w2 (.cells #[.int .i64 (mfl y r g 1 0 : Nat), .int .i64 (mfl y r g 1 1 : Nat), .int .i64 (mfl y r g 1 2 : Nat), .int .i64 (vb : Nat), .int .i64 (mfl y r g 1 4 : Nat)] 33))
      have HX := Lib.hid (HX.out.alloc (.cells #[.int .i64 (mfl y r g 1 0 : Nat), .int .i64 (mfl y r g 1 1 : Nat), .int .i64 (mfl y r g 1 2 : Nat), .int .i64 (vb : Nat), .int .i64 (mfl y r g 1 4 : Nat)] 33))
      clear hx
      go_wp2_with fail
      refine bodyPost_ret (v := .tuple #[.int .i64 (0), .int .i64 0]) (by simp [results, Tryz.results68, go_sem]) rfl ⟨rfl, HX.out⟩
  · by_cases hb : stM y r g 1 = 1
    · have HR : Hid (atC r g x y = 1 ∧ cellE r g x y = 0) := Lib.hid ⟨which_second ha hb, cellE_at (by rw [which_second ha hb]; omega)⟩
      have ea1 : (((stM x r g 0) : Int) == 1) = false := by rw [beq_eq_false_iff_ne]; intro h; exact ha (by omega)
      have eb1 : (((stM y r g 1) : Int) == 1) = true := by rw [hb]; rfl
      rw [HR.out.1, HR.out.2]
      have HX := Lib.hid (Ext.refl w)
      generalize stM x r g 0 = sa at *
      generalize stM y r g 1 = sb at *
      generalize hva : mfl x r g 0 3 = va at *
      generalize hvb : mfl y r g 1 3 = vb at *
      clear hva hvb ha hb
      go_enter Tryz.func68, Tryz.ntmps68
      go_wp2_with fail
      refine (HM0.out _ HX.out).mono ?_
      rintro e w1 ⟨A0, N0, k0, rfl, _, hx⟩
      have HX := Lib.hid (HX.out.trans hx)
      have HX := Lib.hid (HX.out.alloc (.cells #[.int .i64 (mfl x r g 0 0 : Nat), .int .i64 (mfl x r g 0 1 : Nat), .int .i64 (mfl x r g 0 2 : Nat), .int .i64 (va : Nat), .int .i64 (mfl x r g 0 4 : Nat)] 33))
      have HT0 := Lib.hid (heap_alloc_new w1 (.cells #[.int .i64 (mfl x r g 0 0 : Nat), .int .i64 (mfl x r g 0 1 : Nat), .int .i64 (mfl x r g 0 2 : Nat), .int .i64 (va : Nat), .int .i64 (mfl x r g 0 4 : Nat)] 33))
      clear hx
      go_wp2_with fail
      refine (HM1.out _ HX.out).mono ?_
      rintro e w2 ⟨A1, N1, k1, rfl, _, hx⟩
      have HX := Lib.hid (HX.out.trans hx)
      have HT0 := Lib.hid ((hx.block _ (Array.getElem?_eq_some_iff.1 HT0.out).1).trans HT0.out)
      have HT0 := Lib.hid ((heap_alloc_old w2 (.cells #[.int .i64 (mfl y r g 1 0 : Nat), .int .i64 (mfl y r g 1 1 : Nat), .int .i64 (mfl y r g 1 2 : Nat), .int .i64 (vb : Nat), .int .i64 (mfl y r g 1 4 : Nat)] 33) (Array.getElem?_eq_some_iff.1 HT0.out).1).trans HT0.out)
      have HT1 := Lib.hid (heap_alloc_new w2 (.cells #[.int .i64 (mfl y r g 1 0 : Nat), .int .i64 (mfl y r g 1 1 : Nat), .int .i64 (mfl y r g 1 2 : Nat), .int .i64 (vb : Nat), .int .i64 (mfl y r g 1 4 : Nat)] 33))
      have HX := Lib.hid (HX.out.alloc (.cells #[.int .i64 (mfl y r g 1 0 : Nat), .int .i64 (mfl y r g 1 1 : Nat), .int .i64 (mfl y r g 1 2 : Nat), .int .i64 (vb : Nat), .int .i64 (mfl y r g 1 4 : Nat)] 33))
      clear hx
      go_wp2_with fail
      refine bodyPost_ret (v := .tuple #[.int .i64 (1), .int .i64 0]) (by simp [results, Tryz.results68, go_sem]) rfl ⟨rfl, HX.out⟩
    · by_cases ha0 : stM x r g 0 = 0
      · have HR : Hid (atC r g x y = -1 ∧ cellE r g x y = 0) := Lib.hid ⟨which_none ha hb, cellE_blank (.inl ha0)⟩
        have ea1 : (((stM x r g 0) : Int) == 1) = false := by rw [beq_eq_false_iff_ne]; intro h; exact ha (by omega)
        have eb1 : (((stM y r g 1) : Int) == 1) = false := by rw [beq_eq_false_iff_ne]; intro h; exact hb (by omega)
        have ea0 : (((stM x r g 0) : Int) == 0) = true := by rw [ha0]; rfl
        rw [HR.out.1, HR.out.2]
        have HX := Lib.hid (Ext.refl w)
        generalize stM x r g 0 = sa at *
        generalize stM y r g 1 = sb at *
        generalize hva : mfl x r g 0 3 = va at *
        generalize hvb : mfl y r g 1 3 = vb at *
        clear hva hvb ha hb ha0
        go_enter Tryz.func68, Tryz.ntmps68
        go_wp2_with fail
        refine (HM0.out _ HX.out).mono ?_
        rintro e w1 ⟨A0, N0, k0, rfl, _, hx⟩
        have HX := Lib.hid (HX.out.trans hx)
        have HX := Lib.hid (HX.out.alloc (.cells #[.int .i64 (mfl x r g 0 0 : Nat), .int .i64 (mfl x r g 0 1 : Nat), .int .i64 (mfl x r g 0 2 : Nat), .int .i64 (va : Nat), .int .i64 (mfl x r g 0 4 : Nat)] 33))
        have HT0 := Lib.hid (heap_alloc_new w1 (.cells #[.int .i64 (mfl x r g 0 0 : Nat), .int .i64 (mfl x r g 0 1 : Nat), .int .i64 (mfl x r g 0 2 : Nat), .int .i64 (va : Nat), .int .i64 (mfl x r g 0 4 : Nat)] 33))
        clear hx
        go_wp2_with fail
        refine (HM1.out _ HX.out).mono ?_
        rintro e w2 ⟨A1, N1, k1, rfl, _, hx⟩
        have HX := Lib.hid (HX.out.trans hx)
        have HT0 := Lib.hid ((hx.block _ (Array.getElem?_eq_some_iff.1 HT0.out).1).trans HT0.out)
        have HT0 := Lib.hid ((heap_alloc_old w2 (.cells #[.int .i64 (mfl y r g 1 0 : Nat), .int .i64 (mfl y r g 1 1 : Nat), .int .i64 (mfl y r g 1 2 : Nat), .int .i64 (vb : Nat), .int .i64 (mfl y r g 1 4 : Nat)] 33) (Array.getElem?_eq_some_iff.1 HT0.out).1).trans HT0.out)
        have HT1 := Lib.hid (heap_alloc_new w2 (.cells #[.int .i64 (mfl y r g 1 0 : Nat), .int .i64 (mfl y r g 1 1 : Nat), .int .i64 (mfl y r g 1 2 : Nat), .int .i64 (vb : Nat), .int .i64 (mfl y r g 1 4 : Nat)] 33))
        have HX := Lib.hid (HX.out.alloc (.cells #[.int .i64 (mfl y r g 1 0 : Nat), .int .i64 (mfl y r g 1 1 : Nat), .int .i64 (mfl y r g 1 2 : Nat), .int .i64 (vb : Nat), .int .i64 (mfl y r g 1 4 : Nat)] 33))
        clear hx
        go_wp2_with fail
        refine bodyPost_ret (v := .tuple #[.int .i64 (-1), .int .i64 0]) (by simp [results, Tryz.results68, go_sem]) rfl ⟨rfl, HX.out⟩
      · by_cases hb0 : stM y r g 1 = 0
        · have HR : Hid (atC r g x y = -1 ∧ cellE r g x y = 0) := Lib.hid ⟨which_none ha hb, cellE_blank (.inr hb0)⟩
          have ea1 : (((stM x r g 0) : Int) == 1) = false := by rw [beq_eq_false_iff_ne]; intro h; exact ha (by omega)
          have eb1 : (((stM y r g 1) : Int) == 1) = false := by rw [beq_eq_false_iff_ne]; intro h; exact hb (by omega)
          have ea0 : (((stM x r g 0) : Int) == 0) = false := by rw [beq_eq_false_iff_ne]; intro h; exact ha0 (by omega)
          have eb0 : (((stM y r g 1) : Int) == 0) = true := by rw [hb0]; rfl
          rw [HR.out.1, HR.out.2]
          have HX := Lib.hid (Ext.refl w)
          generalize stM x r g 0 = sa at *
          generalize stM y r g 1 = sb at *
          generalize hva : mfl x r g 0 3 = va at *
          generalize hvb : mfl y r g 1 3 = vb at *
          clear hva hvb ha hb ha0 hb0
          go_enter Tryz.func68, Tryz.ntmps68
          go_wp2_with fail
          refine (HM0.out _ HX.out).mono ?_
          rintro e w1 ⟨A0, N0, k0, rfl, _, hx⟩
          have HX := Lib.hid (HX.out.trans hx)
          have HX := Lib.hid (HX.out.alloc (.cells #[.int .i64 (mfl x r g 0 0 : Nat), .int .i64 (mfl x r g 0 1 : Nat), .int .i64 (mfl x r g 0 2 : Nat), .int .i64 (va : Nat), .int .i64 (mfl x r g 0 4 : Nat)] 33))
          have HT0 := Lib.hid (heap_alloc_new w1 (.cells #[.int .i64 (mfl x r g 0 0 : Nat), .int .i64 (mfl x r g 0 1 : Nat), .int .i64 (mfl x r g 0 2 : Nat), .int .i64 (va : Nat), .int .i64 (mfl x r g 0 4 : Nat)] 33))
          clear hx
          go_wp2_with fail
          refine (HM1.out _ HX.out).mono ?_
          rintro e w2 ⟨A1, N1, k1, rfl, _, hx⟩
          have HX := Lib.hid (HX.out.trans hx)
          have HT0 := Lib.hid ((hx.block _ (Array.getElem?_eq_some_iff.1 HT0.out).1).trans HT0.out)
          have HT0 := Lib.hid ((heap_alloc_old w2 (.cells #[.int .i64 (mfl y r g 1 0 : Nat), .int .i64 (mfl y r g 1 1 : Nat), .int .i64 (mfl y r g 1 2 : Nat), .int .i64 (vb : Nat), .int .i64 (mfl y r g 1 4 : Nat)] 33) (Array.getElem?_eq_some_iff.1 HT0.out).1).trans HT0.out)
          have HT1 := Lib.hid (heap_alloc_new w2 (.cells #[.int .i64 (mfl y r g 1 0 : Nat), .int .i64 (mfl y r g 1 1 : Nat), .int .i64 (mfl y r g 1 2 : Nat), .int .i64 (vb : Nat), .int .i64 (mfl y r g 1 4 : Nat)] 33))
          have HX := Lib.hid (HX.out.alloc (.cells #[.int .i64 (mfl y r g 1 0 : Nat), .int .i64 (mfl y r g 1 1 : Nat), .int .i64 (mfl y r g 1 2 : Nat), .int .i64 (vb : Nat), .int .i64 (mfl y r g 1 4 : Nat)] 33))
          clear hx
          go_wp2_with fail
          refine bodyPost_ret (v := .tuple #[.int .i64 (-1), .int .i64 0]) (by simp [results, Tryz.results68, go_sem]) rfl ⟨rfl, HX.out⟩
        · have HR : Hid (atC r g x y = -1 ∧ cellE r g x y = 70) := Lib.hid ⟨which_none ha hb, cellE_bad ha hb ha0 hb0⟩
          have ea1 : (((stM x r g 0) : Int) == 1) = false := by rw [beq_eq_false_iff_ne]; intro h; exact ha (by omega)
          have eb1 : (((stM y r g 1) : Int) == 1) = false := by rw [beq_eq_false_iff_ne]; intro h; exact hb (by omega)
          have ea0 : (((stM x r g 0) : Int) == 0) = false := by rw [beq_eq_false_iff_ne]; intro h; exact ha0 (by omega)
          have eb0 : (((stM y r g 1) : Int) == 0) = false := by rw [beq_eq_false_iff_ne]; intro h; exact hb0 (by omega)
          rw [HR.out.1, HR.out.2]
          have HX := Lib.hid (Ext.refl w)
          generalize stM x r g 0 = sa at *
          generalize stM y r g 1 = sb at *
          generalize hva : mfl x r g 0 3 = va at *
          generalize hvb : mfl y r g 1 3 = vb at *
          clear hva hvb ha hb ha0 hb0
          go_enter Tryz.func68, Tryz.ntmps68
          go_wp2_with fail
          refine (HM0.out _ HX.out).mono ?_
          rintro e w1 ⟨A0, N0, k0, rfl, _, hx⟩
          have HX := Lib.hid (HX.out.trans hx)
          have HX := Lib.hid (HX.out.alloc (.cells #[.int .i64 (mfl x r g 0 0 : Nat), .int .i64 (mfl x r g 0 1 : Nat), .int .i64 (mfl x r g 0 2 : Nat), .int .i64 (va : Nat), .int .i64 (mfl x r g 0 4 : Nat)] 33))
          have HT0 := Lib.hid (heap_alloc_new w1 (.cells #[.int .i64 (mfl x r g 0 0 : Nat), .int .i64 (mfl x r g 0 1 : Nat), .int .i64 (mfl x r g 0 2 : Nat), .int .i64 (va : Nat), .int .i64 (mfl x r g 0 4 : Nat)] 33))
          clear hx
          go_wp2_with fail
          refine (HM1.out _ HX.out).mono ?_
          rintro e w2 ⟨A1, N1, k1, rfl, _, hx⟩
          have HX := Lib.hid (HX.out.trans hx)
          have HT0 := Lib.hid ((hx.block _ (Array.getElem?_eq_some_iff.1 HT0.out).1).trans HT0.out)
          have HT0 := Lib.hid ((heap_alloc_old w2 (.cells #[.int .i64 (mfl y r g 1 0 : Nat), .int .i64 (mfl y r g 1 1 : Nat), .int .i64 (mfl y r g 1 2 : Nat), .int .i64 (vb : Nat), .int .i64 (mfl y r g 1 4 : Nat)] 33) (Array.getElem?_eq_some_iff.1 HT0.out).1).trans HT0.out)
          have HT1 := Lib.hid (heap_alloc_new w2 (.cells #[.int .i64 (mfl y r g 1 0 : Nat), .int .i64 (mfl y r g 1 1 : Nat), .int .i64 (mfl y r g 1 2 : Nat), .int .i64 (vb : Nat), .int .i64 (mfl y r g 1 4 : Nat)] 33))
          have HX := Lib.hid (HX.out.alloc (.cells #[.int .i64 (mfl y r g 1 0 : Nat), .int .i64 (mfl y r g 1 1 : Nat), .int .i64 (mfl y r g 1 2 : Nat), .int .i64 (vb : Nat), .int .i64 (mfl y r g 1 4 : Nat)] 33))
          clear hx
          go_wp2_with fail
          refine bodyPost_ret (v := .tuple #[.int .i64 (-1), .int .i64 70]) (by simp [results, Tryz.results68, go_sem]) rfl ⟨rfl, HX.out⟩
end Go.Proofs.YtlikhmhomkiadaaGreatDoor

namespace Go.Proofs.YtlikhmhomkiadaaGreatDoor
set_option maxRecDepth 100000
open Go Go.RowKit

/-- A byte of told bytes is stored into. -/
theorem New.put {B : Nat} {w : World} {A : Option Addr} {n : Nat} {l : List Nat} (h : New B w A n l) {k : Nat} (hk : k < n) : ∃ g x : Nat, A = some ⟨g, 0, none⟩ ∧ B ≤ g ∧ x < 256 ∧ w.cell? ⟨g, k, none⟩ = some (.int .u8 (x : Int)) ∧ w.frozen? ⟨g, k, none⟩ = false ∧ g < w.heap.size ∧
    ∀ y : Nat, y < 256 → New B (w.setCell ⟨g, k, none⟩ (.int .u8 (y : Int))) A n (l.set k y) := by
  rcases h.at_ with ⟨h0, _⟩ | ⟨g, t, e, hB, hg⟩
  · omega
  have hkl : k < l.length := by rw [h.len]; exact hk
  refine ⟨g, l[k], e, hB, h.lt _ (List.getElem_mem hkl), ?_, frozen_of_row w g k _ _ hg, (Array.getElem?_eq_some_iff.1 hg).1, fun y hy => ⟨by rw [List.length_set]; exact h.len, mem_set_of h.lt hy, .inr ⟨g, t, e, hB, row_set k hg _ ?_⟩, h.le⟩⟩
  · rw [cell_of_row w g k _ _ _ hg]
    exact vb_at (List.getElem?_eq_getElem hkl)
  · rw [List.setIfInBounds_toArray, vb_set]

/-- Three told rows, each in a block of its own. -/
structure Ttl (w wr : World) (A : Option Addr) (na : Nat) (X : Option Addr) (nx : Nat) (P : Option Addr) (np : Nat) (lp : List Nat) : Prop where
  bel : Ext w wr
  a : ∃ l, New w.heap.size wr A na l
  x : ∃ l, New w.heap.size wr X nx l
  p : New w.heap.size wr P np lp
  ax : ∀ q r, A = some q → X = some r → q.block ≠ r.block
  ap : ∀ q r, A = some q → P = some r → q.block ≠ r.block
  xp : ∀ q r, X = some q → P = some r → q.block ≠ r.block
theorem new_apart {B B' : Nat} {w w1 : World} {A A' : Option Addr} {n n' : Nat} {l l' : List Nat} (h : New B w A n l) (h' : New B' w1 A' n' l') (hB : w.heap.size ≤ B') : ∀ q r, A = some q → A' = some r → q.block ≠ r.block := by
  intro q r hq hr
  rcases h.at_ with ⟨_, h0⟩ | ⟨g, t, e, _, hg⟩
  · rw [h0] at hq; cases hq
  rcases h'.at_ with ⟨_, h0⟩ | ⟨g', t', e', hB', _⟩
  · rw [h0] at hr; cases hr
  rw [e] at hq
  rw [e'] at hr
  cases hq
  cases hr
  have := (Array.getElem?_eq_some_iff.1 hg).1
  show g ≠ g'
  omega
section
variable {w wr : World} {A X P : Option Addr} {na nx np : Nat} {lp : List Nat}
theorem Ttl.ext (h : Ttl w wr A na X nx P np lp) {w' : World} (k : Ext wr w') : Ttl w w' A na X nx P np lp :=
  ⟨h.bel.trans k, h.a.imp fun _ h => h.ext k, h.x.imp fun _ h => h.ext k, h.p.ext k, h.ax, h.ap, h.xp⟩
theorem Ttl.putA (h : Ttl w wr A na X nx P np lp) {k : Nat} (hk : k < na) : ∃ g x : Nat, A = some ⟨g, 0, none⟩ ∧ x < 256 ∧ wr.cell? ⟨g, k, none⟩ = some (.int .u8 (x : Int)) ∧ wr.frozen? ⟨g, k, none⟩ = false ∧ g < wr.heap.size ∧
    ∀ y : Nat, y < 256 → Ttl w (wr.setCell ⟨g, k, none⟩ (.int .u8 (y : Int))) A na X nx P np lp := by
  obtain ⟨l, hl⟩ := h.a
  obtain ⟨g, x, e, hB, hx, h1, h2, h3, h4⟩ := hl.put hk
  refine ⟨g, x, e, hx, h1, h2, h3, fun y hy => ?_⟩
  have hm := mod_one wr g k (.int .u8 (y : Int))
  exact ⟨Below.mod h.bel hm h.bel.size (fun i e => by subst e; exact hB), ⟨_, h4 y hy⟩, h.x.imp fun _ hx => hx.mod hm fun p hp e2 => h.ax _ _ e hp e2.symm, h.p.mod hm fun p hp e2 => h.ap _ _ e hp e2.symm, h.ax, h.ap, h.xp⟩
theorem Ttl.putX (h : Ttl w wr A na X nx P np lp) {k : Nat} (hk : k < nx) : ∃ g x : Nat, X = some ⟨g, 0, none⟩ ∧ x < 256 ∧ wr.cell? ⟨g, k, none⟩ = some (.int .u8 (x : Int)) ∧ wr.frozen? ⟨g, k, none⟩ = false ∧ g < wr.heap.size ∧
    ∀ y : Nat, y < 256 → Ttl w (wr.setCell ⟨g, k, none⟩ (.int .u8 (y : Int))) A na X nx P np lp := by
  obtain ⟨l, hl⟩ := h.x
  obtain ⟨g, x, e, hB, hx, h1, h2, h3, h4⟩ := hl.put hk
  refine ⟨g, x, e, hx, h1, h2, h3, fun y hy => ?_⟩
  have hm := mod_one wr g k (.int .u8 (y : Int))
  exact ⟨Below.mod h.bel hm h.bel.size (fun i e => by subst e; exact hB), h.a.imp fun _ hx => hx.mod hm fun p hp e2 => h.ax _ _ hp e e2, ⟨_, h4 y hy⟩, h.p.mod hm fun p hp e2 => h.xp _ _ e hp e2.symm, h.ax, h.ap, h.xp⟩
/-- The last of them, behind the comparison. -/
structure Tlp (w wr : World) (P : Option Addr) (np : Nat) : Prop where
  bel : Ext w wr
  p : ∃ l, New w.heap.size wr P np l
theorem Tlp.put (h : Tlp w wr P np) {k : Nat} (hk : k < np) : ∃ g x : Nat, P = some ⟨g, 0, none⟩ ∧ x < 256 ∧ wr.cell? ⟨g, k, none⟩ = some (.int .u8 (x : Int)) ∧ wr.frozen? ⟨g, k, none⟩ = false ∧ g < wr.heap.size ∧
    ∀ y : Nat, y < 256 → Tlp w (wr.setCell ⟨g, k, none⟩ (.int .u8 (y : Int))) P np := by
  obtain ⟨l, hl⟩ := h.p
  obtain ⟨g, x, e, hB, hx, h1, h2, h3, h4⟩ := hl.put hk
  refine ⟨g, x, e, hx, h1, h2, h3, fun y hy => ?_⟩
  exact ⟨Below.mod h.bel (mod_one wr g k (.int .u8 (y : Int))) h.bel.size (fun i e => by subst e; exact hB), ⟨_, h4 y hy⟩⟩
end
theorem next_u8 (x : Nat) : ∃ y : Nat, IntKind.u8.wrap ((x : Int) + 1) = (y : Int) ∧ y < 256 := ⟨(x + 1) % 256, by rw [IntKind.wrap_u8]; omega, by omega⟩
/-- What tells compares. -/
theorem told_cases (m : DM) (s : Int) : (m.has s = false ∧ m.at_ s = ([], false, 2) ∧ m.means s = ([], 2)) ∨ ∃ j : Nat, s = (j : Int) ∧ j < m.size ∧ (m.at_ s).2.2 = 0 ∧ m.means s = (m.meant.getD j [], 0) := by
  by_cases hs : m.has s = false
  · exact .inl ⟨hs, by unfold DM.at_; rw [if_pos hs], by unfold DM.means; rw [if_pos hs]⟩
  · have hs' : m.has s = true := by simpa using hs
    obtain ⟨s0, s1⟩ := DM.has_iff.1 hs'
    obtain ⟨j, rfl⟩ := Int.eq_ofNat_of_zero_le s0
    refine .inr ⟨j, rfl, by omega, ?_, ?_⟩
    · unfold DM.at_
      rw [if_neg hs]
      split <;> rfl
    · unfold DM.means
      rw [if_neg hs, Int.toNat_natCast]
--WALK
end Go.Proofs.YtlikhmhomkiadaaGreatDoor

namespace Go.Proofs.YtlikhmhomkiadaaGreatDoor
set_option maxRecDepth 100000
open Go Go.RowKit

structure Both (w0 w : World) (d r : Nat) (F : Nat → Prop) (p : Nat → Nat) (m m' : DM) : Prop where
  dk : DK w0 w d F m
  rd : RD w r p m'
  low : ∀ i, p i ≠ 0 → w0.heap.size ≤ i
  apart : ∀ i, p i ≠ 0 → ¬ F i
section
variable {w0 w : World} {d r : Nat} {F : Nat → Prop} {p : Nat → Nat} {m m' m2 : DM}
theorem Both.ext (h : Both w0 w d r F p m m') {w' : World} (k : Ext w w') : Both w0 w' d r F p m m' := ⟨h.dk.ext k, h.rd.ext k, h.low, h.apart⟩
theorem Both.do_ (h : Both w0 w d r F p m m') (a : Act5) (ha : a.Ok w0 w0.heap.size) (hn : a.bn ≤ 200) (hfew : m.waits.length ≤ 1000) {E : Int} (hact : m.act a.kind a.sec a.num a.bl a.kl = (E, m2)) :
    Calls Tryz.prog 38 #[.pointer (some ⟨d, 0, none⟩), .agg #[.int .u8 (a.kind : Int), .int .i64 a.sec, .int .i64 a.num, .slice a.bA a.bn a.bc, .slice a.kA a.kn a.kc]] w fun e w' =>
      e = .returned (.int .i64 E) ∧ ∃ F', Both w0 w' d r F' p m2 m' := by
  have hd := do_of h.dk.disk a ((ha.below h.dk.bel).more h.dk.bel.size) (h.dk.vs ha.keep) (by omega) (by omega)
  unfold actV at hd
  rw [hact] at hd
  refine hd.mono fun e w' ⟨h1, h2, h3⟩ => ⟨h1, _, h.dk.step h2 h3, h.rd.mod h3 h.apart, h.low, fun i hi hg => ?_⟩
  rcases hg with hg | hg
  · exact h.apart i hi hg
  · have := h.rd.2 i hi
    omega
theorem Both.same_ (h : Both w0 w d r F p m m') (a : Act5) (ha : a.Ok w0 w0.heap.size) (hn : a.bn ≤ 200) (hfew : m'.waits.length ≤ 1000) {E : Int} (hact : m'.act a.kind a.sec a.num a.bl a.kl = (E, m2)) :
    Calls Tryz.prog 43 #[.pointer (some ⟨r, 0, none⟩), .agg #[.int .u8 (a.kind : Int), .int .i64 a.sec, .int .i64 a.num, .slice a.bA a.bn a.bc, .slice a.kA a.kn a.kc]] w fun e w' =>
      e = .returned (.int .i64 E) ∧ ∃ p', Both w0 w' d r F p' m m2 := by
  have hk : 0 < a.kn → Off (fun i => p i ≠ 0) a.kA := fun hn q hq hf => by
    obtain ⟨g, o, e, hg, _⟩ := ha.keep.rd hn
    rw [e] at hq
    injection hq with hq
    subst hq
    have h1 := h.low _ hf
    have hg' : g < w0.heap.size := hg
    have h2 : w0.heap.size ≤ g := h1
    omega
  have hd := rsame_of h.rd a ((ha.below h.dk.bel).more h.dk.bel.size) hk hn (by omega)
  rw [hact] at hd
  refine hd.mono fun e w' ⟨h1, p', h2, h3, h4⟩ => ⟨h1, p', h.dk.mod h3 (fun i hf hp => h.apart i hp hf) h.low, h2, fun i hi => ?_, fun i hi hf => ?_⟩
  · rcases h4 i hi with h5 | h5
    · exact h.low i h5
    · exact Nat.le_trans h.dk.bel.size h5
  · rcases h4 i hi with h5 | h5
    · exact h.apart i h5 hf
    · have := h.dk.disk.lt i hf
      omega
/-- What the law reads of the document's disk itself. -/
theorem Both.heads (h : Both w0 w d r F p m m') {N : Nat} {b4 b5 : Bool} (hN : m'.waits.length = N) (h4 : m'.down = b4) (h5 : m'.dead = b5) : ∃ A c, w.cell? ⟨r, 3, none⟩ = some (.slice A N c) ∧ w.cell? ⟨r, 4, none⟩ = some (.bool b4) ∧ w.cell? ⟨r, 5, none⟩ = some (.bool b5) := by
  subst hN h4 h5
  obtain ⟨⟨q, hq⟩, _⟩ := h.rd
  obtain ⟨⟨_, _, _, d3, d4, d5, _⟩, _⟩ := hq.head.cells
  have hpl : ∃ A c, q.pv = .slice A m'.waits.length c := by
    obtain ⟨A, c, e, _, _⟩ := own_form2 hq.pen
    exact ⟨A, c, e⟩
  obtain ⟨A, c, e⟩ := hpl
  rw [e] at d3
  exact ⟨A, c, d3, d4, d5⟩
theorem Both.new {w1 w2 : World} {n : Nat} (hx : Ext w0 w) (hp : PDisk w1 d (fun k => w.heap.size ≤ k ∧ k < w1.heap.size) (DM.new n)) (hx1 : Ext w w1) (hr : RD w2 r p (DM.new n)) (hl : ∀ k, p k ≠ 0 → w1.heap.size ≤ k) (hx2 : Ext w1 w2) : Both w0 w2 d r (fun k => w.heap.size ≤ k ∧ k < w1.heap.size) p (DM.new n) (DM.new n) :=
  ⟨DK.ext ⟨hp, fun k hk => Nat.le_trans hx.size hk.1, hx.trans hx1⟩ hx2, hr, fun i hi => Nat.le_trans (hx.trans hx1).size (hl i hi), fun i hi hf => by have := hl i hi; omega⟩
end
end Go.Proofs.YtlikhmhomkiadaaGreatDoor

namespace Go.Proofs.YtlikhmhomkiadaaGreatDoor
set_option maxRecDepth 100000
open Go Go.RowKit

/-- A step of a disk: what it is then, and that no block but its own was written. -/
def Step (d : Nat) (F : Nat → Prop) (w : World) (m' : DM) (w' : World) : Prop := PDisk w' d (grow F w w') m' ∧ Mod F w w'
theorem PDisk.more {w : World} {d : Nat} {F G : Nat → Prop} {m : DM} (h : PDisk w d F m) (hG : ∀ k, F k → G k) (hl : ∀ k, G k → k < w.heap.size) : PDisk w d G m := by
  obtain ⟨g, pv, hp, h2, _⟩ := h
  exact ⟨g, pv, hp, fun k hk => hG k (h2 k hk), hl⟩
theorem Step.of_ext {w w' : World} {d : Nat} {F : Nat → Prop} {m : DM} (h : PDisk w d F m) (hx : Ext w w') : Step d F w m w' :=
  ⟨(h.ext hx).more (fun _ hk => .inl hk) (fun k hk => hk.elim (fun h1 => Nat.lt_of_lt_of_le (h.lt k h1) hx.size) (fun h1 => h1.2)), Mod.of_ext hx⟩
theorem Step.trans {w w1 w2 : World} {d : Nat} {F : Nat → Prop} {m1 m2 : DM} (h : Step d F w m1 w1) (k : Step d (grow F w w1) w1 m2 w2) : Step d F w m2 w2 := by
  refine ⟨k.1.more (fun i hi => ?_) (fun i hi => ?_), h.2.trans k.2 fun i hi => hi.imp id fun h1 => h1.1⟩
  · rcases hi with (hi | hi) | hi
    · exact .inl hi
    · exact .inr ⟨hi.1, Nat.lt_of_lt_of_le hi.2 k.2.size⟩
    · exact .inr ⟨Nat.le_trans h.2.size hi.1, hi.2⟩
  · rcases hi with hi | hi
    · exact k.1.lt i (.inl (.inl hi))
    · exact hi.2
theorem Step.pre {w w1 w2 : World} {d : Nat} {F : Nat → Prop} {m : DM} (hx : Ext w w1) (h : Step d F w1 m w2) : Step d F w m w2 :=
  ⟨h.1.more (fun _ hi => hi.imp id fun h1 => ⟨Nat.le_trans hx.size h1.1, h1.2⟩) (fun i hi => hi.elim (fun h1 => h.1.lt i (.inl h1)) (fun h1 => h1.2)), (Mod.of_ext hx).trans h.2 fun _ hi => .inl hi⟩
theorem Outc.step {d : Nat} {F : Nat → Prop} {w : World} {E : Int} {m' : DM} {e : Ending} {w' : World} (h : Outc d F w E m' e w') : e = .returned (.int .i64 E) ∧ Step d F w m' w' := ⟨h.1, h.2.1, h.2.2⟩
theorem Step.ext {w w1 w2 : World} {d : Nat} {F : Nat → Prop} {m1 : DM} (h : Step d F w m1 w1) (hx : Ext w1 w2) : Step d F w m1 w2 := h.trans (Step.of_ext h.1 hx)
end Go.Proofs.YtlikhmhomkiadaaGreatDoor
