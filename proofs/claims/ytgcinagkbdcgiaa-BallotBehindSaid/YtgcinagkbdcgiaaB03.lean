/-
  The contracts of the ballots' statements' of, next, awake.
-/
import Derived.Test.YtgcinagkbdcgiaaB00
import Derived.Test.YtgcinagkbdcgiaaB02
import Derived.OwnWalk
namespace Go.Proofs.Ytgcinagkbdcgiaa
set_option maxRecDepth 100000
section
open Go Go.RowKit
theorem bof_of (x y : Int) (w : World) : Calls Try.prog 33 #[.int .i64 x, .int .i64 y] w fun e w' => e = .returned (.agg #[.int .i64 x, .int .i64 y]) ∧ Ext w w' := by
  obtain ⟨f0, f1⟩ := bal_one w x y 50
  go_enter Try.func33, Try.ntmps33
  go_wp2_with fail
  refine bodyPost_ret (v := .agg #[.int .i64 x, .int .i64 y]) (by simp [results, Try.results33, go_sem, f0, f1]) rfl ?_
  exact ⟨rfl, (Ext.refl w).alloc _⟩
theorem nextB_lit (x y r n zx zy e : Int) (h : (nextB ⟨x, y⟩ r n).x = zx ∧ (nextB ⟨x, y⟩ r n).y = zy ∧ errB ⟨x, y⟩ r n = e) (w : World) : Calls Try.prog 28 #[.agg #[.int .i64 x, .int .i64 y], .int .i64 r, .int .i64 n] w fun e' w' => e' = .returned (.tuple #[.agg #[.int .i64 zx, .int .i64 zy], .int .i64 e]) ∧ Ext w w' := by
  have := nextB_of x y r n w
  rw [h.1, h.2.1, h.2.2] at this
  exact this
theorem less_lit (x y x' y' : Int) (b : Bool) (h : ltB ⟨x, y⟩ ⟨x', y'⟩ = b) (w : World) : Calls Try.prog 25 #[.agg #[.int .i64 x, .int .i64 y], .agg #[.int .i64 x', .int .i64 y']] w fun e w' => e = .returned (.bool b) ∧ Ext w w' := by
  have := less_of x y x' y' w
  rw [h] at this
  exact this
set_option maxHeartbeats 600000 in
theorem bnext_yes (x y r zx zy : Int) (h : (nextB ⟨x, y⟩ r 3).x = zx ∧ (nextB ⟨x, y⟩ r 3).y = zy ∧ errB ⟨x, y⟩ r 3 = 0) (w : World) : Calls Try.prog 48 #[.agg #[.int .i64 x, .int .i64 y], .int .i64 r, .agg #[.int .i64 zx, .int .i64 zy]] w fun e w' => e = .returned (.bool true) ∧ Ext w w' := by
  have HN := Lib.hid (fun V => nextB_lit x y r 3 zx zy 0 h V)
  have hq := bal_eql zx zy zx zy
  rw [decide_eq_true (p := zx = zx ∧ zy = zy) ⟨rfl, rfl⟩] at hq
  have hg := ballot_guard
  have HX := Lib.hid (((Ext.refl w).alloc (.cells #[.int .i64 x, .int .i64 y] 50)).alloc (.cells #[.int .i64 zx, .int .i64 zy] 50))
  have hn := BC.new (w.alloc (.cells #[.int .i64 x, .int .i64 y] 50)) zx zy 50
  have e1 : (w.alloc (.cells #[.int .i64 x, .int .i64 y] 50)).heap.size = w.heap.size + 1 := by simp
  rw [e1] at hn
  have HZ := Lib.hid hn
  clear h hn e1
  go_enter Try.func48, Try.ntmps48
  go_wp2_with fail
  refine (HN.out _).mono ?_
  rintro e w1 ⟨rfl, hx⟩
  have HZ := Lib.hid (BC.ext (hx.alloc (.cells #[.int .i64 zx, .int .i64 zy] 50)) HZ.out)
  have HX := Lib.hid ((HX.out.trans hx).alloc (.cells #[.int .i64 zx, .int .i64 zy] 50))
  obtain ⟨c0, c1⟩ := HZ.out
  obtain ⟨d0, d1⟩ := BC.new w1 zx zy 50
  clear hx
  go_wp2_with fail
  go_ret
  exact ⟨rfl, HX.out⟩
theorem ls_rowB {w : World} {b : Nat} {cs : Array Value} {t : TypeId} (l : List Bal) (hl : (l.flatMap Bal.cells).toArray = cs) (hlen : l.length ≤ 1000) (h : w.heap[b]? = some (.cells cs t (0, 0))) : Ls Bal.cells 2 w w.heap.size (some ⟨b, 0, none⟩) l.length l.length l := by
  refine ⟨rfl, Nat.le_refl _, by omega, fun _ => ⟨b, 0, rfl, (Array.getElem?_eq_some_iff.1 h).1, fun j a ha k v hv => ?_⟩, fun e => by cases e⟩
  have hk : k < 2 := by have := (List.getElem?_eq_some_iff.1 hv).1; exact this
  rw [Nat.zero_add, cell_of_row w b _ _ _ _ h, ← hl, List.getElem?_toArray, flat_get (cells := Bal.cells) (fun _ => rfl) (by omega) l j k hk, ha]
  exact hv
theorem max3_lit (w : World) : Calls Try.prog 24 #[.slice (some ⟨w.heap.size, 0, none⟩) 3 3] (w.alloc (.cells #[.int .i64 1, .int .i64 2, .int .i64 2, .int .i64 0, .int .i64 1, .int .i64 0] 50)) fun e w' => e = .returned (.agg #[.int .i64 2, .int .i64 0]) ∧ Ext w w' := by
  have hl := ls_rowB (t := 50) [⟨1, 2⟩, ⟨2, 0⟩, ⟨1, 0⟩] rfl (by decide) (heap_alloc_new w (.cells #[.int .i64 1, .int .i64 2, .int .i64 2, .int .i64 0, .int .i64 1, .int .i64 0] 50))
  have := maxB_of _ _ _ _ _ hl
  have e : maxB [⟨1, 2⟩, ⟨2, 0⟩, ⟨1, 0⟩] = ⟨2, 0⟩ := rfl
  rw [e] at this
  exact this.mono fun _ _ ⟨h, hx⟩ => ⟨h, ((Ext.refl w).alloc _).trans hx⟩
theorem max0_lit (w : World) : Calls Try.prog 24 #[.slice none 0 0] w fun e w' => e = .returned (.agg #[.int .i64 0, .int .i64 0]) ∧ Ext w w' :=
  maxB_of none 0 0 [] w ⟨rfl, Nat.le_refl _, by omega, fun h => absurd h (Nat.not_lt_zero _), fun _ => rfl⟩
set_option maxHeartbeats 3200000 in
theorem bawake_any (w : World) : Calls Try.prog 32 #[] w fun e w' => e = .returned (.bool true) ∧ Ext w w' := by
  have hq2 := bal_eql 2 0 2 0
  rw [decide_eq_true (p := (2 : Int) = 2 ∧ (0 : Int) = 0) ⟨rfl, rfl⟩] at hq2
  have hq0 := bal_eql 0 0 0 0
  rw [decide_eq_true (p := (0 : Int) = 0 ∧ (0 : Int) = 0) ⟨rfl, rfl⟩] at hq0
  have hg := ballot_guard
  have HX := Lib.hid (Ext.refl w)
  go_enter Try.func32, Try.ntmps32
  go_wp2_with fail
  refine (bof_of 0 0 _).mono ?_
  rintro e w1 ⟨rfl, hx⟩
  have HX := Lib.hid (HX.out.trans (by first | exact hx | exact ((Ext.refl _).alloc _).trans hx))
  clear hx
  go_wp2_with fail
  refine (nextB_lit 0 0 3 3 0 0 2 (by decide +kernel) _).mono ?_
  rintro e w2 ⟨rfl, hx⟩
  have HX := Lib.hid (HX.out.trans (by first | exact hx | exact ((Ext.refl _).alloc _).trans hx))
  clear hx
  go_wp2_with fail
  refine (bof_of 0 0 _).mono ?_
  rintro e w3 ⟨rfl, hx⟩
  have HX := Lib.hid (HX.out.trans (by first | exact hx | exact ((Ext.refl _).alloc _).trans hx))
  clear hx
  go_wp2_with fail
  refine (nextB_lit 0 0 0 4 0 0 2 (by decide +kernel) _).mono ?_
  rintro e w4 ⟨rfl, hx⟩
  have HX := Lib.hid (HX.out.trans (by first | exact hx | exact ((Ext.refl _).alloc _).trans hx))
  clear hx
  go_wp2_with fail
  refine (bof_of 1099511627776 1 _).mono ?_
  rintro e w5 ⟨rfl, hx⟩
  have HX := Lib.hid (HX.out.trans (by first | exact hx | exact ((Ext.refl _).alloc _).trans hx))
  clear hx
  go_wp2_with fail
  refine (nextB_lit 1099511627776 1 0 3 0 0 4 (by decide +kernel) _).mono ?_
  rintro e w6 ⟨rfl, hx⟩
  have HX := Lib.hid (HX.out.trans (by first | exact hx | exact ((Ext.refl _).alloc _).trans hx))
  clear hx
  go_wp2_with fail
  refine (bof_of 1 2 _).mono ?_
  rintro e w7 ⟨rfl, hx⟩
  have HX := Lib.hid (HX.out.trans (by first | exact hx | exact ((Ext.refl _).alloc _).trans hx))
  clear hx
  go_wp2_with fail
  refine (bof_of 2 0 _).mono ?_
  rintro e w8 ⟨rfl, hx⟩
  have HX := Lib.hid (HX.out.trans (by first | exact hx | exact ((Ext.refl _).alloc _).trans hx))
  clear hx
  go_wp2_with fail
  refine (less_lit 1 2 2 0 true (by decide +kernel) _).mono ?_
  rintro e w9 ⟨rfl, hx⟩
  have HX := Lib.hid (HX.out.trans (by first | exact hx | exact ((Ext.refl _).alloc _).trans hx))
  clear hx
  go_wp2_with fail
  refine (bof_of 2 0 _).mono ?_
  rintro e w10 ⟨rfl, hx⟩
  have HX := Lib.hid (HX.out.trans (by first | exact hx | exact ((Ext.refl _).alloc _).trans hx))
  clear hx
  go_wp2_with fail
  refine (bof_of 1 2 _).mono ?_
  rintro e w11 ⟨rfl, hx⟩
  have HX := Lib.hid (HX.out.trans (by first | exact hx | exact ((Ext.refl _).alloc _).trans hx))
  clear hx
  go_wp2_with fail
  refine (less_lit 2 0 1 2 false (by decide +kernel) _).mono ?_
  rintro e w12 ⟨rfl, hx⟩
  have HX := Lib.hid (HX.out.trans (by first | exact hx | exact ((Ext.refl _).alloc _).trans hx))
  clear hx
  go_wp2_with fail
  refine (bof_of 1 0 _).mono ?_
  rintro e w13 ⟨rfl, hx⟩
  have HX := Lib.hid (HX.out.trans (by first | exact hx | exact ((Ext.refl _).alloc _).trans hx))
  clear hx
  go_wp2_with fail
  refine (bof_of 1 2 _).mono ?_
  rintro e w14 ⟨rfl, hx⟩
  have HX := Lib.hid (HX.out.trans (by first | exact hx | exact ((Ext.refl _).alloc _).trans hx))
  clear hx
  go_wp2_with fail
  refine (less_lit 1 0 1 2 true (by decide +kernel) _).mono ?_
  rintro e w15 ⟨rfl, hx⟩
  have HX := Lib.hid (HX.out.trans (by first | exact hx | exact ((Ext.refl _).alloc _).trans hx))
  clear hx
  go_wp2_with fail
  refine (bof_of 0 0 _).mono ?_
  rintro e w16 ⟨rfl, hx⟩
  have HX := Lib.hid (HX.out.trans (by first | exact hx | exact ((Ext.refl _).alloc _).trans hx))
  clear hx
  go_wp2_with fail
  refine (bof_of 1 0 _).mono ?_
  rintro e w17 ⟨rfl, hx⟩
  have HX := Lib.hid (HX.out.trans (by first | exact hx | exact ((Ext.refl _).alloc _).trans hx))
  clear hx
  go_wp2_with fail
  refine (less_lit 0 0 1 0 true (by decide +kernel) _).mono ?_
  rintro e w18 ⟨rfl, hx⟩
  have HX := Lib.hid (HX.out.trans (by first | exact hx | exact ((Ext.refl _).alloc _).trans hx))
  clear hx
  go_wp2_with fail
  refine (bof_of 1 2 _).mono ?_
  rintro e w19 ⟨rfl, hx⟩
  have HX := Lib.hid (HX.out.trans (by first | exact hx | exact ((Ext.refl _).alloc _).trans hx))
  clear hx
  go_wp2_with fail
  refine (bof_of 2 0 _).mono ?_
  rintro e w20 ⟨rfl, hx⟩
  have HX := Lib.hid (HX.out.trans (by first | exact hx | exact ((Ext.refl _).alloc _).trans hx))
  clear hx
  go_wp2_with fail
  refine (bof_of 1 0 _).mono ?_
  rintro e w21 ⟨rfl, hx⟩
  have HX := Lib.hid (HX.out.trans (by first | exact hx | exact ((Ext.refl _).alloc _).trans hx))
  clear hx
  go_wp2_with fail
  refine (max3_lit _).mono ?_
  rintro e w22 ⟨rfl, hx⟩
  have HX := Lib.hid (HX.out.trans (by first | exact hx | exact ((Ext.refl _).alloc _).trans hx))
  clear hx
  go_wp2_with fail
  refine (bof_of 2 0 _).mono ?_
  rintro e w23 ⟨rfl, hx⟩
  have HX := Lib.hid (HX.out.trans (by first | exact hx | exact ((Ext.refl _).alloc _).trans hx))
  clear hx
  go_wp2_with fail
  refine (max0_lit _).mono ?_
  rintro e w24 ⟨rfl, hx⟩
  have HX := Lib.hid (HX.out.trans (by first | exact hx | exact ((Ext.refl _).alloc _).trans hx))
  clear hx
  go_wp2_with fail
  refine (bof_of 0 0 _).mono ?_
  rintro e w25 ⟨rfl, hx⟩
  have HX := Lib.hid (HX.out.trans (by first | exact hx | exact ((Ext.refl _).alloc _).trans hx))
  clear hx
  go_wp2_with fail
  refine (bof_of 0 0 _).mono ?_
  rintro e w26 ⟨rfl, hx⟩
  have HX := Lib.hid (HX.out.trans (by first | exact hx | exact ((Ext.refl _).alloc _).trans hx))
  clear hx
  go_wp2_with fail
  refine (bof_of 1 0 _).mono ?_
  rintro e w27 ⟨rfl, hx⟩
  have HX := Lib.hid (HX.out.trans (by first | exact hx | exact ((Ext.refl _).alloc _).trans hx))
  clear hx
  go_wp2_with fail
  refine (bnext_yes 0 0 0 1 0 (by decide +kernel) _).mono ?_
  rintro e w28 ⟨rfl, hx⟩
  have HX := Lib.hid (HX.out.trans (by first | exact hx | exact ((Ext.refl _).alloc _).trans hx))
  clear hx
  go_wp2_with fail
  refine (bof_of 0 0 _).mono ?_
  rintro e w29 ⟨rfl, hx⟩
  have HX := Lib.hid (HX.out.trans (by first | exact hx | exact ((Ext.refl _).alloc _).trans hx))
  clear hx
  go_wp2_with fail
  refine (bof_of 1 2 _).mono ?_
  rintro e w30 ⟨rfl, hx⟩
  have HX := Lib.hid (HX.out.trans (by first | exact hx | exact ((Ext.refl _).alloc _).trans hx))
  clear hx
  go_wp2_with fail
  refine (bnext_yes 0 0 2 1 2 (by decide +kernel) _).mono ?_
  rintro e w31 ⟨rfl, hx⟩
  have HX := Lib.hid (HX.out.trans (by first | exact hx | exact ((Ext.refl _).alloc _).trans hx))
  clear hx
  go_wp2_with fail
  refine (bof_of 4 1 _).mono ?_
  rintro e w32 ⟨rfl, hx⟩
  have HX := Lib.hid (HX.out.trans (by first | exact hx | exact ((Ext.refl _).alloc _).trans hx))
  clear hx
  go_wp2_with fail
  refine (bof_of 4 2 _).mono ?_
  rintro e w33 ⟨rfl, hx⟩
  have HX := Lib.hid (HX.out.trans (by first | exact hx | exact ((Ext.refl _).alloc _).trans hx))
  clear hx
  go_wp2_with fail
  refine (bnext_yes 4 1 2 4 2 (by decide +kernel) _).mono ?_
  rintro e w34 ⟨rfl, hx⟩
  have HX := Lib.hid (HX.out.trans (by first | exact hx | exact ((Ext.refl _).alloc _).trans hx))
  clear hx
  go_wp2_with fail
  refine (bof_of 4 1 _).mono ?_
  rintro e w35 ⟨rfl, hx⟩
  have HX := Lib.hid (HX.out.trans (by first | exact hx | exact ((Ext.refl _).alloc _).trans hx))
  clear hx
  go_wp2_with fail
  refine (bof_of 5 1 _).mono ?_
  rintro e w36 ⟨rfl, hx⟩
  have HX := Lib.hid (HX.out.trans (by first | exact hx | exact ((Ext.refl _).alloc _).trans hx))
  clear hx
  go_wp2_with fail
  refine (bnext_yes 4 1 1 5 1 (by decide +kernel) _).mono ?_
  rintro e w37 ⟨rfl, hx⟩
  have HX := Lib.hid (HX.out.trans (by first | exact hx | exact ((Ext.refl _).alloc _).trans hx))
  clear hx
  go_wp2_with fail
  refine (bof_of 4 1 _).mono ?_
  rintro e w38 ⟨rfl, hx⟩
  have HX := Lib.hid (HX.out.trans (by first | exact hx | exact ((Ext.refl _).alloc _).trans hx))
  clear hx
  go_wp2_with fail
  refine (bof_of 5 0 _).mono ?_
  rintro e w39 ⟨rfl, hx⟩
  have HX := Lib.hid (HX.out.trans (by first | exact hx | exact ((Ext.refl _).alloc _).trans hx))
  clear hx
  go_wp2_with fail
  refine (bnext_yes 4 1 0 5 0 (by decide +kernel) _).mono ?_
  rintro e w40 ⟨rfl, hx⟩
  have HX := Lib.hid (HX.out.trans (by first | exact hx | exact ((Ext.refl _).alloc _).trans hx))
  clear hx
  go_wp2_with fail
  go_ret
  exact ⟨rfl, HX.out⟩
end
section
open Go Go.RowKit
set_option maxHeartbeats 600000 in
theorem rless_of (x y x' y' : Int) (w : World) : Calls Try.prog 26 #[.agg #[.int .i64 x, .int .i64 y], .agg #[.int .i64 x', .int .i64 y']] w fun e w' => e = .returned (.bool (ltB ⟨x, y⟩ ⟨x', y'⟩)) ∧ Ext w w' := by
  obtain ⟨r, hr⟩ : ∃ r, ltB ⟨x, y⟩ ⟨x', y'⟩ = r := ⟨_, rfl⟩
  rw [hr]
  have HX := Lib.hid (((Ext.refl w).alloc (.cells #[.int .i64 x, .int .i64 y] 50)).alloc (.cells #[.int .i64 x', .int .i64 y'] 50))
  have fin : ∀ b : Bool, ltB ⟨x, y⟩ ⟨x', y'⟩ = b → Ending.returned (Value.bool b) = .returned (.bool r) := fun b h => by rw [← h, hr]
  have FIN := Lib.hid fin
  clear fin hr
  by_cases h2 : x = x'
  · have e2 : (x != x') = false := by simpa using h2
    have HD : Hid (ltB ⟨x, y⟩ ⟨x', y'⟩ = decide (y < y')) := Lib.hid (by
      rw [Bool.eq_iff_iff, ltB_iff, decide_eq_true_iff]
      dsimp only
      omega)
    clear h2
    go_enter Try.func26, Try.ntmps26
    go_wp2
    go_ret
    exact ⟨FIN.out _ HD.out, HX.out⟩
  · have e2 : (x != x') = true := by simpa using h2
    have HD : Hid (ltB ⟨x, y⟩ ⟨x', y'⟩ = decide (x < x')) := Lib.hid (by
      rw [Bool.eq_iff_iff, ltB_iff, decide_eq_true_iff]
      dsimp only
      omega)
    clear h2
    go_enter Try.func26, Try.ntmps26
    go_wp2
    go_ret
    exact ⟨FIN.out _ HD.out, HX.out⟩
set_option maxHeartbeats 400000 in
theorem rcrowd_of (n : Int) (w : World) : Calls Try.prog 47 #[.int .i64 n] w fun e w' => e = .returned (.bool (crowdB n)) ∧ w = w' := by
  by_cases h3 : n = 3
  · subst h3
    go_enter Try.func47, Try.ntmps47
    go_wp2
    go_ret
    exact ⟨rfl, rfl⟩
  by_cases h5 : n = 5
  · subst h5
    go_enter Try.func47, Try.ntmps47
    go_wp2
    go_ret
    exact ⟨rfl, rfl⟩
  by_cases h7 : n = 7
  · subst h7
    go_enter Try.func47, Try.ntmps47
    go_wp2
    go_ret
    exact ⟨rfl, rfl⟩
  have hc : crowdB n = false := decide_eq_false (by omega)
  rw [hc]
  have e3 : (n == 3) = false := by simpa using h3
  have e5 : (n == 5) = false := by simpa using h5
  have e7 : (n == 7) = false := by simpa using h7
  clear h3 h5 h7 hc
  go_enter Try.func47, Try.ntmps47
  go_wp2
  go_ret
  exact ⟨rfl, rfl⟩
set_option maxHeartbeats 600000 in
theorem rmay_of (x y n : Int) (w : World) : Calls Try.prog 31 #[.agg #[.int .i64 x, .int .i64 y], .int .i64 n] w fun e w' => e = .returned (.bool (mayB_ ⟨x, y⟩ n)) ∧ Ext w w' := by
  have HX := Lib.hid ((Ext.refl w).alloc (.cells #[.int .i64 x, .int .i64 y] 50))
  obtain ⟨r, hr⟩ : ∃ r, mayB_ ⟨x, y⟩ n = r := ⟨_, rfl⟩
  rw [hr]
  have fin : ∀ b : Bool, mayB_ ⟨x, y⟩ n = b → Ending.returned (Value.bool b) = .returned (.bool r) := fun b h => by rw [← h, hr]
  have FIN := Lib.hid fin
  have HC := Lib.hid (fun V => rcrowd_of n V)
  clear fin hr
  by_cases hc : crowdB n = true
  case neg =>
    have hc : crowdB n = false := by simpa using hc
    rw [hc] at HC
    have HB : Hid (mayB_ ⟨x, y⟩ n = false) := Lib.hid (by unfold mayB_; rw [hc]; rfl)
    clear hc
    go_enter Try.func31, Try.ntmps31
    go_wp2_with fail
    refine (HC.out _).mono ?_
    rintro e w1 ⟨rfl, rfl⟩
    go_wp2_with fail
    go_ret
    exact ⟨FIN.out _ HB.out, HX.out⟩
  case pos =>
    have hcc := crowdB_iff.1 hc
    rw [hc] at HC
    have key : ∀ b : Bool, (b = true ↔ ((x = 0 ∧ y = 0) ∨ (1 ≤ x ∧ x ≤ 1099511627776 ∧ 0 ≤ y ∧ y < n))) → mayB_ ⟨x, y⟩ n = b := fun b hb => by
      rw [Bool.eq_iff_iff, mayB_iff, hb]
      exact ⟨fun h => h.2, fun h => ⟨hcc, h⟩⟩
    by_cases hx0 : x = 0
    · have e0 : (x == 0) = true := by simpa using hx0
      by_cases hy0 : y = 0
      · have e1 : (y == 0) = true := by simpa using hy0
        have HB : Hid (mayB_ ⟨x, y⟩ n = true) := Lib.hid (key _ (by simp; omega))
        clear key hc hcc hx0 hy0
        go_enter Try.func31, Try.ntmps31
        go_wp2_with fail
        refine (HC.out _).mono ?_
        rintro e w1 ⟨rfl, rfl⟩
        go_wp2
        go_ret
        exact ⟨FIN.out _ (by first | exact HB.out | exact HB.out.trans (decide_eq_false (by omega)).symm | exact HB.out.trans (decide_eq_true (by omega)).symm), HX.out⟩
      · have e1 : (y == 0) = false := by simpa using hy0
        have e2 : ¬ 1 ≤ x := by omega
        have HB : Hid (mayB_ ⟨x, y⟩ n = false) := Lib.hid (key _ (by simp; omega))
        clear key hc hcc hx0 hy0
        go_enter Try.func31, Try.ntmps31
        go_wp2_with fail
        refine (HC.out _).mono ?_
        rintro e w1 ⟨rfl, rfl⟩
        go_wp2
        go_ret
        exact ⟨FIN.out _ (by first | exact HB.out | exact HB.out.trans (decide_eq_false (by omega)).symm | exact HB.out.trans (decide_eq_true (by omega)).symm), HX.out⟩
    · have e0 : (x == 0) = false := by simpa using hx0
      by_cases h1 : 1 ≤ x
      · by_cases h2 : x ≤ 1099511627776
        · by_cases h3 : 0 ≤ y
          · by_cases h4 : y < n
            · skip
              have HB : Hid (mayB_ ⟨x, y⟩ n = true) := Lib.hid (key _ (by simp; omega))
              clear key hc hcc hx0
              go_enter Try.func31, Try.ntmps31
              go_wp2_with fail
              refine (HC.out _).mono ?_
              rintro e w1 ⟨rfl, rfl⟩
              go_wp2
              go_ret
              exact ⟨FIN.out _ (by first | exact HB.out | exact HB.out.trans (decide_eq_false (by omega)).symm | exact HB.out.trans (decide_eq_true (by omega)).symm), HX.out⟩
            · skip
              have HB : Hid (mayB_ ⟨x, y⟩ n = false) := Lib.hid (key _ (by simp; omega))
              clear key hc hcc hx0
              go_enter Try.func31, Try.ntmps31
              go_wp2_with fail
              refine (HC.out _).mono ?_
              rintro e w1 ⟨rfl, rfl⟩
              go_wp2
              go_ret
              exact ⟨FIN.out _ (by first | exact HB.out | exact HB.out.trans (decide_eq_false (by omega)).symm | exact HB.out.trans (decide_eq_true (by omega)).symm), HX.out⟩
          · skip
            have HB : Hid (mayB_ ⟨x, y⟩ n = false) := Lib.hid (key _ (by simp; omega))
            clear key hc hcc hx0
            go_enter Try.func31, Try.ntmps31
            go_wp2_with fail
            refine (HC.out _).mono ?_
            rintro e w1 ⟨rfl, rfl⟩
            go_wp2
            go_ret
            exact ⟨FIN.out _ (by first | exact HB.out | exact HB.out.trans (decide_eq_false (by omega)).symm | exact HB.out.trans (decide_eq_true (by omega)).symm), HX.out⟩
        · skip
          have HB : Hid (mayB_ ⟨x, y⟩ n = false) := Lib.hid (key _ (by simp; omega))
          clear key hc hcc hx0
          go_enter Try.func31, Try.ntmps31
          go_wp2_with fail
          refine (HC.out _).mono ?_
          rintro e w1 ⟨rfl, rfl⟩
          go_wp2
          go_ret
          exact ⟨FIN.out _ (by first | exact HB.out | exact HB.out.trans (decide_eq_false (by omega)).symm | exact HB.out.trans (decide_eq_true (by omega)).symm), HX.out⟩
      · skip
        have HB : Hid (mayB_ ⟨x, y⟩ n = false) := Lib.hid (key _ (by simp; omega))
        clear key hc hcc hx0
        go_enter Try.func31, Try.ntmps31
        go_wp2_with fail
        refine (HC.out _).mono ?_
        rintro e w1 ⟨rfl, rfl⟩
        go_wp2
        go_ret
        exact ⟨FIN.out _ (by first | exact HB.out | exact HB.out.trans (decide_eq_false (by omega)).symm | exact HB.out.trans (decide_eq_true (by omega)).symm), HX.out⟩
end
section
open Go Go.RowKit
theorem keep4B {w w' : World} {g i j k m : Nat} {a b c d : Value} (hx : Ext w w') (h : Hid (w.cell? ⟨g, i, none⟩ = some a ∧ w.cell? ⟨g, j, none⟩ = some b ∧ w.cell? ⟨g, k, none⟩ = some c ∧ w.cell? ⟨g, m, none⟩ = some d)) : w'.cell? ⟨g, i, none⟩ = some a ∧ w'.cell? ⟨g, j, none⟩ = some b ∧ w'.cell? ⟨g, k, none⟩ = some c ∧ w'.cell? ⟨g, m, none⟩ = some d :=
  ⟨ext_of_cellB hx h.out.1, ext_of_cellB hx h.out.2.1, ext_of_cellB hx h.out.2.2.1, ext_of_cellB hx h.out.2.2.2⟩
theorem maxB_not {l : List Bal} {a b : Bal} (h : b ∈ l) (hl : ltB a b = true) : a ≠ maxB l := fun e => by
  have := maxB_ge h
  rw [← e, hl] at this
  cases this
set_option maxHeartbeats 1200000 in
theorem rmaxB_of (A : Option Addr) (n c : Nat) (l : List Bal) (w : World) (h : Ls Bal.cells 2 w w.heap.size A n c l) :
    Calls Try.prog 27 #[.slice A n c] w fun e w' => e = .returned (.agg #[.int .i64 (maxB l).x, .int .i64 (maxB l).y]) ∧ Ext w w' := by
  have hcap := h.cap
  have hmost := h.most
  have H := Lib.hid h
  have HLN := Lib.hid h.len
  have hx0 := ((Ext.refl w).alloc (.cells #[.int .i64 0, .int .i64 0] 50)).alloc (.cells #[.int .i64 0, .int .i64 0] 50)
  have hr2 := heap_alloc_new (w.alloc (.cells #[.int .i64 0, .int .i64 0] 50)) (.cells #[.int .i64 0, .int .i64 0] 50)
  have hr1 := keep_rowB ((Ext.refl (w.alloc (.cells #[.int .i64 0, .int .i64 0] 50))).alloc (.cells #[.int .i64 0, .int .i64 0] 50)) (heap_alloc_new w (.cells #[.int .i64 0, .int .i64 0] 50))
  have e1 : (w.alloc (.cells #[.int .i64 0, .int .i64 0] 50)).heap.size = w.heap.size + 1 := by simp
  rw [e1] at hr2
  have HX := Lib.hid hx0
  have HR1 := Lib.hid hr1
  have HR2 := Lib.hid hr2
  clear h hx0 hr1 hr2 e1
  go_enter Try.func27, Try.ntmps27
  go_wp2_with fail
  generalize ((w.alloc (Obj.cells #[Value.int .i64 0, Value.int .i64 0] 50)).alloc (Obj.cells #[Value.int .i64 0, Value.int .i64 0] 50)) = w1 at *
  obtain ⟨b0, hb0⟩ : ∃ b0, w.heap.size = b0 := ⟨_, rfl⟩
  rw [hb0] at HR1 HR2 ⊢
  have HB0 := Lib.hid hb0
  clear hb0
  go_loopw [4] (fun v wr => ∃ (i : Nat) (ox oy : Int), i ≤ n ∧ v = .int .i64 (i : Int) ∧ Hid ((⟨ox, oy⟩ : Bal) = maxB l ∨ ((⟨ox, oy⟩ : Bal) = ⟨0, 0⟩ ∧ ∀ (j : Nat) (a : Bal), j < i → l[j]? = some a → a ≠ maxB l)) ∧ Hid (Ext w wr) ∧ Hid (wr.heap[b0]? = some (.cells #[.int .i64 0, .int .i64 0] 50 (0, 0))) ∧ Hid (wr.heap[b0 + 1]? = some (.cells #[.int .i64 ox, .int .i64 oy] 50 (0, 0)))) (fun v _ => n - (intOf v).toNat)
  case atStart => exact ⟨0, 0, 0, Nat.zero_le _, rfl, Lib.hid (.inr ⟨rfl, fun j a hj => absurd hj (Nat.not_lt_zero _)⟩), HX, HR1, HR2⟩
  case round =>
    obtain ⟨i, ox, oy, hi, rfl, HO, HX, HR1, HR2⟩ := hrel
    by_cases hlt : i < n
    · obtain ⟨g, o, b, rfl, hb, _, _⟩ := Ls.bal H.out hlt
      obtain ⟨bx, by_⟩ := b
      have HB := Lib.hid hb
      obtain ⟨W0, hW0⟩ : ∃ W, W = wr := ⟨_, rfl⟩
      subst hW0
      have HXo := HX
      clear hb
      go_wp2_with fail
      go_loopw [5, 6] (fun m k wr => ∃ (q : Nat) (mb : Bool), q ≤ n ∧ k = .int .i64 (q : Int) ∧ m = .bool mb ∧ Hid (if mb = true then ∀ (j : Nat) (a : Bal), j < q → l[j]? = some a → ltB ⟨bx, by_⟩ a = false else (⟨bx, by_⟩ : Bal) ≠ maxB l) ∧ Hid (Ext W0 wr)) (fun _ k _ => n - (intOf k).toNat)
      case atStart => exact ⟨0, true, Nat.zero_le _, rfl, rfl, Lib.hid (by rw [if_pos rfl]; exact fun j a hj => absurd hj (Nat.not_lt_zero _)), Lib.hid (Ext.refl _)⟩
      case round =>
        obtain ⟨q, mb, hq, rfl, rfl, HM, HXi⟩ := hrel
        have HXw := Lib.hid (HXo.out.trans HXi.out)
        by_cases hqt : q < n
        · obtain ⟨g1, o1, a1, e1, ha1, i0, i1⟩ := Ls.bal (H.out.below HXw.out) hlt
          injection e1 with e1
          injection e1 with e1 e2
          subst e1 e2
          rw [HB.out] at ha1
          injection ha1 with ha1
          subst ha1
          obtain ⟨g2, o2, a2, e1, ha2, j0, j1⟩ := Ls.bal (H.out.below HXw.out) hqt
          injection e1 with e1
          injection e1 with e1 e2
          subst e1 e2
          obtain ⟨ax, ay⟩ := a2
          dsimp only at i0 i1 j0 j1
          have HA := Lib.hid ha2
          have HLS := Lib.hid (fun V => rless_of bx by_ ax ay V)
          obtain ⟨rr, hrr⟩ : ∃ rr, ltB ⟨bx, by_⟩ ⟨ax, ay⟩ = rr := ⟨_, rfl⟩
          rw [hrr] at HLS
          have HRR := Lib.hid hrr
          clear ha2 hrr
          have HC := Lib.hid (And.intro i0 (And.intro i1 (And.intro j0 j1)))
          cases rr with
          | true =>
            go_wp2_with fail
            go_region_held3 (fun w' => w'.cell? ⟨g, o + i * 2, none⟩ = some (.int .i64 bx) ∧ w'.cell? ⟨g, o + i * 2 + 1, none⟩ = some (.int .i64 by_) ∧ w'.cell? ⟨g, o + q * 2, none⟩ = some (.int .i64 ax) ∧ w'.cell? ⟨g, o + q * 2 + 1, none⟩ = some (.int .i64 ay))
              (first | with_reducible exact ⟨i0, i1, j0, j1⟩ | assumption | go_keep)
              (first | (go_at_call 26; ((with_reducible refine (HLS.out _).mono ?_); rintro e w3 ⟨rfl, hx⟩; have hk := keep4B hx HC)))
            have HXn := Lib.hid (HXi.out.trans ((Ext.refl _).drew.trans hx))
            clear i0 i1 j0 j1 hx hk HLS HC
            go_wp2_with fail
            go_roundw
            case rel => exact ⟨q + 1, false, by omega, by go_num, rfl, Lib.hid (by rw [if_neg (by decide)]; exact maxB_not (List.mem_of_getElem? HA.out) HRR.out), HXn⟩
            case measure => simp [intOf]; omega
          | false =>
            go_wp2_with fail
            go_region_held3 (fun w' => w'.cell? ⟨g, o + i * 2, none⟩ = some (.int .i64 bx) ∧ w'.cell? ⟨g, o + i * 2 + 1, none⟩ = some (.int .i64 by_) ∧ w'.cell? ⟨g, o + q * 2, none⟩ = some (.int .i64 ax) ∧ w'.cell? ⟨g, o + q * 2 + 1, none⟩ = some (.int .i64 ay))
              (first | with_reducible exact ⟨i0, i1, j0, j1⟩ | assumption | go_keep)
              (first | (go_at_call 26; ((with_reducible refine (HLS.out _).mono ?_); rintro e w3 ⟨rfl, hx⟩; have hk := keep4B hx HC)))
            have HXn := Lib.hid (HXi.out.trans ((Ext.refl _).drew.trans hx))
            clear i0 i1 j0 j1 hx hk HLS HC
            go_wp2_with fail
            go_roundw
            case rel =>
              refine ⟨q + 1, mb, by omega, by go_num, rfl, Lib.hid ?_, HXn⟩
              have hm := HM.out
              cases mb with
              | false => exact hm
              | true =>
                rw [if_pos rfl] at hm ⊢
                intro j a hj ha
                by_cases hjq : j = q
                · subst hjq
                  rw [HA.out] at ha
                  injection ha with ha
                  rw [← ha]
                  exact HRR.out
                · exact hm j a (by omega) ha
            case measure => simp [intOf]; omega
        · have hqn : q = n := by omega
          subst hqn
          have HR1n := Lib.hid (keep_rowB HXi.out HR1.out)
          have HR2n := Lib.hid (keep_rowB HXi.out HR2.out)
          obtain ⟨d0, d1, d2, d3⟩ := bal_row HR2n.out
          obtain ⟨g1, o1, a1, e1, ha1, i0, i1⟩ := Ls.bal (H.out.below HXw.out) hlt
          injection e1 with e1
          injection e1 with e1 e2
          subst e1 e2
          rw [HB.out] at ha1
          injection ha1 with ha1
          subst ha1
          dsimp only at i0 i1
          have hb := HB0.out
          have hm := HM.out
          cases mb with
          | true =>
            have HE : Hid ((⟨bx, by_⟩ : Bal) = maxB l) := Lib.hid (by
              rw [if_pos rfl] at hm
              refine (maxB_is (List.mem_of_getElem? HB.out) fun x hx => ?_).symm
              obtain ⟨j, hj⟩ := List.getElem?_of_mem hx
              exact hm j x (by have := (List.getElem?_eq_some_iff.1 hj).1; rw [HLN.out] at this; exact this) hj)
            have HR1s := Lib.hid (bal_stored bx by_ (show b0 ≠ b0 + 1 by omega) HR1n.out)
            have HR2s := Lib.hid (bal_store bx by_ HR2n.out)
            have HXs := Lib.hid ((HXw.out.setCell (p := ⟨b0 + 1, 0, none⟩) (by show w.heap.size ≤ b0 + 1; omega) (.int .i64 bx)).setCell (p := ⟨b0 + 1, 1, none⟩) (by show w.heap.size ≤ b0 + 1; omega) (.int .i64 by_))
            clear hm hb
            go_wp2_with fail
            generalize ((wr.setCell ⟨b0 + 1, 0, none⟩ (Value.int .i64 bx)).setCell ⟨b0 + 1, 1, none⟩ (Value.int .i64 by_)) = W2 at *
            go_roundw
            case rel => exact ⟨i + 1, bx, by_, by omega, by go_num, Lib.hid (.inl HE.out), HXs, HR1s, HR2s⟩
            case measure => simp [intOf]; omega
          | false =>
            have HE : Hid ((⟨bx, by_⟩ : Bal) ≠ maxB l) := Lib.hid (by rw [if_neg (by decide)] at hm; exact hm)
            clear hm hb
            go_wp2_with fail
            go_roundw
            case rel =>
              refine ⟨i + 1, ox, oy, by omega, by go_num, Lib.hid ?_, HXw, HR1n, HR2n⟩
              rcases HO.out with h | ⟨h1, h2⟩
              · exact .inl h
              · refine .inr ⟨h1, fun j a hj ha => ?_⟩
                by_cases hji : j = i
                · subst hji
                  rw [HB.out] at ha
                  injection ha with ha
                  rw [← ha]
                  exact HE.out
                · exact h2 j a (by omega) ha
            case measure => simp [intOf]; omega
    · have hin : i = n := by omega
      subst hin
      have HE : Hid ((⟨ox, oy⟩ : Bal) = maxB l) := Lib.hid (by
        rcases HO.out with h | ⟨h1, h2⟩
        · exact h
        · by_cases hl : l = []
          · subst hl; exact h1
          · obtain ⟨j, hj⟩ := List.getElem?_of_mem (maxB_mem hl)
            exact absurd rfl (h2 j _ (by have := (List.getElem?_eq_some_iff.1 hj).1; rw [HLN.out] at this; exact this) hj))
      obtain ⟨c0, c1, c2, c3⟩ := bal_row HR1.out
      obtain ⟨d0, d1, d2, d3⟩ := bal_row HR2.out
      go_wp2_with fail
      obtain ⟨f0, f1, _, _⟩ := bal_row (bal_store ox oy HR1.out)
      refine bodyPost_ret (v := .agg #[.int .i64 ox, .int .i64 oy]) (by simp [results, Try.results27, go_sem, f0, f1]) rfl ?_
      have hb := HB0.out
      exact ⟨by rw [← HE.out], (HX.out.setCell (p := ⟨b0, 0, none⟩) (by show w.heap.size ≤ b0; omega) _).setCell (p := ⟨b0, 1, none⟩) (by show w.heap.size ≤ b0; omega) _⟩
end
section
open Go Go.RowKit
theorem wpList_append_ls {α : Type} {cells : α → List Value} {N : Nat} (hN : ∀ a, (cells a).length = N) (h0 : 0 < N) (h1 : ∀ a, ∀ u ∈ cells a, u.oneCell' = true) {P : Program} {w : World} {ops : Array Oper} {rest : List Oper} {o : Oper} {a : Act} {Q : Exit → Act → World → Prop} (hgd : o.guard = none) (s x : Operand) (t : TypeId)
    (ho : o.op = .call { callee := .builtin .append, args := #[s, x], argTypes := #[t, t] })
    (base : Nat) (e : TypeId) (i : TypeInfo) (z : Value) (bytes : Nat) (ht : P.underlying t = some (.slice e)) (hi : P.info? e = some i) (hz : i.zero = some z) (hsize : i.size = N) (hby : i.bytes = bytes) (hzs : z.cells.size = N)
    (v : Value) (n : Nat) (xs : List Value) (hs : a.eval s = v) (hown : w.ownsRow base e N v n xs) (B : Nat) (A : Option Addr) (m c : Nat) (l : List α) (hx : a.eval x = .slice A m c) (hl : Ls cells N w B A m c l)
    (h63 : n + m ≤ maxLen) (hbytes : (n + m) * bytes ≤ 140737488355328) (hbase : base ≤ w.heap.size)
    (h : ∀ v' w', w'.ownsRow base e N v' (n + m) (xs ++ l.flatMap cells) → w.grownBy w' v.ownBlock → wpList P ops Q rest (a.put o.dst v') w') : wpList P ops Q (o :: rest) a w := by
  cases A with
  | none =>
    have hc := hl.nil_ rfl
    have hm : m = 0 := by have := hl.cap; omega
    subst hc hm
    have hl0 : l = [] := List.eq_nil_of_length_eq_zero hl.len
    subst hl0
    refine wpList_append_own_none hgd s x t ho base e i N ht hi v n xs hs hown hx ?_
    exact h v w (by simpa using hown) (World.grownBy.refl _ _)
  | some ad =>
    exact wpList_append_own w hgd s x t ho base e i z N bytes ht hi hz hsize hby hzs h0 v n xs hs hown ad m c (l.flatMap cells) hx (by rw [flat_len hN, hl.len]) (hl.news hN h0) (fun u hu => by
      obtain ⟨b, _, hb⟩ := List.mem_flatMap.1 hu
      exact h1 b u hb) h63 hbytes hbase fun v' w' h2 h3 _ => h v' w' h2 h3
theorem Bal.one (a : Bal) : ∀ u ∈ Bal.cells a, u.oneCell' = true := by
  intro u hu
  simp only [Bal.cells, List.mem_cons, List.not_mem_nil, or_false] at hu
  rcases hu with rfl | rfl <;> rfl
end
end Go.Proofs.Ytgcinagkbdcgiaa
