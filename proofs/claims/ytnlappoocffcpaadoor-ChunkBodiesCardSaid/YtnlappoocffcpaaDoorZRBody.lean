/-
  The contracts of the document's Print and Parse of a chunk's body.
-/
import Derived.Test.YtnlappoocffcpaaDoorZBody
import Derived.Deep.RegionHeld3
namespace Go.Proofs.YtnlappoocffcpaaDoor
open Go Go.RowKit

theorem ext_cellZ {w w' : World} {a : Addr} {v : Value} (h : Ext w w') (hc : w.cell? a = some v) : w'.cell? a = some v := (Below.cell h (p := a) (World.block_lt_of_cell? w _ hc)).trans hc
theorem own_one (w : World) (k : Nat) : (w.alloc (.cells #[.int .u8 (k : Int)] 5)).ownsRow w.heap.size 5 1 (.slice (some ⟨w.heap.size, 0, none⟩) 1 1) 1 (vb [k]) :=
  ⟨by simp [vb], .inr ⟨w.heap.size, 1, #[.int .u8 (k : Int)], rfl, Nat.le_refl _, heap_alloc_new w _, Nat.le_refl _, by unfold maxLen; omega, rfl, by simp [vb]⟩⟩
set_option maxRecDepth 100000 in
set_option maxHeartbeats 1000000 in
theorem zrprint_any (count : Int) (A : Option Addr) (n c : Nat) (l : List Nat) (w : World) (hb : By w A n c l) (hn : n ≤ 140737488355000) :
    Calls Tryd.prog 7 #[.int .i64 count, .slice A n c] w fun e w' => ∃ A' N' c', e = .returned (.tuple #[.slice A' N' c', .int .i64 (prZE count l)]) ∧ By w' A' N' c' (prZL count l) ∧ Ext w w' := by
  obtain ⟨i0, hi, hz0, hz1, hz2⟩ := info_parts byte_info
  have HB := Lib.hid hb
  have hlen := hb.len
  clear hb
  cases hz : bdZ count l with
  | true =>
    obtain ⟨h1, h8, h80⟩ := bdZ_iff.1 hz
    obtain ⟨k, rfl⟩ := Int.eq_ofNat_of_zero_le (show 0 ≤ count by omega)
    have HZ := Lib.hid hz
    have hk1 : 1 ≤ k := by omega
    have hk : k ≤ 8 := by omega
    have hn80 : n ≤ 80 := by omega
    have hwr : IntKind.u8.wrap (k : Int) = (k : Int) := by simp [IntKind.wrap, go_sem]; omega
    have HO := Lib.hid (own_one w k)
    have HX := Lib.hid ((Ext.refl w).alloc (.cells #[.int .u8 (k : Int)] 5))
    clear hz h1 h8 h80 hlen
    go_enter Tryd.func7, Tryd.ntmps7
    go_wp2_with (at_builtin; refine wpList_append_by rfl _ _ 22 rfl w.heap.size 5 i0 Tryd.underlying22 hi hz0 hz1 hz2 _ 1 (vb [k]) rfl HO.out A n c l rfl (HB.out.ext HX.out) (by omega) (Ext.size HX.out) ?_)
    intro v2 w2 hown hg
    obtain ⟨hx, A2, c2, rfl, hb2, ho2⟩ := app_step (l1 := [k]) HX.out HO.out hg hown (by intro b hb; rw [List.mem_singleton] at hb; omega) HB.out.rd.lt
    have HX2 := Lib.hid hx
    have HB2 := Lib.hid hb2
    clear hx hb2 ho2 hown hg
    go_wp2_with fail
    refine bodyPost_ret (v := .tuple #[.slice A2 (1 + n) c2, .int .i64 0]) (by simp [results, Tryd.results7, go_sem]) rfl ?_
    exact ⟨A2, 1 + n, c2, by unfold prZE; rw [HZ.out]; rfl, by unfold prZL; rw [HZ.out]; simpa using HB2.out, HX2.out⟩
  | false =>
    have hno : count < 1 ∨ 8 < count ∨ 80 < n := by
      by_cases a : 1 ≤ count
      · by_cases b : count ≤ 8
        · by_cases d : n ≤ 80
          · have := (bdZ_iff (count := count) (c := l)).2 ⟨a, b, by omega⟩
            rw [hz] at this
            cases this
          · omega
        · omega
      · omega
    have HZ := Lib.hid hz
    clear hz
    by_cases a : count < 1
    · clear hno
      go_enter Tryd.func7, Tryd.ntmps7
      go_wp2_with fail
      refine bodyPost_ret (v := .tuple #[.slice none 0 0, .int .i64 2]) (by simp [results, Tryd.results7, go_sem]) rfl ?_
      exact ⟨none, 0, 0, by unfold prZE; rw [HZ.out]; rfl, by unfold prZL; rw [HZ.out]; exact By.nil_ _, Ext.refl _⟩
    · by_cases b : 8 < count
      · clear hno
        go_enter Tryd.func7, Tryd.ntmps7
        go_wp2_with fail
        refine bodyPost_ret (v := .tuple #[.slice none 0 0, .int .i64 2]) (by simp [results, Tryd.results7, go_sem]) rfl ?_
        exact ⟨none, 0, 0, by unfold prZE; rw [HZ.out]; rfl, by unfold prZL; rw [HZ.out]; exact By.nil_ _, Ext.refl _⟩
      · have hn81 : 80 < n := by omega
        clear hno
        go_enter Tryd.func7, Tryd.ntmps7
        go_wp2_with fail
        refine bodyPost_ret (v := .tuple #[.slice none 0 0, .int .i64 2]) (by simp [results, Tryd.results7, go_sem]) rfl ?_
        exact ⟨none, 0, 0, by unfold prZE; rw [HZ.out]; rfl, by unfold prZL; rw [HZ.out]; exact By.nil_ _, Ext.refl _⟩
theorem paZ_no {x : Nat} {r : List Nat} (h : ¬ (1 ≤ x ∧ x ≤ 8 ∧ r.length ≤ 80)) : paZ (x :: r) = (0, [], 120) := if_neg h
theorem paZ_yes {x : Nat} {r : List Nat} (h : 1 ≤ x ∧ x ≤ 8 ∧ r.length ≤ 80) : paZ (x :: r) = (x, r, 0) := if_pos h
theorem paZ_ret {L : List Nat} (h : paZ L = (0, [], 120)) {w : World} (w' : World) (hx : Ext w w') : ∃ A' N' c', Ending.returned (.tuple #[.int .i64 0, .slice none 0 0, .int .i64 120]) = Ending.returned (.tuple #[.int .i64 ((paZ L).1 : Nat), .slice A' N' c', .int .i64 (paZ L).2.2]) ∧ By w' A' N' c' (paZ L).2.1 ∧ Ext w w' := by
  rw [h]
  exact ⟨none, 0, 0, rfl, By.nil_ _, hx⟩
set_option maxRecDepth 100000 in
set_option maxHeartbeats 1000000 in
theorem zrparse_any (A : Option Addr) (n c : Nat) (l : List Nat) (w : World) (hb : By w A n c l) (hn : n ≤ 140737488355000) :
    Calls Tryd.prog 9 #[.slice A n c] w fun e w' => ∃ A' N' c', e = .returned (.tuple #[.int .i64 ((paZ l).1 : Nat), .slice A' N' c', .int .i64 (paZ l).2.2]) ∧ By w' A' N' c' (paZ l).2.1 ∧ Ext w w' := by
  have HB := Lib.hid hb
  have hlen := hb.len
  have hcp := hb.cap
  cases l with
  | nil =>
    have hn0 : n = 0 := by simpa using hlen.symm
    subst hn0
    clear hb hlen
    go_enter Tryd.func9, Tryd.ntmps9
    go_wp2_with fail
    refine bodyPost_ret (v := .tuple #[.int .i64 0, .slice none 0 0, .int .i64 120]) (by simp [results, Tryd.results9, go_sem]) rfl ?_
    exact paZ_ret rfl _ (Ext.refl _)
  | cons x r =>
    rw [List.length_cons] at hlen
    have hx9 : x < 256 := hb.rd.lt x (List.mem_cons_self ..)
    obtain ⟨g, o, hA, _, hcell⟩ := hb.rd.2 (by simp)
    have c0 : w.cell? ⟨g, o, none⟩ = some (.int .u8 (x : Int)) := hcell 0 x rfl
    subst hA
    clear hb hcell
    have hn1 : 1 ≤ n := by omega
    by_cases h80 : 81 < n
    · have HP := Lib.hid (paZ_no (x := x) (r := r) (by omega))
      clear hlen
      go_enter Tryd.func9, Tryd.ntmps9
      go_wp2_with fail
      refine bodyPost_ret (v := .tuple #[.int .i64 0, .slice none 0 0, .int .i64 120]) (by simp [results, Tryd.results9, go_sem]) rfl ?_
      exact paZ_ret HP.out _ (Ext.refl _)
    · by_cases h1 : x < 1
      · have HP := Lib.hid (paZ_no (x := x) (r := r) (by omega))
        obtain rfl : x = 0 := by omega
        rw [show ((0 : Nat) : Int) = 0 from rfl] at c0
        clear hlen h1
        go_enter Tryd.func9, Tryd.ntmps9
        go_wp2_with fail
        refine bodyPost_ret (v := .tuple #[.int .i64 0, .slice none 0 0, .int .i64 120]) (by simp [results, Tryd.results9, go_sem]) rfl ?_
        exact paZ_ret HP.out _ (Ext.refl _)
      · by_cases h8 : 8 < x
        · have HP := Lib.hid (paZ_no (x := x) (r := r) (by omega))
          clear hlen
          go_enter Tryd.func9, Tryd.ntmps9
          go_wp2_with fail
          refine bodyPost_ret (v := .tuple #[.int .i64 0, .slice none 0 0, .int .i64 120]) (by simp [results, Tryd.results9, go_sem]) rfl ?_
          exact paZ_ret HP.out _ (Ext.refl _)
        · have HP := Lib.hid (paZ_yes (x := x) (r := r) (by omega))
          have hw64 : IntKind.i64.wrap (x : Int) = (x : Int) := IntWalk.i64_in _ (by omega)
          have hcut := fun W => zcut_one (some ⟨g, o, none⟩) n c (by omega) W
          have HB1 := Lib.hid (By.tail1 HB.out)
          clear hlen
          go_enter Tryd.func9, Tryd.ntmps9
          go_wp2_with fail
          have hS0 : w.drew.cell? ⟨g, o, none⟩ = some (.int .u8 (x : Int)) := c0
          have HB2 := Lib.hid (HB1.out.ext (Ext.refl w).drew)
          have HCP := Lib.hid (copy_by (tlA (some ⟨g, o, none⟩) c) r (n - 1) (c - 1) w.drew HB2.out (by omega))
          go_region_held3 (fun w' => w'.cell? ⟨g, o, none⟩ = some (.int .u8 (x : Int)))
            (first | with_reducible exact hS0 | with_reducible exact hS1 | with_reducible assumption)
            (first
              | (go_at_call 5; ((with_reducible refine HCP.out.mono ?_); rintro e' w3 ⟨A', c', rfl, hby, hx, _⟩; have HX3 := Lib.hid (Ext.trans (Ext.refl w).drew hx); have HBY := Lib.hid hby; have hS1 := ext_cellZ hx hS0; clear hby hx)))
          go_wp2_with fail
          refine bodyPost_ret (v := .tuple #[.int .i64 (x : Int), .slice A' (n - 1) c', .int .i64 0]) (by simp [results, Tryd.results9, go_sem]) rfl ?_
          rw [HP.out]
          exact ⟨A', n - 1, c', rfl, HBY.out, HX3.out⟩
end Go.Proofs.YtnlappoocffcpaaDoor
