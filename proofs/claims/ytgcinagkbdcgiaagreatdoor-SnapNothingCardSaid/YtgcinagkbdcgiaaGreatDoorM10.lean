/-
  Plain facts on what Open answers, told by what Seal answers; and a piece of a slice of bytes.
-/
import Derived.Test.YtgcinagkbdcgiaaGreatDoorM00
import Derived.Test.YtgcinagkbdcgiaaGreatDoorM08
import Derived.Test.YtgcinagkbdcgiaaGreatDoorM09
import Derived.Deep.RegionHeld3
import Derived.Lib.SmallJoins
namespace Go.Proofs.YtgcinagkbdcgiaaGreatDoor
set_option maxRecDepth 100000
section
open Go Go.RowKit
theorem By.sub {w : World} {g o n c : Nat} {l : List Nat} (h : By w (some ⟨g, o, none⟩) n c l) (i k c' : Nat) (hk : i + k ≤ n) (hc : k ≤ c') (hm : c' ≤ 9223372036854775807) : By w (some ⟨g, o + i, none⟩) k c' ((l.drop i).take k) :=
  ⟨by rw [List.length_take, List.length_drop, h.len]; omega, hc, hm, (h.rd.drop rfl i).take k, fun hh => by cases hh⟩
def okB (l : List Nat) : Bool := PV (tagOf l) && decide (17 + bodyN l ≤ l.length)
def qf (l : List Nat) (k : Nat) : Nat := if okB l = true then pf (tagOf l) k else 0
def ql (l : List Nat) : List Nat := if okB l = true then bodyOf l else []
theorem qf_yes {l : List Nat} (h : okB l = true) (k : Nat) : qf l k = pf (tagOf l) k := by unfold qf; rw [if_pos h]
theorem qf_no {l : List Nat} (h : okB l = false) (k : Nat) : qf l k = 0 := by unfold qf; rw [if_neg (by rw [h]; simp)]
theorem ql_yes {l : List Nat} (h : okB l = true) : ql l = bodyOf l := by unfold ql; rw [if_pos h]
theorem ql_no {l : List Nat} (h : okB l = false) : ql l = [] := by unfold ql; rw [if_neg (by rw [h]; simp)]
theorem okB_PV {l : List Nat} (h : PV (tagOf l) = false) : okB l = false := by unfold okB; rw [h]; rfl
theorem okB_long {l : List Nat} (h : l.length < 17 + bodyN l) : okB l = false := by
  unfold okB
  rw [decide_eq_false (by omega), Bool.and_false]
theorem okB_yes {l : List Nat} (hp : PV (tagOf l) = true) (h : 17 + bodyN l ≤ l.length) : okB l = true := by
  unfold okB
  rw [hp, decide_eq_true h]
  rfl
def stN (l : List Nat) : Nat := if szB l = true then (if zeroB l = true then 0 else if goodB l = true then 1 else 2) else 2
def ofl (l : List Nat) (k : Nat) : Nat := if goodB l = true then pf (tagOf l) k else 0
def obl (l : List Nat) : List Nat := if goodB l = true then bodyOf l else []
theorem ofl_yes {l : List Nat} (h : goodB l = true) (k : Nat) : ofl l k = pf (tagOf l) k := by unfold ofl; rw [if_pos h]
theorem ofl_no {l : List Nat} (h : goodB l = false) (k : Nat) : ofl l k = 0 := by unfold ofl; rw [if_neg (by rw [h]; simp)]
theorem obl_yes {l : List Nat} (h : goodB l = true) : obl l = bodyOf l := by unfold obl; rw [if_pos h]
theorem obl_no {l : List Nat} (h : goodB l = false) : obl l = [] := by unfold obl; rw [if_neg (by rw [h]; simp)]
theorem good_sz {l : List Nat} (h : goodB l = true) : szB l = true := by
  unfold goodB at h
  simp only [Bool.and_eq_true] at h
  exact h.1.1.1
theorem szB_iff {l : List Nat} : szB l = true ↔ l.length = 64 ∨ l.length = 128 := by
  unfold szB
  simp
theorem stN_good {l : List Nat} (h : goodB l = true) : stN l = 1 := by
  unfold stN
  rw [if_pos (good_sz h), if_neg (by rw [good_not_zero h]; simp), if_pos h]
theorem stN_blank {l : List Nat} (hs : szB l = true) (h : zeroB l = true) : stN l = 0 := by unfold stN; rw [if_pos hs, if_pos h]
theorem stN_size {l : List Nat} (h : szB l = false) : stN l = 2 := by unfold stN; rw [if_neg (by rw [h]; simp)]
theorem stN_bad {l : List Nat} (hz : zeroB l = false) (h : goodB l = false) : stN l = 2 := by
  unfold stN
  rw [if_neg (show ¬ zeroB l = true by rw [hz]; simp), if_neg (show ¬ goodB l = true by rw [h]; simp)]
  split <;> rfl
theorem size_bad {l : List Nat} (h : szB l = false) : goodB l = false := by
  unfold goodB
  rw [h]
  rfl
theorem zero_bad {l : List Nat} (h : zeroB l = true) : goodB l = false := by
  by_cases hg : goodB l = true
  · rw [good_not_zero hg] at h; cases h
  · simpa using hg
theorem stN_one {l : List Nat} : stN l = 1 ↔ goodB l = true := by
  constructor
  · intro h
    by_cases hg : goodB l = true
    · exact hg
    · have hg' : goodB l = false := by simpa using hg
      unfold stN at h
      rw [if_neg hg] at h
      split at h
      · split at h <;> cases h
      · cases h
  · exact stN_good
theorem room_ws {l : List Nat} (h : szB l = false) : roomN ((wsN l.length : Nat) : Int) = 0 := by
  have hs : ¬ (l.length = 64 ∨ l.length = 128) := fun hh => by rw [szB_iff.2 hh] at h; cases h
  unfold wsN
  by_cases hm : l.length % 64 = 0
  · rw [if_pos hm]
    exact roomN_no (by omega) (by omega)
  · rw [if_neg hm]
    exact roomN_no (by omega) (by omega)
theorem ws_div {l : List Nat} (h : szB l = true) : wsN l.length = l.length / 64 := by
  unfold wsN
  rw [szB_iff] at h
  rw [if_pos (by omega)]
theorem room_pos {l : List Nat} (h : szB l = true) : roomN ((l.length / 64 : Nat) : Int) ≠ 0 := by
  rw [szB_iff] at h
  rcases h with h | h
  · rw [h]; decide
  · rw [h]; decide
theorem good_okB {l : List Nat} (h : goodB l = true) : okB l = true := by
  obtain ⟨hs, hp, hn, _⟩ := good_parts h
  have := room_le_of hs hn
  exact okB_yes hp (by omega)
theorem may_pf {l : List Nat} (h : PV l = true) : mayB (pf l 0) (pf l 1) (pf l 2) (pf l 3) (pf l 4) = true := by
  rw [pf_yes h, pf_yes h, pf_yes h, pf_yes h, pf_yes h]
  unfold PV at h
  simp only [Bool.and_eq_true] at h
  exact h.2
theorem tagOf_lt {l : List Nat} (hl : ∀ b ∈ l, b < 256) : ∀ b ∈ tagOf l, b < 256 := fun x hx => hl x (List.mem_of_mem_drop (List.mem_of_mem_take hx))
theorem bodyOf_len {l : List Nat} (h : 17 + bodyN l ≤ l.length) : (bodyOf l).length = bodyN l := by unfold bodyOf; rw [List.length_take, List.length_drop]; omega
theorem okB_parts {l : List Nat} (h : okB l = true) : PV (tagOf l) = true ∧ 17 + bodyN l ≤ l.length := by
  unfold okB at h
  simpa using h
def reE (l : List Nat) : Int := sealE (qf l 0) (qf l 1) (qf l 2) (qf l 3) (qf l 4) (ql l).length ((l.length / 64 : Nat) : Int)
def reL (l : List Nat) : List Nat := sealL (qf l 0) (qf l 1) (qf l 2) (qf l 3) (qf l 4) (ql l) ((l.length / 64 : Nat) : Int)
theorem re_no {l : List Nat} (hs : szB l = true) (h : reE l ≠ 0) : goodB l = false := by
  by_cases hg : goodB l = true
  · refine absurd ?_ h
    have ho := good_okB hg
    obtain ⟨hp, hn⟩ := okB_parts ho
    unfold reE
    rw [qf_yes ho, qf_yes ho, qf_yes ho, qf_yes ho, qf_yes ho, ql_yes ho]
    exact sealE_yes (room_pos hs) (may_pf hp) (by rw [bodyOf_len hn]; exact (good_parts hg).2.2.1)
  · simpa using hg
theorem re_yes {l : List Nat} (hs : szB l = true) (hl : ∀ b ∈ l, b < 256) (h : reE l = 0) : goodB l = decide (reL l = l) := by
  have hr := room_pos hs
  by_cases ho : okB l = true
  · obtain ⟨hp, hn⟩ := okB_parts ho
    unfold reE at h
    rw [qf_yes ho, qf_yes ho, qf_yes ho, qf_yes ho, qf_yes ho, ql_yes ho, bodyOf_len hn] at h
    have hroom : bodyN l ≤ roomN ((l.length / 64 : Nat) : Int) := by
      rcases Nat.lt_or_ge (roomN ((l.length / 64 : Nat) : Int)) (bodyN l) with h1 | h1
      · rw [sealE_long hr (may_pf hp) h1] at h; cases h
      · exact h1
    have hL : reL l = frameL (bodyOf l) (tagOf l) (l.length / 64) := by
      unfold reL
      rw [qf_yes ho, qf_yes ho, qf_yes ho, qf_yes ho, qf_yes ho, ql_yes ho, sealL_yes (by rw [bodyOf_len hn]; exact h), (pl_of hp (tagOf_lt hl)).1, Int.toNat_natCast]
    rw [hL]
    unfold goodB
    rw [hs, hp, decide_eq_true hroom, Bool.true_and, Bool.true_and, Bool.true_and]
    by_cases he : l = frameL (bodyOf l) (tagOf l) (l.length / 64)
    · rw [decide_eq_true he, decide_eq_true he.symm]
    · rw [decide_eq_false he, decide_eq_false fun hh => he hh.symm]
  · have ho' : okB l = false := by simpa using ho
    unfold reE at h
    rw [qf_no ho', qf_no ho', qf_no ho', qf_no ho', qf_no ho', sealE_arg (.inr (by decide))] at h
    cases h
end
section
open Go Go.RowKit
theorem five_far {w : World} {g h k : Nat} (hne : g ≠ h) (x0 x1 x2 x3 x4 : Value) :
    (((((w.setCell ⟨g, 0, none⟩ x0).setCell ⟨g, 1, none⟩ x1).setCell ⟨g, 2, none⟩ x2).setCell ⟨g, 3, none⟩ x3).setCell ⟨g, 4, none⟩ x4).cell? ⟨h, k, none⟩ = w.cell? ⟨h, k, none⟩ := by
  rw [World.cell?_setCell_far _ ⟨g, 4, none⟩ ⟨h, k, none⟩ _ hne, World.cell?_setCell_far _ ⟨g, 3, none⟩ ⟨h, k, none⟩ _ hne, World.cell?_setCell_far _ ⟨g, 2, none⟩ ⟨h, k, none⟩ _ hne, World.cell?_setCell_far _ ⟨g, 1, none⟩ ⟨h, k, none⟩ _ hne, World.cell?_setCell_far _ ⟨g, 0, none⟩ ⟨h, k, none⟩ _ hne]
theorem five_far_drew {w : World} {g h k : Nat} {v : Value} (hne : g ≠ h) (hc : w.cell? ⟨h, k, none⟩ = some v) (x0 x1 x2 x3 x4 : Value) :
    (((((w.setCell ⟨g, 0, none⟩ x0).setCell ⟨g, 1, none⟩ x1).setCell ⟨g, 2, none⟩ x2).setCell ⟨g, 3, none⟩ x3).setCell ⟨g, 4, none⟩ x4).drew.cell? ⟨h, k, none⟩ = some v := by
  have e : ∀ W : World, W.drew.cell? ⟨h, k, none⟩ = W.cell? ⟨h, k, none⟩ := fun _ => rfl
  rw [e, five_far hne]
  exact hc
theorem row_step {w : World} {g t : Nat} {fr : Nat × Nat} {cs cs' : Array Value} (i : Nat) (h : w.heap[g]? = some (.cells cs t fr)) (x : Value) (e : cs.setIfInBounds i x = cs') : (w.setCell ⟨g, i, none⟩ x).heap[g]? = some (.cells cs' t fr) := by
  subst e
  rw [setCell_eq_setRow w g i cs t fr x h]
  exact setRow_heap w g _ _ _ _ h
theorem five_row {w : World} {g t : Nat} {y0 y1 y2 y3 y4 : Value} (h : w.heap[g]? = some (.cells #[y0, y1, y2, y3, y4] t (0, 0))) (x0 x1 x2 x3 x4 : Value) :
    (((((w.setCell ⟨g, 0, none⟩ x0).setCell ⟨g, 1, none⟩ x1).setCell ⟨g, 2, none⟩ x2).setCell ⟨g, 3, none⟩ x3).setCell ⟨g, 4, none⟩ x4).heap[g]? = some (.cells #[x0, x1, x2, x3, x4] t (0, 0)) := by
  exact row_step 4 (row_step 3 (row_step 2 (row_step 1 (row_step 0 h x0 rfl) x1 rfl) x2 rfl) x3 rfl) x4 rfl
theorem five_near_drew {w : World} {g : Nat} {y0 y1 y2 y3 y4 : Value} (h : w.heap[g]? = some (.cells #[y0, y1, y2, y3, y4] 44 (0, 0))) (x0 x1 x2 x3 x4 : Value) :
    (((((w.setCell ⟨g, 0, none⟩ x0).setCell ⟨g, 1, none⟩ x1).setCell ⟨g, 2, none⟩ x2).setCell ⟨g, 3, none⟩ x3).setCell ⟨g, 4, none⟩ x4).drew.cell? ⟨g, 0, none⟩ = some x0 ∧
    (((((w.setCell ⟨g, 0, none⟩ x0).setCell ⟨g, 1, none⟩ x1).setCell ⟨g, 2, none⟩ x2).setCell ⟨g, 3, none⟩ x3).setCell ⟨g, 4, none⟩ x4).drew.cell? ⟨g, 1, none⟩ = some x1 ∧
    (((((w.setCell ⟨g, 0, none⟩ x0).setCell ⟨g, 1, none⟩ x1).setCell ⟨g, 2, none⟩ x2).setCell ⟨g, 3, none⟩ x3).setCell ⟨g, 4, none⟩ x4).drew.cell? ⟨g, 2, none⟩ = some x2 ∧
    (((((w.setCell ⟨g, 0, none⟩ x0).setCell ⟨g, 1, none⟩ x1).setCell ⟨g, 2, none⟩ x2).setCell ⟨g, 3, none⟩ x3).setCell ⟨g, 4, none⟩ x4).drew.cell? ⟨g, 3, none⟩ = some x3 ∧
    (((((w.setCell ⟨g, 0, none⟩ x0).setCell ⟨g, 1, none⟩ x1).setCell ⟨g, 2, none⟩ x2).setCell ⟨g, 3, none⟩ x3).setCell ⟨g, 4, none⟩ x4).drew.cell? ⟨g, 4, none⟩ = some x4 := by
  have e : ∀ (W : World) k, W.drew.cell? ⟨g, k, none⟩ = W.cell? ⟨g, k, none⟩ := fun _ _ => rfl
  rw [e, e, e, e, e]
  exact (five_cells (five_row h x0 x1 x2 x3 x4)).1
theorem set_block {w : World} {g h k : Nat} {x : Value} {o : Obj} (hne : g ≠ h) (hh : w.heap[h]? = some o) (hg : ∃ cs t fr, w.heap[g]? = some (.cells cs t fr)) : (w.setCell ⟨g, k, none⟩ x).heap[h]? = some o := by
  obtain ⟨cs, t, fr, hr⟩ := hg
  rw [setCell_eq_setRow w g k cs t fr x hr]
  exact (setRow_other w _ _ _ (fun e => hne e.symm)).trans hh
theorem five_block {w : World} {g h t : Nat} {y0 y1 y2 y3 y4 : Value} {o : Obj} (hne : g ≠ h) (hg : w.heap[g]? = some (.cells #[y0, y1, y2, y3, y4] t (0, 0))) (hh : w.heap[h]? = some o) (x0 x1 x2 x3 x4 : Value) :
    (((((w.setCell ⟨g, 0, none⟩ x0).setCell ⟨g, 1, none⟩ x1).setCell ⟨g, 2, none⟩ x2).setCell ⟨g, 3, none⟩ x3).setCell ⟨g, 4, none⟩ x4).heap[h]? = some o := by
  have step : ∀ (W : World) (k : Nat) (x : Value), (∃ cs t fr, W.heap[g]? = some (.cells cs t fr)) → W.heap[h]? = some o → (∃ cs t fr, (W.setCell ⟨g, k, none⟩ x).heap[g]? = some (.cells cs t fr)) ∧ (W.setCell ⟨g, k, none⟩ x).heap[h]? = some o := by
    intro W k x hr hW
    refine ⟨?_, set_block hne hW hr⟩
    obtain ⟨cs, t, fr, hr⟩ := hr
    rw [setCell_eq_setRow W g k cs t fr x hr]
    exact ⟨_, _, _, setRow_heap W _ _ _ _ _ hr⟩
  obtain ⟨a0, b0⟩ := step w 0 x0 ⟨_, _, _, hg⟩ hh
  obtain ⟨a1, b1⟩ := step _ 1 x1 a0 b0
  obtain ⟨a2, b2⟩ := step _ 2 x2 a1 b1
  obtain ⟨a3, b3⟩ := step _ 3 x3 a2 b2
  exact (step _ 4 x4 a3 b3).2
end
section
open Go Go.RowKit
theorem cut_body (g n cp N : Nat) (hn : 17 + N ≤ cp) : ∃ A' : Option Addr, (0 < N → A' = some ⟨g, 17, none⟩) ∧
    ∀ w, (Instr.slice 45 (.slice (some ⟨g, 0, none⟩) n cp) (some (.int .i64 17)) (some (.int .i64 (17 + (N : Int)))) (some (.int .i64 (17 + (N : Int))))).run Tryz.prog w = .ok (.slice A' N N) w := by
  refine ⟨if 17 + N = 17 then some ⟨g, 0, none⟩ else some ⟨g, 17, none⟩, fun h => by rw [if_neg (by omega)], fun w => ?_⟩
  have ht : Tryz.prog.elem 45 = 5 := by kernel_rfl
  have hs : (sizeOf (Tryz.prog.elem 45)).run Tryz.prog w = .ok 1 w := by
    obtain ⟨i0, hi, _, hz1, _⟩ := info_parts byte_info
    rw [ht]
    simp [Go.sizeOf, typeInfo, hi, hz1]
  rw [run_slice_lhm w 45 (some ⟨g, 0, none⟩) n cp (by rw [ht]; exact Tryz.underlying45) .i64 .i64 .i64 17 (17 + (N : Int)) (17 + (N : Int)) (by omega) (by omega) (by omega) (by omega), hs]
  have e : (17 + (N : Int)).toNat = 17 + N := by omega
  simp only [Result.andThen, sliced, e]
  have e2 : 17 + N - Int.toNat 17 = N := by omega
  rw [e2, show Int.toNat 17 = 17 from rfl]
  rfl
set_option maxHeartbeats 6400000 in
theorem parts_any (g n cp : Nat) (l : List Nat) (w : World) (hL : LaidA w) (hb : By w (some ⟨g, 0, none⟩) n cp l) (hn : 64 ≤ n) (hn2 : n ≤ 128) :
    Calls Tryz.prog 274 #[.slice (some ⟨g, 0, none⟩) n cp] w fun r w' => ∃ A' N, r = .returned (.tuple #[.agg #[.int .i64 (qf l 0), .int .i64 (qf l 1), .int .i64 (qf l 2), .int .i64 (qf l 3), .int .i64 (qf l 4)], .slice A' N N]) ∧ By w' A' N N (ql l) ∧ (0 < N → A' = some ⟨g, 17, none⟩ ∧ 17 + N ≤ n) ∧ Ext w w' := by
  have hz : (w.alloc (.cells #[.int .i64 0, .int .i64 0, .int .i64 0, .int .i64 0, .int .i64 0] 44)).heap[w.heap.size]? = some (.cells #[.int .i64 0, .int .i64 0, .int .i64 0, .int .i64 0, .int .i64 0] 44 (0, 0)) := heap_alloc_new w _
  have hE := (Ext.refl w).alloc (.cells #[.int .i64 0, .int .i64 0, .int .i64 0, .int .i64 0, .int .i64 0] 44)
  have hcap := Bs.cap hb
  have hmost := Bs.most hb
  have HN : Hid (l.length = n) := Lib.hid (Bs.len hb)
  have HG : Hid (getS l 0 2 = (bodyN l, 2, 0)) := Lib.hid (getS_zero (x := 2) rfl (by rw [HN.out]; omega))
  have hN16 : bodyN l < 65536 := by
    have h2 := num_lt (l.take 2) (fun b hb' => (Bs.rd hb).lt b (List.mem_of_mem_take hb'))
    rw [List.length_take, Nat.min_eq_left (by rw [HN.out]; omega)] at h2
    exact h2
  have HB := Lib.hid hb
  have HL := Lib.hid hL
  have HE := Lib.hid hE
  have HZ := Lib.hid hz
  have HSub : Hid (By w (some ⟨g, 2, none⟩) 15 (cp - 2) (tagOf l)) := Lib.hid (by have := hb.sub 2 15 (cp - 2) (by omega) (by omega) (by omega); rwa [Nat.zero_add] at this)
  clear hb hL hE hz
  go_enter Tryz.func274, Tryz.ntmps274
  go_wp2_with fail
  refine (get_by _ l n cp 0 2 _ (HL.out.ext HE.out).o (HB.out.ext HE.out) (by omega)).mono ?_
  rw [HG.out]
  rintro r w1 ⟨rfl, hx⟩
  have HE := Lib.hid (HE.out.trans hx)
  have hz1 := (hx.block _ (Array.getElem?_eq_some_iff.1 HZ.out).1).trans HZ.out
  have HZ := Lib.hid hz1
  clear hx hz1
  go_wp2_with fail
  by_cases hv : PV (tagOf l) = true
  · by_cases hle : 17 + bodyN l ≤ n
    · have ho : okB l = true := okB_yes hv (by rw [HN.out]; exact hle)
      have HF : Hid (∀ k, qf l k = pf (tagOf l) k) := Lib.hid (qf_yes ho)
      have HQ : Hid (ql l = bodyOf l) := Lib.hid (ql_yes ho)
      refine (parse_any _ _ _ (tagOf l) _ (HL.out.ext HE.out) (HSub.out.ext ((Ext.refl w).trans HE.out)) (by omega)).mono ?_
      rw [pe_yes hv]
      rintro r w2 ⟨rfl, hx2⟩
      have hx := hx2.alloc (.cells #[.int .i64 (pf (tagOf l) 0), .int .i64 (pf (tagOf l) 1), .int .i64 (pf (tagOf l) 2), .int .i64 (pf (tagOf l) 3), .int .i64 (pf (tagOf l) 4)] 44)
      have hr2 := heap_alloc_new w2 (.cells #[.int .i64 (pf (tagOf l) 0), .int .i64 (pf (tagOf l) 1), .int .i64 (pf (tagOf l) 2), .int .i64 (pf (tagOf l) 3), .int .i64 (pf (tagOf l) 4)] 44)
      have hz1 := (hx.block _ (Array.getElem?_eq_some_iff.1 HZ.out).1).trans HZ.out
      have HE := Lib.hid (HE.out.trans hx)
      have HR2 := Lib.hid hr2
      have HZ1 : Hid (w1.heap[w.heap.size]? = _) := HZ
      have hlt1 := Ext.size (show Ext w1 w2 from hx2)
      have HZ := Lib.hid hz1
      obtain ⟨⟨c0, c1, c2, c3, c4⟩, f0, f1, f2, f3, f4⟩ := five_cells hz1
      obtain ⟨⟨d0, d1, d2, d3, d4⟩, _⟩ := five_cells hr2
      clear hx hr2 hz1 hv ho HG
      go_wp2_with fail
      generalize w2.alloc (.cells #[.int .i64 (pf (tagOf l) 0), .int .i64 (pf (tagOf l) 1), .int .i64 (pf (tagOf l) 2), .int .i64 (pf (tagOf l) 3), .int .i64 (pf (tagOf l) 4)] 44) = W at *
      generalize w2.heap.size = h2 at *
      generalize hh0 : w.heap.size = h0 at *
      generalize hbN : bodyN l = N at *
      have HBN := Lib.hid hbN
      clear hbN
      have HN0 := Lib.hid hh0
      have hne : h0 ≠ h2 := by have := (Array.getElem?_eq_some_iff.1 HZ1.out).1; omega
      clear hh0
      obtain ⟨A', hA', hsl⟩ := cut_body g n cp N (by omega)
      have HA' := Lib.hid hA'
      clear hA'
      go_region_held3 (fun w' => w'.cell? ⟨h2, 0, none⟩ = some (.int .i64 (pf (tagOf l) 0)) ∧ w'.cell? ⟨h2, 1, none⟩ = some (.int .i64 (pf (tagOf l) 1)) ∧ w'.cell? ⟨h2, 2, none⟩ = some (.int .i64 (pf (tagOf l) 2)) ∧ w'.cell? ⟨h2, 3, none⟩ = some (.int .i64 (pf (tagOf l) 3)) ∧ w'.cell? ⟨h2, 4, none⟩ = some (.int .i64 (pf (tagOf l) 4)))
        (first | with_reducible exact ⟨d0, d1, d2, d3, d4⟩ | with_reducible exact ⟨five_far_drew hne d0 _ _ _ _ _, five_far_drew hne d1 _ _ _ _ _, five_far_drew hne d2 _ _ _ _ _, five_far_drew hne d3 _ _ _ _ _, five_far_drew hne d4 _ _ _ _ _⟩ | go_keep)
        (first | (go_at_call 0; fail))
      have hrow := five_row HZ.out (.int .i64 (pf (tagOf l) 0)) (.int .i64 (pf (tagOf l) 1)) (.int .i64 (pf (tagOf l) 2)) (.int .i64 (pf (tagOf l) 3)) (.int .i64 (pf (tagOf l) 4))
      have hx := five_ext HE.out (g := h0) (Nat.le_of_eq HN0.out) (.int .i64 (pf (tagOf l) 0)) (.int .i64 (pf (tagOf l) 1)) (.int .i64 (pf (tagOf l) 2)) (.int .i64 (pf (tagOf l) 3)) (.int .i64 (pf (tagOf l) 4))
      clear c0 c1 c2 c3 c4 f0 f1 f2 f3 f4 d0 d1 d2 d3 d4
      generalize (((((W.setCell ⟨h0, 0, none⟩ (.int .i64 (pf (tagOf l) 0))).setCell ⟨h0, 1, none⟩ (.int .i64 (pf (tagOf l) 1))).setCell ⟨h0, 2, none⟩ (.int .i64 (pf (tagOf l) 2))).setCell ⟨h0, 3, none⟩ (.int .i64 (pf (tagOf l) 3))).setCell ⟨h0, 4, none⟩ (.int .i64 (pf (tagOf l) 4))) = V at hrow hx ⊢
      obtain ⟨⟨e0, e1, e2, e3, e4⟩, _⟩ := five_cells hrow
      have HX := Lib.hid hx.drew
      have HBy : Hid (By V.drew A' N N (bodyOf l)) := by
        refine Lib.hid ?_
        by_cases h0N : N = 0
        · have hnil : bodyOf l = [] := by unfold bodyOf; rw [HBN.out, h0N, List.take_zero]
          subst h0N
          rw [hnil]
          exact ⟨rfl, Nat.le_refl _, by omega, Rd.nil_, fun _ => rfl⟩
        · rw [HA'.out (by omega)]
          have hs := (HB.out.sub 17 N N (by omega) (Nat.le_refl _) (by omega)).ext HX.out
          rw [Nat.zero_add] at hs
          unfold bodyOf
          rw [HBN.out]
          exact hs
      clear hrow hx
      go_wp2_with fail
      refine bodyPost_ret (v := .tuple #[.agg #[.int .i64 (pf (tagOf l) 0), .int .i64 (pf (tagOf l) 1), .int .i64 (pf (tagOf l) 2), .int .i64 (pf (tagOf l) 3), .int .i64 (pf (tagOf l) 4)], .slice A' N N]) ?_ rfl ?_
      · simp [results, Tryz.results274, go_sem, e0, e1, e2, e3, e4]
      · exact ⟨A', N, by rw [HF.out, HF.out, HF.out, HF.out, HF.out], by rw [HQ.out]; exact HBy.out, fun hN => ⟨HA'.out hN, hle⟩, HX.out⟩
    · have ho : okB l = false := okB_long (by rw [HN.out]; omega)
      have HF : Hid (∀ k, qf l k = 0) := Lib.hid (qf_no ho)
      have HQ : Hid (ql l = []) := Lib.hid (ql_no ho)
      refine (parse_any _ _ _ (tagOf l) _ (HL.out.ext HE.out) (HSub.out.ext ((Ext.refl w).trans HE.out)) (by omega)).mono ?_
      rw [pe_yes hv]
      rintro r w2 ⟨rfl, hx2⟩
      have hx := hx2.alloc (.cells #[.int .i64 (pf (tagOf l) 0), .int .i64 (pf (tagOf l) 1), .int .i64 (pf (tagOf l) 2), .int .i64 (pf (tagOf l) 3), .int .i64 (pf (tagOf l) 4)] 44)
      have hz1 := (hx.block _ (Array.getElem?_eq_some_iff.1 HZ.out).1).trans HZ.out
      have HE := Lib.hid (HE.out.trans hx)
      obtain ⟨⟨c0, c1, c2, c3, c4⟩, f0, f1, f2, f3, f4⟩ := five_cells hz1
      clear hx hz1 hv ho HG
      generalize bodyN l = N at *
      go_wp2_with fail
      refine bodyPost_ret (v := .tuple #[.agg #[.int .i64 0, .int .i64 0, .int .i64 0, .int .i64 0, .int .i64 0], .slice none 0 0]) ?_ rfl ?_
      · simp [results, Tryz.results274, go_sem, c0, c1, c2, c3, c4]
      · exact ⟨none, 0, by rw [HF.out, HF.out, HF.out, HF.out, HF.out]; rfl, by rw [HQ.out]; exact By.nil_ _, fun hN => absurd hN (by omega), five_ext HE.out (Nat.le_refl _) _ _ _ _ _⟩
  · have hv' : PV (tagOf l) = false := by simpa using hv
    have ho : okB l = false := okB_PV hv'
    have HF : Hid (∀ k, qf l k = 0) := Lib.hid (qf_no ho)
    have HQ : Hid (ql l = []) := Lib.hid (ql_no ho)
    refine (parse_any _ _ _ (tagOf l) _ (HL.out.ext HE.out) (HSub.out.ext ((Ext.refl w).trans HE.out)) (by omega)).mono ?_
    rw [pe_no hv', pf_no hv', pf_no hv', pf_no hv', pf_no hv', pf_no hv']
    rintro r w2 ⟨rfl, hx2⟩
    have hx := hx2.alloc (.cells #[.int .i64 0, .int .i64 0, .int .i64 0, .int .i64 0, .int .i64 0] 44)
    have hz1 := (hx.block _ (Array.getElem?_eq_some_iff.1 HZ.out).1).trans HZ.out
    have HE := Lib.hid (HE.out.trans hx)
    obtain ⟨⟨c0, c1, c2, c3, c4⟩, f0, f1, f2, f3, f4⟩ := five_cells hz1
    clear hx hz1 hv ho HG hv'
    generalize bodyN l = N at *
    go_wp2_with fail
    refine bodyPost_ret (v := .tuple #[.agg #[.int .i64 0, .int .i64 0, .int .i64 0, .int .i64 0, .int .i64 0], .slice none 0 0]) ?_ rfl ?_
    · simp [results, Tryz.results274, go_sem, c0, c1, c2, c3, c4]
    · exact ⟨none, 0, by rw [HF.out, HF.out, HF.out, HF.out, HF.out]; rfl, by rw [HQ.out]; exact By.nil_ _, fun hN => absurd hN (by omega), five_ext HE.out (Nat.le_refl _) _ _ _ _ _⟩
end
section
open Go Go.RowKit
def Piece (B : Nat) (w' : World) (A' : Option Addr) (N n : Nat) (l : List Nat) : Prop := 0 < N → ∃ g c', A' = some ⟨g, 17, none⟩ ∧ 17 + N ≤ n ∧ w'.ownsRow B 5 1 (.slice (some ⟨g, 0, none⟩) n c') n (vb l)
theorem own_baseF {w : World} {b b' n : Nat} {e : TypeId} {s : Nat} {v : Value} {xs : List Value} (h : w.ownsRow b e s v n xs) (hb : b' ≤ b) : w.ownsRow b' e s v n xs := by
  refine ⟨h.1, ?_⟩
  rcases h.2 with h0 | ⟨g, cap, cur, hv, hbg, h1⟩
  · exact .inl h0
  · exact .inr ⟨g, cap, cur, hv, Nat.le_trans hb hbg, h1⟩
theorem own_block {w V : World} {b n g c : Nat} {e : TypeId} {s : Nat} {xs : List Value} (h : w.ownsRow b e s (.slice (some ⟨g, 0, none⟩) n c) n xs) (hk : ∀ o, w.heap[g]? = some o → V.heap[g]? = some o) : V.ownsRow b e s (.slice (some ⟨g, 0, none⟩) n c) n xs := by
  refine ⟨h.1, ?_⟩
  rcases h.2 with h0 | ⟨g', cap, cur, hv, hbg, hg, h1⟩
  · exact .inl h0
  · injection hv with hv1 hv2 hv3
    injection hv1 with hv1
    injection hv1 with hv1
    subst hv1; subst hv3
    exact .inr ⟨g, c, cur, rfl, hbg, hk _ hg, h1⟩
theorem ql_by {V : World} {g n c N : Nat} {A' : Option Addr} {l : List Nat} (h : By V (some ⟨g, 0, none⟩) n c l) (hA : 0 < N → A' = some ⟨g, 17, none⟩ ∧ 17 + N ≤ n) (hN : (ql l).length = N) (hm : N ≤ 9223372036854775807) : By V A' N N (ql l) := by
  by_cases h0 : N = 0
  · subst h0
    rw [List.eq_nil_of_length_eq_zero hN]
    exact ⟨rfl, Nat.le_refl _, by omega, Rd.nil_, fun _ => rfl⟩
  · obtain ⟨rfl, hle⟩ := hA (by omega)
    have hs := h.sub 17 N N hle (Nat.le_refl _) hm
    rw [Nat.zero_add] at hs
    by_cases ho : okB l = true
    · obtain ⟨_, hn⟩ := okB_parts ho
      rw [ql_yes ho, bodyOf_len hn] at hN
      rw [ql_yes ho]
      unfold bodyOf
      rw [hN]
      exact hs
    · rw [ql_no (by simpa using ho)] at hN
      exact absurd hN.symm h0
set_option maxHeartbeats 6400000 in
theorem open_early (A : Option Addr) (n cp : Nat) (l : List Nat) (w : World) (hb : By w A n cp l) (h : szB l = false ∨ zeroB l = true) :
    Calls Tryz.prog 246 #[.slice A n cp] w fun r w' => r = .returned (.tuple #[.int .u8 (stN l), .agg #[.int .i64 0, .int .i64 0, .int .i64 0, .int .i64 0, .int .i64 0], .slice none 0 0]) ∧ Ext w w' := by
  have hz := heap_alloc_new w (.cells #[.int .i64 0, .int .i64 0, .int .i64 0, .int .i64 0, .int .i64 0] 44)
  have hE := (Ext.refl w).alloc (.cells #[.int .i64 0, .int .i64 0, .int .i64 0, .int .i64 0, .int .i64 0] 44)
  have HN : Hid (l.length = n) := Lib.hid (Bs.len hb)
  have hmost : n ≤ 9223372036854775807 := Nat.le_trans (Bs.cap hb) (Bs.most hb)
  have HB := Lib.hid hb
  have HE := Lib.hid hE
  have HZ := Lib.hid hz
  clear hb hE hz
  by_cases hs : szB l = false
  · have HS := Lib.hid (stN_size hs)
    have hr := room_ws hs
    rw [HN.out] at hr
    obtain ⟨⟨c0, c1, c2, c3, c4⟩, f0, f1, f2, f3, f4⟩ := five_cells HZ.out
    clear hs h
    go_enter Tryz.func246, Tryz.ntmps246
    go_wp2_with fail
    refine (whole_any A n cp _ hmost).mono ?_
    rintro r w1 ⟨rfl, rfl⟩
    go_wp2_with fail
    refine (room_any _ _).mono ?_
    rw [hr]
    rintro r w1 ⟨rfl, rfl⟩
    clear hr
    go_wp2_with fail
    refine bodyPost_ret (v := .tuple #[.int .u8 2, .agg #[.int .i64 0, .int .i64 0, .int .i64 0, .int .i64 0, .int .i64 0], .slice none 0 0]) ?_ rfl ?_
    · simp [results, Tryz.results246, go_sem, c0, c1, c2, c3, c4]
    · exact ⟨by rw [HS.out]; rfl, by first | exact five_ext HE.out (Nat.le_refl _) _ _ _ _ _ | exact HE.out⟩
  · have hs' : szB l = true := by simpa using hs
    have hz' : zeroB l = true := by rcases h with h | h; exact absurd h hs; exact h
    have HS := Lib.hid (stN_blank hs' hz')
    have hr := room_pos hs'
    have hw := ws_div hs'
    rw [HN.out] at hw hr
    have hg : (((roomN ((wsN n : Nat) : Int) : Nat) : Int) == 0) = false := by rw [hw]; simpa using hr
    have HZB := Lib.hid hz'
    clear hs h hs' hz' hw hr
    go_enter Tryz.func246, Tryz.ntmps246
    go_wp2_with fail
    refine (whole_any A n cp _ hmost).mono ?_
    rintro r w1 ⟨rfl, rfl⟩
    go_wp2_with fail
    refine (room_any _ _).mono ?_
    rintro r w1 ⟨rfl, rfl⟩
    generalize roomN ((wsN n : Nat) : Int) = R at *
    go_wp2_with fail
    refine (isZero_any A n cp l _ (HB.out.ext HE.out)).mono ?_
    rw [HZB.out]
    rintro r w1 ⟨rfl, hx⟩
    have hz1 := (hx.block _ (Array.getElem?_eq_some_iff.1 HZ.out).1).trans HZ.out
    have HE := Lib.hid (HE.out.trans hx)
    obtain ⟨⟨c0, c1, c2, c3, c4⟩, f0, f1, f2, f3, f4⟩ := five_cells hz1
    clear hx hz1
    go_wp2_with fail
    refine bodyPost_ret (v := .tuple #[.int .u8 0, .agg #[.int .i64 0, .int .i64 0, .int .i64 0, .int .i64 0, .int .i64 0], .slice none 0 0]) ?_ rfl ?_
    · simp [results, Tryz.results246, go_sem, c0, c1, c2, c3, c4]
    · exact ⟨by rw [HS.out]; rfl, by first | exact five_ext HE.out (Nat.le_refl _) _ _ _ _ _ | exact HE.out⟩
set_option maxHeartbeats 6400000 in
theorem open_late (A : Option Addr) (n cp : Nat) (l : List Nat) (w : World) (hL : LaidF w) (hb : By w A n cp l) (hs : szB l = true) (hzb : zeroB l = false) :
    Calls Tryz.prog 246 #[.slice A n cp] w fun r w' => ∃ A' N, r = .returned (.tuple #[.int .u8 (stN l), .agg #[.int .i64 (ofl l 0), .int .i64 (ofl l 1), .int .i64 (ofl l 2), .int .i64 (ofl l 3), .int .i64 (ofl l 4)], .slice A' N N]) ∧ By w' A' N N (obl l) ∧ Piece w.heap.size w' A' N n l ∧ Ext w w' := by
  have hz := heap_alloc_new w (.cells #[.int .i64 0, .int .i64 0, .int .i64 0, .int .i64 0, .int .i64 0] 44)
  have hE := (Ext.refl w).alloc (.cells #[.int .i64 0, .int .i64 0, .int .i64 0, .int .i64 0, .int .i64 0] 44)
  have HN : Hid (l.length = n) := Lib.hid (Bs.len hb)
  have hmost : n ≤ 9223372036854775807 := Nat.le_trans (Bs.cap hb) (Bs.most hb)
  have hsz := szB_iff.1 hs
  rw [HN.out] at hsz
  have hr := room_pos hs
  have hw := ws_div hs
  rw [HN.out] at hw hr
  obtain ⟨S, hS⟩ : ∃ S, n / 64 = S := ⟨_, rfl⟩
  rw [hS] at hw hr
  have HS : Hid (l.length / 64 = S) := Lib.hid (by rw [HN.out]; exact hS)
  have hg : (((roomN ((S : Nat) : Int) : Nat) : Int) == 0) = false := by simpa using hr
  have HB := Lib.hid hb
  have HL := Lib.hid hL
  have HE := Lib.hid hE
  have HZ := Lib.hid hz
  have HZB := Lib.hid hzb
  have HSZ := Lib.hid hs
  have hn64 : 64 ≤ n := by omega
  have hn128 : n ≤ 128 := by omega
  clear hb hL hE hz hzb hs hS hr hsz
  go_enter Tryz.func246, Tryz.ntmps246
  go_wp2_with fail
  refine (whole_any A n cp _ hmost).mono ?_
  rw [hw]
  rintro r w1 ⟨rfl, rfl⟩
  clear hw
  go_wp2_with fail
  refine (room_any _ _).mono ?_
  rintro r w1 ⟨rfl, rfl⟩
  generalize roomN ((S : Nat) : Int) = R at *
  go_wp2_with fail
  refine (isZero_any A n cp l _ (HB.out.ext HE.out)).mono ?_
  rw [HZB.out]
  rintro r w1 ⟨rfl, hx⟩
  have hz1 := (hx.block _ (Array.getElem?_eq_some_iff.1 HZ.out).1).trans HZ.out
  have HE := Lib.hid (HE.out.trans hx)
  have HZ := Lib.hid hz1
  clear hx hz1
  go_wp2_with fail
  refine (clone_by A l n cp _ (HB.out.ext HE.out) (by omega)).mono ?_
  rintro r w2 ⟨A2, c2, rfl, hb2, hx, hown⟩
  obtain ⟨g, cap, hv⟩ := Go.Joins.ownsRow_form hown (by omega)
  injection hv with hv _ hcap
  subst hv; subst hcap
  have hz1 := (hx.block _ (Array.getElem?_eq_some_iff.1 HZ.out).1).trans HZ.out
  have hne : w.heap.size ≠ g := by have h1 := (hown.lt g rfl).1; have h2 := (Array.getElem?_eq_some_iff.1 HZ.out).1; omega
  have HO := Lib.hid (own_baseF hown (Ext.size HE.out))
  have HE := Lib.hid (HE.out.trans hx)
  have HZ := Lib.hid hz1
  have HB2 := Lib.hid hb2
  clear hx hz1 hown hb2
  go_wp2_with fail
  refine (parts_any g n c2 l _ (HL.out.ext HE.out).a HB2.out hn64 hn128).mono ?_
  rintro r w3 ⟨A3, N, rfl, hb3, hpc, hx⟩
  have hz1 := (hx.block _ (Array.getElem?_eq_some_iff.1 HZ.out).1).trans HZ.out
  have HE := Lib.hid (HE.out.trans hx)
  have HZ := Lib.hid hz1
  have HB3 := Lib.hid hb3
  have HP := Lib.hid hpc
  have HO := Lib.hid (own_ext HO.out hx)
  obtain ⟨⟨c0, c1, c2', c3, c4⟩, f0, f1, f2, f3, f4⟩ := five_cells hz1
  clear hx hz1 hb3 hpc HB2
  go_wp2_with fail
  have hrow := five_row HZ.out (.int .i64 (qf l 0)) (.int .i64 (qf l 1)) (.int .i64 (qf l 2)) (.int .i64 (qf l 3)) (.int .i64 (qf l 4))
  have hx := five_ext HE.out (Nat.le_refl _) (.int .i64 (qf l 0)) (.int .i64 (qf l 1)) (.int .i64 (qf l 2)) (.int .i64 (qf l 3)) (.int .i64 (qf l 4))
  have hown := own_block HO.out (V := (((((w3.setCell ⟨w.heap.size, 0, none⟩ (.int .i64 (qf l 0))).setCell ⟨w.heap.size, 1, none⟩ (.int .i64 (qf l 1))).setCell ⟨w.heap.size, 2, none⟩ (.int .i64 (qf l 2))).setCell ⟨w.heap.size, 3, none⟩ (.int .i64 (qf l 3))).setCell ⟨w.heap.size, 4, none⟩ (.int .i64 (qf l 4)))) (fun o ho => five_block hne HZ.out ho _ _ _ _ _)
  clear c0 c1 c2' c3 c4 f0 f1 f2 f3 f4
  have hqN : (ql l).length = N := HB3.out.len
  have hqm : N ≤ 9223372036854775807 := HB3.out.most
  generalize (((((w3.setCell ⟨w.heap.size, 0, none⟩ (.int .i64 (qf l 0))).setCell ⟨w.heap.size, 1, none⟩ (.int .i64 (qf l 1))).setCell ⟨w.heap.size, 2, none⟩ (.int .i64 (qf l 2))).setCell ⟨w.heap.size, 3, none⟩ (.int .i64 (qf l 3))).setCell ⟨w.heap.size, 4, none⟩ (.int .i64 (qf l 4))) = V at *
  have HO := Lib.hid hown
  have HBq := Lib.hid (ql_by (Bs.of_own hown HB.out.rd.lt) HP.out hqN hqm)
  have HE := Lib.hid hx
  have HZ := Lib.hid hrow
  have HRE : Hid (sealE (qf l 0) (qf l 1) (qf l 2) (qf l 3) (qf l 4) N ((S : Nat) : Int) = reE l) := Lib.hid (by unfold reE; rw [HS.out, hqN])
  have HRL : Hid (sealL (qf l 0) (qf l 1) (qf l 2) (qf l 3) (qf l 4) (ql l) ((S : Nat) : Int) = reL l) := Lib.hid (by unfold reL; rw [HS.out])
  clear hown hx hrow HB3 hqN hqm
  refine (seal_any _ _ _ _ _ _ _ _ _ (ql l) _ (HL.out.ext HE.out) HBq.out).mono ?_
  rw [HRE.out, HRL.out]
  rintro r w4 ⟨A4, c4, rfl, hb4, hx⟩
  have hz1 := (hx.block _ (Array.getElem?_eq_some_iff.1 HZ.out).1).trans HZ.out
  have HO := Lib.hid (own_ext HO.out hx)
  have HBq := Lib.hid (HBq.out.ext hx)
  have HE := Lib.hid (HE.out.trans hx)
  have HZ := Lib.hid hz1
  have HB4 := Lib.hid hb4
  obtain ⟨⟨d0, d1, d2, d3, d4⟩, f0, f1, f2, f3, f4⟩ := five_cells hz1
  clear hx hz1 hb4
  by_cases hre : reE l = 0
  · have hgood := re_yes HSZ.out HB.out.rd.lt hre
    rw [hre]
    generalize reL l = RL at *
    go_wp2_with fail
    refine (equal_by _ _ RL l _ n _ cp _ HB4.out (HB.out.ext HE.out)).mono ?_
    by_cases hg2 : RL = l
    · rw [decide_eq_true hg2] at hgood ⊢
      have HG := Lib.hid hgood
      have HF : Hid (∀ k, qf l k = ofl l k) := Lib.hid fun k => by rw [qf_yes (good_okB hgood), ofl_yes hgood]
      have HQ : Hid (ql l = obl l) := Lib.hid (by rw [ql_yes (good_okB hgood), obl_yes hgood])
      have HST := Lib.hid (stN_good hgood)
      clear hgood hg2
      rintro r w5 ⟨rfl, rfl⟩
      go_wp2_with fail
      generalize hh0 : w.heap.size = h0 at *
      have HN0 := Lib.hid hh0
      clear hh0
      go_region_held3 (fun w' => w'.cell? ⟨h0, 0, none⟩ = some (.int .i64 (qf l 0)) ∧ w'.cell? ⟨h0, 1, none⟩ = some (.int .i64 (qf l 1)) ∧ w'.cell? ⟨h0, 2, none⟩ = some (.int .i64 (qf l 2)) ∧ w'.cell? ⟨h0, 3, none⟩ = some (.int .i64 (qf l 3)) ∧ w'.cell? ⟨h0, 4, none⟩ = some (.int .i64 (qf l 4)))
        (first | with_reducible exact ⟨d0, d1, d2, d3, d4⟩ | with_reducible exact five_near_drew HZ.out _ _ _ _ _ | go_keep)
        (first | (go_at_call 0; fail))
      have hrow := five_row HZ.out (.int .i64 (qf l 0)) (.int .i64 (qf l 1)) (.int .i64 (qf l 2)) (.int .i64 (qf l 3)) (.int .i64 (qf l 4))
      have hx := five_ext HE.out (g := h0) (Nat.le_of_eq HN0.out) (.int .i64 (qf l 0)) (.int .i64 (qf l 1)) (.int .i64 (qf l 2)) (.int .i64 (qf l 3)) (.int .i64 (qf l 4))
      have hown := own_block HO.out (V := (((((w4.setCell ⟨h0, 0, none⟩ (.int .i64 (qf l 0))).setCell ⟨h0, 1, none⟩ (.int .i64 (qf l 1))).setCell ⟨h0, 2, none⟩ (.int .i64 (qf l 2))).setCell ⟨h0, 3, none⟩ (.int .i64 (qf l 3))).setCell ⟨h0, 4, none⟩ (.int .i64 (qf l 4)))) (fun o ho => five_block hne HZ.out ho _ _ _ _ _)
      have hqN : (ql l).length = N := HBq.out.len
      have hqm : N ≤ 9223372036854775807 := HBq.out.most
      clear d0 d1 d2 d3 d4 f0 f1 f2 f3 f4
      generalize (((((w4.setCell ⟨h0, 0, none⟩ (.int .i64 (qf l 0))).setCell ⟨h0, 1, none⟩ (.int .i64 (qf l 1))).setCell ⟨h0, 2, none⟩ (.int .i64 (qf l 2))).setCell ⟨h0, 3, none⟩ (.int .i64 (qf l 3))).setCell ⟨h0, 4, none⟩ (.int .i64 (qf l 4))) = V at hrow hx hown ⊢
      have HO := Lib.hid (own_ext hown ((Ext.refl V).drew))
      have HBq := Lib.hid (ql_by (Bs.of_own HO.out HB.out.rd.lt) HP.out hqN hqm)
      obtain ⟨⟨e0, e1, e2, e3, e4⟩, _⟩ := five_cells hrow
      have HX := Lib.hid hx.drew
      clear hrow hx hown hqN hqm
      go_wp2_with fail
      refine bodyPost_ret (v := .tuple #[.int .u8 1, .agg #[.int .i64 (qf l 0), .int .i64 (qf l 1), .int .i64 (qf l 2), .int .i64 (qf l 3), .int .i64 (qf l 4)], .slice A3 N N]) ?_ rfl ?_
      · simp [results, Tryz.results246, go_sem, e0, e1, e2, e3, e4]
      · exact ⟨A3, N, by rw [HF.out, HF.out, HF.out, HF.out, HF.out, HST.out]; rfl, by rw [← HQ.out]; exact HBq.out, fun hN => ⟨g, c2, (HP.out hN).1, (HP.out hN).2, by rw [HN0.out]; exact HO.out⟩, HX.out⟩
    · rw [decide_eq_false hg2] at hgood ⊢
      have HF : Hid (∀ k, ofl l k = 0) := Lib.hid (ofl_no hgood)
      have HQ : Hid (obl l = []) := Lib.hid (obl_no hgood)
      have HST := Lib.hid (stN_bad HZB.out hgood)
      clear hg2
      clear hgood
      rintro r w5 ⟨rfl, rfl⟩
      go_wp2_with fail
      refine bodyPost_ret (v := .tuple #[.int .u8 2, .agg #[.int .i64 0, .int .i64 0, .int .i64 0, .int .i64 0, .int .i64 0], .slice none 0 0]) ?_ rfl ?_
      · simp [results, Tryz.results246, go_sem, d0, d1, d2, d3, d4]
      · exact ⟨none, 0, by rw [HF.out, HF.out, HF.out, HF.out, HF.out, HST.out]; rfl, by rw [HQ.out]; exact By.nil_ _, fun hN => absurd hN (by omega), five_ext HE.out (Nat.le_refl _) _ _ _ _ _⟩
  · have hgood := re_no HSZ.out hre
    have hne0 : (reE l != 0) = true := by simpa using hre
    have HF : Hid (∀ k, ofl l k = 0) := Lib.hid (ofl_no hgood)
    have HQ : Hid (obl l = []) := Lib.hid (obl_no hgood)
    have HST := Lib.hid (stN_bad HZB.out hgood)
    clear hgood
    clear hre
    generalize reE l = E at *
    go_wp2_with fail
    refine bodyPost_ret (v := .tuple #[.int .u8 2, .agg #[.int .i64 0, .int .i64 0, .int .i64 0, .int .i64 0, .int .i64 0], .slice none 0 0]) ?_ rfl ?_
    · simp [results, Tryz.results246, go_sem, d0, d1, d2, d3, d4]
    · exact ⟨none, 0, by rw [HF.out, HF.out, HF.out, HF.out, HF.out, HST.out]; rfl, by rw [HQ.out]; exact By.nil_ _, fun hN => absurd hN (by omega), five_ext HE.out (Nat.le_refl _) _ _ _ _ _⟩
theorem open_any (A : Option Addr) (n cp : Nat) (l : List Nat) (w : World) (hL : LaidF w) (hb : By w A n cp l) :
    Calls Tryz.prog 246 #[.slice A n cp] w fun r w' => ∃ A' N, r = .returned (.tuple #[.int .u8 (stN l), .agg #[.int .i64 (ofl l 0), .int .i64 (ofl l 1), .int .i64 (ofl l 2), .int .i64 (ofl l 3), .int .i64 (ofl l 4)], .slice A' N N]) ∧ By w' A' N N (obl l) ∧ Piece w.heap.size w' A' N n l ∧ Ext w w' := by
  by_cases h : szB l = false ∨ zeroB l = true
  · have hg : goodB l = false := by rcases h with h | h; exact size_bad h; exact zero_bad h
    refine (open_early A n cp l w hb h).mono ?_
    rintro r w' ⟨rfl, hx⟩
    exact ⟨none, 0, by rw [ofl_no hg, ofl_no hg, ofl_no hg, ofl_no hg, ofl_no hg]; rfl, by rw [obl_no hg]; exact By.nil_ _, fun hN => absurd hN (by omega), hx⟩
  · exact open_late A n cp l w hL hb (by
      by_cases hs : szB l = true
      · exact hs
      · exact absurd (.inl (by simpa using hs)) h) (by
      by_cases hz : zeroB l = true
      · exact absurd (.inr hz) h
      · simpa using hz)
end
end Go.Proofs.YtgcinagkbdcgiaaGreatDoor
