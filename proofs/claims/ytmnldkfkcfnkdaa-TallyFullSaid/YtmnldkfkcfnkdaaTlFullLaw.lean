/-
  There is room for just 64 slots; one that is kept is noted all the same; what is dropped makes room: the law's walk.
-/
import Derived.Test.YtmnldkfkcfnkdaaTlAw
namespace Go.Proofs.Ytmnldkfkcfnkdaa
open Go Go.RowKit Go.Maps

/-- The slots from lo on, below hi, are held. -/
structure FullT (L : List (Int × Nat)) (lo hi : Int) : Prop where
  ok : OkT L
  held : ∀ j, lookT L j ≠ 0 ↔ lo ≤ j ∧ j < hi
  le : lo ≤ hi
  b1 : 1 ≤ lo
  b2 : hi ≤ 1099511627776
section
variable {L : List (Int × Nat)} {lo hi : Int}
theorem FullT.len (h : FullT L lo hi) : (L.length : Int) = hi - lo := by
  have h1 := nodup_le (m := (List.range (hi - lo).toNat).map fun k : Nat => lo + (k : Int)) h.ok.nod fun a ha => by
    have := (h.held a).1 (h.ok.held.1 ha)
    exact List.mem_map.2 ⟨(a - lo).toNat, List.mem_range.2 (by omega), by omega⟩
  have h2 := nodup_le (l := (List.range (hi - lo).toNat).map fun k : Nat => lo + (k : Int)) (m := L.map Prod.fst) (List.Pairwise.map _ (fun i j hij e => hij (by omega)) List.nodup_range) fun a ha => by
    obtain ⟨k, hk, rfl⟩ := List.mem_map.1 ha
    have := List.mem_range.1 hk
    exact h.ok.held.2 ((h.held _).2 (by omega))
  have := h.le
  simp at h1 h2
  omega
theorem FullT.next (h : FullT L lo hi) (hr : hi - lo < 64) (hb : hi < 1099511627776) {r : Int} (h3 : 0 ≤ r ∧ r < 3) : errT 3 L hi r = 0 ∧ FullT (noteT 3 L hi r) lo (hi + 1) := by
  have hl := h.len
  have hle := h.le
  have hb1 := h.b1
  have he : errT 3 L hi r = 0 := by
    unfold errT argT
    rw [if_pos (decide_eq_true (by omega)), if_neg (by omega)]
  refine ⟨he, h.ok.note (by decide) hi r, fun j => ?_, by omega, hb1, by omega⟩
  have hp := addQ_pos (s := lookT L hi) (i := r) (by omega)
  have hj := h.held j
  unfold noteT
  rw [if_pos he, lookT_set]
  split <;> omega
theorem FullT.again (h : FullT L lo hi) {i : Int} (hi_ : lo ≤ i ∧ i < hi) {r : Int} (h3 : 0 ≤ r ∧ r < 3) : errT 3 L i r = 0 ∧ FullT (noteT 3 L i r) lo hi := by
  have hb1 := h.b1
  have hb2 := h.b2
  have hn := (h.held i).2 hi_
  have he : errT 3 L i r = 0 := by
    unfold errT argT
    rw [if_pos (decide_eq_true (by omega)), if_neg (by omega)]
  refine ⟨he, h.ok.note (by decide) i r, fun j => ?_, by omega, hb1, hb2⟩
  have hp := addQ_pos (s := lookT L i) (i := r) (by omega)
  have hj := h.held j
  unfold noteT
  rw [if_pos he, lookT_set]
  split <;> omega
theorem FullT.full (h : FullT L lo hi) (h64 : hi - lo = 64) {i : Int} (hn : i < lo ∨ hi ≤ i) (hb : 1 ≤ i ∧ i ≤ 1099511627776) {r : Int} (h3 : 0 ≤ r ∧ r < 3) : errT 3 L i r = 4 ∧ noteT 3 L i r = L ∧ cntT 3 L i = 0 := by
  have hl := h.len
  have hj := h.held i
  have he : errT 3 L i r = 4 := by
    unfold errT argT
    rw [if_pos (decide_eq_true (by omega)), if_pos (by omega)]
  exact ⟨he, noteT_no (by omega), cntT_zero (by omega)⟩
theorem FullT.drop (h : FullT L lo hi) (hlt : lo < hi) : FullT (dropT L lo) (lo + 1) hi := by
  have hb1 := h.b1
  refine ⟨h.ok.drop lo, fun j => ?_, by omega, by omega, h.b2⟩
  have hj := h.held j
  rw [lookT_drop]
  split <;> omega
end
theorem fullT_nil {a : Int} (h1 : 1 ≤ a) (h2 : a ≤ 1099511627776) : FullT [] a a := ⟨okT_nil, fun j => ⟨fun h => absurd rfl h, fun h => by omega⟩, by omega, h1, h2⟩
set_option maxRecDepth 100000 in
set_option maxHeartbeats 3200000 in
theorem tallyFull_law (a : Int) (w : World) (_ : (Lit.int .i64 a).wf = true) :
    Calls Try.prog 8 #[.int .i64 a] w fun e w' => e = .returned (.bool true) ∧ Below w.heap.size w w' := by
  show Calls Try.prog 8 #[.int .i64 a] w fun e w' => e = .returned (.bool true) ∧ Ext w w'
  by_cases q1 : a < 1
  · have d1 : decide (a < 1) = true := decide_eq_true q1
    go_enter Try.func8, Try.ntmps8
    go_wp2_with fail
    refine (tawake_any _).mono ?_
    rintro e w1 ⟨rfl, hx⟩
    have HX := Lib.hid hx
    clear hx
    go_wp2_with fail
    go_ret
    exact ⟨rfl, HX.out⟩
  by_cases q2 : 1073741824 < a
  · have d1 : decide (a < 1) = false := decide_eq_false q1
    have d2 : decide (1073741824 < a) = true := decide_eq_true q2
    go_enter Try.func8, Try.ntmps8
    go_wp2_with fail
    refine (tawake_any _).mono ?_
    rintro e w1 ⟨rfl, hx⟩
    have HX := Lib.hid hx
    clear hx
    go_wp2_with fail
    go_ret
    exact ⟨rfl, HX.out⟩
  have d1 : decide (a < 1) = false := decide_eq_false q1
  have d2 : decide (1073741824 < a) = false := decide_eq_false q2
  have HA : Hid (1 ≤ a ∧ a ≤ 1073741824) := Lib.hid (by omega)
  go_enter Try.func8, Try.ntmps8
  go_wp2_with fail
  refine (tawake_any _).mono ?_
  rintro e w1 ⟨rfl, hx⟩
  have HX := Lib.hid hx
  clear hx
  go_wp2_with fail
  refine (tnew_yes 3 (.inl rfl) _).mono ?_
  rintro e w2 ⟨q, bm, rfl, hz, hx, _, hbm⟩
  have HB : Hid (w.heap.size ≤ bm) := Lib.hid (by have := HX.out.size; omega)
  have HZ := Lib.hid hz
  have HX := Lib.hid (HX.out.trans hx)
  clear hz hx hbm
  go_wp2_with fail
  go_loopw [5] (fun v wr => ∃ (k : Nat) (L : List (Int × Nat)), k ≤ 64 ∧ v = .int .i64 (k : Int) ∧ Hid (TQ wr q 3 bm L) ∧ Hid (FullT L a (a + (k : Int))) ∧ Hid (Ext w wr)) (fun v _ => 64 - (intOf v).toNat)
  case atStart => exact ⟨0, [], by omega, rfl, HZ, Lib.hid (by rw [show a + ((0 : Nat) : Int) = a by omega]; exact fullT_nil HA.out.1 (by have := HA.out.2; omega)), HX⟩
  case round =>
    obtain ⟨k, L, hk, rfl, HZ, HF, HX⟩ := hrel
    by_cases hlt : k < 64
    · have hlt2 : (k : Int) < 64 := by omega
      go_wp2_with fail
      obtain ⟨he, hf⟩ := HF.out.next (by omega) (by have := HA.out.2; omega) (r := (k : Int) % 3) (by omega)
      refine (tnote_lit (M := noteT 3 L (a + (k : Int)) ((k : Int) % 3)) HZ.out (a + (k : Int)) ((k : Int) % 3) 0 (by rw [he]; rfl) rfl).mono ?_
      rintro e w3 ⟨rfl, hz, hm⟩
      have HZ := Lib.hid hz
      have HX := Lib.hid (show Ext w w3 from Below.mod HX.out hm HX.out.size (fun i hi => by have := HB.out; omega))
      have HF := Lib.hid hf
      clear he hz hm hf
      go_wp2_with fail
      go_roundw
      case rel => exact ⟨k + 1, _, by omega, by go_num, HZ, Lib.hid (by rw [show a + ((k + 1 : Nat) : Int) = a + (k : Int) + 1 by omega]; exact HF.out), HX⟩
      case measure => simp [intOf]; omega
    · obtain rfl : k = 64 := by omega
      have hF : FullT L a (a + 64) := HF.out
      have hA := HA.out
      obtain ⟨e1, m1, c1⟩ := hF.full (by omega) (i := a + 64) (by omega) (by omega) (r := 0) (by omega)
      obtain ⟨e2, hf2⟩ := hF.again (i := a) (by omega) (r := 1) (by omega)
      obtain ⟨L2, hL2⟩ : ∃ L2, noteT 3 L a 1 = L2 := ⟨_, rfl⟩
      rw [hL2] at hf2
      have c2 : cntT 3 L2 (a + 64) = 0 := cntT_zero (by have := hf2.held (a + 64); omega)
      have hf3 := hf2.drop (by omega)
      obtain ⟨L3, hL3⟩ : ∃ L3, dropT L2 a = L3 := ⟨_, rfl⟩
      rw [hL3] at hf3
      obtain ⟨e4, hf4⟩ := hf3.next (by omega) (by omega) (r := 0) (by omega)
      obtain ⟨L4, hL4⟩ : ∃ L4, noteT 3 L3 (a + 64) 0 = L4 := ⟨_, rfl⟩
      rw [hL4] at hf4
      obtain ⟨e5, m5, c5⟩ := hf4.full (by omega) (i := a) (by omega) (by omega) (r := 0) (by omega)
      have wf1 : (Lit.int .i64 a).wf = true := WalkArith.wf_i64 (by omega)
      have wf2 : (Lit.int .i64 (a + 64)).wf = true := WalkArith.wf_i64 (by omega)
      have H := Lib.hid (And.intro e1 (And.intro m1 (And.intro e2 (And.intro hL2 (And.intro c2 (And.intro hL3 (And.intro e4 (And.intro hL4 (And.intro e5 (And.intro m5 (And.intro c5 (And.intro wf1 wf2))))))))))))
      clear e1 m1 c1 e2 hf2 hL2 c2 hf3 hL3 e4 hf4 hL4 e5 m5 c5 wf1 wf2 hF hA
      go_wp2_with fail
      refine (tnote_lit (M := L) HZ.out (a + 64) 0 4 (by rw [H.out.1]; rfl) H.out.2.1).mono ?_
      rintro e w3 ⟨rfl, hz, hm⟩
      have HZ := Lib.hid hz
      have HX := Lib.hid (show Ext w w3 from Below.mod HX.out hm HX.out.size (fun i hi => by have := HB.out; omega))
      clear hz hm
      go_wp2_with fail
      refine (tnote_lit (M := L2) HZ.out a 1 0 (by rw [H.out.2.2.1]; rfl) H.out.2.2.2.1).mono ?_
      rintro e w4 ⟨rfl, hz, hm⟩
      have HZ := Lib.hid hz
      have HX := Lib.hid (show Ext w w4 from Below.mod HX.out hm HX.out.size (fun i hi => by have := HB.out; omega))
      clear hz hm
      go_wp2_with fail
      refine (tcount_lit HZ.out (a + 64) 0 H.out.2.2.2.2.2.2.2.2.2.2.2.2 (by rw [H.out.2.2.2.2.1]; rfl)).mono ?_
      rintro e w5 ⟨rfl, hx⟩
      have HZ := Lib.hid (HZ.out.ext hx)
      have HX := Lib.hid (HX.out.trans hx)
      clear hx
      go_wp2_with fail
      refine (tdrop_of HZ.out a).mono ?_
      rintro e w6 ⟨rfl, hz, hm⟩
      rw [H.out.2.2.2.2.2.1] at hz
      have HZ := Lib.hid hz
      have HX := Lib.hid (show Ext w w6 from Below.mod HX.out hm HX.out.size (fun i hi => by have := HB.out; omega))
      clear hz hm
      go_wp2_with fail
      refine (tnote_lit (M := L4) HZ.out (a + 64) 0 0 (by rw [H.out.2.2.2.2.2.2.1]; rfl) H.out.2.2.2.2.2.2.2.1).mono ?_
      rintro e w7 ⟨rfl, hz, hm⟩
      have HZ := Lib.hid hz
      have HX := Lib.hid (show Ext w w7 from Below.mod HX.out hm HX.out.size (fun i hi => by have := HB.out; omega))
      clear hz hm
      go_wp2_with fail
      refine (tcount_lit HZ.out a 0 H.out.2.2.2.2.2.2.2.2.2.2.2.1 (by rw [H.out.2.2.2.2.2.2.2.2.2.2.1]; rfl)).mono ?_
      rintro e w8 ⟨rfl, hx⟩
      have HZ := Lib.hid (HZ.out.ext hx)
      have HX := Lib.hid (HX.out.trans hx)
      clear hx
      go_wp2_with fail
      refine (tnote_lit (M := L4) HZ.out a 0 4 (by rw [H.out.2.2.2.2.2.2.2.2.1]; rfl) H.out.2.2.2.2.2.2.2.2.2.1).mono ?_
      rintro e w9 ⟨rfl, hz, hm⟩
      have HX := Lib.hid (show Ext w w9 from Below.mod HX.out hm HX.out.size (fun i hi => by have := HB.out; omega))
      clear hz hm
      go_wp2_with fail
      go_ret
      exact ⟨rfl, HX.out⟩
end Go.Proofs.Ytmnldkfkcfnkdaa
