/-
  The contracts of the document's Lose and Put over its heap.
-/
import Derived.Test.YtgcinagkbdcgiaaH00
import Derived.Test.YtgcinagkbdcgiaaH01
import Derived.Test.YtgcinagkbdcgiaaH03
namespace Go.Proofs.Ytgcinagkbdcgiaa
set_option maxRecDepth 100000
section
open Go Go.RowKit
theorem froz_of_ext {w w' : World} {g k : Nat} {b : Bool} (hx : Ext w w') (h : g < w.heap.size) (hf : w.frozen? ⟨g, k, none⟩ = b) : w'.frozen? ⟨g, k, none⟩ = b := by
  rw [← hf]
  unfold World.frozen?
  rw [hx.block g h]
theorem inZ_out {k : Int} {count : Nat} (hf : inZ 0 k ((count : Int) - 1) = false) : k < 0 ∨ (0 ≤ k ∧ (count : Int) ≤ k) := by
  by_cases h : k < 0
  · exact .inl h
  · refine .inr ⟨by omega, ?_⟩
    have : ¬ (0 ≤ k ∧ k ≤ (count : Int) - 1) := fun h => by rw [inZ_iff.2 h] at hf; cases hf
    omega
set_option maxHeartbeats 800000 in
theorem rzlose_no {w : World} {y gt gl count : Nat} {f : Int → Option Lst} (z : RZ w y gt gl count f) (k : Int) (hf : inZ 0 k ((count : Int) - 1) = false) :
    Calls Try.prog 12 #[.pointer (some ⟨y, 0, none⟩), .int .i64 k] w fun e w' => e = .returned (.int .i64 2) ∧ w = w' := by
  obtain ⟨c0, c1⟩ := z.cells
  have hcn := z.cnt
  have hk := inZ_out hf
  clear hf z
  rcases hk with hk | ⟨hk, hk2⟩
  · go_enter Try.func12, Try.ntmps12
    go_wp2_with fail
    go_ret
    exact ⟨rfl, rfl⟩
  · go_enter Try.func12, Try.ntmps12
    go_wp2_with fail
    go_ret
    exact ⟨rfl, rfl⟩
set_option maxHeartbeats 800000 in
theorem rzlose_yes {w : World} {y gt gl count : Nat} {f : Int → Option Lst} (z : RZ w y gt gl count f) (k : Nat) (hk : k < count) :
    Calls Try.prog 12 #[.pointer (some ⟨y, 0, none⟩), .int .i64 (k : Int)] w fun e w' => e = .returned (.int .i64 0) ∧ RZ w' y gt gl count (updZ f (k : Int) none) ∧ Mod (fun i => i = gt ∨ i = gl) w w' := by
  obtain ⟨c0, c1⟩ := z.cells
  have hcn := z.cnt
  obtain ⟨a0, a1, a2, a3⟩ := z.at_ hk
  have m1 : Mod (fun i => i = gt) w (w.setCell ⟨gt, k, none⟩ (.bool false)) := mod_cellP w gt k _
  have d1 : (w.setCell ⟨gt, k, none⟩ (.bool false)).cell? ⟨y, 1, none⟩ = some (.slice (some ⟨gl, 0, none⟩) count count) := mod_cell m1 z.ne.1 c1
  have d2 : (w.setCell ⟨gt, k, none⟩ (.bool false)).cell? ⟨gl, k, none⟩ = some (optV (f (k : Int))) := mod_cell m1 (fun e => z.ne.2.2 e.symm) a2
  have d3 : (w.setCell ⟨gt, k, none⟩ (.bool false)).frozen? ⟨gl, k, none⟩ = false := by rw [World.frozen?_setCell]; exact a3
  have m2 : Mod (fun i => i = gl) (w.setCell ⟨gt, k, none⟩ (.bool false)) ((w.setCell ⟨gt, k, none⟩ (.bool false)).setCell ⟨gl, k, none⟩ (.slice none 0 0)) := mod_cellP _ gl k _
  have hz := z.set hk none (w1 := w.setCell ⟨gt, k, none⟩ (.bool false)) (Ext.refl _) (fun a h => by cases h)
  have HZ : Hid (RZ ((w.setCell ⟨gt, k, none⟩ (.bool false)).setCell ⟨gl, k, none⟩ (.slice none 0 0)) y gt gl count (updZ f (k : Int) none)) := Lib.hid hz
  have HM : Hid (Mod (fun i => i = gt ∨ i = gl) w ((w.setCell ⟨gt, k, none⟩ (.bool false)).setCell ⟨gl, k, none⟩ (.slice none 0 0))) := Lib.hid (Mod.trans (m1.mono fun i hi => .inl hi) m2 fun i hi => .inl (.inr hi))
  have hk0 : (0 : Int) ≤ (k : Int) := by omega
  have hk1 : (k : Int) < (count : Int) := by omega
  clear hz m1 m2 z
  go_enter Try.func12, Try.ntmps12
  go_upto_region 3 with (fail)
  generalize hw1 : w.setCell ⟨gt, k, none⟩ (.bool false) = w1 at *
  go_upto_region 4 with (fail)
  try rw [hw1]
  go_wp2_with fail
  go_ret
  exact ⟨rfl, HZ.out, HM.out⟩
set_option maxHeartbeats 800000 in
theorem rzput_no {w : World} {y gt gl count : Nat} {f : Int → Option Lst} (z : RZ w y gt gl count f) (k : Int) (A : Option Addr) (n c : Nat) (hf : fitsZ k count n = false) :
    Calls Try.prog 15 #[.pointer (some ⟨y, 0, none⟩), .int .i64 k, .slice A n c] w fun e w' => e = .returned (.int .i64 2) ∧ w = w' := by
  obtain ⟨c0, c1⟩ := z.cells
  have hcn := z.cnt
  have hy := zrfits_of k count n w
  rw [hf] at hy
  have HY := Lib.hid hy
  clear hy hf z
  go_enter Try.func15, Try.ntmps15
  go_wp2_with fail
  refine HY.out.mono ?_
  rintro e w1 ⟨rfl, rfl⟩
  go_wp2_with fail
  go_ret
  exact ⟨rfl, rfl⟩
set_option maxHeartbeats 800000 in
theorem rzput_yes {w : World} {y gt gl count : Nat} {f : Int → Option Lst} (z : RZ w y gt gl count f) (k : Nat) (A : Option Addr) (n c : Nat) (l : List Nat) (hb : By w A n c l) (hf : fitsZ (k : Int) count n = true) (hnt : ∀ p, A = some p → l ≠ [] → p.block ≠ gt) :
    Calls Try.prog 15 #[.pointer (some ⟨y, 0, none⟩), .int .i64 (k : Int), .slice A n c] w fun e w' => e = .returned (.int .i64 0) ∧ ∃ a : Lst, a.l = l ∧ RZ w' y gt gl count (updZ f (k : Int) (some a)) ∧ Mod (fun i => i = gt ∨ i = gl) w w' ∧ ∀ p, a.A = some p → w.heap.size ≤ p.block := by
  obtain ⟨c0, c1⟩ := z.cells
  have hcn := z.cnt
  have hq := fitsZ_iff.1 hf
  have hk : k < count := by omega
  have hn80 : n ≤ 80 := hq.2.2.2.2.1
  have hy := zrfits_of (k : Int) count n w
  rw [hf] at hy
  have HY := Lib.hid hy
  obtain ⟨a0, a1, a2, a3⟩ := z.at_ hk
  have m1 : Mod (fun i => i = gt) w (w.setCell ⟨gt, k, none⟩ (.bool true)) := mod_cellP w gt k _
  have d1 : (w.setCell ⟨gt, k, none⟩ (.bool true)).cell? ⟨y, 1, none⟩ = some (.slice (some ⟨gl, 0, none⟩) count count) := mod_cell m1 z.ne.1 c1
  have d2 : (w.setCell ⟨gt, k, none⟩ (.bool true)).cell? ⟨gl, k, none⟩ = some (optV (f (k : Int))) := mod_cell m1 (fun e => z.ne.2.2 e.symm) a2
  have d3 : (w.setCell ⟨gt, k, none⟩ (.bool true)).frozen? ⟨gl, k, none⟩ = false := by rw [World.frozen?_setCell]; exact a3
  have hb1 : By (w.setCell ⟨gt, k, none⟩ (.bool true)) A n c l := by
    cases l with
    | nil => exact ⟨hb.len, hb.cap, hb.most, Rd.nil_, Bs.nil_ hb⟩
    | cons x l => exact By.mod hb m1 fun p hp e => hnt p hp (by simp) e
  have HSET := Lib.hid (fun (o : Option Lst) (w1 : World) => z.set hk o (w1 := w1))
  obtain ⟨w1, hw1⟩ : ∃ V, w.setCell ⟨gt, k, none⟩ (.bool true) = V := ⟨_, rfl⟩
  have hsz : w1.heap.size = w.heap.size := by rw [← hw1]; simp [World.setCell]
  rw [hw1] at m1 d1 d2 d3 hb1
  have HW1 := Lib.hid hw1
  have HS1 := Lib.hid hsz
  have HM1 := Lib.hid m1
  have HC := Lib.hid (copy_by A l n c w1.drew (hb1.ext (Ext.refl w1).drew) (by omega))
  have hS0 : w1.drew.cell? ⟨y, 1, none⟩ = some (.slice (some ⟨gl, 0, none⟩) count count) ∧ w1.drew.cell? ⟨gl, k, none⟩ = some (optV (f (k : Int))) ∧ w1.drew.frozen? ⟨gl, k, none⟩ = false := ⟨d1, d2, d3⟩
  have hk0 : (0 : Int) ≤ (k : Int) := by omega
  have hk1 : (k : Int) < (count : Int) := by omega
  have HNE := Lib.hid z.ne.2.1
  clear hy hf hq z m1 hb hb1 hsz d1 d2 d3
  go_enter Try.func15, Try.ntmps15
  go_wp2_with fail
  refine HY.out.mono ?_
  rintro e w2 ⟨rfl, rfl⟩
  go_upto_region 4 with (fail)
  try rw [hw1]
  clear hw1 c0 c1 a0 a1 a2 a3
  go_region_held3 (fun w' => w'.cell? ⟨y, 1, none⟩ = some (.slice (some ⟨gl, 0, none⟩) count count))
    (first | with_reducible exact hS0.1 | with_reducible exact hS1 | with_reducible exact hS2)
    (first
      | (go_at_call 13; ((with_reducible refine HC.out.mono ?_); rintro e' w3 ⟨A', c', rfl, hby, hx, hown⟩; have hlt3 := World.block_lt_of_cell? _ _ hS0.2.1; have hS1 : w3.cell? ⟨y, 1, none⟩ = some (.slice (some ⟨gl, 0, none⟩) count count) := ext_of_cell hx hS0.1; have hg3 : w3.cell? ⟨gl, k, none⟩ = some (optV (f (k : Int))) := ext_of_cell hx hS0.2.1; have hf3 : w3.frozen? ⟨gl, k, none⟩ = false := froz_of_ext hx hlt3 hS0.2.2; have hS2 : (w3.setCell ⟨gl, k, none⟩ (.slice A' n c')).cell? ⟨y, 1, none⟩ = some (.slice (some ⟨gl, 0, none⟩) count count) := mod_cell (mod_cellP w3 gl k _) HNE.out hS1; have HX := Lib.hid (Ext.trans (Ext.refl w1).drew hx); have HBY := Lib.hid hby; have HFR := Lib.hid (own_fresh hown); clear hby hx hown hlt3)))
  go_wp2_with fail
  go_ret
  have hfr : ∀ p, A' = some p → w.heap.size ≤ p.block := fun p hp => by rw [← HS1.out]; exact (HFR.out p hp).1
  have hx2 : Ext (w.setCell ⟨gt, k, none⟩ (.bool true)) w3 := by rw [HW1.out]; exact HX.out
  refine ⟨rfl, ⟨A', n, c', l⟩, rfl, HSET.out (some ⟨A', n, c', l⟩) w3 hx2 (fun a ha => by injection ha with ha; subst ha; exact ⟨HBY.out, hn80, hfr⟩), ?_, hfr⟩
  have m2 : Mod (fun i => i = gl) w3 (w3.setCell ⟨gl, k, none⟩ (.slice A' n c')) := mod_cellP w3 gl k _
  exact Mod.trans (Mod.ext (HM1.out.mono fun i hi => .inl hi) HX.out) m2 fun i hi => .inl (.inr hi)
end
section
open Go Go.RowKit
set_option maxHeartbeats 800000 in
theorem rzget_of {w : World} {y gt gl count : Nat} {f : Int → Option Lst} (z : RZ w y gt gl count f) (k : Int) :
    Calls Try.prog 17 #[.pointer (some ⟨y, 0, none⟩), .int .i64 k] w fun e w' => ∃ A' N' c', e = .returned (.tuple #[.slice A' N' c', .bool (f k).isSome]) ∧ By w' A' N' c' (optL (f k)) ∧ Ext w w' := by
  obtain ⟨c0, c1⟩ := z.cells
  have hcn := z.cnt
  by_cases hk0 : k < 0
  · have hf : f k = none := by
      cases h : f k with
      | none => rfl
      | some a => have := z.rng k (by rw [h]; rfl); omega
    rw [hf]
    clear hf z
    go_enter Try.func17, Try.ntmps17
    go_wp2_with fail
    refine bodyPost_ret (v := .tuple #[.slice none 0 0, .bool false]) (by simp [results, Try.results17, go_sem]) rfl ?_
    exact ⟨none, 0, 0, rfl, By.nil_ _, Ext.refl _⟩
  have hk0 : 0 ≤ k := by omega
  by_cases hk1 : k < (count : Int)
  case neg =>
    have hk1 : (count : Int) ≤ k := by omega
    have hf : f k = none := by
      cases h : f k with
      | none => rfl
      | some a => have := z.rng k (by rw [h]; rfl); omega
    rw [hf]
    clear hf z
    go_enter Try.func17, Try.ntmps17
    go_wp2_with fail
    refine bodyPost_ret (v := .tuple #[.slice none 0 0, .bool false]) (by simp [results, Try.results17, go_sem]) rfl ?_
    exact ⟨none, 0, 0, rfl, By.nil_ _, Ext.refl _⟩
  obtain ⟨q, rfl⟩ : ∃ q : Nat, k = (q : Int) := ⟨k.toNat, by omega⟩
  have hq : q < count := by omega
  obtain ⟨a0, _, a2, _⟩ := z.at_ hq
  have hbn : ∃ A N C, optV (f (q : Int)) = .slice A N C ∧ By w A N C (optL (f (q : Int))) ∧ N ≤ 80 := by
    cases hf : f (q : Int) with
    | none => exact ⟨none, 0, 0, rfl, By.nil_ _, by omega⟩
    | some a => exact ⟨a.A, a.n, a.c, rfl, (z.each _ a hf).1, (z.each _ a hf).2.1⟩
  obtain ⟨A, N, C, hv, hby, hn⟩ := hbn
  rw [hv] at a2
  obtain ⟨b, hbb⟩ : ∃ b, (f (q : Int)).isSome = b := ⟨_, rfl⟩
  rw [hbb] at a0 ⊢
  have HCL := Lib.hid (copy_by A (optL (f (q : Int))) N C w.drew (hby.ext (Ext.refl w).drew) (by omega))
  have hS0 : w.drew.cell? ⟨y, 1, none⟩ = some (.slice (some ⟨gl, 0, none⟩) count count) ∧ w.drew.cell? ⟨gl, q, none⟩ = some (.slice A N C) ∧ w.drew.cell? ⟨y, 0, none⟩ = some (.slice (some ⟨gt, 0, none⟩) count count) ∧ w.drew.cell? ⟨gt, q, none⟩ = some (.bool b) := ⟨c1, a2, c0, a0⟩
  clear z hv hby hbb
  go_enter Try.func17, Try.ntmps17
  go_upto_region 3 with (fail)
  go_region_held3 (fun w' => w'.cell? ⟨y, 1, none⟩ = some (.slice (some ⟨gl, 0, none⟩) count count) ∧ w'.cell? ⟨gl, q, none⟩ = some (.slice A N C) ∧ w'.cell? ⟨y, 0, none⟩ = some (.slice (some ⟨gt, 0, none⟩) count count) ∧ w'.cell? ⟨gt, q, none⟩ = some (.bool b))
    (first | with_reducible exact hS0 | with_reducible exact hS1)
    (first
      | (go_at_call 13; ((with_reducible refine HCL.out.mono ?_); rintro e' w3 ⟨A', c', rfl, hby, hx, hown⟩; have hS1 : w3.cell? ⟨y, 1, none⟩ = some (.slice (some ⟨gl, 0, none⟩) count count) ∧ w3.cell? ⟨gl, q, none⟩ = some (.slice A N C) ∧ w3.cell? ⟨y, 0, none⟩ = some (.slice (some ⟨gt, 0, none⟩) count count) ∧ w3.cell? ⟨gt, q, none⟩ = some (.bool b) := ⟨ext_of_cell hx hS0.1, ext_of_cell hx hS0.2.1, ext_of_cell hx hS0.2.2.1, ext_of_cell hx hS0.2.2.2⟩; have HX := Lib.hid (Ext.trans (Ext.refl w).drew hx); have HBY := Lib.hid hby; clear hby hx hown)))
  go_wp2_with fail
  refine bodyPost_ret (v := .tuple #[.slice A' N c', .bool b]) (by simp [results, Try.results17, go_sem]) rfl ?_
  exact ⟨A', N, c', rfl, HBY.out, HX.out⟩
def RowN (w : World) (A : Option Addr) (L : List Nat) : Prop := ∀ k (h : k < L.length), ∃ g, A = some ⟨g, 0, none⟩ ∧ w.cell? ⟨g, k, none⟩ = some (.int .i64 ((L[k] : Nat) : Int))
theorem RowN.of_own {w : World} {b c n : Nat} {A : Option Addr} {L : List Nat} (h : w.ownsRow b 3 1 (.slice A n c) n (L.map fun k : Nat => Value.int .i64 (k : Int))) : RowN w A L := fun k hk => by
  have hl := h.1
  rw [List.length_map] at hl
  rcases h.2 with ⟨_, h0⟩ | ⟨g, cap, cur, hv, _⟩
  · omega
  · injection hv with hA _ _
    subst hA
    refine ⟨g, rfl, ?_⟩
    rw [h.cellAt k (by omega), List.getElem?_map, List.getElem?_eq_getElem hk]
    rfl
theorem RowN.ext {w w' : World} {A : Option Addr} {L : List Nat} (h : RowN w A L) (hx : Ext w w') : RowN w' A L := fun k hk => by
  obtain ⟨g, h1, h2⟩ := h k hk
  exact ⟨g, h1, ext_of_cell hx h2⟩
set_option maxHeartbeats 800000 in
theorem rints_of {w : World} (A1 A2 : Option Addr) (c1 c2 : Nat) (L : List Nat) (hl : L.length ≤ 100) (h1 : RowN w A1 L) (h2 : RowN w A2 L) :
    Calls Try.prog 21 #[.slice A1 L.length c1, .slice A2 L.length c2] w fun e w' => e = .returned (.bool true) ∧ Ext w w' := by
  have H1 := Lib.hid h1
  have H2 := Lib.hid h2
  obtain ⟨n, hn⟩ : ∃ n, L.length = n := ⟨_, rfl⟩
  have HN := Lib.hid hn
  rw [hn] at hl ⊢
  clear h1 h2 hn
  go_enter Try.func21, Try.ntmps21
  go_wp2_with fail
  go_loopw [5] (fun i wr => ∃ k : Nat, k ≤ n ∧ i = .int .i64 (k : Int) ∧ Hid (Ext w wr)) (fun i _ => n - (intOf i).toNat)
  case atStart => exact ⟨0, Nat.zero_le _, rfl, Lib.hid (Ext.refl _)⟩
  case round =>
    obtain ⟨k, hk, rfl, HX⟩ := hrel
    by_cases hlt : k < n
    · obtain ⟨g1, rfl, k1⟩ := H1.out k (by rw [HN.out]; exact hlt)
      obtain ⟨g2, rfl, k2⟩ := H2.out k (by rw [HN.out]; exact hlt)
      generalize ((L[k]'(by rw [HN.out]; exact hlt) : Nat) : Int) = x at k1 k2
      have k1 : wr.drew.cell? ⟨g1, k, none⟩ = some (.int .i64 x) := ext_of_cell HX.out.drew k1
      have k2 : wr.drew.cell? ⟨g2, k, none⟩ = some (.int .i64 x) := ext_of_cell HX.out.drew k2
      have HX2 := Lib.hid (HX.out.drew)
      have hlt' : (k : Int) < (n : Int) := by omega
      go_wp2_with fail
      go_region
      go_wp2_with fail
      go_roundw
      case rel => exact ⟨k + 1, by omega, by go_num, HX2⟩
      case measure => simp [intOf]; omega
    · obtain rfl : k = n := by omega
      go_wp2_with fail
      go_ret
      exact ⟨rfl, HX.out⟩
end
section
open Go Go.RowKit
set_option maxHeartbeats 1600000 in
theorem rzmissing_of {w : World} {y gt gl count : Nat} {f : Int → Option Lst} (z : RZ w y gt gl count f) :
    Calls Try.prog 23 #[.pointer (some ⟨y, 0, none⟩)] w fun e w' => ∃ A c, e = .returned (.slice A (missZ f count).length c) ∧ w'.ownsRow w.heap.size 3 1 (.slice A (missZ f count).length c) (missZ f count).length ((missZ f count).map fun k : Nat => Value.int .i64 (k : Int)) ∧ Ext w w' := by
  obtain ⟨i0, hi, hz0, hz1, hz2⟩ := info_parts int_infoZ
  have hcn := z.cnt.2
  have hcn1 := z.cnt.1
  have HZ := Lib.hid z
  clear z
  go_enter Try.func23, Try.ntmps23
  go_wp2_with fail
  go_loopw [3, 4] (fun b i wr => ∃ k : Nat, k ≤ count ∧ i = .int .i64 (k : Int) ∧ Hid (wr.ownsRow w.heap.size 3 1 b (missZ f k).length ((missZ f k).map fun k : Nat => Value.int .i64 (k : Int)) ∧ Ext w wr)) (fun _ i _ => count - (intOf i).toNat)
  case atStart => exact ⟨0, Nat.zero_le _, rfl, Lib.hid ⟨World.ownsRow_nil _ _ _ _, Ext.refl w⟩⟩
  case round =>
    obtain ⟨k, hk, rfl, HG⟩ := hrel
    have z1 := HZ.out.ext HG.out.2
    obtain ⟨c0, c1⟩ := z1.cells
    by_cases hlt : k < count
    · obtain ⟨a0, _, _, _⟩ := z1.at_ hlt
      have hs := missZ_succ f k
      have hlt' : (k : Int) < (count : Int) := by omega
      clear z1
      cases hf : f (k : Int) with
      | some a =>
        rw [hf] at a0 hs
        have a0 : wr.cell? ⟨gt, k, none⟩ = some (.bool true) := a0
        have HS := Lib.hid hs
        clear hs hf
        go_wp2_with fail
        go_roundw
        case rel => exact ⟨k + 1, by omega, by go_num, by rw [HS.out]; exact HG⟩
        case measure => simp [intOf]; omega
      | none =>
        rw [hf] at a0 hs
        have a0 : wr.cell? ⟨gt, k, none⟩ = some (.bool false) := a0
        have HS := Lib.hid hs
        have hfewl := missZ_len f k
        have hsz2 := HG.out.2.size
        clear hs hf
        go_wp2_with (at_builtin; refine wpList_append_own _ rfl _ _ 46 rfl w.heap.size 3 i0 (.int .i64 0) 1 8 Try.underlying46 hi hz0 hz1 hz2 rfl (by decide) _ _ _ rfl (ownsRow_ext HG.out.1 ((Ext.refl wr).alloc _)) ⟨wr.heap.size, 0, none⟩ 1 1 [.int .i64 (k : Int)] rfl rfl ?c1 ?c2 ?c3 ?c4 ?c5 ?_)
        case c1 =>
          intro j u hj
          match j, hj with
          | 0, hj => simp at hj; subst hj; simp [Addr.add]
        case c2 => intro u hu; simp at hu; subst hu; rfl
        case c3 => unfold maxLen; omega
        case c4 => omega
        case c5 => simp; omega
        intro v1 w3 hown hg _
        have HG3 : Hid (w3.ownsRow w.heap.size 3 1 v1 (missZ f (k + 1)).length ((missZ f (k + 1)).map fun k : Nat => Value.int .i64 (k : Int)) ∧ Ext w w3) := by
          rw [HS.out, if_pos (by rfl), List.length_append, List.map_append]
          exact Lib.hid ⟨hown, Below.grown (HG.out.2.alloc _) hg (Nat.le_trans HG.out.2.size (by simp)) (fun g hg' => (HG.out.1.lt g hg').1)⟩
        clear hown hg
        go_wp2_with fail
        go_roundw
        case rel => exact ⟨k + 1, by omega, by go_num, HG3⟩
        case measure => simp [intOf]; omega
    · obtain rfl : k = count := by omega
      clear z1
      go_wp2_with fail
      obtain ⟨A, c, hv, _, _⟩ := own_form HG.out.1
      subst hv
      go_ret
      exact ⟨A, c, rfl, HG.out.1, HG.out.2⟩
set_option maxHeartbeats 1600000 in
theorem rzwhole_of {w : World} {y gt gl count : Nat} {f : Int → Option Lst} (z : RZ w y gt gl count f) :
    Calls Try.prog 19 #[.pointer (some ⟨y, 0, none⟩)] w fun e w' => ∃ A' N' c', e = .returned (.tuple #[.slice A' N' c', .int .i64 (whE f count)]) ∧ By w' A' N' c' (whL f count) ∧ Ext w w' := by
  obtain ⟨i0, hi, hz0, hz1, hz2⟩ := info_parts byte_info
  have hcn := z.cnt.2
  have hcn1 := z.cnt.1
  have HZ := Lib.hid z
  clear z
  go_enter Try.func19, Try.ntmps19
  go_wp2_with fail
  go_loopw [4, 5] (fun v i wr => ∃ (j na : Nat) (Aa : Option Addr) (ca : Nat), j ≤ count ∧ na ≤ 80 * j ∧ i = .int .i64 (j : Int) ∧ v = .slice Aa na ca ∧ Hid (wr.ownsRow w.heap.size 5 1 (.slice Aa na ca) na (vb (catZ f j))) ∧ Hid (Ext w wr) ∧ Hid (∀ b ∈ catZ f j, b < 256) ∧ Hid (∀ i : Nat, i < j → (f (i : Int)).isSome = true)) (fun _ i _ => count - (intOf i).toNat)
  case atStart => exact ⟨0, 0, none, 0, by omega, by omega, by simp, rfl, Lib.hid (World.ownsRow_nil _ _ _ _), Lib.hid (Ext.refl _), Lib.hid (fun b hb => by simp [catZ] at hb), Lib.hid fun i hi => by omega⟩
  case round =>
    obtain ⟨j, na, Aa, ca, hj, hna, rfl, rfl, HO, HX, HB, HF⟩ := hrel
    have z1 := HZ.out.ext HX.out
    obtain ⟨c0, c1⟩ := z1.cells
    by_cases hlt : j < count
    · obtain ⟨a0, _, a2, _⟩ := z1.at_ hlt
      have hlt' : (j : Int) < (count : Int) := by omega
      clear z1
      cases hf : f (j : Int) with
      | none =>
        rw [hf] at a0
        have a0 : wr.cell? ⟨gt, j, none⟩ = some (.bool false) := a0
        have hm : missZ f count ≠ [] := fun e => by
          have := missZ_nil.1 e j hlt
          rw [hf] at this
          cases this
        have HMS := Lib.hid hm
        clear hf hm a2
        go_wp2_with fail
        refine bodyPost_ret (v := .tuple #[.slice none 0 0, .int .i64 120]) (by simp [results, Try.results19, go_sem]) rfl ?_
        exact ⟨none, 0, 0, by unfold whE; rw [if_neg HMS.out], by unfold whL; rw [if_neg HMS.out]; exact By.nil_ _, HX.out⟩
      | some a =>
        obtain ⟨hby, hn, _⟩ := HZ.out.each _ a hf
        have HBY := Lib.hid (hby.ext HX.out)
        obtain ⟨aA, an, ac, al⟩ := a
        rw [hf] at a0 a2
        have a0 : wr.cell? ⟨gt, j, none⟩ = some (.bool true) := a0
        have a2 : wr.cell? ⟨gl, j, none⟩ = some (.slice aA an ac) := a2
        have hsucc := catZ_succ f j
        rw [hf] at hsucc
        have HSU : Hid (catZ f (j + 1) = catZ f j ++ al) := Lib.hid hsucc
        have HFS : Hid ((f (j : Int)).isSome = true) := Lib.hid (by rw [hf]; rfl)
        dsimp only at hn
        clear hby hf hsucc
        go_wp2_with (at_builtin; refine wpList_append_by rfl _ _ 30 rfl w.heap.size 5 i0 Try.underlying30 hi hz0 hz1 hz2 _ na (vb (catZ f j)) rfl HO.out aA an ac al rfl HBY.out (by omega) (Ext.size HX.out) ?_)
        intro v2 w2 hown hg
        obtain ⟨hx, A2, c2', rfl, hb2, ho2⟩ := app_step HX.out HO.out hg hown HB.out HBY.out.rd.lt
        have HX2 := Lib.hid hx
        have HO2 := Lib.hid ho2
        have HLT := Lib.hid (Bs.rd hb2).lt
        clear hx hb2 ho2 hown hg
        go_wp2_with fail
        go_roundw
        case rel => exact ⟨j + 1, na + an, A2, c2', by omega, by omega, by go_num, rfl, Lib.hid (by rw [HSU.out]; exact HO2.out), HX2, Lib.hid (by rw [HSU.out]; exact HLT.out), Lib.hid fun i hi => by
          by_cases hij : i = j
          · subst hij; exact HFS.out
          · exact HF.out i (by omega)⟩
        case measure => simp [intOf]; omega
    · obtain rfl : j = count := by omega
      clear z1
      go_wp2_with fail
      refine bodyPost_ret (v := .tuple #[.slice Aa na ca, .int .i64 0]) (by simp [results, Try.results19, go_sem]) rfl ?_
      have hm : missZ f j = [] := missZ_nil.2 HF.out
      exact ⟨Aa, na, ca, by unfold whE; rw [if_pos hm], by unfold whL; rw [if_pos hm]; exact Bs.of_own HO.out HB.out, HX.out⟩
end
section
open Go Go.RowKit
set_option maxHeartbeats 800000 in
theorem rznew_no (count : Int) (hc : inZ 1 count 8 = false) (w : World) :
    Calls Try.prog 10 #[.int .i64 count] w fun e w' => e = .returned (.tuple #[.pointer none, .int .i64 2]) ∧ w = w' := by
  have hk : count < 1 ∨ (1 ≤ count ∧ 8 < count) := by
    by_cases h : count < 1
    · exact .inl h
    · refine .inr ⟨by omega, ?_⟩
      have : ¬ (1 ≤ count ∧ count ≤ 8) := fun h => by rw [inZ_iff.2 h] at hc; cases hc
      omega
  clear hc
  rcases hk with hk | ⟨hk, hk2⟩
  · go_enter Try.func10, Try.ntmps10
    go_wp2_with fail
    refine bodyPost_ret (v := .tuple #[.pointer none, .int .i64 2]) (by simp [results, Try.results10, go_sem]) rfl ⟨rfl, rfl⟩
  · go_enter Try.func10, Try.ntmps10
    go_wp2_with fail
    refine bodyPost_ret (v := .tuple #[.pointer none, .int .i64 2]) (by simp [results, Try.results10, go_sem]) rfl ⟨rfl, rfl⟩
theorem sl_infoR : (Try.prog.info? 30).map (fun i => (i.zero, i.size, i.bytes)) = some (some (.slice none 0 0), 1, 24) := by kernel_rfl
theorem bool_infoR : (Try.prog.info? 4).map (fun i => (i.zero, i.size, i.bytes)) = some (some (.bool false), 1, 1) := by kernel_rfl
def rowT (k : Nat) : Obj := .cells (thereC (fun _ => none) k) 4 (0, 0)
def rowL (k : Nat) : Obj := .cells (listC (fun _ => none) k) 30 (0, 0)
theorem mk_there (k : Nat) (hk : k ≤ 1000) (w : World) : (Instr.makeSlice 72 (.int .i64 (k : Int)) (.int .i64 (k : Int))).run Try.prog w = .ok (.slice (some ⟨w.heap.size, 0, none⟩) k k) (w.alloc (rowT k)) := by
  obtain ⟨i0, hi, hz0, hz1, hz2⟩ := info_parts bool_infoR
  have e : madeCells #[Value.bool false] k = thereC (fun _ => none) k := by
    apply Array.ext'
    rw [toList_madeCells_one]
    unfold thereC
    simp [List.map_const']
  rw [run_make w 72 4 i0 (.bool false) Try.underlying72 hi hz0 .i64 .i64 (k : Int) (k : Int) (by omega) (Int.le_refl _) (by rw [hz2]; omega) (by omega), hz1, Int.toNat_natCast, Nat.mul_one]
  unfold rowT
  rw [← e]
  rfl
theorem mk_list (k : Nat) (hk : k ≤ 1000) (w : World) : (Instr.makeSlice 73 (.int .i64 (k : Int)) (.int .i64 (k : Int))).run Try.prog w = .ok (.slice (some ⟨w.heap.size, 0, none⟩) k k) (w.alloc (rowL k)) := by
  obtain ⟨i0, hi, hz0, hz1, hz2⟩ := info_parts sl_infoR
  have e : madeCells #[Value.slice none 0 0] k = listC (fun _ => none) k := by
    apply Array.ext'
    rw [toList_madeCells_one]
    unfold listC
    simp [List.map_const', optV]
  rw [run_make w 73 30 i0 (.slice none 0 0) Try.underlying73 hi hz0 .i64 .i64 (k : Int) (k : Int) (by omega) (Int.le_refl _) (by rw [hz2]; omega) (by omega), hz1, Int.toNat_natCast, Nat.mul_one]
  unfold rowL
  rw [← e]
  rfl
theorem rz_new {w' : World} {y gt gl count : Nat} (hc : 1 ≤ count ∧ count ≤ 8) (h0 : w'.heap[y]? = some (.cells #[.slice (some ⟨gt, 0, none⟩) count count, .slice (some ⟨gl, 0, none⟩) count count] 75 (0, 0))) (h1 : w'.heap[gt]? = some (rowT count)) (h2 : w'.heap[gl]? = some (rowL count)) (hne : y ≠ gt ∧ y ≠ gl ∧ gt ≠ gl) : RZ w' y gt gl count (fun _ => none) :=
  ⟨h0, h1, h2, (fun k hk => by cases hk), (fun k a ha => by cases ha), hne, hc⟩
theorem three_new (w : World) (o1 o2 o3 : Obj) : (((w.alloc o1).alloc o2).alloc o3).drew.heap[w.heap.size]? = some o1 ∧ (((w.alloc o1).alloc o2).alloc o3).drew.heap[w.heap.size + 1]? = some o2 ∧ (((w.alloc o1).alloc o2).alloc o3).drew.heap[w.heap.size + 1 + 1]? = some o3 ∧ Ext w (((w.alloc o1).alloc o2).alloc o3).drew := by
  have e1 : (w.alloc o1).heap.size = w.heap.size + 1 := by simp
  have e2 : ((w.alloc o1).alloc o2).heap.size = w.heap.size + 1 + 1 := by simp
  have n1 := heap_alloc_new w o1
  have n2 := heap_alloc_new (w.alloc o1) o2
  have n3 := heap_alloc_new ((w.alloc o1).alloc o2) o3
  rw [e1] at n2
  rw [e2] at n3
  have x2 : Ext (w.alloc o1) (((w.alloc o1).alloc o2).alloc o3).drew := (((Ext.refl _).alloc _).alloc _).drew
  have x3 : Ext ((w.alloc o1).alloc o2) (((w.alloc o1).alloc o2).alloc o3).drew := ((Ext.refl _).alloc _).drew
  exact ⟨(x2.block _ (by omega)).trans n1, (x3.block _ (by omega)).trans n2, n3, (((Ext.refl w).alloc _).alloc _).alloc _ |>.drew⟩
set_option maxHeartbeats 1600000 in
theorem rznew_yes (count : Nat) (hc : 1 ≤ count ∧ count ≤ 8) (w : World) :
    Calls Try.prog 10 #[.int .i64 (count : Int)] w fun e w' => ∃ y gt gl, e = .returned (.tuple #[.pointer (some ⟨y, 0, none⟩), .int .i64 0]) ∧ RZ w' y gt gl count (fun _ => none) ∧ Ext w w' ∧ w.heap.size ≤ y ∧ w.heap.size ≤ gt ∧ w.heap.size ≤ gl := by
  have hm1 := mk_there count (by omega)
  have hm2 := mk_list count (by omega)
  have h1 : (1 : Int) ≤ (count : Int) := by omega
  have h8 : (count : Int) ≤ 8 := by omega
  have HC := Lib.hid hc
  clear hc
  go_enter Try.func10, Try.ntmps10
  go_upto_region 3 with (fail)
  go_region_held3 (fun _ => True) (trivial) (fail)
  all_goals
    go_wp2_with fail
    refine bodyPost_ret (v := .tuple #[.pointer (some ⟨w.heap.size + 1 + 1, 0, none⟩), .int .i64 0]) (by simp [results, Try.results10, go_sem]) rfl ?_
    first
      | (obtain ⟨n1, n2, n3, hx⟩ := three_new w (rowT count) (rowL count) (.cells #[.slice (some ⟨w.heap.size, 0, none⟩) count count, .slice (some ⟨w.heap.size + 1, 0, none⟩) count count] 75)
         exact ⟨w.heap.size + 1 + 1, w.heap.size, w.heap.size + 1, rfl, rz_new HC.out n3 n1 n2 ⟨by omega, by omega, by omega⟩, hx, by omega, by omega, by omega⟩)
      | (obtain ⟨n1, n2, n3, hx⟩ := three_new w (rowL count) (rowT count) (.cells #[.slice (some ⟨w.heap.size + 1, 0, none⟩) count count, .slice (some ⟨w.heap.size, 0, none⟩) count count] 75)
         exact ⟨w.heap.size + 1 + 1, w.heap.size + 1, w.heap.size, rfl, rz_new HC.out n3 n2 n1 ⟨by omega, by omega, by omega⟩, hx, by omega, by omega, by omega⟩)
end
section
open Go Go.RowKit
structure OwnL (W : World) (B : Nat) (v : Value) (L : List Lst) : Prop where
  row : W.ownsRow B 30 1 v L.length (L.map Lst.val)
  each : ∀ a ∈ L, W.ownsRow B 5 1 (Lst.val a) a.n (vb a.l) ∧ (∀ x ∈ a.l, x < 256) ∧ ∀ p, a.A = some p → v.ownBlock ≠ some p.block
theorem OwnL.nil_ (W : World) (B : Nat) : OwnL W B (.slice none 0 0) [] := ⟨World.ownsRow_nil _ _ _ _, fun a ha => by cases ha⟩
theorem OwnL.ext {W W' : World} {B : Nat} {v : Value} {L : List Lst} (h : OwnL W B v L) (k : Ext W W') : OwnL W' B v L := ⟨ownsRow_ext h.row k, fun a ha => ⟨ownsRow_ext (h.each a ha).1 k, (h.each a ha).2⟩⟩
end
section
open Go Go.RowKit
def WrB (W : World) (B : Nat) (A : Option Addr) (n : Nat) : Prop := ∀ k, k < n → ∃ (g x : Nat), A = some ⟨g, 0, none⟩ ∧ B ≤ g ∧ x < 256 ∧ W.cell? ⟨g, k, none⟩ = some (.int .u8 ((x : Nat) : Int)) ∧ W.frozen? ⟨g, k, none⟩ = false
theorem WrB.of_own {W : World} {B n c : Nat} {A : Option Addr} {l : List Nat} (h : W.ownsRow B 5 1 (.slice A n c) n (vb l)) (hb : ∀ x ∈ l, x < 256) : WrB W B A n := fun k hk => by
  have hlen := h.1
  rw [vb_length] at hlen
  rcases h.2 with ⟨_, h0⟩ | ⟨g, cap, cur, hv, hB, _⟩
  · omega
  · injection hv with hA _ _
    subst hA
    have hkl : k < l.length := by omega
    refine ⟨g, l[k], rfl, hB, hb _ (List.getElem_mem hkl), ?_, h.frozenAt k⟩
    rw [h.cellAt k (by omega), vb_get, List.getElem?_eq_getElem hkl]
    rfl
theorem WrB.more {W : World} {B B' n : Nat} {A : Option Addr} (h : WrB W B A n) (hB : B' ≤ B) : WrB W B' A n := fun k hk => by
  obtain ⟨g, x, h1, h2, h3⟩ := h k hk
  exact ⟨g, x, h1, Nat.le_trans hB h2, h3⟩
theorem WrB.ext {W W' : World} {B n : Nat} {A : Option Addr} (h : WrB W B A n) (k : Ext W W') : WrB W' B A n := fun j hj => by
  obtain ⟨g, x, h1, h2, h3, h4, h5⟩ := h j hj
  have hlt := World.block_lt_of_cell? W _ h4
  exact ⟨g, x, h1, h2, h3, ext_of_cell k h4, by rw [← h5]; unfold World.frozen?; rw [k.block g hlt]⟩
theorem WrB.set {W : World} {B n g k y : Nat} {A : Option Addr} (h : WrB W B A n) (hy : y < 256) (hc : (W.cell? ⟨g, k, none⟩).isSome = true) : WrB (W.setCell ⟨g, k, none⟩ (.int .u8 ((y : Nat) : Int))) B A n := fun j hj => by
  obtain ⟨g', x, h1, h2, h3, h4, h5⟩ := h j hj
  have hf : (W.setCell ⟨g, k, none⟩ (.int .u8 ((y : Nat) : Int))).frozen? ⟨g', j, none⟩ = false := by rw [World.frozen?_setCell]; exact h5
  by_cases e : (⟨g', j, none⟩ : Addr) = ⟨g, k, none⟩
  · refine ⟨g', y, h1, h2, hy, ?_, hf⟩
    rw [e]
    exact World.cell?_setCell_same' _ _ _ hc
  · refine ⟨g', x, h1, h2, h3, ?_, hf⟩
    rw [World.cell?_setCell_other _ _ _ _ (Ne.symm e)]
    exact h4
end
end Go.Proofs.Ytgcinagkbdcgiaa
