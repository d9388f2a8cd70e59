/-
  DiskNil: a disk that nobody made.
-/
import Derived.Test.YtmfbeglidhejkaaKDoNo
import Derived.Test.YtmfbeglidhejkaaKDoor
import Derived.Test.YtmfbeglidhejkaaKGreat
import Derived.Deep.RegionHeld3
namespace Go.Proofs.Ytmfbeglidhejkaa
open Go Go.RowKit

/-- A list of one act. -/
theorem acts_one (w : World) (a : Act5) (h : a.Ok w w.heap.size) (g : Nat) (hg : w.heap.size = g) : Acts (w.alloc (.cells #[.int .u8 (a.kind : Int), .int .i64 a.sec, .int .i64 a.num, .slice a.bA a.bn a.bc, .slice a.kA a.kn a.kc] 36)) (w.alloc (.cells #[.int .u8 (a.kind : Int), .int .i64 a.sec, .int .i64 a.num, .slice a.bA a.bn a.bc, .slice a.kA a.kn a.kc] 36)).heap.size (some ⟨g, 0, none⟩) 1 1 [a] := by
  subst hg
  refine ⟨rfl, Nat.le_refl _, by omega, fun b hb => ?_, fun _ => ⟨w.heap.size, 0, rfl, by simp, fun j b hb k v hv => ?_⟩, fun h => by cases h⟩
  · obtain rfl := List.mem_singleton.1 hb
    exact h.ext ((Ext.refl w).alloc _)
  · match j, hb with
    | 0, hb =>
      injection hb with hb
      subst hb
      rw [World.cell?_alloc_new]
      rw [show 0 + (0 * 5 + k) = k by omega]
      exact (List.getElem?_toArray ..).trans hv

theorem ext_cell {w w' : World} {g i : Nat} {v : Value} (h : Ext w w') (hc : w.cell? ⟨g, i, none⟩ = some v) : w'.cell? ⟨g, i, none⟩ = some v := (Below.cell h (p := ⟨g, i, none⟩) (World.block_lt_of_cell? w _ hc)).trans hc
theorem keep_2 {w w' : World} {g i h j : Nat} {v u : Value} (k : Hid (Ext w w')) (h1 : Hid (w.cell? ⟨g, i, none⟩ = some v)) (h2 : Hid (w.cell? ⟨h, j, none⟩ = some u)) : w'.cell? ⟨g, i, none⟩ = some v ∧ w'.cell? ⟨h, j, none⟩ = some u := ⟨ext_cell k.out h1.out, ext_cell k.out h2.out⟩
theorem keep_6 {w w' : World} {g i h : Nat} {v u0 u1 u2 u3 u4 : Value} (k : Hid (Ext w w')) (h1 : Hid (w.cell? ⟨g, i, none⟩ = some v)) (h2 : Hid (w.cell? ⟨h, 0, none⟩ = some u0 ∧ w.cell? ⟨h, 1, none⟩ = some u1 ∧ w.cell? ⟨h, 2, none⟩ = some u2 ∧ w.cell? ⟨h, 3, none⟩ = some u3 ∧ w.cell? ⟨h, 4, none⟩ = some u4)) :
    w'.cell? ⟨g, i, none⟩ = some v ∧ w'.cell? ⟨h, 0, none⟩ = some u0 ∧ w'.cell? ⟨h, 1, none⟩ = some u1 ∧ w'.cell? ⟨h, 2, none⟩ = some u2 ∧ w'.cell? ⟨h, 3, none⟩ = some u3 ∧ w'.cell? ⟨h, 4, none⟩ = some u4 :=
  ⟨ext_cell k.out h1.out, ext_cell k.out h2.out.1, ext_cell k.out h2.out.2.1, ext_cell k.out h2.out.2.2.1, ext_cell k.out h2.out.2.2.2.1, ext_cell k.out h2.out.2.2.2.2⟩
theorem do_no' {w : World} (p : Option Addr) (h : Unmade w p) (a : Act5) (ha : a.Ok w w.heap.size) (hn : a.bn ≤ 200) :
    Calls Try.prog 14 #[.pointer p, .agg #[.int .u8 (a.kind : Int), .int .i64 a.sec, .int .i64 a.num, .slice a.bA a.bn a.bc, .slice a.kA a.kn a.kc]] w fun e w' => e = .returned (.int .i64 1) ∧ Ext w w' := by
  have := do_no p h a ha (by omega)
  unfold actV at this
  exact this
/-- The four variables. -/
theorem nil_facts {w W : World} (a : Act5) (ha : a.Ok w w.heap.size) (hW : W = ((((w.alloc (.cells #[.int .u8 (a.kind : Int), .int .i64 a.sec, .int .i64 a.num, .slice a.bA a.bn a.bc, .slice a.kA a.kn a.kc] 36)).alloc (.cells #[.int .u8 (a.kind : Int), .int .i64 a.sec, .int .i64 a.num, .slice a.bA a.bn a.bc, .slice a.kA a.kn a.kc] 36)).alloc (.cells #[.pointer none, .int .u8 0, .int .i64 0, .slice none 0 0, .slice none 0 0] 48)).alloc (.cells #[.pointer none, .pointer (some ⟨w.heap.size + 1 + 1, 0, none⟩)] 24))) :
    Ext w W ∧ a.Ok W W.heap.size ∧ W.heap[w.heap.size]? = some (.cells #[.int .u8 (a.kind : Int), .int .i64 a.sec, .int .i64 a.num, .slice a.bA a.bn a.bc, .slice a.kA a.kn a.kc] 36) ∧ ∀ k : Nat, k < 2 → ∃ pp, W.cell? ⟨w.heap.size + 1 + 1 + 1, k, none⟩ = some (.pointer pp) ∧ Unmade W pp := by
  have e1 : Ext w (w.alloc (.cells #[.int .u8 (a.kind : Int), .int .i64 a.sec, .int .i64 a.num, .slice a.bA a.bn a.bc, .slice a.kA a.kn a.kc] 36)) := (Ext.refl w).alloc _
  have e2 : Ext (w.alloc (.cells #[.int .u8 (a.kind : Int), .int .i64 a.sec, .int .i64 a.num, .slice a.bA a.bn a.bc, .slice a.kA a.kn a.kc] 36)) ((w.alloc (.cells #[.int .u8 (a.kind : Int), .int .i64 a.sec, .int .i64 a.num, .slice a.bA a.bn a.bc, .slice a.kA a.kn a.kc] 36)).alloc (.cells #[.int .u8 (a.kind : Int), .int .i64 a.sec, .int .i64 a.num, .slice a.bA a.bn a.bc, .slice a.kA a.kn a.kc] 36)) := (Ext.refl _).alloc _
  have e3 : Ext ((w.alloc (.cells #[.int .u8 (a.kind : Int), .int .i64 a.sec, .int .i64 a.num, .slice a.bA a.bn a.bc, .slice a.kA a.kn a.kc] 36)).alloc (.cells #[.int .u8 (a.kind : Int), .int .i64 a.sec, .int .i64 a.num, .slice a.bA a.bn a.bc, .slice a.kA a.kn a.kc] 36)) (((w.alloc (.cells #[.int .u8 (a.kind : Int), .int .i64 a.sec, .int .i64 a.num, .slice a.bA a.bn a.bc, .slice a.kA a.kn a.kc] 36)).alloc (.cells #[.int .u8 (a.kind : Int), .int .i64 a.sec, .int .i64 a.num, .slice a.bA a.bn a.bc, .slice a.kA a.kn a.kc] 36)).alloc (.cells #[.pointer none, .int .u8 0, .int .i64 0, .slice none 0 0, .slice none 0 0] 48)) := (Ext.refl _).alloc _
  have e4 : Ext (((w.alloc (.cells #[.int .u8 (a.kind : Int), .int .i64 a.sec, .int .i64 a.num, .slice a.bA a.bn a.bc, .slice a.kA a.kn a.kc] 36)).alloc (.cells #[.int .u8 (a.kind : Int), .int .i64 a.sec, .int .i64 a.num, .slice a.bA a.bn a.bc, .slice a.kA a.kn a.kc] 36)).alloc (.cells #[.pointer none, .int .u8 0, .int .i64 0, .slice none 0 0, .slice none 0 0] 48)) W := hW ▸ (Ext.refl _).alloc _
  have h1 := heap_alloc_new w (.cells #[.int .u8 (a.kind : Int), .int .i64 a.sec, .int .i64 a.num, .slice a.bA a.bn a.bc, .slice a.kA a.kn a.kc] 36)
  have h3 := heap_alloc_new ((w.alloc (.cells #[.int .u8 (a.kind : Int), .int .i64 a.sec, .int .i64 a.num, .slice a.bA a.bn a.bc, .slice a.kA a.kn a.kc] 36)).alloc (.cells #[.int .u8 (a.kind : Int), .int .i64 a.sec, .int .i64 a.num, .slice a.bA a.bn a.bc, .slice a.kA a.kn a.kc] 36)) (.cells #[.pointer none, .int .u8 0, .int .i64 0, .slice none 0 0, .slice none 0 0] 48)
  have h4 := heap_alloc_new (((w.alloc (.cells #[.int .u8 (a.kind : Int), .int .i64 a.sec, .int .i64 a.num, .slice a.bA a.bn a.bc, .slice a.kA a.kn a.kc] 36)).alloc (.cells #[.int .u8 (a.kind : Int), .int .i64 a.sec, .int .i64 a.num, .slice a.bA a.bn a.bc, .slice a.kA a.kn a.kc] 36)).alloc (.cells #[.pointer none, .int .u8 0, .int .i64 0, .slice none 0 0, .slice none 0 0] 48)) (.cells #[.pointer none, .pointer (some ⟨w.heap.size + 1 + 1, 0, none⟩)] 24)
  have s2 : ((w.alloc (.cells #[.int .u8 (a.kind : Int), .int .i64 a.sec, .int .i64 a.num, .slice a.bA a.bn a.bc, .slice a.kA a.kn a.kc] 36)).alloc (.cells #[.int .u8 (a.kind : Int), .int .i64 a.sec, .int .i64 a.num, .slice a.bA a.bn a.bc, .slice a.kA a.kn a.kc] 36)).heap.size = w.heap.size + 1 + 1 := by simp
  have s3 : (((w.alloc (.cells #[.int .u8 (a.kind : Int), .int .i64 a.sec, .int .i64 a.num, .slice a.bA a.bn a.bc, .slice a.kA a.kn a.kc] 36)).alloc (.cells #[.int .u8 (a.kind : Int), .int .i64 a.sec, .int .i64 a.num, .slice a.bA a.bn a.bc, .slice a.kA a.kn a.kc] 36)).alloc (.cells #[.pointer none, .int .u8 0, .int .i64 0, .slice none 0 0, .slice none 0 0] 48)).heap.size = w.heap.size + 1 + 1 + 1 := by simp
  rw [s2] at h3
  rw [s3, ← hW] at h4
  have hx := e1.trans (e2.trans (e3.trans e4))
  have g1 : W.heap[w.heap.size]? = some (.cells #[.int .u8 (a.kind : Int), .int .i64 a.sec, .int .i64 a.num, .slice a.bA a.bn a.bc, .slice a.kA a.kn a.kc] 36) := heap_mod (F := fun _ => False) h1 (Mod.of_ext (e2.trans (e3.trans e4))) fun h => h
  have g3 := ext_cell e4 (cell_of_row _ (w.heap.size + 1 + 1) 0 _ _ _ h3)
  refine ⟨hx, ha.ext hx, g1, fun k hk => ?_⟩
  match k, hk with
  | 0, _ => exact ⟨none, cell_of_row _ _ 0 _ _ _ h4, .inl rfl⟩
  | 1, _ => exact ⟨some ⟨w.heap.size + 1 + 1, 0, none⟩, cell_of_row _ _ 1 _ _ _ h4, .inr ⟨_, rfl, g3⟩⟩

set_option maxRecDepth 100000 in
set_option maxHeartbeats 600000 in
theorem diskNil_law (a : Act5) (w : World) (ha : a.Ok w w.heap.size) :
    Calls Try.prog 4 #[.agg #[.int .u8 (a.kind : Int), .int .i64 a.sec, .int .i64 a.num, .slice a.bA a.bn a.bc, .slice a.kA a.kn a.kc]] w fun e w' => e = .returned (.bool true) ∧ Ext w w' := by
  have hE := (Ext.refl w).alloc (.cells #[.int .u8 (a.kind : Int), .int .i64 a.sec, .int .i64 a.num, .slice a.bA a.bn a.bc, .slice a.kA a.kn a.kc] 36)
  have HA0 := Lib.hid ha
  have HA := Lib.hid (ha.ext hE)
  have HE := Lib.hid hE
  have HR := Lib.hid (heap_alloc_new w (.cells #[.int .u8 (a.kind : Int), .int .i64 a.sec, .int .i64 a.num, .slice a.bA a.bn a.bc, .slice a.kA a.kn a.kc] 36))
  clear ha hE
  go_enter Try.func4, Try.ntmps4
  go_wp2_with fail
  refine (great_of (some ⟨w.heap.size + 1, 0, none⟩) 1 1 [a] (acts_one _ a HA.out (w.heap.size + 1) (by simp))).mono ?_
  rintro e w1 ⟨b, rfl, rfl, hg⟩
  have HE2 := Lib.hid (HE.out.alloc (.cells #[.int .u8 (a.kind : Int), .int .i64 a.sec, .int .i64 a.num, .slice a.bA a.bn a.bc, .slice a.kA a.kn a.kc] 36))
  cases b with
  | true =>
    go_wp2_with fail
    go_ret
    exact ⟨rfl, HE2.out⟩
  | false =>
    have HB := Lib.hid ((hg rfl).2 a (List.mem_singleton.2 rfl)).1
    clear hg
    go_wp2_with fail
    obtain ⟨W, hW⟩ : ∃ W, W = ((((w.alloc (.cells #[.int .u8 (a.kind : Int), .int .i64 a.sec, .int .i64 a.num, .slice a.bA a.bn a.bc, .slice a.kA a.kn a.kc] 36)).alloc (.cells #[.int .u8 (a.kind : Int), .int .i64 a.sec, .int .i64 a.num, .slice a.bA a.bn a.bc, .slice a.kA a.kn a.kc] 36)).alloc (.cells #[.pointer none, .int .u8 0, .int .i64 0, .slice none 0 0, .slice none 0 0] 48)).alloc (.cells #[.pointer none, .pointer (some ⟨w.heap.size + 1 + 1, 0, none⟩)] 24)) := ⟨_, rfl⟩
    obtain ⟨R, hR⟩ : ∃ R, R = w.heap.size + 1 + 1 + 1 := ⟨_, rfl⟩
    have hf := nil_facts a HA0.out hW
    rw [← hW, ← hR]
    rw [← hR] at hf
    have HEW := Lib.hid hf.1
    have HOK := Lib.hid hf.2.1
    have HROW := Lib.hid hf.2.2.1
    have HPS := Lib.hid hf.2.2.2
    clear hf hW hR HE2 HR HA HE
    go_loopw [5] (fun i wr => ∃ k : Nat, k ≤ 2 ∧ i = .int .i64 k ∧ Hid (Ext W wr)) (fun i _ => 2 - (intOf i).toNat)
    case atStart => exact ⟨0, Nat.zero_le _, rfl, Lib.hid (Ext.refl _)⟩
    case round =>
      obtain ⟨k, hk2, rfl, HQ⟩ := hrel
      by_cases hk : k < 2
      · obtain ⟨pp, hpp, hun⟩ := HPS.out k hk
        have HPP := Lib.hid hpp
        have HUN := Lib.hid hun
        have hcs := (cells5 HROW.out).1
        have HCS := Lib.hid hcs
        have HSEC := Lib.hid hcs.2.1
        have HXa := Lib.hid (HQ.out.trans (Ext.refl wr).drew)
        have j0 := ext_cell HQ.out hpp
        have j1 := ext_cell HQ.out hcs.2.1
        clear hpp hun hcs
        go_wp2_with fail
        go_region_held3 (fun w' => w'.cell? ⟨R, k, none⟩ = some (.pointer pp) ∧ w'.cell? ⟨w.heap.size, 1, none⟩ = some (.int .i64 a.sec))
          (exact keep_2 (by assumption) HPP HSEC)
          (first
            | (go_at_call 19; ((with_reducible refine (read_no pp a.sec _ (HUN.out.ext HXa.out)).mono ?_); rintro e w5 ⟨rfl, hx⟩; have HXb := Lib.hid (HXa.out.trans hx); clear hx)))
        clear j0 j1
        go_wp2_with fail
        have HXc := Lib.hid (HXb.out.trans (Ext.refl w5).drew)
        go_region_held3 (fun w' => w'.cell? ⟨R, k, none⟩ = some (.pointer pp) ∧ w'.cell? ⟨w.heap.size, 1, none⟩ = some (.int .i64 a.sec))
          (exact keep_2 (by assumption) HPP HSEC)
          (first
            | (go_at_call 20; ((with_reducible refine (rest_no pp a.sec _ (HUN.out.ext HXc.out)).mono ?_); rintro e w6 ⟨rfl, hx⟩; have HXd := Lib.hid (HXc.out.trans hx); clear hx)))
        go_wp2_with fail
        have HXe := Lib.hid (HXd.out.trans (Ext.refl w6).drew)
        go_region_held3 (fun w' => w'.cell? ⟨R, k, none⟩ = some (.pointer pp) ∧ w'.cell? ⟨w.heap.size, 1, none⟩ = some (.int .i64 a.sec))
          (exact keep_2 (by assumption) HPP HSEC)
          (first
            | (go_at_call 21; ((with_reducible refine (meant_no pp a.sec _ (HUN.out.ext HXe.out)).mono ?_); rintro e w7 ⟨rfl, hx⟩; have HXf := Lib.hid (HXe.out.trans hx); clear hx)))
        go_wp2_with fail
        have HXg := Lib.hid (HXf.out.trans (Ext.refl w7).drew)
        go_region_held3 (fun w' => w'.cell? ⟨R, k, none⟩ = some (.pointer pp) ∧ w'.cell? ⟨w.heap.size, 0, none⟩ = some (.int .u8 (a.kind : Int)) ∧ w'.cell? ⟨w.heap.size, 1, none⟩ = some (.int .i64 a.sec) ∧ w'.cell? ⟨w.heap.size, 2, none⟩ = some (.int .i64 a.num) ∧ w'.cell? ⟨w.heap.size, 3, none⟩ = some (.slice a.bA a.bn a.bc) ∧ w'.cell? ⟨w.heap.size, 4, none⟩ = some (.slice a.kA a.kn a.kc))
          (exact keep_6 (by assumption) HPP HCS)
          (first
            | (go_at_call 14; ((with_reducible refine (do_no' pp (HUN.out.ext HXg.out) a (HOK.out.ext HXg.out) HB.out).mono ?_); rintro e w8 ⟨rfl, hx⟩; have HXh := Lib.hid (HXg.out.trans hx); clear hx))
            | (go_at_call 13; ((with_reducible refine (size_no pp _ (HUN.out.ext HXh.out)).mono ?_); rintro e w9 ⟨rfl, rfl⟩))
            | (go_at_call 16; ((with_reducible refine (waits_no pp _ (HUN.out.ext HXh.out)).mono ?_); rintro e w9 ⟨rfl, rfl⟩))
            | (go_at_call 17; ((with_reducible refine (up_no pp _ (HUN.out.ext HXh.out)).mono ?_); rintro e w9 ⟨rfl, rfl⟩)))
        go_wp2_with fail
        go_roundw
        case rel => exact ⟨k + 1, by omega, by go_num, HXh⟩
        case measure => simp [intOf]; omega
      · go_wp2_with fail
        go_ret
        exact ⟨rfl, HEW.out.trans HQ.out⟩
end Go.Proofs.Ytmfbeglidhejkaa
