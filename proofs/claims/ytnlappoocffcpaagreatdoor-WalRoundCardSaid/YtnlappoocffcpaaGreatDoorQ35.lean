/-
  All of a log on a disk that runs: what allTo says.
  The cells of a told list: the k-th report lies in the list's row.
  Records, and two copies of frames, that came in by value, opened. Whatever the program's types are.
  Puts and faults of the statements on logs that came in, opened. Whatever the program's types are.
  The law's examples: awake.
-/
import Derived.Test.YtnlappoocffcpaaGreatDoorQ08
import Derived.Test.YtnlappoocffcpaaGreatDoorQ11
import Derived.Test.YtnlappoocffcpaaGreatDoorQ30
import Derived.Test.YtnlappoocffcpaaGreatDoorQ33
import Derived.Test.YtnlappoocffcpaaGreatDoorQ34
import Derived.Deep.DeepCutAuto
namespace Go.Proofs.YtnlappoocffcpaaGreatDoor
set_option maxRecDepth 100000
open Go Go.RowKit
theorem toldK_allTo (m : DM) (r snap : Int) (n : Nat) : toldK (fun k => m.clsW r (snap + 1 + (k : Int))) (fun k => m.rptW r (snap + 1 + (k : Int))) (List.range n) = m.allTo r snap n := by
  unfold toldK DM.allTo
  rw [List.filter_map, List.map_map]
  rfl
section
variable {w0 w : World} {d : Nat} {F : Nat → Prop} {g s : Nat} {r inc : Int} {m : DM}
theorem all_ld (h : LD w0 w d F g s r inc m) (hL : LaidF w0) (hLS : LaidS w0) (hs : s ≤ 1099511627752) (hup : m.up = true) (hfew : m.waits.length ≤ 1000000) :
    Calls Tryz.prog 20 #[.pointer (some ⟨g, 0, none⟩)] w fun e w' => ∃ v, e = .returned (.tuple #[v, .int .i64 0]) ∧ w'.ownsRow w.heap.size 86 11 v (m.allTo r (s : Int) 24).length (toldC (m.allTo r (s : Int) 24)) ∧ Ext w w' := by
  have hr := wrunning_of h.log h.dk.disk
  have hE : upE m = 0 := if_pos hup
  rw [hE] at hr
  have hI : WhatOn (fun k => w.heap.size ≤ k ∧ k ≠ w.heap.size + 1) w g s (fun k => m.clsW r ((s : Int) + 1 + (k : Int))) (fun k => m.rptW r ((s : Int) + 1 + (k : Int))) := fun k hk V hm => by
    have hx : Ext w V := Below.mod (Ext.refl w) hm (Nat.le_refl _) (fun k hk => hk.1)
    have hV := h.ext hx
    have e : ((s : Int) + 1 + (k : Int)) = ((s + 1 + k : Nat) : Int) := by omega
    simp only [e]
    exact wwhat_of hV.log hV.dk.disk (hV.laid hL) (hV.laidS hLS) (s + 1 + k) (by omega) (by omega) hfew
  have hq := wall_yes g s (by omega) _ _ hr h.log.cells.2.2.2.2 hI
  rw [toldK_allTo] at hq
  exact hq
end
end Go.Proofs.YtnlappoocffcpaaGreatDoor

namespace Go.Proofs.YtnlappoocffcpaaGreatDoor
set_option maxRecDepth 100000
open Go Go.RowKit
theorem rptC_len (x : Rpt) : (rptC x).length = 11 := rfl
theorem toldC_cons (p : Rpt) (ps : List Rpt) : toldC (p :: ps) = rptC p ++ toldC ps := by
  unfold toldC
  rw [List.flatMap_cons]
theorem toldC_get {x : Rpt} {j : Nat} (hj : j < 11) : ∀ (ps : List Rpt) (k : Nat), ps[k]? = some x → (toldC ps)[k * 11 + j]? = (rptC x)[j]?
  | [], k, h => by simp at h
  | p :: ps, 0, h => by
    rw [toldC_cons, List.getElem?_append_left (by rw [rptC_len]; omega)]
    simp at h
    rw [h]
    simp
  | p :: ps, k + 1, h => by
    rw [toldC_cons, List.getElem?_append_right (by rw [rptC_len]; omega), rptC_len, show (k + 1) * 11 + j - 11 = k * 11 + j by omega]
    exact toldC_get hj ps k (by simpa using h)
theorem told_row {w : World} {base : Nat} {v : Value} {ps : List Rpt} (h : w.ownsRow base 86 11 v ps.length (toldC ps)) :
    (v = .slice none 0 0 ∧ ps = []) ∨ ∃ g cap, v = .slice (some ⟨g, 0, none⟩) ps.length cap ∧ base ≤ g ∧ ps.length ≤ cap ∧ ∀ (k : Nat) (x : Rpt), ps[k]? = some x → ∀ j, j < 11 → w.cell? ⟨g, k * 11 + j, none⟩ = (rptC x)[j]? := by
  rcases h.2 with ⟨rfl, h0⟩ | ⟨g, cap, cur, rfl, hg, hrow, hn, _, _, ht⟩
  · exact .inl ⟨rfl, List.length_eq_zero_iff.1 h0⟩
  · refine .inr ⟨g, cap, rfl, hg, hn, fun k x hk j hj => ?_⟩
    have hkl : k < ps.length := (List.getElem?_eq_some_iff.1 hk).1
    rw [cell_of_row w g _ _ _ _ hrow, ← toldC_get hj ps k hk, ← ht, List.getElem?_take_of_lt (by omega), Array.getElem?_toList]
end Go.Proofs.YtnlappoocffcpaaGreatDoor

namespace Go.Proofs.YtnlappoocffcpaaGreatDoor
set_option maxRecDepth 100000
open Go Go.RowKit Go.ChangeShapes Go.WideShapes Go.Deep
section
variable {H : Type} {enc : TypeId × Value → H} {P : Program} {w : World} {base : Nat} {spare : Nat → Bool} {held : Bool}
end
end Go.Proofs.YtnlappoocffcpaaGreatDoor

namespace Go.Proofs.YtnlappoocffcpaaGreatDoor
set_option maxRecDepth 100000
open Go Go.RowKit Go.ChangeShapes Go.WideShapes Go.Deep
instance : Inhabited PutA := ⟨{}⟩
structure FltA where
  k : Nat := 0
  s : Nat := 0
  n : Nat := 0
instance : Inhabited FltA := ⟨{}⟩
section
variable {H : Type} {enc : TypeId × Value → H} {P : Program} {w : World} {base : Nat} {spare : Nat → Bool} {held : Bool}
end
end Go.Proofs.YtnlappoocffcpaaGreatDoor

namespace Go.Proofs.YtnlappoocffcpaaGreatDoor
set_option maxRecDepth 100000
open Go Go.RowKit
set_option maxRecDepth 100000 in
set_option maxHeartbeats 800000 in
theorem wnoop_any (w : World) : Calls Tryz.prog 36 #[] w fun e w' => e = .returned (.agg #[.int .u8 1, .int .i64 0, .int .i64 0, .int .u8 0, .string ByteArray.empty, .string ByteArray.empty, .string ByteArray.empty]) ∧ Ext w w' := by
  go_enter Tryz.func36, Tryz.ntmps36
  go_wp2_with fail
  refine bodyPost_ret (v := .agg #[.int .u8 1, .int .i64 0, .int .i64 0, .int .u8 0, .string ByteArray.empty, .string ByteArray.empty, .string ByteArray.empty]) (by simp [results, Tryz.results36, go_sem]; rfl) rfl ⟨rfl, (Ext.refl w).alloc _⟩
theorem cut_ld2 {w0 w : World} {d : Nat} {F : Nat → Prop} {g s : Nat} {r inc : Int} {m : DM} (h : LD w0 w d F g s r inc m) (n : Nat) (h1 : s ≤ n) (h2 : n ≤ 1099511627752) :
    Calls Tryz.prog 14 #[.pointer (some ⟨g, 0, none⟩), .int .i64 (n : Int)] w fun e w' => e = .returned (.int .i64 0) ∧ LD w0 w' d F g n r inc m ∧ Mod (fun k => k = g) w w' := by
  have hc : cutB s n = true := by unfold cutB inI; simp; omega
  have hq := wcut_of h.log (n : Int)
  rw [if_pos hc, if_pos hc, Int.toNat_natCast] at hq
  refine hq.mono fun e w' ⟨he, hl, hm⟩ => ⟨he, ⟨h.dk.mod hm (fun k hk hh => h.off (hh ▸ hk)) (fun k hk => hk ▸ h.low), hl, h.off, h.low⟩, hm⟩
theorem wnew_dk {w0 w : World} (hx : Ext w0 w) : Calls Tryz.prog 8 #[.int .i64 156] w fun e w' => ∃ d F, e = .returned (.tuple #[.pointer (some ⟨d, 0, none⟩), .int .i64 0]) ∧ DK w0 w' d F (DM.new 156) :=
  (new_pdk 156 w (by omega) (by omega)).mono fun e w' ⟨d, h1, h2, h3⟩ => ⟨d, _, h1, h2, fun k hk => Nat.le_trans hx.size hk.1, hx.trans h3⟩
theorem rpt_eql_self (ix : Int) (st : Nat) (x y : Int) (k : Nat) (cl sq : Int) (ok : Nat) (key old val : ByteArray) (w : World) :
    (binOp .eql 86 (.agg #[.int .i64 ix, .int .u8 (st : Int), .int .i64 x, .int .i64 y, .int .u8 (k : Int), .int .i64 cl, .int .i64 sq, .int .u8 (ok : Int), .string key, .string old, .string val]) (.agg #[.int .i64 ix, .int .u8 (st : Int), .int .i64 x, .int .i64 y, .int .u8 (k : Int), .int .i64 cl, .int .i64 sq, .int .u8 (ok : Int), .string key, .string old, .string val])).run Tryz.prog w = .ok (.bool true) w := by
  have hf : Tryz.prog.stoodInHeld 86 = false := by kernel_rfl
  have hu := Tryz.underlying86
  have hu1 := Tryz.underlying38
  have hu2 := Tryz.underlying42
  have hu3 := Tryz.underlying40
  rw [run_eql_struct, run_equalIn_agg _ _ _ _ _ (by rw [Program.fieldsOf, hu]) hf, Program.fieldsOf, hu]
  simp [Op.eqFields, go_sem]
abbrev AwC (w : World) (b c : Nat) : Prop := w.cell? ⟨b, 0, none⟩ = some (.int .i64 1) ∧ w.cell? ⟨b, 1, none⟩ = some (.int .u8 2) ∧ w.cell? ⟨b, 2, none⟩ = some (.int .i64 1) ∧ w.cell? ⟨b, 3, none⟩ = some (.int .i64 0) ∧ w.cell? ⟨b, 4, none⟩ = some (.int .u8 1) ∧ w.cell? ⟨b, 5, none⟩ = some (.int .i64 0) ∧ w.cell? ⟨b, 6, none⟩ = some (.int .i64 0) ∧ w.cell? ⟨b, 7, none⟩ = some (.int .u8 0) ∧ w.cell? ⟨b, 8, none⟩ = some (.string ByteArray.empty) ∧ w.cell? ⟨b, 9, none⟩ = some (.string ByteArray.empty) ∧ w.cell? ⟨b, 10, none⟩ = some (.string ByteArray.empty) ∧ w.cell? ⟨c, 0, none⟩ = some (.int .i64 25) ∧ w.cell? ⟨c, 1, none⟩ = some (.int .u8 1) ∧ w.cell? ⟨c, 2, none⟩ = some (.int .i64 0) ∧ w.cell? ⟨c, 3, none⟩ = some (.int .i64 0) ∧ w.cell? ⟨c, 4, none⟩ = some (.int .u8 0) ∧ w.cell? ⟨c, 5, none⟩ = some (.int .i64 0) ∧ w.cell? ⟨c, 6, none⟩ = some (.int .i64 0) ∧ w.cell? ⟨c, 7, none⟩ = some (.int .u8 0) ∧ w.cell? ⟨c, 8, none⟩ = some (.string ByteArray.empty) ∧ w.cell? ⟨c, 9, none⟩ = some (.string ByteArray.empty) ∧ w.cell? ⟨c, 10, none⟩ = some (.string ByteArray.empty)
theorem AwC.of {w : World} {b c : Nat} (ha : w.heap[b]? = some (.cells #[.int .i64 1, .int .u8 2, .int .i64 1, .int .i64 0, .int .u8 1, .int .i64 0, .int .i64 0, .int .u8 0, .string ByteArray.empty, .string ByteArray.empty, .string ByteArray.empty] 86 (0, 0))) (hc : w.heap[c]? = some (.cells #[.int .i64 25, .int .u8 1, .int .i64 0, .int .i64 0, .int .u8 0, .int .i64 0, .int .i64 0, .int .u8 0, .string ByteArray.empty, .string ByteArray.empty, .string ByteArray.empty] 86 (0, 0))) : AwC w b c := ⟨cell_of_row w b 0 _ _ _ ha, cell_of_row w b 1 _ _ _ ha, cell_of_row w b 2 _ _ _ ha, cell_of_row w b 3 _ _ _ ha, cell_of_row w b 4 _ _ _ ha, cell_of_row w b 5 _ _ _ ha, cell_of_row w b 6 _ _ _ ha, cell_of_row w b 7 _ _ _ ha, cell_of_row w b 8 _ _ _ ha, cell_of_row w b 9 _ _ _ ha, cell_of_row w b 10 _ _ _ ha, cell_of_row w c 0 _ _ _ hc, cell_of_row w c 1 _ _ _ hc, cell_of_row w c 2 _ _ _ hc, cell_of_row w c 3 _ _ _ hc, cell_of_row w c 4 _ _ _ hc, cell_of_row w c 5 _ _ _ hc, cell_of_row w c 6 _ _ _ hc, cell_of_row w c 7 _ _ _ hc, cell_of_row w c 8 _ _ _ hc, cell_of_row w c 9 _ _ _ hc, cell_of_row w c 10 _ _ _ hc⟩
theorem AwC.ext {w w' : World} {b c : Nat} (hx : Ext w w') (h : AwC w b c) : AwC w' b c := by
  obtain ⟨a0, a1, a2, a3, a4, a5, a6, a7, a8, a9, a10, a11, a12, a13, a14, a15, a16, a17, a18, a19, a20, a21⟩ := h
  exact ⟨ext_of_cell hx a0, ext_of_cell hx a1, ext_of_cell hx a2, ext_of_cell hx a3, ext_of_cell hx a4, ext_of_cell hx a5, ext_of_cell hx a6, ext_of_cell hx a7, ext_of_cell hx a8, ext_of_cell hx a9, ext_of_cell hx a10, ext_of_cell hx a11, ext_of_cell hx a12, ext_of_cell hx a13, ext_of_cell hx a14, ext_of_cell hx a15, ext_of_cell hx a16, ext_of_cell hx a17, ext_of_cell hx a18, ext_of_cell hx a19, ext_of_cell hx a20, ext_of_cell hx a21⟩
set_option maxRecDepth 100000 in
set_option maxHeartbeats 1600000 in
theorem wawake_any (w0 w : World) (hx : Ext w0 w) (hL : LaidF w0 ∧ LaidS w0) : Calls Tryz.prog 24 #[] w fun e w' => e = .returned (.bool true) ∧ Ext w0 w' := by
  obtain ⟨m1, e1, c1, z1, r1, z2, z3, r3, z4⟩ := awake_plain
  have hfew : m1.waits.length ≤ 1000000 := by rw [c1.b.waits]; simp
  have HL := Lib.hid hL
  have HX := Lib.hid hx
  have HP := Lib.hid e1
  have HZ := Lib.hid (And.intro z1 (And.intro r1 (And.intro z2 (And.intro z3 (And.intro r3 (And.intro z4 hfew))))))
  clear hL hx e1 c1 z1 r1 z2 z3 r3 z4 hfew
  go_enter Tryz.func24, Tryz.ntmps24
  go_wp2_with fail
  refine (wnew_dk HX.out).mono ?_
  rintro e w1 ⟨d, F1, rfl, hk⟩
  have HK := Lib.hid hk
  clear hk
  go_wp2_with fail
  have hst : Calls Tryz.prog 10 #[.pointer (some ⟨d, 0, none⟩), .int .i64 3, .int .i64 1, .int .i64 0] w1 fun e w' => ∃ g, e = .returned (.tuple #[.pointer (some ⟨g, 0, none⟩), .int .i64 0]) ∧ LD w0 w' d F1 g 0 3 1 (DM.new 156) := open_ld HK.out HL.out.1 3 1 0 (by decide)
  refine hst.mono ?_
  rintro e w2 ⟨g, rfl, hk⟩
  have HK := Lib.hid hk
  clear hk hst
  go_wp2_with fail
  refine (wnoop_any _).mono ?_
  rintro e w3 ⟨rfl, hx⟩
  have HK := Lib.hid (HK.out.ext hx)
  clear hx
  go_wp2_with fail
  have hst : Calls Tryz.prog 12 #[.pointer (some ⟨g, 0, none⟩), .int .i64 1, .agg #[.int .i64 1, .int .i64 0], .agg #[.int .u8 1, .int .i64 0, .int .i64 0, .int .u8 0, .string ByteArray.empty, .string ByteArray.empty, .string ByteArray.empty]] w3 fun e w' => e = .returned (.int .i64 0) ∧ ∃ F', LD w0 w' d F' g 0 3 1 m1 := put_ld HK.out HL.out.1 HL.out.2 (by omega) (by omega) (by omega) 1 1 0 noopE (by decide) (by decide) 0 HP.out
  refine hst.mono ?_
  rintro e w4 ⟨rfl, F2, hk⟩
  have HK := Lib.hid hk
  clear hk hst
  go_wp2_with fail
  have hst : Calls Tryz.prog 29 #[.pointer (some ⟨g, 0, none⟩), .int .i64 1] w4 fun e w' => e = .returned (.tuple #[.agg #[.int .i64 1, .int .u8 2, .int .i64 1, .int .i64 0, .int .u8 1, .int .i64 0, .int .i64 0, .int .u8 0, .string ByteArray.empty, .string ByteArray.empty, .string ByteArray.empty], .int .i64 0]) ∧ Ext w4 w' := get_ld HK.out HL.out.1 HL.out.2 (by omega) 1 HZ.out.2.2.2.2.2.2 _ 0 HZ.out.2.1 HZ.out.1
  refine hst.mono ?_
  rintro e w5 ⟨rfl, hx⟩
  have HK := Lib.hid (HK.out.ext hx)
  clear hx hst
  go_wp2_with fail
  have hra := heap_alloc_new w5 (.cells #[.int .i64 1, .int .u8 2, .int .i64 1, .int .i64 0, .int .u8 1, .int .i64 0, .int .i64 0, .int .u8 0, .string ByteArray.empty, .string ByteArray.empty, .string ByteArray.empty] 86)
  have hlt : g < w5.heap.size := HK.out.log.lt
  have hk := HK.out.ext ((Ext.refl w5).alloc (.cells #[.int .i64 1, .int .u8 2, .int .i64 1, .int .i64 0, .int .u8 1, .int .i64 0, .int .i64 0, .int .u8 0, .string ByteArray.empty, .string ByteArray.empty, .string ByteArray.empty] 86))
  generalize w5.alloc (.cells #[.int .i64 1, .int .u8 2, .int .i64 1, .int .i64 0, .int .u8 1, .int .i64 0, .int .i64 0, .int .u8 0, .string ByteArray.empty, .string ByteArray.empty, .string ByteArray.empty] 86) = V5 at hra hk ⊢
  generalize w5.heap.size = b5 at hra hlt ⊢
  have HA := Lib.hid hra
  have HK := Lib.hid hk
  have HG := Lib.hid hlt
  clear hra hk hlt
  obtain ⟨R8, hR8⟩ : ∃ R8, m1.lkR 0 3 25 = R8 := ⟨_, rfl⟩
  have hst : Calls Tryz.prog 29 #[.pointer (some ⟨g, 0, none⟩), .int .i64 25] V5 fun e w' => e = .returned (.tuple #[.agg #[.int .i64 R8.ix, .int .u8 (R8.st : Int), .int .i64 R8.x, .int .i64 R8.y, .int .u8 (R8.e.k : Int), .int .i64 R8.e.cl, .int .i64 R8.e.sq, .int .u8 (R8.e.ok : Int), .string R8.e.key, .string R8.e.old, .string R8.e.val], .int .i64 2]) ∧ Ext V5 w' := get_ld HK.out HL.out.1 HL.out.2 (by omega) 25 HZ.out.2.2.2.2.2.2 R8 2 hR8 HZ.out.2.2.1
  refine hst.mono ?_
  rintro e w6 ⟨rfl, hx⟩
  have HK := Lib.hid (HK.out.ext hx)
  have HA := Lib.hid (keep_row hx HA.out)
  clear hx hst hR8
  go_wp2_with fail
  have hx := (Ext.refl w6).alloc (.cells #[.int .i64 R8.ix, .int .u8 (R8.st : Int), .int .i64 R8.x, .int .i64 R8.y, .int .u8 (R8.e.k : Int), .int .i64 R8.e.cl, .int .i64 R8.e.sq, .int .u8 (R8.e.ok : Int), .string R8.e.key, .string R8.e.old, .string R8.e.val] 86)
  have HK := Lib.hid (HK.out.ext hx)
  have HA := Lib.hid (keep_row hx HA.out)
  clear hx
  generalize w6.alloc (.cells #[.int .i64 R8.ix, .int .u8 (R8.st : Int), .int .i64 R8.x, .int .i64 R8.y, .int .u8 (R8.e.k : Int), .int .i64 R8.e.cl, .int .i64 R8.e.sq, .int .u8 (R8.e.ok : Int), .string R8.e.key, .string R8.e.old, .string R8.e.val] 86) = V6 at HK HA ⊢
  have hst : Calls Tryz.prog 14 #[.pointer (some ⟨g, 0, none⟩), .int .i64 8] V6 fun e w' => e = .returned (.int .i64 0) ∧ (∃ F', LD w0 w' d F' g 8 3 1 m1) ∧ Mod (fun k => k = g) V6 w' := (cut_ld2 HK.out 8 (by omega) (by omega)).mono fun e w' h => ⟨h.1, ⟨_, h.2.1⟩, h.2.2⟩
  refine hst.mono ?_
  rintro e w7 ⟨rfl, ⟨F3, hk⟩, hm⟩
  have HK := Lib.hid hk
  have HA := Lib.hid (heap_mod HA.out hm (by have := HG.out; omega))
  clear hk hm hst
  go_wp2_with fail
  have hst : Calls Tryz.prog 29 #[.pointer (some ⟨g, 0, none⟩), .int .i64 25] w7 fun e w' => e = .returned (.tuple #[.agg #[.int .i64 25, .int .u8 1, .int .i64 0, .int .i64 0, .int .u8 0, .int .i64 0, .int .i64 0, .int .u8 0, .string ByteArray.empty, .string ByteArray.empty, .string ByteArray.empty], .int .i64 0]) ∧ Ext w7 w' := get_ld HK.out HL.out.1 HL.out.2 (by omega) 25 HZ.out.2.2.2.2.2.2 _ 0 HZ.out.2.2.2.2.1 HZ.out.2.2.2.1
  refine hst.mono ?_
  rintro e w8 ⟨rfl, hx⟩
  have HK := Lib.hid (HK.out.ext hx)
  have HA := Lib.hid (keep_row hx HA.out)
  clear hx hst
  go_wp2_with fail
  have hra := heap_alloc_new w8 (.cells #[.int .i64 25, .int .u8 1, .int .i64 0, .int .i64 0, .int .u8 0, .int .i64 0, .int .i64 0, .int .u8 0, .string ByteArray.empty, .string ByteArray.empty, .string ByteArray.empty] 86)
  have hx := (Ext.refl w8).alloc (.cells #[.int .i64 25, .int .u8 1, .int .i64 0, .int .i64 0, .int .u8 0, .int .i64 0, .int .i64 0, .int .u8 0, .string ByteArray.empty, .string ByteArray.empty, .string ByteArray.empty] 86)
  have HK := Lib.hid (HK.out.ext hx)
  have HA := Lib.hid (keep_row hx HA.out)
  clear hx
  generalize w8.alloc (.cells #[.int .i64 25, .int .u8 1, .int .i64 0, .int .i64 0, .int .u8 0, .int .i64 0, .int .i64 0, .int .u8 0, .string ByteArray.empty, .string ByteArray.empty, .string ByteArray.empty] 86) = V8 at hra HK HA ⊢
  generalize w8.heap.size = b10 at hra ⊢
  have HC := Lib.hid hra
  clear hra
  obtain ⟨R9, hR9⟩ : ∃ R9, m1.lkR 8 3 8 = R9 := ⟨_, rfl⟩
  have hst : Calls Tryz.prog 29 #[.pointer (some ⟨g, 0, none⟩), .int .i64 8] V8 fun e w' => e = .returned (.tuple #[.agg #[.int .i64 R9.ix, .int .u8 (R9.st : Int), .int .i64 R9.x, .int .i64 R9.y, .int .u8 (R9.e.k : Int), .int .i64 R9.e.cl, .int .i64 R9.e.sq, .int .u8 (R9.e.ok : Int), .string R9.e.key, .string R9.e.old, .string R9.e.val], .int .i64 2]) ∧ Ext V8 w' := get_ld HK.out HL.out.1 HL.out.2 (by omega) 8 HZ.out.2.2.2.2.2.2 R9 2 hR9 HZ.out.2.2.2.2.2.1
  refine hst.mono ?_
  rintro e w9 ⟨rfl, hx⟩
  have HK := Lib.hid (HK.out.ext hx)
  have HA := Lib.hid (keep_row hx HA.out)
  have HC := Lib.hid (keep_row hx HC.out)
  clear hx hst hR9
  go_upto_region 12 with (fail)
  have hx := (Ext.refl w9).alloc (.cells #[.int .i64 R9.ix, .int .u8 (R9.st : Int), .int .i64 R9.x, .int .i64 R9.y, .int .u8 (R9.e.k : Int), .int .i64 R9.e.cl, .int .i64 R9.e.sq, .int .u8 (R9.e.ok : Int), .string R9.e.key, .string R9.e.old, .string R9.e.val] 86)
  have HK := Lib.hid (HK.out.ext hx)
  have HA := Lib.hid (keep_row hx HA.out)
  have HC := Lib.hid (keep_row hx HC.out)
  clear hx
  generalize w9.alloc (.cells #[.int .i64 R9.ix, .int .u8 (R9.st : Int), .int .i64 R9.x, .int .i64 R9.y, .int .u8 (R9.e.k : Int), .int .i64 R9.e.cl, .int .i64 R9.e.sq, .int .u8 (R9.e.ok : Int), .string R9.e.key, .string R9.e.old, .string R9.e.val] 86) = V9 at HK HA HC ⊢
  have hq1 := fun W => rpt_eql_self 1 2 1 0 1 0 0 0 ByteArray.empty ByteArray.empty ByteArray.empty W
  have hq2 := fun W => rpt_eql_self 25 1 0 0 0 0 0 0 ByteArray.empty ByteArray.empty ByteArray.empty W
  have hS0 : AwC V9.drew b5 b10 := AwC.of HA.out HC.out
  go_region_held3 (fun w' => AwC w' b5 b10)
    (first | with_reducible exact hS0 | with_reducible exact hS1 | with_reducible assumption)
    (first
      | (go_at_call 36; ((with_reducible refine (wnoop_any _).mono ?_); rintro e' w' ⟨rfl, hx⟩; have HX9 := Lib.hid hx; have hS1 := AwC.ext hx hS0; clear hx)))
  go_wp2_with fail
  go_ret
  exact ⟨rfl, (HK.out.ext ((Below.drew (Ext.refl V9)).trans HX9.out)).dk.bel⟩
end Go.Proofs.YtnlappoocffcpaaGreatDoor
