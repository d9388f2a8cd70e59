/-
  The contract of the frame statements' own first look at the chapter's examples: it answers true and writes nothing that was there.
  The contract of the document's own Parse.
-/
import Derived.Test.YtlikhmhomkiadaaGreatDoorR09
import Derived.Test.YtlikhmhomkiadaaGreatDoorR11
import Derived.Test.YtlikhmhomkiadaaGreatDoorR12
import Derived.Test.YtlikhmhomkiadaaGreatDoorR20
import Derived.Deep.RegionHeld3
namespace Go.Proofs.YtlikhmhomkiadaaGreatDoor
set_option maxRecDepth 100000
open Go Go.RowKit

/-- The chapter's frame: what is asked of it. -/
def exF : List Nat := sealL 1 4 47 258 3 [7] 2
theorem exF_len : exF.length = 128 := by decide +kernel
theorem exF_e : sealE 1 4 47 258 3 1 2 = 0 := by decide
theorem exF_head : exF.take 18 = [1, 0, 1, 4, 47, 2, 1, 0, 0, 0, 0, 3, 0, 0, 0, 0, 0, 7] := by decide +kernel
theorem exF_pad : (exF.drop 18).take 106 = List.replicate 106 0 := by decide +kernel
theorem exF_good : goodB exF = true := by decide +kernel
theorem exF_index : ofl exF 3 = 258 := by decide +kernel
theorem exF_body : obl exF = [7] := by decide +kernel

theorem u8_size (w : World) : (sizeOf (Tryz.prog.elem 34)).run Tryz.prog w = .ok 1 w := by
  have ht : Tryz.prog.elem 34 = 5 := by kernel_rfl
  obtain ⟨i0, hi, _, hz1, _⟩ := info_parts byte_info
  rw [ht]
  simp [Go.sizeOf, typeInfo, hi, hz1]
theorem cut_to (A : Option Addr) (n cp h : Nat) (hh : h ≤ cp) (w : World) : (Instr.slice 34 (.slice A n cp) none (some (.int .i64 (h : Int))) none).run Tryz.prog w = .ok (.slice A h cp) w := by
  have ht : Tryz.prog.elem 34 = 5 := by kernel_rfl
  rw [run_slice_h w 34 A n cp (by rw [ht]; exact Tryz.underlying34) .i64 (h : Int) (by omega) (by omega), u8_size]
  simp only [Result.andThen, sliced, Int.toNat_natCast, Nat.sub_zero]
  cases A with
  | none => simp
  | some a => simp [Addr.add]
theorem cut_mid (g o n cp l h : Nat) (hl : l < cp) (hlh : l ≤ h) (hh : h ≤ cp) (w : World) : (Instr.slice 34 (.slice (some ⟨g, o, none⟩) n cp) (some (.int .i64 (l : Int))) (some (.int .i64 (h : Int))) none).run Tryz.prog w = .ok (.slice (some ⟨g, o + l, none⟩) (h - l) (cp - l)) w := by
  have ht : Tryz.prog.elem 34 = 5 := by kernel_rfl
  rw [run_slice_lh w 34 (some ⟨g, o, none⟩) n cp (by rw [ht]; exact Tryz.underlying34) .i64 .i64 (l : Int) (h : Int) (by omega) (by omega) (by omega), u8_size]
  simp only [Result.andThen, sliced, Int.toNat_natCast, Nat.mul_one]
  rw [if_neg (by omega)]
  simp [Addr.add]

/-- A new row of zero bytes. -/
def zrow (k : Nat) : Obj := .cells (madeCells #[.int .u8 0] k) 5
theorem mk_zeros (k : Nat) (hk : k ≤ 1000) (w : World) : (Instr.makeSlice 34 (.int .i64 (k : Int)) (.int .i64 (k : Int))).run Tryz.prog w = .ok (.slice (some ⟨w.heap.size, 0, none⟩) k k) (w.alloc (zrow k)) := by
  obtain ⟨i0, hi, hz0, hz1, hz2⟩ := info_parts byte_info
  rw [run_make w 34 5 i0 (.int .u8 0) Tryz.underlying34 hi hz0 .i64 .i64 (k : Int) (k : Int) (by omega) (Int.le_refl _) (by rw [hz2]; omega) (by omega), hz1, Int.toNat_natCast, Nat.mul_one]
  rfl
theorem By.zrow (w : World) (k : Nat) (hk : k ≤ 1000) : By (w.alloc (zrow k)) (some ⟨w.heap.size, 0, none⟩) k k (List.replicate k 0) := by
  refine By.of_row (heap_alloc_new w (.cells (madeCells #[.int .u8 0] k) 5)) (fun j x hx => ?_) (by intro b hb; rw [(List.mem_replicate.1 hb).2]; omega) (by simp) (Nat.le_refl _) (by omega)
  have e : (madeCells #[Value.int .u8 0] k).toList = List.replicate k (Value.int .u8 0) := toList_madeCells_one _ _
  rw [← Array.getElem?_toList, e]
  rw [List.getElem?_replicate] at hx ⊢
  split at hx
  · rename_i hj
    injection hx with hx
    subst hx
    rw [if_pos hj]
    rfl
  · cases hx

theorem By.zrow2 (w : World) (o : Obj) (k : Nat) (hk : k ≤ 1000) : By ((w.alloc o).alloc (Go.Proofs.YtlikhmhomkiadaaGreatDoor.zrow k)) (some ⟨w.heap.size + 1, 0, none⟩) k k (List.replicate k 0) := by
  rw [show w.heap.size + 1 = (w.alloc o).heap.size from by simp]
  exact By.zrow _ k hk

end Go.Proofs.YtlikhmhomkiadaaGreatDoor

namespace Go.Proofs.YtlikhmhomkiadaaGreatDoor
set_option maxRecDepth 100000
open Go Go.RowKit

theorem num_one (x : Nat) : num [x] = x := by simp [num]
theorem pfld_byte {l : List Nat} {k x : Nat} (hk : k < 3) (h : l[k]? = some x) : pfld l k = x := by
  have hj : k = 0 ∨ k = 1 ∨ k = 2 := by omega
  have hp : pos k = k ∧ wth k = 1 := by rcases hj with rfl | rfl | rfl <;> exact ⟨rfl, rfl⟩
  have hl : k < l.length := (List.getElem?_eq_some_iff.1 h).1
  unfold pfld
  rw [hp.1, hp.2, List.drop_eq_getElem_cons hl, List.take_succ_cons, List.take_zero, num_one]
  rw [List.getElem?_eq_getElem hl] at h
  exact Option.some.inj h

set_option maxRecDepth 100000 in
set_option maxHeartbeats 3200000 in
theorem rparse_any (A : Option Addr) (n cp : Nat) (l : List Nat) (w : World) (hb : By w A n cp l) (hn : n ≤ 9000000000000000000) :
    Calls Tryz.prog 140 #[.slice A n cp] w fun r w' => r = .returned (.tuple #[.agg #[.int .i64 (pf l 0), .int .i64 (pf l 1), .int .i64 (pf l 2), .int .i64 (pf l 3), .int .i64 (pf l 4)], .int .i64 (pe l)]) ∧ Ext w w' := by
  have hE := (Ext.refl w).alloc (.cells #[.int .i64 0, .int .i64 0, .int .i64 0, .int .i64 0, .int .i64 0] 33)
  have hz : (w.alloc (.cells #[.int .i64 0, .int .i64 0, .int .i64 0, .int .i64 0, .int .i64 0] 33)).heap[w.heap.size]? = some (.cells #[.int .i64 0, .int .i64 0, .int .i64 0, .int .i64 0, .int .i64 0] 33 (0, 0)) := heap_alloc_new w _
  have HB := Lib.hid (hb.ext hE)
  have HE := Lib.hid hE
  have HZ := Lib.hid hz
  by_cases h15 : n = 15
  · subst h15
    have HG3 := Lib.hid (get_fld (l := l) (k := 3) (by omega) (by rw [hb.len]; decide))
    have HG4 := Lib.hid (get_fld (l := l) (k := 4) (by omega) (by rw [hb.len]; decide))
    obtain ⟨g, o, x0, hA, hg, h0, hx0, c0⟩ := HB.out.rd.at_ (k := 0) (by rw [HB.out.len]; omega)
    subst hA
    obtain ⟨g', o', x1, hA, _, h1, hx1, c1⟩ := HB.out.rd.at_ (k := 1) (by rw [HB.out.len]; omega)
    injection hA with hA; injection hA with hA1 hA2; subst hA1; subst hA2
    obtain ⟨g', o', x2, hA, _, h2, hx2, c2⟩ := HB.out.rd.at_ (k := 2) (by rw [HB.out.len]; omega)
    injection hA with hA; injection hA with hA1 hA2; subst hA1; subst hA2
    have HP0 := Lib.hid (pfld_byte (by omega) h0)
    have HP1 := Lib.hid (pfld_byte (by omega) h1)
    have HP2 := Lib.hid (pfld_byte (by omega) h2)
    have HL := Lib.hid hb.len
    clear hb hE hz h0 h1 h2
    go_enter Tryz.func140, Tryz.ntmps140
    go_wp2_with fail
    refine (rget_any (some ⟨g, o, none⟩) l 15 cp _ 3 6 _ HB.out.len HB.out.rd (by omega)).mono ?_
    rw [show getS l 3 6 = (pfld l 3, 9, 0) from HG3.out]
    rintro r w2 ⟨rfl, rfl⟩
    go_wp2_with fail
    refine (rget_any (some ⟨g, o, none⟩) l 15 cp _ 9 6 _ HB.out.len HB.out.rd (by omega)).mono ?_
    rw [show getS l 9 6 = (pfld l 4, 15, 0) from HG4.out]
    rintro r w2 ⟨rfl, rfl⟩
    go_wp2_with fail
    generalize (w.alloc (.cells #[.int .i64 0, .int .i64 0, .int .i64 0, .int .i64 0, .int .i64 0] 33)) = W at *
    have hne := World.new_ne W _ c0
    rw [Nat.add_zero] at c0
    have e0 : IntKind.i64.wrap (x0 : Int) = (x0 : Int) := IntWalk.i64_in _ (by omega)
    have e1 : IntKind.i64.wrap (x1 : Int) = (x1 : Int) := IntWalk.i64_in _ (by omega)
    have e2 : IntKind.i64.wrap (x2 : Int) = (x2 : Int) := IntWalk.i64_in _ (by omega)
    go_region_held3 (fun w' => w'.cell? ⟨g, o, none⟩ = some (.int .u8 x0) ∧ w'.cell? ⟨g, o + 1, none⟩ = some (.int .u8 x1) ∧ w'.cell? ⟨g, o + 2, none⟩ = some (.int .u8 x2))
      (first | with_reducible exact ⟨c0, c1, c2⟩ | go_keep)
      (first | (go_at_call 0; fail))
    clear e0 e1 e2 c0 c1 c2 hne
    have hx1 : Ext W (W.alloc (.cells #[.int .i64 x0, .int .i64 x1, .int .i64 x2, .int .i64 (pfld l 3), .int .i64 (pfld l 4)] 33)).drew := ((Ext.refl W).alloc _).drew
    have hlt0 : w.heap.size < W.heap.size := (Array.getElem?_eq_some_iff.1 HZ.out).1
    have hz1 := (hx1.block _ hlt0).trans HZ.out
    have hr1 : (W.alloc (.cells #[.int .i64 x0, .int .i64 x1, .int .i64 x2, .int .i64 (pfld l 3), .int .i64 (pfld l 4)] 33)).drew.heap[W.heap.size]? = some (.cells #[.int .i64 x0, .int .i64 x1, .int .i64 x2, .int .i64 (pfld l 3), .int .i64 (pfld l 4)] 33 (0, 0)) := heap_alloc_new W _
    have HZ1 := Lib.hid hz1
    have HR1 := Lib.hid hr1
    have HX1 := Lib.hid (HE.out.trans hx1)
    clear hx1 hlt0 hz1 hr1
    by_cases hm : mayB (x0 : Int) x1 x2 (pfld l 3) (pfld l 4) = true
    · have HM := Lib.hid hm
      have HV := Lib.hid (PV_both HL.out (by rw [HP0.out, HP1.out, HP2.out]; exact hm))
      clear hm
      go_wp2_with fail
      refine (rmay_any _ _ _ _ _ _).mono ?_
      rw [HM.out]
      rintro r w3 ⟨rfl, hx⟩
      have hb2 := (hx.block _ (Array.getElem?_eq_some_iff.1 HZ1.out).1).trans HZ1.out
      have hr2 := (hx.block _ (Array.getElem?_eq_some_iff.1 HR1.out).1).trans HR1.out
      have HE := Lib.hid (HX1.out.trans hx)
      clear hx
      obtain ⟨⟨c0, c1, c2, c3, c4⟩, f0, f1, f2, f3, f4⟩ := five_cells hb2
      obtain ⟨⟨d0, d1, d2, d3, d4⟩, _⟩ := five_cells hr2
      clear hb2 hr2
      go_wp2_with fail
      refine bodyPost_ret (v := .tuple #[.agg #[.int .i64 x0, .int .i64 x1, .int .i64 x2, .int .i64 (pfld l 3), .int .i64 (pfld l 4)], .int .i64 0]) ?_ rfl ⟨?_, ?_⟩
      · simp [results, Tryz.results140, go_sem, c0, c1, c2, c3, c4]
      · rw [pf_yes HV.out, pf_yes HV.out, pf_yes HV.out, pf_yes HV.out, pf_yes HV.out, pe_yes HV.out, HP0.out, HP1.out, HP2.out]
      · exact five_ext HE.out (Nat.le_refl _) _ _ _ _ _
    · have hm' : mayB (x0 : Int) x1 x2 (pfld l 3) (pfld l 4) = false := by simpa using hm
      have HM := Lib.hid hm'
      have HV := Lib.hid (PV_may (l := l) (by rw [HP0.out, HP1.out, HP2.out]; exact hm'))
      clear hm hm'
      go_wp2_with fail
      refine (rmay_any _ _ _ _ _ _).mono ?_
      rw [HM.out]
      rintro r w3 ⟨rfl, hx⟩
      have hb2 := (hx.block _ (Array.getElem?_eq_some_iff.1 HZ1.out).1).trans HZ1.out
      have HE := Lib.hid (HX1.out.trans hx)
      clear hx
      obtain ⟨⟨c0, c1, c2, c3, c4⟩, f0, f1, f2, f3, f4⟩ := five_cells hb2
      clear hb2
      go_wp2_with fail
      refine bodyPost_ret (v := .tuple #[.agg #[.int .i64 0, .int .i64 0, .int .i64 0, .int .i64 0, .int .i64 0], .int .i64 30]) ?_ rfl ⟨?_, ?_⟩
      · simp [results, Tryz.results140, go_sem, c0, c1, c2, c3, c4]
      · rw [pf_no HV.out, pf_no HV.out, pf_no HV.out, pf_no HV.out, pf_no HV.out, pe_no HV.out]; rfl
      · exact five_ext HE.out (Nat.le_refl _) _ _ _ _ _
  · have HV := Lib.hid (PV_len (l := l) (by rw [hb.len]; exact h15))
    have hne : ((n : Int) != (15 : Int)) = true := by rw [bne_iff_ne]; omega
    obtain ⟨⟨c0, c1, c2, c3, c4⟩, f0, f1, f2, f3, f4⟩ := five_cells hz
    clear hb hE hz h15
    go_enter Tryz.func140, Tryz.ntmps140
    go_wp2_with fail
    refine bodyPost_ret (v := .tuple #[.agg #[.int .i64 0, .int .i64 0, .int .i64 0, .int .i64 0, .int .i64 0], .int .i64 30]) ?_ rfl ⟨?_, ?_⟩
    · simp [results, Tryz.results140, go_sem, c0, c1, c2, c3, c4]
    · rw [pf_no HV.out, pf_no HV.out, pf_no HV.out, pf_no HV.out, pf_no HV.out, pe_no HV.out]; rfl
    · exact HE.out
end Go.Proofs.YtlikhmhomkiadaaGreatDoor
