/-
  An entry stored into a block that holds one: what the block then holds, and what stays.
-/
import Derived.Test.YtinflpheogglhaaK00
import Derived.Test.YtinflpheogglhaaK01
import Derived.Test.YtinflpheogglhaaK02
import Derived.Deep.DeepCutAuto
import Derived.Test.YtinflpheogglhaaProg
import Derived.WalkKit
import Derived.WalkSpells
import Derived.BigQuiet
import Derived.OwnWalk
import Derived.Laws.AppendOwnNone
import Derived.Lib.Hide
import Derived.Laws.BitsAllLaws
import Derived.RangeFuncNested
import Derived.RangeFuncBound
import Derived.RangeFuncCalls
import Derived.RangeFuncLeaves
import Derived.RangeFuncBox
import Derived.Maps.AppendAt
import Derived.Shelf.Abstract
import Derived.Shelf.RegionOpen
import Derived.OwnWalkIn
import Derived.TacticsInMore
import Derived.LoopNIn
import Derived.LoopIn
namespace Go.Proofs.Ytinflpheogglhaa
set_option maxRecDepth 100000
section
open Go Go.RowKit
abbrev S7 (w : World) (b : Nat) (e : Ent) : World := ((((((w.setCell ⟨b, 0, none⟩ (.int .u8 (e.k : Int))).setCell ⟨b, 1, none⟩ (.int .i64 e.cl)).setCell ⟨b, 2, none⟩ (.int .i64 e.sq)).setCell ⟨b, 3, none⟩ (.int .u8 (e.ok : Int))).setCell ⟨b, 4, none⟩ (.string e.key)).setCell ⟨b, 5, none⟩ (.string e.old)).setCell ⟨b, 6, none⟩ (.string e.val)
theorem S7.row {w : World} {b : Nat} {v0 v1 v2 v3 v4 v5 v6 : Value} {t : TypeId} (e : Ent) (h : w.heap[b]? = some (.cells #[v0, v1, v2, v3, v4, v5, v6] t (0, 0))) : (S7 w b e).heap[b]? = some (.cells #[.int .u8 (e.k : Int), .int .i64 e.cl, .int .i64 e.sq, .int .u8 (e.ok : Int), .string e.key, .string e.old, .string e.val] t (0, 0)) := by
  have h1 : (w.setCell ⟨b, 0, none⟩ (.int .u8 (e.k : Int))).heap[b]? = some (.cells #[.int .u8 (e.k : Int), v1, v2, v3, v4, v5, v6] t (0, 0)) := row_setB 0 h _ rfl
  unfold S7
  generalize w.setCell ⟨b, 0, none⟩ (.int .u8 (e.k : Int)) = w1 at h1 ⊢
  have h2 : (w1.setCell ⟨b, 1, none⟩ (.int .i64 e.cl)).heap[b]? = some (.cells #[.int .u8 (e.k : Int), .int .i64 e.cl, v2, v3, v4, v5, v6] t (0, 0)) := row_setB 1 h1 _ rfl
  generalize w1.setCell ⟨b, 1, none⟩ (.int .i64 e.cl) = w2 at h2 ⊢
  have h3 : (w2.setCell ⟨b, 2, none⟩ (.int .i64 e.sq)).heap[b]? = some (.cells #[.int .u8 (e.k : Int), .int .i64 e.cl, .int .i64 e.sq, v3, v4, v5, v6] t (0, 0)) := row_setB 2 h2 _ rfl
  generalize w2.setCell ⟨b, 2, none⟩ (.int .i64 e.sq) = w3 at h3 ⊢
  have h4 : (w3.setCell ⟨b, 3, none⟩ (.int .u8 (e.ok : Int))).heap[b]? = some (.cells #[.int .u8 (e.k : Int), .int .i64 e.cl, .int .i64 e.sq, .int .u8 (e.ok : Int), v4, v5, v6] t (0, 0)) := row_setB 3 h3 _ rfl
  generalize w3.setCell ⟨b, 3, none⟩ (.int .u8 (e.ok : Int)) = w4 at h4 ⊢
  have h5 : (w4.setCell ⟨b, 4, none⟩ (.string e.key)).heap[b]? = some (.cells #[.int .u8 (e.k : Int), .int .i64 e.cl, .int .i64 e.sq, .int .u8 (e.ok : Int), .string e.key, v5, v6] t (0, 0)) := row_setB 4 h4 _ rfl
  generalize w4.setCell ⟨b, 4, none⟩ (.string e.key) = w5 at h5 ⊢
  have h6 : (w5.setCell ⟨b, 5, none⟩ (.string e.old)).heap[b]? = some (.cells #[.int .u8 (e.k : Int), .int .i64 e.cl, .int .i64 e.sq, .int .u8 (e.ok : Int), .string e.key, .string e.old, v6] t (0, 0)) := row_setB 5 h5 _ rfl
  generalize w5.setCell ⟨b, 5, none⟩ (.string e.old) = w6 at h6 ⊢
  have h7 : (w6.setCell ⟨b, 6, none⟩ (.string e.val)).heap[b]? = some (.cells #[.int .u8 (e.k : Int), .int .i64 e.cl, .int .i64 e.sq, .int .u8 (e.ok : Int), .string e.key, .string e.old, .string e.val] t (0, 0)) := row_setB 6 h6 _ rfl
  exact h7
theorem S7.mod (w : World) (b : Nat) (e : Ent) : Mod (fun k => k = b) w (S7 w b e) := by
  refine Mod.setCell (F := fun k => k = b) (Mod.setCell (F := fun k => k = b) (Mod.setCell (F := fun k => k = b) (Mod.setCell (F := fun k => k = b) (Mod.setCell (F := fun k => k = b) (Mod.setCell (F := fun k => k = b) (Mod.setCell (F := fun k => k = b) (Mod.refl (fun k => k = b) w) (.inl rfl) _) (.inl rfl) _) (.inl rfl) _) (.inl rfl) _) (.inl rfl) _) (.inl rfl) _) (.inl rfl) _
theorem S7.off {w : World} {b b' : Nat} {o : Obj} (e : Ent) (hb : b' ≠ b) (h : w.heap[b']? = some o) : (S7 w b e).heap[b']? = some o := heap_mod h (S7.mod w b e) hb
theorem S7.ext {w0 w : World} {b : Nat} (e : Ent) (h : Ext w0 w) (hb : w0.heap.size ≤ b) : Ext w0 (S7 w b e) :=
  ((((((h.setCell (p := ⟨b, 0, none⟩) hb _).setCell (p := ⟨b, 1, none⟩) hb _).setCell (p := ⟨b, 2, none⟩) hb _).setCell (p := ⟨b, 3, none⟩) hb _).setCell (p := ⟨b, 4, none⟩) hb _).setCell (p := ⟨b, 5, none⟩) hb _).setCell (p := ⟨b, 6, none⟩) hb _
theorem ent_row {w : World} {b : Nat} {v0 v1 v2 v3 v4 v5 v6 : Value} {t : TypeId} (h : w.heap[b]? = some (.cells #[v0, v1, v2, v3, v4, v5, v6] t (0, 0))) :
    (w.cell? ⟨b, 0, none⟩ = some v0 ∧ w.cell? ⟨b, 1, none⟩ = some v1 ∧ w.cell? ⟨b, 2, none⟩ = some v2 ∧ w.cell? ⟨b, 3, none⟩ = some v3 ∧ w.cell? ⟨b, 4, none⟩ = some v4 ∧ w.cell? ⟨b, 5, none⟩ = some v5 ∧ w.cell? ⟨b, 6, none⟩ = some v6) ∧ w.frozen? ⟨b, 0, none⟩ = false ∧ w.frozen? ⟨b, 1, none⟩ = false ∧ w.frozen? ⟨b, 2, none⟩ = false ∧ w.frozen? ⟨b, 3, none⟩ = false ∧ w.frozen? ⟨b, 4, none⟩ = false ∧ w.frozen? ⟨b, 5, none⟩ = false ∧ w.frozen? ⟨b, 6, none⟩ = false :=
  ⟨⟨cell_of_row w b 0 _ _ _ h, cell_of_row w b 1 _ _ _ h, cell_of_row w b 2 _ _ _ h, cell_of_row w b 3 _ _ _ h, cell_of_row w b 4 _ _ _ h, cell_of_row w b 5 _ _ _ h, cell_of_row w b 6 _ _ _ h⟩, frozen_of_row w b 0 _ _ h, frozen_of_row w b 1 _ _ h, frozen_of_row w b 2 _ _ h, frozen_of_row w b 3 _ _ h, frozen_of_row w b 4 _ _ h, frozen_of_row w b 5 _ _ h, frozen_of_row w b 6 _ _ h⟩
end
section
open Go Go.RowKit
theorem bal_eql (x y x' y' : Int) (w : World) : (binOp .eql 40 (.agg #[.int .i64 x, .int .i64 y]) (.agg #[.int .i64 x', .int .i64 y'])).run Try.prog w = .ok (.bool (decide (x = x' ∧ y = y'))) w := by
  have hf : Try.prog.stoodInHeld 40 = false := by kernel_rfl
  have hu := Try.underlying40
  rw [run_eql_struct, run_equalIn_agg _ _ _ _ _ (by rw [Program.fieldsOf, hu]) hf, Program.fieldsOf, hu]
  simp [Op.eqFields, go_sem]
  by_cases h1 : x = x'
  · by_cases h2 : y = y'
    · simp [h1, h2]
    · simp [h1, h2]
  · simp [h1]
theorem bal_neq (x y x' y' : Int) (w : World) : (binOp .neq 40 (.agg #[.int .i64 x, .int .i64 y]) (.agg #[.int .i64 x', .int .i64 y'])).run Try.prog w = .ok (.bool (!decide (x = x' ∧ y = y'))) w := by
  have hf : Try.prog.stoodInHeld 40 = false := by kernel_rfl
  have hu := Try.underlying40
  rw [run_neq_struct, run_equalIn_agg _ _ _ _ _ (by rw [Program.fieldsOf, hu]) hf, Program.fieldsOf, hu]
  simp [Op.eqFields, go_sem]
  by_cases h1 : x = x'
  · by_cases h2 : y = y'
    · simp [h1, h2]
    · simp [h1, h2]
  · simp [h1]
end
section
open Go Go.RowKit
abbrev eA (e : Ent) : Value := .agg #[.int .u8 (e.k : Int), .int .i64 e.cl, .int .i64 e.sq, .int .u8 (e.ok : Int), .string e.key, .string e.old, .string e.val]
theorem split_atR {L : List Rpt} {j : Nat} {r : Rpt} (h : L[j]? = some r) : L = L.take j ++ r :: L.drop (j + 1) := by
  obtain ⟨hj, e⟩ := List.getElem?_eq_some_iff.1 h
  rw [← e, ← List.drop_eq_getElem_cons hj, List.take_append_drop]
theorem maxR_ge {L : List Rpt} {g : Bal} (hg : maxB (L.map Rpt.b) = g) : ∀ x ∈ L, ltB g x.b = false := fun x hx => by
  rw [← hg]
  exact maxB_ge (List.mem_map.2 ⟨x, hx, rfl⟩)
theorem maxR_mem {L : List Rpt} {g : Bal} (hg : maxB (L.map Rpt.b) = g) (hL : L ≠ []) : ∃ x ∈ L, x.b = g := by
  have := maxB_mem (l := L.map Rpt.b) (by simpa using hL)
  rw [hg] at this
  exact List.mem_map.1 this
theorem count_splitR (L : List Rpt) (p : Rpt → Bool) : L.countP p + (L.filter fun r => !p r).length = L.length := by
  induction L with
  | nil => rfl
  | cons a L ih =>
    rw [List.countP_cons, List.filter_cons, List.length_cons]
    cases p a <;> simp <;> omega
set_option maxHeartbeats 3000000 in
theorem descend_of (A : Option Addr) (n c : Nat) (l : List Rpt) (lim : Nat) (w : World) (h : Ls rptC 11 w w.heap.size A n c l) (hn : n ≤ 20) (hlim : lim ≤ 100) :
    Calls Try.prog 22 #[.slice A n c, .int .i64 (lim : Int)] w fun e w' => e = .returned (.tuple #[.int .u8 ((ansR lim (l.countP unkR) (l.filter hasR)).1 : Int), eA (ansR lim (l.countP unkR) (l.filter hasR)).2]) ∧ Ext w w' := by
  obtain ⟨R, hR⟩ : ∃ R, ansR lim (l.countP unkR) (l.filter hasR) = R := ⟨_, rfl⟩
  obtain ⟨i0, hi, hz0, hz1, hz2⟩ := info_parts report_info
  obtain ⟨W0, hW0⟩ : ∃ W0, (w.alloc (.cells #[.int .u8 0, .int .i64 0, .int .i64 0, .int .u8 0, .string ⟨#[]⟩, .string ⟨#[]⟩, .string ⟨#[]⟩] 27)).alloc (.cells #[.int .u8 0, .int .i64 0, .int .i64 0, .int .u8 0, .string ⟨#[]⟩, .string ⟨#[]⟩, .string ⟨#[]⟩] 27) = W0 := ⟨_, rfl⟩
  have hE : Ext w W0 := by rw [← hW0]; exact ((Ext.refl w).alloc _).alloc _
  have hr0 : W0.heap[w.heap.size]? = some (.cells #[.int .u8 0, .int .i64 0, .int .i64 0, .int .u8 0, .string ⟨#[]⟩, .string ⟨#[]⟩, .string ⟨#[]⟩] 27 (0, 0)) := by
    rw [← hW0]
    exact (((Ext.refl _).alloc _).block _ (by simp)).trans (heap_alloc_new w _)
  have hr1 : W0.heap[w.heap.size + 1]? = some (.cells #[.int .u8 0, .int .i64 0, .int .i64 0, .int .u8 0, .string ⟨#[]⟩, .string ⟨#[]⟩, .string ⟨#[]⟩] 27 (0, 0)) := by
    have e : (w.alloc (.cells #[.int .u8 0, .int .i64 0, .int .i64 0, .int .u8 0, .string ⟨#[]⟩, .string ⟨#[]⟩, .string ⟨#[]⟩] 27)).heap.size = w.heap.size + 1 := by simp
    rw [← hW0, ← e]
    exact heap_alloc_new _ _
  have hl0 := (h.below hE).moreB hE.size
  have hC1 := only_of (.inl rfl) cunk_of A n c l W0 hl0 hn
  have hcn : (l.filter unkR).length = l.countP unkR := (List.countP_eq_length_filter).symm
  have hlen := h.len
  have HL := Lib.hid hl0
  have HC1 := Lib.hid hC1
  have HE := Lib.hid (And.intro hE (And.intro hr0 hr1))
  have HR := Lib.hid hR
  have HCN := Lib.hid hcn
  have HLN := Lib.hid hlen
  have HW0 := Lib.hid hW0
  rw [hR]
  clear hW0 h hE hr0 hr1 hl0 hC1 hcn hlen hR
  go_enter Try.func22, Try.ntmps22
  go_upto_region 1 with (fail)
  go_step3
  go_upto_region 2 with (fail)
  rw [HW0.out]
  obtain ⟨b, hb⟩ : ∃ b, w.heap.size = b := ⟨_, rfl⟩
  rw [hb] at HE ⊢
  have HB := Lib.hid hb
  clear hb HW0
  go_wp2_with fail
  refine HC1.out.mono ?_
  rintro _ w1 ⟨v1, rfl, ho1, hx1⟩
  obtain ⟨A1, c1, rfl, _⟩ := Ls.of_own (cells := rptC) (fun _ => rfl) (by omega) ho1
  have HL1 := Lib.hid ((HL.out.below hx1).moreB hx1.size)
  have HE1 := Lib.hid (And.intro (HE.out.1.trans hx1) (And.intro (keep_rowB hx1 HE.out.2.1) (keep_rowB hx1 HE.out.2.2)))
  have hkk : (l.filter unkR).length ≤ 20 := Nat.le_trans (List.length_filter_le _ _) (by have := HLN.out; omega)
  rw [HCN.out] at hkk ⊢
  clear ho1 hx1
  go_wp2_with fail
  refine (only_of (.inr rfl) chas_of _ _ _ _ _ HL1.out hn).mono ?_
  rintro _ w2 ⟨v2, rfl, ho2, hx2⟩
  obtain ⟨A2, c2, rfl, hl2⟩ := Ls.of_own (cells := rptC) (fun _ => rfl) (by omega) ho2
  have HE2 := Lib.hid (And.intro (HE1.out.1.trans hx2) (And.intro (keep_rowB hx2 HE1.out.2.1) (keep_rowB hx2 HE1.out.2.2)))
  have HL2 := Lib.hid hl2
  have hln : (l.filter hasR).length ≤ 20 := Nat.le_trans (List.length_filter_le _ _) (by have := HLN.out; omega)
  have HST : Hid (∀ x ∈ l.filter hasR, x.st = 2 ∨ x.st = 3) := Lib.hid fun x hx => hasR_iff.1 (List.mem_filter.1 hx).2
  obtain ⟨L0, hL0⟩ : ∃ L0, l.filter hasR = L0 := ⟨_, rfl⟩
  obtain ⟨k0, hk0⟩ : ∃ k0, l.countP unkR = k0 := ⟨_, rfl⟩
  rw [hL0] at HR HL2 HST hln ⊢
  rw [hk0] at HR hkk ⊢
  clear ho2 hx2 hl2 hL0 hk0 HC1 HE HE1 HL HL1 HCN
  go_wp2_with fail
  go_step3
  go_wp2_with fail
  go_loopw [6, 8, 9] (fun q m v wr => ∃ (k : Nat) (L : List Rpt) (A : Option Addr) (c : Nat), q = .int .u8 0 ∧ m = .int .i64 (k : Int) ∧ v = .slice A L.length c ∧ L.length ≤ 20 ∧ k + L.length ≤ 40 ∧ Hid (Ls rptC 11 wr wr.heap.size A L.length c L ∧ ansR lim k L = R ∧ ∀ x ∈ L, x.st = 2 ∨ x.st = 3) ∧ Hid (Ext w wr ∧ wr.heap[b]? = some (.cells #[.int .u8 0, .int .i64 0, .int .i64 0, .int .u8 0, .string ⟨#[]⟩, .string ⟨#[]⟩, .string ⟨#[]⟩] 27 (0, 0)) ∧ wr.heap[b + 1]? = some (.cells #[.int .u8 0, .int .i64 0, .int .i64 0, .int .u8 0, .string ⟨#[]⟩, .string ⟨#[]⟩, .string ⟨#[]⟩] 27 (0, 0)))) (fun _ _ v _ => lenOf v)
  case atStart => exact ⟨k0, L0, A2, c2, rfl, rfl, rfl, hln, by omega, Lib.hid ⟨HL2.out, HR.out, HST.out⟩, HE2⟩
  case round =>
    obtain ⟨k, L, A, c, rfl, rfl, rfl, hll, hkl, HLL, HG⟩ := hrel
    by_cases hlt : k < lim
    · by_cases hL : L.length = 0
      · have HA : Hid (ansR lim k L = (1, noopE)) := Lib.hid (by rw [List.eq_nil_of_length_eq_zero hL]; exact ansR_nil hlt)
        obtain ⟨_, e0, e1, e2, e3, e4, e5, e6⟩ := ent_row HG.out.2.2
        rw [hL]
        clear hL
        go_upto_region 18 with (fail)
        change Code.wp _ _ _ _ (S7 wr (b + 1) noopE)
        have HV : Hid (Ext w (S7 wr (b + 1) noopE) ∧ (S7 wr (b + 1) noopE).heap[b]? = some (.cells #[.int .u8 0, .int .i64 0, .int .i64 0, .int .u8 0, .string ⟨#[]⟩, .string ⟨#[]⟩, .string ⟨#[]⟩] 27 (0, 0)) ∧ (S7 wr (b + 1) noopE).heap[b + 1]? = some (.cells #[.int .u8 (noopE.k : Int), .int .i64 noopE.cl, .int .i64 noopE.sq, .int .u8 (noopE.ok : Int), .string noopE.key, .string noopE.old, .string noopE.val] 27 (0, 0))) :=
          Lib.hid ⟨S7.ext noopE HG.out.1 (by rw [HB.out]; omega), S7.off noopE (by omega) HG.out.2.1, S7.row noopE HG.out.2.2⟩
        generalize (S7 wr (b + 1) noopE) = V7 at *
        clear e0 e1 e2 e3 e4 e5 e6
        obtain ⟨⟨d0, d1, d2, d3, d4, d5, d6⟩, e0, e1, e2, e3, e4, e5, e6⟩ := ent_row HV.out.2.1
        obtain ⟨⟨f0, f1, f2, f3, f4, f5, f6⟩, _⟩ := ent_row HV.out.2.2
        go_wp2_with fail
        go_region
        change Exit.then _ _ _ _ ((S7 V7 b (noopE : Ent)).drew)
        have hrw := keep_rowB ((Ext.refl (S7 V7 b (noopE : Ent))).drew) (S7.row noopE HV.out.2.1)
        have hxw : Ext w ((S7 V7 b (noopE : Ent)).drew) := (S7.ext noopE HV.out.1 (by rw [HB.out]; exact Nat.le_refl _)).drew
        generalize (S7 V7 b (noopE : Ent)).drew = V9 at hrw hxw ⊢
        clear d0 d1 d2 d3 d4 d5 d6 e0 e1 e2 e3 e4 e5 e6 f0 f1 f2 f3 f4 f5 f6
        have HRW := Lib.hid hrw
        have HXW := Lib.hid hxw
        clear hrw hxw
        go_wp2_with fail
        try rw [Exit.noGoto_ret]
        obtain ⟨⟨d0, d1, d2, d3, d4, d5, d6⟩, _⟩ := ent_row HRW.out
        refine bodyPost_ret (v := .tuple #[.int .u8 1, eA noopE]) (by simp [results, Try.results22, go_sem, d0, d1, d2, d3, d4, d5, d6]) rfl ?_
        refine ⟨?_, HXW.out⟩
        rw [← HLL.out.2.1, HA.out]
        rfl
      · have hL1 : ((L.length : Int) == 0) = false := by simpa using hL
        have HLN0 : Hid (L ≠ []) := Lib.hid fun e => hL (by rw [e]; rfl)
        have hcp := HLL.out.1.cap
        have HGC := Lib.hid (greatest_of A L.length c L wr HLL.out.1 hll)
        obtain ⟨G, hGG⟩ : ∃ G, maxB (L.map Rpt.b) = G := ⟨_, rfl⟩
        obtain ⟨gx, gy⟩ := G
        rw [hGG] at HGC
        have HVL : Hid (∀ (j : Nat) (r : Rpt), L[j]? = some r → r.st = 2 → r.b = ⟨gx, gy⟩ → (∀ x ∈ L.take j, x.b = ⟨gx, gy⟩ → x.st ≠ 2) → ansR lim k L = (2, r.e)) := Lib.hid fun j r hj hr hrb h1 => by
          have hs := split_atR hj
          rw [hs]
          refine ansR_value hlt hr (fun x hx => ?_) fun x hx hxe => h1 x hx (hxe.trans hrb)
          rw [← hs] at hx
          rw [hrb]
          exact maxR_ge hGG x hx
        have HNX : Hid ((∀ x ∈ L, x.b = ⟨gx, gy⟩ → x.st ≠ 2) → ansR lim (k + L.countP fun r => eqB r.b ⟨gx, gy⟩) (L.filter fun r => !eqB r.b ⟨gx, gy⟩) = R) := Lib.hid fun h1 => by
          rw [← ansR_next hlt HLL.out.2.2 (maxR_ge hGG) h1 (maxR_mem hGG HLN0.out)]
          exact HLL.out.2.1
        have HCT := Lib.hid (count_splitR L fun r => eqB r.b ⟨gx, gy⟩)
        have HPOS : Hid (0 < L.countP fun r => eqB r.b ⟨gx, gy⟩) := Lib.hid (by
          obtain ⟨x, hx, hxe⟩ := maxR_mem hGG HLN0.out
          exact List.countP_pos_iff.2 ⟨x, hx, eqB_iff.2 hxe⟩)
        clear hGG hL
        go_wp2_with fail
        refine HGC.out.mono ?_
        rintro _ w3 ⟨rfl, hx3⟩
        have hls3 := (HLL.out.1.below hx3).moreB hx3.size
        have HZ3 := Lib.hid (And.intro (HG.out.1.trans hx3) (And.intro (keep_rowB hx3 HG.out.2.1) (keep_rowB hx3 HG.out.2.2)))
        have HL3 := Lib.hid hls3
        clear hls3 hx3 HGC
        go_upto_region 7 with (fail)
        have hg4 := heap_alloc_new w3 (.cells #[.int .i64 gx, .int .i64 gy] 40)
        have hx4 := (Ext.refl w3).alloc (.cells #[.int .i64 gx, .int .i64 gy] 40)
        generalize (w3.alloc (.cells #[.int .i64 gx, .int .i64 gy] 40)) = W4 at *
        have HZ := Lib.hid (And.intro (HZ3.out.1.trans hx4) (And.intro (keep_rowB hx4 HZ3.out.2.1) (keep_rowB hx4 HZ3.out.2.2)))
        have HLS := Lib.hid ((HL3.out.below hx4).moreB hx4.size)
        have HGR := Lib.hid hg4
        generalize w3.heap.size = gb at *
        clear hg4 hx4 HL3 HZ3
        go_wp2_with fail
        go_loopw [6, 8, 11, 31] (fun q m v' i wr => ∃ (j : Nat) (v : Value), v = v' ∧ j ≤ L.length ∧ q = .int .u8 0 ∧ i = .int .i64 (j : Int) ∧ m = .int .i64 ((k + (L.take j).countP (fun r => eqB r.b ⟨gx, gy⟩) : Nat) : Int) ∧ Hid (wr.ownsRow W4.heap.size 54 11 v ((L.take j).filter fun r => !eqB r.b ⟨gx, gy⟩).length (((L.take j).filter fun r => !eqB r.b ⟨gx, gy⟩).flatMap rptC) ∧ Ext W4 wr ∧ ∀ x ∈ L.take j, x.b = ⟨gx, gy⟩ → x.st ≠ 2)) (fun _ _ _ i _ => L.length - (intOf i).toNat)
        case atStart => exact ⟨0, _, rfl, Nat.zero_le _, rfl, rfl, by simp, Lib.hid ⟨World.ownsRow_nil _ _ _ _, Ext.refl _, fun x hx => by simp at hx⟩⟩
        case round =>
          obtain ⟨j, v, rfl, hj, rfl, rfl, rfl, HI⟩ := hrel
          by_cases hlt2 : j < L.length
          · obtain ⟨g, o, r, rfl, hgs, hb, hrc⟩ := Ls.rpt (HLS.out.below HI.out.2.1) hlt2
            obtain ⟨ix, st, rx, ry, e⟩ := r
            have HBR := Lib.hid hb
            have HTK := Lib.hid (take_oneR hb)
            have hml : ((L.take j).filter fun r => !eqB r.b ⟨gx, gy⟩).length ≤ 20 := Nat.le_trans (List.length_filter_le _ _) (by rw [List.length_take]; omega)
            have hct : (L.take j).countP (fun r => eqB r.b ⟨gx, gy⟩) ≤ 20 := Nat.le_trans List.countP_le_length (by rw [List.length_take]; omega)
            obtain ⟨c0, c1, c2, c3, c4, c5, c6, c7, c8, c9, c10⟩ := hrc
            dsimp only at c0 c1 c2 c3 c4 c5 c6 c7 c8 c9 c10
            clear hb
            go_upto_region 12 with (fail)
            clear c0 c1 c2 c3 c4 c5 c6 c7 c8 c9 c10
            have hq2 : (wr.alloc (.cells #[.int .i64 ix, .int .u8 (st : Int), .int .i64 rx, .int .i64 ry, .int .u8 (e.k : Int), .int .i64 e.cl, .int .i64 e.sq, .int .u8 (e.ok : Int), .string e.key, .string e.old, .string e.val] 54)).heap[wr.heap.size]? = some (.cells (rptC ⟨ix, st, rx, ry, e⟩).toArray 54 (0, 0)) := heap_alloc_new wr _
            have hx2 := (Ext.refl wr).alloc (.cells #[.int .i64 ix, .int .u8 (st : Int), .int .i64 rx, .int .i64 ry, .int .u8 (e.k : Int), .int .i64 e.cl, .int .i64 e.sq, .int .u8 (e.ok : Int), .string e.key, .string e.old, .string e.val] 54)
            generalize (wr.alloc (.cells #[.int .i64 ix, .int .u8 (st : Int), .int .i64 rx, .int .i64 ry, .int .u8 (e.k : Int), .int .i64 e.cl, .int .i64 e.sq, .int .u8 (e.ok : Int), .string e.key, .string e.old, .string e.val] 54)) = V at *
            have HI2 := Lib.hid (And.intro (ownsRow_extL HI.out.1 hx2) (And.intro (HI.out.2.1.trans hx2) HI.out.2.2))
            have HG2 := Lib.hid (keep_rowB HI2.out.2.1 HGR.out)
            have hsz := HI2.out.2.1.size
            obtain ⟨c0, c1, c2, c3, c4, c5, c6, c7, c8, c9, c10⟩ := RC0.of hq2
            dsimp only at c0 c1 c2 c3 c4 c5 c6 c7 c8 c9 c10
            obtain ⟨g0, g1, _⟩ := bal_row HG2.out
            generalize wr.heap.size = bb at *
            clear hx2 hq2
            have hneq := fun V => bal_neq rx ry gx gy V
            obtain ⟨q, hq⟩ : ∃ q, eqB (⟨rx, ry⟩ : Bal) ⟨gx, gy⟩ = q := ⟨_, rfl⟩
            have hq' : decide (rx = gx ∧ ry = gy) = q := hq
            rw [hq'] at hneq
            have HQ := Lib.hid hq
            clear hq hq'
            cases q with
            | false =>
              try dsimp only [Bool.not_false] at hneq
              go_wp2_with (at_builtin; revert c0)
              intro c0
              refine wpList_append_own _ rfl _ _ 22 rfl W4.heap.size 54 i0 (.agg #[.int .i64 0, .int .u8 0, .int .i64 0, .int .i64 0, .int .u8 0, .int .i64 0, .int .i64 0, .int .u8 0, .string ByteArray.empty, .string ByteArray.empty, .string ByteArray.empty]) 11 112 Try.underlying22 hi hz0 hz1 hz2 ?_ ?_ _ _ _ ?_ (ownsRow_extL HI2.out.1 ((Ext.refl V).alloc _)) ⟨V.heap.size, 0, none⟩ 1 1 (rptC ⟨ix, st, rx, ry, e⟩) ?_ ?_ ?_ ?_ ?_ ?_ ?_ ?_
              case refine_1 => rfl
              case refine_2 => decide
              case refine_3 => rfl
              case refine_4 => rfl
              case refine_5 => rfl
              case refine_6 => exact cells_newR _ _ _
              case refine_7 => exact rptC_one _
              case refine_8 => unfold maxLen; omega
              case refine_9 => omega
              case refine_10 => (simp; omega)
              intro v1 w5 hown hg _
              have HI3 : Hid (w5.ownsRow W4.heap.size 54 11 v1 ((L.take (j + 1)).filter fun r => !eqB r.b ⟨gx, gy⟩).length (((L.take (j + 1)).filter fun r => !eqB r.b ⟨gx, gy⟩).flatMap rptC) ∧ Ext W4 w5 ∧ ∀ x ∈ L.take (j + 1), x.b = ⟨gx, gy⟩ → x.st ≠ 2) := by
                refine Lib.hid ⟨?_, Below.grown (HI2.out.2.1.alloc _) hg (Nat.le_trans HI2.out.2.1.size (by simp)) (fun g hg' => (HI2.out.1.lt g hg').1), ?_⟩
                · rw [HTK.out, List.filter_append, List.filter_cons_of_pos (by show (!eqB (⟨rx, ry⟩ : Bal) ⟨gx, gy⟩) = true; rw [HQ.out]; rfl), List.filter_nil, List.length_append, List.flatMap_append, List.flatMap_cons, List.flatMap_nil, List.append_nil]
                  exact hown
                · intro x hx
                  rw [HTK.out, List.mem_append, List.mem_singleton] at hx
                  rcases hx with hx | rfl
                  · exact HI2.out.2.2 x hx
                  · intro hxe
                    have : eqB (⟨rx, ry⟩ : Bal) ⟨gx, gy⟩ = true := eqB_iff.2 hxe
                    rw [HQ.out] at this
                    cases this
              clear hown hg c0 c1 c2 c3 c4 c5 c6 c7 c8 c9 c10 hneq g0 g1
              go_wp2_with fail
              go_roundw
              case rel =>
                refine ⟨j + 1, _, rfl, by omega, rfl, by go_num, ?_, HI3⟩
                rw [HTK.out, List.countP_append, List.countP_cons, List.countP_nil]
                have : eqB (Rpt.b ⟨ix, st, rx, ry, e⟩) ⟨gx, gy⟩ = false := HQ.out
                rw [this]
                simp
              case measure => simp [intOf]; omega
            | true =>
              try dsimp only [Bool.not_true] at hneq
              have hbe : (⟨rx, ry⟩ : Bal) = ⟨gx, gy⟩ := eqB_iff.1 HQ.out
              have HBE := Lib.hid hbe
              clear hbe
              by_cases hs2 : st = 2
              · subst hs2
                have hv9 := keep_rowB HI2.out.2.1 HZ.out.2.2
                have hv8 := keep_rowB HI2.out.2.1 HZ.out.2.1
                obtain ⟨_, e0, e1, e2, e3, e4, e5, e6⟩ := ent_row hv9
                have HV8 := Lib.hid (And.intro hv8 hv9)
                clear hv8 hv9
                go_wp2_with fail
                go_region
                change Exit.then _ _ _ _ ((S7 V (b + 1) e).drew)
                have HV : Hid (Ext w ((S7 V (b + 1) e).drew) ∧ ((S7 V (b + 1) e).drew).heap[b]? = some (.cells #[.int .u8 0, .int .i64 0, .int .i64 0, .int .u8 0, .string ⟨#[]⟩, .string ⟨#[]⟩, .string ⟨#[]⟩] 27 (0, 0)) ∧ ((S7 V (b + 1) e).drew).heap[b + 1]? = some (.cells #[.int .u8 (e.k : Int), .int .i64 e.cl, .int .i64 e.sq, .int .u8 (e.ok : Int), .string e.key, .string e.old, .string e.val] 27 (0, 0))) :=
                  Lib.hid ⟨(S7.ext e (HZ.out.1.trans HI2.out.2.1) (by rw [HB.out]; omega)).drew, keep_rowB ((Ext.refl _).drew) (S7.off e (by omega) HV8.out.1), keep_rowB ((Ext.refl _).drew) (S7.row e HV8.out.2)⟩
                generalize ((S7 V (b + 1) e).drew) = V7 at *
                clear e0 e1 e2 e3 e4 e5 e6 c0 c1 c2 c3 c4 c5 c6 c7 c8 c9 c10 hneq g0 g1
                obtain ⟨⟨d0, d1, d2, d3, d4, d5, d6⟩, e0, e1, e2, e3, e4, e5, e6⟩ := ent_row HV.out.2.1
                obtain ⟨⟨f0, f1, f2, f3, f4, f5, f6⟩, _⟩ := ent_row HV.out.2.2
                go_wp2_with fail
                go_region
                change Exit.then _ _ _ _ ((S7 V7 b (e : Ent)).drew)
                have hrw := keep_rowB ((Ext.refl (S7 V7 b (e : Ent))).drew) (S7.row e HV.out.2.1)
                have hxw : Ext w ((S7 V7 b (e : Ent)).drew) := (S7.ext e HV.out.1 (by rw [HB.out]; exact Nat.le_refl _)).drew
                generalize (S7 V7 b (e : Ent)).drew = V9 at hrw hxw ⊢
                clear d0 d1 d2 d3 d4 d5 d6 e0 e1 e2 e3 e4 e5 e6 f0 f1 f2 f3 f4 f5 f6
                have HRW := Lib.hid hrw
                have HXW := Lib.hid hxw
                clear hrw hxw
                go_wp2_with fail
                try rw [Exit.noGoto_ret]
                obtain ⟨⟨d0, d1, d2, d3, d4, d5, d6⟩, _⟩ := ent_row HRW.out
                refine bodyPost_ret (v := .tuple #[.int .u8 2, eA e]) (by simp [results, Try.results22, go_sem, d0, d1, d2, d3, d4, d5, d6]) rfl ?_
                refine ⟨?_, HXW.out⟩
                rw [← HLL.out.2.1, HVL.out j ⟨ix, 2, rx, ry, e⟩ HBR.out rfl HBE.out HI2.out.2.2]
                rfl
              · have hd : ((st : Int) == 2) = false := by rw [st_is2]; exact decide_eq_false hs2
                have HS2 := Lib.hid hs2
                clear hs2
                have HI3 : Hid (V.ownsRow W4.heap.size 54 11 v ((L.take (j + 1)).filter fun r => !eqB r.b ⟨gx, gy⟩).length (((L.take (j + 1)).filter fun r => !eqB r.b ⟨gx, gy⟩).flatMap rptC) ∧ Ext W4 V ∧ ∀ x ∈ L.take (j + 1), x.b = ⟨gx, gy⟩ → x.st ≠ 2) := by
                  refine Lib.hid ⟨?_, HI2.out.2.1, ?_⟩
                  · rw [HTK.out, List.filter_append, List.filter_cons_of_neg (by show ¬ (!eqB (⟨rx, ry⟩ : Bal) ⟨gx, gy⟩) = true; rw [HQ.out]; decide), List.filter_nil, List.append_nil]
                    exact HI2.out.1
                  · intro x hx
                    rw [HTK.out, List.mem_append, List.mem_singleton] at hx
                    rcases hx with hx | rfl
                    · exact HI2.out.2.2 x hx
                    · exact fun _ => HS2.out
                go_wp2_with fail
                go_roundw
                case rel =>
                  refine ⟨j + 1, _, rfl, by omega, rfl, by go_num, ?_, HI3⟩
                  rw [HTK.out, List.countP_append, List.countP_cons, List.countP_nil]
                  have : eqB (Rpt.b ⟨ix, st, rx, ry, e⟩) ⟨gx, gy⟩ = true := HQ.out
                  rw [this]
                  go_num
                case measure => simp [intOf]; omega
          · obtain rfl : j = L.length := by omega
            rw [List.take_length] at HI
            obtain ⟨A5, c5, hv5, hl5⟩ := Ls.of_own (cells := rptC) (fun _ => rfl) (by omega) HI.out.1
            have HL5 := Lib.hid hl5
            have HN := Lib.hid (HNX.out HI.out.2.2)
            have HZ5 := Lib.hid (And.intro (HZ.out.1.trans HI.out.2.1) (And.intro (keep_rowB HI.out.2.1 HZ.out.2.1) (keep_rowB HI.out.2.1 HZ.out.2.2)))
            have hct : L.countP (fun r => eqB r.b ⟨gx, gy⟩) + (L.filter fun r => !eqB r.b ⟨gx, gy⟩).length = L.length := HCT.out
            have hpos : 0 < L.countP (fun r => eqB r.b ⟨gx, gy⟩) := HPOS.out
            rw [List.take_length]
            obtain ⟨K5, hK5⟩ : ∃ K5, L.countP (fun r => eqB r.b ⟨gx, gy⟩) = K5 := ⟨_, rfl⟩
            obtain ⟨M5, hM5⟩ : ∃ M5, (L.filter fun r => !eqB r.b ⟨gx, gy⟩) = M5 := ⟨_, rfl⟩
            have HST5 : Hid (∀ x ∈ M5, x.st = 2 ∨ x.st = 3) := Lib.hid fun x hx => HLL.out.2.2 x (by rw [← hM5] at hx; exact (List.mem_filter.1 hx).1)
            rw [hM5] at hv5 HL5 hct HN
            rw [hK5] at hct hpos HN ⊢
            subst hv5
            clear hl5 hK5 hM5
            go_wp2_with fail
            go_roundw
            case rel => exact ⟨k + K5, M5, A5, c5, rfl, by go_num, rfl, by omega, by omega, Lib.hid ⟨HL5.out, HN.out, HST5.out⟩, HZ5⟩
            case measure => simp [lenOf]; omega
    · have HA := Lib.hid (ansR_many (l := L) hlt)
      have HV := HG
      obtain ⟨⟨d0, d1, d2, d3, d4, d5, d6⟩, e0, e1, e2, e3, e4, e5, e6⟩ := ent_row HV.out.2.1
      obtain ⟨⟨f0, f1, f2, f3, f4, f5, f6⟩, _⟩ := ent_row HV.out.2.2
      go_wp2_with fail
      go_region
      change Exit.then _ _ _ _ ((S7 wr b ({} : Ent)).drew)
      have hrw := keep_rowB ((Ext.refl (S7 wr b ({} : Ent))).drew) (S7.row {} HV.out.2.1)
      have hxw : Ext w ((S7 wr b ({} : Ent)).drew) := (S7.ext {} HV.out.1 (by rw [HB.out]; exact Nat.le_refl _)).drew
      generalize (S7 wr b ({} : Ent)).drew = V9 at hrw hxw ⊢
      clear d0 d1 d2 d3 d4 d5 d6 e0 e1 e2 e3 e4 e5 e6 f0 f1 f2 f3 f4 f5 f6
      have HRW := Lib.hid hrw
      have HXW := Lib.hid hxw
      clear hrw hxw
      go_wp2_with fail
      try rw [Exit.noGoto_ret]
      obtain ⟨⟨d0, d1, d2, d3, d4, d5, d6⟩, _⟩ := ent_row HRW.out
      refine bodyPost_ret (v := .tuple #[.int .u8 0, eA {}]) (by simp [results, Try.results22, go_sem, d0, d1, d2, d3, d4, d5, d6]) rfl ?_
      refine ⟨?_, HXW.out⟩
      rw [← HLL.out.2.1, HA.out]
      rfl
end
section
open Go Go.RowKit
set_option maxHeartbeats 600000 in
theorem rless_of (x y x' y' : Int) (w : World) : Calls Try.prog 28 #[.agg #[.int .i64 x, .int .i64 y], .agg #[.int .i64 x', .int .i64 y']] w fun e w' => e = .returned (.bool (ltB ⟨x, y⟩ ⟨x', y'⟩)) ∧ Ext w w' := by
  obtain ⟨r, hr⟩ : ∃ r, ltB ⟨x, y⟩ ⟨x', y'⟩ = r := ⟨_, rfl⟩
  rw [hr]
  have HX := Lib.hid (((Ext.refl w).alloc (.cells #[.int .i64 x, .int .i64 y] 40)).alloc (.cells #[.int .i64 x', .int .i64 y'] 40))
  have fin : ∀ b : Bool, ltB ⟨x, y⟩ ⟨x', y'⟩ = b → Ending.returned (Value.bool b) = .returned (.bool r) := fun b h => by rw [← h, hr]
  have FIN := Lib.hid fin
  clear fin hr
  by_cases h2 : x = x'
  · have e2 : (x != x') = false := by simpa using h2
    have HD : Hid (ltB ⟨x, y⟩ ⟨x', y'⟩ = decide (y < y')) := Lib.hid (by
      rw [Bool.eq_iff_iff, ltB_iff, decide_eq_true_iff]
      dsimp only
      omega)
    clear h2
    go_enter Try.func28, Try.ntmps28
    go_wp2
    go_ret
    exact ⟨FIN.out _ HD.out, HX.out⟩
  · have e2 : (x != x') = true := by simpa using h2
    have HD : Hid (ltB ⟨x, y⟩ ⟨x', y'⟩ = decide (x < x')) := Lib.hid (by
      rw [Bool.eq_iff_iff, ltB_iff, decide_eq_true_iff]
      dsimp only
      omega)
    clear h2
    go_enter Try.func28, Try.ntmps28
    go_wp2
    go_ret
    exact ⟨FIN.out _ HD.out, HX.out⟩
set_option maxHeartbeats 400000 in
theorem rcrowd_of (n : Int) (w : World) : Calls Try.prog 24 #[.int .i64 n] w fun e w' => e = .returned (.bool (crowdB n)) ∧ w = w' := by
  by_cases h3 : n = 3
  · subst h3
    go_enter Try.func24, Try.ntmps24
    go_wp2
    go_ret
    exact ⟨rfl, rfl⟩
  by_cases h5 : n = 5
  · subst h5
    go_enter Try.func24, Try.ntmps24
    go_wp2
    go_ret
    exact ⟨rfl, rfl⟩
  by_cases h7 : n = 7
  · subst h7
    go_enter Try.func24, Try.ntmps24
    go_wp2
    go_ret
    exact ⟨rfl, rfl⟩
  have hc : crowdB n = false := decide_eq_false (by omega)
  rw [hc]
  have e3 : (n == 3) = false := by simpa using h3
  have e5 : (n == 5) = false := by simpa using h5
  have e7 : (n == 7) = false := by simpa using h7
  clear h3 h5 h7 hc
  go_enter Try.func24, Try.ntmps24
  go_wp2
  go_ret
  exact ⟨rfl, rfl⟩
end
section
open Go Go.RowKit
def mostQ (n : Int) : Nat := if n = 3 then 2 else if n = 5 then 3 else if n = 7 then 4 else 0
theorem mostQ_cases {n : Int} (h : mostQ n ≠ 0) : n = 3 ∨ n = 5 ∨ n = 7 := by
  unfold mostQ at h
  split at h
  · left; assumption
  · split at h
    · right; left; assumption
    · split at h
      · right; right; assumption
      · exact absurd rfl h
end
section
open Go Go.RowKit
theorem most_of (n : Int) (w : World) : Calls Try.prog 18 #[.int .i64 n] w fun e w' => e = .returned (.int .i64 (mostQ n : Int)) ∧ w = w' := by
  by_cases h3 : n = 3
  · subst h3
    go_enter Try.func18, Try.ntmps18
    go_wp2_with fail
    go_ret
    exact ⟨rfl, rfl⟩
  by_cases h5 : n = 5
  · subst h5
    go_enter Try.func18, Try.ntmps18
    go_wp2_with fail
    go_ret
    exact ⟨rfl, rfl⟩
  by_cases h7 : n = 7
  · subst h7
    go_enter Try.func18, Try.ntmps18
    go_wp2_with fail
    go_ret
    exact ⟨rfl, rfl⟩
  have HM := Lib.hid (show mostQ n = 0 by unfold mostQ; rw [if_neg h3, if_neg h5, if_neg h7])
  have e3 : (n == 3) = false := by simpa using h3
  have e5 : (n == 5) = false := by simpa using h5
  have e7 : (n == 7) = false := by simpa using h7
  clear h3 h5 h7
  go_enter Try.func18, Try.ntmps18
  go_wp2_with fail
  go_ret
  exact ⟨by rw [HM.out]; rfl, rfl⟩
end
section
open Go Go.RowKit Go.Shelf
attribute [local go_sem] Oper.semAt_some
end
section
open Go Go.RowKit Go.Shelf
attribute [local go_sem] Oper.semAt_some
end
section
open Go Go.RowKit
set_option maxHeartbeats 600000 in
theorem rmost_of (n : Int) (w : World) : Calls Try.prog 25 #[.int .i64 n] w fun e w' => e = .returned (.int .i64 (mostQ n : Int)) ∧ w = w' := by
  by_cases hm : mostQ n = 0
  · have h3 : (n == 3) = false := by simp; rintro rfl; cases hm
    have h5 : (n == 5) = false := by simp; rintro rfl; cases hm
    have h7 : (n == 7) = false := by simp; rintro rfl; cases hm
    have n3 : (n != 3) = true := by simp at h3 ⊢; exact h3
    have n5 : (n != 5) = true := by simp at h5 ⊢; exact h5
    have n7 : (n != 7) = true := by simp at h7 ⊢; exact h7
    have HM := Lib.hid hm
    clear hm
    go_enter Try.func25, Try.ntmps25
    go_wp2_with fail
    go_ret
    exact ⟨by rw [HM.out]; rfl, rfl⟩
  · have hn : n = 2 * (mostQ n : Int) - 1 := by rcases mostQ_cases hm with rfl | rfl | rfl <;> decide
    have hm4 : 2 ≤ mostQ n ∧ mostQ n ≤ 4 := by rcases mostQ_cases hm with rfl | rfl | rfl <;> decide
    have hx : (n != 3) = true ∧ (n != 5) = true ∧ (n != 7) = false ∨ (n != 3) = true ∧ (n != 5) = false ∨ (n != 3) = false := by rcases mostQ_cases hm with rfl | rfl | rfl <;> decide
    generalize mostQ n = m at *
    subst hn
    clear hm
    have main : ∀ (R : Ending → World → Prop), True := fun _ => trivial
    rcases hx with ⟨h3, h5, h7⟩ | ⟨h3, h5⟩ | h3
    all_goals
      go_enter Try.func25, Try.ntmps25
      go_wp2_with fail
      go_loopw [3] (fun v wr => ∃ k : Nat, k ≤ m ∧ v = .int .i64 (k : Int) ∧ wr = w) (fun v _ => m - (intOf v).toNat)
      case atStart => exact ⟨0, by omega, rfl, rfl⟩
      case round =>
        obtain ⟨k, hk, rfl, rfl⟩ := hrel
        by_cases hlt : k < m
        · have h1 : 2 * (k : Int) ≤ 2 * (m : Int) - 1 := by omega
          go_wp2_with fail
          go_roundw
          case rel => exact ⟨k + 1, by omega, by go_num, trivial⟩
          case measure => simp [intOf]; omega
        · obtain rfl : k = m := by omega
          have h1 : 2 * (k : Int) - 1 < 2 * (k : Int) := by omega
          go_wp2_with fail
          go_ret
          exact ⟨rfl, rfl⟩
end
end Go.Proofs.Ytinflpheogglhaa
