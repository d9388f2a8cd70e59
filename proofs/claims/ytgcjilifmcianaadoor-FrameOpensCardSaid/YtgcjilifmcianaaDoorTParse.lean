/-
  The contract of the program's Parse.
-/
import Derived.Test.YtgcjilifmcianaaDoorTPrint
namespace Go.Proofs.YtgcjilifmcianaaDoor
open Go Go.RowKit

/-- The tag's cells when k of its numbers are read. -/
def pc (l : List Nat) (k j : Nat) : Value := .int .i64 ((if j < k then pfld l j else 0 : Nat) : Int)
def prow (l : List Nat) (k : Nat) : Array Value := #[pc l k 0, pc l k 1, pc l k 2, pc l k 3, pc l k 4]
theorem prow_step (l : List Nat) {k : Nat} (h : k < 5) : (prow l k).setIfInBounds k (.int .i64 (pfld l k : Nat)) = prow l (k + 1) := by
  have hj' : k = 0 ∨ k = 1 ∨ k = 2 ∨ k = 3 ∨ k = 4 := by omega
  rcases hj' with rfl | rfl | rfl | rfl | rfl <;> simp [prow, pc]
/-- What holds at the loop's head: the answer's block g is blank, the tag's block g + 1 holds k numbers. -/
structure PS (w : World) (l : List Nat) (k : Nat) (w' : World) : Prop where
  blank : w'.heap[w.heap.size]? = some (.cells #[.int .i64 0, .int .i64 0, .int .i64 0, .int .i64 0, .int .i64 0] 23 (0, 0))
  row : w'.heap[w.heap.size + 1]? = some (.cells (prow l k) 23 (0, 0))
  ext : Ext w w'
theorem PS.start (w : World) (l : List Nat) : PS w l 0 ((w.alloc (.cells #[.int .i64 0, .int .i64 0, .int .i64 0, .int .i64 0, .int .i64 0] 23)).alloc (.cells #[.int .i64 0, .int .i64 0, .int .i64 0, .int .i64 0, .int .i64 0] 23)) := by
  refine ⟨?_, heap_alloc2_new w _ _, ((Ext.refl w).alloc _).alloc _⟩
  rw [heap_alloc_old _ _ (by simp)]
  exact heap_alloc_new w _
theorem PS.step {w w' : World} {l : List Nat} {k : Nat} (h : PS w l k w') (hk : k < 5) : PS w l (k + 1) (w'.setCell ⟨w.heap.size + 1, k, none⟩ (.int .i64 (pfld l k : Nat))) := by
  have hs := setCell_eq_setRow w' (w.heap.size + 1) k (prow l k) 23 (0, 0) (.int .i64 (pfld l k : Nat)) h.row
  rw [hs, prow_step l hk]
  exact ⟨(setRow_other w' _ _ _ (by omega)).trans h.blank, setRow_heap w' _ _ _ _ _ h.row, below_setRow h.ext (by omega) _⟩
theorem PS.cell {w w' : World} {l : List Nat} {k : Nat} (h : PS w l k w') (j : Nat) : w'.cell? ⟨w.heap.size + 1, j, none⟩ = (prow l k)[j]? := cell_of_row w' _ j _ _ _ h.row
theorem PS.free {w w' : World} {l : List Nat} {k : Nat} (h : PS w l k w') (j : Nat) : w'.frozen? ⟨w.heap.size + 1, j, none⟩ = false := frozen_of_row w' _ j _ _ h.row

theorem ptr_index (g k : Nat) (hk : k < 5) (w : World) : (Instr.index 82 (.agg #[.pointer (some ⟨g, 0, none⟩), .pointer (some ⟨g, 1, none⟩), .pointer (some ⟨g, 2, none⟩), .pointer (some ⟨g, 3, none⟩), .pointer (some ⟨g, 4, none⟩)]) (.int .i64 k)).run Tryd.prog w = .ok (.pointer (some ⟨g, k, none⟩)) w := by
  have hj' : k = 0 ∨ k = 1 ∨ k = 2 ∨ k = 3 ∨ k = 4 := by omega
  rcases hj' with rfl | rfl | rfl | rfl | rfl <;> (show _ = _; kernel_rfl)
theorem get_fld {l : List Nat} {k : Nat} (hk : k < 5) (h : pos k + wth k ≤ l.length) : getS l (pos k) (wth k) = (pfld l k, pos (k + 1), 0) := by
  rw [getS_yes (wth_wOk k) (by omega) (by omega) (by omega), pos_step hk]
  rfl
theorem get_no {l : List Nat} {k : Nat} (h : l.length < pos k + wth k) (hp : pos k ≤ l.length) : getS l (pos k) (wth k) = (0, 0, 10) := getS_short (wth_wOk k) (by omega) (by omega) (by omega)
theorem five_cells {w : World} {g : Nat} {x0 x1 x2 x3 x4 : Value} (h : w.heap[g]? = some (.cells #[x0, x1, x2, x3, x4] 23 (0, 0))) :
    (w.cell? ⟨g, 0, none⟩ = some x0 ∧ w.cell? ⟨g, 1, none⟩ = some x1 ∧ w.cell? ⟨g, 2, none⟩ = some x2 ∧ w.cell? ⟨g, 3, none⟩ = some x3 ∧ w.cell? ⟨g, 4, none⟩ = some x4) ∧
      (w.frozen? ⟨g, 0, none⟩ = false ∧ w.frozen? ⟨g, 1, none⟩ = false ∧ w.frozen? ⟨g, 2, none⟩ = false ∧ w.frozen? ⟨g, 3, none⟩ = false ∧ w.frozen? ⟨g, 4, none⟩ = false) :=
  ⟨⟨cell_of_row w g 0 _ _ _ h, cell_of_row w g 1 _ _ _ h, cell_of_row w g 2 _ _ _ h, cell_of_row w g 3 _ _ _ h, cell_of_row w g 4 _ _ _ h⟩,
    ⟨frozen_of_row w g 0 _ _ h, frozen_of_row w g 1 _ _ h, frozen_of_row w g 2 _ _ h, frozen_of_row w g 3 _ _ h, frozen_of_row w g 4 _ _ h⟩⟩
theorem five_ext {w w' : World} (h : Ext w w') {g : Nat} (hg : w.heap.size ≤ g) (x0 x1 x2 x3 x4 : Value) :
    Ext w (((((w'.setCell ⟨g, 0, none⟩ x0).setCell ⟨g, 1, none⟩ x1).setCell ⟨g, 2, none⟩ x2).setCell ⟨g, 3, none⟩ x3).setCell ⟨g, 4, none⟩ x4) :=
  ((((h.setCell (p := ⟨g, 0, none⟩) hg _).setCell (p := ⟨g, 1, none⟩) hg _).setCell (p := ⟨g, 2, none⟩) hg _).setCell (p := ⟨g, 3, none⟩) hg _).setCell (p := ⟨g, 4, none⟩) hg _

set_option maxRecDepth 100000 in
set_option maxHeartbeats 3200000 in
theorem parse_any (A : Option Addr) (n cp : Nat) (l : List Nat) (w : World) (hL : LaidA w) (hb : By w A n cp l) (hn : n ≤ 9000000000000000000) :
    Calls Tryd.prog 46 #[.slice A n cp] w fun r w' => r = .returned (.tuple #[.agg #[.int .i64 (pf l 0), .int .i64 (pf l 1), .int .i64 (pf l 2), .int .i64 (pf l 3), .int .i64 (pf l 4)], .int .i64 (pe l)]) ∧ Ext w w' := by
  have HS := Lib.hid (PS.start w l)
  have HL := Lib.hid hL
  have HB := Lib.hid hb
  clear hL hb
  go_enter Tryd.func46, Tryd.ntmps46
  go_wp2_with fail
  go_loopw [5, 17] (fun p i wr => ∃ k : Nat, k ≤ 5 ∧ i = .int .i64 k ∧ p = .int .i64 (pos k) ∧ pos k ≤ n ∧ Hid (PS w l k wr)) (fun _ i _ => 5 - (intOf i).toNat)
  case atStart => exact ⟨0, Nat.zero_le _, rfl, rfl, Nat.zero_le _, HS⟩
  case round =>
    obtain ⟨k, hk, rfl, rfl, hp, HP⟩ := hrel
    by_cases hlt : k < 5
    · have hW := (HL.out.ext HP.out.ext).w k hlt
      have hI := ptr_index (w.heap.size + 1) k hlt
      have hwl := wth_le k
      by_cases hsh : n < pos k + wth k
      · have HG := Lib.hid (get_no (l := l) (k := k) (by rw [HB.out.len]; exact hsh) (by rw [HB.out.len]; exact hp))
        have hp15 := pos_le (k + 1)
        rw [pos_step hlt] at hp15
        have HV := Lib.hid (PV_len (l := l) (by rw [HB.out.len]; omega))
        clear hp15
        go_wp2_with fail
        refine (oget_any A l n cp _ _ _ _ (HL.out.ext HP.out.ext).o HB.out.len (HB.out.ext HP.out.ext).rd hn).mono ?_
        rw [HG.out]
        rintro r w2 ⟨rfl, rfl⟩
        obtain ⟨⟨c0, c1, c2, c3, c4⟩, f0, f1, f2, f3, f4⟩ := five_cells HP.out.blank
        go_wp2_with fail
        refine bodyPost_ret (v := .tuple #[.agg #[.int .i64 0, .int .i64 0, .int .i64 0, .int .i64 0, .int .i64 0], .int .i64 30]) ?_ rfl ⟨?_, ?_⟩
        · simp [results, Tryd.results46, go_sem, c0, c1, c2, c3, c4]
        · rw [pf_no HV.out, pf_no HV.out, pf_no HV.out, pf_no HV.out, pf_no HV.out, pe_no HV.out]; rfl
        · exact five_ext HP.out.ext (Nat.le_refl _) _ _ _ _ _
      · have HG := Lib.hid (get_fld (l := l) hlt (by rw [HB.out.len]; omega))
        have c := HP.out.cell k
        obtain ⟨v, hv⟩ : ∃ v, (prow l k)[k]? = some v := ⟨_, Array.getElem?_eq_getElem (by simpa [prow] using hlt)⟩
        rw [hv] at c
        have f := HP.out.free k
        have HPS := Lib.hid (HP.out.step hlt)
        have hle : pos (k + 1) ≤ n := by rw [pos_step hlt]; omega
        clear hv
        go_wp2_with fail
        refine (oget_any A l n cp _ _ _ _ (HL.out.ext HP.out.ext).o HB.out.len (HB.out.ext HP.out.ext).rd hn).mono ?_
        rw [HG.out]
        rintro r w2 ⟨rfl, rfl⟩
        go_wp2_with fail
        go_roundw
        case rel => exact ⟨k + 1, by omega, by go_num, rfl, hle, HPS⟩
        case measure => simp [intOf]; omega
    · have hk5 : k = 5 := by omega
      subst hk5
      have hle : 15 ≤ n := hp
      obtain ⟨⟨c0, c1, c2, c3, c4⟩, f0, f1, f2, f3, f4⟩ := five_cells HP.out.blank
      have hrow : wr.heap[w.heap.size + 1]? = some (.cells #[.int .i64 (pfld l 0), .int .i64 (pfld l 1), .int .i64 (pfld l 2), .int .i64 (pfld l 3), .int .i64 (pfld l 4)] 23 (0, 0)) := HP.out.row
      have HR := Lib.hid hrow
      rw [show pos 5 = 15 from rfl]
      obtain ⟨⟨d0, d1, d2, d3, d4⟩, _⟩ := five_cells hrow
      clear hrow
      by_cases h15 : n = 15
      · subst h15
        have hlt0 : w.heap.size < wr.heap.size := (Array.getElem?_eq_some_iff.1 HP.out.blank).1
        have hlt1 : w.heap.size + 1 < wr.heap.size := (Array.getElem?_eq_some_iff.1 HR.out).1
        by_cases hm : mayB (pfld l 0) (pfld l 1) (pfld l 2) (pfld l 3) (pfld l 4) = true
        · have HV := Lib.hid (PV_both HB.out.len hm)
          have HM := Lib.hid hm
          clear hm
          go_wp2_with fail
          refine (may_any _ _ _ _ _ _ (HL.out.ext HP.out.ext).t).mono ?_
          rw [HM.out]
          rintro r w2 ⟨rfl, hx⟩
          have hb2 := (hx.block _ hlt0).trans HP.out.blank
          have hr2 := (hx.block _ hlt1).trans HR.out
          have HE := Lib.hid (HP.out.ext.trans hx)
          clear c0 c1 c2 c3 c4 f0 f1 f2 f3 f4 d0 d1 d2 d3 d4 hx hlt0 hlt1
          obtain ⟨⟨c0, c1, c2, c3, c4⟩, f0, f1, f2, f3, f4⟩ := five_cells hb2
          obtain ⟨⟨d0, d1, d2, d3, d4⟩, _⟩ := five_cells hr2
          clear hb2 hr2
          go_wp2_with fail
          refine bodyPost_ret (v := .tuple #[.agg #[.int .i64 (pfld l 0), .int .i64 (pfld l 1), .int .i64 (pfld l 2), .int .i64 (pfld l 3), .int .i64 (pfld l 4)], .int .i64 0]) ?_ rfl ⟨?_, ?_⟩
          · simp [results, Tryd.results46, go_sem, c0, c1, c2, c3, c4]
          · rw [pf_yes HV.out, pf_yes HV.out, pf_yes HV.out, pf_yes HV.out, pf_yes HV.out, pe_yes HV.out]
          · exact five_ext HE.out (Nat.le_refl _) _ _ _ _ _
        · have hm' : mayB (pfld l 0) (pfld l 1) (pfld l 2) (pfld l 3) (pfld l 4) = false := by simpa using hm
          have HV := Lib.hid (PV_may hm')
          have HM := Lib.hid hm'
          clear hm hm'
          go_wp2_with fail
          refine (may_any _ _ _ _ _ _ (HL.out.ext HP.out.ext).t).mono ?_
          rw [HM.out]
          rintro r w2 ⟨rfl, hx⟩
          have hb2 := (hx.block _ hlt0).trans HP.out.blank
          have HE := Lib.hid (HP.out.ext.trans hx)
          clear c0 c1 c2 c3 c4 f0 f1 f2 f3 f4 d0 d1 d2 d3 d4 hx hlt0 hlt1
          obtain ⟨⟨c0, c1, c2, c3, c4⟩, f0, f1, f2, f3, f4⟩ := five_cells hb2
          clear hb2
          go_wp2_with fail
          refine bodyPost_ret (v := .tuple #[.agg #[.int .i64 0, .int .i64 0, .int .i64 0, .int .i64 0, .int .i64 0], .int .i64 30]) ?_ rfl ⟨?_, ?_⟩
          · simp [results, Tryd.results46, go_sem, c0, c1, c2, c3, c4]
          · rw [pf_no HV.out, pf_no HV.out, pf_no HV.out, pf_no HV.out, pf_no HV.out, pe_no HV.out]; rfl
          · exact five_ext HE.out (Nat.le_refl _) _ _ _ _ _
      · have HV := Lib.hid (PV_len (l := l) (by rw [HB.out.len]; exact h15))
        have hne : ((15 : Int) != (n : Int)) = true := by rw [bne_iff_ne]; omega
        go_wp2_with fail
        refine bodyPost_ret (v := .tuple #[.agg #[.int .i64 0, .int .i64 0, .int .i64 0, .int .i64 0, .int .i64 0], .int .i64 30]) ?_ rfl ⟨?_, ?_⟩
        · simp [results, Tryd.results46, go_sem, c0, c1, c2, c3, c4]
        · rw [pf_no HV.out, pf_no HV.out, pf_no HV.out, pf_no HV.out, pf_no HV.out, pe_no HV.out]; rfl
        · exact five_ext HP.out.ext (Nat.le_refl _) _ _ _ _ _
end Go.Proofs.YtgcjilifmcianaaDoor
