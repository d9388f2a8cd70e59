/-
  The contract of meta's Parse.
-/
import Derived.Test.YtlikhmhomkiadaaDoorUPrint
namespace Go.Proofs.YtlikhmhomkiadaaDoor
open Go Go.RowKit

/-- The metadata's cells when k of their numbers are read. -/
def ucell (l : List Nat) (k j : Nat) : Value := .int .i64 ((if j < k then uNum l j else 0 : Nat) : Int)
def urow (l : List Nat) (k : Nat) : Array Value := #[ucell l k 0, ucell l k 1, ucell l k 2]
theorem urow_step (l : List Nat) {k : Nat} (h : k < 3) : (urow l k).setIfInBounds k (.int .i64 (uNum l k : Nat)) = urow l (k + 1) := by
  have hj' : k = 0 ∨ k = 1 ∨ k = 2 := by omega
  rcases hj' with rfl | rfl | rfl <;> simp [urow, ucell]
/-- What holds at the loop's head: the answer's block g is blank, the metadata's block g + 1 holds k numbers. -/
structure UPS (w : World) (l : List Nat) (k : Nat) (w' : World) : Prop where
  blank : w'.heap[w.heap.size]? = some (.cells #[.int .i64 0, .int .i64 0, .int .i64 0] 25 (0, 0))
  row : w'.heap[w.heap.size + 1]? = some (.cells (urow l k) 25 (0, 0))
  ext : Ext w w'
theorem UPS.start (w : World) (l : List Nat) : UPS w l 0 ((w.alloc (.cells #[.int .i64 0, .int .i64 0, .int .i64 0] 25)).alloc (.cells #[.int .i64 0, .int .i64 0, .int .i64 0] 25)) := by
  refine ⟨?_, heap_alloc2_new w _ _, ((Ext.refl w).alloc _).alloc _⟩
  rw [heap_alloc_old _ _ (by simp)]
  exact heap_alloc_new w _
theorem UPS.more {w w' w2 : World} {l : List Nat} {k : Nat} (h : UPS w l k w') (hx : Ext w' w2) : UPS w l k w2 :=
  ⟨(hx.block _ (Array.getElem?_eq_some_iff.1 h.blank).1).trans h.blank, (hx.block _ (Array.getElem?_eq_some_iff.1 h.row).1).trans h.row, h.ext.trans hx⟩
theorem UPS.step {w w' : World} {l : List Nat} {k : Nat} (h : UPS w l k w') (hk : k < 3) : UPS w l (k + 1) (w'.setCell ⟨w.heap.size + 1, k, none⟩ (.int .i64 (uNum l k : Nat))) := by
  have hs := setCell_eq_setRow w' (w.heap.size + 1) k (urow l k) 25 (0, 0) (.int .i64 (uNum l k : Nat)) h.row
  rw [hs, urow_step l hk]
  exact ⟨(setRow_other w' _ _ _ (by omega)).trans h.blank, setRow_heap w' _ _ _ _ _ h.row, below_setRow h.ext (by omega) _⟩
theorem UPS.cell {w w' : World} {l : List Nat} {k : Nat} (h : UPS w l k w') (j : Nat) : w'.cell? ⟨w.heap.size + 1, j, none⟩ = (urow l k)[j]? := cell_of_row w' _ j _ _ _ h.row
theorem UPS.free {w w' : World} {l : List Nat} {k : Nat} (h : UPS w l k w') (j : Nat) : w'.frozen? ⟨w.heap.size + 1, j, none⟩ = false := frozen_of_row w' _ j _ _ h.row
theorem get_num {l : List Nat} {k : Nat} (hk : k < 3) (h : uPos k + uW k ≤ l.length) : getS l (uPos k) (uW k) = (uNum l k, uPos (k + 1), 0) := by
  rw [getS_yes (uW_ok k) (by omega) (by omega) (by omega), uPos_step hk]
  rfl
theorem get_short {l : List Nat} {k : Nat} (h : l.length < uPos k + uW k) (hp : uPos k ≤ l.length) : getS l (uPos k) (uW k) = (0, 0, 10) := getS_short (uW_ok k) (by omega) (by omega) (by omega)

set_option maxRecDepth 100000 in
set_option maxHeartbeats 1600000 in
theorem parseU (A : Option Addr) (n cp : Nat) (l : List Nat) (w : World) (hL : Laid w) (hb : By w A n cp l) (hn : n ≤ 9000000000000000000) :
    Calls Tryd.prog 10 #[.slice A n cp] w fun r w' => r = .returned (.tuple #[.agg #[.int .i64 (uF l 0), .int .i64 (uF l 1), .int .i64 (uF l 2)], .int .i64 (uE l)]) ∧ Ext w w' := by
  have HS := Lib.hid (UPS.start w l)
  have HL := Lib.hid hL
  have HB := Lib.hid hb
  clear hL hb
  go_enter Tryd.func10, Tryd.ntmps10
  go_wp2_with fail
  refine (fieldsU _ _ _ _ _ HS.out.row).mono ?_
  unfold fieldsV
  rintro r w1 ⟨rfl, hx⟩
  have HS := Lib.hid (HS.out.more hx)
  clear hx
  go_wp2_with fail
  go_loopw [5, 12] (fun p i wr => ∃ k : Nat, k ≤ 3 ∧ i = .int .i64 k ∧ p = .int .i64 (uPos k) ∧ uPos k ≤ n ∧ Hid (UPS w l k wr)) (fun _ i _ => 3 - (intOf i).toNat)
  case atStart => exact ⟨0, Nat.zero_le _, rfl, rfl, Nat.zero_le _, HS⟩
  case round =>
    obtain ⟨k, hk, rfl, rfl, hp, HP⟩ := hrel
    by_cases hlt : k < 3
    · have hI := field_index (w.heap.size + 1) k hlt
      have hwl := uW_le k
      have HPA := Lib.hid (HP.out.more ((Ext.refl wr).alloc (.cells #[.pointer (some ⟨w.heap.size + 1, k, none⟩), .int .i64 (uW k)] 60)))
      by_cases hsh : n < uPos k + uW k
      · have HG := Lib.hid (get_short (l := l) (k := k) (by rw [HB.out.len]; exact hsh) (by rw [HB.out.len]; exact hp))
        have hp13 := uPos_le (k + 1)
        rw [uPos_step hlt] at hp13
        have HV := Lib.hid (uV_len (l := l) (by rw [HB.out.len]; omega))
        clear hp13
        go_wp2_with fail
        refine (oget_any A l n cp _ _ _ _ (HL.out.ext HPA.out.ext) HB.out.len (HB.out.ext HPA.out.ext).rd hn).mono ?_
        rw [HG.out]
        rintro r w2 ⟨rfl, rfl⟩
        obtain ⟨⟨c0, c1, c2⟩, f0, f1, f2⟩ := three_cells HPA.out.blank
        go_wp2_with fail
        refine bodyPost_ret (v := .tuple #[.agg #[.int .i64 0, .int .i64 0, .int .i64 0], .int .i64 80]) ?_ rfl ⟨?_, ?_⟩
        · simp [results, Tryd.results10, go_sem, c0, c1, c2]
        · rw [uF_no HV.out, uF_no HV.out, uF_no HV.out, uE_no HV.out]; rfl
        · exact three_ext HPA.out.ext (Nat.le_refl _) _ _ _
      · have HG := Lib.hid (get_num (l := l) hlt (by rw [HB.out.len]; omega))
        have c := HPA.out.cell k
        obtain ⟨v, hv⟩ : ∃ v, (urow l k)[k]? = some v := ⟨_, Array.getElem?_eq_getElem (by simpa [urow] using hlt)⟩
        rw [hv] at c
        have f := HPA.out.free k
        have HPS := Lib.hid (HPA.out.step hlt)
        have hle : uPos (k + 1) ≤ n := by rw [uPos_step hlt]; omega
        clear hv
        go_wp2_with fail
        refine (oget_any A l n cp _ _ _ _ (HL.out.ext HPA.out.ext) HB.out.len (HB.out.ext HPA.out.ext).rd hn).mono ?_
        rw [HG.out]
        rintro r w2 ⟨rfl, rfl⟩
        go_wp2_with fail
        go_roundw
        case rel => exact ⟨k + 1, by omega, by go_num, rfl, hle, HPS⟩
        case measure => simp [intOf]; omega
    · have hk3 : k = 3 := by omega
      subst hk3
      have hle : 13 ≤ n := hp
      obtain ⟨⟨c0, c1, c2⟩, f0, f1, f2⟩ := three_cells HP.out.blank
      have hrow : wr.heap[w.heap.size + 1]? = some (.cells #[.int .i64 (uNum l 0), .int .i64 (uNum l 1), .int .i64 (uNum l 2)] 25 (0, 0)) := HP.out.row
      have HR := Lib.hid hrow
      rw [show uPos 3 = 13 from rfl]
      obtain ⟨⟨d0, d1, d2⟩, _⟩ := three_cells hrow
      clear hrow
      by_cases h13 : n = 13
      · subst h13
        have hlt0 : w.heap.size < wr.heap.size := (Array.getElem?_eq_some_iff.1 HP.out.blank).1
        have hlt1 : w.heap.size + 1 < wr.heap.size := (Array.getElem?_eq_some_iff.1 HR.out).1
        by_cases hm : mayU (uNum l 0) (uNum l 1) (uNum l 2) = true
        · have HV := Lib.hid (uV_both HB.out.len hm)
          have HM := Lib.hid hm
          clear hm
          go_wp2_with fail
          refine (mayU_any _ _ _ _).mono ?_
          rw [HM.out]
          rintro r w2 ⟨rfl, hx⟩
          have hb2 := (hx.block _ hlt0).trans HP.out.blank
          have hr2 := (hx.block _ hlt1).trans HR.out
          have HE := Lib.hid (HP.out.ext.trans hx)
          clear c0 c1 c2 f0 f1 f2 d0 d1 d2 hx hlt0 hlt1
          obtain ⟨⟨c0, c1, c2⟩, f0, f1, f2⟩ := three_cells hb2
          obtain ⟨⟨d0, d1, d2⟩, _⟩ := three_cells hr2
          clear hb2 hr2
          go_wp2_with fail
          refine bodyPost_ret (v := .tuple #[.agg #[.int .i64 (uNum l 0), .int .i64 (uNum l 1), .int .i64 (uNum l 2)], .int .i64 0]) ?_ rfl ⟨?_, ?_⟩
          · simp [results, Tryd.results10, go_sem, c0, c1, c2]
          · rw [uF_yes HV.out, uF_yes HV.out, uF_yes HV.out, uE_yes HV.out]
          · exact three_ext HE.out (Nat.le_refl _) _ _ _
        · have hm' : mayU (uNum l 0) (uNum l 1) (uNum l 2) = false := by simpa using hm
          have HV := Lib.hid (uV_may hm')
          have HM := Lib.hid hm'
          clear hm hm'
          go_wp2_with fail
          refine (mayU_any _ _ _ _).mono ?_
          rw [HM.out]
          rintro r w2 ⟨rfl, hx⟩
          have hb2 := (hx.block _ hlt0).trans HP.out.blank
          have HE := Lib.hid (HP.out.ext.trans hx)
          clear c0 c1 c2 f0 f1 f2 d0 d1 d2 hx hlt0 hlt1
          obtain ⟨⟨c0, c1, c2⟩, f0, f1, f2⟩ := three_cells hb2
          clear hb2
          go_wp2_with fail
          refine bodyPost_ret (v := .tuple #[.agg #[.int .i64 0, .int .i64 0, .int .i64 0], .int .i64 80]) ?_ rfl ⟨?_, ?_⟩
          · simp [results, Tryd.results10, go_sem, c0, c1, c2]
          · rw [uF_no HV.out, uF_no HV.out, uF_no HV.out, uE_no HV.out]; rfl
          · exact three_ext HE.out (Nat.le_refl _) _ _ _
      · have HV := Lib.hid (uV_len (l := l) (by rw [HB.out.len]; exact h13))
        have hne : ((13 : Int) != (n : Int)) = true := by rw [bne_iff_ne]; omega
        go_wp2_with fail
        refine bodyPost_ret (v := .tuple #[.agg #[.int .i64 0, .int .i64 0, .int .i64 0], .int .i64 80]) ?_ rfl ⟨?_, ?_⟩
        · simp [results, Tryd.results10, go_sem, c0, c1, c2]
        · rw [uF_no HV.out, uF_no HV.out, uF_no HV.out, uE_no HV.out]; rfl
        · exact three_ext HP.out.ext (Nat.le_refl _) _ _ _
end Go.Proofs.YtlikhmhomkiadaaDoor
