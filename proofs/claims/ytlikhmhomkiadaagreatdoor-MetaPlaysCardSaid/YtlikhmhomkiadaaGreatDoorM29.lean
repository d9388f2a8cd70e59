/-
  The contract of meta's Print; its bytes are the call's own.
  The contract of meta's Parse.
  The contracts of the document's own Ballot, May, Print and Parse of metadata.
  The contract of the document's own Parse of metadata.
  Plain facts on copies of a cell of any replica: which is loaded, by what both places hold; what Store leaves.
-/
import Derived.Test.YtlikhmhomkiadaaGreatDoorM09
import Derived.Test.YtlikhmhomkiadaaGreatDoorM10
import Derived.Test.YtlikhmhomkiadaaGreatDoorM24
import Derived.Test.YtlikhmhomkiadaaGreatDoorM28
import Derived.Deep.RegionHeld3
namespace Go.Proofs.YtlikhmhomkiadaaGreatDoor
open Go Go.RowKit

/-- A slice that lies in no block below. -/
def Fresh (n : Nat) (A : Option Addr) : Prop := ∀ g o, A = some ⟨g, o, none⟩ → n ≤ g
theorem Fresh.none_ (n : Nat) : Fresh n none := fun g o h => by cases h
theorem Fresh.le {n m : Nat} {A : Option Addr} (h : Fresh m A) (k : n ≤ m) : Fresh n A := fun g o e => Nat.le_trans k (h g o e)
theorem join2_new {A1 A2 : Option Addr} {n1 n2 c1 c2 : Nat} {l1 l2 : List Nat} (w : World) (h1 : By w A1 n1 c1 l1) (h2 : By w A2 n2 c2 l2) (hN : n1 + n2 ≤ 140737488355328) :
    Calls Tryz.prog 148 #[.slice (some ⟨w.heap.size, 0, none⟩) 2 2] (w.alloc (.cells #[.slice A1 n1 c1, .slice A2 n2 c2] 34)) fun e w' => ∃ A' c', e = .returned (.slice A' (n1 + n2) c') ∧ By w' A' (n1 + n2) c' (l1 ++ l2) ∧ Fresh w.heap.size A' ∧ Ext w w' := by
  have hcat : cat [(.slice A1 n1 c1, l1), (.slice A2 n2 c2, l2)] = l1 ++ l2 := by simp [cat]
  have hlen : (cat [(.slice A1 n1 c1, l1), (.slice A2 n2 c2, l2)]).length = n1 + n2 := by rw [hcat, List.length_append, h1.len, h2.len]
  refine (join_any _ 2 2 [(.slice A1 n1 c1, l1), (.slice A2 n2 c2, l2)] _ (parts_lit rfl rfl ?_) (by omega) (by rw [hlen]; exact hN)).mono ?_
  · intro p hp
    simp only [List.mem_cons, List.not_mem_nil, or_false] at hp
    rcases hp with rfl | rfl
    · exact ⟨_, _, _, rfl, h1⟩
    · exact ⟨_, _, _, rfl, h2⟩
  rintro e w' ⟨A', c', rfl, hown, hx⟩
  rw [hlen] at hown
  have hf : Fresh w.heap.size A' := fun g o e => by
    subst e
    have := (hown.lt g rfl).1
    simp at this
    omega
  rw [hcat] at hown
  rw [hlen]
  refine ⟨A', c', rfl, Bs.of_own hown ?_, hf, ((Ext.refl w).alloc _).trans hx⟩
  intro b hb
  simp only [List.mem_append] at hb
  rcases hb with h | h
  · exact h1.rd.lt b h
  · exact h2.rd.lt b h

theorem field_index (g k : Nat) (hk : k < 3) (w : World) : (Instr.index 210 (.agg #[.pointer (some ⟨g, 0, none⟩), .int .i64 6, .pointer (some ⟨g, 1, none⟩), .int .i64 1, .pointer (some ⟨g, 2, none⟩), .int .i64 6]) (.int .i64 k)).run Tryz.prog w = .ok (.agg #[.pointer (some ⟨g, k, none⟩), .int .i64 (uW k)]) w := by
  have hj' : k = 0 ∨ k = 1 ∨ k = 2 := by omega
  rcases hj' with rfl | rfl | rfl <;> (show _ = _; kernel_rfl)
theorem keepUF {u V w' : World} {f g k : Nat} {p q x : Value} {t : TypeId} (hk : Hid (Ext u w')) (hV : u = V.drew) (h : Hid (V.heap[f]? = some (.cells #[p, q] t (0, 0)))) (hc : Hid (V.cell? ⟨g, k, none⟩ = some x)) :
    w'.cell? ⟨f, 1, none⟩ = some q ∧ w'.cell? ⟨f, 0, none⟩ = some p ∧ w'.cell? ⟨g, k, none⟩ = some x := by
  subst hV
  have h2 := (hk.out.block f (Array.getElem?_eq_some_iff.1 h.out).1).trans h.out
  exact ⟨cell_of_row w' f 1 _ _ _ h2, cell_of_row w' f 0 _ _ _ h2, Ext.cell hk.out hc.out⟩
theorem three_at {w : World} {g k : Nat} {a b c : Nat} {t : TypeId} (h : w.heap[g]? = some (.cells #[.int .i64 a, .int .i64 b, .int .i64 c] t (0, 0))) (hk : k < 3) : w.cell? ⟨g, k, none⟩ = some (.int .i64 (uFld a b c k)) := by
  have hj' : k = 0 ∨ k = 1 ∨ k = 2 := by omega
  rcases hj' with rfl | rfl | rfl
  · exact cell_of_row w g 0 _ _ _ h
  · exact cell_of_row w g 1 _ _ _ h
  · exact cell_of_row w g 2 _ _ _ h

set_option maxRecDepth 100000 in
set_option maxHeartbeats 1600000 in
theorem printU_no (a b c : Int) (w : World) (hm : mayU a b c = false) :
    Calls Tryz.prog 128 #[.agg #[.int .i64 a, .int .i64 b, .int .i64 c]] w fun r w' => r = .returned (.tuple #[.slice none 0 0, .int .i64 2]) ∧ Ext w w' := by
  have hE := (Ext.refl w).alloc (.cells #[.int .i64 a, .int .i64 b, .int .i64 c] 76)
  have HE := Lib.hid hE
  have HM := Lib.hid hm
  clear hE hm
  go_enter Tryz.func128, Tryz.ntmps128
  go_wp2_with fail
  refine (mayU_any _ _ _ _).mono ?_
  rw [HM.out]
  rintro r w1 ⟨rfl, hx⟩
  have HE := Lib.hid (HE.out.trans hx)
  clear hx
  go_wp2_with fail
  go_ret2
  exact ⟨rfl, HE.out⟩

set_option maxRecDepth 100000 in
set_option maxHeartbeats 1600000 in
theorem printU_yes (a b c : Nat) (w : World) (hL : Laid w) (hm : mayU a b c = true) :
    Calls Tryz.prog 128 #[.agg #[.int .i64 a, .int .i64 b, .int .i64 c]] w fun r w' => ∃ A cp, r = .returned (.tuple #[.slice A 13 cp, .int .i64 0]) ∧ By w' A 13 cp (uBytes a b c) ∧ Fresh w.heap.size A ∧ Ext w w' := by
  have hE := (Ext.refl w).alloc (.cells #[.int .i64 a, .int .i64 b, .int .i64 c] 76)
  have HT := Lib.hid (heap_alloc_new w (.cells #[.int .i64 a, .int .i64 b, .int .i64 c] 76))
  have HL := Lib.hid (hL.ext hE)
  have HE := Lib.hid hE
  have HM := Lib.hid hm
  clear hE hm hL
  go_enter Tryz.func128, Tryz.ntmps128
  go_wp2_with fail
  refine (mayU_any _ _ _ _).mono ?_
  rw [HM.out]
  rintro r w1 ⟨rfl, hx⟩
  have HT := Lib.hid ((hx.block _ (Array.getElem?_eq_some_iff.1 HT.out).1).trans HT.out)
  have HL := Lib.hid (HL.out.ext hx)
  have HE := Lib.hid (HE.out.trans hx)
  clear hx
  go_wp2_with fail
  refine (fieldsU _ _ _ _ _ HT.out).mono ?_
  unfold fieldsV
  rintro r w2 ⟨rfl, hx⟩
  have HT := Lib.hid ((hx.block _ (Array.getElem?_eq_some_iff.1 HT.out).1).trans HT.out)
  have HL := Lib.hid (HL.out.ext hx)
  have HE := Lib.hid (HE.out.trans hx)
  clear hx
  generalize hg : w.heap.size = g at *
  go_wp2_with fail
  go_loopw [4, 13] (fun v i wr => ∃ k : Nat, k ≤ 3 ∧ i = .int .i64 k ∧ ∃ A n cp, v = .slice A n cp ∧ Hid (By wr A n cp (uPre (uFld a b c) k)) ∧ Hid (Fresh g A) ∧ Hid (Ext w2 wr)) (fun _ i _ => 3 - (intOf i).toNat)
  case atStart => exact ⟨0, Nat.zero_le _, rfl, none, 0, 0, rfl, Lib.hid (By.nil_ _), Lib.hid (Fresh.none_ _), Lib.hid (Ext.refl _)⟩
  case round =>
    obtain ⟨k, hk, rfl, A, n, cp, rfl, HB, HF, HX⟩ := hrel
    by_cases hlt : k < 3
    · have hn : n ≤ 18 := by
        have h1 := HB.out.len
        have h2 := uPre_len_le (uFld a b c) k
        omega
      have hcap := HB.out.cap
      have hI := field_index g k hlt
      have hwl := uW_le k
      have HTr : Hid (wr.heap[g]? = _) := Lib.hid ((HX.out.block _ (Array.getElem?_eq_some_iff.1 HT.out).1).trans HT.out)
      have HV := Lib.hid (heap_alloc_new wr (.cells #[.pointer (some ⟨g, k, none⟩), .int .i64 (uW k)] 209))
      have HC : Hid ((wr.alloc (.cells #[.pointer (some ⟨g, k, none⟩), .int .i64 (uW k)] 209)).cell? ⟨g, k, none⟩ = _) := Lib.hid (Ext.cell ((Ext.refl wr).alloc _) (three_at HTr.out hlt))
      go_wp2_with fail
      have hk1 : Hid (Ext (wr.alloc (.cells #[.pointer (some ⟨g, k, none⟩), .int .i64 (uW k)] 209)).drew (wr.alloc (.cells #[.pointer (some ⟨g, k, none⟩), .int .i64 (uW k)] 209)).drew) := Lib.hid (Ext.refl _)
      have HXV : Hid (Ext wr (wr.alloc (.cells #[.pointer (some ⟨g, k, none⟩), .int .i64 (uW k)] 209)).drew) := Lib.hid ((Ext.refl wr).alloc _).drew
      go_region_held3 (fun w' => w'.cell? ⟨wr.heap.size, 1, none⟩ = some (.int .i64 (uW k)) ∧ w'.cell? ⟨wr.heap.size, 0, none⟩ = some (.pointer (some ⟨g, k, none⟩)) ∧ w'.cell? ⟨g, k, none⟩ = some (.int .i64 (uFld a b c k)))
        (first | exact keepUF (by assumption) rfl HV HC)
        (first
          | (go_at_call 146; ((with_reducible refine (put_by _ _ _ (HL.out.ext (HX.out.trans HXV.out)) (uFld_fits HM.out k)).mono ?_); rintro r w3 ⟨A2, c2, rfl, hb, hx⟩; have HB2 := Lib.hid hb; have HK1 := Lib.hid hx; have HX3 := Lib.hid (HXV.out.trans hx); clear hb hx)))
      have HB := Lib.hid (HB.out.ext HX3.out)
      have HX := Lib.hid (HX.out.trans HX3.out)
      clear hI hk1 HK1
      go_wp2_with fail
      refine (join2_new _ HB.out HB2.out (by omega)).mono ?_
      rintro r w4 ⟨A3, c3, rfl, hb, hf, hx⟩
      have HB3 := Lib.hid hb
      have HF3 := Lib.hid (hf.le (Nat.le_trans (Nat.le_of_eq hg.symm) (Nat.le_trans (Ext.size HE.out) (Ext.size HX.out))))
      have HX := Lib.hid (HX.out.trans hx)
      clear hx hb hf
      go_wp2_with fail
      go_roundw
      case rel => exact ⟨k + 1, by omega, by go_num, A3, _, c3, rfl, HB3, HF3, HX⟩
      case measure => simp [intOf]; omega
    · have HK : Hid (k = 3) := Lib.hid (by omega)
      have hb := HB.out
      rw [HK.out] at hb
      have hn : n = 13 := hb.len.symm.trans (uBytes_len a b c)
      subst hn
      have HB := Lib.hid hb
      clear hb
      go_wp2_with fail
      go_ret2
      exact ⟨A, cp, rfl, HB.out, hg.symm ▸ HF.out, HE.out.trans HX.out⟩

theorem printU_any (a b c : Int) (w : World) (hL : Laid w) :
    Calls Tryz.prog 128 #[.agg #[.int .i64 a, .int .i64 b, .int .i64 c]] w fun r w' => ∃ A cp, r = .returned (.tuple #[.slice A (uL a b c).length cp, .int .i64 (uR a b c)]) ∧ By w' A (uL a b c).length cp (uL a b c) ∧ Fresh w.heap.size A ∧ Ext w w' := by
  by_cases h : mayU a b c = true
  · obtain ⟨a, b, c, rfl, rfl, rfl⟩ := mayU_nat h
    rw [uL_yes h, uR_yes h]
    simp only [Int.toNat_natCast, uBytes_len]
    exact printU_yes a b c w hL h
  · have h' : mayU a b c = false := by simpa using h
    rw [uL_no h', uR_no h']
    exact (printU_no a b c w h').mono fun _ w' ⟨h1, h2⟩ => ⟨none, 0, h1, By.nil_ w', Fresh.none_ _, h2⟩
end Go.Proofs.YtlikhmhomkiadaaGreatDoor

namespace Go.Proofs.YtlikhmhomkiadaaGreatDoor
open Go Go.RowKit

/-- The metadata's cells when k of their numbers are read. -/
def ucell (l : List Nat) (k j : Nat) : Value := .int .i64 ((if j < k then uNum l j else 0 : Nat) : Int)
def urow (l : List Nat) (k : Nat) : Array Value := #[ucell l k 0, ucell l k 1, ucell l k 2]
theorem urow_step (l : List Nat) {k : Nat} (h : k < 3) : (urow l k).setIfInBounds k (.int .i64 (uNum l k : Nat)) = urow l (k + 1) := by
  have hj' : k = 0 ∨ k = 1 ∨ k = 2 := by omega
  rcases hj' with rfl | rfl | rfl <;> simp [urow, ucell]
/-- What holds at the loop's head: the answer's block g is blank, the metadata's block g + 1 holds k numbers. -/
structure UPS (w : World) (l : List Nat) (k : Nat) (w' : World) : Prop where
  blank : w'.heap[w.heap.size]? = some (.cells #[.int .i64 0, .int .i64 0, .int .i64 0] 76 (0, 0))
  row : w'.heap[w.heap.size + 1]? = some (.cells (urow l k) 76 (0, 0))
  ext : Ext w w'
theorem UPS.start (w : World) (l : List Nat) : UPS w l 0 ((w.alloc (.cells #[.int .i64 0, .int .i64 0, .int .i64 0] 76)).alloc (.cells #[.int .i64 0, .int .i64 0, .int .i64 0] 76)) := by
  refine ⟨?_, heap_alloc2_new w _ _, ((Ext.refl w).alloc _).alloc _⟩
  rw [heap_alloc_old _ _ (by simp)]
  exact heap_alloc_new w _
theorem UPS.more {w w' w2 : World} {l : List Nat} {k : Nat} (h : UPS w l k w') (hx : Ext w' w2) : UPS w l k w2 :=
  ⟨(hx.block _ (Array.getElem?_eq_some_iff.1 h.blank).1).trans h.blank, (hx.block _ (Array.getElem?_eq_some_iff.1 h.row).1).trans h.row, h.ext.trans hx⟩
theorem UPS.step {w w' : World} {l : List Nat} {k : Nat} (h : UPS w l k w') (hk : k < 3) : UPS w l (k + 1) (w'.setCell ⟨w.heap.size + 1, k, none⟩ (.int .i64 (uNum l k : Nat))) := by
  have hs := setCell_eq_setRow w' (w.heap.size + 1) k (urow l k) 76 (0, 0) (.int .i64 (uNum l k : Nat)) h.row
  rw [hs, urow_step l hk]
  exact ⟨(setRow_other w' _ _ _ (by omega)).trans h.blank, setRow_heap w' _ _ _ _ _ h.row, below_setRow h.ext (by omega) _⟩
theorem UPS.cell {w w' : World} {l : List Nat} {k : Nat} (h : UPS w l k w') (j : Nat) : w'.cell? ⟨w.heap.size + 1, j, none⟩ = (urow l k)[j]? := cell_of_row w' _ j _ _ _ h.row
theorem UPS.free {w w' : World} {l : List Nat} {k : Nat} (h : UPS w l k w') (j : Nat) : w'.frozen? ⟨w.heap.size + 1, j, none⟩ = false := frozen_of_row w' _ j _ _ h.row
theorem get_num {l : List Nat} {k : Nat} (hk : k < 3) (h : uPos k + uW k ≤ l.length) : getS l (uPos k) (uW k) = (uNum l k, uPos (k + 1), 0) := by
  rw [getS_yes (uW_ok k) (by omega) (by omega) (by omega), uPos_step hk]
  rfl
theorem get_short {l : List Nat} {k : Nat} (h : l.length < uPos k + uW k) (hp : uPos k ≤ l.length) : getS l (uPos k) (uW k) = (0, 0, 10) := getS_short (uW_ok k) (by omega) (by omega) (by omega)

set_option maxRecDepth 100000 in
set_option maxHeartbeats 1600000 in
theorem parseU (A : Option Addr) (n cp : Nat) (l : List Nat) (w : World) (hL : Laid w) (hb : By w A n cp l) (hn : n ≤ 9000000000000000000) :
    Calls Tryz.prog 127 #[.slice A n cp] w fun r w' => r = .returned (.tuple #[.agg #[.int .i64 (uF l 0), .int .i64 (uF l 1), .int .i64 (uF l 2)], .int .i64 (uE l)]) ∧ Ext w w' := by
  have HS := Lib.hid (UPS.start w l)
  have HL := Lib.hid hL
  have HB := Lib.hid hb
  clear hL hb
  go_enter Tryz.func127, Tryz.ntmps127
  go_wp2_with fail
  refine (fieldsU _ _ _ _ _ HS.out.row).mono ?_
  unfold fieldsV
  rintro r w1 ⟨rfl, hx⟩
  have HS := Lib.hid (HS.out.more hx)
  clear hx
  go_wp2_with fail
  go_loopw [5, 12] (fun p i wr => ∃ k : Nat, k ≤ 3 ∧ i = .int .i64 k ∧ p = .int .i64 (uPos k) ∧ uPos k ≤ n ∧ Hid (UPS w l k wr)) (fun _ i _ => 3 - (intOf i).toNat)
  case atStart => exact ⟨0, Nat.zero_le _, rfl, rfl, Nat.zero_le _, HS⟩
  case round =>
    obtain ⟨k, hk, rfl, rfl, hp, HP⟩ := hrel
    by_cases hlt : k < 3
    · have hI := field_index (w.heap.size + 1) k hlt
      have hwl := uW_le k
      have HPA := Lib.hid (HP.out.more ((Ext.refl wr).alloc (.cells #[.pointer (some ⟨w.heap.size + 1, k, none⟩), .int .i64 (uW k)] 209)))
      by_cases hsh : n < uPos k + uW k
      · have HG := Lib.hid (get_short (l := l) (k := k) (by rw [HB.out.len]; exact hsh) (by rw [HB.out.len]; exact hp))
        have hp13 := uPos_le (k + 1)
        rw [uPos_step hlt] at hp13
        have HV := Lib.hid (uV_len (l := l) (by rw [HB.out.len]; omega))
        clear hp13
        go_wp2_with fail
        refine (oget_any A l n cp _ _ _ _ (HL.out.ext HPA.out.ext) HB.out.len (HB.out.ext HPA.out.ext).rd hn).mono ?_
        rw [HG.out]
        rintro r w2 ⟨rfl, rfl⟩
        obtain ⟨⟨c0, c1, c2⟩, f0, f1, f2⟩ := three_cells HPA.out.blank
        go_wp2_with fail
        refine bodyPost_ret (v := .tuple #[.agg #[.int .i64 0, .int .i64 0, .int .i64 0], .int .i64 80]) ?_ rfl ⟨?_, ?_⟩
        · simp [results, Tryz.results127, go_sem, c0, c1, c2]
        · rw [uF_no HV.out, uF_no HV.out, uF_no HV.out, uE_no HV.out]; rfl
        · exact three_ext HPA.out.ext (Nat.le_refl _) _ _ _
      · have HG := Lib.hid (get_num (l := l) hlt (by rw [HB.out.len]; omega))
        have c := HPA.out.cell k
        obtain ⟨v, hv⟩ : ∃ v, (urow l k)[k]? = some v := ⟨_, Array.getElem?_eq_getElem (by simpa [urow] using hlt)⟩
        rw [hv] at c
        have f := HPA.out.free k
        have HPS := Lib.hid (HPA.out.step hlt)
        have hle : uPos (k + 1) ≤ n := by rw [uPos_step hlt]; omega
        clear hv
        go_wp2_with fail
        refine (oget_any A l n cp _ _ _ _ (HL.out.ext HPA.out.ext) HB.out.len (HB.out.ext HPA.out.ext).rd hn).mono ?_
        rw [HG.out]
        rintro r w2 ⟨rfl, rfl⟩
        go_wp2_with fail
        go_roundw
        case rel => exact ⟨k + 1, by omega, by go_num, rfl, hle, HPS⟩
        case measure => simp [intOf]; omega
    · have hk3 : k = 3 := by omega
      subst hk3
      have hle : 13 ≤ n := hp
      obtain ⟨⟨c0, c1, c2⟩, f0, f1, f2⟩ := three_cells HP.out.blank
      have hrow : wr.heap[w.heap.size + 1]? = some (.cells #[.int .i64 (uNum l 0), .int .i64 (uNum l 1), .int .i64 (uNum l 2)] 76 (0, 0)) := HP.out.row
      have HR := Lib.hid hrow
      rw [show uPos 3 = 13 from rfl]
      obtain ⟨⟨d0, d1, d2⟩, _⟩ := three_cells hrow
      clear hrow
      by_cases h13 : n = 13
      · subst h13
        have hlt0 : w.heap.size < wr.heap.size := (Array.getElem?_eq_some_iff.1 HP.out.blank).1
        have hlt1 : w.heap.size + 1 < wr.heap.size := (Array.getElem?_eq_some_iff.1 HR.out).1
        by_cases hm : mayU (uNum l 0) (uNum l 1) (uNum l 2) = true
        · have HV := Lib.hid (uV_both HB.out.len hm)
          have HM := Lib.hid hm
          clear hm
          go_wp2_with fail
          refine (mayU_any _ _ _ _).mono ?_
          rw [HM.out]
          rintro r w2 ⟨rfl, hx⟩
          have hb2 := (hx.block _ hlt0).trans HP.out.blank
          have hr2 := (hx.block _ hlt1).trans HR.out
          have HE := Lib.hid (HP.out.ext.trans hx)
          clear c0 c1 c2 f0 f1 f2 d0 d1 d2 hx hlt0 hlt1
          obtain ⟨⟨c0, c1, c2⟩, f0, f1, f2⟩ := three_cells hb2
          obtain ⟨⟨d0, d1, d2⟩, _⟩ := three_cells hr2
          clear hb2 hr2
          go_wp2_with fail
          refine bodyPost_ret (v := .tuple #[.agg #[.int .i64 (uNum l 0), .int .i64 (uNum l 1), .int .i64 (uNum l 2)], .int .i64 0]) ?_ rfl ⟨?_, ?_⟩
          · simp [results, Tryz.results127, go_sem, c0, c1, c2]
          · rw [uF_yes HV.out, uF_yes HV.out, uF_yes HV.out, uE_yes HV.out]
          · exact three_ext HE.out (Nat.le_refl _) _ _ _
        · have hm' : mayU (uNum l 0) (uNum l 1) (uNum l 2) = false := by simpa using hm
          have HV := Lib.hid (uV_may hm')
          have HM := Lib.hid hm'
          clear hm hm'
          go_wp2_with fail
          refine (mayU_any _ _ _ _).mono ?_
          rw [HM.out]
          rintro r w2 ⟨rfl, hx⟩
          have hb2 := (hx.block _ hlt0).trans HP.out.blank
          have HE := Lib.hid (HP.out.ext.trans hx)
          clear c0 c1 c2 f0 f1 f2 d0 d1 d2 hx hlt0 hlt1
          obtain ⟨⟨c0, c1, c2⟩, f0, f1, f2⟩ := three_cells hb2
          clear hb2
          go_wp2_with fail
          refine bodyPost_ret (v := .tuple #[.agg #[.int .i64 0, .int .i64 0, .int .i64 0], .int .i64 80]) ?_ rfl ⟨?_, ?_⟩
          · simp [results, Tryz.results127, go_sem, c0, c1, c2]
          · rw [uF_no HV.out, uF_no HV.out, uF_no HV.out, uE_no HV.out]; rfl
          · exact three_ext HE.out (Nat.le_refl _) _ _ _
      · have HV := Lib.hid (uV_len (l := l) (by rw [HB.out.len]; exact h13))
        have hne : ((13 : Int) != (n : Int)) = true := by rw [bne_iff_ne]; omega
        go_wp2_with fail
        refine bodyPost_ret (v := .tuple #[.agg #[.int .i64 0, .int .i64 0, .int .i64 0], .int .i64 80]) ?_ rfl ⟨?_, ?_⟩
        · simp [results, Tryz.results127, go_sem, c0, c1, c2]
        · rw [uF_no HV.out, uF_no HV.out, uF_no HV.out, uE_no HV.out]; rfl
        · exact three_ext HP.out.ext (Nat.le_refl _) _ _ _
end Go.Proofs.YtlikhmhomkiadaaGreatDoor

namespace Go.Proofs.YtlikhmhomkiadaaGreatDoor
open Go Go.RowKit

/-- May a ballot be that isn't none? -/
def balU (x y : Int) : Bool := decide (1 ≤ x) && (decide (x ≤ 1099511627776) && (decide (0 ≤ y) && decide (y ≤ 6)))
theorem mayU_split (a b c : Int) : mayU a b c = ((a == 0 && b == 0 || balU a b) && (decide (1 ≤ c) && decide (c ≤ 1099511627776))) := by
  rw [Bool.eq_iff_iff, mayU_iff]
  unfold balU
  simp
set_option maxRecDepth 100000 in
theorem rballotU (x y : Int) (w : World) :
    Calls Tryz.prog 79 #[.agg #[.int .i64 x, .int .i64 y]] w fun r w' => r = .returned (.bool (balU x y)) ∧ Ext w w' := by
  have HE := Lib.hid ((Ext.refl w).alloc (.cells #[.int .i64 x, .int .i64 y] 74))
  unfold balU
  cases h1 : decide (1 ≤ x) <;> cases h2 : decide (x ≤ 1099511627776) <;> cases h3 : decide (0 ≤ y) <;> cases h4 : decide (y ≤ 6)
  all_goals
    go_enter Tryz.func79, Tryz.ntmps79
    go_wp2_with fail
    go_ret
    exact ⟨rfl, HE.out⟩
set_option maxRecDepth 100000 in
set_option maxHeartbeats 1600000 in
theorem rmayU (a b c : Int) (w : World) :
    Calls Tryz.prog 78 #[.agg #[.int .i64 a, .int .i64 b, .int .i64 c]] w fun r w' => r = .returned (.bool (mayU a b c)) ∧ Ext w w' := by
  have HE := Lib.hid ((Ext.refl w).alloc (.cells #[.int .i64 a, .int .i64 b, .int .i64 c] 76))
  have HT := Lib.hid (heap_alloc_new w (.cells #[.int .i64 a, .int .i64 b, .int .i64 c] 76))
  have HB := Lib.hid (rballotU a b)
  rw [mayU_split]
  generalize balU a b = q at *
  by_cases hz : (a == 0 && b == 0) = true
  · rw [hz]
    rw [Bool.and_eq_true] at hz
    obtain ⟨z1, z2⟩ := hz
    cases h1 : decide (1 ≤ c) <;> cases h2 : decide (c ≤ 1099511627776)
    all_goals
      go_enter Tryz.func78, Tryz.ntmps78
      go_wp2_with fail
      go_ret
      exact ⟨rfl, HE.out⟩
  · have hz : (a == 0 && b == 0) = false := by simpa using hz
    rw [hz]
    cases q <;> cases h1 : decide (1 ≤ c) <;> cases h2 : decide (c ≤ 1099511627776) <;> cases z1 : (a == 0)
    all_goals
      first
        | (have z2 : (b == 0) = false := by rw [z1] at hz; simpa using hz)
        | skip
      clear hz
      go_enter Tryz.func78, Tryz.ntmps78
      go_wp2_with fail
      refine (HB.out _).mono ?_
      rintro r w1 ⟨rfl, hx⟩
      have HE := Lib.hid (HE.out.trans hx)
      have ht := (hx.block _ (Array.getElem?_eq_some_iff.1 HT.out).1).trans HT.out
      obtain ⟨⟨c0, c1, c2⟩, _⟩ := three_cells ht
      clear hx ht
      go_wp2_with fail
      go_ret
      exact ⟨rfl, HE.out⟩

set_option maxRecDepth 100000 in
set_option maxHeartbeats 1600000 in
theorem rprintU_no (a b c : Int) (w : World) (hm : mayU a b c = false) :
    Calls Tryz.prog 130 #[.agg #[.int .i64 a, .int .i64 b, .int .i64 c]] w fun r w' => r = .returned (.tuple #[.slice none 0 0, .int .i64 2]) ∧ Ext w w' := by
  have hE := (Ext.refl w).alloc (.cells #[.int .i64 a, .int .i64 b, .int .i64 c] 76)
  have HE := Lib.hid hE
  have HM := Lib.hid hm
  clear hE hm
  go_enter Tryz.func130, Tryz.ntmps130
  go_wp2_with fail
  refine (rmayU _ _ _ _).mono ?_
  rw [HM.out]
  rintro r w1 ⟨rfl, hx⟩
  have HE := Lib.hid (HE.out.trans hx)
  clear hx
  go_wp2_with fail
  go_ret2
  exact ⟨rfl, HE.out⟩
set_option maxRecDepth 100000 in
set_option maxHeartbeats 1600000 in
theorem rprintU_yes (a b c : Nat) (w : World) (hm : mayU a b c = true) :
    Calls Tryz.prog 130 #[.agg #[.int .i64 a, .int .i64 b, .int .i64 c]] w fun r w' => ∃ A cp, r = .returned (.tuple #[.slice A 13 cp, .int .i64 0]) ∧ By w' A 13 cp (uBytes a b c) ∧ Fresh w.heap.size A ∧ Ext w w' := by
  obtain ⟨i0, hi, hz0, hz1, hz2⟩ := info_parts byte_info
  have hE := (Ext.refl w).alloc (.cells #[.int .i64 a, .int .i64 b, .int .i64 c] 76)
  have HT := Lib.hid (heap_alloc_new w (.cells #[.int .i64 a, .int .i64 b, .int .i64 c] 76))
  have HE := Lib.hid hE
  have HM := Lib.hid hm
  rw [mayU_iff] at hm
  have hb : b < 256 := by omega
  have HUB := Lib.hid (uBytes_eq (a := a) (c := c) hb)
  generalize uBytes a b c = T at *
  clear hE hm
  go_enter Tryz.func130, Tryz.ntmps130
  go_wp2_with fail
  refine (rmayU _ _ _ _).mono ?_
  rw [HM.out]
  rintro r w1 ⟨rfl, hx⟩
  have HT := Lib.hid ((hx.block _ (Array.getElem?_eq_some_iff.1 HT.out).1).trans HT.out)
  have HE := Lib.hid (HE.out.trans hx)
  clear hx
  obtain ⟨⟨c0, c1, c2⟩, _⟩ := three_cells HT.out
  go_wp2_with fail
  refine (rput_yes 6 a _ (uFld_fits HM.out 0)).mono ?_
  rintro r w2 ⟨A2, k2, rfl, hown, hx⟩
  have HX2 : Hid (Ext w1 (w2.alloc (.cells #[.int .u8 b] 5))) := Lib.hid ((show Ext w1 w2 from hx).trans ((Ext.refl w2).alloc _))
  have HO := Lib.hid (own_ext hown ((Ext.refl w2).alloc (.cells #[.int .u8 b] 5)))
  have HLIT := Lib.hid (By.lit w2 [b] 5 (by simp; omega) (by simp) (#[.int .u8 b]) rfl)
  have d1 := Ext.cell hx c1
  have hsz := Ext.size HX2.out
  clear hown hx c0 c1 c2
  go_wp2_with (at_builtin; refine wpList_append_by rfl _ _ 34 rfl w1.heap.size 5 i0 Tryz.underlying34 hi hz0 hz1 hz2 _ 6 (vb (digs 6 a)) rfl HO.out _ 1 _ [b] rfl HLIT.out (by omega) hsz ?_)
  intro v4 w4 hown hg
  obtain ⟨hx, A4, k4, rfl, hb4, hown⟩ := app_step HX2.out HO.out hg hown (digs_lt 6 a) (by intro x hx; simp at hx; omega)
  have HO4 := Lib.hid hown
  have HX4 := Lib.hid hx
  obtain ⟨⟨c0, c1, c2⟩, _⟩ := three_cells ((hx.block _ (Array.getElem?_eq_some_iff.1 HT.out).1).trans HT.out)
  clear hown hg hx hb4 d1 hsz
  go_wp2_with fail
  refine (rput_yes 6 c _ (uFld_fits HM.out 2)).mono ?_
  rintro r w5 ⟨A5, k5, rfl, hown, hx⟩
  have HB5 : Hid (By w5 A5 6 k5 (digs 6 c)) := Lib.hid (Bs.of_own hown (digs_lt 6 c))
  have HO5 := Lib.hid (own_ext HO4.out hx)
  have HX5 := Lib.hid (HX4.out.trans hx)
  have hsz := Ext.size HX5.out
  clear hown hx c0 c1 c2
  go_wp2_with (at_builtin; refine wpList_append_by rfl _ _ 34 rfl w1.heap.size 5 i0 Tryz.underlying34 hi hz0 hz1 hz2 _ 7 (vb (digs 6 a ++ [b])) rfl HO5.out _ 6 _ (digs 6 c) rfl HB5.out (by omega) hsz ?_)
  intro v6 w6 hown hg
  obtain ⟨hx, A6, k6, rfl, hb6, hown⟩ := app_step HX5.out HO5.out hg hown (by
    intro x hx
    rcases List.mem_append.1 (show x ∈ digs 6 a ++ [b] from hx) with h | h
    · exact digs_lt 6 a x h
    · simp at h; omega) (digs_lt 6 c)
  have HB6 := Lib.hid hb6
  have HF6 : Hid (Fresh w.heap.size A6) := Lib.hid fun g o e => by
    subst e
    exact Nat.le_trans (Ext.size HE.out) (hown.lt g rfl).1
  have HX6 := Lib.hid (HE.out.trans hx)
  clear hown hg hx hb6 hsz
  go_wp2_with fail
  go_ret2
  exact ⟨A6, k6, rfl, by rw [HUB.out]; exact HB6.out, HF6.out, HX6.out⟩
theorem rprintU_any (a b c : Int) (w : World) :
    Calls Tryz.prog 130 #[.agg #[.int .i64 a, .int .i64 b, .int .i64 c]] w fun r w' => ∃ A cp, r = .returned (.tuple #[.slice A (uL a b c).length cp, .int .i64 (uR a b c)]) ∧ By w' A (uL a b c).length cp (uL a b c) ∧ Fresh w.heap.size A ∧ Ext w w' := by
  by_cases h : mayU a b c = true
  · obtain ⟨a, b, c, rfl, rfl, rfl⟩ := mayU_nat h
    rw [uL_yes h, uR_yes h]
    simp only [Int.toNat_natCast, uBytes_len]
    exact rprintU_yes a b c w h
  · have h' : mayU a b c = false := by simpa using h
    rw [uL_no h', uR_no h']
    exact (rprintU_no a b c w h').mono fun _ w' ⟨h1, h2⟩ => ⟨none, 0, h1, By.nil_ w', Fresh.none_ _, h2⟩
end Go.Proofs.YtlikhmhomkiadaaGreatDoor

namespace Go.Proofs.YtlikhmhomkiadaaGreatDoor
open Go Go.RowKit

theorem uNum_byte {l : List Nat} {x : Nat} (h : l[6]? = some x) : uNum l 1 = x := by
  have hl : 6 < l.length := (List.getElem?_eq_some_iff.1 h).1
  unfold uNum
  rw [show uPos 1 = 6 from rfl, show uW 1 = 1 from rfl, List.drop_eq_getElem_cons hl, List.take_succ_cons, List.take_zero]
  rw [List.getElem?_eq_getElem hl] at h
  rw [Option.some.inj h]
  simp [num]
set_option maxRecDepth 100000 in
set_option maxHeartbeats 1600000 in
theorem rparseU (A : Option Addr) (n cp : Nat) (l : List Nat) (w : World) (hb : By w A n cp l) (hn : n ≤ 9000000000000000000) :
    Calls Tryz.prog 74 #[.slice A n cp] w fun r w' => r = .returned (.tuple #[.agg #[.int .i64 (uF l 0), .int .i64 (uF l 1), .int .i64 (uF l 2)], .int .i64 (uE l)]) ∧ Ext w w' := by
  have hE := (Ext.refl w).alloc (.cells #[.int .i64 0, .int .i64 0, .int .i64 0] 76)
  have hz : (w.alloc (.cells #[.int .i64 0, .int .i64 0, .int .i64 0] 76)).heap[w.heap.size]? = some (.cells #[.int .i64 0, .int .i64 0, .int .i64 0] 76 (0, 0)) := heap_alloc_new w _
  have HB := Lib.hid (hb.ext hE)
  have HE := Lib.hid hE
  have HZ := Lib.hid hz
  by_cases h13 : n = 13
  · subst h13
    have HG0 := Lib.hid (get_num (l := l) (k := 0) (by omega) (by rw [hb.len]; decide))
    have HG2 := Lib.hid (get_num (l := l) (k := 2) (by omega) (by rw [hb.len]; decide))
    obtain ⟨g, o, x, hA, hg, h0, hx0, c6⟩ := HB.out.rd.at_ (k := 6) (by rw [HB.out.len]; omega)
    subst hA
    have HP := Lib.hid (uNum_byte h0)
    have HL := Lib.hid hb.len
    have e1 : IntKind.i64.wrap (x : Int) = (x : Int) := IntWalk.i64_in _ (by omega)
    clear hb hE hz h0
    generalize hW : (w.alloc (.cells #[.int .i64 0, .int .i64 0, .int .i64 0] 76)) = W at *
    have HWX := Lib.hid ((Ext.refl W).alloc (.cells #[.int .i64 (uNum l 0), .int .i64 x, .int .i64 (uNum l 2)] 76))
    have HR := Lib.hid (heap_alloc_new W (.cells #[.int .i64 (uNum l 0), .int .i64 x, .int .i64 (uNum l 2)] 76))
    by_cases hm : mayU (uNum l 0) x (uNum l 2) = true
    · have HM := Lib.hid hm
      have HV := Lib.hid (uV_both HL.out (by rw [HP.out]; exact hm))
      clear hm
      go_enter Tryz.func74, Tryz.ntmps74
      go_wp2_with fail
      refine (rget_any (some ⟨g, o, none⟩) l 13 cp _ 0 6 _ HB.out.len HB.out.rd (by omega)).mono ?_
      rw [show getS l 0 6 = (uNum l 0, 6, 0) from HG0.out]
      rintro r w2 ⟨rfl, rfl⟩
      go_wp2_with fail
      refine (rget_any (some ⟨g, o, none⟩) l 13 cp _ 7 6 _ HB.out.len HB.out.rd (by omega)).mono ?_
      rw [show getS l 7 6 = (uNum l 2, 13, 0) from HG2.out]
      rintro r w2 ⟨rfl, rfl⟩
      go_wp2_with fail
      refine (rmayU _ _ _ _).mono ?_
      rw [HM.out]
      rintro r w3 ⟨rfl, hx⟩
      have hx := HWX.out.trans hx
      have hb2 := (hx.block _ (Array.getElem?_eq_some_iff.1 HZ.out).1).trans HZ.out
      have hr2 : w3.heap[W.heap.size]? = _ := ((show Ext _ w3 by assumption).block _ (Array.getElem?_eq_some_iff.1 HR.out).1).trans HR.out
      have HE := Lib.hid (HE.out.trans hx)
      clear hx c6 e1
      obtain ⟨⟨c0, c1, c2⟩, f0, f1, f2⟩ := three_cells hb2
      obtain ⟨⟨d0, d1, d2⟩, _⟩ := three_cells hr2
      clear hb2 hr2
      go_wp2_with fail
      refine bodyPost_ret (v := .tuple #[.agg #[.int .i64 (uNum l 0), .int .i64 x, .int .i64 (uNum l 2)], .int .i64 0]) ?_ rfl ⟨?_, ?_⟩
      · simp [results, Tryz.results74, go_sem, c0, c1, c2]
      · rw [uF_yes HV.out, uF_yes HV.out, uF_yes HV.out, uE_yes HV.out, HP.out]
      · exact three_ext HE.out (Nat.le_refl _) _ _ _
    · have hm' : mayU (uNum l 0) x (uNum l 2) = false := by simpa using hm
      have HM := Lib.hid hm'
      have HV := Lib.hid (uV_may (l := l) (by rw [HP.out]; exact hm'))
      clear hm hm'
      go_enter Tryz.func74, Tryz.ntmps74
      go_wp2_with fail
      refine (rget_any (some ⟨g, o, none⟩) l 13 cp _ 0 6 _ HB.out.len HB.out.rd (by omega)).mono ?_
      rw [show getS l 0 6 = (uNum l 0, 6, 0) from HG0.out]
      rintro r w2 ⟨rfl, rfl⟩
      go_wp2_with fail
      refine (rget_any (some ⟨g, o, none⟩) l 13 cp _ 7 6 _ HB.out.len HB.out.rd (by omega)).mono ?_
      rw [show getS l 7 6 = (uNum l 2, 13, 0) from HG2.out]
      rintro r w2 ⟨rfl, rfl⟩
      go_wp2_with fail
      refine (rmayU _ _ _ _).mono ?_
      rw [HM.out]
      rintro r w3 ⟨rfl, hx⟩
      have hx := HWX.out.trans hx
      have hb2 := (hx.block _ (Array.getElem?_eq_some_iff.1 HZ.out).1).trans HZ.out
      have HE := Lib.hid (HE.out.trans hx)
      clear hx c6 e1
      obtain ⟨⟨c0, c1, c2⟩, f0, f1, f2⟩ := three_cells hb2
      clear hb2
      go_wp2_with fail
      refine bodyPost_ret (v := .tuple #[.agg #[.int .i64 0, .int .i64 0, .int .i64 0], .int .i64 80]) ?_ rfl ⟨?_, ?_⟩
      · simp [results, Tryz.results74, go_sem, c0, c1, c2]
      · rw [uF_no HV.out, uF_no HV.out, uF_no HV.out, uE_no HV.out]; rfl
      · exact three_ext HE.out (Nat.le_refl _) _ _ _
  · have HV := Lib.hid (uV_len (l := l) (by rw [hb.len]; exact h13))
    have hne : ((n : Int) != (13 : Int)) = true := by rw [bne_iff_ne]; omega
    obtain ⟨⟨c0, c1, c2⟩, f0, f1, f2⟩ := three_cells hz
    clear hb hE hz h13
    go_enter Tryz.func74, Tryz.ntmps74
    go_wp2_with fail
    refine bodyPost_ret (v := .tuple #[.agg #[.int .i64 0, .int .i64 0, .int .i64 0], .int .i64 80]) ?_ rfl ⟨?_, ?_⟩
    · simp [results, Tryz.results74, go_sem, c0, c1, c2]
    · rw [uF_no HV.out, uF_no HV.out, uF_no HV.out, uE_no HV.out]; rfl
    · exact HE.out
end Go.Proofs.YtlikhmhomkiadaaGreatDoor

namespace Go.Proofs.YtlikhmhomkiadaaGreatDoor
set_option maxRecDepth 100000

variable {r : Int}
/-- A good copy at a place of a replica. -/
structure CopU (r : Int) (x : List Nat) (g p : Int) (v c : Nat) (b : List Nat) : Prop where
  st : stM x r g p = 1
  v3 : mfl x r g p 3 = v
  c4 : mfl x r g p 4 = c
  bd : mbl x r g p = b
theorem cop_sealU {g p : Int} {i c : Nat} {b : List Nat} (h : mayB r g p (i : Int) (c : Int) = true) (hn : b.length ≤ 43) : CopU r (sealC r g p i c b) g p i c b := by
  obtain ⟨h1, _, h3, _, _, _, h4, h5⟩ := seal_mine (seal_one (n := b.length) h hn)
  exact ⟨h1, Int.ofNat.inj h4, Int.ofNat.inj h5, h3⟩
/-- What is loaded of two places. -/
structure LddU (r : Int) (g : Int) (x y : List Nat) (E : Int) (v : Nat) (b : List Nat) : Prop where
  e : cellE r g x y = E
  v : cellF r g x y 3 = v
  b : cellB r g x y = b
section
variable {g : Int} {x y : List Nat} {v c u d : Nat} {b e : List Nat}
theorem at0U (h : CopU r x g 0 v c b) (hy : mfl y r g 1 3 ≤ v) : atC r g x y = 0 := by
  unfold atC pickP lead0
  rw [h.st, h.v3, decide_eq_true hy]
  rfl
theorem at1U (h : CopU r y g 1 v c b) (hx : mfl x r g 0 3 < v ∨ stM x r g 0 ≠ 1) : atC r g x y = 1 := by
  have hx2 : lead0 r g x y = false := by
    unfold lead0
    rw [h.v3]
    rcases hx with hx | hx
    · rw [decide_eq_false (p := v ≤ _) (by omega)]; simp
    · rw [decide_eq_false hx]; rfl
  have hx3 : mfl x r g 0 3 ≤ v := by
    rcases hx with hx | hx
    · omega
    · rw [no_copy hx]; omega
  unfold atC pickP
  rw [hx2]
  unfold lead1
  rw [h.st, h.v3, decide_eq_true hx3]
  rfl
theorem atmU (hx : stM x r g 0 ≠ 1) (hy : stM y r g 1 ≠ 1) : atC r g x y = -1 := by
  unfold atC pickP lead0 lead1
  rw [decide_eq_false hx, decide_eq_false hy]
  rfl
theorem ldd0U (h : CopU r x g 0 v c b) (hy : mfl y r g 1 3 ≤ v) : LddU r g x y 0 v b := by
  have ha := at0U h hy
  exact ⟨by unfold cellE; rw [ha, if_neg (by omega)], by unfold cellF; rw [if_pos ha, h.v3], by unfold cellB; rw [if_pos ha, h.bd]⟩
theorem ldd1U (h : CopU r y g 1 v c b) (hx : mfl x r g 0 3 < v ∨ stM x r g 0 ≠ 1) : LddU r g x y 0 v b := by
  have ha := at1U h hx
  exact ⟨by unfold cellE; rw [ha, if_neg (by omega)], by unfold cellF; rw [if_neg (by rw [ha]; omega), if_pos ha, h.v3], by unfold cellB; rw [if_neg (by rw [ha]; omega), if_pos ha, h.bd]⟩
theorem ldd_blankU (hx : stM x r g 0 = 0) (hy : stM y r g 1 = 0) : LddU r g x y 0 0 [] := by
  have ha := atmU (r := r) (g := g) (x := x) (y := y) (by omega) (by omega)
  refine ⟨?_, by unfold cellF; rw [ha]; rfl, by unfold cellB; rw [ha]; rfl⟩
  unfold cellE blankC pickP
  rw [hx, if_neg (by simp)]
end
/-- What is loaded of a disk. -/
structure LdU (r : Int) (m : DM) (g : Int) (v : Nat) (b : List Nat) : Prop where
  e : m.loadE r g = 0
  v : m.loadV r g = v
  b : m.loadB r g = b
section
variable {m : DM} {pw : Int} {g : Int} {v : Nat} {b : List Nat}
theorem CD.loadEU (h : CD m pw) (hg : g = 1 ∨ g = 2) : m.loadE r g = cellE r g (m.hold (secV g 0)) (m.hold (secV g 1)) := by
  unfold DM.loadE
  rw [if_neg (by rw [h.up]; simp), h.cb0 hg, h.cb1 hg]
theorem CD.ldU (h : CD m pw) (hg : g = 1 ∨ g = 2) (k : LddU r g (m.hold (secV g 0)) (m.hold (secV g 1)) 0 v b) : LdU r m g v b := by
  have he : m.loadE r g = 0 := by rw [h.loadEU hg]; exact k.e
  refine ⟨he, ?_, ?_⟩
  · unfold DM.loadV
    rw [if_pos he, h.cb0 hg, h.cb1 hg]
    exact k.v
  · unfold DM.loadB
    rw [if_pos he, h.cb0 hg, h.cb1 hg]
    exact k.b
end
/-- Both copies of a cell are of one version and body; or nothing was stored. -/
def TwoU (r : Int) (m : DM) (g : Int) (v : Nat) (b : List Nat) : Prop :=
  (v = 0 ∧ b = [] ∧ m.hold (secV g 0) = z64 ∧ m.hold (secV g 1) = z64) ∨ (1 ≤ v ∧ ∃ c d, CopU r (m.hold (secV g 0)) g 0 v c b ∧ CopU r (m.hold (secV g 1)) g 1 v d b)
theorem TwoU.of_eq {m m' : DM} {g : Int} {v : Nat} {b : List Nat} (h : TwoU r m g v b) (h0 : m'.hold (secV g 0) = m.hold (secV g 0)) (h1 : m'.hold (secV g 1) = m.hold (secV g 1)) : TwoU r m' g v b := by
  unfold TwoU
  rw [h0, h1]
  exact h
theorem TwoU.ldd {m : DM} {g : Int} {v : Nat} {b : List Nat} (h : TwoU r m g v b) : LddU r g (m.hold (secV g 0)) (m.hold (secV g 1)) 0 v b := by
  rcases h with ⟨rfl, rfl, h0, h1⟩ | ⟨hv, c, d, h0, h1⟩
  · rw [h0, h1]
    exact ldd_blankU (z64_blank r g 0) (z64_blank r g 1)
  · exact ldd0U h0 (by rw [h1.v3]; omega)
/-- What Store does to a cell both copies of which are the same. -/
theorem TwoU.store {m : DM} {pw : Int} {g : Int} {v : Nat} {b : List Nat} (hd : CD m pw) (hg : g = 1 ∨ g = 2) (h : TwoU r m g v b) (hv : v < 1099511627776) {c : Nat} (hc : 1 ≤ c ∧ c ≤ 1099511627776) {body : List Nat} (hn : body.length ≤ 43) :
    ∃ f o : Nat, f ≤ 1 ∧ o = 1 - f ∧ (v = 0 → f = 0) ∧ (1 ≤ v → f = 1) ∧ m.store r g (c : Int) body = m.two (secV g f) (secV g o) (sealC r g f (v + 1) c body) (sealC r g o (v + 1) c body) := by
  have hl := hd.ldU hg h.ldd
  have hE : m.storeE r g (c : Int) body.length = 0 := by
    unfold DM.storeE
    rw [if_neg (by omega), if_neg (by omega), if_neg (by rw [hl.e]; simp), if_neg (by rw [hl.v]; omega)]
  have hs : m.store r g (c : Int) body = m.puts2 r g (firstP r g (m.cb g 0) (m.cb g 1)) (v + 1) c body := by
    unfold DM.store
    rw [if_neg (by rw [hE]; simp), hl.v, Int.toNat_natCast]
  rw [hs, hd.cb0 hg, hd.cb1 hg]
  rcases h with ⟨rfl, rfl, h0, h1⟩ | ⟨hv1, c0, d0, h0, h1⟩
  · refine ⟨0, 1, by omega, rfl, fun _ => rfl, fun h => absurd h (by omega), ?_⟩
    have ha := atmU (r := r) (g := g) (x := z64) (y := z64) (by rw [z64_blank]; omega) (by rw [z64_blank]; omega)
    have hf : firstP r g (m.hold (secV g 0)) (m.hold (secV g 1)) = 0 := by unfold firstP; rw [h0, h1, if_neg (by rw [ha]; omega)]
    rw [hf]
    unfold DM.puts2 DM.two
    rw [show firstS g 0 = (secV g 0 : Nat) from secV_first hg (p := 0) (by omega), show firstS g (otherP 0) = (secV g 1 : Nat) from secV_first hg (p := 1) (by omega)]
    rfl
  · refine ⟨1, 0, by omega, rfl, fun h => absurd h (by omega), fun _ => rfl, ?_⟩
    have ha := at0U h0 (y := m.hold (secV g 1)) (by rw [h1.v3]; omega)
    have hf : firstP r g (m.hold (secV g 0)) (m.hold (secV g 1)) = 1 := by unfold firstP; rw [if_pos ha]
    rw [hf]
    unfold DM.puts2 DM.two
    rw [show firstS g 1 = (secV g 1 : Nat) from secV_first hg (p := 1) (by omega), show firstS g (otherP 1) = (secV g 0 : Nat) from secV_first hg (p := 0) (by omega)]
    rfl
theorem may_newU (hr : 0 ≤ r ∧ r < 7) {g : Int} (hg : g = 1 ∨ g = 2) {p : Nat} (hp : p ≤ 1) {v c : Nat} (hv : v < 1099511627776) (hc : 1 ≤ c ∧ c ≤ 1099511627776) : mayB r g (p : Int) ((v + 1 : Nat) : Int) (c : Int) = true := may_store (by omega) hg (by omega) hv (by omega)
/-- A Store that has power. -/
theorem TwoU.stored {m : DM} {g : Int} {v : Nat} {b : List Nat} (hr : 0 ≤ r ∧ r < 7) (hd : CD m (-1)) (hg : g = 1 ∨ g = 2) (h : TwoU r m g v b) (hv : v < 1099511627776) {c : Nat} (hc : 1 ≤ c ∧ c ≤ 1099511627776) {body : List Nat} (hn : body.length ≤ 43) (hb : ∀ x ∈ body, x < 256) :
    ∃ m', m.store r g (c : Int) body = (0, m') ∧ CD m' (-1) ∧ TwoU r m' g (v + 1) body ∧ (∀ t, t ≠ secV g 0 → t ≠ secV g 1 → m'.hold t = m.hold t) := by
  obtain ⟨f, o, hf, ho, _, _, hs⟩ := h.store hd hg hv hc hn
  have ho1 : o ≤ 1 := by omega
  obtain ⟨m', q, e, h1, h2, h3⟩ := hd.two_ok (a := secV g f) (b := secV g o) (.inl rfl) (secV_lt hg hf) (secV_lt hg ho1) (sealC_sect (may_newU hr hg hf hv hc) hn hb) (sealC_sect (may_newU hr hg ho1 hv hc) hn hb)
  obtain rfl := h2 rfl
  refine ⟨m', by rw [hs, e], h1, .inr ⟨by omega, c, c, ?_, ?_⟩, fun t t0 t1 => ?_⟩
  · have hff : f = 0 ∨ f = 1 := by omega
    rcases hff with rfl | rfl
    · obtain rfl : o = 1 := by omega
      rw [h3, if_neg secV_ne, if_pos rfl]
      exact cop_sealU (may_newU hr hg (p := 0) (by omega) hv hc) hn
    · obtain rfl : o = 0 := by omega
      rw [h3, if_pos rfl]
      exact cop_sealU (may_newU hr hg (p := 0) (by omega) hv hc) hn
  · have hff : f = 0 ∨ f = 1 := by omega
    rcases hff with rfl | rfl
    · obtain rfl : o = 1 := by omega
      rw [h3, if_pos rfl]
      exact cop_sealU (may_newU hr hg (p := 1) (by omega) hv hc) hn
    · obtain rfl : o = 0 := by omega
      rw [h3, if_neg (fun e => secV_ne e.symm), if_pos rfl]
      exact cop_sealU (may_newU hr hg (p := 1) (by omega) hv hc) hn
  · have hff : f = 0 ∨ f = 1 := by omega
    rw [h3]
    rcases hff with rfl | rfl
    · obtain rfl : o = 1 := by omega
      rw [if_neg t1, if_neg t0]
    · obtain rfl : o = 0 := by omega
      rw [if_neg t0, if_neg t1]
end Go.Proofs.YtlikhmhomkiadaaGreatDoor
