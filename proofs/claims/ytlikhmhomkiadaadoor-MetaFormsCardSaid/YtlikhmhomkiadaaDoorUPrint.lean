/-
  The contract of meta's Print; its bytes are the call's own.
-/
import Derived.Test.YtlikhmhomkiadaaDoorUNear
import Derived.Test.YtlikhmhomkiadaaDoorJBy
import Derived.Test.YtlikhmhomkiadaaDoorOBy
import Derived.Deep.RegionHeld3
namespace Go.Proofs.YtlikhmhomkiadaaDoor
open Go Go.RowKit

/-- A slice that lies in no block below. -/
def Fresh (n : Nat) (A : Option Addr) : Prop := ∀ g o, A = some ⟨g, o, none⟩ → n ≤ g
theorem Fresh.none_ (n : Nat) : Fresh n none := fun g o h => by cases h
theorem Fresh.le {n m : Nat} {A : Option Addr} (h : Fresh m A) (k : n ≤ m) : Fresh n A := fun g o e => Nat.le_trans k (h g o e)
theorem join2_own {A1 A2 : Option Addr} {n1 n2 c1 c2 : Nat} {l1 l2 : List Nat} (w : World) (h1 : By w A1 n1 c1 l1) (h2 : By w A2 n2 c2 l2) (hN : n1 + n2 ≤ 140737488355328) :
    Calls Tryd.prog 26 #[.slice (some ⟨w.heap.size, 0, none⟩) 2 2] (w.alloc (.cells #[.slice A1 n1 c1, .slice A2 n2 c2] 26)) fun e w' => ∃ A' c', e = .returned (.slice A' (n1 + n2) c') ∧ By w' A' (n1 + n2) c' (l1 ++ l2) ∧ Fresh w.heap.size A' ∧ Ext w w' := by
  have hcat : cat [(.slice A1 n1 c1, l1), (.slice A2 n2 c2, l2)] = l1 ++ l2 := by simp [cat]
  have hlen : (cat [(.slice A1 n1 c1, l1), (.slice A2 n2 c2, l2)]).length = n1 + n2 := by rw [hcat, List.length_append, h1.len, h2.len]
  refine (join_any _ 2 2 [(.slice A1 n1 c1, l1), (.slice A2 n2 c2, l2)] _ (parts_lit rfl rfl ?_) (by omega) (by rw [hlen]; exact hN)).mono ?_
  · intro p hp
    simp only [List.mem_cons, List.not_mem_nil, or_false] at hp
    rcases hp with rfl | rfl
    · exact ⟨_, _, _, rfl, h1⟩
    · exact ⟨_, _, _, rfl, h2⟩
  rintro e w' ⟨A', c', rfl, hown, hx⟩
  rw [hlen] at hown
  have hf : Fresh w.heap.size A' := fun g o e => by
    subst e
    have := (hown.lt g rfl).1
    simp at this
    omega
  rw [hcat] at hown
  rw [hlen]
  refine ⟨A', c', rfl, Bs.of_own hown ?_, hf, ((Ext.refl w).alloc _).trans hx⟩
  intro b hb
  simp only [List.mem_append] at hb
  rcases hb with h | h
  · exact h1.rd.lt b h
  · exact h2.rd.lt b h

theorem field_index (g k : Nat) (hk : k < 3) (w : World) : (Instr.index 61 (.agg #[.pointer (some ⟨g, 0, none⟩), .int .i64 6, .pointer (some ⟨g, 1, none⟩), .int .i64 1, .pointer (some ⟨g, 2, none⟩), .int .i64 6]) (.int .i64 k)).run Tryd.prog w = .ok (.agg #[.pointer (some ⟨g, k, none⟩), .int .i64 (uW k)]) w := by
  have hj' : k = 0 ∨ k = 1 ∨ k = 2 := by omega
  rcases hj' with rfl | rfl | rfl <;> (show _ = _; kernel_rfl)
theorem keepF {u V w' : World} {f g k : Nat} {p q x : Value} {t : TypeId} (hk : Hid (Ext u w')) (hV : u = V.drew) (h : Hid (V.heap[f]? = some (.cells #[p, q] t (0, 0)))) (hc : Hid (V.cell? ⟨g, k, none⟩ = some x)) :
    w'.cell? ⟨f, 1, none⟩ = some q ∧ w'.cell? ⟨f, 0, none⟩ = some p ∧ w'.cell? ⟨g, k, none⟩ = some x := by
  subst hV
  have h2 := (hk.out.block f (Array.getElem?_eq_some_iff.1 h.out).1).trans h.out
  exact ⟨cell_of_row w' f 1 _ _ _ h2, cell_of_row w' f 0 _ _ _ h2, Ext.cell hk.out hc.out⟩
theorem three_at {w : World} {g k : Nat} {a b c : Nat} {t : TypeId} (h : w.heap[g]? = some (.cells #[.int .i64 a, .int .i64 b, .int .i64 c] t (0, 0))) (hk : k < 3) : w.cell? ⟨g, k, none⟩ = some (.int .i64 (uFld a b c k)) := by
  have hj' : k = 0 ∨ k = 1 ∨ k = 2 := by omega
  rcases hj' with rfl | rfl | rfl
  · exact cell_of_row w g 0 _ _ _ h
  · exact cell_of_row w g 1 _ _ _ h
  · exact cell_of_row w g 2 _ _ _ h

set_option maxRecDepth 100000 in
set_option maxHeartbeats 1600000 in
theorem printU_no (a b c : Int) (w : World) (hm : mayU a b c = false) :
    Calls Tryd.prog 8 #[.agg #[.int .i64 a, .int .i64 b, .int .i64 c]] w fun r w' => r = .returned (.tuple #[.slice none 0 0, .int .i64 2]) ∧ Ext w w' := by
  have hE := (Ext.refl w).alloc (.cells #[.int .i64 a, .int .i64 b, .int .i64 c] 25)
  have HE := Lib.hid hE
  have HM := Lib.hid hm
  clear hE hm
  go_enter Tryd.func8, Tryd.ntmps8
  go_wp2_with fail
  refine (mayU_any _ _ _ _).mono ?_
  rw [HM.out]
  rintro r w1 ⟨rfl, hx⟩
  have HE := Lib.hid (HE.out.trans hx)
  clear hx
  go_wp2_with fail
  go_ret2
  exact ⟨rfl, HE.out⟩

set_option maxRecDepth 100000 in
set_option maxHeartbeats 1600000 in
theorem printU_yes (a b c : Nat) (w : World) (hL : Laid w) (hm : mayU a b c = true) :
    Calls Tryd.prog 8 #[.agg #[.int .i64 a, .int .i64 b, .int .i64 c]] w fun r w' => ∃ A cp, r = .returned (.tuple #[.slice A 13 cp, .int .i64 0]) ∧ By w' A 13 cp (uBytes a b c) ∧ Fresh w.heap.size A ∧ Ext w w' := by
  have hE := (Ext.refl w).alloc (.cells #[.int .i64 a, .int .i64 b, .int .i64 c] 25)
  have HT := Lib.hid (heap_alloc_new w (.cells #[.int .i64 a, .int .i64 b, .int .i64 c] 25))
  have HL := Lib.hid (hL.ext hE)
  have HE := Lib.hid hE
  have HM := Lib.hid hm
  clear hE hm hL
  go_enter Tryd.func8, Tryd.ntmps8
  go_wp2_with fail
  refine (mayU_any _ _ _ _).mono ?_
  rw [HM.out]
  rintro r w1 ⟨rfl, hx⟩
  have HT := Lib.hid ((hx.block _ (Array.getElem?_eq_some_iff.1 HT.out).1).trans HT.out)
  have HL := Lib.hid (HL.out.ext hx)
  have HE := Lib.hid (HE.out.trans hx)
  clear hx
  go_wp2_with fail
  refine (fieldsU _ _ _ _ _ HT.out).mono ?_
  unfold fieldsV
  rintro r w2 ⟨rfl, hx⟩
  have HT := Lib.hid ((hx.block _ (Array.getElem?_eq_some_iff.1 HT.out).1).trans HT.out)
  have HL := Lib.hid (HL.out.ext hx)
  have HE := Lib.hid (HE.out.trans hx)
  clear hx
  generalize hg : w.heap.size = g at *
  go_wp2_with fail
  go_loopw [4, 13] (fun v i wr => ∃ k : Nat, k ≤ 3 ∧ i = .int .i64 k ∧ ∃ A n cp, v = .slice A n cp ∧ Hid (By wr A n cp (uPre (uFld a b c) k)) ∧ Hid (Fresh g A) ∧ Hid (Ext w2 wr)) (fun _ i _ => 3 - (intOf i).toNat)
  case atStart => exact ⟨0, Nat.zero_le _, rfl, none, 0, 0, rfl, Lib.hid (By.nil_ _), Lib.hid (Fresh.none_ _), Lib.hid (Ext.refl _)⟩
  case round =>
    obtain ⟨k, hk, rfl, A, n, cp, rfl, HB, HF, HX⟩ := hrel
    by_cases hlt : k < 3
    · have hn : n ≤ 18 := by
        have h1 := HB.out.len
        have h2 := uPre_len_le (uFld a b c) k
        omega
      have hcap := HB.out.cap
      have hI := field_index g k hlt
      have hwl := uW_le k
      have HTr : Hid (wr.heap[g]? = _) := Lib.hid ((HX.out.block _ (Array.getElem?_eq_some_iff.1 HT.out).1).trans HT.out)
      have HV := Lib.hid (heap_alloc_new wr (.cells #[.pointer (some ⟨g, k, none⟩), .int .i64 (uW k)] 60))
      have HC : Hid ((wr.alloc (.cells #[.pointer (some ⟨g, k, none⟩), .int .i64 (uW k)] 60)).cell? ⟨g, k, none⟩ = _) := Lib.hid (Ext.cell ((Ext.refl wr).alloc _) (three_at HTr.out hlt))
      go_wp2_with fail
      have hk1 : Hid (Ext (wr.alloc (.cells #[.pointer (some ⟨g, k, none⟩), .int .i64 (uW k)] 60)).drew (wr.alloc (.cells #[.pointer (some ⟨g, k, none⟩), .int .i64 (uW k)] 60)).drew) := Lib.hid (Ext.refl _)
      have HXV : Hid (Ext wr (wr.alloc (.cells #[.pointer (some ⟨g, k, none⟩), .int .i64 (uW k)] 60)).drew) := Lib.hid ((Ext.refl wr).alloc _).drew
      go_region_held3 (fun w' => w'.cell? ⟨wr.heap.size, 1, none⟩ = some (.int .i64 (uW k)) ∧ w'.cell? ⟨wr.heap.size, 0, none⟩ = some (.pointer (some ⟨g, k, none⟩)) ∧ w'.cell? ⟨g, k, none⟩ = some (.int .i64 (uFld a b c k)))
        (first | exact keepF (by assumption) rfl HV HC)
        (first
          | (go_at_call 25; ((with_reducible refine (put_by _ _ _ (HL.out.ext (HX.out.trans HXV.out)) (uFld_fits HM.out k)).mono ?_); rintro r w3 ⟨A2, c2, rfl, hb, hx⟩; have HB2 := Lib.hid hb; have HK1 := Lib.hid hx; have HX3 := Lib.hid (HXV.out.trans hx); clear hb hx)))
      have HB := Lib.hid (HB.out.ext HX3.out)
      have HX := Lib.hid (HX.out.trans HX3.out)
      clear hI hk1 HK1
      go_wp2_with fail
      refine (join2_own _ HB.out HB2.out (by omega)).mono ?_
      rintro r w4 ⟨A3, c3, rfl, hb, hf, hx⟩
      have HB3 := Lib.hid hb
      have HF3 := Lib.hid (hf.le (Nat.le_trans (Nat.le_of_eq hg.symm) (Nat.le_trans (Ext.size HE.out) (Ext.size HX.out))))
      have HX := Lib.hid (HX.out.trans hx)
      clear hx hb hf
      go_wp2_with fail
      go_roundw
      case rel => exact ⟨k + 1, by omega, by go_num, A3, _, c3, rfl, HB3, HF3, HX⟩
      case measure => simp [intOf]; omega
    · have HK : Hid (k = 3) := Lib.hid (by omega)
      have hb := HB.out
      rw [HK.out] at hb
      have hn : n = 13 := hb.len.symm.trans (uBytes_len a b c)
      subst hn
      have HB := Lib.hid hb
      clear hb
      go_wp2_with fail
      go_ret2
      exact ⟨A, cp, rfl, HB.out, hg.symm ▸ HF.out, HE.out.trans HX.out⟩

theorem printU_any (a b c : Int) (w : World) (hL : Laid w) :
    Calls Tryd.prog 8 #[.agg #[.int .i64 a, .int .i64 b, .int .i64 c]] w fun r w' => ∃ A cp, r = .returned (.tuple #[.slice A (uL a b c).length cp, .int .i64 (uR a b c)]) ∧ By w' A (uL a b c).length cp (uL a b c) ∧ Fresh w.heap.size A ∧ Ext w w' := by
  by_cases h : mayU a b c = true
  · obtain ⟨a, b, c, rfl, rfl, rfl⟩ := mayU_nat h
    rw [uL_yes h, uR_yes h]
    simp only [Int.toNat_natCast, uBytes_len]
    exact printU_yes a b c w hL h
  · have h' : mayU a b c = false := by simpa using h
    rw [uL_no h', uR_no h']
    exact (printU_no a b c w h').mono fun _ w' ⟨h1, h2⟩ => ⟨none, 0, h1, By.nil_ w', Fresh.none_ _, h2⟩
end Go.Proofs.YtlikhmhomkiadaaDoor
