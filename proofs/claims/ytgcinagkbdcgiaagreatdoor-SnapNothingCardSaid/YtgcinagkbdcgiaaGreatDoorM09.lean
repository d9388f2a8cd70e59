/-
  The contract of the program's Parse.
-/
import Derived.Test.YtgcinagkbdcgiaaGreatDoorM00
import Derived.Test.YtgcinagkbdcgiaaGreatDoorM01
import Derived.Test.YtgcinagkbdcgiaaGreatDoorM03
import Derived.Test.YtgcinagkbdcgiaaGreatDoorM07
import Derived.Test.YtgcinagkbdcgiaaGreatDoorM08
import Derived.OwnWalk
import Derived.LaidMore
import Derived.Lib.LaidTab
import Derived.Stop.LaidErr
import Derived.Deep.Fields
import Derived.OpenShut
import Derived.ProofKit
import Derived.Test.YtgcinagkbdcgiaaGreatDoorRows
import Derived.Stop.Joined
namespace Go.Proofs.YtgcinagkbdcgiaaGreatDoor
set_option maxRecDepth 100000
section
open Go Go.RowKit
def pc (l : List Nat) (k j : Nat) : Value := .int .i64 ((if j < k then pfld l j else 0 : Nat) : Int)
def prow (l : List Nat) (k : Nat) : Array Value := #[pc l k 0, pc l k 1, pc l k 2, pc l k 3, pc l k 4]
theorem prow_step (l : List Nat) {k : Nat} (h : k < 5) : (prow l k).setIfInBounds k (.int .i64 (pfld l k : Nat)) = prow l (k + 1) := by
  have hj' : k = 0 ∨ k = 1 ∨ k = 2 ∨ k = 3 ∨ k = 4 := by omega
  rcases hj' with rfl | rfl | rfl | rfl | rfl <;> simp [prow, pc]
structure PS (w : World) (l : List Nat) (k : Nat) (w' : World) : Prop where
  blank : w'.heap[w.heap.size]? = some (.cells #[.int .i64 0, .int .i64 0, .int .i64 0, .int .i64 0, .int .i64 0] 44 (0, 0))
  row : w'.heap[w.heap.size + 1]? = some (.cells (prow l k) 44 (0, 0))
  ext : Ext w w'
theorem PS.start (w : World) (l : List Nat) : PS w l 0 ((w.alloc (.cells #[.int .i64 0, .int .i64 0, .int .i64 0, .int .i64 0, .int .i64 0] 44)).alloc (.cells #[.int .i64 0, .int .i64 0, .int .i64 0, .int .i64 0, .int .i64 0] 44)) := by
  refine ⟨?_, heap_alloc2_new w _ _, ((Ext.refl w).alloc _).alloc _⟩
  rw [heap_alloc_old _ _ (by simp)]
  exact heap_alloc_new w _
theorem PS.step {w w' : World} {l : List Nat} {k : Nat} (h : PS w l k w') (hk : k < 5) : PS w l (k + 1) (w'.setCell ⟨w.heap.size + 1, k, none⟩ (.int .i64 (pfld l k : Nat))) := by
  have hs := setCell_eq_setRow w' (w.heap.size + 1) k (prow l k) 44 (0, 0) (.int .i64 (pfld l k : Nat)) h.row
  rw [hs, prow_step l hk]
  exact ⟨(setRow_other w' _ _ _ (by omega)).trans h.blank, setRow_heap w' _ _ _ _ _ h.row, below_setRow h.ext (by omega) _⟩
theorem PS.cell {w w' : World} {l : List Nat} {k : Nat} (h : PS w l k w') (j : Nat) : w'.cell? ⟨w.heap.size + 1, j, none⟩ = (prow l k)[j]? := cell_of_row w' _ j _ _ _ h.row
theorem PS.free {w w' : World} {l : List Nat} {k : Nat} (h : PS w l k w') (j : Nat) : w'.frozen? ⟨w.heap.size + 1, j, none⟩ = false := frozen_of_row w' _ j _ _ h.row
theorem ptr_index (g k : Nat) (hk : k < 5) (w : World) : (Instr.index 367 (.agg #[.pointer (some ⟨g, 0, none⟩), .pointer (some ⟨g, 1, none⟩), .pointer (some ⟨g, 2, none⟩), .pointer (some ⟨g, 3, none⟩), .pointer (some ⟨g, 4, none⟩)]) (.int .i64 k)).run Tryz.prog w = .ok (.pointer (some ⟨g, k, none⟩)) w := by
  have hj' : k = 0 ∨ k = 1 ∨ k = 2 ∨ k = 3 ∨ k = 4 := by omega
  rcases hj' with rfl | rfl | rfl | rfl | rfl <;> (show _ = _; kernel_rfl)
theorem get_fld {l : List Nat} {k : Nat} (hk : k < 5) (h : pos k + wth k ≤ l.length) : getS l (pos k) (wth k) = (pfld l k, pos (k + 1), 0) := by
  rw [getS_yes (wth_wOk k) (by omega) (by omega) (by omega), pos_step hk]
  rfl
theorem get_no {l : List Nat} {k : Nat} (h : l.length < pos k + wth k) (hp : pos k ≤ l.length) : getS l (pos k) (wth k) = (0, 0, 10) := getS_short (wth_wOk k) (by omega) (by omega) (by omega)
theorem five_cells {w : World} {g : Nat} {x0 x1 x2 x3 x4 : Value} (h : w.heap[g]? = some (.cells #[x0, x1, x2, x3, x4] 44 (0, 0))) :
    (w.cell? ⟨g, 0, none⟩ = some x0 ∧ w.cell? ⟨g, 1, none⟩ = some x1 ∧ w.cell? ⟨g, 2, none⟩ = some x2 ∧ w.cell? ⟨g, 3, none⟩ = some x3 ∧ w.cell? ⟨g, 4, none⟩ = some x4) ∧
      (w.frozen? ⟨g, 0, none⟩ = false ∧ w.frozen? ⟨g, 1, none⟩ = false ∧ w.frozen? ⟨g, 2, none⟩ = false ∧ w.frozen? ⟨g, 3, none⟩ = false ∧ w.frozen? ⟨g, 4, none⟩ = false) :=
  ⟨⟨cell_of_row w g 0 _ _ _ h, cell_of_row w g 1 _ _ _ h, cell_of_row w g 2 _ _ _ h, cell_of_row w g 3 _ _ _ h, cell_of_row w g 4 _ _ _ h⟩,
    ⟨frozen_of_row w g 0 _ _ h, frozen_of_row w g 1 _ _ h, frozen_of_row w g 2 _ _ h, frozen_of_row w g 3 _ _ h, frozen_of_row w g 4 _ _ h⟩⟩
theorem five_ext {w w' : World} (h : Ext w w') {g : Nat} (hg : w.heap.size ≤ g) (x0 x1 x2 x3 x4 : Value) :
    Ext w (((((w'.setCell ⟨g, 0, none⟩ x0).setCell ⟨g, 1, none⟩ x1).setCell ⟨g, 2, none⟩ x2).setCell ⟨g, 3, none⟩ x3).setCell ⟨g, 4, none⟩ x4) :=
  ((((h.setCell (p := ⟨g, 0, none⟩) hg _).setCell (p := ⟨g, 1, none⟩) hg _).setCell (p := ⟨g, 2, none⟩) hg _).setCell (p := ⟨g, 3, none⟩) hg _).setCell (p := ⟨g, 4, none⟩) hg _
set_option maxHeartbeats 3200000 in
theorem parse_any (A : Option Addr) (n cp : Nat) (l : List Nat) (w : World) (hL : LaidA w) (hb : By w A n cp l) (hn : n ≤ 9000000000000000000) :
    Calls Tryz.prog 290 #[.slice A n cp] w fun r w' => r = .returned (.tuple #[.agg #[.int .i64 (pf l 0), .int .i64 (pf l 1), .int .i64 (pf l 2), .int .i64 (pf l 3), .int .i64 (pf l 4)], .int .i64 (pe l)]) ∧ Ext w w' := by
  have HS := Lib.hid (PS.start w l)
  have HL := Lib.hid hL
  have HB := Lib.hid hb
  clear hL hb
  go_enter Tryz.func290, Tryz.ntmps290
  go_wp2_with fail
  go_loopw [5, 17] (fun p i wr => ∃ k : Nat, k ≤ 5 ∧ i = .int .i64 k ∧ p = .int .i64 (pos k) ∧ pos k ≤ n ∧ Hid (PS w l k wr)) (fun _ i _ => 5 - (intOf i).toNat)
  case atStart => exact ⟨0, Nat.zero_le _, rfl, rfl, Nat.zero_le _, HS⟩
  case round =>
    obtain ⟨k, hk, rfl, rfl, hp, HP⟩ := hrel
    by_cases hlt : k < 5
    · have hW := (HL.out.ext HP.out.ext).w k hlt
      have hI := ptr_index (w.heap.size + 1) k hlt
      have hwl := wth_le k
      by_cases hsh : n < pos k + wth k
      · have HG := Lib.hid (get_no (l := l) (k := k) (by rw [HB.out.len]; exact hsh) (by rw [HB.out.len]; exact hp))
        have hp15 := pos_le (k + 1)
        rw [pos_step hlt] at hp15
        have HV := Lib.hid (PV_len (l := l) (by rw [HB.out.len]; omega))
        clear hp15
        go_wp2_with fail
        refine (oget_any A l n cp _ _ _ _ (HL.out.ext HP.out.ext).o HB.out.len (HB.out.ext HP.out.ext).rd hn).mono ?_
        rw [HG.out]
        rintro r w2 ⟨rfl, rfl⟩
        obtain ⟨⟨c0, c1, c2, c3, c4⟩, f0, f1, f2, f3, f4⟩ := five_cells HP.out.blank
        go_wp2_with fail
        refine bodyPost_ret (v := .tuple #[.agg #[.int .i64 0, .int .i64 0, .int .i64 0, .int .i64 0, .int .i64 0], .int .i64 30]) ?_ rfl ⟨?_, ?_⟩
        · simp [results, Tryz.results290, go_sem, c0, c1, c2, c3, c4]
        · rw [pf_no HV.out, pf_no HV.out, pf_no HV.out, pf_no HV.out, pf_no HV.out, pe_no HV.out]; rfl
        · exact five_ext HP.out.ext (Nat.le_refl _) _ _ _ _ _
      · have HG := Lib.hid (get_fld (l := l) hlt (by rw [HB.out.len]; omega))
        have c := HP.out.cell k
        obtain ⟨v, hv⟩ : ∃ v, (prow l k)[k]? = some v := ⟨_, Array.getElem?_eq_getElem (by simpa [prow] using hlt)⟩
        rw [hv] at c
        have f := HP.out.free k
        have HPS := Lib.hid (HP.out.step hlt)
        have hle : pos (k + 1) ≤ n := by rw [pos_step hlt]; omega
        clear hv
        go_wp2_with fail
        refine (oget_any A l n cp _ _ _ _ (HL.out.ext HP.out.ext).o HB.out.len (HB.out.ext HP.out.ext).rd hn).mono ?_
        rw [HG.out]
        rintro r w2 ⟨rfl, rfl⟩
        go_wp2_with fail
        go_roundw
        case rel => exact ⟨k + 1, by omega, by go_num, rfl, hle, HPS⟩
        case measure => simp [intOf]; omega
    · have hk5 : k = 5 := by omega
      subst hk5
      have hle : 15 ≤ n := hp
      obtain ⟨⟨c0, c1, c2, c3, c4⟩, f0, f1, f2, f3, f4⟩ := five_cells HP.out.blank
      have hrow : wr.heap[w.heap.size + 1]? = some (.cells #[.int .i64 (pfld l 0), .int .i64 (pfld l 1), .int .i64 (pfld l 2), .int .i64 (pfld l 3), .int .i64 (pfld l 4)] 44 (0, 0)) := HP.out.row
      have HR := Lib.hid hrow
      rw [show pos 5 = 15 from rfl]
      obtain ⟨⟨d0, d1, d2, d3, d4⟩, _⟩ := five_cells hrow
      clear hrow
      by_cases h15 : n = 15
      · subst h15
        have hlt0 : w.heap.size < wr.heap.size := (Array.getElem?_eq_some_iff.1 HP.out.blank).1
        have hlt1 : w.heap.size + 1 < wr.heap.size := (Array.getElem?_eq_some_iff.1 HR.out).1
        by_cases hm : mayB (pfld l 0) (pfld l 1) (pfld l 2) (pfld l 3) (pfld l 4) = true
        · have HV := Lib.hid (PV_both HB.out.len hm)
          have HM := Lib.hid hm
          clear hm
          go_wp2_with fail
          refine (may_any _ _ _ _ _ _ (HL.out.ext HP.out.ext).t).mono ?_
          rw [HM.out]
          rintro r w2 ⟨rfl, hx⟩
          have hb2 := (hx.block _ hlt0).trans HP.out.blank
          have hr2 := (hx.block _ hlt1).trans HR.out
          have HE := Lib.hid (HP.out.ext.trans hx)
          clear c0 c1 c2 c3 c4 f0 f1 f2 f3 f4 d0 d1 d2 d3 d4 hx hlt0 hlt1
          obtain ⟨⟨c0, c1, c2, c3, c4⟩, f0, f1, f2, f3, f4⟩ := five_cells hb2
          obtain ⟨⟨d0, d1, d2, d3, d4⟩, _⟩ := five_cells hr2
          clear hb2 hr2
          go_wp2_with fail
          refine bodyPost_ret (v := .tuple #[.agg #[.int .i64 (pfld l 0), .int .i64 (pfld l 1), .int .i64 (pfld l 2), .int .i64 (pfld l 3), .int .i64 (pfld l 4)], .int .i64 0]) ?_ rfl ⟨?_, ?_⟩
          · simp [results, Tryz.results290, go_sem, c0, c1, c2, c3, c4]
          · rw [pf_yes HV.out, pf_yes HV.out, pf_yes HV.out, pf_yes HV.out, pf_yes HV.out, pe_yes HV.out]
          · exact five_ext HE.out (Nat.le_refl _) _ _ _ _ _
        · have hm' : mayB (pfld l 0) (pfld l 1) (pfld l 2) (pfld l 3) (pfld l 4) = false := by simpa using hm
          have HV := Lib.hid (PV_may hm')
          have HM := Lib.hid hm'
          clear hm hm'
          go_wp2_with fail
          refine (may_any _ _ _ _ _ _ (HL.out.ext HP.out.ext).t).mono ?_
          rw [HM.out]
          rintro r w2 ⟨rfl, hx⟩
          have hb2 := (hx.block _ hlt0).trans HP.out.blank
          have HE := Lib.hid (HP.out.ext.trans hx)
          clear c0 c1 c2 c3 c4 f0 f1 f2 f3 f4 d0 d1 d2 d3 d4 hx hlt0 hlt1
          obtain ⟨⟨c0, c1, c2, c3, c4⟩, f0, f1, f2, f3, f4⟩ := five_cells hb2
          clear hb2
          go_wp2_with fail
          refine bodyPost_ret (v := .tuple #[.agg #[.int .i64 0, .int .i64 0, .int .i64 0, .int .i64 0, .int .i64 0], .int .i64 30]) ?_ rfl ⟨?_, ?_⟩
          · simp [results, Tryz.results290, go_sem, c0, c1, c2, c3, c4]
          · rw [pf_no HV.out, pf_no HV.out, pf_no HV.out, pf_no HV.out, pf_no HV.out, pe_no HV.out]; rfl
          · exact five_ext HE.out (Nat.le_refl _) _ _ _ _ _
      · have HV := Lib.hid (PV_len (l := l) (by rw [HB.out.len]; exact h15))
        have hne : ((15 : Int) != (n : Int)) = true := by rw [bne_iff_ne]; omega
        go_wp2_with fail
        refine bodyPost_ret (v := .tuple #[.agg #[.int .i64 0, .int .i64 0, .int .i64 0, .int .i64 0, .int .i64 0], .int .i64 30]) ?_ rfl ⟨?_, ?_⟩
        · simp [results, Tryz.results290, go_sem, c0, c1, c2, c3, c4]
        · rw [pf_no HV.out, pf_no HV.out, pf_no HV.out, pf_no HV.out, pf_no HV.out, pe_no HV.out]; rfl
        · exact five_ext HP.out.ext (Nat.le_refl _) _ _ _ _ _
end
section
open Go Go.RowKit
structure LaidF (w : World) : Prop where
  a : LaidA w
  h : LaidH w
theorem LaidF.ext {a b : World} (h : LaidF a) (k : Ext a b) : LaidF b := ⟨h.a.ext k, fun i hi => Ext.cell k (h.h i hi)⟩
def sealE (a b c d e : Int) (n : Nat) (s : Int) : Int := if roomN s = 0 ∨ mayB a b c d e = false then 2 else if roomN s < n then 3 else 0
def sealL (a b c d e : Int) (body : List Nat) (s : Int) : List Nat := if sealE a b c d e body.length s = 0 then frameL body (pl a b c d e) s.toNat else []
theorem sealE_arg {a b c d e s : Int} {n : Nat} (h : roomN s = 0 ∨ mayB a b c d e = false) : sealE a b c d e n s = 2 := by unfold sealE; rw [if_pos h]
theorem sealE_long {a b c d e s : Int} {n : Nat} (h : roomN s ≠ 0) (hm : mayB a b c d e = true) (hn : roomN s < n) : sealE a b c d e n s = 3 := by unfold sealE; rw [if_neg (by rw [hm]; simpa using h), if_pos hn]
theorem sealE_yes {a b c d e s : Int} {n : Nat} (h : roomN s ≠ 0) (hm : mayB a b c d e = true) (hn : n ≤ roomN s) : sealE a b c d e n s = 0 := by unfold sealE; rw [if_neg (by rw [hm]; simpa using h), if_neg (by omega)]
theorem sealL_no {a b c d e s : Int} {body : List Nat} (h : sealE a b c d e body.length s ≠ 0) : sealL a b c d e body s = [] := by unfold sealL; rw [if_neg h]
theorem sealL_yes {a b c d e s : Int} {body : List Nat} (h : sealE a b c d e body.length s = 0) : sealL a b c d e body s = frameL body (pl a b c d e) s.toNat := by unfold sealL; rw [if_pos h]
theorem frame_split (body own : List Nat) (S m : Nat) (hm : m = 64 * S - 21 - body.length) : digs 2 body.length ++ own ++ body ++ List.replicate m 0 = frameH body own S := by subst hm; rfl
theorem sum_by (A : Option Addr) (l : List Nat) (n c : Nat) (w : World) (hL : LaidH w) (hb : By w A n c l) :
    Calls Tryz.prog 220 #[.slice A n c] w fun e w' => e = .returned (.int .u32 ((crcS l : Nat) : Int)) ∧ Ext w w' :=
  (sum_any A l n c _ w hL hb.len hb.rd (by have := hb.cap; have := hb.most; unfold maxLen; omega)).mono fun _ _ ⟨h, hw⟩ => ⟨h, by subst hw; exact Ext.refl _⟩
theorem join4_by {A1 A2 A3 A4 : Option Addr} {n1 n2 n3 n4 c1 c2 c3 c4 : Nat} {l1 l2 l3 l4 : List Nat} (w : World) (h1 : By w A1 n1 c1 l1) (h2 : By w A2 n2 c2 l2) (h3 : By w A3 n3 c3 l3) (h4 : By w A4 n4 c4 l4) (N : Nat) (hN : n1 + n2 + n3 + n4 = N) (hN2 : N ≤ 140737488355328) :
    Calls Tryz.prog 133 #[.slice (some ⟨w.heap.size, 0, none⟩) 4 4] (w.alloc (.cells #[.slice A1 n1 c1, .slice A2 n2 c2, .slice A3 n3 c3, .slice A4 n4 c4] 45)) fun e w' => ∃ A' c', e = .returned (.slice A' N c') ∧ By w' A' N c' (l1 ++ l2 ++ l3 ++ l4) ∧ Ext w w' := by
  have hcat : cat [(.slice A1 n1 c1, l1), (.slice A2 n2 c2, l2), (.slice A3 n3 c3, l3), (.slice A4 n4 c4, l4)] = l1 ++ l2 ++ l3 ++ l4 := by simp [cat]
  rw [← hcat]
  refine join_by _ 4 N w _ rfl rfl ?_ (by rw [hcat, List.length_append, List.length_append, List.length_append, h1.len, h2.len, h3.len, h4.len]; exact hN) ?_ (by omega) hN2
  · intro p hp
    simp only [List.mem_cons, List.not_mem_nil, or_false] at hp
    rcases hp with rfl | rfl | rfl | rfl
    · exact ⟨_, _, _, rfl, h1⟩
    · exact ⟨_, _, _, rfl, h2⟩
    · exact ⟨_, _, _, rfl, h3⟩
    · exact ⟨_, _, _, rfl, h4⟩
  · rw [hcat]
    intro b hb
    simp only [List.mem_append] at hb
    rcases hb with ((h | h) | h) | h
    · exact h1.rd.lt b h
    · exact h2.rd.lt b h
    · exact h3.rd.lt b h
    · exact h4.rd.lt b h
theorem join2_own {A1 A2 : Option Addr} {n1 n2 c1 c2 : Nat} {l1 l2 : List Nat} (w : World) (h1 : By w A1 n1 c1 l1) (h2 : By w A2 n2 c2 l2) (hN : n1 + n2 ≤ 140737488355328) :
    Calls Tryz.prog 133 #[.slice (some ⟨w.heap.size, 0, none⟩) 2 2] (w.alloc (.cells #[.slice A1 n1 c1, .slice A2 n2 c2] 45)) fun e w' => ∃ A' c', e = .returned (.slice A' (n1 + n2) c') ∧ w'.ownsRow w.heap.size 5 1 (.slice A' (n1 + n2) c') (n1 + n2) (vb (l1 ++ l2)) ∧ By w' A' (n1 + n2) c' (l1 ++ l2) ∧ Ext w w' := by
  have hcat : cat [(.slice A1 n1 c1, l1), (.slice A2 n2 c2, l2)] = l1 ++ l2 := by simp [cat]
  have hlen : (cat [(Value.slice A1 n1 c1, l1), (Value.slice A2 n2 c2, l2)]).length = n1 + n2 := by rw [hcat, List.length_append, h1.len, h2.len]
  refine (join_any _ 2 2 [(.slice A1 n1 c1, l1), (.slice A2 n2 c2, l2)] _ (parts_lit rfl rfl ?_) (by omega) (by rw [hlen]; omega)).mono ?_
  · intro p hp
    simp only [List.mem_cons, List.not_mem_nil, or_false] at hp
    rcases hp with rfl | rfl
    · exact ⟨_, _, _, rfl, h1⟩
    · exact ⟨_, _, _, rfl, h2⟩
  · rintro e w' ⟨A', c', rfl, hown, hx⟩
    rw [hlen, hcat] at hown
    rw [hlen]
    refine ⟨A', c', rfl, ?_, Bs.of_own hown (by intro b hb; rcases List.mem_append.1 hb with h | h; exact h1.rd.lt b h; exact h2.rd.lt b h), ((Ext.refl w).alloc _).trans hx⟩
    refine ⟨hown.1, ?_⟩
    rcases hown.2 with h0 | ⟨g, cap, cur, hv, hbg, hrest⟩
    · exact .inl h0
    · exact .inr ⟨g, cap, cur, hv, Nat.le_trans (by simp) hbg, hrest⟩
set_option maxHeartbeats 3200000 in
theorem seal_arg (a b c d e s : Int) (A : Option Addr) (n cp : Nat) (w : World) (hL : LaidF w) (h : roomN s = 0 ∨ mayB a b c d e = false) :
    Calls Tryz.prog 144 #[.agg #[.int .i64 a, .int .i64 b, .int .i64 c, .int .i64 d, .int .i64 e], .slice A n cp, .int .i64 s] w fun r w' => r = .returned (.tuple #[.slice none 0 0, .int .i64 2]) ∧ Ext w w' := by
  have hE := (Ext.refl w).alloc (.cells #[.int .i64 a, .int .i64 b, .int .i64 c, .int .i64 d, .int .i64 e] 44)
  have hT := heap_alloc_new w (.cells #[.int .i64 a, .int .i64 b, .int .i64 c, .int .i64 d, .int .i64 e] 44)
  have HL := Lib.hid hL
  have HE := Lib.hid hE
  obtain ⟨⟨i0, i1, i2, i3, i4⟩, _⟩ := five_cells hT
  clear hE hL hT
  by_cases h0 : roomN s = 0
  · clear h
    go_enter Tryz.func144, Tryz.ntmps144
    go_wp2_with fail
    refine (room_any _ _).mono ?_
    rw [h0]
    rintro r w1 ⟨rfl, rfl⟩
    go_wp2_with fail
    go_ret2
    exact ⟨rfl, HE.out⟩
  · have HM : Hid (mayB a b c d e = false) := Lib.hid (by rcases h with h | h; exact absurd h h0; exact h)
    have g0 : (((roomN s : Nat) : Int) == 0) = false := by simpa using h0
    clear h h0
    go_enter Tryz.func144, Tryz.ntmps144
    go_wp2_with fail
    refine (room_any _ _).mono ?_
    rintro r w1 ⟨rfl, rfl⟩
    generalize roomN s = R at *
    go_wp2_with fail
    refine (may_any _ _ _ _ _ _ (HL.out.ext HE.out).a.t).mono ?_
    rw [HM.out]
    rintro r w1 ⟨rfl, hx⟩
    have HE := Lib.hid (HE.out.trans hx)
    clear hx
    go_wp2_with fail
    go_ret2
    exact ⟨rfl, HE.out⟩
set_option maxHeartbeats 3200000 in
theorem seal_long (a b c d e s : Int) (A : Option Addr) (n cp : Nat) (w : World) (hL : LaidF w) (h0 : roomN s ≠ 0) (hm : mayB a b c d e = true) (hn : roomN s < n) :
    Calls Tryz.prog 144 #[.agg #[.int .i64 a, .int .i64 b, .int .i64 c, .int .i64 d, .int .i64 e], .slice A n cp, .int .i64 s] w fun r w' => r = .returned (.tuple #[.slice none 0 0, .int .i64 3]) ∧ Ext w w' := by
  have hE := (Ext.refl w).alloc (.cells #[.int .i64 a, .int .i64 b, .int .i64 c, .int .i64 d, .int .i64 e] 44)
  have hT := heap_alloc_new w (.cells #[.int .i64 a, .int .i64 b, .int .i64 c, .int .i64 d, .int .i64 e] 44)
  have HL := Lib.hid hL
  have HE := Lib.hid hE
  have HM := Lib.hid hm
  obtain ⟨⟨i0, i1, i2, i3, i4⟩, _⟩ := five_cells hT
  have g0 : (((roomN s : Nat) : Int) == 0) = false := by simpa using h0
  clear hE hL hT hm h0
  go_enter Tryz.func144, Tryz.ntmps144
  go_wp2_with fail
  refine (room_any _ _).mono ?_
  rintro r w1 ⟨rfl, rfl⟩
  generalize roomN s = R at *
  go_wp2_with fail
  refine (may_any _ _ _ _ _ _ (HL.out.ext HE.out).a.t).mono ?_
  rw [HM.out]
  rintro r w1 ⟨rfl, hx⟩
  have HE := Lib.hid (HE.out.trans hx)
  clear hx i0 i1 i2 i3 i4
  go_wp2_with fail
  go_ret2
  exact ⟨rfl, HE.out⟩
set_option maxHeartbeats 6400000 in
theorem seal_yes (a b c d e : Int) (S : Nat) (A : Option Addr) (n cp : Nat) (body : List Nat) (w : World) (hL : LaidF w) (hb : By w A n cp body) (h0 : roomN (S : Int) ≠ 0) (hm : mayB a b c d e = true) (hn : n ≤ roomN (S : Int)) :
    Calls Tryz.prog 144 #[.agg #[.int .i64 a, .int .i64 b, .int .i64 c, .int .i64 d, .int .i64 e], .slice A n cp, .int .i64 S] w fun r w' => ∃ A' c', r = .returned (.tuple #[.slice A' (64 * S) c', .int .i64 0]) ∧ By w' A' (64 * S) c' (frameL body (pl a b c d e) S) ∧ w'.ownsRow w.heap.size 5 1 (.slice A' (64 * S) c') (64 * S) (vb (frameL body (pl a b c d e) S)) ∧ Ext w w' := by
  obtain ⟨i0, hi, hz0, hz1, hz2⟩ := info_parts byte_info
  have hE := (Ext.refl w).alloc (.cells #[.int .i64 a, .int .i64 b, .int .i64 c, .int .i64 d, .int .i64 e] 44)
  have hT := heap_alloc_new w (.cells #[.int .i64 a, .int .i64 b, .int .i64 c, .int .i64 d, .int .i64 e] 44)
  have HL := Lib.hid hL
  have HE := Lib.hid hE
  have HM := Lib.hid hm
  have HB := Lib.hid hb
  have HT := Lib.hid hT
  obtain ⟨⟨j0, j1, j2, j3, j4⟩, _⟩ := five_cells hT
  have g0 : (((roomN (S : Int) : Nat) : Int) == 0) = false := by simpa using h0
  have hfit := room_fits hn (by omega)
  have h15 : (pl a b c d e).length = 15 := by rw [pl_yes hm, tagBytes_len]
  have hN : body.length = n := Bs.len hb
  have HN : Hid (body.length = n) := Lib.hid hN
  obtain ⟨m, hm4⟩ : ∃ m : Nat, m = 64 * S - 21 - n := ⟨_, rfl⟩
  have HH : Hid (digs 2 n ++ pl a b c d e ++ body ++ List.replicate m 0 = frameH body (pl a b c d e) S) := Lib.hid (by rw [← hN]; exact frame_split body _ S m (by rw [hN]; exact hm4))
  have HHl : Hid ((frameH body (pl a b c d e) S).length = 64 * S - 4) := Lib.hid (frameH_len h15 (by omega) (by omega))
  have hm5 : (S : Int) * 64 - 17 - (n : Int) - 4 = (m : Int) := by omega
  have hroomle := roomN_le (S : Int)
  have hmle : m ≤ 128 := by omega
  have HM4 : Hid (2 + 15 + n + m = 64 * S - 4 ∧ 64 * S - 4 + 4 = 64 * S) := Lib.hid (by omega)
  clear hE hL hT hm h0 hb hN hm4
  go_enter Tryz.func144, Tryz.ntmps144
  go_wp2_with fail
  refine (room_any _ _).mono ?_
  rintro r w1 ⟨rfl, rfl⟩
  generalize roomN (S : Int) = R at *
  go_wp2_with fail
  refine (may_any _ _ _ _ _ _ (HL.out.ext HE.out).a.t).mono ?_
  rw [HM.out]
  rintro r w1 ⟨rfl, hx⟩
  have HE := Lib.hid (HE.out.trans hx)
  have ht := (hx.block _ (Array.getElem?_eq_some_iff.1 HT.out).1).trans HT.out
  have HT := Lib.hid ht
  clear hx j0 j1 j2 j3 j4 ht
  go_wp2_with fail
  refine (put_by 2 n _ (HL.out.ext HE.out).a.o (fits_iff.2 ⟨rfl, by omega, by show n < 65536; omega⟩)).mono ?_
  rintro r w2 ⟨A2, c2, rfl, hb2, hx⟩
  have HB2 := Lib.hid hb2
  have HE := Lib.hid (HE.out.trans hx)
  have ht := (hx.block _ (Array.getElem?_eq_some_iff.1 HT.out).1).trans HT.out
  clear hx hb2
  obtain ⟨⟨j0, j1, j2, j3, j4⟩, _⟩ := five_cells ht
  clear ht
  go_wp2_with fail
  refine (print_any _ _ _ _ _ _ (HL.out.ext HE.out).a).mono ?_
  rw [h15]
  rintro r w3 ⟨A3, c3, rfl, hb3, hx⟩
  have HB3 := Lib.hid hb3
  have HB2 := Lib.hid (HB2.out.ext hx)
  have HE := Lib.hid (HE.out.trans hx)
  clear hx hb3 j0 j1 j2 j3 j4
  go_wp2_with (at_make; refine wpList_make_full _ rfl _ _ 45 rfl w3.heap.size 5 i0 (.int .u8 0) 1 Tryz.underlying45 hi hz0 hz1 .i64 .i64 _ _ m rfl rfl rfl rfl ?b1 ?b2 ?b3 ?_)
  case b1 => rw [hz2]; omega
  case b2 => unfold maxLen; omega
  case b3 => exact Nat.le_refl _
  intro w4 hown hg
  have HB4 : Hid (By w4 (some ⟨w3.heap.size, 0, none⟩) m m (List.replicate m 0)) := by
    have e : (madeCells #[Value.int .u8 0] m).toList = vb (List.replicate m 0) := by
      rw [toList_madeCells_one]
      simp [vb]
    rw [e] at hown
    exact Lib.hid (Bs.of_own hown (by intro b hb; rw [(List.mem_replicate.1 hb).2]; omega))
  have hx : Ext w3 w4 := (Below.refl w3.heap.size w3).grown hg (Nat.le_refl _) (by simp)
  have HB3 := Lib.hid (HB3.out.ext hx)
  have HB2 := Lib.hid (HB2.out.ext hx)
  have HE := Lib.hid (HE.out.trans hx)
  clear hx hown hg hm5
  go_wp2_with fail
  refine (join4_by _ HB2.out HB3.out (HB.out.ext HE.out) HB4.out (64 * S - 4) HM4.out.1 (by omega)).mono ?_
  rw [HH.out]
  rintro r w5 ⟨A5, c5, rfl, hb5, hx⟩
  have HB5 := Lib.hid hb5
  have HE := Lib.hid (HE.out.trans hx)
  clear hx hb5 HB2 HB3 HB4
  go_wp2_with fail
  refine (sum_by _ _ _ _ _ (HL.out.ext HE.out).h HB5.out).mono ?_
  rintro r w6 ⟨rfl, hx⟩
  have HB5 := Lib.hid (HB5.out.ext hx)
  have HE := Lib.hid (HE.out.trans hx)
  have hs : crcS (frameH body (pl a b c d e) S) < 4294967296 := crcE_lt _ _
  have HZ : Hid (frameH body (pl a b c d e) S ++ digs 4 (crcS (frameH body (pl a b c d e) S)) = frameL body (pl a b c d e) S) := Lib.hid rfl
  clear hx
  generalize crcS (frameH body (pl a b c d e) S) = z at *
  generalize frameH body (pl a b c d e) S = Hd at *
  go_wp2_with fail
  refine (put_by 4 z _ (HL.out.ext HE.out).a.o (fits_iff.2 ⟨rfl, by omega, by show z < 4294967296; omega⟩)).mono ?_
  rintro r w7 ⟨A7, c7, rfl, hb7, hx⟩
  have HB7 := Lib.hid hb7
  have HB5 := Lib.hid (HB5.out.ext hx)
  have HE := Lib.hid (HE.out.trans hx)
  clear hx hb7
  go_wp2_with fail
  refine (join2_own _ HB5.out HB7.out (by omega)).mono ?_
  rw [HZ.out, HM4.out.2]
  rintro r w8 ⟨A8, c8, rfl, ho8, hb8, hx⟩
  have HB8 := Lib.hid hb8
  have HO8 := Lib.hid ho8
  have HS7 := Lib.hid (Ext.size HE.out)
  have HE := Lib.hid (HE.out.trans hx)
  clear hx hb8 ho8
  go_wp2_with fail
  go_ret2
  refine ⟨A8, c8, rfl, HB8.out, ⟨HO8.out.1, ?_⟩, HE.out⟩
  rcases HO8.out.2 with h0 | ⟨g, cap, cur, hv, hbg, hrest⟩
  · exact .inl h0
  · exact .inr ⟨g, cap, cur, hv, Nat.le_trans HS7.out hbg, hrest⟩
theorem seal_own (a b c d e s : Int) (A : Option Addr) (n cp : Nat) (body : List Nat) (w : World) (hL : LaidF w) (hb : By w A n cp body) :
    Calls Tryz.prog 144 #[.agg #[.int .i64 a, .int .i64 b, .int .i64 c, .int .i64 d, .int .i64 e], .slice A n cp, .int .i64 s] w fun r w' => ∃ A' c', r = .returned (.tuple #[.slice A' (sealL a b c d e body s).length c', .int .i64 (sealE a b c d e n s)]) ∧ By w' A' (sealL a b c d e body s).length c' (sealL a b c d e body s) ∧ (sealE a b c d e n s = 0 → w'.ownsRow w.heap.size 5 1 (.slice A' (sealL a b c d e body s).length c') (sealL a b c d e body s).length (vb (sealL a b c d e body s))) ∧ Ext w w' := by
  have hlen : body.length = n := Bs.len hb
  by_cases h : roomN s = 0 ∨ mayB a b c d e = false
  · have hE := sealE_arg (n := n) h
    rw [sealL_no (by rw [hlen, hE]; omega), hE]
    exact (seal_arg a b c d e s A n cp w hL h).mono fun _ w' ⟨h1, h2⟩ => ⟨none, 0, h1, By.nil_ w', (fun h => by cases h), h2⟩
  · have h0 : roomN s ≠ 0 := fun hh => h (.inl hh)
    have hm : mayB a b c d e = true := by
      by_cases hm : mayB a b c d e = true
      · exact hm
      · exact absurd (.inr (by simpa using hm)) h
    by_cases hn : roomN s < n
    · have hE := sealE_long h0 hm hn
      rw [sealL_no (by rw [hlen, hE]; omega), hE]
      exact (seal_long a b c d e s A n cp w hL h0 hm hn).mono fun _ w' ⟨h1, h2⟩ => ⟨none, 0, h1, By.nil_ w', (fun h => by cases h), h2⟩
    · obtain ⟨S, rfl⟩ := Int.eq_ofNat_of_zero_le (show 0 ≤ s by have := roomN_pos (s := s) (by omega); omega)
      have hE := sealE_yes h0 hm (show n ≤ roomN (S : Int) by omega)
      have hfit := room_fits (show n ≤ roomN (S : Int) by omega) (by omega)
      rw [sealL_yes (by rw [hlen]; exact hE), hE, Int.toNat_natCast, frameL_len (by rw [pl_yes hm, tagBytes_len]) (by omega) (by omega)]
      exact (seal_yes a b c d e S A n cp body w hL hb h0 hm (by omega)).mono fun _ w' ⟨A', c', h1, h2, h3, h4⟩ => ⟨A', c', h1, h2, fun _ => h3, h4⟩
theorem seal_any (a b c d e s : Int) (A : Option Addr) (n cp : Nat) (body : List Nat) (w : World) (hL : LaidF w) (hb : By w A n cp body) :
    Calls Tryz.prog 144 #[.agg #[.int .i64 a, .int .i64 b, .int .i64 c, .int .i64 d, .int .i64 e], .slice A n cp, .int .i64 s] w fun r w' => ∃ A' c', r = .returned (.tuple #[.slice A' (sealL a b c d e body s).length c', .int .i64 (sealE a b c d e n s)]) ∧ By w' A' (sealL a b c d e body s).length c' (sealL a b c d e body s) ∧ Ext w w' :=
  (seal_own a b c d e s A n cp body w hL hb).mono fun _ _ ⟨A', c', h1, h2, _, h4⟩ => ⟨A', c', h1, h2, h4⟩
end
section
open Go Go.RowKit Go.ChangeShapes Go.WideShapes Go.Deep
def tab2 {H : Type} (k : IntKind) (rows : List (List Int)) : DataW H := .agg (rows.map fun r => .agg (r.map fun z => .lit (.int k z)))
theorem cells_of_tab2 {H : Type} {enc : TypeId × Value → H} {P : Program} {w : World} {base : Nat} {sp : Nat → Bool} {held : Bool} {fuel : Nat} {t e : TypeId} {n : Nat} {k : IntKind} {fs : Array Field} {cs : List Value} {rows : List (List Int)} {p : List MemPlace}
    (ht : P.underlying t = some (.array n e)) (he : P.underlying e = some (.struct fs)) (hone : oneCellFields P fs = true) (hC : P.cellsOf e = fs.size) (hk : ∀ (j : Nat) (f : Field), fs[j]? = some f → P.underlying f.type = some (.int k))
    (h : DataW.trod enc P w base sp held fuel t cs = some (tab2 k rows, p)) (i : Nat) (r : List Int) (hr : rows[i]? = some r) (j : Nat) (z : Int) (hz : r[j]? = some z) : cs[i * fs.size + j]? = some (.int k z) := by
  obtain ⟨xs, m, _, hx, _, hxl, hxi⟩ := DataW.trod_array ht h
  have hx1 : xs.map (·.1) = rows.map fun r => (.agg (r.map fun z => .lit (.int k z)) : DataW H) := by
    have := congrArg Prod.fst hx
    simp only [tab2, DataW.agg.injEq] at this
    exact this.symm
  have hin : i < n := by
    have h1 : i < rows.length := (List.getElem?_eq_some_iff.1 hr).1
    have h2 := congrArg List.length hx1
    simp at h2
    omega
  have hrow := hxi i hin
  obtain ⟨x, hxe⟩ : ∃ x, xs[i]? = some x := ⟨_, List.getElem?_eq_getElem (by omega)⟩
  have hx2 : x.1 = (.agg (r.map fun z => .lit (.int k z)) : DataW H) := by
    have := congrArg (·[i]?) hx1
    simpa [hxe, hr] using this
  rw [hxe, hC] at hrow
  obtain ⟨ys, m2, _, hy, _, hyl, hyf⟩ := DataW.trod_struct he hrow
  have hy1 : ys.map (·.1) = r.map fun z => (.lit (.int k z) : DataW H) := by
    have := congrArg Prod.fst hy
    rw [hx2] at this
    simp only [DataW.agg.injEq] at this
    exact this.symm
  have hjn : j < fs.size := by
    have h1 : j < r.length := (List.getElem?_eq_some_iff.1 hz).1
    have h2 := congrArg List.length hy1
    simp at h2
    omega
  have hf : fs[j]? = some fs[j] := Array.getElem?_eq_getElem hjn
  obtain ⟨ho, hc1⟩ := hone_of hone j fs[j] hf
  have hfj := hyf j fs[j] hf
  rw [ho, hc1] at hfj
  obtain ⟨y, hye⟩ : ∃ y, ys[j]? = some y := ⟨_, List.getElem?_eq_getElem (by omega)⟩
  rw [hye] at hfj
  obtain ⟨z', hcs, hyz, _⟩ := DataW.trod_int (hk j fs[j] hf) hfj
  have hz' : z' = z := by
    have := congrArg (·[j]?) hy1
    simpa [hye, hyz, hz] using this
  subst hz'
  have := congrArg (·[0]?) hcs
  simp [List.getElem?_drop, hjn] at this
  exact this
theorem tab2_of_head {P : Program} {W : World} {name : String} {k : IntKind} {rows : List (List Int)} {rest : List (String × DataW Unit)} {g : Nat} {t e : TypeId} {n : Nat} {fs : Array Field}
    (hg : P.globalNamed name = some g) (hty : (P.globals[g]?).map (·.type) = some t) (ht : P.underlying t = some (.array n e)) (he : P.underlying e = some (.struct fs)) (hone : oneCellFields P fs = true) (hC : P.cellsOf e = fs.size) (hk : ∀ (j : Nat) (f : Field), fs[j]? = some f → P.underlying f.type = some (.int k))
    (h : laidMet P ((name, tab2 k rows) :: rest) W) (i : Nat) (r : List Int) (hr : rows[i]? = some r) (j : Nat) (z : Int) (hz : r[j]? = some z) : W.cell? ⟨g, i * fs.size + j, none⟩ = some (.int k z) := by
  obtain ⟨ps, ⟨g', t', cs, fuel, p, q, hg', ht', hvar, hd, _, _⟩, _⟩ := h
  obtain rfl := Option.some.inj (hg.symm.trans hg')
  obtain rfl := Option.some.inj (hty.symm.trans ht')
  have hc := cells_of_tab2 ht he hone hC hk hd i r hr j z hz
  exact (World.var?_cell hg hvar (i * fs.size + j)).trans (by simpa using hc)
end
section
open Go Go.ChangeShapes Go.WideShapes Go.ChangeAt Go.WideMaps Go.WideElems Go.RowKit Go.Deep
theorem laid_o {W : World} {rest : List (String × DataW Unit)} (h : laidMet Tryz.prog (("sexton/octet.bounds", Rows.laid_sexton_octet_bounds) :: rest) W) : Laid W := by
  have hg : Tryz.prog.globalNamed "sexton/octet.bounds" = some 4 := by kernel_rfl
  have ht : (Tryz.prog.globals[4]?).map (·.type) = some 359 := by kernel_rfl
  have hv : W.var? Tryz.prog "sexton/octet.bounds" = some (([0, 256, 65536, 0, 4294967296, 0, 281474976710656] : List Int).map fun z => Value.int .i64 z).toArray :=
    Lib.tabIs_of_head hg ht Tryz.underlying359 Tryz.underlying3 (by kernel_rfl) (by kernel_rfl) h
  have hc := fun i => World.var?_cell hg hv i
  exact ⟨hc 0, hc 1, hc 2, hc 3, hc 4, hc 5, hc 6⟩
theorem laid_t {W : World} {rest : List (String × DataW Unit)} (h : laidMet Tryz.prog (("sexton/tag.regions", Rows.laid_sexton_tag_regions) :: rest) W) : LaidT W := by
  have hg : Tryz.prog.globalNamed "sexton/tag.regions" = some 2 := by kernel_rfl
  have ht : (Tryz.prog.globals[2]?).map (·.type) = some 278 := by kernel_rfl
  have hc := tab2_of_head (k := .i64) (rows := [[0, 0], [2, 1], [2, 1], [24, 1], [48, 2], [16, 2]]) hg ht Tryz.underlying278 Tryz.underlying277 (by kernel_rfl) (by kernel_rfl)
    (fun j f hf => by
      match j, hf with
      | 0, hf => injection hf with hf; subst hf; exact Tryz.underlying3
      | 1, hf => injection hf with hf; subst hf; exact Tryz.underlying3
      | (j + 2), hf => simp at hf) h
  have row : ∀ (i : Nat) (a b : Int), ([[0, 0], [2, 1], [2, 1], [24, 1], [48, 2], [16, 2]] : List (List Int))[i]? = some [a, b] → W.cell? ⟨2, i * 2, none⟩ = some (.int .i64 a) ∧ W.cell? ⟨2, i * 2 + 1, none⟩ = some (.int .i64 b) := fun i a b hi => ⟨hc i [a, b] hi 0 a rfl, hc i [a, b] hi 1 b rfl⟩
  intro r hr
  have hj' : r = 0 ∨ r = 1 ∨ r = 2 ∨ r = 3 ∨ r = 4 ∨ r = 5 := by omega
  rcases hj' with rfl | rfl | rfl | rfl | rfl | rfl
  · exact row 0 0 0 rfl
  · exact row 1 2 1 rfl
  · exact row 2 2 1 rfl
  · exact row 3 24 1 rfl
  · exact row 4 48 2 rfl
  · exact row 5 16 2 rfl
theorem laid_w {W : World} {rest : List (String × DataW Unit)} (h : laidMet Tryz.prog (("sexton/tag.widths", Rows.laid_sexton_tag_widths) :: rest) W) : LaidW W := by
  have hg : Tryz.prog.globalNamed "sexton/tag.widths" = some 3 := by kernel_rfl
  have ht : (Tryz.prog.globals[3]?).map (·.type) = some 339 := by kernel_rfl
  have hv : W.var? Tryz.prog "sexton/tag.widths" = some (([1, 1, 1, 6, 6] : List Int).map fun z => Value.int .i64 z).toArray :=
    Lib.tabIs_of_head hg ht Tryz.underlying339 Tryz.underlying3 (by kernel_rfl) (by kernel_rfl) h
  have hc := fun i => World.var?_cell hg hv i
  intro k hk
  have hj' : k = 0 ∨ k = 1 ∨ k = 2 ∨ k = 3 ∨ k = 4 := by omega
  rcases hj' with rfl | rfl | rfl | rfl | rfl
  · exact hc 0
  · exact hc 1
  · exact hc 2
  · exact hc 3
  · exact hc 4
theorem laid_h {W : World} {rest : List (String × DataW Unit)} (h : laidMet Tryz.prog (("sexton/crc.halves", Rows.laid_sexton_crc_halves) :: rest) W) : LaidH W := by
  have hg : Tryz.prog.globalNamed "sexton/crc.halves" = some 5 := by kernel_rfl
  have ht : (Tryz.prog.globals[5]?).map (·.type) = some 365 := by kernel_rfl
  have hv : W.var? Tryz.prog "sexton/crc.halves" = some (([0, 274646895, 549293790, 820201905, 1098587580, 1361435347, 1640403810, 1905808397, 2197175160, 2460548119, 2722870694, 2987750089, 3280807620, 3553878443, 3811616794, 4084100981] : List Int).map fun z => Value.int .u32 z).toArray :=
    Lib.tabIs_of_head hg ht Tryz.underlying365 Tryz.underlying235 (by kernel_rfl) (by kernel_rfl) h
  have hc := fun i => World.var?_cell hg hv i
  intro i hi
  have e : ∀ j, j < 16 → ((([0, 274646895, 549293790, 820201905, 1098587580, 1361435347, 1640403810, 1905808397, 2197175160, 2460548119, 2722870694, 2987750089, 3280807620, 3553878443, 3811616794, 4084100981] : List Int).map fun z => Value.int .u32 z).toArray)[j]? = some (.int .u32 ((stps 4 j : Nat) : Int)) := by
    intro j hj
    have hj' : j = 0 ∨ j = 1 ∨ j = 2 ∨ j = 3 ∨ j = 4 ∨ j = 5 ∨ j = 6 ∨ j = 7 ∨ j = 8 ∨ j = 9 ∨ j = 10 ∨ j = 11 ∨ j = 12 ∨ j = 13 ∨ j = 14 ∨ j = 15 := by omega
    rcases hj' with rfl | rfl | rfl | rfl | rfl | rfl | rfl | rfl | rfl | rfl | rfl | rfl | rfl | rfl | rfl | rfl <;> rfl
  exact (hc i).trans (e i hi)
end
section
open Go
def walkB : Nat → Nat → Nat → Bool
  | 0, _, _ => true
  | m + 1, b, r => walk1 b r && (match stps b r with
    | 0 => false
    | q + 1 => walkB m b (q + 1))
theorem walkB_get {m b r : Nat} (h : walkB m b r = true) (j : Nat) (hj : j < m * b) : stps j r ≠ 1 := by
  induction m generalizing r j with
  | zero => omega
  | succ m ih =>
    simp only [walkB, Bool.and_eq_true] at h
    by_cases hb : j < b
    · exact walk1_get h.1 j hb
    · have h2 := h.2
      have e : stps j r = stps (j - b) (stps b r) := by rw [← stps_add, show b + (j - b) = j by omega]
      rw [e]
      split at h2
      · cases h2
      · rename_i q hq
        rw [hq]
        exact ih h2 (j - b) (by rw [Nat.succ_mul] at hj; omega)
theorem walk_all : walkB 120 100 (stp 1) = true := by decide +kernel
theorem ord_ne {d : Nat} (h0 : 0 < d) (h : d ≤ 12000) : stps d 1 ≠ 1 := by
  have := walkB_get walk_all (d - 1) (by omega)
  rw [show d = 1 + (d - 1) by omega, stps_add]
  exact this
theorem bit_inj {m p q : Nat} (hm : m ≤ 12000) (hp : p < m) (hq : q < m) (h : stps (m - p) 1 = stps (m - q) 1) : p = q := by
  rcases Nat.lt_trichotomy p q with hlt | heq | hlt
  · exfalso
    rw [show m - p = (q - p) + (m - q) by omega, stps_add] at h
    exact ord_ne (show 0 < q - p by omega) (by omega) (stps_inj (stps_lt (by omega)) (by omega) h)
  · exact heq
  · exfalso
    rw [show m - q = (p - q) + (m - p) by omega, stps_add] at h
    exact ord_ne (show 0 < p - q by omega) (by omega) (stps_inj (stps_lt (by omega)) (by omega) h.symm)
def flips : List Nat → List Nat → List Nat
  | l, [] => l
  | l, p :: ps => flips (flipB l p) ps
theorem flips_lt {l : List Nat} (ps : List Nat) (hl : ∀ x ∈ l, x < 256) : ∀ x ∈ flips l ps, x < 256 := by
  induction ps generalizing l with
  | nil => exact hl
  | cons p ps ih => exact ih (flipB_lt p hl)
theorem few_ne {l ps : List Nat} (hl : ∀ x ∈ l, x < 256) (hn : 8 * l.length ≤ 12000) (hps : ps.length ≤ 3) (hp : ∀ p ∈ ps, p < 8 * l.length) (he : crcS l = crcS (flips l ps)) : l = flips l ps := by
  have h1 : (1 : Nat) < 4294967296 := by omega
  match ps, hps, hp, he with
  | [], _, _, _ => rfl
  | [p], _, hp, he =>
    exfalso
    have := crcS_diff hl (flips_lt [p] hl) (flipB_feed _ (hp p (by simp))) he
    have := stps_nz h1 this
    omega
  | [p, q], _, hp, he =>
    have e : feed 4294967295 (flips l [p, q]) = feed 4294967295 l ^^^ (stps (8 * l.length - p) 1 ^^^ stps (8 * l.length - q) 1) := by
      simp only [flips]
      rw [flipB_feed _ (by rw [flipB_length]; exact hp q (by simp)), flipB_feed _ (hp p (by simp)), flipB_length, Nat.xor_assoc]
    have h2 := xor_eq_zero' (crcS_diff hl (flips_lt [p, q] hl) e he)
    have h3 := bit_inj hn (hp p (by simp)) (hp q (by simp)) h2
    subst h3
    simp only [flips]
    rw [flipB_twice]
  | [p, q, r], _, hp, he =>
    exfalso
    have e : feed 4294967295 (flips l [p, q, r]) = feed 4294967295 l ^^^ (stps (8 * l.length - p) 1 ^^^ stps (8 * l.length - q) 1 ^^^ stps (8 * l.length - r) 1) := by
      simp only [flips]
      rw [flipB_feed _ (by rw [flipB_length, flipB_length]; exact hp r (by simp)), flipB_feed _ (by rw [flipB_length]; exact hp q (by simp)), flipB_feed _ (hp p (by simp))]
      simp only [flipB_length]
      ac_rfl
    have h2 := crcS_diff hl (flips_lt [p, q, r] hl) e he
    have h3 := congrArg par h2
    rw [par_xor, par_xor, par_stps h1, par_stps h1, par_stps h1, show par 1 = 1 by decide, show par 0 = 0 by decide] at h3
    omega
end
section
open Go
theorem room_le_of {l : List Nat} (hs : l.length = 64 ∨ l.length = 128) (h : bodyN l ≤ roomN ((l.length / 64 : Nat) : Int)) : bodyN l + 21 ≤ l.length ∧ l.length / 64 * 64 = l.length := by
  rcases hs with h64 | h64
  · rw [h64] at h ⊢
    rw [show roomN ((64 / 64 : Nat) : Int) = 43 from rfl] at h
    omega
  · rw [h64] at h ⊢
    rw [show roomN ((128 / 64 : Nat) : Int) = 88 from rfl] at h
    omega
theorem spoilt {l ps : List Nat} (hg : goodB l = true) (hl : ∀ x ∈ l, x < 256) (hps : ps.length ≤ 3) (hp : ∀ p ∈ ps, p < 8 * l.length) : goodB (flips l ps) = decide (l = flips l ps) := by
  by_cases h : l = flips l ps
  · rw [decide_eq_true h, ← h]
    exact hg
  · rw [decide_eq_false h]
    by_cases hg2 : goodB (flips l ps) = true
    · obtain ⟨hs, _⟩ := good_parts hg
      exact absurd (few_ne hl (by omega) hps hp (good_same hg hg2 hl (flips_lt ps hl))) h
    · simpa using hg2
end
end Go.Proofs.YtgcinagkbdcgiaaGreatDoor
