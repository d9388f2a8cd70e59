/-
  The contract of the document's New.
-/
import Derived.Test.YtldgamgdbneneaaRNew
namespace Go.Proofs.Ytldgamgdbneneaa
open Go Go.RowKit

theorem rnew_no (s : Int) (w : World) (h : s < 1 ∨ 1024 < s) : Calls Try.prog 6 #[.int .i64 s] w fun e w' => ∃ a, e = .returned (.tuple #[.pointer (some a), .bool false]) ∧ Ext w w' := by
  have HX := Lib.hid ((Ext.refl w).alloc (.cells #[.slice none 0 0, .slice none 0 0, .slice none 0 0, .slice none 0 0, .bool false, .bool false, .int .i64 (-1)] 41))
  by_cases h1 : s < 1
  · clear h
    go_enter Try.func6, Try.ntmps6
    go_wp2_with fail
    refine bodyPost_ret (v := .tuple #[.pointer (some ⟨w.heap.size, 0, none⟩), .bool false]) (by simp [results, Try.results6, go_sem]) rfl ?_
    first | exact ⟨_, rfl, HX.out⟩ | exact ⟨rfl, HX.out⟩ | exact ⟨by simp, HX.out⟩
  · have h2 : 1024 < s := h.resolve_left h1
    clear h
    go_enter Try.func6, Try.ntmps6
    go_wp2_with fail
    refine bodyPost_ret (v := .tuple #[.pointer (some ⟨w.heap.size, 0, none⟩), .bool false]) (by simp [results, Try.results6, go_sem]) rfl ?_
    first | exact ⟨_, rfl, HX.out⟩ | exact ⟨rfl, HX.out⟩ | exact ⟨by simp, HX.out⟩

/-- The worlds ahead of an append of 64 new noughts. -/
theorem two_cell (V : World) (o : Obj) (v : Value) (t : TypeId) : ∀ j u, ([v] : List Value)[j]? = some u → ((V.alloc o).alloc (.cells #[v] t)).drew.cell? ((⟨V.heap.size + 1, 0, none⟩ : Addr).add j) = some u := by
  intro j u hu
  show ((V.alloc o).alloc (.cells #[v] t)).cell? _ = _
  rw [Addr.add_lit, Nat.zero_add, show V.heap.size + 1 = (V.alloc o).heap.size by simp, World.cell?_alloc_new]
  exact (List.getElem?_toArray ..).trans hu
theorem one_cell (V : World) (v : Value) (t : TypeId) : ∀ j u, ([v] : List Value)[j]? = some u → (V.alloc (.cells #[v] t)).cell? ((⟨V.heap.size, 0, none⟩ : Addr).add j) = some u := by
  intro j u hu
  rw [Addr.add_lit, Nat.zero_add, World.cell?_alloc_new]
  exact (List.getElem?_toArray ..).trans hu
theorem oneSl (a c : Nat) : ∀ u ∈ ([.slice (some ⟨a, 0, none⟩) 64 c] : List Value), u.oneCell' = true := by
  intro u hu
  rw [List.mem_singleton.1 hu]
  rfl
theorem oneBo (b : Bool) : ∀ u ∈ ([.bool b] : List Value), u.oneCell' = true := by
  intro u hu
  rw [List.mem_singleton.1 hu]
  rfl
section
variable {w wr w4 : World} {d : Nat} {p : Nat → Nat} {vr vm vl : Value} {RB MB : List (Nat × Nat)} {a b c : Nat}
/-- The noughts are there, with their part. -/
theorem NewAt.zero (h : NewAt w wr d p vr vm vl RB MB a b c) (r : Nat) (v : Value) (t : TypeId) : NewAt w ((wr.alloc z64row).alloc (.cells #[v] t)).drew d (part p wr.heap.size r) vr vm vl RB MB a b c ∧ Byt ((wr.alloc z64row).alloc (.cells #[v] t)).drew (wr.heap.size, 64) z64 := by
  have e : Ext wr ((wr.alloc z64row).alloc (.cells #[v] t)).drew := (((Ext.refl wr).alloc _).alloc _).drew
  refine ⟨h.recast (part_old (Nat.le_refl _)) (fun k hk => ?_) e, (zbyt wr).mod (F := fun _ => False) (Mod.of_ext (((Ext.refl _).alloc _).drew)) fun h => h⟩
  rcases part_nz hk with rfl | hk
  · exact .inr ⟨Nat.le_refl _, by show wr.heap.size < ((wr.alloc z64row).alloc (.cells #[v] t)).heap.size; simp; omega⟩
  · exact .inl hk
theorem NewAt.cellsAt (h : NewAt w wr d p vr vm vl RB MB a b c) {w2 : World} (k : Ext wr w2) : w2.cell? ⟨d, 0, none⟩ = some vr ∧ w2.cell? ⟨d, 1, none⟩ = some vm ∧ w2.cell? ⟨d, 2, none⟩ = some vl := by
  have h2 := (h.ext_ k).hd
  exact ⟨cell_of_row w2 d 0 _ _ _ h2, cell_of_row w2 d 1 _ _ _ h2, cell_of_row w2 d 2 _ _ _ h2⟩
theorem NewAt.afterG (h : NewAt w wr d p vr vm vl RB MB a b c) {v0 : Value} {r : Nat} (h0 : ∀ k, v0.ownBlock = some k → p k = r) (hr : 2 ≤ r) (hg : wr.grownBy w4 v0.ownBlock) : (w4.cell? ⟨d, 0, none⟩ = some vr ∧ w4.cell? ⟨d, 1, none⟩ = some vm ∧ w4.cell? ⟨d, 2, none⟩ = some vl) ∧ (∀ i, w4.frozen? ⟨d, i, none⟩ = false) ∧ d < w4.heap.size := by
  have hdp : ¬ v0.ownBlock = some d := fun e => by have := h0 d e; have := h.pd; omega
  have h2 := (hg.block d h.dlt (fun e => hdp e.symm)).trans h.hd
  exact ⟨⟨cell_of_row w4 d 0 _ _ _ h2, cell_of_row w4 d 1 _ _ _ h2, cell_of_row w4 d 2 _ _ _ h2⟩, fun i => frozen_of_row w4 d i _ _ h2, Nat.lt_of_lt_of_le h.dlt hg.size⟩
end
set_option maxRecDepth 100000 in
set_option maxHeartbeats 25600000 in
theorem rnew_yes (n : Nat) (w : World) (h1 : 1 ≤ n) (h2 : n ≤ 1024) : Calls Try.prog 6 #[.int .i64 (n : Int)] w fun e w' => ∃ d p, e = .returned (.tuple #[.pointer (some ⟨d, 0, none⟩), .bool true]) ∧ RD w' d p (DM.new n) ∧ (∀ k, p k ≠ 0 → w.heap.size ≤ k) ∧ Ext w w' := by
  have hst : NewAt w (w.alloc (.cells #[.slice none 0 0, .slice none 0 0, .slice none 0 0, .slice none 0 0, .bool false, .bool false, .int .i64 (-1)] 41)) w.heap.size (part (fun _ => 0) w.heap.size 1) (.slice none 0 0) (.slice none 0 0) (.slice none 0 0) [] [] 0 0 0 :=
    ⟨heap_alloc_new w _, World.ownsRow_nil _ _ _ _, World.ownsRow_nil _ _ _ _, World.ownsRow_nil _ _ _ _, fun j x hx => (by simp at hx), fun j x hx => (by simp at hx), part_at _ _ _, fun k hk => (by cases hk), fun k hk => (by cases hk), fun k hk => (by cases hk), fun k hk => by
      rcases part_nz hk with rfl | hk
      · exact ⟨Nat.le_refl _, by simp⟩
      · exact absurd rfl hk, (Ext.refl w).alloc _⟩
  have HST := Lib.hid hst
  have hmk := mk64
  clear hst
  go_enter Try.func6, Try.ntmps6
  go_wp2_with fail
  generalize hd0 : w.heap.size = d at *
  have HD0 := Lib.hid hd0
  clear hd0
  go_loopw [5] (fun i wr => ∃ (k : Nat) (p : Nat → Nat) (vr vm vl : Value) (RB MB : List (Nat × Nat)), k ≤ n ∧ i = .int .i64 k ∧ Hid (NewAt w wr d p vr vm vl RB MB k k k)) (fun i _ => n - (intOf i).toNat)
  case atStart => exact ⟨0, _, _, _, _, _, _, Nat.zero_le _, rfl, HST⟩
  case round =>
    obtain ⟨k, p, vr, vm, vl, RB, MB, hk, rfl, HN⟩ := hrel
    by_cases hlt : k < n
    · have hz := (HN.out).zero (7 + k) (.slice (some ⟨wr.heap.size, 0, none⟩) 64 64) 33
      have HZ := Lib.hid hz
      have c0 := (HN.out.cellsAt (Ext.refl wr).drew).1
      have c1 := (HN.out.cellsAt (((Ext.refl wr).alloc z64row).drew)).1
      have c2 := (HN.out.cellsAt ((((Ext.refl wr).alloc z64row).alloc (.cells #[.slice (some ⟨wr.heap.size, 0, none⟩) 64 64] 33)).drew)).1
      have HNEWS := Lib.hid (two_cell wr z64row (.slice (some ⟨wr.heap.size, 0, none⟩) 64 64) 33)
      have HONE := Lib.hid (oneSl wr.heap.size 64)
      clear hz
      go_wp2_with fail
      go_region_law (first
        | (refine step_append_lies _ rfl _ _ 38 rfl 0 33 (Classical.choose (info_parts sl_info)) (.slice none 0 0) 1 24 Try.underlying38 (Classical.choose_spec (info_parts sl_info)).1 (Classical.choose_spec (info_parts sl_info)).2.1 (Classical.choose_spec (info_parts sl_info)).2.2.1 (Classical.choose_spec (info_parts sl_info)).2.2.2 rfl (by decide) vr k (RB.map slV) rfl HZ.out.1.rr ⟨wr.heap.size + 1, 0, none⟩ 1 1 [.slice (some ⟨wr.heap.size, 0, none⟩) 64 64] rfl rfl HNEWS.out HONE.out (by omega) (by unfold maxLen; omega) (by omega) (Nat.zero_le _) (wr.heap.size + 1 + 1) (by simp) ?_; intro bk cap w4 hown hgrow hat hlt4; have HG4 := Lib.hid hgrow; have HO4 := Lib.hid hown; have HT4 := Lib.hid hat; have HL4 := Lib.hid hlt4; obtain ⟨⟨g0, _, _⟩, gf, gl⟩ := HZ.out.1.afterG HZ.out.1.pr (by omega) hgrow; have gf0 := gf 0; clear hown hgrow hat))
      all_goals
        have hs2 : ((wr.alloc z64row).alloc (.cells #[.slice (some ⟨wr.heap.size, 0, none⟩) 64 64] 33)).drew.heap.size = wr.heap.size + 1 + 1 := by show ((wr.alloc z64row).alloc _).heap.size = _; simp
        have hN1 := HZ.out.1.stepR HZ.out.2 (part_at _ _ _) HO4.out HG4.out (HT4.out.imp id fun e => by rw [hs2]; exact e) HL4.out
        obtain ⟨X1, hX1⟩ : ∃ X, w4.setCell ⟨d, 0, none⟩ (.slice (some ⟨bk, 0, none⟩) (k + 1) cap) = X := ⟨_, rfl⟩
        rw [hX1] at hN1
        rw [hX1]
        obtain ⟨p1, vr1, RB1, HN1⟩ : ∃ p1 v R, Hid (NewAt w X1 d p1 v vm vl R MB (k + 1) k k) := ⟨_, _, _, Lib.hid hN1⟩
        have hz := (HN1.out).zero 6 (.slice (some ⟨X1.heap.size, 0, none⟩) 64 64) 33
        have HZ1 := Lib.hid hz
        have c0 := (HN1.out.cellsAt (Ext.refl X1).drew).2.1
        have c1 := (HN1.out.cellsAt (((Ext.refl X1).alloc z64row).drew)).2.1
        have c2 := (HN1.out.cellsAt ((((Ext.refl X1).alloc z64row).alloc (.cells #[.slice (some ⟨X1.heap.size, 0, none⟩) 64 64] 33)).drew)).2.1
        have HNEWS := Lib.hid (two_cell X1 z64row (.slice (some ⟨X1.heap.size, 0, none⟩) 64 64) 33)
        have HONE := Lib.hid (oneSl X1.heap.size 64)
        clear hz hN1 hX1 hs2 g0 gf gf0 gl HG4 HO4 HT4 HL4 hlt4 HZ HN
        go_wp2_with fail
        go_region_law (first
          | (refine step_append_lies _ rfl _ _ 38 rfl 0 33 (Classical.choose (info_parts sl_info)) (.slice none 0 0) 1 24 Try.underlying38 (Classical.choose_spec (info_parts sl_info)).1 (Classical.choose_spec (info_parts sl_info)).2.1 (Classical.choose_spec (info_parts sl_info)).2.2.1 (Classical.choose_spec (info_parts sl_info)).2.2.2 rfl (by decide) vm k (MB.map slV) rfl HZ1.out.1.rm ⟨X1.heap.size + 1, 0, none⟩ 1 1 [.slice (some ⟨X1.heap.size, 0, none⟩) 64 64] rfl rfl HNEWS.out HONE.out (by omega) (by unfold maxLen; omega) (by omega) (Nat.zero_le _) (X1.heap.size + 1 + 1) (by simp) ?_; intro bk2 cap2 w5 hown hgrow hat hlt5; have HG5 := Lib.hid hgrow; have HO5 := Lib.hid hown; have HT5 := Lib.hid hat; have HL5 := Lib.hid hlt5; obtain ⟨⟨_, g1, _⟩, gf, gl⟩ := HZ1.out.1.afterG HZ1.out.1.pm (by omega) hgrow; have gf0 := gf 1; clear hown hgrow hat))
        all_goals
          have hs2 : ((X1.alloc z64row).alloc (.cells #[.slice (some ⟨X1.heap.size, 0, none⟩) 64 64] 33)).drew.heap.size = X1.heap.size + 1 + 1 := by show ((X1.alloc z64row).alloc _).heap.size = _; simp
          have hN2 := HZ1.out.1.stepM HZ1.out.2 (part_at _ _ _) HO5.out HG5.out (HT5.out.imp id fun e => by rw [hs2]; exact e) HL5.out
          obtain ⟨X2, hX2⟩ : ∃ X, w5.setCell ⟨d, 1, none⟩ (.slice (some ⟨bk2, 0, none⟩) (k + 1) cap2) = X := ⟨_, rfl⟩
          rw [hX2] at hN2
          rw [hX2]
          obtain ⟨p2, vm2, MB2, HN2⟩ : ∃ p2 v R, Hid (NewAt w X2 d p2 vr1 v vl RB1 R (k + 1) (k + 1) k) := ⟨_, _, _, Lib.hid hN2⟩
          have c0 := (HN2.out.cellsAt (Ext.refl X2)).2.2
          have c1 := (HN2.out.cellsAt ((Ext.refl X2).alloc (.cells #[.bool false] 4))).2.2
          have HN3 := Lib.hid (HN2.out.ext_ ((Ext.refl X2).alloc (.cells #[.bool false] 4)))
          obtain ⟨bi, bh, bz0, bz1, bz2⟩ := info_parts bo_info
          have HNEWS := Lib.hid (one_cell X2 (.bool false) 4)
          have HONE := Lib.hid (oneBo false)
          clear hN2 hX2 hs2 g1 gf gf0 gl HG5 HO5 HT5 HL5 hlt5 HZ1 HN1
          go_wp2_with (at_builtin; refine wpList_append_lies _ rfl _ _ 34 rfl 0 4 bi (.bool false) 1 1 Try.underlying34 bh bz0 bz1 bz2 rfl (by decide) vl k (List.replicate k (.bool false)) rfl HN3.out.rl ⟨X2.heap.size, 0, none⟩ 1 1 [.bool false] rfl rfl HNEWS.out HONE.out (by omega) (by unfold maxLen; omega) (by omega) (Nat.zero_le _) (X2.heap.size + 1) (by simp) ?_; intro bk3 cap3 w6 hown hgrow hat hlt6; have HG6 := Lib.hid hgrow; have HO6 := Lib.hid hown; have HT6 := Lib.hid hat; have HL6 := Lib.hid hlt6; obtain ⟨⟨_, _, g2⟩, gf, gl⟩ := HN3.out.afterG HN3.out.pl (by omega) hgrow; have gf0 := gf 2; clear hown hgrow hat)
          all_goals
            have hs2 : (X2.alloc (.cells #[.bool false] 4)).heap.size = X2.heap.size + 1 := by simp
            have hN4 := HN3.out.stepL HO6.out HG6.out (HT6.out.imp id fun e => by rw [hs2]; exact e) HL6.out
            have HN4 := Lib.hid hN4
            clear hN4 hs2 g2 gf gf0 gl HG6 HO6 HT6 HL6 hlt6 HN3 HN2 c0 c1 c2
            go_wp2_with fail
            go_roundw
            case rel => exact ⟨k + 1, _, _, _, _, _, _, by omega, by go_num, HN4⟩
            case measure => simp [intOf]; omega
    · obtain rfl : k = n := by omega
      have HDN := Lib.hid (HN.out.done h1 h2)
      go_wp2_with fail
      refine bodyPost_ret (v := .tuple #[.pointer (some ⟨d, 0, none⟩), .bool true]) (by simp [results, Try.results6, go_sem]) rfl ?_
      exact ⟨_, _, rfl, HDN.out, fun i hi => by have := (HN.out.lt i hi).1; have := HD0.out; omega, HN.out.ext⟩
end Go.Proofs.Ytldgamgdbneneaa
