/-
  The contracts of the disk's Rest and Meant.
-/
import Derived.Test.YtldgamgdbneneaaKRow
namespace Go.Proofs.Ytldgamgdbneneaa
set_option maxRecDepth 100000
open Go Go.RowKit

theorem known_one (m : DM) (s : Int) : knownE m.size [s] = if m.has s = false then 2 else 0 := by
  unfold knownE DM.has
  by_cases h : 0 ≤ s ∧ s < (m.size : Int)
  · rw [if_pos (by simpa using h)]; simp [h]
  · rw [if_neg (by simpa using h)]
    rw [if_pos]
    simp only [Bool.and_eq_false_iff, decide_eq_false_iff_not]
    omega
/-- One number, in a slice of its own. -/
theorem ZsAt.one (w : World) (s : Int) (t : TypeId) : ZsAt (w.alloc (.cells #[.int .i64 s] t)) (some ⟨w.heap.size, 0, none⟩) 1 [s] := by
  refine ⟨rfl, by omega, fun _ => ⟨_, rfl, fun j z hz => ?_⟩⟩
  rw [World.cell?_alloc_new]
  have hj : j < 1 := (List.getElem?_eq_some_iff.1 hz).1
  obtain rfl : j = 0 := by omega
  simp at hz
  subst hz
  rfl
theorem PD.ext {w w' : World} {d g : Nat} {pv : Value} {m : DM} (h : PD w d g pv m) (k : Ext w w') : PD w' d g pv m := h.mod (F := fun _ => False) (Mod.of_ext k) fun _ _ h => h
theorem sec_lost {m : DM} (h : m.Ok) {s : Nat} (hs : s < m.size) : (m.sec s)[128]? = some (.bool (m.lost.getD s false)) := by
  have h1 := (h.rest_at hs).1
  have h2 := (h.meant_at hs).1
  show (vb (m.rest.getD s []) ++ (vb (m.meant.getD s []) ++ [Value.bool (m.lost.getD s false)]))[128]? = _
  rw [List.getElem?_append_right (by rw [vb_length]; omega), List.getElem?_append_right (by rw [vb_length, vb_length]; omega), vb_length, vb_length, h1, h2]
  rfl
theorem sec_cut (m : DM) (s : Nat) : m.sec s = vb (m.rest.getD s []) ++ (vb (m.meant.getD s []) ++ [.bool (m.lost.getD s false)]) := rfl

set_option maxRecDepth 100000 in
set_option maxHeartbeats 1600000 in
theorem rest_of {w : World} {d g : Nat} {pv : Value} {m : DM} (h : PD w d g pv m) (s : Int) :
    Calls Try.prog 34 #[.pointer (some ⟨d, 0, none⟩), .int .i64 s] w fun e w' => ∃ A n, e = .returned (.tuple #[.slice A n n, .bool (m.at_ s).2.1, .int .i64 (m.at_ s).2.2]) ∧ New w.heap.size w' A n (m.at_ s).1 ∧ Ext w w' := by
  have hx := (Ext.refl w).alloc (.cells #[.int .i64 s] 3)
  have h1 := h.ext hx
  have hz := ZsAt.one w s 3
  have hk := known_of h1 _ 1 1 [s] hz
  rw [known_one] at hk
  have HK := Lib.hid hk
  have HX := Lib.hid hx
  have H1 := Lib.hid h1
  have HP : Hid (m.at_ s = if m.has s = false then ([], false, 2) else if m.lost.getD s.toNat false = true then ([], true, 0) else (m.rest.getD s.toNat [], false, 0)) := Lib.hid rfl
  clear h h1 hx hz hk
  by_cases hh : m.has s = false
  · have HP : Hid (m.at_ s = ([], false, 2)) := Lib.hid (by rw [HP.out, if_pos hh])
    have hk := HK.out
    rw [if_pos hh] at hk
    have HK := Lib.hid hk
    clear hk hh
    go_enter Try.func34, Try.ntmps34
    go_wp2_with fail
    refine HK.out.mono ?_
    rintro e w1 ⟨rfl, rfl⟩
    go_wp2_with fail
    go_ret3
    exact ⟨none, 0, by rw [HP.out]; rfl, by rw [HP.out]; exact New.none_ _ _, HX.out⟩
  · have hk := HK.out
    rw [if_neg hh] at hk
    have HK := Lib.hid hk
    have hhas : m.has s = true := by simpa using hh
    obtain ⟨hs0, hs1⟩ := DM.has_iff.1 hhas
    obtain ⟨k, rfl⟩ := Int.eq_ofNat_of_zero_le hs0
    have hks : k < m.size := by omega
    rw [Int.toNat_natCast] at HP
    have HP : Hid (m.at_ (k : Int) = if m.lost.getD k false = true then ([], true, 0) else (m.rest.getD k [], false, 0)) := Lib.hid (by rw [HP.out, if_neg hh])
    clear hk hh hhas
    go_enter Try.func34, Try.ntmps34
    go_wp2_with fail
    refine HK.out.mono ?_
    rintro e w1 ⟨rfl, rfl⟩
    obtain ⟨⟨c0, c1, c2, c3, c4⟩, f0, f1, f2, f3, f4⟩ := H1.out.cells
    have hr := H1.out.med.range hks
    have hlen := H1.out.ok.sec_len hks
    have hzv := zv_med
    generalize w.alloc (.cells #[.int .i64 (k : Int)] 3) = w1 at *
    have HR := Lib.hid hr
    have HLN := Lib.hid hlen
    have HONE : Hid (∀ u ∈ m.sec k, u.oneCell' = true) := Lib.hid (secC_one _ _ _)
    have HSR := Lib.hid (H1.out.ok.rest_at hks)
    clear hr hlen f0 f1 f2 f3 f4
    have h128 := sec_lost H1.out.ok hks
    have HRN : Hid ((w1.alloc (.cells (m.sec k).toArray 76)).rangeAt w1.heap.size 0 (vb (m.rest.getD k []))) := Lib.hid (range_new w1 _ _ [] _ _ (sec_cut m k) 0 rfl)
    by_cases hlost : m.lost.getD k false = true
    · rw [hlost] at h128
      have HP : Hid (m.at_ (k : Int) = ([], true, 0)) := Lib.hid (by rw [HP.out, if_pos hlost])
      clear hlost
      go_wp2_with (first
        | (refine wl_med rfl _ rfl g (k * 129) rfl (m.sec k) HR.out HLN.out ?_)
        | (refine ws_med rfl _ _ rfl (m.sec k) rfl rfl HLN.out HONE.out ?_))
      go_ret3
      exact ⟨none, 0, by rw [HP.out]; rfl, by rw [HP.out]; exact New.none_ _ _, HX.out.alloc _⟩
    · have hl : m.lost.getD k false = false := by simpa using hlost
      rw [hl] at h128
      have HP : Hid (m.at_ (k : Int) = (m.rest.getD k [], false, 0)) := Lib.hid (by rw [HP.out, if_neg hlost])
      clear hlost hl
      go_wp2_with (first
        | (refine wl_med rfl _ rfl g (k * 129) rfl (m.sec k) HR.out HLN.out ?_)
        | (refine ws_med rfl _ _ rfl (m.sec k) rfl rfl HLN.out HONE.out ?_)
        | (refine wl_con rfl _ rfl w1.heap.size 0 rfl _ HRN.out (by rw [vb_length]; exact HSR.out.1) ?_))
      refine (told_of _ _).mono ?_
      rintro e w2 ⟨rfl, rfl⟩
      go_wp2_with fail
      go_ret3
      exact ⟨_, 64, by rw [HP.out]; rfl, by rw [HP.out]; exact New.alloc2 _ _ _ _ HSR.out HX.out.size, (HX.out.alloc _).alloc _⟩

theorem PD.means_eq {m : DM} (s : Int) : m.means s = if m.has s = false then ([], 2) else (m.meant.getD s.toNat [], 0) := rfl
set_option maxRecDepth 100000 in
set_option maxHeartbeats 1600000 in
theorem meant_of {w : World} {d g : Nat} {pv : Value} {m : DM} (h : PD w d g pv m) (s : Int) :
    Calls Try.prog 36 #[.pointer (some ⟨d, 0, none⟩), .int .i64 s] w fun e w' => ∃ A n, e = .returned (.tuple #[.slice A n n, .int .i64 (m.means s).2]) ∧ New w.heap.size w' A n (m.means s).1 ∧ Ext w w' := by
  have hx := (Ext.refl w).alloc (.cells #[.int .i64 s] 3)
  have h1 := h.ext hx
  have hz := ZsAt.one w s 3
  have hk := known_of h1 _ 1 1 [s] hz
  rw [known_one] at hk
  have HK := Lib.hid hk
  have HX := Lib.hid hx
  have H1 := Lib.hid h1
  have HP : Hid (m.means s = if m.has s = false then ([], 2) else (m.meant.getD s.toNat [], 0)) := Lib.hid rfl
  clear h h1 hx hz hk
  by_cases hh : m.has s = false
  · have HP : Hid (m.means s = ([], 2)) := Lib.hid (by rw [HP.out, if_pos hh])
    have hk := HK.out
    rw [if_pos hh] at hk
    have HK := Lib.hid hk
    clear hk hh
    go_enter Try.func36, Try.ntmps36
    go_wp2_with fail
    refine HK.out.mono ?_
    rintro e w1 ⟨rfl, rfl⟩
    go_wp2_with fail
    go_ret2
    exact ⟨none, 0, by rw [HP.out]; rfl, by rw [HP.out]; exact New.none_ _ _, HX.out⟩
  · have hk := HK.out
    rw [if_neg hh] at hk
    have HK := Lib.hid hk
    have hhas : m.has s = true := by simpa using hh
    obtain ⟨hs0, hs1⟩ := DM.has_iff.1 hhas
    obtain ⟨k, rfl⟩ := Int.eq_ofNat_of_zero_le hs0
    have hks : k < m.size := by omega
    rw [Int.toNat_natCast] at HP
    have HP : Hid (m.means (k : Int) = (m.meant.getD k [], 0)) := Lib.hid (by rw [HP.out, if_neg hh])
    clear hk hh hhas
    go_enter Try.func36, Try.ntmps36
    go_wp2_with fail
    refine HK.out.mono ?_
    rintro e w1 ⟨rfl, rfl⟩
    obtain ⟨⟨c0, c1, c2, c3, c4⟩, f0, f1, f2, f3, f4⟩ := H1.out.cells
    have hr := H1.out.med.range hks
    have hm : (w.alloc (.cells #[.int .i64 (k : Int)] 3)).rangeAt g (k * 129 + 64) (vb (m.meant.getD k [])) := fun j v hv => by
      have hj : j < (vb (m.meant.getD k [])).length := (List.getElem?_eq_some_iff.1 hv).1
      have h64 := (H1.out.ok.rest_at hks).1
      rw [Nat.add_assoc]
      refine hr (64 + j) v ?_
      rw [sec_cut, List.getElem?_append_right (by rw [vb_length]; omega), vb_length, h64, Nat.add_sub_cancel_left, List.getElem?_append_left hj]
      exact hv
    generalize w.alloc (.cells #[.int .i64 (k : Int)] 3) = w1 at *
    have HR := Lib.hid hm
    have HSR := Lib.hid (H1.out.ok.meant_at hks)
    clear hr hm f0 f1 f2 f3 f4
    go_wp2_with (first
      | (refine wl_con rfl _ rfl g (k * 129 + 64) rfl _ HR.out (by rw [vb_length]; exact HSR.out.1) ?_))
    refine (told_of _ _).mono ?_
    rintro e w2 ⟨rfl, rfl⟩
    go_wp2_with fail
    go_ret2
    exact ⟨_, 64, by rw [HP.out]; rfl, by rw [HP.out]; exact New.alloc _ _ _ HSR.out (by have := HX.out.size; omega), HX.out.alloc _⟩
end Go.Proofs.Ytldgamgdbneneaa
