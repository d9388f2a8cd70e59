/-
  The contract of the document's own Text.
-/
import Derived.Test.YtoapjgkfggggmaaDoorBy
import Derived.Test.YtoapjgkfggggmaaDoorApp
namespace Go.Proofs.YtoapjgkfggggmaaDoor
set_option maxRecDepth 100000
open Go Go.RowKit

theorem bl_step (s : ByteArray) (k : Nat) (h : k < s.size) : (bl s).take (k + 1) = (bl s).take k ++ [s[k].toNat] := by
  have e : (bl s)[k]? = some s[k].toNat := by
    unfold bl
    rw [List.getElem?_map, Array.getElem?_toList, Array.getElem?_eq_getElem h]
    rfl
  rw [List.take_add_one, e]
  rfl

theorem rtext_step {w wr w1 : World} {s : ByteArray} {k : Nat} {v v1 : Value} (hk : k < s.size) (hown : wr.ownsRow w.heap.size 5 1 v (k + 1) (vb (s.size :: (bl s).take k))) (hbel : Ext w wr)
    (hown1 : w1.ownsRow w.heap.size 5 1 v1 (k + 1 + 1) (vb (s.size :: (bl s).take k) ++ [.int .u8 (s[k].toNat : Int)])) (hg : (wr.alloc (.cells #[.int .u8 (s[k].toNat : Int)] 5)).grownBy w1 v.ownBlock) :
    w1.ownsRow w.heap.size 5 1 v1 (k + 1 + 1) (vb (s.size :: (bl s).take (k + 1))) ∧ Ext w w1 := by
  refine ⟨?_, ?_⟩
  · rw [bl_step s k hk]
    have e : vb (s.size :: ((bl s).take k ++ [s[k].toNat])) = vb (s.size :: (bl s).take k) ++ [.int .u8 (s[k].toNat : Int)] := by simp [vb]
    rw [e]
    exact hown1
  · refine Below.grown (Ext.alloc hbel _) hg (Nat.le_trans (Ext.size hbel) (by simp)) ?_
    intro g hg'
    exact (hown.lt g hg').1

set_option maxHeartbeats 1000000 in
theorem rtext_yes (s : ByteArray) (w : World) (hs : s.size ≤ 255) :
    Calls Tryd.prog 29 #[.string s] w fun e w' => ∃ A' c', e = .returned (.tuple #[.slice A' (s.size + 1) c', .int .i64 0]) ∧ By w' A' (s.size + 1) c' (s.size :: bl s) ∧ Ext w w' := by
  obtain ⟨i0, hi, hz0, hz1, hz2⟩ := info_parts byte_info
  go_enter Tryd.func29, Tryd.ntmps29
  go_wp2_with fail
  go_loopw [4, 5] (fun v i wr => ∃ k : Nat, k ≤ s.size ∧ i = .int .i64 k ∧ Hid (wr.ownsRow w.heap.size 5 1 v (k + 1) (vb (s.size :: (bl s).take k))) ∧ Hid (Ext w wr)) (fun _ i _ => s.size - (intOf i).toNat)
  case atStart =>
    refine ⟨0, Nat.zero_le _, rfl, Lib.hid ?_, Lib.hid ((Ext.refl w).alloc _)⟩
    have h := World.ownsRow_lit (base := w.heap.size) (e := 5) (size := 1) w #[Value.int .u8 (s.size : Int)] 1 (Nat.le_refl _) (by unfold maxLen; omega) rfl
    simpa [vb] using h
  case round =>
    obtain ⟨k, hk, rfl, HO, HX⟩ := hrel
    have hsz := HX.out.size
    by_cases hlt : k < s.size
    · have hby := (s[k]).toNat_lt
      go_wp2_with (at_builtin; refine wpList_append_own _ rfl _ _ 29 rfl w.heap.size 5 i0 (.int .u8 0) 1 1 Tryd.underlying29 hi hz0 hz1 hz2 rfl (by decide) _ _ _ rfl (HO.out.alloc _) ⟨wr.heap.size, 0, none⟩ 1 1 [.int .u8 (s[k].toNat : Int)] rfl rfl ?c1 ?c2 ?c3 ?c4 ?c5 ?_)
      case c1 =>
        intro j u hj
        match j, hj with
        | 0, hj => simp at hj; subst hj; simp [Addr.add]
      case c2 => intro u hu; simp at hu; subst hu; rfl
      case c3 => unfold maxLen; omega
      case c4 => omega
      case c5 => simp; omega
      intro v1 w1 hown hg _
      have R := rtext_step hlt HO.out HX.out hown hg
      have HO1 := Lib.hid R.1
      have HX1 := Lib.hid R.2
      clear hown hg R
      go_wp2_with fail
      go_roundw
      case rel => exact ⟨k + 1, by omega, by go_num, HO1, HX1⟩
      case measure => simp [intOf]; omega
    · have e0 : (bl s).take k = bl s := List.take_of_length_le (by rw [bl_length]; omega)
      have HK : Hid (k = s.size) := Lib.hid (by omega)
      have h1 := HO.out
      rw [e0, HK.out] at h1
      obtain ⟨A', c', hv, _, _⟩ := own_form h1
      subst hv
      have HO3 := Lib.hid h1
      clear h1 e0
      go_wp2_with fail
      go_ret2
      exact ⟨A', c', rfl, Bs.of_own HO3.out (by
        intro b hb
        simp only [List.mem_cons] at hb
        rcases hb with rfl | hb
        · omega
        · exact bl_lt s b hb), HX.out⟩

theorem rtext_no (s : ByteArray) (w : World) (hs : 255 < s.size) (hm : s.size ≤ 9223372036854775807) :
    Calls Tryd.prog 29 #[.string s] w fun e w' => e = .returned (.tuple #[.slice none 0 0, .int .i64 3]) ∧ Ext w w' := by
  go_enter Tryd.func29, Tryd.ntmps29
  go_wp2_with fail
  go_ret2
  exact ⟨rfl, Ext.refl _⟩
end Go.Proofs.YtoapjgkfggggmaaDoor
